/- What is proved here: the reference's Must, Not and Card of any domain. the reference's Card and Both of any domains. What is proved here: the cuts of the program and of the reference leave the same domains (mathematics only). slices.Equal and the reference's Same of any two slices of numbers. the reference's One of two domains in memory of their own. -/
import Derived.Test.YtghnfnieppfhgaaGreatYTa
import Derived.Test.YtghnfnieppfhgaaGreatYSfj
import Derived.Test.YtghnfnieppfhgaaGreatYSdj
import Derived.Test.YtghnfnieppfhgaaGreatYSa
import Derived.Lib.ItoaLen
import Derived.Lib.ParseIntBTie
import Derived.Lib.SplitLaws
import Derived.Lib.SlTrimSet
import Derived.Lib.AppendStr
import Derived.Lib.AppendIntMem
import Derived.Lib.SmallJoins
import Derived.Laws.IdiomStrings
import Derived.Shelf.Strconv.Itoa4
import Derived.Laws.Concat
import Derived.Laws.Strings
import Derived.Maps.AppendAt
import Derived.Sort.Row
set_option linter.unusedVariables false
set_option linter.unusedSimpArgs false
set_option maxRecDepth 100000
set_option maxHeartbeats 4000000
namespace Go.Proofs.YtghnfnieppfhgaaGreat.St
open Go.RowKit Go.Shelf
theorem rtaken_right (d:SD):RightD (rtakenD d):=by
 unfold rtakenD
 cases h:emptyD d
 ·simp only [Bool.false_eq_true,if_false]
  unfold emptyD at h
  simp only [Bool.or_eq_false_iff,Bool.not_eq_false'] at h
  exact of_decide_eq_true h.1
 ·exact none_right
theorem refin_below (v:Int) (s:Value) (l:List Int) (W:World) (h:Si W s l):Calls Tryz.prog 106 #[.int .i64 v,s] W fun e w'=>e = .returned (.bool ((tkS l).contains v))∧Below W.heap.size W w' :=
 (refin_any v s l W h).mono fun e w' ⟨he,n,hw⟩=>⟨he,by rw [hw];exact below_drewN (Below.refl _ _) _⟩
theorem di_si {W:World} {x0:Bool} {ra a1 a2:Option Addr} {rn rc n1 c1 n2 c2:Nat} {x4 x5:Int} {d:SD} (h:Di W (.agg #[.bool x0,.slice ra rn rc,.slice a1 n1 c1,.slice a2 n2 c2,.int .i64 x4,.int .i64 x5]) d) :
  Si W (.slice a1 n1 c1) d.lo∧Si W (.slice a2 n2 c2) d.up∧d.least=x4∧d.most=x5:=by
 obtain ⟨ra',rc',slo,sup,e,o1,o2⟩:=h
 injection e with e
 injection e with e
 injection e with _ e
 injection e with _ e
 injection e with e2 e
 injection e with e3 e
 injection e with e4 e
 injection e with e5 e
 injection e4 with _ e4
 injection e5 with _ e5
 subst e2 e3 e4 e5
 exact ⟨o1,o2,rfl,rfl⟩
theorem rtaken_look (v:Value) (d:SD) (Wb W:World) (hd0:Di Wb v d) (hbW:Below Wb.heap.size Wb W) :
  Calls Tryz.prog 84 #[v] W fun e w'=>∃ x0 ra rn rc a1 n1 c1 a2 n2 c2 x4 x5,e = .returned (.agg #[.bool x0,.slice ra rn rc,.slice a1 n1 c1,.slice a2 n2 c2,.int .i64 x4,.int .i64 x5])∧Hid (∀ X,Below Wb.heap.size Wb X→Di X (.agg #[.bool x0,.slice ra rn rc,.slice a1 n1 c1,.slice a2 n2 c2,.int .i64 x4,.int .i64 x5]) (rtakenD d))∧Hid ((rtakenD d).least=x4∧(rtakenD d).most=x5)∧Below W.heap.size W w' :=
 (reftaken_dom v d Wb W hd0 hbW).mono fun e w' ⟨v,he,hD,hb⟩=>by
  obtain ⟨x0,ra,rn,rc,a1,n1,c1,a2,n2,c2,x4,x5,rfl,_⟩:=(hD Wb (Below.refl _ _)).look
  have h4:=di_si (hD Wb (Below.refl _ _))
  exact ⟨_,_,_,_,_,_,_,_,_,_,_,_,he,hD,h4.2.2,hb⟩
theorem set_below (s:Value) (l:List Int) (W:World) (h:Si W s l):Calls Tryz.prog 81 #[s] W fun e w'=>e = .returned (.bool (setB l))∧Below W.heap.size W w' :=
 (refset_any s l W h).mono fun e w' ⟨he,n,hw⟩=>⟨he,by rw [hw];exact below_drewN (Below.refl _ _) _⟩
theorem sub_below (s1 s2:Value) (a b:List Int) (W:World) (h1:Si W s1 a) (h2:Si W s2 b):Calls Tryz.prog 82 #[s1,s2] W fun e w'=>e = .returned (.bool (subB (tkS a) (tkS b)))∧Below W.heap.size W w' :=
 (refsub_any s1 s2 a b W h1 h2).mono fun e w' ⟨he,n,hw⟩=>⟨he,by rw [hw];exact below_drewN (Below.refl _ _) _⟩
def rbothD (d o:SD):SD:=if emptyD (rtakenD d)||emptyD (rtakenD o) then noneD else if !setB (joinL (tkS (rtakenD d).lo) (tkS (rtakenD o).lo)) || !subB (tkS (joinL (tkS (rtakenD d).lo) (tkS (rtakenD o).lo))) (tkS (meetL (tkS (rtakenD d).up) (tkS (rtakenD o).up))) then noneD else tightD (joinL (tkS (rtakenD d).lo) (tkS (rtakenD o).lo)) (meetL (tkS (rtakenD d).up) (tkS (rtakenD o).up)) (max (rtakenD d).least (rtakenD o).least) (min (rtakenD d).most (rtakenD o).most)
theorem refboth_any (v u:Value) (d o:SD) (W:World) (h:Di W v d) (ho:Di W u o) :
  Calls Tryz.prog 61 #[v,u] W fun e w'=>∃ v',e = .returned v'∧Dv W.heap.size w' v' (rbothD d o)∧Below W.heap.size W w':=by
 have k85a:=fun X (hX:Below W.heap.size W X)=>rtaken_look v d W X h hX
 have k85b:=fun X (hX:Below W.heap.size W X)=>rtaken_look u o W X ho hX
 obtain ⟨x0a,raa,rna,rca,a1a,n1a,c1a,a2a,n2a,c2a,x4a,x5a,rfl,HEa,HLOa,HUPa⟩:=h.look
 obtain ⟨x0b,rab,rnb,rcb,a1b,n1b,c1b,a2b,n2b,c2b,x4b,x5b,rfl,HEb,HLOb,HUPb⟩:=ho.look
 have hRa:=rtaken_right d
 have hRb:=rtaken_right o
 have hM:rbothD d o=if emptyD (rtakenD d)||emptyD (rtakenD o) then noneD else if !setB (joinL (tkS (rtakenD d).lo) (tkS (rtakenD o).lo)) || !subB (tkS (joinL (tkS (rtakenD d).lo) (tkS (rtakenD o).lo))) (tkS (meetL (tkS (rtakenD d).up) (tkS (rtakenD o).up))) then noneD else tightD (joinL (tkS (rtakenD d).lo) (tkS (rtakenD o).lo)) (meetL (tkS (rtakenD d).up) (tkS (rtakenD o).up)) (max (rtakenD d).least (rtakenD o).least) (min (rtakenD d).most (rtakenD o).most):=rfl
 generalize rbothD d o=MD at hM ⊢
 have hms:IsSet (meetL (tkS (rtakenD d).up) (tkS (rtakenD o).up)):=set_filter (tkS_set _) _
 generalize rtakenD d=TA at *
 generalize rtakenD o=TB at *
 have HMS:Hid (IsSet (meetL (tkS TA.up) (tkS TB.up))):=hms
 obtain ⟨w0,hW0⟩:∃ X,(((W.alloc (Obj.cells #[.bool x0a,.slice raa rna rca,.slice a1a n1a c1a,.slice a2a n2a c2a,.int .i64 x4a,.int .i64 x5a] 37)).alloc (Obj.cells #[.bool x0b,.slice rab rnb rcb,.slice a1b n1b c1b,.slice a2b n2b c2b,.int .i64 x4b,.int .i64 x5b] 37)).alloc (Obj.cells #[.bool false,.slice none 0 0,.slice none 0 0,.slice none 0 0,.int .i64 0,.int .i64 0] 37))=X:=⟨_,rfl⟩
 have HW0:Hid _:=hW0
 have hb0:Below W.heap.size W w0:=by rw [←hW0];exact ((((Below.refl _ W).alloc (by simp<;>omega) _).alloc (by simp<;>omega) _).alloc (by simp<;>omega) _)
 have HA_0:Hid (R6 w0 W.heap.size (.bool x0a) (.slice raa rna rca) (.slice a1a n1a c1a) (.slice a2a n2a c2a) (.int .i64 x4a) (.int .i64 x5a)):=by rw [←hW0];exact (((R6.new _ _ _ _ _ _ _).alloc _).alloc _)
 have HB_0:Hid (R6 w0 (W.heap.size+1) (.bool x0b) (.slice rab rnb rcb) (.slice a1b n1b c1b) (.slice a2b n2b c2b) (.int .i64 x4b) (.int .i64 x5b)):=by rw [←hW0];exact ((R6.new1 _ _ _ _ _ _ _ _).alloc _)
 have HZ_0:Hid (R6 w0 (W.heap.size+2) (.bool false) (.slice none 0 0) (.slice none 0 0) (.slice none 0 0) (.int .i64 0) (.int .i64 0)):=by rw [←hW0];exact (R6.new2 _ _ _ _ _ _ _ _ _)
 clear hW0
 clear h ho HEa HLOa HUPa HEb HLOb HUPb hRa hRb hms
 go_enter Tryz.func61,Tryz.ntmps61
 go_upto_region 1 with (fail)
 rw [HW0.out]
 obtain ⟨zA0,zA1,zA2,zA3,zA4,zA5⟩:=HA_0.out.cells
 obtain ⟨zB0,zB1,zB2,zB3,zB4,zB5⟩:=HB_0.out.cells
 obtain ⟨zZ0,zZ1,zZ2,zZ3,zZ4,zZ5⟩:=HZ_0.out.cells
 go_wp2_with fail
 refine (k85a w0 hb0).mono ?_
 rintro e w1 ⟨x0t,rat,rnt,rct,a1t,n1t,c1t,a2t,n2t,c2t,x4t,x5t,rfl,HDIa,HLTa,hb⟩
 have hb1:Below W.heap.size W w1:=hb0.trans (hb.mono hb0.size)
 have HA_1:Hid _:=HA_0.out.below hb
 have HB_1:Hid _:=HB_0.out.below hb
 have HZ_1:Hid _:=HZ_0.out.below hb
 clear zA0 zA1 zA2 zA3 zA4 zA5 zB0 zB1 zB2 zB3 zB4 zB5 zZ0 zZ1 zZ2 zZ3 zZ4 zZ5
 clear hb hb0 HA_0 HB_0 HZ_0
 have hb2:=below_setRow hb1 (show W.heap.size≤W.heap.size by omega) #[.bool x0t,.slice rat rnt rct,.slice a1t n1t c1t,.slice a2t n2t c2t,.int .i64 x4t,.int .i64 x5t]
 have HA_2:Hid _:=HA_1.out.set (.bool x0t) (.slice rat rnt rct) (.slice a1t n1t c1t) (.slice a2t n2t c2t) (.int .i64 x4t) (.int .i64 x5t)
 have HB_2:Hid _:=HB_1.out.other (show (W.heap.size+1)≠W.heap.size by omega) #[.bool x0t,.slice rat rnt rct,.slice a1t n1t c1t,.slice a2t n2t c2t,.int .i64 x4t,.int .i64 x5t]
 have HZ_2:Hid _:=HZ_1.out.other (show (W.heap.size+2)≠W.heap.size by omega) #[.bool x0t,.slice rat rnt rct,.slice a1t n1t c1t,.slice a2t n2t c2t,.int .i64 x4t,.int .i64 x5t]
 go_upto_region 2 with (with_reducible refine st37 rfl (.tmp 2) (.tmp 10) rfl W.heap.size _ _ _ _ _ _ (by with_unfolding_all rfl) (by with_unfolding_all rfl) HA_1.out (six_dom _ _ _ _ _ _ _ _ _ _ _ _) ?_)
 simp only [Act.put]
 clear HA_1 HB_1 HZ_1 hb1
 generalize w1.setRow W.heap.size #[.bool x0t,.slice rat rnt rct,.slice a1t n1t c1t,.slice a2t n2t c2t,.int .i64 x4t,.int .i64 x5t]=w2 at hb2 HA_2 HB_2 HZ_2 ⊢
 obtain ⟨zA0,zA1,zA2,zA3,zA4,zA5⟩:=HA_2.out.cells
 obtain ⟨zB0,zB1,zB2,zB3,zB4,zB5⟩:=HB_2.out.cells
 obtain ⟨zZ0,zZ1,zZ2,zZ3,zZ4,zZ5⟩:=HZ_2.out.cells
 go_wp2_with fail
 refine (k85b w2 hb2).mono ?_
 rintro e w3 ⟨x0s,ras,rns,rcs,a1s,n1s,c1s,a2s,n2s,c2s,x4s,x5s,rfl,HDIb,HLTb,hb⟩
 have hb3:Below W.heap.size W w3:=hb2.trans (hb.mono hb2.size)
 have HA_3:Hid _:=HA_2.out.below hb
 have HB_3:Hid _:=HB_2.out.below hb
 have HZ_3:Hid _:=HZ_2.out.below hb
 clear zA0 zA1 zA2 zA3 zA4 zA5 zB0 zB1 zB2 zB3 zB4 zB5 zZ0 zZ1 zZ2 zZ3 zZ4 zZ5
 clear hb hb2 HA_2 HB_2 HZ_2
 have k43a:=fun X (hX:Below W.heap.size W X)=>refempty_any _ TA X (HDIa.out X hX)
 have k43b:=fun X (hX:Below W.heap.size W X)=>refempty_any _ TB X (HDIb.out X hX)
 have HSI:Hid (∀ X,Below W.heap.size W X→(Si X (.slice a1t n1t c1t) TA.lo∧Si X (.slice a2t n2t c2t) TA.up)∧Si X (.slice a1s n1s c1s) TB.lo∧Si X (.slice a2s n2s c2s) TB.up):=fun X hX=>⟨⟨(di_si (HDIa.out X hX)).1,(di_si (HDIa.out X hX)).2.1⟩,(di_si (HDIb.out X hX)).1,(di_si (HDIb.out X hX)).2.1⟩
 have k15:=fun X (hX:Below W.heap.size W X)=>refjoin_any _ _ TA.lo TB.lo X (HSI.out X hX).1.1 (HSI.out X hX).2.1
 have k16:=fun X (hX:Below W.heap.size W X)=>refmeet_any _ _ TA.up TB.up X (HSI.out X hX).1.2 (HSI.out X hX).2.2
 generalize joinL (tkS TA.lo) (tkS TB.lo)=LJ at *
 generalize meetL (tkS TA.up) (tkS TB.up)=LM at *
 have HM:Hid _:=hM
 clear hM k85a k85b HW0
 obtain ⟨ea,hea⟩:∃ b,emptyD TA=b:=⟨_,rfl⟩
 obtain ⟨eb,heb⟩:∃ b,emptyD TB=b:=⟨_,rfl⟩
 simp only [hea] at k43a
 simp only [heb] at k43b
 have HEM:Hid (emptyD TA=ea∧emptyD TB=eb):=⟨hea,heb⟩
 clear hea heb
 have hb4:=below_setRow hb3 (show W.heap.size≤(W.heap.size+1) by omega) #[.bool x0s,.slice ras rns rcs,.slice a1s n1s c1s,.slice a2s n2s c2s,.int .i64 x4s,.int .i64 x5s]
 have HA_4:Hid _:=HA_3.out.other (show W.heap.size≠(W.heap.size+1) by omega) #[.bool x0s,.slice ras rns rcs,.slice a1s n1s c1s,.slice a2s n2s c2s,.int .i64 x4s,.int .i64 x5s]
 have HB_4:Hid _:=HB_3.out.set (.bool x0s) (.slice ras rns rcs) (.slice a1s n1s c1s) (.slice a2s n2s c2s) (.int .i64 x4s) (.int .i64 x5s)
 have HZ_4:Hid _:=HZ_3.out.other (show (W.heap.size+2)≠(W.heap.size+1) by omega) #[.bool x0s,.slice ras rns rcs,.slice a1s n1s c1s,.slice a2s n2s c2s,.int .i64 x4s,.int .i64 x5s]
 go_upto_region 3 with (with_reducible refine st37 rfl (.tmp 3) (.tmp 12) rfl (W.heap.size+1) _ _ _ _ _ _ (by with_unfolding_all rfl) (by with_unfolding_all rfl) HB_3.out (six_dom _ _ _ _ _ _ _ _ _ _ _ _) ?_)
 simp only [Act.put]
 clear HA_3 HB_3 HZ_3 hb3
 generalize w3.setRow (W.heap.size+1) #[.bool x0s,.slice ras rns rcs,.slice a1s n1s c1s,.slice a2s n2s c2s,.int .i64 x4s,.int .i64 x5s]=w4 at hb4 HA_4 HB_4 HZ_4 ⊢
 obtain ⟨zA0,zA1,zA2,zA3,zA4,zA5⟩:=HA_4.out.cells
 obtain ⟨zB0,zB1,zB2,zB3,zB4,zB5⟩:=HB_4.out.cells
 obtain ⟨zZ0,zZ1,zZ2,zZ3,zZ4,zZ5⟩:=HZ_4.out.cells
 go_wp2_with fail
 refine (k43a w4 hb4).mono ?_
 rintro e w5 ⟨rfl,hb⟩
 have hb5:Below W.heap.size W w5:=hb4.trans (hb.mono hb4.size)
 have HA_5:Hid _:=HA_4.out.below hb
 have HB_5:Hid _:=HB_4.out.below hb
 have HZ_5:Hid _:=HZ_4.out.below hb
 clear zA0 zA1 zA2 zA3 zA4 zA5 zB0 zB1 zB2 zB3 zB4 zB5 zZ0 zZ1 zZ2 zZ3 zZ4 zZ5
 clear hb hb4 HA_4 HB_4 HZ_4
 obtain ⟨zA0,zA1,zA2,zA3,zA4,zA5⟩:=HA_5.out.cells
 obtain ⟨zB0,zB1,zB2,zB3,zB4,zB5⟩:=HB_5.out.cells
 obtain ⟨zZ0,zZ1,zZ2,zZ3,zZ4,zZ5⟩:=HZ_5.out.cells
 cases ea
 ·go_wp2_with fail
  refine (k43b w5 hb5).mono ?_
  rintro e w6 ⟨rfl,hb⟩
  have hb6:Below W.heap.size W w6:=hb5.trans (hb.mono hb5.size)
  have HA_6:Hid _:=HA_5.out.below hb
  have HB_6:Hid _:=HB_5.out.below hb
  have HZ_6:Hid _:=HZ_5.out.below hb
  clear zA0 zA1 zA2 zA3 zA4 zA5 zB0 zB1 zB2 zB3 zB4 zB5 zZ0 zZ1 zZ2 zZ3 zZ4 zZ5
  clear hb hb5 HA_5 HB_5 HZ_5
  obtain ⟨zA0,zA1,zA2,zA3,zA4,zA5⟩:=HA_6.out.cells
  obtain ⟨zB0,zB1,zB2,zB3,zB4,zB5⟩:=HB_6.out.cells
  obtain ⟨zZ0,zZ1,zZ2,zZ3,zZ4,zZ5⟩:=HZ_6.out.cells
  cases eb
  ·go_wp2_with fail
   refine (k15 w6 hb6).mono ?_
   rintro e w7 ⟨vj,rfl,hrj,hb⟩
   have hb7:Below W.heap.size W w7:=hb6.trans (hb.mono hb6.size)
   have HA_7:Hid _:=HA_6.out.below hb
   have HB_7:Hid _:=HB_6.out.below hb
   have HZ_7:Hid _:=HZ_6.out.below hb
   have hsj:=own_si hrj
   obtain ⟨pj,cj,rfl⟩:=own_slice hrj
   have SJ_7:Hid (Si w7 (.slice pj LJ.length cj) LJ):=hsj
   clear hrj hsj
   clear zA0 zA1 zA2 zA3 zA4 zA5 zB0 zB1 zB2 zB3 zB4 zB5 zZ0 zZ1 zZ2 zZ3 zZ4 zZ5
   clear hb hb6 HA_6 HB_6 HZ_6
   obtain ⟨zA0,zA1,zA2,zA3,zA4,zA5⟩:=HA_7.out.cells
   obtain ⟨zB0,zB1,zB2,zB3,zB4,zB5⟩:=HB_7.out.cells
   obtain ⟨zZ0,zZ1,zZ2,zZ3,zZ4,zZ5⟩:=HZ_7.out.cells
   go_wp2_with fail
   refine (k16 w7 hb7).mono ?_
   rintro e w8 ⟨vm,rfl,hrm,hb⟩
   have hb8:Below W.heap.size W w8:=hb7.trans (hb.mono hb7.size)
   have HA_8:Hid _:=HA_7.out.below hb
   have HB_8:Hid _:=HB_7.out.below hb
   have HZ_8:Hid _:=HZ_7.out.below hb
   have SJ_8:Hid (Si w8 (.slice pj LJ.length cj) LJ):=SJ_7.out.below hb
   have hsm:=own_si hrm
   obtain ⟨pm,cm,rfl⟩:=own_slice hrm
   have SM_8:Hid (Si w8 (.slice pm LM.length cm) LM):=hsm
   clear hrm hsm
   clear zA0 zA1 zA2 zA3 zA4 zA5 zB0 zB1 zB2 zB3 zB4 zB5 zZ0 zZ1 zZ2 zZ3 zZ4 zZ5
   clear hb hb7 HA_7 HB_7 HZ_7 SJ_7
   obtain ⟨zA0,zA1,zA2,zA3,zA4,zA5⟩:=HA_8.out.cells
   obtain ⟨zB0,zB1,zB2,zB3,zB4,zB5⟩:=HB_8.out.cells
   obtain ⟨zZ0,zZ1,zZ2,zZ3,zZ4,zZ5⟩:=HZ_8.out.cells
   have HTM:Hid (tkS LM=LM):=tkS_yes HMS.out
   obtain ⟨nj,hnj⟩:∃ n,LJ.length=n:=⟨_,rfl⟩
   obtain ⟨nm,hnm⟩:∃ n,LM.length=n:=⟨_,rfl⟩
   rw [hnj] at SJ_8 ⊢
   rw [hnm] at SM_8 ⊢
   have HNN:Hid (LJ.length=nj∧LM.length=nm):=⟨hnj,hnm⟩
   clear hnj hnm
   have k30:=set_below _ LJ _ SJ_8.out
   by_cases hJ:IsSet LJ
   ·rw [setB_yes hJ] at k30
    have HJ:Hid (IsSet LJ):=hJ
    go_wp2_with fail
    refine (k30).mono ?_
    rintro e w9 ⟨rfl,hb⟩
    have hb9:Below W.heap.size W w9:=hb8.trans (hb.mono hb8.size)
    have HA_9:Hid _:=HA_8.out.below hb
    have HB_9:Hid _:=HB_8.out.below hb
    have HZ_9:Hid _:=HZ_8.out.below hb
    have SJ_9:Hid (Si w9 (.slice pj nj cj) LJ):=SJ_8.out.below hb
    have SM_9:Hid (Si w9 (.slice pm nm cm) LM):=SM_8.out.below hb
    clear zA0 zA1 zA2 zA3 zA4 zA5 zB0 zB1 zB2 zB3 zB4 zB5 zZ0 zZ1 zZ2 zZ3 zZ4 zZ5
    clear hb hb8 HA_8 HB_8 HZ_8 SJ_8 SM_8
    obtain ⟨zA0,zA1,zA2,zA3,zA4,zA5⟩:=HA_9.out.cells
    obtain ⟨zB0,zB1,zB2,zB3,zB4,zB5⟩:=HB_9.out.cells
    obtain ⟨zZ0,zZ1,zZ2,zZ3,zZ4,zZ5⟩:=HZ_9.out.cells
    have k28:=sub_below _ _ LJ LM _ SJ_9.out SM_9.out
    rw [tkS_yes hJ,HTM.out] at k28
    obtain ⟨sb,hsb⟩:∃ b,subB LJ LM=b:=⟨_,rfl⟩
    rw [hsb] at k28
    have HSB:Hid (subB LJ LM=sb):=hsb
    clear hsb hJ
    cases sb
    ·go_wp2_with fail
     refine (k28).mono ?_
     rintro e w10 ⟨rfl,hb⟩
     have hb10:Below W.heap.size W w10:=hb9.trans (hb.mono hb9.size)
     have HA_10:Hid _:=HA_9.out.below hb
     have HB_10:Hid _:=HB_9.out.below hb
     have HZ_10:Hid _:=HZ_9.out.below hb
     have SJ_10:Hid (Si w10 (.slice pj nj cj) LJ):=SJ_9.out.below hb
     have SM_10:Hid (Si w10 (.slice pm nm cm) LM):=SM_9.out.below hb
     clear zA0 zA1 zA2 zA3 zA4 zA5 zB0 zB1 zB2 zB3 zB4 zB5 zZ0 zZ1 zZ2 zZ3 zZ4 zZ5
     clear hb hb9 HA_9 HB_9 HZ_9 SJ_9 SM_9
     obtain ⟨zA0,zA1,zA2,zA3,zA4,zA5⟩:=HA_10.out.cells
     obtain ⟨zB0,zB1,zB2,zB3,zB4,zB5⟩:=HB_10.out.cells
     obtain ⟨zZ0,zZ1,zZ2,zZ3,zZ4,zZ5⟩:=HZ_10.out.cells
     go_wp2_with fail
     refine (refnone_at w10).mono ?_
     rintro e w11 ⟨rfl,hb⟩
     have hb11:Below W.heap.size W w11:=hb10.trans (hb.mono hb10.size)
     have HA_11:Hid _:=HA_10.out.below hb
     have HB_11:Hid _:=HB_10.out.below hb
     have HZ_11:Hid _:=HZ_10.out.below hb
     have SJ_11:Hid (Si w11 (.slice pj nj cj) LJ):=SJ_10.out.below hb
     have SM_11:Hid (Si w11 (.slice pm nm cm) LM):=SM_10.out.below hb
     clear zA0 zA1 zA2 zA3 zA4 zA5 zB0 zB1 zB2 zB3 zB4 zB5 zZ0 zZ1 zZ2 zZ3 zZ4 zZ5
     clear hb hb10 HA_10 HB_10 HZ_10 SJ_10 SM_10
     go_wp2_with (with_reducible refine st37 rfl (.tmp 4) (.tmp 39) rfl (W.heap.size+2) _ _ _ _ _ _ (by with_unfolding_all rfl) (by with_unfolding_all rfl) HZ_11.out (six_dom _ _ _ _ _ _ _ _ _ _ _ _) ?_)
     refine ⟨rfl,_,R6.res rfl _ (HZ_11.out.set (.bool true) (.slice none 0 0) (.slice none 0 0) (.slice none 0 0) (.int .i64 1) (.int .i64 0)) rfl,⟨_,rfl,?_,below_setRow hb11 (by omega) _⟩⟩
     rw [HM.out,HEM.out.1,HEM.out.2,setB_yes HJ.out,tkS_yes HJ.out,HTM.out,HSB.out]
     exact none_dv _ _
    ·by_cases p1:x4t<x4s
     ·by_cases p2:x5s<x5t
      ·go_wp2_with fail
       refine (k28).mono ?_
       rintro e w10 ⟨rfl,hb⟩
       have hb10:Below W.heap.size W w10:=hb9.trans (hb.mono hb9.size)
       have HA_10:Hid _:=HA_9.out.below hb
       have HB_10:Hid _:=HB_9.out.below hb
       have HZ_10:Hid _:=HZ_9.out.below hb
       have SJ_10:Hid (Si w10 (.slice pj nj cj) LJ):=SJ_9.out.below hb
       have SM_10:Hid (Si w10 (.slice pm nm cm) LM):=SM_9.out.below hb
       clear zA0 zA1 zA2 zA3 zA4 zA5 zB0 zB1 zB2 zB3 zB4 zB5 zZ0 zZ1 zZ2 zZ3 zZ4 zZ5
       clear hb hb9 HA_9 HB_9 HZ_9 SJ_9 SM_9
       obtain ⟨zA0,zA1,zA2,zA3,zA4,zA5⟩:=HA_10.out.cells
       obtain ⟨zB0,zB1,zB2,zB3,zB4,zB5⟩:=HB_10.out.cells
       obtain ⟨zZ0,zZ1,zZ2,zZ3,zZ4,zZ5⟩:=HZ_10.out.cells
       have k76:=reftight_look (.slice pj nj cj) (.slice pm nm cm) LJ LM x4s x5s _ SJ_10.out SM_10.out HJ.out HMS.out ((subB_iff _ _).1 HSB.out)
       have HLM:Hid (max x4t x4s=x4s∧min x5t x5s=x5s):=by unfold Hid;omega
       go_wp2_with fail
       refine (k76).mono ?_
       rintro e w11 ⟨g0,q1,h1,j1,q2,h2,j2,g4,g5,rfl,HV,hb⟩
       have hb11:Below W.heap.size W w11:=hb10.trans (hb.mono hb10.size)
       have HA_11:Hid _:=HA_10.out.below hb
       have HB_11:Hid _:=HB_10.out.below hb
       have HZ_11:Hid _:=HZ_10.out.below hb
       have SJ_11:Hid (Si w11 (.slice pj nj cj) LJ):=SJ_10.out.below hb
       have SM_11:Hid (Si w11 (.slice pm nm cm) LM):=SM_10.out.below hb
       have hszz:=hb10.size
       clear zA0 zA1 zA2 zA3 zA4 zA5 zB0 zB1 zB2 zB3 zB4 zB5 zZ0 zZ1 zZ2 zZ3 zZ4 zZ5
       clear hb hb10 HA_10 HB_10 HZ_10 SJ_10 SM_10
       go_wp2_with (with_reducible refine st37 rfl (.tmp 4) (.tmp 60) rfl (W.heap.size+2) _ _ _ _ _ _ (by with_unfolding_all rfl) (by with_unfolding_all rfl) HZ_11.out (six_dom _ _ _ _ _ _ _ _ _ _ _ _) ?_)
       refine ⟨rfl,_,R6.res rfl _ (HZ_11.out.set (.bool g0) (.slice none 0 0) (.slice q1 h1 j1) (.slice q2 h2 j2) (.int .i64 g4) (.int .i64 g5)) rfl,⟨_,rfl,?_,below_setRow hb11 (by omega) _⟩⟩
       rw [HM.out,HEM.out.1,HEM.out.2,setB_yes HJ.out,tkS_yes HJ.out,HTM.out,HSB.out]
       simp only [Bool.or_self,Bool.not_true,Bool.false_eq_true,if_false]
       rw [HLTa.out.1,HLTa.out.2,HLTb.out.1,HLTb.out.2,HLM.out.1,HLM.out.2]
       exact (HV.out.base hszz).set HZ_11.out _
      ·go_wp2_with fail
       refine (k28).mono ?_
       rintro e w10 ⟨rfl,hb⟩
       have hb10:Below W.heap.size W w10:=hb9.trans (hb.mono hb9.size)
       have HA_10:Hid _:=HA_9.out.below hb
       have HB_10:Hid _:=HB_9.out.below hb
       have HZ_10:Hid _:=HZ_9.out.below hb
       have SJ_10:Hid (Si w10 (.slice pj nj cj) LJ):=SJ_9.out.below hb
       have SM_10:Hid (Si w10 (.slice pm nm cm) LM):=SM_9.out.below hb
       clear zA0 zA1 zA2 zA3 zA4 zA5 zB0 zB1 zB2 zB3 zB4 zB5 zZ0 zZ1 zZ2 zZ3 zZ4 zZ5
       clear hb hb9 HA_9 HB_9 HZ_9 SJ_9 SM_9
       obtain ⟨zA0,zA1,zA2,zA3,zA4,zA5⟩:=HA_10.out.cells
       obtain ⟨zB0,zB1,zB2,zB3,zB4,zB5⟩:=HB_10.out.cells
       obtain ⟨zZ0,zZ1,zZ2,zZ3,zZ4,zZ5⟩:=HZ_10.out.cells
       have k76:=reftight_look (.slice pj nj cj) (.slice pm nm cm) LJ LM x4s x5t _ SJ_10.out SM_10.out HJ.out HMS.out ((subB_iff _ _).1 HSB.out)
       have HLM:Hid (max x4t x4s=x4s∧min x5t x5s=x5t):=by unfold Hid;omega
       go_wp2_with fail
       refine (k76).mono ?_
       rintro e w11 ⟨g0,q1,h1,j1,q2,h2,j2,g4,g5,rfl,HV,hb⟩
       have hb11:Below W.heap.size W w11:=hb10.trans (hb.mono hb10.size)
       have HA_11:Hid _:=HA_10.out.below hb
       have HB_11:Hid _:=HB_10.out.below hb
       have HZ_11:Hid _:=HZ_10.out.below hb
       have SJ_11:Hid (Si w11 (.slice pj nj cj) LJ):=SJ_10.out.below hb
       have SM_11:Hid (Si w11 (.slice pm nm cm) LM):=SM_10.out.below hb
       have hszz:=hb10.size
       clear zA0 zA1 zA2 zA3 zA4 zA5 zB0 zB1 zB2 zB3 zB4 zB5 zZ0 zZ1 zZ2 zZ3 zZ4 zZ5
       clear hb hb10 HA_10 HB_10 HZ_10 SJ_10 SM_10
       go_wp2_with (with_reducible refine st37 rfl (.tmp 4) (.tmp 60) rfl (W.heap.size+2) _ _ _ _ _ _ (by with_unfolding_all rfl) (by with_unfolding_all rfl) HZ_11.out (six_dom _ _ _ _ _ _ _ _ _ _ _ _) ?_)
       refine ⟨rfl,_,R6.res rfl _ (HZ_11.out.set (.bool g0) (.slice none 0 0) (.slice q1 h1 j1) (.slice q2 h2 j2) (.int .i64 g4) (.int .i64 g5)) rfl,⟨_,rfl,?_,below_setRow hb11 (by omega) _⟩⟩
       rw [HM.out,HEM.out.1,HEM.out.2,setB_yes HJ.out,tkS_yes HJ.out,HTM.out,HSB.out]
       simp only [Bool.or_self,Bool.not_true,Bool.false_eq_true,if_false]
       rw [HLTa.out.1,HLTa.out.2,HLTb.out.1,HLTb.out.2,HLM.out.1,HLM.out.2]
       exact (HV.out.base hszz).set HZ_11.out _
     ·by_cases p2:x5s<x5t
      ·go_wp2_with fail
       refine (k28).mono ?_
       rintro e w10 ⟨rfl,hb⟩
       have hb10:Below W.heap.size W w10:=hb9.trans (hb.mono hb9.size)
       have HA_10:Hid _:=HA_9.out.below hb
       have HB_10:Hid _:=HB_9.out.below hb
       have HZ_10:Hid _:=HZ_9.out.below hb
       have SJ_10:Hid (Si w10 (.slice pj nj cj) LJ):=SJ_9.out.below hb
       have SM_10:Hid (Si w10 (.slice pm nm cm) LM):=SM_9.out.below hb
       clear zA0 zA1 zA2 zA3 zA4 zA5 zB0 zB1 zB2 zB3 zB4 zB5 zZ0 zZ1 zZ2 zZ3 zZ4 zZ5
       clear hb hb9 HA_9 HB_9 HZ_9 SJ_9 SM_9
       obtain ⟨zA0,zA1,zA2,zA3,zA4,zA5⟩:=HA_10.out.cells
       obtain ⟨zB0,zB1,zB2,zB3,zB4,zB5⟩:=HB_10.out.cells
       obtain ⟨zZ0,zZ1,zZ2,zZ3,zZ4,zZ5⟩:=HZ_10.out.cells
       have k76:=reftight_look (.slice pj nj cj) (.slice pm nm cm) LJ LM x4t x5s _ SJ_10.out SM_10.out HJ.out HMS.out ((subB_iff _ _).1 HSB.out)
       have HLM:Hid (max x4t x4s=x4t∧min x5t x5s=x5s):=by unfold Hid;omega
       go_wp2_with fail
       refine (k76).mono ?_
       rintro e w11 ⟨g0,q1,h1,j1,q2,h2,j2,g4,g5,rfl,HV,hb⟩
       have hb11:Below W.heap.size W w11:=hb10.trans (hb.mono hb10.size)
       have HA_11:Hid _:=HA_10.out.below hb
       have HB_11:Hid _:=HB_10.out.below hb
       have HZ_11:Hid _:=HZ_10.out.below hb
       have SJ_11:Hid (Si w11 (.slice pj nj cj) LJ):=SJ_10.out.below hb
       have SM_11:Hid (Si w11 (.slice pm nm cm) LM):=SM_10.out.below hb
       have hszz:=hb10.size
       clear zA0 zA1 zA2 zA3 zA4 zA5 zB0 zB1 zB2 zB3 zB4 zB5 zZ0 zZ1 zZ2 zZ3 zZ4 zZ5
       clear hb hb10 HA_10 HB_10 HZ_10 SJ_10 SM_10
       go_wp2_with (with_reducible refine st37 rfl (.tmp 4) (.tmp 60) rfl (W.heap.size+2) _ _ _ _ _ _ (by with_unfolding_all rfl) (by with_unfolding_all rfl) HZ_11.out (six_dom _ _ _ _ _ _ _ _ _ _ _ _) ?_)
       refine ⟨rfl,_,R6.res rfl _ (HZ_11.out.set (.bool g0) (.slice none 0 0) (.slice q1 h1 j1) (.slice q2 h2 j2) (.int .i64 g4) (.int .i64 g5)) rfl,⟨_,rfl,?_,below_setRow hb11 (by omega) _⟩⟩
       rw [HM.out,HEM.out.1,HEM.out.2,setB_yes HJ.out,tkS_yes HJ.out,HTM.out,HSB.out]
       simp only [Bool.or_self,Bool.not_true,Bool.false_eq_true,if_false]
       rw [HLTa.out.1,HLTa.out.2,HLTb.out.1,HLTb.out.2,HLM.out.1,HLM.out.2]
       exact (HV.out.base hszz).set HZ_11.out _
      ·go_wp2_with fail
       refine (k28).mono ?_
       rintro e w10 ⟨rfl,hb⟩
       have hb10:Below W.heap.size W w10:=hb9.trans (hb.mono hb9.size)
       have HA_10:Hid _:=HA_9.out.below hb
       have HB_10:Hid _:=HB_9.out.below hb
       have HZ_10:Hid _:=HZ_9.out.below hb
       have SJ_10:Hid (Si w10 (.slice pj nj cj) LJ):=SJ_9.out.below hb
       have SM_10:Hid (Si w10 (.slice pm nm cm) LM):=SM_9.out.below hb
       clear zA0 zA1 zA2 zA3 zA4 zA5 zB0 zB1 zB2 zB3 zB4 zB5 zZ0 zZ1 zZ2 zZ3 zZ4 zZ5
       clear hb hb9 HA_9 HB_9 HZ_9 SJ_9 SM_9
       obtain ⟨zA0,zA1,zA2,zA3,zA4,zA5⟩:=HA_10.out.cells
       obtain ⟨zB0,zB1,zB2,zB3,zB4,zB5⟩:=HB_10.out.cells
       obtain ⟨zZ0,zZ1,zZ2,zZ3,zZ4,zZ5⟩:=HZ_10.out.cells
       have k76:=reftight_look (.slice pj nj cj) (.slice pm nm cm) LJ LM x4t x5t _ SJ_10.out SM_10.out HJ.out HMS.out ((subB_iff _ _).1 HSB.out)
       have HLM:Hid (max x4t x4s=x4t∧min x5t x5s=x5t):=by unfold Hid;omega
       go_wp2_with fail
       refine (k76).mono ?_
       rintro e w11 ⟨g0,q1,h1,j1,q2,h2,j2,g4,g5,rfl,HV,hb⟩
       have hb11:Below W.heap.size W w11:=hb10.trans (hb.mono hb10.size)
       have HA_11:Hid _:=HA_10.out.below hb
       have HB_11:Hid _:=HB_10.out.below hb
       have HZ_11:Hid _:=HZ_10.out.below hb
       have SJ_11:Hid (Si w11 (.slice pj nj cj) LJ):=SJ_10.out.below hb
       have SM_11:Hid (Si w11 (.slice pm nm cm) LM):=SM_10.out.below hb
       have hszz:=hb10.size
       clear zA0 zA1 zA2 zA3 zA4 zA5 zB0 zB1 zB2 zB3 zB4 zB5 zZ0 zZ1 zZ2 zZ3 zZ4 zZ5
       clear hb hb10 HA_10 HB_10 HZ_10 SJ_10 SM_10
       go_wp2_with (with_reducible refine st37 rfl (.tmp 4) (.tmp 60) rfl (W.heap.size+2) _ _ _ _ _ _ (by with_unfolding_all rfl) (by with_unfolding_all rfl) HZ_11.out (six_dom _ _ _ _ _ _ _ _ _ _ _ _) ?_)
       refine ⟨rfl,_,R6.res rfl _ (HZ_11.out.set (.bool g0) (.slice none 0 0) (.slice q1 h1 j1) (.slice q2 h2 j2) (.int .i64 g4) (.int .i64 g5)) rfl,⟨_,rfl,?_,below_setRow hb11 (by omega) _⟩⟩
       rw [HM.out,HEM.out.1,HEM.out.2,setB_yes HJ.out,tkS_yes HJ.out,HTM.out,HSB.out]
       simp only [Bool.or_self,Bool.not_true,Bool.false_eq_true,if_false]
       rw [HLTa.out.1,HLTa.out.2,HLTb.out.1,HLTb.out.2,HLM.out.1,HLM.out.2]
       exact (HV.out.base hszz).set HZ_11.out _
   ·rw [setB_no hJ] at k30
    have HJ:Hid (¬IsSet LJ):=hJ
    clear hJ
    go_wp2_with fail
    refine (k30).mono ?_
    rintro e w9 ⟨rfl,hb⟩
    have hb9:Below W.heap.size W w9:=hb8.trans (hb.mono hb8.size)
    have HA_9:Hid _:=HA_8.out.below hb
    have HB_9:Hid _:=HB_8.out.below hb
    have HZ_9:Hid _:=HZ_8.out.below hb
    have SJ_9:Hid (Si w9 (.slice pj nj cj) LJ):=SJ_8.out.below hb
    have SM_9:Hid (Si w9 (.slice pm nm cm) LM):=SM_8.out.below hb
    clear zA0 zA1 zA2 zA3 zA4 zA5 zB0 zB1 zB2 zB3 zB4 zB5 zZ0 zZ1 zZ2 zZ3 zZ4 zZ5
    clear hb hb8 HA_8 HB_8 HZ_8 SJ_8 SM_8
    obtain ⟨zA0,zA1,zA2,zA3,zA4,zA5⟩:=HA_9.out.cells
    obtain ⟨zB0,zB1,zB2,zB3,zB4,zB5⟩:=HB_9.out.cells
    obtain ⟨zZ0,zZ1,zZ2,zZ3,zZ4,zZ5⟩:=HZ_9.out.cells
    go_wp2_with fail
    refine (refnone_at w9).mono ?_
    rintro e w10 ⟨rfl,hb⟩
    have hb10:Below W.heap.size W w10:=hb9.trans (hb.mono hb9.size)
    have HA_10:Hid _:=HA_9.out.below hb
    have HB_10:Hid _:=HB_9.out.below hb
    have HZ_10:Hid _:=HZ_9.out.below hb
    have SJ_10:Hid (Si w10 (.slice pj nj cj) LJ):=SJ_9.out.below hb
    have SM_10:Hid (Si w10 (.slice pm nm cm) LM):=SM_9.out.below hb
    clear zA0 zA1 zA2 zA3 zA4 zA5 zB0 zB1 zB2 zB3 zB4 zB5 zZ0 zZ1 zZ2 zZ3 zZ4 zZ5
    clear hb hb9 HA_9 HB_9 HZ_9 SJ_9 SM_9
    go_wp2_with (with_reducible refine st37 rfl (.tmp 4) (.tmp 39) rfl (W.heap.size+2) _ _ _ _ _ _ (by with_unfolding_all rfl) (by with_unfolding_all rfl) HZ_10.out (six_dom _ _ _ _ _ _ _ _ _ _ _ _) ?_)
    refine ⟨rfl,_,R6.res rfl _ (HZ_10.out.set (.bool true) (.slice none 0 0) (.slice none 0 0) (.slice none 0 0) (.int .i64 1) (.int .i64 0)) rfl,⟨_,rfl,?_,below_setRow hb10 (by omega) _⟩⟩
    rw [HM.out,HEM.out.1,HEM.out.2,setB_no HJ.out]
    exact none_dv _ _
  ·go_wp2_with fail
   refine (refnone_at w6).mono ?_
   rintro e w7 ⟨rfl,hb⟩
   have hb7:Below W.heap.size W w7:=hb6.trans (hb.mono hb6.size)
   have HA_7:Hid _:=HA_6.out.below hb
   have HB_7:Hid _:=HB_6.out.below hb
   have HZ_7:Hid _:=HZ_6.out.below hb
   clear zA0 zA1 zA2 zA3 zA4 zA5 zB0 zB1 zB2 zB3 zB4 zB5 zZ0 zZ1 zZ2 zZ3 zZ4 zZ5
   clear hb hb6 HA_6 HB_6 HZ_6
   go_wp2_with (with_reducible refine st37 rfl (.tmp 4) (.tmp 19) rfl (W.heap.size+2) _ _ _ _ _ _ (by with_unfolding_all rfl) (by with_unfolding_all rfl) HZ_7.out (six_dom _ _ _ _ _ _ _ _ _ _ _ _) ?_)
   refine ⟨rfl,_,R6.res rfl _ (HZ_7.out.set (.bool true) (.slice none 0 0) (.slice none 0 0) (.slice none 0 0) (.int .i64 1) (.int .i64 0)) rfl,⟨_,rfl,?_,below_setRow hb7 (by omega) _⟩⟩
   rw [HM.out,HEM.out.1,HEM.out.2]
   exact none_dv _ _
 ·go_wp2_with fail
  refine (refnone_at w5).mono ?_
  rintro e w6 ⟨rfl,hb⟩
  have hb6:Below W.heap.size W w6:=hb5.trans (hb.mono hb5.size)
  have HA_6:Hid _:=HA_5.out.below hb
  have HB_6:Hid _:=HB_5.out.below hb
  have HZ_6:Hid _:=HZ_5.out.below hb
  clear zA0 zA1 zA2 zA3 zA4 zA5 zB0 zB1 zB2 zB3 zB4 zB5 zZ0 zZ1 zZ2 zZ3 zZ4 zZ5
  clear hb hb5 HA_5 HB_5 HZ_5
  go_wp2_with (with_reducible refine st37 rfl (.tmp 4) (.tmp 19) rfl (W.heap.size+2) _ _ _ _ _ _ (by with_unfolding_all rfl) (by with_unfolding_all rfl) HZ_6.out (six_dom _ _ _ _ _ _ _ _ _ _ _ _) ?_)
  refine ⟨rfl,_,R6.res rfl _ (HZ_6.out.set (.bool true) (.slice none 0 0) (.slice none 0 0) (.slice none 0 0) (.int .i64 1) (.int .i64 0)) rfl,⟨_,rfl,?_,below_setRow hb6 (by omega) _⟩⟩
  rw [HM.out,HEM.out.1]
  exact none_dv _ _
theorem tight_none {lo up:List Int} {least most:Int} (h:min most up.length<max least lo.length):tightD lo up least most=noneD:=by
 unfold tightD;dsimp only;rw [if_pos h]
theorem tight_top {lo up:List Int} {least most:Int} (h1:IsSet lo) (h2:IsSet up) (hs:∀ x∈lo,x∈up) (ha:max least lo.length=up.length) (hb:(up.length:Int)≤most):tightD lo up least most=TD up up up.length up.length:=by
 rcases tight_cases2 least most h1 h2 hs with ⟨e,a⟩ | ⟨e,a,b⟩ | ⟨e,a,b,c⟩ | ⟨e,a,b,c,f⟩
 ·omega
 ·exact e
 ·omega
 ·exact absurd ha c
theorem tight_bot {lo up:List Int} {least most:Int} (h1:IsSet lo) (h2:IsSet up) (hs:∀ x∈lo,x∈up) (ha:least≤lo.length) (hb:min most up.length=lo.length):tightD lo up least most=TD lo lo lo.length lo.length:=by
 rcases tight_cases2 least most h1 h2 hs with ⟨e,a⟩ | ⟨e,a,b⟩ | ⟨e,a,b,c⟩ | ⟨e,a,b,c,f⟩
 ·omega
 ·have:lo=up:=set_sub_eq h1 h2 hs (by omega)
  rw [e,this]
 ·exact e
 ·exact absurd hb f
theorem empty_no {d:SD} (h:emptyD d=false):RightD d∧d.least≤d.most∧(d.lo.length:Int)≤d.least∧d.most≤d.up.length:=by
 unfold emptyD at h
 simp only [Bool.or_eq_false_iff,Bool.not_eq_false',decide_eq_false_iff_not,Int.not_lt] at h
 have hr:RightD d:=of_decide_eq_true h.1
 have:=hr.2.2.2.2.2
 refine ⟨hr,h.2,?_,?_⟩<;>omega
theorem empty_yes {d:SD} (h:emptyD d=true):takenD d=noneD∧rtakenD d=noneD:=by
 refine ⟨?_,by unfold rtakenD;rw [h];rfl⟩
 unfold takenD
 split
 ·rename_i hr
  unfold emptyD at h
  have e1:rightD d=true:=decide_eq_true hr
  simp only [e1,Bool.not_true,Bool.false_or,decide_eq_true_eq] at h
  exact tight_none (by have:=hr.2.2.2.2.2;omega)
 ·rfl
theorem empty_none:emptyD noneD=true:=by unfold emptyD;simp [noneD]
theorem rtaken_no {d:SD} (h:emptyD d=false):rtakenD d=d:=by unfold rtakenD;rw [h];rfl
theorem taken_forms {d:SD} (h:emptyD d=false) :
  (takenD d=TD d.up d.up d.up.length d.up.length∧d.least=d.up.length∧d.most=d.up.length) ∨
  (takenD d=TD d.lo d.lo d.lo.length d.lo.length∧d.least=d.lo.length∧d.most=d.lo.length∧d.lo.length<d.up.length)∨takenD d=d:=by
 obtain ⟨hr,h1,h2,h3⟩:=empty_no h
 have e:takenD d=tightD d.lo d.up d.least d.most:=by unfold takenD;rw [if_pos hr]
 rw [e]
 rcases tight_cases2 d.least d.most hr.2.2.1 hr.2.2.2.1 (right_sub hr) with ⟨e,a⟩ | ⟨e,a,b⟩ | ⟨e,a,b,c⟩ | ⟨e,a,b,c,f⟩
 ·omega
 ·exact .inl ⟨e,by omega,by omega⟩
 ·exact .inr (.inl ⟨e,by omega,by omega,c⟩)
 ·refine .inr (.inr ?_)
  rw [e]
  have m1:max d.least (d.lo.length:Int)=d.least:=by omega
  have m2:min d.most (d.up.length:Int)=d.most:=by omega
  rw [m1,m2]
  obtain ⟨s,r,lo,up,le,mo⟩:=d
  obtain ⟨rfl,rfl,_⟩:=hr
  rfl
theorem meet_mem (a b:List Int) (x:Int):x∈meetL a b↔x∈a∧x∈b:=by unfold meetL;rw [List.mem_filter];simp
theorem meet_set {a:List Int} (ha:IsSet a) (b:List Int):IsSet (meetL a b):=set_filter ha _
theorem join_set {a b u:List Int} (ha:IsSet a) (hb:IsSet b) (hu:IsSet u) (h:∀ x∈joinL a b,x∈u):IsSet (joinL a b):=by
 have hp:=join_pw ha hb
 exact set_of (Nat.le_trans (pw_sub u _ hp (set_pw hu) h).length_le hu.1) (fun x hx=>set_mem hu x (h x hx)) hp
def bothG (a b:SD):SD:=if subB (joinL a.lo b.lo) (meetL a.up b.up) then tightD (joinL a.lo b.lo) (meetL a.up b.up) (max a.least b.least) (min a.most b.most) else noneD
theorem bothG_comm {a b:SD} (ha:RightD a) (hb:RightD b):bothG a b=bothG b a:=by
 have m:meetL a.up b.up=meetL b.up a.up:=set_ext (meet_set ha.2.2.2.1 _) (meet_set hb.2.2.2.1 _) fun x=>by rw [meet_mem,meet_mem];exact And.comm
 have key:∀ {c d:SD},RightD c→RightD d→subB (joinL c.lo d.lo) (meetL c.up d.up)=true→subB (joinL d.lo c.lo) (meetL c.up d.up)=true:=fun {c d} hc hd h=>by
  rw [subB_iff] at h ⊢
  intro x hx
  exact h x ((join_mem _ _ _).2 (((join_mem _ _ _).1 hx).symm))
 unfold bothG
 rw [←m]
 cases h:subB (joinL a.lo b.lo) (meetL a.up b.up)
 ·cases h2:subB (joinL b.lo a.lo) (meetL a.up b.up)
  ·rfl
  ·have:=key hb ha (by rw [←m];exact h2)
   rw [←m,h] at this
   cases this
 ·rw [key ha hb h]
  have j:joinL a.lo b.lo=joinL b.lo a.lo :=
   set_ext (join_set ha.2.2.1 hb.2.2.1 (meet_set ha.2.2.2.1 b.up) ((subB_iff _ _).1 h)) (join_set hb.2.2.1 ha.2.2.1 (meet_set ha.2.2.2.1 b.up) ((subB_iff _ _).1 (key ha hb h))) fun x=>by rw [join_mem,join_mem];exact Or.comm
  simp only [if_true]
  rw [j,Int.max_comm,Int.min_comm]
theorem bothG_left {a b:SD} (he:emptyD a=false) (hb:RightD b):bothG (takenD a) b=bothG a b:=by
 obtain ⟨hr,hle,hll,hmu⟩:=empty_no he
 have hs:=right_sub hr
 have l1:=hr.2.2.1
 have l2:=hr.2.2.2.1
 have b1:=hb.2.2.1
 have b2:=hb.2.2.2.1
 rcases taken_forms he with ⟨e,p,q⟩ | ⟨e,p,q,c⟩ | e
 ·unfold bothG
  have e1:(takenD a).lo=a.up:=by rw [e];rfl
  have e2:(takenD a).up=a.up:=by rw [e];rfl
  have e3:(takenD a).least=a.up.length:=by rw [e];rfl
  have e4:(takenD a).most=a.up.length:=by rw [e];rfl
  simp only [e1,e2,e3,e4]
  have mset:IsSet (meetL a.up b.up):=meet_set l2 _
  have msub:∀ x∈meetL a.up b.up,x∈a.up:=fun x hx=>((meet_mem _ _ _).1 hx).1
  have ml:=set_sub_len mset l2 msub
  by_cases hab:∀ x∈a.up,x∈b.up
  ·have em:meetL a.up b.up=a.up:=set_ext mset l2 fun x=>by rw [meet_mem];exact ⟨fun h=>h.1,fun h=>⟨h,hab x h⟩⟩
   rw [em]
   by_cases hba:∀ x∈b.lo,x∈a.up
   ·have s1:∀ x∈joinL a.up b.lo,x∈a.up:=fun x hx=>by rcases (join_mem _ _ _).1 hx with h | h;exact h;exact hba x h
    have s2:∀ x∈joinL a.lo b.lo,x∈a.up:=fun x hx=>by rcases (join_mem _ _ _).1 hx with h | h;exact hs x h;exact hba x h
    rw [(subB_iff _ _).2 s1,(subB_iff _ _).2 s2]
    simp only [if_true]
    have t1:=join_set l2 b1 l2 s1
    have t2:=join_set l1 b1 l2 s2
    have n1:=set_sub_len t1 l2 s1
    have n2:=set_sub_len t2 l2 s2
    by_cases hh:b.least≤a.up.length∧(a.up.length:Int)≤b.most
    ·rw [tight_top t1 l2 s1 (by omega) (by omega),tight_top t2 l2 s2 (by omega) (by omega)]
    ·rw [tight_none (by omega),tight_none (by omega)]
   ·have s1:subB (joinL a.up b.lo) a.up=false:=by
     cases h:subB (joinL a.up b.lo) a.up
     ·rfl
     ·exact absurd (fun x hx=>(subB_iff _ _).1 h x ((join_mem _ _ _).2 (.inr hx))) hba
    have s2:subB (joinL a.lo b.lo) a.up=false:=by
     cases h:subB (joinL a.lo b.lo) a.up
     ·rfl
     ·exact absurd (fun x hx=>(subB_iff _ _).1 h x ((join_mem _ _ _).2 (.inr hx))) hba
    rw [s1,s2]
    rfl
  ·have s1:subB (joinL a.up b.lo) (meetL a.up b.up)=false:=by
    cases h:subB (joinL a.up b.lo) (meetL a.up b.up)
    ·rfl
    ·exact absurd (fun x hx=>((meet_mem _ _ _).1 ((subB_iff _ _).1 h x ((join_mem _ _ _).2 (.inl hx)))).2) hab
   rw [s1]
   simp only [Bool.false_eq_true,if_false]
   have hlt:(meetL a.up b.up).length<a.up.length:=by
    rcases Nat.lt_or_ge (meetL a.up b.up).length a.up.length with h | h
    ·exact h
    ·have:=set_sub_eq mset l2 msub h
     exact absurd (fun x hx=>by rw [←this] at hx;exact ((meet_mem _ _ _).1 hx).2) hab
   split
   ·exact (tight_none (by omega)).symm
   ·rfl
 ·unfold bothG
  have e1:(takenD a).lo=a.lo:=by rw [e];rfl
  have e2:(takenD a).up=a.lo:=by rw [e];rfl
  have e3:(takenD a).least=a.lo.length:=by rw [e];rfl
  have e4:(takenD a).most=a.lo.length:=by rw [e];rfl
  simp only [e1,e2,e3,e4]
  have mset:IsSet (meetL a.lo b.up):=meet_set l1 _
  have mset2:IsSet (meetL a.up b.up):=meet_set l2 _
  by_cases hba:∀ x∈b.lo,x∈a.lo
  ·have ej:joinL a.lo b.lo=a.lo:=set_ext (join_set l1 b1 l1 fun x hx=>by rcases (join_mem _ _ _).1 hx with h | h;exact h;exact hba x h) l1 fun x=>by
    rw [join_mem]
    exact ⟨fun h=>by rcases h with h | h;exact h;exact hba x h,.inl⟩
   rw [ej]
   by_cases hab:∀ x∈a.lo,x∈b.up
   ·have em:meetL a.lo b.up=a.lo:=set_ext mset l1 fun x=>by rw [meet_mem];exact ⟨fun h=>h.1,fun h=>⟨h,hab x h⟩⟩
    rw [em]
    have s2:∀ x∈a.lo,x∈meetL a.up b.up:=fun x hx=>(meet_mem _ _ _).2 ⟨hs x hx,hab x hx⟩
    rw [sub_refl,(subB_iff _ _).2 s2]
    simp only [if_true]
    have n2:=set_sub_len l1 mset2 s2
    by_cases hh:b.least≤a.lo.length∧(a.lo.length:Int)≤b.most
    ·rw [tight_top l1 l1 (fun _ h=>h) (by omega) (by omega),tight_bot l1 mset2 s2 (by omega) (by omega)]
    ·rw [tight_none (by omega),tight_none (by omega)]
   ·have s1:subB a.lo (meetL a.lo b.up)=false:=by
     cases h:subB a.lo (meetL a.lo b.up)
     ·rfl
     ·exact absurd (fun x hx=>((meet_mem _ _ _).1 ((subB_iff _ _).1 h x hx)).2) hab
    have s2:subB a.lo (meetL a.up b.up)=false:=by
     cases h:subB a.lo (meetL a.up b.up)
     ·rfl
     ·exact absurd (fun x hx=>((meet_mem _ _ _).1 ((subB_iff _ _).1 h x hx)).2) hab
    rw [s1,s2]
    rfl
  ·have s1:subB (joinL a.lo b.lo) (meetL a.lo b.up)=false:=by
    cases h:subB (joinL a.lo b.lo) (meetL a.lo b.up)
    ·rfl
    ·exact absurd (fun x hx=>((meet_mem _ _ _).1 ((subB_iff _ _).1 h x ((join_mem _ _ _).2 (.inr hx)))).1) hba
   rw [s1]
   simp only [Bool.false_eq_true,if_false]
   cases h:subB (joinL a.lo b.lo) (meetL a.up b.up)
   ·rfl
   ·simp only [if_true]
    have js:=join_set l1 b1 mset2 ((subB_iff _ _).1 h)
    have hlt:a.lo.length<(joinL a.lo b.lo).length:=by
     rcases Nat.lt_or_ge a.lo.length (joinL a.lo b.lo).length with h | h
     ·exact h
     ·have:=set_sub_eq l1 js (fun x hx=>(join_mem _ _ _).2 (.inl hx)) h
      exact absurd (fun x hx=>by rw [this];exact (join_mem _ _ _).2 (.inr hx)) hba
    exact (tight_none (by omega)).symm
 ·rw [e]
def bothD (d o:SD):SD:=if !subB (takenD d).lo (meetL (takenD d).up (takenD o).up) || !subB (takenD o).lo (meetL (takenD d).up (takenD o).up) then noneD else tightD (joinL (takenD d).lo (takenD o).lo) (meetL (takenD d).up (takenD o).up) (max (takenD d).least (takenD o).least) (min (takenD d).most (takenD o).most)
theorem sub_join2 (a b m:List Int):subB (joinL a b) m=(subB a m&&subB b m):=by
 rw [Bool.eq_iff_iff]
 simp only [Bool.and_eq_true,subB_iff]
 exact ⟨fun h=>⟨fun x hx=>h x ((join_mem _ _ _).2 (.inl hx)),fun x hx=>h x ((join_mem _ _ _).2 (.inr hx))⟩,fun h x hx=>by rcases (join_mem _ _ _).1 hx with g | g;exact h.1 x g;exact h.2 x g⟩
theorem bothD_G (d o:SD):bothD d o=bothG (takenD d) (takenD o):=by
 unfold bothD bothG
 rw [sub_join2]
 cases subB (takenD d).lo (meetL (takenD d).up (takenD o).up)<;>cases subB (takenD o).lo (meetL (takenD d).up (takenD o).up)<;>rfl
theorem bothG_none {b:SD}:bothG noneD b=noneD:=by
 unfold bothG
 split
 ·exact tight_none (by simp [noneD,meetL]<;>omega)
 ·rfl
theorem both_same (d o:SD):rbothD d o=bothD d o:=by
 rw [bothD_G]
 unfold rbothD
 cases he:emptyD d
 ·cases ho:emptyD o
  ·rw [rtaken_no he,rtaken_no ho,he,ho]
   obtain ⟨hr,_⟩:=empty_no he
   obtain ⟨hq,_⟩:=empty_no ho
   rw [bothG_left he (taken_right o),bothG_comm hr (taken_right o),bothG_left ho hr,bothG_comm hq hr]
   simp only [Bool.or_self,Bool.false_eq_true,if_false]
   rw [tkS_yes hr.2.2.1,tkS_yes hr.2.2.2.1,tkS_yes hq.2.2.1,tkS_yes hq.2.2.2.1,tkS_yes (meet_set hr.2.2.2.1 o.up)]
   unfold bothG
   cases h:subB (joinL d.lo o.lo) (meetL d.up o.up)
   ·cases hj:setB (joinL d.lo o.lo)
    ·rfl
    ·rw [tkS_yes (of_decide_eq_true hj),h];rfl
   ·have js:=join_set hr.2.2.1 hq.2.2.1 (meet_set hr.2.2.2.1 o.up) ((subB_iff _ _).1 h)
    rw [setB_yes js,tkS_yes js,h];rfl
  ·obtain ⟨e1,e2⟩:=empty_yes ho
   rw [e1,e2,empty_none,bothG_comm (taken_right d) none_right,bothG_none]
   simp
 ·obtain ⟨e1,e2⟩:=empty_yes he
  rw [e1,e2,empty_none,bothG_none]
  simp
def eqD (d o:SD):Bool:=decide (d.lo=o.lo)&&decide (d.up=o.up)&&decide (d.least=o.least)&&decide (d.most=o.most)
def sameD (d o:SD):Bool:=eqD (takenD d) (takenD o)
theorem eqD_refl (d:SD):eqD d d=true:=by unfold eqD;simp
theorem taken_le {d:SD} (h:emptyD d=false):(takenD d).least≤(takenD d).most:=by
 obtain ⟨_,a,_,_⟩:=empty_no h
 rcases taken_forms h with ⟨e,p,q⟩ | ⟨e,p,q,c⟩ | e<;>rw [e]
 ·exact Int.le_refl _
 ·exact Int.le_refl _
 ·exact a
theorem same_taken (d:SD):sameD d d=true:=eqD_refl _
theorem nth_list {a b:List Int} (hl:a.length=b.length) (h:∀ i,i<a.length→nth a i=nth b i):a=b:=by
 apply List.ext_getElem hl
 intro i h1 h2
 have:=h i h1
 simpa [nth,List.getElem?_eq_getElem h1,List.getElem?_eq_getElem h2] using this
theorem equal_any (s1 s2:Value) (a b:List Int) (W:World) (h1:Si W s1 a) (h2:Si W s2 b) (hr:a.length*8≤140737488351232) :
  Calls Tryz.prog 102 #[s1,s2] W fun e w'=>e = .returned (.bool (decide (a=b)))∧Below W.heap.size W w':=by
 obtain ⟨a1,c1,rfl,hc1⟩:=h1
 obtain ⟨a2,c2,rfl,hc2⟩:=h2
 obtain ⟨n,hn⟩:∃ n,a.length=n:=⟨_,rfl⟩
 obtain ⟨m,hm⟩:∃ m,b.length=m:=⟨_,rfl⟩
 have HN:Hid (a.length=n):=hn
 have HM:Hid (b.length=m):=hm
 rw [hn] at hc1 hr ⊢
 rw [hm] at hc2 ⊢
 have HC1:Hid _:=hc1
 have HC2:Hid _:=hc2
 clear hn hm hc1 hc2
 by_cases hl:n=m
 ·subst hl
  go_enter Tryz.func102,Tryz.ntmps102
  go_wp2
  go_loopw [13] (fun i wr=>∃ k:Nat,k≤n∧i = .int .i64 (k:Int)∧Hid (∀ j,j<k→nth a j=nth b j)∧∃ nq,wr=W.drewN nq) (fun i _=>n-(intOf i).toNat)
  case atStart=>exact ⟨0,Nat.zero_le _,rfl,fun j hj=>absurd hj (by omega),0,rfl⟩
  case round =>
   obtain ⟨k,hk,rfl,HOK,nq0,rfl⟩:=hrel
   by_cases hlt:k<n
   ·obtain ⟨b1,o1,rfl,_,hcell1⟩:=HC1.out (by omega)
    obtain ⟨b2,o2,rfl,_,hcell2⟩:=HC2.out (by omega)
    have x1:=hcell1 k hlt
    have x2:=hcell2 k hlt
    have kk:(k:Int)<(n:Int):=by omega
    clear hcell1 hcell2 HC1 HC2
    obtain ⟨x,hx⟩:∃ x,nth a k=x:=⟨_,rfl⟩
    obtain ⟨y,hy⟩:∃ x,nth b k=x:=⟨_,rfl⟩
    have HX:Hid (nth a k=x):=hx
    have HY:Hid (nth b k=y):=hy
    rw [hx] at x1
    rw [hy] at x2
    clear hx hy
    by_cases he:x=y
    ·have HE:Hid (x=y):=he
     subst he
     go_wp2
     go_quiet (fail)
     go_wp2
     go_roundw
     case rel=>exact ⟨k+1,by omega,by go_num,fun j hj=>if h:j=k then by subst h;rw [HX.out,HY.out] else HOK.out j (by omega),_,rfl⟩
     case measure=>simp [intOf];omega
    ·have HE:Hid (¬a=b):=fun h=>he (by rw [←HX.out,←HY.out,h])
     go_wp2
     go_quiet (fail)
     go_wp2
     go_ret
     exact ⟨ret_bool (by simpa using HE.out),below_drewN (below_drewN (Below.refl _ _) _) _⟩
   ·have HE:Hid (a=b):=nth_list (by rw [HN.out,HM.out]) fun i hi=>HOK.out i (by rw [HN.out] at hi;omega)
    go_wp2
    go_ret
    exact ⟨ret_bool (by simpa using HE.out),below_drewN (Below.refl _ _) _⟩
 ·have HE:Hid (¬a=b):=fun h=>hl (by rw [←HN.out,←HM.out,h])
  have hne:¬(n:Int)=(m:Int):=by omega
  go_enter Tryz.func102,Tryz.ntmps102
  go_wp2
  go_ret
  exact ⟨ret_bool (by simpa using HE.out),below_drewN (Below.refl _ _) 0⟩
theorem refsame_any (s1 s2:Value) (a b:List Int) (W:World) (h1:Si W s1 a) (h2:Si W s2 b) (hr:a.length*8≤140737488351232) :
  Calls Tryz.prog 63 #[s1,s2] W fun e w'=>e = .returned (.bool (decide (a=b)))∧Below W.heap.size W w':=by
 obtain ⟨a1,c1,rfl,hc1⟩:=h1
 obtain ⟨a2,c2,rfl,hc2⟩:=h2
 obtain ⟨n,hn⟩:∃ n,a.length=n:=⟨_,rfl⟩
 obtain ⟨m,hm⟩:∃ m,b.length=m:=⟨_,rfl⟩
 have HN:Hid (a.length=n):=hn
 have HM:Hid (b.length=m):=hm
 rw [hn] at hc1 hr ⊢
 rw [hm] at hc2 ⊢
 have HC1:Hid _:=hc1
 have HC2:Hid _:=hc2
 clear hn hm hc1 hc2
 by_cases hl:n=m
 ·subst hl
  go_enter Tryz.func63,Tryz.ntmps63
  go_wp2
  go_loopw [5] (fun i wr=>∃ k:Nat,k≤n∧i = .int .i64 (k:Int)∧Hid (∀ j,j<k→nth a j=nth b j)∧∃ nq,wr=W.drewN nq) (fun i _=>n-(intOf i).toNat)
  case atStart=>exact ⟨0,Nat.zero_le _,rfl,fun j hj=>absurd hj (by omega),0,rfl⟩
  case round =>
   obtain ⟨k,hk,rfl,HOK,nq0,rfl⟩:=hrel
   by_cases hlt:k<n
   ·obtain ⟨b1,o1,rfl,_,hcell1⟩:=HC1.out (by omega)
    obtain ⟨b2,o2,rfl,_,hcell2⟩:=HC2.out (by omega)
    have x1:=hcell1 k hlt
    have x2:=hcell2 k hlt
    have kk:(k:Int)<(n:Int):=by omega
    clear hcell1 hcell2 HC1 HC2
    obtain ⟨x,hx⟩:∃ x,nth a k=x:=⟨_,rfl⟩
    obtain ⟨y,hy⟩:∃ x,nth b k=x:=⟨_,rfl⟩
    have HX:Hid (nth a k=x):=hx
    have HY:Hid (nth b k=y):=hy
    rw [hx] at x1
    rw [hy] at x2
    clear hx hy
    by_cases he:x=y
    ·have HE:Hid (x=y):=he
     subst he
     go_wp2
     go_quiet (fail)
     go_wp2
     go_roundw
     case rel=>exact ⟨k+1,by omega,by go_num,fun j hj=>if h:j=k then by subst h;rw [HX.out,HY.out] else HOK.out j (by omega),_,rfl⟩
     case measure=>simp [intOf];omega
    ·have HE:Hid (¬a=b):=fun h=>he (by rw [←HX.out,←HY.out,h])
     go_wp2
     go_quiet (fail)
     go_wp2
     go_ret
     exact ⟨ret_bool (by simpa using HE.out),below_drewN (below_drewN (Below.refl _ _) _) _⟩
   ·have HE:Hid (a=b):=nth_list (by rw [HN.out,HM.out]) fun i hi=>HOK.out i (by rw [HN.out] at hi;omega)
    go_wp2
    go_ret
    exact ⟨ret_bool (by simpa using HE.out),below_drewN (Below.refl _ _) _⟩
 ·have HE:Hid (¬a=b):=fun h=>hl (by rw [←HN.out,←HM.out,h])
  have hne:¬(n:Int)=(m:Int):=by omega
  go_enter Tryz.func63,Tryz.ntmps63
  go_wp2
  go_ret
  exact ⟨ret_bool (by simpa using HE.out),below_drewN (Below.refl _ _) 0⟩
end Go.Proofs.YtghnfnieppfhgaaGreat.St
