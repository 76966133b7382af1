/- What is proved here: slices.Clone of numbers; sets.none and sets.tight. What is proved here: sets.Right, Empty, taken and Of of any domain. What is proved here: sets.Empty, taken and Of of any domain. What is proved here: a row of six cells that holds a domain of sets: read, kept, written. What is proved here: the reference's Meet and Less of any lists. What is proved here: the reference's put of any list: a value laid into its place. What is proved here: the reference's Join and Sym of any lists. -/
import Derived.Test.YtghnfnieppfhgaaGreatYSdj
import Derived.Lib.MinMax
set_option linter.unusedVariables false
set_option linter.unusedSimpArgs false
set_option maxHeartbeats 4000000
set_option maxRecDepth 100000
namespace Go.Proofs.YtghnfnieppfhgaaGreat.St
open Go.RowKit Go.Shelf
theorem clone_any (s:Value) (l:List Int) (W:World) (h:Si W s l) (hl:l.length≤100000) :
  Calls Tryz.prog 79 #[s] W fun e w'=>∃ v,e = .returned v∧w'.ownsRow W.heap.size 2 1 v l.length (intv l)∧Below W.heap.size W w':=by
 obtain ⟨a,cap,rfl,hc⟩:=h
 cases a with
 | none =>
  have h0:l.length=0:=by
   apply Classical.byContradiction;intro hn
   obtain ⟨_,_,e,_⟩:=hc (by omega)
   cases e
  obtain rfl:=List.eq_nil_of_length_eq_zero h0
  exact (AnyG.slices_Clone_int_nil Tryz.laysClone 0 cap W).mono fun e w' ⟨he,hw⟩=>⟨_,he,by simpa [intv] using World.ownsRow_nil _ _ _ _,by rw [hw];exact Below.refl _ _⟩
 | some ad =>
  rcases Nat.eq_zero_or_pos l.length with h0 | h0
  ·obtain rfl:=List.eq_nil_of_length_eq_zero h0
   exact (AnyG.slices_Clone_int_zero Tryz.laysClone ad cap W).mono fun e w' ⟨v,he,hr,_,hb⟩=>⟨v,he,hr,hb⟩
  ·obtain ⟨b,off,e,hlt,hcell⟩:=hc h0
   injection e with e
   subst e
   have:=AnyG.slices_Clone_int Tryz.laysClone b off l.length cap l W (Nat.le_refl _) (by omega) (fun j hj=>by rw [nth_getD];exact hcell j hj)
   rw [List.take_length] at this
   exact this.mono fun e w' ⟨v,he,hr,_,hb⟩=>⟨v,he,hr,hb⟩
structure SD where
 set:Bool
 rn:Nat
 lo:List Int
 up:List Int
 least:Int
 most:Int
def noneD:SD:=⟨true,0,[],[],1,0⟩
def tightD (lo up:List Int) (least most:Int):SD :=
 let L:=max least lo.length
 let M:=min most up.length
 if M<L then noneD else
  let lo':=if L=up.length then up else lo
  let up':=if M=lo'.length then lo' else up
  ⟨true,0,lo',up',max L lo'.length,min M up'.length⟩
def Dv (B:Nat) (W:World) (v:Value) (d:SD):Prop :=
 ∃ slo sup,v = .agg #[.bool d.set,.slice none 0 0,slo,sup,.int .i64 d.least,.int .i64 d.most]∧d.rn=0∧W.ownsRow B 2 1 slo d.lo.length (intv d.lo)∧W.ownsRow B 2 1 sup d.up.length (intv d.up)
theorem none_at (W:World):Calls Tryz.prog 114 #[] W fun e w'=>e = .returned (.agg #[.bool true,.slice none 0 0,.slice none 0 0,.slice none 0 0,.int .i64 1,.int .i64 0])∧Below W.heap.size W w':=by
 go_enter Tryz.func114,Tryz.ntmps114
 go_wp2
 refine ⟨rfl,_,results_cell_row (P:=Tryz.prog) rfl _ _ W.heap.size 37 _ (0,0) _ rfl (World.alloc_heap_new W _) Tryz.underlying37 rfl (by kernel_rfl),rfl,(Below.refl _ W).alloc (Nat.le_refl _) _⟩
theorem none_dv (B:Nat) (W:World):Dv B W (.agg #[.bool true,.slice none 0 0,.slice none 0 0,.slice none 0 0,.int .i64 1,.int .i64 0]) noneD :=
 ⟨_,_,rfl,rfl,by simpa [noneD,intv] using World.ownsRow_nil _ _ _ _,by simpa [noneD,intv] using World.ownsRow_nil _ _ _ _⟩
theorem own_slice {W:World} {B n:Nat} {v:Value} {xs:List Value} (h:W.ownsRow B 2 1 v n xs):∃ p c,v = .slice p n c:=by
 rcases h.2 with ⟨e1,e2⟩ | ⟨g,cap,cur,e1,_⟩
 ·exact ⟨none,0,by rw [e1,e2]⟩
 ·exact ⟨_,_,e1⟩
theorem Tryz.size37:(Tryz.prog.info? 37).map (·.size)=some 6:=by kernel_rfl
theorem Dv.below {B:Nat} {W W':World} {v:Value} {d:SD} (h:Dv B W v d) (hb:Below W.heap.size W W'):Dv B W' v d:=by
 obtain ⟨slo,sup,e,e0,h1,h2⟩:=h
 exact ⟨slo,sup,e,e0,own_keepB h1 hb,own_keepB h2 hb⟩
theorem own_setRow {W:World} {B n:Nat} {v:Value} {xs:List Value} (h:W.ownsRow B 2 1 v n xs) (g:Nat) (cs:Array Value) {old:Array Value} (hg:W.heap[g]? = some (.cells old 37 (0,0))):(W.setRow g cs).ownsRow B 2 1 v n xs :=
 ⟨h.1,by
  rcases h.2 with h2 | ⟨g',cap,cur,e1,hB,hgb,r⟩
  ·exact .inl h2
  ·refine .inr ⟨g',cap,cur,e1,hB,?_,r⟩
   rw [setRow_other W g g' cs (fun e=>by subst e;rw [hg] at hgb;cases hgb)]
   exact hgb⟩
theorem tight_any (s1 s2:Value) (lo up:List Int) (least most:Int) (W:World) (h1:Si W s1 lo) (h2:Si W s2 up) (hl1:lo.length≤1000) (hl2:up.length≤1000) :
  Calls Tryz.prog 115 #[s1,s2,.int .i64 least,.int .i64 most] W fun e w'=>∃ v,e = .returned v∧Dv W.heap.size w' v (tightD lo up least most)∧Below W.heap.size W w':=by
 have hb0:Below W.heap.size W (W.alloc (.cells #[.bool false,.slice none 0 0,.slice none 0 0,.slice none 0 0,.int .i64 0,.int .i64 0] 37)):=(Below.refl _ W).alloc (Nat.le_refl _) _
 have hnw:=World.alloc_heap_new W (Obj.cells #[.bool false,.slice none 0 0,.slice none 0 0,.slice none 0 0,.int .i64 0,.int .i64 0] 37)
 have h1':=h1
 have h2':=h2
 obtain ⟨a1,c1,rfl,_⟩:=h1'
 obtain ⟨a2,c2,rfl,_⟩:=h2'
 obtain ⟨n1,hn1⟩:∃ n,lo.length=n:=⟨_,rfl⟩
 obtain ⟨n2,hn2⟩:∃ n,up.length=n:=⟨_,rfl⟩
 have HN1:Hid (lo.length=n1):=hn1
 have HN2:Hid (up.length=n2):=hn2
 rw [hn1] at h1 hl1 ⊢
 rw [hn2] at h2 hl2 ⊢
 have HLO:Hid (Si W (.slice a1 n1 c1) lo):=h1
 have HUP:Hid (Si W (.slice a2 n2 c2) up):=h2
 obtain ⟨L,hL⟩:∃ L,max least (n1:Int)=L:=⟨_,rfl⟩
 obtain ⟨M,hM⟩:∃ M,min most (n2:Int)=M:=⟨_,rfl⟩
 have HL:Hid (max least (n1:Int)=L):=hL
 have HM:Hid (min most (n2:Int)=M):=hM
 have hLn:(n1:Int)≤L:=by omega
 have hMn:M≤(n2:Int):=by omega
 clear h1 h2 hn1 hn2
 by_cases hLM:M<L
 ·have hd:decide (M<L)=true:=by simpa using hLM
  have HD:Hid (tightD lo up least most=noneD):=by
   unfold Hid tightD
   simp only [HN1.out,HN2.out,HL.out,HM.out]
   rw [if_pos hLM]
  go_enter Tryz.func115,Tryz.ntmps115
  go_wp2_with fail
  refine (none_at _).mono ?_
  rintro e w1 ⟨rfl,hb1⟩
  have hB1:Below W.heap.size W w1:=hb0.trans (hb1.mono hb0.size)
  have hg1:=(hb1.block W.heap.size (by simp)).trans hnw
  have HG1:Hid _:=hg1
  have hBS:=below_setRow hB1 (Nat.le_refl W.heap.size) #[.bool true,.slice none 0 0,.slice none 0 0,.slice none 0 0,.int .i64 1,.int .i64 0]
  have HROW:Hid _:=setRow_heap w1 W.heap.size _ #[.bool true,.slice none 0 0,.slice none 0 0,.slice none 0 0,.int .i64 1,.int .i64 0] 37 (0,0) HG1.out
  clear hg1 hb1 hB1 hnw hb0
  have HSZ:Hid ((Tryz.prog.info? 37).map (·.size)=some (#[.bool true,.slice none 0 0,.slice none 0 0,.slice none 0 0,.int .i64 1,.int .i64 0]:Array Value).size):=Tryz.size37
  have HSO:Hid ((#[.bool false,.slice none 0 0,.slice none 0 0,.slice none 0 0,.int .i64 0,.int .i64 0]:Array Value).size=(#[.bool true,.slice none 0 0,.slice none 0 0,.slice none 0 0,.int .i64 1,.int .i64 0]:Array Value).size):=rfl
  have HSA:Hid ((#[.bool true,.slice none 0 0,.slice none 0 0,.slice none 0 0,.int .i64 1,.int .i64 0]:Array Value).all (·.oneCell')=true):=by unfold Hid;simp [Value.oneCell']
  go_wp2_with (with_reducible refine wpList_store_row rfl 37 (.tmp 8) (.tmp 20) rfl W.heap.size #[.bool true,.slice none 0 0,.slice none 0 0,.slice none 0 0,.int .i64 1,.int .i64 0] (by with_unfolding_all rfl) (by with_unfolding_all rfl) 37 _ HG1.out HSZ.out HSO.out HSA.out ?_)
  refine ⟨rfl,_,results_cell_row (P:=Tryz.prog) rfl _ _ W.heap.size 37 _ (0,0) _ rfl HROW.out Tryz.underlying37 rfl (by kernel_rfl),⟨_,rfl,?_,hBS⟩⟩
  rw [HD.out]
  exact none_dv _ _
 ·have hd:decide (M<L)=false:=by simpa using hLM
  by_cases e1:L=(n2:Int)
  ·have e1':(L==(n2:Int))=true:=by simpa using e1
   have hMe:M=(n2:Int):=by omega
   have e2':(M==(n2:Int))=true:=by simpa using hMe
   obtain ⟨LL,hLL⟩:∃ x,max L (n2:Int)=x:=⟨_,rfl⟩
   obtain ⟨MM,hMM⟩:∃ x,min M (n2:Int)=x:=⟨_,rfl⟩
   have HE:Hid (L=(n2:Int)∧M=(n2:Int)):=⟨e1,hMe⟩
   clear e1 hMe
   go_enter Tryz.func115,Tryz.ntmps115
   have HD:Hid (tightD lo up least most=⟨true,0,up,up,LL,MM⟩):=by
    unfold Hid tightD
    simp only [HN1.out,HN2.out,HL.out,HM.out]
    rw [if_neg (by omega)]
    simp only [if_pos HE.out.1]
    simp only [HN2.out,if_pos HE.out.2]
    simp only [HN1.out,HN2.out,hLL,hMM]
   go_wp2_with fail
   refine (clone_any _ up _ ((HUP.out).below hb0) (by rw [HN2.out];omega)).mono ?_
   rintro e w1 ⟨v1,rfl,hr1,hb1⟩
   have hB1:Below W.heap.size W w1:=hb0.trans (hb1.mono hb0.size)
   have hcl2:=clone_any _ up w1 ((HUP.out).below hB1) (by rw [HN2.out];omega)
   rw [HN2.out] at hr1
   obtain ⟨p1,k1,rfl⟩:=own_slice hr1
   have hg1:=(hb1.block W.heap.size (by simp)).trans hnw
   go_wp2_with fail
   refine hcl2.mono ?_
   clear hcl2
   rintro e w2 ⟨v2,rfl,hr2,hb2⟩
   have hB2:Below W.heap.size W w2:=hB1.trans (hb2.mono hB1.size)
   rw [HN2.out] at hr2
   obtain ⟨p2,k2,rfl⟩:=own_slice hr2
   have hg2:w2.heap[W.heap.size]? = _:=(hb2.block W.heap.size (by have:=(Array.getElem?_eq_some_iff.1 hg1).1;exact this)).trans hg1
   have HG2:Hid _:=hg2
   have hR1:=own_keepB (own_base hr1 hb0.size) hb2
   have hR2:=own_base hr2 hB1.size
   clear hg1 hg2 hb1 hb2 hr1 hr2 hB1 hnw hb0
   have hBS:=below_setRow hB2 (Nat.le_refl W.heap.size) #[.bool true,.slice none 0 0,.slice p1 n2 k1,.slice p2 n2 k2,.int .i64 LL,.int .i64 MM]
   have hROW:=setRow_heap w2 W.heap.size _ #[.bool true,.slice none 0 0,.slice p1 n2 k1,.slice p2 n2 k2,.int .i64 LL,.int .i64 MM] 37 (0,0) HG2.out
   have HROW:Hid _:=hROW
   have hO1:=own_setRow hR1 W.heap.size #[.bool true,.slice none 0 0,.slice p1 n2 k1,.slice p2 n2 k2,.int .i64 LL,.int .i64 MM] HG2.out
   have hO2:=own_setRow hR2 W.heap.size #[.bool true,.slice none 0 0,.slice p1 n2 k1,.slice p2 n2 k2,.int .i64 LL,.int .i64 MM] HG2.out
   clear hROW hR1 hR2 hB2
   have HSZ:Hid ((Tryz.prog.info? 37).map (·.size)=some (#[.bool true,.slice none 0 0,.slice p1 n2 k1,.slice p2 n2 k2,.int .i64 LL,.int .i64 MM]:Array Value).size):=Tryz.size37
   have HSO:Hid ((#[.bool false,.slice none 0 0,.slice none 0 0,.slice none 0 0,.int .i64 0,.int .i64 0]:Array Value).size=(#[.bool true,.slice none 0 0,.slice p1 n2 k1,.slice p2 n2 k2,.int .i64 LL,.int .i64 MM]:Array Value).size):=rfl
   have HSA:Hid ((#[.bool true,.slice none 0 0,.slice p1 n2 k1,.slice p2 n2 k2,.int .i64 LL,.int .i64 MM]:Array Value).all (·.oneCell')=true):=by unfold Hid;simp [Value.oneCell']
   go_wp2_with (with_reducible refine wpList_store_row rfl 37 (.tmp 8) (.tmp 43) rfl W.heap.size #[.bool true,.slice none 0 0,.slice p1 n2 k1,.slice p2 n2 k2,.int .i64 LL,.int .i64 MM] (by with_unfolding_all rfl) (by with_unfolding_all rfl) 37 _ HG2.out HSZ.out HSO.out HSA.out ?_)
   refine ⟨rfl,_,results_cell_row (P:=Tryz.prog) rfl _ _ W.heap.size 37 _ (0,0) _ rfl HROW.out Tryz.underlying37 rfl (by kernel_rfl),⟨_,rfl,?_,hBS⟩⟩
   rw [HD.out]
   exact ⟨_,_,rfl,rfl,by rw [HN2.out];exact hO1,by rw [HN2.out];exact hO2⟩
  ·have e1':(L==(n2:Int))=false:=by simpa using e1
   have HE1:Hid (¬L=(n2:Int)):=e1
   by_cases e2:M=(n1:Int)
   ·have e2':(M==(n1:Int))=true:=by simpa using e2
    have HE2:Hid (M=(n1:Int)):=e2
    obtain ⟨LL,hLL⟩:∃ x,max L (n1:Int)=x:=⟨_,rfl⟩
    obtain ⟨MM,hMM⟩:∃ x,min M (n1:Int)=x:=⟨_,rfl⟩
    clear e1 e2
    go_enter Tryz.func115,Tryz.ntmps115
    have HD:Hid (tightD lo up least most=⟨true,0,lo,lo,LL,MM⟩):=by
     unfold Hid tightD
     simp only [HN1.out,HN2.out,HL.out,HM.out]
     rw [if_neg (by omega)]
     simp only [if_neg HE1.out]
     simp only [HN1.out,if_pos HE2.out]
     simp only [HN1.out,HN2.out,hLL,hMM]
    go_wp2_with fail
    refine (clone_any _ lo _ ((HLO.out).below hb0) (by rw [HN1.out];omega)).mono ?_
    rintro e w1 ⟨v1,rfl,hr1,hb1⟩
    have hB1:Below W.heap.size W w1:=hb0.trans (hb1.mono hb0.size)
    have hcl2:=clone_any _ lo w1 ((HLO.out).below hB1) (by rw [HN1.out];omega)
    rw [HN1.out] at hr1
    obtain ⟨p1,k1,rfl⟩:=own_slice hr1
    have hg1:=(hb1.block W.heap.size (by simp)).trans hnw
    go_wp2_with fail
    refine hcl2.mono ?_
    clear hcl2
    rintro e w2 ⟨v2,rfl,hr2,hb2⟩
    have hB2:Below W.heap.size W w2:=hB1.trans (hb2.mono hB1.size)
    rw [HN1.out] at hr2
    obtain ⟨p2,k2,rfl⟩:=own_slice hr2
    have hg2:w2.heap[W.heap.size]? = _:=(hb2.block W.heap.size (by have:=(Array.getElem?_eq_some_iff.1 hg1).1;exact this)).trans hg1
    have HG2:Hid _:=hg2
    have hR1:=own_keepB (own_base hr1 hb0.size) hb2
    have hR2:=own_base hr2 hB1.size
    clear hg1 hg2 hb1 hb2 hr1 hr2 hB1 hnw hb0
    have hBS:=below_setRow hB2 (Nat.le_refl W.heap.size) #[.bool true,.slice none 0 0,.slice p1 n1 k1,.slice p2 n1 k2,.int .i64 LL,.int .i64 MM]
    have hROW:=setRow_heap w2 W.heap.size _ #[.bool true,.slice none 0 0,.slice p1 n1 k1,.slice p2 n1 k2,.int .i64 LL,.int .i64 MM] 37 (0,0) HG2.out
    have HROW:Hid _:=hROW
    have hO1:=own_setRow hR1 W.heap.size #[.bool true,.slice none 0 0,.slice p1 n1 k1,.slice p2 n1 k2,.int .i64 LL,.int .i64 MM] HG2.out
    have hO2:=own_setRow hR2 W.heap.size #[.bool true,.slice none 0 0,.slice p1 n1 k1,.slice p2 n1 k2,.int .i64 LL,.int .i64 MM] HG2.out
    clear hROW hR1 hR2 hB2
    have HSZ:Hid ((Tryz.prog.info? 37).map (·.size)=some (#[.bool true,.slice none 0 0,.slice p1 n1 k1,.slice p2 n1 k2,.int .i64 LL,.int .i64 MM]:Array Value).size):=Tryz.size37
    have HSO:Hid ((#[.bool false,.slice none 0 0,.slice none 0 0,.slice none 0 0,.int .i64 0,.int .i64 0]:Array Value).size=(#[.bool true,.slice none 0 0,.slice p1 n1 k1,.slice p2 n1 k2,.int .i64 LL,.int .i64 MM]:Array Value).size):=rfl
    have HSA:Hid ((#[.bool true,.slice none 0 0,.slice p1 n1 k1,.slice p2 n1 k2,.int .i64 LL,.int .i64 MM]:Array Value).all (·.oneCell')=true):=by unfold Hid;simp [Value.oneCell']
    go_wp2_with (with_reducible refine wpList_store_row rfl 37 (.tmp 8) (.tmp 43) rfl W.heap.size #[.bool true,.slice none 0 0,.slice p1 n1 k1,.slice p2 n1 k2,.int .i64 LL,.int .i64 MM] (by with_unfolding_all rfl) (by with_unfolding_all rfl) 37 _ HG2.out HSZ.out HSO.out HSA.out ?_)
    refine ⟨rfl,_,results_cell_row (P:=Tryz.prog) rfl _ _ W.heap.size 37 _ (0,0) _ rfl HROW.out Tryz.underlying37 rfl (by kernel_rfl),⟨_,rfl,?_,hBS⟩⟩
    rw [HD.out]
    exact ⟨_,_,rfl,rfl,by rw [HN1.out];exact hO1,by rw [HN1.out];exact hO2⟩
   ·have e2':(M==(n1:Int))=false:=by simpa using e2
    have HE2:Hid (¬M=(n1:Int)):=e2
    obtain ⟨LL,hLL⟩:∃ x,max L (n1:Int)=x:=⟨_,rfl⟩
    obtain ⟨MM,hMM⟩:∃ x,min M (n2:Int)=x:=⟨_,rfl⟩
    clear e1 e2
    go_enter Tryz.func115,Tryz.ntmps115
    have HD:Hid (tightD lo up least most=⟨true,0,lo,up,LL,MM⟩):=by
     unfold Hid tightD
     simp only [HN1.out,HN2.out,HL.out,HM.out]
     rw [if_neg (by omega)]
     simp only [if_neg HE1.out]
     simp only [HN1.out,if_neg HE2.out]
     simp only [HN1.out,HN2.out,hLL,hMM]
    go_wp2_with fail
    refine (clone_any _ lo _ ((HLO.out).below hb0) (by rw [HN1.out];omega)).mono ?_
    rintro e w1 ⟨v1,rfl,hr1,hb1⟩
    have hB1:Below W.heap.size W w1:=hb0.trans (hb1.mono hb0.size)
    have hcl2:=clone_any _ up w1 ((HUP.out).below hB1) (by rw [HN2.out];omega)
    rw [HN1.out] at hr1
    obtain ⟨p1,k1,rfl⟩:=own_slice hr1
    have hg1:=(hb1.block W.heap.size (by simp)).trans hnw
    go_wp2_with fail
    refine hcl2.mono ?_
    clear hcl2
    rintro e w2 ⟨v2,rfl,hr2,hb2⟩
    have hB2:Below W.heap.size W w2:=hB1.trans (hb2.mono hB1.size)
    rw [HN2.out] at hr2
    obtain ⟨p2,k2,rfl⟩:=own_slice hr2
    have hg2:w2.heap[W.heap.size]? = _:=(hb2.block W.heap.size (by have:=(Array.getElem?_eq_some_iff.1 hg1).1;exact this)).trans hg1
    have HG2:Hid _:=hg2
    have hR1:=own_keepB (own_base hr1 hb0.size) hb2
    have hR2:=own_base hr2 hB1.size
    clear hg1 hg2 hb1 hb2 hr1 hr2 hB1 hnw hb0
    have hBS:=below_setRow hB2 (Nat.le_refl W.heap.size) #[.bool true,.slice none 0 0,.slice p1 n1 k1,.slice p2 n2 k2,.int .i64 LL,.int .i64 MM]
    have hROW:=setRow_heap w2 W.heap.size _ #[.bool true,.slice none 0 0,.slice p1 n1 k1,.slice p2 n2 k2,.int .i64 LL,.int .i64 MM] 37 (0,0) HG2.out
    have HROW:Hid _:=hROW
    have hO1:=own_setRow hR1 W.heap.size #[.bool true,.slice none 0 0,.slice p1 n1 k1,.slice p2 n2 k2,.int .i64 LL,.int .i64 MM] HG2.out
    have hO2:=own_setRow hR2 W.heap.size #[.bool true,.slice none 0 0,.slice p1 n1 k1,.slice p2 n2 k2,.int .i64 LL,.int .i64 MM] HG2.out
    clear hROW hR1 hR2 hB2
    have HSZ:Hid ((Tryz.prog.info? 37).map (·.size)=some (#[.bool true,.slice none 0 0,.slice p1 n1 k1,.slice p2 n2 k2,.int .i64 LL,.int .i64 MM]:Array Value).size):=Tryz.size37
    have HSO:Hid ((#[.bool false,.slice none 0 0,.slice none 0 0,.slice none 0 0,.int .i64 0,.int .i64 0]:Array Value).size=(#[.bool true,.slice none 0 0,.slice p1 n1 k1,.slice p2 n2 k2,.int .i64 LL,.int .i64 MM]:Array Value).size):=rfl
    have HSA:Hid ((#[.bool true,.slice none 0 0,.slice p1 n1 k1,.slice p2 n2 k2,.int .i64 LL,.int .i64 MM]:Array Value).all (·.oneCell')=true):=by unfold Hid;simp [Value.oneCell']
    go_wp2_with (with_reducible refine wpList_store_row rfl 37 (.tmp 8) (.tmp 43) rfl W.heap.size #[.bool true,.slice none 0 0,.slice p1 n1 k1,.slice p2 n2 k2,.int .i64 LL,.int .i64 MM] (by with_unfolding_all rfl) (by with_unfolding_all rfl) 37 _ HG2.out HSZ.out HSO.out HSA.out ?_)
    refine ⟨rfl,_,results_cell_row (P:=Tryz.prog) rfl _ _ W.heap.size 37 _ (0,0) _ rfl HROW.out Tryz.underlying37 rfl (by kernel_rfl),⟨_,rfl,?_,hBS⟩⟩
    rw [HD.out]
    exact ⟨_,_,rfl,rfl,by rw [HN1.out];exact hO1,by rw [HN2.out];exact hO2⟩
def Di (W:World) (v:Value) (d:SD):Prop :=
 ∃ ra rc slo sup,v = .agg #[.bool d.set,.slice ra d.rn rc,slo,sup,.int .i64 d.least,.int .i64 d.most]∧Si W slo d.lo∧Si W sup d.up
theorem Di.below {W W':World} {v:Value} {d:SD} (h:Di W v d) (hb:Below W.heap.size W W'):Di W' v d:=by
 obtain ⟨ra,rc,slo,sup,e,h1,h2⟩:=h
 exact ⟨ra,rc,slo,sup,e,h1.below hb,h2.below hb⟩
theorem Dv.di {B:Nat} {W:World} {v:Value} {d:SD} (h:Dv B W v d):Di W v d:=by
 obtain ⟨slo,sup,e,e0,h1,h2⟩:=h
 exact ⟨none,0,slo,sup,by rw [e,e0],own_si h1,own_si h2⟩
def RightD (d:SD):Prop:=d.set=true∧d.rn=0∧IsSet d.lo∧IsSet d.up∧subB d.lo d.up=true∧((d.least=1∧d.most=0∧d.up.length=0)∨((d.lo.length:Int)≤d.least∧d.least≤d.most∧d.most≤d.up.length))
instance (d : SD) : Decidable (RightD d) := by unfold RightD; infer_instance
def rightD (d:SD):Bool:=decide (RightD d)
theorem six_cells {w:World} {g:Nat} {x0 x1 x2 x3 x4 x5:Value} (h:w.heap[g]? = some (.cells #[x0,x1,x2,x3,x4,x5] 37 (0,0))) :
  w.cell? ⟨g,0,none⟩=some x0∧w.cell? ⟨g,1,none⟩=some x1∧w.cell? ⟨g,2,none⟩=some x2∧w.cell? ⟨g,3,none⟩=some x3∧w.cell? ⟨g,4,none⟩=some x4∧w.cell? ⟨g,5,none⟩=some x5:=by
 refine ⟨?_,?_,?_,?_,?_,?_⟩<;>simp [World.cell?,h]
theorem setB_below (s:Value) (l:List Int) (W:World) (h:Si W s l):Calls Tryz.prog 94 #[s] W fun e w'=>e = .returned (.bool (setB l))∧Below W.heap.size W w' :=
 (set_any s l W h).mono fun e w' ⟨he,n,hw⟩=>⟨he,by rw [hw];exact below_drewN (Below.refl _ _) _⟩
theorem right_any (v:Value) (d:SD) (W:World) (h:Di W v d) :
  Calls Tryz.prog 67 #[v] W fun e w'=>e = .returned (.bool (rightD d))∧Below W.heap.size W w':=by
 obtain ⟨ra,rc,slo,sup,rfl,h1,h2⟩:=h
 obtain ⟨st,rn,lo,up,least,most⟩:=d
 simp only at h1 h2 ⊢
 obtain ⟨W0,hW0⟩:∃ X,W.alloc (Obj.cells #[.bool st,.slice ra rn rc,slo,sup,.int .i64 least,.int .i64 most] 37)=X:=⟨_,rfl⟩
 have hb0:Below W.heap.size W W0:=by rw [←hW0];exact (Below.refl _ W).alloc (Nat.le_refl _) _
 have hR0:W0.heap[W.heap.size]? = some (.cells #[.bool st,.slice ra rn rc,slo,sup,.int .i64 least,.int .i64 most] 37 (0,0)):=by rw [←hW0];exact World.alloc_heap_new W _
 have hlt0:W.heap.size<W0.heap.size:=(Array.getElem?_eq_some_iff.1 hR0).1
 have hs1:=setB_below slo lo W0 (h1.below hb0)
 have hs2:=fun X (hX:Below W.heap.size W X)=>setB_below sup up X (h2.below hX)
 have hs3:=fun X (hX:Below W.heap.size W X)=>sub_any slo sup lo up X (h1.below hX) (h2.below hX)
 obtain ⟨a1,c1,rfl,_⟩:=h1
 obtain ⟨a2,c2,rfl,_⟩:=h2
 obtain ⟨n1,hn1⟩:∃ n,lo.length=n:=⟨_,rfl⟩
 obtain ⟨n2,hn2⟩:∃ n,up.length=n:=⟨_,rfl⟩
 have HN1:Hid (lo.length=n1):=hn1
 have HN2:Hid (up.length=n2):=hn2
 rw [hn1] at hs1 hs3 hR0 hW0 ⊢
 rw [hn2] at hs2 hs3 hR0 hW0 ⊢
 have HR0:Hid _:=hR0
 have HW0:Hid _:=hW0
 obtain ⟨c0,c1',c2',c3,c4,c5⟩:=six_cells hR0
 clear hn1 hn2 hR0 hW0
 have hRD:∀ b,rightD ⟨st,rn,lo,up,least,most⟩=b→rightD ⟨st,rn,lo,up,least,most⟩=b:=fun _ h=>h
 clear hRD
 by_cases hst:st=true
 ·subst hst
  by_cases hrn:rn=0
  ·subst hrn
   by_cases hI1:IsSet lo
   ·rw [setB_yes hI1] at hs1
    have HI1:Hid (IsSet lo):=hI1
    by_cases hI2:IsSet up
    ·have HI2:Hid (IsSet up):=hI2
     simp only [setB_yes hI2] at hs2
     simp only [tkS_yes hI1,tkS_yes hI2] at hs3
     clear hI1 hI2
     by_cases hsu:subB lo up=true
     ·have HSU:Hid (subB lo up=true):=hsu
      simp only [hsu] at hs3
      clear hsu
      have HDD:Hid (rightD ⟨true,0,lo,up,least,most⟩=decide ((least=1∧most=0∧n2=0)∨((n1:Int)≤least∧least≤most∧most≤n2))):=by
       unfold Hid rightD
       rw [decide_eq_decide]
       unfold RightD
       simp only [HN1.out,HN2.out]
       exact ⟨fun h=>h.2.2.2.2.2,fun h=>⟨trivial,trivial,HI1.out,HI2.out,HSU.out,h⟩⟩
      go_enter Tryz.func67,Tryz.ntmps67
      go_upto_region 1 with (fail)
      rw [HW0.out]
      go_wp2_with fail
      refine hs1.mono ?_
      rintro e w1 ⟨rfl,hb1⟩
      have hB1:Below W.heap.size W w1:=hb0.trans (hb1.mono hb0.size)
      have hR1:=(hb1.block W.heap.size hlt0).trans HR0.out
      have hlt1:W.heap.size<w1.heap.size:=(Array.getElem?_eq_some_iff.1 hR1).1
      have HR1:Hid _:=hR1
      clear c0 c1' c2' c3 c4 c5
      obtain ⟨c0,c1',c2',c3,c4,c5⟩:=six_cells hR1
      clear hR1 hb1
      go_wp2_with fail
      refine (hs2 w1 hB1).mono ?_
      rintro e w2 ⟨rfl,hb2⟩
      have hB2:Below W.heap.size W w2:=hB1.trans (hb2.mono hB1.size)
      have hR2:=(hb2.block W.heap.size hlt1).trans HR1.out
      have hlt2:W.heap.size<w2.heap.size:=(Array.getElem?_eq_some_iff.1 hR2).1
      have HR2:Hid _:=hR2
      clear c0 c1' c2' c3 c4 c5
      obtain ⟨c0,c1',c2',c3,c4,c5⟩:=six_cells hR2
      clear hR2 hb2
      go_wp2_with fail
      refine (hs3 w2 hB2).mono ?_
      rintro e w3 ⟨rfl,hb3⟩
      have hB3:Below W.heap.size W w3:=hB2.trans (hb3.mono hB2.size)
      have hR3:=(hb3.block W.heap.size hlt2).trans HR2.out
      clear c0 c1' c2' c3 c4 c5
      obtain ⟨c0,c1',c2',c3,c4,c5⟩:=six_cells hR3
      clear hR3 hb3
      clear hs1 hs2 hs3
      by_cases hl:least=1
      ·by_cases hm:most=0
       ·by_cases hu:n2=0
        ·subst hl;subst hm;subst hu
         go_wp2
         go_ret
         exact ⟨ret_bool (by rw [HDD.out];simp),hB3⟩
        ·subst hl;subst hm
         have hu':((n2:Int)==0)=false:=by simp;omega
         have HF:Hid (decide (((1:Int)=1∧(0:Int)=0∧n2=0)∨((n1:Int)≤1∧(1:Int)≤0∧(0:Int)≤n2))=false):=by unfold Hid;rw [decide_eq_false_iff_not];omega
         by_cases hx:(n1:Int)≤1
         ·go_wp2
          go_ret
          exact ⟨ret_bool (by rw [HDD.out,HF.out]),hB3⟩
         ·go_wp2
          go_ret
          exact ⟨ret_bool (by rw [HDD.out,HF.out]),hB3⟩
       ·subst hl
        have hm':(most==0)=false:=by simpa using hm
        have HF:Hid (decide (((1:Int)=1∧most=0∧n2=0)∨((n1:Int)≤1∧(1:Int)≤most∧most≤n2))=decide ((n1:Int)≤1∧(1:Int)≤most∧most≤n2)):=by unfold Hid;rw [decide_eq_decide];omega
        by_cases hx:(n1:Int)≤1
        ·by_cases hy:(1:Int)≤most
         ·by_cases hz:most≤(n2:Int)
          ·go_wp2
           go_ret
           exact ⟨ret_bool (by rw [HDD.out,HF.out];simp [hx,hy,hz]),hB3⟩
          ·go_wp2
           go_ret
           exact ⟨ret_bool (by rw [HDD.out,HF.out];first | (simp only [Bool.false_eq,decide_eq_false_iff_not];omega) | (rw [decide_eq_decide];omega) | (simp;omega)),hB3⟩
         ·go_wp2
          go_ret
          exact ⟨ret_bool (by rw [HDD.out,HF.out];first | (simp only [Bool.false_eq,decide_eq_false_iff_not];omega) | (rw [decide_eq_decide];omega) | (simp;omega)),hB3⟩
        ·go_wp2
         go_ret
         exact ⟨ret_bool (by rw [HDD.out,HF.out];first | (simp only [Bool.false_eq,decide_eq_false_iff_not];omega) | (rw [decide_eq_decide];omega) | (simp;omega)),hB3⟩
      ·have hl':(least==1)=false:=by simpa using hl
       have HF:Hid (decide ((least=1∧most=0∧n2=0)∨((n1:Int)≤least∧least≤most∧most≤n2))=decide ((n1:Int)≤least∧least≤most∧most≤n2)):=by unfold Hid;rw [decide_eq_decide];omega
       by_cases hx:(n1:Int)≤least
       ·by_cases hy:least≤most
        ·by_cases hz:most≤(n2:Int)
         ·go_wp2
          go_ret
          exact ⟨ret_bool (by rw [HDD.out,HF.out];simp [hx,hy,hz]),hB3⟩
         ·go_wp2
          go_ret
          exact ⟨ret_bool (by rw [HDD.out,HF.out];first | (simp only [Bool.false_eq,decide_eq_false_iff_not];omega) | (rw [decide_eq_decide];omega) | (simp;omega)),hB3⟩
        ·go_wp2
         go_ret
         exact ⟨ret_bool (by rw [HDD.out,HF.out];first | (simp only [Bool.false_eq,decide_eq_false_iff_not];omega) | (rw [decide_eq_decide];omega) | (simp;omega)),hB3⟩
       ·go_wp2
        go_ret
        exact ⟨ret_bool (by rw [HDD.out,HF.out];first | (simp only [Bool.false_eq,decide_eq_false_iff_not];omega) | (rw [decide_eq_decide];omega) | (simp;omega)),hB3⟩
     ·have hsu':subB lo up=false:=by simpa using hsu
      have HSU:Hid (subB lo up=false):=hsu'
      simp only [hsu'] at hs3
      clear hsu hsu'
      go_enter Tryz.func67,Tryz.ntmps67
      go_upto_region 1 with (fail)
      rw [HW0.out]
      go_wp2_with fail
      refine hs1.mono ?_
      rintro e w1 ⟨rfl,hb1⟩
      have hB1:Below W.heap.size W w1:=hb0.trans (hb1.mono hb0.size)
      have hR1:=(hb1.block W.heap.size hlt0).trans HR0.out
      have hlt1:W.heap.size<w1.heap.size:=(Array.getElem?_eq_some_iff.1 hR1).1
      have HR1:Hid _:=hR1
      clear c0 c1' c2' c3 c4 c5
      obtain ⟨c0,c1',c2',c3,c4,c5⟩:=six_cells hR1
      clear hR1 hb1
      go_wp2_with fail
      refine (hs2 w1 hB1).mono ?_
      rintro e w2 ⟨rfl,hb2⟩
      have hB2:Below W.heap.size W w2:=hB1.trans (hb2.mono hB1.size)
      have hR2:=(hb2.block W.heap.size hlt1).trans HR1.out
      have hlt2:W.heap.size<w2.heap.size:=(Array.getElem?_eq_some_iff.1 hR2).1
      have HR2:Hid _:=hR2
      clear c0 c1' c2' c3 c4 c5
      obtain ⟨c0,c1',c2',c3,c4,c5⟩:=six_cells hR2
      clear hR2 hb2
      go_wp2_with fail
      refine (hs3 w2 hB2).mono ?_
      rintro e w3 ⟨rfl,hb3⟩
      have hB3:Below W.heap.size W w3:=hB2.trans (hb3.mono hB2.size)
      go_wp2
      go_ret
      exact ⟨ret_bool (by unfold rightD;rw [decide_eq_false (fun h=>by have:=h.2.2.2.2.1;simp only at this;rw [HSU.out] at this;cases this)]),hB3⟩
    ·have HI2:Hid (¬IsSet up):=hI2
     simp only [setB_no hI2] at hs2
     clear hI1 hI2 hs3
     go_enter Tryz.func67,Tryz.ntmps67
     go_upto_region 1 with (fail)
     rw [HW0.out]
     go_wp2_with fail
     refine hs1.mono ?_
     rintro e w1 ⟨rfl,hb1⟩
     have hB1:Below W.heap.size W w1:=hb0.trans (hb1.mono hb0.size)
     have hR1:=(hb1.block W.heap.size hlt0).trans HR0.out
     have hlt1:W.heap.size<w1.heap.size:=(Array.getElem?_eq_some_iff.1 hR1).1
     have HR1:Hid _:=hR1
     clear c0 c1' c2' c3 c4 c5
     obtain ⟨c0,c1',c2',c3,c4,c5⟩:=six_cells hR1
     clear hR1 hb1
     go_wp2_with fail
     refine (hs2 w1 hB1).mono ?_
     rintro e w2 ⟨rfl,hb2⟩
     have hB2:Below W.heap.size W w2:=hB1.trans (hb2.mono hB1.size)
     go_wp2
     go_ret
     exact ⟨ret_bool (by unfold rightD;rw [decide_eq_false (fun h=>HI2.out h.2.2.2.1)]),hB2⟩
   ·have HI1:Hid (¬IsSet lo):=hI1
    rw [setB_no hI1] at hs1
    clear hI1 hs2 hs3
    go_enter Tryz.func67,Tryz.ntmps67
    go_upto_region 1 with (fail)
    rw [HW0.out]
    go_wp2_with fail
    refine hs1.mono ?_
    rintro e w1 ⟨rfl,hb1⟩
    have hB1:Below W.heap.size W w1:=hb0.trans (hb1.mono hb0.size)
    go_wp2
    go_ret
    exact ⟨ret_bool (by unfold rightD;rw [decide_eq_false (fun h=>HI1.out h.2.2.1)]),hB1⟩
  ·have hrn':decide (0<(rn:Int))=true:=by simp;omega
   have HRN:Hid (¬rn=0):=hrn
   clear hrn hs1 hs2 hs3
   go_enter Tryz.func67,Tryz.ntmps67
   go_upto_region 1 with (fail)
   rw [HW0.out]
   go_wp2
   go_ret
   exact ⟨ret_bool (by unfold rightD;rw [decide_eq_false (fun h=>HRN.out h.2.1)]),hb0⟩
 ·have hst':st=false:=by simpa using hst
  subst hst'
  clear hst hs1 hs2 hs3
  go_enter Tryz.func67,Tryz.ntmps67
  go_upto_region 1 with (fail)
  rw [HW0.out]
  go_wp2
  go_ret
  exact ⟨ret_bool (by unfold rightD;rw [decide_eq_false (fun h=>by have:=h.1;cases this)]),hb0⟩
end Go.Proofs.YtghnfnieppfhgaaGreat.St
namespace Go.Proofs.YtghnfnieppfhgaaGreat.St
open Go.RowKit Go.Shelf
def emptyD (d:SD):Bool:=!rightD d||decide (d.most<d.least)
def takenD (d:SD):SD:=if RightD d then tightD d.lo d.up d.least d.most else noneD
theorem empty_any (v:Value) (d:SD) (W:World) (h:Di W v d) :
  Calls Tryz.prog 112 #[v] W fun e w'=>e = .returned (.bool (emptyD d))∧Below W.heap.size W w':=by
 have hr:=fun X (hX:Below W.heap.size W X)=>right_any v d X (h.below hX)
 obtain ⟨ra,rc,slo,sup,rfl,h1,h2⟩:=h
 obtain ⟨a1,c1,rfl,_⟩:=h1
 obtain ⟨a2,c2,rfl,_⟩:=h2
 have he:emptyD d=(!rightD d||decide (d.most<d.least)):=rfl
 obtain ⟨st,rn,lo,up,least,most⟩:=d
 simp only at hr he ⊢
 obtain ⟨n1,hn1⟩:∃ n,lo.length=n:=⟨_,rfl⟩
 obtain ⟨n2,hn2⟩:∃ n,up.length=n:=⟨_,rfl⟩
 simp only [hn1,hn2] at hr ⊢
 obtain ⟨r,hrd⟩:∃ r,rightD ⟨st,rn,lo,up,least,most⟩=r:=⟨_,rfl⟩
 rw [hrd] at he
 simp only [hrd] at hr
 have HE:Hid (emptyD ⟨st,rn,lo,up,least,most⟩=(!r||decide (most<least))):=he
 have hb0:Below W.heap.size W (W.alloc (Obj.cells #[.bool st,.slice ra rn rc,.slice a1 n1 c1,.slice a2 n2 c2,.int .i64 least,.int .i64 most] 37)):=(Below.refl _ W).alloc (Nat.le_refl _) _
 have hR0:=World.alloc_heap_new W (Obj.cells #[.bool st,.slice ra rn rc,.slice a1 n1 c1,.slice a2 n2 c2,.int .i64 least,.int .i64 most] 37)
 have hr0:=hr _ hb0
 clear he hrd hn1 hn2 hr
 by_cases hrr:r=true
 ·subst hrr
  by_cases hlm:most<least
  ·go_enter Tryz.func112,Tryz.ntmps112
   go_wp2_with fail
   refine hr0.mono ?_
   rintro e w1 ⟨rfl,hb1⟩
   obtain ⟨c0,c1',c2',c3,c4,c5⟩:=six_cells ((hb1.block W.heap.size (by simp)).trans hR0)
   have hB1:Below W.heap.size W w1:=hb0.trans (hb1.mono hb0.size)
   clear hr0 hR0 hb1 hb0
   go_wp2
   go_ret
   exact ⟨ret_bool (by rw [HE.out];simp [hlm]),hB1⟩
  ·go_enter Tryz.func112,Tryz.ntmps112
   go_wp2_with fail
   refine hr0.mono ?_
   rintro e w1 ⟨rfl,hb1⟩
   obtain ⟨c0,c1',c2',c3,c4,c5⟩:=six_cells ((hb1.block W.heap.size (by simp)).trans hR0)
   have hB1:Below W.heap.size W w1:=hb0.trans (hb1.mono hb0.size)
   clear hr0 hR0 hb1 hb0
   go_wp2
   go_ret
   exact ⟨ret_bool (by rw [HE.out];simp [hlm]),hB1⟩
 ·have hrr':r=false:=by simpa using hrr
  subst hrr'
  go_enter Tryz.func112,Tryz.ntmps112
  go_wp2_with fail
  refine hr0.mono ?_
  rintro e w1 ⟨rfl,hb1⟩
  have hB1:Below W.heap.size W w1:=hb0.trans (hb1.mono hb0.size)
  clear hr0 hR0 hb1 hb0
  go_wp2
  go_ret
  exact ⟨ret_bool (by rw [HE.out];simp),hB1⟩
theorem taken_dom (v:Value) (d:SD) (W:World) (h:Di W v d) :
  Calls Tryz.prog 101 #[v] W fun e w'=>∃ v',e = .returned v'∧Dv W.heap.size w' v' (takenD d)∧Below W.heap.size W w':=by
 have hr:=fun X (hX:Below W.heap.size W X)=>right_any v d X (h.below hX)
 obtain ⟨ra,rc,slo,sup,rfl,h1,h2⟩:=h
 have ht:=fun (hR:RightD d) X (hX:Below W.heap.size W X)=>tight_any slo sup d.lo d.up d.least d.most X (h1.below hX) (h2.below hX) (by have:=hR.2.2.1.1;omega) (by have:=hR.2.2.2.1.1;omega)
 obtain ⟨a1,c1,rfl,_⟩:=h1
 obtain ⟨a2,c2,rfl,_⟩:=h2
 have he:takenD d=if RightD d then tightD d.lo d.up d.least d.most else noneD:=rfl
 obtain ⟨TD,hTD⟩:∃ X,takenD d=X:=⟨_,rfl⟩
 have HTD:Hid (takenD d=TD):=hTD
 obtain ⟨st,rn,lo,up,least,most⟩:=d
 simp only at hr he ht ⊢
 obtain ⟨n1,hn1⟩:∃ n,lo.length=n:=⟨_,rfl⟩
 obtain ⟨n2,hn2⟩:∃ n,up.length=n:=⟨_,rfl⟩
 simp only [hn1,hn2] at hr ht ⊢
 obtain ⟨W0,hW0⟩:∃ X,(W.alloc (Obj.cells #[.bool st,.slice ra rn rc,.slice a1 n1 c1,.slice a2 n2 c2,.int .i64 least,.int .i64 most] 37)).alloc (Obj.cells #[.bool false,.slice none 0 0,.slice none 0 0,.slice none 0 0,.int .i64 0,.int .i64 0] 37)=X:=⟨_,rfl⟩
 have HW0:Hid _:=hW0
 have hb0:Below W.heap.size W W0:=by rw [←hW0];exact ((Below.refl _ W).alloc (Nat.le_refl _) _).alloc (by simp) _
 have hR0:W0.heap[W.heap.size]? = some (.cells #[.bool st,.slice ra rn rc,.slice a1 n1 c1,.slice a2 n2 c2,.int .i64 least,.int .i64 most] 37 (0,0)):=by
  rw [←hW0];exact (Below.heap_alloc _ _ _ (by simp)).trans (World.alloc_heap_new W _)
 have hZ0:W0.heap[W.heap.size+1]? = some (.cells #[.bool false,.slice none 0 0,.slice none 0 0,.slice none 0 0,.int .i64 0,.int .i64 0] 37 (0,0)):=by
  rw [←hW0];have:=World.alloc_heap_new (W.alloc (Obj.cells #[.bool st,.slice ra rn rc,.slice a1 n1 c1,.slice a2 n2 c2,.int .i64 least,.int .i64 most] 37)) (Obj.cells #[.bool false,.slice none 0 0,.slice none 0 0,.slice none 0 0,.int .i64 0,.int .i64 0] 37);rwa [World.size_alloc] at this
 have hlt0:W.heap.size+1<W0.heap.size:=(Array.getElem?_eq_some_iff.1 hZ0).1
 have hr0:=hr _ hb0
 obtain ⟨c0,c1',c2',c3,c4,c5⟩:=six_cells hR0
 clear hTD hn1 hn2 hr hW0
 by_cases hRD:RightD ⟨st,rn,lo,up,least,most⟩
 ·have htt:=ht hRD
  rw [if_pos hRD] at he
  have hrb:rightD ⟨st,rn,lo,up,least,most⟩=true:=decide_eq_true hRD
  rw [hrb] at hr0
  have HE:Hid (takenD ⟨st,rn,lo,up,least,most⟩=tightD lo up least most):=he
  clear ht hRD hrb he
  go_enter Tryz.func101,Tryz.ntmps101
  go_upto_region 1 with (fail)
  rw [HW0.out]
  go_wp2_with fail
  refine hr0.mono ?_
  rintro e w1 ⟨rfl,hb1⟩
  have hB1:Below W.heap.size W w1:=hb0.trans (hb1.mono hb0.size)
  have hZ1:=(hb1.block (W.heap.size+1) hlt0).trans hZ0
  have hlt1:W.heap.size+1<w1.heap.size:=(Array.getElem?_eq_some_iff.1 hZ1).1
  have hR1:=(hb1.block W.heap.size (by omega)).trans hR0
  clear c0 c1' c2' c3 c4 c5
  obtain ⟨c0,c1',c2',c3,c4,c5⟩:=six_cells hR1
  have ht1:=htt w1 hB1
  clear hr0 hR0 hZ0 hb1 hb0 hR1
  go_wp2_with fail
  refine ht1.mono ?_
  rintro e w2 ⟨v2,rfl,hD2,hb2⟩
  have hB2:Below W.heap.size W w2:=hB1.trans (hb2.mono hB1.size)
  have hZ2:=(hb2.block (W.heap.size+1) hlt1).trans hZ1
  obtain ⟨slo,sup,rfl,e0,o1,o2⟩:=hD2
  obtain ⟨p1,k1,rfl⟩:=own_slice o1
  obtain ⟨p2,k2,rfl⟩:=own_slice o2
  obtain ⟨T,hT⟩:∃ T,tightD lo up least most=T:=⟨_,rfl⟩
  rw [hT] at e0 o1 o2 ⊢
  obtain ⟨m1,hm1⟩:∃ n,T.lo.length=n:=⟨_,rfl⟩
  obtain ⟨m2,hm2⟩:∃ n,T.up.length=n:=⟨_,rfl⟩
  obtain ⟨x0,hx0⟩:∃ x,T.set=x:=⟨_,rfl⟩
  obtain ⟨x4,hx4⟩:∃ x,T.least=x:=⟨_,rfl⟩
  obtain ⟨x5,hx5⟩:∃ x,T.most=x:=⟨_,rfl⟩
  have HX:Hid (takenD ⟨st,rn,lo,up,least,most⟩=T∧T.lo.length=m1∧T.up.length=m2∧T.set=x0∧T.least=x4∧T.most=x5∧T.rn=0):=⟨HE.out.trans hT,hm1,hm2,hx0,hx4,hx5,e0⟩
  rw [hm1] at o1 ⊢
  rw [hm2] at o2 ⊢
  rw [hx0,hx4,hx5]
  have HZ2:Hid _:=hZ2
  have O1:=own_setRow (own_base o1 hB1.size) (W.heap.size+1) #[.bool x0,.slice none 0 0,.slice p1 m1 k1,.slice p2 m2 k2,.int .i64 x4,.int .i64 x5] HZ2.out
  have O2:=own_setRow (own_base o2 hB1.size) (W.heap.size+1) #[.bool x0,.slice none 0 0,.slice p1 m1 k1,.slice p2 m2 k2,.int .i64 x4,.int .i64 x5] HZ2.out
  have hBS:=below_setRow hB2 (show W.heap.size≤W.heap.size+1 by omega) #[.bool x0,.slice none 0 0,.slice p1 m1 k1,.slice p2 m2 k2,.int .i64 x4,.int .i64 x5]
  have HROW:Hid _:=setRow_heap w2 (W.heap.size+1) _ #[.bool x0,.slice none 0 0,.slice p1 m1 k1,.slice p2 m2 k2,.int .i64 x4,.int .i64 x5] 37 (0,0) HZ2.out
  have HSZ:Hid ((Tryz.prog.info? 37).map (·.size)=some (#[.bool x0,.slice none 0 0,.slice p1 m1 k1,.slice p2 m2 k2,.int .i64 x4,.int .i64 x5]:Array Value).size):=Tryz.size37
  have HSO:Hid ((#[.bool false,.slice none 0 0,.slice none 0 0,.slice none 0 0,.int .i64 0,.int .i64 0]:Array Value).size=(#[.bool x0,.slice none 0 0,.slice p1 m1 k1,.slice p2 m2 k2,.int .i64 x4,.int .i64 x5]:Array Value).size):=rfl
  have HSA:Hid ((#[.bool x0,.slice none 0 0,.slice p1 m1 k1,.slice p2 m2 k2,.int .i64 x4,.int .i64 x5]:Array Value).all (·.oneCell')=true):=by unfold Hid;simp [Value.oneCell']
  clear hZ1 hZ2 hb2 hB1 hB2 ht1 htt o1 o2 hT hm1 hm2 hx0 hx4 hx5 e0 c0 c1' c2' c3 c4 c5
  go_wp2_with (with_reducible refine wpList_store_row rfl 37 (.tmp 2) (.tmp 15) rfl (W.heap.size+1) #[.bool x0,.slice none 0 0,.slice p1 m1 k1,.slice p2 m2 k2,.int .i64 x4,.int .i64 x5] (by with_unfolding_all rfl) (by with_unfolding_all rfl) 37 _ HZ2.out HSZ.out HSO.out HSA.out ?_)
  refine ⟨rfl,_,results_cell_row (P:=Tryz.prog) rfl _ _ (W.heap.size+1) 37 _ (0,0) _ rfl HROW.out Tryz.underlying37 rfl HSZ.out,⟨_,rfl,?_,hBS⟩⟩
  obtain ⟨q0,q1,q2,q3,q4,q5,q6⟩:=HX.out
  rw [q0]
  exact ⟨_,_,by rw [q3,q4,q5],q6,by rw [q1];exact O1,by rw [q2];exact O2⟩
 ·rw [if_neg hRD] at he
  have hrb:rightD ⟨st,rn,lo,up,least,most⟩=false:=decide_eq_false hRD
  rw [hrb] at hr0
  have HE:Hid (takenD ⟨st,rn,lo,up,least,most⟩=noneD):=he
  clear ht hRD hrb he
  go_enter Tryz.func101,Tryz.ntmps101
  go_upto_region 1 with (fail)
  rw [HW0.out]
  go_wp2_with fail
  refine hr0.mono ?_
  rintro e w1 ⟨rfl,hb1⟩
  have hB1:Below W.heap.size W w1:=hb0.trans (hb1.mono hb0.size)
  have hZ1:=(hb1.block (W.heap.size+1) hlt0).trans hZ0
  have hlt1:W.heap.size+1<w1.heap.size:=(Array.getElem?_eq_some_iff.1 hZ1).1
  clear hr0 hR0 hZ0 hb1 hb0 c0 c1' c2' c3 c4 c5
  go_wp2_with fail
  refine (none_at _).mono ?_
  rintro e w2 ⟨rfl,hb2⟩
  have hB2:Below W.heap.size W w2:=hB1.trans (hb2.mono hB1.size)
  have HZ2:Hid _:=(hb2.block (W.heap.size+1) hlt1).trans hZ1
  have hBS:=below_setRow hB2 (show W.heap.size≤W.heap.size+1 by omega) #[.bool true,.slice none 0 0,.slice none 0 0,.slice none 0 0,.int .i64 1,.int .i64 0]
  have HROW:Hid _:=setRow_heap w2 (W.heap.size+1) _ #[.bool true,.slice none 0 0,.slice none 0 0,.slice none 0 0,.int .i64 1,.int .i64 0] 37 (0,0) HZ2.out
  have HSZ:Hid ((Tryz.prog.info? 37).map (·.size)=some (#[.bool true,.slice none 0 0,.slice none 0 0,.slice none 0 0,.int .i64 1,.int .i64 0]:Array Value).size):=Tryz.size37
  have HSO:Hid ((#[.bool false,.slice none 0 0,.slice none 0 0,.slice none 0 0,.int .i64 0,.int .i64 0]:Array Value).size=(#[.bool true,.slice none 0 0,.slice none 0 0,.slice none 0 0,.int .i64 1,.int .i64 0]:Array Value).size):=rfl
  have HSA:Hid ((#[.bool true,.slice none 0 0,.slice none 0 0,.slice none 0 0,.int .i64 1,.int .i64 0]:Array Value).all (·.oneCell')=true):=by unfold Hid;simp [Value.oneCell']
  clear hZ1 hb2 hB1 hB2
  go_wp2_with (with_reducible refine wpList_store_row rfl 37 (.tmp 2) (.tmp 6) rfl (W.heap.size+1) #[.bool true,.slice none 0 0,.slice none 0 0,.slice none 0 0,.int .i64 1,.int .i64 0] (by with_unfolding_all rfl) (by with_unfolding_all rfl) 37 _ HZ2.out HSZ.out HSO.out HSA.out ?_)
  refine ⟨rfl,_,results_cell_row (P:=Tryz.prog) rfl _ _ (W.heap.size+1) 37 _ (0,0) _ rfl HROW.out Tryz.underlying37 rfl HSZ.out,⟨_,rfl,?_,hBS⟩⟩
  rw [HE.out]
  exact none_dv _ _
theorem cell_row {W:World} {g:Nat} {cur:Array Value} {t:TypeId} (h:W.heap[g]? = some (.cells cur t (0,0))) (j:Nat):W.cell? ⟨g,j,none⟩=cur[j]?:=by simp [World.cell?,h]
structure R6 (w : World) (g : Nat) (x0 x1 x2 x3 x4 x5 : Value) : Prop where
 h:w.heap[g]? = some (.cells #[x0,x1,x2,x3,x4,x5] 37 (0,0))
theorem R6.lt {w:World} {g:Nat} {x0 x1 x2 x3 x4 x5:Value} (h:R6 w g x0 x1 x2 x3 x4 x5):g<w.heap.size:=(Array.getElem?_eq_some_iff.1 h.h).1
theorem R6.below {w w':World} {g:Nat} {x0 x1 x2 x3 x4 x5:Value} (h:R6 w g x0 x1 x2 x3 x4 x5) (hb:Below w.heap.size w w'):R6 w' g x0 x1 x2 x3 x4 x5:=⟨(hb.block g h.lt).trans h.h⟩
theorem R6.cells {w:World} {g:Nat} {x0 x1 x2 x3 x4 x5:Value} (h:R6 w g x0 x1 x2 x3 x4 x5) :
  w.cell? ⟨g,0,none⟩=some x0∧w.cell? ⟨g,1,none⟩=some x1∧w.cell? ⟨g,2,none⟩=some x2∧w.cell? ⟨g,3,none⟩=some x3∧w.cell? ⟨g,4,none⟩=some x4∧w.cell? ⟨g,5,none⟩=some x5:=six_cells h.h
theorem R6.new (w:World) (x0 x1 x2 x3 x4 x5:Value):R6 (w.alloc (.cells #[x0,x1,x2,x3,x4,x5] 37)) w.heap.size x0 x1 x2 x3 x4 x5:=⟨World.alloc_heap_new w _⟩
theorem R6.new1 (w:World) (o:Obj) (x0 x1 x2 x3 x4 x5:Value):R6 ((w.alloc o).alloc (.cells #[x0,x1,x2,x3,x4,x5] 37)) (w.heap.size+1) x0 x1 x2 x3 x4 x5:=by
 have:=World.alloc_heap_new (w.alloc o) (.cells #[x0,x1,x2,x3,x4,x5] 37)
 rw [World.size_alloc] at this
 exact ⟨this⟩
theorem R6.new2 (w:World) (o p:Obj) (x0 x1 x2 x3 x4 x5:Value):R6 (((w.alloc o).alloc p).alloc (.cells #[x0,x1,x2,x3,x4,x5] 37)) (w.heap.size+2) x0 x1 x2 x3 x4 x5:=by
 have:=World.alloc_heap_new ((w.alloc o).alloc p) (.cells #[x0,x1,x2,x3,x4,x5] 37)
 rw [World.size_alloc,World.size_alloc] at this
 exact ⟨this⟩
theorem R6.alloc {w:World} {g:Nat} {x0 x1 x2 x3 x4 x5:Value} (h:R6 w g x0 x1 x2 x3 x4 x5) (o:Obj):R6 (w.alloc o) g x0 x1 x2 x3 x4 x5:=⟨(Below.heap_alloc _ _ _ h.lt).trans h.h⟩
theorem R6.set {w:World} {g:Nat} {y0 y1 y2 y3 y4 y5:Value} (h:R6 w g y0 y1 y2 y3 y4 y5) (x0 x1 x2 x3 x4 x5:Value):R6 (w.setRow g #[x0,x1,x2,x3,x4,x5]) g x0 x1 x2 x3 x4 x5:=⟨setRow_heap w g _ _ 37 (0,0) h.h⟩
theorem R6.other {w:World} {g k:Nat} {x0 x1 x2 x3 x4 x5:Value} (h:R6 w k x0 x1 x2 x3 x4 x5) (hk:k≠g) (cs:Array Value):R6 (w.setRow g cs) k x0 x1 x2 x3 x4 x5:=⟨(setRow_other w g k cs hk).trans h.h⟩
theorem R6.res {fn:Func} {p:Tmp} (hf:fn.results=#[.cell p 37]) (tmps:Array Value) {w:World} {g:Nat} {x0 x1 x2 x3 x4 x5:Value} (h:R6 w g x0 x1 x2 x3 x4 x5) (hp:tmps.getD p undef = .pointer (some ⟨g,0,none⟩)) :
  (results fn tmps).run Tryz.prog w = .ok (.agg #[x0,x1,x2,x3,x4,x5]) w:=results_cell_row hf tmps w g 37 _ (0,0) _ hp h.h Tryz.underlying37 rfl Tryz.size37
def Six (x0 x1 x2 x3 x4 x5:Value):Prop:=x0.oneCell'=true∧x1.oneCell'=true∧x2.oneCell'=true∧x3.oneCell'=true∧x4.oneCell'=true∧x5.oneCell'=true
theorem six_dom (b:Bool) (p0 p1 p2:Option Addr) (m0 k0 m1 k1 m2 k2:Nat) (i j:Int):Six (.bool b) (.slice p0 m0 k0) (.slice p1 m1 k1) (.slice p2 m2 k2) (.int .i64 i) (.int .i64 j):=⟨rfl,rfl,rfl,rfl,rfl,rfl⟩
theorem Six.all {x0 x1 x2 x3 x4 x5:Value} (h:Six x0 x1 x2 x3 x4 x5):(#[x0,x1,x2,x3,x4,x5]:Array Value).all (·.oneCell')=true:=by
 obtain ⟨h0,h1,h2,h3,h4,h5⟩:=h
 simp [h0,h1,h2,h3,h4,h5]
theorem st37 {ops:Array Oper} {rest:List Oper} {o:Oper} {a:Act} {w:World} {Q:Exit→Act→World→Prop} {y0 y1 y2 y3 y4 y5:Value} (hgd:o.guard=none) (x y:Operand) (ho:o.op = .store 37 x y)
  (g:Nat) (x0 x1 x2 x3 x4 x5:Value) (hx:a.eval x = .pointer (some ⟨g,0,none⟩)) (hy:a.eval y = .agg #[x0,x1,x2,x3,x4,x5]) (hg:R6 w g y0 y1 y2 y3 y4 y5) (hs:Six x0 x1 x2 x3 x4 x5)
  (h:wpList Tryz.prog ops Q rest (a.put o.dst undef) (w.setRow g #[x0,x1,x2,x3,x4,x5])):wpList Tryz.prog ops Q (o :: rest) a w :=
 wpList_store_row hgd 37 x y ho g _ hx hy 37 _ hg.h Tryz.size37 rfl hs.all h
theorem store_row {P:Program} {op:Oper} {a:Act} {w:World} {K:Act→World→Prop} {Q:Exit→Act→World→Prop} (ty:TypeId) (x y:Operand) (ho:op.op = .store ty x y)
  (g:Nat) (cells:Array Value) (hx:a.eval x = .pointer (some ⟨g,0,none⟩)) (hy:a.eval y = .agg cells)
  (t:TypeId) (old:Array Value) (hg:w.heap[g]? = some (.cells old t (0,0))) (hi:(P.info? ty).map (·.size)=some cells.size)
  (hold:old.size=cells.size) (h1:cells.all (·.oneCell')=true)
  (h:K (a.put op.dst undef) (w.setRow g cells)):Oper.wp P op a w K Q:=by
 unfold Oper.wp
 unfold execOp
 simp only [ho,hx,hy,Instr.storeAt,Instr.sureAddr,Sem.run_bind,Sem.run_pure,Result.andThen_ok,run_storeVar_row w g t ty old cells hg hi hold h1]
 exact h
theorem step37 {ops:Array Oper} {o:Oper} {a:Act} {w:World} {K:Act→World→Prop} {Q:Exit→Act→World→Prop} {E:Prop} {y0 y1 y2 y3 y4 y5:Value} (hgd:o.guard=none) (x y:Operand) (ho:o.op = .store 37 x y)
  (g:Nat) (x0 x1 x2 x3 x4 x5:Value) (hx:a.eval x = .pointer (some ⟨g,0,none⟩)) (hy:a.eval y = .agg #[x0,x1,x2,x3,x4,x5]) (hg:R6 w g y0 y1 y2 y3 y4 y5) (hs:Six x0 x1 x2 x3 x4 x5)
  (h:K (a.put o.dst undef) (w.setRow g #[x0,x1,x2,x3,x4,x5])):if Region.wanted o (yielded ops a.tmps)=true then Oper.wp Tryz.prog o a w K Q else E:=by
 have hw:Region.wanted o (yielded ops a.tmps)=true:=by simp [Region.wanted,hgd]
 rw [if_pos hw]
 exact store_row 37 x y ho g _ hx hy 37 _ hg.h Tryz.size37 rfl hs.all h
theorem Dv.set {B g:Nat} {w:World} {v:Value} {d:SD} {y0 y1 y2 y3 y4 y5:Value} (h:Dv B w v d) (hg:R6 w g y0 y1 y2 y3 y4 y5) (cs:Array Value):Dv B (w.setRow g cs) v d:=by
 obtain ⟨slo,sup,e,e0,o1,o2⟩:=h
 exact ⟨slo,sup,e,e0,own_setRow o1 g cs hg.h,own_setRow o2 g cs hg.h⟩
theorem Dv.base {B B':Nat} {w:World} {v:Value} {d:SD} (h:Dv B w v d) (hb:B'≤B):Dv B' w v d:=by
 obtain ⟨slo,sup,e,e0,o1,o2⟩:=h
 exact ⟨slo,sup,e,e0,own_base o1 hb,own_base o2 hb⟩
theorem Dv.look {B:Nat} {w:World} {v:Value} {d:SD} (h:Dv B w v d):∃ x0 p1 m1 k1 p2 m2 k2 x4 x5,v = .agg #[.bool x0,.slice none 0 0,.slice p1 m1 k1,.slice p2 m2 k2,.int .i64 x4,.int .i64 x5] ∧
  Hid (d.set=x0∧d.lo.length=m1∧d.up.length=m2∧d.least=x4∧d.most=x5∧d.rn=0)∧Hid (w.ownsRow B 2 1 (.slice p1 m1 k1) m1 (intv d.lo))∧Hid (w.ownsRow B 2 1 (.slice p2 m2 k2) m2 (intv d.up)):=by
 obtain ⟨slo,sup,e,e0,o1,o2⟩:=h
 obtain ⟨p1,k1,rfl⟩:=own_slice o1
 obtain ⟨p2,k2,rfl⟩:=own_slice o2
 exact ⟨_,_,_,_,_,_,_,_,_,e,⟨rfl,rfl,rfl,rfl,rfl,e0⟩,o1,o2⟩
theorem Di.look {w:World} {v:Value} {d:SD} (h:Di w v d):∃ x0 ra rn rc a1 n1 c1 a2 n2 c2 x4 x5,v = .agg #[.bool x0,.slice ra rn rc,.slice a1 n1 c1,.slice a2 n2 c2,.int .i64 x4,.int .i64 x5] ∧
  Hid (d.set=x0∧d.lo.length=n1∧d.up.length=n2∧d.least=x4∧d.most=x5∧d.rn=rn)∧Hid (Si w (.slice a1 n1 c1) d.lo)∧Hid (Si w (.slice a2 n2 c2) d.up):=by
 obtain ⟨ra,rc,slo,sup,e,h1,h2⟩:=h
 have h1':=h1
 have h2':=h2
 obtain ⟨a1,c1,rfl,_⟩:=h1'
 obtain ⟨a2,c2,rfl,_⟩:=h2'
 exact ⟨_,_,_,_,_,_,_,_,_,_,_,_,e,⟨rfl,rfl,rfl,rfl,rfl,rfl⟩,h1,h2⟩
theorem si_look {w:World} {s:Value} {l:List Int} (h:Si w s l):∃ a n c,s = .slice a n c∧Hid (Si w (.slice a n c) l)∧Hid (l.length=n):=by
 have h':=h
 obtain ⟨a,c,rfl,_⟩:=h'
 exact ⟨_,_,_,rfl,h,rfl⟩
theorem own_si' {W:World} {base n:Nat} {s:Value} {l:List Int} (h:W.ownsRow base 2 1 s n (intv l)) (hn:l.length=n):Si W s l:=by subst hn;exact own_si h
theorem one_si (w:World) (x:Int):Si (w.alloc (Obj.cells #[.int .i64 x] 2)) (.slice (some ⟨w.heap.size,0,none⟩) 1 1) [x]:=by
 refine ⟨_,_,rfl,fun _=>⟨_,_,rfl,by rw [World.size_alloc];omega,fun i hi=>?_⟩⟩
 have hi0:i=0:=by simp at hi;omega
 subst hi0
 have:=World.alloc_heap_new w (Obj.cells #[.int .i64 x] 2)
 show (w.alloc (Obj.cells #[.int .i64 x] 2)).cell? ⟨w.heap.size,0+0,none⟩=_
 rw [cell_row this]
 rfl
theorem take_next (l:List Int) (k:Nat) (h:k<l.length):l.take (k+1)=l.take k++[nth l k]:=by
 rw [List.take_add_one,List.getElem?_eq_getElem h];simp [nth,h]
theorem filt_yes (l:List Int) (f:Int→Bool) (k:Nat) (h:k<l.length) (hf:f (nth l k)=true):(l.take (k+1)).filter f=(l.take k).filter f++[nth l k]:=by
 rw [take_next l k h,List.filter_append];simp [hf]
theorem filt_no (l:List Int) (f:Int→Bool) (k:Nat) (h:k<l.length) (hf:f (nth l k)=false):(l.take (k+1)).filter f=(l.take k).filter f:=by
 rw [take_next l k h,List.filter_append];simp [hf]
theorem filt_len (l:List Int) (f:Int→Bool) (k:Nat):((l.take k).filter f).length≤k:=Nat.le_trans (List.length_filter_le _ _) (by simp;omega)
theorem refmeet_any (s1 s2:Value) (a b:List Int) (W:World) (h1:Si W s1 a) (h2:Si W s2 b) :
  Calls Tryz.prog 87 #[s1,s2] W fun e w'=>∃ v,e = .returned v∧w'.ownsRow W.heap.size 2 1 v (meetL (tkS a) (tkS b)).length (intv (meetL (tkS a) (tkS b)))∧Below W.heap.size W w':=by
 have hk:=taken_any s1 a W h1
 have kin:=fun v X (hX:Below W.heap.size W X)=>refin_any v s2 b X (h2.below hX)
 have hspec:meetL (tkS a) (tkS b)=(tkS a).filter (fun x=>(tkS b).contains x):=rfl
 rw [hspec]
 obtain ⟨f,hf⟩:∃ f:Int→Bool,(fun x=>(tkS b).contains x)=f:=⟨_,rfl⟩
 have HF:Hid (∀ x,f x=(tkS b).contains x):=fun x=>by rw [←hf]
 rw [hf]
 clear hspec hf
 have hset:=(tkS_set a).1
 generalize tkS a=A at hk hset ⊢
 obtain ⟨a1,c1,rfl,_⟩:=h1
 obtain ⟨a2,c2,rfl,_⟩:=h2
 generalize a.length=n1 at *
 generalize b.length=n2 at *
 go_enter Tryz.func87,Tryz.ntmps87
 go_wp2_with fail
 refine hk.mono ?_
 rintro e w1 ⟨a3,n3,c3,rfl,HS,HN3,m1,hw1⟩
 have hb1:Below W.heap.size W w1:=by rw [hw1];exact below_drewN (Below.refl _ _) _
 have hS:=HS.out
 obtain ⟨a3',c3',e3,hc⟩:=hS
 rw [←HN3.out] at e3 hc
 injection e3 with e4 _ e5
 subst e4 e5
 have HC:Hid _:=hc
 have HN:Hid (A.length=n3):=HN3.out.symm
 have hn3:n3≤64:=by rw [HN3.out];exact hset
 clear hk hc HS HN3 hw1 hset
 go_wp2
 go_loopw [5,6] (fun o i wr=>∃ k:Nat,k≤n3∧i = .int .i64 k∧wr.ownsRow W.heap.size 2 1 o ((A.take k).filter f).length (intv ((A.take k).filter f))∧Below W.heap.size W wr) (fun _ i _=>n3-(intOf i).toNat)
 case atStart=>exact ⟨0,Nat.zero_le _,rfl,by simpa [intv] using World.ownsRow_nil _ _ _ _,hb1⟩
 case round =>
  obtain ⟨k,hk,rfl,hrow,hB⟩:=hrel
  have HROW:Hid _:=hrow
  clear hrow
  by_cases hlt2:k<n3
  ·obtain ⟨bb,off,rfl,hb,hcell⟩:=HC.out (by omega)
   have d0:=hcell k hlt2
   obtain ⟨x,hx⟩:∃ x,nth A k=x:=⟨_,rfl⟩
   have HX:Hid (nth A k=x):=hx
   rw [hx] at d0
   have hlt':(k:Int)<(n3:Int):=by omega
   have d1:=(hB.cell (p:=⟨bb,off+k,none⟩) hb).trans d0
   have ki:=kin x wr hB
   clear hx hcell d0
   obtain ⟨bo,hbo⟩:∃ bo,(tkS b).contains x=bo:=⟨_,rfl⟩
   rw [hbo] at ki
   have HB:Hid (f x=bo):=by unfold Hid;rw [HF.out,hbo]
   clear hbo
   cases bo
   ·go_wp2_with fail
    refine ki.mono ?_
    rintro e w3 ⟨rfl,q,hq⟩
    have hb3':Below wr.heap.size wr w3:=by rw [hq];exact below_drewN (Below.refl _ _) _
    have hB3:Below W.heap.size W w3:=hB.trans (hb3'.mono hB.size)
    have HNX:Hid (((A.take (k+1)).filter f)=(A.take k).filter f):=by unfold Hid;rw [filt_no A f k (by rw [HN.out];exact hlt2) (by rw [HX.out];exact HB.out)]
    have HR3:Hid _:=own_keepB HROW.out hb3'
    clear hq hb3' ki d1 hB
    go_wp2
    go_roundw
    case rel=>exact ⟨k+1,by omega,by go_num,by rw [HNX.out];exact HR3.out,hB3⟩
    case measure=>simp [intOf];omega
   ·go_wp2_with fail
    refine ki.mono ?_
    rintro e w3 ⟨rfl,q,hq⟩
    have hb3':Below wr.heap.size wr w3:=by rw [hq];exact below_drewN (Below.refl _ _) _
    have d2:=(hb3'.cell (p:=⟨bb,off+k,none⟩) (Nat.lt_of_lt_of_le hb hB.size)).trans d1
    have hB3:Below W.heap.size W w3:=hB.trans (hb3'.mono hB.size)
    have hrow3:=World.ownsRow.alloc (own_keepB HROW.out hb3') (Obj.cells #[.int .i64 x] 2)
    have hlen:=filt_len A f k
    have HNX:Hid (((A.take (k+1)).filter f)=(A.take k).filter f++[x]):=by unfold Hid;rw [filt_yes A f k (by rw [HN.out];exact hlt2) (by rw [HX.out];exact HB.out),HX.out]
    have HBA:Hid (Below W.heap.size W (w3.alloc (Obj.cells #[.int .i64 x] 2))):=hB3.alloc hB3.size _
    have hsz:=HBA.out.size
    generalize (A.take k).filter f=L at *
    clear hq hb3' ki d1 hB
    go_wp2_with (at_builtin;refine wpList_app_sr _ rfl _ _ rfl W.heap.size _ _ L rfl hrow3 rfl _ [x] rfl (one_si w3 x) (by simp;omega) hsz ?_;intro v' w4 hown' hbel)
    go_roundw
    case rel=>exact ⟨k+1,by omega,by go_num,by rw [HNX.out,List.length_append];exact hown',HBA.out.trans hbel⟩
    case measure=>simp [intOf];omega
  ·have hlt':¬(k:Int)<(n3:Int):=by omega
   obtain rfl:k=n3:=by omega
   have HTK:Hid (A.take k=A):=by unfold Hid;rw [←HN.out];exact List.take_length
   have HR4:=HROW.out
   rw [HTK.out] at HR4
   obtain ⟨p,c,rfl⟩:=own_slice HR4
   have HR5:Hid _:=HR4
   clear HR4 HROW
   generalize hLL:(A.filter f).length=LL at HR5
   have HLL:Hid ((A.filter f).length=LL):=hLL
   clear hLL
   go_wp2
   go_ret
   exact ⟨_,rfl,by rw [HLL.out];exact HR5.out,hB⟩
theorem refless_any (s1 s2:Value) (a b:List Int) (W:World) (h1:Si W s1 a) (h2:Si W s2 b) :
  Calls Tryz.prog 107 #[s1,s2] W fun e w'=>∃ v,e = .returned v∧w'.ownsRow W.heap.size 2 1 v (lessL (tkS a) (tkS b)).length (intv (lessL (tkS a) (tkS b)))∧Below W.heap.size W w':=by
 have hk:=taken_any s1 a W h1
 have kin:=fun v X (hX:Below W.heap.size W X)=>refin_any v s2 b X (h2.below hX)
 have hspec:lessL (tkS a) (tkS b)=(tkS a).filter (fun x=>!(tkS b).contains x):=rfl
 rw [hspec]
 obtain ⟨f,hf⟩:∃ f:Int→Bool,(fun x=>!(tkS b).contains x)=f:=⟨_,rfl⟩
 have HF:Hid (∀ x,f x = !(tkS b).contains x):=fun x=>by rw [←hf]
 rw [hf]
 clear hspec hf
 have hset:=(tkS_set a).1
 generalize tkS a=A at hk hset ⊢
 obtain ⟨a1,c1,rfl,_⟩:=h1
 obtain ⟨a2,c2,rfl,_⟩:=h2
 generalize a.length=n1 at *
 generalize b.length=n2 at *
 go_enter Tryz.func107,Tryz.ntmps107
 go_wp2_with fail
 refine hk.mono ?_
 rintro e w1 ⟨a3,n3,c3,rfl,HS,HN3,m1,hw1⟩
 have hb1:Below W.heap.size W w1:=by rw [hw1];exact below_drewN (Below.refl _ _) _
 have hS:=HS.out
 obtain ⟨a3',c3',e3,hc⟩:=hS
 rw [←HN3.out] at e3 hc
 injection e3 with e4 _ e5
 subst e4 e5
 have HC:Hid _:=hc
 have HN:Hid (A.length=n3):=HN3.out.symm
 have hn3:n3≤64:=by rw [HN3.out];exact hset
 clear hk hc HS HN3 hw1 hset
 go_wp2
 go_loopw [5,6] (fun o i wr=>∃ k:Nat,k≤n3∧i = .int .i64 k∧wr.ownsRow W.heap.size 2 1 o ((A.take k).filter f).length (intv ((A.take k).filter f))∧Below W.heap.size W wr) (fun _ i _=>n3-(intOf i).toNat)
 case atStart=>exact ⟨0,Nat.zero_le _,rfl,by simpa [intv] using World.ownsRow_nil _ _ _ _,hb1⟩
 case round =>
  obtain ⟨k,hk,rfl,hrow,hB⟩:=hrel
  have HROW:Hid _:=hrow
  clear hrow
  by_cases hlt2:k<n3
  ·obtain ⟨bb,off,rfl,hb,hcell⟩:=HC.out (by omega)
   have d0:=hcell k hlt2
   obtain ⟨x,hx⟩:∃ x,nth A k=x:=⟨_,rfl⟩
   have HX:Hid (nth A k=x):=hx
   rw [hx] at d0
   have hlt':(k:Int)<(n3:Int):=by omega
   have d1:=(hB.cell (p:=⟨bb,off+k,none⟩) hb).trans d0
   have ki:=kin x wr hB
   clear hx hcell d0
   obtain ⟨bo,hbo⟩:∃ bo,(tkS b).contains x=bo:=⟨_,rfl⟩
   rw [hbo] at ki
   have HB:Hid (f x = !bo):=by unfold Hid;rw [HF.out,hbo]
   clear hbo
   cases bo
   ·go_wp2_with fail
    refine ki.mono ?_
    rintro e w3 ⟨rfl,q,hq⟩
    have hb3':Below wr.heap.size wr w3:=by rw [hq];exact below_drewN (Below.refl _ _) _
    have d2:=(hb3'.cell (p:=⟨bb,off+k,none⟩) (Nat.lt_of_lt_of_le hb hB.size)).trans d1
    have hB3:Below W.heap.size W w3:=hB.trans (hb3'.mono hB.size)
    have hrow3:=World.ownsRow.alloc (own_keepB HROW.out hb3') (Obj.cells #[.int .i64 x] 2)
    have hlen:=filt_len A f k
    have HNX:Hid (((A.take (k+1)).filter f)=(A.take k).filter f++[x]):=by unfold Hid;rw [filt_yes A f k (by rw [HN.out];exact hlt2) (by rw [HX.out];exact HB.out),HX.out]
    have HBA:Hid (Below W.heap.size W (w3.alloc (Obj.cells #[.int .i64 x] 2))):=hB3.alloc hB3.size _
    have hsz:=HBA.out.size
    generalize (A.take k).filter f=L at *
    clear hq hb3' ki d1 hB
    go_wp2_with (at_builtin;refine wpList_app_sr _ rfl _ _ rfl W.heap.size _ _ L rfl hrow3 rfl _ [x] rfl (one_si w3 x) (by simp;omega) hsz ?_;intro v' w4 hown' hbel)
    go_roundw
    case rel=>exact ⟨k+1,by omega,by go_num,by rw [HNX.out,List.length_append];exact hown',HBA.out.trans hbel⟩
    case measure=>simp [intOf];omega
   ·go_wp2_with fail
    refine ki.mono ?_
    rintro e w3 ⟨rfl,q,hq⟩
    have hb3':Below wr.heap.size wr w3:=by rw [hq];exact below_drewN (Below.refl _ _) _
    have hB3:Below W.heap.size W w3:=hB.trans (hb3'.mono hB.size)
    have HNX:Hid (((A.take (k+1)).filter f)=(A.take k).filter f):=by unfold Hid;rw [filt_no A f k (by rw [HN.out];exact hlt2) (by rw [HX.out];exact HB.out)]
    have HR3:Hid _:=own_keepB HROW.out hb3'
    clear hq hb3' ki d1 hB
    go_wp2
    go_roundw
    case rel=>exact ⟨k+1,by omega,by go_num,by rw [HNX.out];exact HR3.out,hB3⟩
    case measure=>simp [intOf];omega
  ·have hlt':¬(k:Int)<(n3:Int):=by omega
   obtain rfl:k=n3:=by omega
   have HTK:Hid (A.take k=A):=by unfold Hid;rw [←HN.out];exact List.take_length
   have HR4:=HROW.out
   rw [HTK.out] at HR4
   obtain ⟨p,c,rfl⟩:=own_slice HR4
   have HR5:Hid _:=HR4
   clear HR4 HROW
   generalize hLL:(A.filter f).length=LL at HR5
   have HLL:Hid ((A.filter f).length=LL):=hLL
   clear hLL
   go_wp2
   go_ret
   exact ⟨_,rfl,by rw [HLL.out];exact HR5.out,hB⟩
def PutR (l:List Int) (v:Int) (L:List Int):Prop:=∃ k,k≤l.length∧(∀ j,k≤j→j<l.length→v<nth l j)∧(k=0∨nth l (k-1)≤v)∧L=l.take k++[v]++l.drop k
theorem PutR.perm {l L:List Int} {v:Int} (h:PutR l v L):L.Perm (v :: l):=by
 obtain ⟨k,_,_,_,rfl⟩:=h
 have h1:(l.take k++[v]++l.drop k).Perm (v :: (l.take k++l.drop k)):=by
  rw [List.append_assoc]
  exact List.perm_middle
 rwa [List.take_append_drop] at h1
theorem PutR.pw {l L:List Int} {v:Int} (h:PutR l v L) (hl:l.Pairwise (·≤·)):L.Pairwise (·≤·):=by
 obtain ⟨k,hk,h1,h2,rfl⟩:=h
 have hle:∀ i j,i≤j→j<l.length→nth l i≤nth l j:=fun i j hij hj=>by
  rcases Nat.lt_or_ge i j with h | h
  ·have:=List.pairwise_iff_getElem.1 hl i j (by omega) hj h
   simpa [nth,hj,show i<l.length by omega] using this
  ·obtain rfl:i=j:=by omega
   exact Int.le_refl _
 rw [List.append_assoc,List.pairwise_append]
 refine ⟨hl.sublist (List.take_sublist _ _),?_,?_⟩
 ·rw [List.singleton_append,List.pairwise_cons]
  refine ⟨fun x hx=>?_,hl.sublist (List.drop_sublist _ _)⟩
  obtain ⟨j,hj,e⟩:=List.getElem_of_mem hx
  rw [List.length_drop] at hj
  have:=h1 (k+j) (by omega) (by omega)
  rw [List.getElem_drop] at e
  have h3:nth l (k+j)=x:=by simp [nth,show k+j<l.length by omega,e]
  omega
 ·intro x hx y hy
  obtain ⟨i,hi,e⟩:=List.getElem_of_mem hx
  rw [List.length_take] at hi
  rw [List.getElem_take] at e
  have hx':nth l i=x:=by simp [nth,show i<l.length by omega,e]
  have hxv:x≤v:=by
   rcases h2 with h2 | h2
   ·omega
   ·have:=hle i (k-1) (by omega) (by omega);omega
  rw [List.singleton_append,List.mem_cons] at hy
  rcases hy with rfl | hy
  ·exact hxv
  ·obtain ⟨j,hj,e2⟩:=List.getElem_of_mem hy
   rw [List.length_drop] at hj
   have:=h1 (k+j) (by omega) (by omega)
   rw [List.getElem_drop] at e2
   have h3:nth l (k+j)=y:=by simp [nth,show k+j<l.length by omega,e2]
   omega
theorem si_take {W:World} {b off n c:Nat} {l:List Int} (h:Si W (.slice (some ⟨b,off,none⟩) n c) l) (hn:l.length=n) (k:Nat) (hk:k≤n) (c':Nat):Si W (.slice (some ⟨b,off,none⟩) k c') (l.take k):=by
 obtain ⟨a,cap,e,hc⟩:=h
 injection e with e1 e2 e3
 have hl:(l.take k).length=k:=by rw [List.length_take];omega
 refine ⟨_,c',by rw [hl],fun h0=>?_⟩
 obtain ⟨b',off',e4,hlt,hcell⟩:=hc (by omega)
 rw [←e1] at e4
 injection e4 with e4
 injection e4 with e5 e6
 subst e5 e6
 refine ⟨b,off,rfl,hlt,fun i hi=>?_⟩
 rw [hl] at hi
 rw [hcell i (by omega)]
 congr 2
 simp [nth,List.getElem?_take_of_lt hi]
theorem si_drop {W:World} {b off n c:Nat} {l:List Int} (h:Si W (.slice (some ⟨b,off,none⟩) n c) l) (hn:l.length=n) (k:Nat) (hk:k<n) (c':Nat):Si W (.slice (some ⟨b,off+k,none⟩) (n-k) c') (l.drop k):=by
 obtain ⟨a,cap,e,hc⟩:=h
 injection e with e1 e2 e3
 have hl:(l.drop k).length=n-k:=by rw [List.length_drop];omega
 refine ⟨_,c',by rw [hl],fun h0=>?_⟩
 obtain ⟨b',off',e4,hlt,hcell⟩:=hc (by omega)
 rw [←e1] at e4
 injection e4 with e4
 injection e4 with e5 e6
 subst e5 e6
 refine ⟨b,off+k,rfl,hlt,fun i hi=>?_⟩
 rw [hl] at hi
 rw [Nat.add_assoc,hcell (k+i) (by omega)]
 congr 2
 simp [nth]
theorem si_drop0 {W:World} {b n c:Nat} {l:List Int} (h:Si W (.slice (some ⟨b,0,none⟩) n c) l) (hn:l.length=n) (k:Nat) (hk:k<n) (c':Nat):Si W (.slice (some ⟨b,k,none⟩) (n-k) c') (l.drop k):=by
 have:=si_drop h hn k hk c'
 rwa [Nat.zero_add] at this
theorem si_empty (W:World) (a:Option Addr) (c:Nat):Si W (.slice a 0 c) []:=⟨a,c,rfl,fun h=>absurd h (by decide)⟩
theorem put_none (v:Int) (W:World) :
  Calls Tryz.prog 108 #[.slice none 0 0,.int .i64 v] W fun e w'=>∃ s' L,e = .returned s'∧Hid (w'.ownsRow W.heap.size 2 1 s' L.length (intv L))∧Hid (PutR [] v L)∧Below W.heap.size W w':=by
 have hnil:W.ownsRow W.heap.size 2 1 (.slice none 0 0) 0 (intv []):=by simpa [intv] using World.ownsRow_nil _ _ _ _
 go_enter Tryz.func108,Tryz.ntmps108
 go_wp2
 go_loopw [5] (fun i wr=>i = .int .i64 0∧wr=W) (fun i _=>0)
 case atStart=>exact ⟨rfl,rfl⟩
 case round =>
  obtain ⟨rfl,rfl⟩:=hrel
  go_upto_region 6 with (at_builtin;refine wpList_app_sr _ rfl _ _ rfl wr.heap.size _ 0 [] rfl hnil rfl _ ([]:List Int) rfl (si_empty _ _ _) (by simp<;>omega) (Nat.le_refl _) ?_;intro v1 w1 hr1 hbel1)
  have hr1':w1.ownsRow wr.heap.size 2 1 v1 (([]:List Int)).length (intv ([]:List Int)):=by simpa using hr1
  have hbA:Below wr.heap.size wr (w1.alloc (Obj.cells #[.int .i64 v] 2)):=hbel1.alloc hbel1.size _
  have hr1a:=World.ownsRow.alloc hr1' (Obj.cells #[.int .i64 v] 2)
  have hszA:=hbA.size
  clear hr1 hr1'
  go_upto_region 7 with (at_builtin;refine wpList_app_sr _ rfl _ _ rfl wr.heap.size _ _ ([]:List Int) rfl hr1a rfl _ [v] rfl (one_si w1 v) (by simp<;>omega) hszA ?_;intro v2 w2 hr2 hbel2)
  have hb2:Below wr.heap.size wr w2:=hbA.trans hbel2
  have hr2':w2.ownsRow wr.heap.size 2 1 v2 (([]:List Int)++[v]).length (intv (([]:List Int)++[v])):=by rw [List.length_append];exact hr2
  have hsz2:=hb2.size
  clear hr2 hbel2 hbA hszA hbel1 hr1a
  go_upto_region 8 with (at_builtin;refine wpList_app_sr _ rfl _ _ rfl wr.heap.size _ _ (([]:List Int)++[v]) rfl hr2' rfl _ ([]:List Int) rfl (si_empty _ _ _) (by simp<;>omega) hsz2 ?_;intro v3 w3 hr3 hbel3)
  have hb3:Below wr.heap.size wr w3:=hb2.trans hbel3
  have hr3':w3.ownsRow wr.heap.size 2 1 v3 (([]:List Int)++[v]++([]:List Int)).length (intv (([]:List Int)++[v]++([]:List Int))):=by rw [List.length_append];exact hr3
  obtain ⟨p3,c3,rfl⟩:=own_slice hr3'
  have HR3:Hid _:=hr3'
  clear hr3 hr3' hr2' hbel3 hb2
  generalize hLL:(([]:List Int)++[v]++([]:List Int)).length=LL at HR3
  have HLL:Hid ((([]:List Int)++[v]++([]:List Int)).length=LL):=hLL
  clear hLL
  go_wp2
  go_ret
  refine ⟨_,([]:List Int)++[v]++([]:List Int),rfl,by unfold Hid;rw [HLL.out];exact HR3.out,⟨0,Nat.le_refl _,fun j _ hj=>absurd hj (by simp),.inl rfl,rfl⟩,hb3⟩
theorem put_some (g n cap:Nat) (l:List Int) (v:Int) (W:World) (h:Si W (.slice (some ⟨g,0,none⟩) n cap) l) (hn:l.length=n) (hcap:n≤cap) (hl:n≤1000) :
  Calls Tryz.prog 108 #[.slice (some ⟨g,0,none⟩) n cap,.int .i64 v] W fun e w'=>∃ s' L,e = .returned s'∧Hid (w'.ownsRow W.heap.size 2 1 s' L.length (intv L))∧Hid (PutR l v L)∧Below W.heap.size W w':=by
 have hnil:W.ownsRow W.heap.size 2 1 (.slice none 0 0) 0 (intv []):=by simpa [intv] using World.ownsRow_nil _ _ _ _
 have hcells:∀ i,i<n→W.cell? ⟨g,i,none⟩=some (.int .i64 (nth l i)):=by
  obtain ⟨a,cp,e,hc⟩:=h
  injection e with e1 e2 e3
  intro i hi
  obtain ⟨b,off,e4,hlt,hcell⟩:=hc (by omega)
  rw [←e1] at e4
  injection e4 with e4
  injection e4 with e5 e6
  subst e5 e6
  have:=hcell i (by omega)
  rwa [Nat.zero_add] at this
 have HC:Hid _:=hcells
 have HS:Hid (Si W (.slice (some ⟨g,0,none⟩) n cap) l):=h
 have HN:Hid (l.length=n):=hn
 clear h hn hcells
 go_enter Tryz.func108,Tryz.ntmps108
 go_wp2
 go_loopw [5] (fun i wr=>∃ k:Nat,k≤n∧i = .int .i64 k∧(∀ j,k≤j→j<n→v<nth l j)∧wr=W) (fun i _=>(intOf i).toNat)
 case atStart=>exact ⟨n,Nat.le_refl _,rfl,fun j h1 h2=>by omega,rfl⟩
 case round =>
  obtain ⟨k,hk,rfl,hok,rfl⟩:=hrel
  have HOK:Hid (∀ j,k≤j→j<n→v<nth l j):=hok
  clear hok
  by_cases hk0:0<k
  ·have d1:=HC.out (k-1) (by omega)
   obtain ⟨z,hz⟩:∃ z,nth l (k-1)=z:=⟨_,rfl⟩
   have HZ:Hid (nth l (k-1)=z):=hz
   rw [hz] at d1
   have hk1:(k:Int)-1=((k-1:Nat):Int):=by omega
   have hd0:decide (0<k)=true:=by simpa using hk0
   have hlt1:((k-1:Nat):Int)<(n:Int):=by omega
   clear hz
   by_cases hv:v<z
   ·have hv':decide (v<z)=true:=by simpa using hv
    have HV:Hid (v<z):=hv
    clear hv
    go_wp2
    go_roundw
    case rel=>exact ⟨k-1,by omega,rfl,fun j h1 h2=>if h:j=k-1 then by subst h;rw [HZ.out];exact HV.out else HOK.out j (by omega) h2,trivial⟩
    case measure=>simp [intOf];omega
   ·have hv':decide (v<z)=false:=by simpa using hv
    have HV:Hid (z≤v):=by unfold Hid;omega
    clear hv
    have HPUT:Hid (PutR l v (l.take k++[v]++l.drop k)):=⟨k,by rw [HN.out];exact hk,fun j h1 h2=>HOK.out j h1 (by rw [HN.out] at h2;exact h2),.inr (by rw [HZ.out];exact HV.out),rfl⟩
    have hkc:(k:Int)≤(cap:Int):=by omega
    have hln:l.length≤1000:=by rw [HN.out];exact hl
    have hl1:(l.take k).length=k:=by rw [List.length_take,HN.out];omega
    have hl2:(l.drop k).length=n-k:=by rw [List.length_drop,HN.out]
    by_cases hkn:k<n
    ·have hkcap:¬cap=k:=by omega
     have hkcap':¬(cap:Int)=(k:Int):=by omega
     go_upto_region 6 with (at_builtin;refine wpList_app_sr _ rfl _ _ rfl wr.heap.size _ 0 [] rfl hnil rfl _ (l.take k) rfl (si_take HS.out HN.out k hk _) (by simp<;>omega) (Nat.le_refl _) ?_;intro v1 w1 hr1 hbel1)
     have hr1':w1.ownsRow wr.heap.size 2 1 v1 ((l.take k)).length (intv (l.take k)):=by simpa using hr1
     have hbA:Below wr.heap.size wr (w1.alloc (Obj.cells #[.int .i64 v] 2)):=hbel1.alloc hbel1.size _
     have hr1a:=World.ownsRow.alloc hr1' (Obj.cells #[.int .i64 v] 2)
     have hszA:=hbA.size
     clear hr1 hr1'
     go_upto_region 7 with (at_builtin;refine wpList_app_sr _ rfl _ _ rfl wr.heap.size _ _ (l.take k) rfl hr1a rfl _ [v] rfl (one_si w1 v) (by simp<;>omega) hszA ?_;intro v2 w2 hr2 hbel2)
     have hb2:Below wr.heap.size wr w2:=hbA.trans hbel2
     have hr2':w2.ownsRow wr.heap.size 2 1 v2 ((l.take k)++[v]).length (intv ((l.take k)++[v])):=by rw [List.length_append];exact hr2
     have hsz2:=hb2.size
     clear hr2 hbel2 hbA hszA hbel1 hr1a
     go_upto_region 8 with (at_builtin;refine wpList_app_sr _ rfl _ _ rfl wr.heap.size _ _ ((l.take k)++[v]) rfl hr2' rfl _ (l.drop k) rfl (Si.below (l:=l.drop k) (si_drop0 HS.out HN.out k hkn _) hb2) (by simp<;>omega) hsz2 ?_;intro v3 w3 hr3 hbel3)
     have hb3:Below wr.heap.size wr w3:=hb2.trans hbel3
     have hr3':w3.ownsRow wr.heap.size 2 1 v3 ((l.take k)++[v]++(l.drop k)).length (intv ((l.take k)++[v]++(l.drop k))):=by rw [List.length_append];exact hr3
     obtain ⟨p3,c3,rfl⟩:=own_slice hr3'
     have HR3:Hid _:=hr3'
     clear hr3 hr3' hr2' hbel3 hb2
     generalize hLL:((l.take k)++[v]++(l.drop k)).length=LL at HR3
     have HLL:Hid (((l.take k)++[v]++(l.drop k)).length=LL):=hLL
     clear hLL
     go_wp2
     go_ret
     refine ⟨_,(l.take k)++[v]++(l.drop k),rfl,by unfold Hid;rw [HLL.out];exact HR3.out,HPUT.out,hb3⟩
    ·obtain rfl:k=n:=by omega
     have hd:l.drop k=[]:=by rw [←HN.out];simp
     rw [hd] at HPUT hl2
     clear hd
     by_cases hkcap:cap=k
     ·subst hkcap
      go_upto_region 6 with (at_builtin;refine wpList_app_sr _ rfl _ _ rfl wr.heap.size _ 0 [] rfl hnil rfl _ (l.take cap) rfl (si_take HS.out HN.out cap hk _) (by simp<;>omega) (Nat.le_refl _) ?_;intro v1 w1 hr1 hbel1)
      have hr1':w1.ownsRow wr.heap.size 2 1 v1 ((l.take cap)).length (intv (l.take cap)):=by simpa using hr1
      have hbA:Below wr.heap.size wr (w1.alloc (Obj.cells #[.int .i64 v] 2)):=hbel1.alloc hbel1.size _
      have hr1a:=World.ownsRow.alloc hr1' (Obj.cells #[.int .i64 v] 2)
      have hszA:=hbA.size
      clear hr1 hr1'
      go_upto_region 7 with (at_builtin;refine wpList_app_sr _ rfl _ _ rfl wr.heap.size _ _ (l.take cap) rfl hr1a rfl _ [v] rfl (one_si w1 v) (by simp<;>omega) hszA ?_;intro v2 w2 hr2 hbel2)
      have hb2:Below wr.heap.size wr w2:=hbA.trans hbel2
      have hr2':w2.ownsRow wr.heap.size 2 1 v2 ((l.take cap)++[v]).length (intv ((l.take cap)++[v])):=by rw [List.length_append];exact hr2
      have hsz2:=hb2.size
      clear hr2 hbel2 hbA hszA hbel1 hr1a
      go_upto_region 8 with (at_builtin;refine wpList_app_sr _ rfl _ _ rfl wr.heap.size _ _ ((l.take cap)++[v]) rfl hr2' rfl _ ([]:List Int) rfl (si_empty _ _ _) (by simp<;>omega) hsz2 ?_;intro v3 w3 hr3 hbel3)
      have hb3:Below wr.heap.size wr w3:=hb2.trans hbel3
      have hr3':w3.ownsRow wr.heap.size 2 1 v3 ((l.take cap)++[v]++([]:List Int)).length (intv ((l.take cap)++[v]++([]:List Int))):=by rw [List.length_append];exact hr3
      obtain ⟨p3,c3,rfl⟩:=own_slice hr3'
      have HR3:Hid _:=hr3'
      clear hr3 hr3' hr2' hbel3 hb2
      generalize hLL:((l.take cap)++[v]++([]:List Int)).length=LL at HR3
      have HLL:Hid (((l.take cap)++[v]++([]:List Int)).length=LL):=hLL
      clear hLL
      go_wp2
      go_ret
      refine ⟨_,(l.take cap)++[v]++([]:List Int),rfl,by unfold Hid;rw [HLL.out];exact HR3.out,HPUT.out,hb3⟩
     ·have hkcap':¬(cap:Int)=(k:Int):=by omega
      go_upto_region 6 with (at_builtin;refine wpList_app_sr _ rfl _ _ rfl wr.heap.size _ 0 [] rfl hnil rfl _ (l.take k) rfl (si_take HS.out HN.out k hk _) (by simp<;>omega) (Nat.le_refl _) ?_;intro v1 w1 hr1 hbel1)
      have hr1':w1.ownsRow wr.heap.size 2 1 v1 ((l.take k)).length (intv (l.take k)):=by simpa using hr1
      have hbA:Below wr.heap.size wr (w1.alloc (Obj.cells #[.int .i64 v] 2)):=hbel1.alloc hbel1.size _
      have hr1a:=World.ownsRow.alloc hr1' (Obj.cells #[.int .i64 v] 2)
      have hszA:=hbA.size
      clear hr1 hr1'
      go_upto_region 7 with (at_builtin;refine wpList_app_sr _ rfl _ _ rfl wr.heap.size _ _ (l.take k) rfl hr1a rfl _ [v] rfl (one_si w1 v) (by simp<;>omega) hszA ?_;intro v2 w2 hr2 hbel2)
      have hb2:Below wr.heap.size wr w2:=hbA.trans hbel2
      have hr2':w2.ownsRow wr.heap.size 2 1 v2 ((l.take k)++[v]).length (intv ((l.take k)++[v])):=by rw [List.length_append];exact hr2
      have hsz2:=hb2.size
      clear hr2 hbel2 hbA hszA hbel1 hr1a
      go_upto_region 8 with (at_builtin;refine wpList_app_sr _ rfl _ _ rfl wr.heap.size _ _ ((l.take k)++[v]) rfl hr2' rfl _ ([]:List Int) rfl (si_empty _ _ _) (by simp<;>omega) hsz2 ?_;intro v3 w3 hr3 hbel3)
      have hb3:Below wr.heap.size wr w3:=hb2.trans hbel3
      have hr3':w3.ownsRow wr.heap.size 2 1 v3 ((l.take k)++[v]++([]:List Int)).length (intv ((l.take k)++[v]++([]:List Int))):=by rw [List.length_append];exact hr3
      obtain ⟨p3,c3,rfl⟩:=own_slice hr3'
      have HR3:Hid _:=hr3'
      clear hr3 hr3' hr2' hbel3 hb2
      generalize hLL:((l.take k)++[v]++([]:List Int)).length=LL at HR3
      have HLL:Hid (((l.take k)++[v]++([]:List Int)).length=LL):=hLL
      clear hLL
      go_wp2
      go_ret
      refine ⟨_,(l.take k)++[v]++([]:List Int),rfl,by unfold Hid;rw [HLL.out];exact HR3.out,HPUT.out,hb3⟩
  ·obtain rfl:k=0:=by omega
   have HPUT:Hid (PutR l v ([]++[v]++l)):=⟨0,by omega,fun j h1 h2=>HOK.out j h1 (by rw [HN.out] at h2;exact h2),.inl rfl,by simp⟩
   have hl2:l.length=n:=HN.out
   by_cases hcap0:cap=0
   ·subst hcap0
    obtain rfl:n=0:=by omega
    go_upto_region 6 with (at_builtin;refine wpList_app_sr _ rfl _ _ rfl wr.heap.size _ 0 [] rfl hnil rfl _ ([]:List Int) rfl (si_empty _ _ _) (by simp<;>omega) (Nat.le_refl _) ?_;intro v1 w1 hr1 hbel1)
    have hr1':w1.ownsRow wr.heap.size 2 1 v1 (([]:List Int)).length (intv ([]:List Int)):=by simpa using hr1
    have hbA:Below wr.heap.size wr (w1.alloc (Obj.cells #[.int .i64 v] 2)):=hbel1.alloc hbel1.size _
    have hr1a:=World.ownsRow.alloc hr1' (Obj.cells #[.int .i64 v] 2)
    have hszA:=hbA.size
    clear hr1 hr1'
    go_upto_region 7 with (at_builtin;refine wpList_app_sr _ rfl _ _ rfl wr.heap.size _ _ ([]:List Int) rfl hr1a rfl _ [v] rfl (one_si w1 v) (by simp<;>omega) hszA ?_;intro v2 w2 hr2 hbel2)
    have hb2:Below wr.heap.size wr w2:=hbA.trans hbel2
    have hr2':w2.ownsRow wr.heap.size 2 1 v2 (([]:List Int)++[v]).length (intv (([]:List Int)++[v])):=by rw [List.length_append];exact hr2
    have hsz2:=hb2.size
    clear hr2 hbel2 hbA hszA hbel1 hr1a
    go_upto_region 8 with (at_builtin;refine wpList_app_sr _ rfl _ _ rfl wr.heap.size _ _ (([]:List Int)++[v]) rfl hr2' rfl _ l rfl (Si.below (l:=l) HS.out hb2) (by simp<;>omega) hsz2 ?_;intro v3 w3 hr3 hbel3)
    have hb3:Below wr.heap.size wr w3:=hb2.trans hbel3
    have hr3':w3.ownsRow wr.heap.size 2 1 v3 (([]:List Int)++[v]++l).length (intv (([]:List Int)++[v]++l)):=by rw [List.length_append];exact hr3
    obtain ⟨p3,c3,rfl⟩:=own_slice hr3'
    have HR3:Hid _:=hr3'
    clear hr3 hr3' hr2' hbel3 hb2
    generalize hLL:(([]:List Int)++[v]++l).length=LL at HR3
    have HLL:Hid ((([]:List Int)++[v]++l).length=LL):=hLL
    clear hLL
    go_wp2
    go_ret
    refine ⟨_,([]:List Int)++[v]++l,rfl,by unfold Hid;rw [HLL.out];exact HR3.out,HPUT.out,hb3⟩
   ·have hcap1:¬(cap:Int)=0:=by omega
    go_upto_region 6 with (at_builtin;refine wpList_app_sr _ rfl _ _ rfl wr.heap.size _ 0 [] rfl hnil rfl _ ([]:List Int) rfl (si_empty _ _ _) (by simp<;>omega) (Nat.le_refl _) ?_;intro v1 w1 hr1 hbel1)
    have hr1':w1.ownsRow wr.heap.size 2 1 v1 (([]:List Int)).length (intv ([]:List Int)):=by simpa using hr1
    have hbA:Below wr.heap.size wr (w1.alloc (Obj.cells #[.int .i64 v] 2)):=hbel1.alloc hbel1.size _
    have hr1a:=World.ownsRow.alloc hr1' (Obj.cells #[.int .i64 v] 2)
    have hszA:=hbA.size
    clear hr1 hr1'
    go_upto_region 7 with (at_builtin;refine wpList_app_sr _ rfl _ _ rfl wr.heap.size _ _ ([]:List Int) rfl hr1a rfl _ [v] rfl (one_si w1 v) (by simp<;>omega) hszA ?_;intro v2 w2 hr2 hbel2)
    have hb2:Below wr.heap.size wr w2:=hbA.trans hbel2
    have hr2':w2.ownsRow wr.heap.size 2 1 v2 (([]:List Int)++[v]).length (intv (([]:List Int)++[v])):=by rw [List.length_append];exact hr2
    have hsz2:=hb2.size
    clear hr2 hbel2 hbA hszA hbel1 hr1a
    go_upto_region 8 with (at_builtin;refine wpList_app_sr _ rfl _ _ rfl wr.heap.size _ _ (([]:List Int)++[v]) rfl hr2' rfl _ l rfl (Si.below (l:=l) HS.out hb2) (by simp<;>omega) hsz2 ?_;intro v3 w3 hr3 hbel3)
    have hb3:Below wr.heap.size wr w3:=hb2.trans hbel3
    have hr3':w3.ownsRow wr.heap.size 2 1 v3 (([]:List Int)++[v]++l).length (intv (([]:List Int)++[v]++l)):=by rw [List.length_append];exact hr3
    obtain ⟨p3,c3,rfl⟩:=own_slice hr3'
    have HR3:Hid _:=hr3'
    clear hr3 hr3' hr2' hbel3 hb2
    generalize hLL:(([]:List Int)++[v]++l).length=LL at HR3
    have HLL:Hid ((([]:List Int)++[v]++l).length=LL):=hLL
    clear hLL
    go_wp2
    go_ret
    refine ⟨_,([]:List Int)++[v]++l,rfl,by unfold Hid;rw [HLL.out];exact HR3.out,HPUT.out,hb3⟩
theorem put_any (B:Nat) (s:Value) (l:List Int) (v:Int) (W:World) (h:W.ownsRow B 2 1 s l.length (intv l)) (hl:l.length≤1000) :
  Calls Tryz.prog 108 #[s,.int .i64 v] W fun e w'=>∃ s' L,e = .returned s'∧Hid (w'.ownsRow W.heap.size 2 1 s' L.length (intv L))∧Hid (PutR l v L)∧Below W.heap.size W w':=by
 have hs:=own_si h
 rcases h.2 with ⟨e,e0⟩ | ⟨g,cap,cur,e,hB,hg,hc,_⟩
 ·obtain rfl:=List.eq_nil_of_length_eq_zero e0
  subst e
  exact put_none v W
 ·rw [e] at hs ⊢
  exact put_some g l.length cap l v W hs rfl hc hl
theorem sort_is {l L:List Int} (hp:L.Perm l) (hs:L.Pairwise (·≤·)):L=sortL l :=
 List.Perm.eq_of_pairwise (le:=(·≤·)) (fun x y _ _ h1 h2=>by omega) hs (sort_pw l) (hp.trans (List.mergeSort_perm _ _).symm)
theorem put_step {A LB L L':List Int} {k:Nat} (hk:k<LB.length) (hp:L.Perm (A++LB.take k)) (h:PutR L (nth LB k) L'):L'.Perm (A++LB.take (k+1)):=by
 refine h.perm.trans ?_
 rw [take_next LB k hk,←List.append_assoc]
 exact (hp.cons _).trans (List.perm_append_comm (l₁:=[nth LB k]))
theorem refjoin_any (s1 s2:Value) (a b:List Int) (W:World) (h1:Si W s1 a) (h2:Si W s2 b) :
  Calls Tryz.prog 86 #[s1,s2] W fun e w'=>∃ v,e = .returned v∧w'.ownsRow W.heap.size 2 1 v (joinL (tkS a) (tkS b)).length (intv (joinL (tkS a) (tkS b)))∧Below W.heap.size W w':=by
 have k64:=taken_any s1 a W h1
 have k17:=fun X (hX:Below W.heap.size W X)=>refless_any s2 s1 b a X (h2.below hX) (h1.below hX)
 have hset:=(tkS_set a).1
 have hlb:(lessL (tkS b) (tkS a)).length≤64:=Nat.le_trans (lessL_le _ _) (tkS_set b).1
 have HAP:Hid ((tkS a).Pairwise (·≤·)):=(set_pw (tkS_set a)).imp (by omega)
 have HSP:Hid (joinL (tkS a) (tkS b)=sortL (tkS a++lessL (tkS b) (tkS a))):=rfl
 generalize joinL (tkS a) (tkS b)=J at HSP ⊢
 generalize lessL (tkS b) (tkS a)=LB at k17 hlb HSP
 generalize tkS a=A at k64 hset HAP HSP
 obtain ⟨a1,c1,rfl,_⟩:=h1
 obtain ⟨a2,c2,rfl,_⟩:=h2
 generalize a.length=n1 at *
 generalize b.length=n2 at *
 go_enter Tryz.func86,Tryz.ntmps86
 go_wp2_with fail
 refine k64.mono ?_
 rintro e w1 ⟨a3,n3,c3,rfl,HS,HN3,m1,hw1⟩
 have hb1:Below W.heap.size W w1:=by rw [hw1];exact below_drewN (Below.refl _ _) _
 have hnil:w1.ownsRow W.heap.size 2 1 (.slice none 0 0) 0 (intv []):=by simpa [intv] using World.ownsRow_nil _ _ _ _
 have HS1:Hid (Si w1 (.slice a3 n3 c3) A):=HS.out.below hb1
 have hsz1:=hb1.size
 clear k64 hw1 HS
 go_upto_region 3 with (at_builtin;refine wpList_app_sr _ rfl _ _ rfl W.heap.size _ 0 [] rfl hnil rfl _ A rfl HS1.out (by simp<;>omega) hsz1 ?_;intro v2 w2 hr2 hbel2)
 have hr2':w2.ownsRow W.heap.size 2 1 v2 A.length (intv A):=by simpa using hr2
 have hb2:Below W.heap.size W w2:=hb1.trans hbel2
 clear hr2 hbel2 hb1 hnil hsz1
 obtain ⟨p2,d2,rfl⟩:=own_slice hr2'
 have HR2:Hid _:=hr2'
 obtain ⟨na,hna⟩:∃ n,A.length=n:=⟨_,rfl⟩
 have HNA:Hid (A.length=na):=hna
 rw [hna] at HR2 hset ⊢
 have kk:=k17 w2 hb2
 clear k17 hr2' hna
 go_wp2_with fail
 refine kk.mono ?_
 rintro e w3 ⟨v3,rfl,hr3,hb3'⟩
 have hb3:Below W.heap.size W w3:=hb2.trans (hb3'.mono hb2.size)
 have HRA:Hid (w3.ownsRow W.heap.size 2 1 (.slice p2 na d2) A.length (intv A)):=by unfold Hid;rw [HNA.out];exact own_keepB HR2.out hb3'
 have hset2:A.length≤64:=by rw [HNA.out];exact hset
 have hw3:=hb3.size
 have hsl:=own_si hr3
 obtain ⟨p3,d3,rfl⟩:=own_slice hr3
 obtain ⟨a9,c9,e9,hc⟩:=hsl
 injection e9 with e4 _ e5
 subst e4 e5
 have HC:Hid _:=hc
 obtain ⟨nl,hnl⟩:∃ n,LB.length=n:=⟨_,rfl⟩
 have HNL:Hid (LB.length=nl):=hnl
 rw [hnl] at HC hlb ⊢
 clear kk hb3' hr3 HR2 hb2 hc hnl
 go_wp2
 go_loopw [5,7] (fun o i wr=>∃ (k:Nat) (L:List Int),k≤nl∧i = .int .i64 k∧Hid (L.Perm (A++LB.take k)∧L.Pairwise (·≤·))∧wr.ownsRow W.heap.size 2 1 o L.length (intv L)∧Below w3.heap.size w3 wr) (fun _ i _=>nl-(intOf i).toNat)
 case atStart=>exact ⟨0,A,Nat.zero_le _,rfl,⟨by simp,HAP.out⟩,HRA.out,Below.refl _ _⟩
 case round =>
  obtain ⟨k,L,hk,rfl,HP,hrow,hB⟩:=hrel
  have HROW:Hid _:=hrow
  have hLn:L.length≤128:=by rw [HP.out.1.length_eq,List.length_append,List.length_take];omega
  obtain ⟨po,co,rfl⟩:=own_slice hrow
  clear hrow
  by_cases hlt2:k<nl
  ·obtain ⟨bb,off,rfl,hb,hcell⟩:=HC.out (by omega)
   have d0:=hcell k hlt2
   obtain ⟨x,hx⟩:∃ x,nth LB k=x:=⟨_,rfl⟩
   have HX:Hid (nth LB k=x):=hx
   rw [hx] at d0
   have hlt':(k:Int)<(nl:Int):=by omega
   have d1:=(hB.cell (p:=⟨bb,off+k,none⟩) hb).trans d0
   have kp:=put_any W.heap.size _ L x wr HROW.out (by omega)
   obtain ⟨mo,hmo⟩:∃ m,L.length=m:=⟨_,rfl⟩
   rw [hmo] at kp hLn ⊢
   have HMO:Hid (L.length=mo):=hmo
   clear hx hcell d0 hmo
   go_wp2_with fail
   refine kp.mono ?_
   rintro e w4 ⟨s4,L4,rfl,HR4,HPU,hb4⟩
   obtain ⟨p4,c4,rfl⟩:=own_slice HR4.out
   have HR5:Hid _:=own_base HR4.out (Nat.le_trans hw3 hB.size)
   have hB4:Below w3.heap.size w3 w4:=hB.trans (hb4.mono hB.size)
   have HP4:Hid (L4.Perm (A++LB.take (k+1))∧L4.Pairwise (·≤·)):=⟨put_step (by rw [HNL.out];exact hlt2) HP.out.1 (by rw [HX.out];exact HPU.out),HPU.out.pw HP.out.2⟩
   obtain ⟨m4,hm4⟩:∃ m,L4.length=m:=⟨_,rfl⟩
   have HM4:Hid (L4.length=m4):=hm4
   rw [hm4]
   rw [hm4] at HR5
   clear kp hb4 HR4 hm4
   go_wp2
   go_roundw
   case rel=>exact ⟨k+1,L4,by omega,by go_num,HP4.out,by rw [HM4.out];exact HR5.out,hB4⟩
   case measure=>simp [intOf];omega
  ·have hlt':¬(k:Int)<(nl:Int):=by omega
   obtain rfl:k=nl:=by omega
   have HLL:Hid (L=sortL (A++LB)):=by
    have h1:=HP.out.1
    rw [←HNL.out,List.take_length] at h1
    exact sort_is h1 HP.out.2
   have HBW:Hid (Below W.heap.size W wr):=hb3.trans (hB.mono hb3.size)
   obtain ⟨mo,hmo⟩:∃ m,L.length=m:=⟨_,rfl⟩
   rw [hmo]
   rw [hmo] at HROW
   have HMO:Hid (L.length=mo):=hmo
   clear hmo
   go_wp2
   go_ret
   exact ⟨_,rfl,by rw [HSP.out,←HLL.out,HMO.out];exact HROW.out,HBW.out⟩
end Go.Proofs.YtghnfnieppfhgaaGreat.St
