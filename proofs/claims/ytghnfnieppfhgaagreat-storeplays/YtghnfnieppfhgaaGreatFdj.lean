/- What is proved here: the reference: is a domain empty; what is in two; made tight; does one lie within another one. What is proved here: the reference: are two domains alike, field by field; has one just one value. -/
import Derived.Test.YtghnfnieppfhgaaGreatAa
import Derived.Test.YtghnfnieppfhgaaGreatFa
import Derived.Test.YtghnfnieppfhgaaGreatYUhj
import Derived.Test.YtghnfnieppfhgaaGreatCaj
import Derived.Test.YtghnfnieppfhgaaGreatYOkj
import Derived.Test.YtghnfnieppfhgaaGreatYTbj
set_option linter.unusedVariables false
set_option linter.unusedSimpArgs false
set_option maxRecDepth 100000
set_option maxHeartbeats 4000000
namespace Go.Proofs.YtghnfnieppfhgaaGreat
open Go.RowKit Go.Shelf
theorem rempty_s {X:Nat→Prop} {W:World} {c:List Value} {d:MD} (h:Dc X W c d) (hs:d.set=true):Calls Tryz.prog 26 #[.agg c.toArray] W fun e w'=>e = .returned (.bool (St.emptyD (sdM d)))∧Below W.heap.size W w':=by
 have h0:=h
 obtain ⟨b,ra,n0,rc,a1,n1,c1,a2,n2,c2,x,y,rfl,HE,H1,H2,H3⟩:=h.look
 obtain rfl:b=true:=by rw [←HE.out.1,hs]
 obtain ⟨W0,hW0⟩:∃ Q,W.alloc (Obj.cells #[.bool true,.slice ra n0 rc,.slice a1 n1 c1,.slice a2 n2 c2,.int .i64 x,.int .i64 y] 37)=Q:=⟨_,rfl⟩
 have hb0:Below W.heap.size W W0:=by rw [←hW0];exact (Below.refl _ W).alloc (Nat.le_refl _) _
 have HB0:Hid (Bx W0 W.heap.size #[.bool true,.slice ra n0 rc,.slice a1 n1 c1,.slice a2 n2 c2,.int .i64 x,.int .i64 y] 37):=by rw [←hW0];exact Bx.new _ _ _
 have kr:=St.refempty_any _ _ W0 (h0.below hb0).di
 have HW0:Hid _:=hW0
 clear h h0 hs HE H1 H2 H3 hW0
 obtain ⟨z0,z1,z2,z3,z4,z5⟩:=HB0.out.six
 generalize St.emptyD (sdM d)=q at *
 go_enter Tryz.func26,Tryz.ntmps26
 go_upto_region 1 with (fail)
 rw [HW0.out]
 go_wp2_with fail
 refine kr.mono ?_
 rintro e w1 ⟨rfl,hb1⟩
 go_wp2
 go_ret
 exact ⟨rfl,hb0.trans (hb1.mono hb0.size)⟩
theorem rempty_n {X:Nat→Prop} {W:World} {c:List Value} {d:MD} (h:Dc X W c d) (hs:d.set=false):Calls Tryz.prog 26 #[.agg c.toArray] W fun e w'=>e = .returned (.bool (decide (d.r.length=0)))∧Below W.heap.size W w':=by
 obtain ⟨b,ra,n0,rc,a1,n1,c1,a2,n2,c2,x,y,rfl,HE,H1,H2,H3⟩:=h.look
 obtain rfl:b=false:=by rw [←HE.out.1,hs]
 have hn:d.r.length=n0:=HE.out.2.1
 rw [hn]
 obtain ⟨W0,hW0⟩:∃ Q,W.alloc (Obj.cells #[.bool false,.slice ra n0 rc,.slice a1 n1 c1,.slice a2 n2 c2,.int .i64 x,.int .i64 y] 37)=Q:=⟨_,rfl⟩
 have hb0:Below W.heap.size W W0:=by rw [←hW0];exact (Below.refl _ W).alloc (Nat.le_refl _) _
 have HB0:Hid (Bx W0 W.heap.size #[.bool false,.slice ra n0 rc,.slice a1 n1 c1,.slice a2 n2 c2,.int .i64 x,.int .i64 y] 37):=by rw [←hW0];exact Bx.new _ _ _
 have HW0:Hid _:=hW0
 clear h hs HE H1 H2 H3 hW0 hn
 obtain ⟨z0,z1,z2,z3,z4,z5⟩:=HB0.out.six
 have hd:((n0:Int)==0)=decide (n0=0):=by rw [Bool.eq_iff_iff];simp
 go_enter Tryz.func26,Tryz.ntmps26
 go_upto_region 1 with (fail)
 rw [HW0.out]
 go_wp2
 go_ret
 exact ⟨by first | rfl | exact ret_bool hd,hb0⟩
theorem rempty_d {X:Nat→Prop} {W:World} {c:List Value} {d:MD} (h:Dc X W c d):Calls Tryz.prog 26 #[.agg c.toArray] W fun e w'=>e = .returned (.bool (reM d))∧Below W.heap.size W w':=by
 cases hs:d.set
 ·have:=rempty_n h hs
  unfold reM;rw [if_neg (by simp [hs])];exact this
 ·have:=rempty_s h hs
  unfold reM;rw [if_pos hs];exact this
def rbM (a b:MD):MD:=if a.set then ofSD (St.rbothD (sdM a) (sdM b)) else ⟨false,Dm.bothR a.r b.r,[],[],0,0⟩
theorem rbothr_s {X Y:Nat→Prop} {W:World} {c k:List Value} {d o:MD} (h:Dc X W c d) (ho:Dc Y W k o) (hs:d.set=true):Calls Tryz.prog 24 #[.agg c.toArray,.agg k.toArray] W fun e w'=>∃ q:List Value,e = .returned (.agg q.toArray)∧Ans W.heap.size w' q (rbM d o)∧Below W.heap.size W w':=by
 obtain ⟨N,hN⟩:∃ N,W.heap.size=N:=⟨_,rfl⟩
 have h0:=h
 have ho0:=ho
 obtain ⟨b,ra,n0,rc,a1,n1,c1,a2,n2,c2,x,y,rfl,HE,H1,H2,H3⟩:=h.look
 obtain rfl:b=true:=by rw [←HE.out.1,hs]
 obtain ⟨B,rA,m0,rC,A1,m1,C1,A2,m2,C2,X1,Y1,rfl,HE',H1',H2',H3'⟩:=ho.look
 obtain ⟨W0,hW0⟩:∃ Q,((W.alloc (Obj.cells #[.bool true,.slice ra n0 rc,.slice a1 n1 c1,.slice a2 n2 c2,.int .i64 x,.int .i64 y] 37)).alloc (Obj.cells #[.bool B,.slice rA m0 rC,.slice A1 m1 C1,.slice A2 m2 C2,.int .i64 X1,.int .i64 Y1] 37)).alloc (Obj.cells #[.bool false,.slice none 0 0,.slice none 0 0,.slice none 0 0,.int .i64 0,.int .i64 0] 37)=Q:=⟨_,rfl⟩
 have hb0:Below W.heap.size W W0:=by rw [←hW0];exact (((Below.refl _ W).alloc (Nat.le_refl _) _).alloc (by simp) _).alloc (by simp;omega) _
 have HX:Hid (Bx W0 N #[.bool true,.slice ra n0 rc,.slice a1 n1 c1,.slice a2 n2 c2,.int .i64 x,.int .i64 y] 37):=by rw [←hW0];exact ((Bx.new' hN _ _).alloc _).alloc _
 have HY:Hid (Bx W0 (N+1) #[.bool B,.slice rA m0 rC,.slice A1 m1 C1,.slice A2 m2 C2,.int .i64 X1,.int .i64 Y1] 37):=by rw [←hW0];exact (Bx.new' (by simp [hN]) _ _).alloc _
 have HR:Hid (Bx W0 (N+1+1) #[.bool false,.slice none 0 0,.slice none 0 0,.slice none 0 0,.int .i64 0,.int .i64 0] 37):=by rw [←hW0];exact Bx.new' (by simp [hN]) _ _
 have HS0:Hid (W0.heap.size=N+3):=by unfold Hid;rw [←hW0];simp [hN]
 have HB0:Hid (Below W.heap.size W W0):=hb0
 have kr:=St.refboth_any _ _ (sdM d) (sdM o) W0 (h0.below hb0).di (ho0.below hb0).di
 have HM:Hid (rbM d o=ofSD (St.rbothD (sdM d) (sdM o))):=by unfold Hid rbM;rw [hs];rfl
 have HW0:Hid _:=hW0
 have HN:Hid (W.heap.size=N):=hN
 clear h h0 hs HE H1 H2 H3 hW0 ho ho0 HE' H1' H2' H3' hb0
 obtain ⟨z0,z1,z2,z3,z4,z5⟩:=HX.out.six
 obtain ⟨y0,y1,y2,y3,y4,y5⟩:=HY.out.six
 rw [HM.out,hN]
 go_enter Tryz.func24,Tryz.ntmps24
 go_upto_region 1 with (fail)
 rw [HW0.out]
 clear hN
 go_wp2_with fail
 refine kr.mono ?_
 clear kr
 rintro e w1 ⟨v',rfl,hv,hb1⟩
 obtain ⟨q,rfl,hA⟩:=dv_ans hv
 have HRx:=hid (HR.out.below hb1)
 have hsz:N+3≤w1.heap.size:=by have:=hb1.size;have:=HS0.out;omega
 have HANS:Hid (Ans W0.heap.size w1 q (ofSD (St.rbothD (sdM d) (sdM o)))):=hA
 have HBL:Hid (Below N W w1):=by rw [←HN.out];exact HB0.out.trans (hb1.mono HB0.out.size)
 have hs0:=HS0.out
 clear hA hv hb1
 go_wp2_with (with_reducible refine stD rfl (.tmp 4) (.tmp 9) rfl (N+1+1) q (by with_unfolding_all rfl) (by with_unfolding_all rfl) HRx.out rfl HANS.out.one.1 HANS.out.one.2 ?_)
 refine ⟨rfl,_,resD rfl _ (HRx.out.setRow _) HANS.out.one.1 (by with_unfolding_all rfl),q,rfl,(HANS.out.setRow (by omega) _).less (by omega),?_⟩
 exact below_row HBL.out (by omega) _
theorem rbothr_n {X Y:Nat→Prop} {W:World} {c k:List Value} {d o:MD} (h:Dc X W c d) (ho:Dc Y W k o) (hs:d.set=false):Calls Tryz.prog 24 #[.agg c.toArray,.agg k.toArray] W fun e w'=>∃ q:List Value,e = .returned (.agg q.toArray)∧Ans W.heap.size w' q (rbM d o)∧Below W.heap.size W w':=by
 obtain ⟨N,hN⟩:∃ N,W.heap.size=N:=⟨_,rfl⟩
 have h0:=h
 have ho0:=ho
 obtain ⟨b,ra,n0,rc,a1,n1,c1,a2,n2,c2,x,y,rfl,HE,H1,H2,H3⟩:=h.look
 obtain rfl:b=false:=by rw [←HE.out.1,hs]
 obtain ⟨B,rA,m0,rC,A1,m1,C1,A2,m2,C2,X1,Y1,rfl,HE',H1',H2',H3'⟩:=ho.look
 obtain ⟨W0,hW0⟩:∃ Q,((W.alloc (Obj.cells #[.bool false,.slice ra n0 rc,.slice a1 n1 c1,.slice a2 n2 c2,.int .i64 x,.int .i64 y] 37)).alloc (Obj.cells #[.bool B,.slice rA m0 rC,.slice A1 m1 C1,.slice A2 m2 C2,.int .i64 X1,.int .i64 Y1] 37)).alloc (Obj.cells #[.bool false,.slice none 0 0,.slice none 0 0,.slice none 0 0,.int .i64 0,.int .i64 0] 37)=Q:=⟨_,rfl⟩
 have hb0:Below W.heap.size W W0:=by rw [←hW0];exact (((Below.refl _ W).alloc (Nat.le_refl _) _).alloc (by simp) _).alloc (by simp;omega) _
 have HX:Hid (Bx W0 N #[.bool false,.slice ra n0 rc,.slice a1 n1 c1,.slice a2 n2 c2,.int .i64 x,.int .i64 y] 37):=by rw [←hW0];exact ((Bx.new' hN _ _).alloc _).alloc _
 have HY:Hid (Bx W0 (N+1) #[.bool B,.slice rA m0 rC,.slice A1 m1 C1,.slice A2 m2 C2,.int .i64 X1,.int .i64 Y1] 37):=by rw [←hW0];exact (Bx.new' (by simp [hN]) _ _).alloc _
 have HR:Hid (Bx W0 (N+1+1) #[.bool false,.slice none 0 0,.slice none 0 0,.slice none 0 0,.int .i64 0,.int .i64 0] 37):=by rw [←hW0];exact Bx.new' (by simp [hN]) _ _
 have HS0:Hid (W0.heap.size=N+3):=by unfold Hid;rw [←hW0];simp [hN]
 have HB0:Hid (Below W.heap.size W W0):=hb0
 have kr:=Dm.refboth_tk _ _ d.r o.r W0 (H1.out.kept (Kept.of_below hb0)).sr (H1'.out.kept (Kept.of_below hb0)).sr
 have HM:Hid (rbM d o=(⟨false,Dm.bothR d.r o.r,[],[],0,0⟩:MD)):=by unfold Hid rbM;rw [hs];rfl
 have HW0:Hid _:=hW0
 have HN:Hid (W.heap.size=N):=hN
 clear h h0 hs HE H1 H2 H3 hW0 ho ho0 HE' H1' H2' H3' hb0
 obtain ⟨z0,z1,z2,z3,z4,z5⟩:=HX.out.six
 obtain ⟨y0,y1,y2,y3,y4,y5⟩:=HY.out.six
 rw [HM.out,hN]
 go_enter Tryz.func24,Tryz.ntmps24
 go_upto_region 1 with (fail)
 rw [HW0.out]
 clear hN
 go_wp2_with fail
 refine kr.mono ?_
 clear kr
 rintro e w1 ⟨s',rfl,hv,hb1⟩
 obtain ⟨pp,cc,rfl,_,_⟩:=Dm.own_shape hv
 have hA:=rng_ans hv
 obtain ⟨q,hq⟩:∃ q:List Value,[.bool false,.slice pp (Dm.bothR d.r o.r).length cc,.slice none 0 0,.slice none 0 0,.int .i64 0,.int .i64 0]=q:=⟨_,rfl⟩
 have HQ:Hid _:=hq
 rw [hq] at hA
 have HRx:=hid (HR.out.below hb1)
 have hsz:N+3≤w1.heap.size:=by have:=hb1.size;have:=HS0.out;omega
 have HANS:Hid (Ans W0.heap.size w1 q ((⟨false,Dm.bothR d.r o.r,[],[],0,0⟩:MD))):=hA
 have HBL:Hid (Below N W w1):=by rw [←HN.out];exact HB0.out.trans (hb1.mono HB0.out.size)
 have hs0:=HS0.out
 clear hA hv hb1
 go_wp2_with (with_reducible refine stD rfl (.tmp 4) (.tmp 15) rfl (N+1+1) q (by with_unfolding_all rfl) (by rw [←HQ.out];with_unfolding_all rfl) HRx.out rfl HANS.out.one.1 HANS.out.one.2 ?_)
 refine ⟨rfl,_,resD rfl _ (HRx.out.setRow _) HANS.out.one.1 (by with_unfolding_all rfl),q,rfl,(HANS.out.setRow (by omega) _).less (by omega),?_⟩
 exact below_row HBL.out (by omega) _
theorem rbothr_d {X Y:Nat→Prop} {W:World} {c k:List Value} {d o:MD} (h:Dc X W c d) (ho:Dc Y W k o):Calls Tryz.prog 24 #[.agg c.toArray,.agg k.toArray] W fun e w'=>∃ q:List Value,e = .returned (.agg q.toArray)∧Ans W.heap.size w' q (rbM d o)∧Below W.heap.size W w':=by
 cases hs:d.set
 ·exact rbothr_n h ho hs
 ·exact rbothr_s h ho hs
def rtM (a:MD):MD:=if a.set then ofSD (St.rbothD (sdM a) (sdM a)) else a
theorem rg_eq {a b:List Dm.Rg} (hl:a.length=b.length) (h:∀ i,i<a.length→Dm.lo a i=Dm.lo b i∧Dm.hi a i=Dm.hi b i):a=b:=by
 apply List.ext_getElem hl
 intro i h1 h2
 obtain ⟨e1,e2⟩:=h i h1
 rw [Dm.lo_get a i h1,Dm.lo_get b i h2] at e1
 rw [Dm.hi_get a i h1,Dm.hi_get b i h2] at e2
 exact Prod.ext e1 e2
theorem one_no {X Y:Nat→Prop} {W:World} {c k:List Value} {a o:MD} (h:Dc X W c a) (h':Dc Y W k o) (hz:SzD a) (hne:a≠o):Calls Tryz.prog 25 #[.agg c.toArray,.agg k.toArray] W fun e w'=>e = .returned (.bool false)∧Below W.heap.size W w':=by
 obtain ⟨N,hN⟩:∃ N,W.heap.size=N:=⟨_,rfl⟩
 obtain ⟨b,ra,n0,rc,a1,n1,c1,a2,n2,c2,x,y,rfl,HE,H1,H2,H3⟩:=h.look
 obtain ⟨b',ra',n0',rc',a1',n1',c1',a2',n2',c2',x',y',rfl,HE',H1',H2',H3'⟩:=h'.look
 obtain ⟨W0,hW0⟩:∃ Q,(W.alloc (Obj.cells #[.bool b,.slice ra n0 rc,.slice a1 n1 c1,.slice a2 n2 c2,.int .i64 x,.int .i64 y] 37)).alloc (Obj.cells #[.bool b',.slice ra' n0' rc',.slice a1' n1' c1',.slice a2' n2' c2',.int .i64 x',.int .i64 y'] 37)=Q:=⟨_,rfl⟩
 have hb0:Below W.heap.size W W0:=by rw [←hW0];exact ((Below.refl _ W).alloc (Nat.le_refl _) _).alloc (by simp) _
 have HX:Hid (Bx W0 N #[.bool b,.slice ra n0 rc,.slice a1 n1 c1,.slice a2 n2 c2,.int .i64 x,.int .i64 y] 37):=by rw [←hW0];exact (Bx.new' hN _ _).alloc _
 have HY:Hid (Bx W0 (N+1) #[.bool b',.slice ra' n0' rc',.slice a1' n1' c1',.slice a2' n2' c2',.int .i64 x',.int .i64 y'] 37):=by rw [←hW0];exact Bx.new' (by simp [hN]) _ _
 have HB00:Hid (Below W.heap.size W W0):=hb0
 have HB0:Hid (Below W0.heap.size W0 W0):=Below.refl _ _
 have KL:Hid (∀ w,Below W0.heap.size W0 w→Calls Tryz.prog 63 #[.slice a1 n1 c1,.slice a1' n1' c1'] w fun e w'=>e = .returned (.bool (decide (a.lo=o.lo)))∧Below w.heap.size w w'):=fun w hb=>St.refsame_any _ _ a.lo o.lo w ((H2.out.kept (Kept.of_below hb0)).kept (Kept.of_below hb)).si ((H2'.out.kept (Kept.of_below hb0)).kept (Kept.of_below hb)).si hz.1
 have KU:Hid (∀ w,Below W0.heap.size W0 w→Calls Tryz.prog 63 #[.slice a2 n2 c2,.slice a2' n2' c2'] w fun e w'=>e = .returned (.bool (decide (a.up=o.up)))∧Below w.heap.size w w'):=fun w hb=>St.refsame_any _ _ a.up o.up w ((H3.out.kept (Kept.of_below hb0)).kept (Kept.of_below hb)).si ((H3'.out.kept (Kept.of_below hb0)).kept (Kept.of_below hb)).si hz.2.1
 have HRA:Hid (∀ w,Below W0.heap.size W0 w→Rm X w (.slice ra n0 rc) a.r):=fun w hb=>(H1.out.kept (Kept.of_below hb0)).kept (Kept.of_below hb)
 have HRB:Hid (∀ w,Below W0.heap.size W0 w→Rm Y w (.slice ra' n0' rc') o.r):=fun w hb=>(H1'.out.kept (Kept.of_below hb0)).kept (Kept.of_below hb)
 have HLN:Hid (a.r.length=n0∧o.r.length=n0'):=⟨HE.out.2.1,HE'.out.2.1⟩
 have hnn:n0*16≤140737488351232:=by rw [←HE.out.2.1];exact hz.2.2
 have HNE:Hid (b=b'→a.lo=o.lo→a.up=o.up→x=x'→y=y'→a.r=o.r→False):=fun e1 e2 e3 e4 e5 e6=>hne (by
  obtain ⟨f0,_,_,_,f4,f5⟩:=HE.out
  obtain ⟨g0,_,_,_,g4,g5⟩:=HE'.out
  cases a
  cases o
  simp only at *
  subst e2 e3 e6 f0 f4 f5 g0 g4 g5
  subst e1 e4 e5
  rfl)
 have HW0:Hid _:=hW0
 clear h h' HE H1 H2 H3 hW0 HE' H1' H2' H3' hb0 hz hne
 go_enter Tryz.func25,Tryz.ntmps25
 go_upto_region 1 with (fail)
 rw [HW0.out]
 clear hN
 obtain ⟨zA0,zA1,zA2,zA3,zA4,zA5⟩:=(HX.out.below HB0.out).six
 obtain ⟨zB0,zB1,zB2,zB3,zB4,zB5⟩:=(HY.out.below HB0.out).six
 by_cases e0:b=b'
 ·subst e0
  go_wp2_with fail
  refine (KL.out _ HB0.out).mono ?_
  clear zA0 zA1 zA2 zA3 zA4 zA5 zB0 zB1 zB2 zB3 zB4 zB5
  rintro e w1 ⟨rfl,hb⟩
  have HB1:=hid (HB0.out.trans (hb.mono HB0.out.size))
  clear hb
  obtain ⟨zA0,zA1,zA2,zA3,zA4,zA5⟩:=(HX.out.below HB1.out).six
  obtain ⟨zB0,zB1,zB2,zB3,zB4,zB5⟩:=(HY.out.below HB1.out).six
  cases q1:decide (a.lo=o.lo)
  ·
   go_wp2
   go_ret
   exact ⟨rfl,HB00.out.trans (HB1.out.mono HB00.out.size)⟩
  ·go_wp2_with fail
   refine (KU.out _ HB1.out).mono ?_
   clear zA0 zA1 zA2 zA3 zA4 zA5 zB0 zB1 zB2 zB3 zB4 zB5
   rintro e w2 ⟨rfl,hb⟩
   have HB2:=hid (HB1.out.trans (hb.mono HB1.out.size))
   clear hb
   obtain ⟨zA0,zA1,zA2,zA3,zA4,zA5⟩:=(HX.out.below HB2.out).six
   obtain ⟨zB0,zB1,zB2,zB3,zB4,zB5⟩:=(HY.out.below HB2.out).six
   cases q2:decide (a.up=o.up)
   ·
    go_wp2
    go_ret
    exact ⟨rfl,HB00.out.trans (HB2.out.mono HB00.out.size)⟩
   ·by_cases e4:x=x'
    ·subst e4
     by_cases e5:y=y'
     ·subst e5
      by_cases e6:n0=n0'
      ·subst e6
       have HNR:Hid (a.r≠o.r):=fun e=>HNE.out (by first | rfl | trivial) (by simpa using q1) (by simpa using q2) (by first | rfl | trivial) (by first | rfl | trivial) e
       clear q1 q2
       go_wp2
       clear zA0 zA1 zA2 zA3 zA4 zA5 zB0 zB1 zB2 zB3 zB4 zB5
       go_loopw [5] (fun i wr=>∃ j:Nat,j≤n0∧i = .int .i64 (j:Int)∧Hid (∀ i,i<j→Dm.lo a.r i=Dm.lo o.r i∧Dm.hi a.r i=Dm.hi o.r i)∧Hid (Below W0.heap.size W0 wr)) (fun i _=>n0-(intOf i).toNat)
       case atStart=>exact ⟨0,Nat.zero_le _,rfl,fun i hi=>by omega,HB2⟩
       case round =>
        obtain ⟨j,hj,rfl,HAL,HB⟩:=hrel
        obtain ⟨zA0,zA1,zA2,zA3,zA4,zA5⟩:=(HX.out.below HB.out).six
        obtain ⟨zB0,zB1,zB2,zB3,zB4,zB5⟩:=(HY.out.below HB.out).six
        by_cases hlt:j<n0
        ·obtain ⟨_,_,ea,hA⟩:=HRA.out wr HB.out
         obtain ⟨_,_,eb,hB⟩:=HRB.out wr HB.out
         obtain ⟨b1,o1,ra1,_,_,hc1⟩:=hA (by rw [HLN.out.1];omega)
         obtain ⟨b2,o2,rb1,_,_,hc2⟩:=hB (by rw [HLN.out.2];omega)
         have hra:ra=some ⟨b1,o1,none⟩:=by injection ea with ea _ _;exact ea.trans ra1
         have hrb:ra'=some ⟨b2,o2,none⟩:=by injection eb with eb _ _;exact eb.trans rb1
         obtain ⟨x1,x2⟩:=hc1 j (by rw [HLN.out.1];exact hlt)
         obtain ⟨y1,y2⟩:=hc2 j (by rw [HLN.out.2];exact hlt)
         subst hra hrb
         have kk:(j:Int)<(n0:Int):=by omega
         have HEQ:Hid ((Dm.lo a.r j=Dm.lo o.r j∧Dm.hi a.r j=Dm.hi o.r j)→∀ i,i<j+1→Dm.lo a.r i=Dm.lo o.r i∧Dm.hi a.r i=Dm.hi o.r i):=fun e i hi=>by
          rcases Nat.lt_or_ge i j with q | q
          ·exact HAL.out i q
          ·obtain rfl:i=j:=by omega
           exact e
         clear hc1 hc2 ea eb hA hB ra1 rb1
         obtain ⟨p,hp⟩:∃ q,Dm.lo a.r j=q:=⟨_,rfl⟩
         obtain ⟨r,hr⟩:∃ q,Dm.hi a.r j=q:=⟨_,rfl⟩
         obtain ⟨p',hp'⟩:∃ q,Dm.lo o.r j=q:=⟨_,rfl⟩
         obtain ⟨r',hr'⟩:∃ q,Dm.hi o.r j=q:=⟨_,rfl⟩
         rw [hp] at x1 HEQ
         rw [hr] at x2 HEQ
         rw [hp'] at y1 HEQ
         rw [hr'] at y2 HEQ
         clear hp hr hp' hr'
         by_cases f1:p=p'
         ·by_cases f2:r=r'
          ·subst f1 f2
           go_wp2
           go_quiet (fail)
           go_wp2
           go_roundw
           case rel=>exact ⟨j+1,by omega,by go_num,HEQ.out (by simp),St.below_drewN HB.out _⟩
           case measure=>simp [intOf];omega
          ·go_wp2
           go_quiet (fail)
           go_wp2
           go_ret
           exact ⟨rfl,HB00.out.trans ((St.below_drewN HB.out _).mono HB00.out.size)⟩
         ·go_wp2
          go_quiet (fail)
          go_wp2
          go_ret
          exact ⟨rfl,HB00.out.trans ((St.below_drewN HB.out _).mono HB00.out.size)⟩
        ·exfalso
         have:j=n0:=by omega
         exact HNR.out (rg_eq (by rw [HLN.out.1,HLN.out.2]) (fun i hi=>HAL.out i (by rw [HLN.out.1] at hi;omega)))
      ·have e6':((n0:Int) != (n0':Int))=true:=by simp;omega
       go_wp2
       go_ret
       exact ⟨rfl,HB00.out.trans (HB2.out.mono HB00.out.size)⟩
     ·have e5':(y != y')=true:=by simpa using e5
      go_wp2
      go_ret
      exact ⟨rfl,HB00.out.trans (HB2.out.mono HB00.out.size)⟩
    ·have e4':(x != x')=true:=by simpa using e4
     go_wp2
     go_ret
     exact ⟨rfl,HB00.out.trans (HB2.out.mono HB00.out.size)⟩
 ·have e0':(b != b')=true:=by simpa using e0
  go_wp2
  go_ret
  exact ⟨rfl,HB00.out.trans (HB0.out.mono HB00.out.size)⟩
theorem one_any {X Y:Nat→Prop} {W:World} {c k:List Value} {a o:MD} [Decidable (a=o)] (h:Dc X W c a) (h':Dc Y W k o) (hz:SzD a):Calls Tryz.prog 25 #[.agg c.toArray,.agg k.toArray] W fun e w'=>e = .returned (.bool (decide (a=o)))∧Below W.heap.size W w':=by
 by_cases e:a=o
 ·rw [decide_eq_true e]
  subst e
  exact one_d h h' hz
 ·rw [decide_eq_false e]
  exact one_no h h' hz e
theorem rvalue_s1 {X:Nat→Prop} {W:World} {c:List Value} {d:MD} (h:Dc X W c d) (hf:Dm.FitsR d.r) (hs:d.set=true) (ho:onlyA d=true):Calls Tryz.prog 27 #[.agg c.toArray] W fun e w'=>∃ (b:Bool) (n:Int) (p:Option Addr) (l k:Nat),e = .returned (.tuple #[.agg #[.bool b,.int .i64 n,.slice p l k],.bool true])∧Below W.heap.size W w':=by
 obtain ⟨N,hN⟩:∃ N,W.heap.size=N:=⟨_,rfl⟩
 have h0:=h
 have hfx:St.fixB (sdM d)=true:=by unfold onlyA at ho;rwa [if_pos hs] at ho
 obtain ⟨b,ra,n0,rc,a1,n1,c1,a2,n2,c2,x,y,rfl,HE,H1,H2,H3⟩:=h.look
 obtain rfl:b=true:=by rw [←HE.out.1,hs]
 obtain ⟨W0,hW0⟩:∃ Q,(W.alloc (Obj.cells #[.bool true,.slice ra n0 rc,.slice a1 n1 c1,.slice a2 n2 c2,.int .i64 x,.int .i64 y] 37)).alloc (Obj.cells #[.bool false,.int .i64 0,.slice none 0 0] 57)=Q:=⟨_,rfl⟩
 have hb0:Below W.heap.size W W0:=by rw [←hW0];exact ((Below.refl _ W).alloc (Nat.le_refl _) _).alloc (by simp) _
 have HX:Hid (Bx W0 N #[.bool true,.slice ra n0 rc,.slice a1 n1 c1,.slice a2 n2 c2,.int .i64 x,.int .i64 y] 37):=by rw [←hW0];exact (Bx.new' hN _ _).alloc _
 have HR:Hid (Bx W0 (N+1) #[.bool false,.int .i64 0,.slice none 0 0] 57):=by rw [←hW0];exact Bx.new' (by simp [hN]) _ _
 have HB0:Hid (Below W.heap.size W W0):=hb0
 have kr:=St.reffixed_any _ _ W0 (h0.below hb0).di
 rw [hfx] at kr
 clear hfx
 have HW0:Hid _:=hW0
 have HN:Hid (W.heap.size=N):=hN
 clear h h0 hf hs ho HE H1 H2 H3 hW0 hb0
 obtain ⟨z0,z1,z2,z3,z4,z5⟩:=HX.out.six
 go_enter Tryz.func27,Tryz.ntmps27
 go_upto_region 1 with (fail)
 rw [HW0.out]
 clear hN
 go_wp2_with fail
 refine kr.mono ?_
 clear kr z0 z1 z2 z3 z4 z5
 rintro e w1 ⟨p,l,k,rfl,-,hb1⟩
 have HRx:=hid (HR.out.below hb1)
 have HBL:=hid (HB0.out.trans (hb1.mono HB0.out.size))
 obtain ⟨z0,z1,z2,z3,z4,z5⟩:=(HX.out.below hb1).six
 clear hb1
 obtain ⟨x0,x1,x2⟩:=HRx.out.three
 have f0:=HRx.out.fr 0
 have f1:=HRx.out.fr 1
 have f2:=HRx.out.fr 2
 have HZX:=HRx.out.set3 (.bool true) (.int .i64 0) (.slice p l k)
 go_wp2
 refine ⟨rfl,_,res_ct rfl _ HZX (by with_unfolding_all rfl) rfl Tryz.underlying57 (by kernel_rfl) (v:=.bool true) (by with_unfolding_all rfl),_,_,_,_,_,rfl,?_⟩
 have hle:W.heap.size≤N+1:=by rw [HN.out];omega
 exact ((HBL.out.setCell (p:=⟨N+1,0,none⟩) hle _).setCell (p:=⟨N+1,1,none⟩) hle _).setCell (p:=⟨N+1,2,none⟩) hle _
theorem rvalue_s0 {X:Nat→Prop} {W:World} {c:List Value} {d:MD} (h:Dc X W c d) (hf:Dm.FitsR d.r) (hs:d.set=true) (ho:onlyA d=false):Calls Tryz.prog 27 #[.agg c.toArray] W fun e w'=>∃ (b:Bool) (n:Int) (p:Option Addr) (l k:Nat),e = .returned (.tuple #[.agg #[.bool b,.int .i64 n,.slice p l k],.bool false])∧Below W.heap.size W w':=by
 obtain ⟨N,hN⟩:∃ N,W.heap.size=N:=⟨_,rfl⟩
 have h0:=h
 have hfx:St.fixB (sdM d)=false:=by unfold onlyA at ho;rwa [if_pos hs] at ho
 obtain ⟨b,ra,n0,rc,a1,n1,c1,a2,n2,c2,x,y,rfl,HE,H1,H2,H3⟩:=h.look
 obtain rfl:b=true:=by rw [←HE.out.1,hs]
 obtain ⟨W0,hW0⟩:∃ Q,(W.alloc (Obj.cells #[.bool true,.slice ra n0 rc,.slice a1 n1 c1,.slice a2 n2 c2,.int .i64 x,.int .i64 y] 37)).alloc (Obj.cells #[.bool false,.int .i64 0,.slice none 0 0] 57)=Q:=⟨_,rfl⟩
 have hb0:Below W.heap.size W W0:=by rw [←hW0];exact ((Below.refl _ W).alloc (Nat.le_refl _) _).alloc (by simp) _
 have HX:Hid (Bx W0 N #[.bool true,.slice ra n0 rc,.slice a1 n1 c1,.slice a2 n2 c2,.int .i64 x,.int .i64 y] 37):=by rw [←hW0];exact (Bx.new' hN _ _).alloc _
 have HR:Hid (Bx W0 (N+1) #[.bool false,.int .i64 0,.slice none 0 0] 57):=by rw [←hW0];exact Bx.new' (by simp [hN]) _ _
 have HB0:Hid (Below W.heap.size W W0):=hb0
 have kr:=St.reffixed_any _ _ W0 (h0.below hb0).di
 rw [hfx] at kr
 clear hfx
 have HW0:Hid _:=hW0
 have HN:Hid (W.heap.size=N):=hN
 clear h h0 hf hs ho HE H1 H2 H3 hW0 hb0
 obtain ⟨z0,z1,z2,z3,z4,z5⟩:=HX.out.six
 go_enter Tryz.func27,Tryz.ntmps27
 go_upto_region 1 with (fail)
 rw [HW0.out]
 clear hN
 go_wp2_with fail
 refine kr.mono ?_
 clear kr z0 z1 z2 z3 z4 z5
 rintro e w1 ⟨p,l,k,rfl,-,hb1⟩
 have HRx:=hid (HR.out.below hb1)
 have HBL:=hid (HB0.out.trans (hb1.mono HB0.out.size))
 obtain ⟨z0,z1,z2,z3,z4,z5⟩:=(HX.out.below hb1).six
 clear hb1
 obtain ⟨x0,x1,x2⟩:=HRx.out.three
 have f0:=HRx.out.fr 0
 have f1:=HRx.out.fr 1
 have f2:=HRx.out.fr 2
 have HZX:=HRx.out.set3 (.bool false) (.int .i64 0) (.slice none 0 0)
 go_wp2
 refine ⟨rfl,_,res_ct rfl _ HZX (by with_unfolding_all rfl) rfl Tryz.underlying57 (by kernel_rfl) (v:=.bool false) (by with_unfolding_all rfl),_,_,_,_,_,rfl,?_⟩
 have hle:W.heap.size≤N+1:=by rw [HN.out];omega
 exact ((HBL.out.setCell (p:=⟨N+1,0,none⟩) hle _).setCell (p:=⟨N+1,1,none⟩) hle _).setCell (p:=⟨N+1,2,none⟩) hle _
theorem rvalue_n1 {X:Nat→Prop} {W:World} {c:List Value} {d:MD} (h:Dc X W c d) (hf:Dm.FitsR d.r) (hs:d.set=false) (ho:onlyA d=true):Calls Tryz.prog 27 #[.agg c.toArray] W fun e w'=>∃ (b:Bool) (n:Int) (p:Option Addr) (l k:Nat),e = .returned (.tuple #[.agg #[.bool b,.int .i64 n,.slice p l k],.bool true])∧Below W.heap.size W w':=by
 obtain ⟨N,hN⟩:∃ N,W.heap.size=N:=⟨_,rfl⟩
 have h0:=h
 have hsz:Dm.sizeR (Dm.tk d.r)=1:=by
  unfold onlyA onlyW at ho
  rw [if_neg (by rw [hs];decide)] at ho
  by_cases q:Dm.sizeR (Dm.tk d.r)=1
  ·exact q
  ·rw [if_neg q] at ho;cases ho
 have hpos:0<d.r.length:=by
  rcases Nat.eq_zero_or_pos d.r.length with q | q
  ·rw [List.length_eq_zero_iff.1 q] at hsz
   exact absurd hsz (by decide)
  ·exact q
 obtain ⟨b,ra,n0,rc,a1,n1,c1,a2,n2,c2,x,y,rfl,HE,H1,H2,H3⟩:=h.look
 obtain rfl:b=false:=by rw [←HE.out.1,hs]
 obtain ⟨W0,hW0⟩:∃ Q,(W.alloc (Obj.cells #[.bool false,.slice ra n0 rc,.slice a1 n1 c1,.slice a2 n2 c2,.int .i64 x,.int .i64 y] 37)).alloc (Obj.cells #[.bool false,.int .i64 0,.slice none 0 0] 57)=Q:=⟨_,rfl⟩
 have hb0:Below W.heap.size W W0:=by rw [←hW0];exact ((Below.refl _ W).alloc (Nat.le_refl _) _).alloc (by simp) _
 have HX:Hid (Bx W0 N #[.bool false,.slice ra n0 rc,.slice a1 n1 c1,.slice a2 n2 c2,.int .i64 x,.int .i64 y] 37):=by rw [←hW0];exact (Bx.new' hN _ _).alloc _
 have HR:Hid (Bx W0 (N+1) #[.bool false,.int .i64 0,.slice none 0 0] 57):=by rw [←hW0];exact Bx.new' (by simp [hN]) _ _
 have HB0:Hid (Below W.heap.size W W0):=hb0
 have kr:=(Dm.refsize_any _ _ _ (H1.out.kept (Kept.of_below hb0)).sr)
 rw [hsz] at kr
 obtain ⟨b1,off1,hra,hlo,hcl⟩:∃ b1 off1,ra=some ⟨b1,off1,none⟩∧b1<W0.heap.size∧W0.cell? ⟨b1,off1,none⟩=some (.int .i64 (Dm.lo d.r 0)):=by
  obtain ⟨a',c',e,hh⟩:=(H1.out.kept (Kept.of_below hb0))
  injection e with e1 e2 e3
  obtain ⟨b1,off1,q1,q2,_,q3⟩:=hh hpos
  refine ⟨b1,off1,by rw [e1,q1],q2,?_⟩
  have:=(q3 0 hpos).1
  simpa using this
 subst hra
 have hn0:0<n0:=by rw [←HE.out.2.1];exact hpos
 generalize Dm.lo d.r 0=lo0 at *
 clear hsz hpos
 have HW0:Hid _:=hW0
 have HN:Hid (W.heap.size=N):=hN
 clear h h0 hf hs ho HE H1 H2 H3 hW0 hb0
 obtain ⟨z0,z1,z2,z3,z4,z5⟩:=HX.out.six
 go_enter Tryz.func27,Tryz.ntmps27
 go_upto_region 1 with (fail)
 rw [HW0.out]
 clear hN
 go_wp2_with fail
 refine kr.mono ?_
 clear kr z0 z1 z2 z3 z4 z5
 rintro e w1 ⟨rfl,hb1⟩
 have HRx:=hid (HR.out.below hb1)
 have HBL:=hid (HB0.out.trans (hb1.mono HB0.out.size))
 obtain ⟨z0,z1,z2,z3,z4,z5⟩:=(HX.out.below hb1).six
 have hcl1:w1.cell? ⟨b1,off1,none⟩=some (.int .i64 lo0):=(hb1.cell (p:=⟨b1,_,none⟩) hlo).trans hcl
 clear hcl hlo
 clear hb1
 obtain ⟨x0,x1,x2⟩:=HRx.out.three
 have f0:=HRx.out.fr 0
 have f1:=HRx.out.fr 1
 have f2:=HRx.out.fr 2
 have HZX:=HRx.out.set3 (.bool false) (.int .i64 lo0) (.slice none 0 0)
 go_wp2
 refine ⟨rfl,_,res_ct rfl _ HZX (by with_unfolding_all rfl) rfl Tryz.underlying57 (by kernel_rfl) (v:=.bool true) (by with_unfolding_all rfl),_,_,_,_,_,rfl,?_⟩
 have hle:W.heap.size≤N+1:=by rw [HN.out];omega
 exact ((HBL.out.setCell (p:=⟨N+1,0,none⟩) hle _).setCell (p:=⟨N+1,1,none⟩) hle _).setCell (p:=⟨N+1,2,none⟩) hle _
theorem rvalue_n0 {X:Nat→Prop} {W:World} {c:List Value} {d:MD} (h:Dc X W c d) (hf:Dm.FitsR d.r) (hs:d.set=false) (ho:onlyA d=false):Calls Tryz.prog 27 #[.agg c.toArray] W fun e w'=>∃ (b:Bool) (n:Int) (p:Option Addr) (l k:Nat),e = .returned (.tuple #[.agg #[.bool b,.int .i64 n,.slice p l k],.bool false])∧Below W.heap.size W w':=by
 obtain ⟨N,hN⟩:∃ N,W.heap.size=N:=⟨_,rfl⟩
 have h0:=h
 have hsz:¬Dm.sizeR (Dm.tk d.r)=1:=by
  unfold onlyA onlyW at ho
  rw [if_neg (by rw [hs];decide)] at ho
  by_cases q:Dm.sizeR (Dm.tk d.r)=1
  ·rw [if_pos q] at ho;cases ho
  ·exact q
 obtain ⟨b,ra,n0,rc,a1,n1,c1,a2,n2,c2,x,y,rfl,HE,H1,H2,H3⟩:=h.look
 obtain rfl:b=false:=by rw [←HE.out.1,hs]
 obtain ⟨W0,hW0⟩:∃ Q,(W.alloc (Obj.cells #[.bool false,.slice ra n0 rc,.slice a1 n1 c1,.slice a2 n2 c2,.int .i64 x,.int .i64 y] 37)).alloc (Obj.cells #[.bool false,.int .i64 0,.slice none 0 0] 57)=Q:=⟨_,rfl⟩
 have hb0:Below W.heap.size W W0:=by rw [←hW0];exact ((Below.refl _ W).alloc (Nat.le_refl _) _).alloc (by simp) _
 have HX:Hid (Bx W0 N #[.bool false,.slice ra n0 rc,.slice a1 n1 c1,.slice a2 n2 c2,.int .i64 x,.int .i64 y] 37):=by rw [←hW0];exact (Bx.new' hN _ _).alloc _
 have HR:Hid (Bx W0 (N+1) #[.bool false,.int .i64 0,.slice none 0 0] 57):=by rw [←hW0];exact Bx.new' (by simp [hN]) _ _
 have HB0:Hid (Below W.heap.size W W0):=hb0
 have kr:=(Dm.refsize_any _ _ _ (H1.out.kept (Kept.of_below hb0)).sr)
 generalize Dm.sizeR (Dm.tk d.r)=sz at *
 have hsz':(sz != 1)=true:=by simpa using hsz
 have HW0:Hid _:=hW0
 have HN:Hid (W.heap.size=N):=hN
 clear h h0 hf hs ho HE H1 H2 H3 hW0 hb0
 obtain ⟨z0,z1,z2,z3,z4,z5⟩:=HX.out.six
 go_enter Tryz.func27,Tryz.ntmps27
 go_upto_region 1 with (fail)
 rw [HW0.out]
 clear hN
 go_wp2_with fail
 refine kr.mono ?_
 clear kr z0 z1 z2 z3 z4 z5
 rintro e w1 ⟨rfl,hb1⟩
 have HRx:=hid (HR.out.below hb1)
 have HBL:=hid (HB0.out.trans (hb1.mono HB0.out.size))
 obtain ⟨z0,z1,z2,z3,z4,z5⟩:=(HX.out.below hb1).six
 clear hb1
 obtain ⟨x0,x1,x2⟩:=HRx.out.three
 have f0:=HRx.out.fr 0
 have f1:=HRx.out.fr 1
 have f2:=HRx.out.fr 2
 have HZX:=HRx.out.set3 (.bool false) (.int .i64 0) (.slice none 0 0)
 go_wp2
 refine ⟨rfl,_,res_ct rfl _ HZX (by with_unfolding_all rfl) rfl Tryz.underlying57 (by kernel_rfl) (v:=.bool false) (by with_unfolding_all rfl),_,_,_,_,_,rfl,?_⟩
 have hle:W.heap.size≤N+1:=by rw [HN.out];omega
 exact ((HBL.out.setCell (p:=⟨N+1,0,none⟩) hle _).setCell (p:=⟨N+1,1,none⟩) hle _).setCell (p:=⟨N+1,2,none⟩) hle _
theorem rvalue_d {X:Nat→Prop} {W:World} {c:List Value} {d:MD} (h:Dc X W c d) (hf:Dm.FitsR d.r):Calls Tryz.prog 27 #[.agg c.toArray] W fun e w'=>∃ (b:Bool) (n:Int) (p:Option Addr) (l k:Nat),e = .returned (.tuple #[.agg #[.bool b,.int .i64 n,.slice p l k],.bool (onlyA d)])∧Below W.heap.size W w':=by
 cases hs:d.set<;>cases ho:onlyA d
 ·exact rvalue_n0 h hf hs ho
 ·exact rvalue_n1 h hf hs ho
 ·exact rvalue_s0 h hf hs ho
 ·exact rvalue_s1 h hf hs ho
end Go.Proofs.YtghnfnieppfhgaaGreat
