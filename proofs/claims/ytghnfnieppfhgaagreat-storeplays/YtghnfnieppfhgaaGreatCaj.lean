/- What is proved here: domains of both kinds in memory; whether they can be, by package kinds and by the reference. What is proved here: whether a domain of any kind has several values; how many it has. What is proved here: what a decision leaves of a domain, by package branch. What is proved here: domains held against each other, and lent. What is proved here: numbers and lists of domains in memory. What is proved here: lists of domains that are lent, and held against each other. What is proved here: lists in memory that may be written into. What is proved here: a list of domains that is lent. -/
import Derived.Test.YtghnfnieppfhgaaGreatKaj
import Derived.Test.YtghnfnieppfhgaaGreatYNd
import Derived.Test.YtghnfnieppfhgaaGreatYTbj
import Derived.Test.YtghnfnieppfhgaaGreatYOkj
import Derived.Test.YtghnfnieppfhgaaGreatYUbj
import Derived.Test.YtghnfnieppfhgaaGreatYCaj
import Derived.Test.YtghnfnieppfhgaaGreatAa
import Derived.OwnWalk
set_option linter.unusedVariables false
set_option linter.unusedSimpArgs false
set_option maxRecDepth 100000
set_option maxHeartbeats 4000000
namespace Go.Proofs.YtghnfnieppfhgaaGreat
open Go.RowKit Go.Shelf
def sdM (d:MD):St.SD:=⟨d.set,d.r.length,d.lo,d.up,d.least,d.most⟩
theorem Nm.si {X:Nat→Prop} {w:World} {s:Value} {l:List Int} (h:Nm X w s l):St.Si w s l:=by
 obtain ⟨a,c,e,h⟩:=h
 refine ⟨a,c,e,fun h0=>?_⟩
 obtain ⟨b,off,e1,e2,_,e4⟩:=h h0
 refine ⟨b,off,e1,e2,fun i hi=>e4 i _ ?_⟩
 unfold St.nth
 rw [List.getD_eq_getElem?_getD,List.getElem?_eq_getElem hi];rfl
theorem Dc.di {X:Nat→Prop} {w:World} {c:List Value} {d:MD} (h:Dc X w c d):St.Di w (.agg c.toArray) (sdM d):=by
 obtain ⟨ra,rc,a1,c1,a2,c2,rfl,_,h2,h3⟩:=h
 exact ⟨ra,rc,_,_,rfl,h2.si,h3.si⟩
def rightM (d:MD):Bool:=if d.set then St.rightD (sdM d) else rightW d
def WrS (B k:Nat) (w:World) (s:Value):Prop:=∃ a n c,s = .slice a n c∧n≤9223372036854775807∧(0<n→∃ g cur t,a=some ⟨g,0,none⟩∧B≤g∧w.heap[g]? = some (.cells cur t (0,0))∧n*k≤cur.size)
theorem WrS.below {B k:Nat} {w w':World} {s:Value} (h:WrS B k w s) (hb:Below w.heap.size w w'):WrS B k w' s:=by
 obtain ⟨a,n,c,e,hmx,h⟩:=h
 refine ⟨a,n,c,e,hmx,fun h0=>?_⟩
 obtain ⟨g',cur,t,e1,e2,e3,e4⟩:=h h0
 exact ⟨g',cur,t,e1,e2,(hb.block g' (Array.getElem?_eq_some_iff.1 e3).1).trans e3,e4⟩
theorem WrS.nil (B k:Nat) (w:World):WrS B k w (.slice none 0 0):=⟨none,0,0,rfl,by decide,fun h=>absurd h (Nat.lt_irrefl _)⟩
theorem WrS.own {B k n:Nat} {w:World} {s:Value} {e:TypeId} {xs:List Value} (h:w.ownsRow B e k s n xs):WrS B k w s:=by
 rcases h.2 with ⟨e1,e2⟩ | ⟨g,cap,cur,e1,hB,hg,hn,hm,hs,ht⟩
 ·exact ⟨none,0,0,e1,by decide,fun h0=>absurd h0 (Nat.lt_irrefl _)⟩
 ·exact ⟨_,n,cap,e1,by unfold maxLen at hm;omega,fun _=>⟨g,cur,e,rfl,hB,hg,by rw [hs];exact Nat.mul_le_mul_right _ hn⟩⟩
def OwnD (B:Nat) (w:World) (q:List Value):Prop:=∃ b p0 n0 k0 p1 n1 k1 p2 n2 k2 x y,q=[.bool b,.slice p0 n0 k0,.slice p1 n1 k1,.slice p2 n2 k2,.int .i64 x,.int .i64 y]∧WrS B 2 w (.slice p0 n0 k0)∧WrS B 1 w (.slice p1 n1 k1)∧WrS B 1 w (.slice p2 n2 k2)
theorem nm_own {X:Nat→Prop} {w:World} {B:Nat} {s:Value} {l:List Int} (h:w.ownsRow B 2 1 s l.length (St.intv l)) (hX:∀ b,X b→b<B):Nm X w s l:=by
 rcases h.2 with ⟨e1,e2⟩ | ⟨g,cap,cur,e1,hB,hg,hn,hm,hs,ht⟩
 ·exact ⟨none,0,by rw [e2];exact e1,fun h0=>by omega⟩
 ·refine ⟨_,cap,e1,fun h0=>⟨g,0,rfl,(Array.getElem?_eq_some_iff.1 hg).1,fun q=>by have:=hX g q;omega,fun i x hx=>?_⟩⟩
  have hi:=(List.getElem?_eq_some_iff.1 hx).1
  have hc:w.cell? ⟨g,0+i,none⟩=cur[i]?:=by simp [World.cell?,hg]
  have h1:(St.intv l)[i]? = some (.int .i64 x):=by simp [St.intv,hx]
  rw [←ht,List.getElem?_take,if_pos (by omega),Array.getElem?_toList] at h1
  rw [hc];exact h1
theorem dv_own {B:Nat} {w:World} {v:Value} {d:St.SD} (h:St.Dv B w v d):∃ q:List Value,v = .agg q.toArray∧OwnD B w q∧∀ Z:Nat→Prop,(∀ b,Z b→b<B)→Dc Z w q ⟨d.set,[],d.lo,d.up,d.least,d.most⟩:=by
 obtain ⟨slo,sup,rfl,hr,h1,h2⟩:=h
 obtain ⟨p1,c1,rfl⟩:∃ p c,slo = .slice p d.lo.length c:=by
  rcases h1.2 with ⟨e1,e2⟩ | ⟨g,cap,cur,e1,_⟩
  ·exact ⟨none,0,by rw [e2];exact e1⟩
  ·exact ⟨_,_,e1⟩
 obtain ⟨p2,c2,rfl⟩:∃ p c,sup = .slice p d.up.length c:=by
  rcases h2.2 with ⟨e1,e2⟩ | ⟨g,cap,cur,e1,_⟩
  ·exact ⟨none,0,by rw [e2];exact e1⟩
  ·exact ⟨_,_,e1⟩
 refine ⟨[_,_,_,_,_,_],rfl,⟨_,_,_,_,_,_,_,_,_,_,_,_,rfl,WrS.nil _ _ _,WrS.own h1,WrS.own h2⟩,fun Z hZ=>⟨none,0,p1,c1,p2,c2,rfl,⟨none,0,rfl,fun h0=>absurd h0 (by simp)⟩,nm_own h1 hZ,nm_own h2 hZ⟩⟩
theorem rright_w {X:Nat→Prop} {W:World} {c:List Value} {d:MD} (h:Dc X W c d) (hs:d.set=false) (hf:Dm.FitsR d.r) :
  Calls Tryz.prog 23 #[.agg c.toArray] W fun e w'=>e = .returned (.bool (rightW d))∧Below W.heap.size W w':=by
 obtain ⟨b,ra,n0,rc,a1,n1,c1,a2,n2,c2,x,y,rfl,HE,H1,H2,H3⟩:=h.look
 clear h
 obtain rfl:b=false:=by rw [←HE.out.1,hs]
 obtain ⟨W0,hW0⟩:∃ Q,W.alloc (Obj.cells #[.bool false,.slice ra n0 rc,.slice a1 n1 c1,.slice a2 n2 c2,.int .i64 x,.int .i64 y] 37)=Q:=⟨_,rfl⟩
 have hb0:Below W.heap.size W W0:=by rw [←hW0];exact (Below.refl _ W).alloc (Nat.le_refl _) _
 have HB0:Hid (Bx W0 W.heap.size #[.bool false,.slice ra n0 rc,.slice a1 n1 c1,.slice a2 n2 c2,.int .i64 x,.int .i64 y] 37):=by rw [←hW0];exact Bx.new _ _ _
 have kr:=(Dm.refright_any _ _ _ (H1.out.kept (Kept.of_below hb0)).sr).mono (R':=fun e w'=>e = .returned (.bool (Dm.rightB d.r))∧Below W0.heap.size W0 w') (fun e w' ⟨he,n,hw⟩=>⟨he,by rw [hw];exact below_drewN (Below.refl _ _) _⟩)
 have hM:rightW d=(Dm.rightB d.r&&decide (n1=0)&&decide (n2=0)&&decide (x=0)&&decide (y=0)):=by
  obtain ⟨_,_,rfl,rfl,rfl,rfl⟩:=HE.out;rfl
 rw [hM]
 clear hM H1 H2 H3 hf hs HE
 have HW0:Hid _:=hW0
 clear hW0
 cases hR:Dm.rightB d.r
 ·rw [hR] at kr
  go_enter Tryz.func23,Tryz.ntmps23
  go_wp2_with fail
  rw [HW0.out]
  refine kr.mono ?_
  rintro e w1 ⟨rfl,hb1⟩
  go_wp2
  go_ret
  exact ⟨ret_bool (by simp),hb0.trans (hb1.mono hb0.size)⟩
 ·rw [hR] at kr
  rcases Nat.eq_zero_or_pos n1 with e1 | e1
  ·rcases Nat.eq_zero_or_pos n2 with e2 | e2
   ·by_cases e3:x=0
    ·subst e1 e2 e3
     by_cases e4:y=0
     ·subst e4
      go_enter Tryz.func23,Tryz.ntmps23
      go_wp2_with fail
      rw [HW0.out]
      refine kr.mono ?_
      rintro e w1 ⟨rfl,hb1⟩
      obtain ⟨z0,z1,z2,z3,z4,z5⟩:=(HB0.out.below hb1).six
      go_wp2
      go_ret
      exact ⟨ret_bool (by simp),hb0.trans (hb1.mono hb0.size)⟩
     ·go_enter Tryz.func23,Tryz.ntmps23
      go_wp2_with fail
      rw [HW0.out]
      refine kr.mono ?_
      rintro e w1 ⟨rfl,hb1⟩
      obtain ⟨z0,z1,z2,z3,z4,z5⟩:=(HB0.out.below hb1).six
      go_wp2
      go_ret
      exact ⟨ret_bool (by simp [e4]),hb0.trans (hb1.mono hb0.size)⟩
    ·subst e1 e2
     go_enter Tryz.func23,Tryz.ntmps23
     go_wp2_with fail
     rw [HW0.out]
     refine kr.mono ?_
     rintro e w1 ⟨rfl,hb1⟩
     obtain ⟨z0,z1,z2,z3,z4,z5⟩:=(HB0.out.below hb1).six
     go_wp2
     go_ret
     exact ⟨ret_bool (by simp [e3]),hb0.trans (hb1.mono hb0.size)⟩
   ·have e2':¬(n2:Int)=0:=by omega
    subst e1
    go_enter Tryz.func23,Tryz.ntmps23
    go_wp2_with fail
    rw [HW0.out]
    refine kr.mono ?_
    rintro e w1 ⟨rfl,hb1⟩
    obtain ⟨z0,z1,z2,z3,z4,z5⟩:=(HB0.out.below hb1).six
    go_wp2
    go_ret
    exact ⟨ret_bool (by simp;omega),hb0.trans (hb1.mono hb0.size)⟩
  ·have e1':¬(n1:Int)=0:=by omega
   go_enter Tryz.func23,Tryz.ntmps23
   go_wp2_with fail
   rw [HW0.out]
   refine kr.mono ?_
   rintro e w1 ⟨rfl,hb1⟩
   obtain ⟨z0,z1,z2,z3,z4,z5⟩:=(HB0.out.below hb1).six
   go_wp2
   go_ret
   exact ⟨ret_bool (by simp;omega),hb0.trans (hb1.mono hb0.size)⟩
theorem right_s {X:Nat→Prop} {W:World} {c:List Value} {d:MD} (h:Dc X W c d) (hs:d.set=true):Calls Tryz.prog 30 #[.agg c.toArray] W fun e w'=>e = .returned (.bool (St.rightD (sdM d)))∧Below W.heap.size W w':=by
 have h0:=h
 obtain ⟨b,ra,n0,rc,a1,n1,c1,a2,n2,c2,x,y,rfl,HE,H1,H2,H3⟩:=h.look
 obtain rfl:b=true:=by rw [←HE.out.1,hs]
 obtain ⟨W0,hW0⟩:∃ Q,W.alloc (Obj.cells #[.bool true,.slice ra n0 rc,.slice a1 n1 c1,.slice a2 n2 c2,.int .i64 x,.int .i64 y] 37)=Q:=⟨_,rfl⟩
 have hb0:Below W.heap.size W W0:=by rw [←hW0];exact (Below.refl _ W).alloc (Nat.le_refl _) _
 have HB0:Hid (Bx W0 W.heap.size #[.bool true,.slice ra n0 rc,.slice a1 n1 c1,.slice a2 n2 c2,.int .i64 x,.int .i64 y] 37):=by rw [←hW0];exact Bx.new _ _ _
 have kr:=St.right_any _ _ W0 (h0.below hb0).di
 have HW0:Hid _:=hW0
 clear h h0 hs HE H1 H2 H3 hW0
 obtain ⟨z0,z1,z2,z3,z4,z5⟩:=HB0.out.six
 generalize St.rightD (sdM d)=q at *
 go_enter Tryz.func30,Tryz.ntmps30
 go_upto_region 1 with (fail)
 rw [HW0.out]
 go_wp2_with fail
 refine kr.mono ?_
 rintro e w1 ⟨rfl,hb1⟩
 go_wp2
 go_ret
 exact ⟨rfl,hb0.trans (hb1.mono hb0.size)⟩
theorem rright_s {X:Nat→Prop} {W:World} {c:List Value} {d:MD} (h:Dc X W c d) (hs:d.set=true):Calls Tryz.prog 23 #[.agg c.toArray] W fun e w'=>e = .returned (.bool (St.rightD (sdM d)))∧Below W.heap.size W w':=by
 have h0:=h
 obtain ⟨b,ra,n0,rc,a1,n1,c1,a2,n2,c2,x,y,rfl,HE,H1,H2,H3⟩:=h.look
 obtain rfl:b=true:=by rw [←HE.out.1,hs]
 obtain ⟨W0,hW0⟩:∃ Q,W.alloc (Obj.cells #[.bool true,.slice ra n0 rc,.slice a1 n1 c1,.slice a2 n2 c2,.int .i64 x,.int .i64 y] 37)=Q:=⟨_,rfl⟩
 have hb0:Below W.heap.size W W0:=by rw [←hW0];exact (Below.refl _ W).alloc (Nat.le_refl _) _
 have HB0:Hid (Bx W0 W.heap.size #[.bool true,.slice ra n0 rc,.slice a1 n1 c1,.slice a2 n2 c2,.int .i64 x,.int .i64 y] 37):=by rw [←hW0];exact Bx.new _ _ _
 have kr:=St.refright_any _ _ W0 (h0.below hb0).di
 have HW0:Hid _:=hW0
 clear h h0 hs HE H1 H2 H3 hW0
 obtain ⟨z0,z1,z2,z3,z4,z5⟩:=HB0.out.six
 generalize St.rightD (sdM d)=q at *
 go_enter Tryz.func23,Tryz.ntmps23
 go_upto_region 1 with (fail)
 rw [HW0.out]
 go_wp2_with fail
 refine kr.mono ?_
 rintro e w1 ⟨rfl,hb1⟩
 go_wp2
 go_ret
 exact ⟨rfl,hb0.trans (hb1.mono hb0.size)⟩
theorem right_d {X:Nat→Prop} {W:World} {c:List Value} {d:MD} (h:Dc X W c d) (hf:Dm.FitsR d.r):Calls Tryz.prog 30 #[.agg c.toArray] W fun e w'=>e = .returned (.bool (rightM d))∧Below W.heap.size W w':=by
 unfold rightM
 cases hs:d.set
 ·exact right_w h hs hf
 ·exact right_s h hs
theorem rright_d {X:Nat→Prop} {W:World} {c:List Value} {d:MD} (h:Dc X W c d) (hf:Dm.FitsR d.r):Calls Tryz.prog 23 #[.agg c.toArray] W fun e w'=>e = .returned (.bool (rightM d))∧Below W.heap.size W w':=by
 unfold rightM
 cases hs:d.set
 ·exact rright_w h hs hf
 ·exact rright_s h hs
def emptyA (d:MD):Bool:=if d.set then decide (d.most<d.least) else emptyW d
def onlyA (d:MD):Bool:=if d.set then St.fixB (sdM d) else (onlyW d).2
theorem own_keepX {w w':World} {B:Nat} {e:TypeId} {s:Nat} {v:Value} {n:Nat} {xs:List Value} (h:w.ownsRow B e s v n xs) (hb:∀ g,v.ownBlock=some g→w'.heap[g]? = w.heap[g]?):w'.ownsRow B e s v n xs:=by
 refine ⟨h.1,?_⟩
 rcases h.2 with e | ⟨g,cap,cur,e1,e2,hg,r⟩
 ·exact .inl e
 ·exact .inr ⟨g,cap,cur,e1,e2,(hb g (by rw [e1];rfl)).trans hg,r⟩
theorem own_typX {w:World} {B:Nat} {e:TypeId} {s:Nat} {v:Value} {n:Nat} {xs:List Value} (h:w.ownsRow B e s v n xs) {g:Nat} (hg:v.ownBlock=some g):B≤g:=by
 rcases h.2 with ⟨e1,_⟩ | ⟨g',cap,cur,e1,e2,hg',r⟩
 ·rw [e1] at hg;simp [Value.ownBlock] at hg
 ·rw [e1] at hg
  obtain rfl:g'=g:=by simpa [Value.ownBlock] using hg
  exact e2
theorem own_baseX {w:World} {B B':Nat} {e:TypeId} {s:Nat} {v:Value} {n:Nat} {xs:List Value} (h:w.ownsRow B e s v n xs) (hB:B'≤B):w.ownsRow B' e s v n xs :=
 ⟨h.1,by
  rcases h.2 with h2 | ⟨g,cap,cur,e1,hb,r⟩
  ·exact .inl h2
  ·exact .inr ⟨g,cap,cur,e1,Nat.le_trans hB hb,r⟩⟩
theorem empty_s {X:Nat→Prop} {W:World} {c:List Value} {d:MD} (h:Dc X W c d) (hs:d.set=true) :
  Calls Tryz.prog 69 #[.agg c.toArray] W fun e w'=>e = .returned (.bool (decide (d.most<d.least)))∧Below W.heap.size W w':=by
 obtain ⟨b,ra,n0,rc,a1,n1,c1,a2,n2,c2,x,y,rfl,HE,H1,H2,H3⟩:=h.look
 clear h
 obtain rfl:b=true:=by rw [←HE.out.1,hs]
 have hM:decide (d.most<d.least)=decide (y<x):=by obtain ⟨_,_,_,_,rfl,rfl⟩:=HE.out;rfl
 rw [hM]
 clear hM H1 H2 H3 hs HE
 have hb0:Below W.heap.size W (W.alloc (Obj.cells #[.bool true,.slice ra n0 rc,.slice a1 n1 c1,.slice a2 n2 c2,.int .i64 x,.int .i64 y] 37)):=(Below.refl _ W).alloc (Nat.le_refl _) _
 by_cases e1:y<x
 ·go_enter Tryz.func69,Tryz.ntmps69
  go_wp2
  go_ret
  exact ⟨ret_bool (by first | rfl | simp [e1]),hb0⟩
 ·have e2:¬x > y:=by omega
  have e3:x≤y:=by omega
  go_enter Tryz.func69,Tryz.ntmps69
  go_wp2
  go_ret
  exact ⟨ret_bool (by first | rfl | simp [e1]),hb0⟩
theorem empty_d {X:Nat→Prop} {W:World} {c:List Value} {d:MD} (h:Dc X W c d) :
  Calls Tryz.prog 69 #[.agg c.toArray] W fun e w'=>e = .returned (.bool (emptyA d))∧Below W.heap.size W w':=by
 unfold emptyA
 cases hs:d.set
 ·simp only [Bool.false_eq_true,if_false];exact empty_w h hs
 ·simp only [if_true];exact empty_s h hs
theorem only_s {X:Nat→Prop} {W:World} {c:List Value} {d:MD} (h:Dc X W c d) (hs:d.set=true) :
  Calls Tryz.prog 70 #[.agg c.toArray] W fun e w'=>∃ sp sn sc,e = .returned (.tuple #[.agg #[.bool (St.fixB (sdM d)),.int .i64 0,.slice sp sn sc],.bool (St.fixB (sdM d))])∧w'.ownsRow W.heap.size 2 1 (.slice sp sn sc) sn (St.intv (St.fixL (sdM d)))∧(St.fixL (sdM d)).length=sn∧Below W.heap.size W w':=by
 have h00:=h
 obtain ⟨b,ra,n0,rc,a1,n1,c1,a2,n2,c2,x,y,rfl,HE,H1,H2,H3⟩:=h.look
 obtain rfl:b=true:=by rw [←HE.out.1,hs]
 obtain ⟨N,hN⟩:∃ N,W.heap.size=N:=⟨_,rfl⟩
 obtain ⟨W0,hW0⟩:∃ Q,(W.alloc (Obj.cells #[.bool true,.slice ra n0 rc,.slice a1 n1 c1,.slice a2 n2 c2,.int .i64 x,.int .i64 y] 37)).alloc (Obj.cells #[.bool false,.int .i64 0,.slice none 0 0] 57)=Q:=⟨_,rfl⟩
 have hb0:Below W.heap.size W W0:=by rw [←hW0];exact (((Below.refl _ W).alloc (Nat.le_refl _) _).alloc (by simp) _)
 have HB0:Hid (Bx W0 N #[.bool true,.slice ra n0 rc,.slice a1 n1 c1,.slice a2 n2 c2,.int .i64 x,.int .i64 y] 37):=by rw [←hW0];exact (Bx.new' hN _ _).alloc _
 have HV0:Hid (Bx W0 (N+1) #[.bool false,.int .i64 0,.slice none 0 0] 57):=by rw [←hW0];exact Bx.new' (by simp [hN]) _ _
 have kf:=St.fixed_any _ _ W0 (h00.below hb0).di
 have HW0:Hid _:=hW0
 have HBB:Hid (Below W.heap.size W W0):=hb0
 have HN:Hid (W.heap.size=N):=hN
 clear hW0 h h00 H1 H2 H3 HE hs hb0
 generalize St.fixB (sdM d)=fb at *
 generalize St.fixL (sdM d)=fl at *
 obtain ⟨z0,z1,z2,z3,z4,z5⟩:=HB0.out.six
 go_enter Tryz.func70,Tryz.ntmps70
 go_wp2_with fail
 rw [HW0.out]
 clear hN
 go_wp2_with fail
 refine kf.mono ?_
 clear kf z0 z1 z2 z3 z4 z5
 rintro e w1 ⟨sp,sn,sc,rfl,ho,hl,hb1⟩
 have HV1:Hid (Bx w1 (N+1) _ _):=HV0.out.below hb1
 have hb2:Below W.heap.size W w1:=HBB.out.trans (hb1.mono HBB.out.size)
 have hrow:W0.heap.size > N+1:=(Array.getElem?_eq_some_iff.1 HV0.out.h).1
 go_wp2_with (with_reducible refine stV rfl (.tmp 2) (.tmp 15) rfl (N+1) fb 0 sp sn sc (by with_unfolding_all rfl) (by with_unfolding_all rfl) HV1.out rfl ?_)
 refine ⟨rfl,_,res_ct rfl _ (HV1.out.setRow _) (by with_unfolding_all rfl) rfl Tryz.underlying57 (by rw [Tryz.sizeVal];rfl) (v:=.bool fb) (by with_unfolding_all rfl),?_⟩
 refine ⟨sp,sn,sc,rfl,?_,hl.out,below_row hb2 (by rw [HN.out];omega) _⟩
 have hown:=ho.out
 refine own_baseX (own_keepX hown (fun g hg=>setRow_other _ _ _ _ ?_)) HBB.out.size
 have:=own_typX hown hg
 omega
theorem only_d {X:Nat→Prop} {W:World} {c:List Value} {d:MD} (h:Dc X W c d) (hf:Dm.FitsR d.r) :
  Calls Tryz.prog 70 #[.agg c.toArray] W fun e w'=>∃ b1 x1 sp sn sc,e = .returned (.tuple #[.agg #[.bool b1,.int .i64 x1,.slice sp sn sc],.bool (onlyA d)])∧Below W.heap.size W w':=by
 unfold onlyA
 cases hs:d.set
 ·simp only [Bool.false_eq_true,if_false]
  refine (only_w h hs hf).mono ?_
  rintro e w' ⟨he,hb⟩
  exact ⟨_,_,_,_,_,he,hb⟩
 ·simp only [if_true]
  refine (only_s h hs).mono ?_
  rintro e w' ⟨sp,sn,sc,he,_,_,hb⟩
  exact ⟨_,_,_,_,_,he,hb⟩
def ofSD (s:St.SD):MD:=⟨s.set,[],s.lo,s.up,s.least,s.most⟩
theorem WrS.row {B k g:Nat} {w:World} {s:Value} (h:WrS B k w s) (hB:g<B) (c:Array Value):WrS B k (w.setRow g c) s:=by
 obtain ⟨a,n,cc,e,hmx,h⟩:=h
 refine ⟨a,n,cc,e,hmx,fun h0=>?_⟩
 obtain ⟨g',cur,t,e1,e2,e3,e4⟩:=h h0
 exact ⟨g',cur,t,e1,e2,(setRow_other w g g' c (by omega)).trans e3,e4⟩
theorem OwnD.setRow {B g:Nat} {w:World} {q:List Value} (h:OwnD B w q) (hB:g<B) (c:Array Value):OwnD B (w.setRow g c) q:=by
 obtain ⟨b,p0,n0,k0,p1,n1,k1,p2,n2,k2,x,y,e,h0,h1,h2⟩:=h
 exact ⟨b,p0,n0,k0,p1,n1,k1,p2,n2,k2,x,y,e,h0.row hB c,h1.row hB c,h2.row hB c⟩
theorem OwnD.less {B B':Nat} {w:World} {q:List Value} (h:OwnD B w q) (hB:B'≤B):OwnD B' w q:=by
 obtain ⟨b,p0,n0,k0,p1,n1,k1,p2,n2,k2,x,y,e,h0,h1,h2⟩:=h
 have f:∀ k s,WrS B k w s→WrS B' k w s:=fun k s h=>by
  obtain ⟨a,n,cc,e,hmx,h⟩:=h
  refine ⟨a,n,cc,e,hmx,fun h0=>?_⟩
  obtain ⟨g',cur,t,e1,e2,e3,e4⟩:=h h0
  exact ⟨g',cur,t,e1,by omega,e3,e4⟩
 exact ⟨b,p0,n0,k0,p1,n1,k1,p2,n2,k2,x,y,e,f _ _ h0,f _ _ h1,f _ _ h2⟩
theorem OwnD.below {B:Nat} {w w':World} {q:List Value} (h:OwnD B w q) (hb:Below w.heap.size w w'):OwnD B w' q:=by
 obtain ⟨b,p0,n0,k0,p1,n1,k1,p2,n2,k2,x,y,e,h0,h1,h2⟩:=h
 exact ⟨b,p0,n0,k0,p1,n1,k1,p2,n2,k2,x,y,e,h0.below hb,h1.below hb,h2.below hb⟩
structure Ans (B : Nat) (w : World) (q : List Value) (d : MD) : Prop where
 own:OwnD B w q
 dc:∀ Z:Nat→Prop,(∀ b,Z b→b<B)→Dc Z w q d
theorem Ans.one {B:Nat} {w:World} {q:List Value} {d:MD} (h:Ans B w q d):q.length=6∧(∀ v∈q,v.oneCell'=true):=⟨(h.dc (fun _=>False) (fun _ h=>h.elim)).len,(h.dc (fun _=>False) (fun _ h=>h.elim)).one⟩
theorem Ans.setRow {B g:Nat} {w:World} {q:List Value} {d:MD} (h:Ans B w q d) (hB:g<B) (c:Array Value):Ans B (w.setRow g c) q d :=
 ⟨h.own.setRow hB c,fun Z hZ=>(h.dc (fun b=>Z b∨b=g) (fun b hb=>by rcases hb with hb | hb;exact hZ b hb;omega)).go (X':=Z) (Kept.mono (X:=fun b=>b=g) ⟨rfl,rfl,rfl,by simp [World.setRow],fun b _ hb=>setRow_other w g b c hb⟩ (fun b hb=>.inr hb)) (fun b hb=>.inl (.inl hb))⟩
theorem Ans.less {B B':Nat} {w:World} {q:List Value} {d:MD} (h:Ans B w q d) (hB:B'≤B):Ans B' w q d:=⟨h.own.less hB,fun Z hZ=>h.dc Z (fun b hb=>Nat.lt_of_lt_of_le (hZ b hb) hB)⟩
theorem Ans.below {B:Nat} {w w':World} {q:List Value} {d:MD} (h:Ans B w q d) (hb:Below w.heap.size w w'):Ans B w' q d:=⟨h.own.below hb,fun Z hZ=>(h.dc Z hZ).below hb⟩
theorem dv_ans {B:Nat} {w:World} {v:Value} {s:St.SD} (h:St.Dv B w v s):∃ q:List Value,v = .agg q.toArray∧Ans B w q (ofSD s):=by
 obtain ⟨q,e,h1,h2⟩:=dv_own h
 exact ⟨q,e,h1,h2⟩
theorem rng_ans {B:Nat} {w:World} {p:Option Addr} {c:Nat} {r:List Dm.Rg} (h:w.ownsRow B 80 2 (.slice p r.length c) r.length (Dm.flat r)):Ans B w [.bool false,.slice p r.length c,.slice none 0 0,.slice none 0 0,.int .i64 0,.int .i64 0] ⟨false,r,[],[],0,0⟩ :=
 ⟨⟨_,_,_,_,_,_,_,_,_,_,_,_,rfl,WrS.own h,WrS.nil _ _ _,WrS.nil _ _ _⟩,fun Z hZ=>⟨p,c,none,0,none,0,rfl,rm_own h hZ,Nm.empty _ _,Nm.empty _ _⟩⟩
theorem list6 {q:List Value} (h:q.length=6):∃ c0 c1 c2 c3 c4 c5,q=[c0,c1,c2,c3,c4,c5]:=by
 match q,h with
 | [c0,c1,c2,c3,c4,c5],_=>exact ⟨c0,c1,c2,c3,c4,c5,rfl⟩
def flI (r:List Dm.Rg):List Int:=(List.range (r.length*2)).map fun i=>if i % 2=0 then Dm.lo r (i / 2) else Dm.hi r (i / 2)
theorem flI_len (r:List Dm.Rg):(flI r).length=r.length*2:=by simp [flI]
theorem flI_nth (r:List Dm.Rg) (i:Nat) (h:i<r.length*2):St.nth (flI r) i=if i % 2=0 then Dm.lo r (i / 2) else Dm.hi r (i / 2):=by
 unfold St.nth flI
 rw [List.getD_eq_getElem?_getD,List.getElem?_map,List.getElem?_range h];rfl
def SzD (d:MD):Prop:=d.lo.length*8≤140737488351232∧d.up.length*8≤140737488351232∧d.r.length*16≤140737488351232
theorem Dc.dr {X:Nat→Prop} {w:World} {c:List Value} {d:MD} (h:Dc X w c d) (hz:SzD d):St.Dr w (.agg c.toArray) (sdM d) (flI d.r):=by
 obtain ⟨ra,rc,a1,c1,a2,c2,rfl,h1,h2,h3⟩:=h
 refine ⟨ra,rc,_,_,rfl,h2.si,h3.si,?_,hz⟩
 obtain ⟨a,cc,e,h1⟩:=h1
 injection e with e1 _ e3
 subst e1 e3
 refine ⟨_,_,_,rfl,flI_len _,fun h0=>?_⟩
 obtain ⟨b,off,q1,q2,_,q4⟩:=h1 h0
 refine ⟨b,off,q1,q2,fun i hi=>?_⟩
 rw [flI_nth _ _ hi]
 have hi':i<d.r.length*2:=hi
 have hq:=q4 (i / 2) (by omega)
 by_cases hp:i % 2=0
 ·rw [if_pos hp,show off+i=off+i / 2*2 by omega];exact hq.1
 ·rw [if_neg hp,show off+i=off+i / 2*2+1 by omega];exact hq.2
theorem one_d {X Y:Nat→Prop} {W:World} {c k:List Value} {d:MD} (h:Dc X W c d) (h':Dc Y W k d) (hz:SzD d):Calls Tryz.prog 25 #[.agg c.toArray,.agg k.toArray] W fun e w'=>e = .returned (.bool true)∧Below W.heap.size W w' :=
 St.one_same _ _ (sdM d) (flI d.r) W (h.dr hz) (h'.dr hz)
def Ds (w:World) (s:Value) (D:List MD):Prop :=
 ∃ a c,s = .slice a D.length c∧(0<D.length→∃ b off,a=some ⟨b,off,none⟩∧b<w.heap.size∧∀ i d,D[i]? = some d→∃ c0 c1 c2 c3 c4 c5,Dc (fun _=>False) w [c0,c1,c2,c3,c4,c5] d ∧
  w.cell? ⟨b,off+i*6,none⟩=some c0∧w.cell? ⟨b,off+i*6+1,none⟩=some c1∧w.cell? ⟨b,off+i*6+2,none⟩=some c2∧w.cell? ⟨b,off+i*6+3,none⟩=some c3∧w.cell? ⟨b,off+i*6+4,none⟩=some c4∧w.cell? ⟨b,off+i*6+5,none⟩=some c5)
theorem Ds.below {w w':World} {s:Value} {D:List MD} (h:Ds w s D) (hb:Below w.heap.size w w'):Ds w' s D:=by
 obtain ⟨a,c,e,h⟩:=h
 refine ⟨a,c,e,fun h0=>?_⟩
 obtain ⟨b,off,e1,e2,e3⟩:=h h0
 refine ⟨b,off,e1,Nat.lt_of_lt_of_le e2 hb.size,fun i d hd=>?_⟩
 obtain ⟨c0,c1,c2,c3,c4,c5,h1,k0,k1,k2,k3,k4,k5⟩:=e3 i d hd
 exact ⟨c0,c1,c2,c3,c4,c5,h1.below hb,(hb.cell (p:=⟨b,_,none⟩) e2).trans k0,(hb.cell (p:=⟨b,_,none⟩) e2).trans k1,(hb.cell (p:=⟨b,_,none⟩) e2).trans k2,(hb.cell (p:=⟨b,_,none⟩) e2).trans k3,(hb.cell (p:=⟨b,_,none⟩) e2).trans k4,(hb.cell (p:=⟨b,_,none⟩) e2).trans k5⟩
theorem Ds.at {w:World} {p:Option Addr} {n k:Nat} {D:List MD} (h:Ds w (.slice p n k) D) {i:Nat} {d:MD} (hd:D[i]? = some d):∃ b off,p=some ⟨b,off,none⟩∧b<w.heap.size∧D.length=n∧∃ c0 c1 c2 c3 c4 c5,Dc (fun _=>False) w [c0,c1,c2,c3,c4,c5] d ∧
  w.cell? ⟨b,off+i*6,none⟩=some c0∧w.cell? ⟨b,off+i*6+1,none⟩=some c1∧w.cell? ⟨b,off+i*6+2,none⟩=some c2∧w.cell? ⟨b,off+i*6+3,none⟩=some c3∧w.cell? ⟨b,off+i*6+4,none⟩=some c4∧w.cell? ⟨b,off+i*6+5,none⟩=some c5:=by
 obtain ⟨a,c,e,h⟩:=h
 injection e with e1 e2 e3
 obtain ⟨b,off,h1,h2,h3⟩:=h (by have:=(List.getElem?_eq_some_iff.1 hd).1;omega)
 exact ⟨b,off,e1.trans h1,h2,e2.symm,h3 i d hd⟩
theorem nth_get {l:List Int} {i:Nat} (h:i<l.length):l[i]? = some (St.nth l i):=by
 unfold St.nth;rw [List.getD_eq_getElem?_getD,List.getElem?_eq_getElem h];rfl
namespace St
theorem lent_own (v:Value) (d:SD) (fr:List Int) (W:World) (h:Dr W v d fr) :
  Calls Tryz.prog 41 #[v] W fun e w'=>∃ s1 s2 s3,e = .returned (.agg #[.bool d.set,s1,s2,s3,.int .i64 d.least,.int .i64 d.most])∧w'.ownsRow W.heap.size 80 2 s1 d.rn (intv fr)∧w'.ownsRow W.heap.size 2 1 s2 d.lo.length (intv d.lo)∧w'.ownsRow W.heap.size 2 1 s3 d.up.length (intv d.up)∧Below W.heap.size W w':=by
 obtain ⟨x0a,raa,rna,rca,a1a,n1a,c1a,a2a,n2a,c2a,x4a,x5a,rfl,HEa,HLOa,HUPa,HRa,hz1a,hz2a,hz3a⟩:=h.look
 have HFL:Hid (fr.length=rna*2):=by
  obtain ⟨a,n,c,e,hl,_⟩:=HRa.out
  injection e with _ e2 _
  subst e2
  exact hl
 have hz3:rna*16≤140737488351232:=by rw [←HEa.out.2.2.2.2.2];exact hz3a
 have HZZ:Hid (d.lo.length*8≤140737488351232∧d.up.length*8≤140737488351232∧d.rn*16≤140737488351232):=⟨hz1a,hz2a,hz3a⟩
 have HQ1:Hid (d.lo.length*8≤140737488351232):=hz1a
 have HQ2:Hid (d.up.length*8≤140737488351232):=hz2a
 have HQ3:Hid (rna*16≤140737488351232):=hz3
 clear h hz1a hz2a hz3a hz3
 obtain ⟨w0,hW0⟩:∃ X,((W.alloc (Obj.cells #[.bool x0a,.slice raa rna rca,.slice a1a n1a c1a,.slice a2a n2a c2a,.int .i64 x4a,.int .i64 x5a] 37)).alloc (Obj.cells #[.bool false,.slice none 0 0,.slice none 0 0,.slice none 0 0,.int .i64 0,.int .i64 0] 37))=X:=⟨_,rfl⟩
 have HW0:Hid _:=hW0
 have hb0:Below W.heap.size W w0:=by rw [←hW0];exact (((Below.refl _ W).alloc (by simp<;>omega) _).alloc (by simp<;>omega) _)
 have HA_0:Hid (R6 w0 W.heap.size (.bool x0a) (.slice raa rna rca) (.slice a1a n1a c1a) (.slice a2a n2a c2a) (.int .i64 x4a) (.int .i64 x5a)):=by rw [←hW0];exact ((R6.new _ _ _ _ _ _ _).alloc _)
 have HZ_0:Hid (R6 w0 (W.heap.size+1) (.bool false) (.slice none 0 0) (.slice none 0 0) (.slice none 0 0) (.int .i64 0) (.int .i64 0)):=by rw [←hW0];exact (R6.new1 _ _ _ _ _ _ _ _)
 have HSZ0:Hid (w0.heap.size=W.heap.size+2):=by unfold Hid;rw [←hW0];simp
 clear hW0
 go_enter Tryz.func41,Tryz.ntmps41
 go_upto_region 1 with (fail)
 rw [HW0.out]
 obtain ⟨y0,y1,y2,y3,y4,y5⟩:=HA_0.out.cells
 have hzb:=(Below.refl w0.heap.size w0).alloc (Nat.le_refl _) (Obj.cells #[.bool x0a,.slice none 0 0,.slice none 0 0,.slice none 0 0,.int .i64 x4a,.int .i64 x5a] 37)
 have hb1:=hb0.trans (hzb.mono hb0.size)
 have HG_1:Hid _:=R6.new w0 (.bool x0a) (.slice none 0 0) (.slice none 0 0) (.slice none 0 0) (.int .i64 x4a) (.int .i64 x5a)
 have HZ_1:Hid _:=HZ_0.out.below hzb
 have HA_1:Hid _:=HA_0.out.below hzb
 go_upto_region 2 with (fail)
 clear hb0 HZ_0 HA_0 hzb HW0 y0 y1 y2 y3 y4 y5
 generalize w0.alloc (Obj.cells #[.bool x0a,.slice none 0 0,.slice none 0 0,.slice none 0 0,.int .i64 x4a,.int .i64 x5a] 37)=w1 at hb1 HG_1 HZ_1 HA_1 ⊢
 have hGW:W.heap.size+1<w0.heap.size:=by rw [HSZ0.out];omega
 generalize w0.heap.size=G at HG_1 hGW ⊢
 clear HSZ0
 obtain ⟨z0,z1,z2,z3,z4,z5⟩:=HG_1.out.cells
 obtain ⟨y0,y1,y2,y3,y4,y5⟩:=HA_1.out.cells
 go_upto_region 3 with (at_builtin;refine wpList_app_r _ rfl _ _ rfl rfl _ _ _ fr rfl (HRa.out.below hb1) HQ3.out ?_;intro v9 w2 hrow hbel;obtain ⟨p1,e1,rfl⟩:=own_sliceR hrow;have HG_2:Hid _:=HG_1.out.below hbel;have HZ_2:Hid _:=HZ_1.out.below hbel;have HA_2:Hid _:=HA_1.out.below hbel;have O1_2:Hid _:=own_base hrow hb1.size;have hb2:=hb1.trans (hbel.mono hb1.size);clear z0 z1 z2 z3 z4 z5 y0 y1 y2 y3 y4 y5 hrow hbel;obtain ⟨z0,z1,z2,z3,z4,z5⟩:=HG_2.out.cells;have fz:=HG_2.out.frozen 1)
 rw [HG_2.out.setc1]
 clear z0 z1 z2 z3 z4 z5 fz
 clear HG_1 HZ_1 HA_1 hb1
 have HG_3:Hid _:=HG_2.out.set (.bool x0a) (.slice p1 rna e1) (.slice none 0 0) (.slice none 0 0) (.int .i64 x4a) (.int .i64 x5a)
 have HZ_3:Hid _:=HZ_2.out.other (show W.heap.size+1≠G by omega) #[.bool x0a,.slice p1 rna e1,.slice none 0 0,.slice none 0 0,.int .i64 x4a,.int .i64 x5a]
 have HA_3:Hid _:=HA_2.out.other (show W.heap.size≠G by omega) #[.bool x0a,.slice p1 rna e1,.slice none 0 0,.slice none 0 0,.int .i64 x4a,.int .i64 x5a]
 have hb3:=below_setRow hb2 (show W.heap.size≤G by omega) #[.bool x0a,.slice p1 rna e1,.slice none 0 0,.slice none 0 0,.int .i64 x4a,.int .i64 x5a]
 have O1_3:Hid _:=own_setRowR O1_2.out G #[.bool x0a,.slice p1 rna e1,.slice none 0 0,.slice none 0 0,.int .i64 x4a,.int .i64 x5a] HG_2.out.h
 clear HG_2 HZ_2 HA_2 hb2 O1_2
 generalize w2.setRow G #[.bool x0a,.slice p1 rna e1,.slice none 0 0,.slice none 0 0,.int .i64 x4a,.int .i64 x5a]=w3 at HG_3 HZ_3 HA_3 hb3 O1_3 ⊢
 obtain ⟨z0,z1,z2,z3,z4,z5⟩:=HG_3.out.cells
 obtain ⟨y0,y1,y2,y3,y4,y5⟩:=HA_3.out.cells
 go_upto_region 4 with (at_builtin;refine wpList_app_i _ rfl _ _ rfl rfl _ d.lo rfl (HLOa.out.below hb3) HQ1.out ?_;intro v9 w4 hrow hbel;obtain ⟨p3,e3,rfl⟩:=own_slice hrow;have HG_4:Hid _:=HG_3.out.below hbel;have HZ_4:Hid _:=HZ_3.out.below hbel;have HA_4:Hid _:=HA_3.out.below hbel;have O3_4:Hid _:=own_base hrow hb3.size;have hb4:=hb3.trans (hbel.mono hb3.size);have O1_4:Hid _:=own_keepB O1_3.out hbel;clear z0 z1 z2 z3 z4 z5 y0 y1 y2 y3 y4 y5 hrow hbel;obtain ⟨z0,z1,z2,z3,z4,z5⟩:=HG_4.out.cells;have fz:=HG_4.out.frozen 2)
 rw [HG_4.out.setc2]
 clear z0 z1 z2 z3 z4 z5 fz
 clear HG_3 HZ_3 HA_3 hb3 O1_3
 have HG_5:Hid _:=HG_4.out.set (.bool x0a) (.slice p1 rna e1) (.slice p3 d.lo.length e3) (.slice none 0 0) (.int .i64 x4a) (.int .i64 x5a)
 have HZ_5:Hid _:=HZ_4.out.other (show W.heap.size+1≠G by omega) #[.bool x0a,.slice p1 rna e1,.slice p3 d.lo.length e3,.slice none 0 0,.int .i64 x4a,.int .i64 x5a]
 have HA_5:Hid _:=HA_4.out.other (show W.heap.size≠G by omega) #[.bool x0a,.slice p1 rna e1,.slice p3 d.lo.length e3,.slice none 0 0,.int .i64 x4a,.int .i64 x5a]
 have hb5:=below_setRow hb4 (show W.heap.size≤G by omega) #[.bool x0a,.slice p1 rna e1,.slice p3 d.lo.length e3,.slice none 0 0,.int .i64 x4a,.int .i64 x5a]
 have O1_5:Hid _:=own_setRowR O1_4.out G #[.bool x0a,.slice p1 rna e1,.slice p3 d.lo.length e3,.slice none 0 0,.int .i64 x4a,.int .i64 x5a] HG_4.out.h
 have O3_5:Hid _:=own_setRow O3_4.out G #[.bool x0a,.slice p1 rna e1,.slice p3 d.lo.length e3,.slice none 0 0,.int .i64 x4a,.int .i64 x5a] HG_4.out.h
 clear HG_4 HZ_4 HA_4 hb4 O1_4 O3_4
 generalize w4.setRow G #[.bool x0a,.slice p1 rna e1,.slice p3 d.lo.length e3,.slice none 0 0,.int .i64 x4a,.int .i64 x5a]=w5 at HG_5 HZ_5 HA_5 hb5 O1_5 O3_5 ⊢
 obtain ⟨z0,z1,z2,z3,z4,z5⟩:=HG_5.out.cells
 obtain ⟨y0,y1,y2,y3,y4,y5⟩:=HA_5.out.cells
 go_upto_region 5 with (at_builtin;refine wpList_app_i _ rfl _ _ rfl rfl _ d.up rfl (HUPa.out.below hb5) HQ2.out ?_;intro v9 w6 hrow hbel;obtain ⟨p5,e5,rfl⟩:=own_slice hrow;have HG_6:Hid _:=HG_5.out.below hbel;have HZ_6:Hid _:=HZ_5.out.below hbel;have HA_6:Hid _:=HA_5.out.below hbel;have O5_6:Hid _:=own_base hrow hb5.size;have hb6:=hb5.trans (hbel.mono hb5.size);have O1_6:Hid _:=own_keepB O1_5.out hbel;have O3_6:Hid _:=own_keepB O3_5.out hbel;clear z0 z1 z2 z3 z4 z5 y0 y1 y2 y3 y4 y5 hrow hbel;obtain ⟨z0,z1,z2,z3,z4,z5⟩:=HG_6.out.cells;have fz:=HG_6.out.frozen 3)
 rw [HG_6.out.setc3]
 clear z0 z1 z2 z3 z4 z5 fz
 clear HG_5 HZ_5 HA_5 hb5 O1_5 O3_5
 have HG_7:Hid _:=HG_6.out.set (.bool x0a) (.slice p1 rna e1) (.slice p3 d.lo.length e3) (.slice p5 d.up.length e5) (.int .i64 x4a) (.int .i64 x5a)
 have HZ_7:Hid _:=HZ_6.out.other (show W.heap.size+1≠G by omega) #[.bool x0a,.slice p1 rna e1,.slice p3 d.lo.length e3,.slice p5 d.up.length e5,.int .i64 x4a,.int .i64 x5a]
 have HA_7:Hid _:=HA_6.out.other (show W.heap.size≠G by omega) #[.bool x0a,.slice p1 rna e1,.slice p3 d.lo.length e3,.slice p5 d.up.length e5,.int .i64 x4a,.int .i64 x5a]
 have hb7:=below_setRow hb6 (show W.heap.size≤G by omega) #[.bool x0a,.slice p1 rna e1,.slice p3 d.lo.length e3,.slice p5 d.up.length e5,.int .i64 x4a,.int .i64 x5a]
 have O1_7:Hid _:=own_setRowR O1_6.out G #[.bool x0a,.slice p1 rna e1,.slice p3 d.lo.length e3,.slice p5 d.up.length e5,.int .i64 x4a,.int .i64 x5a] HG_6.out.h
 have O3_7:Hid _:=own_setRow O3_6.out G #[.bool x0a,.slice p1 rna e1,.slice p3 d.lo.length e3,.slice p5 d.up.length e5,.int .i64 x4a,.int .i64 x5a] HG_6.out.h
 have O5_7:Hid _:=own_setRow O5_6.out G #[.bool x0a,.slice p1 rna e1,.slice p3 d.lo.length e3,.slice p5 d.up.length e5,.int .i64 x4a,.int .i64 x5a] HG_6.out.h
 clear HG_6 HZ_6 HA_6 hb6 O1_6 O3_6 O5_6
 generalize w6.setRow G #[.bool x0a,.slice p1 rna e1,.slice p3 d.lo.length e3,.slice p5 d.up.length e5,.int .i64 x4a,.int .i64 x5a]=w7 at HG_7 HZ_7 HA_7 hb7 O1_7 O3_7 O5_7 ⊢
 obtain ⟨z0,z1,z2,z3,z4,z5⟩:=HG_7.out.cells
 go_wp2_with (with_reducible refine st37 rfl (.tmp 2) (.tmp 29) rfl (W.heap.size+1) _ _ _ _ _ _ (by with_unfolding_all rfl) (by with_unfolding_all rfl) HZ_7.out (six_dom _ _ _ _ _ _ _ _ _ _ _ _) ?_)
 obtain ⟨he0,he1,he2,he4,he5,hen⟩:=HEa.out
 refine ⟨rfl,_,R6.res rfl _ (HZ_7.out.set (.bool x0a) (.slice p1 rna e1) (.slice p3 d.lo.length e3) (.slice p5 d.up.length e5) (.int .i64 x4a) (.int .i64 x5a)) rfl,⟨.slice p1 rna e1,.slice p3 d.lo.length e3,.slice p5 d.up.length e5,by rw [he0,he4,he5],?_,?_,?_,below_setRow hb7 (by omega) _⟩⟩
 ·rw [hen];exact own_setRowR O1_7.out _ _ HZ_7.out.h
 ·exact own_setRow O3_7.out _ _ HZ_7.out.h
 ·exact own_setRow O5_7.out _ _ HZ_7.out.h
end St
theorem same_doms {W:World} {p1:Option Addr} {n1 k1:Nat} {p2:Option Addr} {n2 k2:Nat} {D:List MD} (h:Ds W (.slice p1 n1 k1) D) (h':Ds W (.slice p2 n2 k2) D) (hz:∀ d∈D,SzD d) (hl:D.length≤9223372036854775806) :
  Calls Tryz.prog 21 #[.slice p1 n1 k1,.slice p2 n2 k2] W fun e w'=>e = .returned (.bool true)∧Below W.heap.size W w':=by
 have e1:D.length=n1:=by obtain ⟨a,c,e,_⟩:=h;injection e with _ e2 _;exact e2.symm
 have e2:D.length=n2:=by obtain ⟨a,c,e,_⟩:=h';injection e with _ e2 _;exact e2.symm
 obtain rfl:n1=n2:=e1.symm.trans e2
 have HA:Hid (∀ w,Below W.heap.size W w→Ds w (.slice p1 n1 k1) D):=fun w hb=>h.below hb
 have HB:Hid (∀ w,Below W.heap.size W w→Ds w (.slice p2 n1 k2) D):=fun w hb=>h'.below hb
 have HZ:Hid (∀ d∈D,SzD d):=hz
 have HN:Hid (D.length=n1):=e1
 rw [e1] at hl
 clear h h' hz e1 e2
 go_enter Tryz.func21,Tryz.ntmps21
 go_wp2
 go_loopw [5] (fun i wr=>∃ k:Nat,i = .int .i64 (k:Int)∧k≤n1∧Hid (Below W.heap.size W wr)) (fun i _=>n1-(intOf i).toNat)
 case atStart=>exact ⟨0,rfl,Nat.zero_le _,Below.refl _ _⟩
 case round =>
  obtain ⟨k,rfl,hk,HBr⟩:=hrel
  by_cases hlt:k<n1
  ·have hlt':(k:Int)<(n1:Int):=by omega
   have hwk:IntKind.i64.wrap ((k:Int)+1)=(k:Int)+1:=by rw [IntKind.wrap_i64];omega
   obtain ⟨d,hd⟩:∃ d,D[k]? = some d:=⟨_,List.getElem?_eq_getElem (by rw [HN.out];exact hlt)⟩
   obtain ⟨b1,off1,rfl,hb1,_,c0,c1,c2,c3,c4,c5,hDc1,i0,i1,i2,i3,i4,i5⟩:=(HA.out wr HBr.out).at hd
   obtain ⟨b2,off2,rfl,hb2,_,e0,e1,e2,e3,e4,e5,hDc2,j0,j1,j2,j3,j4,j5⟩:=(HB.out wr HBr.out).at hd
   have HON:Hid _:=one_d (hDc1.below (Below.refl _ wr).drew) (hDc2.below (Below.refl _ wr).drew) (HZ.out d (List.mem_of_getElem? hd))
   have FS:Hid (∀ w,Below wr.heap.size wr w→(w.cell? ⟨b1,off1+k*6,none⟩=some c0∧w.cell? ⟨b1,off1+k*6+1,none⟩=some c1∧w.cell? ⟨b1,off1+k*6+2,none⟩=some c2∧w.cell? ⟨b1,off1+k*6+3,none⟩=some c3∧w.cell? ⟨b1,off1+k*6+4,none⟩=some c4∧w.cell? ⟨b1,off1+k*6+5,none⟩=some c5)∧(w.cell? ⟨b2,off2+k*6,none⟩=some e0∧w.cell? ⟨b2,off2+k*6+1,none⟩=some e1∧w.cell? ⟨b2,off2+k*6+2,none⟩=some e2∧w.cell? ⟨b2,off2+k*6+3,none⟩=some e3∧w.cell? ⟨b2,off2+k*6+4,none⟩=some e4∧w.cell? ⟨b2,off2+k*6+5,none⟩=some e5)):=fun w hb=>⟨⟨(hb.cell (p:=⟨b1,_,none⟩) hb1).trans i0,(hb.cell (p:=⟨b1,_,none⟩) hb1).trans i1,(hb.cell (p:=⟨b1,_,none⟩) hb1).trans i2,(hb.cell (p:=⟨b1,_,none⟩) hb1).trans i3,(hb.cell (p:=⟨b1,_,none⟩) hb1).trans i4,(hb.cell (p:=⟨b1,_,none⟩) hb1).trans i5⟩,⟨(hb.cell (p:=⟨b2,_,none⟩) hb2).trans j0,(hb.cell (p:=⟨b2,_,none⟩) hb2).trans j1,(hb.cell (p:=⟨b2,_,none⟩) hb2).trans j2,(hb.cell (p:=⟨b2,_,none⟩) hb2).trans j3,(hb.cell (p:=⟨b2,_,none⟩) hb2).trans j4,(hb.cell (p:=⟨b2,_,none⟩) hb2).trans j5⟩⟩
   have HP0:Hid (Below wr.heap.size wr wr.drew):=(Below.refl _ _).drew
   clear hd hb1 hb2 i0 i1 i2 i3 i4 i5 j0 j1 j2 j3 j4 j5 hDc1 hDc2
   go_upto_region 6 with (fail)
   refine wp_region_held_drew (S:=fun w:World=>(w.cell? ⟨b1,off1+k*6,none⟩=some c0∧w.cell? ⟨b1,off1+k*6+1,none⟩=some c1∧w.cell? ⟨b1,off1+k*6+2,none⟩=some c2∧w.cell? ⟨b1,off1+k*6+3,none⟩=some c3∧w.cell? ⟨b1,off1+k*6+4,none⟩=some c4∧w.cell? ⟨b1,off1+k*6+5,none⟩=some c5)∧(w.cell? ⟨b2,off2+k*6,none⟩=some e0∧w.cell? ⟨b2,off2+k*6+1,none⟩=some e1∧w.cell? ⟨b2,off2+k*6+2,none⟩=some e2∧w.cell? ⟨b2,off2+k*6+3,none⟩=some e3∧w.cell? ⟨b2,off2+k*6+4,none⟩=some e4∧w.cell? ⟨b2,off2+k*6+5,none⟩=some e5)) (by kernel_rfl) ((FS.out _ HP0.out)) (fun hHeld=>?_)
   refine tkI 0 rfl hHeld ?_
   try simp only [Act.put,zS,eZ,eS]
   refine tkI 1 rfl hHeld ?_
   try simp only [Act.put,zS,eZ,eS]
   refine tkI 2 rfl hHeld ?_
   try simp only [Act.put,zS,eZ,eS]
   refine tkH 3 ⟨some 20,.load 37 (.tmp 19),37,"ref.go:216",#[⟨2,.data⟩],none⟩ (v:=?_) hHeld ?_ ?_;rotate_left
   ·intro w hSw;obtain ⟨⟨y0,y1,y2,y3,y4,y5⟩,⟨x0,x1,x2,x3,x4,x5⟩⟩:=hSw;go_simp<;>with_reducible rfl
   try simp only [Act.put,zS,eZ,eS]
   refine tkI 4 rfl hHeld ?_
   try simp only [Act.put,zS,eZ,eS]
   refine tkI 5 rfl hHeld ?_
   try simp only [Act.put,zS,eZ,eS]
   refine tkI 6 rfl hHeld ?_
   try simp only [Act.put,zS,eZ,eS]
   refine tkH 7 ⟨some 24,.load 37 (.tmp 23),37,"ref.go:216",#[⟨6,.data⟩],none⟩ (v:=?_) hHeld ?_ ?_;rotate_left
   ·intro w hSw;obtain ⟨⟨y0,y1,y2,y3,y4,y5⟩,⟨x0,x1,x2,x3,x4,x5⟩⟩:=hSw;go_simp<;>with_reducible rfl
   try simp only [Act.put,zS,eZ,eS]
   refine rdy 8 rfl fun K hK=>?_
   go_simp
   refine Calls.mono HON.out ?_
   rintro e u1 ⟨rfl,hbu⟩
   have HP1:=hid (HP0.out.trans (hbu.mono HP0.out.size))
   clear hbu
   clear hHeld;refine hK.out _ _ ((FS.out _ HP1.out)) fun hHeld=>?_
   clear hK K
   try simp only [Act.put,zS,eZ,eS]
   refine tkI 9 rfl hHeld ?_
   try simp only [Act.put,zS,eZ,eS]
   refine wpAnyH_done (by kernel_rfl) ?_ _
   have HBU:=hid (HBr.out.trans (HP1.out.mono HBr.out.size))
   go_wp2
   go_roundw
   case rel=>exact ⟨k+1,by go_num,by omega,HBU.out⟩
   case measure=>simp [intOf];omega
  ·have hlt':¬(k:Int)<(n1:Int):=by omega
   go_wp2
   go_ret
   exact ⟨rfl,HBr.out⟩
theorem app_dom {w:World} {s:Value} {vs:List (List Value)} {n:Nat} (hn:vs.length=n) (hv:∀ c∈vs,c.length=6) (h:w.ownsRow 0 37 6 s n vs.flatten) (ad:Addr) (cp:Nat) (c:List Value) (hc:c.length=6) (hcells:∀ j u,c[j]? = some u→w.cell? (ad.add j)=some u) (h1:∀ u∈c,u.oneCell'=true) (hlen:(n+1)*96≤140737488355328) (ty:TypeId) :
  ∃ v' w',(Builtin.append_ #[22,22] ty #[s,.slice (some ad) 1 cp]).run Tryz.prog w = .ok v' w'∧w'.ownsRow 0 37 6 v' (n+1) (vs++[c]).flatten∧w.grownBy w' s.ownBlock∧(∀ b,v'.ownBlock=some b→s.ownBlock=some b∨w.heap.size≤b):=by
 obtain ⟨i0,hi0,hz0,hz1,hz2⟩:=info_parts (show (Tryz.prog.info? 37).map (fun i=>(i.zero,i.size,i.bytes))=some (some (.agg #[.bool false,.slice none 0 0,.slice none 0 0,.slice none 0 0,.int .i64 0,.int .i64 0]),6,96) by kernel_rfl)
 obtain ⟨v',w',hr,ho,hg,_⟩:=run_append_own (P:=Tryz.prog) w 0 22 ty 37 i0 _ 6 96 Tryz.underlying22 hi0 hz0 hz1 hz2 rfl (by decide) s n vs.flatten h ad 1 cp c (by omega) hcells h1 (by unfold maxLen;omega) (by omega) (Nat.zero_le _)
 refine ⟨v',w',hr,?_,hg,?_⟩
 ·rw [List.flatten_append,List.flatten_singleton];exact ho
 ·intro b hb
  rcases h.2 with ⟨rfl,hn0⟩ | ⟨g,cap,cur,rfl,hbg,hgg,hnc,hcm,hcs,htake⟩
  ·have hr2:=run_append_nil (P:=Tryz.prog) w 22 ty 37 i0 _ Tryz.underlying22 hi0 hz0 ad 1 cp c (by rw [hz1];omega) hcells (by omega) (by omega) (by rw [hz2];omega)
   rw [hr] at hr2
   injection hr2 with e1 e2
   subst e1
   injection hb with hb
   subst hb
   exact .inr (Nat.le_refl _)
  ·by_cases hroom:n+1≤cap
   ·have hfit:n*i0.size+c.length≤cur.size:=by
     rw [hz1,hc,hcs]
     have:(n+1)*6≤cap*6:=Nat.mul_le_mul_right _ hroom
     omega
    have hr2:=run_append_room (P:=Tryz.prog) w 22 ty 37 i0 Tryz.underlying22 hi0 g n cap cur hgg ad 1 cp c (by rw [hz1];omega) hcells h1 hroom hfit
    rw [hr] at hr2
    injection hr2 with e1 e2
    subst e1
    exact .inl hb
   ·have hr2:=run_append_grow (P:=Tryz.prog) w 22 ty 37 i0 _ Tryz.underlying22 hi0 hz0 ⟨g,0,none⟩ n cap vs.flatten (by rw [hz1];exact h.1) (h.cells (g:=g) rfl) ad 1 cp c (by rw [hz1];omega) hcells (by omega) (by omega) (growslice_fits (by omega) (by rw [hz2];omega))
    rw [hr] at hr2
    injection hr2 with e1 e2
    subst e1
    injection hb with hb
    subst hb
    exact .inr (Nat.le_refl _)
theorem list_dom {w:World} {s:Value} {vs:List (List Value)} {n:Nat} (hn:vs.length=n) (hv:∀ c∈vs,c.length=6) (h:w.ownsRow 0 37 6 s n vs.flatten) {ops:Array Oper} {rest:List Oper} {o:Oper} {a:Act} {Q:Exit→Act→World→Prop} (hgd:o.guard=none) (so xo:Operand) (ho:o.op = .call { callee:=.builtin .append,args:=#[so,xo],argTypes:=#[22,22] })
  (hs:a.eval so=s) (ad:Addr) (cp:Nat) (hx:a.eval xo = .slice (some ad) 1 cp) (c:List Value) (hc:c.length=6) (hcells:∀ j u,c[j]? = some u→w.cell? (ad.add j)=some u) (h1:∀ u∈c,u.oneCell'=true) (hlen:(n+1)*96≤140737488355328)
  (hK:∀ v' w',w'.ownsRow 0 37 6 v' (n+1) (vs++[c]).flatten→w.grownBy w' s.ownBlock→(∀ b,v'.ownBlock=some b→s.ownBlock=some b∨w.heap.size≤b)→wpList Tryz.prog ops Q rest (a.put o.dst v') w'):wpList Tryz.prog ops Q (o :: rest) a w :=
 wpList_plain hgd fun _ hK'=>by
  obtain ⟨v',w',hr,h2,h3,h4⟩:=app_dom hn hv h ad cp c hc hcells h1 hlen o.type
  unfold Oper.wp execOp
  simp only [ho,resolve,invoke,builtin,Sem.run_bind,Sem.run_pure,Result.andThen_ok,List.map_toArray,List.map_cons,List.map_nil,hs,hx,hr]
  exact hK' _ _ (hK v' w' h2 h3 h4)
def Nu (X:Nat→Prop) (w:World) (s:Value) (l:List Int):Prop :=
 ∃ a c,s = .slice a l.length c∧(0<l.length→∃ (b off:Nat) (cur:Array Value) (t:TypeId),a=some ⟨b,off,none⟩∧¬X b∧w.heap[b]? = some (.cells cur t (0,0))∧∀ i x,l[i]? = some x→w.cell? ⟨b,off+i,none⟩=some (.int .i64 x))
theorem Nu.to {X:Nat→Prop} {w:World} {s:Value} {l:List Int} (h:Nu X w s l):Nm X w s l:=by
 obtain ⟨a,c,e,h⟩:=h
 refine ⟨a,c,e,fun h0=>?_⟩
 obtain ⟨b,off,cur,t,e1,e2,e3,e4⟩:=h h0
 exact ⟨b,off,e1,(Array.getElem?_eq_some_iff.1 e3).1,e2,e4⟩
theorem Nu.go {X X':Nat→Prop} {w w':World} {s:Value} {l:List Int} (h:Nu X w s l) (k:Kept X w w') (u:Up X X' w):Nu X' w' s l:=by
 have h9:=(h.to.go k u)
 obtain ⟨a,c,e,h⟩:=h
 refine ⟨a,c,e,fun h0=>?_⟩
 obtain ⟨b,off,cur,t,e1,e2,e3,e4⟩:=h h0
 have hb:=(Array.getElem?_eq_some_iff.1 e3).1
 have kc:∀ o,w'.cell? ⟨b,o,none⟩=w.cell? ⟨b,o,none⟩:=fun o=>k.cell hb e2 o
 exact ⟨b,off,cur,t,e1,fun q=>(u b q).elim e2 (fun q=>by omega),(k.block b hb e2).trans e3,fun i x hx=>(kc _).trans (e4 i x hx)⟩
theorem Nu.kept {X:Nat→Prop} {w w':World} {s:Value} {l:List Int} (h:Nu X w s l) (k:Kept X w w'):Nu X w' s l:=h.go k (Up.refl _ _)
theorem Nu.up {X X':Nat→Prop} {w:World} {s:Value} {l:List Int} (h:Nu X w s l) (u:Up X X' w):Nu X' w s l:=h.go (Kept.refl _ _) u
def Ru (X:Nat→Prop) (w:World) (s:Value) (l:List Dm.Rg):Prop :=
 ∃ a c,s = .slice a l.length c∧(0<l.length→∃ (b off:Nat) (cur:Array Value) (t:TypeId),a=some ⟨b,off,none⟩∧¬X b∧w.heap[b]? = some (.cells cur t (0,0))∧∀ i,i<l.length→w.cell? ⟨b,off+i*2,none⟩=some (.int .i64 (Dm.lo l i))∧w.cell? ⟨b,off+i*2+1,none⟩=some (.int .i64 (Dm.hi l i)))
theorem Ru.to {X:Nat→Prop} {w:World} {s:Value} {l:List Dm.Rg} (h:Ru X w s l):Rm X w s l:=by
 obtain ⟨a,c,e,h⟩:=h
 refine ⟨a,c,e,fun h0=>?_⟩
 obtain ⟨b,off,cur,t,e1,e2,e3,e4⟩:=h h0
 exact ⟨b,off,e1,(Array.getElem?_eq_some_iff.1 e3).1,e2,e4⟩
theorem Ru.go {X X':Nat→Prop} {w w':World} {s:Value} {l:List Dm.Rg} (h:Ru X w s l) (k:Kept X w w') (u:Up X X' w):Ru X' w' s l:=by
 have h9:=(h.to.go k u)
 obtain ⟨a,c,e,h⟩:=h
 refine ⟨a,c,e,fun h0=>?_⟩
 obtain ⟨b,off,cur,t,e1,e2,e3,e4⟩:=h h0
 have hb:=(Array.getElem?_eq_some_iff.1 e3).1
 have kc:∀ o,w'.cell? ⟨b,o,none⟩=w.cell? ⟨b,o,none⟩:=fun o=>k.cell hb e2 o
 exact ⟨b,off,cur,t,e1,fun q=>(u b q).elim e2 (fun q=>by omega),(k.block b hb e2).trans e3,fun i hi=>⟨(kc _).trans (e4 i hi).1,(kc _).trans (e4 i hi).2⟩⟩
theorem Ru.kept {X:Nat→Prop} {w w':World} {s:Value} {l:List Dm.Rg} (h:Ru X w s l) (k:Kept X w w'):Ru X w' s l:=h.go k (Up.refl _ _)
theorem Ru.up {X X':Nat→Prop} {w:World} {s:Value} {l:List Dm.Rg} (h:Ru X w s l) (u:Up X X' w):Ru X' w s l:=h.go (Kept.refl _ _) u
theorem nu_own {X:Nat→Prop} {w:World} {B:Nat} {s:Value} {l:List Int} (h:w.ownsRow B 2 1 s l.length (St.intv l)) (hX:∀ b,X b→b<B):Nu X w s l:=by
 obtain ⟨a,c,e,h9⟩:=nm_own h hX
 refine ⟨a,c,e,fun h0=>?_⟩
 obtain ⟨b,off,e1,e2,e3,e4⟩:=h9 h0
 rcases h.2 with ⟨q1,q2⟩ | ⟨g,cap,cur,q1,hB,hg,_⟩
 ·omega
 ·rw [e,e1] at q1
  injection q1 with q1 _ _
  injection q1 with q1
  injection q1 with q1 _ _
  exact ⟨b,off,cur,_,e1,e3,by rw [q1];exact hg,e4⟩
theorem ru_own {X:Nat→Prop} {w:World} {B:Nat} {s:Value} {l:List Dm.Rg} (h:w.ownsRow B 80 2 s l.length (Dm.flat l)) (hX:∀ b,X b→b<B):Ru X w s l:=by
 obtain ⟨a,c,e,h9⟩:=rm_own h hX
 refine ⟨a,c,e,fun h0=>?_⟩
 obtain ⟨b,off,e1,e2,e3,e4⟩:=h9 h0
 rcases h.2 with ⟨q1,q2⟩ | ⟨g,cap,cur,q1,hB,hg,_⟩
 ·omega
 ·rw [e,e1] at q1
  injection q1 with q1 _ _
  injection q1 with q1
  injection q1 with q1 _ _
  exact ⟨b,off,cur,_,e1,e3,by rw [q1];exact hg,e4⟩
def Du (X:Nat→Prop) (w:World) (c:List Value) (d:MD):Prop :=
 ∃ ra rc a1 c1 a2 c2,c=[.bool d.set,.slice ra d.r.length rc,.slice a1 d.lo.length c1,.slice a2 d.up.length c2,.int .i64 d.least,.int .i64 d.most]∧Ru X w (.slice ra d.r.length rc) d.r∧Nu X w (.slice a1 d.lo.length c1) d.lo∧Nu X w (.slice a2 d.up.length c2) d.up
theorem Du.dc {X:Nat→Prop} {w:World} {c:List Value} {d:MD} (h:Du X w c d):Dc X w c d:=by
 obtain ⟨ra,rc,a1,c1,a2,c2,e,h1,h2,h3⟩:=h
 exact ⟨ra,rc,a1,c1,a2,c2,e,h1.to,h2.to,h3.to⟩
theorem Du.go {X X':Nat→Prop} {w w':World} {c:List Value} {d:MD} (h:Du X w c d) (k:Kept X w w') (u:Up X X' w):Du X' w' c d:=by
 obtain ⟨ra,rc,a1,c1,a2,c2,e,h1,h2,h3⟩:=h
 exact ⟨ra,rc,a1,c1,a2,c2,e,h1.go k u,h2.go k u,h3.go k u⟩
theorem Du.kept {X:Nat→Prop} {w w':World} {c:List Value} {d:MD} (h:Du X w c d) (k:Kept X w w'):Du X w' c d:=h.go k (Up.refl _ _)
theorem Du.up {X X':Nat→Prop} {w:World} {c:List Value} {d:MD} (h:Du X w c d) (u:Up X X' w):Du X' w c d:=h.go (Kept.refl _ _) u
theorem Du.below {X:Nat→Prop} {w w':World} {c:List Value} {d:MD} (h:Du X w c d) (k:Below w.heap.size w w'):Du X w' c d:=h.kept (Kept.of_below k)
theorem Du.len {X:Nat→Prop} {w:World} {c:List Value} {d:MD} (h:Du X w c d):c.length=6:=h.dc.len
theorem Du.one {X:Nat→Prop} {w:World} {c:List Value} {d:MD} (h:Du X w c d):∀ v∈c,v.oneCell'=true:=h.dc.one
theorem intv_flat (r:List Dm.Rg):St.intv (flI r)=Dm.flat r:=by
 have e:Dm.flat r=(r.map fun q=>[Value.int .i64 q.1,Value.int .i64 q.2]).flatten:=by unfold Dm.flat;rw [List.flatMap_def]
 have hk:∀ c∈(r.map fun q=>[Value.int .i64 q.1,Value.int .i64 q.2]),c.length=2:=fun c hc=>by
  obtain ⟨q,_,rfl⟩:=List.mem_map.1 hc
  rfl
 apply List.ext_getElem?
 intro i
 by_cases hi:i<r.length*2
 ·have h1:(St.intv (flI r))[i]? = some (.int .i64 (if i % 2=0 then Dm.lo r (i / 2) else Dm.hi r (i / 2))):=by
   unfold St.intv
   rw [List.getElem?_map,nth_get (by rw [flI_len];exact hi),flI_nth r i hi]
   rfl
  have hd:i / 2<r.length:=by omega
  have h2:=flat_get hk (i / 2) (i % 2) (by omega)
  rw [←e,show i / 2*2+i % 2=i by omega] at h2
  rw [h1,h2,List.getElem?_map,List.getElem?_eq_getElem hd]
  unfold Dm.lo Dm.hi
  rw [List.getElem?_eq_getElem hd]
  rcases Nat.mod_two_eq_zero_or_one i with q | q
  ·rw [q];rfl
  ·rw [q];rfl
 ·rw [List.getElem?_eq_none (by unfold St.intv;rw [List.length_map,flI_len];omega),List.getElem?_eq_none (by rw [Dm.flat_length];omega)]
theorem lent_u {X:Nat→Prop} {W:World} {c:List Value} {d:MD} (h:Dc X W c d) (hz:SzD d):Calls Tryz.prog 41 #[.agg c.toArray] W fun e w'=>∃ q:List Value,e = .returned (.agg q.toArray)∧(∀ Z:Nat→Prop,(∀ b,Z b→b<W.heap.size)→Du Z w' q d)∧Below W.heap.size W w' :=
 (St.lent_own _ (sdM d) (flI d.r) W (h.dr hz)).mono fun e w' ⟨s1,s2,s3,he,h1,h2,h3,hb⟩=>by
  have o1:w'.ownsRow W.heap.size 80 2 s1 d.r.length (Dm.flat d.r):=by
   have e1:St.intv (flI d.r)=Dm.flat d.r:=by
    exact intv_flat d.r
   rw [←e1];exact h1
  obtain ⟨p1,c1,rfl⟩:∃ p c,s1 = .slice p d.r.length c:=by
   rcases o1.2 with ⟨q1,q2⟩ | ⟨g,cap,cur,q1,_⟩
   ·exact ⟨none,0,by rw [q2];exact q1⟩
   ·exact ⟨_,cap,q1⟩
  obtain ⟨p2,c2,rfl⟩:∃ p c,s2 = .slice p d.lo.length c:=by
   rcases h2.2 with ⟨q1,q2⟩ | ⟨g,cap,cur,q1,_⟩
   ·have q2':d.lo.length=0:=q2
    exact ⟨none,0,by rw [q2'];exact q1⟩
   ·exact ⟨_,cap,q1⟩
  obtain ⟨p3,c3,rfl⟩:∃ p c,s3 = .slice p d.up.length c:=by
   rcases h3.2 with ⟨q1,q2⟩ | ⟨g,cap,cur,q1,_⟩
   ·have q2':d.up.length=0:=q2
    exact ⟨none,0,by rw [q2'];exact q1⟩
   ·exact ⟨_,cap,q1⟩
  exact ⟨_,he,fun Z hZ=>⟨p1,c1,p2,c2,p3,c3,rfl,ru_own o1 hZ,nu_own h2 hZ,nu_own h3 hZ⟩,hb⟩
theorem lent_z {X:Nat→Prop} {W:World} {c:List Value} {d:MD} (h:Dc X W c d) (hz:SzD d):Calls Tryz.prog 41 #[.agg c.toArray] W fun e w'=>∃ q:List Value,e = .returned (.agg q.toArray)∧(∀ Z:Nat→Prop,(∀ b,Z b→b<W.heap.size)→Dc Z w' q d)∧Below W.heap.size W w' :=
 (lent_u h hz).mono fun e w' ⟨q,h1,h2,h3⟩=>⟨q,h1,fun Z hZ=>(h2 Z hZ).dc,h3⟩
theorem Dc.weak {X:Nat→Prop} {w:World} {c:List Value} {d:MD} (h:Dc X w c d):Dc (fun _=>False) w c d:=h.up (fun b hb=>hb.elim)
structure LD (N : Nat) (w : World) (v : Value) (D : List MD) (vs : List (List Value)) : Prop where
 n:vs.length=D.length
 r:Rw w 37 v 6 vs
 d:∀ (i:Nat) (c:List Value) (d:MD),vs[i]? = some c→D[i]? = some d→Dc (fun b=>v.ownBlock=some b) w c d
 b:∀ g,v.ownBlock=some g→N≤g
theorem LD.ds {N:Nat} {w:World} {v:Value} {D:List MD} {vs:List (List Value)} (h:LD N w v D vs):Ds w v D:=by
 obtain ⟨a,c,e,hcc,hm⟩:=h.r.shape
 refine ⟨a,c,by rw [e,h.n],fun h0=>?_⟩
 have hv0:0<vs.length:=by rw [h.n];exact h0
 obtain ⟨g,cap,e2,hgl,hat⟩:∃ g cap,v = .slice (some ⟨g,0,none⟩) vs.length cap∧g<w.heap.size∧True:=by
  rcases h.r.2.2 with ⟨q1,q2⟩ | ⟨g,cap,cur,q1,_,q3,_⟩
  ·omega
  ·exact ⟨g,cap,q1,(Array.getElem?_eq_some_iff.1 q3).1,trivial⟩
 rw [e] at e2
 injection e2 with e3 _ _
 refine ⟨g,0,e3,hgl,fun i d hd=>?_⟩
 have hi:i<vs.length:=by rw [h.n];exact (List.getElem?_eq_some_iff.1 hd).1
 have hc:vs[i]? = some vs[i]:=List.getElem?_eq_getElem hi
 have hdc:=h.d i _ d hc hd
 have hl6:=hdc.len
 obtain ⟨g2,cap2,e4,_,_,_,hra,_⟩:=h.r.at hc
 rw [e] at e4
 injection e4 with e5 _ _
 obtain rfl:g=g2:=by
  rw [e3] at e5
  injection e5 with e5
  injection e5
 obtain ⟨c0,c1,c2,c3,c4,c5,hv6⟩:=list6 hl6
 rw [hv6] at hdc hra
 have cell:∀ j u,[c0,c1,c2,c3,c4,c5][j]? = some u→w.cell? ⟨g,0+i*6+j,none⟩=some u:=fun j u hu=>by rw [Nat.zero_add];exact hra j u hu
 exact ⟨c0,c1,c2,c3,c4,c5,hdc.weak,cell 0 _ rfl,cell 1 _ rfl,cell 2 _ rfl,cell 3 _ rfl,cell 4 _ rfl,cell 5 _ rfl⟩
end Go.Proofs.YtghnfnieppfhgaaGreat
