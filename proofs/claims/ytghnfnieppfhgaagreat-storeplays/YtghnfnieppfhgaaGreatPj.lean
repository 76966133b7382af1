/- What is proved here: the only value of a domain, with what it is: the reference's Value. -/
import Derived.Test.YtghnfnieppfhgaaGreatFdj
import Derived.Test.YtghnfnieppfhgaaGreatPi
set_option linter.unusedVariables false
set_option linter.unusedSimpArgs false
set_option maxRecDepth 100000
set_option maxHeartbeats 4000000
namespace Go.Proofs.YtghnfnieppfhgaaGreat
open Go.RowKit Go.Shelf
def vlM (d:MD):Bool × Int × List Int:=if onlyA d then (if d.set then (true,0,St.fixL (sdM d)) else (false,Dm.lo d.r 0,[])) else (false,0,[])
theorem si_nil (w:World):St.Si w (.slice none 0 0) []:=⟨none,0,rfl,fun h=>absurd h (by decide)⟩
theorem si_set3 {w w3:World} {g:Nat} {b0 b1:Bool} {n:Int} {a0 a1:Option Addr} {n0 n1 c0 c1:Nat} {s:Value} {l:List Int} (hB:Bx w g #[.bool b0,.int .i64 n,.slice a0 n0 c0] 57) (hs:St.Si w s l) (hZ:Bx w3 g #[.bool b1,.int .i64 n,.slice a1 n1 c1] 57) (hk:∀ b,b≠g→w3.heap[b]? = w.heap[b]?) (hz:w.heap.size≤w3.heap.size):St.Si w3 s l:=by
 obtain ⟨a,cap,e,h⟩:=hs
 refine ⟨a,cap,e,fun h0=>?_⟩
 obtain ⟨b,off,e1,e2,e3⟩:=h h0
 refine ⟨b,off,e1,Nat.lt_of_lt_of_le e2 hz,fun i hi=>?_⟩
 have h3:=e3 i hi
 by_cases hb:b=g
 ·subst hb
  rw [hB.cell] at h3
  rw [hZ.cell]
  obtain ⟨j,hj⟩:∃ j,off+i=j:=⟨_,rfl⟩
  rw [hj] at h3 ⊢
  match j with
  | 0=>cases h3
  | 1=>exact h3
  | 2=>cases h3
  | j+3=>simp at h3
 ·rw [←h3]
  exact World.cell?_of_block (a:=⟨b,off+i,none⟩) (hk b hb)
theorem rvalue_s1x {X:Nat→Prop} {W:World} {c:List Value} {d:MD} (h:Dc X W c d) (hf:Dm.FitsR d.r) (hs:d.set=true) (ho:onlyA d=true):Calls Tryz.prog 27 #[.agg c.toArray] W fun e w'=>∃ (p:Option Addr) (l k:Nat),e = .returned (.tuple #[.agg #[.bool (vlM d).1,.int .i64 (vlM d).2.1,.slice p l k],.bool true])∧(St.Si w' (.slice p l k) (vlM d).2.2∧St.Nt w' (.slice p l k))∧Below W.heap.size W w':=by
 have HVL:Hid (vlM d=(true,0,St.fixL (sdM d))):=by unfold Hid vlM;rw [ho,hs];rfl
 rw [HVL.out]
 clear HVL
 obtain ⟨N,hN⟩:∃ N,W.heap.size=N:=⟨_,rfl⟩
 have h0:=h
 have hfx:St.fixB (sdM d)=true:=by unfold onlyA at ho;rwa [if_pos hs] at ho
 obtain ⟨b,ra,n0,rc,a1,n1,c1,a2,n2,c2,x,y,rfl,HE,H1,H2,H3⟩:=h.look
 obtain rfl:b=true:=by rw [←HE.out.1,hs]
 obtain ⟨W0,hW0⟩:∃ Q,(W.alloc (Obj.cells #[.bool true,.slice ra n0 rc,.slice a1 n1 c1,.slice a2 n2 c2,.int .i64 x,.int .i64 y] 37)).alloc (Obj.cells #[.bool false,.int .i64 0,.slice none 0 0] 57)=Q:=⟨_,rfl⟩
 have hb0:Below W.heap.size W W0:=by rw [←hW0];exact ((Below.refl _ W).alloc (Nat.le_refl _) _).alloc (by simp) _
 have HX:Hid (Bx W0 N #[.bool true,.slice ra n0 rc,.slice a1 n1 c1,.slice a2 n2 c2,.int .i64 x,.int .i64 y] 37):=by rw [←hW0];exact (Bx.new' hN _ _).alloc _
 have HR:Hid (Bx W0 (N+1) #[.bool false,.int .i64 0,.slice none 0 0] 57):=by rw [←hW0];exact Bx.new' (by simp [hN]) _ _
 have HB0:Hid (Below W.heap.size W W0):=hb0
 have kr:=St.reffixed_nt _ _ W0 (h0.below hb0).di
 rw [hfx] at kr
 clear hfx
 have HW0:Hid _:=hW0
 have HN:Hid (W.heap.size=N):=hN
 clear h h0 hf hs ho HE H1 H2 H3 hW0 hb0
 obtain ⟨z0,z1,z2,z3,z4,z5⟩:=HX.out.six
 go_enter Tryz.func27,Tryz.ntmps27
 go_upto_region 1 with (fail)
 rw [HW0.out]
 clear hN
 go_wp2_with fail
 refine kr.mono ?_
 clear kr z0 z1 z2 z3 z4 z5
 rintro e w1 ⟨p,l,k,rfl,HSI,hb1⟩
 have HRx:=hid (HR.out.below hb1)
 have HBL:=hid (HB0.out.trans (hb1.mono HB0.out.size))
 obtain ⟨z0,z1,z2,z3,z4,z5⟩:=(HX.out.below hb1).six
 clear hb1
 obtain ⟨x0,x1,x2⟩:=HRx.out.three
 have f0:=HRx.out.fr 0
 have f1:=HRx.out.fr 1
 have f2:=HRx.out.fr 2
 have HZX:=HRx.out.set3 (.bool true) (.int .i64 0) (.slice p l k)
 go_wp2
 refine ⟨rfl,_,res_ct rfl _ HZX (by with_unfolding_all rfl) rfl Tryz.underlying57 (by kernel_rfl) (v:=.bool true) (by with_unfolding_all rfl),_,_,_,rfl,?_,?_⟩
 ·have hk:∀ b,b≠N+1→(((w1.setCell ⟨N+1,0,none⟩ (.bool true)).setCell ⟨N+1,1,none⟩ (.int .i64 0)).setCell ⟨N+1,2,none⟩ (.slice p l k)).heap[b]? = w1.heap[b]?:=fun b hb=>by rw [Sort.setCell_eq,Sort.setCell_eq,Sort.setCell_eq];unfold Sort.mapBlock;simp only [Array.getElem?_modify,if_neg (Ne.symm hb)]
  exact ⟨si_set3 HRx.out HSI.out.1 HZX hk (by simp),HSI.out.2.keep fun b cur fr h1=>hk b (fun e=>by rw [e,HRx.out.h] at h1;cases h1)⟩
 ·have hle:W.heap.size≤N+1:=by rw [HN.out];omega
  exact ((HBL.out.setCell (p:=⟨N+1,0,none⟩) hle _).setCell (p:=⟨N+1,1,none⟩) hle _).setCell (p:=⟨N+1,2,none⟩) hle _
theorem rvalue_s0x {X:Nat→Prop} {W:World} {c:List Value} {d:MD} (h:Dc X W c d) (hf:Dm.FitsR d.r) (hs:d.set=true) (ho:onlyA d=false):Calls Tryz.prog 27 #[.agg c.toArray] W fun e w'=>∃ (p:Option Addr) (l k:Nat),e = .returned (.tuple #[.agg #[.bool (vlM d).1,.int .i64 (vlM d).2.1,.slice p l k],.bool false])∧(St.Si w' (.slice p l k) (vlM d).2.2∧St.Nt w' (.slice p l k))∧Below W.heap.size W w':=by
 have HVL:Hid (vlM d=(false,0,[])):=by unfold Hid vlM;rw [ho];rfl
 rw [HVL.out]
 clear HVL
 obtain ⟨N,hN⟩:∃ N,W.heap.size=N:=⟨_,rfl⟩
 have h0:=h
 have hfx:St.fixB (sdM d)=false:=by unfold onlyA at ho;rwa [if_pos hs] at ho
 obtain ⟨b,ra,n0,rc,a1,n1,c1,a2,n2,c2,x,y,rfl,HE,H1,H2,H3⟩:=h.look
 obtain rfl:b=true:=by rw [←HE.out.1,hs]
 obtain ⟨W0,hW0⟩:∃ Q,(W.alloc (Obj.cells #[.bool true,.slice ra n0 rc,.slice a1 n1 c1,.slice a2 n2 c2,.int .i64 x,.int .i64 y] 37)).alloc (Obj.cells #[.bool false,.int .i64 0,.slice none 0 0] 57)=Q:=⟨_,rfl⟩
 have hb0:Below W.heap.size W W0:=by rw [←hW0];exact ((Below.refl _ W).alloc (Nat.le_refl _) _).alloc (by simp) _
 have HX:Hid (Bx W0 N #[.bool true,.slice ra n0 rc,.slice a1 n1 c1,.slice a2 n2 c2,.int .i64 x,.int .i64 y] 37):=by rw [←hW0];exact (Bx.new' hN _ _).alloc _
 have HR:Hid (Bx W0 (N+1) #[.bool false,.int .i64 0,.slice none 0 0] 57):=by rw [←hW0];exact Bx.new' (by simp [hN]) _ _
 have HB0:Hid (Below W.heap.size W W0):=hb0
 have kr:=St.reffixed_nt _ _ W0 (h0.below hb0).di
 rw [hfx] at kr
 clear hfx
 have HW0:Hid _:=hW0
 have HN:Hid (W.heap.size=N):=hN
 clear h h0 hf hs ho HE H1 H2 H3 hW0 hb0
 obtain ⟨z0,z1,z2,z3,z4,z5⟩:=HX.out.six
 go_enter Tryz.func27,Tryz.ntmps27
 go_upto_region 1 with (fail)
 rw [HW0.out]
 clear hN
 go_wp2_with fail
 refine kr.mono ?_
 clear kr z0 z1 z2 z3 z4 z5
 rintro e w1 ⟨p,l,k,rfl,-,hb1⟩
 have HRx:=hid (HR.out.below hb1)
 have HBL:=hid (HB0.out.trans (hb1.mono HB0.out.size))
 obtain ⟨z0,z1,z2,z3,z4,z5⟩:=(HX.out.below hb1).six
 clear hb1
 obtain ⟨x0,x1,x2⟩:=HRx.out.three
 have f0:=HRx.out.fr 0
 have f1:=HRx.out.fr 1
 have f2:=HRx.out.fr 2
 have HZX:=HRx.out.set3 (.bool false) (.int .i64 0) (.slice none 0 0)
 go_wp2
 refine ⟨rfl,_,res_ct rfl _ HZX (by with_unfolding_all rfl) rfl Tryz.underlying57 (by kernel_rfl) (v:=.bool false) (by with_unfolding_all rfl),_,_,_,rfl,?_,?_⟩
 ·exact ⟨si_nil _,St.nt_nil _⟩
 ·have hle:W.heap.size≤N+1:=by rw [HN.out];omega
  exact ((HBL.out.setCell (p:=⟨N+1,0,none⟩) hle _).setCell (p:=⟨N+1,1,none⟩) hle _).setCell (p:=⟨N+1,2,none⟩) hle _
theorem rvalue_n1x {X:Nat→Prop} {W:World} {c:List Value} {d:MD} (h:Dc X W c d) (hf:Dm.FitsR d.r) (hs:d.set=false) (ho:onlyA d=true):Calls Tryz.prog 27 #[.agg c.toArray] W fun e w'=>∃ (p:Option Addr) (l k:Nat),e = .returned (.tuple #[.agg #[.bool (vlM d).1,.int .i64 (vlM d).2.1,.slice p l k],.bool true])∧(St.Si w' (.slice p l k) (vlM d).2.2∧St.Nt w' (.slice p l k))∧Below W.heap.size W w':=by
 have HVL:Hid (vlM d=(false,Dm.lo d.r 0,[])):=by unfold Hid vlM;rw [ho,hs];rfl
 rw [HVL.out]
 clear HVL
 obtain ⟨N,hN⟩:∃ N,W.heap.size=N:=⟨_,rfl⟩
 have h0:=h
 have hsz:Dm.sizeR (Dm.tk d.r)=1:=by
  unfold onlyA onlyW at ho
  rw [if_neg (by rw [hs];decide)] at ho
  by_cases q:Dm.sizeR (Dm.tk d.r)=1
  ·exact q
  ·rw [if_neg q] at ho;cases ho
 have hpos:0<d.r.length:=by
  rcases Nat.eq_zero_or_pos d.r.length with q | q
  ·rw [List.length_eq_zero_iff.1 q] at hsz
   exact absurd hsz (by decide)
  ·exact q
 obtain ⟨b,ra,n0,rc,a1,n1,c1,a2,n2,c2,x,y,rfl,HE,H1,H2,H3⟩:=h.look
 obtain rfl:b=false:=by rw [←HE.out.1,hs]
 obtain ⟨W0,hW0⟩:∃ Q,(W.alloc (Obj.cells #[.bool false,.slice ra n0 rc,.slice a1 n1 c1,.slice a2 n2 c2,.int .i64 x,.int .i64 y] 37)).alloc (Obj.cells #[.bool false,.int .i64 0,.slice none 0 0] 57)=Q:=⟨_,rfl⟩
 have hb0:Below W.heap.size W W0:=by rw [←hW0];exact ((Below.refl _ W).alloc (Nat.le_refl _) _).alloc (by simp) _
 have HX:Hid (Bx W0 N #[.bool false,.slice ra n0 rc,.slice a1 n1 c1,.slice a2 n2 c2,.int .i64 x,.int .i64 y] 37):=by rw [←hW0];exact (Bx.new' hN _ _).alloc _
 have HR:Hid (Bx W0 (N+1) #[.bool false,.int .i64 0,.slice none 0 0] 57):=by rw [←hW0];exact Bx.new' (by simp [hN]) _ _
 have HB0:Hid (Below W.heap.size W W0):=hb0
 have kr:=(Dm.refsize_any _ _ _ (H1.out.kept (Kept.of_below hb0)).sr)
 rw [hsz] at kr
 obtain ⟨b1,off1,hra,hlo,hcl⟩:∃ b1 off1,ra=some ⟨b1,off1,none⟩∧b1<W0.heap.size∧W0.cell? ⟨b1,off1,none⟩=some (.int .i64 (Dm.lo d.r 0)):=by
  obtain ⟨a',c',e,hh⟩:=(H1.out.kept (Kept.of_below hb0))
  injection e with e1 e2 e3
  obtain ⟨b1,off1,q1,q2,_,q3⟩:=hh hpos
  refine ⟨b1,off1,by rw [e1,q1],q2,?_⟩
  have:=(q3 0 hpos).1
  simpa using this
 subst hra
 have hn0:0<n0:=by rw [←HE.out.2.1];exact hpos
 generalize Dm.lo d.r 0=lo0 at *
 clear hsz hpos
 have HW0:Hid _:=hW0
 have HN:Hid (W.heap.size=N):=hN
 clear h h0 hf hs ho HE H1 H2 H3 hW0 hb0
 obtain ⟨z0,z1,z2,z3,z4,z5⟩:=HX.out.six
 go_enter Tryz.func27,Tryz.ntmps27
 go_upto_region 1 with (fail)
 rw [HW0.out]
 clear hN
 go_wp2_with fail
 refine kr.mono ?_
 clear kr z0 z1 z2 z3 z4 z5
 rintro e w1 ⟨rfl,hb1⟩
 have HRx:=hid (HR.out.below hb1)
 have HBL:=hid (HB0.out.trans (hb1.mono HB0.out.size))
 obtain ⟨z0,z1,z2,z3,z4,z5⟩:=(HX.out.below hb1).six
 have hcl1:w1.cell? ⟨b1,off1,none⟩=some (.int .i64 lo0):=(hb1.cell (p:=⟨b1,_,none⟩) hlo).trans hcl
 clear hcl hlo
 clear hb1
 obtain ⟨x0,x1,x2⟩:=HRx.out.three
 have f0:=HRx.out.fr 0
 have f1:=HRx.out.fr 1
 have f2:=HRx.out.fr 2
 have HZX:=HRx.out.set3 (.bool false) (.int .i64 lo0) (.slice none 0 0)
 go_wp2
 refine ⟨rfl,_,res_ct rfl _ HZX (by with_unfolding_all rfl) rfl Tryz.underlying57 (by kernel_rfl) (v:=.bool true) (by with_unfolding_all rfl),_,_,_,rfl,?_,?_⟩
 ·exact ⟨si_nil _,St.nt_nil _⟩
 ·have hle:W.heap.size≤N+1:=by rw [HN.out];omega
  exact ((HBL.out.setCell (p:=⟨N+1,0,none⟩) hle _).setCell (p:=⟨N+1,1,none⟩) hle _).setCell (p:=⟨N+1,2,none⟩) hle _
theorem rvalue_n0x {X:Nat→Prop} {W:World} {c:List Value} {d:MD} (h:Dc X W c d) (hf:Dm.FitsR d.r) (hs:d.set=false) (ho:onlyA d=false):Calls Tryz.prog 27 #[.agg c.toArray] W fun e w'=>∃ (p:Option Addr) (l k:Nat),e = .returned (.tuple #[.agg #[.bool (vlM d).1,.int .i64 (vlM d).2.1,.slice p l k],.bool false])∧(St.Si w' (.slice p l k) (vlM d).2.2∧St.Nt w' (.slice p l k))∧Below W.heap.size W w':=by
 have HVL:Hid (vlM d=(false,0,[])):=by unfold Hid vlM;rw [ho];rfl
 rw [HVL.out]
 clear HVL
 obtain ⟨N,hN⟩:∃ N,W.heap.size=N:=⟨_,rfl⟩
 have h0:=h
 have hsz:¬Dm.sizeR (Dm.tk d.r)=1:=by
  unfold onlyA onlyW at ho
  rw [if_neg (by rw [hs];decide)] at ho
  by_cases q:Dm.sizeR (Dm.tk d.r)=1
  ·rw [if_pos q] at ho;cases ho
  ·exact q
 obtain ⟨b,ra,n0,rc,a1,n1,c1,a2,n2,c2,x,y,rfl,HE,H1,H2,H3⟩:=h.look
 obtain rfl:b=false:=by rw [←HE.out.1,hs]
 obtain ⟨W0,hW0⟩:∃ Q,(W.alloc (Obj.cells #[.bool false,.slice ra n0 rc,.slice a1 n1 c1,.slice a2 n2 c2,.int .i64 x,.int .i64 y] 37)).alloc (Obj.cells #[.bool false,.int .i64 0,.slice none 0 0] 57)=Q:=⟨_,rfl⟩
 have hb0:Below W.heap.size W W0:=by rw [←hW0];exact ((Below.refl _ W).alloc (Nat.le_refl _) _).alloc (by simp) _
 have HX:Hid (Bx W0 N #[.bool false,.slice ra n0 rc,.slice a1 n1 c1,.slice a2 n2 c2,.int .i64 x,.int .i64 y] 37):=by rw [←hW0];exact (Bx.new' hN _ _).alloc _
 have HR:Hid (Bx W0 (N+1) #[.bool false,.int .i64 0,.slice none 0 0] 57):=by rw [←hW0];exact Bx.new' (by simp [hN]) _ _
 have HB0:Hid (Below W.heap.size W W0):=hb0
 have kr:=(Dm.refsize_any _ _ _ (H1.out.kept (Kept.of_below hb0)).sr)
 generalize Dm.sizeR (Dm.tk d.r)=sz at *
 have hsz':(sz != 1)=true:=by simpa using hsz
 have HW0:Hid _:=hW0
 have HN:Hid (W.heap.size=N):=hN
 clear h h0 hf hs ho HE H1 H2 H3 hW0 hb0
 obtain ⟨z0,z1,z2,z3,z4,z5⟩:=HX.out.six
 go_enter Tryz.func27,Tryz.ntmps27
 go_upto_region 1 with (fail)
 rw [HW0.out]
 clear hN
 go_wp2_with fail
 refine kr.mono ?_
 clear kr z0 z1 z2 z3 z4 z5
 rintro e w1 ⟨rfl,hb1⟩
 have HRx:=hid (HR.out.below hb1)
 have HBL:=hid (HB0.out.trans (hb1.mono HB0.out.size))
 obtain ⟨z0,z1,z2,z3,z4,z5⟩:=(HX.out.below hb1).six
 clear hb1
 obtain ⟨x0,x1,x2⟩:=HRx.out.three
 have f0:=HRx.out.fr 0
 have f1:=HRx.out.fr 1
 have f2:=HRx.out.fr 2
 have HZX:=HRx.out.set3 (.bool false) (.int .i64 0) (.slice none 0 0)
 go_wp2
 refine ⟨rfl,_,res_ct rfl _ HZX (by with_unfolding_all rfl) rfl Tryz.underlying57 (by kernel_rfl) (v:=.bool false) (by with_unfolding_all rfl),_,_,_,rfl,?_,?_⟩
 ·exact ⟨si_nil _,St.nt_nil _⟩
 ·have hle:W.heap.size≤N+1:=by rw [HN.out];omega
  exact ((HBL.out.setCell (p:=⟨N+1,0,none⟩) hle _).setCell (p:=⟨N+1,1,none⟩) hle _).setCell (p:=⟨N+1,2,none⟩) hle _
theorem rvalue_x {X:Nat→Prop} {W:World} {c:List Value} {d:MD} (h:Dc X W c d) (hf:Dm.FitsR d.r):Calls Tryz.prog 27 #[.agg c.toArray] W fun e w'=>∃ (p:Option Addr) (l k:Nat),e = .returned (.tuple #[.agg #[.bool (vlM d).1,.int .i64 (vlM d).2.1,.slice p l k],.bool (onlyA d)])∧(St.Si w' (.slice p l k) (vlM d).2.2∧St.Nt w' (.slice p l k))∧Below W.heap.size W w':=by
 cases hs:d.set<;>cases ho:onlyA d
 ·exact rvalue_n0x h hf hs ho
 ·exact rvalue_n1x h hf hs ho
 ·exact rvalue_s0x h hf hs ho
 ·exact rvalue_s1x h hf hs ho
end Go.Proofs.YtghnfnieppfhgaaGreat
