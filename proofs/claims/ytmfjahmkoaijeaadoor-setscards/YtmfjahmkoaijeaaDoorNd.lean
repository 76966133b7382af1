/-
  What is proved here: what sets.Must, Not and Card return of any domain.
-/
import Derived.Test.YtmfjahmkoaijeaaDoorNb
import Derived.Test.YtmfjahmkoaijeaaDoorNa
import Derived.Deep.RegionHeld3
namespace Go.Proofs.YtmfjahmkoaijeaaDoor
open Go.RowKit Go.Shelf
set_option linter.unusedVariables false
set_option linter.unusedSimpArgs false

theorem tight_look (s1 s2 : Value) (lo up : List Int) (least most : Int) (W : World) (h1 : Si W s1 lo) (h2 : Si W s2 up) (hl1 : lo.length ≤ 1000) (hl2 : up.length ≤ 1000) :
    Calls Tryd.prog 14 #[s1, s2, .int .i64 least, .int .i64 most] W fun e w' => ∃ x0 p1 m1 k1 p2 m2 k2 x4 x5, e = .returned (.agg #[.bool x0, .slice none 0 0, .slice p1 m1 k1, .slice p2 m2 k2, .int .i64 x4, .int .i64 x5]) ∧ Hid (Dv W.heap.size w' (.agg #[.bool x0, .slice none 0 0, .slice p1 m1 k1, .slice p2 m2 k2, .int .i64 x4, .int .i64 x5]) (tightD lo up least most)) ∧ Below W.heap.size W w' :=
  (tight_any s1 s2 lo up least most W h1 h2 hl1 hl2).mono fun e w' ⟨v, he, hD, hb⟩ => by
    obtain ⟨x0, p1, m1, k1, p2, m2, k2, x4, x5, rfl, _⟩ := hD.look
    exact ⟨_, _, _, _, _, _, _, _, _, he, hD, hb⟩
theorem taken_look (v : Value) (d : SD) (W : World) (h : Di W v d) :
    Calls Tryd.prog 7 #[v] W fun e w' => ∃ x0 p1 m1 k1 p2 m2 k2 x4 x5, e = .returned (.agg #[.bool x0, .slice none 0 0, .slice p1 m1 k1, .slice p2 m2 k2, .int .i64 x4, .int .i64 x5]) ∧ Hid (Dv W.heap.size w' (.agg #[.bool x0, .slice none 0 0, .slice p1 m1 k1, .slice p2 m2 k2, .int .i64 x4, .int .i64 x5]) (takenD d)) ∧ Hid ((takenD d).least = x4 ∧ (takenD d).most = x5) ∧ Hid (Si w' (.slice p1 m1 k1) (takenD d).lo) ∧ Hid (Si w' (.slice p2 m2 k2) (takenD d).up) ∧ Below W.heap.size W w' :=
  (taken_dom v d W h).mono fun e w' ⟨v, he, hD, hb⟩ => by
    obtain ⟨x0, p1, m1, k1, p2, m2, k2, x4, x5, rfl, HE, H1, H2⟩ := hD.look
    exact ⟨_, _, _, _, _, _, _, _, _, he, hD, ⟨HE.out.2.2.2.1, HE.out.2.2.2.2.1⟩, own_si' H1.out HE.out.2.1, own_si' H2.out HE.out.2.2.1, hb⟩
/-- Numbers lie in no row of a domain: they stay. -/
theorem own_si_set {W : World} {B g n : Nat} {s : Value} {l : List Int} {y0 y1 y2 y3 y4 y5 : Value} (h : W.ownsRow B 2 1 s n (intv l)) (hn : l.length = n) (hg : R6 W g y0 y1 y2 y3 y4 y5) (cs : Array Value) : Si (W.setRow g cs) s l := own_si' (own_setRow h g cs hg.h) hn
theorem dv_si {B : Nat} {w : World} {x0 : Bool} {p1 p2 : Option Addr} {m1 k1 m2 k2 : Nat} {x4 x5 : Int} {d : SD} (h : Dv B w (.agg #[.bool x0, .slice none 0 0, .slice p1 m1 k1, .slice p2 m2 k2, .int .i64 x4, .int .i64 x5]) d) : Si w (.slice p1 m1 k1) d.lo ∧ Si w (.slice p2 m2 k2) d.up := by
  obtain ⟨slo, sup, e, e0, o1, o2⟩ := h
  injection e with e
  injection e with e
  injection e with _ e
  injection e with _ e
  injection e with e2 e
  injection e with e3 e
  subst e2 e3
  exact ⟨own_si o1, own_si o2⟩
theorem one_new {w : World} (x : Int) : Si (w.alloc (Obj.cells #[.int .i64 x] 2)) (.slice (some ⟨w.heap.size, 0, none⟩) 1 1) [x] := by
  refine ⟨_, _, rfl, fun _ => ⟨_, _, rfl, by rw [World.size_alloc]; omega, fun i hi => ?_⟩⟩
  have hi0 : i = 0 := by simp at hi; omega
  subst hi0
  have := World.alloc_heap_new w (Obj.cells #[.int .i64 x] 2)
  show (w.alloc (Obj.cells #[.int .i64 x] 2)).cell? ⟨w.heap.size, 0 + 0, none⟩ = _
  rw [cell_row this]
  rfl

set_option maxRecDepth 100000 in
set_option maxHeartbeats 4000000 in
theorem card_any (v : Value) (d : SD) (x y : Int) (W : World) (h : Di W v d) :
    Calls Tryd.prog 6 #[v, .int .i64 x, .int .i64 y] W fun e w' => ∃ v', e = .returned v' ∧ Dv W.heap.size w' v' (cardD d x y) ∧ Below W.heap.size W w' := by
  have k77 := fun X (hX : Below W.heap.size W X) => taken_look v d X (h.below hX)
  obtain ⟨x0, ra, rn, rc, a1, n1, c1, a2, n2, c2, x4, x5, rfl, HE, HLO, HUP⟩ := h.look
  have hR := taken_right d
  have hu64 := hR.2.2.2.1.1
  have hl64 := hR.2.2.1.1
  obtain ⟨W0, hW0⟩ : ∃ X, (W.alloc (Obj.cells #[.bool x0, .slice ra rn rc, .slice a1 n1 c1, .slice a2 n2 c2, .int .i64 x4, .int .i64 x5] 25)).alloc (Obj.cells #[.bool false, .slice none 0 0, .slice none 0 0, .slice none 0 0, .int .i64 0, .int .i64 0] 25) = X := ⟨_, rfl⟩
  have HW0 : Hid _ := hW0
  have hb0 : Below W.heap.size W W0 := by rw [← hW0]; exact ((Below.refl _ W).alloc (Nat.le_refl _) _).alloc (by simp) _
  have HR0 : Hid (R6 W0 W.heap.size (.bool x0) (.slice ra rn rc) (.slice a1 n1 c1) (.slice a2 n2 c2) (.int .i64 x4) (.int .i64 x5)) := by rw [← hW0]; exact (R6.new _ _ _ _ _ _ _).alloc _
  have HZ0 : Hid (R6 W0 (W.heap.size + 1) (.bool false) (.slice none 0 0) (.slice none 0 0) (.slice none 0 0) (.int .i64 0) (.int .i64 0)) := by rw [← hW0]; exact R6.new1 _ _ _ _ _ _ _ _
  clear hW0 h
  have hM : cardD d x y = tightD (takenD d).lo (takenD d).up (max (takenD d).least x) (min (takenD d).most y) := rfl
  generalize cardD d x y = MD at hM ⊢
  generalize takenD d = T at k77 hM hu64 hl64
  clear hR
  go_enter Tryd.func6, Tryd.ntmps6
  go_upto_region 1 with (fail)
  rw [HW0.out]
  obtain ⟨z0, z1, z2, z3, z4, z5⟩ := HR0.out.cells
  go_wp2_with fail
  refine (k77 W0 hb0).mono ?_
  rintro e w1 ⟨y0, p1, m1, k1, p2, m2, k2, y4, y5, rfl, HD1, HL, hs1, hs2, hb⟩
  have hb1 : Below W.heap.size W w1 := hb0.trans (hb.mono hb0.size)
  have HR1 : Hid (R6 w1 W.heap.size (.bool x0) (.slice ra rn rc) (.slice a1 n1 c1) (.slice a2 n2 c2) (.int .i64 x4) (.int .i64 x5)) := HR0.out.below hb
  have HZ1 : Hid (R6 w1 (W.heap.size + 1) (.bool false) (.slice none 0 0) (.slice none 0 0) (.slice none 0 0) (.int .i64 0) (.int .i64 0)) := HZ0.out.below hb
  have hbS := below_setRow hb1 (Nat.le_refl W.heap.size) #[.bool y0, .slice none 0 0, .slice p1 m1 k1, .slice p2 m2 k2, .int .i64 y4, .int .i64 y5]
  have HR2 : Hid _ := HR1.out.set (.bool y0) (.slice none 0 0) (.slice p1 m1 k1) (.slice p2 m2 k2) (.int .i64 y4) (.int .i64 y5)
  have HZ2 : Hid _ := HZ1.out.other (show W.heap.size + 1 ≠ W.heap.size by omega) #[.bool y0, .slice none 0 0, .slice p1 m1 k1, .slice p2 m2 k2, .int .i64 y4, .int .i64 y5]
  have HD2 : Hid _ := dv_si (HD1.out.set HR1.out #[.bool y0, .slice none 0 0, .slice p1 m1 k1, .slice p2 m2 k2, .int .i64 y4, .int .i64 y5])
  clear hb0 hb HR0 HZ0 k77 z0 z1 z2 z3 z4 z5 HW0 HD1 hs1 hs2
  go_upto_region 2 with (with_reducible refine st37 rfl (.tmp 3) (.tmp 8) rfl W.heap.size _ _ _ _ _ _ (by with_unfolding_all rfl) (by with_unfolding_all rfl) HR1.out (six_dom _ _ _ _ _ _ _ _ _ _ _ _) ?_)
  simp only [Act.put]
  generalize w1.setRow W.heap.size #[.bool y0, .slice none 0 0, .slice p1 m1 k1, .slice p2 m2 k2, .int .i64 y4, .int .i64 y5] = W2 at hbS HR2 HZ2 HD2 ⊢
  obtain ⟨z0, z1, z2, z3, z4, z5⟩ := HR2.out.cells
  clear HR1 HZ1 hb1
  have HM : Hid _ := hM
  obtain ⟨mx, hmx⟩ : ∃ m, max y4 x = m := ⟨_, rfl⟩
  obtain ⟨mn, hmn⟩ : ∃ m, min y5 y = m := ⟨_, rfl⟩
  have HX : Hid (max y4 x = mx ∧ min y5 y = mn) := ⟨hmx, hmn⟩
  have k75 := tight_look (.slice p1 m1 k1) (.slice p2 m2 k2) T.lo T.up mx mn W2 HD2.out.1 HD2.out.2 (by omega) (by omega)
  clear hM HD2 HR2
  go_wp2_with fail
  refine k75.mono ?_
  rintro e w6 ⟨g0, q1, h1, j1, q2, h2, j2, g4, g5, rfl, HV, hb⟩
  have hb6 : Below W.heap.size W w6 := hbS.trans (hb.mono hbS.size)
  have HZ6 : Hid _ := HZ2.out.below hb
  have hsz := hbS.size
  clear HZ2 hb hbS k75 z0 z1 z2 z3 z4 z5
  go_wp2_with (with_reducible refine st37 rfl (.tmp 6) (.tmp 21) rfl (W.heap.size + 1) _ _ _ _ _ _ (by with_unfolding_all rfl) (by with_unfolding_all rfl) HZ6.out (six_dom _ _ _ _ _ _ _ _ _ _ _ _) ?_)
  refine ⟨rfl, _, R6.res rfl _ (HZ6.out.set (.bool g0) (.slice none 0 0) (.slice q1 h1 j1) (.slice q2 h2 j2) (.int .i64 g4) (.int .i64 g5)) rfl, ⟨_, rfl, ?_, below_setRow hb6 (by omega) _⟩⟩
  rw [HM.out, HL.out.1, HL.out.2, HX.out.1, HX.out.2]
  exact (HV.out.base hsz).set HZ6.out _
end Go.Proofs.YtmfjahmkoaijeaaDoor

