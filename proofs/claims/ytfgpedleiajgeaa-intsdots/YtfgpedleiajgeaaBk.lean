/-
  What is proved here: what the reference's Add, Sub, Mul, Neg and Abs return, at all numbers of 64 bits.
-/
import Derived.Test.YtfgpedleiajgeaaBj
import Derived.Deep.RegionWith
namespace Go.Proofs.Ytfgpedleiajgeaa
open Go.RowKit

theorem IsBig.below {W W' : World} {v : Value} {x : Int} (h : IsBig W v x) (hb : Below W.heap.size W W') : IsBig W' v x := by
  obtain ⟨m, s, ds, e, hrow, r⟩ := h
  exact ⟨m, s, ds, e, hrow.below' hb, r⟩
theorem fits_rp {x : Int} (h : Fits x) : -rp 10 < x ∧ x < rp 10 := by
  have h1 := rp_mono (show 3 ≤ 10 by decide)
  rw [rp3] at h1; unfold Fits at h; omega

theorem below3 {a b c d : World} (h1 : Below a.heap.size a b) (h2 : Below b.heap.size b c) (h3 : Below c.heap.size c d) : Below a.heap.size a d :=
  (h1.trans (h2.mono h1.size)).trans (h3.mono (Nat.le_trans h1.size h2.size))
theorem below_undrew {W W' : World} (k : Below W.drew.heap.size W.drew W') : Below W.heap.size W W' := ⟨k.os, k.tape, k.output, k.size, k.block⟩
theorem below2 {a b c : World} (h1 : Below a.heap.size a b) (h2 : Below b.heap.size b c) : Below a.heap.size a c := h1.trans (h2.mono h1.size)

set_option maxHeartbeats 1000000 in
theorem radd_any (a b : Int) (w : World) (ha : Fits a) (hb : Fits b) :
    Calls Try.prog 10 #[.int .i64 a, .int .i64 b] w fun e w' => e = .returned (.tuple #[.int .i64 (ov (a + b)), .int .i64 (oe (a + b))]) ∧ Below w.heap.size w w' := by
  go_enter Try.func10, Try.ntmps10
  go_wp2_with fail
  refine (of_any a _ ha).mono ?_
  rintro e w1 ⟨v1, rfl, g1, k1⟩
  go_wp2_with fail
  refine (of_any b _ hb).mono ?_
  rintro e w2 ⟨v2, rfl, g2, k2⟩
  go_wp2_with fail
  refine (plus_any 10 (by decide) v1 v2 a b _ (g1.below k2) g2 (fits_rp ha) (fits_rp hb)).mono ?_
  rintro e w3 ⟨v3, rfl, g3, k3⟩
  go_wp2_with fail
  refine (back_any _ v3 _ g3).mono ?_
  rintro e w4 ⟨rfl, k4⟩
  go_wp2
  go_ret2
  exact ⟨rfl, (k1.trans (k2.mono k1.size)).trans ((k3.mono (Nat.le_trans k1.size k2.size)).trans (k4.mono (Nat.le_trans (Nat.le_trans k1.size k2.size) k3.size)))⟩

set_option maxHeartbeats 1000000 in
theorem rmul_any (a b : Int) (w : World) (ha : Fits a) (hb : Fits b) :
    Calls Try.prog 14 #[.int .i64 a, .int .i64 b] w fun e w' => e = .returned (.tuple #[.int .i64 (ov (a * b)), .int .i64 (oe (a * b))]) ∧ Below w.heap.size w w' := by
  go_enter Try.func14, Try.ntmps14
  go_wp2_with fail
  refine (of_any a _ ha).mono ?_
  rintro e w1 ⟨v1, rfl, g1, k1⟩
  go_wp2_with fail
  refine (of_any b _ hb).mono ?_
  rintro e w2 ⟨v2, rfl, g2, k2⟩
  go_wp2_with fail
  refine (times_any 10 (by decide) v1 v2 a b _ (g1.below k2) g2 (fits_rp ha) (fits_rp hb)).mono ?_
  rintro e w3 ⟨v3, rfl, g3, k3⟩
  go_wp2_with fail
  refine (back_any _ v3 _ g3).mono ?_
  rintro e w4 ⟨rfl, k4⟩
  go_wp2
  go_ret2
  exact ⟨rfl, (k1.trans (k2.mono k1.size)).trans ((k3.mono (Nat.le_trans k1.size k2.size)).trans (k4.mono (Nat.le_trans (Nat.le_trans k1.size k2.size) k3.size)))⟩

set_option maxHeartbeats 1000000 in
theorem rsub_any (a b : Int) (w : World) (ha : Fits a) (hb : Fits b) :
    Calls Try.prog 12 #[.int .i64 a, .int .i64 b] w fun e w' => e = .returned (.tuple #[.int .i64 (ov (a - b)), .int .i64 (oe (a - b))]) ∧ Below w.heap.size w w' := by
  go_enter Try.func12, Try.ntmps12
  go_wp2_with fail
  refine (of_any b _ hb).mono ?_
  rintro e w1 ⟨v1, rfl, g1, k1⟩
  obtain ⟨m1, s1, ds, e1, hrow, hd, ht, hm, hx⟩ := g1
  obtain ⟨av, cv, rfl⟩ := hrow.form
  subst e1
  have key : ∀ mx : Bool, sg mx (dval ds) = -b → (ds = [] → mx = false) → Two (w1.alloc (.cells #[.bool mx, .slice av ds.length cv] 35)) w1.heap.size 35 (.bool mx) (.slice av ds.length cv) ∧ IsBig (w1.alloc (.cells #[.bool mx, .slice av ds.length cv] 35)) (.agg #[.bool mx, .slice av ds.length cv]) (-b) := fun mx h1 h2 =>
    ⟨Two.new _ _ _ _, mx, _, ds, rfl, World.ownsRow.alloc hrow _, hd, ht, h2, h1.symm⟩
  have hnb : -rp 10 < -b ∧ -b < rp 10 := by have := fits_rp hb; omega
  have fin : ∀ (mx : Bool), sg mx (dval ds) = -b → (ds = [] → mx = false) → ∃ W2, w1.alloc (.cells #[.bool mx, .slice av ds.length cv] 35) = W2 ∧ Two W2 w1.heap.size 35 (.bool mx) (.slice av ds.length cv) ∧ IsBig W2 (.agg #[.bool mx, .slice av ds.length cv]) (-b) ∧ Below w.heap.size w W2 := fun mx h1 h2 =>
    ⟨_, rfl, (key mx h1 h2).1, (key mx h1 h2).2, k1.trans (((Below.refl _ w1).alloc (Nat.le_refl _) _).mono k1.size)⟩
  have FIN : Hid (∀ mx : Bool, _) := fin
  clear key fin
  have hz : ds.length = 0 → dval ds = 0 := fun h => by rw [List.eq_nil_of_length_eq_zero h]; rfl
  by_cases hl : ds.length = 0
  · have hb0 : b = 0 := by rw [hx, hz hl, sg_zero]
    have hmf : m1 = false := hm (List.eq_nil_of_length_eq_zero hl)
    obtain ⟨W2, hW2, hT, gx, kx⟩ := FIN.out false (by rw [hz hl, hb0]; rfl) (fun _ => rfl)
    subst hmf
    have hl' : decide (0 < ds.length) = false := decide_eq_false (by omega)
    clear hl hz hx hb0
    have HW2 : Hid (_ = W2) := hW2
    clear hW2 hrow hd ht hm k1
    go_wp2
    rw [HW2.out]
    clear HW2
    have c0 := hT.cell0; have c1 := hT.cell1
    go_region_with (first | (go_at_call 38; refine (of_any a _ ha).mono ?_; rintro e w3 ⟨v3, rfl, g3, k3'⟩; have k3 := below_undrew k3'; have d0 := (hT.below k3 hT.lt).cell0; have d1 := (hT.below k3 hT.lt).cell1) | (go_at_call 37; refine (plus_any 10 (by decide) v3 _ a (-b) _ ?_ ?_ (fits_rp ha) hnb).mono ?_; exact g3; exact gx.below k3; rintro e w4 ⟨v4, rfl, g4, k4⟩) | (go_at_call 36; refine (back_any _ v4 _ g4).mono ?_; rintro e w5 ⟨rfl, k5⟩))
    all_goals
      go_wp2
      go_ret2
      exact ⟨rfl, kx.trans ((below3 k3 k4 k5).mono kx.size)⟩

  · have hl' : decide (0 < ds.length) = true := decide_eq_true (by omega)
    have hne : ds ≠ [] := fun h => hl (by rw [h]; rfl)
    cases m1
    · obtain ⟨W2, hW2, hT, gx, kx⟩ := FIN.out true (by rw [hx]; rfl) (fun h => absurd h hne)
      clear hl hz hx
      have HW2 : Hid (_ = W2) := hW2
      clear hW2 hrow hd ht hm k1
      go_wp2
      rw [HW2.out]
      clear HW2
      have c0 := hT.cell0; have c1 := hT.cell1
      go_region_with (first | (go_at_call 38; refine (of_any a _ ha).mono ?_; rintro e w3 ⟨v3, rfl, g3, k3'⟩; have k3 := below_undrew k3'; have d0 := (hT.below k3 hT.lt).cell0; have d1 := (hT.below k3 hT.lt).cell1) | (go_at_call 37; refine (plus_any 10 (by decide) v3 _ a (-b) _ ?_ ?_ (fits_rp ha) hnb).mono ?_; exact g3; exact gx.below k3; rintro e w4 ⟨v4, rfl, g4, k4⟩) | (go_at_call 36; refine (back_any _ v4 _ g4).mono ?_; rintro e w5 ⟨rfl, k5⟩))
      all_goals
        go_wp2
        go_ret2
        exact ⟨rfl, kx.trans ((below3 k3 k4 k5).mono kx.size)⟩

    · obtain ⟨W2, hW2, hT, gx, kx⟩ := FIN.out false (by rw [hx, sg_true, sg_false]; omega) (fun h => absurd h hne)
      clear hl hz hx
      have HW2 : Hid (_ = W2) := hW2
      clear hW2 hrow hd ht hm k1
      go_wp2
      rw [HW2.out]
      clear HW2
      have c0 := hT.cell0; have c1 := hT.cell1
      go_region_with (first | (go_at_call 38; refine (of_any a _ ha).mono ?_; rintro e w3 ⟨v3, rfl, g3, k3'⟩; have k3 := below_undrew k3'; have d0 := (hT.below k3 hT.lt).cell0; have d1 := (hT.below k3 hT.lt).cell1) | (go_at_call 37; refine (plus_any 10 (by decide) v3 _ a (-b) _ ?_ ?_ (fits_rp ha) hnb).mono ?_; exact g3; exact gx.below k3; rintro e w4 ⟨v4, rfl, g4, k4⟩) | (go_at_call 36; refine (back_any _ v4 _ g4).mono ?_; rintro e w5 ⟨rfl, k5⟩))
      all_goals
        go_wp2
        go_ret2
        exact ⟨rfl, kx.trans ((below3 k3 k4 k5).mono kx.size)⟩


set_option maxHeartbeats 400000 in
theorem rneg_any (a : Int) (w : World) (ha : Fits a) :
    Calls Try.prog 18 #[.int .i64 a] w fun e w' => e = .returned (.tuple #[.int .i64 (ov (-a)), .int .i64 (oe (-a))]) ∧ Below w.heap.size w w' := by
  have e0 : (0 : Int) - a = -a := by omega
  have hs := rsub_any 0 a w (by unfold Fits; omega) ha
  rw [e0] at hs
  go_enter Try.func18, Try.ntmps18
  go_wp2_with (go_at_call 12; refine hs.mono ?_; rintro e w' ⟨rfl, h1⟩)
  go_ret2
  exact ⟨rfl, h1⟩

set_option maxHeartbeats 400000 in
theorem rabs_any (a : Int) (w : World) (ha : Fits a) :
    Calls Try.prog 20 #[.int .i64 a] w fun e w' => e = .returned (.tuple #[.int .i64 (ov a.natAbs), .int .i64 (oe a.natAbs)]) ∧ Below w.heap.size w w' := by
  by_cases h : a < 0
  · have e0 : (a.natAbs : Int) = -a := by omega
    rw [e0]
    go_enter Try.func20, Try.ntmps20
    go_wp2_with (go_at_call 18; refine (rneg_any a _ ha).mono ?_; rintro e w' ⟨rfl, h1⟩)
    go_ret2
    exact ⟨rfl, h1⟩
  · have e0 : (a.natAbs : Int) = a := by omega
    rw [e0, ov_yes ha, oe_yes ha]
    go_enter Try.func20, Try.ntmps20
    go_wp2
    go_ret2
    exact ⟨rfl, Below.refl _ _⟩
end Go.Proofs.Ytfgpedleiajgeaa
