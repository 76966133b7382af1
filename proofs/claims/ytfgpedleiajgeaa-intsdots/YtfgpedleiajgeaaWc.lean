/-
  What is proved here: what the reference's Div, Mod, Floor and Ceil return, at all numbers of 64 bits.
-/
import Derived.Test.YtfgpedleiajgeaaWb
namespace Go.Proofs.Ytfgpedleiajgeaa
open Go.RowKit

set_option maxHeartbeats 400000 in
theorem rdiv_any (a b : Int) (w : World) (ha : Fits a) :
    Calls Try.prog 23 #[.int .i64 a, .int .i64 b] w fun e w' => e = .returned (.tuple #[.int .i64 (dv a b), .int .i64 (de a b)]) ∧ w' = w := by
  by_cases h0 : b = 0
  · have g0 : (b == 0) = true := by simp [h0]
    have k1 := dv_0 (a := a) h0; have k2 := de_0 (a := a) h0
    rw [k1, k2]; clear k1 k2 h0
    go_enter Try.func23, Try.ntmps23
    go_wp2
    go_ret2
    exact ⟨rfl, rfl⟩
  · have g0 : (b == 0) = false := by simp [h0]
    by_cases h1 : b = -1
    · have g1 : (b == -1) = true := by simp [h1]
      by_cases h2 : a = -9223372036854775808
      · have g2 : (a == -9223372036854775808) = true := by simp [h2]
        have k : ¬ Fits (a.tdiv b) := by rw [h1, h2, tdiv_neg1]; unfold Fits; omega
        rw [dv_1 h0, de_1 h0, ov_no k, oe_no k]
        clear h0 h1 h2 k ha
        go_enter Try.func23, Try.ntmps23
        go_wp2
        go_ret2
        exact ⟨rfl, rfl⟩
      · have g2 : (a == -9223372036854775808) = false := by simp [h2]
        have k : Fits (a.tdiv b) := by rw [h1, tdiv_neg1]; unfold Fits at *; omega
        rw [dv_1 h0, de_1 h0, ov_yes k, oe_yes k]
        have k' := wrap_id k
        clear h1 h2 k ha
        go_enter Try.func23, Try.ntmps23
        go_wp2
        go_ret2
        exact ⟨ret2_eq k' rfl, rfl⟩
    · have g1 : (b == -1) = false := by simp [h1]
      have k' := wrap_id (tdiv_fits ha h1)
      rw [dv_2 ha h0 h1, de_2 ha h0 h1]
      by_cases h2 : a = -9223372036854775808
      · have g2 : (a == -9223372036854775808) = true := by simp [h2]
        have H2 : Hid (a = -9223372036854775808) := h2
        clear h1 h2 ha
        go_enter Try.func23, Try.ntmps23
        go_wp2
        go_ret2
        exact ⟨ret2_eq k' rfl, rfl⟩
      · have g2 : (a == -9223372036854775808) = false := by simp [h2]
        clear h1 h2 ha
        go_enter Try.func23, Try.ntmps23
        go_wp2
        go_ret2
        exact ⟨ret2_eq k' rfl, rfl⟩

set_option maxHeartbeats 400000 in
theorem rmod_any (a b : Int) (w : World) (_ha : Fits a) :
    Calls Try.prog 25 #[.int .i64 a, .int .i64 b] w fun e w' => e = .returned (.tuple #[.int .i64 (mv a b), .int .i64 (me b)]) ∧ w' = w := by
  by_cases h0 : b = 0
  · have g0 : (b == 0) = true := by simp [h0]
    have k1 : mv a b = 0 := if_pos h0
    have k2 : me b = 11 := if_pos h0
    rw [k1, k2]; clear k1 k2 h0
    go_enter Try.func25, Try.ntmps25
    go_wp2
    go_ret2
    exact ⟨rfl, rfl⟩
  · have k1 : mv a b = a.tmod b := if_neg h0
    have k2 : me b = 0 := if_neg h0
    rw [k1, k2]; clear k1 k2
    by_cases h1 : b = -1
    · subst h1
      rw [tmod_neg1]
      go_enter Try.func25, Try.ntmps25
      go_wp2
      go_ret2
      exact ⟨rfl, rfl⟩
    · have g0 : (b == 0) = false := by simp [h0]
      have g1 : (b == -1) = false := by simp [h1]
      go_enter Try.func25, Try.ntmps25
      go_wp2
      go_ret2
      exact ⟨rfl, rfl⟩

set_option maxHeartbeats 400000 in
theorem rfloor_any (a b : Int) (w : World) (ha : Fits a) :
    Calls Try.prog 27 #[.int .i64 a, .int .i64 b] w fun e w' => e = .returned (.tuple #[.int .i64 (fv a b), .int .i64 (de a b)]) ∧ w' = w := by
  by_cases hd : de a b = 0
  · have h0 : b ≠ 0 := fun h => by rw [de_0 h] at hd; omega
    have k1 : mv a b = a.tmod b := if_neg h0
    have g0 : (de a b != 0) = false := by rw [hd]; rfl
    have HD : Hid (de a b = 0) := hd
    clear hd
    by_cases hm : a.tmod b = 0
    · rw [fv_no (.inr (.inl hm))]
      have g1 : (mv a b != 0) = false := by rw [k1, hm]; rfl
      clear k1
      rw [HD.out]
      go_enter Try.func27, Try.ntmps27
      go_wp2_with (first | (go_at_call 23; refine (rdiv_any a b _ ha).mono ?_; rintro e w' ⟨rfl, rfl⟩) | (go_at_call 25; refine (rmod_any a b _ ha).mono ?_; rintro e w' ⟨rfl, rfl⟩))
      go_ret2
      exact ⟨rfl, rfl⟩
    · have hn := dv_near ha h0 hm
      have hg := tmod_sign hm
      have g1 : (mv a b != 0) = true := by rw [k1]; simp [hm]
      by_cases hs : ¬ (a < 0 ↔ b < 0)
      · rw [fv_yes h0 hm hs]
        have g2 : (!decide (mv a b < 0) == decide (b < 0)) = true := by rw [k1]; by_cases x : a < 0 <;> by_cases y : b < 0 <;> simp [x, y, hg] at hs ⊢
        have k : wrap64 (dv a b - 1) = dv a b - 1 := wrap_id (by unfold Fits; omega)
        clear hs k1 hg
        rw [HD.out]
        go_enter Try.func27, Try.ntmps27
        go_wp2_with (first | (go_at_call 23; refine (rdiv_any a b _ ha).mono ?_; rintro e w' ⟨rfl, rfl⟩) | (go_at_call 25; refine (rmod_any a b _ ha).mono ?_; rintro e w' ⟨rfl, rfl⟩))
        go_ret2
        exact ⟨rfl, rfl⟩
      · rw [fv_no (.inr (.inr (by omega)))]
        have g2 : (!decide (mv a b < 0) == decide (b < 0)) = false := by rw [k1]; by_cases x : a < 0 <;> by_cases y : b < 0 <;> simp [x, y, hg] at hs ⊢
        clear hs k1 hg
        rw [HD.out]
        go_enter Try.func27, Try.ntmps27
        go_wp2_with (first | (go_at_call 23; refine (rdiv_any a b _ ha).mono ?_; rintro e w' ⟨rfl, rfl⟩) | (go_at_call 25; refine (rmod_any a b _ ha).mono ?_; rintro e w' ⟨rfl, rfl⟩))
        go_ret2
        exact ⟨rfl, rfl⟩
  · have hz : fv a b = 0 := by
      rw [fv_no]
      · exact dv_bad hd
      · by_cases h0 : b = 0
        · exact .inl h0
        · refine .inr (.inl (Classical.byContradiction fun hm => hd (de_ok_of ha h0 hm)))
    rw [hz]
    have g0 : (de a b != 0) = true := by simp [hd]
    clear hd hz
    go_enter Try.func27, Try.ntmps27
    go_wp2_with (go_at_call 23; refine (rdiv_any a b _ ha).mono ?_; rintro e w' ⟨rfl, rfl⟩)
    go_ret2
    exact ⟨rfl, rfl⟩

set_option maxHeartbeats 400000 in
theorem rceil_any (a b : Int) (w : World) (ha : Fits a) :
    Calls Try.prog 29 #[.int .i64 a, .int .i64 b] w fun e w' => e = .returned (.tuple #[.int .i64 (cv a b), .int .i64 (de a b)]) ∧ w' = w := by
  by_cases hd : de a b = 0
  · have h0 : b ≠ 0 := fun h => by rw [de_0 h] at hd; omega
    have k1 : mv a b = a.tmod b := if_neg h0
    have g0 : (de a b != 0) = false := by rw [hd]; rfl
    have HD : Hid (de a b = 0) := hd
    clear hd
    by_cases hm : a.tmod b = 0
    · rw [cv_no (.inr (.inl hm))]
      have g1 : (mv a b != 0) = false := by rw [k1, hm]; rfl
      clear k1
      rw [HD.out]
      go_enter Try.func29, Try.ntmps29
      go_wp2_with (first | (go_at_call 23; refine (rdiv_any a b _ ha).mono ?_; rintro e w' ⟨rfl, rfl⟩) | (go_at_call 25; refine (rmod_any a b _ ha).mono ?_; rintro e w' ⟨rfl, rfl⟩))
      go_ret2
      exact ⟨rfl, rfl⟩
    · have hn := dv_near ha h0 hm
      have hg := tmod_sign hm
      have g1 : (mv a b != 0) = true := by rw [k1]; simp [hm]
      by_cases hs : (a < 0 ↔ b < 0)
      · rw [cv_yes h0 hm hs]
        have g2 : (decide (mv a b < 0) == decide (b < 0)) = true := by rw [k1]; by_cases x : a < 0 <;> by_cases y : b < 0 <;> simp [x, y, hg] at hs ⊢
        have k : wrap64 (dv a b + 1) = dv a b + 1 := wrap_id (by unfold Fits; omega)
        clear hs k1 hg
        rw [HD.out]
        go_enter Try.func29, Try.ntmps29
        go_wp2_with (first | (go_at_call 23; refine (rdiv_any a b _ ha).mono ?_; rintro e w' ⟨rfl, rfl⟩) | (go_at_call 25; refine (rmod_any a b _ ha).mono ?_; rintro e w' ⟨rfl, rfl⟩))
        go_ret2
        exact ⟨rfl, rfl⟩
      · rw [cv_no (.inr (.inr (by omega)))]
        have g2 : (decide (mv a b < 0) == decide (b < 0)) = false := by rw [k1]; by_cases x : a < 0 <;> by_cases y : b < 0 <;> simp [x, y, hg] at hs ⊢
        clear hs k1 hg
        rw [HD.out]
        go_enter Try.func29, Try.ntmps29
        go_wp2_with (first | (go_at_call 23; refine (rdiv_any a b _ ha).mono ?_; rintro e w' ⟨rfl, rfl⟩) | (go_at_call 25; refine (rmod_any a b _ ha).mono ?_; rintro e w' ⟨rfl, rfl⟩))
        go_ret2
        exact ⟨rfl, rfl⟩
  · have hz : cv a b = 0 := by
      rw [cv_no]
      · exact dv_bad hd
      · by_cases h0 : b = 0
        · exact .inl h0
        · refine .inr (.inl (Classical.byContradiction fun hm => hd (de_ok_of ha h0 hm)))
    rw [hz]
    have g0 : (de a b != 0) = true := by simp [hd]
    clear hd hz
    go_enter Try.func29, Try.ntmps29
    go_wp2_with (go_at_call 23; refine (rdiv_any a b _ ha).mono ?_; rintro e w' ⟨rfl, rfl⟩)
    go_ret2
    exact ⟨rfl, rfl⟩

end Go.Proofs.Ytfgpedleiajgeaa
