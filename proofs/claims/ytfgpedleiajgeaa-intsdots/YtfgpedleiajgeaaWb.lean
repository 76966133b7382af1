/-
  What is proved here: what ints.Div, Mod, Floor and Ceil return, at all numbers of 64 bits.
-/
import Derived.Test.YtfgpedleiajgeaaWa
namespace Go.Proofs.Ytfgpedleiajgeaa
open Go.RowKit

set_option maxHeartbeats 400000 in
theorem div_any (a b : Int) (w : World) (ha : Fits a) :
    Calls Try.prog 22 #[.int .i64 a, .int .i64 b] w fun e w' => e = .returned (.tuple #[.int .i64 (dv a b), .int .i64 (de a b)]) ∧ w' = w := by
  by_cases h0 : b = 0
  · have g0 : (b == 0) = true := by simp [h0]
    have k1 := dv_0 (a := a) h0; have k2 := de_0 (a := a) h0
    rw [k1, k2]; clear k1 k2 h0
    go_enter Try.func22, Try.ntmps22
    go_wp2
    go_ret2
    exact ⟨rfl, rfl⟩
  · by_cases h1 : b = -1
    · subst h1
      rw [dv_1 h0, de_1 h0, tdiv_neg1]
      go_enter Try.func22, Try.ntmps22
      go_wp2_with (go_at_call 17; refine (neg_any a _ ha).mono ?_; rintro e w' ⟨rfl, rfl⟩)
      go_ret2
      exact ⟨rfl, rfl⟩
    · have g0 : (b == 0) = false := by simp [h0]
      have g1 : (b == -1) = false := by simp [h1]
      have k : wrap64 (a.tdiv b) = a.tdiv b := wrap_id (tdiv_fits ha h1)
      rw [dv_2 ha h0 h1, de_2 ha h0 h1]
      go_enter Try.func22, Try.ntmps22
      go_wp2
      go_ret2
      exact ⟨ret2_eq k rfl, rfl⟩

set_option maxHeartbeats 400000 in
theorem mod_any (a b : Int) (w : World) (ha : Fits a) :
    Calls Try.prog 24 #[.int .i64 a, .int .i64 b] w fun e w' => e = .returned (.tuple #[.int .i64 (mv a b), .int .i64 (me b)]) ∧ w' = w := by
  by_cases h0 : b = 0
  · have g0 : (b == 0) = true := by simp [h0]
    have k1 : mv a b = 0 := if_pos h0
    have k2 : me b = 11 := if_pos h0
    rw [k1, k2]; clear k1 k2 h0
    go_enter Try.func24, Try.ntmps24
    go_wp2
    go_ret2
    exact ⟨rfl, rfl⟩
  · have k1 : mv a b = a.tmod b := if_neg h0
    have k2 : me b = 0 := if_neg h0
    rw [k1, k2]; clear k1 k2
    by_cases h1 : b = -1
    · subst h1
      rw [tmod_neg1]
      go_enter Try.func24, Try.ntmps24
      go_wp2
      go_ret2
      exact ⟨rfl, rfl⟩
    · have g0 : (b == 0) = false := by simp [h0]
      have g1 : (b == -1) = false := by simp [h1]
      have k : wrap64 (a.tmod b) = a.tmod b := wrap_id (tmod_fits ha)
      go_enter Try.func24, Try.ntmps24
      go_wp2
      go_ret2
      exact ⟨rfl, rfl⟩


set_option maxHeartbeats 400000 in
theorem floor_any (a b : Int) (w : World) (ha : Fits a) :
    Calls Try.prog 26 #[.int .i64 a, .int .i64 b] w fun e w' => e = .returned (.tuple #[.int .i64 (fv a b), .int .i64 (de a b)]) ∧ w' = w := by
  by_cases h0 : b = 0
  · rw [fv_no (.inl h0)]
    have g0 : (de a b == 0) = false := by rw [de_0 h0]; rfl
    clear h0
    go_enter Try.func26, Try.ntmps26
    go_wp2_with (go_at_call 22; refine (div_any a b _ ha).mono ?_; rintro e w' ⟨rfl, rfl⟩)
    go_ret2
    exact ⟨rfl, rfl⟩
  · by_cases hm : a.tmod b = 0
    · rw [fv_no (.inr (.inl hm))]
      by_cases hd : de a b = 0
      · have g0 : (de a b == 0) = true := by rw [hd]; rfl
        have HD : Hid (de a b = 0) := hd
        clear hd
        go_enter Try.func26, Try.ntmps26
        go_wp2_with (go_at_call 22; refine (div_any a b _ ha).mono ?_; rintro e w' ⟨rfl, rfl⟩)
        go_ret2
        exact ⟨rfl, rfl⟩
      · have g0 : (de a b == 0) = false := by simp [hd]
        go_enter Try.func26, Try.ntmps26
        go_wp2_with (go_at_call 22; refine (div_any a b _ ha).mono ?_; rintro e w' ⟨rfl, rfl⟩)
        go_ret2
        exact ⟨rfl, rfl⟩
    · have hd := de_ok_of ha h0 hm
      have hn := dv_near ha h0 hm
      have g0 : (de a b == 0) = true := by rw [hd]; rfl
      have g1 : (!a.tmod b == 0) = true := by simp [hm]
      by_cases hs : ¬ (a < 0 ↔ b < 0)
      · rw [fv_yes h0 hm hs]
        have g2 : (!decide (a < 0) == decide (b < 0)) = true := by by_cases x : a < 0 <;> by_cases y : b < 0 <;> simp [x, y] at hs ⊢
        have k : wrap64 (dv a b - 1) = dv a b - 1 := wrap_id (by unfold Fits; omega)
        clear hs hd
        go_enter Try.func26, Try.ntmps26
        go_wp2_with (go_at_call 22; refine (div_any a b _ ha).mono ?_; rintro e w' ⟨rfl, rfl⟩)
        go_ret2
        exact ⟨rfl, rfl⟩
      · rw [fv_no (.inr (.inr (by omega)))]
        have g2 : (!decide (a < 0) == decide (b < 0)) = false := by by_cases x : a < 0 <;> by_cases y : b < 0 <;> simp [x, y] at hs ⊢
        clear hs hd
        go_enter Try.func26, Try.ntmps26
        go_wp2_with (go_at_call 22; refine (div_any a b _ ha).mono ?_; rintro e w' ⟨rfl, rfl⟩)
        go_ret2
        exact ⟨rfl, rfl⟩

set_option maxHeartbeats 400000 in
theorem ceil_any (a b : Int) (w : World) (ha : Fits a) :
    Calls Try.prog 28 #[.int .i64 a, .int .i64 b] w fun e w' => e = .returned (.tuple #[.int .i64 (cv a b), .int .i64 (de a b)]) ∧ w' = w := by
  by_cases h0 : b = 0
  · rw [cv_no (.inl h0)]
    have g0 : (de a b == 0) = false := by rw [de_0 h0]; rfl
    clear h0
    go_enter Try.func28, Try.ntmps28
    go_wp2_with (go_at_call 22; refine (div_any a b _ ha).mono ?_; rintro e w' ⟨rfl, rfl⟩)
    go_ret2
    exact ⟨rfl, rfl⟩
  · by_cases hm : a.tmod b = 0
    · rw [cv_no (.inr (.inl hm))]
      by_cases hd : de a b = 0
      · have g0 : (de a b == 0) = true := by rw [hd]; rfl
        have HD : Hid (de a b = 0) := hd
        clear hd
        go_enter Try.func28, Try.ntmps28
        go_wp2_with (go_at_call 22; refine (div_any a b _ ha).mono ?_; rintro e w' ⟨rfl, rfl⟩)
        go_ret2
        exact ⟨rfl, rfl⟩
      · have g0 : (de a b == 0) = false := by simp [hd]
        go_enter Try.func28, Try.ntmps28
        go_wp2_with (go_at_call 22; refine (div_any a b _ ha).mono ?_; rintro e w' ⟨rfl, rfl⟩)
        go_ret2
        exact ⟨rfl, rfl⟩
    · have hd := de_ok_of ha h0 hm
      have hn := dv_near ha h0 hm
      have g0 : (de a b == 0) = true := by rw [hd]; rfl
      have g1 : (!a.tmod b == 0) = true := by simp [hm]
      by_cases hs : (a < 0 ↔ b < 0)
      · rw [cv_yes h0 hm hs]
        have g2 : (decide (a < 0) == decide (b < 0)) = true := by by_cases x : a < 0 <;> by_cases y : b < 0 <;> simp [x, y] at hs ⊢
        have k : wrap64 (dv a b + 1) = dv a b + 1 := wrap_id (by unfold Fits; omega)
        clear hs hd
        go_enter Try.func28, Try.ntmps28
        go_wp2_with (go_at_call 22; refine (div_any a b _ ha).mono ?_; rintro e w' ⟨rfl, rfl⟩)
        go_ret2
        exact ⟨rfl, rfl⟩
      · rw [cv_no (.inr (.inr (by omega)))]
        have g2 : (decide (a < 0) == decide (b < 0)) = false := by by_cases x : a < 0 <;> by_cases y : b < 0 <;> simp [x, y] at hs ⊢
        clear hs hd
        go_enter Try.func28, Try.ntmps28
        go_wp2_with (go_at_call 22; refine (div_any a b _ ha).mono ?_; rintro e w' ⟨rfl, rfl⟩)
        go_ret2
        exact ⟨rfl, rfl⟩

end Go.Proofs.Ytfgpedleiajgeaa
