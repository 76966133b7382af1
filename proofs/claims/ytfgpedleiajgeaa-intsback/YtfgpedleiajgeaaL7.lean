/-
  What is proved here: jigsawlaw01.IntsBack returns true at all pairs of 64-bit numbers and writes nothing that was there; no condition.
-/
import Derived.Test.YtfgpedleiajgeaaWi
namespace Go.Proofs.Ytfgpedleiajgeaa
open Go.RowKit

theorem mul_tdiv {a b : Int} (h : b ≠ 0) : (a * b).tdiv b = a := Int.mul_tdiv_cancel a h
theorem de_back {a b : Int} (ha : Fits a) (h : b ≠ 0) : de (a * b) b = 0 := by rw [de_1 h, mul_tdiv h, oe_yes ha]
theorem dv_back {a b : Int} (ha : Fits a) (h : b ≠ 0) : dv (a * b) b = a := by rw [dv_1 h, mul_tdiv h, ov_yes ha]

set_option maxRecDepth 100000 in
set_option maxHeartbeats 2000000 in
theorem back_walk (a b : Int) (w : World) (ha : Fits a) (hb : Fits b) :
    Calls Try.prog 7 #[.int .i64 a, .int .i64 b] w fun e w' => e = .returned (.bool true) ∧ Below w.heap.size w w' := by
  have c1 := add_any a b w ha hb
  have c2 := add_any b a w hb ha
  have c4 := fun w => mul_any a b w ha hb
  have c5 := fun w => mul_any b a w hb ha
  rw [show b + a = a + b from Int.add_comm _ _] at c2
  rw [show b * a = a * b from Int.mul_comm _ _] at c5
  by_cases hp : Fits (a * b)
  · have c6 := fun w => div_any (a * b) b w hp
    rw [ov_yes hp, oe_yes hp] at c4 c5
    have C4 : Hid (∀ w, _) := c4
    have C5 : Hid (∀ w, _) := c5
    clear c4 c5
    by_cases hz : b = 0
    · have g0 : (b != 0) = false := by simp [hz]
      clear c6 hz
      by_cases h1 : Fits (a + b)
      · have c3 := sub_any (a + b) b w h1 hb
        rw [show a + b - b = a from by omega, ov_yes ha, oe_yes ha] at c3
        rw [ov_yes h1, oe_yes h1] at c1 c2
        go_enter Try.func7, Try.ntmps7
        go_wp2_with fail
        refine c1.mono ?_
        rintro e w' ⟨rfl, rfl⟩
        go_wp2_with fail
        refine c2.mono ?_
        rintro e w' ⟨rfl, rfl⟩
        go_wp2_with fail
        refine c3.mono ?_
        rintro e w' ⟨rfl, rfl⟩
        clear c3
        clear c1 c2
        go_wp2_with fail
        refine (C4.out _).mono ?_
        rintro e w1 ⟨rfl, k1⟩
        go_wp2_with fail
        refine (C5.out _).mono ?_
        rintro e w2 ⟨rfl, k2⟩
        go_wp2_with fail
        refine (known_any _).mono ?_
        rintro e w4 ⟨rfl, k4⟩
        go_wp2
        go_ret
        exact ⟨rfl, (k1.trans (k2.mono k1.size)).trans (k4.mono (Nat.le_trans k1.size k2.size))⟩
      · rw [ov_no h1, oe_no h1] at c1 c2
        go_enter Try.func7, Try.ntmps7
        go_wp2_with fail
        refine c1.mono ?_
        rintro e w' ⟨rfl, rfl⟩
        go_wp2_with fail
        refine c2.mono ?_
        rintro e w' ⟨rfl, rfl⟩
        clear c1 c2
        go_wp2_with fail
        refine (C4.out _).mono ?_
        rintro e w1 ⟨rfl, k1⟩
        go_wp2_with fail
        refine (C5.out _).mono ?_
        rintro e w2 ⟨rfl, k2⟩
        go_wp2_with fail
        refine (known_any _).mono ?_
        rintro e w4 ⟨rfl, k4⟩
        go_wp2
        go_ret
        exact ⟨rfl, (k1.trans (k2.mono k1.size)).trans (k4.mono (Nat.le_trans k1.size k2.size))⟩

    · have g0 : (b != 0) = true := by simp [hz]
      rw [dv_back ha hz, de_back ha hz] at c6
      have C6 : Hid (∀ w, _) := c6
      clear c6 hz
      by_cases h1 : Fits (a + b)
      · have c3 := sub_any (a + b) b w h1 hb
        rw [show a + b - b = a from by omega, ov_yes ha, oe_yes ha] at c3
        rw [ov_yes h1, oe_yes h1] at c1 c2
        go_enter Try.func7, Try.ntmps7
        go_wp2_with fail
        refine c1.mono ?_
        rintro e w' ⟨rfl, rfl⟩
        go_wp2_with fail
        refine c2.mono ?_
        rintro e w' ⟨rfl, rfl⟩
        go_wp2_with fail
        refine c3.mono ?_
        rintro e w' ⟨rfl, rfl⟩
        clear c3
        clear c1 c2
        go_wp2_with fail
        refine (C4.out _).mono ?_
        rintro e w1 ⟨rfl, k1⟩
        go_wp2_with fail
        refine (C5.out _).mono ?_
        rintro e w2 ⟨rfl, k2⟩
        go_wp2_with fail
        refine (C6.out _).mono ?_
        rintro e w3 ⟨rfl, rfl⟩
        go_wp2_with fail
        refine (known_any _).mono ?_
        rintro e w4 ⟨rfl, k4⟩
        go_wp2
        go_ret
        exact ⟨rfl, (k1.trans (k2.mono k1.size)).trans (k4.mono (Nat.le_trans k1.size k2.size))⟩
      · rw [ov_no h1, oe_no h1] at c1 c2
        go_enter Try.func7, Try.ntmps7
        go_wp2_with fail
        refine c1.mono ?_
        rintro e w' ⟨rfl, rfl⟩
        go_wp2_with fail
        refine c2.mono ?_
        rintro e w' ⟨rfl, rfl⟩
        clear c1 c2
        go_wp2_with fail
        refine (C4.out _).mono ?_
        rintro e w1 ⟨rfl, k1⟩
        go_wp2_with fail
        refine (C5.out _).mono ?_
        rintro e w2 ⟨rfl, k2⟩
        go_wp2_with fail
        refine (C6.out _).mono ?_
        rintro e w3 ⟨rfl, rfl⟩
        go_wp2_with fail
        refine (known_any _).mono ?_
        rintro e w4 ⟨rfl, k4⟩
        go_wp2
        go_ret
        exact ⟨rfl, (k1.trans (k2.mono k1.size)).trans (k4.mono (Nat.le_trans k1.size k2.size))⟩

  · rw [ov_no hp, oe_no hp] at c4 c5
    have C4 : Hid (∀ w, _) := c4
    have C5 : Hid (∀ w, _) := c5
    clear c4 c5
    by_cases h1 : Fits (a + b)
    · have c3 := sub_any (a + b) b w h1 hb
      rw [show a + b - b = a from by omega, ov_yes ha, oe_yes ha] at c3
      rw [ov_yes h1, oe_yes h1] at c1 c2
      go_enter Try.func7, Try.ntmps7
      go_wp2_with fail
      refine c1.mono ?_
      rintro e w' ⟨rfl, rfl⟩
      go_wp2_with fail
      refine c2.mono ?_
      rintro e w' ⟨rfl, rfl⟩
      go_wp2_with fail
      refine c3.mono ?_
      rintro e w' ⟨rfl, rfl⟩
      clear c3
      clear c1 c2
      go_wp2_with fail
      refine (C4.out _).mono ?_
      rintro e w1 ⟨rfl, k1⟩
      go_wp2_with fail
      refine (C5.out _).mono ?_
      rintro e w2 ⟨rfl, k2⟩
      go_wp2_with fail
      refine (known_any _).mono ?_
      rintro e w4 ⟨rfl, k4⟩
      go_wp2
      go_ret
      exact ⟨rfl, (k1.trans (k2.mono k1.size)).trans (k4.mono (Nat.le_trans k1.size k2.size))⟩
    · rw [ov_no h1, oe_no h1] at c1 c2
      go_enter Try.func7, Try.ntmps7
      go_wp2_with fail
      refine c1.mono ?_
      rintro e w' ⟨rfl, rfl⟩
      go_wp2_with fail
      refine c2.mono ?_
      rintro e w' ⟨rfl, rfl⟩
      clear c1 c2
      go_wp2_with fail
      refine (C4.out _).mono ?_
      rintro e w1 ⟨rfl, k1⟩
      go_wp2_with fail
      refine (C5.out _).mono ?_
      rintro e w2 ⟨rfl, k2⟩
      go_wp2_with fail
      refine (known_any _).mono ?_
      rintro e w4 ⟨rfl, k4⟩
      go_wp2
      go_ret
      exact ⟨rfl, (k1.trans (k2.mono k1.size)).trans (k4.mono (Nat.le_trans k1.size k2.size))⟩
end Go.Proofs.Ytfgpedleiajgeaa
