/-
  What is proved here: jigsawlaw01.IntsPowers returns true at all pairs of 64-bit numbers and writes nothing that was there; no condition.
-/
import Derived.Test.YtfgpedleiajgeaaL6
namespace Go.Proofs.Ytfgpedleiajgeaa
open Go.RowKit

theorem sq_nat (a : Int) : a * a = ((a.natAbs * a.natAbs : Nat) : Int) := by
  rw [Int.natCast_mul]; exact (Int.natAbs_mul_self' a).symm
theorem sq_fits {a : Int} (h : Fits (a * a)) : Fits (a.natAbs : Int) := by
  rw [sq_nat a] at h
  have : a.natAbs < 4294967296 := by
    apply Classical.byContradiction; intro hx
    have : 4294967296 * 4294967296 ≤ a.natAbs * a.natAbs := Nat.mul_le_mul (by omega) (by omega)
    unfold Fits at h; omega
  unfold Fits; omega
theorem sq_root {r m : Nat} (h1 : r * r ≤ m * m) (h2 : m * m < (r + 1) * (r + 1)) : r = m := by
  have a1 : r ≤ m := by
    apply Classical.byContradiction; intro hx
    have : (m + 1) * (m + 1) ≤ r * r := Nat.mul_le_mul (by omega) (by omega)
    have e : (m + 1) * (m + 1) = m * m + m + m + 1 := by rw [Nat.add_mul, Nat.mul_add]; omega
    omega
  have a2 : m ≤ r := by
    apply Classical.byContradiction; intro hx
    have : (r + 1) * (r + 1) ≤ m * m := Nat.mul_le_mul (by omega) (by omega)
    omega
  omega
theorem pv_nat (a : Int) (m : Nat) : pv a (m : Int) = ov (a ^ m) := by unfold pv; rw [if_pos (by omega), Int.toNat_natCast]
theorem pe_nat (a : Int) (m : Nat) : pe a (m : Int) = oe (a ^ m) := by unfold pe; rw [if_pos (by omega), Int.toNat_natCast]

set_option maxRecDepth 100000 in
set_option maxHeartbeats 4000000 in
theorem powers_in (a : Int) (m : Nat) (w : World) (ha : Fits a) (hm : m < 200) :
    Calls Try.prog 8 #[.int .i64 a, .int .i64 (m : Int)] w fun e w' => e = .returned (.bool true) ∧ Below w.heap.size w w' := by
  have c1 := fun w => pow_any a (m : Int) w ha (by unfold Fits; omega)
  have c2 := fun w => pow_any a ((m : Int) + 1) w ha (by unfold Fits; omega)
  rw [pv_nat, pe_nat] at c1
  rw [show ((m : Int) + 1) = ((m + 1 : Nat) : Int) from by omega, pv_nat, pe_nat, show ((m + 1 : Nat) : Int) = ((m : Int) + 1) from by omega] at c2
  have g1 : (m : Int) < 200 := by omega
  by_cases hp : Fits (a ^ m)
  · have c3 := fun w => mul_any (a ^ m) a w hp ha
    rw [← Int.pow_succ] at c3
    rw [ov_yes hp, oe_yes hp] at c1
    have C1 : Hid (∀ w, _) := c1
    have C2 : Hid (∀ w, _) := c2
    have C3 : Hid (∀ w, _) := c3
    clear c1 c2 c3 hp
    generalize a ^ m = P at *
    generalize ov (a ^ (m + 1)) = V at *
    generalize oe (a ^ (m + 1)) = E at *
    by_cases hq : Fits (a * a)
    · have s1 := fun w => mul_any a a w ha ha
      rw [ov_yes hq, oe_yes hq, sq_nat a] at s1
      have s2 := fun w => root_any (a.natAbs * a.natAbs) w (by rw [sq_nat a] at hq; unfold Fits at hq; omega)
      obtain ⟨R, hR⟩ : ∃ R, a.natAbs * a.natAbs = R := ⟨_, rfl⟩
      rw [hR] at s1 s2
      have HR : Hid (a.natAbs * a.natAbs = R) := hR
      have s3 := fun w => abs_any a w ha
      have fa : Fits (a.natAbs : Int) := sq_fits hq
      rw [ov_yes fa, oe_yes fa] at s3
      have S1 : Hid (∀ w, _) := s1
      have S2 : Hid (∀ w, _) := s2
      have S3 : Hid (∀ w, _) := s3
      clear s1 s2 s3 fa hq hR
      go_enter Try.func8, Try.ntmps8
      go_wp2_with fail
      refine (C1.out _).mono ?_
      rintro e w1 ⟨rfl, k1⟩
      go_wp2_with fail
      refine (C2.out _).mono ?_
      rintro e w2 ⟨rfl, k2⟩
      go_wp2_with fail
      refine (C3.out _).mono ?_
      rintro e w3 ⟨rfl, k3⟩
      go_wp2_with fail
      refine (S1.out _).mono ?_
      rintro e w5 ⟨rfl, k5⟩
      go_wp2_with fail
      refine (S2.out _).mono ?_
      rintro e w' ⟨⟨r, rfl, hr1, hr2⟩, rfl⟩
      have hrr : r = a.natAbs := by rw [← HR.out] at hr1 hr2; exact sq_root hr1 hr2
      rw [hrr]
      clear hr1 hr2 hrr
      go_wp2_with fail
      refine (S3.out _).mono ?_
      rintro e w' ⟨rfl, rfl⟩
      go_wp2_with fail
      refine (known_any _).mono ?_
      rintro e w9 ⟨rfl, k9⟩
      go_wp2
      go_ret
      exact ⟨rfl, below2 (below3 k1 k2 k3) (below2 k5 k9)⟩
    · have s1 := fun w => mul_any a a w ha ha
      rw [ov_no hq, oe_no hq] at s1
      have S1 : Hid (∀ w, _) := s1
      clear s1 hq
      go_enter Try.func8, Try.ntmps8
      go_wp2_with fail
      refine (C1.out _).mono ?_
      rintro e w1 ⟨rfl, k1⟩
      go_wp2_with fail
      refine (C2.out _).mono ?_
      rintro e w2 ⟨rfl, k2⟩
      go_wp2_with fail
      refine (C3.out _).mono ?_
      rintro e w3 ⟨rfl, k3⟩
      go_wp2_with fail
      refine (S1.out _).mono ?_
      rintro e w5 ⟨rfl, k5⟩
      go_wp2_with fail
      refine (known_any _).mono ?_
      rintro e w9 ⟨rfl, k9⟩
      go_wp2
      go_ret
      exact ⟨rfl, below2 (below3 k1 k2 k3) (below2 k5 k9)⟩
  · have hp' : ¬ Fits (a ^ (m + 1)) := fits_pow_no hp (by omega)
    have c3 := fun w => mul_any 0 a w fits0 ha
    rw [ov_no hp, oe_no hp] at c1
    rw [ov_no hp', oe_no hp'] at c2
    have C1 : Hid (∀ w, _) := c1
    have C2 : Hid (∀ w, _) := c2
    have C3 : Hid (∀ w, _) := c3
    clear c1 c2 c3 hp hp'
    generalize ov (0 * a) = V at *
    generalize oe (0 * a) = E at *
    by_cases hq : Fits (a * a)
    · have s1 := fun w => mul_any a a w ha ha
      rw [ov_yes hq, oe_yes hq, sq_nat a] at s1
      have s2 := fun w => root_any (a.natAbs * a.natAbs) w (by rw [sq_nat a] at hq; unfold Fits at hq; omega)
      obtain ⟨R, hR⟩ : ∃ R, a.natAbs * a.natAbs = R := ⟨_, rfl⟩
      rw [hR] at s1 s2
      have HR : Hid (a.natAbs * a.natAbs = R) := hR
      have s3 := fun w => abs_any a w ha
      have fa : Fits (a.natAbs : Int) := sq_fits hq
      rw [ov_yes fa, oe_yes fa] at s3
      have S1 : Hid (∀ w, _) := s1
      have S2 : Hid (∀ w, _) := s2
      have S3 : Hid (∀ w, _) := s3
      clear s1 s2 s3 fa hq hR
      go_enter Try.func8, Try.ntmps8
      go_wp2_with fail
      refine (C1.out _).mono ?_
      rintro e w1 ⟨rfl, k1⟩
      go_wp2_with fail
      refine (C2.out _).mono ?_
      rintro e w2 ⟨rfl, k2⟩
      go_wp2_with fail
      refine (C3.out _).mono ?_
      rintro e w3 ⟨rfl, k3⟩
      go_wp2_with fail
      refine (S1.out _).mono ?_
      rintro e w5 ⟨rfl, k5⟩
      go_wp2_with fail
      refine (S2.out _).mono ?_
      rintro e w' ⟨⟨r, rfl, hr1, hr2⟩, rfl⟩
      have hrr : r = a.natAbs := by rw [← HR.out] at hr1 hr2; exact sq_root hr1 hr2
      rw [hrr]
      clear hr1 hr2 hrr
      go_wp2_with fail
      refine (S3.out _).mono ?_
      rintro e w' ⟨rfl, rfl⟩
      go_wp2_with fail
      refine (known_any _).mono ?_
      rintro e w9 ⟨rfl, k9⟩
      go_wp2
      go_ret
      exact ⟨rfl, below2 (below3 k1 k2 k3) (below2 k5 k9)⟩
    · have s1 := fun w => mul_any a a w ha ha
      rw [ov_no hq, oe_no hq] at s1
      have S1 : Hid (∀ w, _) := s1
      clear s1 hq
      go_enter Try.func8, Try.ntmps8
      go_wp2_with fail
      refine (C1.out _).mono ?_
      rintro e w1 ⟨rfl, k1⟩
      go_wp2_with fail
      refine (C2.out _).mono ?_
      rintro e w2 ⟨rfl, k2⟩
      go_wp2_with fail
      refine (C3.out _).mono ?_
      rintro e w3 ⟨rfl, k3⟩
      go_wp2_with fail
      refine (S1.out _).mono ?_
      rintro e w5 ⟨rfl, k5⟩
      go_wp2_with fail
      refine (known_any _).mono ?_
      rintro e w9 ⟨rfl, k9⟩
      go_wp2
      go_ret
      exact ⟨rfl, below2 (below3 k1 k2 k3) (below2 k5 k9)⟩

set_option maxRecDepth 100000 in
set_option maxHeartbeats 4000000 in
theorem powers_out (a b : Int) (w : World) (ha : Fits a) (hb : b < 0 ∨ 200 ≤ b) :
    Calls Try.prog 8 #[.int .i64 a, .int .i64 b] w fun e w' => e = .returned (.bool true) ∧ Below w.heap.size w w' := by
  rcases hb with hb | hb
  · have g0 : decide (0 ≤ b) = false := by simp; omega
    by_cases hq : Fits (a * a)
    · have s1 := fun w => mul_any a a w ha ha
      rw [ov_yes hq, oe_yes hq, sq_nat a] at s1
      have s2 := fun w => root_any (a.natAbs * a.natAbs) w (by rw [sq_nat a] at hq; unfold Fits at hq; omega)
      obtain ⟨R, hR⟩ : ∃ R, a.natAbs * a.natAbs = R := ⟨_, rfl⟩
      rw [hR] at s1 s2
      have HR : Hid (a.natAbs * a.natAbs = R) := hR
      have s3 := fun w => abs_any a w ha
      have fa : Fits (a.natAbs : Int) := sq_fits hq
      rw [ov_yes fa, oe_yes fa] at s3
      have S1 : Hid (∀ w, _) := s1
      have S2 : Hid (∀ w, _) := s2
      have S3 : Hid (∀ w, _) := s3
      clear s1 s2 s3 fa hq hR
      go_enter Try.func8, Try.ntmps8
      go_wp2_with fail
      refine (S1.out _).mono ?_
      rintro e w5 ⟨rfl, k5⟩
      go_wp2_with fail
      refine (S2.out _).mono ?_
      rintro e w' ⟨⟨r, rfl, hr1, hr2⟩, rfl⟩
      have hrr : r = a.natAbs := by rw [← HR.out] at hr1 hr2; exact sq_root hr1 hr2
      rw [hrr]
      clear hr1 hr2 hrr
      go_wp2_with fail
      refine (S3.out _).mono ?_
      rintro e w' ⟨rfl, rfl⟩
      go_wp2_with fail
      refine (known_any _).mono ?_
      rintro e w9 ⟨rfl, k9⟩
      go_wp2
      go_ret
      exact ⟨rfl, below2 k5 k9⟩
    · have s1 := fun w => mul_any a a w ha ha
      rw [ov_no hq, oe_no hq] at s1
      have S1 : Hid (∀ w, _) := s1
      clear s1 hq
      go_enter Try.func8, Try.ntmps8
      go_wp2_with fail
      refine (S1.out _).mono ?_
      rintro e w5 ⟨rfl, k5⟩
      go_wp2_with fail
      refine (known_any _).mono ?_
      rintro e w9 ⟨rfl, k9⟩
      go_wp2
      go_ret
      exact ⟨rfl, below2 k5 k9⟩
  · have g0 : decide (0 ≤ b) = true := by simp; omega
    have g1 : decide (b < 200) = false := by simp; omega
    by_cases hq : Fits (a * a)
    · have s1 := fun w => mul_any a a w ha ha
      rw [ov_yes hq, oe_yes hq, sq_nat a] at s1
      have s2 := fun w => root_any (a.natAbs * a.natAbs) w (by rw [sq_nat a] at hq; unfold Fits at hq; omega)
      obtain ⟨R, hR⟩ : ∃ R, a.natAbs * a.natAbs = R := ⟨_, rfl⟩
      rw [hR] at s1 s2
      have HR : Hid (a.natAbs * a.natAbs = R) := hR
      have s3 := fun w => abs_any a w ha
      have fa : Fits (a.natAbs : Int) := sq_fits hq
      rw [ov_yes fa, oe_yes fa] at s3
      have S1 : Hid (∀ w, _) := s1
      have S2 : Hid (∀ w, _) := s2
      have S3 : Hid (∀ w, _) := s3
      clear s1 s2 s3 fa hq hR
      go_enter Try.func8, Try.ntmps8
      go_wp2_with fail
      refine (S1.out _).mono ?_
      rintro e w5 ⟨rfl, k5⟩
      go_wp2_with fail
      refine (S2.out _).mono ?_
      rintro e w' ⟨⟨r, rfl, hr1, hr2⟩, rfl⟩
      have hrr : r = a.natAbs := by rw [← HR.out] at hr1 hr2; exact sq_root hr1 hr2
      rw [hrr]
      clear hr1 hr2 hrr
      go_wp2_with fail
      refine (S3.out _).mono ?_
      rintro e w' ⟨rfl, rfl⟩
      go_wp2_with fail
      refine (known_any _).mono ?_
      rintro e w9 ⟨rfl, k9⟩
      go_wp2
      go_ret
      exact ⟨rfl, below2 k5 k9⟩
    · have s1 := fun w => mul_any a a w ha ha
      rw [ov_no hq, oe_no hq] at s1
      have S1 : Hid (∀ w, _) := s1
      clear s1 hq
      go_enter Try.func8, Try.ntmps8
      go_wp2_with fail
      refine (S1.out _).mono ?_
      rintro e w5 ⟨rfl, k5⟩
      go_wp2_with fail
      refine (known_any _).mono ?_
      rintro e w9 ⟨rfl, k9⟩
      go_wp2
      go_ret
      exact ⟨rfl, below2 k5 k9⟩

theorem powers_walk (a b : Int) (w : World) (ha : Fits a) :
    Calls Try.prog 8 #[.int .i64 a, .int .i64 b] w fun e w' => e = .returned (.bool true) ∧ Below w.heap.size w w' := by
  by_cases h : b < 0 ∨ 200 ≤ b
  · exact powers_out a b w ha h
  · obtain ⟨m, rfl⟩ := Int.eq_ofNat_of_zero_le (show 0 ≤ b by omega)
    exact powers_in a m w ha (by omega)
end Go.Proofs.Ytfgpedleiajgeaa
