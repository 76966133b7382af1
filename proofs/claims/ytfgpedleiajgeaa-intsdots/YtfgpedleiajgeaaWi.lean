/-
  What is proved here: what ints.Pow, ints.Root and the fixed calls of known return.
-/
import Derived.Test.YtfgpedleiajgeaaWh
import Derived.Test.YtfgpedleiajgeaaWc
import Derived.Laws.BitsLemmas
namespace Go.Proofs.Ytfgpedleiajgeaa
open Go.RowKit

/-- A power: the number, or 0; and its error. -/
def pv (a b : Int) : Int := if 0 ≤ b then ov (a ^ b.toNat) else if a = 1 then 1 else if a = -1 then 1 - 2 * (b % 2) else 0
def pe (a b : Int) : Int := if 0 ≤ b then oe (a ^ b.toNat) else if a = 0 then 11 else 0
theorem and1_i64 (n : Int) : bits .and .i64 n 1 = n % 2 := by
  have h1 : (BitVec.ofInt 64 1).toNat = 2 ^ 1 - 1 := by decide
  have key : (BitVec.ofInt 64 n &&& BitVec.ofInt 64 1).toNat = (n % ((2 ^ 64 : Nat) : Int)).toNat % 2 ^ 1 := by
    rw [BitVec.toNat_and, BitVec.toNat_ofInt, h1, Nat.and_two_pow_sub_one_eq_mod]
  show IntKind.i64.wrap ((BitVec.ofInt 64 n &&& BitVec.ofInt 64 1).toNat : Nat) = n % 2
  rw [key, IntKind.wrap_i64]
  omega

set_option maxHeartbeats 400000 in
theorem pow_any (a b : Int) (w : World) (ha : Fits a) (hb : Fits b) :
    Calls Try.prog 15 #[.int .i64 a, .int .i64 b] w fun e w' => e = .returned (.tuple #[.int .i64 (pv a b), .int .i64 (pe a b)]) ∧ Below w.heap.size w w' := by
  by_cases h : 0 ≤ b
  · obtain ⟨m, rfl⟩ := Int.eq_ofNat_of_zero_le h
    have e1 : pv a (m : Int) = ov (a ^ m) := by unfold pv; rw [if_pos h, Int.toNat_natCast]
    have e2 : pe a (m : Int) = oe (a ^ m) := by unfold pe; rw [if_pos h, Int.toNat_natCast]
    rw [e1, e2]
    have hm : m < 9223372036854775808 := by unfold Fits at hb; omega
    clear e1 e2
    go_enter Try.func15, Try.ntmps15
    go_wp2_with (go_at_call 42; refine (power_any a m _ ha hm).mono ?_; rintro e w' ⟨rfl, h1⟩)
    go_ret2
    exact ⟨rfl, h1⟩
  · by_cases h0 : a = 0
    · have e1 : pv a b = 0 := by unfold pv; rw [if_neg h, if_neg (by omega), if_neg (by omega)]
      have e2 : pe a b = 11 := by unfold pe; rw [if_neg h, if_pos h0]
      have g0 : (a == 0) = true := by simp [h0]
      rw [e1, e2]
      clear h0 e1 e2 ha hb
      go_enter Try.func15, Try.ntmps15
      go_wp2
      go_ret2
      exact ⟨rfl, Below.refl _ _⟩
    · have e2 : pe a b = 0 := by unfold pe; rw [if_neg h, if_neg h0]
      have g0 : (a == 0) = false := by simp [h0]
      rw [e2]
      by_cases h1 : a = 1
      · have e1 : pv a b = 1 := by unfold pv; rw [if_neg h, if_pos h1]
        have g1 : (a == 1) = true := by simp [h1]
        rw [e1]
        clear h0 h1 e1 e2 ha hb
        go_enter Try.func15, Try.ntmps15
        go_wp2
        go_ret2
        exact ⟨rfl, Below.refl _ _⟩
      · have g1 : (a == 1) = false := by simp [h1]
        by_cases h2 : a = -1
        · have e1 : pv a b = 1 - 2 * (b % 2) := by unfold pv; rw [if_neg h, if_neg h1, if_pos h2]
          have g2 : (a == -1) = true := by simp [h2]
          rw [e1]
          have ka := and1_i64 b
          have kb : wrap64 (1 - wrap64 (2 * (b % 2))) = 1 - 2 * (b % 2) := by unfold wrap64; omega
          have KB : Hid (wrap64 (1 - wrap64 (2 * (b % 2))) = 1 - 2 * (b % 2)) := kb
          clear h0 h1 h2 e1 e2 ha hb kb
          go_enter Try.func15, Try.ntmps15
          go_wp2
          go_ret2
          exact ⟨ret2_eq (by first | exact KB.out | rfl) rfl, Below.refl _ _⟩
        · have e1 : pv a b = 0 := by unfold pv; rw [if_neg h, if_neg h1, if_neg h2]
          have g2 : (a == -1) = false := by simp [h2]
          rw [e1]
          clear h0 h1 h2 e1 e2 ha hb
          go_enter Try.func15, Try.ntmps15
          go_wp2
          go_ret2
          exact ⟨rfl, Below.refl _ _⟩

set_option maxHeartbeats 400000 in
theorem known_any (w : World) :
    Calls Try.prog 21 #[] w fun e w' => e = .returned (.bool true) ∧ Below w.heap.size w w' := by
  have f1 : Fits 9223372036854775807 := by unfold Fits; omega
  have f2 : Fits 1 := by unfold Fits; omega
  have f3 : Fits (-7) := by unfold Fits; omega
  have f4 : Fits 2 := by unfold Fits; omega
  have f5 : Fits 10 := by unfold Fits; omega
  have k1 : oe (9223372036854775807 + 1) = 10 := by decide
  have k2 : dv (-7) 2 = -3 := by decide
  have k3 : de (-7) 2 = 0 := by decide
  have k4 : fv (-7) 2 = -4 := by decide
  have k5 : pv 2 10 = 1024 := by decide
  have k6 : pe 2 10 = 0 := by decide
  have c1 := add_any 9223372036854775807 1 w f1 f2
  have c2 := div_any (-7) 2 w f3
  have c3 := floor_any (-7) 2 w f3
  have c4 := pow_any 2 10 w f4 f5
  rw [k1] at c1; rw [k2, k3] at c2; rw [k4, k3] at c3; rw [k5, k6] at c4
  clear k1 k2 k3 k4 k5 k6 f1 f2 f3 f4 f5
  go_enter Try.func21, Try.ntmps21
  go_wp2_with fail
  refine c1.mono ?_
  rintro e w' ⟨rfl, rfl⟩
  go_wp2_with fail
  refine c2.mono ?_
  rintro e w' ⟨rfl, rfl⟩
  go_wp2_with fail
  refine c3.mono ?_
  rintro e w' ⟨rfl, rfl⟩
  go_wp2_with fail
  refine c4.mono ?_
  rintro e w' ⟨rfl, h1⟩
  go_wp2
  go_ret
  exact ⟨rfl, h1⟩

theorem pow_le32 {k : Nat} (hk : k ≤ 32) : 2 ^ k ≤ 4294967296 := Nat.pow_le_pow_right (by decide) hk
theorem or_is {r k : Nat} (hk : k + 1 ≤ 32) (h1 : r % 2 ^ (k + 1) = 0) (h2 : r + 2 ^ (k + 1) ≤ 4294967296) : bits BinOp.or IntKind.u64 (r : Int) (IntKind.u64.wrap (2 ^ k)) = ((r + 2 ^ k : Nat) : Int) := by
  have hp : 2 ^ (k + 1) = 2 * 2 ^ k := by rw [Nat.pow_succ]; omega
  have hp0 : 0 < 2 ^ k := Nat.pow_pos (by decide)
  have hw : IntKind.u64.wrap (2 ^ k) = ((2 ^ k : Nat) : Int) := by
    have := pow_le32 (k := k) (by omega)
    rw [IntKind.wrap_u64]
    have e : ((2 : Int) ^ k) = ((2 ^ k : Nat) : Int) := by simp
    rw [e]; omega
  rw [hw]
  have h64 : (2 : Int) ^ 64 = 18446744073709551616 := by decide
  have hi : ((r : Int) % 2 ^ (k + 1)) = 0 := by
    have e : ((2 : Int) ^ (k + 1)) = ((2 ^ (k + 1) : Nat) : Int) := by simp
    rw [e, ← Int.natCast_emod, h1]; rfl
  have hl : (((2 ^ k : Nat) : Int) < 2 ^ (k + 1)) := by
    have e : ((2 : Int) ^ (k + 1)) = ((2 ^ (k + 1) : Nat) : Int) := by simp
    rw [e]; omega
  rw [bits_join .u64 64 (by decide) (fun n h0 h1 => by rw [IntKind.wrap_u64]; omega) (k + 1) (r : Int) ((2 ^ k : Nat) : Int) (by omega) hi (by omega) (by omega) hl (by omega)]
  omega
theorem root_step {r k a : Nat} (h1 : r % 2 ^ (k + 1) = 0) (h2 : r + 2 ^ (k + 1) ≤ 4294967296) (h4 : a < (r + 2 ^ (k + 1)) * (r + 2 ^ (k + 1))) :
    (r + 2 ^ k) % 2 ^ k = 0 ∧ r + 2 ^ k + 2 ^ k ≤ 4294967296 ∧ a < (r + 2 ^ k + 2 ^ k) * (r + 2 ^ k + 2 ^ k) ∧ r % 2 ^ k = 0 ∧ (r + 2 ^ k) * (r + 2 ^ k) < 18446744073709551616 := by
  have hp : 2 ^ (k + 1) = 2 ^ k + 2 ^ k := by rw [Nat.pow_succ]; omega
  have hr : r % 2 ^ k = 0 := by
    have h := Nat.mod_mod_of_dvd r (show 2 ^ k ∣ 2 ^ (k + 1) from ⟨2, by rw [Nat.pow_succ]⟩)
    rw [h1] at h; rw [← h]; exact Nat.zero_mod _
  have hp0 : 0 < 2 ^ k := Nat.pow_pos (by decide)
  rw [hp, ← Nat.add_assoc] at h2 h4
  refine ⟨by rw [Nat.add_mod_right]; exact hr, h2, h4, hr, ?_⟩
  have : (r + 2 ^ k) * (r + 2 ^ k) ≤ 4294967295 * 4294967295 := Nat.mul_le_mul (by omega) (by omega)
  omega

set_option maxHeartbeats 400000 in
theorem root_any (a : Nat) (w : World) (ha : a < 9223372036854775808) :
    Calls Try.prog 33 #[.int .i64 (a : Int)] w fun e w' => (∃ r : Nat, e = .returned (.tuple #[.int .i64 (r : Int), .int .i64 0]) ∧ r * r ≤ a ∧ a < (r + 1) * (r + 1)) ∧ w' = w := by
  go_enter Try.func33, Try.ntmps33
  go_wp2
  go_loop [4, 5] (fun t i => ∃ (r k : Nat), k ≤ 32 ∧ i = .int .i64 ((k : Int) - 1) ∧ t = .int .u64 (r : Int) ∧ r % 2 ^ k = 0 ∧ r + 2 ^ k ≤ 4294967296 ∧ r * r ≤ a ∧ a < (r + 2 ^ k) * (r + 2 ^ k))
    (fun _ i => (intOf i + 1).toNat)
  case atStart => exact ⟨0, 32, by decide, rfl, rfl, rfl, by decide, by omega, by omega⟩
  case round =>
    obtain ⟨r, k, hk, rfl, rfl, h1, h2, h3, h4⟩ := hrel
    cases k with
    | zero =>
      rw [Nat.pow_zero] at h4
      have H4 : Hid (a < (r + 1) * (r + 1)) := h4
      clear h4 h1
      go_wp2
      go_ret2
      exact ⟨⟨r, rfl, h3, H4.out⟩, rfl⟩
    | succ k =>
      have e1 : ((k + 1 : Nat) : Int) - 1 = (k : Int) := by omega
      rw [e1]
      have hor := or_is hk h1 h2
      obtain ⟨q1, q2, q3, q4, q5⟩ := root_step h1 h2 h4
      obtain ⟨M, hM⟩ : ∃ M, r + 2 ^ k = M := ⟨_, rfl⟩
      rw [hM] at hor q1 q2 q3 q5
      obtain ⟨S, hS⟩ : ∃ S, M * M = S := ⟨_, rfl⟩
      rw [hS] at q5
      have hS' : (M : Int) * (M : Int) = (S : Int) := by rw [← hS]; simp
      have HS : Hid (M * M = S) := hS
      have HM : Hid (r + 2 ^ k = M) := hM
      have Q1 : Hid (M % 2 ^ k = 0) := q1
      have Q2 : Hid (M + 2 ^ k ≤ 4294967296) := q2
      have Q3 : Hid (a < (M + 2 ^ k) * (M + 2 ^ k)) := q3
      have Q4 : Hid (r % 2 ^ k = 0) := q4
      have H3 : Hid (r * r ≤ a) := h3
      clear h1 h2 h3 h4 hM hS q1 q2 q3 q4
      by_cases hle : S ≤ a
      · go_wp2
        go_round
        case rel => exact ⟨M, k, by omega, rfl, rfl, Q1.out, Q2.out, by rw [HS.out]; exact hle, Q3.out⟩
        case measure => simp [intOf]
      · go_wp2
        go_round
        case rel => exact ⟨r, k, by omega, rfl, rfl, Q4.out, by have := HM.out; have := Q2.out; have : 0 < 2 ^ k := Nat.pow_pos (by decide); omega, H3.out, by rw [HM.out, HS.out]; omega⟩
        case measure => simp [intOf]
set_option maxHeartbeats 400000 in
theorem root_neg (a : Int) (w : World) (ha : a < 0) :
    Calls Try.prog 33 #[.int .i64 a] w fun e w' => e = .returned (.tuple #[.int .i64 0, .int .i64 1]) ∧ w' = w := by
  go_enter Try.func33, Try.ntmps33
  go_wp2
  go_ret2
  exact ⟨rfl, rfl⟩
end Go.Proofs.Ytfgpedleiajgeaa
