/-
  What is proved here: plain mathematics of bits that are read 64 at a time, wherever they begin.
-/
import Derived.Test.YtgcgomofmicchaaDoorXh
namespace Go.Proofs.YtgcgomofmicchaaDoor
open Go.RowKit

/-- Bit number k of all words. -/
def bt (ws : List Nat) (k : Int) : Bool := if k < 0 then false else (wat ws (k.toNat / 64)).testBit (k.toNat % 64)
/-- The 64 bits from n on. -/
def frm (ws : List Nat) (n : Int) : Nat := (wai ws (n / 64) / 2 ^ (n % 64).toNat) ||| (wai ws (n / 64 + 1) * 2 ^ (64 - (n % 64).toNat) % 2 ^ 64)
theorem wai_lt {ws : List Nat} (h : ∀ k, wat ws k < 18446744073709551616) (k : Int) : wai ws k < 2 ^ 64 := by
  unfold wai
  split
  · decide
  · exact h _
theorem frm_lt {ws : List Nat} (h : ∀ k, wat ws k < 18446744073709551616) (n : Int) : frm ws n < 2 ^ 64 := by
  unfold frm
  refine Nat.or_lt_two_pow ?_ (Nat.mod_lt _ (by decide))
  exact Nat.lt_of_le_of_lt (Nat.div_le_self _ _) (wai_lt h _)
theorem wai_bit (ws : List Nat) (k : Int) (j : Nat) (hj : j < 64) : (wai ws k).testBit j = bt ws (64 * k + j) := by
  unfold wai bt
  by_cases h : k < 0
  · rw [if_pos h, if_pos (by omega)]; exact Nat.zero_testBit j
  · rw [if_neg h, if_neg (by omega)]
    congr 2 <;> omega
theorem frm_bit {ws : List Nat} (h : ∀ k, wat ws k < 18446744073709551616) (n : Int) (j : Nat) (hj : j < 64) : (frm ws n).testBit j = bt ws (n + j) := by
  obtain ⟨r, hr⟩ : ∃ r, (n % 64).toNat = r := ⟨_, rfl⟩
  have hr64 : r < 64 := by omega
  unfold frm
  rw [hr, Nat.testBit_or, Nat.testBit_div_two_pow, Nat.testBit_mod_two_pow, Nat.testBit_mul_two_pow]
  by_cases hc : r + j < 64
  · have h2 : decide (64 - r ≤ j) = false := by simp; omega
    rw [h2, Nat.add_comm j r, wai_bit ws _ (r + j) hc]
    have : 64 * (n / 64) + ((r + j : Nat) : Int) = n + j := by omega
    rw [this]; simp
  · have h1 : (wai ws (n / 64)).testBit (j + r) = false := Nat.testBit_lt_two_pow (Nat.lt_of_lt_of_le (wai_lt h _) (Nat.pow_le_pow_right (by decide) (by omega)))
    have h2 : decide (64 - r ≤ j) = true := by simp; omega
    rw [h1, h2, wai_bit ws _ (j - (64 - r)) (by omega)]
    have : 64 * (n / 64 + 1) + ((j - (64 - r) : Nat) : Int) = n + j := by omega
    rw [this]; simp [hj]
theorem and63_i64 (n : Int) : bits .and .i64 n 63 = n % 64 := by
  have h1 : (BitVec.ofInt 64 63).toNat = 2 ^ 6 - 1 := by decide
  have key : (BitVec.ofInt 64 n &&& BitVec.ofInt 64 63).toNat = (n % ((2 ^ 64 : Nat) : Int)).toNat % 2 ^ 6 := by
    rw [BitVec.toNat_and, BitVec.toNat_ofInt, h1, Nat.and_two_pow_sub_one_eq_mod]
  show IntKind.i64.wrap ((BitVec.ofInt 64 n &&& BitVec.ofInt 64 63).toNat : Nat) = n % 64
  rw [key, IntKind.wrap_i64]
  omega
theorem wrap_mul (x r : Nat) : IntKind.u64.wrap ((x : Int) * 2 ^ r) = ((x * 2 ^ r % 2 ^ 64 : Nat) : Int) := by
  have e : (x : Int) * 2 ^ r = ((x * 2 ^ r : Nat) : Int) := by simp
  rw [e, IntKind.wrap_u64]
  generalize x * 2 ^ r = p
  omega
theorem div_pow (x r : Nat) : (x : Int) / 2 ^ r = ((x / 2 ^ r : Nat) : Int) := by simp
end Go.Proofs.YtgcgomofmicchaaDoor
