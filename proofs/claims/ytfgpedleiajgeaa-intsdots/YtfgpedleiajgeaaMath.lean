/-
  What is proved here: plain facts on whole numbers (no program): which sums, differences, products and quotients of two 64-bit numbers fit into 64 bits, said by 'ov' (the number, or 0) and 'oe' (0, or 10).
-/
import Derived.RowKit
namespace Go.Proofs.Ytfgpedleiajgeaa
open Go.RowKit

/-- A number fits into 64 bits with a sign. -/
def Fits (x : Int) : Prop := -9223372036854775808 ≤ x ∧ x ≤ 9223372036854775807
def fitsB (x : Int) : Bool := decide (-9223372036854775808 ≤ x ∧ x ≤ 9223372036854775807)
/-- The number, or 0 where it does not fit. -/
def ov (x : Int) : Int := if fitsB x = true then x else 0
/-- The error's number: 0, or 10 (ErrOver). -/
def oe (x : Int) : Int := if fitsB x = true then 0 else 10

theorem fitsB_yes {x : Int} (h : Fits x) : fitsB x = true := by unfold fitsB; exact decide_eq_true h
theorem fitsB_no {x : Int} (h : ¬ Fits x) : fitsB x = false := by unfold fitsB; exact decide_eq_false h
theorem ov_yes {x : Int} (h : Fits x) : ov x = x := by unfold ov; rw [if_pos (fitsB_yes h)]
theorem oe_yes {x : Int} (h : Fits x) : oe x = 0 := by unfold oe; rw [if_pos (fitsB_yes h)]
theorem ov_no {x : Int} (h : ¬ Fits x) : ov x = 0 := by unfold ov; rw [fitsB_no h]; rfl
theorem oe_no {x : Int} (h : ¬ Fits x) : oe x = 10 := by unfold oe; rw [fitsB_no h]; rfl
theorem fits_of_wf {x : Int} (h : (Lit.int .i64 x).wf = true) : Fits x := by
  simp [Lit.wf, IntKind.min, IntKind.max, IntKind.signed, IntKind.bits] at h
  unfold Fits; omega
theorem ov_fits (x : Int) : Fits (ov x) := by
  by_cases h : Fits x
  · rw [ov_yes h]; exact h
  · rw [ov_no h]; unfold Fits; omega
theorem oe_zero {x : Int} : oe x = 0 ↔ Fits x := by
  by_cases h : Fits x
  · simp [oe_yes h, h]
  · simp [oe_no h, h]
theorem wrap_id {x : Int} (h : Fits x) : wrap64 x = x := by unfold Fits at h; unfold wrap64; omega

theorem add_over {a b : Int} (ha : Fits a) (hb : Fits b) (h : (!decide (a < wrap64 (a + b)) == decide (0 < b)) = true) : ¬ Fits (a + b) := by
  unfold Fits at *; unfold wrap64 at h
  by_cases h1 : a < (a + b + 9223372036854775808) % 18446744073709551616 - 9223372036854775808 <;> by_cases h2 : 0 < b <;> simp [h1, h2] at h <;> omega
theorem add_fits {a b : Int} (ha : Fits a) (hb : Fits b) (h : (!decide (a < wrap64 (a + b)) == decide (0 < b)) = false) : Fits (a + b) := by
  unfold Fits at *; unfold wrap64 at h
  by_cases h1 : a < (a + b + 9223372036854775808) % 18446744073709551616 - 9223372036854775808 <;> by_cases h2 : 0 < b <;> simp [h1, h2] at h <;> omega
theorem sub_over {a b : Int} (ha : Fits a) (hb : Fits b) (h : (!decide (wrap64 (a - b) < a) == decide (0 < b)) = true) : ¬ Fits (a - b) := by
  unfold Fits at *; unfold wrap64 at h
  by_cases h1 : (a - b + 9223372036854775808) % 18446744073709551616 - 9223372036854775808 < a <;> by_cases h2 : 0 < b <;> simp [h1, h2] at h <;> omega
theorem sub_fits {a b : Int} (ha : Fits a) (hb : Fits b) (h : (!decide (wrap64 (a - b) < a) == decide (0 < b)) = false) : Fits (a - b) := by
  unfold Fits at *; unfold wrap64 at h
  by_cases h1 : (a - b + 9223372036854775808) % 18446744073709551616 - 9223372036854775808 < a <;> by_cases h2 : 0 < b <;> simp [h1, h2] at h <;> omega

theorem tdiv_small {a b : Int} (ha : Fits a) (h0 : b ≠ 0) (h1 : b ≠ 1) (h2 : b ≠ -1) : -4611686018427387904 ≤ a.tdiv b ∧ a.tdiv b ≤ 4611686018427387904 := by
  have e : (a.tdiv b).natAbs = a.natAbs / b.natAbs := Int.natAbs_tdiv a b
  have l : a.natAbs / b.natAbs ≤ a.natAbs / 2 := Nat.div_le_div_left (by omega) (by omega)
  unfold Fits at ha
  omega
theorem tdiv_fits {a b : Int} (ha : Fits a) (h2 : b ≠ -1) : Fits (a.tdiv b) := by
  by_cases h0 : b = 0
  · subst h0; rw [Int.tdiv_zero]; unfold Fits; omega
  · by_cases h1 : b = 1
    · subst h1; rw [Int.tdiv_one]; exact ha
    · have := tdiv_small ha h0 h1 h2; unfold Fits; omega
theorem tmod_fits {a b : Int} (ha : Fits a) : Fits (a.tmod b) := by
  have e : (a.tmod b).natAbs = a.natAbs % b.natAbs := Int.natAbs_tmod a b
  have l : a.natAbs % b.natAbs ≤ a.natAbs := Nat.mod_le _ _
  unfold Fits at *
  by_cases h : a = -9223372036854775808
  · subst h
    have : (-9223372036854775808 : Int).tmod b ≤ 0 := by
      have := Int.tmod_nonneg (a := 9223372036854775808) b (by omega)
      have e2 : (-9223372036854775808 : Int).tmod b = -((9223372036854775808 : Int).tmod b) := Int.neg_tmod _ _
      omega
    omega
  · omega

/-- The quotient towards 0, its error; what is left, its error; the quotient down, up. -/
def dv (a b : Int) : Int := if b = 0 then 0 else ov (a.tdiv b)
def de (a b : Int) : Int := if b = 0 then 11 else oe (a.tdiv b)
def mv (a b : Int) : Int := if b = 0 then 0 else a.tmod b
def me (b : Int) : Int := if b = 0 then 11 else 0
def fv (a b : Int) : Int := if b ≠ 0 ∧ a.tmod b ≠ 0 ∧ ¬ (a < 0 ↔ b < 0) then dv a b - 1 else dv a b
def cv (a b : Int) : Int := if b ≠ 0 ∧ a.tmod b ≠ 0 ∧ (a < 0 ↔ b < 0) then dv a b + 1 else dv a b

theorem dv_0 {a b : Int} (h : b = 0) : dv a b = 0 := if_pos h
theorem de_0 {a b : Int} (h : b = 0) : de a b = 11 := if_pos h
theorem dv_1 {a b : Int} (h : b ≠ 0) : dv a b = ov (a.tdiv b) := if_neg h
theorem de_1 {a b : Int} (h : b ≠ 0) : de a b = oe (a.tdiv b) := if_neg h
theorem dv_2 {a b : Int} (ha : Fits a) (h : b ≠ 0) (h2 : b ≠ -1) : dv a b = a.tdiv b := by rw [dv_1 h, ov_yes (tdiv_fits ha h2)]
theorem de_2 {a b : Int} (ha : Fits a) (h : b ≠ 0) (h2 : b ≠ -1) : de a b = 0 := by rw [de_1 h, oe_yes (tdiv_fits ha h2)]
theorem tdiv_neg1 (a : Int) : a.tdiv (-1) = -a := by
  have := Int.tdiv_neg a 1; rw [Int.tdiv_one] at this; exact this
theorem tmod_neg1 (a : Int) : a.tmod (-1) = 0 := by
  have := Int.tmod_neg a 1; rw [Int.tmod_one] at this; exact this
theorem not1_of_tmod {a b : Int} (h : a.tmod b ≠ 0) : b ≠ 1 ∧ b ≠ -1 := by
  constructor
  · intro e; subst e; exact h (Int.tmod_one a)
  · intro e; subst e; exact h (tmod_neg1 a)
theorem dv_fits (a b : Int) : Fits (dv a b) := by
  by_cases h : b = 0
  · rw [dv_0 h]; unfold Fits; omega
  · rw [dv_1 h]; exact ov_fits _
theorem dv_near {a b : Int} (ha : Fits a) (h0 : b ≠ 0) (h : a.tmod b ≠ 0) : -4611686018427387904 ≤ dv a b ∧ dv a b ≤ 4611686018427387904 := by
  have h1 := not1_of_tmod h
  rw [dv_2 ha h0 h1.2]; exact tdiv_small ha h0 h1.1 h1.2
theorem fv_no {a b : Int} (h : b = 0 ∨ a.tmod b = 0 ∨ (a < 0 ↔ b < 0)) : fv a b = dv a b := by
  unfold fv; rw [if_neg]; rintro ⟨h1, h2, h3⟩; rcases h with h | h | h
  · exact h1 h
  · exact h2 h
  · exact h3 h
theorem fv_yes {a b : Int} (h1 : b ≠ 0) (h2 : a.tmod b ≠ 0) (h3 : ¬ (a < 0 ↔ b < 0)) : fv a b = dv a b - 1 := by
  unfold fv; rw [if_pos ⟨h1, h2, h3⟩]
theorem cv_no {a b : Int} (h : b = 0 ∨ a.tmod b = 0 ∨ ¬ (a < 0 ↔ b < 0)) : cv a b = dv a b := by
  unfold cv; rw [if_neg]; rintro ⟨h1, h2, h3⟩; rcases h with h | h | h
  · exact h1 h
  · exact h2 h
  · exact h h3
theorem cv_yes {a b : Int} (h1 : b ≠ 0) (h2 : a.tmod b ≠ 0) (h3 : a < 0 ↔ b < 0) : cv a b = dv a b + 1 := by
  unfold cv; rw [if_pos ⟨h1, h2, h3⟩]
theorem de_ok_of {a b : Int} (ha : Fits a) (h0 : b ≠ 0) (h : a.tmod b ≠ 0) : de a b = 0 := de_2 ha h0 (not1_of_tmod h).2
/-- A remainder that is not 0 has the sign of the number that was divided. -/
theorem tmod_sign {a b : Int} (h : a.tmod b ≠ 0) : a.tmod b < 0 ↔ a < 0 := by
  constructor
  · intro hl
    apply Classical.byContradiction; intro hn
    have := Int.tmod_nonneg (a := a) b (by omega); omega
  · intro hl
    have := Int.tmod_nonneg (a := -a) b (by omega)
    rw [Int.neg_tmod] at this; omega
theorem dv_bad {a b : Int} (h : de a b ≠ 0) : dv a b = 0 := by
  by_cases h0 : b = 0
  · exact dv_0 h0
  · rw [dv_1 h0]; rw [de_1 h0] at h; exact ov_no (fun hf => h (oe_yes hf))
theorem ret2_eq {a b c d : Int} (h1 : a = c) (h2 : b = d) : Ending.returned (.tuple #[.int .i64 a, .int .i64 b]) = .returned (.tuple #[.int .i64 c, .int .i64 d]) := by rw [h1, h2]

/-! ### Three words of 64 bits: a whole number in two's complement -/
def w0 (x : Int) : Int := x % 18446744073709551616
def w1 (x : Int) : Int := x / 18446744073709551616 % 18446744073709551616
def w2 (x : Int) : Int := x / 340282366920938463463374607431768211456 % 18446744073709551616
def wide (x : Int) : Value := .agg #[.int .u64 (w0 x), .int .u64 (w1 x), .int .u64 (w2 x)]
/-- All bits as the highest one. -/
def sw (x : Int) : Int := if x < 9223372036854775808 then 0 else 18446744073709551615
theorem w0_in (x : Int) : 0 ≤ w0 x ∧ w0 x < 18446744073709551616 := by unfold w0; omega
theorem w1_in (x : Int) : 0 ≤ w1 x ∧ w1 x < 18446744073709551616 := by unfold w1; omega
theorem w2_in (x : Int) : 0 ≤ w2 x ∧ w2 x < 18446744073709551616 := by unfold w2; omega
theorem sw_w1 {x : Int} (h0 : -85070591730234615865843651857942052864 ≤ x) (h1 : x ≤ 85070591730234615865843651857942052864) : sw (w1 x) = w2 x := by
  unfold sw w1 w2; split <;> omega
theorem prod_bound {a b : Int} (ha : Fits a) (hb : Fits b) : -85070591730234615865843651857942052864 ≤ a * b ∧ a * b ≤ 85070591730234615865843651857942052864 := by
  have h : (a * b).natAbs = a.natAbs * b.natAbs := Int.natAbs_mul a b
  unfold Fits at ha hb
  have l : a.natAbs * b.natAbs ≤ 9223372036854775808 * 9223372036854775808 := Nat.mul_le_mul (by omega) (by omega)
  omega
theorem mod_cases {a : Int} (ha : Fits a) : a % 18446744073709551616 = if a < 0 then a + 18446744073709551616 else a := by
  unfold Fits at ha; split <;> omega
/-- The lowest word of a product of what the numbers are without a sign. -/
theorem lo_is (a b : Int) : a % 18446744073709551616 * (b % 18446744073709551616) % 18446744073709551616 = w0 (a * b) := by
  unfold w0; rw [← Int.mul_emod]
theorem hi_nn {a b : Int} (ha : Fits a) (hb : Fits b) (sa : a < 0) (sb : b < 0) :
    ((a % 18446744073709551616 * (b % 18446744073709551616) / 18446744073709551616 - b % 18446744073709551616) % 18446744073709551616 - a % 18446744073709551616) % 18446744073709551616 = w1 (a * b) := by
  have ea := mod_cases ha; have eb := mod_cases hb
  rw [if_pos sa] at ea; rw [if_pos sb] at eb
  rw [ea, eb]
  have e : (a + 18446744073709551616) * (b + 18446744073709551616) = a * b + (a + b + 18446744073709551616) * 18446744073709551616 := by
    rw [Int.add_mul, Int.mul_add, Int.mul_add]; omega
  rw [e]; unfold w1
  generalize a * b = p
  omega
theorem hi_np {a b : Int} (ha : Fits a) (hb : Fits b) (sa : a < 0) (sb : ¬ b < 0) :
    (a % 18446744073709551616 * (b % 18446744073709551616) / 18446744073709551616 - b % 18446744073709551616) % 18446744073709551616 = w1 (a * b) := by
  have ea := mod_cases ha; have eb := mod_cases hb
  rw [if_pos sa] at ea; rw [if_neg sb] at eb
  rw [ea, eb]
  have e : (a + 18446744073709551616) * b = a * b + b * 18446744073709551616 := by
    rw [Int.add_mul]; omega
  rw [e]; unfold w1
  generalize a * b = p
  omega
theorem hi_pn {a b : Int} (ha : Fits a) (hb : Fits b) (sa : ¬ a < 0) (sb : b < 0) :
    (a % 18446744073709551616 * (b % 18446744073709551616) / 18446744073709551616 - a % 18446744073709551616) % 18446744073709551616 = w1 (a * b) := by
  have ea := mod_cases ha; have eb := mod_cases hb
  rw [if_neg sa] at ea; rw [if_pos sb] at eb
  rw [ea, eb]
  have e : a * (b + 18446744073709551616) = a * b + a * 18446744073709551616 := by
    rw [Int.mul_add]
  rw [e]; unfold w1
  generalize a * b = p
  omega
theorem hi_pp {a b : Int} (ha : Fits a) (hb : Fits b) (sa : ¬ a < 0) (sb : ¬ b < 0) :
    a % 18446744073709551616 * (b % 18446744073709551616) / 18446744073709551616 = w1 (a * b) := by
  have ea := mod_cases ha; have eb := mod_cases hb
  rw [if_neg sa] at ea; rw [if_neg sb] at eb
  rw [ea, eb]
  have h := prod_bound ha hb
  have h' : 0 ≤ a * b := Int.mul_nonneg (by omega) (by omega)
  unfold w1
  generalize a * b = p at *
  omega
/-- Narrowing: a number of three words fits into one just where the upper words are its sign. -/
theorem narrow_yes {x : Int} (h0 : -1569275433846670190958947355801916604025588861116008628224 ≤ x) (h1 : x < 1569275433846670190958947355801916604025588861116008628224) (e1 : w1 x = sw (w0 x)) (e2 : w2 x = sw (w0 x)) : Fits x := by
  unfold w1 w0 sw at e1; unfold w2 w0 sw at e2; unfold Fits
  split at e1 <;> split at e2 <;> omega
theorem narrow_no1 {x : Int} (e1 : w1 x ≠ sw (w0 x)) : ¬ Fits x := by
  unfold w1 w0 sw at e1; unfold Fits
  split at e1 <;> omega
theorem narrow_no2 {x : Int} (e1 : w2 x ≠ sw (w0 x)) : ¬ Fits x := by
  unfold w2 w0 sw at e1; unfold Fits
  split at e1 <;> omega
theorem narrow_val {x : Int} (h : Fits x) : wrap64 (w0 x) = x := by
  unfold Fits at h; unfold w0 wrap64; omega
end Go.Proofs.Ytfgpedleiajgeaa
