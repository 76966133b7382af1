/-
  What is proved here: what (wide).narrow and ints.Mul return, at all numbers of 64 bits.
-/
import Derived.Test.YtfgpedleiajgeaaWd
namespace Go.Proofs.Ytfgpedleiajgeaa
open Go.RowKit Go.Lib

set_option maxHeartbeats 400000 in
theorem narrow_any (x : Int) (w : World) (h0 : -1569275433846670190958947355801916604025588861116008628224 ≤ x) (h1 : x < 1569275433846670190958947355801916604025588861116008628224) :
    Calls Try.prog 40 #[wide x] w fun e w' => e = .returned (.tuple #[.int .i64 (ov x), .int .i64 (oe x)]) ∧ Below w.heap.size w w' := by
  unfold wide
  have b0 := w0_in x; have b1 := w1_in x; have b2 := w2_in x
  by_cases e1 : w1 x = sw (w0 x)
  · have g1 : (w1 x != sw (w0 x)) = false := by simp [e1]
    by_cases e2 : w2 x = sw (w0 x)
    · have g2 : (w2 x != sw (w0 x)) = false := by simp [e2]
      have hf := narrow_yes h0 h1 e1 e2
      have hv := narrow_val hf
      rw [ov_yes hf, oe_yes hf]
      clear e1 e2 h0 h1 hf
      go_enter Try.func40, Try.ntmps40
      go_wp2_with (go_at_call 48; refine (sign_any _ _ b0.1 b0.2).mono ?_; rintro e w' ⟨rfl, rfl⟩)
      go_ret2
      exact ⟨ret2_eq hv rfl, (Below.refl _ _).alloc (Nat.le_refl _) _⟩
    · have g2 : (w2 x != sw (w0 x)) = true := by simp [e2]
      have hf := narrow_no2 e2
      rw [ov_no hf, oe_no hf]
      clear e1 e2 h0 h1 hf
      go_enter Try.func40, Try.ntmps40
      go_wp2_with (go_at_call 48; refine (sign_any _ _ b0.1 b0.2).mono ?_; rintro e w' ⟨rfl, rfl⟩)
      go_ret2
      exact ⟨rfl, (Below.refl _ _).alloc (Nat.le_refl _) _⟩
  · have g1 : (w1 x != sw (w0 x)) = true := by simp [e1]
    have hf := narrow_no1 e1
    rw [ov_no hf, oe_no hf]
    clear e1 h0 h1 hf
    go_enter Try.func40, Try.ntmps40
    go_wp2_with (go_at_call 48; refine (sign_any _ _ b0.1 b0.2).mono ?_; rintro e w' ⟨rfl, rfl⟩)
    go_ret2
    exact ⟨rfl, (Below.refl _ _).alloc (Nat.le_refl _) _⟩

set_option maxHeartbeats 400000 in
theorem mul_any (a b : Int) (w : World) (ha : Fits a) (hb : Fits b) :
    Calls Try.prog 13 #[.int .i64 a, .int .i64 b] w fun e w' => e = .returned (.tuple #[.int .i64 (ov (a * b)), .int .i64 (oe (a * b))]) ∧ Below w.heap.size w w' := by
  have hpb := prod_bound ha hb
  go_enter Try.func13, Try.ntmps13
  go_wp2_with fail
  refine (prod_any a b _ ha hb).mono ?_
  rintro e w1 ⟨rfl, h1⟩
  go_wp2_with fail
  refine (narrow_any (a * b) _ (by omega) (by omega)).mono ?_
  rintro e w2 ⟨rfl, h2⟩
  go_wp2
  go_ret2
  exact ⟨rfl, h1.trans (h2.mono h1.size)⟩

end Go.Proofs.Ytfgpedleiajgeaa
