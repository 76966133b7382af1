/-
  What is proved here: Right, of the fixed constraint.
-/
import Derived.Test.YtaeobgajhieajaaGreatDoorDuj
namespace Go.Proofs.YtaeobgajhieajaaGreatDoor
open Go.RowKit Go.Shelf
set_option linter.unusedVariables false
set_option linter.unusedSimpArgs false

abbrev linN : List UInt8 := [105, 110, 116, 95, 108, 105, 110, 95, 108, 101]
abbrev linA : List Ag := [⟨true, [⟨-1, false, 2, []⟩, ⟨-1, false, -1, []⟩]⟩, ⟨true, [⟨0, false, 0, []⟩, ⟨3, false, 0, []⟩]⟩, ⟨false, [⟨-1, false, 5, []⟩]⟩]
theorem lin_form : (findT linN).2 = [97, 105, 44, 97, 73, 44, 105] := by kernel_rfl
theorem lin_family : (findT linN).1 = [108, 105, 110, 101, 97, 114] := by kernel_rfl
theorem lin_parts : partsF [97, 105, 44, 97, 73, 44, 105] = [[97, 105], [97, 73], [105]] := by kernel_rfl
theorem lin_shaped : eqF linA [[97, 105], [97, 73], [105]] 3 = true := by kernel_rfl
def linTk (r : Bool) : Nat → Tm → Bool
  | 1, t => if t.v = 3 then r else true
  | _, _ => true
theorem lin_taken (r : Bool) : tkL (linTk r) linA 3 = r := by cases r <;> kernel_rfl
def linPv (vs : Value) : Nat → Value
  | 1 => .agg #[vs, .bool false, .int .i64 (-1000000), .int .i64 1000000]
  | _ => .agg #[.slice none 0 0, .bool false, .int .i64 (-1000000000), .int .i64 1000000000]

set_option maxRecDepth 100000 in
set_option maxHeartbeats 4000000 in
theorem right_lin {W : World} {a8 : Option Addr} {c8 : Nat} {a9 : Option Addr} {n9 c9 : Nat} (r : Bool) (hM : MaxL W) (hS : Sa 0 W (.slice a8 3 c8) linA) (hc : 3 ≤ c8)
    (h0 : ∀ X a c, Below W.heap.size W X → Calls Tryz.prog 72 #[.agg #[.slice a9 n9 c9, .bool false, .int .i64 (-1000000), .int .i64 1000000], .agg #[.int .i64 0, .bool false, .int .i64 0, .slice a 0 c]] X fun e w' => e = .returned (.bool true) ∧ Below X.heap.size X w')
    (h3 : ∀ X a c, Below W.heap.size W X → Calls Tryz.prog 72 #[.agg #[.slice a9 n9 c9, .bool false, .int .i64 (-1000000), .int .i64 1000000], .agg #[.int .i64 3, .bool false, .int .i64 0, .slice a 0 c]] X fun e w' => e = .returned (.bool r) ∧ Below X.heap.size X w') :
    Calls Tryz.prog 18 #[.agg #[.string ⟨linN.toArray⟩, .slice a8 3 c8], .slice a9 n9 c9] W fun e w' => e = .returned (.int .i64 (if r then 0 else 50)) ∧ Below W.heap.size W w' := by
  have hp : partsF (findT linN).2 = [[97, 105], [97, 73], [105]] := by rw [lin_form]; exact lin_parts
  refine (right_walk linN a8 3 c8 a9 n9 c9 true false r true hM (by rw [lin_form]; simp) (by rw [lin_form]; simp) ?_ ?_ ?_ ?_).mono fun e w' ⟨he, hb⟩ => ⟨by rw [he]; cases r <;> rfl, hb⟩
  · intro X a n hX hss hn
    rw [hp] at hss hn
    obtain rfl : n = 3 := hn
    have := equalF (parts := [[97, 105], [97, 73], [105]]) (a9 := a) (c9 := 3) (hS.below hX) hss (by simp) (by simp) (by intro g hg; simp at hg; rcases hg with rfl | rfl | rfl <;> simp)
    rw [show (linA.length) = 3 from rfl, lin_shaped] at this
    exact this
  · intro _ X hX
    exact containsF (hS.below hX) rfl (by simp) (by intro g hg; simp at hg; rcases hg with rfl | rfl | rfl <;> simp)
  · intro _ _ X a n hX hss hn
    rw [hp] at hss hn
    obtain rfl : n = 3 := hn
    have := allTaken_any (vs := .slice a9 n9 c9) (linPv (.slice a9 n9 c9)) (linTk r) (hS.below hX) hss rfl rfl (by simp) (by intro g hg; simp at hg; rcases hg with rfl | rfl | rfl <;> simp) ?_ ?_
    · rw [lin_taken] at this
      exact this
    · intro k part Y hk hY
      match k, hk with
      | 0, hk => simp at hk; subst hk; exact place_i a9 n9 c9 Y
      | 1, hk => simp at hk; subst hk; exact place_I a9 n9 c9 Y
      | 2, hk => simp at hk; subst hk; exact place_i a9 n9 c9 Y
    · intro k g t a' c' Y hk ht hsi hY
      have hY' := hX.trans (hY.mono hX.size)
      match k, hk with
      | 0, hk => simp at hk; subst hk; simp at ht; rcases ht with rfl | rfl <;> exact (takes_num _ _ _ _ a' c' Y).mono fun e w' ⟨he, hb⟩ => ⟨by rw [he]; rfl, hb⟩
      | 1, hk =>
        simp at hk; subst hk; simp at ht
        rcases ht with rfl | rfl
        · exact (h0 Y a' c' hY')
        · exact (h3 Y a' c' hY').mono fun e w' ⟨he, hb⟩ => ⟨by rw [he]; rfl, hb⟩
      | 2, hk => simp at hk; subst hk; simp at ht; subst ht; exact (takes_num _ _ _ _ a' c' Y).mono fun e w' ⟨he, hb⟩ => ⟨by rw [he]; rfl, hb⟩
  · intro _ _ _ X hX
    exact fits_lin (m := 2) (hS.below hX) rfl (by simp) (by simp) hc (by intro g hg; simp at hg; rcases hg with rfl | rfl <;> simp)
end Go.Proofs.YtaeobgajhieajaaGreatDoor
