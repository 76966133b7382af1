/-
  What is proved here: what Cut of the reference returns of right ranges.
-/
import Derived.Test.YtogankopiechcaaZVb
namespace Go.Proofs.Ytogankopiechcaa.Dm
set_option linter.unusedSimpArgs false
set_option linter.unusedVariables false
open Go.RowKit Go.Shelf
set_option linter.unusedVariables false

theorem cutL_take (l : List Rg) (a b : Int) (k : Nat) (hk : k < l.length) : cutL (l.take (k + 1)) a b = cutL (l.take k) a b ++ (cut1 a b (lo l k, hi l k)).toList := by
  unfold cutL
  rw [List.take_add_one, List.getElem?_eq_getElem hk, List.filterMap_append, lo_get l k hk, hi_get l k hk]
  cases h : cut1 a b l[k] <;> simp [h]
theorem cutL_len (l : List Rg) (a b : Int) (k : Nat) : (cutL (l.take k) a b).length ≤ k := by
  unfold cutL
  have h1 := List.length_filterMap_le (cut1 a b) (l.take k)
  have h2 := List.length_take_le k l
  omega

end Go.Proofs.Ytogankopiechcaa.Dm

