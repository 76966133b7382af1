/-
  What is proved here: the reference's Has of any ranges.
-/
import Derived.Test.YtogankopiechcaaZYh
import Derived.Test.YtogankopiechcaaZVa
namespace Go.Proofs.Ytogankopiechcaa.Dm
set_option linter.unusedSimpArgs false
set_option linter.unusedVariables false
open Go.RowKit Go.Shelf

/-- Is v in one of the ranges? -/
def hasR (l : List Rg) (v : Int) : Bool := l.any fun r => decide (r.1 ≤ v ∧ v ≤ r.2)
theorem hasR_take (l : List Rg) (v : Int) (k : Nat) (hk : k < l.length) : hasR (l.take (k + 1)) v = (hasR (l.take k) v || decide (lo l k ≤ v ∧ v ≤ hi l k)) := by
  unfold hasR
  rw [List.take_add_one, List.getElem?_eq_getElem hk, List.any_append, lo_get l k hk, hi_get l k hk]
  simp
theorem hasR_of (l : List Rg) (v : Int) (k : Nat) (hk : k < l.length) (h : lo l k ≤ v ∧ v ≤ hi l k) : hasR l v = true := by
  unfold hasR
  rw [List.any_eq_true]
  refine ⟨l[k], List.getElem_mem hk, ?_⟩
  rw [lo_get l k hk, hi_get l k hk] at h
  simpa using h

end Go.Proofs.Ytogankopiechcaa.Dm

