/-
  What is proved here: lists of ranges that rise and do not touch: what is cut out of them, what is not in them, and their runs.
-/
import Derived.Test.YtfcaemfledlnnaaDoorZMath
namespace Go.Proofs.YtfcaemfledlnnaaDoor.Dm
set_option linter.unusedSimpArgs false
set_option linter.unusedVariables false
set_option linter.unusedVariables false

theorem lo_get (l : List Rg) (i : Nat) (h : i < l.length) : lo l i = l[i].1 := by unfold lo; rw [List.getElem?_eq_getElem h]; rfl
theorem hi_get (l : List Rg) (i : Nat) (h : i < l.length) : hi l i = l[i].2 := by unfold hi; rw [List.getElem?_eq_getElem h]; rfl
end Go.Proofs.YtfcaemfledlnnaaDoor.Dm


