/-
  What is proved here: Size of any ranges, the reference's and the program's.
-/
import Derived.Test.YtfcaemfledlnnaaDoorZXe
import Derived.Deep.WholeRow
import Derived.Test.YtfcaemfledlnnaaDoorZMath
import Derived.Test.YtfcaemfledlnnaaDoorZVa
namespace Go.Proofs.YtfcaemfledlnnaaDoor.Dm
set_option linter.unusedSimpArgs false
set_option linter.unusedVariables false
open Go.RowKit Go.Shelf

/-- How many values the ranges have. -/
def sizeR (l : List Rg) : Int := (l.map fun r => r.2 - r.1 + 1).sum
theorem sizeR_take (l : List Rg) (k : Nat) (hk : k < l.length) : sizeR (l.take (k + 1)) = sizeR (l.take k) + (hi l k - lo l k + 1) := by
  unfold sizeR
  rw [List.take_add_one, List.getElem?_eq_getElem hk, List.map_append, List.sum_append, lo_get l k hk, hi_get l k hk]
  simp

end Go.Proofs.YtfcaemfledlnnaaDoor.Dm


