/-
  What is proved here: the program's Next and Has of any ranges.
-/
import Derived.Test.YthkliicmoandmaaGreatDoorZXfj
import Derived.Test.YthkliicmoandmaaGreatDoorZEfj
import Derived.WalkMore
namespace Go.Proofs.YthkliicmoandmaaGreatDoor.Dm
set_option linter.unusedSimpArgs false
set_option linter.unusedVariables false
open Go.RowKit Go.Shelf
set_option linter.unusedVariables false

/-- Is v a value of the ranges as they are taken? -/
def hasV (l : List Rg) (v : Int) : Bool := decide (v ∈ vals (tk l))
end Go.Proofs.YthkliicmoandmaaGreatDoor.Dm

