/-
  What is proved here: what dom.overlaps, dom.Cut and dom.Both return of any ranges.
-/
import Derived.Test.YthkliicmoandmaaGreatDoorZXd
import Derived.Test.YthkliicmoandmaaGreatDoorZMathj
import Derived.Lib.MinMax
import Derived.Deep.RegionHeld3
import Derived.Sort.QuietIn
import Derived.Deep.WholeRow
import Derived.Test.YthkliicmoandmaaGreatDoorZYdj
import Derived.Maps.AppendAt
import Derived.TacticsIn
import Derived.Deep.AppendLies
import Derived.Deep.Cut
import Derived.Deep.RegionHeldLaw
namespace Go.Proofs.YthkliicmoandmaaGreatDoor.Dm
set_option linter.unusedSimpArgs false
set_option linter.unusedVariables false
open Go.RowKit Go.Shelf
set_option linter.unusedVariables false

/-- Ranges as they are taken: none, if they are not right. -/
def tk (l : List Rg) : List Rg := if Right l then l else []
theorem right_nil : Right [] := ⟨by simp, fun i hi => by simp at hi⟩
theorem tk_right (l : List Rg) : Right (tk l) := by unfold tk; split; assumption; exact right_nil
theorem tk_yes {l : List Rg} (h : Right l) : tk l = l := if_pos h
theorem tk_no {l : List Rg} (h : ¬ Right l) : tk l = [] := if_neg h
end Go.Proofs.YthkliicmoandmaaGreatDoor.Dm

