/-
  What is proved here: what the library's iterator over a slice of ranges tells: all of them, in their order.
-/
import Derived.Test.YthkliicmoandmaaGreatDoorZXd
import Derived.Test.YthkliicmoandmaaGreatDoorZEaj
namespace Go.Proofs.YthkliicmoandmaaGreatDoor.Dm
set_option linter.unusedSimpArgs false
set_option linter.unusedVariables false
open Go.RowKit Go.Shelf
set_option linter.unusedVariables false

attribute [local go_sem] Oper.semAt_some

/-- A range with ends from -1000000 to 1000000. -/
def Rok (r : Rg) : Prop := -1000000 ≤ r.1 ∧ r.1 ≤ r.2 ∧ r.2 ≤ 1000000
abbrev RgOk := { r : Rg // Rok r }
def encR (x : RgOk) : Array Value := #[.agg #[.int .i64 x.1.1, .int .i64 x.1.2]]

end Go.Proofs.YthkliicmoandmaaGreatDoor.Dm

