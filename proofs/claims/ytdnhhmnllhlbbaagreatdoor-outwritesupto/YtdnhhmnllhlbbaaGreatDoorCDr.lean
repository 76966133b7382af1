/-
  What is proved here: takes, of a variable.
-/
import Derived.Test.YtdnhhmnllhlbbaaGreatDoorCClj
import Derived.BigQuiet
namespace Go.Proofs.YtdnhhmnllhlbbaaGreatDoor
open Go.RowKit Go.Shelf
set_option linter.unusedVariables false
set_option linter.unusedSimpArgs false
theorem below_drewN {B : Nat} {a w : World} (h : Below B a w) (n : Nat) : Below B a (w.drewN n) := ⟨h.os, h.tape, h.output, h.size, h.block⟩

end Go.Proofs.YtdnhhmnllhlbbaaGreatDoor

