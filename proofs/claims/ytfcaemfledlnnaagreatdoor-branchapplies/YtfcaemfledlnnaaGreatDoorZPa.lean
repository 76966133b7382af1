/-
  What is proved here: what dom.parseRange reads of a text that is one number; what strings.Split and strings.Cut answer here.
-/
import Derived.Test.YtfcaemfledlnnaaGreatDoorZEfj
import Derived.Lib.AppendStr
import Derived.Lib.AppendIntMem
import Derived.Lib.ItoaLen
import Derived.Laws.IdiomStrings
import Derived.OwnWalk
import Derived.Lib.SmallJoins
namespace Go.Proofs.YtfcaemfledlnnaaGreatDoor.Dm
set_option linter.unusedSimpArgs false
set_option linter.unusedVariables false
open Go.RowKit Go.Shelf
set_option linter.unusedVariables false

/-- The library's variable for the longest text that is searched holds some number. -/
def MaxL (W : World) : Prop := 0 < W.heap.size ∧ ∃ m, W.cell? ⟨0, 0, none⟩ = some (.int .i64 m)
theorem MaxL.below {B : Nat} {W W' : World} (h : MaxL W) (hb : Below B W W') (hB : 0 < B) : MaxL W' := by
  obtain ⟨h1, m, hm⟩ := h
  exact ⟨Nat.lt_of_lt_of_le h1 hb.size, m, (hb.cell (p := ⟨0, 0, none⟩) hB).trans hm⟩
end Go.Proofs.YtfcaemfledlnnaaGreatDoor.Dm


