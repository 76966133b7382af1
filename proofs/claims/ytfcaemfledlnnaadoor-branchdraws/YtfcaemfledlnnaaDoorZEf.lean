/-
  What is proved here: what dom.overlaps, dom.Cut and dom.Both return of any ranges.
-/
import Derived.Test.YtfcaemfledlnnaaDoorZEe
import Derived.Test.YtfcaemfledlnnaaDoorZVa
import Derived.Test.YtfcaemfledlnnaaDoorZXe
import Derived.Deep.WholeRow
import Derived.Test.YtfcaemfledlnnaaDoorZMath
import Derived.Deep.AppendLies
import Derived.Deep.Cut
import Derived.Deep.RegionHeldLaw
namespace Go.Proofs.YtfcaemfledlnnaaDoor.Dm
set_option linter.unusedSimpArgs false
set_option linter.unusedVariables false
open Go.RowKit Go.Shelf
set_option linter.unusedVariables false

/-- Ranges as they are taken: none, if they are not right. -/
def tk (l : List Rg) : List Rg := if Right l then l else []
theorem right_nil : Right [] := ⟨by simp, fun i hi => by simp at hi⟩
theorem tk_yes {l : List Rg} (h : Right l) : tk l = l := if_pos h
theorem tk_no {l : List Rg} (h : ¬ Right l) : tk l = [] := if_neg h
theorem Sr.one (w : World) (x y : Int) : Sr (w.alloc (.cells #[.int .i64 x, .int .i64 y] 37)) (.slice (some ⟨w.heap.size, 0, none⟩) 1 1) [(x, y)] := by
  refine ⟨_, 1, rfl, fun _ => ⟨w.heap.size, 0, rfl, by simp, fun i hi => ?_⟩⟩
  obtain rfl : i = 0 := by simpa using hi
  have h := Two.new w x y
  exact ⟨h.c0, h.c1⟩
end Go.Proofs.YtfcaemfledlnnaaDoor.Dm


