/-
  What is proved here: what dom.join returns of whatever iterator of ranges: they, joined where they touch, or that they are too many.
-/
import Derived.Test.YtfcaemfledlnnaaDoorZXe
import Derived.Test.YtfcaemfledlnnaaDoorZVa
import Derived.Lib.MinMax
import Derived.Deep.RegionHeld3
import Derived.Sort.QuietIn
import Derived.Deep.WholeRow
import Derived.Test.YtfcaemfledlnnaaDoorZMath
import Derived.Maps.AppendAt
import Derived.TacticsIn
namespace Go.Proofs.YtfcaemfledlnnaaDoor.Dm
set_option linter.unusedSimpArgs false
set_option linter.unusedVariables false
open Go.RowKit Go.Shelf
set_option linter.unusedVariables false

attribute [local go_sem] Oper.semAt_some

/-- The block B holds one range. -/
def Two (W : World) (B : Nat) (x y : Int) : Prop := W.heap[B]? = some (.cells #[.int .i64 x, .int .i64 y] 37 (0, 0))
theorem Two.new (W : World) (x y : Int) : Two (W.alloc (.cells #[.int .i64 x, .int .i64 y] 37)) W.heap.size x y := World.alloc_heap_new W _
theorem Two.c0 {W : World} {B : Nat} {x y : Int} (h : Two W B x y) : W.cell? ⟨B, 0, none⟩ = some (.int .i64 x) := by simp [World.cell?, show W.heap[B]? = _ from h]
theorem Two.c1 {W : World} {B : Nat} {x y : Int} (h : Two W B x y) : W.cell? ⟨B, 1, none⟩ = some (.int .i64 y) := by simp [World.cell?, show W.heap[B]? = _ from h]
end Go.Proofs.YtfcaemfledlnnaaDoor.Dm


