/-
  What is proved here: what the law's fixed calls come to.
-/
import Derived.Test.YtacnhkaibcjjgaaGreatDoorKr
import Derived.Test.YtacnhkaibcjjgaaGreatDoorSn
import Derived.Test.YtacnhkaibcjjgaaGreatDoorSp
namespace Go.Proofs.YtacnhkaibcjjgaaGreatDoor
open Go.RowKit Go.Shelf
set_option linter.unusedVariables false
set_option linter.unusedSimpArgs false
attribute [local go_sem] Oper.semAt_some

theorem Si.new (w : World) (l : List Int) (h : 0 < l.length) (n : Nat) (hn : l.length = n) : Si (w.alloc (.cells (l.map (Value.int .i64)).toArray 2)) (.slice (some ⟨w.heap.size, 0, none⟩) n n) l := by
  subst hn
  have hnw := World.alloc_heap_new w (Obj.cells (l.map (Value.int .i64)).toArray 2)
  refine ⟨_, l.length, rfl, fun _ => ⟨w.heap.size, 0, rfl, by simp, fun i hi => ?_⟩⟩
  rw [cell_row hnw, Nat.zero_add]
  simp [nth, hi]
def dK : SD := ⟨true, 0, [1], [1, 2, 3], 1, 2⟩
theorem tight_k : tightD [1] [1, 2, 3] 0 2 = dK := by kernel_rfl
theorem of_k : OfOk [1] [1, 2, 3] 0 := by unfold OfOk; decide +kernel
theorem taken_k : takenD dK = dK := by kernel_rfl
theorem count_k : countD dK = 3 := by decide +kernel
theorem empty_k : emptyD dK = false := by decide +kernel
theorem all_k : allT dK = [[1], [1, 2], [1, 3]] := by decide +kernel
theorem cmp_k : cmpL (tkS [1, 3]) (tkS [1, 2, 9]) = 1 := by decide +kernel
theorem set_lo : IsSet dK.lo := by decide +kernel
theorem set_up : IsSet dK.up := by decide +kernel
theorem text_k : (stx (tkS [1]) ++ stx (tkS [1, 2]) ++ stx (tkS [1, 3])) = [123, 49, 125, 123, 49, 44, 50, 125, 123, 49, 44, 51, 125] := by decide +kernel
end Go.Proofs.YtacnhkaibcjjgaaGreatDoor
