/-
  What is proved here: strconv.FormatInt at base 10, and the reference's Text of any list.
-/
import Derived.Test.YtfcaemfledlnnaaGreatDoorYRcj
import Derived.Test.YtfcaemfledlnnaaGreatDoorYSoj
import Derived.Shelf.Strconv.Itoa4
import Derived.Laws.Concat
namespace Go.Proofs.YtfcaemfledlnnaaGreatDoor.St
open Go.RowKit Go.Shelf
set_option linter.unusedVariables false
set_option linter.unusedSimpArgs false

/-- A string whose bytes are these. -/
def Bs (s : ByteArray) (l : List UInt8) : Prop := s.data.toList = l
theorem Bs.eq {s : ByteArray} {l : List UInt8} (h : Bs s l) : s = ⟨l.toArray⟩ := by unfold Bs at h; rw [← h]
theorem add_at {a b : ByteArray} {p q : List UInt8} (ha : Bs a p) (hb : Bs b q) (h : p.length + q.length ≤ 1000000000) : ∃ c, Bs c (p ++ q) ∧ ∀ X, (Op.stringOp .add a b).run Tryz.prog X = .ok (.string c) X := by
  refine ⟨a ++ b, ?_, fun X => run_string_add_sum X a b ?_⟩
  · unfold Bs at *; rw [← ha, ← hb]; simp
  · unfold Bs at *; rw [← ha, ← hb] at h; simp at h; omega

end Go.Proofs.YtfcaemfledlnnaaGreatDoor.St

