/-
  What is proved here: the reference's table of constraints.
-/
import Derived.Test.YtpgecdhieakilaaGreatDoorCaj
import Derived.Great.BuildSlice
namespace Go.Proofs.YtpgecdhieakilaaGreatDoor
open Go.RowKit Go.Shelf
set_option linter.unusedVariables false
set_option linter.unusedSimpArgs false

/-- The reference's table: the name, the form, the family. -/
def rtb : List (List UInt8 × List UInt8 × List UInt8) := [([105, 110, 116, 95, 101, 113], [73, 44, 73], [108, 105, 110, 101, 97, 114]),
  ([105, 110, 116, 95, 110, 101], [73, 44, 73], [108, 105, 110, 101, 97, 114]),
  ([105, 110, 116, 95, 108, 101], [73, 44, 73], [108, 105, 110, 101, 97, 114]),
  ([105, 110, 116, 95, 108, 116], [73, 44, 73], [108, 105, 110, 101, 97, 114]),
  ([105, 110, 116, 95, 101, 113, 95, 114, 101, 105, 102], [73, 44, 73, 44, 66], [108, 105, 110, 101, 97, 114]),
  ([105, 110, 116, 95, 110, 101, 95, 114, 101, 105, 102], [73, 44, 73, 44, 66], [108, 105, 110, 101, 97, 114]),
  ([105, 110, 116, 95, 108, 101, 95, 114, 101, 105, 102], [73, 44, 73, 44, 66], [108, 105, 110, 101, 97, 114]),
  ([105, 110, 116, 95, 108, 116, 95, 114, 101, 105, 102], [73, 44, 73, 44, 66], [108, 105, 110, 101, 97, 114]),
  ([105, 110, 116, 95, 101, 113, 95, 105, 109, 112], [73, 44, 73, 44, 66], [108, 105, 110, 101, 97, 114]),
  ([105, 110, 116, 95, 110, 101, 95, 105, 109, 112], [73, 44, 73, 44, 66], [108, 105, 110, 101, 97, 114]),
  ([105, 110, 116, 95, 108, 101, 95, 105, 109, 112], [73, 44, 73, 44, 66], [108, 105, 110, 101, 97, 114]),
  ([105, 110, 116, 95, 108, 116, 95, 105, 109, 112], [73, 44, 73, 44, 66], [108, 105, 110, 101, 97, 114]),
  ([105, 110, 116, 95, 108, 105, 110, 95, 101, 113], [97, 105, 44, 97, 73, 44, 105], [108, 105, 110, 101, 97, 114]),
  ([105, 110, 116, 95, 108, 105, 110, 95, 110, 101], [97, 105, 44, 97, 73, 44, 105], [108, 105, 110, 101, 97, 114]),
  ([105, 110, 116, 95, 108, 105, 110, 95, 108, 101], [97, 105, 44, 97, 73, 44, 105], [108, 105, 110, 101, 97, 114]),
  ([105, 110, 116, 95, 108, 105, 110, 95, 101, 113, 95, 114, 101, 105, 102], [97, 105, 44, 97, 73, 44, 105, 44, 66], [108, 105, 110, 101, 97, 114]),
  ([105, 110, 116, 95, 108, 105, 110, 95, 110, 101, 95, 114, 101, 105, 102], [97, 105, 44, 97, 73, 44, 105, 44, 66], [108, 105, 110, 101, 97, 114]),
  ([105, 110, 116, 95, 108, 105, 110, 95, 108, 101, 95, 114, 101, 105, 102], [97, 105, 44, 97, 73, 44, 105, 44, 66], [108, 105, 110, 101, 97, 114]),
  ([105, 110, 116, 95, 108, 105, 110, 95, 101, 113, 95, 105, 109, 112], [97, 105, 44, 97, 73, 44, 105, 44, 66], [108, 105, 110, 101, 97, 114]),
  ([105, 110, 116, 95, 108, 105, 110, 95, 110, 101, 95, 105, 109, 112], [97, 105, 44, 97, 73, 44, 105, 44, 66], [108, 105, 110, 101, 97, 114]),
  ([105, 110, 116, 95, 108, 105, 110, 95, 108, 101, 95, 105, 109, 112], [97, 105, 44, 97, 73, 44, 105, 44, 66], [108, 105, 110, 101, 97, 114]),
  ([98, 111, 111, 108, 95, 108, 105, 110, 95, 101, 113], [97, 105, 44, 97, 66, 44, 73], [108, 105, 110, 101, 97, 114]),
  ([98, 111, 111, 108, 95, 108, 105, 110, 95, 108, 101], [97, 105, 44, 97, 66, 44, 105], [108, 105, 110, 101, 97, 114]),
  ([105, 110, 116, 95, 112, 108, 117, 115], [73, 44, 73, 44, 73], [97, 114, 105, 116, 104]),
  ([105, 110, 116, 95, 116, 105, 109, 101, 115], [73, 44, 73, 44, 73], [97, 114, 105, 116, 104]),
  ([105, 110, 116, 95, 100, 105, 118], [73, 44, 73, 44, 73], [97, 114, 105, 116, 104]),
  ([105, 110, 116, 95, 109, 111, 100], [73, 44, 73, 44, 73], [97, 114, 105, 116, 104]),
  ([105, 110, 116, 95, 109, 105, 110], [73, 44, 73, 44, 73], [97, 114, 105, 116, 104]),
  ([105, 110, 116, 95, 109, 97, 120], [73, 44, 73, 44, 73], [97, 114, 105, 116, 104]),
  ([105, 110, 116, 95, 112, 111, 119], [73, 44, 73, 44, 73], [97, 114, 105, 116, 104]),
  ([105, 110, 116, 95, 97, 98, 115], [73, 44, 73], [97, 114, 105, 116, 104]),
  ([97, 114, 114, 97, 121, 95, 105, 110, 116, 95, 101, 108, 101, 109, 101, 110, 116], [73, 44, 97, 105, 44, 73], [97, 114, 105, 116, 104]),
  ([97, 114, 114, 97, 121, 95, 118, 97, 114, 95, 105, 110, 116, 95, 101, 108, 101, 109, 101, 110, 116], [73, 44, 97, 73, 44, 73], [97, 114, 105, 116, 104]),
  ([97, 114, 114, 97, 121, 95, 98, 111, 111, 108, 95, 101, 108, 101, 109, 101, 110, 116], [73, 44, 97, 98, 44, 66], [97, 114, 105, 116, 104]),
  ([97, 114, 114, 97, 121, 95, 118, 97, 114, 95, 98, 111, 111, 108, 95, 101, 108, 101, 109, 101, 110, 116], [73, 44, 97, 66, 44, 66], [97, 114, 105, 116, 104]),
  ([97, 114, 114, 97, 121, 95, 115, 101, 116, 95, 101, 108, 101, 109, 101, 110, 116], [73, 44, 97, 115, 44, 83], [97, 114, 105, 116, 104]),
  ([98, 111, 111, 108, 50, 105, 110, 116], [66, 44, 73], [108, 111, 103, 105, 99]),
  ([98, 111, 111, 108, 95, 101, 113], [66, 44, 66], [108, 111, 103, 105, 99]),
  ([98, 111, 111, 108, 95, 110, 101], [66, 44, 66], [108, 111, 103, 105, 99]),
  ([98, 111, 111, 108, 95, 108, 101], [66, 44, 66], [108, 111, 103, 105, 99]),
  ([98, 111, 111, 108, 95, 108, 116], [66, 44, 66], [108, 111, 103, 105, 99]),
  ([98, 111, 111, 108, 95, 110, 111, 116], [66, 44, 66], [108, 111, 103, 105, 99]),
  ([98, 111, 111, 108, 95, 101, 113, 95, 114, 101, 105, 102], [66, 44, 66, 44, 66], [108, 111, 103, 105, 99]),
  ([98, 111, 111, 108, 95, 110, 101, 95, 114, 101, 105, 102], [66, 44, 66, 44, 66], [108, 111, 103, 105, 99]),
  ([98, 111, 111, 108, 95, 108, 101, 95, 114, 101, 105, 102], [66, 44, 66, 44, 66], [108, 111, 103, 105, 99]),
  ([98, 111, 111, 108, 95, 108, 116, 95, 114, 101, 105, 102], [66, 44, 66, 44, 66], [108, 111, 103, 105, 99]),
  ([98, 111, 111, 108, 95, 97, 110, 100], [66, 44, 66, 44, 66], [108, 111, 103, 105, 99]),
  ([98, 111, 111, 108, 95, 111, 114], [66, 44, 66, 44, 66], [108, 111, 103, 105, 99]),
  ([98, 111, 111, 108, 95, 120, 111, 114], [66, 44, 66, 44, 66], [108, 111, 103, 105, 99]),
  ([98, 111, 111, 108, 95, 99, 108, 97, 117, 115, 101], [97, 66, 44, 97, 66], [108, 111, 103, 105, 99]),
  ([98, 111, 111, 108, 95, 99, 108, 97, 117, 115, 101, 95, 114, 101, 105, 102], [97, 66, 44, 97, 66, 44, 66], [108, 111, 103, 105, 99]),
  ([97, 114, 114, 97, 121, 95, 98, 111, 111, 108, 95, 97, 110, 100], [97, 66, 44, 66], [108, 111, 103, 105, 99]),
  ([97, 114, 114, 97, 121, 95, 98, 111, 111, 108, 95, 111, 114], [97, 66, 44, 66], [108, 111, 103, 105, 99]),
  ([97, 114, 114, 97, 121, 95, 98, 111, 111, 108, 95, 120, 111, 114], [97, 66], [108, 111, 103, 105, 99]),
  ([115, 101, 116, 95, 105, 110], [73, 44, 83], [115, 101, 116, 99, 111, 110]),
  ([115, 101, 116, 95, 105, 110, 95, 114, 101, 105, 102], [73, 44, 83, 44, 66], [115, 101, 116, 99, 111, 110]),
  ([115, 101, 116, 95, 105, 110, 95, 105, 109, 112], [73, 44, 83, 44, 66], [115, 101, 116, 99, 111, 110]),
  ([115, 101, 116, 95, 99, 97, 114, 100], [83, 44, 73], [115, 101, 116, 99, 111, 110]),
  ([115, 101, 116, 95, 101, 113], [83, 44, 83], [115, 101, 116, 99, 111, 110]),
  ([115, 101, 116, 95, 110, 101], [83, 44, 83], [115, 101, 116, 99, 111, 110]),
  ([115, 101, 116, 95, 115, 117, 98, 115, 101, 116], [83, 44, 83], [115, 101, 116, 99, 111, 110]),
  ([115, 101, 116, 95, 115, 117, 112, 101, 114, 115, 101, 116], [83, 44, 83], [115, 101, 116, 99, 111, 110]),
  ([115, 101, 116, 95, 108, 101], [83, 44, 83], [115, 101, 116, 99, 111, 110]),
  ([115, 101, 116, 95, 108, 116], [83, 44, 83], [115, 101, 116, 99, 111, 110]),
  ([115, 101, 116, 95, 101, 113, 95, 114, 101, 105, 102], [83, 44, 83, 44, 66], [115, 101, 116, 99, 111, 110]),
  ([115, 101, 116, 95, 110, 101, 95, 114, 101, 105, 102], [83, 44, 83, 44, 66], [115, 101, 116, 99, 111, 110]),
  ([115, 101, 116, 95, 115, 117, 98, 115, 101, 116, 95, 114, 101, 105, 102], [83, 44, 83, 44, 66], [115, 101, 116, 99, 111, 110]),
  ([115, 101, 116, 95, 115, 117, 112, 101, 114, 115, 101, 116, 95, 114, 101, 105, 102], [83, 44, 83, 44, 66], [115, 101, 116, 99, 111, 110]),
  ([115, 101, 116, 95, 108, 101, 95, 114, 101, 105, 102], [83, 44, 83, 44, 66], [115, 101, 116, 99, 111, 110]),
  ([115, 101, 116, 95, 108, 116, 95, 114, 101, 105, 102], [83, 44, 83, 44, 66], [115, 101, 116, 99, 111, 110]),
  ([115, 101, 116, 95, 117, 110, 105, 111, 110], [83, 44, 83, 44, 83], [115, 101, 116, 99, 111, 110]),
  ([115, 101, 116, 95, 105, 110, 116, 101, 114, 115, 101, 99, 116], [83, 44, 83, 44, 83], [115, 101, 116, 99, 111, 110]),
  ([115, 101, 116, 95, 100, 105, 102, 102], [83, 44, 83, 44, 83], [115, 101, 116, 99, 111, 110]),
  ([115, 101, 116, 95, 115, 121, 109, 100, 105, 102, 102], [83, 44, 83, 44, 83], [115, 101, 116, 99, 111, 110]),
  ([102, 122, 110, 95, 97, 108, 108, 95, 100, 105, 102, 102, 101, 114, 101, 110, 116, 95, 105, 110, 116], [97, 73], [99, 111, 117, 110, 116]),
  ([102, 122, 110, 95, 97, 108, 108, 95, 101, 113, 117, 97, 108, 95, 105, 110, 116], [97, 73], [99, 111, 117, 110, 116]),
  ([102, 122, 110, 95, 103, 108, 111, 98, 97, 108, 95, 99, 97, 114, 100, 105, 110, 97, 108, 105, 116, 121], [97, 73, 44, 97, 105, 44, 97, 73], [99, 111, 117, 110, 116]),
  ([102, 122, 110, 95, 103, 108, 111, 98, 97, 108, 95, 99, 97, 114, 100, 105, 110, 97, 108, 105, 116, 121, 95, 99, 108, 111, 115, 101, 100], [97, 73, 44, 97, 105, 44, 97, 73], [99, 111, 117, 110, 116]),
  ([102, 122, 110, 95, 99, 111, 117, 110, 116, 95, 101, 113], [97, 73, 44, 73, 44, 73], [99, 111, 117, 110, 116]),
  ([102, 122, 110, 95, 97, 109, 111, 110, 103], [73, 44, 97, 73, 44, 115], [99, 111, 117, 110, 116]),
  ([102, 122, 110, 95, 110, 118, 97, 108, 117, 101], [73, 44, 97, 73], [99, 111, 117, 110, 116]),
  ([102, 122, 110, 95, 97, 116, 95, 109, 111, 115, 116, 95, 105, 110, 116], [105, 44, 97, 73, 44, 105], [99, 111, 117, 110, 116]),
  ([102, 122, 110, 95, 97, 116, 95, 108, 101, 97, 115, 116, 95, 105, 110, 116], [105, 44, 97, 73, 44, 105], [99, 111, 117, 110, 116]),
  ([102, 122, 110, 95, 118, 97, 108, 117, 101, 95, 112, 114, 101, 99, 101, 100, 101, 95, 105, 110, 116], [105, 44, 105, 44, 97, 73], [99, 111, 117, 110, 116]),
  ([102, 122, 110, 95, 108, 101, 120, 95, 108, 101, 115, 115, 95, 105, 110, 116], [97, 73, 44, 97, 73], [115, 101, 113]),
  ([102, 122, 110, 95, 108, 101, 120, 95, 108, 101, 115, 115, 101, 113, 95, 105, 110, 116], [97, 73, 44, 97, 73], [115, 101, 113]),
  ([102, 122, 110, 95, 115, 111, 114, 116], [97, 73, 44, 97, 73], [115, 101, 113]),
  ([102, 122, 110, 95, 105, 110, 99, 114, 101, 97, 115, 105, 110, 103, 95, 105, 110, 116], [97, 73], [115, 101, 113]),
  ([102, 122, 110, 95, 115, 116, 114, 105, 99, 116, 108, 121, 95, 105, 110, 99, 114, 101, 97, 115, 105, 110, 103, 95, 105, 110, 116], [97, 73], [115, 101, 113]),
  ([102, 122, 110, 95, 100, 101, 99, 114, 101, 97, 115, 105, 110, 103, 95, 105, 110, 116], [97, 73], [115, 101, 113]),
  ([102, 122, 110, 95, 105, 110, 118, 101, 114, 115, 101], [97, 73, 44, 97, 73], [115, 101, 113]),
  ([102, 122, 110, 95, 109, 97, 120, 105, 109, 117, 109, 95, 105, 110, 116], [73, 44, 97, 73], [115, 101, 113]),
  ([102, 122, 110, 95, 109, 105, 110, 105, 109, 117, 109, 95, 105, 110, 116], [73, 44, 97, 73], [115, 101, 113]),
  ([102, 122, 110, 95, 109, 101, 109, 98, 101, 114, 95, 105, 110, 116], [97, 73, 44, 73], [115, 101, 113]),
  ([102, 122, 110, 95, 116, 97, 98, 108, 101, 95, 105, 110, 116], [97, 73, 44, 97, 105], [115, 101, 113]),
  ([102, 122, 110, 95, 114, 101, 103, 117, 108, 97, 114], [97, 73, 44, 105, 44, 105, 44, 97, 105, 44, 105, 44, 115], [115, 101, 113]),
  ([102, 122, 110, 95, 99, 105, 114, 99, 117, 105, 116], [97, 73], [115, 99, 104, 101, 100]),
  ([102, 122, 110, 95, 115, 117, 98, 99, 105, 114, 99, 117, 105, 116], [97, 73], [115, 99, 104, 101, 100]),
  ([102, 122, 110, 95, 99, 117, 109, 117, 108, 97, 116, 105, 118, 101], [97, 73, 44, 97, 73, 44, 97, 73, 44, 73], [115, 99, 104, 101, 100]),
  ([102, 122, 110, 95, 100, 105, 115, 106, 117, 110, 99, 116, 105, 118, 101], [97, 73, 44, 97, 73], [115, 99, 104, 101, 100]),
  ([102, 122, 110, 95, 100, 105, 102, 102, 110], [97, 73, 44, 97, 73, 44, 97, 73, 44, 97, 73], [115, 99, 104, 101, 100]),
  ([102, 122, 110, 95, 98, 105, 110, 95, 112, 97, 99, 107, 105, 110, 103], [105, 44, 97, 73, 44, 97, 105], [115, 99, 104, 101, 100]),
  ([102, 122, 110, 95, 98, 105, 110, 95, 112, 97, 99, 107, 105, 110, 103, 95, 99, 97, 112, 97], [97, 105, 44, 97, 73, 44, 97, 105], [115, 99, 104, 101, 100]),
  ([102, 122, 110, 95, 98, 105, 110, 95, 112, 97, 99, 107, 105, 110, 103, 95, 108, 111, 97, 100], [97, 73, 44, 97, 73, 44, 97, 105], [115, 99, 104, 101, 100]),
  ([102, 122, 110, 95, 107, 110, 97, 112, 115, 97, 99, 107], [97, 105, 44, 97, 105, 44, 97, 73, 44, 73, 44, 73], [115, 99, 104, 101, 100])]
def rtK (k : Nat) : List UInt8 × List UInt8 × List UInt8 := rtb.getD k ([], [], [])
/-- The table as it lies in memory. -/
def RtA (w : World) (s : Value) : Prop := ∃ g, s = .slice (some ⟨g, 0, none⟩) 105 105 ∧ g < w.heap.size ∧ ∀ k, k < 105 → w.cell? ⟨g, k * 3, none⟩ = some (.string ⟨(rtK k).1.toArray⟩) ∧ w.cell? ⟨g, k * 3 + 1, none⟩ = some (.string ⟨(rtK k).2.1.toArray⟩) ∧ w.cell? ⟨g, k * 3 + 2, none⟩ = some (.string ⟨(rtK k).2.2.toArray⟩)
theorem rta_of {w : World} {Bg : Array Value} {t : TypeId} (h : Bg = (rtb.flatMap fun r => [Value.string ⟨r.1.toArray⟩, .string ⟨r.2.1.toArray⟩, .string ⟨r.2.2.toArray⟩]).toArray) : RtA (w.alloc (Obj.cells Bg t)) (.slice (some ⟨w.heap.size, 0, none⟩) 105 105) := by
  refine ⟨_, rfl, by simp, fun k hk => ?_⟩
  have hh := World.alloc_heap_new w (Obj.cells Bg t)
  have key : ∀ j, (w.alloc (Obj.cells Bg t)).cell? ⟨w.heap.size, j, none⟩ = Bg[j]? := fun j => by simp only [World.cell?, hh]; rfl
  rw [key, key, key, h]
  have hall : ((List.range 105).map fun k => ((rtb.flatMap fun r => [Value.string ⟨r.1.toArray⟩, .string ⟨r.2.1.toArray⟩, .string ⟨r.2.2.toArray⟩]).toArray[k * 3]?, (rtb.flatMap fun r => [Value.string ⟨r.1.toArray⟩, .string ⟨r.2.1.toArray⟩, .string ⟨r.2.2.toArray⟩]).toArray[k * 3 + 1]?, (rtb.flatMap fun r => [Value.string ⟨r.1.toArray⟩, .string ⟨r.2.1.toArray⟩, .string ⟨r.2.2.toArray⟩]).toArray[k * 3 + 2]?)) = (List.range 105).map fun k => (some (Value.string ⟨(rtK k).1.toArray⟩), some (Value.string ⟨(rtK k).2.1.toArray⟩), some (Value.string ⟨(rtK k).2.2.toArray⟩)) := by kernel_rfl
  have := congrArg (fun l => l[k]?) hall
  simp only [List.getElem?_map, List.getElem?_range hk, Option.map_some, Option.some.injEq, Prod.mk.injEq] at this
  exact this
def rcell (k : Nat) : Array Value := #[.string ⟨(rtK k).1.toArray⟩, .string ⟨(rtK k).2.1.toArray⟩, .string ⟨(rtK k).2.2.toArray⟩]
def rbig : Array Value := (rtb.flatMap fun r => [Value.string ⟨r.1.toArray⟩, .string ⟨r.2.1.toArray⟩, .string ⟨r.2.2.toArray⟩]).toArray
theorem Tryz.info69 : ∃ ie z, Tryz.prog.info? 69 = some ie ∧ ie.zero = some z ∧ ie.size = 3 ∧ z = .agg #[.string ⟨#[]⟩, .string ⟨#[]⟩, .string ⟨#[]⟩] := by
  have h : (Tryz.prog.info? 69).map (fun i => (i.zero, i.size)) = some (some (.agg #[.string ⟨#[]⟩, .string ⟨#[]⟩, .string ⟨#[]⟩]), 3) := by kernel_rfl
  cases hi : Tryz.prog.info? 69 with
  | none => rw [hi] at h; cases h
  | some ie =>
    rw [hi] at h
    simp only [Option.map_some, Option.some.injEq, Prod.mk.injEq] at h
    exact ⟨ie, _, rfl, h.1, h.2, rfl⟩

set_option maxRecDepth 100000 in
set_option maxHeartbeats 4000000 in
theorem refrows_any (W : World) : Calls Tryz.prog 36 #[] W fun e w' => ∃ s, e = .returned s ∧ RtA w' s ∧ Below W.heap.size W w' := by
  obtain ⟨ie, z, hie, hz, hs, hzz⟩ := Tryz.info69
  subst hzz
  go_enter Tryz.func36, Tryz.ntmps36
  go_upto_region 1 with (fail)
  apply wp_region_lit
  refine wpList_buildTo rfl 69 _ rfl (some 1) rfl (rcell 0) (by kernel_rfl) ?_
  refine wpList_buildTo rfl 69 _ rfl (some 2) rfl (rcell 1) (by kernel_rfl) ?_
  refine wpList_buildTo rfl 69 _ rfl (some 3) rfl (rcell 2) (by kernel_rfl) ?_
  refine wpList_buildTo rfl 69 _ rfl (some 4) rfl (rcell 3) (by kernel_rfl) ?_
  refine wpList_buildTo rfl 69 _ rfl (some 5) rfl (rcell 4) (by kernel_rfl) ?_
  refine wpList_buildTo rfl 69 _ rfl (some 6) rfl (rcell 5) (by kernel_rfl) ?_
  refine wpList_buildTo rfl 69 _ rfl (some 7) rfl (rcell 6) (by kernel_rfl) ?_
  refine wpList_buildTo rfl 69 _ rfl (some 8) rfl (rcell 7) (by kernel_rfl) ?_
  refine wpList_buildTo rfl 69 _ rfl (some 9) rfl (rcell 8) (by kernel_rfl) ?_
  refine wpList_buildTo rfl 69 _ rfl (some 10) rfl (rcell 9) (by kernel_rfl) ?_
  refine wpList_buildTo rfl 69 _ rfl (some 11) rfl (rcell 10) (by kernel_rfl) ?_
  refine wpList_buildTo rfl 69 _ rfl (some 12) rfl (rcell 11) (by kernel_rfl) ?_
  refine wpList_buildTo rfl 69 _ rfl (some 13) rfl (rcell 12) (by kernel_rfl) ?_
  refine wpList_buildTo rfl 69 _ rfl (some 14) rfl (rcell 13) (by kernel_rfl) ?_
  refine wpList_buildTo rfl 69 _ rfl (some 15) rfl (rcell 14) (by kernel_rfl) ?_
  refine wpList_buildTo rfl 69 _ rfl (some 16) rfl (rcell 15) (by kernel_rfl) ?_
  refine wpList_buildTo rfl 69 _ rfl (some 17) rfl (rcell 16) (by kernel_rfl) ?_
  refine wpList_buildTo rfl 69 _ rfl (some 18) rfl (rcell 17) (by kernel_rfl) ?_
  refine wpList_buildTo rfl 69 _ rfl (some 19) rfl (rcell 18) (by kernel_rfl) ?_
  refine wpList_buildTo rfl 69 _ rfl (some 20) rfl (rcell 19) (by kernel_rfl) ?_
  refine wpList_buildTo rfl 69 _ rfl (some 21) rfl (rcell 20) (by kernel_rfl) ?_
  refine wpList_buildTo rfl 69 _ rfl (some 22) rfl (rcell 21) (by kernel_rfl) ?_
  refine wpList_buildTo rfl 69 _ rfl (some 23) rfl (rcell 22) (by kernel_rfl) ?_
  refine wpList_buildTo rfl 69 _ rfl (some 24) rfl (rcell 23) (by kernel_rfl) ?_
  refine wpList_buildTo rfl 69 _ rfl (some 25) rfl (rcell 24) (by kernel_rfl) ?_
  refine wpList_buildTo rfl 69 _ rfl (some 26) rfl (rcell 25) (by kernel_rfl) ?_
  refine wpList_buildTo rfl 69 _ rfl (some 27) rfl (rcell 26) (by kernel_rfl) ?_
  refine wpList_buildTo rfl 69 _ rfl (some 28) rfl (rcell 27) (by kernel_rfl) ?_
  refine wpList_buildTo rfl 69 _ rfl (some 29) rfl (rcell 28) (by kernel_rfl) ?_
  refine wpList_buildTo rfl 69 _ rfl (some 30) rfl (rcell 29) (by kernel_rfl) ?_
  refine wpList_buildTo rfl 69 _ rfl (some 31) rfl (rcell 30) (by kernel_rfl) ?_
  refine wpList_buildTo rfl 69 _ rfl (some 32) rfl (rcell 31) (by kernel_rfl) ?_
  refine wpList_buildTo rfl 69 _ rfl (some 33) rfl (rcell 32) (by kernel_rfl) ?_
  refine wpList_buildTo rfl 69 _ rfl (some 34) rfl (rcell 33) (by kernel_rfl) ?_
  refine wpList_buildTo rfl 69 _ rfl (some 35) rfl (rcell 34) (by kernel_rfl) ?_
  refine wpList_buildTo rfl 69 _ rfl (some 36) rfl (rcell 35) (by kernel_rfl) ?_
  refine wpList_buildTo rfl 69 _ rfl (some 37) rfl (rcell 36) (by kernel_rfl) ?_
  refine wpList_buildTo rfl 69 _ rfl (some 38) rfl (rcell 37) (by kernel_rfl) ?_
  refine wpList_buildTo rfl 69 _ rfl (some 39) rfl (rcell 38) (by kernel_rfl) ?_
  refine wpList_buildTo rfl 69 _ rfl (some 40) rfl (rcell 39) (by kernel_rfl) ?_
  refine wpList_buildTo rfl 69 _ rfl (some 41) rfl (rcell 40) (by kernel_rfl) ?_
  refine wpList_buildTo rfl 69 _ rfl (some 42) rfl (rcell 41) (by kernel_rfl) ?_
  refine wpList_buildTo rfl 69 _ rfl (some 43) rfl (rcell 42) (by kernel_rfl) ?_
  refine wpList_buildTo rfl 69 _ rfl (some 44) rfl (rcell 43) (by kernel_rfl) ?_
  refine wpList_buildTo rfl 69 _ rfl (some 45) rfl (rcell 44) (by kernel_rfl) ?_
  refine wpList_buildTo rfl 69 _ rfl (some 46) rfl (rcell 45) (by kernel_rfl) ?_
  refine wpList_buildTo rfl 69 _ rfl (some 47) rfl (rcell 46) (by kernel_rfl) ?_
  refine wpList_buildTo rfl 69 _ rfl (some 48) rfl (rcell 47) (by kernel_rfl) ?_
  refine wpList_buildTo rfl 69 _ rfl (some 49) rfl (rcell 48) (by kernel_rfl) ?_
  refine wpList_buildTo rfl 69 _ rfl (some 50) rfl (rcell 49) (by kernel_rfl) ?_
  refine wpList_buildTo rfl 69 _ rfl (some 51) rfl (rcell 50) (by kernel_rfl) ?_
  refine wpList_buildTo rfl 69 _ rfl (some 52) rfl (rcell 51) (by kernel_rfl) ?_
  refine wpList_buildTo rfl 69 _ rfl (some 53) rfl (rcell 52) (by kernel_rfl) ?_
  refine wpList_buildTo rfl 69 _ rfl (some 54) rfl (rcell 53) (by kernel_rfl) ?_
  refine wpList_buildTo rfl 69 _ rfl (some 55) rfl (rcell 54) (by kernel_rfl) ?_
  refine wpList_buildTo rfl 69 _ rfl (some 56) rfl (rcell 55) (by kernel_rfl) ?_
  refine wpList_buildTo rfl 69 _ rfl (some 57) rfl (rcell 56) (by kernel_rfl) ?_
  refine wpList_buildTo rfl 69 _ rfl (some 58) rfl (rcell 57) (by kernel_rfl) ?_
  refine wpList_buildTo rfl 69 _ rfl (some 59) rfl (rcell 58) (by kernel_rfl) ?_
  refine wpList_buildTo rfl 69 _ rfl (some 60) rfl (rcell 59) (by kernel_rfl) ?_
  refine wpList_buildTo rfl 69 _ rfl (some 61) rfl (rcell 60) (by kernel_rfl) ?_
  refine wpList_buildTo rfl 69 _ rfl (some 62) rfl (rcell 61) (by kernel_rfl) ?_
  refine wpList_buildTo rfl 69 _ rfl (some 63) rfl (rcell 62) (by kernel_rfl) ?_
  refine wpList_buildTo rfl 69 _ rfl (some 64) rfl (rcell 63) (by kernel_rfl) ?_
  refine wpList_buildTo rfl 69 _ rfl (some 65) rfl (rcell 64) (by kernel_rfl) ?_
  refine wpList_buildTo rfl 69 _ rfl (some 66) rfl (rcell 65) (by kernel_rfl) ?_
  refine wpList_buildTo rfl 69 _ rfl (some 67) rfl (rcell 66) (by kernel_rfl) ?_
  refine wpList_buildTo rfl 69 _ rfl (some 68) rfl (rcell 67) (by kernel_rfl) ?_
  refine wpList_buildTo rfl 69 _ rfl (some 69) rfl (rcell 68) (by kernel_rfl) ?_
  refine wpList_buildTo rfl 69 _ rfl (some 70) rfl (rcell 69) (by kernel_rfl) ?_
  refine wpList_buildTo rfl 69 _ rfl (some 71) rfl (rcell 70) (by kernel_rfl) ?_
  refine wpList_buildTo rfl 69 _ rfl (some 72) rfl (rcell 71) (by kernel_rfl) ?_
  refine wpList_buildTo rfl 69 _ rfl (some 73) rfl (rcell 72) (by kernel_rfl) ?_
  refine wpList_buildTo rfl 69 _ rfl (some 74) rfl (rcell 73) (by kernel_rfl) ?_
  refine wpList_buildTo rfl 69 _ rfl (some 75) rfl (rcell 74) (by kernel_rfl) ?_
  refine wpList_buildTo rfl 69 _ rfl (some 76) rfl (rcell 75) (by kernel_rfl) ?_
  refine wpList_buildTo rfl 69 _ rfl (some 77) rfl (rcell 76) (by kernel_rfl) ?_
  refine wpList_buildTo rfl 69 _ rfl (some 78) rfl (rcell 77) (by kernel_rfl) ?_
  refine wpList_buildTo rfl 69 _ rfl (some 79) rfl (rcell 78) (by kernel_rfl) ?_
  refine wpList_buildTo rfl 69 _ rfl (some 80) rfl (rcell 79) (by kernel_rfl) ?_
  refine wpList_buildTo rfl 69 _ rfl (some 81) rfl (rcell 80) (by kernel_rfl) ?_
  refine wpList_buildTo rfl 69 _ rfl (some 82) rfl (rcell 81) (by kernel_rfl) ?_
  refine wpList_buildTo rfl 69 _ rfl (some 83) rfl (rcell 82) (by kernel_rfl) ?_
  refine wpList_buildTo rfl 69 _ rfl (some 84) rfl (rcell 83) (by kernel_rfl) ?_
  refine wpList_buildTo rfl 69 _ rfl (some 85) rfl (rcell 84) (by kernel_rfl) ?_
  refine wpList_buildTo rfl 69 _ rfl (some 86) rfl (rcell 85) (by kernel_rfl) ?_
  refine wpList_buildTo rfl 69 _ rfl (some 87) rfl (rcell 86) (by kernel_rfl) ?_
  refine wpList_buildTo rfl 69 _ rfl (some 88) rfl (rcell 87) (by kernel_rfl) ?_
  refine wpList_buildTo rfl 69 _ rfl (some 89) rfl (rcell 88) (by kernel_rfl) ?_
  refine wpList_buildTo rfl 69 _ rfl (some 90) rfl (rcell 89) (by kernel_rfl) ?_
  refine wpList_buildTo rfl 69 _ rfl (some 91) rfl (rcell 90) (by kernel_rfl) ?_
  refine wpList_buildTo rfl 69 _ rfl (some 92) rfl (rcell 91) (by kernel_rfl) ?_
  refine wpList_buildTo rfl 69 _ rfl (some 93) rfl (rcell 92) (by kernel_rfl) ?_
  refine wpList_buildTo rfl 69 _ rfl (some 94) rfl (rcell 93) (by kernel_rfl) ?_
  refine wpList_buildTo rfl 69 _ rfl (some 95) rfl (rcell 94) (by kernel_rfl) ?_
  refine wpList_buildTo rfl 69 _ rfl (some 96) rfl (rcell 95) (by kernel_rfl) ?_
  refine wpList_buildTo rfl 69 _ rfl (some 97) rfl (rcell 96) (by kernel_rfl) ?_
  refine wpList_buildTo rfl 69 _ rfl (some 98) rfl (rcell 97) (by kernel_rfl) ?_
  refine wpList_buildTo rfl 69 _ rfl (some 99) rfl (rcell 98) (by kernel_rfl) ?_
  refine wpList_buildTo rfl 69 _ rfl (some 100) rfl (rcell 99) (by kernel_rfl) ?_
  refine wpList_buildTo rfl 69 _ rfl (some 101) rfl (rcell 100) (by kernel_rfl) ?_
  refine wpList_buildTo rfl 69 _ rfl (some 102) rfl (rcell 101) (by kernel_rfl) ?_
  refine wpList_buildTo rfl 69 _ rfl (some 103) rfl (rcell 102) (by kernel_rfl) ?_
  refine wpList_buildTo rfl 69 _ rfl (some 104) rfl (rcell 103) (by kernel_rfl) ?_
  refine wpList_buildTo rfl 69 _ rfl (some 105) rfl (rcell 104) (by kernel_rfl) ?_
  refine wpList_buildSlice rfl 66 69 105 _ rfl rbig ie _ (by kernel_rfl) hie hz (by rw [hs]; decide) (by rw [hs]; decide) (by rw [hs]; kernel_rfl) ?_
  refine wpList_plain rfl fun K hK => ?_
  refine BigFrame.wp_assign _ rfl (hK _ _ ?_)
  apply wpList_nil
  rename_i hcont
  refine hcont _ _ ?_
  apply wp_ret
  refine ⟨rfl, _, results_tmp (t := 0) rfl _ _ _, _, rfl, ?_, (Below.refl _ W).alloc (Nat.le_refl _) _⟩
  rw [show Array.getD _ 0 undef = Value.slice (some ⟨W.heap.size, 0, none⟩) 105 105 by kernel_rfl]
  exact rta_of rfl
end Go.Proofs.YtpgecdhieakilaaGreatDoor
