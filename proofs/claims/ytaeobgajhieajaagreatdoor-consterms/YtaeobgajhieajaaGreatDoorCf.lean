/-
  What is proved here: the form and the family of a name, as package cons tells them.
-/
import Derived.Test.YtaeobgajhieajaaGreatDoorCe
namespace Go.Proofs.YtaeobgajhieajaaGreatDoor
open Go.RowKit Go.Shelf
set_option linter.unusedVariables false
set_option linter.unusedSimpArgs false

set_option maxRecDepth 100000 in
set_option maxHeartbeats 4000000 in
theorem form_any (nm : List UInt8) (W : World) (hM : MaxL W) :
    Calls Tryz.prog 10 #[.string ⟨nm.toArray⟩] W fun e w' => e = .returned (.string ⟨(findT nm).2.toArray⟩) ∧ Below W.heap.size W w' := by
  have k40 := find_any nm W hM
  generalize (findT nm).1 = x at k40 ⊢
  generalize (findT nm).2 = y at k40 ⊢
  clear hM
  go_enter Tryz.func10, Tryz.ntmps10
  go_wp2_with fail
  refine k40.mono ?_
  rintro e w1 ⟨rfl, hb⟩
  have hfd : ∀ w : World, (Instr.field 72 (.agg #[.string ⟨x.toArray⟩, .string ⟨y.toArray⟩]) 1).run Tryz.prog w = .ok (.string ⟨y.toArray⟩) w := fun _ => by first | rfl | with_unfolding_all rfl
  go_wp2
  go_ret
  exact ⟨rfl, hb⟩

set_option maxRecDepth 100000 in
set_option maxHeartbeats 4000000 in
theorem family_any (nm : List UInt8) (W : World) (hM : MaxL W) :
    Calls Tryz.prog 12 #[.string ⟨nm.toArray⟩] W fun e w' => e = .returned (.string ⟨(findT nm).1.toArray⟩) ∧ Below W.heap.size W w' := by
  have k40 := find_any nm W hM
  generalize (findT nm).1 = x at k40 ⊢
  generalize (findT nm).2 = y at k40 ⊢
  clear hM
  go_enter Tryz.func12, Tryz.ntmps12
  go_wp2_with fail
  refine k40.mono ?_
  rintro e w1 ⟨rfl, hb⟩
  have hfd : ∀ w : World, (Instr.field 72 (.agg #[.string ⟨x.toArray⟩, .string ⟨y.toArray⟩]) 0).run Tryz.prog w = .ok (.string ⟨x.toArray⟩) w := fun _ => by first | rfl | with_unfolding_all rfl
  go_wp2
  go_ret
  exact ⟨rfl, hb⟩
end Go.Proofs.YtaeobgajhieajaaGreatDoor
