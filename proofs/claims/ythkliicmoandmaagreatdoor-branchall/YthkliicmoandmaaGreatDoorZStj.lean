/-
  What is proved here: the walk of DomSteps.
  What is proved here: Max, Has and Size of any ranges (the cases that were left), and the reference's Next.
-/
import Derived.Test.YthkliicmoandmaaGreatDoorZEfj
import Derived.Lib.AppendStr
import Derived.Lib.AppendIntMem
import Derived.Lib.ItoaLen
import Derived.Laws.IdiomStrings
import Derived.OwnWalk
import Derived.Lib.SmallJoins
import Derived.Test.YthkliicmoandmaaGreatDoorZDe
import Derived.Maps.AppendAt
import Derived.Test.YthkliicmoandmaaGreatDoorZXfj
namespace Go.Proofs.YthkliicmoandmaaGreatDoor.Dm
set_option linter.unusedSimpArgs false
set_option linter.unusedVariables false
open Go.RowKit Go.Shelf
set_option linter.unusedVariables false

theorem vals_bounds {l : List Rg} (h : Right l) : ∀ v ∈ vals l, -1000000 ≤ v ∧ v ≤ 1000000 := fun v hv => by
  obtain ⟨r, hr, h1, h2⟩ := (mem_vals' l v).1 hv
  have := (right_ord h).2 r hr
  omega
end Go.Proofs.YthkliicmoandmaaGreatDoor.Dm


namespace Go.Proofs.YthkliicmoandmaaGreatDoor.Dm
set_option linter.unusedSimpArgs false
set_option linter.unusedVariables false
open Go.RowKit Go.Shelf
set_option linter.unusedVariables false

set_option maxHeartbeats 1000000 in
theorem refsize_no (s : Value) (l : List Rg) (w : World) (h : Sr w s l) (hR : ¬ Right l) :
    Calls Tryz.prog 67 #[s] w fun e w' => e = .returned (.int .i64 0) ∧ Below w.heap.size w w' := by
  have hc := taken_no s l w h hR
  obtain ⟨a, cap, rfl, hcell⟩ := h
  clear hcell hR
  go_enter Tryz.func67, Tryz.ntmps67
  go_wp2_with (go_at_call 99; refine hc.mono ?_; rintro e w1 ⟨rfl, n1, rfl⟩)
  go_loop [3, 4] (fun sv i => i = .int .i64 0 ∧ sv = .int .i64 0) (fun _ _ => 0)
  case atStart => exact ⟨rfl, rfl⟩
  case round =>
    obtain ⟨rfl, rfl⟩ := hrel
    go_wp2
    go_ret
    exact ⟨rfl, below_drewN (Below.refl _ _) _⟩
set_option maxHeartbeats 1000000 in
theorem domsize_no (s : Value) (l : List Rg) (w : World) (h : Sr w s l) (hf : FitsR l) (hR : ¬ Right l) :
    Calls Tryz.prog 80 #[s] w fun e w' => e = .returned (.int .i64 0) ∧ Below w.heap.size w w' := by
  have hc := known_no s l w h hf hR
  obtain ⟨a, cap, rfl, hcell⟩ := h
  clear hcell hR hf
  go_enter Tryz.func80, Tryz.ntmps80
  go_wp2_with (go_at_call 125; refine hc.mono ?_; rintro e w1 ⟨rfl, hb1⟩)
  go_loop [3, 9] (fun sv i => i = .int .i64 0 ∧ sv = .int .i64 0) (fun _ _ => 0)
  case atStart => exact ⟨rfl, rfl⟩
  case round =>
    obtain ⟨rfl, rfl⟩ := hrel
    go_wp2
    go_ret
    exact ⟨rfl, hb1⟩
theorem refsize_any (s : Value) (l : List Rg) (w : World) (h : Sr w s l) :
    Calls Tryz.prog 67 #[s] w fun e w' => e = .returned (.int .i64 (sizeR (tk l))) ∧ Below w.heap.size w w' := by
  by_cases hR : Right l
  · rw [tk_yes hR]
    refine (refsize_yes s l w h hR).mono ?_
    rintro e w' ⟨he, n, rfl⟩
    exact ⟨he, below_drewN (Below.refl _ _) _⟩
  · rw [tk_no hR]
    exact refsize_no s l w h hR
theorem domsize_any (s : Value) (l : List Rg) (w : World) (h : Sr w s l) (hf : FitsR l) :
    Calls Tryz.prog 80 #[s] w fun e w' => e = .returned (.int .i64 (sizeR (tk l))) ∧ Below w.heap.size w w' := by
  by_cases hR : Right l
  · rw [tk_yes hR]; exact domsize_yes s l w h hf hR
  · rw [tk_no hR]
    exact domsize_no s l w h hf hR

end Go.Proofs.YthkliicmoandmaaGreatDoor.Dm

