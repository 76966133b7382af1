/-
  What is proved here: how many values any ranges have.
-/
import Derived.Test.YtogankopiechcaaZDc
import Derived.Test.YtogankopiechcaaZEf
namespace Go.Proofs.Ytogankopiechcaa.Dm
set_option linter.unusedSimpArgs false
set_option linter.unusedVariables false
open Go.RowKit
set_option maxHeartbeats 1000000 in
theorem domsize_no (s : Value) (l : List Rg) (w : World) (h : Sr w s l) (hf : FitsR l) (hR : ¬ Right l) :
    Calls Try.prog 38 #[s] w fun e w' => e = .returned (.int .i64 0) ∧ Below w.heap.size w w' := by
  have hc := known_no s l w h hf hR
  obtain ⟨a, cap, rfl, hcell⟩ := h
  clear hcell hR hf
  go_enter Try.func38, Try.ntmps38
  go_wp2_with (go_at_call 51; refine hc.mono ?_; rintro e w1 ⟨rfl, hb1⟩)
  go_loop [3, 9] (fun sv i => i = .int .i64 0 ∧ sv = .int .i64 0) (fun _ _ => 0)
  case atStart => exact ⟨rfl, rfl⟩
  case round =>
    obtain ⟨rfl, rfl⟩ := hrel
    go_wp2
    go_ret
    exact ⟨rfl, hb1⟩
theorem domsize_any (s : Value) (l : List Rg) (w : World) (h : Sr w s l) (hf : FitsR l) :
    Calls Try.prog 38 #[s] w fun e w' => e = .returned (.int .i64 (sizeR (tk l))) ∧ Below w.heap.size w w' := by
  by_cases hR : Right l
  · rw [tk_yes hR]; exact domsize_yes s l w h hf hR
  · rw [tk_no hR]
    exact domsize_no s l w h hf hR

end Go.Proofs.Ytogankopiechcaa.Dm
