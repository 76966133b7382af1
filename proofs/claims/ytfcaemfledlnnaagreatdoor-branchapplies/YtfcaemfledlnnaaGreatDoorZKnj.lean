/-
  What is proved here: what the law's fixed calls come to.
  What is proved here: the walk of DomSteps.
  What is proved here: Max, Has and Size of any ranges (the cases that were left), and the reference's Next.
-/
import Derived.Test.YtfcaemfledlnnaaGreatDoorZPa
import Derived.Test.YtfcaemfledlnnaaGreatDoorZDe
import Derived.Test.YtfcaemfledlnnaaGreatDoorZEfj
import Derived.Maps.AppendAt
import Derived.Test.YtfcaemfledlnnaaGreatDoorZXfj
namespace Go.Proofs.YtfcaemfledlnnaaGreatDoor.Dm
set_option linter.unusedSimpArgs false
set_option linter.unusedVariables false
open Go.RowKit Go.Shelf
set_option linter.unusedVariables false

theorem Sr.two (w : World) (x y x' y' : Int) : Sr (w.alloc (.cells #[.int .i64 x, .int .i64 y, .int .i64 x', .int .i64 y'] 92)) (.slice (some ⟨w.heap.size, 0, none⟩) 2 2) [(x, y), (x', y')] := by
  have hnw := World.alloc_heap_new w (Obj.cells #[.int .i64 x, .int .i64 y, .int .i64 x', .int .i64 y'] 92)
  refine ⟨_, 2, rfl, fun _ => ⟨w.heap.size, 0, rfl, by simp, fun i hi' => ?_⟩⟩
  have h9 : i = 0 ∨ i = 1 := by simp at hi'; omega
  rcases h9 with rfl | rfl
  · exact ⟨by simp only [World.cell?, hnw]; rfl, by simp only [World.cell?, hnw]; rfl⟩
  · exact ⟨by simp only [World.cell?, hnw]; rfl, by simp only [World.cell?, hnw]; rfl⟩
end Go.Proofs.YtfcaemfledlnnaaGreatDoor.Dm



namespace Go.Proofs.YtfcaemfledlnnaaGreatDoor.Dm
set_option linter.unusedSimpArgs false
set_option linter.unusedVariables false
open Go.RowKit Go.Shelf
set_option linter.unusedVariables false

/-- The value at a place, and whether there is one. -/
def stp (vs : List Int) (k : Nat) : Int × Bool := (vs[k]?.getD 0, decide (k < vs.length))
theorem vals_bounds {l : List Rg} (h : Right l) : ∀ v ∈ vals l, -1000000 ≤ v ∧ v ≤ 1000000 := fun v hv => by
  obtain ⟨r, hr, h1, h2⟩ := (mem_vals' l v).1 hv
  have := (right_ord h).2 r hr
  omega
theorem vals_first {l : List Rg} (h : Some' l) : 0 < (vals l).length ∧ (vals l)[0]?.getD 0 = lo l 0 := by
  obtain ⟨hR, h0⟩ := h
  cases l with
  | nil => simp at h0
  | cons r t =>
    have hr : r.1 ≤ r.2 := (right_ord hR).1.1 r (by simp)
    have e : vals (r :: t) = span r.1 r.2 ++ vals t := by unfold vals; rw [List.flatMap_cons]
    have hl := span_length r.1 r.2
    rw [e, List.length_append]
    refine ⟨by omega, ?_⟩
    rw [List.getElem?_append_left (by omega)]
    obtain ⟨n, hn⟩ : ∃ n, (r.2 + 1 - r.1).toNat = n + 1 := ⟨(r.2 - r.1).toNat, by omega⟩
    have : span r.1 r.2 = r.1 :: ((List.range n).map fun j : Nat => r.1 + ((j + 1 : Nat) : Int)) := by
      unfold span
      rw [hn, List.range_succ_eq_map, List.map_cons, List.map_map]
      simp
    rw [this]
    simp [lo]
theorem tk_none {l : List Rg} (h : ¬ Some' l) : tk l = [] := by
  unfold tk
  split
  · rename_i hr
    exact List.eq_nil_of_length_eq_zero (by apply Classical.byContradiction; intro hn; exact h ⟨hr, by omega⟩)
  · rfl
end Go.Proofs.YtfcaemfledlnnaaGreatDoor.Dm



namespace Go.Proofs.YtfcaemfledlnnaaGreatDoor.Dm
set_option linter.unusedSimpArgs false
set_option linter.unusedVariables false
open Go.RowKit Go.Shelf
set_option linter.unusedVariables false

def maxR (l : List Rg) : Int × Bool := if 0 < (tk l).length then (hi l (l.length - 1), true) else (0, false)
theorem tk_some {l : List Rg} (h : Some' l) : 0 < (tk l).length := by rw [tk_yes h.1]; exact h.2
theorem refmax_any (s : Value) (l : List Rg) (w : World) (h : Sr w s l) :
    Calls Tryz.prog 127 #[s] w fun e w' => e = .returned (.tuple #[.int .i64 (maxR l).1, .bool (maxR l).2]) ∧ Below w.heap.size w w' := by
  by_cases hR : Some' l
  · unfold maxR
    rw [if_pos (tk_some hR)]
    refine (refmax_yes s l w h hR).mono ?_
    rintro e w' ⟨he, n, rfl⟩
    exact ⟨he, below_drewN (Below.refl _ _) _⟩
  · unfold maxR
    rw [if_neg (by rw [tk_none hR]; simp)]
    refine (refmax_no s l w h hR).mono ?_
    rintro e w' ⟨he, n, rfl⟩
    exact ⟨he, below_drewN (Below.refl _ _) _⟩
theorem refmin_any (s : Value) (l : List Rg) (w : World) (h : Sr w s l) :
    Calls Tryz.prog 126 #[s] w fun e w' => e = .returned (.tuple #[.int .i64 (stp (vals (tk l)) 0).1, .bool (stp (vals (tk l)) 0).2]) ∧ Below w.heap.size w w' := by
  by_cases hR : Some' l
  · have hv := vals_first hR
    rw [tk_yes hR.1]
    refine (refmin_yes s l w h hR).mono ?_
    rintro e w' ⟨he, n, rfl⟩
    refine ⟨?_, below_drewN (Below.refl _ _) _⟩
    rw [he]; unfold stp; simp only [hv.2, hv.1, decide_true]
  · rw [tk_none hR]
    refine (refmin_no s l w h hR).mono ?_
    rintro e w' ⟨he, n, rfl⟩
    exact ⟨he, below_drewN (Below.refl _ _) _⟩

set_option maxHeartbeats 1000000 in
theorem refhas_no (s : Value) (l : List Rg) (v : Int) (w : World) (h : Sr w s l) (hR : ¬ Right l) :
    Calls Tryz.prog 114 #[s, .int .i64 v] w fun e w' => e = .returned (.bool false) ∧ Below w.heap.size w w' := by
  have hc := taken_no s l w h hR
  obtain ⟨a, cap, rfl, hcell⟩ := h
  clear hcell hR
  go_enter Tryz.func114, Tryz.ntmps114
  go_wp2_with (go_at_call 99; refine hc.mono ?_; rintro e w1 ⟨rfl, n1, rfl⟩)
  go_loop [5] (fun i => i = .int .i64 0) (fun _ => 0)
  case atStart => exact rfl
  case round =>
    obtain rfl := hrel
    go_wp2
    go_ret
    exact ⟨rfl, below_drewN (Below.refl _ _) _⟩
theorem hasR_vals (l : List Rg) (v : Int) : hasR l v = decide (v ∈ vals l) := by
  unfold hasR
  rw [Bool.eq_iff_iff, List.any_eq_true, decide_eq_true_iff, mem_vals']
  simp
theorem refhas_any (s : Value) (l : List Rg) (v : Int) (w : World) (h : Sr w s l) :
    Calls Tryz.prog 114 #[s, .int .i64 v] w fun e w' => e = .returned (.bool (hasV l v)) ∧ Below w.heap.size w w' := by
  unfold hasV
  by_cases hR : Right l
  · rw [tk_yes hR, ← hasR_vals]
    refine (refhas_yes s l v w h hR).mono ?_
    rintro e w' ⟨he, n, rfl⟩
    exact ⟨he, below_drewN (Below.refl _ _) _⟩
  · rw [tk_no hR]
    exact refhas_no s l v w h hR

set_option maxHeartbeats 1000000 in
theorem refsize_no (s : Value) (l : List Rg) (w : World) (h : Sr w s l) (hR : ¬ Right l) :
    Calls Tryz.prog 67 #[s] w fun e w' => e = .returned (.int .i64 0) ∧ Below w.heap.size w w' := by
  have hc := taken_no s l w h hR
  obtain ⟨a, cap, rfl, hcell⟩ := h
  clear hcell hR
  go_enter Tryz.func67, Tryz.ntmps67
  go_wp2_with (go_at_call 99; refine hc.mono ?_; rintro e w1 ⟨rfl, n1, rfl⟩)
  go_loop [3, 4] (fun sv i => i = .int .i64 0 ∧ sv = .int .i64 0) (fun _ _ => 0)
  case atStart => exact ⟨rfl, rfl⟩
  case round =>
    obtain ⟨rfl, rfl⟩ := hrel
    go_wp2
    go_ret
    exact ⟨rfl, below_drewN (Below.refl _ _) _⟩
set_option maxHeartbeats 1000000 in
theorem domsize_no (s : Value) (l : List Rg) (w : World) (h : Sr w s l) (hf : FitsR l) (hR : ¬ Right l) :
    Calls Tryz.prog 80 #[s] w fun e w' => e = .returned (.int .i64 0) ∧ Below w.heap.size w w' := by
  have hc := known_no s l w h hf hR
  obtain ⟨a, cap, rfl, hcell⟩ := h
  clear hcell hR hf
  go_enter Tryz.func80, Tryz.ntmps80
  go_wp2_with (go_at_call 125; refine hc.mono ?_; rintro e w1 ⟨rfl, hb1⟩)
  go_loop [3, 9] (fun sv i => i = .int .i64 0 ∧ sv = .int .i64 0) (fun _ _ => 0)
  case atStart => exact ⟨rfl, rfl⟩
  case round =>
    obtain ⟨rfl, rfl⟩ := hrel
    go_wp2
    go_ret
    exact ⟨rfl, hb1⟩
theorem refsize_any (s : Value) (l : List Rg) (w : World) (h : Sr w s l) :
    Calls Tryz.prog 67 #[s] w fun e w' => e = .returned (.int .i64 (sizeR (tk l))) ∧ Below w.heap.size w w' := by
  by_cases hR : Right l
  · rw [tk_yes hR]
    refine (refsize_yes s l w h hR).mono ?_
    rintro e w' ⟨he, n, rfl⟩
    exact ⟨he, below_drewN (Below.refl _ _) _⟩
  · rw [tk_no hR]
    exact refsize_no s l w h hR
theorem domsize_any (s : Value) (l : List Rg) (w : World) (h : Sr w s l) (hf : FitsR l) :
    Calls Tryz.prog 80 #[s] w fun e w' => e = .returned (.int .i64 (sizeR (tk l))) ∧ Below w.heap.size w w' := by
  by_cases hR : Right l
  · rw [tk_yes hR]; exact domsize_yes s l w h hf hR
  · rw [tk_no hR]
    exact domsize_no s l w h hf hR

end Go.Proofs.YtfcaemfledlnnaaGreatDoor.Dm


