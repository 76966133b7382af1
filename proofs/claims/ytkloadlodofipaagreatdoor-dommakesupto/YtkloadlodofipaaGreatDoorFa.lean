/-
  What is proved here: Max, Has and Size of any ranges (the cases that were left), and the reference's Next.
-/
import Derived.Test.YtkloadlodofipaaGreatDoorSt
namespace Go.Proofs.YtkloadlodofipaaGreatDoor
open Go.RowKit Go.Shelf
set_option linter.unusedVariables false

theorem max_no (s : Value) (l : List Rg) (w : World) (h : Sr w s l) (hf : FitsR l) (hR : ¬ Some' l) :
    Calls Tryz.prog 25 #[s] w fun e w' => e = .returned (.tuple #[.int .i64 0, .bool false]) ∧ Below w.heap.size w w' := by
  by_cases hr : Right l
  · have h0 : l.length = 0 := by unfold Some' at hR; apply Classical.byContradiction; intro hn; exact hR ⟨hr, by omega⟩
    have hc := known_yes s l w h hf hr
    obtain ⟨a, cap, rfl, _⟩ := h
    rw [h0] at hc ⊢
    go_enter Tryz.func25, Tryz.ntmps25
    go_wp2_with (go_at_call 62; refine hc.mono ?_; rintro e w1 ⟨rfl, hb1⟩)
    go_ret2
    exact ⟨rfl, hb1⟩
  · have hc := known_no s l w h hf hr
    obtain ⟨a, cap, rfl, _⟩ := h
    go_enter Tryz.func25, Tryz.ntmps25
    go_wp2_with (go_at_call 62; refine hc.mono ?_; rintro e w1 ⟨rfl, hb1⟩)
    go_ret2
    exact ⟨rfl, hb1⟩

/-- The least and the greatest value, and whether there is one. -/
def minR (l : List Rg) : Int × Bool := stp (vals (tk l)) 0
def maxR (l : List Rg) : Int × Bool := if 0 < (tk l).length then (hi l (l.length - 1), true) else (0, false)
theorem tk_some {l : List Rg} (h : Some' l) : 0 < (tk l).length := by rw [tk_yes h.1]; exact h.2
theorem dommax_any (s : Value) (l : List Rg) (w : World) (h : Sr w s l) (hf : FitsR l) :
    Calls Tryz.prog 25 #[s] w fun e w' => e = .returned (.tuple #[.int .i64 (maxR l).1, .bool (maxR l).2]) ∧ Below w.heap.size w w' := by
  by_cases hR : Some' l
  · unfold maxR
    rw [if_pos (tk_some hR)]
    exact max_yes s l w h hf hR
  · unfold maxR
    rw [if_neg (by rw [tk_none hR]; simp)]
    exact max_no s l w h hf hR
theorem refmax_any (s : Value) (l : List Rg) (w : World) (h : Sr w s l) :
    Calls Tryz.prog 26 #[s] w fun e w' => e = .returned (.tuple #[.int .i64 (maxR l).1, .bool (maxR l).2]) ∧ Below w.heap.size w w' := by
  by_cases hR : Some' l
  · unfold maxR
    rw [if_pos (tk_some hR)]
    refine (refmax_yes s l w h hR).mono ?_
    rintro e w' ⟨he, n, rfl⟩
    exact ⟨he, below_drewN (Below.refl _ _) _⟩
  · unfold maxR
    rw [if_neg (by rw [tk_none hR]; simp)]
    refine (refmax_no s l w h hR).mono ?_
    rintro e w' ⟨he, n, rfl⟩
    exact ⟨he, below_drewN (Below.refl _ _) _⟩
theorem refmin_any (s : Value) (l : List Rg) (w : World) (h : Sr w s l) :
    Calls Tryz.prog 24 #[s] w fun e w' => e = .returned (.tuple #[.int .i64 (stp (vals (tk l)) 0).1, .bool (stp (vals (tk l)) 0).2]) ∧ Below w.heap.size w w' := by
  by_cases hR : Some' l
  · have hv := vals_first hR
    rw [tk_yes hR.1]
    refine (refmin_yes s l w h hR).mono ?_
    rintro e w' ⟨he, n, rfl⟩
    refine ⟨?_, below_drewN (Below.refl _ _) _⟩
    rw [he]; unfold stp; simp only [hv.2, hv.1, decide_true]
  · rw [tk_none hR]
    refine (refmin_no s l w h hR).mono ?_
    rintro e w' ⟨he, n, rfl⟩
    exact ⟨he, below_drewN (Below.refl _ _) _⟩

set_option maxHeartbeats 1000000 in
theorem refhas_no (s : Value) (l : List Rg) (v : Int) (w : World) (h : Sr w s l) (hR : ¬ Right l) :
    Calls Tryz.prog 30 #[s, .int .i64 v] w fun e w' => e = .returned (.bool false) ∧ Below w.heap.size w w' := by
  have hc := taken_no s l w h hR
  obtain ⟨a, cap, rfl, hcell⟩ := h
  clear hcell hR
  go_enter Tryz.func30, Tryz.ntmps30
  go_wp2_with (go_at_call 63; refine hc.mono ?_; rintro e w1 ⟨rfl, n1, rfl⟩)
  go_loop [5] (fun i => i = .int .i64 0) (fun _ => 0)
  case atStart => exact rfl
  case round =>
    obtain rfl := hrel
    go_wp2
    go_ret
    exact ⟨rfl, below_drewN (Below.refl _ _) _⟩
theorem hasR_vals (l : List Rg) (v : Int) : hasR l v = decide (v ∈ vals l) := by
  unfold hasR
  rw [Bool.eq_iff_iff, List.any_eq_true, decide_eq_true_iff, mem_vals']
  simp
theorem refhas_any (s : Value) (l : List Rg) (v : Int) (w : World) (h : Sr w s l) :
    Calls Tryz.prog 30 #[s, .int .i64 v] w fun e w' => e = .returned (.bool (hasV l v)) ∧ Below w.heap.size w w' := by
  unfold hasV
  by_cases hR : Right l
  · rw [tk_yes hR, ← hasR_vals]
    refine (refhas_yes s l v w h hR).mono ?_
    rintro e w' ⟨he, n, rfl⟩
    exact ⟨he, below_drewN (Below.refl _ _) _⟩
  · rw [tk_no hR]
    exact refhas_no s l v w h hR

set_option maxHeartbeats 1000000 in
theorem refsize_no (s : Value) (l : List Rg) (w : World) (h : Sr w s l) (hR : ¬ Right l) :
    Calls Tryz.prog 32 #[s] w fun e w' => e = .returned (.int .i64 0) ∧ Below w.heap.size w w' := by
  have hc := taken_no s l w h hR
  obtain ⟨a, cap, rfl, hcell⟩ := h
  clear hcell hR
  go_enter Tryz.func32, Tryz.ntmps32
  go_wp2_with (go_at_call 63; refine hc.mono ?_; rintro e w1 ⟨rfl, n1, rfl⟩)
  go_loop [3, 4] (fun sv i => i = .int .i64 0 ∧ sv = .int .i64 0) (fun _ _ => 0)
  case atStart => exact ⟨rfl, rfl⟩
  case round =>
    obtain ⟨rfl, rfl⟩ := hrel
    go_wp2
    go_ret
    exact ⟨rfl, below_drewN (Below.refl _ _) _⟩
set_option maxHeartbeats 1000000 in
theorem domsize_no (s : Value) (l : List Rg) (w : World) (h : Sr w s l) (hf : FitsR l) (hR : ¬ Right l) :
    Calls Tryz.prog 31 #[s] w fun e w' => e = .returned (.int .i64 0) ∧ Below w.heap.size w w' := by
  have hc := known_no s l w h hf hR
  obtain ⟨a, cap, rfl, hcell⟩ := h
  clear hcell hR hf
  go_enter Tryz.func31, Tryz.ntmps31
  go_wp2_with (go_at_call 62; refine hc.mono ?_; rintro e w1 ⟨rfl, hb1⟩)
  go_loop [3, 9] (fun sv i => i = .int .i64 0 ∧ sv = .int .i64 0) (fun _ _ => 0)
  case atStart => exact ⟨rfl, rfl⟩
  case round =>
    obtain ⟨rfl, rfl⟩ := hrel
    go_wp2
    go_ret
    exact ⟨rfl, hb1⟩
theorem refsize_any (s : Value) (l : List Rg) (w : World) (h : Sr w s l) :
    Calls Tryz.prog 32 #[s] w fun e w' => e = .returned (.int .i64 (sizeR (tk l))) ∧ Below w.heap.size w w' := by
  by_cases hR : Right l
  · rw [tk_yes hR]
    refine (refsize_yes s l w h hR).mono ?_
    rintro e w' ⟨he, n, rfl⟩
    exact ⟨he, below_drewN (Below.refl _ _) _⟩
  · rw [tk_no hR]
    exact refsize_no s l w h hR
theorem domsize_any (s : Value) (l : List Rg) (w : World) (h : Sr w s l) (hf : FitsR l) :
    Calls Tryz.prog 31 #[s] w fun e w' => e = .returned (.int .i64 (sizeR (tk l))) ∧ Below w.heap.size w w' := by
  by_cases hR : Right l
  · rw [tk_yes hR]; exact domsize_yes s l w h hf hR
  · rw [tk_no hR]
    exact domsize_no s l w h hf hR

set_option maxHeartbeats 2000000 in
theorem refnext_yes (s : Value) (l : List Rg) (v : Int) (w : World) (h : Sr w s l) (hR : Right l) :
    Calls Tryz.prog 28 #[s, .int .i64 v] w fun e w' => e = .returned (.tuple #[.int .i64 (nextR l v).1, .bool (nextR l v).2]) ∧ Below w.heap.size w w' := by
  have hc := taken_yes s l w h hR
  have hlen := hR.1
  obtain ⟨a, cap, rfl, hcell⟩ := h
  obtain ⟨n, hn⟩ : ∃ n, l.length = n := ⟨_, rfl⟩
  have HN : Hid (l.length = n) := hn
  have HC : Hid _ := hcell
  rw [hn] at hc hlen ⊢
  clear hn hcell hR
  go_enter Tryz.func28, Tryz.ntmps28
  go_wp2_with (go_at_call 63; refine hc.mono ?_; rintro e w1 ⟨rfl, n1, rfl⟩)
  go_loopw [4, 5, 6] (fun x4 x5 i wr => ∃ (k m : Nat), k ≤ n ∧ i = .int .i64 k ∧ x4 = .int .i64 0 ∧ x5 = .bool false ∧ (∀ j, j < k → hi l j < v) ∧ wr = w.drewN m) (fun _ _ i _ => n - (intOf i).toNat)
  case atStart => exact ⟨0, n1, by omega, rfl, rfl, rfl, fun j hj => by omega, rfl⟩
  case round =>
    obtain ⟨k, m, hk, rfl, rfl, rfl, hall, rfl⟩ := hrel
    by_cases hlt : k < n
    · have hkl : k < l.length := by rw [HN.out]; exact hlt
      obtain ⟨b, off, rfl, hb, hcells⟩ := HC.out (by omega)
      obtain ⟨c1, c2⟩ := hcells k hkl
      have d1 : (w.drewN m).cell? ⟨b, off + k * 2, none⟩ = _ := c1
      have d2 : (w.drewN m).cell? ⟨b, off + k * 2 + 1, none⟩ = _ := c2
      have hat := next_at l v k hkl hall
      obtain ⟨x, hx⟩ : ∃ x, lo l k = x := ⟨_, rfl⟩
      obtain ⟨y, hy⟩ : ∃ y, hi l k = y := ⟨_, rfl⟩
      rw [hx, hy] at hat
      rw [hx] at d1; rw [hy] at d2
      have hlt' : (k : Int) < (n : Int) := by omega
      have HAT : Hid (v ≤ y → nextR l v = (if v ≤ x then x else v, true)) := hat
      have HALL : Hid (∀ j, j < k → hi l j < v) := hall
      have HY : Hid (hi l k = y) := hy
      clear c1 c2 hcells hx hat hall hy
      by_cases h2 : v ≤ y
      · by_cases h1 : v < x
        · have e1 : nextR l v = (x, true) := by rw [HAT.out h2, if_pos (by omega)]
          have E1 : Hid (nextR l v = (x, true)) := e1
          clear e1
          go_wp2
          go_ret2
          exact ⟨by rw [E1.out]; rfl, below_drewN (Below.refl _ _) _⟩
        · have e1 : nextR l v = (v, true) := by
            rw [HAT.out h2]
            by_cases h3 : v ≤ x
            · rw [if_pos h3, show x = v by omega]
            · rw [if_neg h3]
          have E1 : Hid (nextR l v = (v, true)) := e1
          clear e1
          go_wp2
          go_ret2
          exact ⟨by rw [E1.out]; rfl, below_drewN (Below.refl _ _) _⟩
      · go_wp2
        go_roundw
        case rel => exact ⟨k + 1, _, by omega, by go_num, rfl, rfl, fun j hj => if h : j = k then by subst h; rw [HY.out]; omega else HALL.out j (by omega), rfl⟩
        case measure => simp [intOf]; omega
    · have hkn : k = n := by omega
      subst hkn
      have e1 := next_none l v (fun i hi' => hall i (by rw [HN.out] at hi'; exact hi'))
      go_wp2
      go_ret2
      exact ⟨by rw [e1]; rfl, below_drewN (Below.refl _ _) _⟩
set_option maxHeartbeats 1000000 in
theorem refnext_no (s : Value) (l : List Rg) (v : Int) (w : World) (h : Sr w s l) (hR : ¬ Right l) :
    Calls Tryz.prog 28 #[s, .int .i64 v] w fun e w' => e = .returned (.tuple #[.int .i64 0, .bool false]) ∧ Below w.heap.size w w' := by
  have hc := taken_no s l w h hR
  obtain ⟨a, cap, rfl, hcell⟩ := h
  clear hcell hR
  go_enter Tryz.func28, Tryz.ntmps28
  go_wp2_with (go_at_call 63; refine hc.mono ?_; rintro e w1 ⟨rfl, n1, rfl⟩)
  go_loop [6] (fun i => i = .int .i64 0) (fun _ => 0)
  case atStart => exact rfl
  case round =>
    obtain rfl := hrel
    go_wp2
    go_ret2
    exact ⟨rfl, below_drewN (Below.refl _ _) _⟩
theorem refnext_any (s : Value) (l : List Rg) (v : Int) (w : World) (h : Sr w s l) :
    Calls Tryz.prog 28 #[s, .int .i64 v] w fun e w' => e = .returned (.tuple #[.int .i64 (nextR (tk l) v).1, .bool (nextR (tk l) v).2]) ∧ Below w.heap.size w w' := by
  by_cases hR : Right l
  · rw [tk_yes hR]; exact refnext_yes s l v w h hR
  · rw [tk_no hR]; exact refnext_no s l v w h hR
end Go.Proofs.YtkloadlodofipaaGreatDoor
