/-
  What is proved here: what dom.Right, dom.known, dom.Min and dom.Max return of any ranges.
-/
import Derived.Test.YtkloadlodofipaaGreatDoorXb
namespace Go.Proofs.YtkloadlodofipaaGreatDoor
open Go.RowKit

set_option maxHeartbeats 400000 in
theorem right_none (a : Option Addr) (cap : Nat) (w : World) :
    Calls Tryz.prog 17 #[.slice a 0 cap] w fun e w' => e = .returned (.bool true) ∧ Below w.heap.size w w' := by
  go_enter Tryz.func17, Tryz.ntmps17
  go_wp2
  go_loop [10] (fun i => i = .int .i64 0) (fun _ => 0)
  case atStart => rfl
  case round =>
    obtain rfl := hrel
    go_wp2
    go_ret
    exact ⟨rfl, Below.refl _ _⟩
set_option maxHeartbeats 400000 in
theorem right_long (a : Option Addr) (n cap : Nat) (w : World) (h : 4096 < n) :
    Calls Tryz.prog 17 #[.slice a n cap] w fun e w' => e = .returned (.bool false) ∧ Below w.heap.size w w' := by
  have h' : 4096 < (n : Int) := by omega
  go_enter Tryz.func17, Tryz.ntmps17
  go_wp2
  go_ret
  exact ⟨rfl, Below.refl _ _⟩
theorem right_any (s : Value) (l : List Rg) (w : World) (h : Sr w s l) (hf : FitsR l) :
    Calls Tryz.prog 17 #[s] w fun e w' => e = .returned (.bool (rightB l)) ∧ Below w.heap.size w w' := by
  obtain ⟨a, cap, rfl, hc⟩ := h
  by_cases hl : 4096 < l.length
  · rw [rightB_no (fun h => by have := h.1; omega)]
    exact right_long a _ cap w hl
  · rcases Nat.eq_zero_or_pos l.length with h0 | h0
    · rw [rightB_yes ⟨by omega, fun i hi => by omega⟩, h0]
      exact right_none a cap w
    · obtain ⟨b, off, rfl, hlt, hcell⟩ := hc h0
      exact right_some b off cap l w h0 hlt (by omega) hf hcell

/-- Ranges as they are taken. -/
theorem known_yes (s : Value) (l : List Rg) (w : World) (h : Sr w s l) (hf : FitsR l) (hR : Right l) :
    Calls Tryz.prog 62 #[s] w fun e w' => e = .returned s ∧ Below w.heap.size w w' := by
  have hc := right_any s l w h hf
  rw [rightB_yes hR] at hc
  obtain ⟨a, cap, rfl, _⟩ := h
  go_enter Tryz.func62, Tryz.ntmps62
  go_wp2_with (go_at_call 17; refine hc.mono ?_; rintro e w1 ⟨rfl, hb1⟩)
  go_ret
  exact ⟨rfl, hb1⟩
theorem known_no (s : Value) (l : List Rg) (w : World) (h : Sr w s l) (hf : FitsR l) (hR : ¬ Right l) :
    Calls Tryz.prog 62 #[s] w fun e w' => e = .returned (.slice none 0 0) ∧ Below w.heap.size w w' := by
  have hc := right_any s l w h hf
  rw [rightB_no hR] at hc
  obtain ⟨a, cap, rfl, _⟩ := h
  go_enter Tryz.func62, Tryz.ntmps62
  go_wp2_with (go_at_call 17; refine hc.mono ?_; rintro e w1 ⟨rfl, hb1⟩)
  go_ret
  exact ⟨rfl, hb1⟩

/-- There are some values, and all is right. -/
def Some' (l : List Rg) : Prop := Right l ∧ 0 < l.length
theorem min_no (s : Value) (l : List Rg) (w : World) (h : Sr w s l) (hf : FitsR l) (hR : ¬ Some' l) :
    Calls Tryz.prog 23 #[s] w fun e w' => e = .returned (.tuple #[.int .i64 0, .bool false]) ∧ Below w.heap.size w w' := by
  by_cases hr : Right l
  · have h0 : l.length = 0 := by unfold Some' at hR; apply Classical.byContradiction; intro hn; exact hR ⟨hr, by omega⟩
    have hc := known_yes s l w h hf hr
    obtain ⟨a, cap, rfl, _⟩ := h
    rw [h0] at hc ⊢
    go_enter Tryz.func23, Tryz.ntmps23
    go_wp2_with (go_at_call 62; refine hc.mono ?_; rintro e w1 ⟨rfl, hb1⟩)
    go_ret2
    exact ⟨rfl, hb1⟩
  · have hc := known_no s l w h hf hr
    obtain ⟨a, cap, rfl, _⟩ := h
    go_enter Tryz.func23, Tryz.ntmps23
    go_wp2_with (go_at_call 62; refine hc.mono ?_; rintro e w1 ⟨rfl, hb1⟩)
    go_ret2
    exact ⟨rfl, hb1⟩
theorem min_yes (s : Value) (l : List Rg) (w : World) (h : Sr w s l) (hf : FitsR l) (hR : Some' l) :
    Calls Tryz.prog 23 #[s] w fun e w' => e = .returned (.tuple #[.int .i64 (lo l 0), .bool true]) ∧ Below w.heap.size w w' := by
  have hc := known_yes s l w h hf hR.1
  obtain ⟨a, cap, rfl, hx⟩ := h
  obtain ⟨b, off, rfl, hlt, hcell⟩ := hx hR.2
  have h4 := hR.1.1
  have h0 := hR.2
  obtain ⟨c1, _⟩ := hcell 0 h0
  rw [show off + 0 * 2 = off from by omega] at c1
  obtain ⟨x, hx⟩ : ∃ x, lo l 0 = x := ⟨_, rfl⟩
  rw [hx] at c1 ⊢
  obtain ⟨n, hn⟩ : ∃ n, l.length = n := ⟨_, rfl⟩
  rw [hn] at h0 h4 hc ⊢
  have hn0 : ((n : Int) == 0) = false := by simp; omega
  clear hn hx hcell hR hf
  go_enter Tryz.func23, Tryz.ntmps23
  go_wp2_with (go_at_call 62; refine hc.mono ?_; rintro e w1 ⟨rfl, hb1⟩; have c2 := (hb1.cell (p := ⟨b, off, none⟩) hlt).trans c1)
  go_ret2
  exact ⟨rfl, hb1⟩
theorem max_yes (s : Value) (l : List Rg) (w : World) (h : Sr w s l) (hf : FitsR l) (hR : Some' l) :
    Calls Tryz.prog 25 #[s] w fun e w' => e = .returned (.tuple #[.int .i64 (hi l (l.length - 1)), .bool true]) ∧ Below w.heap.size w w' := by
  have hc := known_yes s l w h hf hR.1
  obtain ⟨a, cap, rfl, hx⟩ := h
  obtain ⟨b, off, rfl, hlt, hcell⟩ := hx hR.2
  have h4 := hR.1.1
  have h0 := hR.2
  obtain ⟨_, c1⟩ := hcell (l.length - 1) (by omega)
  obtain ⟨x, hx⟩ : ∃ x, hi l (l.length - 1) = x := ⟨_, rfl⟩
  rw [hx] at c1 ⊢
  obtain ⟨n, hn⟩ : ∃ n, l.length = n := ⟨_, rfl⟩
  rw [hn] at h0 h4 hc c1 ⊢
  have hn0 : ((n : Int) == 0) = false := by simp; omega
  have hn1 : (n : Int) - 1 = ((n - 1 : Nat) : Int) := by omega
  clear hn hx hcell hR hf
  go_enter Tryz.func25, Tryz.ntmps25
  go_wp2_with (go_at_call 62; refine hc.mono ?_; rintro e w1 ⟨rfl, hb1⟩; have c2 := (hb1.cell (p := ⟨b, off + (n - 1) * 2 + 1, none⟩) hlt).trans c1)
  go_ret2
  exact ⟨rfl, hb1⟩
end Go.Proofs.YtkloadlodofipaaGreatDoor
