/-
  What is proved here: what the reference's New makes.
-/
import Derived.Test.YtgcgomofmicchaaDoorYj
import Derived.Deep.OwnRows
namespace Go.Proofs.YtgcgomofmicchaaDoor
open Go.RowKit Go.Shelf

theorem Tryd.info4 : (Tryd.prog.info? 4).map (fun i => (i.zero, i.size, i.bytes)) = some (some (.bool false), 1, 1) := by kernel_rfl
theorem lat_range (p : Nat → Bool) (n k : Nat) (hk : k < n) : lat ((List.range n).map p) k = p k := by unfold lat; simp [hk]
theorem ref_of {W : World} {b g n : Nat} {f : Int} {p : Nat → Bool} (hn : n ≤ 65536) (h1 : W.heap[b]? = some (.cells #[.int .i64 f, .slice (some ⟨g, 0, none⟩) n n] 40 (0, 0))) (h2 : W.rowIs g 4 n (fun i => .bool (p i))) : Ref W b g n f ((List.range n).map p) := by
  obtain ⟨cur, hc, hs, hx⟩ := h2
  have hl : ((List.range n).map p).length = n := by simp
  refine ⟨by rw [hl]; exact h1, by simp [bools], .inr ⟨g, n, cur, by rw [hl], Nat.zero_le _, hc, by rw [hl]; exact Nat.le_refl _, by unfold maxLen; omega, by omega, ?_⟩⟩
  rw [hl, Nat.mul_one]
  apply List.ext_getElem?
  intro i
  rw [List.getElem?_take]
  by_cases hi : i < n
  · rw [if_pos hi]
    have := hx i hi
    simp [bools, hi] at this ⊢
    exact this
  · rw [if_neg hi, List.getElem?_eq_none (by simp [bools]; omega)]

set_option maxHeartbeats 1000000 in
theorem refnew_dom (f t : Int) (w : World) (h : ¬ (-1000000 ≤ f ∧ t ≤ 1000000 ∧ f ≤ t)) :
    Calls Tryd.prog 12 #[.int .i64 f, .int .i64 t] w fun e w' => e = .returned (.tuple #[.pointer none, .int .i64 20]) ∧ w' = w := by
  by_cases h1 : f < -1000000
  · have d1 : decide (f < -1000000) = true := by simpa using h1
    go_enter Tryd.func12, Tryd.ntmps12
    go_wp2
    go_ret2
    exact ⟨rfl, rfl⟩
  · have d1 : decide (f < -1000000) = false := by simpa using h1
    by_cases h2 : 1000000 < t
    · have d2 : decide (1000000 < t) = true := by simpa using h2
      go_enter Tryd.func12, Tryd.ntmps12
      go_wp2
      go_ret2
      exact ⟨rfl, rfl⟩
    · have d2 : decide (1000000 < t) = false := by simpa using h2
      have h3 : t < f := by omega
      have d3 : decide (t < f) = true := by simpa using h3
      go_enter Tryd.func12, Tryd.ntmps12
      go_wp2
      go_ret2
      exact ⟨rfl, rfl⟩
set_option maxHeartbeats 1000000 in
theorem refnew_full (f t : Int) (w : World) (h1 : -1000000 ≤ f) (h2 : t ≤ 1000000) (h3 : f ≤ t) (h4 : 65536 ≤ t - f) :
    Calls Tryd.prog 12 #[.int .i64 f, .int .i64 t] w fun e w' => e = .returned (.tuple #[.pointer none, .int .i64 4]) ∧ w' = w := by
  have d1 : decide (f < -1000000) = false := by simp; omega
  have d2 : decide (1000000 < t) = false := by simp; omega
  have d3 : decide (t < f) = false := by simp; omega
  go_enter Tryd.func12, Tryd.ntmps12
  go_wp2
  go_ret2
  exact ⟨rfl, rfl⟩
set_option maxHeartbeats 1000000 in
theorem refnew_yes (f t : Int) (n : Nat) (w : World) (h1 : -1000000 ≤ f) (h2 : t ≤ 1000000) (h3 : f ≤ t) (h4 : t - f < 65536) (hn : t - f + 1 = (n : Int)) :
    Calls Tryd.prog 12 #[.int .i64 f, .int .i64 t] w fun e w' => e = .returned (.tuple #[.pointer (some ⟨w.heap.size + 1, 0, none⟩), .int .i64 0]) ∧ w'.heap[w.heap.size + 1]? = some (.cells #[.int .i64 f, .slice (some ⟨w.heap.size, 0, none⟩) n n] 40 (0, 0)) ∧ w'.rowIs w.heap.size 4 n (fun _ => .bool false) ∧ Below w.heap.size w w' := by
  have d1 : decide (f < -1000000) = false := by simp; omega
  have d2 : decide (1000000 < t) = false := by simp; omega
  have d3 : decide (t < f) = false := by simp; omega
  have hmk := run_make_row' (P := Tryd.prog) 38 4 (.bool false) 1 Tryd.underlying38 Tryd.info4 rfl .i64 .i64 n (by omega) (by omega)
  go_enter Tryd.func12, Tryd.ntmps12
  go_wp2
  go_ret2
  refine ⟨by simp, ?_, ((World.rowIs_made w (.bool false) n 4).alloc _), ((Below.refl _ w).alloc (Nat.le_refl _) _).alloc (by simp) _⟩
  have := World.alloc_heap_new (w.alloc (Obj.cells (madeCells #[Value.bool false] n) 4)) (Obj.cells #[.int .i64 f, .slice (some ⟨w.heap.size, 0, none⟩) n n] 40)
  rw [World.size_alloc] at this
  exact this
end Go.Proofs.YtgcgomofmicchaaDoor
