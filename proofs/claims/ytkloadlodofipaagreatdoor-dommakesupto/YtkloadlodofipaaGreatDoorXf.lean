/-
  What is proved here: what dom.Each hands back of right ranges.
-/
import Derived.Test.YtkloadlodofipaaGreatDoorXe
import Derived.Deep.WholeRow
namespace Go.Proofs.YtkloadlodofipaaGreatDoor
open Go.RowKit Go.Shelf

theorem cell_row {W : World} {g : Nat} {cur : Array Value} {t : TypeId} (h : W.heap[g]? = some (.cells cur t (0, 0))) (j : Nat) : W.cell? ⟨g, j, none⟩ = cur[j]? := by simp [World.cell?, h]

theorem own_some {W : World} {base e size n : Nat} {s : Value} {xs : List Value} (h : W.ownsRow base e size s n xs) (h0 : 0 < n) : ∃ g cap, s = .slice (some ⟨g, 0, none⟩) n cap ∧ base ≤ g ∧ g < W.heap.size ∧ ∀ j u, xs[j]? = some u → W.cell? ⟨g, j, none⟩ = some u := by
  rcases h.2 with ⟨_, e0⟩ | ⟨g, cap, cur, rfl, hg, hgb, hc1, hc2, hc3, hc4⟩
  · omega
  · refine ⟨g, cap, rfl, hg, (Array.getElem?_eq_some_iff.1 hgb).1, fun j u hj => ?_⟩
    rw [cell_row hgb, ← hj, ← hc4, List.getElem?_take]
    have hjl : j < n * size := by rw [← h.1]; exact (List.getElem?_eq_some_iff.1 hj).1
    rw [if_pos hjl]; simp
set_option maxHeartbeats 400000 in
theorem each_some (s : Value) (l : List Rg) (w : World) (h : Sr w s l) (hf : FitsR l) (hR : Some' l) :
    Calls Tryz.prog 34 #[s] w fun e w' => ∃ B g cap, e = .returned (.func (.func 65) #[] #[.pointer (some ⟨B, 0, none⟩)]) ∧ Boxed w' B 23 (.slice (some ⟨g, 0, none⟩) l.length cap) ∧
      (∀ i, i < l.length → w'.cell? ⟨g, 0 + i * 2, none⟩ = some (.int .i64 (lo l i)) ∧ w'.cell? ⟨g, 0 + i * 2 + 1, none⟩ = some (.int .i64 (hi l i))) ∧ w.heap.size ≤ B ∧ w.heap.size ≤ g ∧ B < w'.heap.size ∧ g < w'.heap.size ∧ Below w.heap.size w w' := by
  have hc := known_yes s l w h hf hR.1
  have hS := h
  obtain ⟨a, cap, rfl, hx⟩ := h
  have hcl : ∀ w1, Below w.heap.size w w1 → Calls Tryz.prog 64 #[.slice a l.length cap] w1 fun e w' => ∃ s, e = .returned s ∧ w'.ownsRow w1.heap.size 55 2 s l.length (flat l) ∧ Below w1.heap.size w1 w' := by
    intro w1 hb
    obtain ⟨b, off, rfl, hlt, hcell⟩ := hx hR.2
    exact clone_some b off cap l w1 hR.1.1 (fun i hi => ⟨(hb.cell (p := ⟨b, off + i * 2, none⟩) hlt).trans (hcell i hi).1, (hb.cell (p := ⟨b, off + i * 2 + 1, none⟩) hlt).trans (hcell i hi).2⟩)
  have hl0 := hR.2
  have HX : Hid (0 < l.length → ∃ b off, a = some ⟨b, off, none⟩ ∧ b < w.heap.size ∧ ∀ i, i < l.length → w.cell? ⟨b, off + i * 2, none⟩ = some (.int .i64 (lo l i)) ∧ w.cell? ⟨b, off + i * 2 + 1, none⟩ = some (.int .i64 (hi l i))) := hx
  have HS : Hid (Sr w (.slice a l.length cap) l) := hS
  have HR : Hid (Some' l) := hR
  have hmf : ∀ (fn : Fn) (first cap : Array Value) (w : World), (Instr.makeFunc fn first cap).run Tryz.prog w = .ok (.func fn first cap) w := fun _ _ _ _ => rfl
  clear hx hS hR hf
  go_enter Tryz.func34, Tryz.ntmps34
  go_wp2_with (first | (go_at_call 62; refine hc.mono ?_; clear hc; rintro e w1 ⟨rfl, hb1⟩) | (go_at_call 64; refine (hcl _ hb1).mono ?_; clear hcl; rintro e w2 ⟨s2, rfl, hown, hb2⟩; obtain ⟨g, c2, rfl, hg, hgl, hgc⟩ := own_some hown hl0; clear hown))
  go_ret
  have hb3 : Below w.heap.size w w2 := hb1.trans (hb2.mono hb1.size)
  have h1 := hb1.size; have h2 := hb2.size
  refine ⟨w2.heap.size, g, c2, rfl, Boxed.new _ _ _, fun i hi => ?_, by omega, by omega, by simp, by simp; omega, hb3.alloc (by omega) _⟩
  obtain ⟨e1, e2⟩ := flat_even l i hi
  exact ⟨by rw [Nat.zero_add]; exact Lib.cell?_alloc_some _ (hgc _ _ e1), by rw [Nat.zero_add]; exact Lib.cell?_alloc_some _ (hgc _ _ e2)⟩
end Go.Proofs.YtkloadlodofipaaGreatDoor
