/-
  What is proved here: domains held against each other, and lent.
  What is proved here: how many values a domain has, by the reference; whether a value can be, by the reference.
  What is proved here: the mathematics of parts, of whole numbers: a decision and its other one part the values of ranges.
-/
import Derived.Test.YthkliicmoandmaaGreatDoorCcj
import Derived.Test.YthkliicmoandmaaGreatDoorSi
import Derived.Lib.LaidTab
import Derived.Lib.ItoaLen
import Derived.Deep.RegionHeld3
import Derived.Test.YthkliicmoandmaaGreatDoorYTaj
import Derived.Test.YthkliicmoandmaaGreatDoorYUcj
namespace Go.Proofs.YthkliicmoandmaaGreatDoor
open Go.RowKit Go.Shelf
set_option linter.unusedVariables false
set_option linter.unusedSimpArgs false

/-- The sizes of a domain. -/
def SzD (d : MD) : Prop := d.lo.length * 8 ≤ 140737488351232 ∧ d.up.length * 8 ≤ 140737488351232 ∧ d.r.length * 16 ≤ 140737488351232
end Go.Proofs.YthkliicmoandmaaGreatDoor

namespace Go.Proofs.YthkliicmoandmaaGreatDoor
open Go.RowKit Go.Shelf
set_option linter.unusedVariables false
set_option linter.unusedSimpArgs false

set_option maxRecDepth 100000 in
set_option maxHeartbeats 4000000 in
theorem rsize_s {X : Nat → Prop} {W : World} {c : List Value} {d : MD} (h : Dc X W c d) (hs : d.set = true) : Calls Tryz.prog 31 #[.agg c.toArray] W fun e w' => e = .returned (.int .i64 (St.countD (sdM d))) ∧ Below W.heap.size W w' := by
  have h0 := h
  obtain ⟨b, ra, n0, rc, a1, n1, c1, a2, n2, c2, x, y, rfl, HE, H1, H2, H3⟩ := h.look
  obtain rfl : b = true := by rw [← HE.out.1, hs]
  obtain ⟨W0, hW0⟩ : ∃ Q, W.alloc (Obj.cells #[.bool true, .slice ra n0 rc, .slice a1 n1 c1, .slice a2 n2 c2, .int .i64 x, .int .i64 y] 50) = Q := ⟨_, rfl⟩
  have hb0 : Below W.heap.size W W0 := by rw [← hW0]; exact (Below.refl _ W).alloc (Nat.le_refl _) _
  have HB0 : Hid (Bx W0 W.heap.size #[.bool true, .slice ra n0 rc, .slice a1 n1 c1, .slice a2 n2 c2, .int .i64 x, .int .i64 y] 50) := by rw [← hW0]; exact Bx.new _ _ _
  have kr := St.refcount_any _ _ W0 (h0.below hb0).di
  have HW0 : Hid _ := hW0
  clear h h0 hs HE H1 H2 H3 hW0
  obtain ⟨z0, z1, z2, z3, z4, z5⟩ := HB0.out.six
  generalize St.countD (sdM d) = q at *
  go_enter Tryz.func31, Tryz.ntmps31
  go_upto_region 1 with (fail)
  rw [HW0.out]
  go_wp2_with fail
  refine kr.mono ?_
  rintro e w1 ⟨rfl, hb1⟩
  go_wp2
  go_ret
  exact ⟨rfl, hb0.trans (hb1.mono hb0.size)⟩

set_option maxRecDepth 100000 in
set_option maxHeartbeats 4000000 in
theorem rsize_n {X : Nat → Prop} {W : World} {c : List Value} {d : MD} (h : Dc X W c d) (hs : d.set = false) : Calls Tryz.prog 31 #[.agg c.toArray] W fun e w' => e = .returned (.int .i64 (Dm.sizeR (Dm.tk d.r))) ∧ Below W.heap.size W w' := by
  have h0 := h
  obtain ⟨b, ra, n0, rc, a1, n1, c1, a2, n2, c2, x, y, rfl, HE, H1, H2, H3⟩ := h.look
  obtain rfl : b = false := by rw [← HE.out.1, hs]
  obtain ⟨W0, hW0⟩ : ∃ Q, W.alloc (Obj.cells #[.bool false, .slice ra n0 rc, .slice a1 n1 c1, .slice a2 n2 c2, .int .i64 x, .int .i64 y] 50) = Q := ⟨_, rfl⟩
  have hb0 : Below W.heap.size W W0 := by rw [← hW0]; exact (Below.refl _ W).alloc (Nat.le_refl _) _
  have HB0 : Hid (Bx W0 W.heap.size #[.bool false, .slice ra n0 rc, .slice a1 n1 c1, .slice a2 n2 c2, .int .i64 x, .int .i64 y] 50) := by rw [← hW0]; exact Bx.new _ _ _
  have kr := (Dm.refsize_any _ _ _ (H1.out.kept (Kept.of_below hb0)).sr)
  have HW0 : Hid _ := hW0
  clear h h0 hs HE H1 H2 H3 hW0
  obtain ⟨z0, z1, z2, z3, z4, z5⟩ := HB0.out.six
  generalize Dm.sizeR (Dm.tk d.r) = q at *
  go_enter Tryz.func31, Tryz.ntmps31
  go_upto_region 1 with (fail)
  rw [HW0.out]
  go_wp2_with fail
  refine kr.mono ?_
  rintro e w1 ⟨rfl, hb1⟩
  go_wp2
  go_ret
  exact ⟨rfl, hb0.trans (hb1.mono hb0.size)⟩
theorem rsize_d {X : Nat → Prop} {W : World} {c : List Value} {d : MD} (h : Dc X W c d) : Calls Tryz.prog 31 #[.agg c.toArray] W fun e w' => e = .returned (.int .i64 (sizA d)) ∧ Below W.heap.size W w' := by
  cases hs : d.set
  · have := rsize_n h hs
    unfold sizA; rw [if_neg (by simp [hs])]; exact this
  · have := rsize_s h hs
    unfold sizA; rw [if_pos hs]; exact this

end Go.Proofs.YthkliicmoandmaaGreatDoor

namespace Go.Proofs.YthkliicmoandmaaGreatDoor
open Go.RowKit Go.Shelf
set_option linter.unusedVariables false
set_option linter.unusedSimpArgs false

/-- Does a number keep a decision of the first four kinds? -/
def keB (op n x : Int) : Bool := if op = 0 then decide (x = n) else if op = 1 then decide (x ≠ n) else if op = 2 then decide (x ≤ n) else decide (n < x)
theorem wo_some (v : Int) : ∀ {l : List Dm.Rg}, Dm.Ord l → (Dm.woL l v).length ≤ l.length + 1
  | [], _ => by simp [Dm.woL]
  | r :: t, h => by
    obtain ⟨h1, h2, h3⟩ := Dm.ord_cons h
    have e : Dm.woL (r :: t) v = Dm.wo1 v r ++ Dm.woL t v := by unfold Dm.woL; rw [List.flatMap_cons]
    rw [e, List.length_append, List.length_cons]
    by_cases hc : v < r.1 ∨ r.2 < v
    · have e1 : Dm.wo1 v r = [r] := by unfold Dm.wo1; rw [if_pos hc]
      have := wo_some v h2
      rw [e1]; simp; omega
    · have e1 : (Dm.wo1 v r).length ≤ 2 := by
        unfold Dm.wo1; rw [if_neg hc, List.length_append]
        have a1 : (if r.1 < v then [(r.1, v - 1)] else ([] : List Dm.Rg)).length ≤ 1 := by split <;> simp
        have a2 : (if v < r.2 then [(v + 1, r.2)] else ([] : List Dm.Rg)).length ≤ 1 := by split <;> simp
        omega
      have e2 : Dm.woL t v = t := by
        unfold Dm.woL
        have : ∀ s ∈ t, Dm.wo1 v s = [s] := fun s hs => by
          unfold Dm.wo1
          rw [if_pos]
          have h4 := (List.pairwise_cons.1 h.2).1 s hs
          have := h2.1 s hs
          omega
        clear h h2 h3 e e1
        induction t with
        | nil => rfl
        | cons s u ih => rw [List.flatMap_cons, this s (by simp), ih (fun q hq => this q (by simp [hq]))]; rfl
      rw [e2]; omega
theorem num_mem {l : List Dm.Rg} {op n x : Int} (hl : l.length < 4095) : x ∈ Dm.vals (numR l op n) ↔ x ∈ Dm.vals (Dm.tk l) ∧ keB op n x = true := by
  have hr := Dm.tk_right l
  obtain ⟨ho, hi⟩ := Dm.right_ord hr
  have hb : ∀ x, x ∈ Dm.vals (Dm.tk l) → -1000000 ≤ x ∧ x ≤ 1000000 := by
    intro x hx
    obtain ⟨r, hr1, hr2⟩ := (Dm.mem_vals' _ _).1 hx
    have := hi r hr1
    omega
  have htl : (Dm.tk l).length ≤ l.length := by unfold Dm.tk; split <;> simp
  unfold numR keB
  split
  · rw [Dm.mem_cutL]; simp; intro _; omega
  split
  · have h1 : Dm.woR l n = Dm.woL (Dm.tk l) n := by unfold Dm.woR; rw [if_pos (Nat.le_trans (wo_some n ho) (by omega))]
    rw [h1, (Dm.wo_facts n ho).2]; simp
  split
  · rw [Dm.mem_cutL]; simp; intro hx; have := hb x hx; omega
  · rw [Dm.mem_cutL]; simp; intro hx; have := hb x hx; omega
theorem num_ord {l : List Dm.Rg} {op n : Int} : Dm.Ord (numR l op n) := by
  obtain ⟨ho, _⟩ := Dm.right_ord (Dm.tk_right l)
  unfold numR
  split
  · exact Dm.cutL_ord ho _ _
  split
  · unfold Dm.woR; split
    · exact (Dm.wo_facts n ho).1
    · exact ho
  split <;> exact Dm.cutL_ord ho _ _
theorem ke_other {op n x : Int} (h : fitM op false = true) : keB (otM op) n x = !keB op n x := by
  have hk : op = 0 ∨ op = 1 ∨ op = 2 ∨ op = 3 := by
    unfold fitM knB at h
    simp at h
    omega
  rcases hk with rfl | rfl | rfl | rfl
  · simp [keB, otM]
  · simp [keB, otM]
  · by_cases hx : x ≤ n
    · have : ¬ n < x := by omega
      simp [keB, otM, hx, this]
    · have : n < x := by omega
      simp [keB, otM, hx, this]
  · by_cases hx : x ≤ n
    · have : ¬ n < x := by omega
      simp [keB, otM, hx, this]
    · have : n < x := by omega
      simp [keB, otM, hx, this]
theorem span_pw (a b : Int) : (Dm.span a b).Pairwise (· < ·) := by
  unfold Dm.span
  rw [List.pairwise_map]
  exact List.pairwise_lt_range.imp fun h => by omega
theorem vals_pw : ∀ {l : List Dm.Rg}, Dm.Ord l → (Dm.vals l).Pairwise (· < ·)
  | [], _ => by simp [Dm.vals]
  | r :: t, h => by
    obtain ⟨h1, h2, h3⟩ := Dm.ord_cons h
    have e : Dm.vals (r :: t) = Dm.span r.1 r.2 ++ Dm.vals t := by unfold Dm.vals; rw [List.flatMap_cons]
    rw [e, List.pairwise_append]
    refine ⟨span_pw _ _, vals_pw h2, fun x hx y hy => ?_⟩
    have := (Dm.mem_span _ _ _).1 hx
    have := h3 y hy
    omega
end Go.Proofs.YthkliicmoandmaaGreatDoor
