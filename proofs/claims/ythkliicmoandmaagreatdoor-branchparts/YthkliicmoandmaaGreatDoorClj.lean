/-
  What is proved here: how many values a domain has, by the reference; whether a value can be, by the reference.
  What is proved here: the mathematics of parts, of whole numbers: a decision and its other one part the values of ranges.
-/
import Derived.Test.YthkliicmoandmaaGreatDoorCi
import Derived.Test.YthkliicmoandmaaGreatDoorYUdj
namespace Go.Proofs.YthkliicmoandmaaGreatDoor
open Go.RowKit Go.Shelf
set_option linter.unusedVariables false
set_option linter.unusedSimpArgs false

set_option maxRecDepth 100000 in
set_option maxHeartbeats 4000000 in
theorem rsize_s {X : Nat → Prop} {W : World} {c : List Value} {d : MD} (h : Dc X W c d) (hs : d.set = true) : Calls Tryz.prog 31 #[.agg c.toArray] W fun e w' => e = .returned (.int .i64 (St.countD (sdM d))) ∧ Below W.heap.size W w' := by
  have h0 := h
  obtain ⟨b, ra, n0, rc, a1, n1, c1, a2, n2, c2, x, y, rfl, HE, H1, H2, H3⟩ := h.look
  obtain rfl : b = true := by rw [← HE.out.1, hs]
  obtain ⟨W0, hW0⟩ : ∃ Q, W.alloc (Obj.cells #[.bool true, .slice ra n0 rc, .slice a1 n1 c1, .slice a2 n2 c2, .int .i64 x, .int .i64 y] 50) = Q := ⟨_, rfl⟩
  have hb0 : Below W.heap.size W W0 := by rw [← hW0]; exact (Below.refl _ W).alloc (Nat.le_refl _) _
  have HB0 : Hid (Bx W0 W.heap.size #[.bool true, .slice ra n0 rc, .slice a1 n1 c1, .slice a2 n2 c2, .int .i64 x, .int .i64 y] 50) := by rw [← hW0]; exact Bx.new _ _ _
  have kr := St.refcount_any _ _ W0 (h0.below hb0).di
  have HW0 : Hid _ := hW0
  clear h h0 hs HE H1 H2 H3 hW0
  obtain ⟨z0, z1, z2, z3, z4, z5⟩ := HB0.out.six
  generalize St.countD (sdM d) = q at *
  go_enter Tryz.func31, Tryz.ntmps31
  go_upto_region 1 with (fail)
  rw [HW0.out]
  go_wp2_with fail
  refine kr.mono ?_
  rintro e w1 ⟨rfl, hb1⟩
  go_wp2
  go_ret
  exact ⟨rfl, hb0.trans (hb1.mono hb0.size)⟩

set_option maxRecDepth 100000 in
set_option maxHeartbeats 4000000 in
theorem rsize_n {X : Nat → Prop} {W : World} {c : List Value} {d : MD} (h : Dc X W c d) (hs : d.set = false) : Calls Tryz.prog 31 #[.agg c.toArray] W fun e w' => e = .returned (.int .i64 (Dm.sizeR (Dm.tk d.r))) ∧ Below W.heap.size W w' := by
  have h0 := h
  obtain ⟨b, ra, n0, rc, a1, n1, c1, a2, n2, c2, x, y, rfl, HE, H1, H2, H3⟩ := h.look
  obtain rfl : b = false := by rw [← HE.out.1, hs]
  obtain ⟨W0, hW0⟩ : ∃ Q, W.alloc (Obj.cells #[.bool false, .slice ra n0 rc, .slice a1 n1 c1, .slice a2 n2 c2, .int .i64 x, .int .i64 y] 50) = Q := ⟨_, rfl⟩
  have hb0 : Below W.heap.size W W0 := by rw [← hW0]; exact (Below.refl _ W).alloc (Nat.le_refl _) _
  have HB0 : Hid (Bx W0 W.heap.size #[.bool false, .slice ra n0 rc, .slice a1 n1 c1, .slice a2 n2 c2, .int .i64 x, .int .i64 y] 50) := by rw [← hW0]; exact Bx.new _ _ _
  have kr := (Dm.refsize_any _ _ _ (H1.out.kept (Kept.of_below hb0)).sr)
  have HW0 : Hid _ := hW0
  clear h h0 hs HE H1 H2 H3 hW0
  obtain ⟨z0, z1, z2, z3, z4, z5⟩ := HB0.out.six
  generalize Dm.sizeR (Dm.tk d.r) = q at *
  go_enter Tryz.func31, Tryz.ntmps31
  go_upto_region 1 with (fail)
  rw [HW0.out]
  go_wp2_with fail
  refine kr.mono ?_
  rintro e w1 ⟨rfl, hb1⟩
  go_wp2
  go_ret
  exact ⟨rfl, hb0.trans (hb1.mono hb0.size)⟩
theorem rsize_d {X : Nat → Prop} {W : World} {c : List Value} {d : MD} (h : Dc X W c d) : Calls Tryz.prog 31 #[.agg c.toArray] W fun e w' => e = .returned (.int .i64 (sizA d)) ∧ Below W.heap.size W w' := by
  cases hs : d.set
  · have := rsize_n h hs
    unfold sizA; rw [if_neg (by simp [hs])]; exact this
  · have := rsize_s h hs
    unfold sizA; rw [if_pos hs]; exact this

/-- Can a value be? -/
def rvM (st : Bool) (vn : Int) (vs : List Int) : Bool := if st then decide (vn = 0) && St.setB vs else decide (vs.length = 0) && decide (-1000000 ≤ vn) && decide (vn ≤ 1000000)
end Go.Proofs.YthkliicmoandmaaGreatDoor

namespace Go.Proofs.YthkliicmoandmaaGreatDoor
open Go.RowKit Go.Shelf
set_option linter.unusedVariables false
set_option linter.unusedSimpArgs false

/-- Does a number keep a decision of the first four kinds? -/
def keB (op n x : Int) : Bool := if op = 0 then decide (x = n) else if op = 1 then decide (x ≠ n) else if op = 2 then decide (x ≤ n) else decide (n < x)
theorem wo_some (v : Int) : ∀ {l : List Dm.Rg}, Dm.Ord l → (Dm.woL l v).length ≤ l.length + 1
  | [], _ => by simp [Dm.woL]
  | r :: t, h => by
    obtain ⟨h1, h2, h3⟩ := Dm.ord_cons h
    have e : Dm.woL (r :: t) v = Dm.wo1 v r ++ Dm.woL t v := by unfold Dm.woL; rw [List.flatMap_cons]
    rw [e, List.length_append, List.length_cons]
    by_cases hc : v < r.1 ∨ r.2 < v
    · have e1 : Dm.wo1 v r = [r] := by unfold Dm.wo1; rw [if_pos hc]
      have := wo_some v h2
      rw [e1]; simp; omega
    · have e1 : (Dm.wo1 v r).length ≤ 2 := by
        unfold Dm.wo1; rw [if_neg hc, List.length_append]
        have a1 : (if r.1 < v then [(r.1, v - 1)] else ([] : List Dm.Rg)).length ≤ 1 := by split <;> simp
        have a2 : (if v < r.2 then [(v + 1, r.2)] else ([] : List Dm.Rg)).length ≤ 1 := by split <;> simp
        omega
      have e2 : Dm.woL t v = t := by
        unfold Dm.woL
        have : ∀ s ∈ t, Dm.wo1 v s = [s] := fun s hs => by
          unfold Dm.wo1
          rw [if_pos]
          have h4 := (List.pairwise_cons.1 h.2).1 s hs
          have := h2.1 s hs
          omega
        clear h h2 h3 e e1
        induction t with
        | nil => rfl
        | cons s u ih => rw [List.flatMap_cons, this s (by simp), ih (fun q hq => this q (by simp [hq]))]; rfl
      rw [e2]; omega
theorem num_mem {l : List Dm.Rg} {op n x : Int} (hl : l.length < 4095) : x ∈ Dm.vals (numR l op n) ↔ x ∈ Dm.vals (Dm.tk l) ∧ keB op n x = true := by
  have hr := Dm.tk_right l
  obtain ⟨ho, hi⟩ := Dm.right_ord hr
  have hb : ∀ x, x ∈ Dm.vals (Dm.tk l) → -1000000 ≤ x ∧ x ≤ 1000000 := by
    intro x hx
    obtain ⟨r, hr1, hr2⟩ := (Dm.mem_vals' _ _).1 hx
    have := hi r hr1
    omega
  have htl : (Dm.tk l).length ≤ l.length := by unfold Dm.tk; split <;> simp
  unfold numR keB
  split
  · rw [Dm.mem_cutL]; simp; intro _; omega
  split
  · have h1 : Dm.woR l n = Dm.woL (Dm.tk l) n := by unfold Dm.woR; rw [if_pos (Nat.le_trans (wo_some n ho) (by omega))]
    rw [h1, (Dm.wo_facts n ho).2]; simp
  split
  · rw [Dm.mem_cutL]; simp; intro hx; have := hb x hx; omega
  · rw [Dm.mem_cutL]; simp; intro hx; have := hb x hx; omega
theorem num_ord {l : List Dm.Rg} {op n : Int} : Dm.Ord (numR l op n) := by
  obtain ⟨ho, _⟩ := Dm.right_ord (Dm.tk_right l)
  unfold numR
  split
  · exact Dm.cutL_ord ho _ _
  split
  · unfold Dm.woR; split
    · exact (Dm.wo_facts n ho).1
    · exact ho
  split <;> exact Dm.cutL_ord ho _ _
theorem ke_other {op n x : Int} (h : fitM op false = true) : keB (otM op) n x = !keB op n x := by
  have hk : op = 0 ∨ op = 1 ∨ op = 2 ∨ op = 3 := by
    unfold fitM knB at h
    simp at h
    omega
  rcases hk with rfl | rfl | rfl | rfl
  · simp [keB, otM]
  · simp [keB, otM]
  · by_cases hx : x ≤ n
    · have : ¬ n < x := by omega
      simp [keB, otM, hx, this]
    · have : n < x := by omega
      simp [keB, otM, hx, this]
  · by_cases hx : x ≤ n
    · have : ¬ n < x := by omega
      simp [keB, otM, hx, this]
    · have : n < x := by omega
      simp [keB, otM, hx, this]
theorem span_pw (a b : Int) : (Dm.span a b).Pairwise (· < ·) := by
  unfold Dm.span
  rw [List.pairwise_map]
  exact List.pairwise_lt_range.imp fun h => by omega
theorem vals_pw : ∀ {l : List Dm.Rg}, Dm.Ord l → (Dm.vals l).Pairwise (· < ·)
  | [], _ => by simp [Dm.vals]
  | r :: t, h => by
    obtain ⟨h1, h2, h3⟩ := Dm.ord_cons h
    have e : Dm.vals (r :: t) = Dm.span r.1 r.2 ++ Dm.vals t := by unfold Dm.vals; rw [List.flatMap_cons]
    rw [e, List.pairwise_append]
    refine ⟨span_pw _ _, vals_pw h2, fun x hx y hy => ?_⟩
    have := (Dm.mem_span _ _ _).1 hx
    have := h3 y hy
    omega
theorem pw_eq {a b : List Int} (ha : a.Pairwise (· < ·)) (hb : b.Pairwise (· < ·)) (h : ∀ x, x ∈ a ↔ x ∈ b) : a = b :=
  (St.pw_sub b a ha hb fun x hx => (h x).1 hx).eq_of_length_le (St.pw_sub a b hb ha fun x hx => (h x).2 hx).length_le
theorem filt_split (f : Int → Bool) : ∀ l : List Int, (l.filter f).length + (l.filter fun x => !f x).length = l.length
  | [] => rfl
  | a :: t => by
    have := filt_split f t
    cases h : f a <;> simp [h] <;> omega
/-- How many values both parts have. -/
theorem num_size {l : List Dm.Rg} {op n : Int} (hl : l.length < 4095) (h : fitM op false = true) : Dm.sizeR (numR l op n) + Dm.sizeR (numR l (otM op) n) = Dm.sizeR (Dm.tk l) := by
  obtain ⟨ho, _⟩ := Dm.right_ord (Dm.tk_right l)
  have o1 := num_ord (l := l) (op := op) (n := n)
  have o2 := num_ord (l := l) (op := otM op) (n := n)
  rw [Dm.sizeR_vals o1.1, Dm.sizeR_vals o2.1, Dm.sizeR_vals ho.1]
  have e1 : Dm.vals (numR l op n) = (Dm.vals (Dm.tk l)).filter fun x => keB op n x := pw_eq (vals_pw o1) ((vals_pw ho).filter _) fun x => by rw [num_mem hl, List.mem_filter]
  have e2 : Dm.vals (numR l (otM op) n) = (Dm.vals (Dm.tk l)).filter fun x => !keB op n x := pw_eq (vals_pw o2) ((vals_pw ho).filter _) fun x => by rw [num_mem hl, List.mem_filter, ke_other h]
  rw [e1, e2]
  have := filt_split (fun x => keB op n x) (Dm.vals (Dm.tk l))
  omega
theorem num_has {l : List Dm.Rg} {op n x : Int} (hl : l.length < 4095) : Dm.hasV (numR l op n) x = (Dm.hasV l x && keB op n x) := by
  have ho := num_ord (l := l) (op := op) (n := n)
  have hr : Dm.Right (numR l op n) := by
    have ht := (Dm.tk_right l).1
    obtain ⟨hto, hti⟩ := Dm.right_ord (Dm.tk_right l)
    have htl : (Dm.tk l).length ≤ l.length := by unfold Dm.tk; split <;> simp
    refine Dm.ord_right ho ?_ ?_
    · intro r hr
      have h1 := ho.1 r hr
      have m1 : r.1 ∈ Dm.vals (numR l op n) := (Dm.mem_vals' _ _).2 ⟨r, hr, Int.le_refl _, h1⟩
      have m2 : r.2 ∈ Dm.vals (numR l op n) := (Dm.mem_vals' _ _).2 ⟨r, hr, h1, Int.le_refl _⟩
      obtain ⟨s1, hs1, q1⟩ := (Dm.mem_vals' _ _).1 ((num_mem hl).1 m1).1
      obtain ⟨s2, hs2, q2⟩ := (Dm.mem_vals' _ _).1 ((num_mem hl).1 m2).1
      have b1 := hti s1 hs1
      have b2 := hti s2 hs2
      constructor <;> omega
    · have hc : ∀ a b, (Dm.cutL (Dm.tk l) a b).length ≤ 4096 := fun a b => Nat.le_trans (List.length_filterMap_le _ _) ht
      unfold numR
      split
      · exact hc _ _
      split
      · unfold Dm.woR; split <;> assumption
      split
      · exact hc _ _
      · exact hc _ _
  unfold Dm.hasV
  rw [Dm.tk_yes hr]
  have := num_mem (l := l) (op := op) (n := n) (x := x) hl
  by_cases hm : x ∈ Dm.vals (numR l op n)
  · have h2 := this.1 hm
    simp [hm, h2.1, h2.2]
  · by_cases h1 : x ∈ Dm.vals (Dm.tk l)
    · have : keB op n x = false := by
        cases hk : keB op n x with
        | false => rfl
        | true => exact absurd (this.2 ⟨h1, hk⟩) hm
      simp [hm, h1, this]
    · simp [hm, h1]
end Go.Proofs.YthkliicmoandmaaGreatDoor
