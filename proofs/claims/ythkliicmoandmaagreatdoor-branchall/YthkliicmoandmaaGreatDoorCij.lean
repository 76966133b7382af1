/-
  What is proved here: domains held against each other, and lent.
  What is proved here: how many values a domain has, by the reference; whether a value can be, by the reference.
  What is proved here: the mathematics of parts, of whole numbers: a decision and its other one part the values of ranges.
  What is proved here: whether a value is in a domain, by the reference: a constraint of one variable.
  What is proved here: whether a value is within a domain, as the law asks.
  What is proved here: the mathematics of parts: of any domain and value.
-/
import Derived.Test.YthkliicmoandmaaGreatDoorCcj
import Derived.Test.YthkliicmoandmaaGreatDoorSi
import Derived.Lib.LaidTab
import Derived.Lib.ItoaLen
import Derived.Deep.RegionHeld3
import Derived.Test.YthkliicmoandmaaGreatDoorYTcj
import Derived.Test.YthkliicmoandmaaGreatDoorYUbj
import Derived.Test.YthkliicmoandmaaGreatDoorBjj
import Derived.OwnWalk
import Derived.Lib.AppendZerosOnto
import Derived.Lib.OwnBridge
namespace Go.Proofs.YthkliicmoandmaaGreatDoor
open Go.RowKit Go.Shelf
set_option linter.unusedVariables false
set_option linter.unusedSimpArgs false

def flI (r : List Dm.Rg) : List Int := (List.range (r.length * 2)).map fun i => if i % 2 = 0 then Dm.lo r (i / 2) else Dm.hi r (i / 2)
theorem flI_len (r : List Dm.Rg) : (flI r).length = r.length * 2 := by simp [flI]
theorem flI_nth (r : List Dm.Rg) (i : Nat) (h : i < r.length * 2) : St.nth (flI r) i = if i % 2 = 0 then Dm.lo r (i / 2) else Dm.hi r (i / 2) := by
  unfold St.nth flI
  rw [List.getD_eq_getElem?_getD, List.getElem?_map, List.getElem?_range h]; rfl
/-- The sizes of a domain. -/
def SzD (d : MD) : Prop := d.lo.length * 8 ≤ 140737488351232 ∧ d.up.length * 8 ≤ 140737488351232 ∧ d.r.length * 16 ≤ 140737488351232
theorem Dc.dr {X : Nat → Prop} {w : World} {c : List Value} {d : MD} (h : Dc X w c d) (hz : SzD d) : St.Dr w (.agg c.toArray) (sdM d) (flI d.r) := by
  obtain ⟨ra, rc, a1, c1, a2, c2, rfl, h1, h2, h3⟩ := h
  refine ⟨ra, rc, _, _, rfl, h2.si, h3.si, ?_, hz⟩
  obtain ⟨a, cc, e, h1⟩ := h1
  injection e with e1 _ e3
  subst e1 e3
  refine ⟨_, _, _, rfl, flI_len _, fun h0 => ?_⟩
  obtain ⟨b, off, q1, q2, _, q4⟩ := h1 h0
  refine ⟨b, off, q1, q2, fun i hi => ?_⟩
  rw [flI_nth _ _ hi]
  have hi' : i < d.r.length * 2 := hi
  have hq := q4 (i / 2) (by omega)
  by_cases hp : i % 2 = 0
  · rw [if_pos hp, show off + i = off + i / 2 * 2 by omega]; exact hq.1
  · rw [if_neg hp, show off + i = off + i / 2 * 2 + 1 by omega]; exact hq.2
theorem one_d {X Y : Nat → Prop} {W : World} {c k : List Value} {d : MD} (h : Dc X W c d) (h' : Dc Y W k d) (hz : SzD d) : Calls Tryz.prog 22 #[.agg c.toArray, .agg k.toArray] W fun e w' => e = .returned (.bool true) ∧ Below W.heap.size W w' :=
  St.one_same _ _ (sdM d) (flI d.r) W (h.dr hz) (h'.dr hz)
end Go.Proofs.YthkliicmoandmaaGreatDoor

namespace Go.Proofs.YthkliicmoandmaaGreatDoor
open Go.RowKit Go.Shelf
set_option linter.unusedVariables false
set_option linter.unusedSimpArgs false

set_option maxRecDepth 100000 in
set_option maxHeartbeats 4000000 in
theorem rsize_s {X : Nat → Prop} {W : World} {c : List Value} {d : MD} (h : Dc X W c d) (hs : d.set = true) : Calls Tryz.prog 31 #[.agg c.toArray] W fun e w' => e = .returned (.int .i64 (St.countD (sdM d))) ∧ Below W.heap.size W w' := by
  have h0 := h
  obtain ⟨b, ra, n0, rc, a1, n1, c1, a2, n2, c2, x, y, rfl, HE, H1, H2, H3⟩ := h.look
  obtain rfl : b = true := by rw [← HE.out.1, hs]
  obtain ⟨W0, hW0⟩ : ∃ Q, W.alloc (Obj.cells #[.bool true, .slice ra n0 rc, .slice a1 n1 c1, .slice a2 n2 c2, .int .i64 x, .int .i64 y] 50) = Q := ⟨_, rfl⟩
  have hb0 : Below W.heap.size W W0 := by rw [← hW0]; exact (Below.refl _ W).alloc (Nat.le_refl _) _
  have HB0 : Hid (Bx W0 W.heap.size #[.bool true, .slice ra n0 rc, .slice a1 n1 c1, .slice a2 n2 c2, .int .i64 x, .int .i64 y] 50) := by rw [← hW0]; exact Bx.new _ _ _
  have kr := St.refcount_any _ _ W0 (h0.below hb0).di
  have HW0 : Hid _ := hW0
  clear h h0 hs HE H1 H2 H3 hW0
  obtain ⟨z0, z1, z2, z3, z4, z5⟩ := HB0.out.six
  generalize St.countD (sdM d) = q at *
  go_enter Tryz.func31, Tryz.ntmps31
  go_upto_region 1 with (fail)
  rw [HW0.out]
  go_wp2_with fail
  refine kr.mono ?_
  rintro e w1 ⟨rfl, hb1⟩
  go_wp2
  go_ret
  exact ⟨rfl, hb0.trans (hb1.mono hb0.size)⟩

set_option maxRecDepth 100000 in
set_option maxHeartbeats 4000000 in
theorem rsize_n {X : Nat → Prop} {W : World} {c : List Value} {d : MD} (h : Dc X W c d) (hs : d.set = false) : Calls Tryz.prog 31 #[.agg c.toArray] W fun e w' => e = .returned (.int .i64 (Dm.sizeR (Dm.tk d.r))) ∧ Below W.heap.size W w' := by
  have h0 := h
  obtain ⟨b, ra, n0, rc, a1, n1, c1, a2, n2, c2, x, y, rfl, HE, H1, H2, H3⟩ := h.look
  obtain rfl : b = false := by rw [← HE.out.1, hs]
  obtain ⟨W0, hW0⟩ : ∃ Q, W.alloc (Obj.cells #[.bool false, .slice ra n0 rc, .slice a1 n1 c1, .slice a2 n2 c2, .int .i64 x, .int .i64 y] 50) = Q := ⟨_, rfl⟩
  have hb0 : Below W.heap.size W W0 := by rw [← hW0]; exact (Below.refl _ W).alloc (Nat.le_refl _) _
  have HB0 : Hid (Bx W0 W.heap.size #[.bool false, .slice ra n0 rc, .slice a1 n1 c1, .slice a2 n2 c2, .int .i64 x, .int .i64 y] 50) := by rw [← hW0]; exact Bx.new _ _ _
  have kr := (Dm.refsize_any _ _ _ (H1.out.kept (Kept.of_below hb0)).sr)
  have HW0 : Hid _ := hW0
  clear h h0 hs HE H1 H2 H3 hW0
  obtain ⟨z0, z1, z2, z3, z4, z5⟩ := HB0.out.six
  generalize Dm.sizeR (Dm.tk d.r) = q at *
  go_enter Tryz.func31, Tryz.ntmps31
  go_upto_region 1 with (fail)
  rw [HW0.out]
  go_wp2_with fail
  refine kr.mono ?_
  rintro e w1 ⟨rfl, hb1⟩
  go_wp2
  go_ret
  exact ⟨rfl, hb0.trans (hb1.mono hb0.size)⟩
theorem rsize_d {X : Nat → Prop} {W : World} {c : List Value} {d : MD} (h : Dc X W c d) : Calls Tryz.prog 31 #[.agg c.toArray] W fun e w' => e = .returned (.int .i64 (sizA d)) ∧ Below W.heap.size W w' := by
  cases hs : d.set
  · have := rsize_n h hs
    unfold sizA; rw [if_neg (by simp [hs])]; exact this
  · have := rsize_s h hs
    unfold sizA; rw [if_pos hs]; exact this

/-- Can a value be? -/
def rvM (st : Bool) (vn : Int) (vs : List Int) : Bool := if st then decide (vn = 0) && St.setB vs else decide (vs.length = 0) && decide (-1000000 ≤ vn) && decide (vn ≤ 1000000)
end Go.Proofs.YthkliicmoandmaaGreatDoor

namespace Go.Proofs.YthkliicmoandmaaGreatDoor
open Go.RowKit Go.Shelf
set_option linter.unusedVariables false
set_option linter.unusedSimpArgs false

/-- Does a number keep a decision of the first four kinds? -/
def keB (op n x : Int) : Bool := if op = 0 then decide (x = n) else if op = 1 then decide (x ≠ n) else if op = 2 then decide (x ≤ n) else decide (n < x)
theorem wo_some (v : Int) : ∀ {l : List Dm.Rg}, Dm.Ord l → (Dm.woL l v).length ≤ l.length + 1
  | [], _ => by simp [Dm.woL]
  | r :: t, h => by
    obtain ⟨h1, h2, h3⟩ := Dm.ord_cons h
    have e : Dm.woL (r :: t) v = Dm.wo1 v r ++ Dm.woL t v := by unfold Dm.woL; rw [List.flatMap_cons]
    rw [e, List.length_append, List.length_cons]
    by_cases hc : v < r.1 ∨ r.2 < v
    · have e1 : Dm.wo1 v r = [r] := by unfold Dm.wo1; rw [if_pos hc]
      have := wo_some v h2
      rw [e1]; simp; omega
    · have e1 : (Dm.wo1 v r).length ≤ 2 := by
        unfold Dm.wo1; rw [if_neg hc, List.length_append]
        have a1 : (if r.1 < v then [(r.1, v - 1)] else ([] : List Dm.Rg)).length ≤ 1 := by split <;> simp
        have a2 : (if v < r.2 then [(v + 1, r.2)] else ([] : List Dm.Rg)).length ≤ 1 := by split <;> simp
        omega
      have e2 : Dm.woL t v = t := by
        unfold Dm.woL
        have : ∀ s ∈ t, Dm.wo1 v s = [s] := fun s hs => by
          unfold Dm.wo1
          rw [if_pos]
          have h4 := (List.pairwise_cons.1 h.2).1 s hs
          have := h2.1 s hs
          omega
        clear h h2 h3 e e1
        induction t with
        | nil => rfl
        | cons s u ih => rw [List.flatMap_cons, this s (by simp), ih (fun q hq => this q (by simp [hq]))]; rfl
      rw [e2]; omega
theorem num_mem {l : List Dm.Rg} {op n x : Int} (hl : l.length < 4095) : x ∈ Dm.vals (numR l op n) ↔ x ∈ Dm.vals (Dm.tk l) ∧ keB op n x = true := by
  have hr := Dm.tk_right l
  obtain ⟨ho, hi⟩ := Dm.right_ord hr
  have hb : ∀ x, x ∈ Dm.vals (Dm.tk l) → -1000000 ≤ x ∧ x ≤ 1000000 := by
    intro x hx
    obtain ⟨r, hr1, hr2⟩ := (Dm.mem_vals' _ _).1 hx
    have := hi r hr1
    omega
  have htl : (Dm.tk l).length ≤ l.length := by unfold Dm.tk; split <;> simp
  unfold numR keB
  split
  · rw [Dm.mem_cutL]; simp; intro _; omega
  split
  · have h1 : Dm.woR l n = Dm.woL (Dm.tk l) n := by unfold Dm.woR; rw [if_pos (Nat.le_trans (wo_some n ho) (by omega))]
    rw [h1, (Dm.wo_facts n ho).2]; simp
  split
  · rw [Dm.mem_cutL]; simp; intro hx; have := hb x hx; omega
  · rw [Dm.mem_cutL]; simp; intro hx; have := hb x hx; omega
theorem num_ord {l : List Dm.Rg} {op n : Int} : Dm.Ord (numR l op n) := by
  obtain ⟨ho, _⟩ := Dm.right_ord (Dm.tk_right l)
  unfold numR
  split
  · exact Dm.cutL_ord ho _ _
  split
  · unfold Dm.woR; split
    · exact (Dm.wo_facts n ho).1
    · exact ho
  split <;> exact Dm.cutL_ord ho _ _
theorem ke_other {op n x : Int} (h : fitM op false = true) : keB (otM op) n x = !keB op n x := by
  have hk : op = 0 ∨ op = 1 ∨ op = 2 ∨ op = 3 := by
    unfold fitM knB at h
    simp at h
    omega
  rcases hk with rfl | rfl | rfl | rfl
  · simp [keB, otM]
  · simp [keB, otM]
  · by_cases hx : x ≤ n
    · have : ¬ n < x := by omega
      simp [keB, otM, hx, this]
    · have : n < x := by omega
      simp [keB, otM, hx, this]
  · by_cases hx : x ≤ n
    · have : ¬ n < x := by omega
      simp [keB, otM, hx, this]
    · have : n < x := by omega
      simp [keB, otM, hx, this]
theorem span_pw (a b : Int) : (Dm.span a b).Pairwise (· < ·) := by
  unfold Dm.span
  rw [List.pairwise_map]
  exact List.pairwise_lt_range.imp fun h => by omega
theorem vals_pw : ∀ {l : List Dm.Rg}, Dm.Ord l → (Dm.vals l).Pairwise (· < ·)
  | [], _ => by simp [Dm.vals]
  | r :: t, h => by
    obtain ⟨h1, h2, h3⟩ := Dm.ord_cons h
    have e : Dm.vals (r :: t) = Dm.span r.1 r.2 ++ Dm.vals t := by unfold Dm.vals; rw [List.flatMap_cons]
    rw [e, List.pairwise_append]
    refine ⟨span_pw _ _, vals_pw h2, fun x hx y hy => ?_⟩
    have := (Dm.mem_span _ _ _).1 hx
    have := h3 y hy
    omega
theorem pw_eq {a b : List Int} (ha : a.Pairwise (· < ·)) (hb : b.Pairwise (· < ·)) (h : ∀ x, x ∈ a ↔ x ∈ b) : a = b :=
  (St.pw_sub b a ha hb fun x hx => (h x).1 hx).eq_of_length_le (St.pw_sub a b hb ha fun x hx => (h x).2 hx).length_le
theorem filt_split (f : Int → Bool) : ∀ l : List Int, (l.filter f).length + (l.filter fun x => !f x).length = l.length
  | [] => rfl
  | a :: t => by
    have := filt_split f t
    cases h : f a <;> simp [h] <;> omega
/-- How many values both parts have. -/
theorem num_size {l : List Dm.Rg} {op n : Int} (hl : l.length < 4095) (h : fitM op false = true) : Dm.sizeR (numR l op n) + Dm.sizeR (numR l (otM op) n) = Dm.sizeR (Dm.tk l) := by
  obtain ⟨ho, _⟩ := Dm.right_ord (Dm.tk_right l)
  have o1 := num_ord (l := l) (op := op) (n := n)
  have o2 := num_ord (l := l) (op := otM op) (n := n)
  rw [Dm.sizeR_vals o1.1, Dm.sizeR_vals o2.1, Dm.sizeR_vals ho.1]
  have e1 : Dm.vals (numR l op n) = (Dm.vals (Dm.tk l)).filter fun x => keB op n x := pw_eq (vals_pw o1) ((vals_pw ho).filter _) fun x => by rw [num_mem hl, List.mem_filter]
  have e2 : Dm.vals (numR l (otM op) n) = (Dm.vals (Dm.tk l)).filter fun x => !keB op n x := pw_eq (vals_pw o2) ((vals_pw ho).filter _) fun x => by rw [num_mem hl, List.mem_filter, ke_other h]
  rw [e1, e2]
  have := filt_split (fun x => keB op n x) (Dm.vals (Dm.tk l))
  omega
theorem num_has {l : List Dm.Rg} {op n x : Int} (hl : l.length < 4095) : Dm.hasV (numR l op n) x = (Dm.hasV l x && keB op n x) := by
  have ho := num_ord (l := l) (op := op) (n := n)
  have hr : Dm.Right (numR l op n) := by
    have ht := (Dm.tk_right l).1
    obtain ⟨hto, hti⟩ := Dm.right_ord (Dm.tk_right l)
    have htl : (Dm.tk l).length ≤ l.length := by unfold Dm.tk; split <;> simp
    refine Dm.ord_right ho ?_ ?_
    · intro r hr
      have h1 := ho.1 r hr
      have m1 : r.1 ∈ Dm.vals (numR l op n) := (Dm.mem_vals' _ _).2 ⟨r, hr, Int.le_refl _, h1⟩
      have m2 : r.2 ∈ Dm.vals (numR l op n) := (Dm.mem_vals' _ _).2 ⟨r, hr, h1, Int.le_refl _⟩
      obtain ⟨s1, hs1, q1⟩ := (Dm.mem_vals' _ _).1 ((num_mem hl).1 m1).1
      obtain ⟨s2, hs2, q2⟩ := (Dm.mem_vals' _ _).1 ((num_mem hl).1 m2).1
      have b1 := hti s1 hs1
      have b2 := hti s2 hs2
      constructor <;> omega
    · have hc : ∀ a b, (Dm.cutL (Dm.tk l) a b).length ≤ 4096 := fun a b => Nat.le_trans (List.length_filterMap_le _ _) ht
      unfold numR
      split
      · exact hc _ _
      split
      · unfold Dm.woR; split <;> assumption
      split
      · exact hc _ _
      · exact hc _ _
  unfold Dm.hasV
  rw [Dm.tk_yes hr]
  have := num_mem (l := l) (op := op) (n := n) (x := x) hl
  by_cases hm : x ∈ Dm.vals (numR l op n)
  · have h2 := this.1 hm
    simp [hm, h2.1, h2.2]
  · by_cases h1 : x ∈ Dm.vals (Dm.tk l)
    · have : keB op n x = false := by
        cases hk : keB op n x with
        | false => rfl
        | true => exact absurd (this.2 ⟨h1, hk⟩) hm
      simp [hm, h1, this]
    · simp [hm, h1]
end Go.Proofs.YthkliicmoandmaaGreatDoor

namespace Go.Proofs.YthkliicmoandmaaGreatDoor
open Go.RowKit Go.Shelf
set_option linter.unusedVariables false
set_option linter.unusedSimpArgs false

def hsA (d : MD) (vn : Int) (vs : List Int) : Bool := if d.set then St.hasD (sdM d) vs else Dm.hasV d.r vn

end Go.Proofs.YthkliicmoandmaaGreatDoor

namespace Go.Proofs.YthkliicmoandmaaGreatDoor
open Go.RowKit Go.Shelf
set_option linter.unusedVariables false
set_option linter.unusedSimpArgs false

def inA (d : MD) (st : Bool) (vn : Int) (vs : List Int) : Bool := rvM st vn vs && (st == d.set) && (rightM d && hsA d vn vs)

end Go.Proofs.YthkliicmoandmaaGreatDoor

namespace Go.Proofs.YthkliicmoandmaaGreatDoor
open Go.RowKit Go.Shelf
set_option linter.unusedVariables false
set_option linter.unusedSimpArgs false

theorem num_right {l : List Dm.Rg} {op n : Int} (hl : l.length < 4095) : Dm.Right (numR l op n) := by
  have ho := num_ord (l := l) (op := op) (n := n)
  have ht := (Dm.tk_right l).1
  obtain ⟨hto, hti⟩ := Dm.right_ord (Dm.tk_right l)
  have htl : (Dm.tk l).length ≤ l.length := by unfold Dm.tk; split <;> simp
  refine Dm.ord_right ho ?_ ?_
  · intro r hr
    have h1 := ho.1 r hr
    have m1 : r.1 ∈ Dm.vals (numR l op n) := (Dm.mem_vals' _ _).2 ⟨r, hr, Int.le_refl _, h1⟩
    have m2 : r.2 ∈ Dm.vals (numR l op n) := (Dm.mem_vals' _ _).2 ⟨r, hr, h1, Int.le_refl _⟩
    obtain ⟨s1, hs1, q1⟩ := (Dm.mem_vals' _ _).1 ((num_mem hl).1 m1).1
    obtain ⟨s2, hs2, q2⟩ := (Dm.mem_vals' _ _).1 ((num_mem hl).1 m2).1
    have b1 := hti s1 hs1
    have b2 := hti s2 hs2
    constructor <;> omega
  · have hc : ∀ a b, (Dm.cutL (Dm.tk l) a b).length ≤ 4096 := fun a b => Nat.le_trans (List.length_filterMap_le _ _) ht
    unfold numR
    split
    · exact hc _ _
    split
    · unfold Dm.woR; split <;> assumption
    split
    · exact hc _ _
    · exact hc _ _
theorem fits_right {l : List Dm.Rg} (h : Dm.Right l) : Dm.FitsR l := fun i hi => by
  have := h.2 i hi
  unfold Dm.OkAt at this
  unfold Dm.Fits
  omega
theorem fit_other {op : Int} {s : Bool} : fitM (otM op) s = fitM op s := by
  by_cases hk : knB op = true
  · rcases knB_cases hk with rfl | rfl | rfl | rfl | rfl | rfl <;> cases s <;> decide
  · have h := knB_no (Bool.eq_false_iff.2 hk)
    have : otM op = op := by unfold otM; simp [h]
    rw [this]
theorem res_err {d : MD} {op n : Int} : (resM d (otM op) n).2 = (resM d op n).2 := by
  unfold resM
  rw [fit_other]
  split
  · rfl
  split
  · rfl
  split <;> split <;> (try split) <;> (try split) <;> rfl
theorem res_ok {d : MD} {op n : Int} (h : (resM d op n).2 = 0) : rightM d = true ∧ fitM op d.set = true := by
  unfold resM at h
  split at h
  · simp at h
  split at h
  · simp at h
  · rename_i h1 h2
    simp at h1 h2
    exact ⟨h1, h2⟩
theorem res_num {d : MD} {op n : Int} (hr : rightM d = true) (hf : fitM op d.set = true) (hs : d.set = false) : (resM d op n).1 = ⟨false, numR d.r op n, [], [], 0, 0⟩ := by
  have h4 : ¬ op = 4 := by intro h; subst h; rw [hs] at hf; simp [fitM] at hf
  have h5 : ¬ op = 5 := by intro h; subst h; rw [hs] at hf; simp [fitM] at hf
  unfold resM
  rw [if_neg (by simp [hr]), if_neg (by simp [hf]), if_neg h4, if_neg h5]
theorem right_num {d : MD} {op n : Int} (hl : d.r.length < 4095) : rightM ⟨false, numR d.r op n, [], [], 0, 0⟩ = true := by
  unfold rightM rightW
  simp [Dm.rightB_yes (num_right hl)]
theorem sdM_of {s : St.SD} (h : s.rn = 0) : sdM (ofSD s) = s := by
  cases s
  simp only [sdM, ofSD, List.length_nil] at h ⊢
  simp [h]
theorem ho_num {op n vn : Int} {vs : List Int} (h : fitM op false = true) : hoM op n false vn vs = keB op n vn := by
  have hk : op = 0 ∨ op = 1 ∨ op = 2 ∨ op = 3 := by
    unfold fitM knB at h
    simp at h
    omega
  rcases hk with rfl | rfl | rfl | rfl <;> simp [hoM, keB]
  · by_cases hx : vn = n <;> simp [hx]
  · by_cases hx : vn = n <;> simp [hx]
structure Pt (d : MD) (op n : Int) (st : Bool) (vn : Int) (vs : List Int) : Prop where
  e1 : (inA (resM d op n).1 st vn vs && inA (resM d (otM op) n).1 st vn vs) = false
  e2 : (inA (resM d op n).1 st vn vs || inA (resM d (otM op) n).1 st vn vs) = inA d st vn vs
  e3 : inA d st vn vs = true → inA (resM d op n).1 st vn vs = hoM op n st vn vs
  e4 : sizA d < 2305843009213693952 → sizA (resM d op n).1 + sizA (resM d (otM op) n).1 = sizA d
  f1 : Dm.FitsR (resM d op n).1.r
  f2 : Dm.FitsR (resM d (otM op) n).1.r
theorem parts_n {d : MD} {op n : Int} {st : Bool} {vn : Int} {vs : List Int} (h : (resM d op n).2 = 0) (hs : d.set = false) (hl : d.r.length < 4095) : Pt d op n st vn vs := by
  obtain ⟨hr, hf⟩ := res_ok h
  have hf' : fitM (otM op) d.set = true := by rw [fit_other]; exact hf
  have a1 := res_num (n := n) hr hf hs
  have a2 := res_num (n := n) hr hf' hs
  have q1 := right_num (op := op) (n := n) hl
  have q2 := right_num (op := otM op) (n := n) hl
  have hF : fitM op false = true := by rw [← hs]; exact hf
  have k := ke_other (n := n) (x := vn) hF
  have i1 : inA (resM d op n).1 st vn vs = (rvM st vn vs && (st == false) && (Dm.hasV d.r vn && keB op n vn)) := by
    rw [a1]; unfold inA hsA; rw [q1]; simp [num_has hl]
  have i2 : inA (resM d (otM op) n).1 st vn vs = (rvM st vn vs && (st == false) && (Dm.hasV d.r vn && !keB op n vn)) := by
    rw [a2]; unfold inA hsA; rw [q2]; simp [num_has hl, k]
  have i3 : inA d st vn vs = (rvM st vn vs && (st == false) && Dm.hasV d.r vn) := by
    unfold inA hsA; rw [hr, hs]; simp
  refine ⟨?_, ?_, ?_, ?_, ?_, ?_⟩
  · rw [i1, i2]; cases rvM st vn vs <;> cases st <;> cases Dm.hasV d.r vn <;> cases keB op n vn <;> rfl
  · rw [i1, i2, i3]; cases rvM st vn vs <;> cases st <;> cases Dm.hasV d.r vn <;> cases keB op n vn <;> rfl
  · intro hi
    rw [i3] at hi
    simp only [Bool.and_eq_true, beq_iff_eq] at hi
    obtain ⟨⟨e1, e2⟩, e3⟩ := hi
    rw [i1, e1, e2, e3, ho_num hF]; simp
  · intro _
    rw [a1, a2]
    unfold sizA
    rw [hs]
    simp only [Bool.false_eq_true, if_false]
    rw [Dm.tk_yes (num_right hl), Dm.tk_yes (num_right hl)]
    exact num_size hl hF
  · rw [a1]; exact fits_right (num_right hl)
  · rw [a2]; exact fits_right (num_right hl)
theorem in_set {s : St.SD} (h : St.RightD s) (st : Bool) (vn : Int) (vs : List Int) : inA (ofSD s) st vn vs = (rvM st vn vs && (st == true) && St.hasD s vs) := by
  have e : sdM (ofSD s) = s := sdM_of h.2.1
  have e0 : (ofSD s).set = true := h.1
  unfold inA hsA rightM
  rw [e0, e, if_pos rfl, if_pos rfl]
  have : St.rightD s = true := by unfold St.rightD; simpa using h
  rw [this]; simp
theorem res_set {d : MD} {op n : Int} (hr : rightM d = true) (hf : fitM op d.set = true) (hs : d.set = true) : (op = 4 ∧ resM d op n = (ofSD (St.mustD (sdM d) n), 0) ∧ resM d (otM op) n = (ofSD (St.notD (sdM d) n), 0)) ∨ (op = 5 ∧ resM d op n = (ofSD (St.notD (sdM d) n), 0) ∧ resM d (otM op) n = (ofSD (St.mustD (sdM d) n), 0)) := by
  have h45 : op = 4 ∨ op = 5 := by
    rw [hs] at hf
    unfold fitM knB at hf
    simp at hf
    omega
  rcases h45 with rfl | rfl
  · refine .inl ⟨rfl, ?_, ?_⟩
    · unfold resM; rw [if_neg (by simp [hr]), if_neg (by simp [hf]), if_pos rfl]
    · unfold resM; rw [if_neg (by simp [hr]), fit_other, if_neg (by simp [hf]), if_neg (by decide), if_pos (by decide)]
  · refine .inr ⟨rfl, ?_, ?_⟩
    · unfold resM; rw [if_neg (by simp [hr]), if_neg (by simp [hf]), if_neg (by decide), if_pos rfl]
    · unfold resM; rw [if_neg (by simp [hr]), fit_other, if_neg (by simp [hf]), if_pos (by decide)]
theorem parts_s {d : MD} {op n : Int} {st : Bool} {vn : Int} {vs : List Int} (h : (resM d op n).2 = 0) (hs : d.set = true) : Pt d op n st vn vs := by
  obtain ⟨hr, hf⟩ := res_ok h
  have hrd : St.rightD (sdM d) = true := by unfold rightM at hr; rwa [if_pos hs] at hr
  have m1 := in_set (St.must_right (sdM d) n) st vn vs
  have m2 := in_set (St.not_right (sdM d) n) st vn vs
  have i3 : inA d st vn vs = (rvM st vn vs && (st == true) && St.hasD (sdM d) vs) := by
    unfold inA hsA; rw [hr, hs]; simp
  have hm := St.must_has (sdM d) n vs
  have hn := St.not_has (sdM d) n vs
  have c1 : St.hasD (St.mustD (sdM d) n) vs = (St.hasD (sdM d) vs && (St.tkS vs).contains n) := by
    by_cases hv : n ∈ St.tkS vs
    · cases hh : St.hasD (sdM d) vs <;> simp [hv, hh] at hm ⊢ <;> exact hm
    · cases hh : St.hasD (sdM d) vs <;> simp [hv, hh] at hm ⊢ <;> exact hm
  have c2 : St.hasD (St.notD (sdM d) n) vs = (St.hasD (sdM d) vs && !(St.tkS vs).contains n) := by
    by_cases hv : n ∈ St.tkS vs
    · cases hh : St.hasD (sdM d) vs <;> simp [hv, hh] at hn ⊢ <;> exact hn
    · cases hh : St.hasD (sdM d) vs <;> simp [hv, hh] at hn ⊢ <;> exact hn
  rw [c1] at m1
  rw [c2] at m2
  have s0 : sizA d = St.countD (sdM d) := by unfold sizA; rw [if_pos hs]
  have s1 : sizA (ofSD (St.mustD (sdM d) n)) = St.countD (St.mustD (sdM d) n) := by
    have hR := St.must_right (sdM d) n
    unfold sizA
    rw [sdM_of hR.2.1, if_pos (show (ofSD _).set = true from hR.1)]
  have s2 : sizA (ofSD (St.notD (sdM d) n)) = St.countD (St.notD (sdM d) n) := by
    have hR := St.not_right (sdM d) n
    unfold sizA
    rw [sdM_of hR.2.1, if_pos (show (ofSD _).set = true from hR.1)]
  have hfr : ∀ s : St.SD, Dm.FitsR (ofSD s).r := fun s i hi => by simp [ofSD] at hi
  rcases res_set (n := n) hr hf hs with ⟨rfl, a1, a2⟩ | ⟨rfl, a1, a2⟩
  · refine ⟨?_, ?_, ?_, ?_, by rw [a1]; exact hfr _, by rw [a2]; exact hfr _⟩
    · rw [a1, a2, m1, m2]; cases rvM st vn vs <;> cases st <;> cases St.hasD (sdM d) vs <;> cases (St.tkS vs).contains n <;> rfl
    · rw [a1, a2, m1, m2, i3]; cases rvM st vn vs <;> cases st <;> cases St.hasD (sdM d) vs <;> cases (St.tkS vs).contains n <;> rfl
    · intro hi
      rw [i3] at hi
      simp only [Bool.and_eq_true, beq_iff_eq] at hi
      obtain ⟨⟨e1, e2⟩, e3⟩ := hi
      rw [a1, m1, e1, e2, e3]; simp [hoM]
    · intro hlt
      rw [a1, a2, s1, s2, s0]
      exact (St.parts_count _ _ (by rw [← s0]; exact hlt)).1
  · refine ⟨?_, ?_, ?_, ?_, by rw [a1]; exact hfr _, by rw [a2]; exact hfr _⟩
    · rw [a1, a2, m1, m2]; cases rvM st vn vs <;> cases st <;> cases St.hasD (sdM d) vs <;> cases (St.tkS vs).contains n <;> rfl
    · rw [a1, a2, m1, m2, i3]; cases rvM st vn vs <;> cases st <;> cases St.hasD (sdM d) vs <;> cases (St.tkS vs).contains n <;> rfl
    · intro hi
      rw [i3] at hi
      simp only [Bool.and_eq_true, beq_iff_eq] at hi
      obtain ⟨⟨e1, e2⟩, e3⟩ := hi
      rw [a1, m2, e1, e2, e3]; simp [hoM]
    · intro hlt
      rw [a1, a2, s1, s2, s0]
      have := (St.parts_count _ n (by rw [← s0]; exact hlt)).1
      omega
end Go.Proofs.YthkliicmoandmaaGreatDoor
