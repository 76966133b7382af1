/-
  What is proved here: plain mathematics of ranges of numbers, of the values in them, and of bits in words.
  What is proved here: lists of ranges that rise and do not touch: what is cut out of them, what is not in them, and their runs.
  What is proved here: ranges in any order made ranges that rise and do not touch (mathematics alone).
-/
import Derived.WalkKit
namespace Go.Proofs.YthkliicmoandmaaGreatDoor.Dm
set_option linter.unusedSimpArgs false
set_option linter.unusedVariables false

abbrev Rg := Int × Int
def lo (l : List Rg) (i : Nat) : Int := (l[i]?.getD (0, 0)).1
def hi (l : List Rg) (i : Nat) : Int := (l[i]?.getD (0, 0)).2
def OkAt (l : List Rg) (i : Nat) : Prop := lo l i ≤ hi l i ∧ -1000000 ≤ lo l i ∧ hi l i ≤ 1000000 ∧ (0 < i → hi l (i - 1) + 1 < lo l i)
instance (l : List Rg) (i : Nat) : Decidable (OkAt l i) := by unfold OkAt; infer_instance
/-- Ranges are right. -/
def Right (l : List Rg) : Prop := l.length ≤ 4096 ∧ ∀ i, i < l.length → OkAt l i

instance (l : List Rg) : Decidable (Right l) := by unfold Right; infer_instance
/-- Are ranges right? -/
def rightB (l : List Rg) : Bool := decide (Right l)
theorem rightB_yes {l : List Rg} (h : Right l) : rightB l = true := by unfold rightB; simpa using h
theorem rightB_no {l : List Rg} (h : ¬ Right l) : rightB l = false := by unfold rightB; simpa using h

/-- All numbers from a to b. -/
def span (a b : Int) : List Int := (List.range (b + 1 - a).toNat).map fun k : Nat => a + (k : Int)
def vals (l : List Rg) : List Int := l.flatMap fun r => span r.1 r.2
theorem span_length (a b : Int) : (span a b).length = (b + 1 - a).toNat := by simp [span]
theorem mem_span (a b v : Int) : v ∈ span a b ↔ a ≤ v ∧ v ≤ b := by
  unfold span
  rw [List.mem_map]
  constructor
  · rintro ⟨k, hk, rfl⟩; rw [List.mem_range] at hk; omega
  · rintro ⟨h1, h2⟩; exact ⟨(v - a).toNat, by rw [List.mem_range]; omega, by omega⟩
theorem right_up (l : List Rg) (h : Right l) : ∀ j i, i ≤ j → j < l.length → lo l i ≤ lo l j ∧ hi l i ≤ hi l j := by
  intro j
  induction j with
  | zero => intro i hi' _; obtain rfl : i = 0 := by omega
            exact ⟨Int.le_refl _, Int.le_refl _⟩
  | succ j ih =>
    intro i hi' hj
    by_cases e : i = j + 1
    · subst e; exact ⟨Int.le_refl _, Int.le_refl _⟩
    · have h1 := ih i (by omega) (by omega)
      have h2 := h.2 (j + 1) hj
      have h3 := h.2 j (by omega)
      unfold OkAt at h2 h3
      have h4 := h2.2.2.2 (by omega)
      rw [Nat.add_sub_cancel] at h4
      omega
end Go.Proofs.YthkliicmoandmaaGreatDoor.Dm


namespace Go.Proofs.YthkliicmoandmaaGreatDoor.Dm
set_option linter.unusedSimpArgs false
set_option linter.unusedVariables false
set_option linter.unusedVariables false

/-- Ranges that rise, none of them touching. -/
def Ord (l : List Rg) : Prop := (∀ r ∈ l, r.1 ≤ r.2) ∧ l.Pairwise (fun r s => r.2 + 1 < s.1)
def Inb (l : List Rg) : Prop := ∀ r ∈ l, -1000000 ≤ r.1 ∧ r.2 ≤ 1000000
theorem lo_get (l : List Rg) (i : Nat) (h : i < l.length) : lo l i = l[i].1 := by unfold lo; rw [List.getElem?_eq_getElem h]; rfl
theorem hi_get (l : List Rg) (i : Nat) (h : i < l.length) : hi l i = l[i].2 := by unfold hi; rw [List.getElem?_eq_getElem h]; rfl
theorem right_ord {l : List Rg} (h : Right l) : Ord l ∧ Inb l := by
  refine ⟨⟨fun r hr => ?_, ?_⟩, fun r hr => ?_⟩
  · obtain ⟨i, hi, rfl⟩ := List.mem_iff_getElem.1 hr
    have := (h.2 i hi).1
    rw [lo_get l i hi, hi_get l i hi] at this; exact this
  · rw [List.pairwise_iff_getElem]
    intro i j hi hj hij
    have h1 := (h.2 j hj).2.2.2 (by omega)
    have h2 := right_up l h (j - 1) i (by omega) (by omega)
    rw [lo_get l j hj] at h1
    have h3 := h2.2
    rw [hi_get l i hi] at h3
    omega
  · obtain ⟨i, hi, rfl⟩ := List.mem_iff_getElem.1 hr
    have := h.2 i hi
    unfold OkAt at this
    rw [lo_get l i hi, hi_get l i hi] at this
    exact ⟨this.2.1, this.2.2.1⟩
theorem mem_vals' (l : List Rg) (v : Int) : v ∈ vals l ↔ ∃ r ∈ l, r.1 ≤ v ∧ v ≤ r.2 := by
  unfold vals
  rw [List.mem_flatMap]
  simp only [mem_span]
end Go.Proofs.YthkliicmoandmaaGreatDoor.Dm


namespace Go.Proofs.YthkliicmoandmaaGreatDoor.Dm
set_option linter.unusedSimpArgs false
set_option linter.unusedVariables false
set_option linter.unusedVariables false

theorem ord_cons {r : Rg} {l : List Rg} (h : Ord (r :: l)) : r.1 ≤ r.2 ∧ Ord l ∧ ∀ v ∈ vals l, r.2 + 1 < v := by
  have hp := List.pairwise_cons.1 h.2
  refine ⟨h.1 r (by simp), ⟨fun s hs => h.1 s (by simp [hs]), hp.2⟩, fun v hv => ?_⟩
  obtain ⟨s, hs, h1, h2⟩ := (mem_vals' l v).1 hv
  have := hp.1 s hs
  omega
end Go.Proofs.YthkliicmoandmaaGreatDoor.Dm

