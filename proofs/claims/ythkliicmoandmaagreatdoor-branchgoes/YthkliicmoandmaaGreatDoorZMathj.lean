/-
  What is proved here: plain mathematics of ranges of numbers, of the values in them, and of bits in words.
  What is proved here: plain mathematics of the values that are there, rising, and of their runs.
  What is proved here: lists of ranges that rise and do not touch: what is cut out of them, what is not in them, and their runs.
-/
import Derived.WalkKit
namespace Go.Proofs.YthkliicmoandmaaGreatDoor.Dm
set_option linter.unusedSimpArgs false
set_option linter.unusedVariables false

abbrev Rg := Int × Int
def lo (l : List Rg) (i : Nat) : Int := (l[i]?.getD (0, 0)).1
def hi (l : List Rg) (i : Nat) : Int := (l[i]?.getD (0, 0)).2
def OkAt (l : List Rg) (i : Nat) : Prop := lo l i ≤ hi l i ∧ -1000000 ≤ lo l i ∧ hi l i ≤ 1000000 ∧ (0 < i → hi l (i - 1) + 1 < lo l i)
instance (l : List Rg) (i : Nat) : Decidable (OkAt l i) := by unfold OkAt; infer_instance
/-- Ranges are right. -/
def Right (l : List Rg) : Prop := l.length ≤ 4096 ∧ ∀ i, i < l.length → OkAt l i

instance (l : List Rg) : Decidable (Right l) := by unfold Right; infer_instance
/-- Are ranges right? -/
def rightB (l : List Rg) : Bool := decide (Right l)
theorem rightB_yes {l : List Rg} (h : Right l) : rightB l = true := by unfold rightB; simpa using h
theorem rightB_no {l : List Rg} (h : ¬ Right l) : rightB l = false := by unfold rightB; simpa using h

/-- All numbers from a to b. -/
def span (a b : Int) : List Int := (List.range (b + 1 - a).toNat).map fun k : Nat => a + (k : Int)
def vals (l : List Rg) : List Int := l.flatMap fun r => span r.1 r.2
theorem span_length (a b : Int) : (span a b).length = (b + 1 - a).toNat := by simp [span]
theorem mem_span (a b v : Int) : v ∈ span a b ↔ a ≤ v ∧ v ≤ b := by
  unfold span
  rw [List.mem_map]
  constructor
  · rintro ⟨k, hk, rfl⟩; rw [List.mem_range] at hk; omega
  · rintro ⟨h1, h2⟩; exact ⟨(v - a).toNat, by rw [List.mem_range]; omega, by omega⟩
theorem right_up (l : List Rg) (h : Right l) : ∀ j i, i ≤ j → j < l.length → lo l i ≤ lo l j ∧ hi l i ≤ hi l j := by
  intro j
  induction j with
  | zero => intro i hi' _; obtain rfl : i = 0 := by omega
            exact ⟨Int.le_refl _, Int.le_refl _⟩
  | succ j ih =>
    intro i hi' hj
    by_cases e : i = j + 1
    · subst e; exact ⟨Int.le_refl _, Int.le_refl _⟩
    · have h1 := ih i (by omega) (by omega)
      have h2 := h.2 (j + 1) hj
      have h3 := h.2 j (by omega)
      unfold OkAt at h2 h3
      have h4 := h2.2.2.2 (by omega)
      rw [Nat.add_sub_cancel] at h4
      omega
theorem snoc_induct {α : Type} {C : List α → Prop} (h0 : C []) (h1 : ∀ l a, C l → C (l ++ [a])) : ∀ l, C l := by
  intro l
  rw [← List.reverse_reverse l]
  induction l.reverse with
  | nil => exact h0
  | cons a r ih => rw [List.reverse_cons]; exact h1 _ _ ih
end Go.Proofs.YthkliicmoandmaaGreatDoor.Dm


namespace Go.Proofs.YthkliicmoandmaaGreatDoor.Dm
set_option linter.unusedSimpArgs false
set_option linter.unusedVariables false

theorem set_last {α : Type} (l : List α) (a b : α) : (l ++ [a]).set l.length b = l ++ [b] := by
  rw [List.set_append_right _ _ (Nat.le_refl _)]; simp
theorem hi_last (l : List Rg) (r : Rg) : hi (l ++ [r]) l.length = r.2 := by unfold hi; simp
theorem lo_last (l : List Rg) (r : Rg) : lo (l ++ [r]) l.length = r.1 := by unfold lo; simp
end Go.Proofs.YthkliicmoandmaaGreatDoor.Dm


namespace Go.Proofs.YthkliicmoandmaaGreatDoor.Dm
set_option linter.unusedSimpArgs false
set_option linter.unusedVariables false
set_option linter.unusedVariables false

/-- Ranges that rise, none of them touching. -/
def Ord (l : List Rg) : Prop := (∀ r ∈ l, r.1 ≤ r.2) ∧ l.Pairwise (fun r s => r.2 + 1 < s.1)
def Inb (l : List Rg) : Prop := ∀ r ∈ l, -1000000 ≤ r.1 ∧ r.2 ≤ 1000000
theorem lo_get (l : List Rg) (i : Nat) (h : i < l.length) : lo l i = l[i].1 := by unfold lo; rw [List.getElem?_eq_getElem h]; rfl
theorem hi_get (l : List Rg) (i : Nat) (h : i < l.length) : hi l i = l[i].2 := by unfold hi; rw [List.getElem?_eq_getElem h]; rfl
theorem right_ord {l : List Rg} (h : Right l) : Ord l ∧ Inb l := by
  refine ⟨⟨fun r hr => ?_, ?_⟩, fun r hr => ?_⟩
  · obtain ⟨i, hi, rfl⟩ := List.mem_iff_getElem.1 hr
    have := (h.2 i hi).1
    rw [lo_get l i hi, hi_get l i hi] at this; exact this
  · rw [List.pairwise_iff_getElem]
    intro i j hi hj hij
    have h1 := (h.2 j hj).2.2.2 (by omega)
    have h2 := right_up l h (j - 1) i (by omega) (by omega)
    rw [lo_get l j hj] at h1
    have h3 := h2.2
    rw [hi_get l i hi] at h3
    omega
  · obtain ⟨i, hi, rfl⟩ := List.mem_iff_getElem.1 hr
    have := h.2 i hi
    unfold OkAt at this
    rw [lo_get l i hi, hi_get l i hi] at this
    exact ⟨this.2.1, this.2.2.1⟩
theorem ord_right {l : List Rg} (h : Ord l) (hb : Inb l) (hl : l.length ≤ 4096) : Right l := by
  refine ⟨hl, fun i hi => ?_⟩
  have h1 := h.1 l[i] (List.getElem_mem hi)
  have h2 := hb l[i] (List.getElem_mem hi)
  refine ⟨by rw [lo_get l i hi, hi_get l i hi]; exact h1, by rw [lo_get l i hi]; exact h2.1, by rw [hi_get l i hi]; exact h2.2, fun h0 => ?_⟩
  have h3 := (List.pairwise_iff_getElem.1 h.2) (i - 1) i (by omega) hi (by omega)
  rw [lo_get l i hi, hi_get l (i - 1) (by omega)]
  exact h3
theorem mem_vals' (l : List Rg) (v : Int) : v ∈ vals l ↔ ∃ r ∈ l, r.1 ≤ v ∧ v ≤ r.2 := by
  unfold vals
  rw [List.mem_flatMap]
  simp only [mem_span]
theorem vals_append (a b : List Rg) : vals (a ++ b) = vals a ++ vals b := by unfold vals; rw [List.flatMap_append]

/-- A range cut to what lies from a to b. -/
def cut1 (a b : Int) (r : Rg) : Option Rg := if (if r.1 < a then a else r.1) ≤ (if b < r.2 then b else r.2) then some (if r.1 < a then a else r.1, if b < r.2 then b else r.2) else none
def cutL (l : List Rg) (a b : Int) : List Rg := l.filterMap (cut1 a b)
theorem cut1_some {a b : Int} {r p : Rg} (h : cut1 a b r = some p) : p.1 ≤ p.2 ∧ r.1 ≤ p.1 ∧ a ≤ p.1 ∧ p.2 ≤ r.2 ∧ p.2 ≤ b ∧ (p.1 = r.1 ∨ (p.1 = a ∧ r.1 < a)) := by
  unfold cut1 at h
  obtain ⟨x, hx⟩ : ∃ x, (if r.1 < a then a else r.1) = x := ⟨_, rfl⟩
  obtain ⟨y, hy⟩ : ∃ y, (if b < r.2 then b else r.2) = y := ⟨_, rfl⟩
  rw [hx, hy] at h
  by_cases hc : x ≤ y
  · rw [if_pos hc] at h
    have e : (x, y) = p := by injection h
    subst e
    show x ≤ y ∧ r.1 ≤ x ∧ a ≤ x ∧ y ≤ r.2 ∧ y ≤ b ∧ (x = r.1 ∨ (x = a ∧ r.1 < a))
    split at hx <;> split at hy <;> omega
  · rw [if_neg hc] at h; cases h
theorem cut1_mem (a b : Int) (r : Rg) (v : Int) : (∃ p, cut1 a b r = some p ∧ p.1 ≤ v ∧ v ≤ p.2) ↔ (r.1 ≤ v ∧ v ≤ r.2 ∧ a ≤ v ∧ v ≤ b) := by
  constructor
  · rintro ⟨p, hp, h1, h2⟩
    have := cut1_some hp
    omega
  · rintro ⟨h1, h2, h3, h4⟩
    unfold cut1
    have e1 : (if r.1 < a then a else r.1) ≤ v := by split <;> omega
    have e2 : v ≤ (if b < r.2 then b else r.2) := by split <;> omega
    rw [if_pos (by omega)]
    exact ⟨_, rfl, e1, e2⟩
theorem mem_cutL (l : List Rg) (a b v : Int) : v ∈ vals (cutL l a b) ↔ v ∈ vals l ∧ a ≤ v ∧ v ≤ b := by
  rw [mem_vals', mem_vals']
  unfold cutL
  simp only [List.mem_filterMap]
  constructor
  · rintro ⟨p, ⟨r, hr, hp⟩, h1, h2⟩
    have := (cut1_mem a b r v).1 ⟨p, hp, h1, h2⟩
    exact ⟨⟨r, hr, this.1, this.2.1⟩, this.2.2⟩
  · rintro ⟨⟨r, hr, h1, h2⟩, h3⟩
    obtain ⟨p, hp, h4⟩ := (cut1_mem a b r v).2 ⟨h1, h2, h3⟩
    exact ⟨p, ⟨r, hr, hp⟩, h4⟩

/-- All that is cut out of a by the ranges c. -/
def pieces (c a : List Rg) : List Rg := c.flatMap fun r => cutL a r.1 r.2
theorem mem_pieces (c a : List Rg) (v : Int) : v ∈ vals (pieces c a) ↔ v ∈ vals c ∧ v ∈ vals a := by
  have e : vals (pieces c a) = c.flatMap fun r => vals (cutL a r.1 r.2) := by unfold vals pieces; rw [List.flatMap_assoc]
  rw [e, List.mem_flatMap, mem_vals' c]
  simp only [mem_cutL]
  constructor
  · rintro ⟨r, hr, h1, h2⟩; exact ⟨⟨r, hr, h2⟩, h1⟩
  · rintro ⟨⟨r, hr, h2⟩, h1⟩; exact ⟨r, hr, h1, h2⟩
theorem piece_of {c a : List Rg} {p : Rg} (h : p ∈ pieces c a) : ∃ r ∈ c, ∃ s ∈ a, cut1 r.1 r.2 s = some p := by
  unfold pieces at h
  rw [List.mem_flatMap] at h
  obtain ⟨r, hr, h⟩ := h
  unfold cutL at h
  rw [List.mem_filterMap] at h
  obtain ⟨s, hs, h⟩ := h
  exact ⟨r, hr, s, hs, h⟩
theorem ord_pieces {c a : List Rg} (hc : Ord c) (ha : Ord a) : Ord (pieces c a) := by
  refine ⟨fun p hp => ?_, ?_⟩
  · obtain ⟨r, _, s, _, h⟩ := piece_of hp
    exact (cut1_some h).1
  · unfold pieces
    rw [List.pairwise_flatMap]
    refine ⟨fun r hr => ?_, ?_⟩
    · unfold cutL
      rw [List.pairwise_filterMap]
      refine ha.2.imp fun {s s'} hs p hp p' hp' => ?_
      have h1 := cut1_some hp
      have h2 := cut1_some hp'
      omega
    · refine hc.2.imp fun {r r'} hr p hp p' hp' => ?_
      unfold cutL at hp hp'
      rw [List.mem_filterMap] at hp hp'
      obtain ⟨s, _, h1⟩ := hp
      obtain ⟨s', _, h2⟩ := hp'
      have h3 := cut1_some h1
      have h4 := cut1_some h2
      omega
/-- What is not in ranges, from a number on. -/
def notF : Int → List Rg → List Rg
  | f, [] => if f ≤ 1000000 then [(f, 1000000)] else []
  | f, r :: l => (if f < r.1 then [(f, r.1 - 1)] else []) ++ notF (r.2 + 1) l
def notL (l : List Rg) : List Rg := notF (-1000000) l
theorem notF_facts : ∀ (l : List Rg) (f : Int), Ord l → Inb l → (∀ r ∈ l, f ≤ r.1) → Ord (notF f l) ∧ (∀ p ∈ notF f l, f ≤ p.1 ∧ p.2 ≤ 1000000) ∧ ∀ v, v ∈ vals (notF f l) ↔ (f ≤ v ∧ v ≤ 1000000 ∧ v ∉ vals l) := by
  intro l
  induction l with
  | nil =>
    intro f _ _ _
    unfold notF
    split
    · rename_i h
      refine ⟨⟨fun r hr => by rw [List.mem_singleton] at hr; rw [hr]; exact h, List.pairwise_singleton _ _⟩, fun p hp => by rw [List.mem_singleton] at hp; rw [hp]; exact ⟨Int.le_refl _, Int.le_refl _⟩, fun v => ?_⟩
      rw [mem_vals']
      simp [vals]
    · rename_i h
      refine ⟨⟨fun r hr => (by cases hr), List.Pairwise.nil⟩, fun p hp => (by cases hp), fun v => ?_⟩
      simp [vals]
      omega
  | cons r l ih =>
    intro f ho hb hf
    have hr := ho.1 r (by simp)
    have hp := List.pairwise_cons.1 ho.2
    have hfr := hf r (by simp)
    have hol : Ord l := ⟨fun s hs => ho.1 s (by simp [hs]), hp.2⟩
    obtain ⟨i1, i2, i3⟩ := ih (r.2 + 1) hol (fun s hs => hb s (by simp [hs])) (fun s hs => by have := hp.1 s hs; omega)
    unfold notF
    refine ⟨⟨fun p hpm => ?_, ?_⟩, fun p hpm => ?_, fun v => ?_⟩
    · rw [List.mem_append] at hpm
      rcases hpm with h | h
      · split at h
        · rw [List.mem_singleton] at h; rw [h]; show f ≤ r.1 - 1; omega
        · cases h
      · exact i1.1 p h
    · rw [List.pairwise_append]
      refine ⟨?_, i1.2, fun p h q hq => ?_⟩
      · split
        · exact List.pairwise_singleton _ _
        · exact List.Pairwise.nil
      split at h
      · rw [List.mem_singleton] at h
        have := (i2 q hq).1
        rw [h]; show r.1 - 1 + 1 < q.1; omega
      · cases h
    · rw [List.mem_append] at hpm
      rcases hpm with h | h
      · split at h
        · rw [List.mem_singleton] at h; have := (hb r (by simp)).2; rw [h]; exact ⟨Int.le_refl _, by show r.1 - 1 ≤ 1000000; omega⟩
        · cases h
      · have := i2 p h; omega
    · rw [vals_append, List.mem_append, i3]
      have hv : v ∈ vals (r :: l) ↔ (r.1 ≤ v ∧ v ≤ r.2) ∨ v ∈ vals l := by
        have : vals (r :: l) = span r.1 r.2 ++ vals l := by unfold vals; rw [List.flatMap_cons]
        rw [this, List.mem_append, mem_span]
      have hl : v ∈ vals l → r.2 + 1 < v := fun h => by
        obtain ⟨s, hs, h1, h2⟩ := (mem_vals' l v).1 h
        have := hp.1 s hs
        omega
      rw [hv]
      have hg : v ∈ vals (if f < r.1 then [(f, r.1 - 1)] else []) ↔ (f ≤ v ∧ v < r.1) := by
        split
        · rw [mem_vals']; simp; omega
        · simp [vals]; omega
      rw [hg]
      have hb2 := (hb r (by simp)).2
      constructor
      · rintro (h | ⟨h1, h2, h3⟩)
        · exact ⟨h.1, by omega, fun h4 => h4.elim (fun h5 => by omega) (fun h5 => by have := hl h5; omega)⟩
        · exact ⟨by omega, h2, fun h4 => h4.elim (fun h5 => by omega) (fun h5 => h3 h5)⟩
      · rintro ⟨h1, h2, h3⟩
        by_cases h4 : v < r.1
        · exact .inl ⟨h1, h4⟩
        · refine .inr ⟨?_, h2, fun h5 => h3 (.inr h5)⟩
          apply Classical.byContradiction
          intro h5
          exact h3 (.inl ⟨by omega, by omega⟩)
end Go.Proofs.YthkliicmoandmaaGreatDoor.Dm

