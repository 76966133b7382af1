/-
  What is proved here: lists of ranges that rise and do not touch: what is cut out of them, what is not in them, and their runs.
-/
import Derived.Test.YtogankopiechcaaZMb
namespace Go.Proofs.Ytogankopiechcaa.Dm
set_option linter.unusedSimpArgs false
set_option linter.unusedVariables false
set_option linter.unusedVariables false

/-- Ranges that rise, none of them touching. -/
def Ord (l : List Rg) : Prop := (∀ r ∈ l, r.1 ≤ r.2) ∧ l.Pairwise (fun r s => r.2 + 1 < s.1)
def Inb (l : List Rg) : Prop := ∀ r ∈ l, -1000000 ≤ r.1 ∧ r.2 ≤ 1000000
theorem lo_get (l : List Rg) (i : Nat) (h : i < l.length) : lo l i = l[i].1 := by unfold lo; rw [List.getElem?_eq_getElem h]; rfl
theorem hi_get (l : List Rg) (i : Nat) (h : i < l.length) : hi l i = l[i].2 := by unfold hi; rw [List.getElem?_eq_getElem h]; rfl
theorem right_ord {l : List Rg} (h : Right l) : Ord l ∧ Inb l := by
  refine ⟨⟨fun r hr => ?_, ?_⟩, fun r hr => ?_⟩
  · obtain ⟨i, hi, rfl⟩ := List.mem_iff_getElem.1 hr
    have := (h.2 i hi).1
    rw [lo_get l i hi, hi_get l i hi] at this; exact this
  · rw [List.pairwise_iff_getElem]
    intro i j hi hj hij
    have h1 := (h.2 j hj).2.2.2 (by omega)
    have h2 := right_up l h (j - 1) i (by omega) (by omega)
    rw [lo_get l j hj] at h1
    have h3 := h2.2
    rw [hi_get l i hi] at h3
    omega
  · obtain ⟨i, hi, rfl⟩ := List.mem_iff_getElem.1 hr
    have := h.2 i hi
    unfold OkAt at this
    rw [lo_get l i hi, hi_get l i hi] at this
    exact ⟨this.2.1, this.2.2.1⟩
theorem ord_right {l : List Rg} (h : Ord l) (hb : Inb l) (hl : l.length ≤ 4096) : Right l := by
  refine ⟨hl, fun i hi => ?_⟩
  have h1 := h.1 l[i] (List.getElem_mem hi)
  have h2 := hb l[i] (List.getElem_mem hi)
  refine ⟨by rw [lo_get l i hi, hi_get l i hi]; exact h1, by rw [lo_get l i hi]; exact h2.1, by rw [hi_get l i hi]; exact h2.2, fun h0 => ?_⟩
  have h3 := (List.pairwise_iff_getElem.1 h.2) (i - 1) i (by omega) hi (by omega)
  rw [lo_get l i hi, hi_get l (i - 1) (by omega)]
  exact h3
theorem mem_vals' (l : List Rg) (v : Int) : v ∈ vals l ↔ ∃ r ∈ l, r.1 ≤ v ∧ v ≤ r.2 := by
  unfold vals
  rw [List.mem_flatMap]
  simp only [mem_span]
theorem vals_append (a b : List Rg) : vals (a ++ b) = vals a ++ vals b := by unfold vals; rw [List.flatMap_append]

/-- A range cut to what lies from a to b. -/
def cut1 (a b : Int) (r : Rg) : Option Rg := if (if r.1 < a then a else r.1) ≤ (if b < r.2 then b else r.2) then some (if r.1 < a then a else r.1, if b < r.2 then b else r.2) else none
def cutL (l : List Rg) (a b : Int) : List Rg := l.filterMap (cut1 a b)
theorem cut1_some {a b : Int} {r p : Rg} (h : cut1 a b r = some p) : p.1 ≤ p.2 ∧ r.1 ≤ p.1 ∧ a ≤ p.1 ∧ p.2 ≤ r.2 ∧ p.2 ≤ b ∧ (p.1 = r.1 ∨ (p.1 = a ∧ r.1 < a)) := by
  unfold cut1 at h
  obtain ⟨x, hx⟩ : ∃ x, (if r.1 < a then a else r.1) = x := ⟨_, rfl⟩
  obtain ⟨y, hy⟩ : ∃ y, (if b < r.2 then b else r.2) = y := ⟨_, rfl⟩
  rw [hx, hy] at h
  by_cases hc : x ≤ y
  · rw [if_pos hc] at h
    have e : (x, y) = p := by injection h
    subst e
    show x ≤ y ∧ r.1 ≤ x ∧ a ≤ x ∧ y ≤ r.2 ∧ y ≤ b ∧ (x = r.1 ∨ (x = a ∧ r.1 < a))
    split at hx <;> split at hy <;> omega
  · rw [if_neg hc] at h; cases h
theorem cut1_mem (a b : Int) (r : Rg) (v : Int) : (∃ p, cut1 a b r = some p ∧ p.1 ≤ v ∧ v ≤ p.2) ↔ (r.1 ≤ v ∧ v ≤ r.2 ∧ a ≤ v ∧ v ≤ b) := by
  constructor
  · rintro ⟨p, hp, h1, h2⟩
    have := cut1_some hp
    omega
  · rintro ⟨h1, h2, h3, h4⟩
    unfold cut1
    have e1 : (if r.1 < a then a else r.1) ≤ v := by split <;> omega
    have e2 : v ≤ (if b < r.2 then b else r.2) := by split <;> omega
    rw [if_pos (by omega)]
    exact ⟨_, rfl, e1, e2⟩
theorem mem_cutL (l : List Rg) (a b v : Int) : v ∈ vals (cutL l a b) ↔ v ∈ vals l ∧ a ≤ v ∧ v ≤ b := by
  rw [mem_vals', mem_vals']
  unfold cutL
  simp only [List.mem_filterMap]
  constructor
  · rintro ⟨p, ⟨r, hr, hp⟩, h1, h2⟩
    have := (cut1_mem a b r v).1 ⟨p, hp, h1, h2⟩
    exact ⟨⟨r, hr, this.1, this.2.1⟩, this.2.2⟩
  · rintro ⟨⟨r, hr, h1, h2⟩, h3⟩
    obtain ⟨p, hp, h4⟩ := (cut1_mem a b r v).2 ⟨h1, h2, h3⟩
    exact ⟨p, ⟨r, hr, hp⟩, h4⟩

/-- All that is cut out of a by the ranges c. -/
def pieces (c a : List Rg) : List Rg := c.flatMap fun r => cutL a r.1 r.2
theorem mem_pieces (c a : List Rg) (v : Int) : v ∈ vals (pieces c a) ↔ v ∈ vals c ∧ v ∈ vals a := by
  have e : vals (pieces c a) = c.flatMap fun r => vals (cutL a r.1 r.2) := by unfold vals pieces; rw [List.flatMap_assoc]
  rw [e, List.mem_flatMap, mem_vals' c]
  simp only [mem_cutL]
  constructor
  · rintro ⟨r, hr, h1, h2⟩; exact ⟨⟨r, hr, h2⟩, h1⟩
  · rintro ⟨⟨r, hr, h2⟩, h1⟩; exact ⟨r, hr, h1, h2⟩
theorem piece_of {c a : List Rg} {p : Rg} (h : p ∈ pieces c a) : ∃ r ∈ c, ∃ s ∈ a, cut1 r.1 r.2 s = some p := by
  unfold pieces at h
  rw [List.mem_flatMap] at h
  obtain ⟨r, hr, h⟩ := h
  unfold cutL at h
  rw [List.mem_filterMap] at h
  obtain ⟨s, hs, h⟩ := h
  exact ⟨r, hr, s, hs, h⟩
theorem ord_pieces {c a : List Rg} (hc : Ord c) (ha : Ord a) : Ord (pieces c a) := by
  refine ⟨fun p hp => ?_, ?_⟩
  · obtain ⟨r, _, s, _, h⟩ := piece_of hp
    exact (cut1_some h).1
  · unfold pieces
    rw [List.pairwise_flatMap]
    refine ⟨fun r hr => ?_, ?_⟩
    · unfold cutL
      rw [List.pairwise_filterMap]
      refine ha.2.imp fun {s s'} hs p hp p' hp' => ?_
      have h1 := cut1_some hp
      have h2 := cut1_some hp'
      omega
    · refine hc.2.imp fun {r r'} hr p hp p' hp' => ?_
      unfold cutL at hp hp'
      rw [List.mem_filterMap] at hp hp'
      obtain ⟨s, _, h1⟩ := hp
      obtain ⟨s', _, h2⟩ := hp'
      have h3 := cut1_some h1
      have h4 := cut1_some h2
      omega
theorem inb_pieces {c a : List Rg} (ha : Inb a) : Inb (pieces c a) := fun p hp => by
  obtain ⟨r, _, s, hs, h⟩ := piece_of hp
  have h1 := cut1_some h
  have h2 := ha s hs
  omega
theorem up_le {a : List Int} : ∀ {S : List Int}, a.Pairwise (· < ·) → (∀ v ∈ a, v ∈ S) → a.length ≤ S.length := by
  induction a with
  | nil => intro S _ _; exact Nat.zero_le _
  | cons x a ih =>
    intro S hp hs
    rw [List.pairwise_cons] at hp
    have hx := hs x (by simp)
    have h1 : ∀ v ∈ a, v ∈ S.erase x := fun v hv => by
      have := hp.1 v hv
      exact (List.mem_erase_of_ne (by omega)).2 (hs v (by simp [hv]))
    have h2 := ih hp.2 h1
    rw [List.length_erase_of_mem hx] at h2
    have : 0 < S.length := List.length_pos_of_mem hx
    simp only [List.length_cons]
    omega
theorem ord_los {l : List Rg} (h : Ord l) : (l.map (·.1)).Pairwise (· < ·) := by
  rw [List.pairwise_map]
  have h1 : l.Pairwise (fun r s => r.2 + 1 < s.1) := h.2
  refine (List.pairwise_iff_getElem.2 fun i j hi hj hij => ?_)
  have h2 := (List.pairwise_iff_getElem.1 h1) i j hi hj hij
  have h3 := h.1 l[i] (List.getElem_mem hi)
  omega
theorem both_len {c a : List Rg} (hc : Ord c) (ha : Ord a) : (pieces c a).length ≤ a.length + c.length := by
  have h := up_le (ord_los (ord_pieces hc ha)) (S := a.map (·.1) ++ c.map (·.1)) (fun v hv => by
    rw [List.mem_map] at hv
    obtain ⟨p, hp, rfl⟩ := hv
    obtain ⟨r, hr, s, hs, h⟩ := piece_of hp
    rcases (cut1_some h).2.2.2.2.2 with e | ⟨e, _⟩
    · rw [e]; exact List.mem_append_left _ (List.mem_map.2 ⟨s, hs, rfl⟩)
    · rw [e]; exact List.mem_append_right _ (List.mem_map.2 ⟨r, hr, rfl⟩))
  simpa using h

/-- What is not in ranges, from a number on. -/
def notF : Int → List Rg → List Rg
  | f, [] => if f ≤ 1000000 then [(f, 1000000)] else []
  | f, r :: l => (if f < r.1 then [(f, r.1 - 1)] else []) ++ notF (r.2 + 1) l
def notL (l : List Rg) : List Rg := notF (-1000000) l
theorem notF_mem : ∀ (l : List Rg) (f : Int) (p : Rg), (∀ r ∈ l, r.1 ≤ r.2) → p ∈ notF f l → (p.1 = f ∨ ∃ r ∈ l, p.1 = r.2 + 1) := by
  intro l
  induction l with
  | nil =>
    intro f p _ hp
    unfold notF at hp
    split at hp
    · rw [List.mem_singleton] at hp; rw [hp]; exact .inl rfl
    · cases hp
  | cons r l ih =>
    intro f p ho hp
    unfold notF at hp
    rw [List.mem_append] at hp
    rcases hp with hp | hp
    · split at hp
      · rw [List.mem_singleton] at hp; rw [hp]; exact .inl rfl
      · cases hp
    · rcases ih _ p (fun s hs => ho s (by simp [hs])) hp with e | ⟨s, hs, e⟩
      · exact .inr ⟨r, by simp, e⟩
      · exact .inr ⟨s, by simp [hs], e⟩
theorem notF_facts : ∀ (l : List Rg) (f : Int), Ord l → Inb l → (∀ r ∈ l, f ≤ r.1) → Ord (notF f l) ∧ (∀ p ∈ notF f l, f ≤ p.1 ∧ p.2 ≤ 1000000) ∧ ∀ v, v ∈ vals (notF f l) ↔ (f ≤ v ∧ v ≤ 1000000 ∧ v ∉ vals l) := by
  intro l
  induction l with
  | nil =>
    intro f _ _ _
    unfold notF
    split
    · rename_i h
      refine ⟨⟨fun r hr => by rw [List.mem_singleton] at hr; rw [hr]; exact h, List.pairwise_singleton _ _⟩, fun p hp => by rw [List.mem_singleton] at hp; rw [hp]; exact ⟨Int.le_refl _, Int.le_refl _⟩, fun v => ?_⟩
      rw [mem_vals']
      simp [vals]
    · rename_i h
      refine ⟨⟨fun r hr => (by cases hr), List.Pairwise.nil⟩, fun p hp => (by cases hp), fun v => ?_⟩
      simp [vals]
      omega
  | cons r l ih =>
    intro f ho hb hf
    have hr := ho.1 r (by simp)
    have hp := List.pairwise_cons.1 ho.2
    have hfr := hf r (by simp)
    have hol : Ord l := ⟨fun s hs => ho.1 s (by simp [hs]), hp.2⟩
    obtain ⟨i1, i2, i3⟩ := ih (r.2 + 1) hol (fun s hs => hb s (by simp [hs])) (fun s hs => by have := hp.1 s hs; omega)
    unfold notF
    refine ⟨⟨fun p hpm => ?_, ?_⟩, fun p hpm => ?_, fun v => ?_⟩
    · rw [List.mem_append] at hpm
      rcases hpm with h | h
      · split at h
        · rw [List.mem_singleton] at h; rw [h]; show f ≤ r.1 - 1; omega
        · cases h
      · exact i1.1 p h
    · rw [List.pairwise_append]
      refine ⟨?_, i1.2, fun p h q hq => ?_⟩
      · split
        · exact List.pairwise_singleton _ _
        · exact List.Pairwise.nil
      split at h
      · rw [List.mem_singleton] at h
        have := (i2 q hq).1
        rw [h]; show r.1 - 1 + 1 < q.1; omega
      · cases h
    · rw [List.mem_append] at hpm
      rcases hpm with h | h
      · split at h
        · rw [List.mem_singleton] at h; have := (hb r (by simp)).2; rw [h]; exact ⟨Int.le_refl _, by show r.1 - 1 ≤ 1000000; omega⟩
        · cases h
      · have := i2 p h; omega
    · rw [vals_append, List.mem_append, i3]
      have hv : v ∈ vals (r :: l) ↔ (r.1 ≤ v ∧ v ≤ r.2) ∨ v ∈ vals l := by
        have : vals (r :: l) = span r.1 r.2 ++ vals l := by unfold vals; rw [List.flatMap_cons]
        rw [this, List.mem_append, mem_span]
      have hl : v ∈ vals l → r.2 + 1 < v := fun h => by
        obtain ⟨s, hs, h1, h2⟩ := (mem_vals' l v).1 h
        have := hp.1 s hs
        omega
      rw [hv]
      have hg : v ∈ vals (if f < r.1 then [(f, r.1 - 1)] else []) ↔ (f ≤ v ∧ v < r.1) := by
        split
        · rw [mem_vals']; simp; omega
        · simp [vals]; omega
      rw [hg]
      have hb2 := (hb r (by simp)).2
      constructor
      · rintro (h | ⟨h1, h2, h3⟩)
        · exact ⟨h.1, by omega, fun h4 => h4.elim (fun h5 => by omega) (fun h5 => by have := hl h5; omega)⟩
        · exact ⟨by omega, h2, fun h4 => h4.elim (fun h5 => by omega) (fun h5 => h3 h5)⟩
      · rintro ⟨h1, h2, h3⟩
        by_cases h4 : v < r.1
        · exact .inl ⟨h1, h4⟩
        · refine .inr ⟨?_, h2, fun h5 => h3 (.inr h5)⟩
          apply Classical.byContradiction
          intro h5
          exact h3 (.inl ⟨by omega, by omega⟩)
theorem less_len {a b : List Rg} (ha : Ord a) (hia : Inb a) (hb : Ord b) (hib : Inb b) : (pieces (notL b) a).length ≤ a.length + b.length := by
  have hn := notF_facts b (-1000000) hb hib (fun r hr => (hib r hr).1)
  have h := up_le (ord_los (ord_pieces hn.1 ha)) (S := a.map (·.1) ++ b.map (fun r => r.2 + 1)) (fun v hv => by
    rw [List.mem_map] at hv
    obtain ⟨p, hp, rfl⟩ := hv
    obtain ⟨r, hr, s, hs, h⟩ := piece_of hp
    rcases (cut1_some h).2.2.2.2.2 with e | ⟨e, e2⟩
    · rw [e]; exact List.mem_append_left _ (List.mem_map.2 ⟨s, hs, rfl⟩)
    · rcases notF_mem b (-1000000) r hb.1 hr with e3 | ⟨q, hq, e3⟩
      · have := (hia s hs).1
        omega
      · rw [e, e3]; exact List.mem_append_right _ (List.mem_map.2 ⟨q, hq, rfl⟩))
  have e : (a.map (fun r : Rg => r.1) ++ b.map (fun r : Rg => r.2 + 1)).length = a.length + b.length := by simp
  rw [e, List.length_map] at h
  exact h
end Go.Proofs.Ytogankopiechcaa.Dm

