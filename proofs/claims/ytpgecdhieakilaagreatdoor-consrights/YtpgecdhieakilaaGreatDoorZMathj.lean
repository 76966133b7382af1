/-
  What is proved here: plain mathematics of ranges of numbers, of the values in them, and of bits in words.
  What is proved here: plain mathematics of the values that are there, rising, and of their runs.
  What is proved here: lists of ranges that rise and do not touch: what is cut out of them, what is not in them, and their runs.
  What is proved here: ranges in any order made ranges that rise and do not touch (mathematics alone).
-/
import Derived.WalkKit
namespace Go.Proofs.YtpgecdhieakilaaGreatDoor.Dm

abbrev Rg := Int × Int
def lo (l : List Rg) (i : Nat) : Int := (l[i]?.getD (0, 0)).1
def hi (l : List Rg) (i : Nat) : Int := (l[i]?.getD (0, 0)).2
def OkAt (l : List Rg) (i : Nat) : Prop := lo l i ≤ hi l i ∧ -1000000 ≤ lo l i ∧ hi l i ≤ 1000000 ∧ (0 < i → hi l (i - 1) + 1 < lo l i)
instance (l : List Rg) (i : Nat) : Decidable (OkAt l i) := by unfold OkAt; infer_instance
/-- Ranges are right. -/
def Right (l : List Rg) : Prop := l.length ≤ 4096 ∧ ∀ i, i < l.length → OkAt l i

instance (l : List Rg) : Decidable (Right l) := by unfold Right; infer_instance
/-- Are ranges right? -/
def rightB (l : List Rg) : Bool := decide (Right l)
theorem rightB_yes {l : List Rg} (h : Right l) : rightB l = true := by unfold rightB; simpa using h
theorem rightB_no {l : List Rg} (h : ¬ Right l) : rightB l = false := by unfold rightB; simpa using h

/-- All numbers from a to b. -/
def span (a b : Int) : List Int := (List.range (b + 1 - a).toNat).map fun k : Nat => a + (k : Int)
def vals (l : List Rg) : List Int := l.flatMap fun r => span r.1 r.2
theorem span_length (a b : Int) : (span a b).length = (b + 1 - a).toNat := by simp [span]
theorem mem_span (a b v : Int) : v ∈ span a b ↔ a ≤ v ∧ v ≤ b := by
  unfold span
  rw [List.mem_map]
  constructor
  · rintro ⟨k, hk, rfl⟩; rw [List.mem_range] at hk; omega
  · rintro ⟨h1, h2⟩; exact ⟨(v - a).toNat, by rw [List.mem_range]; omega, by omega⟩
theorem mem_vals (l : List Rg) (v : Int) : v ∈ vals l ↔ ∃ i, i < l.length ∧ lo l i ≤ v ∧ v ≤ hi l i := by
  unfold vals
  rw [List.mem_flatMap]
  constructor
  · rintro ⟨r, hr, hv⟩
    obtain ⟨i, hi', rfl⟩ := List.getElem_of_mem hr
    rw [mem_span] at hv
    exact ⟨i, hi', by simp [lo, hi']; exact hv.1, by simp [hi, hi']; exact hv.2⟩
  · rintro ⟨i, hi', h1, h2⟩
    refine ⟨l[i], List.getElem_mem hi', ?_⟩
    rw [mem_span]
    simp [lo, hi, hi'] at h1 h2
    exact ⟨h1, h2⟩

theorem snoc_induct {α : Type} {C : List α → Prop} (h0 : C []) (h1 : ∀ l a, C l → C (l ++ [a])) : ∀ l, C l := by
  intro l
  rw [← List.reverse_reverse l]
  induction l.reverse with
  | nil => exact h0
  | cons a r ih => rw [List.reverse_cons]; exact h1 _ _ ih
end Go.Proofs.YtpgecdhieakilaaGreatDoor.Dm


namespace Go.Proofs.YtpgecdhieakilaaGreatDoor.Dm

theorem set_last {α : Type} (l : List α) (a b : α) : (l ++ [a]).set l.length b = l ++ [b] := by
  rw [List.set_append_right _ _ (Nat.le_refl _)]; simp
theorem hi_last (l : List Rg) (r : Rg) : hi (l ++ [r]) l.length = r.2 := by unfold hi; simp
theorem lo_last (l : List Rg) (r : Rg) : lo (l ++ [r]) l.length = r.1 := by unfold lo; simp
end Go.Proofs.YtpgecdhieakilaaGreatDoor.Dm


namespace Go.Proofs.YtpgecdhieakilaaGreatDoor.Dm
set_option linter.unusedVariables false

/-- Ranges that rise, none of them touching. -/
def Ord (l : List Rg) : Prop := (∀ r ∈ l, r.1 ≤ r.2) ∧ l.Pairwise (fun r s => r.2 + 1 < s.1)
def Inb (l : List Rg) : Prop := ∀ r ∈ l, -1000000 ≤ r.1 ∧ r.2 ≤ 1000000
theorem lo_get (l : List Rg) (i : Nat) (h : i < l.length) : lo l i = l[i].1 := by unfold lo; rw [List.getElem?_eq_getElem h]; rfl
theorem hi_get (l : List Rg) (i : Nat) (h : i < l.length) : hi l i = l[i].2 := by unfold hi; rw [List.getElem?_eq_getElem h]; rfl
theorem ord_right {l : List Rg} (h : Ord l) (hb : Inb l) (hl : l.length ≤ 4096) : Right l := by
  refine ⟨hl, fun i hi => ?_⟩
  have h1 := h.1 l[i] (List.getElem_mem hi)
  have h2 := hb l[i] (List.getElem_mem hi)
  refine ⟨by rw [lo_get l i hi, hi_get l i hi]; exact h1, by rw [lo_get l i hi]; exact h2.1, by rw [hi_get l i hi]; exact h2.2, fun h0 => ?_⟩
  have h3 := (List.pairwise_iff_getElem.1 h.2) (i - 1) i (by omega) hi (by omega)
  rw [lo_get l i hi, hi_get l (i - 1) (by omega)]
  exact h3
theorem mem_vals' (l : List Rg) (v : Int) : v ∈ vals l ↔ ∃ r ∈ l, r.1 ≤ v ∧ v ≤ r.2 := by
  unfold vals
  rw [List.mem_flatMap]
  simp only [mem_span]
theorem vals_append (a b : List Rg) : vals (a ++ b) = vals a ++ vals b := by unfold vals; rw [List.flatMap_append]

end Go.Proofs.YtpgecdhieakilaaGreatDoor.Dm


namespace Go.Proofs.YtpgecdhieakilaaGreatDoor.Dm
set_option linter.unusedVariables false

theorem vals_cons (r : Rg) (l : List Rg) (v : Int) : v ∈ vals (r :: l) ↔ (r.1 ≤ v ∧ v ≤ r.2) ∨ v ∈ vals l := by
  have : vals (r :: l) = span r.1 r.2 ++ vals l := by unfold vals; rw [List.flatMap_cons]
  rw [this, List.mem_append, mem_span]
theorem ord_cons {r : Rg} {l : List Rg} (h : Ord (r :: l)) : r.1 ≤ r.2 ∧ Ord l ∧ ∀ v ∈ vals l, r.2 + 1 < v := by
  have hp := List.pairwise_cons.1 h.2
  refine ⟨h.1 r (by simp), ⟨fun s hs => h.1 s (by simp [hs]), hp.2⟩, fun v hv => ?_⟩
  obtain ⟨s, hs, h1, h2⟩ := (mem_vals' l v).1 hv
  have := hp.1 s hs
  omega
/-- Ranges that rise and do not touch are told by their values. -/
theorem ord_ext : ∀ {a b : List Rg}, Ord a → Ord b → (∀ v, v ∈ vals a ↔ v ∈ vals b) → a = b
  | [], [], _, _, _ => rfl
  | [], s :: b, _, hb, h => by
    have h1 := (ord_cons hb).1
    have := (h s.1).2 ((vals_cons s b s.1).2 (.inl ⟨Int.le_refl _, h1⟩))
    simp [vals] at this
  | r :: a, [], ha, _, h => by
    have h1 := (ord_cons ha).1
    have := (h r.1).1 ((vals_cons r a r.1).2 (.inl ⟨Int.le_refl _, h1⟩))
    simp [vals] at this
  | r :: a, s :: b, ha, hb, h => by
    obtain ⟨a1, a2, a3⟩ := ord_cons ha
    obtain ⟨b1, b2, b3⟩ := ord_cons hb
    have k : ∀ v, ((r.1 ≤ v ∧ v ≤ r.2) ∨ v ∈ vals a) ↔ ((s.1 ≤ v ∧ v ≤ s.2) ∨ v ∈ vals b) := fun v => by rw [← vals_cons, ← vals_cons]; exact h v
    have e1 : r.1 = s.1 := by
      have p := (k r.1).1 (.inl ⟨Int.le_refl _, a1⟩)
      have q := (k s.1).2 (.inl ⟨Int.le_refl _, b1⟩)
      have p' : s.1 ≤ r.1 := p.elim (fun x => x.1) (fun x => by have := b3 _ x; omega)
      have q' : r.1 ≤ s.1 := q.elim (fun x => x.1) (fun x => by have := a3 _ x; omega)
      omega
    have e2 : r.2 = s.2 := by
      have p : ¬ r.2 < s.2 := fun hlt => by
        rcases (k (r.2 + 1)).2 (.inl ⟨by omega, by omega⟩) with x | x
        · omega
        · have := a3 _ x; omega
      have q : ¬ s.2 < r.2 := fun hlt => by
        rcases (k (s.2 + 1)).1 (.inl ⟨by omega, by omega⟩) with x | x
        · omega
        · have := b3 _ x; omega
      omega
    have e : r = s := Prod.ext e1 e2
    subst e
    congr 1
    refine ord_ext a2 b2 fun v => ⟨fun hv => ?_, fun hv => ?_⟩
    · rcases (k v).1 (.inr hv) with x | x
      · have := a3 v hv; omega
      · exact x
    · rcases (k v).2 (.inr hv) with x | x
      · have := b3 v hv; omega
      · exact x

/-- One range more: the last one goes on, or a new one begins. -/
def jstep (out : List Rg) (r : Rg) : List Rg := if 0 < out.length ∧ r.1 ≤ hi out (out.length - 1) + 1 then out.set (out.length - 1) (lo out (out.length - 1), if hi out (out.length - 1) < r.2 then r.2 else hi out (out.length - 1)) else out ++ [r]
def joinF (l : List Rg) : List Rg := l.foldl jstep []
theorem joinF_snoc (l : List Rg) (r : Rg) : joinF (l ++ [r]) = jstep (joinF l) r := by unfold joinF; rw [List.foldl_append]; rfl
theorem jstep_length (out : List Rg) (r : Rg) : out.length ≤ (jstep out r).length ∧ (jstep out r).length ≤ out.length + 1 := by unfold jstep; split <;> simp
theorem joinF_mono (l r : List Rg) : (joinF l).length ≤ (joinF (l ++ r)).length := by
  unfold joinF
  rw [List.foldl_append]
  generalize List.foldl jstep [] l = o
  induction r generalizing o with
  | nil => simp
  | cons x r ih => rw [List.foldl_cons]; exact Nat.le_trans (jstep_length o x).1 (ih _)
theorem joinF_len (l : List Rg) : (joinF l).length ≤ l.length := by
  induction l using snoc_induct with
  | h0 => simp [joinF]
  | h1 l a ih => rw [joinF_snoc, List.length_append]; have := (jstep_length (joinF l) a).2; simp; omega
theorem list_last {α : Type} (l : List α) (h : 0 < l.length) : ∃ i a, l = i ++ [a] := by
  refine ⟨l.dropLast, l.getLast (by intro e; rw [e] at h; simp at h), ?_⟩
  rw [List.dropLast_concat_getLast]
theorem jstep_last (i : List Rg) (a r : Rg) : jstep (i ++ [a]) r = if r.1 ≤ a.2 + 1 then i ++ [(a.1, if a.2 < r.2 then r.2 else a.2)] else i ++ [a] ++ [r] := by
  unfold jstep
  rw [List.length_append, List.length_singleton, Nat.add_sub_cancel, hi_last, lo_last]
  by_cases h : r.1 ≤ a.2 + 1
  · rw [if_pos ⟨by omega, h⟩, if_pos h, set_last]
  · rw [if_neg (fun x => h x.2), if_neg h]
/-- What comes of ranges that come by rising ends. -/
theorem joinF_facts (l : List Rg) (hv : ∀ r ∈ l, r.1 ≤ r.2) (hs : l.Pairwise (fun r s => r.1 ≤ s.1)) : Ord (joinF l) ∧ (∀ v, v ∈ vals (joinF l) ↔ v ∈ vals l) ∧ (∀ p ∈ joinF l, ∃ q ∈ l, p.1 = q.1) ∧ (∀ p ∈ joinF l, ∃ q ∈ l, p.2 = q.2) := by
  induction l using snoc_induct with
  | h0 => simp [joinF, Ord, vals]
  | h1 l r ih =>
    rw [List.pairwise_append] at hs
    obtain ⟨ho, hm, hp, hp2⟩ := ih (fun q hq => hv q (by simp [hq])) hs.1
    have hr := hv r (by simp)
    have hle : ∀ q ∈ l, q.1 ≤ r.1 := fun q hq => hs.2.2 q hq r (by simp)
    rw [joinF_snoc]
    obtain ⟨o, eo⟩ : ∃ o, joinF l = o := ⟨_, rfl⟩
    rw [eo] at ho hm hp hp2 ⊢
    have hval : ∀ v, v ∈ vals (l ++ [r]) ↔ v ∈ vals l ∨ (r.1 ≤ v ∧ v ≤ r.2) := fun v => by rw [vals_append, List.mem_append, vals_cons]; simp [vals]
    rcases Nat.eq_zero_or_pos o.length with h0 | h0
    · have e : o = [] := List.eq_nil_of_length_eq_zero h0
      subst e
      have ej : jstep [] r = [r] := by unfold jstep; simp
      rw [ej]
      refine ⟨⟨fun q hq => by rw [List.mem_singleton] at hq; rw [hq]; exact hr, List.pairwise_singleton _ _⟩, fun v => ?_, fun p hp' => ⟨r, by simp, by rw [List.mem_singleton] at hp'; rw [hp']⟩, fun p hp' => ⟨r, by simp, by rw [List.mem_singleton] at hp'; rw [hp']⟩⟩
      rw [hval, ← hm, vals_cons]
      simp [vals]
    · obtain ⟨i, a, e⟩ := list_last o h0
      subst e
      rw [jstep_last]
      have hpw := List.pairwise_append.1 ho.2
      have ha := ho.1 a (by simp)
      have hal : a.1 ≤ r.1 := by obtain ⟨q, hq, e⟩ := hp a (by simp); have := hle q hq; omega
      have hlast : ∀ v, v ∈ vals (i ++ [a]) ↔ v ∈ vals i ∨ (a.1 ≤ v ∧ v ≤ a.2) := fun v => by rw [vals_append, List.mem_append, vals_cons]; simp [vals]
      have hmm : ∀ v, v ∈ vals l ↔ v ∈ vals i ∨ (a.1 ≤ v ∧ v ≤ a.2) := fun v => by rw [← hm, hlast]
      by_cases hc : r.1 ≤ a.2 + 1
      · rw [if_pos hc]
        obtain ⟨y, hy⟩ : ∃ y, (if a.2 < r.2 then r.2 else a.2) = y := ⟨_, rfl⟩
        have hy1 : a.2 ≤ y ∧ r.2 ≤ y ∧ (y = a.2 ∨ y = r.2) := by split at hy <;> omega
        rw [hy]
        refine ⟨⟨fun q hq => ?_, ?_⟩, fun v => ?_, fun p hp' => ?_, fun p hp' => ?_⟩
        · rw [List.mem_append] at hq
          rcases hq with hq | hq
          · exact ho.1 q (by simp [hq])
          · rw [List.mem_singleton] at hq; rw [hq]; show a.1 ≤ y; omega
        · rw [List.pairwise_append]
          refine ⟨hpw.1, List.pairwise_singleton _ _, fun p hp' q hq => ?_⟩
          rw [List.mem_singleton] at hq; rw [hq]
          exact hpw.2.2 p hp' a (by simp)
        · rw [hval, hmm, vals_append, List.mem_append, vals_cons]
          simp only [vals, List.flatMap_nil, List.not_mem_nil, or_false]
          constructor
          · rintro (h | ⟨h1, h2⟩)
            · exact .inl (.inl h)
            · have h1' : a.1 ≤ v := h1
              have h2' : v ≤ y := h2
              by_cases h3 : v ≤ a.2
              · exact .inl (.inr ⟨h1', h3⟩)
              · exact .inr ⟨by omega, by omega⟩
          · rintro ((h | h) | h)
            · exact .inl h
            · exact .inr ⟨h.1, by show v ≤ y; omega⟩
            · exact .inr ⟨by show a.1 ≤ v; omega, by show v ≤ y; omega⟩
        · rw [List.mem_append] at hp'
          rcases hp' with h | h
          · obtain ⟨q, hq, e⟩ := hp p (by simp [h]); exact ⟨q, by simp [hq], e⟩
          · rw [List.mem_singleton] at h
            obtain ⟨q, hq, e⟩ := hp a (by simp); exact ⟨q, by simp [hq], by rw [h]; exact e⟩
        · rw [List.mem_append] at hp'
          rcases hp' with h | h
          · obtain ⟨q, hq, e⟩ := hp2 p (by simp [h]); exact ⟨q, by simp [hq], e⟩
          · rw [List.mem_singleton] at h
            rcases hy1.2.2 with e | e
            · obtain ⟨q, hq, e'⟩ := hp2 a (by simp); exact ⟨q, by simp [hq], by rw [h]; show y = _; omega⟩
            · exact ⟨r, by simp, by rw [h]; exact e⟩
      · rw [if_neg hc]
        refine ⟨⟨fun q hq => ?_, ?_⟩, fun v => ?_, fun p hp' => ?_, fun p hp' => ?_⟩
        · rw [List.mem_append] at hq
          rcases hq with hq | hq
          · exact ho.1 q hq
          · rw [List.mem_singleton] at hq; rw [hq]; exact hr
        · rw [List.pairwise_append]
          refine ⟨ho.2, List.pairwise_singleton _ _, fun p hp' q hq => ?_⟩
          rw [List.mem_singleton] at hq; rw [hq]
          rw [List.mem_append] at hp'
          rcases hp' with h | h
          · have := hpw.2.2 p h a (by simp); omega
          · rw [List.mem_singleton] at h; rw [h]; omega
        · rw [hval, ← hm, vals_append (i ++ [a]) [r], List.mem_append, vals_cons]
          simp [vals]
        · rw [List.mem_append] at hp'
          rcases hp' with h | h
          · obtain ⟨q, hq, e⟩ := hp p h; exact ⟨q, by simp [hq], e⟩
          · rw [List.mem_singleton] at h; exact ⟨r, by simp, by rw [h]⟩
        · rw [List.mem_append] at hp'
          rcases hp' with h | h
          · obtain ⟨q, hq, e⟩ := hp2 p h; exact ⟨q, by simp [hq], e⟩
          · rw [List.mem_singleton] at h; exact ⟨r, by simp, by rw [h]⟩
/-- The order in which they stand plays no part, as long as they rise. -/
theorem joinF_perm (l k : List Rg) (hp : ∀ r, r ∈ l ↔ r ∈ k) (hv : ∀ r ∈ l, r.1 ≤ r.2) (hl : l.Pairwise (fun r s => r.1 ≤ s.1)) (hk : k.Pairwise (fun r s => r.1 ≤ s.1)) : joinF l = joinF k := by
  have f := joinF_facts l hv hl
  have g := joinF_facts k (fun r hr => hv r ((hp r).2 hr)) hk
  refine ord_ext f.1 g.1 fun v => ?_
  rw [f.2.1, g.2.1, mem_vals', mem_vals']
  constructor
  · rintro ⟨r, hr, h⟩; exact ⟨r, (hp r).1 hr, h⟩
  · rintro ⟨r, hr, h⟩; exact ⟨r, (hp r).2 hr, h⟩
end Go.Proofs.YtpgecdhieakilaaGreatDoor.Dm

