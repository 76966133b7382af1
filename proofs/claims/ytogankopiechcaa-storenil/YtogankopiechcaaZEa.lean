/-
  What is proved here: ranges in any order made ranges that rise and do not touch (mathematics alone).
-/
import Derived.Test.YtogankopiechcaaZVa
namespace Go.Proofs.Ytogankopiechcaa.Dm
set_option linter.unusedSimpArgs false
set_option linter.unusedVariables false
set_option linter.unusedVariables false

theorem vals_cons (r : Rg) (l : List Rg) (v : Int) : v ∈ vals (r :: l) ↔ (r.1 ≤ v ∧ v ≤ r.2) ∨ v ∈ vals l := by
  have : vals (r :: l) = span r.1 r.2 ++ vals l := by unfold vals; rw [List.flatMap_cons]
  rw [this, List.mem_append, mem_span]
theorem ord_cons {r : Rg} {l : List Rg} (h : Ord (r :: l)) : r.1 ≤ r.2 ∧ Ord l ∧ ∀ v ∈ vals l, r.2 + 1 < v := by
  have hp := List.pairwise_cons.1 h.2
  refine ⟨h.1 r (by simp), ⟨fun s hs => h.1 s (by simp [hs]), hp.2⟩, fun v hv => ?_⟩
  obtain ⟨s, hs, h1, h2⟩ := (mem_vals' l v).1 hv
  have := hp.1 s hs
  omega
/-- Ranges that rise and do not touch are told by their values. -/
theorem ord_ext : ∀ {a b : List Rg}, Ord a → Ord b → (∀ v, v ∈ vals a ↔ v ∈ vals b) → a = b
  | [], [], _, _, _ => rfl
  | [], s :: b, _, hb, h => by
    have h1 := (ord_cons hb).1
    have := (h s.1).2 ((vals_cons s b s.1).2 (.inl ⟨Int.le_refl _, h1⟩))
    simp [vals] at this
  | r :: a, [], ha, _, h => by
    have h1 := (ord_cons ha).1
    have := (h r.1).1 ((vals_cons r a r.1).2 (.inl ⟨Int.le_refl _, h1⟩))
    simp [vals] at this
  | r :: a, s :: b, ha, hb, h => by
    obtain ⟨a1, a2, a3⟩ := ord_cons ha
    obtain ⟨b1, b2, b3⟩ := ord_cons hb
    have k : ∀ v, ((r.1 ≤ v ∧ v ≤ r.2) ∨ v ∈ vals a) ↔ ((s.1 ≤ v ∧ v ≤ s.2) ∨ v ∈ vals b) := fun v => by rw [← vals_cons, ← vals_cons]; exact h v
    have e1 : r.1 = s.1 := by
      have p := (k r.1).1 (.inl ⟨Int.le_refl _, a1⟩)
      have q := (k s.1).2 (.inl ⟨Int.le_refl _, b1⟩)
      have p' : s.1 ≤ r.1 := p.elim (fun x => x.1) (fun x => by have := b3 _ x; omega)
      have q' : r.1 ≤ s.1 := q.elim (fun x => x.1) (fun x => by have := a3 _ x; omega)
      omega
    have e2 : r.2 = s.2 := by
      have p : ¬ r.2 < s.2 := fun hlt => by
        rcases (k (r.2 + 1)).2 (.inl ⟨by omega, by omega⟩) with x | x
        · omega
        · have := a3 _ x; omega
      have q : ¬ s.2 < r.2 := fun hlt => by
        rcases (k (s.2 + 1)).1 (.inl ⟨by omega, by omega⟩) with x | x
        · omega
        · have := b3 _ x; omega
      omega
    have e : r = s := Prod.ext e1 e2
    subst e
    congr 1
    refine ord_ext a2 b2 fun v => ⟨fun hv => ?_, fun hv => ?_⟩
    · rcases (k v).1 (.inr hv) with x | x
      · have := a3 v hv; omega
      · exact x
    · rcases (k v).2 (.inr hv) with x | x
      · have := b3 v hv; omega
      · exact x

/-- One range more: the last one goes on, or a new one begins. -/
def jstep (out : List Rg) (r : Rg) : List Rg := if 0 < out.length ∧ r.1 ≤ hi out (out.length - 1) + 1 then out.set (out.length - 1) (lo out (out.length - 1), if hi out (out.length - 1) < r.2 then r.2 else hi out (out.length - 1)) else out ++ [r]
def joinF (l : List Rg) : List Rg := l.foldl jstep []
theorem joinF_snoc (l : List Rg) (r : Rg) : joinF (l ++ [r]) = jstep (joinF l) r := by unfold joinF; rw [List.foldl_append]; rfl
theorem jstep_length (out : List Rg) (r : Rg) : out.length ≤ (jstep out r).length ∧ (jstep out r).length ≤ out.length + 1 := by unfold jstep; split <;> simp
theorem joinF_mono (l r : List Rg) : (joinF l).length ≤ (joinF (l ++ r)).length := by
  unfold joinF
  rw [List.foldl_append]
  generalize List.foldl jstep [] l = o
  induction r generalizing o with
  | nil => simp
  | cons x r ih => rw [List.foldl_cons]; exact Nat.le_trans (jstep_length o x).1 (ih _)
theorem joinF_len (l : List Rg) : (joinF l).length ≤ l.length := by
  induction l using snoc_induct with
  | h0 => simp [joinF]
  | h1 l a ih => rw [joinF_snoc, List.length_append]; have := (jstep_length (joinF l) a).2; simp; omega
theorem list_last {α : Type} (l : List α) (h : 0 < l.length) : ∃ i a, l = i ++ [a] := by
  refine ⟨l.dropLast, l.getLast (by intro e; rw [e] at h; simp at h), ?_⟩
  rw [List.dropLast_concat_getLast]
theorem jstep_last (i : List Rg) (a r : Rg) : jstep (i ++ [a]) r = if r.1 ≤ a.2 + 1 then i ++ [(a.1, if a.2 < r.2 then r.2 else a.2)] else i ++ [a] ++ [r] := by
  unfold jstep
  rw [List.length_append, List.length_singleton, Nat.add_sub_cancel, hi_last, lo_last]
  by_cases h : r.1 ≤ a.2 + 1
  · rw [if_pos ⟨by omega, h⟩, if_pos h, set_last]
  · rw [if_neg (fun x => h x.2), if_neg h]
/-- What comes of ranges that come by rising ends. -/
theorem joinF_facts (l : List Rg) (hv : ∀ r ∈ l, r.1 ≤ r.2) (hs : l.Pairwise (fun r s => r.1 ≤ s.1)) : Ord (joinF l) ∧ (∀ v, v ∈ vals (joinF l) ↔ v ∈ vals l) ∧ (∀ p ∈ joinF l, ∃ q ∈ l, p.1 = q.1) ∧ (∀ p ∈ joinF l, ∃ q ∈ l, p.2 = q.2) := by
  induction l using snoc_induct with
  | h0 => simp [joinF, Ord, vals]
  | h1 l r ih =>
    rw [List.pairwise_append] at hs
    obtain ⟨ho, hm, hp, hp2⟩ := ih (fun q hq => hv q (by simp [hq])) hs.1
    have hr := hv r (by simp)
    have hle : ∀ q ∈ l, q.1 ≤ r.1 := fun q hq => hs.2.2 q hq r (by simp)
    rw [joinF_snoc]
    obtain ⟨o, eo⟩ : ∃ o, joinF l = o := ⟨_, rfl⟩
    rw [eo] at ho hm hp hp2 ⊢
    have hval : ∀ v, v ∈ vals (l ++ [r]) ↔ v ∈ vals l ∨ (r.1 ≤ v ∧ v ≤ r.2) := fun v => by rw [vals_append, List.mem_append, vals_cons]; simp [vals]
    rcases Nat.eq_zero_or_pos o.length with h0 | h0
    · have e : o = [] := List.eq_nil_of_length_eq_zero h0
      subst e
      have ej : jstep [] r = [r] := by unfold jstep; simp
      rw [ej]
      refine ⟨⟨fun q hq => by rw [List.mem_singleton] at hq; rw [hq]; exact hr, List.pairwise_singleton _ _⟩, fun v => ?_, fun p hp' => ⟨r, by simp, by rw [List.mem_singleton] at hp'; rw [hp']⟩, fun p hp' => ⟨r, by simp, by rw [List.mem_singleton] at hp'; rw [hp']⟩⟩
      rw [hval, ← hm, vals_cons]
      simp [vals]
    · obtain ⟨i, a, e⟩ := list_last o h0
      subst e
      rw [jstep_last]
      have hpw := List.pairwise_append.1 ho.2
      have ha := ho.1 a (by simp)
      have hal : a.1 ≤ r.1 := by obtain ⟨q, hq, e⟩ := hp a (by simp); have := hle q hq; omega
      have hlast : ∀ v, v ∈ vals (i ++ [a]) ↔ v ∈ vals i ∨ (a.1 ≤ v ∧ v ≤ a.2) := fun v => by rw [vals_append, List.mem_append, vals_cons]; simp [vals]
      have hmm : ∀ v, v ∈ vals l ↔ v ∈ vals i ∨ (a.1 ≤ v ∧ v ≤ a.2) := fun v => by rw [← hm, hlast]
      by_cases hc : r.1 ≤ a.2 + 1
      · rw [if_pos hc]
        obtain ⟨y, hy⟩ : ∃ y, (if a.2 < r.2 then r.2 else a.2) = y := ⟨_, rfl⟩
        have hy1 : a.2 ≤ y ∧ r.2 ≤ y ∧ (y = a.2 ∨ y = r.2) := by split at hy <;> omega
        rw [hy]
        refine ⟨⟨fun q hq => ?_, ?_⟩, fun v => ?_, fun p hp' => ?_, fun p hp' => ?_⟩
        · rw [List.mem_append] at hq
          rcases hq with hq | hq
          · exact ho.1 q (by simp [hq])
          · rw [List.mem_singleton] at hq; rw [hq]; show a.1 ≤ y; omega
        · rw [List.pairwise_append]
          refine ⟨hpw.1, List.pairwise_singleton _ _, fun p hp' q hq => ?_⟩
          rw [List.mem_singleton] at hq; rw [hq]
          exact hpw.2.2 p hp' a (by simp)
        · rw [hval, hmm, vals_append, List.mem_append, vals_cons]
          simp only [vals, List.flatMap_nil, List.not_mem_nil, or_false]
          constructor
          · rintro (h | ⟨h1, h2⟩)
            · exact .inl (.inl h)
            · have h1' : a.1 ≤ v := h1
              have h2' : v ≤ y := h2
              by_cases h3 : v ≤ a.2
              · exact .inl (.inr ⟨h1', h3⟩)
              · exact .inr ⟨by omega, by omega⟩
          · rintro ((h | h) | h)
            · exact .inl h
            · exact .inr ⟨h.1, by show v ≤ y; omega⟩
            · exact .inr ⟨by show a.1 ≤ v; omega, by show v ≤ y; omega⟩
        · rw [List.mem_append] at hp'
          rcases hp' with h | h
          · obtain ⟨q, hq, e⟩ := hp p (by simp [h]); exact ⟨q, by simp [hq], e⟩
          · rw [List.mem_singleton] at h
            obtain ⟨q, hq, e⟩ := hp a (by simp); exact ⟨q, by simp [hq], by rw [h]; exact e⟩
        · rw [List.mem_append] at hp'
          rcases hp' with h | h
          · obtain ⟨q, hq, e⟩ := hp2 p (by simp [h]); exact ⟨q, by simp [hq], e⟩
          · rw [List.mem_singleton] at h
            rcases hy1.2.2 with e | e
            · obtain ⟨q, hq, e'⟩ := hp2 a (by simp); exact ⟨q, by simp [hq], by rw [h]; show y = _; omega⟩
            · exact ⟨r, by simp, by rw [h]; exact e⟩
      · rw [if_neg hc]
        refine ⟨⟨fun q hq => ?_, ?_⟩, fun v => ?_, fun p hp' => ?_, fun p hp' => ?_⟩
        · rw [List.mem_append] at hq
          rcases hq with hq | hq
          · exact ho.1 q hq
          · rw [List.mem_singleton] at hq; rw [hq]; exact hr
        · rw [List.pairwise_append]
          refine ⟨ho.2, List.pairwise_singleton _ _, fun p hp' q hq => ?_⟩
          rw [List.mem_singleton] at hq; rw [hq]
          rw [List.mem_append] at hp'
          rcases hp' with h | h
          · have := hpw.2.2 p h a (by simp); omega
          · rw [List.mem_singleton] at h; rw [h]; omega
        · rw [hval, ← hm, vals_append (i ++ [a]) [r], List.mem_append, vals_cons]
          simp [vals]
        · rw [List.mem_append] at hp'
          rcases hp' with h | h
          · obtain ⟨q, hq, e⟩ := hp p h; exact ⟨q, by simp [hq], e⟩
          · rw [List.mem_singleton] at h; exact ⟨r, by simp, by rw [h]⟩
        · rw [List.mem_append] at hp'
          rcases hp' with h | h
          · obtain ⟨q, hq, e⟩ := hp2 p h; exact ⟨q, by simp [hq], e⟩
          · rw [List.mem_singleton] at h; exact ⟨r, by simp, by rw [h]⟩
/-- Ranges that rise and do not touch stay as they are. -/
theorem joinF_ord (l : List Rg) (h : Ord l) : joinF l = l := by
  have hs : l.Pairwise (fun r s => r.1 ≤ s.1) := by
    rw [List.pairwise_iff_getElem]
    intro i j hi' hj hij
    have h2 := (List.pairwise_iff_getElem.1 h.2) i j hi' hj hij
    have h3 := h.1 l[i] (List.getElem_mem hi')
    omega
  have f := joinF_facts l h.1 hs
  exact ord_ext f.1 h f.2.1
/-- The order in which they stand plays no part, as long as they rise. -/
theorem joinF_perm (l k : List Rg) (hp : ∀ r, r ∈ l ↔ r ∈ k) (hv : ∀ r ∈ l, r.1 ≤ r.2) (hl : l.Pairwise (fun r s => r.1 ≤ s.1)) (hk : k.Pairwise (fun r s => r.1 ≤ s.1)) : joinF l = joinF k := by
  have f := joinF_facts l hv hl
  have g := joinF_facts k (fun r hr => hv r ((hp r).2 hr)) hk
  refine ord_ext f.1 g.1 fun v => ?_
  rw [f.2.1, g.2.1, mem_vals', mem_vals']
  constructor
  · rintro ⟨r, hr, h⟩; exact ⟨r, (hp r).1 hr, h⟩
  · rintro ⟨r, hr, h⟩; exact ⟨r, (hp r).2 hr, h⟩
end Go.Proofs.Ytogankopiechcaa.Dm

