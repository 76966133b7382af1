/-
  What is proved here: plain mathematics of the values that are there, rising, and of their runs.
-/
import Derived.Test.YtogankopiechcaaZMath
namespace Go.Proofs.Ytogankopiechcaa.Dm
set_option linter.unusedSimpArgs false
set_option linter.unusedVariables false

/-- The values f, f + 1 .. of the first n places that are there, rising. -/
def bv (f : Int) (p : Nat → Bool) : Nat → List Int
  | 0 => []
  | n + 1 => bv f p n ++ (if p n then [f + (n : Int)] else [])
theorem bv_gap (f : Int) (p : Nat → Bool) (a b : Nat) (hab : a ≤ b) (h : ∀ i, a ≤ i → i < b → p i = false) : bv f p b = bv f p a := by
  induction b with
  | zero => obtain rfl : a = 0 := by omega
            rfl
  | succ b ih =>
    by_cases e : a = b + 1
    · subst e; rfl
    · have hb := h b (by omega) (by omega)
      show bv f p b ++ (if p b then [f + (b : Int)] else []) = _
      rw [hb]
      simpa using ih (by omega) (fun i h1 h2 => h i h1 (by omega))
theorem bv_hit (f : Int) (p : Nat → Bool) (k : Nat) (h : p k = true) : bv f p (k + 1) = bv f p k ++ [f + (k : Int)] := by
  show bv f p k ++ (if p k then [f + (k : Int)] else []) = _
  rw [h]; rfl
theorem mem_bv (f : Int) (p : Nat → Bool) (n : Nat) (v : Int) : v ∈ bv f p n ↔ ∃ i, i < n ∧ p i = true ∧ v = f + (i : Int) := by
  induction n with
  | zero => simp [bv]
  | succ n ih =>
    unfold bv
    rw [List.mem_append, ih]
    constructor
    · rintro (⟨i, h1, h2, h3⟩ | h)
      · exact ⟨i, by omega, h2, h3⟩
      · by_cases hp : p n = true
        · rw [hp] at h; simp at h; exact ⟨n, by omega, hp, h⟩
        · simp [hp] at h
    · rintro ⟨i, h1, h2, h3⟩
      by_cases e : i = n
      · subst e; right; rw [h2]; simp [h3]
      · left; exact ⟨i, by omega, h2, h3⟩
theorem bv_prefix (f : Int) (p : Nat → Bool) (a b : Nat) (h : a ≤ b) : ∃ r, bv f p b = bv f p a ++ r := by
  induction b with
  | zero => obtain rfl : a = 0 := by omega
            exact ⟨[], by simp⟩
  | succ b ih =>
    by_cases e : a = b + 1
    · subst e; exact ⟨[], by simp⟩
    · obtain ⟨r, hr⟩ := ih (by omega)
      refine ⟨r ++ (if p b then [f + (b : Int)] else []), ?_⟩
      show bv f p b ++ _ = _
      rw [hr, List.append_assoc]
theorem bv_length (f : Int) (p : Nat → Bool) (n : Nat) : (bv f p n).length ≤ n := by
  induction n with
  | zero => simp [bv]
  | succ n ih => unfold bv; split <;> simp <;> omega
theorem bv_up (f : Int) (p : Nat → Bool) (n : Nat) : (bv f p n).Pairwise (· < ·) := by
  induction n with
  | zero => simp [bv]
  | succ n ih =>
    unfold bv
    rw [List.pairwise_append]
    refine ⟨ih, by split <;> simp, fun a ha b hb => ?_⟩
    obtain ⟨i, h1, _, rfl⟩ := (mem_bv f p n a).1 ha
    split at hb
    · simp at hb; omega
    · simp at hb
theorem span_up (a b : Int) : (span a b).Pairwise (· < ·) := by
  unfold span
  rw [List.pairwise_map]
  exact List.pairwise_lt_range.imp (fun h => by omega)
theorem vals_up (l : List Rg) (h : Right l) : ∀ i, i ≤ l.length → (vals (l.take i)).Pairwise (· < ·) ∧ ∀ v ∈ vals (l.take i), ∃ j, j < i ∧ lo l j ≤ v ∧ v ≤ hi l j := by
  intro i
  induction i with
  | zero => intro _; simp [vals]
  | succ i ih =>
    intro hi'
    obtain ⟨h1, h2⟩ := ih (by omega)
    rw [vals_take l i (by omega)]
    constructor
    · rw [List.pairwise_append]
      refine ⟨h1, span_up _ _, fun a ha b hb => ?_⟩
      obtain ⟨j, hj, _, ha2⟩ := h2 a ha
      rw [mem_span] at hb
      have hu := right_up l h (i - 1) j (by omega) (by omega)
      have ok := h.2 i (by omega)
      unfold OkAt at ok
      have := ok.2.2.2 (by omega)
      omega
    · intro v hv
      rcases List.mem_append.1 hv with hv | hv
      · obtain ⟨j, hj, h3⟩ := h2 v hv; exact ⟨j, by omega, h3⟩
      · rw [mem_span] at hv; exact ⟨i, by omega, hv⟩
theorem up_ext : ∀ {a b : List Int}, a.Pairwise (· < ·) → b.Pairwise (· < ·) → (∀ v, v ∈ a ↔ v ∈ b) → a = b
  | [], [], _, _, _ => rfl
  | [], y :: b, _, _, h => by have := (h y).2 (by simp); simp at this
  | x :: a, [], _, _, h => by have := (h x).1 (by simp); simp at this
  | x :: a, y :: b, ha, hb, h => by
    rw [List.pairwise_cons] at ha hb
    have hxy : x = y := by
      rcases List.mem_cons.1 ((h x).1 (by simp)) with e | e
      · exact e
      · rcases List.mem_cons.1 ((h y).2 (by simp)) with e' | e'
        · exact e'.symm
        · have := ha.1 y e'; have := hb.1 x e; omega
    subst hxy
    congr 1
    refine up_ext ha.2 hb.2 fun v => ?_
    constructor
    · intro hv
      rcases List.mem_cons.1 ((h v).1 (by simp [hv])) with e | e
      · subst e; have := ha.1 v hv; omega
      · exact e
    · intro hv
      rcases List.mem_cons.1 ((h v).2 (by simp [hv])) with e | e
      · subst e; have := hb.1 v hv; omega
      · exact e
theorem bv_vals (l : List Rg) (h : Right l) (f : Int) (p : Nat → Bool) (n : Nat) (hm : ∀ v, (∃ i, i < n ∧ p i = true ∧ v = f + (i : Int)) ↔ v ∈ vals l) : bv f p n = vals l := by
  have hu := (vals_up l h l.length (Nat.le_refl _)).1
  rw [List.take_length] at hu
  exact up_ext (bv_up f p n) hu (fun v => by rw [mem_bv]; exact hm v)

/-- One value more: the last range goes on, or a new one begins. -/
def step (out : List Rg) (v : Int) : List Rg := if 0 < out.length ∧ hi out (out.length - 1) = v - 1 then out.set (out.length - 1) (lo out (out.length - 1), v) else out ++ [(v, v)]
/-- The runs of values. -/
def runs (vs : List Int) : List Rg := vs.foldl step []
theorem runs_snoc (vs : List Int) (v : Int) : runs (vs ++ [v]) = step (runs vs) v := by unfold runs; rw [List.foldl_append]; rfl
theorem step_length (out : List Rg) (v : Int) : out.length ≤ (step out v).length ∧ (step out v).length ≤ out.length + 1 := by unfold step; split <;> simp
theorem runs_mono (vs r : List Int) : (runs vs).length ≤ (runs (vs ++ r)).length := by
  unfold runs
  rw [List.foldl_append]
  generalize List.foldl step [] vs = o
  induction r generalizing o with
  | nil => simp
  | cons x r ih =>
    rw [List.foldl_cons]
    exact Nat.le_trans (step_length o x).1 (ih _)
theorem set_last {α : Type} (l : List α) (a b : α) : (l ++ [a]).set l.length b = l ++ [b] := by
  rw [List.set_append_right _ _ (Nat.le_refl _)]; simp
theorem hi_last (l : List Rg) (r : Rg) : hi (l ++ [r]) l.length = r.2 := by unfold hi; simp
theorem lo_last (l : List Rg) (r : Rg) : lo (l ++ [r]) l.length = r.1 := by unfold lo; simp
theorem foldl_upto (o : List Rg) (a b : Int) (k : Nat) : ((List.range k).map fun j : Nat => b + 1 + (j : Int)).foldl step (o ++ [(a, b)]) = o ++ [(a, b + k)] := by
  induction k with
  | zero => simp
  | succ k ih =>
    rw [List.range_succ, List.map_append, List.foldl_append, ih]
    show step (o ++ [(a, b + (k : Int))]) (b + 1 + (k : Int)) = _
    unfold step
    rw [List.length_append, List.length_singleton, Nat.add_sub_cancel, hi_last, lo_last, if_pos ⟨by omega, by show b + (k : Int) = _; omega⟩, set_last]
    congr 2
    show (a, b + 1 + (k : Int)) = _
    congr 1; omega
theorem runs_take (l : List Rg) (h : Right l) : ∀ i, i ≤ l.length → runs (vals (l.take i)) = l.take i := by
  intro i
  induction i with
  | zero => intro _; simp [vals, runs]
  | succ i ih =>
    intro hi'
    have ok := h.2 i (by omega)
    unfold OkAt at ok
    rw [vals_take l i (by omega)]
    unfold runs
    rw [List.foldl_append]
    have ih' := ih (by omega)
    unfold runs at ih'
    rw [ih']
    obtain ⟨k, hk⟩ : ∃ k : Nat, hi l i = lo l i + (k : Int) := ⟨(hi l i - lo l i).toNat, by omega⟩
    have hs : span (lo l i) (hi l i) = lo l i :: ((List.range k).map fun j : Nat => lo l i + 1 + (j : Int)) := by
      unfold span
      rw [show (hi l i + 1 - lo l i).toNat = k + 1 by omega, List.range_succ_eq_map, List.map_cons, List.map_map]
      congr 1
      · simp
      · apply List.map_congr_left; intro j _; simp; omega
    rw [hs, List.foldl_cons]
    have h1 : step (l.take i) (lo l i) = l.take i ++ [(lo l i, lo l i)] := by
      unfold step
      rw [if_neg]
      rintro ⟨h0, e⟩
      have hl : (l.take i).length = i := by simp; omega
      rw [hl] at h0 e
      have hh : hi (l.take i) (i - 1) = hi l (i - 1) := by unfold hi; rw [List.getElem?_take_of_lt (by omega)]
      rw [hh] at e
      have := ok.2.2.2 h0
      omega
    rw [h1, foldl_upto, List.take_succ_eq_append_getElem (by omega)]
    congr 2
    rw [← hk]
    have e1 : lo l i = l[i].1 := by unfold lo; simp [show i < l.length by omega]
    have e2 : hi l i = l[i].2 := by unfold hi; simp [show i < l.length by omega]
    rw [e1, e2]
theorem runs_vals (l : List Rg) (h : Right l) : runs (vals l) = l := by
  have := runs_take l h l.length (Nat.le_refl _)
  rw [List.take_length] at this
  exact this
end Go.Proofs.Ytogankopiechcaa.Dm

