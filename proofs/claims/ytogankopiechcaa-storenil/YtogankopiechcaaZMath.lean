/-
  What is proved here: plain mathematics of ranges of numbers, of the values in them, and of bits in words.
-/
import Derived.WalkKit
namespace Go.Proofs.Ytogankopiechcaa.Dm
set_option linter.unusedSimpArgs false
set_option linter.unusedVariables false

abbrev Rg := Int × Int
def lo (l : List Rg) (i : Nat) : Int := (l[i]?.getD (0, 0)).1
def hi (l : List Rg) (i : Nat) : Int := (l[i]?.getD (0, 0)).2
def OkAt (l : List Rg) (i : Nat) : Prop := lo l i ≤ hi l i ∧ -1000000 ≤ lo l i ∧ hi l i ≤ 1000000 ∧ (0 < i → hi l (i - 1) + 1 < lo l i)
instance (l : List Rg) (i : Nat) : Decidable (OkAt l i) := by unfold OkAt; infer_instance
/-- Ranges are right. -/
def Right (l : List Rg) : Prop := l.length ≤ 4096 ∧ ∀ i, i < l.length → OkAt l i

instance (l : List Rg) : Decidable (Right l) := by unfold Right; infer_instance
/-- Are ranges right? -/
def rightB (l : List Rg) : Bool := decide (Right l)
theorem rightB_yes {l : List Rg} (h : Right l) : rightB l = true := by unfold rightB; simpa using h
theorem rightB_no {l : List Rg} (h : ¬ Right l) : rightB l = false := by unfold rightB; simpa using h

/-- All numbers from a to b. -/
def span (a b : Int) : List Int := (List.range (b + 1 - a).toNat).map fun k : Nat => a + (k : Int)
def vals (l : List Rg) : List Int := l.flatMap fun r => span r.1 r.2
def upto (a : Int) (k : Nat) : List Int := (List.range k).map fun j : Nat => a + (j : Int)
theorem upto_succ (a : Int) (k : Nat) : upto a (k + 1) = upto a k ++ [a + (k : Int)] := by simp [upto, List.range_succ]
theorem upto_all (a b : Int) (k : Nat) (h : (k : Int) = b + 1 - a) : upto a k = span a b := by unfold upto span; rw [← h]; rfl
theorem vals_take (l : List Rg) (i : Nat) (h : i < l.length) : vals (l.take (i + 1)) = vals (l.take i) ++ span (lo l i) (hi l i) := by
  unfold vals
  rw [List.take_succ_eq_append_getElem h, List.flatMap_append]
  simp [lo, hi, h]
theorem vals_take_le (l : List Rg) (i : Nat) : (vals (l.take i)).length ≤ (vals l).length := by
  have h : vals l = vals (l.take i) ++ vals (l.drop i) := by unfold vals; rw [← List.flatMap_append, List.take_append_drop]
  rw [h, List.length_append]; omega
theorem vals_prefix (l : List Rg) (i : Nat) : ∃ r, vals (l.take i) ++ r = vals l := ⟨vals (l.drop i), by unfold vals; rw [← List.flatMap_append, List.take_append_drop]⟩
theorem span_length (a b : Int) : (span a b).length = (b + 1 - a).toNat := by simp [span]
theorem span_upto (a b : Int) (j : Nat) (h : a + (j : Int) ≤ b + 1) : ∃ r, upto a j ++ r = span a b := by
  refine ⟨(span a b).drop j, ?_⟩
  have : upto a j = (span a b).take j := by
    unfold upto span
    rw [← List.map_take, List.take_range]
    congr 2; omega
  rw [this, List.take_append_drop]
theorem mem_span (a b v : Int) : v ∈ span a b ↔ a ≤ v ∧ v ≤ b := by
  unfold span
  rw [List.mem_map]
  constructor
  · rintro ⟨k, hk, rfl⟩; rw [List.mem_range] at hk; omega
  · rintro ⟨h1, h2⟩; exact ⟨(v - a).toNat, by rw [List.mem_range]; omega, by omega⟩
theorem mem_vals (l : List Rg) (v : Int) : v ∈ vals l ↔ ∃ i, i < l.length ∧ lo l i ≤ v ∧ v ≤ hi l i := by
  unfold vals
  rw [List.mem_flatMap]
  constructor
  · rintro ⟨r, hr, hv⟩
    obtain ⟨i, hi', rfl⟩ := List.getElem_of_mem hr
    rw [mem_span] at hv
    exact ⟨i, hi', by simp [lo, hi']; exact hv.1, by simp [hi, hi']; exact hv.2⟩
  · rintro ⟨i, hi', h1, h2⟩
    refine ⟨l[i], List.getElem_mem hi', ?_⟩
    rw [mem_span]
    simp [lo, hi, hi'] at h1 h2
    exact ⟨h1, h2⟩

theorem right_up (l : List Rg) (h : Right l) : ∀ j i, i ≤ j → j < l.length → lo l i ≤ lo l j ∧ hi l i ≤ hi l j := by
  intro j
  induction j with
  | zero => intro i hi' _; obtain rfl : i = 0 := by omega
            exact ⟨Int.le_refl _, Int.le_refl _⟩
  | succ j ih =>
    intro i hi' hj
    by_cases e : i = j + 1
    · subst e; exact ⟨Int.le_refl _, Int.le_refl _⟩
    · have h1 := ih i (by omega) (by omega)
      have h2 := h.2 (j + 1) hj
      have h3 := h.2 j (by omega)
      unfold OkAt at h2 h3
      have h4 := h2.2.2.2 (by omega)
      rw [Nat.add_sub_cancel] at h4
      omega
theorem right_ends (l : List Rg) (h : Right l) (h0 : 0 < l.length) : -1000000 ≤ lo l 0 ∧ hi l (l.length - 1) ≤ 1000000 ∧ lo l 0 ≤ hi l (l.length - 1) ∧ ∀ v ∈ vals l, lo l 0 ≤ v ∧ v ≤ hi l (l.length - 1) := by
  have a := h.2 0 h0
  have b := h.2 (l.length - 1) (by omega)
  have u := right_up l h (l.length - 1) 0 (by omega) (by omega)
  unfold OkAt at a b
  refine ⟨a.2.1, b.2.2.1, by omega, fun v hv => ?_⟩
  obtain ⟨i, hi', h1, h2⟩ := (mem_vals l v).1 hv
  have u1 := right_up l h i 0 (by omega) hi'
  have u2 := right_up l h (l.length - 1) i (by omega) (by omega)
  omega
theorem vals_short_aux (l : List Rg) (h : Right l) : ∀ i, i ≤ l.length → i = 0 ∨ ((vals (l.take i)).length : Int) ≤ hi l (i - 1) + 1000001 := by
  intro i
  induction i with
  | zero => intro _; exact .inl rfl
  | succ i ih =>
    intro hi'
    right
    have ok := h.2 i (by omega)
    unfold OkAt at ok
    rw [vals_take l i (by omega), List.length_append, span_length, Nat.add_sub_cancel]
    rcases ih (by omega) with rfl | h1
    · simp [vals]; omega
    · by_cases h0 : i = 0
      · subst h0; simp [vals]; omega
      · have := ok.2.2.2 (by omega); omega
theorem vals_short (l : List Rg) (h : Right l) : (vals l).length < 10000000 := by
  have h1 := vals_short_aux l h l.length (Nat.le_refl _)
  rw [List.take_length] at h1
  rcases h1 with h1 | h1
  · have : l = [] := List.eq_nil_of_length_eq_zero h1
    subst this; simp [vals]
  · by_cases h0 : l.length = 0
    · have : l = [] := List.eq_nil_of_length_eq_zero h0
      subst this; simp [vals]
    · have := h.2 (l.length - 1) (by omega); unfold OkAt at this; omega

/-- The bits of the values from f on: word number k. -/
def wd (vs : List Int) (f : Int) (k : Nat) : Nat := vs.foldl (fun acc v => if (v - f).toNat / 64 = k then acc ||| 2 ^ ((v - f).toNat % 64) else acc) 0
theorem wd_nil (f : Int) (k : Nat) : wd [] f k = 0 := rfl
theorem wd_snoc (vs : List Int) (v f : Int) (k : Nat) : wd (vs ++ [v]) f k = if (v - f).toNat / 64 = k then wd vs f k ||| 2 ^ ((v - f).toNat % 64) else wd vs f k := by
  unfold wd; rw [List.foldl_append]; rfl
theorem snoc_induct {α : Type} {C : List α → Prop} (h0 : C []) (h1 : ∀ l a, C l → C (l ++ [a])) : ∀ l, C l := by
  intro l
  rw [← List.reverse_reverse l]
  induction l.reverse with
  | nil => exact h0
  | cons a r ih => rw [List.reverse_cons]; exact h1 _ _ ih
theorem wd_lt (vs : List Int) (f : Int) (k : Nat) : wd vs f k < 2 ^ 64 := by
  induction vs using snoc_induct with
  | h0 => rw [wd_nil]; decide
  | h1 l a ih =>
    rw [wd_snoc]
    split
    · exact Nat.or_lt_two_pow ih (Nat.pow_lt_pow_right (by decide) (by omega))
    · exact ih
theorem wd_bit (vs : List Int) (f : Int) (k j : Nat) (hj : j < 64) : (wd vs f k).testBit j = true ↔ ∃ v ∈ vs, (v - f).toNat = 64 * k + j := by
  induction vs using snoc_induct with
  | h0 => simp [wd_nil]
  | h1 l a ih =>
    rw [wd_snoc]
    by_cases h : (a - f).toNat / 64 = k
    · rw [if_pos h, Nat.testBit_or, Bool.or_eq_true, ih, Nat.testBit_two_pow]
      constructor
      · rintro (⟨v, hv, e⟩ | e)
        · exact ⟨v, by simp [hv], e⟩
        · have e' : (a - f).toNat % 64 = j := by simpa using e
          exact ⟨a, by simp, by omega⟩
      · rintro ⟨v, hv, e⟩
        rcases List.mem_append.1 hv with hv | hv
        · exact .inl ⟨v, hv, e⟩
        · obtain rfl : v = a := by simpa using hv
          exact .inr (by simp; omega)
    · rw [if_neg h, ih]
      constructor
      · rintro ⟨v, hv, e⟩; exact ⟨v, by simp [hv], e⟩
      · rintro ⟨v, hv, e⟩
        rcases List.mem_append.1 hv with hv | hv
        · exact ⟨v, hv, e⟩
        · obtain rfl : v = a := by simpa using hv
          exact absurd (by omega) h
end Go.Proofs.Ytogankopiechcaa.Dm

