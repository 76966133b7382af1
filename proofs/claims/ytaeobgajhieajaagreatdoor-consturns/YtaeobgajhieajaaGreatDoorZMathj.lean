/-
  What is proved here: plain mathematics of ranges of numbers, of the values in them, and of bits in words.
  What is proved here: plain mathematics of the values that are there, rising, and of their runs.
  What is proved here: lists of ranges that rise and do not touch: what is cut out of them, what is not in them, and their runs.
-/
import Derived.WalkKit
namespace Go.Proofs.YtaeobgajhieajaaGreatDoor.Dm

abbrev Rg := Int × Int
def lo (l : List Rg) (i : Nat) : Int := (l[i]?.getD (0, 0)).1
def hi (l : List Rg) (i : Nat) : Int := (l[i]?.getD (0, 0)).2
def OkAt (l : List Rg) (i : Nat) : Prop := lo l i ≤ hi l i ∧ -1000000 ≤ lo l i ∧ hi l i ≤ 1000000 ∧ (0 < i → hi l (i - 1) + 1 < lo l i)
instance (l : List Rg) (i : Nat) : Decidable (OkAt l i) := by unfold OkAt; infer_instance
/-- Ranges are right. -/
def Right (l : List Rg) : Prop := l.length ≤ 4096 ∧ ∀ i, i < l.length → OkAt l i

instance (l : List Rg) : Decidable (Right l) := by unfold Right; infer_instance
/-- Are ranges right? -/
def rightB (l : List Rg) : Bool := decide (Right l)
theorem rightB_yes {l : List Rg} (h : Right l) : rightB l = true := by unfold rightB; simpa using h
theorem rightB_no {l : List Rg} (h : ¬ Right l) : rightB l = false := by unfold rightB; simpa using h

/-- All numbers from a to b. -/
def span (a b : Int) : List Int := (List.range (b + 1 - a).toNat).map fun k : Nat => a + (k : Int)
def vals (l : List Rg) : List Int := l.flatMap fun r => span r.1 r.2
def upto (a : Int) (k : Nat) : List Int := (List.range k).map fun j : Nat => a + (j : Int)
theorem upto_succ (a : Int) (k : Nat) : upto a (k + 1) = upto a k ++ [a + (k : Int)] := by simp [upto, List.range_succ]
theorem upto_all (a b : Int) (k : Nat) (h : (k : Int) = b + 1 - a) : upto a k = span a b := by unfold upto span; rw [← h]; rfl
theorem vals_take (l : List Rg) (i : Nat) (h : i < l.length) : vals (l.take (i + 1)) = vals (l.take i) ++ span (lo l i) (hi l i) := by
  unfold vals
  rw [List.take_succ_eq_append_getElem h, List.flatMap_append]
  simp [lo, hi, h]
theorem vals_take_le (l : List Rg) (i : Nat) : (vals (l.take i)).length ≤ (vals l).length := by
  have h : vals l = vals (l.take i) ++ vals (l.drop i) := by unfold vals; rw [← List.flatMap_append, List.take_append_drop]
  rw [h, List.length_append]; omega
theorem vals_prefix (l : List Rg) (i : Nat) : ∃ r, vals (l.take i) ++ r = vals l := ⟨vals (l.drop i), by unfold vals; rw [← List.flatMap_append, List.take_append_drop]⟩
theorem span_length (a b : Int) : (span a b).length = (b + 1 - a).toNat := by simp [span]
theorem span_upto (a b : Int) (j : Nat) (h : a + (j : Int) ≤ b + 1) : ∃ r, upto a j ++ r = span a b := by
  refine ⟨(span a b).drop j, ?_⟩
  have : upto a j = (span a b).take j := by
    unfold upto span
    rw [← List.map_take, List.take_range]
    congr 2; omega
  rw [this, List.take_append_drop]
theorem mem_span (a b v : Int) : v ∈ span a b ↔ a ≤ v ∧ v ≤ b := by
  unfold span
  rw [List.mem_map]
  constructor
  · rintro ⟨k, hk, rfl⟩; rw [List.mem_range] at hk; omega
  · rintro ⟨h1, h2⟩; exact ⟨(v - a).toNat, by rw [List.mem_range]; omega, by omega⟩
theorem mem_vals (l : List Rg) (v : Int) : v ∈ vals l ↔ ∃ i, i < l.length ∧ lo l i ≤ v ∧ v ≤ hi l i := by
  unfold vals
  rw [List.mem_flatMap]
  constructor
  · rintro ⟨r, hr, hv⟩
    obtain ⟨i, hi', rfl⟩ := List.getElem_of_mem hr
    rw [mem_span] at hv
    exact ⟨i, hi', by simp [lo, hi']; exact hv.1, by simp [hi, hi']; exact hv.2⟩
  · rintro ⟨i, hi', h1, h2⟩
    refine ⟨l[i], List.getElem_mem hi', ?_⟩
    rw [mem_span]
    simp [lo, hi, hi'] at h1 h2
    exact ⟨h1, h2⟩

theorem right_up (l : List Rg) (h : Right l) : ∀ j i, i ≤ j → j < l.length → lo l i ≤ lo l j ∧ hi l i ≤ hi l j := by
  intro j
  induction j with
  | zero => intro i hi' _; obtain rfl : i = 0 := by omega
            exact ⟨Int.le_refl _, Int.le_refl _⟩
  | succ j ih =>
    intro i hi' hj
    by_cases e : i = j + 1
    · subst e; exact ⟨Int.le_refl _, Int.le_refl _⟩
    · have h1 := ih i (by omega) (by omega)
      have h2 := h.2 (j + 1) hj
      have h3 := h.2 j (by omega)
      unfold OkAt at h2 h3
      have h4 := h2.2.2.2 (by omega)
      rw [Nat.add_sub_cancel] at h4
      omega
theorem right_ends (l : List Rg) (h : Right l) (h0 : 0 < l.length) : -1000000 ≤ lo l 0 ∧ hi l (l.length - 1) ≤ 1000000 ∧ lo l 0 ≤ hi l (l.length - 1) ∧ ∀ v ∈ vals l, lo l 0 ≤ v ∧ v ≤ hi l (l.length - 1) := by
  have a := h.2 0 h0
  have b := h.2 (l.length - 1) (by omega)
  have u := right_up l h (l.length - 1) 0 (by omega) (by omega)
  unfold OkAt at a b
  refine ⟨a.2.1, b.2.2.1, by omega, fun v hv => ?_⟩
  obtain ⟨i, hi', h1, h2⟩ := (mem_vals l v).1 hv
  have u1 := right_up l h i 0 (by omega) hi'
  have u2 := right_up l h (l.length - 1) i (by omega) (by omega)
  omega
theorem vals_short_aux (l : List Rg) (h : Right l) : ∀ i, i ≤ l.length → i = 0 ∨ ((vals (l.take i)).length : Int) ≤ hi l (i - 1) + 1000001 := by
  intro i
  induction i with
  | zero => intro _; exact .inl rfl
  | succ i ih =>
    intro hi'
    right
    have ok := h.2 i (by omega)
    unfold OkAt at ok
    rw [vals_take l i (by omega), List.length_append, span_length, Nat.add_sub_cancel]
    rcases ih (by omega) with rfl | h1
    · simp [vals]; omega
    · by_cases h0 : i = 0
      · subst h0; simp [vals]; omega
      · have := ok.2.2.2 (by omega); omega
theorem vals_short (l : List Rg) (h : Right l) : (vals l).length < 10000000 := by
  have h1 := vals_short_aux l h l.length (Nat.le_refl _)
  rw [List.take_length] at h1
  rcases h1 with h1 | h1
  · have : l = [] := List.eq_nil_of_length_eq_zero h1
    subst this; simp [vals]
  · by_cases h0 : l.length = 0
    · have : l = [] := List.eq_nil_of_length_eq_zero h0
      subst this; simp [vals]
    · have := h.2 (l.length - 1) (by omega); unfold OkAt at this; omega

/-- The bits of the values from f on: word number k. -/
def wd (vs : List Int) (f : Int) (k : Nat) : Nat := vs.foldl (fun acc v => if (v - f).toNat / 64 = k then acc ||| 2 ^ ((v - f).toNat % 64) else acc) 0
theorem wd_nil (f : Int) (k : Nat) : wd [] f k = 0 := rfl
theorem wd_snoc (vs : List Int) (v f : Int) (k : Nat) : wd (vs ++ [v]) f k = if (v - f).toNat / 64 = k then wd vs f k ||| 2 ^ ((v - f).toNat % 64) else wd vs f k := by
  unfold wd; rw [List.foldl_append]; rfl
theorem snoc_induct {α : Type} {C : List α → Prop} (h0 : C []) (h1 : ∀ l a, C l → C (l ++ [a])) : ∀ l, C l := by
  intro l
  rw [← List.reverse_reverse l]
  induction l.reverse with
  | nil => exact h0
  | cons a r ih => rw [List.reverse_cons]; exact h1 _ _ ih
theorem wd_lt (vs : List Int) (f : Int) (k : Nat) : wd vs f k < 2 ^ 64 := by
  induction vs using snoc_induct with
  | h0 => rw [wd_nil]; decide
  | h1 l a ih =>
    rw [wd_snoc]
    split
    · exact Nat.or_lt_two_pow ih (Nat.pow_lt_pow_right (by decide) (by omega))
    · exact ih
theorem wd_bit (vs : List Int) (f : Int) (k j : Nat) (hj : j < 64) : (wd vs f k).testBit j = true ↔ ∃ v ∈ vs, (v - f).toNat = 64 * k + j := by
  induction vs using snoc_induct with
  | h0 => simp [wd_nil]
  | h1 l a ih =>
    rw [wd_snoc]
    by_cases h : (a - f).toNat / 64 = k
    · rw [if_pos h, Nat.testBit_or, Bool.or_eq_true, ih, Nat.testBit_two_pow]
      constructor
      · rintro (⟨v, hv, e⟩ | e)
        · exact ⟨v, by simp [hv], e⟩
        · have e' : (a - f).toNat % 64 = j := by simpa using e
          exact ⟨a, by simp, by omega⟩
      · rintro ⟨v, hv, e⟩
        rcases List.mem_append.1 hv with hv | hv
        · exact .inl ⟨v, hv, e⟩
        · obtain rfl : v = a := by simpa using hv
          exact .inr (by simp; omega)
    · rw [if_neg h, ih]
      constructor
      · rintro ⟨v, hv, e⟩; exact ⟨v, by simp [hv], e⟩
      · rintro ⟨v, hv, e⟩
        rcases List.mem_append.1 hv with hv | hv
        · exact ⟨v, hv, e⟩
        · obtain rfl : v = a := by simpa using hv
          exact absurd (by omega) h
end Go.Proofs.YtaeobgajhieajaaGreatDoor.Dm


namespace Go.Proofs.YtaeobgajhieajaaGreatDoor.Dm

/-- The values f, f + 1 .. of the first n places that are there, rising. -/
def bv (f : Int) (p : Nat → Bool) : Nat → List Int
  | 0 => []
  | n + 1 => bv f p n ++ (if p n then [f + (n : Int)] else [])
theorem bv_gap (f : Int) (p : Nat → Bool) (a b : Nat) (hab : a ≤ b) (h : ∀ i, a ≤ i → i < b → p i = false) : bv f p b = bv f p a := by
  induction b with
  | zero => obtain rfl : a = 0 := by omega
            rfl
  | succ b ih =>
    by_cases e : a = b + 1
    · subst e; rfl
    · have hb := h b (by omega) (by omega)
      show bv f p b ++ (if p b then [f + (b : Int)] else []) = _
      rw [hb]
      simpa using ih (by omega) (fun i h1 h2 => h i h1 (by omega))
theorem bv_hit (f : Int) (p : Nat → Bool) (k : Nat) (h : p k = true) : bv f p (k + 1) = bv f p k ++ [f + (k : Int)] := by
  show bv f p k ++ (if p k then [f + (k : Int)] else []) = _
  rw [h]; rfl
theorem mem_bv (f : Int) (p : Nat → Bool) (n : Nat) (v : Int) : v ∈ bv f p n ↔ ∃ i, i < n ∧ p i = true ∧ v = f + (i : Int) := by
  induction n with
  | zero => simp [bv]
  | succ n ih =>
    unfold bv
    rw [List.mem_append, ih]
    constructor
    · rintro (⟨i, h1, h2, h3⟩ | h)
      · exact ⟨i, by omega, h2, h3⟩
      · by_cases hp : p n = true
        · rw [hp] at h; simp at h; exact ⟨n, by omega, hp, h⟩
        · simp [hp] at h
    · rintro ⟨i, h1, h2, h3⟩
      by_cases e : i = n
      · subst e; right; rw [h2]; simp [h3]
      · left; exact ⟨i, by omega, h2, h3⟩
theorem bv_prefix (f : Int) (p : Nat → Bool) (a b : Nat) (h : a ≤ b) : ∃ r, bv f p b = bv f p a ++ r := by
  induction b with
  | zero => obtain rfl : a = 0 := by omega
            exact ⟨[], by simp⟩
  | succ b ih =>
    by_cases e : a = b + 1
    · subst e; exact ⟨[], by simp⟩
    · obtain ⟨r, hr⟩ := ih (by omega)
      refine ⟨r ++ (if p b then [f + (b : Int)] else []), ?_⟩
      show bv f p b ++ _ = _
      rw [hr, List.append_assoc]
theorem bv_length (f : Int) (p : Nat → Bool) (n : Nat) : (bv f p n).length ≤ n := by
  induction n with
  | zero => simp [bv]
  | succ n ih => unfold bv; split <;> simp <;> omega
theorem bv_up (f : Int) (p : Nat → Bool) (n : Nat) : (bv f p n).Pairwise (· < ·) := by
  induction n with
  | zero => simp [bv]
  | succ n ih =>
    unfold bv
    rw [List.pairwise_append]
    refine ⟨ih, by split <;> simp, fun a ha b hb => ?_⟩
    obtain ⟨i, h1, _, rfl⟩ := (mem_bv f p n a).1 ha
    split at hb
    · simp at hb; omega
    · simp at hb
theorem span_up (a b : Int) : (span a b).Pairwise (· < ·) := by
  unfold span
  rw [List.pairwise_map]
  exact List.pairwise_lt_range.imp (fun h => by omega)
theorem vals_up (l : List Rg) (h : Right l) : ∀ i, i ≤ l.length → (vals (l.take i)).Pairwise (· < ·) ∧ ∀ v ∈ vals (l.take i), ∃ j, j < i ∧ lo l j ≤ v ∧ v ≤ hi l j := by
  intro i
  induction i with
  | zero => intro _; simp [vals]
  | succ i ih =>
    intro hi'
    obtain ⟨h1, h2⟩ := ih (by omega)
    rw [vals_take l i (by omega)]
    constructor
    · rw [List.pairwise_append]
      refine ⟨h1, span_up _ _, fun a ha b hb => ?_⟩
      obtain ⟨j, hj, _, ha2⟩ := h2 a ha
      rw [mem_span] at hb
      have hu := right_up l h (i - 1) j (by omega) (by omega)
      have ok := h.2 i (by omega)
      unfold OkAt at ok
      have := ok.2.2.2 (by omega)
      omega
    · intro v hv
      rcases List.mem_append.1 hv with hv | hv
      · obtain ⟨j, hj, h3⟩ := h2 v hv; exact ⟨j, by omega, h3⟩
      · rw [mem_span] at hv; exact ⟨i, by omega, hv⟩
theorem up_ext : ∀ {a b : List Int}, a.Pairwise (· < ·) → b.Pairwise (· < ·) → (∀ v, v ∈ a ↔ v ∈ b) → a = b
  | [], [], _, _, _ => rfl
  | [], y :: b, _, _, h => by have := (h y).2 (by simp); simp at this
  | x :: a, [], _, _, h => by have := (h x).1 (by simp); simp at this
  | x :: a, y :: b, ha, hb, h => by
    rw [List.pairwise_cons] at ha hb
    have hxy : x = y := by
      rcases List.mem_cons.1 ((h x).1 (by simp)) with e | e
      · exact e
      · rcases List.mem_cons.1 ((h y).2 (by simp)) with e' | e'
        · exact e'.symm
        · have := ha.1 y e'; have := hb.1 x e; omega
    subst hxy
    congr 1
    refine up_ext ha.2 hb.2 fun v => ?_
    constructor
    · intro hv
      rcases List.mem_cons.1 ((h v).1 (by simp [hv])) with e | e
      · subst e; have := ha.1 v hv; omega
      · exact e
    · intro hv
      rcases List.mem_cons.1 ((h v).2 (by simp [hv])) with e | e
      · subst e; have := hb.1 v hv; omega
      · exact e
theorem bv_vals (l : List Rg) (h : Right l) (f : Int) (p : Nat → Bool) (n : Nat) (hm : ∀ v, (∃ i, i < n ∧ p i = true ∧ v = f + (i : Int)) ↔ v ∈ vals l) : bv f p n = vals l := by
  have hu := (vals_up l h l.length (Nat.le_refl _)).1
  rw [List.take_length] at hu
  exact up_ext (bv_up f p n) hu (fun v => by rw [mem_bv]; exact hm v)

/-- One value more: the last range goes on, or a new one begins. -/
def step (out : List Rg) (v : Int) : List Rg := if 0 < out.length ∧ hi out (out.length - 1) = v - 1 then out.set (out.length - 1) (lo out (out.length - 1), v) else out ++ [(v, v)]
/-- The runs of values. -/
def runs (vs : List Int) : List Rg := vs.foldl step []
theorem runs_snoc (vs : List Int) (v : Int) : runs (vs ++ [v]) = step (runs vs) v := by unfold runs; rw [List.foldl_append]; rfl
theorem step_length (out : List Rg) (v : Int) : out.length ≤ (step out v).length ∧ (step out v).length ≤ out.length + 1 := by unfold step; split <;> simp
theorem runs_mono (vs r : List Int) : (runs vs).length ≤ (runs (vs ++ r)).length := by
  unfold runs
  rw [List.foldl_append]
  generalize List.foldl step [] vs = o
  induction r generalizing o with
  | nil => simp
  | cons x r ih =>
    rw [List.foldl_cons]
    exact Nat.le_trans (step_length o x).1 (ih _)
theorem set_last {α : Type} (l : List α) (a b : α) : (l ++ [a]).set l.length b = l ++ [b] := by
  rw [List.set_append_right _ _ (Nat.le_refl _)]; simp
theorem hi_last (l : List Rg) (r : Rg) : hi (l ++ [r]) l.length = r.2 := by unfold hi; simp
theorem lo_last (l : List Rg) (r : Rg) : lo (l ++ [r]) l.length = r.1 := by unfold lo; simp
theorem foldl_upto (o : List Rg) (a b : Int) (k : Nat) : ((List.range k).map fun j : Nat => b + 1 + (j : Int)).foldl step (o ++ [(a, b)]) = o ++ [(a, b + k)] := by
  induction k with
  | zero => simp
  | succ k ih =>
    rw [List.range_succ, List.map_append, List.foldl_append, ih]
    show step (o ++ [(a, b + (k : Int))]) (b + 1 + (k : Int)) = _
    unfold step
    rw [List.length_append, List.length_singleton, Nat.add_sub_cancel, hi_last, lo_last, if_pos ⟨by omega, by show b + (k : Int) = _; omega⟩, set_last]
    congr 2
    show (a, b + 1 + (k : Int)) = _
    congr 1; omega
theorem runs_take (l : List Rg) (h : Right l) : ∀ i, i ≤ l.length → runs (vals (l.take i)) = l.take i := by
  intro i
  induction i with
  | zero => intro _; simp [vals, runs]
  | succ i ih =>
    intro hi'
    have ok := h.2 i (by omega)
    unfold OkAt at ok
    rw [vals_take l i (by omega)]
    unfold runs
    rw [List.foldl_append]
    have ih' := ih (by omega)
    unfold runs at ih'
    rw [ih']
    obtain ⟨k, hk⟩ : ∃ k : Nat, hi l i = lo l i + (k : Int) := ⟨(hi l i - lo l i).toNat, by omega⟩
    have hs : span (lo l i) (hi l i) = lo l i :: ((List.range k).map fun j : Nat => lo l i + 1 + (j : Int)) := by
      unfold span
      rw [show (hi l i + 1 - lo l i).toNat = k + 1 by omega, List.range_succ_eq_map, List.map_cons, List.map_map]
      congr 1
      · simp
      · apply List.map_congr_left; intro j _; simp; omega
    rw [hs, List.foldl_cons]
    have h1 : step (l.take i) (lo l i) = l.take i ++ [(lo l i, lo l i)] := by
      unfold step
      rw [if_neg]
      rintro ⟨h0, e⟩
      have hl : (l.take i).length = i := by simp; omega
      rw [hl] at h0 e
      have hh : hi (l.take i) (i - 1) = hi l (i - 1) := by unfold hi; rw [List.getElem?_take_of_lt (by omega)]
      rw [hh] at e
      have := ok.2.2.2 h0
      omega
    rw [h1, foldl_upto, List.take_succ_eq_append_getElem (by omega)]
    congr 2
    rw [← hk]
    have e1 : lo l i = l[i].1 := by unfold lo; simp [show i < l.length by omega]
    have e2 : hi l i = l[i].2 := by unfold hi; simp [show i < l.length by omega]
    rw [e1, e2]
theorem runs_vals (l : List Rg) (h : Right l) : runs (vals l) = l := by
  have := runs_take l h l.length (Nat.le_refl _)
  rw [List.take_length] at this
  exact this
end Go.Proofs.YtaeobgajhieajaaGreatDoor.Dm


namespace Go.Proofs.YtaeobgajhieajaaGreatDoor.Dm
set_option linter.unusedVariables false

/-- Ranges that rise, none of them touching. -/
def Ord (l : List Rg) : Prop := (∀ r ∈ l, r.1 ≤ r.2) ∧ l.Pairwise (fun r s => r.2 + 1 < s.1)
def Inb (l : List Rg) : Prop := ∀ r ∈ l, -1000000 ≤ r.1 ∧ r.2 ≤ 1000000
theorem lo_get (l : List Rg) (i : Nat) (h : i < l.length) : lo l i = l[i].1 := by unfold lo; rw [List.getElem?_eq_getElem h]; rfl
theorem hi_get (l : List Rg) (i : Nat) (h : i < l.length) : hi l i = l[i].2 := by unfold hi; rw [List.getElem?_eq_getElem h]; rfl
theorem right_ord {l : List Rg} (h : Right l) : Ord l ∧ Inb l := by
  refine ⟨⟨fun r hr => ?_, ?_⟩, fun r hr => ?_⟩
  · obtain ⟨i, hi, rfl⟩ := List.mem_iff_getElem.1 hr
    have := (h.2 i hi).1
    rw [lo_get l i hi, hi_get l i hi] at this; exact this
  · rw [List.pairwise_iff_getElem]
    intro i j hi hj hij
    have h1 := (h.2 j hj).2.2.2 (by omega)
    have h2 := right_up l h (j - 1) i (by omega) (by omega)
    rw [lo_get l j hj] at h1
    have h3 := h2.2
    rw [hi_get l i hi] at h3
    omega
  · obtain ⟨i, hi, rfl⟩ := List.mem_iff_getElem.1 hr
    have := h.2 i hi
    unfold OkAt at this
    rw [lo_get l i hi, hi_get l i hi] at this
    exact ⟨this.2.1, this.2.2.1⟩
theorem ord_right {l : List Rg} (h : Ord l) (hb : Inb l) (hl : l.length ≤ 4096) : Right l := by
  refine ⟨hl, fun i hi => ?_⟩
  have h1 := h.1 l[i] (List.getElem_mem hi)
  have h2 := hb l[i] (List.getElem_mem hi)
  refine ⟨by rw [lo_get l i hi, hi_get l i hi]; exact h1, by rw [lo_get l i hi]; exact h2.1, by rw [hi_get l i hi]; exact h2.2, fun h0 => ?_⟩
  have h3 := (List.pairwise_iff_getElem.1 h.2) (i - 1) i (by omega) hi (by omega)
  rw [lo_get l i hi, hi_get l (i - 1) (by omega)]
  exact h3
theorem mem_vals' (l : List Rg) (v : Int) : v ∈ vals l ↔ ∃ r ∈ l, r.1 ≤ v ∧ v ≤ r.2 := by
  unfold vals
  rw [List.mem_flatMap]
  simp only [mem_span]
theorem vals_append (a b : List Rg) : vals (a ++ b) = vals a ++ vals b := by unfold vals; rw [List.flatMap_append]

/-- A range cut to what lies from a to b. -/
def cut1 (a b : Int) (r : Rg) : Option Rg := if (if r.1 < a then a else r.1) ≤ (if b < r.2 then b else r.2) then some (if r.1 < a then a else r.1, if b < r.2 then b else r.2) else none
def cutL (l : List Rg) (a b : Int) : List Rg := l.filterMap (cut1 a b)
theorem cut1_some {a b : Int} {r p : Rg} (h : cut1 a b r = some p) : p.1 ≤ p.2 ∧ r.1 ≤ p.1 ∧ a ≤ p.1 ∧ p.2 ≤ r.2 ∧ p.2 ≤ b ∧ (p.1 = r.1 ∨ (p.1 = a ∧ r.1 < a)) := by
  unfold cut1 at h
  obtain ⟨x, hx⟩ : ∃ x, (if r.1 < a then a else r.1) = x := ⟨_, rfl⟩
  obtain ⟨y, hy⟩ : ∃ y, (if b < r.2 then b else r.2) = y := ⟨_, rfl⟩
  rw [hx, hy] at h
  by_cases hc : x ≤ y
  · rw [if_pos hc] at h
    have e : (x, y) = p := by injection h
    subst e
    show x ≤ y ∧ r.1 ≤ x ∧ a ≤ x ∧ y ≤ r.2 ∧ y ≤ b ∧ (x = r.1 ∨ (x = a ∧ r.1 < a))
    split at hx <;> split at hy <;> omega
  · rw [if_neg hc] at h; cases h
theorem cut1_mem (a b : Int) (r : Rg) (v : Int) : (∃ p, cut1 a b r = some p ∧ p.1 ≤ v ∧ v ≤ p.2) ↔ (r.1 ≤ v ∧ v ≤ r.2 ∧ a ≤ v ∧ v ≤ b) := by
  constructor
  · rintro ⟨p, hp, h1, h2⟩
    have := cut1_some hp
    omega
  · rintro ⟨h1, h2, h3, h4⟩
    unfold cut1
    have e1 : (if r.1 < a then a else r.1) ≤ v := by split <;> omega
    have e2 : v ≤ (if b < r.2 then b else r.2) := by split <;> omega
    rw [if_pos (by omega)]
    exact ⟨_, rfl, e1, e2⟩
theorem mem_cutL (l : List Rg) (a b v : Int) : v ∈ vals (cutL l a b) ↔ v ∈ vals l ∧ a ≤ v ∧ v ≤ b := by
  rw [mem_vals', mem_vals']
  unfold cutL
  simp only [List.mem_filterMap]
  constructor
  · rintro ⟨p, ⟨r, hr, hp⟩, h1, h2⟩
    have := (cut1_mem a b r v).1 ⟨p, hp, h1, h2⟩
    exact ⟨⟨r, hr, this.1, this.2.1⟩, this.2.2⟩
  · rintro ⟨⟨r, hr, h1, h2⟩, h3⟩
    obtain ⟨p, hp, h4⟩ := (cut1_mem a b r v).2 ⟨h1, h2, h3⟩
    exact ⟨p, ⟨r, hr, hp⟩, h4⟩

/-- All that is cut out of a by the ranges c. -/
def pieces (c a : List Rg) : List Rg := c.flatMap fun r => cutL a r.1 r.2
theorem mem_pieces (c a : List Rg) (v : Int) : v ∈ vals (pieces c a) ↔ v ∈ vals c ∧ v ∈ vals a := by
  have e : vals (pieces c a) = c.flatMap fun r => vals (cutL a r.1 r.2) := by unfold vals pieces; rw [List.flatMap_assoc]
  rw [e, List.mem_flatMap, mem_vals' c]
  simp only [mem_cutL]
  constructor
  · rintro ⟨r, hr, h1, h2⟩; exact ⟨⟨r, hr, h2⟩, h1⟩
  · rintro ⟨⟨r, hr, h2⟩, h1⟩; exact ⟨r, hr, h1, h2⟩
theorem piece_of {c a : List Rg} {p : Rg} (h : p ∈ pieces c a) : ∃ r ∈ c, ∃ s ∈ a, cut1 r.1 r.2 s = some p := by
  unfold pieces at h
  rw [List.mem_flatMap] at h
  obtain ⟨r, hr, h⟩ := h
  unfold cutL at h
  rw [List.mem_filterMap] at h
  obtain ⟨s, hs, h⟩ := h
  exact ⟨r, hr, s, hs, h⟩
theorem ord_pieces {c a : List Rg} (hc : Ord c) (ha : Ord a) : Ord (pieces c a) := by
  refine ⟨fun p hp => ?_, ?_⟩
  · obtain ⟨r, _, s, _, h⟩ := piece_of hp
    exact (cut1_some h).1
  · unfold pieces
    rw [List.pairwise_flatMap]
    refine ⟨fun r hr => ?_, ?_⟩
    · unfold cutL
      rw [List.pairwise_filterMap]
      refine ha.2.imp fun {s s'} hs p hp p' hp' => ?_
      have h1 := cut1_some hp
      have h2 := cut1_some hp'
      omega
    · refine hc.2.imp fun {r r'} hr p hp p' hp' => ?_
      unfold cutL at hp hp'
      rw [List.mem_filterMap] at hp hp'
      obtain ⟨s, _, h1⟩ := hp
      obtain ⟨s', _, h2⟩ := hp'
      have h3 := cut1_some h1
      have h4 := cut1_some h2
      omega
theorem inb_pieces {c a : List Rg} (ha : Inb a) : Inb (pieces c a) := fun p hp => by
  obtain ⟨r, _, s, hs, h⟩ := piece_of hp
  have h1 := cut1_some h
  have h2 := ha s hs
  omega
theorem up_le {a : List Int} : ∀ {S : List Int}, a.Pairwise (· < ·) → (∀ v ∈ a, v ∈ S) → a.length ≤ S.length := by
  induction a with
  | nil => intro S _ _; exact Nat.zero_le _
  | cons x a ih =>
    intro S hp hs
    rw [List.pairwise_cons] at hp
    have hx := hs x (by simp)
    have h1 : ∀ v ∈ a, v ∈ S.erase x := fun v hv => by
      have := hp.1 v hv
      exact (List.mem_erase_of_ne (by omega)).2 (hs v (by simp [hv]))
    have h2 := ih hp.2 h1
    rw [List.length_erase_of_mem hx] at h2
    have : 0 < S.length := List.length_pos_of_mem hx
    simp only [List.length_cons]
    omega
theorem ord_los {l : List Rg} (h : Ord l) : (l.map (·.1)).Pairwise (· < ·) := by
  rw [List.pairwise_map]
  have h1 : l.Pairwise (fun r s => r.2 + 1 < s.1) := h.2
  refine (List.pairwise_iff_getElem.2 fun i j hi hj hij => ?_)
  have h2 := (List.pairwise_iff_getElem.1 h1) i j hi hj hij
  have h3 := h.1 l[i] (List.getElem_mem hi)
  omega
theorem both_len {c a : List Rg} (hc : Ord c) (ha : Ord a) : (pieces c a).length ≤ a.length + c.length := by
  have h := up_le (ord_los (ord_pieces hc ha)) (S := a.map (·.1) ++ c.map (·.1)) (fun v hv => by
    rw [List.mem_map] at hv
    obtain ⟨p, hp, rfl⟩ := hv
    obtain ⟨r, hr, s, hs, h⟩ := piece_of hp
    rcases (cut1_some h).2.2.2.2.2 with e | ⟨e, _⟩
    · rw [e]; exact List.mem_append_left _ (List.mem_map.2 ⟨s, hs, rfl⟩)
    · rw [e]; exact List.mem_append_right _ (List.mem_map.2 ⟨r, hr, rfl⟩))
  simpa using h

/-- What is not in ranges, from a number on. -/
def notF : Int → List Rg → List Rg
  | f, [] => if f ≤ 1000000 then [(f, 1000000)] else []
  | f, r :: l => (if f < r.1 then [(f, r.1 - 1)] else []) ++ notF (r.2 + 1) l
def notL (l : List Rg) : List Rg := notF (-1000000) l
theorem notF_mem : ∀ (l : List Rg) (f : Int) (p : Rg), (∀ r ∈ l, r.1 ≤ r.2) → p ∈ notF f l → (p.1 = f ∨ ∃ r ∈ l, p.1 = r.2 + 1) := by
  intro l
  induction l with
  | nil =>
    intro f p _ hp
    unfold notF at hp
    split at hp
    · rw [List.mem_singleton] at hp; rw [hp]; exact .inl rfl
    · cases hp
  | cons r l ih =>
    intro f p ho hp
    unfold notF at hp
    rw [List.mem_append] at hp
    rcases hp with hp | hp
    · split at hp
      · rw [List.mem_singleton] at hp; rw [hp]; exact .inl rfl
      · cases hp
    · rcases ih _ p (fun s hs => ho s (by simp [hs])) hp with e | ⟨s, hs, e⟩
      · exact .inr ⟨r, by simp, e⟩
      · exact .inr ⟨s, by simp [hs], e⟩
theorem notF_facts : ∀ (l : List Rg) (f : Int), Ord l → Inb l → (∀ r ∈ l, f ≤ r.1) → Ord (notF f l) ∧ (∀ p ∈ notF f l, f ≤ p.1 ∧ p.2 ≤ 1000000) ∧ ∀ v, v ∈ vals (notF f l) ↔ (f ≤ v ∧ v ≤ 1000000 ∧ v ∉ vals l) := by
  intro l
  induction l with
  | nil =>
    intro f _ _ _
    unfold notF
    split
    · rename_i h
      refine ⟨⟨fun r hr => by rw [List.mem_singleton] at hr; rw [hr]; exact h, List.pairwise_singleton _ _⟩, fun p hp => by rw [List.mem_singleton] at hp; rw [hp]; exact ⟨Int.le_refl _, Int.le_refl _⟩, fun v => ?_⟩
      rw [mem_vals']
      simp [vals]
    · rename_i h
      refine ⟨⟨fun r hr => (by cases hr), List.Pairwise.nil⟩, fun p hp => (by cases hp), fun v => ?_⟩
      simp [vals]
      omega
  | cons r l ih =>
    intro f ho hb hf
    have hr := ho.1 r (by simp)
    have hp := List.pairwise_cons.1 ho.2
    have hfr := hf r (by simp)
    have hol : Ord l := ⟨fun s hs => ho.1 s (by simp [hs]), hp.2⟩
    obtain ⟨i1, i2, i3⟩ := ih (r.2 + 1) hol (fun s hs => hb s (by simp [hs])) (fun s hs => by have := hp.1 s hs; omega)
    unfold notF
    refine ⟨⟨fun p hpm => ?_, ?_⟩, fun p hpm => ?_, fun v => ?_⟩
    · rw [List.mem_append] at hpm
      rcases hpm with h | h
      · split at h
        · rw [List.mem_singleton] at h; rw [h]; show f ≤ r.1 - 1; omega
        · cases h
      · exact i1.1 p h
    · rw [List.pairwise_append]
      refine ⟨?_, i1.2, fun p h q hq => ?_⟩
      · split
        · exact List.pairwise_singleton _ _
        · exact List.Pairwise.nil
      split at h
      · rw [List.mem_singleton] at h
        have := (i2 q hq).1
        rw [h]; show r.1 - 1 + 1 < q.1; omega
      · cases h
    · rw [List.mem_append] at hpm
      rcases hpm with h | h
      · split at h
        · rw [List.mem_singleton] at h; have := (hb r (by simp)).2; rw [h]; exact ⟨Int.le_refl _, by show r.1 - 1 ≤ 1000000; omega⟩
        · cases h
      · have := i2 p h; omega
    · rw [vals_append, List.mem_append, i3]
      have hv : v ∈ vals (r :: l) ↔ (r.1 ≤ v ∧ v ≤ r.2) ∨ v ∈ vals l := by
        have : vals (r :: l) = span r.1 r.2 ++ vals l := by unfold vals; rw [List.flatMap_cons]
        rw [this, List.mem_append, mem_span]
      have hl : v ∈ vals l → r.2 + 1 < v := fun h => by
        obtain ⟨s, hs, h1, h2⟩ := (mem_vals' l v).1 h
        have := hp.1 s hs
        omega
      rw [hv]
      have hg : v ∈ vals (if f < r.1 then [(f, r.1 - 1)] else []) ↔ (f ≤ v ∧ v < r.1) := by
        split
        · rw [mem_vals']; simp; omega
        · simp [vals]; omega
      rw [hg]
      have hb2 := (hb r (by simp)).2
      constructor
      · rintro (h | ⟨h1, h2, h3⟩)
        · exact ⟨h.1, by omega, fun h4 => h4.elim (fun h5 => by omega) (fun h5 => by have := hl h5; omega)⟩
        · exact ⟨by omega, h2, fun h4 => h4.elim (fun h5 => by omega) (fun h5 => h3 h5)⟩
      · rintro ⟨h1, h2, h3⟩
        by_cases h4 : v < r.1
        · exact .inl ⟨h1, h4⟩
        · refine .inr ⟨?_, h2, fun h5 => h3 (.inr h5)⟩
          apply Classical.byContradiction
          intro h5
          exact h3 (.inl ⟨by omega, by omega⟩)
theorem less_len {a b : List Rg} (ha : Ord a) (hia : Inb a) (hb : Ord b) (hib : Inb b) : (pieces (notL b) a).length ≤ a.length + b.length := by
  have hn := notF_facts b (-1000000) hb hib (fun r hr => (hib r hr).1)
  have h := up_le (ord_los (ord_pieces hn.1 ha)) (S := a.map (·.1) ++ b.map (fun r => r.2 + 1)) (fun v hv => by
    rw [List.mem_map] at hv
    obtain ⟨p, hp, rfl⟩ := hv
    obtain ⟨r, hr, s, hs, h⟩ := piece_of hp
    rcases (cut1_some h).2.2.2.2.2 with e | ⟨e, e2⟩
    · rw [e]; exact List.mem_append_left _ (List.mem_map.2 ⟨s, hs, rfl⟩)
    · rcases notF_mem b (-1000000) r hb.1 hr with e3 | ⟨q, hq, e3⟩
      · have := (hia s hs).1
        omega
      · rw [e, e3]; exact List.mem_append_right _ (List.mem_map.2 ⟨q, hq, rfl⟩))
  have e : (a.map (fun r : Rg => r.1) ++ b.map (fun r : Rg => r.2 + 1)).length = a.length + b.length := by simp
  rw [e, List.length_map] at h
  exact h
end Go.Proofs.YtaeobgajhieajaaGreatDoor.Dm

