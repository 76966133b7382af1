/-
  What is proved here: a text is a word just if it is parted into that word and the end; the last token is the end just if there is no fault.
-/
import Derived.Test.YtokcbiafajpmoaaDoorLy
namespace Go.Proofs.YtokcbiafajpmoaaDoor
open Go.RowKit
set_option linter.unusedVariables false
set_option linter.unusedSimpArgs false
theorem oneR_bad (l : List UInt8) (e : Int) (h : oneR l = .bad e) : e ≠ 0 := by
  cases l with
  | nil => simp [oneR] at h
  | cons c r =>
    simp only [oneR] at h
    split at h
    · simp at h
    · split at h
      · unfold numR at h
        split at h
        · split at h
          · simp at h; omega
          · split at h
            · simp at h; omega
            · simp at h
        · simp at h; omega
      · split at h
        · unfold strR at h
          split at h
          · simp at h
          · simp at h; omega
        · unfold sgnR at h
          split at h
          · simp at h
          · simp only at h
            split at h
            · simp at h
            · simp at h; omega
/-- Is the last one the end? -/
def lastEnd (T : List Tok) : Bool := match T.getLast? with
  | some t => decide (t.k = 5)
  | none => false
theorem lastEnd_app (T : List Tok) (t : Tok) : lastEnd (T ++ [t]) = decide (t.k = 5) := by simp [lastEnd]
theorem lastEnd_cons (t : Tok) (T : List Tok) (h : T ≠ []) : lastEnd (t :: T) = lastEnd T := by
  cases T with
  | nil => exact absurd rfl h
  | cons u r => simp [lastEnd, List.getLast?_cons_cons]
theorem toks_last : ∀ (n : Nat) (l : List UInt8) (a : Nat), l.length ≤ n → (decide ((toks l a).2.1 = 0) = lastEnd (toks l a).1) ∧ ((toks l a).2.1 = 0 → (toks l a).1 ≠ []) := by
  intro n
  induction n with
  | zero =>
    intro l a hl
    have : l = [] := List.eq_nil_of_length_eq_zero (by omega)
    subst this
    rw [toks_end [] a 0 0 rfl]
    simp [lastEnd]
  | succ n ih =>
    intro l a hl
    cases hr : oneR (l.drop (skp false l)) with
    | bad e =>
      rw [toks_bad l a e hr]
      have := oneR_bad _ _ hr
      simp [lastEnd, this]
    | ok k m v =>
      by_cases h5 : k = 5
      · subst h5
        rw [toks_end l a m v hr]
        simp [lastEnd]
      · rw [toks_next l a k m v hr h5]
        obtain ⟨hm, hm1, _⟩ := oneR_len _ _ _ _ hr
        have h1 := hm1 h5
        rw [List.length_drop] at hm
        have hlen : (l.drop (skp false l + m)).length ≤ n := by rw [List.length_drop]; omega
        obtain ⟨i1, i2⟩ := ih (l.drop (skp false l + m)) (a + skp false l + m) hlen
        obtain ⟨⟨T, x, p⟩, hT⟩ : ∃ y, toks (l.drop (skp false l + m)) (a + skp false l + m) = y := ⟨_, rfl⟩
        rw [hT] at i1 i2 ⊢
        refine ⟨?_, fun _ => by simp⟩
        simp only at i1 i2 ⊢
        cases T with
        | nil =>
          have hx : x ≠ 0 := fun h => i2 h rfl
          simp [lastEnd, hx, h5]
        | cons u r => rw [lastEnd_cons _ _ (by simp)]; exact i1
theorem all_last (b : List UInt8) : decide ((allT b).2.1 = 0) = lastEnd (allT b).1 := by
  unfold allT
  split
  · rfl
  · exact (toks_last b.length b 0 (Nat.le_refl _)).1
theorem scan_all (b : List UInt8) (h : (allT b).2.1 = 0) : scanT b = ((allT b).1, 0, 0) := by unfold scanT; rw [if_pos h]
theorem scan_err (b : List UInt8) (h : (allT b).2.1 ≠ 0) : scanT b = ([], (allT b).2.1, (allT b).2.2) := by unfold scanT; rw [if_neg h]
theorem let_skip (c : UInt8) (r : List UInt8) (h : letB c = true) : skp false (c :: r) = 0 := by
  simp only [letB, Bool.or_eq_true, Bool.and_eq_true, decide_eq_true_eq] at h
  refine skp_none c r ?_ (by omega)
  simp [blkB]; omega
theorem toks_nil (a : Nat) : toks [] a = ([⟨5, [], 0, a⟩], 0, 0) := by rw [toks_end [] a 0 0 rfl]; rfl
theorem word_scan (b : List UInt8) (hb : b.length ≤ 65536) (h : wordB b = true) : allT b = ([⟨1, b, 0, 0⟩, ⟨5, [], 0, b.length⟩], 0, 0) := by
  cases b with
  | nil => simp [wordB] at h
  | cons c r =>
    simp only [wordB, Bool.and_eq_true, decide_eq_true_eq] at h
    obtain ⟨h1, h2⟩ := h
    unfold allT
    rw [if_neg (by omega)]
    have hs := let_skip c r h1
    have hr : oneR ((c :: r).drop (skp false (c :: r))) = .ok 1 (c :: r).length 0 := by
      rw [hs, List.drop_zero]
      simp only [oneR, h1, if_true, h2]
    rw [toks_next (c :: r) 0 1 _ 0 hr (by decide), hs, List.drop_zero, List.take_length, Nat.zero_add, Nat.zero_add, List.drop_length, toks_nil]
theorem oneR_one (l : List UInt8) (m : Nat) (n : Int) (h : oneR l = .ok 1 m n) : ∃ c r, l = c :: r ∧ letB c = true ∧ m = spn wrdB l := by
  cases l with
  | nil => simp [oneR] at h
  | cons c r =>
    refine ⟨c, r, rfl, ?_⟩
    simp only [oneR] at h
    split at h
    · rename_i hl
      simp only [Res.ok.injEq, true_and] at h
      exact ⟨hl, h.1.symm⟩
    · split at h
      · unfold numR at h
        split at h
        · split at h
          · simp at h
          · split at h <;> simp at h
        · simp at h
      · split at h
        · unfold strR at h
          split at h <;> simp at h
        · unfold sgnR at h
          split at h
          · simp at h
          · simp only at h
            split at h <;> simp at h
theorem scan_word (b : List UInt8) (t : Tok) (hb : b.length ≤ 65536) (h0 : (allT b).1[0]? = some t) (hk : t.k = 1) (ht : t.tx = b) : wordB b = true := by
  unfold allT at h0
  rw [if_neg (by omega)] at h0
  cases hr : oneR (b.drop (skp false b)) with
  | bad e => rw [toks_bad b 0 e hr] at h0; simp at h0
  | ok k m v =>
    by_cases h5 : k = 5
    · subst h5
      rw [toks_end b 0 m v hr] at h0
      simp at h0
      rw [← h0] at hk
      simp at hk
    · rw [toks_next b 0 k m v hr h5] at h0
      simp only [List.getElem?_cons_zero, Option.some.injEq] at h0
      subst h0
      simp only at hk ht
      subst hk
      obtain ⟨c, r, e, hl, hm⟩ := oneR_one _ _ _ hr
      have hle := congrArg List.length ht
      rw [List.length_take, List.length_drop] at hle
      have hs0 : skp false b = 0 := by
        have h1 := congrArg List.length e
        rw [List.length_drop] at h1
        simp at h1
        omega
      rw [hs0, List.drop_zero] at e hm
      rw [hs0] at hle
      subst e
      simp only [wordB, hl, Bool.true_and, decide_eq_true_eq]
      have := spn_le wrdB (c :: r)
      omega
theorem toks_count : ∀ (n : Nat) (l : List UInt8) (a : Nat), l.length ≤ n → (toks l a).1.length ≤ l.length + 1 := by
  intro n
  induction n with
  | zero =>
    intro l a hl
    have : l = [] := List.eq_nil_of_length_eq_zero (by omega)
    subst this
    rw [toks_nil]; simp
  | succ n ih =>
    intro l a hl
    cases hr : oneR (l.drop (skp false l)) with
    | bad e => rw [toks_bad l a e hr]; simp
    | ok k m v =>
      by_cases h5 : k = 5
      · subst h5
        rw [toks_end l a m v hr]; simp
      · rw [toks_next l a k m v hr h5]
        obtain ⟨hm, hm1, _⟩ := oneR_len _ _ _ _ hr
        have h1 := hm1 h5
        rw [List.length_drop] at hm
        have hlen : (l.drop (skp false l + m)).length ≤ n := by rw [List.length_drop]; omega
        have i1 := ih (l.drop (skp false l + m)) (a + skp false l + m) hlen
        rw [List.length_drop] at i1
        simp only [List.length_cons]
        omega
theorem all_count (b : List UInt8) : (allT b).1.length ≤ 65537 := by
  unfold allT
  split
  · simp
  · have := toks_count b.length b 0 (Nat.le_refl _); omega
end Go.Proofs.YtokcbiafajpmoaaDoor
