/-
  What is proved here: each token stands at its place; a beginning of a text that ends at a token's end has the tokens up to there.
-/
import Derived.Test.YtokcbiafajpmoaaDoorMa
namespace Go.Proofs.YtokcbiafajpmoaaDoor
open Go.RowKit
set_option linter.unusedVariables false
set_option linter.unusedSimpArgs false
theorem skp_take : ∀ (l : List UInt8) (b : Bool) (j : Nat), skp b l ≤ j → skp b (l.take j) = skp b l
  | [], b, j, _ => by simp
  | c :: r, b, 0, h => by
    have : skp b (c :: r) = 0 := by omega
    rw [this]; cases b <;> rfl
  | c :: r, false, j + 1, h => by
    rw [List.take_succ_cons, skp_fc, skp_fc]
    rw [skp_fc] at h
    split
    · rename_i hb
      rw [if_pos hb] at h
      rw [skp_take r false j (by omega)]
    · rename_i hb
      rw [if_neg hb] at h
      split
      · rename_i h37
        rw [if_pos h37] at h
        rw [skp_take r true j (by omega)]
      · rfl
  | c :: r, true, j + 1, h => by
    rw [List.take_succ_cons, skp_tc, skp_tc]
    rw [skp_tc] at h
    split
    · rename_i hb
      rw [if_pos hb] at h
      rw [skp_take r false j (by omega)]
    · rename_i hb
      rw [if_neg hb] at h
      rw [skp_take r true j (by omega)]
theorem spn_take (p : UInt8 → Bool) : ∀ (l : List UInt8) (j : Nat), spn p l ≤ j → spn p (l.take j) = spn p l
  | [], j, _ => by simp
  | c :: r, 0, h => by
    have : spn p (c :: r) = 0 := by omega
    rw [this]; rfl
  | c :: r, j + 1, h => by
    rw [List.take_succ_cons, spn_cons, spn_cons]
    rw [spn_cons] at h
    split
    · rename_i hb
      rw [if_pos hb] at h
      rw [spn_take p r j (by omega)]
    · rfl
theorem bdig_take (l : List UInt8) (j : Nat) (h : bdig l = false) : bdig (l.take j) = false := by
  cases l with
  | nil => simpa using h
  | cons c r =>
    cases j with
    | zero => rfl
    | succ j => exact h
theorem bsgn_take (l : List UInt8) (j : Nat) (h : bsgn l = false) : bsgn (l.take j) = false := by
  cases l with
  | nil => simpa using h
  | cons c r =>
    cases j with
    | zero => rfl
    | succ j =>
      rw [List.take_succ_cons]
      simp only [bsgn, Bool.and_eq_false_iff] at h ⊢
      rcases h with h | h
      · exact .inl h
      · exact .inr (bdig_take r j h)
theorem goes_take (l : List UInt8) (j : Nat) (h : goesB l = false) : goesB (l.take j) = false := by
  cases l with
  | nil => simpa using h
  | cons c r =>
    cases j with
    | zero => rfl
    | succ j =>
      rw [List.take_succ_cons]
      simp only [goesB] at h ⊢
      split
      · rename_i h46
        rw [if_pos h46] at h
        exact bdig_take r j h
      · rename_i h46
        rw [if_neg h46] at h
        split
        · rename_i he
          rw [if_pos he, Bool.or_eq_false_iff] at h
          rw [bdig_take r j h.1, bsgn_take r j h.2]; rfl
        · rfl
theorem oneR_take (l : List UInt8) (k : Int) (m : Nat) (n : Int) (j : Nat) (h : oneR l = .ok k m n) (h5 : k ≠ 5) (hj : m ≤ j) : oneR (l.take j) = .ok k m n := by
  obtain ⟨hml, hm1, _⟩ := oneR_len _ _ _ _ h
  have h1 := hm1 h5
  cases l with
  | nil => simp [oneR] at h; omega
  | cons c r =>
    obtain ⟨i, rfl⟩ : ∃ i, j = i + 1 := ⟨j - 1, by omega⟩
    have ht : (c :: r).take (i + 1) = c :: r.take i := rfl
    simp only [oneR] at h
    rw [ht]
    simp only [oneR]
    split
    · rename_i hl
      rw [if_pos hl] at h
      simp only [Res.ok.injEq] at h
      obtain ⟨rfl, rfl, rfl⟩ := h
      rw [← ht, spn_take wrdB _ _ hj]
    · rename_i hl
      rw [if_neg hl] at h
      split
      · rename_i hd
        rw [if_pos hd] at h
        have hnl : numLen (c :: r) ≤ i + 1 → numLen (c :: r.take i) = numLen (c :: r) := by
          intro hle
          unfold numLen at hle ⊢
          simp only [List.drop_succ_cons, List.drop_zero] at hle ⊢
          rw [spn_take digB r i (by omega)]
        cases hp : Lib.parseIntB 64 ((c :: r).take (numLen (c :: r))) with
        | ok v =>
          have hs := numR_some (c :: r) v (by rw [hp]; rfl)
          rw [hs] at h
          split at h
          · exact absurd h (by simp)
          · rename_i hv
            split at h
            · exact absurd h (by simp)
            · rename_i hg
              simp only [Res.ok.injEq] at h
              obtain ⟨rfl, rfl, rfl⟩ := h
              have hn2 := hnl hj
              have hp2 : Lib.parseIntB 64 ((c :: r.take i).take (numLen (c :: r.take i))) = .ok v := by
                rw [hn2, ← ht, List.take_take, Nat.min_eq_left hj]; exact hp
              rw [numR_some (c :: r.take i) v (by rw [hp2]; rfl), if_neg hv, hn2, if_neg]
              rw [← ht]
              have : ((c :: r).take (i + 1)).drop (numLen (c :: r)) = ((c :: r).drop (numLen (c :: r))).take (i + 1 - numLen (c :: r)) := List.drop_take ..
              rw [this, goes_take _ _ (by simpa using hg)]
              simp
        | «syntax» => rw [numR_none _ (by rw [hp]; rfl)] at h; exact absurd h (by simp)
        | range => rw [numR_none _ (by rw [hp]; rfl)] at h; exact absurd h (by simp)
      · rename_i hd
        rw [if_neg hd] at h
        split
        · rename_i hq
          rw [if_pos hq] at h
          unfold strR at h ⊢
          simp only [List.drop_succ_cons, List.drop_zero] at h ⊢
          split at h
          · rename_i hh
            simp only [Res.ok.injEq] at h
            obtain ⟨rfl, rfl, rfl⟩ := h
            rw [spn_take inqB r i (by omega), List.drop_take]
            have : ((r.drop (spn inqB r)).take (i - spn inqB r)).head? = some 34 := by
              rw [List.head?_take, if_neg (by omega)]; exact hh
            rw [if_pos this]
          · exact absurd h (by simp)
        · rename_i hq
          rw [if_neg hq] at h
          unfold sgnR at h ⊢
          split at h
          · rename_i ht2
            simp only [Res.ok.injEq] at h
            obtain ⟨rfl, rfl, rfl⟩ := h
            have : twoB (c :: r.take i) = true := by
              cases r with
              | nil => simp [twoB] at ht2
              | cons d q =>
                obtain ⟨i', rfl⟩ : ∃ i', i = i' + 1 := ⟨i - 1, by omega⟩
                exact ht2
            rw [if_pos this]
          · rename_i ht2
            have : ¬ twoB (c :: r.take i) = true := by
              intro h3
              apply ht2
              cases r with
              | nil => simpa using h3
              | cons d q =>
                cases i with
                | zero => simp [twoB] at h3
                | succ i' => exact h3
            rw [if_neg this]
            exact h
/-- The places of tokens, and what stands there. -/
theorem toks_place : ∀ (n : Nat) (l : List UInt8) (a : Nat), l.length ≤ n → ∀ (i : Nat) t, (toks l a).1[i]? = some t → a ≤ t.p ∧ t.p + t.tx.length ≤ a + l.length ∧ (l.drop (t.p - a)).take t.tx.length = t.tx ∧ ∀ u, 0 < i → (toks l a).1[i - 1]? = some u → u.p + u.tx.length ≤ t.p := by
  intro n
  induction n with
  | zero =>
    intro l a hl i t ht
    have : l = [] := List.eq_nil_of_length_eq_zero (by omega)
    subst this
    rw [toks_nil] at ht ⊢
    cases i with
    | zero => simp at ht; subst ht; simp
    | succ i => simp at ht
  | succ n ih =>
    intro l a hl i t ht
    have hsk := skp_le false l
    cases hr : oneR (l.drop (skp false l)) with
    | bad e => rw [toks_bad l a e hr] at ht; simp at ht
    | ok k m v =>
      by_cases h5 : k = 5
      · subst h5
        rw [toks_end l a m v hr] at ht ⊢
        cases i with
        | zero => simp at ht; subst ht; simp
        | succ i => simp at ht
      · rw [toks_next l a k m v hr h5] at ht ⊢
        obtain ⟨hm, hm1, _⟩ := oneR_len _ _ _ _ hr
        have h1 := hm1 h5
        rw [List.length_drop] at hm
        have htl : ((l.drop (skp false l)).take m).length = m := by rw [List.length_take, List.length_drop]; omega
        cases i with
        | zero =>
          simp at ht; subst ht
          refine ⟨by simp, by simp only [htl]; omega, ?_, fun u h => absurd h (by omega)⟩
          simp only [htl]
          rw [show a + skp false l - a = skp false l by omega]
        | succ i =>
          simp only [List.getElem?_cons_succ] at ht
          have hlen : (l.drop (skp false l + m)).length ≤ n := by rw [List.length_drop]; omega
          obtain ⟨i1, i2, i3, i4⟩ := ih (l.drop (skp false l + m)) (a + skp false l + m) hlen i t ht
          rw [List.length_drop] at i2
          refine ⟨by omega, by omega, ?_, ?_⟩
          · rw [List.drop_drop, show skp false l + m + (t.p - (a + skp false l + m)) = t.p - a by omega] at i3
            exact i3
          · intro u _ hu
            simp only [Nat.add_sub_cancel] at hu
            cases i with
            | zero =>
              simp at hu; subst hu
              simp only [htl]; omega
            | succ i =>
              simp only [List.getElem?_cons_succ] at hu
              exact i4 u (by omega) (by simpa using hu)
/-- A beginning that ends at a token's end. -/
theorem toks_pre : ∀ (n : Nat) (l : List UInt8) (a : Nat), l.length ≤ n → (toks l a).2.1 = 0 → ∀ (i : Nat) t, (toks l a).1[i]? = some t → ∀ j, t.p + t.tx.length = a + j → (toks (l.take j) a).2.1 = 0 ∧ (toks (l.take j) a).1.take (i + 1) = (toks l a).1.take (i + 1) := by
  intro n
  induction n with
  | zero =>
    intro l a hl he i t ht j hj
    have : l = [] := List.eq_nil_of_length_eq_zero (by omega)
    subst this
    rw [List.take_nil]
    exact ⟨he, rfl⟩
  | succ n ih =>
    intro l a hl he i t ht j hj
    have hsk := skp_le false l
    cases hr : oneR (l.drop (skp false l)) with
    | bad e => rw [toks_bad l a e hr] at ht; simp at ht
    | ok k m v =>
      by_cases h5 : k = 5
      · subst h5
        have hte := toks_end l a m v hr
        rw [hte] at ht
        have : j = l.length := by
          cases i with
          | zero => simp at ht; subst ht; simp at hj; omega
          | succ i => simp at ht
        subst this
        rw [List.take_length]
        exact ⟨he, rfl⟩
      · obtain ⟨hm, hm1, _⟩ := oneR_len _ _ _ _ hr
        have h1 := hm1 h5
        rw [List.length_drop] at hm
        have htl : ((l.drop (skp false l)).take m).length = m := by rw [List.length_take, List.length_drop]; omega
        have hpl := toks_place (n + 1) l a hl i t ht
        rw [toks_next l a k m v hr h5] at ht he ⊢
        have hjm : skp false l + m ≤ j := by
          cases i with
          | zero => simp at ht; subst ht; simp only [htl] at hj; omega
          | succ i =>
            simp only [List.getElem?_cons_succ] at ht
            have hlen : (l.drop (skp false l + m)).length ≤ n := by rw [List.length_drop]; omega
            have := (toks_place n _ _ hlen i t ht).1
            omega
        have hs2 := skp_take l false j (by omega)
        have hr2 : oneR ((l.take j).drop (skp false (l.take j))) = .ok k m v := by
          rw [hs2, List.drop_take]
          exact oneR_take _ _ _ _ _ hr h5 (by omega)
        have hrest : (l.take j).drop (skp false (l.take j) + m) = (l.drop (skp false l + m)).take (j - (skp false l + m)) := by rw [hs2, List.drop_take]
        have htx : ((l.take j).drop (skp false (l.take j))).take m = (l.drop (skp false l)).take m := by
          rw [hs2, List.drop_take, List.take_take, Nat.min_eq_left (by omega)]
        rw [toks_next (l.take j) a k m v hr2 h5, hrest, htx, hs2]
        cases i with
        | zero =>
          simp at ht; subst ht
          simp only [htl] at hj
          have hj0 : j - (skp false l + m) = 0 := by omega
          rw [hj0, List.take_zero, toks_nil]
          exact ⟨rfl, rfl⟩
        | succ i =>
          simp only [List.getElem?_cons_succ] at ht
          have hlen : (l.drop (skp false l + m)).length ≤ n := by rw [List.length_drop]; omega
          obtain ⟨i1, i2⟩ := ih (l.drop (skp false l + m)) (a + skp false l + m) hlen he i t ht (j - (skp false l + m)) (by omega)
          exact ⟨i1, by simp only [List.take_succ_cons]; rw [i2]⟩
end Go.Proofs.YtokcbiafajpmoaaDoor
