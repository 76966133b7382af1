/-
  What is proved here: the texts of tokens, each with a blank behind it, have the same tokens, but for the places.
-/
import Derived.Test.YtokcbiafajpmoaaDoorNb
import Derived.Lib.ItoaLen
import Derived.Lib.ParseIntBTie
namespace Go.Proofs.YtokcbiafajpmoaaDoor
open Go.RowKit
set_option linter.unusedVariables false
set_option linter.unusedSimpArgs false
/-- A byte that is a digit. -/
def Dig (b : UInt8) : Prop := 48 ≤ b.toNat ∧ b.toNat ≤ 57
instance (b : UInt8) : Decidable (Dig b) := by unfold Dig; infer_instance

theorem digit_byte {d : Nat} (h : d < 10) : (UInt8.ofNat (48 + d)).toNat = 48 + d := by
  rw [UInt8.toNat_ofNat']; omega
theorem dec_digit (u : Nat) : ∀ b ∈ Lib.decDigits u, Dig b := by
  induction u using Nat.strongRecOn with
  | _ u ih =>
    intro b hb
    rw [Lib.decDigits] at hb
    split at hb
    · rename_i h
      simp only [List.mem_singleton] at hb
      subst hb; unfold Dig; rw [digit_byte h]; omega
    · rename_i h
      rw [List.mem_append] at hb
      rcases hb with hb | hb
      · exact ih (u / 10) (by omega) b hb
      · simp only [List.mem_singleton] at hb
        subst hb; unfold Dig; rw [digit_byte (Nat.mod_lt _ (by omega))]; omega
theorem dec_ne (u : Nat) : Lib.decDigits u ≠ [] := by
  intro h
  have := congrArg List.length h
  rw [Lib.decDigits_length] at this
  have := Lib.nDigits_pos u
  simp at *; omega

/-- The number that digits spell. -/
def numV : List UInt8 → Nat → Nat
  | [], acc => acc
  | b :: r, acc => numV r (acc * 10 + (b.toNat - 48))
theorem numV_app (l r : List UInt8) (acc : Nat) : numV (l ++ r) acc = numV r (numV l acc) := by
  induction l generalizing acc with
  | nil => rfl
  | cons b l ih => exact ih _
theorem numV_dec (u : Nat) : numV (Lib.decDigits u) 0 = u := by
  induction u using Nat.strongRecOn with
  | _ u ih =>
    rw [Lib.decDigits]
    split
    · rename_i h
      simp only [numV, digit_byte h]; omega
    · rename_i h
      rw [numV_app, ih (u / 10) (by omega)]
      simp only [numV, digit_byte (Nat.mod_lt u (show 10 > 0 by omega))]; omega
theorem numV_ge (l : List UInt8) (acc : Nat) : acc ≤ numV l acc := by
  induction l generalizing acc with
  | nil => exact Nat.le_refl _
  | cons b r ih => exact Nat.le_trans (by omega) (ih _)
theorem pu_digits (l : List UInt8) (acc : Nat) (h : ∀ b ∈ l, Dig b) (hs : numV l acc ≤ 1000000000) : Lib.parseUint10 acc l = .ok (numV l acc) := by
  induction l generalizing acc with
  | nil => rfl
  | cons b r ih =>
    have hb := h b (by simp)
    unfold Dig at hb
    have hge := numV_ge r (acc * 10 + (b.toNat - 48))
    simp only [numV] at hs ⊢
    rw [Lib.parseUint10, if_pos hb, if_neg (by omega), if_neg (by omega)]
    exact ih _ (fun c hc => h c (by simp [hc])) hs
theorem pm_dec (u : Nat) (hu : u ≤ 1000000000) : Lib.parseMag (Lib.decDigits u) = .ok u := by
  unfold Lib.parseMag
  rw [if_neg (dec_ne u), pu_digits _ _ (dec_digit u) (by rw [numV_dec]; exact hu), numV_dec]
/-- A number that is written is read as it was. -/
theorem atoi_itoa (x : Int) (h0 : -1000000000 ≤ x) (h1 : x ≤ 1000000000) : Lib.parseIntB 64 (Lib.itoa x) = .ok x := by
  rw [Lib.parseIntB_64]
  unfold Lib.itoa
  split
  · rename_i hx
    simp only [Lib.atoiAll]
    rw [if_pos (by decide), pm_dec _ (by omega)]
    simp only [show ((45 : UInt8).toNat = 45) = True by simp, not_true_eq_false, false_and, if_false, true_and, if_true]
    rw [if_neg (by omega)]
    congr 1; omega
  · rename_i hx
    obtain ⟨b, r, hbr⟩ : ∃ b r, Lib.decDigits x.toNat = b :: r := by
      cases h : Lib.decDigits x.toNat with
      | nil => exact absurd h (dec_ne _)
      | cons b r => exact ⟨b, r, rfl⟩
    have hd : Dig b := dec_digit x.toNat b (by rw [hbr]; simp)
    unfold Dig at hd
    have hp := pm_dec x.toNat (by omega)
    rw [hbr] at hp ⊢
    simp only [Lib.atoiAll]
    rw [if_neg (by omega), hp]
    simp only
    rw [if_neg (by omega), if_neg (by omega), if_neg (by omega)]
    congr 1; omega

theorem itoa_signs (x : Int) : ∀ b ∈ Lib.itoa x, b = 45 ∨ Dig b := by
  intro b hb
  unfold Lib.itoa at hb
  split at hb
  · rw [List.mem_cons] at hb
    rcases hb with hb | hb
    · exact Or.inl hb
    · exact Or.inr (dec_digit _ b hb)
  · exact Or.inr (dec_digit _ b hb)

theorem spn_app (p : UInt8 → Bool) (d : UInt8) (r : List UInt8) (hd : p d = false) : ∀ x : List UInt8, (∀ c ∈ x, p c = true) → spn p (x ++ d :: r) = x.length
  | [], _ => by rw [List.nil_append, spn_cons, hd]; rfl
  | c :: x, h => by
    rw [List.cons_append, spn_cons, h c (by simp), spn_app p d r hd x (fun e he => h e (by simp [he]))]; rfl
theorem spn_all (p : UInt8 → Bool) : ∀ (l : List UInt8) (k : Nat), k ≤ spn p l → ∀ c ∈ l.take k, p c = true
  | [], k, _ => by simp
  | c :: r, 0, _ => by simp
  | c :: r, k + 1, h => by
    rw [spn_cons] at h
    split at h
    · rename_i hc
      rw [List.take_succ_cons]
      intro e he
      rcases List.mem_cons.1 he with rfl | he
      · exact hc
      · exact spn_all p r k (by omega) e he
    · omega
theorem dig_of {b : UInt8} (h : Dig b) : digB b = true := by unfold Dig at h; unfold digB; simp [h.1, h.2]
theorem itoa_form (x : Int) : ∃ c r, Lib.itoa x = c :: r ∧ (c.toNat = 45 ∨ digB c = true) ∧ ∀ e ∈ r, digB e = true := by
  unfold Lib.itoa
  split
  · exact ⟨45, _, rfl, .inl rfl, fun e he => dig_of (dec_digit _ e he)⟩
  · cases h : Lib.decDigits x.toNat with
    | nil => exact absurd h (dec_ne _)
    | cons b r => exact ⟨b, r, rfl, .inr (dig_of (dec_digit _ b (by rw [h]; simp))), fun e he => dig_of (dec_digit _ e (by rw [h]; simp [he]))⟩
def txtR (k n : Int) (tx : List UInt8) : List UInt8 := if k = 2 then Lib.itoa n else tx
theorem num_not_let {c : UInt8} (h : c.toNat = 45 ∨ digB c = true) : letB c = false ∧ blkB c = false ∧ c.toNat ≠ 37 := by
  have h2 : c.toNat = 45 ∨ (48 ≤ c.toNat ∧ c.toNat ≤ 57) := by
    rcases h with h | h
    · exact .inl h
    · right; unfold digB at h; simpa using h
  refine ⟨?_, ?_, by omega⟩
  · unfold letB; simp; omega
  · unfold blkB; simp; omega
theorem one_num (c : UInt8) (x r : List UInt8) (n : Int) (hc : c.toNat = 45 ∨ digB c = true) (hx : ∀ e ∈ x, digB e = true) (hn0 : -1000000000 ≤ n) (hn1 : n ≤ 1000000000)
    (hp : Lib.parseIntB 64 (c :: x) = .ok n) : oneR (c :: (x ++ 32 :: r)) = .ok 2 (x.length + 1) n := by
  simp only [oneR]
  rw [(num_not_let hc).1, if_neg (by simp), if_pos hc]
  have hl : numLen (c :: (x ++ 32 :: r)) = x.length + 1 := by
    unfold numLen
    rw [List.drop_succ_cons, List.drop_zero, spn_app digB 32 r (by decide) x hx]
  have ht : (c :: (x ++ 32 :: r)).take (x.length + 1) = c :: x := by rw [List.take_succ_cons, List.take_left]
  rw [numR_some _ n (by rw [hl, ht, hp]; rfl), if_neg (by omega), hl, List.drop_succ_cons, List.drop_left]
  rw [if_neg (by simp [goesB])]
/-- A token's text with a blank behind it begins with just this token. -/
theorem one_join (l : List UInt8) (k : Int) (m : Nat) (n : Int) (h : oneR l = .ok k m n) (h5 : k ≠ 5) (r : List UInt8) :
    oneR (txtR k n (l.take m) ++ 32 :: r) = .ok k (txtR k n (l.take m)).length n ∧ skp false (txtR k n (l.take m) ++ 32 :: r) = 0 := by
  cases l with
  | nil => simp only [oneR, Res.ok.injEq] at h; omega
  | cons c q =>
    simp only [oneR] at h
    split at h
    · rename_i hl
      simp only [Res.ok.injEq] at h
      obtain ⟨rfl, rfl, rfl⟩ := h
      have hw : wrdB c = true := by unfold wrdB; rw [hl]; rfl
      have hs : spn wrdB (c :: q) = spn wrdB q + 1 := by rw [spn_cons, if_pos hw]
      have hx : txtR 1 0 ((c :: q).take (spn wrdB (c :: q))) = c :: q.take (spn wrdB q) := by rw [hs]; rfl
      rw [hx, List.cons_append]
      refine ⟨?_, let_skip _ _ hl⟩
      simp only [oneR]
      rw [if_pos hl, spn_cons, if_pos hw, spn_app wrdB 32 r (by decide) _ (spn_all wrdB q _ (Nat.le_refl _)), List.length_cons]
    · rename_i hl
      split at h
      · rename_i hd
        cases hp : Lib.parseIntB 64 ((c :: q).take (numLen (c :: q))) with
        | ok v =>
          have hs := numR_some (c :: q) v (by rw [hp]; rfl)
          rw [hs] at h
          split at h
          · exact absurd h (by simp)
          · rename_i hv
            split at h
            · exact absurd h (by simp)
            · rename_i hg
              simp only [Res.ok.injEq] at h
              obtain ⟨rfl, rfl, rfl⟩ := h
              have hx : txtR 2 v ((c :: q).take (numLen (c :: q))) = Lib.itoa v := rfl
              rw [hx]
              have hat := atoi_itoa v (by omega) (by omega)
              obtain ⟨d, x, hi, hd, hx⟩ := itoa_form v
              rw [hi] at hat ⊢
              rw [List.cons_append, List.length_cons]
              exact ⟨one_num d x r v hd hx (by omega) (by omega) hat, skp_none _ _ (num_not_let hd).2.1 (num_not_let hd).2.2⟩
        | «syntax» => rw [numR_none _ (by rw [hp]; rfl)] at h; exact absurd h (by simp)
        | range => rw [numR_none _ (by rw [hp]; rfl)] at h; exact absurd h (by simp)
      · rename_i hd
        split at h
        · rename_i hq
          unfold strR at h
          simp only [List.drop_succ_cons, List.drop_zero] at h
          split at h
          · rename_i hh
            simp only [Res.ok.injEq] at h
            obtain ⟨rfl, rfl, rfl⟩ := h
            have hx : txtR 3 0 ((c :: q).take (spn inqB q + 2)) = c :: (q.take (spn inqB q) ++ [34]) := by
              show (c :: q).take (spn inqB q + 1 + 1) = _
              rw [List.take_succ_cons, List.take_add_one]
              rw [List.head?_drop] at hh
              rw [hh]; rfl
            rw [hx]
            have hsz := spn_le inqB q
            have hsp : spn inqB (q.take (spn inqB q) ++ ([34] ++ 32 :: r)) = spn inqB q := by
              rw [show ([34] ++ 32 :: r : List UInt8) = 34 :: 32 :: r from rfl, spn_app inqB 34 (32 :: r) (by decide) _ (spn_all inqB q _ (Nat.le_refl _)), List.length_take]; omega
            have hlt : (q.take (spn inqB q)).length = spn inqB q := by rw [List.length_take]; omega
            rw [List.cons_append, List.append_assoc]
            refine ⟨?_, skp_none _ _ (by unfold blkB; simp; omega) (by omega)⟩
            simp only [oneR]
            rw [if_neg hl, if_neg hd, if_pos hq]
            unfold strR
            simp only [List.drop_succ_cons, List.drop_zero]
            rw [hsp]
            have : (q.take (spn inqB q) ++ ([34] ++ 32 :: r)).drop (spn inqB q) = 34 :: 32 :: r := by
              rw [List.drop_append_of_le_length (by omega), List.drop_of_length_le (by omega)]; rfl
            rw [this, List.head?_cons, if_pos rfl]
            congr 1
            simp [hlt]
          · exact absurd h (by simp)
        · rename_i hq
          unfold sgnR at h
          split at h
          · rename_i ht
            simp only [Res.ok.injEq] at h
            obtain ⟨rfl, rfl, rfl⟩ := h
            cases q with
            | nil => simp [twoB] at ht
            | cons d q =>
              have hx : txtR 4 0 ((c :: d :: q).take 2) = [c, d] := rfl
              rw [hx]
              have ht2 : twoB (c :: d :: 32 :: r) = true := ht
              have hc : c.toNat = 46 ∨ c.toNat = 58 := by
                simp only [twoB, Bool.or_eq_true, Bool.and_eq_true, beq_iff_eq] at ht
                rcases ht with ⟨rfl, _⟩ | ⟨rfl, _⟩
                · exact .inl rfl
                · exact .inr rfl
              show oneR (c :: d :: 32 :: r) = _ ∧ skp false (c :: d :: 32 :: r) = 0
              refine ⟨?_, skp_none _ _ (by unfold blkB; simp; omega) (by omega)⟩
              simp only [oneR]
              rw [if_neg hl, if_neg hd, if_neg hq]
              unfold sgnR
              rw [if_pos ht2]; rfl
          · rename_i ht
            simp only at h
            split at h
            · rename_i hc
              simp only [Res.ok.injEq] at h
              obtain ⟨rfl, rfl, rfl⟩ := h
              have hx : txtR 4 0 ((c :: q).take 1) = [c] := rfl
              rw [hx]
              have hcs : blkB c = false ∧ c.toNat ≠ 37 := by
                have : ∀ e ∈ signs, blkB e = false ∧ e.toNat ≠ 37 := by decide
                exact this c (by simpa using hc)
              show oneR (c :: 32 :: r) = _ ∧ skp false (c :: 32 :: r) = 0
              refine ⟨?_, skp_none _ _ hcs.1 hcs.2⟩
              simp only [oneR]
              rw [if_neg hl, if_neg hd, if_neg hq]
              unfold sgnR
              have ht2 : twoB (c :: 32 :: r) = false := by simp [twoB]
              rw [if_neg (by rw [ht2]; simp)]
              simp only
              rw [if_pos hc]; rfl
            · exact absurd h (by simp)
theorem toks_blank (l : List UInt8) (a : Nat) : toks (32 :: l) a = toks l (a + 1) := by
  have hs : skp false (32 :: l) = 1 + skp false l := skp_blank 32 l (by decide)
  have hd : (32 :: l).drop (skp false (32 :: l)) = l.drop (skp false l) := by rw [hs, Nat.add_comm, List.drop_succ_cons]
  cases h : oneR (l.drop (skp false l)) with
  | bad e => rw [toks_bad _ _ _ h, toks_bad (32 :: l) a e (by rw [hd]; exact h), hs, Nat.add_assoc]
  | ok k m n =>
    by_cases h5 : k = 5
    · subst h5
      rw [toks_end _ _ _ _ h, toks_end (32 :: l) a m n (by rw [hd]; exact h), List.length_cons, show a + (l.length + 1) = a + 1 + l.length by omega]
    · have h2 := toks_next (32 :: l) a k m n (by rw [hd]; exact h) h5
      have hd2 : (32 :: l).drop (skp false (32 :: l) + m) = l.drop (skp false l + m) := by rw [hs, show 1 + skp false l + m = skp false l + m + 1 by omega, List.drop_succ_cons]
      rw [h2, toks_next _ _ _ _ _ h h5, hd, hd2, hs, show a + (1 + skp false l) = a + 1 + skp false l by omega]
def Tok.txt (t : Tok) : List UInt8 := txtR t.k t.n t.tx
def joinT (T : List Tok) : List UInt8 := T.flatMap fun t => t.txt ++ [32]
theorem joinT_cons (t : Tok) (T : List Tok) : joinT (t :: T) = t.txt ++ 32 :: joinT T := by
  unfold joinT; rw [List.flatMap_cons, List.append_assoc]; rfl
def Tok.sig (t : Tok) : Int × Int × List UInt8 := (t.k, t.n, t.txt)
theorem toks_join : ∀ (n : Nat) (l : List UInt8) (a : Nat), l.length ≤ n → (toks l a).2.1 = 0 → ∀ a', (toks (joinT (toks l a).1) a').2.1 = 0 ∧ (toks (joinT (toks l a).1) a').1.map Tok.sig = (toks l a).1.map Tok.sig := by
  intro n
  induction n with
  | zero =>
    intro l a hl he a'
    have : l = [] := List.length_eq_zero_iff.1 (by omega)
    subst this
    rw [toks_nil]
    show (toks (32 :: []) a').2.1 = 0 ∧ (toks (32 :: []) a').1.map Tok.sig = _
    rw [toks_blank, toks_nil]
    exact ⟨rfl, rfl⟩
  | succ n ih =>
    intro l a hl he a'
    cases h : oneR (l.drop (skp false l)) with
    | bad e => rw [toks_bad _ _ _ h] at he; exact absurd he (oneR_bad _ _ h)
    | ok k m nn =>
      by_cases h5 : k = 5
      · subst h5
        rw [toks_end _ _ _ _ h]
        show (toks (32 :: []) a').2.1 = 0 ∧ (toks (32 :: []) a').1.map Tok.sig = _
        rw [toks_blank, toks_nil]
        exact ⟨rfl, rfl⟩
      · have hm := oneR_len _ _ _ _ h
        have hm1 := hm.2.1 h5
        have hml := hm.1
        rw [List.length_drop] at hml
        rw [toks_next _ _ _ _ _ h h5] at he ⊢
        have hi := ih (l.drop (skp false l + m)) (a + skp false l + m) (by rw [List.length_drop]; omega) he
        simp only at hi ⊢
        generalize (toks (l.drop (skp false l + m)) (a + skp false l + m)).1 = T1 at hi ⊢
        rw [joinT_cons]
        obtain ⟨j1, j2⟩ := one_join _ _ _ _ h h5 (joinT T1)
        have hxe : Tok.txt ⟨k, (l.drop (skp false l)).take m, nn, a + skp false l⟩ = txtR k nn ((l.drop (skp false l)).take m) := rfl
        rw [hxe]
        generalize hx : txtR k nn ((l.drop (skp false l)).take m) = x at j1 j2 ⊢
        have h3 := toks_next (x ++ 32 :: joinT T1) a' k x.length nn (by rw [j2, List.drop_zero]; exact j1) h5
        rw [j2, List.drop_zero, Nat.zero_add, List.take_left, List.drop_left, toks_blank] at h3
        rw [h3]
        obtain ⟨i1, i2⟩ := hi (a' + 0 + x.length + 1)
        refine ⟨i1, ?_⟩
        rw [List.map_cons, List.map_cons, i2]
        congr 1
        unfold Tok.sig Tok.txt
        simp only
        rw [hx]
        congr 2
        rw [← hx]
        unfold txtR
        split <;> rfl
/-- The texts joined. -/
theorem all_join (b : List UInt8) (he : (allT b).2.1 = 0) (hj : (joinT (allT b).1).length ≤ 65536) : (allT (joinT (allT b).1)).2.1 = 0 ∧ (allT (joinT (allT b).1)).1.map Tok.sig = (allT b).1.map Tok.sig := by
  have e2 : ∀ J : List UInt8, J.length ≤ 65536 → allT J = toks J 0 := by
    intro J hJ
    unfold allT
    rw [if_neg (by omega)]
  rw [e2 _ hj]
  have hb : ¬ 65536 < b.length := by
    intro hb; unfold allT at he; rw [if_pos hb] at he; simp at he
  have e1 : allT b = toks b 0 := by unfold allT; rw [if_neg hb]
  rw [e1] at he ⊢
  exact toks_join b.length b 0 (Nat.le_refl _) he 0
theorem one_numbers (l : List UInt8) (k : Int) (m : Nat) (n : Int) (h : oneR l = .ok k m n) : -1000000000 ≤ n ∧ n ≤ 1000000000 := by
  cases l with
  | nil => simp only [oneR, Res.ok.injEq] at h; omega
  | cons c q =>
    simp only [oneR] at h
    split at h
    · simp only [Res.ok.injEq] at h; omega
    · split at h
      · cases hp : Lib.parseIntB 64 ((c :: q).take (numLen (c :: q))) with
        | ok v =>
          rw [numR_some (c :: q) v (by rw [hp]; rfl)] at h
          split at h
          · exact absurd h (by simp)
          · split at h
            · exact absurd h (by simp)
            · simp only [Res.ok.injEq] at h; omega
        | «syntax» => rw [numR_none _ (by rw [hp]; rfl)] at h; exact absurd h (by simp)
        | range => rw [numR_none _ (by rw [hp]; rfl)] at h; exact absurd h (by simp)
      · split at h
        · unfold strR at h
          split at h
          · simp only [Res.ok.injEq] at h; omega
          · exact absurd h (by simp)
        · unfold sgnR at h
          split at h
          · simp only [Res.ok.injEq] at h; omega
          · simp only at h
            split at h
            · simp only [Res.ok.injEq] at h; omega
            · exact absurd h (by simp)
theorem toks_numbers : ∀ (n : Nat) (l : List UInt8) (a : Nat), l.length ≤ n → ∀ t ∈ (toks l a).1, -1000000000 ≤ t.n ∧ t.n ≤ 1000000000 := by
  intro n
  induction n with
  | zero =>
    intro l a hl t ht
    have : l = [] := List.length_eq_zero_iff.1 (by omega)
    subst this
    rw [toks_nil] at ht
    simp only [List.mem_singleton] at ht
    subst ht
    simp
  | succ n ih =>
    intro l a hl t ht
    cases h : oneR (l.drop (skp false l)) with
    | bad e => rw [toks_bad _ _ _ h] at ht; simp at ht
    | ok k m nn =>
      by_cases h5 : k = 5
      · subst h5
        rw [toks_end _ _ _ _ h] at ht
        simp only [List.mem_singleton] at ht
        subst ht
        simp
      · have hm := oneR_len _ _ _ _ h
        have hm1 := hm.2.1 h5
        have hml := hm.1
        rw [List.length_drop] at hml
        rw [toks_next _ _ _ _ _ h h5] at ht
        rcases List.mem_cons.1 ht with rfl | ht
        · exact one_numbers _ _ _ _ h
        · exact ih (l.drop (skp false l + m)) (a + skp false l + m) (by rw [List.length_drop]; omega) t ht
theorem all_numbers (b : List UInt8) (t : Tok) (h : t ∈ (allT b).1) : -1000000000 ≤ t.n ∧ t.n ≤ 1000000000 := by
  unfold allT at h
  split at h
  · simp at h
  · exact toks_numbers b.length b 0 (Nat.le_refl _) t h
end Go.Proofs.YtokcbiafajpmoaaDoor
