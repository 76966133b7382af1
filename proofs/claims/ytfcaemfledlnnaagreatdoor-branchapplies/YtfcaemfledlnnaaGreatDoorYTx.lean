/-
  What is proved here: plain mathematics of sets as text: digits, numbers, parts between commas, and that they are read again.
-/
import Derived.Test.YtfcaemfledlnnaaGreatDoorYSa
import Derived.Lib.ItoaLen
import Derived.Lib.ParseIntBTie
import Derived.Lib.SplitLaws
import Derived.Lib.SlTrimSet
namespace Go.Proofs.YtfcaemfledlnnaaGreatDoor.St
set_option linter.unusedVariables false
set_option linter.unusedSimpArgs false

/-- A byte that is a digit. -/
def Dig (b : UInt8) : Prop := 48 ≤ b.toNat ∧ b.toNat ≤ 57
instance (b : UInt8) : Decidable (Dig b) := by unfold Dig; infer_instance

theorem digit_byte {d : Nat} (h : d < 10) : (UInt8.ofNat (48 + d)).toNat = 48 + d := by
  rw [UInt8.toNat_ofNat']; omega
theorem dec_digit (u : Nat) : ∀ b ∈ Lib.decDigits u, Dig b := by
  induction u using Nat.strongRecOn with
  | _ u ih =>
    intro b hb
    rw [Lib.decDigits] at hb
    split at hb
    · rename_i h
      simp only [List.mem_singleton] at hb
      subst hb; unfold Dig; rw [digit_byte h]; omega
    · rename_i h
      rw [List.mem_append] at hb
      rcases hb with hb | hb
      · exact ih (u / 10) (by omega) b hb
      · simp only [List.mem_singleton] at hb
        subst hb; unfold Dig; rw [digit_byte (Nat.mod_lt _ (by omega))]; omega
theorem dec_ne (u : Nat) : Lib.decDigits u ≠ [] := by
  intro h
  have := congrArg List.length h
  rw [Lib.decDigits_length] at this
  have := Lib.nDigits_pos u
  simp at *; omega

/-- The number that digits spell. -/
def numV : List UInt8 → Nat → Nat
  | [], acc => acc
  | b :: r, acc => numV r (acc * 10 + (b.toNat - 48))
theorem numV_app (l r : List UInt8) (acc : Nat) : numV (l ++ r) acc = numV r (numV l acc) := by
  induction l generalizing acc with
  | nil => rfl
  | cons b l ih => exact ih _
theorem numV_dec (u : Nat) : numV (Lib.decDigits u) 0 = u := by
  induction u using Nat.strongRecOn with
  | _ u ih =>
    rw [Lib.decDigits]
    split
    · rename_i h
      simp only [numV, digit_byte h]; omega
    · rename_i h
      rw [numV_app, ih (u / 10) (by omega)]
      simp only [numV, digit_byte (Nat.mod_lt u (show 10 > 0 by omega))]; omega
theorem numV_ge (l : List UInt8) (acc : Nat) : acc ≤ numV l acc := by
  induction l generalizing acc with
  | nil => exact Nat.le_refl _
  | cons b r ih => exact Nat.le_trans (by omega) (ih _)
theorem pu_digits (l : List UInt8) (acc : Nat) (h : ∀ b ∈ l, Dig b) (hs : numV l acc ≤ 1000000000) : Lib.parseUint10 acc l = .ok (numV l acc) := by
  induction l generalizing acc with
  | nil => rfl
  | cons b r ih =>
    have hb := h b (by simp)
    unfold Dig at hb
    have hge := numV_ge r (acc * 10 + (b.toNat - 48))
    simp only [numV] at hs ⊢
    rw [Lib.parseUint10, if_pos hb, if_neg (by omega), if_neg (by omega)]
    exact ih _ (fun c hc => h c (by simp [hc])) hs
theorem pm_dec (u : Nat) (hu : u ≤ 1000000000) : Lib.parseMag (Lib.decDigits u) = .ok u := by
  unfold Lib.parseMag
  rw [if_neg (dec_ne u), pu_digits _ _ (dec_digit u) (by rw [numV_dec]; exact hu), numV_dec]
/-- A number that is written is read as it was. -/
theorem atoi_itoa (x : Int) (h0 : -1000000 ≤ x) (h1 : x ≤ 1000000) : Lib.parseIntB 64 (Lib.itoa x) = .ok x := by
  rw [Lib.parseIntB_64]
  unfold Lib.itoa
  split
  · rename_i hx
    simp only [Lib.atoiAll]
    rw [if_pos (by decide), pm_dec _ (by omega)]
    simp only [show ((45 : UInt8).toNat = 45) = True by simp, not_true_eq_false, false_and, if_false, true_and, if_true]
    rw [if_neg (by omega)]
    congr 1; omega
  · rename_i hx
    obtain ⟨b, r, hbr⟩ : ∃ b r, Lib.decDigits x.toNat = b :: r := by
      cases h : Lib.decDigits x.toNat with
      | nil => exact absurd h (dec_ne _)
      | cons b r => exact ⟨b, r, rfl⟩
    have hd : Dig b := dec_digit x.toNat b (by rw [hbr]; simp)
    unfold Dig at hd
    have hp := pm_dec x.toNat (by omega)
    rw [hbr] at hp ⊢
    simp only [Lib.atoiAll]
    rw [if_neg (by omega), hp]
    simp only
    rw [if_neg (by omega), if_neg (by omega), if_neg (by omega)]
    congr 1; omega

theorem itoa_signs (x : Int) : ∀ b ∈ Lib.itoa x, b = 45 ∨ Dig b := by
  intro b hb
  unfold Lib.itoa at hb
  split at hb
  · rw [List.mem_cons] at hb
    rcases hb with hb | hb
    · exact Or.inl hb
    · exact Or.inr (dec_digit _ b hb)
  · exact Or.inr (dec_digit _ b hb)
theorem itoa_no (x : Int) (c : UInt8) (h : c.toNat = 44 ∨ c.toNat = 46 ∨ c.toNat = 123 ∨ c.toNat = 125) : c ∉ Lib.itoa x := by
  intro hc
  rcases itoa_signs x c hc with rfl | hd
  · revert h; decide
  · unfold Dig at hd; omega

/-! ### The first place of a sign -/

theorem index_cons (b : UInt8) (l sub : List UInt8) : Lib.index (b :: l) sub = if sub.isPrefixOf (b :: l) then 0 else if Lib.index l sub == -1 then -1 else Lib.index l sub + 1 := by rw [Lib.index]
theorem index_no (l : List UInt8) (c : UInt8) (t : List UInt8) (h : c ∉ l) : Lib.index l (c :: t) = -1 := by
  induction l with
  | nil => rfl
  | cons b l ih =>
    have hb : c ≠ b := fun e => h (by simp [e])
    rw [index_cons, ih (fun e => h (by simp [e]))]
    simp [List.isPrefixOf, hb]
theorem index_at (l : List UInt8) (c : UInt8) (t r : List UInt8) (h : c ∉ l) : Lib.index (l ++ (c :: t ++ r)) (c :: t) = (l.length : Int) := by
  induction l with
  | nil =>
    have : (c :: t).isPrefixOf (c :: t ++ r) = true := List.isPrefixOf_iff_prefix.2 (List.prefix_append _ _)
    rw [List.nil_append, List.cons_append] at *
    rw [index_cons, if_pos this]; rfl
  | cons b l ih =>
    have hb : c ≠ b := fun e => h (by simp [e])
    rw [List.cons_append, index_cons, ih (fun e => h (by simp [e]))]
    have h1 : ((l.length : Int) == -1) = false := by rw [beq_eq_false_iff_ne]; omega
    simp [List.isPrefixOf, hb, h1]

/-! ### Parts between commas -/

def joinT : List (List UInt8) → List UInt8
  | [] => []
  | [p] => p
  | p :: q :: r => p ++ 44 :: joinT (q :: r)
theorem joinT_cons (p : List UInt8) (ps : List (List UInt8)) (h : ps ≠ []) : joinT (p :: ps) = p ++ 44 :: joinT ps := by
  cases ps with
  | nil => exact absurd rfl h
  | cons q r => rfl
theorem joinT_snoc (ps : List (List UInt8)) (p : List UInt8) : joinT (ps ++ [p]) = joinT ps ++ (if ps = [] then [] else [44]) ++ p := by
  induction ps with
  | nil => simp [joinT]
  | cons q r ih =>
    cases r with
    | nil => simp [joinT]
    | cons s t =>
      rw [List.cons_append, joinT_cons _ _ (by simp), ih, joinT_cons q (s :: t) (by simp)]
      simp
theorem count_none (l : List UInt8) (h : (44 : UInt8) ∉ l) : Lib.count l [44] = 0 := by
  rw [Lib.count_one]; exact List.count_eq_zero.2 h
theorem split_join (ps : List (List UInt8)) (h0 : ps ≠ []) (h : ∀ p ∈ ps, (44 : UInt8) ∉ p) : Lib.split (joinT ps) [44] = ps := by
  unfold Lib.split
  induction ps with
  | nil => exact absurd rfl h0
  | cons p r ih =>
    cases r with
    | nil =>
      rw [show joinT [p] = p from rfl, count_none p (h p (by simp))]; rfl
    | cons q t =>
      have hp := h p (by simp)
      have hc : Lib.count (joinT (p :: q :: t)) [44] = Lib.count (joinT (q :: t)) [44] + 1 := by
        rw [Lib.count_one, Lib.count_one, joinT_cons p (q :: t) (by simp), List.count_append, List.count_cons_self, List.count_eq_zero.2 hp]; omega
      have hi := index_at p 44 [] (joinT (q :: t)) hp
      rw [hc, Lib.splitK]
      have e : joinT (p :: q :: t) = p ++ ([44] ++ joinT (q :: t)) := by rw [joinT_cons p (q :: t) (by simp)]; rfl
      rw [e]
      have hi' : Lib.index (p ++ ([44] ++ joinT (q :: t))) [44] = (p.length : Int) := hi
      rw [hi', if_neg (by simp)]
      have ih' := ih (by simp) (fun p' hp' => h p' (by simp [hp']))
      have e2 : List.drop (p.length + 1) (p ++ ([44] ++ joinT (q :: t))) = joinT (q :: t) := by rw [← List.drop_drop, List.drop_left]; rfl
      have e1 : List.take p.length (p ++ ([44] ++ joinT (q :: t))) = p := List.take_left
      simp only [Int.toNat_natCast, Nat.add_zero, List.length_singleton]
      rw [e1, e2, ih']


/-! ### Sets as text -/

def txS (l : List Int) : Nat → List UInt8
  | 0 => [123]
  | k + 1 => txS l k ++ (if 0 < k then [44] else []) ++ Lib.itoa (nth l k)
/-- A set as text. -/
def stx (l : List Int) : List UInt8 := txS l l.length ++ [125]
def sparts (l : List Int) : List (List UInt8) := l.map Lib.itoa
theorem txS_join (l : List Int) (k : Nat) (h : k ≤ l.length) : txS l k = 123 :: joinT (sparts (l.take k)) := by
  induction k with
  | zero => rfl
  | succ k ih =>
    have hk : k < l.length := h
    rw [txS, ih (by omega), List.take_succ_eq_append_getElem hk]
    unfold sparts
    rw [List.map_append, List.map_singleton, joinT_snoc]
    have e : (List.map Lib.itoa (l.take k) = []) ↔ ¬ 0 < k := by
      rw [List.map_eq_nil_iff, List.take_eq_nil_iff]
      constructor
      · rintro (h | h)
        · omega
        · subst h; simp at hk
      · intro h; left; omega
    by_cases h0 : 0 < k
    · rw [if_pos h0, if_neg (fun h => e.1 h h0)]
      simp [nth, hk]
    · rw [if_neg h0, if_pos (e.2 h0)]
      simp [nth, hk]
theorem stx_is (l : List Int) : stx l = 123 :: (joinT (sparts l) ++ [125]) := by unfold stx; rw [txS_join l _ (Nat.le_refl _), List.take_length]; rfl
theorem joinT_mem (ps : List (List UInt8)) (c : UInt8) (h : ∀ p ∈ ps, c ∉ p) (h44 : c ≠ 44) : c ∉ joinT ps := by
  induction ps with
  | nil => simp [joinT]
  | cons p r ih =>
    cases r with
    | nil => exact h p (by simp)
    | cons q t =>
      rw [joinT_cons p (q :: t) (by simp), List.mem_append, List.mem_cons]
      rintro (h1 | h1 | h1)
      · exact h p (by simp) h1
      · exact h44 h1
      · exact ih (fun p' hp' => h p' (by simp [hp'])) h1
theorem sparts_no (l : List Int) (c : UInt8) (h : c.toNat = 123 ∨ c.toNat = 125) : c ∉ joinT (sparts l) := by
  refine joinT_mem _ c (fun p hp => ?_) (fun e => by subst e; revert h; decide)
  unfold sparts at hp
  obtain ⟨x, _, rfl⟩ := List.mem_map.1 hp
  exact itoa_no x c (by omega)
theorem itoa_ne (x : Int) : Lib.itoa x ≠ [] := by
  unfold Lib.itoa
  split
  · simp
  · exact dec_ne _
theorem joinT_ne (l : List Int) (h : 0 < l.length) : joinT (sparts l) ≠ [] := by
  cases l with
  | nil => simp at h
  | cons x r =>
    cases r with
    | nil => exact itoa_ne x
    | cons y t =>
      show joinT (Lib.itoa x :: sparts (y :: t)) ≠ []
      rw [joinT_cons _ _ (by simp [sparts])]
      intro e
      have := congrArg List.length e
      simp at this
/-- What stands between the braces. -/
theorem trim_stx (l : List Int) (h : 0 < l.length) : Lib.trimS (stx l) [123, 125] = joinT (sparts l) := by
  rw [stx_is]
  have h1 := sparts_no l 123 (.inl rfl)
  have h2 := sparts_no l 125 (.inr rfl)
  have hne := joinT_ne l h
  obtain ⟨m, hm⟩ : ∃ m, joinT (sparts l) = m := ⟨_, rfl⟩
  rw [hm] at h1 h2 hne ⊢
  have hc : ∀ b ∈ m, ([123, 125] : List UInt8).contains b = false := by
    intro b hb
    simp only [List.contains_cons, List.contains_nil, Bool.or_false, Bool.or_eq_false_iff, beq_eq_false_iff_ne]
    exact ⟨fun e => h1 (e ▸ hb), fun e => h2 (e ▸ hb)⟩
  have hlen : 0 < m.length := List.length_pos_iff.2 hne
  unfold Lib.trimS
  have e1 : Lib.trimRightS (123 :: (m ++ [125])) [123, 125] = 123 :: m := by
    rw [Lib.trimRightS_take _ _ (m.length + 1) (by simp) (fun j b hj hb => ?_) (fun b _ hb => ?_)]
    · simp
    · have hj' : j = m.length + 1 := by
        have := (List.getElem?_eq_some_iff.1 hb).1
        simp at this; omega
      subst hj'
      simp at hb
      subst hb; rfl
    · have : (123 :: (m ++ [125]))[m.length + 1 - 1]? = some (m[m.length - 1]'(by omega)) := by
        rw [show m.length + 1 - 1 = (m.length - 1) + 1 by omega, List.getElem?_cons_succ, List.getElem?_append_left (by omega), List.getElem?_eq_getElem (by omega)]
      rw [this] at hb
      rw [← Option.some.inj hb]
      exact hc _ (List.getElem_mem _)
  rw [e1, Lib.trimLeftS_drop _ _ 1 (by simp) (fun j b hj hb => ?_) (fun b hb => ?_)]
  · rfl
  · have : j = 0 := by omega
    subst this
    simp at hb; subst hb; rfl
  · rw [List.getElem?_cons_succ, List.getElem?_eq_getElem hlen] at hb
    rw [← Option.some.inj hb]
    exact hc _ (List.getElem_mem _)
theorem split_stx (l : List Int) (h : 0 < l.length) : Lib.split (joinT (sparts l)) [44] = sparts l := by
  refine split_join _ ?_ ?_
  · unfold sparts; intro e; have := congrArg List.length e; simp at this; subst this; simp at h
  · intro p hp
    unfold sparts at hp
    obtain ⟨x, _, rfl⟩ := List.mem_map.1 hp
    exact itoa_no x 44 (by decide)
def okv : Lib.NumEnd Int → Option Int
  | .ok v => some v
  | _ => none
/-- The number of a part. -/
def prn (p : List UInt8) : Option Int := okv (Lib.parseIntB 64 p)
theorem prn_parts (l : List Int) (hR : IsSet l) : ∀ i (h : i < (sparts l).length), prn ((sparts l)[i]) = l[i]? := by
  intro i h
  have hi' : i < l.length := by simpa [sparts] using h
  have ho := hR.2 i hi'
  unfold SetAt at ho
  simp only [sparts, List.getElem_map]
  rw [List.getElem?_eq_getElem hi']
  have e1 : nth l i = l[i] := by simp [nth, hi']
  rw [e1] at ho
  unfold prn
  rw [atoi_itoa _ ho.1 ho.2.1]; rfl
theorem stx_inj {l m : List Int} (hl : IsSet l) (hm : IsSet m) (h0 : 0 < l.length) (h1 : 0 < m.length) (h : stx l = stx m) : l = m := by
  have e1 := split_stx l h0
  have e2 := split_stx m h1
  rw [← trim_stx l h0, h, trim_stx m h1, e2] at e1
  have hlen : m.length = l.length := by have := congrArg List.length e1; simpa [sparts] using this
  refine List.ext_getElem? fun i => ?_
  by_cases hi' : i < l.length
  · rw [← prn_parts l hl i (by simpa [sparts] using hi'), ← prn_parts m hm i (by simp [sparts]; omega)]
    congr 1
    simp only [e1]
  · rw [List.getElem?_eq_none (by omega), List.getElem?_eq_none (by omega)]
theorem stx_head (l : List Int) (h : 0 < l.length) : stx l ≠ [123, 125] := by
  rw [stx_is]
  intro e
  have hne := joinT_ne l h
  have hlen : 0 < (joinT (sparts l)).length := List.length_pos_iff.2 hne
  have := congrArg List.length e
  simp only [List.length_cons, List.length_append, List.length_nil] at this
  omega
end Go.Proofs.YtfcaemfledlnnaaGreatDoor.St

