/-
  What is proved here: the mathematics of tokens: what the token at a place is, and the tokens of a text, with what is used of them.
-/
import Derived.Test.YtokcbiafajpmoaaDoorProg
import Derived.WalkKit
import Derived.Lib.ParseIntBTie
namespace Go.Proofs.YtokcbiafajpmoaaDoor
open Go.RowKit
set_option linter.unusedVariables false
set_option linter.unusedSimpArgs false
/-- What a walk must not look into. -/
def Hid (p : Prop) : Prop := p
theorem Hid.out {p : Prop} (h : Hid p) : p := h
def letB (c : UInt8) : Bool := decide (97 ≤ c.toNat) && decide (c.toNat ≤ 122) || decide (65 ≤ c.toNat) && decide (c.toNat ≤ 90) || decide (c.toNat = 95)
def digB (c : UInt8) : Bool := decide (48 ≤ c.toNat) && decide (c.toNat ≤ 57)
def wrdB (c : UInt8) : Bool := letB c || digB c
def blkB (c : UInt8) : Bool := decide (c.toNat = 32) || decide (c.toNat = 9) || decide (c.toNat = 10) || decide (c.toNat = 13)
/-- How many bytes at a text's beginning are such. -/
def spn (p : UInt8 → Bool) : List UInt8 → Nat
  | [] => 0
  | c :: r => if p c then spn p r + 1 else 0
theorem spn_nil (p : UInt8 → Bool) : spn p [] = 0 := rfl
theorem spn_cons (p : UInt8 → Bool) (c : UInt8) (r : List UInt8) : spn p (c :: r) = if p c then spn p r + 1 else 0 := rfl
theorem spn_le (p : UInt8 → Bool) : ∀ l, spn p l ≤ l.length
  | [] => Nat.le_refl _
  | c :: r => by
    rw [spn_cons]
    split
    · have := spn_le p r; simp; omega
    · omega
theorem spn_drop (p : UInt8 → Bool) (l : List UInt8) (k : Nat) (h : k ≤ spn p l) : spn p l = k + spn p (l.drop k) := by
  induction k generalizing l with
  | zero => simp
  | succ k ih =>
    cases l with
    | nil => simp [spn] at h
    | cons c r =>
      rw [spn_cons] at h ⊢
      split at h
      · rename_i hp
        rw [if_pos hp]
        have := ih r (by omega)
        simp only [List.drop_succ_cons]
        omega
      · omega
theorem spn_at (p : UInt8 → Bool) (l : List UInt8) (k : Nat) (c : UInt8) (hk : k ≤ spn p l) (hc : l[k]? = some c) : (k < spn p l ↔ p c = true) := by
  have h := spn_drop p l k hk
  have e : l.drop k = c :: l.drop (k + 1) := by
    obtain ⟨h1, h2⟩ := List.getElem?_eq_some_iff.1 hc
    rw [List.drop_eq_getElem_cons h1, h2]
  rw [e, spn_cons] at h
  constructor
  · intro hlt
    rw [h] at hlt
    by_cases hp : p c = true
    · exact hp
    · rw [if_neg hp] at hlt; omega
  · intro hp
    rw [if_pos hp] at h
    omega
theorem spn_of (p : UInt8 → Bool) (l : List UInt8) (k : Nat) (h1 : ∀ j c, j < k → l[j]? = some c → p c = true) (hk : k ≤ l.length) (h2 : k = l.length ∨ ∃ c, l[k]? = some c ∧ p c = false) : spn p l = k := by
  have hle : k ≤ spn p l := by
    induction k with
    | zero => omega
    | succ k ih =>
      have hlt : k < l.length := by omega
      have ih' : k ≤ spn p l := by
        clear ih h2
        induction k with
        | zero => omega
        | succ k ih2 =>
          have i2 := ih2 (fun j c hj => h1 j c (by omega)) (by omega) (by omega)
          have := (spn_at p l k _ i2 (List.getElem?_eq_getElem (by omega))).2 (h1 k _ (by omega) (List.getElem?_eq_getElem (by omega)))
          omega
      have := (spn_at p l k _ ih' (List.getElem?_eq_getElem hlt)).2 (h1 k _ (by omega) (List.getElem?_eq_getElem hlt))
      omega
  rcases h2 with h2 | ⟨c, hc, hp⟩
  · have := spn_le p l; omega
  · have := spn_at p l k c hle hc
    have h3 : ¬ k < spn p l := fun h => by have h4 := this.1 h; rw [hp] at h4; exact Bool.noConfusion h4
    omega
/-- How many bytes of blanks and comments there are; true: within a comment. -/
def skp : Bool → List UInt8 → Nat
  | _, [] => 0
  | false, c :: r => if blkB c then skp false r + 1 else if c.toNat = 37 then skp true r + 1 else 0
  | true, c :: r => if c.toNat = 10 then skp false r + 1 else skp true r + 1
theorem skp_fc (c : UInt8) (r : List UInt8) : skp false (c :: r) = if blkB c then skp false r + 1 else if c.toNat = 37 then skp true r + 1 else 0 := rfl
theorem skp_tc (c : UInt8) (r : List UInt8) : skp true (c :: r) = if c.toNat = 10 then skp false r + 1 else skp true r + 1 := rfl
def lnB (c : UInt8) : Bool := decide (c.toNat ≠ 10)
theorem skp_line : ∀ l, skp true l = spn lnB l + skp false (l.drop (spn lnB l))
  | [] => rfl
  | c :: r => by
    rw [spn_cons, skp_tc]
    by_cases h : c.toNat = 10
    · have hb : blkB c = true := by simp [blkB, h]
      have hl : lnB c = false := by simp [lnB, h]
      rw [if_pos h, hl]
      simp [skp_fc, hb]
    · have hl : lnB c = true := by simp [lnB, h]
      rw [if_neg h, hl, skp_line r]
      simp
      omega
theorem skp_blank (c : UInt8) (r : List UInt8) (h : blkB c = true) : skp false (c :: r) = 1 + skp false r := by
  rw [skp_fc, if_pos h]; omega
theorem skp_com (c : UInt8) (r : List UInt8) (h : c.toNat = 37) : skp false (c :: r) = spn lnB (c :: r) + skp false ((c :: r).drop (spn lnB (c :: r))) := by
  have hb : blkB c = false := by simp [blkB, h]
  have hl : lnB c = true := by simp [lnB, h]
  rw [skp_fc, spn_cons, hb, if_pos h, hl, skp_line r]
  simp
  omega
theorem skp_none (c : UInt8) (r : List UInt8) (h : blkB c = false) (h2 : c.toNat ≠ 37) : skp false (c :: r) = 0 := by
  rw [skp_fc, h, if_neg h2]; simp
theorem skp_le : ∀ (b : Bool) (l : List UInt8), skp b l ≤ l.length
  | _, [] => by cases ‹Bool› <;> exact Nat.le_refl _
  | false, c :: r => by
    rw [skp_fc]
    have h1 := skp_le false r
    have h2 := skp_le true r
    simp only [List.length_cons]
    split
    · omega
    · split <;> omega
  | true, c :: r => by
    rw [skp_tc]
    have h1 := skp_le false r
    have h2 := skp_le true r
    simp only [List.length_cons]
    split <;> omega
def bdig : List UInt8 → Bool
  | [] => false
  | c :: _ => digB c
def sgnB (c : UInt8) : Bool := decide (c.toNat = 45) || decide (c.toNat = 43)
def bsgn : List UInt8 → Bool
  | [] => false
  | d :: q => sgnB d && bdig q
/-- Is a number a float by what stands behind its digits? -/
def goesB : List UInt8 → Bool
  | [] => false
  | c :: r => if c.toNat = 46 then bdig r else if c.toNat = 101 ∨ c.toNat = 69 then bdig r || bsgn r else false
/-- What begins at a place: a token's kind, its length and its number; or an error. -/
inductive Res
  | ok (k : Int) (len : Nat) (n : Int)
  | bad (e : Int)
def numLen (l : List UInt8) : Nat := spn digB (l.drop 1) + 1
def numR (l : List UInt8) : Res :=
  match Lib.parseIntB 64 (l.take (numLen l)) with
  | .ok v => if v < -1000000000 ∨ 1000000000 < v then .bad 150 else if goesB (l.drop (numLen l)) then .bad 173 else .ok 2 (numLen l) v
  | _ => .bad 150
def inqB (c : UInt8) : Bool := decide (c.toNat ≠ 34) && decide (c.toNat ≠ 10)
def strR (l : List UInt8) : Res :=
  if (l.drop (spn inqB (l.drop 1) + 1)).head? = some 34 then .ok 3 (spn inqB (l.drop 1) + 2) 0 else .bad 150
def signs : List UInt8 := [59, 58, 44, 40, 41, 91, 93, 123, 125, 61]
def twoB : List UInt8 → Bool
  | c :: d :: _ => c == 46 && d == 46 || c == 58 && d == 58
  | _ => false
def sgnR (l : List UInt8) : Res :=
  if twoB l then .ok 4 2 0 else match l with
    | c :: _ => if signs.contains c then .ok 4 1 0 else .bad 150
    | [] => .bad 150
def oneR (l : List UInt8) : Res :=
  match l with
  | [] => .ok 5 0 0
  | c :: _ => if letB c then .ok 1 (spn wrdB l) 0 else if c.toNat = 45 ∨ digB c = true then numR l else if c.toNat = 34 then strR l else sgnR l
/-- A token. -/
structure Tok where
  k : Int
  tx : List UInt8
  n : Int
  p : Nat
def toksF : Nat → List UInt8 → Nat → List Tok × Int × Nat
  | 0, _, _ => ([], 0, 0)
  | f + 1, l, a =>
    match oneR (l.drop (skp false l)) with
    | .bad e => ([], e, a + skp false l)
    | .ok k m n =>
      if k = 5 then ([⟨k, (l.drop (skp false l)).take m, n, a + skp false l⟩], 0, 0)
      else (⟨k, (l.drop (skp false l)).take m, n, a + skp false l⟩ :: (toksF f (l.drop (skp false l + m)) (a + skp false l + m)).1, (toksF f (l.drop (skp false l + m)) (a + skp false l + m)).2)
theorem head_len {l : List UInt8} {c : UInt8} (h : l.head? = some c) : 1 ≤ l.length := by cases l with
  | nil => simp at h
  | cons => simp
theorem oneR_len (l : List UInt8) (k : Int) (m : Nat) (n : Int) (h : oneR l = .ok k m n) : m ≤ l.length ∧ (k ≠ 5 → 1 ≤ m) ∧ (k = 5 ↔ l = []) := by
  cases l with
  | nil => simp only [oneR, Res.ok.injEq] at h; obtain ⟨rfl, rfl, rfl⟩ := h; simp
  | cons c r =>
    simp only [oneR] at h
    split at h
    · rename_i hl
      simp only [Res.ok.injEq] at h
      obtain ⟨rfl, rfl, rfl⟩ := h
      have hw : wrdB c = true := by simp [wrdB, hl]
      refine ⟨spn_le _ _, fun _ => ?_, by simp⟩
      rw [spn_cons, if_pos hw]; omega
    · split at h
      · unfold numR at h
        split at h
        · split at h
          · exact absurd h (by simp)
          · split at h
            · exact absurd h (by simp)
            · simp only [Res.ok.injEq] at h
              obtain ⟨rfl, rfl, rfl⟩ := h
              have := spn_le digB ((c :: r).drop 1)
              simp only [numLen, List.drop_succ_cons, List.drop_zero, List.length_cons] at this ⊢
              exact ⟨by omega, fun _ => by omega, by simp⟩
        · exact absurd h (by simp)
      · split at h
        · unfold strR at h
          split at h
          · rename_i hh
            simp only [Res.ok.injEq] at h
            obtain ⟨rfl, rfl, rfl⟩ := h
            have := head_len hh
            rw [List.length_drop] at this
            exact ⟨by omega, fun _ => by omega, by simp⟩
          · exact absurd h (by simp)
        · unfold sgnR at h
          split at h
          · rename_i ht
            simp only [Res.ok.injEq] at h
            obtain ⟨rfl, rfl, rfl⟩ := h
            refine ⟨?_, fun _ => by omega, by simp⟩
            cases r with
            | nil => simp [twoB] at ht
            | cons => simp
          · simp only at h
            split at h
            · simp only [Res.ok.injEq] at h
              obtain ⟨rfl, rfl, rfl⟩ := h
              exact ⟨by simp, fun _ => by omega, by simp⟩
            · exact absurd h (by simp)
theorem toksF_more : ∀ (f g : Nat) (l : List UInt8) (a : Nat), l.length < f → l.length < g → toksF f l a = toksF g l a
  | 0, _, l, a, h, _ => absurd h (Nat.not_lt_zero _)
  | _ + 1, 0, l, a, _, h => absurd h (Nat.not_lt_zero _)
  | f + 1, g + 1, l, a, h1, h2 => by
    unfold toksF
    split
    · rfl
    · rename_i k m n hr
      split
      · rfl
      · rename_i h5
        obtain ⟨hm, hm1, _⟩ := oneR_len _ _ _ _ hr
        have := hm1 h5
        have hl : (l.drop (skp false l + m)).length < l.length := by
          rw [List.length_drop] at hm ⊢; omega
        rw [toksF_more f g _ _ (by omega) (by omega)]
/-- The tokens of a text that begins at a place, ahead of the first fault, and that fault. -/
def toks (l : List UInt8) (a : Nat) : List Tok × Int × Nat := toksF (l.length + 1) l a
theorem toks_bad (l : List UInt8) (a : Nat) (e : Int) (h : oneR (l.drop (skp false l)) = .bad e) : toks l a = ([], e, a + skp false l) := by
  unfold toks toksF; rw [h]
theorem toks_end (l : List UInt8) (a : Nat) (m : Nat) (n : Int) (h : oneR (l.drop (skp false l)) = .ok 5 m n) : toks l a = ([⟨5, [], 0, a + l.length⟩], 0, 0) := by
  have h5 := (oneR_len _ _ _ _ h).2.2.1 rfl
  have hs : skp false l = l.length := by
    have h1 := List.length_drop (i := skp false l) (l := l)
    rw [h5] at h1
    have := skp_le false l
    simp at h1; omega
  rw [h5] at h
  simp only [oneR, Res.ok.injEq] at h
  obtain ⟨_, rfl, rfl⟩ := h
  unfold toks toksF
  rw [h5]
  simp [oneR, hs]
theorem toks_next (l : List UInt8) (a : Nat) (k : Int) (m : Nat) (n : Int) (h : oneR (l.drop (skp false l)) = .ok k m n) (h5 : k ≠ 5) :
    toks l a = (⟨k, (l.drop (skp false l)).take m, n, a + skp false l⟩ :: (toks (l.drop (skp false l + m)) (a + skp false l + m)).1, (toks (l.drop (skp false l + m)) (a + skp false l + m)).2) := by
  obtain ⟨hm, hm1, _⟩ := oneR_len _ _ _ _ h
  have := hm1 h5
  have hl : (l.drop (skp false l + m)).length < l.length := by
    rw [List.length_drop] at hm ⊢; omega
  unfold toks
  rw [toksF_more ((l.drop (skp false l + m)).length + 1) l.length _ _ (by omega) hl]
  rw [toksF, h]
  simp only [if_neg h5]
/-- What comes of a text. -/
def allT (b : List UInt8) : List Tok × Int × Nat := if 65536 < b.length then ([], 3, 0) else toks b 0
end Go.Proofs.YtokcbiafajpmoaaDoor
