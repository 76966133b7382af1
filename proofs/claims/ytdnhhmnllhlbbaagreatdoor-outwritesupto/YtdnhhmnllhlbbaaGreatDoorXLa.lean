/-
  What is proved here: the mathematics of tokens: what the token at a place is, and the tokens of a text, with what is used of them.
-/
import Derived.Test.YtdnhhmnllhlbbaaGreatDoorProg
import Derived.WalkKit
import Derived.Lib.ParseIntBTie
namespace Go.Proofs.YtdnhhmnllhlbbaaGreatDoor
open Go.RowKit
set_option linter.unusedVariables false
set_option linter.unusedSimpArgs false
/-- What a walk must not look into. -/
def letB (c : UInt8) : Bool := decide (97 ≤ c.toNat) && decide (c.toNat ≤ 122) || decide (65 ≤ c.toNat) && decide (c.toNat ≤ 90) || decide (c.toNat = 95)
def digB (c : UInt8) : Bool := decide (48 ≤ c.toNat) && decide (c.toNat ≤ 57)
def wrdB (c : UInt8) : Bool := letB c || digB c
/-- How many bytes at a text's beginning are such. -/
def spn (p : UInt8 → Bool) : List UInt8 → Nat
  | [] => 0
  | c :: r => if p c then spn p r + 1 else 0
theorem spn_cons (p : UInt8 → Bool) (c : UInt8) (r : List UInt8) : spn p (c :: r) = if p c then spn p r + 1 else 0 := rfl
theorem spn_le (p : UInt8 → Bool) : ∀ l, spn p l ≤ l.length
  | [] => Nat.le_refl _
  | c :: r => by
    rw [spn_cons]
    split
    · have := spn_le p r; simp; omega
    · omega
theorem spn_drop (p : UInt8 → Bool) (l : List UInt8) (k : Nat) (h : k ≤ spn p l) : spn p l = k + spn p (l.drop k) := by
  induction k generalizing l with
  | zero => simp
  | succ k ih =>
    cases l with
    | nil => simp [spn] at h
    | cons c r =>
      rw [spn_cons] at h ⊢
      split at h
      · rename_i hp
        rw [if_pos hp]
        have := ih r (by omega)
        simp only [List.drop_succ_cons]
        omega
      · omega
theorem spn_at (p : UInt8 → Bool) (l : List UInt8) (k : Nat) (c : UInt8) (hk : k ≤ spn p l) (hc : l[k]? = some c) : (k < spn p l ↔ p c = true) := by
  have h := spn_drop p l k hk
  have e : l.drop k = c :: l.drop (k + 1) := by
    obtain ⟨h1, h2⟩ := List.getElem?_eq_some_iff.1 hc
    rw [List.drop_eq_getElem_cons h1, h2]
  rw [e, spn_cons] at h
  constructor
  · intro hlt
    rw [h] at hlt
    by_cases hp : p c = true
    · exact hp
    · rw [if_neg hp] at hlt; omega
  · intro hp
    rw [if_pos hp] at h
    omega
end Go.Proofs.YtdnhhmnllhlbbaaGreatDoor

