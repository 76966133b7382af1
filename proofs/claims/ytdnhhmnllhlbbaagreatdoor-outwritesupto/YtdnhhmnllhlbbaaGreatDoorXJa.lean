/-
  What is proved here: the texts of tokens, each with a blank behind it, have the same tokens, but for the places.
-/
import Derived.Test.YtdnhhmnllhlbbaaGreatDoorXLbj
import Derived.Lib.ItoaLen
import Derived.Lib.ParseIntBTie
namespace Go.Proofs.YtdnhhmnllhlbbaaGreatDoor
open Go.RowKit
set_option linter.unusedVariables false
set_option linter.unusedSimpArgs false
/-- A byte that is a digit. -/
def Dig (b : UInt8) : Prop := 48 ≤ b.toNat ∧ b.toNat ≤ 57
instance (b : UInt8) : Decidable (Dig b) := by unfold Dig; infer_instance

theorem digit_byte {d : Nat} (h : d < 10) : (UInt8.ofNat (48 + d)).toNat = 48 + d := by
  rw [UInt8.toNat_ofNat']; omega
theorem dec_digit (u : Nat) : ∀ b ∈ Lib.decDigits u, Dig b := by
  induction u using Nat.strongRecOn with
  | _ u ih =>
    intro b hb
    rw [Lib.decDigits] at hb
    split at hb
    · rename_i h
      simp only [List.mem_singleton] at hb
      subst hb; unfold Dig; rw [digit_byte h]; omega
    · rename_i h
      rw [List.mem_append] at hb
      rcases hb with hb | hb
      · exact ih (u / 10) (by omega) b hb
      · simp only [List.mem_singleton] at hb
        subst hb; unfold Dig; rw [digit_byte (Nat.mod_lt _ (by omega))]; omega
theorem dec_ne (u : Nat) : Lib.decDigits u ≠ [] := by
  intro h
  have := congrArg List.length h
  rw [Lib.decDigits_length] at this
  have := Lib.nDigits_pos u
  simp at *; omega

/-- The number that digits spell. -/
def numV : List UInt8 → Nat → Nat
  | [], acc => acc
  | b :: r, acc => numV r (acc * 10 + (b.toNat - 48))
theorem numV_app (l r : List UInt8) (acc : Nat) : numV (l ++ r) acc = numV r (numV l acc) := by
  induction l generalizing acc with
  | nil => rfl
  | cons b l ih => exact ih _
theorem numV_dec (u : Nat) : numV (Lib.decDigits u) 0 = u := by
  induction u using Nat.strongRecOn with
  | _ u ih =>
    rw [Lib.decDigits]
    split
    · rename_i h
      simp only [numV, digit_byte h]; omega
    · rename_i h
      rw [numV_app, ih (u / 10) (by omega)]
      simp only [numV, digit_byte (Nat.mod_lt u (show 10 > 0 by omega))]; omega
theorem numV_ge (l : List UInt8) (acc : Nat) : acc ≤ numV l acc := by
  induction l generalizing acc with
  | nil => exact Nat.le_refl _
  | cons b r ih => exact Nat.le_trans (by omega) (ih _)
theorem pu_digits (l : List UInt8) (acc : Nat) (h : ∀ b ∈ l, Dig b) (hs : numV l acc ≤ 1000000000) : Lib.parseUint10 acc l = .ok (numV l acc) := by
  induction l generalizing acc with
  | nil => rfl
  | cons b r ih =>
    have hb := h b (by simp)
    unfold Dig at hb
    have hge := numV_ge r (acc * 10 + (b.toNat - 48))
    simp only [numV] at hs ⊢
    rw [Lib.parseUint10, if_pos hb, if_neg (by omega), if_neg (by omega)]
    exact ih _ (fun c hc => h c (by simp [hc])) hs
theorem pm_dec (u : Nat) (hu : u ≤ 1000000000) : Lib.parseMag (Lib.decDigits u) = .ok u := by
  unfold Lib.parseMag
  rw [if_neg (dec_ne u), pu_digits _ _ (dec_digit u) (by rw [numV_dec]; exact hu), numV_dec]
/-- A number that is written is read as it was. -/
theorem atoi_itoa (x : Int) (h0 : -1000000000 ≤ x) (h1 : x ≤ 1000000000) : Lib.parseIntB 64 (Lib.itoa x) = .ok x := by
  rw [Lib.parseIntB_64]
  unfold Lib.itoa
  split
  · rename_i hx
    simp only [Lib.atoiAll]
    rw [if_pos (by decide), pm_dec _ (by omega)]
    simp only [show ((45 : UInt8).toNat = 45) = True by simp, not_true_eq_false, false_and, if_false, true_and, if_true]
    rw [if_neg (by omega)]
    congr 1; omega
  · rename_i hx
    obtain ⟨b, r, hbr⟩ : ∃ b r, Lib.decDigits x.toNat = b :: r := by
      cases h : Lib.decDigits x.toNat with
      | nil => exact absurd h (dec_ne _)
      | cons b r => exact ⟨b, r, rfl⟩
    have hd : Dig b := dec_digit x.toNat b (by rw [hbr]; simp)
    unfold Dig at hd
    have hp := pm_dec x.toNat (by omega)
    rw [hbr] at hp ⊢
    simp only [Lib.atoiAll]
    rw [if_neg (by omega), hp]
    simp only
    rw [if_neg (by omega), if_neg (by omega), if_neg (by omega)]
    congr 1; omega

theorem itoa_signs (x : Int) : ∀ b ∈ Lib.itoa x, b = 45 ∨ Dig b := by
  intro b hb
  unfold Lib.itoa at hb
  split at hb
  · rw [List.mem_cons] at hb
    rcases hb with hb | hb
    · exact Or.inl hb
    · exact Or.inr (dec_digit _ b hb)
  · exact Or.inr (dec_digit _ b hb)

theorem spn_app (p : UInt8 → Bool) (d : UInt8) (r : List UInt8) (hd : p d = false) : ∀ x : List UInt8, (∀ c ∈ x, p c = true) → spn p (x ++ d :: r) = x.length
  | [], _ => by rw [List.nil_append, spn_cons, hd]; rfl
  | c :: x, h => by
    rw [List.cons_append, spn_cons, h c (by simp), spn_app p d r hd x (fun e he => h e (by simp [he]))]; rfl
theorem dig_of {b : UInt8} (h : Dig b) : digB b = true := by unfold Dig at h; unfold digB; simp [h.1, h.2]
theorem itoa_form (x : Int) : ∃ c r, Lib.itoa x = c :: r ∧ (c.toNat = 45 ∨ digB c = true) ∧ ∀ e ∈ r, digB e = true := by
  unfold Lib.itoa
  split
  · exact ⟨45, _, rfl, .inl rfl, fun e he => dig_of (dec_digit _ e he)⟩
  · cases h : Lib.decDigits x.toNat with
    | nil => exact absurd h (dec_ne _)
    | cons b r => exact ⟨b, r, rfl, .inr (dig_of (dec_digit _ b (by rw [h]; simp))), fun e he => dig_of (dec_digit _ e (by rw [h]; simp [he]))⟩
end Go.Proofs.YtdnhhmnllhlbbaaGreatDoor

