/-
  What is proved here: the walk of SetsAlgebra, part 0.
-/
import Derived.Test.YtcnipgdpefipdaaGreatDoorAa
import Derived.Test.YtcnipgdpefipdaaGreatDoorAb
import Derived.Lib.ItoaLen
namespace Go.Proofs.YtcnipgdpefipdaaGreatDoor
open Go.RowKit Go.Shelf
set_option linter.unusedVariables false
set_option linter.unusedSimpArgs false

theorem txS_len {l : List Int} (hl : IsSet l) : ∀ k, k ≤ l.length → (txS l k).length ≤ 1 + 22 * k
  | 0, _ => by simp [txS]
  | k + 1, h => by
    have ih := txS_len hl k (by omega)
    have hk : nth l k ∈ l := by simp only [nth, List.getD_eq_getElem?_getD, List.getElem?_eq_getElem (show k < l.length by omega), Option.getD_some]; exact List.getElem_mem _
    have hm := set_mem hl _ hk
    have hi := Lib.itoa_length_le (nth l k) (by omega) (by omega)
    unfold txS
    simp only [List.length_append]
    split <;> simp <;> omega
theorem stx_short {a : List Int} (ha : IsSet a) : (stx a).length ≤ 65536 := by
  have h1 := txS_len ha a.length (Nat.le_refl _)
  have h2 := ha.1
  unfold stx
  rw [List.length_append]
  simp
  omega
theorem parse_back {a : List Int} {e : Ending} {B : Nat} {w : World} (ha : IsSet a) (h : ParsE (stx a) e B w) : ∃ p n c, e = .returned (.tuple #[.slice p n c, .int .i64 0]) ∧ Si w (.slice p n c) a := by
  rcases h with ⟨h, _⟩ | ⟨_, h, rfl⟩ | ⟨_, hne, (⟨l, v, hl, h0, hs, rfl, hrow⟩ | ⟨hno, _⟩)⟩
  · have := stx_short ha; omega
  · have h0 : a = [] := by
      cases a with
      | nil => rfl
      | cons x r =>
        exact absurd h (stx_head _ (by simp))
    subst h0
    exact ⟨none, 0, 0, rfl, Si.nil _⟩
  · have h0a : 0 < a.length := by
      cases a with
      | nil => exact absurd rfl hne
      | cons x r => simp
    obtain rfl := stx_inj hl ha h0 h0a hs
    obtain ⟨p, c, rfl⟩ := own_slice hrow
    exact ⟨p, _, c, rfl, own_si hrow⟩
  · rcases Nat.eq_zero_or_pos a.length with h0 | h0
    · obtain rfl := List.eq_nil_of_length_eq_zero h0
      exact absurd rfl hne
    · exact absurd rfl (hno a ha h0)
end Go.Proofs.YtcnipgdpefipdaaGreatDoor
