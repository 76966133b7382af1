/-
  What is proved here: what the reference's Alike tells of slices with the same ranges; what its Lent makes.
-/
import Derived.Test.YtogankopiechcaaZYd
namespace Go.Proofs.Ytogankopiechcaa.Dm
set_option linter.unusedSimpArgs false
set_option linter.unusedVariables false
open Go.RowKit Go.Shelf

theorem Sr.drawn {W : World} {s : Value} {l : List Rg} (h : Sr W s l) (n : Nat) : Sr (W.drewN n) s l := h
theorem own_capsR {W : World} {base g n cap : Nat} {xs : List Value} (h : W.ownsRow base 65 2 (.slice (some ⟨g, 0, none⟩) n cap) n xs) : n ≤ cap ∧ cap ≤ 9223372036854775807 := by
  rcases h.2 with ⟨h1, _⟩ | ⟨g', cap', cur, e, _, _, hc, hm, _⟩
  · cases h1
  · injection e with _ _ e3; subst e3; unfold maxLen at hm; exact ⟨hc, by omega⟩
end Go.Proofs.Ytogankopiechcaa.Dm

