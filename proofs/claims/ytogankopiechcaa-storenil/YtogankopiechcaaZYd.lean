/-
  What is proved here: the reference's Right of right ranges; the ranges of a set that was made of ranges are these.
-/
import Derived.Test.YtogankopiechcaaZXf
import Derived.Test.YtogankopiechcaaZMb
namespace Go.Proofs.Ytogankopiechcaa.Dm
set_option linter.unusedSimpArgs false
set_option linter.unusedVariables false
open Go.RowKit Go.Shelf

/-- Is v a value? -/
def inV (v : Int) : Bool := decide (-1000000 ≤ v ∧ v ≤ 1000000)
theorem inV_yes {v : Int} (h1 : -1000000 ≤ v) (h2 : v ≤ 1000000) : inV v = true := by unfold inV; simp; omega
theorem inV_no {v : Int} (h : ¬ (-1000000 ≤ v ∧ v ≤ 1000000)) : inV v = false := by unfold inV; exact decide_eq_false h
theorem own_sr {W : World} {base : Nat} {s : Value} {l : List Rg} (h : W.ownsRow base 65 2 s l.length (flat l)) (h0 : 0 < l.length) : Sr W s l := by
  obtain ⟨g, cap, rfl, _, hlt, hc⟩ := own_some h h0
  refine ⟨_, cap, rfl, fun _ => ⟨g, 0, rfl, hlt, fun i hi => ?_⟩⟩
  obtain ⟨d1, d2⟩ := flat_even l i hi
  exact ⟨by rw [Nat.zero_add]; exact hc _ _ d1, by rw [Nat.zero_add]; exact hc _ _ d2⟩
end Go.Proofs.Ytogankopiechcaa.Dm

