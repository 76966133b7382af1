/-
  What is proved here: slices.Clone of ranges and of words; dom.Each.
-/
import Derived.Test.YthkliicmoandmaaGreatDoorZXbj
import Derived.Lib.SliceRun
import Derived.Lib.Walk
namespace Go.Proofs.YthkliicmoandmaaGreatDoor.Dm
set_option linter.unusedSimpArgs false
set_option linter.unusedVariables false
open Go.RowKit Go.Shelf

def flat (l : List Rg) : List Value := l.flatMap fun r => [.int .i64 r.1, .int .i64 r.2]
theorem flat_length (l : List Rg) : (flat l).length = l.length * 2 := by
  unfold flat; induction l with
  | nil => rfl
  | cons a t ih => rw [List.flatMap_cons, List.length_append, ih]; simp; omega
theorem flat_even (l : List Rg) : ∀ i, i < l.length → (flat l)[i * 2]? = some (.int .i64 (lo l i)) ∧ (flat l)[i * 2 + 1]? = some (.int .i64 (hi l i)) := by
  induction l with
  | nil => intro i hi; simp at hi
  | cons a t ih =>
    intro i hi'
    cases i with
    | zero => simp [flat, lo, hi]
    | succ i =>
      have := ih i (by simpa using hi')
      have e : flat (a :: t) = .int .i64 a.1 :: .int .i64 a.2 :: flat t := by simp [flat]
      rw [e, show (i + 1) * 2 = i * 2 + 1 + 1 from by omega]
      simpa [lo, hi] using this

end Go.Proofs.YthkliicmoandmaaGreatDoor.Dm

