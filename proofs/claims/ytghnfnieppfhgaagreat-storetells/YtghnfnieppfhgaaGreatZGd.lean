/-
  What is proved here: the algebra of ranges: both, either, less and not, as sets of values, and how many values they have (mathematics alone).
-/
import Derived.Test.YtghnfnieppfhgaaGreatZEfj
import Derived.Lib.AppendZerosOnto
import Derived.WalkMore
namespace Go.Proofs.YtghnfnieppfhgaaGreat.Dm
set_option linter.unusedSimpArgs false
set_option linter.unusedVariables false
set_option linter.unusedVariables false

theorem sizeR_vals {l : List Rg} (h : ∀ r ∈ l, r.1 ≤ r.2) : sizeR l = ((vals l).length : Int) := by
  induction l with
  | nil => rfl
  | cons r t ih =>
    have e : vals (r :: t) = span r.1 r.2 ++ vals t := by unfold vals; rw [List.flatMap_cons]
    have hr := h r (by simp)
    have it := ih fun q hq => h q (by simp [hq])
    rw [e, List.length_append, span_length]
    unfold sizeR at it ⊢
    rw [List.map_cons, List.sum_cons, it]
    omega
end Go.Proofs.YtghnfnieppfhgaaGreat.Dm

