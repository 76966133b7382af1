/-
  What is proved here: what sets.begun.with returns.
-/
import Derived.OrdersHeld
import Derived.OrdersIn
import Derived.Test.YtghnfnieppfhgaaGreatYSfj
import Derived.Deep.MidRow
namespace Go.Proofs.YtghnfnieppfhgaaGreat.St
open Go.RowKit Go.Shelf
set_option linter.unusedVariables false
set_option linter.unusedSimpArgs false

theorem cell_row {W : World} {g : Nat} {cur : Array Value} {t : TypeId} (h : W.heap[g]? = some (.cells cur t (0, 0))) (j : Nat) : W.cell? ⟨g, j, none⟩ = cur[j]? := by simp [World.cell?, h]

end Go.Proofs.YtghnfnieppfhgaaGreat.St

