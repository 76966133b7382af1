/-
  What is proved here: what sets.begun.with returns.
-/
import Derived.OrdersHeld
import Derived.OrdersIn
import Derived.Test.YtghnfnieppfhgaaGreatYSfj
import Derived.Deep.MidRow
namespace Go.Proofs.YtghnfnieppfhgaaGreat.St
open Go.RowKit Go.Shelf
set_option linter.unusedVariables false
set_option linter.unusedSimpArgs false


end Go.Proofs.YtghnfnieppfhgaaGreat.St

