/-
  What is proved here: what the walk of StoreBack holds; Depth; Within of a domain that became smaller or empty.
-/
import Derived.Test.YtghnfnieppfhgaaGreatMjj
import Derived.Test.YtghnfnieppfhgaaGreatMgj
import Derived.Test.YtghnfnieppfhgaaGreatMe
import Derived.Test.YtghnfnieppfhgaaGreatNaj
import Derived.Test.YtghnfnieppfhgaaGreatFaj
import Derived.Test.YtghnfnieppfhgaaGreatMm
namespace Go.Proofs.YtghnfnieppfhgaaGreat
attribute [local instance] noG
open Go.RowKit Go.Shelf
set_option linter.unusedVariables false
set_option linter.unusedSimpArgs false

theorem tt_szd {x : MD} (h : Tt x) : SzD x := by have q := right_held h.r; exact ⟨by have := q.lo; omega, by have := q.up; omega, by have := q.n; omega⟩
end Go.Proofs.YtghnfnieppfhgaaGreat
