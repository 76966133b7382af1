/-
  What is proved here: plain mathematics of ranges of numbers, of the values in them, and of bits in words.
-/
import Derived.WalkKit
namespace Go.Proofs.YtfcaemfledlnnaaDoor.Dm
set_option linter.unusedSimpArgs false
set_option linter.unusedVariables false

abbrev Rg := Int × Int
def lo (l : List Rg) (i : Nat) : Int := (l[i]?.getD (0, 0)).1
def hi (l : List Rg) (i : Nat) : Int := (l[i]?.getD (0, 0)).2
def OkAt (l : List Rg) (i : Nat) : Prop := lo l i ≤ hi l i ∧ -1000000 ≤ lo l i ∧ hi l i ≤ 1000000 ∧ (0 < i → hi l (i - 1) + 1 < lo l i)
instance (l : List Rg) (i : Nat) : Decidable (OkAt l i) := by unfold OkAt; infer_instance
/-- Ranges are right. -/
def Right (l : List Rg) : Prop := l.length ≤ 4096 ∧ ∀ i, i < l.length → OkAt l i

instance (l : List Rg) : Decidable (Right l) := by unfold Right; infer_instance
/-- Are ranges right? -/
def rightB (l : List Rg) : Bool := decide (Right l)
theorem rightB_yes {l : List Rg} (h : Right l) : rightB l = true := by unfold rightB; simpa using h
theorem rightB_no {l : List Rg} (h : ¬ Right l) : rightB l = false := by unfold rightB; simpa using h

end Go.Proofs.YtfcaemfledlnnaaDoor.Dm


