/-
  What is proved here: the value told may be written in another way.
-/
import Derived.Test.YtacnhkaibcjjgaaGreatDoorTc
namespace Go.Proofs.YtacnhkaibcjjgaaGreatDoor
open Go.RowKit Go.Shelf
set_option linter.unusedVariables false
set_option linter.unusedSimpArgs false

theorem eqc {P : Program} {F : Nat} {args : Array Value} {W : World} {b c : Bool} {Q : World → Prop} (h : b = c) (k : Calls P F args W fun e w' => e = .returned (.bool b) ∧ Q w') : Calls P F args W fun e w' => e = .returned (.bool c) ∧ Q w' := by
  subst h; exact k

end Go.Proofs.YtacnhkaibcjjgaaGreatDoor
