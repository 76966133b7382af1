/-
  What is proved here: what Both of the reference returns of right ranges.
-/
import Derived.Test.YtpgecdhieakilaaGreatDoorZXfj
import Derived.Deep.AppendLies
import Derived.Test.YtpgecdhieakilaaGreatDoorZMathj
import Derived.Deep.Cut
import Derived.Deep.RegionHeldLaw
namespace Go.Proofs.YtpgecdhieakilaaGreatDoor.Dm
open Go.RowKit Go.Shelf
set_option linter.unusedVariables false

theorem own_srl {W : World} {base : Nat} {s : Value} {l : List Rg} (h : W.ownsRow base 161 2 s l.length (flat l)) : Sr W s l := by
  rcases Nat.eq_zero_or_pos l.length with h0 | h0
  · rcases h.2 with ⟨e1, e2⟩ | ⟨g', cap', cur, e1, _⟩
    · exact ⟨none, 0, by rw [e1, h0], fun h1 => by omega⟩
    · exact ⟨_, _, e1, fun h1 => by omega⟩
  · obtain ⟨g, c, rfl, _, h2, h3⟩ := own_some h h0
    refine ⟨_, c, rfl, fun _ => ⟨g, 0, rfl, h2, fun i hi => ?_⟩⟩
    obtain ⟨e1, e2⟩ := flat_even l i hi
    rw [Nat.zero_add]
    exact ⟨h3 _ _ e1, h3 _ _ e2⟩
end Go.Proofs.YtpgecdhieakilaaGreatDoor.Dm

