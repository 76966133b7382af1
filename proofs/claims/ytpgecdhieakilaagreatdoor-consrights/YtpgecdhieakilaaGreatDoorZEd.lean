/-
  What is proved here: what dom.overlaps tells: what two lists of ranges have in common, rising.
-/
import Derived.Test.YtpgecdhieakilaaGreatDoorZXdj
import Derived.Lib.MinMax
import Derived.Deep.RegionHeld3
import Derived.Sort.QuietIn
namespace Go.Proofs.YtpgecdhieakilaaGreatDoor.Dm
open Go.RowKit Go.Shelf
set_option linter.unusedVariables false

attribute [local go_sem] Oper.semAt_some

/-- The box B holds the slice of the ranges l; box and row lie below n₀. -/
def Lists (n₀ : Nat) (W : World) (B : Nat) (l : List Rg) : Prop := ∃ s, B < n₀ ∧ W.cell? ⟨B, 0, none⟩ = some s ∧ ∃ a cap, s = .slice a l.length cap ∧ (0 < l.length → ∃ b off, a = some ⟨b, off, none⟩ ∧ b < n₀ ∧ ∀ i, i < l.length → W.cell? ⟨b, off + i * 2, none⟩ = some (.int .i64 (lo l i)) ∧ W.cell? ⟨b, off + i * 2 + 1, none⟩ = some (.int .i64 (hi l i)))
theorem Lists.below {n₀ : Nat} {W W' : World} {B : Nat} {l : List Rg} (h : Lists n₀ W B l) (hb : Below n₀ W W') : Lists n₀ W' B l := by
  obtain ⟨s, h1, h2, a, cap, h3, h4⟩ := h
  refine ⟨s, h1, (hb.cell (p := ⟨B, 0, none⟩) h1).trans h2, a, cap, h3, fun h0 => ?_⟩
  obtain ⟨b, off, e, hlt, hc⟩ := h4 h0
  exact ⟨b, off, e, hlt, fun i hi => ⟨(hb.cell (p := ⟨b, off + i * 2, none⟩) hlt).trans (hc i hi).1, (hb.cell (p := ⟨b, off + i * 2 + 1, none⟩) hlt).trans (hc i hi).2⟩⟩

end Go.Proofs.YtpgecdhieakilaaGreatDoor.Dm

