/-
  What is proved here: what dom.overlaps tells: what two lists of ranges have in common, rising.
-/
import Derived.Test.YtaeobgajhieajaaGreatDoorZEc
import Derived.Lib.MinMax
import Derived.Deep.RegionHeld3
import Derived.Sort.QuietIn
namespace Go.Proofs.YtaeobgajhieajaaGreatDoor.Dm
open Go.RowKit Go.Shelf
set_option linter.unusedVariables false

attribute [local go_sem] Oper.semAt_some

theorem wp_calm {P : Program} {c : Code} {K : Act → World → Prop} {Q : Exit → Act → World → Prop} {a : Act} {w : World} (h : c.wp P (Exit.then K (fun _ _ _ => False)) a w) : c.wp P (Exit.then K Q) a w :=
  Code.wp_mono (fun e a w h => by cases e <;> first | exact h | exact (h : False).elim) h

theorem grown_drew (W : World) : W.grownBy W.drew none := ⟨rfl, rfl, rfl, Nat.le_refl _, fun _ _ _ => rfl⟩
theorem grown_drewN (W : World) (n : Nat) : W.grownBy (W.drewN n) none := ⟨rfl, rfl, rfl, Nat.le_refl _, fun _ _ _ => rfl⟩
/-- All ways through a region come to one place. -/
theorem wp_one {P : Program} {c : Code} {K : Act → World → Prop} {a : Act} {w : World} (act : Act) (wld : World) (h : c.wp P (Exit.then (fun a' w' => a' = act ∧ w' = wld) (fun _ _ _ => False)) a w) (hK : Exit.then K (fun _ _ _ => False) .normal act wld) : c.wp P (Exit.then K (fun _ _ _ => False)) a w :=
  Code.wp_mono (fun e a w h => by cases e <;> first | (obtain ⟨rfl, rfl⟩ := h; exact hK) | exact (h : False).elim) h

/-- The box B holds the slice of the ranges l; box and row lie below n₀. -/
def Lists (n₀ : Nat) (W : World) (B : Nat) (l : List Rg) : Prop := ∃ s, B < n₀ ∧ W.cell? ⟨B, 0, none⟩ = some s ∧ ∃ a cap, s = .slice a l.length cap ∧ (0 < l.length → ∃ b off, a = some ⟨b, off, none⟩ ∧ b < n₀ ∧ ∀ i, i < l.length → W.cell? ⟨b, off + i * 2, none⟩ = some (.int .i64 (lo l i)) ∧ W.cell? ⟨b, off + i * 2 + 1, none⟩ = some (.int .i64 (hi l i)))
theorem Lists.below {n₀ : Nat} {W W' : World} {B : Nat} {l : List Rg} (h : Lists n₀ W B l) (hb : Below n₀ W W') : Lists n₀ W' B l := by
  obtain ⟨s, h1, h2, a, cap, h3, h4⟩ := h
  refine ⟨s, h1, (hb.cell (p := ⟨B, 0, none⟩) h1).trans h2, a, cap, h3, fun h0 => ?_⟩
  obtain ⟨b, off, e, hlt, hc⟩ := h4 h0
  exact ⟨b, off, e, hlt, fun i hi => ⟨(hb.cell (p := ⟨b, off + i * 2, none⟩) hlt).trans (hc i hi).1, (hb.cell (p := ⟨b, off + i * 2 + 1, none⟩) hlt).trans (hc i hi).2⟩⟩

theorem ov_rok {a : List Rg} (ha : ∀ i, i < a.length → -1000000 ≤ lo a i ∧ hi a i ≤ 1000000) {i : Nat} (h : i < a.length) (y1 y2 : Int) (hle : max (lo a i) y1 ≤ min (hi a i) y2) : Rok (max (lo a i) y1, min (hi a i) y2) := by
  have := ha i h
  refine ⟨?_, hle, ?_⟩ <;> dsimp only <;> omega
theorem ov1_yes (x1 x2 y1 y2 : Int) (h : max x1 y1 ≤ min x2 y2) : ov1 (x1, x2) (y1, y2) = [(max x1 y1, min x2 y2)] := by
  unfold ov1 mx mn
  simp only [← Int.max_def, ← Int.min_def]
  rw [if_pos h]
theorem ov1_no (x1 x2 y1 y2 : Int) (h : ¬ max x1 y1 ≤ min x2 y2) : ov1 (x1, x2) (y1, y2) = [] := by
  unfold ov1 mx mn
  simp only [← Int.max_def, ← Int.min_def]
  rw [if_neg h]

end Go.Proofs.YtaeobgajhieajaaGreatDoor.Dm

