/-
  What is proved here: asMany of arguments that have as many terms.
-/
import Derived.Test.YtaeobgajhieajaaGreatDoorDr
import Derived.Test.YtaeobgajhieajaaGreatDoorDq
namespace Go.Proofs.YtaeobgajhieajaaGreatDoor
open Go.RowKit Go.Shelf
set_option linter.unusedVariables false
set_option linter.unusedSimpArgs false

set_option maxRecDepth 100000 in
set_option maxHeartbeats 4000000 in
theorem asMany_yes {B0 : Nat} {W : World} {a8 : Option Addr} {c8 n m : Nat} {ags : List Ag} (h : Sa B0 W (.slice a8 n c8) ags) (hlen : ags.length = n) (hn : n ≤ 1000000000000) (hl : ∀ g ∈ ags, g.l.length = m) :
    Calls Tryz.prog 73 #[.slice a8 n c8] W fun e w' => e = .returned (.bool true) ∧ Below W.heap.size W w' := by
  have HA : Hid (Sa B0 W (.slice a8 n c8) ags) := h
  have HN : Hid (ags.length = n) := hlen
  have HL : Hid (∀ g ∈ ags, g.l.length = m) := hl
  clear h hlen hl
  go_enter Tryz.func73, Tryz.ntmps73
  go_wp2
  go_loopw [7] (fun i wr => ∃ k : Nat, k ≤ n ∧ i = .int .i64 (k : Int) ∧ Hid (Below W.heap.size W wr)) (fun i _ => n - (intOf i).toNat)
  case atStart => exact ⟨0, Nat.zero_le _, rfl, Below.refl _ _⟩
  case round =>
    obtain ⟨k, hk, rfl, HB⟩ := hrel
    by_cases hlt : k < n
    · have hlt' : (k : Int) < n := by omega
      have hpos : (0 : Int) < n := by omega
      obtain ⟨g, hg⟩ : ∃ g, ags[k]? = some g := ⟨_, List.getElem?_eq_getElem (by rw [HN.out]; exact hlt)⟩
      obtain ⟨g0, hg0⟩ : ∃ g, ags[0]? = some g := ⟨_, List.getElem?_eq_getElem (by rw [HN.out]; omega)⟩
      obtain ⟨b, off, a2, c2, rfl, hb, _, d0, d1⟩ := HA.out.at hg
      obtain ⟨b', off', a3, c3, e3, _, _, d2, d3⟩ := HA.out.at hg0
      injection e3 with e3
      injection e3 with e4 e5
      subst e4; subst e5
      rw [HL.out g (List.mem_of_getElem? hg)] at d1
      rw [HL.out g0 (List.mem_of_getElem? hg0)] at d3
      rw [Nat.zero_mul, Nat.add_zero] at d3
      have hbA : Below wr.heap.size wr (wr.alloc (Obj.cells #[.bool g.arr, .slice a2 m c2] 54)) := (Below.refl _ wr).alloc (Nat.le_refl _) _
      have hBA := HB.out.trans (hbA.mono HB.out.size)
      have HBA : Hid (Below W.heap.size W (wr.alloc (Obj.cells #[.bool g.arr, .slice a2 m c2] 54))) := hBA
      have y0 := (HB.out.cell (p := ⟨b, off + k * 2, none⟩) hb).trans d0
      have y1 := (HB.out.cell (p := ⟨b, off + k * 2 + 1, none⟩) hb).trans d1
      have y3 := (hBA.cell (p := ⟨b, off + 1, none⟩) hb).trans d3
      clear d0 d1 d2 d3 hg hg0 hbA hBA
      have hw2 : IntKind.i64.wrap ((k : Int) + 1) = (k : Int) + 1 := by rw [IntKind.wrap_i64]; omega
      go_upto_region 4 with (fail)
      go_quiet (fail)
      go_wp2
      go_roundw
      case rel => exact ⟨k + 1, by omega, by go_num, below_drewN HBA.out _⟩
      case measure => simp [intOf]; omega
    · have hlt' : ¬ (k : Int) < n := by omega
      obtain rfl : k = n := by omega
      go_wp2
      go_ret
      exact ⟨rfl, HB.out⟩
end Go.Proofs.YtaeobgajhieajaaGreatDoor
