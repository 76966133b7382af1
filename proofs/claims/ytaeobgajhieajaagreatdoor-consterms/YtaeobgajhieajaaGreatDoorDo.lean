/-
  What is proved here: slices.IndexFunc and slices.ContainsFunc of arguments of which none is too long.
-/
import Derived.Test.YtaeobgajhieajaaGreatDoorDn
namespace Go.Proofs.YtaeobgajhieajaaGreatDoor
open Go.RowKit Go.Shelf
set_option linter.unusedVariables false
set_option linter.unusedSimpArgs false

set_option maxRecDepth 100000 in
set_option maxHeartbeats 4000000 in
theorem indexF {B0 : Nat} {W : World} {a8 : Option Addr} {c8 n : Nat} {ags : List Ag} (h : Sa B0 W (.slice a8 n c8) ags) (hlen : ags.length = n) (hn : n ≤ 1000000000000) (hl : ∀ g ∈ ags, g.l.length ≤ 1000) :
    Calls Tryz.prog 69 #[.slice a8 n c8, .func (.func 49) #[] #[]] W fun e w' => e = .returned (.int .i64 (-1)) ∧ Below W.heap.size W w' := by
  have HA : Hid (Sa B0 W (.slice a8 n c8) ags) := h
  have HN : Hid (ags.length = n) := hlen
  have HL : Hid (∀ g ∈ ags, g.l.length ≤ 1000) := hl
  clear h hlen hl
  go_enter Tryz.func69, Tryz.ntmps69
  go_wp2
  go_loopw [8] (fun i wr => ∃ k : Nat, k ≤ n ∧ i = .int .i64 (k : Int) ∧ Hid (Below W.heap.size W wr)) (fun i _ => n - (intOf i).toNat)
  case atStart => exact ⟨0, Nat.zero_le _, rfl, Below.refl _ _⟩
  case round =>
    obtain ⟨k, hk, rfl, HB⟩ := hrel
    by_cases hlt : k < n
    · have hlt' : (k : Int) < n := by omega
      obtain ⟨g, hg⟩ : ∃ g, ags[k]? = some g := ⟨_, List.getElem?_eq_getElem (by rw [HN.out]; exact hlt)⟩
      obtain ⟨b, off, a2, c2, rfl, hb, _, d0, d1⟩ := HA.out.at hg
      have y0 := (HB.out.cell (p := ⟨b, off + k * 2, none⟩) hb).trans d0
      have y1 := (HB.out.cell (p := ⟨b, off + k * 2 + 1, none⟩) hb).trans d1
      have hgl := HL.out g (List.mem_of_getElem? hg)
      have hsh := fun X => tooLong_any g a2 c2 hgl X
      clear d0 d1 hg
      have hw2 : IntKind.i64.wrap ((k : Int) + 1) = (k : Int) + 1 := by rw [IntKind.wrap_i64]; omega
      go_wp2_with fail
      refine (hsh _).mono ?_
      rintro e w1 ⟨rfl, hb1⟩
      have HB1 : Hid (Below W.heap.size W w1) := HB.out.trans (hb1.mono HB.out.size)
      clear hb1 hsh
      go_wp2
      go_roundw
      case rel => exact ⟨k + 1, by omega, by go_num, HB1⟩
      case measure => simp [intOf]; omega
    · have hlt' : ¬ (k : Int) < n := by omega
      obtain rfl : k = n := by omega
      go_wp2
      go_ret
      exact ⟨rfl, HB.out⟩

set_option maxRecDepth 100000 in
set_option maxHeartbeats 4000000 in
theorem containsF {B0 : Nat} {W : World} {a8 : Option Addr} {c8 n : Nat} {ags : List Ag} (h : Sa B0 W (.slice a8 n c8) ags) (hlen : ags.length = n) (hn : n ≤ 1000000000000) (hl : ∀ g ∈ ags, g.l.length ≤ 1000) :
    Calls Tryz.prog 48 #[.slice a8 n c8, .func (.func 49) #[] #[]] W fun e w' => e = .returned (.bool false) ∧ Below W.heap.size W w' := by
  have k := indexF h hlen hn hl
  clear h hlen hl
  go_enter Tryz.func48, Tryz.ntmps48
  go_wp2_with fail
  refine k.mono ?_
  rintro e w1 ⟨rfl, hb1⟩
  go_wp2
  go_ret
  exact ⟨rfl, hb1⟩
end Go.Proofs.YtaeobgajhieajaaGreatDoor
