/-
  What is proved here: fits, at the name int_lin_le.
-/
import Derived.Test.YtaeobgajhieajaaGreatDoorDs
namespace Go.Proofs.YtaeobgajhieajaaGreatDoor
open Go.RowKit Go.Shelf
set_option linter.unusedVariables false
set_option linter.unusedSimpArgs false
theorem Sa.take {B : Nat} {W : World} {a : Option Addr} {n c k : Nat} {ags : List Ag} (h : Sa B W (.slice a n c) ags) (hk : k ≤ ags.length) : Sa B W (.slice a k c) (ags.take k) := by
  obtain ⟨a0, c0, e, h⟩ := h
  injection e with ea en ec
  subst ea; subst ec
  refine ⟨_, _, by rw [List.length_take, Nat.min_eq_left hk], fun h0 => ?_⟩
  rw [List.length_take, Nat.min_eq_left hk] at h0
  obtain ⟨b, off, svl, e1, e0, e2, e3, e4⟩ := h (by omega)
  refine ⟨b, off, svl.take k, e1, e0, e2, by simp; omega, fun i g sv h1 h2 => ?_⟩
  rw [List.getElem?_take] at h1 h2
  split at h1
  · rename_i hi
    rw [if_pos hi] at h2
    exact e4 i g sv h1 h2
  · simp at h1

set_option maxRecDepth 100000 in
set_option maxHeartbeats 4000000 in
theorem fits_lin {B0 : Nat} {W : World} {a8 : Option Addr} {c8 n m : Nat} {ags : List Ag} (h : Sa B0 W (.slice a8 n c8) ags) (hlen : ags.length = n) (hn : n ≤ 1000000000000) (h2 : 2 ≤ n) (hc : n ≤ c8) (hl : ∀ g ∈ ags.take 2, g.l.length = m) :
    Calls Tryz.prog 51 #[.agg #[.string ⟨#[105, 110, 116, 95, 108, 105, 110, 95, 108, 101]⟩, .slice a8 n c8]] W fun e w' => e = .returned (.bool true) ∧ Below W.heap.size W w' := by
  obtain ⟨b, off, rfl⟩ : ∃ b off, a8 = some ⟨b, off, none⟩ := by
    obtain ⟨g0, hg0⟩ : ∃ g, ags[0]? = some g := ⟨_, List.getElem?_eq_getElem (by omega)⟩
    obtain ⟨b, off, _, _, e, _⟩ := h.at hg0
    exact ⟨b, off, e⟩
  have hT := h.take (k := 2) (by omega)
  have k := Any.strings_HasPrefix Tryz.laysHasPrefix68 ⟨#[105, 110, 116, 95, 108, 105, 110, 95, 108, 101]⟩ ⟨#[105, 110, 116, 95, 108, 105, 110, 95]⟩
  have hbA : Below W.heap.size W (W.alloc (Obj.cells #[.string ⟨#[105, 110, 116, 95, 108, 105, 110, 95, 108, 101]⟩, .slice (some ⟨b, off, none⟩) n c8] 32)) := (Below.refl _ W).alloc (Nat.le_refl _) _
  have kA := asMany_yes (hT.below hbA) (by rw [List.length_take]; omega) (by omega) hl
  have HBA : Hid _ := hbA
  clear h hT hl hbA
  go_enter Tryz.func51, Tryz.ntmps51
  have hp : Lib.hasPrefix [105, 110, 116, 95, 108, 105, 110, 95, 108, 101] [105, 110, 116, 95, 108, 105, 110, 95] = true := rfl
  rw [hp] at k
  have h2' : (2 : Int) ≤ c8 := by omega
  have h2'' : 2 ≤ c8 := by omega
  go_wp2_with fail
  refine (k _).mono ?_
  rintro e w1 ⟨rfl, rfl⟩
  go_wp2_with fail
  refine kA.mono ?_
  rintro e w2 ⟨rfl, hb2⟩
  have HB2 : Hid (Below W.heap.size W w2) := HBA.out.trans (hb2.mono (by simp))
  clear hb2 kA
  go_wp2
  go_ret
  exact ⟨rfl, HB2.out⟩
end Go.Proofs.YtaeobgajhieajaaGreatDoor
