/-
  What is proved here: takes, of a variable.
  What is proved here: takes, of a number and of a variable.
  What is proved here: asMany of arguments that have as many terms.
  What is proved here: fits, at the name int_lin_le.
-/
import Derived.Test.YtaeobgajhieajaaGreatDoorDmj
import Derived.BigQuiet
namespace Go.Proofs.YtaeobgajhieajaaGreatDoor
open Go.RowKit Go.Shelf
set_option linter.unusedVariables false
set_option linter.unusedSimpArgs false
theorem below_drewN {B : Nat} {a w : World} (h : Below B a w) (n : Nat) : Below B a (w.drewN n) := ⟨h.os, h.tape, h.output, h.size, h.block⟩

set_option maxRecDepth 100000 in
set_option maxHeartbeats 4000000 in
theorem takes_var_out (a : Option Addr) (n c : Nat) (st : Bool) (lo hi v : Int) (h1 : 0 ≤ v) (h2 : ¬ v < n) (sa : Option Addr) (sc : Nat) (W : World) : Calls Tryz.prog 72 #[.agg #[.slice a n c, .bool st, .int .i64 lo, .int .i64 hi], .agg #[.int .i64 v, .bool false, .int .i64 0, .slice sa 0 sc]] W fun e w' => e = .returned (.bool false) ∧ Below W.heap.size W w' := by
  have hv : v ≠ -1 := by omega
  go_enter Tryz.func72, Tryz.ntmps72
  go_upto_region 3 with (fail)
  go_quiet (fail)
  go_wp2
  go_ret
  exact ⟨rfl, below_drewN (((Below.refl _ W).alloc (Nat.le_refl _) _).alloc (by simp) _) _⟩

set_option maxRecDepth 100000 in
set_option maxHeartbeats 4000000 in
theorem takes_var_in (b : Nat) (n c : Nat) (st x : Bool) (lo hi : Int) (v : Nat) (h2 : v < n) (sa : Option Addr) (sc : Nat) (W : World) (hb : b < W.heap.size) (hc : W.cell? ⟨b, v, none⟩ = some (.bool x)) : Calls Tryz.prog 72 #[.agg #[.slice (some ⟨b, 0, none⟩) n c, .bool st, .int .i64 lo, .int .i64 hi], .agg #[.int .i64 v, .bool false, .int .i64 0, .slice sa 0 sc]] W fun e w' => e = .returned (.bool (x == st)) ∧ Below W.heap.size W w' := by
  have h1 : (0 : Int) ≤ v := by omega
  have h3 : (v : Int) < n := by omega
  have hv : (v : Int) ≠ -1 := by omega
  cases x <;> cases st <;>
  · go_enter Tryz.func72, Tryz.ntmps72
    go_upto_region 3 with (fail)
    go_quiet (fail)
    go_wp2
    go_ret
    exact ⟨rfl, below_drewN (((Below.refl _ W).alloc (Nat.le_refl _) _).alloc (by simp) _) _⟩
end Go.Proofs.YtaeobgajhieajaaGreatDoor

namespace Go.Proofs.YtaeobgajhieajaaGreatDoor
open Go.RowKit Go.Shelf
set_option linter.unusedVariables false
set_option linter.unusedSimpArgs false

set_option maxRecDepth 100000 in
set_option maxHeartbeats 4000000 in
theorem takes_num (vs : Value) (lo hi n : Int) (sa : Option Addr) (sc : Nat) (W : World) : Calls Tryz.prog 72 #[.agg #[vs, .bool false, .int .i64 lo, .int .i64 hi], .agg #[.int .i64 (-1), .bool false, .int .i64 n, .slice sa 0 sc]] W fun e w' => e = .returned (.bool (decide (lo ≤ n) && decide (n ≤ hi))) ∧ Below W.heap.size W w' := by
  by_cases h0 : n = 0
  · subst h0
    by_cases h1 : lo ≤ 0 <;> by_cases h2 : 0 ≤ hi <;>
    · go_enter Tryz.func72, Tryz.ntmps72
      go_wp2
      go_ret
      exact ⟨by simp [h1, h2], ((Below.refl _ W).alloc (Nat.le_refl _) _).alloc (by simp) _⟩
  · by_cases h1 : lo ≤ n <;> by_cases h2 : n ≤ hi <;>
    · go_enter Tryz.func72, Tryz.ntmps72
      go_wp2
      go_ret
      exact ⟨by simp [h1, h2], ((Below.refl _ W).alloc (Nat.le_refl _) _).alloc (by simp) _⟩
end Go.Proofs.YtaeobgajhieajaaGreatDoor

namespace Go.Proofs.YtaeobgajhieajaaGreatDoor
open Go.RowKit Go.Shelf
set_option linter.unusedVariables false
set_option linter.unusedSimpArgs false

set_option maxRecDepth 100000 in
set_option maxHeartbeats 4000000 in
theorem asMany_yes {B0 : Nat} {W : World} {a8 : Option Addr} {c8 n m : Nat} {ags : List Ag} (h : Sa B0 W (.slice a8 n c8) ags) (hlen : ags.length = n) (hn : n ≤ 4398046510976) (hl : ∀ g ∈ ags, g.l.length = m) :
    Calls Tryz.prog 73 #[.slice a8 n c8] W fun e w' => e = .returned (.bool true) ∧ Below W.heap.size W w' := by
  have HA : Hid (Sa B0 W (.slice a8 n c8) ags) := h
  have HN : Hid (ags.length = n) := hlen
  have HL : Hid (∀ g ∈ ags, g.l.length = m) := hl
  clear h hlen hl
  go_enter Tryz.func73, Tryz.ntmps73
  go_wp2
  go_loopw [7] (fun i wr => ∃ k : Nat, k ≤ n ∧ i = .int .i64 (k : Int) ∧ Hid (Below W.heap.size W wr)) (fun i _ => n - (intOf i).toNat)
  case atStart => exact ⟨0, Nat.zero_le _, rfl, Below.refl _ _⟩
  case round =>
    obtain ⟨k, hk, rfl, HB⟩ := hrel
    by_cases hlt : k < n
    · have hlt' : (k : Int) < n := by omega
      have hpos : (0 : Int) < n := by omega
      obtain ⟨g, hg⟩ : ∃ g, ags[k]? = some g := ⟨_, List.getElem?_eq_getElem (by rw [HN.out]; exact hlt)⟩
      obtain ⟨g0, hg0⟩ : ∃ g, ags[0]? = some g := ⟨_, List.getElem?_eq_getElem (by rw [HN.out]; omega)⟩
      obtain ⟨b, off, a2, c2, rfl, hb, _, d0, d1⟩ := HA.out.at hg
      obtain ⟨b', off', a3, c3, e3, _, _, d2, d3⟩ := HA.out.at hg0
      injection e3 with e3
      injection e3 with e4 e5
      subst e4; subst e5
      rw [HL.out g (List.mem_of_getElem? hg)] at d1
      rw [HL.out g0 (List.mem_of_getElem? hg0)] at d3
      rw [Nat.zero_mul, Nat.add_zero] at d3
      have hbA : Below wr.heap.size wr (wr.alloc (Obj.cells #[.bool g.arr, .slice a2 m c2] 54)) := (Below.refl _ wr).alloc (Nat.le_refl _) _
      have hBA := HB.out.trans (hbA.mono HB.out.size)
      have HBA : Hid (Below W.heap.size W (wr.alloc (Obj.cells #[.bool g.arr, .slice a2 m c2] 54))) := hBA
      have y0 := (HB.out.cell (p := ⟨b, off + k * 2, none⟩) hb).trans d0
      have y1 := (HB.out.cell (p := ⟨b, off + k * 2 + 1, none⟩) hb).trans d1
      have y3 := (hBA.cell (p := ⟨b, off + 1, none⟩) hb).trans d3
      clear d0 d1 d2 d3 hg hg0 hbA hBA
      have hw2 : IntKind.i64.wrap ((k : Int) + 1) = (k : Int) + 1 := by rw [IntKind.wrap_i64]; omega
      go_upto_region 4 with (fail)
      go_quiet (fail)
      go_wp2
      go_roundw
      case rel => exact ⟨k + 1, by omega, by go_num, below_drewN HBA.out _⟩
      case measure => simp [intOf]; omega
    · have hlt' : ¬ (k : Int) < n := by omega
      obtain rfl : k = n := by omega
      go_wp2
      go_ret
      exact ⟨rfl, HB.out⟩
end Go.Proofs.YtaeobgajhieajaaGreatDoor

namespace Go.Proofs.YtaeobgajhieajaaGreatDoor
open Go.RowKit Go.Shelf
set_option linter.unusedVariables false
set_option linter.unusedSimpArgs false
theorem Sa.take {B : Nat} {W : World} {a : Option Addr} {n c k : Nat} {ags : List Ag} (h : Sa B W (.slice a n c) ags) (hk : k ≤ ags.length) : Sa B W (.slice a k c) (ags.take k) := by
  obtain ⟨a0, c0, e, h⟩ := h
  injection e with ea en ec
  subst ea; subst ec
  refine ⟨_, _, by rw [List.length_take, Nat.min_eq_left hk], fun h0 => ?_⟩
  rw [List.length_take, Nat.min_eq_left hk] at h0
  obtain ⟨b, off, svl, e1, e0, e2, e3, e4⟩ := h (by omega)
  refine ⟨b, off, svl.take k, e1, e0, e2, by simp; omega, fun i g sv h1 h2 => ?_⟩
  rw [List.getElem?_take] at h1 h2
  split at h1
  · rename_i hi
    rw [if_pos hi] at h2
    exact e4 i g sv h1 h2
  · simp at h1

set_option maxRecDepth 100000 in
set_option maxHeartbeats 4000000 in
theorem fits_lin {B0 : Nat} {W : World} {a8 : Option Addr} {c8 n m : Nat} {ags : List Ag} (h : Sa B0 W (.slice a8 n c8) ags) (hlen : ags.length = n) (hn : n ≤ 4398046510976) (h2 : 2 ≤ n) (hc : n ≤ c8) (hl : ∀ g ∈ ags.take 2, g.l.length = m) :
    Calls Tryz.prog 51 #[.agg #[.string ⟨#[105, 110, 116, 95, 108, 105, 110, 95, 108, 101]⟩, .slice a8 n c8]] W fun e w' => e = .returned (.bool true) ∧ Below W.heap.size W w' := by
  obtain ⟨b, off, rfl⟩ : ∃ b off, a8 = some ⟨b, off, none⟩ := by
    obtain ⟨g0, hg0⟩ : ∃ g, ags[0]? = some g := ⟨_, List.getElem?_eq_getElem (by omega)⟩
    obtain ⟨b, off, _, _, e, _⟩ := h.at hg0
    exact ⟨b, off, e⟩
  have hT := h.take (k := 2) (by omega)
  have k := Any.strings_HasPrefix Tryz.laysHasPrefix68 ⟨#[105, 110, 116, 95, 108, 105, 110, 95, 108, 101]⟩ ⟨#[105, 110, 116, 95, 108, 105, 110, 95]⟩
  have hbA : Below W.heap.size W (W.alloc (Obj.cells #[.string ⟨#[105, 110, 116, 95, 108, 105, 110, 95, 108, 101]⟩, .slice (some ⟨b, off, none⟩) n c8] 32)) := (Below.refl _ W).alloc (Nat.le_refl _) _
  have kA := asMany_yes (hT.below hbA) (by rw [List.length_take]; omega) (by omega) hl
  have HBA : Hid _ := hbA
  clear h hT hl hbA
  go_enter Tryz.func51, Tryz.ntmps51
  have hp : Lib.hasPrefix [105, 110, 116, 95, 108, 105, 110, 95, 108, 101] [105, 110, 116, 95, 108, 105, 110, 95] = true := rfl
  rw [hp] at k
  have h2' : (2 : Int) ≤ c8 := by omega
  have h2'' : 2 ≤ c8 := by omega
  go_wp2_with fail
  refine (k _).mono ?_
  rintro e w1 ⟨rfl, rfl⟩
  go_wp2_with fail
  refine kA.mono ?_
  rintro e w2 ⟨rfl, hb2⟩
  have HB2 : Hid (Below W.heap.size W w2) := HBA.out.trans (hb2.mono (by simp))
  clear hb2 kA
  go_wp2
  go_ret
  exact ⟨rfl, HB2.out⟩
end Go.Proofs.YtaeobgajhieajaaGreatDoor
