/-
  What is proved here: shaped, tooLong; slices.EqualFunc of arguments and parts.
  What is proved here: slices.EqualFunc of arguments and parts.
  What is proved here: slices.IndexFunc and slices.ContainsFunc of arguments of which none is too long.
  What is proved here: the place of each letter.
-/
import Derived.Test.YtaeobgajhieajaaGreatDoorDl
namespace Go.Proofs.YtaeobgajhieajaaGreatDoor
open Go.RowKit Go.Shelf
set_option linter.unusedVariables false
set_option linter.unusedSimpArgs false
/-- Is an argument an array where the part says so, and else one term? -/
def shapedB (g : Ag) (part : List UInt8) : Bool := if Lib.hasPrefix part [97] then g.arr else !g.arr && g.l.length == 1

set_option maxRecDepth 100000 in
set_option maxHeartbeats 4000000 in
theorem shaped_any (g : Ag) (a : Option Addr) (c : Nat) (part : List UInt8) (hl : g.l.length ≤ 4398046510976) (W : World) : Calls Tryz.prog 47 #[.agg #[.bool g.arr, .slice a g.l.length c], .string ⟨part.toArray⟩] W fun e w' => e = .returned (.bool (shapedB g part)) ∧ Below W.heap.size W w' := by
  have k := Any.strings_HasPrefix Tryz.laysHasPrefix68 ⟨part.toArray⟩ ⟨#[97]⟩
  have HE : Hid (shapedB g part = if Lib.hasPrefix part [97] then g.arr else !g.arr && g.l.length == 1) := rfl
  obtain ⟨r, hr⟩ : ∃ r, shapedB g part = r := ⟨_, rfl⟩
  obtain ⟨x, hx⟩ : ∃ x, Lib.hasPrefix part [97] = x := ⟨_, rfl⟩
  obtain ⟨ar, har⟩ : ∃ x, g.arr = x := ⟨_, rfl⟩
  obtain ⟨n, hn⟩ : ∃ n, g.l.length = n := ⟨_, rfl⟩
  rw [hr, hx, har, hn] at HE
  rw [hn] at hl
  rw [hr, har, hn]
  have k2 : ∀ w, Calls Tryz.prog 68 #[.string ⟨part.toArray⟩, .string ⟨#[97]⟩] w fun e w' => e = .returned (.bool x) ∧ w' = w := fun w => (k w).mono fun e w' ⟨he, hw⟩ => ⟨by rw [he]; have : Lib.hasPrefix part [97] = x := hx; rw [← this], hw⟩
  clear k hr hx har hn
  go_enter Tryz.func47, Tryz.ntmps47
  go_wp2_with fail
  refine (k2 _).mono ?_
  rintro e w1 ⟨rfl, rfl⟩
  by_cases h1 : n = 1
  · subst h1
    cases x <;> cases ar <;>
    · go_wp2
      go_ret
      exact ⟨by rw [HE.out]; rfl, (Below.refl _ W).alloc (Nat.le_refl _) _⟩
  · have h2 : ((n : Int) == 1) = false := by simp; omega
    have h3 : (n == 1) = false := by simp [h1]
    cases x <;> cases ar <;>
    · go_wp2
      go_ret
      exact ⟨by rw [HE.out]; simp [h3], (Below.refl _ W).alloc (Nat.le_refl _) _⟩

set_option maxRecDepth 100000 in
set_option maxHeartbeats 4000000 in
theorem tooLong_any (g : Ag) (a : Option Addr) (c : Nat) (hl : g.l.length ≤ 1000) (W : World) : Calls Tryz.prog 49 #[.agg #[.bool g.arr, .slice a g.l.length c]] W fun e w' => e = .returned (.bool false) ∧ Below W.heap.size W w' := by
  obtain ⟨ar, har⟩ : ∃ x, g.arr = x := ⟨_, rfl⟩
  obtain ⟨n, hn⟩ : ∃ n, g.l.length = n := ⟨_, rfl⟩
  rw [hn] at hl
  rw [har, hn]
  clear har hn
  have h1 : ¬ (1000 : Int) < n := by omega
  go_enter Tryz.func49, Tryz.ntmps49
  go_wp2
  go_ret
  exact ⟨by simp [h1], (Below.refl _ W).alloc (Nat.le_refl _) _⟩
end Go.Proofs.YtaeobgajhieajaaGreatDoor

namespace Go.Proofs.YtaeobgajhieajaaGreatDoor
open Go.RowKit Go.Shelf
set_option linter.unusedVariables false
set_option linter.unusedSimpArgs false
def eqF (ags : List Ag) (parts : List (List UInt8)) (n : Nat) : Bool := (List.range n).all fun k => match ags[k]?, parts[k]? with | some g, some p => shapedB g p | _, _ => true
theorem eqF_succ {ags : List Ag} {parts : List (List UInt8)} {k : Nat} {g : Ag} {p : List UInt8} (h1 : ags[k]? = some g) (h2 : parts[k]? = some p) : eqF ags parts (k + 1) = (eqF ags parts k && shapedB g p) := by
  simp [eqF, List.range_succ, h1, h2]
theorem eqF_false {ags : List Ag} {parts : List (List UInt8)} {k n : Nat} (hk : k ≤ n) (h : eqF ags parts k = false) : eqF ags parts n = false := by
  simp only [eqF, List.all_eq_false] at h ⊢
  obtain ⟨x, hx, h⟩ := h
  exact ⟨x, by simp at hx ⊢; omega, h⟩
theorem Ss.at {w : World} {a : Option Addr} {n c : Nat} {L : List (List UInt8)} (h : Ss w (.slice a n c) L) {i : Nat} {x : List UInt8} (hx : L[i]? = some x) : ∃ b, a = some ⟨b, 0, none⟩ ∧ b < w.heap.size ∧ w.cell? ⟨b, i, none⟩ = some (.string ⟨x.toArray⟩) := by
  obtain ⟨a0, c0, e, h⟩ := h
  injection e with ea en ec
  subst ea
  obtain ⟨b, e1, e2, e3⟩ := h (by have := (List.getElem?_eq_some_iff.1 hx).1; omega)
  exact ⟨b, e1, e2, e3 i x hx⟩

set_option maxRecDepth 100000 in
set_option maxHeartbeats 4000000 in
theorem equalF {B0 : Nat} {W : World} {s : Value} {ags : List Ag} {a9 : Option Addr} {c9 : Nat} {parts : List (List UInt8)} (h : Sa B0 W s ags) (hp : Ss W (.slice a9 parts.length c9) parts) (hlen : ags.length = parts.length) (hn : ags.length ≤ 4398046510976) (hl : ∀ g ∈ ags, g.l.length ≤ 4398046510976) :
    Calls Tryz.prog 46 #[s, .slice a9 parts.length c9, .func (.func 47) #[] #[]] W fun e w' => e = .returned (.bool (eqF ags parts ags.length)) ∧ Below W.heap.size W w' := by
  obtain ⟨a8, c8, rfl, h⟩ := h
  obtain ⟨n, hn0⟩ : ∃ n, ags.length = n := ⟨_, rfl⟩
  have HA : Hid (Sa B0 W (.slice a8 n c8) ags) := ⟨a8, c8, by rw [hn0], h⟩
  have hpn : parts.length = n := by omega
  rw [hpn] at hp ⊢
  rw [hn0] at hn ⊢
  have HP : Hid (Ss W (.slice a9 n c9) parts) := hp
  have HN : Hid (ags.length = n ∧ parts.length = n) := ⟨hn0, hpn⟩
  have HL : Hid (∀ g ∈ ags, g.l.length ≤ 4398046510976) := hl
  clear h hn0 hpn hp hl hlen
  go_enter Tryz.func46, Tryz.ntmps46
  go_wp2
  go_loopw [17] (fun i wr => ∃ k : Nat, k ≤ n ∧ i = .int .i64 (k : Int) ∧ Hid (eqF ags parts k = true) ∧ Hid (Below W.heap.size W wr)) (fun i _ => n - (intOf i).toNat)
  case atStart => exact ⟨0, Nat.zero_le _, rfl, rfl, Below.refl _ _⟩
  case round =>
    obtain ⟨k, hk, rfl, HQ, HB⟩ := hrel
    by_cases hlt : k < n
    · have hlt' : (k : Int) < n := by omega
      obtain ⟨g, hg⟩ : ∃ g, ags[k]? = some g := ⟨_, List.getElem?_eq_getElem (by rw [HN.out.1]; exact hlt)⟩
      obtain ⟨p, hp⟩ : ∃ p, parts[k]? = some p := ⟨_, List.getElem?_eq_getElem (by rw [HN.out.2]; exact hlt)⟩
      have HSU : Hid (eqF ags parts (k + 1) = (eqF ags parts k && shapedB g p)) := eqF_succ hg hp
      obtain ⟨b, off, a2, c2, rfl, hb, _, d0, d1⟩ := HA.out.at hg
      obtain ⟨b2, rfl, hb2, d2⟩ := HP.out.at hp
      have y0 := (HB.out.cell (p := ⟨b, off + k * 2, none⟩) hb).trans d0
      have y1 := (HB.out.cell (p := ⟨b, off + k * 2 + 1, none⟩) hb).trans d1
      have hgl := HL.out g (List.mem_of_getElem? hg)
      have hbA : Below wr.heap.size wr (wr.alloc (Obj.cells #[.bool g.arr, .slice a2 g.l.length c2] 54)) := (Below.refl _ wr).alloc (Nat.le_refl _) _
      have hBA := HB.out.trans (hbA.mono HB.out.size)
      have y2 := (hBA.cell (p := ⟨b2, k, none⟩) hb2).trans d2
      have HBA : Hid _ := hBA
      have hsh := fun X => shaped_any g a2 c2 p hgl X
      clear d0 d1 d2 hg hp hbA hBA
      have hw2 : IntKind.i64.wrap ((k : Int) + 1) = (k : Int) + 1 := by rw [IntKind.wrap_i64]; omega
      go_wp2_with fail
      refine (hsh _).mono ?_
      rintro e w1 ⟨rfl, hb1⟩
      have HB1 : Hid (Below W.heap.size W w1) := HBA.out.trans (hb1.mono HBA.out.size)
      clear hb1 hsh
      obtain ⟨q, hq⟩ : ∃ q, shapedB g p = q := ⟨_, rfl⟩
      rw [hq] at HSU ⊢
      rw [HQ.out] at HSU
      clear hq
      cases q with
      | true =>
        go_wp2
        go_roundw
        case rel => exact ⟨k + 1, by omega, by go_num, by rw [HSU.out]; rfl, HB1⟩
        case measure => simp [intOf]; omega
      | false =>
        have HF : Hid (eqF ags parts n = false) := eqF_false (k := k + 1) (by omega) (by rw [HSU.out]; rfl)
        go_wp2
        go_ret
        exact ⟨by rw [HF.out]; rfl, HB1.out⟩
    · have hlt' : ¬ (k : Int) < n := by omega
      obtain rfl : k = n := by omega
      go_wp2
      go_ret
      exact ⟨by rw [HQ.out]; rfl, HB.out⟩
end Go.Proofs.YtaeobgajhieajaaGreatDoor

namespace Go.Proofs.YtaeobgajhieajaaGreatDoor
open Go.RowKit Go.Shelf
set_option linter.unusedVariables false
set_option linter.unusedSimpArgs false

set_option maxRecDepth 100000 in
set_option maxHeartbeats 4000000 in
theorem indexF {B0 : Nat} {W : World} {a8 : Option Addr} {c8 n : Nat} {ags : List Ag} (h : Sa B0 W (.slice a8 n c8) ags) (hlen : ags.length = n) (hn : n ≤ 4398046510976) (hl : ∀ g ∈ ags, g.l.length ≤ 1000) :
    Calls Tryz.prog 69 #[.slice a8 n c8, .func (.func 49) #[] #[]] W fun e w' => e = .returned (.int .i64 (-1)) ∧ Below W.heap.size W w' := by
  have HA : Hid (Sa B0 W (.slice a8 n c8) ags) := h
  have HN : Hid (ags.length = n) := hlen
  have HL : Hid (∀ g ∈ ags, g.l.length ≤ 1000) := hl
  clear h hlen hl
  go_enter Tryz.func69, Tryz.ntmps69
  go_wp2
  go_loopw [8] (fun i wr => ∃ k : Nat, k ≤ n ∧ i = .int .i64 (k : Int) ∧ Hid (Below W.heap.size W wr)) (fun i _ => n - (intOf i).toNat)
  case atStart => exact ⟨0, Nat.zero_le _, rfl, Below.refl _ _⟩
  case round =>
    obtain ⟨k, hk, rfl, HB⟩ := hrel
    by_cases hlt : k < n
    · have hlt' : (k : Int) < n := by omega
      obtain ⟨g, hg⟩ : ∃ g, ags[k]? = some g := ⟨_, List.getElem?_eq_getElem (by rw [HN.out]; exact hlt)⟩
      obtain ⟨b, off, a2, c2, rfl, hb, _, d0, d1⟩ := HA.out.at hg
      have y0 := (HB.out.cell (p := ⟨b, off + k * 2, none⟩) hb).trans d0
      have y1 := (HB.out.cell (p := ⟨b, off + k * 2 + 1, none⟩) hb).trans d1
      have hgl := HL.out g (List.mem_of_getElem? hg)
      have hsh := fun X => tooLong_any g a2 c2 hgl X
      clear d0 d1 hg
      have hw2 : IntKind.i64.wrap ((k : Int) + 1) = (k : Int) + 1 := by rw [IntKind.wrap_i64]; omega
      go_wp2_with fail
      refine (hsh _).mono ?_
      rintro e w1 ⟨rfl, hb1⟩
      have HB1 : Hid (Below W.heap.size W w1) := HB.out.trans (hb1.mono HB.out.size)
      clear hb1 hsh
      go_wp2
      go_roundw
      case rel => exact ⟨k + 1, by omega, by go_num, HB1⟩
      case measure => simp [intOf]; omega
    · have hlt' : ¬ (k : Int) < n := by omega
      obtain rfl : k = n := by omega
      go_wp2
      go_ret
      exact ⟨rfl, HB.out⟩

set_option maxRecDepth 100000 in
set_option maxHeartbeats 4000000 in
theorem containsF {B0 : Nat} {W : World} {a8 : Option Addr} {c8 n : Nat} {ags : List Ag} (h : Sa B0 W (.slice a8 n c8) ags) (hlen : ags.length = n) (hn : n ≤ 4398046510976) (hl : ∀ g ∈ ags, g.l.length ≤ 1000) :
    Calls Tryz.prog 48 #[.slice a8 n c8, .func (.func 49) #[] #[]] W fun e w' => e = .returned (.bool false) ∧ Below W.heap.size W w' := by
  have k := indexF h hlen hn hl
  clear h hlen hl
  go_enter Tryz.func48, Tryz.ntmps48
  go_wp2_with fail
  refine k.mono ?_
  rintro e w1 ⟨rfl, hb1⟩
  go_wp2
  go_ret
  exact ⟨rfl, hb1⟩
end Go.Proofs.YtaeobgajhieajaaGreatDoor

namespace Go.Proofs.YtaeobgajhieajaaGreatDoor
open Go.RowKit Go.Shelf
set_option linter.unusedVariables false
set_option linter.unusedSimpArgs false

set_option maxRecDepth 100000 in
set_option maxHeartbeats 4000000 in
theorem place_i (a : Option Addr) (n c : Nat) (W : World) : Calls Tryz.prog 70 #[.string ⟨#[105]⟩, .slice a n c] W fun e w' => e = .returned (.agg #[.slice none 0 0, .bool false, .int .i64 (-1000000000), .int .i64 1000000000]) ∧ Below W.heap.size W w' := by
  go_enter Tryz.func70, Tryz.ntmps70
  go_wp2
  exact ⟨rfl, _, results_cell_row (P := Tryz.prog) rfl _ _ W.heap.size 108 _ (0, 0) _ rfl (World.alloc_heap_new W _) Tryz.underlying108 rfl (by kernel_rfl), rfl, (Below.refl _ W).alloc (Nat.le_refl _) _⟩

set_option maxRecDepth 100000 in
set_option maxHeartbeats 4000000 in
theorem place_b (a : Option Addr) (n c : Nat) (W : World) : Calls Tryz.prog 70 #[.string ⟨#[98]⟩, .slice a n c] W fun e w' => e = .returned (.agg #[.slice none 0 0, .bool false, .int .i64 0, .int .i64 1]) ∧ Below W.heap.size W w' := by
  go_enter Tryz.func70, Tryz.ntmps70
  go_wp2
  exact ⟨rfl, _, results_cell_row (P := Tryz.prog) rfl _ _ W.heap.size 108 _ (0, 0) _ rfl (World.alloc_heap_new W _) Tryz.underlying108 rfl (by kernel_rfl), rfl, (Below.refl _ W).alloc (Nat.le_refl _) _⟩

set_option maxRecDepth 100000 in
set_option maxHeartbeats 4000000 in
theorem place_s (a : Option Addr) (n c : Nat) (W : World) : Calls Tryz.prog 70 #[.string ⟨#[115]⟩, .slice a n c] W fun e w' => e = .returned (.agg #[.slice none 0 0, .bool true, .int .i64 0, .int .i64 0]) ∧ Below W.heap.size W w' := by
  go_enter Tryz.func70, Tryz.ntmps70
  go_wp2
  exact ⟨rfl, _, results_cell_row (P := Tryz.prog) rfl _ _ W.heap.size 108 _ (0, 0) _ rfl (World.alloc_heap_new W _) Tryz.underlying108 rfl (by kernel_rfl), rfl, (Below.refl _ W).alloc (Nat.le_refl _) _⟩

set_option maxRecDepth 100000 in
set_option maxHeartbeats 4000000 in
theorem place_I (a : Option Addr) (n c : Nat) (W : World) : Calls Tryz.prog 70 #[.string ⟨#[73]⟩, .slice a n c] W fun e w' => e = .returned (.agg #[.slice a n c, .bool false, .int .i64 (-1000000), .int .i64 1000000]) ∧ Below W.heap.size W w' := by
  go_enter Tryz.func70, Tryz.ntmps70
  go_wp2
  exact ⟨rfl, _, results_cell_row (P := Tryz.prog) rfl _ _ W.heap.size 108 _ (0, 0) _ rfl (World.alloc_heap_new W _) Tryz.underlying108 rfl (by kernel_rfl), rfl, (Below.refl _ W).alloc (Nat.le_refl _) _⟩

set_option maxRecDepth 100000 in
set_option maxHeartbeats 4000000 in
theorem place_B (a : Option Addr) (n c : Nat) (W : World) : Calls Tryz.prog 70 #[.string ⟨#[66]⟩, .slice a n c] W fun e w' => e = .returned (.agg #[.slice a n c, .bool false, .int .i64 0, .int .i64 1]) ∧ Below W.heap.size W w' := by
  go_enter Tryz.func70, Tryz.ntmps70
  go_wp2
  exact ⟨rfl, _, results_cell_row (P := Tryz.prog) rfl _ _ W.heap.size 108 _ (0, 0) _ rfl (World.alloc_heap_new W _) Tryz.underlying108 rfl (by kernel_rfl), rfl, (Below.refl _ W).alloc (Nat.le_refl _) _⟩

set_option maxRecDepth 100000 in
set_option maxHeartbeats 4000000 in
theorem place_S (a : Option Addr) (n c : Nat) (W : World) : Calls Tryz.prog 70 #[.string ⟨#[83]⟩, .slice a n c] W fun e w' => e = .returned (.agg #[.slice a n c, .bool true, .int .i64 0, .int .i64 0]) ∧ Below W.heap.size W w' := by
  go_enter Tryz.func70, Tryz.ntmps70
  go_wp2
  exact ⟨rfl, _, results_cell_row (P := Tryz.prog) rfl _ _ W.heap.size 108 _ (0, 0) _ rfl (World.alloc_heap_new W _) Tryz.underlying108 rfl (by kernel_rfl), rfl, (Below.refl _ W).alloc (Nat.le_refl _) _⟩
end Go.Proofs.YtaeobgajhieajaaGreatDoor
