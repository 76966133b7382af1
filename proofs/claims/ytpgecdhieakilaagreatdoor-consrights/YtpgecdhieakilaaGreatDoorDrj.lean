/-
  What is proved here: takes, of a variable.
  What is proved here: asMany of arguments that have as many terms.
  What is proved here: fits, at the name int_lin_le.
  What is proved here: allTaken.
  What is proved here: the reference tells whether numbers, values and terms are alike.
-/
import Derived.Test.YtpgecdhieakilaaGreatDoorDlj
import Derived.BigQuiet
import Derived.Test.YtpgecdhieakilaaGreatDoorDfj
namespace Go.Proofs.YtpgecdhieakilaaGreatDoor
open Go.RowKit Go.Shelf
set_option linter.unusedVariables false
set_option linter.unusedSimpArgs false
theorem below_drewN {B : Nat} {a w : World} (h : Below B a w) (n : Nat) : Below B a (w.drewN n) := ⟨h.os, h.tape, h.output, h.size, h.block⟩

set_option maxRecDepth 100000 in
set_option maxHeartbeats 4000000 in
theorem takes_var_out (a : Option Addr) (n c : Nat) (st : Bool) (lo hi v : Int) (h1 : 0 ≤ v) (h2 : ¬ v < n) (sa : Option Addr) (sc : Nat) (W : World) : Calls Tryz.prog 72 #[.agg #[.slice a n c, .bool st, .int .i64 lo, .int .i64 hi], .agg #[.int .i64 v, .bool false, .int .i64 0, .slice sa 0 sc]] W fun e w' => e = .returned (.bool false) ∧ Below W.heap.size W w' := by
  have hv : v ≠ -1 := by omega
  go_enter Tryz.func72, Tryz.ntmps72
  go_upto_region 3 with (fail)
  go_quiet (fail)
  go_wp2
  go_ret
  exact ⟨rfl, below_drewN (((Below.refl _ W).alloc (Nat.le_refl _) _).alloc (by simp) _) _⟩

set_option maxRecDepth 100000 in
set_option maxHeartbeats 4000000 in
theorem takes_var_in (b : Nat) (n c : Nat) (st x : Bool) (lo hi : Int) (v : Nat) (h2 : v < n) (sa : Option Addr) (sc : Nat) (W : World) (hb : b < W.heap.size) (hc : W.cell? ⟨b, v, none⟩ = some (.bool x)) : Calls Tryz.prog 72 #[.agg #[.slice (some ⟨b, 0, none⟩) n c, .bool st, .int .i64 lo, .int .i64 hi], .agg #[.int .i64 v, .bool false, .int .i64 0, .slice sa 0 sc]] W fun e w' => e = .returned (.bool (x == st)) ∧ Below W.heap.size W w' := by
  have h1 : (0 : Int) ≤ v := by omega
  have h3 : (v : Int) < n := by omega
  have hv : (v : Int) ≠ -1 := by omega
  cases x <;> cases st <;>
  · go_enter Tryz.func72, Tryz.ntmps72
    go_upto_region 3 with (fail)
    go_quiet (fail)
    go_wp2
    go_ret
    exact ⟨rfl, below_drewN (((Below.refl _ W).alloc (Nat.le_refl _) _).alloc (by simp) _) _⟩
end Go.Proofs.YtpgecdhieakilaaGreatDoor

namespace Go.Proofs.YtpgecdhieakilaaGreatDoor
open Go.RowKit Go.Shelf
set_option linter.unusedVariables false
set_option linter.unusedSimpArgs false

set_option maxRecDepth 100000 in
set_option maxHeartbeats 4000000 in
theorem asMany_yes {B0 : Nat} {W : World} {a8 : Option Addr} {c8 n m : Nat} {ags : List Ag} (h : Sa B0 W (.slice a8 n c8) ags) (hlen : ags.length = n) (hn : n ≤ 4398046510976) (hl : ∀ g ∈ ags, g.l.length = m) :
    Calls Tryz.prog 73 #[.slice a8 n c8] W fun e w' => e = .returned (.bool true) ∧ Below W.heap.size W w' := by
  have HA : Hid (Sa B0 W (.slice a8 n c8) ags) := h
  have HN : Hid (ags.length = n) := hlen
  have HL : Hid (∀ g ∈ ags, g.l.length = m) := hl
  clear h hlen hl
  go_enter Tryz.func73, Tryz.ntmps73
  go_wp2
  go_loopw [7] (fun i wr => ∃ k : Nat, k ≤ n ∧ i = .int .i64 (k : Int) ∧ Hid (Below W.heap.size W wr)) (fun i _ => n - (intOf i).toNat)
  case atStart => exact ⟨0, Nat.zero_le _, rfl, Below.refl _ _⟩
  case round =>
    obtain ⟨k, hk, rfl, HB⟩ := hrel
    by_cases hlt : k < n
    · have hlt' : (k : Int) < n := by omega
      have hpos : (0 : Int) < n := by omega
      obtain ⟨g, hg⟩ : ∃ g, ags[k]? = some g := ⟨_, List.getElem?_eq_getElem (by rw [HN.out]; exact hlt)⟩
      obtain ⟨g0, hg0⟩ : ∃ g, ags[0]? = some g := ⟨_, List.getElem?_eq_getElem (by rw [HN.out]; omega)⟩
      obtain ⟨b, off, a2, c2, rfl, hb, _, d0, d1⟩ := HA.out.at hg
      obtain ⟨b', off', a3, c3, e3, _, _, d2, d3⟩ := HA.out.at hg0
      injection e3 with e3
      injection e3 with e4 e5
      subst e4; subst e5
      rw [HL.out g (List.mem_of_getElem? hg)] at d1
      rw [HL.out g0 (List.mem_of_getElem? hg0)] at d3
      rw [Nat.zero_mul, Nat.add_zero] at d3
      have hbA : Below wr.heap.size wr (wr.alloc (Obj.cells #[.bool g.arr, .slice a2 m c2] 54)) := (Below.refl _ wr).alloc (Nat.le_refl _) _
      have hBA := HB.out.trans (hbA.mono HB.out.size)
      have HBA : Hid (Below W.heap.size W (wr.alloc (Obj.cells #[.bool g.arr, .slice a2 m c2] 54))) := hBA
      have y0 := (HB.out.cell (p := ⟨b, off + k * 2, none⟩) hb).trans d0
      have y1 := (HB.out.cell (p := ⟨b, off + k * 2 + 1, none⟩) hb).trans d1
      have y3 := (hBA.cell (p := ⟨b, off + 1, none⟩) hb).trans d3
      clear d0 d1 d2 d3 hg hg0 hbA hBA
      have hw2 : IntKind.i64.wrap ((k : Int) + 1) = (k : Int) + 1 := by rw [IntKind.wrap_i64]; omega
      go_upto_region 4 with (fail)
      go_quiet (fail)
      go_wp2
      go_roundw
      case rel => exact ⟨k + 1, by omega, by go_num, below_drewN HBA.out _⟩
      case measure => simp [intOf]; omega
    · have hlt' : ¬ (k : Int) < n := by omega
      obtain rfl : k = n := by omega
      go_wp2
      go_ret
      exact ⟨rfl, HB.out⟩
end Go.Proofs.YtpgecdhieakilaaGreatDoor

namespace Go.Proofs.YtpgecdhieakilaaGreatDoor
open Go.RowKit Go.Shelf
set_option linter.unusedVariables false
set_option linter.unusedSimpArgs false
theorem Sa.take {B : Nat} {W : World} {a : Option Addr} {n c k : Nat} {ags : List Ag} (h : Sa B W (.slice a n c) ags) (hk : k ≤ ags.length) : Sa B W (.slice a k c) (ags.take k) := by
  obtain ⟨a0, c0, e, h⟩ := h
  injection e with ea en ec
  subst ea; subst ec
  refine ⟨_, _, by rw [List.length_take, Nat.min_eq_left hk], fun h0 => ?_⟩
  rw [List.length_take, Nat.min_eq_left hk] at h0
  obtain ⟨b, off, svl, e1, e0, e2, e3, e4⟩ := h (by omega)
  refine ⟨b, off, svl.take k, e1, e0, e2, by simp; omega, fun i g sv h1 h2 => ?_⟩
  rw [List.getElem?_take] at h1 h2
  split at h1
  · rename_i hi
    rw [if_pos hi] at h2
    exact e4 i g sv h1 h2
  · simp at h1

set_option maxRecDepth 100000 in
set_option maxHeartbeats 4000000 in
theorem fits_lin {B0 : Nat} {W : World} {a8 : Option Addr} {c8 n m : Nat} {ags : List Ag} (h : Sa B0 W (.slice a8 n c8) ags) (hlen : ags.length = n) (hn : n ≤ 4398046510976) (h2 : 2 ≤ n) (hc : n ≤ c8) (hl : ∀ g ∈ ags.take 2, g.l.length = m) :
    Calls Tryz.prog 51 #[.agg #[.string ⟨#[105, 110, 116, 95, 108, 105, 110, 95, 108, 101]⟩, .slice a8 n c8]] W fun e w' => e = .returned (.bool true) ∧ Below W.heap.size W w' := by
  obtain ⟨b, off, rfl⟩ : ∃ b off, a8 = some ⟨b, off, none⟩ := by
    obtain ⟨g0, hg0⟩ : ∃ g, ags[0]? = some g := ⟨_, List.getElem?_eq_getElem (by omega)⟩
    obtain ⟨b, off, _, _, e, _⟩ := h.at hg0
    exact ⟨b, off, e⟩
  have hT := h.take (k := 2) (by omega)
  have k := Any.strings_HasPrefix Tryz.laysHasPrefix68 ⟨#[105, 110, 116, 95, 108, 105, 110, 95, 108, 101]⟩ ⟨#[105, 110, 116, 95, 108, 105, 110, 95]⟩
  have hbA : Below W.heap.size W (W.alloc (Obj.cells #[.string ⟨#[105, 110, 116, 95, 108, 105, 110, 95, 108, 101]⟩, .slice (some ⟨b, off, none⟩) n c8] 32)) := (Below.refl _ W).alloc (Nat.le_refl _) _
  have kA := asMany_yes (hT.below hbA) (by rw [List.length_take]; omega) (by omega) hl
  have HBA : Hid _ := hbA
  clear h hT hl hbA
  go_enter Tryz.func51, Tryz.ntmps51
  have hp : Lib.hasPrefix [105, 110, 116, 95, 108, 105, 110, 95, 108, 101] [105, 110, 116, 95, 108, 105, 110, 95] = true := rfl
  rw [hp] at k
  have h2' : (2 : Int) ≤ c8 := by omega
  have h2'' : 2 ≤ c8 := by omega
  go_wp2_with fail
  refine (k _).mono ?_
  rintro e w1 ⟨rfl, rfl⟩
  go_wp2_with fail
  refine kA.mono ?_
  rintro e w2 ⟨rfl, hb2⟩
  have HB2 : Hid (Below W.heap.size W w2) := HBA.out.trans (hb2.mono (by simp))
  clear hb2 kA
  go_wp2
  go_ret
  exact ⟨rfl, HB2.out⟩
end Go.Proofs.YtpgecdhieakilaaGreatDoor

namespace Go.Proofs.YtpgecdhieakilaaGreatDoor
open Go.RowKit Go.Shelf
set_option linter.unusedVariables false
set_option linter.unusedSimpArgs false
def tkL (tk : Nat → Tm → Bool) (ags : List Ag) : Nat → Bool
  | 0 => true
  | k + 1 => tkL tk ags k && (match ags[k]? with | some g => g.l.all (tk k) | none => true)
theorem tkL_succ {tk : Nat → Tm → Bool} {ags : List Ag} {k : Nat} {g : Ag} (h : ags[k]? = some g) : tkL tk ags (k + 1) = (tkL tk ags k && g.l.all (tk k)) := by simp [tkL, h]
theorem tkL_false {tk : Nat → Tm → Bool} {ags : List Ag} {k : Nat} (h : tkL tk ags k = false) : ∀ n, k ≤ n → tkL tk ags n = false := by
  intro n hn
  induction hn with
  | refl => exact h
  | step _ ih => simp [tkL, ih]

set_option maxRecDepth 100000 in
set_option maxHeartbeats 4000000 in
theorem allTaken_any {B0 : Nat} {W : World} {a8 a9 : Option Addr} {c8 c9 n : Nat} {vs : Value} {ags : List Ag} {parts : List (List UInt8)} (pv : Nat → Value) (tk : Nat → Tm → Bool) (h : Sa B0 W (.slice a8 n c8) ags) (hp : Ss W (.slice a9 n c9) parts) (h1 : ags.length = n) (h2 : parts.length = n) (hn : n ≤ 4398046510976) (hl : ∀ g ∈ ags, g.l.length ≤ 4398046510976)
    (hpl : ∀ k part X, parts[k]? = some part → Below W.heap.size W X → Calls Tryz.prog 70 #[.string ⟨(Lib.trimPrefix part [97]).toArray⟩, vs] X fun e w' => e = .returned (pv k) ∧ Below X.heap.size X w')
    (htk : ∀ k g t a c X, ags[k]? = some g → t ∈ g.l → Si B0 X (.slice a t.s.length c) t.s → Below W.heap.size W X → Calls Tryz.prog 72 #[pv k, .agg #[.int .i64 t.v, .bool t.set, .int .i64 t.n, .slice a t.s.length c]] X fun e w' => e = .returned (.bool (tk k t)) ∧ Below X.heap.size X w') :
    Calls Tryz.prog 50 #[.slice a8 n c8, .slice a9 n c9, vs] W fun e w' => e = .returned (.bool (tkL tk ags n)) ∧ Below W.heap.size W w' := by
  have HA : Hid (Sa B0 W (.slice a8 n c8) ags) := h
  have HP : Hid (Ss W (.slice a9 n c9) parts) := hp
  have HN : Hid (ags.length = n ∧ parts.length = n) := ⟨h1, h2⟩
  have HL : Hid (∀ g ∈ ags, g.l.length ≤ 4398046510976) := hl
  have kT := fun (s : List UInt8) => Any.strings_TrimPrefix Tryz.laysTrimPrefix71 ⟨s.toArray⟩ ⟨#[97]⟩
  clear h hp h1 h2 hl
  go_enter Tryz.func50, Tryz.ntmps50
  go_wp2
  go_loopw [14] (fun i wr => ∃ k : Nat, k ≤ n ∧ i = .int .i64 (k : Int) ∧ Hid (tkL tk ags k = true) ∧ Hid (Below W.heap.size W wr)) (fun i _ => n - (intOf i).toNat)
  case atStart => exact ⟨0, Nat.zero_le _, rfl, rfl, Below.refl _ _⟩
  case round =>
    obtain ⟨k, hk, rfl, HQ, HB⟩ := hrel
    by_cases hlt : k < n
    · have hlt' : (k : Int) < n := by omega
      obtain ⟨g, hg⟩ : ∃ g, ags[k]? = some g := ⟨_, List.getElem?_eq_getElem (by rw [HN.out.1]; exact hlt)⟩
      obtain ⟨p, hp⟩ : ∃ p, parts[k]? = some p := ⟨_, List.getElem?_eq_getElem (by rw [HN.out.2]; exact hlt)⟩
      obtain ⟨b, off, a2, c2, rfl, hb, hst, d0, d1⟩ := HA.out.at hg
      obtain ⟨b2, rfl, hb2, d2⟩ := HP.out.at hp
      have y2 := (HB.out.cell (p := ⟨b2, k, none⟩) hb2).trans d2
      have hw2 : IntKind.i64.wrap ((k : Int) + 1) = (k : Int) + 1 := by rw [IntKind.wrap_i64]; omega
      have kP := hpl k p wr hp HB.out
      have HG : Hid (ags[k]? = some g) := hg
      obtain ⟨m, hm⟩ : ∃ m, g.l.length = m := ⟨_, rfl⟩
      have hm9 : m ≤ 4398046510976 := hm ▸ HL.out g (List.mem_of_getElem? hg)
      rw [hm] at hst d1
      have HST : Hid (St B0 W (.slice a2 m c2) g.l) := hst
      have HM : Hid (g.l.length = m) := hm
      clear hst hm hg hp d0 d2
      go_wp2_with fail
      refine (kT p _).mono ?_
      rintro e w1 ⟨rfl, rfl⟩
      go_wp2_with fail
      refine kP.mono ?_
      clear kP
      rintro e w2 ⟨rfl, hb2'⟩
      have HB2 : Hid (Below W.heap.size W w2) := HB.out.trans (hb2'.mono HB.out.size)
      have y1 := (HB2.out.cell (p := ⟨b, off + k * 2 + 1, none⟩) hb).trans d1
      clear d1 hb2' y2
      go_wp2
      go_loopw [30] (fun j wq => ∃ q : Nat, q ≤ m ∧ j = .int .i64 (q : Int) ∧ Hid ((g.l.take q).all (tk k) = true) ∧ Hid (Below W.heap.size W wq)) (fun j _ => m - (intOf j).toNat)
      case atStart => exact ⟨0, Nat.zero_le _, rfl, by simp [Hid], HB2⟩
      case round =>
        obtain ⟨q, hq, rfl, HQ2, HBQ⟩ := hrel
        by_cases hqt : q < m
        · have hqt' : (q : Int) < m := by omega
          obtain ⟨t, ht⟩ : ∃ t, g.l[q]? = some t := ⟨_, List.getElem?_eq_getElem (by rw [HM.out]; exact hqt)⟩
          obtain ⟨b3, off3, a4, c4, rfl, hb3, hsi, d0, d1, d2, d3⟩ := HST.out.at ht
          have y0 := (HBQ.out.cell (p := ⟨b3, off3 + q * 4, none⟩) hb3).trans d0
          have y1 := (HBQ.out.cell (p := ⟨b3, off3 + q * 4 + 1, none⟩) hb3).trans d1
          have y2 := (HBQ.out.cell (p := ⟨b3, off3 + q * 4 + 2, none⟩) hb3).trans d2
          have y3 := (HBQ.out.cell (p := ⟨b3, off3 + q * 4 + 3, none⟩) hb3).trans d3
          have hbA : Below wr.heap.size wr (wr.alloc (Obj.cells #[.int .i64 t.v, .bool t.set, .int .i64 t.n, .slice a4 t.s.length c4] 46)) := (Below.refl _ wr).alloc (Nat.le_refl _) _
          have hBA := HBQ.out.trans (hbA.mono HBQ.out.size)
          have kt := htk k g t a4 c4 _ HG.out (List.mem_of_getElem? ht) (hsi.below hBA) hBA
          have HSU : Hid ((g.l.take (q + 1)).all (tk k) = ((g.l.take q).all (tk k) && tk k t)) := by
            obtain ⟨hi, rfl⟩ := List.getElem?_eq_some_iff.1 ht
            show (g.l.take (q + 1)).all (tk k) = _
            rw [List.take_succ_eq_append_getElem hi, List.all_append]
            simp
          have HMEM : Hid (t ∈ g.l) := List.mem_of_getElem? ht
          have HBA : Hid _ := hBA
          clear d0 d1 d2 d3 ht hsi hbA hBA
          have hw3 : IntKind.i64.wrap ((q : Int) + 1) = (q : Int) + 1 := by rw [IntKind.wrap_i64]; omega
          go_wp2_with fail
          refine kt.mono ?_
          clear kt
          rintro e w5 ⟨rfl, hb5⟩
          have HB5 : Hid (Below W.heap.size W w5) := HBA.out.trans (hb5.mono HBA.out.size)
          clear hb5
          obtain ⟨r, hr⟩ : ∃ r, tk k t = r := ⟨_, rfl⟩
          rw [hr] at HSU ⊢
          rw [HQ2.out] at HSU
          have HR : Hid (tk k t = r) := hr
          clear hr
          cases r with
          | true =>
            go_wp2
            go_roundw
            case rel => exact ⟨q + 1, by omega, by go_num, by rw [HSU.out]; rfl, HB5⟩
            case measure => simp [intOf]; omega
          | false =>
            have HF : Hid (tkL tk ags n = false) := by
              refine tkL_false (k := k + 1) ?_ n (by omega)
              rw [tkL_succ HG.out]
              have : g.l.all (tk k) = false := List.all_eq_false.2 ⟨t, HMEM.out, by rw [HR.out]; simp⟩
              rw [this]; simp
            go_wp2
            go_ret
            exact ⟨by rw [HF.out]; rfl, HB5.out⟩
        · have hqt' : ¬ (q : Int) < m := by omega
          obtain rfl : q = m := by omega
          have HF : Hid (tkL tk ags (k + 1) = true) := by
            have h9 := HQ2.out
            rw [List.take_of_length_le (by rw [HM.out]; exact Nat.le_refl _)] at h9
            show tkL tk ags (k + 1) = true
            rw [tkL_succ HG.out, HQ.out, h9]; rfl
          go_wp2
          go_roundw
          case rel => exact ⟨k + 1, by omega, by go_num, HF, HBQ⟩
          case measure => simp [intOf]; omega
    · have hlt' : ¬ (k : Int) < n := by omega
      obtain rfl : k = n := by omega
      go_wp2
      go_ret
      exact ⟨by rw [HQ.out]; rfl, HB.out⟩
end Go.Proofs.YtpgecdhieakilaaGreatDoor

namespace Go.Proofs.YtpgecdhieakilaaGreatDoor
open Go.RowKit Go.Shelf
set_option linter.unusedVariables false
set_option linter.unusedSimpArgs false

theorem Si.at {B : Nat} {W : World} {a : Option Addr} {n c : Nat} {l : List Int} (h : Si B W (.slice a n c) l) {i : Nat} {x : Int} (hx : l[i]? = some x) : ∃ b off, a = some ⟨b, off, none⟩ ∧ b < W.heap.size ∧ W.cell? ⟨b, off + i, none⟩ = some (.int .i64 x) := by
  obtain ⟨a0, c0, e, h⟩ := h
  injection e with ea en ec
  subst ea
  have hi : i < l.length := (List.getElem?_eq_some_iff.1 hx).1
  obtain ⟨b, off, e1, e0, e2, e3⟩ := h (by omega)
  exact ⟨b, off, e1, e2, e3 i x hx⟩
theorem take_eq_succ {α : Type} {l1 l2 : List α} {k : Nat} {x y : α} (hx : l1[k]? = some x) (hy : l2[k]? = some y) (h : l1.take k = l2.take k) : l1.take (k + 1) = l2.take (k + 1) ↔ x = y := by
  obtain ⟨hi, rfl⟩ := List.getElem?_eq_some_iff.1 hx
  obtain ⟨hj, rfl⟩ := List.getElem?_eq_some_iff.1 hy
  rw [List.take_succ_eq_append_getElem hi, List.take_succ_eq_append_getElem hj, h]
  exact ⟨fun e => by have := List.append_cancel_left e; injection this, fun e => by rw [e]⟩
theorem take_eq_all {α : Type} {l1 l2 : List α} {n : Nat} (h1 : l1.length = n) (h2 : l2.length = n) (h : l1.take n = l2.take n) : l1 = l2 := by
  rwa [List.take_of_length_le (by omega), List.take_of_length_le (by omega)] at h

set_option maxRecDepth 100000 in
set_option maxHeartbeats 4000000 in
theorem same61 {B1 B2 : Nat} {W : World} {s1 s2 : Value} {l1 l2 : List Int} (h1 : Si B1 W s1 l1) (h2 : Si B2 W s2 l2) (hz1 : l1.length ≤ 17592186043904) (hz2 : l2.length ≤ 17592186043904) :
    Calls Tryz.prog 61 #[s1, s2] W fun e w' => e = .returned (.bool (decide (l1 = l2))) ∧ Below W.heap.size W w' := by
  obtain ⟨a1, c1, rfl, h1'⟩ := h1
  obtain ⟨a2, c2, rfl, h2'⟩ := h2
  have H1 : Hid (Si B1 W (.slice a1 l1.length c1) l1) := ⟨_, _, rfl, h1'⟩
  have H2 : Hid (Si B2 W (.slice a2 l2.length c2) l2) := ⟨_, _, rfl, h2'⟩
  clear h1' h2'
  obtain ⟨n1, hn1⟩ : ∃ n, l1.length = n := ⟨_, rfl⟩
  obtain ⟨n2, hn2⟩ : ∃ n, l2.length = n := ⟨_, rfl⟩
  rw [hn1] at hz1 H1 ⊢
  rw [hn2] at hz2 H2 ⊢
  have HN : Hid (l1.length = n1 ∧ l2.length = n2) := ⟨hn1, hn2⟩
  clear hn1 hn2
  by_cases hne : n1 = n2
  · subst hne
    go_enter Tryz.func61, Tryz.ntmps61
    go_wp2
    go_loopw [5] (fun i wr => ∃ k : Nat, k ≤ n1 ∧ i = .int .i64 (k : Int) ∧ Hid (l1.take k = l2.take k) ∧ Hid (Below W.heap.size W wr)) (fun i _ => n1 - (intOf i).toNat)
    case atStart => exact ⟨0, Nat.zero_le _, rfl, by simp [Hid], Below.refl _ _⟩
    case round =>
      obtain ⟨k, hk, rfl, HQ, HB⟩ := hrel
      by_cases hlt : k < n1
      · have hlt' : (k : Int) < n1 := by omega
        obtain ⟨x, hx⟩ : ∃ x, l1[k]? = some x := ⟨_, List.getElem?_eq_getElem (by rw [HN.out.1]; exact hlt)⟩
        obtain ⟨y, hy⟩ : ∃ x, l2[k]? = some x := ⟨_, List.getElem?_eq_getElem (by rw [HN.out.2]; exact hlt)⟩
        obtain ⟨b1, o1, rfl, hb1, d1⟩ := H1.out.at hx
        obtain ⟨b2, o2, rfl, hb2, d2⟩ := H2.out.at hy
        have y1 := (HB.out.cell (p := ⟨b1, o1 + k, none⟩) hb1).trans d1
        have y2 := (HB.out.cell (p := ⟨b2, o2 + k, none⟩) hb2).trans d2
        have HS : Hid (l1.take (k + 1) = l2.take (k + 1) ↔ x = y) := take_eq_succ hx hy HQ.out
        clear d1 d2 hx hy
        have hw2 : IntKind.i64.wrap ((k : Int) + 1) = (k : Int) + 1 := by rw [IntKind.wrap_i64]; omega
        by_cases hxy : x = y
        · have HT : Hid _ := HS.out.2 hxy
          subst hxy
          go_wp2
          go_quiet (fail)
          go_wp2
          go_roundw
          case rel => exact ⟨k + 1, by omega, by go_num, HT, below_drewN HB.out _⟩
          case measure => simp [intOf]; omega
        · have HF : Hid (l1 ≠ l2) := fun e => hxy (HS.out.1 (by rw [e]))
          have hd : (x != y) = true := by simpa using hxy
          have hd2 : (x == y) = false := by simpa using hxy
          go_wp2
          go_quiet (fail)
          go_wp2
          go_ret
          exact ⟨by simp [HF.out], below_drewN HB.out _⟩
      · have hlt' : ¬ (k : Int) < n1 := by omega
        obtain rfl : k = n1 := by omega
        have HT : Hid (l1 = l2) := take_eq_all HN.out.1 HN.out.2 HQ.out
        go_wp2
        go_ret
        exact ⟨by simp [HT.out], HB.out⟩
  · have HF : Hid (l1 ≠ l2) := fun e => hne (by rw [← HN.out.1, ← HN.out.2, e])
    have hd : ((n1 : Int) != n2) = true := by simp; omega
    have hd2 : ((n1 : Int) == n2) = false := by simp; omega
    go_enter Tryz.func61, Tryz.ntmps61
    go_wp2
    go_ret
    exact ⟨by simp [HF.out], Below.refl _ _⟩

set_option maxRecDepth 100000 in
set_option maxHeartbeats 4000000 in
theorem sameVal34 {B1 B2 : Nat} {W : World} {s1 s2 : Value} {l1 l2 : List Int} (b1 b2 : Bool) (n1 n2 : Int) (h1 : Si B1 W s1 l1) (h2 : Si B2 W s2 l2) (hz1 : l1.length ≤ 17592186043904) (hz2 : l2.length ≤ 17592186043904) :
    Calls Tryz.prog 34 #[.agg #[.bool b1, .int .i64 n1, s1], .agg #[.bool b2, .int .i64 n2, s2]] W fun e w' => e = .returned (.bool (decide (b1 = b2 ∧ n1 = n2 ∧ l1 = l2))) ∧ Below W.heap.size W w' := by
  obtain ⟨a1, c1, rfl, h1'⟩ := h1
  obtain ⟨a2, c2, rfl, h2'⟩ := h2
  have hbA : Below W.heap.size W ((W.alloc (Obj.cells #[.bool b1, .int .i64 n1, .slice a1 l1.length c1] 44)).alloc (Obj.cells #[.bool b2, .int .i64 n2, .slice a2 l2.length c2] 44)) := ((Below.refl _ W).alloc (Nat.le_refl _) _).alloc (by simp) _
  have k := same61 ((show Si B1 W (.slice a1 l1.length c1) l1 from ⟨_, _, rfl, h1'⟩).below hbA) ((show Si B2 W (.slice a2 l2.length c2) l2 from ⟨_, _, rfl, h2'⟩).below hbA) hz1 hz2
  have HBA : Hid _ := hbA
  clear h1' h2' hbA
  obtain ⟨m1, hm1⟩ : ∃ n, l1.length = n := ⟨_, rfl⟩
  obtain ⟨m2, hm2⟩ : ∃ n, l2.length = n := ⟨_, rfl⟩
  obtain ⟨r, hr⟩ : ∃ r, decide (l1 = l2) = r := ⟨_, rfl⟩
  rw [hm1, hm2, hr] at k
  rw [hm1, hm2] at HBA ⊢
  have HR : Hid (decide (l1 = l2) = r) := hr
  clear hm1 hm2 hr hz1 hz2
  by_cases hb : b1 = b2
  · subst hb
    by_cases hn : n1 = n2
    · subst hn
      go_enter Tryz.func34, Tryz.ntmps34
      cases b1 <;>
      · go_wp2_with fail
        refine k.mono ?_
        rintro e w1 ⟨rfl, hb1⟩
        have HB1 : Hid (Below W.heap.size W w1) := HBA.out.trans (hb1.mono (by simp; omega))
        clear hb1
        go_wp2
        go_ret
        exact ⟨by rw [← HR.out]; simp, HB1.out⟩
    · have hd : (n1 == n2) = false := by simpa using hn
      clear k
      go_enter Tryz.func34, Tryz.ntmps34
      cases b1 <;>
      · go_wp2
        go_ret
        exact ⟨by simp [hn], HBA.out⟩
  · clear k
    go_enter Tryz.func34, Tryz.ntmps34
    cases b1 <;> cases b2 <;> first
    | exact absurd rfl hb
    | (go_wp2
       go_ret
       exact ⟨rfl, HBA.out⟩)

set_option maxRecDepth 100000 in
set_option maxHeartbeats 4000000 in
theorem sameTerm32 {B1 B2 : Nat} {W : World} {s1 s2 : Value} {l1 l2 : List Int} (v1 v2 : Int) (b1 b2 : Bool) (n1 n2 : Int) (h1 : Si B1 W s1 l1) (h2 : Si B2 W s2 l2) (hz1 : l1.length ≤ 17592186043904) (hz2 : l2.length ≤ 17592186043904) :
    Calls Tryz.prog 32 #[.agg #[.int .i64 v1, .bool b1, .int .i64 n1, s1], .agg #[.int .i64 v2, .bool b2, .int .i64 n2, s2]] W fun e w' => e = .returned (.bool (decide (v1 = v2 ∧ b1 = b2 ∧ n1 = n2 ∧ l1 = l2))) ∧ Below W.heap.size W w' := by
  obtain ⟨a1, c1, rfl, h1'⟩ := h1
  obtain ⟨a2, c2, rfl, h2'⟩ := h2
  have hbA : Below W.heap.size W ((W.alloc (Obj.cells #[.int .i64 v1, .bool b1, .int .i64 n1, .slice a1 l1.length c1] 46)).alloc (Obj.cells #[.int .i64 v2, .bool b2, .int .i64 n2, .slice a2 l2.length c2] 46)) := ((Below.refl _ W).alloc (Nat.le_refl _) _).alloc (by simp) _
  have k := sameVal34 b1 b2 n1 n2 ((show Si B1 W (.slice a1 l1.length c1) l1 from ⟨_, _, rfl, h1'⟩).below hbA) ((show Si B2 W (.slice a2 l2.length c2) l2 from ⟨_, _, rfl, h2'⟩).below hbA) hz1 hz2
  have HBA : Hid _ := hbA
  clear h1' h2' hbA
  obtain ⟨m1, hm1⟩ : ∃ n, l1.length = n := ⟨_, rfl⟩
  obtain ⟨m2, hm2⟩ : ∃ n, l2.length = n := ⟨_, rfl⟩
  obtain ⟨r, hr⟩ : ∃ r, decide (b1 = b2 ∧ n1 = n2 ∧ l1 = l2) = r := ⟨_, rfl⟩
  rw [hm1, hm2, hr] at k
  rw [hm1, hm2] at HBA ⊢
  have HR : Hid (decide (b1 = b2 ∧ n1 = n2 ∧ l1 = l2) = r) := hr
  clear hm1 hm2 hr hz1 hz2
  by_cases hv : v1 = v2
  · subst hv
    go_enter Tryz.func32, Tryz.ntmps32
    go_wp2_with fail
    refine k.mono ?_
    rintro e w1 ⟨rfl, hb1⟩
    have HB1 : Hid (Below W.heap.size W w1) := HBA.out.trans (hb1.mono (by simp; omega))
    clear hb1
    go_wp2
    go_ret
    exact ⟨by rw [← HR.out]; simp, HB1.out⟩
  · have hd : (v1 == v2) = false := by simpa using hv
    clear k
    go_enter Tryz.func32, Tryz.ntmps32
    go_wp2
    go_ret
    exact ⟨by simp [hv], HBA.out⟩
end Go.Proofs.YtpgecdhieakilaaGreatDoor
