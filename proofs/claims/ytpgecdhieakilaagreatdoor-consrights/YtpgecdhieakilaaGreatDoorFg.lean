/-
  What is proved here: fits, of any constraint whose arguments are as its form says.
-/
import Derived.Test.YtpgecdhieakilaaGreatDoorFf
import Derived.Lib.RowBridge
namespace Go.Proofs.YtpgecdhieakilaaGreatDoor
open Go.RowKit Go.Shelf
set_option linter.unusedVariables false
set_option linter.unusedSimpArgs false

/-- Which rule a constraint has that its form does not tell. -/
def ruleN (nm : List UInt8) : Nat :=
  if nm = [102, 122, 110, 95, 115, 111, 114, 116] then 1 else
  if nm = [102, 122, 110, 95, 105, 110, 118, 101, 114, 115, 101] then 1 else
  if nm = [102, 122, 110, 95, 100, 105, 115, 106, 117, 110, 99, 116, 105, 118, 101] then 1 else
  if nm = [102, 122, 110, 95, 100, 105, 102, 102, 110] then 1 else
  if nm = [102, 122, 110, 95, 103, 108, 111, 98, 97, 108, 95, 99, 97, 114, 100, 105, 110, 97, 108, 105, 116, 121] then 2 else
  if nm = [102, 122, 110, 95, 103, 108, 111, 98, 97, 108, 95, 99, 97, 114, 100, 105, 110, 97, 108, 105, 116, 121, 95, 99, 108, 111, 115, 101, 100] then 2 else
  if nm = [102, 122, 110, 95, 109, 97, 120, 105, 109, 117, 109, 95, 105, 110, 116] then 3 else
  if nm = [102, 122, 110, 95, 109, 105, 110, 105, 109, 117, 109, 95, 105, 110, 116] then 3 else
  if nm = [102, 122, 110, 95, 116, 97, 98, 108, 101, 95, 105, 110, 116] then 4 else
  if nm = [102, 122, 110, 95, 114, 101, 103, 117, 108, 97, 114] then 5 else
  if nm = [102, 122, 110, 95, 99, 117, 109, 117, 108, 97, 116, 105, 118, 101] then 6 else
  if nm = [102, 122, 110, 95, 98, 105, 110, 95, 112, 97, 99, 107, 105, 110, 103] then 7 else
  if nm = [102, 122, 110, 95, 98, 105, 110, 95, 112, 97, 99, 107, 105, 110, 103, 95, 99, 97, 112, 97] then 7 else
  if nm = [102, 122, 110, 95, 98, 105, 110, 95, 112, 97, 99, 107, 105, 110, 103, 95, 108, 111, 97, 100] then 7 else
  if nm = [102, 122, 110, 95, 107, 110, 97, 112, 115, 97, 99, 107] then 8 else
  if Lib.hasPrefix nm [105, 110, 116, 95, 108, 105, 110, 95] || Lib.hasPrefix nm [98, 111, 111, 108, 95, 108, 105, 110, 95] then 9 else 0
def agAt (ags : List Ag) (i : Nat) : Ag := (ags[i]?).getD ⟨false, []⟩
def fstN (g : Ag) : Int := ((g.l[0]?).getD (⟨0, false, 0, []⟩ : Tm)).n
def fitsB (nm : List UInt8) (ags : List Ag) : Bool := match ruleN nm with
  | 1 => manyB ags
  | 2 => manyB (ags.drop 1) && twiceB (agAt ags 1)
  | 3 => decide (0 < (agAt ags 1).l.length)
  | 4 => decide (0 < (agAt ags 0).l.length) && decide ((agAt ags 1).l.length % (agAt ags 0).l.length = 0)
  | 5 => autoB (fstN (agAt ags 1)) (fstN (agAt ags 2)) (fstN (agAt ags 4)) (agAt ags 3)
  | 6 => manyB (ags.take 3)
  | 7 => manyB (ags.drop 1) && !(numL (agAt ags 2)).any negB
  | 8 => manyB (ags.take 3) && (!(numL (agAt ags 0)).any negB && !(numL (agAt ags 1)).any negB)
  | 9 => manyB (ags.take 2)
  | _ => true
theorem Sa.drop {B : Nat} {W : World} {b off : Nat} {n c k : Nat} {ags : List Ag} (h : Sa B W (.slice (some ⟨b, off, none⟩) n c) ags) (hk : k ≤ ags.length) : Sa B W (.slice (some ⟨b, off + k * 2, none⟩) (n - k) (c - k)) (ags.drop k) := by
  obtain ⟨a0, c0, e, h⟩ := h
  injection e with ea en ec
  subst ea; subst ec; subst en
  refine ⟨_, _, by rw [List.length_drop], fun h0 => ?_⟩
  rw [List.length_drop] at h0
  obtain ⟨b', off', svl, e1, e0, e2, e3, e4⟩ := h (by omega)
  injection e1 with e1
  injection e1 with q1 q2
  subst q1; subst q2
  refine ⟨b, off + k * 2, svl.drop k, rfl, e0, e2, by simp; omega, fun i g sv h1 h2 => ?_⟩
  rw [List.getElem?_drop] at h1 h2
  have := e4 (k + i) g sv h1 h2
  rw [show off + k * 2 + i * 2 = off + (k + i) * 2 by omega]
  exact this
theorem compact_num (g : Ag) : (Lib.compact (sortL (numL g))).length ≤ (numL g).length := by
  have := Lib.compact_length_le (sortL (numL g))
  rwa [sortL_len] at this
theorem agAt_some {ags : List Ag} {i : Nat} (h : i < ags.length) : ags[i]? = some (agAt ags i) := by unfold agAt; rw [List.getElem?_eq_getElem h]; rfl

set_option maxRecDepth 100000 in
set_option maxHeartbeats 4000000 in
theorem fits_fzn_sort {B : Nat} {W : World} {a8 : Option Addr} {c8 : Nat} {ags : List Ag} (h : Sa B W (.slice a8 2 c8) ags) (hlen : ags.length = 2) (hc : 2 ≤ c8) (hc9 : c8 ≤ 9223372036854775807) (hl : ∀ g ∈ ags, g.l.length ≤ 1000) :
    Calls Tryz.prog 51 #[.agg #[.string ⟨#[102, 122, 110, 95, 115, 111, 114, 116]⟩, .slice a8 2 c8]] W fun e w' => e = .returned (.bool (fitsB [102, 122, 110, 95, 115, 111, 114, 116] ags)) ∧ Below W.heap.size W w' := by
  obtain ⟨b, off, rfl⟩ : ∃ b off, a8 = some ⟨b, off, none⟩ := by
    obtain ⟨b, off, _, _, e, _⟩ := h.at (agAt_some (i := 0) (by omega))
    exact ⟨b, off, e⟩
  have hbA : Below W.heap.size W (W.alloc (Obj.cells #[.string ⟨#[102, 122, 110, 95, 115, 111, 114, 116]⟩, .slice (some ⟨b, off, none⟩) 2 c8] 32)) := (Below.refl _ W).alloc (Nat.le_refl _) _
  have hA := h.below hbA
  have HA : Hid (Sa B (W.alloc (Obj.cells #[.string ⟨#[102, 122, 110, 95, 115, 111, 114, 116]⟩, .slice (some ⟨b, off, none⟩) 2 c8] 32)) (.slice (some ⟨b, off, none⟩) 2 c8) ags) := hA
  have HBA : Hid (Below W.heap.size W (W.alloc (Obj.cells #[.string ⟨#[102, 122, 110, 95, 115, 111, 114, 116]⟩, .slice (some ⟨b, off, none⟩) 2 c8] 32))) := hbA
  have HL : Hid (∀ g ∈ ags, g.l.length ≤ 1000) := hl
  have HLEN : Hid (ags.length = 2) := hlen
  have kM := asManyG hA hlen (by omega) (fun g hg => by have := HL.out g hg; omega)
  clear hA h hbA hl hlen
  go_enter Tryz.func51, Tryz.ntmps51
  go_wp2_with fail
  refine kM.mono ?_
  clear kM
  rintro e w1 ⟨rfl, hb⟩
  have HBw1 : Hid (Below W.heap.size W w1) := HBA.out.trans (hb.mono (by simp))
  clear hb
  go_wp2
  go_ret
  exact ⟨rfl, HBw1.out⟩

set_option maxRecDepth 100000 in
set_option maxHeartbeats 4000000 in
theorem fits_fzn_inverse {B : Nat} {W : World} {a8 : Option Addr} {c8 : Nat} {ags : List Ag} (h : Sa B W (.slice a8 2 c8) ags) (hlen : ags.length = 2) (hc : 2 ≤ c8) (hc9 : c8 ≤ 9223372036854775807) (hl : ∀ g ∈ ags, g.l.length ≤ 1000) :
    Calls Tryz.prog 51 #[.agg #[.string ⟨#[102, 122, 110, 95, 105, 110, 118, 101, 114, 115, 101]⟩, .slice a8 2 c8]] W fun e w' => e = .returned (.bool (fitsB [102, 122, 110, 95, 105, 110, 118, 101, 114, 115, 101] ags)) ∧ Below W.heap.size W w' := by
  obtain ⟨b, off, rfl⟩ : ∃ b off, a8 = some ⟨b, off, none⟩ := by
    obtain ⟨b, off, _, _, e, _⟩ := h.at (agAt_some (i := 0) (by omega))
    exact ⟨b, off, e⟩
  have hbA : Below W.heap.size W (W.alloc (Obj.cells #[.string ⟨#[102, 122, 110, 95, 105, 110, 118, 101, 114, 115, 101]⟩, .slice (some ⟨b, off, none⟩) 2 c8] 32)) := (Below.refl _ W).alloc (Nat.le_refl _) _
  have hA := h.below hbA
  have HA : Hid (Sa B (W.alloc (Obj.cells #[.string ⟨#[102, 122, 110, 95, 105, 110, 118, 101, 114, 115, 101]⟩, .slice (some ⟨b, off, none⟩) 2 c8] 32)) (.slice (some ⟨b, off, none⟩) 2 c8) ags) := hA
  have HBA : Hid (Below W.heap.size W (W.alloc (Obj.cells #[.string ⟨#[102, 122, 110, 95, 105, 110, 118, 101, 114, 115, 101]⟩, .slice (some ⟨b, off, none⟩) 2 c8] 32))) := hbA
  have HL : Hid (∀ g ∈ ags, g.l.length ≤ 1000) := hl
  have HLEN : Hid (ags.length = 2) := hlen
  have kM := asManyG hA hlen (by omega) (fun g hg => by have := HL.out g hg; omega)
  clear hA h hbA hl hlen
  go_enter Tryz.func51, Tryz.ntmps51
  go_wp2_with fail
  refine kM.mono ?_
  clear kM
  rintro e w1 ⟨rfl, hb⟩
  have HBw1 : Hid (Below W.heap.size W w1) := HBA.out.trans (hb.mono (by simp))
  clear hb
  go_wp2
  go_ret
  exact ⟨rfl, HBw1.out⟩

set_option maxRecDepth 100000 in
set_option maxHeartbeats 4000000 in
theorem fits_fzn_disjunctive {B : Nat} {W : World} {a8 : Option Addr} {c8 : Nat} {ags : List Ag} (h : Sa B W (.slice a8 2 c8) ags) (hlen : ags.length = 2) (hc : 2 ≤ c8) (hc9 : c8 ≤ 9223372036854775807) (hl : ∀ g ∈ ags, g.l.length ≤ 1000) :
    Calls Tryz.prog 51 #[.agg #[.string ⟨#[102, 122, 110, 95, 100, 105, 115, 106, 117, 110, 99, 116, 105, 118, 101]⟩, .slice a8 2 c8]] W fun e w' => e = .returned (.bool (fitsB [102, 122, 110, 95, 100, 105, 115, 106, 117, 110, 99, 116, 105, 118, 101] ags)) ∧ Below W.heap.size W w' := by
  obtain ⟨b, off, rfl⟩ : ∃ b off, a8 = some ⟨b, off, none⟩ := by
    obtain ⟨b, off, _, _, e, _⟩ := h.at (agAt_some (i := 0) (by omega))
    exact ⟨b, off, e⟩
  have hbA : Below W.heap.size W (W.alloc (Obj.cells #[.string ⟨#[102, 122, 110, 95, 100, 105, 115, 106, 117, 110, 99, 116, 105, 118, 101]⟩, .slice (some ⟨b, off, none⟩) 2 c8] 32)) := (Below.refl _ W).alloc (Nat.le_refl _) _
  have hA := h.below hbA
  have HA : Hid (Sa B (W.alloc (Obj.cells #[.string ⟨#[102, 122, 110, 95, 100, 105, 115, 106, 117, 110, 99, 116, 105, 118, 101]⟩, .slice (some ⟨b, off, none⟩) 2 c8] 32)) (.slice (some ⟨b, off, none⟩) 2 c8) ags) := hA
  have HBA : Hid (Below W.heap.size W (W.alloc (Obj.cells #[.string ⟨#[102, 122, 110, 95, 100, 105, 115, 106, 117, 110, 99, 116, 105, 118, 101]⟩, .slice (some ⟨b, off, none⟩) 2 c8] 32))) := hbA
  have HL : Hid (∀ g ∈ ags, g.l.length ≤ 1000) := hl
  have HLEN : Hid (ags.length = 2) := hlen
  have kM := asManyG hA hlen (by omega) (fun g hg => by have := HL.out g hg; omega)
  clear hA h hbA hl hlen
  go_enter Tryz.func51, Tryz.ntmps51
  go_wp2_with fail
  refine kM.mono ?_
  clear kM
  rintro e w1 ⟨rfl, hb⟩
  have HBw1 : Hid (Below W.heap.size W w1) := HBA.out.trans (hb.mono (by simp))
  clear hb
  go_wp2
  go_ret
  exact ⟨rfl, HBw1.out⟩

set_option maxRecDepth 100000 in
set_option maxHeartbeats 4000000 in
theorem fits_fzn_diffn {B : Nat} {W : World} {a8 : Option Addr} {c8 : Nat} {ags : List Ag} (h : Sa B W (.slice a8 4 c8) ags) (hlen : ags.length = 4) (hc : 4 ≤ c8) (hc9 : c8 ≤ 9223372036854775807) (hl : ∀ g ∈ ags, g.l.length ≤ 1000) :
    Calls Tryz.prog 51 #[.agg #[.string ⟨#[102, 122, 110, 95, 100, 105, 102, 102, 110]⟩, .slice a8 4 c8]] W fun e w' => e = .returned (.bool (fitsB [102, 122, 110, 95, 100, 105, 102, 102, 110] ags)) ∧ Below W.heap.size W w' := by
  obtain ⟨b, off, rfl⟩ : ∃ b off, a8 = some ⟨b, off, none⟩ := by
    obtain ⟨b, off, _, _, e, _⟩ := h.at (agAt_some (i := 0) (by omega))
    exact ⟨b, off, e⟩
  have hbA : Below W.heap.size W (W.alloc (Obj.cells #[.string ⟨#[102, 122, 110, 95, 100, 105, 102, 102, 110]⟩, .slice (some ⟨b, off, none⟩) 4 c8] 32)) := (Below.refl _ W).alloc (Nat.le_refl _) _
  have hA := h.below hbA
  have HA : Hid (Sa B (W.alloc (Obj.cells #[.string ⟨#[102, 122, 110, 95, 100, 105, 102, 102, 110]⟩, .slice (some ⟨b, off, none⟩) 4 c8] 32)) (.slice (some ⟨b, off, none⟩) 4 c8) ags) := hA
  have HBA : Hid (Below W.heap.size W (W.alloc (Obj.cells #[.string ⟨#[102, 122, 110, 95, 100, 105, 102, 102, 110]⟩, .slice (some ⟨b, off, none⟩) 4 c8] 32))) := hbA
  have HL : Hid (∀ g ∈ ags, g.l.length ≤ 1000) := hl
  have HLEN : Hid (ags.length = 4) := hlen
  have kM := asManyG hA hlen (by omega) (fun g hg => by have := HL.out g hg; omega)
  clear hA h hbA hl hlen
  go_enter Tryz.func51, Tryz.ntmps51
  go_wp2_with fail
  refine kM.mono ?_
  clear kM
  rintro e w1 ⟨rfl, hb⟩
  have HBw1 : Hid (Below W.heap.size W w1) := HBA.out.trans (hb.mono (by simp))
  clear hb
  go_wp2
  go_ret
  exact ⟨rfl, HBw1.out⟩

set_option maxRecDepth 100000 in
set_option maxHeartbeats 4000000 in
theorem fits_fzn_cumulative {B : Nat} {W : World} {a8 : Option Addr} {c8 : Nat} {ags : List Ag} (h : Sa B W (.slice a8 4 c8) ags) (hlen : ags.length = 4) (hc : 4 ≤ c8) (hc9 : c8 ≤ 9223372036854775807) (hl : ∀ g ∈ ags, g.l.length ≤ 1000) :
    Calls Tryz.prog 51 #[.agg #[.string ⟨#[102, 122, 110, 95, 99, 117, 109, 117, 108, 97, 116, 105, 118, 101]⟩, .slice a8 4 c8]] W fun e w' => e = .returned (.bool (fitsB [102, 122, 110, 95, 99, 117, 109, 117, 108, 97, 116, 105, 118, 101] ags)) ∧ Below W.heap.size W w' := by
  obtain ⟨b, off, rfl⟩ : ∃ b off, a8 = some ⟨b, off, none⟩ := by
    obtain ⟨b, off, _, _, e, _⟩ := h.at (agAt_some (i := 0) (by omega))
    exact ⟨b, off, e⟩
  have hbA : Below W.heap.size W (W.alloc (Obj.cells #[.string ⟨#[102, 122, 110, 95, 99, 117, 109, 117, 108, 97, 116, 105, 118, 101]⟩, .slice (some ⟨b, off, none⟩) 4 c8] 32)) := (Below.refl _ W).alloc (Nat.le_refl _) _
  have hA := h.below hbA
  have HA : Hid (Sa B (W.alloc (Obj.cells #[.string ⟨#[102, 122, 110, 95, 99, 117, 109, 117, 108, 97, 116, 105, 118, 101]⟩, .slice (some ⟨b, off, none⟩) 4 c8] 32)) (.slice (some ⟨b, off, none⟩) 4 c8) ags) := hA
  have HBA : Hid (Below W.heap.size W (W.alloc (Obj.cells #[.string ⟨#[102, 122, 110, 95, 99, 117, 109, 117, 108, 97, 116, 105, 118, 101]⟩, .slice (some ⟨b, off, none⟩) 4 c8] 32))) := hbA
  have HL : Hid (∀ g ∈ ags, g.l.length ≤ 1000) := hl
  have HLEN : Hid (ags.length = 4) := hlen
  have kM := asManyG (hA.take (k := 3) (by omega)) (by rw [List.length_take]; omega) (by omega) (fun g hg => by have := HL.out g (List.mem_of_mem_take hg); omega)
  have hq1 : (3 : Int) ≤ c8 := by omega
  clear hA h hbA hl hlen
  go_enter Tryz.func51, Tryz.ntmps51
  go_wp2_with fail
  refine kM.mono ?_
  clear kM
  rintro e w1 ⟨rfl, hb⟩
  have HBw1 : Hid (Below W.heap.size W w1) := HBA.out.trans (hb.mono (by simp))
  clear hb
  go_wp2
  go_ret
  exact ⟨rfl, HBw1.out⟩

set_option maxRecDepth 100000 in
set_option maxHeartbeats 4000000 in
theorem fits_fzn_global_cardinality {B : Nat} {W : World} {a8 : Option Addr} {c8 : Nat} {ags : List Ag} (h : Sa B W (.slice a8 3 c8) ags) (hlen : ags.length = 3) (hc : 3 ≤ c8) (hc9 : c8 ≤ 9223372036854775807) (hl : ∀ g ∈ ags, g.l.length ≤ 1000) :
    Calls Tryz.prog 51 #[.agg #[.string ⟨#[102, 122, 110, 95, 103, 108, 111, 98, 97, 108, 95, 99, 97, 114, 100, 105, 110, 97, 108, 105, 116, 121]⟩, .slice a8 3 c8]] W fun e w' => e = .returned (.bool (fitsB [102, 122, 110, 95, 103, 108, 111, 98, 97, 108, 95, 99, 97, 114, 100, 105, 110, 97, 108, 105, 116, 121] ags)) ∧ Below W.heap.size W w' := by
  obtain ⟨b, off, rfl⟩ : ∃ b off, a8 = some ⟨b, off, none⟩ := by
    obtain ⟨b, off, _, _, e, _⟩ := h.at (agAt_some (i := 0) (by omega))
    exact ⟨b, off, e⟩
  have hbA : Below W.heap.size W (W.alloc (Obj.cells #[.string ⟨#[102, 122, 110, 95, 103, 108, 111, 98, 97, 108, 95, 99, 97, 114, 100, 105, 110, 97, 108, 105, 116, 121]⟩, .slice (some ⟨b, off, none⟩) 3 c8] 32)) := (Below.refl _ W).alloc (Nat.le_refl _) _
  have hA := h.below hbA
  have HA : Hid (Sa B (W.alloc (Obj.cells #[.string ⟨#[102, 122, 110, 95, 103, 108, 111, 98, 97, 108, 95, 99, 97, 114, 100, 105, 110, 97, 108, 105, 116, 121]⟩, .slice (some ⟨b, off, none⟩) 3 c8] 32)) (.slice (some ⟨b, off, none⟩) 3 c8) ags) := hA
  have HBA : Hid (Below W.heap.size W (W.alloc (Obj.cells #[.string ⟨#[102, 122, 110, 95, 103, 108, 111, 98, 97, 108, 95, 99, 97, 114, 100, 105, 110, 97, 108, 105, 116, 121]⟩, .slice (some ⟨b, off, none⟩) 3 c8] 32))) := hbA
  have HL : Hid (∀ g ∈ ags, g.l.length ≤ 1000) := hl
  have HLEN : Hid (ags.length = 3) := hlen
  have kM := asManyG (hA.drop (k := 1) (by omega)) (by rw [List.length_drop]; omega) (by omega) (fun g hg => by have := HL.out g (List.mem_of_mem_drop hg); omega)
  have hq1 : (1 : Int) ≤ c8 := by omega
  have hq2 : ¬ c8 = 1 := by omega
  have hq3 : ¬ (c8 : Int) = 1 := by omega
  clear hA h hbA hl hlen
  go_enter Tryz.func51, Tryz.ntmps51
  obtain ⟨r, hr⟩ : ∃ r, manyB (ags.drop 1) = r := ⟨_, rfl⟩
  rw [hr] at kM
  have HR : Hid (manyB (ags.drop 1) = r) := hr
  clear hr
  go_wp2_with fail
  refine kM.mono ?_
  clear kM
  rintro e w1 ⟨rfl, hb⟩
  have HBw1 : Hid (Below W.heap.size W w1) := HBA.out.trans (hb.mono (by simp))
  obtain ⟨b', off', a2, c2, e', hbb, hst, d0, d1⟩ := HA.out.at (agAt_some (i := 1) (by have := HLEN.out; omega))
  injection e' with e'; injection e' with q1 q2; subst q1; subst q2
  have hlt : b < w1.heap.size := Nat.lt_of_lt_of_le hbb hb.size
  have y0 := (hb.cell (p := ⟨b, off + 1 * 2, none⟩) hbb).trans d0
  have y1 := (hb.cell (p := ⟨b, off + 1 * 2 + 1, none⟩) hbb).trans d1
  have kT := noneTwice_any (agAt ags 1) (hst.below hb) (HL.out _ (List.mem_of_getElem? (agAt_some (i := 1) (by have := HLEN.out; omega)))) (compact_num _)
  obtain ⟨r2, hr2⟩ : ∃ r, twiceB (agAt ags 1) = r := ⟨_, rfl⟩
  rw [hr2] at kT
  have HE : Hid (fitsB [102, 122, 110, 95, 103, 108, 111, 98, 97, 108, 95, 99, 97, 114, 100, 105, 110, 97, 108, 105, 116, 121] ags = (r && r2)) := by show (manyB (ags.drop 1) && twiceB (agAt ags 1)) = _; rw [HR.out, hr2]
  obtain ⟨rr, hrr⟩ : ∃ rr, fitsB [102, 122, 110, 95, 103, 108, 111, 98, 97, 108, 95, 99, 97, 114, 100, 105, 110, 97, 108, 105, 116, 121] ags = rr := ⟨_, rfl⟩
  simp only [Nat.reduceMul, Nat.add_assoc, Nat.reduceAdd] at y0 y1
  clear d0 d1 hst hb hr2
  cases r with
  | false =>
    clear kT
    go_wp2
    go_ret
    exact ⟨by rw [HE.out]; rfl, HBw1.out⟩
  | true =>
    go_wp2_with fail
    refine kT.mono ?_
    clear kT
    rintro e w2 ⟨rfl, hb⟩
    have HBw2 : Hid (Below W.heap.size W w2) := HBw1.out.trans (hb.mono HBw1.out.size)
    clear hb
    cases r2 <;>
    · go_wp2
      go_ret
      exact ⟨by rw [HE.out]; rfl, HBw2.out⟩

set_option maxRecDepth 100000 in
set_option maxHeartbeats 4000000 in
theorem fits_fzn_global_cardinality_closed {B : Nat} {W : World} {a8 : Option Addr} {c8 : Nat} {ags : List Ag} (h : Sa B W (.slice a8 3 c8) ags) (hlen : ags.length = 3) (hc : 3 ≤ c8) (hc9 : c8 ≤ 9223372036854775807) (hl : ∀ g ∈ ags, g.l.length ≤ 1000) :
    Calls Tryz.prog 51 #[.agg #[.string ⟨#[102, 122, 110, 95, 103, 108, 111, 98, 97, 108, 95, 99, 97, 114, 100, 105, 110, 97, 108, 105, 116, 121, 95, 99, 108, 111, 115, 101, 100]⟩, .slice a8 3 c8]] W fun e w' => e = .returned (.bool (fitsB [102, 122, 110, 95, 103, 108, 111, 98, 97, 108, 95, 99, 97, 114, 100, 105, 110, 97, 108, 105, 116, 121, 95, 99, 108, 111, 115, 101, 100] ags)) ∧ Below W.heap.size W w' := by
  obtain ⟨b, off, rfl⟩ : ∃ b off, a8 = some ⟨b, off, none⟩ := by
    obtain ⟨b, off, _, _, e, _⟩ := h.at (agAt_some (i := 0) (by omega))
    exact ⟨b, off, e⟩
  have hbA : Below W.heap.size W (W.alloc (Obj.cells #[.string ⟨#[102, 122, 110, 95, 103, 108, 111, 98, 97, 108, 95, 99, 97, 114, 100, 105, 110, 97, 108, 105, 116, 121, 95, 99, 108, 111, 115, 101, 100]⟩, .slice (some ⟨b, off, none⟩) 3 c8] 32)) := (Below.refl _ W).alloc (Nat.le_refl _) _
  have hA := h.below hbA
  have HA : Hid (Sa B (W.alloc (Obj.cells #[.string ⟨#[102, 122, 110, 95, 103, 108, 111, 98, 97, 108, 95, 99, 97, 114, 100, 105, 110, 97, 108, 105, 116, 121, 95, 99, 108, 111, 115, 101, 100]⟩, .slice (some ⟨b, off, none⟩) 3 c8] 32)) (.slice (some ⟨b, off, none⟩) 3 c8) ags) := hA
  have HBA : Hid (Below W.heap.size W (W.alloc (Obj.cells #[.string ⟨#[102, 122, 110, 95, 103, 108, 111, 98, 97, 108, 95, 99, 97, 114, 100, 105, 110, 97, 108, 105, 116, 121, 95, 99, 108, 111, 115, 101, 100]⟩, .slice (some ⟨b, off, none⟩) 3 c8] 32))) := hbA
  have HL : Hid (∀ g ∈ ags, g.l.length ≤ 1000) := hl
  have HLEN : Hid (ags.length = 3) := hlen
  have kM := asManyG (hA.drop (k := 1) (by omega)) (by rw [List.length_drop]; omega) (by omega) (fun g hg => by have := HL.out g (List.mem_of_mem_drop hg); omega)
  have hq1 : (1 : Int) ≤ c8 := by omega
  have hq2 : ¬ c8 = 1 := by omega
  have hq3 : ¬ (c8 : Int) = 1 := by omega
  clear hA h hbA hl hlen
  go_enter Tryz.func51, Tryz.ntmps51
  obtain ⟨r, hr⟩ : ∃ r, manyB (ags.drop 1) = r := ⟨_, rfl⟩
  rw [hr] at kM
  have HR : Hid (manyB (ags.drop 1) = r) := hr
  clear hr
  go_wp2_with fail
  refine kM.mono ?_
  clear kM
  rintro e w1 ⟨rfl, hb⟩
  have HBw1 : Hid (Below W.heap.size W w1) := HBA.out.trans (hb.mono (by simp))
  obtain ⟨b', off', a2, c2, e', hbb, hst, d0, d1⟩ := HA.out.at (agAt_some (i := 1) (by have := HLEN.out; omega))
  injection e' with e'; injection e' with q1 q2; subst q1; subst q2
  have hlt : b < w1.heap.size := Nat.lt_of_lt_of_le hbb hb.size
  have y0 := (hb.cell (p := ⟨b, off + 1 * 2, none⟩) hbb).trans d0
  have y1 := (hb.cell (p := ⟨b, off + 1 * 2 + 1, none⟩) hbb).trans d1
  have kT := noneTwice_any (agAt ags 1) (hst.below hb) (HL.out _ (List.mem_of_getElem? (agAt_some (i := 1) (by have := HLEN.out; omega)))) (compact_num _)
  obtain ⟨r2, hr2⟩ : ∃ r, twiceB (agAt ags 1) = r := ⟨_, rfl⟩
  rw [hr2] at kT
  have HE : Hid (fitsB [102, 122, 110, 95, 103, 108, 111, 98, 97, 108, 95, 99, 97, 114, 100, 105, 110, 97, 108, 105, 116, 121, 95, 99, 108, 111, 115, 101, 100] ags = (r && r2)) := by show (manyB (ags.drop 1) && twiceB (agAt ags 1)) = _; rw [HR.out, hr2]
  obtain ⟨rr, hrr⟩ : ∃ rr, fitsB [102, 122, 110, 95, 103, 108, 111, 98, 97, 108, 95, 99, 97, 114, 100, 105, 110, 97, 108, 105, 116, 121, 95, 99, 108, 111, 115, 101, 100] ags = rr := ⟨_, rfl⟩
  simp only [Nat.reduceMul, Nat.add_assoc, Nat.reduceAdd] at y0 y1
  clear d0 d1 hst hb hr2
  cases r with
  | false =>
    clear kT
    go_wp2
    go_ret
    exact ⟨by rw [HE.out]; rfl, HBw1.out⟩
  | true =>
    go_wp2_with fail
    refine kT.mono ?_
    clear kT
    rintro e w2 ⟨rfl, hb⟩
    have HBw2 : Hid (Below W.heap.size W w2) := HBw1.out.trans (hb.mono HBw1.out.size)
    clear hb
    cases r2 <;>
    · go_wp2
      go_ret
      exact ⟨by rw [HE.out]; rfl, HBw2.out⟩

set_option maxRecDepth 100000 in
set_option maxHeartbeats 4000000 in
theorem fits_fzn_bin_packing {B : Nat} {W : World} {a8 : Option Addr} {c8 : Nat} {ags : List Ag} (h : Sa B W (.slice a8 3 c8) ags) (hlen : ags.length = 3) (hc : 3 ≤ c8) (hc9 : c8 ≤ 9223372036854775807) (hl : ∀ g ∈ ags, g.l.length ≤ 1000) :
    Calls Tryz.prog 51 #[.agg #[.string ⟨#[102, 122, 110, 95, 98, 105, 110, 95, 112, 97, 99, 107, 105, 110, 103]⟩, .slice a8 3 c8]] W fun e w' => e = .returned (.bool (fitsB [102, 122, 110, 95, 98, 105, 110, 95, 112, 97, 99, 107, 105, 110, 103] ags)) ∧ Below W.heap.size W w' := by
  obtain ⟨b, off, rfl⟩ : ∃ b off, a8 = some ⟨b, off, none⟩ := by
    obtain ⟨b, off, _, _, e, _⟩ := h.at (agAt_some (i := 0) (by omega))
    exact ⟨b, off, e⟩
  have hbA : Below W.heap.size W (W.alloc (Obj.cells #[.string ⟨#[102, 122, 110, 95, 98, 105, 110, 95, 112, 97, 99, 107, 105, 110, 103]⟩, .slice (some ⟨b, off, none⟩) 3 c8] 32)) := (Below.refl _ W).alloc (Nat.le_refl _) _
  have hA := h.below hbA
  have HA : Hid (Sa B (W.alloc (Obj.cells #[.string ⟨#[102, 122, 110, 95, 98, 105, 110, 95, 112, 97, 99, 107, 105, 110, 103]⟩, .slice (some ⟨b, off, none⟩) 3 c8] 32)) (.slice (some ⟨b, off, none⟩) 3 c8) ags) := hA
  have HBA : Hid (Below W.heap.size W (W.alloc (Obj.cells #[.string ⟨#[102, 122, 110, 95, 98, 105, 110, 95, 112, 97, 99, 107, 105, 110, 103]⟩, .slice (some ⟨b, off, none⟩) 3 c8] 32))) := hbA
  have HL : Hid (∀ g ∈ ags, g.l.length ≤ 1000) := hl
  have HLEN : Hid (ags.length = 3) := hlen
  have kM := asManyG (hA.drop (k := 1) (by omega)) (by rw [List.length_drop]; omega) (by omega) (fun g hg => by have := HL.out g (List.mem_of_mem_drop hg); omega)
  have hq1 : (1 : Int) ≤ c8 := by omega
  have hq2 : ¬ c8 = 1 := by omega
  have hq3 : ¬ (c8 : Int) = 1 := by omega
  clear hA h hbA hl hlen
  go_enter Tryz.func51, Tryz.ntmps51
  obtain ⟨r, hr⟩ : ∃ r, manyB (ags.drop 1) = r := ⟨_, rfl⟩
  rw [hr] at kM
  have HR : Hid (manyB (ags.drop 1) = r) := hr
  clear hr
  go_wp2_with fail
  refine kM.mono ?_
  clear kM
  rintro e w1 ⟨rfl, hb⟩
  have HBw1 : Hid (Below W.heap.size W w1) := HBA.out.trans (hb.mono (by simp))
  obtain ⟨b', off', a2, c2, e', hbb, hst, d0, d1⟩ := HA.out.at (agAt_some (i := 2) (by have := HLEN.out; omega))
  injection e' with e'; injection e' with q1 q2; subst q1; subst q2
  have hlt : b < w1.heap.size := Nat.lt_of_lt_of_le hbb hb.size
  have y0 := (hb.cell (p := ⟨b, off + 2 * 2, none⟩) hbb).trans d0
  have y1 := (hb.cell (p := ⟨b, off + 2 * 2 + 1, none⟩) hbb).trans d1
  have kT := noneBelow_any (agAt ags 2) (hst.below hb) (HL.out _ (List.mem_of_getElem? (agAt_some (i := 2) (by have := HLEN.out; omega))))
  obtain ⟨r2, hr2⟩ : ∃ r, (numL (agAt ags 2)).any negB = r := ⟨_, rfl⟩
  rw [hr2] at kT
  have HE : Hid (fitsB [102, 122, 110, 95, 98, 105, 110, 95, 112, 97, 99, 107, 105, 110, 103] ags = (r && !r2)) := by show (manyB (ags.drop 1) && !(numL (agAt ags 2)).any negB) = _; rw [HR.out, hr2]
  obtain ⟨rr, hrr⟩ : ∃ rr, fitsB [102, 122, 110, 95, 98, 105, 110, 95, 112, 97, 99, 107, 105, 110, 103] ags = rr := ⟨_, rfl⟩
  simp only [Nat.reduceMul, Nat.add_assoc, Nat.reduceAdd] at y0 y1
  clear d0 d1 hst hb hr2
  cases r with
  | false =>
    clear kT
    go_wp2
    go_ret
    exact ⟨by rw [HE.out]; rfl, HBw1.out⟩
  | true =>
    go_wp2_with fail
    refine kT.mono ?_
    clear kT
    rintro e w2 ⟨rfl, hb⟩
    have HBw2 : Hid (Below W.heap.size W w2) := HBw1.out.trans (hb.mono HBw1.out.size)
    clear hb
    cases r2 <;>
    · go_wp2
      go_ret
      exact ⟨by rw [HE.out]; rfl, HBw2.out⟩

set_option maxRecDepth 100000 in
set_option maxHeartbeats 4000000 in
theorem fits_fzn_bin_packing_capa {B : Nat} {W : World} {a8 : Option Addr} {c8 : Nat} {ags : List Ag} (h : Sa B W (.slice a8 3 c8) ags) (hlen : ags.length = 3) (hc : 3 ≤ c8) (hc9 : c8 ≤ 9223372036854775807) (hl : ∀ g ∈ ags, g.l.length ≤ 1000) :
    Calls Tryz.prog 51 #[.agg #[.string ⟨#[102, 122, 110, 95, 98, 105, 110, 95, 112, 97, 99, 107, 105, 110, 103, 95, 99, 97, 112, 97]⟩, .slice a8 3 c8]] W fun e w' => e = .returned (.bool (fitsB [102, 122, 110, 95, 98, 105, 110, 95, 112, 97, 99, 107, 105, 110, 103, 95, 99, 97, 112, 97] ags)) ∧ Below W.heap.size W w' := by
  obtain ⟨b, off, rfl⟩ : ∃ b off, a8 = some ⟨b, off, none⟩ := by
    obtain ⟨b, off, _, _, e, _⟩ := h.at (agAt_some (i := 0) (by omega))
    exact ⟨b, off, e⟩
  have hbA : Below W.heap.size W (W.alloc (Obj.cells #[.string ⟨#[102, 122, 110, 95, 98, 105, 110, 95, 112, 97, 99, 107, 105, 110, 103, 95, 99, 97, 112, 97]⟩, .slice (some ⟨b, off, none⟩) 3 c8] 32)) := (Below.refl _ W).alloc (Nat.le_refl _) _
  have hA := h.below hbA
  have HA : Hid (Sa B (W.alloc (Obj.cells #[.string ⟨#[102, 122, 110, 95, 98, 105, 110, 95, 112, 97, 99, 107, 105, 110, 103, 95, 99, 97, 112, 97]⟩, .slice (some ⟨b, off, none⟩) 3 c8] 32)) (.slice (some ⟨b, off, none⟩) 3 c8) ags) := hA
  have HBA : Hid (Below W.heap.size W (W.alloc (Obj.cells #[.string ⟨#[102, 122, 110, 95, 98, 105, 110, 95, 112, 97, 99, 107, 105, 110, 103, 95, 99, 97, 112, 97]⟩, .slice (some ⟨b, off, none⟩) 3 c8] 32))) := hbA
  have HL : Hid (∀ g ∈ ags, g.l.length ≤ 1000) := hl
  have HLEN : Hid (ags.length = 3) := hlen
  have kM := asManyG (hA.drop (k := 1) (by omega)) (by rw [List.length_drop]; omega) (by omega) (fun g hg => by have := HL.out g (List.mem_of_mem_drop hg); omega)
  have hq1 : (1 : Int) ≤ c8 := by omega
  have hq2 : ¬ c8 = 1 := by omega
  have hq3 : ¬ (c8 : Int) = 1 := by omega
  clear hA h hbA hl hlen
  go_enter Tryz.func51, Tryz.ntmps51
  obtain ⟨r, hr⟩ : ∃ r, manyB (ags.drop 1) = r := ⟨_, rfl⟩
  rw [hr] at kM
  have HR : Hid (manyB (ags.drop 1) = r) := hr
  clear hr
  go_wp2_with fail
  refine kM.mono ?_
  clear kM
  rintro e w1 ⟨rfl, hb⟩
  have HBw1 : Hid (Below W.heap.size W w1) := HBA.out.trans (hb.mono (by simp))
  obtain ⟨b', off', a2, c2, e', hbb, hst, d0, d1⟩ := HA.out.at (agAt_some (i := 2) (by have := HLEN.out; omega))
  injection e' with e'; injection e' with q1 q2; subst q1; subst q2
  have hlt : b < w1.heap.size := Nat.lt_of_lt_of_le hbb hb.size
  have y0 := (hb.cell (p := ⟨b, off + 2 * 2, none⟩) hbb).trans d0
  have y1 := (hb.cell (p := ⟨b, off + 2 * 2 + 1, none⟩) hbb).trans d1
  have kT := noneBelow_any (agAt ags 2) (hst.below hb) (HL.out _ (List.mem_of_getElem? (agAt_some (i := 2) (by have := HLEN.out; omega))))
  obtain ⟨r2, hr2⟩ : ∃ r, (numL (agAt ags 2)).any negB = r := ⟨_, rfl⟩
  rw [hr2] at kT
  have HE : Hid (fitsB [102, 122, 110, 95, 98, 105, 110, 95, 112, 97, 99, 107, 105, 110, 103, 95, 99, 97, 112, 97] ags = (r && !r2)) := by show (manyB (ags.drop 1) && !(numL (agAt ags 2)).any negB) = _; rw [HR.out, hr2]
  obtain ⟨rr, hrr⟩ : ∃ rr, fitsB [102, 122, 110, 95, 98, 105, 110, 95, 112, 97, 99, 107, 105, 110, 103, 95, 99, 97, 112, 97] ags = rr := ⟨_, rfl⟩
  simp only [Nat.reduceMul, Nat.add_assoc, Nat.reduceAdd] at y0 y1
  clear d0 d1 hst hb hr2
  cases r with
  | false =>
    clear kT
    go_wp2
    go_ret
    exact ⟨by rw [HE.out]; rfl, HBw1.out⟩
  | true =>
    go_wp2_with fail
    refine kT.mono ?_
    clear kT
    rintro e w2 ⟨rfl, hb⟩
    have HBw2 : Hid (Below W.heap.size W w2) := HBw1.out.trans (hb.mono HBw1.out.size)
    clear hb
    cases r2 <;>
    · go_wp2
      go_ret
      exact ⟨by rw [HE.out]; rfl, HBw2.out⟩

set_option maxRecDepth 100000 in
set_option maxHeartbeats 4000000 in
theorem fits_fzn_bin_packing_load {B : Nat} {W : World} {a8 : Option Addr} {c8 : Nat} {ags : List Ag} (h : Sa B W (.slice a8 3 c8) ags) (hlen : ags.length = 3) (hc : 3 ≤ c8) (hc9 : c8 ≤ 9223372036854775807) (hl : ∀ g ∈ ags, g.l.length ≤ 1000) :
    Calls Tryz.prog 51 #[.agg #[.string ⟨#[102, 122, 110, 95, 98, 105, 110, 95, 112, 97, 99, 107, 105, 110, 103, 95, 108, 111, 97, 100]⟩, .slice a8 3 c8]] W fun e w' => e = .returned (.bool (fitsB [102, 122, 110, 95, 98, 105, 110, 95, 112, 97, 99, 107, 105, 110, 103, 95, 108, 111, 97, 100] ags)) ∧ Below W.heap.size W w' := by
  obtain ⟨b, off, rfl⟩ : ∃ b off, a8 = some ⟨b, off, none⟩ := by
    obtain ⟨b, off, _, _, e, _⟩ := h.at (agAt_some (i := 0) (by omega))
    exact ⟨b, off, e⟩
  have hbA : Below W.heap.size W (W.alloc (Obj.cells #[.string ⟨#[102, 122, 110, 95, 98, 105, 110, 95, 112, 97, 99, 107, 105, 110, 103, 95, 108, 111, 97, 100]⟩, .slice (some ⟨b, off, none⟩) 3 c8] 32)) := (Below.refl _ W).alloc (Nat.le_refl _) _
  have hA := h.below hbA
  have HA : Hid (Sa B (W.alloc (Obj.cells #[.string ⟨#[102, 122, 110, 95, 98, 105, 110, 95, 112, 97, 99, 107, 105, 110, 103, 95, 108, 111, 97, 100]⟩, .slice (some ⟨b, off, none⟩) 3 c8] 32)) (.slice (some ⟨b, off, none⟩) 3 c8) ags) := hA
  have HBA : Hid (Below W.heap.size W (W.alloc (Obj.cells #[.string ⟨#[102, 122, 110, 95, 98, 105, 110, 95, 112, 97, 99, 107, 105, 110, 103, 95, 108, 111, 97, 100]⟩, .slice (some ⟨b, off, none⟩) 3 c8] 32))) := hbA
  have HL : Hid (∀ g ∈ ags, g.l.length ≤ 1000) := hl
  have HLEN : Hid (ags.length = 3) := hlen
  have kM := asManyG (hA.drop (k := 1) (by omega)) (by rw [List.length_drop]; omega) (by omega) (fun g hg => by have := HL.out g (List.mem_of_mem_drop hg); omega)
  have hq1 : (1 : Int) ≤ c8 := by omega
  have hq2 : ¬ c8 = 1 := by omega
  have hq3 : ¬ (c8 : Int) = 1 := by omega
  clear hA h hbA hl hlen
  go_enter Tryz.func51, Tryz.ntmps51
  obtain ⟨r, hr⟩ : ∃ r, manyB (ags.drop 1) = r := ⟨_, rfl⟩
  rw [hr] at kM
  have HR : Hid (manyB (ags.drop 1) = r) := hr
  clear hr
  go_wp2_with fail
  refine kM.mono ?_
  clear kM
  rintro e w1 ⟨rfl, hb⟩
  have HBw1 : Hid (Below W.heap.size W w1) := HBA.out.trans (hb.mono (by simp))
  obtain ⟨b', off', a2, c2, e', hbb, hst, d0, d1⟩ := HA.out.at (agAt_some (i := 2) (by have := HLEN.out; omega))
  injection e' with e'; injection e' with q1 q2; subst q1; subst q2
  have hlt : b < w1.heap.size := Nat.lt_of_lt_of_le hbb hb.size
  have y0 := (hb.cell (p := ⟨b, off + 2 * 2, none⟩) hbb).trans d0
  have y1 := (hb.cell (p := ⟨b, off + 2 * 2 + 1, none⟩) hbb).trans d1
  have kT := noneBelow_any (agAt ags 2) (hst.below hb) (HL.out _ (List.mem_of_getElem? (agAt_some (i := 2) (by have := HLEN.out; omega))))
  obtain ⟨r2, hr2⟩ : ∃ r, (numL (agAt ags 2)).any negB = r := ⟨_, rfl⟩
  rw [hr2] at kT
  have HE : Hid (fitsB [102, 122, 110, 95, 98, 105, 110, 95, 112, 97, 99, 107, 105, 110, 103, 95, 108, 111, 97, 100] ags = (r && !r2)) := by show (manyB (ags.drop 1) && !(numL (agAt ags 2)).any negB) = _; rw [HR.out, hr2]
  obtain ⟨rr, hrr⟩ : ∃ rr, fitsB [102, 122, 110, 95, 98, 105, 110, 95, 112, 97, 99, 107, 105, 110, 103, 95, 108, 111, 97, 100] ags = rr := ⟨_, rfl⟩
  simp only [Nat.reduceMul, Nat.add_assoc, Nat.reduceAdd] at y0 y1
  clear d0 d1 hst hb hr2
  cases r with
  | false =>
    clear kT
    go_wp2
    go_ret
    exact ⟨by rw [HE.out]; rfl, HBw1.out⟩
  | true =>
    go_wp2_with fail
    refine kT.mono ?_
    clear kT
    rintro e w2 ⟨rfl, hb⟩
    have HBw2 : Hid (Below W.heap.size W w2) := HBw1.out.trans (hb.mono HBw1.out.size)
    clear hb
    cases r2 <;>
    · go_wp2
      go_ret
      exact ⟨by rw [HE.out]; rfl, HBw2.out⟩

set_option maxRecDepth 100000 in
set_option maxHeartbeats 4000000 in
theorem fits_fzn_maximum_int {B : Nat} {W : World} {a8 : Option Addr} {c8 : Nat} {ags : List Ag} (h : Sa B W (.slice a8 2 c8) ags) (hlen : ags.length = 2) (hc : 2 ≤ c8) (hc9 : c8 ≤ 9223372036854775807) (hl : ∀ g ∈ ags, g.l.length ≤ 1000) :
    Calls Tryz.prog 51 #[.agg #[.string ⟨#[102, 122, 110, 95, 109, 97, 120, 105, 109, 117, 109, 95, 105, 110, 116]⟩, .slice a8 2 c8]] W fun e w' => e = .returned (.bool (fitsB [102, 122, 110, 95, 109, 97, 120, 105, 109, 117, 109, 95, 105, 110, 116] ags)) ∧ Below W.heap.size W w' := by
  obtain ⟨b, off, rfl⟩ : ∃ b off, a8 = some ⟨b, off, none⟩ := by
    obtain ⟨b, off, _, _, e, _⟩ := h.at (agAt_some (i := 0) (by omega))
    exact ⟨b, off, e⟩
  have hbA : Below W.heap.size W (W.alloc (Obj.cells #[.string ⟨#[102, 122, 110, 95, 109, 97, 120, 105, 109, 117, 109, 95, 105, 110, 116]⟩, .slice (some ⟨b, off, none⟩) 2 c8] 32)) := (Below.refl _ W).alloc (Nat.le_refl _) _
  have hA := h.below hbA
  have HA : Hid (Sa B (W.alloc (Obj.cells #[.string ⟨#[102, 122, 110, 95, 109, 97, 120, 105, 109, 117, 109, 95, 105, 110, 116]⟩, .slice (some ⟨b, off, none⟩) 2 c8] 32)) (.slice (some ⟨b, off, none⟩) 2 c8) ags) := hA
  have HBA : Hid (Below W.heap.size W (W.alloc (Obj.cells #[.string ⟨#[102, 122, 110, 95, 109, 97, 120, 105, 109, 117, 109, 95, 105, 110, 116]⟩, .slice (some ⟨b, off, none⟩) 2 c8] 32))) := hbA
  have HL : Hid (∀ g ∈ ags, g.l.length ≤ 1000) := hl
  have HLEN : Hid (ags.length = 2) := hlen
  obtain ⟨b', off', a2, c2, e', hbb, hst, d0, d1⟩ := hA.at (agAt_some (i := 1) (by omega))
  injection e' with e'; injection e' with q1 q2; subst q1; subst q2
  obtain ⟨m, hm⟩ : ∃ m, (agAt ags 1).l.length = m := ⟨_, rfl⟩
  have HE : Hid (fitsB [102, 122, 110, 95, 109, 97, 120, 105, 109, 117, 109, 95, 105, 110, 116] ags = decide (0 < m)) := by show decide (0 < (agAt ags 1).l.length) = _; rw [hm]
  have hm9 : m ≤ 1000 := by rw [← hm]; exact hl _ (List.mem_of_getElem? (agAt_some (i := 1) (by have := HLEN.out; omega)))
  rw [hm] at d1
  obtain ⟨rr, hrr⟩ : ∃ rr, fitsB [102, 122, 110, 95, 109, 97, 120, 105, 109, 117, 109, 95, 105, 110, 116] ags = rr := ⟨_, rfl⟩
  rw [hrr] at HE ⊢
  simp only [Nat.reduceMul, Nat.add_assoc, Nat.reduceAdd] at d0 d1
  clear hA h hbA hl hlen hst hm hrr HA
  go_enter Tryz.func51, Tryz.ntmps51
  by_cases h0 : 0 < m
  · have h0' : (0 : Int) < m := by omega
    go_wp2
    go_ret
    exact ⟨by rw [HE.out]; simp [h0], HBA.out⟩
  · have h0' : ¬ (0 : Int) < m := by omega
    go_wp2
    go_ret
    exact ⟨by rw [HE.out]; simp [h0], HBA.out⟩

set_option maxRecDepth 100000 in
set_option maxHeartbeats 4000000 in
theorem fits_fzn_minimum_int {B : Nat} {W : World} {a8 : Option Addr} {c8 : Nat} {ags : List Ag} (h : Sa B W (.slice a8 2 c8) ags) (hlen : ags.length = 2) (hc : 2 ≤ c8) (hc9 : c8 ≤ 9223372036854775807) (hl : ∀ g ∈ ags, g.l.length ≤ 1000) :
    Calls Tryz.prog 51 #[.agg #[.string ⟨#[102, 122, 110, 95, 109, 105, 110, 105, 109, 117, 109, 95, 105, 110, 116]⟩, .slice a8 2 c8]] W fun e w' => e = .returned (.bool (fitsB [102, 122, 110, 95, 109, 105, 110, 105, 109, 117, 109, 95, 105, 110, 116] ags)) ∧ Below W.heap.size W w' := by
  obtain ⟨b, off, rfl⟩ : ∃ b off, a8 = some ⟨b, off, none⟩ := by
    obtain ⟨b, off, _, _, e, _⟩ := h.at (agAt_some (i := 0) (by omega))
    exact ⟨b, off, e⟩
  have hbA : Below W.heap.size W (W.alloc (Obj.cells #[.string ⟨#[102, 122, 110, 95, 109, 105, 110, 105, 109, 117, 109, 95, 105, 110, 116]⟩, .slice (some ⟨b, off, none⟩) 2 c8] 32)) := (Below.refl _ W).alloc (Nat.le_refl _) _
  have hA := h.below hbA
  have HA : Hid (Sa B (W.alloc (Obj.cells #[.string ⟨#[102, 122, 110, 95, 109, 105, 110, 105, 109, 117, 109, 95, 105, 110, 116]⟩, .slice (some ⟨b, off, none⟩) 2 c8] 32)) (.slice (some ⟨b, off, none⟩) 2 c8) ags) := hA
  have HBA : Hid (Below W.heap.size W (W.alloc (Obj.cells #[.string ⟨#[102, 122, 110, 95, 109, 105, 110, 105, 109, 117, 109, 95, 105, 110, 116]⟩, .slice (some ⟨b, off, none⟩) 2 c8] 32))) := hbA
  have HL : Hid (∀ g ∈ ags, g.l.length ≤ 1000) := hl
  have HLEN : Hid (ags.length = 2) := hlen
  obtain ⟨b', off', a2, c2, e', hbb, hst, d0, d1⟩ := hA.at (agAt_some (i := 1) (by omega))
  injection e' with e'; injection e' with q1 q2; subst q1; subst q2
  obtain ⟨m, hm⟩ : ∃ m, (agAt ags 1).l.length = m := ⟨_, rfl⟩
  have HE : Hid (fitsB [102, 122, 110, 95, 109, 105, 110, 105, 109, 117, 109, 95, 105, 110, 116] ags = decide (0 < m)) := by show decide (0 < (agAt ags 1).l.length) = _; rw [hm]
  have hm9 : m ≤ 1000 := by rw [← hm]; exact hl _ (List.mem_of_getElem? (agAt_some (i := 1) (by have := HLEN.out; omega)))
  rw [hm] at d1
  obtain ⟨rr, hrr⟩ : ∃ rr, fitsB [102, 122, 110, 95, 109, 105, 110, 105, 109, 117, 109, 95, 105, 110, 116] ags = rr := ⟨_, rfl⟩
  rw [hrr] at HE ⊢
  simp only [Nat.reduceMul, Nat.add_assoc, Nat.reduceAdd] at d0 d1
  clear hA h hbA hl hlen hst hm hrr HA
  go_enter Tryz.func51, Tryz.ntmps51
  by_cases h0 : 0 < m
  · have h0' : (0 : Int) < m := by omega
    go_wp2
    go_ret
    exact ⟨by rw [HE.out]; simp [h0], HBA.out⟩
  · have h0' : ¬ (0 : Int) < m := by omega
    go_wp2
    go_ret
    exact ⟨by rw [HE.out]; simp [h0], HBA.out⟩

set_option maxRecDepth 100000 in
set_option maxHeartbeats 4000000 in
theorem fits_fzn_table_int {B : Nat} {W : World} {a8 : Option Addr} {c8 : Nat} {ags : List Ag} (h : Sa B W (.slice a8 2 c8) ags) (hlen : ags.length = 2) (hc : 2 ≤ c8) (hc9 : c8 ≤ 9223372036854775807) (hl : ∀ g ∈ ags, g.l.length ≤ 1000) :
    Calls Tryz.prog 51 #[.agg #[.string ⟨#[102, 122, 110, 95, 116, 97, 98, 108, 101, 95, 105, 110, 116]⟩, .slice a8 2 c8]] W fun e w' => e = .returned (.bool (fitsB [102, 122, 110, 95, 116, 97, 98, 108, 101, 95, 105, 110, 116] ags)) ∧ Below W.heap.size W w' := by
  obtain ⟨b, off, rfl⟩ : ∃ b off, a8 = some ⟨b, off, none⟩ := by
    obtain ⟨b, off, _, _, e, _⟩ := h.at (agAt_some (i := 0) (by omega))
    exact ⟨b, off, e⟩
  have hbA : Below W.heap.size W (W.alloc (Obj.cells #[.string ⟨#[102, 122, 110, 95, 116, 97, 98, 108, 101, 95, 105, 110, 116]⟩, .slice (some ⟨b, off, none⟩) 2 c8] 32)) := (Below.refl _ W).alloc (Nat.le_refl _) _
  have hA := h.below hbA
  have HA : Hid (Sa B (W.alloc (Obj.cells #[.string ⟨#[102, 122, 110, 95, 116, 97, 98, 108, 101, 95, 105, 110, 116]⟩, .slice (some ⟨b, off, none⟩) 2 c8] 32)) (.slice (some ⟨b, off, none⟩) 2 c8) ags) := hA
  have HBA : Hid (Below W.heap.size W (W.alloc (Obj.cells #[.string ⟨#[102, 122, 110, 95, 116, 97, 98, 108, 101, 95, 105, 110, 116]⟩, .slice (some ⟨b, off, none⟩) 2 c8] 32))) := hbA
  have HL : Hid (∀ g ∈ ags, g.l.length ≤ 1000) := hl
  have HLEN : Hid (ags.length = 2) := hlen
  obtain ⟨b', off', a2, c2, e', hbb, hst, d0, d1⟩ := hA.at (agAt_some (i := 0) (by omega))
  injection e' with e'; injection e' with q1 q2; subst q1; subst q2
  obtain ⟨b', off', a3, c3, e', _, hst3, _, d3⟩ := hA.at (agAt_some (i := 1) (by omega))
  injection e' with e'; injection e' with q1 q2; subst q1; subst q2
  obtain ⟨m, hm⟩ : ∃ m, (agAt ags 0).l.length = m := ⟨_, rfl⟩
  obtain ⟨k, hk⟩ : ∃ m, (agAt ags 1).l.length = m := ⟨_, rfl⟩
  have HE : Hid (fitsB [102, 122, 110, 95, 116, 97, 98, 108, 101, 95, 105, 110, 116] ags = (decide (0 < m) && decide (k % m = 0))) := by show (decide (0 < (agAt ags 0).l.length) && decide ((agAt ags 1).l.length % (agAt ags 0).l.length = 0)) = _; rw [hm, hk]
  have hm9 : m ≤ 1000 := by rw [← hm]; exact hl _ (List.mem_of_getElem? (agAt_some (i := 0) (by have := HLEN.out; omega)))
  have hk9 : k ≤ 1000 := by rw [← hk]; exact hl _ (List.mem_of_getElem? (agAt_some (i := 1) (by have := HLEN.out; omega)))
  rw [hm] at d1
  rw [hk] at d3
  obtain ⟨rr, hrr⟩ : ∃ rr, fitsB [102, 122, 110, 95, 116, 97, 98, 108, 101, 95, 105, 110, 116] ags = rr := ⟨_, rfl⟩
  rw [hrr] at HE ⊢
  simp only [Nat.reduceMul, Nat.add_assoc, Nat.reduceAdd, Nat.add_zero, Nat.zero_mul, Nat.zero_add] at d0 d1 d3
  clear hA h hbA hl hlen hst hst3 hm hk hrr HA
  go_enter Tryz.func51, Tryz.ntmps51
  by_cases h0 : 0 < m
  · have h0' : (0 : Int) < m := by omega
    have h0'' : (m : Int) ≠ 0 := by omega
    obtain ⟨q, hq⟩ : ∃ q, k % m = q := ⟨_, rfl⟩
    have ht : Int.tmod (k : Int) (m : Int) = (q : Int) := by rw [← hq]; exact (Int.ofNat_tmod k m).symm ▸ rfl
    have hq9 : q ≤ 1000 := by rw [← hq]; exact Nat.le_trans (Nat.mod_le _ _) hk9
    rw [hq] at HE
    have hwq : IntKind.i64.wrap (q : Int) = (q : Int) := by rw [IntKind.wrap_i64]; omega
    clear hq
    by_cases hz : q = 0
    · subst hz
      go_upto_region 15 with (fail)
      go_quiet (fail)
      go_wp2
      go_ret
      exact ⟨by rw [HE.out]; simp [h0], below_drewN HBA.out _⟩
    · have hqz : ((q : Int) == 0) = false := by simp; omega
      go_upto_region 15 with (fail)
      go_quiet (fail)
      go_wp2
      go_ret
      exact ⟨by rw [HE.out]; simp [h0, hz], below_drewN HBA.out _⟩
  · have h0' : ¬ (0 : Int) < m := by omega
    go_upto_region 15 with (fail)
    go_quiet (fail)
    go_wp2
    go_ret
    exact ⟨by rw [HE.out]; simp [h0], below_drewN HBA.out _⟩

set_option maxRecDepth 100000 in
set_option maxHeartbeats 4000000 in
theorem fits_fzn_regular {B : Nat} {W : World} {a8 : Option Addr} {c8 : Nat} {ags : List Ag} (h : Sa B W (.slice a8 6 c8) ags) (hlen : ags.length = 6) (hc : 6 ≤ c8) (hc9 : c8 ≤ 9223372036854775807) (hl : ∀ g ∈ ags, g.l.length ≤ 1000) (h1 : (agAt ags 1).l.length = 1) (h2 : (agAt ags 2).l.length = 1) (h4 : (agAt ags 4).l.length = 1) :
    Calls Tryz.prog 51 #[.agg #[.string ⟨#[102, 122, 110, 95, 114, 101, 103, 117, 108, 97, 114]⟩, .slice a8 6 c8]] W fun e w' => e = .returned (.bool (fitsB [102, 122, 110, 95, 114, 101, 103, 117, 108, 97, 114] ags)) ∧ Below W.heap.size W w' := by
  obtain ⟨b, off, rfl⟩ : ∃ b off, a8 = some ⟨b, off, none⟩ := by
    obtain ⟨b, off, _, _, e, _⟩ := h.at (agAt_some (i := 0) (by omega))
    exact ⟨b, off, e⟩
  have hbA : Below W.heap.size W (W.alloc (Obj.cells #[.string ⟨#[102, 122, 110, 95, 114, 101, 103, 117, 108, 97, 114]⟩, .slice (some ⟨b, off, none⟩) 6 c8] 32)) := (Below.refl _ W).alloc (Nat.le_refl _) _
  have hA := h.below hbA
  have HA : Hid (Sa B (W.alloc (Obj.cells #[.string ⟨#[102, 122, 110, 95, 114, 101, 103, 117, 108, 97, 114]⟩, .slice (some ⟨b, off, none⟩) 6 c8] 32)) (.slice (some ⟨b, off, none⟩) 6 c8) ags) := hA
  have HBA : Hid (Below W.heap.size W (W.alloc (Obj.cells #[.string ⟨#[102, 122, 110, 95, 114, 101, 103, 117, 108, 97, 114]⟩, .slice (some ⟨b, off, none⟩) 6 c8] 32))) := hbA
  have HL : Hid (∀ g ∈ ags, g.l.length ≤ 1000) := hl
  have HLEN : Hid (ags.length = 6) := hlen
  obtain ⟨t1, e1⟩ := List.length_eq_one_iff.1 h1
  obtain ⟨t2, e2⟩ := List.length_eq_one_iff.1 h2
  obtain ⟨t4, e4⟩ := List.length_eq_one_iff.1 h4
  have kM := automaton_any (x1 := (agAt ags 1).arr) (x2 := (agAt ags 2).arr) (x4 := (agAt ags 4).arr) (t1 := t1) (t2 := t2) (t4 := t4) (g3 := agAt ags 3) hA hlen (by omega) (by omega) (by rw [← e1]; exact agAt_some (by omega)) (by rw [← e2]; exact agAt_some (by omega)) (agAt_some (by omega)) (by rw [← e4]; exact agAt_some (by omega)) (hl _ (List.mem_of_getElem? (agAt_some (i := 3) (by have := HLEN.out; omega))))
  have HE : Hid (fitsB [102, 122, 110, 95, 114, 101, 103, 117, 108, 97, 114] ags = autoB t1.n t2.n t4.n (agAt ags 3)) := by
    show autoB (fstN (agAt ags 1)) (fstN (agAt ags 2)) (fstN (agAt ags 4)) (agAt ags 3) = _
    unfold fstN
    rw [e1, e2, e4]
    rfl
  obtain ⟨rr, hrr⟩ : ∃ rr, fitsB [102, 122, 110, 95, 114, 101, 103, 117, 108, 97, 114] ags = rr := ⟨_, rfl⟩
  rw [hrr] at HE ⊢
  rw [← HE.out] at kM
  clear hA h hbA hl hlen h1 h2 h4 e1 e2 e4 hrr HA
  go_enter Tryz.func51, Tryz.ntmps51
  go_wp2_with fail
  refine kM.mono ?_
  clear kM
  rintro e w1 ⟨rfl, hb⟩
  have HBw1 : Hid (Below W.heap.size W w1) := HBA.out.trans (hb.mono (by simp))
  clear hb
  go_wp2
  go_ret
  exact ⟨rfl, HBw1.out⟩

set_option maxRecDepth 100000 in
set_option maxHeartbeats 4000000 in
theorem fits_fzn_knapsack {B : Nat} {W : World} {a8 : Option Addr} {c8 : Nat} {ags : List Ag} (h : Sa B W (.slice a8 5 c8) ags) (hlen : ags.length = 5) (hc : 5 ≤ c8) (hc9 : c8 ≤ 9223372036854775807) (hl : ∀ g ∈ ags, g.l.length ≤ 1000) :
    Calls Tryz.prog 51 #[.agg #[.string ⟨#[102, 122, 110, 95, 107, 110, 97, 112, 115, 97, 99, 107]⟩, .slice a8 5 c8]] W fun e w' => e = .returned (.bool (fitsB [102, 122, 110, 95, 107, 110, 97, 112, 115, 97, 99, 107] ags)) ∧ Below W.heap.size W w' := by
  obtain ⟨b, off, rfl⟩ : ∃ b off, a8 = some ⟨b, off, none⟩ := by
    obtain ⟨b, off, _, _, e, _⟩ := h.at (agAt_some (i := 0) (by omega))
    exact ⟨b, off, e⟩
  have hbA : Below W.heap.size W (W.alloc (Obj.cells #[.string ⟨#[102, 122, 110, 95, 107, 110, 97, 112, 115, 97, 99, 107]⟩, .slice (some ⟨b, off, none⟩) 5 c8] 32)) := (Below.refl _ W).alloc (Nat.le_refl _) _
  have hA := h.below hbA
  have HA : Hid (Sa B (W.alloc (Obj.cells #[.string ⟨#[102, 122, 110, 95, 107, 110, 97, 112, 115, 97, 99, 107]⟩, .slice (some ⟨b, off, none⟩) 5 c8] 32)) (.slice (some ⟨b, off, none⟩) 5 c8) ags) := hA
  have HBA : Hid (Below W.heap.size W (W.alloc (Obj.cells #[.string ⟨#[102, 122, 110, 95, 107, 110, 97, 112, 115, 97, 99, 107]⟩, .slice (some ⟨b, off, none⟩) 5 c8] 32))) := hbA
  have HL : Hid (∀ g ∈ ags, g.l.length ≤ 1000) := hl
  have HLEN : Hid (ags.length = 5) := hlen
  have kM := asManyG (hA.take (k := 3) (by omega)) (by rw [List.length_take]; omega) (by omega) (fun g hg => by have := HL.out g (List.mem_of_mem_take hg); omega)
  have hq1 : (3 : Int) ≤ c8 := by omega
  obtain ⟨r, hr⟩ : ∃ r, manyB (ags.take 3) = r := ⟨_, rfl⟩
  obtain ⟨r0, hr0⟩ : ∃ r, (numL (agAt ags 0)).any negB = r := ⟨_, rfl⟩
  obtain ⟨r1, hr1⟩ : ∃ r, (numL (agAt ags 1)).any negB = r := ⟨_, rfl⟩
  have HE : Hid (fitsB [102, 122, 110, 95, 107, 110, 97, 112, 115, 97, 99, 107] ags = (r && (!r0 && !r1))) := by show (manyB (ags.take 3) && (!(numL (agAt ags 0)).any negB && !(numL (agAt ags 1)).any negB)) = _; rw [hr, hr0, hr1]
  obtain ⟨rr, hrr⟩ : ∃ rr, fitsB [102, 122, 110, 95, 107, 110, 97, 112, 115, 97, 99, 107] ags = rr := ⟨_, rfl⟩
  rw [hrr] at HE ⊢
  rw [hr] at kM
  have HR0 : Hid ((numL (agAt ags 0)).any negB = r0 ∧ (numL (agAt ags 1)).any negB = r1) := ⟨hr0, hr1⟩
  clear hA h hbA hl hlen hr hr0 hr1 hrr
  go_enter Tryz.func51, Tryz.ntmps51
  go_wp2_with fail
  refine kM.mono ?_
  clear kM
  rintro e w1 ⟨rfl, hb⟩
  have HBw1 : Hid (Below W.heap.size W w1) := HBA.out.trans (hb.mono (by simp))
  have HBX : Hid _ := hb
  obtain ⟨b', off', a2, c2, e', hbb, hst, d0, d1⟩ := HA.out.at (agAt_some (i := 0) (by have := HLEN.out; omega))
  injection e' with e'; injection e' with q1 q2; subst q1; subst q2
  have y0 := (hb.cell (p := ⟨b, off + 0 * 2, none⟩) hbb).trans d0
  have y1 := (hb.cell (p := ⟨b, off + 0 * 2 + 1, none⟩) hbb).trans d1
  have kT := noneBelow_any (agAt ags 0) (hst.below hb) (HL.out _ (List.mem_of_getElem? (agAt_some (i := 0) (by have := HLEN.out; omega))))
  rw [HR0.out.1] at kT
  simp only [Nat.reduceMul, Nat.add_assoc, Nat.reduceAdd, Nat.add_zero, Nat.zero_mul, Nat.zero_add] at y0 y1
  clear d0 d1 hst hb
  cases r with
  | false =>
    clear kT
    go_wp2
    go_ret
    exact ⟨by rw [HE.out]; rfl, HBw1.out⟩
  | true =>
    go_wp2_with fail
    refine kT.mono ?_
    clear kT
    rintro e w2 ⟨rfl, hb⟩
    have HBw2 : Hid (Below W.heap.size W w2) := HBw1.out.trans (hb.mono HBw1.out.size)
    obtain ⟨b', off', a3, c3, e', hbb3, hst, d0, d1⟩ := HA.out.at (agAt_some (i := 1) (by have := HLEN.out; omega))
    injection e' with e'; injection e' with q1 q2; subst q1; subst q2
    have hb2 := HBX.out.trans (hb.mono HBX.out.size)
    have z0 := (hb2.cell (p := ⟨b, off + 1 * 2, none⟩) hbb3).trans d0
    have z1 := (hb2.cell (p := ⟨b, off + 1 * 2 + 1, none⟩) hbb3).trans d1
    have kT := noneBelow_any (agAt ags 1) (hst.below hb2) (HL.out _ (List.mem_of_getElem? (agAt_some (i := 1) (by have := HLEN.out; omega))))
    rw [HR0.out.2] at kT
    simp only [Nat.reduceMul, Nat.add_assoc, Nat.reduceAdd, Nat.add_zero, Nat.zero_mul, Nat.zero_add] at z0 z1
    clear d0 d1 hst hb hb2 y0 y1
    cases r0 with
    | true =>
      clear kT
      go_wp2
      go_ret
      exact ⟨by rw [HE.out]; rfl, HBw2.out⟩
    | false =>
      go_wp2_with fail
      refine kT.mono ?_
      clear kT
      rintro e w3 ⟨rfl, hb⟩
      have HBw3 : Hid (Below W.heap.size W w3) := HBw2.out.trans (hb.mono HBw2.out.size)
      clear hb
      cases r1 <;>
      · go_wp2
        go_ret
        exact ⟨by rw [HE.out]; rfl, HBw3.out⟩
end Go.Proofs.YtpgecdhieakilaaGreatDoor
