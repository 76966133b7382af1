/-
  What is proved here: Values that are spoilt: numbers of older blocks, slices and lengths stay; what Block and Values answer, as functions.
  What is proved here: Outputs are written as the reference writes them: the walk of OutWrites.
-/
import Derived.Test.YtdnhhmnllhlbbaaGreatDoorQo
import Derived.Test.YtdnhhmnllhlbbaaGreatDoorQij
import Derived.Test.YtdnhhmnllhlbbaaGreatDoorQj
import Derived.Test.YtdnhhmnllhlbbaaGreatDoorPpj
import Derived.Test.YtdnhhmnllhlbbaaGreatDoorQe
import Derived.Test.YtdnhhmnllhlbbaaGreatDoorQa
import Derived.Test.YtdnhhmnllhlbbaaGreatDoorOsj
namespace Go.Proofs.YtdnhhmnllhlbbaaGreatDoor
open Go.RowKit Go.Shelf
set_option linter.unusedVariables false
set_option linter.unusedSimpArgs false
theorem SvXU.at {X : Nat → Prop} {W : World} {a : Option Addr} {n c : Nat} {l : List Vl} (h : SvXU X W (.slice a n c) l) {i : Nat} {v : Vl} (hv : l[i]? = some v) : ∃ b off a' c', a = some ⟨b, off, none⟩ ∧ b < W.heap.size ∧ NmU X W (.slice a' v.s.length c') v.s ∧ W.cell? ⟨b, off + i * 3 + 2, none⟩ = some (.slice a' v.s.length c') := by
  obtain ⟨a', c', e, h⟩ := h
  injection e with e1 e2 e3
  obtain ⟨b, off, f1, f2, _, f3⟩ := h (Nat.lt_of_le_of_lt (Nat.zero_le _) (List.getElem?_eq_some_iff.1 hv).1)
  obtain ⟨sv, g1, g2, g3, g4⟩ := f3 i v hv
  obtain ⟨a2, c2, rfl, _⟩ := id g1
  exact ⟨b, off, a2, c2, e1.trans f1, f2, g1, g4⟩
theorem SvvXU.at {X : Nat → Prop} {W : World} {a : Option Addr} {n c : Nat} {l : List (List Vl)} (h : SvvXU X W (.slice a n c) l) {i : Nat} {v : List Vl} (hv : l[i]? = some v) : ∃ b off a' c', a = some ⟨b, off, none⟩ ∧ b < W.heap.size ∧ SvXU X W (.slice a' v.length c') v ∧ W.cell? ⟨b, off + i, none⟩ = some (.slice a' v.length c') := by
  obtain ⟨a', c', e, h⟩ := h
  injection e with e1 e2 e3
  obtain ⟨b, off, f1, f2, _, f3⟩ := h (Nat.lt_of_le_of_lt (Nat.zero_le _) (List.getElem?_eq_some_iff.1 hv).1)
  obtain ⟨sv, g1, g2⟩ := f3 i v hv
  obtain ⟨a2, c2, rfl, _⟩ := id g1
  exact ⟨b, off, a2, c2, e1.trans f1, f2, g1, g2⟩
theorem SvXU.x {X : Nat → Prop} {W : World} {s : Value} {l : List Vl} (h : SvXU X W s l) : SvX X W s l := by
  obtain ⟨a, c, e, h⟩ := h
  refine ⟨a, c, e, fun h0 => ?_⟩
  obtain ⟨b, off, f1, f2, f3, f4⟩ := h h0
  refine ⟨b, off, f1, f2, f3, fun i v hv => ?_⟩
  obtain ⟨sv, g1, g2⟩ := f4 i v hv
  exact ⟨sv, g1.nm, g2⟩
theorem SvvXU.x {X : Nat → Prop} {W : World} {s : Value} {l : List (List Vl)} (h : SvvXU X W s l) : SvvX X W s l := by
  obtain ⟨a, c, e, h⟩ := h
  refine ⟨a, c, e, fun h0 => ?_⟩
  obtain ⟨b, off, f1, f2, f3, f4⟩ := h h0
  refine ⟨b, off, f1, f2, f3, fun i v hv => ?_⟩
  obtain ⟨sv, g1, g2⟩ := f4 i v hv
  exact ⟨sv, g1.x, g2⟩
/-- Numbers of blocks from F on may have become others. -/
structure Sp (F : Nat) (w0 w : World) : Prop where
  os : w.os = w0.os
  tape : w.tape = w0.tape
  output : w.output = w0.output
  size : w.heap.size = w0.heap.size
  block : ∀ b, b < F → w.heap[b]? = w0.heap[b]?
  typ : ∀ (b : Nat) cs, w0.heap[b]? = some (.cells cs 2 (0, 0)) → ∃ cs', w.heap[b]? = some (.cells cs' 2 (0, 0))
  sl : ∀ (b o : Nat) p n c, w0.cell? ⟨b, o, none⟩ = some (.slice p n c) → w.cell? ⟨b, o, none⟩ = some (.slice p n c)
  it : ∀ (b o : Nat) x, w0.cell? ⟨b, o, none⟩ = some (.int .i64 x) → ∃ y, w.cell? ⟨b, o, none⟩ = some (.int .i64 y)
theorem Sp.refl (F : Nat) (w : World) : Sp F w w := ⟨rfl, rfl, rfl, rfl, fun _ _ => rfl, fun _ cs h => ⟨cs, h⟩, fun _ _ _ _ _ h => h, fun _ _ x h => ⟨x, h⟩⟩
theorem Sp.below {F : Nat} {w0 w : World} (h : Sp F w0 w) (hF : F ≤ w0.heap.size) : Below F w0 w := ⟨h.os, h.tape, h.output, by rw [h.size]; exact Nat.le_refl _, fun b hb => h.block b (by omega)⟩
theorem Sp.set {F : Nat} {w0 w : World} (h : Sp F w0 w) {g o : Nat} {x z : Int} {cs : Array Value} (hg : F ≤ g) (hb : w0.heap[g]? = some (.cells cs 2 (0, 0))) (hc : w0.cell? ⟨g, o, none⟩ = some (.int .i64 x)) : Sp F w0 (w.setCell ⟨g, o, none⟩ (.int .i64 z)) := by
  obtain ⟨cs', hcs⟩ := h.typ g cs hb
  have hB : Blk w g cs' 2 := ⟨hcs⟩
  have hS := hB.set o (.int .i64 z)
  have hoth : ∀ b, b ≠ g → (w.setCell ⟨g, o, none⟩ (.int .i64 z)).heap[b]? = w.heap[b]? := fun b hb => Below.heap_setCell w ⟨g, o, none⟩ _ b hb
  obtain ⟨y, hy⟩ := h.it g o x hc
  rw [hB.cell] at hy
  have ho : o < cs'.size := (Array.getElem?_eq_some_iff.1 hy).1
  have hcell : ∀ i, (w.setCell ⟨g, o, none⟩ (.int .i64 z)).cell? ⟨g, i, none⟩ = if i = o then some (.int .i64 z) else w.cell? ⟨g, i, none⟩ := fun i => by
    rw [hS.cell, Array.getElem?_setIfInBounds, hB.cell]
    by_cases hi : i = o
    · subst hi; rw [if_pos rfl, if_pos rfl, if_pos ho]
    · rw [if_neg hi, if_neg (fun e => hi e.symm)]
  refine ⟨h.os, h.tape, h.output, by rw [World.size_setCell]; exact h.size, fun b hb2 => (hoth b (by omega)).trans (h.block b hb2), fun b cs2 hb2 => ?_, fun b i p n c hc2 => ?_, fun b i x2 hc2 => ?_⟩
  · by_cases hbg : b = g
    · subst hbg; exact ⟨_, hS.h⟩
    · rw [hoth b hbg]; exact h.typ b cs2 hb2
  · by_cases hbg : b = g
    · subst hbg
      rw [hcell i]
      by_cases hi : i = o
      · subst hi; rw [hc] at hc2; cases hc2
      · rw [if_neg hi]; exact h.sl b i p n c hc2
    · rw [World.cell?_of_block (a := ⟨b, i, none⟩) (hoth b hbg)]; exact h.sl b i p n c hc2
  · by_cases hbg : b = g
    · subst hbg
      rw [hcell i]
      by_cases hi : i = o
      · exact ⟨z, by rw [if_pos hi]⟩
      · rw [if_neg hi]; exact h.it b i x2 hc2
    · rw [World.cell?_of_block (a := ⟨b, i, none⟩) (hoth b hbg)]; exact h.it b i x2 hc2
theorem Sp.frozen {F : Nat} {w0 w : World} (h : Sp F w0 w) {g : Nat} {cs : Array Value} (hb : w0.heap[g]? = some (.cells cs 2 (0, 0))) (o : Nat) : w.frozen? ⟨g, o, none⟩ = false := by
  obtain ⟨cs', hcs⟩ := h.typ g cs hb
  exact Blk.frozen ⟨hcs⟩ o
def erM (l : List Ou) (vals : List Vl) : Int := if RightN l ≠ 0 then RightN l else match ousV l vals with
  | none => 1
  | some _ => 0
def xsM (l : List Ou) (vals : List Vl) : List (List Vl) := if RightN l ≠ 0 then [] else match ousV l vals with
  | none => []
  | some xs => xs
def tM (l : List Ou) (vals : List Vl) : List UInt8 := if RightN l ≠ 0 then [] else match ousV l vals with
  | none => []
  | some xs => blockT l xs
theorem xsM_lim {l : List Ou} {vals : List Vl} (hn : l.length ≤ 1000000000) (hz : ∀ o ∈ l, OuZ o) : Lim (xsM l vals) := by
  have h0 : Lim [] := ⟨by simp, fun x hx => by simp at hx⟩
  unfold xsM
  by_cases h : RightN l ≠ 0
  · rw [if_pos h]; exact h0
  · rw [if_neg h]
    cases hx : ousV l vals with
    | none => exact h0
    | some xs => exact lim_ous hx hn hz
theorem blk_fn {l : List Ou} {vals : List Vl} {e : Ending} (h : BlkE l vals e) : e = .returned (.tuple #[.string (bs (tM l vals)), .int .i64 (erM l vals)]) := by
  obtain ⟨T, er, rfl, h⟩ := h
  unfold tM erM
  rcases h with ⟨h1, rfl, rfl⟩ | ⟨h1, h2, rfl, rfl⟩ | ⟨h1, xs, h2, rfl, rfl⟩
  · rw [if_pos h1, if_pos h1]
  · rw [if_neg (by simpa using h1), if_neg (by simpa using h1), h2]
  · rw [if_neg (by simpa using h1), if_neg (by simpa using h1), h2]
theorem val_fn {l : List Ou} {vals : List Vl} {F : Nat} {e : Ending} {w : World} (h : ValE l vals F e w) : ∃ sv, e = .returned (.tuple #[sv, .int .i64 (erM l vals)]) ∧ SvvX (fun b => b < F) w sv (xsM l vals) := by
  obtain ⟨sv, er, rfl, h⟩ := h
  unfold xsM erM
  rcases h with ⟨h1, rfl, rfl⟩ | ⟨h1, h2, rfl, rfl⟩ | ⟨h1, xs, h2, rfl, h3⟩
  · rw [if_pos h1, if_pos h1]; exact ⟨_, rfl, none, 0, rfl, fun h => by simp at h⟩
  · rw [if_neg (by simpa using h1), if_neg (by simpa using h1), h2]; exact ⟨_, rfl, none, 0, rfl, fun h => by simp at h⟩
  · rw [if_neg (by simpa using h1), if_neg (by simpa using h1), h2]; exact ⟨_, rfl, h3⟩
theorem val_fnU {l : List Ou} {vals : List Vl} {F : Nat} {e : Ending} {w : World} (h : ValEU l vals F e w) : ∃ sv, e = .returned (.tuple #[sv, .int .i64 (erM l vals)]) ∧ SvvXU (fun b => b < F) w sv (xsM l vals) := by
  obtain ⟨sv, er, rfl, h⟩ := h
  unfold xsM erM
  rcases h with ⟨h1, rfl, rfl⟩ | ⟨h1, h2, rfl, rfl⟩ | ⟨h1, xs, h2, rfl, h3⟩
  · rw [if_pos h1, if_pos h1]; exact ⟨_, rfl, none, 0, rfl, fun h => by simp at h⟩
  · rw [if_neg (by simpa using h1), if_neg (by simpa using h1), h2]; exact ⟨_, rfl, none, 0, rfl, fun h => by simp at h⟩
  · rw [if_neg (by simpa using h1), if_neg (by simpa using h1), h2]; exact ⟨_, rfl, h3⟩
end Go.Proofs.YtdnhhmnllhlbbaaGreatDoor

namespace Go.Proofs.YtdnhhmnllhlbbaaGreatDoor
open Go.RowKit Go.Shelf
set_option linter.unusedVariables false
set_option linter.unusedSimpArgs false
theorem rblockI {W : World} {s vs : Value} {l : List Ou} {vals : List Vl} (h : OuIn W s l) (hv : VlIn W vs vals) (hT : Tens W) :
    Calls Tryz.prog 9 #[s, vs] W fun e w' => BlkE l vals e ∧ Below W.heap.size W w' :=
  rblock9 h.so (by have := h.n; omega) h.z (fun o ho => by have := h.nm o ho; omega) hv.sv (fun v q => by have := hv.z v q; omega) (by have := hv.n; omega) hT
theorem valuesU {W : World} {s vs : Value} {l : List Ou} {vals : List Vl} (h : OuIn W s l) (hv : VlIn W vs vals) :
    Calls Tryz.prog 10 #[s, vs] W fun e w' => ∃ sv, e = .returned (.tuple #[sv, .int .i64 (erM l vals)]) ∧ SvvXU (fun b => b < W.heap.size) w' sv (xsM l vals) ∧ Below W.heap.size W w' :=
  (values10u h.so (by have := h.n; omega) h.z hv.sv (fun v q => by have := hv.z v q; omega) (by have := hv.n; omega)).mono fun e w' hh => by
    obtain ⟨sv, h1, h2⟩ := val_fnU hh.1
    exact ⟨sv, h1, h2, hh.2⟩
theorem rvaluesI {W : World} {s vs : Value} {l : List Ou} {vals : List Vl} (h : OuIn W s l) (hv : VlIn W vs vals) :
    Calls Tryz.prog 11 #[s, vs] W fun e w' => ∃ sv, e = .returned (.tuple #[sv, .int .i64 (erM l vals)]) ∧ SvvX (fun b => b < 0) w' sv (xsM l vals) ∧ Below W.heap.size W w' :=
  (rvalues11 h.so (by have := h.n; omega) h.z hv.sv (fun v q => by have := hv.z v q; omega) (by have := hv.n; omega)).mono fun e w' hh => by
    obtain ⟨sv, h1, h2⟩ := val_fn hh.1
    exact ⟨sv, h1, h2, hh.2⟩

set_option maxRecDepth 100000 in
set_option maxHeartbeats 4000000 in
theorem writes_walk {W : World} {os vs : Value} {l : List Ou} {v : List Vl} (how why part at_ : Int) (ho : OuIn W os l) (hd : ∀ o ∈ l, o.dims.length ≤ 1048576) (hv : VlIn W vs v) (hw : Fit why ∧ Fit part ∧ Fit at_) (hT : Tens W) (hM : MaxL W) :
    Calls Tryz.prog 3 #[os, vs, .int .i64 how, .int .i64 why, .int .i64 part, .int .i64 at_] W fun e w' => e = .returned (.bool true) ∧ Below W.heap.size W w' := by
  have k7 := lentOuts7 ho.so ho.n ho.z (fun o q => by have := hd o q; omega)
  obtain ⟨oa, on, oc, rfl⟩ := slice_of ho
  obtain ⟨va, vn, vc, rfl⟩ := slice_ofv hv
  have HO : Hid (OuIn W (.slice oa on oc) l ∧ VlIn W (.slice va vn vc) v ∧ Tens W ∧ MaxL W) := ⟨ho, hv, hT, hM⟩
  have HDM := hid hd
  have HWF := hid hw
  clear ho hv hT hM hd hw
  go_enter Tryz.func3, Tryz.ntmps3
  go_wp2_with fail
  refine k7.mono ?_
  rintro e w1 ⟨own, rfl, hs, hb1⟩
  have HB1 : Hid (Below W.heap.size W w1) := hb1
  have hOW : OuIn w1 own l := ⟨hs, HO.out.1.n, HO.out.1.z, HO.out.1.nm⟩
  obtain ⟨pa, pn, pc, rfl⟩ := slice_of hOW
  have HOW := hid hOW
  clear k7 hs hb1 hOW
  go_wp2_with fail
  refine (blockI HOW.out (HO.out.2.1.below HB1.out) (HO.out.2.2.1.self HB1.out)).mono ?_
  rintro e w2 ⟨hE, hb2⟩
  obtain rfl := blk_fn hE
  obtain ⟨S, hS⟩ : ∃ S, bs (tM l v) = S := ⟨_, rfl⟩
  obtain ⟨er, her⟩ : ∃ S, erM l v = S := ⟨_, rfl⟩
  rw [hS, her]
  have HSE : Hid (bs (tM l v) = S ∧ erM l v = er) := ⟨hS, her⟩
  have H12 : Hid (Below w1.heap.size w1 w2) := hb2
  clear hE hb2 hS her
  go_wp2_with fail
  refine (rblockI (HO.out.1.below (HB1.out.trans (H12.out.mono HB1.out.size))) (HO.out.2.1.below (HB1.out.trans (H12.out.mono HB1.out.size))) (HO.out.2.2.1.self (HB1.out.trans (H12.out.mono HB1.out.size)))).mono ?_
  rintro e w3 ⟨hE, hb3⟩
  obtain rfl := blk_fn hE
  rw [HSE.out.1, HSE.out.2]
  have H13 : Hid (Below w1.heap.size w1 w3) := H12.out.trans (hb3.mono H12.out.size)
  clear hE hb3 H12
  go_wp2_with fail
  refine (valuesU (HOW.out.below H13.out) (HO.out.2.1.below (HB1.out.trans (H13.out.mono HB1.out.size)))).mono ?_
  rintro e w4 ⟨sx, rfl, hx, hb4⟩
  rw [HSE.out.2]
  obtain ⟨xa, xn, xc, rfl⟩ := svv_shape hx.x
  have HX : Hid (SvvXU (fun b => b < w3.heap.size) w4 (.slice xa xn xc) (xsM l v)) := hx
  have H34 : Hid (Below w3.heap.size w3 w4) := hb4
  have H14 : Hid (Below w1.heap.size w1 w4) := H13.out.trans (hb4.mono H13.out.size)
  clear hx hb4
  go_wp2_with fail
  refine (rvaluesI (HO.out.1.below (HB1.out.trans (H14.out.mono HB1.out.size))) (HO.out.2.1.below (HB1.out.trans (H14.out.mono HB1.out.size)))).mono ?_
  rintro e w5 ⟨sy, rfl, hy, hb5⟩
  rw [HSE.out.2]
  obtain ⟨ya, yn, yc, rfl⟩ := svv_shape hy
  have HY : Hid (SvvX (fun b => b < 0) w5 (.slice ya yn yc) (xsM l v)) := hy
  have H35 : Hid (Below w3.heap.size w3 w5) := H34.out.trans (hb5.mono H34.out.size)
  have HX5 : Hid (SvvXU (fun b => b < w3.heap.size) w5 (.slice xa xn xc) (xsM l v)) := HX.out.below hb5
  clear hy hb5 HX H34 H14
  have HLI : Hid (Lim (xsM l v)) := xsM_lim (by have := HO.out.1.n; omega) HO.out.1.z
  go_wp2_with fail
  have ks := same12 HX5.out.x HY.out HLI.out HLI.out
  rw [show decide (xsM l v = xsM l v) = true by simp] at ks
  refine ks.mono ?_
  rintro e w6 ⟨rfl, hb6⟩
  have H36 : Hid (Below w3.heap.size w3 w6) := H35.out.trans (hb6.mono H35.out.size)
  have HX6 : Hid (SvvXU (fun b => b < w3.heap.size) w6 (.slice xa xn xc) (xsM l v)) := HX5.out.below hb6
  have H16 : Hid (Below w1.heap.size w1 w6) := H13.out.trans (H36.out.mono H13.out.size)
  clear ks hb6 H35 HX5 HY HSE
  obtain ⟨r, hr⟩ : ∃ r, RightN l = r := ⟨_, rfl⟩
  have kr := right13 (HOW.out.below H16.out).so (by have := HO.out.1.n; omega) HO.out.1.z
  rw [hr] at kr
  go_wp2_with fail
  refine kr.mono ?_
  rintro e w7 ⟨rfl, hb7⟩
  have H37 : Hid (Below w3.heap.size w3 w7) := H36.out.trans (hb7.mono H36.out.size)
  have HX7 : Hid (SvvXU (fun b => b < w3.heap.size) w7 (.slice xa xn xc) (xsM l v)) := HX6.out.below hb7
  have H17 : Hid (Below w1.heap.size w1 w7) := H13.out.trans (H37.out.mono H13.out.size)
  have HW7 : Hid (Below W.heap.size W w7) := HB1.out.trans (H17.out.mono HB1.out.size)
  clear kr hb7 H36 HX6 H16
  have kr := rright14 (HO.out.1.below HW7.out).so (by have := HO.out.1.n; omega) HO.out.1.z
  rw [hr] at kr
  clear hr
  go_wp2_with fail
  refine kr.mono ?_
  rintro e w8 ⟨rfl, hb8⟩
  have H38 : Hid (Below w3.heap.size w3 w8) := H37.out.trans (hb8.mono H37.out.size)
  have HX8 : Hid (SvvXU (fun b => b < w3.heap.size) w8 (.slice xa xn xc) (xsM l v)) := HX7.out.below hb8
  have HW8 : Hid (Below W.heap.size W w8) := HW7.out.trans (hb8.mono HW7.out.size)
  clear kr hb8 H37 HX7 H17 HW7
  obtain ⟨T, hTT⟩ : ∃ T, bs (statT how why part at_) = T := ⟨_, rfl⟩
  have kt := stat15 how why part at_ HWF.out.1.1 HWF.out.1.2 HWF.out.2.1.1 HWF.out.2.1.2 HWF.out.2.2.1 HWF.out.2.2.2 w8 (HO.out.2.2.1.self HW8.out)
  rw [hTT] at kt
  go_wp2_with fail
  refine kt.mono ?_
  rintro e w9 ⟨rfl, hb9⟩
  have H39 : Hid (Below w3.heap.size w3 w9) := H38.out.trans (hb9.mono H38.out.size)
  have HX9 : Hid (SvvXU (fun b => b < w3.heap.size) w9 (.slice xa xn xc) (xsM l v)) := HX8.out.below hb9
  have HW9 : Hid (Below W.heap.size W w9) := HW8.out.trans (hb9.mono HW8.out.size)
  clear kt hb9 H38 HX8 HW8
  have kt := rstat16 how why part at_ HWF.out.1.1 HWF.out.1.2 HWF.out.2.1.1 HWF.out.2.1.2 HWF.out.2.2.1 HWF.out.2.2.2 w9 (HO.out.2.2.1.self HW9.out)
  rw [hTT] at kt
  clear hTT
  go_wp2_with fail
  refine kt.mono ?_
  rintro e w10 ⟨rfl, hb10⟩
  have H3T : Hid (Below w3.heap.size w3 w10) := H39.out.trans (hb10.mono H39.out.size)
  have HX : Hid (SvvXU (fun b => b < w3.heap.size) w10 (.slice xa xn xc) (xsM l v)) := HX9.out.below hb10
  clear kt hb10 H39 HX9 HW9
  obtain ⟨X, hX⟩ : ∃ X, xsM l v = X := ⟨_, rfl⟩
  rw [hX] at HX HLI
  clear hX
  obtain ⟨F, hF⟩ : ∃ F, w3.heap.size = F := ⟨_, rfl⟩
  rw [hF] at HX
  have HFF := hid hF
  clear hF
  have hxn : X.length = xn := by obtain ⟨_, _, e, _⟩ := HX.out; injection e with _ e _; exact e.symm
  have HXN := hid hxn
  have hxn2 : xn ≤ 1000000000 := by rw [← hxn]; exact HLI.out.1
  have hvn : v.length = vn := by obtain ⟨_, _, e, _⟩ := HO.out.2.1.sv; injection e with _ e _; exact e.symm
  have HVN := hid hvn
  have hvn2 : vn ≤ 1048576 := by rw [← hvn]; exact HO.out.2.1.n
  clear hxn hvn
  go_wp2
  go_loopw [22] (fun i wr => ∃ k : Nat, k ≤ xn ∧ i = .int .i64 (k : Int) ∧ Hid (Sp F w10 wr)) (fun i _ => xn - (intOf i).toNat)
  case atStart => exact ⟨0, Nat.zero_le _, rfl, Sp.refl _ _⟩
  case round =>
    obtain ⟨k, hk, rfl, HSP⟩ := hrel
    by_cases hlt : k < xn
    · have hlt' : (k : Int) < xn := by omega
      obtain ⟨x, hx⟩ : ∃ x, X[k]? = some x := ⟨_, List.getElem?_eq_getElem (by rw [HXN.out]; exact hlt)⟩
      obtain ⟨b1, o1, a2, c2, rfl, hb1, hx1, hc1⟩ := HX.out.at hx
      have HLX : Hid _ := HLI.out.2 x (List.mem_of_getElem? hx)
      obtain ⟨n2, hn2⟩ : ∃ q, x.length = q := ⟨_, rfl⟩
      rw [hn2] at hx1 hc1
      have hn2b : n2 ≤ 1000000000 := by rw [← hn2]; exact HLX.out.1
      have HX1 := hid hx1
      have HC1 := hid hc1
      have HN2 := hid hn2
      have hw1 : IntKind.i64.wrap ((k : Int) + 1) = (k : Int) + 1 := by rw [IntKind.wrap_i64]; omega
      clear hx hb1 hx1 hc1 hn2
      go_wp2
      go_loopw [23] (fun i wi => ∃ q : Nat, q ≤ n2 ∧ i = .int .i64 (q : Int) ∧ Hid (Sp F w10 wi)) (fun i _ => n2 - (intOf i).toNat)
      case atStart => exact ⟨0, Nat.zero_le _, rfl, HSP.out⟩
      case round =>
        clear HSP
        obtain ⟨q, hq, rfl, HSP⟩ := hrel
        have y1 := HSP.out.sl _ _ _ _ _ HC1.out
        by_cases hlq : q < n2
        · have hlq' : (q : Int) < n2 := by omega
          obtain ⟨u, hu⟩ : ∃ z, x[q]? = some z := ⟨_, List.getElem?_eq_getElem (by rw [HN2.out]; exact hlq)⟩
          obtain ⟨b2, o2, a3, c3, rfl, hb2, hx2, hc2⟩ := HX1.out.at hu
          obtain ⟨n3, hn3⟩ : ∃ q, u.s.length = q := ⟨_, rfl⟩
          have hn3b : n3 ≤ 17592186043904 := by rw [← hn3]; exact HLX.out.2 u (List.mem_of_getElem? hu)
          rw [hn3] at hx2 hc2
          have HX2 := hid hx2
          have HC2 := hid hc2
          have HN3 := hid hn3
          have hw2 : IntKind.i64.wrap ((q : Int) + 1) = (q : Int) + 1 := by rw [IntKind.wrap_i64]; omega
          clear hu hb2 hx2 hc2 hn3
          go_wp2
          clear y1
          go_loopw [24] (fun i wj => ∃ j : Nat, j ≤ n3 ∧ i = .int .i64 (j : Int) ∧ Hid (Sp F w10 wj)) (fun i _ => n3 - (intOf i).toNat)
          case atStart => exact ⟨0, Nat.zero_le _, rfl, HSP.out⟩
          case round =>
            clear HSP
            obtain ⟨j, hj, rfl, HSP⟩ := hrel
            have y1 := HSP.out.sl _ _ _ _ _ HC1.out
            have y2 := HSP.out.sl _ _ _ _ _ HC2.out
            by_cases hlj : j < n3
            · have hlj' : (j : Int) < n3 := by omega
              obtain ⟨y, hy⟩ : ∃ x, u.s[j]? = some x := ⟨_, List.getElem?_eq_getElem (by rw [HN3.out]; exact hlj)⟩
              obtain ⟨_, _, he3, h3⟩ := HX2.out
              injection he3 with e1 e2 e3
              subst e1 e3
              obtain ⟨b3, o3, rfl, hb3, hnb, ⟨cs3, hcs⟩, hc3⟩ := h3 (by rw [HN3.out]; omega)
              have hc9 := hc3 j y hy
              obtain ⟨z, hz⟩ := HSP.out.it _ _ _ hc9
              have hfz := HSP.out.frozen hcs (o3 + j)
              have HS9 : Hid (Sp F w10 (wr.setCell ⟨b3, o3 + j, none⟩ (.int .i64 99))) := HSP.out.set (Nat.le_of_not_lt hnb) hcs hc9
              have hw3 : IntKind.i64.wrap ((j : Int) + 1) = (j : Int) + 1 := by rw [IntKind.wrap_i64]; omega
              clear h3 hc3 hy hcs hc9 e2 hnb hb3
              go_wp2
              go_roundw
              case rel => exact ⟨j + 1, by omega, by go_num, HS9.out⟩
              case measure => simp [intOf]; omega
            · have hlj' : ¬ (j : Int) < n3 := by omega
              go_wp2
              go_roundw
              case rel => exact ⟨q + 1, by omega, by go_num, HSP.out⟩
              case measure => simp [intOf]; omega
        · have hlq' : ¬ (q : Int) < n2 := by omega
          go_wp2
          go_roundw
          case rel => exact ⟨k + 1, by omega, by go_num, HSP.out⟩
          case measure => simp [intOf]; omega
    · have hlt' : ¬ (k : Int) < xn := by omega
      have HB : Hid (Below w1.heap.size w1 wr) := H13.out.trans ((H3T.out.trans (HSP.out.below (by rw [← HFF.out]; exact H3T.out.size) |>.mono (by rw [HFF.out]; exact Nat.le_refl _))).mono H13.out.size)
      clear HSP
      go_wp2
      go_loopw [25] (fun i wq => ∃ k : Nat, k ≤ vn ∧ k ≤ 50 ∧ i = .int .i64 (k : Int) ∧ Hid (Below w1.heap.size w1 wq)) (fun i _ => vn - (intOf i).toNat)
      case atStart => exact ⟨0, Nat.zero_le _, Nat.zero_le _, rfl, HB.out⟩
      case round =>
        clear HB
        obtain ⟨k, hk, hk5, rfl, HB⟩ := hrel
        have hwk : IntKind.i64.wrap ((k : Int) + 1) = (k : Int) + 1 := by rw [IntKind.wrap_i64]; omega
        by_cases hlv : k < vn
        · have hlv' : (k : Int) < vn := by omega
          by_cases hl5 : k < 50
          · have hl5' : (k : Int) < 50 := by omega
            obtain ⟨x, hx⟩ : ∃ z, v[k]? = some z := ⟨_, List.getElem?_eq_getElem (by rw [HVN.out]; exact hlv)⟩
            obtain ⟨b, off, a3, c3, rfl, hb, hsi, d0, d1, d2⟩ := HO.out.2.1.sv.at hx
            have hxz := HO.out.2.1.z x (List.mem_of_getElem? hx)
            have KA : Hid (∀ (Q : World) (q : Int), Below W.heap.size W Q → Calls Tryz.prog 17 #[.agg #[.bool x.set, .int .i64 x.n, .slice a3 x.s.length c3], .int .i64 q] Q fun e w' => valE x q e ∧ Below Q.heap.size Q w') := fun Q q hQ => value17 x q (hsi.below hQ) (by omega) (HO.out.2.2.1.self hQ)
            have KB : Hid (∀ (Q : World) (q : Int), Below W.heap.size W Q → Calls Tryz.prog 18 #[.agg #[.bool x.set, .int .i64 x.n, .slice a3 x.s.length c3], .int .i64 q] Q fun e w' => valE x q e ∧ Below Q.heap.size Q w') := fun Q q hQ => rvalue18 x q (hsi.below hQ) (by omega) (HO.out.2.2.1.self hQ)
            have HCC : Hid (∀ Q, Below w1.heap.size w1 Q → Below W.heap.size W Q ∧ Q.cell? ⟨b, off + k * 3, none⟩ = some (.bool x.set) ∧ Q.cell? ⟨b, off + k * 3 + 1, none⟩ = some (.int .i64 x.n) ∧ Q.cell? ⟨b, off + k * 3 + 2, none⟩ = some (.slice a3 x.s.length c3)) := fun Q hQ => by
              have h0 : Below W.heap.size W Q := HB1.out.trans (hQ.mono HB1.out.size)
              exact ⟨h0, (h0.cell (p := ⟨b, off + k * 3, none⟩) hb).trans d0, (h0.cell (p := ⟨b, off + k * 3 + 1, none⟩) hb).trans d1, (h0.cell (p := ⟨b, off + k * 3 + 2, none⟩) hb).trans d2⟩
            obtain ⟨xs3, hxs3⟩ : ∃ q, x.s.length = q := ⟨_, rfl⟩
            rw [hxs3] at KA KB HCC
            clear hx hb hsi d0 d1 d2 hxz hxs3
            go_wp2
            go_loopw [26] (fun i wi => ∃ q : Nat, q ≤ 5 ∧ i = .int .i64 (q : Int) ∧ Hid (Below w1.heap.size w1 wi)) (fun i _ => 5 - (intOf i).toNat)
            case atStart => exact ⟨0, Nat.zero_le _, rfl, HB.out⟩
            case round =>
              clear HB
              obtain ⟨q, hq, rfl, HB⟩ := hrel
              have hwq : IntKind.i64.wrap ((q : Int) + 1) = (q : Int) + 1 := by rw [IntKind.wrap_i64]; omega
              by_cases hlq : q < 5
              · have hlq' : (q : Int) < 5 := by omega
                obtain ⟨hWB, z0, z1, z2⟩ := HCC.out _ HB.out
                have ka := KA.out _ q hWB
                clear hWB
                go_wp2_with fail
                refine ka.mono ?_
                rintro e wa ⟨hE, hba⟩
                unfold valE at hE
                subst hE
                have HBA : Hid (Below w1.heap.size w1 wa) := HB.out.trans (hba.mono HB.out.size)
                obtain ⟨T, hTT⟩ : ∃ T, bs (if isVal x.set x.n x.s q then valT q x else []) = T := ⟨_, rfl⟩
                obtain ⟨er, her⟩ : ∃ T : Int, (if isVal x.set x.n x.s q then (0 : Int) else 1) = T := ⟨_, rfl⟩
                rw [hTT, her]
                clear hba ka z0 z1 z2 HB
                obtain ⟨hWB, z0, z1, z2⟩ := HCC.out _ HBA.out
                have kb := KB.out _ q hWB
                clear hWB
                go_wp2_with fail
                refine kb.mono ?_
                rintro e wb ⟨hE, hbb⟩
                unfold valE at hE
                rw [hTT, her] at hE
                subst hE
                have HBB : Hid (Below w1.heap.size w1 wb) := HBA.out.trans (hbb.mono HBA.out.size)
                clear hbb kb z0 z1 z2 HBA hTT her
                go_wp2
                go_roundw
                case rel => exact ⟨q + 1, by omega, by go_num, HBB.out⟩
                case measure => simp [intOf]; omega
              · have hlq' : ¬ (q : Int) < 5 := by omega
                go_wp2
                go_roundw
                case rel => exact ⟨k + 1, by omega, by omega, by go_num, HB.out⟩
                case measure => simp [intOf]; omega
          · have hl5' : ¬ (k : Int) < 50 := by omega
            have k19 := sameOuts19 (HOW.out.below HB.out).so (HO.out.1.below (HB1.out.trans (HB.out.mono HB1.out.size))).so HO.out.1.n HO.out.1.z (fun o q => by have := HDM.out o q; omega)
            go_wp2_with fail
            refine k19.mono ?_
            rintro e wa ⟨rfl, hba⟩
            have HBA : Hid (Below W.heap.size W wa) := HB1.out.trans ((HB.out.trans (hba.mono HB.out.size)).mono HB1.out.size)
            have k20 := known20 (HO.out.2.2.1.self HBA.out) (HO.out.2.2.2.self HBA.out)
            clear k19 hba
            go_wp2_with fail
            refine k20.mono ?_
            rintro e wb ⟨rfl, hbb⟩
            have HBB : Hid (Below W.heap.size W wb) := HBA.out.trans (hbb.mono HBA.out.size)
            clear k20 hbb
            go_wp2
            go_ret
            exact ⟨rfl, HBB.out⟩
        · have hlv' : ¬ (k : Int) < vn := by omega
          have k19 := sameOuts19 (HOW.out.below HB.out).so (HO.out.1.below (HB1.out.trans (HB.out.mono HB1.out.size))).so HO.out.1.n HO.out.1.z (fun o q => by have := HDM.out o q; omega)
          go_wp2_with fail
          refine k19.mono ?_
          rintro e wa ⟨rfl, hba⟩
          have HBA : Hid (Below W.heap.size W wa) := HB1.out.trans ((HB.out.trans (hba.mono HB.out.size)).mono HB1.out.size)
          have k20 := known20 (HO.out.2.2.1.self HBA.out) (HO.out.2.2.2.self HBA.out)
          clear k19 hba
          go_wp2_with fail
          refine k20.mono ?_
          rintro e wb ⟨rfl, hbb⟩
          have HBB : Hid (Below W.heap.size W wb) := HBA.out.trans (hbb.mono HBA.out.size)
          clear k20 hbb
          go_wp2
          go_ret
          exact ⟨rfl, HBB.out⟩
end Go.Proofs.YtdnhhmnllhlbbaaGreatDoor
