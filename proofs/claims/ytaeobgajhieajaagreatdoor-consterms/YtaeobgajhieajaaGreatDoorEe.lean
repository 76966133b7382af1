/-
  What is proved here: the walk of ConsTerms.
-/
import Derived.Test.YtaeobgajhieajaaGreatDoorEd
import Derived.Test.YtaeobgajhieajaaGreatDoorDx
namespace Go.Proofs.YtaeobgajhieajaaGreatDoor
open Go.RowKit Go.Shelf
set_option linter.unusedVariables false
set_option linter.unusedSimpArgs false

theorem st_three (w : World) (n v : Int) (l : List Int) {aB : Option Addr} {ln cB : Nat} (hB : Si 0 w (.slice aB ln cB) l) : St 0 (w.alloc (Obj.cells #[.int .i64 (-1), .bool false, .int .i64 n, .slice none 0 0, .int .i64 (-1), .bool true, .int .i64 0, .slice aB ln cB, .int .i64 v, .bool false, .int .i64 0, .slice none 0 0] 46)) (.slice (some ⟨w.heap.size, 0, none⟩) 3 3) [⟨-1, false, n, []⟩, ⟨-1, true, 0, l⟩, ⟨v, false, 0, []⟩] := by
  have hk := Blk.new w #[.int .i64 (-1), .bool false, .int .i64 n, .slice none 0 0, .int .i64 (-1), .bool true, .int .i64 0, .slice aB ln cB, .int .i64 v, .bool false, .int .i64 0, .slice none 0 0] 46
  have hb : Below w.heap.size w (w.alloc (Obj.cells #[.int .i64 (-1), .bool false, .int .i64 n, .slice none 0 0, .int .i64 (-1), .bool true, .int .i64 0, .slice aB ln cB, .int .i64 v, .bool false, .int .i64 0, .slice none 0 0] 46)) := (Below.refl _ w).alloc (Nat.le_refl _) _
  refine ⟨_, _, rfl, fun _ => ⟨_, 0, [.slice none 0 0, .slice aB ln cB, .slice none 0 0], rfl, Nat.zero_le _, by simp, rfl, fun i t sv h1 h2 => ?_⟩⟩
  match i, h1, h2 with
  | 0, h1, h2 =>
    simp at h1 h2; subst h1; subst h2
    refine ⟨⟨none, 0, rfl, fun h => absurd h (by simp)⟩, fun q u hu => ?_⟩
    rw [hk.cell]
    match q, hu with
    | 0, hu => simpa [Tm.cells] using hu
    | 1, hu => simpa [Tm.cells] using hu
    | 2, hu => simpa [Tm.cells] using hu
    | 3, hu => simpa [Tm.cells] using hu
  | 1, h1, h2 =>
    simp at h1 h2; subst h1; subst h2
    refine ⟨hB.below hb, fun q u hu => ?_⟩
    rw [hk.cell]
    match q, hu with
    | 0, hu => simpa [Tm.cells] using hu
    | 1, hu => simpa [Tm.cells] using hu
    | 2, hu => simpa [Tm.cells] using hu
    | 3, hu => simpa [Tm.cells] using hu
  | 2, h1, h2 =>
    simp at h1 h2; subst h1; subst h2
    refine ⟨⟨none, 0, rfl, fun h => absurd h (by simp)⟩, fun q u hu => ?_⟩
    rw [hk.cell]
    match q, hu with
    | 0, hu => simpa [Tm.cells] using hu
    | 1, hu => simpa [Tm.cells] using hu
    | 2, hu => simpa [Tm.cells] using hu
    | 3, hu => simpa [Tm.cells] using hu

set_option maxRecDepth 100000 in
set_option maxHeartbeats 4000000 in
theorem terms_walk (n v : Int) (l : List Int) (t : Tm) (vals : List Vl) {a1 : Option Addr} {c1 : Nat} {svT : Value} {a4 : Option Addr} {c4 : Nat} (W : World) (hM : MaxL W) (hl : Si 0 W (.slice a1 l.length c1) l) (hlz : l.length * 8 ≤ 140737488351232)
    (ht : Si 0 W svT t.s) (htz : t.s.length ≤ 17592186043904) (hv : Sv W (.slice a4 vals.length c4) vals) (hvz : vals.length ≤ 17592186043904) (hvL : ∀ u ∈ vals, u.s.length ≤ 17592186043904) :
    Calls Tryz.prog 5 #[.int .i64 n, .slice a1 l.length c1, .int .i64 v, .agg #[.int .i64 t.v, .bool t.set, .int .i64 t.n, svT], .slice a4 vals.length c4] W fun e w' => e = .returned (.bool true) ∧ Below W.heap.size W w' := by
  obtain ⟨a8, c8, rfl, ht'⟩ := ht
  have HTs0 : Si 0 W (.slice a8 t.s.length c8) t.s := ⟨_, _, rfl, ht'⟩
  clear ht'
  obtain ⟨tv, htv⟩ : ∃ x, t.v = x := ⟨_, rfl⟩
  obtain ⟨ts, hts⟩ : ∃ x, t.set = x := ⟨_, rfl⟩
  obtain ⟨tn, htn⟩ : ∃ x, t.n = x := ⟨_, rfl⟩
  obtain ⟨sn, hsn⟩ : ∃ x, t.s.length = x := ⟨_, rfl⟩
  obtain ⟨ln, hln⟩ : ∃ x, l.length = x := ⟨_, rfl⟩
  obtain ⟨vn, hvn⟩ : ∃ x, vals.length = x := ⟨_, rfl⟩
  have HT : Hid (t.v = tv ∧ t.set = ts ∧ t.n = tn ∧ t.s.length = sn ∧ l.length = ln ∧ vals.length = vn) := ⟨htv, hts, htn, hsn, hln, hvn⟩
  have HZ : Hid (l.length * 8 ≤ 140737488351232 ∧ t.s.length ≤ 17592186043904 ∧ vals.length ≤ 17592186043904 ∧ ∀ u ∈ vals, u.s.length ≤ 17592186043904) := ⟨hlz, htz, hvz, hvL⟩
  rw [htv, hts, htn, hsn, hln, hvn]
  rw [hln] at hl hlz
  rw [hsn] at HTs0 htz
  rw [hvn] at hv hvz
  clear htv hts htn hsn hln hvn hvL
  obtain ⟨W0, hW0⟩ : ∃ X, W.alloc (Obj.cells #[.int .i64 tv, .bool ts, .int .i64 tn, .slice a8 sn c8] 46) = X := ⟨_, rfl⟩
  have hb0 : Below W.heap.size W W0 := by rw [← hW0]; exact (Below.refl _ W).alloc (Nat.le_refl _) _
  have KT : Hid (Blk W0 W.heap.size #[.int .i64 tv, .bool ts, .int .i64 tn, .slice a8 sn c8] 46) := by rw [← hW0]; exact Blk.new W _ _
  have HB : Hid (Below W.heap.size W W0) := hb0
  have HM : Hid (MaxL W0) := hM.below hb0 hM.1
  have HL : Hid (Si 0 W0 (.slice a1 ln c1) l) := hl.below hb0
  have H00 : Hid (MaxL W ∧ Si 0 W (.slice a1 ln c1) l) := ⟨hM, hl⟩
  have HS : Hid (Si 0 W0 (.slice a8 sn c8) t.s) := HTs0.below hb0
  have HV : Hid (Sv W0 (.slice a4 vn c4) vals) := hv.below hb0
  have HW0 : Hid (W.alloc (Obj.cells #[.int .i64 tv, .bool ts, .int .i64 tn, .slice a8 sn c8] 46) = W0) := hW0
  clear hM hl HTs0 hv hW0 hb0
  obtain ⟨bT, hbT⟩ : ∃ x, W.heap.size = x := ⟨_, rfl⟩
  have HBT : Hid (W.heap.size = bT) := hbT
  rw [hbT] at KT
  clear hbT
  go_enter Tryz.func5, Tryz.ntmps5
  go_upto_region 1 with (fail)
  rw [HW0.out, HBT.out]
  clear HW0
  have k1 := lentI_any _ l W0 HL.out HZ.out.1
  rw [HT.out.2.2.2.2.1] at k1
  go_wp2_with fail
  refine k1.mono ?_
  clear k1
  rintro e w1 ⟨g0, c0, rfl, hc0, hm0, hrow, hb⟩
  replace KT : Hid (Blk w1 bT #[.int .i64 tv, .bool ts, .int .i64 tn, .slice a8 sn c8] 46) := Blk.below KT.out hb
  replace HB : Hid (Below W.heap.size W w1) := HB.out.trans (hb.mono HB.out.size)
  replace HM : Hid (MaxL w1) := MaxL.below HM.out hb HM.out.1
  replace HL : Hid (Si 0 w1 (.slice a1 ln c1) l) := Si.below HL.out hb
  replace HS : Hid (Si 0 w1 (.slice a8 sn c8) t.s) := Si.below HS.out hb
  replace HV : Hid (Sv w1 (.slice a4 vn c4) vals) := Sv.below HV.out hb
  have LT : Hid (Lt w1 g0 c0 l) := (RowI.lt hrow).1
  have HC0 : Hid (ln + 1 ≤ c0 ∧ c0 ≤ maxLen) := ⟨hc0, hm0⟩
  have LT1 : Hid (Lt w1 g0 c0 l) := (RowI.lt hrow).1
  have HW1 : Hid (W.heap.size ≤ w1.heap.size) := HB.out.size
  have HF : Hid (Below w1.heap.size w1 w1 ∧ g0 < w1.heap.size) := ⟨Below.refl _ _, LT.out.lt⟩
  clear hb hrow hc0 hm0
  go_wp2_with fail
  refine (int_any w1 n).mono ?_
  rintro e w2 ⟨rfl, hb⟩
  replace KT : Hid (Blk w2 bT #[.int .i64 tv, .bool ts, .int .i64 tn, .slice a8 sn c8] 46) := Blk.below KT.out hb
  replace HB : Hid (Below W.heap.size W w2) := HB.out.trans (hb.mono HB.out.size)
  replace HM : Hid (MaxL w2) := MaxL.below HM.out hb HM.out.1
  replace HL : Hid (Si 0 w2 (.slice a1 ln c1) l) := Si.below HL.out hb
  replace HS : Hid (Si 0 w2 (.slice a8 sn c8) t.s) := Si.below HS.out hb
  replace HV : Hid (Sv w2 (.slice a4 vn c4) vals) := Sv.below HV.out hb
  replace LT : Hid (Lt w2 g0 c0 l) := Lt.below LT.out hb LT.out.lt
  replace HF : Hid (Below w1.heap.size w1 w2 ∧ g0 < w1.heap.size) := ⟨HF.out.1.trans (hb.mono HF.out.1.size), HF.out.2⟩
  clear hb
  go_upto_region 3 with (fail)
  obtain ⟨X2, hX2⟩ : ∃ X, w2.alloc (Obj.cells #[.int .i64 (-1), .bool false, .int .i64 n, .slice none 0 0] 46) = X := ⟨_, rfl⟩
  have hb : Below w2.heap.size w2 X2 := by rw [← hX2]; exact (Below.refl _ w2).alloc (Nat.le_refl _) _
  have KA : Hid (Blk X2 w2.heap.size #[.int .i64 (-1), .bool false, .int .i64 n, .slice none 0 0] 46) := by rw [← hX2]; exact Blk.new w2 _ _
  obtain ⟨bA, hbA⟩ : ∃ x, w2.heap.size = x := ⟨_, rfl⟩
  have HbA : Hid (w2.heap.size = bA ∧ bA < X2.heap.size) := ⟨hbA, by rw [← hX2, ← hbA]; simp⟩
  rw [hX2, hbA]
  rw [hbA] at KA
  replace KT : Hid (Blk X2 bT #[.int .i64 tv, .bool ts, .int .i64 tn, .slice a8 sn c8] 46) := Blk.below KT.out hb
  replace HB : Hid (Below W.heap.size W X2) := HB.out.trans (hb.mono HB.out.size)
  replace HM : Hid (MaxL X2) := MaxL.below HM.out hb HM.out.1
  replace HL : Hid (Si 0 X2 (.slice a1 ln c1) l) := Si.below HL.out hb
  replace HS : Hid (Si 0 X2 (.slice a8 sn c8) t.s) := Si.below HS.out hb
  replace HV : Hid (Sv X2 (.slice a4 vn c4) vals) := Sv.below HV.out hb
  replace LT : Hid (Lt X2 g0 c0 l) := Lt.below LT.out hb LT.out.lt
  replace HF : Hid (Below w1.heap.size w1 X2 ∧ g0 < w1.heap.size) := ⟨HF.out.1.trans (hb.mono HF.out.1.size), HF.out.2⟩
  clear hb hX2 hbA
  have kS := set_own LT.out.si (by have := HZ.out.1; omega)
  rw [HT.out.2.2.2.2.1] at kS
  go_wp2_with fail
  refine kS.mono ?_
  clear kS
  rintro e w3 ⟨aB, cB, rfl, hsi, hwr, hb⟩
  have hF9 := HF.out.1.size
  replace KT : Hid (Blk w3 bT #[.int .i64 tv, .bool ts, .int .i64 tn, .slice a8 sn c8] 46) := Blk.below KT.out hb
  replace HB : Hid (Below W.heap.size W w3) := HB.out.trans (hb.mono HB.out.size)
  replace HM : Hid (MaxL w3) := MaxL.below HM.out hb HM.out.1
  replace HL : Hid (Si 0 w3 (.slice a1 ln c1) l) := Si.below HL.out hb
  replace HS : Hid (Si 0 w3 (.slice a8 sn c8) t.s) := Si.below HS.out hb
  replace HV : Hid (Sv w3 (.slice a4 vn c4) vals) := Sv.below HV.out hb
  replace LT : Hid (Lt w3 g0 c0 l) := Lt.below LT.out hb LT.out.lt
  replace HF : Hid (Below w1.heap.size w1 w3 ∧ g0 < w1.heap.size) := ⟨HF.out.1.trans (hb.mono HF.out.1.size), HF.out.2⟩
  replace KA : Hid (Blk w3 bA #[.int .i64 (-1), .bool false, .int .i64 n, .slice none 0 0] 46) := Blk.below KA.out hb
  have HSB : Hid (Si 0 w3 (.slice aB ln cB) l) := hsi.lower (Nat.zero_le _)
  have HWB : Hid (Wrt w3 w1.heap.size (.slice aB ln cB)) := hwr.lower (by omega)
  have HAB : Hid (∀ g off, aB = some ⟨g, off, none⟩ → 0 < ln → g < w3.heap.size) := fun g off e h0 => by
    obtain ⟨g', off', _, e', _, hlt, _⟩ := HWB.out.at 0 h0
    rw [e] at e'; injection e' with e'; injection e' with e1 _; rw [e1]; exact hlt
  clear hb hsi hwr hF9
  go_upto_region 4 with (fail)
  obtain ⟨X3, hX3⟩ : ∃ X, w3.alloc (Obj.cells #[.int .i64 (-1), .bool true, .int .i64 0, .slice aB ln cB] 46) = X := ⟨_, rfl⟩
  have hb : Below w3.heap.size w3 X3 := by rw [← hX3]; exact (Below.refl _ w3).alloc (Nat.le_refl _) _
  have KB : Hid (Blk X3 w3.heap.size #[.int .i64 (-1), .bool true, .int .i64 0, .slice aB ln cB] 46) := by rw [← hX3]; exact Blk.new w3 _ _
  obtain ⟨bB, hbB⟩ : ∃ x, w3.heap.size = x := ⟨_, rfl⟩
  have HbB : Hid (w3.heap.size = bB ∧ bB < X3.heap.size) := ⟨hbB, by rw [← hX3, ← hbB]; simp⟩
  rw [hX3, hbB]
  rw [hbB] at KB
  replace KT : Hid (Blk X3 bT #[.int .i64 tv, .bool ts, .int .i64 tn, .slice a8 sn c8] 46) := Blk.below KT.out hb
  replace HB : Hid (Below W.heap.size W X3) := HB.out.trans (hb.mono HB.out.size)
  replace HM : Hid (MaxL X3) := MaxL.below HM.out hb HM.out.1
  replace HL : Hid (Si 0 X3 (.slice a1 ln c1) l) := Si.below HL.out hb
  replace HS : Hid (Si 0 X3 (.slice a8 sn c8) t.s) := Si.below HS.out hb
  replace HV : Hid (Sv X3 (.slice a4 vn c4) vals) := Sv.below HV.out hb
  replace LT : Hid (Lt X3 g0 c0 l) := Lt.below LT.out hb LT.out.lt
  replace HF : Hid (Below w1.heap.size w1 X3 ∧ g0 < w1.heap.size) := ⟨HF.out.1.trans (hb.mono HF.out.1.size), HF.out.2⟩
  replace KA : Hid (Blk X3 bA #[.int .i64 (-1), .bool false, .int .i64 n, .slice none 0 0] 46) := Blk.below KA.out hb
  replace HSB : Hid (Si 0 X3 (.slice aB ln cB) l) := Si.below HSB.out hb
  replace HWB : Hid (Wrt X3 w1.heap.size (.slice aB ln cB)) := Wrt.below HWB.out hb
  clear hb hX3 hbB
  rw [HbB.out.1] at HAB
  go_wp2_with fail
  refine (var_any X3 v).mono ?_
  rintro e w4 ⟨rfl, hb⟩
  replace KT : Hid (Blk w4 bT #[.int .i64 tv, .bool ts, .int .i64 tn, .slice a8 sn c8] 46) := Blk.below KT.out hb
  replace HB : Hid (Below W.heap.size W w4) := HB.out.trans (hb.mono HB.out.size)
  replace HM : Hid (MaxL w4) := MaxL.below HM.out hb HM.out.1
  replace HL : Hid (Si 0 w4 (.slice a1 ln c1) l) := Si.below HL.out hb
  replace HS : Hid (Si 0 w4 (.slice a8 sn c8) t.s) := Si.below HS.out hb
  replace HV : Hid (Sv w4 (.slice a4 vn c4) vals) := Sv.below HV.out hb
  replace LT : Hid (Lt w4 g0 c0 l) := Lt.below LT.out hb LT.out.lt
  replace HF : Hid (Below w1.heap.size w1 w4 ∧ g0 < w1.heap.size) := ⟨HF.out.1.trans (hb.mono HF.out.1.size), HF.out.2⟩
  replace KA : Hid (Blk w4 bA #[.int .i64 (-1), .bool false, .int .i64 n, .slice none 0 0] 46) := Blk.below KA.out hb
  replace HSB : Hid (Si 0 w4 (.slice aB ln cB) l) := Si.below HSB.out hb
  replace HWB : Hid (Wrt w4 w1.heap.size (.slice aB ln cB)) := Wrt.below HWB.out hb
  replace KB : Hid (Blk w4 bB #[.int .i64 (-1), .bool true, .int .i64 0, .slice aB ln cB] 46) := Blk.below KB.out hb
  clear hb
  go_upto_region 5 with (fail)
  obtain ⟨X4, hX4⟩ : ∃ X, w4.alloc (Obj.cells #[.int .i64 v, .bool false, .int .i64 0, .slice none 0 0] 46) = X := ⟨_, rfl⟩
  have hb : Below w4.heap.size w4 X4 := by rw [← hX4]; exact (Below.refl _ w4).alloc (Nat.le_refl _) _
  have KC : Hid (Blk X4 w4.heap.size #[.int .i64 v, .bool false, .int .i64 0, .slice none 0 0] 46) := by rw [← hX4]; exact Blk.new w4 _ _
  obtain ⟨bC, hbC⟩ : ∃ x, w4.heap.size = x := ⟨_, rfl⟩
  have HbC : Hid (w4.heap.size = bC ∧ bC < X4.heap.size) := ⟨hbC, by rw [← hX4, ← hbC]; simp⟩
  rw [hX4, hbC]
  rw [hbC] at KC
  replace KT : Hid (Blk X4 bT #[.int .i64 tv, .bool ts, .int .i64 tn, .slice a8 sn c8] 46) := Blk.below KT.out hb
  replace HB : Hid (Below W.heap.size W X4) := HB.out.trans (hb.mono HB.out.size)
  replace HM : Hid (MaxL X4) := MaxL.below HM.out hb HM.out.1
  replace HL : Hid (Si 0 X4 (.slice a1 ln c1) l) := Si.below HL.out hb
  replace HS : Hid (Si 0 X4 (.slice a8 sn c8) t.s) := Si.below HS.out hb
  replace HV : Hid (Sv X4 (.slice a4 vn c4) vals) := Sv.below HV.out hb
  replace LT : Hid (Lt X4 g0 c0 l) := Lt.below LT.out hb LT.out.lt
  replace HF : Hid (Below w1.heap.size w1 X4 ∧ g0 < w1.heap.size) := ⟨HF.out.1.trans (hb.mono HF.out.1.size), HF.out.2⟩
  replace KA : Hid (Blk X4 bA #[.int .i64 (-1), .bool false, .int .i64 n, .slice none 0 0] 46) := Blk.below KA.out hb
  replace HSB : Hid (Si 0 X4 (.slice aB ln cB) l) := Si.below HSB.out hb
  replace HWB : Hid (Wrt X4 w1.heap.size (.slice aB ln cB)) := Wrt.below HWB.out hb
  replace KB : Hid (Blk X4 bB #[.int .i64 (-1), .bool true, .int .i64 0, .slice aB ln cB] 46) := Blk.below KB.out hb
  clear hb hX4 hbC
  have xbA0 : X4.cell? ⟨bA, 0, none⟩ = some (.int .i64 (-1)) := KA.out.cell 0
  have xbA1 : X4.cell? ⟨bA, 1, none⟩ = some (.bool false) := KA.out.cell 1
  have xbA2 : X4.cell? ⟨bA, 2, none⟩ = some (.int .i64 n) := KA.out.cell 2
  have xbA3 : X4.cell? ⟨bA, 3, none⟩ = some (.slice none 0 0) := KA.out.cell 3
  have kO := one_any (W := X4) (B := 0) (sv := .slice none 0 0) ⟨-1, false, n, []⟩ ⟨none, 0, rfl, fun h => absurd h (by simp)⟩ (by simp)
  go_wp2_with fail
  refine kO.mono ?_
  clear kO
  rintro e w5 ⟨vD, rfl, hst, hb⟩
  obtain ⟨aD, cD, rfl, hst'⟩ := hst
  replace KT : Hid (Blk w5 bT #[.int .i64 tv, .bool ts, .int .i64 tn, .slice a8 sn c8] 46) := Blk.below KT.out hb
  replace HB : Hid (Below W.heap.size W w5) := HB.out.trans (hb.mono HB.out.size)
  replace HM : Hid (MaxL w5) := MaxL.below HM.out hb HM.out.1
  replace HL : Hid (Si 0 w5 (.slice a1 ln c1) l) := Si.below HL.out hb
  replace HS : Hid (Si 0 w5 (.slice a8 sn c8) t.s) := Si.below HS.out hb
  replace HV : Hid (Sv w5 (.slice a4 vn c4) vals) := Sv.below HV.out hb
  replace LT : Hid (Lt w5 g0 c0 l) := Lt.below LT.out hb LT.out.lt
  replace HF : Hid (Below w1.heap.size w1 w5 ∧ g0 < w1.heap.size) := ⟨HF.out.1.trans (hb.mono HF.out.1.size), HF.out.2⟩
  replace KA : Hid (Blk w5 bA #[.int .i64 (-1), .bool false, .int .i64 n, .slice none 0 0] 46) := Blk.below KA.out hb
  replace HSB : Hid (Si 0 w5 (.slice aB ln cB) l) := Si.below HSB.out hb
  replace HWB : Hid (Wrt w5 w1.heap.size (.slice aB ln cB)) := Wrt.below HWB.out hb
  replace KB : Hid (Blk w5 bB #[.int .i64 (-1), .bool true, .int .i64 0, .slice aB ln cB] 46) := Blk.below KB.out hb
  replace KC : Hid (Blk w5 bC #[.int .i64 v, .bool false, .int .i64 0, .slice none 0 0] 46) := Blk.below KC.out hb
  have HD : Hid (St 0 w5 (.slice aD 1 cD) [⟨-1, false, n, []⟩]) := St.lower (B := X4.heap.size) ⟨_, _, rfl, hst'⟩ (Nat.zero_le _)
  clear hb hst'
  clear xbA0 xbA1 xbA2 xbA3
  go_upto_region 6 with (fail)
  obtain ⟨X5, hX5⟩ : ∃ X, w5.alloc (Obj.cells #[.bool false, .slice aD 1 cD] 54) = X := ⟨_, rfl⟩
  have hb : Below w5.heap.size w5 X5 := by rw [← hX5]; exact (Below.refl _ w5).alloc (Nat.le_refl _) _
  have KD : Hid (Blk X5 w5.heap.size #[.bool false, .slice aD 1 cD] 54) := by rw [← hX5]; exact Blk.new w5 _ _
  obtain ⟨bD, hbD⟩ : ∃ x, w5.heap.size = x := ⟨_, rfl⟩
  have HbD : Hid (w5.heap.size = bD ∧ bD < X5.heap.size) := ⟨hbD, by rw [← hX5, ← hbD]; simp⟩
  rw [hX5, hbD]
  rw [hbD] at KD
  replace KT : Hid (Blk X5 bT #[.int .i64 tv, .bool ts, .int .i64 tn, .slice a8 sn c8] 46) := Blk.below KT.out hb
  replace HB : Hid (Below W.heap.size W X5) := HB.out.trans (hb.mono HB.out.size)
  replace HM : Hid (MaxL X5) := MaxL.below HM.out hb HM.out.1
  replace HL : Hid (Si 0 X5 (.slice a1 ln c1) l) := Si.below HL.out hb
  replace HS : Hid (Si 0 X5 (.slice a8 sn c8) t.s) := Si.below HS.out hb
  replace HV : Hid (Sv X5 (.slice a4 vn c4) vals) := Sv.below HV.out hb
  replace LT : Hid (Lt X5 g0 c0 l) := Lt.below LT.out hb LT.out.lt
  replace HF : Hid (Below w1.heap.size w1 X5 ∧ g0 < w1.heap.size) := ⟨HF.out.1.trans (hb.mono HF.out.1.size), HF.out.2⟩
  replace KA : Hid (Blk X5 bA #[.int .i64 (-1), .bool false, .int .i64 n, .slice none 0 0] 46) := Blk.below KA.out hb
  replace HSB : Hid (Si 0 X5 (.slice aB ln cB) l) := Si.below HSB.out hb
  replace HWB : Hid (Wrt X5 w1.heap.size (.slice aB ln cB)) := Wrt.below HWB.out hb
  replace KB : Hid (Blk X5 bB #[.int .i64 (-1), .bool true, .int .i64 0, .slice aB ln cB] 46) := Blk.below KB.out hb
  replace KC : Hid (Blk X5 bC #[.int .i64 v, .bool false, .int .i64 0, .slice none 0 0] 46) := Blk.below KC.out hb
  replace HD : Hid (St 0 X5 (.slice aD 1 cD) [⟨-1, false, n, []⟩]) := St.below HD.out hb
  clear hb hX5 hbD
  have xbA0 : X5.cell? ⟨bA, 0, none⟩ = some (.int .i64 (-1)) := KA.out.cell 0
  have xbA1 : X5.cell? ⟨bA, 1, none⟩ = some (.bool false) := KA.out.cell 1
  have xbA2 : X5.cell? ⟨bA, 2, none⟩ = some (.int .i64 n) := KA.out.cell 2
  have xbA3 : X5.cell? ⟨bA, 3, none⟩ = some (.slice none 0 0) := KA.out.cell 3
  have xbB0 : X5.cell? ⟨bB, 0, none⟩ = some (.int .i64 (-1)) := KB.out.cell 0
  have xbB1 : X5.cell? ⟨bB, 1, none⟩ = some (.bool true) := KB.out.cell 1
  have xbB2 : X5.cell? ⟨bB, 2, none⟩ = some (.int .i64 0) := KB.out.cell 2
  have xbB3 : X5.cell? ⟨bB, 3, none⟩ = some (.slice aB ln cB) := KB.out.cell 3
  have xbC0 : X5.cell? ⟨bC, 0, none⟩ = some (.int .i64 v) := KC.out.cell 0
  have xbC1 : X5.cell? ⟨bC, 1, none⟩ = some (.bool false) := KC.out.cell 1
  have xbC2 : X5.cell? ⟨bC, 2, none⟩ = some (.int .i64 0) := KC.out.cell 2
  have xbC3 : X5.cell? ⟨bC, 3, none⟩ = some (.slice none 0 0) := KC.out.cell 3
  have h3 := st_three X5 n v l HSB.out
  have kE := list_any h3 (by simp) (by intro t ht; have := HZ.out.1; simp at ht; rcases ht with rfl | rfl | rfl <;> simp <;> omega)
  have hbA : Below X5.heap.size X5 (X5.alloc (Obj.cells #[.int .i64 (-1), .bool false, .int .i64 n, .slice none 0 0, .int .i64 (-1), .bool true, .int .i64 0, .slice aB ln cB, .int .i64 v, .bool false, .int .i64 0, .slice none 0 0] 46)) := (Below.refl _ X5).alloc (Nat.le_refl _) _
  have HBA : Hid _ := hbA
  clear h3 hbA
  go_wp2_with fail
  refine kE.mono ?_
  clear kE
  rintro e w6 ⟨vE, rfl, hst, hb6⟩
  have hb : Below X5.heap.size X5 w6 := HBA.out.trans (hb6.mono (by simp))
  obtain ⟨aE, cE, rfl, hst'⟩ := hst
  replace KT : Hid (Blk w6 bT #[.int .i64 tv, .bool ts, .int .i64 tn, .slice a8 sn c8] 46) := Blk.below KT.out hb
  replace HB : Hid (Below W.heap.size W w6) := HB.out.trans (hb.mono HB.out.size)
  replace HM : Hid (MaxL w6) := MaxL.below HM.out hb HM.out.1
  replace HL : Hid (Si 0 w6 (.slice a1 ln c1) l) := Si.below HL.out hb
  replace HS : Hid (Si 0 w6 (.slice a8 sn c8) t.s) := Si.below HS.out hb
  replace HV : Hid (Sv w6 (.slice a4 vn c4) vals) := Sv.below HV.out hb
  replace LT : Hid (Lt w6 g0 c0 l) := Lt.below LT.out hb LT.out.lt
  replace HF : Hid (Below w1.heap.size w1 w6 ∧ g0 < w1.heap.size) := ⟨HF.out.1.trans (hb.mono HF.out.1.size), HF.out.2⟩
  replace KA : Hid (Blk w6 bA #[.int .i64 (-1), .bool false, .int .i64 n, .slice none 0 0] 46) := Blk.below KA.out hb
  replace HSB : Hid (Si 0 w6 (.slice aB ln cB) l) := Si.below HSB.out hb
  replace HWB : Hid (Wrt w6 w1.heap.size (.slice aB ln cB)) := Wrt.below HWB.out hb
  replace KB : Hid (Blk w6 bB #[.int .i64 (-1), .bool true, .int .i64 0, .slice aB ln cB] 46) := Blk.below KB.out hb
  replace KC : Hid (Blk w6 bC #[.int .i64 v, .bool false, .int .i64 0, .slice none 0 0] 46) := Blk.below KC.out hb
  replace HD : Hid (St 0 w6 (.slice aD 1 cD) [⟨-1, false, n, []⟩]) := St.below HD.out hb
  replace KD : Hid (Blk w6 bD #[.bool false, .slice aD 1 cD] 54) := Blk.below KD.out hb
  have HE : Hid (St 0 w6 (.slice aE 3 cE) [⟨-1, false, n, []⟩, ⟨-1, true, 0, l⟩, ⟨v, false, 0, []⟩]) := St.lower ⟨_, _, rfl, hst'⟩ (Nat.zero_le _)
  clear hb hb6 hst' HBA
  clear xbA0 xbA1 xbA2 xbA3
  clear xbB0 xbB1 xbB2 xbB3
  clear xbC0 xbC1 xbC2 xbC3
  go_upto_region 7 with (fail)
  obtain ⟨X6, hX6⟩ : ∃ X, w6.alloc (Obj.cells #[.bool true, .slice aE 3 cE] 54) = X := ⟨_, rfl⟩
  have hb : Below w6.heap.size w6 X6 := by rw [← hX6]; exact (Below.refl _ w6).alloc (Nat.le_refl _) _
  have KE : Hid (Blk X6 w6.heap.size #[.bool true, .slice aE 3 cE] 54) := by rw [← hX6]; exact Blk.new w6 _ _
  obtain ⟨bE, hbE⟩ : ∃ x, w6.heap.size = x := ⟨_, rfl⟩
  have HbE : Hid (w6.heap.size = bE ∧ bE < X6.heap.size) := ⟨hbE, by rw [← hX6, ← hbE]; simp⟩
  rw [hX6, hbE]
  rw [hbE] at KE
  replace KT : Hid (Blk X6 bT #[.int .i64 tv, .bool ts, .int .i64 tn, .slice a8 sn c8] 46) := Blk.below KT.out hb
  replace HB : Hid (Below W.heap.size W X6) := HB.out.trans (hb.mono HB.out.size)
  replace HM : Hid (MaxL X6) := MaxL.below HM.out hb HM.out.1
  replace HL : Hid (Si 0 X6 (.slice a1 ln c1) l) := Si.below HL.out hb
  replace HS : Hid (Si 0 X6 (.slice a8 sn c8) t.s) := Si.below HS.out hb
  replace HV : Hid (Sv X6 (.slice a4 vn c4) vals) := Sv.below HV.out hb
  replace LT : Hid (Lt X6 g0 c0 l) := Lt.below LT.out hb LT.out.lt
  replace HF : Hid (Below w1.heap.size w1 X6 ∧ g0 < w1.heap.size) := ⟨HF.out.1.trans (hb.mono HF.out.1.size), HF.out.2⟩
  replace KA : Hid (Blk X6 bA #[.int .i64 (-1), .bool false, .int .i64 n, .slice none 0 0] 46) := Blk.below KA.out hb
  replace HSB : Hid (Si 0 X6 (.slice aB ln cB) l) := Si.below HSB.out hb
  replace HWB : Hid (Wrt X6 w1.heap.size (.slice aB ln cB)) := Wrt.below HWB.out hb
  replace KB : Hid (Blk X6 bB #[.int .i64 (-1), .bool true, .int .i64 0, .slice aB ln cB] 46) := Blk.below KB.out hb
  replace KC : Hid (Blk X6 bC #[.int .i64 v, .bool false, .int .i64 0, .slice none 0 0] 46) := Blk.below KC.out hb
  replace HD : Hid (St 0 X6 (.slice aD 1 cD) [⟨-1, false, n, []⟩]) := St.below HD.out hb
  replace KD : Hid (Blk X6 bD #[.bool false, .slice aD 1 cD] 54) := Blk.below KD.out hb
  replace HE : Hid (St 0 X6 (.slice aE 3 cE) [⟨-1, false, n, []⟩, ⟨-1, true, 0, l⟩, ⟨v, false, 0, []⟩]) := St.below HE.out hb
  clear hb hX6 hbE
  obtain ⟨q0, hq0⟩ : ∃ x, (ofV t vals).1.set = x := ⟨_, rfl⟩
  obtain ⟨q1, hq1⟩ : ∃ x, (ofV t vals).1.n = x := ⟨_, rfl⟩
  obtain ⟨q3, hq3⟩ : ∃ x, (ofV t vals).1.s.length = x := ⟨_, rfl⟩
  obtain ⟨q2, hq2⟩ : ∃ x, (ofV t vals).2 = x := ⟨_, rfl⟩
  have HQ : Hid ((ofV t vals).1.set = q0 ∧ (ofV t vals).1.n = q1 ∧ (ofV t vals).1.s.length = q3 ∧ (ofV t vals).2 = q2) := ⟨hq0, hq1, hq3, hq2⟩
  clear hq0 hq1 hq3 hq2
  have xbT0 : X6.cell? ⟨bT, 0, none⟩ = some (.int .i64 tv) := KT.out.cell 0
  have xbT1 : X6.cell? ⟨bT, 1, none⟩ = some (.bool ts) := KT.out.cell 1
  have xbT2 : X6.cell? ⟨bT, 2, none⟩ = some (.int .i64 tn) := KT.out.cell 2
  have xbT3 : X6.cell? ⟨bT, 3, none⟩ = some (.slice a8 sn c8) := KT.out.cell 3
  have kF := of30 t vals HS.out HV.out HZ.out.2.1 HZ.out.2.2.2 HZ.out.2.2.1
  rw [HT.out.1, HT.out.2.1, HT.out.2.2.1] at kF
  have hq1 : (ofV t vals).1.set = q0 := HQ.out.1
  have hq2 : (ofV t vals).1.n = q1 := HQ.out.2.1
  have hq3 : (ofV t vals).1.s.length = q3 := HQ.out.2.2.1
  have hq4 : (ofV t vals).2 = q2 := HQ.out.2.2.2
  rw [hq1, hq2, hq3, hq4] at kF
  clear hq1 hq2 hq3 hq4
  go_wp2_with fail
  refine kF.mono ?_
  clear kF
  rintro e w7 ⟨aX, cX, rfl, hsi, hb⟩
  replace KT : Hid (Blk w7 bT #[.int .i64 tv, .bool ts, .int .i64 tn, .slice a8 sn c8] 46) := Blk.below KT.out hb
  replace HB : Hid (Below W.heap.size W w7) := HB.out.trans (hb.mono HB.out.size)
  replace HM : Hid (MaxL w7) := MaxL.below HM.out hb HM.out.1
  replace HL : Hid (Si 0 w7 (.slice a1 ln c1) l) := Si.below HL.out hb
  replace HS : Hid (Si 0 w7 (.slice a8 sn c8) t.s) := Si.below HS.out hb
  replace HV : Hid (Sv w7 (.slice a4 vn c4) vals) := Sv.below HV.out hb
  replace LT : Hid (Lt w7 g0 c0 l) := Lt.below LT.out hb LT.out.lt
  replace HF : Hid (Below w1.heap.size w1 w7 ∧ g0 < w1.heap.size) := ⟨HF.out.1.trans (hb.mono HF.out.1.size), HF.out.2⟩
  replace KA : Hid (Blk w7 bA #[.int .i64 (-1), .bool false, .int .i64 n, .slice none 0 0] 46) := Blk.below KA.out hb
  replace HSB : Hid (Si 0 w7 (.slice aB ln cB) l) := Si.below HSB.out hb
  replace HWB : Hid (Wrt w7 w1.heap.size (.slice aB ln cB)) := Wrt.below HWB.out hb
  replace KB : Hid (Blk w7 bB #[.int .i64 (-1), .bool true, .int .i64 0, .slice aB ln cB] 46) := Blk.below KB.out hb
  replace KC : Hid (Blk w7 bC #[.int .i64 v, .bool false, .int .i64 0, .slice none 0 0] 46) := Blk.below KC.out hb
  replace HD : Hid (St 0 w7 (.slice aD 1 cD) [⟨-1, false, n, []⟩]) := St.below HD.out hb
  replace KD : Hid (Blk w7 bD #[.bool false, .slice aD 1 cD] 54) := Blk.below KD.out hb
  replace HE : Hid (St 0 w7 (.slice aE 3 cE) [⟨-1, false, n, []⟩, ⟨-1, true, 0, l⟩, ⟨v, false, 0, []⟩]) := St.below HE.out hb
  replace KE : Hid (Blk w7 bE #[.bool true, .slice aE 3 cE] 54) := Blk.below KE.out hb
  have HX : Hid (Si 0 w7 (.slice aX q3 cX) (ofV t vals).1.s) := hsi.lower (Nat.zero_le _)
  clear hb hsi
  clear xbT0 xbT1 xbT2 xbT3
  go_upto_region 8 with (fail)
  obtain ⟨X7, hX7⟩ : ∃ X, w7.alloc (Obj.cells #[.bool q0, .int .i64 q1, .slice aX q3 cX] 44) = X := ⟨_, rfl⟩
  have hb : Below w7.heap.size w7 X7 := by rw [← hX7]; exact (Below.refl _ w7).alloc (Nat.le_refl _) _
  have KX : Hid (Blk X7 w7.heap.size #[.bool q0, .int .i64 q1, .slice aX q3 cX] 44) := by rw [← hX7]; exact Blk.new w7 _ _
  obtain ⟨bX, hbX⟩ : ∃ x, w7.heap.size = x := ⟨_, rfl⟩
  have HbX : Hid (w7.heap.size = bX ∧ bX < X7.heap.size) := ⟨hbX, by rw [← hX7, ← hbX]; simp⟩
  rw [hX7, hbX]
  rw [hbX] at KX
  replace KT : Hid (Blk X7 bT #[.int .i64 tv, .bool ts, .int .i64 tn, .slice a8 sn c8] 46) := Blk.below KT.out hb
  replace HB : Hid (Below W.heap.size W X7) := HB.out.trans (hb.mono HB.out.size)
  replace HM : Hid (MaxL X7) := MaxL.below HM.out hb HM.out.1
  replace HL : Hid (Si 0 X7 (.slice a1 ln c1) l) := Si.below HL.out hb
  replace HS : Hid (Si 0 X7 (.slice a8 sn c8) t.s) := Si.below HS.out hb
  replace HV : Hid (Sv X7 (.slice a4 vn c4) vals) := Sv.below HV.out hb
  replace LT : Hid (Lt X7 g0 c0 l) := Lt.below LT.out hb LT.out.lt
  replace HF : Hid (Below w1.heap.size w1 X7 ∧ g0 < w1.heap.size) := ⟨HF.out.1.trans (hb.mono HF.out.1.size), HF.out.2⟩
  replace KA : Hid (Blk X7 bA #[.int .i64 (-1), .bool false, .int .i64 n, .slice none 0 0] 46) := Blk.below KA.out hb
  replace HSB : Hid (Si 0 X7 (.slice aB ln cB) l) := Si.below HSB.out hb
  replace HWB : Hid (Wrt X7 w1.heap.size (.slice aB ln cB)) := Wrt.below HWB.out hb
  replace KB : Hid (Blk X7 bB #[.int .i64 (-1), .bool true, .int .i64 0, .slice aB ln cB] 46) := Blk.below KB.out hb
  replace KC : Hid (Blk X7 bC #[.int .i64 v, .bool false, .int .i64 0, .slice none 0 0] 46) := Blk.below KC.out hb
  replace HD : Hid (St 0 X7 (.slice aD 1 cD) [⟨-1, false, n, []⟩]) := St.below HD.out hb
  replace KD : Hid (Blk X7 bD #[.bool false, .slice aD 1 cD] 54) := Blk.below KD.out hb
  replace HE : Hid (St 0 X7 (.slice aE 3 cE) [⟨-1, false, n, []⟩, ⟨-1, true, 0, l⟩, ⟨v, false, 0, []⟩]) := St.below HE.out hb
  replace KE : Hid (Blk X7 bE #[.bool true, .slice aE 3 cE] 54) := Blk.below KE.out hb
  replace HX : Hid (Si 0 X7 (.slice aX q3 cX) (ofV t vals).1.s) := Si.below HX.out hb
  clear hb hX7 hbX
  have xbT0 : X7.cell? ⟨bT, 0, none⟩ = some (.int .i64 tv) := KT.out.cell 0
  have xbT1 : X7.cell? ⟨bT, 1, none⟩ = some (.bool ts) := KT.out.cell 1
  have xbT2 : X7.cell? ⟨bT, 2, none⟩ = some (.int .i64 tn) := KT.out.cell 2
  have xbT3 : X7.cell? ⟨bT, 3, none⟩ = some (.slice a8 sn c8) := KT.out.cell 3
  have kF := of31 t vals HS.out HV.out HZ.out.2.1 HZ.out.2.2.2 HZ.out.2.2.1
  rw [HT.out.1, HT.out.2.1, HT.out.2.2.1] at kF
  have hq1 : (ofV t vals).1.set = q0 := HQ.out.1
  have hq2 : (ofV t vals).1.n = q1 := HQ.out.2.1
  have hq3 : (ofV t vals).1.s.length = q3 := HQ.out.2.2.1
  have hq4 : (ofV t vals).2 = q2 := HQ.out.2.2.2
  rw [hq1, hq2, hq3, hq4] at kF
  clear hq1 hq2 hq3 hq4
  go_wp2_with fail
  refine kF.mono ?_
  clear kF
  rintro e w8 ⟨aY, cY, rfl, hsi, hb⟩
  replace KT : Hid (Blk w8 bT #[.int .i64 tv, .bool ts, .int .i64 tn, .slice a8 sn c8] 46) := Blk.below KT.out hb
  replace HB : Hid (Below W.heap.size W w8) := HB.out.trans (hb.mono HB.out.size)
  replace HM : Hid (MaxL w8) := MaxL.below HM.out hb HM.out.1
  replace HL : Hid (Si 0 w8 (.slice a1 ln c1) l) := Si.below HL.out hb
  replace HS : Hid (Si 0 w8 (.slice a8 sn c8) t.s) := Si.below HS.out hb
  replace HV : Hid (Sv w8 (.slice a4 vn c4) vals) := Sv.below HV.out hb
  replace LT : Hid (Lt w8 g0 c0 l) := Lt.below LT.out hb LT.out.lt
  replace HF : Hid (Below w1.heap.size w1 w8 ∧ g0 < w1.heap.size) := ⟨HF.out.1.trans (hb.mono HF.out.1.size), HF.out.2⟩
  replace KA : Hid (Blk w8 bA #[.int .i64 (-1), .bool false, .int .i64 n, .slice none 0 0] 46) := Blk.below KA.out hb
  replace HSB : Hid (Si 0 w8 (.slice aB ln cB) l) := Si.below HSB.out hb
  replace HWB : Hid (Wrt w8 w1.heap.size (.slice aB ln cB)) := Wrt.below HWB.out hb
  replace KB : Hid (Blk w8 bB #[.int .i64 (-1), .bool true, .int .i64 0, .slice aB ln cB] 46) := Blk.below KB.out hb
  replace KC : Hid (Blk w8 bC #[.int .i64 v, .bool false, .int .i64 0, .slice none 0 0] 46) := Blk.below KC.out hb
  replace HD : Hid (St 0 w8 (.slice aD 1 cD) [⟨-1, false, n, []⟩]) := St.below HD.out hb
  replace KD : Hid (Blk w8 bD #[.bool false, .slice aD 1 cD] 54) := Blk.below KD.out hb
  replace HE : Hid (St 0 w8 (.slice aE 3 cE) [⟨-1, false, n, []⟩, ⟨-1, true, 0, l⟩, ⟨v, false, 0, []⟩]) := St.below HE.out hb
  replace KE : Hid (Blk w8 bE #[.bool true, .slice aE 3 cE] 54) := Blk.below KE.out hb
  replace HX : Hid (Si 0 w8 (.slice aX q3 cX) (ofV t vals).1.s) := Si.below HX.out hb
  replace KX : Hid (Blk w8 bX #[.bool q0, .int .i64 q1, .slice aX q3 cX] 44) := Blk.below KX.out hb
  have HY : Hid (Si 0 w8 (.slice aY q3 cY) (ofV t vals).1.s) := hsi.lower (Nat.zero_le _)
  clear hb hsi
  clear xbT0 xbT1 xbT2 xbT3
  go_upto_region 9 with (fail)
  obtain ⟨X8, hX8⟩ : ∃ X, w8.alloc (Obj.cells #[.bool q0, .int .i64 q1, .slice aY q3 cY] 44) = X := ⟨_, rfl⟩
  have hb : Below w8.heap.size w8 X8 := by rw [← hX8]; exact (Below.refl _ w8).alloc (Nat.le_refl _) _
  have KY : Hid (Blk X8 w8.heap.size #[.bool q0, .int .i64 q1, .slice aY q3 cY] 44) := by rw [← hX8]; exact Blk.new w8 _ _
  obtain ⟨bY, hbY⟩ : ∃ x, w8.heap.size = x := ⟨_, rfl⟩
  have HbY : Hid (w8.heap.size = bY ∧ bY < X8.heap.size) := ⟨hbY, by rw [← hX8, ← hbY]; simp⟩
  rw [hX8, hbY]
  rw [hbY] at KY
  replace KT : Hid (Blk X8 bT #[.int .i64 tv, .bool ts, .int .i64 tn, .slice a8 sn c8] 46) := Blk.below KT.out hb
  replace HB : Hid (Below W.heap.size W X8) := HB.out.trans (hb.mono HB.out.size)
  replace HM : Hid (MaxL X8) := MaxL.below HM.out hb HM.out.1
  replace HL : Hid (Si 0 X8 (.slice a1 ln c1) l) := Si.below HL.out hb
  replace HS : Hid (Si 0 X8 (.slice a8 sn c8) t.s) := Si.below HS.out hb
  replace HV : Hid (Sv X8 (.slice a4 vn c4) vals) := Sv.below HV.out hb
  replace LT : Hid (Lt X8 g0 c0 l) := Lt.below LT.out hb LT.out.lt
  replace HF : Hid (Below w1.heap.size w1 X8 ∧ g0 < w1.heap.size) := ⟨HF.out.1.trans (hb.mono HF.out.1.size), HF.out.2⟩
  replace KA : Hid (Blk X8 bA #[.int .i64 (-1), .bool false, .int .i64 n, .slice none 0 0] 46) := Blk.below KA.out hb
  replace HSB : Hid (Si 0 X8 (.slice aB ln cB) l) := Si.below HSB.out hb
  replace HWB : Hid (Wrt X8 w1.heap.size (.slice aB ln cB)) := Wrt.below HWB.out hb
  replace KB : Hid (Blk X8 bB #[.int .i64 (-1), .bool true, .int .i64 0, .slice aB ln cB] 46) := Blk.below KB.out hb
  replace KC : Hid (Blk X8 bC #[.int .i64 v, .bool false, .int .i64 0, .slice none 0 0] 46) := Blk.below KC.out hb
  replace HD : Hid (St 0 X8 (.slice aD 1 cD) [⟨-1, false, n, []⟩]) := St.below HD.out hb
  replace KD : Hid (Blk X8 bD #[.bool false, .slice aD 1 cD] 54) := Blk.below KD.out hb
  replace HE : Hid (St 0 X8 (.slice aE 3 cE) [⟨-1, false, n, []⟩, ⟨-1, true, 0, l⟩, ⟨v, false, 0, []⟩]) := St.below HE.out hb
  replace KE : Hid (Blk X8 bE #[.bool true, .slice aE 3 cE] 54) := Blk.below KE.out hb
  replace HX : Hid (Si 0 X8 (.slice aX q3 cX) (ofV t vals).1.s) := Si.below HX.out hb
  replace KX : Hid (Blk X8 bX #[.bool q0, .int .i64 q1, .slice aX q3 cX] 44) := Blk.below KX.out hb
  replace HY : Hid (Si 0 X8 (.slice aY q3 cY) (ofV t vals).1.s) := Si.below HY.out hb
  clear hb hX8 hbY
  obtain ⟨bL, oL, aL, cL, rfl, hbL, gL, l0, l1, l2, l3⟩ := HD.out.at (i := 0) rfl
  have hlz9 := HZ.out.1
  have hln9 := HT.out.2.2.2.2.1
  have hq9 : Hid ((ofV t vals).1.s.length ≤ 17592186043904) := by
    have h1 := HZ.out.2.1
    have h2 := HZ.out.2.2.2
    show (ofV t vals).1.s.length ≤ 17592186043904
    unfold ofV
    split
    · exact h1
    · split
      · simp
      · split
        · rename_i hu
          exact h2 _ (List.mem_of_getElem? hu)
        · simp
  have kA : ∀ X, Below X8.heap.size X8 X → Calls Tryz.prog 32 #[.agg #[.int .i64 (-1), .bool false, .int .i64 n, .slice none 0 0], .agg #[.int .i64 (-1), .bool false, .int .i64 n, .slice none 0 0]] X fun e w' => e = .returned (.bool true) ∧ Below X.heap.size X w' := fun X hX => (sameTerm32 (B1 := 0) (B2 := 0) (l1 := []) (l2 := []) (-1) (-1) false false n n ⟨none, 0, rfl, fun h => absurd h (by simp)⟩ ⟨none, 0, rfl, fun h => absurd h (by simp)⟩ (by simp) (by simp)).mono fun e w' ⟨he, hb⟩ => ⟨by rw [he]; simp, hb⟩
  have kB : ∀ X, Below X8.heap.size X8 X → Calls Tryz.prog 32 #[.agg #[.int .i64 (-1), .bool true, .int .i64 0, .slice aB ln cB], .agg #[.int .i64 (-1), .bool true, .int .i64 0, .slice a1 ln c1]] X fun e w' => e = .returned (.bool true) ∧ Below X.heap.size X w' := fun X hX => (sameTerm32 (-1) (-1) true true 0 0 (HSB.out.below hX) (HL.out.below hX) (by omega) (by omega)).mono fun e w' ⟨he, hb⟩ => ⟨by rw [he]; simp, hb⟩
  have kC : ∀ X, Below X8.heap.size X8 X → Calls Tryz.prog 32 #[.agg #[.int .i64 v, .bool false, .int .i64 0, .slice none 0 0], .agg #[.int .i64 v, .bool false, .int .i64 0, .slice none 0 0]] X fun e w' => e = .returned (.bool true) ∧ Below X.heap.size X w' := fun X hX => (sameTerm32 (B1 := 0) (B2 := 0) (l1 := []) (l2 := []) v v false false 0 0 ⟨none, 0, rfl, fun h => absurd h (by simp)⟩ ⟨none, 0, rfl, fun h => absurd h (by simp)⟩ (by simp) (by simp)).mono fun e w' ⟨he, hb⟩ => ⟨by rw [he]; simp, hb⟩
  have kD : ∀ X, Below X8.heap.size X8 X → Calls Tryz.prog 32 #[.agg #[.int .i64 (-1), .bool false, .int .i64 n, .slice aL 0 cL], .agg #[.int .i64 (-1), .bool false, .int .i64 n, .slice none 0 0]] X fun e w' => e = .returned (.bool true) ∧ Below X.heap.size X w' := fun X hX => (sameTerm32 (B1 := 0) (B2 := 0) (l1 := []) (l2 := []) (-1) (-1) false false n n ⟨aL, cL, rfl, fun h => absurd h (by simp)⟩ ⟨none, 0, rfl, fun h => absurd h (by simp)⟩ (by simp) (by simp)).mono fun e w' ⟨he, hb⟩ => ⟨by rw [he]; simp, hb⟩
  have hLs : ∀ t ∈ ([⟨-1, false, n, []⟩, ⟨-1, true, 0, l⟩, ⟨v, false, 0, []⟩] : List Tm), t.s.length ≤ 17592186043904 := by intro t ht; simp at ht; rcases ht with rfl | rfl | rfl <;> simp <;> omega
  have kE : ∀ X, Below X8.heap.size X8 X → Calls Tryz.prog 33 #[.slice aE 3 cE, .slice (some ⟨X.heap.size, 0, none⟩) 3 3] (X.alloc (Obj.cells #[.int .i64 (-1), .bool false, .int .i64 n, .slice none 0 0, .int .i64 (-1), .bool true, .int .i64 0, .slice aB ln cB, .int .i64 v, .bool false, .int .i64 0, .slice none 0 0] 46)) fun e w' => e = .returned (.bool true) ∧ Below X.heap.size X w' := fun X hX => by
    have hbA : Below X.heap.size X (X.alloc (Obj.cells #[.int .i64 (-1), .bool false, .int .i64 n, .slice none 0 0, .int .i64 (-1), .bool true, .int .i64 0, .slice aB ln cB, .int .i64 v, .bool false, .int .i64 0, .slice none 0 0] 46)) := (Below.refl _ X).alloc (Nat.le_refl _) _
    exact (sameTerms33 ((HE.out.below hX).below hbA) (st_three X n v l (HSB.out.below hX)) (by simp) (by simp) hLs hLs).mono fun e w' ⟨he, hb⟩ => ⟨by rw [he]; simp, hbA.trans (hb.mono (by simp))⟩
  have kF : ∀ X, Below X8.heap.size X8 X → Calls Tryz.prog 34 #[.agg #[.bool q0, .int .i64 q1, .slice aX q3 cX], .agg #[.bool q0, .int .i64 q1, .slice aY q3 cY]] X fun e w' => e = .returned (.bool true) ∧ Below X.heap.size X w' := fun X hX => (sameVal34 q0 q0 q1 q1 (HX.out.below hX) (HY.out.below hX) hq9.out hq9.out).mono fun e w' ⟨he, hb⟩ => ⟨by rw [he]; simp, hb⟩
  clear hlz9 hln9
  have hB : Below X8.heap.size X8 X8.drew := Below.drew (Below.refl _ _)
  refine wp_region_held_drew (S := (fun w => Below X8.heap.size X8 w)) (by kernel_rfl) (hB) (fun hHeld => ?_)
  refine wpAnyH_take (i := 0) (oi := { dst := some 49, op := Go.Op.load 46 (Go.Operand.tmp 12), type := 46, pos := "law.go:71", after := #[], guard := none }) (v := ?_) rfl (by kernel_rfl) (by kernel_rfl) (by kernel_rfl) (fun _ _ _ h => h) (Or.inl ⟨by rfl, ?_⟩) hHeld ?_
  rotate_left
  · intro w hSw; have yy := Blk.below KA.out hSw; have y0 := yy.cell 0; have y1 := yy.cell 1; have y2 := yy.cell 2; have y3 := yy.cell 3; clear yy hSw; simp only [List.getElem?_toArray, List.getElem?_cons_zero, List.getElem?_cons_succ] at y0 y1 y2 y3; go_simp <;> with_reducible rfl
  try simp only [Act.put, List.setIfInBounds_toArray, List.set_cons_zero, List.set_cons_succ]
  refine wpAnyH_take (i := 1) (oi := { dst := some 50, op := Go.Op.move (Go.Operand.tmp 0), type := 2, pos := "law.go:71", after := #[], guard := none }) (v := ?_) rfl (by kernel_rfl) (by kernel_rfl) (by kernel_rfl) (fun _ _ _ h => h) (Or.inl ⟨by rfl, ?_⟩) hHeld ?_
  rotate_left
  · intro w hSw; (try dsimp only at hSw); go_simp <;> with_reducible rfl
  try simp only [Act.put, List.setIfInBounds_toArray, List.set_cons_zero, List.set_cons_succ]
  refine wpAnyH_take (i := 2) (oi := { dst := some 51, op := Go.Op.build 44 #[(1, Go.Operand.tmp 50)], type := 44, pos := "law.go:71", after := #[{ on := 1, ground := Go.Ground.data }], guard := none }) (v := ?_) rfl (by kernel_rfl) (by kernel_rfl) (by kernel_rfl) (fun _ _ _ h => h) (Or.inl ⟨by rfl, ?_⟩) hHeld ?_
  rotate_left
  · intro w hSw; (try dsimp only at hSw); go_simp <;> with_reducible rfl
  try simp only [Act.put, List.setIfInBounds_toArray, List.set_cons_zero, List.set_cons_succ]
  refine wpAnyH_take (i := 3) (oi := { dst := some 52, op := Go.Op.build 46 #[(0, Go.Operand.const (Go.Value.int Go.IntKind.i64 (-1))), (1, Go.Operand.tmp 51)], type := 46, pos := "law.go:71", after := #[{ on := 2, ground := Go.Ground.data }], guard := none }) (v := ?_) rfl (by kernel_rfl) (by kernel_rfl) (by kernel_rfl) (fun _ _ _ h => h) (Or.inl ⟨by rfl, ?_⟩) hHeld ?_
  rotate_left
  · intro w hSw; (try dsimp only at hSw); go_simp <;> with_reducible rfl
  try simp only [Act.put, List.setIfInBounds_toArray, List.set_cons_zero, List.set_cons_succ]
  refine wpAnyH_ready (rs := [4]) (by kernel_rfl) (by simp) ?_
  refine AllReadyH.cons rfl (fun K hK => ?_) AllReadyH.nil
  go_simp
  refine (kA _ hB).mono ?_
  rintro e z4 ⟨rfl, hb4⟩
  replace hB := hB.trans (hb4.mono hB.size)
  clear hb4
  refine hK.out _ _ (hB) (fun hHeld2 => ?_)
  clear hK K hHeld
  have hHeld := hHeld2
  clear hHeld2
  try simp only [Act.put, List.setIfInBounds_toArray, List.set_cons_zero, List.set_cons_succ]
  refine wpAnyH_take (i := 5) (oi := { dst := some 54, op := Go.Op.unOp Go.UnOp.not 4 (Go.Operand.tmp 53), type := 4, pos := "law.go:71", after := #[{ on := 4, ground := Go.Ground.data }], guard := none }) (v := ?_) rfl (by kernel_rfl) (by kernel_rfl) (by kernel_rfl) (fun _ _ _ h => h) (Or.inl ⟨by rfl, ?_⟩) hHeld ?_
  rotate_left
  · intro w hSw; (try dsimp only at hSw); go_simp <;> with_reducible rfl
  try simp only [Act.put, List.setIfInBounds_toArray, List.set_cons_zero, List.set_cons_succ]
  refine wpAnyH_take (i := 6) (oi := { dst := some 55, op := Go.Op.move (Go.Operand.tmp 54), type := 4, pos := "law.go:71", after := #[{ on := 5, ground := Go.Ground.data }, { on := 4, ground := Go.Ground.chain }], guard := none }) (v := ?_) rfl (by kernel_rfl) (by kernel_rfl) (by kernel_rfl) (fun _ _ _ h => h) (Or.inl ⟨by rfl, ?_⟩) hHeld ?_
  rotate_left
  · intro w hSw; (try dsimp only at hSw); go_simp <;> with_reducible rfl
  try simp only [Act.put, List.setIfInBounds_toArray, List.set_cons_zero, List.set_cons_succ]
  refine wpAnyH_take (i := 7) (oi := { dst := some 56, op := Go.Op.load 46 (Go.Operand.tmp 13), type := 46, pos := "law.go:71", after := #[{ on := 6, ground := Go.Ground.guard }], guard := some (6, false) }) (v := ?_) rfl (by kernel_rfl) (by kernel_rfl) (by kernel_rfl) (fun _ _ _ h => h) (Or.inl ⟨by rfl, ?_⟩) hHeld ?_
  rotate_left
  · intro w hSw; have yy := Blk.below KB.out hSw; have y0 := yy.cell 0; have y1 := yy.cell 1; have y2 := yy.cell 2; have y3 := yy.cell 3; clear yy hSw; simp only [List.getElem?_toArray, List.getElem?_cons_zero, List.getElem?_cons_succ] at y0 y1 y2 y3; go_simp <;> with_reducible rfl
  try simp only [Act.put, List.setIfInBounds_toArray, List.set_cons_zero, List.set_cons_succ]
  refine wpAnyH_take (i := 8) (oi := { dst := some 57, op := Go.Op.move (Go.Operand.tmp 1), type := 42, pos := "law.go:71", after := #[{ on := 6, ground := Go.Ground.guard }], guard := some (6, false) }) (v := ?_) rfl (by kernel_rfl) (by kernel_rfl) (by kernel_rfl) (fun _ _ _ h => h) (Or.inl ⟨by rfl, ?_⟩) hHeld ?_
  rotate_left
  · intro w hSw; (try dsimp only at hSw); go_simp <;> with_reducible rfl
  try simp only [Act.put, List.setIfInBounds_toArray, List.set_cons_zero, List.set_cons_succ]
  refine wpAnyH_take (i := 9) (oi := { dst := some 58, op := Go.Op.build 44 #[(0, Go.Operand.const (Go.Value.bool true)), (2, Go.Operand.tmp 57)], type := 44, pos := "law.go:71", after := #[{ on := 8, ground := Go.Ground.data }, { on := 6, ground := Go.Ground.guard }], guard := some (6, false) }) (v := ?_) rfl (by kernel_rfl) (by kernel_rfl) (by kernel_rfl) (fun _ _ _ h => h) (Or.inl ⟨by rfl, ?_⟩) hHeld ?_
  rotate_left
  · intro w hSw; (try dsimp only at hSw); go_simp <;> with_reducible rfl
  try simp only [Act.put, List.setIfInBounds_toArray, List.set_cons_zero, List.set_cons_succ]
  refine wpAnyH_take (i := 10) (oi := { dst := some 59, op := Go.Op.build 46 #[(0, Go.Operand.const (Go.Value.int Go.IntKind.i64 (-1))), (1, Go.Operand.tmp 58)], type := 46, pos := "law.go:71", after := #[{ on := 9, ground := Go.Ground.data }, { on := 6, ground := Go.Ground.guard }], guard := some (6, false) }) (v := ?_) rfl (by kernel_rfl) (by kernel_rfl) (by kernel_rfl) (fun _ _ _ h => h) (Or.inl ⟨by rfl, ?_⟩) hHeld ?_
  rotate_left
  · intro w hSw; (try dsimp only at hSw); go_simp <;> with_reducible rfl
  try simp only [Act.put, List.setIfInBounds_toArray, List.set_cons_zero, List.set_cons_succ]
  refine wpAnyH_ready (rs := [11]) (by kernel_rfl) (by simp) ?_
  refine AllReadyH.cons rfl (fun K hK => ?_) AllReadyH.nil
  go_simp
  refine (kB _ hB).mono ?_
  rintro e z11 ⟨rfl, hb4⟩
  replace hB := hB.trans (hb4.mono hB.size)
  clear hb4
  refine hK.out _ _ (hB) (fun hHeld2 => ?_)
  clear hK K hHeld
  have hHeld := hHeld2
  clear hHeld2
  try simp only [Act.put, List.setIfInBounds_toArray, List.set_cons_zero, List.set_cons_succ]
  refine wpAnyH_take (i := 12) (oi := { dst := some 61, op := Go.Op.unOp Go.UnOp.not 4 (Go.Operand.tmp 60), type := 4, pos := "law.go:71", after := #[{ on := 11, ground := Go.Ground.data }, { on := 6, ground := Go.Ground.guard }], guard := some (6, false) }) (v := ?_) rfl (by kernel_rfl) (by kernel_rfl) (by kernel_rfl) (fun _ _ _ h => h) (Or.inl ⟨by rfl, ?_⟩) hHeld ?_
  rotate_left
  · intro w hSw; (try dsimp only at hSw); go_simp <;> with_reducible rfl
  try simp only [Act.put, List.setIfInBounds_toArray, List.set_cons_zero, List.set_cons_succ]
  refine wpAnyH_take (i := 13) (oi := { dst := some 62, op := Go.Op.pick (Go.Operand.tmp 55) (Go.Operand.const (Go.Value.bool true)) (Go.Operand.tmp 61), type := 4, pos := "law.go:71", after := #[{ on := 6, ground := Go.Ground.data }, { on := 12, ground := Go.Ground.data }], guard := none }) (v := ?_) rfl (by kernel_rfl) (by kernel_rfl) (by kernel_rfl) (fun _ _ _ h => h) (Or.inl ⟨by rfl, ?_⟩) hHeld ?_
  rotate_left
  · intro w hSw; (try dsimp only at hSw); go_simp <;> with_reducible rfl
  try simp only [Act.put, List.setIfInBounds_toArray, List.set_cons_zero, List.set_cons_succ]
  refine wpAnyH_take (i := 14) (oi := { dst := some 63, op := Go.Op.move (Go.Operand.tmp 62), type := 4, pos := "law.go:71", after := #[{ on := 13, ground := Go.Ground.data }, { on := 11, ground := Go.Ground.chain }], guard := none }) (v := ?_) rfl (by kernel_rfl) (by kernel_rfl) (by kernel_rfl) (fun _ _ _ h => h) (Or.inl ⟨by rfl, ?_⟩) hHeld ?_
  rotate_left
  · intro w hSw; (try dsimp only at hSw); go_simp <;> with_reducible rfl
  try simp only [Act.put, List.setIfInBounds_toArray, List.set_cons_zero, List.set_cons_succ]
  refine wpAnyH_take (i := 15) (oi := { dst := some 64, op := Go.Op.load 46 (Go.Operand.tmp 14), type := 46, pos := "law.go:71", after := #[{ on := 14, ground := Go.Ground.guard }], guard := some (14, false) }) (v := ?_) rfl (by kernel_rfl) (by kernel_rfl) (by kernel_rfl) (fun _ _ _ h => h) (Or.inl ⟨by rfl, ?_⟩) hHeld ?_
  rotate_left
  · intro w hSw; have yy := Blk.below KC.out hSw; have y0 := yy.cell 0; have y1 := yy.cell 1; have y2 := yy.cell 2; have y3 := yy.cell 3; clear yy hSw; simp only [List.getElem?_toArray, List.getElem?_cons_zero, List.getElem?_cons_succ] at y0 y1 y2 y3; go_simp <;> with_reducible rfl
  try simp only [Act.put, List.setIfInBounds_toArray, List.set_cons_zero, List.set_cons_succ]
  refine wpAnyH_take (i := 16) (oi := { dst := some 65, op := Go.Op.move (Go.Operand.tmp 2), type := 3, pos := "law.go:71", after := #[{ on := 14, ground := Go.Ground.guard }], guard := some (14, false) }) (v := ?_) rfl (by kernel_rfl) (by kernel_rfl) (by kernel_rfl) (fun _ _ _ h => h) (Or.inl ⟨by rfl, ?_⟩) hHeld ?_
  rotate_left
  · intro w hSw; (try dsimp only at hSw); go_simp <;> with_reducible rfl
  try simp only [Act.put, List.setIfInBounds_toArray, List.set_cons_zero, List.set_cons_succ]
  refine wpAnyH_take (i := 17) (oi := { dst := some 66, op := Go.Op.build 46 #[(0, Go.Operand.tmp 65)], type := 46, pos := "law.go:71", after := #[{ on := 16, ground := Go.Ground.data }, { on := 14, ground := Go.Ground.guard }], guard := some (14, false) }) (v := ?_) rfl (by kernel_rfl) (by kernel_rfl) (by kernel_rfl) (fun _ _ _ h => h) (Or.inl ⟨by rfl, ?_⟩) hHeld ?_
  rotate_left
  · intro w hSw; (try dsimp only at hSw); go_simp <;> with_reducible rfl
  try simp only [Act.put, List.setIfInBounds_toArray, List.set_cons_zero, List.set_cons_succ]
  refine wpAnyH_ready (rs := [18]) (by kernel_rfl) (by simp) ?_
  refine AllReadyH.cons rfl (fun K hK => ?_) AllReadyH.nil
  go_simp
  refine (kC _ hB).mono ?_
  rintro e z18 ⟨rfl, hb4⟩
  replace hB := hB.trans (hb4.mono hB.size)
  clear hb4
  refine hK.out _ _ (hB) (fun hHeld2 => ?_)
  clear hK K hHeld
  have hHeld := hHeld2
  clear hHeld2
  try simp only [Act.put, List.setIfInBounds_toArray, List.set_cons_zero, List.set_cons_succ]
  refine wpAnyH_take (i := 19) (oi := { dst := some 68, op := Go.Op.unOp Go.UnOp.not 4 (Go.Operand.tmp 67), type := 4, pos := "law.go:71", after := #[{ on := 18, ground := Go.Ground.data }, { on := 14, ground := Go.Ground.guard }], guard := some (14, false) }) (v := ?_) rfl (by kernel_rfl) (by kernel_rfl) (by kernel_rfl) (fun _ _ _ h => h) (Or.inl ⟨by rfl, ?_⟩) hHeld ?_
  rotate_left
  · intro w hSw; (try dsimp only at hSw); go_simp <;> with_reducible rfl
  try simp only [Act.put, List.setIfInBounds_toArray, List.set_cons_zero, List.set_cons_succ]
  refine wpAnyH_take (i := 20) (oi := { dst := some 69, op := Go.Op.pick (Go.Operand.tmp 63) (Go.Operand.const (Go.Value.bool true)) (Go.Operand.tmp 68), type := 4, pos := "law.go:71", after := #[{ on := 14, ground := Go.Ground.data }, { on := 19, ground := Go.Ground.data }], guard := none }) (v := ?_) rfl (by kernel_rfl) (by kernel_rfl) (by kernel_rfl) (fun _ _ _ h => h) (Or.inl ⟨by rfl, ?_⟩) hHeld ?_
  rotate_left
  · intro w hSw; (try dsimp only at hSw); go_simp <;> with_reducible rfl
  try simp only [Act.put, List.setIfInBounds_toArray, List.set_cons_zero, List.set_cons_succ]
  refine wpAnyH_take (i := 21) (oi := { dst := some 70, op := Go.Op.move (Go.Operand.tmp 69), type := 4, pos := "law.go:71", after := #[{ on := 20, ground := Go.Ground.data }, { on := 18, ground := Go.Ground.chain }], guard := none }) (v := ?_) rfl (by kernel_rfl) (by kernel_rfl) (by kernel_rfl) (fun _ _ _ h => h) (Or.inl ⟨by rfl, ?_⟩) hHeld ?_
  rotate_left
  · intro w hSw; (try dsimp only at hSw); go_simp <;> with_reducible rfl
  try simp only [Act.put, List.setIfInBounds_toArray, List.set_cons_zero, List.set_cons_succ]
  refine wpAnyH_take (i := 22) (oi := { dst := some 71, op := Go.Op.fieldAddr 54 (Go.Operand.tmp 15) 0, type := 0, pos := "law.go:71", after := #[{ on := 21, ground := Go.Ground.guard }], guard := some (21, false) }) (v := ?_) rfl (by kernel_rfl) (by kernel_rfl) (by kernel_rfl) (fun _ _ _ h => h) (Or.inl ⟨by rfl, ?_⟩) hHeld ?_
  rotate_left
  · intro w hSw; (try dsimp only at hSw); go_simp <;> with_reducible rfl
  try simp only [Act.put, List.setIfInBounds_toArray, List.set_cons_zero, List.set_cons_succ]
  refine wpAnyH_take (i := 23) (oi := { dst := some 72, op := Go.Op.load 4 (Go.Operand.tmp 71), type := 4, pos := "law.go:71", after := #[{ on := 22, ground := Go.Ground.data }, { on := 21, ground := Go.Ground.guard }], guard := some (21, false) }) (v := ?_) rfl (by kernel_rfl) (by kernel_rfl) (by kernel_rfl) (fun _ _ _ h => h) (Or.inl ⟨by rfl, ?_⟩) hHeld ?_
  rotate_left
  · intro w hSw; have yy := Blk.below KD.out hSw; have y0 := yy.cell 0; have y1 := yy.cell 1; clear yy hSw; simp only [List.getElem?_toArray, List.getElem?_cons_zero, List.getElem?_cons_succ] at y0 y1; go_simp <;> with_reducible rfl
  try simp only [Act.put, List.setIfInBounds_toArray, List.set_cons_zero, List.set_cons_succ]
  refine wpAnyH_take (i := 24) (oi := { dst := some 73, op := Go.Op.pick (Go.Operand.tmp 70) (Go.Operand.const (Go.Value.bool true)) (Go.Operand.tmp 72), type := 4, pos := "law.go:71", after := #[{ on := 21, ground := Go.Ground.data }, { on := 23, ground := Go.Ground.data }], guard := none }) (v := ?_) rfl (by kernel_rfl) (by kernel_rfl) (by kernel_rfl) (fun _ _ _ h => h) (Or.inl ⟨by rfl, ?_⟩) hHeld ?_
  rotate_left
  · intro w hSw; (try dsimp only at hSw); go_simp <;> with_reducible rfl
  try simp only [Act.put, List.setIfInBounds_toArray, List.set_cons_zero, List.set_cons_succ]
  refine wpAnyH_take (i := 25) (oi := { dst := some 74, op := Go.Op.move (Go.Operand.tmp 73), type := 4, pos := "law.go:71", after := #[{ on := 24, ground := Go.Ground.data }, { on := 21, ground := Go.Ground.chain }], guard := none }) (v := ?_) rfl (by kernel_rfl) (by kernel_rfl) (by kernel_rfl) (fun _ _ _ h => h) (Or.inl ⟨by rfl, ?_⟩) hHeld ?_
  rotate_left
  · intro w hSw; (try dsimp only at hSw); go_simp <;> with_reducible rfl
  try simp only [Act.put, List.setIfInBounds_toArray, List.set_cons_zero, List.set_cons_succ]
  refine wpAnyH_take (i := 26) (oi := { dst := some 75, op := Go.Op.fieldAddr 54 (Go.Operand.tmp 15) 1, type := 0, pos := "law.go:71", after := #[{ on := 25, ground := Go.Ground.guard }], guard := some (25, false) }) (v := ?_) rfl (by kernel_rfl) (by kernel_rfl) (by kernel_rfl) (fun _ _ _ h => h) (Or.inl ⟨by rfl, ?_⟩) hHeld ?_
  rotate_left
  · intro w hSw; (try dsimp only at hSw); go_simp <;> with_reducible rfl
  try simp only [Act.put, List.setIfInBounds_toArray, List.set_cons_zero, List.set_cons_succ]
  refine wpAnyH_take (i := 27) (oi := { dst := some 76, op := Go.Op.load 52 (Go.Operand.tmp 75), type := 52, pos := "law.go:71", after := #[{ on := 26, ground := Go.Ground.data }, { on := 25, ground := Go.Ground.guard }], guard := some (25, false) }) (v := ?_) rfl (by kernel_rfl) (by kernel_rfl) (by kernel_rfl) (fun _ _ _ h => h) (Or.inl ⟨by rfl, ?_⟩) hHeld ?_
  rotate_left
  · intro w hSw; have yy := Blk.below KD.out hSw; have y0 := yy.cell 0; have y1 := yy.cell 1; clear yy hSw; simp only [List.getElem?_toArray, List.getElem?_cons_zero, List.getElem?_cons_succ] at y0 y1; go_simp <;> with_reducible rfl
  try simp only [Act.put, List.setIfInBounds_toArray, List.set_cons_zero, List.set_cons_succ]
  refine wpAnyH_take (i := 28) (oi := { dst := some 77, op := Go.Op.call { callee := Go.Callee.builtin Go.Builtin.len, args := #[Go.Operand.tmp 76], argTypes := #[52] }, type := 3, pos := "law.go:71", after := #[{ on := 27, ground := Go.Ground.data }, { on := 25, ground := Go.Ground.guard }], guard := some (25, false) }) (v := ?_) rfl (by kernel_rfl) (by kernel_rfl) (by kernel_rfl) (fun _ _ _ h => h) (Or.inl ⟨by rfl, ?_⟩) hHeld ?_
  rotate_left
  · intro w hSw; (try dsimp only at hSw); go_simp <;> with_reducible rfl
  try simp only [Act.put, List.setIfInBounds_toArray, List.set_cons_zero, List.set_cons_succ]
  refine wpAnyH_take (i := 29) (oi := { dst := some 78, op := Go.Op.binOp Go.BinOp.neq 3 (Go.Operand.tmp 77) (Go.Operand.const (Go.Value.int Go.IntKind.i64 1)) 3, type := 4, pos := "law.go:71", after := #[{ on := 28, ground := Go.Ground.data }, { on := 25, ground := Go.Ground.guard }], guard := some (25, false) }) (v := ?_) rfl (by kernel_rfl) (by kernel_rfl) (by kernel_rfl) (fun _ _ _ h => h) (Or.inl ⟨by rfl, ?_⟩) hHeld ?_
  rotate_left
  · intro w hSw; (try dsimp only at hSw); go_simp <;> with_reducible rfl
  try simp only [Act.put, List.setIfInBounds_toArray, List.set_cons_zero, List.set_cons_succ]
  refine wpAnyH_take (i := 30) (oi := { dst := some 79, op := Go.Op.pick (Go.Operand.tmp 74) (Go.Operand.const (Go.Value.bool true)) (Go.Operand.tmp 78), type := 4, pos := "law.go:71", after := #[{ on := 25, ground := Go.Ground.data }, { on := 29, ground := Go.Ground.data }], guard := none }) (v := ?_) rfl (by kernel_rfl) (by kernel_rfl) (by kernel_rfl) (fun _ _ _ h => h) (Or.inl ⟨by rfl, ?_⟩) hHeld ?_
  rotate_left
  · intro w hSw; (try dsimp only at hSw); go_simp <;> with_reducible rfl
  try simp only [Act.put, List.setIfInBounds_toArray, List.set_cons_zero, List.set_cons_succ]
  refine wpAnyH_take (i := 31) (oi := { dst := some 80, op := Go.Op.move (Go.Operand.tmp 79), type := 4, pos := "law.go:71", after := #[{ on := 30, ground := Go.Ground.data }, { on := 25, ground := Go.Ground.chain }], guard := none }) (v := ?_) rfl (by kernel_rfl) (by kernel_rfl) (by kernel_rfl) (fun _ _ _ h => h) (Or.inl ⟨by rfl, ?_⟩) hHeld ?_
  rotate_left
  · intro w hSw; (try dsimp only at hSw); go_simp <;> with_reducible rfl
  try simp only [Act.put, List.setIfInBounds_toArray, List.set_cons_zero, List.set_cons_succ]
  refine wpAnyH_take (i := 32) (oi := { dst := some 81, op := Go.Op.fieldAddr 54 (Go.Operand.tmp 15) 1, type := 0, pos := "law.go:71", after := #[{ on := 31, ground := Go.Ground.guard }], guard := some (31, false) }) (v := ?_) rfl (by kernel_rfl) (by kernel_rfl) (by kernel_rfl) (fun _ _ _ h => h) (Or.inl ⟨by rfl, ?_⟩) hHeld ?_
  rotate_left
  · intro w hSw; (try dsimp only at hSw); go_simp <;> with_reducible rfl
  try simp only [Act.put, List.setIfInBounds_toArray, List.set_cons_zero, List.set_cons_succ]
  refine wpAnyH_take (i := 33) (oi := { dst := some 82, op := Go.Op.load 52 (Go.Operand.tmp 81), type := 52, pos := "law.go:71", after := #[{ on := 32, ground := Go.Ground.data }, { on := 31, ground := Go.Ground.guard }], guard := some (31, false) }) (v := ?_) rfl (by kernel_rfl) (by kernel_rfl) (by kernel_rfl) (fun _ _ _ h => h) (Or.inl ⟨by rfl, ?_⟩) hHeld ?_
  rotate_left
  · intro w hSw; have yy := Blk.below KD.out hSw; have y0 := yy.cell 0; have y1 := yy.cell 1; clear yy hSw; simp only [List.getElem?_toArray, List.getElem?_cons_zero, List.getElem?_cons_succ] at y0 y1; go_simp <;> with_reducible rfl
  try simp only [Act.put, List.setIfInBounds_toArray, List.set_cons_zero, List.set_cons_succ]
  refine wpAnyH_take (i := 34) (oi := { dst := some 83, op := Go.Op.indexAddr 52 (Go.Operand.tmp 82) (Go.Operand.const (Go.Value.int Go.IntKind.i64 0)), type := 0, pos := "law.go:71", after := #[{ on := 33, ground := Go.Ground.data }, { on := 31, ground := Go.Ground.guard }], guard := some (31, false) }) (v := ?_) rfl (by kernel_rfl) (by kernel_rfl) (by kernel_rfl) (fun _ _ _ h => h) (Or.inl ⟨by rfl, ?_⟩) hHeld ?_
  rotate_left
  · intro w hSw; (try dsimp only at hSw); go_simp <;> with_reducible rfl
  try simp only [Act.put, List.setIfInBounds_toArray, List.set_cons_zero, List.set_cons_succ]
  refine wpAnyH_take (i := 35) (oi := { dst := some 84, op := Go.Op.load 46 (Go.Operand.tmp 83), type := 46, pos := "law.go:71", after := #[{ on := 34, ground := Go.Ground.data }, { on := 31, ground := Go.Ground.guard }], guard := some (31, false) }) (v := ?_) rfl (by kernel_rfl) (by kernel_rfl) (by kernel_rfl) (fun _ _ _ h => h) (Or.inl ⟨by rfl, ?_⟩) hHeld ?_
  rotate_left
  · intro w hSw; have y0 := (hSw.cell (p := ⟨bL, oL, none⟩) hbL).trans l0; have y1 := (hSw.cell (p := ⟨bL, oL + 1, none⟩) hbL).trans l1; have y2 := (hSw.cell (p := ⟨bL, oL + 2, none⟩) hbL).trans l2; have y3 := (hSw.cell (p := ⟨bL, oL + 3, none⟩) hbL).trans l3; clear hSw; go_simp <;> with_reducible rfl
  try simp only [Act.put, List.setIfInBounds_toArray, List.set_cons_zero, List.set_cons_succ]
  refine wpAnyH_take (i := 36) (oi := { dst := some 85, op := Go.Op.load 46 (Go.Operand.tmp 12), type := 46, pos := "law.go:71", after := #[{ on := 31, ground := Go.Ground.guard }], guard := some (31, false) }) (v := ?_) rfl (by kernel_rfl) (by kernel_rfl) (by kernel_rfl) (fun _ _ _ h => h) (Or.inl ⟨by rfl, ?_⟩) hHeld ?_
  rotate_left
  · intro w hSw; have yy := Blk.below KA.out hSw; have y0 := yy.cell 0; have y1 := yy.cell 1; have y2 := yy.cell 2; have y3 := yy.cell 3; clear yy hSw; simp only [List.getElem?_toArray, List.getElem?_cons_zero, List.getElem?_cons_succ] at y0 y1 y2 y3; go_simp <;> with_reducible rfl
  try simp only [Act.put, List.setIfInBounds_toArray, List.set_cons_zero, List.set_cons_succ]
  refine wpAnyH_ready (rs := [37]) (by kernel_rfl) (by simp) ?_
  refine AllReadyH.cons rfl (fun K hK => ?_) AllReadyH.nil
  go_simp
  refine (kD _ hB).mono ?_
  rintro e z37 ⟨rfl, hb4⟩
  replace hB := hB.trans (hb4.mono hB.size)
  clear hb4
  refine hK.out _ _ (hB) (fun hHeld2 => ?_)
  clear hK K hHeld
  have hHeld := hHeld2
  clear hHeld2
  try simp only [Act.put, List.setIfInBounds_toArray, List.set_cons_zero, List.set_cons_succ]
  refine wpAnyH_take (i := 38) (oi := { dst := some 87, op := Go.Op.unOp Go.UnOp.not 4 (Go.Operand.tmp 86), type := 4, pos := "law.go:71", after := #[{ on := 37, ground := Go.Ground.data }, { on := 31, ground := Go.Ground.guard }], guard := some (31, false) }) (v := ?_) rfl (by kernel_rfl) (by kernel_rfl) (by kernel_rfl) (fun _ _ _ h => h) (Or.inl ⟨by rfl, ?_⟩) hHeld ?_
  rotate_left
  · intro w hSw; (try dsimp only at hSw); go_simp <;> with_reducible rfl
  try simp only [Act.put, List.setIfInBounds_toArray, List.set_cons_zero, List.set_cons_succ]
  refine wpAnyH_take (i := 39) (oi := { dst := some 88, op := Go.Op.pick (Go.Operand.tmp 80) (Go.Operand.const (Go.Value.bool true)) (Go.Operand.tmp 87), type := 4, pos := "law.go:71", after := #[{ on := 31, ground := Go.Ground.data }, { on := 38, ground := Go.Ground.data }], guard := none }) (v := ?_) rfl (by kernel_rfl) (by kernel_rfl) (by kernel_rfl) (fun _ _ _ h => h) (Or.inl ⟨by rfl, ?_⟩) hHeld ?_
  rotate_left
  · intro w hSw; (try dsimp only at hSw); go_simp <;> with_reducible rfl
  try simp only [Act.put, List.setIfInBounds_toArray, List.set_cons_zero, List.set_cons_succ]
  refine wpAnyH_take (i := 40) (oi := { dst := some 89, op := Go.Op.move (Go.Operand.tmp 88), type := 4, pos := "law.go:71", after := #[{ on := 39, ground := Go.Ground.data }, { on := 37, ground := Go.Ground.chain }], guard := none }) (v := ?_) rfl (by kernel_rfl) (by kernel_rfl) (by kernel_rfl) (fun _ _ _ h => h) (Or.inl ⟨by rfl, ?_⟩) hHeld ?_
  rotate_left
  · intro w hSw; (try dsimp only at hSw); go_simp <;> with_reducible rfl
  try simp only [Act.put, List.setIfInBounds_toArray, List.set_cons_zero, List.set_cons_succ]
  refine wpAnyH_take (i := 41) (oi := { dst := some 90, op := Go.Op.fieldAddr 54 (Go.Operand.tmp 16) 0, type := 0, pos := "law.go:71", after := #[{ on := 40, ground := Go.Ground.guard }], guard := some (40, false) }) (v := ?_) rfl (by kernel_rfl) (by kernel_rfl) (by kernel_rfl) (fun _ _ _ h => h) (Or.inl ⟨by rfl, ?_⟩) hHeld ?_
  rotate_left
  · intro w hSw; (try dsimp only at hSw); go_simp <;> with_reducible rfl
  try simp only [Act.put, List.setIfInBounds_toArray, List.set_cons_zero, List.set_cons_succ]
  refine wpAnyH_take (i := 42) (oi := { dst := some 91, op := Go.Op.load 4 (Go.Operand.tmp 90), type := 4, pos := "law.go:71", after := #[{ on := 41, ground := Go.Ground.data }, { on := 40, ground := Go.Ground.guard }], guard := some (40, false) }) (v := ?_) rfl (by kernel_rfl) (by kernel_rfl) (by kernel_rfl) (fun _ _ _ h => h) (Or.inl ⟨by rfl, ?_⟩) hHeld ?_
  rotate_left
  · intro w hSw; have yy := Blk.below KE.out hSw; have y0 := yy.cell 0; have y1 := yy.cell 1; clear yy hSw; simp only [List.getElem?_toArray, List.getElem?_cons_zero, List.getElem?_cons_succ] at y0 y1; go_simp <;> with_reducible rfl
  try simp only [Act.put, List.setIfInBounds_toArray, List.set_cons_zero, List.set_cons_succ]
  refine wpAnyH_take (i := 43) (oi := { dst := some 92, op := Go.Op.unOp Go.UnOp.not 4 (Go.Operand.tmp 91), type := 4, pos := "law.go:71", after := #[{ on := 42, ground := Go.Ground.data }, { on := 40, ground := Go.Ground.guard }], guard := some (40, false) }) (v := ?_) rfl (by kernel_rfl) (by kernel_rfl) (by kernel_rfl) (fun _ _ _ h => h) (Or.inl ⟨by rfl, ?_⟩) hHeld ?_
  rotate_left
  · intro w hSw; (try dsimp only at hSw); go_simp <;> with_reducible rfl
  try simp only [Act.put, List.setIfInBounds_toArray, List.set_cons_zero, List.set_cons_succ]
  refine wpAnyH_take (i := 44) (oi := { dst := some 93, op := Go.Op.pick (Go.Operand.tmp 89) (Go.Operand.const (Go.Value.bool true)) (Go.Operand.tmp 92), type := 4, pos := "law.go:71", after := #[{ on := 40, ground := Go.Ground.data }, { on := 43, ground := Go.Ground.data }], guard := none }) (v := ?_) rfl (by kernel_rfl) (by kernel_rfl) (by kernel_rfl) (fun _ _ _ h => h) (Or.inl ⟨by rfl, ?_⟩) hHeld ?_
  rotate_left
  · intro w hSw; (try dsimp only at hSw); go_simp <;> with_reducible rfl
  try simp only [Act.put, List.setIfInBounds_toArray, List.set_cons_zero, List.set_cons_succ]
  refine wpAnyH_take (i := 45) (oi := { dst := some 94, op := Go.Op.move (Go.Operand.tmp 93), type := 4, pos := "law.go:71", after := #[{ on := 44, ground := Go.Ground.data }, { on := 40, ground := Go.Ground.chain }], guard := none }) (v := ?_) rfl (by kernel_rfl) (by kernel_rfl) (by kernel_rfl) (fun _ _ _ h => h) (Or.inl ⟨by rfl, ?_⟩) hHeld ?_
  rotate_left
  · intro w hSw; (try dsimp only at hSw); go_simp <;> with_reducible rfl
  try simp only [Act.put, List.setIfInBounds_toArray, List.set_cons_zero, List.set_cons_succ]
  refine wpAnyH_take (i := 46) (oi := { dst := some 95, op := Go.Op.fieldAddr 54 (Go.Operand.tmp 16) 1, type := 0, pos := "law.go:71", after := #[{ on := 45, ground := Go.Ground.guard }], guard := some (45, false) }) (v := ?_) rfl (by kernel_rfl) (by kernel_rfl) (by kernel_rfl) (fun _ _ _ h => h) (Or.inl ⟨by rfl, ?_⟩) hHeld ?_
  rotate_left
  · intro w hSw; (try dsimp only at hSw); go_simp <;> with_reducible rfl
  try simp only [Act.put, List.setIfInBounds_toArray, List.set_cons_zero, List.set_cons_succ]
  refine wpAnyH_take (i := 47) (oi := { dst := some 96, op := Go.Op.load 52 (Go.Operand.tmp 95), type := 52, pos := "law.go:71", after := #[{ on := 46, ground := Go.Ground.data }, { on := 45, ground := Go.Ground.guard }], guard := some (45, false) }) (v := ?_) rfl (by kernel_rfl) (by kernel_rfl) (by kernel_rfl) (fun _ _ _ h => h) (Or.inl ⟨by rfl, ?_⟩) hHeld ?_
  rotate_left
  · intro w hSw; have yy := Blk.below KE.out hSw; have y0 := yy.cell 0; have y1 := yy.cell 1; clear yy hSw; simp only [List.getElem?_toArray, List.getElem?_cons_zero, List.getElem?_cons_succ] at y0 y1; go_simp <;> with_reducible rfl
  try simp only [Act.put, List.setIfInBounds_toArray, List.set_cons_zero, List.set_cons_succ]
  refine wpAnyH_take (i := 48) (oi := { dst := some 97, op := Go.Op.load 46 (Go.Operand.tmp 12), type := 46, pos := "law.go:71", after := #[{ on := 45, ground := Go.Ground.guard }], guard := some (45, false) }) (v := ?_) rfl (by kernel_rfl) (by kernel_rfl) (by kernel_rfl) (fun _ _ _ h => h) (Or.inl ⟨by rfl, ?_⟩) hHeld ?_
  rotate_left
  · intro w hSw; have yy := Blk.below KA.out hSw; have y0 := yy.cell 0; have y1 := yy.cell 1; have y2 := yy.cell 2; have y3 := yy.cell 3; clear yy hSw; simp only [List.getElem?_toArray, List.getElem?_cons_zero, List.getElem?_cons_succ] at y0 y1 y2 y3; go_simp <;> with_reducible rfl
  try simp only [Act.put, List.setIfInBounds_toArray, List.set_cons_zero, List.set_cons_succ]
  refine wpAnyH_take (i := 49) (oi := { dst := some 98, op := Go.Op.load 46 (Go.Operand.tmp 13), type := 46, pos := "law.go:71", after := #[{ on := 45, ground := Go.Ground.guard }], guard := some (45, false) }) (v := ?_) rfl (by kernel_rfl) (by kernel_rfl) (by kernel_rfl) (fun _ _ _ h => h) (Or.inl ⟨by rfl, ?_⟩) hHeld ?_
  rotate_left
  · intro w hSw; have yy := Blk.below KB.out hSw; have y0 := yy.cell 0; have y1 := yy.cell 1; have y2 := yy.cell 2; have y3 := yy.cell 3; clear yy hSw; simp only [List.getElem?_toArray, List.getElem?_cons_zero, List.getElem?_cons_succ] at y0 y1 y2 y3; go_simp <;> with_reducible rfl
  try simp only [Act.put, List.setIfInBounds_toArray, List.set_cons_zero, List.set_cons_succ]
  refine wpAnyH_take (i := 50) (oi := { dst := some 99, op := Go.Op.load 46 (Go.Operand.tmp 14), type := 46, pos := "law.go:71", after := #[{ on := 45, ground := Go.Ground.guard }], guard := some (45, false) }) (v := ?_) rfl (by kernel_rfl) (by kernel_rfl) (by kernel_rfl) (fun _ _ _ h => h) (Or.inl ⟨by rfl, ?_⟩) hHeld ?_
  rotate_left
  · intro w hSw; have yy := Blk.below KC.out hSw; have y0 := yy.cell 0; have y1 := yy.cell 1; have y2 := yy.cell 2; have y3 := yy.cell 3; clear yy hSw; simp only [List.getElem?_toArray, List.getElem?_cons_zero, List.getElem?_cons_succ] at y0 y1 y2 y3; go_simp <;> with_reducible rfl
  try simp only [Act.put, List.setIfInBounds_toArray, List.set_cons_zero, List.set_cons_succ]
  refine wpAnyH_ready (rs := [51]) (by kernel_rfl) (by simp) ?_
  refine AllReadyH.cons rfl (fun K hK => ?_) AllReadyH.nil
  go_simp
  have hBs : Hid (Below X8.heap.size X8 z37) := hB
  replace hB := Below.alloc1 hB hB.size (Obj.cells #[.int .i64 (-1), .bool false, .int .i64 n, .slice none 0 0, .int .i64 (-1), .bool true, .int .i64 0, .slice aB ln cB, .int .i64 v, .bool false, .int .i64 0, .slice none 0 0] 46)
  refine hK.out _ _ (hB) (fun hHeld2 => ?_)
  clear hK K hHeld
  have hHeld := hHeld2
  clear hHeld2
  try simp only [Act.put, List.setIfInBounds_toArray, List.set_cons_zero, List.set_cons_succ]
  refine wpAnyH_ready (rs := [52]) (by kernel_rfl) (by simp) ?_
  refine AllReadyH.cons rfl (fun K hK => ?_) AllReadyH.nil
  go_simp
  refine (kE _ hBs.out).mono ?_
  rintro e z52 ⟨rfl, hb4⟩
  replace hB := hBs.out.trans (hb4.mono hBs.out.size)
  clear hb4 hBs
  refine hK.out _ _ (hB) (fun hHeld2 => ?_)
  clear hK K hHeld
  have hHeld := hHeld2
  clear hHeld2
  try simp only [Act.put, List.setIfInBounds_toArray, List.set_cons_zero, List.set_cons_succ]
  refine wpAnyH_take (i := 53) (oi := { dst := some 102, op := Go.Op.unOp Go.UnOp.not 4 (Go.Operand.tmp 101), type := 4, pos := "law.go:71", after := #[{ on := 52, ground := Go.Ground.data }, { on := 45, ground := Go.Ground.guard }], guard := some (45, false) }) (v := ?_) rfl (by kernel_rfl) (by kernel_rfl) (by kernel_rfl) (fun _ _ _ h => h) (Or.inl ⟨by rfl, ?_⟩) hHeld ?_
  rotate_left
  · intro w hSw; (try dsimp only at hSw); go_simp <;> with_reducible rfl
  try simp only [Act.put, List.setIfInBounds_toArray, List.set_cons_zero, List.set_cons_succ]
  refine wpAnyH_take (i := 54) (oi := { dst := some 103, op := Go.Op.pick (Go.Operand.tmp 94) (Go.Operand.const (Go.Value.bool true)) (Go.Operand.tmp 102), type := 4, pos := "law.go:71", after := #[{ on := 45, ground := Go.Ground.data }, { on := 53, ground := Go.Ground.data }], guard := none }) (v := ?_) rfl (by kernel_rfl) (by kernel_rfl) (by kernel_rfl) (fun _ _ _ h => h) (Or.inl ⟨by rfl, ?_⟩) hHeld ?_
  rotate_left
  · intro w hSw; (try dsimp only at hSw); go_simp <;> with_reducible rfl
  try simp only [Act.put, List.setIfInBounds_toArray, List.set_cons_zero, List.set_cons_succ]
  refine wpAnyH_take (i := 55) (oi := { dst := some 104, op := Go.Op.move (Go.Operand.tmp 103), type := 4, pos := "law.go:71", after := #[{ on := 54, ground := Go.Ground.data }, { on := 52, ground := Go.Ground.chain }], guard := none }) (v := ?_) rfl (by kernel_rfl) (by kernel_rfl) (by kernel_rfl) (fun _ _ _ h => h) (Or.inl ⟨by rfl, ?_⟩) hHeld ?_
  rotate_left
  · intro w hSw; (try dsimp only at hSw); go_simp <;> with_reducible rfl
  try simp only [Act.put, List.setIfInBounds_toArray, List.set_cons_zero, List.set_cons_succ]
  refine wpAnyH_take (i := 56) (oi := { dst := some 105, op := Go.Op.load 44 (Go.Operand.tmp 17), type := 44, pos := "law.go:71", after := #[{ on := 55, ground := Go.Ground.guard }], guard := some (55, false) }) (v := ?_) rfl (by kernel_rfl) (by kernel_rfl) (by kernel_rfl) (fun _ _ _ h => h) (Or.inl ⟨by rfl, ?_⟩) hHeld ?_
  rotate_left
  · intro w hSw; have yy := Blk.below KX.out hSw; have y0 := yy.cell 0; have y1 := yy.cell 1; have y2 := yy.cell 2; clear yy hSw; simp only [List.getElem?_toArray, List.getElem?_cons_zero, List.getElem?_cons_succ] at y0 y1 y2; go_simp <;> with_reducible rfl
  try simp only [Act.put, List.setIfInBounds_toArray, List.set_cons_zero, List.set_cons_succ]
  refine wpAnyH_take (i := 57) (oi := { dst := some 106, op := Go.Op.load 44 (Go.Operand.tmp 19), type := 44, pos := "law.go:71", after := #[{ on := 55, ground := Go.Ground.guard }], guard := some (55, false) }) (v := ?_) rfl (by kernel_rfl) (by kernel_rfl) (by kernel_rfl) (fun _ _ _ h => h) (Or.inl ⟨by rfl, ?_⟩) hHeld ?_
  rotate_left
  · intro w hSw; have yy := Blk.below KY.out hSw; have y0 := yy.cell 0; have y1 := yy.cell 1; have y2 := yy.cell 2; clear yy hSw; simp only [List.getElem?_toArray, List.getElem?_cons_zero, List.getElem?_cons_succ] at y0 y1 y2; go_simp <;> with_reducible rfl
  try simp only [Act.put, List.setIfInBounds_toArray, List.set_cons_zero, List.set_cons_succ]
  refine wpAnyH_ready (rs := [58]) (by kernel_rfl) (by simp) ?_
  refine AllReadyH.cons rfl (fun K hK => ?_) AllReadyH.nil
  go_simp
  refine (kF _ hB).mono ?_
  rintro e z58 ⟨rfl, hb4⟩
  replace hB := hB.trans (hb4.mono hB.size)
  clear hb4
  refine hK.out _ _ (hB) (fun hHeld2 => ?_)
  clear hK K hHeld
  have hHeld := hHeld2
  clear hHeld2
  try simp only [Act.put, List.setIfInBounds_toArray, List.set_cons_zero, List.set_cons_succ]
  refine wpAnyH_take (i := 59) (oi := { dst := some 108, op := Go.Op.unOp Go.UnOp.not 4 (Go.Operand.tmp 107), type := 4, pos := "law.go:71", after := #[{ on := 58, ground := Go.Ground.data }, { on := 55, ground := Go.Ground.guard }], guard := some (55, false) }) (v := ?_) rfl (by kernel_rfl) (by kernel_rfl) (by kernel_rfl) (fun _ _ _ h => h) (Or.inl ⟨by rfl, ?_⟩) hHeld ?_
  rotate_left
  · intro w hSw; (try dsimp only at hSw); go_simp <;> with_reducible rfl
  try simp only [Act.put, List.setIfInBounds_toArray, List.set_cons_zero, List.set_cons_succ]
  refine wpAnyH_take (i := 60) (oi := { dst := some 109, op := Go.Op.pick (Go.Operand.tmp 104) (Go.Operand.const (Go.Value.bool true)) (Go.Operand.tmp 108), type := 4, pos := "law.go:71", after := #[{ on := 55, ground := Go.Ground.data }, { on := 59, ground := Go.Ground.data }], guard := none }) (v := ?_) rfl (by kernel_rfl) (by kernel_rfl) (by kernel_rfl) (fun _ _ _ h => h) (Or.inl ⟨by rfl, ?_⟩) hHeld ?_
  rotate_left
  · intro w hSw; (try dsimp only at hSw); go_simp <;> with_reducible rfl
  try simp only [Act.put, List.setIfInBounds_toArray, List.set_cons_zero, List.set_cons_succ]
  refine wpAnyH_take (i := 61) (oi := { dst := some 110, op := Go.Op.move (Go.Operand.tmp 109), type := 4, pos := "law.go:71", after := #[{ on := 60, ground := Go.Ground.data }, { on := 58, ground := Go.Ground.chain }], guard := none }) (v := ?_) rfl (by kernel_rfl) (by kernel_rfl) (by kernel_rfl) (fun _ _ _ h => h) (Or.inl ⟨by rfl, ?_⟩) hHeld ?_
  rotate_left
  · intro w hSw; (try dsimp only at hSw); go_simp <;> with_reducible rfl
  try simp only [Act.put, List.setIfInBounds_toArray, List.set_cons_zero, List.set_cons_succ]
  refine wpAnyH_take (i := 62) (oi := { dst := some 111, op := Go.Op.move (Go.Operand.tmp 18), type := 37, pos := "law.go:71", after := #[{ on := 61, ground := Go.Ground.guard }], guard := some (61, false) }) (v := ?_) rfl (by kernel_rfl) (by kernel_rfl) (by kernel_rfl) (fun _ _ _ h => h) (Or.inl ⟨by rfl, ?_⟩) hHeld ?_
  rotate_left
  · intro w hSw; (try dsimp only at hSw); go_simp <;> with_reducible rfl
  try simp only [Act.put, List.setIfInBounds_toArray, List.set_cons_zero, List.set_cons_succ]
  refine wpAnyH_take (i := 63) (oi := { dst := some 112, op := Go.Op.move (Go.Operand.tmp 20), type := 37, pos := "law.go:71", after := #[{ on := 61, ground := Go.Ground.guard }], guard := some (61, false) }) (v := ?_) rfl (by kernel_rfl) (by kernel_rfl) (by kernel_rfl) (fun _ _ _ h => h) (Or.inl ⟨by rfl, ?_⟩) hHeld ?_
  rotate_left
  · intro w hSw; (try dsimp only at hSw); go_simp <;> with_reducible rfl
  try simp only [Act.put, List.setIfInBounds_toArray, List.set_cons_zero, List.set_cons_succ]
  refine wpAnyH_take (i := 64) (oi := { dst := some 113, op := Go.Op.binOp Go.BinOp.neq 37 (Go.Operand.tmp 111) (Go.Operand.tmp 112) 37, type := 4, pos := "law.go:71", after := #[{ on := 62, ground := Go.Ground.data }, { on := 63, ground := Go.Ground.data }, { on := 61, ground := Go.Ground.guard }], guard := some (61, false) }) (v := ?_) rfl (by kernel_rfl) (by kernel_rfl) (by kernel_rfl) (fun _ _ _ h => h) (Or.inl ⟨by rfl, ?_⟩) hHeld ?_
  rotate_left
  · intro w hSw; (try dsimp only at hSw); go_simp <;> with_reducible rfl
  try simp only [Act.put, List.setIfInBounds_toArray, List.set_cons_zero, List.set_cons_succ]
  refine wpAnyH_take (i := 65) (oi := { dst := some 114, op := Go.Op.pick (Go.Operand.tmp 110) (Go.Operand.const (Go.Value.bool true)) (Go.Operand.tmp 113), type := 4, pos := "law.go:71", after := #[{ on := 61, ground := Go.Ground.data }, { on := 64, ground := Go.Ground.data }], guard := none }) (v := ?_) rfl (by kernel_rfl) (by kernel_rfl) (by kernel_rfl) (fun _ _ _ h => h) (Or.inl ⟨by rfl, ?_⟩) hHeld ?_
  rotate_left
  · intro w hSw; (try dsimp only at hSw); go_simp <;> with_reducible rfl
  try simp only [Act.put, List.setIfInBounds_toArray, List.set_cons_zero, List.set_cons_succ]
  refine wpAnyH_done (by kernel_rfl) ?_ _
  skip
  have HFX : Hid (Below w1.heap.size w1 z58) := HF.out.1.trans (hB.mono HF.out.1.size)
  have HBX : Hid (Below W.heap.size W z58) := HB.out.trans (hB.mono HB.out.size)
  have HWX : Hid (Wrt z58 w1.heap.size (.slice aB ln cB)) := HWB.out.below hB
  have KBX : Hid (Blk z58 bB #[.int .i64 (-1), .bool true, .int .i64 0, .slice aB ln cB] 46) := KB.out.below hB
  clear hB kA kB kC kD kE kF l0 l1 l2 l3 gL hLs KT HM HL HS HV LT HF HB KA HSB HWB KB KC HD KD HE KE HX KX HY KY hHeld
  have hln9 : ln * 8 ≤ 140737488351232 := by rw [← HT.out.2.2.2.2.1]; exact HZ.out.1
  go_wp2
  go_loopw [21] (fun i wr => ∃ k : Nat, k ≤ ln ∧ i = .int .i64 (k : Int) ∧ Hid (Below w1.heap.size w1 wr) ∧ Hid (Below W.heap.size W wr) ∧ Hid (Wrt wr w1.heap.size (.slice aB ln cB)) ∧ Hid (Blk wr bB #[.int .i64 (-1), .bool true, .int .i64 0, .slice aB ln cB] 46)) (fun i _ => ln - (intOf i).toNat)
  case atStart => exact ⟨0, Nat.zero_le _, rfl, HFX, HBX, HWX, KBX⟩
  case round =>
    clear HFX HBX HWX KBX
    obtain ⟨k, hk, rfl, HFX, HBX, HWX, KBX⟩ := hrel
    have x3 : wr.cell? ⟨bB, 3, none⟩ = some (.slice aB ln cB) := KBX.out.cell 3
    by_cases hlt : k < ln
    · have hlt' : (k : Int) < ln := by omega
      obtain ⟨gB, oB, u, rfl, hgB, hgz, hcu, hfz⟩ := HWX.out.at k hlt
      have hne : bB ≠ gB := by have := HAB.out gB oB rfl (by omega); omega
      have hw2 : IntKind.i64.wrap ((k : Int) + 1) = (k : Int) + 1 := by rw [IntKind.wrap_i64]; omega
      have HK2 : Hid (Below w1.heap.size w1 (wr.setCell ⟨gB, oB + k, none⟩ (.int .i64 99)) ∧ Below W.heap.size W (wr.setCell ⟨gB, oB + k, none⟩ (.int .i64 99)) ∧ Wrt (wr.setCell ⟨gB, oB + k, none⟩ (.int .i64 99)) w1.heap.size (.slice (some ⟨gB, oB, none⟩) ln cB) ∧ Blk (wr.setCell ⟨gB, oB + k, none⟩ (.int .i64 99)) bB #[.int .i64 (-1), .bool true, .int .i64 0, .slice (some ⟨gB, oB, none⟩) ln cB] 46) :=
        ⟨HFX.out.setCell (p := ⟨gB, oB + k, none⟩) hgB _, HBX.out.setCell (p := ⟨gB, oB + k, none⟩) (Nat.le_trans HW1.out hgB) _, HWX.out.set _ _ _, KBX.out.other hne _ _⟩
      clear HFX HBX HWX KBX hne
      go_wp2
      go_roundw
      case rel => exact ⟨k + 1, by omega, by go_num, HK2.out.1, HK2.out.2.1, HK2.out.2.2.1, HK2.out.2.2.2⟩
      case measure => simp [intOf]; omega
    · have hlt' : ¬ (k : Int) < ln := by omega
      have hkk := keptI_any g0 c0 (.slice a1 ln c1) l wr (LT1.out.below HFX.out LT1.out.lt) (by rw [HT.out.2.2.2.2.1]; exact HC0.out.1) HC0.out.2 (H00.out.2.below HBX.out) HZ.out.1
      rw [HT.out.2.2.2.2.1] at hkk
      go_wp2_with fail
      refine hkk.mono ?_
      clear hkk
      rintro e y1 ⟨rfl, hb⟩
      have HB1 : Hid (Below W.heap.size W y1) := HBX.out.trans (hb.mono HBX.out.size)
      clear hb
      go_wp2_with fail
      refine (known14 y1 (H00.out.1.below HB1.out H00.out.1.1)).mono ?_
      rintro e y2 ⟨rfl, hb⟩
      have HB2 : Hid (Below W.heap.size W y2) := HB1.out.trans (hb.mono HB1.out.size)
      clear hb
      go_wp2
      go_ret
      exact ⟨rfl, HB2.out⟩
end Go.Proofs.YtaeobgajhieajaaGreatDoor
