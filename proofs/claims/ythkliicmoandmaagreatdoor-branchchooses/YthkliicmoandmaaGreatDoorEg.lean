/-
  What is proved here: lists of domains that are lent, and held against each other.
-/
import Derived.Test.YthkliicmoandmaaGreatDoorEf
import Derived.Test.YthkliicmoandmaaGreatDoorYTcj
import Derived.Test.YthkliicmoandmaaGreatDoorCij
namespace Go.Proofs.YthkliicmoandmaaGreatDoor
open Go.RowKit Go.Shelf
set_option linter.unusedVariables false
set_option linter.unusedSimpArgs false
namespace St

set_option maxRecDepth 100000 in
set_option maxHeartbeats 4000000 in
theorem lent_own (v : Value) (d : SD) (fr : List Int) (W : World) (h : Dr W v d fr) :
    Calls Tryz.prog 18 #[v] W fun e w' => ∃ s1 s2 s3, e = .returned (.agg #[.bool d.set, s1, s2, s3, .int .i64 d.least, .int .i64 d.most]) ∧ w'.ownsRow W.heap.size 92 2 s1 d.rn (intv fr) ∧ w'.ownsRow W.heap.size 2 1 s2 d.lo.length (intv d.lo) ∧ w'.ownsRow W.heap.size 2 1 s3 d.up.length (intv d.up) ∧ Below W.heap.size W w' := by
  obtain ⟨x0a, raa, rna, rca, a1a, n1a, c1a, a2a, n2a, c2a, x4a, x5a, rfl, HEa, HLOa, HUPa, HRa, hz1a, hz2a, hz3a⟩ := h.look
  have HFL : Hid (fr.length = rna * 2) := by
    obtain ⟨a, n, c, e, hl, _⟩ := HRa.out
    injection e with _ e2 _
    subst e2
    exact hl
  have hz3 : rna * 16 ≤ 140737488351232 := by rw [← HEa.out.2.2.2.2.2]; exact hz3a
  have HZZ : Hid (d.lo.length * 8 ≤ 140737488351232 ∧ d.up.length * 8 ≤ 140737488351232 ∧ d.rn * 16 ≤ 140737488351232) := ⟨hz1a, hz2a, hz3a⟩
  have HQ1 : Hid (d.lo.length * 8 ≤ 140737488351232) := hz1a
  have HQ2 : Hid (d.up.length * 8 ≤ 140737488351232) := hz2a
  have HQ3 : Hid (rna * 16 ≤ 140737488351232) := hz3
  clear h hz1a hz2a hz3a hz3
  obtain ⟨w0, hW0⟩ : ∃ X, ((W.alloc (Obj.cells #[.bool x0a, .slice raa rna rca, .slice a1a n1a c1a, .slice a2a n2a c2a, .int .i64 x4a, .int .i64 x5a] 50)).alloc (Obj.cells #[.bool false, .slice none 0 0, .slice none 0 0, .slice none 0 0, .int .i64 0, .int .i64 0] 50)) = X := ⟨_, rfl⟩
  have HW0 : Hid _ := hW0
  have hb0 : Below W.heap.size W w0 := by rw [← hW0]; exact (((Below.refl _ W).alloc (by simp <;> omega) _).alloc (by simp <;> omega) _)
  have HA_0 : Hid (R6 w0 W.heap.size (.bool x0a) (.slice raa rna rca) (.slice a1a n1a c1a) (.slice a2a n2a c2a) (.int .i64 x4a) (.int .i64 x5a)) := by rw [← hW0]; exact ((R6.new _ _ _ _ _ _ _).alloc _)
  have HZ_0 : Hid (R6 w0 (W.heap.size + 1) (.bool false) (.slice none 0 0) (.slice none 0 0) (.slice none 0 0) (.int .i64 0) (.int .i64 0)) := by rw [← hW0]; exact (R6.new1 _ _ _ _ _ _ _ _)
  have HSZ0 : Hid (w0.heap.size = W.heap.size + 2) := by unfold Hid; rw [← hW0]; simp
  clear hW0
  go_enter Tryz.func18, Tryz.ntmps18
  go_upto_region 1 with (fail)
  rw [HW0.out]
  obtain ⟨y0, y1, y2, y3, y4, y5⟩ := HA_0.out.cells
  have hzb := (Below.refl w0.heap.size w0).alloc (Nat.le_refl _) (Obj.cells #[.bool x0a, .slice none 0 0, .slice none 0 0, .slice none 0 0, .int .i64 x4a, .int .i64 x5a] 50)
  have hb1 := hb0.trans (hzb.mono hb0.size)
  have HG_1 : Hid _ := R6.new w0 (.bool x0a) (.slice none 0 0) (.slice none 0 0) (.slice none 0 0) (.int .i64 x4a) (.int .i64 x5a)
  have HZ_1 : Hid _ := HZ_0.out.below hzb
  have HA_1 : Hid _ := HA_0.out.below hzb
  go_upto_region 2 with (fail)
  clear hb0 HZ_0 HA_0 hzb HW0 y0 y1 y2 y3 y4 y5
  generalize w0.alloc (Obj.cells #[.bool x0a, .slice none 0 0, .slice none 0 0, .slice none 0 0, .int .i64 x4a, .int .i64 x5a] 50) = w1 at hb1 HG_1 HZ_1 HA_1 ⊢
  have hGW : W.heap.size + 1 < w0.heap.size := by rw [HSZ0.out]; omega
  generalize w0.heap.size = G at HG_1 hGW ⊢
  clear HSZ0
  obtain ⟨z0, z1, z2, z3, z4, z5⟩ := HG_1.out.cells
  obtain ⟨y0, y1, y2, y3, y4, y5⟩ := HA_1.out.cells
  go_upto_region 3 with (at_builtin; refine wpList_app_r _ rfl _ _ rfl rfl _ _ _ fr rfl (HRa.out.below hb1) HQ3.out ?_; intro v9 w2 hrow hbel; obtain ⟨p1, e1, rfl⟩ := own_sliceR hrow; have HG_2 : Hid _ := HG_1.out.below hbel; have HZ_2 : Hid _ := HZ_1.out.below hbel; have HA_2 : Hid _ := HA_1.out.below hbel; have O1_2 : Hid _ := own_base hrow hb1.size; have hb2 := hb1.trans (hbel.mono hb1.size); clear z0 z1 z2 z3 z4 z5 y0 y1 y2 y3 y4 y5 hrow hbel; obtain ⟨z0, z1, z2, z3, z4, z5⟩ := HG_2.out.cells; have fz := HG_2.out.frozen 1)
  rw [HG_2.out.setc1]
  clear z0 z1 z2 z3 z4 z5 fz
  clear HG_1 HZ_1 HA_1 hb1
  have HG_3 : Hid _ := HG_2.out.set (.bool x0a) (.slice p1 rna e1) (.slice none 0 0) (.slice none 0 0) (.int .i64 x4a) (.int .i64 x5a)
  have HZ_3 : Hid _ := HZ_2.out.other (show W.heap.size + 1 ≠ G by omega) #[.bool x0a, .slice p1 rna e1, .slice none 0 0, .slice none 0 0, .int .i64 x4a, .int .i64 x5a]
  have HA_3 : Hid _ := HA_2.out.other (show W.heap.size ≠ G by omega) #[.bool x0a, .slice p1 rna e1, .slice none 0 0, .slice none 0 0, .int .i64 x4a, .int .i64 x5a]
  have hb3 := below_setRow hb2 (show W.heap.size ≤ G by omega) #[.bool x0a, .slice p1 rna e1, .slice none 0 0, .slice none 0 0, .int .i64 x4a, .int .i64 x5a]
  have O1_3 : Hid _ := own_setRowR O1_2.out G #[.bool x0a, .slice p1 rna e1, .slice none 0 0, .slice none 0 0, .int .i64 x4a, .int .i64 x5a] HG_2.out.h
  clear HG_2 HZ_2 HA_2 hb2 O1_2
  generalize w2.setRow G #[.bool x0a, .slice p1 rna e1, .slice none 0 0, .slice none 0 0, .int .i64 x4a, .int .i64 x5a] = w3 at HG_3 HZ_3 HA_3 hb3 O1_3 ⊢
  obtain ⟨z0, z1, z2, z3, z4, z5⟩ := HG_3.out.cells
  obtain ⟨y0, y1, y2, y3, y4, y5⟩ := HA_3.out.cells
  go_upto_region 4 with (at_builtin; refine wpList_app_i _ rfl _ _ rfl rfl _ d.lo rfl (HLOa.out.below hb3) HQ1.out ?_; intro v9 w4 hrow hbel; obtain ⟨p3, e3, rfl⟩ := own_slice hrow; have HG_4 : Hid _ := HG_3.out.below hbel; have HZ_4 : Hid _ := HZ_3.out.below hbel; have HA_4 : Hid _ := HA_3.out.below hbel; have O3_4 : Hid _ := own_base hrow hb3.size; have hb4 := hb3.trans (hbel.mono hb3.size); have O1_4 : Hid _ := own_keepB O1_3.out hbel; clear z0 z1 z2 z3 z4 z5 y0 y1 y2 y3 y4 y5 hrow hbel; obtain ⟨z0, z1, z2, z3, z4, z5⟩ := HG_4.out.cells; have fz := HG_4.out.frozen 2)
  rw [HG_4.out.setc2]
  clear z0 z1 z2 z3 z4 z5 fz
  clear HG_3 HZ_3 HA_3 hb3 O1_3
  have HG_5 : Hid _ := HG_4.out.set (.bool x0a) (.slice p1 rna e1) (.slice p3 d.lo.length e3) (.slice none 0 0) (.int .i64 x4a) (.int .i64 x5a)
  have HZ_5 : Hid _ := HZ_4.out.other (show W.heap.size + 1 ≠ G by omega) #[.bool x0a, .slice p1 rna e1, .slice p3 d.lo.length e3, .slice none 0 0, .int .i64 x4a, .int .i64 x5a]
  have HA_5 : Hid _ := HA_4.out.other (show W.heap.size ≠ G by omega) #[.bool x0a, .slice p1 rna e1, .slice p3 d.lo.length e3, .slice none 0 0, .int .i64 x4a, .int .i64 x5a]
  have hb5 := below_setRow hb4 (show W.heap.size ≤ G by omega) #[.bool x0a, .slice p1 rna e1, .slice p3 d.lo.length e3, .slice none 0 0, .int .i64 x4a, .int .i64 x5a]
  have O1_5 : Hid _ := own_setRowR O1_4.out G #[.bool x0a, .slice p1 rna e1, .slice p3 d.lo.length e3, .slice none 0 0, .int .i64 x4a, .int .i64 x5a] HG_4.out.h
  have O3_5 : Hid _ := own_setRow O3_4.out G #[.bool x0a, .slice p1 rna e1, .slice p3 d.lo.length e3, .slice none 0 0, .int .i64 x4a, .int .i64 x5a] HG_4.out.h
  clear HG_4 HZ_4 HA_4 hb4 O1_4 O3_4
  generalize w4.setRow G #[.bool x0a, .slice p1 rna e1, .slice p3 d.lo.length e3, .slice none 0 0, .int .i64 x4a, .int .i64 x5a] = w5 at HG_5 HZ_5 HA_5 hb5 O1_5 O3_5 ⊢
  obtain ⟨z0, z1, z2, z3, z4, z5⟩ := HG_5.out.cells
  obtain ⟨y0, y1, y2, y3, y4, y5⟩ := HA_5.out.cells
  go_upto_region 5 with (at_builtin; refine wpList_app_i _ rfl _ _ rfl rfl _ d.up rfl (HUPa.out.below hb5) HQ2.out ?_; intro v9 w6 hrow hbel; obtain ⟨p5, e5, rfl⟩ := own_slice hrow; have HG_6 : Hid _ := HG_5.out.below hbel; have HZ_6 : Hid _ := HZ_5.out.below hbel; have HA_6 : Hid _ := HA_5.out.below hbel; have O5_6 : Hid _ := own_base hrow hb5.size; have hb6 := hb5.trans (hbel.mono hb5.size); have O1_6 : Hid _ := own_keepB O1_5.out hbel; have O3_6 : Hid _ := own_keepB O3_5.out hbel; clear z0 z1 z2 z3 z4 z5 y0 y1 y2 y3 y4 y5 hrow hbel; obtain ⟨z0, z1, z2, z3, z4, z5⟩ := HG_6.out.cells; have fz := HG_6.out.frozen 3)
  rw [HG_6.out.setc3]
  clear z0 z1 z2 z3 z4 z5 fz
  clear HG_5 HZ_5 HA_5 hb5 O1_5 O3_5
  have HG_7 : Hid _ := HG_6.out.set (.bool x0a) (.slice p1 rna e1) (.slice p3 d.lo.length e3) (.slice p5 d.up.length e5) (.int .i64 x4a) (.int .i64 x5a)
  have HZ_7 : Hid _ := HZ_6.out.other (show W.heap.size + 1 ≠ G by omega) #[.bool x0a, .slice p1 rna e1, .slice p3 d.lo.length e3, .slice p5 d.up.length e5, .int .i64 x4a, .int .i64 x5a]
  have HA_7 : Hid _ := HA_6.out.other (show W.heap.size ≠ G by omega) #[.bool x0a, .slice p1 rna e1, .slice p3 d.lo.length e3, .slice p5 d.up.length e5, .int .i64 x4a, .int .i64 x5a]
  have hb7 := below_setRow hb6 (show W.heap.size ≤ G by omega) #[.bool x0a, .slice p1 rna e1, .slice p3 d.lo.length e3, .slice p5 d.up.length e5, .int .i64 x4a, .int .i64 x5a]
  have O1_7 : Hid _ := own_setRowR O1_6.out G #[.bool x0a, .slice p1 rna e1, .slice p3 d.lo.length e3, .slice p5 d.up.length e5, .int .i64 x4a, .int .i64 x5a] HG_6.out.h
  have O3_7 : Hid _ := own_setRow O3_6.out G #[.bool x0a, .slice p1 rna e1, .slice p3 d.lo.length e3, .slice p5 d.up.length e5, .int .i64 x4a, .int .i64 x5a] HG_6.out.h
  have O5_7 : Hid _ := own_setRow O5_6.out G #[.bool x0a, .slice p1 rna e1, .slice p3 d.lo.length e3, .slice p5 d.up.length e5, .int .i64 x4a, .int .i64 x5a] HG_6.out.h
  clear HG_6 HZ_6 HA_6 hb6 O1_6 O3_6 O5_6
  generalize w6.setRow G #[.bool x0a, .slice p1 rna e1, .slice p3 d.lo.length e3, .slice p5 d.up.length e5, .int .i64 x4a, .int .i64 x5a] = w7 at HG_7 HZ_7 HA_7 hb7 O1_7 O3_7 O5_7 ⊢
  obtain ⟨z0, z1, z2, z3, z4, z5⟩ := HG_7.out.cells
  go_wp2_with (with_reducible refine st37 rfl (.tmp 2) (.tmp 29) rfl (W.heap.size + 1) _ _ _ _ _ _ (by with_unfolding_all rfl) (by with_unfolding_all rfl) HZ_7.out (six_dom _ _ _ _ _ _ _ _ _ _ _ _) ?_)
  obtain ⟨he0, he1, he2, he4, he5, hen⟩ := HEa.out
  refine ⟨rfl, _, R6.res rfl _ (HZ_7.out.set (.bool x0a) (.slice p1 rna e1) (.slice p3 d.lo.length e3) (.slice p5 d.up.length e5) (.int .i64 x4a) (.int .i64 x5a)) rfl, ⟨.slice p1 rna e1, .slice p3 d.lo.length e3, .slice p5 d.up.length e5, by rw [he0, he4, he5], ?_, ?_, ?_, below_setRow hb7 (by omega) _⟩⟩
  · rw [hen]; exact own_setRowR O1_7.out _ _ HZ_7.out.h
  · exact own_setRow O3_7.out _ _ HZ_7.out.h
  · exact own_setRow O5_7.out _ _ HZ_7.out.h
end St

set_option maxRecDepth 100000 in
set_option maxHeartbeats 4000000 in
theorem same_doms {W : World} {p1 : Option Addr} {n1 k1 : Nat} {p2 : Option Addr} {n2 k2 : Nat} {D : List MD} (h : Ds W (.slice p1 n1 k1) D) (h' : Ds W (.slice p2 n2 k2) D) (hz : ∀ d ∈ D, SzD d) (hl : D.length ≤ 9223372036854775806) :
    Calls Tryz.prog 16 #[.slice p1 n1 k1, .slice p2 n2 k2] W fun e w' => e = .returned (.bool true) ∧ Below W.heap.size W w' := by
  have e1 : D.length = n1 := by obtain ⟨a, c, e, _⟩ := h; injection e with _ e2 _; exact e2.symm
  have e2 : D.length = n2 := by obtain ⟨a, c, e, _⟩ := h'; injection e with _ e2 _; exact e2.symm
  obtain rfl : n1 = n2 := e1.symm.trans e2
  have HA : Hid (∀ w, Below W.heap.size W w → Ds w (.slice p1 n1 k1) D) := fun w hb => h.below hb
  have HB : Hid (∀ w, Below W.heap.size W w → Ds w (.slice p2 n1 k2) D) := fun w hb => h'.below hb
  have HZ : Hid (∀ d ∈ D, SzD d) := hz
  have HN : Hid (D.length = n1) := e1
  rw [e1] at hl
  clear h h' hz e1 e2
  go_enter Tryz.func16, Tryz.ntmps16
  go_wp2
  go_loopw [5] (fun i wr => ∃ k : Nat, i = .int .i64 (k : Int) ∧ k ≤ n1 ∧ Hid (Below W.heap.size W wr)) (fun i _ => n1 - (intOf i).toNat)
  case atStart => exact ⟨0, rfl, Nat.zero_le _, Below.refl _ _⟩
  case round =>
    obtain ⟨k, rfl, hk, HBr⟩ := hrel
    by_cases hlt : k < n1
    · have hlt' : (k : Int) < (n1 : Int) := by omega
      have hwk : IntKind.i64.wrap ((k : Int) + 1) = (k : Int) + 1 := by rw [IntKind.wrap_i64]; omega
      obtain ⟨d, hd⟩ : ∃ d, D[k]? = some d := ⟨_, List.getElem?_eq_getElem (by rw [HN.out]; exact hlt)⟩
      obtain ⟨b1, off1, rfl, hb1, _, c0, c1, c2, c3, c4, c5, hDc1, i0, i1, i2, i3, i4, i5⟩ := (HA.out wr HBr.out).at hd
      obtain ⟨b2, off2, rfl, hb2, _, e0, e1, e2, e3, e4, e5, hDc2, j0, j1, j2, j3, j4, j5⟩ := (HB.out wr HBr.out).at hd
      have HON : Hid _ := one_d (hDc1.below (Below.refl _ wr).drew) (hDc2.below (Below.refl _ wr).drew) (HZ.out d (List.mem_of_getElem? hd))
      have FS : Hid (∀ w, Below wr.heap.size wr w → (w.cell? ⟨b1, off1 + k * 6, none⟩ = some c0 ∧ w.cell? ⟨b1, off1 + k * 6 + 1, none⟩ = some c1 ∧ w.cell? ⟨b1, off1 + k * 6 + 2, none⟩ = some c2 ∧ w.cell? ⟨b1, off1 + k * 6 + 3, none⟩ = some c3 ∧ w.cell? ⟨b1, off1 + k * 6 + 4, none⟩ = some c4 ∧ w.cell? ⟨b1, off1 + k * 6 + 5, none⟩ = some c5) ∧ (w.cell? ⟨b2, off2 + k * 6, none⟩ = some e0 ∧ w.cell? ⟨b2, off2 + k * 6 + 1, none⟩ = some e1 ∧ w.cell? ⟨b2, off2 + k * 6 + 2, none⟩ = some e2 ∧ w.cell? ⟨b2, off2 + k * 6 + 3, none⟩ = some e3 ∧ w.cell? ⟨b2, off2 + k * 6 + 4, none⟩ = some e4 ∧ w.cell? ⟨b2, off2 + k * 6 + 5, none⟩ = some e5)) := fun w hb => ⟨⟨(hb.cell (p := ⟨b1, _, none⟩) hb1).trans i0, (hb.cell (p := ⟨b1, _, none⟩) hb1).trans i1, (hb.cell (p := ⟨b1, _, none⟩) hb1).trans i2, (hb.cell (p := ⟨b1, _, none⟩) hb1).trans i3, (hb.cell (p := ⟨b1, _, none⟩) hb1).trans i4, (hb.cell (p := ⟨b1, _, none⟩) hb1).trans i5⟩, ⟨(hb.cell (p := ⟨b2, _, none⟩) hb2).trans j0, (hb.cell (p := ⟨b2, _, none⟩) hb2).trans j1, (hb.cell (p := ⟨b2, _, none⟩) hb2).trans j2, (hb.cell (p := ⟨b2, _, none⟩) hb2).trans j3, (hb.cell (p := ⟨b2, _, none⟩) hb2).trans j4, (hb.cell (p := ⟨b2, _, none⟩) hb2).trans j5⟩⟩
      have HP0 : Hid (Below wr.heap.size wr wr.drew) := (Below.refl _ _).drew
      clear hd hb1 hb2 i0 i1 i2 i3 i4 i5 j0 j1 j2 j3 j4 j5 hDc1 hDc2
      go_upto_region 6 with (fail)
      refine wp_region_held_drew (S := fun w : World => (w.cell? ⟨b1, off1 + k * 6, none⟩ = some c0 ∧ w.cell? ⟨b1, off1 + k * 6 + 1, none⟩ = some c1 ∧ w.cell? ⟨b1, off1 + k * 6 + 2, none⟩ = some c2 ∧ w.cell? ⟨b1, off1 + k * 6 + 3, none⟩ = some c3 ∧ w.cell? ⟨b1, off1 + k * 6 + 4, none⟩ = some c4 ∧ w.cell? ⟨b1, off1 + k * 6 + 5, none⟩ = some c5) ∧ (w.cell? ⟨b2, off2 + k * 6, none⟩ = some e0 ∧ w.cell? ⟨b2, off2 + k * 6 + 1, none⟩ = some e1 ∧ w.cell? ⟨b2, off2 + k * 6 + 2, none⟩ = some e2 ∧ w.cell? ⟨b2, off2 + k * 6 + 3, none⟩ = some e3 ∧ w.cell? ⟨b2, off2 + k * 6 + 4, none⟩ = some e4 ∧ w.cell? ⟨b2, off2 + k * 6 + 5, none⟩ = some e5)) (by kernel_rfl) ((FS.out _ HP0.out)) (fun hHeld => ?_)
      refine wpAnyH_take (i := 0) (oi := { dst := some 17, op := Go.Op.move (Go.Operand.tmp 0), type := 23, pos := "ref.go:216", after := #[], guard := none }) (v := ?_) rfl (by kernel_rfl) (by kernel_rfl) (by kernel_rfl) (fun _ _ _ h => h) (Or.inl ⟨by rfl, ?_⟩) hHeld ?_
      rotate_left
      · intro w hSw; (try dsimp only at hSw); go_simp <;> with_reducible rfl
      try simp only [Act.put, List.setIfInBounds_toArray, List.set_cons_zero, List.set_cons_succ]
      refine wpAnyH_take (i := 1) (oi := { dst := some 18, op := Go.Op.move (Go.Operand.tmp 5), type := 3, pos := "ref.go:216", after := #[], guard := none }) (v := ?_) rfl (by kernel_rfl) (by kernel_rfl) (by kernel_rfl) (fun _ _ _ h => h) (Or.inl ⟨by rfl, ?_⟩) hHeld ?_
      rotate_left
      · intro w hSw; (try dsimp only at hSw); go_simp <;> with_reducible rfl
      try simp only [Act.put, List.setIfInBounds_toArray, List.set_cons_zero, List.set_cons_succ]
      refine wpAnyH_take (i := 2) (oi := { dst := some 19, op := Go.Op.indexAddr 23 (Go.Operand.tmp 17) (Go.Operand.tmp 18), type := 0, pos := "ref.go:216", after := #[{ on := 0, ground := Go.Ground.data }, { on := 1, ground := Go.Ground.data }], guard := none }) (v := ?_) rfl (by kernel_rfl) (by kernel_rfl) (by kernel_rfl) (fun _ _ _ h => h) (Or.inl ⟨by rfl, ?_⟩) hHeld ?_
      rotate_left
      · intro w hSw; (try dsimp only at hSw); go_simp <;> with_reducible rfl
      try simp only [Act.put, List.setIfInBounds_toArray, List.set_cons_zero, List.set_cons_succ]
      refine wpAnyH_take (i := 3) (oi := { dst := some 20, op := Go.Op.load 50 (Go.Operand.tmp 19), type := 50, pos := "ref.go:216", after := #[{ on := 2, ground := Go.Ground.data }], guard := none }) (v := ?_) rfl (by kernel_rfl) (by kernel_rfl) (by kernel_rfl) (fun _ _ _ h => h) (Or.inl ⟨by rfl, ?_⟩) hHeld ?_
      rotate_left
      · intro w hSw; obtain ⟨⟨y0, y1, y2, y3, y4, y5⟩, ⟨x0, x1, x2, x3, x4, x5⟩⟩ := hSw; go_simp <;> with_reducible rfl
      try simp only [Act.put, List.setIfInBounds_toArray, List.set_cons_zero, List.set_cons_succ]
      refine wpAnyH_take (i := 4) (oi := { dst := some 21, op := Go.Op.move (Go.Operand.tmp 1), type := 23, pos := "ref.go:216", after := #[], guard := none }) (v := ?_) rfl (by kernel_rfl) (by kernel_rfl) (by kernel_rfl) (fun _ _ _ h => h) (Or.inl ⟨by rfl, ?_⟩) hHeld ?_
      rotate_left
      · intro w hSw; (try dsimp only at hSw); go_simp <;> with_reducible rfl
      try simp only [Act.put, List.setIfInBounds_toArray, List.set_cons_zero, List.set_cons_succ]
      refine wpAnyH_take (i := 5) (oi := { dst := some 22, op := Go.Op.move (Go.Operand.tmp 5), type := 3, pos := "ref.go:216", after := #[], guard := none }) (v := ?_) rfl (by kernel_rfl) (by kernel_rfl) (by kernel_rfl) (fun _ _ _ h => h) (Or.inl ⟨by rfl, ?_⟩) hHeld ?_
      rotate_left
      · intro w hSw; (try dsimp only at hSw); go_simp <;> with_reducible rfl
      try simp only [Act.put, List.setIfInBounds_toArray, List.set_cons_zero, List.set_cons_succ]
      refine wpAnyH_take (i := 6) (oi := { dst := some 23, op := Go.Op.indexAddr 23 (Go.Operand.tmp 21) (Go.Operand.tmp 22), type := 0, pos := "ref.go:216", after := #[{ on := 4, ground := Go.Ground.data }, { on := 5, ground := Go.Ground.data }], guard := none }) (v := ?_) rfl (by kernel_rfl) (by kernel_rfl) (by kernel_rfl) (fun _ _ _ h => h) (Or.inl ⟨by rfl, ?_⟩) hHeld ?_
      rotate_left
      · intro w hSw; (try dsimp only at hSw); go_simp <;> with_reducible rfl
      try simp only [Act.put, List.setIfInBounds_toArray, List.set_cons_zero, List.set_cons_succ]
      refine wpAnyH_take (i := 7) (oi := { dst := some 24, op := Go.Op.load 50 (Go.Operand.tmp 23), type := 50, pos := "ref.go:216", after := #[{ on := 6, ground := Go.Ground.data }], guard := none }) (v := ?_) rfl (by kernel_rfl) (by kernel_rfl) (by kernel_rfl) (fun _ _ _ h => h) (Or.inl ⟨by rfl, ?_⟩) hHeld ?_
      rotate_left
      · intro w hSw; obtain ⟨⟨y0, y1, y2, y3, y4, y5⟩, ⟨x0, x1, x2, x3, x4, x5⟩⟩ := hSw; go_simp <;> with_reducible rfl
      try simp only [Act.put, List.setIfInBounds_toArray, List.set_cons_zero, List.set_cons_succ]
      refine wpAnyH_ready (rs := [8]) (by kernel_rfl) (by simp) ?_
      refine AllReadyH.cons rfl (fun K hK => ?_) AllReadyH.nil
      go_simp
      refine Calls.mono HON.out ?_
      rintro e u1 ⟨rfl, hbu⟩
      have HP1 : Hid (Below wr.heap.size wr u1) := HP0.out.trans (hbu.mono HP0.out.size)
      clear hbu
      refine hK.out _ _ ((FS.out _ HP1.out)) (fun hHeld2 => ?_)
      clear hK K hHeld
      have hHeld := hHeld2
      clear hHeld2
      try simp only [Act.put, List.setIfInBounds_toArray, List.set_cons_zero, List.set_cons_succ]
      refine wpAnyH_take (i := 9) (oi := { dst := some 26, op := Go.Op.unOp Go.UnOp.not 4 (Go.Operand.tmp 25), type := 4, pos := "ref.go:216", after := #[{ on := 8, ground := Go.Ground.data }], guard := none }) (v := ?_) rfl (by kernel_rfl) (by kernel_rfl) (by kernel_rfl) (fun _ _ _ h => h) (Or.inl ⟨by rfl, ?_⟩) hHeld ?_
      rotate_left
      · intro w hSw; (try dsimp only at hSw); go_simp <;> with_reducible rfl
      try simp only [Act.put, List.setIfInBounds_toArray, List.set_cons_zero, List.set_cons_succ]
      refine wpAnyH_done (by kernel_rfl) ?_ _
      have HBU : Hid (Below W.heap.size W u1) := HBr.out.trans (HP1.out.mono HBr.out.size)
      go_wp2
      go_roundw
      case rel => exact ⟨k + 1, by go_num, by omega, HBU.out⟩
      case measure => simp [intOf]; omega
    · have hlt' : ¬ (k : Int) < (n1 : Int) := by omega
      go_wp2
      go_ret
      exact ⟨rfl, HBr.out⟩

theorem app_dom {w : World} {s : Value} {vs : List (List Value)} {n : Nat} (hn : vs.length = n) (hv : ∀ c ∈ vs, c.length = 6) (h : w.ownsRow 0 50 6 s n vs.flatten) (ad : Addr) (cp : Nat) (c : List Value) (hc : c.length = 6) (hcells : ∀ j u, c[j]? = some u → w.cell? (ad.add j) = some u) (h1 : ∀ u ∈ c, u.oneCell' = true) (hlen : (n + 1) * 96 ≤ 140737488355328) (ty : TypeId) :
    ∃ v' w', (Builtin.append_ #[23, 23] ty #[s, .slice (some ad) 1 cp]).run Tryz.prog w = .ok v' w' ∧ w'.ownsRow 0 50 6 v' (n + 1) (vs ++ [c]).flatten ∧ w.grownBy w' s.ownBlock ∧ (∀ b, v'.ownBlock = some b → s.ownBlock = some b ∨ w.heap.size ≤ b) := by
  obtain ⟨i0, hi0, hz0, hz1, hz2⟩ := info_parts (show (Tryz.prog.info? 50).map (fun i => (i.zero, i.size, i.bytes)) = some (some (.agg #[.bool false, .slice none 0 0, .slice none 0 0, .slice none 0 0, .int .i64 0, .int .i64 0]), 6, 96) by kernel_rfl)
  obtain ⟨v', w', hr, ho, hg, _⟩ := run_append_own (P := Tryz.prog) w 0 23 ty 50 i0 _ 6 96 Tryz.underlying23 hi0 hz0 hz1 hz2 rfl (by decide) s n vs.flatten h ad 1 cp c (by omega) hcells h1 (by unfold maxLen; omega) (by omega) (Nat.zero_le _)
  refine ⟨v', w', hr, ?_, hg, ?_⟩
  · rw [List.flatten_append, List.flatten_singleton]; exact ho
  · intro b hb
    rcases h.2 with ⟨rfl, hn0⟩ | ⟨g, cap, cur, rfl, hbg, hgg, hnc, hcm, hcs, htake⟩
    · have hr2 := run_append_nil (P := Tryz.prog) w 23 ty 50 i0 _ Tryz.underlying23 hi0 hz0 ad 1 cp c (by rw [hz1]; omega) hcells (by omega) (by omega) (by rw [hz2]; omega)
      rw [hr] at hr2
      injection hr2 with e1 e2
      subst e1
      injection hb with hb
      subst hb
      exact .inr (Nat.le_refl _)
    · by_cases hroom : n + 1 ≤ cap
      · have hfit : n * i0.size + c.length ≤ cur.size := by
          rw [hz1, hc, hcs]
          have : (n + 1) * 6 ≤ cap * 6 := Nat.mul_le_mul_right _ hroom
          omega
        have hr2 := run_append_room (P := Tryz.prog) w 23 ty 50 i0 Tryz.underlying23 hi0 g n cap cur hgg ad 1 cp c (by rw [hz1]; omega) hcells h1 hroom hfit
        rw [hr] at hr2
        injection hr2 with e1 e2
        subst e1
        exact .inl hb
      · have hr2 := run_append_grow (P := Tryz.prog) w 23 ty 50 i0 _ Tryz.underlying23 hi0 hz0 ⟨g, 0, none⟩ n cap vs.flatten (by rw [hz1]; exact h.1) (h.cells (g := g) rfl) ad 1 cp c (by rw [hz1]; omega) hcells (by omega) (by omega) (growslice_fits (by omega) (by rw [hz2]; omega))
        rw [hr] at hr2
        injection hr2 with e1 e2
        subst e1
        injection hb with hb
        subst hb
        exact .inr (Nat.le_refl _)
theorem list_dom {w : World} {s : Value} {vs : List (List Value)} {n : Nat} (hn : vs.length = n) (hv : ∀ c ∈ vs, c.length = 6) (h : w.ownsRow 0 50 6 s n vs.flatten) {ops : Array Oper} {rest : List Oper} {o : Oper} {a : Act} {Q : Exit → Act → World → Prop} (hgd : o.guard = none) (so xo : Operand) (ho : o.op = .call { callee := .builtin .append, args := #[so, xo], argTypes := #[23, 23] })
    (hs : a.eval so = s) (ad : Addr) (cp : Nat) (hx : a.eval xo = .slice (some ad) 1 cp) (c : List Value) (hc : c.length = 6) (hcells : ∀ j u, c[j]? = some u → w.cell? (ad.add j) = some u) (h1 : ∀ u ∈ c, u.oneCell' = true) (hlen : (n + 1) * 96 ≤ 140737488355328)
    (hK : ∀ v' w', w'.ownsRow 0 50 6 v' (n + 1) (vs ++ [c]).flatten → w.grownBy w' s.ownBlock → (∀ b, v'.ownBlock = some b → s.ownBlock = some b ∨ w.heap.size ≤ b) → wpList Tryz.prog ops Q rest (a.put o.dst v') w') : wpList Tryz.prog ops Q (o :: rest) a w :=
  wpList_plain hgd fun _ hK' => by
    obtain ⟨v', w', hr, h2, h3, h4⟩ := app_dom hn hv h ad cp c hc hcells h1 hlen o.type
    unfold Oper.wp execOp
    simp only [ho, resolve, invoke, builtin, Sem.run_bind, Sem.run_pure, Result.andThen_ok, List.map_toArray, List.map_cons, List.map_nil, hs, hx, hr]
    exact hK' _ _ (hK v' w' h2 h3 h4)
end Go.Proofs.YthkliicmoandmaaGreatDoor
