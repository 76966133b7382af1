/-
  What is proved here: branch.Choose answers as it should where the domains lie in any memory but the draws' own block.
  What is proved here: a list of domains that is lent, in memory of its own, its numbers in no block of Z; one of its domains is written.
-/
import Derived.Test.YthkliicmoandmaaGreatDoorDjj
import Derived.Test.YthkliicmoandmaaGreatDoorDhj
import Derived.OwnWalk
namespace Go.Proofs.YthkliicmoandmaaGreatDoor
open Go.RowKit Go.Shelf
set_option linter.unusedVariables false
set_option linter.unusedSimpArgs false

/-- A list of domains in memory, in no block of X. -/
def Dsk (X : Nat → Prop) (w : World) (s : Value) (D : List MD) : Prop :=
  ∃ a c, s = .slice a D.length c ∧ (0 < D.length → ∃ b off, a = some ⟨b, off, none⟩ ∧ b < w.heap.size ∧ ¬ X b ∧ ∀ i d, D[i]? = some d → ∃ c0 c1 c2 c3 c4 c5, Dc X w [c0, c1, c2, c3, c4, c5] d ∧
    w.cell? ⟨b, off + i * 6, none⟩ = some c0 ∧ w.cell? ⟨b, off + i * 6 + 1, none⟩ = some c1 ∧ w.cell? ⟨b, off + i * 6 + 2, none⟩ = some c2 ∧ w.cell? ⟨b, off + i * 6 + 3, none⟩ = some c3 ∧ w.cell? ⟨b, off + i * 6 + 4, none⟩ = some c4 ∧ w.cell? ⟨b, off + i * 6 + 5, none⟩ = some c5)
theorem Dsk.ds {X : Nat → Prop} {w : World} {s : Value} {D : List MD} (h : Dsk X w s D) : Ds w s D := by
  obtain ⟨a, c, e, h⟩ := h
  refine ⟨a, c, e, fun h0 => ?_⟩
  obtain ⟨b, off, e1, e2, _, e3⟩ := h h0
  refine ⟨b, off, e1, e2, fun i d hd => ?_⟩
  obtain ⟨c0, c1, c2, c3, c4, c5, h1, k⟩ := e3 i d hd
  exact ⟨c0, c1, c2, c3, c4, c5, h1.weak, k⟩
theorem Dsk.kept {X : Nat → Prop} {w w' : World} {s : Value} {D : List MD} (h : Dsk X w s D) (hk : Kept X w w') : Dsk X w' s D := by
  obtain ⟨a, c, e, h⟩ := h
  refine ⟨a, c, e, fun h0 => ?_⟩
  obtain ⟨b, off, e1, e2, e4, e3⟩ := h h0
  refine ⟨b, off, e1, Nat.lt_of_lt_of_le e2 hk.size, e4, fun i d hd => ?_⟩
  obtain ⟨c0, c1, c2, c3, c4, c5, h1, k0, k1, k2, k3, k4, k5⟩ := e3 i d hd
  exact ⟨c0, c1, c2, c3, c4, c5, h1.kept hk, (hk.cell e2 e4 _).trans k0, (hk.cell e2 e4 _).trans k1, (hk.cell e2 e4 _).trans k2, (hk.cell e2 e4 _).trans k3, (hk.cell e2 e4 _).trans k4, (hk.cell e2 e4 _).trans k5⟩
theorem Dsk.at {X : Nat → Prop} {w : World} {p : Option Addr} {n k : Nat} {D : List MD} (h : Dsk X w (.slice p n k) D) {i : Nat} {d : MD} (hd : D[i]? = some d) : ∃ b off, p = some ⟨b, off, none⟩ ∧ b < w.heap.size ∧ ¬ X b ∧ D.length = n ∧ ∃ c0 c1 c2 c3 c4 c5, Dc X w [c0, c1, c2, c3, c4, c5] d ∧
    w.cell? ⟨b, off + i * 6, none⟩ = some c0 ∧ w.cell? ⟨b, off + i * 6 + 1, none⟩ = some c1 ∧ w.cell? ⟨b, off + i * 6 + 2, none⟩ = some c2 ∧ w.cell? ⟨b, off + i * 6 + 3, none⟩ = some c3 ∧ w.cell? ⟨b, off + i * 6 + 4, none⟩ = some c4 ∧ w.cell? ⟨b, off + i * 6 + 5, none⟩ = some c5 := by
  obtain ⟨a, c, e, h⟩ := h
  injection e with e1 e2 e3
  obtain ⟨b, off, h1, h2, h4, h3⟩ := h (by have := (List.getElem?_eq_some_iff.1 hd).1; omega)
  exact ⟨b, off, e1.trans h1, h2, h4, e2.symm, h3 i d hd⟩

set_option maxRecDepth 100000 in
set_option maxHeartbeats 4000000 in
theorem choose_gen0 {X : Nat → Prop} {W : World} {p1 : Option Addr} {n k1 : Nat} {p2 : Option Addr} {nd k2 : Nat} {L : List Ph} {D : List MD} {rv : Value} {R : List Int} (hP : Ps W (.slice p1 n k1) L) (hd : Dsk (DrB rv) W (.slice p2 nd k2) D) (hD : ∀ d ∈ D, Good d) (hz : SzP L D) (hr : Dw X W rv R) (hX : X W.heap.size) :
    Calls Tryz.prog 10 #[.slice p1 n k1, .slice p2 nd k2, rv] W fun e w' => e = .returned (.tuple #[.agg #[.int .i64 (chooseM L D R).1.1, .int .i64 (chooseM L D R).1.2.1, .int .i64 (chooseM L D R).1.2.2.1], .bool (chooseM L D R).1.2.2.2]) ∧ Dw X w' rv (chooseM L D R).2 ∧ Kept (DrB rv) W w' := by
  obtain ⟨N, hN⟩ : ∃ N, W.heap.size = N := ⟨_, rfl⟩
  obtain ⟨W0, hW0⟩ : ∃ Q, W.alloc (Obj.cells #[.int .i64 0, .int .i64 0, .int .i64 0] 32) = Q := ⟨_, rfl⟩
  have hb0 : Below W.heap.size W W0 := by rw [← hW0]; exact (Below.refl _ W).alloc (Nat.le_refl _) _
  have hz0 : Bx W0 N #[.int .i64 0, .int .i64 0, .int .i64 0] 32 := by rw [← hW0]; exact Bx.new' hN _ _
  have hBW0 : Kept (DrB rv) W W0 := Kept.of_below hb0
  have kn := phase_any (hP.below hb0) (hd.ds.below hb0) hD hz
  have HDR : Hid (∀ w, Below W.heap.size W w → Dw X w rv R) := fun w hb => hr.below hb
  have HDB : Hid (∀ b, DrB rv b → b < N) := fun b hb => by rw [← hN]; exact hr.lt hb
  have HZ0 : Hid (Bx W0 N #[.int .i64 0, .int .i64 0, .int .i64 0] 32) := hz0
  have HB0 : Hid (Below W.heap.size W W0) := hb0
  have HBW0 : Hid (Kept (DrB rv) W W0) := hBW0
  have HD : Hid (Dsk (DrB rv) W (.slice p2 nd k2) D) := hd
  have HG : Hid _ := hD
  have HOP : Hid (∀ v ∈ (phaseM D L).vars, openB D v = true) := phase_open D L
  have HPL : Hid ((phaseM D L).vars.length * 8 ≤ 140737488355328) := phase_len D L hz
  have HDL : Hid (D.length ≤ 9223372036854775806) := by have := hz.d; unfold Hid; omega
  have HW0 : Hid _ := hW0
  have HN : Hid (W.heap.size = N) := hN
  have HXN : Hid (X N) := by rw [← hN]; exact hX
  have HCM : Hid (chooseM L D R = if (phaseM D L).vars = [] then ((0, 0, 0, false), R) else ((((selM (phaseM D L) D R).1, (if ((D[(selM (phaseM D L) D R).1.toNat]?).getD ⟨false, [], [], [], 0, 0⟩).set then elemA (phaseM D L).val (freeL ((D[(selM (phaseM D L) D R).1.toNat]?).getD ⟨false, [], [], [], 0, 0⟩)) (selM (phaseM D L) D R).2 else numA (phaseM D L).val ((D[(selM (phaseM D L) D R).1.toNat]?).getD ⟨false, [], [], [], 0, 0⟩).r (selM (phaseM D L) D R).2).1.1, (if ((D[(selM (phaseM D L) D R).1.toNat]?).getD ⟨false, [], [], [], 0, 0⟩).set then elemA (phaseM D L).val (freeL ((D[(selM (phaseM D L) D R).1.toNat]?).getD ⟨false, [], [], [], 0, 0⟩)) (selM (phaseM D L) D R).2 else numA (phaseM D L).val ((D[(selM (phaseM D L) D R).1.toNat]?).getD ⟨false, [], [], [], 0, 0⟩).r (selM (phaseM D L) D R).2).1.2, true)), (if ((D[(selM (phaseM D L) D R).1.toNat]?).getD ⟨false, [], [], [], 0, 0⟩).set then elemA (phaseM D L).val (freeL ((D[(selM (phaseM D L) D R).1.toNat]?).getD ⟨false, [], [], [], 0, 0⟩)) (selM (phaseM D L) D R).2 else numA (phaseM D L).val ((D[(selM (phaseM D L) D R).1.toNat]?).getD ⟨false, [], [], [], 0, 0⟩).r (selM (phaseM D L) D R).2).2)) := rfl
  generalize chooseM L D R = CM at *
  obtain ⟨ra', hra⟩ := hr.ptr
  generalize phaseM D L = P at *
  obtain ⟨l, sel, val⟩ := P
  dsimp only at kn HOP HPL HCM
  have HWA : Hid (∀ (w : World) (pv : Option Addr) (nl kv : Nat), l ≠ [] → Kept (DrB rv) W w → Dw X w rv R → Nm (DrB rv) w (.slice pv nl kv) l → Calls Tryz.prog 39 #[.agg #[.slice pv nl kv, .int .i64 sel, .int .i64 val], .slice p2 nd k2, rv] w fun e w' => e = .returned (.int .i64 (selM ⟨l, sel, val⟩ D R).1) ∧ Dw X w' rv (selM ⟨l, sel, val⟩ D R).2 ∧ Kept (DrB rv) w w') := fun w pv nl kv hne hb hdw hnm => which_all (p := ⟨l, sel, val⟩) hnm (HD.out.kept hb).ds HG.out HOP.out hne (by have := HPL.out; show l.length ≤ _; omega) HDL.out hdw
  have HSI : Hid (l ≠ [] → ∃ (vn : Nat) (d : MD), (selM ⟨l, sel, val⟩ D R).1 = (vn : Int) ∧ D[vn]? = some d ∧ sevB d = true ∧ vn < D.length) := fun hne => openB_dom (HOP.out _ (sel_in (p := ⟨l, sel, val⟩) D R hne))
  clear hW0 hb0 hz0 hBW0 hP hd hD hz hr hX
  subst hra
  go_enter Tryz.func10, Tryz.ntmps10
  go_upto_region 1 with (fail)
  rw [HW0.out]
  clear hN
  go_wp2_with fail
  refine kn.mono ?_
  clear kn
  rintro e w1 ⟨v, rfl, hoi, hb1⟩
  obtain ⟨va, vc, rfl⟩ := hoi.shape
  obtain ⟨on, hon⟩ : ∃ q, l.length = q := ⟨_, rfl⟩
  rw [hon] at hoi ⊢
  obtain ⟨M, hM⟩ : ∃ q, w1.heap.size = q := ⟨_, rfl⟩
  obtain ⟨w1a, hw1a⟩ : ∃ Q, w1.alloc (Obj.cells #[.slice va on vc, .int .i64 sel, .int .i64 val] 71) = Q := ⟨_, rfl⟩
  have hp1 : Bx w1a M #[.slice va on vc, .int .i64 sel, .int .i64 val] 71 := by rw [← hw1a]; exact Bx.new' hM _ _
  have hba : Below w1.heap.size w1 w1a := by rw [← hw1a]; exact (Below.refl _ _).alloc (Nat.le_refl _) _
  have h1a : Below W0.heap.size W0 w1a := hb1.trans (hba.mono hb1.size)
  have HBA : Hid (Below W.heap.size W w1a) := HB0.out.trans (h1a.mono HB0.out.size)
  have HBB : Hid (Kept (DrB (.pointer ra')) W w1a) := Kept.of_below HBA.out
  have HNM : Hid (Nm (DrB (.pointer ra')) w1a (.slice va on vc) l) := (oi_nm hoi (fun b hb => by have := HDB.out b hb; have := HB0.out.size; have := HN.out; omega)).kept (Kept.of_below hba)
  have HZ1 : Hid (Bx w1a N #[.int .i64 0, .int .i64 0, .int .i64 0] 32) := HZ0.out.below h1a
  have HP1 : Hid (Bx w1a M #[.slice va on vc, .int .i64 sel, .int .i64 val] 71) := hp1
  have HMN : Hid (N < M) := by have := (HZ0.out.below hb1).lt; unfold Hid; omega
  have HW1 : Hid _ := hw1a
  have HON : Hid (l.length = on) := hon
  obtain ⟨y0, y1, y2⟩ := hp1.three
  clear hw1a hba h1a hp1 hoi hb1 hon
  by_cases hne : l = []
  · have hon0 : on = 0 := by rw [← HON.out, hne]; rfl
    subst hon0
    have HC2 : Hid (CM = ((0, 0, 0, false), R)) := by unfold Hid; rw [HCM.out, if_pos hne]
    have f0 := HZ1.out.fr 0
    have f1 := HZ1.out.fr 1
    have f2 := HZ1.out.fr 2
    obtain ⟨x0, x1, x2⟩ := HZ1.out.three
    have HZX := HZ1.out.set3 (.int .i64 0) (.int .i64 0) (.int .i64 0)
    go_upto_region 2 with (fail)
    rw [HW1.out]
    clear hM
    go_wp2
    have hbN : Below W.heap.size W (((w1a.setCell ⟨N, 0, none⟩ (.int .i64 0)).setCell ⟨N, 1, none⟩ (.int .i64 0)).setCell ⟨N, 2, none⟩ (.int .i64 0)) := by rw [HN.out]; have := HBA.out; rw [HN.out] at this; exact ((this.setCell (p := ⟨N, 0, none⟩) (Nat.le_refl _) _).setCell (p := ⟨N, 1, none⟩) (Nat.le_refl _) _).setCell (p := ⟨N, 2, none⟩) (Nat.le_refl _) _
    refine ⟨rfl, _, res_ct rfl _ HZX (by with_unfolding_all rfl) rfl Tryz.underlying32 (by kernel_rfl) (v := .bool false) (by with_unfolding_all rfl), ?_, ?_, ?_⟩
    · rw [HC2.out]
    · rw [HC2.out]; exact HDR.out _ hbN
    · exact Kept.of_below hbN
  · have hon0 : ((on : Int) == 0) = false := by
      have : 0 < l.length := List.length_pos_iff.2 hne
      rw [HON.out] at this
      simp; omega
    have hon1 : ¬ (on : Int) = 0 := by simpa using hon0
    obtain ⟨vn, d, hvn, hdd, hsev, hvl⟩ := HSI.out hne
    have kw := HWA.out w1a va on vc hne HBB.out (HDR.out _ HBA.out) HNM.out
    rw [hvn] at kw
    have HCC : Hid (CM = ((((vn : Int), (if d.set then elemA val (freeL d) (selM ⟨l, sel, val⟩ D R).2 else numA val d.r (selM ⟨l, sel, val⟩ D R).2).1.1, (if d.set then elemA val (freeL d) (selM ⟨l, sel, val⟩ D R).2 else numA val d.r (selM ⟨l, sel, val⟩ D R).2).1.2, true)), (if d.set then elemA val (freeL d) (selM ⟨l, sel, val⟩ D R).2 else numA val d.r (selM ⟨l, sel, val⟩ D R).2).2)) := by
      unfold Hid
      rw [HCM.out, if_neg hne, hvn]
      simp only [Int.toNat_natCast, hdd, Option.getD_some]
    generalize (selM ⟨l, sel, val⟩ D R).2 = R1 at *
    have HSV : Hid (sevB d = true) := hsev
    have HDD : Hid (D[vn]? = some d) := hdd
    have hDn : D.length = nd := by obtain ⟨a, c, e, _⟩ := HD.out; injection e with _ e2 _; exact e2.symm
    have hvl' : vn < nd := by omega
    have hvi : (vn : Int) < (nd : Int) := by omega
    clear hvn hdd hsev hvl HCM HWA HSI hDn
    go_upto_region 2 with (fail)
    rw [HW1.out]
    clear hM
    go_wp2_with fail
    refine kw.mono ?_
    clear kw y0 y1 y2
    rintro e w2 ⟨rfl, hd2, hk2⟩
    have HK2 : Hid (Kept (DrB (.pointer ra')) w1a w2) := hk2
    have HD2 : Hid (Dw X w2 (.pointer ra') R1) := hd2
    have HNX : Hid (¬ DrB (.pointer ra') N ∧ ¬ DrB (.pointer ra') M) := ⟨fun h => by have := HDB.out N h; omega, fun h => by have := HDB.out M h; have := HMN.out; omega⟩
    have HZ2 : Hid (Bx w2 N #[.int .i64 0, .int .i64 0, .int .i64 0] 32) := HZ1.out.kept hk2 (fun e => HNX.out.1 e) |> fun h => h
    have HP2 : Hid (Bx w2 M #[.slice va on vc, .int .i64 sel, .int .i64 val] 71) := HP1.out.kept hk2 (fun e => HNX.out.2 e) |> fun h => h
    have HB2 : Hid (Kept (DrB (.pointer ra')) W w2) := HBB.out.trans hk2 (Up.refl _ _)
    obtain ⟨b2, off2, hp2, hb2l, hnX2, _, c0, c1, c2, c3, c4, c5, hDc0, i0, i1, i2, i3, i4, i5⟩ := HD.out.at HDD.out
    have hDcB : Dc (DrB (.pointer ra')) W [c0, c1, c2, c3, c4, c5] d := hDc0
    obtain ⟨bo, ra, n0, rc, a1, n1, cc1, a2, n2, cc2, x, y, hcs, HE, H1, _, _⟩ := hDcB.look
    injection hcs with e0 hcs
    injection hcs with e1 hcs
    injection hcs with e2 hcs
    injection hcs with e3 hcs
    injection hcs with e4 hcs
    injection hcs with e5 hcs
    subst e0 e1 e2 e3 e4 e5 hp2
    have hset : d.set = bo := HE.out.1
    have HCE : Hid (∀ w, Kept (DrB (.pointer ra')) W w → w.cell? ⟨b2, off2 + vn * 6, none⟩ = some (.bool bo) ∧ w.cell? ⟨b2, off2 + vn * 6 + 1, none⟩ = some (.slice ra n0 rc) ∧ w.cell? ⟨b2, off2 + vn * 6 + 2, none⟩ = some (.slice a1 n1 cc1) ∧ w.cell? ⟨b2, off2 + vn * 6 + 3, none⟩ = some (.slice a2 n2 cc2) ∧ w.cell? ⟨b2, off2 + vn * 6 + 4, none⟩ = some (.int .i64 x) ∧ w.cell? ⟨b2, off2 + vn * 6 + 5, none⟩ = some (.int .i64 y)) := fun w hb => ⟨(hb.cell hb2l hnX2 _).trans i0, (hb.cell hb2l hnX2 _).trans i1, (hb.cell hb2l hnX2 _).trans i2, (hb.cell hb2l hnX2 _).trans i3, (hb.cell hb2l hnX2 _).trans i4, (hb.cell hb2l hnX2 _).trans i5⟩
    have HDCB : Hid (∀ w, Kept (DrB (.pointer ra')) W w → Dc (DrB (.pointer ra')) w [.bool bo, .slice ra n0 rc, .slice a1 n1 cc1, .slice a2 n2 cc2, .int .i64 x, .int .i64 y] d) := fun w hb => hDcB.kept hb
    obtain ⟨g0, g1, g2, g3, g4, g5⟩ := HCE.out w2 HB2.out
    have HRM : Hid (∀ w, Kept (DrB (.pointer ra')) W w → Rm (DrB (.pointer ra')) w (.slice ra n0 rc) d.r) := fun w hb => H1.out.kept hb
    have HBd : Hid (Kept (DrB (.pointer ra')) W w2.drew) := HB2.out.then_below (Below.refl _ _).drew
    have HDd : Hid (Dw X w2.drew (.pointer ra') R1) := HD2.out.below (Below.refl _ _).drew
    have HFS : Hid (∀ w, Kept (DrB (.pointer ra')) w2.drew w → w.cell? ⟨M, 2, none⟩ = some (.int .i64 val) ∧ Bx w N #[.int .i64 0, .int .i64 0, .int .i64 0] 32 ∧ Kept (DrB (.pointer ra')) W w) := fun w hk => ⟨(hk.cell HP2.out.lt HNX.out.2 2).trans (HP2.out.cell 2), ⟨(hk.block N HZ2.out.lt HNX.out.1).trans HZ2.out.h⟩, HBd.out.trans hk (Up.refl _ _)⟩
    have HKW : Hid (Kept (DrB (.pointer ra')) W w2.drew) := ((Kept.of_below HBA.out).trans HK2.out (Up.refl _ _)).then_below (Below.refl _ _).drew
    have HKd : Hid (Kept (DrB (.pointer ra')) w2.drew w2.drew) := Kept.refl _ _
    have HF0 := HFS.out _ HKd.out
    have HSS : Hid (d.set = bo) := hset
    have HFIN : Hid (∀ (w3 : World) (q1 q2 : Int), Kept (DrB (.pointer ra')) w2.drew w3 → Bx w3 N #[.int .i64 0, .int .i64 0, .int .i64 0] 32 → Kept (DrB (.pointer ra')) W (((w3.setCell ⟨N, 0, none⟩ (.int .i64 (vn : Int))).setCell ⟨N, 1, none⟩ (.int .i64 q1)).setCell ⟨N, 2, none⟩ (.int .i64 q2)) ∧ ∀ R' : List Int, Dw X w3 (.pointer ra') R' → Dw X (((w3.setCell ⟨N, 0, none⟩ (.int .i64 (vn : Int))).setCell ⟨N, 1, none⟩ (.int .i64 q1)).setCell ⟨N, 2, none⟩ (.int .i64 q2)) (.pointer ra') R') := by
      intro w3 q1 q2 hk hz
      have hkW := HKW.out.trans hk (Up.refl _ _)
      have hNN : W.heap.size ≤ N := by rw [HN.out]; exact Nat.le_refl _
      refine ⟨⟨hkW.os, hkW.tape, hkW.output, ?_, fun b hb hX => ?_⟩, fun R' hdw => ?_⟩
      · simp only [World.size_setCell]; exact hkW.size
      · have hbN : b ≠ N := by omega
        exact (Below.heap_setCell _ _ _ b hbN).trans ((Below.heap_setCell _ _ _ b hbN).trans ((Below.heap_setCell _ _ _ b hbN).trans (hkW.block b hb hX)))
      · exact hdw.set3 HXN.out HNX.out.1
    clear hDcB hDc0 i0 i1 i2 i3 i4 i5 hk2 hd2 hset HF0 hon0
    have FS : Hid (∀ w, Kept (DrB (.pointer ra')) w2.drew w → w.cell? ⟨M, 2, none⟩ = some (.int .i64 val) ∧ Kept (DrB (.pointer ra')) W w) := fun w hk => ⟨(HFS.out w hk).1, (HFS.out w hk).2.2⟩
    cases bo
    · obtain ⟨hr1, hr2⟩ := sev_num HSV.out HSS.out
      have hsb : 1 ≤ Dm.sizeR (Dm.tk d.r) ∧ Dm.sizeR (Dm.tk d.r) ≤ 4611686018427387904 := by
        have q := siz_bounds d
        unfold sizA at q
        rw [if_neg (by rw [HSS.out]; decide)] at q
        refine ⟨?_, q.2⟩
        rw [Dm.tk_yes hr2]
        have ho := (Dm.right_ord hr2).1
        rw [Dm.sizeR_vals ho.1]
        have hm : Dm.lo d.r 0 ∈ Dm.vals d.r := (Dm.mem_vals' _ _).2 ⟨d.r[0], List.getElem_mem hr1, by unfold Dm.lo; rw [List.getElem?_eq_getElem hr1]; exact Int.le_refl _, by have := ho.1 _ (List.getElem_mem hr1); unfold Dm.lo; rw [List.getElem?_eq_getElem hr1]; exact this⟩
        have := List.length_pos_of_mem hm
        omega
      have HCF : Hid (CM = (((vn : Int), (numA val d.r R1).1.1, (numA val d.r R1).1.2, true), (numA val d.r R1).2)) := by unfold Hid; rw [HCC.out]; simp only [HSS.out, Bool.false_eq_true, if_false]
      have HKN : Hid (Calls Tryz.prog 41 #[.int .i64 val, .slice ra n0 rc, .pointer ra'] w2.drew fun e w' => e = .returned (.tuple #[.int .i64 (numA val d.r R1).1.1, .int .i64 (numA val d.r R1).1.2]) ∧ Dw X w' (.pointer ra') (numA val d.r R1).2 ∧ Kept (DrB (.pointer ra')) w2.drew w') := number_all val (HRM.out _ HBd.out) hr2 hr1 HDd.out hsb.1 hsb.2
      generalize (numA val d.r R1).1.1 = q1 at *
      generalize (numA val d.r R1).1.2 = q2 at *
      generalize (numA val d.r R1).2 = R2 at *
      clear hsb hr1 hr2 HCC
      go_upto_region 8 with (fail)
      refine wp_region_held_drew (S := fun X : World => X.cell? ⟨M, 2, none⟩ = some (.int .i64 val) ∧ Kept (DrB (.pointer ra')) W X) (by kernel_rfl) (FS.out _ HKd.out) (fun hHeld => ?_)
      refine wpAnyH_take (i := 0) (oi := { dst := some 47, op := Go.Op.fieldAddr 71 (Go.Operand.tmp 8) 2, type := 0, pos := "choose.go:66", after := #[], guard := none }) (v := ?_) rfl (by kernel_rfl) (by kernel_rfl) (by kernel_rfl) (fun _ _ _ h => h) (Or.inl ⟨by rfl, ?_⟩) hHeld ?_
      rotate_left
      · intro w hSw; (try dsimp only at hSw); go_simp <;> with_reducible rfl
      try simp only [Act.put, List.setIfInBounds_toArray, List.set_cons_zero, List.set_cons_succ]
      refine wpAnyH_take (i := 1) (oi := { dst := some 48, op := Go.Op.load 3 (Go.Operand.tmp 47), type := 3, pos := "choose.go:66", after := #[{ on := 0, ground := Go.Ground.data }], guard := none }) (v := ?_) rfl (by kernel_rfl) (by kernel_rfl) (by kernel_rfl) (fun _ _ _ h => h) (Or.inl ⟨by rfl, ?_⟩) hHeld ?_
      rotate_left
      · intro w hSw; obtain ⟨hC, hBB⟩ := hSw; go_simp <;> with_reducible rfl
      try simp only [Act.put, List.setIfInBounds_toArray, List.set_cons_zero, List.set_cons_succ]
      refine wpAnyH_take (i := 2) (oi := { dst := some 49, op := Go.Op.move (Go.Operand.tmp 1), type := 23, pos := "choose.go:66", after := #[], guard := none }) (v := ?_) rfl (by kernel_rfl) (by kernel_rfl) (by kernel_rfl) (fun _ _ _ h => h) (Or.inl ⟨by rfl, ?_⟩) hHeld ?_
      rotate_left
      · intro w hSw; (try dsimp only at hSw); go_simp <;> with_reducible rfl
      try simp only [Act.put, List.setIfInBounds_toArray, List.set_cons_zero, List.set_cons_succ]
      refine wpAnyH_take (i := 3) (oi := { dst := some 50, op := Go.Op.move (Go.Operand.tmp 9), type := 3, pos := "choose.go:66", after := #[], guard := none }) (v := ?_) rfl (by kernel_rfl) (by kernel_rfl) (by kernel_rfl) (fun _ _ _ h => h) (Or.inl ⟨by rfl, ?_⟩) hHeld ?_
      rotate_left
      · intro w hSw; (try dsimp only at hSw); go_simp <;> with_reducible rfl
      try simp only [Act.put, List.setIfInBounds_toArray, List.set_cons_zero, List.set_cons_succ]
      refine wpAnyH_take (i := 4) (oi := { dst := some 51, op := Go.Op.indexAddr 23 (Go.Operand.tmp 49) (Go.Operand.tmp 50), type := 0, pos := "choose.go:66", after := #[{ on := 2, ground := Go.Ground.data }, { on := 3, ground := Go.Ground.data }], guard := none }) (v := ?_) rfl (by kernel_rfl) (by kernel_rfl) (by kernel_rfl) (fun _ _ _ h => h) (Or.inl ⟨by rfl, ?_⟩) hHeld ?_
      rotate_left
      · intro w hSw; (try dsimp only at hSw); go_simp <;> with_reducible rfl
      try simp only [Act.put, List.setIfInBounds_toArray, List.set_cons_zero, List.set_cons_succ]
      refine wpAnyH_take (i := 5) (oi := { dst := some 52, op := Go.Op.fieldAddr 50 (Go.Operand.tmp 51) 1, type := 0, pos := "choose.go:66", after := #[{ on := 4, ground := Go.Ground.data }], guard := none }) (v := ?_) rfl (by kernel_rfl) (by kernel_rfl) (by kernel_rfl) (fun _ _ _ h => h) (Or.inl ⟨by rfl, ?_⟩) hHeld ?_
      rotate_left
      · intro w hSw; (try dsimp only at hSw); go_simp <;> with_reducible rfl
      try simp only [Act.put, List.setIfInBounds_toArray, List.set_cons_zero, List.set_cons_succ]
      refine wpAnyH_take (i := 6) (oi := { dst := some 53, op := Go.Op.load 47 (Go.Operand.tmp 52), type := 47, pos := "choose.go:66", after := #[{ on := 5, ground := Go.Ground.data }], guard := none }) (v := ?_) rfl (by kernel_rfl) (by kernel_rfl) (by kernel_rfl) (fun _ _ _ h => h) (Or.inl ⟨by rfl, ?_⟩) hHeld ?_
      rotate_left
      · intro w hSw; obtain ⟨hC, hBB⟩ := hSw; obtain ⟨y0, y1, y2, y3, y4, y5⟩ := HCE.out _ hBB; go_simp <;> with_reducible rfl
      try simp only [Act.put, List.setIfInBounds_toArray, List.set_cons_zero, List.set_cons_succ]
      refine wpAnyH_take (i := 7) (oi := { dst := some 54, op := Go.Op.move (Go.Operand.tmp 2), type := 26, pos := "choose.go:66", after := #[], guard := none }) (v := ?_) rfl (by kernel_rfl) (by kernel_rfl) (by kernel_rfl) (fun _ _ _ h => h) (Or.inl ⟨by rfl, ?_⟩) hHeld ?_
      rotate_left
      · intro w hSw; (try dsimp only at hSw); go_simp <;> with_reducible rfl
      try simp only [Act.put, List.setIfInBounds_toArray, List.set_cons_zero, List.set_cons_succ]
      refine wpAnyH_ready (rs := [8]) (by kernel_rfl) (by simp) ?_
      refine AllReadyH.cons rfl (fun K hK => ?_) AllReadyH.nil
      go_simp
      refine Calls.mono HKN.out ?_
      rintro e w3 ⟨rfl, hd3, hk3⟩
      have HD3 : Hid (Dw X w3 (.pointer ra') R2) := hd3
      have HK3 : Hid (Kept (DrB (.pointer ra')) w2.drew w3) := hk3
      clear hd3 hk3
      refine hK.out _ _ (FS.out _ HK3.out) (fun hHeld2 => ?_)
      clear hK K hHeld
      have hHeld := hHeld2
      clear hHeld2
      try simp only [Act.put, List.setIfInBounds_toArray, List.set_cons_zero, List.set_cons_succ]
      refine wpAnyH_take (i := 9) (oi := { dst := some 46, op := Go.Op.move (Go.Operand.tmp 55), type := 82, pos := "choose.go:66", after := #[{ on := 8, ground := Go.Ground.data }], guard := none }) (v := ?_) rfl (by kernel_rfl) (by kernel_rfl) (by kernel_rfl) (fun _ _ _ h => h) (Or.inl ⟨by rfl, ?_⟩) hHeld ?_
      rotate_left
      · intro w hSw; (try dsimp only at hSw); go_simp <;> with_reducible rfl
      try simp only [Act.put, List.setIfInBounds_toArray, List.set_cons_zero, List.set_cons_succ]
      refine wpAnyH_take (i := 10) (oi := { dst := some 56, op := Go.Op.extract (Go.Operand.tmp 46) 0, type := 3, pos := "choose.go:66", after := #[{ on := 9, ground := Go.Ground.data }], guard := none }) (v := ?_) rfl (by kernel_rfl) (by kernel_rfl) (by kernel_rfl) (fun _ _ _ h => h) (Or.inl ⟨by rfl, ?_⟩) hHeld ?_
      rotate_left
      · intro w hSw; (try dsimp only at hSw); go_simp <;> with_reducible rfl
      try simp only [Act.put, List.setIfInBounds_toArray, List.set_cons_zero, List.set_cons_succ]
      refine wpAnyH_take (i := 11) (oi := { dst := some 57, op := Go.Op.extract (Go.Operand.tmp 46) 1, type := 2, pos := "choose.go:66", after := #[{ on := 9, ground := Go.Ground.data }, { on := 12, ground := Go.Ground.gcOnly Go.Departure.lateStores }], guard := none }) (v := ?_) rfl (by kernel_rfl) (by kernel_rfl) (by kernel_rfl) (fun _ _ _ h => h) (Or.inl ⟨by rfl, ?_⟩) hHeld ?_
      rotate_left
      · intro w hSw; (try dsimp only at hSw); go_simp <;> with_reducible rfl
      try simp only [Act.put, List.setIfInBounds_toArray, List.set_cons_zero, List.set_cons_succ]
      refine wpAnyH_take (i := 12) (oi := { dst := some 12, op := Go.Op.assign (Go.Operand.tmp 56), type := 3, pos := "choose.go:66", after := #[{ on := 10, ground := Go.Ground.data }, { on := 8, ground := Go.Ground.chain }, { on := 0, ground := Go.Ground.phase }, { on := 1, ground := Go.Ground.phase }, { on := 2, ground := Go.Ground.phase }, { on := 3, ground := Go.Ground.phase }, { on := 4, ground := Go.Ground.phase }, { on := 5, ground := Go.Ground.phase }, { on := 6, ground := Go.Ground.phase }, { on := 7, ground := Go.Ground.phase }, { on := 8, ground := Go.Ground.phase }, { on := 9, ground := Go.Ground.phase }, { on := 10, ground := Go.Ground.phase }, { on := 11, ground := Go.Ground.textOnly Go.Departure.lateStores }], guard := none }) (v := ?_) rfl (by kernel_rfl) (by kernel_rfl) (by kernel_rfl) (fun _ _ _ h => h) (Or.inl ⟨by rfl, ?_⟩) hHeld ?_
      rotate_left
      · intro w hSw; (try dsimp only at hSw); go_simp <;> with_reducible rfl
      try simp only [Act.put, List.setIfInBounds_toArray, List.set_cons_zero, List.set_cons_succ]
      refine wpAnyH_take (i := 13) (oi := { dst := some 13, op := Go.Op.assign (Go.Operand.tmp 57), type := 2, pos := "choose.go:66", after := #[{ on := 11, ground := Go.Ground.data }, { on := 12, ground := Go.Ground.chain }, { on := 0, ground := Go.Ground.phase }, { on := 1, ground := Go.Ground.phase }, { on := 2, ground := Go.Ground.phase }, { on := 3, ground := Go.Ground.phase }, { on := 4, ground := Go.Ground.phase }, { on := 5, ground := Go.Ground.phase }, { on := 6, ground := Go.Ground.phase }, { on := 7, ground := Go.Ground.phase }, { on := 8, ground := Go.Ground.phase }, { on := 9, ground := Go.Ground.phase }, { on := 10, ground := Go.Ground.phase }, { on := 11, ground := Go.Ground.phase }, { on := 12, ground := Go.Ground.phase }], guard := none }) (v := ?_) rfl (by kernel_rfl) (by kernel_rfl) (by kernel_rfl) (fun _ _ _ h => h) (Or.inl ⟨by rfl, ?_⟩) hHeld ?_
      rotate_left
      · intro w hSw; (try dsimp only at hSw); go_simp <;> with_reducible rfl
      try simp only [Act.put, List.setIfInBounds_toArray, List.set_cons_zero, List.set_cons_succ]
      refine wpAnyH_done (by kernel_rfl) ?_ _
      have HZ3 : Hid (Bx w3 N #[.int .i64 0, .int .i64 0, .int .i64 0] 32) := (HFS.out _ HK3.out).2.1
      obtain ⟨x0, x1, x2⟩ := HZ3.out.three
      have f0 := HZ3.out.fr 0
      have f1 := HZ3.out.fr 1
      have f2 := HZ3.out.fr 2
      have HZX := HZ3.out.set3 (.int .i64 (vn : Int)) (.int .i64 q1) (.int .i64 q2)
      have HFF := HFIN.out w3 q1 q2 HK3.out HZ3.out
      have HFF2 : Hid _ := HFF
      clear HFF
      go_wp2
      refine ⟨rfl, _, res_ct rfl _ HZX (by with_unfolding_all rfl) rfl Tryz.underlying32 (by kernel_rfl) (v := .bool true) (by with_unfolding_all rfl), ?_, ?_, ?_⟩
      · rw [HCF.out]
      · rw [HCF.out]; exact HFF2.out.2 _ HD3.out
      · exact HFF2.out.1
    · obtain ⟨hf1, hf2⟩ := free_pos HSV.out HSS.out
      have HCF : Hid (CM = (((vn : Int), (elemA val (freeL d) R1).1.1, (elemA val (freeL d) R1).1.2, true), (elemA val (freeL d) R1).2)) := by unfold Hid; rw [HCC.out]; simp only [HSS.out, if_true]
      have HKN : Hid (Calls Tryz.prog 40 #[.int .i64 val, .agg #[.bool true, .slice ra n0 rc, .slice a1 n1 cc1, .slice a2 n2 cc2, .int .i64 x, .int .i64 y], .pointer ra'] w2.drew fun e w' => e = .returned (.tuple #[.int .i64 (elemA val (freeL d) R1).1.1, .int .i64 (elemA val (freeL d) R1).1.2]) ∧ Dw X w' (.pointer ra') (elemA val (freeL d) R1).2 ∧ Kept (DrB (.pointer ra')) w2.drew w') := element_any val (HDCB.out _ HBd.out) HSS.out hf1 hf2 HDd.out
      generalize (elemA val (freeL d) R1).1.1 = q1 at *
      generalize (elemA val (freeL d) R1).1.2 = q2 at *
      generalize (elemA val (freeL d) R1).2 = R2 at *
      clear hf1 hf2 HCC
      go_upto_region 6 with (fail)
      refine wp_region_held_drew (S := fun X : World => X.cell? ⟨M, 2, none⟩ = some (.int .i64 val) ∧ Kept (DrB (.pointer ra')) W X) (by kernel_rfl) (FS.out _ HKd.out) (fun hHeld => ?_)
      refine wpAnyH_take (i := 0) (oi := { dst := some 32, op := Go.Op.fieldAddr 71 (Go.Operand.tmp 8) 2, type := 0, pos := "choose.go:63", after := #[], guard := none }) (v := ?_) rfl (by kernel_rfl) (by kernel_rfl) (by kernel_rfl) (fun _ _ _ h => h) (Or.inl ⟨by rfl, ?_⟩) hHeld ?_
      rotate_left
      · intro w hSw; (try dsimp only at hSw); go_simp <;> with_reducible rfl
      try simp only [Act.put, List.setIfInBounds_toArray, List.set_cons_zero, List.set_cons_succ]
      refine wpAnyH_take (i := 1) (oi := { dst := some 33, op := Go.Op.load 3 (Go.Operand.tmp 32), type := 3, pos := "choose.go:63", after := #[{ on := 0, ground := Go.Ground.data }], guard := none }) (v := ?_) rfl (by kernel_rfl) (by kernel_rfl) (by kernel_rfl) (fun _ _ _ h => h) (Or.inl ⟨by rfl, ?_⟩) hHeld ?_
      rotate_left
      · intro w hSw; obtain ⟨hC, hBB⟩ := hSw; go_simp <;> with_reducible rfl
      try simp only [Act.put, List.setIfInBounds_toArray, List.set_cons_zero, List.set_cons_succ]
      refine wpAnyH_take (i := 2) (oi := { dst := some 34, op := Go.Op.move (Go.Operand.tmp 1), type := 23, pos := "choose.go:63", after := #[], guard := none }) (v := ?_) rfl (by kernel_rfl) (by kernel_rfl) (by kernel_rfl) (fun _ _ _ h => h) (Or.inl ⟨by rfl, ?_⟩) hHeld ?_
      rotate_left
      · intro w hSw; (try dsimp only at hSw); go_simp <;> with_reducible rfl
      try simp only [Act.put, List.setIfInBounds_toArray, List.set_cons_zero, List.set_cons_succ]
      refine wpAnyH_take (i := 3) (oi := { dst := some 35, op := Go.Op.move (Go.Operand.tmp 9), type := 3, pos := "choose.go:63", after := #[], guard := none }) (v := ?_) rfl (by kernel_rfl) (by kernel_rfl) (by kernel_rfl) (fun _ _ _ h => h) (Or.inl ⟨by rfl, ?_⟩) hHeld ?_
      rotate_left
      · intro w hSw; (try dsimp only at hSw); go_simp <;> with_reducible rfl
      try simp only [Act.put, List.setIfInBounds_toArray, List.set_cons_zero, List.set_cons_succ]
      refine wpAnyH_take (i := 4) (oi := { dst := some 36, op := Go.Op.indexAddr 23 (Go.Operand.tmp 34) (Go.Operand.tmp 35), type := 0, pos := "choose.go:63", after := #[{ on := 2, ground := Go.Ground.data }, { on := 3, ground := Go.Ground.data }], guard := none }) (v := ?_) rfl (by kernel_rfl) (by kernel_rfl) (by kernel_rfl) (fun _ _ _ h => h) (Or.inl ⟨by rfl, ?_⟩) hHeld ?_
      rotate_left
      · intro w hSw; (try dsimp only at hSw); go_simp <;> with_reducible rfl
      try simp only [Act.put, List.setIfInBounds_toArray, List.set_cons_zero, List.set_cons_succ]
      refine wpAnyH_take (i := 5) (oi := { dst := some 37, op := Go.Op.load 50 (Go.Operand.tmp 36), type := 50, pos := "choose.go:63", after := #[{ on := 4, ground := Go.Ground.data }], guard := none }) (v := ?_) rfl (by kernel_rfl) (by kernel_rfl) (by kernel_rfl) (fun _ _ _ h => h) (Or.inl ⟨by rfl, ?_⟩) hHeld ?_
      rotate_left
      · intro w hSw; obtain ⟨hC, hBB⟩ := hSw; obtain ⟨y0, y1, y2, y3, y4, y5⟩ := HCE.out _ hBB; go_simp <;> with_reducible rfl
      try simp only [Act.put, List.setIfInBounds_toArray, List.set_cons_zero, List.set_cons_succ]
      refine wpAnyH_take (i := 6) (oi := { dst := some 38, op := Go.Op.move (Go.Operand.tmp 2), type := 26, pos := "choose.go:63", after := #[], guard := none }) (v := ?_) rfl (by kernel_rfl) (by kernel_rfl) (by kernel_rfl) (fun _ _ _ h => h) (Or.inl ⟨by rfl, ?_⟩) hHeld ?_
      rotate_left
      · intro w hSw; (try dsimp only at hSw); go_simp <;> with_reducible rfl
      try simp only [Act.put, List.setIfInBounds_toArray, List.set_cons_zero, List.set_cons_succ]
      refine wpAnyH_ready (rs := [7]) (by kernel_rfl) (by simp) ?_
      refine AllReadyH.cons rfl (fun K hK => ?_) AllReadyH.nil
      go_simp
      refine Calls.mono HKN.out ?_
      rintro e w3 ⟨rfl, hd3, hk3⟩
      have HD3 : Hid (Dw X w3 (.pointer ra') R2) := hd3
      have HK3 : Hid (Kept (DrB (.pointer ra')) w2.drew w3) := hk3
      clear hd3 hk3
      refine hK.out _ _ (FS.out _ HK3.out) (fun hHeld2 => ?_)
      clear hK K hHeld
      have hHeld := hHeld2
      clear hHeld2
      try simp only [Act.put, List.setIfInBounds_toArray, List.set_cons_zero, List.set_cons_succ]
      refine wpAnyH_take (i := 8) (oi := { dst := some 31, op := Go.Op.move (Go.Operand.tmp 39), type := 82, pos := "choose.go:63", after := #[{ on := 7, ground := Go.Ground.data }], guard := none }) (v := ?_) rfl (by kernel_rfl) (by kernel_rfl) (by kernel_rfl) (fun _ _ _ h => h) (Or.inl ⟨by rfl, ?_⟩) hHeld ?_
      rotate_left
      · intro w hSw; (try dsimp only at hSw); go_simp <;> with_reducible rfl
      try simp only [Act.put, List.setIfInBounds_toArray, List.set_cons_zero, List.set_cons_succ]
      refine wpAnyH_take (i := 9) (oi := { dst := some 40, op := Go.Op.extract (Go.Operand.tmp 31) 0, type := 3, pos := "choose.go:63", after := #[{ on := 8, ground := Go.Ground.data }], guard := none }) (v := ?_) rfl (by kernel_rfl) (by kernel_rfl) (by kernel_rfl) (fun _ _ _ h => h) (Or.inl ⟨by rfl, ?_⟩) hHeld ?_
      rotate_left
      · intro w hSw; (try dsimp only at hSw); go_simp <;> with_reducible rfl
      try simp only [Act.put, List.setIfInBounds_toArray, List.set_cons_zero, List.set_cons_succ]
      refine wpAnyH_take (i := 10) (oi := { dst := some 41, op := Go.Op.extract (Go.Operand.tmp 31) 1, type := 2, pos := "choose.go:63", after := #[{ on := 8, ground := Go.Ground.data }, { on := 11, ground := Go.Ground.gcOnly Go.Departure.lateStores }], guard := none }) (v := ?_) rfl (by kernel_rfl) (by kernel_rfl) (by kernel_rfl) (fun _ _ _ h => h) (Or.inl ⟨by rfl, ?_⟩) hHeld ?_
      rotate_left
      · intro w hSw; (try dsimp only at hSw); go_simp <;> with_reducible rfl
      try simp only [Act.put, List.setIfInBounds_toArray, List.set_cons_zero, List.set_cons_succ]
      refine wpAnyH_take (i := 11) (oi := { dst := some 10, op := Go.Op.assign (Go.Operand.tmp 40), type := 3, pos := "choose.go:63", after := #[{ on := 9, ground := Go.Ground.data }, { on := 7, ground := Go.Ground.chain }, { on := 0, ground := Go.Ground.phase }, { on := 1, ground := Go.Ground.phase }, { on := 2, ground := Go.Ground.phase }, { on := 3, ground := Go.Ground.phase }, { on := 4, ground := Go.Ground.phase }, { on := 5, ground := Go.Ground.phase }, { on := 6, ground := Go.Ground.phase }, { on := 7, ground := Go.Ground.phase }, { on := 8, ground := Go.Ground.phase }, { on := 9, ground := Go.Ground.phase }, { on := 10, ground := Go.Ground.textOnly Go.Departure.lateStores }], guard := none }) (v := ?_) rfl (by kernel_rfl) (by kernel_rfl) (by kernel_rfl) (fun _ _ _ h => h) (Or.inl ⟨by rfl, ?_⟩) hHeld ?_
      rotate_left
      · intro w hSw; (try dsimp only at hSw); go_simp <;> with_reducible rfl
      try simp only [Act.put, List.setIfInBounds_toArray, List.set_cons_zero, List.set_cons_succ]
      refine wpAnyH_take (i := 12) (oi := { dst := some 11, op := Go.Op.assign (Go.Operand.tmp 41), type := 2, pos := "choose.go:63", after := #[{ on := 10, ground := Go.Ground.data }, { on := 11, ground := Go.Ground.chain }, { on := 0, ground := Go.Ground.phase }, { on := 1, ground := Go.Ground.phase }, { on := 2, ground := Go.Ground.phase }, { on := 3, ground := Go.Ground.phase }, { on := 4, ground := Go.Ground.phase }, { on := 5, ground := Go.Ground.phase }, { on := 6, ground := Go.Ground.phase }, { on := 7, ground := Go.Ground.phase }, { on := 8, ground := Go.Ground.phase }, { on := 9, ground := Go.Ground.phase }, { on := 10, ground := Go.Ground.phase }, { on := 11, ground := Go.Ground.phase }], guard := none }) (v := ?_) rfl (by kernel_rfl) (by kernel_rfl) (by kernel_rfl) (fun _ _ _ h => h) (Or.inl ⟨by rfl, ?_⟩) hHeld ?_
      rotate_left
      · intro w hSw; (try dsimp only at hSw); go_simp <;> with_reducible rfl
      try simp only [Act.put, List.setIfInBounds_toArray, List.set_cons_zero, List.set_cons_succ]
      refine wpAnyH_done (by kernel_rfl) ?_ _
      have HZ3 : Hid (Bx w3 N #[.int .i64 0, .int .i64 0, .int .i64 0] 32) := (HFS.out _ HK3.out).2.1
      obtain ⟨x0, x1, x2⟩ := HZ3.out.three
      have f0 := HZ3.out.fr 0
      have f1 := HZ3.out.fr 1
      have f2 := HZ3.out.fr 2
      have HZX := HZ3.out.set3 (.int .i64 (vn : Int)) (.int .i64 q1) (.int .i64 q2)
      have HFF := HFIN.out w3 q1 q2 HK3.out HZ3.out
      have HFF2 : Hid _ := HFF
      clear HFF
      go_wp2
      refine ⟨rfl, _, res_ct rfl _ HZX (by with_unfolding_all rfl) rfl Tryz.underlying32 (by kernel_rfl) (v := .bool true) (by with_unfolding_all rfl), ?_, ?_, ?_⟩
      · rw [HCF.out]
      · rw [HCF.out]; exact HFF2.out.2 _ HD3.out
      · exact HFF2.out.1
theorem choose_gen {X : Nat → Prop} {W : World} {p1 : Option Addr} {n k1 : Nat} {p2 : Option Addr} {nd k2 : Nat} {L : List Ph} {D : List MD} {rv : Value} {R : List Int} (hP : Ps W (.slice p1 n k1) L) (hd : Dsk (DrB rv) W (.slice p2 nd k2) D) (hD : ∀ d ∈ D, Good d) (hz : SzP L D) (hr : Dw X W rv R) :
    Calls Tryz.prog 10 #[.slice p1 n k1, .slice p2 nd k2, rv] W fun e w' => e = .returned (.tuple #[.agg #[.int .i64 (chooseM L D R).1.1, .int .i64 (chooseM L D R).1.2.1, .int .i64 (chooseM L D R).1.2.2.1], .bool (chooseM L D R).1.2.2.2]) ∧ Dw X w' rv (chooseM L D R).2 ∧ Kept (DrB rv) W w' :=
  (choose_gen0 hP hd hD hz hr.more (.inr (Nat.le_refl _))).mono fun e w' ⟨he, h1, h2⟩ => ⟨he, h1.less (fun b hb => .inl hb), h2⟩
end Go.Proofs.YthkliicmoandmaaGreatDoor

namespace Go.Proofs.YthkliicmoandmaaGreatDoor
open Go.RowKit Go.Shelf
set_option linter.unusedVariables false
set_option linter.unusedSimpArgs false

/-- A list of domains in memory of its own, their numbers in no block of Z. -/
structure LX (Z : Nat → Prop) (N : Nat) (w : World) (v : Value) (D : List MD) (vs : List (List Value)) : Prop where
  n : vs.length = D.length
  r : Rw w 50 v 6 vs
  d : ∀ (i : Nat) (c : List Value) (d : MD), vs[i]? = some c → D[i]? = some d → Dc (fun b => v.ownBlock = some b ∨ Z b) w c d
  b : ∀ g, v.ownBlock = some g → N ≤ g
theorem LX.below {Z : Nat → Prop} {N : Nat} {w w' : World} {v : Value} {D : List MD} {vs : List (List Value)} (h : LX Z N w v D vs) (hb : Below w.heap.size w w') : LX Z N w' v D vs :=
  ⟨h.n, h.r.keep (fun g hg => hb.block g (h.r.lt hg)), fun i c d h1 h2 => (h.d i c d h1 h2).below hb, h.b⟩
theorem LX.kept {Z : Nat → Prop} {N : Nat} {w w' : World} {v : Value} {D : List MD} {vs : List (List Value)} (h : LX Z N w v D vs) (hk : Kept Z w w') (hZ : ∀ g, v.ownBlock = some g → ¬ Z g) : LX Z N w' v D vs :=
  ⟨h.n, h.r.keep (fun g hg => hk.block g (h.r.lt hg) (hZ g hg)), fun i c d h1 h2 => (h.d i c d h1 h2).kept (hk.mono fun b hb => .inr hb), h.b⟩
theorem LX.less {Z Z' : Nat → Prop} {N : Nat} {w : World} {v : Value} {D : List MD} {vs : List (List Value)} (h : LX Z N w v D vs) (hZ : ∀ b, Z' b → Z b) : LX Z' N w v D vs :=
  ⟨h.n, h.r, fun i c d h1 h2 => (h.d i c d h1 h2).up (fun b hb => .inl (hb.imp id (hZ b))), h.b⟩
theorem LX.dsk {Z : Nat → Prop} {N : Nat} {w : World} {v : Value} {D : List MD} {vs : List (List Value)} (h : LX Z N w v D vs) (hZ : ∀ g, v.ownBlock = some g → ¬ Z g) : Dsk Z w v D := by
  obtain ⟨a, c, e, hcc, hm⟩ := h.r.shape
  refine ⟨a, c, by rw [e, h.n], fun h0 => ?_⟩
  have hv0 : 0 < vs.length := by rw [h.n]; exact h0
  obtain ⟨g, cap, e2, hgl, hat⟩ : ∃ g cap, v = .slice (some ⟨g, 0, none⟩) vs.length cap ∧ g < w.heap.size ∧ True := by
    rcases h.r.2.2 with ⟨q1, q2⟩ | ⟨g, cap, cur, q1, _, q3, _⟩
    · omega
    · exact ⟨g, cap, q1, (Array.getElem?_eq_some_iff.1 q3).1, trivial⟩
  have hgz : ¬ Z g := hZ g (by rw [e2]; rfl)
  rw [e] at e2
  injection e2 with e3 _ _
  refine ⟨g, 0, e3, hgl, hgz, fun i d hd => ?_⟩
  have hi : i < vs.length := by rw [h.n]; exact (List.getElem?_eq_some_iff.1 hd).1
  have hc : vs[i]? = some vs[i] := List.getElem?_eq_getElem hi
  have hdc := h.d i _ d hc hd
  have hl6 := hdc.len
  obtain ⟨g2, cap2, e4, _, _, _, hra, _⟩ := h.r.at hc
  rw [e] at e4
  injection e4 with e5 _ _
  obtain rfl : g = g2 := by
    rw [e3] at e5
    injection e5 with e5
    injection e5
  obtain ⟨c0, c1, c2, c3, c4, c5, hv6⟩ := list6 hl6
  rw [hv6] at hdc hra
  have cell : ∀ j u, [c0, c1, c2, c3, c4, c5][j]? = some u → w.cell? ⟨g, 0 + i * 6 + j, none⟩ = some u := fun j u hu => by rw [Nat.zero_add]; exact hra j u hu
  exact ⟨c0, c1, c2, c3, c4, c5, hdc.up (fun b hb => .inl (.inr hb)), cell 0 _ rfl, cell 1 _ rfl, cell 2 _ rfl, cell 3 _ rfl, cell 4 _ rfl, cell 5 _ rfl⟩
/-- One of the domains is written. -/
theorem LX.put {Z : Nat → Prop} {N g cap i : Nat} {w : World} {v : Value} {D : List MD} {vs : List (List Value)} {c : List Value} {d : MD} (h : LX Z N w v D vs) (hv : v = .slice (some ⟨g, 0, none⟩) vs.length cap) (hi : i < vs.length) (hc : Dc (fun b => v.ownBlock = some b ∨ Z b) w c d) : LX Z N (w.setCells g (i * 6) c) v (D.set i d) (vs.set i c) := by
  have hk : Kept (fun b => v.ownBlock = some b ∨ Z b) w (w.setCells g (i * 6) c) := Kept.setCells (X := fun b => v.ownBlock = some b ∨ Z b) (.inl (by rw [hv]; rfl)) _ _ (Kept.refl _ _)
  refine ⟨by rw [List.length_set, List.length_set]; exact h.n, h.r.put hi hc.len hv, fun j c' d' h1 h2 => ?_, h.b⟩
  by_cases hj : i = j
  · subst hj
    rw [List.getElem?_set_self hi] at h1
    rw [List.getElem?_set_self (by rw [← h.n]; exact hi)] at h2
    injection h1 with h1
    injection h2 with h2
    subst h1 h2
    exact hc.kept hk
  · rw [List.getElem?_set_ne hj] at h1 h2
    exact (h.d j c' d' h1 h2).kept hk

set_option maxRecDepth 100000 in
set_option maxHeartbeats 4000000 in
theorem lentx_any {W : World} {p1 : Option Addr} {n1 k1 : Nat} {D : List MD} (h : Ds W (.slice p1 n1 k1) D) (hz : ∀ d ∈ D, SzD d) (hl : D.length * 96 ≤ 140737488351232) :
    Calls Tryz.prog 36 #[.slice p1 n1 k1] W fun e w' => ∃ v vs, e = .returned v ∧ LX (fun b => b < W.heap.size) W.heap.size w' v D vs ∧ Below W.heap.size W w' := by
  have e1 : D.length = n1 := by obtain ⟨a, c, e, _⟩ := h; injection e with _ e2 _; exact e2.symm
  obtain ⟨N, hN⟩ : ∃ N, W.heap.size = N := ⟨_, rfl⟩
  have HA : Hid (∀ w, Below N W w → Ds w (.slice p1 n1 k1) D) := fun w hb => h.below (by rw [hN]; exact hb)
  have HZ : Hid (∀ d ∈ D, SzD d) := hz
  have HL : Hid (D.length = n1) := e1
  have HN : Hid (W.heap.size = N) := hN
  rw [e1] at hl
  rw [hN]
  clear h hz e1 hN
  go_enter Tryz.func36, Tryz.ntmps36
  go_wp2
  go_loopw [3, 4] (fun v i wr => ∃ (k : Nat) (vs : List (List Value)), i = .int .i64 (k : Int) ∧ k ≤ n1 ∧ Hid (LX (fun b => b < N) N wr v (D.take k) vs) ∧ Hid (Below N W wr)) (fun _ i _ => n1 - (intOf i).toNat)
  case atStart => exact ⟨0, [], rfl, Nat.zero_le _, ⟨rfl, ⟨fun _ h => by simp at h, by simpa using World.ownsRow_nil _ _ _ _⟩, fun i c d h _ => by simp at h, fun g hg => by simp [Value.ownBlock] at hg⟩, Below.refl _ _⟩
  case round =>
    obtain ⟨k, vs, rfl, hk, HLD, HB⟩ := hrel
    obtain ⟨sa, sc, rfl, _, _⟩ := HLD.out.r.shape
    have hvl : vs.length = k := by rw [HLD.out.n, List.length_take, HL.out]; omega
    rw [hvl] at HLD ⊢
    by_cases hlt : k < n1
    · have hlt' : (k : Int) < (n1 : Int) := by omega
      have hwk : IntKind.i64.wrap ((k : Int) + 1) = (k : Int) + 1 := by rw [IntKind.wrap_i64]; omega
      obtain ⟨d, hd⟩ : ∃ d, D[k]? = some d := ⟨_, List.getElem?_eq_getElem (by rw [HL.out]; exact hlt)⟩
      obtain ⟨b1, off1, rfl, hb1, _, c0, c1, c2, c3, c4, c5, hDc, i0, i1, i2, i3, i4, i5⟩ := (HA.out wr HB.out).at hd
      have kl := lent_z hDc (HZ.out d (List.mem_of_getElem? hd))
      have HDD : Hid (D[k]? = some d) := hd
      have hone := hDc.one
      have HVL : Hid (vs.length = k) := hvl
      clear hd hb1 hDc hvl
      go_wp2_with fail
      refine kl.mono ?_
      clear kl i0 i1 i2 i3 i4 i5 hone
      rintro e w1 ⟨q, rfl, hq, hb1⟩
      have hDq := hq (fun b => (Value.slice sa k sc).ownBlock = some b ∨ b < N) (fun b hb => hb.elim (fun hb => HLD.out.r.lt (by rw [HVL.out] at *; exact hb)) (fun hb => by have := HB.out.size; rw [HN.out] at this; omega))
      obtain ⟨f0, f1, f2, f3, f4, f5, rfl⟩ := list6 hDq.len
      have HSZ : Hid (N ≤ wr.heap.size) := by have := HB.out.size; rw [HN.out] at this; exact this
      have HB1 : Hid (Below N W w1) := HB.out.trans (hb1.mono HSZ.out)
      have HLD1 : Hid (LX (fun b => b < N) N w1 (.slice sa k sc) (D.take k) vs) := HLD.out.below hb1
      have hq1 := hDq.one
      obtain ⟨M, hM⟩ : ∃ x, w1.heap.size = x := ⟨_, rfl⟩
      obtain ⟨w2, hw2⟩ : ∃ x, w1.alloc (Obj.cells #[f0, f1, f2, f3, f4, f5] 50) = x := ⟨_, rfl⟩
      have hb2 : Below w1.heap.size w1 w2 := by rw [← hw2]; exact (Below.refl _ _).alloc (Nat.le_refl _) _
      have HBX : Hid (Bx w2 M #[f0, f1, f2, f3, f4, f5] 50) := by rw [← hw2]; exact Bx.new' hM _ _
      have HLD2 : Hid (LX (fun b => b < N) N w2 (.slice sa k sc) (D.take k) vs) := HLD1.out.below hb2
      have HDq : Hid (Dc (fun b => (Value.slice sa k sc).ownBlock = some b ∨ b < N) w2 [f0, f1, f2, f3, f4, f5] d) := hDq.below hb2
      have HB2 : Hid (Below N W w2) := HB1.out.trans (hb2.mono (by have := HB1.out.size; rw [HN.out] at this; exact this))
      have HW2 : Hid _ := hw2
      have HOW : Hid (w2.ownsRow 0 50 6 (.slice sa k sc) k vs.flatten) := by have := HLD2.out.r.2; rw [HVL.out] at this; exact this
      have HQ1 : Hid _ := hq1
      clear hw2 hb2 hDq hq hb1 hq1
      go_wp2_with (at_builtin; rw [HW2.out]; refine list_dom HVL.out HLD2.out.r.1 HOW.out rfl _ _ rfl rfl ⟨M, 0, none⟩ 1 (by first | rfl | (rw [← hM]; rfl)) [f0, f1, f2, f3, f4, f5] rfl (fun j u hu => by rw [Addr.add_lit, Nat.zero_add]; exact (HBX.out.cell j).trans (by simpa using hu)) HQ1.out (by omega) ?_; intro v' w3 hown' hgrow hnew; obtain ⟨gn, capn, rfl⟩ := ownsRow_succ hown')
      go_roundw
      case rel =>
        have hlt2 : ∀ g, (Value.slice sa k sc).ownBlock = some g → g < w2.heap.size := fun g hg => HLD2.out.r.lt (by rw [HVL.out] at *; exact hg)
        have key : ∀ c' d', Dc (fun b => (Value.slice sa k sc).ownBlock = some b ∨ b < N) w2 c' d' → Dc (fun b => (Value.slice (some ⟨gn, 0, none⟩) (k + 1) capn).ownBlock = some b ∨ b < N) w3 c' d' := fun c' d' hdc =>
          hdc.go ⟨hgrow.os, hgrow.tape, hgrow.output, hgrow.size, fun b hb hn => hgrow.block b hb (fun e => hn (.inl e.symm))⟩ (fun b hb => hb.elim (fun hb => (hnew b hb).imp .inl id) (fun hb => .inl (.inr hb)))
        refine ⟨k + 1, vs ++ [[f0, f1, f2, f3, f4, f5]], by go_num, by omega, ⟨?_, ⟨?_, ?_⟩, ?_, ?_⟩, ?_⟩
        · rw [List.length_append, HVL.out, List.length_take, HL.out]; simp; omega
        · intro c' hc'
          rcases List.mem_append.1 hc' with h | h
          · exact HLD2.out.r.1 c' h
          · rw [List.mem_singleton.1 h]; rfl
        · have : (vs ++ [[f0, f1, f2, f3, f4, f5]]).length = k + 1 := by rw [List.length_append, HVL.out]; rfl
          rw [this]; exact hown'
        · intro i c' d' hc' hd'
          rcases Nat.lt_or_ge i k with q1 | q1
          · rw [List.getElem?_append_left (by rw [HVL.out]; exact q1)] at hc'
            rw [List.getElem?_take, if_pos (by omega)] at hd'
            exact key _ _ (HLD2.out.d i c' d' hc' (by rw [List.getElem?_take, if_pos q1]; exact hd'))
          · have hi : i < k + 1 := by have := (List.getElem?_eq_some_iff.1 hc').1; rw [List.length_append, HVL.out] at this; simpa using this
            obtain rfl : i = k := by omega
            rw [List.getElem?_append_right (by rw [HVL.out]; exact Nat.le_refl _), HVL.out, Nat.sub_self] at hc'
            rw [List.getElem?_take, if_pos (by omega), HDD.out] at hd'
            injection hc' with hc'
            injection hd' with hd'
            subst hc' hd'
            exact key _ _ HDq.out
        · intro g hg
          rcases hnew g hg with q1 | q1
          · exact HLD2.out.b g q1
          · have := HB2.out.size; rw [HN.out] at this; omega
        · exact HB2.out.grown hgrow (by have := HB2.out.size; rw [HN.out] at this; exact this) (fun g hg => HLD2.out.b g hg)
      case measure => simp [intOf]; omega
    · have hlt' : ¬ (k : Int) < (n1 : Int) := by omega
      obtain rfl : k = n1 := by omega
      have hfull : D.take k = D := List.take_of_length_le (by rw [HL.out]; exact Nat.le_refl _)
      rw [hfull] at HLD
      clear hfull hvl
      go_wp2
      go_ret
      exact ⟨_, rfl, ⟨vs, HLD.out⟩, HB.out⟩
end Go.Proofs.YthkliicmoandmaaGreatDoor
