/-
  What is proved here: the value of a number; what is tried of whole numbers and of sets, whatever the selector.
-/
import Derived.Test.YthkliicmoandmaaGreatDoorDcj
import Derived.Deep.RegionHeld3
namespace Go.Proofs.YthkliicmoandmaaGreatDoor
open Go.RowKit Go.Shelf
set_option linter.unusedVariables false
set_option linter.unusedSimpArgs false

theorem wrapU_in (n : Int) (h : -9223372036854775808 ≤ n ∧ n ≤ 9223372036854775807) : wrap64 n = n := by unfold wrap64; omega
theorem wrapI_in (n : Int) (h : -9223372036854775808 ≤ n ∧ n ≤ 9223372036854775807) : IntKind.i64.wrap n = n := by rw [IntKind.wrap_i64]; omega
def nthR : List Dm.Rg → Int → Int
  | [], _ => 0
  | r :: t, n => if n < r.2 - r.1 + 1 then r.1 + n else nthR t (n - (r.2 - r.1 + 1))
theorem nthR_drop (r : List Dm.Rg) (k : Nat) (n : Int) (h : k < r.length) : nthR (r.drop k) n = if n < Dm.hi r k - Dm.lo r k + 1 then Dm.lo r k + n else nthR (r.drop (k + 1)) (n - (Dm.hi r k - Dm.lo r k + 1)) := by
  rw [List.drop_eq_getElem_cons h]
  unfold Dm.hi Dm.lo
  rw [List.getElem?_eq_getElem h]
  rfl

set_option maxRecDepth 100000 in
set_option maxHeartbeats 4000000 in
theorem nth_any {X : Nat → Prop} {W : World} {ra : Option Addr} {n0 rc : Nat} {r : List Dm.Rg} (h : Rm X W (.slice ra n0 rc) r) (hR : Dm.Right r) (n : Int) (hn : 0 ≤ n) (hn2 : n ≤ 4611686018427387904) :
    Calls Tryz.prog 79 #[.slice ra n0 rc, .int .i64 n] W fun e w' => e = .returned (.int .i64 (nthR r n)) ∧ Below W.heap.size W w' := by
  have hln : r.length = n0 := by obtain ⟨_, _, e, _⟩ := h; injection e with _ e2 _; exact e2.symm
  have HC : Hid (∀ k, k < n0 → ∃ b off, ra = some ⟨b, off, none⟩ ∧ ∀ w, Below W.heap.size W w → w.cell? ⟨b, off + k * 2, none⟩ = some (.int .i64 (Dm.lo r k)) ∧ w.cell? ⟨b, off + k * 2 + 1, none⟩ = some (.int .i64 (Dm.hi r k))) := fun k hk => by
    obtain ⟨a, c, e, hc⟩ := h
    injection e with q1 q2 q3
    obtain ⟨b, off, e1, hb, _, hcc⟩ := hc (by omega)
    refine ⟨b, off, q1.trans e1, fun w hbw => ?_⟩
    obtain ⟨g1, g2⟩ := hcc k (by omega)
    exact ⟨(hbw.cell (p := ⟨b, _, none⟩) hb).trans g1, (hbw.cell (p := ⟨b, _, none⟩) hb).trans g2⟩
  have HR : Hid (Dm.Right r) := hR
  have hn0 : n0 ≤ 4096 := by rw [← hln]; exact hR.1
  have HLN : Hid (r.length = n0) := hln
  clear h hR hln
  go_enter Tryz.func79, Tryz.ntmps79
  go_wp2
  go_loopw [1, 10] (fun v i wr => ∃ (k : Nat) (m : Int), v = .int .i64 m ∧ i = .int .i64 (k : Int) ∧ k ≤ n0 ∧ 0 ≤ m ∧ m ≤ n ∧ Hid (nthR r n = nthR (r.drop k) m) ∧ Hid (Below W.heap.size W wr)) (fun _ i _ => n0 - (intOf i).toNat)
  case atStart => exact ⟨0, n, rfl, rfl, Nat.zero_le _, hn, Int.le_refl _, rfl, Below.refl _ _⟩
  case round =>
    obtain ⟨k, m, rfl, rfl, hk, hm0, hmn, HM, HB⟩ := hrel
    by_cases hlt : k < n0
    · have hlt' : (k : Int) < (n0 : Int) := by omega
      obtain ⟨b, off, rfl, hcell⟩ := HC.out k hlt
      obtain ⟨g0, g1⟩ := hcell wr HB.out
      have hok := HR.out.2 k (by rw [HLN.out]; exact hlt)
      unfold Dm.OkAt at hok
      have HST : Hid (nthR (r.drop k) m = if m < Dm.hi r k - Dm.lo r k + 1 then Dm.lo r k + m else nthR (r.drop (k + 1)) (m - (Dm.hi r k - Dm.lo r k + 1))) := nthR_drop r k m (by rw [HLN.out]; exact hlt)
      obtain ⟨lo, hlo⟩ : ∃ q, Dm.lo r k = q := ⟨_, rfl⟩
      obtain ⟨hi, hhi⟩ : ∃ q, Dm.hi r k = q := ⟨_, rfl⟩
      rw [hlo] at g0 hok HST
      rw [hhi] at g1 hok HST
      obtain ⟨ok1, ok2, ok3, _⟩ := hok
      clear hcell hlo hhi
      obtain ⟨dl, hdl⟩ : ∃ q, hi - lo = q := ⟨_, rfl⟩
      obtain ⟨sz, hsz⟩ : ∃ q, dl + 1 = q := ⟨_, rfl⟩
      rw [hdl, hsz] at HST
      have hsz0 : 1 ≤ sz ∧ sz ≤ 2000001 := by omega
      have hmb : -9223372036854775808 ≤ lo + m ∧ lo + m ≤ 9223372036854775807 := by omega
      have hmc : -9223372036854775808 ≤ m - sz ∧ m - sz ≤ 9223372036854775807 := by omega
      have hm1 : -9223372036854775808 ≤ hi - lo ∧ hi - lo ≤ 9223372036854775807 := by omega
      have hm2 : -9223372036854775808 ≤ dl + 1 ∧ dl + 1 ≤ 9223372036854775807 := by omega
      have hm3 : -9223372036854775808 ≤ (k : Int) + 1 ∧ (k : Int) + 1 ≤ 9223372036854775807 := by omega
      have hw1 := (wrapU_in _ hm1).trans hdl
      have hw1i := (wrapI_in _ hm1).trans hdl
      have hw2 := (wrapU_in _ hm2).trans hsz
      have hw2i := (wrapI_in _ hm2).trans hsz
      have hw3 := wrapU_in _ hm3
      have hw3i := wrapI_in _ hm3
      have HSZ : Hid (1 ≤ sz ∧ sz ≤ 2000001) := hsz0
      clear hdl hsz hm1 hm2 hm3 ok1 ok2 ok3 hsz0
      by_cases hlm : m < sz
      · have hd : decide (m < sz) = true := by simpa using hlm
        have HV : Hid (nthR r n = lo + m) := by unfold Hid; rw [HM.out, HST.out, if_pos hlm]
        have hw4 := wrapU_in (lo + m) hmb
        have hw4i := wrapI_in (lo + m) hmb
        obtain ⟨M, hM⟩ : ∃ q, wr.heap.size = q := ⟨_, rfl⟩
        obtain ⟨W1, hW1⟩ : ∃ q, wr.alloc (Obj.cells #[.int .i64 lo, .int .i64 hi] 92) = q := ⟨_, rfl⟩
        have HBA : Hid (Below W.heap.size W W1) := by rw [← hW1]; exact HB.out.alloc HB.out.size _
        have hbx : Bx W1 M #[.int .i64 lo, .int .i64 hi] 92 := by rw [← hW1]; exact Bx.new' hM _ _
        have z0 : W1.cell? ⟨M, 0, none⟩ = some (.int .i64 lo) := hbx.cell 0
        have z1 : W1.cell? ⟨M, 1, none⟩ = some (.int .i64 hi) := hbx.cell 1
        have HW1 : Hid _ := hW1
        clear hW1 hbx hmb hmc
        go_upto_region 4 with (fail)
        rw [HW1.out]
        clear hM g0 g1
        go_upto_region 5 with (fail)
        go_wp2
        go_ret
        exact ⟨by rw [HV.out]; rfl, HBA.out⟩
      · have hd : decide (m < sz) = false := by simpa using hlm
        have HV : Hid (nthR r n = nthR (r.drop (k + 1)) (m - sz)) := by unfold Hid; rw [HM.out, HST.out, if_neg hlm]
        have hw4 := wrapU_in (m - sz) hmc
        have hw4i := wrapI_in (m - sz) hmc
        obtain ⟨M, hM⟩ : ∃ q, wr.heap.size = q := ⟨_, rfl⟩
        obtain ⟨W1, hW1⟩ : ∃ q, wr.alloc (Obj.cells #[.int .i64 lo, .int .i64 hi] 92) = q := ⟨_, rfl⟩
        have HBA : Hid (Below W.heap.size W W1) := by rw [← hW1]; exact HB.out.alloc HB.out.size _
        have hbx : Bx W1 M #[.int .i64 lo, .int .i64 hi] 92 := by rw [← hW1]; exact Bx.new' hM _ _
        have z0 : W1.cell? ⟨M, 0, none⟩ = some (.int .i64 lo) := hbx.cell 0
        have z1 : W1.cell? ⟨M, 1, none⟩ = some (.int .i64 hi) := hbx.cell 1
        have HW1 : Hid _ := hW1
        clear hW1 hbx hmb hmc
        go_upto_region 4 with (fail)
        rw [HW1.out]
        clear hM g0 g1
        go_upto_region 5 with (fail)
        go_wp2
        go_roundw
        all_goals clear hw1 hw1i hw2 hw2i hw3 hw3i hw4 hw4i
        case rel => exact ⟨k + 1, m - sz, rfl, by go_num, by omega, by omega, by have := HSZ.out; omega, HV.out, HBA.out⟩
        case measure => simp [intOf]; omega
    · have hlt' : ¬ (k : Int) < (n0 : Int) := by omega
      have HV : Hid (nthR r n = 0) := by unfold Hid; rw [HM.out, List.drop_of_length_le (by rw [HLN.out]; omega)]; rfl
      go_wp2
      go_ret
      exact ⟨by rw [HV.out]; rfl, HB.out⟩
/-- What is tried of whole numbers, and what is left of the draws. -/
def numA (how : Int) (r : List Dm.Rg) (R : List Int) : (Int × Int) × List Int :=
  if how = 2 then ((0, nthR r ((Dm.sizeR (Dm.tk r) - 1) / 2)), R) else if how = 5 then ((0, nthR r (nextM R (Dm.sizeR (Dm.tk r))).1), (nextM R (Dm.sizeR (Dm.tk r))).2) else (numM how (Dm.lo r 0) (Dm.hi r (r.length - 1)), R)

set_option maxRecDepth 100000 in
set_option maxHeartbeats 4000000 in
theorem number_med {X Z : Nat → Prop} {W : World} {ra : Option Addr} {n0 rc : Nat} {r : List Dm.Rg} {rv : Value} {R : List Int} (h : Rm (DrB rv) W (.slice ra n0 rc) r) (hR : Dm.Right r) (hr : 0 < r.length) (hd : Dw X W rv R) (hsz : 1 ≤ Dm.sizeR (Dm.tk r)) (hsz2 : Dm.sizeR (Dm.tk r) ≤ 4611686018427387904) :
    Calls Tryz.prog 41 #[.int .i64 2, .slice ra n0 rc, rv] W fun e w' => e = .returned (.tuple #[.int .i64 (numA 2 r R).1.1, .int .i64 (numA 2 r R).1.2]) ∧ Dw X w' rv (numA 2 r R).2 ∧ Kept (DrB rv) W w' := by
  have hln : r.length = n0 := by obtain ⟨_, _, e, _⟩ := h; injection e with _ e2 _; exact e2.symm
  have hD : Dc (DrB rv) W [.bool false, .slice ra n0 rc, .slice none 0 0, .slice none 0 0, .int .i64 0, .int .i64 0] ⟨false, r, [], [], 0, 0⟩ := by
    subst hln
    exact ⟨ra, rc, none, 0, none, 0, rfl, h, Nm.empty _ _, Nm.empty _ _⟩
  have ke := ends_w hD rfl hr (right_len hR)
  have hf : Dm.FitsR r := fun i hi => by have := hR.2 i hi; unfold Dm.OkAt at this; unfold Dm.Fits; omega
  have HSZ : Hid (∀ w, Kept (DrB rv) W w → Calls Tryz.prog 80 #[.slice ra n0 rc] w fun e w' => e = .returned (.int .i64 (Dm.sizeR (Dm.tk r))) ∧ Below w.heap.size w w') := fun w hk => Dm.domsize_any _ _ _ (h.kept hk).sr hf
  have HNT : Hid (∀ (q : Int) w, Kept (DrB rv) W w → 0 ≤ q → q ≤ 4611686018427387904 → Calls Tryz.prog 79 #[.slice ra n0 rc, .int .i64 q] w fun e w' => e = .returned (.int .i64 (nthR r q)) ∧ Below w.heap.size w w') := fun q w hk h1 h2 => nth_any (h.kept hk) hR q h1 h2
  have HLO : Hid (loM ⟨false, r, [], [], 0, 0⟩ = Dm.lo r 0 ∧ hiM ⟨false, r, [], [], 0, 0⟩ = Dm.hi r (r.length - 1)) := ⟨rfl, rfl⟩
  rw [HLO.out.1, HLO.out.2] at ke
  have b1 := hR.2 0 hr
  have b2 := hR.2 (r.length - 1) (by omega)
  unfold Dm.OkAt at b1 b2
  obtain ⟨o1, o2, o3, _⟩ := b1
  obtain ⟨o4, o5, o6, _⟩ := b2
  obtain ⟨ra', hra⟩ := hd.ptr
  have HDW : Hid (∀ w, Below W.heap.size W w → Dw X w rv R) := fun w hb => hd.below hb
  clear hD h hln HLO hd
  have HM : Hid (numA 2 r R = ((0, nthR r ((Dm.sizeR (Dm.tk r) - 1) / 2)), R)) := rfl
  rw [HM.out]
  generalize Dm.sizeR (Dm.tk r) = sz at *
  generalize Dm.lo r 0 = lo at *
  generalize Dm.hi r (r.length - 1) = hi at *
  have hq : (sz - 1).tdiv 2 = (sz - 1) / 2 := Int.tdiv_eq_ediv_of_nonneg (by omega)
  have hq1 : 0 ≤ (sz - 1) / 2 := by omega
  have hq2 : (sz - 1) / 2 ≤ 4611686018427387904 := by omega
  have hq3 : -9223372036854775808 ≤ (sz - 1) / 2 ∧ (sz - 1) / 2 ≤ 9223372036854775807 := by omega
  have hw0b : -9223372036854775808 ≤ lo + hi ∧ lo + hi ≤ 9223372036854775807 := by omega
  have hw1b : -9223372036854775808 ≤ sz - 1 ∧ sz - 1 ≤ 9223372036854775807 := by omega
  have hw0 := wrapU_in (lo + hi) hw0b
  have hw0i := wrapI_in (lo + hi) hw0b
  clear hw0b
  have hw1 := wrapU_in (sz - 1) hw1b
  have hw1i := wrapI_in (sz - 1) hw1b
  clear hw1b
  have hwq := wrapU_in ((sz - 1) / 2) hq3
  have hwqi := wrapI_in ((sz - 1) / 2) hq3
  generalize (sz - 1) / 2 = qq at *
  subst hra
  go_enter Tryz.func41, Tryz.ntmps41
  go_wp2_with fail
  refine ke.mono ?_
  rintro e w1 ⟨rfl, hb1⟩
  have HB1 : Hid (Below W.heap.size W w1) := hb1
  clear hb1 ke
  go_wp2_with fail
  refine (HSZ.out _ (Kept.of_below HB1.out)).mono ?_
  rintro e w2 ⟨rfl, hb2⟩
  have HB2 : Hid (Below W.heap.size W w2) := HB1.out.trans (hb2.mono HB1.out.size)
  clear hb2
  go_wp2_with fail
  refine (HNT.out qq _ (Kept.of_below HB2.out) hq1 hq2).mono ?_
  rintro e w3 ⟨rfl, hb3⟩
  have HB3 : Hid (Below W.heap.size W w3) := HB2.out.trans (hb3.mono HB2.out.size)
  clear hb3
  go_wp2
  go_ret2
  exact ⟨rfl, HDW.out _ HB3.out, Kept.of_below HB3.out⟩

set_option maxRecDepth 100000 in
set_option maxHeartbeats 4000000 in
theorem number_rand {X Z : Nat → Prop} {W : World} {ra : Option Addr} {n0 rc : Nat} {r : List Dm.Rg} {rv : Value} {R : List Int} (h : Rm (DrB rv) W (.slice ra n0 rc) r) (hR : Dm.Right r) (hr : 0 < r.length) (hd : Dw X W rv R) (hsz : 1 ≤ Dm.sizeR (Dm.tk r)) (hsz2 : Dm.sizeR (Dm.tk r) ≤ 4611686018427387904) :
    Calls Tryz.prog 41 #[.int .i64 5, .slice ra n0 rc, rv] W fun e w' => e = .returned (.tuple #[.int .i64 (numA 5 r R).1.1, .int .i64 (numA 5 r R).1.2]) ∧ Dw X w' rv (numA 5 r R).2 ∧ Kept (DrB rv) W w' := by
  have hln : r.length = n0 := by obtain ⟨_, _, e, _⟩ := h; injection e with _ e2 _; exact e2.symm
  have hD : Dc (DrB rv) W [.bool false, .slice ra n0 rc, .slice none 0 0, .slice none 0 0, .int .i64 0, .int .i64 0] ⟨false, r, [], [], 0, 0⟩ := by
    subst hln
    exact ⟨ra, rc, none, 0, none, 0, rfl, h, Nm.empty _ _, Nm.empty _ _⟩
  have ke := ends_w hD rfl hr (right_len hR)
  have hf : Dm.FitsR r := fun i hi => by have := hR.2 i hi; unfold Dm.OkAt at this; unfold Dm.Fits; omega
  have HSZ : Hid (∀ w, Kept (DrB rv) W w → Calls Tryz.prog 80 #[.slice ra n0 rc] w fun e w' => e = .returned (.int .i64 (Dm.sizeR (Dm.tk r))) ∧ Below w.heap.size w w') := fun w hk => Dm.domsize_any _ _ _ (h.kept hk).sr hf
  have HNT : Hid (∀ (q : Int) w, Kept (DrB rv) W w → 0 ≤ q → q ≤ 4611686018427387904 → Calls Tryz.prog 79 #[.slice ra n0 rc, .int .i64 q] w fun e w' => e = .returned (.int .i64 (nthR r q)) ∧ Below w.heap.size w w') := fun q w hk h1 h2 => nth_any (h.kept hk) hR q h1 h2
  have HLO : Hid (loM ⟨false, r, [], [], 0, 0⟩ = Dm.lo r 0 ∧ hiM ⟨false, r, [], [], 0, 0⟩ = Dm.hi r (r.length - 1)) := ⟨rfl, rfl⟩
  rw [HLO.out.1, HLO.out.2] at ke
  have b1 := hR.2 0 hr
  have b2 := hR.2 (r.length - 1) (by omega)
  unfold Dm.OkAt at b1 b2
  obtain ⟨o1, o2, o3, _⟩ := b1
  obtain ⟨o4, o5, o6, _⟩ := b2
  obtain ⟨ra', hra⟩ := hd.ptr
  have HDW : Hid (∀ w, Below W.heap.size W w → Dw X w rv R) := fun w hb => hd.below hb
  clear hD h hln HLO hd
  have HM : Hid (numA 5 r R = ((0, nthR r (nextM R (Dm.sizeR (Dm.tk r))).1), (nextM R (Dm.sizeR (Dm.tk r))).2)) := rfl
  rw [HM.out]
  have hnx := next_in R hsz
  have HNX : Hid (∀ w, Below W.heap.size W w → Calls Tryz.prog 74 #[rv, .int .i64 (Dm.sizeR (Dm.tk r))] w fun e w' => e = .returned (.int .i64 (nextM R (Dm.sizeR (Dm.tk r))).1) ∧ Dw X w' rv (nextM R (Dm.sizeR (Dm.tk r))).2 ∧ Kept (DrB rv) w w') := fun w hb => next_w (HDW.out w hb) _ (by omega)
  generalize (nextM R (Dm.sizeR (Dm.tk r))).1 = qq at *
  generalize (nextM R (Dm.sizeR (Dm.tk r))).2 = R' at *
  generalize Dm.sizeR (Dm.tk r) = sz at *
  generalize Dm.lo r 0 = lo at *
  generalize Dm.hi r (r.length - 1) = hi at *
  obtain ⟨hq1, hq2⟩ := hnx
  have hq3 : qq ≤ 4611686018427387904 := by omega
  have hw0b : -9223372036854775808 ≤ lo + hi ∧ lo + hi ≤ 9223372036854775807 := by omega
  have hw0 := wrapU_in (lo + hi) hw0b
  have hw0i := wrapI_in (lo + hi) hw0b
  clear hw0b
  subst hra
  go_enter Tryz.func41, Tryz.ntmps41
  go_wp2_with fail
  refine ke.mono ?_
  rintro e w1 ⟨rfl, hb1⟩
  have HB1 : Hid (Below W.heap.size W w1) := hb1
  clear hb1 ke
  go_wp2_with fail
  refine (HSZ.out _ (Kept.of_below HB1.out)).mono ?_
  rintro e w2 ⟨rfl, hb2⟩
  have HB2 : Hid (Below W.heap.size W w2) := HB1.out.trans (hb2.mono HB1.out.size)
  clear hb2
  go_wp2_with fail
  refine (HNX.out _ HB2.out).mono ?_
  rintro e w3 ⟨rfl, hd3, hk3⟩
  have HK3 : Hid (Kept _ W w3) := (Kept.of_below HB2.out).trans hk3 (Up.refl _ _)
  have HD3 : Hid (Dw X w3 _ R') := hd3
  clear hd3 hk3
  go_wp2_with fail
  refine (HNT.out qq _ HK3.out hq1 hq3).mono ?_
  rintro e w4 ⟨rfl, hb4⟩
  have HK4 : Hid (Kept _ W w4) := HK3.out.then_below hb4
  have HD4 : Hid (Dw X w4 _ R') := HD3.out.below hb4
  clear hb4
  go_wp2
  go_ret2
  exact ⟨rfl, HD4.out, HK4.out⟩
end Go.Proofs.YthkliicmoandmaaGreatDoor
