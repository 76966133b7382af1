/-
  What is proved here: the value of a number; what is tried of whole numbers and of sets, whatever the selector.
  What is proved here: what is tried of sets; of whole numbers, whatever the selector.
  What is proved here: the next decision, of any phases, domains and draws.
-/
import Derived.Test.YthkliicmoandmaaGreatDoorDcj
import Derived.Deep.RegionHeld3
namespace Go.Proofs.YthkliicmoandmaaGreatDoor
open Go.RowKit Go.Shelf
set_option linter.unusedVariables false
set_option linter.unusedSimpArgs false

theorem wrapU_in (n : Int) (h : -9223372036854775808 ≤ n ∧ n ≤ 9223372036854775807) : wrap64 n = n := by unfold wrap64; omega
theorem wrapI_in (n : Int) (h : -9223372036854775808 ≤ n ∧ n ≤ 9223372036854775807) : IntKind.i64.wrap n = n := by rw [IntKind.wrap_i64]; omega
def nthR : List Dm.Rg → Int → Int
  | [], _ => 0
  | r :: t, n => if n < r.2 - r.1 + 1 then r.1 + n else nthR t (n - (r.2 - r.1 + 1))
theorem nthR_drop (r : List Dm.Rg) (k : Nat) (n : Int) (h : k < r.length) : nthR (r.drop k) n = if n < Dm.hi r k - Dm.lo r k + 1 then Dm.lo r k + n else nthR (r.drop (k + 1)) (n - (Dm.hi r k - Dm.lo r k + 1)) := by
  rw [List.drop_eq_getElem_cons h]
  unfold Dm.hi Dm.lo
  rw [List.getElem?_eq_getElem h]
  rfl

set_option maxRecDepth 100000 in
set_option maxHeartbeats 4000000 in
theorem nth_any {X : Nat → Prop} {W : World} {ra : Option Addr} {n0 rc : Nat} {r : List Dm.Rg} (h : Rm X W (.slice ra n0 rc) r) (hR : Dm.Right r) (n : Int) (hn : 0 ≤ n) (hn2 : n ≤ 4611686018427387904) :
    Calls Tryz.prog 79 #[.slice ra n0 rc, .int .i64 n] W fun e w' => e = .returned (.int .i64 (nthR r n)) ∧ Below W.heap.size W w' := by
  have hln : r.length = n0 := by obtain ⟨_, _, e, _⟩ := h; injection e with _ e2 _; exact e2.symm
  have HC : Hid (∀ k, k < n0 → ∃ b off, ra = some ⟨b, off, none⟩ ∧ ∀ w, Below W.heap.size W w → w.cell? ⟨b, off + k * 2, none⟩ = some (.int .i64 (Dm.lo r k)) ∧ w.cell? ⟨b, off + k * 2 + 1, none⟩ = some (.int .i64 (Dm.hi r k))) := fun k hk => by
    obtain ⟨a, c, e, hc⟩ := h
    injection e with q1 q2 q3
    obtain ⟨b, off, e1, hb, _, hcc⟩ := hc (by omega)
    refine ⟨b, off, q1.trans e1, fun w hbw => ?_⟩
    obtain ⟨g1, g2⟩ := hcc k (by omega)
    exact ⟨(hbw.cell (p := ⟨b, _, none⟩) hb).trans g1, (hbw.cell (p := ⟨b, _, none⟩) hb).trans g2⟩
  have HR : Hid (Dm.Right r) := hR
  have hn0 : n0 ≤ 4096 := by rw [← hln]; exact hR.1
  have HLN : Hid (r.length = n0) := hln
  clear h hR hln
  go_enter Tryz.func79, Tryz.ntmps79
  go_wp2
  go_loopw [1, 10] (fun v i wr => ∃ (k : Nat) (m : Int), v = .int .i64 m ∧ i = .int .i64 (k : Int) ∧ k ≤ n0 ∧ 0 ≤ m ∧ m ≤ n ∧ Hid (nthR r n = nthR (r.drop k) m) ∧ Hid (Below W.heap.size W wr)) (fun _ i _ => n0 - (intOf i).toNat)
  case atStart => exact ⟨0, n, rfl, rfl, Nat.zero_le _, hn, Int.le_refl _, rfl, Below.refl _ _⟩
  case round =>
    obtain ⟨k, m, rfl, rfl, hk, hm0, hmn, HM, HB⟩ := hrel
    by_cases hlt : k < n0
    · have hlt' : (k : Int) < (n0 : Int) := by omega
      obtain ⟨b, off, rfl, hcell⟩ := HC.out k hlt
      obtain ⟨g0, g1⟩ := hcell wr HB.out
      have hok := HR.out.2 k (by rw [HLN.out]; exact hlt)
      unfold Dm.OkAt at hok
      have HST : Hid (nthR (r.drop k) m = if m < Dm.hi r k - Dm.lo r k + 1 then Dm.lo r k + m else nthR (r.drop (k + 1)) (m - (Dm.hi r k - Dm.lo r k + 1))) := nthR_drop r k m (by rw [HLN.out]; exact hlt)
      obtain ⟨lo, hlo⟩ : ∃ q, Dm.lo r k = q := ⟨_, rfl⟩
      obtain ⟨hi, hhi⟩ : ∃ q, Dm.hi r k = q := ⟨_, rfl⟩
      rw [hlo] at g0 hok HST
      rw [hhi] at g1 hok HST
      obtain ⟨ok1, ok2, ok3, _⟩ := hok
      clear hcell hlo hhi
      obtain ⟨dl, hdl⟩ : ∃ q, hi - lo = q := ⟨_, rfl⟩
      obtain ⟨sz, hsz⟩ : ∃ q, dl + 1 = q := ⟨_, rfl⟩
      rw [hdl, hsz] at HST
      have hsz0 : 1 ≤ sz ∧ sz ≤ 2000001 := by omega
      have hmb : -9223372036854775808 ≤ lo + m ∧ lo + m ≤ 9223372036854775807 := by omega
      have hmc : -9223372036854775808 ≤ m - sz ∧ m - sz ≤ 9223372036854775807 := by omega
      have hm1 : -9223372036854775808 ≤ hi - lo ∧ hi - lo ≤ 9223372036854775807 := by omega
      have hm2 : -9223372036854775808 ≤ dl + 1 ∧ dl + 1 ≤ 9223372036854775807 := by omega
      have hm3 : -9223372036854775808 ≤ (k : Int) + 1 ∧ (k : Int) + 1 ≤ 9223372036854775807 := by omega
      have hw1 := (wrapU_in _ hm1).trans hdl
      have hw1i := (wrapI_in _ hm1).trans hdl
      have hw2 := (wrapU_in _ hm2).trans hsz
      have hw2i := (wrapI_in _ hm2).trans hsz
      have hw3 := wrapU_in _ hm3
      have hw3i := wrapI_in _ hm3
      have HSZ : Hid (1 ≤ sz ∧ sz ≤ 2000001) := hsz0
      clear hdl hsz hm1 hm2 hm3 ok1 ok2 ok3 hsz0
      by_cases hlm : m < sz
      · have hd : decide (m < sz) = true := by simpa using hlm
        have HV : Hid (nthR r n = lo + m) := by unfold Hid; rw [HM.out, HST.out, if_pos hlm]
        have hw4 := wrapU_in (lo + m) hmb
        have hw4i := wrapI_in (lo + m) hmb
        obtain ⟨M, hM⟩ : ∃ q, wr.heap.size = q := ⟨_, rfl⟩
        obtain ⟨W1, hW1⟩ : ∃ q, wr.alloc (Obj.cells #[.int .i64 lo, .int .i64 hi] 92) = q := ⟨_, rfl⟩
        have HBA : Hid (Below W.heap.size W W1) := by rw [← hW1]; exact HB.out.alloc HB.out.size _
        have hbx : Bx W1 M #[.int .i64 lo, .int .i64 hi] 92 := by rw [← hW1]; exact Bx.new' hM _ _
        have z0 : W1.cell? ⟨M, 0, none⟩ = some (.int .i64 lo) := hbx.cell 0
        have z1 : W1.cell? ⟨M, 1, none⟩ = some (.int .i64 hi) := hbx.cell 1
        have HW1 : Hid _ := hW1
        clear hW1 hbx hmb hmc
        go_upto_region 4 with (fail)
        rw [HW1.out]
        clear hM g0 g1
        go_upto_region 5 with (fail)
        go_wp2
        go_ret
        exact ⟨by rw [HV.out]; rfl, HBA.out⟩
      · have hd : decide (m < sz) = false := by simpa using hlm
        have HV : Hid (nthR r n = nthR (r.drop (k + 1)) (m - sz)) := by unfold Hid; rw [HM.out, HST.out, if_neg hlm]
        have hw4 := wrapU_in (m - sz) hmc
        have hw4i := wrapI_in (m - sz) hmc
        obtain ⟨M, hM⟩ : ∃ q, wr.heap.size = q := ⟨_, rfl⟩
        obtain ⟨W1, hW1⟩ : ∃ q, wr.alloc (Obj.cells #[.int .i64 lo, .int .i64 hi] 92) = q := ⟨_, rfl⟩
        have HBA : Hid (Below W.heap.size W W1) := by rw [← hW1]; exact HB.out.alloc HB.out.size _
        have hbx : Bx W1 M #[.int .i64 lo, .int .i64 hi] 92 := by rw [← hW1]; exact Bx.new' hM _ _
        have z0 : W1.cell? ⟨M, 0, none⟩ = some (.int .i64 lo) := hbx.cell 0
        have z1 : W1.cell? ⟨M, 1, none⟩ = some (.int .i64 hi) := hbx.cell 1
        have HW1 : Hid _ := hW1
        clear hW1 hbx hmb hmc
        go_upto_region 4 with (fail)
        rw [HW1.out]
        clear hM g0 g1
        go_upto_region 5 with (fail)
        go_wp2
        go_roundw
        all_goals clear hw1 hw1i hw2 hw2i hw3 hw3i hw4 hw4i
        case rel => exact ⟨k + 1, m - sz, rfl, by go_num, by omega, by omega, by have := HSZ.out; omega, HV.out, HBA.out⟩
        case measure => simp [intOf]; omega
    · have hlt' : ¬ (k : Int) < (n0 : Int) := by omega
      have HV : Hid (nthR r n = 0) := by unfold Hid; rw [HM.out, List.drop_of_length_le (by rw [HLN.out]; omega)]; rfl
      go_wp2
      go_ret
      exact ⟨by rw [HV.out]; rfl, HB.out⟩
/-- What is tried of whole numbers, and what is left of the draws. -/
def numA (how : Int) (r : List Dm.Rg) (R : List Int) : (Int × Int) × List Int :=
  if how = 2 then ((0, nthR r ((Dm.sizeR (Dm.tk r) - 1) / 2)), R) else if how = 5 then ((0, nthR r (nextM R (Dm.sizeR (Dm.tk r))).1), (nextM R (Dm.sizeR (Dm.tk r))).2) else (numM how (Dm.lo r 0) (Dm.hi r (r.length - 1)), R)

set_option maxRecDepth 100000 in
set_option maxHeartbeats 4000000 in
theorem number_med {X Z : Nat → Prop} {W : World} {ra : Option Addr} {n0 rc : Nat} {r : List Dm.Rg} {rv : Value} {R : List Int} (h : Rm (DrB rv) W (.slice ra n0 rc) r) (hR : Dm.Right r) (hr : 0 < r.length) (hd : Dw X W rv R) (hsz : 1 ≤ Dm.sizeR (Dm.tk r)) (hsz2 : Dm.sizeR (Dm.tk r) ≤ 4611686018427387904) :
    Calls Tryz.prog 41 #[.int .i64 2, .slice ra n0 rc, rv] W fun e w' => e = .returned (.tuple #[.int .i64 (numA 2 r R).1.1, .int .i64 (numA 2 r R).1.2]) ∧ Dw X w' rv (numA 2 r R).2 ∧ Kept (DrB rv) W w' := by
  have hln : r.length = n0 := by obtain ⟨_, _, e, _⟩ := h; injection e with _ e2 _; exact e2.symm
  have hD : Dc (DrB rv) W [.bool false, .slice ra n0 rc, .slice none 0 0, .slice none 0 0, .int .i64 0, .int .i64 0] ⟨false, r, [], [], 0, 0⟩ := by
    subst hln
    exact ⟨ra, rc, none, 0, none, 0, rfl, h, Nm.empty _ _, Nm.empty _ _⟩
  have ke := ends_w hD rfl hr (right_len hR)
  have hf : Dm.FitsR r := fun i hi => by have := hR.2 i hi; unfold Dm.OkAt at this; unfold Dm.Fits; omega
  have HSZ : Hid (∀ w, Kept (DrB rv) W w → Calls Tryz.prog 80 #[.slice ra n0 rc] w fun e w' => e = .returned (.int .i64 (Dm.sizeR (Dm.tk r))) ∧ Below w.heap.size w w') := fun w hk => Dm.domsize_any _ _ _ (h.kept hk).sr hf
  have HNT : Hid (∀ (q : Int) w, Kept (DrB rv) W w → 0 ≤ q → q ≤ 4611686018427387904 → Calls Tryz.prog 79 #[.slice ra n0 rc, .int .i64 q] w fun e w' => e = .returned (.int .i64 (nthR r q)) ∧ Below w.heap.size w w') := fun q w hk h1 h2 => nth_any (h.kept hk) hR q h1 h2
  have HLO : Hid (loM ⟨false, r, [], [], 0, 0⟩ = Dm.lo r 0 ∧ hiM ⟨false, r, [], [], 0, 0⟩ = Dm.hi r (r.length - 1)) := ⟨rfl, rfl⟩
  rw [HLO.out.1, HLO.out.2] at ke
  have b1 := hR.2 0 hr
  have b2 := hR.2 (r.length - 1) (by omega)
  unfold Dm.OkAt at b1 b2
  obtain ⟨o1, o2, o3, _⟩ := b1
  obtain ⟨o4, o5, o6, _⟩ := b2
  obtain ⟨ra', hra⟩ := hd.ptr
  have HDW : Hid (∀ w, Below W.heap.size W w → Dw X w rv R) := fun w hb => hd.below hb
  clear hD h hln HLO hd
  have HM : Hid (numA 2 r R = ((0, nthR r ((Dm.sizeR (Dm.tk r) - 1) / 2)), R)) := rfl
  rw [HM.out]
  generalize Dm.sizeR (Dm.tk r) = sz at *
  generalize Dm.lo r 0 = lo at *
  generalize Dm.hi r (r.length - 1) = hi at *
  have hq : (sz - 1).tdiv 2 = (sz - 1) / 2 := Int.tdiv_eq_ediv_of_nonneg (by omega)
  have hq1 : 0 ≤ (sz - 1) / 2 := by omega
  have hq2 : (sz - 1) / 2 ≤ 4611686018427387904 := by omega
  have hq3 : -9223372036854775808 ≤ (sz - 1) / 2 ∧ (sz - 1) / 2 ≤ 9223372036854775807 := by omega
  have hw0b : -9223372036854775808 ≤ lo + hi ∧ lo + hi ≤ 9223372036854775807 := by omega
  have hw1b : -9223372036854775808 ≤ sz - 1 ∧ sz - 1 ≤ 9223372036854775807 := by omega
  have hw0 := wrapU_in (lo + hi) hw0b
  have hw0i := wrapI_in (lo + hi) hw0b
  clear hw0b
  have hw1 := wrapU_in (sz - 1) hw1b
  have hw1i := wrapI_in (sz - 1) hw1b
  clear hw1b
  have hwq := wrapU_in ((sz - 1) / 2) hq3
  have hwqi := wrapI_in ((sz - 1) / 2) hq3
  generalize (sz - 1) / 2 = qq at *
  subst hra
  go_enter Tryz.func41, Tryz.ntmps41
  go_wp2_with fail
  refine ke.mono ?_
  rintro e w1 ⟨rfl, hb1⟩
  have HB1 : Hid (Below W.heap.size W w1) := hb1
  clear hb1 ke
  go_wp2_with fail
  refine (HSZ.out _ (Kept.of_below HB1.out)).mono ?_
  rintro e w2 ⟨rfl, hb2⟩
  have HB2 : Hid (Below W.heap.size W w2) := HB1.out.trans (hb2.mono HB1.out.size)
  clear hb2
  go_wp2_with fail
  refine (HNT.out qq _ (Kept.of_below HB2.out) hq1 hq2).mono ?_
  rintro e w3 ⟨rfl, hb3⟩
  have HB3 : Hid (Below W.heap.size W w3) := HB2.out.trans (hb3.mono HB2.out.size)
  clear hb3
  go_wp2
  go_ret2
  exact ⟨rfl, HDW.out _ HB3.out, Kept.of_below HB3.out⟩

set_option maxRecDepth 100000 in
set_option maxHeartbeats 4000000 in
theorem number_rand {X Z : Nat → Prop} {W : World} {ra : Option Addr} {n0 rc : Nat} {r : List Dm.Rg} {rv : Value} {R : List Int} (h : Rm (DrB rv) W (.slice ra n0 rc) r) (hR : Dm.Right r) (hr : 0 < r.length) (hd : Dw X W rv R) (hsz : 1 ≤ Dm.sizeR (Dm.tk r)) (hsz2 : Dm.sizeR (Dm.tk r) ≤ 4611686018427387904) :
    Calls Tryz.prog 41 #[.int .i64 5, .slice ra n0 rc, rv] W fun e w' => e = .returned (.tuple #[.int .i64 (numA 5 r R).1.1, .int .i64 (numA 5 r R).1.2]) ∧ Dw X w' rv (numA 5 r R).2 ∧ Kept (DrB rv) W w' := by
  have hln : r.length = n0 := by obtain ⟨_, _, e, _⟩ := h; injection e with _ e2 _; exact e2.symm
  have hD : Dc (DrB rv) W [.bool false, .slice ra n0 rc, .slice none 0 0, .slice none 0 0, .int .i64 0, .int .i64 0] ⟨false, r, [], [], 0, 0⟩ := by
    subst hln
    exact ⟨ra, rc, none, 0, none, 0, rfl, h, Nm.empty _ _, Nm.empty _ _⟩
  have ke := ends_w hD rfl hr (right_len hR)
  have hf : Dm.FitsR r := fun i hi => by have := hR.2 i hi; unfold Dm.OkAt at this; unfold Dm.Fits; omega
  have HSZ : Hid (∀ w, Kept (DrB rv) W w → Calls Tryz.prog 80 #[.slice ra n0 rc] w fun e w' => e = .returned (.int .i64 (Dm.sizeR (Dm.tk r))) ∧ Below w.heap.size w w') := fun w hk => Dm.domsize_any _ _ _ (h.kept hk).sr hf
  have HNT : Hid (∀ (q : Int) w, Kept (DrB rv) W w → 0 ≤ q → q ≤ 4611686018427387904 → Calls Tryz.prog 79 #[.slice ra n0 rc, .int .i64 q] w fun e w' => e = .returned (.int .i64 (nthR r q)) ∧ Below w.heap.size w w') := fun q w hk h1 h2 => nth_any (h.kept hk) hR q h1 h2
  have HLO : Hid (loM ⟨false, r, [], [], 0, 0⟩ = Dm.lo r 0 ∧ hiM ⟨false, r, [], [], 0, 0⟩ = Dm.hi r (r.length - 1)) := ⟨rfl, rfl⟩
  rw [HLO.out.1, HLO.out.2] at ke
  have b1 := hR.2 0 hr
  have b2 := hR.2 (r.length - 1) (by omega)
  unfold Dm.OkAt at b1 b2
  obtain ⟨o1, o2, o3, _⟩ := b1
  obtain ⟨o4, o5, o6, _⟩ := b2
  obtain ⟨ra', hra⟩ := hd.ptr
  have HDW : Hid (∀ w, Below W.heap.size W w → Dw X w rv R) := fun w hb => hd.below hb
  clear hD h hln HLO hd
  have HM : Hid (numA 5 r R = ((0, nthR r (nextM R (Dm.sizeR (Dm.tk r))).1), (nextM R (Dm.sizeR (Dm.tk r))).2)) := rfl
  rw [HM.out]
  have hnx := next_in R hsz
  have HNX : Hid (∀ w, Below W.heap.size W w → Calls Tryz.prog 74 #[rv, .int .i64 (Dm.sizeR (Dm.tk r))] w fun e w' => e = .returned (.int .i64 (nextM R (Dm.sizeR (Dm.tk r))).1) ∧ Dw X w' rv (nextM R (Dm.sizeR (Dm.tk r))).2 ∧ Kept (DrB rv) w w') := fun w hb => next_w (HDW.out w hb) _ (by omega)
  generalize (nextM R (Dm.sizeR (Dm.tk r))).1 = qq at *
  generalize (nextM R (Dm.sizeR (Dm.tk r))).2 = R' at *
  generalize Dm.sizeR (Dm.tk r) = sz at *
  generalize Dm.lo r 0 = lo at *
  generalize Dm.hi r (r.length - 1) = hi at *
  obtain ⟨hq1, hq2⟩ := hnx
  have hq3 : qq ≤ 4611686018427387904 := by omega
  have hw0b : -9223372036854775808 ≤ lo + hi ∧ lo + hi ≤ 9223372036854775807 := by omega
  have hw0 := wrapU_in (lo + hi) hw0b
  have hw0i := wrapI_in (lo + hi) hw0b
  clear hw0b
  subst hra
  go_enter Tryz.func41, Tryz.ntmps41
  go_wp2_with fail
  refine ke.mono ?_
  rintro e w1 ⟨rfl, hb1⟩
  have HB1 : Hid (Below W.heap.size W w1) := hb1
  clear hb1 ke
  go_wp2_with fail
  refine (HSZ.out _ (Kept.of_below HB1.out)).mono ?_
  rintro e w2 ⟨rfl, hb2⟩
  have HB2 : Hid (Below W.heap.size W w2) := HB1.out.trans (hb2.mono HB1.out.size)
  clear hb2
  go_wp2_with fail
  refine (HNX.out _ HB2.out).mono ?_
  rintro e w3 ⟨rfl, hd3, hk3⟩
  have HK3 : Hid (Kept _ W w3) := (Kept.of_below HB2.out).trans hk3 (Up.refl _ _)
  have HD3 : Hid (Dw X w3 _ R') := hd3
  clear hd3 hk3
  go_wp2_with fail
  refine (HNT.out qq _ HK3.out hq1 hq3).mono ?_
  rintro e w4 ⟨rfl, hb4⟩
  have HK4 : Hid (Kept _ W w4) := HK3.out.then_below hb4
  have HD4 : Hid (Dw X w4 _ R') := HD3.out.below hb4
  clear hb4
  go_wp2
  go_ret2
  exact ⟨rfl, HD4.out, HK4.out⟩
end Go.Proofs.YthkliicmoandmaaGreatDoor

namespace Go.Proofs.YthkliicmoandmaaGreatDoor
open Go.RowKit Go.Shelf
set_option linter.unusedVariables false
set_option linter.unusedSimpArgs false

/-- What is tried of a set's elements that may be there or not. -/
def elemA (how : Int) (fl R : List Int) : (Int × Int) × List Int :=
  if how = 1 ∨ how = 4 then ((4, St.nth fl (fl.length - 1)), R) else if how = 5 then ((4, St.nth fl (nextM R fl.length).1.toNat), (nextM R fl.length).2) else ((4, St.nth fl 0), R)
theorem Fresh.at {B : Nat} {w : World} {s : Value} {l : List Int} (h : St.Fresh B w s l) : ∃ A off cap, s = .slice (some ⟨A, off, none⟩) l.length cap ∧ B ≤ A ∧ A < w.heap.size ∧ ∀ i, i < l.length → w.cell? ⟨A, off + i, none⟩ = some (.int .i64 (St.nth l i)) := by
  obtain ⟨A, off, cap, cur, t, e, h1, h2, h3, h4⟩ := h
  exact ⟨A, off, cap, e, h1, h2, fun i hi => by rw [cell_of_row w A _ cur t _ h3]; exact h4 i hi⟩

set_option maxRecDepth 100000 in
set_option maxHeartbeats 4000000 in
theorem element_any {X Y : Nat → Prop} {W : World} {c : List Value} {d : MD} {rv : Value} {R : List Int} (how : Int) (h : Dc Y W c d) (hs : d.set = true) (hp : 0 < (freeL d).length) (hq : (freeL d).length ≤ 64) (hd : Dw X W rv R) :
    Calls Tryz.prog 40 #[.int .i64 how, .agg c.toArray, rv] W fun e w' => e = .returned (.tuple #[.int .i64 (elemA how (freeL d) R).1.1, .int .i64 (elemA how (freeL d) R).1.2]) ∧ Dw X w' rv (elemA how (freeL d) R).2 ∧ Kept (DrB rv) W w' := by
  obtain ⟨b, ra, n0, rc, a1, n1, c1, a2, n2, c2, x, y, rfl, HE, H1, H2, H3⟩ := h.look
  obtain rfl : b = true := by rw [← HE.out.1, hs]
  obtain ⟨W0, hW0⟩ : ∃ Q, W.alloc (Obj.cells #[.bool true, .slice ra n0 rc, .slice a1 n1 c1, .slice a2 n2 c2, .int .i64 x, .int .i64 y] 50) = Q := ⟨_, rfl⟩
  have hb0 : Below W.heap.size W W0 := by rw [← hW0]; exact (Below.refl _ W).alloc (Nat.le_refl _) _
  have HB0 : Hid (Bx W0 W.heap.size #[.bool true, .slice ra n0 rc, .slice a1 n1 c1, .slice a2 n2 c2, .int .i64 x, .int .i64 y] 50) := by rw [← hW0]; exact Bx.new _ _ _
  have kl := St.less_any (.slice a2 n2 c2) (.slice a1 n1 c1) d.up d.lo W0 (H3.out.si.below hb0) (H2.out.si.below hb0)
  have HF : Hid (St.lessL (St.tkS d.up) (St.tkS d.lo) = freeL d) := rfl
  rw [HF.out] at kl
  generalize freeL d = fl at *
  have HBB : Hid (Below W.heap.size W W0) := hb0
  have HWW : Hid _ := hW0
  have HDW : Hid (∀ w, Below W.heap.size W w → Dw X w rv R) := fun w hb => hd.below hb
  have HDL : Hid (∀ b, DrB rv b → b < W.heap.size) := fun b hb => hd.lt hb
  obtain ⟨ra', hra⟩ := hd.ptr
  obtain ⟨z0, z1, z2, z3, z4, z5⟩ := HB0.out.six
  clear hb0 hW0 H1 H2 H3 HE hs h HF hd
  have KL : Hid _ := kl
  clear kl
  by_cases h14 : how = 1 ∨ how = 4
  · have HM : Hid (elemA how fl R = ((4, St.nth fl (fl.length - 1)), R)) := if_pos h14
    rw [HM.out]
    obtain ⟨nf, hnf⟩ : ∃ q, fl.length = q := ⟨_, rfl⟩
    rw [hnf] at hp hq ⊢
    obtain ⟨q1, hq1⟩ : ∃ q, St.nth fl (nf - 1) = q := ⟨_, rfl⟩
    rw [hq1]
    have HQ1 : Hid _ := hq1
    have HNF : Hid (fl.length = nf) := hnf
    have hcast : ((nf : Int) - 1) = ((nf - 1 : Nat) : Int) := by omega
    have hw1 : wrap64 ((nf : Int) - 1) = ((nf - 1 : Nat) : Int) := by unfold wrap64; omega
    have hlt1 : nf - 1 < nf := by omega
    clear hnf hq1 HM
    subst hra
    rcases h14 with rfl | rfl
    all_goals
      go_enter Tryz.func40, Tryz.ntmps40
      go_upto_region 1 with (fail)
      rw [HWW.out]
      go_wp2_with fail
      refine Calls.mono KL.out ?_
      clear z0 z1 z2 z3 z4 z5
      rintro e w1 ⟨v, rfl, hfr, hb1⟩
      obtain ⟨b1, off1, fc, rfl, _, _, hcell⟩ := Fresh.at hfr
      rw [HNF.out] at hcell ⊢
      have g1 := hcell (nf - 1) hlt1
      rw [HQ1.out] at g1
      have HB2 : Hid (Below W.heap.size W w1) := HBB.out.trans (hb1.mono HBB.out.size)
      generalize nf - 1 = m at *
      clear hfr hcell hb1
      go_upto_region 5 with (fail)
      go_quiet (fail)
      go_wp2
      go_ret2
      exact ⟨rfl, HDW.out _ (below_drewN HB2.out _), Kept.of_below (below_drewN HB2.out _)⟩
  · by_cases h5 : how = 5
    · subst h5
      have HM : Hid (elemA 5 fl R = ((4, St.nth fl (nextM R fl.length).1.toNat), (nextM R fl.length).2)) := rfl
      rw [HM.out]
      have hnx := next_in R (m := (fl.length : Int)) (by omega)
      obtain ⟨kk, hkk⟩ : ∃ k : Nat, (nextM R (fl.length : Int)).1 = (k : Int) := ⟨(nextM R (fl.length : Int)).1.toNat, by omega⟩
      have hkl : kk < fl.length := by omega
      have HNX : Hid (∀ w, Below W.heap.size W w → Calls Tryz.prog 74 #[rv, .int .i64 (fl.length : Int)] w fun e w' => e = .returned (.int .i64 (kk : Int)) ∧ Dw X w' rv (nextM R fl.length).2 ∧ Kept (DrB rv) w w') := fun w hb => by
        have := next_w (HDW.out w hb) (fl.length : Int) (by omega)
        rw [hkk] at this
        exact this
      have hqq : St.nth fl (nextM R (fl.length : Int)).1.toNat = St.nth fl kk := by rw [hkk]; rfl
      rw [hqq]
      generalize (nextM R (fl.length : Int)).2 = R' at *
      obtain ⟨nf, hnf⟩ : ∃ q, fl.length = q := ⟨_, rfl⟩
      rw [hnf] at hp hq hkl HNX
      obtain ⟨q1, hq1⟩ : ∃ q, St.nth fl kk = q := ⟨_, rfl⟩
      rw [hq1]
      have HQ1 : Hid _ := hq1
      have HNF : Hid (fl.length = nf) := hnf
      have hkl' : (kk : Int) < (nf : Int) := by omega
      clear hnf hq1 HM hnx hkk hqq h14
      subst hra
      go_enter Tryz.func40, Tryz.ntmps40
      go_upto_region 1 with (fail)
      rw [HWW.out]
      go_wp2_with fail
      refine Calls.mono KL.out ?_
      clear z0 z1 z2 z3 z4 z5
      rintro e w1 ⟨v, rfl, hfr, hb1⟩
      obtain ⟨b1, off1, fc, rfl, hB1, hl1, hcell⟩ := Fresh.at hfr
      rw [HNF.out] at hcell ⊢
      have g1 := hcell kk hkl
      rw [HQ1.out] at g1
      have HB2 : Hid (Below W.heap.size W w1) := HBB.out.trans (hb1.mono HBB.out.size)
      have HX1 : Hid (¬ DrB (.pointer ra') b1) := fun h => by have := HDL.out b1 h; have := HBB.out.size; omega
      have FS : Hid (∀ w, Kept (DrB (.pointer ra')) w1 w → w.cell? ⟨b1, off1 + kk, none⟩ = some (.int .i64 q1)) := fun w hk => (hk.cell hl1 HX1.out _).trans g1
      have HK0 : Hid (Kept (DrB (.pointer ra')) w1 w1.drew) := Kept.of_below (Below.refl _ _).drew
      have KN := HNX.out w1.drew (HB2.out.drew)
      have HKN : Hid _ := KN
      clear hfr hcell hb1 g1 KN
      go_upto_region 7 with (fail)
      refine wp_region_held_drew (S := fun X : World => X.cell? ⟨b1, off1 + kk, none⟩ = some (.int .i64 q1)) (by kernel_rfl) (FS.out _ HK0.out) (fun hHeld => ?_)
      refine wpAnyH_take (i := 0) (oi := { dst := some 26, op := Go.Op.move (Go.Operand.tmp 8), type := 48, pos := "choose.go:163", after := #[{ on := 7, ground := Go.Ground.gcOnly Go.Departure.lateStores }], guard := none }) (v := ?_) rfl (by kernel_rfl) (by kernel_rfl) (by kernel_rfl) (fun _ _ _ h => h) (Or.inl ⟨by rfl, ?_⟩) hHeld ?_
      rotate_left
      · intro w hSw; (try dsimp only at hSw); go_simp <;> with_reducible rfl
      try simp only [Act.put, List.setIfInBounds_toArray, List.set_cons_zero, List.set_cons_succ]
      refine wpAnyH_take (i := 1) (oi := { dst := some 27, op := Go.Op.move (Go.Operand.tmp 2), type := 26, pos := "choose.go:163", after := #[], guard := none }) (v := ?_) rfl (by kernel_rfl) (by kernel_rfl) (by kernel_rfl) (fun _ _ _ h => h) (Or.inl ⟨by rfl, ?_⟩) hHeld ?_
      rotate_left
      · intro w hSw; (try dsimp only at hSw); go_simp <;> with_reducible rfl
      try simp only [Act.put, List.setIfInBounds_toArray, List.set_cons_zero, List.set_cons_succ]
      refine wpAnyH_take (i := 2) (oi := { dst := some 28, op := Go.Op.move (Go.Operand.tmp 8), type := 48, pos := "choose.go:163", after := #[], guard := none }) (v := ?_) rfl (by kernel_rfl) (by kernel_rfl) (by kernel_rfl) (fun _ _ _ h => h) (Or.inl ⟨by rfl, ?_⟩) hHeld ?_
      rotate_left
      · intro w hSw; (try dsimp only at hSw); go_simp <;> with_reducible rfl
      try simp only [Act.put, List.setIfInBounds_toArray, List.set_cons_zero, List.set_cons_succ]
      refine wpAnyH_take (i := 3) (oi := { dst := some 29, op := Go.Op.call { callee := Go.Callee.builtin Go.Builtin.len, args := #[Go.Operand.tmp 28], argTypes := #[48] }, type := 3, pos := "choose.go:163", after := #[{ on := 2, ground := Go.Ground.data }], guard := none }) (v := ?_) rfl (by kernel_rfl) (by kernel_rfl) (by kernel_rfl) (fun _ _ _ h => h) (Or.inl ⟨by rfl, ?_⟩) hHeld ?_
      rotate_left
      · intro w hSw; (try dsimp only at hSw); go_simp <;> with_reducible rfl
      try simp only [Act.put, List.setIfInBounds_toArray, List.set_cons_zero, List.set_cons_succ]
      refine wpAnyH_ready (rs := [4]) (by kernel_rfl) (by simp) ?_
      refine AllReadyH.cons rfl (fun K hK => ?_) AllReadyH.nil
      go_simp
      refine Calls.mono HKN.out ?_
      rintro e u1 ⟨rfl, hdw, hk1⟩
      have HDU : Hid (Dw X u1 _ R') := hdw
      have HK1 : Hid (Kept _ w1 u1) := HK0.out.trans hk1 (Up.refl _ _)
      clear hdw hk1
      refine hK.out _ _ (FS.out _ HK1.out) (fun hHeld2 => ?_)
      clear hK K hHeld
      have hHeld := hHeld2
      clear hHeld2
      try simp only [Act.put, List.setIfInBounds_toArray, List.set_cons_zero, List.set_cons_succ]
      refine wpAnyH_take (i := 5) (oi := { dst := some 31, op := Go.Op.indexAddr 48 (Go.Operand.tmp 26) (Go.Operand.tmp 30), type := 0, pos := "choose.go:163", after := #[{ on := 0, ground := Go.Ground.data }, { on := 4, ground := Go.Ground.data }, { on := 7, ground := Go.Ground.gcOnly Go.Departure.lateStores }], guard := none }) (v := ?_) rfl (by kernel_rfl) (by kernel_rfl) (by kernel_rfl) (fun _ _ _ h => h) (Or.inl ⟨by rfl, ?_⟩) hHeld ?_
      rotate_left
      · intro w hSw; (try dsimp only at hSw); go_simp <;> with_reducible rfl
      try simp only [Act.put, List.setIfInBounds_toArray, List.set_cons_zero, List.set_cons_succ]
      refine wpAnyH_take (i := 6) (oi := { dst := some 32, op := Go.Op.load 2 (Go.Operand.tmp 31), type := 2, pos := "choose.go:163", after := #[{ on := 5, ground := Go.Ground.data }, { on := 7, ground := Go.Ground.gcOnly Go.Departure.lateStores }], guard := none }) (v := ?_) rfl (by kernel_rfl) (by kernel_rfl) (by kernel_rfl) (fun _ _ _ h => h) (Or.inl ⟨by rfl, ?_⟩) hHeld ?_
      rotate_left
      · intro w hSw; have hC := hSw; go_simp <;> with_reducible rfl
      try simp only [Act.put, List.setIfInBounds_toArray, List.set_cons_zero, List.set_cons_succ]
      refine wpAnyH_take (i := 7) (oi := { dst := some 6, op := Go.Op.assign (Go.Operand.const (Go.Value.int Go.IntKind.i64 4)), type := 3, pos := "choose.go:163", after := #[{ on := 4, ground := Go.Ground.chain }, { on := 0, ground := Go.Ground.textOnly Go.Departure.lateStores }, { on := 1, ground := Go.Ground.textOnly Go.Departure.lateStores }, { on := 2, ground := Go.Ground.textOnly Go.Departure.lateStores }, { on := 3, ground := Go.Ground.textOnly Go.Departure.lateStoresUnsure }, { on := 4, ground := Go.Ground.textOnly Go.Departure.lateStoresUnsure }, { on := 5, ground := Go.Ground.textOnly Go.Departure.lateStores }, { on := 6, ground := Go.Ground.textOnly Go.Departure.lateStores }], guard := none }) (v := ?_) rfl (by kernel_rfl) (by kernel_rfl) (by kernel_rfl) (fun _ _ _ h => h) (Or.inl ⟨by rfl, ?_⟩) hHeld ?_
      rotate_left
      · intro w hSw; (try dsimp only at hSw); go_simp <;> with_reducible rfl
      try simp only [Act.put, List.setIfInBounds_toArray, List.set_cons_zero, List.set_cons_succ]
      refine wpAnyH_take (i := 8) (oi := { dst := some 7, op := Go.Op.assign (Go.Operand.tmp 32), type := 2, pos := "choose.go:163", after := #[{ on := 6, ground := Go.Ground.data }, { on := 7, ground := Go.Ground.chain }, { on := 0, ground := Go.Ground.phase }, { on := 1, ground := Go.Ground.phase }, { on := 2, ground := Go.Ground.phase }, { on := 3, ground := Go.Ground.phase }, { on := 4, ground := Go.Ground.phase }, { on := 5, ground := Go.Ground.phase }, { on := 6, ground := Go.Ground.phase }, { on := 7, ground := Go.Ground.phase }], guard := none }) (v := ?_) rfl (by kernel_rfl) (by kernel_rfl) (by kernel_rfl) (fun _ _ _ h => h) (Or.inl ⟨by rfl, ?_⟩) hHeld ?_
      rotate_left
      · intro w hSw; (try dsimp only at hSw); go_simp <;> with_reducible rfl
      try simp only [Act.put, List.setIfInBounds_toArray, List.set_cons_zero, List.set_cons_succ]
      refine wpAnyH_done (by kernel_rfl) ?_ _
      go_wp2
      go_ret2
      exact ⟨rfl, HDU.out, (Kept.of_below HB2.out).trans HK1.out (Up.refl _ _)⟩
    · have HM : Hid (elemA how fl R = ((4, St.nth fl 0), R)) := by unfold Hid elemA; rw [if_neg h14, if_neg h5]
      rw [HM.out]
      have e1 : (how == 1) = false := by simpa using fun h => h14 (.inl h)
      have e4 : (how == 4) = false := by simpa using fun h => h14 (.inr h)
      have e5 : (how == 5) = false := by simpa using h5
      obtain ⟨nf, hnf⟩ : ∃ q, fl.length = q := ⟨_, rfl⟩
      rw [hnf] at hp hq
      obtain ⟨q1, hq1⟩ : ∃ q, St.nth fl 0 = q := ⟨_, rfl⟩
      rw [hq1]
      have HQ1 : Hid _ := hq1
      have HNF : Hid (fl.length = nf) := hnf
      clear hnf hq1 HM h14 h5
      subst hra
      go_enter Tryz.func40, Tryz.ntmps40
      go_upto_region 1 with (fail)
      rw [HWW.out]
      go_wp2_with fail
      refine Calls.mono KL.out ?_
      clear z0 z1 z2 z3 z4 z5
      rintro e w1 ⟨v, rfl, hfr, hb1⟩
      obtain ⟨b1, off1, fc, rfl, _, _, hcell⟩ := Fresh.at hfr
      rw [HNF.out] at hcell ⊢
      have g1 := hcell 0 hp
      rw [HQ1.out, Nat.add_zero] at g1
      have HB2 : Hid (Below W.heap.size W w1) := HBB.out.trans (hb1.mono HBB.out.size)
      clear hfr hcell hb1
      go_upto_region 8 with (fail)
      go_quiet (fail)
      go_wp2
      go_ret2
      exact ⟨rfl, HDW.out _ (below_drewN HB2.out _), Kept.of_below (below_drewN HB2.out _)⟩

theorem number_all {X : Nat → Prop} {W : World} {ra : Option Addr} {n0 rc : Nat} {r : List Dm.Rg} {rv : Value} {R : List Int} (how : Int) (h : Rm (DrB rv) W (.slice ra n0 rc) r) (hR : Dm.Right r) (hr : 0 < r.length) (hd : Dw X W rv R) (hsz : 1 ≤ Dm.sizeR (Dm.tk r)) (hsz2 : Dm.sizeR (Dm.tk r) ≤ 4611686018427387904) :
    Calls Tryz.prog 41 #[.int .i64 how, .slice ra n0 rc, rv] W fun e w' => e = .returned (.tuple #[.int .i64 (numA how r R).1.1, .int .i64 (numA how r R).1.2]) ∧ Dw X w' rv (numA how r R).2 ∧ Kept (DrB rv) W w' := by
  by_cases h2 : how = 2
  · subst h2; exact number_med (Z := X) h hR hr hd hsz hsz2
  by_cases h5 : how = 5
  · subst h5; exact number_rand (Z := X) h hR hr hd hsz hsz2
  have e : numA how r R = (numM how (Dm.lo r 0) (Dm.hi r (r.length - 1)), R) := by unfold numA; rw [if_neg h2, if_neg h5]
  rw [e]
  have b1 := hR.2 0 hr
  have b2 := hR.2 (r.length - 1) (by omega)
  unfold Dm.OkAt at b1 b2
  exact (number_few h hr (right_len hR) how h2 h5 rv hd.one (by omega)).mono fun e w' ⟨he, hb⟩ => ⟨he, hd.below hb, Kept.of_below hb⟩
end Go.Proofs.YthkliicmoandmaaGreatDoor

namespace Go.Proofs.YthkliicmoandmaaGreatDoor
open Go.RowKit Go.Shelf
set_option linter.unusedVariables false
set_option linter.unusedSimpArgs false

/-- Which variable is taken, and what is left of the draws. -/
def selM (p : Ph) (D : List MD) (R : List Int) : Int × List Int :=
  if p.sel = 5 then (St.nth p.vars (nextM R p.vars.length).1.toNat, (nextM R p.vars.length).2) else ((whichM (rkV (rankF p.sel) D) p.vars).1, R)
theorem which_mem (f : Int → Int) : ∀ (l : List Int) (b : Int × Int × Bool), (l.foldl (fun b v => offM b v (f v)) b).1 ∈ l ∨ (l.foldl (fun b v => offM b v (f v)) b) = b
  | [], b => .inr rfl
  | v :: t, b => by
    rw [List.foldl_cons]
    rcases which_mem f t (offM b v (f v)) with h | h
    · exact .inl (List.mem_cons_of_mem _ h)
    · rw [h]
      unfold offM
      split
      · exact .inl (by simp)
      · exact .inr rfl
theorem which_in (f : Int → Int) {l : List Int} (h : l ≠ []) : (whichM f l).1 ∈ l := by
  cases l with
  | nil => exact absurd rfl h
  | cons v t =>
    unfold whichM
    rw [List.foldl_cons]
    rcases which_mem f t (offM (0, 0, false) v (f v)) with q | q
    · exact List.mem_cons_of_mem _ q
    · rw [q]; unfold offM; rw [if_pos (.inl rfl)]; simp
theorem sel_in {p : Ph} (D : List MD) (R : List Int) (h : p.vars ≠ []) : (selM p D R).1 ∈ p.vars := by
  unfold selM
  split
  · have hl : 0 < p.vars.length := List.length_pos_iff.2 h
    have hn := next_in R (m := (p.vars.length : Int)) (by omega)
    have hk : (nextM R (p.vars.length : Int)).1.toNat < p.vars.length := by omega
    exact List.mem_of_getElem? (nth_get hk)
  · exact which_in _ h
theorem phase_open (D : List MD) : ∀ (L : List Ph), ∀ v ∈ (phaseM D L).vars, openB D v = true
  | [], v, hv => (List.mem_filter.1 hv).2
  | p :: L, v, hv => by
    unfold phaseM at hv
    split at hv
    · exact phase_open D L v hv
    · exact (List.mem_filter.1 hv).2
theorem phase_len (D : List MD) : ∀ (L : List Ph), SzP L D → (phaseM D L).vars.length * 8 ≤ 140737488355328
  | [], h => by
    have := openL_le (rangeI D.length) D
    rw [rangeI_len] at this
    have := h.d
    show (openAll D).length * 8 ≤ _
    unfold openAll
    omega
  | p :: L, h => by
    unfold phaseM
    split
    · exact phase_len D L ⟨fun q hq => h.v q (by simp [hq]), h.d, by have := h.l; simp at this; omega⟩
    · have := openL_le p.vars D
      have := h.v p (by simp)
      simp only
      omega
/-- The variable's number, how, the value; whether there is a decision; and what is left of the draws. -/
def chooseM (L : List Ph) (D : List MD) (R : List Int) : (Int × Int × Int × Bool) × List Int :=
  if (phaseM D L).vars = [] then ((0, 0, 0, false), R) else
    let s := selM (phaseM D L) D R
    let d := (D[s.1.toNat]?).getD ⟨false, [], [], [], 0, 0⟩
    let t := if d.set then elemA (phaseM D L).val (freeL d) s.2 else numA (phaseM D L).val d.r s.2
    ((s.1, t.1.1, t.1.2, true), t.2)
theorem oi_nm {B : Nat} {w : World} {v : Value} {l : List Int} {Z : Nat → Prop} (h : Oi B w v l) (hZ : ∀ b, Z b → b < B) : Nm Z w v l := by
  rcases h.2 with ⟨e1, e2⟩ | ⟨g, cap, cur, e1, hB, hg, hn, hm, hs, ht⟩
  · exact ⟨none, 0, by rw [e1, e2], fun h0 => by omega⟩
  · refine ⟨some ⟨g, 0, none⟩, cap, e1, fun h0 => ⟨g, 0, rfl, (Array.getElem?_eq_some_iff.1 hg).1, fun q => by have := hZ g q; omega, fun i x hx => ?_⟩⟩
    have hi := (List.getElem?_eq_some_iff.1 hx).1
    have hc : w.cell? ⟨g, 0 + i, none⟩ = cur[i]? := by simp [World.cell?, hg]
    have h1 : (ivl l)[i]? = some (.int .i64 x) := by simp [ivl, hx]
    rw [← ht, List.getElem?_take, if_pos (by omega), Array.getElem?_toList] at h1
    rw [hc]; exact h1
theorem Dw.set3 {X : Nat → Prop} {w : World} {rv : Value} {l : List Int} {N : Nat} {u0 u1 u2 : Value} (h : Dw X w rv l) (hX : X N) (hn : ¬ DrB rv N) : Dw X (((w.setCell ⟨N, 0, none⟩ u0).setCell ⟨N, 1, none⟩ u1).setCell ⟨N, 2, none⟩ u2) rv l := by
  rcases h with h | ⟨p, rfl, h⟩
  · exact .inl h
  · have hp : p ≠ N := fun e => hn (by rw [e]; rfl)
    exact .inr ⟨p, rfl, ((h.kept (Kept.set N 0 u0) hp hX).kept (Kept.set N 1 u1) hp hX).kept (Kept.set N 2 u2) hp hX⟩
theorem Dw.more {X : Nat → Prop} {w : World} {rv : Value} {l : List Int} (h : Dw X w rv l) : Dw (fun b => X b ∨ w.heap.size ≤ b) w rv l := by
  rcases h with h | ⟨p, e, a, c, h1, h2, h3, h4⟩
  · exact .inl h
  · exact .inr ⟨p, e, a, c, h1, h2, h3, fun h0 => by obtain ⟨b, off, q1, q2, q3, q4, q5⟩ := h4 h0; exact ⟨b, off, q1, q2, q3, fun q => q.elim q4 (fun q => by omega), q5⟩⟩
theorem Dw.less {X X' : Nat → Prop} {w : World} {rv : Value} {l : List Int} (h : Dw X' w rv l) (hX : ∀ b, X b → X' b) : Dw X w rv l := by
  rcases h with h | ⟨p, e, a, c, h1, h2, h3, h4⟩
  · exact .inl h
  · exact .inr ⟨p, e, a, c, h1, h2, h3, fun h0 => by obtain ⟨b, off, q1, q2, q3, q4, q5⟩ := h4 h0; exact ⟨b, off, q1, q2, q3, fun q => q4 (hX b q), q5⟩⟩
theorem which_all {X : Nat → Prop} {W : World} {pv : Option Addr} {nl kv : Nat} {p2 : Option Addr} {nd k2 : Nat} {p : Ph} {D : List MD} {R : List Int} {rv : Value} (hv : Nm (DrB rv) W (.slice pv nl kv) p.vars) (hd : Ds W (.slice p2 nd k2) D) (hD : ∀ d ∈ D, Good d) (ho : ∀ v ∈ p.vars, openB D v = true) (h0 : p.vars ≠ []) (hl : p.vars.length ≤ 9223372036854775806) (hDl : D.length ≤ 9223372036854775806) (hr : Dw X W rv R) :
    Calls Tryz.prog 39 #[.agg #[.slice pv nl kv, .int .i64 p.sel, .int .i64 p.val], .slice p2 nd k2, rv] W fun e w' => e = .returned (.int .i64 (selM p D R).1) ∧ Dw X w' rv (selM p D R).2 ∧ Kept (DrB rv) W w' := by
  unfold selM
  by_cases h5 : p.sel = 5
  · rw [if_pos h5, h5]
    exact which_rand hv (List.length_pos_iff.2 h0) hl hr
  · rw [if_neg h5]
    have hns : Ns W (.slice pv nl kv) p.vars := by
      obtain ⟨a, c, e, hc⟩ := hv
      exact ⟨a, c, e, fun q => by obtain ⟨b, off, e1, e2, _, e4⟩ := hc q; exact ⟨b, off, e1, e2, fun h => h, e4⟩⟩
    exact (which_any rv h5 (rank_all p.sel) hns hd hD ho hl hDl hr.one).mono fun e w' ⟨he, hb⟩ => ⟨he, hr.below hb, Kept.of_below hb⟩

end Go.Proofs.YthkliicmoandmaaGreatDoor
