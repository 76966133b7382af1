/-
  What is proved here: The reference: can an output be?
-/
import Derived.Test.YtdnhhmnllhlbbaaGreatDoorQd
import Derived.Test.YtdnhhmnllhlbbaaGreatDoorQc
namespace Go.Proofs.YtdnhhmnllhlbbaaGreatDoor
open Go.RowKit Go.Shelf
set_option linter.unusedVariables false
set_option linter.unusedSimpArgs false
theorem wrB_not (o : Ou) : (!wrB o) = (wordB o.nm && (kindB o.kind && (shB o && !anyB (wtA o.l o.kind) o.l.length))) := by
  unfold wrB
  cases wordB o.nm <;> cases kindB o.kind <;> cases shB o <;> cases anyB (wtA o.l o.kind) o.l.length <;> rfl
def badD (l : List (Int × Int)) (k : Nat) : Bool := match l[k]? with
  | some x => !bndB x.1 || !bndB x.2
  | none => false
theorem any_yes {p : Nat → Bool} {n k : Nat} (hk : k < n) (h : p k = true) : anyB p n = true := List.any_eq_true.2 ⟨k, List.mem_range.2 hk, h⟩
theorem any_no {p : Nat → Bool} {n : Nat} (h : ∀ k, k < n → p k = false) : anyB p n = false := List.any_eq_false.2 fun k hk => by rw [h k (List.mem_range.1 hk)]; simp
theorem shB_one {o : Ou} (h : o.one = true) : shB o = (decide (o.l.length = 1) && decide (o.dims.length = 0)) := by unfold shB; rw [if_pos h]
theorem shB_more {o : Ou} (h : o.one = false) : shB o = (decide (1 ≤ o.dims.length) && (decide (o.dims.length ≤ 16) && (!anyB (badD o.dims) o.dims.length && decide (prodM o.dims ((o.l.length : Int) + 1) 1 = (o.l.length : Int))))) := by unfold shB; rw [if_neg (by rw [h]; simp)]; rfl
theorem kindB_lo {k : Int} (h : k < 1) : kindB k = false := by unfold kindB; simp; omega
theorem kindB_hi {k : Int} (h : 3 < k) : kindB k = false := by unfold kindB; simp; omega
theorem kindB_in {k : Int} (h : ¬ k < 1) (h2 : ¬ 3 < k) : kindB k = true := by unfold kindB; simp; omega
theorem succ_all {p : Nat → Bool} {k : Nat} (h : ∀ j, j < k → p j = false) (hk : p k = false) : ∀ j, j < k + 1 → p j = false := fun j hj => by
  rcases Nat.lt_or_ge j k with q | q
  · exact h j q
  · obtain rfl : j = k := by omega
    exact hk

set_option maxRecDepth 100000 in
set_option maxHeartbeats 4000000 in
theorem rright39 {W : World} {dv lv : Value} (o : Ou) (hd : Rgs W dv o.dims) (hl : St 0 W lv o.l) (hz : OuZ o) :
    Calls Tryz.prog 39 #[.agg #[.string (bs o.nm), dv, lv, .int .i64 o.kind, .bool o.one]] W fun e w' => e = .returned (.bool (!wrB o)) ∧ Below W.heap.size W w' := by
  obtain ⟨da, dc, rfl, hd'⟩ := hd
  obtain ⟨la, lc, rfl, hl'⟩ := hl
  have HD : Hid (Rgs W (.slice da o.dims.length dc) o.dims) := ⟨_, _, rfl, hd'⟩
  have HL : Hid (St 0 W (.slice la o.l.length lc) o.l) := ⟨_, _, rfl, hl'⟩
  have HTZ : Hid (∀ t ∈ o.l, t.s.length ≤ 17592186043904) := hz.t
  have hmz := hz.l
  obtain ⟨r, hr⟩ : ∃ r, (!wrB o) = r := ⟨_, rfl⟩
  have HR : Hid (r = (wordB o.nm && (kindB o.kind && (shB o && !anyB (wtA o.l o.kind) o.l.length)))) := by rw [Hid, ← hr, wrB_not]
  rw [hr]
  have kw := fun Q => rword65 o.nm hz.nm Q
  obtain ⟨n, hn⟩ : ∃ n, o.dims.length = n := ⟨_, rfl⟩
  obtain ⟨m, hm⟩ : ∃ n, o.l.length = n := ⟨_, rfl⟩
  obtain ⟨kd, hkd⟩ : ∃ k, o.kind = k := ⟨_, rfl⟩
  obtain ⟨one, hone⟩ : ∃ k, o.one = k := ⟨_, rfl⟩
  obtain ⟨N, hN⟩ : ∃ k, bs o.nm = k := ⟨_, rfl⟩
  obtain ⟨wd, hwd⟩ : ∃ k, wordB o.nm = k := ⟨_, rfl⟩
  have HV : Hid (o.dims.length = n ∧ o.l.length = m ∧ o.kind = kd ∧ o.one = one) := ⟨hn, hm, hkd, hone⟩
  rw [hn] at HD
  rw [hm] at HL HR hmz
  rw [hkd, hwd] at HR
  simp only [hN, hwd] at kw
  rw [hn, hm, hkd, hone, hN]
  obtain ⟨A, hA⟩ : ∃ A, W.heap.size = A := ⟨_, rfl⟩
  obtain ⟨w1, hw1⟩ : ∃ q, W.alloc (Obj.cells #[.string N, .slice da n dc, .slice la m lc, .int .i64 kd, .bool one] 53) = q := ⟨_, rfl⟩
  have hb1 : Below W.heap.size W w1 := by rw [← hw1]; exact (Below.refl _ _).alloc (Nat.le_refl _) _
  have HX1 : Hid (Blk w1 A #[.string N, .slice da n dc, .slice la m lc, .int .i64 kd, .bool one] 53) := by rw [← hw1, ← hA]; exact Blk.new _ _ _
  have HB1 := hid hb1
  have HW := hid hw1
  have HA := hid hA
  have KW := hid kw
  clear hd' hl' hz hr hn hm hkd hone hN hwd hA hw1 hb1 kw
  have z0 := HX1.out.cell 0
  have z1 := HX1.out.cell 1
  have z2 := HX1.out.cell 2
  have z3 := HX1.out.cell 3
  have z4 := HX1.out.cell 4
  go_enter Tryz.func39, Tryz.ntmps39
  go_upto_region 1 with (fail)
  rw [HW.out, HA.out]
  clear HW
  go_wp2_with fail
  refine (KW.out w1).mono ?_
  rintro e w1 ⟨rfl, rfl⟩
  clear KW
  cases wd
  · have HF : Hid (r = false) := by rw [Hid, HR.out]; rfl
    go_wp2
    go_ret
    exact ⟨ret_boolQ HF.out.symm, HB1.out⟩
  have HWD : Hid (true = true) := rfl
  by_cases hk1 : kd < 1
  · have HF : Hid (r = false) := by rw [Hid, HR.out, kindB_lo hk1]; simp
    go_wp2
    go_ret
    exact ⟨ret_boolQ HF.out.symm, HB1.out⟩
  by_cases hk3 : 3 < kd
  · have HF : Hid (r = false) := by rw [Hid, HR.out, kindB_hi hk3]; simp
    go_wp2
    go_ret
    exact ⟨ret_boolQ HF.out.symm, HB1.out⟩
  have HKD : Hid (kindB kd = true) := kindB_in hk1 hk3
  cases one
  rotate_left 1
  · have HSH : Hid (shB o = (decide (m = 1) && decide (n = 0))) := by rw [Hid, shB_one HV.out.2.2.2, HV.out.1, HV.out.2.1]
    by_cases hm1 : m = 1
    rotate_left 1
    · have g1 : ((m : Int) == 1) = false := by simp; omega
      have g2 : ((m : Int) != 1) = true := by simp; omega
      have HF : Hid (r = false) := by rw [Hid, HR.out, HSH.out, decide_eq_false hm1]; simp
      go_wp2
      go_ret
      exact ⟨ret_boolQ HF.out.symm, HB1.out⟩
    subst hm1
    by_cases hn0 : n = 0
    rotate_left 1
    · have g1 : ((n : Int) == 0) = false := by simp; omega
      have g2 : ((n : Int) != 0) = true := by simp; omega
      have HF : Hid (r = false) := by rw [Hid, HR.out, HSH.out, decide_eq_false hn0]; simp
      go_wp2
      go_ret
      exact ⟨ret_boolQ HF.out.symm, HB1.out⟩
    subst hn0
    have HSHT : Hid (shB o = true) := by rw [Hid, HSH.out]; rfl
    go_wp2
    go_loopw [5, 6] (fun i t6 wr => ∃ (k : Nat), i = .int .i64 (k : Int) ∧ k ≤ 1 ∧ Hid (∀ j, j < k → wtA o.l kd j = false) ∧ Hid (Below w1.heap.size w1 wr)) (fun i _ _ => 1 - (intOf i).toNat)
    case atStart => exact ⟨0, rfl, Nat.zero_le _, fun j hj => absurd hj (by omega), Below.refl _ _⟩
    case round =>
      obtain ⟨k, rfl, hk, HAL, HBB⟩ := hrel
      have z2 := (HX1.out.below HBB.out).cell 2
      have z3 := (HX1.out.below HBB.out).cell 3
      by_cases hlt : k < 1
      rotate_left 1
      · have hlt9 : ¬ (k : Int) < 1 := by omega
        have HF : Hid (r = true) := by
          have e : anyB (wtA o.l kd) 1 = false := any_no (fun j hj => HAL.out j (by omega))
          rw [Hid, HR.out, HKD.out, HSHT.out, e]; rfl
        go_wp2
        go_ret
        exact ⟨ret_boolQ HF.out.symm, HB1.out.trans ((HBB.out).mono HB1.out.size)⟩
      have hlt9 : (k : Int) < 1 := by omega
      obtain ⟨t, ht⟩ : ∃ x, o.l[k]? = some x := ⟨_, List.getElem?_eq_getElem (by rw [HV.out.2.1]; exact hlt)⟩
      obtain ⟨b, off, sv, rfl, hb, hsi, d0, d1, d2, d3⟩ := st_at HL.out ht
      obtain ⟨sa, sc, rfl, _⟩ := id hsi
      have hbw : Below W.heap.size W wr := HB1.out.trans ((HBB.out).mono HB1.out.size)
      have y0 := (hbw.cell (p := ⟨b, off + k * 4, none⟩) hb).trans d0
      have y1 := (hbw.cell (p := ⟨b, off + k * 4 + 1, none⟩) hb).trans d1
      have y2 := (hbw.cell (p := ⟨b, off + k * 4 + 2, none⟩) hb).trans d2
      have y3 := (hbw.cell (p := ⟨b, off + k * 4 + 3, none⟩) hb).trans d3
      have KF : Hid (∀ Q, Below W.heap.size W Q → Calls Tryz.prog 34 #[.agg #[.bool t.set, .int .i64 t.n, .slice sa t.s.length sc], .int .i64 kd] Q fun e w' => e = .returned (.bool (isVal t.set t.n t.s kd)) ∧ Below Q.heap.size Q w') := fun Q hQ => fits34 t.set t.n kd (hsi.below hQ) (HTZ.out t (List.mem_of_getElem? ht))
      have HWT : Hid (wtA o.l kd k = (decide (t.v < -1) || (decide (t.v = -1) && !isVal t.set t.n t.s kd))) := by unfold Hid wtA; rw [ht]; rfl
      obtain ⟨tv, htv⟩ : ∃ q, t.v = q := ⟨_, rfl⟩
      obtain ⟨ts, hts⟩ : ∃ q, t.set = q := ⟨_, rfl⟩
      obtain ⟨tn, htn⟩ : ∃ q, t.n = q := ⟨_, rfl⟩
      obtain ⟨tl, htl⟩ : ∃ q, t.s.length = q := ⟨_, rfl⟩
      obtain ⟨fv, hfv⟩ : ∃ q, isVal t.set t.n t.s kd = q := ⟨_, rfl⟩
      rw [hfv] at KF HWT
      rw [htv] at HWT y0
      rw [hts] at KF y1
      rw [htn] at KF y2
      rw [htl] at KF y3
      have hwk : IntKind.i64.wrap ((k : Int) + 1) = (k : Int) + 1 := by rw [IntKind.wrap_i64]; omega
      clear ht hsi d0 d1 d2 d3 htv hts htn htl hfv hb
      go_upto_region 20 with (fail)
      obtain ⟨xb, hxb⟩ : ∃ q, wr.heap.size = q := ⟨_, rfl⟩
      obtain ⟨w2, hw2⟩ : ∃ q, wr.alloc (Obj.cells #[.int .i64 tv, .bool ts, .int .i64 tn, .slice sa tl sc] 67) = q := ⟨_, rfl⟩
      have hb2 : Below wr.heap.size wr w2 := by rw [← hw2]; exact (Below.refl _ _).alloc (Nat.le_refl _) _
      have HT2 : Hid (Blk w2 xb #[.int .i64 tv, .bool ts, .int .i64 tn, .slice sa tl sc] 67) := by rw [← hw2, ← hxb]; exact Blk.new _ _ _
      have HB2 : Hid (Below w1.heap.size w1 w2) := HBB.out.trans (hb2.mono HBB.out.size)
      rw [hw2, hxb]
      clear hw2 hxb hb2 HBB hbw y0 y1 y2 y3 z2 z3
      have q0 := HT2.out.cell 0
      have q1 := HT2.out.cell 1
      have q2 := HT2.out.cell 2
      have q3 := HT2.out.cell 3
      have z3 := (HX1.out.below HB2.out).cell 3
      by_cases hv1 : tv < -1
      · have HF : Hid (r = false) := by
          have e : anyB (wtA o.l kd) 1 = true := any_yes hlt (by rw [HWT.out]; simp [hv1])
          rw [Hid, HR.out, e]; simp
        go_wp2
        go_ret
        exact ⟨ret_boolQ HF.out.symm, HB1.out.trans ((HB2.out).mono HB1.out.size)⟩
      by_cases hv2 : tv = -1
      rotate_left 1
      · have g2 : (tv == -1) = false := by simpa using hv2
        have HAL2 : Hid (∀ j, j < k + 1 → wtA o.l kd j = false) := succ_all HAL.out (by rw [HWT.out]; simp [hv1, hv2])
        clear KF
        go_wp2
        go_roundw
        case rel => exact ⟨k + 1, by go_num, by omega, HAL2, HB2.out⟩
        case measure => simp [intOf]; omega
      have kf := KF.out w2 (HB1.out.trans ((HB2.out).mono HB1.out.size))
      subst hv2
      clear KF hv1
      go_wp2_with fail
      refine kf.mono ?_
      rintro e w3 ⟨rfl, hb3⟩
      have HB3 : Hid (Below w1.heap.size w1 w3) := HB2.out.trans (hb3.mono HB2.out.size)
      clear kf hb3 q0 q1 q2 q3
      cases fv
      · have HF : Hid (r = false) := by
          have e : anyB (wtA o.l kd) 1 = true := any_yes hlt (by rw [HWT.out]; simp)
          rw [Hid, HR.out, e]; simp
        go_wp2
        go_ret
        exact ⟨ret_boolQ HF.out.symm, HB1.out.trans ((HB3.out).mono HB1.out.size)⟩
      · have HAL2 : Hid (∀ j, j < k + 1 → wtA o.l kd j = false) := succ_all HAL.out (by rw [HWT.out]; simp)
        go_wp2
        go_roundw
        case rel => exact ⟨k + 1, by go_num, by omega, HAL2, HB3.out⟩
        case measure => simp [intOf]; omega
  · have HSH : Hid (shB o = (decide (1 ≤ n) && (decide (n ≤ 16) && (!anyB (badD o.dims) n && decide (prodM o.dims ((m : Int) + 1) 1 = (m : Int)))))) := by rw [Hid, shB_more HV.out.2.2.2, HV.out.1, HV.out.2.1]
    by_cases hn1 : n < 1
    · have HF : Hid (r = false) := by rw [Hid, HR.out, HSH.out, decide_eq_false (by omega)]; simp
      have hn1i : (n : Int) < 1 := by omega
      go_wp2
      go_ret
      exact ⟨ret_boolQ HF.out.symm, HB1.out⟩
    by_cases hn16 : 16 < n
    · have HF : Hid (r = false) := by rw [Hid, HR.out, HSH.out, decide_eq_false (by omega : ¬ n ≤ 16)]; simp
      have hn1i : ¬ (n : Int) < 1 := by omega
      have hn2i : (16 : Int) < n := by omega
      go_wp2
      go_ret
      exact ⟨ret_boolQ HF.out.symm, HB1.out⟩
    have hn1i : ¬ (n : Int) < 1 := by omega
    have hn2i : ¬ (16 : Int) < n := by omega
    go_wp2
    go_loopw [3, 4] (fun i t4 wr => ∃ (k : Nat), i = .int .i64 (k : Int) ∧ k ≤ n ∧ Hid (∀ j, j < k → badD o.dims j = false) ∧ Hid (Below w1.heap.size w1 wr)) (fun i _ _ => n - (intOf i).toNat)
    case atStart => exact ⟨0, rfl, Nat.zero_le _, fun j hj => absurd hj (by omega), Below.refl _ _⟩
    case round =>
      obtain ⟨k, rfl, hk, HAL, HBB⟩ := hrel
      have z1 := (HX1.out.below HBB.out).cell 1
      by_cases hlt : k < n
      · have hlt9 : (k : Int) < n := by omega
        obtain ⟨x, hx⟩ : ∃ x, o.dims[k]? = some x := ⟨_, List.getElem?_eq_getElem (by rw [HV.out.1]; exact hlt)⟩
        obtain ⟨b, off, rfl, hb, d1, d2⟩ := HD.out.at hx
        have hbw : Below W.heap.size W wr := HB1.out.trans ((HBB.out).mono HB1.out.size)
        have y1 := (hbw.cell (p := ⟨b, off + k * 2, none⟩) hb).trans d1
        have y2 := (hbw.cell (p := ⟨b, off + k * 2 + 1, none⟩) hb).trans d2
        have HBD : Hid (badD o.dims k = (!bndB x.1 || !bndB x.2)) := by unfold Hid badD; rw [hx]
        obtain ⟨lo, hi⟩ := x
        simp only at y1 y2 HBD
        have hwk : IntKind.i64.wrap ((k : Int) + 1) = (k : Int) + 1 := by rw [IntKind.wrap_i64]; omega
        have hb9 : Below wr.heap.size wr (wr.alloc (Obj.cells #[.int .i64 lo, .int .i64 hi] 84)) := (Below.refl _ _).alloc (Nat.le_refl _) _
        have HB9 : Hid (Below w1.heap.size w1 (wr.alloc (Obj.cells #[.int .i64 lo, .int .i64 hi] 84))) := HBB.out.trans (hb9.mono HBB.out.size)
        clear hx d1 d2 hbw hb9
        by_cases hc : lo < -1000000
        · have HF : Hid (r = false) := by
            have e : anyB (badD o.dims) n = true := any_yes hlt (by rw [HBD.out]; unfold bndB; simp; omega)
            rw [Hid, HR.out, HSH.out, e]; simp
          go_wp2
          go_ret
          exact ⟨ret_boolQ HF.out.symm, HB1.out.trans ((HB9.out).mono HB1.out.size)⟩
        have hC13 : ¬ lo < -1000000 := hc
        clear hc
        by_cases hc : 1000000 < lo
        · have HF : Hid (r = false) := by
            have e : anyB (badD o.dims) n = true := any_yes hlt (by rw [HBD.out]; unfold bndB; simp; omega)
            rw [Hid, HR.out, HSH.out, e]; simp
          go_wp2
          go_ret
          exact ⟨ret_boolQ HF.out.symm, HB1.out.trans ((HB9.out).mono HB1.out.size)⟩
        have hC22 : ¬ 1000000 < lo := hc
        clear hc
        by_cases hc : hi < -1000000
        · have HF : Hid (r = false) := by
            have e : anyB (badD o.dims) n = true := any_yes hlt (by rw [HBD.out]; unfold bndB; simp; omega)
            rw [Hid, HR.out, HSH.out, e]; simp
          go_wp2
          go_ret
          exact ⟨ret_boolQ HF.out.symm, HB1.out.trans ((HB9.out).mono HB1.out.size)⟩
        have hC31 : ¬ hi < -1000000 := hc
        clear hc
        by_cases hc : 1000000 < hi
        · have HF : Hid (r = false) := by
            have e : anyB (badD o.dims) n = true := any_yes hlt (by rw [HBD.out]; unfold bndB; simp; omega)
            rw [Hid, HR.out, HSH.out, e]; simp
          go_wp2
          go_ret
          exact ⟨ret_boolQ HF.out.symm, HB1.out.trans ((HB9.out).mono HB1.out.size)⟩
        have hC40 : ¬ 1000000 < hi := hc
        clear hc
        have HAL2 : Hid (∀ j, j < k + 1 → badD o.dims j = false) := succ_all HAL.out (by rw [HBD.out]; unfold bndB; simp; omega)
        go_wp2
        go_roundw
        case rel => exact ⟨k + 1, by go_num, by omega, HAL2, HB9.out⟩
        case measure => simp [intOf]; omega
      · have hlt9 : ¬ (k : Int) < n := by omega
        have HANY : Hid (anyB (badD o.dims) n = false) := any_no (fun j hj => HAL.out j (by omega))
        have hbd : ∀ x ∈ o.dims, -1000000 ≤ x.1 ∧ x.1 ≤ 1000000 ∧ -1000000 ≤ x.2 ∧ x.2 ≤ 1000000 := fun x hx => by
          obtain ⟨j, hj⟩ := List.getElem?_of_mem hx
          have h1 := HAL.out j (by have := (List.getElem?_eq_some_iff.1 hj).1; rw [HV.out.1] at this; omega)
          unfold badD at h1
          rw [hj] at h1
          simp [bndB] at h1
          omega
        have KS : Hid (∀ Q, Below W.heap.size W Q → Calls Tryz.prog 66 #[.slice da n dc] Q fun e w' => e = .returned (.int .i64 (sizeM o.dims 1)) ∧ Below Q.heap.size Q w') := fun Q hQ => rsize66 (HD.out.below hQ) HV.out.1 (by omega) hbd
        have HSP : Hid (sizeM o.dims 1 = (m : Int) ↔ prodM o.dims ((m : Int) + 1) 1 = (m : Int)) := size_prod o.dims m (by omega)
        obtain ⟨sz, hsz⟩ : ∃ q, sizeM o.dims 1 = q := ⟨_, rfl⟩
        rw [hsz] at KS HSP
        clear hsz hbd
        go_upto_region 14 with (fail)
        have HP0 : Hid (Below w1.heap.size w1 wr.drew) := HBB.out.drew
        refine wp_region_held_drew (S := (fun Q : World => Below w1.heap.size w1 Q)) (by kernel_rfl) (HP0.out) (fun hHeld => ?_)
        refine tkI 0 rfl hHeld ?_
        try simp only [Act.put, zS, eZ, eS]
        refine tkI 1 rfl hHeld ?_ (hy := by intro w hSw; have q1 := (HX1.out.below hSw).cell 1; go_simp <;> with_reducible rfl)
        try simp only [Act.put, zS, eZ, eS]
        refine tkI 3 rfl hHeld ?_
        try simp only [Act.put, zS, eZ, eS]
        refine tkI 4 rfl hHeld ?_ (hy := by intro w hSw; have q2 := (HX1.out.below hSw).cell 2; go_simp <;> with_reducible rfl)
        try simp only [Act.put, zS, eZ, eS]
        refine tkI 5 rfl hHeld ?_
        try simp only [Act.put, zS, eZ, eS]
        refine rdy 2 rfl fun K hK => ?_
        go_simp
        refine (KS.out _ (HB1.out.trans ((HP0.out).mono HB1.out.size))).mono ?_
        rintro e w4 ⟨rfl, hb4⟩
        have HB4 : Hid (Below w1.heap.size w1 w4) := HP0.out.trans (hb4.mono HP0.out.size)
        clear hb4
        clear hHeld; refine hK.out _ _ (HB4.out) fun hHeld => ?_
        clear hK K
        try simp only [Act.put, zS, eZ, eS]
        refine tkI 6 rfl hHeld ?_
        try simp only [Act.put, zS, eZ, eS]
        refine wpAnyH_done (by kernel_rfl) ?_ _
        clear hHeld
        by_cases hse : sz = (m : Int)
        rotate_left 1
        · have g1 : (sz == (m : Int)) = false := by simpa using hse
          have g2 : (sz != (m : Int)) = true := by simpa using hse
          have HF : Hid (r = false) := by
            have e : decide (prodM o.dims ((m : Int) + 1) 1 = (m : Int)) = false := by rw [decide_eq_false_iff_not]; exact fun q => hse (HSP.out.2 q)
            rw [Hid, HR.out, HSH.out, e]; simp
          go_wp2
          go_ret
          exact ⟨ret_boolQ HF.out.symm, HB1.out.trans ((HB4.out).mono HB1.out.size)⟩
        have HSHT : Hid (shB o = true) := by
          have e : decide (prodM o.dims ((m : Int) + 1) 1 = (m : Int)) = true := by rw [decide_eq_true_iff]; exact HSP.out.1 hse
          rw [Hid, HSH.out, HANY.out, e, decide_eq_true (by omega : 1 ≤ n), decide_eq_true (by omega : n ≤ 16)]
          rfl
        have g1 : (sz == (m : Int)) = true := by simpa using hse
        have g2 : (sz != (m : Int)) = false := by simpa using hse
        clear hse z1
        go_wp2
        go_loopw [5, 6] (fun i t6 wr => ∃ (k : Nat), i = .int .i64 (k : Int) ∧ k ≤ m ∧ Hid (∀ j, j < k → wtA o.l kd j = false) ∧ Hid (Below w1.heap.size w1 wr)) (fun i _ _ => m - (intOf i).toNat)
        case atStart => exact ⟨0, rfl, Nat.zero_le _, fun j hj => absurd hj (by omega), HB4.out⟩
        case round =>
          obtain ⟨k, rfl, hk, HAL, HBB⟩ := hrel
          have z2 := (HX1.out.below HBB.out).cell 2
          have z3 := (HX1.out.below HBB.out).cell 3
          by_cases hlt : k < m
          rotate_left 1
          · have hlt9 : ¬ (k : Int) < m := by omega
            have HF : Hid (r = true) := by
              have e : anyB (wtA o.l kd) m = false := any_no (fun j hj => HAL.out j (by omega))
              rw [Hid, HR.out, HKD.out, HSHT.out, e]; rfl
            go_wp2
            go_ret
            exact ⟨ret_boolQ HF.out.symm, HB1.out.trans ((HBB.out).mono HB1.out.size)⟩
          have hlt9 : (k : Int) < m := by omega
          obtain ⟨t, ht⟩ : ∃ x, o.l[k]? = some x := ⟨_, List.getElem?_eq_getElem (by rw [HV.out.2.1]; exact hlt)⟩
          obtain ⟨b, off, sv, rfl, hb, hsi, d0, d1, d2, d3⟩ := st_at HL.out ht
          obtain ⟨sa, sc, rfl, _⟩ := id hsi
          have hbw : Below W.heap.size W wr := HB1.out.trans ((HBB.out).mono HB1.out.size)
          have y0 := (hbw.cell (p := ⟨b, off + k * 4, none⟩) hb).trans d0
          have y1 := (hbw.cell (p := ⟨b, off + k * 4 + 1, none⟩) hb).trans d1
          have y2 := (hbw.cell (p := ⟨b, off + k * 4 + 2, none⟩) hb).trans d2
          have y3 := (hbw.cell (p := ⟨b, off + k * 4 + 3, none⟩) hb).trans d3
          have KF : Hid (∀ Q, Below W.heap.size W Q → Calls Tryz.prog 34 #[.agg #[.bool t.set, .int .i64 t.n, .slice sa t.s.length sc], .int .i64 kd] Q fun e w' => e = .returned (.bool (isVal t.set t.n t.s kd)) ∧ Below Q.heap.size Q w') := fun Q hQ => fits34 t.set t.n kd (hsi.below hQ) (HTZ.out t (List.mem_of_getElem? ht))
          have HWT : Hid (wtA o.l kd k = (decide (t.v < -1) || (decide (t.v = -1) && !isVal t.set t.n t.s kd))) := by unfold Hid wtA; rw [ht]; rfl
          obtain ⟨tv, htv⟩ : ∃ q, t.v = q := ⟨_, rfl⟩
          obtain ⟨ts, hts⟩ : ∃ q, t.set = q := ⟨_, rfl⟩
          obtain ⟨tn, htn⟩ : ∃ q, t.n = q := ⟨_, rfl⟩
          obtain ⟨tl, htl⟩ : ∃ q, t.s.length = q := ⟨_, rfl⟩
          obtain ⟨fv, hfv⟩ : ∃ q, isVal t.set t.n t.s kd = q := ⟨_, rfl⟩
          rw [hfv] at KF HWT
          rw [htv] at HWT y0
          rw [hts] at KF y1
          rw [htn] at KF y2
          rw [htl] at KF y3
          have hwk : IntKind.i64.wrap ((k : Int) + 1) = (k : Int) + 1 := by rw [IntKind.wrap_i64]; omega
          clear ht hsi d0 d1 d2 d3 htv hts htn htl hfv hb
          go_upto_region 20 with (fail)
          obtain ⟨xb, hxb⟩ : ∃ q, wr.heap.size = q := ⟨_, rfl⟩
          obtain ⟨w2, hw2⟩ : ∃ q, wr.alloc (Obj.cells #[.int .i64 tv, .bool ts, .int .i64 tn, .slice sa tl sc] 67) = q := ⟨_, rfl⟩
          have hb2 : Below wr.heap.size wr w2 := by rw [← hw2]; exact (Below.refl _ _).alloc (Nat.le_refl _) _
          have HT2 : Hid (Blk w2 xb #[.int .i64 tv, .bool ts, .int .i64 tn, .slice sa tl sc] 67) := by rw [← hw2, ← hxb]; exact Blk.new _ _ _
          have HB2 : Hid (Below w1.heap.size w1 w2) := HBB.out.trans (hb2.mono HBB.out.size)
          rw [hw2, hxb]
          clear hw2 hxb hb2 HBB hbw y0 y1 y2 y3 z2 z3
          have q0 := HT2.out.cell 0
          have q1 := HT2.out.cell 1
          have q2 := HT2.out.cell 2
          have q3 := HT2.out.cell 3
          have z3 := (HX1.out.below HB2.out).cell 3
          by_cases hv1 : tv < -1
          · have HF : Hid (r = false) := by
              have e : anyB (wtA o.l kd) m = true := any_yes hlt (by rw [HWT.out]; simp [hv1])
              rw [Hid, HR.out, e]; simp
            go_wp2
            go_ret
            exact ⟨ret_boolQ HF.out.symm, HB1.out.trans ((HB2.out).mono HB1.out.size)⟩
          by_cases hv2 : tv = -1
          rotate_left 1
          · have g2 : (tv == -1) = false := by simpa using hv2
            have HAL2 : Hid (∀ j, j < k + 1 → wtA o.l kd j = false) := succ_all HAL.out (by rw [HWT.out]; simp [hv1, hv2])
            clear KF
            go_wp2
            go_roundw
            case rel => exact ⟨k + 1, by go_num, by omega, HAL2, HB2.out⟩
            case measure => simp [intOf]; omega
          have kf := KF.out w2 (HB1.out.trans ((HB2.out).mono HB1.out.size))
          subst hv2
          clear KF hv1
          go_wp2_with fail
          refine kf.mono ?_
          rintro e w3 ⟨rfl, hb3⟩
          have HB3 : Hid (Below w1.heap.size w1 w3) := HB2.out.trans (hb3.mono HB2.out.size)
          clear kf hb3 q0 q1 q2 q3
          cases fv
          · have HF : Hid (r = false) := by
              have e : anyB (wtA o.l kd) m = true := any_yes hlt (by rw [HWT.out]; simp)
              rw [Hid, HR.out, e]; simp
            go_wp2
            go_ret
            exact ⟨ret_boolQ HF.out.symm, HB1.out.trans ((HB3.out).mono HB1.out.size)⟩
          · have HAL2 : Hid (∀ j, j < k + 1 → wtA o.l kd j = false) := succ_all HAL.out (by rw [HWT.out]; simp)
            go_wp2
            go_roundw
            case rel => exact ⟨k + 1, by go_num, by omega, HAL2, HB3.out⟩
            case measure => simp [intOf]; omega
end Go.Proofs.YtdnhhmnllhlbbaaGreatDoor
