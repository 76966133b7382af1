/-
  What is proved here: back of any domains: those that were saved are put back.
  What is proved here: Pop of any store.
-/
import Derived.Test.YtghnfnieppfhgaaGreatMb
import Derived.Test.YtghnfnieppfhgaaGreatKij
namespace Go.Proofs.YtghnfnieppfhgaaGreat
open Go.RowKit Go.Shelf
set_option linter.unusedVariables false
set_option linter.unusedSimpArgs false

/-- One of what was saved is put back. -/
def stepA (st : StM) (t : Int × MD × Int) : StM := { st with e := st.e + (emptI (emptyA t.2.1) - emptI (emptyA (st.D.getD t.1.toNat ⟨false, [], [], [], 0, 0⟩))), D := st.D.set t.1.toNat t.2.1, since := st.since.set t.1.toNat t.2.2 }
def foldA (st : StM) (l : List (Int × MD × Int)) : StM := l.foldl stepA st
theorem foldA_snoc (st : StM) (l : List (Int × MD × Int)) (t : Int × MD × Int) : foldA st (l ++ [t]) = stepA (foldA st l) t := by simp [foldA]
theorem foldA_len (st : StM) : ∀ (l : List (Int × MD × Int)), (foldA st l).D.length = st.D.length ∧ (foldA st l).saved = st.saved ∧ (foldA st l).marks = st.marks ∧ (foldA st l).why = st.why ∧ st.e - l.length ≤ (foldA st l).e ∧ (foldA st l).e ≤ st.e + l.length := by
  intro l
  induction l using Dm.snoc_induct with
  | h0 => simp [foldA]
  | h1 l t ih =>
    obtain ⟨i1, i2, i3, i4, i5, i6⟩ := ih
    rw [foldA_snoc]
    have q1 := emptI_01 (emptyA t.2.1)
    have q2 := emptI_01 (emptyA ((foldA st l).D.getD t.1.toNat ⟨false, [], [], [], 0, 0⟩))
    refine ⟨by simp [stepA, i1], i2, i3, i4, ?_, ?_⟩ <;> (simp only [stepA, List.length_append, List.length_singleton]; omega)

set_option maxRecDepth 100000 in
set_option maxHeartbeats 4000000 in
theorem back_d [Gh] {W : World} {p : Nat} {st : StM} {sl : Sl} (h : Sto W p st sl) (hz : Sz st) (ms : List Int) (f : Nat) (hm : st.marks = ms ++ [(f : Int)]) (hf : f < st.saved.length) (hs : st.saved.length ≤ 100000) (hval : ∀ t ∈ st.saved.drop f, 0 ≤ t.1 ∧ t.1 < st.D.length) (he : -500000 ≤ st.e) (he' : st.e ≤ 500000) :
    Calls Tryz.prog 58 #[ptr p, .func (.func 52) #[ptr p] #[]] W fun e w' => e = .returned (.tuple #[]) ∧ ∃ sl', Sto w' p { foldA st (st.saved.drop f) with saved := st.saved.take f, marks := ms } sl' ∧ Up (XS p sl) (XS p sl') W ∧ Kept (XS p sl) W w' := by
  obtain ⟨n, k, m, sa, sc, ma, mc, ia, ic, da, dc, wa, wc, rfl, HL⟩ := h.look
  have hml : m = ms.length + 1 := by rw [← HL.out.2.2, hm]; simp
  obtain ⟨gm, cap, e1, hgm, hle, hcm, hr, hth⟩ := h.marks.at (i := ms.length) (c := [.int .i64 (f : Int)]) (by rw [ivs_get, hm]; simp)
  rw [Nat.mul_one] at hr hth
  have hcf := rng_one hr
  injection e1 with e1 e2 e3
  subst e1 e3
  clear e2 hr hth
  rw [ivs_len, HL.out.2.2] at hle
  unfold maxLen at hcm
  obtain ⟨gk, cap2, c9, e1, hgk, hle2, hcm2, _, _⟩ := h.saved_at (List.getElem?_eq_getElem hf)
  injection e1 with e1 e2 e3
  subst e1 e3
  clear e2
  rw [HL.out.2.1] at hf hs hle2
  obtain ⟨gi, hgi⟩ : ∃ gi, ia = some ⟨gi, 0, none⟩ := by
    have hq := hval _ (List.mem_iff_getElem?.2 ⟨0, by rw [List.getElem?_drop]; exact List.getElem?_eq_getElem (by rw [HL.out.2.1]; exact hf)⟩)
    obtain ⟨g, cp, e1, _⟩ := h.since.at (i := 0) (c := [.int .i64 (st.since.getD 0 0)]) (by rw [ivs_get, List.getElem?_eq_getElem (by rw [h.ls]; omega)]; simp [List.getD, show 0 < st.since.length by rw [h.ls]; omega])
    injection e1 with e1 _ _
    exact ⟨g, e1⟩
  subst hgi
  have HVAL : Hid _ := hval
  have HEB : Hid (-500000 ≤ st.e ∧ st.e ≤ 500000) := ⟨he, he'⟩
  have HZ : Hid (Sz st) := hz
  have HMS : Hid (st.marks = ms ++ [(f : Int)]) := hm
  obtain ⟨z0, z1, z2, z3, z4, z5, zf⟩ := h.cells
  simp only at z0 z1 z2
  have hmb : m ≤ 1000000 := by rw [← HL.out.2.2]; exact hz.2.1
  have hfs : f < sc := by omega
  have hfne : ¬ sc = f := by omega
  have HH : Hid (Sto W p st _) := h
  have hml' : (m : Int) - 1 = (ms.length : Int) := by omega
  obtain ⟨mn, hmn⟩ : ∃ q, ms.length = q := ⟨_, rfl⟩
  have HMN : Hid (ms.length = mn) := hmn
  rw [hmn] at hml hml' hcf
  obtain ⟨kf, hkf⟩ : ∃ q, k - f = q := ⟨_, rfl⟩
  have hkf0 : 0 < kf := by omega
  have hkfb : kf ≤ 100000 := by omega
  have HKF0 : Hid (k = f + kf) := by rw [Hid]; omega
  clear hmn
  clear hm hval he he' z2 z3 z4 z5 zf h hz
  go_enter Tryz.func58, Tryz.ntmps58
  go_wp2
  go_loopw [28, 7] (fun i _ wr => ∃ j : Nat, j ≤ kf ∧ i = .int .i64 (j : Int) ∧ Hid (Sto wr p (foldA st ((st.saved.drop f).take j)) ⟨.slice (some ⟨gk, 0, none⟩) k sc, .slice (some ⟨gm, 0, none⟩) m mc, .slice (some ⟨gi, 0, none⟩) n ic, .slice da n dc, .slice wa n wc⟩) ∧ Hid (Kept (XS p ⟨.slice (some ⟨gk, 0, none⟩) k sc, .slice (some ⟨gm, 0, none⟩) m mc, .slice (some ⟨gi, 0, none⟩) n ic, .slice da n dc, .slice wa n wc⟩) W wr)) (fun i _ _ => kf - (intOf i).toNat)
  case atStart => exact ⟨0, Nat.zero_le _, rfl, HH, Kept.refl _ _⟩
  case round =>
    obtain ⟨j, hj, rfl, HS, HK⟩ := hrel
    by_cases hlt : j < kf
    · have hlt' : (j : Int) < kf := by omega
      obtain ⟨q, hq⟩ : ∃ q, st.saved[f + j]? = some q := ⟨_, List.getElem?_eq_getElem (by rw [HL.out.2.1]; omega)⟩
      have hqm : q ∈ st.saved.drop f := by rw [List.mem_iff_getElem?]; exact ⟨j, by rw [List.getElem?_drop]; exact hq⟩
      obtain ⟨hv0, hvn⟩ := HVAL.out q hqm
      have hFS := foldA_len st ((st.saved.drop f).take j)
      obtain ⟨g9, cap9, c, e1, _, _, _, hrg, hdc⟩ := HS.out.saved_at (i := f + j) (q := q) (by rw [hFS.2.1]; exact hq)
      injection e1 with e1 e2 e3
      clear e2 e3
      injection e1 with e1
      injection e1 with e1 e2 e3
      clear e2 e3
      subst e1
      obtain ⟨vI, d, sq⟩ := q
      simp only at hv0 hvn hrg hdc
      obtain ⟨v, rfl⟩ : ∃ v : Nat, vI = (v : Int) := ⟨vI.toNat, by omega⟩
      obtain ⟨b0, ra, n0, rc, a1, n1, c1, a2, n2, c2, x, y, rfl, HE, _, _, _⟩ := hdc.look
      rw [Nat.add_mul] at hrg
      obtain ⟨u0, u1, u2, u3, u4, u5, u6, u7⟩ := rng8 hrg
      have hvl : v < (foldA st ((st.saved.drop f).take j)).D.length := by rw [hFS.1]; omega
      obtain ⟨o, ho⟩ : ∃ o, (foldA st ((st.saved.drop f).take j)).D[v]? = some o := ⟨_, List.getElem?_eq_getElem hvl⟩
      have hlj : ((st.saved.drop f).take j).length ≤ 100000 := by have := List.length_take_le j (st.saved.drop f); omega
      have hzj : Sz (foldA st ((st.saved.drop f).take j)) := ⟨by rw [hFS.1]; exact HZ.out.1, by rw [hFS.2.2.1]; exact HZ.out.2.1, by rw [hFS.2.1]; exact HZ.out.2.2⟩
      obtain ⟨bx, hbx⟩ : ∃ q, wr.heap.size = q := ⟨_, rfl⟩
      obtain ⟨Y0, hY0⟩ : ∃ q, wr.alloc (Obj.cells #[.int .i64 v, .bool b0, .slice ra n0 rc, .slice a1 n1 c1, .slice a2 n2 c2, .int .i64 x, .int .i64 y, .int .i64 sq] 105) = q := ⟨_, rfl⟩
      have hbY : Below wr.heap.size wr Y0 := by rw [← hY0]; exact (Below.refl _ _).alloc (Nat.le_refl _) _
      have HBX0 : Hid (Bx Y0 bx #[.int .i64 v, .bool b0, .slice ra n0 rc, .slice a1 n1 c1, .slice a2 n2 c2, .int .i64 x, .int .i64 y, .int .i64 sq] 105) := by rw [← hY0]; exact Bx.new' hbx _ _
      have kp := put_d (HS.out.below hbY) (hdc.below hbY) v ho (by have := hFS.2.2.2.2.1; have := HEB.out; omega) (by have := hFS.2.2.2.2.2; have := HEB.out; omega) hzj
      have HXB : Hid (¬ XS p ⟨.slice (some ⟨gk, 0, none⟩) k sc, .slice (some ⟨gm, 0, none⟩) m mc, .slice (some ⟨gi, 0, none⟩) n ic, .slice da n dc, .slice wa n wc⟩ bx) := fun q => by have := HS.out.x_lt bx q; omega
      have HKY : Hid (Kept (XS p ⟨.slice (some ⟨gk, 0, none⟩) k sc, .slice (some ⟨gm, 0, none⟩) m mc, .slice (some ⟨gi, 0, none⟩) n ic, .slice da n dc, .slice wa n wc⟩) W Y0) := HK.out.then_below hbY
      have HTK : Hid ((st.saved.drop f).take (j + 1) = (st.saved.drop f).take j ++ [((v : Int), d, sq)]) := by rw [Hid, List.take_add_one, List.getElem?_drop, hq]; rfl
      have HPM : Hid ({ foldA st ((st.saved.drop f).take j) with e := (foldA st ((st.saved.drop f).take j)).e + (emptI (emptyA d) - emptI (emptyA o)), D := (foldA st ((st.saved.drop f).take j)).D.set v d, since := (foldA st ((st.saved.drop f).take j)).since.set v sq } = stepA (foldA st ((st.saved.drop f).take j)) ((v : Int), d, sq)) := by
        have hg : (foldA st ((st.saved.drop f).take j)).D.getD v ⟨false, [], [], [], 0, 0⟩ = o := by rw [List.getD, ho]; rfl
        simp only [Hid, stepA, Int.toNat_natCast, hg]
      have HVS0 : Hid (v < (foldA st ((st.saved.drop f).take j)).since.length) := by rw [Hid, HS.out.ls]; exact hvl
      have HY0 : Hid (wr.alloc (Obj.cells #[.int .i64 v, .bool b0, .slice ra n0 rc, .slice a1 n1 c1, .slice a2 n2 c2, .int .i64 x, .int .i64 y, .int .i64 sq] 105) = Y0) := hY0
      have HBX9 : Hid (bx = wr.heap.size) := hbx.symm
      have hvi : (v : Int) < n := by have := HL.out.1; omega
      clear hY0 hbx hbY hqm hvn hv0 hrg hdc hlj hzj ho hq hFS hvl HK HS
      go_wp2_with fail
      (try rw [HY0.out])
      (try rw [← HBX9.out])
      refine kp.mono ?_
      clear kp u0 u1 u2 u3 u4 u5 u6 u7
      rintro e w1 ⟨rfl, hs1, hk1⟩
      have HS2 : Hid (Sto w1.drew p _ ⟨.slice (some ⟨gk, 0, none⟩) k sc, .slice (some ⟨gm, 0, none⟩) m mc, .slice (some ⟨gi, 0, none⟩) n ic, .slice da n dc, .slice wa n wc⟩) := hs1.below (Below.refl _ _).drew
      have HK2 : Hid (Kept (XS p ⟨.slice (some ⟨gk, 0, none⟩) k sc, .slice (some ⟨gm, 0, none⟩) m mc, .slice (some ⟨gi, 0, none⟩) n ic, .slice da n dc, .slice wa n wc⟩) W w1.drew) := (HKY.out.trans hk1 (Up.refl _ _)).then_below (Below.refl _ _).drew
      have HBX2 : Hid (Bx w1.drew bx #[.int .i64 v, .bool b0, .slice ra n0 rc, .slice a1 n1 c1, .slice a2 n2 c2, .int .i64 x, .int .i64 y, .int .i64 sq] 105) := (HBX0.out.kept hk1 HXB.out).drew 1
      have HXI : Hid (XS p ⟨.slice (some ⟨gk, 0, none⟩) k sc, .slice (some ⟨gm, 0, none⟩) m mc, .slice (some ⟨gi, 0, none⟩) n ic, .slice da n dc, .slice wa n wc⟩ gi) := .inr (.inr (.inr (.inl rfl)))
      have HBG : Hid (bx ≠ gi) := fun e => HXB.out (e ▸ HXI.out)
      have hp2 : w1.drew.cell? ⟨p, 2, none⟩ = some (.slice (some ⟨gi, 0, none⟩) n ic) := HS2.out.cells.2.2.1
      have HPG : Hid (p ≠ gi) := fun e => HS2.out.since.nep HS2.out.blk (by decide) (by rw [e]; rfl)
      have HP2 : Hid ((w1.drew.setCell ⟨gi, v, none⟩ (.int .i64 sq)).cell? ⟨p, 2, none⟩ = some (.slice (some ⟨gi, 0, none⟩) n ic)) := (World.cell?_setCell_other _ _ _ _ (by intro e; injection e with e _ _; exact HPG.out e.symm)).trans hp2
      have HVS : Hid (v < (foldA st ((st.saved.drop f).take j)).since.length) := HVS0.out
      have HTI : Hid ((∃ old, w1.drew.cell? ⟨gi, v, none⟩ = some old) ∧ w1.drew.frozen? ⟨gi, v, none⟩ = false) := by
        obtain ⟨g, cp, e1, _, _, _, e5, e6⟩ := HS2.out.since.at (i := v) (c := [.int .i64 ((foldA st ((st.saved.drop f).take j)).since.getD v 0)]) (by rw [ivs_get]; show ((foldA st ((st.saved.drop f).take j)).since[v]?).map _ = _; rw [List.getElem?_eq_getElem HVS0.out]; simp [List.getD, HVS0.out])
        injection e1 with e1 _ _
        injection e1 with e1
        injection e1 with e1 _ _
        subst e1
        rw [Nat.mul_one] at e5 e6
        exact ⟨⟨_, rng_one e5⟩, there_one e6 (by decide)⟩
      obtain ⟨⟨old, hold⟩, hfrz⟩ := HTI.out
      have HTI : Hid (w1.drew.cell? ⟨gi, v, none⟩ = some old ∧ w1.drew.frozen? ⟨gi, v, none⟩ = false) := ⟨hold, hfrz⟩
      clear hold hfrz hs1 hk1 HKY HBX0 HBX9 HY0 HVS0
      go_upto_region 6 with (fail)
      refine wp_region_held_drew (S := fun X : World => X.cell? ⟨p, 2, none⟩ = some (.slice (some ⟨gi, 0, none⟩) n ic) ∧ Bx X bx #[.int .i64 v, .bool b0, .slice ra n0 rc, .slice a1 n1 c1, .slice a2 n2 c2, .int .i64 x, .int .i64 y, .int .i64 sq] 105) (by kernel_rfl) (⟨hp2, HBX2.out⟩) (fun hHeld => ?_)
      refine tkH 0 ⟨some 38, .move (.tmp 0), 103, "trail.go:47", #[], none⟩ (v := ?_) hHeld ?_ ?_
      rotate_left
      · intro w hSw; (try dsimp only at hSw); go_simp <;> with_reducible rfl
      try simp only [Act.put, zS, z0, z1]
      refine tkH 1 ⟨some 39, .nilCheck (.tmp 38), 0, "trail.go:47", #[⟨0, .data⟩], none⟩ (v := ?_) hHeld ?_ ?_
      rotate_left
      · intro w hSw; (try dsimp only at hSw); go_simp <;> with_reducible rfl
      try simp only [Act.put, zS, z0, z1]
      refine tkH 2 ⟨some 40, .fieldAddr 65 (.tmp 39) 2, 0, "trail.go:47", #[⟨1, .data⟩], none⟩ (v := ?_) hHeld ?_ ?_
      rotate_left
      · intro w hSw; (try dsimp only at hSw); go_simp <;> with_reducible rfl
      try simp only [Act.put, zS, z0, z1]
      refine tkH 3 ⟨some 41, .load 63 (.tmp 40), 63, "trail.go:47", #[⟨2, .data⟩], none⟩ (v := ?_) hHeld ?_ ?_
      rotate_left
      · intro w hSw; obtain ⟨y2, yb⟩ := hSw; have q0 := yb.cell 0; have q7 := yb.cell 7; simp at q0 q7; go_simp <;> with_reducible rfl
      try simp only [Act.put, zS, z0, z1]
      refine tkH 4 ⟨some 42, .fieldAddr 105 (.tmp 7) 0, 0, "trail.go:47", #[], none⟩ (v := ?_) hHeld ?_ ?_
      rotate_left
      · intro w hSw; (try dsimp only at hSw); go_simp <;> with_reducible rfl
      try simp only [Act.put, zS, z0, z1]
      refine tkH 5 ⟨some 43, .load 3 (.tmp 42), 3, "trail.go:47", #[⟨4, .data⟩], none⟩ (v := ?_) hHeld ?_ ?_
      rotate_left
      · intro w hSw; obtain ⟨y2, yb⟩ := hSw; have q0 := yb.cell 0; have q7 := yb.cell 7; simp at q0 q7; go_simp <;> with_reducible rfl
      try simp only [Act.put, zS, z0, z1]
      refine tkH 6 ⟨some 44, .fieldAddr 105 (.tmp 7) 2, 0, "trail.go:47", #[], none⟩ (v := ?_) hHeld ?_ ?_
      rotate_left
      · intro w hSw; (try dsimp only at hSw); go_simp <;> with_reducible rfl
      try simp only [Act.put, zS, z0, z1]
      refine tkH 7 ⟨some 45, .load 3 (.tmp 44), 3, "trail.go:47", #[⟨6, .data⟩], none⟩ (v := ?_) hHeld ?_ ?_
      rotate_left
      · intro w hSw; obtain ⟨y2, yb⟩ := hSw; have q0 := yb.cell 0; have q7 := yb.cell 7; simp at q0 q7; go_simp <;> with_reducible rfl
      try simp only [Act.put, zS, z0, z1]
      refine tkH 8 ⟨some 46, .indexAddr 63 (.tmp 41) (.tmp 43), 0, "trail.go:47", #[⟨3, .data⟩, ⟨5, .data⟩, ⟨0, .phase⟩, ⟨1, .phase⟩, ⟨2, .phase⟩, ⟨3, .phase⟩, ⟨4, .phase⟩, ⟨5, .phase⟩, ⟨6, .phase⟩, ⟨7, .phase⟩], none⟩ (v := ?_) hHeld ?_ ?_
      rotate_left
      · intro w hSw; (try dsimp only at hSw); go_simp <;> with_reducible rfl
      try simp only [Act.put, zS, z0, z1]
      refine wpAnyH_ready (rs := [9]) (by kernel_rfl) (by simp) ?_
      refine AllReadyH.cons rfl (fun K hK => ?_) AllReadyH.nil
      have zq := HTI.out.1
      have zf := HTI.out.2
      go_simp
      clear zq zf
      refine hK.out _ _ (⟨HP2.out, HBX2.out.setc HBG.out _ _⟩) (fun hHeld2 => ?_)
      clear hK K hHeld
      have hHeld := hHeld2
      clear hHeld2
      try simp only [Act.put, zS, z0, z1]
      refine wpAnyH_done (by kernel_rfl) ?_ _
      have HFIN : Hid (Sto (w1.drew.setCell ⟨gi, v, none⟩ (.int .i64 sq)) p (foldA st ((st.saved.drop f).take (j + 1))) ⟨.slice (some ⟨gk, 0, none⟩) k sc, .slice (some ⟨gm, 0, none⟩) m mc, .slice (some ⟨gi, 0, none⟩) n ic, .slice da n dc, .slice wa n wc⟩) := by
        have := HS2.out.set_since HVS.out rfl sq
        rw [Hid, HTK.out, foldA_snoc, ← HPM.out]
        exact this
      have HKF : Hid (Kept (XS p ⟨.slice (some ⟨gk, 0, none⟩) k sc, .slice (some ⟨gm, 0, none⟩) m mc, .slice (some ⟨gi, 0, none⟩) n ic, .slice da n dc, .slice wa n wc⟩) W (w1.drew.setCell ⟨gi, v, none⟩ (.int .i64 sq))) := HK2.out.setCell HXI.out _ _
      clear HS2 HK2 HP2 HTI HBX2 hHeld HVS HTK HBG HPM hp2
      go_wp2
      go_roundw
      case rel => first | exact ⟨j + 1, by omega, by go_num, HFIN, HKF⟩ | exact ⟨_, _, _, _, _, _, _, _, _, _, _, _, _, _, _, _, _, _, _, _, _, ⟨j + 1, by omega, by go_num, HFIN, HKF⟩, rfl⟩
      case measure => simp [intOf]; omega
    · obtain rfl : j = kf := by omega
      have hlt' : ¬ (j : Int) < j := by omega
      have hFS := foldA_len st ((st.saved.drop f).take j)
      have e0 : (st.saved.drop f).take j = st.saved.drop f := by apply List.take_of_length_le; rw [List.length_drop, HL.out.2.1]; omega
      rw [e0] at HS hFS
      have hksz : j * 8 ≤ (sc - f) * 8 := Nat.mul_le_mul_right _ (by omega)
      have hthr : ∀ i, i < j * (Value.agg #[.int .i64 0, .bool false, .slice none 0 0, .slice none 0 0, .slice none 0 0, .int .i64 0, .int .i64 0, .int .i64 0]).cells.size → (wr.cell? ⟨gk, f * 8 + i, none⟩).isSome = true ∧ wr.frozen? ⟨gk, f * 8 + i, none⟩ = false := by
        intro i hi
        have hi' : i < j * 8 := hi
        obtain ⟨ks, hr, hkr⟩ := HS.out.saved
        rcases hr.2.2 with ⟨e1, _⟩ | ⟨g, cap, cur, e1, _, hg, hn, _, hsz, _⟩
        · cases e1
        · injection e1 with e1 _ e3
          injection e1 with e1
          injection e1 with e1 _ _
          subst e1 e3
          have hk9 : k ≤ sc := by have := HKF0.out; omega
          have : k * 8 ≤ sc * 8 := Nat.mul_le_mul_right _ hk9
          have := HKF0.out
          constructor
          · rw [cell_of_row wr gk _ cur _ _ hg, Array.getElem?_eq_getElem (by omega)]; rfl
          · simp [World.frozen?, hg]
      have hclr : ∀ ty, (Builtin.clear_ #[62] ty #[.slice (some ⟨gk, f * 8, none⟩) j (sc - f)]).run Tryz.prog wr = .ok (.tuple #[]) (wr.setCells gk (f * 8) (Builtin.zeroCells (Value.agg #[.int .i64 0, .bool false, .slice none 0 0, .slice none 0 0, .slice none 0 0, .int .i64 0, .int .i64 0, .int .i64 0]).cells j).toList) := fun ty => run_clear_many wr 62 105 ty _ Tryz.underlying62 (fun w => zero_kept w) (by intro v hv; simp [Value.cells] at hv; rcases hv with rfl | rfl | rfl | rfl <;> rfl) gk (f * 8) j (sc - f) hkf0 (fun i hi => (hthr i hi).1) (fun i hi => (hthr i hi).2)
      obtain ⟨ZZ, hZZ⟩ : ∃ q, (Builtin.zeroCells (Value.agg #[.int .i64 0, .bool false, .slice none 0 0, .slice none 0 0, .slice none 0 0, .int .i64 0, .int .i64 0, .int .i64 0]).cells j).toList = q := ⟨_, rfl⟩
      have hZl : ZZ.length = j * 8 := by rw [← hZZ, Array.length_toList, size_zeroCells]; rfl
      simp only [hZZ] at hclr
      obtain ⟨f1, f2, f3⟩ := HS.out.cut (gk := gk) (gm := gm) (f := f) (kf := j) (mn := mn) (sc := sc) (mc := mc) (by rw [HKF0.out]) (by rw [hml]) (by rw [hFS.2.1, HL.out.2.1, HKF0.out]) ms (f : Int) (by rw [hFS.2.2.1]; exact HMS.out) HMN.out ZZ hZl (by have := HKF0.out; omega)
      rw [hFS.2.1] at f1
      have HF1 : Hid _ := f1
      have HF2 : Hid _ := f2
      have HF3 : Hid _ := f3
      have HPK : Hid (p ≠ gk) := fun e => by obtain ⟨ks, hr, _⟩ := HS.out.saved; exact hr.nep HS.out.blk (by decide) (by rw [e]; rfl)
      have hbp : (wr.setCells gk (f * 8) ZZ).heap[p]? = _ := ((Kept.many (w := wr) rfl).block p HS.out.p_lt HPK.out).trans HS.out.blk
      have y0 := cell_of_row _ p 0 _ _ _ hbp
      have y1 := cell_of_row _ p 1 _ _ _ hbp
      have yf : ∀ o, (wr.setCells gk (f * 8) ZZ).frozen? ⟨p, o, none⟩ = false := fun o => by simp [World.frozen?, hbp]
      have x0 := HS.out.cells.1
      simp only [List.getElem?_toArray, List.getElem?_cons_zero, List.getElem?_cons_succ] at y0 y1 x0
      clear f1 f2 f3 hZZ hthr hbp e0 hFS hZl
      go_wp2
      exact ⟨rfl, _, results_none rfl _ _ _, rfl, _, HF1.out, (fun b hb => (HF2.out b hb).elim .inl (fun q => .inr (Nat.le_trans HK.out.size q))), HK.out.trans HF3.out (Up.refl _ _)⟩

theorem clear0 {P : Program} (w : World) (t e ty : TypeId) (ht : P.underlying t = some (.slice e)) (z : Value) (hv : ∀ w, (zeroValue e).run P w = .ok z w) (a : Option Addr) (c : Nat) : (Builtin.clear_ #[t] ty #[.slice a 0 c]).run P w = .ok (.tuple #[]) w := by
  cases a <;> simp [Builtin.clear_, run_underlying ht, hv, Builtin.zeroCells, storeCells]
/-- The last mark is struck. -/
theorem Sto.cut0 [Gh] {w : World} {p gm mn mc : Nat} {st : StM} {sl : Sl} (h : Sto w p st sl) (hmv : sl.mv = .slice (some ⟨gm, 0, none⟩) (mn + 1) mc) (ms : List Int) (x : Int) (hms : st.marks = ms ++ [x]) (hmn : ms.length = mn) :
    Sto ((w.setCell ⟨p, 0, none⟩ sl.sv).setCell ⟨p, 1, none⟩ (.slice (some ⟨gm, 0, none⟩) mn mc)) p { st with marks := ms } { sl with mv := .slice (some ⟨gm, 0, none⟩) mn mc } ∧
    Up (XS p sl) (XS p { sl with mv := .slice (some ⟨gm, 0, none⟩) mn mc }) w ∧ Kept (XS p sl) w ((w.setCell ⟨p, 0, none⟩ sl.sv).setCell ⟨p, 1, none⟩ (.slice (some ⟨gm, 0, none⟩) mn mc)) := by
  obtain ⟨ks, hs, hkr⟩ := h.saved
  have hn1 : ∀ b, sl.sv.ownBlock = some b → sl.sv.ownBlock = some b ∨ w.heap.size ≤ b := fun b hb => .inl hb
  obtain ⟨f1, f2, f3⟩ := h.set_saved (grown_refl _ _) hs hn1 hkr
  have r2 := f1.marks
  simp only at r2
  rw [hmv] at r2
  have hlm : (ivs st.marks).length = mn + 1 := by rw [ivs_len, hms]; simp [hmn]
  have r3 := r2.cut (m := mn) (by omega)
  have e3 : (ivs st.marks).take mn = ivs ms := by rw [hms, ivs_snoc, ← hmn]; simp [ivs_len, ivs]
  rw [e3] at r3
  have hmg : sl.mv.ownBlock = some gm := by rw [hmv]; rfl
  obtain ⟨q1, q2, q3⟩ := f1.set_marks (mv' := .slice (some ⟨gm, 0, none⟩) mn mc) (M' := ms) (grown_refl _ _) r3 (fun b hb => .inl (by show sl.mv.ownBlock = _; rw [hmg]; exact hb))
  refine ⟨q1, fun b hb => ?_, f3.trans q3 f2⟩
  rcases q2 b hb with q | q
  · exact f2 b q
  · exact .inr (Nat.le_trans f3.size q)

set_option maxRecDepth 100000 in
set_option maxHeartbeats 4000000 in
theorem back_0 [Gh] {W : World} {p : Nat} {st : StM} {sl : Sl} (h : Sto W p st sl) (hz : Sz st) (ms : List Int) (f : Nat) (hm : st.marks = ms ++ [(f : Int)]) (hf : f = st.saved.length) :
    Calls Tryz.prog 58 #[ptr p, .func (.func 52) #[ptr p] #[]] W fun e w' => e = .returned (.tuple #[]) ∧ ∃ sl', Sto w' p { st with marks := ms } sl' ∧ Up (XS p sl) (XS p sl') W ∧ Kept (XS p sl) W w' := by
  obtain ⟨n, k, m, sa, sc, ma, mc, ia, ic, da, dc, wa, wc, rfl, HL⟩ := h.look
  have hml : m = ms.length + 1 := by rw [← HL.out.2.2, hm]; simp
  obtain ⟨gm, cap, e1, hgm, hle, hcm, hr, hth⟩ := h.marks.at (i := ms.length) (c := [.int .i64 (f : Int)]) (by rw [ivs_get, hm]; simp)
  rw [Nat.mul_one] at hr hth
  have hcf := rng_one hr
  injection e1 with e1 e2 e3
  subst e1 e3
  clear e2 hr hth
  rw [ivs_len, HL.out.2.2] at hle
  unfold maxLen at hcm
  obtain rfl : f = k := by rw [hf]; exact HL.out.2.1
  obtain ⟨hfs, hscm, hnil⟩ : f ≤ sc ∧ sc ≤ 9223372036854775807 ∧ (sa = none → f = 0 ∧ sc = 0) ∧ ∀ a, sa = some a → ∃ g, a = ⟨g, 0, none⟩ := by
    obtain ⟨ks, hs, hkr⟩ := h.saved
    have hk0 := hkr.1
    rw [HL.out.2.1] at hk0
    rcases hs.2.2 with ⟨e1, e2⟩ | ⟨g, cp, cur, e1, e0, hg, hn, hm', hsz, ht⟩
    · injection e1 with e1 e2' e3
      subst e1 e3
      exact ⟨by omega, by omega, fun _ => ⟨by omega, rfl⟩, fun a e => by cases e⟩
    · injection e1 with e1 e2' e3
      subst e1 e3
      unfold maxLen at hm'
      exact ⟨by omega, by omega, fun e => (by cases e), fun a e => ⟨g, by injection e with e; exact e.symm⟩⟩
  have HMS : Hid (st.marks = ms ++ [(f : Int)]) := hm
  obtain ⟨z0, z1, z2, z3, z4, z5, zf⟩ := h.cells
  simp only at z0 z1 z2
  have hmb : m ≤ 1000000 := by rw [← HL.out.2.2]; exact hz.2.1
  have hml' : (m : Int) - 1 = (ms.length : Int) := by omega
  obtain ⟨mn, hmn⟩ : ∃ q, ms.length = q := ⟨_, rfl⟩
  have HMN : Hid (ms.length = mn) := hmn
  rw [hmn] at hml hml' hcf
  obtain ⟨f1, f2, f3⟩ := h.cut0 (gm := gm) (mn := mn) (mc := mc) (by rw [hml]) ms (f : Int) hm hmn
  have HF1 : Hid _ := f1
  have HF2 : Hid _ := f2
  have HF3 : Hid _ := f3
  have hfb : f ≤ 100000000 := by rw [hf]; exact hz.2.2
  have hclr : ∀ ty a c w, (Builtin.clear_ #[62] ty #[.slice a 0 c]).run Tryz.prog w = .ok (.tuple #[]) w := fun ty a c w => clear0 w 62 105 ty Tryz.underlying62 _ zero_kept a c
  clear hmn hm z2 z3 z4 z5 h hz f1 f2 f3 hf
  rcases sa with _ | a
  · obtain ⟨rfl, rfl⟩ := hnil.1 rfl
    go_enter Tryz.func58, Tryz.ntmps58
    go_wp2
    go_loopw [28, 7] (fun i _ wr => i = .int .i64 0 ∧ wr = W) (fun i _ _ => 0 - (intOf i).toNat)
    case atStart => exact ⟨rfl, rfl⟩
    case round =>
      obtain ⟨rfl, rfl⟩ := hrel
      go_wp2
      exact ⟨rfl, _, results_none rfl _ _ _, rfl, _, HF1.out, HF2.out, HF3.out⟩
  · obtain ⟨gk, rfl⟩ := hnil.2 a rfl
    by_cases hfc : sc = f
    · subst hfc
      go_enter Tryz.func58, Tryz.ntmps58
      go_wp2
      go_loopw [28, 7] (fun i _ wr => i = .int .i64 0 ∧ wr = W) (fun i _ _ => 0 - (intOf i).toNat)
      case atStart => exact ⟨rfl, rfl⟩
      case round =>
        obtain ⟨rfl, rfl⟩ := hrel
        go_wp2
        exact ⟨rfl, _, results_none rfl _ _ _, rfl, _, HF1.out, HF2.out, HF3.out⟩
    · have hfc' : f < sc := by omega
      go_enter Tryz.func58, Tryz.ntmps58
      go_wp2
      go_loopw [28, 7] (fun i _ wr => i = .int .i64 0 ∧ wr = W) (fun i _ _ => 0 - (intOf i).toNat)
      case atStart => exact ⟨rfl, rfl⟩
      case round =>
        obtain ⟨rfl, rfl⟩ := hrel
        go_wp2
        exact ⟨rfl, _, results_none rfl _ _ _, rfl, _, HF1.out, HF2.out, HF3.out⟩
end Go.Proofs.YtghnfnieppfhgaaGreat

namespace Go.Proofs.YtghnfnieppfhgaaGreat
open Go.RowKit Go.Shelf
set_option linter.unusedVariables false
set_option linter.unusedSimpArgs false

def popA (st : StM) (ms : List Int) (f : Nat) : StM := { foldA st (st.saved.drop f) with saved := st.saved.take f, marks := ms, why := List.replicate st.D.length 0 }
theorem back_all [Gh] {W : World} {p : Nat} {st : StM} {sl : Sl} (h : Sto W p st sl) (hz : Sz st) (ms : List Int) (f : Nat) (hm : st.marks = ms ++ [(f : Int)]) (hf : f ≤ st.saved.length) (hs : st.saved.length ≤ 100000) (hval : ∀ t ∈ st.saved.drop f, 0 ≤ t.1 ∧ t.1 < st.D.length) (he : -500000 ≤ st.e) (he' : st.e ≤ 500000) :
    Calls Tryz.prog 58 #[ptr p, .func (.func 52) #[ptr p] #[]] W fun e w' => e = .returned (.tuple #[]) ∧ ∃ sl', Sto w' p { foldA st (st.saved.drop f) with saved := st.saved.take f, marks := ms } sl' ∧ Up (XS p sl) (XS p sl') W ∧ Kept (XS p sl) W w' := by
  rcases Nat.lt_or_ge f st.saved.length with h1 | h1
  · exact back_d h hz ms f hm h1 hs hval he he'
  · have e : f = st.saved.length := by omega
    have k := back_0 h hz ms f hm e
    rw [List.drop_of_length_le (by omega), List.take_of_length_le (by omega)]
    exact k

set_option maxRecDepth 100000 in
set_option maxHeartbeats 4000000 in
theorem pop_n [Gh] {W : World} {p : Nat} {st : StM} {sl : Sl} (h : Sto W p st sl) (hz : Sz st) (ms : List Int) (f : Nat) (hm : st.marks = ms ++ [(f : Int)]) (hf : f ≤ st.saved.length) (hs : st.saved.length ≤ 100000) (hval : ∀ t ∈ st.saved.drop f, 0 ≤ t.1 ∧ t.1 < st.D.length) (hn0 : 0 < st.D.length) (he : -500000 ≤ st.e) (he' : st.e ≤ 500000) :
    Calls Tryz.prog 18 #[ptr p] W fun e w' => e = .returned (.int .i64 0) ∧ ∃ sl', Sto w' p (popA st ms f) sl' ∧ Up (XS p sl) (XS p sl') W ∧ Kept (XS p sl) W w' := by
  have kd := depth_any h hz
  have kb := back_all h hz ms f hm hf hs hval he he'
  have hml : st.marks.length ≠ 0 := by rw [hm]; simp
  have HFL : Hid _ := foldA_len st (st.saved.drop f)
  have hlw : (foldA st (st.saved.drop f)).why.length = st.D.length := by rw [HFL.out.2.2.2.1]; exact h.lw
  clear h hm hf hs hval he he'
  generalize hmm : st.marks.length = m at *
  have hne : ((m : Int) == 0) = false := by simp; omega
  clear hml hmm
  go_enter Tryz.func18, Tryz.ntmps18
  go_wp2_with fail
  refine kd.mono ?_
  clear kd
  rintro e wt ⟨rfl, hwt⟩
  rw [hwt]
  clear hwt wt
  go_wp2_with fail
  refine kb.mono ?_
  clear kb
  rintro e w1 ⟨rfl, sl1, hs1, hu1, hk1⟩
  obtain ⟨n, k, mm, sa, sc, ma, mc, ia, ic, da, dc, wa, wc, rfl, HL⟩ := hs1.look
  have hwl : 0 < ({ foldA st (st.saved.drop f) with saved := st.saved.take f, marks := ms } : StM).why.length := by show 0 < (foldA st (st.saved.drop f)).why.length; omega
  obtain ⟨gw, cap, e1, hgw, hle, hcm, _, _⟩ := hs1.why.at (i := 0) (c := [.int .i64 ((foldA st (st.saved.drop f)).why.getD 0 0)]) (by rw [ivs_get]; show ((foldA st (st.saved.drop f)).why[0]?).map _ = _; rw [List.getElem?_eq_getElem hwl]; simp [List.getD, hwl])
  injection e1 with e1 e2 e3
  subst e1 e3
  rw [ivs_len] at e2
  have hnn : n = (foldA st (st.saved.drop f)).why.length := e2
  clear e2
  have hcl := hs1.clear_why (g := gw) (cap := wc) (n := n) rfl
  have hX : XS p ⟨.slice sa k sc, .slice ma mm mc, .slice ia n ic, .slice da n dc, .slice (some ⟨gw, 0, none⟩) n wc⟩ gw := .inr (.inr (.inr (.inr (.inr (.inl rfl)))))
  have hthr : ∀ i, i < n → (w1.cell? ⟨gw, 0 + i, none⟩).isSome = true ∧ w1.frozen? ⟨gw, 0 + i, none⟩ = false := by
    intro i hi
    rw [Nat.zero_add]
    have hi' : i < (foldA st (st.saved.drop f)).why.length := by omega
    obtain ⟨g, cp, q1, _, _, _, q5, q6⟩ := hs1.why.at (i := i) (c := [.int .i64 ((foldA st (st.saved.drop f)).why.getD i 0)]) (by rw [ivs_get]; show ((foldA st (st.saved.drop f)).why[i]?).map _ = _; rw [List.getElem?_eq_getElem hi']; simp [List.getD, hi'])
    injection q1 with q1 _ _
    injection q1 with q1
    injection q1 with q1 _ _
    subst q1
    rw [Nat.mul_one] at q5 q6
    exact ⟨by rw [rng_one q5]; rfl, there_one q6 (by decide)⟩
  have hclr : ∀ ty, (Builtin.clear_ #[63] ty #[.slice (some ⟨gw, 0, none⟩) n wc]).run Tryz.prog w1 = .ok (.tuple #[]) (w1.setCells gw 0 (List.replicate n (.int .i64 0))) := fun ty => Lib.run_clear_slice w1 63 3 ty (.int .i64 0) Tryz.underlying63 (fun w => Tryz.zeroValue3 w) rfl rfl gw 0 n wc (by omega) (fun i hi => (hthr i hi).1) (fun i hi => (hthr i hi).2)
  have HC : Hid (Sto (w1.setCells gw 0 (List.replicate n (.int .i64 0))) p (popA st ms f) ⟨.slice sa k sc, .slice ma mm mc, .slice ia n ic, .slice da n dc, .slice (some ⟨gw, 0, none⟩) n wc⟩) := by
    have e9 : ({ foldA st (st.saved.drop f) with saved := st.saved.take f, marks := ms } : StM).why.length = n := hnn.symm
    rw [e9] at hcl
    have e8 : n = st.D.length := by rw [hnn, hlw]
    rw [Hid, popA, ← e8]
    exact hcl
  have HU : Hid _ := hu1
  have HK : Hid (Kept (XS p sl) W (w1.setCells gw 0 (List.replicate n (.int .i64 0)))) := hk1.trans (Kept.setCells hX _ 0 (Kept.refl _ w1)) hu1
  obtain ⟨z0, z1, z2, z3, z4, z5, zf⟩ := hs1.cells
  simp only at z5
  obtain ⟨RR, hRR⟩ : ∃ q, List.replicate n (Value.int .i64 0) = q := ⟨_, rfl⟩
  rw [hRR] at HC HK
  simp only [hRR] at hclr
  clear hcl hthr hX hs1 hu1 hk1 hnn hlw hRR z0 z1 z2 z3 z4 zf hwl hgw hle hcm
  go_wp2
  go_ret
  exact ⟨rfl, _, HC.out, HU.out, HK.out⟩

set_option maxRecDepth 100000 in
set_option maxHeartbeats 4000000 in
theorem pop_z [Gh] {W : World} {p : Nat} {st : StM} {sl : Sl} (h : Sto W p st sl) (hz : Sz st) (ms : List Int) (f : Nat) (hm : st.marks = ms ++ [(f : Int)]) (hf : f ≤ st.saved.length) (hs : st.saved.length ≤ 100000) (hval : ∀ t ∈ st.saved.drop f, 0 ≤ t.1 ∧ t.1 < st.D.length) (hn0 : st.D.length = 0) (he : -500000 ≤ st.e) (he' : st.e ≤ 500000) :
    Calls Tryz.prog 18 #[ptr p] W fun e w' => e = .returned (.int .i64 0) ∧ ∃ sl', Sto w' p (popA st ms f) sl' ∧ Up (XS p sl) (XS p sl') W ∧ Kept (XS p sl) W w' := by
  have kd := depth_any h hz
  have kb := back_all h hz ms f hm hf hs hval he he'
  have hml : st.marks.length ≠ 0 := by rw [hm]; simp
  have HFL : Hid _ := foldA_len st (st.saved.drop f)
  have hlw : (foldA st (st.saved.drop f)).why.length = st.D.length := by rw [HFL.out.2.2.2.1]; exact h.lw
  clear h hm hf hs hval he he'
  generalize hmm : st.marks.length = m at *
  have hne : ((m : Int) == 0) = false := by simp; omega
  clear hml hmm
  go_enter Tryz.func18, Tryz.ntmps18
  go_wp2_with fail
  refine kd.mono ?_
  clear kd
  rintro e wt ⟨rfl, hwt⟩
  rw [hwt]
  clear hwt wt
  go_wp2_with fail
  refine kb.mono ?_
  clear kb
  rintro e w1 ⟨rfl, sl1, hs1, hu1, hk1⟩
  obtain ⟨n, k, mm, sa, sc, ma, mc, ia, ic, da, dc, wa, wc, rfl, HL⟩ := hs1.look
  have hn : n = 0 := by rw [← HL.out.1]; show (foldA st (st.saved.drop f)).D.length = 0; rw [HFL.out.1]; exact hn0
  subst hn
  have hclr : ∀ ty w, (Builtin.clear_ #[63] ty #[.slice wa 0 wc]).run Tryz.prog w = .ok (.tuple #[]) w := fun ty w => clear0 w 63 3 ty Tryz.underlying63 _ (fun w => Tryz.zeroValue3 w) wa wc
  have HC : Hid (Sto w1 p (popA st ms f) ⟨.slice sa k sc, .slice ma mm mc, .slice ia 0 ic, .slice da 0 dc, .slice wa 0 wc⟩) := by
    have e9 : (foldA st (st.saved.drop f)).why = List.replicate st.D.length 0 := by
      rw [hn0] at hlw ⊢
      exact List.eq_nil_of_length_eq_zero hlw
    rw [Hid, popA, ← e9]
    exact hs1
  have HU : Hid _ := hu1
  have HK : Hid (Kept (XS p sl) W w1) := hk1
  obtain ⟨z0, z1, z2, z3, z4, z5, zf⟩ := hs1.cells
  simp only at z5
  clear hs1 hu1 hk1 hlw z0 z1 z2 z3 z4 zf
  go_wp2
  go_ret
  exact ⟨rfl, _, HC.out, HU.out, HK.out⟩
theorem pop_d [Gh] {W : World} {p : Nat} {st : StM} {sl : Sl} (h : Sto W p st sl) (hz : Sz st) (ms : List Int) (f : Nat) (hm : st.marks = ms ++ [(f : Int)]) (hf : f ≤ st.saved.length) (hs : st.saved.length ≤ 100000) (hval : ∀ t ∈ st.saved.drop f, 0 ≤ t.1 ∧ t.1 < st.D.length) (he : -500000 ≤ st.e) (he' : st.e ≤ 500000) :
    Calls Tryz.prog 18 #[ptr p] W fun e w' => e = .returned (.int .i64 0) ∧ ∃ sl', Sto w' p (popA st ms f) sl' ∧ Up (XS p sl) (XS p sl') W ∧ Kept (XS p sl) W w' := by
  rcases Nat.eq_zero_or_pos st.D.length with h0 | h0
  · exact pop_z h hz ms f hm hf hs hval h0 he he'
  · exact pop_n h hz ms f hm hf hs hval h0 he he'

end Go.Proofs.YtghnfnieppfhgaaGreat
