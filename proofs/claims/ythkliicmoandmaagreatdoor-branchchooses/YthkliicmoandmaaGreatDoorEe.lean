/-
  What is proved here: the reference's decision of a variable of whole numbers; of any.
-/
import Derived.Test.YthkliicmoandmaaGreatDoorEd
import Derived.Test.YthkliicmoandmaaGreatDoorDi
import Derived.Deep.RegionHeld3
namespace Go.Proofs.YthkliicmoandmaaGreatDoor
open Go.RowKit Go.Shelf
set_option linter.unusedVariables false
set_option linter.unusedSimpArgs false

set_option maxRecDepth 100000 in
set_option maxHeartbeats 4000000 in
theorem rdecide_n {X Y : Nat → Prop} {W : World} {c : List Value} {d : MD} {p : Nat} {L R : List Int} (v how : Int) (h : Dc (fun b => b = p) W c d) (hs : d.set = false) (hv : sevB d = true) (hr : Rq X W p L R) (hXX : ∀ b, W.heap.size ≤ b → X b) :
    Calls Tryz.prog 44 #[.int .i64 v, .int .i64 how, .agg c.toArray, ptr p] W fun e w' => e = .returned (.agg #[.int .i64 v, .int .i64 (numA how d.r R).1.1, .int .i64 (numA how d.r R).1.2]) ∧ Rq X w' p L (numA how d.r R).2 ∧ Kept (fun b => b = p) W w' := by
  obtain ⟨b, ra, n0, rc, a1, n1, c1, a2, n2, c2, x, y, e1, HE, H1, _, _⟩ := h.look
  subst e1
  obtain rfl : b = false := by rw [← HE.out.1, hs]
  obtain ⟨N, hN⟩ : ∃ N, W.heap.size = N := ⟨_, rfl⟩
  obtain ⟨W0, hW0⟩ : ∃ Q, (W.alloc (Obj.cells #[.bool false, .slice ra n0 rc, .slice a1 n1 c1, .slice a2 n2 c2, .int .i64 x, .int .i64 y] 50)).alloc (Obj.cells #[.int .i64 0, .int .i64 0, .int .i64 0] 35) = Q := ⟨_, rfl⟩
  have hb0 : Below W.heap.size W W0 := by rw [← hW0]; exact ((Below.refl _ W).alloc (Nat.le_refl _) _).alloc (by simp) _
  have HX : Hid (Bx W0 N #[.bool false, .slice ra n0 rc, .slice a1 n1 c1, .slice a2 n2 c2, .int .i64 x, .int .i64 y] 50) := by rw [← hW0]; exact (Bx.new' hN _ _).alloc _
  have HY : Hid (Bx W0 (N + 1) #[.int .i64 0, .int .i64 0, .int .i64 0] 35) := by rw [← hW0]; exact Bx.new' (by simp [hN]) _ _
  have hpl := hr.lt
  have HPN : Hid (p ≠ N + 1) := by unfold Hid; omega
  have HPN0 : Hid (p ≠ N) := by unfold Hid; omega
  have HXN : Hid (X (N + 1)) := hXX _ (by omega)
  have HNN : Hid (W.heap.size ≤ N + 1) := by unfold Hid; omega
  have HYK : Hid (∀ w, Kept (fun b => b = p) W0 w → Bx w (N + 1) #[.int .i64 0, .int .i64 0, .int .i64 0] 35) := fun w hk => HY.out.kept hk (fun e => HPN.out e.symm) |> fun h => h
  have HXK : Hid (∀ w, Kept (fun b => b = p) W0 w → Bx w N #[.bool false, .slice ra n0 rc, .slice a1 n1 c1, .slice a2 n2 c2, .int .i64 x, .int .i64 y] 50) := fun w hk => HX.out.kept hk (fun e => HPN0.out e.symm) |> fun h => h
  have HKW : Hid (∀ w, Kept (fun b => b = p) W0 w → Kept (fun b => b = p) W w) := fun w hk => (Kept.of_below hb0).trans hk (Up.refl _ _)
  have HRW : Hid (∀ w, Below W0.heap.size W0 w → Rq X w p L R) := fun w hb => (hr.below hb0).below hb
  obtain ⟨hR, hl, hsz, m1, m2, hlt, hbn⟩ := num_facts hv hs
  have HRM : Hid (∀ w, Kept (fun b => b = p) W0 w → Rm (fun b => b = p) w (.slice ra n0 rc) d.r) := fun w hk => (H1.out.kept (Kept.of_below hb0)).kept hk
  have HEN : Hid (∀ w, Below W0.heap.size W0 w → Calls Tryz.prog 83 #[.agg #[.bool false, .slice ra n0 rc, .slice a1 n1 c1, .slice a2 n2 c2, .int .i64 x, .int .i64 y]] w fun e w' => e = .returned (.tuple #[.int .i64 (loM d), .int .i64 (hiM d)]) ∧ Below w.heap.size w w') := fun w hb => rends_n ((h.below hb0).below hb) hs hR hl
  have HSI : Hid (∀ w, Below W0.heap.size W0 w → Calls Tryz.prog 67 #[.slice ra n0 rc] w fun e w' => e = .returned (.int .i64 (Dm.sizeR d.r)) ∧ Below w.heap.size w w') := fun w hb => by
    have := Dm.refsize_any _ _ w (HRM.out w (Kept.of_below hb)).sr
    rw [Dm.tk_yes hR] at this
    exact this
  have HNT : Hid (∀ (q : Int) w, Kept (fun b => b = p) W0 w → 0 ≤ q → q ≤ 4611686018427387904 → Calls Tryz.prog 85 #[.slice ra n0 rc, .int .i64 q] w fun e w' => e = .returned (.int .i64 (nthR d.r q)) ∧ Below w.heap.size w w') := fun q w hk h1 h2 => rnth_any (HRM.out w hk) hR q h1 h2
  have hlb := hbn _ m1
  have hhb := hbn _ m2
  have HHA : Hid (∀ w, Calls Tryz.prog 86 #[.int .i64 (loM d), .int .i64 (hiM d)] w fun e w' => e = .returned (.int .i64 ((loM d + hiM d) / 2)) ∧ w' = w) := fun w => rhalf_any _ _ w hlb hhb
  have hsz2 : Dm.sizeR d.r ≤ 4611686018427387904 := by
    have q := siz_bounds d
    unfold sizA at q
    rw [if_neg (by rw [hs]; decide), Dm.tk_yes hR] at q
    exact q.2
  have HNU : Hid (numA how d.r R = if how = 2 then ((0, nthR d.r ((Dm.sizeR d.r - 1) / 2)), R) else if how = 5 then ((0, nthR d.r (nextM R (Dm.sizeR d.r)).1), (nextM R (Dm.sizeR d.r)).2) else (numM how (loM d) (hiM d), R)) := by
    unfold Hid numA
    rw [Dm.tk_yes hR]
    rfl
  obtain ⟨EL, hEL⟩ : ∃ q, numA how d.r R = q := ⟨_, rfl⟩
  rw [hEL] at HNU ⊢
  have HWW : Hid _ := hW0
  generalize d.r = r at *
  generalize loM d = lo at *
  generalize hiM d = hi at *
  generalize Dm.sizeR r = sz at *
  obtain ⟨z0, z1, z2, z3, z4, z5⟩ := HX.out.six
  clear hb0 hW0 HE h hv hr hs hEL hpl hXX hR hl m1 m2 hbn H1
  go_enter Tryz.func44, Tryz.ntmps44
  go_upto_region 1 with (fail)
  rw [HWW.out]
  clear hN
  go_wp2_with fail
  refine (HEN.out _ (Below.refl _ _)).mono ?_
  clear z0 z1 z2 z3 z4 z5
  rintro e w1 ⟨rfl, hb1⟩
  have HB1 : Hid (Below W0.heap.size W0 w1) := hb1
  clear hb1
  obtain ⟨z0, z1, z2, z3, z4, z5⟩ := (HX.out.below HB1.out).six
  go_wp2_with fail
  refine (HSI.out _ HB1.out).mono ?_
  clear z0 z1 z2 z3 z4 z5
  rintro e w2 ⟨rfl, hb2⟩
  have HB2 : Hid (Below W0.heap.size W0 w2) := HB1.out.trans (hb2.mono HB1.out.size)
  have HK2 : Hid (Kept (fun b => b = p) W0 w2) := Kept.of_below HB2.out
  have HR2 : Hid (Rq X w2 p L R) := HRW.out _ HB2.out
  clear hb2
  by_cases h1 : how = 1
  · subst h1
    have HM : Hid (EL = ((0, hi), R)) := HNU.out
    have HYw : Hid (Bx w2 (N + 1) #[.int .i64 0, .int .i64 0, .int .i64 0] 35) := HYK.out _ HK2.out
    obtain ⟨y0, y1, y2⟩ := HYw.out.three
    have f0 := HYw.out.fr 0
    have f1 := HYw.out.fr 1
    have f2 := HYw.out.fr 2
    go_wp2
    refine ⟨rfl, _, results_cell_row rfl _ _ (N + 1) 35 _ (0, 0) _ rfl (HYw.out.set3 _ _ _).h Tryz.underlying35 rfl (by kernel_rfl), ?_, ?_, ?_⟩
    · rw [HM.out]
    · rw [HM.out]; exact HR2.out.set3 HXN.out HPN.out
    · exact kept_set3' HKW.out HK2.out HNN.out
  have e1 : (how == 1) = false := by simpa using h1
  by_cases h2 : how = 2
  · subst h2
    have HM : Hid (EL = ((0, nthR r ((sz - 1) / 2)), R)) := HNU.out
    have hq : (sz - 1).tdiv 2 = (sz - 1) / 2 := Int.tdiv_eq_ediv_of_nonneg (by omega)
    have hq1 : 0 ≤ (sz - 1) / 2 := by omega
    have hq2 : (sz - 1) / 2 ≤ 4611686018427387904 := by omega
    have hq3 : -9223372036854775808 ≤ (sz - 1) / 2 ∧ (sz - 1) / 2 ≤ 9223372036854775807 := by omega
    have hq4 : -9223372036854775808 ≤ sz - 1 ∧ sz - 1 ≤ 9223372036854775807 := by omega
    have hw1 := wrapU_in _ hq4
    have hw1i := wrapI_in _ hq4
    have hwq := wrapU_in ((sz - 1) / 2) hq3
    have hwqi := wrapI_in ((sz - 1) / 2) hq3
    generalize (sz - 1) / 2 = qq at *
    obtain ⟨z0, z1, z2, z3, z4, z5⟩ := (HXK.out _ HK2.out).six
    go_wp2_with fail
    refine (HNT.out qq _ HK2.out hq1 hq2).mono ?_
    clear z0 z1 z2 z3 z4 z5
    rintro e w3 ⟨rfl, hb3⟩
    have HB3 : Hid (Below W0.heap.size W0 w3) := HB2.out.trans (hb3.mono HB2.out.size)
    have HK3 : Hid (Kept (fun b => b = p) W0 w3) := Kept.of_below HB3.out
    have HR3 : Hid (Rq X w3 p L R) := HRW.out _ HB3.out
    clear hb3
    have HYw : Hid (Bx w3 (N + 1) #[.int .i64 0, .int .i64 0, .int .i64 0] 35) := HYK.out _ HK3.out
    obtain ⟨y0, y1, y2⟩ := HYw.out.three
    have f0 := HYw.out.fr 0
    have f1 := HYw.out.fr 1
    have f2 := HYw.out.fr 2
    go_wp2
    refine ⟨rfl, _, results_cell_row rfl _ _ (N + 1) 35 _ (0, 0) _ rfl (HYw.out.set3 _ _ _).h Tryz.underlying35 rfl (by kernel_rfl), ?_, ?_, ?_⟩
    · rw [HM.out]
    · rw [HM.out]; exact HR3.out.set3 HXN.out HPN.out
    · exact kept_set3' HKW.out HK3.out HNN.out
  have e2 : (how == 2) = false := by simpa using h2
  by_cases h3 : how = 3
  · subst h3
    have HM : Hid (EL = ((2, (lo + hi) / 2), R)) := HNU.out
    generalize (lo + hi) / 2 = mid at *
    go_wp2_with fail
    refine (HHA.out w2).mono ?_
    rintro e w3 ⟨rfl, hw3⟩
    rw [hw3]
    clear hw3 w3
    have HYw : Hid (Bx w2 (N + 1) #[.int .i64 0, .int .i64 0, .int .i64 0] 35) := HYK.out _ HK2.out
    obtain ⟨y0, y1, y2⟩ := HYw.out.three
    have f0 := HYw.out.fr 0
    have f1 := HYw.out.fr 1
    have f2 := HYw.out.fr 2
    go_wp2
    refine ⟨rfl, _, results_cell_row rfl _ _ (N + 1) 35 _ (0, 0) _ rfl (HYw.out.set3 _ _ _).h Tryz.underlying35 rfl (by kernel_rfl), ?_, ?_, ?_⟩
    · rw [HM.out]
    · rw [HM.out]; exact HR2.out.set3 HXN.out HPN.out
    · exact kept_set3' HKW.out HK2.out HNN.out
  have e3 : (how == 3) = false := by simpa using h3
  by_cases h4 : how = 4
  · subst h4
    have HM : Hid (EL = ((3, (lo + hi) / 2), R)) := HNU.out
    generalize (lo + hi) / 2 = mid at *
    go_wp2_with fail
    refine (HHA.out w2).mono ?_
    rintro e w3 ⟨rfl, hw3⟩
    rw [hw3]
    clear hw3 w3
    have HYw : Hid (Bx w2 (N + 1) #[.int .i64 0, .int .i64 0, .int .i64 0] 35) := HYK.out _ HK2.out
    obtain ⟨y0, y1, y2⟩ := HYw.out.three
    have f0 := HYw.out.fr 0
    have f1 := HYw.out.fr 1
    have f2 := HYw.out.fr 2
    go_wp2
    refine ⟨rfl, _, results_cell_row rfl _ _ (N + 1) 35 _ (0, 0) _ rfl (HYw.out.set3 _ _ _).h Tryz.underlying35 rfl (by kernel_rfl), ?_, ?_, ?_⟩
    · rw [HM.out]
    · rw [HM.out]; exact HR2.out.set3 HXN.out HPN.out
    · exact kept_set3' HKW.out HK2.out HNN.out
  have e4 : (how == 4) = false := by simpa using h4
  by_cases h5 : how = 5
  · subst h5
    have HM : Hid (EL = ((0, nthR r (nextM R sz).1), (nextM R sz).2)) := HNU.out
    have hnx := next_in R (m := sz) (by omega)
    have kn := rnext_q (HR2.out.below (Below.refl _ _).drew) sz (by omega)
    have hq2 : (nextM R sz).1 ≤ 4611686018427387904 := by omega
    generalize (nextM R sz).1 = qq at *
    generalize (nextM R sz).2 = R' at *
    have HKN : Hid _ := kn
    have HKd : Hid (Kept (fun b => b = p) W0 w2.drew) := HK2.out.then_below (Below.refl _ _).drew
    have FS : Hid (∀ w, Kept (fun b => b = p) W0 w → Bx w N #[.bool false, .slice ra n0 rc, .slice a1 n1 c1, .slice a2 n2 c2, .int .i64 x, .int .i64 y] 50) := fun w hk => HXK.out w hk
    obtain ⟨hq1, _⟩ := hnx
    clear kn
    go_upto_region 22 with (fail)
    refine wp_region_held_drew (S := fun X : World => Bx X N #[.bool false, .slice ra n0 rc, .slice a1 n1 c1, .slice a2 n2 c2, .int .i64 x, .int .i64 y] 50) (by kernel_rfl) ((FS.out _ HKd.out)) (fun hHeld => ?_)
    refine wpAnyH_take (i := 0) (oi := { dst := some 78, op := Go.Op.move (Go.Operand.tmp 0), type := 3, pos := "ref.go:151", after := #[], guard := none }) (v := ?_) rfl (by kernel_rfl) (by kernel_rfl) (by kernel_rfl) (fun _ _ _ h => h) (Or.inl ⟨by rfl, ?_⟩) hHeld ?_
    rotate_left
    · intro w hSw; (try dsimp only at hSw); go_simp <;> with_reducible rfl
    try simp only [Act.put, List.setIfInBounds_toArray, List.set_cons_zero, List.set_cons_succ]
    refine wpAnyH_take (i := 1) (oi := { dst := some 79, op := Go.Op.fieldAddr 50 (Go.Operand.tmp 6) 1, type := 0, pos := "ref.go:151", after := #[], guard := none }) (v := ?_) rfl (by kernel_rfl) (by kernel_rfl) (by kernel_rfl) (fun _ _ _ h => h) (Or.inl ⟨by rfl, ?_⟩) hHeld ?_
    rotate_left
    · intro w hSw; (try dsimp only at hSw); go_simp <;> with_reducible rfl
    try simp only [Act.put, List.setIfInBounds_toArray, List.set_cons_zero, List.set_cons_succ]
    refine wpAnyH_take (i := 2) (oi := { dst := some 80, op := Go.Op.load 47 (Go.Operand.tmp 79), type := 47, pos := "ref.go:151", after := #[{ on := 1, ground := Go.Ground.data }], guard := none }) (v := ?_) rfl (by kernel_rfl) (by kernel_rfl) (by kernel_rfl) (fun _ _ _ h => h) (Or.inl ⟨by rfl, ?_⟩) hHeld ?_
    rotate_left
    · intro w hSw; obtain ⟨q0, q1, q2, q3, q4, q5⟩ := hSw.six; go_simp <;> with_reducible rfl
    try simp only [Act.put, List.setIfInBounds_toArray, List.set_cons_zero, List.set_cons_succ]
    refine wpAnyH_take (i := 3) (oi := { dst := some 81, op := Go.Op.move (Go.Operand.tmp 3), type := 28, pos := "ref.go:151", after := #[], guard := none }) (v := ?_) rfl (by kernel_rfl) (by kernel_rfl) (by kernel_rfl) (fun _ _ _ h => h) (Or.inl ⟨by rfl, ?_⟩) hHeld ?_
    rotate_left
    · intro w hSw; (try dsimp only at hSw); go_simp <;> with_reducible rfl
    try simp only [Act.put, List.setIfInBounds_toArray, List.set_cons_zero, List.set_cons_succ]
    refine wpAnyH_take (i := 4) (oi := { dst := some 82, op := Go.Op.move (Go.Operand.tmp 12), type := 2, pos := "ref.go:151", after := #[], guard := none }) (v := ?_) rfl (by kernel_rfl) (by kernel_rfl) (by kernel_rfl) (fun _ _ _ h => h) (Or.inl ⟨by rfl, ?_⟩) hHeld ?_
    rotate_left
    · intro w hSw; (try dsimp only at hSw); go_simp <;> with_reducible rfl
    try simp only [Act.put, List.setIfInBounds_toArray, List.set_cons_zero, List.set_cons_succ]
    refine wpAnyH_ready (rs := [5]) (by kernel_rfl) (by simp) ?_
    refine AllReadyH.cons rfl (fun K hK => ?_) AllReadyH.nil
    go_simp
    refine Calls.mono HKN.out ?_
    rintro e u1 ⟨rfl, hd3, hk3⟩
    have HR3 : Hid (Rq X u1 p L R') := hd3
    have HK3 : Hid (Kept (fun b => b = p) W0 u1) := HKd.out.trans hk3 (Up.refl _ _)
    clear hd3 hk3
    refine hK.out _ _ ((FS.out _ HK3.out)) (fun hHeld2 => ?_)
    clear hK K hHeld
    have hHeld := hHeld2
    clear hHeld2
    try simp only [Act.put, List.setIfInBounds_toArray, List.set_cons_zero, List.set_cons_succ]
    refine wpAnyH_ready (rs := [6]) (by kernel_rfl) (by simp) ?_
    refine AllReadyH.cons rfl (fun K hK => ?_) AllReadyH.nil
    go_simp
    refine (HNT.out qq _ HK3.out hq1 hq2).mono ?_
    rintro e u2 ⟨rfl, hb4⟩
    have HR4 : Hid (Rq X u2 p L R') := HR3.out.below hb4
    have HK4 : Hid (Kept (fun b => b = p) W0 u2) := HK3.out.then_below hb4
    clear hb4
    refine hK.out _ _ ((FS.out _ HK4.out)) (fun hHeld2 => ?_)
    clear hK K hHeld
    have hHeld := hHeld2
    clear hHeld2
    try simp only [Act.put, List.setIfInBounds_toArray, List.set_cons_zero, List.set_cons_succ]
    refine wpAnyH_take (i := 7) (oi := { dst := some 85, op := Go.Op.build 35 #[(0, Go.Operand.tmp 78), (1, Go.Operand.const (Go.Value.int Go.IntKind.i64 0)), (2, Go.Operand.tmp 84)], type := 35, pos := "ref.go:151", after := #[{ on := 0, ground := Go.Ground.data }, { on := 6, ground := Go.Ground.data }], guard := none }) (v := ?_) rfl (by kernel_rfl) (by kernel_rfl) (by kernel_rfl) (fun _ _ _ h => h) (Or.inl ⟨by rfl, ?_⟩) hHeld ?_
    rotate_left
    · intro w hSw; (try dsimp only at hSw); go_simp <;> with_reducible rfl
    try simp only [Act.put, List.setIfInBounds_toArray, List.set_cons_zero, List.set_cons_succ]
    refine wpAnyH_ready (rs := [8]) (by kernel_rfl) (by simp) ?_
    refine AllReadyH.cons rfl (fun K hK => ?_) AllReadyH.nil
    have HYw : Hid (Bx u2 (N + 1) #[.int .i64 0, .int .i64 0, .int .i64 0] 35) := HYK.out _ HK4.out
    obtain ⟨y0, y1, y2⟩ := HYw.out.three
    have f0 := HYw.out.fr 0
    have f1 := HYw.out.fr 1
    have f2 := HYw.out.fr 2
    go_simp
    refine hK.out _ _ (((((HXK.out _ HK4.out).other (show N ≠ N + 1 by omega) _ _).other (show N ≠ N + 1 by omega) _ _).other (show N ≠ N + 1 by omega) _ _)) (fun hHeld2 => ?_)
    clear hK K hHeld
    have hHeld := hHeld2
    clear hHeld2
    try simp only [Act.put, List.setIfInBounds_toArray, List.set_cons_zero, List.set_cons_succ]
    refine wpAnyH_done (by kernel_rfl) ?_ _
    go_wp2
    refine ⟨rfl, _, results_cell_row rfl _ _ (N + 1) 35 _ (0, 0) _ rfl (HYw.out.set3 _ _ _).h Tryz.underlying35 rfl (by kernel_rfl), ?_, ?_, ?_⟩
    · rw [HM.out]
    · rw [HM.out]; exact HR4.out.set3 HXN.out HPN.out
    · exact kept_set3' HKW.out HK4.out HNN.out
  have e5 : (how == 5) = false := by simpa using h5
  have HM : Hid (EL = ((0, lo), R)) := by unfold Hid; rw [HNU.out, if_neg h2, if_neg h5]; unfold numM; rw [if_neg h1, if_neg h3, if_neg h4]
  have HYw : Hid (Bx w2 (N + 1) #[.int .i64 0, .int .i64 0, .int .i64 0] 35) := HYK.out _ HK2.out
  obtain ⟨y0, y1, y2⟩ := HYw.out.three
  have f0 := HYw.out.fr 0
  have f1 := HYw.out.fr 1
  have f2 := HYw.out.fr 2
  go_wp2
  refine ⟨rfl, _, results_cell_row rfl _ _ (N + 1) 35 _ (0, 0) _ rfl (HYw.out.set3 _ _ _).h Tryz.underlying35 rfl (by kernel_rfl), ?_, ?_, ?_⟩
  · rw [HM.out]
  · rw [HM.out]; exact HR2.out.set3 HXN.out HPN.out
  · exact kept_set3' HKW.out HK2.out HNN.out

theorem rdecide_any {X : Nat → Prop} {W : World} {c : List Value} {d : MD} {p : Nat} {L R : List Int} (v how : Int) (h : Dc (fun b => b = p) W c d) (hv : sevB d = true) (hr : Rq X W p L R) :
    Calls Tryz.prog 44 #[.int .i64 v, .int .i64 how, .agg c.toArray, ptr p] W fun e w' => e = .returned (.agg #[.int .i64 v, .int .i64 (if d.set then elemA how (freeL d) R else numA how d.r R).1.1, .int .i64 (if d.set then elemA how (freeL d) R else numA how d.r R).1.2]) ∧ Rq X w' p L (if d.set then elemA how (freeL d) R else numA how d.r R).2 ∧ Kept (fun b => b = p) W w' := by
  cases hs : d.set
  · simp only [Bool.false_eq_true, if_false]
    exact (rdecide_n (Y := X) v how h hs hv hr.more (fun b hb => .inr hb)).mono fun e w' ⟨he, h1, h2⟩ => ⟨he, h1.less (fun b hb => .inl hb), h2⟩
  · simp only [if_true]
    exact (rdecide_s v how h hs hv hr.more (fun b hb => .inr hb)).mono fun e w' ⟨he, h1, h2⟩ => ⟨he, h1.less (fun b hb => .inl hb), h2⟩
end Go.Proofs.YthkliicmoandmaaGreatDoor
