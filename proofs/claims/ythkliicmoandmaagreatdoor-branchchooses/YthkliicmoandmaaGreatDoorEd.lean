/-
  What is proved here: the reference's decision of a variable.
-/
import Derived.Test.YthkliicmoandmaaGreatDoorEc
import Derived.Deep.RegionHeld3
namespace Go.Proofs.YthkliicmoandmaaGreatDoor
open Go.RowKit Go.Shelf
set_option linter.unusedVariables false
set_option linter.unusedSimpArgs false

theorem Rq.set3 {X : Nat → Prop} {w : World} {p g : Nat} {l R : List Int} {u0 u1 u2 : Value} (h : Rq X w p l R) (hX : X g) (hn : p ≠ g) : Rq X (((w.setCell ⟨g, 0, none⟩ u0).setCell ⟨g, 1, none⟩ u1).setCell ⟨g, 2, none⟩ u2) p l R := by
  obtain ⟨k, h1, h2⟩ := h
  exact ⟨k, ((h1.kept (Kept.set g 0 u0) hn hX).kept (Kept.set g 1 u1) hn hX).kept (Kept.set g 2 u2) hn hX, h2⟩
theorem Rq.more {X : Nat → Prop} {w : World} {p : Nat} {l R : List Int} (h : Rq X w p l R) : Rq (fun b => X b ∨ w.heap.size ≤ b) w p l R := by
  obtain ⟨k, ⟨a, c, h1, h2, h3, h4⟩, e⟩ := h
  exact ⟨k, ⟨a, c, h1, h2, h3, fun h0 => by obtain ⟨b, off, q1, q2, q3, q4, q5⟩ := h4 h0; exact ⟨b, off, q1, q2, q3, fun q => q.elim q4 (fun q => by omega), q5⟩⟩, e⟩
theorem Rq.less {X X' : Nat → Prop} {w : World} {p : Nat} {l R : List Int} (h : Rq X' w p l R) (hX : ∀ b, X b → X' b) : Rq X w p l R := by
  obtain ⟨k, ⟨a, c, h1, h2, h3, h4⟩, e⟩ := h
  exact ⟨k, ⟨a, c, h1, h2, h3, fun h0 => by obtain ⟨b, off, q1, q2, q3, q4, q5⟩ := h4 h0; exact ⟨b, off, q1, q2, q3, fun q => q4 (hX b q), q5⟩⟩, e⟩
theorem kept_set3 {X : Nat → Prop} {W w : World} {g : Nat} {u0 u1 u2 : Value} (h : Kept X W w) (hg : W.heap.size ≤ g) : Kept X W (((w.setCell ⟨g, 0, none⟩ u0).setCell ⟨g, 1, none⟩ u1).setCell ⟨g, 2, none⟩ u2) :=
  ⟨h.os, h.tape, h.output, by simp only [World.size_setCell]; exact h.size, fun b hb hX => by
    have hbN : b ≠ g := by omega
    exact (Below.heap_setCell _ _ _ b hbN).trans ((Below.heap_setCell _ _ _ b hbN).trans ((Below.heap_setCell _ _ _ b hbN).trans (h.block b hb hX)))⟩
theorem kept_set3' {X : Nat → Prop} {W w0 w : World} {g : Nat} {u0 u1 u2 : Value} (hk : ∀ w, Kept X w0 w → Kept X W w) (h : Kept X w0 w) (hg : W.heap.size ≤ g) : Kept X W (((w.setCell ⟨g, 0, none⟩ u0).setCell ⟨g, 1, none⟩ u1).setCell ⟨g, 2, none⟩ u2) := kept_set3 (hk w h) hg

set_option maxRecDepth 100000 in
set_option maxHeartbeats 4000000 in
theorem rdecide_s {X Y : Nat → Prop} {W : World} {c : List Value} {d : MD} {p : Nat} {L R : List Int} (v how : Int) (h : Dc Y W c d) (hs : d.set = true) (hv : sevB d = true) (hr : Rq X W p L R) (hXX : ∀ b, W.heap.size ≤ b → X b) :
    Calls Tryz.prog 44 #[.int .i64 v, .int .i64 how, .agg c.toArray, ptr p] W fun e w' => e = .returned (.agg #[.int .i64 v, .int .i64 (elemA how (freeL d) R).1.1, .int .i64 (elemA how (freeL d) R).1.2]) ∧ Rq X w' p L (elemA how (freeL d) R).2 ∧ Kept (fun b => b = p) W w' := by
  obtain ⟨b, ra, n0, rc, a1, n1, c1, a2, n2, c2, x, y, e1, HE, _, _, _⟩ := h.look
  subst e1
  obtain rfl : b = true := by rw [← HE.out.1, hs]
  obtain ⟨N, hN⟩ : ∃ N, W.heap.size = N := ⟨_, rfl⟩
  obtain ⟨W0, hW0⟩ : ∃ Q, (W.alloc (Obj.cells #[.bool true, .slice ra n0 rc, .slice a1 n1 c1, .slice a2 n2 c2, .int .i64 x, .int .i64 y] 50)).alloc (Obj.cells #[.int .i64 0, .int .i64 0, .int .i64 0] 35) = Q := ⟨_, rfl⟩
  have hb0 : Below W.heap.size W W0 := by rw [← hW0]; exact ((Below.refl _ W).alloc (Nat.le_refl _) _).alloc (by simp) _
  have HX : Hid (Bx W0 N #[.bool true, .slice ra n0 rc, .slice a1 n1 c1, .slice a2 n2 c2, .int .i64 x, .int .i64 y] 50) := by rw [← hW0]; exact (Bx.new' hN _ _).alloc _
  have HY : Hid (Bx W0 (N + 1) #[.int .i64 0, .int .i64 0, .int .i64 0] 35) := by rw [← hW0]; exact Bx.new' (by simp [hN]) _ _
  have hpl := hr.lt
  have HPN : Hid (p ≠ N + 1) := by unfold Hid; omega
  have HPN0 : Hid (p ≠ N) := by unfold Hid; omega
  have HXN : Hid (X (N + 1)) := hXX _ (by omega)
  have HNN : Hid (W.heap.size ≤ N + 1) := by unfold Hid; omega
  have HYK : Hid (∀ w, Kept (fun b => b = p) W0 w → Bx w (N + 1) #[.int .i64 0, .int .i64 0, .int .i64 0] 35) := fun w hk => HY.out.kept hk (fun e => HPN.out e.symm) |> fun h => h
  have HXK : Hid (∀ w, Kept (fun b => b = p) W0 w → Bx w N #[.bool true, .slice ra n0 rc, .slice a1 n1 c1, .slice a2 n2 c2, .int .i64 x, .int .i64 y] 50) := fun w hk => HX.out.kept hk (fun e => HPN0.out e.symm) |> fun h => h
  have HKW : Hid (∀ w, Kept (fun b => b = p) W0 w → Kept (fun b => b = p) W w) := fun w hk => (Kept.of_below hb0).trans hk (Up.refl _ _)
  have HRW : Hid (∀ w, Below W0.heap.size W0 w → Rq X w p L R) := fun w hb => (hr.below hb0).below hb
  have HEN : Hid (∀ w, Below W0.heap.size W0 w → Calls Tryz.prog 83 #[.agg #[.bool true, .slice ra n0 rc, .slice a1 n1 c1, .slice a2 n2 c2, .int .i64 x, .int .i64 y]] w fun e w' => e = .returned (.tuple #[.int .i64 (St.nth (freeL d) 0), .int .i64 (St.nth (freeL d) ((freeL d).length - 1))]) ∧ Below w.heap.size w w') := fun w hb => by
    have := rends_d ((h.below hb0).below hb) hv
    unfold endsD at this
    rw [if_pos hs] at this
    exact this
  have HFR : Hid (∀ w, Below W0.heap.size W0 w → Calls Tryz.prog 84 #[.agg #[.bool true, .slice ra n0 rc, .slice a1 n1 c1, .slice a2 n2 c2, .int .i64 x, .int .i64 y]] w fun e w' => ∃ v, e = .returned v ∧ w'.ownsRow w.heap.size 2 1 v (freeL d).length (St.intv (freeL d)) ∧ Below w.heap.size w w') := fun w hb => rfree_any ((h.below hb0).below hb)
  obtain ⟨hf1, hf2⟩ := free_pos hv hs
  have HEL : Hid (∀ how, elemA how (freeL d) R = if how = 1 ∨ how = 4 then ((4, St.nth (freeL d) ((freeL d).length - 1)), R) else if how = 5 then ((4, St.nth (freeL d) (nextM R (freeL d).length).1.toNat), (nextM R (freeL d).length).2) else ((4, St.nth (freeL d) 0), R)) := fun _ => rfl
  have HEW : Hid (elemA how (freeL d) R = elemA how (freeL d) R) := rfl
  obtain ⟨EL, hEL⟩ : ∃ q, elemA how (freeL d) R = q := ⟨_, rfl⟩
  have HE1 := HEL.out how
  rw [hEL] at HE1 ⊢
  have HEE : Hid _ := HE1
  generalize freeL d = fl at *
  obtain ⟨nf, hnf⟩ : ∃ q, fl.length = q := ⟨_, rfl⟩
  have HNF : Hid (fl.length = nf) := hnf
  rw [hnf] at hf1 hf2
  have HWW : Hid _ := hW0
  have HBB : Hid (Below W.heap.size W W0) := hb0
  obtain ⟨q0, hq0⟩ : ∃ q, St.nth fl 0 = q := ⟨_, rfl⟩
  obtain ⟨q1, hq1⟩ : ∃ q, St.nth fl (fl.length - 1) = q := ⟨_, rfl⟩
  rw [hq0, hq1] at HEN HEE
  obtain ⟨z0, z1, z2, z3, z4, z5⟩ := HX.out.six
  clear hb0 hW0 HE h hv hr hs HEL HEW hEL HE1 hpl hXX hnf hq0 hq1
  go_enter Tryz.func44, Tryz.ntmps44
  go_upto_region 1 with (fail)
  rw [HWW.out]
  clear hN
  go_wp2_with fail
  refine (HEN.out _ (Below.refl _ _)).mono ?_
  clear z0 z1 z2 z3 z4 z5
  rintro e w1 ⟨rfl, hb1⟩
  have HB1 : Hid (Below W0.heap.size W0 w1) := hb1
  clear hb1
  obtain ⟨z0, z1, z2, z3, z4, z5⟩ := (HX.out.below HB1.out).six
  go_wp2_with fail
  refine (HFR.out _ HB1.out).mono ?_
  clear z0 z1 z2 z3 z4 z5
  rintro e w2 ⟨fv, rfl, ho2, hb2⟩
  obtain ⟨g, fc, rfl, hgB, hgl, hcell⟩ := own_cells ho2 (by rw [HNF.out]; exact hf1)
  have HB2 : Hid (Below W0.heap.size W0 w2) := HB1.out.trans (hb2.mono HB1.out.size)
  have HGP : Hid (g ≠ p) := by have h1 := (HRW.out _ (Below.refl _ _)).lt; have h2 := HB1.out.size; unfold Hid; omega
  have HCE : Hid (∀ w, Kept (fun b => b = p) w2 w → ∀ i, i < nf → w.cell? ⟨g, i, none⟩ = some (.int .i64 (St.nth fl i))) := fun w hk i hi => (hk.cell hgl HGP.out _).trans (by have := hcell i (by rw [HNF.out]; exact hi); rwa [Nat.zero_add] at this)
  have HK2 : Hid (Kept (fun b => b = p) W0 w2) := Kept.of_below HB2.out
  have HR2 : Hid (Rq X w2 p L R) := HRW.out _ HB2.out
  rw [HNF.out]
  clear ho2 hb2 hgB hgl hcell
  by_cases h14 : how = 1 ∨ how = 4
  · have HM : Hid (EL = ((4, q1), R)) := by unfold Hid; rw [HEE.out, if_pos h14]
    rcases h14 with rfl | rfl
    · skip
      have HYw : Hid (Bx w2 (N + 1) #[.int .i64 0, .int .i64 0, .int .i64 0] 35) := HYK.out _ HK2.out
      obtain ⟨y0, y1, y2⟩ := HYw.out.three
      have f0 := HYw.out.fr 0
      have f1 := HYw.out.fr 1
      have f2 := HYw.out.fr 2
      go_wp2
      refine ⟨rfl, _, results_cell_row rfl _ _ (N + 1) 35 _ (0, 0) _ rfl (HYw.out.set3 _ _ _).h Tryz.underlying35 rfl (by kernel_rfl), ?_, ?_, ?_⟩
      · rw [HM.out]
      · rw [HM.out]; exact HR2.out.set3 HXN.out HPN.out
      · exact kept_set3' HKW.out HK2.out HNN.out
    · skip
      have HYw : Hid (Bx w2 (N + 1) #[.int .i64 0, .int .i64 0, .int .i64 0] 35) := HYK.out _ HK2.out
      obtain ⟨y0, y1, y2⟩ := HYw.out.three
      have f0 := HYw.out.fr 0
      have f1 := HYw.out.fr 1
      have f2 := HYw.out.fr 2
      go_wp2
      refine ⟨rfl, _, results_cell_row rfl _ _ (N + 1) 35 _ (0, 0) _ rfl (HYw.out.set3 _ _ _).h Tryz.underlying35 rfl (by kernel_rfl), ?_, ?_, ?_⟩
      · rw [HM.out]
      · rw [HM.out]; exact HR2.out.set3 HXN.out HPN.out
      · exact kept_set3' HKW.out HK2.out HNN.out
  · have e1 : (how == 1) = false := by simpa using fun h => h14 (.inl h)
    have e4 : (how == 4) = false := by simpa using fun h => h14 (.inr h)
    by_cases h5 : how = 5
    · subst h5
      have HM0 : Hid (EL = ((4, St.nth fl (nextM R (nf : Int)).1.toNat), (nextM R (nf : Int)).2)) := by unfold Hid; rw [HEE.out, if_neg h14, if_pos rfl, HNF.out]
      have hnx := next_in R (m := (nf : Int)) (by omega)
      obtain ⟨kk, hkk⟩ : ∃ k : Nat, (nextM R (nf : Int)).1 = (k : Int) := ⟨(nextM R (nf : Int)).1.toNat, by omega⟩
      have hkl : kk < nf := by omega
      have hkl' : (kk : Int) < (nf : Int) := by omega
      have kn := rnext_q HR2.out (nf : Int) (by omega)
      rw [hkk] at kn
      have HM : Hid (EL = ((4, St.nth fl kk), (nextM R (nf : Int)).2)) := by unfold Hid; rw [HM0.out, hkk]; rfl
      generalize (nextM R (nf : Int)).2 = R' at *
      clear hnx hkk HM0 h14
      go_wp2_with fail
      refine kn.mono ?_
      clear kn
      rintro e w3 ⟨rfl, hd3, hk3⟩
      have g3 := HCE.out w3 hk3 kk hkl
      have HR3 : Hid (Rq X w3 p L R') := hd3
      have HK3 : Hid (Kept (fun b => b = p) W0 w3) := HK2.out.trans hk3 (Up.refl _ _)
      clear hd3 hk3
      have HYw : Hid (Bx w3 (N + 1) #[.int .i64 0, .int .i64 0, .int .i64 0] 35) := HYK.out _ HK3.out
      obtain ⟨y0, y1, y2⟩ := HYw.out.three
      have f0 := HYw.out.fr 0
      have f1 := HYw.out.fr 1
      have f2 := HYw.out.fr 2
      go_wp2
      refine ⟨rfl, _, results_cell_row rfl _ _ (N + 1) 35 _ (0, 0) _ rfl (HYw.out.set3 _ _ _).h Tryz.underlying35 rfl (by kernel_rfl), ?_, ?_, ?_⟩
      · rw [HM.out]
      · rw [HM.out]; exact HR3.out.set3 HXN.out HPN.out
      · exact kept_set3' HKW.out HK3.out HNN.out
    · have e5 : (how == 5) = false := by simpa using h5
      have HM : Hid (EL = ((4, q0), R)) := by unfold Hid; rw [HEE.out, if_neg h14, if_neg h5]
      have HYw : Hid (Bx w2 (N + 1) #[.int .i64 0, .int .i64 0, .int .i64 0] 35) := HYK.out _ HK2.out
      obtain ⟨y0, y1, y2⟩ := HYw.out.three
      have f0 := HYw.out.fr 0
      have f1 := HYw.out.fr 1
      have f2 := HYw.out.fr 2
      go_wp2
      refine ⟨rfl, _, results_cell_row rfl _ _ (N + 1) 35 _ (0, 0) _ rfl (HYw.out.set3 _ _ _).h Tryz.underlying35 rfl (by kernel_rfl), ?_, ?_, ?_⟩
      · rw [HM.out]
      · rw [HM.out]; exact HR2.out.set3 HXN.out HPN.out
      · exact kept_set3' HKW.out HK2.out HNN.out
end Go.Proofs.YthkliicmoandmaaGreatDoor
