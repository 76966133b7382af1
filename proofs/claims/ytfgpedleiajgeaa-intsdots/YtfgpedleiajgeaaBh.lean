/-
  What is proved here: what the reference's Plus does where the second number is the greater one, and Plus of any two numbers.
-/
import Derived.Test.YtfgpedleiajgeaaBg
namespace Go.Proofs.Ytfgpedleiajgeaa
open Go.RowKit

set_option maxRecDepth 100000 in
set_option maxHeartbeats 4000000 in
theorem plus_more (m m' : Bool) (s1 s2 : Value) (da db : List Int) (w : World) (hmm : (m == m') = false) (h1 : Row w 0 s1 da) (h2 : Row w 0 s2 db) (hda : Digs da) (hdb : Digs db) (ta : Top da) (tb : Top db) (la : da.length ≤ 10000) (lb : db.length ≤ 10000) (hleAB : dval da < dval db) (X : Int) (hX0 : sg m' (dval db - dval da) = X) :
    Calls Try.prog 37 #[.agg #[.bool m, s1], .agg #[.bool m', s2]] w fun e w' => ∃ v, e = .returned v ∧ IsBig w' v X ∧ Below w.heap.size w w' := by
  obtain ⟨i0, hi, hz0, hz1, hz2⟩ := info_parts Try.info2
  obtain ⟨a1, c1, e1⟩ := h1.form
  obtain ⟨a2, c2, e2⟩ := h2.form
  subst e1 e2
  obtain ⟨B, hBs⟩ : ∃ B, w.heap.size = B := ⟨_, rfl⟩
  have hlAB := len_le hdb hda ta (Int.le_of_lt hleAB)
  have HX0 : Hid (sg m' (dval db - dval da) = X) := hX0
  clear hX0
  go_enter Try.func37, Try.ntmps37
  go_wp2_with fail
  refine (size_any _ _ da db _ (World.ownsRow.alloc (World.ownsRow.alloc (World.ownsRow.alloc h1 _) _) _) (World.ownsRow.alloc (World.ownsRow.alloc (World.ownsRow.alloc h2 _) _) _) hda hdb ta tb la lb).mono ?_
  rintro e w' ⟨⟨cc, rfl, hcc⟩, nq, rfl⟩
  have hcc' : cc < 0 := by omega
  clear hcc
  generalize hW0 : (((w.alloc (.cells #[.bool m, .slice a1 da.length c1] 35)).alloc (.cells #[.bool m', .slice a2 db.length c2] 35)).alloc (.cells #[.bool false, .slice none 0 0] 35)).drewN nq = W0
  have t0 : Two W0 B 35 (.bool m) (.slice a1 da.length c1) := by
    rw [← hW0, ← hBs]; exact ((Two.new w 35 _ _).alloc _).alloc _
  have t1 : Two W0 (B + 1) 35 (.bool m') (.slice a2 db.length c2) := by
    rw [← hW0, ← hBs]; have h := Two.new (w.alloc (.cells #[.bool m, .slice a1 da.length c1] 35)) 35 (.bool m') (.slice a2 db.length c2); rw [World.size_alloc] at h; exact h.alloc _
  have t2 : Two W0 (B + 2) 35 (.bool false) (.slice none 0 0) := by
    rw [← hW0, ← hBs]; have h := Two.new ((w.alloc (.cells #[.bool m, .slice a1 da.length c1] 35)).alloc (.cells #[.bool m', .slice a2 db.length c2] 35)) 35 (.bool false) (.slice none 0 0); rw [World.size_alloc, World.size_alloc] at h; exact h
  have hs0 : W0.heap.size = B + 3 := by rw [← hW0, ← hBs]; simp
  have hB0 : Below B w W0 := by
    rw [← hW0, ← hBs]; exact below_drewN ((((Below.refl _ w).alloc (Nat.le_refl _) _).alloc (by simp) _).alloc (by simp; omega) _) _
  clear hW0
  have p0 := t0.cell0; have p1 := t0.cell1; have p2 := t0.frozen0; have p3 := t0.frozen1
  have q0 := t1.cell0; have q1 := t1.cell1; have q2 := t1.frozen0; have q3 := t1.frozen1
  go_wp2
  clear p0 p1 p2 p3 q0 q1 q2 q3
  go_loopw [10, 11] (fun cc i wr => ∃ (k : Nat) (c : Int) (ds : List Int) (v : Value), cc = .int .i64 c ∧ i = .int .i64 (k : Int) ∧ Two wr B 35 (.bool m') (.slice a2 db.length c2) ∧ Two wr (B + 1) 35 (.bool m) (.slice a1 da.length c1) ∧ Two wr (B + 2) 35 (.bool false) (.slice none 0 0) ∧ Two wr (B + 3) 35 (.bool m') v ∧ Row wr (B + 4) v ds ∧ SubInv db da k c ds ∧ Below B w wr)
    (fun _ i _ => 40000 - (intOf i).toNat)
  case atStart =>
    have f0 := ((((t0.set0 (.bool m')).set1 (.slice a2 db.length c2)).other (a := ⟨B + 1, 0, none⟩) (by simp) (.bool m)).other (a := ⟨B + 1, 1, none⟩) (by simp) (.slice a1 da.length c1)).alloc (Obj.cells #[Value.bool m', Value.slice none 0 0] 35)
    have f1 := ((((t1.other (a := ⟨B, 0, none⟩) (by simp) (.bool m')).other (a := ⟨B, 1, none⟩) (by simp) (.slice a2 db.length c2)).set0 (.bool m)).set1 (.slice a1 da.length c1)).alloc (Obj.cells #[Value.bool m', Value.slice none 0 0] 35)
    have f2 := ((((t2.other (a := ⟨B, 0, none⟩) (by simp) (.bool m')).other (a := ⟨B, 1, none⟩) (by simp) (.slice a2 db.length c2)).other (a := ⟨B + 1, 0, none⟩) (by simp) (.bool m)).other (a := ⟨B + 1, 1, none⟩) (by simp) (.slice a1 da.length c1)).alloc (Obj.cells #[Value.bool m', Value.slice none 0 0] 35)
    have f3 := Two.new ((((W0.setCell ⟨B, 0, none⟩ (.bool m')).setCell ⟨B, 1, none⟩ (.slice a2 db.length c2)).setCell ⟨B + 1, 0, none⟩ (.bool m)).setCell ⟨B + 1, 1, none⟩ (.slice a1 da.length c1)) 35 (.bool m') (.slice none 0 0)
    rw [show ((((W0.setCell ⟨B, 0, none⟩ (.bool m')).setCell ⟨B, 1, none⟩ (.slice a2 db.length c2)).setCell ⟨B + 1, 0, none⟩ (.bool m)).setCell ⟨B + 1, 1, none⟩ (.slice a1 da.length c1)).heap.size = B + 3 from by simp [hs0]] at f3
    have f4 := ((((hB0.setCell (p := ⟨B, 0, none⟩) (by simp) (.bool m')).setCell (p := ⟨B, 1, none⟩) (by simp) (.slice a2 db.length c2)).setCell (p := ⟨B + 1, 0, none⟩) (by simp) (.bool m)).setCell (p := ⟨B + 1, 1, none⟩) (by simp) (.slice a1 da.length c1)).alloc (by simp [hs0]) (Obj.cells #[Value.bool m', Value.slice none 0 0] 35)
    exact ⟨0, 0, [], _, rfl, rfl, f0, f1, f2, f3, World.ownsRow_nil _ _ _ _, sub_start db da, f4⟩
  case round =>
    obtain ⟨k, c, ds, v, rfl, rfl, hA, hBb, hR, hX, hrow, hinv, hB⟩ := hrel
    have hsz := hX.lt
    have cA1 := hA.cell1; have cB1 := hBb.cell1; have cX0 := hX.cell1
    have hc0 := hinv.2.2.1; have hc1 := hinv.2.2.2.1
    have hlen : ds.length = k := hinv.1
    have hk : k ≤ 10000 := by have := hinv.2.1; omega
    rw [← hlen] at hk
    by_cases ka : k < db.length
    · have hxx := digs_at hdb k; have hyy := digs_at hda k
      by_cases kb : k < da.length
      · by_cases hneg : db[k]?.getD 0 - c - da[k]?.getD 0 < 0
        · obtain ⟨g1, q1, e1, _, hg1, _, _, hcell1⟩ := h2.at ka
          simp only [Value.slice.injEq, true_and] at e1
          obtain ⟨rfl, rfl⟩ := e1
          have x1 : wr.cell? ⟨g1, k, none⟩ = some (.int .i64 (db[k]?.getD 0)) := (hB.cell (p := ⟨g1, k, none⟩) (by show g1 < B; omega)).trans (hcell1 k ka)
          have hx := digs_at hdb k
          clear hcell1
          obtain ⟨g2, q2, e2, _, hg2, _, _, hcell2⟩ := h1.at kb
          simp only [Value.slice.injEq, true_and] at e2
          obtain ⟨rfl, rfl⟩ := e2
          have x2 : wr.cell? ⟨g2, k, none⟩ = some (.int .i64 (da[k]?.getD 0)) := (hB.cell (p := ⟨g2, k, none⟩) (by show g2 < B; omega)).trans (hcell2 k kb)
          have hy := digs_at hda k
          clear hcell2
          have HS : Hid (SubInv db da (k + 1) 1 (ds ++ [db[k]?.getD 0 - c - da[k]?.getD 0 + 1073741824])) := sub_step hinv ka (n := db[k]?.getD 0 - c - da[k]?.getD 0) (rfl) (by omega) (by omega) (by omega) (by omega) (by omega)
          clear hinv
          generalize db[k]?.getD 0 = x at *
          generalize da[k]?.getD 0 = y at *
          go_wp2_with (at_builtin; refine wpList_append_own _ rfl _ _ 28 rfl (B + 4) 2 i0 (.int .i64 0) 1 8 Try.underlying28 hi hz0 hz1 hz2 rfl (by decide) _ _ _ rfl (World.ownsRow.alloc hrow _) ⟨wr.heap.size, 0, none⟩ 1 1 [.int .i64 (x - c - y + 1073741824)] rfl rfl (cell_one_new _ _ _) (by simp [Value.oneCell']) (by unfold maxLen; omega) (by omega) (by simp; omega) ?_)
          intro v' w1 hown' hgrow _
          have hrow1 := Row.appended (ds := ds) (by omega) hown'
          have hA1 := hA.appended hrow (by omega) hgrow
          have hB1 := hBb.appended hrow (by omega) hgrow
          have hR1 := hR.appended hrow (by omega) hgrow
          have hX1 := hX.appended hrow (by omega) hgrow
          have hN1 := below_appended hB hrow (by omega) (by omega) hgrow
          obtain ⟨g', cap', rfl⟩ := ownsRow_succ hown'
          have cX1 := hX1.cell1; have fX1 := hX1.frozen1
          clear hown' hgrow hR hX hrow hB hA hBb cA1 cB1 cX0
          go_wp2
          go_roundw
          case rel => exact ⟨k + 1, _, _, _, rfl, by go_num, hA1.other (by first | (simp; done) | (simp; omega)) _, hB1.other (by first | (simp; done) | (simp; omega)) _, hR1.other (by first | (simp; done) | (simp; omega)) _, hX1.set1 _, hrow1.stored (by first | (simp; done) | (simp; omega)) _, HS.out, hN1.setCell (by first | (simp; done) | (simp; omega)) _⟩
          case measure => simp [intOf]; omega

        · obtain ⟨g1, q1, e1, _, hg1, _, _, hcell1⟩ := h2.at ka
          simp only [Value.slice.injEq, true_and] at e1
          obtain ⟨rfl, rfl⟩ := e1
          have x1 : wr.cell? ⟨g1, k, none⟩ = some (.int .i64 (db[k]?.getD 0)) := (hB.cell (p := ⟨g1, k, none⟩) (by show g1 < B; omega)).trans (hcell1 k ka)
          have hx := digs_at hdb k
          clear hcell1
          obtain ⟨g2, q2, e2, _, hg2, _, _, hcell2⟩ := h1.at kb
          simp only [Value.slice.injEq, true_and] at e2
          obtain ⟨rfl, rfl⟩ := e2
          have x2 : wr.cell? ⟨g2, k, none⟩ = some (.int .i64 (da[k]?.getD 0)) := (hB.cell (p := ⟨g2, k, none⟩) (by show g2 < B; omega)).trans (hcell2 k kb)
          have hy := digs_at hda k
          clear hcell2
          have HS : Hid (SubInv db da (k + 1) 0 (ds ++ [db[k]?.getD 0 - c - da[k]?.getD 0])) := sub_step hinv ka (n := db[k]?.getD 0 - c - da[k]?.getD 0) (rfl) (by omega) (by omega) (by omega) (by omega) (by omega)
          clear hinv
          generalize db[k]?.getD 0 = x at *
          generalize da[k]?.getD 0 = y at *
          go_wp2_with (at_builtin; refine wpList_append_own _ rfl _ _ 28 rfl (B + 4) 2 i0 (.int .i64 0) 1 8 Try.underlying28 hi hz0 hz1 hz2 rfl (by decide) _ _ _ rfl (World.ownsRow.alloc hrow _) ⟨wr.heap.size, 0, none⟩ 1 1 [.int .i64 (x - c - y)] rfl rfl (cell_one_new _ _ _) (by simp [Value.oneCell']) (by unfold maxLen; omega) (by omega) (by simp; omega) ?_)
          intro v' w1 hown' hgrow _
          have hrow1 := Row.appended (ds := ds) (by omega) hown'
          have hA1 := hA.appended hrow (by omega) hgrow
          have hB1 := hBb.appended hrow (by omega) hgrow
          have hR1 := hR.appended hrow (by omega) hgrow
          have hX1 := hX.appended hrow (by omega) hgrow
          have hN1 := below_appended hB hrow (by omega) (by omega) hgrow
          obtain ⟨g', cap', rfl⟩ := ownsRow_succ hown'
          have cX1 := hX1.cell1; have fX1 := hX1.frozen1
          clear hown' hgrow hR hX hrow hB hA hBb cA1 cB1 cX0
          go_wp2
          go_roundw
          case rel => exact ⟨k + 1, _, _, _, rfl, by go_num, hA1.other (by first | (simp; done) | (simp; omega)) _, hB1.other (by first | (simp; done) | (simp; omega)) _, hR1.other (by first | (simp; done) | (simp; omega)) _, hX1.set1 _, hrow1.stored (by first | (simp; done) | (simp; omega)) _, HS.out, hN1.setCell (by first | (simp; done) | (simp; omega)) _⟩
          case measure => simp [intOf]; omega

      · have hz := getD_none kb
        by_cases hneg : db[k]?.getD 0 - c < 0
        · obtain ⟨g1, q1, e1, _, hg1, _, _, hcell1⟩ := h2.at ka
          simp only [Value.slice.injEq, true_and] at e1
          obtain ⟨rfl, rfl⟩ := e1
          have x1 : wr.cell? ⟨g1, k, none⟩ = some (.int .i64 (db[k]?.getD 0)) := (hB.cell (p := ⟨g1, k, none⟩) (by show g1 < B; omega)).trans (hcell1 k ka)
          have hx := digs_at hdb k
          clear hcell1
          have HS : Hid (SubInv db da (k + 1) 1 (ds ++ [db[k]?.getD 0 - c + 1073741824])) := sub_step hinv ka (n := db[k]?.getD 0 - c) (by rw [getD_none kb]; omega) (by omega) (by omega) (by omega) (by omega) (by omega)
          clear hinv
          generalize db[k]?.getD 0 = x at *
          go_wp2_with (at_builtin; refine wpList_append_own _ rfl _ _ 28 rfl (B + 4) 2 i0 (.int .i64 0) 1 8 Try.underlying28 hi hz0 hz1 hz2 rfl (by decide) _ _ _ rfl (World.ownsRow.alloc hrow _) ⟨wr.heap.size, 0, none⟩ 1 1 [.int .i64 (x - c + 1073741824)] rfl rfl (cell_one_new _ _ _) (by simp [Value.oneCell']) (by unfold maxLen; omega) (by omega) (by simp; omega) ?_)
          intro v' w1 hown' hgrow _
          have hrow1 := Row.appended (ds := ds) (by omega) hown'
          have hA1 := hA.appended hrow (by omega) hgrow
          have hB1 := hBb.appended hrow (by omega) hgrow
          have hR1 := hR.appended hrow (by omega) hgrow
          have hX1 := hX.appended hrow (by omega) hgrow
          have hN1 := below_appended hB hrow (by omega) (by omega) hgrow
          obtain ⟨g', cap', rfl⟩ := ownsRow_succ hown'
          have cX1 := hX1.cell1; have fX1 := hX1.frozen1
          clear hown' hgrow hR hX hrow hB hA hBb cA1 cB1 cX0
          go_wp2
          go_roundw
          case rel => exact ⟨k + 1, _, _, _, rfl, by go_num, hA1.other (by first | (simp; done) | (simp; omega)) _, hB1.other (by first | (simp; done) | (simp; omega)) _, hR1.other (by first | (simp; done) | (simp; omega)) _, hX1.set1 _, hrow1.stored (by first | (simp; done) | (simp; omega)) _, HS.out, hN1.setCell (by first | (simp; done) | (simp; omega)) _⟩
          case measure => simp [intOf]; omega

        · obtain ⟨g1, q1, e1, _, hg1, _, _, hcell1⟩ := h2.at ka
          simp only [Value.slice.injEq, true_and] at e1
          obtain ⟨rfl, rfl⟩ := e1
          have x1 : wr.cell? ⟨g1, k, none⟩ = some (.int .i64 (db[k]?.getD 0)) := (hB.cell (p := ⟨g1, k, none⟩) (by show g1 < B; omega)).trans (hcell1 k ka)
          have hx := digs_at hdb k
          clear hcell1
          have HS : Hid (SubInv db da (k + 1) 0 (ds ++ [db[k]?.getD 0 - c])) := sub_step hinv ka (n := db[k]?.getD 0 - c) (by rw [getD_none kb]; omega) (by omega) (by omega) (by omega) (by omega) (by omega)
          clear hinv
          generalize db[k]?.getD 0 = x at *
          go_wp2_with (at_builtin; refine wpList_append_own _ rfl _ _ 28 rfl (B + 4) 2 i0 (.int .i64 0) 1 8 Try.underlying28 hi hz0 hz1 hz2 rfl (by decide) _ _ _ rfl (World.ownsRow.alloc hrow _) ⟨wr.heap.size, 0, none⟩ 1 1 [.int .i64 (x - c)] rfl rfl (cell_one_new _ _ _) (by simp [Value.oneCell']) (by unfold maxLen; omega) (by omega) (by simp; omega) ?_)
          intro v' w1 hown' hgrow _
          have hrow1 := Row.appended (ds := ds) (by omega) hown'
          have hA1 := hA.appended hrow (by omega) hgrow
          have hB1 := hBb.appended hrow (by omega) hgrow
          have hR1 := hR.appended hrow (by omega) hgrow
          have hX1 := hX.appended hrow (by omega) hgrow
          have hN1 := below_appended hB hrow (by omega) (by omega) hgrow
          obtain ⟨g', cap', rfl⟩ := ownsRow_succ hown'
          have cX1 := hX1.cell1; have fX1 := hX1.frozen1
          clear hown' hgrow hR hX hrow hB hA hBb cA1 cB1 cX0
          go_wp2
          go_roundw
          case rel => exact ⟨k + 1, _, _, _, rfl, by go_num, hA1.other (by first | (simp; done) | (simp; omega)) _, hB1.other (by first | (simp; done) | (simp; omega)) _, hR1.other (by first | (simp; done) | (simp; omega)) _, hX1.set1 _, hrow1.stored (by first | (simp; done) | (simp; omega)) _, HS.out, hN1.setCell (by first | (simp; done) | (simp; omega)) _⟩
          case measure => simp [intOf]; omega

    · obtain ⟨hd1, hv1, hl1⟩ := sub_done hinv ka hlAB (Int.le_of_lt hleAB)
      obtain ⟨av, cv, rfl⟩ := hrow.form
      have htr := trim_any m' (.slice av ds.length cv) ds wr (hrow.mono (Nat.zero_le _)) hd1 (by omega)
      rw [hlen, hv1, HX0.out] at htr
      have HR : Hid (Calls _ _ _ _ _) := htr
      have cX := hX.cell0
      clear hinv hv1 htr
      go_wp2_with fail
      refine HR.out.mono ?_
      rintro e w2 ⟨v2, rfl, hbig, hb2⟩
      obtain ⟨m2, a3, n3, c3, rfl⟩ := hbig.form
      have hR2 := hR.below hb2 hR.lt
      have hT := (hR2.set0 (.bool m2)).set1 (.slice a3 n3 c3)
      have HF : Hid (IsBig _ _ _ ∧ Below w.heap.size _ _) := ⟨hbig.copied hR2, ((hBs ▸ hB.trans (hb2.mono (by omega)) : Below w.heap.size w w2).setCell (p := ⟨B + 2, 0, none⟩) (by show _ ≤ B + 2; omega) (.bool m2)).setCell (p := ⟨B + 2, 1, none⟩) (by show _ ≤ B + 2; omega) (.slice a3 n3 c3)⟩
      have q0 := hR2.cell0; have q1 := hR2.cell1; have q2 := hR2.frozen0; have q3 := hR2.frozen1
      have t0 := hT.cell0; have t1 := hT.cell1
      clear hbig hb2 hR2 hT hrow hB HR
      go_wp2
      exact bodyPost_ret (v := .agg #[.bool m2, .slice a3 n3 c3]) (by simp [results, Try.results37, go_sem, t0, t1]) rfl ⟨_, rfl, HF.out⟩


/-- A number below 2^(30 n) has at most n digits. -/
theorem big_len {ds : List Int} (h : Digs ds) (ht : Top ds) {n : Nat} (hb : dval ds < rp n) : ds.length ≤ n := by
  apply Classical.byContradiction; intro hx
  obtain ⟨k, hk⟩ : ∃ k, ds.length = k + 1 := ⟨ds.length - 1, by omega⟩
  have h1 := dval_top h ht hk
  have h2 := rp_mono (show n ≤ k by omega)
  omega

/-- Plus is the sum. -/
theorem plus_any (n : Nat) (hn : n ≤ 10000) (v1 v2 : Value) (x y : Int) (w : World) (h1 : IsBig w v1 x) (h2 : IsBig w v2 y) (hx : -rp n < x ∧ x < rp n) (hy : -rp n < y ∧ y < rp n) :
    Calls Try.prog 37 #[v1, v2] w fun e w' => ∃ v, e = .returned v ∧ IsBig w' v (x + y) ∧ Below w.heap.size w w' := by
  obtain ⟨m, s1, da, rfl, hr1, hd1, ht1, hm1, rfl⟩ := h1
  obtain ⟨m', s2, db, rfl, hr2, hd2, ht2, hm2, rfl⟩ := h2
  have la : da.length ≤ n := big_len hd1 ht1 (by cases m <;> simp only [sg_true, sg_false] at hx <;> omega)
  have lb : db.length ≤ n := big_len hd2 ht2 (by cases m' <;> simp only [sg_true, sg_false] at hy <;> omega)
  by_cases hmm : m = m'
  · subst hmm
    have e : sg m (dval da) + sg m (dval db) = sg m (dval da + dval db) := by cases m <;> simp only [sg_true, sg_false]; omega
    rw [e]
    exact plus_same m s1 s2 da db w hr1 hr2 hd1 hd2 (by omega) (by omega)
  · have hb : (m == m') = false := by simp [hmm]
    by_cases hle : dval db ≤ dval da
    · exact plus_less m m' s1 s2 da db w hb hr1 hr2 hd1 hd2 ht1 ht2 (by omega) (by omega) hle _ (by cases m <;> cases m' <;> simp [sg] at hmm ⊢ <;> omega)
    · exact plus_more m m' s1 s2 da db w hb hr1 hr2 hd1 hd2 ht1 ht2 (by omega) (by omega) (by omega) _ (by cases m <;> cases m' <;> simp [sg] at hmm ⊢ <;> omega)
end Go.Proofs.Ytfgpedleiajgeaa
