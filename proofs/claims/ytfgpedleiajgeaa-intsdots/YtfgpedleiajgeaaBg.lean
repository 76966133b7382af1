/-
  What is proved here: what the reference's Plus does where the numbers have two signs, and Plus of any two numbers.
-/
import Derived.Test.YtfgpedleiajgeaaBf
namespace Go.Proofs.Ytfgpedleiajgeaa
open Go.RowKit

/-- What the subtracting loop keeps. -/
def SubInv (da db : List Int) (k : Nat) (c : Int) (ds : List Int) : Prop :=
  ds.length = k ∧ k ≤ da.length ∧ 0 ≤ c ∧ c ≤ 1 ∧ Digs ds ∧ dval ds - rp k * c = dval (da.take k) - dval (db.take k)
theorem sub_start (da db : List Int) : SubInv da db 0 0 [] := ⟨rfl, Nat.zero_le _, by omega, by omega, digs_nil, by simp [dval]⟩
/-- One digit: what is written, and what is borrowed. -/
theorem sub_step {da db ds : List Int} {k : Nat} {c n d c' : Int} (h : SubInv da db k c ds) (hk : k < da.length) (hn : n = da[k]?.getD 0 - c - db[k]?.getD 0) (hd : d = n + 1073741824 * c') (h0 : 0 ≤ d) (h1 : d < 1073741824) (hc0 : 0 ≤ c') (hc1 : c' ≤ 1) :
    SubInv da db (k + 1) c' (ds ++ [d]) := by
  obtain ⟨e1, e2, e3, e4, e5, e6⟩ := h
  refine ⟨by simp [e1], by omega, hc0, hc1, digs_snoc e5 h0 h1, ?_⟩
  rw [dval_snoc, dval_take_succ, dval_take_succ, e1, rp_succ]
  have e : rp k * d = rp k * da[k]?.getD 0 - rp k * c - rp k * db[k]?.getD 0 + 1073741824 * rp k * c' := by
    rw [hd, hn, Int.mul_add, Int.mul_sub, Int.mul_sub, Int.mul_comm 1073741824 (rp k), Int.mul_assoc]
  omega
theorem sub_done {da db ds : List Int} {k : Nat} {c : Int} (h : SubInv da db k c ds) (hk : ¬ k < da.length) (hl : db.length ≤ da.length) (hle : dval db ≤ dval da) : Digs ds ∧ dval ds = dval da - dval db ∧ ds.length ≤ da.length := by
  obtain ⟨e1, e2, e3, e4, e5, e6⟩ := h
  rw [dval_take_all (by omega), dval_take_all (by omega)] at e6
  have hb := dval_bound e5
  rw [e1] at hb
  have hc : c = 0 := by
    apply Classical.byContradiction; intro hx
    have : c = 1 := by omega
    rw [this, Int.mul_one] at e6; omega
  rw [hc, Int.mul_zero] at e6
  exact ⟨e5, by omega, by omega⟩
theorem len_le {da db : List Int} (ha : Digs da) (hb : Digs db) (tb : Top db) (h : dval db ≤ dval da) : db.length ≤ da.length := by
  apply Classical.byContradiction; intro hx
  have := dval_len ha hb tb (by omega); omega

set_option maxRecDepth 100000 in
set_option maxHeartbeats 4000000 in
theorem plus_less (m m' : Bool) (s1 s2 : Value) (da db : List Int) (w : World) (hmm : (m == m') = false) (h1 : Row w 0 s1 da) (h2 : Row w 0 s2 db) (hda : Digs da) (hdb : Digs db) (ta : Top da) (tb : Top db) (la : da.length ≤ 10000) (lb : db.length ≤ 10000) (hleAB : dval db ≤ dval da) (X : Int) (hX0 : sg m (dval da - dval db) = X) :
    Calls Try.prog 37 #[.agg #[.bool m, s1], .agg #[.bool m', s2]] w fun e w' => ∃ v, e = .returned v ∧ IsBig w' v X ∧ Below w.heap.size w w' := by
  obtain ⟨i0, hi, hz0, hz1, hz2⟩ := info_parts Try.info2
  obtain ⟨a1, c1, e1⟩ := h1.form
  obtain ⟨a2, c2, e2⟩ := h2.form
  subst e1 e2
  obtain ⟨B, hBs⟩ : ∃ B, w.heap.size = B := ⟨_, rfl⟩
  have hlAB := len_le hda hdb tb hleAB
  have HX0 : Hid (sg m (dval da - dval db) = X) := hX0
  clear hX0
  go_enter Try.func37, Try.ntmps37
  go_wp2_with fail
  refine (size_any _ _ da db _ (World.ownsRow.alloc (World.ownsRow.alloc (World.ownsRow.alloc h1 _) _) _) (World.ownsRow.alloc (World.ownsRow.alloc (World.ownsRow.alloc h2 _) _) _) hda hdb ta tb la lb).mono ?_
  rintro e w' ⟨⟨cc, rfl, hcc⟩, nq, rfl⟩
  have hcc' : ¬ cc < 0 := by omega
  clear hcc
  go_wp2
  go_loopw [10, 11] (fun cc i wr => ∃ (k : Nat) (c : Int) (ds : List Int) (v : Value), cc = .int .i64 c ∧ i = .int .i64 (k : Int) ∧ Two wr B 35 (.bool m) (.slice a1 da.length c1) ∧ Two wr (B + 1) 35 (.bool m') (.slice a2 db.length c2) ∧ Two wr (B + 2) 35 (.bool false) (.slice none 0 0) ∧ Two wr (B + 3) 35 (.bool m) v ∧ Row wr (B + 4) v ds ∧ SubInv da db k c ds ∧ Below B w wr)
    (fun _ i _ => 40000 - (intOf i).toNat)
  case atStart =>
    obtain ⟨f0, f1, f2, f3, f4⟩ := four hBs 35 (.bool m) (.slice a1 da.length c1) (.bool m') (.slice a2 db.length c2) (.bool false) (.slice none 0 0) (.bool m) (.slice none 0 0)
    exact ⟨0, 0, [], _, rfl, rfl, f0, f1, f2, f3, World.ownsRow_nil _ _ _ _, sub_start da db, below_drewN f4 _⟩
  case round =>
    obtain ⟨k, c, ds, v, rfl, rfl, hA, hBb, hR, hX, hrow, hinv, hB⟩ := hrel
    have hsz := hX.lt
    have cA1 := hA.cell1; have cB1 := hBb.cell1; have cX0 := hX.cell1
    have hc0 := hinv.2.2.1; have hc1 := hinv.2.2.2.1
    have hlen : ds.length = k := hinv.1
    have hk : k ≤ 10000 := by have := hinv.2.1; omega
    rw [← hlen] at hk
    by_cases ka : k < da.length
    · have hxx := digs_at hda k; have hyy := digs_at hdb k
      by_cases kb : k < db.length
      · by_cases hneg : da[k]?.getD 0 - c - db[k]?.getD 0 < 0
        · obtain ⟨g1, q1, e1, _, hg1, _, _, hcell1⟩ := h1.at ka
          simp only [Value.slice.injEq, true_and] at e1
          obtain ⟨rfl, rfl⟩ := e1
          have x1 : wr.cell? ⟨g1, k, none⟩ = some (.int .i64 (da[k]?.getD 0)) := (hB.cell (p := ⟨g1, k, none⟩) (by show g1 < B; omega)).trans (hcell1 k ka)
          have hx := digs_at hda k
          clear hcell1
          obtain ⟨g2, q2, e2, _, hg2, _, _, hcell2⟩ := h2.at kb
          simp only [Value.slice.injEq, true_and] at e2
          obtain ⟨rfl, rfl⟩ := e2
          have x2 : wr.cell? ⟨g2, k, none⟩ = some (.int .i64 (db[k]?.getD 0)) := (hB.cell (p := ⟨g2, k, none⟩) (by show g2 < B; omega)).trans (hcell2 k kb)
          have hy := digs_at hdb k
          clear hcell2
          have HS : Hid (SubInv da db (k + 1) 1 (ds ++ [da[k]?.getD 0 - c - db[k]?.getD 0 + 1073741824])) := sub_step hinv ka (n := da[k]?.getD 0 - c - db[k]?.getD 0) (rfl) (by omega) (by omega) (by omega) (by omega) (by omega)
          clear hinv
          generalize da[k]?.getD 0 = x at *
          generalize db[k]?.getD 0 = y at *
          go_wp2_with (at_builtin; refine wpList_append_own _ rfl _ _ 28 rfl (B + 4) 2 i0 (.int .i64 0) 1 8 Try.underlying28 hi hz0 hz1 hz2 rfl (by decide) _ _ _ rfl (World.ownsRow.alloc hrow _) ⟨wr.heap.size, 0, none⟩ 1 1 [.int .i64 (x - c - y + 1073741824)] rfl rfl (cell_one_new _ _ _) (by simp [Value.oneCell']) (by unfold maxLen; omega) (by omega) (by simp; omega) ?_)
          intro v' w1 hown' hgrow _
          have hrow1 := Row.appended (ds := ds) (by omega) hown'
          have hA1 := hA.appended hrow (by omega) hgrow
          have hB1 := hBb.appended hrow (by omega) hgrow
          have hR1 := hR.appended hrow (by omega) hgrow
          have hX1 := hX.appended hrow (by omega) hgrow
          have hN1 := below_appended hB hrow (by omega) (by omega) hgrow
          obtain ⟨g', cap', rfl⟩ := ownsRow_succ hown'
          have cX1 := hX1.cell1; have fX1 := hX1.frozen1
          clear hown' hgrow hR hX hrow hB hA hBb cA1 cB1 cX0
          go_wp2
          go_roundw
          case rel => exact ⟨k + 1, _, _, _, rfl, by go_num, hA1.other (by first | (simp; done) | (simp; omega)) _, hB1.other (by first | (simp; done) | (simp; omega)) _, hR1.other (by first | (simp; done) | (simp; omega)) _, hX1.set1 _, hrow1.stored (by first | (simp; done) | (simp; omega)) _, HS.out, hN1.setCell (by first | (simp; done) | (simp; omega)) _⟩
          case measure => simp [intOf]; omega

        · obtain ⟨g1, q1, e1, _, hg1, _, _, hcell1⟩ := h1.at ka
          simp only [Value.slice.injEq, true_and] at e1
          obtain ⟨rfl, rfl⟩ := e1
          have x1 : wr.cell? ⟨g1, k, none⟩ = some (.int .i64 (da[k]?.getD 0)) := (hB.cell (p := ⟨g1, k, none⟩) (by show g1 < B; omega)).trans (hcell1 k ka)
          have hx := digs_at hda k
          clear hcell1
          obtain ⟨g2, q2, e2, _, hg2, _, _, hcell2⟩ := h2.at kb
          simp only [Value.slice.injEq, true_and] at e2
          obtain ⟨rfl, rfl⟩ := e2
          have x2 : wr.cell? ⟨g2, k, none⟩ = some (.int .i64 (db[k]?.getD 0)) := (hB.cell (p := ⟨g2, k, none⟩) (by show g2 < B; omega)).trans (hcell2 k kb)
          have hy := digs_at hdb k
          clear hcell2
          have HS : Hid (SubInv da db (k + 1) 0 (ds ++ [da[k]?.getD 0 - c - db[k]?.getD 0])) := sub_step hinv ka (n := da[k]?.getD 0 - c - db[k]?.getD 0) (rfl) (by omega) (by omega) (by omega) (by omega) (by omega)
          clear hinv
          generalize da[k]?.getD 0 = x at *
          generalize db[k]?.getD 0 = y at *
          go_wp2_with (at_builtin; refine wpList_append_own _ rfl _ _ 28 rfl (B + 4) 2 i0 (.int .i64 0) 1 8 Try.underlying28 hi hz0 hz1 hz2 rfl (by decide) _ _ _ rfl (World.ownsRow.alloc hrow _) ⟨wr.heap.size, 0, none⟩ 1 1 [.int .i64 (x - c - y)] rfl rfl (cell_one_new _ _ _) (by simp [Value.oneCell']) (by unfold maxLen; omega) (by omega) (by simp; omega) ?_)
          intro v' w1 hown' hgrow _
          have hrow1 := Row.appended (ds := ds) (by omega) hown'
          have hA1 := hA.appended hrow (by omega) hgrow
          have hB1 := hBb.appended hrow (by omega) hgrow
          have hR1 := hR.appended hrow (by omega) hgrow
          have hX1 := hX.appended hrow (by omega) hgrow
          have hN1 := below_appended hB hrow (by omega) (by omega) hgrow
          obtain ⟨g', cap', rfl⟩ := ownsRow_succ hown'
          have cX1 := hX1.cell1; have fX1 := hX1.frozen1
          clear hown' hgrow hR hX hrow hB hA hBb cA1 cB1 cX0
          go_wp2
          go_roundw
          case rel => exact ⟨k + 1, _, _, _, rfl, by go_num, hA1.other (by first | (simp; done) | (simp; omega)) _, hB1.other (by first | (simp; done) | (simp; omega)) _, hR1.other (by first | (simp; done) | (simp; omega)) _, hX1.set1 _, hrow1.stored (by first | (simp; done) | (simp; omega)) _, HS.out, hN1.setCell (by first | (simp; done) | (simp; omega)) _⟩
          case measure => simp [intOf]; omega

      · have hz := getD_none kb
        by_cases hneg : da[k]?.getD 0 - c < 0
        · obtain ⟨g1, q1, e1, _, hg1, _, _, hcell1⟩ := h1.at ka
          simp only [Value.slice.injEq, true_and] at e1
          obtain ⟨rfl, rfl⟩ := e1
          have x1 : wr.cell? ⟨g1, k, none⟩ = some (.int .i64 (da[k]?.getD 0)) := (hB.cell (p := ⟨g1, k, none⟩) (by show g1 < B; omega)).trans (hcell1 k ka)
          have hx := digs_at hda k
          clear hcell1
          have HS : Hid (SubInv da db (k + 1) 1 (ds ++ [da[k]?.getD 0 - c + 1073741824])) := sub_step hinv ka (n := da[k]?.getD 0 - c) (by rw [getD_none kb]; omega) (by omega) (by omega) (by omega) (by omega) (by omega)
          clear hinv
          generalize da[k]?.getD 0 = x at *
          go_wp2_with (at_builtin; refine wpList_append_own _ rfl _ _ 28 rfl (B + 4) 2 i0 (.int .i64 0) 1 8 Try.underlying28 hi hz0 hz1 hz2 rfl (by decide) _ _ _ rfl (World.ownsRow.alloc hrow _) ⟨wr.heap.size, 0, none⟩ 1 1 [.int .i64 (x - c + 1073741824)] rfl rfl (cell_one_new _ _ _) (by simp [Value.oneCell']) (by unfold maxLen; omega) (by omega) (by simp; omega) ?_)
          intro v' w1 hown' hgrow _
          have hrow1 := Row.appended (ds := ds) (by omega) hown'
          have hA1 := hA.appended hrow (by omega) hgrow
          have hB1 := hBb.appended hrow (by omega) hgrow
          have hR1 := hR.appended hrow (by omega) hgrow
          have hX1 := hX.appended hrow (by omega) hgrow
          have hN1 := below_appended hB hrow (by omega) (by omega) hgrow
          obtain ⟨g', cap', rfl⟩ := ownsRow_succ hown'
          have cX1 := hX1.cell1; have fX1 := hX1.frozen1
          clear hown' hgrow hR hX hrow hB hA hBb cA1 cB1 cX0
          go_wp2
          go_roundw
          case rel => exact ⟨k + 1, _, _, _, rfl, by go_num, hA1.other (by first | (simp; done) | (simp; omega)) _, hB1.other (by first | (simp; done) | (simp; omega)) _, hR1.other (by first | (simp; done) | (simp; omega)) _, hX1.set1 _, hrow1.stored (by first | (simp; done) | (simp; omega)) _, HS.out, hN1.setCell (by first | (simp; done) | (simp; omega)) _⟩
          case measure => simp [intOf]; omega

        · obtain ⟨g1, q1, e1, _, hg1, _, _, hcell1⟩ := h1.at ka
          simp only [Value.slice.injEq, true_and] at e1
          obtain ⟨rfl, rfl⟩ := e1
          have x1 : wr.cell? ⟨g1, k, none⟩ = some (.int .i64 (da[k]?.getD 0)) := (hB.cell (p := ⟨g1, k, none⟩) (by show g1 < B; omega)).trans (hcell1 k ka)
          have hx := digs_at hda k
          clear hcell1
          have HS : Hid (SubInv da db (k + 1) 0 (ds ++ [da[k]?.getD 0 - c])) := sub_step hinv ka (n := da[k]?.getD 0 - c) (by rw [getD_none kb]; omega) (by omega) (by omega) (by omega) (by omega) (by omega)
          clear hinv
          generalize da[k]?.getD 0 = x at *
          go_wp2_with (at_builtin; refine wpList_append_own _ rfl _ _ 28 rfl (B + 4) 2 i0 (.int .i64 0) 1 8 Try.underlying28 hi hz0 hz1 hz2 rfl (by decide) _ _ _ rfl (World.ownsRow.alloc hrow _) ⟨wr.heap.size, 0, none⟩ 1 1 [.int .i64 (x - c)] rfl rfl (cell_one_new _ _ _) (by simp [Value.oneCell']) (by unfold maxLen; omega) (by omega) (by simp; omega) ?_)
          intro v' w1 hown' hgrow _
          have hrow1 := Row.appended (ds := ds) (by omega) hown'
          have hA1 := hA.appended hrow (by omega) hgrow
          have hB1 := hBb.appended hrow (by omega) hgrow
          have hR1 := hR.appended hrow (by omega) hgrow
          have hX1 := hX.appended hrow (by omega) hgrow
          have hN1 := below_appended hB hrow (by omega) (by omega) hgrow
          obtain ⟨g', cap', rfl⟩ := ownsRow_succ hown'
          have cX1 := hX1.cell1; have fX1 := hX1.frozen1
          clear hown' hgrow hR hX hrow hB hA hBb cA1 cB1 cX0
          go_wp2
          go_roundw
          case rel => exact ⟨k + 1, _, _, _, rfl, by go_num, hA1.other (by first | (simp; done) | (simp; omega)) _, hB1.other (by first | (simp; done) | (simp; omega)) _, hR1.other (by first | (simp; done) | (simp; omega)) _, hX1.set1 _, hrow1.stored (by first | (simp; done) | (simp; omega)) _, HS.out, hN1.setCell (by first | (simp; done) | (simp; omega)) _⟩
          case measure => simp [intOf]; omega

    · obtain ⟨hd1, hv1, hl1⟩ := sub_done hinv ka hlAB hleAB
      obtain ⟨av, cv, rfl⟩ := hrow.form
      have htr := trim_any m (.slice av ds.length cv) ds wr (hrow.mono (Nat.zero_le _)) hd1 (by omega)
      rw [hlen, hv1, HX0.out] at htr
      have HR : Hid (Calls _ _ _ _ _) := htr
      have cX := hX.cell0
      clear hinv hv1 htr
      go_wp2_with fail
      refine HR.out.mono ?_
      rintro e w2 ⟨v2, rfl, hbig, hb2⟩
      obtain ⟨m2, a3, n3, c3, rfl⟩ := hbig.form
      have hR2 := hR.below hb2 hR.lt
      have hT := (hR2.set0 (.bool m2)).set1 (.slice a3 n3 c3)
      have HF : Hid (IsBig _ _ _ ∧ Below w.heap.size _ _) := ⟨hbig.copied hR2, ((hBs ▸ hB.trans (hb2.mono (by omega)) : Below w.heap.size w w2).setCell (p := ⟨B + 2, 0, none⟩) (by show _ ≤ B + 2; omega) (.bool m2)).setCell (p := ⟨B + 2, 1, none⟩) (by show _ ≤ B + 2; omega) (.slice a3 n3 c3)⟩
      have q0 := hR2.cell0; have q1 := hR2.cell1; have q2 := hR2.frozen0; have q3 := hR2.frozen1
      have t0 := hT.cell0; have t1 := hT.cell1
      clear hbig hb2 hR2 hT hrow hB HR
      go_wp2
      exact bodyPost_ret (v := .agg #[.bool m2, .slice a3 n3 c3]) (by simp [results, Try.results37, go_sem, t0, t1]) rfl ⟨_, rfl, HF.out⟩

end Go.Proofs.Ytfgpedleiajgeaa
