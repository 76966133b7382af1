/-
  What is proved here: what the reference's Plus does where both numbers have one sign: it adds their digits.
-/
import Derived.Test.YtfgpedleiajgeaaBd
namespace Go.Proofs.Ytfgpedleiajgeaa
open Go.RowKit

/-- What the adding loop keeps. -/
def AddInv (da db : List Int) (k : Nat) (c : Int) (ds : List Int) : Prop :=
  ds.length = k ∧ 0 ≤ c ∧ c ≤ 1 ∧ Digs ds ∧ dval ds + rp k * c = dval (da.take k) + dval (db.take k) ∧ (k ≤ max da.length db.length ∨ (c = 0 ∧ k = max da.length db.length + 1))
theorem add_start (da db : List Int) : AddInv da db 0 0 [] := ⟨rfl, by omega, by omega, digs_nil, by simp [dval], .inl (Nat.zero_le _)⟩
theorem getD_none {ds : List Int} {k : Nat} (h : ¬ k < ds.length) : ds[k]?.getD 0 = 0 := by rw [List.getElem?_eq_none (by omega)]; rfl
theorem add_step {da db ds : List Int} {k : Nat} {c n : Int} (ha : Digs da) (hb : Digs db) (h : AddInv da db k c ds) (hn : n = c + da[k]?.getD 0 + db[k]?.getD 0) (hc : k < da.length ∨ k < db.length ∨ 0 < c) :
    AddInv da db (k + 1) (n / 1073741824) (ds ++ [n % 1073741824]) := by
  obtain ⟨h1, h2, h3, h4, h5, h6⟩ := h
  have hx := digs_at ha k; have hy := digs_at hb k
  refine ⟨by simp [h1], by omega, by omega, digs_snoc h4 (by omega) (by omega), ?_, ?_⟩
  · rw [dval_snoc, dval_take_succ, dval_take_succ, h1, rp_succ]
    have e : n = n % 1073741824 + 1073741824 * (n / 1073741824) := by omega
    have e2 : rp k * n = rp k * (n % 1073741824) + 1073741824 * rp k * (n / 1073741824) := by
      rw [Int.mul_comm 1073741824 (rp k), Int.mul_assoc, ← Int.mul_add, ← e]
    have e3 : rp k * n = rp k * c + rp k * da[k]?.getD 0 + rp k * db[k]?.getD 0 := by rw [hn, Int.mul_add, Int.mul_add]
    omega
  · by_cases hk : k + 1 ≤ max da.length db.length
    · exact .inl hk
    · by_cases hm : k < da.length ∨ k < db.length
      · omega
      · have hx0 := getD_none (ds := da) (k := k) (by omega)
        have hy0 := getD_none (ds := db) (k := k) (by omega)
        have : k = max da.length db.length := by rcases h6 with h6 | h6 <;> omega
        refine .inr ⟨by omega, by omega⟩
theorem add_done {da db ds : List Int} {k : Nat} {c : Int} (h : AddInv da db k c ds) (h1 : ¬ k < da.length) (h2 : ¬ k < db.length) (h3 : ¬ 0 < c) : Digs ds ∧ dval ds = dval da + dval db ∧ ds.length ≤ max da.length db.length + 1 := by
  obtain ⟨e1, e2, e3, e4, e5, e6⟩ := h
  have hc : c = 0 := by omega
  rw [hc, dval_take_all (by omega), dval_take_all (by omega)] at e5
  exact ⟨e4, by omega, by rcases e6 with e | e <;> omega⟩

set_option maxRecDepth 100000 in
set_option maxHeartbeats 2000000 in
theorem plus_same (m : Bool) (s1 s2 : Value) (da db : List Int) (w : World) (h1 : Row w 0 s1 da) (h2 : Row w 0 s2 db) (hda : Digs da) (hdb : Digs db) (la : da.length ≤ 10000) (lb : db.length ≤ 10000) :
    Calls Try.prog 37 #[.agg #[.bool m, s1], .agg #[.bool m, s2]] w fun e w' => ∃ v, e = .returned v ∧ IsBig w' v (sg m (dval da + dval db)) ∧ Below w.heap.size w w' := by
  obtain ⟨i0, hi, hz0, hz1, hz2⟩ := info_parts Try.info2
  obtain ⟨a1, c1, e1⟩ := h1.form
  obtain ⟨a2, c2, e2⟩ := h2.form
  subst e1 e2
  obtain ⟨B, hBs⟩ : ∃ B, w.heap.size = B := ⟨_, rfl⟩
  go_enter Try.func37, Try.ntmps37
  go_wp2
  go_loopw [6, 7] (fun cc i wr => ∃ (k : Nat) (c : Int) (ds : List Int) (v : Value), cc = .int .i64 c ∧ i = .int .i64 (k : Int) ∧ Two wr B 35 (.bool m) (.slice a1 da.length c1) ∧ Two wr (B + 1) 35 (.bool m) (.slice a2 db.length c2) ∧ Two wr (B + 2) 35 (.bool false) (.slice none 0 0) ∧ Two wr (B + 3) 35 (.bool m) v ∧ Row wr (B + 4) v ds ∧ AddInv da db k c ds ∧ Below B w wr)
    (fun cc i _ => 40000 - (intOf i).toNat)
  case atStart =>
    obtain ⟨f0, f1, f2, f3, f4⟩ := four hBs 35 (.bool m) (.slice a1 da.length c1) (.bool m) (.slice a2 db.length c2) (.bool false) (.slice none 0 0) (.bool m) (.slice none 0 0)
    exact ⟨0, 0, [], _, rfl, rfl, f0, f1, f2, f3, World.ownsRow_nil _ _ _ _, add_start da db, f4⟩
  case round =>
    obtain ⟨k, c, ds, v, rfl, rfl, hA, hBb, hR, hX, hrow, hinv, hB⟩ := hrel
    have hsz := hX.lt
    have cA1 := hA.cell1; have cB1 := hBb.cell1; have cX0 := hX.cell1
    have hc0 := hinv.2.1; have hc1 := hinv.2.2.1
    have hlen : ds.length = k := hinv.1
    have hk : k ≤ 10001 := by rcases hinv.2.2.2.2.2 with h | h <;> omega
    rw [← hlen] at hk
    by_cases ka : k < da.length
    · by_cases kb : k < db.length
      · obtain ⟨g1, q1, e1, _, hg1, _, _, hcell1⟩ := h1.at ka
        simp only [Value.slice.injEq, true_and] at e1
        obtain ⟨rfl, rfl⟩ := e1
        have x1 : wr.cell? ⟨g1, k, none⟩ = some (.int .i64 (da[k]?.getD 0)) := (hB.cell (p := ⟨g1, k, none⟩) (by show g1 < B; omega)).trans (hcell1 k ka)
        clear hcell1
        obtain ⟨g2, q2, e2, _, hg2, _, _, hcell2⟩ := h2.at kb
        simp only [Value.slice.injEq, true_and] at e2
        obtain ⟨rfl, rfl⟩ := e2
        have x2 : wr.cell? ⟨g2, k, none⟩ = some (.int .i64 (db[k]?.getD 0)) := (hB.cell (p := ⟨g2, k, none⟩) (by show g2 < B; omega)).trans (hcell2 k kb)
        clear hcell2
        have hst := add_step hda hdb hinv (n := c + da[k]?.getD 0 + db[k]?.getD 0) (rfl) (.inl ka)
        have HS : Hid (AddInv da db (k + 1) ((c + da[k]?.getD 0 + db[k]?.getD 0) / 1073741824) (ds ++ [(c + da[k]?.getD 0 + db[k]?.getD 0) % 1073741824])) := hst
        clear hst hinv
        have hx := digs_at hda k
        generalize da[k]?.getD 0 = x at *
        have hy := digs_at hdb k
        generalize db[k]?.getD 0 = y at *
        go_wp2_with (at_builtin; refine wpList_append_own _ rfl _ _ 28 rfl (B + 4) 2 i0 (.int .i64 0) 1 8 Try.underlying28 hi hz0 hz1 hz2 rfl (by decide) _ _ _ rfl (World.ownsRow.alloc hrow _) ⟨wr.heap.size, 0, none⟩ 1 1 [.int .i64 ((c + x + y) % 1073741824)] rfl rfl ?c1 ?c2 ?c3 ?c4 ?c5 ?_)
        case c1 => exact cell_one_new _ _ _
        case c2 => simp [Value.oneCell']
        case c3 => unfold maxLen; omega
        case c4 => omega
        case c5 => simp; omega
        intro v' w1 hown' hgrow _
        have hrow1 := Row.appended (ds := ds) (by omega) hown'
        have hA1 := hA.appended hrow (by omega) hgrow
        have hB1 := hBb.appended hrow (by omega) hgrow
        have hR1 := hR.appended hrow (by omega) hgrow
        have hX1 := hX.appended hrow (by omega) hgrow
        have hN1 := below_appended hB hrow (by omega) (by omega) hgrow
        obtain ⟨g', cap', rfl⟩ := ownsRow_succ hown'
        have cX1 := hX1.cell1; have fX1 := hX1.frozen1
        clear hown' hgrow hR hX hrow hB hA hBb cA1 cB1 cX0
        go_wp2
        go_roundw
        case rel => exact ⟨k + 1, _, _, _, rfl, by go_num, hA1.other (by first | (simp; done) | (simp; omega)) _, hB1.other (by first | (simp; done) | (simp; omega)) _, hR1.other (by first | (simp; done) | (simp; omega)) _, hX1.set1 _, hrow1.stored (by first | (simp; done) | (simp; omega)) _, HS.out, hN1.setCell (by first | (simp; done) | (simp; omega)) _⟩
        case measure => simp [intOf]; omega

      · obtain ⟨g1, q1, e1, _, hg1, _, _, hcell1⟩ := h1.at ka
        simp only [Value.slice.injEq, true_and] at e1
        obtain ⟨rfl, rfl⟩ := e1
        have x1 : wr.cell? ⟨g1, k, none⟩ = some (.int .i64 (da[k]?.getD 0)) := (hB.cell (p := ⟨g1, k, none⟩) (by show g1 < B; omega)).trans (hcell1 k ka)
        clear hcell1
        have hst := add_step hda hdb hinv (n := c + da[k]?.getD 0) (by rw [getD_none kb]; omega) (.inl ka)
        have HS : Hid (AddInv da db (k + 1) ((c + da[k]?.getD 0) / 1073741824) (ds ++ [(c + da[k]?.getD 0) % 1073741824])) := hst
        clear hst hinv
        have hx := digs_at hda k
        generalize da[k]?.getD 0 = x at *
        go_wp2_with (at_builtin; refine wpList_append_own _ rfl _ _ 28 rfl (B + 4) 2 i0 (.int .i64 0) 1 8 Try.underlying28 hi hz0 hz1 hz2 rfl (by decide) _ _ _ rfl (World.ownsRow.alloc hrow _) ⟨wr.heap.size, 0, none⟩ 1 1 [.int .i64 ((c + x) % 1073741824)] rfl rfl ?c1 ?c2 ?c3 ?c4 ?c5 ?_)
        case c1 => exact cell_one_new _ _ _
        case c2 => simp [Value.oneCell']
        case c3 => unfold maxLen; omega
        case c4 => omega
        case c5 => simp; omega
        intro v' w1 hown' hgrow _
        have hrow1 := Row.appended (ds := ds) (by omega) hown'
        have hA1 := hA.appended hrow (by omega) hgrow
        have hB1 := hBb.appended hrow (by omega) hgrow
        have hR1 := hR.appended hrow (by omega) hgrow
        have hX1 := hX.appended hrow (by omega) hgrow
        have hN1 := below_appended hB hrow (by omega) (by omega) hgrow
        obtain ⟨g', cap', rfl⟩ := ownsRow_succ hown'
        have cX1 := hX1.cell1; have fX1 := hX1.frozen1
        clear hown' hgrow hR hX hrow hB hA hBb cA1 cB1 cX0
        go_wp2
        go_roundw
        case rel => exact ⟨k + 1, _, _, _, rfl, by go_num, hA1.other (by first | (simp; done) | (simp; omega)) _, hB1.other (by first | (simp; done) | (simp; omega)) _, hR1.other (by first | (simp; done) | (simp; omega)) _, hX1.set1 _, hrow1.stored (by first | (simp; done) | (simp; omega)) _, HS.out, hN1.setCell (by first | (simp; done) | (simp; omega)) _⟩
        case measure => simp [intOf]; omega

    · by_cases kb : k < db.length
      · obtain ⟨g2, q2, e2, _, hg2, _, _, hcell2⟩ := h2.at kb
        simp only [Value.slice.injEq, true_and] at e2
        obtain ⟨rfl, rfl⟩ := e2
        have x2 : wr.cell? ⟨g2, k, none⟩ = some (.int .i64 (db[k]?.getD 0)) := (hB.cell (p := ⟨g2, k, none⟩) (by show g2 < B; omega)).trans (hcell2 k kb)
        clear hcell2
        have hst := add_step hda hdb hinv (n := c + db[k]?.getD 0) (by rw [getD_none ka]; omega) (.inr (.inl kb))
        have HS : Hid (AddInv da db (k + 1) ((c + db[k]?.getD 0) / 1073741824) (ds ++ [(c + db[k]?.getD 0) % 1073741824])) := hst
        clear hst hinv
        have hy := digs_at hdb k
        generalize db[k]?.getD 0 = y at *
        go_wp2_with (at_builtin; refine wpList_append_own _ rfl _ _ 28 rfl (B + 4) 2 i0 (.int .i64 0) 1 8 Try.underlying28 hi hz0 hz1 hz2 rfl (by decide) _ _ _ rfl (World.ownsRow.alloc hrow _) ⟨wr.heap.size, 0, none⟩ 1 1 [.int .i64 ((c + y) % 1073741824)] rfl rfl ?c1 ?c2 ?c3 ?c4 ?c5 ?_)
        case c1 => exact cell_one_new _ _ _
        case c2 => simp [Value.oneCell']
        case c3 => unfold maxLen; omega
        case c4 => omega
        case c5 => simp; omega
        intro v' w1 hown' hgrow _
        have hrow1 := Row.appended (ds := ds) (by omega) hown'
        have hA1 := hA.appended hrow (by omega) hgrow
        have hB1 := hBb.appended hrow (by omega) hgrow
        have hR1 := hR.appended hrow (by omega) hgrow
        have hX1 := hX.appended hrow (by omega) hgrow
        have hN1 := below_appended hB hrow (by omega) (by omega) hgrow
        obtain ⟨g', cap', rfl⟩ := ownsRow_succ hown'
        have cX1 := hX1.cell1; have fX1 := hX1.frozen1
        clear hown' hgrow hR hX hrow hB hA hBb cA1 cB1 cX0
        go_wp2
        go_roundw
        case rel => exact ⟨k + 1, _, _, _, rfl, by go_num, hA1.other (by first | (simp; done) | (simp; omega)) _, hB1.other (by first | (simp; done) | (simp; omega)) _, hR1.other (by first | (simp; done) | (simp; omega)) _, hX1.set1 _, hrow1.stored (by first | (simp; done) | (simp; omega)) _, HS.out, hN1.setCell (by first | (simp; done) | (simp; omega)) _⟩
        case measure => simp [intOf]; omega

      · by_cases kc : 0 < c
        · have hst := add_step hda hdb hinv (n := c) (by rw [getD_none ka, getD_none kb]; omega) (.inr (.inr kc))
          have HS : Hid (AddInv da db (k + 1) ((c) / 1073741824) (ds ++ [(c) % 1073741824])) := hst
          clear hst hinv
          go_wp2_with (at_builtin; refine wpList_append_own _ rfl _ _ 28 rfl (B + 4) 2 i0 (.int .i64 0) 1 8 Try.underlying28 hi hz0 hz1 hz2 rfl (by decide) _ _ _ rfl (World.ownsRow.alloc hrow _) ⟨wr.heap.size, 0, none⟩ 1 1 [.int .i64 ((c) % 1073741824)] rfl rfl ?c1 ?c2 ?c3 ?c4 ?c5 ?_)
          case c1 => exact cell_one_new _ _ _
          case c2 => simp [Value.oneCell']
          case c3 => unfold maxLen; omega
          case c4 => omega
          case c5 => simp; omega
          intro v' w1 hown' hgrow _
          have hrow1 := Row.appended (ds := ds) (by omega) hown'
          have hA1 := hA.appended hrow (by omega) hgrow
          have hB1 := hBb.appended hrow (by omega) hgrow
          have hR1 := hR.appended hrow (by omega) hgrow
          have hX1 := hX.appended hrow (by omega) hgrow
          have hN1 := below_appended hB hrow (by omega) (by omega) hgrow
          obtain ⟨g', cap', rfl⟩ := ownsRow_succ hown'
          have cX1 := hX1.cell1; have fX1 := hX1.frozen1
          clear hown' hgrow hR hX hrow hB hA hBb cA1 cB1 cX0
          go_wp2
          go_roundw
          case rel => exact ⟨k + 1, _, _, _, rfl, by go_num, hA1.other (by first | (simp; done) | (simp; omega)) _, hB1.other (by first | (simp; done) | (simp; omega)) _, hR1.other (by first | (simp; done) | (simp; omega)) _, hX1.set1 _, hrow1.stored (by first | (simp; done) | (simp; omega)) _, HS.out, hN1.setCell (by first | (simp; done) | (simp; omega)) _⟩
          case measure => simp [intOf]; omega

        · obtain ⟨hd1, hv1, hl1⟩ := add_done hinv ka kb kc
          have hv2 : sg m (dval ds) = sg m (dval da + dval db) := by rw [hv1]
          obtain ⟨av, cv, rfl⟩ := hrow.form
          have htr := trim_any m (.slice av ds.length cv) ds wr (hrow.mono (Nat.zero_le _)) hd1 (by omega)
          rw [hlen, hv2] at htr
          have HR : Hid (Calls _ _ _ _ _) := htr
          have cX := hX.cell0
          clear hinv hv1 hv2 htr
          go_wp2_with fail
          refine HR.out.mono ?_
          rintro e w2 ⟨v2, rfl, hbig, hb2⟩
          obtain ⟨m2, a3, n3, c3, rfl⟩ := hbig.form
          have hR2 := hR.below hb2 hR.lt
          have hT := (hR2.set0 (.bool m2)).set1 (.slice a3 n3 c3)
          have HF : Hid (IsBig _ _ _ ∧ Below w.heap.size _ _) := ⟨hbig.copied hR2, ((hBs ▸ hB.trans (hb2.mono (by omega)) : Below w.heap.size w w2).setCell (p := ⟨B + 2, 0, none⟩) (by show _ ≤ B + 2; omega) (.bool m2)).setCell (p := ⟨B + 2, 1, none⟩) (by show _ ≤ B + 2; omega) (.slice a3 n3 c3)⟩
          have q0 := hR2.cell0; have q1 := hR2.cell1; have q2 := hR2.frozen0; have q3 := hR2.frozen1
          have t0 := hT.cell0; have t1 := hT.cell1
          clear hbig hb2 hR2 hT hrow hB HR
          go_wp2
          exact bodyPost_ret (v := .agg #[.bool m2, .slice a3 n3 c3]) (by simp [results, Try.results37, go_sem, t0, t1]) rfl ⟨_, rfl, HF.out⟩
end Go.Proofs.Ytfgpedleiajgeaa
