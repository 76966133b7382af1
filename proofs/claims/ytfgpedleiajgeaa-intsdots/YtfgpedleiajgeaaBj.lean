/-
  What is proved here: what the reference's Times returns: the product of any two numbers.
-/
import Derived.Test.YtfgpedleiajgeaaBi
import Derived.Deep.OwnRows
import Derived.RegionTactic
import Derived.BigRegion
namespace Go.Proofs.Ytfgpedleiajgeaa
open Go.RowKit

set_option maxRecDepth 100000 in
set_option maxHeartbeats 1600000 in
theorem times_raw (m m' : Bool) (s1 s2 : Value) (da db : List Int) (w : World) (h1 : Row w 0 s1 da) (h2 : Row w 0 s2 db) (hda : Digs da) (hdb : Digs db) (la : da.length ≤ 10000) (lb : db.length ≤ 10000) :
    Calls Try.prog 41 #[.agg #[.bool m, s1], .agg #[.bool m', s2]] w fun e w' => ∃ v, e = .returned v ∧ IsBig w' v (sg (m != m') (dval da * dval db)) ∧ Below w.heap.size w w' := by
  obtain ⟨a1, c1, e1⟩ := h1.form
  obtain ⟨a2, c2, e2⟩ := h2.form
  subst e1 e2
  obtain ⟨B, hBs⟩ : ∃ B, w.heap.size = B := ⟨_, rfl⟩
  obtain ⟨mm, hmm⟩ : ∃ mm, (!(m == m')) = mm := ⟨_, rfl⟩
  obtain ⟨n, hn⟩ : ∃ n, da.length + db.length + 1 = n := ⟨_, rfl⟩
  obtain ⟨mc, hmc⟩ : ∃ mc, madeCells #[Value.int .i64 0] n = mc := ⟨_, rfl⟩
  have hmk : ∀ W, (Instr.makeSlice 28 (.int .i64 ((da.length : Int) + (db.length : Int) + 1)) (.int .i64 ((da.length : Int) + (db.length : Int) + 1))).run Try.prog W = .ok (.slice (some ⟨W.heap.size, 0, none⟩) n n) (W.alloc (.cells mc 2)) := by
    intro W
    have h := run_make_row' (P := Try.prog) 28 2 (.int .i64 0) 8 Try.underlying28 Try.info2 rfl .i64 .i64 n (by omega) (by omega) W
    rw [hmc] at h
    rw [show ((da.length : Int) + (db.length : Int) + 1) = (n : Int) from by omega]
    exact h
  have Hmc : Hid (madeCells #[Value.int .i64 0] n = mc) := hmc
  have Hn : Hid (da.length + db.length + 1 = n) := hn
  have Hmm : Hid ((!(m == m')) = mm) := hmm
  have hnb : n ≤ 20001 := by omega
  clear hmc hn
  go_enter Try.func41, Try.ntmps41
  go_wp2
  generalize hW0 : (((w.alloc (.cells #[.bool m, .slice a1 da.length c1] 35)).alloc (.cells #[.bool m', .slice a2 db.length c2] 35)).alloc (.cells #[.bool false, .slice none 0 0] 35)) = W0
  have t0 : Two W0 B 35 (.bool m) (.slice a1 da.length c1) := by
    rw [← hW0, ← hBs]; exact ((Two.new w 35 _ _).alloc _).alloc _
  have t1 : Two W0 (B + 1) 35 (.bool m') (.slice a2 db.length c2) := by
    rw [← hW0, ← hBs]; have h := Two.new (w.alloc (.cells #[.bool m, .slice a1 da.length c1] 35)) 35 (.bool m') (.slice a2 db.length c2); rw [World.size_alloc] at h; exact h.alloc _
  have t2 : Two W0 (B + 2) 35 (.bool false) (.slice none 0 0) := by
    rw [← hW0, ← hBs]; have h := Two.new ((w.alloc (.cells #[.bool m, .slice a1 da.length c1] 35)).alloc (.cells #[.bool m', .slice a2 db.length c2] 35)) 35 (.bool false) (.slice none 0 0); rw [World.size_alloc, World.size_alloc] at h; exact h
  have hs0 : W0.heap.size = B + 3 := by rw [← hW0, ← hBs]; simp
  have hB0 : Below B w W0 := by
    rw [← hW0, ← hBs]; exact (((Below.refl _ w).alloc (Nat.le_refl _) _).alloc (by simp) _).alloc (by simp; omega) _
  clear hW0
  have p0 := t0.cell0; have p1 := t0.cell1
  have q0 := t1.cell0; have q1 := t1.cell1
  go_region
  · generalize hW1 : ((W0.alloc (Obj.cells mc 2)).alloc (Obj.cells #[Value.bool mm, Value.slice (some ⟨B + 3, 0, none⟩) n n] 35)).drew = W1
    have u0 : Two W1 B 35 (.bool m) (.slice a1 da.length c1) := by rw [← hW1]; exact (t0.alloc _).alloc _
    have u1 : Two W1 (B + 1) 35 (.bool m') (.slice a2 db.length c2) := by rw [← hW1]; exact (t1.alloc _).alloc _
    have u2 : Two W1 (B + 2) 35 (.bool false) (.slice none 0 0) := by rw [← hW1]; exact (t2.alloc _).alloc _
    have uX : Two W1 (B + 3 + 1) 35 (.bool mm) (.slice (some ⟨B + 3, 0, none⟩) n n) := by rw [← hW1]; have h := Two.new (W0.alloc (Obj.cells mc 2)) 35 (.bool mm) (.slice (some ⟨B + 3, 0, none⟩) n n); rw [World.size_alloc, hs0] at h; exact h
    have uG : Arr W1 (B + 3) (List.replicate n 0) := by rw [← hW1]; exact arr_made _ _ _ (by have h := World.alloc_heap_new W0 (Obj.cells mc 2); rw [hs0] at h; rw [Hmc.out]; exact (Below.heap_alloc (W0.alloc (Obj.cells mc 2)) _ (B + 3) (by simp [hs0])).trans h)
    have hB1 : Below B w W1 := by rw [← hW1]; exact ((hB0.alloc (by omega) _).alloc (by simp; omega) _).drew
    clear hW1 p0 p1 q0 q1 t0 t1 t2 hs0 hB0 hmk
    go_wp2
    go_loopw [6] (fun ii wr => ∃ (i : Nat) (os : List Int), ii = .int .i64 (i : Int) ∧ i ≤ da.length ∧ Two wr B 35 (.bool m) (.slice a1 da.length c1) ∧ Two wr (B + 1) 35 (.bool m') (.slice a2 db.length c2) ∧ Two wr (B + 2) 35 (.bool false) (.slice none 0 0) ∧ Two wr (B + 3 + 1) 35 (.bool mm) (.slice (some ⟨B + 3, 0, none⟩) n n) ∧ Arr wr (B + 3) os ∧ OutInv da db n i os ∧ Below B w wr)
      (fun ii _ => 40000 - (intOf ii).toNat)
    case atStart => exact ⟨0, _, rfl, Nat.zero_le _, u0, u1, u2, uX, uG, out_start da db n, hB1⟩
    case round =>
      clear u0 u1 u2 uX uG hB1
      obtain ⟨i, os, rfl, hil, u0, u1, u2, uX, uG, hinv, hB⟩ := hrel
      have p1 := u0.cell1; have q1 := u1.cell1; have r1 := uX.cell1; have r0 := uX.cell0
      by_cases hi : i < da.length
      · obtain ⟨g1, q1', e1, _, hg1, _, _, hcell1⟩ := h1.at hi
        simp only [Value.slice.injEq, true_and] at e1
        obtain ⟨rfl, rfl⟩ := e1
        have hin := in_start hinv
        have HIN : Hid (InInv da db n i 0 0 os) := hin
        clear hinv hin
        go_wp2
        go_loopw [7, 8] (fun cc kk wr => ∃ (k : Nat) (c : Int) (os : List Int), kk = .int .i64 (k : Int) ∧ cc = .int .i64 c ∧ Two wr B 35 (.bool m) (.slice (some ⟨g1, 0, none⟩) da.length c1) ∧ Two wr (B + 1) 35 (.bool m') (.slice a2 db.length c2) ∧ Two wr (B + 2) 35 (.bool false) (.slice none 0 0) ∧ Two wr (B + 3 + 1) 35 (.bool mm) (.slice (some ⟨B + 3, 0, none⟩) n n) ∧ Arr wr (B + 3) os ∧ InInv da db n i k c os ∧ Below B w wr)
          (fun _ kk _ => 40000 - (intOf kk).toNat)
        case atStart => exact ⟨0, 0, os, rfl, rfl, u0, u1, u2, uX, uG, HIN.out, hB⟩
        case round =>
          clear u0 u1 u2 uX uG hB p1 q1 r1 r0 HIN
          obtain ⟨k, c, os, rfl, rfl, j0, j1, j2, jX, jG, hinv, jB⟩ := hrel
          have p1 := j0.cell1; have q1 := j1.cell1; have r1 := jX.cell1
          have hk : k ≤ 10001 := by rcases hinv.2.2.2.2.2 with h | h <;> omega
          have x1 : wr.cell? ⟨g1, i, none⟩ = some (.int .i64 (da[i]?.getD 0)) := (jB.cell (p := ⟨g1, i, none⟩) (by show g1 < B; omega)).trans (hcell1 i hi)
          have hx := digs_at hda i
          have hnn := Hn.out
          by_cases kb : k < db.length
          · have hin : (i : Int) + (k : Int) < (n : Int) := by omega
            obtain ⟨g2, q2, e2, _, hg2, _, _, hcell2⟩ := h2.at kb
            simp only [Value.slice.injEq, true_and] at e2
            obtain ⟨rfl, rfl⟩ := e2
            have x2 : wr.cell? ⟨g2, k, none⟩ = some (.int .i64 (db[k]?.getD 0)) := (jB.cell (p := ⟨g2, k, none⟩) (by show g2 < B; omega)).trans (hcell2 k kb)
            clear hcell2
            obtain ⟨hN0, hst⟩ := in_step Hn.out hi hda hdb hinv (.inl kb) rfl
            have hy := digs_at hdb k
            have hP0 : 0 ≤ da[i]?.getD 0 * db[k]?.getD 0 := Int.mul_nonneg hx.1 hy.1
            have hP1 : da[i]?.getD 0 * db[k]?.getD 0 ≤ 1073741823 * 1073741823 := Int.mul_le_mul (by omega) (by omega) hy.1 (by omega)
            have hz := digs_at hinv.2.2.2.1 (i + k)
            have hzc := jG.cell (j := i + k) (by rw [hinv.1]; omega)
            have hzf := jG.frozen (i + k)
            have hc0 := hinv.2.1; have hc1 := hinv.2.2.1
            have HS : Hid (InInv da db n i (k + 1) _ _) := hst
            clear hst hinv
            have hP : da[i]?.getD 0 * db[k]?.getD 0 = da[i]?.getD 0 * db[k]?.getD 0 := rfl
            generalize hPP : da[i]?.getD 0 * db[k]?.getD 0 = P at HS hP0 hP1 hN0
            generalize da[i]?.getD 0 = x at *
            generalize db[k]?.getD 0 = y at *
            clear hP
            generalize os[i + k]?.getD 0 = z at *
            have hik : ((i : Int) + (k : Int)).toNat = i + k := by omega
            go_wp2
            go_quiet (fail)
            go_wp2
            go_roundw
            case rel => exact ⟨k + 1, _, _, by go_num, rfl, (j0.drawn _).other (by first | (simp; done) | (simp; omega)) _, (j1.drawn _).other (by first | (simp; done) | (simp; omega)) _, (j2.drawn _).other (by first | (simp; done) | (simp; omega)) _, (jX.drawn _).other (by first | (simp; done) | (simp; omega)) _, (jG.drawn _).set _ _, HS.out, (below_drewN jB _).setCell (by first | (simp; done) | (simp; omega)) _⟩
            case measure => simp [intOf]; omega

          · by_cases kc : 0 < c
            · have hin : (i : Int) + (k : Int) < (n : Int) := by rcases hinv.2.2.2.2.2 with h | h <;> omega
              obtain ⟨hN0, hst⟩ := in_step Hn.out hi hda hdb hinv (.inr kc) rfl
              rw [getD_none kb, Int.mul_zero, Int.add_zero] at hN0 hst
              have hz := digs_at hinv.2.2.2.1 (i + k)
              have hzc := jG.cell (j := i + k) (by rw [hinv.1]; omega)
              have hzf := jG.frozen (i + k)
              have hc0 := hinv.2.1; have hc1 := hinv.2.2.1
              have HS : Hid (InInv da db n i (k + 1) _ _) := hst
              clear hst hinv
              clear x1
              generalize os[i + k]?.getD 0 = z at *
              have hik : ((i : Int) + (k : Int)).toNat = i + k := by omega
              go_wp2
              go_roundw
              case rel => exact ⟨k + 1, _, _, by go_num, rfl, j0.other (by first | (simp; done) | (simp; omega)) _, j1.other (by first | (simp; done) | (simp; omega)) _, j2.other (by first | (simp; done) | (simp; omega)) _, jX.other (by first | (simp; done) | (simp; omega)) _, jG.set _ _, HS.out, jB.setCell (by first | (simp; done) | (simp; omega)) _⟩
              case measure => simp [intOf]; omega

            · have hout := in_done hinv kb kc
              have HO : Hid (OutInv da db n (i + 1) os) := hout
              clear hinv hout x1
              go_wp2
              go_roundw
              case rel => exact ⟨i + 1, os, by go_num, by omega, j0, j1, j2, jX, jG, HO.out, jB⟩
              case measure => simp [intOf]; omega
      · obtain ⟨hl, hdo, hv, _⟩ := hinv
        rw [dval_take_all (by omega)] at hv
        have htr := trim_any mm (.slice (some ⟨B + 3, 0, none⟩) os.length os.length) os wr (uG.row (by omega)) hdo (by omega)
        rw [hl, show sg mm (dval os) = sg (m != m') (dval da * dval db) from by rw [hv, ← Hmm.out]; rfl] at htr
        have HR : Hid (Calls _ _ _ _ _) := htr
        clear hl hdo hv htr
        go_wp2_with fail
        refine HR.out.mono ?_
        rintro e w2 ⟨v2, rfl, hbig, hb2⟩
        obtain ⟨m2, a3, n3, c3, rfl⟩ := hbig.form
        have hR2 := u2.below hb2 u2.lt
        have hT := (hR2.set0 (.bool m2)).set1 (.slice a3 n3 c3)
        have HF : Hid (IsBig _ _ _ ∧ Below w.heap.size _ _) := ⟨hbig.copied hR2, ((hBs ▸ hB.trans (hb2.mono (by have := u2.lt; omega)) : Below w.heap.size w w2).setCell (p := ⟨B + 2, 0, none⟩) (by show _ ≤ B + 2; omega) (.bool m2)).setCell (p := ⟨B + 2, 1, none⟩) (by show _ ≤ B + 2; omega) (.slice a3 n3 c3)⟩
        have y0 := hR2.cell0; have y1 := hR2.cell1; have y2 := hR2.frozen0; have y3 := hR2.frozen1
        have t0 := hT.cell0; have t1 := hT.cell1
        clear hbig hb2 hR2 hT hB HR u0 u1 u2 uX uG
        go_wp2
        exact bodyPost_ret (v := .agg #[.bool m2, .slice a3 n3 c3]) (by simp [results, Try.results41, go_sem, t0, t1]) rfl ⟨_, rfl, HF.out⟩

  · generalize hW1 : ((W0.alloc (Obj.cells #[Value.bool mm, Value.slice (some ⟨B + 3 + 1, 0, none⟩) n n] 35)).alloc (Obj.cells mc 2)).drew = W1
    have u0 : Two W1 B 35 (.bool m) (.slice a1 da.length c1) := by rw [← hW1]; exact (t0.alloc _).alloc _
    have u1 : Two W1 (B + 1) 35 (.bool m') (.slice a2 db.length c2) := by rw [← hW1]; exact (t1.alloc _).alloc _
    have u2 : Two W1 (B + 2) 35 (.bool false) (.slice none 0 0) := by rw [← hW1]; exact (t2.alloc _).alloc _
    have uX : Two W1 (B + 3) 35 (.bool mm) (.slice (some ⟨B + 3 + 1, 0, none⟩) n n) := by rw [← hW1]; have h := Two.new W0 35 (.bool mm) (.slice (some ⟨B + 3 + 1, 0, none⟩) n n); rw [hs0] at h; exact h.alloc _
    have uG : Arr W1 (B + 3 + 1) (List.replicate n 0) := by rw [← hW1]; exact arr_made _ _ _ (by have h := World.alloc_heap_new (W0.alloc (Obj.cells #[Value.bool mm, Value.slice (some ⟨B + 3 + 1, 0, none⟩) n n] 35)) (Obj.cells mc 2); rw [World.size_alloc, hs0] at h; rw [Hmc.out]; exact h)
    have hB1 : Below B w W1 := by rw [← hW1]; exact ((hB0.alloc (by omega) _).alloc (by simp; omega) _).drew
    clear hW1 p0 p1 q0 q1 t0 t1 t2 hs0 hB0 hmk
    go_wp2
    go_loopw [6] (fun ii wr => ∃ (i : Nat) (os : List Int), ii = .int .i64 (i : Int) ∧ i ≤ da.length ∧ Two wr B 35 (.bool m) (.slice a1 da.length c1) ∧ Two wr (B + 1) 35 (.bool m') (.slice a2 db.length c2) ∧ Two wr (B + 2) 35 (.bool false) (.slice none 0 0) ∧ Two wr (B + 3) 35 (.bool mm) (.slice (some ⟨B + 3 + 1, 0, none⟩) n n) ∧ Arr wr (B + 3 + 1) os ∧ OutInv da db n i os ∧ Below B w wr)
      (fun ii _ => 40000 - (intOf ii).toNat)
    case atStart => exact ⟨0, _, rfl, Nat.zero_le _, u0, u1, u2, uX, uG, out_start da db n, hB1⟩
    case round =>
      clear u0 u1 u2 uX uG hB1
      obtain ⟨i, os, rfl, hil, u0, u1, u2, uX, uG, hinv, hB⟩ := hrel
      have p1 := u0.cell1; have q1 := u1.cell1; have r1 := uX.cell1; have r0 := uX.cell0
      by_cases hi : i < da.length
      · obtain ⟨g1, q1', e1, _, hg1, _, _, hcell1⟩ := h1.at hi
        simp only [Value.slice.injEq, true_and] at e1
        obtain ⟨rfl, rfl⟩ := e1
        have hin := in_start hinv
        have HIN : Hid (InInv da db n i 0 0 os) := hin
        clear hinv hin
        go_wp2
        go_loopw [7, 8] (fun cc kk wr => ∃ (k : Nat) (c : Int) (os : List Int), kk = .int .i64 (k : Int) ∧ cc = .int .i64 c ∧ Two wr B 35 (.bool m) (.slice (some ⟨g1, 0, none⟩) da.length c1) ∧ Two wr (B + 1) 35 (.bool m') (.slice a2 db.length c2) ∧ Two wr (B + 2) 35 (.bool false) (.slice none 0 0) ∧ Two wr (B + 3) 35 (.bool mm) (.slice (some ⟨B + 3 + 1, 0, none⟩) n n) ∧ Arr wr (B + 3 + 1) os ∧ InInv da db n i k c os ∧ Below B w wr)
          (fun _ kk _ => 40000 - (intOf kk).toNat)
        case atStart => exact ⟨0, 0, os, rfl, rfl, u0, u1, u2, uX, uG, HIN.out, hB⟩
        case round =>
          clear u0 u1 u2 uX uG hB p1 q1 r1 r0 HIN
          obtain ⟨k, c, os, rfl, rfl, j0, j1, j2, jX, jG, hinv, jB⟩ := hrel
          have p1 := j0.cell1; have q1 := j1.cell1; have r1 := jX.cell1
          have hk : k ≤ 10001 := by rcases hinv.2.2.2.2.2 with h | h <;> omega
          have x1 : wr.cell? ⟨g1, i, none⟩ = some (.int .i64 (da[i]?.getD 0)) := (jB.cell (p := ⟨g1, i, none⟩) (by show g1 < B; omega)).trans (hcell1 i hi)
          have hx := digs_at hda i
          have hnn := Hn.out
          by_cases kb : k < db.length
          · have hin : (i : Int) + (k : Int) < (n : Int) := by omega
            obtain ⟨g2, q2, e2, _, hg2, _, _, hcell2⟩ := h2.at kb
            simp only [Value.slice.injEq, true_and] at e2
            obtain ⟨rfl, rfl⟩ := e2
            have x2 : wr.cell? ⟨g2, k, none⟩ = some (.int .i64 (db[k]?.getD 0)) := (jB.cell (p := ⟨g2, k, none⟩) (by show g2 < B; omega)).trans (hcell2 k kb)
            clear hcell2
            obtain ⟨hN0, hst⟩ := in_step Hn.out hi hda hdb hinv (.inl kb) rfl
            have hy := digs_at hdb k
            have hP0 : 0 ≤ da[i]?.getD 0 * db[k]?.getD 0 := Int.mul_nonneg hx.1 hy.1
            have hP1 : da[i]?.getD 0 * db[k]?.getD 0 ≤ 1073741823 * 1073741823 := Int.mul_le_mul (by omega) (by omega) hy.1 (by omega)
            have hz := digs_at hinv.2.2.2.1 (i + k)
            have hzc := jG.cell (j := i + k) (by rw [hinv.1]; omega)
            have hzf := jG.frozen (i + k)
            have hc0 := hinv.2.1; have hc1 := hinv.2.2.1
            have HS : Hid (InInv da db n i (k + 1) _ _) := hst
            clear hst hinv
            have hP : da[i]?.getD 0 * db[k]?.getD 0 = da[i]?.getD 0 * db[k]?.getD 0 := rfl
            generalize hPP : da[i]?.getD 0 * db[k]?.getD 0 = P at HS hP0 hP1 hN0
            generalize da[i]?.getD 0 = x at *
            generalize db[k]?.getD 0 = y at *
            clear hP
            generalize os[i + k]?.getD 0 = z at *
            have hik : ((i : Int) + (k : Int)).toNat = i + k := by omega
            go_wp2
            go_quiet (fail)
            go_wp2
            go_roundw
            case rel => exact ⟨k + 1, _, _, by go_num, rfl, (j0.drawn _).other (by first | (simp; done) | (simp; omega)) _, (j1.drawn _).other (by first | (simp; done) | (simp; omega)) _, (j2.drawn _).other (by first | (simp; done) | (simp; omega)) _, (jX.drawn _).other (by first | (simp; done) | (simp; omega)) _, (jG.drawn _).set _ _, HS.out, (below_drewN jB _).setCell (by first | (simp; done) | (simp; omega)) _⟩
            case measure => simp [intOf]; omega

          · by_cases kc : 0 < c
            · have hin : (i : Int) + (k : Int) < (n : Int) := by rcases hinv.2.2.2.2.2 with h | h <;> omega
              obtain ⟨hN0, hst⟩ := in_step Hn.out hi hda hdb hinv (.inr kc) rfl
              rw [getD_none kb, Int.mul_zero, Int.add_zero] at hN0 hst
              have hz := digs_at hinv.2.2.2.1 (i + k)
              have hzc := jG.cell (j := i + k) (by rw [hinv.1]; omega)
              have hzf := jG.frozen (i + k)
              have hc0 := hinv.2.1; have hc1 := hinv.2.2.1
              have HS : Hid (InInv da db n i (k + 1) _ _) := hst
              clear hst hinv
              clear x1
              generalize os[i + k]?.getD 0 = z at *
              have hik : ((i : Int) + (k : Int)).toNat = i + k := by omega
              go_wp2
              go_roundw
              case rel => exact ⟨k + 1, _, _, by go_num, rfl, j0.other (by first | (simp; done) | (simp; omega)) _, j1.other (by first | (simp; done) | (simp; omega)) _, j2.other (by first | (simp; done) | (simp; omega)) _, jX.other (by first | (simp; done) | (simp; omega)) _, jG.set _ _, HS.out, jB.setCell (by first | (simp; done) | (simp; omega)) _⟩
              case measure => simp [intOf]; omega

            · have hout := in_done hinv kb kc
              have HO : Hid (OutInv da db n (i + 1) os) := hout
              clear hinv hout x1
              go_wp2
              go_roundw
              case rel => exact ⟨i + 1, os, by go_num, by omega, j0, j1, j2, jX, jG, HO.out, jB⟩
              case measure => simp [intOf]; omega
      · obtain ⟨hl, hdo, hv, _⟩ := hinv
        rw [dval_take_all (by omega)] at hv
        have htr := trim_any mm (.slice (some ⟨B + 3 + 1, 0, none⟩) os.length os.length) os wr (uG.row (by omega)) hdo (by omega)
        rw [hl, show sg mm (dval os) = sg (m != m') (dval da * dval db) from by rw [hv, ← Hmm.out]; rfl] at htr
        have HR : Hid (Calls _ _ _ _ _) := htr
        clear hl hdo hv htr
        go_wp2_with fail
        refine HR.out.mono ?_
        rintro e w2 ⟨v2, rfl, hbig, hb2⟩
        obtain ⟨m2, a3, n3, c3, rfl⟩ := hbig.form
        have hR2 := u2.below hb2 u2.lt
        have hT := (hR2.set0 (.bool m2)).set1 (.slice a3 n3 c3)
        have HF : Hid (IsBig _ _ _ ∧ Below w.heap.size _ _) := ⟨hbig.copied hR2, ((hBs ▸ hB.trans (hb2.mono (by have := u2.lt; omega)) : Below w.heap.size w w2).setCell (p := ⟨B + 2, 0, none⟩) (by show _ ≤ B + 2; omega) (.bool m2)).setCell (p := ⟨B + 2, 1, none⟩) (by show _ ≤ B + 2; omega) (.slice a3 n3 c3)⟩
        have y0 := hR2.cell0; have y1 := hR2.cell1; have y2 := hR2.frozen0; have y3 := hR2.frozen1
        have t0 := hT.cell0; have t1 := hT.cell1
        clear hbig hb2 hR2 hT hB HR u0 u1 u2 uX uG
        go_wp2
        exact bodyPost_ret (v := .agg #[.bool m2, .slice a3 n3 c3]) (by simp [results, Try.results41, go_sem, t0, t1]) rfl ⟨_, rfl, HF.out⟩

/-- Times is the product. -/
theorem times_any (n : Nat) (hn : n ≤ 10000) (v1 v2 : Value) (x y : Int) (w : World) (h1 : IsBig w v1 x) (h2 : IsBig w v2 y) (hx : -rp n < x ∧ x < rp n) (hy : -rp n < y ∧ y < rp n) :
    Calls Try.prog 41 #[v1, v2] w fun e w' => ∃ v, e = .returned v ∧ IsBig w' v (x * y) ∧ Below w.heap.size w w' := by
  obtain ⟨m, s1, da, rfl, hr1, hd1, ht1, hm1, rfl⟩ := h1
  obtain ⟨m', s2, db, rfl, hr2, hd2, ht2, hm2, rfl⟩ := h2
  have la : da.length ≤ n := big_len hd1 ht1 (by cases m <;> simp only [sg_true, sg_false] at hx <;> omega)
  have lb : db.length ≤ n := big_len hd2 ht2 (by cases m' <;> simp only [sg_true, sg_false] at hy <;> omega)
  have e : sg m (dval da) * sg m' (dval db) = sg (m != m') (dval da * dval db) := by
    cases m <;> cases m' <;> simp [sg, Int.mul_neg, Int.neg_mul]
  rw [e]
  exact times_raw m m' s1 s2 da db w hr1 hr2 hd1 hd2 (by omega) (by omega)
end Go.Proofs.Ytfgpedleiajgeaa
