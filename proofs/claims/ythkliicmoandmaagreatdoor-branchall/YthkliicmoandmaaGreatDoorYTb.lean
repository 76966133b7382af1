/-
  What is proved here: the reference's Must, Not and Card of any domain. the reference's Card and Both of any domains.
-/
import Derived.Test.YthkliicmoandmaaGreatDoorYTa
namespace Go.Proofs.YthkliicmoandmaaGreatDoor.St
open Go.RowKit Go.Shelf
set_option linter.unusedVariables false
set_option linter.unusedSimpArgs false

theorem rtaken_right (d : SD) : RightD (rtakenD d) := by
  unfold rtakenD
  cases h : emptyD d
  · simp only [Bool.false_eq_true, if_false]
    unfold emptyD at h
    simp only [Bool.or_eq_false_iff, Bool.not_eq_false'] at h
    exact of_decide_eq_true h.1
  · exact none_right
theorem refin_below (v : Int) (s : Value) (l : List Int) (W : World) (h : Si W s l) : Calls Tryz.prog 60 #[.int .i64 v, s] W fun e w' => e = .returned (.bool ((tkS l).contains v)) ∧ Below W.heap.size W w' :=
  (refin_any v s l W h).mono fun e w' ⟨he, n, hw⟩ => ⟨he, by rw [hw]; exact below_drewN (Below.refl _ _) _⟩
theorem di_si {W : World} {x0 : Bool} {ra a1 a2 : Option Addr} {rn rc n1 c1 n2 c2 : Nat} {x4 x5 : Int} {d : SD} (h : Di W (.agg #[.bool x0, .slice ra rn rc, .slice a1 n1 c1, .slice a2 n2 c2, .int .i64 x4, .int .i64 x5]) d) :
    Si W (.slice a1 n1 c1) d.lo ∧ Si W (.slice a2 n2 c2) d.up ∧ d.least = x4 ∧ d.most = x5 := by
  obtain ⟨ra', rc', slo, sup, e, o1, o2⟩ := h
  injection e with e
  injection e with e
  injection e with _ e
  injection e with _ e
  injection e with e2 e
  injection e with e3 e
  injection e with e4 e
  injection e with e5 e
  injection e4 with _ e4
  injection e5 with _ e5
  subst e2 e3 e4 e5
  exact ⟨o1, o2, rfl, rfl⟩
theorem rtaken_look (v : Value) (d : SD) (Wb W : World) (hd0 : Di Wb v d) (hbW : Below Wb.heap.size Wb W) :
    Calls Tryz.prog 100 #[v] W fun e w' => ∃ x0 ra rn rc a1 n1 c1 a2 n2 c2 x4 x5, e = .returned (.agg #[.bool x0, .slice ra rn rc, .slice a1 n1 c1, .slice a2 n2 c2, .int .i64 x4, .int .i64 x5]) ∧ Hid (∀ X, Below Wb.heap.size Wb X → Di X (.agg #[.bool x0, .slice ra rn rc, .slice a1 n1 c1, .slice a2 n2 c2, .int .i64 x4, .int .i64 x5]) (rtakenD d)) ∧ Hid ((rtakenD d).least = x4 ∧ (rtakenD d).most = x5) ∧ Below W.heap.size W w' :=
  (reftaken_dom v d Wb W hd0 hbW).mono fun e w' ⟨v, he, hD, hb⟩ => by
    obtain ⟨x0, ra, rn, rc, a1, n1, c1, a2, n2, c2, x4, x5, rfl, _⟩ := (hD Wb (Below.refl _ _)).look
    have h4 := di_si (hD Wb (Below.refl _ _))
    exact ⟨_, _, _, _, _, _, _, _, _, _, _, _, he, hD, h4.2.2, hb⟩

theorem set_below (s : Value) (l : List Int) (W : World) (h : Si W s l) : Calls Tryz.prog 111 #[s] W fun e w' => e = .returned (.bool (setB l)) ∧ Below W.heap.size W w' :=
  (refset_any s l W h).mono fun e w' ⟨he, n, hw⟩ => ⟨he, by rw [hw]; exact below_drewN (Below.refl _ _) _⟩
theorem sub_below (s1 s2 : Value) (a b : List Int) (W : World) (h1 : Si W s1 a) (h2 : Si W s2 b) : Calls Tryz.prog 117 #[s1, s2] W fun e w' => e = .returned (.bool (subB (tkS a) (tkS b))) ∧ Below W.heap.size W w' :=
  (refsub_any s1 s2 a b W h1 h2).mono fun e w' ⟨he, n, hw⟩ => ⟨he, by rw [hw]; exact below_drewN (Below.refl _ _) _⟩

def rbothD (d o : SD) : SD := if emptyD (rtakenD d) || emptyD (rtakenD o) then noneD else if !setB (joinL (tkS (rtakenD d).lo) (tkS (rtakenD o).lo)) || !subB (tkS (joinL (tkS (rtakenD d).lo) (tkS (rtakenD o).lo))) (tkS (meetL (tkS (rtakenD d).up) (tkS (rtakenD o).up))) then noneD else tightD (joinL (tkS (rtakenD d).lo) (tkS (rtakenD o).lo)) (meetL (tkS (rtakenD d).up) (tkS (rtakenD o).up)) (max (rtakenD d).least (rtakenD o).least) (min (rtakenD d).most (rtakenD o).most)

set_option maxRecDepth 100000 in
set_option maxHeartbeats 4000000 in
theorem refboth_any (v u : Value) (d o : SD) (W : World) (h : Di W v d) (ho : Di W u o) :
    Calls Tryz.prog 119 #[v, u] W fun e w' => ∃ v', e = .returned v' ∧ Dv W.heap.size w' v' (rbothD d o) ∧ Below W.heap.size W w' := by
  have k85a := fun X (hX : Below W.heap.size W X) => rtaken_look v d W X h hX
  have k85b := fun X (hX : Below W.heap.size W X) => rtaken_look u o W X ho hX
  obtain ⟨x0a, raa, rna, rca, a1a, n1a, c1a, a2a, n2a, c2a, x4a, x5a, rfl, HEa, HLOa, HUPa⟩ := h.look
  obtain ⟨x0b, rab, rnb, rcb, a1b, n1b, c1b, a2b, n2b, c2b, x4b, x5b, rfl, HEb, HLOb, HUPb⟩ := ho.look
  have hRa := rtaken_right d
  have hRb := rtaken_right o
  have hM : rbothD d o = if emptyD (rtakenD d) || emptyD (rtakenD o) then noneD else if !setB (joinL (tkS (rtakenD d).lo) (tkS (rtakenD o).lo)) || !subB (tkS (joinL (tkS (rtakenD d).lo) (tkS (rtakenD o).lo))) (tkS (meetL (tkS (rtakenD d).up) (tkS (rtakenD o).up))) then noneD else tightD (joinL (tkS (rtakenD d).lo) (tkS (rtakenD o).lo)) (meetL (tkS (rtakenD d).up) (tkS (rtakenD o).up)) (max (rtakenD d).least (rtakenD o).least) (min (rtakenD d).most (rtakenD o).most) := rfl
  generalize rbothD d o = MD at hM ⊢
  have hms : IsSet (meetL (tkS (rtakenD d).up) (tkS (rtakenD o).up)) := set_filter (tkS_set _) _
  generalize rtakenD d = TA at *
  generalize rtakenD o = TB at *
  have HMS : Hid (IsSet (meetL (tkS TA.up) (tkS TB.up))) := hms
  obtain ⟨w0, hW0⟩ : ∃ X, (((W.alloc (Obj.cells #[.bool x0a, .slice raa rna rca, .slice a1a n1a c1a, .slice a2a n2a c2a, .int .i64 x4a, .int .i64 x5a] 50)).alloc (Obj.cells #[.bool x0b, .slice rab rnb rcb, .slice a1b n1b c1b, .slice a2b n2b c2b, .int .i64 x4b, .int .i64 x5b] 50)).alloc (Obj.cells #[.bool false, .slice none 0 0, .slice none 0 0, .slice none 0 0, .int .i64 0, .int .i64 0] 50)) = X := ⟨_, rfl⟩
  have HW0 : Hid _ := hW0
  have hb0 : Below W.heap.size W w0 := by rw [← hW0]; exact ((((Below.refl _ W).alloc (by simp <;> omega) _).alloc (by simp <;> omega) _).alloc (by simp <;> omega) _)
  have HA_0 : Hid (R6 w0 W.heap.size (.bool x0a) (.slice raa rna rca) (.slice a1a n1a c1a) (.slice a2a n2a c2a) (.int .i64 x4a) (.int .i64 x5a)) := by rw [← hW0]; exact (((R6.new _ _ _ _ _ _ _).alloc _).alloc _)
  have HB_0 : Hid (R6 w0 (W.heap.size + 1) (.bool x0b) (.slice rab rnb rcb) (.slice a1b n1b c1b) (.slice a2b n2b c2b) (.int .i64 x4b) (.int .i64 x5b)) := by rw [← hW0]; exact ((R6.new1 _ _ _ _ _ _ _ _).alloc _)
  have HZ_0 : Hid (R6 w0 (W.heap.size + 2) (.bool false) (.slice none 0 0) (.slice none 0 0) (.slice none 0 0) (.int .i64 0) (.int .i64 0)) := by rw [← hW0]; exact (R6.new2 _ _ _ _ _ _ _ _ _)
  clear hW0
  clear h ho HEa HLOa HUPa HEb HLOb HUPb hRa hRb hms
  go_enter Tryz.func119, Tryz.ntmps119
  go_upto_region 1 with (fail)
  rw [HW0.out]
  obtain ⟨zA0, zA1, zA2, zA3, zA4, zA5⟩ := HA_0.out.cells
  obtain ⟨zB0, zB1, zB2, zB3, zB4, zB5⟩ := HB_0.out.cells
  obtain ⟨zZ0, zZ1, zZ2, zZ3, zZ4, zZ5⟩ := HZ_0.out.cells
  go_wp2_with fail
  refine (k85a w0 hb0).mono ?_
  rintro e w1 ⟨x0t, rat, rnt, rct, a1t, n1t, c1t, a2t, n2t, c2t, x4t, x5t, rfl, HDIa, HLTa, hb⟩
  have hb1 : Below W.heap.size W w1 := hb0.trans (hb.mono hb0.size)
  have HA_1 : Hid _ := HA_0.out.below hb
  have HB_1 : Hid _ := HB_0.out.below hb
  have HZ_1 : Hid _ := HZ_0.out.below hb
  clear zA0 zA1 zA2 zA3 zA4 zA5 zB0 zB1 zB2 zB3 zB4 zB5 zZ0 zZ1 zZ2 zZ3 zZ4 zZ5
  clear hb hb0 HA_0 HB_0 HZ_0
  have hb2 := below_setRow hb1 (show W.heap.size ≤ W.heap.size by omega) #[.bool x0t, .slice rat rnt rct, .slice a1t n1t c1t, .slice a2t n2t c2t, .int .i64 x4t, .int .i64 x5t]
  have HA_2 : Hid _ := HA_1.out.set (.bool x0t) (.slice rat rnt rct) (.slice a1t n1t c1t) (.slice a2t n2t c2t) (.int .i64 x4t) (.int .i64 x5t)
  have HB_2 : Hid _ := HB_1.out.other (show (W.heap.size + 1) ≠ W.heap.size by omega) #[.bool x0t, .slice rat rnt rct, .slice a1t n1t c1t, .slice a2t n2t c2t, .int .i64 x4t, .int .i64 x5t]
  have HZ_2 : Hid _ := HZ_1.out.other (show (W.heap.size + 2) ≠ W.heap.size by omega) #[.bool x0t, .slice rat rnt rct, .slice a1t n1t c1t, .slice a2t n2t c2t, .int .i64 x4t, .int .i64 x5t]
  go_upto_region 2 with (with_reducible refine st37 rfl (.tmp 2) (.tmp 10) rfl W.heap.size _ _ _ _ _ _ (by with_unfolding_all rfl) (by with_unfolding_all rfl) HA_1.out (six_dom _ _ _ _ _ _ _ _ _ _ _ _) ?_)
  simp only [Act.put]
  clear HA_1 HB_1 HZ_1 hb1
  generalize w1.setRow W.heap.size #[.bool x0t, .slice rat rnt rct, .slice a1t n1t c1t, .slice a2t n2t c2t, .int .i64 x4t, .int .i64 x5t] = w2 at hb2 HA_2 HB_2 HZ_2 ⊢
  obtain ⟨zA0, zA1, zA2, zA3, zA4, zA5⟩ := HA_2.out.cells
  obtain ⟨zB0, zB1, zB2, zB3, zB4, zB5⟩ := HB_2.out.cells
  obtain ⟨zZ0, zZ1, zZ2, zZ3, zZ4, zZ5⟩ := HZ_2.out.cells
  go_wp2_with fail
  refine (k85b w2 hb2).mono ?_
  rintro e w3 ⟨x0s, ras, rns, rcs, a1s, n1s, c1s, a2s, n2s, c2s, x4s, x5s, rfl, HDIb, HLTb, hb⟩
  have hb3 : Below W.heap.size W w3 := hb2.trans (hb.mono hb2.size)
  have HA_3 : Hid _ := HA_2.out.below hb
  have HB_3 : Hid _ := HB_2.out.below hb
  have HZ_3 : Hid _ := HZ_2.out.below hb
  clear zA0 zA1 zA2 zA3 zA4 zA5 zB0 zB1 zB2 zB3 zB4 zB5 zZ0 zZ1 zZ2 zZ3 zZ4 zZ5
  clear hb hb2 HA_2 HB_2 HZ_2
  have k43a := fun X (hX : Below W.heap.size W X) => refempty_any _ TA X (HDIa.out X hX)
  have k43b := fun X (hX : Below W.heap.size W X) => refempty_any _ TB X (HDIb.out X hX)
  have HSI : Hid (∀ X, Below W.heap.size W X → (Si X (.slice a1t n1t c1t) TA.lo ∧ Si X (.slice a2t n2t c2t) TA.up) ∧ Si X (.slice a1s n1s c1s) TB.lo ∧ Si X (.slice a2s n2s c2s) TB.up) := fun X hX => ⟨⟨(di_si (HDIa.out X hX)).1, (di_si (HDIa.out X hX)).2.1⟩, (di_si (HDIb.out X hX)).1, (di_si (HDIb.out X hX)).2.1⟩
  have k15 := fun X (hX : Below W.heap.size W X) => refjoin_any _ _ TA.lo TB.lo X (HSI.out X hX).1.1 (HSI.out X hX).2.1
  have k16 := fun X (hX : Below W.heap.size W X) => refmeet_any _ _ TA.up TB.up X (HSI.out X hX).1.2 (HSI.out X hX).2.2
  generalize joinL (tkS TA.lo) (tkS TB.lo) = LJ at *
  generalize meetL (tkS TA.up) (tkS TB.up) = LM at *
  have HM : Hid _ := hM
  clear hM k85a k85b HW0
  obtain ⟨ea, hea⟩ : ∃ b, emptyD TA = b := ⟨_, rfl⟩
  obtain ⟨eb, heb⟩ : ∃ b, emptyD TB = b := ⟨_, rfl⟩
  simp only [hea] at k43a
  simp only [heb] at k43b
  have HEM : Hid (emptyD TA = ea ∧ emptyD TB = eb) := ⟨hea, heb⟩
  clear hea heb
  have hb4 := below_setRow hb3 (show W.heap.size ≤ (W.heap.size + 1) by omega) #[.bool x0s, .slice ras rns rcs, .slice a1s n1s c1s, .slice a2s n2s c2s, .int .i64 x4s, .int .i64 x5s]
  have HA_4 : Hid _ := HA_3.out.other (show W.heap.size ≠ (W.heap.size + 1) by omega) #[.bool x0s, .slice ras rns rcs, .slice a1s n1s c1s, .slice a2s n2s c2s, .int .i64 x4s, .int .i64 x5s]
  have HB_4 : Hid _ := HB_3.out.set (.bool x0s) (.slice ras rns rcs) (.slice a1s n1s c1s) (.slice a2s n2s c2s) (.int .i64 x4s) (.int .i64 x5s)
  have HZ_4 : Hid _ := HZ_3.out.other (show (W.heap.size + 2) ≠ (W.heap.size + 1) by omega) #[.bool x0s, .slice ras rns rcs, .slice a1s n1s c1s, .slice a2s n2s c2s, .int .i64 x4s, .int .i64 x5s]
  go_upto_region 3 with (with_reducible refine st37 rfl (.tmp 3) (.tmp 12) rfl (W.heap.size + 1) _ _ _ _ _ _ (by with_unfolding_all rfl) (by with_unfolding_all rfl) HB_3.out (six_dom _ _ _ _ _ _ _ _ _ _ _ _) ?_)
  simp only [Act.put]
  clear HA_3 HB_3 HZ_3 hb3
  generalize w3.setRow (W.heap.size + 1) #[.bool x0s, .slice ras rns rcs, .slice a1s n1s c1s, .slice a2s n2s c2s, .int .i64 x4s, .int .i64 x5s] = w4 at hb4 HA_4 HB_4 HZ_4 ⊢
  obtain ⟨zA0, zA1, zA2, zA3, zA4, zA5⟩ := HA_4.out.cells
  obtain ⟨zB0, zB1, zB2, zB3, zB4, zB5⟩ := HB_4.out.cells
  obtain ⟨zZ0, zZ1, zZ2, zZ3, zZ4, zZ5⟩ := HZ_4.out.cells
  go_wp2_with fail
  refine (k43a w4 hb4).mono ?_
  rintro e w5 ⟨rfl, hb⟩
  have hb5 : Below W.heap.size W w5 := hb4.trans (hb.mono hb4.size)
  have HA_5 : Hid _ := HA_4.out.below hb
  have HB_5 : Hid _ := HB_4.out.below hb
  have HZ_5 : Hid _ := HZ_4.out.below hb
  clear zA0 zA1 zA2 zA3 zA4 zA5 zB0 zB1 zB2 zB3 zB4 zB5 zZ0 zZ1 zZ2 zZ3 zZ4 zZ5
  clear hb hb4 HA_4 HB_4 HZ_4
  obtain ⟨zA0, zA1, zA2, zA3, zA4, zA5⟩ := HA_5.out.cells
  obtain ⟨zB0, zB1, zB2, zB3, zB4, zB5⟩ := HB_5.out.cells
  obtain ⟨zZ0, zZ1, zZ2, zZ3, zZ4, zZ5⟩ := HZ_5.out.cells
  cases ea
  · go_wp2_with fail
    refine (k43b w5 hb5).mono ?_
    rintro e w6 ⟨rfl, hb⟩
    have hb6 : Below W.heap.size W w6 := hb5.trans (hb.mono hb5.size)
    have HA_6 : Hid _ := HA_5.out.below hb
    have HB_6 : Hid _ := HB_5.out.below hb
    have HZ_6 : Hid _ := HZ_5.out.below hb
    clear zA0 zA1 zA2 zA3 zA4 zA5 zB0 zB1 zB2 zB3 zB4 zB5 zZ0 zZ1 zZ2 zZ3 zZ4 zZ5
    clear hb hb5 HA_5 HB_5 HZ_5
    obtain ⟨zA0, zA1, zA2, zA3, zA4, zA5⟩ := HA_6.out.cells
    obtain ⟨zB0, zB1, zB2, zB3, zB4, zB5⟩ := HB_6.out.cells
    obtain ⟨zZ0, zZ1, zZ2, zZ3, zZ4, zZ5⟩ := HZ_6.out.cells
    cases eb
    · go_wp2_with fail
      refine (k15 w6 hb6).mono ?_
      rintro e w7 ⟨vj, rfl, hrj, hb⟩
      have hb7 : Below W.heap.size W w7 := hb6.trans (hb.mono hb6.size)
      have HA_7 : Hid _ := HA_6.out.below hb
      have HB_7 : Hid _ := HB_6.out.below hb
      have HZ_7 : Hid _ := HZ_6.out.below hb
      have hsj := own_si hrj
      obtain ⟨pj, cj, rfl⟩ := own_slice hrj
      have SJ_7 : Hid (Si w7 (.slice pj LJ.length cj) LJ) := hsj
      clear hrj hsj
      clear zA0 zA1 zA2 zA3 zA4 zA5 zB0 zB1 zB2 zB3 zB4 zB5 zZ0 zZ1 zZ2 zZ3 zZ4 zZ5
      clear hb hb6 HA_6 HB_6 HZ_6
      obtain ⟨zA0, zA1, zA2, zA3, zA4, zA5⟩ := HA_7.out.cells
      obtain ⟨zB0, zB1, zB2, zB3, zB4, zB5⟩ := HB_7.out.cells
      obtain ⟨zZ0, zZ1, zZ2, zZ3, zZ4, zZ5⟩ := HZ_7.out.cells
      go_wp2_with fail
      refine (k16 w7 hb7).mono ?_
      rintro e w8 ⟨vm, rfl, hrm, hb⟩
      have hb8 : Below W.heap.size W w8 := hb7.trans (hb.mono hb7.size)
      have HA_8 : Hid _ := HA_7.out.below hb
      have HB_8 : Hid _ := HB_7.out.below hb
      have HZ_8 : Hid _ := HZ_7.out.below hb
      have SJ_8 : Hid (Si w8 (.slice pj LJ.length cj) LJ) := SJ_7.out.below hb
      have hsm := own_si hrm
      obtain ⟨pm, cm, rfl⟩ := own_slice hrm
      have SM_8 : Hid (Si w8 (.slice pm LM.length cm) LM) := hsm
      clear hrm hsm
      clear zA0 zA1 zA2 zA3 zA4 zA5 zB0 zB1 zB2 zB3 zB4 zB5 zZ0 zZ1 zZ2 zZ3 zZ4 zZ5
      clear hb hb7 HA_7 HB_7 HZ_7 SJ_7
      obtain ⟨zA0, zA1, zA2, zA3, zA4, zA5⟩ := HA_8.out.cells
      obtain ⟨zB0, zB1, zB2, zB3, zB4, zB5⟩ := HB_8.out.cells
      obtain ⟨zZ0, zZ1, zZ2, zZ3, zZ4, zZ5⟩ := HZ_8.out.cells
      have HTM : Hid (tkS LM = LM) := tkS_yes HMS.out
      obtain ⟨nj, hnj⟩ : ∃ n, LJ.length = n := ⟨_, rfl⟩
      obtain ⟨nm, hnm⟩ : ∃ n, LM.length = n := ⟨_, rfl⟩
      rw [hnj] at SJ_8 ⊢
      rw [hnm] at SM_8 ⊢
      have HNN : Hid (LJ.length = nj ∧ LM.length = nm) := ⟨hnj, hnm⟩
      clear hnj hnm
      have k30 := set_below _ LJ _ SJ_8.out
      by_cases hJ : IsSet LJ
      · rw [setB_yes hJ] at k30
        have HJ : Hid (IsSet LJ) := hJ
        go_wp2_with fail
        refine (k30).mono ?_
        rintro e w9 ⟨rfl, hb⟩
        have hb9 : Below W.heap.size W w9 := hb8.trans (hb.mono hb8.size)
        have HA_9 : Hid _ := HA_8.out.below hb
        have HB_9 : Hid _ := HB_8.out.below hb
        have HZ_9 : Hid _ := HZ_8.out.below hb
        have SJ_9 : Hid (Si w9 (.slice pj nj cj) LJ) := SJ_8.out.below hb
        have SM_9 : Hid (Si w9 (.slice pm nm cm) LM) := SM_8.out.below hb
        clear zA0 zA1 zA2 zA3 zA4 zA5 zB0 zB1 zB2 zB3 zB4 zB5 zZ0 zZ1 zZ2 zZ3 zZ4 zZ5
        clear hb hb8 HA_8 HB_8 HZ_8 SJ_8 SM_8
        obtain ⟨zA0, zA1, zA2, zA3, zA4, zA5⟩ := HA_9.out.cells
        obtain ⟨zB0, zB1, zB2, zB3, zB4, zB5⟩ := HB_9.out.cells
        obtain ⟨zZ0, zZ1, zZ2, zZ3, zZ4, zZ5⟩ := HZ_9.out.cells
        have k28 := sub_below _ _ LJ LM _ SJ_9.out SM_9.out
        rw [tkS_yes hJ, HTM.out] at k28
        obtain ⟨sb, hsb⟩ : ∃ b, subB LJ LM = b := ⟨_, rfl⟩
        rw [hsb] at k28
        have HSB : Hid (subB LJ LM = sb) := hsb
        clear hsb hJ
        cases sb
        · go_wp2_with fail
          refine (k28).mono ?_
          rintro e w10 ⟨rfl, hb⟩
          have hb10 : Below W.heap.size W w10 := hb9.trans (hb.mono hb9.size)
          have HA_10 : Hid _ := HA_9.out.below hb
          have HB_10 : Hid _ := HB_9.out.below hb
          have HZ_10 : Hid _ := HZ_9.out.below hb
          have SJ_10 : Hid (Si w10 (.slice pj nj cj) LJ) := SJ_9.out.below hb
          have SM_10 : Hid (Si w10 (.slice pm nm cm) LM) := SM_9.out.below hb
          clear zA0 zA1 zA2 zA3 zA4 zA5 zB0 zB1 zB2 zB3 zB4 zB5 zZ0 zZ1 zZ2 zZ3 zZ4 zZ5
          clear hb hb9 HA_9 HB_9 HZ_9 SJ_9 SM_9
          obtain ⟨zA0, zA1, zA2, zA3, zA4, zA5⟩ := HA_10.out.cells
          obtain ⟨zB0, zB1, zB2, zB3, zB4, zB5⟩ := HB_10.out.cells
          obtain ⟨zZ0, zZ1, zZ2, zZ3, zZ4, zZ5⟩ := HZ_10.out.cells
          go_wp2_with fail
          refine (refnone_at w10).mono ?_
          rintro e w11 ⟨rfl, hb⟩
          have hb11 : Below W.heap.size W w11 := hb10.trans (hb.mono hb10.size)
          have HA_11 : Hid _ := HA_10.out.below hb
          have HB_11 : Hid _ := HB_10.out.below hb
          have HZ_11 : Hid _ := HZ_10.out.below hb
          have SJ_11 : Hid (Si w11 (.slice pj nj cj) LJ) := SJ_10.out.below hb
          have SM_11 : Hid (Si w11 (.slice pm nm cm) LM) := SM_10.out.below hb
          clear zA0 zA1 zA2 zA3 zA4 zA5 zB0 zB1 zB2 zB3 zB4 zB5 zZ0 zZ1 zZ2 zZ3 zZ4 zZ5
          clear hb hb10 HA_10 HB_10 HZ_10 SJ_10 SM_10
          go_wp2_with (with_reducible refine st37 rfl (.tmp 4) (.tmp 39) rfl (W.heap.size + 2) _ _ _ _ _ _ (by with_unfolding_all rfl) (by with_unfolding_all rfl) HZ_11.out (six_dom _ _ _ _ _ _ _ _ _ _ _ _) ?_)
          refine ⟨rfl, _, R6.res rfl _ (HZ_11.out.set (.bool true) (.slice none 0 0) (.slice none 0 0) (.slice none 0 0) (.int .i64 1) (.int .i64 0)) rfl, ⟨_, rfl, ?_, below_setRow hb11 (by omega) _⟩⟩
          rw [HM.out, HEM.out.1, HEM.out.2, setB_yes HJ.out, tkS_yes HJ.out, HTM.out, HSB.out]
          exact none_dv _ _
        · by_cases p1 : x4t < x4s
          · by_cases p2 : x5s < x5t
            · go_wp2_with fail
              refine (k28).mono ?_
              rintro e w10 ⟨rfl, hb⟩
              have hb10 : Below W.heap.size W w10 := hb9.trans (hb.mono hb9.size)
              have HA_10 : Hid _ := HA_9.out.below hb
              have HB_10 : Hid _ := HB_9.out.below hb
              have HZ_10 : Hid _ := HZ_9.out.below hb
              have SJ_10 : Hid (Si w10 (.slice pj nj cj) LJ) := SJ_9.out.below hb
              have SM_10 : Hid (Si w10 (.slice pm nm cm) LM) := SM_9.out.below hb
              clear zA0 zA1 zA2 zA3 zA4 zA5 zB0 zB1 zB2 zB3 zB4 zB5 zZ0 zZ1 zZ2 zZ3 zZ4 zZ5
              clear hb hb9 HA_9 HB_9 HZ_9 SJ_9 SM_9
              obtain ⟨zA0, zA1, zA2, zA3, zA4, zA5⟩ := HA_10.out.cells
              obtain ⟨zB0, zB1, zB2, zB3, zB4, zB5⟩ := HB_10.out.cells
              obtain ⟨zZ0, zZ1, zZ2, zZ3, zZ4, zZ5⟩ := HZ_10.out.cells
              have k76 := reftight_look (.slice pj nj cj) (.slice pm nm cm) LJ LM x4s x5s _ SJ_10.out SM_10.out HJ.out HMS.out ((subB_iff _ _).1 HSB.out)
              have HLM : Hid (max x4t x4s = x4s ∧ min x5t x5s = x5s) := by unfold Hid; omega
              go_wp2_with fail
              refine (k76).mono ?_
              rintro e w11 ⟨g0, q1, h1, j1, q2, h2, j2, g4, g5, rfl, HV, hb⟩
              have hb11 : Below W.heap.size W w11 := hb10.trans (hb.mono hb10.size)
              have HA_11 : Hid _ := HA_10.out.below hb
              have HB_11 : Hid _ := HB_10.out.below hb
              have HZ_11 : Hid _ := HZ_10.out.below hb
              have SJ_11 : Hid (Si w11 (.slice pj nj cj) LJ) := SJ_10.out.below hb
              have SM_11 : Hid (Si w11 (.slice pm nm cm) LM) := SM_10.out.below hb
              have hszz := hb10.size
              clear zA0 zA1 zA2 zA3 zA4 zA5 zB0 zB1 zB2 zB3 zB4 zB5 zZ0 zZ1 zZ2 zZ3 zZ4 zZ5
              clear hb hb10 HA_10 HB_10 HZ_10 SJ_10 SM_10
              go_wp2_with (with_reducible refine st37 rfl (.tmp 4) (.tmp 60) rfl (W.heap.size + 2) _ _ _ _ _ _ (by with_unfolding_all rfl) (by with_unfolding_all rfl) HZ_11.out (six_dom _ _ _ _ _ _ _ _ _ _ _ _) ?_)
              refine ⟨rfl, _, R6.res rfl _ (HZ_11.out.set (.bool g0) (.slice none 0 0) (.slice q1 h1 j1) (.slice q2 h2 j2) (.int .i64 g4) (.int .i64 g5)) rfl, ⟨_, rfl, ?_, below_setRow hb11 (by omega) _⟩⟩
              rw [HM.out, HEM.out.1, HEM.out.2, setB_yes HJ.out, tkS_yes HJ.out, HTM.out, HSB.out]
              simp only [Bool.or_self, Bool.not_true, Bool.false_eq_true, if_false]
              rw [HLTa.out.1, HLTa.out.2, HLTb.out.1, HLTb.out.2, HLM.out.1, HLM.out.2]
              exact (HV.out.base hszz).set HZ_11.out _
            · go_wp2_with fail
              refine (k28).mono ?_
              rintro e w10 ⟨rfl, hb⟩
              have hb10 : Below W.heap.size W w10 := hb9.trans (hb.mono hb9.size)
              have HA_10 : Hid _ := HA_9.out.below hb
              have HB_10 : Hid _ := HB_9.out.below hb
              have HZ_10 : Hid _ := HZ_9.out.below hb
              have SJ_10 : Hid (Si w10 (.slice pj nj cj) LJ) := SJ_9.out.below hb
              have SM_10 : Hid (Si w10 (.slice pm nm cm) LM) := SM_9.out.below hb
              clear zA0 zA1 zA2 zA3 zA4 zA5 zB0 zB1 zB2 zB3 zB4 zB5 zZ0 zZ1 zZ2 zZ3 zZ4 zZ5
              clear hb hb9 HA_9 HB_9 HZ_9 SJ_9 SM_9
              obtain ⟨zA0, zA1, zA2, zA3, zA4, zA5⟩ := HA_10.out.cells
              obtain ⟨zB0, zB1, zB2, zB3, zB4, zB5⟩ := HB_10.out.cells
              obtain ⟨zZ0, zZ1, zZ2, zZ3, zZ4, zZ5⟩ := HZ_10.out.cells
              have k76 := reftight_look (.slice pj nj cj) (.slice pm nm cm) LJ LM x4s x5t _ SJ_10.out SM_10.out HJ.out HMS.out ((subB_iff _ _).1 HSB.out)
              have HLM : Hid (max x4t x4s = x4s ∧ min x5t x5s = x5t) := by unfold Hid; omega
              go_wp2_with fail
              refine (k76).mono ?_
              rintro e w11 ⟨g0, q1, h1, j1, q2, h2, j2, g4, g5, rfl, HV, hb⟩
              have hb11 : Below W.heap.size W w11 := hb10.trans (hb.mono hb10.size)
              have HA_11 : Hid _ := HA_10.out.below hb
              have HB_11 : Hid _ := HB_10.out.below hb
              have HZ_11 : Hid _ := HZ_10.out.below hb
              have SJ_11 : Hid (Si w11 (.slice pj nj cj) LJ) := SJ_10.out.below hb
              have SM_11 : Hid (Si w11 (.slice pm nm cm) LM) := SM_10.out.below hb
              have hszz := hb10.size
              clear zA0 zA1 zA2 zA3 zA4 zA5 zB0 zB1 zB2 zB3 zB4 zB5 zZ0 zZ1 zZ2 zZ3 zZ4 zZ5
              clear hb hb10 HA_10 HB_10 HZ_10 SJ_10 SM_10
              go_wp2_with (with_reducible refine st37 rfl (.tmp 4) (.tmp 60) rfl (W.heap.size + 2) _ _ _ _ _ _ (by with_unfolding_all rfl) (by with_unfolding_all rfl) HZ_11.out (six_dom _ _ _ _ _ _ _ _ _ _ _ _) ?_)
              refine ⟨rfl, _, R6.res rfl _ (HZ_11.out.set (.bool g0) (.slice none 0 0) (.slice q1 h1 j1) (.slice q2 h2 j2) (.int .i64 g4) (.int .i64 g5)) rfl, ⟨_, rfl, ?_, below_setRow hb11 (by omega) _⟩⟩
              rw [HM.out, HEM.out.1, HEM.out.2, setB_yes HJ.out, tkS_yes HJ.out, HTM.out, HSB.out]
              simp only [Bool.or_self, Bool.not_true, Bool.false_eq_true, if_false]
              rw [HLTa.out.1, HLTa.out.2, HLTb.out.1, HLTb.out.2, HLM.out.1, HLM.out.2]
              exact (HV.out.base hszz).set HZ_11.out _
          · by_cases p2 : x5s < x5t
            · go_wp2_with fail
              refine (k28).mono ?_
              rintro e w10 ⟨rfl, hb⟩
              have hb10 : Below W.heap.size W w10 := hb9.trans (hb.mono hb9.size)
              have HA_10 : Hid _ := HA_9.out.below hb
              have HB_10 : Hid _ := HB_9.out.below hb
              have HZ_10 : Hid _ := HZ_9.out.below hb
              have SJ_10 : Hid (Si w10 (.slice pj nj cj) LJ) := SJ_9.out.below hb
              have SM_10 : Hid (Si w10 (.slice pm nm cm) LM) := SM_9.out.below hb
              clear zA0 zA1 zA2 zA3 zA4 zA5 zB0 zB1 zB2 zB3 zB4 zB5 zZ0 zZ1 zZ2 zZ3 zZ4 zZ5
              clear hb hb9 HA_9 HB_9 HZ_9 SJ_9 SM_9
              obtain ⟨zA0, zA1, zA2, zA3, zA4, zA5⟩ := HA_10.out.cells
              obtain ⟨zB0, zB1, zB2, zB3, zB4, zB5⟩ := HB_10.out.cells
              obtain ⟨zZ0, zZ1, zZ2, zZ3, zZ4, zZ5⟩ := HZ_10.out.cells
              have k76 := reftight_look (.slice pj nj cj) (.slice pm nm cm) LJ LM x4t x5s _ SJ_10.out SM_10.out HJ.out HMS.out ((subB_iff _ _).1 HSB.out)
              have HLM : Hid (max x4t x4s = x4t ∧ min x5t x5s = x5s) := by unfold Hid; omega
              go_wp2_with fail
              refine (k76).mono ?_
              rintro e w11 ⟨g0, q1, h1, j1, q2, h2, j2, g4, g5, rfl, HV, hb⟩
              have hb11 : Below W.heap.size W w11 := hb10.trans (hb.mono hb10.size)
              have HA_11 : Hid _ := HA_10.out.below hb
              have HB_11 : Hid _ := HB_10.out.below hb
              have HZ_11 : Hid _ := HZ_10.out.below hb
              have SJ_11 : Hid (Si w11 (.slice pj nj cj) LJ) := SJ_10.out.below hb
              have SM_11 : Hid (Si w11 (.slice pm nm cm) LM) := SM_10.out.below hb
              have hszz := hb10.size
              clear zA0 zA1 zA2 zA3 zA4 zA5 zB0 zB1 zB2 zB3 zB4 zB5 zZ0 zZ1 zZ2 zZ3 zZ4 zZ5
              clear hb hb10 HA_10 HB_10 HZ_10 SJ_10 SM_10
              go_wp2_with (with_reducible refine st37 rfl (.tmp 4) (.tmp 60) rfl (W.heap.size + 2) _ _ _ _ _ _ (by with_unfolding_all rfl) (by with_unfolding_all rfl) HZ_11.out (six_dom _ _ _ _ _ _ _ _ _ _ _ _) ?_)
              refine ⟨rfl, _, R6.res rfl _ (HZ_11.out.set (.bool g0) (.slice none 0 0) (.slice q1 h1 j1) (.slice q2 h2 j2) (.int .i64 g4) (.int .i64 g5)) rfl, ⟨_, rfl, ?_, below_setRow hb11 (by omega) _⟩⟩
              rw [HM.out, HEM.out.1, HEM.out.2, setB_yes HJ.out, tkS_yes HJ.out, HTM.out, HSB.out]
              simp only [Bool.or_self, Bool.not_true, Bool.false_eq_true, if_false]
              rw [HLTa.out.1, HLTa.out.2, HLTb.out.1, HLTb.out.2, HLM.out.1, HLM.out.2]
              exact (HV.out.base hszz).set HZ_11.out _
            · go_wp2_with fail
              refine (k28).mono ?_
              rintro e w10 ⟨rfl, hb⟩
              have hb10 : Below W.heap.size W w10 := hb9.trans (hb.mono hb9.size)
              have HA_10 : Hid _ := HA_9.out.below hb
              have HB_10 : Hid _ := HB_9.out.below hb
              have HZ_10 : Hid _ := HZ_9.out.below hb
              have SJ_10 : Hid (Si w10 (.slice pj nj cj) LJ) := SJ_9.out.below hb
              have SM_10 : Hid (Si w10 (.slice pm nm cm) LM) := SM_9.out.below hb
              clear zA0 zA1 zA2 zA3 zA4 zA5 zB0 zB1 zB2 zB3 zB4 zB5 zZ0 zZ1 zZ2 zZ3 zZ4 zZ5
              clear hb hb9 HA_9 HB_9 HZ_9 SJ_9 SM_9
              obtain ⟨zA0, zA1, zA2, zA3, zA4, zA5⟩ := HA_10.out.cells
              obtain ⟨zB0, zB1, zB2, zB3, zB4, zB5⟩ := HB_10.out.cells
              obtain ⟨zZ0, zZ1, zZ2, zZ3, zZ4, zZ5⟩ := HZ_10.out.cells
              have k76 := reftight_look (.slice pj nj cj) (.slice pm nm cm) LJ LM x4t x5t _ SJ_10.out SM_10.out HJ.out HMS.out ((subB_iff _ _).1 HSB.out)
              have HLM : Hid (max x4t x4s = x4t ∧ min x5t x5s = x5t) := by unfold Hid; omega
              go_wp2_with fail
              refine (k76).mono ?_
              rintro e w11 ⟨g0, q1, h1, j1, q2, h2, j2, g4, g5, rfl, HV, hb⟩
              have hb11 : Below W.heap.size W w11 := hb10.trans (hb.mono hb10.size)
              have HA_11 : Hid _ := HA_10.out.below hb
              have HB_11 : Hid _ := HB_10.out.below hb
              have HZ_11 : Hid _ := HZ_10.out.below hb
              have SJ_11 : Hid (Si w11 (.slice pj nj cj) LJ) := SJ_10.out.below hb
              have SM_11 : Hid (Si w11 (.slice pm nm cm) LM) := SM_10.out.below hb
              have hszz := hb10.size
              clear zA0 zA1 zA2 zA3 zA4 zA5 zB0 zB1 zB2 zB3 zB4 zB5 zZ0 zZ1 zZ2 zZ3 zZ4 zZ5
              clear hb hb10 HA_10 HB_10 HZ_10 SJ_10 SM_10
              go_wp2_with (with_reducible refine st37 rfl (.tmp 4) (.tmp 60) rfl (W.heap.size + 2) _ _ _ _ _ _ (by with_unfolding_all rfl) (by with_unfolding_all rfl) HZ_11.out (six_dom _ _ _ _ _ _ _ _ _ _ _ _) ?_)
              refine ⟨rfl, _, R6.res rfl _ (HZ_11.out.set (.bool g0) (.slice none 0 0) (.slice q1 h1 j1) (.slice q2 h2 j2) (.int .i64 g4) (.int .i64 g5)) rfl, ⟨_, rfl, ?_, below_setRow hb11 (by omega) _⟩⟩
              rw [HM.out, HEM.out.1, HEM.out.2, setB_yes HJ.out, tkS_yes HJ.out, HTM.out, HSB.out]
              simp only [Bool.or_self, Bool.not_true, Bool.false_eq_true, if_false]
              rw [HLTa.out.1, HLTa.out.2, HLTb.out.1, HLTb.out.2, HLM.out.1, HLM.out.2]
              exact (HV.out.base hszz).set HZ_11.out _
      · rw [setB_no hJ] at k30
        have HJ : Hid (¬ IsSet LJ) := hJ
        clear hJ
        go_wp2_with fail
        refine (k30).mono ?_
        rintro e w9 ⟨rfl, hb⟩
        have hb9 : Below W.heap.size W w9 := hb8.trans (hb.mono hb8.size)
        have HA_9 : Hid _ := HA_8.out.below hb
        have HB_9 : Hid _ := HB_8.out.below hb
        have HZ_9 : Hid _ := HZ_8.out.below hb
        have SJ_9 : Hid (Si w9 (.slice pj nj cj) LJ) := SJ_8.out.below hb
        have SM_9 : Hid (Si w9 (.slice pm nm cm) LM) := SM_8.out.below hb
        clear zA0 zA1 zA2 zA3 zA4 zA5 zB0 zB1 zB2 zB3 zB4 zB5 zZ0 zZ1 zZ2 zZ3 zZ4 zZ5
        clear hb hb8 HA_8 HB_8 HZ_8 SJ_8 SM_8
        obtain ⟨zA0, zA1, zA2, zA3, zA4, zA5⟩ := HA_9.out.cells
        obtain ⟨zB0, zB1, zB2, zB3, zB4, zB5⟩ := HB_9.out.cells
        obtain ⟨zZ0, zZ1, zZ2, zZ3, zZ4, zZ5⟩ := HZ_9.out.cells
        go_wp2_with fail
        refine (refnone_at w9).mono ?_
        rintro e w10 ⟨rfl, hb⟩
        have hb10 : Below W.heap.size W w10 := hb9.trans (hb.mono hb9.size)
        have HA_10 : Hid _ := HA_9.out.below hb
        have HB_10 : Hid _ := HB_9.out.below hb
        have HZ_10 : Hid _ := HZ_9.out.below hb
        have SJ_10 : Hid (Si w10 (.slice pj nj cj) LJ) := SJ_9.out.below hb
        have SM_10 : Hid (Si w10 (.slice pm nm cm) LM) := SM_9.out.below hb
        clear zA0 zA1 zA2 zA3 zA4 zA5 zB0 zB1 zB2 zB3 zB4 zB5 zZ0 zZ1 zZ2 zZ3 zZ4 zZ5
        clear hb hb9 HA_9 HB_9 HZ_9 SJ_9 SM_9
        go_wp2_with (with_reducible refine st37 rfl (.tmp 4) (.tmp 39) rfl (W.heap.size + 2) _ _ _ _ _ _ (by with_unfolding_all rfl) (by with_unfolding_all rfl) HZ_10.out (six_dom _ _ _ _ _ _ _ _ _ _ _ _) ?_)
        refine ⟨rfl, _, R6.res rfl _ (HZ_10.out.set (.bool true) (.slice none 0 0) (.slice none 0 0) (.slice none 0 0) (.int .i64 1) (.int .i64 0)) rfl, ⟨_, rfl, ?_, below_setRow hb10 (by omega) _⟩⟩
        rw [HM.out, HEM.out.1, HEM.out.2, setB_no HJ.out]
        exact none_dv _ _
    · go_wp2_with fail
      refine (refnone_at w6).mono ?_
      rintro e w7 ⟨rfl, hb⟩
      have hb7 : Below W.heap.size W w7 := hb6.trans (hb.mono hb6.size)
      have HA_7 : Hid _ := HA_6.out.below hb
      have HB_7 : Hid _ := HB_6.out.below hb
      have HZ_7 : Hid _ := HZ_6.out.below hb
      clear zA0 zA1 zA2 zA3 zA4 zA5 zB0 zB1 zB2 zB3 zB4 zB5 zZ0 zZ1 zZ2 zZ3 zZ4 zZ5
      clear hb hb6 HA_6 HB_6 HZ_6
      go_wp2_with (with_reducible refine st37 rfl (.tmp 4) (.tmp 19) rfl (W.heap.size + 2) _ _ _ _ _ _ (by with_unfolding_all rfl) (by with_unfolding_all rfl) HZ_7.out (six_dom _ _ _ _ _ _ _ _ _ _ _ _) ?_)
      refine ⟨rfl, _, R6.res rfl _ (HZ_7.out.set (.bool true) (.slice none 0 0) (.slice none 0 0) (.slice none 0 0) (.int .i64 1) (.int .i64 0)) rfl, ⟨_, rfl, ?_, below_setRow hb7 (by omega) _⟩⟩
      rw [HM.out, HEM.out.1, HEM.out.2]
      exact none_dv _ _
  · go_wp2_with fail
    refine (refnone_at w5).mono ?_
    rintro e w6 ⟨rfl, hb⟩
    have hb6 : Below W.heap.size W w6 := hb5.trans (hb.mono hb5.size)
    have HA_6 : Hid _ := HA_5.out.below hb
    have HB_6 : Hid _ := HB_5.out.below hb
    have HZ_6 : Hid _ := HZ_5.out.below hb
    clear zA0 zA1 zA2 zA3 zA4 zA5 zB0 zB1 zB2 zB3 zB4 zB5 zZ0 zZ1 zZ2 zZ3 zZ4 zZ5
    clear hb hb5 HA_5 HB_5 HZ_5
    go_wp2_with (with_reducible refine st37 rfl (.tmp 4) (.tmp 19) rfl (W.heap.size + 2) _ _ _ _ _ _ (by with_unfolding_all rfl) (by with_unfolding_all rfl) HZ_6.out (six_dom _ _ _ _ _ _ _ _ _ _ _ _) ?_)
    refine ⟨rfl, _, R6.res rfl _ (HZ_6.out.set (.bool true) (.slice none 0 0) (.slice none 0 0) (.slice none 0 0) (.int .i64 1) (.int .i64 0)) rfl, ⟨_, rfl, ?_, below_setRow hb6 (by omega) _⟩⟩
    rw [HM.out, HEM.out.1]
    exact none_dv _ _
end Go.Proofs.YthkliicmoandmaaGreatDoor.St

