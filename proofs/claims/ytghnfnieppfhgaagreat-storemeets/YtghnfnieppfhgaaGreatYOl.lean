/-
  What is proved here: what sets.Both leaves of any two domains.
-/
import Derived.Test.YtghnfnieppfhgaaGreatAa
import Derived.Test.YtghnfnieppfhgaaGreatYOk
namespace Go.Proofs.YtghnfnieppfhgaaGreat.St
open Go.RowKit Go.Shelf
set_option linter.unusedVariables false
set_option linter.unusedSimpArgs false

abbrev oYOl0 : Oper := ⟨some 28, .fieldAddr 37 (.tmp 2) 2, 0, "domain.go:111", #[], none⟩
abbrev oYOl1 : Oper := ⟨some 29, .load 35 (.tmp 28), 35, "domain.go:111", #[⟨0, .data⟩], none⟩
abbrev oYOl2 : Oper := ⟨some 30, .fieldAddr 37 (.tmp 3) 2, 0, "domain.go:111", #[], none⟩
abbrev oYOl3 : Oper := ⟨some 31, .load 35 (.tmp 30), 35, "domain.go:111", #[⟨2, .data⟩], none⟩
abbrev oYOl4 : Oper := ⟨some 33, .move (.tmp 5), 35, "domain.go:111", #[], none⟩
abbrev oYOl5 : Oper := ⟨some 34, .fieldAddr 37 (.tmp 2) 4, 0, "domain.go:111", #[], none⟩
abbrev oYOl6 : Oper := ⟨some 35, .load 3 (.tmp 34), 3, "domain.go:111", #[⟨6, .data⟩], none⟩
abbrev oYOl7 : Oper := ⟨some 36, .fieldAddr 37 (.tmp 3) 4, 0, "domain.go:111", #[], none⟩
abbrev oYOl8 : Oper := ⟨some 37, .load 3 (.tmp 36), 3, "domain.go:111", #[⟨8, .data⟩], none⟩
abbrev oYOl9 : Oper := ⟨some 38, .call { callee := .builtin .max, args := #[.tmp 35, .tmp 37], argTypes := #[3, 3] }, 3, "domain.go:111", #[⟨7, .data⟩, ⟨9, .data⟩], none⟩
abbrev oYOl10 : Oper := ⟨some 39, .fieldAddr 37 (.tmp 2) 5, 0, "domain.go:111", #[], none⟩
abbrev oYOl11 : Oper := ⟨some 40, .load 3 (.tmp 39), 3, "domain.go:111", #[⟨11, .data⟩], none⟩
abbrev oYOl12 : Oper := ⟨some 41, .fieldAddr 37 (.tmp 3) 5, 0, "domain.go:111", #[], none⟩
abbrev oYOl13 : Oper := ⟨some 42, .load 3 (.tmp 41), 3, "domain.go:111", #[⟨13, .data⟩], none⟩
abbrev oYOl14 : Oper := ⟨some 43, .call { callee := .builtin .min, args := #[.tmp 40, .tmp 42], argTypes := #[3, 3] }, 3, "domain.go:111", #[⟨12, .data⟩, ⟨14, .data⟩], none⟩
set_option maxRecDepth 100000 in
set_option maxHeartbeats 4000000 in
theorem both_dom (v u : Value) (d o : SD) (W : World) (h : Di W v d) (ho : Di W u o) :
    Calls Tryz.prog 99 #[v, u] W fun e w' => ∃ v', e = .returned v' ∧ Dv W.heap.size w' v' (bothD d o) ∧ Below W.heap.size W w' := by
  have hM : bothD d o = if !subB (takenD d).lo (meetL (takenD d).up (takenD o).up) || !subB (takenD o).lo (meetL (takenD d).up (takenD o).up) then noneD else tightD (joinL (takenD d).lo (takenD o).lo) (meetL (takenD d).up (takenD o).up) (max (takenD d).least (takenD o).least) (min (takenD d).most (takenD o).most) := rfl
  have HM : Hid _ := hM
  generalize bothD d o = MD at hM HM ⊢
  clear hM
  have HTK : Hid (tkS (takenD d).lo = (takenD d).lo ∧ tkS (takenD d).up = (takenD d).up ∧ tkS (takenD o).lo = (takenD o).lo ∧ tkS (takenD o).up = (takenD o).up) := ⟨tkS_yes (taken_right d).2.2.1, tkS_yes (taken_right d).2.2.2.1, tkS_yes (taken_right o).2.2.1, tkS_yes (taken_right o).2.2.2.1⟩
  have HTM : Hid (tkS (meetL (takenD d).up (takenD o).up) = meetL (takenD d).up (takenD o).up) := tkS_yes (meet_set (taken_right d).2.2.2.1 _)
  have k77a := fun X (hX : Below W.heap.size W X) => taken_look v d X (h.below hX)
  have k77b := fun X (hX : Below W.heap.size W X) => taken_look u o X (ho.below hX)
  obtain ⟨x0a, raa, rna, rca, a1a, n1a, c1a, a2a, n2a, c2a, x4a, x5a, rfl, HEa, _, _⟩ := h.look
  obtain ⟨x0b, rab, rnb, rcb, a1b, n1b, c1b, a2b, n2b, c2b, x4b, x5b, rfl, HEb, _, _⟩ := ho.look
  obtain ⟨W0, hW0⟩ : ∃ X, ((W.alloc (Obj.cells #[.bool x0a, .slice raa rna rca, .slice a1a n1a c1a, .slice a2a n2a c2a, .int .i64 x4a, .int .i64 x5a] 37)).alloc (Obj.cells #[.bool x0b, .slice rab rnb rcb, .slice a1b n1b c1b, .slice a2b n2b c2b, .int .i64 x4b, .int .i64 x5b] 37)).alloc (Obj.cells #[.bool false, .slice none 0 0, .slice none 0 0, .slice none 0 0, .int .i64 0, .int .i64 0] 37) = X := ⟨_, rfl⟩
  have HW0 : Hid _ := hW0
  have hb0 : Below W.heap.size W W0 := by rw [← hW0]; exact ((((Below.refl _ W).alloc (Nat.le_refl _) _).alloc (by simp) _).alloc (by simp <;> omega) _)
  have HA0 : Hid (R6 W0 W.heap.size (.bool x0a) (.slice raa rna rca) (.slice a1a n1a c1a) (.slice a2a n2a c2a) (.int .i64 x4a) (.int .i64 x5a)) := by rw [← hW0]; exact ((R6.new _ _ _ _ _ _ _).alloc _).alloc _
  have HB0 : Hid (R6 W0 (W.heap.size + 1) (.bool x0b) (.slice rab rnb rcb) (.slice a1b n1b c1b) (.slice a2b n2b c2b) (.int .i64 x4b) (.int .i64 x5b)) := by rw [← hW0]; exact (R6.new1 _ _ _ _ _ _ _ _).alloc _
  have HZ0 : Hid (R6 W0 (W.heap.size + 2) (.bool false) (.slice none 0 0) (.slice none 0 0) (.slice none 0 0) (.int .i64 0) (.int .i64 0)) := by rw [← hW0]; exact R6.new2 _ _ _ _ _ _ _ _ _
  clear hW0 h ho HEa HEb
  go_enter Tryz.func99, Tryz.ntmps99
  go_upto_region 1 with (fail)
  rw [HW0.out]
  refine wp_region_held_drew (S := fun _ => True) (by kernel_rfl) trivial (fun hHeld => ?_)
  have hbd : Below W.heap.size W W0.drew := Below.drew hb0
  have HAd : Hid (R6 W0.drew W.heap.size (.bool x0a) (.slice raa rna rca) (.slice a1a n1a c1a) (.slice a2a n2a c2a) (.int .i64 x4a) (.int .i64 x5a)) := ⟨HA0.out.h⟩
  have HBd : Hid (R6 W0.drew (W.heap.size + 1) (.bool x0b) (.slice rab rnb rcb) (.slice a1b n1b c1b) (.slice a2b n2b c2b) (.int .i64 x4b) (.int .i64 x5b)) := ⟨HB0.out.h⟩
  have HZd : Hid (R6 W0.drew (W.heap.size + 2) (.bool false) (.slice none 0 0) (.slice none 0 0) (.slice none 0 0) (.int .i64 0) (.int .i64 0)) := ⟨HZ0.out.h⟩
  clear hb0 HA0 HB0 HZ0 HW0
  generalize W0.drew = w0 at *
  clear W0
  refine wpAnyH_ready (rs := [0, 2]) (by kernel_rfl) (by simp) ?_
  refine AllReadyH.cons rfl (fun K hK => ?_) ?_
  · obtain ⟨z0, z1, z2, z3, z4, z5⟩ := HAd.out.cells
    go_simp
    clear z0 z1 z2 z3 z4 z5
    refine hK.out _ _ trivial (fun _ => ?_)
    clear hK K
    try simp only [Act.put, zS, z0, z1]
    refine wpAnyH_ready (rs := [1, 2]) (by kernel_rfl) (by simp) ?_
    refine AllReadyH.cons rfl (fun K hK => ?_) ?_
    · go_simp
      refine (k77a _ hbd).mono ?_
      rintro e w1 ⟨y0a, p1a, m1a, k1a, p2a, m2a, k2a, y4a, y5a, rfl, HDa, HLa, hs1a, hs2a, hb⟩
      have hb1 : Below W.heap.size W w1 := hbd.trans (hb.mono hbd.size)
      have HA1 := hid (HAd.out.below hb)
      have HB1 := hid (HBd.out.below hb)
      have HZ1 := hid (HZd.out.below hb)
      clear hb hbd HAd HBd HZd
      refine hK.out _ _ trivial (fun _ => ?_)
      clear hK K
      try simp only [Act.put, zS, z0, z1]
      refine wpAnyH_ready (rs := [2]) (by kernel_rfl) (by simp) ?_
      refine AllReadyH.cons rfl (fun K hK => ?_) ?_
      · obtain ⟨z0, z1, z2, z3, z4, z5⟩ := HB1.out.cells
        go_simp
        clear z0 z1 z2 z3 z4 z5
        refine hK.out _ _ trivial (fun _ => ?_)
        clear hK K
        try simp only [Act.put, zS, z0, z1]
        refine wpAnyH_ready (rs := [3]) (by kernel_rfl) (by simp) ?_
        refine AllReadyH.cons rfl (fun K hK => ?_) ?_
        · go_simp
          refine (k77b _ hb1).mono ?_
          rintro e w2 ⟨y0b, p1b, m1b, k1b, p2b, m2b, k2b, y4b, y5b, rfl, HDb, HLb, hs1b, hs2b, hb⟩
          have hb2 : Below W.heap.size W w2 := hb1.trans (hb.mono hb1.size)
          have HA2 := hid (HA1.out.below hb)
          have HB2 := hid (HB1.out.below hb)
          have HZ2 := hid (HZ1.out.below hb)
          have HDa2 : Hid (Dv 0 w2 (.agg #[.bool y0a, .slice none 0 0, .slice p1a m1a k1a, .slice p2a m2a k2a, .int .i64 y4a, .int .i64 y5a]) (takenD d)) := (HDa.out.base (Nat.zero_le _)).below hb
          have HDb2 : Hid (Dv 0 w2 (.agg #[.bool y0b, .slice none 0 0, .slice p1b m1b k1b, .slice p2b m2b k2b, .int .i64 y4b, .int .i64 y5b]) (takenD o)) := HDb.out.base (Nat.zero_le _)
          clear hb hb1 HA1 HB1 HZ1
          refine hK.out _ _ trivial (fun _ => ?_)
          clear hK K
          try simp only [Act.put, zS, z0, z1]
          refine wpAnyH_ready (rs := [4]) (by kernel_rfl) (by simp) ?_
          refine AllReadyH.cons rfl (fun K hK => ?_) ?_
          · refine step37 rfl (.tmp 2) (.tmp 7) rfl W.heap.size (.bool y0a) (.slice none 0 0) (.slice p1a m1a k1a) (.slice p2a m2a k2a) (.int .i64 y4a) (.int .i64 y5a) (by with_unfolding_all rfl) (by with_unfolding_all rfl) HA2.out (six_dom _ _ _ _ _ _ _ _ _ _ _ _) ?_
            have HA3 : Hid _ := HA2.out.set (.bool y0a) (.slice none 0 0) (.slice p1a m1a k1a) (.slice p2a m2a k2a) (.int .i64 y4a) (.int .i64 y5a)
            have HB3 : Hid _ := HB2.out.other (show (W.heap.size + 1) ≠ W.heap.size by omega) #[.bool y0a, .slice none 0 0, .slice p1a m1a k1a, .slice p2a m2a k2a, .int .i64 y4a, .int .i64 y5a]
            have HDa3 := hid (HDa2.out.set HA2.out #[.bool y0a, .slice none 0 0, .slice p1a m1a k1a, .slice p2a m2a k2a, .int .i64 y4a, .int .i64 y5a])
            have HDb3 := hid (HDb2.out.set HA2.out #[.bool y0a, .slice none 0 0, .slice p1a m1a k1a, .slice p2a m2a k2a, .int .i64 y4a, .int .i64 y5a])
            have hb3 := below_setRow hb2 (Nat.le_refl W.heap.size) #[.bool y0a, .slice none 0 0, .slice p1a m1a k1a, .slice p2a m2a k2a, .int .i64 y4a, .int .i64 y5a]
            have HZ3 : Hid _ := HZ2.out.other (show (W.heap.size + 2) ≠ W.heap.size by omega) #[.bool y0a, .slice none 0 0, .slice p1a m1a k1a, .slice p2a m2a k2a, .int .i64 y4a, .int .i64 y5a]
            clear HA2 HB2 HZ2 hb2 HDa2 HDb2
            generalize w2.setRow W.heap.size #[.bool y0a, .slice none 0 0, .slice p1a m1a k1a, .slice p2a m2a k2a, .int .i64 y4a, .int .i64 y5a] = w3 at HA3 HB3 HDa3 HDb3 hb3 HZ3 ⊢
            refine hK.out _ _ trivial (fun _ => ?_)
            clear hK K
            try simp only [Act.put, zS, z0, z1]
            refine wpAnyH_ready (rs := [5]) (by kernel_rfl) (by simp) ?_
            refine AllReadyH.cons rfl (fun K hK => ?_) ?_
            · refine step37 rfl (.tmp 3) (.tmp 9) rfl (W.heap.size + 1) (.bool y0b) (.slice none 0 0) (.slice p1b m1b k1b) (.slice p2b m2b k2b) (.int .i64 y4b) (.int .i64 y5b) (by with_unfolding_all rfl) (by with_unfolding_all rfl) HB3.out (six_dom _ _ _ _ _ _ _ _ _ _ _ _) ?_
              have HB4 : Hid _ := HB3.out.set (.bool y0b) (.slice none 0 0) (.slice p1b m1b k1b) (.slice p2b m2b k2b) (.int .i64 y4b) (.int .i64 y5b)
              have HA4 : Hid _ := HA3.out.other (show W.heap.size ≠ (W.heap.size + 1) by omega) #[.bool y0b, .slice none 0 0, .slice p1b m1b k1b, .slice p2b m2b k2b, .int .i64 y4b, .int .i64 y5b]
              have HDa4 := hid (HDa3.out.set HB3.out #[.bool y0b, .slice none 0 0, .slice p1b m1b k1b, .slice p2b m2b k2b, .int .i64 y4b, .int .i64 y5b])
              have HDb4 := hid (HDb3.out.set HB3.out #[.bool y0b, .slice none 0 0, .slice p1b m1b k1b, .slice p2b m2b k2b, .int .i64 y4b, .int .i64 y5b])
              have hb4 := below_setRow hb3 (show W.heap.size ≤ (W.heap.size + 1) by omega) #[.bool y0b, .slice none 0 0, .slice p1b m1b k1b, .slice p2b m2b k2b, .int .i64 y4b, .int .i64 y5b]
              have HZ4 : Hid _ := HZ3.out.other (show (W.heap.size + 2) ≠ (W.heap.size + 1) by omega) #[.bool y0b, .slice none 0 0, .slice p1b m1b k1b, .slice p2b m2b k2b, .int .i64 y4b, .int .i64 y5b]
              clear HA3 HB3 hb3 HDa3 HDb3 HZ3
              generalize w3.setRow (W.heap.size + 1) #[.bool y0b, .slice none 0 0, .slice p1b m1b k1b, .slice p2b m2b k2b, .int .i64 y4b, .int .i64 y5b] = w4 at HA4 HB4 HDa4 HDb4 hb4 HZ4 ⊢
              refine hK.out _ _ trivial (fun _ => ?_)
              clear hK K
              try simp only [Act.put, zS, z0, z1]
              refine wpAnyH_done (by kernel_rfl) ?_ _
              have HA_4 : Hid _ := HA4.out
              have HB_4 : Hid _ := HB4.out
              have HZ_4 : Hid _ := HZ4.out
              clear HA4 HB4 HZ4 hHeld
              have S1_4 : Hid (Si w4 (.slice p1a m1a k1a) (takenD d).lo) := (dv_si HDa4.out).1
              have S2_4 : Hid (Si w4 (.slice p2a m2a k2a) (takenD d).up) := (dv_si HDa4.out).2
              have S3_4 : Hid (Si w4 (.slice p1b m1b k1b) (takenD o).lo) := (dv_si HDb4.out).1
              have S4_4 : Hid (Si w4 (.slice p2b m2b k2b) (takenD o).up) := (dv_si HDb4.out).2
              clear HDa4 HDb4
              obtain ⟨zA0, zA1, zA2, zA3, zA4, zA5⟩ := HA_4.out.cells
              obtain ⟨zB0, zB1, zB2, zB3, zB4, zB5⟩ := HB_4.out.cells
              obtain ⟨zZ0, zZ1, zZ2, zZ3, zZ4, zZ5⟩ := HZ_4.out.cells
              go_wp2_with fail
              refine (meet_any _ _ _ _ _ S2_4.out S4_4.out).mono ?_
              rintro e w5 ⟨vm, rfl, hfm, hb⟩
              have hb5 : Below W.heap.size W w5 := hb4.trans (hb.mono hb4.size)
              have HA_5 : Hid _ := HA_4.out.below hb
              have HB_5 : Hid _ := HB_4.out.below hb
              have HZ_5 : Hid _ := HZ_4.out.below hb
              have S1_5 := hid (S1_4.out.below hb)
              have S2_5 := hid (S2_4.out.below hb)
              have S3_5 := hid (S3_4.out.below hb)
              have S4_5 := hid (S4_4.out.below hb)
              obtain ⟨pm, nm, cm, rfl, HSM, HNM⟩ := si_look hfm.si
              rw [HTK.out.2.1, HTK.out.2.2.2] at HSM HNM
              have SM_5 : Hid (Si w5 (.slice pm nm cm) (meetL (takenD d).up (takenD o).up)) := HSM
              clear hfm HSM
              clear zA0 zA1 zA2 zA3 zA4 zA5 zB0 zB1 zB2 zB3 zB4 zB5 zZ0 zZ1 zZ2 zZ3 zZ4 zZ5
              clear hb hb4 HA_4 HB_4 HZ_4 S1_4 S2_4 S3_4 S4_4
              obtain ⟨zA0, zA1, zA2, zA3, zA4, zA5⟩ := HA_5.out.cells
              obtain ⟨zB0, zB1, zB2, zB3, zB4, zB5⟩ := HB_5.out.cells
              obtain ⟨zZ0, zZ1, zZ2, zZ3, zZ4, zZ5⟩ := HZ_5.out.cells
              cases hc1 : subB (tkS (takenD d).lo) (tkS (meetL (takenD d).up (takenD o).up))
              · have HC1 : Hid (_ = _) := hc1
                clear hc1
                go_wp2_with fail
                refine (eqc HC1.out (sub_any _ _ _ _ _ S1_5.out SM_5.out)).mono ?_
                rintro e w6 ⟨rfl, hb⟩
                have hb6 : Below W.heap.size W w6 := hb5.trans (hb.mono hb5.size)
                have HA_6 : Hid _ := HA_5.out.below hb
                have HB_6 : Hid _ := HB_5.out.below hb
                have HZ_6 : Hid _ := HZ_5.out.below hb
                have S1_6 := hid (S1_5.out.below hb)
                have S2_6 := hid (S2_5.out.below hb)
                have S3_6 := hid (S3_5.out.below hb)
                have S4_6 := hid (S4_5.out.below hb)
                have SM_6 := hid (SM_5.out.below hb)
                clear zA0 zA1 zA2 zA3 zA4 zA5 zB0 zB1 zB2 zB3 zB4 zB5 zZ0 zZ1 zZ2 zZ3 zZ4 zZ5
                clear hb hb5 HA_5 HB_5 HZ_5 S1_5 S2_5 S3_5 S4_5 SM_5
                obtain ⟨zA0, zA1, zA2, zA3, zA4, zA5⟩ := HA_6.out.cells
                obtain ⟨zB0, zB1, zB2, zB3, zB4, zB5⟩ := HB_6.out.cells
                obtain ⟨zZ0, zZ1, zZ2, zZ3, zZ4, zZ5⟩ := HZ_6.out.cells
                go_wp2_with fail
                refine (none_at w6).mono ?_
                rintro e w7 ⟨rfl, hb⟩
                have hb7 : Below W.heap.size W w7 := hb6.trans (hb.mono hb6.size)
                have HA_7 : Hid _ := HA_6.out.below hb
                have HB_7 : Hid _ := HB_6.out.below hb
                have HZ_7 : Hid _ := HZ_6.out.below hb
                have S1_7 := hid (S1_6.out.below hb)
                have S2_7 := hid (S2_6.out.below hb)
                have S3_7 := hid (S3_6.out.below hb)
                have S4_7 := hid (S4_6.out.below hb)
                have SM_7 := hid (SM_6.out.below hb)
                clear zA0 zA1 zA2 zA3 zA4 zA5 zB0 zB1 zB2 zB3 zB4 zB5 zZ0 zZ1 zZ2 zZ3 zZ4 zZ5
                clear hb hb6 HA_6 HB_6 HZ_6 S1_6 S2_6 S3_6 S4_6 SM_6
                go_wp2_with (with_reducible refine st37 rfl (.tmp 4) (.tmp 27) rfl (W.heap.size + 2) _ _ _ _ _ _ (by with_unfolding_all rfl) (by with_unfolding_all rfl) HZ_7.out (six_dom _ _ _ _ _ _ _ _ _ _ _ _) ?_)
                refine ⟨rfl, _, R6.res rfl _ (HZ_7.out.set (.bool true) (.slice none 0 0) (.slice none 0 0) (.slice none 0 0) (.int .i64 1) (.int .i64 0)) rfl, ⟨_, rfl, ?_, below_setRow hb7 (by omega) _⟩⟩
                rw [HM.out]
                have := HC1.out
                rw [HTK.out.1, HTM.out] at this
                rw [this]
                exact none_dv _ _
              · have HC1 : Hid (_ = _) := hc1
                clear hc1
                cases hc2 : subB (tkS (takenD o).lo) (tkS (meetL (takenD d).up (takenD o).up))
                · have HC2 : Hid (_ = _) := hc2
                  clear hc2
                  go_wp2_with fail
                  refine (eqc HC1.out (sub_any _ _ _ _ _ S1_5.out SM_5.out)).mono ?_
                  rintro e w6 ⟨rfl, hb⟩
                  have hb6 : Below W.heap.size W w6 := hb5.trans (hb.mono hb5.size)
                  have HA_6 : Hid _ := HA_5.out.below hb
                  have HB_6 : Hid _ := HB_5.out.below hb
                  have HZ_6 : Hid _ := HZ_5.out.below hb
                  have S1_6 := hid (S1_5.out.below hb)
                  have S2_6 := hid (S2_5.out.below hb)
                  have S3_6 := hid (S3_5.out.below hb)
                  have S4_6 := hid (S4_5.out.below hb)
                  have SM_6 := hid (SM_5.out.below hb)
                  clear zA0 zA1 zA2 zA3 zA4 zA5 zB0 zB1 zB2 zB3 zB4 zB5 zZ0 zZ1 zZ2 zZ3 zZ4 zZ5
                  clear hb hb5 HA_5 HB_5 HZ_5 S1_5 S2_5 S3_5 S4_5 SM_5
                  obtain ⟨zA0, zA1, zA2, zA3, zA4, zA5⟩ := HA_6.out.cells
                  obtain ⟨zB0, zB1, zB2, zB3, zB4, zB5⟩ := HB_6.out.cells
                  obtain ⟨zZ0, zZ1, zZ2, zZ3, zZ4, zZ5⟩ := HZ_6.out.cells
                  go_wp2_with fail
                  refine (eqc HC2.out (sub_any _ _ _ _ _ S3_6.out SM_6.out)).mono ?_
                  rintro e w7 ⟨rfl, hb⟩
                  have hb7 : Below W.heap.size W w7 := hb6.trans (hb.mono hb6.size)
                  have HA_7 : Hid _ := HA_6.out.below hb
                  have HB_7 : Hid _ := HB_6.out.below hb
                  have HZ_7 : Hid _ := HZ_6.out.below hb
                  have S1_7 := hid (S1_6.out.below hb)
                  have S2_7 := hid (S2_6.out.below hb)
                  have S3_7 := hid (S3_6.out.below hb)
                  have S4_7 := hid (S4_6.out.below hb)
                  have SM_7 := hid (SM_6.out.below hb)
                  clear zA0 zA1 zA2 zA3 zA4 zA5 zB0 zB1 zB2 zB3 zB4 zB5 zZ0 zZ1 zZ2 zZ3 zZ4 zZ5
                  clear hb hb6 HA_6 HB_6 HZ_6 S1_6 S2_6 S3_6 S4_6 SM_6
                  obtain ⟨zA0, zA1, zA2, zA3, zA4, zA5⟩ := HA_7.out.cells
                  obtain ⟨zB0, zB1, zB2, zB3, zB4, zB5⟩ := HB_7.out.cells
                  obtain ⟨zZ0, zZ1, zZ2, zZ3, zZ4, zZ5⟩ := HZ_7.out.cells
                  go_wp2_with fail
                  refine (none_at w7).mono ?_
                  rintro e w8 ⟨rfl, hb⟩
                  have hb8 : Below W.heap.size W w8 := hb7.trans (hb.mono hb7.size)
                  have HA_8 : Hid _ := HA_7.out.below hb
                  have HB_8 : Hid _ := HB_7.out.below hb
                  have HZ_8 : Hid _ := HZ_7.out.below hb
                  have S1_8 := hid (S1_7.out.below hb)
                  have S2_8 := hid (S2_7.out.below hb)
                  have S3_8 := hid (S3_7.out.below hb)
                  have S4_8 := hid (S4_7.out.below hb)
                  have SM_8 := hid (SM_7.out.below hb)
                  clear zA0 zA1 zA2 zA3 zA4 zA5 zB0 zB1 zB2 zB3 zB4 zB5 zZ0 zZ1 zZ2 zZ3 zZ4 zZ5
                  clear hb hb7 HA_7 HB_7 HZ_7 S1_7 S2_7 S3_7 S4_7 SM_7
                  go_wp2_with (with_reducible refine st37 rfl (.tmp 4) (.tmp 27) rfl (W.heap.size + 2) _ _ _ _ _ _ (by with_unfolding_all rfl) (by with_unfolding_all rfl) HZ_8.out (six_dom _ _ _ _ _ _ _ _ _ _ _ _) ?_)
                  refine ⟨rfl, _, R6.res rfl _ (HZ_8.out.set (.bool true) (.slice none 0 0) (.slice none 0 0) (.slice none 0 0) (.int .i64 1) (.int .i64 0)) rfl, ⟨_, rfl, ?_, below_setRow hb8 (by omega) _⟩⟩
                  rw [HM.out]
                  have := HC2.out
                  rw [HTK.out.2.2.1, HTM.out] at this
                  rw [this, Bool.not_false, Bool.or_true]
                  exact none_dv _ _
                · have HC2 : Hid (_ = _) := hc2
                  clear hc2
                  go_wp2_with fail
                  refine (eqc HC1.out (sub_any _ _ _ _ _ S1_5.out SM_5.out)).mono ?_
                  rintro e w6 ⟨rfl, hb⟩
                  have hb6 : Below W.heap.size W w6 := hb5.trans (hb.mono hb5.size)
                  have HA_6 : Hid _ := HA_5.out.below hb
                  have HB_6 : Hid _ := HB_5.out.below hb
                  have HZ_6 : Hid _ := HZ_5.out.below hb
                  have S1_6 := hid (S1_5.out.below hb)
                  have S2_6 := hid (S2_5.out.below hb)
                  have S3_6 := hid (S3_5.out.below hb)
                  have S4_6 := hid (S4_5.out.below hb)
                  have SM_6 := hid (SM_5.out.below hb)
                  clear zA0 zA1 zA2 zA3 zA4 zA5 zB0 zB1 zB2 zB3 zB4 zB5 zZ0 zZ1 zZ2 zZ3 zZ4 zZ5
                  clear hb hb5 HA_5 HB_5 HZ_5 S1_5 S2_5 S3_5 S4_5 SM_5
                  obtain ⟨zA0, zA1, zA2, zA3, zA4, zA5⟩ := HA_6.out.cells
                  obtain ⟨zB0, zB1, zB2, zB3, zB4, zB5⟩ := HB_6.out.cells
                  obtain ⟨zZ0, zZ1, zZ2, zZ3, zZ4, zZ5⟩ := HZ_6.out.cells
                  go_upto_region 5 with (refine (eqc HC2.out (sub_any _ _ _ _ _ S3_6.out SM_6.out)).mono ?_; rintro e w7 ⟨rfl, hb⟩)
                  have hb7 : Below W.heap.size W w7 := hb6.trans (hb.mono hb6.size)
                  have HA_7 : Hid _ := HA_6.out.below hb
                  have HB_7 : Hid _ := HB_6.out.below hb
                  have HZ_7 : Hid _ := HZ_6.out.below hb
                  have S1_7 := hid (S1_6.out.below hb)
                  have S2_7 := hid (S2_6.out.below hb)
                  have S3_7 := hid (S3_6.out.below hb)
                  have S4_7 := hid (S4_6.out.below hb)
                  have SM_7 := hid (SM_6.out.below hb)
                  clear zA0 zA1 zA2 zA3 zA4 zA5 zB0 zB1 zB2 zB3 zB4 zB5 zZ0 zZ1 zZ2 zZ3 zZ4 zZ5
                  clear hb hb6 HA_6 HB_6 HZ_6 S1_6 S2_6 S3_6 S4_6 SM_6
                  have c1 := HC1.out
                  have c2 := HC2.out
                  rw [HTK.out.1, HTM.out] at c1
                  rw [HTK.out.2.2.1, HTM.out] at c2
                  have hjs : ∀ x ∈ joinL (takenD d).lo (takenD o).lo, x ∈ meetL (takenD d).up (takenD o).up := (subB_iff _ _).1 (by rw [sub_join2, c1, c2]; rfl)
                  have hjl : (joinL (takenD d).lo (takenD o).lo).length ≤ 1000 := by have := (join_set (taken_right d).2.2.1 (taken_right o).2.2.1 (meet_set (taken_right d).2.2.2.1 _) hjs).1; omega
                  have hml : (meetL (takenD d).up (takenD o).up).length ≤ 1000 := by have := (meet_set (taken_right d).2.2.2.1 (takenD o).up).1; omega
                  have HCC : Hid (_ ∧ _) := ⟨c1, c2⟩
                  have HJL : Hid _ := hjl
                  clear c1 c2 hjs hjl
                  have HK : ∀ X, Below w7.heap.size w7 X → X.cell? ⟨W.heap.size, 2, none⟩ = some (.slice p1a m1a k1a) ∧ X.cell? ⟨W.heap.size, 4, none⟩ = some (.int .i64 y4a) ∧ X.cell? ⟨W.heap.size, 5, none⟩ = some (.int .i64 y5a) ∧ X.cell? ⟨W.heap.size + 1, 2, none⟩ = some (.slice p1b m1b k1b) ∧ X.cell? ⟨W.heap.size + 1, 4, none⟩ = some (.int .i64 y4b) ∧ X.cell? ⟨W.heap.size + 1, 5, none⟩ = some (.int .i64 y5b) := fun X hX => by
                    obtain ⟨_, _, c2, _, c4, c5⟩ := (HA_7.out.below hX).cells
                    obtain ⟨_, _, e2, _, e4, e5⟩ := (HB_7.out.below hX).cells
                    exact ⟨c2, c4, c5, e2, e4, e5⟩
                  have HKS : ∀ X cs, Below w7.heap.size w7 X → (X.setRow (W.heap.size + 2) cs).cell? ⟨W.heap.size, 2, none⟩ = some (.slice p1a m1a k1a) ∧ (X.setRow (W.heap.size + 2) cs).cell? ⟨W.heap.size, 4, none⟩ = some (.int .i64 y4a) ∧ (X.setRow (W.heap.size + 2) cs).cell? ⟨W.heap.size, 5, none⟩ = some (.int .i64 y5a) ∧ (X.setRow (W.heap.size + 2) cs).cell? ⟨W.heap.size + 1, 2, none⟩ = some (.slice p1b m1b k1b) ∧ (X.setRow (W.heap.size + 2) cs).cell? ⟨W.heap.size + 1, 4, none⟩ = some (.int .i64 y4b) ∧ (X.setRow (W.heap.size + 2) cs).cell? ⟨W.heap.size + 1, 5, none⟩ = some (.int .i64 y5b) := fun X cs hX => by
                    obtain ⟨_, _, c2, _, c4, c5⟩ := ((HA_7.out.below hX).other (show W.heap.size ≠ W.heap.size + 2 by omega) cs).cells
                    obtain ⟨_, _, e2, _, e4, e5⟩ := ((HB_7.out.below hX).other (show W.heap.size + 1 ≠ W.heap.size + 2 by omega) cs).cells
                    exact ⟨c2, c4, c5, e2, e4, e5⟩
                  have hB0 : Below w7.heap.size w7 w7.drew := Below.drew (Below.refl _ _)
                  have k10 : Calls Tryz.prog 116 #[.slice p1a m1a k1a, .slice p1b m1b k1b] w7.drew fun e w' => ∃ p n c, e = .returned (.slice p n c) ∧ Hid (Si w' (.slice p n c) (joinL (takenD d).lo (takenD o).lo)) ∧ Below w7.heap.size w7 w' :=
                    (join_any _ _ _ _ _ (S1_7.out.below hB0) (S3_7.out.below hB0)).mono fun e w' ⟨v, he, hr, hb⟩ => by
                      rw [HTK.out.1, HTK.out.2.2.1] at hr
                      obtain ⟨p, c, rfl⟩ := own_slice hr
                      exact ⟨p, _, c, he, own_si hr, hB0.trans (hb.mono hB0.size)⟩
                  obtain ⟨mx, hmx⟩ : ∃ m, max y4a y4b = m := ⟨_, rfl⟩
                  obtain ⟨mn, hmn⟩ : ∃ m, min y5a y5b = m := ⟨_, rfl⟩
                  have HX : Hid (max y4a y4b = mx ∧ min y5a y5b = mn) := ⟨hmx, hmn⟩
                  have k75 := fun q X (hX : Below w7.heap.size w7 X) (hq : Si X q (joinL (takenD d).lo (takenD o).lo)) => tight_look q (.slice pm nm cm) _ _ mx mn X hq (SM_7.out.below hX) HJL.out hml
                  have HB9 : Hid _ := hb7
                  have hsz := hb7.size
                  clear hml
                  refine wp_region_held_drew (S := (fun w' => w'.cell? ⟨W.heap.size, 2, none⟩ = some (.slice p1a m1a k1a) ∧ w'.cell? ⟨W.heap.size, 4, none⟩ = some (.int .i64 y4a) ∧ w'.cell? ⟨W.heap.size, 5, none⟩ = some (.int .i64 y5a) ∧ w'.cell? ⟨W.heap.size + 1, 2, none⟩ = some (.slice p1b m1b k1b) ∧ w'.cell? ⟨W.heap.size + 1, 4, none⟩ = some (.int .i64 y4b) ∧ w'.cell? ⟨W.heap.size + 1, 5, none⟩ = some (.int .i64 y5b))) (by kernel_rfl) (HK _ hB0) (fun hHeld => ?_)
                  refine tkA 0 oYOl0 hHeld ?_
                  try simp only [oYOl0, Act.put, zS, z0, z1]
                  refine tkA 1 oYOl1 hHeld ?_
                  try simp only [oYOl1, Act.put, zS, z0, z1]
                  refine tkA 2 oYOl2 hHeld ?_
                  try simp only [oYOl2, Act.put, zS, z0, z1]
                  refine tkA 3 oYOl3 hHeld ?_
                  try simp only [oYOl3, Act.put, zS, z0, z1]
                  refine tkA 5 oYOl4 hHeld ?_
                  try simp only [oYOl4, Act.put, zS, z0, z1]
                  refine tkA 6 oYOl5 hHeld ?_
                  try simp only [oYOl5, Act.put, zS, z0, z1]
                  refine tkA 7 oYOl6 hHeld ?_
                  try simp only [oYOl6, Act.put, zS, z0, z1]
                  refine tkA 8 oYOl7 hHeld ?_
                  try simp only [oYOl7, Act.put, zS, z0, z1]
                  refine tkA 9 oYOl8 hHeld ?_
                  try simp only [oYOl8, Act.put, zS, z0, z1]
                  refine tkA 10 oYOl9 hHeld ?_
                  try simp only [oYOl9, Act.put, zS, z0, z1]
                  refine tkA 11 oYOl10 hHeld ?_
                  try simp only [oYOl10, Act.put, zS, z0, z1]
                  refine tkA 12 oYOl11 hHeld ?_
                  try simp only [oYOl11, Act.put, zS, z0, z1]
                  refine tkA 13 oYOl12 hHeld ?_
                  try simp only [oYOl12, Act.put, zS, z0, z1]
                  refine tkA 14 oYOl13 hHeld ?_
                  try simp only [oYOl13, Act.put, zS, z0, z1]
                  refine tkA 15 oYOl14 hHeld ?_
                  try simp only [oYOl14, Act.put, zS, z0, z1]
                  refine rdy 4 rfl fun K hK => ?_
                  go_simp
                  refine k10.mono ?_
                  rintro e w25 ⟨p9, n9, c9, rfl, HJ, hb25⟩
                  refine hK.out _ _ (HK _ hb25) (fun hHeld2 => ?_)
                  clear hK K hHeld; have hHeld := hHeld2; clear hHeld2
                  try simp only [Act.put, zS, z0, z1]
                  refine rdy 16 rfl fun K hK => ?_
                  go_simp
                  refine (k75 _ _ hb25 HJ.out).mono ?_
                  rintro e w26 ⟨g0, q1, h1, j1, q2, h2, j2, g4, g5, rfl, HV, hb26'⟩
                  have hb26 : Below w7.heap.size w7 w26 := hb25.trans (hb26'.mono hb25.size)
                  refine hK.out _ _ (HK _ hb26) (fun hHeld2 => ?_)
                  clear hK K hHeld; have hHeld := hHeld2; clear hHeld2
                  try simp only [Act.put, zS, z0, z1]
                  refine rdy 17 rfl fun K hK => ?_
                  refine step37 rfl (.tmp 4) (.tmp 44) rfl (W.heap.size + 2) (.bool g0) (.slice none 0 0) (.slice q1 h1 j1) (.slice q2 h2 j2) (.int .i64 g4) (.int .i64 g5) (by with_unfolding_all rfl) (by with_unfolding_all rfl) (HZ_7.out.below hb26) (six_dom _ _ _ _ _ _ _ _ _ _ _ _) ?_
                  refine hK.out _ _ (HKS _ _ hb26) (fun hHeld2 => ?_)
                  clear hK K hHeld; have hHeld := hHeld2; clear hHeld2
                  try simp only [Act.put, zS, z0, z1]
                  refine wpAnyH_done (by kernel_rfl) ?_ _
                  go_wp2
                  refine ⟨rfl, _, R6.res rfl _ ((HZ_7.out.below hb26).set (.bool g0) (.slice none 0 0) (.slice q1 h1 j1) (.slice q2 h2 j2) (.int .i64 g4) (.int .i64 g5)) rfl, ⟨_, rfl, ?_, below_setRow (HB9.out.trans (hb26.mono hsz)) (by omega) _⟩⟩
                  rw [HM.out, HCC.out.1, HCC.out.2]
                  simp only [Bool.not_true, Bool.or_self, Bool.false_eq_true, if_false]
                  rw [HLa.out.1, HLa.out.2, HLb.out.1, HLb.out.2, HX.out.1, HX.out.2]
                  exact (HV.out.base (Nat.le_trans hsz hb25.size)).set (HZ_7.out.below hb26) _
            exact AllReadyH.nil
          exact AllReadyH.nil
        exact AllReadyH.nil
      exact AllReadyH.nil
    refine AllReadyH.cons rfl (fun K hK => ?_) ?_
    · obtain ⟨z0, z1, z2, z3, z4, z5⟩ := HBd.out.cells
      go_simp
      clear z0 z1 z2 z3 z4 z5
      refine hK.out _ _ trivial (fun _ => ?_)
      clear hK K
      try simp only [Act.put, zS, z0, z1]
      refine wpAnyH_ready (rs := [1]) (by kernel_rfl) (by simp) ?_
      refine AllReadyH.cons rfl (fun K hK => ?_) ?_
      · go_simp
        refine (k77a _ hbd).mono ?_
        rintro e w1 ⟨y0a, p1a, m1a, k1a, p2a, m2a, k2a, y4a, y5a, rfl, HDa, HLa, hs1a, hs2a, hb⟩
        have hb1 : Below W.heap.size W w1 := hbd.trans (hb.mono hbd.size)
        have HA1 := hid (HAd.out.below hb)
        have HB1 := hid (HBd.out.below hb)
        have HZ1 := hid (HZd.out.below hb)
        clear hb hbd HAd HBd HZd
        refine hK.out _ _ trivial (fun _ => ?_)
        clear hK K
        try simp only [Act.put, zS, z0, z1]
        refine wpAnyH_ready (rs := [3]) (by kernel_rfl) (by simp) ?_
        refine AllReadyH.cons rfl (fun K hK => ?_) ?_
        · go_simp
          refine (k77b _ hb1).mono ?_
          rintro e w2 ⟨y0b, p1b, m1b, k1b, p2b, m2b, k2b, y4b, y5b, rfl, HDb, HLb, hs1b, hs2b, hb⟩
          have hb2 : Below W.heap.size W w2 := hb1.trans (hb.mono hb1.size)
          have HA2 := hid (HA1.out.below hb)
          have HB2 := hid (HB1.out.below hb)
          have HZ2 := hid (HZ1.out.below hb)
          have HDa2 : Hid (Dv 0 w2 (.agg #[.bool y0a, .slice none 0 0, .slice p1a m1a k1a, .slice p2a m2a k2a, .int .i64 y4a, .int .i64 y5a]) (takenD d)) := (HDa.out.base (Nat.zero_le _)).below hb
          have HDb2 : Hid (Dv 0 w2 (.agg #[.bool y0b, .slice none 0 0, .slice p1b m1b k1b, .slice p2b m2b k2b, .int .i64 y4b, .int .i64 y5b]) (takenD o)) := HDb.out.base (Nat.zero_le _)
          clear hb hb1 HA1 HB1 HZ1
          refine hK.out _ _ trivial (fun _ => ?_)
          clear hK K
          try simp only [Act.put, zS, z0, z1]
          refine wpAnyH_ready (rs := [4]) (by kernel_rfl) (by simp) ?_
          refine AllReadyH.cons rfl (fun K hK => ?_) ?_
          · refine step37 rfl (.tmp 2) (.tmp 7) rfl W.heap.size (.bool y0a) (.slice none 0 0) (.slice p1a m1a k1a) (.slice p2a m2a k2a) (.int .i64 y4a) (.int .i64 y5a) (by with_unfolding_all rfl) (by with_unfolding_all rfl) HA2.out (six_dom _ _ _ _ _ _ _ _ _ _ _ _) ?_
            have HA3 : Hid _ := HA2.out.set (.bool y0a) (.slice none 0 0) (.slice p1a m1a k1a) (.slice p2a m2a k2a) (.int .i64 y4a) (.int .i64 y5a)
            have HB3 : Hid _ := HB2.out.other (show (W.heap.size + 1) ≠ W.heap.size by omega) #[.bool y0a, .slice none 0 0, .slice p1a m1a k1a, .slice p2a m2a k2a, .int .i64 y4a, .int .i64 y5a]
            have HDa3 := hid (HDa2.out.set HA2.out #[.bool y0a, .slice none 0 0, .slice p1a m1a k1a, .slice p2a m2a k2a, .int .i64 y4a, .int .i64 y5a])
            have HDb3 := hid (HDb2.out.set HA2.out #[.bool y0a, .slice none 0 0, .slice p1a m1a k1a, .slice p2a m2a k2a, .int .i64 y4a, .int .i64 y5a])
            have hb3 := below_setRow hb2 (Nat.le_refl W.heap.size) #[.bool y0a, .slice none 0 0, .slice p1a m1a k1a, .slice p2a m2a k2a, .int .i64 y4a, .int .i64 y5a]
            have HZ3 : Hid _ := HZ2.out.other (show (W.heap.size + 2) ≠ W.heap.size by omega) #[.bool y0a, .slice none 0 0, .slice p1a m1a k1a, .slice p2a m2a k2a, .int .i64 y4a, .int .i64 y5a]
            clear HA2 HB2 HZ2 hb2 HDa2 HDb2
            generalize w2.setRow W.heap.size #[.bool y0a, .slice none 0 0, .slice p1a m1a k1a, .slice p2a m2a k2a, .int .i64 y4a, .int .i64 y5a] = w3 at HA3 HB3 HDa3 HDb3 hb3 HZ3 ⊢
            refine hK.out _ _ trivial (fun _ => ?_)
            clear hK K
            try simp only [Act.put, zS, z0, z1]
            refine wpAnyH_ready (rs := [5]) (by kernel_rfl) (by simp) ?_
            refine AllReadyH.cons rfl (fun K hK => ?_) ?_
            · refine step37 rfl (.tmp 3) (.tmp 9) rfl (W.heap.size + 1) (.bool y0b) (.slice none 0 0) (.slice p1b m1b k1b) (.slice p2b m2b k2b) (.int .i64 y4b) (.int .i64 y5b) (by with_unfolding_all rfl) (by with_unfolding_all rfl) HB3.out (six_dom _ _ _ _ _ _ _ _ _ _ _ _) ?_
              have HB4 : Hid _ := HB3.out.set (.bool y0b) (.slice none 0 0) (.slice p1b m1b k1b) (.slice p2b m2b k2b) (.int .i64 y4b) (.int .i64 y5b)
              have HA4 : Hid _ := HA3.out.other (show W.heap.size ≠ (W.heap.size + 1) by omega) #[.bool y0b, .slice none 0 0, .slice p1b m1b k1b, .slice p2b m2b k2b, .int .i64 y4b, .int .i64 y5b]
              have HDa4 := hid (HDa3.out.set HB3.out #[.bool y0b, .slice none 0 0, .slice p1b m1b k1b, .slice p2b m2b k2b, .int .i64 y4b, .int .i64 y5b])
              have HDb4 := hid (HDb3.out.set HB3.out #[.bool y0b, .slice none 0 0, .slice p1b m1b k1b, .slice p2b m2b k2b, .int .i64 y4b, .int .i64 y5b])
              have hb4 := below_setRow hb3 (show W.heap.size ≤ (W.heap.size + 1) by omega) #[.bool y0b, .slice none 0 0, .slice p1b m1b k1b, .slice p2b m2b k2b, .int .i64 y4b, .int .i64 y5b]
              have HZ4 : Hid _ := HZ3.out.other (show (W.heap.size + 2) ≠ (W.heap.size + 1) by omega) #[.bool y0b, .slice none 0 0, .slice p1b m1b k1b, .slice p2b m2b k2b, .int .i64 y4b, .int .i64 y5b]
              clear HA3 HB3 hb3 HDa3 HDb3 HZ3
              generalize w3.setRow (W.heap.size + 1) #[.bool y0b, .slice none 0 0, .slice p1b m1b k1b, .slice p2b m2b k2b, .int .i64 y4b, .int .i64 y5b] = w4 at HA4 HB4 HDa4 HDb4 hb4 HZ4 ⊢
              refine hK.out _ _ trivial (fun _ => ?_)
              clear hK K
              try simp only [Act.put, zS, z0, z1]
              refine wpAnyH_done (by kernel_rfl) ?_ _
              have HA_4 : Hid _ := HA4.out
              have HB_4 : Hid _ := HB4.out
              have HZ_4 : Hid _ := HZ4.out
              clear HA4 HB4 HZ4 hHeld
              have S1_4 : Hid (Si w4 (.slice p1a m1a k1a) (takenD d).lo) := (dv_si HDa4.out).1
              have S2_4 : Hid (Si w4 (.slice p2a m2a k2a) (takenD d).up) := (dv_si HDa4.out).2
              have S3_4 : Hid (Si w4 (.slice p1b m1b k1b) (takenD o).lo) := (dv_si HDb4.out).1
              have S4_4 : Hid (Si w4 (.slice p2b m2b k2b) (takenD o).up) := (dv_si HDb4.out).2
              clear HDa4 HDb4
              obtain ⟨zA0, zA1, zA2, zA3, zA4, zA5⟩ := HA_4.out.cells
              obtain ⟨zB0, zB1, zB2, zB3, zB4, zB5⟩ := HB_4.out.cells
              obtain ⟨zZ0, zZ1, zZ2, zZ3, zZ4, zZ5⟩ := HZ_4.out.cells
              go_wp2_with fail
              refine (meet_any _ _ _ _ _ S2_4.out S4_4.out).mono ?_
              rintro e w5 ⟨vm, rfl, hfm, hb⟩
              have hb5 : Below W.heap.size W w5 := hb4.trans (hb.mono hb4.size)
              have HA_5 : Hid _ := HA_4.out.below hb
              have HB_5 : Hid _ := HB_4.out.below hb
              have HZ_5 : Hid _ := HZ_4.out.below hb
              have S1_5 := hid (S1_4.out.below hb)
              have S2_5 := hid (S2_4.out.below hb)
              have S3_5 := hid (S3_4.out.below hb)
              have S4_5 := hid (S4_4.out.below hb)
              obtain ⟨pm, nm, cm, rfl, HSM, HNM⟩ := si_look hfm.si
              rw [HTK.out.2.1, HTK.out.2.2.2] at HSM HNM
              have SM_5 : Hid (Si w5 (.slice pm nm cm) (meetL (takenD d).up (takenD o).up)) := HSM
              clear hfm HSM
              clear zA0 zA1 zA2 zA3 zA4 zA5 zB0 zB1 zB2 zB3 zB4 zB5 zZ0 zZ1 zZ2 zZ3 zZ4 zZ5
              clear hb hb4 HA_4 HB_4 HZ_4 S1_4 S2_4 S3_4 S4_4
              obtain ⟨zA0, zA1, zA2, zA3, zA4, zA5⟩ := HA_5.out.cells
              obtain ⟨zB0, zB1, zB2, zB3, zB4, zB5⟩ := HB_5.out.cells
              obtain ⟨zZ0, zZ1, zZ2, zZ3, zZ4, zZ5⟩ := HZ_5.out.cells
              cases hc1 : subB (tkS (takenD d).lo) (tkS (meetL (takenD d).up (takenD o).up))
              · have HC1 : Hid (_ = _) := hc1
                clear hc1
                go_wp2_with fail
                refine (eqc HC1.out (sub_any _ _ _ _ _ S1_5.out SM_5.out)).mono ?_
                rintro e w6 ⟨rfl, hb⟩
                have hb6 : Below W.heap.size W w6 := hb5.trans (hb.mono hb5.size)
                have HA_6 : Hid _ := HA_5.out.below hb
                have HB_6 : Hid _ := HB_5.out.below hb
                have HZ_6 : Hid _ := HZ_5.out.below hb
                have S1_6 := hid (S1_5.out.below hb)
                have S2_6 := hid (S2_5.out.below hb)
                have S3_6 := hid (S3_5.out.below hb)
                have S4_6 := hid (S4_5.out.below hb)
                have SM_6 := hid (SM_5.out.below hb)
                clear zA0 zA1 zA2 zA3 zA4 zA5 zB0 zB1 zB2 zB3 zB4 zB5 zZ0 zZ1 zZ2 zZ3 zZ4 zZ5
                clear hb hb5 HA_5 HB_5 HZ_5 S1_5 S2_5 S3_5 S4_5 SM_5
                obtain ⟨zA0, zA1, zA2, zA3, zA4, zA5⟩ := HA_6.out.cells
                obtain ⟨zB0, zB1, zB2, zB3, zB4, zB5⟩ := HB_6.out.cells
                obtain ⟨zZ0, zZ1, zZ2, zZ3, zZ4, zZ5⟩ := HZ_6.out.cells
                go_wp2_with fail
                refine (none_at w6).mono ?_
                rintro e w7 ⟨rfl, hb⟩
                have hb7 : Below W.heap.size W w7 := hb6.trans (hb.mono hb6.size)
                have HA_7 : Hid _ := HA_6.out.below hb
                have HB_7 : Hid _ := HB_6.out.below hb
                have HZ_7 : Hid _ := HZ_6.out.below hb
                have S1_7 := hid (S1_6.out.below hb)
                have S2_7 := hid (S2_6.out.below hb)
                have S3_7 := hid (S3_6.out.below hb)
                have S4_7 := hid (S4_6.out.below hb)
                have SM_7 := hid (SM_6.out.below hb)
                clear zA0 zA1 zA2 zA3 zA4 zA5 zB0 zB1 zB2 zB3 zB4 zB5 zZ0 zZ1 zZ2 zZ3 zZ4 zZ5
                clear hb hb6 HA_6 HB_6 HZ_6 S1_6 S2_6 S3_6 S4_6 SM_6
                go_wp2_with (with_reducible refine st37 rfl (.tmp 4) (.tmp 27) rfl (W.heap.size + 2) _ _ _ _ _ _ (by with_unfolding_all rfl) (by with_unfolding_all rfl) HZ_7.out (six_dom _ _ _ _ _ _ _ _ _ _ _ _) ?_)
                refine ⟨rfl, _, R6.res rfl _ (HZ_7.out.set (.bool true) (.slice none 0 0) (.slice none 0 0) (.slice none 0 0) (.int .i64 1) (.int .i64 0)) rfl, ⟨_, rfl, ?_, below_setRow hb7 (by omega) _⟩⟩
                rw [HM.out]
                have := HC1.out
                rw [HTK.out.1, HTM.out] at this
                rw [this]
                exact none_dv _ _
              · have HC1 : Hid (_ = _) := hc1
                clear hc1
                cases hc2 : subB (tkS (takenD o).lo) (tkS (meetL (takenD d).up (takenD o).up))
                · have HC2 : Hid (_ = _) := hc2
                  clear hc2
                  go_wp2_with fail
                  refine (eqc HC1.out (sub_any _ _ _ _ _ S1_5.out SM_5.out)).mono ?_
                  rintro e w6 ⟨rfl, hb⟩
                  have hb6 : Below W.heap.size W w6 := hb5.trans (hb.mono hb5.size)
                  have HA_6 : Hid _ := HA_5.out.below hb
                  have HB_6 : Hid _ := HB_5.out.below hb
                  have HZ_6 : Hid _ := HZ_5.out.below hb
                  have S1_6 := hid (S1_5.out.below hb)
                  have S2_6 := hid (S2_5.out.below hb)
                  have S3_6 := hid (S3_5.out.below hb)
                  have S4_6 := hid (S4_5.out.below hb)
                  have SM_6 := hid (SM_5.out.below hb)
                  clear zA0 zA1 zA2 zA3 zA4 zA5 zB0 zB1 zB2 zB3 zB4 zB5 zZ0 zZ1 zZ2 zZ3 zZ4 zZ5
                  clear hb hb5 HA_5 HB_5 HZ_5 S1_5 S2_5 S3_5 S4_5 SM_5
                  obtain ⟨zA0, zA1, zA2, zA3, zA4, zA5⟩ := HA_6.out.cells
                  obtain ⟨zB0, zB1, zB2, zB3, zB4, zB5⟩ := HB_6.out.cells
                  obtain ⟨zZ0, zZ1, zZ2, zZ3, zZ4, zZ5⟩ := HZ_6.out.cells
                  go_wp2_with fail
                  refine (eqc HC2.out (sub_any _ _ _ _ _ S3_6.out SM_6.out)).mono ?_
                  rintro e w7 ⟨rfl, hb⟩
                  have hb7 : Below W.heap.size W w7 := hb6.trans (hb.mono hb6.size)
                  have HA_7 : Hid _ := HA_6.out.below hb
                  have HB_7 : Hid _ := HB_6.out.below hb
                  have HZ_7 : Hid _ := HZ_6.out.below hb
                  have S1_7 := hid (S1_6.out.below hb)
                  have S2_7 := hid (S2_6.out.below hb)
                  have S3_7 := hid (S3_6.out.below hb)
                  have S4_7 := hid (S4_6.out.below hb)
                  have SM_7 := hid (SM_6.out.below hb)
                  clear zA0 zA1 zA2 zA3 zA4 zA5 zB0 zB1 zB2 zB3 zB4 zB5 zZ0 zZ1 zZ2 zZ3 zZ4 zZ5
                  clear hb hb6 HA_6 HB_6 HZ_6 S1_6 S2_6 S3_6 S4_6 SM_6
                  obtain ⟨zA0, zA1, zA2, zA3, zA4, zA5⟩ := HA_7.out.cells
                  obtain ⟨zB0, zB1, zB2, zB3, zB4, zB5⟩ := HB_7.out.cells
                  obtain ⟨zZ0, zZ1, zZ2, zZ3, zZ4, zZ5⟩ := HZ_7.out.cells
                  go_wp2_with fail
                  refine (none_at w7).mono ?_
                  rintro e w8 ⟨rfl, hb⟩
                  have hb8 : Below W.heap.size W w8 := hb7.trans (hb.mono hb7.size)
                  have HA_8 : Hid _ := HA_7.out.below hb
                  have HB_8 : Hid _ := HB_7.out.below hb
                  have HZ_8 : Hid _ := HZ_7.out.below hb
                  have S1_8 := hid (S1_7.out.below hb)
                  have S2_8 := hid (S2_7.out.below hb)
                  have S3_8 := hid (S3_7.out.below hb)
                  have S4_8 := hid (S4_7.out.below hb)
                  have SM_8 := hid (SM_7.out.below hb)
                  clear zA0 zA1 zA2 zA3 zA4 zA5 zB0 zB1 zB2 zB3 zB4 zB5 zZ0 zZ1 zZ2 zZ3 zZ4 zZ5
                  clear hb hb7 HA_7 HB_7 HZ_7 S1_7 S2_7 S3_7 S4_7 SM_7
                  go_wp2_with (with_reducible refine st37 rfl (.tmp 4) (.tmp 27) rfl (W.heap.size + 2) _ _ _ _ _ _ (by with_unfolding_all rfl) (by with_unfolding_all rfl) HZ_8.out (six_dom _ _ _ _ _ _ _ _ _ _ _ _) ?_)
                  refine ⟨rfl, _, R6.res rfl _ (HZ_8.out.set (.bool true) (.slice none 0 0) (.slice none 0 0) (.slice none 0 0) (.int .i64 1) (.int .i64 0)) rfl, ⟨_, rfl, ?_, below_setRow hb8 (by omega) _⟩⟩
                  rw [HM.out]
                  have := HC2.out
                  rw [HTK.out.2.2.1, HTM.out] at this
                  rw [this, Bool.not_false, Bool.or_true]
                  exact none_dv _ _
                · have HC2 : Hid (_ = _) := hc2
                  clear hc2
                  go_wp2_with fail
                  refine (eqc HC1.out (sub_any _ _ _ _ _ S1_5.out SM_5.out)).mono ?_
                  rintro e w6 ⟨rfl, hb⟩
                  have hb6 : Below W.heap.size W w6 := hb5.trans (hb.mono hb5.size)
                  have HA_6 : Hid _ := HA_5.out.below hb
                  have HB_6 : Hid _ := HB_5.out.below hb
                  have HZ_6 : Hid _ := HZ_5.out.below hb
                  have S1_6 := hid (S1_5.out.below hb)
                  have S2_6 := hid (S2_5.out.below hb)
                  have S3_6 := hid (S3_5.out.below hb)
                  have S4_6 := hid (S4_5.out.below hb)
                  have SM_6 := hid (SM_5.out.below hb)
                  clear zA0 zA1 zA2 zA3 zA4 zA5 zB0 zB1 zB2 zB3 zB4 zB5 zZ0 zZ1 zZ2 zZ3 zZ4 zZ5
                  clear hb hb5 HA_5 HB_5 HZ_5 S1_5 S2_5 S3_5 S4_5 SM_5
                  obtain ⟨zA0, zA1, zA2, zA3, zA4, zA5⟩ := HA_6.out.cells
                  obtain ⟨zB0, zB1, zB2, zB3, zB4, zB5⟩ := HB_6.out.cells
                  obtain ⟨zZ0, zZ1, zZ2, zZ3, zZ4, zZ5⟩ := HZ_6.out.cells
                  go_upto_region 5 with (refine (eqc HC2.out (sub_any _ _ _ _ _ S3_6.out SM_6.out)).mono ?_; rintro e w7 ⟨rfl, hb⟩)
                  have hb7 : Below W.heap.size W w7 := hb6.trans (hb.mono hb6.size)
                  have HA_7 : Hid _ := HA_6.out.below hb
                  have HB_7 : Hid _ := HB_6.out.below hb
                  have HZ_7 : Hid _ := HZ_6.out.below hb
                  have S1_7 := hid (S1_6.out.below hb)
                  have S2_7 := hid (S2_6.out.below hb)
                  have S3_7 := hid (S3_6.out.below hb)
                  have S4_7 := hid (S4_6.out.below hb)
                  have SM_7 := hid (SM_6.out.below hb)
                  clear zA0 zA1 zA2 zA3 zA4 zA5 zB0 zB1 zB2 zB3 zB4 zB5 zZ0 zZ1 zZ2 zZ3 zZ4 zZ5
                  clear hb hb6 HA_6 HB_6 HZ_6 S1_6 S2_6 S3_6 S4_6 SM_6
                  have c1 := HC1.out
                  have c2 := HC2.out
                  rw [HTK.out.1, HTM.out] at c1
                  rw [HTK.out.2.2.1, HTM.out] at c2
                  have hjs : ∀ x ∈ joinL (takenD d).lo (takenD o).lo, x ∈ meetL (takenD d).up (takenD o).up := (subB_iff _ _).1 (by rw [sub_join2, c1, c2]; rfl)
                  have hjl : (joinL (takenD d).lo (takenD o).lo).length ≤ 1000 := by have := (join_set (taken_right d).2.2.1 (taken_right o).2.2.1 (meet_set (taken_right d).2.2.2.1 _) hjs).1; omega
                  have hml : (meetL (takenD d).up (takenD o).up).length ≤ 1000 := by have := (meet_set (taken_right d).2.2.2.1 (takenD o).up).1; omega
                  have HCC : Hid (_ ∧ _) := ⟨c1, c2⟩
                  have HJL : Hid _ := hjl
                  clear c1 c2 hjs hjl
                  have HK : ∀ X, Below w7.heap.size w7 X → X.cell? ⟨W.heap.size, 2, none⟩ = some (.slice p1a m1a k1a) ∧ X.cell? ⟨W.heap.size, 4, none⟩ = some (.int .i64 y4a) ∧ X.cell? ⟨W.heap.size, 5, none⟩ = some (.int .i64 y5a) ∧ X.cell? ⟨W.heap.size + 1, 2, none⟩ = some (.slice p1b m1b k1b) ∧ X.cell? ⟨W.heap.size + 1, 4, none⟩ = some (.int .i64 y4b) ∧ X.cell? ⟨W.heap.size + 1, 5, none⟩ = some (.int .i64 y5b) := fun X hX => by
                    obtain ⟨_, _, c2, _, c4, c5⟩ := (HA_7.out.below hX).cells
                    obtain ⟨_, _, e2, _, e4, e5⟩ := (HB_7.out.below hX).cells
                    exact ⟨c2, c4, c5, e2, e4, e5⟩
                  have HKS : ∀ X cs, Below w7.heap.size w7 X → (X.setRow (W.heap.size + 2) cs).cell? ⟨W.heap.size, 2, none⟩ = some (.slice p1a m1a k1a) ∧ (X.setRow (W.heap.size + 2) cs).cell? ⟨W.heap.size, 4, none⟩ = some (.int .i64 y4a) ∧ (X.setRow (W.heap.size + 2) cs).cell? ⟨W.heap.size, 5, none⟩ = some (.int .i64 y5a) ∧ (X.setRow (W.heap.size + 2) cs).cell? ⟨W.heap.size + 1, 2, none⟩ = some (.slice p1b m1b k1b) ∧ (X.setRow (W.heap.size + 2) cs).cell? ⟨W.heap.size + 1, 4, none⟩ = some (.int .i64 y4b) ∧ (X.setRow (W.heap.size + 2) cs).cell? ⟨W.heap.size + 1, 5, none⟩ = some (.int .i64 y5b) := fun X cs hX => by
                    obtain ⟨_, _, c2, _, c4, c5⟩ := ((HA_7.out.below hX).other (show W.heap.size ≠ W.heap.size + 2 by omega) cs).cells
                    obtain ⟨_, _, e2, _, e4, e5⟩ := ((HB_7.out.below hX).other (show W.heap.size + 1 ≠ W.heap.size + 2 by omega) cs).cells
                    exact ⟨c2, c4, c5, e2, e4, e5⟩
                  have hB0 : Below w7.heap.size w7 w7.drew := Below.drew (Below.refl _ _)
                  have k10 : Calls Tryz.prog 116 #[.slice p1a m1a k1a, .slice p1b m1b k1b] w7.drew fun e w' => ∃ p n c, e = .returned (.slice p n c) ∧ Hid (Si w' (.slice p n c) (joinL (takenD d).lo (takenD o).lo)) ∧ Below w7.heap.size w7 w' :=
                    (join_any _ _ _ _ _ (S1_7.out.below hB0) (S3_7.out.below hB0)).mono fun e w' ⟨v, he, hr, hb⟩ => by
                      rw [HTK.out.1, HTK.out.2.2.1] at hr
                      obtain ⟨p, c, rfl⟩ := own_slice hr
                      exact ⟨p, _, c, he, own_si hr, hB0.trans (hb.mono hB0.size)⟩
                  obtain ⟨mx, hmx⟩ : ∃ m, max y4a y4b = m := ⟨_, rfl⟩
                  obtain ⟨mn, hmn⟩ : ∃ m, min y5a y5b = m := ⟨_, rfl⟩
                  have HX : Hid (max y4a y4b = mx ∧ min y5a y5b = mn) := ⟨hmx, hmn⟩
                  have k75 := fun q X (hX : Below w7.heap.size w7 X) (hq : Si X q (joinL (takenD d).lo (takenD o).lo)) => tight_look q (.slice pm nm cm) _ _ mx mn X hq (SM_7.out.below hX) HJL.out hml
                  have HB9 : Hid _ := hb7
                  have hsz := hb7.size
                  clear hml
                  refine wp_region_held_drew (S := (fun w' => w'.cell? ⟨W.heap.size, 2, none⟩ = some (.slice p1a m1a k1a) ∧ w'.cell? ⟨W.heap.size, 4, none⟩ = some (.int .i64 y4a) ∧ w'.cell? ⟨W.heap.size, 5, none⟩ = some (.int .i64 y5a) ∧ w'.cell? ⟨W.heap.size + 1, 2, none⟩ = some (.slice p1b m1b k1b) ∧ w'.cell? ⟨W.heap.size + 1, 4, none⟩ = some (.int .i64 y4b) ∧ w'.cell? ⟨W.heap.size + 1, 5, none⟩ = some (.int .i64 y5b))) (by kernel_rfl) (HK _ hB0) (fun hHeld => ?_)
                  refine tkA 0 oYOl0 hHeld ?_
                  try simp only [oYOl0, Act.put, zS, z0, z1]
                  refine tkA 1 oYOl1 hHeld ?_
                  try simp only [oYOl1, Act.put, zS, z0, z1]
                  refine tkA 2 oYOl2 hHeld ?_
                  try simp only [oYOl2, Act.put, zS, z0, z1]
                  refine tkA 3 oYOl3 hHeld ?_
                  try simp only [oYOl3, Act.put, zS, z0, z1]
                  refine tkA 5 oYOl4 hHeld ?_
                  try simp only [oYOl4, Act.put, zS, z0, z1]
                  refine tkA 6 oYOl5 hHeld ?_
                  try simp only [oYOl5, Act.put, zS, z0, z1]
                  refine tkA 7 oYOl6 hHeld ?_
                  try simp only [oYOl6, Act.put, zS, z0, z1]
                  refine tkA 8 oYOl7 hHeld ?_
                  try simp only [oYOl7, Act.put, zS, z0, z1]
                  refine tkA 9 oYOl8 hHeld ?_
                  try simp only [oYOl8, Act.put, zS, z0, z1]
                  refine tkA 10 oYOl9 hHeld ?_
                  try simp only [oYOl9, Act.put, zS, z0, z1]
                  refine tkA 11 oYOl10 hHeld ?_
                  try simp only [oYOl10, Act.put, zS, z0, z1]
                  refine tkA 12 oYOl11 hHeld ?_
                  try simp only [oYOl11, Act.put, zS, z0, z1]
                  refine tkA 13 oYOl12 hHeld ?_
                  try simp only [oYOl12, Act.put, zS, z0, z1]
                  refine tkA 14 oYOl13 hHeld ?_
                  try simp only [oYOl13, Act.put, zS, z0, z1]
                  refine tkA 15 oYOl14 hHeld ?_
                  try simp only [oYOl14, Act.put, zS, z0, z1]
                  refine rdy 4 rfl fun K hK => ?_
                  go_simp
                  refine k10.mono ?_
                  rintro e w25 ⟨p9, n9, c9, rfl, HJ, hb25⟩
                  refine hK.out _ _ (HK _ hb25) (fun hHeld2 => ?_)
                  clear hK K hHeld; have hHeld := hHeld2; clear hHeld2
                  try simp only [Act.put, zS, z0, z1]
                  refine rdy 16 rfl fun K hK => ?_
                  go_simp
                  refine (k75 _ _ hb25 HJ.out).mono ?_
                  rintro e w26 ⟨g0, q1, h1, j1, q2, h2, j2, g4, g5, rfl, HV, hb26'⟩
                  have hb26 : Below w7.heap.size w7 w26 := hb25.trans (hb26'.mono hb25.size)
                  refine hK.out _ _ (HK _ hb26) (fun hHeld2 => ?_)
                  clear hK K hHeld; have hHeld := hHeld2; clear hHeld2
                  try simp only [Act.put, zS, z0, z1]
                  refine rdy 17 rfl fun K hK => ?_
                  refine step37 rfl (.tmp 4) (.tmp 44) rfl (W.heap.size + 2) (.bool g0) (.slice none 0 0) (.slice q1 h1 j1) (.slice q2 h2 j2) (.int .i64 g4) (.int .i64 g5) (by with_unfolding_all rfl) (by with_unfolding_all rfl) (HZ_7.out.below hb26) (six_dom _ _ _ _ _ _ _ _ _ _ _ _) ?_
                  refine hK.out _ _ (HKS _ _ hb26) (fun hHeld2 => ?_)
                  clear hK K hHeld; have hHeld := hHeld2; clear hHeld2
                  try simp only [Act.put, zS, z0, z1]
                  refine wpAnyH_done (by kernel_rfl) ?_ _
                  go_wp2
                  refine ⟨rfl, _, R6.res rfl _ ((HZ_7.out.below hb26).set (.bool g0) (.slice none 0 0) (.slice q1 h1 j1) (.slice q2 h2 j2) (.int .i64 g4) (.int .i64 g5)) rfl, ⟨_, rfl, ?_, below_setRow (HB9.out.trans (hb26.mono hsz)) (by omega) _⟩⟩
                  rw [HM.out, HCC.out.1, HCC.out.2]
                  simp only [Bool.not_true, Bool.or_self, Bool.false_eq_true, if_false]
                  rw [HLa.out.1, HLa.out.2, HLb.out.1, HLb.out.2, HX.out.1, HX.out.2]
                  exact (HV.out.base (Nat.le_trans hsz hb25.size)).set (HZ_7.out.below hb26) _
            exact AllReadyH.nil
          exact AllReadyH.nil
        exact AllReadyH.nil
      exact AllReadyH.nil
    exact AllReadyH.nil
  refine AllReadyH.cons rfl (fun K hK => ?_) ?_
  · obtain ⟨z0, z1, z2, z3, z4, z5⟩ := HBd.out.cells
    go_simp
    clear z0 z1 z2 z3 z4 z5
    refine hK.out _ _ trivial (fun _ => ?_)
    clear hK K
    try simp only [Act.put, zS, z0, z1]
    refine wpAnyH_ready (rs := [0]) (by kernel_rfl) (by simp) ?_
    refine AllReadyH.cons rfl (fun K hK => ?_) ?_
    · obtain ⟨z0, z1, z2, z3, z4, z5⟩ := HAd.out.cells
      go_simp
      clear z0 z1 z2 z3 z4 z5
      refine hK.out _ _ trivial (fun _ => ?_)
      clear hK K
      try simp only [Act.put, zS, z0, z1]
      refine wpAnyH_ready (rs := [1]) (by kernel_rfl) (by simp) ?_
      refine AllReadyH.cons rfl (fun K hK => ?_) ?_
      · go_simp
        refine (k77a _ hbd).mono ?_
        rintro e w1 ⟨y0a, p1a, m1a, k1a, p2a, m2a, k2a, y4a, y5a, rfl, HDa, HLa, hs1a, hs2a, hb⟩
        have hb1 : Below W.heap.size W w1 := hbd.trans (hb.mono hbd.size)
        have HA1 := hid (HAd.out.below hb)
        have HB1 := hid (HBd.out.below hb)
        have HZ1 := hid (HZd.out.below hb)
        clear hb hbd HAd HBd HZd
        refine hK.out _ _ trivial (fun _ => ?_)
        clear hK K
        try simp only [Act.put, zS, z0, z1]
        refine wpAnyH_ready (rs := [3]) (by kernel_rfl) (by simp) ?_
        refine AllReadyH.cons rfl (fun K hK => ?_) ?_
        · go_simp
          refine (k77b _ hb1).mono ?_
          rintro e w2 ⟨y0b, p1b, m1b, k1b, p2b, m2b, k2b, y4b, y5b, rfl, HDb, HLb, hs1b, hs2b, hb⟩
          have hb2 : Below W.heap.size W w2 := hb1.trans (hb.mono hb1.size)
          have HA2 := hid (HA1.out.below hb)
          have HB2 := hid (HB1.out.below hb)
          have HZ2 := hid (HZ1.out.below hb)
          have HDa2 : Hid (Dv 0 w2 (.agg #[.bool y0a, .slice none 0 0, .slice p1a m1a k1a, .slice p2a m2a k2a, .int .i64 y4a, .int .i64 y5a]) (takenD d)) := (HDa.out.base (Nat.zero_le _)).below hb
          have HDb2 : Hid (Dv 0 w2 (.agg #[.bool y0b, .slice none 0 0, .slice p1b m1b k1b, .slice p2b m2b k2b, .int .i64 y4b, .int .i64 y5b]) (takenD o)) := HDb.out.base (Nat.zero_le _)
          clear hb hb1 HA1 HB1 HZ1
          refine hK.out _ _ trivial (fun _ => ?_)
          clear hK K
          try simp only [Act.put, zS, z0, z1]
          refine wpAnyH_ready (rs := [4]) (by kernel_rfl) (by simp) ?_
          refine AllReadyH.cons rfl (fun K hK => ?_) ?_
          · refine step37 rfl (.tmp 2) (.tmp 7) rfl W.heap.size (.bool y0a) (.slice none 0 0) (.slice p1a m1a k1a) (.slice p2a m2a k2a) (.int .i64 y4a) (.int .i64 y5a) (by with_unfolding_all rfl) (by with_unfolding_all rfl) HA2.out (six_dom _ _ _ _ _ _ _ _ _ _ _ _) ?_
            have HA3 : Hid _ := HA2.out.set (.bool y0a) (.slice none 0 0) (.slice p1a m1a k1a) (.slice p2a m2a k2a) (.int .i64 y4a) (.int .i64 y5a)
            have HB3 : Hid _ := HB2.out.other (show (W.heap.size + 1) ≠ W.heap.size by omega) #[.bool y0a, .slice none 0 0, .slice p1a m1a k1a, .slice p2a m2a k2a, .int .i64 y4a, .int .i64 y5a]
            have HDa3 := hid (HDa2.out.set HA2.out #[.bool y0a, .slice none 0 0, .slice p1a m1a k1a, .slice p2a m2a k2a, .int .i64 y4a, .int .i64 y5a])
            have HDb3 := hid (HDb2.out.set HA2.out #[.bool y0a, .slice none 0 0, .slice p1a m1a k1a, .slice p2a m2a k2a, .int .i64 y4a, .int .i64 y5a])
            have hb3 := below_setRow hb2 (Nat.le_refl W.heap.size) #[.bool y0a, .slice none 0 0, .slice p1a m1a k1a, .slice p2a m2a k2a, .int .i64 y4a, .int .i64 y5a]
            have HZ3 : Hid _ := HZ2.out.other (show (W.heap.size + 2) ≠ W.heap.size by omega) #[.bool y0a, .slice none 0 0, .slice p1a m1a k1a, .slice p2a m2a k2a, .int .i64 y4a, .int .i64 y5a]
            clear HA2 HB2 HZ2 hb2 HDa2 HDb2
            generalize w2.setRow W.heap.size #[.bool y0a, .slice none 0 0, .slice p1a m1a k1a, .slice p2a m2a k2a, .int .i64 y4a, .int .i64 y5a] = w3 at HA3 HB3 HDa3 HDb3 hb3 HZ3 ⊢
            refine hK.out _ _ trivial (fun _ => ?_)
            clear hK K
            try simp only [Act.put, zS, z0, z1]
            refine wpAnyH_ready (rs := [5]) (by kernel_rfl) (by simp) ?_
            refine AllReadyH.cons rfl (fun K hK => ?_) ?_
            · refine step37 rfl (.tmp 3) (.tmp 9) rfl (W.heap.size + 1) (.bool y0b) (.slice none 0 0) (.slice p1b m1b k1b) (.slice p2b m2b k2b) (.int .i64 y4b) (.int .i64 y5b) (by with_unfolding_all rfl) (by with_unfolding_all rfl) HB3.out (six_dom _ _ _ _ _ _ _ _ _ _ _ _) ?_
              have HB4 : Hid _ := HB3.out.set (.bool y0b) (.slice none 0 0) (.slice p1b m1b k1b) (.slice p2b m2b k2b) (.int .i64 y4b) (.int .i64 y5b)
              have HA4 : Hid _ := HA3.out.other (show W.heap.size ≠ (W.heap.size + 1) by omega) #[.bool y0b, .slice none 0 0, .slice p1b m1b k1b, .slice p2b m2b k2b, .int .i64 y4b, .int .i64 y5b]
              have HDa4 := hid (HDa3.out.set HB3.out #[.bool y0b, .slice none 0 0, .slice p1b m1b k1b, .slice p2b m2b k2b, .int .i64 y4b, .int .i64 y5b])
              have HDb4 := hid (HDb3.out.set HB3.out #[.bool y0b, .slice none 0 0, .slice p1b m1b k1b, .slice p2b m2b k2b, .int .i64 y4b, .int .i64 y5b])
              have hb4 := below_setRow hb3 (show W.heap.size ≤ (W.heap.size + 1) by omega) #[.bool y0b, .slice none 0 0, .slice p1b m1b k1b, .slice p2b m2b k2b, .int .i64 y4b, .int .i64 y5b]
              have HZ4 : Hid _ := HZ3.out.other (show (W.heap.size + 2) ≠ (W.heap.size + 1) by omega) #[.bool y0b, .slice none 0 0, .slice p1b m1b k1b, .slice p2b m2b k2b, .int .i64 y4b, .int .i64 y5b]
              clear HA3 HB3 hb3 HDa3 HDb3 HZ3
              generalize w3.setRow (W.heap.size + 1) #[.bool y0b, .slice none 0 0, .slice p1b m1b k1b, .slice p2b m2b k2b, .int .i64 y4b, .int .i64 y5b] = w4 at HA4 HB4 HDa4 HDb4 hb4 HZ4 ⊢
              refine hK.out _ _ trivial (fun _ => ?_)
              clear hK K
              try simp only [Act.put, zS, z0, z1]
              refine wpAnyH_done (by kernel_rfl) ?_ _
              have HA_4 : Hid _ := HA4.out
              have HB_4 : Hid _ := HB4.out
              have HZ_4 : Hid _ := HZ4.out
              clear HA4 HB4 HZ4 hHeld
              have S1_4 : Hid (Si w4 (.slice p1a m1a k1a) (takenD d).lo) := (dv_si HDa4.out).1
              have S2_4 : Hid (Si w4 (.slice p2a m2a k2a) (takenD d).up) := (dv_si HDa4.out).2
              have S3_4 : Hid (Si w4 (.slice p1b m1b k1b) (takenD o).lo) := (dv_si HDb4.out).1
              have S4_4 : Hid (Si w4 (.slice p2b m2b k2b) (takenD o).up) := (dv_si HDb4.out).2
              clear HDa4 HDb4
              obtain ⟨zA0, zA1, zA2, zA3, zA4, zA5⟩ := HA_4.out.cells
              obtain ⟨zB0, zB1, zB2, zB3, zB4, zB5⟩ := HB_4.out.cells
              obtain ⟨zZ0, zZ1, zZ2, zZ3, zZ4, zZ5⟩ := HZ_4.out.cells
              go_wp2_with fail
              refine (meet_any _ _ _ _ _ S2_4.out S4_4.out).mono ?_
              rintro e w5 ⟨vm, rfl, hfm, hb⟩
              have hb5 : Below W.heap.size W w5 := hb4.trans (hb.mono hb4.size)
              have HA_5 : Hid _ := HA_4.out.below hb
              have HB_5 : Hid _ := HB_4.out.below hb
              have HZ_5 : Hid _ := HZ_4.out.below hb
              have S1_5 := hid (S1_4.out.below hb)
              have S2_5 := hid (S2_4.out.below hb)
              have S3_5 := hid (S3_4.out.below hb)
              have S4_5 := hid (S4_4.out.below hb)
              obtain ⟨pm, nm, cm, rfl, HSM, HNM⟩ := si_look hfm.si
              rw [HTK.out.2.1, HTK.out.2.2.2] at HSM HNM
              have SM_5 : Hid (Si w5 (.slice pm nm cm) (meetL (takenD d).up (takenD o).up)) := HSM
              clear hfm HSM
              clear zA0 zA1 zA2 zA3 zA4 zA5 zB0 zB1 zB2 zB3 zB4 zB5 zZ0 zZ1 zZ2 zZ3 zZ4 zZ5
              clear hb hb4 HA_4 HB_4 HZ_4 S1_4 S2_4 S3_4 S4_4
              obtain ⟨zA0, zA1, zA2, zA3, zA4, zA5⟩ := HA_5.out.cells
              obtain ⟨zB0, zB1, zB2, zB3, zB4, zB5⟩ := HB_5.out.cells
              obtain ⟨zZ0, zZ1, zZ2, zZ3, zZ4, zZ5⟩ := HZ_5.out.cells
              cases hc1 : subB (tkS (takenD d).lo) (tkS (meetL (takenD d).up (takenD o).up))
              · have HC1 : Hid (_ = _) := hc1
                clear hc1
                go_wp2_with fail
                refine (eqc HC1.out (sub_any _ _ _ _ _ S1_5.out SM_5.out)).mono ?_
                rintro e w6 ⟨rfl, hb⟩
                have hb6 : Below W.heap.size W w6 := hb5.trans (hb.mono hb5.size)
                have HA_6 : Hid _ := HA_5.out.below hb
                have HB_6 : Hid _ := HB_5.out.below hb
                have HZ_6 : Hid _ := HZ_5.out.below hb
                have S1_6 := hid (S1_5.out.below hb)
                have S2_6 := hid (S2_5.out.below hb)
                have S3_6 := hid (S3_5.out.below hb)
                have S4_6 := hid (S4_5.out.below hb)
                have SM_6 := hid (SM_5.out.below hb)
                clear zA0 zA1 zA2 zA3 zA4 zA5 zB0 zB1 zB2 zB3 zB4 zB5 zZ0 zZ1 zZ2 zZ3 zZ4 zZ5
                clear hb hb5 HA_5 HB_5 HZ_5 S1_5 S2_5 S3_5 S4_5 SM_5
                obtain ⟨zA0, zA1, zA2, zA3, zA4, zA5⟩ := HA_6.out.cells
                obtain ⟨zB0, zB1, zB2, zB3, zB4, zB5⟩ := HB_6.out.cells
                obtain ⟨zZ0, zZ1, zZ2, zZ3, zZ4, zZ5⟩ := HZ_6.out.cells
                go_wp2_with fail
                refine (none_at w6).mono ?_
                rintro e w7 ⟨rfl, hb⟩
                have hb7 : Below W.heap.size W w7 := hb6.trans (hb.mono hb6.size)
                have HA_7 : Hid _ := HA_6.out.below hb
                have HB_7 : Hid _ := HB_6.out.below hb
                have HZ_7 : Hid _ := HZ_6.out.below hb
                have S1_7 := hid (S1_6.out.below hb)
                have S2_7 := hid (S2_6.out.below hb)
                have S3_7 := hid (S3_6.out.below hb)
                have S4_7 := hid (S4_6.out.below hb)
                have SM_7 := hid (SM_6.out.below hb)
                clear zA0 zA1 zA2 zA3 zA4 zA5 zB0 zB1 zB2 zB3 zB4 zB5 zZ0 zZ1 zZ2 zZ3 zZ4 zZ5
                clear hb hb6 HA_6 HB_6 HZ_6 S1_6 S2_6 S3_6 S4_6 SM_6
                go_wp2_with (with_reducible refine st37 rfl (.tmp 4) (.tmp 27) rfl (W.heap.size + 2) _ _ _ _ _ _ (by with_unfolding_all rfl) (by with_unfolding_all rfl) HZ_7.out (six_dom _ _ _ _ _ _ _ _ _ _ _ _) ?_)
                refine ⟨rfl, _, R6.res rfl _ (HZ_7.out.set (.bool true) (.slice none 0 0) (.slice none 0 0) (.slice none 0 0) (.int .i64 1) (.int .i64 0)) rfl, ⟨_, rfl, ?_, below_setRow hb7 (by omega) _⟩⟩
                rw [HM.out]
                have := HC1.out
                rw [HTK.out.1, HTM.out] at this
                rw [this]
                exact none_dv _ _
              · have HC1 : Hid (_ = _) := hc1
                clear hc1
                cases hc2 : subB (tkS (takenD o).lo) (tkS (meetL (takenD d).up (takenD o).up))
                · have HC2 : Hid (_ = _) := hc2
                  clear hc2
                  go_wp2_with fail
                  refine (eqc HC1.out (sub_any _ _ _ _ _ S1_5.out SM_5.out)).mono ?_
                  rintro e w6 ⟨rfl, hb⟩
                  have hb6 : Below W.heap.size W w6 := hb5.trans (hb.mono hb5.size)
                  have HA_6 : Hid _ := HA_5.out.below hb
                  have HB_6 : Hid _ := HB_5.out.below hb
                  have HZ_6 : Hid _ := HZ_5.out.below hb
                  have S1_6 := hid (S1_5.out.below hb)
                  have S2_6 := hid (S2_5.out.below hb)
                  have S3_6 := hid (S3_5.out.below hb)
                  have S4_6 := hid (S4_5.out.below hb)
                  have SM_6 := hid (SM_5.out.below hb)
                  clear zA0 zA1 zA2 zA3 zA4 zA5 zB0 zB1 zB2 zB3 zB4 zB5 zZ0 zZ1 zZ2 zZ3 zZ4 zZ5
                  clear hb hb5 HA_5 HB_5 HZ_5 S1_5 S2_5 S3_5 S4_5 SM_5
                  obtain ⟨zA0, zA1, zA2, zA3, zA4, zA5⟩ := HA_6.out.cells
                  obtain ⟨zB0, zB1, zB2, zB3, zB4, zB5⟩ := HB_6.out.cells
                  obtain ⟨zZ0, zZ1, zZ2, zZ3, zZ4, zZ5⟩ := HZ_6.out.cells
                  go_wp2_with fail
                  refine (eqc HC2.out (sub_any _ _ _ _ _ S3_6.out SM_6.out)).mono ?_
                  rintro e w7 ⟨rfl, hb⟩
                  have hb7 : Below W.heap.size W w7 := hb6.trans (hb.mono hb6.size)
                  have HA_7 : Hid _ := HA_6.out.below hb
                  have HB_7 : Hid _ := HB_6.out.below hb
                  have HZ_7 : Hid _ := HZ_6.out.below hb
                  have S1_7 := hid (S1_6.out.below hb)
                  have S2_7 := hid (S2_6.out.below hb)
                  have S3_7 := hid (S3_6.out.below hb)
                  have S4_7 := hid (S4_6.out.below hb)
                  have SM_7 := hid (SM_6.out.below hb)
                  clear zA0 zA1 zA2 zA3 zA4 zA5 zB0 zB1 zB2 zB3 zB4 zB5 zZ0 zZ1 zZ2 zZ3 zZ4 zZ5
                  clear hb hb6 HA_6 HB_6 HZ_6 S1_6 S2_6 S3_6 S4_6 SM_6
                  obtain ⟨zA0, zA1, zA2, zA3, zA4, zA5⟩ := HA_7.out.cells
                  obtain ⟨zB0, zB1, zB2, zB3, zB4, zB5⟩ := HB_7.out.cells
                  obtain ⟨zZ0, zZ1, zZ2, zZ3, zZ4, zZ5⟩ := HZ_7.out.cells
                  go_wp2_with fail
                  refine (none_at w7).mono ?_
                  rintro e w8 ⟨rfl, hb⟩
                  have hb8 : Below W.heap.size W w8 := hb7.trans (hb.mono hb7.size)
                  have HA_8 : Hid _ := HA_7.out.below hb
                  have HB_8 : Hid _ := HB_7.out.below hb
                  have HZ_8 : Hid _ := HZ_7.out.below hb
                  have S1_8 := hid (S1_7.out.below hb)
                  have S2_8 := hid (S2_7.out.below hb)
                  have S3_8 := hid (S3_7.out.below hb)
                  have S4_8 := hid (S4_7.out.below hb)
                  have SM_8 := hid (SM_7.out.below hb)
                  clear zA0 zA1 zA2 zA3 zA4 zA5 zB0 zB1 zB2 zB3 zB4 zB5 zZ0 zZ1 zZ2 zZ3 zZ4 zZ5
                  clear hb hb7 HA_7 HB_7 HZ_7 S1_7 S2_7 S3_7 S4_7 SM_7
                  go_wp2_with (with_reducible refine st37 rfl (.tmp 4) (.tmp 27) rfl (W.heap.size + 2) _ _ _ _ _ _ (by with_unfolding_all rfl) (by with_unfolding_all rfl) HZ_8.out (six_dom _ _ _ _ _ _ _ _ _ _ _ _) ?_)
                  refine ⟨rfl, _, R6.res rfl _ (HZ_8.out.set (.bool true) (.slice none 0 0) (.slice none 0 0) (.slice none 0 0) (.int .i64 1) (.int .i64 0)) rfl, ⟨_, rfl, ?_, below_setRow hb8 (by omega) _⟩⟩
                  rw [HM.out]
                  have := HC2.out
                  rw [HTK.out.2.2.1, HTM.out] at this
                  rw [this, Bool.not_false, Bool.or_true]
                  exact none_dv _ _
                · have HC2 : Hid (_ = _) := hc2
                  clear hc2
                  go_wp2_with fail
                  refine (eqc HC1.out (sub_any _ _ _ _ _ S1_5.out SM_5.out)).mono ?_
                  rintro e w6 ⟨rfl, hb⟩
                  have hb6 : Below W.heap.size W w6 := hb5.trans (hb.mono hb5.size)
                  have HA_6 : Hid _ := HA_5.out.below hb
                  have HB_6 : Hid _ := HB_5.out.below hb
                  have HZ_6 : Hid _ := HZ_5.out.below hb
                  have S1_6 := hid (S1_5.out.below hb)
                  have S2_6 := hid (S2_5.out.below hb)
                  have S3_6 := hid (S3_5.out.below hb)
                  have S4_6 := hid (S4_5.out.below hb)
                  have SM_6 := hid (SM_5.out.below hb)
                  clear zA0 zA1 zA2 zA3 zA4 zA5 zB0 zB1 zB2 zB3 zB4 zB5 zZ0 zZ1 zZ2 zZ3 zZ4 zZ5
                  clear hb hb5 HA_5 HB_5 HZ_5 S1_5 S2_5 S3_5 S4_5 SM_5
                  obtain ⟨zA0, zA1, zA2, zA3, zA4, zA5⟩ := HA_6.out.cells
                  obtain ⟨zB0, zB1, zB2, zB3, zB4, zB5⟩ := HB_6.out.cells
                  obtain ⟨zZ0, zZ1, zZ2, zZ3, zZ4, zZ5⟩ := HZ_6.out.cells
                  go_upto_region 5 with (refine (eqc HC2.out (sub_any _ _ _ _ _ S3_6.out SM_6.out)).mono ?_; rintro e w7 ⟨rfl, hb⟩)
                  have hb7 : Below W.heap.size W w7 := hb6.trans (hb.mono hb6.size)
                  have HA_7 : Hid _ := HA_6.out.below hb
                  have HB_7 : Hid _ := HB_6.out.below hb
                  have HZ_7 : Hid _ := HZ_6.out.below hb
                  have S1_7 := hid (S1_6.out.below hb)
                  have S2_7 := hid (S2_6.out.below hb)
                  have S3_7 := hid (S3_6.out.below hb)
                  have S4_7 := hid (S4_6.out.below hb)
                  have SM_7 := hid (SM_6.out.below hb)
                  clear zA0 zA1 zA2 zA3 zA4 zA5 zB0 zB1 zB2 zB3 zB4 zB5 zZ0 zZ1 zZ2 zZ3 zZ4 zZ5
                  clear hb hb6 HA_6 HB_6 HZ_6 S1_6 S2_6 S3_6 S4_6 SM_6
                  have c1 := HC1.out
                  have c2 := HC2.out
                  rw [HTK.out.1, HTM.out] at c1
                  rw [HTK.out.2.2.1, HTM.out] at c2
                  have hjs : ∀ x ∈ joinL (takenD d).lo (takenD o).lo, x ∈ meetL (takenD d).up (takenD o).up := (subB_iff _ _).1 (by rw [sub_join2, c1, c2]; rfl)
                  have hjl : (joinL (takenD d).lo (takenD o).lo).length ≤ 1000 := by have := (join_set (taken_right d).2.2.1 (taken_right o).2.2.1 (meet_set (taken_right d).2.2.2.1 _) hjs).1; omega
                  have hml : (meetL (takenD d).up (takenD o).up).length ≤ 1000 := by have := (meet_set (taken_right d).2.2.2.1 (takenD o).up).1; omega
                  have HCC : Hid (_ ∧ _) := ⟨c1, c2⟩
                  have HJL : Hid _ := hjl
                  clear c1 c2 hjs hjl
                  have HK : ∀ X, Below w7.heap.size w7 X → X.cell? ⟨W.heap.size, 2, none⟩ = some (.slice p1a m1a k1a) ∧ X.cell? ⟨W.heap.size, 4, none⟩ = some (.int .i64 y4a) ∧ X.cell? ⟨W.heap.size, 5, none⟩ = some (.int .i64 y5a) ∧ X.cell? ⟨W.heap.size + 1, 2, none⟩ = some (.slice p1b m1b k1b) ∧ X.cell? ⟨W.heap.size + 1, 4, none⟩ = some (.int .i64 y4b) ∧ X.cell? ⟨W.heap.size + 1, 5, none⟩ = some (.int .i64 y5b) := fun X hX => by
                    obtain ⟨_, _, c2, _, c4, c5⟩ := (HA_7.out.below hX).cells
                    obtain ⟨_, _, e2, _, e4, e5⟩ := (HB_7.out.below hX).cells
                    exact ⟨c2, c4, c5, e2, e4, e5⟩
                  have HKS : ∀ X cs, Below w7.heap.size w7 X → (X.setRow (W.heap.size + 2) cs).cell? ⟨W.heap.size, 2, none⟩ = some (.slice p1a m1a k1a) ∧ (X.setRow (W.heap.size + 2) cs).cell? ⟨W.heap.size, 4, none⟩ = some (.int .i64 y4a) ∧ (X.setRow (W.heap.size + 2) cs).cell? ⟨W.heap.size, 5, none⟩ = some (.int .i64 y5a) ∧ (X.setRow (W.heap.size + 2) cs).cell? ⟨W.heap.size + 1, 2, none⟩ = some (.slice p1b m1b k1b) ∧ (X.setRow (W.heap.size + 2) cs).cell? ⟨W.heap.size + 1, 4, none⟩ = some (.int .i64 y4b) ∧ (X.setRow (W.heap.size + 2) cs).cell? ⟨W.heap.size + 1, 5, none⟩ = some (.int .i64 y5b) := fun X cs hX => by
                    obtain ⟨_, _, c2, _, c4, c5⟩ := ((HA_7.out.below hX).other (show W.heap.size ≠ W.heap.size + 2 by omega) cs).cells
                    obtain ⟨_, _, e2, _, e4, e5⟩ := ((HB_7.out.below hX).other (show W.heap.size + 1 ≠ W.heap.size + 2 by omega) cs).cells
                    exact ⟨c2, c4, c5, e2, e4, e5⟩
                  have hB0 : Below w7.heap.size w7 w7.drew := Below.drew (Below.refl _ _)
                  have k10 : Calls Tryz.prog 116 #[.slice p1a m1a k1a, .slice p1b m1b k1b] w7.drew fun e w' => ∃ p n c, e = .returned (.slice p n c) ∧ Hid (Si w' (.slice p n c) (joinL (takenD d).lo (takenD o).lo)) ∧ Below w7.heap.size w7 w' :=
                    (join_any _ _ _ _ _ (S1_7.out.below hB0) (S3_7.out.below hB0)).mono fun e w' ⟨v, he, hr, hb⟩ => by
                      rw [HTK.out.1, HTK.out.2.2.1] at hr
                      obtain ⟨p, c, rfl⟩ := own_slice hr
                      exact ⟨p, _, c, he, own_si hr, hB0.trans (hb.mono hB0.size)⟩
                  obtain ⟨mx, hmx⟩ : ∃ m, max y4a y4b = m := ⟨_, rfl⟩
                  obtain ⟨mn, hmn⟩ : ∃ m, min y5a y5b = m := ⟨_, rfl⟩
                  have HX : Hid (max y4a y4b = mx ∧ min y5a y5b = mn) := ⟨hmx, hmn⟩
                  have k75 := fun q X (hX : Below w7.heap.size w7 X) (hq : Si X q (joinL (takenD d).lo (takenD o).lo)) => tight_look q (.slice pm nm cm) _ _ mx mn X hq (SM_7.out.below hX) HJL.out hml
                  have HB9 : Hid _ := hb7
                  have hsz := hb7.size
                  clear hml
                  refine wp_region_held_drew (S := (fun w' => w'.cell? ⟨W.heap.size, 2, none⟩ = some (.slice p1a m1a k1a) ∧ w'.cell? ⟨W.heap.size, 4, none⟩ = some (.int .i64 y4a) ∧ w'.cell? ⟨W.heap.size, 5, none⟩ = some (.int .i64 y5a) ∧ w'.cell? ⟨W.heap.size + 1, 2, none⟩ = some (.slice p1b m1b k1b) ∧ w'.cell? ⟨W.heap.size + 1, 4, none⟩ = some (.int .i64 y4b) ∧ w'.cell? ⟨W.heap.size + 1, 5, none⟩ = some (.int .i64 y5b))) (by kernel_rfl) (HK _ hB0) (fun hHeld => ?_)
                  refine tkA 0 oYOl0 hHeld ?_
                  try simp only [oYOl0, Act.put, zS, z0, z1]
                  refine tkA 1 oYOl1 hHeld ?_
                  try simp only [oYOl1, Act.put, zS, z0, z1]
                  refine tkA 2 oYOl2 hHeld ?_
                  try simp only [oYOl2, Act.put, zS, z0, z1]
                  refine tkA 3 oYOl3 hHeld ?_
                  try simp only [oYOl3, Act.put, zS, z0, z1]
                  refine tkA 5 oYOl4 hHeld ?_
                  try simp only [oYOl4, Act.put, zS, z0, z1]
                  refine tkA 6 oYOl5 hHeld ?_
                  try simp only [oYOl5, Act.put, zS, z0, z1]
                  refine tkA 7 oYOl6 hHeld ?_
                  try simp only [oYOl6, Act.put, zS, z0, z1]
                  refine tkA 8 oYOl7 hHeld ?_
                  try simp only [oYOl7, Act.put, zS, z0, z1]
                  refine tkA 9 oYOl8 hHeld ?_
                  try simp only [oYOl8, Act.put, zS, z0, z1]
                  refine tkA 10 oYOl9 hHeld ?_
                  try simp only [oYOl9, Act.put, zS, z0, z1]
                  refine tkA 11 oYOl10 hHeld ?_
                  try simp only [oYOl10, Act.put, zS, z0, z1]
                  refine tkA 12 oYOl11 hHeld ?_
                  try simp only [oYOl11, Act.put, zS, z0, z1]
                  refine tkA 13 oYOl12 hHeld ?_
                  try simp only [oYOl12, Act.put, zS, z0, z1]
                  refine tkA 14 oYOl13 hHeld ?_
                  try simp only [oYOl13, Act.put, zS, z0, z1]
                  refine tkA 15 oYOl14 hHeld ?_
                  try simp only [oYOl14, Act.put, zS, z0, z1]
                  refine rdy 4 rfl fun K hK => ?_
                  go_simp
                  refine k10.mono ?_
                  rintro e w25 ⟨p9, n9, c9, rfl, HJ, hb25⟩
                  refine hK.out _ _ (HK _ hb25) (fun hHeld2 => ?_)
                  clear hK K hHeld; have hHeld := hHeld2; clear hHeld2
                  try simp only [Act.put, zS, z0, z1]
                  refine rdy 16 rfl fun K hK => ?_
                  go_simp
                  refine (k75 _ _ hb25 HJ.out).mono ?_
                  rintro e w26 ⟨g0, q1, h1, j1, q2, h2, j2, g4, g5, rfl, HV, hb26'⟩
                  have hb26 : Below w7.heap.size w7 w26 := hb25.trans (hb26'.mono hb25.size)
                  refine hK.out _ _ (HK _ hb26) (fun hHeld2 => ?_)
                  clear hK K hHeld; have hHeld := hHeld2; clear hHeld2
                  try simp only [Act.put, zS, z0, z1]
                  refine rdy 17 rfl fun K hK => ?_
                  refine step37 rfl (.tmp 4) (.tmp 44) rfl (W.heap.size + 2) (.bool g0) (.slice none 0 0) (.slice q1 h1 j1) (.slice q2 h2 j2) (.int .i64 g4) (.int .i64 g5) (by with_unfolding_all rfl) (by with_unfolding_all rfl) (HZ_7.out.below hb26) (six_dom _ _ _ _ _ _ _ _ _ _ _ _) ?_
                  refine hK.out _ _ (HKS _ _ hb26) (fun hHeld2 => ?_)
                  clear hK K hHeld; have hHeld := hHeld2; clear hHeld2
                  try simp only [Act.put, zS, z0, z1]
                  refine wpAnyH_done (by kernel_rfl) ?_ _
                  go_wp2
                  refine ⟨rfl, _, R6.res rfl _ ((HZ_7.out.below hb26).set (.bool g0) (.slice none 0 0) (.slice q1 h1 j1) (.slice q2 h2 j2) (.int .i64 g4) (.int .i64 g5)) rfl, ⟨_, rfl, ?_, below_setRow (HB9.out.trans (hb26.mono hsz)) (by omega) _⟩⟩
                  rw [HM.out, HCC.out.1, HCC.out.2]
                  simp only [Bool.not_true, Bool.or_self, Bool.false_eq_true, if_false]
                  rw [HLa.out.1, HLa.out.2, HLb.out.1, HLb.out.2, HX.out.1, HX.out.2]
                  exact (HV.out.base (Nat.le_trans hsz hb25.size)).set (HZ_7.out.below hb26) _
            exact AllReadyH.nil
          exact AllReadyH.nil
        exact AllReadyH.nil
      exact AllReadyH.nil
    exact AllReadyH.nil
  exact AllReadyH.nil
end Go.Proofs.YtghnfnieppfhgaaGreat.St

