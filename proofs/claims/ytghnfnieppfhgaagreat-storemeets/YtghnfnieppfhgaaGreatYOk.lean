/-
  What is proved here: what sets.Same tells of any two domains.
-/
import Derived.Test.YtghnfnieppfhgaaGreatAa
import Derived.Test.YtghnfnieppfhgaaGreatYTbj
namespace Go.Proofs.YtghnfnieppfhgaaGreat.St
open Go.RowKit Go.Shelf
set_option linter.unusedVariables false
set_option linter.unusedSimpArgs false

theorem eqc {P : Program} {F : Nat} {args : Array Value} {W : World} {b c : Bool} {Q : World → Prop} (h : b = c) (k : Calls P F args W fun e w' => e = .returned (.bool b) ∧ Q w') : Calls P F args W fun e w' => e = .returned (.bool c) ∧ Q w' := by
  subst h; exact k

set_option maxRecDepth 100000 in
set_option maxHeartbeats 4000000 in
theorem same_dom (v u : Value) (d o : SD) (W : World) (h : Di W v d) (ho : Di W u o) :
    Calls Tryz.prog 75 #[v, u] W fun e w' => e = .returned (.bool (sameD d o)) ∧ Below W.heap.size W w' := by
  have hM : sameD d o = (decide ((takenD d).lo = (takenD o).lo) && decide ((takenD d).up = (takenD o).up) && decide ((takenD d).least = (takenD o).least) && decide ((takenD d).most = (takenD o).most)) := rfl
  have HM : Hid _ := hM
  generalize sameD d o = MD at hM HM ⊢
  clear hM
  have hl1 : (takenD d).lo.length * 8 ≤ 140737488351232 := by have := (taken_right d).2.2.1.1; omega
  have hl2 : (takenD d).up.length * 8 ≤ 140737488351232 := by have := (taken_right d).2.2.2.1.1; omega
  have k77a := fun X (hX : Below W.heap.size W X) => taken_look v d X (h.below hX)
  have k77b := fun X (hX : Below W.heap.size W X) => taken_look u o X (ho.below hX)
  obtain ⟨x0a, raa, rna, rca, a1a, n1a, c1a, a2a, n2a, c2a, x4a, x5a, rfl, HEa, _, _⟩ := h.look
  obtain ⟨x0b, rab, rnb, rcb, a1b, n1b, c1b, a2b, n2b, c2b, x4b, x5b, rfl, HEb, _, _⟩ := ho.look
  obtain ⟨W0, hW0⟩ : ∃ X, (W.alloc (Obj.cells #[.bool x0a, .slice raa rna rca, .slice a1a n1a c1a, .slice a2a n2a c2a, .int .i64 x4a, .int .i64 x5a] 37)).alloc (Obj.cells #[.bool x0b, .slice rab rnb rcb, .slice a1b n1b c1b, .slice a2b n2b c2b, .int .i64 x4b, .int .i64 x5b] 37) = X := ⟨_, rfl⟩
  have HW0 : Hid _ := hW0
  have hb0 : Below W.heap.size W W0 := by rw [← hW0]; exact (((Below.refl _ W).alloc (Nat.le_refl _) _).alloc (by simp) _)
  have HA0 : Hid (R6 W0 W.heap.size (.bool x0a) (.slice raa rna rca) (.slice a1a n1a c1a) (.slice a2a n2a c2a) (.int .i64 x4a) (.int .i64 x5a)) := by rw [← hW0]; exact (R6.new _ _ _ _ _ _ _).alloc _
  have HB0 : Hid (R6 W0 (W.heap.size + 1) (.bool x0b) (.slice rab rnb rcb) (.slice a1b n1b c1b) (.slice a2b n2b c2b) (.int .i64 x4b) (.int .i64 x5b)) := by rw [← hW0]; exact R6.new1 _ _ _ _ _ _ _ _
  clear hW0 h ho HEa HEb
  go_enter Tryz.func75, Tryz.ntmps75
  go_upto_region 1 with (fail)
  rw [HW0.out]
  refine wp_region_held_drew (S := fun _ => True) (by kernel_rfl) trivial (fun hHeld => ?_)
  have hbd : Below W.heap.size W W0.drew := Below.drew hb0
  have HAd : Hid (R6 W0.drew W.heap.size (.bool x0a) (.slice raa rna rca) (.slice a1a n1a c1a) (.slice a2a n2a c2a) (.int .i64 x4a) (.int .i64 x5a)) := ⟨HA0.out.h⟩
  have HBd : Hid (R6 W0.drew (W.heap.size + 1) (.bool x0b) (.slice rab rnb rcb) (.slice a1b n1b c1b) (.slice a2b n2b c2b) (.int .i64 x4b) (.int .i64 x5b)) := ⟨HB0.out.h⟩
  clear hb0 HA0 HB0 HW0
  generalize W0.drew = w0 at *
  clear W0
  refine wpAnyH_ready (rs := [0, 2]) (by kernel_rfl) (by simp) ?_
  refine AllReadyH.cons rfl (fun K hK => ?_) ?_
  · obtain ⟨z0, z1, z2, z3, z4, z5⟩ := HAd.out.cells
    go_simp
    clear z0 z1 z2 z3 z4 z5
    refine hK.out _ _ trivial (fun _ => ?_)
    clear hK K
    try simp only [Act.put, List.setIfInBounds_toArray, List.set_cons_zero, List.set_cons_succ]
    refine wpAnyH_ready (rs := [1, 2]) (by kernel_rfl) (by simp) ?_
    refine AllReadyH.cons rfl (fun K hK => ?_) ?_
    · go_simp
      refine (k77a _ hbd).mono ?_
      rintro e w1 ⟨y0a, p1a, m1a, k1a, p2a, m2a, k2a, y4a, y5a, rfl, HDa, HLa, hs1a, hs2a, hb⟩
      have hb1 : Below W.heap.size W w1 := hbd.trans (hb.mono hbd.size)
      have HA1 := hid (HAd.out.below hb)
      have HB1 := hid (HBd.out.below hb)
      clear hb hbd HAd HBd
      refine hK.out _ _ trivial (fun _ => ?_)
      clear hK K
      try simp only [Act.put, List.setIfInBounds_toArray, List.set_cons_zero, List.set_cons_succ]
      refine wpAnyH_ready (rs := [2]) (by kernel_rfl) (by simp) ?_
      refine AllReadyH.cons rfl (fun K hK => ?_) ?_
      · obtain ⟨z0, z1, z2, z3, z4, z5⟩ := HB1.out.cells
        go_simp
        clear z0 z1 z2 z3 z4 z5
        refine hK.out _ _ trivial (fun _ => ?_)
        clear hK K
        try simp only [Act.put, List.setIfInBounds_toArray, List.set_cons_zero, List.set_cons_succ]
        refine wpAnyH_ready (rs := [3]) (by kernel_rfl) (by simp) ?_
        refine AllReadyH.cons rfl (fun K hK => ?_) ?_
        · go_simp
          refine (k77b _ hb1).mono ?_
          rintro e w2 ⟨y0b, p1b, m1b, k1b, p2b, m2b, k2b, y4b, y5b, rfl, HDb, HLb, hs1b, hs2b, hb⟩
          have hb2 : Below W.heap.size W w2 := hb1.trans (hb.mono hb1.size)
          have HA2 := hid (HA1.out.below hb)
          have HB2 := hid (HB1.out.below hb)
          have HDa2 : Hid (Dv 0 w2 (.agg #[.bool y0a, .slice none 0 0, .slice p1a m1a k1a, .slice p2a m2a k2a, .int .i64 y4a, .int .i64 y5a]) (takenD d)) := (HDa.out.base (Nat.zero_le _)).below hb
          have HDb2 : Hid (Dv 0 w2 (.agg #[.bool y0b, .slice none 0 0, .slice p1b m1b k1b, .slice p2b m2b k2b, .int .i64 y4b, .int .i64 y5b]) (takenD o)) := HDb.out.base (Nat.zero_le _)
          clear hb hb1 HA1 HB1
          refine hK.out _ _ trivial (fun _ => ?_)
          clear hK K
          try simp only [Act.put, List.setIfInBounds_toArray, List.set_cons_zero, List.set_cons_succ]
          refine wpAnyH_ready (rs := [4]) (by kernel_rfl) (by simp) ?_
          refine AllReadyH.cons rfl (fun K hK => ?_) ?_
          · refine step37 rfl (.tmp 2) (.tmp 6) rfl W.heap.size (.bool y0a) (.slice none 0 0) (.slice p1a m1a k1a) (.slice p2a m2a k2a) (.int .i64 y4a) (.int .i64 y5a) (by with_unfolding_all rfl) (by with_unfolding_all rfl) HA2.out (six_dom _ _ _ _ _ _ _ _ _ _ _ _) ?_
            have HA3 : Hid _ := HA2.out.set (.bool y0a) (.slice none 0 0) (.slice p1a m1a k1a) (.slice p2a m2a k2a) (.int .i64 y4a) (.int .i64 y5a)
            have HB3 : Hid _ := HB2.out.other (show (W.heap.size + 1) ≠ W.heap.size by omega) #[.bool y0a, .slice none 0 0, .slice p1a m1a k1a, .slice p2a m2a k2a, .int .i64 y4a, .int .i64 y5a]
            have HDa3 := hid (HDa2.out.set HA2.out #[.bool y0a, .slice none 0 0, .slice p1a m1a k1a, .slice p2a m2a k2a, .int .i64 y4a, .int .i64 y5a])
            have HDb3 := hid (HDb2.out.set HA2.out #[.bool y0a, .slice none 0 0, .slice p1a m1a k1a, .slice p2a m2a k2a, .int .i64 y4a, .int .i64 y5a])
            have hb3 := below_setRow hb2 (Nat.le_refl W.heap.size) #[.bool y0a, .slice none 0 0, .slice p1a m1a k1a, .slice p2a m2a k2a, .int .i64 y4a, .int .i64 y5a]
            clear HA2 HB2 hb2 HDa2 HDb2
            generalize w2.setRow W.heap.size #[.bool y0a, .slice none 0 0, .slice p1a m1a k1a, .slice p2a m2a k2a, .int .i64 y4a, .int .i64 y5a] = w3 at HA3 HB3 HDa3 HDb3 hb3 ⊢
            refine hK.out _ _ trivial (fun _ => ?_)
            clear hK K
            try simp only [Act.put, List.setIfInBounds_toArray, List.set_cons_zero, List.set_cons_succ]
            refine wpAnyH_ready (rs := [5]) (by kernel_rfl) (by simp) ?_
            refine AllReadyH.cons rfl (fun K hK => ?_) ?_
            · refine step37 rfl (.tmp 3) (.tmp 8) rfl (W.heap.size + 1) (.bool y0b) (.slice none 0 0) (.slice p1b m1b k1b) (.slice p2b m2b k2b) (.int .i64 y4b) (.int .i64 y5b) (by with_unfolding_all rfl) (by with_unfolding_all rfl) HB3.out (six_dom _ _ _ _ _ _ _ _ _ _ _ _) ?_
              have HB4 : Hid _ := HB3.out.set (.bool y0b) (.slice none 0 0) (.slice p1b m1b k1b) (.slice p2b m2b k2b) (.int .i64 y4b) (.int .i64 y5b)
              have HA4 : Hid _ := HA3.out.other (show W.heap.size ≠ (W.heap.size + 1) by omega) #[.bool y0b, .slice none 0 0, .slice p1b m1b k1b, .slice p2b m2b k2b, .int .i64 y4b, .int .i64 y5b]
              have HDa4 := hid (HDa3.out.set HB3.out #[.bool y0b, .slice none 0 0, .slice p1b m1b k1b, .slice p2b m2b k2b, .int .i64 y4b, .int .i64 y5b])
              have HDb4 := hid (HDb3.out.set HB3.out #[.bool y0b, .slice none 0 0, .slice p1b m1b k1b, .slice p2b m2b k2b, .int .i64 y4b, .int .i64 y5b])
              have hb4 := below_setRow hb3 (show W.heap.size ≤ (W.heap.size + 1) by omega) #[.bool y0b, .slice none 0 0, .slice p1b m1b k1b, .slice p2b m2b k2b, .int .i64 y4b, .int .i64 y5b]
              clear HA3 HB3 hb3 HDa3 HDb3
              generalize w3.setRow (W.heap.size + 1) #[.bool y0b, .slice none 0 0, .slice p1b m1b k1b, .slice p2b m2b k2b, .int .i64 y4b, .int .i64 y5b] = w4 at HA4 HB4 HDa4 HDb4 hb4 ⊢
              refine hK.out _ _ trivial (fun _ => ?_)
              clear hK K
              try simp only [Act.put, List.setIfInBounds_toArray, List.set_cons_zero, List.set_cons_succ]
              refine wpAnyH_done (by kernel_rfl) ?_ _
              have HA_4 : Hid _ := HA4.out
              have HB_4 : Hid _ := HB4.out
              clear HA4 HB4 hHeld
              have S1_4 : Hid (Si w4 (.slice p1a m1a k1a) (takenD d).lo) := (dv_si HDa4.out).1
              have S2_4 : Hid (Si w4 (.slice p2a m2a k2a) (takenD d).up) := (dv_si HDa4.out).2
              have S3_4 : Hid (Si w4 (.slice p1b m1b k1b) (takenD o).lo) := (dv_si HDb4.out).1
              have S4_4 : Hid (Si w4 (.slice p2b m2b k2b) (takenD o).up) := (dv_si HDb4.out).2
              clear HDa4 HDb4
              obtain ⟨zA0, zA1, zA2, zA3, zA4, zA5⟩ := HA_4.out.cells
              obtain ⟨zB0, zB1, zB2, zB3, zB4, zB5⟩ := HB_4.out.cells
              cases hc1 : decide ((takenD d).lo = (takenD o).lo)
              · have HC1 : Hid (_ = _) := hc1
                clear hc1
                go_wp2_with fail
                refine (eqc HC1.out (equal_any _ _ _ _ _ S1_4.out S3_4.out hl1)).mono ?_
                rintro e w5 ⟨rfl, hb⟩
                have hb5 : Below W.heap.size W w5 := hb4.trans (hb.mono hb4.size)
                have HA_5 : Hid _ := HA_4.out.below hb
                have HB_5 : Hid _ := HB_4.out.below hb
                have S1_5 := hid (S1_4.out.below hb)
                have S2_5 := hid (S2_4.out.below hb)
                have S3_5 := hid (S3_4.out.below hb)
                have S4_5 := hid (S4_4.out.below hb)
                clear zA0 zA1 zA2 zA3 zA4 zA5 zB0 zB1 zB2 zB3 zB4 zB5
                clear hb hb4 HA_4 HB_4 S1_4 S2_4 S3_4 S4_4
                obtain ⟨zA0, zA1, zA2, zA3, zA4, zA5⟩ := HA_5.out.cells
                obtain ⟨zB0, zB1, zB2, zB3, zB4, zB5⟩ := HB_5.out.cells
                go_wp2
                go_ret
                exact ⟨ret_bool (by rw [HM.out, HLa.out.1, HLa.out.2, HLb.out.1, HLb.out.2]; rw [HC1.out]; simp), hb5⟩
              · have HC1 : Hid (_ = _) := hc1
                clear hc1
                cases hc2 : decide ((takenD d).up = (takenD o).up)
                · have HC2 : Hid (_ = _) := hc2
                  clear hc2
                  go_wp2_with fail
                  refine (eqc HC1.out (equal_any _ _ _ _ _ S1_4.out S3_4.out hl1)).mono ?_
                  rintro e w5 ⟨rfl, hb⟩
                  have hb5 : Below W.heap.size W w5 := hb4.trans (hb.mono hb4.size)
                  have HA_5 : Hid _ := HA_4.out.below hb
                  have HB_5 : Hid _ := HB_4.out.below hb
                  have S1_5 := hid (S1_4.out.below hb)
                  have S2_5 := hid (S2_4.out.below hb)
                  have S3_5 := hid (S3_4.out.below hb)
                  have S4_5 := hid (S4_4.out.below hb)
                  clear zA0 zA1 zA2 zA3 zA4 zA5 zB0 zB1 zB2 zB3 zB4 zB5
                  clear hb hb4 HA_4 HB_4 S1_4 S2_4 S3_4 S4_4
                  obtain ⟨zA0, zA1, zA2, zA3, zA4, zA5⟩ := HA_5.out.cells
                  obtain ⟨zB0, zB1, zB2, zB3, zB4, zB5⟩ := HB_5.out.cells
                  go_wp2_with fail
                  refine (eqc HC2.out (equal_any _ _ _ _ _ S2_5.out S4_5.out hl2)).mono ?_
                  rintro e w6 ⟨rfl, hb⟩
                  have hb6 : Below W.heap.size W w6 := hb5.trans (hb.mono hb5.size)
                  have HA_6 : Hid _ := HA_5.out.below hb
                  have HB_6 : Hid _ := HB_5.out.below hb
                  have S1_6 := hid (S1_5.out.below hb)
                  have S2_6 := hid (S2_5.out.below hb)
                  have S3_6 := hid (S3_5.out.below hb)
                  have S4_6 := hid (S4_5.out.below hb)
                  clear zA0 zA1 zA2 zA3 zA4 zA5 zB0 zB1 zB2 zB3 zB4 zB5
                  clear hb hb5 HA_5 HB_5 S1_5 S2_5 S3_5 S4_5
                  obtain ⟨zA0, zA1, zA2, zA3, zA4, zA5⟩ := HA_6.out.cells
                  obtain ⟨zB0, zB1, zB2, zB3, zB4, zB5⟩ := HB_6.out.cells
                  go_wp2
                  go_ret
                  exact ⟨ret_bool (by rw [HM.out, HLa.out.1, HLa.out.2, HLb.out.1, HLb.out.2]; rw [HC1.out, HC2.out]; simp), hb6⟩
                · have HC2 : Hid (_ = _) := hc2
                  clear hc2
                  by_cases h4 : y4a = y4b
                  · by_cases h5 : y5a = y5b
                    · subst h4 h5
                      go_wp2_with fail
                      refine (eqc HC1.out (equal_any _ _ _ _ _ S1_4.out S3_4.out hl1)).mono ?_
                      rintro e w5 ⟨rfl, hb⟩
                      have hb5 : Below W.heap.size W w5 := hb4.trans (hb.mono hb4.size)
                      have HA_5 : Hid _ := HA_4.out.below hb
                      have HB_5 : Hid _ := HB_4.out.below hb
                      have S1_5 := hid (S1_4.out.below hb)
                      have S2_5 := hid (S2_4.out.below hb)
                      have S3_5 := hid (S3_4.out.below hb)
                      have S4_5 := hid (S4_4.out.below hb)
                      clear zA0 zA1 zA2 zA3 zA4 zA5 zB0 zB1 zB2 zB3 zB4 zB5
                      clear hb hb4 HA_4 HB_4 S1_4 S2_4 S3_4 S4_4
                      obtain ⟨zA0, zA1, zA2, zA3, zA4, zA5⟩ := HA_5.out.cells
                      obtain ⟨zB0, zB1, zB2, zB3, zB4, zB5⟩ := HB_5.out.cells
                      go_wp2_with fail
                      refine (eqc HC2.out (equal_any _ _ _ _ _ S2_5.out S4_5.out hl2)).mono ?_
                      rintro e w6 ⟨rfl, hb⟩
                      have hb6 : Below W.heap.size W w6 := hb5.trans (hb.mono hb5.size)
                      have HA_6 : Hid _ := HA_5.out.below hb
                      have HB_6 : Hid _ := HB_5.out.below hb
                      have S1_6 := hid (S1_5.out.below hb)
                      have S2_6 := hid (S2_5.out.below hb)
                      have S3_6 := hid (S3_5.out.below hb)
                      have S4_6 := hid (S4_5.out.below hb)
                      clear zA0 zA1 zA2 zA3 zA4 zA5 zB0 zB1 zB2 zB3 zB4 zB5
                      clear hb hb5 HA_5 HB_5 S1_5 S2_5 S3_5 S4_5
                      obtain ⟨zA0, zA1, zA2, zA3, zA4, zA5⟩ := HA_6.out.cells
                      obtain ⟨zB0, zB1, zB2, zB3, zB4, zB5⟩ := HB_6.out.cells
                      go_wp2
                      go_ret
                      exact ⟨ret_bool (by rw [HM.out, HLa.out.1, HLa.out.2, HLb.out.1, HLb.out.2]; rw [HC1.out, HC2.out]; simp), hb6⟩
                    · subst h4
                      go_wp2_with fail
                      refine (eqc HC1.out (equal_any _ _ _ _ _ S1_4.out S3_4.out hl1)).mono ?_
                      rintro e w5 ⟨rfl, hb⟩
                      have hb5 : Below W.heap.size W w5 := hb4.trans (hb.mono hb4.size)
                      have HA_5 : Hid _ := HA_4.out.below hb
                      have HB_5 : Hid _ := HB_4.out.below hb
                      have S1_5 := hid (S1_4.out.below hb)
                      have S2_5 := hid (S2_4.out.below hb)
                      have S3_5 := hid (S3_4.out.below hb)
                      have S4_5 := hid (S4_4.out.below hb)
                      clear zA0 zA1 zA2 zA3 zA4 zA5 zB0 zB1 zB2 zB3 zB4 zB5
                      clear hb hb4 HA_4 HB_4 S1_4 S2_4 S3_4 S4_4
                      obtain ⟨zA0, zA1, zA2, zA3, zA4, zA5⟩ := HA_5.out.cells
                      obtain ⟨zB0, zB1, zB2, zB3, zB4, zB5⟩ := HB_5.out.cells
                      go_wp2_with fail
                      refine (eqc HC2.out (equal_any _ _ _ _ _ S2_5.out S4_5.out hl2)).mono ?_
                      rintro e w6 ⟨rfl, hb⟩
                      have hb6 : Below W.heap.size W w6 := hb5.trans (hb.mono hb5.size)
                      have HA_6 : Hid _ := HA_5.out.below hb
                      have HB_6 : Hid _ := HB_5.out.below hb
                      have S1_6 := hid (S1_5.out.below hb)
                      have S2_6 := hid (S2_5.out.below hb)
                      have S3_6 := hid (S3_5.out.below hb)
                      have S4_6 := hid (S4_5.out.below hb)
                      clear zA0 zA1 zA2 zA3 zA4 zA5 zB0 zB1 zB2 zB3 zB4 zB5
                      clear hb hb5 HA_5 HB_5 S1_5 S2_5 S3_5 S4_5
                      obtain ⟨zA0, zA1, zA2, zA3, zA4, zA5⟩ := HA_6.out.cells
                      obtain ⟨zB0, zB1, zB2, zB3, zB4, zB5⟩ := HB_6.out.cells
                      go_wp2
                      go_ret
                      exact ⟨ret_bool (by rw [HM.out, HLa.out.1, HLa.out.2, HLb.out.1, HLb.out.2]; rw [HC1.out, HC2.out]; simp [h5]), hb6⟩
                  · go_wp2_with fail
                    refine (eqc HC1.out (equal_any _ _ _ _ _ S1_4.out S3_4.out hl1)).mono ?_
                    rintro e w5 ⟨rfl, hb⟩
                    have hb5 : Below W.heap.size W w5 := hb4.trans (hb.mono hb4.size)
                    have HA_5 : Hid _ := HA_4.out.below hb
                    have HB_5 : Hid _ := HB_4.out.below hb
                    have S1_5 := hid (S1_4.out.below hb)
                    have S2_5 := hid (S2_4.out.below hb)
                    have S3_5 := hid (S3_4.out.below hb)
                    have S4_5 := hid (S4_4.out.below hb)
                    clear zA0 zA1 zA2 zA3 zA4 zA5 zB0 zB1 zB2 zB3 zB4 zB5
                    clear hb hb4 HA_4 HB_4 S1_4 S2_4 S3_4 S4_4
                    obtain ⟨zA0, zA1, zA2, zA3, zA4, zA5⟩ := HA_5.out.cells
                    obtain ⟨zB0, zB1, zB2, zB3, zB4, zB5⟩ := HB_5.out.cells
                    go_wp2_with fail
                    refine (eqc HC2.out (equal_any _ _ _ _ _ S2_5.out S4_5.out hl2)).mono ?_
                    rintro e w6 ⟨rfl, hb⟩
                    have hb6 : Below W.heap.size W w6 := hb5.trans (hb.mono hb5.size)
                    have HA_6 : Hid _ := HA_5.out.below hb
                    have HB_6 : Hid _ := HB_5.out.below hb
                    have S1_6 := hid (S1_5.out.below hb)
                    have S2_6 := hid (S2_5.out.below hb)
                    have S3_6 := hid (S3_5.out.below hb)
                    have S4_6 := hid (S4_5.out.below hb)
                    clear zA0 zA1 zA2 zA3 zA4 zA5 zB0 zB1 zB2 zB3 zB4 zB5
                    clear hb hb5 HA_5 HB_5 S1_5 S2_5 S3_5 S4_5
                    obtain ⟨zA0, zA1, zA2, zA3, zA4, zA5⟩ := HA_6.out.cells
                    obtain ⟨zB0, zB1, zB2, zB3, zB4, zB5⟩ := HB_6.out.cells
                    go_wp2
                    go_ret
                    exact ⟨ret_bool (by rw [HM.out, HLa.out.1, HLa.out.2, HLb.out.1, HLb.out.2]; rw [HC1.out, HC2.out]; simp [h4]), hb6⟩
            exact AllReadyH.nil
          exact AllReadyH.nil
        exact AllReadyH.nil
      exact AllReadyH.nil
    refine AllReadyH.cons rfl (fun K hK => ?_) ?_
    · obtain ⟨z0, z1, z2, z3, z4, z5⟩ := HBd.out.cells
      go_simp
      clear z0 z1 z2 z3 z4 z5
      refine hK.out _ _ trivial (fun _ => ?_)
      clear hK K
      try simp only [Act.put, List.setIfInBounds_toArray, List.set_cons_zero, List.set_cons_succ]
      refine wpAnyH_ready (rs := [1]) (by kernel_rfl) (by simp) ?_
      refine AllReadyH.cons rfl (fun K hK => ?_) ?_
      · go_simp
        refine (k77a _ hbd).mono ?_
        rintro e w1 ⟨y0a, p1a, m1a, k1a, p2a, m2a, k2a, y4a, y5a, rfl, HDa, HLa, hs1a, hs2a, hb⟩
        have hb1 : Below W.heap.size W w1 := hbd.trans (hb.mono hbd.size)
        have HA1 := hid (HAd.out.below hb)
        have HB1 := hid (HBd.out.below hb)
        clear hb hbd HAd HBd
        refine hK.out _ _ trivial (fun _ => ?_)
        clear hK K
        try simp only [Act.put, List.setIfInBounds_toArray, List.set_cons_zero, List.set_cons_succ]
        refine wpAnyH_ready (rs := [3]) (by kernel_rfl) (by simp) ?_
        refine AllReadyH.cons rfl (fun K hK => ?_) ?_
        · go_simp
          refine (k77b _ hb1).mono ?_
          rintro e w2 ⟨y0b, p1b, m1b, k1b, p2b, m2b, k2b, y4b, y5b, rfl, HDb, HLb, hs1b, hs2b, hb⟩
          have hb2 : Below W.heap.size W w2 := hb1.trans (hb.mono hb1.size)
          have HA2 := hid (HA1.out.below hb)
          have HB2 := hid (HB1.out.below hb)
          have HDa2 : Hid (Dv 0 w2 (.agg #[.bool y0a, .slice none 0 0, .slice p1a m1a k1a, .slice p2a m2a k2a, .int .i64 y4a, .int .i64 y5a]) (takenD d)) := (HDa.out.base (Nat.zero_le _)).below hb
          have HDb2 : Hid (Dv 0 w2 (.agg #[.bool y0b, .slice none 0 0, .slice p1b m1b k1b, .slice p2b m2b k2b, .int .i64 y4b, .int .i64 y5b]) (takenD o)) := HDb.out.base (Nat.zero_le _)
          clear hb hb1 HA1 HB1
          refine hK.out _ _ trivial (fun _ => ?_)
          clear hK K
          try simp only [Act.put, List.setIfInBounds_toArray, List.set_cons_zero, List.set_cons_succ]
          refine wpAnyH_ready (rs := [4]) (by kernel_rfl) (by simp) ?_
          refine AllReadyH.cons rfl (fun K hK => ?_) ?_
          · refine step37 rfl (.tmp 2) (.tmp 6) rfl W.heap.size (.bool y0a) (.slice none 0 0) (.slice p1a m1a k1a) (.slice p2a m2a k2a) (.int .i64 y4a) (.int .i64 y5a) (by with_unfolding_all rfl) (by with_unfolding_all rfl) HA2.out (six_dom _ _ _ _ _ _ _ _ _ _ _ _) ?_
            have HA3 : Hid _ := HA2.out.set (.bool y0a) (.slice none 0 0) (.slice p1a m1a k1a) (.slice p2a m2a k2a) (.int .i64 y4a) (.int .i64 y5a)
            have HB3 : Hid _ := HB2.out.other (show (W.heap.size + 1) ≠ W.heap.size by omega) #[.bool y0a, .slice none 0 0, .slice p1a m1a k1a, .slice p2a m2a k2a, .int .i64 y4a, .int .i64 y5a]
            have HDa3 := hid (HDa2.out.set HA2.out #[.bool y0a, .slice none 0 0, .slice p1a m1a k1a, .slice p2a m2a k2a, .int .i64 y4a, .int .i64 y5a])
            have HDb3 := hid (HDb2.out.set HA2.out #[.bool y0a, .slice none 0 0, .slice p1a m1a k1a, .slice p2a m2a k2a, .int .i64 y4a, .int .i64 y5a])
            have hb3 := below_setRow hb2 (Nat.le_refl W.heap.size) #[.bool y0a, .slice none 0 0, .slice p1a m1a k1a, .slice p2a m2a k2a, .int .i64 y4a, .int .i64 y5a]
            clear HA2 HB2 hb2 HDa2 HDb2
            generalize w2.setRow W.heap.size #[.bool y0a, .slice none 0 0, .slice p1a m1a k1a, .slice p2a m2a k2a, .int .i64 y4a, .int .i64 y5a] = w3 at HA3 HB3 HDa3 HDb3 hb3 ⊢
            refine hK.out _ _ trivial (fun _ => ?_)
            clear hK K
            try simp only [Act.put, List.setIfInBounds_toArray, List.set_cons_zero, List.set_cons_succ]
            refine wpAnyH_ready (rs := [5]) (by kernel_rfl) (by simp) ?_
            refine AllReadyH.cons rfl (fun K hK => ?_) ?_
            · refine step37 rfl (.tmp 3) (.tmp 8) rfl (W.heap.size + 1) (.bool y0b) (.slice none 0 0) (.slice p1b m1b k1b) (.slice p2b m2b k2b) (.int .i64 y4b) (.int .i64 y5b) (by with_unfolding_all rfl) (by with_unfolding_all rfl) HB3.out (six_dom _ _ _ _ _ _ _ _ _ _ _ _) ?_
              have HB4 : Hid _ := HB3.out.set (.bool y0b) (.slice none 0 0) (.slice p1b m1b k1b) (.slice p2b m2b k2b) (.int .i64 y4b) (.int .i64 y5b)
              have HA4 : Hid _ := HA3.out.other (show W.heap.size ≠ (W.heap.size + 1) by omega) #[.bool y0b, .slice none 0 0, .slice p1b m1b k1b, .slice p2b m2b k2b, .int .i64 y4b, .int .i64 y5b]
              have HDa4 := hid (HDa3.out.set HB3.out #[.bool y0b, .slice none 0 0, .slice p1b m1b k1b, .slice p2b m2b k2b, .int .i64 y4b, .int .i64 y5b])
              have HDb4 := hid (HDb3.out.set HB3.out #[.bool y0b, .slice none 0 0, .slice p1b m1b k1b, .slice p2b m2b k2b, .int .i64 y4b, .int .i64 y5b])
              have hb4 := below_setRow hb3 (show W.heap.size ≤ (W.heap.size + 1) by omega) #[.bool y0b, .slice none 0 0, .slice p1b m1b k1b, .slice p2b m2b k2b, .int .i64 y4b, .int .i64 y5b]
              clear HA3 HB3 hb3 HDa3 HDb3
              generalize w3.setRow (W.heap.size + 1) #[.bool y0b, .slice none 0 0, .slice p1b m1b k1b, .slice p2b m2b k2b, .int .i64 y4b, .int .i64 y5b] = w4 at HA4 HB4 HDa4 HDb4 hb4 ⊢
              refine hK.out _ _ trivial (fun _ => ?_)
              clear hK K
              try simp only [Act.put, List.setIfInBounds_toArray, List.set_cons_zero, List.set_cons_succ]
              refine wpAnyH_done (by kernel_rfl) ?_ _
              have HA_4 : Hid _ := HA4.out
              have HB_4 : Hid _ := HB4.out
              clear HA4 HB4 hHeld
              have S1_4 : Hid (Si w4 (.slice p1a m1a k1a) (takenD d).lo) := (dv_si HDa4.out).1
              have S2_4 : Hid (Si w4 (.slice p2a m2a k2a) (takenD d).up) := (dv_si HDa4.out).2
              have S3_4 : Hid (Si w4 (.slice p1b m1b k1b) (takenD o).lo) := (dv_si HDb4.out).1
              have S4_4 : Hid (Si w4 (.slice p2b m2b k2b) (takenD o).up) := (dv_si HDb4.out).2
              clear HDa4 HDb4
              obtain ⟨zA0, zA1, zA2, zA3, zA4, zA5⟩ := HA_4.out.cells
              obtain ⟨zB0, zB1, zB2, zB3, zB4, zB5⟩ := HB_4.out.cells
              cases hc1 : decide ((takenD d).lo = (takenD o).lo)
              · have HC1 : Hid (_ = _) := hc1
                clear hc1
                go_wp2_with fail
                refine (eqc HC1.out (equal_any _ _ _ _ _ S1_4.out S3_4.out hl1)).mono ?_
                rintro e w5 ⟨rfl, hb⟩
                have hb5 : Below W.heap.size W w5 := hb4.trans (hb.mono hb4.size)
                have HA_5 : Hid _ := HA_4.out.below hb
                have HB_5 : Hid _ := HB_4.out.below hb
                have S1_5 := hid (S1_4.out.below hb)
                have S2_5 := hid (S2_4.out.below hb)
                have S3_5 := hid (S3_4.out.below hb)
                have S4_5 := hid (S4_4.out.below hb)
                clear zA0 zA1 zA2 zA3 zA4 zA5 zB0 zB1 zB2 zB3 zB4 zB5
                clear hb hb4 HA_4 HB_4 S1_4 S2_4 S3_4 S4_4
                obtain ⟨zA0, zA1, zA2, zA3, zA4, zA5⟩ := HA_5.out.cells
                obtain ⟨zB0, zB1, zB2, zB3, zB4, zB5⟩ := HB_5.out.cells
                go_wp2
                go_ret
                exact ⟨ret_bool (by rw [HM.out, HLa.out.1, HLa.out.2, HLb.out.1, HLb.out.2]; rw [HC1.out]; simp), hb5⟩
              · have HC1 : Hid (_ = _) := hc1
                clear hc1
                cases hc2 : decide ((takenD d).up = (takenD o).up)
                · have HC2 : Hid (_ = _) := hc2
                  clear hc2
                  go_wp2_with fail
                  refine (eqc HC1.out (equal_any _ _ _ _ _ S1_4.out S3_4.out hl1)).mono ?_
                  rintro e w5 ⟨rfl, hb⟩
                  have hb5 : Below W.heap.size W w5 := hb4.trans (hb.mono hb4.size)
                  have HA_5 : Hid _ := HA_4.out.below hb
                  have HB_5 : Hid _ := HB_4.out.below hb
                  have S1_5 := hid (S1_4.out.below hb)
                  have S2_5 := hid (S2_4.out.below hb)
                  have S3_5 := hid (S3_4.out.below hb)
                  have S4_5 := hid (S4_4.out.below hb)
                  clear zA0 zA1 zA2 zA3 zA4 zA5 zB0 zB1 zB2 zB3 zB4 zB5
                  clear hb hb4 HA_4 HB_4 S1_4 S2_4 S3_4 S4_4
                  obtain ⟨zA0, zA1, zA2, zA3, zA4, zA5⟩ := HA_5.out.cells
                  obtain ⟨zB0, zB1, zB2, zB3, zB4, zB5⟩ := HB_5.out.cells
                  go_wp2_with fail
                  refine (eqc HC2.out (equal_any _ _ _ _ _ S2_5.out S4_5.out hl2)).mono ?_
                  rintro e w6 ⟨rfl, hb⟩
                  have hb6 : Below W.heap.size W w6 := hb5.trans (hb.mono hb5.size)
                  have HA_6 : Hid _ := HA_5.out.below hb
                  have HB_6 : Hid _ := HB_5.out.below hb
                  have S1_6 := hid (S1_5.out.below hb)
                  have S2_6 := hid (S2_5.out.below hb)
                  have S3_6 := hid (S3_5.out.below hb)
                  have S4_6 := hid (S4_5.out.below hb)
                  clear zA0 zA1 zA2 zA3 zA4 zA5 zB0 zB1 zB2 zB3 zB4 zB5
                  clear hb hb5 HA_5 HB_5 S1_5 S2_5 S3_5 S4_5
                  obtain ⟨zA0, zA1, zA2, zA3, zA4, zA5⟩ := HA_6.out.cells
                  obtain ⟨zB0, zB1, zB2, zB3, zB4, zB5⟩ := HB_6.out.cells
                  go_wp2
                  go_ret
                  exact ⟨ret_bool (by rw [HM.out, HLa.out.1, HLa.out.2, HLb.out.1, HLb.out.2]; rw [HC1.out, HC2.out]; simp), hb6⟩
                · have HC2 : Hid (_ = _) := hc2
                  clear hc2
                  by_cases h4 : y4a = y4b
                  · by_cases h5 : y5a = y5b
                    · subst h4 h5
                      go_wp2_with fail
                      refine (eqc HC1.out (equal_any _ _ _ _ _ S1_4.out S3_4.out hl1)).mono ?_
                      rintro e w5 ⟨rfl, hb⟩
                      have hb5 : Below W.heap.size W w5 := hb4.trans (hb.mono hb4.size)
                      have HA_5 : Hid _ := HA_4.out.below hb
                      have HB_5 : Hid _ := HB_4.out.below hb
                      have S1_5 := hid (S1_4.out.below hb)
                      have S2_5 := hid (S2_4.out.below hb)
                      have S3_5 := hid (S3_4.out.below hb)
                      have S4_5 := hid (S4_4.out.below hb)
                      clear zA0 zA1 zA2 zA3 zA4 zA5 zB0 zB1 zB2 zB3 zB4 zB5
                      clear hb hb4 HA_4 HB_4 S1_4 S2_4 S3_4 S4_4
                      obtain ⟨zA0, zA1, zA2, zA3, zA4, zA5⟩ := HA_5.out.cells
                      obtain ⟨zB0, zB1, zB2, zB3, zB4, zB5⟩ := HB_5.out.cells
                      go_wp2_with fail
                      refine (eqc HC2.out (equal_any _ _ _ _ _ S2_5.out S4_5.out hl2)).mono ?_
                      rintro e w6 ⟨rfl, hb⟩
                      have hb6 : Below W.heap.size W w6 := hb5.trans (hb.mono hb5.size)
                      have HA_6 : Hid _ := HA_5.out.below hb
                      have HB_6 : Hid _ := HB_5.out.below hb
                      have S1_6 := hid (S1_5.out.below hb)
                      have S2_6 := hid (S2_5.out.below hb)
                      have S3_6 := hid (S3_5.out.below hb)
                      have S4_6 := hid (S4_5.out.below hb)
                      clear zA0 zA1 zA2 zA3 zA4 zA5 zB0 zB1 zB2 zB3 zB4 zB5
                      clear hb hb5 HA_5 HB_5 S1_5 S2_5 S3_5 S4_5
                      obtain ⟨zA0, zA1, zA2, zA3, zA4, zA5⟩ := HA_6.out.cells
                      obtain ⟨zB0, zB1, zB2, zB3, zB4, zB5⟩ := HB_6.out.cells
                      go_wp2
                      go_ret
                      exact ⟨ret_bool (by rw [HM.out, HLa.out.1, HLa.out.2, HLb.out.1, HLb.out.2]; rw [HC1.out, HC2.out]; simp), hb6⟩
                    · subst h4
                      go_wp2_with fail
                      refine (eqc HC1.out (equal_any _ _ _ _ _ S1_4.out S3_4.out hl1)).mono ?_
                      rintro e w5 ⟨rfl, hb⟩
                      have hb5 : Below W.heap.size W w5 := hb4.trans (hb.mono hb4.size)
                      have HA_5 : Hid _ := HA_4.out.below hb
                      have HB_5 : Hid _ := HB_4.out.below hb
                      have S1_5 := hid (S1_4.out.below hb)
                      have S2_5 := hid (S2_4.out.below hb)
                      have S3_5 := hid (S3_4.out.below hb)
                      have S4_5 := hid (S4_4.out.below hb)
                      clear zA0 zA1 zA2 zA3 zA4 zA5 zB0 zB1 zB2 zB3 zB4 zB5
                      clear hb hb4 HA_4 HB_4 S1_4 S2_4 S3_4 S4_4
                      obtain ⟨zA0, zA1, zA2, zA3, zA4, zA5⟩ := HA_5.out.cells
                      obtain ⟨zB0, zB1, zB2, zB3, zB4, zB5⟩ := HB_5.out.cells
                      go_wp2_with fail
                      refine (eqc HC2.out (equal_any _ _ _ _ _ S2_5.out S4_5.out hl2)).mono ?_
                      rintro e w6 ⟨rfl, hb⟩
                      have hb6 : Below W.heap.size W w6 := hb5.trans (hb.mono hb5.size)
                      have HA_6 : Hid _ := HA_5.out.below hb
                      have HB_6 : Hid _ := HB_5.out.below hb
                      have S1_6 := hid (S1_5.out.below hb)
                      have S2_6 := hid (S2_5.out.below hb)
                      have S3_6 := hid (S3_5.out.below hb)
                      have S4_6 := hid (S4_5.out.below hb)
                      clear zA0 zA1 zA2 zA3 zA4 zA5 zB0 zB1 zB2 zB3 zB4 zB5
                      clear hb hb5 HA_5 HB_5 S1_5 S2_5 S3_5 S4_5
                      obtain ⟨zA0, zA1, zA2, zA3, zA4, zA5⟩ := HA_6.out.cells
                      obtain ⟨zB0, zB1, zB2, zB3, zB4, zB5⟩ := HB_6.out.cells
                      go_wp2
                      go_ret
                      exact ⟨ret_bool (by rw [HM.out, HLa.out.1, HLa.out.2, HLb.out.1, HLb.out.2]; rw [HC1.out, HC2.out]; simp [h5]), hb6⟩
                  · go_wp2_with fail
                    refine (eqc HC1.out (equal_any _ _ _ _ _ S1_4.out S3_4.out hl1)).mono ?_
                    rintro e w5 ⟨rfl, hb⟩
                    have hb5 : Below W.heap.size W w5 := hb4.trans (hb.mono hb4.size)
                    have HA_5 : Hid _ := HA_4.out.below hb
                    have HB_5 : Hid _ := HB_4.out.below hb
                    have S1_5 := hid (S1_4.out.below hb)
                    have S2_5 := hid (S2_4.out.below hb)
                    have S3_5 := hid (S3_4.out.below hb)
                    have S4_5 := hid (S4_4.out.below hb)
                    clear zA0 zA1 zA2 zA3 zA4 zA5 zB0 zB1 zB2 zB3 zB4 zB5
                    clear hb hb4 HA_4 HB_4 S1_4 S2_4 S3_4 S4_4
                    obtain ⟨zA0, zA1, zA2, zA3, zA4, zA5⟩ := HA_5.out.cells
                    obtain ⟨zB0, zB1, zB2, zB3, zB4, zB5⟩ := HB_5.out.cells
                    go_wp2_with fail
                    refine (eqc HC2.out (equal_any _ _ _ _ _ S2_5.out S4_5.out hl2)).mono ?_
                    rintro e w6 ⟨rfl, hb⟩
                    have hb6 : Below W.heap.size W w6 := hb5.trans (hb.mono hb5.size)
                    have HA_6 : Hid _ := HA_5.out.below hb
                    have HB_6 : Hid _ := HB_5.out.below hb
                    have S1_6 := hid (S1_5.out.below hb)
                    have S2_6 := hid (S2_5.out.below hb)
                    have S3_6 := hid (S3_5.out.below hb)
                    have S4_6 := hid (S4_5.out.below hb)
                    clear zA0 zA1 zA2 zA3 zA4 zA5 zB0 zB1 zB2 zB3 zB4 zB5
                    clear hb hb5 HA_5 HB_5 S1_5 S2_5 S3_5 S4_5
                    obtain ⟨zA0, zA1, zA2, zA3, zA4, zA5⟩ := HA_6.out.cells
                    obtain ⟨zB0, zB1, zB2, zB3, zB4, zB5⟩ := HB_6.out.cells
                    go_wp2
                    go_ret
                    exact ⟨ret_bool (by rw [HM.out, HLa.out.1, HLa.out.2, HLb.out.1, HLb.out.2]; rw [HC1.out, HC2.out]; simp [h4]), hb6⟩
            exact AllReadyH.nil
          exact AllReadyH.nil
        exact AllReadyH.nil
      exact AllReadyH.nil
    exact AllReadyH.nil
  refine AllReadyH.cons rfl (fun K hK => ?_) ?_
  · obtain ⟨z0, z1, z2, z3, z4, z5⟩ := HBd.out.cells
    go_simp
    clear z0 z1 z2 z3 z4 z5
    refine hK.out _ _ trivial (fun _ => ?_)
    clear hK K
    try simp only [Act.put, List.setIfInBounds_toArray, List.set_cons_zero, List.set_cons_succ]
    refine wpAnyH_ready (rs := [0]) (by kernel_rfl) (by simp) ?_
    refine AllReadyH.cons rfl (fun K hK => ?_) ?_
    · obtain ⟨z0, z1, z2, z3, z4, z5⟩ := HAd.out.cells
      go_simp
      clear z0 z1 z2 z3 z4 z5
      refine hK.out _ _ trivial (fun _ => ?_)
      clear hK K
      try simp only [Act.put, List.setIfInBounds_toArray, List.set_cons_zero, List.set_cons_succ]
      refine wpAnyH_ready (rs := [1]) (by kernel_rfl) (by simp) ?_
      refine AllReadyH.cons rfl (fun K hK => ?_) ?_
      · go_simp
        refine (k77a _ hbd).mono ?_
        rintro e w1 ⟨y0a, p1a, m1a, k1a, p2a, m2a, k2a, y4a, y5a, rfl, HDa, HLa, hs1a, hs2a, hb⟩
        have hb1 : Below W.heap.size W w1 := hbd.trans (hb.mono hbd.size)
        have HA1 := hid (HAd.out.below hb)
        have HB1 := hid (HBd.out.below hb)
        clear hb hbd HAd HBd
        refine hK.out _ _ trivial (fun _ => ?_)
        clear hK K
        try simp only [Act.put, List.setIfInBounds_toArray, List.set_cons_zero, List.set_cons_succ]
        refine wpAnyH_ready (rs := [3]) (by kernel_rfl) (by simp) ?_
        refine AllReadyH.cons rfl (fun K hK => ?_) ?_
        · go_simp
          refine (k77b _ hb1).mono ?_
          rintro e w2 ⟨y0b, p1b, m1b, k1b, p2b, m2b, k2b, y4b, y5b, rfl, HDb, HLb, hs1b, hs2b, hb⟩
          have hb2 : Below W.heap.size W w2 := hb1.trans (hb.mono hb1.size)
          have HA2 := hid (HA1.out.below hb)
          have HB2 := hid (HB1.out.below hb)
          have HDa2 : Hid (Dv 0 w2 (.agg #[.bool y0a, .slice none 0 0, .slice p1a m1a k1a, .slice p2a m2a k2a, .int .i64 y4a, .int .i64 y5a]) (takenD d)) := (HDa.out.base (Nat.zero_le _)).below hb
          have HDb2 : Hid (Dv 0 w2 (.agg #[.bool y0b, .slice none 0 0, .slice p1b m1b k1b, .slice p2b m2b k2b, .int .i64 y4b, .int .i64 y5b]) (takenD o)) := HDb.out.base (Nat.zero_le _)
          clear hb hb1 HA1 HB1
          refine hK.out _ _ trivial (fun _ => ?_)
          clear hK K
          try simp only [Act.put, List.setIfInBounds_toArray, List.set_cons_zero, List.set_cons_succ]
          refine wpAnyH_ready (rs := [4]) (by kernel_rfl) (by simp) ?_
          refine AllReadyH.cons rfl (fun K hK => ?_) ?_
          · refine step37 rfl (.tmp 2) (.tmp 6) rfl W.heap.size (.bool y0a) (.slice none 0 0) (.slice p1a m1a k1a) (.slice p2a m2a k2a) (.int .i64 y4a) (.int .i64 y5a) (by with_unfolding_all rfl) (by with_unfolding_all rfl) HA2.out (six_dom _ _ _ _ _ _ _ _ _ _ _ _) ?_
            have HA3 : Hid _ := HA2.out.set (.bool y0a) (.slice none 0 0) (.slice p1a m1a k1a) (.slice p2a m2a k2a) (.int .i64 y4a) (.int .i64 y5a)
            have HB3 : Hid _ := HB2.out.other (show (W.heap.size + 1) ≠ W.heap.size by omega) #[.bool y0a, .slice none 0 0, .slice p1a m1a k1a, .slice p2a m2a k2a, .int .i64 y4a, .int .i64 y5a]
            have HDa3 := hid (HDa2.out.set HA2.out #[.bool y0a, .slice none 0 0, .slice p1a m1a k1a, .slice p2a m2a k2a, .int .i64 y4a, .int .i64 y5a])
            have HDb3 := hid (HDb2.out.set HA2.out #[.bool y0a, .slice none 0 0, .slice p1a m1a k1a, .slice p2a m2a k2a, .int .i64 y4a, .int .i64 y5a])
            have hb3 := below_setRow hb2 (Nat.le_refl W.heap.size) #[.bool y0a, .slice none 0 0, .slice p1a m1a k1a, .slice p2a m2a k2a, .int .i64 y4a, .int .i64 y5a]
            clear HA2 HB2 hb2 HDa2 HDb2
            generalize w2.setRow W.heap.size #[.bool y0a, .slice none 0 0, .slice p1a m1a k1a, .slice p2a m2a k2a, .int .i64 y4a, .int .i64 y5a] = w3 at HA3 HB3 HDa3 HDb3 hb3 ⊢
            refine hK.out _ _ trivial (fun _ => ?_)
            clear hK K
            try simp only [Act.put, List.setIfInBounds_toArray, List.set_cons_zero, List.set_cons_succ]
            refine wpAnyH_ready (rs := [5]) (by kernel_rfl) (by simp) ?_
            refine AllReadyH.cons rfl (fun K hK => ?_) ?_
            · refine step37 rfl (.tmp 3) (.tmp 8) rfl (W.heap.size + 1) (.bool y0b) (.slice none 0 0) (.slice p1b m1b k1b) (.slice p2b m2b k2b) (.int .i64 y4b) (.int .i64 y5b) (by with_unfolding_all rfl) (by with_unfolding_all rfl) HB3.out (six_dom _ _ _ _ _ _ _ _ _ _ _ _) ?_
              have HB4 : Hid _ := HB3.out.set (.bool y0b) (.slice none 0 0) (.slice p1b m1b k1b) (.slice p2b m2b k2b) (.int .i64 y4b) (.int .i64 y5b)
              have HA4 : Hid _ := HA3.out.other (show W.heap.size ≠ (W.heap.size + 1) by omega) #[.bool y0b, .slice none 0 0, .slice p1b m1b k1b, .slice p2b m2b k2b, .int .i64 y4b, .int .i64 y5b]
              have HDa4 := hid (HDa3.out.set HB3.out #[.bool y0b, .slice none 0 0, .slice p1b m1b k1b, .slice p2b m2b k2b, .int .i64 y4b, .int .i64 y5b])
              have HDb4 := hid (HDb3.out.set HB3.out #[.bool y0b, .slice none 0 0, .slice p1b m1b k1b, .slice p2b m2b k2b, .int .i64 y4b, .int .i64 y5b])
              have hb4 := below_setRow hb3 (show W.heap.size ≤ (W.heap.size + 1) by omega) #[.bool y0b, .slice none 0 0, .slice p1b m1b k1b, .slice p2b m2b k2b, .int .i64 y4b, .int .i64 y5b]
              clear HA3 HB3 hb3 HDa3 HDb3
              generalize w3.setRow (W.heap.size + 1) #[.bool y0b, .slice none 0 0, .slice p1b m1b k1b, .slice p2b m2b k2b, .int .i64 y4b, .int .i64 y5b] = w4 at HA4 HB4 HDa4 HDb4 hb4 ⊢
              refine hK.out _ _ trivial (fun _ => ?_)
              clear hK K
              try simp only [Act.put, List.setIfInBounds_toArray, List.set_cons_zero, List.set_cons_succ]
              refine wpAnyH_done (by kernel_rfl) ?_ _
              have HA_4 : Hid _ := HA4.out
              have HB_4 : Hid _ := HB4.out
              clear HA4 HB4 hHeld
              have S1_4 : Hid (Si w4 (.slice p1a m1a k1a) (takenD d).lo) := (dv_si HDa4.out).1
              have S2_4 : Hid (Si w4 (.slice p2a m2a k2a) (takenD d).up) := (dv_si HDa4.out).2
              have S3_4 : Hid (Si w4 (.slice p1b m1b k1b) (takenD o).lo) := (dv_si HDb4.out).1
              have S4_4 : Hid (Si w4 (.slice p2b m2b k2b) (takenD o).up) := (dv_si HDb4.out).2
              clear HDa4 HDb4
              obtain ⟨zA0, zA1, zA2, zA3, zA4, zA5⟩ := HA_4.out.cells
              obtain ⟨zB0, zB1, zB2, zB3, zB4, zB5⟩ := HB_4.out.cells
              cases hc1 : decide ((takenD d).lo = (takenD o).lo)
              · have HC1 : Hid (_ = _) := hc1
                clear hc1
                go_wp2_with fail
                refine (eqc HC1.out (equal_any _ _ _ _ _ S1_4.out S3_4.out hl1)).mono ?_
                rintro e w5 ⟨rfl, hb⟩
                have hb5 : Below W.heap.size W w5 := hb4.trans (hb.mono hb4.size)
                have HA_5 : Hid _ := HA_4.out.below hb
                have HB_5 : Hid _ := HB_4.out.below hb
                have S1_5 := hid (S1_4.out.below hb)
                have S2_5 := hid (S2_4.out.below hb)
                have S3_5 := hid (S3_4.out.below hb)
                have S4_5 := hid (S4_4.out.below hb)
                clear zA0 zA1 zA2 zA3 zA4 zA5 zB0 zB1 zB2 zB3 zB4 zB5
                clear hb hb4 HA_4 HB_4 S1_4 S2_4 S3_4 S4_4
                obtain ⟨zA0, zA1, zA2, zA3, zA4, zA5⟩ := HA_5.out.cells
                obtain ⟨zB0, zB1, zB2, zB3, zB4, zB5⟩ := HB_5.out.cells
                go_wp2
                go_ret
                exact ⟨ret_bool (by rw [HM.out, HLa.out.1, HLa.out.2, HLb.out.1, HLb.out.2]; rw [HC1.out]; simp), hb5⟩
              · have HC1 : Hid (_ = _) := hc1
                clear hc1
                cases hc2 : decide ((takenD d).up = (takenD o).up)
                · have HC2 : Hid (_ = _) := hc2
                  clear hc2
                  go_wp2_with fail
                  refine (eqc HC1.out (equal_any _ _ _ _ _ S1_4.out S3_4.out hl1)).mono ?_
                  rintro e w5 ⟨rfl, hb⟩
                  have hb5 : Below W.heap.size W w5 := hb4.trans (hb.mono hb4.size)
                  have HA_5 : Hid _ := HA_4.out.below hb
                  have HB_5 : Hid _ := HB_4.out.below hb
                  have S1_5 := hid (S1_4.out.below hb)
                  have S2_5 := hid (S2_4.out.below hb)
                  have S3_5 := hid (S3_4.out.below hb)
                  have S4_5 := hid (S4_4.out.below hb)
                  clear zA0 zA1 zA2 zA3 zA4 zA5 zB0 zB1 zB2 zB3 zB4 zB5
                  clear hb hb4 HA_4 HB_4 S1_4 S2_4 S3_4 S4_4
                  obtain ⟨zA0, zA1, zA2, zA3, zA4, zA5⟩ := HA_5.out.cells
                  obtain ⟨zB0, zB1, zB2, zB3, zB4, zB5⟩ := HB_5.out.cells
                  go_wp2_with fail
                  refine (eqc HC2.out (equal_any _ _ _ _ _ S2_5.out S4_5.out hl2)).mono ?_
                  rintro e w6 ⟨rfl, hb⟩
                  have hb6 : Below W.heap.size W w6 := hb5.trans (hb.mono hb5.size)
                  have HA_6 : Hid _ := HA_5.out.below hb
                  have HB_6 : Hid _ := HB_5.out.below hb
                  have S1_6 := hid (S1_5.out.below hb)
                  have S2_6 := hid (S2_5.out.below hb)
                  have S3_6 := hid (S3_5.out.below hb)
                  have S4_6 := hid (S4_5.out.below hb)
                  clear zA0 zA1 zA2 zA3 zA4 zA5 zB0 zB1 zB2 zB3 zB4 zB5
                  clear hb hb5 HA_5 HB_5 S1_5 S2_5 S3_5 S4_5
                  obtain ⟨zA0, zA1, zA2, zA3, zA4, zA5⟩ := HA_6.out.cells
                  obtain ⟨zB0, zB1, zB2, zB3, zB4, zB5⟩ := HB_6.out.cells
                  go_wp2
                  go_ret
                  exact ⟨ret_bool (by rw [HM.out, HLa.out.1, HLa.out.2, HLb.out.1, HLb.out.2]; rw [HC1.out, HC2.out]; simp), hb6⟩
                · have HC2 : Hid (_ = _) := hc2
                  clear hc2
                  by_cases h4 : y4a = y4b
                  · by_cases h5 : y5a = y5b
                    · subst h4 h5
                      go_wp2_with fail
                      refine (eqc HC1.out (equal_any _ _ _ _ _ S1_4.out S3_4.out hl1)).mono ?_
                      rintro e w5 ⟨rfl, hb⟩
                      have hb5 : Below W.heap.size W w5 := hb4.trans (hb.mono hb4.size)
                      have HA_5 : Hid _ := HA_4.out.below hb
                      have HB_5 : Hid _ := HB_4.out.below hb
                      have S1_5 := hid (S1_4.out.below hb)
                      have S2_5 := hid (S2_4.out.below hb)
                      have S3_5 := hid (S3_4.out.below hb)
                      have S4_5 := hid (S4_4.out.below hb)
                      clear zA0 zA1 zA2 zA3 zA4 zA5 zB0 zB1 zB2 zB3 zB4 zB5
                      clear hb hb4 HA_4 HB_4 S1_4 S2_4 S3_4 S4_4
                      obtain ⟨zA0, zA1, zA2, zA3, zA4, zA5⟩ := HA_5.out.cells
                      obtain ⟨zB0, zB1, zB2, zB3, zB4, zB5⟩ := HB_5.out.cells
                      go_wp2_with fail
                      refine (eqc HC2.out (equal_any _ _ _ _ _ S2_5.out S4_5.out hl2)).mono ?_
                      rintro e w6 ⟨rfl, hb⟩
                      have hb6 : Below W.heap.size W w6 := hb5.trans (hb.mono hb5.size)
                      have HA_6 : Hid _ := HA_5.out.below hb
                      have HB_6 : Hid _ := HB_5.out.below hb
                      have S1_6 := hid (S1_5.out.below hb)
                      have S2_6 := hid (S2_5.out.below hb)
                      have S3_6 := hid (S3_5.out.below hb)
                      have S4_6 := hid (S4_5.out.below hb)
                      clear zA0 zA1 zA2 zA3 zA4 zA5 zB0 zB1 zB2 zB3 zB4 zB5
                      clear hb hb5 HA_5 HB_5 S1_5 S2_5 S3_5 S4_5
                      obtain ⟨zA0, zA1, zA2, zA3, zA4, zA5⟩ := HA_6.out.cells
                      obtain ⟨zB0, zB1, zB2, zB3, zB4, zB5⟩ := HB_6.out.cells
                      go_wp2
                      go_ret
                      exact ⟨ret_bool (by rw [HM.out, HLa.out.1, HLa.out.2, HLb.out.1, HLb.out.2]; rw [HC1.out, HC2.out]; simp), hb6⟩
                    · subst h4
                      go_wp2_with fail
                      refine (eqc HC1.out (equal_any _ _ _ _ _ S1_4.out S3_4.out hl1)).mono ?_
                      rintro e w5 ⟨rfl, hb⟩
                      have hb5 : Below W.heap.size W w5 := hb4.trans (hb.mono hb4.size)
                      have HA_5 : Hid _ := HA_4.out.below hb
                      have HB_5 : Hid _ := HB_4.out.below hb
                      have S1_5 := hid (S1_4.out.below hb)
                      have S2_5 := hid (S2_4.out.below hb)
                      have S3_5 := hid (S3_4.out.below hb)
                      have S4_5 := hid (S4_4.out.below hb)
                      clear zA0 zA1 zA2 zA3 zA4 zA5 zB0 zB1 zB2 zB3 zB4 zB5
                      clear hb hb4 HA_4 HB_4 S1_4 S2_4 S3_4 S4_4
                      obtain ⟨zA0, zA1, zA2, zA3, zA4, zA5⟩ := HA_5.out.cells
                      obtain ⟨zB0, zB1, zB2, zB3, zB4, zB5⟩ := HB_5.out.cells
                      go_wp2_with fail
                      refine (eqc HC2.out (equal_any _ _ _ _ _ S2_5.out S4_5.out hl2)).mono ?_
                      rintro e w6 ⟨rfl, hb⟩
                      have hb6 : Below W.heap.size W w6 := hb5.trans (hb.mono hb5.size)
                      have HA_6 : Hid _ := HA_5.out.below hb
                      have HB_6 : Hid _ := HB_5.out.below hb
                      have S1_6 := hid (S1_5.out.below hb)
                      have S2_6 := hid (S2_5.out.below hb)
                      have S3_6 := hid (S3_5.out.below hb)
                      have S4_6 := hid (S4_5.out.below hb)
                      clear zA0 zA1 zA2 zA3 zA4 zA5 zB0 zB1 zB2 zB3 zB4 zB5
                      clear hb hb5 HA_5 HB_5 S1_5 S2_5 S3_5 S4_5
                      obtain ⟨zA0, zA1, zA2, zA3, zA4, zA5⟩ := HA_6.out.cells
                      obtain ⟨zB0, zB1, zB2, zB3, zB4, zB5⟩ := HB_6.out.cells
                      go_wp2
                      go_ret
                      exact ⟨ret_bool (by rw [HM.out, HLa.out.1, HLa.out.2, HLb.out.1, HLb.out.2]; rw [HC1.out, HC2.out]; simp [h5]), hb6⟩
                  · go_wp2_with fail
                    refine (eqc HC1.out (equal_any _ _ _ _ _ S1_4.out S3_4.out hl1)).mono ?_
                    rintro e w5 ⟨rfl, hb⟩
                    have hb5 : Below W.heap.size W w5 := hb4.trans (hb.mono hb4.size)
                    have HA_5 : Hid _ := HA_4.out.below hb
                    have HB_5 : Hid _ := HB_4.out.below hb
                    have S1_5 := hid (S1_4.out.below hb)
                    have S2_5 := hid (S2_4.out.below hb)
                    have S3_5 := hid (S3_4.out.below hb)
                    have S4_5 := hid (S4_4.out.below hb)
                    clear zA0 zA1 zA2 zA3 zA4 zA5 zB0 zB1 zB2 zB3 zB4 zB5
                    clear hb hb4 HA_4 HB_4 S1_4 S2_4 S3_4 S4_4
                    obtain ⟨zA0, zA1, zA2, zA3, zA4, zA5⟩ := HA_5.out.cells
                    obtain ⟨zB0, zB1, zB2, zB3, zB4, zB5⟩ := HB_5.out.cells
                    go_wp2_with fail
                    refine (eqc HC2.out (equal_any _ _ _ _ _ S2_5.out S4_5.out hl2)).mono ?_
                    rintro e w6 ⟨rfl, hb⟩
                    have hb6 : Below W.heap.size W w6 := hb5.trans (hb.mono hb5.size)
                    have HA_6 : Hid _ := HA_5.out.below hb
                    have HB_6 : Hid _ := HB_5.out.below hb
                    have S1_6 := hid (S1_5.out.below hb)
                    have S2_6 := hid (S2_5.out.below hb)
                    have S3_6 := hid (S3_5.out.below hb)
                    have S4_6 := hid (S4_5.out.below hb)
                    clear zA0 zA1 zA2 zA3 zA4 zA5 zB0 zB1 zB2 zB3 zB4 zB5
                    clear hb hb5 HA_5 HB_5 S1_5 S2_5 S3_5 S4_5
                    obtain ⟨zA0, zA1, zA2, zA3, zA4, zA5⟩ := HA_6.out.cells
                    obtain ⟨zB0, zB1, zB2, zB3, zB4, zB5⟩ := HB_6.out.cells
                    go_wp2
                    go_ret
                    exact ⟨ret_bool (by rw [HM.out, HLa.out.1, HLa.out.2, HLb.out.1, HLb.out.2]; rw [HC1.out, HC2.out]; simp [h4]), hb6⟩
            exact AllReadyH.nil
          exact AllReadyH.nil
        exact AllReadyH.nil
      exact AllReadyH.nil
    exact AllReadyH.nil
  exact AllReadyH.nil
end Go.Proofs.YtghnfnieppfhgaaGreat.St

