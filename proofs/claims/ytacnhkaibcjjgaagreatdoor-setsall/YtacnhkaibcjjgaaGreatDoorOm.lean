/-
  What is proved here: what the reference's Same tells of any two domains.
-/
import Derived.Test.YtacnhkaibcjjgaaGreatDoorOk
namespace Go.Proofs.YtacnhkaibcjjgaaGreatDoor
open Go.RowKit Go.Shelf
set_option linter.unusedVariables false
set_option linter.unusedSimpArgs false

theorem tight_set (lo up : List Int) (least most : Int) : (tightD lo up least most).set = true := by
  unfold tightD; dsimp only; split <;> rfl

set_option maxRecDepth 100000 in
set_option maxHeartbeats 4000000 in
theorem refsame_dom (v u : Value) (d o : SD) (W : World) (h : Di W v d) (ho : Di W u o) :
    Calls Tryz.prog 59 #[v, u] W fun e w' => e = .returned (.bool (rsameD d o)) ∧ Below W.heap.size W w' := by
  have k85a := fun X (hX : Below W.heap.size W X) => rtaken_look v d W X h hX
  have k85b := fun X (hX : Below W.heap.size W X) => rtaken_look u o W X ho hX
  obtain ⟨x0a, raa, rna, rca, a1a, n1a, c1a, a2a, n2a, c2a, x4a, x5a, rfl, HEa, HLOa, HUPa⟩ := h.look
  obtain ⟨x0b, rab, rnb, rcb, a1b, n1b, c1b, a2b, n2b, c2b, x4b, x5b, rfl, HEb, HLOb, HUPb⟩ := ho.look
  have hRa := rtaken_right d
  have hRb := rtaken_right o
  have hM : rsameD d o = if emptyD (rtakenD d) || emptyD (rtakenD o) then emptyD (rtakenD d) && emptyD (rtakenD o) else eqD (tightD (rtakenD d).lo (rtakenD d).up (rtakenD d).least (rtakenD d).most) (tightD (rtakenD o).lo (rtakenD o).up (rtakenD o).least (rtakenD o).most) := rfl
  generalize rsameD d o = MD at hM ⊢
  generalize rtakenD d = TA at *
  generalize rtakenD o = TB at *
  have HRA : Hid (RightD TA) := hRa
  have HRB : Hid (RightD TB) := hRb
  obtain ⟨w0, hW0⟩ : ∃ X, ((W.alloc (Obj.cells #[.bool x0a, .slice raa rna rca, .slice a1a n1a c1a, .slice a2a n2a c2a, .int .i64 x4a, .int .i64 x5a] 37)).alloc (Obj.cells #[.bool x0b, .slice rab rnb rcb, .slice a1b n1b c1b, .slice a2b n2b c2b, .int .i64 x4b, .int .i64 x5b] 37)) = X := ⟨_, rfl⟩
  have HW0 : Hid _ := hW0
  have hb0 : Below W.heap.size W w0 := by rw [← hW0]; exact (((Below.refl _ W).alloc (by simp <;> omega) _).alloc (by simp <;> omega) _)
  have HA_0 : Hid (R6 w0 W.heap.size (.bool x0a) (.slice raa rna rca) (.slice a1a n1a c1a) (.slice a2a n2a c2a) (.int .i64 x4a) (.int .i64 x5a)) := by rw [← hW0]; exact ((R6.new _ _ _ _ _ _ _).alloc _)
  have HB_0 : Hid (R6 w0 (W.heap.size + 1) (.bool x0b) (.slice rab rnb rcb) (.slice a1b n1b c1b) (.slice a2b n2b c2b) (.int .i64 x4b) (.int .i64 x5b)) := by rw [← hW0]; exact (R6.new1 _ _ _ _ _ _ _ _)
  clear hW0
  clear h ho HEa HLOa HUPa HEb HLOb HUPb hRa hRb
  go_enter Tryz.func59, Tryz.ntmps59
  go_upto_region 1 with (fail)
  rw [HW0.out]
  obtain ⟨zA0, zA1, zA2, zA3, zA4, zA5⟩ := HA_0.out.cells
  obtain ⟨zB0, zB1, zB2, zB3, zB4, zB5⟩ := HB_0.out.cells
  go_wp2_with fail
  refine (k85a w0 hb0).mono ?_
  rintro e w1 ⟨x0t, rat, rnt, rct, a1t, n1t, c1t, a2t, n2t, c2t, x4t, x5t, rfl, HDIa, HLTa, hb⟩
  have hb1 : Below W.heap.size W w1 := hb0.trans (hb.mono hb0.size)
  have HA_1 : Hid _ := HA_0.out.below hb
  have HB_1 : Hid _ := HB_0.out.below hb
  clear zA0 zA1 zA2 zA3 zA4 zA5 zB0 zB1 zB2 zB3 zB4 zB5
  clear hb hb0 HA_0 HB_0
  have hb2 := below_setRow hb1 (show W.heap.size ≤ W.heap.size by omega) #[.bool x0t, .slice rat rnt rct, .slice a1t n1t c1t, .slice a2t n2t c2t, .int .i64 x4t, .int .i64 x5t]
  have HA_2 : Hid _ := HA_1.out.set (.bool x0t) (.slice rat rnt rct) (.slice a1t n1t c1t) (.slice a2t n2t c2t) (.int .i64 x4t) (.int .i64 x5t)
  have HB_2 : Hid _ := HB_1.out.other (show (W.heap.size + 1) ≠ W.heap.size by omega) #[.bool x0t, .slice rat rnt rct, .slice a1t n1t c1t, .slice a2t n2t c2t, .int .i64 x4t, .int .i64 x5t]
  go_upto_region 2 with (with_reducible refine st37 rfl (.tmp 2) (.tmp 6) rfl W.heap.size _ _ _ _ _ _ (by with_unfolding_all rfl) (by with_unfolding_all rfl) HA_1.out (six_dom _ _ _ _ _ _ _ _ _ _ _ _) ?_)
  simp only [Act.put]
  clear HA_1 HB_1 hb1
  generalize w1.setRow W.heap.size #[.bool x0t, .slice rat rnt rct, .slice a1t n1t c1t, .slice a2t n2t c2t, .int .i64 x4t, .int .i64 x5t] = w2 at hb2 HA_2 HB_2 ⊢
  obtain ⟨zA0, zA1, zA2, zA3, zA4, zA5⟩ := HA_2.out.cells
  obtain ⟨zB0, zB1, zB2, zB3, zB4, zB5⟩ := HB_2.out.cells
  go_wp2_with fail
  refine (k85b w2 hb2).mono ?_
  rintro e w3 ⟨x0s, ras, rns, rcs, a1s, n1s, c1s, a2s, n2s, c2s, x4s, x5s, rfl, HDIb, HLTb, hb⟩
  have hb3 : Below W.heap.size W w3 := hb2.trans (hb.mono hb2.size)
  have HA_3 : Hid _ := HA_2.out.below hb
  have HB_3 : Hid _ := HB_2.out.below hb
  clear zA0 zA1 zA2 zA3 zA4 zA5 zB0 zB1 zB2 zB3 zB4 zB5
  clear hb hb2 HA_2 HB_2
  have k43a := fun X (hX : Below W.heap.size W X) => refempty_any _ TA X (HDIa.out X hX)
  have k43b := fun X (hX : Below W.heap.size W X) => refempty_any _ TB X (HDIb.out X hX)
  have HM : Hid _ := hM
  clear hM k85a k85b HW0
  obtain ⟨ea, hea⟩ : ∃ b, emptyD TA = b := ⟨_, rfl⟩
  obtain ⟨eb, heb⟩ : ∃ b, emptyD TB = b := ⟨_, rfl⟩
  simp only [hea] at k43a
  simp only [heb] at k43b
  have HEM : Hid (emptyD TA = ea ∧ emptyD TB = eb) := ⟨hea, heb⟩
  clear hea heb
  have hb4 := below_setRow hb3 (show W.heap.size ≤ (W.heap.size + 1) by omega) #[.bool x0s, .slice ras rns rcs, .slice a1s n1s c1s, .slice a2s n2s c2s, .int .i64 x4s, .int .i64 x5s]
  have HA_4 : Hid _ := HA_3.out.other (show W.heap.size ≠ (W.heap.size + 1) by omega) #[.bool x0s, .slice ras rns rcs, .slice a1s n1s c1s, .slice a2s n2s c2s, .int .i64 x4s, .int .i64 x5s]
  have HB_4 : Hid _ := HB_3.out.set (.bool x0s) (.slice ras rns rcs) (.slice a1s n1s c1s) (.slice a2s n2s c2s) (.int .i64 x4s) (.int .i64 x5s)
  go_upto_region 3 with (with_reducible refine st37 rfl (.tmp 3) (.tmp 8) rfl (W.heap.size + 1) _ _ _ _ _ _ (by with_unfolding_all rfl) (by with_unfolding_all rfl) HB_3.out (six_dom _ _ _ _ _ _ _ _ _ _ _ _) ?_)
  simp only [Act.put]
  clear HA_3 HB_3 hb3
  generalize w3.setRow (W.heap.size + 1) #[.bool x0s, .slice ras rns rcs, .slice a1s n1s c1s, .slice a2s n2s c2s, .int .i64 x4s, .int .i64 x5s] = w4 at hb4 HA_4 HB_4 ⊢
  obtain ⟨zA0, zA1, zA2, zA3, zA4, zA5⟩ := HA_4.out.cells
  obtain ⟨zB0, zB1, zB2, zB3, zB4, zB5⟩ := HB_4.out.cells
  go_wp2_with fail
  refine (k43a w4 hb4).mono ?_
  rintro e w5 ⟨rfl, hb⟩
  have hb5 : Below W.heap.size W w5 := hb4.trans (hb.mono hb4.size)
  have HA_5 : Hid _ := HA_4.out.below hb
  have HB_5 : Hid _ := HB_4.out.below hb
  clear zA0 zA1 zA2 zA3 zA4 zA5 zB0 zB1 zB2 zB3 zB4 zB5
  clear hb hb4 HA_4 HB_4
  obtain ⟨zA0, zA1, zA2, zA3, zA4, zA5⟩ := HA_5.out.cells
  obtain ⟨zB0, zB1, zB2, zB3, zB4, zB5⟩ := HB_5.out.cells
  cases ea
  · cases eb
    · go_upto_region 5 with (refine (k43b w5 hb5).mono ?_; rintro e w6 ⟨rfl, hb⟩)
      have hb6 : Below W.heap.size W w6 := hb5.trans (hb.mono hb5.size)
      have HA_6 : Hid _ := HA_5.out.below hb
      have HB_6 : Hid _ := HB_5.out.below hb
      clear zA0 zA1 zA2 zA3 zA4 zA5 zB0 zB1 zB2 zB3 zB4 zB5
      clear hb hb5 HA_5 HB_5
      skip
      have HK : ∀ X, Below w6.heap.size w6 X → X.cell? ⟨W.heap.size, 2, none⟩ = some (.slice a1t n1t c1t) ∧ X.cell? ⟨W.heap.size, 3, none⟩ = some (.slice a2t n2t c2t) ∧ X.cell? ⟨W.heap.size, 4, none⟩ = some (.int .i64 x4t) ∧ X.cell? ⟨W.heap.size, 5, none⟩ = some (.int .i64 x5t) ∧ X.cell? ⟨W.heap.size + 1, 2, none⟩ = some (.slice a1s n1s c1s) ∧ X.cell? ⟨W.heap.size + 1, 3, none⟩ = some (.slice a2s n2s c2s) ∧ X.cell? ⟨W.heap.size + 1, 4, none⟩ = some (.int .i64 x4s) ∧ X.cell? ⟨W.heap.size + 1, 5, none⟩ = some (.int .i64 x5s) := fun X hX => by
        obtain ⟨_, _, c2, c3, c4, c5⟩ := (HA_6.out.below hX).cells
        obtain ⟨_, _, e2, e3, e4, e5⟩ := (HB_6.out.below hX).cells
        exact ⟨c2, c3, c4, c5, e2, e3, e4, e5⟩
      have hB0 : Below w6.heap.size w6 w6.drew := Below.drew (Below.refl _ _)
      have HSA : Hid (∀ X, Below w6.heap.size w6 X → Si X (.slice a1t n1t c1t) TA.lo ∧ Si X (.slice a2t n2t c2t) TA.up) := fun X hX => ⟨(di_si (HDIa.out X (hb6.trans (hX.mono hb6.size)))).1, (di_si (HDIa.out X (hb6.trans (hX.mono hb6.size)))).2.1⟩
      have HSB : Hid (∀ X, Below w6.heap.size w6 X → Si X (.slice a1s n1s c1s) TB.lo ∧ Si X (.slice a2s n2s c2s) TB.up) := fun X hX => ⟨(di_si (HDIb.out X (hb6.trans (hX.mono hb6.size)))).1, (di_si (HDIb.out X (hb6.trans (hX.mono hb6.size)))).2.1⟩
      have k76a := fun X (hX : Below w6.heap.size w6 X) => reftight_look (.slice a1t n1t c1t) (.slice a2t n2t c2t) TA.lo TA.up x4t x5t X (HSA.out X hX).1 (HSA.out X hX).2 HRA.out.2.2.1 HRA.out.2.2.2.1 (right_sub HRA.out)
      have k76b := fun X (hX : Below w6.heap.size w6 X) => reftight_look (.slice a1s n1s c1s) (.slice a2s n2s c2s) TB.lo TB.up x4s x5s X (HSB.out X hX).1 (HSB.out X hX).2 HRB.out.2.2.1 HRB.out.2.2.2.1 (right_sub HRB.out)
      have HSZ : Hid ((tightD TA.lo TA.up x4t x5t).lo.length ≤ 1000 ∧ (tightD TA.lo TA.up x4t x5t).up.length ≤ 1000) := by
        have := tight_right x4t x5t HRA.out.2.2.1 HRA.out.2.2.2.1 (right_sub HRA.out)
        have h1 := this.2.2.1.1
        have h2 := this.2.2.2.1.1
        exact ⟨by omega, by omega⟩
      have HB9 : Hid _ := hb6
      have hsz := hb6.size
      refine wp_region_held_drew (S := (fun w' => w'.cell? ⟨W.heap.size, 2, none⟩ = some (.slice a1t n1t c1t) ∧ w'.cell? ⟨W.heap.size, 3, none⟩ = some (.slice a2t n2t c2t) ∧ w'.cell? ⟨W.heap.size, 4, none⟩ = some (.int .i64 x4t) ∧ w'.cell? ⟨W.heap.size, 5, none⟩ = some (.int .i64 x5t) ∧ w'.cell? ⟨W.heap.size + 1, 2, none⟩ = some (.slice a1s n1s c1s) ∧ w'.cell? ⟨W.heap.size + 1, 3, none⟩ = some (.slice a2s n2s c2s) ∧ w'.cell? ⟨W.heap.size + 1, 4, none⟩ = some (.int .i64 x4s) ∧ w'.cell? ⟨W.heap.size + 1, 5, none⟩ = some (.int .i64 x5s))) (by kernel_rfl) (HK _ hB0) (fun hHeld => ?_)
      refine wpAnyH_take (i := 0) (oi := { dst := some 21, op := Go.Op.fieldAddr 37 (Go.Operand.tmp 2) 2, type := 0, pos := "ref.go:427", after := #[], guard := none }) (v := ?_) rfl (by kernel_rfl) (by kernel_rfl) (by kernel_rfl) (fun _ _ _ h => h) (Or.inl ⟨by rfl, ?_⟩) hHeld ?_
      rotate_left
      · intro w hSw; (try dsimp only at hSw); go_simp <;> with_reducible rfl
      try simp only [Act.put, List.setIfInBounds_toArray, List.set_cons_zero, List.set_cons_succ]
      refine wpAnyH_take (i := 1) (oi := { dst := some 22, op := Go.Op.load 22 (Go.Operand.tmp 21), type := 22, pos := "ref.go:427", after := #[{ on := 0, ground := Go.Ground.data }], guard := none }) (v := ?_) rfl (by kernel_rfl) (by kernel_rfl) (by kernel_rfl) (fun _ _ _ h => h) (Or.inl ⟨by rfl, ?_⟩) hHeld ?_
      rotate_left
      · intro w hSw; (try dsimp only at hSw); go_simp <;> with_reducible rfl
      try simp only [Act.put, List.setIfInBounds_toArray, List.set_cons_zero, List.set_cons_succ]
      refine wpAnyH_take (i := 2) (oi := { dst := some 23, op := Go.Op.fieldAddr 37 (Go.Operand.tmp 2) 3, type := 0, pos := "ref.go:427", after := #[], guard := none }) (v := ?_) rfl (by kernel_rfl) (by kernel_rfl) (by kernel_rfl) (fun _ _ _ h => h) (Or.inl ⟨by rfl, ?_⟩) hHeld ?_
      rotate_left
      · intro w hSw; (try dsimp only at hSw); go_simp <;> with_reducible rfl
      try simp only [Act.put, List.setIfInBounds_toArray, List.set_cons_zero, List.set_cons_succ]
      refine wpAnyH_take (i := 3) (oi := { dst := some 24, op := Go.Op.load 22 (Go.Operand.tmp 23), type := 22, pos := "ref.go:427", after := #[{ on := 2, ground := Go.Ground.data }], guard := none }) (v := ?_) rfl (by kernel_rfl) (by kernel_rfl) (by kernel_rfl) (fun _ _ _ h => h) (Or.inl ⟨by rfl, ?_⟩) hHeld ?_
      rotate_left
      · intro w hSw; (try dsimp only at hSw); go_simp <;> with_reducible rfl
      try simp only [Act.put, List.setIfInBounds_toArray, List.set_cons_zero, List.set_cons_succ]
      refine wpAnyH_take (i := 4) (oi := { dst := some 25, op := Go.Op.fieldAddr 37 (Go.Operand.tmp 2) 4, type := 0, pos := "ref.go:427", after := #[], guard := none }) (v := ?_) rfl (by kernel_rfl) (by kernel_rfl) (by kernel_rfl) (fun _ _ _ h => h) (Or.inl ⟨by rfl, ?_⟩) hHeld ?_
      rotate_left
      · intro w hSw; (try dsimp only at hSw); go_simp <;> with_reducible rfl
      try simp only [Act.put, List.setIfInBounds_toArray, List.set_cons_zero, List.set_cons_succ]
      refine wpAnyH_take (i := 5) (oi := { dst := some 26, op := Go.Op.load 3 (Go.Operand.tmp 25), type := 3, pos := "ref.go:427", after := #[{ on := 4, ground := Go.Ground.data }], guard := none }) (v := ?_) rfl (by kernel_rfl) (by kernel_rfl) (by kernel_rfl) (fun _ _ _ h => h) (Or.inl ⟨by rfl, ?_⟩) hHeld ?_
      rotate_left
      · intro w hSw; (try dsimp only at hSw); go_simp <;> with_reducible rfl
      try simp only [Act.put, List.setIfInBounds_toArray, List.set_cons_zero, List.set_cons_succ]
      refine wpAnyH_take (i := 6) (oi := { dst := some 27, op := Go.Op.fieldAddr 37 (Go.Operand.tmp 2) 5, type := 0, pos := "ref.go:427", after := #[], guard := none }) (v := ?_) rfl (by kernel_rfl) (by kernel_rfl) (by kernel_rfl) (fun _ _ _ h => h) (Or.inl ⟨by rfl, ?_⟩) hHeld ?_
      rotate_left
      · intro w hSw; (try dsimp only at hSw); go_simp <;> with_reducible rfl
      try simp only [Act.put, List.setIfInBounds_toArray, List.set_cons_zero, List.set_cons_succ]
      refine wpAnyH_take (i := 7) (oi := { dst := some 28, op := Go.Op.load 3 (Go.Operand.tmp 27), type := 3, pos := "ref.go:427", after := #[{ on := 6, ground := Go.Ground.data }], guard := none }) (v := ?_) rfl (by kernel_rfl) (by kernel_rfl) (by kernel_rfl) (fun _ _ _ h => h) (Or.inl ⟨by rfl, ?_⟩) hHeld ?_
      rotate_left
      · intro w hSw; (try dsimp only at hSw); go_simp <;> with_reducible rfl
      try simp only [Act.put, List.setIfInBounds_toArray, List.set_cons_zero, List.set_cons_succ]
      refine wpAnyH_take (i := 9) (oi := { dst := some 30, op := Go.Op.fieldAddr 37 (Go.Operand.tmp 3) 2, type := 0, pos := "ref.go:427", after := #[], guard := none }) (v := ?_) rfl (by kernel_rfl) (by kernel_rfl) (by kernel_rfl) (fun _ _ _ h => h) (Or.inl ⟨by rfl, ?_⟩) hHeld ?_
      rotate_left
      · intro w hSw; (try dsimp only at hSw); go_simp <;> with_reducible rfl
      try simp only [Act.put, List.setIfInBounds_toArray, List.set_cons_zero, List.set_cons_succ]
      refine wpAnyH_take (i := 10) (oi := { dst := some 31, op := Go.Op.load 22 (Go.Operand.tmp 30), type := 22, pos := "ref.go:427", after := #[{ on := 9, ground := Go.Ground.data }], guard := none }) (v := ?_) rfl (by kernel_rfl) (by kernel_rfl) (by kernel_rfl) (fun _ _ _ h => h) (Or.inl ⟨by rfl, ?_⟩) hHeld ?_
      rotate_left
      · intro w hSw; (try dsimp only at hSw); go_simp <;> with_reducible rfl
      try simp only [Act.put, List.setIfInBounds_toArray, List.set_cons_zero, List.set_cons_succ]
      refine wpAnyH_take (i := 11) (oi := { dst := some 32, op := Go.Op.fieldAddr 37 (Go.Operand.tmp 3) 3, type := 0, pos := "ref.go:427", after := #[], guard := none }) (v := ?_) rfl (by kernel_rfl) (by kernel_rfl) (by kernel_rfl) (fun _ _ _ h => h) (Or.inl ⟨by rfl, ?_⟩) hHeld ?_
      rotate_left
      · intro w hSw; (try dsimp only at hSw); go_simp <;> with_reducible rfl
      try simp only [Act.put, List.setIfInBounds_toArray, List.set_cons_zero, List.set_cons_succ]
      refine wpAnyH_take (i := 12) (oi := { dst := some 33, op := Go.Op.load 22 (Go.Operand.tmp 32), type := 22, pos := "ref.go:427", after := #[{ on := 11, ground := Go.Ground.data }], guard := none }) (v := ?_) rfl (by kernel_rfl) (by kernel_rfl) (by kernel_rfl) (fun _ _ _ h => h) (Or.inl ⟨by rfl, ?_⟩) hHeld ?_
      rotate_left
      · intro w hSw; (try dsimp only at hSw); go_simp <;> with_reducible rfl
      try simp only [Act.put, List.setIfInBounds_toArray, List.set_cons_zero, List.set_cons_succ]
      refine wpAnyH_take (i := 13) (oi := { dst := some 34, op := Go.Op.fieldAddr 37 (Go.Operand.tmp 3) 4, type := 0, pos := "ref.go:427", after := #[], guard := none }) (v := ?_) rfl (by kernel_rfl) (by kernel_rfl) (by kernel_rfl) (fun _ _ _ h => h) (Or.inl ⟨by rfl, ?_⟩) hHeld ?_
      rotate_left
      · intro w hSw; (try dsimp only at hSw); go_simp <;> with_reducible rfl
      try simp only [Act.put, List.setIfInBounds_toArray, List.set_cons_zero, List.set_cons_succ]
      refine wpAnyH_take (i := 14) (oi := { dst := some 35, op := Go.Op.load 3 (Go.Operand.tmp 34), type := 3, pos := "ref.go:427", after := #[{ on := 13, ground := Go.Ground.data }], guard := none }) (v := ?_) rfl (by kernel_rfl) (by kernel_rfl) (by kernel_rfl) (fun _ _ _ h => h) (Or.inl ⟨by rfl, ?_⟩) hHeld ?_
      rotate_left
      · intro w hSw; (try dsimp only at hSw); go_simp <;> with_reducible rfl
      try simp only [Act.put, List.setIfInBounds_toArray, List.set_cons_zero, List.set_cons_succ]
      refine wpAnyH_take (i := 15) (oi := { dst := some 36, op := Go.Op.fieldAddr 37 (Go.Operand.tmp 3) 5, type := 0, pos := "ref.go:427", after := #[], guard := none }) (v := ?_) rfl (by kernel_rfl) (by kernel_rfl) (by kernel_rfl) (fun _ _ _ h => h) (Or.inl ⟨by rfl, ?_⟩) hHeld ?_
      rotate_left
      · intro w hSw; (try dsimp only at hSw); go_simp <;> with_reducible rfl
      try simp only [Act.put, List.setIfInBounds_toArray, List.set_cons_zero, List.set_cons_succ]
      refine wpAnyH_take (i := 16) (oi := { dst := some 37, op := Go.Op.load 3 (Go.Operand.tmp 36), type := 3, pos := "ref.go:427", after := #[{ on := 15, ground := Go.Ground.data }], guard := none }) (v := ?_) rfl (by kernel_rfl) (by kernel_rfl) (by kernel_rfl) (fun _ _ _ h => h) (Or.inl ⟨by rfl, ?_⟩) hHeld ?_
      rotate_left
      · intro w hSw; (try dsimp only at hSw); go_simp <;> with_reducible rfl
      try simp only [Act.put, List.setIfInBounds_toArray, List.set_cons_zero, List.set_cons_succ]
      refine wpAnyH_ready (rs := [8]) (by kernel_rfl) (by simp) ?_
      refine AllReadyH.cons rfl (fun K hK => ?_) AllReadyH.nil
      go_simp
      refine (k76a _ hB0).mono ?_
      rintro e w21 ⟨g0a, q1a, h1a, j1a, q2a, h2a, j2a, g4a, g5a, rfl, HVa, hq0⟩
      have hb21 : Below w6.heap.size w6 w21 := hB0.trans (hq0.mono hB0.size)
      refine hK.out _ _ (HK _ hb21) (fun hHeld2 => ?_)
      clear hK K hHeld
      have hHeld := hHeld2
      clear hHeld2
      try simp only [Act.put, List.setIfInBounds_toArray, List.set_cons_zero, List.set_cons_succ]
      refine wpAnyH_ready (rs := [17]) (by kernel_rfl) (by simp) ?_
      refine AllReadyH.cons rfl (fun K hK => ?_) AllReadyH.nil
      go_simp
      refine (k76b _ hb21).mono ?_
      rintro e w22 ⟨g0b, q1b, h1b, j1b, q2b, h2b, j2b, g4b, g5b, rfl, HVb, hq1⟩
      have hb22 : Below w6.heap.size w6 w22 := hb21.trans (hq1.mono hb21.size)
      refine hK.out _ _ (HK _ hb22) (fun hHeld2 => ?_)
      clear hK K hHeld
      have hHeld := hHeld2
      clear hHeld2
      try simp only [Act.put, List.setIfInBounds_toArray, List.set_cons_zero, List.set_cons_succ]
      refine wpAnyH_ready (rs := [18]) (by kernel_rfl) (by simp) ?_
      refine AllReadyH.cons rfl (fun K hK => ?_) AllReadyH.nil
      have Da : Hid (Dv 0 w22 (.agg #[.bool g0a, .slice none 0 0, .slice q1a h1a j1a, .slice q2a h2a j2a, .int .i64 g4a, .int .i64 g5a]) (tightD TA.lo TA.up x4t x5t)) := (HVa.out.base (Nat.zero_le _)).below hq1
      have Db : Hid (Dv 0 w22 (.agg #[.bool g0b, .slice none 0 0, .slice q1b h1b j1b, .slice q2b h2b j2b, .int .i64 g4b, .int .i64 g5b]) (tightD TB.lo TB.up x4s x5s)) := HVb.out.base (Nat.zero_le _)
      go_simp
      refine (one_nil _ _ _ _ w22 Da.out Db.out (by rw [tight_set, tight_set]) HSZ.out.1 HSZ.out.2).mono ?_
      rintro e w23 ⟨rfl, hq2⟩
      have hb23 : Below w6.heap.size w6 w23 := hb22.trans (hq2.mono hb22.size)
      refine hK.out _ _ (HK _ hb23) (fun hHeld2 => ?_)
      clear hK K hHeld
      have hHeld := hHeld2
      clear hHeld2
      try simp only [Act.put, List.setIfInBounds_toArray, List.set_cons_zero, List.set_cons_succ]
      refine wpAnyH_take (i := 19) (oi := { dst := some 4, op := Go.Op.assign (Go.Operand.tmp 39), type := 4, pos := "ref.go:427", after := #[{ on := 18, ground := Go.Ground.data }, { on := 18, ground := Go.Ground.chain }, { on := 0, ground := Go.Ground.phase }, { on := 1, ground := Go.Ground.phase }, { on := 2, ground := Go.Ground.phase }, { on := 3, ground := Go.Ground.phase }, { on := 4, ground := Go.Ground.phase }, { on := 5, ground := Go.Ground.phase }, { on := 6, ground := Go.Ground.phase }, { on := 7, ground := Go.Ground.phase }, { on := 8, ground := Go.Ground.phase }, { on := 9, ground := Go.Ground.phase }, { on := 10, ground := Go.Ground.phase }, { on := 11, ground := Go.Ground.phase }, { on := 12, ground := Go.Ground.phase }, { on := 13, ground := Go.Ground.phase }, { on := 14, ground := Go.Ground.phase }, { on := 15, ground := Go.Ground.phase }, { on := 16, ground := Go.Ground.phase }, { on := 17, ground := Go.Ground.phase }, { on := 18, ground := Go.Ground.phase }], guard := none }) (v := ?_) rfl (by kernel_rfl) (by kernel_rfl) (by kernel_rfl) (fun _ _ _ h => h) (Or.inl ⟨by rfl, ?_⟩) hHeld ?_
      rotate_left
      · intro w hSw; (try dsimp only at hSw); go_simp <;> with_reducible rfl
      try simp only [Act.put, List.setIfInBounds_toArray, List.set_cons_zero, List.set_cons_succ]
      refine wpAnyH_done (by kernel_rfl) ?_ _
      go_wp2
      go_ret
      exact ⟨ret_bool (by rw [HM.out, HEM.out.1, HEM.out.2]; simp only [Bool.or_self, Bool.false_eq_true, if_false]; rw [HLTa.out.1, HLTa.out.2, HLTb.out.1, HLTb.out.2]), HB9.out.trans (hb23.mono hsz)⟩
    · go_wp2_with fail
      refine (k43b w5 hb5).mono ?_
      rintro e w6 ⟨rfl, hb⟩
      have hb6 : Below W.heap.size W w6 := hb5.trans (hb.mono hb5.size)
      have HA_6 : Hid _ := HA_5.out.below hb
      have HB_6 : Hid _ := HB_5.out.below hb
      clear zA0 zA1 zA2 zA3 zA4 zA5 zB0 zB1 zB2 zB3 zB4 zB5
      clear hb hb5 HA_5 HB_5
      obtain ⟨zA0, zA1, zA2, zA3, zA4, zA5⟩ := HA_6.out.cells
      obtain ⟨zB0, zB1, zB2, zB3, zB4, zB5⟩ := HB_6.out.cells
      go_wp2_with fail
      refine (k43a w6 hb6).mono ?_
      rintro e w7 ⟨rfl, hb⟩
      have hb7 : Below W.heap.size W w7 := hb6.trans (hb.mono hb6.size)
      have HA_7 : Hid _ := HA_6.out.below hb
      have HB_7 : Hid _ := HB_6.out.below hb
      clear zA0 zA1 zA2 zA3 zA4 zA5 zB0 zB1 zB2 zB3 zB4 zB5
      clear hb hb6 HA_6 HB_6
      obtain ⟨zA0, zA1, zA2, zA3, zA4, zA5⟩ := HA_7.out.cells
      obtain ⟨zB0, zB1, zB2, zB3, zB4, zB5⟩ := HB_7.out.cells
      go_wp2
      go_ret
      exact ⟨ret_bool (by rw [HM.out, HEM.out.1, HEM.out.2]; rfl), hb7⟩
  · go_wp2_with fail
    refine (k43a w5 hb5).mono ?_
    rintro e w6 ⟨rfl, hb⟩
    have hb6 : Below W.heap.size W w6 := hb5.trans (hb.mono hb5.size)
    have HA_6 : Hid _ := HA_5.out.below hb
    have HB_6 : Hid _ := HB_5.out.below hb
    clear zA0 zA1 zA2 zA3 zA4 zA5 zB0 zB1 zB2 zB3 zB4 zB5
    clear hb hb5 HA_5 HB_5
    obtain ⟨zA0, zA1, zA2, zA3, zA4, zA5⟩ := HA_6.out.cells
    obtain ⟨zB0, zB1, zB2, zB3, zB4, zB5⟩ := HB_6.out.cells
    go_wp2_with fail
    refine (k43b w6 hb6).mono ?_
    rintro e w7 ⟨rfl, hb⟩
    have hb7 : Below W.heap.size W w7 := hb6.trans (hb.mono hb6.size)
    have HA_7 : Hid _ := HA_6.out.below hb
    have HB_7 : Hid _ := HB_6.out.below hb
    clear zA0 zA1 zA2 zA3 zA4 zA5 zB0 zB1 zB2 zB3 zB4 zB5
    clear hb hb6 HA_6 HB_6
    obtain ⟨zA0, zA1, zA2, zA3, zA4, zA5⟩ := HA_7.out.cells
    obtain ⟨zB0, zB1, zB2, zB3, zB4, zB5⟩ := HB_7.out.cells
    cases eb
    · go_wp2
      go_ret
      exact ⟨ret_bool (by rw [HM.out, HEM.out.1, HEM.out.2]; rfl), hb7⟩
    · go_wp2
      go_ret
      exact ⟨ret_bool (by rw [HM.out, HEM.out.1, HEM.out.2]; rfl), hb7⟩
end Go.Proofs.YtacnhkaibcjjgaaGreatDoor
