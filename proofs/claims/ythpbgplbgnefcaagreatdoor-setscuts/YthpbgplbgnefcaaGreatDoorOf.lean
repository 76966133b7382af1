/-
  What is proved here: the reference's Must, Not and Card of any domain.
-/
import Derived.Test.YthpbgplbgnefcaaGreatDoorOe
namespace Go.Proofs.YthpbgplbgnefcaaGreatDoor
open Go.RowKit Go.Shelf
set_option linter.unusedVariables false
set_option linter.unusedSimpArgs false

def rmustD (d : SD) (v : Int) : SD := if emptyD (rtakenD d) || !(tkS (rtakenD d).up).contains v then noneD else tightD (joinL (tkS (rtakenD d).lo) (tkS [v])) (rtakenD d).up (rtakenD d).least (rtakenD d).most
def rnotD (d : SD) (v : Int) : SD := if emptyD (rtakenD d) || (tkS (rtakenD d).lo).contains v then noneD else tightD (rtakenD d).lo (lessL (tkS (rtakenD d).up) (tkS [v])) (rtakenD d).least (rtakenD d).most
def rcardD (d : SD) (a b : Int) : SD := if emptyD (rtakenD d) then noneD else tightD (rtakenD d).lo (rtakenD d).up (max a (rtakenD d).least) (min b (rtakenD d).most)
theorem rtaken_right (d : SD) : RightD (rtakenD d) := by
  unfold rtakenD
  cases h : emptyD d
  · simp only [Bool.false_eq_true, if_false]
    unfold emptyD at h
    simp only [Bool.or_eq_false_iff, Bool.not_eq_false'] at h
    exact of_decide_eq_true h.1
  · exact none_right
theorem refin_below (v : Int) (s : Value) (l : List Int) (W : World) (h : Si W s l) : Calls Tryz.prog 26 #[.int .i64 v, s] W fun e w' => e = .returned (.bool ((tkS l).contains v)) ∧ Below W.heap.size W w' :=
  (refin_any v s l W h).mono fun e w' ⟨he, n, hw⟩ => ⟨he, by rw [hw]; exact below_drewN (Below.refl _ _) _⟩
theorem di_si {W : World} {x0 : Bool} {ra a1 a2 : Option Addr} {rn rc n1 c1 n2 c2 : Nat} {x4 x5 : Int} {d : SD} (h : Di W (.agg #[.bool x0, .slice ra rn rc, .slice a1 n1 c1, .slice a2 n2 c2, .int .i64 x4, .int .i64 x5]) d) :
    Si W (.slice a1 n1 c1) d.lo ∧ Si W (.slice a2 n2 c2) d.up ∧ d.least = x4 ∧ d.most = x5 := by
  obtain ⟨ra', rc', slo, sup, e, o1, o2⟩ := h
  injection e with e
  injection e with e
  injection e with _ e
  injection e with _ e
  injection e with e2 e
  injection e with e3 e
  injection e with e4 e
  injection e with e5 e
  injection e4 with _ e4
  injection e5 with _ e5
  subst e2 e3 e4 e5
  exact ⟨o1, o2, rfl, rfl⟩
theorem rtaken_look (v : Value) (d : SD) (Wb W : World) (hd0 : Di Wb v d) (hbW : Below Wb.heap.size Wb W) :
    Calls Tryz.prog 85 #[v] W fun e w' => ∃ x0 ra rn rc a1 n1 c1 a2 n2 c2 x4 x5, e = .returned (.agg #[.bool x0, .slice ra rn rc, .slice a1 n1 c1, .slice a2 n2 c2, .int .i64 x4, .int .i64 x5]) ∧ Hid (∀ X, Below Wb.heap.size Wb X → Di X (.agg #[.bool x0, .slice ra rn rc, .slice a1 n1 c1, .slice a2 n2 c2, .int .i64 x4, .int .i64 x5]) (rtakenD d)) ∧ Hid ((rtakenD d).least = x4 ∧ (rtakenD d).most = x5) ∧ Below W.heap.size W w' :=
  (reftaken_dom v d Wb W hd0 hbW).mono fun e w' ⟨v, he, hD, hb⟩ => by
    obtain ⟨x0, ra, rn, rc, a1, n1, c1, a2, n2, c2, x4, x5, rfl, _⟩ := (hD Wb (Below.refl _ _)).look
    have h4 := di_si (hD Wb (Below.refl _ _))
    exact ⟨_, _, _, _, _, _, _, _, _, _, _, _, he, hD, h4.2.2, hb⟩

set_option maxRecDepth 100000 in
set_option maxHeartbeats 4000000 in
theorem refmust_any (v : Value) (d : SD) (x : Int) (W : World) (h : Di W v d) :
    Calls Tryz.prog 54 #[v, .int .i64 x] W fun e w' => ∃ v', e = .returned v' ∧ Dv W.heap.size w' v' (rmustD d x) ∧ Below W.heap.size W w' := by
  have k85 := fun X (hX : Below W.heap.size W X) => rtaken_look v d W X h hX
  obtain ⟨x0a, raa, rna, rca, a1a, n1a, c1a, a2a, n2a, c2a, x4a, x5a, rfl, HEa, HLOa, HUPa⟩ := h.look
  have hR := rtaken_right d
  have hM : rmustD d x = if emptyD (rtakenD d) || !(tkS (rtakenD d).up).contains x then noneD else tightD (joinL (tkS (rtakenD d).lo) (tkS [x])) (rtakenD d).up (rtakenD d).least (rtakenD d).most := rfl
  generalize rmustD d x = MD at hM ⊢
  have h1s := hR.2.2.1
  have h2s := hR.2.2.2.1
  have hss := right_sub hR
  have htl := tkS_yes hR.2.2.1
  have htu := tkS_yes hR.2.2.2.1
  generalize rtakenD d = T at *
  obtain ⟨w0, hW0⟩ : ∃ X, ((W.alloc (Obj.cells #[.bool x0a, .slice raa rna rca, .slice a1a n1a c1a, .slice a2a n2a c2a, .int .i64 x4a, .int .i64 x5a] 37)).alloc (Obj.cells #[.bool false, .slice none 0 0, .slice none 0 0, .slice none 0 0, .int .i64 0, .int .i64 0] 37)) = X := ⟨_, rfl⟩
  have HW0 : Hid _ := hW0
  have hb0 : Below W.heap.size W w0 := by rw [← hW0]; exact (((Below.refl _ W).alloc (by simp <;> omega) _).alloc (by simp <;> omega) _)
  have HA_0 : Hid (R6 w0 W.heap.size (.bool x0a) (.slice raa rna rca) (.slice a1a n1a c1a) (.slice a2a n2a c2a) (.int .i64 x4a) (.int .i64 x5a)) := by rw [← hW0]; exact ((R6.new _ _ _ _ _ _ _).alloc _)
  have HZ_0 : Hid (R6 w0 (W.heap.size + 1) (.bool false) (.slice none 0 0) (.slice none 0 0) (.slice none 0 0) (.int .i64 0) (.int .i64 0)) := by rw [← hW0]; exact (R6.new1 _ _ _ _ _ _ _ _)
  clear hW0
  clear h HEa HLOa HUPa hR
  go_enter Tryz.func54, Tryz.ntmps54
  go_upto_region 1 with (fail)
  rw [HW0.out]
  obtain ⟨zA0, zA1, zA2, zA3, zA4, zA5⟩ := HA_0.out.cells
  obtain ⟨zZ0, zZ1, zZ2, zZ3, zZ4, zZ5⟩ := HZ_0.out.cells
  go_wp2_with fail
  refine (k85 w0 hb0).mono ?_
  rintro e w1 ⟨x0t, rat, rnt, rct, a1t, n1t, c1t, a2t, n2t, c2t, x4t, x5t, rfl, HDI, HLT, hb⟩
  have hb1 : Below W.heap.size W w1 := hb0.trans (hb.mono hb0.size)
  have HA_1 : Hid _ := HA_0.out.below hb
  have HZ_1 : Hid _ := HZ_0.out.below hb
  clear zA0 zA1 zA2 zA3 zA4 zA5 zZ0 zZ1 zZ2 zZ3 zZ4 zZ5
  clear hb hb0 HA_0 HZ_0
  have k43 := fun X (hX : Below W.heap.size W X) => refempty_any _ T X (HDI.out X hX)
  have HSI : Hid (∀ X, Below W.heap.size W X → Si X (.slice a1t n1t c1t) T.lo ∧ Si X (.slice a2t n2t c2t) T.up) := fun X hX => ⟨(di_si (HDI.out X hX)).1, (di_si (HDI.out X hX)).2.1⟩
  have HM : Hid _ := hM
  clear hM k85 HW0
  obtain ⟨em, hem⟩ : ∃ b, emptyD T = b := ⟨_, rfl⟩
  simp only [hem] at k43
  have HEM : Hid (emptyD T = em) := hem
  clear hem
  have hb2 := below_setRow hb1 (show W.heap.size ≤ W.heap.size by omega) #[.bool x0t, .slice rat rnt rct, .slice a1t n1t c1t, .slice a2t n2t c2t, .int .i64 x4t, .int .i64 x5t]
  have HA_2 : Hid _ := HA_1.out.set (.bool x0t) (.slice rat rnt rct) (.slice a1t n1t c1t) (.slice a2t n2t c2t) (.int .i64 x4t) (.int .i64 x5t)
  have HZ_2 : Hid _ := HZ_1.out.other (show (W.heap.size + 1) ≠ W.heap.size by omega) #[.bool x0t, .slice rat rnt rct, .slice a1t n1t c1t, .slice a2t n2t c2t, .int .i64 x4t, .int .i64 x5t]
  go_upto_region 2 with (with_reducible refine st37 rfl (.tmp 2) (.tmp 6) rfl W.heap.size _ _ _ _ _ _ (by with_unfolding_all rfl) (by with_unfolding_all rfl) HA_1.out (six_dom _ _ _ _ _ _ _ _ _ _ _ _) ?_)
  simp only [Act.put]
  clear HA_1 HZ_1 hb1
  generalize w1.setRow W.heap.size #[.bool x0t, .slice rat rnt rct, .slice a1t n1t c1t, .slice a2t n2t c2t, .int .i64 x4t, .int .i64 x5t] = w2 at hb2 HA_2 HZ_2 ⊢
  obtain ⟨zA0, zA1, zA2, zA3, zA4, zA5⟩ := HA_2.out.cells
  obtain ⟨zZ0, zZ1, zZ2, zZ3, zZ4, zZ5⟩ := HZ_2.out.cells
  go_wp2_with fail
  refine (k43 w2 hb2).mono ?_
  rintro e w3 ⟨rfl, hb⟩
  have hb3 : Below W.heap.size W w3 := hb2.trans (hb.mono hb2.size)
  have HA_3 : Hid _ := HA_2.out.below hb
  have HZ_3 : Hid _ := HZ_2.out.below hb
  clear zA0 zA1 zA2 zA3 zA4 zA5 zZ0 zZ1 zZ2 zZ3 zZ4 zZ5
  clear hb hb2 HA_2 HZ_2
  obtain ⟨zA0, zA1, zA2, zA3, zA4, zA5⟩ := HA_3.out.cells
  obtain ⟨zZ0, zZ1, zZ2, zZ3, zZ4, zZ5⟩ := HZ_3.out.cells
  cases em
  · have k26 := fun X (hX : Below W.heap.size W X) => refin_below x (.slice a2t n2t c2t) T.up X (HSI.out X hX).2
    simp only [htu] at k26
    obtain ⟨bb, hbb⟩ : ∃ b, T.up.contains x = b := ⟨_, rfl⟩
    simp only [hbb] at k26
    have HB : Hid (T.up.contains x = bb) := hbb
    have HTX : Hid (tkS T.up = T.up) := htu
    clear hbb
    cases bb
    · go_wp2_with fail
      refine (k26 w3 hb3).mono ?_
      rintro e w4 ⟨rfl, hb⟩
      have hb4 : Below W.heap.size W w4 := hb3.trans (hb.mono hb3.size)
      have HA_4 : Hid _ := HA_3.out.below hb
      have HZ_4 : Hid _ := HZ_3.out.below hb
      clear zA0 zA1 zA2 zA3 zA4 zA5 zZ0 zZ1 zZ2 zZ3 zZ4 zZ5
      clear hb hb3 HA_3 HZ_3
      obtain ⟨zA0, zA1, zA2, zA3, zA4, zA5⟩ := HA_4.out.cells
      obtain ⟨zZ0, zZ1, zZ2, zZ3, zZ4, zZ5⟩ := HZ_4.out.cells
      go_wp2_with fail
      refine (refnone_at w4).mono ?_
      rintro e w5 ⟨rfl, hb⟩
      have hb5 : Below W.heap.size W w5 := hb4.trans (hb.mono hb4.size)
      have HA_5 : Hid _ := HA_4.out.below hb
      have HZ_5 : Hid _ := HZ_4.out.below hb
      clear zA0 zA1 zA2 zA3 zA4 zA5 zZ0 zZ1 zZ2 zZ3 zZ4 zZ5
      clear hb hb4 HA_4 HZ_4
      go_wp2_with (with_reducible refine st37 rfl (.tmp 4) (.tmp 16) rfl (W.heap.size + 1) _ _ _ _ _ _ (by with_unfolding_all rfl) (by with_unfolding_all rfl) HZ_5.out (six_dom _ _ _ _ _ _ _ _ _ _ _ _) ?_)
      refine ⟨rfl, _, R6.res rfl _ (HZ_5.out.set (.bool true) (.slice none 0 0) (.slice none 0 0) (.slice none 0 0) (.int .i64 1) (.int .i64 0)) rfl, ⟨_, rfl, ?_, below_setRow hb5 (by omega) _⟩⟩
      rw [HM.out, HEM.out, HTX.out, HB.out]
      exact none_dv _ _
    · go_upto_region 4 with (refine (k26 w3 hb3).mono ?_; rintro e w4 ⟨rfl, hb⟩)
      have hb4 : Below W.heap.size W w4 := hb3.trans (hb.mono hb3.size)
      have HA_4 : Hid _ := HA_3.out.below hb
      have HZ_4 : Hid _ := HZ_3.out.below hb
      clear zA0 zA1 zA2 zA3 zA4 zA5 zZ0 zZ1 zZ2 zZ3 zZ4 zZ5
      clear hb hb3 HA_3 HZ_3
      obtain ⟨zA0, zA1, zA2, zA3, zA4, zA5⟩ := HA_4.out.cells
      obtain ⟨zZ0, zZ1, zZ2, zZ3, zZ4, zZ5⟩ := HZ_4.out.cells
      have HK : ∀ X, Below w4.heap.size w4 X → X.cell? ⟨W.heap.size, 2, none⟩ = some (.slice a1t n1t c1t) ∧ X.cell? ⟨W.heap.size, 3, none⟩ = some (.slice a2t n2t c2t) ∧ X.cell? ⟨W.heap.size, 4, none⟩ = some (.int .i64 x4t) ∧ X.cell? ⟨W.heap.size, 5, none⟩ = some (.int .i64 x5t) := fun X hX => by
        obtain ⟨_, _, c2, c3, c4, c5⟩ := (HA_4.out.below hX).cells
        exact ⟨c2, c3, c4, c5⟩
      have HKS : ∀ X cs, Below w4.heap.size w4 X → (X.setRow (W.heap.size + 1) cs).cell? ⟨W.heap.size, 2, none⟩ = some (.slice a1t n1t c1t) ∧ (X.setRow (W.heap.size + 1) cs).cell? ⟨W.heap.size, 3, none⟩ = some (.slice a2t n2t c2t) ∧ (X.setRow (W.heap.size + 1) cs).cell? ⟨W.heap.size, 4, none⟩ = some (.int .i64 x4t) ∧ (X.setRow (W.heap.size + 1) cs).cell? ⟨W.heap.size, 5, none⟩ = some (.int .i64 x5t) := fun X cs hX => by
        obtain ⟨_, _, c2, c3, c4, c5⟩ := ((HA_4.out.below hX).other (show W.heap.size ≠ W.heap.size + 1 by omega) cs).cells
        exact ⟨c2, c3, c4, c5⟩
      have HBW : Hid (∀ X, Below w4.heap.size w4 X → Below W.heap.size W X) := fun X hX => hb4.trans (hX.mono hb4.size)
      have hsz := hb4.size
      have hB0 : Below w4.heap.size w4 w4.drew := Below.drew (Below.refl _ _)
      have hB1 : Below w4.heap.size w4 (w4.drew.alloc (Obj.cells #[.int .i64 x] 2)) := hB0.alloc hB0.size _
      have hone : Si (w4.drew.alloc (Obj.cells #[.int .i64 x] 2)) (.slice (some ⟨w4.heap.size, 0, none⟩) 1 1) [x] := one_new (w := w4.drew) x
      have hj := join_one_set h1s h2s hss (show x ∈ T.up by simpa using HB.out)
      have HJS : Hid (IsSet (joinL T.lo (tkS [x])) ∧ ∀ y ∈ joinL T.lo (tkS [x]), y ∈ T.up) := by unfold Hid; rw [tkS_one h2s (show x ∈ T.up by simpa using HB.out)]; exact hj
      clear hj
      have HTL : Hid (tkS T.lo = T.lo) := htl
      have kJ : Calls Tryz.prog 15 #[.slice a1t n1t c1t, .slice (some ⟨w4.heap.size, 0, none⟩) 1 1] (w4.drew.alloc (Obj.cells #[.int .i64 x] 2)) fun e w' => ∃ p n c, e = .returned (.slice p n c) ∧ Hid (Si w' (.slice p n c) (joinL T.lo (tkS [x]))) ∧ Below w4.heap.size w4 w' :=
        (refjoin_any _ _ T.lo [x] _ (HSI.out _ (HBW.out _ hB1)).1 hone).mono fun e w' ⟨v, he, hr, hb⟩ => by
        rw [HTL.out] at hr
        obtain ⟨p, c, rfl⟩ := own_slice hr
        exact ⟨p, _, c, he, own_si hr, hB1.trans (hb.mono hB1.size)⟩
      have k76 := fun q X (hX : Below w4.heap.size w4 X) (hq : Si X q (joinL T.lo (tkS [x]))) => reftight_look q (.slice a2t n2t c2t) _ T.up x4t x5t X hq (HSI.out X (HBW.out X hX)).2 HJS.out.1 h2s HJS.out.2
      clear zA0 zA1 zA2 zA3 zA4 zA5 zZ0 zZ1 zZ2 zZ3 zZ4 zZ5
      refine wp_region_held_drew (S := (fun w' => w'.cell? ⟨W.heap.size, 2, none⟩ = some (.slice a1t n1t c1t) ∧ w'.cell? ⟨W.heap.size, 3, none⟩ = some (.slice a2t n2t c2t) ∧ w'.cell? ⟨W.heap.size, 4, none⟩ = some (.int .i64 x4t) ∧ w'.cell? ⟨W.heap.size, 5, none⟩ = some (.int .i64 x5t))) (by kernel_rfl) (HK _ hB0) (fun hHeld => ?_)
      refine wpAnyH_take (i := 0) (oi := { dst := some 17, op := Go.Op.fieldAddr 37 (Go.Operand.tmp 2) 2, type := 0, pos := "ref.go:358", after := #[], guard := none }) (v := ?_) rfl (by kernel_rfl) (by kernel_rfl) (by kernel_rfl) (fun _ _ _ h => h) (Or.inl ⟨by rfl, ?_⟩) hHeld ?_
      rotate_left
      · intro w hSw; (try dsimp only at hSw); go_simp <;> with_reducible rfl
      try simp only [Act.put, List.setIfInBounds_toArray, List.set_cons_zero, List.set_cons_succ]
      refine wpAnyH_take (i := 1) (oi := { dst := some 18, op := Go.Op.load 22 (Go.Operand.tmp 17), type := 22, pos := "ref.go:358", after := #[{ on := 0, ground := Go.Ground.data }], guard := none }) (v := ?_) rfl (by kernel_rfl) (by kernel_rfl) (by kernel_rfl) (fun _ _ _ h => h) (Or.inl ⟨by rfl, ?_⟩) hHeld ?_
      rotate_left
      · intro w hSw; (try dsimp only at hSw); go_simp <;> with_reducible rfl
      try simp only [Act.put, List.setIfInBounds_toArray, List.set_cons_zero, List.set_cons_succ]
      refine wpAnyH_take (i := 2) (oi := { dst := some 19, op := Go.Op.move (Go.Operand.tmp 1), type := 2, pos := "ref.go:358", after := #[], guard := none }) (v := ?_) rfl (by kernel_rfl) (by kernel_rfl) (by kernel_rfl) (fun _ _ _ h => h) (Or.inl ⟨by rfl, ?_⟩) hHeld ?_
      rotate_left
      · intro w hSw; (try dsimp only at hSw); go_simp <;> with_reducible rfl
      try simp only [Act.put, List.setIfInBounds_toArray, List.set_cons_zero, List.set_cons_succ]
      refine wpAnyH_take (i := 5) (oi := { dst := some 22, op := Go.Op.fieldAddr 37 (Go.Operand.tmp 2) 3, type := 0, pos := "ref.go:358", after := #[], guard := none }) (v := ?_) rfl (by kernel_rfl) (by kernel_rfl) (by kernel_rfl) (fun _ _ _ h => h) (Or.inl ⟨by rfl, ?_⟩) hHeld ?_
      rotate_left
      · intro w hSw; (try dsimp only at hSw); go_simp <;> with_reducible rfl
      try simp only [Act.put, List.setIfInBounds_toArray, List.set_cons_zero, List.set_cons_succ]
      refine wpAnyH_take (i := 6) (oi := { dst := some 23, op := Go.Op.load 22 (Go.Operand.tmp 22), type := 22, pos := "ref.go:358", after := #[{ on := 5, ground := Go.Ground.data }], guard := none }) (v := ?_) rfl (by kernel_rfl) (by kernel_rfl) (by kernel_rfl) (fun _ _ _ h => h) (Or.inl ⟨by rfl, ?_⟩) hHeld ?_
      rotate_left
      · intro w hSw; (try dsimp only at hSw); go_simp <;> with_reducible rfl
      try simp only [Act.put, List.setIfInBounds_toArray, List.set_cons_zero, List.set_cons_succ]
      refine wpAnyH_take (i := 7) (oi := { dst := some 24, op := Go.Op.fieldAddr 37 (Go.Operand.tmp 2) 4, type := 0, pos := "ref.go:358", after := #[], guard := none }) (v := ?_) rfl (by kernel_rfl) (by kernel_rfl) (by kernel_rfl) (fun _ _ _ h => h) (Or.inl ⟨by rfl, ?_⟩) hHeld ?_
      rotate_left
      · intro w hSw; (try dsimp only at hSw); go_simp <;> with_reducible rfl
      try simp only [Act.put, List.setIfInBounds_toArray, List.set_cons_zero, List.set_cons_succ]
      refine wpAnyH_take (i := 8) (oi := { dst := some 25, op := Go.Op.load 3 (Go.Operand.tmp 24), type := 3, pos := "ref.go:358", after := #[{ on := 7, ground := Go.Ground.data }], guard := none }) (v := ?_) rfl (by kernel_rfl) (by kernel_rfl) (by kernel_rfl) (fun _ _ _ h => h) (Or.inl ⟨by rfl, ?_⟩) hHeld ?_
      rotate_left
      · intro w hSw; (try dsimp only at hSw); go_simp <;> with_reducible rfl
      try simp only [Act.put, List.setIfInBounds_toArray, List.set_cons_zero, List.set_cons_succ]
      refine wpAnyH_take (i := 9) (oi := { dst := some 26, op := Go.Op.fieldAddr 37 (Go.Operand.tmp 2) 5, type := 0, pos := "ref.go:358", after := #[], guard := none }) (v := ?_) rfl (by kernel_rfl) (by kernel_rfl) (by kernel_rfl) (fun _ _ _ h => h) (Or.inl ⟨by rfl, ?_⟩) hHeld ?_
      rotate_left
      · intro w hSw; (try dsimp only at hSw); go_simp <;> with_reducible rfl
      try simp only [Act.put, List.setIfInBounds_toArray, List.set_cons_zero, List.set_cons_succ]
      refine wpAnyH_take (i := 10) (oi := { dst := some 27, op := Go.Op.load 3 (Go.Operand.tmp 26), type := 3, pos := "ref.go:358", after := #[{ on := 9, ground := Go.Ground.data }], guard := none }) (v := ?_) rfl (by kernel_rfl) (by kernel_rfl) (by kernel_rfl) (fun _ _ _ h => h) (Or.inl ⟨by rfl, ?_⟩) hHeld ?_
      rotate_left
      · intro w hSw; (try dsimp only at hSw); go_simp <;> with_reducible rfl
      try simp only [Act.put, List.setIfInBounds_toArray, List.set_cons_zero, List.set_cons_succ]
      refine wpAnyH_ready (rs := [3]) (by kernel_rfl) (by simp) ?_
      refine AllReadyH.cons rfl (fun K hK => ?_) AllReadyH.nil
      go_simp
      refine hK.out _ _ (HK _ hB1) (fun hHeld2 => ?_)
      clear hK K hHeld
      have hHeld := hHeld2
      clear hHeld2
      try simp only [Act.put, List.setIfInBounds_toArray, List.set_cons_zero, List.set_cons_succ]
      refine wpAnyH_ready (rs := [4]) (by kernel_rfl) (by simp) ?_
      refine AllReadyH.cons rfl (fun K hK => ?_) AllReadyH.nil
      go_simp
      refine kJ.mono ?_
      rintro e w15 ⟨p9, n9, c9, rfl, HJ, hb5⟩
      refine hK.out _ _ (HK _ hb5) (fun hHeld2 => ?_)
      clear hK K hHeld
      have hHeld := hHeld2
      clear hHeld2
      try simp only [Act.put, List.setIfInBounds_toArray, List.set_cons_zero, List.set_cons_succ]
      refine wpAnyH_ready (rs := [11]) (by kernel_rfl) (by simp) ?_
      refine AllReadyH.cons rfl (fun K hK => ?_) AllReadyH.nil
      go_simp
      refine (k76 _ _ hb5 HJ.out).mono ?_
      rintro e w16 ⟨g0, q1, h1, j1, q2, h2, j2, g4, g5, rfl, HV, hb6'⟩
      have hb6 : Below w4.heap.size w4 w16 := hb5.trans (hb6'.mono hb5.size)
      refine hK.out _ _ (HK _ hb6) (fun hHeld2 => ?_)
      clear hK K hHeld
      have hHeld := hHeld2
      clear hHeld2
      try simp only [Act.put, List.setIfInBounds_toArray, List.set_cons_zero, List.set_cons_succ]
      refine wpAnyH_ready (rs := [12]) (by kernel_rfl) (by simp) ?_
      refine AllReadyH.cons rfl (fun K hK => ?_) AllReadyH.nil
      refine step37 rfl (.tmp 4) (.tmp 28) rfl (W.heap.size + 1) (.bool g0) (.slice none 0 0) (.slice q1 h1 j1) (.slice q2 h2 j2) (.int .i64 g4) (.int .i64 g5) (by with_unfolding_all rfl) (by with_unfolding_all rfl) (HZ_4.out.below hb6) (six_dom _ _ _ _ _ _ _ _ _ _ _ _) ?_
      refine hK.out _ _ (HKS _ _ hb6) (fun hHeld2 => ?_)
      clear hK K hHeld
      have hHeld := hHeld2
      clear hHeld2
      try simp only [Act.put, List.setIfInBounds_toArray, List.set_cons_zero, List.set_cons_succ]
      refine wpAnyH_done (by kernel_rfl) ?_ _
      go_wp2
      refine ⟨rfl, _, R6.res rfl _ ((HZ_4.out.below hb6).set (.bool g0) (.slice none 0 0) (.slice q1 h1 j1) (.slice q2 h2 j2) (.int .i64 g4) (.int .i64 g5)) rfl, ⟨_, rfl, ?_, below_setRow (HBW.out _ hb6) (by omega) _⟩⟩
      rw [HM.out, HEM.out, HTX.out, HB.out]
      simp only [Bool.false_or, Bool.not_true, Bool.false_eq_true, if_false]
      rw [HTL.out, HLT.out.1, HLT.out.2]
      exact (HV.out.base (Nat.le_trans hsz hb5.size)).set (HZ_4.out.below hb6) _
  · go_wp2_with fail
    refine (refnone_at w3).mono ?_
    rintro e w4 ⟨rfl, hb⟩
    have hb4 : Below W.heap.size W w4 := hb3.trans (hb.mono hb3.size)
    have HA_4 : Hid _ := HA_3.out.below hb
    have HZ_4 : Hid _ := HZ_3.out.below hb
    clear zA0 zA1 zA2 zA3 zA4 zA5 zZ0 zZ1 zZ2 zZ3 zZ4 zZ5
    clear hb hb3 HA_3 HZ_3
    go_wp2_with (with_reducible refine st37 rfl (.tmp 4) (.tmp 16) rfl (W.heap.size + 1) _ _ _ _ _ _ (by with_unfolding_all rfl) (by with_unfolding_all rfl) HZ_4.out (six_dom _ _ _ _ _ _ _ _ _ _ _ _) ?_)
    refine ⟨rfl, _, R6.res rfl _ (HZ_4.out.set (.bool true) (.slice none 0 0) (.slice none 0 0) (.slice none 0 0) (.int .i64 1) (.int .i64 0)) rfl, ⟨_, rfl, ?_, below_setRow hb4 (by omega) _⟩⟩
    rw [HM.out, HEM.out]
    exact none_dv _ _

set_option maxRecDepth 100000 in
set_option maxHeartbeats 4000000 in
theorem refnot_any (v : Value) (d : SD) (x : Int) (W : World) (h : Di W v d) :
    Calls Tryz.prog 55 #[v, .int .i64 x] W fun e w' => ∃ v', e = .returned v' ∧ Dv W.heap.size w' v' (rnotD d x) ∧ Below W.heap.size W w' := by
  have k85 := fun X (hX : Below W.heap.size W X) => rtaken_look v d W X h hX
  obtain ⟨x0a, raa, rna, rca, a1a, n1a, c1a, a2a, n2a, c2a, x4a, x5a, rfl, HEa, HLOa, HUPa⟩ := h.look
  have hR := rtaken_right d
  have hM : rnotD d x = if emptyD (rtakenD d) || (tkS (rtakenD d).lo).contains x then noneD else tightD (rtakenD d).lo (lessL (tkS (rtakenD d).up) (tkS [x])) (rtakenD d).least (rtakenD d).most := rfl
  generalize rnotD d x = MD at hM ⊢
  have h1s := hR.2.2.1
  have h2s := hR.2.2.2.1
  have hss := right_sub hR
  have htl := tkS_yes hR.2.2.1
  have htu := tkS_yes hR.2.2.2.1
  generalize rtakenD d = T at *
  obtain ⟨w0, hW0⟩ : ∃ X, ((W.alloc (Obj.cells #[.bool x0a, .slice raa rna rca, .slice a1a n1a c1a, .slice a2a n2a c2a, .int .i64 x4a, .int .i64 x5a] 37)).alloc (Obj.cells #[.bool false, .slice none 0 0, .slice none 0 0, .slice none 0 0, .int .i64 0, .int .i64 0] 37)) = X := ⟨_, rfl⟩
  have HW0 : Hid _ := hW0
  have hb0 : Below W.heap.size W w0 := by rw [← hW0]; exact (((Below.refl _ W).alloc (by simp <;> omega) _).alloc (by simp <;> omega) _)
  have HA_0 : Hid (R6 w0 W.heap.size (.bool x0a) (.slice raa rna rca) (.slice a1a n1a c1a) (.slice a2a n2a c2a) (.int .i64 x4a) (.int .i64 x5a)) := by rw [← hW0]; exact ((R6.new _ _ _ _ _ _ _).alloc _)
  have HZ_0 : Hid (R6 w0 (W.heap.size + 1) (.bool false) (.slice none 0 0) (.slice none 0 0) (.slice none 0 0) (.int .i64 0) (.int .i64 0)) := by rw [← hW0]; exact (R6.new1 _ _ _ _ _ _ _ _)
  clear hW0
  clear h HEa HLOa HUPa hR
  go_enter Tryz.func55, Tryz.ntmps55
  go_upto_region 1 with (fail)
  rw [HW0.out]
  obtain ⟨zA0, zA1, zA2, zA3, zA4, zA5⟩ := HA_0.out.cells
  obtain ⟨zZ0, zZ1, zZ2, zZ3, zZ4, zZ5⟩ := HZ_0.out.cells
  go_wp2_with fail
  refine (k85 w0 hb0).mono ?_
  rintro e w1 ⟨x0t, rat, rnt, rct, a1t, n1t, c1t, a2t, n2t, c2t, x4t, x5t, rfl, HDI, HLT, hb⟩
  have hb1 : Below W.heap.size W w1 := hb0.trans (hb.mono hb0.size)
  have HA_1 : Hid _ := HA_0.out.below hb
  have HZ_1 : Hid _ := HZ_0.out.below hb
  clear zA0 zA1 zA2 zA3 zA4 zA5 zZ0 zZ1 zZ2 zZ3 zZ4 zZ5
  clear hb hb0 HA_0 HZ_0
  have k43 := fun X (hX : Below W.heap.size W X) => refempty_any _ T X (HDI.out X hX)
  have HSI : Hid (∀ X, Below W.heap.size W X → Si X (.slice a1t n1t c1t) T.lo ∧ Si X (.slice a2t n2t c2t) T.up) := fun X hX => ⟨(di_si (HDI.out X hX)).1, (di_si (HDI.out X hX)).2.1⟩
  have HM : Hid _ := hM
  clear hM k85 HW0
  obtain ⟨em, hem⟩ : ∃ b, emptyD T = b := ⟨_, rfl⟩
  simp only [hem] at k43
  have HEM : Hid (emptyD T = em) := hem
  clear hem
  have hb2 := below_setRow hb1 (show W.heap.size ≤ W.heap.size by omega) #[.bool x0t, .slice rat rnt rct, .slice a1t n1t c1t, .slice a2t n2t c2t, .int .i64 x4t, .int .i64 x5t]
  have HA_2 : Hid _ := HA_1.out.set (.bool x0t) (.slice rat rnt rct) (.slice a1t n1t c1t) (.slice a2t n2t c2t) (.int .i64 x4t) (.int .i64 x5t)
  have HZ_2 : Hid _ := HZ_1.out.other (show (W.heap.size + 1) ≠ W.heap.size by omega) #[.bool x0t, .slice rat rnt rct, .slice a1t n1t c1t, .slice a2t n2t c2t, .int .i64 x4t, .int .i64 x5t]
  go_upto_region 2 with (with_reducible refine st37 rfl (.tmp 2) (.tmp 6) rfl W.heap.size _ _ _ _ _ _ (by with_unfolding_all rfl) (by with_unfolding_all rfl) HA_1.out (six_dom _ _ _ _ _ _ _ _ _ _ _ _) ?_)
  simp only [Act.put]
  clear HA_1 HZ_1 hb1
  generalize w1.setRow W.heap.size #[.bool x0t, .slice rat rnt rct, .slice a1t n1t c1t, .slice a2t n2t c2t, .int .i64 x4t, .int .i64 x5t] = w2 at hb2 HA_2 HZ_2 ⊢
  obtain ⟨zA0, zA1, zA2, zA3, zA4, zA5⟩ := HA_2.out.cells
  obtain ⟨zZ0, zZ1, zZ2, zZ3, zZ4, zZ5⟩ := HZ_2.out.cells
  go_wp2_with fail
  refine (k43 w2 hb2).mono ?_
  rintro e w3 ⟨rfl, hb⟩
  have hb3 : Below W.heap.size W w3 := hb2.trans (hb.mono hb2.size)
  have HA_3 : Hid _ := HA_2.out.below hb
  have HZ_3 : Hid _ := HZ_2.out.below hb
  clear zA0 zA1 zA2 zA3 zA4 zA5 zZ0 zZ1 zZ2 zZ3 zZ4 zZ5
  clear hb hb2 HA_2 HZ_2
  obtain ⟨zA0, zA1, zA2, zA3, zA4, zA5⟩ := HA_3.out.cells
  obtain ⟨zZ0, zZ1, zZ2, zZ3, zZ4, zZ5⟩ := HZ_3.out.cells
  cases em
  · have k26 := fun X (hX : Below W.heap.size W X) => refin_below x (.slice a1t n1t c1t) T.lo X (HSI.out X hX).1
    simp only [htl] at k26
    obtain ⟨bb, hbb⟩ : ∃ b, T.lo.contains x = b := ⟨_, rfl⟩
    simp only [hbb] at k26
    have HB : Hid (T.lo.contains x = bb) := hbb
    have HTX : Hid (tkS T.lo = T.lo) := htl
    clear hbb
    cases bb
    · go_upto_region 4 with (refine (k26 w3 hb3).mono ?_; rintro e w4 ⟨rfl, hb⟩)
      have hb4 : Below W.heap.size W w4 := hb3.trans (hb.mono hb3.size)
      have HA_4 : Hid _ := HA_3.out.below hb
      have HZ_4 : Hid _ := HZ_3.out.below hb
      clear zA0 zA1 zA2 zA3 zA4 zA5 zZ0 zZ1 zZ2 zZ3 zZ4 zZ5
      clear hb hb3 HA_3 HZ_3
      obtain ⟨zA0, zA1, zA2, zA3, zA4, zA5⟩ := HA_4.out.cells
      obtain ⟨zZ0, zZ1, zZ2, zZ3, zZ4, zZ5⟩ := HZ_4.out.cells
      have HK : ∀ X, Below w4.heap.size w4 X → X.cell? ⟨W.heap.size, 2, none⟩ = some (.slice a1t n1t c1t) ∧ X.cell? ⟨W.heap.size, 3, none⟩ = some (.slice a2t n2t c2t) ∧ X.cell? ⟨W.heap.size, 4, none⟩ = some (.int .i64 x4t) ∧ X.cell? ⟨W.heap.size, 5, none⟩ = some (.int .i64 x5t) := fun X hX => by
        obtain ⟨_, _, c2, c3, c4, c5⟩ := (HA_4.out.below hX).cells
        exact ⟨c2, c3, c4, c5⟩
      have HKS : ∀ X cs, Below w4.heap.size w4 X → (X.setRow (W.heap.size + 1) cs).cell? ⟨W.heap.size, 2, none⟩ = some (.slice a1t n1t c1t) ∧ (X.setRow (W.heap.size + 1) cs).cell? ⟨W.heap.size, 3, none⟩ = some (.slice a2t n2t c2t) ∧ (X.setRow (W.heap.size + 1) cs).cell? ⟨W.heap.size, 4, none⟩ = some (.int .i64 x4t) ∧ (X.setRow (W.heap.size + 1) cs).cell? ⟨W.heap.size, 5, none⟩ = some (.int .i64 x5t) := fun X cs hX => by
        obtain ⟨_, _, c2, c3, c4, c5⟩ := ((HA_4.out.below hX).other (show W.heap.size ≠ W.heap.size + 1 by omega) cs).cells
        exact ⟨c2, c3, c4, c5⟩
      have HBW : Hid (∀ X, Below w4.heap.size w4 X → Below W.heap.size W X) := fun X hX => hb4.trans (hX.mono hb4.size)
      have hsz := hb4.size
      have hB0 : Below w4.heap.size w4 w4.drew := Below.drew (Below.refl _ _)
      have hB1 : Below w4.heap.size w4 (w4.drew.alloc (Obj.cells #[.int .i64 x] 2)) := hB0.alloc hB0.size _
      have hone : Si (w4.drew.alloc (Obj.cells #[.int .i64 x] 2)) (.slice (some ⟨w4.heap.size, 0, none⟩) 1 1) [x] := one_new (w := w4.drew) x
      have HTU : Hid (tkS T.up = T.up) := htu
      have HJS : Hid (IsSet (lessL T.up (tkS [x])) ∧ ∀ y ∈ T.lo, y ∈ lessL T.up (tkS [x])) := ⟨less_one_set h2s _, fun y hy => (less_mem _ _ _).2 ⟨hss y hy, fun h => by
        have e := tkS_one_mem h
        have := HB.out
        rw [← e] at this
        simp [hy] at this⟩⟩
      have kJ : Calls Tryz.prog 17 #[.slice a2t n2t c2t, .slice (some ⟨w4.heap.size, 0, none⟩) 1 1] (w4.drew.alloc (Obj.cells #[.int .i64 x] 2)) fun e w' => ∃ p n c, e = .returned (.slice p n c) ∧ Hid (Si w' (.slice p n c) (lessL T.up (tkS [x]))) ∧ Below w4.heap.size w4 w' :=
        (refless_any _ _ T.up [x] _ (HSI.out _ (HBW.out _ hB1)).2 hone).mono fun e w' ⟨v, he, hr, hb⟩ => by
        rw [HTU.out] at hr
        obtain ⟨p, c, rfl⟩ := own_slice hr
        exact ⟨p, _, c, he, own_si hr, hB1.trans (hb.mono hB1.size)⟩
      have k76 := fun q X (hX : Below w4.heap.size w4 X) (hq : Si X q (lessL T.up (tkS [x]))) => reftight_look (.slice a1t n1t c1t) q T.lo _ x4t x5t X (HSI.out X (HBW.out X hX)).1 hq h1s HJS.out.1 HJS.out.2
      clear zA0 zA1 zA2 zA3 zA4 zA5 zZ0 zZ1 zZ2 zZ3 zZ4 zZ5
      refine wp_region_held_drew (S := (fun w' => w'.cell? ⟨W.heap.size, 2, none⟩ = some (.slice a1t n1t c1t) ∧ w'.cell? ⟨W.heap.size, 3, none⟩ = some (.slice a2t n2t c2t) ∧ w'.cell? ⟨W.heap.size, 4, none⟩ = some (.int .i64 x4t) ∧ w'.cell? ⟨W.heap.size, 5, none⟩ = some (.int .i64 x5t))) (by kernel_rfl) (HK _ hB0) (fun hHeld => ?_)
      refine wpAnyH_take (i := 0) (oi := { dst := some 16, op := Go.Op.fieldAddr 37 (Go.Operand.tmp 2) 2, type := 0, pos := "ref.go:366", after := #[], guard := none }) (v := ?_) rfl (by kernel_rfl) (by kernel_rfl) (by kernel_rfl) (fun _ _ _ h => h) (Or.inl ⟨by rfl, ?_⟩) hHeld ?_
      rotate_left
      · intro w hSw; (try dsimp only at hSw); go_simp <;> with_reducible rfl
      try simp only [Act.put, List.setIfInBounds_toArray, List.set_cons_zero, List.set_cons_succ]
      refine wpAnyH_take (i := 1) (oi := { dst := some 17, op := Go.Op.load 22 (Go.Operand.tmp 16), type := 22, pos := "ref.go:366", after := #[{ on := 0, ground := Go.Ground.data }], guard := none }) (v := ?_) rfl (by kernel_rfl) (by kernel_rfl) (by kernel_rfl) (fun _ _ _ h => h) (Or.inl ⟨by rfl, ?_⟩) hHeld ?_
      rotate_left
      · intro w hSw; (try dsimp only at hSw); go_simp <;> with_reducible rfl
      try simp only [Act.put, List.setIfInBounds_toArray, List.set_cons_zero, List.set_cons_succ]
      refine wpAnyH_take (i := 2) (oi := { dst := some 18, op := Go.Op.fieldAddr 37 (Go.Operand.tmp 2) 3, type := 0, pos := "ref.go:366", after := #[], guard := none }) (v := ?_) rfl (by kernel_rfl) (by kernel_rfl) (by kernel_rfl) (fun _ _ _ h => h) (Or.inl ⟨by rfl, ?_⟩) hHeld ?_
      rotate_left
      · intro w hSw; (try dsimp only at hSw); go_simp <;> with_reducible rfl
      try simp only [Act.put, List.setIfInBounds_toArray, List.set_cons_zero, List.set_cons_succ]
      refine wpAnyH_take (i := 3) (oi := { dst := some 19, op := Go.Op.load 22 (Go.Operand.tmp 18), type := 22, pos := "ref.go:366", after := #[{ on := 2, ground := Go.Ground.data }], guard := none }) (v := ?_) rfl (by kernel_rfl) (by kernel_rfl) (by kernel_rfl) (fun _ _ _ h => h) (Or.inl ⟨by rfl, ?_⟩) hHeld ?_
      rotate_left
      · intro w hSw; (try dsimp only at hSw); go_simp <;> with_reducible rfl
      try simp only [Act.put, List.setIfInBounds_toArray, List.set_cons_zero, List.set_cons_succ]
      refine wpAnyH_take (i := 4) (oi := { dst := some 20, op := Go.Op.move (Go.Operand.tmp 1), type := 2, pos := "ref.go:366", after := #[], guard := none }) (v := ?_) rfl (by kernel_rfl) (by kernel_rfl) (by kernel_rfl) (fun _ _ _ h => h) (Or.inl ⟨by rfl, ?_⟩) hHeld ?_
      rotate_left
      · intro w hSw; (try dsimp only at hSw); go_simp <;> with_reducible rfl
      try simp only [Act.put, List.setIfInBounds_toArray, List.set_cons_zero, List.set_cons_succ]
      refine wpAnyH_take (i := 7) (oi := { dst := some 23, op := Go.Op.fieldAddr 37 (Go.Operand.tmp 2) 4, type := 0, pos := "ref.go:366", after := #[], guard := none }) (v := ?_) rfl (by kernel_rfl) (by kernel_rfl) (by kernel_rfl) (fun _ _ _ h => h) (Or.inl ⟨by rfl, ?_⟩) hHeld ?_
      rotate_left
      · intro w hSw; (try dsimp only at hSw); go_simp <;> with_reducible rfl
      try simp only [Act.put, List.setIfInBounds_toArray, List.set_cons_zero, List.set_cons_succ]
      refine wpAnyH_take (i := 8) (oi := { dst := some 24, op := Go.Op.load 3 (Go.Operand.tmp 23), type := 3, pos := "ref.go:366", after := #[{ on := 7, ground := Go.Ground.data }], guard := none }) (v := ?_) rfl (by kernel_rfl) (by kernel_rfl) (by kernel_rfl) (fun _ _ _ h => h) (Or.inl ⟨by rfl, ?_⟩) hHeld ?_
      rotate_left
      · intro w hSw; (try dsimp only at hSw); go_simp <;> with_reducible rfl
      try simp only [Act.put, List.setIfInBounds_toArray, List.set_cons_zero, List.set_cons_succ]
      refine wpAnyH_take (i := 9) (oi := { dst := some 25, op := Go.Op.fieldAddr 37 (Go.Operand.tmp 2) 5, type := 0, pos := "ref.go:366", after := #[], guard := none }) (v := ?_) rfl (by kernel_rfl) (by kernel_rfl) (by kernel_rfl) (fun _ _ _ h => h) (Or.inl ⟨by rfl, ?_⟩) hHeld ?_
      rotate_left
      · intro w hSw; (try dsimp only at hSw); go_simp <;> with_reducible rfl
      try simp only [Act.put, List.setIfInBounds_toArray, List.set_cons_zero, List.set_cons_succ]
      refine wpAnyH_take (i := 10) (oi := { dst := some 26, op := Go.Op.load 3 (Go.Operand.tmp 25), type := 3, pos := "ref.go:366", after := #[{ on := 9, ground := Go.Ground.data }], guard := none }) (v := ?_) rfl (by kernel_rfl) (by kernel_rfl) (by kernel_rfl) (fun _ _ _ h => h) (Or.inl ⟨by rfl, ?_⟩) hHeld ?_
      rotate_left
      · intro w hSw; (try dsimp only at hSw); go_simp <;> with_reducible rfl
      try simp only [Act.put, List.setIfInBounds_toArray, List.set_cons_zero, List.set_cons_succ]
      refine wpAnyH_ready (rs := [5]) (by kernel_rfl) (by simp) ?_
      refine AllReadyH.cons rfl (fun K hK => ?_) AllReadyH.nil
      go_simp
      refine hK.out _ _ (HK _ hB1) (fun hHeld2 => ?_)
      clear hK K hHeld
      have hHeld := hHeld2
      clear hHeld2
      try simp only [Act.put, List.setIfInBounds_toArray, List.set_cons_zero, List.set_cons_succ]
      refine wpAnyH_ready (rs := [6]) (by kernel_rfl) (by simp) ?_
      refine AllReadyH.cons rfl (fun K hK => ?_) AllReadyH.nil
      go_simp
      refine kJ.mono ?_
      rintro e w15 ⟨p9, n9, c9, rfl, HJ, hb5⟩
      refine hK.out _ _ (HK _ hb5) (fun hHeld2 => ?_)
      clear hK K hHeld
      have hHeld := hHeld2
      clear hHeld2
      try simp only [Act.put, List.setIfInBounds_toArray, List.set_cons_zero, List.set_cons_succ]
      refine wpAnyH_ready (rs := [11]) (by kernel_rfl) (by simp) ?_
      refine AllReadyH.cons rfl (fun K hK => ?_) AllReadyH.nil
      go_simp
      refine (k76 _ _ hb5 HJ.out).mono ?_
      rintro e w16 ⟨g0, q1, h1, j1, q2, h2, j2, g4, g5, rfl, HV, hb6'⟩
      have hb6 : Below w4.heap.size w4 w16 := hb5.trans (hb6'.mono hb5.size)
      refine hK.out _ _ (HK _ hb6) (fun hHeld2 => ?_)
      clear hK K hHeld
      have hHeld := hHeld2
      clear hHeld2
      try simp only [Act.put, List.setIfInBounds_toArray, List.set_cons_zero, List.set_cons_succ]
      refine wpAnyH_ready (rs := [12]) (by kernel_rfl) (by simp) ?_
      refine AllReadyH.cons rfl (fun K hK => ?_) AllReadyH.nil
      refine step37 rfl (.tmp 4) (.tmp 27) rfl (W.heap.size + 1) (.bool g0) (.slice none 0 0) (.slice q1 h1 j1) (.slice q2 h2 j2) (.int .i64 g4) (.int .i64 g5) (by with_unfolding_all rfl) (by with_unfolding_all rfl) (HZ_4.out.below hb6) (six_dom _ _ _ _ _ _ _ _ _ _ _ _) ?_
      refine hK.out _ _ (HKS _ _ hb6) (fun hHeld2 => ?_)
      clear hK K hHeld
      have hHeld := hHeld2
      clear hHeld2
      try simp only [Act.put, List.setIfInBounds_toArray, List.set_cons_zero, List.set_cons_succ]
      refine wpAnyH_done (by kernel_rfl) ?_ _
      go_wp2
      refine ⟨rfl, _, R6.res rfl _ ((HZ_4.out.below hb6).set (.bool g0) (.slice none 0 0) (.slice q1 h1 j1) (.slice q2 h2 j2) (.int .i64 g4) (.int .i64 g5)) rfl, ⟨_, rfl, ?_, below_setRow (HBW.out _ hb6) (by omega) _⟩⟩
      rw [HM.out, HEM.out, HTX.out, HB.out]
      simp only [Bool.false_or, Bool.not_true, Bool.false_eq_true, if_false]
      rw [HTU.out, HLT.out.1, HLT.out.2]
      exact (HV.out.base (Nat.le_trans hsz hb5.size)).set (HZ_4.out.below hb6) _
    · go_wp2_with fail
      refine (k26 w3 hb3).mono ?_
      rintro e w4 ⟨rfl, hb⟩
      have hb4 : Below W.heap.size W w4 := hb3.trans (hb.mono hb3.size)
      have HA_4 : Hid _ := HA_3.out.below hb
      have HZ_4 : Hid _ := HZ_3.out.below hb
      clear zA0 zA1 zA2 zA3 zA4 zA5 zZ0 zZ1 zZ2 zZ3 zZ4 zZ5
      clear hb hb3 HA_3 HZ_3
      obtain ⟨zA0, zA1, zA2, zA3, zA4, zA5⟩ := HA_4.out.cells
      obtain ⟨zZ0, zZ1, zZ2, zZ3, zZ4, zZ5⟩ := HZ_4.out.cells
      go_wp2_with fail
      refine (refnone_at w4).mono ?_
      rintro e w5 ⟨rfl, hb⟩
      have hb5 : Below W.heap.size W w5 := hb4.trans (hb.mono hb4.size)
      have HA_5 : Hid _ := HA_4.out.below hb
      have HZ_5 : Hid _ := HZ_4.out.below hb
      clear zA0 zA1 zA2 zA3 zA4 zA5 zZ0 zZ1 zZ2 zZ3 zZ4 zZ5
      clear hb hb4 HA_4 HZ_4
      go_wp2_with (with_reducible refine st37 rfl (.tmp 4) (.tmp 15) rfl (W.heap.size + 1) _ _ _ _ _ _ (by with_unfolding_all rfl) (by with_unfolding_all rfl) HZ_5.out (six_dom _ _ _ _ _ _ _ _ _ _ _ _) ?_)
      refine ⟨rfl, _, R6.res rfl _ (HZ_5.out.set (.bool true) (.slice none 0 0) (.slice none 0 0) (.slice none 0 0) (.int .i64 1) (.int .i64 0)) rfl, ⟨_, rfl, ?_, below_setRow hb5 (by omega) _⟩⟩
      rw [HM.out, HEM.out, HTX.out, HB.out]
      exact none_dv _ _
  · go_wp2_with fail
    refine (refnone_at w3).mono ?_
    rintro e w4 ⟨rfl, hb⟩
    have hb4 : Below W.heap.size W w4 := hb3.trans (hb.mono hb3.size)
    have HA_4 : Hid _ := HA_3.out.below hb
    have HZ_4 : Hid _ := HZ_3.out.below hb
    clear zA0 zA1 zA2 zA3 zA4 zA5 zZ0 zZ1 zZ2 zZ3 zZ4 zZ5
    clear hb hb3 HA_3 HZ_3
    go_wp2_with (with_reducible refine st37 rfl (.tmp 4) (.tmp 15) rfl (W.heap.size + 1) _ _ _ _ _ _ (by with_unfolding_all rfl) (by with_unfolding_all rfl) HZ_4.out (six_dom _ _ _ _ _ _ _ _ _ _ _ _) ?_)
    refine ⟨rfl, _, R6.res rfl _ (HZ_4.out.set (.bool true) (.slice none 0 0) (.slice none 0 0) (.slice none 0 0) (.int .i64 1) (.int .i64 0)) rfl, ⟨_, rfl, ?_, below_setRow hb4 (by omega) _⟩⟩
    rw [HM.out, HEM.out]
    exact none_dv _ _
end Go.Proofs.YthpbgplbgnefcaaGreatDoor
