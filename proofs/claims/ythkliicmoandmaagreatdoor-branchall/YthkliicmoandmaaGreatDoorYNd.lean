/-
  What is proved here: what sets.Must, Not and Card return of any domain.
-/
import Derived.Test.YthkliicmoandmaaGreatDoorYCaj
import Derived.Test.YthkliicmoandmaaGreatDoorYNa
import Derived.Deep.RegionHeld3
namespace Go.Proofs.YthkliicmoandmaaGreatDoor.St
open Go.RowKit Go.Shelf
set_option linter.unusedVariables false
set_option linter.unusedSimpArgs false

theorem tight_look (s1 s2 : Value) (lo up : List Int) (least most : Int) (W : World) (h1 : Si W s1 lo) (h2 : Si W s2 up) (hl1 : lo.length ≤ 1000) (hl2 : up.length ≤ 1000) :
    Calls Tryz.prog 95 #[s1, s2, .int .i64 least, .int .i64 most] W fun e w' => ∃ x0 p1 m1 k1 p2 m2 k2 x4 x5, e = .returned (.agg #[.bool x0, .slice none 0 0, .slice p1 m1 k1, .slice p2 m2 k2, .int .i64 x4, .int .i64 x5]) ∧ Hid (Dv W.heap.size w' (.agg #[.bool x0, .slice none 0 0, .slice p1 m1 k1, .slice p2 m2 k2, .int .i64 x4, .int .i64 x5]) (tightD lo up least most)) ∧ Below W.heap.size W w' :=
  (tight_any s1 s2 lo up least most W h1 h2 hl1 hl2).mono fun e w' ⟨v, he, hD, hb⟩ => by
    obtain ⟨x0, p1, m1, k1, p2, m2, k2, x4, x5, rfl, _⟩ := hD.look
    exact ⟨_, _, _, _, _, _, _, _, _, he, hD, hb⟩
theorem taken_look (v : Value) (d : SD) (W : World) (h : Di W v d) :
    Calls Tryz.prog 93 #[v] W fun e w' => ∃ x0 p1 m1 k1 p2 m2 k2 x4 x5, e = .returned (.agg #[.bool x0, .slice none 0 0, .slice p1 m1 k1, .slice p2 m2 k2, .int .i64 x4, .int .i64 x5]) ∧ Hid (Dv W.heap.size w' (.agg #[.bool x0, .slice none 0 0, .slice p1 m1 k1, .slice p2 m2 k2, .int .i64 x4, .int .i64 x5]) (takenD d)) ∧ Hid ((takenD d).least = x4 ∧ (takenD d).most = x5) ∧ Hid (Si w' (.slice p1 m1 k1) (takenD d).lo) ∧ Hid (Si w' (.slice p2 m2 k2) (takenD d).up) ∧ Below W.heap.size W w' :=
  (taken_dom v d W h).mono fun e w' ⟨v, he, hD, hb⟩ => by
    obtain ⟨x0, p1, m1, k1, p2, m2, k2, x4, x5, rfl, HE, H1, H2⟩ := hD.look
    exact ⟨_, _, _, _, _, _, _, _, _, he, hD, ⟨HE.out.2.2.2.1, HE.out.2.2.2.2.1⟩, own_si' H1.out HE.out.2.1, own_si' H2.out HE.out.2.2.1, hb⟩
theorem dv_si {B : Nat} {w : World} {x0 : Bool} {p1 p2 : Option Addr} {m1 k1 m2 k2 : Nat} {x4 x5 : Int} {d : SD} (h : Dv B w (.agg #[.bool x0, .slice none 0 0, .slice p1 m1 k1, .slice p2 m2 k2, .int .i64 x4, .int .i64 x5]) d) : Si w (.slice p1 m1 k1) d.lo ∧ Si w (.slice p2 m2 k2) d.up := by
  obtain ⟨slo, sup, e, e0, o1, o2⟩ := h
  injection e with e
  injection e with e
  injection e with _ e
  injection e with _ e
  injection e with e2 e
  injection e with e3 e
  subst e2 e3
  exact ⟨own_si o1, own_si o2⟩
theorem one_new {w : World} (x : Int) : Si (w.alloc (Obj.cells #[.int .i64 x] 2)) (.slice (some ⟨w.heap.size, 0, none⟩) 1 1) [x] := by
  refine ⟨_, _, rfl, fun _ => ⟨_, _, rfl, by rw [World.size_alloc]; omega, fun i hi => ?_⟩⟩
  have hi0 : i = 0 := by simp at hi; omega
  subst hi0
  have := World.alloc_heap_new w (Obj.cells #[.int .i64 x] 2)
  show (w.alloc (Obj.cells #[.int .i64 x] 2)).cell? ⟨w.heap.size, 0 + 0, none⟩ = _
  rw [cell_row this]
  rfl

set_option maxRecDepth 100000 in
set_option maxHeartbeats 4000000 in
theorem must_any (v : Value) (d : SD) (x : Int) (W : World) (h : Di W v d) :
    Calls Tryz.prog 50 #[v, .int .i64 x] W fun e w' => ∃ v', e = .returned v' ∧ Dv W.heap.size w' v' (mustD d x) ∧ Below W.heap.size W w' := by
  have k77 := fun X (hX : Below W.heap.size W X) => taken_look v d X (h.below hX)
  obtain ⟨x0, ra, rn, rc, a1, n1, c1, a2, n2, c2, x4, x5, rfl, HE, HLO, HUP⟩ := h.look
  have hR := taken_right d
  have hu64 := hR.2.2.2.1.1
  have hl64 := hR.2.2.1.1
  obtain ⟨W0, hW0⟩ : ∃ X, (W.alloc (Obj.cells #[.bool x0, .slice ra rn rc, .slice a1 n1 c1, .slice a2 n2 c2, .int .i64 x4, .int .i64 x5] 50)).alloc (Obj.cells #[.bool false, .slice none 0 0, .slice none 0 0, .slice none 0 0, .int .i64 0, .int .i64 0] 50) = X := ⟨_, rfl⟩
  have HW0 : Hid _ := hW0
  have hb0 : Below W.heap.size W W0 := by rw [← hW0]; exact ((Below.refl _ W).alloc (Nat.le_refl _) _).alloc (by simp) _
  have HR0 : Hid (R6 W0 W.heap.size (.bool x0) (.slice ra rn rc) (.slice a1 n1 c1) (.slice a2 n2 c2) (.int .i64 x4) (.int .i64 x5)) := by rw [← hW0]; exact (R6.new _ _ _ _ _ _ _).alloc _
  have HZ0 : Hid (R6 W0 (W.heap.size + 1) (.bool false) (.slice none 0 0) (.slice none 0 0) (.slice none 0 0) (.int .i64 0) (.int .i64 0)) := by rw [← hW0]; exact R6.new1 _ _ _ _ _ _ _ _
  clear hW0 h
  have hM : mustD d x = if (takenD d).up.contains x then tightD (joinL (takenD d).lo (tkS [x])) (takenD d).up (takenD d).least (takenD d).most else noneD := rfl
  generalize mustD d x = MD at hM ⊢
  have hjl : (joinL (takenD d).lo (tkS [x])).length ≤ 1000 := by
    rw [join_len]
    have := lessL_le (tkS [x]) (takenD d).lo
    have := (tkS_set [x]).1
    omega
  have htl := tkS_yes hR.2.2.1
  have htu := tkS_yes hR.2.2.2.1
  generalize takenD d = T at k77 hM hjl htl htu hu64 hl64
  clear hR
  go_enter Tryz.func50, Tryz.ntmps50
  go_upto_region 1 with (fail)
  rw [HW0.out]
  obtain ⟨z0, z1, z2, z3, z4, z5⟩ := HR0.out.cells
  go_wp2_with fail
  refine (k77 W0 hb0).mono ?_
  rintro e w1 ⟨y0, p1, m1, k1, p2, m2, k2, y4, y5, rfl, HD1, HL, hs1, hs2, hb⟩
  have hb1 : Below W.heap.size W w1 := hb0.trans (hb.mono hb0.size)
  have HR1 : Hid (R6 w1 W.heap.size (.bool x0) (.slice ra rn rc) (.slice a1 n1 c1) (.slice a2 n2 c2) (.int .i64 x4) (.int .i64 x5)) := HR0.out.below hb
  have HZ1 : Hid (R6 w1 (W.heap.size + 1) (.bool false) (.slice none 0 0) (.slice none 0 0) (.slice none 0 0) (.int .i64 0) (.int .i64 0)) := HZ0.out.below hb
  have hbS := below_setRow hb1 (Nat.le_refl W.heap.size) #[.bool y0, .slice none 0 0, .slice p1 m1 k1, .slice p2 m2 k2, .int .i64 y4, .int .i64 y5]
  have HR2 : Hid _ := HR1.out.set (.bool y0) (.slice none 0 0) (.slice p1 m1 k1) (.slice p2 m2 k2) (.int .i64 y4) (.int .i64 y5)
  have HZ2 : Hid _ := HZ1.out.other (show W.heap.size + 1 ≠ W.heap.size by omega) #[.bool y0, .slice none 0 0, .slice p1 m1 k1, .slice p2 m2 k2, .int .i64 y4, .int .i64 y5]
  have HD2 : Hid _ := dv_si (HD1.out.set HR1.out #[.bool y0, .slice none 0 0, .slice p1 m1 k1, .slice p2 m2 k2, .int .i64 y4, .int .i64 y5])
  clear hb0 hb HR0 HZ0 k77 z0 z1 z2 z3 z4 z5 HW0 HD1 hs1 hs2
  go_upto_region 2 with (with_reducible refine st37 rfl (.tmp 2) (.tmp 6) rfl W.heap.size _ _ _ _ _ _ (by with_unfolding_all rfl) (by with_unfolding_all rfl) HR1.out (six_dom _ _ _ _ _ _ _ _ _ _ _ _) ?_)
  simp only [Act.put]
  generalize w1.setRow W.heap.size #[.bool y0, .slice none 0 0, .slice p1 m1 k1, .slice p2 m2 k2, .int .i64 y4, .int .i64 y5] = W2 at hbS HR2 HZ2 HD2 ⊢
  obtain ⟨z0, z1, z2, z3, z4, z5⟩ := HR2.out.cells
  clear HR1 HZ1 hb1
  have k25 := in_any x (.slice p2 m2 k2) T.up W2 HD2.out.2
  rw [htu] at k25
  have HM : Hid _ := hM
  obtain ⟨bb, hbb⟩ : ∃ b, T.up.contains x = b := ⟨_, rfl⟩
  rw [hbb] at k25
  have HB : Hid (T.up.contains x = bb) := hbb
  have HJL : Hid _ := hjl
  have HTL : Hid _ := htl
  clear hM hbb hjl htl
  cases bb
  · go_wp2_with fail
    refine k25.mono ?_
    rintro e w3 ⟨rfl, hb⟩
    have hb3 : Below W.heap.size W w3 := hbS.trans (hb.mono hbS.size)
    have HZ3 : Hid _ := HZ2.out.below hb
    clear k25 HR2 HZ2 HD2 z0 z1 z2 z3 z4 z5 hb hbS
    go_wp2_with fail
    refine (none_at _).mono ?_
    rintro e w4 ⟨rfl, hb⟩
    have hb4 : Below W.heap.size W w4 := hb3.trans (hb.mono hb3.size)
    have HZ4 : Hid _ := HZ3.out.below hb
    clear HZ3 hb3 hb
    go_wp2_with (with_reducible refine st37 rfl (.tmp 4) (.tmp 12) rfl (W.heap.size + 1) _ _ _ _ _ _ (by with_unfolding_all rfl) (by with_unfolding_all rfl) HZ4.out (six_dom _ _ _ _ _ _ _ _ _ _ _ _) ?_)
    refine ⟨rfl, _, R6.res rfl _ (HZ4.out.set (.bool true) (.slice none 0 0) (.slice none 0 0) (.slice none 0 0) (.int .i64 1) (.int .i64 0)) rfl, ⟨_, rfl, ?_, below_setRow hb4 (by omega) _⟩⟩
    rw [HM.out, HB.out]
    exact none_dv _ _
  · go_upto_region 4 with (refine k25.mono ?_; rintro e w3 ⟨rfl, hb3'⟩)
    have hb3 : Below W.heap.size W w3 := hbS.trans (hb3'.mono hbS.size)
    have HZ3 : Hid _ := HZ2.out.below hb3'
    have HR3 : Hid _ := HR2.out.below hb3'
    have HD3 : Hid (Si w3 (.slice p1 m1 k1) T.lo ∧ Si w3 (.slice p2 m2 k2) T.up) := ⟨HD2.out.1.below hb3', HD2.out.2.below hb3'⟩
    clear k25 HR2 HZ2 HD2 z0 z1 z2 z3 z4 z5 hb3' hbS
    have HK : ∀ X, Below w3.heap.size w3 X → X.cell? ⟨W.heap.size, 2, none⟩ = some (.slice p1 m1 k1) ∧ X.cell? ⟨W.heap.size, 3, none⟩ = some (.slice p2 m2 k2) ∧ X.cell? ⟨W.heap.size, 4, none⟩ = some (.int .i64 y4) ∧ X.cell? ⟨W.heap.size, 5, none⟩ = some (.int .i64 y5) := fun X hX => by
      obtain ⟨_, _, c2, c3, c4, c5⟩ := (HR3.out.below hX).cells
      exact ⟨c2, c3, c4, c5⟩
    have HKS : ∀ X cs, Below w3.heap.size w3 X → (X.setRow (W.heap.size + 1) cs).cell? ⟨W.heap.size, 2, none⟩ = some (.slice p1 m1 k1) ∧ (X.setRow (W.heap.size + 1) cs).cell? ⟨W.heap.size, 3, none⟩ = some (.slice p2 m2 k2) ∧ (X.setRow (W.heap.size + 1) cs).cell? ⟨W.heap.size, 4, none⟩ = some (.int .i64 y4) ∧ (X.setRow (W.heap.size + 1) cs).cell? ⟨W.heap.size, 5, none⟩ = some (.int .i64 y5) := fun X cs hX => by
      obtain ⟨_, _, c2, c3, c4, c5⟩ := ((HR3.out.below hX).other (show W.heap.size ≠ W.heap.size + 1 by omega) cs).cells
      exact ⟨c2, c3, c4, c5⟩
    have hB0 : Below w3.heap.size w3 w3.drew := Below.drew (Below.refl _ _)
    have hB1 : Below w3.heap.size w3 (w3.drew.alloc (Obj.cells #[.int .i64 x] 2)) := hB0.alloc hB0.size _
    have hone : Si (w3.drew.alloc (Obj.cells #[.int .i64 x] 2)) (.slice (some ⟨w3.heap.size, 0, none⟩) 1 1) [x] := one_new (w := w3.drew) x
    have k10 : Calls Tryz.prog 96 #[.slice p1 m1 k1, .slice (some ⟨w3.heap.size, 0, none⟩) 1 1] (w3.drew.alloc (Obj.cells #[.int .i64 x] 2)) fun e w' => ∃ p n c, e = .returned (.slice p n c) ∧ Hid (Si w' (.slice p n c) (joinL T.lo (tkS [x]))) ∧ Below w3.heap.size w3 w' :=
      (join_any _ _ T.lo [x] _ (HD3.out.1.below hB1) hone).mono fun e w' ⟨v, he, hr, hb⟩ => by
        rw [HTL.out] at hr
        obtain ⟨p, c, rfl⟩ := own_slice hr
        exact ⟨p, _, c, he, own_si hr, hB1.trans (hb.mono hB1.size)⟩
    have k75 := fun q X (hX : Below w3.heap.size w3 X) (hq : Si X q (joinL T.lo (tkS [x]))) => tight_look q (.slice p2 m2 k2) _ T.up y4 y5 X hq (HD3.out.2.below hX) HJL.out (by omega)
    have HB3 : Hid _ := hb3
    have hsz := hb3.size
    clear hone hb3
    refine wp_region_held_drew (S := (fun w' => w'.cell? ⟨W.heap.size, 2, none⟩ = some (.slice p1 m1 k1) ∧ w'.cell? ⟨W.heap.size, 3, none⟩ = some (.slice p2 m2 k2) ∧ w'.cell? ⟨W.heap.size, 4, none⟩ = some (.int .i64 y4) ∧ w'.cell? ⟨W.heap.size, 5, none⟩ = some (.int .i64 y5))) (by kernel_rfl) (HK _ hB0) (fun hHeld => ?_)
    refine wpAnyH_take (i := 0) (oi := { dst := some 13, op := Go.Op.fieldAddr 50 (Go.Operand.tmp 2) 2, type := 0, pos := "domain.go:86", after := #[], guard := none }) (v := ?_) rfl (by kernel_rfl) (by kernel_rfl) (by kernel_rfl) (fun _ _ _ h => h) (Or.inl ⟨by rfl, ?_⟩) hHeld ?_
    rotate_left
    · intro w hSw; (try dsimp only at hSw); go_simp <;> with_reducible rfl
    try simp only [Act.put, List.setIfInBounds_toArray, List.set_cons_zero, List.set_cons_succ]
    refine wpAnyH_take (i := 1) (oi := { dst := some 14, op := Go.Op.load 48 (Go.Operand.tmp 13), type := 48, pos := "domain.go:86", after := #[{ on := 0, ground := Go.Ground.data }], guard := none }) (v := ?_) rfl (by kernel_rfl) (by kernel_rfl) (by kernel_rfl) (fun _ _ _ h => h) (Or.inl ⟨by rfl, ?_⟩) hHeld ?_
    rotate_left
    · intro w hSw; (try dsimp only at hSw); go_simp <;> with_reducible rfl
    try simp only [Act.put, List.setIfInBounds_toArray, List.set_cons_zero, List.set_cons_succ]
    refine wpAnyH_take (i := 2) (oi := { dst := some 15, op := Go.Op.move (Go.Operand.tmp 1), type := 2, pos := "domain.go:86", after := #[], guard := none }) (v := ?_) rfl (by kernel_rfl) (by kernel_rfl) (by kernel_rfl) (fun _ _ _ h => h) (Or.inl ⟨by rfl, ?_⟩) hHeld ?_
    rotate_left
    · intro w hSw; (try dsimp only at hSw); go_simp <;> with_reducible rfl
    try simp only [Act.put, List.setIfInBounds_toArray, List.set_cons_zero, List.set_cons_succ]
    refine wpAnyH_take (i := 5) (oi := { dst := some 18, op := Go.Op.fieldAddr 50 (Go.Operand.tmp 2) 3, type := 0, pos := "domain.go:86", after := #[], guard := none }) (v := ?_) rfl (by kernel_rfl) (by kernel_rfl) (by kernel_rfl) (fun _ _ _ h => h) (Or.inl ⟨by rfl, ?_⟩) hHeld ?_
    rotate_left
    · intro w hSw; (try dsimp only at hSw); go_simp <;> with_reducible rfl
    try simp only [Act.put, List.setIfInBounds_toArray, List.set_cons_zero, List.set_cons_succ]
    refine wpAnyH_take (i := 6) (oi := { dst := some 19, op := Go.Op.load 48 (Go.Operand.tmp 18), type := 48, pos := "domain.go:86", after := #[{ on := 5, ground := Go.Ground.data }], guard := none }) (v := ?_) rfl (by kernel_rfl) (by kernel_rfl) (by kernel_rfl) (fun _ _ _ h => h) (Or.inl ⟨by rfl, ?_⟩) hHeld ?_
    rotate_left
    · intro w hSw; (try dsimp only at hSw); go_simp <;> with_reducible rfl
    try simp only [Act.put, List.setIfInBounds_toArray, List.set_cons_zero, List.set_cons_succ]
    refine wpAnyH_take (i := 7) (oi := { dst := some 20, op := Go.Op.fieldAddr 50 (Go.Operand.tmp 2) 4, type := 0, pos := "domain.go:86", after := #[], guard := none }) (v := ?_) rfl (by kernel_rfl) (by kernel_rfl) (by kernel_rfl) (fun _ _ _ h => h) (Or.inl ⟨by rfl, ?_⟩) hHeld ?_
    rotate_left
    · intro w hSw; (try dsimp only at hSw); go_simp <;> with_reducible rfl
    try simp only [Act.put, List.setIfInBounds_toArray, List.set_cons_zero, List.set_cons_succ]
    refine wpAnyH_take (i := 8) (oi := { dst := some 21, op := Go.Op.load 3 (Go.Operand.tmp 20), type := 3, pos := "domain.go:86", after := #[{ on := 7, ground := Go.Ground.data }], guard := none }) (v := ?_) rfl (by kernel_rfl) (by kernel_rfl) (by kernel_rfl) (fun _ _ _ h => h) (Or.inl ⟨by rfl, ?_⟩) hHeld ?_
    rotate_left
    · intro w hSw; (try dsimp only at hSw); go_simp <;> with_reducible rfl
    try simp only [Act.put, List.setIfInBounds_toArray, List.set_cons_zero, List.set_cons_succ]
    refine wpAnyH_take (i := 9) (oi := { dst := some 22, op := Go.Op.fieldAddr 50 (Go.Operand.tmp 2) 5, type := 0, pos := "domain.go:86", after := #[], guard := none }) (v := ?_) rfl (by kernel_rfl) (by kernel_rfl) (by kernel_rfl) (fun _ _ _ h => h) (Or.inl ⟨by rfl, ?_⟩) hHeld ?_
    rotate_left
    · intro w hSw; (try dsimp only at hSw); go_simp <;> with_reducible rfl
    try simp only [Act.put, List.setIfInBounds_toArray, List.set_cons_zero, List.set_cons_succ]
    refine wpAnyH_take (i := 10) (oi := { dst := some 23, op := Go.Op.load 3 (Go.Operand.tmp 22), type := 3, pos := "domain.go:86", after := #[{ on := 9, ground := Go.Ground.data }], guard := none }) (v := ?_) rfl (by kernel_rfl) (by kernel_rfl) (by kernel_rfl) (fun _ _ _ h => h) (Or.inl ⟨by rfl, ?_⟩) hHeld ?_
    rotate_left
    · intro w hSw; (try dsimp only at hSw); go_simp <;> with_reducible rfl
    try simp only [Act.put, List.setIfInBounds_toArray, List.set_cons_zero, List.set_cons_succ]
    refine wpAnyH_ready (rs := [3]) (by kernel_rfl) (by simp) ?_
    refine AllReadyH.cons rfl (fun K hK => ?_) AllReadyH.nil
    go_simp
    refine hK.out _ _ (HK _ hB1) (fun hHeld2 => ?_)
    clear hK K hHeld
    have hHeld := hHeld2
    clear hHeld2
    try simp only [Act.put, List.setIfInBounds_toArray, List.set_cons_zero, List.set_cons_succ]
    refine wpAnyH_ready (rs := [4]) (by kernel_rfl) (by simp) ?_
    refine AllReadyH.cons rfl (fun K hK => ?_) AllReadyH.nil
    go_simp
    refine k10.mono ?_
    rintro e w5 ⟨p9, n9, c9, rfl, HJ, hb5⟩
    refine hK.out _ _ (HK _ hb5) (fun hHeld2 => ?_)
    clear hK K hHeld
    have hHeld := hHeld2
    clear hHeld2
    try simp only [Act.put, List.setIfInBounds_toArray, List.set_cons_zero, List.set_cons_succ]
    refine wpAnyH_ready (rs := [11]) (by kernel_rfl) (by simp) ?_
    refine AllReadyH.cons rfl (fun K hK => ?_) AllReadyH.nil
    go_simp
    refine (k75 _ _ hb5 HJ.out).mono ?_
    rintro e w6 ⟨g0, q1, h1, j1, q2, h2, j2, g4, g5, rfl, HV, hb6'⟩
    have hb6 : Below w3.heap.size w3 w6 := hb5.trans (hb6'.mono hb5.size)
    refine hK.out _ _ (HK _ hb6) (fun hHeld2 => ?_)
    clear hK K hHeld
    have hHeld := hHeld2
    clear hHeld2
    try simp only [Act.put, List.setIfInBounds_toArray, List.set_cons_zero, List.set_cons_succ]
    refine wpAnyH_ready (rs := [12]) (by kernel_rfl) (by simp) ?_
    refine AllReadyH.cons rfl (fun K hK => ?_) AllReadyH.nil
    refine step37 rfl (.tmp 4) (.tmp 24) rfl (W.heap.size + 1) (.bool g0) (.slice none 0 0) (.slice q1 h1 j1) (.slice q2 h2 j2) (.int .i64 g4) (.int .i64 g5) (by with_unfolding_all rfl) (by with_unfolding_all rfl) (HZ3.out.below hb6) (six_dom _ _ _ _ _ _ _ _ _ _ _ _) ?_
    refine hK.out _ _ (HKS _ _ hb6) (fun hHeld2 => ?_)
    clear hK K hHeld
    have hHeld := hHeld2
    clear hHeld2
    try simp only [Act.put, List.setIfInBounds_toArray, List.set_cons_zero, List.set_cons_succ]
    refine wpAnyH_done (by kernel_rfl) ?_ _
    go_wp2
    refine ⟨rfl, _, R6.res rfl _ ((HZ3.out.below hb6).set (.bool g0) (.slice none 0 0) (.slice q1 h1 j1) (.slice q2 h2 j2) (.int .i64 g4) (.int .i64 g5)) rfl, ⟨_, rfl, ?_, below_setRow (HB3.out.trans (hb6.mono hsz)) (by omega) _⟩⟩
    rw [HM.out, HB.out]
    simp only [if_true]
    rw [HL.out.1, HL.out.2]
    exact (HV.out.base (Nat.le_trans hsz hb5.size)).set (HZ3.out.below hb6) _

set_option maxRecDepth 100000 in
set_option maxHeartbeats 4000000 in
theorem not_any (v : Value) (d : SD) (x : Int) (W : World) (h : Di W v d) :
    Calls Tryz.prog 51 #[v, .int .i64 x] W fun e w' => ∃ v', e = .returned v' ∧ Dv W.heap.size w' v' (notD d x) ∧ Below W.heap.size W w' := by
  have k77 := fun X (hX : Below W.heap.size W X) => taken_look v d X (h.below hX)
  obtain ⟨x0, ra, rn, rc, a1, n1, c1, a2, n2, c2, x4, x5, rfl, HE, HLO, HUP⟩ := h.look
  have hR := taken_right d
  have hu64 := hR.2.2.2.1.1
  have hl64 := hR.2.2.1.1
  obtain ⟨W0, hW0⟩ : ∃ X, (W.alloc (Obj.cells #[.bool x0, .slice ra rn rc, .slice a1 n1 c1, .slice a2 n2 c2, .int .i64 x4, .int .i64 x5] 50)).alloc (Obj.cells #[.bool false, .slice none 0 0, .slice none 0 0, .slice none 0 0, .int .i64 0, .int .i64 0] 50) = X := ⟨_, rfl⟩
  have HW0 : Hid _ := hW0
  have hb0 : Below W.heap.size W W0 := by rw [← hW0]; exact ((Below.refl _ W).alloc (Nat.le_refl _) _).alloc (by simp) _
  have HR0 : Hid (R6 W0 W.heap.size (.bool x0) (.slice ra rn rc) (.slice a1 n1 c1) (.slice a2 n2 c2) (.int .i64 x4) (.int .i64 x5)) := by rw [← hW0]; exact (R6.new _ _ _ _ _ _ _).alloc _
  have HZ0 : Hid (R6 W0 (W.heap.size + 1) (.bool false) (.slice none 0 0) (.slice none 0 0) (.slice none 0 0) (.int .i64 0) (.int .i64 0)) := by rw [← hW0]; exact R6.new1 _ _ _ _ _ _ _ _
  clear hW0 h
  have hM : notD d x = if (takenD d).lo.contains x then noneD else tightD (takenD d).lo (lessL (takenD d).up (tkS [x])) (takenD d).least (takenD d).most := rfl
  generalize notD d x = MD at hM ⊢
  have hjl : (lessL (takenD d).up (tkS [x])).length ≤ 1000 := by
    have := lessL_le (takenD d).up (tkS [x])
    omega
  have htl := tkS_yes hR.2.2.1
  have htu := tkS_yes hR.2.2.2.1
  generalize takenD d = T at k77 hM hjl htl htu hu64 hl64
  clear hR
  go_enter Tryz.func51, Tryz.ntmps51
  go_upto_region 1 with (fail)
  rw [HW0.out]
  obtain ⟨z0, z1, z2, z3, z4, z5⟩ := HR0.out.cells
  go_wp2_with fail
  refine (k77 W0 hb0).mono ?_
  rintro e w1 ⟨y0, p1, m1, k1, p2, m2, k2, y4, y5, rfl, HD1, HL, hs1, hs2, hb⟩
  have hb1 : Below W.heap.size W w1 := hb0.trans (hb.mono hb0.size)
  have HR1 : Hid (R6 w1 W.heap.size (.bool x0) (.slice ra rn rc) (.slice a1 n1 c1) (.slice a2 n2 c2) (.int .i64 x4) (.int .i64 x5)) := HR0.out.below hb
  have HZ1 : Hid (R6 w1 (W.heap.size + 1) (.bool false) (.slice none 0 0) (.slice none 0 0) (.slice none 0 0) (.int .i64 0) (.int .i64 0)) := HZ0.out.below hb
  have hbS := below_setRow hb1 (Nat.le_refl W.heap.size) #[.bool y0, .slice none 0 0, .slice p1 m1 k1, .slice p2 m2 k2, .int .i64 y4, .int .i64 y5]
  have HR2 : Hid _ := HR1.out.set (.bool y0) (.slice none 0 0) (.slice p1 m1 k1) (.slice p2 m2 k2) (.int .i64 y4) (.int .i64 y5)
  have HZ2 : Hid _ := HZ1.out.other (show W.heap.size + 1 ≠ W.heap.size by omega) #[.bool y0, .slice none 0 0, .slice p1 m1 k1, .slice p2 m2 k2, .int .i64 y4, .int .i64 y5]
  have HD2 : Hid _ := dv_si (HD1.out.set HR1.out #[.bool y0, .slice none 0 0, .slice p1 m1 k1, .slice p2 m2 k2, .int .i64 y4, .int .i64 y5])
  clear hb0 hb HR0 HZ0 k77 z0 z1 z2 z3 z4 z5 HW0 HD1 hs1 hs2
  go_upto_region 2 with (with_reducible refine st37 rfl (.tmp 2) (.tmp 6) rfl W.heap.size _ _ _ _ _ _ (by with_unfolding_all rfl) (by with_unfolding_all rfl) HR1.out (six_dom _ _ _ _ _ _ _ _ _ _ _ _) ?_)
  simp only [Act.put]
  generalize w1.setRow W.heap.size #[.bool y0, .slice none 0 0, .slice p1 m1 k1, .slice p2 m2 k2, .int .i64 y4, .int .i64 y5] = W2 at hbS HR2 HZ2 HD2 ⊢
  obtain ⟨z0, z1, z2, z3, z4, z5⟩ := HR2.out.cells
  clear HR1 HZ1 hb1
  have k25 := in_any x (.slice p1 m1 k1) T.lo W2 HD2.out.1
  rw [htl] at k25
  have HM : Hid _ := hM
  obtain ⟨bb, hbb⟩ : ∃ b, T.lo.contains x = b := ⟨_, rfl⟩
  rw [hbb] at k25
  have HB : Hid (T.lo.contains x = bb) := hbb
  have HJL : Hid _ := hjl
  have HTU : Hid _ := htu
  clear hM hbb hjl htl htu
  cases bb
  · go_upto_region 4 with (refine k25.mono ?_; rintro e w3 ⟨rfl, hb3'⟩)
    have hb3 : Below W.heap.size W w3 := hbS.trans (hb3'.mono hbS.size)
    have HZ3 : Hid _ := HZ2.out.below hb3'
    have HR3 : Hid _ := HR2.out.below hb3'
    have HD3 : Hid (Si w3 (.slice p1 m1 k1) T.lo ∧ Si w3 (.slice p2 m2 k2) T.up) := ⟨HD2.out.1.below hb3', HD2.out.2.below hb3'⟩
    clear k25 HR2 HZ2 HD2 z0 z1 z2 z3 z4 z5 hb3' hbS
    have HK : ∀ X, Below w3.heap.size w3 X → X.cell? ⟨W.heap.size, 2, none⟩ = some (.slice p1 m1 k1) ∧ X.cell? ⟨W.heap.size, 3, none⟩ = some (.slice p2 m2 k2) ∧ X.cell? ⟨W.heap.size, 4, none⟩ = some (.int .i64 y4) ∧ X.cell? ⟨W.heap.size, 5, none⟩ = some (.int .i64 y5) := fun X hX => by
      obtain ⟨_, _, c2, c3, c4, c5⟩ := (HR3.out.below hX).cells
      exact ⟨c2, c3, c4, c5⟩
    have HKS : ∀ X cs, Below w3.heap.size w3 X → (X.setRow (W.heap.size + 1) cs).cell? ⟨W.heap.size, 2, none⟩ = some (.slice p1 m1 k1) ∧ (X.setRow (W.heap.size + 1) cs).cell? ⟨W.heap.size, 3, none⟩ = some (.slice p2 m2 k2) ∧ (X.setRow (W.heap.size + 1) cs).cell? ⟨W.heap.size, 4, none⟩ = some (.int .i64 y4) ∧ (X.setRow (W.heap.size + 1) cs).cell? ⟨W.heap.size, 5, none⟩ = some (.int .i64 y5) := fun X cs hX => by
      obtain ⟨_, _, c2, c3, c4, c5⟩ := ((HR3.out.below hX).other (show W.heap.size ≠ W.heap.size + 1 by omega) cs).cells
      exact ⟨c2, c3, c4, c5⟩
    have hB0 : Below w3.heap.size w3 w3.drew := Below.drew (Below.refl _ _)
    have hB1 : Below w3.heap.size w3 (w3.drew.alloc (Obj.cells #[.int .i64 x] 2)) := hB0.alloc hB0.size _
    have hone : Si (w3.drew.alloc (Obj.cells #[.int .i64 x] 2)) (.slice (some ⟨w3.heap.size, 0, none⟩) 1 1) [x] := one_new (w := w3.drew) x
    have k12 : Calls Tryz.prog 77 #[.slice p2 m2 k2, .slice (some ⟨w3.heap.size, 0, none⟩) 1 1] (w3.drew.alloc (Obj.cells #[.int .i64 x] 2)) fun e w' => ∃ p n c, e = .returned (.slice p n c) ∧ Hid (Si w' (.slice p n c) (lessL T.up (tkS [x]))) ∧ Below w3.heap.size w3 w' :=
      (less_any _ _ T.up [x] _ (HD3.out.2.below hB1) hone).mono fun e w' ⟨v, he, hr, hb⟩ => by
        rw [HTU.out] at hr
        obtain ⟨p, n, c, rfl, hs, _⟩ := si_look hr.si
        exact ⟨p, n, c, he, hs, hB1.trans (hb.mono hB1.size)⟩
    have k75 := fun q X (hX : Below w3.heap.size w3 X) (hq : Si X q (lessL T.up (tkS [x]))) => tight_look (.slice p1 m1 k1) q T.lo _ y4 y5 X (HD3.out.1.below hX) hq (by omega) HJL.out
    have HB3 : Hid _ := hb3
    have hsz := hb3.size
    clear hone hb3
    refine wp_region_held_drew (S := (fun w' => w'.cell? ⟨W.heap.size, 2, none⟩ = some (.slice p1 m1 k1) ∧ w'.cell? ⟨W.heap.size, 3, none⟩ = some (.slice p2 m2 k2) ∧ w'.cell? ⟨W.heap.size, 4, none⟩ = some (.int .i64 y4) ∧ w'.cell? ⟨W.heap.size, 5, none⟩ = some (.int .i64 y5))) (by kernel_rfl) (HK _ hB0) (fun hHeld => ?_)
    refine wpAnyH_take (i := 0) (oi := { dst := some 12, op := Go.Op.fieldAddr 50 (Go.Operand.tmp 2) 2, type := 0, pos := "domain.go:95", after := #[], guard := none }) (v := ?_) rfl (by kernel_rfl) (by kernel_rfl) (by kernel_rfl) (fun _ _ _ h => h) (Or.inl ⟨by rfl, ?_⟩) hHeld ?_
    rotate_left
    · intro w hSw; (try dsimp only at hSw); go_simp <;> with_reducible rfl
    try simp only [Act.put, List.setIfInBounds_toArray, List.set_cons_zero, List.set_cons_succ]
    refine wpAnyH_take (i := 1) (oi := { dst := some 13, op := Go.Op.load 48 (Go.Operand.tmp 12), type := 48, pos := "domain.go:95", after := #[{ on := 0, ground := Go.Ground.data }], guard := none }) (v := ?_) rfl (by kernel_rfl) (by kernel_rfl) (by kernel_rfl) (fun _ _ _ h => h) (Or.inl ⟨by rfl, ?_⟩) hHeld ?_
    rotate_left
    · intro w hSw; (try dsimp only at hSw); go_simp <;> with_reducible rfl
    try simp only [Act.put, List.setIfInBounds_toArray, List.set_cons_zero, List.set_cons_succ]
    refine wpAnyH_take (i := 2) (oi := { dst := some 14, op := Go.Op.fieldAddr 50 (Go.Operand.tmp 2) 3, type := 0, pos := "domain.go:95", after := #[], guard := none }) (v := ?_) rfl (by kernel_rfl) (by kernel_rfl) (by kernel_rfl) (fun _ _ _ h => h) (Or.inl ⟨by rfl, ?_⟩) hHeld ?_
    rotate_left
    · intro w hSw; (try dsimp only at hSw); go_simp <;> with_reducible rfl
    try simp only [Act.put, List.setIfInBounds_toArray, List.set_cons_zero, List.set_cons_succ]
    refine wpAnyH_take (i := 3) (oi := { dst := some 15, op := Go.Op.load 48 (Go.Operand.tmp 14), type := 48, pos := "domain.go:95", after := #[{ on := 2, ground := Go.Ground.data }], guard := none }) (v := ?_) rfl (by kernel_rfl) (by kernel_rfl) (by kernel_rfl) (fun _ _ _ h => h) (Or.inl ⟨by rfl, ?_⟩) hHeld ?_
    rotate_left
    · intro w hSw; (try dsimp only at hSw); go_simp <;> with_reducible rfl
    try simp only [Act.put, List.setIfInBounds_toArray, List.set_cons_zero, List.set_cons_succ]
    refine wpAnyH_take (i := 4) (oi := { dst := some 16, op := Go.Op.move (Go.Operand.tmp 1), type := 2, pos := "domain.go:95", after := #[], guard := none }) (v := ?_) rfl (by kernel_rfl) (by kernel_rfl) (by kernel_rfl) (fun _ _ _ h => h) (Or.inl ⟨by rfl, ?_⟩) hHeld ?_
    rotate_left
    · intro w hSw; (try dsimp only at hSw); go_simp <;> with_reducible rfl
    try simp only [Act.put, List.setIfInBounds_toArray, List.set_cons_zero, List.set_cons_succ]
    refine wpAnyH_take (i := 7) (oi := { dst := some 19, op := Go.Op.fieldAddr 50 (Go.Operand.tmp 2) 4, type := 0, pos := "domain.go:95", after := #[], guard := none }) (v := ?_) rfl (by kernel_rfl) (by kernel_rfl) (by kernel_rfl) (fun _ _ _ h => h) (Or.inl ⟨by rfl, ?_⟩) hHeld ?_
    rotate_left
    · intro w hSw; (try dsimp only at hSw); go_simp <;> with_reducible rfl
    try simp only [Act.put, List.setIfInBounds_toArray, List.set_cons_zero, List.set_cons_succ]
    refine wpAnyH_take (i := 8) (oi := { dst := some 20, op := Go.Op.load 3 (Go.Operand.tmp 19), type := 3, pos := "domain.go:95", after := #[{ on := 7, ground := Go.Ground.data }], guard := none }) (v := ?_) rfl (by kernel_rfl) (by kernel_rfl) (by kernel_rfl) (fun _ _ _ h => h) (Or.inl ⟨by rfl, ?_⟩) hHeld ?_
    rotate_left
    · intro w hSw; (try dsimp only at hSw); go_simp <;> with_reducible rfl
    try simp only [Act.put, List.setIfInBounds_toArray, List.set_cons_zero, List.set_cons_succ]
    refine wpAnyH_take (i := 9) (oi := { dst := some 21, op := Go.Op.fieldAddr 50 (Go.Operand.tmp 2) 5, type := 0, pos := "domain.go:95", after := #[], guard := none }) (v := ?_) rfl (by kernel_rfl) (by kernel_rfl) (by kernel_rfl) (fun _ _ _ h => h) (Or.inl ⟨by rfl, ?_⟩) hHeld ?_
    rotate_left
    · intro w hSw; (try dsimp only at hSw); go_simp <;> with_reducible rfl
    try simp only [Act.put, List.setIfInBounds_toArray, List.set_cons_zero, List.set_cons_succ]
    refine wpAnyH_take (i := 10) (oi := { dst := some 22, op := Go.Op.load 3 (Go.Operand.tmp 21), type := 3, pos := "domain.go:95", after := #[{ on := 9, ground := Go.Ground.data }], guard := none }) (v := ?_) rfl (by kernel_rfl) (by kernel_rfl) (by kernel_rfl) (fun _ _ _ h => h) (Or.inl ⟨by rfl, ?_⟩) hHeld ?_
    rotate_left
    · intro w hSw; (try dsimp only at hSw); go_simp <;> with_reducible rfl
    try simp only [Act.put, List.setIfInBounds_toArray, List.set_cons_zero, List.set_cons_succ]
    refine wpAnyH_ready (rs := [5]) (by kernel_rfl) (by simp) ?_
    refine AllReadyH.cons rfl (fun K hK => ?_) AllReadyH.nil
    go_simp
    refine hK.out _ _ (HK _ hB1) (fun hHeld2 => ?_)
    clear hK K hHeld
    have hHeld := hHeld2
    clear hHeld2
    try simp only [Act.put, List.setIfInBounds_toArray, List.set_cons_zero, List.set_cons_succ]
    refine wpAnyH_ready (rs := [6]) (by kernel_rfl) (by simp) ?_
    refine AllReadyH.cons rfl (fun K hK => ?_) AllReadyH.nil
    go_simp
    refine k12.mono ?_
    rintro e w5 ⟨p9, n9, c9, rfl, HJ, hb5⟩
    refine hK.out _ _ (HK _ hb5) (fun hHeld2 => ?_)
    clear hK K hHeld
    have hHeld := hHeld2
    clear hHeld2
    try simp only [Act.put, List.setIfInBounds_toArray, List.set_cons_zero, List.set_cons_succ]
    refine wpAnyH_ready (rs := [11]) (by kernel_rfl) (by simp) ?_
    refine AllReadyH.cons rfl (fun K hK => ?_) AllReadyH.nil
    go_simp
    refine (k75 _ _ hb5 HJ.out).mono ?_
    rintro e w6 ⟨g0, q1, h1, j1, q2, h2, j2, g4, g5, rfl, HV, hb6'⟩
    have hb6 : Below w3.heap.size w3 w6 := hb5.trans (hb6'.mono hb5.size)
    refine hK.out _ _ (HK _ hb6) (fun hHeld2 => ?_)
    clear hK K hHeld
    have hHeld := hHeld2
    clear hHeld2
    try simp only [Act.put, List.setIfInBounds_toArray, List.set_cons_zero, List.set_cons_succ]
    refine wpAnyH_ready (rs := [12]) (by kernel_rfl) (by simp) ?_
    refine AllReadyH.cons rfl (fun K hK => ?_) AllReadyH.nil
    refine step37 rfl (.tmp 4) (.tmp 23) rfl (W.heap.size + 1) (.bool g0) (.slice none 0 0) (.slice q1 h1 j1) (.slice q2 h2 j2) (.int .i64 g4) (.int .i64 g5) (by with_unfolding_all rfl) (by with_unfolding_all rfl) (HZ3.out.below hb6) (six_dom _ _ _ _ _ _ _ _ _ _ _ _) ?_
    refine hK.out _ _ (HKS _ _ hb6) (fun hHeld2 => ?_)
    clear hK K hHeld
    have hHeld := hHeld2
    clear hHeld2
    try simp only [Act.put, List.setIfInBounds_toArray, List.set_cons_zero, List.set_cons_succ]
    refine wpAnyH_done (by kernel_rfl) ?_ _
    go_wp2
    refine ⟨rfl, _, R6.res rfl _ ((HZ3.out.below hb6).set (.bool g0) (.slice none 0 0) (.slice q1 h1 j1) (.slice q2 h2 j2) (.int .i64 g4) (.int .i64 g5)) rfl, ⟨_, rfl, ?_, below_setRow (HB3.out.trans (hb6.mono hsz)) (by omega) _⟩⟩
    rw [HM.out, HB.out]
    simp only [Bool.false_eq_true, if_false]
    rw [HL.out.1, HL.out.2]
    exact (HV.out.base (Nat.le_trans hsz hb5.size)).set (HZ3.out.below hb6) _
  · go_wp2_with fail
    refine k25.mono ?_
    rintro e w3 ⟨rfl, hb⟩
    have hb3 : Below W.heap.size W w3 := hbS.trans (hb.mono hbS.size)
    have HZ3 : Hid _ := HZ2.out.below hb
    clear k25 HR2 HZ2 HD2 z0 z1 z2 z3 z4 z5 hb hbS
    go_wp2_with fail
    refine (none_at _).mono ?_
    rintro e w4 ⟨rfl, hb⟩
    have hb4 : Below W.heap.size W w4 := hb3.trans (hb.mono hb3.size)
    have HZ4 : Hid _ := HZ3.out.below hb
    clear HZ3 hb3 hb
    go_wp2_with (with_reducible refine st37 rfl (.tmp 4) (.tmp 11) rfl (W.heap.size + 1) _ _ _ _ _ _ (by with_unfolding_all rfl) (by with_unfolding_all rfl) HZ4.out (six_dom _ _ _ _ _ _ _ _ _ _ _ _) ?_)
    refine ⟨rfl, _, R6.res rfl _ (HZ4.out.set (.bool true) (.slice none 0 0) (.slice none 0 0) (.slice none 0 0) (.int .i64 1) (.int .i64 0)) rfl, ⟨_, rfl, ?_, below_setRow hb4 (by omega) _⟩⟩
    rw [HM.out, HB.out]
    exact none_dv _ _

end Go.Proofs.YthkliicmoandmaaGreatDoor.St

