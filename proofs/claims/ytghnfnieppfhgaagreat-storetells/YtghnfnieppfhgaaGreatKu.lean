/-
  What is proved here: what comes of the fixed calls.
-/
import Derived.Test.YtghnfnieppfhgaaGreatKt
import Derived.Test.YtghnfnieppfhgaaGreatKw
import Derived.Test.YtghnfnieppfhgaaGreatKej
namespace Go.Proofs.YtghnfnieppfhgaaGreat
open Go.RowKit Go.Shelf
set_option linter.unusedVariables false
set_option linter.unusedSimpArgs false

theorem le_of_up {X Y : Nat → Prop} {w : World} {B : Nat} (u : Up X Y w) (h : ∀ b, X b → B ≤ b) (hB : B ≤ w.heap.size) : ∀ b, Y b → B ≤ b := fun b hb => (u b hb).elim (h b) (fun q => Nat.le_trans hB q)
theorem not_up {X Y : Nat → Prop} {w : World} {g : Nat} (u : Up X Y w) (h : ¬ X g) (hg : g < w.heap.size) : ¬ Y g := fun q => (u g q).elim h (fun q => by omega)

set_option maxRecDepth 100000 in
set_option maxHeartbeats 4000000 in
theorem known_true (W : World) : Calls Tryz.prog 10 #[] W fun e w' => e = .returned (.bool true) ∧ Below W.heap.size W w' := by
  go_enter Tryz.func10, Tryz.ntmps10
  go_wp2_with fail
  refine (one9 1 9 _).mono ?_
  rintro e w1 ⟨qa, rfl, hqa, hb1⟩
  have hda := hqa (fun _ => False) (fun _ q => q.elim)
  clear hqa
  obtain ⟨ba, r1, m1, k1, s1, l1, j1, t1, g1, i1, x1, y1, rfl, HE1, _, _, _⟩ := hda.look
  obtain rfl : ba = false := by rw [← HE1.out.1]
  go_wp2_with fail
  refine (one9 0 1 _).mono ?_
  rintro e w2 ⟨qb, rfl, hqb, hb2⟩
  have hdb := hqb (fun _ => False) (fun _ q => q.elim)
  clear hqb
  obtain ⟨bb, r2, m2, k2, s2, l2, j2, t2, g2, i2, x2, y2, rfl, HE2, _, _, _⟩ := hdb.look
  obtain rfl : bb = false := by rw [← HE2.out.1]
  have hda2 := hda.below hb2
  have HB2 : Hid (Below W.heap.size W w2) := hb1.trans (hb2.mono hb1.size)
  obtain ⟨bs, hbs⟩ : ∃ q, w2.heap.size = q := ⟨_, rfl⟩
  obtain ⟨w3, hw3⟩ : ∃ q, w2.alloc (Obj.cells #[.bool false, .slice r1 m1 k1, .slice s1 l1 j1, .slice t1 g1 i1, .int .i64 x1, .int .i64 y1, .bool false, .slice r2 m2 k2, .slice s2 l2 j2, .slice t2 g2 i2, .int .i64 x2, .int .i64 y2] 37) = q := ⟨_, rfl⟩
  have hb3 : Below w2.heap.size w2 w3 := by rw [← hw3]; exact (Below.refl _ _).alloc (Nat.le_refl _) _
  have hbx : Bx w3 bs #[.bool false, .slice r1 m1 k1, .slice s1 l1 j1, .slice t1 g1 i1, .int .i64 x1, .int .i64 y1, .bool false, .slice r2 m2 k2, .slice s2 l2 j2, .slice t2 g2 i2, .int .i64 x2, .int .i64 y2] 37 := by rw [← hw3]; exact Bx.new' hbs _ _
  have hld : Ld w3 (.slice (some ⟨bs, 0, none⟩) 2 2) [d19, d01] := by
    refine ⟨some ⟨bs, 0, none⟩, 2, rfl, fun _ => ⟨bs, 0, [[.bool false, .slice r1 m1 k1, .slice s1 l1 j1, .slice t1 g1 i1, .int .i64 x1, .int .i64 y1], [.bool false, .slice r2 m2 k2, .slice s2 l2 j2, .slice t2 g2 i2, .int .i64 x2, .int .i64 y2]], rfl, hbx.lt, rfl, fun i ci di hc hd => ?_⟩⟩
    match i with
    | 0 =>
      simp only [List.getElem?_cons_zero, Option.some.injEq] at hc hd
      subst hc hd
      refine ⟨fun j u hu => ?_, hda2.below hb3⟩
      rw [Nat.zero_mul, Nat.add_zero, Nat.zero_add, hbx.cell j]
      have hj := (List.getElem?_eq_some_iff.1 hu).1
      match j, hj with
      | 0, _ => exact hu
      | 1, _ => exact hu
      | 2, _ => exact hu
      | 3, _ => exact hu
      | 4, _ => exact hu
      | 5, _ => exact hu
    | 1 =>
      simp only [List.getElem?_cons_zero, List.getElem?_cons_succ, Option.some.injEq] at hc hd
      subst hc hd
      refine ⟨fun j u hu => ?_, hdb.below hb3⟩
      rw [Nat.zero_add, Nat.one_mul, hbx.cell (6 + j)]
      have hj := (List.getElem?_eq_some_iff.1 hu).1
      match j, hj with
      | 0, _ => exact hu
      | 1, _ => exact hu
      | 2, _ => exact hu
      | 3, _ => exact hu
      | 4, _ => exact hu
      | 5, _ => exact hu
    | i + 2 => simp at hc
  have kn := new_any hld (by decide) (by
    intro d hd
    simp only [List.mem_cons, List.not_mem_nil, or_false] at hd
    rcases hd with rfl | rfl
    · exact ⟨rfl, kn_fit 1 9 (by decide) (by decide) (by decide) (by decide), (by decide)⟩
    · exact ⟨rfl, kn_fit 0 1 (by decide) (by decide) (by decide) (by decide), (by decide)⟩)
  rw [kn_s0] at kn
  have HB3 : Hid (Below W.heap.size W w3) := HB2.out.trans (hb3.mono HB2.out.size)
  have HW3 : Hid _ := hw3
  clear hw3 hb3 hbx hld hda2 hdb hda HE1 HE2 hb1 hb2 HB2
  go_wp2_with fail
  rw [HW3.out]
  refine kn.mono ?_
  clear kn HW3
  rintro e w4 ⟨p, sl4, rfl, hs4, hx4, hb4⟩
  have HB4 : Hid (Below W.heap.size W w4) := HB3.out.trans (hb4.mono HB3.out.size)
  have HX4 : Hid (∀ b, XS p sl4 b → W.heap.size ≤ b) := fun b hb => Nat.le_trans HB3.out.size (hx4 b hb)
  have HS4 : Hid (Sto w4 p S0 sl4) := hs4
  clear hs4 hx4 hb4 hbs
  have kp := push_any HS4.out (by exact ⟨by decide, by decide, by decide⟩) (by decide)
  rw [kn_s1] at kp
  go_wp2_with fail
  refine kp.mono ?_
  clear kp
  rintro e w5 ⟨rfl, sl5, hs5, hu5, hk5⟩
  have HB5 : Hid (Below W.heap.size W w5) := HB4.out.trans (hk5.below HB4.out.size HX4.out)
  have HX5 : Hid (∀ b, XS p sl5 b → W.heap.size ≤ b) := le_of_up hu5 HX4.out HB4.out.size
  have HS5 : Hid (Sto w5 p S1 sl5) := hs5
  clear hs5 hu5 hk5
  go_wp2_with fail
  refine (one9 3 3 _).mono ?_
  rintro e w6 ⟨qc, rfl, hqc, hb6⟩
  have hdc := hqc (XS p sl5) HS5.out.x_lt
  have HB6 : Hid (Below W.heap.size W w6) := HB5.out.trans (hb6.mono HB5.out.size)
  have HS6 : Hid (Sto w6 p S1 sl5) := HS5.out.below hb6
  have kna := narrow_ch HS6.out hdc 0 (o := d19) rfl rfl rfl (kn_fit 3 3 (by decide) (by decide) (by decide) (by decide)) (kn_fit 1 9 (by decide) (by decide) (by decide) (by decide)) (by rw [kn_w3]; exact kn_fit 3 3 (by decide) (by decide) (by decide) (by decide)) (by decide) rfl kn_e1 (by exact ⟨by decide, by decide, by decide⟩) (by decide) (by rw [kn_w3]; exact kn_n1) 1 (fun _ X Y w k k' h1 h2 => by rw [kn_w3] at h2; exact change_fix h1 h2 rfl rfl (kn_fit 3 3 (by decide) (by decide) (by decide) (by decide)) (by rw [kn_o3]))
  rw [kn_w3, kn_s2] at kna
  have hif : (if emptyW d33 = true then (2 : Int) else 1) = 1 := rfl
  rw [hif] at kna
  clear hif
  clear hqc hb6
  go_wp2_with fail
  refine kna.mono ?_
  clear kna hdc
  rintro e w7 ⟨rfl, sl7, hs7, hu7, hk7⟩
  have HB7 : Hid (Below W.heap.size W w7) := HB6.out.trans (hk7.below HB6.out.size HX5.out)
  have HX7 : Hid (∀ b, XS p sl7 b → W.heap.size ≤ b) := le_of_up hu7 HX5.out HB6.out.size
  have HS7 : Hid (Sto w7 p S2 sl7) := hs7
  clear hs7 hu7 hk7
  have kv := value_any HS7.out (by exact ⟨by decide, by decide, by decide⟩) 0 (o := d33) rfl rfl (kn_fit 3 3 (by decide) (by decide) (by decide) (by decide))
  rw [kn_o3] at kv
  go_wp2_with fail
  refine kv.mono ?_
  clear kv
  rintro e w8 ⟨rfl, hb8⟩
  have HB8 : Hid (Below W.heap.size W w8) := HB7.out.trans (hb8.mono HB7.out.size)
  have HS8 : Hid (Sto w8 p S2 sl7) := HS7.out.below hb8
  clear hb8
  obtain ⟨bv, hbv⟩ : ∃ q, w8.heap.size = q := ⟨_, rfl⟩
  obtain ⟨w9, hw9⟩ : ∃ q, w8.alloc (Obj.cells #[.bool false, .int .i64 3, .slice none 0 0] 57) = q := ⟨_, rfl⟩
  have hb9 : Below w8.heap.size w8 w9 := by rw [← hw9]; exact (Below.refl _ _).alloc (Nat.le_refl _) _
  have HBV9 : Hid (Bx w9 bv #[.bool false, .int .i64 3, .slice none 0 0] 57) := by rw [← hw9]; exact Bx.new' hbv _ _
  have HB9 : Hid (Below W.heap.size W w9) := HB8.out.trans (hb9.mono HB8.out.size)
  have HS9 : Hid (Sto w9 p S2 sl7) := HS8.out.below hb9
  have HV7 : Hid (¬ XS p sl7 bv) := fun q => by have := HS8.out.x_lt bv q; omega
  have HW9 : Hid _ := hw9
  have ke := events_any HS9.out (by exact ⟨by decide, by decide, by decide⟩) (by decide) (by intro d hd; simp only [S2, List.mem_cons, List.not_mem_nil, or_false] at hd; rcases hd with rfl | rfl <;> rfl)
  rw [kn_ev2, kn_s3] at ke
  clear hw9 hb9
  go_wp2_with fail
  rw [HW9.out]
  refine ke.mono ?_
  clear ke HW9
  rintro e w10 ⟨se, rfl, hre, hfe, hs10, hk10⟩
  have hsh := hre.shape
  obtain ⟨ge, cap, ese, hgl, _, _, hrg, _⟩ := hre.at (i := 0) (c := [.int .i64 ((0 : Nat) : Int), .int .i64 1]) rfl
  subst ese
  have hg1 : w10.cell? ⟨ge, 1, none⟩ = some (.int .i64 1) := by have := hrg 1 (.int .i64 1) rfl; simpa using this
  have hge : w9.heap.size ≤ ge := hfe ge rfl
  have HX10 : Hid (¬ XS p sl7 ge) := fun q => by have := HS9.out.x_lt ge q; omega
  have HBV10 : Hid (Bx w10 bv #[.bool false, .int .i64 3, .slice none 0 0] 57) := HBV9.out.kept hk10 HV7.out
  have HB10 : Hid (Below W.heap.size W w10) := HB9.out.trans (hk10.below HB9.out.size HX7.out)
  have HS10 : Hid (Sto w10 p S3 sl7) := hs10
  have HG10 : Hid (ge < w10.heap.size ∧ w10.cell? ⟨ge, 1, none⟩ = some (.int .i64 1)) := ⟨hgl, hg1⟩
  clear hs10 hk10 hfe hre hrg hg1 hgl hge hsh hbv
  have hdE : Dc (XS p sl7) w10 [.bool false, .slice none 0 0, .slice none 0 0, .slice none 0 0, .int .i64 0, .int .i64 0] dE := ⟨none, 0, none, 0, none, 0, rfl, ⟨none, 0, rfl, fun q => by simp at q⟩, Nm.empty _ _, Nm.empty _ _⟩
  have kna := narrow_ch HS10.out hdE 1 (o := d01) rfl rfl rfl (fun i hi => by simp at hi) (kn_fit 0 1 (by decide) (by decide) (by decide) (by decide)) (by rw [kn_w4]; exact fun i hi => by simp at hi) (by decide) rfl rfl (by exact ⟨by decide, by decide, by decide⟩) (by decide) (by rw [kn_w4]; exact kn_n2) 0 (fun h => by rw [kn_w4] at h; cases h)
  rw [kn_w4, kn_s4] at kna
  have hif : (if emptyW dE = true then (2 : Int) else 1) = 2 := rfl
  rw [hif] at kna
  clear hif hdE
  go_wp2_with fail
  refine kna.mono ?_
  clear kna
  rintro e w11 ⟨rfl, sl11, hs11, hu11, hk11⟩
  have HB11 : Hid (Below W.heap.size W w11) := HB10.out.trans (hk11.below HB10.out.size HX7.out)
  have HX11 : Hid (∀ b, XS p sl11 b → W.heap.size ≤ b) := le_of_up hu11 HX7.out HB10.out.size
  have HS11 : Hid (Sto w11 p S4 sl11) := hs11
  have HBV11 : Hid (Bx w11 bv #[.bool false, .int .i64 3, .slice none 0 0] 57) := HBV10.out.kept hk11 HV7.out
  have HG11 : Hid (ge < w11.heap.size ∧ w11.cell? ⟨ge, 1, none⟩ = some (.int .i64 1)) := ⟨Nat.lt_of_lt_of_le HG10.out.1 hk11.size, (hk11.cell HG10.out.1 HX10.out 1).trans HG10.out.2⟩
  have HV11 : Hid (¬ XS p sl11 bv) := not_up hu11 HV7.out HBV10.out.lt
  have HGX11 : Hid (¬ XS p sl11 ge) := not_up hu11 HX10.out HG10.out.1
  clear hs11 hu11 hk11
  have kf := failed_any HS11.out
  have hd1 : decide (0 < S4.e) = true := rfl
  rw [hd1] at kf
  clear hd1
  go_wp2_with fail
  refine kf.mono ?_
  clear kf
  rintro e wt ⟨rfl, hwt⟩
  rw [hwt]
  clear hwt wt
  have kpo := pop_any HS11.out (by exact ⟨by decide, by decide, by decide⟩) [] 0 rfl (by decide) (by decide) (by
    intro t ht
    have ht' : t ∈ [((0 : Int), d19, (0 : Int)), (1, d01, 0)] := ht
    simp only [List.mem_cons, List.not_mem_nil, or_false] at ht'
    rcases ht' with rfl | rfl
    · exact ⟨by decide, by decide, rfl⟩
    · exact ⟨by decide, by decide, rfl⟩) (by intro d hd; simp only [S4, List.mem_cons, List.not_mem_nil, or_false] at hd; rcases hd with rfl | rfl <;> rfl) (by decide) (by decide)
  rw [kn_s5] at kpo
  go_wp2_with fail
  refine kpo.mono ?_
  clear kpo
  rintro e w12 ⟨rfl, sl12, hs12, hu12, hk12⟩
  have HB12 : Hid (Below W.heap.size W w12) := HB11.out.trans (hk12.below HB11.out.size HX11.out)
  have HS12 : Hid (Sto w12 p S5 sl12) := hs12
  have HBV12 : Hid (Bx w12 bv #[.bool false, .int .i64 3, .slice none 0 0] 57) := HBV11.out.kept hk12 HV11.out
  have HG12 : Hid (ge < w12.heap.size ∧ w12.cell? ⟨ge, 1, none⟩ = some (.int .i64 1)) := ⟨Nat.lt_of_lt_of_le HG11.out.1 hk12.size, (hk12.cell HG11.out.1 HGX11.out 1).trans HG11.out.2⟩
  clear hs12 hu12 hk12
  have kg := get_any HS12.out (by exact ⟨by decide, by decide, by decide⟩) 0 (o := d19) rfl rfl rfl rfl (by decide) (by decide)
  go_wp2_with fail
  refine kg.mono ?_
  clear kg
  rintro e w13 ⟨q4, rfl, hq4, hb13⟩
  have hd4 := hq4 (fun _ => False) (fun _ q => q.elim)
  obtain ⟨b4, r4, m4, k4, s4, l4, j4, t4, g4, i4, x4, y4, rfl, HE4, _, _, _⟩ := hd4.look
  obtain rfl : b4 = false := by rw [← HE4.out.1]
  obtain ⟨bg, hbg⟩ : ∃ q, w13.heap.size = q := ⟨_, rfl⟩
  obtain ⟨w14, hw14⟩ : ∃ q, w13.alloc (Obj.cells #[.bool false, .slice r4 m4 k4, .slice s4 l4 j4, .slice t4 g4 i4, .int .i64 x4, .int .i64 y4] 37) = q := ⟨_, rfl⟩
  have hb14 : Below w13.heap.size w13 w14 := by rw [← hw14]; exact (Below.refl _ _).alloc (Nat.le_refl _) _
  have hb1214 : Below w12.heap.size w12 w14 := hb13.trans (hb14.mono hb13.size)
  have HBG : Hid (Bx w14 bg #[.bool false, .slice r4 m4 k4, .slice s4 l4 j4, .slice t4 g4 i4, .int .i64 x4, .int .i64 y4] 37) := by rw [← hw14]; exact Bx.new' hbg _ _
  have HB14 : Hid (Below W.heap.size W w14) := HB12.out.trans (hb1214.mono HB12.out.size)
  have HS14 : Hid (Sto w14 p S5 sl12) := HS12.out.below hb1214
  have HBV14 : Hid (Bx w14 bv #[.bool false, .int .i64 3, .slice none 0 0] 57) := HBV12.out.below hb1214
  have HG14 : Hid (w14.cell? ⟨ge, 1, none⟩ = some (.int .i64 1)) := (hb1214.cell (p := ⟨ge, 1, none⟩) HG12.out.1).trans HG12.out.2
  have HGL14 : Hid (ge < w14.heap.size) := Nat.lt_of_lt_of_le HG12.out.1 hb1214.size
  have HD14 : Hid (Dc (fun _ => False) w14 [.bool false, .slice r4 m4 k4, .slice s4 l4 j4, .slice t4 g4 i4, .int .i64 x4, .int .i64 y4] d19) := hd4.below hb14
  have HW14 : Hid _ := hw14
  have HBGE : Hid (w13.heap.size = bg) := hbg
  clear hw14 hb14 hb1214 hd4 hq4 hb13 hbg
  have FS : ∀ X, Below w14.heap.size w14 X → Bx X bv #[.bool false, .int .i64 3, .slice none 0 0] 57 ∧ X.cell? ⟨ge, 1, none⟩ = some (.int .i64 1) ∧ Bx X bg #[.bool false, .slice r4 m4 k4, .slice s4 l4 j4, .slice t4 g4 i4, .int .i64 x4, .int .i64 y4] 37 := fun X hX => ⟨HBV14.out.below hX, (hX.cell (p := ⟨ge, 1, none⟩) HGL14.out).trans HG14.out, HBG.out.below hX⟩
  have HY0 : Hid (Below w14.heap.size w14 w14.drew) := (Below.refl _ _).drew
  clear HB3 HB4 HX4 HS4 HB5 HX5 HS5 HB6 HS6 HB7 HX7 HS7 HB8 HS8 HBV9 HB9 HS9 HV7 HX10 HBV10 HB10 HS10 HG10 HB11 HX11 HS11 HBV11 HG11 HV11 HGX11 HB12 HS12 HBV12 HG12 HBV14 HG14 HGL14 HBG
  go_upto_region 12 with (fail)
  rw [HW14.out]
  (try rw [HBGE.out])
  refine wp_region_held_drew (S := fun X : World => Bx X bv #[.bool false, .int .i64 3, .slice none 0 0] 57 ∧ X.cell? ⟨ge, 1, none⟩ = some (.int .i64 1) ∧ Bx X bg #[.bool false, .slice r4 m4 k4, .slice s4 l4 j4, .slice t4 g4 i4, .int .i64 x4, .int .i64 y4] 37) (by kernel_rfl) ((FS _ HY0.out)) (fun hHeld => ?_)
  refine wpAnyH_take (i := 0) (oi := { dst := some 57, op := Go.Op.move (Go.Operand.tmp 3), type := 3, pos := "law.go:29", after := #[], guard := none }) (v := ?_) rfl (by kernel_rfl) (by kernel_rfl) (by kernel_rfl) (fun _ _ _ h => h) (Or.inl ⟨by rfl, ?_⟩) hHeld ?_
  rotate_left
  · intro w hSw; (try dsimp only at hSw); go_simp <;> with_reducible rfl
  try simp only [Act.put, List.setIfInBounds_toArray, List.set_cons_zero, List.set_cons_succ]
  refine wpAnyH_take (i := 1) (oi := { dst := some 58, op := Go.Op.binOp Go.BinOp.eql 3 (Go.Operand.tmp 57) (Go.Operand.const (Go.Value.int Go.IntKind.i64 1)) 3, type := 4, pos := "law.go:29", after := #[{ on := 0, ground := Go.Ground.data }], guard := none }) (v := ?_) rfl (by kernel_rfl) (by kernel_rfl) (by kernel_rfl) (fun _ _ _ h => h) (Or.inl ⟨by rfl, ?_⟩) hHeld ?_
  rotate_left
  · intro w hSw; (try dsimp only at hSw); go_simp <;> with_reducible rfl
  try simp only [Act.put, List.setIfInBounds_toArray, List.set_cons_zero, List.set_cons_succ]
  refine wpAnyH_take (i := 2) (oi := { dst := some 59, op := Go.Op.move (Go.Operand.tmp 58), type := 4, pos := "law.go:29", after := #[{ on := 1, ground := Go.Ground.data }], guard := none }) (v := ?_) rfl (by kernel_rfl) (by kernel_rfl) (by kernel_rfl) (fun _ _ _ h => h) (Or.inl ⟨by rfl, ?_⟩) hHeld ?_
  rotate_left
  · intro w hSw; (try dsimp only at hSw); go_simp <;> with_reducible rfl
  try simp only [Act.put, List.setIfInBounds_toArray, List.set_cons_zero, List.set_cons_succ]
  refine wpAnyH_take (i := 3) (oi := { dst := some 60, op := Go.Op.move (Go.Operand.tmp 4), type := 26, pos := "law.go:29", after := #[{ on := 2, ground := Go.Ground.guard }], guard := some (2, true) }) (v := ?_) rfl (by kernel_rfl) (by kernel_rfl) (by kernel_rfl) (fun _ _ _ h => h) (Or.inl ⟨by rfl, ?_⟩) hHeld ?_
  rotate_left
  · intro w hSw; (try dsimp only at hSw); go_simp <;> with_reducible rfl
  try simp only [Act.put, List.setIfInBounds_toArray, List.set_cons_zero, List.set_cons_succ]
  refine wpAnyH_take (i := 4) (oi := { dst := some 61, op := Go.Op.binOp Go.BinOp.eql 26 (Go.Operand.tmp 60) (Go.Operand.const (Go.Value.int Go.IntKind.i64 0)) 26, type := 4, pos := "law.go:29", after := #[{ on := 3, ground := Go.Ground.data }, { on := 2, ground := Go.Ground.guard }], guard := some (2, true) }) (v := ?_) rfl (by kernel_rfl) (by kernel_rfl) (by kernel_rfl) (fun _ _ _ h => h) (Or.inl ⟨by rfl, ?_⟩) hHeld ?_
  rotate_left
  · intro w hSw; (try dsimp only at hSw); go_simp <;> with_reducible rfl
  try simp only [Act.put, List.setIfInBounds_toArray, List.set_cons_zero, List.set_cons_succ]
  refine wpAnyH_take (i := 5) (oi := { dst := some 62, op := Go.Op.pick (Go.Operand.tmp 59) (Go.Operand.tmp 61) (Go.Operand.const (Go.Value.bool false)), type := 4, pos := "law.go:29", after := #[{ on := 2, ground := Go.Ground.data }, { on := 4, ground := Go.Ground.data }], guard := none }) (v := ?_) rfl (by kernel_rfl) (by kernel_rfl) (by kernel_rfl) (fun _ _ _ h => h) (Or.inl ⟨by rfl, ?_⟩) hHeld ?_
  rotate_left
  · intro w hSw; (try dsimp only at hSw); go_simp <;> with_reducible rfl
  try simp only [Act.put, List.setIfInBounds_toArray, List.set_cons_zero, List.set_cons_succ]
  refine wpAnyH_take (i := 6) (oi := { dst := some 63, op := Go.Op.move (Go.Operand.tmp 62), type := 4, pos := "law.go:29", after := #[{ on := 5, ground := Go.Ground.data }, { on := 2, ground := Go.Ground.chain }], guard := none }) (v := ?_) rfl (by kernel_rfl) (by kernel_rfl) (by kernel_rfl) (fun _ _ _ h => h) (Or.inl ⟨by rfl, ?_⟩) hHeld ?_
  rotate_left
  · intro w hSw; (try dsimp only at hSw); go_simp <;> with_reducible rfl
  try simp only [Act.put, List.setIfInBounds_toArray, List.set_cons_zero, List.set_cons_succ]
  refine wpAnyH_take (i := 7) (oi := { dst := some 64, op := Go.Op.move (Go.Operand.tmp 6), type := 4, pos := "law.go:29", after := #[{ on := 6, ground := Go.Ground.guard }], guard := some (6, true) }) (v := ?_) rfl (by kernel_rfl) (by kernel_rfl) (by kernel_rfl) (fun _ _ _ h => h) (Or.inl ⟨by rfl, ?_⟩) hHeld ?_
  rotate_left
  · intro w hSw; (try dsimp only at hSw); go_simp <;> with_reducible rfl
  try simp only [Act.put, List.setIfInBounds_toArray, List.set_cons_zero, List.set_cons_succ]
  refine wpAnyH_take (i := 8) (oi := { dst := some 65, op := Go.Op.pick (Go.Operand.tmp 63) (Go.Operand.tmp 64) (Go.Operand.const (Go.Value.bool false)), type := 4, pos := "law.go:29", after := #[{ on := 6, ground := Go.Ground.data }, { on := 7, ground := Go.Ground.data }], guard := none }) (v := ?_) rfl (by kernel_rfl) (by kernel_rfl) (by kernel_rfl) (fun _ _ _ h => h) (Or.inl ⟨by rfl, ?_⟩) hHeld ?_
  rotate_left
  · intro w hSw; (try dsimp only at hSw); go_simp <;> with_reducible rfl
  try simp only [Act.put, List.setIfInBounds_toArray, List.set_cons_zero, List.set_cons_succ]
  refine wpAnyH_take (i := 9) (oi := { dst := some 66, op := Go.Op.move (Go.Operand.tmp 65), type := 4, pos := "law.go:29", after := #[{ on := 8, ground := Go.Ground.data }, { on := 6, ground := Go.Ground.chain }], guard := none }) (v := ?_) rfl (by kernel_rfl) (by kernel_rfl) (by kernel_rfl) (fun _ _ _ h => h) (Or.inl ⟨by rfl, ?_⟩) hHeld ?_
  rotate_left
  · intro w hSw; (try dsimp only at hSw); go_simp <;> with_reducible rfl
  try simp only [Act.put, List.setIfInBounds_toArray, List.set_cons_zero, List.set_cons_succ]
  refine wpAnyH_take (i := 10) (oi := { dst := some 67, op := Go.Op.fieldAddr 57 (Go.Operand.tmp 5) 1, type := 0, pos := "law.go:29", after := #[{ on := 9, ground := Go.Ground.guard }], guard := some (9, true) }) (v := ?_) rfl (by kernel_rfl) (by kernel_rfl) (by kernel_rfl) (fun _ _ _ h => h) (Or.inl ⟨by rfl, ?_⟩) hHeld ?_
  rotate_left
  · intro w hSw; (try dsimp only at hSw); go_simp <;> with_reducible rfl
  try simp only [Act.put, List.setIfInBounds_toArray, List.set_cons_zero, List.set_cons_succ]
  refine wpAnyH_take (i := 11) (oi := { dst := some 68, op := Go.Op.load 2 (Go.Operand.tmp 67), type := 2, pos := "law.go:29", after := #[{ on := 10, ground := Go.Ground.data }, { on := 9, ground := Go.Ground.guard }], guard := some (9, true) }) (v := ?_) rfl (by kernel_rfl) (by kernel_rfl) (by kernel_rfl) (fun _ _ _ h => h) (Or.inl ⟨by rfl, ?_⟩) hHeld ?_
  rotate_left
  · intro w hSw; obtain ⟨hv, hg, hx⟩ := hSw; have q1 := hv.cell 1; simp at q1; obtain ⟨u0, u1, u2, u3, u4, u5⟩ := hx.six; go_simp <;> with_reducible rfl
  try simp only [Act.put, List.setIfInBounds_toArray, List.set_cons_zero, List.set_cons_succ]
  refine wpAnyH_take (i := 12) (oi := { dst := some 69, op := Go.Op.binOp Go.BinOp.eql 2 (Go.Operand.tmp 68) (Go.Operand.const (Go.Value.int Go.IntKind.i64 3)) 2, type := 4, pos := "law.go:29", after := #[{ on := 11, ground := Go.Ground.data }, { on := 9, ground := Go.Ground.guard }], guard := some (9, true) }) (v := ?_) rfl (by kernel_rfl) (by kernel_rfl) (by kernel_rfl) (fun _ _ _ h => h) (Or.inl ⟨by rfl, ?_⟩) hHeld ?_
  rotate_left
  · intro w hSw; (try dsimp only at hSw); go_simp <;> with_reducible rfl
  try simp only [Act.put, List.setIfInBounds_toArray, List.set_cons_zero, List.set_cons_succ]
  refine wpAnyH_take (i := 13) (oi := { dst := some 70, op := Go.Op.pick (Go.Operand.tmp 66) (Go.Operand.tmp 69) (Go.Operand.const (Go.Value.bool false)), type := 4, pos := "law.go:29", after := #[{ on := 9, ground := Go.Ground.data }, { on := 12, ground := Go.Ground.data }], guard := none }) (v := ?_) rfl (by kernel_rfl) (by kernel_rfl) (by kernel_rfl) (fun _ _ _ h => h) (Or.inl ⟨by rfl, ?_⟩) hHeld ?_
  rotate_left
  · intro w hSw; (try dsimp only at hSw); go_simp <;> with_reducible rfl
  try simp only [Act.put, List.setIfInBounds_toArray, List.set_cons_zero, List.set_cons_succ]
  refine wpAnyH_take (i := 14) (oi := { dst := some 71, op := Go.Op.move (Go.Operand.tmp 70), type := 4, pos := "law.go:29", after := #[{ on := 13, ground := Go.Ground.data }, { on := 9, ground := Go.Ground.chain }], guard := none }) (v := ?_) rfl (by kernel_rfl) (by kernel_rfl) (by kernel_rfl) (fun _ _ _ h => h) (Or.inl ⟨by rfl, ?_⟩) hHeld ?_
  rotate_left
  · intro w hSw; (try dsimp only at hSw); go_simp <;> with_reducible rfl
  try simp only [Act.put, List.setIfInBounds_toArray, List.set_cons_zero, List.set_cons_succ]
  refine wpAnyH_take (i := 15) (oi := { dst := some 72, op := Go.Op.move (Go.Operand.tmp 7), type := 47, pos := "law.go:29", after := #[{ on := 14, ground := Go.Ground.guard }], guard := some (14, true) }) (v := ?_) rfl (by kernel_rfl) (by kernel_rfl) (by kernel_rfl) (fun _ _ _ h => h) (Or.inl ⟨by rfl, ?_⟩) hHeld ?_
  rotate_left
  · intro w hSw; (try dsimp only at hSw); go_simp <;> with_reducible rfl
  try simp only [Act.put, List.setIfInBounds_toArray, List.set_cons_zero, List.set_cons_succ]
  refine wpAnyH_take (i := 16) (oi := { dst := some 73, op := Go.Op.call { callee := Go.Callee.builtin Go.Builtin.len, args := #[Go.Operand.tmp 72], argTypes := #[47] }, type := 3, pos := "law.go:29", after := #[{ on := 15, ground := Go.Ground.data }, { on := 14, ground := Go.Ground.guard }], guard := some (14, true) }) (v := ?_) rfl (by kernel_rfl) (by kernel_rfl) (by kernel_rfl) (fun _ _ _ h => h) (Or.inl ⟨by rfl, ?_⟩) hHeld ?_
  rotate_left
  · intro w hSw; (try dsimp only at hSw); go_simp <;> with_reducible rfl
  try simp only [Act.put, List.setIfInBounds_toArray, List.set_cons_zero, List.set_cons_succ]
  refine wpAnyH_take (i := 17) (oi := { dst := some 74, op := Go.Op.binOp Go.BinOp.eql 3 (Go.Operand.tmp 73) (Go.Operand.const (Go.Value.int Go.IntKind.i64 1)) 3, type := 4, pos := "law.go:29", after := #[{ on := 16, ground := Go.Ground.data }, { on := 14, ground := Go.Ground.guard }], guard := some (14, true) }) (v := ?_) rfl (by kernel_rfl) (by kernel_rfl) (by kernel_rfl) (fun _ _ _ h => h) (Or.inl ⟨by rfl, ?_⟩) hHeld ?_
  rotate_left
  · intro w hSw; (try dsimp only at hSw); go_simp <;> with_reducible rfl
  try simp only [Act.put, List.setIfInBounds_toArray, List.set_cons_zero, List.set_cons_succ]
  refine wpAnyH_take (i := 18) (oi := { dst := some 75, op := Go.Op.pick (Go.Operand.tmp 71) (Go.Operand.tmp 74) (Go.Operand.const (Go.Value.bool false)), type := 4, pos := "law.go:29", after := #[{ on := 14, ground := Go.Ground.data }, { on := 17, ground := Go.Ground.data }], guard := none }) (v := ?_) rfl (by kernel_rfl) (by kernel_rfl) (by kernel_rfl) (fun _ _ _ h => h) (Or.inl ⟨by rfl, ?_⟩) hHeld ?_
  rotate_left
  · intro w hSw; (try dsimp only at hSw); go_simp <;> with_reducible rfl
  try simp only [Act.put, List.setIfInBounds_toArray, List.set_cons_zero, List.set_cons_succ]
  refine wpAnyH_take (i := 19) (oi := { dst := some 76, op := Go.Op.move (Go.Operand.tmp 75), type := 4, pos := "law.go:29", after := #[{ on := 18, ground := Go.Ground.data }, { on := 14, ground := Go.Ground.chain }], guard := none }) (v := ?_) rfl (by kernel_rfl) (by kernel_rfl) (by kernel_rfl) (fun _ _ _ h => h) (Or.inl ⟨by rfl, ?_⟩) hHeld ?_
  rotate_left
  · intro w hSw; (try dsimp only at hSw); go_simp <;> with_reducible rfl
  try simp only [Act.put, List.setIfInBounds_toArray, List.set_cons_zero, List.set_cons_succ]
  refine wpAnyH_take (i := 20) (oi := { dst := some 77, op := Go.Op.move (Go.Operand.tmp 7), type := 47, pos := "law.go:29", after := #[{ on := 19, ground := Go.Ground.guard }], guard := some (19, true) }) (v := ?_) rfl (by kernel_rfl) (by kernel_rfl) (by kernel_rfl) (fun _ _ _ h => h) (Or.inl ⟨by rfl, ?_⟩) hHeld ?_
  rotate_left
  · intro w hSw; (try dsimp only at hSw); go_simp <;> with_reducible rfl
  try simp only [Act.put, List.setIfInBounds_toArray, List.set_cons_zero, List.set_cons_succ]
  refine wpAnyH_take (i := 21) (oi := { dst := some 78, op := Go.Op.indexAddr 47 (Go.Operand.tmp 77) (Go.Operand.const (Go.Value.int Go.IntKind.i64 0)), type := 0, pos := "law.go:29", after := #[{ on := 20, ground := Go.Ground.data }, { on := 19, ground := Go.Ground.guard }], guard := some (19, true) }) (v := ?_) rfl (by kernel_rfl) (by kernel_rfl) (by kernel_rfl) (fun _ _ _ h => h) (Or.inl ⟨by rfl, ?_⟩) hHeld ?_
  rotate_left
  · intro w hSw; (try dsimp only at hSw); go_simp <;> with_reducible rfl
  try simp only [Act.put, List.setIfInBounds_toArray, List.set_cons_zero, List.set_cons_succ]
  refine wpAnyH_take (i := 22) (oi := { dst := some 79, op := Go.Op.fieldAddr 61 (Go.Operand.tmp 78) 1, type := 0, pos := "law.go:29", after := #[{ on := 21, ground := Go.Ground.data }, { on := 19, ground := Go.Ground.guard }], guard := some (19, true) }) (v := ?_) rfl (by kernel_rfl) (by kernel_rfl) (by kernel_rfl) (fun _ _ _ h => h) (Or.inl ⟨by rfl, ?_⟩) hHeld ?_
  rotate_left
  · intro w hSw; (try dsimp only at hSw); go_simp <;> with_reducible rfl
  try simp only [Act.put, List.setIfInBounds_toArray, List.set_cons_zero, List.set_cons_succ]
  refine wpAnyH_take (i := 23) (oi := { dst := some 80, op := Go.Op.load 3 (Go.Operand.tmp 79), type := 3, pos := "law.go:29", after := #[{ on := 22, ground := Go.Ground.data }, { on := 19, ground := Go.Ground.guard }], guard := some (19, true) }) (v := ?_) rfl (by kernel_rfl) (by kernel_rfl) (by kernel_rfl) (fun _ _ _ h => h) (Or.inl ⟨by rfl, ?_⟩) hHeld ?_
  rotate_left
  · intro w hSw; obtain ⟨hv, hg, hx⟩ := hSw; have q1 := hv.cell 1; simp at q1; obtain ⟨u0, u1, u2, u3, u4, u5⟩ := hx.six; go_simp <;> with_reducible rfl
  try simp only [Act.put, List.setIfInBounds_toArray, List.set_cons_zero, List.set_cons_succ]
  refine wpAnyH_take (i := 24) (oi := { dst := some 81, op := Go.Op.binOp Go.BinOp.eql 3 (Go.Operand.tmp 80) (Go.Operand.const (Go.Value.int Go.IntKind.i64 1)) 3, type := 4, pos := "law.go:29", after := #[{ on := 23, ground := Go.Ground.data }, { on := 19, ground := Go.Ground.guard }], guard := some (19, true) }) (v := ?_) rfl (by kernel_rfl) (by kernel_rfl) (by kernel_rfl) (fun _ _ _ h => h) (Or.inl ⟨by rfl, ?_⟩) hHeld ?_
  rotate_left
  · intro w hSw; (try dsimp only at hSw); go_simp <;> with_reducible rfl
  try simp only [Act.put, List.setIfInBounds_toArray, List.set_cons_zero, List.set_cons_succ]
  refine wpAnyH_take (i := 25) (oi := { dst := some 82, op := Go.Op.pick (Go.Operand.tmp 76) (Go.Operand.tmp 81) (Go.Operand.const (Go.Value.bool false)), type := 4, pos := "law.go:29", after := #[{ on := 19, ground := Go.Ground.data }, { on := 24, ground := Go.Ground.data }], guard := none }) (v := ?_) rfl (by kernel_rfl) (by kernel_rfl) (by kernel_rfl) (fun _ _ _ h => h) (Or.inl ⟨by rfl, ?_⟩) hHeld ?_
  rotate_left
  · intro w hSw; (try dsimp only at hSw); go_simp <;> with_reducible rfl
  try simp only [Act.put, List.setIfInBounds_toArray, List.set_cons_zero, List.set_cons_succ]
  refine wpAnyH_take (i := 26) (oi := { dst := some 83, op := Go.Op.move (Go.Operand.tmp 82), type := 4, pos := "law.go:29", after := #[{ on := 25, ground := Go.Ground.data }, { on := 19, ground := Go.Ground.chain }], guard := none }) (v := ?_) rfl (by kernel_rfl) (by kernel_rfl) (by kernel_rfl) (fun _ _ _ h => h) (Or.inl ⟨by rfl, ?_⟩) hHeld ?_
  rotate_left
  · intro w hSw; (try dsimp only at hSw); go_simp <;> with_reducible rfl
  try simp only [Act.put, List.setIfInBounds_toArray, List.set_cons_zero, List.set_cons_succ]
  refine wpAnyH_take (i := 27) (oi := { dst := some 84, op := Go.Op.move (Go.Operand.tmp 8), type := 3, pos := "law.go:29", after := #[{ on := 26, ground := Go.Ground.guard }], guard := some (26, true) }) (v := ?_) rfl (by kernel_rfl) (by kernel_rfl) (by kernel_rfl) (fun _ _ _ h => h) (Or.inl ⟨by rfl, ?_⟩) hHeld ?_
  rotate_left
  · intro w hSw; (try dsimp only at hSw); go_simp <;> with_reducible rfl
  try simp only [Act.put, List.setIfInBounds_toArray, List.set_cons_zero, List.set_cons_succ]
  refine wpAnyH_take (i := 28) (oi := { dst := some 85, op := Go.Op.binOp Go.BinOp.eql 3 (Go.Operand.tmp 84) (Go.Operand.const (Go.Value.int Go.IntKind.i64 2)) 3, type := 4, pos := "law.go:29", after := #[{ on := 27, ground := Go.Ground.data }, { on := 26, ground := Go.Ground.guard }], guard := some (26, true) }) (v := ?_) rfl (by kernel_rfl) (by kernel_rfl) (by kernel_rfl) (fun _ _ _ h => h) (Or.inl ⟨by rfl, ?_⟩) hHeld ?_
  rotate_left
  · intro w hSw; (try dsimp only at hSw); go_simp <;> with_reducible rfl
  try simp only [Act.put, List.setIfInBounds_toArray, List.set_cons_zero, List.set_cons_succ]
  refine wpAnyH_take (i := 29) (oi := { dst := some 86, op := Go.Op.pick (Go.Operand.tmp 83) (Go.Operand.tmp 85) (Go.Operand.const (Go.Value.bool false)), type := 4, pos := "law.go:29", after := #[{ on := 26, ground := Go.Ground.data }, { on := 28, ground := Go.Ground.data }], guard := none }) (v := ?_) rfl (by kernel_rfl) (by kernel_rfl) (by kernel_rfl) (fun _ _ _ h => h) (Or.inl ⟨by rfl, ?_⟩) hHeld ?_
  rotate_left
  · intro w hSw; (try dsimp only at hSw); go_simp <;> with_reducible rfl
  try simp only [Act.put, List.setIfInBounds_toArray, List.set_cons_zero, List.set_cons_succ]
  refine wpAnyH_take (i := 30) (oi := { dst := some 87, op := Go.Op.move (Go.Operand.tmp 86), type := 4, pos := "law.go:29", after := #[{ on := 29, ground := Go.Ground.data }, { on := 26, ground := Go.Ground.chain }], guard := none }) (v := ?_) rfl (by kernel_rfl) (by kernel_rfl) (by kernel_rfl) (fun _ _ _ h => h) (Or.inl ⟨by rfl, ?_⟩) hHeld ?_
  rotate_left
  · intro w hSw; (try dsimp only at hSw); go_simp <;> with_reducible rfl
  try simp only [Act.put, List.setIfInBounds_toArray, List.set_cons_zero, List.set_cons_succ]
  refine wpAnyH_take (i := 31) (oi := { dst := some 88, op := Go.Op.move (Go.Operand.tmp 9), type := 26, pos := "law.go:29", after := #[{ on := 30, ground := Go.Ground.guard }], guard := some (30, true) }) (v := ?_) rfl (by kernel_rfl) (by kernel_rfl) (by kernel_rfl) (fun _ _ _ h => h) (Or.inl ⟨by rfl, ?_⟩) hHeld ?_
  rotate_left
  · intro w hSw; (try dsimp only at hSw); go_simp <;> with_reducible rfl
  try simp only [Act.put, List.setIfInBounds_toArray, List.set_cons_zero, List.set_cons_succ]
  refine wpAnyH_take (i := 32) (oi := { dst := some 89, op := Go.Op.binOp Go.BinOp.eql 26 (Go.Operand.tmp 88) (Go.Operand.const (Go.Value.int Go.IntKind.i64 0)) 26, type := 4, pos := "law.go:29", after := #[{ on := 31, ground := Go.Ground.data }, { on := 30, ground := Go.Ground.guard }], guard := some (30, true) }) (v := ?_) rfl (by kernel_rfl) (by kernel_rfl) (by kernel_rfl) (fun _ _ _ h => h) (Or.inl ⟨by rfl, ?_⟩) hHeld ?_
  rotate_left
  · intro w hSw; (try dsimp only at hSw); go_simp <;> with_reducible rfl
  try simp only [Act.put, List.setIfInBounds_toArray, List.set_cons_zero, List.set_cons_succ]
  refine wpAnyH_take (i := 33) (oi := { dst := some 90, op := Go.Op.pick (Go.Operand.tmp 87) (Go.Operand.tmp 89) (Go.Operand.const (Go.Value.bool false)), type := 4, pos := "law.go:29", after := #[{ on := 30, ground := Go.Ground.data }, { on := 32, ground := Go.Ground.data }], guard := none }) (v := ?_) rfl (by kernel_rfl) (by kernel_rfl) (by kernel_rfl) (fun _ _ _ h => h) (Or.inl ⟨by rfl, ?_⟩) hHeld ?_
  rotate_left
  · intro w hSw; (try dsimp only at hSw); go_simp <;> with_reducible rfl
  try simp only [Act.put, List.setIfInBounds_toArray, List.set_cons_zero, List.set_cons_succ]
  refine wpAnyH_take (i := 34) (oi := { dst := some 91, op := Go.Op.move (Go.Operand.tmp 90), type := 4, pos := "law.go:29", after := #[{ on := 33, ground := Go.Ground.data }, { on := 30, ground := Go.Ground.chain }], guard := none }) (v := ?_) rfl (by kernel_rfl) (by kernel_rfl) (by kernel_rfl) (fun _ _ _ h => h) (Or.inl ⟨by rfl, ?_⟩) hHeld ?_
  rotate_left
  · intro w hSw; (try dsimp only at hSw); go_simp <;> with_reducible rfl
  try simp only [Act.put, List.setIfInBounds_toArray, List.set_cons_zero, List.set_cons_succ]
  refine wpAnyH_take (i := 35) (oi := { dst := some 92, op := Go.Op.move (Go.Operand.tmp 10), type := 4, pos := "law.go:29", after := #[{ on := 34, ground := Go.Ground.guard }], guard := some (34, true) }) (v := ?_) rfl (by kernel_rfl) (by kernel_rfl) (by kernel_rfl) (fun _ _ _ h => h) (Or.inl ⟨by rfl, ?_⟩) hHeld ?_
  rotate_left
  · intro w hSw; (try dsimp only at hSw); go_simp <;> with_reducible rfl
  try simp only [Act.put, List.setIfInBounds_toArray, List.set_cons_zero, List.set_cons_succ]
  refine wpAnyH_take (i := 36) (oi := { dst := some 93, op := Go.Op.pick (Go.Operand.tmp 91) (Go.Operand.tmp 92) (Go.Operand.const (Go.Value.bool false)), type := 4, pos := "law.go:29", after := #[{ on := 34, ground := Go.Ground.data }, { on := 35, ground := Go.Ground.data }], guard := none }) (v := ?_) rfl (by kernel_rfl) (by kernel_rfl) (by kernel_rfl) (fun _ _ _ h => h) (Or.inl ⟨by rfl, ?_⟩) hHeld ?_
  rotate_left
  · intro w hSw; (try dsimp only at hSw); go_simp <;> with_reducible rfl
  try simp only [Act.put, List.setIfInBounds_toArray, List.set_cons_zero, List.set_cons_succ]
  refine wpAnyH_take (i := 37) (oi := { dst := some 94, op := Go.Op.move (Go.Operand.tmp 93), type := 4, pos := "law.go:29", after := #[{ on := 36, ground := Go.Ground.data }, { on := 34, ground := Go.Ground.chain }], guard := none }) (v := ?_) rfl (by kernel_rfl) (by kernel_rfl) (by kernel_rfl) (fun _ _ _ h => h) (Or.inl ⟨by rfl, ?_⟩) hHeld ?_
  rotate_left
  · intro w hSw; (try dsimp only at hSw); go_simp <;> with_reducible rfl
  try simp only [Act.put, List.setIfInBounds_toArray, List.set_cons_zero, List.set_cons_succ]
  refine wpAnyH_take (i := 38) (oi := { dst := some 95, op := Go.Op.move (Go.Operand.tmp 11), type := 26, pos := "law.go:29", after := #[{ on := 37, ground := Go.Ground.guard }], guard := some (37, true) }) (v := ?_) rfl (by kernel_rfl) (by kernel_rfl) (by kernel_rfl) (fun _ _ _ h => h) (Or.inl ⟨by rfl, ?_⟩) hHeld ?_
  rotate_left
  · intro w hSw; (try dsimp only at hSw); go_simp <;> with_reducible rfl
  try simp only [Act.put, List.setIfInBounds_toArray, List.set_cons_zero, List.set_cons_succ]
  refine wpAnyH_take (i := 39) (oi := { dst := some 96, op := Go.Op.binOp Go.BinOp.eql 26 (Go.Operand.tmp 95) (Go.Operand.const (Go.Value.int Go.IntKind.i64 0)) 26, type := 4, pos := "law.go:29", after := #[{ on := 38, ground := Go.Ground.data }, { on := 37, ground := Go.Ground.guard }], guard := some (37, true) }) (v := ?_) rfl (by kernel_rfl) (by kernel_rfl) (by kernel_rfl) (fun _ _ _ h => h) (Or.inl ⟨by rfl, ?_⟩) hHeld ?_
  rotate_left
  · intro w hSw; (try dsimp only at hSw); go_simp <;> with_reducible rfl
  try simp only [Act.put, List.setIfInBounds_toArray, List.set_cons_zero, List.set_cons_succ]
  refine wpAnyH_take (i := 40) (oi := { dst := some 97, op := Go.Op.pick (Go.Operand.tmp 94) (Go.Operand.tmp 96) (Go.Operand.const (Go.Value.bool false)), type := 4, pos := "law.go:29", after := #[{ on := 37, ground := Go.Ground.data }, { on := 39, ground := Go.Ground.data }], guard := none }) (v := ?_) rfl (by kernel_rfl) (by kernel_rfl) (by kernel_rfl) (fun _ _ _ h => h) (Or.inl ⟨by rfl, ?_⟩) hHeld ?_
  rotate_left
  · intro w hSw; (try dsimp only at hSw); go_simp <;> with_reducible rfl
  try simp only [Act.put, List.setIfInBounds_toArray, List.set_cons_zero, List.set_cons_succ]
  refine wpAnyH_take (i := 41) (oi := { dst := some 98, op := Go.Op.move (Go.Operand.tmp 97), type := 4, pos := "law.go:29", after := #[{ on := 40, ground := Go.Ground.data }, { on := 37, ground := Go.Ground.chain }], guard := none }) (v := ?_) rfl (by kernel_rfl) (by kernel_rfl) (by kernel_rfl) (fun _ _ _ h => h) (Or.inl ⟨by rfl, ?_⟩) hHeld ?_
  rotate_left
  · intro w hSw; (try dsimp only at hSw); go_simp <;> with_reducible rfl
  try simp only [Act.put, List.setIfInBounds_toArray, List.set_cons_zero, List.set_cons_succ]
  refine wpAnyH_take (i := 42) (oi := { dst := some 99, op := Go.Op.move (Go.Operand.tmp 13), type := 26, pos := "law.go:29", after := #[{ on := 41, ground := Go.Ground.guard }], guard := some (41, true) }) (v := ?_) rfl (by kernel_rfl) (by kernel_rfl) (by kernel_rfl) (fun _ _ _ h => h) (Or.inl ⟨by rfl, ?_⟩) hHeld ?_
  rotate_left
  · intro w hSw; (try dsimp only at hSw); go_simp <;> with_reducible rfl
  try simp only [Act.put, List.setIfInBounds_toArray, List.set_cons_zero, List.set_cons_succ]
  refine wpAnyH_take (i := 43) (oi := { dst := some 100, op := Go.Op.binOp Go.BinOp.eql 26 (Go.Operand.tmp 99) (Go.Operand.const (Go.Value.int Go.IntKind.i64 0)) 26, type := 4, pos := "law.go:29", after := #[{ on := 42, ground := Go.Ground.data }, { on := 41, ground := Go.Ground.guard }], guard := some (41, true) }) (v := ?_) rfl (by kernel_rfl) (by kernel_rfl) (by kernel_rfl) (fun _ _ _ h => h) (Or.inl ⟨by rfl, ?_⟩) hHeld ?_
  rotate_left
  · intro w hSw; (try dsimp only at hSw); go_simp <;> with_reducible rfl
  try simp only [Act.put, List.setIfInBounds_toArray, List.set_cons_zero, List.set_cons_succ]
  refine wpAnyH_take (i := 44) (oi := { dst := some 101, op := Go.Op.pick (Go.Operand.tmp 98) (Go.Operand.tmp 100) (Go.Operand.const (Go.Value.bool false)), type := 4, pos := "law.go:29", after := #[{ on := 41, ground := Go.Ground.data }, { on := 43, ground := Go.Ground.data }], guard := none }) (v := ?_) rfl (by kernel_rfl) (by kernel_rfl) (by kernel_rfl) (fun _ _ _ h => h) (Or.inl ⟨by rfl, ?_⟩) hHeld ?_
  rotate_left
  · intro w hSw; (try dsimp only at hSw); go_simp <;> with_reducible rfl
  try simp only [Act.put, List.setIfInBounds_toArray, List.set_cons_zero, List.set_cons_succ]
  refine wpAnyH_take (i := 45) (oi := { dst := some 102, op := Go.Op.move (Go.Operand.tmp 101), type := 4, pos := "law.go:29", after := #[{ on := 44, ground := Go.Ground.data }, { on := 41, ground := Go.Ground.chain }], guard := none }) (v := ?_) rfl (by kernel_rfl) (by kernel_rfl) (by kernel_rfl) (fun _ _ _ h => h) (Or.inl ⟨by rfl, ?_⟩) hHeld ?_
  rotate_left
  · intro w hSw; (try dsimp only at hSw); go_simp <;> with_reducible rfl
  try simp only [Act.put, List.setIfInBounds_toArray, List.set_cons_zero, List.set_cons_succ]
  refine wpAnyH_take (i := 46) (oi := { dst := some 103, op := Go.Op.load 37 (Go.Operand.tmp 12), type := 37, pos := "law.go:29", after := #[{ on := 45, ground := Go.Ground.guard }], guard := some (45, true) }) (v := ?_) rfl (by kernel_rfl) (by kernel_rfl) (by kernel_rfl) (fun _ _ _ h => h) (Or.inl ⟨by rfl, ?_⟩) hHeld ?_
  rotate_left
  · intro w hSw; obtain ⟨hv, hg, hx⟩ := hSw; have q1 := hv.cell 1; simp at q1; obtain ⟨u0, u1, u2, u3, u4, u5⟩ := hx.six; go_simp <;> with_reducible rfl
  try simp only [Act.put, List.setIfInBounds_toArray, List.set_cons_zero, List.set_cons_succ]
  refine wpAnyH_ready (rs := [47]) (by kernel_rfl) (by simp) ?_
  refine AllReadyH.cons rfl (fun K hK => ?_) AllReadyH.nil
  go_simp
  refine (one9 1 9 _).mono ?_
  rintro e v1 ⟨q5, rfl, hq5, hb⟩
  have HD5 : Hid (Dc (fun _ => False) v1 q5 d19) := hq5 _ (fun _ q => q.elim)
  have HY1 : Hid (Below w14.heap.size w14 v1) := HY0.out.trans (hb.mono HY0.out.size)
  clear hb hq5
  obtain ⟨b5, r5, m5, k5, s5, l5, j5, t5, g5, i5, x5, y5, rfl, HE5, _, _, _⟩ := HD5.out.look
  obtain rfl : b5 = false := by rw [← HE5.out.1]
  refine hK.out _ _ ((FS _ HY1.out)) (fun hHeld2 => ?_)
  clear hK K hHeld
  have hHeld := hHeld2
  clear hHeld2
  try simp only [Act.put, List.setIfInBounds_toArray, List.set_cons_zero, List.set_cons_succ]
  refine wpAnyH_ready (rs := [48]) (by kernel_rfl) (by simp) ?_
  refine AllReadyH.cons rfl (fun K hK => ?_) AllReadyH.nil
  go_simp
  refine (one_eq (HD14.out.below HY1.out) HD5.out rfl rfl ⟨rfl, rfl, rfl, rfl⟩ ⟨rfl, rfl⟩ rfl (by decide)).mono ?_
  rintro e v2 ⟨rfl, hb⟩
  have HY2 : Hid (Below w14.heap.size w14 v2) := HY1.out.trans (hb.mono HY1.out.size)
  clear hb
  refine hK.out _ _ ((FS _ HY2.out)) (fun hHeld2 => ?_)
  clear hK K hHeld
  have hHeld := hHeld2
  clear hHeld2
  try simp only [Act.put, List.setIfInBounds_toArray, List.set_cons_zero, List.set_cons_succ]
  refine wpAnyH_take (i := 49) (oi := { dst := some 106, op := Go.Op.pick (Go.Operand.tmp 102) (Go.Operand.tmp 105) (Go.Operand.const (Go.Value.bool false)), type := 4, pos := "law.go:29", after := #[{ on := 45, ground := Go.Ground.data }, { on := 48, ground := Go.Ground.data }], guard := none }) (v := ?_) rfl (by kernel_rfl) (by kernel_rfl) (by kernel_rfl) (fun _ _ _ h => h) (Or.inl ⟨by rfl, ?_⟩) hHeld ?_
  rotate_left
  · intro w hSw; (try dsimp only at hSw); go_simp <;> with_reducible rfl
  try simp only [Act.put, List.setIfInBounds_toArray, List.set_cons_zero, List.set_cons_succ]
  refine wpAnyH_take (i := 50) (oi := { dst := some 107, op := Go.Op.move (Go.Operand.tmp 106), type := 4, pos := "law.go:29", after := #[{ on := 49, ground := Go.Ground.data }, { on := 48, ground := Go.Ground.chain }], guard := none }) (v := ?_) rfl (by kernel_rfl) (by kernel_rfl) (by kernel_rfl) (fun _ _ _ h => h) (Or.inl ⟨by rfl, ?_⟩) hHeld ?_
  rotate_left
  · intro w hSw; (try dsimp only at hSw); go_simp <;> with_reducible rfl
  try simp only [Act.put, List.setIfInBounds_toArray, List.set_cons_zero, List.set_cons_succ]
  refine wpAnyH_take (i := 51) (oi := { dst := some 108, op := Go.Op.move (Go.Operand.tmp 1), type := 25, pos := "law.go:29", after := #[{ on := 50, ground := Go.Ground.guard }], guard := some (50, true) }) (v := ?_) rfl (by kernel_rfl) (by kernel_rfl) (by kernel_rfl) (fun _ _ _ h => h) (Or.inl ⟨by rfl, ?_⟩) hHeld ?_
  rotate_left
  · intro w hSw; (try dsimp only at hSw); go_simp <;> with_reducible rfl
  try simp only [Act.put, List.setIfInBounds_toArray, List.set_cons_zero, List.set_cons_succ]
  refine wpAnyH_ready (rs := [52]) (by kernel_rfl) (by simp) ?_
  refine AllReadyH.cons rfl (fun K hK => ?_) AllReadyH.nil
  have kf := failed_any (HS14.out.below HY2.out)
  have hd1 : decide (0 < S5.e) = false := rfl
  rw [hd1] at kf
  clear hd1
  go_simp
  refine kf.mono ?_
  clear kf
  rintro e wt ⟨rfl, hwt⟩
  rw [hwt]
  clear hwt wt
  refine hK.out _ _ ((FS _ HY2.out)) (fun hHeld2 => ?_)
  clear hK K hHeld
  have hHeld := hHeld2
  clear hHeld2
  try simp only [Act.put, List.setIfInBounds_toArray, List.set_cons_zero, List.set_cons_succ]
  refine wpAnyH_take (i := 53) (oi := { dst := some 110, op := Go.Op.unOp Go.UnOp.not 4 (Go.Operand.tmp 109), type := 4, pos := "law.go:29", after := #[{ on := 52, ground := Go.Ground.data }, { on := 50, ground := Go.Ground.guard }], guard := some (50, true) }) (v := ?_) rfl (by kernel_rfl) (by kernel_rfl) (by kernel_rfl) (fun _ _ _ h => h) (Or.inl ⟨by rfl, ?_⟩) hHeld ?_
  rotate_left
  · intro w hSw; (try dsimp only at hSw); go_simp <;> with_reducible rfl
  try simp only [Act.put, List.setIfInBounds_toArray, List.set_cons_zero, List.set_cons_succ]
  refine wpAnyH_take (i := 54) (oi := { dst := some 111, op := Go.Op.pick (Go.Operand.tmp 107) (Go.Operand.tmp 110) (Go.Operand.const (Go.Value.bool false)), type := 4, pos := "law.go:29", after := #[{ on := 50, ground := Go.Ground.data }, { on := 53, ground := Go.Ground.data }], guard := none }) (v := ?_) rfl (by kernel_rfl) (by kernel_rfl) (by kernel_rfl) (fun _ _ _ h => h) (Or.inl ⟨by rfl, ?_⟩) hHeld ?_
  rotate_left
  · intro w hSw; (try dsimp only at hSw); go_simp <;> with_reducible rfl
  try simp only [Act.put, List.setIfInBounds_toArray, List.set_cons_zero, List.set_cons_succ]
  refine wpAnyH_take (i := 55) (oi := { dst := some 0, op := Go.Op.assign (Go.Operand.tmp 111), type := 4, pos := "law.go:29", after := #[{ on := 54, ground := Go.Ground.data }, { on := 52, ground := Go.Ground.chain }, { on := 0, ground := Go.Ground.phase }, { on := 1, ground := Go.Ground.phase }, { on := 2, ground := Go.Ground.phase }, { on := 3, ground := Go.Ground.phase }, { on := 4, ground := Go.Ground.phase }, { on := 5, ground := Go.Ground.phase }, { on := 6, ground := Go.Ground.phase }, { on := 7, ground := Go.Ground.phase }, { on := 8, ground := Go.Ground.phase }, { on := 9, ground := Go.Ground.phase }, { on := 10, ground := Go.Ground.phase }, { on := 11, ground := Go.Ground.phase }, { on := 12, ground := Go.Ground.phase }, { on := 13, ground := Go.Ground.phase }, { on := 14, ground := Go.Ground.phase }, { on := 15, ground := Go.Ground.phase }, { on := 16, ground := Go.Ground.phase }, { on := 17, ground := Go.Ground.phase }, { on := 18, ground := Go.Ground.phase }, { on := 19, ground := Go.Ground.phase }, { on := 20, ground := Go.Ground.phase }, { on := 21, ground := Go.Ground.phase }, { on := 22, ground := Go.Ground.phase }, { on := 23, ground := Go.Ground.phase }, { on := 24, ground := Go.Ground.phase }, { on := 25, ground := Go.Ground.phase }, { on := 26, ground := Go.Ground.phase }, { on := 27, ground := Go.Ground.phase }, { on := 28, ground := Go.Ground.phase }, { on := 29, ground := Go.Ground.phase }, { on := 30, ground := Go.Ground.phase }, { on := 31, ground := Go.Ground.phase }, { on := 32, ground := Go.Ground.phase }, { on := 33, ground := Go.Ground.phase }, { on := 34, ground := Go.Ground.phase }, { on := 35, ground := Go.Ground.phase }, { on := 36, ground := Go.Ground.phase }, { on := 37, ground := Go.Ground.phase }, { on := 38, ground := Go.Ground.phase }, { on := 39, ground := Go.Ground.phase }, { on := 40, ground := Go.Ground.phase }, { on := 41, ground := Go.Ground.phase }, { on := 42, ground := Go.Ground.phase }, { on := 43, ground := Go.Ground.phase }, { on := 44, ground := Go.Ground.phase }, { on := 45, ground := Go.Ground.phase }, { on := 46, ground := Go.Ground.phase }, { on := 47, ground := Go.Ground.phase }, { on := 48, ground := Go.Ground.phase }, { on := 49, ground := Go.Ground.phase }, { on := 50, ground := Go.Ground.phase }, { on := 51, ground := Go.Ground.phase }, { on := 52, ground := Go.Ground.phase }, { on := 53, ground := Go.Ground.phase }, { on := 54, ground := Go.Ground.phase }], guard := none }) (v := ?_) rfl (by kernel_rfl) (by kernel_rfl) (by kernel_rfl) (fun _ _ _ h => h) (Or.inl ⟨by rfl, ?_⟩) hHeld ?_
  rotate_left
  · intro w hSw; (try dsimp only at hSw); go_simp <;> with_reducible rfl
  try simp only [Act.put, List.setIfInBounds_toArray, List.set_cons_zero, List.set_cons_succ]
  refine wpAnyH_done (by kernel_rfl) ?_ _
  go_wp2
  go_ret
  exact ⟨rfl, HB14.out.trans (HY2.out.mono HB14.out.size)⟩
end Go.Proofs.YtghnfnieppfhgaaGreat
