/-
  What is proved here: the reference's Tight of any two sets of which one is within the other.
-/
import Derived.Test.YthpbgplbgnefcaaGreatDoorOd
import Derived.Test.YthpbgplbgnefcaaGreatDoorRj
namespace Go.Proofs.YthpbgplbgnefcaaGreatDoor
open Go.RowKit Go.Shelf
set_option linter.unusedVariables false
set_option linter.unusedSimpArgs false
theorem R6.setc1 {w : World} {g : Nat} {x0 x1 x2 x3 x4 x5 : Value} (h : R6 w g x0 x1 x2 x3 x4 x5) (y : Value) : w.setCell ⟨g, 1, none⟩ y = w.setRow g #[x0, y, x2, x3, x4, x5] := by
  rw [Sort.setCell_eq]
  exact Sort.mapBlock_congr w g _ (fun _ => #[x0, y, x2, x3, x4, x5]) fun c e fr hc => by
    rw [h.h] at hc
    injection hc with hc
    injection hc with hc
    subst hc
    rfl
theorem R6.setc2 {w : World} {g : Nat} {x0 x1 x2 x3 x4 x5 : Value} (h : R6 w g x0 x1 x2 x3 x4 x5) (y : Value) : w.setCell ⟨g, 2, none⟩ y = w.setRow g #[x0, x1, y, x3, x4, x5] := by
  rw [Sort.setCell_eq]
  exact Sort.mapBlock_congr w g _ (fun _ => #[x0, x1, y, x3, x4, x5]) fun c e fr hc => by
    rw [h.h] at hc
    injection hc with hc
    injection hc with hc
    subst hc
    rfl
theorem R6.setc3 {w : World} {g : Nat} {x0 x1 x2 x3 x4 x5 : Value} (h : R6 w g x0 x1 x2 x3 x4 x5) (y : Value) : w.setCell ⟨g, 3, none⟩ y = w.setRow g #[x0, x1, x2, y, x4, x5] := by
  rw [Sort.setCell_eq]
  exact Sort.mapBlock_congr w g _ (fun _ => #[x0, x1, x2, y, x4, x5]) fun c e fr hc => by
    rw [h.h] at hc
    injection hc with hc
    injection hc with hc
    subst hc
    rfl
theorem R6.frozen {w : World} {g : Nat} {x0 x1 x2 x3 x4 x5 : Value} (h : R6 w g x0 x1 x2 x3 x4 x5) (i : Nat) : w.frozen? ⟨g, i, none⟩ = false := by simp [World.frozen?, h.h]
theorem agg6 {x0 x1 x2 x3 : Value} {a b a' b' : Int} (h4 : a = a') (h5 : b = b') : Value.agg #[x0, x1, x2, x3, .int .i64 a, .int .i64 b] = Value.agg #[x0, x1, x2, x3, .int .i64 a', .int .i64 b'] := by rw [h4, h5]

set_option maxRecDepth 100000 in
set_option maxHeartbeats 4000000 in
theorem reftight_none (s1 s2 : Value) (lo up : List Int) (least most : Int) (W : World) (hS1 : Si W s1 lo) (hS2 : Si W s2 up) (h1 : IsSet lo) (h2 : IsSet up) (hs : ∀ x ∈ lo, x ∈ up) (hc : tightD lo up least most = noneD ∧ min most up.length < max least lo.length) :
    Calls Tryz.prog 76 #[s1, s2, .int .i64 least, .int .i64 most] W fun e w' => ∃ v, e = .returned v ∧ Dv W.heap.size w' v (tightD lo up least most) ∧ Below W.heap.size W w' := by
  have l1 := h1.1
  have l2 := h2.1
  have l12 := set_sub_len h1 h2 hs
  obtain ⟨a1, n1, c1, rfl, HS1, HN1⟩ := si_look hS1
  obtain ⟨a2, n2, c2, rfl, HS2, HN2⟩ := si_look hS2
  rw [HN1.out] at l1 l12 hc
  rw [HN2.out] at l2 l12 hc
  obtain ⟨w0, hW0⟩ : ∃ X, W.alloc (Obj.cells #[.bool false, .slice none 0 0, .slice none 0 0, .slice none 0 0, .int .i64 0, .int .i64 0] 37) = X := ⟨_, rfl⟩
  have HW0 : Hid _ := hW0
  have hb0 : Below W.heap.size W w0 := by rw [← hW0]; exact (Below.refl _ W).alloc (Nat.le_refl _) _
  have HZ_0 : Hid (R6 w0 W.heap.size (.bool false) (.slice none 0 0) (.slice none 0 0) (.slice none 0 0) (.int .i64 0) (.int .i64 0)) := by rw [← hW0]; exact R6.new _ _ _ _ _ _ _
  have HSZ0 : Hid (w0.heap.size = W.heap.size + 1) := by unfold Hid; rw [← hW0]; simp
  have HD : Hid (tightD lo up least most = noneD) := hc.1
  have hc2 := hc.2
  clear hW0 hS1 hS2 hs hc
  by_cases hp1 : least < (n1 : Int)
  · by_cases hp2 : (n2 : Int) < most
    · have q : (n2 : Int) < (n1 : Int) := by omega
      have q2 : decide ((n2 : Int) < (n1 : Int)) = true := by simpa using q
      go_enter Tryz.func76, Tryz.ntmps76
      go_upto_region 1 with (fail)
      rw [HW0.out]
      go_wp2_with fail
      refine (refnone_at w0).mono ?_
      rintro e w1 ⟨rfl, hb⟩
      have hb1 : Below W.heap.size W w1 := hb0.trans (hb.mono hb0.size)
      have HZ_1 : Hid _ := HZ_0.out.below hb
      clear hb hb0 HZ_0
      go_wp2_with (with_reducible refine st37 rfl (.tmp 8) (.tmp 25) rfl W.heap.size _ _ _ _ _ _ (by with_unfolding_all rfl) (by with_unfolding_all rfl) HZ_1.out (six_dom _ _ _ _ _ _ _ _ _ _ _ _) ?_)
      refine ⟨rfl, _, R6.res rfl _ (HZ_1.out.set (.bool true) (.slice none 0 0) (.slice none 0 0) (.slice none 0 0) (.int .i64 1) (.int .i64 0)) rfl, ⟨_, rfl, ?_, below_setRow hb1 (by omega) _⟩⟩
      rw [HD.out]
      exact none_dv _ _
    · have q : most < (n1 : Int) := by omega
      have q2 : decide (most < (n1 : Int)) = true := by simpa using q
      go_enter Tryz.func76, Tryz.ntmps76
      go_upto_region 1 with (fail)
      rw [HW0.out]
      go_wp2_with fail
      refine (refnone_at w0).mono ?_
      rintro e w1 ⟨rfl, hb⟩
      have hb1 : Below W.heap.size W w1 := hb0.trans (hb.mono hb0.size)
      have HZ_1 : Hid _ := HZ_0.out.below hb
      clear hb hb0 HZ_0
      go_wp2_with (with_reducible refine st37 rfl (.tmp 8) (.tmp 25) rfl W.heap.size _ _ _ _ _ _ (by with_unfolding_all rfl) (by with_unfolding_all rfl) HZ_1.out (six_dom _ _ _ _ _ _ _ _ _ _ _ _) ?_)
      refine ⟨rfl, _, R6.res rfl _ (HZ_1.out.set (.bool true) (.slice none 0 0) (.slice none 0 0) (.slice none 0 0) (.int .i64 1) (.int .i64 0)) rfl, ⟨_, rfl, ?_, below_setRow hb1 (by omega) _⟩⟩
      rw [HD.out]
      exact none_dv _ _
  · by_cases hp2 : (n2 : Int) < most
    · have q : (n2 : Int) < least := by omega
      have q2 : decide ((n2 : Int) < least) = true := by simpa using q
      go_enter Tryz.func76, Tryz.ntmps76
      go_upto_region 1 with (fail)
      rw [HW0.out]
      go_wp2_with fail
      refine (refnone_at w0).mono ?_
      rintro e w1 ⟨rfl, hb⟩
      have hb1 : Below W.heap.size W w1 := hb0.trans (hb.mono hb0.size)
      have HZ_1 : Hid _ := HZ_0.out.below hb
      clear hb hb0 HZ_0
      go_wp2_with (with_reducible refine st37 rfl (.tmp 8) (.tmp 25) rfl W.heap.size _ _ _ _ _ _ (by with_unfolding_all rfl) (by with_unfolding_all rfl) HZ_1.out (six_dom _ _ _ _ _ _ _ _ _ _ _ _) ?_)
      refine ⟨rfl, _, R6.res rfl _ (HZ_1.out.set (.bool true) (.slice none 0 0) (.slice none 0 0) (.slice none 0 0) (.int .i64 1) (.int .i64 0)) rfl, ⟨_, rfl, ?_, below_setRow hb1 (by omega) _⟩⟩
      rw [HD.out]
      exact none_dv _ _
    · have q : most < least := by omega
      have q2 : decide (most < least) = true := by simpa using q
      go_enter Tryz.func76, Tryz.ntmps76
      go_upto_region 1 with (fail)
      rw [HW0.out]
      go_wp2_with fail
      refine (refnone_at w0).mono ?_
      rintro e w1 ⟨rfl, hb⟩
      have hb1 : Below W.heap.size W w1 := hb0.trans (hb.mono hb0.size)
      have HZ_1 : Hid _ := HZ_0.out.below hb
      clear hb hb0 HZ_0
      go_wp2_with (with_reducible refine st37 rfl (.tmp 8) (.tmp 25) rfl W.heap.size _ _ _ _ _ _ (by with_unfolding_all rfl) (by with_unfolding_all rfl) HZ_1.out (six_dom _ _ _ _ _ _ _ _ _ _ _ _) ?_)
      refine ⟨rfl, _, R6.res rfl _ (HZ_1.out.set (.bool true) (.slice none 0 0) (.slice none 0 0) (.slice none 0 0) (.int .i64 1) (.int .i64 0)) rfl, ⟨_, rfl, ?_, below_setRow hb1 (by omega) _⟩⟩
      rw [HD.out]
      exact none_dv _ _

set_option maxRecDepth 100000 in
set_option maxHeartbeats 4000000 in
theorem reftight_up (s1 s2 : Value) (lo up : List Int) (least most : Int) (W : World) (hS1 : Si W s1 lo) (hS2 : Si W s2 up) (h1 : IsSet lo) (h2 : IsSet up) (hs : ∀ x ∈ lo, x ∈ up) (hc : tightD lo up least most = TD up up up.length up.length ∧ max least lo.length = up.length ∧ (up.length : Int) ≤ most) :
    Calls Tryz.prog 76 #[s1, s2, .int .i64 least, .int .i64 most] W fun e w' => ∃ v, e = .returned v ∧ Dv W.heap.size w' v (tightD lo up least most) ∧ Below W.heap.size W w' := by
  have l1 := h1.1
  have l2 := h2.1
  have l12 := set_sub_len h1 h2 hs
  obtain ⟨a1, n1, c1, rfl, HS1, HN1⟩ := si_look hS1
  obtain ⟨a2, n2, c2, rfl, HS2, HN2⟩ := si_look hS2
  rw [HN1.out] at l1 l12 hc
  rw [HN2.out] at l2 l12 hc
  obtain ⟨w0, hW0⟩ : ∃ X, W.alloc (Obj.cells #[.bool false, .slice none 0 0, .slice none 0 0, .slice none 0 0, .int .i64 0, .int .i64 0] 37) = X := ⟨_, rfl⟩
  have HW0 : Hid _ := hW0
  have hb0 : Below W.heap.size W w0 := by rw [← hW0]; exact (Below.refl _ W).alloc (Nat.le_refl _) _
  have HZ_0 : Hid (R6 w0 W.heap.size (.bool false) (.slice none 0 0) (.slice none 0 0) (.slice none 0 0) (.int .i64 0) (.int .i64 0)) := by rw [← hW0]; exact R6.new _ _ _ _ _ _ _
  have HSZ0 : Hid (w0.heap.size = W.heap.size + 1) := by unfold Hid; rw [← hW0]; simp
  have HD : Hid (tightD lo up least most = TD up up n2 n2) := hc.1
  have hc2 := hc.2
  clear hW0 hS1 hS2 hs hc
  by_cases hp1 : least < (n1 : Int)
  · by_cases hp2 : (n2 : Int) < most
    · have q5 : ¬ (n2 : Int) < (n1 : Int) := by omega
      have q7 : ((n1 : Int) == (n2 : Int)) = true := by simp <;> omega
      have q9 : ((n2 : Int) == (n2 : Int)) = true := by simp <;> omega
      have q11 : ¬ (n1 : Int) < (n2 : Int) := by omega
      have q13 : ¬ (n2 : Int) < (n2 : Int) := by omega
      have HLQ : Hid ((n2 : Int) = (n1 : Int)) := by unfold Hid; omega
      have HMQ : Hid ((n2 : Int) = (n2 : Int)) := by unfold Hid; omega
      go_enter Tryz.func76, Tryz.ntmps76
      go_upto_region 1 with (fail)
      rw [HW0.out]
      have hzb := (Below.refl w0.heap.size w0).alloc (Nat.le_refl _) (Obj.cells #[.bool true, .slice none 0 0, .slice none 0 0, .slice none 0 0, .int .i64 (n1 : Int), .int .i64 (n2 : Int)] 37)
      have hb1 := hb0.trans (hzb.mono hb0.size)
      have HG_1 : Hid _ := R6.new w0 (.bool true) (.slice none 0 0) (.slice none 0 0) (.slice none 0 0) (.int .i64 (n1 : Int)) (.int .i64 (n2 : Int))
      have HZ_1 : Hid _ := HZ_0.out.below hzb
      go_upto_region 16 with (fail)
      clear hb0 HZ_0 hzb HW0
      generalize w0.alloc (Obj.cells #[.bool true, .slice none 0 0, .slice none 0 0, .slice none 0 0, .int .i64 (n1 : Int), .int .i64 (n2 : Int)] 37) = w1 at hb1 HG_1 HZ_1 ⊢
      have hGW : W.heap.size < w0.heap.size := by rw [HSZ0.out]; omega
      generalize w0.heap.size = G at HG_1 hGW ⊢
      clear HSZ0
      obtain ⟨z0, z1, z2, z3, z4, z5⟩ := HG_1.out.cells
      have hnil : w1.ownsRow w1.heap.size 2 1 (.slice none 0 0) 0 (intv []) := by simpa [intv] using World.ownsRow_nil _ _ _ _
      have hsi : Si w1 (.slice a2 n2 c2) up := HS2.out.below hb1
      go_upto_region 17 with (at_builtin; refine wpList_app_sr _ rfl _ _ rfl w1.heap.size _ 0 [] rfl hnil rfl _ up rfl hsi (by have := h1.1; have := h2.1; simp <;> omega) (Nat.le_refl _) ?_; intro v9 w2 hr hbel; have hrow : w2.ownsRow w1.heap.size 2 1 v9 up.length (intv up) := (by simpa using hr); obtain ⟨p1, d1, rfl⟩ := own_slice hrow; have HG_2 : Hid _ := HG_1.out.below hbel; have HZ_2 : Hid _ := HZ_1.out.below hbel; have O1_2 : Hid _ := own_base hrow hb1.size; have hb2 := hb1.trans (hbel.mono hb1.size); clear z0 z1 z2 z3 z4 z5 hr hrow hbel; obtain ⟨z0, z1, z2, z3, z4, z5⟩ := HG_2.out.cells; have fz := HG_2.out.frozen 2)
      rw [HG_2.out.setc2]
      clear hnil hsi z0 z1 z2 z3 z4 z5 fz
      have HG_3 : Hid _ := HG_2.out.set (.bool true) (.slice none 0 0) (.slice p1 up.length d1) (.slice none 0 0) (.int .i64 (n1 : Int)) (.int .i64 (n2 : Int))
      have HZ_3 : Hid _ := HZ_2.out.other (show W.heap.size ≠ G by omega) #[.bool true, .slice none 0 0, .slice p1 up.length d1, .slice none 0 0, .int .i64 (n1 : Int), .int .i64 (n2 : Int)]
      have O1_3 : Hid _ := own_setRow O1_2.out G #[.bool true, .slice none 0 0, .slice p1 up.length d1, .slice none 0 0, .int .i64 (n1 : Int), .int .i64 (n2 : Int)] HG_2.out.h
      have hb3 := below_setRow hb2 (show W.heap.size ≤ G by omega) #[.bool true, .slice none 0 0, .slice p1 up.length d1, .slice none 0 0, .int .i64 (n1 : Int), .int .i64 (n2 : Int)]
      clear HG_1 HZ_1 HG_2 HZ_2 O1_2 hb1 hb2
      generalize w2.setRow G #[.bool true, .slice none 0 0, .slice p1 up.length d1, .slice none 0 0, .int .i64 (n1 : Int), .int .i64 (n2 : Int)] = w3 at HG_3 HZ_3 O1_3 hb3 ⊢
      obtain ⟨z0, z1, z2, z3, z4, z5⟩ := HG_3.out.cells
      have hnil : w3.ownsRow w3.heap.size 2 1 (.slice none 0 0) 0 (intv []) := by simpa [intv] using World.ownsRow_nil _ _ _ _
      have hsi : Si w3 (.slice a2 n2 c2) up := HS2.out.below hb3
      go_upto_region 18 with (at_builtin; refine wpList_app_sr _ rfl _ _ rfl w3.heap.size _ 0 [] rfl hnil rfl _ up rfl hsi (by have := h1.1; have := h2.1; simp <;> omega) (Nat.le_refl _) ?_; intro v9 w4 hr hbel; have hrow : w4.ownsRow w3.heap.size 2 1 v9 up.length (intv up) := (by simpa using hr); obtain ⟨p3, d3, rfl⟩ := own_slice hrow; have HG_4 : Hid _ := HG_3.out.below hbel; have HZ_4 : Hid _ := HZ_3.out.below hbel; have O3_4 : Hid _ := own_base hrow hb3.size; have hb4 := hb3.trans (hbel.mono hb3.size); have O1_4 : Hid _ := own_keepB O1_3.out hbel; clear z0 z1 z2 z3 z4 z5 hr hrow hbel; obtain ⟨z0, z1, z2, z3, z4, z5⟩ := HG_4.out.cells; have fz := HG_4.out.frozen 3)
      rw [HG_4.out.setc3]
      clear hnil hsi z0 z1 z2 z3 z4 z5 fz
      have HG_5 : Hid _ := HG_4.out.set (.bool true) (.slice none 0 0) (.slice p1 up.length d1) (.slice p3 up.length d3) (.int .i64 (n1 : Int)) (.int .i64 (n2 : Int))
      have HZ_5 : Hid _ := HZ_4.out.other (show W.heap.size ≠ G by omega) #[.bool true, .slice none 0 0, .slice p1 up.length d1, .slice p3 up.length d3, .int .i64 (n1 : Int), .int .i64 (n2 : Int)]
      have O1_5 : Hid _ := own_setRow O1_4.out G #[.bool true, .slice none 0 0, .slice p1 up.length d1, .slice p3 up.length d3, .int .i64 (n1 : Int), .int .i64 (n2 : Int)] HG_4.out.h
      have O3_5 : Hid _ := own_setRow O3_4.out G #[.bool true, .slice none 0 0, .slice p1 up.length d1, .slice p3 up.length d3, .int .i64 (n1 : Int), .int .i64 (n2 : Int)] HG_4.out.h
      have hb5 := below_setRow hb4 (show W.heap.size ≤ G by omega) #[.bool true, .slice none 0 0, .slice p1 up.length d1, .slice p3 up.length d3, .int .i64 (n1 : Int), .int .i64 (n2 : Int)]
      clear HG_3 HZ_3 HG_4 HZ_4 O1_3 O1_4 O3_4 hb3 hb4
      generalize w4.setRow G #[.bool true, .slice none 0 0, .slice p1 up.length d1, .slice p3 up.length d3, .int .i64 (n1 : Int), .int .i64 (n2 : Int)] = w5 at HG_5 HZ_5 O1_5 O3_5 hb5 ⊢
      obtain ⟨z0, z1, z2, z3, z4, z5⟩ := HG_5.out.cells
      go_wp2_with (with_reducible refine st37 rfl (.tmp 8) (.tmp 61) rfl W.heap.size _ _ _ _ _ _ (by with_unfolding_all rfl) (by with_unfolding_all rfl) HZ_5.out (six_dom _ _ _ _ _ _ _ _ _ _ _ _) ?_)
      refine ⟨rfl, _, R6.res rfl _ (HZ_5.out.set (.bool true) (.slice none 0 0) (.slice p1 up.length d1) (.slice p3 up.length d3) (.int .i64 (n1 : Int)) (.int .i64 (n2 : Int))) rfl, ⟨_, rfl, ?_, below_setRow hb5 (Nat.le_refl _) _⟩⟩
      rw [HD.out]
      exact ⟨_, _, agg6 (by first | rfl | exact HLQ.out.symm | omega) (by first | rfl | exact HMQ.out.symm | omega), rfl, own_setRow O1_5.out _ _ HZ_5.out.h, own_setRow O3_5.out _ _ HZ_5.out.h⟩
    · have q5 : ¬ most < (n1 : Int) := by omega
      have q7 : ((n1 : Int) == (n2 : Int)) = true := by simp <;> omega
      have q9 : (most == (n2 : Int)) = true := by simp <;> omega
      have q11 : ¬ (n1 : Int) < (n2 : Int) := by omega
      have q13 : ¬ (n2 : Int) < most := by omega
      have HLQ : Hid ((n2 : Int) = (n1 : Int)) := by unfold Hid; omega
      have HMQ : Hid ((n2 : Int) = most) := by unfold Hid; omega
      go_enter Tryz.func76, Tryz.ntmps76
      go_upto_region 1 with (fail)
      rw [HW0.out]
      have hzb := (Below.refl w0.heap.size w0).alloc (Nat.le_refl _) (Obj.cells #[.bool true, .slice none 0 0, .slice none 0 0, .slice none 0 0, .int .i64 (n1 : Int), .int .i64 most] 37)
      have hb1 := hb0.trans (hzb.mono hb0.size)
      have HG_1 : Hid _ := R6.new w0 (.bool true) (.slice none 0 0) (.slice none 0 0) (.slice none 0 0) (.int .i64 (n1 : Int)) (.int .i64 most)
      have HZ_1 : Hid _ := HZ_0.out.below hzb
      go_upto_region 16 with (fail)
      clear hb0 HZ_0 hzb HW0
      generalize w0.alloc (Obj.cells #[.bool true, .slice none 0 0, .slice none 0 0, .slice none 0 0, .int .i64 (n1 : Int), .int .i64 most] 37) = w1 at hb1 HG_1 HZ_1 ⊢
      have hGW : W.heap.size < w0.heap.size := by rw [HSZ0.out]; omega
      generalize w0.heap.size = G at HG_1 hGW ⊢
      clear HSZ0
      obtain ⟨z0, z1, z2, z3, z4, z5⟩ := HG_1.out.cells
      have hnil : w1.ownsRow w1.heap.size 2 1 (.slice none 0 0) 0 (intv []) := by simpa [intv] using World.ownsRow_nil _ _ _ _
      have hsi : Si w1 (.slice a2 n2 c2) up := HS2.out.below hb1
      go_upto_region 17 with (at_builtin; refine wpList_app_sr _ rfl _ _ rfl w1.heap.size _ 0 [] rfl hnil rfl _ up rfl hsi (by have := h1.1; have := h2.1; simp <;> omega) (Nat.le_refl _) ?_; intro v9 w2 hr hbel; have hrow : w2.ownsRow w1.heap.size 2 1 v9 up.length (intv up) := (by simpa using hr); obtain ⟨p1, d1, rfl⟩ := own_slice hrow; have HG_2 : Hid _ := HG_1.out.below hbel; have HZ_2 : Hid _ := HZ_1.out.below hbel; have O1_2 : Hid _ := own_base hrow hb1.size; have hb2 := hb1.trans (hbel.mono hb1.size); clear z0 z1 z2 z3 z4 z5 hr hrow hbel; obtain ⟨z0, z1, z2, z3, z4, z5⟩ := HG_2.out.cells; have fz := HG_2.out.frozen 2)
      rw [HG_2.out.setc2]
      clear hnil hsi z0 z1 z2 z3 z4 z5 fz
      have HG_3 : Hid _ := HG_2.out.set (.bool true) (.slice none 0 0) (.slice p1 up.length d1) (.slice none 0 0) (.int .i64 (n1 : Int)) (.int .i64 most)
      have HZ_3 : Hid _ := HZ_2.out.other (show W.heap.size ≠ G by omega) #[.bool true, .slice none 0 0, .slice p1 up.length d1, .slice none 0 0, .int .i64 (n1 : Int), .int .i64 most]
      have O1_3 : Hid _ := own_setRow O1_2.out G #[.bool true, .slice none 0 0, .slice p1 up.length d1, .slice none 0 0, .int .i64 (n1 : Int), .int .i64 most] HG_2.out.h
      have hb3 := below_setRow hb2 (show W.heap.size ≤ G by omega) #[.bool true, .slice none 0 0, .slice p1 up.length d1, .slice none 0 0, .int .i64 (n1 : Int), .int .i64 most]
      clear HG_1 HZ_1 HG_2 HZ_2 O1_2 hb1 hb2
      generalize w2.setRow G #[.bool true, .slice none 0 0, .slice p1 up.length d1, .slice none 0 0, .int .i64 (n1 : Int), .int .i64 most] = w3 at HG_3 HZ_3 O1_3 hb3 ⊢
      obtain ⟨z0, z1, z2, z3, z4, z5⟩ := HG_3.out.cells
      have hnil : w3.ownsRow w3.heap.size 2 1 (.slice none 0 0) 0 (intv []) := by simpa [intv] using World.ownsRow_nil _ _ _ _
      have hsi : Si w3 (.slice a2 n2 c2) up := HS2.out.below hb3
      go_upto_region 18 with (at_builtin; refine wpList_app_sr _ rfl _ _ rfl w3.heap.size _ 0 [] rfl hnil rfl _ up rfl hsi (by have := h1.1; have := h2.1; simp <;> omega) (Nat.le_refl _) ?_; intro v9 w4 hr hbel; have hrow : w4.ownsRow w3.heap.size 2 1 v9 up.length (intv up) := (by simpa using hr); obtain ⟨p3, d3, rfl⟩ := own_slice hrow; have HG_4 : Hid _ := HG_3.out.below hbel; have HZ_4 : Hid _ := HZ_3.out.below hbel; have O3_4 : Hid _ := own_base hrow hb3.size; have hb4 := hb3.trans (hbel.mono hb3.size); have O1_4 : Hid _ := own_keepB O1_3.out hbel; clear z0 z1 z2 z3 z4 z5 hr hrow hbel; obtain ⟨z0, z1, z2, z3, z4, z5⟩ := HG_4.out.cells; have fz := HG_4.out.frozen 3)
      rw [HG_4.out.setc3]
      clear hnil hsi z0 z1 z2 z3 z4 z5 fz
      have HG_5 : Hid _ := HG_4.out.set (.bool true) (.slice none 0 0) (.slice p1 up.length d1) (.slice p3 up.length d3) (.int .i64 (n1 : Int)) (.int .i64 most)
      have HZ_5 : Hid _ := HZ_4.out.other (show W.heap.size ≠ G by omega) #[.bool true, .slice none 0 0, .slice p1 up.length d1, .slice p3 up.length d3, .int .i64 (n1 : Int), .int .i64 most]
      have O1_5 : Hid _ := own_setRow O1_4.out G #[.bool true, .slice none 0 0, .slice p1 up.length d1, .slice p3 up.length d3, .int .i64 (n1 : Int), .int .i64 most] HG_4.out.h
      have O3_5 : Hid _ := own_setRow O3_4.out G #[.bool true, .slice none 0 0, .slice p1 up.length d1, .slice p3 up.length d3, .int .i64 (n1 : Int), .int .i64 most] HG_4.out.h
      have hb5 := below_setRow hb4 (show W.heap.size ≤ G by omega) #[.bool true, .slice none 0 0, .slice p1 up.length d1, .slice p3 up.length d3, .int .i64 (n1 : Int), .int .i64 most]
      clear HG_3 HZ_3 HG_4 HZ_4 O1_3 O1_4 O3_4 hb3 hb4
      generalize w4.setRow G #[.bool true, .slice none 0 0, .slice p1 up.length d1, .slice p3 up.length d3, .int .i64 (n1 : Int), .int .i64 most] = w5 at HG_5 HZ_5 O1_5 O3_5 hb5 ⊢
      obtain ⟨z0, z1, z2, z3, z4, z5⟩ := HG_5.out.cells
      go_wp2_with (with_reducible refine st37 rfl (.tmp 8) (.tmp 61) rfl W.heap.size _ _ _ _ _ _ (by with_unfolding_all rfl) (by with_unfolding_all rfl) HZ_5.out (six_dom _ _ _ _ _ _ _ _ _ _ _ _) ?_)
      refine ⟨rfl, _, R6.res rfl _ (HZ_5.out.set (.bool true) (.slice none 0 0) (.slice p1 up.length d1) (.slice p3 up.length d3) (.int .i64 (n1 : Int)) (.int .i64 most)) rfl, ⟨_, rfl, ?_, below_setRow hb5 (Nat.le_refl _) _⟩⟩
      rw [HD.out]
      exact ⟨_, _, agg6 (by first | rfl | exact HLQ.out.symm | omega) (by first | rfl | exact HMQ.out.symm | omega), rfl, own_setRow O1_5.out _ _ HZ_5.out.h, own_setRow O3_5.out _ _ HZ_5.out.h⟩
  · by_cases hp2 : (n2 : Int) < most
    · have q5 : ¬ (n2 : Int) < least := by omega
      have q7 : (least == (n2 : Int)) = true := by simp <;> omega
      have q9 : ((n2 : Int) == (n2 : Int)) = true := by simp <;> omega
      have q11 : ¬ least < (n2 : Int) := by omega
      have q13 : ¬ (n2 : Int) < (n2 : Int) := by omega
      have HLQ : Hid ((n2 : Int) = least) := by unfold Hid; omega
      have HMQ : Hid ((n2 : Int) = (n2 : Int)) := by unfold Hid; omega
      go_enter Tryz.func76, Tryz.ntmps76
      go_upto_region 1 with (fail)
      rw [HW0.out]
      have hzb := (Below.refl w0.heap.size w0).alloc (Nat.le_refl _) (Obj.cells #[.bool true, .slice none 0 0, .slice none 0 0, .slice none 0 0, .int .i64 least, .int .i64 (n2 : Int)] 37)
      have hb1 := hb0.trans (hzb.mono hb0.size)
      have HG_1 : Hid _ := R6.new w0 (.bool true) (.slice none 0 0) (.slice none 0 0) (.slice none 0 0) (.int .i64 least) (.int .i64 (n2 : Int))
      have HZ_1 : Hid _ := HZ_0.out.below hzb
      go_upto_region 16 with (fail)
      clear hb0 HZ_0 hzb HW0
      generalize w0.alloc (Obj.cells #[.bool true, .slice none 0 0, .slice none 0 0, .slice none 0 0, .int .i64 least, .int .i64 (n2 : Int)] 37) = w1 at hb1 HG_1 HZ_1 ⊢
      have hGW : W.heap.size < w0.heap.size := by rw [HSZ0.out]; omega
      generalize w0.heap.size = G at HG_1 hGW ⊢
      clear HSZ0
      obtain ⟨z0, z1, z2, z3, z4, z5⟩ := HG_1.out.cells
      have hnil : w1.ownsRow w1.heap.size 2 1 (.slice none 0 0) 0 (intv []) := by simpa [intv] using World.ownsRow_nil _ _ _ _
      have hsi : Si w1 (.slice a2 n2 c2) up := HS2.out.below hb1
      go_upto_region 17 with (at_builtin; refine wpList_app_sr _ rfl _ _ rfl w1.heap.size _ 0 [] rfl hnil rfl _ up rfl hsi (by have := h1.1; have := h2.1; simp <;> omega) (Nat.le_refl _) ?_; intro v9 w2 hr hbel; have hrow : w2.ownsRow w1.heap.size 2 1 v9 up.length (intv up) := (by simpa using hr); obtain ⟨p1, d1, rfl⟩ := own_slice hrow; have HG_2 : Hid _ := HG_1.out.below hbel; have HZ_2 : Hid _ := HZ_1.out.below hbel; have O1_2 : Hid _ := own_base hrow hb1.size; have hb2 := hb1.trans (hbel.mono hb1.size); clear z0 z1 z2 z3 z4 z5 hr hrow hbel; obtain ⟨z0, z1, z2, z3, z4, z5⟩ := HG_2.out.cells; have fz := HG_2.out.frozen 2)
      rw [HG_2.out.setc2]
      clear hnil hsi z0 z1 z2 z3 z4 z5 fz
      have HG_3 : Hid _ := HG_2.out.set (.bool true) (.slice none 0 0) (.slice p1 up.length d1) (.slice none 0 0) (.int .i64 least) (.int .i64 (n2 : Int))
      have HZ_3 : Hid _ := HZ_2.out.other (show W.heap.size ≠ G by omega) #[.bool true, .slice none 0 0, .slice p1 up.length d1, .slice none 0 0, .int .i64 least, .int .i64 (n2 : Int)]
      have O1_3 : Hid _ := own_setRow O1_2.out G #[.bool true, .slice none 0 0, .slice p1 up.length d1, .slice none 0 0, .int .i64 least, .int .i64 (n2 : Int)] HG_2.out.h
      have hb3 := below_setRow hb2 (show W.heap.size ≤ G by omega) #[.bool true, .slice none 0 0, .slice p1 up.length d1, .slice none 0 0, .int .i64 least, .int .i64 (n2 : Int)]
      clear HG_1 HZ_1 HG_2 HZ_2 O1_2 hb1 hb2
      generalize w2.setRow G #[.bool true, .slice none 0 0, .slice p1 up.length d1, .slice none 0 0, .int .i64 least, .int .i64 (n2 : Int)] = w3 at HG_3 HZ_3 O1_3 hb3 ⊢
      obtain ⟨z0, z1, z2, z3, z4, z5⟩ := HG_3.out.cells
      have hnil : w3.ownsRow w3.heap.size 2 1 (.slice none 0 0) 0 (intv []) := by simpa [intv] using World.ownsRow_nil _ _ _ _
      have hsi : Si w3 (.slice a2 n2 c2) up := HS2.out.below hb3
      go_upto_region 18 with (at_builtin; refine wpList_app_sr _ rfl _ _ rfl w3.heap.size _ 0 [] rfl hnil rfl _ up rfl hsi (by have := h1.1; have := h2.1; simp <;> omega) (Nat.le_refl _) ?_; intro v9 w4 hr hbel; have hrow : w4.ownsRow w3.heap.size 2 1 v9 up.length (intv up) := (by simpa using hr); obtain ⟨p3, d3, rfl⟩ := own_slice hrow; have HG_4 : Hid _ := HG_3.out.below hbel; have HZ_4 : Hid _ := HZ_3.out.below hbel; have O3_4 : Hid _ := own_base hrow hb3.size; have hb4 := hb3.trans (hbel.mono hb3.size); have O1_4 : Hid _ := own_keepB O1_3.out hbel; clear z0 z1 z2 z3 z4 z5 hr hrow hbel; obtain ⟨z0, z1, z2, z3, z4, z5⟩ := HG_4.out.cells; have fz := HG_4.out.frozen 3)
      rw [HG_4.out.setc3]
      clear hnil hsi z0 z1 z2 z3 z4 z5 fz
      have HG_5 : Hid _ := HG_4.out.set (.bool true) (.slice none 0 0) (.slice p1 up.length d1) (.slice p3 up.length d3) (.int .i64 least) (.int .i64 (n2 : Int))
      have HZ_5 : Hid _ := HZ_4.out.other (show W.heap.size ≠ G by omega) #[.bool true, .slice none 0 0, .slice p1 up.length d1, .slice p3 up.length d3, .int .i64 least, .int .i64 (n2 : Int)]
      have O1_5 : Hid _ := own_setRow O1_4.out G #[.bool true, .slice none 0 0, .slice p1 up.length d1, .slice p3 up.length d3, .int .i64 least, .int .i64 (n2 : Int)] HG_4.out.h
      have O3_5 : Hid _ := own_setRow O3_4.out G #[.bool true, .slice none 0 0, .slice p1 up.length d1, .slice p3 up.length d3, .int .i64 least, .int .i64 (n2 : Int)] HG_4.out.h
      have hb5 := below_setRow hb4 (show W.heap.size ≤ G by omega) #[.bool true, .slice none 0 0, .slice p1 up.length d1, .slice p3 up.length d3, .int .i64 least, .int .i64 (n2 : Int)]
      clear HG_3 HZ_3 HG_4 HZ_4 O1_3 O1_4 O3_4 hb3 hb4
      generalize w4.setRow G #[.bool true, .slice none 0 0, .slice p1 up.length d1, .slice p3 up.length d3, .int .i64 least, .int .i64 (n2 : Int)] = w5 at HG_5 HZ_5 O1_5 O3_5 hb5 ⊢
      obtain ⟨z0, z1, z2, z3, z4, z5⟩ := HG_5.out.cells
      go_wp2_with (with_reducible refine st37 rfl (.tmp 8) (.tmp 61) rfl W.heap.size _ _ _ _ _ _ (by with_unfolding_all rfl) (by with_unfolding_all rfl) HZ_5.out (six_dom _ _ _ _ _ _ _ _ _ _ _ _) ?_)
      refine ⟨rfl, _, R6.res rfl _ (HZ_5.out.set (.bool true) (.slice none 0 0) (.slice p1 up.length d1) (.slice p3 up.length d3) (.int .i64 least) (.int .i64 (n2 : Int))) rfl, ⟨_, rfl, ?_, below_setRow hb5 (Nat.le_refl _) _⟩⟩
      rw [HD.out]
      exact ⟨_, _, agg6 (by first | rfl | exact HLQ.out.symm | omega) (by first | rfl | exact HMQ.out.symm | omega), rfl, own_setRow O1_5.out _ _ HZ_5.out.h, own_setRow O3_5.out _ _ HZ_5.out.h⟩
    · have q5 : ¬ most < least := by omega
      have q7 : (least == (n2 : Int)) = true := by simp <;> omega
      have q9 : (most == (n2 : Int)) = true := by simp <;> omega
      have q11 : ¬ least < (n2 : Int) := by omega
      have q13 : ¬ (n2 : Int) < most := by omega
      have HLQ : Hid ((n2 : Int) = least) := by unfold Hid; omega
      have HMQ : Hid ((n2 : Int) = most) := by unfold Hid; omega
      go_enter Tryz.func76, Tryz.ntmps76
      go_upto_region 1 with (fail)
      rw [HW0.out]
      have hzb := (Below.refl w0.heap.size w0).alloc (Nat.le_refl _) (Obj.cells #[.bool true, .slice none 0 0, .slice none 0 0, .slice none 0 0, .int .i64 least, .int .i64 most] 37)
      have hb1 := hb0.trans (hzb.mono hb0.size)
      have HG_1 : Hid _ := R6.new w0 (.bool true) (.slice none 0 0) (.slice none 0 0) (.slice none 0 0) (.int .i64 least) (.int .i64 most)
      have HZ_1 : Hid _ := HZ_0.out.below hzb
      go_upto_region 16 with (fail)
      clear hb0 HZ_0 hzb HW0
      generalize w0.alloc (Obj.cells #[.bool true, .slice none 0 0, .slice none 0 0, .slice none 0 0, .int .i64 least, .int .i64 most] 37) = w1 at hb1 HG_1 HZ_1 ⊢
      have hGW : W.heap.size < w0.heap.size := by rw [HSZ0.out]; omega
      generalize w0.heap.size = G at HG_1 hGW ⊢
      clear HSZ0
      obtain ⟨z0, z1, z2, z3, z4, z5⟩ := HG_1.out.cells
      have hnil : w1.ownsRow w1.heap.size 2 1 (.slice none 0 0) 0 (intv []) := by simpa [intv] using World.ownsRow_nil _ _ _ _
      have hsi : Si w1 (.slice a2 n2 c2) up := HS2.out.below hb1
      go_upto_region 17 with (at_builtin; refine wpList_app_sr _ rfl _ _ rfl w1.heap.size _ 0 [] rfl hnil rfl _ up rfl hsi (by have := h1.1; have := h2.1; simp <;> omega) (Nat.le_refl _) ?_; intro v9 w2 hr hbel; have hrow : w2.ownsRow w1.heap.size 2 1 v9 up.length (intv up) := (by simpa using hr); obtain ⟨p1, d1, rfl⟩ := own_slice hrow; have HG_2 : Hid _ := HG_1.out.below hbel; have HZ_2 : Hid _ := HZ_1.out.below hbel; have O1_2 : Hid _ := own_base hrow hb1.size; have hb2 := hb1.trans (hbel.mono hb1.size); clear z0 z1 z2 z3 z4 z5 hr hrow hbel; obtain ⟨z0, z1, z2, z3, z4, z5⟩ := HG_2.out.cells; have fz := HG_2.out.frozen 2)
      rw [HG_2.out.setc2]
      clear hnil hsi z0 z1 z2 z3 z4 z5 fz
      have HG_3 : Hid _ := HG_2.out.set (.bool true) (.slice none 0 0) (.slice p1 up.length d1) (.slice none 0 0) (.int .i64 least) (.int .i64 most)
      have HZ_3 : Hid _ := HZ_2.out.other (show W.heap.size ≠ G by omega) #[.bool true, .slice none 0 0, .slice p1 up.length d1, .slice none 0 0, .int .i64 least, .int .i64 most]
      have O1_3 : Hid _ := own_setRow O1_2.out G #[.bool true, .slice none 0 0, .slice p1 up.length d1, .slice none 0 0, .int .i64 least, .int .i64 most] HG_2.out.h
      have hb3 := below_setRow hb2 (show W.heap.size ≤ G by omega) #[.bool true, .slice none 0 0, .slice p1 up.length d1, .slice none 0 0, .int .i64 least, .int .i64 most]
      clear HG_1 HZ_1 HG_2 HZ_2 O1_2 hb1 hb2
      generalize w2.setRow G #[.bool true, .slice none 0 0, .slice p1 up.length d1, .slice none 0 0, .int .i64 least, .int .i64 most] = w3 at HG_3 HZ_3 O1_3 hb3 ⊢
      obtain ⟨z0, z1, z2, z3, z4, z5⟩ := HG_3.out.cells
      have hnil : w3.ownsRow w3.heap.size 2 1 (.slice none 0 0) 0 (intv []) := by simpa [intv] using World.ownsRow_nil _ _ _ _
      have hsi : Si w3 (.slice a2 n2 c2) up := HS2.out.below hb3
      go_upto_region 18 with (at_builtin; refine wpList_app_sr _ rfl _ _ rfl w3.heap.size _ 0 [] rfl hnil rfl _ up rfl hsi (by have := h1.1; have := h2.1; simp <;> omega) (Nat.le_refl _) ?_; intro v9 w4 hr hbel; have hrow : w4.ownsRow w3.heap.size 2 1 v9 up.length (intv up) := (by simpa using hr); obtain ⟨p3, d3, rfl⟩ := own_slice hrow; have HG_4 : Hid _ := HG_3.out.below hbel; have HZ_4 : Hid _ := HZ_3.out.below hbel; have O3_4 : Hid _ := own_base hrow hb3.size; have hb4 := hb3.trans (hbel.mono hb3.size); have O1_4 : Hid _ := own_keepB O1_3.out hbel; clear z0 z1 z2 z3 z4 z5 hr hrow hbel; obtain ⟨z0, z1, z2, z3, z4, z5⟩ := HG_4.out.cells; have fz := HG_4.out.frozen 3)
      rw [HG_4.out.setc3]
      clear hnil hsi z0 z1 z2 z3 z4 z5 fz
      have HG_5 : Hid _ := HG_4.out.set (.bool true) (.slice none 0 0) (.slice p1 up.length d1) (.slice p3 up.length d3) (.int .i64 least) (.int .i64 most)
      have HZ_5 : Hid _ := HZ_4.out.other (show W.heap.size ≠ G by omega) #[.bool true, .slice none 0 0, .slice p1 up.length d1, .slice p3 up.length d3, .int .i64 least, .int .i64 most]
      have O1_5 : Hid _ := own_setRow O1_4.out G #[.bool true, .slice none 0 0, .slice p1 up.length d1, .slice p3 up.length d3, .int .i64 least, .int .i64 most] HG_4.out.h
      have O3_5 : Hid _ := own_setRow O3_4.out G #[.bool true, .slice none 0 0, .slice p1 up.length d1, .slice p3 up.length d3, .int .i64 least, .int .i64 most] HG_4.out.h
      have hb5 := below_setRow hb4 (show W.heap.size ≤ G by omega) #[.bool true, .slice none 0 0, .slice p1 up.length d1, .slice p3 up.length d3, .int .i64 least, .int .i64 most]
      clear HG_3 HZ_3 HG_4 HZ_4 O1_3 O1_4 O3_4 hb3 hb4
      generalize w4.setRow G #[.bool true, .slice none 0 0, .slice p1 up.length d1, .slice p3 up.length d3, .int .i64 least, .int .i64 most] = w5 at HG_5 HZ_5 O1_5 O3_5 hb5 ⊢
      obtain ⟨z0, z1, z2, z3, z4, z5⟩ := HG_5.out.cells
      go_wp2_with (with_reducible refine st37 rfl (.tmp 8) (.tmp 61) rfl W.heap.size _ _ _ _ _ _ (by with_unfolding_all rfl) (by with_unfolding_all rfl) HZ_5.out (six_dom _ _ _ _ _ _ _ _ _ _ _ _) ?_)
      refine ⟨rfl, _, R6.res rfl _ (HZ_5.out.set (.bool true) (.slice none 0 0) (.slice p1 up.length d1) (.slice p3 up.length d3) (.int .i64 least) (.int .i64 most)) rfl, ⟨_, rfl, ?_, below_setRow hb5 (Nat.le_refl _) _⟩⟩
      rw [HD.out]
      exact ⟨_, _, agg6 (by first | rfl | exact HLQ.out.symm | omega) (by first | rfl | exact HMQ.out.symm | omega), rfl, own_setRow O1_5.out _ _ HZ_5.out.h, own_setRow O3_5.out _ _ HZ_5.out.h⟩

set_option maxRecDepth 100000 in
set_option maxHeartbeats 4000000 in
theorem reftight_lo (s1 s2 : Value) (lo up : List Int) (least most : Int) (W : World) (hS1 : Si W s1 lo) (hS2 : Si W s2 up) (h1 : IsSet lo) (h2 : IsSet up) (hs : ∀ x ∈ lo, x ∈ up) (hc : tightD lo up least most = TD lo lo lo.length lo.length ∧ min most up.length = lo.length ∧ least ≤ lo.length ∧ lo.length < up.length) :
    Calls Tryz.prog 76 #[s1, s2, .int .i64 least, .int .i64 most] W fun e w' => ∃ v, e = .returned v ∧ Dv W.heap.size w' v (tightD lo up least most) ∧ Below W.heap.size W w' := by
  have l1 := h1.1
  have l2 := h2.1
  have l12 := set_sub_len h1 h2 hs
  obtain ⟨a1, n1, c1, rfl, HS1, HN1⟩ := si_look hS1
  obtain ⟨a2, n2, c2, rfl, HS2, HN2⟩ := si_look hS2
  rw [HN1.out] at l1 l12 hc
  rw [HN2.out] at l2 l12 hc
  obtain ⟨w0, hW0⟩ : ∃ X, W.alloc (Obj.cells #[.bool false, .slice none 0 0, .slice none 0 0, .slice none 0 0, .int .i64 0, .int .i64 0] 37) = X := ⟨_, rfl⟩
  have HW0 : Hid _ := hW0
  have hb0 : Below W.heap.size W w0 := by rw [← hW0]; exact (Below.refl _ W).alloc (Nat.le_refl _) _
  have HZ_0 : Hid (R6 w0 W.heap.size (.bool false) (.slice none 0 0) (.slice none 0 0) (.slice none 0 0) (.int .i64 0) (.int .i64 0)) := by rw [← hW0]; exact R6.new _ _ _ _ _ _ _
  have HSZ0 : Hid (w0.heap.size = W.heap.size + 1) := by unfold Hid; rw [← hW0]; simp
  have HD : Hid (tightD lo up least most = TD lo lo n1 n1) := hc.1
  have hc2 := hc.2
  clear hW0 hS1 hS2 hs hc
  by_cases hp1 : least < (n1 : Int)
  · by_cases hp2 : (n2 : Int) < most
    · exfalso
      omega
    · have q5 : ¬ most < (n1 : Int) := by omega
      have q7 : ((n1 : Int) == (n2 : Int)) = false := by simp <;> omega
      have q9 : (most == (n1 : Int)) = true := by simp <;> omega
      have q11 : ¬ (n1 : Int) < (n1 : Int) := by omega
      have q13 : ¬ (n1 : Int) < most := by omega
      have HLQ : Hid ((n1 : Int) = (n1 : Int)) := by unfold Hid; omega
      have HMQ : Hid ((n1 : Int) = most) := by unfold Hid; omega
      go_enter Tryz.func76, Tryz.ntmps76
      go_upto_region 1 with (fail)
      rw [HW0.out]
      have hzb := (Below.refl w0.heap.size w0).alloc (Nat.le_refl _) (Obj.cells #[.bool true, .slice none 0 0, .slice none 0 0, .slice none 0 0, .int .i64 (n1 : Int), .int .i64 most] 37)
      have hb1 := hb0.trans (hzb.mono hb0.size)
      have HG_1 : Hid _ := R6.new w0 (.bool true) (.slice none 0 0) (.slice none 0 0) (.slice none 0 0) (.int .i64 (n1 : Int)) (.int .i64 most)
      have HZ_1 : Hid _ := HZ_0.out.below hzb
      go_upto_region 16 with (fail)
      clear hb0 HZ_0 hzb HW0
      generalize w0.alloc (Obj.cells #[.bool true, .slice none 0 0, .slice none 0 0, .slice none 0 0, .int .i64 (n1 : Int), .int .i64 most] 37) = w1 at hb1 HG_1 HZ_1 ⊢
      have hGW : W.heap.size < w0.heap.size := by rw [HSZ0.out]; omega
      generalize w0.heap.size = G at HG_1 hGW ⊢
      clear HSZ0
      obtain ⟨z0, z1, z2, z3, z4, z5⟩ := HG_1.out.cells
      have hnil : w1.ownsRow w1.heap.size 2 1 (.slice none 0 0) 0 (intv []) := by simpa [intv] using World.ownsRow_nil _ _ _ _
      have hsi : Si w1 (.slice a1 n1 c1) lo := HS1.out.below hb1
      go_upto_region 17 with (at_builtin; refine wpList_app_sr _ rfl _ _ rfl w1.heap.size _ 0 [] rfl hnil rfl _ lo rfl hsi (by have := h1.1; have := h2.1; simp <;> omega) (Nat.le_refl _) ?_; intro v9 w2 hr hbel; have hrow : w2.ownsRow w1.heap.size 2 1 v9 lo.length (intv lo) := (by simpa using hr); obtain ⟨p1, d1, rfl⟩ := own_slice hrow; have HG_2 : Hid _ := HG_1.out.below hbel; have HZ_2 : Hid _ := HZ_1.out.below hbel; have O1_2 : Hid _ := own_base hrow hb1.size; have hb2 := hb1.trans (hbel.mono hb1.size); clear z0 z1 z2 z3 z4 z5 hr hrow hbel; obtain ⟨z0, z1, z2, z3, z4, z5⟩ := HG_2.out.cells; have fz := HG_2.out.frozen 2)
      rw [HG_2.out.setc2]
      clear hnil hsi z0 z1 z2 z3 z4 z5 fz
      have HG_3 : Hid _ := HG_2.out.set (.bool true) (.slice none 0 0) (.slice p1 lo.length d1) (.slice none 0 0) (.int .i64 (n1 : Int)) (.int .i64 most)
      have HZ_3 : Hid _ := HZ_2.out.other (show W.heap.size ≠ G by omega) #[.bool true, .slice none 0 0, .slice p1 lo.length d1, .slice none 0 0, .int .i64 (n1 : Int), .int .i64 most]
      have O1_3 : Hid _ := own_setRow O1_2.out G #[.bool true, .slice none 0 0, .slice p1 lo.length d1, .slice none 0 0, .int .i64 (n1 : Int), .int .i64 most] HG_2.out.h
      have hb3 := below_setRow hb2 (show W.heap.size ≤ G by omega) #[.bool true, .slice none 0 0, .slice p1 lo.length d1, .slice none 0 0, .int .i64 (n1 : Int), .int .i64 most]
      clear HG_1 HZ_1 HG_2 HZ_2 O1_2 hb1 hb2
      generalize w2.setRow G #[.bool true, .slice none 0 0, .slice p1 lo.length d1, .slice none 0 0, .int .i64 (n1 : Int), .int .i64 most] = w3 at HG_3 HZ_3 O1_3 hb3 ⊢
      obtain ⟨z0, z1, z2, z3, z4, z5⟩ := HG_3.out.cells
      have hnil : w3.ownsRow w3.heap.size 2 1 (.slice none 0 0) 0 (intv []) := by simpa [intv] using World.ownsRow_nil _ _ _ _
      have hsi : Si w3 (.slice a1 n1 c1) lo := HS1.out.below hb3
      go_upto_region 18 with (at_builtin; refine wpList_app_sr _ rfl _ _ rfl w3.heap.size _ 0 [] rfl hnil rfl _ lo rfl hsi (by have := h1.1; have := h2.1; simp <;> omega) (Nat.le_refl _) ?_; intro v9 w4 hr hbel; have hrow : w4.ownsRow w3.heap.size 2 1 v9 lo.length (intv lo) := (by simpa using hr); obtain ⟨p3, d3, rfl⟩ := own_slice hrow; have HG_4 : Hid _ := HG_3.out.below hbel; have HZ_4 : Hid _ := HZ_3.out.below hbel; have O3_4 : Hid _ := own_base hrow hb3.size; have hb4 := hb3.trans (hbel.mono hb3.size); have O1_4 : Hid _ := own_keepB O1_3.out hbel; clear z0 z1 z2 z3 z4 z5 hr hrow hbel; obtain ⟨z0, z1, z2, z3, z4, z5⟩ := HG_4.out.cells; have fz := HG_4.out.frozen 3)
      rw [HG_4.out.setc3]
      clear hnil hsi z0 z1 z2 z3 z4 z5 fz
      have HG_5 : Hid _ := HG_4.out.set (.bool true) (.slice none 0 0) (.slice p1 lo.length d1) (.slice p3 lo.length d3) (.int .i64 (n1 : Int)) (.int .i64 most)
      have HZ_5 : Hid _ := HZ_4.out.other (show W.heap.size ≠ G by omega) #[.bool true, .slice none 0 0, .slice p1 lo.length d1, .slice p3 lo.length d3, .int .i64 (n1 : Int), .int .i64 most]
      have O1_5 : Hid _ := own_setRow O1_4.out G #[.bool true, .slice none 0 0, .slice p1 lo.length d1, .slice p3 lo.length d3, .int .i64 (n1 : Int), .int .i64 most] HG_4.out.h
      have O3_5 : Hid _ := own_setRow O3_4.out G #[.bool true, .slice none 0 0, .slice p1 lo.length d1, .slice p3 lo.length d3, .int .i64 (n1 : Int), .int .i64 most] HG_4.out.h
      have hb5 := below_setRow hb4 (show W.heap.size ≤ G by omega) #[.bool true, .slice none 0 0, .slice p1 lo.length d1, .slice p3 lo.length d3, .int .i64 (n1 : Int), .int .i64 most]
      clear HG_3 HZ_3 HG_4 HZ_4 O1_3 O1_4 O3_4 hb3 hb4
      generalize w4.setRow G #[.bool true, .slice none 0 0, .slice p1 lo.length d1, .slice p3 lo.length d3, .int .i64 (n1 : Int), .int .i64 most] = w5 at HG_5 HZ_5 O1_5 O3_5 hb5 ⊢
      obtain ⟨z0, z1, z2, z3, z4, z5⟩ := HG_5.out.cells
      go_wp2_with (with_reducible refine st37 rfl (.tmp 8) (.tmp 61) rfl W.heap.size _ _ _ _ _ _ (by with_unfolding_all rfl) (by with_unfolding_all rfl) HZ_5.out (six_dom _ _ _ _ _ _ _ _ _ _ _ _) ?_)
      refine ⟨rfl, _, R6.res rfl _ (HZ_5.out.set (.bool true) (.slice none 0 0) (.slice p1 lo.length d1) (.slice p3 lo.length d3) (.int .i64 (n1 : Int)) (.int .i64 most)) rfl, ⟨_, rfl, ?_, below_setRow hb5 (Nat.le_refl _) _⟩⟩
      rw [HD.out]
      exact ⟨_, _, agg6 (by first | rfl | exact HLQ.out.symm | omega) (by first | rfl | exact HMQ.out.symm | omega), rfl, own_setRow O1_5.out _ _ HZ_5.out.h, own_setRow O3_5.out _ _ HZ_5.out.h⟩
  · by_cases hp2 : (n2 : Int) < most
    · exfalso
      omega
    · have q5 : ¬ most < least := by omega
      have q7 : (least == (n2 : Int)) = false := by simp <;> omega
      have q9 : (most == (n1 : Int)) = true := by simp <;> omega
      have q11 : ¬ least < (n1 : Int) := by omega
      have q13 : ¬ (n1 : Int) < most := by omega
      have HLQ : Hid ((n1 : Int) = least) := by unfold Hid; omega
      have HMQ : Hid ((n1 : Int) = most) := by unfold Hid; omega
      go_enter Tryz.func76, Tryz.ntmps76
      go_upto_region 1 with (fail)
      rw [HW0.out]
      have hzb := (Below.refl w0.heap.size w0).alloc (Nat.le_refl _) (Obj.cells #[.bool true, .slice none 0 0, .slice none 0 0, .slice none 0 0, .int .i64 least, .int .i64 most] 37)
      have hb1 := hb0.trans (hzb.mono hb0.size)
      have HG_1 : Hid _ := R6.new w0 (.bool true) (.slice none 0 0) (.slice none 0 0) (.slice none 0 0) (.int .i64 least) (.int .i64 most)
      have HZ_1 : Hid _ := HZ_0.out.below hzb
      go_upto_region 16 with (fail)
      clear hb0 HZ_0 hzb HW0
      generalize w0.alloc (Obj.cells #[.bool true, .slice none 0 0, .slice none 0 0, .slice none 0 0, .int .i64 least, .int .i64 most] 37) = w1 at hb1 HG_1 HZ_1 ⊢
      have hGW : W.heap.size < w0.heap.size := by rw [HSZ0.out]; omega
      generalize w0.heap.size = G at HG_1 hGW ⊢
      clear HSZ0
      obtain ⟨z0, z1, z2, z3, z4, z5⟩ := HG_1.out.cells
      have hnil : w1.ownsRow w1.heap.size 2 1 (.slice none 0 0) 0 (intv []) := by simpa [intv] using World.ownsRow_nil _ _ _ _
      have hsi : Si w1 (.slice a1 n1 c1) lo := HS1.out.below hb1
      go_upto_region 17 with (at_builtin; refine wpList_app_sr _ rfl _ _ rfl w1.heap.size _ 0 [] rfl hnil rfl _ lo rfl hsi (by have := h1.1; have := h2.1; simp <;> omega) (Nat.le_refl _) ?_; intro v9 w2 hr hbel; have hrow : w2.ownsRow w1.heap.size 2 1 v9 lo.length (intv lo) := (by simpa using hr); obtain ⟨p1, d1, rfl⟩ := own_slice hrow; have HG_2 : Hid _ := HG_1.out.below hbel; have HZ_2 : Hid _ := HZ_1.out.below hbel; have O1_2 : Hid _ := own_base hrow hb1.size; have hb2 := hb1.trans (hbel.mono hb1.size); clear z0 z1 z2 z3 z4 z5 hr hrow hbel; obtain ⟨z0, z1, z2, z3, z4, z5⟩ := HG_2.out.cells; have fz := HG_2.out.frozen 2)
      rw [HG_2.out.setc2]
      clear hnil hsi z0 z1 z2 z3 z4 z5 fz
      have HG_3 : Hid _ := HG_2.out.set (.bool true) (.slice none 0 0) (.slice p1 lo.length d1) (.slice none 0 0) (.int .i64 least) (.int .i64 most)
      have HZ_3 : Hid _ := HZ_2.out.other (show W.heap.size ≠ G by omega) #[.bool true, .slice none 0 0, .slice p1 lo.length d1, .slice none 0 0, .int .i64 least, .int .i64 most]
      have O1_3 : Hid _ := own_setRow O1_2.out G #[.bool true, .slice none 0 0, .slice p1 lo.length d1, .slice none 0 0, .int .i64 least, .int .i64 most] HG_2.out.h
      have hb3 := below_setRow hb2 (show W.heap.size ≤ G by omega) #[.bool true, .slice none 0 0, .slice p1 lo.length d1, .slice none 0 0, .int .i64 least, .int .i64 most]
      clear HG_1 HZ_1 HG_2 HZ_2 O1_2 hb1 hb2
      generalize w2.setRow G #[.bool true, .slice none 0 0, .slice p1 lo.length d1, .slice none 0 0, .int .i64 least, .int .i64 most] = w3 at HG_3 HZ_3 O1_3 hb3 ⊢
      obtain ⟨z0, z1, z2, z3, z4, z5⟩ := HG_3.out.cells
      have hnil : w3.ownsRow w3.heap.size 2 1 (.slice none 0 0) 0 (intv []) := by simpa [intv] using World.ownsRow_nil _ _ _ _
      have hsi : Si w3 (.slice a1 n1 c1) lo := HS1.out.below hb3
      go_upto_region 18 with (at_builtin; refine wpList_app_sr _ rfl _ _ rfl w3.heap.size _ 0 [] rfl hnil rfl _ lo rfl hsi (by have := h1.1; have := h2.1; simp <;> omega) (Nat.le_refl _) ?_; intro v9 w4 hr hbel; have hrow : w4.ownsRow w3.heap.size 2 1 v9 lo.length (intv lo) := (by simpa using hr); obtain ⟨p3, d3, rfl⟩ := own_slice hrow; have HG_4 : Hid _ := HG_3.out.below hbel; have HZ_4 : Hid _ := HZ_3.out.below hbel; have O3_4 : Hid _ := own_base hrow hb3.size; have hb4 := hb3.trans (hbel.mono hb3.size); have O1_4 : Hid _ := own_keepB O1_3.out hbel; clear z0 z1 z2 z3 z4 z5 hr hrow hbel; obtain ⟨z0, z1, z2, z3, z4, z5⟩ := HG_4.out.cells; have fz := HG_4.out.frozen 3)
      rw [HG_4.out.setc3]
      clear hnil hsi z0 z1 z2 z3 z4 z5 fz
      have HG_5 : Hid _ := HG_4.out.set (.bool true) (.slice none 0 0) (.slice p1 lo.length d1) (.slice p3 lo.length d3) (.int .i64 least) (.int .i64 most)
      have HZ_5 : Hid _ := HZ_4.out.other (show W.heap.size ≠ G by omega) #[.bool true, .slice none 0 0, .slice p1 lo.length d1, .slice p3 lo.length d3, .int .i64 least, .int .i64 most]
      have O1_5 : Hid _ := own_setRow O1_4.out G #[.bool true, .slice none 0 0, .slice p1 lo.length d1, .slice p3 lo.length d3, .int .i64 least, .int .i64 most] HG_4.out.h
      have O3_5 : Hid _ := own_setRow O3_4.out G #[.bool true, .slice none 0 0, .slice p1 lo.length d1, .slice p3 lo.length d3, .int .i64 least, .int .i64 most] HG_4.out.h
      have hb5 := below_setRow hb4 (show W.heap.size ≤ G by omega) #[.bool true, .slice none 0 0, .slice p1 lo.length d1, .slice p3 lo.length d3, .int .i64 least, .int .i64 most]
      clear HG_3 HZ_3 HG_4 HZ_4 O1_3 O1_4 O3_4 hb3 hb4
      generalize w4.setRow G #[.bool true, .slice none 0 0, .slice p1 lo.length d1, .slice p3 lo.length d3, .int .i64 least, .int .i64 most] = w5 at HG_5 HZ_5 O1_5 O3_5 hb5 ⊢
      obtain ⟨z0, z1, z2, z3, z4, z5⟩ := HG_5.out.cells
      go_wp2_with (with_reducible refine st37 rfl (.tmp 8) (.tmp 61) rfl W.heap.size _ _ _ _ _ _ (by with_unfolding_all rfl) (by with_unfolding_all rfl) HZ_5.out (six_dom _ _ _ _ _ _ _ _ _ _ _ _) ?_)
      refine ⟨rfl, _, R6.res rfl _ (HZ_5.out.set (.bool true) (.slice none 0 0) (.slice p1 lo.length d1) (.slice p3 lo.length d3) (.int .i64 least) (.int .i64 most)) rfl, ⟨_, rfl, ?_, below_setRow hb5 (Nat.le_refl _) _⟩⟩
      rw [HD.out]
      exact ⟨_, _, agg6 (by first | rfl | exact HLQ.out.symm | omega) (by first | rfl | exact HMQ.out.symm | omega), rfl, own_setRow O1_5.out _ _ HZ_5.out.h, own_setRow O3_5.out _ _ HZ_5.out.h⟩

set_option maxRecDepth 100000 in
set_option maxHeartbeats 4000000 in
theorem reftight_mid (s1 s2 : Value) (lo up : List Int) (least most : Int) (W : World) (hS1 : Si W s1 lo) (hS2 : Si W s2 up) (h1 : IsSet lo) (h2 : IsSet up) (hs : ∀ x ∈ lo, x ∈ up) (hc : tightD lo up least most = TD lo up (max least lo.length) (min most up.length) ∧ max least lo.length ≤ min most up.length ∧ lo.length < up.length ∧ ¬ max least lo.length = up.length ∧ ¬ min most up.length = lo.length) :
    Calls Tryz.prog 76 #[s1, s2, .int .i64 least, .int .i64 most] W fun e w' => ∃ v, e = .returned v ∧ Dv W.heap.size w' v (tightD lo up least most) ∧ Below W.heap.size W w' := by
  have l1 := h1.1
  have l2 := h2.1
  have l12 := set_sub_len h1 h2 hs
  obtain ⟨a1, n1, c1, rfl, HS1, HN1⟩ := si_look hS1
  obtain ⟨a2, n2, c2, rfl, HS2, HN2⟩ := si_look hS2
  rw [HN1.out] at l1 l12 hc
  rw [HN2.out] at l2 l12 hc
  obtain ⟨w0, hW0⟩ : ∃ X, W.alloc (Obj.cells #[.bool false, .slice none 0 0, .slice none 0 0, .slice none 0 0, .int .i64 0, .int .i64 0] 37) = X := ⟨_, rfl⟩
  have HW0 : Hid _ := hW0
  have hb0 : Below W.heap.size W w0 := by rw [← hW0]; exact (Below.refl _ W).alloc (Nat.le_refl _) _
  have HZ_0 : Hid (R6 w0 W.heap.size (.bool false) (.slice none 0 0) (.slice none 0 0) (.slice none 0 0) (.int .i64 0) (.int .i64 0)) := by rw [← hW0]; exact R6.new _ _ _ _ _ _ _
  have HSZ0 : Hid (w0.heap.size = W.heap.size + 1) := by unfold Hid; rw [← hW0]; simp
  have HD : Hid (tightD lo up least most = TD lo up (max least n1) (min most n2)) := hc.1
  have hc2 := hc.2
  clear hW0 hS1 hS2 hs hc
  by_cases hp1 : least < (n1 : Int)
  · by_cases hp2 : (n2 : Int) < most
    · have q5 : ¬ (n2 : Int) < (n1 : Int) := by omega
      have q7 : ((n1 : Int) == (n2 : Int)) = false := by simp <;> omega
      have q9 : ((n2 : Int) == (n1 : Int)) = false := by simp <;> omega
      have q11 : ¬ (n1 : Int) < (n1 : Int) := by omega
      have q13 : ¬ (n2 : Int) < (n2 : Int) := by omega
      have HLQ : Hid (max least (n1 : Int) = (n1 : Int)) := by unfold Hid; omega
      have HMQ : Hid (min most (n2 : Int) = (n2 : Int)) := by unfold Hid; omega
      go_enter Tryz.func76, Tryz.ntmps76
      go_upto_region 1 with (fail)
      rw [HW0.out]
      have hzb := (Below.refl w0.heap.size w0).alloc (Nat.le_refl _) (Obj.cells #[.bool true, .slice none 0 0, .slice none 0 0, .slice none 0 0, .int .i64 (n1 : Int), .int .i64 (n2 : Int)] 37)
      have hb1 := hb0.trans (hzb.mono hb0.size)
      have HG_1 : Hid _ := R6.new w0 (.bool true) (.slice none 0 0) (.slice none 0 0) (.slice none 0 0) (.int .i64 (n1 : Int)) (.int .i64 (n2 : Int))
      have HZ_1 : Hid _ := HZ_0.out.below hzb
      go_upto_region 16 with (fail)
      clear hb0 HZ_0 hzb HW0
      generalize w0.alloc (Obj.cells #[.bool true, .slice none 0 0, .slice none 0 0, .slice none 0 0, .int .i64 (n1 : Int), .int .i64 (n2 : Int)] 37) = w1 at hb1 HG_1 HZ_1 ⊢
      have hGW : W.heap.size < w0.heap.size := by rw [HSZ0.out]; omega
      generalize w0.heap.size = G at HG_1 hGW ⊢
      clear HSZ0
      obtain ⟨z0, z1, z2, z3, z4, z5⟩ := HG_1.out.cells
      have hnil : w1.ownsRow w1.heap.size 2 1 (.slice none 0 0) 0 (intv []) := by simpa [intv] using World.ownsRow_nil _ _ _ _
      have hsi : Si w1 (.slice a1 n1 c1) lo := HS1.out.below hb1
      go_upto_region 17 with (at_builtin; refine wpList_app_sr _ rfl _ _ rfl w1.heap.size _ 0 [] rfl hnil rfl _ lo rfl hsi (by have := h1.1; have := h2.1; simp <;> omega) (Nat.le_refl _) ?_; intro v9 w2 hr hbel; have hrow : w2.ownsRow w1.heap.size 2 1 v9 lo.length (intv lo) := (by simpa using hr); obtain ⟨p1, d1, rfl⟩ := own_slice hrow; have HG_2 : Hid _ := HG_1.out.below hbel; have HZ_2 : Hid _ := HZ_1.out.below hbel; have O1_2 : Hid _ := own_base hrow hb1.size; have hb2 := hb1.trans (hbel.mono hb1.size); clear z0 z1 z2 z3 z4 z5 hr hrow hbel; obtain ⟨z0, z1, z2, z3, z4, z5⟩ := HG_2.out.cells; have fz := HG_2.out.frozen 2)
      rw [HG_2.out.setc2]
      clear hnil hsi z0 z1 z2 z3 z4 z5 fz
      have HG_3 : Hid _ := HG_2.out.set (.bool true) (.slice none 0 0) (.slice p1 lo.length d1) (.slice none 0 0) (.int .i64 (n1 : Int)) (.int .i64 (n2 : Int))
      have HZ_3 : Hid _ := HZ_2.out.other (show W.heap.size ≠ G by omega) #[.bool true, .slice none 0 0, .slice p1 lo.length d1, .slice none 0 0, .int .i64 (n1 : Int), .int .i64 (n2 : Int)]
      have O1_3 : Hid _ := own_setRow O1_2.out G #[.bool true, .slice none 0 0, .slice p1 lo.length d1, .slice none 0 0, .int .i64 (n1 : Int), .int .i64 (n2 : Int)] HG_2.out.h
      have hb3 := below_setRow hb2 (show W.heap.size ≤ G by omega) #[.bool true, .slice none 0 0, .slice p1 lo.length d1, .slice none 0 0, .int .i64 (n1 : Int), .int .i64 (n2 : Int)]
      clear HG_1 HZ_1 HG_2 HZ_2 O1_2 hb1 hb2
      generalize w2.setRow G #[.bool true, .slice none 0 0, .slice p1 lo.length d1, .slice none 0 0, .int .i64 (n1 : Int), .int .i64 (n2 : Int)] = w3 at HG_3 HZ_3 O1_3 hb3 ⊢
      obtain ⟨z0, z1, z2, z3, z4, z5⟩ := HG_3.out.cells
      have hnil : w3.ownsRow w3.heap.size 2 1 (.slice none 0 0) 0 (intv []) := by simpa [intv] using World.ownsRow_nil _ _ _ _
      have hsi : Si w3 (.slice a2 n2 c2) up := HS2.out.below hb3
      go_upto_region 18 with (at_builtin; refine wpList_app_sr _ rfl _ _ rfl w3.heap.size _ 0 [] rfl hnil rfl _ up rfl hsi (by have := h1.1; have := h2.1; simp <;> omega) (Nat.le_refl _) ?_; intro v9 w4 hr hbel; have hrow : w4.ownsRow w3.heap.size 2 1 v9 up.length (intv up) := (by simpa using hr); obtain ⟨p3, d3, rfl⟩ := own_slice hrow; have HG_4 : Hid _ := HG_3.out.below hbel; have HZ_4 : Hid _ := HZ_3.out.below hbel; have O3_4 : Hid _ := own_base hrow hb3.size; have hb4 := hb3.trans (hbel.mono hb3.size); have O1_4 : Hid _ := own_keepB O1_3.out hbel; clear z0 z1 z2 z3 z4 z5 hr hrow hbel; obtain ⟨z0, z1, z2, z3, z4, z5⟩ := HG_4.out.cells; have fz := HG_4.out.frozen 3)
      rw [HG_4.out.setc3]
      clear hnil hsi z0 z1 z2 z3 z4 z5 fz
      have HG_5 : Hid _ := HG_4.out.set (.bool true) (.slice none 0 0) (.slice p1 lo.length d1) (.slice p3 up.length d3) (.int .i64 (n1 : Int)) (.int .i64 (n2 : Int))
      have HZ_5 : Hid _ := HZ_4.out.other (show W.heap.size ≠ G by omega) #[.bool true, .slice none 0 0, .slice p1 lo.length d1, .slice p3 up.length d3, .int .i64 (n1 : Int), .int .i64 (n2 : Int)]
      have O1_5 : Hid _ := own_setRow O1_4.out G #[.bool true, .slice none 0 0, .slice p1 lo.length d1, .slice p3 up.length d3, .int .i64 (n1 : Int), .int .i64 (n2 : Int)] HG_4.out.h
      have O3_5 : Hid _ := own_setRow O3_4.out G #[.bool true, .slice none 0 0, .slice p1 lo.length d1, .slice p3 up.length d3, .int .i64 (n1 : Int), .int .i64 (n2 : Int)] HG_4.out.h
      have hb5 := below_setRow hb4 (show W.heap.size ≤ G by omega) #[.bool true, .slice none 0 0, .slice p1 lo.length d1, .slice p3 up.length d3, .int .i64 (n1 : Int), .int .i64 (n2 : Int)]
      clear HG_3 HZ_3 HG_4 HZ_4 O1_3 O1_4 O3_4 hb3 hb4
      generalize w4.setRow G #[.bool true, .slice none 0 0, .slice p1 lo.length d1, .slice p3 up.length d3, .int .i64 (n1 : Int), .int .i64 (n2 : Int)] = w5 at HG_5 HZ_5 O1_5 O3_5 hb5 ⊢
      obtain ⟨z0, z1, z2, z3, z4, z5⟩ := HG_5.out.cells
      go_wp2_with (with_reducible refine st37 rfl (.tmp 8) (.tmp 61) rfl W.heap.size _ _ _ _ _ _ (by with_unfolding_all rfl) (by with_unfolding_all rfl) HZ_5.out (six_dom _ _ _ _ _ _ _ _ _ _ _ _) ?_)
      refine ⟨rfl, _, R6.res rfl _ (HZ_5.out.set (.bool true) (.slice none 0 0) (.slice p1 lo.length d1) (.slice p3 up.length d3) (.int .i64 (n1 : Int)) (.int .i64 (n2 : Int))) rfl, ⟨_, rfl, ?_, below_setRow hb5 (Nat.le_refl _) _⟩⟩
      rw [HD.out]
      exact ⟨_, _, agg6 (by first | rfl | exact HLQ.out.symm | omega) (by first | rfl | exact HMQ.out.symm | omega), rfl, own_setRow O1_5.out _ _ HZ_5.out.h, own_setRow O3_5.out _ _ HZ_5.out.h⟩
    · have q5 : ¬ most < (n1 : Int) := by omega
      have q7 : ((n1 : Int) == (n2 : Int)) = false := by simp <;> omega
      have q9 : (most == (n1 : Int)) = false := by simp <;> omega
      have q11 : ¬ (n1 : Int) < (n1 : Int) := by omega
      have q13 : ¬ (n2 : Int) < most := by omega
      have HLQ : Hid (max least (n1 : Int) = (n1 : Int)) := by unfold Hid; omega
      have HMQ : Hid (min most (n2 : Int) = most) := by unfold Hid; omega
      go_enter Tryz.func76, Tryz.ntmps76
      go_upto_region 1 with (fail)
      rw [HW0.out]
      have hzb := (Below.refl w0.heap.size w0).alloc (Nat.le_refl _) (Obj.cells #[.bool true, .slice none 0 0, .slice none 0 0, .slice none 0 0, .int .i64 (n1 : Int), .int .i64 most] 37)
      have hb1 := hb0.trans (hzb.mono hb0.size)
      have HG_1 : Hid _ := R6.new w0 (.bool true) (.slice none 0 0) (.slice none 0 0) (.slice none 0 0) (.int .i64 (n1 : Int)) (.int .i64 most)
      have HZ_1 : Hid _ := HZ_0.out.below hzb
      go_upto_region 16 with (fail)
      clear hb0 HZ_0 hzb HW0
      generalize w0.alloc (Obj.cells #[.bool true, .slice none 0 0, .slice none 0 0, .slice none 0 0, .int .i64 (n1 : Int), .int .i64 most] 37) = w1 at hb1 HG_1 HZ_1 ⊢
      have hGW : W.heap.size < w0.heap.size := by rw [HSZ0.out]; omega
      generalize w0.heap.size = G at HG_1 hGW ⊢
      clear HSZ0
      obtain ⟨z0, z1, z2, z3, z4, z5⟩ := HG_1.out.cells
      have hnil : w1.ownsRow w1.heap.size 2 1 (.slice none 0 0) 0 (intv []) := by simpa [intv] using World.ownsRow_nil _ _ _ _
      have hsi : Si w1 (.slice a1 n1 c1) lo := HS1.out.below hb1
      go_upto_region 17 with (at_builtin; refine wpList_app_sr _ rfl _ _ rfl w1.heap.size _ 0 [] rfl hnil rfl _ lo rfl hsi (by have := h1.1; have := h2.1; simp <;> omega) (Nat.le_refl _) ?_; intro v9 w2 hr hbel; have hrow : w2.ownsRow w1.heap.size 2 1 v9 lo.length (intv lo) := (by simpa using hr); obtain ⟨p1, d1, rfl⟩ := own_slice hrow; have HG_2 : Hid _ := HG_1.out.below hbel; have HZ_2 : Hid _ := HZ_1.out.below hbel; have O1_2 : Hid _ := own_base hrow hb1.size; have hb2 := hb1.trans (hbel.mono hb1.size); clear z0 z1 z2 z3 z4 z5 hr hrow hbel; obtain ⟨z0, z1, z2, z3, z4, z5⟩ := HG_2.out.cells; have fz := HG_2.out.frozen 2)
      rw [HG_2.out.setc2]
      clear hnil hsi z0 z1 z2 z3 z4 z5 fz
      have HG_3 : Hid _ := HG_2.out.set (.bool true) (.slice none 0 0) (.slice p1 lo.length d1) (.slice none 0 0) (.int .i64 (n1 : Int)) (.int .i64 most)
      have HZ_3 : Hid _ := HZ_2.out.other (show W.heap.size ≠ G by omega) #[.bool true, .slice none 0 0, .slice p1 lo.length d1, .slice none 0 0, .int .i64 (n1 : Int), .int .i64 most]
      have O1_3 : Hid _ := own_setRow O1_2.out G #[.bool true, .slice none 0 0, .slice p1 lo.length d1, .slice none 0 0, .int .i64 (n1 : Int), .int .i64 most] HG_2.out.h
      have hb3 := below_setRow hb2 (show W.heap.size ≤ G by omega) #[.bool true, .slice none 0 0, .slice p1 lo.length d1, .slice none 0 0, .int .i64 (n1 : Int), .int .i64 most]
      clear HG_1 HZ_1 HG_2 HZ_2 O1_2 hb1 hb2
      generalize w2.setRow G #[.bool true, .slice none 0 0, .slice p1 lo.length d1, .slice none 0 0, .int .i64 (n1 : Int), .int .i64 most] = w3 at HG_3 HZ_3 O1_3 hb3 ⊢
      obtain ⟨z0, z1, z2, z3, z4, z5⟩ := HG_3.out.cells
      have hnil : w3.ownsRow w3.heap.size 2 1 (.slice none 0 0) 0 (intv []) := by simpa [intv] using World.ownsRow_nil _ _ _ _
      have hsi : Si w3 (.slice a2 n2 c2) up := HS2.out.below hb3
      go_upto_region 18 with (at_builtin; refine wpList_app_sr _ rfl _ _ rfl w3.heap.size _ 0 [] rfl hnil rfl _ up rfl hsi (by have := h1.1; have := h2.1; simp <;> omega) (Nat.le_refl _) ?_; intro v9 w4 hr hbel; have hrow : w4.ownsRow w3.heap.size 2 1 v9 up.length (intv up) := (by simpa using hr); obtain ⟨p3, d3, rfl⟩ := own_slice hrow; have HG_4 : Hid _ := HG_3.out.below hbel; have HZ_4 : Hid _ := HZ_3.out.below hbel; have O3_4 : Hid _ := own_base hrow hb3.size; have hb4 := hb3.trans (hbel.mono hb3.size); have O1_4 : Hid _ := own_keepB O1_3.out hbel; clear z0 z1 z2 z3 z4 z5 hr hrow hbel; obtain ⟨z0, z1, z2, z3, z4, z5⟩ := HG_4.out.cells; have fz := HG_4.out.frozen 3)
      rw [HG_4.out.setc3]
      clear hnil hsi z0 z1 z2 z3 z4 z5 fz
      have HG_5 : Hid _ := HG_4.out.set (.bool true) (.slice none 0 0) (.slice p1 lo.length d1) (.slice p3 up.length d3) (.int .i64 (n1 : Int)) (.int .i64 most)
      have HZ_5 : Hid _ := HZ_4.out.other (show W.heap.size ≠ G by omega) #[.bool true, .slice none 0 0, .slice p1 lo.length d1, .slice p3 up.length d3, .int .i64 (n1 : Int), .int .i64 most]
      have O1_5 : Hid _ := own_setRow O1_4.out G #[.bool true, .slice none 0 0, .slice p1 lo.length d1, .slice p3 up.length d3, .int .i64 (n1 : Int), .int .i64 most] HG_4.out.h
      have O3_5 : Hid _ := own_setRow O3_4.out G #[.bool true, .slice none 0 0, .slice p1 lo.length d1, .slice p3 up.length d3, .int .i64 (n1 : Int), .int .i64 most] HG_4.out.h
      have hb5 := below_setRow hb4 (show W.heap.size ≤ G by omega) #[.bool true, .slice none 0 0, .slice p1 lo.length d1, .slice p3 up.length d3, .int .i64 (n1 : Int), .int .i64 most]
      clear HG_3 HZ_3 HG_4 HZ_4 O1_3 O1_4 O3_4 hb3 hb4
      generalize w4.setRow G #[.bool true, .slice none 0 0, .slice p1 lo.length d1, .slice p3 up.length d3, .int .i64 (n1 : Int), .int .i64 most] = w5 at HG_5 HZ_5 O1_5 O3_5 hb5 ⊢
      obtain ⟨z0, z1, z2, z3, z4, z5⟩ := HG_5.out.cells
      go_wp2_with (with_reducible refine st37 rfl (.tmp 8) (.tmp 61) rfl W.heap.size _ _ _ _ _ _ (by with_unfolding_all rfl) (by with_unfolding_all rfl) HZ_5.out (six_dom _ _ _ _ _ _ _ _ _ _ _ _) ?_)
      refine ⟨rfl, _, R6.res rfl _ (HZ_5.out.set (.bool true) (.slice none 0 0) (.slice p1 lo.length d1) (.slice p3 up.length d3) (.int .i64 (n1 : Int)) (.int .i64 most)) rfl, ⟨_, rfl, ?_, below_setRow hb5 (Nat.le_refl _) _⟩⟩
      rw [HD.out]
      exact ⟨_, _, agg6 (by first | rfl | exact HLQ.out.symm | omega) (by first | rfl | exact HMQ.out.symm | omega), rfl, own_setRow O1_5.out _ _ HZ_5.out.h, own_setRow O3_5.out _ _ HZ_5.out.h⟩
  · by_cases hp2 : (n2 : Int) < most
    · have q5 : ¬ (n2 : Int) < least := by omega
      have q7 : (least == (n2 : Int)) = false := by simp <;> omega
      have q9 : ((n2 : Int) == (n1 : Int)) = false := by simp <;> omega
      have q11 : ¬ least < (n1 : Int) := by omega
      have q13 : ¬ (n2 : Int) < (n2 : Int) := by omega
      have HLQ : Hid (max least (n1 : Int) = least) := by unfold Hid; omega
      have HMQ : Hid (min most (n2 : Int) = (n2 : Int)) := by unfold Hid; omega
      go_enter Tryz.func76, Tryz.ntmps76
      go_upto_region 1 with (fail)
      rw [HW0.out]
      have hzb := (Below.refl w0.heap.size w0).alloc (Nat.le_refl _) (Obj.cells #[.bool true, .slice none 0 0, .slice none 0 0, .slice none 0 0, .int .i64 least, .int .i64 (n2 : Int)] 37)
      have hb1 := hb0.trans (hzb.mono hb0.size)
      have HG_1 : Hid _ := R6.new w0 (.bool true) (.slice none 0 0) (.slice none 0 0) (.slice none 0 0) (.int .i64 least) (.int .i64 (n2 : Int))
      have HZ_1 : Hid _ := HZ_0.out.below hzb
      go_upto_region 16 with (fail)
      clear hb0 HZ_0 hzb HW0
      generalize w0.alloc (Obj.cells #[.bool true, .slice none 0 0, .slice none 0 0, .slice none 0 0, .int .i64 least, .int .i64 (n2 : Int)] 37) = w1 at hb1 HG_1 HZ_1 ⊢
      have hGW : W.heap.size < w0.heap.size := by rw [HSZ0.out]; omega
      generalize w0.heap.size = G at HG_1 hGW ⊢
      clear HSZ0
      obtain ⟨z0, z1, z2, z3, z4, z5⟩ := HG_1.out.cells
      have hnil : w1.ownsRow w1.heap.size 2 1 (.slice none 0 0) 0 (intv []) := by simpa [intv] using World.ownsRow_nil _ _ _ _
      have hsi : Si w1 (.slice a1 n1 c1) lo := HS1.out.below hb1
      go_upto_region 17 with (at_builtin; refine wpList_app_sr _ rfl _ _ rfl w1.heap.size _ 0 [] rfl hnil rfl _ lo rfl hsi (by have := h1.1; have := h2.1; simp <;> omega) (Nat.le_refl _) ?_; intro v9 w2 hr hbel; have hrow : w2.ownsRow w1.heap.size 2 1 v9 lo.length (intv lo) := (by simpa using hr); obtain ⟨p1, d1, rfl⟩ := own_slice hrow; have HG_2 : Hid _ := HG_1.out.below hbel; have HZ_2 : Hid _ := HZ_1.out.below hbel; have O1_2 : Hid _ := own_base hrow hb1.size; have hb2 := hb1.trans (hbel.mono hb1.size); clear z0 z1 z2 z3 z4 z5 hr hrow hbel; obtain ⟨z0, z1, z2, z3, z4, z5⟩ := HG_2.out.cells; have fz := HG_2.out.frozen 2)
      rw [HG_2.out.setc2]
      clear hnil hsi z0 z1 z2 z3 z4 z5 fz
      have HG_3 : Hid _ := HG_2.out.set (.bool true) (.slice none 0 0) (.slice p1 lo.length d1) (.slice none 0 0) (.int .i64 least) (.int .i64 (n2 : Int))
      have HZ_3 : Hid _ := HZ_2.out.other (show W.heap.size ≠ G by omega) #[.bool true, .slice none 0 0, .slice p1 lo.length d1, .slice none 0 0, .int .i64 least, .int .i64 (n2 : Int)]
      have O1_3 : Hid _ := own_setRow O1_2.out G #[.bool true, .slice none 0 0, .slice p1 lo.length d1, .slice none 0 0, .int .i64 least, .int .i64 (n2 : Int)] HG_2.out.h
      have hb3 := below_setRow hb2 (show W.heap.size ≤ G by omega) #[.bool true, .slice none 0 0, .slice p1 lo.length d1, .slice none 0 0, .int .i64 least, .int .i64 (n2 : Int)]
      clear HG_1 HZ_1 HG_2 HZ_2 O1_2 hb1 hb2
      generalize w2.setRow G #[.bool true, .slice none 0 0, .slice p1 lo.length d1, .slice none 0 0, .int .i64 least, .int .i64 (n2 : Int)] = w3 at HG_3 HZ_3 O1_3 hb3 ⊢
      obtain ⟨z0, z1, z2, z3, z4, z5⟩ := HG_3.out.cells
      have hnil : w3.ownsRow w3.heap.size 2 1 (.slice none 0 0) 0 (intv []) := by simpa [intv] using World.ownsRow_nil _ _ _ _
      have hsi : Si w3 (.slice a2 n2 c2) up := HS2.out.below hb3
      go_upto_region 18 with (at_builtin; refine wpList_app_sr _ rfl _ _ rfl w3.heap.size _ 0 [] rfl hnil rfl _ up rfl hsi (by have := h1.1; have := h2.1; simp <;> omega) (Nat.le_refl _) ?_; intro v9 w4 hr hbel; have hrow : w4.ownsRow w3.heap.size 2 1 v9 up.length (intv up) := (by simpa using hr); obtain ⟨p3, d3, rfl⟩ := own_slice hrow; have HG_4 : Hid _ := HG_3.out.below hbel; have HZ_4 : Hid _ := HZ_3.out.below hbel; have O3_4 : Hid _ := own_base hrow hb3.size; have hb4 := hb3.trans (hbel.mono hb3.size); have O1_4 : Hid _ := own_keepB O1_3.out hbel; clear z0 z1 z2 z3 z4 z5 hr hrow hbel; obtain ⟨z0, z1, z2, z3, z4, z5⟩ := HG_4.out.cells; have fz := HG_4.out.frozen 3)
      rw [HG_4.out.setc3]
      clear hnil hsi z0 z1 z2 z3 z4 z5 fz
      have HG_5 : Hid _ := HG_4.out.set (.bool true) (.slice none 0 0) (.slice p1 lo.length d1) (.slice p3 up.length d3) (.int .i64 least) (.int .i64 (n2 : Int))
      have HZ_5 : Hid _ := HZ_4.out.other (show W.heap.size ≠ G by omega) #[.bool true, .slice none 0 0, .slice p1 lo.length d1, .slice p3 up.length d3, .int .i64 least, .int .i64 (n2 : Int)]
      have O1_5 : Hid _ := own_setRow O1_4.out G #[.bool true, .slice none 0 0, .slice p1 lo.length d1, .slice p3 up.length d3, .int .i64 least, .int .i64 (n2 : Int)] HG_4.out.h
      have O3_5 : Hid _ := own_setRow O3_4.out G #[.bool true, .slice none 0 0, .slice p1 lo.length d1, .slice p3 up.length d3, .int .i64 least, .int .i64 (n2 : Int)] HG_4.out.h
      have hb5 := below_setRow hb4 (show W.heap.size ≤ G by omega) #[.bool true, .slice none 0 0, .slice p1 lo.length d1, .slice p3 up.length d3, .int .i64 least, .int .i64 (n2 : Int)]
      clear HG_3 HZ_3 HG_4 HZ_4 O1_3 O1_4 O3_4 hb3 hb4
      generalize w4.setRow G #[.bool true, .slice none 0 0, .slice p1 lo.length d1, .slice p3 up.length d3, .int .i64 least, .int .i64 (n2 : Int)] = w5 at HG_5 HZ_5 O1_5 O3_5 hb5 ⊢
      obtain ⟨z0, z1, z2, z3, z4, z5⟩ := HG_5.out.cells
      go_wp2_with (with_reducible refine st37 rfl (.tmp 8) (.tmp 61) rfl W.heap.size _ _ _ _ _ _ (by with_unfolding_all rfl) (by with_unfolding_all rfl) HZ_5.out (six_dom _ _ _ _ _ _ _ _ _ _ _ _) ?_)
      refine ⟨rfl, _, R6.res rfl _ (HZ_5.out.set (.bool true) (.slice none 0 0) (.slice p1 lo.length d1) (.slice p3 up.length d3) (.int .i64 least) (.int .i64 (n2 : Int))) rfl, ⟨_, rfl, ?_, below_setRow hb5 (Nat.le_refl _) _⟩⟩
      rw [HD.out]
      exact ⟨_, _, agg6 (by first | rfl | exact HLQ.out.symm | omega) (by first | rfl | exact HMQ.out.symm | omega), rfl, own_setRow O1_5.out _ _ HZ_5.out.h, own_setRow O3_5.out _ _ HZ_5.out.h⟩
    · have q5 : ¬ most < least := by omega
      have q7 : (least == (n2 : Int)) = false := by simp <;> omega
      have q9 : (most == (n1 : Int)) = false := by simp <;> omega
      have q11 : ¬ least < (n1 : Int) := by omega
      have q13 : ¬ (n2 : Int) < most := by omega
      have HLQ : Hid (max least (n1 : Int) = least) := by unfold Hid; omega
      have HMQ : Hid (min most (n2 : Int) = most) := by unfold Hid; omega
      go_enter Tryz.func76, Tryz.ntmps76
      go_upto_region 1 with (fail)
      rw [HW0.out]
      have hzb := (Below.refl w0.heap.size w0).alloc (Nat.le_refl _) (Obj.cells #[.bool true, .slice none 0 0, .slice none 0 0, .slice none 0 0, .int .i64 least, .int .i64 most] 37)
      have hb1 := hb0.trans (hzb.mono hb0.size)
      have HG_1 : Hid _ := R6.new w0 (.bool true) (.slice none 0 0) (.slice none 0 0) (.slice none 0 0) (.int .i64 least) (.int .i64 most)
      have HZ_1 : Hid _ := HZ_0.out.below hzb
      go_upto_region 16 with (fail)
      clear hb0 HZ_0 hzb HW0
      generalize w0.alloc (Obj.cells #[.bool true, .slice none 0 0, .slice none 0 0, .slice none 0 0, .int .i64 least, .int .i64 most] 37) = w1 at hb1 HG_1 HZ_1 ⊢
      have hGW : W.heap.size < w0.heap.size := by rw [HSZ0.out]; omega
      generalize w0.heap.size = G at HG_1 hGW ⊢
      clear HSZ0
      obtain ⟨z0, z1, z2, z3, z4, z5⟩ := HG_1.out.cells
      have hnil : w1.ownsRow w1.heap.size 2 1 (.slice none 0 0) 0 (intv []) := by simpa [intv] using World.ownsRow_nil _ _ _ _
      have hsi : Si w1 (.slice a1 n1 c1) lo := HS1.out.below hb1
      go_upto_region 17 with (at_builtin; refine wpList_app_sr _ rfl _ _ rfl w1.heap.size _ 0 [] rfl hnil rfl _ lo rfl hsi (by have := h1.1; have := h2.1; simp <;> omega) (Nat.le_refl _) ?_; intro v9 w2 hr hbel; have hrow : w2.ownsRow w1.heap.size 2 1 v9 lo.length (intv lo) := (by simpa using hr); obtain ⟨p1, d1, rfl⟩ := own_slice hrow; have HG_2 : Hid _ := HG_1.out.below hbel; have HZ_2 : Hid _ := HZ_1.out.below hbel; have O1_2 : Hid _ := own_base hrow hb1.size; have hb2 := hb1.trans (hbel.mono hb1.size); clear z0 z1 z2 z3 z4 z5 hr hrow hbel; obtain ⟨z0, z1, z2, z3, z4, z5⟩ := HG_2.out.cells; have fz := HG_2.out.frozen 2)
      rw [HG_2.out.setc2]
      clear hnil hsi z0 z1 z2 z3 z4 z5 fz
      have HG_3 : Hid _ := HG_2.out.set (.bool true) (.slice none 0 0) (.slice p1 lo.length d1) (.slice none 0 0) (.int .i64 least) (.int .i64 most)
      have HZ_3 : Hid _ := HZ_2.out.other (show W.heap.size ≠ G by omega) #[.bool true, .slice none 0 0, .slice p1 lo.length d1, .slice none 0 0, .int .i64 least, .int .i64 most]
      have O1_3 : Hid _ := own_setRow O1_2.out G #[.bool true, .slice none 0 0, .slice p1 lo.length d1, .slice none 0 0, .int .i64 least, .int .i64 most] HG_2.out.h
      have hb3 := below_setRow hb2 (show W.heap.size ≤ G by omega) #[.bool true, .slice none 0 0, .slice p1 lo.length d1, .slice none 0 0, .int .i64 least, .int .i64 most]
      clear HG_1 HZ_1 HG_2 HZ_2 O1_2 hb1 hb2
      generalize w2.setRow G #[.bool true, .slice none 0 0, .slice p1 lo.length d1, .slice none 0 0, .int .i64 least, .int .i64 most] = w3 at HG_3 HZ_3 O1_3 hb3 ⊢
      obtain ⟨z0, z1, z2, z3, z4, z5⟩ := HG_3.out.cells
      have hnil : w3.ownsRow w3.heap.size 2 1 (.slice none 0 0) 0 (intv []) := by simpa [intv] using World.ownsRow_nil _ _ _ _
      have hsi : Si w3 (.slice a2 n2 c2) up := HS2.out.below hb3
      go_upto_region 18 with (at_builtin; refine wpList_app_sr _ rfl _ _ rfl w3.heap.size _ 0 [] rfl hnil rfl _ up rfl hsi (by have := h1.1; have := h2.1; simp <;> omega) (Nat.le_refl _) ?_; intro v9 w4 hr hbel; have hrow : w4.ownsRow w3.heap.size 2 1 v9 up.length (intv up) := (by simpa using hr); obtain ⟨p3, d3, rfl⟩ := own_slice hrow; have HG_4 : Hid _ := HG_3.out.below hbel; have HZ_4 : Hid _ := HZ_3.out.below hbel; have O3_4 : Hid _ := own_base hrow hb3.size; have hb4 := hb3.trans (hbel.mono hb3.size); have O1_4 : Hid _ := own_keepB O1_3.out hbel; clear z0 z1 z2 z3 z4 z5 hr hrow hbel; obtain ⟨z0, z1, z2, z3, z4, z5⟩ := HG_4.out.cells; have fz := HG_4.out.frozen 3)
      rw [HG_4.out.setc3]
      clear hnil hsi z0 z1 z2 z3 z4 z5 fz
      have HG_5 : Hid _ := HG_4.out.set (.bool true) (.slice none 0 0) (.slice p1 lo.length d1) (.slice p3 up.length d3) (.int .i64 least) (.int .i64 most)
      have HZ_5 : Hid _ := HZ_4.out.other (show W.heap.size ≠ G by omega) #[.bool true, .slice none 0 0, .slice p1 lo.length d1, .slice p3 up.length d3, .int .i64 least, .int .i64 most]
      have O1_5 : Hid _ := own_setRow O1_4.out G #[.bool true, .slice none 0 0, .slice p1 lo.length d1, .slice p3 up.length d3, .int .i64 least, .int .i64 most] HG_4.out.h
      have O3_5 : Hid _ := own_setRow O3_4.out G #[.bool true, .slice none 0 0, .slice p1 lo.length d1, .slice p3 up.length d3, .int .i64 least, .int .i64 most] HG_4.out.h
      have hb5 := below_setRow hb4 (show W.heap.size ≤ G by omega) #[.bool true, .slice none 0 0, .slice p1 lo.length d1, .slice p3 up.length d3, .int .i64 least, .int .i64 most]
      clear HG_3 HZ_3 HG_4 HZ_4 O1_3 O1_4 O3_4 hb3 hb4
      generalize w4.setRow G #[.bool true, .slice none 0 0, .slice p1 lo.length d1, .slice p3 up.length d3, .int .i64 least, .int .i64 most] = w5 at HG_5 HZ_5 O1_5 O3_5 hb5 ⊢
      obtain ⟨z0, z1, z2, z3, z4, z5⟩ := HG_5.out.cells
      go_wp2_with (with_reducible refine st37 rfl (.tmp 8) (.tmp 61) rfl W.heap.size _ _ _ _ _ _ (by with_unfolding_all rfl) (by with_unfolding_all rfl) HZ_5.out (six_dom _ _ _ _ _ _ _ _ _ _ _ _) ?_)
      refine ⟨rfl, _, R6.res rfl _ (HZ_5.out.set (.bool true) (.slice none 0 0) (.slice p1 lo.length d1) (.slice p3 up.length d3) (.int .i64 least) (.int .i64 most)) rfl, ⟨_, rfl, ?_, below_setRow hb5 (Nat.le_refl _) _⟩⟩
      rw [HD.out]
      exact ⟨_, _, agg6 (by first | rfl | exact HLQ.out.symm | omega) (by first | rfl | exact HMQ.out.symm | omega), rfl, own_setRow O1_5.out _ _ HZ_5.out.h, own_setRow O3_5.out _ _ HZ_5.out.h⟩

theorem tight_cases2 {lo up : List Int} (least most : Int) (h1 : IsSet lo) (h2 : IsSet up) (hs : ∀ x ∈ lo, x ∈ up) :
    (tightD lo up least most = noneD ∧ min most up.length < max least lo.length) ∨
    (tightD lo up least most = TD up up up.length up.length ∧ max least lo.length = up.length ∧ (up.length : Int) ≤ most) ∨
    (tightD lo up least most = TD lo lo lo.length lo.length ∧ min most up.length = lo.length ∧ least ≤ lo.length ∧ lo.length < up.length) ∨
    (tightD lo up least most = TD lo up (max least lo.length) (min most up.length) ∧ max least lo.length ≤ min most up.length ∧ lo.length < up.length ∧ ¬ max least lo.length = up.length ∧ ¬ min most up.length = lo.length) := by
  have hl := set_sub_len h1 h2 hs
  unfold tightD
  dsimp only
  by_cases a : min most (up.length : Int) < max least (lo.length : Int)
  · rw [if_pos a]; exact .inl ⟨rfl, a⟩
  · rw [if_neg a]
    by_cases b : max least (lo.length : Int) = (up.length : Int)
    · have c : min most (up.length : Int) = (up.length : Int) := by omega
      simp only [b, c, if_true]
      exact .inr (.inl ⟨by unfold TD; congr 1 <;> omega, trivial, by omega⟩)
    · simp only [if_neg b]
      by_cases c : min most (up.length : Int) = (lo.length : Int)
      · simp only [c, if_true]
        exact .inr (.inr (.inl ⟨by unfold TD; congr 1 <;> omega, trivial, by omega, by omega⟩))
      · simp only [if_neg c]
        exact .inr (.inr (.inr ⟨by unfold TD; congr 1 <;> omega, by omega, by omega, b, c⟩))
theorem reftight_any (s1 s2 : Value) (lo up : List Int) (least most : Int) (W : World) (hS1 : Si W s1 lo) (hS2 : Si W s2 up) (h1 : IsSet lo) (h2 : IsSet up) (hs : ∀ x ∈ lo, x ∈ up) :
    Calls Tryz.prog 76 #[s1, s2, .int .i64 least, .int .i64 most] W fun e w' => ∃ v, e = .returned v ∧ Dv W.heap.size w' v (tightD lo up least most) ∧ Below W.heap.size W w' := by
  rcases tight_cases2 least most h1 h2 hs with hc | hc | hc | hc
  · exact reftight_none s1 s2 lo up least most W hS1 hS2 h1 h2 hs hc
  · exact reftight_up s1 s2 lo up least most W hS1 hS2 h1 h2 hs hc
  · exact reftight_lo s1 s2 lo up least most W hS1 hS2 h1 h2 hs hc
  · exact reftight_mid s1 s2 lo up least most W hS1 hS2 h1 h2 hs hc
theorem reftight_look (s1 s2 : Value) (lo up : List Int) (least most : Int) (W : World) (hS1 : Si W s1 lo) (hS2 : Si W s2 up) (h1 : IsSet lo) (h2 : IsSet up) (hs : ∀ x ∈ lo, x ∈ up) :
    Calls Tryz.prog 76 #[s1, s2, .int .i64 least, .int .i64 most] W fun e w' => ∃ x0 p1 m1 k1 p2 m2 k2 x4 x5, e = .returned (.agg #[.bool x0, .slice none 0 0, .slice p1 m1 k1, .slice p2 m2 k2, .int .i64 x4, .int .i64 x5]) ∧ Hid (Dv W.heap.size w' (.agg #[.bool x0, .slice none 0 0, .slice p1 m1 k1, .slice p2 m2 k2, .int .i64 x4, .int .i64 x5]) (tightD lo up least most)) ∧ Below W.heap.size W w' :=
  (reftight_any s1 s2 lo up least most W hS1 hS2 h1 h2 hs).mono fun e w' ⟨v, he, hD, hb⟩ => by
    obtain ⟨x0, p1, m1, k1, p2, m2, k2, x4, x5, rfl, _⟩ := hD.look
    exact ⟨_, _, _, _, _, _, _, _, _, he, hD, hb⟩
end Go.Proofs.YthpbgplbgnefcaaGreatDoor
