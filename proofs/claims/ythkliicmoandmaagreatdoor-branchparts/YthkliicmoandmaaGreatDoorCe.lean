/-
  What is proved here: decisions given and taken; their other ones; whether they hold.
-/
import Derived.Test.YthkliicmoandmaaGreatDoorCc
import Derived.Test.YthkliicmoandmaaGreatDoorYSej
import Derived.Test.YthkliicmoandmaaGreatDoorYTaj
namespace Go.Proofs.YthkliicmoandmaaGreatDoor
open Go.RowKit Go.Shelf
set_option linter.unusedVariables false
set_option linter.unusedSimpArgs false

set_option maxRecDepth 100000 in
set_option maxHeartbeats 4000000 in
theorem given_any (v op n : Int) (W : World) : Calls Tryz.prog 19 #[.agg #[.int .i64 v, .int .i64 op, .int .i64 n]] W fun e w' => e = .returned (.agg #[.int .i64 v, .int .i64 op, .int .i64 n]) ∧ Below W.heap.size W w' := by
  obtain ⟨N, hN⟩ : ∃ N, W.heap.size = N := ⟨_, rfl⟩
  obtain ⟨W0, hW0⟩ : ∃ Q, (W.alloc (Obj.cells #[.int .i64 v, .int .i64 op, .int .i64 n] 35)).alloc (Obj.cells #[.int .i64 0, .int .i64 0, .int .i64 0] 32) = Q := ⟨_, rfl⟩
  have hb0 : Below N W W0 := by rw [← hW0, ← hN]; exact ((Below.refl _ W).alloc (Nat.le_refl _) _).alloc (by simp) _
  have hx : Bx W0 N #[.int .i64 v, .int .i64 op, .int .i64 n] 35 := by rw [← hW0]; exact (Bx.new' hN _ _).alloc _
  have hy : Bx W0 (N + 1) #[.int .i64 0, .int .i64 0, .int .i64 0] 32 := by rw [← hW0]; exact Bx.new' (by simp [hN]) _ _
  have HY : Hid _ := hy
  have HB : Hid (Below N W W0) := hb0
  have HW0 : Hid _ := hW0
  obtain ⟨z0, z1, z2⟩ := hx.three
  obtain ⟨y0, y1, y2⟩ := hy.three
  have g0 := hy.fr 0
  have g1 := hy.fr 1
  have g2 := hy.fr 2
  rw [hN]
  clear hx hy hb0 hW0
  go_enter Tryz.func19, Tryz.ntmps19
  go_upto_region 1 with (fail)
  rw [HW0.out]
  clear hN
  go_wp2
  refine ⟨rfl, _, results_cell_row rfl _ _ (N + 1) 32 _ (0, 0) _ rfl (HY.out.set3 _ _ _).h Tryz.underlying32 rfl (by kernel_rfl), rfl, ?_⟩
  exact ((HB.out.setCell (p := ⟨N + 1, 0, none⟩) (by show N ≤ N + 1; omega) _).setCell (p := ⟨N + 1, 1, none⟩) (by show N ≤ N + 1; omega) _).setCell (p := ⟨N + 1, 2, none⟩) (by show N ≤ N + 1; omega) _

set_option maxRecDepth 100000 in
set_option maxHeartbeats 4000000 in
theorem not_dec (v op n : Int) (W : World) : Calls Tryz.prog 23 #[.agg #[.int .i64 v, .int .i64 op, .int .i64 n]] W fun e w' => e = .returned (.agg #[.int .i64 v, .int .i64 (otM op), .int .i64 n]) ∧ Below W.heap.size W w' := by
  obtain ⟨N, hN⟩ : ∃ N, W.heap.size = N := ⟨_, rfl⟩
  obtain ⟨W0, hW0⟩ : ∃ Q, (W.alloc (Obj.cells #[.int .i64 v, .int .i64 op, .int .i64 n] 32)).alloc (Obj.cells #[.int .i64 0, .int .i64 0, .int .i64 0] 32) = Q := ⟨_, rfl⟩
  have hb0 : Below N W W0 := by rw [← hW0, ← hN]; exact ((Below.refl _ W).alloc (Nat.le_refl _) _).alloc (by simp) _
  have hx : Bx W0 N #[.int .i64 v, .int .i64 op, .int .i64 n] 32 := by rw [← hW0]; exact (Bx.new' hN _ _).alloc _
  have hy : Bx W0 (N + 1) #[.int .i64 0, .int .i64 0, .int .i64 0] 32 := by rw [← hW0]; exact Bx.new' (by simp [hN]) _ _
  have HY : Hid _ := hy
  have HB : Hid (Below N W W0) := hb0
  have HW0 : Hid _ := hW0
  obtain ⟨z0, z1, z2⟩ := hx.three
  obtain ⟨y0, y1, y2⟩ := hy.three
  have f0 := hx.fr 1
  have g0 := hy.fr 0
  have g1 := hy.fr 1
  have g2 := hy.fr 2
  have kb := bknown_any op W0
  rw [hN]
  clear hx hy hb0 hW0
  cases hK : knB op
  · rw [hK] at kb
    have HOT : Hid (otM op = op) := by
      unfold Hid otM
      unfold knB at hK
      simp only [Bool.and_eq_false_iff, decide_eq_false_iff_not] at hK
      rw [if_neg (by omega), if_neg (by omega), if_neg (by omega), if_neg (by omega), if_neg (by omega), if_neg (by omega)]
    rw [HOT.out]
    unfold knB at hK
    go_enter Tryz.func23, Tryz.ntmps23
    go_upto_region 1 with (fail)
    rw [HW0.out]
    clear hN
    go_wp2_with fail
    refine kb.mono ?_
    clear kb
    rintro e wt ⟨rfl, hwt⟩
    rw [hwt]
    clear hwt wt
    go_wp2
    refine ⟨rfl, _, results_cell_row rfl _ _ (N + 1) 32 _ (0, 0) _ rfl (HY.out.set3 _ _ _).h Tryz.underlying32 rfl (by kernel_rfl), rfl, ?_⟩
    exact ((HB.out.setCell (p := ⟨N + 1, 0, none⟩) (by show N ≤ N + 1; omega) _).setCell (p := ⟨N + 1, 1, none⟩) (by show N ≤ N + 1; omega) _).setCell (p := ⟨N + 1, 2, none⟩) (by show N ≤ N + 1; omega) _
  · rw [hK] at kb
    unfold knB at hK
    simp only [Bool.and_eq_true, decide_eq_true_eq] at hK
    have h6 : op = 0 ∨ op = 1 ∨ op = 2 ∨ op = 3 ∨ op = 4 ∨ op = 5 := by omega
    clear hK
    rcases h6 with rfl | rfl | rfl | rfl | rfl | rfl
    · rw [show otM 0 = 1 from by decide]
      go_enter Tryz.func23, Tryz.ntmps23
      go_upto_region 1 with (fail)
      rw [HW0.out]
      clear hN
      go_wp2_with fail
      refine kb.mono ?_
      clear kb
      rintro e wt ⟨rfl, hwt⟩
      rw [hwt]
      clear hwt wt
      go_wp2
      refine ⟨rfl, _, results_cell_row rfl _ _ (N + 1) 32 _ (0, 0) _ rfl ((HY.out.other (by omega) 1 _).set3 _ _ _).h Tryz.underlying32 rfl (by kernel_rfl), rfl, ?_⟩
      exact (((HB.out.setCell (p := ⟨N, 1, none⟩) (Nat.le_refl _) _).setCell (p := ⟨N + 1, 0, none⟩) (by show N ≤ N + 1; omega) _).setCell (p := ⟨N + 1, 1, none⟩) (by show N ≤ N + 1; omega) _).setCell (p := ⟨N + 1, 2, none⟩) (by show N ≤ N + 1; omega) _
    · rw [show otM 1 = 0 from by decide]
      go_enter Tryz.func23, Tryz.ntmps23
      go_upto_region 1 with (fail)
      rw [HW0.out]
      clear hN
      go_wp2_with fail
      refine kb.mono ?_
      clear kb
      rintro e wt ⟨rfl, hwt⟩
      rw [hwt]
      clear hwt wt
      go_wp2
      refine ⟨rfl, _, results_cell_row rfl _ _ (N + 1) 32 _ (0, 0) _ rfl ((HY.out.other (by omega) 1 _).set3 _ _ _).h Tryz.underlying32 rfl (by kernel_rfl), rfl, ?_⟩
      exact (((HB.out.setCell (p := ⟨N, 1, none⟩) (Nat.le_refl _) _).setCell (p := ⟨N + 1, 0, none⟩) (by show N ≤ N + 1; omega) _).setCell (p := ⟨N + 1, 1, none⟩) (by show N ≤ N + 1; omega) _).setCell (p := ⟨N + 1, 2, none⟩) (by show N ≤ N + 1; omega) _
    · rw [show otM 2 = 3 from by decide]
      go_enter Tryz.func23, Tryz.ntmps23
      go_upto_region 1 with (fail)
      rw [HW0.out]
      clear hN
      go_wp2_with fail
      refine kb.mono ?_
      clear kb
      rintro e wt ⟨rfl, hwt⟩
      rw [hwt]
      clear hwt wt
      go_wp2
      refine ⟨rfl, _, results_cell_row rfl _ _ (N + 1) 32 _ (0, 0) _ rfl ((HY.out.other (by omega) 1 _).set3 _ _ _).h Tryz.underlying32 rfl (by kernel_rfl), rfl, ?_⟩
      exact (((HB.out.setCell (p := ⟨N, 1, none⟩) (Nat.le_refl _) _).setCell (p := ⟨N + 1, 0, none⟩) (by show N ≤ N + 1; omega) _).setCell (p := ⟨N + 1, 1, none⟩) (by show N ≤ N + 1; omega) _).setCell (p := ⟨N + 1, 2, none⟩) (by show N ≤ N + 1; omega) _
    · rw [show otM 3 = 2 from by decide]
      go_enter Tryz.func23, Tryz.ntmps23
      go_upto_region 1 with (fail)
      rw [HW0.out]
      clear hN
      go_wp2_with fail
      refine kb.mono ?_
      clear kb
      rintro e wt ⟨rfl, hwt⟩
      rw [hwt]
      clear hwt wt
      go_wp2
      refine ⟨rfl, _, results_cell_row rfl _ _ (N + 1) 32 _ (0, 0) _ rfl ((HY.out.other (by omega) 1 _).set3 _ _ _).h Tryz.underlying32 rfl (by kernel_rfl), rfl, ?_⟩
      exact (((HB.out.setCell (p := ⟨N, 1, none⟩) (Nat.le_refl _) _).setCell (p := ⟨N + 1, 0, none⟩) (by show N ≤ N + 1; omega) _).setCell (p := ⟨N + 1, 1, none⟩) (by show N ≤ N + 1; omega) _).setCell (p := ⟨N + 1, 2, none⟩) (by show N ≤ N + 1; omega) _
    · rw [show otM 4 = 5 from by decide]
      go_enter Tryz.func23, Tryz.ntmps23
      go_upto_region 1 with (fail)
      rw [HW0.out]
      clear hN
      go_wp2_with fail
      refine kb.mono ?_
      clear kb
      rintro e wt ⟨rfl, hwt⟩
      rw [hwt]
      clear hwt wt
      go_wp2
      refine ⟨rfl, _, results_cell_row rfl _ _ (N + 1) 32 _ (0, 0) _ rfl ((HY.out.other (by omega) 1 _).set3 _ _ _).h Tryz.underlying32 rfl (by kernel_rfl), rfl, ?_⟩
      exact (((HB.out.setCell (p := ⟨N, 1, none⟩) (Nat.le_refl _) _).setCell (p := ⟨N + 1, 0, none⟩) (by show N ≤ N + 1; omega) _).setCell (p := ⟨N + 1, 1, none⟩) (by show N ≤ N + 1; omega) _).setCell (p := ⟨N + 1, 2, none⟩) (by show N ≤ N + 1; omega) _
    · rw [show otM 5 = 4 from by decide]
      go_enter Tryz.func23, Tryz.ntmps23
      go_upto_region 1 with (fail)
      rw [HW0.out]
      clear hN
      go_wp2_with fail
      refine kb.mono ?_
      clear kb
      rintro e wt ⟨rfl, hwt⟩
      rw [hwt]
      clear hwt wt
      go_wp2
      refine ⟨rfl, _, results_cell_row rfl _ _ (N + 1) 32 _ (0, 0) _ rfl ((HY.out.other (by omega) 1 _).set3 _ _ _).h Tryz.underlying32 rfl (by kernel_rfl), rfl, ?_⟩
      exact (((HB.out.setCell (p := ⟨N, 1, none⟩) (Nat.le_refl _) _).setCell (p := ⟨N + 1, 0, none⟩) (by show N ≤ N + 1; omega) _).setCell (p := ⟨N + 1, 1, none⟩) (by show N ≤ N + 1; omega) _).setCell (p := ⟨N + 1, 2, none⟩) (by show N ≤ N + 1; omega) _

end Go.Proofs.YthkliicmoandmaaGreatDoor
