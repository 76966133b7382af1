/-
  What is proved here: what a store that is not there answers.
-/
import Derived.Test.YtogankopiechcaaKe
namespace Go.Proofs.Ytogankopiechcaa
open Go.RowKit Go.Shelf
set_option linter.unusedVariables false
set_option linter.unusedSimpArgs false

abbrev nilp : Value := .pointer none

set_option maxRecDepth 100000 in
set_option maxHeartbeats 4000000 in
theorem len_nil {W : World} (v : Int) : Calls Try.prog 10 #[nilp] W fun e w' => e = .returned (.int .i64 0) ∧ w' = W := by
  go_enter Try.func10, Try.ntmps10
  go_wp2
  go_ret
  exact ⟨rfl, rfl⟩

set_option maxRecDepth 100000 in
set_option maxHeartbeats 4000000 in
theorem failed_nil {W : World} (v : Int) : Calls Try.prog 11 #[nilp] W fun e w' => e = .returned (.bool false) ∧ w' = W := by
  go_enter Try.func11, Try.ntmps11
  go_wp2
  go_ret
  exact ⟨rfl, rfl⟩

set_option maxRecDepth 100000 in
set_option maxHeartbeats 4000000 in
theorem events_nil {W : World} (v : Int) : Calls Try.prog 12 #[nilp] W fun e w' => e = .returned (.slice none 0 0) ∧ w' = W := by
  go_enter Try.func12, Try.ntmps12
  go_wp2
  go_ret
  exact ⟨rfl, rfl⟩

set_option maxRecDepth 100000 in
set_option maxHeartbeats 4000000 in
theorem push_nil {W : World} (v : Int) : Calls Try.prog 13 #[nilp] W fun e w' => e = .returned (.int .i64 2) ∧ w' = W := by
  go_enter Try.func13, Try.ntmps13
  go_wp2
  go_ret
  exact ⟨rfl, rfl⟩

set_option maxRecDepth 100000 in
set_option maxHeartbeats 4000000 in
theorem pop_nil {W : World} (v : Int) : Calls Try.prog 14 #[nilp] W fun e w' => e = .returned (.int .i64 2) ∧ w' = W := by
  go_enter Try.func14, Try.ntmps14
  go_wp2
  go_ret
  exact ⟨rfl, rfl⟩

set_option maxRecDepth 100000 in
set_option maxHeartbeats 4000000 in
theorem depth_nil {W : World} (v : Int) : Calls Try.prog 15 #[nilp] W fun e w' => e = .returned (.int .i64 0) ∧ w' = W := by
  go_enter Try.func15, Try.ntmps15
  go_wp2
  go_ret
  exact ⟨rfl, rfl⟩

set_option maxRecDepth 100000 in
set_option maxHeartbeats 4000000 in
theorem all_nil {W : World} (v : Int) : Calls Try.prog 16 #[nilp] W fun e w' => e = .returned (.slice none 0 0) ∧ w' = W := by
  go_enter Try.func16, Try.ntmps16
  go_wp2
  go_ret
  exact ⟨rfl, rfl⟩

set_option maxRecDepth 100000 in
set_option maxHeartbeats 4000000 in
theorem sol_nil {W : World} (v : Int) : Calls Try.prog 7 #[nilp] W fun e w' => e = .returned (.tuple #[.slice none 0 0, .bool false]) ∧ w' = W := by
  go_enter Try.func7, Try.ntmps7
  go_wp2
  go_ret2
  exact ⟨rfl, rfl⟩

set_option maxRecDepth 100000 in
set_option maxHeartbeats 4000000 in
theorem there_nil {W : World} (v : Int) : Calls Try.prog 18 #[nilp, .int .i64 v] W fun e w' => e = .returned (.bool false) ∧ w' = W := by
  have kl := len_nil (W := W) 0
  by_cases h0 : 0 ≤ v
  · have hd : decide (0 ≤ v) = true := by simpa using h0
    have hd2 : decide (v < 0) = false := by simp; omega
    go_enter Try.func18, Try.ntmps18
    go_wp2_with (go_at_call 10; refine kl.mono ?_; rintro e w1 ⟨rfl, rfl⟩)
    go_ret
    exact ⟨ret_bool (by first | rfl | simp [hd2] | (simp; omega)), rfl⟩
  · have hd : decide (0 ≤ v) = false := by simpa using h0
    go_enter Try.func18, Try.ntmps18
    go_wp2
    go_ret
    exact ⟨ret_bool (by simp [hd]), rfl⟩

set_option maxRecDepth 100000 in
set_option maxHeartbeats 4000000 in
theorem narrow_nil {W : World} (v : Int) (b : Bool) (p0 : Option Addr) (m0 k0 : Nat) (p1 : Option Addr) (m1 k1 : Nat) (p2 : Option Addr) (m2 k2 : Nat) (x y : Int) : Calls Try.prog 6 #[nilp, .int .i64 v, .agg #[.bool b, .slice p0 m0 k0, .slice p1 m1 k1, .slice p2 m2 k2, .int .i64 x, .int .i64 y]] W fun e w' => e = .returned (.tuple #[.int .i64 0, .int .i64 2]) ∧ Below W.heap.size W w' := by
  go_enter Try.func6, Try.ntmps6
  go_wp2
  go_ret2
  exact ⟨rfl, (Below.refl _ W).alloc (Nat.le_refl _) _⟩

set_option maxRecDepth 100000 in
set_option maxHeartbeats 4000000 in
theorem get_nil {W : World} (v : Int) : Calls Try.prog 4 #[nilp, .int .i64 v] W fun e w' => e = .returned (.tuple #[.agg #[.bool false, .slice none 0 0, .slice none 0 0, .slice none 0 0, .int .i64 0, .int .i64 0], .int .i64 2]) ∧ Below W.heap.size W w' := by
  go_enter Try.func4, Try.ntmps4
  go_wp2
  exact ⟨rfl, _, res_ct rfl _ (Bx.new W _ _) (by with_unfolding_all rfl) rfl Try.underlying25 (by rw [Try.sizeDom]; rfl) (v := .int .i64 2) (by with_unfolding_all rfl), rfl, (Below.refl _ W).alloc (Nat.le_refl _) _⟩

set_option maxRecDepth 100000 in
set_option maxHeartbeats 4000000 in
theorem value_nil {W : World} (v : Int) : Calls Try.prog 5 #[nilp, .int .i64 v] W fun e w' => e = .returned (.tuple #[.agg #[.bool false, .int .i64 0, .slice none 0 0], .bool false]) ∧ Below W.heap.size W w' := by
  obtain ⟨W0, hW0⟩ : ∃ Q, W.alloc (Obj.cells #[.bool false, .int .i64 0, .slice none 0 0] 31) = Q := ⟨_, rfl⟩
  have hb0 : Below W.heap.size W W0 := by rw [← hW0]; exact (Below.refl _ W).alloc (Nat.le_refl _) _
  have HBV : Hid (Bx W0 W.heap.size #[.bool false, .int .i64 0, .slice none 0 0] 31) := by rw [← hW0]; exact Bx.new _ _ _
  have kt := there_nil (W := W0) v
  have HW0 : Hid _ := hW0
  clear hW0
  go_enter Try.func5, Try.ntmps5
  go_wp2_with fail
  rw [HW0.out]
  refine kt.mono ?_
  clear kt
  rintro e wt ⟨rfl, hwt⟩
  rw [hwt]
  clear hwt wt
  go_wp2_with (with_reducible refine stV rfl (.tmp 4) (.tmp 10) rfl W.heap.size false 0 none 0 0 (by with_unfolding_all rfl) (by with_unfolding_all rfl) HBV.out rfl ?_)
  exact ⟨rfl, _, res_ct rfl _ (HBV.out.setRow _) (by with_unfolding_all rfl) rfl Try.underlying31 (by rw [Try.sizeVal]; rfl) (v := .bool false) (by with_unfolding_all rfl), rfl, below_row hb0 (Nat.le_refl _) _⟩

set_option maxRecDepth 100000 in
set_option maxHeartbeats 4000000 in
theorem one9 (x y : Int) (W : World) : Calls Try.prog 34 #[.int .i64 x, .int .i64 y] W fun e w' => ∃ q : List Value, e = .returned (.agg q.toArray) ∧ (∀ Z : Nat → Prop, (∀ b, Z b → b < W.heap.size) → Dc Z w' q ⟨false, [(x, y)], [], [], 0, 0⟩) ∧ Below W.heap.size W w' := by
  go_enter Try.func34, Try.ntmps34
  go_wp2
  have hb : Below W.heap.size W ((W.alloc (Obj.cells #[.bool false, .slice (some ⟨W.heap.size + 1, 0, none⟩) 1 1, .slice none 0 0, .slice none 0 0, .int .i64 0, .int .i64 0] 25)).alloc (Obj.cells #[.int .i64 x, .int .i64 y] 65)) := ((Below.refl _ W).alloc (Nat.le_refl _) _).alloc (by simp) _
  refine ⟨rfl, _, resD (c := [.bool false, .slice (some ⟨W.heap.size + 1, 0, none⟩) 1 1, .slice none 0 0, .slice none 0 0, .int .i64 0, .int .i64 0]) rfl _ ((Bx.new W _ _).alloc _) rfl (by with_unfolding_all rfl), [.bool false, .slice (some ⟨W.heap.size + 1, 0, none⟩) 1 1, .slice none 0 0, .slice none 0 0, .int .i64 0, .int .i64 0], rfl, fun Z hZ => ?_, hb⟩
  refine ⟨some ⟨W.heap.size + 1, 0, none⟩, 1, none, 0, none, 0, rfl, ⟨_, _, rfl, fun _ => ⟨W.heap.size + 1, 0, rfl, by simp, fun q => by have := hZ _ q; omega, fun i hi => ?_⟩⟩, Nm.empty _ _, Nm.empty _ _⟩
  have hi0 : i = 0 := by simp at hi; exact hi
  subst hi0
  have hbx := Bx.new' (w := W.alloc (Obj.cells #[.bool false, .slice (some ⟨W.heap.size + 1, 0, none⟩) 1 1, .slice none 0 0, .slice none 0 0, .int .i64 0, .int .i64 0] 25)) (n := W.heap.size + 1) (by simp) #[.int .i64 x, .int .i64 y] 65
  exact ⟨hbx.cell 0, hbx.cell 1⟩
end Go.Proofs.Ytogankopiechcaa
