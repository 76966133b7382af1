/-
  What is proved here: what ints.Add, Sub, Neg and Abs return, at all numbers of 64 bits.
-/
import Derived.Test.YtfgpedleiajgeaaProg
import Derived.Test.YtfgpedleiajgeaaMath
import Derived.WalkKit
import Derived.WalkSpells
import Derived.WalkLawsBesides
namespace Go.Proofs.Ytfgpedleiajgeaa
open Go.RowKit

set_option maxHeartbeats 400000 in
theorem add_any (a b : Int) (w : World) (ha : Fits a) (hb : Fits b) :
    Calls Try.prog 9 #[.int .i64 a, .int .i64 b] w fun e w' => e = .returned (.tuple #[.int .i64 (ov (a + b)), .int .i64 (oe (a + b))]) ∧ w' = w := by
  go_enter Try.func9, Try.ntmps9
  go_wp2
  · have h := add_over ha hb (by assumption)
    go_ret2
    exact ⟨ret2_eq (ov_no h).symm (oe_no h).symm, rfl⟩
  · have h := add_fits ha hb (by assumption)
    go_ret2
    exact ⟨ret2_eq ((wrap_id h).trans (ov_yes h).symm) (oe_yes h).symm, rfl⟩

set_option maxHeartbeats 400000 in
theorem sub_any (a b : Int) (w : World) (ha : Fits a) (hb : Fits b) :
    Calls Try.prog 11 #[.int .i64 a, .int .i64 b] w fun e w' => e = .returned (.tuple #[.int .i64 (ov (a - b)), .int .i64 (oe (a - b))]) ∧ w' = w := by
  go_enter Try.func11, Try.ntmps11
  go_wp2
  · have h := sub_over ha hb (by assumption)
    go_ret2
    exact ⟨ret2_eq (ov_no h).symm (oe_no h).symm, rfl⟩
  · have h := sub_fits ha hb (by assumption)
    go_ret2
    exact ⟨ret2_eq ((wrap_id h).trans (ov_yes h).symm) (oe_yes h).symm, rfl⟩

theorem fits0 : Fits 0 := by unfold Fits; omega

set_option maxHeartbeats 400000 in
theorem neg_any (a : Int) (w : World) (ha : Fits a) :
    Calls Try.prog 17 #[.int .i64 a] w fun e w' => e = .returned (.tuple #[.int .i64 (ov (-a)), .int .i64 (oe (-a))]) ∧ w' = w := by
  have e0 : (0 : Int) - a = -a := by omega
  have hs := sub_any 0 a w fits0 ha
  rw [e0] at hs
  go_enter Try.func17, Try.ntmps17
  go_wp2_with (go_at_call 11; refine hs.mono ?_; rintro e w' ⟨rfl, rfl⟩)
  go_ret2
  exact ⟨rfl, rfl⟩

set_option maxHeartbeats 400000 in
theorem abs_any (a : Int) (w : World) (ha : Fits a) :
    Calls Try.prog 19 #[.int .i64 a] w fun e w' => e = .returned (.tuple #[.int .i64 (ov a.natAbs), .int .i64 (oe a.natAbs)]) ∧ w' = w := by
  by_cases h : a < 0
  · have e0 : (a.natAbs : Int) = -a := by omega
    rw [e0]
    go_enter Try.func19, Try.ntmps19
    go_wp2_with (go_at_call 17; refine (neg_any a _ ha).mono ?_; rintro e w' ⟨rfl, rfl⟩)
    go_ret2
    exact ⟨rfl, rfl⟩
  · have e0 : (a.natAbs : Int) = a := by omega
    rw [e0, ov_yes ha, oe_yes ha]
    go_enter Try.func19, Try.ntmps19
    go_wp2
    go_ret2
    exact ⟨rfl, rfl⟩

end Go.Proofs.Ytfgpedleiajgeaa
