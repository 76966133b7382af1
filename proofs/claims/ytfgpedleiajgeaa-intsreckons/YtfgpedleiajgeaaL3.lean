/-
  What is proved here: jigsawlaw01.IntsReckons returns true at all pairs of 64-bit numbers and writes nothing that was there; no condition.
-/
import Derived.Test.YtfgpedleiajgeaaBl
namespace Go.Proofs.Ytfgpedleiajgeaa
open Go.RowKit

set_option maxRecDepth 100000 in
set_option maxHeartbeats 2000000 in
theorem reckons_walk (a b : Int) (w : World) (ha : Fits a) (hb : Fits b) :
    Calls Try.prog 3 #[.int .i64 a, .int .i64 b] w fun e w' => e = .returned (.bool true) ∧ Below w.heap.size w w' := by
  go_enter Try.func3, Try.ntmps3
  go_wp2_with fail
  refine (add_any a b _ ha hb).mono ?_
  rintro e w' ⟨rfl, rfl⟩
  go_wp2_with fail
  refine (radd_any a b _ ha hb).mono ?_
  rintro e w2 ⟨rfl, k2⟩
  go_wp2_with fail
  refine (sub_any a b _ ha hb).mono ?_
  rintro e w' ⟨rfl, rfl⟩
  go_wp2_with fail
  refine (rsub_any a b _ ha hb).mono ?_
  rintro e w4 ⟨rfl, k4⟩
  go_wp2_with fail
  refine (mul_any a b _ ha hb).mono ?_
  rintro e w5 ⟨rfl, k5⟩
  go_wp2_with fail
  refine (rmul_any a b _ ha hb).mono ?_
  rintro e w6 ⟨rfl, k6⟩
  go_wp2_with fail
  refine (pow_any a b _ ha hb).mono ?_
  rintro e w7 ⟨rfl, k7⟩
  go_wp2_with fail
  refine (rpow_any a b _ ha hb).mono ?_
  rintro e w8 ⟨rfl, k8⟩
  go_wp2_with fail
  refine (neg_any a _ ha).mono ?_
  rintro e w' ⟨rfl, rfl⟩
  go_wp2_with fail
  refine (rneg_any a _ ha).mono ?_
  rintro e w10 ⟨rfl, k10⟩
  go_wp2_with fail
  refine (abs_any a _ ha).mono ?_
  rintro e w' ⟨rfl, rfl⟩
  go_wp2_with fail
  refine (rabs_any a _ ha).mono ?_
  rintro e w12 ⟨rfl, k12⟩
  go_wp2_with fail
  refine (known_any _).mono ?_
  rintro e w13 ⟨rfl, k13⟩
  go_wp2
  go_ret
  exact ⟨rfl, below3 (below3 k2 k4 k5) (below3 k6 k7 k8) (below3 k10 k12 k13)⟩
end Go.Proofs.Ytfgpedleiajgeaa
