/-
  What is proved here: jigsawlaw01.IntsDivides returns true at all pairs of 64-bit numbers and writes nothing that was there; no condition.
-/
import Derived.Test.YtfgpedleiajgeaaWi
namespace Go.Proofs.Ytfgpedleiajgeaa
open Go.RowKit

set_option maxRecDepth 100000 in
set_option maxHeartbeats 1000000 in
theorem divides_walk (a b : Int) (w : World) (ha : Fits a) :
    Calls Try.prog 4 #[.int .i64 a, .int .i64 b] w fun e w' => e = .returned (.bool true) ∧ Below w.heap.size w w' := by
  go_enter Try.func4, Try.ntmps4
  go_wp2_with (first
    | (go_at_call 22; refine (div_any a b _ ha).mono ?_; rintro e w' ⟨rfl, rfl⟩)
    | (go_at_call 23; refine (rdiv_any a b _ ha).mono ?_; rintro e w' ⟨rfl, rfl⟩)
    | (go_at_call 24; refine (mod_any a b _ ha).mono ?_; rintro e w' ⟨rfl, rfl⟩)
    | (go_at_call 25; refine (rmod_any a b _ ha).mono ?_; rintro e w' ⟨rfl, rfl⟩)
    | (go_at_call 26; refine (floor_any a b _ ha).mono ?_; rintro e w' ⟨rfl, rfl⟩)
    | (go_at_call 27; refine (rfloor_any a b _ ha).mono ?_; rintro e w' ⟨rfl, rfl⟩)
    | (go_at_call 28; refine (ceil_any a b _ ha).mono ?_; rintro e w' ⟨rfl, rfl⟩)
    | (go_at_call 29; refine (rceil_any a b _ ha).mono ?_; rintro e w' ⟨rfl, rfl⟩)
    | (go_at_call 21; refine (known_any _).mono ?_; rintro e w' ⟨rfl, h1⟩))
  go_ret
  exact ⟨rfl, h1⟩
end Go.Proofs.Ytfgpedleiajgeaa
