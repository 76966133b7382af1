/-
  What is proved here: takes, of a number and of a variable.
-/
import Derived.Test.YtaeobgajhieajaaGreatDoorDp
import Derived.BigQuiet
namespace Go.Proofs.YtaeobgajhieajaaGreatDoor
open Go.RowKit Go.Shelf
set_option linter.unusedVariables false
set_option linter.unusedSimpArgs false

set_option maxRecDepth 100000 in
set_option maxHeartbeats 4000000 in
theorem takes_num (vs : Value) (lo hi n : Int) (sa : Option Addr) (sc : Nat) (W : World) : Calls Tryz.prog 72 #[.agg #[vs, .bool false, .int .i64 lo, .int .i64 hi], .agg #[.int .i64 (-1), .bool false, .int .i64 n, .slice sa 0 sc]] W fun e w' => e = .returned (.bool (decide (lo ≤ n) && decide (n ≤ hi))) ∧ Below W.heap.size W w' := by
  by_cases h0 : n = 0
  · subst h0
    by_cases h1 : lo ≤ 0 <;> by_cases h2 : 0 ≤ hi <;>
    · go_enter Tryz.func72, Tryz.ntmps72
      go_wp2
      go_ret
      exact ⟨by simp [h1, h2], ((Below.refl _ W).alloc (Nat.le_refl _) _).alloc (by simp) _⟩
  · by_cases h1 : lo ≤ n <;> by_cases h2 : n ≤ hi <;>
    · go_enter Tryz.func72, Tryz.ntmps72
      go_wp2
      go_ret
      exact ⟨by simp [h1, h2], ((Below.refl _ W).alloc (Nat.le_refl _) _).alloc (by simp) _⟩
end Go.Proofs.YtaeobgajhieajaaGreatDoor
