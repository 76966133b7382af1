/-
  What is proved here: takes, of a variable.
-/
import Derived.Test.YtaeobgajhieajaaGreatDoorDp
import Derived.BigQuiet
namespace Go.Proofs.YtaeobgajhieajaaGreatDoor
open Go.RowKit Go.Shelf
set_option linter.unusedVariables false
set_option linter.unusedSimpArgs false
theorem below_drewN {B : Nat} {a w : World} (h : Below B a w) (n : Nat) : Below B a (w.drewN n) := ⟨h.os, h.tape, h.output, h.size, h.block⟩

set_option maxRecDepth 100000 in
set_option maxHeartbeats 4000000 in
theorem takes_var_out (a : Option Addr) (n c : Nat) (st : Bool) (lo hi v : Int) (h1 : 0 ≤ v) (h2 : ¬ v < n) (sa : Option Addr) (sc : Nat) (W : World) : Calls Tryz.prog 72 #[.agg #[.slice a n c, .bool st, .int .i64 lo, .int .i64 hi], .agg #[.int .i64 v, .bool false, .int .i64 0, .slice sa 0 sc]] W fun e w' => e = .returned (.bool false) ∧ Below W.heap.size W w' := by
  have hv : v ≠ -1 := by omega
  go_enter Tryz.func72, Tryz.ntmps72
  go_upto_region 3 with (fail)
  go_quiet (fail)
  go_wp2
  go_ret
  exact ⟨rfl, below_drewN (((Below.refl _ W).alloc (Nat.le_refl _) _).alloc (by simp) _) _⟩

set_option maxRecDepth 100000 in
set_option maxHeartbeats 4000000 in
theorem takes_var_in (b : Nat) (n c : Nat) (st x : Bool) (lo hi : Int) (v : Nat) (h2 : v < n) (sa : Option Addr) (sc : Nat) (W : World) (hb : b < W.heap.size) (hc : W.cell? ⟨b, v, none⟩ = some (.bool x)) : Calls Tryz.prog 72 #[.agg #[.slice (some ⟨b, 0, none⟩) n c, .bool st, .int .i64 lo, .int .i64 hi], .agg #[.int .i64 v, .bool false, .int .i64 0, .slice sa 0 sc]] W fun e w' => e = .returned (.bool (x == st)) ∧ Below W.heap.size W w' := by
  have h1 : (0 : Int) ≤ v := by omega
  have h3 : (v : Int) < n := by omega
  have hv : (v : Int) ≠ -1 := by omega
  cases x <;> cases st <;>
  · go_enter Tryz.func72, Tryz.ntmps72
    go_upto_region 3 with (fail)
    go_quiet (fail)
    go_wp2
    go_ret
    exact ⟨rfl, below_drewN (((Below.refl _ W).alloc (Nat.le_refl _) _).alloc (by simp) _) _⟩
end Go.Proofs.YtaeobgajhieajaaGreatDoor
