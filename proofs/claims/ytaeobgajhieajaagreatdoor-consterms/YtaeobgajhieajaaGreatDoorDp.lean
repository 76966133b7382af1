/-
  What is proved here: the place of each letter.
-/
import Derived.Test.YtaeobgajhieajaaGreatDoorDo
namespace Go.Proofs.YtaeobgajhieajaaGreatDoor
open Go.RowKit Go.Shelf
set_option linter.unusedVariables false
set_option linter.unusedSimpArgs false

set_option maxRecDepth 100000 in
set_option maxHeartbeats 4000000 in
theorem place_i (a : Option Addr) (n c : Nat) (W : World) : Calls Tryz.prog 70 #[.string ⟨#[105]⟩, .slice a n c] W fun e w' => e = .returned (.agg #[.slice none 0 0, .bool false, .int .i64 (-1000000000), .int .i64 1000000000]) ∧ Below W.heap.size W w' := by
  go_enter Tryz.func70, Tryz.ntmps70
  go_wp2
  exact ⟨rfl, _, results_cell_row (P := Tryz.prog) rfl _ _ W.heap.size 108 _ (0, 0) _ rfl (World.alloc_heap_new W _) Tryz.underlying108 rfl (by kernel_rfl), rfl, (Below.refl _ W).alloc (Nat.le_refl _) _⟩

set_option maxRecDepth 100000 in
set_option maxHeartbeats 4000000 in
theorem place_b (a : Option Addr) (n c : Nat) (W : World) : Calls Tryz.prog 70 #[.string ⟨#[98]⟩, .slice a n c] W fun e w' => e = .returned (.agg #[.slice none 0 0, .bool false, .int .i64 0, .int .i64 1]) ∧ Below W.heap.size W w' := by
  go_enter Tryz.func70, Tryz.ntmps70
  go_wp2
  exact ⟨rfl, _, results_cell_row (P := Tryz.prog) rfl _ _ W.heap.size 108 _ (0, 0) _ rfl (World.alloc_heap_new W _) Tryz.underlying108 rfl (by kernel_rfl), rfl, (Below.refl _ W).alloc (Nat.le_refl _) _⟩

set_option maxRecDepth 100000 in
set_option maxHeartbeats 4000000 in
theorem place_s (a : Option Addr) (n c : Nat) (W : World) : Calls Tryz.prog 70 #[.string ⟨#[115]⟩, .slice a n c] W fun e w' => e = .returned (.agg #[.slice none 0 0, .bool true, .int .i64 0, .int .i64 0]) ∧ Below W.heap.size W w' := by
  go_enter Tryz.func70, Tryz.ntmps70
  go_wp2
  exact ⟨rfl, _, results_cell_row (P := Tryz.prog) rfl _ _ W.heap.size 108 _ (0, 0) _ rfl (World.alloc_heap_new W _) Tryz.underlying108 rfl (by kernel_rfl), rfl, (Below.refl _ W).alloc (Nat.le_refl _) _⟩

set_option maxRecDepth 100000 in
set_option maxHeartbeats 4000000 in
theorem place_I (a : Option Addr) (n c : Nat) (W : World) : Calls Tryz.prog 70 #[.string ⟨#[73]⟩, .slice a n c] W fun e w' => e = .returned (.agg #[.slice a n c, .bool false, .int .i64 (-1000000), .int .i64 1000000]) ∧ Below W.heap.size W w' := by
  go_enter Tryz.func70, Tryz.ntmps70
  go_wp2
  exact ⟨rfl, _, results_cell_row (P := Tryz.prog) rfl _ _ W.heap.size 108 _ (0, 0) _ rfl (World.alloc_heap_new W _) Tryz.underlying108 rfl (by kernel_rfl), rfl, (Below.refl _ W).alloc (Nat.le_refl _) _⟩

set_option maxRecDepth 100000 in
set_option maxHeartbeats 4000000 in
theorem place_B (a : Option Addr) (n c : Nat) (W : World) : Calls Tryz.prog 70 #[.string ⟨#[66]⟩, .slice a n c] W fun e w' => e = .returned (.agg #[.slice a n c, .bool false, .int .i64 0, .int .i64 1]) ∧ Below W.heap.size W w' := by
  go_enter Tryz.func70, Tryz.ntmps70
  go_wp2
  exact ⟨rfl, _, results_cell_row (P := Tryz.prog) rfl _ _ W.heap.size 108 _ (0, 0) _ rfl (World.alloc_heap_new W _) Tryz.underlying108 rfl (by kernel_rfl), rfl, (Below.refl _ W).alloc (Nat.le_refl _) _⟩

set_option maxRecDepth 100000 in
set_option maxHeartbeats 4000000 in
theorem place_S (a : Option Addr) (n c : Nat) (W : World) : Calls Tryz.prog 70 #[.string ⟨#[83]⟩, .slice a n c] W fun e w' => e = .returned (.agg #[.slice a n c, .bool true, .int .i64 0, .int .i64 0]) ∧ Below W.heap.size W w' := by
  go_enter Tryz.func70, Tryz.ntmps70
  go_wp2
  exact ⟨rfl, _, results_cell_row (P := Tryz.prog) rfl _ _ W.heap.size 108 _ (0, 0) _ rfl (World.alloc_heap_new W _) Tryz.underlying108 rfl (by kernel_rfl), rfl, (Below.refl _ W).alloc (Nat.le_refl _) _⟩
end Go.Proofs.YtaeobgajhieajaaGreatDoor
