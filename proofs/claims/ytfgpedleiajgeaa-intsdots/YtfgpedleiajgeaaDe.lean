/-
  What is proved here: what the reference's Dot returns at any two slices of one length, and both Dots where the lengths differ.
-/
import Derived.Test.YtfgpedleiajgeaaDd
namespace Go.Proofs.Ytfgpedleiajgeaa
open Go.RowKit

set_option maxHeartbeats 400000 in
theorem dot_len (s1 s2 : Value) (da db : List Int) (w : World) (h1 : Sl w s1 da) (h2 : Sl w s2 db) (hl : da.length ≠ db.length) :
    Calls Try.prog 31 #[s1, s2] w fun e w' => e = .returned (.tuple #[.int .i64 0, .int .i64 1]) ∧ Below w.heap.size w w' := by
  have g0 : ((da.length : Int) != (db.length : Int)) = true := by simp; omega
  obtain ⟨a1, c1, rfl, _⟩ := h1
  obtain ⟨a2, c2, rfl, _⟩ := h2
  go_enter Try.func31, Try.ntmps31
  go_wp2
  go_ret2
  exact ⟨rfl, Below.refl _ _⟩
set_option maxHeartbeats 400000 in
theorem rdot_len (s1 s2 : Value) (da db : List Int) (w : World) (h1 : Sl w s1 da) (h2 : Sl w s2 db) (hl : da.length ≠ db.length) :
    Calls Try.prog 32 #[s1, s2] w fun e w' => e = .returned (.tuple #[.int .i64 0, .int .i64 1]) ∧ Below w.heap.size w w' := by
  have g0 : ((da.length : Int) != (db.length : Int)) = true := by simp; omega
  obtain ⟨a1, c1, rfl, _⟩ := h1
  obtain ⟨a2, c2, rfl, _⟩ := h2
  go_enter Try.func32, Try.ntmps32
  go_wp2
  go_ret2
  exact ⟨rfl, Below.refl _ _⟩

end Go.Proofs.Ytfgpedleiajgeaa
