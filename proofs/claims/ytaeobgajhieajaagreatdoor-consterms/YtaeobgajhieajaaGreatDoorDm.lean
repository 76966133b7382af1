/-
  What is proved here: shaped, tooLong; slices.EqualFunc of arguments and parts.
-/
import Derived.Test.YtaeobgajhieajaaGreatDoorDl
namespace Go.Proofs.YtaeobgajhieajaaGreatDoor
open Go.RowKit Go.Shelf
set_option linter.unusedVariables false
set_option linter.unusedSimpArgs false
/-- Is an argument an array where the part says so, and else one term? -/
def shapedB (g : Ag) (part : List UInt8) : Bool := if Lib.hasPrefix part [97] then g.arr else !g.arr && g.l.length == 1

set_option maxRecDepth 100000 in
set_option maxHeartbeats 4000000 in
theorem shaped_any (g : Ag) (a : Option Addr) (c : Nat) (part : List UInt8) (hl : g.l.length ≤ 1000000000000) (W : World) : Calls Tryz.prog 47 #[.agg #[.bool g.arr, .slice a g.l.length c], .string ⟨part.toArray⟩] W fun e w' => e = .returned (.bool (shapedB g part)) ∧ Below W.heap.size W w' := by
  have k := Any.strings_HasPrefix Tryz.laysHasPrefix68 ⟨part.toArray⟩ ⟨#[97]⟩
  have HE : Hid (shapedB g part = if Lib.hasPrefix part [97] then g.arr else !g.arr && g.l.length == 1) := rfl
  obtain ⟨r, hr⟩ : ∃ r, shapedB g part = r := ⟨_, rfl⟩
  obtain ⟨x, hx⟩ : ∃ x, Lib.hasPrefix part [97] = x := ⟨_, rfl⟩
  obtain ⟨ar, har⟩ : ∃ x, g.arr = x := ⟨_, rfl⟩
  obtain ⟨n, hn⟩ : ∃ n, g.l.length = n := ⟨_, rfl⟩
  rw [hr, hx, har, hn] at HE
  rw [hn] at hl
  rw [hr, har, hn]
  have k2 : ∀ w, Calls Tryz.prog 68 #[.string ⟨part.toArray⟩, .string ⟨#[97]⟩] w fun e w' => e = .returned (.bool x) ∧ w' = w := fun w => (k w).mono fun e w' ⟨he, hw⟩ => ⟨by rw [he]; have : Lib.hasPrefix part [97] = x := hx; rw [← this], hw⟩
  clear k hr hx har hn
  go_enter Tryz.func47, Tryz.ntmps47
  go_wp2_with fail
  refine (k2 _).mono ?_
  rintro e w1 ⟨rfl, rfl⟩
  by_cases h1 : n = 1
  · subst h1
    cases x <;> cases ar <;>
    · go_wp2
      go_ret
      exact ⟨by rw [HE.out]; rfl, (Below.refl _ W).alloc (Nat.le_refl _) _⟩
  · have h2 : ((n : Int) == 1) = false := by simp; omega
    have h3 : (n == 1) = false := by simp [h1]
    cases x <;> cases ar <;>
    · go_wp2
      go_ret
      exact ⟨by rw [HE.out]; simp [h3], (Below.refl _ W).alloc (Nat.le_refl _) _⟩

set_option maxRecDepth 100000 in
set_option maxHeartbeats 4000000 in
theorem tooLong_any (g : Ag) (a : Option Addr) (c : Nat) (hl : g.l.length ≤ 1000) (W : World) : Calls Tryz.prog 49 #[.agg #[.bool g.arr, .slice a g.l.length c]] W fun e w' => e = .returned (.bool false) ∧ Below W.heap.size W w' := by
  obtain ⟨ar, har⟩ : ∃ x, g.arr = x := ⟨_, rfl⟩
  obtain ⟨n, hn⟩ : ∃ n, g.l.length = n := ⟨_, rfl⟩
  rw [hn] at hl
  rw [har, hn]
  clear har hn
  have h1 : ¬ (1000 : Int) < n := by omega
  go_enter Tryz.func49, Tryz.ntmps49
  go_wp2
  go_ret
  exact ⟨by simp [h1], (Below.refl _ W).alloc (Nat.le_refl _) _⟩
end Go.Proofs.YtaeobgajhieajaaGreatDoor
