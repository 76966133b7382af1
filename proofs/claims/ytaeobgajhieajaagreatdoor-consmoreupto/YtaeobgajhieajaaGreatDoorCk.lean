/-
  What is proved here: package cons and the reference have the same names, in the same order, with the same forms and families.
-/
import Derived.Test.YtaeobgajhieajaaGreatDoorCj
import Derived.Test.YtaeobgajhieajaaGreatDoorCej
namespace Go.Proofs.YtaeobgajhieajaaGreatDoor
open Go.RowKit Go.Shelf
set_option linter.unusedVariables false
set_option linter.unusedSimpArgs false

def rowF (k : Nat) : List (List UInt8 × List UInt8 × List UInt8) := (nmL (rowK k).2.2).map fun n => (n, (rowK k).2.1, (rowK k).1)
theorem tbl_same : (List.range 48).flatMap rowF = (List.range 105).map rtK := by kernel_rfl
theorem row_find (nm : List UInt8) (k : Nat) : (rowF k).find? (fun r => r.1 == nm) = if hit nm k = true then some (nm, (rowK k).2.1, (rowK k).1) else none := by
  unfold rowF hit
  generalize nmL (rowK k).2.2 = l
  induction l with
  | nil => rfl
  | cons x l ih =>
    rw [List.map_cons, List.find?_cons, List.contains_cons]
    by_cases hx : x = nm
    · subst hx; simp
    · have h1 : (x == nm) = false := by simpa using hx
      have h2 : (nm == x) = false := by simpa using fun e => hx e.symm
      simp only [h1, h2, Bool.false_or]
      exact ih
theorem flat_find (nm : List UInt8) : ∀ ks : List Nat, (ks.flatMap rowF).find? (fun r => r.1 == nm) = (ks.find? (hit nm)).map fun k => (nm, (rowK k).2.1, (rowK k).1)
  | [] => rfl
  | k :: ks => by
    rw [List.flatMap_cons, List.find?_append, row_find, List.find?_cons, flat_find nm ks]
    cases hit nm k <;> simp
theorem find_same (nm : List UInt8) : (findT nm).1 = (rfind nm).2.2 ∧ (findT nm).2 = (rfind nm).2.1 := by
  have h := flat_find nm (List.range 48)
  rw [tbl_same, List.find?_map] at h
  have e : ((fun r : List UInt8 × List UInt8 × List UInt8 => r.1 == nm) ∘ rtK) = rhit nm := rfl
  rw [e] at h
  unfold findT rfind
  cases h1 : (List.range 105).find? (rhit nm) with
  | none =>
    rw [h1] at h
    cases h2 : (List.range 48).find? (hit nm) with
    | none => exact ⟨rfl, rfl⟩
    | some k => rw [h2] at h; cases h
  | some j =>
    rw [h1] at h
    cases h2 : (List.range 48).find? (hit nm) with
    | none => rw [h2] at h; cases h
    | some k =>
      rw [h2] at h
      simp only [Option.map_some, Option.some.injEq] at h
      dsimp only
      rw [h]
      exact ⟨rfl, rfl⟩
theorem names_same : preN 48 = (List.range 105).map fun k => (rtK k).1 := by
  have := congrArg (fun l => l.map fun r => r.1) tbl_same
  simp only [List.map_flatMap, List.map_map] at this
  unfold preN
  rw [show ((fun k => (rtK k).1) : Nat → List UInt8) = (fun r : List UInt8 × List UInt8 × List UInt8 => r.1) ∘ rtK from rfl, ← this]
  congr 1
  funext k
  unfold rowF
  rw [List.map_map]
  exact (List.map_id _).symm
theorem names_len : (preN 48).length = 105 := by rw [names_same]; simp
end Go.Proofs.YtaeobgajhieajaaGreatDoor
