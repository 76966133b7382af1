/-
  What is proved here: a slice of numbers that came in is no longer than a machine's memory.
-/
import Derived.Test.YthpbgplbgnefcaaGreatDoorPr
namespace Go.Proofs.YthpbgplbgnefcaaGreatDoor
open Go.ChangeShapes Go.WideShapes Go.ChangeAt Go.RowKit Go.Deep
set_option linter.unusedVariables false
set_option linter.unusedSimpArgs false

theorem bytes2 : Tryz.prog.bytesOf 2 = 8 := by kernel_rfl
theorem ints_sized {H : Type} {enc : TypeId × Value → H} {W : World} {fuel : Nat} {a : Option Addr} {len cap : Nat} {d : DataW H} {pl : List MemPlace} {ts : List TypeId} {ds : List (DataW H)} (j : Nat)
    (h : DataW.trod enc Tryz.prog W 0 (fun _ => true) true fuel 22 (Value.slice a len cap).cells.toList = some (d, pl)) (hsz : (DataW.weightsEach Tryz.prog ts ds).all (· ≤ reachBytes) = true) (ht : ts[j]? = some 22) (hd : ds[j]? = some d) : len * 8 ≤ 140737488351232 := by
  rcases open_ints Tryz.underlying22 Tryz.underlying2 (by kernel_rfl) h with ⟨hcs, _⟩ | ⟨x, l, c, zs, hcs, _, hl, hm, hz, hx, hcell, hwz⟩
  · simp [Value.cells] at hcs
    obtain ⟨rfl, rfl, rfl⟩ := hcs
    decide
  · simp [Value.cells] at hcs
    obtain ⟨rfl, rfl, rfl⟩ := hcs
    simp only [Prod.mk.injEq] at hx
    simp only [if_true] at hz
    have hx' := hx.1
    have := sized_slice hsz ht (hd.trans (by rw [hx'])) Tryz.underlying22
    have hlen : (lits (H := H) .i64 (zs.take len)).length = len := by simp [lits]; omega
    rw [bytes2, hlen] at this
    simp only [reachBytes] at this
    omega
end Go.Proofs.YthpbgplbgnefcaaGreatDoor
