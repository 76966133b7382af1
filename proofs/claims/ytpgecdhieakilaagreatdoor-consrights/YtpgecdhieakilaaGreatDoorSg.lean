/-
  DERIVED: THE SHELF's CONTRACTS AT THIS DUMP, IN PLAIN WORDS (tools/lay-plain.mjs out of 'YtpgecdhieakilaaGreatDoorSg.lean', which tools/lay-shelf.mjs wrote): THE SAME DECLARATIONS UNDER THE SAME NAMES: 'import', 'namespace', 'open', 'def', 'theorem' AND NOTHING ELSE: no command of the shelf's: FOR A HAND-IN. Each laying: the table of numbers ('.._ren') and one theorem, a field a fact of the dump's own or the kernel's comparison; each contract: ONE APPLICATION.
-/
import Derived.Shelf.SlGeneric
import Derived.Ground.SlgnProg
import Derived.Shelf.SlicesE.Clone
import Derived.Test.YtpgecdhieakilaaGreatDoorProg
namespace Go.Proofs
open Go.Shelf
def Tryz.laysClone57_ren : Go.Shelf.Ren := ⟨fun | 41 => 57 | n => n, fun | 22 => 30 | 23 => 54 | 4 => 4 | n => n, fun | n => n⟩
theorem Tryz.laysClone57 : Go.Proofs.SlLaysE0.n41 Tryz.prog Tryz.laysClone57_ren := {
  mixed := by kernel_rfl
  f41 := ⟨Tryz.f57.name, by decide, Tryz.func57.trans (congrArg some (by kernel_rfl))⟩
  t4 := Tryz.underlying4
  a4 := Tryz.isAgg4
  z4 := Tryz.sizeOf4
  v4 := Tryz.zeroValue4
  t22 := Tryz.underlying30
  a22 := Tryz.isAgg30
  z22 := Tryz.sizeOf30
  v22 := Tryz.zeroValue30 }
def Tryz.laysClone59_ren : Go.Shelf.Ren := ⟨fun | 41 => 59 | n => n, fun | 22 => 42 | 23 => 2 | 4 => 4 | n => n, fun | n => n⟩
theorem Tryz.laysClone59 : Go.Proofs.SlLaysE0.n41 Tryz.prog Tryz.laysClone59_ren := {
  mixed := by kernel_rfl
  f41 := ⟨Tryz.f59.name, by decide, Tryz.func59.trans (congrArg some (by kernel_rfl))⟩
  t4 := Tryz.underlying4
  a4 := Tryz.isAgg4
  z4 := Tryz.sizeOf4
  v4 := Tryz.zeroValue4
  t22 := Tryz.underlying42
  a22 := Tryz.isAgg42
  z22 := Tryz.sizeOf42
  v22 := Tryz.zeroValue42 }
def Tryz.laysClone84_ren : Go.Shelf.Ren := ⟨fun | 41 => 84 | n => n, fun | 22 => 52 | 23 => 46 | 4 => 4 | n => n, fun | n => n⟩
theorem Tryz.laysClone84 : Go.Proofs.SlLaysE0.n41 Tryz.prog Tryz.laysClone84_ren := {
  mixed := by kernel_rfl
  f41 := ⟨Tryz.f84.name, by decide, Tryz.func84.trans (congrArg some (by kernel_rfl))⟩
  t4 := Tryz.underlying4
  a4 := Tryz.isAgg4
  z4 := Tryz.sizeOf4
  v4 := Tryz.zeroValue4
  t22 := Tryz.underlying52
  a22 := Tryz.isAgg52
  z22 := Tryz.sizeOf52
  v22 := Tryz.zeroValue52 }
end Go.Proofs
