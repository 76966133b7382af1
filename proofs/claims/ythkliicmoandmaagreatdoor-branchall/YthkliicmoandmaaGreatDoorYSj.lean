/-
  DERIVED: THE SHELF's CONTRACTS AT THIS DUMP, IN PLAIN WORDS (tools/lay-plain.mjs out of 'SetsLayB.lean', which tools/lay-shelf.mjs wrote): THE SAME DECLARATIONS UNDER THE SAME NAMES: 'import', 'namespace', 'open', 'def', 'theorem' AND NOTHING ELSE: no command of the shelf's: FOR A HAND-IN. Each laying: the table of numbers ('.._ren') and one theorem, a field a fact of the dump's own or the kernel's comparison; each contract: ONE APPLICATION.
-/
import Derived.Shelf.SortG.Plain
import Derived.Shelf.SortG.SortNone
import Derived.Ground.SlgnProg
import Derived.Shelf.SlGeneric
import Derived.Test.YthkliicmoandmaaGreatDoorProg
namespace Go.Proofs
set_option linter.unusedSimpArgs false
set_option linter.unusedVariables false
open Go.Shelf
def Tryz.laysSort_ren : Go.Shelf.Ren := ⟨fun | 53 => 152 | 64 => 166 | 63 => 165 | 78 => 177 | 79 => 157 | 70 => 169 | 71 => 170 | 72 => 171 | 73 => 172 | 74 => 173 | 75 => 174 | 59 => 140 | 76 => 175 | 77 => 176 | 88 => 178 | 89 => 179 | 90 => 180 | 91 => 181 | 92 => 182 | 68 => 155 | 96 => 183 | n => n, fun | 22 => 48 | 23 => 2 | 3 => 3 | 51 => 128 | 0 => 0 | 67 => 179 | 69 => 166 | 4 => 4 | 61 => 190 | 60 => 189 | 44 => 137 | 5 => 5 | 9 => 9 | 75 => 197 | 79 => 201 | 83 => 203 | 84 => 204 | n => n, fun | n => n⟩
theorem Tryz.laysSort : Go.Proofs.SlLaysN.n53 Tryz.prog Tryz.laysSort_ren := {
  mixed := by kernel_rfl
  f53 := ⟨Tryz.f152.name, by decide, Tryz.func152.trans (congrArg some (by kernel_rfl))⟩
  f59 := ⟨Tryz.f140.name, by decide, Tryz.func140.trans (congrArg some (by kernel_rfl))⟩
  f63 := ⟨Tryz.f165.name, by decide, Tryz.func165.trans (congrArg some (by kernel_rfl))⟩
  f64 := Tryz.func166.trans (congrArg some (by kernel_rfl))
  f68 := ⟨Tryz.f155.name, by decide, Tryz.func155.trans (congrArg some (by kernel_rfl))⟩
  f70 := ⟨Tryz.f169.name, by decide, Tryz.func169.trans (congrArg some (by kernel_rfl))⟩
  f71 := ⟨Tryz.f170.name, by decide, Tryz.func170.trans (congrArg some (by kernel_rfl))⟩
  f72 := ⟨Tryz.f171.name, by decide, Tryz.func171.trans (congrArg some (by kernel_rfl))⟩
  f73 := ⟨Tryz.f172.name, by decide, Tryz.func172.trans (congrArg some (by kernel_rfl))⟩
  f74 := ⟨Tryz.f173.name, by decide, Tryz.func173.trans (congrArg some (by kernel_rfl))⟩
  f75 := ⟨Tryz.f174.name, by decide, Tryz.func174.trans (congrArg some (by kernel_rfl))⟩
  f76 := ⟨Tryz.f175.name, by decide, Tryz.func175.trans (congrArg some (by kernel_rfl))⟩
  f77 := ⟨Tryz.f176.name, by decide, Tryz.func176.trans (congrArg some (by kernel_rfl))⟩
  f78 := Tryz.func177.trans (congrArg some (by kernel_rfl))
  f79 := Tryz.func157.trans (congrArg some (by kernel_rfl))
  f88 := ⟨Tryz.f178.name, by decide, Tryz.func178.trans (congrArg some (by kernel_rfl))⟩
  f89 := Tryz.func179.trans (congrArg some (by kernel_rfl))
  f90 := Tryz.func180.trans (congrArg some (by kernel_rfl))
  f91 := ⟨Tryz.f181.name, by decide, Tryz.func181.trans (congrArg some (by kernel_rfl))⟩
  f92 := ⟨Tryz.f182.name, by decide, Tryz.func182.trans (congrArg some (by kernel_rfl))⟩
  f96 := ⟨Tryz.f183.name, by decide, Tryz.func183.trans (congrArg some (by kernel_rfl))⟩
  t0 := Tryz.underlying0
  a0 := Tryz.isAgg0
  z0 := Tryz.sizeOf0
  v0 := Tryz.zeroValue0
  t3 := Tryz.underlying3
  a3 := Tryz.isAgg3
  z3 := Tryz.sizeOf3
  v3 := Tryz.zeroValue3
  t4 := Tryz.underlying4
  a4 := Tryz.isAgg4
  z4 := Tryz.sizeOf4
  v4 := Tryz.zeroValue4
  t5 := Tryz.underlying5
  a5 := Tryz.isAgg5
  z5 := Tryz.sizeOf5
  v5 := Tryz.zeroValue5
  t9 := Tryz.underlying9
  a9 := Tryz.isAgg9
  z9 := Tryz.sizeOf9
  v9 := Tryz.zeroValue9
  t22 := Tryz.underlying48
  a22 := Tryz.isAgg48
  z22 := Tryz.sizeOf48
  v22 := Tryz.zeroValue48
  t23 := Tryz.underlying2
  a23 := Tryz.isAgg2
  z23 := Tryz.sizeOf2
  v23 := Tryz.zeroValue2
  t44 := Tryz.underlying137
  a44 := Tryz.isAgg137
  z44 := Tryz.sizeOf137
  v44 := Tryz.zeroValue137
  t51 := Tryz.underlying128
  a51 := Tryz.isAgg128
  z51 := Tryz.sizeOf128
  v51 := Tryz.zeroValue128
  t60 := Tryz.underlying189
  a60 := Tryz.isAgg189
  z60 := Tryz.sizeOf189
  v60 := Tryz.zeroValue189
  t61 := Tryz.underlying190
  a61 := Tryz.isAgg190
  z61 := Tryz.sizeOf190
  v61 := Tryz.zeroValue190
  t67 := Tryz.underlying179
  a67 := Tryz.isAgg179
  z67 := Tryz.sizeOf179
  v67 := Tryz.zeroValue179
  t69 := Tryz.underlying166
  a69 := Tryz.isAgg166
  z69 := Tryz.sizeOf166
  v69 := Tryz.zeroValue166
  t75 := Tryz.underlying197
  a75 := Tryz.isAgg197
  z75 := Tryz.sizeOf197
  v75 := Tryz.zeroValue197
  t79 := Tryz.underlying201
  a79 := Tryz.isAgg201
  z79 := Tryz.sizeOf201
  v79 := Tryz.zeroValue201
  t83 := Tryz.underlying203
  a83 := Tryz.isAgg203
  z83 := Tryz.sizeOf203
  v83 := Tryz.zeroValue203
  t84 := Tryz.underlying204
  a84 := Tryz.isAgg204
  z84 := Tryz.sizeOf204
  v84 := Tryz.zeroValue204 }
end Go.Proofs

