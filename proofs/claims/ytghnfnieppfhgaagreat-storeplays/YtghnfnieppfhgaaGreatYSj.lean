/- DERIVED: THE SHELF's CONTRACTS AT THIS DUMP, IN PLAIN WORDS (tools/lay-plain.mjs out of 'SetsLayB.lean', which tools/lay-shelf.mjs wrote): THE SAME DECLARATIONS UNDER THE SAME NAMES: 'import', 'namespace', 'open', 'def', 'theorem' AND NOTHING ELSE: no command of the shelf's: FOR A HAND-IN. Each laying: the table of numbers ('.._ren') and one theorem, a field a fact of the dump's own or the kernel's comparison; each contract: ONE APPLICATION. -/
import Derived.Shelf.SortG.Plain
import Derived.Shelf.SortG.SortNone
import Derived.Ground.SlgnProg
import Derived.Shelf.SlGeneric
import Derived.Test.YtghnfnieppfhgaaGreatProg
set_option linter.unusedSimpArgs false
set_option linter.unusedVariables false
namespace Go.Proofs
open Go.Shelf
def Tryz.laysSort_ren:Go.Shelf.Ren:=⟨fun | 53=>129 | 64=>134 | 63=>133 | 78=>144 | 79=>145 | 70=>136 | 71=>137 | 72=>138 | 73=>139 | 74=>140 | 75=>141 | 59=>130 | 76=>142 | 77=>143 | 88=>146 | 89=>147 | 90=>148 | 91=>149 | 92=>150 | 68=>135 | 96=>151 | n=>n,fun | 22=>35 | 23=>2 | 3=>3 | 51=>138 | 0=>0 | 67=>151 | 69=>153 | 4=>4 | 61=>145 | 60=>144 | 44=>134 | 5=>5 | 9=>9 | 75=>154 | 79=>158 | 83=>160 | 84=>161 | n=>n,fun | n=>n⟩
theorem Tryz.laysSort:Go.Proofs.SlLaysN.n53 Tryz.prog Tryz.laysSort_ren:={
 mixed:=by kernel_rfl
 f53:=⟨Tryz.f129.name,by decide,Tryz.func129.trans (congrArg some (by kernel_rfl))⟩
 f59:=⟨Tryz.f130.name,by decide,Tryz.func130.trans (congrArg some (by kernel_rfl))⟩
 f63:=⟨Tryz.f133.name,by decide,Tryz.func133.trans (congrArg some (by kernel_rfl))⟩
 f64:=Tryz.func134.trans (congrArg some (by kernel_rfl))
 f68:=⟨Tryz.f135.name,by decide,Tryz.func135.trans (congrArg some (by kernel_rfl))⟩
 f70:=⟨Tryz.f136.name,by decide,Tryz.func136.trans (congrArg some (by kernel_rfl))⟩
 f71:=⟨Tryz.f137.name,by decide,Tryz.func137.trans (congrArg some (by kernel_rfl))⟩
 f72:=⟨Tryz.f138.name,by decide,Tryz.func138.trans (congrArg some (by kernel_rfl))⟩
 f73:=⟨Tryz.f139.name,by decide,Tryz.func139.trans (congrArg some (by kernel_rfl))⟩
 f74:=⟨Tryz.f140.name,by decide,Tryz.func140.trans (congrArg some (by kernel_rfl))⟩
 f75:=⟨Tryz.f141.name,by decide,Tryz.func141.trans (congrArg some (by kernel_rfl))⟩
 f76:=⟨Tryz.f142.name,by decide,Tryz.func142.trans (congrArg some (by kernel_rfl))⟩
 f77:=⟨Tryz.f143.name,by decide,Tryz.func143.trans (congrArg some (by kernel_rfl))⟩
 f78:=Tryz.func144.trans (congrArg some (by kernel_rfl))
 f79:=Tryz.func145.trans (congrArg some (by kernel_rfl))
 f88:=⟨Tryz.f146.name,by decide,Tryz.func146.trans (congrArg some (by kernel_rfl))⟩
 f89:=Tryz.func147.trans (congrArg some (by kernel_rfl))
 f90:=Tryz.func148.trans (congrArg some (by kernel_rfl))
 f91:=⟨Tryz.f149.name,by decide,Tryz.func149.trans (congrArg some (by kernel_rfl))⟩
 f92:=⟨Tryz.f150.name,by decide,Tryz.func150.trans (congrArg some (by kernel_rfl))⟩
 f96:=⟨Tryz.f151.name,by decide,Tryz.func151.trans (congrArg some (by kernel_rfl))⟩
 t0:=Tryz.underlying0
 a0:=Tryz.isAgg0
 z0:=Tryz.sizeOf0
 v0:=Tryz.zeroValue0
 t3:=Tryz.underlying3
 a3:=Tryz.isAgg3
 z3:=Tryz.sizeOf3
 v3:=Tryz.zeroValue3
 t4:=Tryz.underlying4
 a4:=Tryz.isAgg4
 z4:=Tryz.sizeOf4
 v4:=Tryz.zeroValue4
 t5:=Tryz.underlying5
 a5:=Tryz.isAgg5
 z5:=Tryz.sizeOf5
 v5:=Tryz.zeroValue5
 t9:=Tryz.underlying9
 a9:=Tryz.isAgg9
 z9:=Tryz.sizeOf9
 v9:=Tryz.zeroValue9
 t22:=Tryz.underlying35
 a22:=Tryz.isAgg35
 z22:=Tryz.sizeOf35
 v22:=Tryz.zeroValue35
 t23:=Tryz.underlying2
 a23:=Tryz.isAgg2
 z23:=Tryz.sizeOf2
 v23:=Tryz.zeroValue2
 t44:=Tryz.underlying134
 a44:=Tryz.isAgg134
 z44:=Tryz.sizeOf134
 v44:=Tryz.zeroValue134
 t51:=Tryz.underlying138
 a51:=Tryz.isAgg138
 z51:=Tryz.sizeOf138
 v51:=Tryz.zeroValue138
 t60:=Tryz.underlying144
 a60:=Tryz.isAgg144
 z60:=Tryz.sizeOf144
 v60:=Tryz.zeroValue144
 t61:=Tryz.underlying145
 a61:=Tryz.isAgg145
 z61:=Tryz.sizeOf145
 v61:=Tryz.zeroValue145
 t67:=Tryz.underlying151
 a67:=Tryz.isAgg151
 z67:=Tryz.sizeOf151
 v67:=Tryz.zeroValue151
 t69:=Tryz.underlying153
 a69:=Tryz.isAgg153
 z69:=Tryz.sizeOf153
 v69:=Tryz.zeroValue153
 t75:=Tryz.underlying154
 a75:=Tryz.isAgg154
 z75:=Tryz.sizeOf154
 v75:=Tryz.zeroValue154
 t79:=Tryz.underlying158
 a79:=Tryz.isAgg158
 z79:=Tryz.sizeOf158
 v79:=Tryz.zeroValue158
 t83:=Tryz.underlying160
 a83:=Tryz.isAgg160
 z83:=Tryz.sizeOf160
 v83:=Tryz.zeroValue160
 t84:=Tryz.underlying161
 a84:=Tryz.isAgg161
 z84:=Tryz.sizeOf161
 v84:=Tryz.zeroValue161 }
end Go.Proofs
