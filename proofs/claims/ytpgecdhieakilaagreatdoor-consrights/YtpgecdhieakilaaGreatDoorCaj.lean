/-
  What is proved here: the table of constraints as package cons has it, gone through.
  What is proved here: the table of constraints as package cons has it: what its iterator tells.
  What is proved here: the names of a row of the table, gone through.
-/
import Derived.Test.YtpgecdhieakilaaGreatDoorSh
import Derived.Test.YtpgecdhieakilaaGreatDoorRows
import Derived.RangeFuncNested
import Derived.RangeFuncBound
import Derived.RangeFuncCalls
import Derived.RangeFuncLeaves
import Derived.Shelf.Abstract
import Derived.Shelf.RegionOpen
import Derived.WalkKit
import Derived.OwnWalk
import Derived.OwnWalkIn
import Derived.TacticsInMore
import Derived.LoopNIn
import Derived.LoopIn
import Derived.Laws.Externs
import Derived.BigFrameIn
import Derived.Deep.QuietTactic
import Derived.BigQuiet
import Derived.OrdersIn
import Derived.OrdersHeld
import Derived.Sort.CutIn
namespace Go.Proofs.YtpgecdhieakilaaGreatDoor
open Go.RowKit Go.Shelf
set_option linter.unusedVariables false
set_option linter.unusedSimpArgs false

/-- The table: the family, the form, the names. -/
def tbl : List (List UInt8 × List UInt8 × List UInt8) := [([108, 105, 110, 101, 97, 114], [73, 44, 73], [105, 110, 116, 95, 101, 113, 32, 105, 110, 116, 95, 110, 101, 32, 105, 110, 116, 95, 108, 101, 32, 105, 110, 116, 95, 108, 116]),
  ([108, 105, 110, 101, 97, 114], [73, 44, 73, 44, 66], [105, 110, 116, 95, 101, 113, 95, 114, 101, 105, 102, 32, 105, 110, 116, 95, 110, 101, 95, 114, 101, 105, 102, 32, 105, 110, 116, 95, 108, 101, 95, 114, 101, 105, 102, 32, 105, 110, 116, 95, 108, 116, 95, 114, 101, 105, 102, 32, 105, 110, 116, 95, 101, 113, 95, 105, 109, 112, 32, 105, 110, 116, 95, 110, 101, 95, 105, 109, 112, 32, 105, 110, 116, 95, 108, 101, 95, 105, 109, 112, 32, 105, 110, 116, 95, 108, 116, 95, 105, 109, 112]),
  ([108, 105, 110, 101, 97, 114], [97, 105, 44, 97, 73, 44, 105], [105, 110, 116, 95, 108, 105, 110, 95, 101, 113, 32, 105, 110, 116, 95, 108, 105, 110, 95, 110, 101, 32, 105, 110, 116, 95, 108, 105, 110, 95, 108, 101]),
  ([108, 105, 110, 101, 97, 114], [97, 105, 44, 97, 73, 44, 105, 44, 66], [105, 110, 116, 95, 108, 105, 110, 95, 101, 113, 95, 114, 101, 105, 102, 32, 105, 110, 116, 95, 108, 105, 110, 95, 110, 101, 95, 114, 101, 105, 102, 32, 105, 110, 116, 95, 108, 105, 110, 95, 108, 101, 95, 114, 101, 105, 102, 32, 105, 110, 116, 95, 108, 105, 110, 95, 101, 113, 95, 105, 109, 112, 32, 105, 110, 116, 95, 108, 105, 110, 95, 110, 101, 95, 105, 109, 112, 32, 105, 110, 116, 95, 108, 105, 110, 95, 108, 101, 95, 105, 109, 112]),
  ([108, 105, 110, 101, 97, 114], [97, 105, 44, 97, 66, 44, 73], [98, 111, 111, 108, 95, 108, 105, 110, 95, 101, 113]),
  ([108, 105, 110, 101, 97, 114], [97, 105, 44, 97, 66, 44, 105], [98, 111, 111, 108, 95, 108, 105, 110, 95, 108, 101]),
  ([97, 114, 105, 116, 104], [73, 44, 73, 44, 73], [105, 110, 116, 95, 112, 108, 117, 115, 32, 105, 110, 116, 95, 116, 105, 109, 101, 115, 32, 105, 110, 116, 95, 100, 105, 118, 32, 105, 110, 116, 95, 109, 111, 100, 32, 105, 110, 116, 95, 109, 105, 110, 32, 105, 110, 116, 95, 109, 97, 120, 32, 105, 110, 116, 95, 112, 111, 119]),
  ([97, 114, 105, 116, 104], [73, 44, 73], [105, 110, 116, 95, 97, 98, 115]),
  ([97, 114, 105, 116, 104], [73, 44, 97, 105, 44, 73], [97, 114, 114, 97, 121, 95, 105, 110, 116, 95, 101, 108, 101, 109, 101, 110, 116]),
  ([97, 114, 105, 116, 104], [73, 44, 97, 73, 44, 73], [97, 114, 114, 97, 121, 95, 118, 97, 114, 95, 105, 110, 116, 95, 101, 108, 101, 109, 101, 110, 116]),
  ([97, 114, 105, 116, 104], [73, 44, 97, 98, 44, 66], [97, 114, 114, 97, 121, 95, 98, 111, 111, 108, 95, 101, 108, 101, 109, 101, 110, 116]),
  ([97, 114, 105, 116, 104], [73, 44, 97, 66, 44, 66], [97, 114, 114, 97, 121, 95, 118, 97, 114, 95, 98, 111, 111, 108, 95, 101, 108, 101, 109, 101, 110, 116]),
  ([97, 114, 105, 116, 104], [73, 44, 97, 115, 44, 83], [97, 114, 114, 97, 121, 95, 115, 101, 116, 95, 101, 108, 101, 109, 101, 110, 116]),
  ([108, 111, 103, 105, 99], [66, 44, 73], [98, 111, 111, 108, 50, 105, 110, 116]),
  ([108, 111, 103, 105, 99], [66, 44, 66], [98, 111, 111, 108, 95, 101, 113, 32, 98, 111, 111, 108, 95, 110, 101, 32, 98, 111, 111, 108, 95, 108, 101, 32, 98, 111, 111, 108, 95, 108, 116, 32, 98, 111, 111, 108, 95, 110, 111, 116]),
  ([108, 111, 103, 105, 99], [66, 44, 66, 44, 66], [98, 111, 111, 108, 95, 101, 113, 95, 114, 101, 105, 102, 32, 98, 111, 111, 108, 95, 110, 101, 95, 114, 101, 105, 102, 32, 98, 111, 111, 108, 95, 108, 101, 95, 114, 101, 105, 102, 32, 98, 111, 111, 108, 95, 108, 116, 95, 114, 101, 105, 102, 32, 98, 111, 111, 108, 95, 97, 110, 100, 32, 98, 111, 111, 108, 95, 111, 114, 32, 98, 111, 111, 108, 95, 120, 111, 114]),
  ([108, 111, 103, 105, 99], [97, 66, 44, 97, 66], [98, 111, 111, 108, 95, 99, 108, 97, 117, 115, 101]),
  ([108, 111, 103, 105, 99], [97, 66, 44, 97, 66, 44, 66], [98, 111, 111, 108, 95, 99, 108, 97, 117, 115, 101, 95, 114, 101, 105, 102]),
  ([108, 111, 103, 105, 99], [97, 66, 44, 66], [97, 114, 114, 97, 121, 95, 98, 111, 111, 108, 95, 97, 110, 100, 32, 97, 114, 114, 97, 121, 95, 98, 111, 111, 108, 95, 111, 114]),
  ([108, 111, 103, 105, 99], [97, 66], [97, 114, 114, 97, 121, 95, 98, 111, 111, 108, 95, 120, 111, 114]),
  ([115, 101, 116, 99, 111, 110], [73, 44, 83], [115, 101, 116, 95, 105, 110]),
  ([115, 101, 116, 99, 111, 110], [73, 44, 83, 44, 66], [115, 101, 116, 95, 105, 110, 95, 114, 101, 105, 102, 32, 115, 101, 116, 95, 105, 110, 95, 105, 109, 112]),
  ([115, 101, 116, 99, 111, 110], [83, 44, 73], [115, 101, 116, 95, 99, 97, 114, 100]),
  ([115, 101, 116, 99, 111, 110], [83, 44, 83], [115, 101, 116, 95, 101, 113, 32, 115, 101, 116, 95, 110, 101, 32, 115, 101, 116, 95, 115, 117, 98, 115, 101, 116, 32, 115, 101, 116, 95, 115, 117, 112, 101, 114, 115, 101, 116, 32, 115, 101, 116, 95, 108, 101, 32, 115, 101, 116, 95, 108, 116]),
  ([115, 101, 116, 99, 111, 110], [83, 44, 83, 44, 66], [115, 101, 116, 95, 101, 113, 95, 114, 101, 105, 102, 32, 115, 101, 116, 95, 110, 101, 95, 114, 101, 105, 102, 32, 115, 101, 116, 95, 115, 117, 98, 115, 101, 116, 95, 114, 101, 105, 102, 32, 115, 101, 116, 95, 115, 117, 112, 101, 114, 115, 101, 116, 95, 114, 101, 105, 102, 32, 115, 101, 116, 95, 108, 101, 95, 114, 101, 105, 102, 32, 115, 101, 116, 95, 108, 116, 95, 114, 101, 105, 102]),
  ([115, 101, 116, 99, 111, 110], [83, 44, 83, 44, 83], [115, 101, 116, 95, 117, 110, 105, 111, 110, 32, 115, 101, 116, 95, 105, 110, 116, 101, 114, 115, 101, 99, 116, 32, 115, 101, 116, 95, 100, 105, 102, 102, 32, 115, 101, 116, 95, 115, 121, 109, 100, 105, 102, 102]),
  ([99, 111, 117, 110, 116], [97, 73], [102, 122, 110, 95, 97, 108, 108, 95, 100, 105, 102, 102, 101, 114, 101, 110, 116, 95, 105, 110, 116, 32, 102, 122, 110, 95, 97, 108, 108, 95, 101, 113, 117, 97, 108, 95, 105, 110, 116]),
  ([99, 111, 117, 110, 116], [97, 73, 44, 97, 105, 44, 97, 73], [102, 122, 110, 95, 103, 108, 111, 98, 97, 108, 95, 99, 97, 114, 100, 105, 110, 97, 108, 105, 116, 121, 32, 102, 122, 110, 95, 103, 108, 111, 98, 97, 108, 95, 99, 97, 114, 100, 105, 110, 97, 108, 105, 116, 121, 95, 99, 108, 111, 115, 101, 100]),
  ([99, 111, 117, 110, 116], [97, 73, 44, 73, 44, 73], [102, 122, 110, 95, 99, 111, 117, 110, 116, 95, 101, 113]),
  ([99, 111, 117, 110, 116], [73, 44, 97, 73, 44, 115], [102, 122, 110, 95, 97, 109, 111, 110, 103]),
  ([99, 111, 117, 110, 116], [73, 44, 97, 73], [102, 122, 110, 95, 110, 118, 97, 108, 117, 101]),
  ([99, 111, 117, 110, 116], [105, 44, 97, 73, 44, 105], [102, 122, 110, 95, 97, 116, 95, 109, 111, 115, 116, 95, 105, 110, 116, 32, 102, 122, 110, 95, 97, 116, 95, 108, 101, 97, 115, 116, 95, 105, 110, 116]),
  ([99, 111, 117, 110, 116], [105, 44, 105, 44, 97, 73], [102, 122, 110, 95, 118, 97, 108, 117, 101, 95, 112, 114, 101, 99, 101, 100, 101, 95, 105, 110, 116]),
  ([115, 101, 113], [97, 73, 44, 97, 73], [102, 122, 110, 95, 108, 101, 120, 95, 108, 101, 115, 115, 95, 105, 110, 116, 32, 102, 122, 110, 95, 108, 101, 120, 95, 108, 101, 115, 115, 101, 113, 95, 105, 110, 116, 32, 102, 122, 110, 95, 115, 111, 114, 116]),
  ([115, 101, 113], [97, 73], [102, 122, 110, 95, 105, 110, 99, 114, 101, 97, 115, 105, 110, 103, 95, 105, 110, 116, 32, 102, 122, 110, 95, 115, 116, 114, 105, 99, 116, 108, 121, 95, 105, 110, 99, 114, 101, 97, 115, 105, 110, 103, 95, 105, 110, 116, 32, 102, 122, 110, 95, 100, 101, 99, 114, 101, 97, 115, 105, 110, 103, 95, 105, 110, 116]),
  ([115, 101, 113], [97, 73, 44, 97, 73], [102, 122, 110, 95, 105, 110, 118, 101, 114, 115, 101]),
  ([115, 101, 113], [73, 44, 97, 73], [102, 122, 110, 95, 109, 97, 120, 105, 109, 117, 109, 95, 105, 110, 116, 32, 102, 122, 110, 95, 109, 105, 110, 105, 109, 117, 109, 95, 105, 110, 116]),
  ([115, 101, 113], [97, 73, 44, 73], [102, 122, 110, 95, 109, 101, 109, 98, 101, 114, 95, 105, 110, 116]),
  ([115, 101, 113], [97, 73, 44, 97, 105], [102, 122, 110, 95, 116, 97, 98, 108, 101, 95, 105, 110, 116]),
  ([115, 101, 113], [97, 73, 44, 105, 44, 105, 44, 97, 105, 44, 105, 44, 115], [102, 122, 110, 95, 114, 101, 103, 117, 108, 97, 114]),
  ([115, 99, 104, 101, 100], [97, 73], [102, 122, 110, 95, 99, 105, 114, 99, 117, 105, 116, 32, 102, 122, 110, 95, 115, 117, 98, 99, 105, 114, 99, 117, 105, 116]),
  ([115, 99, 104, 101, 100], [97, 73, 44, 97, 73, 44, 97, 73, 44, 73], [102, 122, 110, 95, 99, 117, 109, 117, 108, 97, 116, 105, 118, 101]),
  ([115, 99, 104, 101, 100], [97, 73, 44, 97, 73], [102, 122, 110, 95, 100, 105, 115, 106, 117, 110, 99, 116, 105, 118, 101]),
  ([115, 99, 104, 101, 100], [97, 73, 44, 97, 73, 44, 97, 73, 44, 97, 73], [102, 122, 110, 95, 100, 105, 102, 102, 110]),
  ([115, 99, 104, 101, 100], [105, 44, 97, 73, 44, 97, 105], [102, 122, 110, 95, 98, 105, 110, 95, 112, 97, 99, 107, 105, 110, 103]),
  ([115, 99, 104, 101, 100], [97, 105, 44, 97, 73, 44, 97, 105], [102, 122, 110, 95, 98, 105, 110, 95, 112, 97, 99, 107, 105, 110, 103, 95, 99, 97, 112, 97]),
  ([115, 99, 104, 101, 100], [97, 73, 44, 97, 73, 44, 97, 105], [102, 122, 110, 95, 98, 105, 110, 95, 112, 97, 99, 107, 105, 110, 103, 95, 108, 111, 97, 100]),
  ([115, 99, 104, 101, 100], [97, 105, 44, 97, 105, 44, 97, 73, 44, 73, 44, 73], [102, 122, 110, 95, 107, 110, 97, 112, 115, 97, 99, 107])]
def rowK (k : Nat) : List UInt8 × List UInt8 × List UInt8 := tbl.getD k ([], [], [])
def rowA (k : Nat) : Array Value := #[.string ⟨(rowK k).1.toArray⟩, .string ⟨(rowK k).2.1.toArray⟩, .string ⟨(rowK k).2.2.toArray⟩]
theorem idx95 (Bg : Array Value) (k : Nat) (hk : k < 48) (hBs : Bg.size = 144) (hBg : Bg.extract (k * 3) (k * 3 + 3) = rowA k) (w : World) : (Instr.index 95 (.agg Bg) (.int .i64 (k : Int))).run Tryz.prog w = .ok (.agg (rowA k)) w := by
  have hu : Tryz.prog.underlying 95 = some (.array 48 74) := by kernel_rfl
  have hi : (Tryz.prog.info? 74).map (·.size) = some 3 := by kernel_rfl
  obtain ⟨i, hi1, hi2⟩ : ∃ i, Tryz.prog.info? 74 = some i ∧ i.size = 3 := by
    cases h : Tryz.prog.info? 74 with
    | none => rw [h] at hi; cases hi
    | some i => rw [h] at hi; exact ⟨i, rfl, by simpa using hi⟩
  have h1 : (0 : Int) ≤ (k : Int) ∧ (k : Int) < 48 := ⟨by omega, by omega⟩
  simp [Instr.index, run_underlying hu, asIntOf, h1, part, sizeOf, typeInfo, hi1, hi2, Sem.run_bind, Result.andThen, go_sem]
  rw [if_pos hk, hBg]

set_option maxRecDepth 100000 in
set_option maxHeartbeats 4000000 in
theorem loop38 (n lr : Nat) (Bg : Array Value) (hBs : Bg.size = 144) (hBg : ∀ k, k < 48 → Bg.extract (k * 3) (k * 3 + 3) = rowA k) (J : Nat → World → Prop) (Jx : World → Prop) (hJb : ∀ k w w', J k w → Below w.heap.size w w' → J k w')
    (hY : ∀ m k w, k < 48 → J k w → ∃ fn tmps assign body, (Instr.yield lr #[.agg (rowA k)]).run Tryz.prog w = .ok (.round lr fn tmps assign body) w ∧
      RoundIn Fence.wide m Tryz.prog lr fn tmps assign body w fun e w' => (e = .returned (.bool true) ∧ J (k + 1) w') ∨ (e = .returned (.bool false) ∧ Jx w'))
    {x1 x2 x3 x4 x5 x6 x7 x8 x9 x10 x11 x12 x13 x14 x15 x16 x17 x18 x19 x20 x21 x22 x23 x24 x25 x26 x27 x28 x29 x30 x31 x32 x33 x34 x35 x36 x37 x38 x39 x40 x41 x42 x43 x44 x45 x46 x47 x48 x49 x50 x51 x52 x53 x54 x55 x56 x57 x58 x59 x60 x61 x62 x63 x64 x65 x66 x67 x68 x69 x70 x71 x72 x73 x74 x75 x76 x77 x78 x79 x80 x81 x82 x83 x84 x85 x86 x87 x88 x89 x90 x91 x92 x93 x94 x95 x96 x97 x98 x99 x102 x103 x104 x105 x106 x107 x108 : Value} (W : World) (h0 : J 0 W) :
    (Code.block 0 ((Code.region 1 #[{ dst := some 102, op := Op.binOp BinOp.lss 3 (Operand.tmp 101) (Operand.const (Value.int IntKind.i64 48)) 3, type := 0, pos := "table.go:22", after := #[], guard := none }] false).seq ((Code.cond (Operand.tmp 102) Code.skip (Code.exit 0)).seq ((Code.block 1 ((Code.region 2 #[{ dst := some 103, op := Op.index 95 (Operand.tmp 100) (Operand.tmp 101), type := 74, pos := "table.go:22", after := #[], guard := none }, { dst := some 3, op := Op.alloc 74, type := 0, pos := "table.go:22", after := #[], guard := none }, { dst := none, op := Op.store 74 (Operand.tmp 3) (Operand.tmp 103), type := 0, pos := "table.go:22", after := #[{ on := 1, ground := Ground.data }, { on := 0, ground := Ground.data }, { on := 0, ground := Ground.phase }, { on := 1, ground := Ground.phase }], guard := none }] false).seq ((Code.region 3 #[{ dst := some 104, op := Op.move (Operand.tmp 0), type := 94, pos := "table.go:72", after := #[], guard := none }, { dst := some 105, op := Op.load 74 (Operand.tmp 3), type := 74, pos := "table.go:72", after := #[], guard := none }, { dst := some 106, op := Op.call { callee := Callee.value (Operand.tmp 104), args := #[Operand.tmp 105], argTypes := #[74] }, type := 4, pos := "table.go:72", after := #[{ on := 0, ground := Ground.data }, { on := 1, ground := Ground.data }], guard := none }, { dst := some 107, op := Op.unOp UnOp.not 4 (Operand.tmp 106), type := 4, pos := "table.go:72", after := #[{ on := 2, ground := Ground.data }], guard := none }] false).seq (Code.cond (Operand.tmp 107) Code.ret Code.skip)))).seq (Code.region 4 #[{ dst := some 108, op := Op.binOp BinOp.add 3 (Operand.tmp 101) (Operand.const (Value.int IntKind.i64 1)) 3, type := 3, pos := "table.go:22", after := #[], guard := none }, { dst := some 101, op := Op.move (Operand.tmp 108), type := 3, pos := "table.go:22", after := #[{ on := 0, ground := Ground.data }], guard := none }] false)))).loop).wpIn Fence.wide n Tryz.prog (bodyPost Tryz.prog Tryz.f38 fun e w' => (∃ v, e = .returned v) ∧ (J 48 w' ∨ Jx w')) { tmps := (.func (.yield lr) #[] #[] :: x1 :: x2 :: x3 :: x4 :: x5 :: x6 :: x7 :: x8 :: x9 :: x10 :: x11 :: x12 :: x13 :: x14 :: x15 :: x16 :: x17 :: x18 :: x19 :: x20 :: x21 :: x22 :: x23 :: x24 :: x25 :: x26 :: x27 :: x28 :: x29 :: x30 :: x31 :: x32 :: x33 :: x34 :: x35 :: x36 :: x37 :: x38 :: x39 :: x40 :: x41 :: x42 :: x43 :: x44 :: x45 :: x46 :: x47 :: x48 :: x49 :: x50 :: x51 :: x52 :: x53 :: x54 :: x55 :: x56 :: x57 :: x58 :: x59 :: x60 :: x61 :: x62 :: x63 :: x64 :: x65 :: x66 :: x67 :: x68 :: x69 :: x70 :: x71 :: x72 :: x73 :: x74 :: x75 :: x76 :: x77 :: x78 :: x79 :: x80 :: x81 :: x82 :: x83 :: x84 :: x85 :: x86 :: x87 :: x88 :: x89 :: x90 :: x91 :: x92 :: x93 :: x94 :: x95 :: x96 :: x97 :: x98 :: x99 :: .agg Bg :: .int .i64 0 :: x102 :: x103 :: x104 :: x105 :: x106 :: x107 :: x108 :: []).toArray, defers := [] } W := by
  gi_wp2
  gi_loopw [101] (fun i wr => ∃ k : Nat, k ≤ 48 ∧ i = .int .i64 k ∧ J k wr) (fun i _ => 48 - (intOf i).toNat)
  case atStart => exact ⟨0, Nat.zero_le _, rfl, h0⟩
  case round =>
    obtain ⟨k, hk, rfl, hJ⟩ := hrel
    by_cases hlt : k < 48
    · have hlt' : (k : Int) < 48 := by omega
      have hx := idx95 Bg k hlt hBs (hBg k hlt)
      obtain ⟨r0, r1, r2, hR⟩ : ∃ r0 r1 r2, rowA k = #[.string r0, .string r1, .string r2] := ⟨_, _, _, rfl⟩
      have hz := (Below.refl wr.heap.size wr).alloc (Nat.le_refl _) (Obj.cells (rowA k) 74)
      obtain ⟨fn, tmps, assign, body, hy, hRd⟩ := hY (n - 1) k (wr.alloc (Obj.cells (rowA k) 74)) hlt (hJb _ _ _ hJ hz)
      rw [hR] at hx hy hRd
      have HRD : Hid _ := hRd
      clear hRd hBg hJb hY hz
      gi_wp2
      refine ⟨(fun h => nomatch h), RoundIn.mono HRD.out ?_⟩
      rintro e w' (⟨rfl, hJ'⟩ | ⟨rfl, hJ'⟩)
      · have hw2 : IntKind.i64.wrap ((k : Int) + 1) = (k : Int) + 1 := by rw [IntKind.wrap_i64]; omega
        gi_wp2
        go_roundw
        case rel => exact ⟨k + 1, by omega, by go_num, hJ'⟩
        case measure => simp [intOf]; omega
      · gi_wp2
        exact ⟨rfl, _, results_none rfl _ _ _, ⟨_, rfl⟩, .inr hJ'⟩
    · have hlt' : ¬ (k : Int) < 48 := by omega
      obtain rfl : k = 48 := by omega
      gi_wp2
      have hfin : (∃ v, Ending.returned (Value.tuple #[]) = .returned v) ∧ (J 48 wr ∨ Jx wr) := ⟨⟨_, rfl⟩, .inl hJ⟩
      go_end0
      exact hfin
end Go.Proofs.YtpgecdhieakilaaGreatDoor

namespace Go.Proofs.YtpgecdhieakilaaGreatDoor
open Go.RowKit Go.Shelf
set_option linter.unusedVariables false
set_option linter.unusedSimpArgs false
/-- The walk stops here. -/
structure Stopped (p : Prop) : Prop where
  out : p
theorem stop_block2 {F : Fence} {n : Nat} {P : Program} {i : Nat} {c : Code} {Q : Exit → Act → World → Prop} {a : Act} {w : World} (h : Stopped ((Code.block i c).wpIn F n P Q a w)) : (Code.block i c).wpIn F n P Q a w := h.out
theorem rows_of {Bg : Array Value} (h : (List.range 48).map (fun k => Bg.extract (k * 3) (k * 3 + 3)) = (List.range 48).map rowA) : ∀ k, k < 48 → Bg.extract (k * 3) (k * 3 + 3) = rowA k := fun k hk => by
  have := congrArg (fun l => l[k]?) h
  simpa [hk] using this

set_option maxRecDepth 100000 in
set_option maxHeartbeats 4000000 in
theorem rows_any (n lr : Nat) (W : World) (J : Nat → World → Prop) (Jx : World → Prop) (hJb : ∀ k w w', J k w → Below w.heap.size w w' → J k w')
    (hY : ∀ m k w, k < 48 → J k w → ∃ fn tmps assign body, (Instr.yield lr #[.agg (rowA k)]).run Tryz.prog w = .ok (.round lr fn tmps assign body) w ∧
      RoundIn Fence.wide m Tryz.prog lr fn tmps assign body w fun e w' => (e = .returned (.bool true) ∧ J (k + 1) w') ∨ (e = .returned (.bool false) ∧ Jx w')) (h0 : J 0 W) :
    CallsIn Fence.wide n Tryz.prog 38 #[.func (.yield lr) #[] #[]] W fun e w' => (∃ v, e = .returned v) ∧ (J 48 w' ∨ Jx w') := by
  refine callsIn_of_wp Tryz.func38 rfl trivial ?_ rfl
  simp only [Tryz.ntmps38, List.size_toArray, List.length_cons, List.length_nil, Nat.reduceAdd, Nat.reduceSub, Array.replicate_succ, Array.replicate_zero, List.push_toArray, List.append_toArray, List.nil_append, List.cons_append]
  have HJ : Hid _ := hJb
  have HY : Hid _ := hY
  clear hJb hY
  gi_upto_region 1 with (with_reducible refine stop_block2 ?_)
  refine Stopped.mk ?_
  exact loop38 n lr _ rfl (rows_of (by kernel_rfl)) J Jx HJ.out HY.out W h0
end Go.Proofs.YtpgecdhieakilaaGreatDoor

namespace Go.Proofs.YtpgecdhieakilaaGreatDoor
open Go.RowKit Go.Shelf
set_option linter.unusedVariables false
set_option linter.unusedSimpArgs false

attribute [local go_sem] Oper.semAt_some
/-- The cell of the library's greatest length is a number. -/
def MaxL (W : World) : Prop := 0 < W.heap.size ∧ ∃ m, W.cell? ⟨0, 0, none⟩ = some (.int .i64 m)
theorem MaxL.below {W w : World} {B : Nat} (h : MaxL W) (hb : Below B W w) (hB : 0 < B) : MaxL w := by
  obtain ⟨h1, m, h2⟩ := h
  exact ⟨Nat.lt_of_lt_of_le h1 hb.size, m, (hb.cell (p := ⟨0, 0, none⟩) hB).trans h2⟩
/-- The names of a text, parted at blanks. -/
def nmF : Nat → List UInt8 → List (List UInt8)
  | 0, _ => []
  | f + 1, s => if s = [] then [] else (Lib.cut s [32]).1 :: nmF f (Lib.cut s [32]).2.1
theorem cut_less (s : List UInt8) (h : s ≠ []) : (Lib.cut s [32]).2.1.length < s.length := by
  have h0 : 0 < s.length := List.length_pos_iff.2 h
  unfold Lib.cut
  split
  · simp only [List.length_drop, List.length_cons, List.length_nil]; omega
  · simpa using h0
theorem nmF_more : ∀ (f g : Nat) (s : List UInt8), s.length < f → s.length < g → nmF f s = nmF g s
  | 0, _, s, h, _ => absurd h (Nat.not_lt_zero _)
  | _ + 1, 0, s, _, h => absurd h (Nat.not_lt_zero _)
  | f + 1, g + 1, s, h1, h2 => by
    unfold nmF
    by_cases hs : s = []
    · rw [if_pos hs, if_pos hs]
    · rw [if_neg hs, if_neg hs]
      have := cut_less s hs
      rw [nmF_more f g _ (by omega) (by omega)]
def nmL (s : List UInt8) : List (List UInt8) := nmF (s.length + 1) s
theorem nmL_nil : nmL [] = [] := rfl
theorem nmL_cons (s : List UInt8) (h : s ≠ []) : nmL s = (Lib.cut s [32]).1 :: nmL (Lib.cut s [32]).2.1 := by
  have := cut_less s h
  unfold nmL
  rw [show nmF (s.length + 1) s = if s = [] then [] else (Lib.cut s [32]).1 :: nmF s.length (Lib.cut s [32]).2.1 from rfl, if_neg h, nmF_more s.length ((Lib.cut s [32]).2.1.length + 1) _ (by omega) (by omega)]
def strLen : Value → Nat
  | .string b => b.size
  | _ => 0

set_option maxRecDepth 100000 in
set_option maxHeartbeats 4000000 in
theorem each62 (n lr B : Nat) (s : List UInt8) (W : World) (hB : W.cell? ⟨B, 2, none⟩ = some (.string ⟨s.toArray⟩)) (hlen : s.length < 4000)
    (J : List (List UInt8) → World → Prop) (Jx : World → Prop) (hJM : ∀ p w, J p w → MaxL w) (hJb : ∀ p w w', J p w → Below w.heap.size w w' → J p w')
    (hY : ∀ m p l w, (∃ r, p ++ [l] ++ r = nmL s) → J p w → ∃ fn tmps assign body, (Instr.yield lr #[.string ⟨l.toArray⟩]).run Tryz.prog w = .ok (.round lr fn tmps assign body) w ∧
      RoundIn Fence.wide m Tryz.prog lr fn tmps assign body w fun e w' => (e = .returned (.bool true) ∧ J (p ++ [l]) w') ∨ (e = .returned (.bool false) ∧ Jx w')) (h0 : J [] W) :
    CallsIn Fence.wide n Tryz.prog 62 #[.func (.yield lr) #[] #[], .pointer (some ⟨B, 0, none⟩)] W fun e w' => (∃ v, e = .returned v) ∧ (J (nmL s) w' ∨ Jx w') := by
  have HJ : Hid _ := hJb
  have HY : Hid _ := hY
  have HM : Hid _ := hJM
  clear hJb hY hJM
  refine callsIn_of_wp Tryz.func62 rfl trivial ?_ rfl
  simp only [Tryz.ntmps62, List.size_toArray, List.length_cons, List.length_nil, Nat.reduceAdd, Nat.reduceSub, Array.replicate_succ, Array.replicate_zero, List.push_toArray, List.append_toArray, List.nil_append, List.cons_append]
  gi_wp2
  gi_loopw [3] (fun s3 wr => ∃ (p : List (List UInt8)) (rest : List UInt8), s3 = .string ⟨rest.toArray⟩ ∧ rest.length < 4000 ∧ Hid (p ++ nmL rest = nmL s) ∧ Hid (J p wr)) (fun s3 _ => strLen s3)
  case atStart => exact ⟨[], s, rfl, hlen, rfl, h0⟩
  case round =>
    obtain ⟨p, rest, rfl, hl, HP, HJ0⟩ := hrel
    by_cases hr : rest = []
    · subst hr
      have hfin : (∃ v, Ending.returned (Value.tuple #[]) = .returned v) ∧ (J (nmL s) wr ∨ Jx wr) := ⟨⟨_, rfl⟩, .inl (by have := HP.out; rw [nmL_nil, List.append_nil] at this; rw [← this]; exact HJ0.out)⟩
      gi_wp2
      go_end0
      exact hfin
    · have hie : rest.isEmpty = false := by cases rest with
        | nil => exact absurd rfl hr
        | cons => rfl
      have hcl := cut_less rest hr
      have HC : Hid (nmL rest = (Lib.cut rest [32]).1 :: nmL (Lib.cut rest [32]).2.1) := nmL_cons rest hr
      obtain ⟨hM0, mm, hm⟩ := HM.out _ _ HJ0.out
      have hcut := Tryz.strings_Cut ⟨rest.toArray⟩ ⟨#[32]⟩ mm wr (by simpa [ByteArray.size] using (show rest.length < 4294967281 by omega)) hm
      simp only [List.toList_toArray] at hcut
      obtain ⟨c1, hc1⟩ : ∃ x, (Lib.cut rest [32]).1 = x := ⟨_, rfl⟩
      obtain ⟨c2, hc2⟩ : ∃ x, (Lib.cut rest [32]).2.1 = x := ⟨_, rfl⟩
      obtain ⟨c3, hc3⟩ : ∃ x, (Lib.cut rest [32]).2.2 = x := ⟨_, rfl⟩
      rw [hc1, hc2] at HC
      rw [hc2] at hcl
      rw [hc1, hc2, hc3] at hcut
      clear hc1 hc2 hc3 hm
      gi_wp2
      refine ⟨trivial, (fun h => nomatch h), (callsIn_wide.2 hcut).mono ?_⟩
      rintro e w1 ⟨rfl, nd, hdw⟩
      have hb1 : Below wr.heap.size wr w1 := by rw [hdw]; exact (Below.refl _ _).trans ⟨rfl, rfl, rfl, Nat.le_refl _, fun _ _ => rfl⟩
      clear hcut hdw
      obtain ⟨fn, tmps, assign, body, hy, hRd⟩ := HY.out (n - 1) p c1 w1 ⟨nmL c2, by rw [← HP.out, HC.out]; simp⟩ (HJ.out _ _ _ HJ0.out hb1)
      have HRD : Hid _ := hRd
      clear hRd hb1 hie
      gi_wp2
      refine ⟨(fun h => nomatch h), RoundIn.mono HRD.out ?_⟩
      rintro e w' (⟨rfl, hJ'⟩ | ⟨rfl, hJ'⟩)
      · gi_wp2
        go_roundw
        case rel => exact ⟨p ++ [c1], c2, rfl, by omega, by unfold Hid; rw [← HP.out, HC.out]; simp, hJ'⟩
        case measure => simpa [strLen, ByteArray.size] using hcl
      · gi_wp2
        exact ⟨rfl, _, results_none rfl _ _ _, ⟨_, rfl⟩, .inr hJ'⟩
end Go.Proofs.YtpgecdhieakilaaGreatDoor
