/-
  What is proved here: package lex's Text; bytes are put behind own bytes, and made a text.
-/
import Derived.Test.YtdnhhmnllhlbbaaGreatDoorXJa
import Derived.Test.YtdnhhmnllhlbbaaGreatDoorXLmj
import Derived.Test.YtdnhhmnllhlbbaaGreatDoorXSh
import Derived.Lib.AppendStr
import Derived.Lib.AppendIntMem
import Derived.Lib.SmallJoins
import Derived.Laws.IdiomStrings
import Derived.OwnWalk
namespace Go.Proofs.YtdnhhmnllhlbbaaGreatDoor
open Go.RowKit Go.Shelf
set_option linter.unusedVariables false
set_option linter.unusedSimpArgs false
/-- The library's powers of ten lie as its text lays them. -/
def Tens (w : World) : Prop := Lib.TabIs Tryz.prog w "internal/strconv.uint64pow10" .u64 Lib.pow10Tab
theorem Tens.self {w w' : World} (h : Tens w) (hb : Below w.heap.size w w') : Tens w' := Lib.tabBelow_of_tabIs h w' hb
theorem Tryz.info5 : (Tryz.prog.info? 5).map (fun i => (i.zero, i.size, i.bytes)) = some (some (.int .u8 0), 1, 1) := by kernel_rfl
/-- A text is put behind bytes. -/
theorem wpList_app_s {ops : Array Oper} {rest : List Oper} {o : Oper} {a : Act} {Q : Exit → Act → World → Prop} {w : World} (hgd : o.guard = none) (s x : Operand)
    (ho : o.op = .call { callee := .builtin .append, args := #[s, x], argTypes := #[60, 9] })
    (base : Nat) (v : Value) (D l : List UInt8) (hs : a.eval s = v) (hown : w.ownsRow base 5 1 v D.length (Lib.byteCells D)) (hx : a.eval x = .string (bs l))
    (hlen : D.length + l.length ≤ 1000000000000) (hbase : base ≤ w.heap.size)
    (h : ∀ v' w', w'.ownsRow base 5 1 v' (D ++ l).length (Lib.byteCells (D ++ l)) → Below base w w' → w.grownBy w' v.ownBlock → wpList Tryz.prog ops Q rest (a.put o.dst v') w') : wpList Tryz.prog ops Q (o :: rest) a w := by
  obtain ⟨i0, hi0, hz0, hz1, hz2⟩ := info_parts Tryz.info5
  refine Lib.wpList_append_own_string w hgd s x 60 9 ho base 5 i0 Tryz.underlying60 Tryz.underlying9 hi0 hz0 hz1 hz2 v D.length _ hs hown (bs l) hx (by rw [bs_size]; unfold maxLen; omega) (by rw [bs_size]; omega) hbase ?_
  intro v' w' h1 h2 _
  refine h v' w' ?_ ((Below.refl base w).grown h2 hbase (fun k e => (World.ownsRow.lt hown k e).1)) h2
  rw [List.length_append, Lib.byteCells_append]
  exact h1
/-- One byte is put behind bytes. -/
theorem wpList_app_1 {ops : Array Oper} {rest : List Oper} {o : Oper} {a : Act} {Q : Exit → Act → World → Prop} {w : World} (hgd : o.guard = none) (s x : Operand)
    (ho : o.op = .call { callee := .builtin .append, args := #[s, x], argTypes := #[60, 60] })
    (base : Nat) (v : Value) (D : List UInt8) (c : UInt8) (hs : a.eval s = v) (hown : w.ownsRow base 5 1 v D.length (Lib.byteCells D)) (g : Nat) (hx : a.eval x = .slice (some ⟨g, 0, none⟩) 1 1)
    (hR : Rw w g 5 #[.int .u8 c.toNat]) (hlen : D.length ≤ 1000000000000) (hbase : base ≤ w.heap.size)
    (h : ∀ v' w', w'.ownsRow base 5 1 v' (D ++ [c]).length (Lib.byteCells (D ++ [c])) → Below base w w' → wpList Tryz.prog ops Q rest (a.put o.dst v') w') : wpList Tryz.prog ops Q (o :: rest) a w := by
  obtain ⟨i0, hi0, hz0, hz1, hz2⟩ := info_parts Tryz.info5
  refine wpList_append_own w hgd s x 60 ho base 5 i0 _ 1 1 Tryz.underlying60 hi0 hz0 hz1 hz2 rfl (by decide) v D.length _ hs hown ⟨g, 0, none⟩ 1 1 [.int .u8 c.toNat] hx rfl ?_ (by simp [Value.oneCell']) (by unfold maxLen; omega) (by omega) hbase ?_
  · intro j u hj
    rw [Addr.add_lit, Nat.zero_add]
    exact hR.cell j u (by simpa using hj)
  · intro v' w' h1 h2 _
    refine h v' w' ?_ ((Below.refl base w).grown h2 hbase (fun k e => (World.ownsRow.lt hown k e).1))
    rw [List.length_append, Lib.byteCells_append]
    exact h1
/-- Bytes as a text. -/
theorem conv_back (w : World) (B : Nat) (v : Value) (D : List UInt8) (h0 : 0 < D.length) (hown : w.ownsRow B 5 1 v D.length (Lib.byteCells D)) : ∃ g cap, v = .slice (some ⟨g, 0, none⟩) D.length cap ∧ B ≤ g ∧ g < w.heap.size ∧
    ∀ w' : World, Below w.heap.size w w' → (convert 60 9 (.slice (some ⟨g, 0, none⟩) D.length cap)).run Tryz.prog w' = .ok (.string (bs D)) w' := by
  rcases hown.2 with ⟨_, h9⟩ | ⟨g, cg, cur, rfl, hB, hgb, _⟩
  · omega
  · have hg : g < w.heap.size := (Array.getElem?_eq_some_iff.1 hgb).1
    exact ⟨g, cg, rfl, hB, hg, fun w' hb => run_convert_bytes_back (P := Tryz.prog) w' 60 9 5 ⟨g, 0, none⟩ cg D Tryz.underlying60 Tryz.underlying5 Tryz.underlying9 (fun j hj => (own_below hown hb).cells (g := g) rfl j _ (by simp [Lib.byteCells, hj]))⟩
end Go.Proofs.YtdnhhmnllhlbbaaGreatDoor

