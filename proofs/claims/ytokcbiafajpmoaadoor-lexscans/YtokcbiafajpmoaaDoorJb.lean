/-
  What is proved here: package lex's Text; bytes are put behind own bytes, and made a text.
-/
import Derived.Test.YtokcbiafajpmoaaDoorJa
import Derived.Test.YtokcbiafajpmoaaDoorLt
import Derived.Test.YtokcbiafajpmoaaDoorSh
import Derived.Lib.AppendStr
import Derived.Lib.AppendIntMem
import Derived.Lib.SmallJoins
import Derived.Laws.IdiomStrings
import Derived.OwnWalk
namespace Go.Proofs.YtokcbiafajpmoaaDoor
open Go.RowKit Go.Shelf
set_option linter.unusedVariables false
set_option linter.unusedSimpArgs false
/-- The library's powers of ten lie as its text lays them. -/
def Tens (w : World) : Prop := Lib.TabIs Tryd.prog w "internal/strconv.uint64pow10" .u64 Lib.pow10Tab
theorem Tens.self {w w' : World} (h : Tens w) (hb : Below w.heap.size w w') : Tens w' := Lib.tabBelow_of_tabIs h w' hb
set_option maxRecDepth 100000 in
set_option maxHeartbeats 4000000 in
/-- lex.Text. -/
theorem text10 (k n : Int) (tx : List UInt8) (p : Int) (h0 : -9223372036854775808 ≤ n) (h1 : n ≤ 9223372036854775807) (W : World) (hT : Tens W) :
    Calls Tryd.prog 10 #[.agg #[.int .i64 k, .string (bs tx), .int .i64 n, .int .i64 p]] W fun e w' => e = .returned (.string (bs (txtR k n tx))) ∧ Below W.heap.size W w' := by
  obtain ⟨w1, hw1⟩ : ∃ X, W.alloc (Obj.cells #[.int .i64 k, .string (bs tx), .int .i64 n, .int .i64 p] 23) = X := ⟨_, rfl⟩
  have hb1 : Below W.heap.size W w1 := by rw [← hw1]; exact (Below.refl _ W).alloc (Nat.le_refl _) _
  have hR1 : Rw w1 W.heap.size 23 #[.int .i64 k, .string (bs tx), .int .i64 n, .int .i64 p] := by rw [← hw1]; exact Rw.new _ _ _
  have hT1 : Tens w1 := hT.self hb1
  have d0 : w1.cell? ⟨W.heap.size, 0, none⟩ = some (.int .i64 k) := hR1.cell 0 _ rfl
  have d1 : w1.cell? ⟨W.heap.size, 1, none⟩ = some (.string (bs tx)) := hR1.cell 1 _ rfl
  have d2 : w1.cell? ⟨W.heap.size, 2, none⟩ = some (.int .i64 n) := hR1.cell 2 _ rfl
  by_cases hk : k = 2
  · subst hk
    have ht : txtR 2 n tx = Lib.itoa n := rfl
    rw [ht]
    have hf := Any.strconv_FormatInt_10 Tryd.laysFint n h0 h1 w1 hT1
    clear hR1 ht
    go_enter Tryd.func10, Tryd.ntmps10
    go_upto_region 1 with (fail)
    go_wp2_with fail
    refine hf.mono ?_
    rintro e w2 ⟨rfl, q, os, rfl⟩
    go_wp2
    go_ret
    exact ⟨rfl, hb1.trans (Lib.below_grow _ _ hb1.size _ _)⟩
  · have hkb : (k == 2) = false := by simpa using hk
    have ht : txtR k n tx = tx := by unfold txtR; rw [if_neg hk]
    rw [ht]
    clear hR1 ht
    go_enter Tryd.func10, Tryd.ntmps10
    go_upto_region 1 with (fail)
    go_wp2
    go_ret
    exact ⟨rfl, hb1⟩
theorem Tryd.info5 : (Tryd.prog.info? 5).map (fun i => (i.zero, i.size, i.bytes)) = some (some (.int .u8 0), 1, 1) := by kernel_rfl
/-- A text is put behind bytes. -/
theorem wpList_app_s {ops : Array Oper} {rest : List Oper} {o : Oper} {a : Act} {Q : Exit → Act → World → Prop} {w : World} (hgd : o.guard = none) (s x : Operand)
    (ho : o.op = .call { callee := .builtin .append, args := #[s, x], argTypes := #[36, 9] })
    (base : Nat) (v : Value) (D l : List UInt8) (hs : a.eval s = v) (hown : w.ownsRow base 5 1 v D.length (Lib.byteCells D)) (hx : a.eval x = .string (bs l))
    (hlen : D.length + l.length ≤ 1000000000000) (hbase : base ≤ w.heap.size)
    (h : ∀ v' w', w'.ownsRow base 5 1 v' (D ++ l).length (Lib.byteCells (D ++ l)) → Below base w w' → w.grownBy w' v.ownBlock → wpList Tryd.prog ops Q rest (a.put o.dst v') w') : wpList Tryd.prog ops Q (o :: rest) a w := by
  obtain ⟨i0, hi0, hz0, hz1, hz2⟩ := info_parts Tryd.info5
  refine Lib.wpList_append_own_string w hgd s x 36 9 ho base 5 i0 Tryd.underlying36 Tryd.underlying9 hi0 hz0 hz1 hz2 v D.length _ hs hown (bs l) hx (by rw [bs_size]; unfold maxLen; omega) (by rw [bs_size]; omega) hbase ?_
  intro v' w' h1 h2 _
  refine h v' w' ?_ ((Below.refl base w).grown h2 hbase (fun k e => (World.ownsRow.lt hown k e).1)) h2
  rw [List.length_append, Lib.byteCells_append]
  exact h1
/-- One byte is put behind bytes. -/
theorem wpList_app_1 {ops : Array Oper} {rest : List Oper} {o : Oper} {a : Act} {Q : Exit → Act → World → Prop} {w : World} (hgd : o.guard = none) (s x : Operand)
    (ho : o.op = .call { callee := .builtin .append, args := #[s, x], argTypes := #[36, 36] })
    (base : Nat) (v : Value) (D : List UInt8) (c : UInt8) (hs : a.eval s = v) (hown : w.ownsRow base 5 1 v D.length (Lib.byteCells D)) (g : Nat) (hx : a.eval x = .slice (some ⟨g, 0, none⟩) 1 1)
    (hR : Rw w g 5 #[.int .u8 c.toNat]) (hlen : D.length ≤ 1000000000000) (hbase : base ≤ w.heap.size)
    (h : ∀ v' w', w'.ownsRow base 5 1 v' (D ++ [c]).length (Lib.byteCells (D ++ [c])) → Below base w w' → wpList Tryd.prog ops Q rest (a.put o.dst v') w') : wpList Tryd.prog ops Q (o :: rest) a w := by
  obtain ⟨i0, hi0, hz0, hz1, hz2⟩ := info_parts Tryd.info5
  refine wpList_append_own w hgd s x 36 ho base 5 i0 _ 1 1 Tryd.underlying36 hi0 hz0 hz1 hz2 rfl (by decide) v D.length _ hs hown ⟨g, 0, none⟩ 1 1 [.int .u8 c.toNat] hx rfl ?_ (by simp [Value.oneCell']) (by unfold maxLen; omega) (by omega) hbase ?_
  · intro j u hj
    rw [Addr.add_lit, Nat.zero_add]
    exact hR.cell j u (by simpa using hj)
  · intro v' w' h1 h2 _
    refine h v' w' ?_ ((Below.refl base w).grown h2 hbase (fun k e => (World.ownsRow.lt hown k e).1))
    rw [List.length_append, Lib.byteCells_append]
    exact h1
/-- Bytes as a text. -/
theorem conv_back (w : World) (B : Nat) (v : Value) (D : List UInt8) (h0 : 0 < D.length) (hown : w.ownsRow B 5 1 v D.length (Lib.byteCells D)) : ∃ g cap, v = .slice (some ⟨g, 0, none⟩) D.length cap ∧ B ≤ g ∧ g < w.heap.size ∧
    ∀ w' : World, Below w.heap.size w w' → (convert 36 9 (.slice (some ⟨g, 0, none⟩) D.length cap)).run Tryd.prog w' = .ok (.string (bs D)) w' := by
  rcases hown.2 with ⟨_, h9⟩ | ⟨g, cg, cur, rfl, hB, hgb, _⟩
  · omega
  · have hg : g < w.heap.size := (Array.getElem?_eq_some_iff.1 hgb).1
    exact ⟨g, cg, rfl, hB, hg, fun w' hb => run_convert_bytes_back (P := Tryd.prog) w' 36 9 5 ⟨g, 0, none⟩ cg D Tryd.underlying36 Tryd.underlying5 Tryd.underlying9 (fun j hj => (own_below hown hb).cells (g := g) rfl j _ (by simp [Lib.byteCells, hj]))⟩
end Go.Proofs.YtokcbiafajpmoaaDoor
