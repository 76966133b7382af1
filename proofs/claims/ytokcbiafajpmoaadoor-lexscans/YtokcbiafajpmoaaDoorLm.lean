/-
  What is proved here: a block that holds a struct: read, kept, written.
-/
import Derived.Test.YtokcbiafajpmoaaDoorLe
import Derived.RangeFuncRecord
import Derived.Laws.Tables
import Derived.Laws.Rows
import Derived.WalkSmall
namespace Go.Proofs.YtokcbiafajpmoaaDoor
open Go.RowKit
set_option linter.unusedVariables false
set_option linter.unusedSimpArgs false
/-- Block g holds these cells. -/
structure Rw (w : World) (g : Nat) (t : TypeId) (cs : Array Value) : Prop where
  h : w.heap[g]? = some (.cells cs t (0, 0))
theorem Rw.lt {w : World} {g : Nat} {t : TypeId} {cs : Array Value} (h : Rw w g t cs) : g < w.heap.size := (Array.getElem?_eq_some_iff.1 h.h).1
theorem Rw.below {w w' : World} {g : Nat} {t : TypeId} {cs : Array Value} (h : Rw w g t cs) (hb : Below w.heap.size w w') : Rw w' g t cs := ⟨(hb.block g h.lt).trans h.h⟩
theorem Rw.belowB {w w' : World} {g B : Nat} {t : TypeId} {cs : Array Value} (h : Rw w g t cs) (hb : Below B w w') (hB : g < B) : Rw w' g t cs := ⟨(hb.block g hB).trans h.h⟩
theorem Rw.cell {w : World} {g : Nat} {t : TypeId} {cs : Array Value} (h : Rw w g t cs) (i : Nat) (v : Value) (hv : cs[i]? = some v) : w.cell? ⟨g, i, none⟩ = some v := by
  simp [World.cell?, h.h, hv]
theorem Rw.new (w : World) (t : TypeId) (cs : Array Value) : Rw (w.alloc (.cells cs t)) w.heap.size t cs := ⟨World.alloc_heap_new w _⟩
theorem Rw.alloc {w : World} {g : Nat} {t : TypeId} {cs : Array Value} (h : Rw w g t cs) (o : Obj) : Rw (w.alloc o) g t cs := ⟨(Below.heap_alloc _ _ _ h.lt).trans h.h⟩
theorem Rw.set {w : World} {g : Nat} {t : TypeId} {old : Array Value} (h : Rw w g t old) (cs : Array Value) : Rw (w.setRow g cs) g t cs := ⟨setRow_heap w g _ _ t (0, 0) h.h⟩
theorem Rw.other {w : World} {g k : Nat} {t : TypeId} {cs : Array Value} (h : Rw w k t cs) (hk : k ≠ g) (xs : Array Value) : Rw (w.setRow g xs) k t cs := ⟨(setRow_other w g k xs hk).trans h.h⟩
theorem Rw.res23 {fn : Func} {p : Tmp} (hf : fn.results = #[.cell p 23]) (tmps : Array Value) {w : World} {g : Nat} {x0 x1 x2 x3 : Value} (h : Rw w g 23 #[x0, x1, x2, x3]) (hp : tmps.getD p undef = .pointer (some ⟨g, 0, none⟩)) :
    (results fn tmps).run Tryd.prog w = .ok (.agg #[x0, x1, x2, x3]) w := results_cell_row hf tmps w g 23 _ (0, 0) _ hp h.h Tryd.underlying23 rfl (by kernel_rfl)
theorem below_setRow {B g : Nat} {a w : World} (h : Below B a w) (hg : B ≤ g) (cs : Array Value) : Below B a (w.setRow g cs) :=
  ⟨h.os, h.tape, h.output, by simpa [World.setRow] using h.size, fun k hk => (setRow_other w g k cs (by omega)).trans (h.block k hk)⟩
theorem Tryd.size23 : (Tryd.prog.info? 23).map (·.size) = some 4 := by kernel_rfl
theorem Tryd.size40 : (Tryd.prog.info? 40).map (·.size) = some 2 := by kernel_rfl
theorem st23 {ops : Array Oper} {rest : List Oper} {o : Oper} {a : Act} {w : World} {Q : Exit → Act → World → Prop} {old : Array Value} (hgd : o.guard = none) (x y : Operand) (ho : o.op = .store 23 x y)
    (g : Nat) (x0 x1 x2 x3 : Value) (hx : a.eval x = .pointer (some ⟨g, 0, none⟩)) (hy : a.eval y = .agg #[x0, x1, x2, x3]) (hg : Rw w g 23 old) (ho4 : old.size = 4) (hs : x0.oneCell' = true ∧ x1.oneCell' = true ∧ x2.oneCell' = true ∧ x3.oneCell' = true)
    (h : wpList Tryd.prog ops Q rest (a.put o.dst undef) (w.setRow g #[x0, x1, x2, x3])) : wpList Tryd.prog ops Q (o :: rest) a w :=
  wpList_store_row hgd 23 x y ho g _ hx hy 23 _ hg.h Tryd.size23 ho4 (by obtain ⟨h0, h1, h2, h3⟩ := hs; simp [h0, h1, h2, h3]) h
end Go.Proofs.YtokcbiafajpmoaaDoor
