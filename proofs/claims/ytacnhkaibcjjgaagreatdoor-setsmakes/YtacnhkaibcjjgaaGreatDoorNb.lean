/-
  What is proved here: a row of six cells that holds a domain of sets: read, kept, written.
-/
import Derived.Test.YtacnhkaibcjjgaaGreatDoorCb
namespace Go.Proofs.YtacnhkaibcjjgaaGreatDoor
open Go.RowKit Go.Shelf
set_option linter.unusedVariables false
set_option linter.unusedSimpArgs false

/-- Block g holds a domain of sets. -/
structure R6 (w : World) (g : Nat) (x0 x1 x2 x3 x4 x5 : Value) : Prop where
  h : w.heap[g]? = some (.cells #[x0, x1, x2, x3, x4, x5] 37 (0, 0))
theorem R6.lt {w : World} {g : Nat} {x0 x1 x2 x3 x4 x5 : Value} (h : R6 w g x0 x1 x2 x3 x4 x5) : g < w.heap.size := (Array.getElem?_eq_some_iff.1 h.h).1
theorem R6.below {w w' : World} {g : Nat} {x0 x1 x2 x3 x4 x5 : Value} (h : R6 w g x0 x1 x2 x3 x4 x5) (hb : Below w.heap.size w w') : R6 w' g x0 x1 x2 x3 x4 x5 := ⟨(hb.block g h.lt).trans h.h⟩
theorem R6.cells {w : World} {g : Nat} {x0 x1 x2 x3 x4 x5 : Value} (h : R6 w g x0 x1 x2 x3 x4 x5) :
    w.cell? ⟨g, 0, none⟩ = some x0 ∧ w.cell? ⟨g, 1, none⟩ = some x1 ∧ w.cell? ⟨g, 2, none⟩ = some x2 ∧ w.cell? ⟨g, 3, none⟩ = some x3 ∧ w.cell? ⟨g, 4, none⟩ = some x4 ∧ w.cell? ⟨g, 5, none⟩ = some x5 := six_cells h.h
theorem R6.new (w : World) (x0 x1 x2 x3 x4 x5 : Value) : R6 (w.alloc (.cells #[x0, x1, x2, x3, x4, x5] 37)) w.heap.size x0 x1 x2 x3 x4 x5 := ⟨World.alloc_heap_new w _⟩
theorem R6.new1 (w : World) (o : Obj) (x0 x1 x2 x3 x4 x5 : Value) : R6 ((w.alloc o).alloc (.cells #[x0, x1, x2, x3, x4, x5] 37)) (w.heap.size + 1) x0 x1 x2 x3 x4 x5 := by
  have := World.alloc_heap_new (w.alloc o) (.cells #[x0, x1, x2, x3, x4, x5] 37)
  rw [World.size_alloc] at this
  exact ⟨this⟩
theorem R6.new2 (w : World) (o p : Obj) (x0 x1 x2 x3 x4 x5 : Value) : R6 (((w.alloc o).alloc p).alloc (.cells #[x0, x1, x2, x3, x4, x5] 37)) (w.heap.size + 2) x0 x1 x2 x3 x4 x5 := by
  have := World.alloc_heap_new ((w.alloc o).alloc p) (.cells #[x0, x1, x2, x3, x4, x5] 37)
  rw [World.size_alloc, World.size_alloc] at this
  exact ⟨this⟩
theorem R6.alloc {w : World} {g : Nat} {x0 x1 x2 x3 x4 x5 : Value} (h : R6 w g x0 x1 x2 x3 x4 x5) (o : Obj) : R6 (w.alloc o) g x0 x1 x2 x3 x4 x5 := ⟨(Below.heap_alloc _ _ _ h.lt).trans h.h⟩
theorem R6.set {w : World} {g : Nat} {y0 y1 y2 y3 y4 y5 : Value} (h : R6 w g y0 y1 y2 y3 y4 y5) (x0 x1 x2 x3 x4 x5 : Value) : R6 (w.setRow g #[x0, x1, x2, x3, x4, x5]) g x0 x1 x2 x3 x4 x5 := ⟨setRow_heap w g _ _ 37 (0, 0) h.h⟩
theorem R6.other {w : World} {g k : Nat} {x0 x1 x2 x3 x4 x5 : Value} (h : R6 w k x0 x1 x2 x3 x4 x5) (hk : k ≠ g) (cs : Array Value) : R6 (w.setRow g cs) k x0 x1 x2 x3 x4 x5 := ⟨(setRow_other w g k cs hk).trans h.h⟩
theorem R6.res {fn : Func} {p : Tmp} (hf : fn.results = #[.cell p 37]) (tmps : Array Value) {w : World} {g : Nat} {x0 x1 x2 x3 x4 x5 : Value} (h : R6 w g x0 x1 x2 x3 x4 x5) (hp : tmps.getD p undef = .pointer (some ⟨g, 0, none⟩)) :
    (results fn tmps).run Tryz.prog w = .ok (.agg #[x0, x1, x2, x3, x4, x5]) w := results_cell_row hf tmps w g 37 _ (0, 0) _ hp h.h Tryz.underlying37 rfl Tryz.size37
/-- The row of a domain: six values of one cell each. -/
def Six (x0 x1 x2 x3 x4 x5 : Value) : Prop := x0.oneCell' = true ∧ x1.oneCell' = true ∧ x2.oneCell' = true ∧ x3.oneCell' = true ∧ x4.oneCell' = true ∧ x5.oneCell' = true
theorem six_dom (b : Bool) (p0 p1 p2 : Option Addr) (m0 k0 m1 k1 m2 k2 : Nat) (i j : Int) : Six (.bool b) (.slice p0 m0 k0) (.slice p1 m1 k1) (.slice p2 m2 k2) (.int .i64 i) (.int .i64 j) := ⟨rfl, rfl, rfl, rfl, rfl, rfl⟩
theorem Six.all {x0 x1 x2 x3 x4 x5 : Value} (h : Six x0 x1 x2 x3 x4 x5) : (#[x0, x1, x2, x3, x4, x5] : Array Value).all (·.oneCell') = true := by
  obtain ⟨h0, h1, h2, h3, h4, h5⟩ := h
  simp [h0, h1, h2, h3, h4, h5]
theorem st37 {ops : Array Oper} {rest : List Oper} {o : Oper} {a : Act} {w : World} {Q : Exit → Act → World → Prop} {y0 y1 y2 y3 y4 y5 : Value} (hgd : o.guard = none) (x y : Operand) (ho : o.op = .store 37 x y)
    (g : Nat) (x0 x1 x2 x3 x4 x5 : Value) (hx : a.eval x = .pointer (some ⟨g, 0, none⟩)) (hy : a.eval y = .agg #[x0, x1, x2, x3, x4, x5]) (hg : R6 w g y0 y1 y2 y3 y4 y5) (hs : Six x0 x1 x2 x3 x4 x5)
    (h : wpList Tryz.prog ops Q rest (a.put o.dst undef) (w.setRow g #[x0, x1, x2, x3, x4, x5])) : wpList Tryz.prog ops Q (o :: rest) a w :=
  wpList_store_row hgd 37 x y ho g _ hx hy 37 _ hg.h Tryz.size37 rfl hs.all h
theorem store_row {P : Program} {op : Oper} {a : Act} {w : World} {K : Act → World → Prop} {Q : Exit → Act → World → Prop} (ty : TypeId) (x y : Operand) (ho : op.op = .store ty x y)
    (g : Nat) (cells : Array Value) (hx : a.eval x = .pointer (some ⟨g, 0, none⟩)) (hy : a.eval y = .agg cells)
    (t : TypeId) (old : Array Value) (hg : w.heap[g]? = some (.cells old t (0, 0))) (hi : (P.info? ty).map (·.size) = some cells.size)
    (hold : old.size = cells.size) (h1 : cells.all (·.oneCell') = true)
    (h : K (a.put op.dst undef) (w.setRow g cells)) : Oper.wp P op a w K Q := by
  unfold Oper.wp
  unfold execOp
  simp only [ho, hx, hy, Instr.storeAt, Instr.sureAddr, Sem.run_bind, Sem.run_pure, Result.andThen_ok, run_storeVar_row w g t ty old cells hg hi hold h1]
  exact h
/-- The same at a step of a region that draws its order. -/
theorem step37 {ops : Array Oper} {o : Oper} {a : Act} {w : World} {K : Act → World → Prop} {Q : Exit → Act → World → Prop} {E : Prop} {y0 y1 y2 y3 y4 y5 : Value} (hgd : o.guard = none) (x y : Operand) (ho : o.op = .store 37 x y)
    (g : Nat) (x0 x1 x2 x3 x4 x5 : Value) (hx : a.eval x = .pointer (some ⟨g, 0, none⟩)) (hy : a.eval y = .agg #[x0, x1, x2, x3, x4, x5]) (hg : R6 w g y0 y1 y2 y3 y4 y5) (hs : Six x0 x1 x2 x3 x4 x5)
    (h : K (a.put o.dst undef) (w.setRow g #[x0, x1, x2, x3, x4, x5])) : if Region.wanted o (yielded ops a.tmps) = true then Oper.wp Tryz.prog o a w K Q else E := by
  have hw : Region.wanted o (yielded ops a.tmps) = true := by simp [Region.wanted, hgd]
  rw [if_pos hw]
  exact store_row 37 x y ho g _ hx hy 37 _ hg.h Tryz.size37 rfl hs.all h
theorem Dv.set {B g : Nat} {w : World} {v : Value} {d : SD} {y0 y1 y2 y3 y4 y5 : Value} (h : Dv B w v d) (hg : R6 w g y0 y1 y2 y3 y4 y5) (cs : Array Value) : Dv B (w.setRow g cs) v d := by
  obtain ⟨slo, sup, e, e0, o1, o2⟩ := h
  exact ⟨slo, sup, e, e0, own_setRow o1 g cs hg.h, own_setRow o2 g cs hg.h⟩
theorem Dv.base {B B' : Nat} {w : World} {v : Value} {d : SD} (h : Dv B w v d) (hb : B' ≤ B) : Dv B' w v d := by
  obtain ⟨slo, sup, e, e0, o1, o2⟩ := h
  exact ⟨slo, sup, e, e0, own_base o1 hb, own_base o2 hb⟩
/-- What a domain in memory of its own looks like. -/
theorem Dv.look {B : Nat} {w : World} {v : Value} {d : SD} (h : Dv B w v d) : ∃ x0 p1 m1 k1 p2 m2 k2 x4 x5, v = .agg #[.bool x0, .slice none 0 0, .slice p1 m1 k1, .slice p2 m2 k2, .int .i64 x4, .int .i64 x5] ∧
    Hid (d.set = x0 ∧ d.lo.length = m1 ∧ d.up.length = m2 ∧ d.least = x4 ∧ d.most = x5 ∧ d.rn = 0) ∧ Hid (w.ownsRow B 2 1 (.slice p1 m1 k1) m1 (intv d.lo)) ∧ Hid (w.ownsRow B 2 1 (.slice p2 m2 k2) m2 (intv d.up)) := by
  obtain ⟨slo, sup, e, e0, o1, o2⟩ := h
  obtain ⟨p1, k1, rfl⟩ := own_slice o1
  obtain ⟨p2, k2, rfl⟩ := own_slice o2
  exact ⟨_, _, _, _, _, _, _, _, _, e, ⟨rfl, rfl, rfl, rfl, rfl, e0⟩, o1, o2⟩
/-- What a domain that is handed in looks like. -/
theorem Di.look {w : World} {v : Value} {d : SD} (h : Di w v d) : ∃ x0 ra rn rc a1 n1 c1 a2 n2 c2 x4 x5, v = .agg #[.bool x0, .slice ra rn rc, .slice a1 n1 c1, .slice a2 n2 c2, .int .i64 x4, .int .i64 x5] ∧
    Hid (d.set = x0 ∧ d.lo.length = n1 ∧ d.up.length = n2 ∧ d.least = x4 ∧ d.most = x5 ∧ d.rn = rn) ∧ Hid (Si w (.slice a1 n1 c1) d.lo) ∧ Hid (Si w (.slice a2 n2 c2) d.up) := by
  obtain ⟨ra, rc, slo, sup, e, h1, h2⟩ := h
  have h1' := h1
  have h2' := h2
  obtain ⟨a1, c1, rfl, _⟩ := h1'
  obtain ⟨a2, c2, rfl, _⟩ := h2'
  exact ⟨_, _, _, _, _, _, _, _, _, _, _, _, e, ⟨rfl, rfl, rfl, rfl, rfl, rfl⟩, h1, h2⟩
theorem si_look {w : World} {s : Value} {l : List Int} (h : Si w s l) : ∃ a n c, s = .slice a n c ∧ Hid (Si w (.slice a n c) l) ∧ Hid (l.length = n) := by
  have h' := h
  obtain ⟨a, c, rfl, _⟩ := h'
  exact ⟨_, _, _, rfl, h, rfl⟩
theorem own_si' {W : World} {base n : Nat} {s : Value} {l : List Int} (h : W.ownsRow base 2 1 s n (intv l)) (hn : l.length = n) : Si W s l := by subst hn; exact own_si h
end Go.Proofs.YtacnhkaibcjjgaaGreatDoor
