/-
  What is proved here: all names, as the reference tells them.
  What is proved here: numbers, terms and arguments in memory, and their copies.
  What is proved here: slices.Clone of numbers; copyVal, Int, Var, Set.
  What is proved here: terms in memory; copyTerms.
-/
import Derived.Test.YtdnhhmnllhlbbaaGreatDoorXJb
import Derived.Test.YtdnhhmnllhlbbaaGreatDoorCSg
import Derived.Test.YtdnhhmnllhlbbaaGreatDoorAa
import Derived.Lib.OwnBridge
namespace Go.Proofs.YtdnhhmnllhlbbaaGreatDoor
open Go.RowKit Go.Shelf
set_option linter.unusedVariables false
set_option linter.unusedSimpArgs false

theorem cell_row {W : World} {g : Nat} {cur : Array Value} {t : TypeId} {f : Nat × Nat} (h : W.heap[g]? = some (.cells cur t f)) (j : Nat) : W.cell? ⟨g, j, none⟩ = cur[j]? := by simp [World.cell?, h]
theorem row_set {W : World} {A : Nat} {cur : Array Value} {t : TypeId} (h : W.heap[A]? = some (.cells cur t (0, 0))) (q : Nat) (v : Value) : (W.setCell ⟨A, q, none⟩ v).heap[A]? = some (.cells (cur.setIfInBounds q v) t (0, 0)) := by
  obtain ⟨hlt, hk⟩ := Array.getElem?_eq_some_iff.1 h
  show (W.heap.modify A _)[A]? = _
  rw [Array.getElem?_eq_getElem (by rw [Array.size_modify]; exact hlt), Array.getElem_modify_self, hk]
  rfl
theorem own_shape {W : World} {B e size n : Nat} {v : Value} {xs : List Value} (h : W.ownsRow B e size v n xs) : ∃ p c, v = .slice p n c := by
  rcases h.2 with ⟨e1, e2⟩ | ⟨g, cap, cur, e1, _⟩
  · exact ⟨none, 0, by rw [e1, e2]⟩
  · exact ⟨_, _, e1⟩
end Go.Proofs.YtdnhhmnllhlbbaaGreatDoor


namespace Go.Proofs.YtdnhhmnllhlbbaaGreatDoor
open Go.RowKit Go.Shelf
set_option linter.unusedVariables false
set_option linter.unusedSimpArgs false

def intv (l : List Int) : List Value := l.map (Value.int .i64)
/-- A slice of numbers in memory. -/
def Si (B : Nat) (W : World) (s : Value) (l : List Int) : Prop := ∃ a c, s = .slice a l.length c ∧ (0 < l.length → ∃ b off, a = some ⟨b, off, none⟩ ∧ B ≤ b ∧ b < W.heap.size ∧ ∀ i x, l[i]? = some x → W.cell? ⟨b, off + i, none⟩ = some (.int .i64 x))
theorem Si.below {B : Nat} {W W' : World} {s : Value} {l : List Int} (h : Si B W s l) (hb : Below W.heap.size W W') : Si B W' s l := by
  obtain ⟨a, c, e, h⟩ := h
  exact ⟨a, c, e, fun h0 => by obtain ⟨b, off, e1, e0, e2, e3⟩ := h h0; exact ⟨b, off, e1, e0, Nat.lt_of_lt_of_le e2 hb.size, fun i x hx => (hb.cell (p := ⟨b, off + i, none⟩) e2).trans (e3 i x hx)⟩⟩
theorem Si.lower {B B' : Nat} {W : World} {s : Value} {l : List Int} (h : Si B W s l) (hb : B' ≤ B) : Si B' W s l := by
  obtain ⟨a, c, e, h⟩ := h
  exact ⟨a, c, e, fun h0 => by obtain ⟨b, off, e1, e0, e2, e3⟩ := h h0; exact ⟨b, off, e1, Nat.le_trans hb e0, e2, e3⟩⟩
theorem own_keepB {W W' : World} {base e size n : Nat} {s : Value} {xs : List Value} (h : W.ownsRow base e size s n xs) (hb : Below W.heap.size W W') : W'.ownsRow base e size s n xs :=
  ⟨h.1, by
    rcases h.2 with h2 | ⟨g, cap, cur, e1, hg, hgb, r⟩
    · exact .inl h2
    · exact .inr ⟨g, cap, cur, e1, hg, (hb.block _ (Array.getElem?_eq_some_iff.1 hgb).1).trans hgb, r⟩⟩
theorem own_si {W : World} {base n : Nat} {s : Value} {l : List Int} (h : W.ownsRow base 2 1 s n (intv l)) : Si base W s l := by
  have hl : n = l.length := by have := h.1; simp [intv] at this; omega
  subst hl
  rcases h.2 with ⟨e1, e2⟩ | ⟨g, cap, cur, e1, hg, hgb, hn, hm, hs, ht⟩
  · exact ⟨none, 0, by rw [e1, e2], fun h0 => by omega⟩
  · refine ⟨_, cap, e1, fun _ => ⟨g, 0, rfl, hg, (Array.getElem?_eq_some_iff.1 hgb).1, fun i x hx => ?_⟩⟩
    have hi : i < l.length := (List.getElem?_eq_some_iff.1 hx).1
    rw [cell_row hgb, Nat.zero_add]
    have : (intv l)[i]? = some (.int .i64 x) := by simp [intv, hx]
    rw [← ht, List.getElem?_take, if_pos (by omega), Array.getElem?_toList] at this
    exact this
theorem Tryz.info2 : (Tryz.prog.info? 2).map (fun i => (i.zero, i.size, i.bytes)) = some (some (.int .i64 0), 1, 8) := by kernel_rfl
theorem run_app0_59 (w : World) (ty : TypeId) (g : Nat) (a : Option Addr) (c' : Nat) : (Builtin.append_ #[34, 34] ty #[.slice (some ⟨g, 0, none⟩) 0 0, .slice a 0 c']).run Tryz.prog w = .ok (.slice (some ⟨g, 0, none⟩) 0 0) w := by
  obtain ⟨i0, hi0, hz0, hz1, hz2⟩ := info_parts Tryz.info2
  have hf : (Builtin.firstCells i0.size 0 (.slice a 0 c')).run Tryz.prog w = .ok #[] w := by cases a <;> simp [Builtin.firstCells, loadCells, loadCellsFrom]
  simp [Builtin.append_, run_underlying Tryz.underlying34, sizeOf, typeInfo, hi0, Builtin.lenOf, hf, storeCells]

set_option maxRecDepth 100000 in
set_option maxHeartbeats 4000000 in
theorem clone0_59 (a : Option Addr) (c : Nat) (W : World) : Calls Tryz.prog 32 #[.slice a 0 c] W fun e w' => ∃ v, e = .returned v ∧ w'.ownsRow W.heap.size 2 1 v 0 [] ∧ Below W.heap.size W w' := by
  cases a with
  | none => exact (AnyE.slices_Clone_nil Tryz.laysClone59 0 c W).mono fun e w' ⟨he, hw⟩ => ⟨_, he, World.ownsRow_nil _ _ _ _, by rw [hw]; exact Below.refl _ _⟩
  | some ad =>
    have happ := run_app0_59
    have hnil : ∀ (w : World) (a : Option Addr) (n c n' c' : Nat), (binOp .eql 34 (.slice a n c) (.slice none n' c')).run Tryz.prog w = .ok (.bool a.isNone) w := fun w a n c n' c' => Lib.run_eql_slice_nil w _ _ a n c n' c' Tryz.underlying34
    go_enter Tryz.func32, Tryz.ntmps32
    go_wp2
    go_ret
    refine ⟨_, rfl, World.ownsRow_made W #[] 0 (Nat.le_refl _) (Nat.zero_le _) (by simp), (Below.refl _ W).alloc (Nat.le_refl _) _⟩
end Go.Proofs.YtdnhhmnllhlbbaaGreatDoor


namespace Go.Proofs.YtdnhhmnllhlbbaaGreatDoor
open Go.RowKit Go.Shelf
set_option linter.unusedVariables false
set_option linter.unusedSimpArgs false

/-- A block of cells. -/
structure Blk (w : World) (g : Nat) (cs : Array Value) (ty : TypeId) : Prop where
  h : w.heap[g]? = some (.cells cs ty (0, 0))
theorem Blk.below {w w' : World} {g : Nat} {cs : Array Value} {ty : TypeId} (h : Blk w g cs ty) (hb : Below w.heap.size w w') : Blk w' g cs ty := ⟨(hb.block _ (Array.getElem?_eq_some_iff.1 h.h).1).trans h.h⟩
theorem Blk.lt {w : World} {g : Nat} {cs : Array Value} {ty : TypeId} (h : Blk w g cs ty) : g < w.heap.size := (Array.getElem?_eq_some_iff.1 h.h).1
theorem Blk.cell {w : World} {g : Nat} {cs : Array Value} {ty : TypeId} (h : Blk w g cs ty) (i : Nat) : w.cell? ⟨g, i, none⟩ = cs[i]? := cell_row h.h i
theorem Blk.frozen {w : World} {g : Nat} {cs : Array Value} {ty : TypeId} (h : Blk w g cs ty) (i : Nat) : w.frozen? ⟨g, i, none⟩ = false := by simp [World.frozen?, h.h]
theorem Blk.set {w : World} {g : Nat} {cs : Array Value} {ty : TypeId} (h : Blk w g cs ty) (i : Nat) (v : Value) : Blk (w.setCell ⟨g, i, none⟩ v) g (cs.setIfInBounds i v) ty := ⟨row_set h.h i v⟩
theorem Blk.other {w : World} {g k : Nat} {cs : Array Value} {ty : TypeId} (h : Blk w g cs ty) (hk : g ≠ k) (i : Nat) (v : Value) : Blk (w.setCell ⟨k, i, none⟩ v) g cs ty := ⟨(Below.heap_setCell w ⟨k, i, none⟩ v g hk).trans h.h⟩
theorem Si.set {B : Nat} {W : World} {s : Value} {l : List Int} (h : Si B W s l) {g : Nat} (hg : g < B) (i : Nat) (v : Value) : Si B (W.setCell ⟨g, i, none⟩ v) s l := by
  obtain ⟨a, c, e, h⟩ := h
  refine ⟨a, c, e, fun h0 => ?_⟩
  obtain ⟨b, off, e1, e0, e2, e3⟩ := h h0
  have hne : b ≠ g := by omega
  exact ⟨b, off, e1, e0, by rw [World.size_setCell]; exact e2, fun j x hx => (World.cell?_of_block (w := W) (a := ⟨b, off + j, none⟩) (Below.heap_setCell W ⟨g, i, none⟩ v b hne)).trans (e3 j x hx)⟩
theorem Blk.new (w : World) (cs : Array Value) (ty : TypeId) : Blk (w.alloc (.cells cs ty)) w.heap.size cs ty := ⟨World.alloc_heap_new w _⟩
theorem Blk.alloc {w : World} {g : Nat} {cs : Array Value} {ty : TypeId} (h : Blk w g cs ty) (o : Obj) : Blk (w.alloc o) g cs ty := h.below ((Below.refl _ w).alloc (Nat.le_refl _) _)

end Go.Proofs.YtdnhhmnllhlbbaaGreatDoor


namespace Go.Proofs.YtdnhhmnllhlbbaaGreatDoor
open Go.RowKit Go.Shelf
set_option linter.unusedVariables false
set_option linter.unusedSimpArgs false
/-- A term. -/
structure Tm where
  v : Int
  set : Bool
  n : Int
  s : List Int
/-- The cells of a term, whose set lies in sv. -/
def Tm.cells (t : Tm) (sv : Value) : List Value := [.int .i64 t.v, .bool t.set, .int .i64 t.n, sv]
/-- Terms in a block from off on, whose sets lie from B on. -/
def Tr (B : Nat) (W : World) (b off : Nat) (l : List Tm) (svl : List Value) : Prop := svl.length = l.length ∧ ∀ i t sv, l[i]? = some t → svl[i]? = some sv → Si B W sv t.s ∧ ∀ r u, (t.cells sv)[r]? = some u → W.cell? ⟨b, off + i * 4 + r, none⟩ = some u
/-- A slice of terms in memory. -/
def St (B : Nat) (W : World) (s : Value) (l : List Tm) : Prop := ∃ a c, s = .slice a l.length c ∧ (0 < l.length → ∃ b off svl, a = some ⟨b, off, none⟩ ∧ B ≤ b ∧ b < W.heap.size ∧ Tr B W b off l svl)
theorem Tr.below {B : Nat} {W W' : World} {b off : Nat} {l : List Tm} {svl : List Value} (h : Tr B W b off l svl) (hlt : b < W.heap.size) (hb : Below W.heap.size W W') : Tr B W' b off l svl :=
  ⟨h.1, fun i t sv h1 h2 => ⟨(h.2 i t sv h1 h2).1.below hb, fun r u hu => (hb.cell (p := ⟨b, off + i * 4 + r, none⟩) hlt).trans ((h.2 i t sv h1 h2).2 r u hu)⟩⟩
theorem Tr.lower {B B' : Nat} {W : World} {b off : Nat} {l : List Tm} {svl : List Value} (h : Tr B W b off l svl) (hb : B' ≤ B) : Tr B' W b off l svl :=
  ⟨h.1, fun i t sv h1 h2 => ⟨(h.2 i t sv h1 h2).1.lower hb, (h.2 i t sv h1 h2).2⟩⟩
theorem St.below {B : Nat} {W W' : World} {s : Value} {l : List Tm} (h : St B W s l) (hb : Below W.heap.size W W') : St B W' s l := by
  obtain ⟨a, c, e, h⟩ := h
  exact ⟨a, c, e, fun h0 => by obtain ⟨b, off, svl, e1, e0, e2, e3⟩ := h h0; exact ⟨b, off, svl, e1, e0, Nat.lt_of_lt_of_le e2 hb.size, e3.below e2 hb⟩⟩
theorem St.lower {B B' : Nat} {W : World} {s : Value} {l : List Tm} (h : St B W s l) (hb : B' ≤ B) : St B' W s l := by
  obtain ⟨a, c, e, h⟩ := h
  exact ⟨a, c, e, fun h0 => by obtain ⟨b, off, svl, e1, e0, e2, e3⟩ := h h0; exact ⟨b, off, svl, e1, Nat.le_trans hb e0, e2, e3.lower hb⟩⟩
end Go.Proofs.YtdnhhmnllhlbbaaGreatDoor

