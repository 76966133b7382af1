/-
  What is proved here: numbers, terms and arguments in memory, and their copies.
  What is proved here: slices.Clone of numbers; copyVal, Int, Var, Set.
  What is proved here: terms in memory; copyTerms.
  What is proved here: copyTerms.
  What is proved here: One and List.
-/
import Derived.Test.YtpgecdhieakilaaGreatDoorSg
import Derived.Test.YtpgecdhieakilaaGreatDoorCl
namespace Go.Proofs.YtpgecdhieakilaaGreatDoor
open Go.RowKit Go.Shelf
set_option linter.unusedVariables false
set_option linter.unusedSimpArgs false

def intv (l : List Int) : List Value := l.map (Value.int .i64)
/-- A slice of numbers in memory. -/
def Si (B : Nat) (W : World) (s : Value) (l : List Int) : Prop := ∃ a c, s = .slice a l.length c ∧ (0 < l.length → ∃ b off, a = some ⟨b, off, none⟩ ∧ B ≤ b ∧ b < W.heap.size ∧ ∀ i x, l[i]? = some x → W.cell? ⟨b, off + i, none⟩ = some (.int .i64 x))
theorem Si.below {B : Nat} {W W' : World} {s : Value} {l : List Int} (h : Si B W s l) (hb : Below W.heap.size W W') : Si B W' s l := by
  obtain ⟨a, c, e, h⟩ := h
  exact ⟨a, c, e, fun h0 => by obtain ⟨b, off, e1, e0, e2, e3⟩ := h h0; exact ⟨b, off, e1, e0, Nat.lt_of_lt_of_le e2 hb.size, fun i x hx => (hb.cell (p := ⟨b, off + i, none⟩) e2).trans (e3 i x hx)⟩⟩
theorem Si.lower {B B' : Nat} {W : World} {s : Value} {l : List Int} (h : Si B W s l) (hb : B' ≤ B) : Si B' W s l := by
  obtain ⟨a, c, e, h⟩ := h
  exact ⟨a, c, e, fun h0 => by obtain ⟨b, off, e1, e0, e2, e3⟩ := h h0; exact ⟨b, off, e1, Nat.le_trans hb e0, e2, e3⟩⟩
theorem own_keepB {W W' : World} {base e size n : Nat} {s : Value} {xs : List Value} (h : W.ownsRow base e size s n xs) (hb : Below W.heap.size W W') : W'.ownsRow base e size s n xs :=
  ⟨h.1, by
    rcases h.2 with h2 | ⟨g, cap, cur, e1, hg, hgb, r⟩
    · exact .inl h2
    · exact .inr ⟨g, cap, cur, e1, hg, (hb.block _ (Array.getElem?_eq_some_iff.1 hgb).1).trans hgb, r⟩⟩
theorem own_base {W : World} {base b' e size n : Nat} {s : Value} {xs : List Value} (h : W.ownsRow base e size s n xs) (hb : b' ≤ base) : W.ownsRow b' e size s n xs := by
  refine ⟨h.1, ?_⟩
  rcases h.2 with h | ⟨g, cap, cur, e1, hg, r⟩
  · exact .inl h
  · exact .inr ⟨g, cap, cur, e1, Nat.le_trans hb hg, r⟩
theorem own_si {W : World} {base n : Nat} {s : Value} {l : List Int} (h : W.ownsRow base 2 1 s n (intv l)) : Si base W s l := by
  have hl : n = l.length := by have := h.1; simp [intv] at this; omega
  subst hl
  rcases h.2 with ⟨e1, e2⟩ | ⟨g, cap, cur, e1, hg, hgb, hn, hm, hs, ht⟩
  · exact ⟨none, 0, by rw [e1, e2], fun h0 => by omega⟩
  · refine ⟨_, cap, e1, fun _ => ⟨g, 0, rfl, hg, (Array.getElem?_eq_some_iff.1 hgb).1, fun i x hx => ?_⟩⟩
    have hi : i < l.length := (List.getElem?_eq_some_iff.1 hx).1
    rw [cell_row hgb, Nat.zero_add]
    have : (intv l)[i]? = some (.int .i64 x) := by simp [intv, hx]
    rw [← ht, List.getElem?_take, if_pos (by omega), Array.getElem?_toList] at this
    exact this
theorem Tryz.info2 : (Tryz.prog.info? 2).map (fun i => (i.zero, i.size, i.bytes)) = some (some (.int .i64 0), 1, 8) := by kernel_rfl
theorem Tryz.info46 : (Tryz.prog.info? 46).map (fun i => (i.zero, i.size, i.bytes)) = some (some (.agg #[.int .i64 0, .bool false, .int .i64 0, .slice none 0 0]), 4, 48) := by kernel_rfl
theorem Tryz.info54 : (Tryz.prog.info? 54).map (fun i => (i.zero, i.size, i.bytes)) = some (some (.agg #[.bool false, .slice none 0 0]), 2, 32) := by kernel_rfl
theorem run_app0_59 (w : World) (ty : TypeId) (g : Nat) (a : Option Addr) (c' : Nat) : (Builtin.append_ #[42, 42] ty #[.slice (some ⟨g, 0, none⟩) 0 0, .slice a 0 c']).run Tryz.prog w = .ok (.slice (some ⟨g, 0, none⟩) 0 0) w := by
  obtain ⟨i0, hi0, hz0, hz1, hz2⟩ := info_parts Tryz.info2
  have hf : (Builtin.firstCells i0.size 0 (.slice a 0 c')).run Tryz.prog w = .ok #[] w := by cases a <;> simp [Builtin.firstCells, loadCells, loadCellsFrom]
  simp [Builtin.append_, run_underlying Tryz.underlying42, sizeOf, typeInfo, hi0, Builtin.lenOf, hf, storeCells]

set_option maxRecDepth 100000 in
set_option maxHeartbeats 4000000 in
theorem clone0_59 (a : Option Addr) (c : Nat) (W : World) : Calls Tryz.prog 59 #[.slice a 0 c] W fun e w' => ∃ v, e = .returned v ∧ w'.ownsRow W.heap.size 2 1 v 0 [] ∧ Below W.heap.size W w' := by
  cases a with
  | none => exact (AnyE.slices_Clone_nil Tryz.laysClone59 0 c W).mono fun e w' ⟨he, hw⟩ => ⟨_, he, World.ownsRow_nil _ _ _ _, by rw [hw]; exact Below.refl _ _⟩
  | some ad =>
    have happ := run_app0_59
    have hnil : ∀ (w : World) (a : Option Addr) (n c n' c' : Nat), (binOp .eql 42 (.slice a n c) (.slice none n' c')).run Tryz.prog w = .ok (.bool a.isNone) w := fun w a n c n' c' => Lib.run_eql_slice_nil w _ _ a n c n' c' Tryz.underlying42
    go_enter Tryz.func59, Tryz.ntmps59
    go_wp2
    go_ret
    refine ⟨_, rfl, World.ownsRow_made W #[] 0 (Nat.le_refl _) (Nat.zero_le _) (by simp), (Below.refl _ W).alloc (Nat.le_refl _) _⟩
theorem run_app0_84 (w : World) (ty : TypeId) (g : Nat) (a : Option Addr) (c' : Nat) : (Builtin.append_ #[52, 52] ty #[.slice (some ⟨g, 0, none⟩) 0 0, .slice a 0 c']).run Tryz.prog w = .ok (.slice (some ⟨g, 0, none⟩) 0 0) w := by
  obtain ⟨i0, hi0, hz0, hz1, hz2⟩ := info_parts Tryz.info46
  have hf : (Builtin.firstCells i0.size 0 (.slice a 0 c')).run Tryz.prog w = .ok #[] w := by cases a <;> simp [Builtin.firstCells, loadCells, loadCellsFrom]
  simp [Builtin.append_, run_underlying Tryz.underlying52, sizeOf, typeInfo, hi0, Builtin.lenOf, hf, storeCells]

set_option maxRecDepth 100000 in
set_option maxHeartbeats 4000000 in
theorem clone0_84 (a : Option Addr) (c : Nat) (W : World) : Calls Tryz.prog 84 #[.slice a 0 c] W fun e w' => ∃ v, e = .returned v ∧ w'.ownsRow W.heap.size 46 4 v 0 [] ∧ Below W.heap.size W w' := by
  cases a with
  | none => exact (AnyE.slices_Clone_nil Tryz.laysClone84 0 c W).mono fun e w' ⟨he, hw⟩ => ⟨_, he, World.ownsRow_nil _ _ _ _, by rw [hw]; exact Below.refl _ _⟩
  | some ad =>
    have happ := run_app0_84
    have hnil : ∀ (w : World) (a : Option Addr) (n c n' c' : Nat), (binOp .eql 52 (.slice a n c) (.slice none n' c')).run Tryz.prog w = .ok (.bool a.isNone) w := fun w a n c n' c' => Lib.run_eql_slice_nil w _ _ a n c n' c' Tryz.underlying52
    go_enter Tryz.func84, Tryz.ntmps84
    go_wp2
    go_ret
    refine ⟨_, rfl, World.ownsRow_made W #[] 0 (Nat.le_refl _) (Nat.zero_le _) (by simp), (Below.refl _ W).alloc (Nat.le_refl _) _⟩
theorem run_app0_57 (w : World) (ty : TypeId) (g : Nat) (a : Option Addr) (c' : Nat) : (Builtin.append_ #[30, 30] ty #[.slice (some ⟨g, 0, none⟩) 0 0, .slice a 0 c']).run Tryz.prog w = .ok (.slice (some ⟨g, 0, none⟩) 0 0) w := by
  obtain ⟨i0, hi0, hz0, hz1, hz2⟩ := info_parts Tryz.info54
  have hf : (Builtin.firstCells i0.size 0 (.slice a 0 c')).run Tryz.prog w = .ok #[] w := by cases a <;> simp [Builtin.firstCells, loadCells, loadCellsFrom]
  simp [Builtin.append_, run_underlying Tryz.underlying30, sizeOf, typeInfo, hi0, Builtin.lenOf, hf, storeCells]

set_option maxRecDepth 100000 in
set_option maxHeartbeats 4000000 in
theorem clone0_57 (a : Option Addr) (c : Nat) (W : World) : Calls Tryz.prog 57 #[.slice a 0 c] W fun e w' => ∃ v, e = .returned v ∧ w'.ownsRow W.heap.size 54 2 v 0 [] ∧ Below W.heap.size W w' := by
  cases a with
  | none => exact (AnyE.slices_Clone_nil Tryz.laysClone57 0 c W).mono fun e w' ⟨he, hw⟩ => ⟨_, he, World.ownsRow_nil _ _ _ _, by rw [hw]; exact Below.refl _ _⟩
  | some ad =>
    have happ := run_app0_57
    have hnil : ∀ (w : World) (a : Option Addr) (n c n' c' : Nat), (binOp .eql 30 (.slice a n c) (.slice none n' c')).run Tryz.prog w = .ok (.bool a.isNone) w := fun w a n c n' c' => Lib.run_eql_slice_nil w _ _ a n c n' c' Tryz.underlying30
    go_enter Tryz.func57, Tryz.ntmps57
    go_wp2
    go_ret
    refine ⟨_, rfl, World.ownsRow_made W #[] 0 (Nat.le_refl _) (Nat.zero_le _) (by simp), (Below.refl _ W).alloc (Nat.le_refl _) _⟩
end Go.Proofs.YtpgecdhieakilaaGreatDoor

namespace Go.Proofs.YtpgecdhieakilaaGreatDoor
open Go.RowKit Go.Shelf
set_option linter.unusedVariables false
set_option linter.unusedSimpArgs false

set_option maxRecDepth 100000 in
set_option maxHeartbeats 4000000 in
theorem clone59 {B : Nat} {W : World} {s : Value} {l : List Int} (h : Si B W s l) (hl : l.length ≤ 17592186043904) : Calls Tryz.prog 59 #[s] W fun e w' => ∃ v, e = .returned v ∧ Si W.heap.size w' v l ∧ Below W.heap.size W w' := by
  obtain ⟨a, c, rfl, h⟩ := h
  rcases Nat.eq_zero_or_pos l.length with h0 | h0
  · have : l = [] := List.length_eq_zero_iff.1 h0
    subst this
    exact (clone0_59 a c W).mono fun e w' ⟨v, e1, e2, e3⟩ => ⟨v, e1, own_si e2, e3⟩
  · obtain ⟨b, off, rfl, hB, hb, hc⟩ := h h0
    obtain ⟨i0, hi0, hz0, hz1, hz2⟩ := info_parts Tryz.info2
    refine (AnyE.slices_Clone Tryz.laysClone59 i0 _ 1 8 hi0 hz0 hz1 hz2 rfl (by omega) Tryz.sizeOf2 b off l.length c (intv l) W (by simp [intv]) (by unfold maxLen; omega) (by omega) ?_ ?_).mono fun e w' ⟨v, e1, e2, _, e3⟩ => ⟨v, e1, own_si e2, e3⟩
    · intro j u hu
      simp only [intv, List.getElem?_map, Option.map_eq_some_iff] at hu
      obtain ⟨x, hx, rfl⟩ := hu
      exact hc j x hx
    · intro u hu
      simp only [intv, List.mem_map] at hu
      obtain ⟨x, _, rfl⟩ := hu
      rfl
/-- A block of cells. -/
structure Blk (w : World) (g : Nat) (cs : Array Value) (ty : TypeId) : Prop where
  h : w.heap[g]? = some (.cells cs ty (0, 0))
theorem Blk.below {w w' : World} {g : Nat} {cs : Array Value} {ty : TypeId} (h : Blk w g cs ty) (hb : Below w.heap.size w w') : Blk w' g cs ty := ⟨(hb.block _ (Array.getElem?_eq_some_iff.1 h.h).1).trans h.h⟩
theorem Blk.lt {w : World} {g : Nat} {cs : Array Value} {ty : TypeId} (h : Blk w g cs ty) : g < w.heap.size := (Array.getElem?_eq_some_iff.1 h.h).1
theorem Blk.cell {w : World} {g : Nat} {cs : Array Value} {ty : TypeId} (h : Blk w g cs ty) (i : Nat) : w.cell? ⟨g, i, none⟩ = cs[i]? := cell_row h.h i
theorem Blk.frozen {w : World} {g : Nat} {cs : Array Value} {ty : TypeId} (h : Blk w g cs ty) (i : Nat) : w.frozen? ⟨g, i, none⟩ = false := by simp [World.frozen?, h.h]
theorem Blk.set {w : World} {g : Nat} {cs : Array Value} {ty : TypeId} (h : Blk w g cs ty) (i : Nat) (v : Value) : Blk (w.setCell ⟨g, i, none⟩ v) g (cs.setIfInBounds i v) ty := ⟨row_set h.h i v⟩
theorem Blk.other {w : World} {g k : Nat} {cs : Array Value} {ty : TypeId} (h : Blk w g cs ty) (hk : g ≠ k) (i : Nat) (v : Value) : Blk (w.setCell ⟨k, i, none⟩ v) g cs ty := ⟨(Below.heap_setCell w ⟨k, i, none⟩ v g hk).trans h.h⟩
theorem Si.set {B : Nat} {W : World} {s : Value} {l : List Int} (h : Si B W s l) {g : Nat} (hg : g < B) (i : Nat) (v : Value) : Si B (W.setCell ⟨g, i, none⟩ v) s l := by
  obtain ⟨a, c, e, h⟩ := h
  refine ⟨a, c, e, fun h0 => ?_⟩
  obtain ⟨b, off, e1, e0, e2, e3⟩ := h h0
  have hne : b ≠ g := by omega
  exact ⟨b, off, e1, e0, by rw [World.size_setCell]; exact e2, fun j x hx => (World.cell?_of_block (w := W) (a := ⟨b, off + j, none⟩) (Below.heap_setCell W ⟨g, i, none⟩ v b hne)).trans (e3 j x hx)⟩
theorem Blk.new (w : World) (cs : Array Value) (ty : TypeId) : Blk (w.alloc (.cells cs ty)) w.heap.size cs ty := ⟨World.alloc_heap_new w _⟩
theorem Blk.alloc {w : World} {g : Nat} {cs : Array Value} {ty : TypeId} (h : Blk w g cs ty) (o : Obj) : Blk (w.alloc o) g cs ty := h.below ((Below.refl _ w).alloc (Nat.le_refl _) _)

set_option maxRecDepth 100000 in
set_option maxHeartbeats 4000000 in
theorem copyVal_any {B : Nat} {W : World} {s : Value} {l : List Int} (b : Bool) (n : Int) (h : Si B W s l) (hl : l.length ≤ 17592186043904) : Calls Tryz.prog 60 #[.agg #[.bool b, .int .i64 n, s]] W fun e w' => ∃ v, e = .returned (.agg #[.bool b, .int .i64 n, v]) ∧ Si W.heap.size w' v l ∧ Below W.heap.size W w' := by
  obtain ⟨a8, c8, rfl, h⟩ := h
  have H : Hid (Si B W (.slice a8 l.length c8) l) := ⟨a8, c8, rfl, h⟩
  clear h
  go_enter Tryz.func60, Tryz.ntmps60
  go_wp2_with fail
  have hbA : Below W.heap.size W ((W.alloc (Obj.cells #[Value.bool b, Value.int IntKind.i64 n, .slice a8 l.length c8] 44)).alloc (Obj.cells #[Value.bool false, Value.int IntKind.i64 0, Value.slice none 0 0] 44)) := ((Below.refl _ W).alloc (Nat.le_refl _) _).alloc (by simp) _
  refine (clone59 (H.out.below hbA) hl).mono ?_
  rintro e w1 ⟨v, rfl, ⟨a9, c9, rfl, hv⟩, hb⟩
  have HV : Hid (Si (W.heap.size + 2) w1 (.slice a9 l.length c9) l) := ⟨a9, c9, rfl, by simpa using hv⟩
  clear hv
  have k1 : Hid (Blk w1 W.heap.size #[Value.bool b, Value.int IntKind.i64 n, .slice a8 l.length c8] 44) := ((Blk.new W _ _).alloc _).below hb
  have k2 : Hid (Blk w1 (W.heap.size + 1) #[Value.bool false, Value.int IntKind.i64 0, Value.slice none 0 0] 44) := by
    have := (Blk.new (W.alloc (Obj.cells #[Value.bool b, Value.int IntKind.i64 n, .slice a8 l.length c8] 44)) #[Value.bool false, Value.int IntKind.i64 0, Value.slice none 0 0] 44).below hb
    rw [World.size_alloc] at this
    exact this
  have c0 : w1.cell? ⟨W.heap.size, 0, none⟩ = some (.bool b) := k1.out.cell 0
  have c1 : w1.cell? ⟨W.heap.size, 1, none⟩ = some (.int .i64 n) := k1.out.cell 1
  have c2 : w1.cell? ⟨W.heap.size, 2, none⟩ = some (.slice a8 l.length c8) := k1.out.cell 2
  have d0 : w1.cell? ⟨W.heap.size + 1, 0, none⟩ = some (.bool false) := k2.out.cell 0
  have d1 : w1.cell? ⟨W.heap.size + 1, 1, none⟩ = some (.int .i64 0) := k2.out.cell 1
  have d2 : w1.cell? ⟨W.heap.size + 1, 2, none⟩ = some (.slice none 0 0) := k2.out.cell 2
  have f0 := k1.out.frozen
  have f1 := k2.out.frozen
  have hbW : Hid (Below W.heap.size W w1) := hbA.trans (hb.mono (by simp; omega))
  clear hbA hb
  go_wp2
  exact ⟨rfl, _, results_cell_row (P := Tryz.prog) rfl _ _ (W.heap.size + 1) 44 _ (0, 0) _ rfl ((((k2.out.other (by omega) _ _).set 0 _).set 1 _).set 2 _).h Tryz.underlying44 rfl (by kernel_rfl), _, rfl, ((((HV.out.set (by omega) _ _).set (by omega) _ _).set (by omega) _ _).set (by omega) _ _).lower (by omega), hbW.out.trans (((((Below.refl _ w1).setCell (by simp) _).setCell (by simp) _).setCell (by simp) _).setCell (by simp) _)⟩

set_option maxRecDepth 100000 in
set_option maxHeartbeats 4000000 in
theorem int_any (W : World) (n : Int) : Calls Tryz.prog 25 #[.int .i64 n] W fun e w' => e = .returned (.agg #[.int .i64 (-1), .bool false, .int .i64 n, .slice none 0 0]) ∧ Below W.heap.size W w' := by
  go_enter Tryz.func25, Tryz.ntmps25
  go_wp2
  exact ⟨rfl, _, results_cell_row (P := Tryz.prog) rfl _ _ W.heap.size 46 _ (0, 0) _ rfl (World.alloc_heap_new W _) Tryz.underlying46 rfl (by kernel_rfl), rfl, (Below.refl _ W).alloc (Nat.le_refl _) _⟩

set_option maxRecDepth 100000 in
set_option maxHeartbeats 4000000 in
theorem var_any (W : World) (n : Int) : Calls Tryz.prog 27 #[.int .i64 n] W fun e w' => e = .returned (.agg #[.int .i64 n, .bool false, .int .i64 0, .slice none 0 0]) ∧ Below W.heap.size W w' := by
  go_enter Tryz.func27, Tryz.ntmps27
  go_wp2
  exact ⟨rfl, _, results_cell_row (P := Tryz.prog) rfl _ _ W.heap.size 46 _ (0, 0) _ rfl (World.alloc_heap_new W _) Tryz.underlying46 rfl (by kernel_rfl), rfl, (Below.refl _ W).alloc (Nat.le_refl _) _⟩

end Go.Proofs.YtpgecdhieakilaaGreatDoor

namespace Go.Proofs.YtpgecdhieakilaaGreatDoor
open Go.RowKit Go.Shelf
set_option linter.unusedVariables false
set_option linter.unusedSimpArgs false
/-- A term. -/
structure Tm where
  v : Int
  set : Bool
  n : Int
  s : List Int
/-- The cells of a term, whose set lies in sv. -/
def Tm.cells (t : Tm) (sv : Value) : List Value := [.int .i64 t.v, .bool t.set, .int .i64 t.n, sv]
/-- Terms in a block from off on, whose sets lie from B on. -/
def Tr (B : Nat) (W : World) (b off : Nat) (l : List Tm) (svl : List Value) : Prop := svl.length = l.length ∧ ∀ i t sv, l[i]? = some t → svl[i]? = some sv → Si B W sv t.s ∧ ∀ r u, (t.cells sv)[r]? = some u → W.cell? ⟨b, off + i * 4 + r, none⟩ = some u
/-- A slice of terms in memory. -/
def St (B : Nat) (W : World) (s : Value) (l : List Tm) : Prop := ∃ a c, s = .slice a l.length c ∧ (0 < l.length → ∃ b off svl, a = some ⟨b, off, none⟩ ∧ B ≤ b ∧ b < W.heap.size ∧ Tr B W b off l svl)
theorem Tr.below {B : Nat} {W W' : World} {b off : Nat} {l : List Tm} {svl : List Value} (h : Tr B W b off l svl) (hlt : b < W.heap.size) (hb : Below W.heap.size W W') : Tr B W' b off l svl :=
  ⟨h.1, fun i t sv h1 h2 => ⟨(h.2 i t sv h1 h2).1.below hb, fun r u hu => (hb.cell (p := ⟨b, off + i * 4 + r, none⟩) hlt).trans ((h.2 i t sv h1 h2).2 r u hu)⟩⟩
theorem Tr.lower {B B' : Nat} {W : World} {b off : Nat} {l : List Tm} {svl : List Value} (h : Tr B W b off l svl) (hb : B' ≤ B) : Tr B' W b off l svl :=
  ⟨h.1, fun i t sv h1 h2 => ⟨(h.2 i t sv h1 h2).1.lower hb, (h.2 i t sv h1 h2).2⟩⟩
theorem St.below {B : Nat} {W W' : World} {s : Value} {l : List Tm} (h : St B W s l) (hb : Below W.heap.size W W') : St B W' s l := by
  obtain ⟨a, c, e, h⟩ := h
  exact ⟨a, c, e, fun h0 => by obtain ⟨b, off, svl, e1, e0, e2, e3⟩ := h h0; exact ⟨b, off, svl, e1, e0, Nat.lt_of_lt_of_le e2 hb.size, e3.below e2 hb⟩⟩
theorem St.lower {B B' : Nat} {W : World} {s : Value} {l : List Tm} (h : St B W s l) (hb : B' ≤ B) : St B' W s l := by
  obtain ⟨a, c, e, h⟩ := h
  exact ⟨a, c, e, fun h0 => by obtain ⟨b, off, svl, e1, e0, e2, e3⟩ := h h0; exact ⟨b, off, svl, e1, Nat.le_trans hb e0, e2, e3.lower hb⟩⟩
/-- All cells of some terms. -/
def tcells : List Tm → List Value → List Value
  | t :: l, sv :: svl => t.cells sv ++ tcells l svl
  | _, _ => []
theorem tcells_length : ∀ (l : List Tm) (svl : List Value), svl.length = l.length → (tcells l svl).length = l.length * 4
  | [], _, _ => by simp [tcells]
  | t :: l, [], h => by simp at h
  | t :: l, sv :: svl, h => by simp [tcells, Tm.cells, tcells_length l svl (by simpa using h)]; omega
theorem tcells_get : ∀ (l : List Tm) (svl : List Value), svl.length = l.length → ∀ i t sv, l[i]? = some t → svl[i]? = some sv → ∀ r, r < 4 → (tcells l svl)[i * 4 + r]? = (t.cells sv)[r]?
  | [], _, _, i, t, sv, h1, _, r, _ => by simp at h1
  | t' :: l, [], h, _, _, _, _, _, _, _ => by simp at h
  | t' :: l, sv' :: svl, h, 0, t, sv, h1, h2, r, hr => by
    simp at h1 h2; subst h1; subst h2
    rw [tcells, List.getElem?_append_left (by simp [Tm.cells]; omega)]; simp
  | t' :: l, sv' :: svl, h, i + 1, t, sv, h1, h2, r, hr => by
    have e : (i + 1) * 4 + r = i * 4 + r + 4 := by omega
    rw [tcells, e, List.getElem?_append_right (by simp [Tm.cells]), show (t'.cells sv').length = 4 from rfl, Nat.add_sub_cancel]
    exact tcells_get l svl (by simpa using h) i t sv (by simpa using h1) (by simpa using h2) r hr
theorem tcells_all {l : List Tm} {svl : List Value} (h : svl.length = l.length) {j : Nat} {u : Value} (hu : (tcells l svl)[j]? = some u) : ∃ i r t sv, j = i * 4 + r ∧ r < 4 ∧ l[i]? = some t ∧ svl[i]? = some sv ∧ (t.cells sv)[r]? = some u := by
  have hj := (List.getElem?_eq_some_iff.1 hu).1
  rw [tcells_length _ _ h] at hj
  have hi : j / 4 < l.length := by omega
  refine ⟨j / 4, j % 4, l[j / 4], svl[j / 4]'(by omega), by omega, by omega, List.getElem?_eq_getElem hi, List.getElem?_eq_getElem (by omega), ?_⟩
  rw [← tcells_get l svl h (j / 4) _ _ (List.getElem?_eq_getElem hi) (List.getElem?_eq_getElem (by omega)) (j % 4) (by omega), show j / 4 * 4 + j % 4 = j by omega, hu]

set_option maxRecDepth 100000 in
set_option maxHeartbeats 4000000 in
theorem clone84 {B : Nat} {W : World} {s : Value} {l : List Tm} (h : St B W s l) (hl : l.length ≤ 2932031007317) : Calls Tryz.prog 84 #[s] W fun e w' => ∃ v, e = .returned v ∧ (∃ svl : List Value, svl.length = l.length ∧ (∀ (i : Nat) (t : Tm) sv, l[i]? = some t → svl[i]? = some sv → Si B W sv t.s) ∧ w'.ownsRow W.heap.size 46 4 v l.length (tcells l svl)) ∧ Below W.heap.size W w' := by
  obtain ⟨a, c, rfl, h⟩ := h
  rcases Nat.eq_zero_or_pos l.length with h0 | h0
  · have : l = [] := List.length_eq_zero_iff.1 h0
    subst this
    exact (clone0_84 a c W).mono fun e w' ⟨v, e1, e2, e3⟩ => ⟨v, e1, ⟨[], rfl, by intro i t sv h1 _; simp at h1, e2⟩, e3⟩
  · obtain ⟨b, off, svl, rfl, hB, hb, hs, hc⟩ := h h0
    obtain ⟨i0, hi0, hz0, hz1, hz2⟩ := info_parts Tryz.info46
    refine (AnyE.slices_Clone Tryz.laysClone84 i0 _ 4 48 hi0 hz0 hz1 hz2 rfl (by omega) Tryz.sizeOf46 b off l.length c (tcells l svl) W (tcells_length _ _ hs) (by unfold maxLen; omega) (by omega) ?_ ?_).mono fun e w' ⟨v, e1, e2, _, e3⟩ => ⟨v, e1, ⟨svl, hs, fun i t sv h1 h2 => (hc i t sv h1 h2).1, e2⟩, e3⟩
    · intro j u hu
      obtain ⟨i, r, t, sv, rfl, hr, h1, h2, h3⟩ := tcells_all hs hu
      have := (hc i t sv h1 h2).2 r u h3
      rwa [Nat.add_assoc] at this
    · intro u hu
      obtain ⟨j, hj⟩ := List.mem_iff_getElem?.1 hu
      obtain ⟨i, r, t, sv, _, hr, h1, h2, h3⟩ := tcells_all hs hj
      obtain ⟨⟨a', c', rfl, _⟩, _⟩ := hc i t sv h1 h2
      match r, hr with
      | 0, _ => simp [Tm.cells] at h3; subst h3; rfl
      | 1, _ => simp [Tm.cells] at h3; subst h3; rfl
      | 2, _ => simp [Tm.cells] at h3; subst h3; rfl
      | 3, _ => simp [Tm.cells] at h3; subst h3; rfl
end Go.Proofs.YtpgecdhieakilaaGreatDoor

namespace Go.Proofs.YtpgecdhieakilaaGreatDoor
open Go.RowKit Go.Shelf
set_option linter.unusedVariables false
set_option linter.unusedSimpArgs false
/-- How far the terms are copied. -/
structure Cp (B : Nat) (W w : World) (g : Nat) (l : List Tm) (svl : List Value) (k : Nat) : Prop where
  len : svl.length = l.length
  ge : W.heap.size ≤ g
  row : ∃ cur, Blk w g cur 46 ∧ ∀ i t sv, l[i]? = some t → svl[i]? = some sv → ∀ r, r < 4 → cur[i * 4 + r]? = (t.cells sv)[r]?
  old : ∀ (i : Nat) (t : Tm) sv, k ≤ i → l[i]? = some t → svl[i]? = some sv → Si B W sv t.s
  new : ∀ (i : Nat) (t : Tm) sv, i < k → l[i]? = some t → svl[i]? = some sv → Si (g + 1) w sv t.s
  bel : Below W.heap.size W w
theorem Cp.lt {B : Nat} {W w : World} {g : Nat} {l : List Tm} {svl : List Value} {k : Nat} (h : Cp B W w g l svl k) : g < w.heap.size := by
  obtain ⟨cur, hc, _⟩ := h.row; exact hc.lt
theorem Cp.below {B : Nat} {W w w' : World} {g : Nat} {l : List Tm} {svl : List Value} {k : Nat} (h : Cp B W w g l svl k) (hb : Below w.heap.size w w') : Cp B W w' g l svl k := by
  obtain ⟨cur, hc, hr⟩ := h.row
  exact ⟨h.len, h.ge, ⟨cur, hc.below hb, hr⟩, h.old, fun i t sv h1 h2 h3 => (h.new i t sv h1 h2 h3).below hb, h.bel.trans (hb.mono h.bel.size)⟩
theorem Cp.cells {B : Nat} {W w : World} {g : Nat} {l : List Tm} {svl : List Value} {k i : Nat} {t : Tm} {sv : Value} (h : Cp B W w g l svl k) (h1 : l[i]? = some t) (h2 : svl[i]? = some sv) : w.cell? ⟨g, i * 4, none⟩ = some (.int .i64 t.v) ∧ w.cell? ⟨g, i * 4 + 1, none⟩ = some (.bool t.set) ∧ w.cell? ⟨g, i * 4 + 2, none⟩ = some (.int .i64 t.n) ∧ w.cell? ⟨g, i * 4 + 3, none⟩ = some sv ∧ ∀ j, w.frozen? ⟨g, j, none⟩ = false := by
  obtain ⟨cur, hc, hr⟩ := h.row
  have := hr i t sv h1 h2
  exact ⟨(hc.cell _).trans (this 0 (by omega)), (hc.cell _).trans (this 1 (by omega)), (hc.cell _).trans (this 2 (by omega)), (hc.cell _).trans (this 3 (by omega)), hc.frozen⟩
theorem Cp.step {B : Nat} {W w : World} {g : Nat} {l : List Tm} {svl : List Value} {k : Nat} {t : Tm} {v : Value} (h : Cp B W w g l svl k) (h1 : l[k]? = some t) (hv : Si (g + 1) w v t.s) :
    Cp B W (((w.setCell ⟨g, k * 4 + 1, none⟩ (.bool t.set)).setCell ⟨g, k * 4 + 2, none⟩ (.int .i64 t.n)).setCell ⟨g, k * 4 + 3, none⟩ v) g l (svl.set k v) (k + 1) := by
  have hk : k < l.length := (List.getElem?_eq_some_iff.1 h1).1
  obtain ⟨sv0, h20⟩ : ∃ sv, svl[k]? = some sv := ⟨_, List.getElem?_eq_getElem (by rw [h.len]; exact hk)⟩
  obtain ⟨cur, hc, hr⟩ := h.row
  have hsz : k * 4 + 3 < cur.size := by
    have := hr k t sv0 h1 h20 3 (by omega)
    exact (Array.getElem?_eq_some_iff.1 (this.trans rfl : cur[k * 4 + 3]? = some sv0)).1
  have keep : ∀ {s' : Value} {li : List Int}, Si (g + 1) w s' li → Si (g + 1) (((w.setCell ⟨g, k * 4 + 1, none⟩ (.bool t.set)).setCell ⟨g, k * 4 + 2, none⟩ (.int .i64 t.n)).setCell ⟨g, k * 4 + 3, none⟩ v) s' li := fun h => ((h.set (by omega) _ _).set (by omega) _ _).set (by omega) _ _
  refine ⟨by simp [h.len], h.ge, ⟨_, ((hc.set _ _).set _ _).set _ _, fun i t' sv h3 h4 r hr4 => ?_⟩, fun i t' sv h5 h3 h4 => ?_, fun i t' sv h5 h3 h4 => ?_, h.bel.trans ((((Below.refl _ w).setCell h.ge _).setCell h.ge _).setCell h.ge _)⟩
  · rw [List.getElem?_set] at h4
    by_cases e : k = i
    · subst e
      rw [h1] at h3; cases h3
      rw [if_pos rfl, if_pos (by rw [h.len]; exact hk)] at h4
      cases h4
      have h0 := hr k t sv0 h1 h20 0 (by omega)
      match r, hr4 with
      | 0, _ => rw [Array.getElem?_setIfInBounds_ne (by omega), Array.getElem?_setIfInBounds_ne (by omega), Array.getElem?_setIfInBounds_ne (by omega)]; exact h0
      | 1, _ => rw [Array.getElem?_setIfInBounds_ne (by omega), Array.getElem?_setIfInBounds_ne (by omega), Array.getElem?_setIfInBounds_self_of_lt (by omega)]; rfl
      | 2, _ => rw [Array.getElem?_setIfInBounds_ne (by omega), Array.getElem?_setIfInBounds_self_of_lt (by simp; omega)]; rfl
      | 3, _ => rw [Array.getElem?_setIfInBounds_self_of_lt (by simp; omega)]; rfl
    · rw [if_neg e] at h4
      rw [Array.getElem?_setIfInBounds_ne (by omega), Array.getElem?_setIfInBounds_ne (by omega), Array.getElem?_setIfInBounds_ne (by omega)]
      exact hr i t' sv h3 h4 r hr4
  · rw [List.getElem?_set, if_neg (by omega)] at h4
    exact h.old i t' sv (by omega) h3 h4
  · rw [List.getElem?_set] at h4
    by_cases e : k = i
    · subst e
      rw [h1] at h3; cases h3
      rw [if_pos rfl, if_pos (by rw [h.len]; exact hk)] at h4
      cases h4
      exact keep hv
    · rw [if_neg e] at h4
      exact keep (h.new i t' sv (by omega) h3 h4)
theorem Cp.done {B : Nat} {W w : World} {g : Nat} {l : List Tm} {svl : List Value} (h : Cp B W w g l svl l.length) (c : Nat) : St W.heap.size w (.slice (some ⟨g, 0, none⟩) l.length c) l := by
  refine ⟨_, c, rfl, fun _ => ⟨g, 0, svl, rfl, h.ge, h.lt, h.len, fun i t sv h1 h2 => ⟨(h.new i t sv (List.getElem?_eq_some_iff.1 h1).1 h1 h2).lower (by have := h.ge; omega), fun r u hu => ?_⟩⟩⟩
  obtain ⟨cur, hc, hr⟩ := h.row
  have hr4 : r < 4 := (List.getElem?_eq_some_iff.1 hu).1
  rw [hc.cell, show 0 + i * 4 + r = i * 4 + r by omega, hr i t sv h1 h2 r hr4, hu]

set_option maxRecDepth 100000 in
set_option maxHeartbeats 4000000 in
theorem copyTerms_any {B : Nat} {W : World} {s : Value} {l : List Tm} (h : St B W s l) (hl : l.length ≤ 2932031007317) (hL : ∀ t ∈ l, t.s.length ≤ 17592186043904) : Calls Tryz.prog 58 #[s] W fun e w' => ∃ v, e = .returned v ∧ St W.heap.size w' v l ∧ Below W.heap.size W w' := by
  obtain ⟨a8, c8, rfl, h⟩ := h
  have H : Hid (St B W (.slice a8 l.length c8) l) := ⟨a8, c8, rfl, h⟩
  have HL : Hid (∀ t ∈ l, t.s.length ≤ 17592186043904) := hL
  clear h hL
  go_enter Tryz.func58, Tryz.ntmps58
  go_wp2_with fail
  refine (clone84 H.out hl).mono ?_
  rintro e w1 ⟨v, rfl, ⟨svl, hs, ho, hown⟩, hb⟩
  obtain ⟨n, hn⟩ : ∃ n, l.length = n := ⟨_, rfl⟩
  have HN : Hid (l.length = n) := hn
  have HO : Hid (w1.ownsRow W.heap.size 46 4 v n (tcells l svl)) := hn ▸ hown
  have HS : Hid (∀ (i : Nat) (t : Tm) sv, l[i]? = some t → svl[i]? = some sv → Si B W sv t.s) := ho
  have HB : Hid (Below W.heap.size W w1) := hb
  rw [hn] at hl
  clear hown ho hb hn
  rcases HO.out.2 with ⟨rfl, e2⟩ | ⟨g, cap, cur, rfl, hg, hgb, hn, hm, hs2, ht⟩
  · obtain rfl : n = 0 := by have := HO.out.1; rw [e2] at this; simp at this; omega
    clear e2
    have hl0 : l = [] := List.length_eq_zero_iff.1 HN.out
    go_wp2
    go_loopw [10] (fun i wr => i = .int .i64 0 ∧ w1 = wr) (fun i _ => 0)
    case atStart => exact ⟨rfl, rfl⟩
    case round =>
      obtain ⟨rfl, rfl⟩ := hrel
      go_wp2
      go_ret
      exact ⟨_, rfl, ⟨none, 0, by rw [hl0]; rfl, fun h => by rw [hl0] at h; simp at h⟩, HB.out⟩
  · have HC : Hid (Cp B W w1 g l svl 0) := ⟨hs, hg, ⟨cur, ⟨hgb⟩, fun i t sv h1 h2 r hr => by
      have hi : i < n := by rw [← HN.out]; exact (List.getElem?_eq_some_iff.1 h1).1
      rw [← tcells_get l svl hs i t sv h1 h2 r hr, ← ht, List.getElem?_take, if_pos (by omega), Array.getElem?_toList]⟩, fun i t sv _ h1 h2 => HS.out i t sv h1 h2, fun i t sv h0 => by omega, HB.out⟩
    clear hgb ht hs hg
    go_wp2
    go_loopw [10, 4, 5] (fun i _ _ wr => ∃ k : Nat, k ≤ n ∧ i = .int .i64 (k : Int) ∧ ∃ sl, Hid (Cp B W wr g l sl k)) (fun i _ _ _ => n - (intOf i).toNat)
    case atStart => exact ⟨0, Nat.zero_le _, rfl, svl, HC⟩
    case round =>
      obtain ⟨k, hk, rfl, sl, HK⟩ := hrel
      by_cases hlt : k < n
      · have hlt' : (k : Int) < n := by omega
        obtain ⟨t, h1⟩ : ∃ t, l[k]? = some t := ⟨_, List.getElem?_eq_getElem (by rw [HN.out]; exact hlt)⟩
        obtain ⟨sv, h2⟩ : ∃ sv, sl[k]? = some sv := ⟨_, List.getElem?_eq_getElem (by rw [HK.out.len, HN.out]; exact hlt)⟩
        obtain ⟨av, cv, rfl, hsv⟩ := HK.out.old k t sv (Nat.le_refl _) h1 h2
        have HSV : Hid (Si B W (.slice av t.s.length cv) t.s) := ⟨av, cv, rfl, hsv⟩
        obtain ⟨d0, d1, d2, d3, df⟩ := HK.out.cells h1 h2
        have ht9 := HL.out t (List.mem_of_getElem? h1)
        obtain ⟨tv, htv⟩ : ∃ x, t.v = x := ⟨_, rfl⟩
        obtain ⟨ts, hts⟩ : ∃ x, t.set = x := ⟨_, rfl⟩
        obtain ⟨tn, htn⟩ : ∃ x, t.n = x := ⟨_, rfl⟩
        obtain ⟨sn, hsn⟩ : ∃ x, t.s.length = x := ⟨_, rfl⟩
        have HT : Hid (t.v = tv ∧ t.set = ts ∧ t.n = tn ∧ t.s.length = sn) := ⟨htv, hts, htn, hsn⟩
        rw [htv] at d0; rw [hts] at d1; rw [htn] at d2; rw [hsn] at d3
        have H1 : Hid (l[k]? = some t) := h1
        clear htv hts htn hsn h1 h2 hsv
        have hw2 : IntKind.i64.wrap ((k : Int) + 1) = (k : Int) + 1 := by rw [IntKind.wrap_i64]; omega
        have hbA : Below wr.heap.size wr (wr.alloc (Obj.cells #[.int .i64 tv, .bool ts, .int .i64 tn, .slice av sn cv] 46)) := (Below.refl _ wr).alloc (Nat.le_refl _) _
        have hbW : Hid (Below W.heap.size W (wr.alloc (Obj.cells #[.int .i64 tv, .bool ts, .int .i64 tn, .slice av sn cv] 46))) := HK.out.bel.trans (hbA.mono HK.out.bel.size)
        have HK2 : Hid (Cp B W (wr.alloc (Obj.cells #[.int .i64 tv, .bool ts, .int .i64 tn, .slice av sn cv] 46)) g l sl k) := HK.out.below hbA
        go_wp2_with fail
        obtain ⟨e1, e2, e3, e4⟩ := HT.out
        rw [e4] at HSV ht9
        have hcp := copyVal_any (l := t.s) ts tn (HSV.out.below hbW.out) (by rw [e4]; exact ht9)
        clear e1 e2 e3 e4
        refine hcp.mono ?_
        clear hcp
        rintro e w2 ⟨v2, rfl, ⟨a9, c9, rfl, hv⟩, hb⟩
        have HK3 : Hid (Cp B W w2 g l sl k) := HK2.out.below hb
        have HV : Hid (Si (g + 1) w2 (.slice a9 t.s.length c9) t.s) := Si.lower ⟨a9, c9, rfl, hv⟩ (by have := HK2.out.lt; omega)
        obtain ⟨_, h2⟩ : ∃ sv, sl[k]? = some sv := ⟨_, List.getElem?_eq_getElem (by rw [HK.out.len, HN.out]; exact hlt)⟩
        obtain ⟨x0, x1, x2, x3, xf⟩ := HK3.out.cells H1.out h2
        obtain ⟨e1, e2, e3, e4⟩ := HT.out
        have HS9 : Hid (Cp B W (((w2.setCell ⟨g, k * 4 + 1, none⟩ (.bool ts)).setCell ⟨g, k * 4 + 2, none⟩ (.int .i64 tn)).setCell ⟨g, k * 4 + 3, none⟩ (.slice a9 sn c9)) g l (sl.set k (.slice a9 sn c9)) (k + 1)) := by
          have := HK3.out.step H1.out HV.out
          rw [e2, e3, e4] at this
          exact this
        rw [e4]
        clear e1 e2 e3 e4 h2 hv hb hbA d0 d1 d2 d3 df x0
        go_wp2
        go_roundw
        case rel => exact ⟨k + 1, by omega, by go_num, _, HS9⟩
        case measure => simp [intOf]; omega
      · have hlt' : ¬ (k : Int) < n := by omega
        obtain rfl : k = n := by omega
        go_wp2
        go_ret
        exact ⟨_, rfl, by have := HN.out; subst this; exact HK.out.done _, HK.out.bel⟩
end Go.Proofs.YtpgecdhieakilaaGreatDoor

namespace Go.Proofs.YtpgecdhieakilaaGreatDoor
open Go.RowKit Go.Shelf
set_option linter.unusedVariables false
set_option linter.unusedSimpArgs false
theorem St.set {B : Nat} {W : World} {s : Value} {l : List Tm} (h : St B W s l) {g : Nat} (hg : g < B) (i : Nat) (v : Value) : St B (W.setCell ⟨g, i, none⟩ v) s l := by
  obtain ⟨a, c, e, h⟩ := h
  refine ⟨a, c, e, fun h0 => ?_⟩
  obtain ⟨b, off, svl, e1, e0, e2, e3⟩ := h h0
  have hne : b ≠ g := by omega
  exact ⟨b, off, svl, e1, e0, by rw [World.size_setCell]; exact e2, e3.1, fun j t sv h1 h2 => ⟨(e3.2 j t sv h1 h2).1.set hg _ _, fun r u hu => (World.cell?_of_block (w := W) (a := ⟨b, off + j * 4 + r, none⟩) (Below.heap_setCell W ⟨g, i, none⟩ v b hne)).trans ((e3.2 j t sv h1 h2).2 r u hu)⟩⟩

set_option maxRecDepth 100000 in
set_option maxHeartbeats 4000000 in
theorem list_any {B : Nat} {W : World} {s : Value} {l : List Tm} (h : St B W s l) (hl : l.length ≤ 2932031007317) (hL : ∀ t ∈ l, t.s.length ≤ 17592186043904) : Calls Tryz.prog 29 #[s] W fun e w' => ∃ v, e = .returned (.agg #[.bool true, v]) ∧ St W.heap.size w' v l ∧ Below W.heap.size W w' := by
  obtain ⟨a8, c8, rfl, h⟩ := h
  have H : Hid (St B W (.slice a8 l.length c8) l) := ⟨a8, c8, rfl, h⟩
  have HL : Hid (∀ t ∈ l, t.s.length ≤ 17592186043904) := hL
  clear h hL
  go_enter Tryz.func29, Tryz.ntmps29
  go_wp2_with fail
  have hbA : Below W.heap.size W (W.alloc (Obj.cells #[.bool false, .slice none 0 0] 54)) := (Below.refl _ W).alloc (Nat.le_refl _) _
  refine (copyTerms_any (H.out.below hbA) hl HL.out).mono ?_
  rintro e w1 ⟨v, rfl, ⟨a9, c9, rfl, hv⟩, hb⟩
  have HV : Hid (St (W.heap.size + 1) w1 (.slice a9 l.length c9) l) := ⟨a9, c9, rfl, by simpa using hv⟩
  clear hv
  have k1 : Hid (Blk w1 W.heap.size #[.bool false, .slice none 0 0] 54) := (Blk.new W _ _).below hb
  have c0 : w1.cell? ⟨W.heap.size, 0, none⟩ = some (.bool false) := k1.out.cell 0
  have c1 : w1.cell? ⟨W.heap.size, 1, none⟩ = some (.slice none 0 0) := k1.out.cell 1
  have f0 := k1.out.frozen
  have hbW : Hid (Below W.heap.size W w1) := hbA.trans (hb.mono (by simp))
  clear hbA hb
  go_wp2
  exact ⟨rfl, _, results_cell_row (P := Tryz.prog) rfl _ _ W.heap.size 54 _ (0, 0) _ rfl ((k1.out.set 0 _).set 1 _).h Tryz.underlying54 rfl (by kernel_rfl), _, rfl, ((HV.out.set (by omega) _ _).set (by omega) _ _).lower (by omega), hbW.out.trans (((Below.refl _ w1).setCell (by simp) _).setCell (by simp) _)⟩

set_option maxRecDepth 100000 in
set_option maxHeartbeats 4000000 in
theorem one_any {B : Nat} {W : World} {sv : Value} (t : Tm) (h : Si B W sv t.s) (hl : t.s.length ≤ 17592186043904) : Calls Tryz.prog 28 #[.agg #[.int .i64 t.v, .bool t.set, .int .i64 t.n, sv]] W fun e w' => ∃ v, e = .returned (.agg #[.bool false, v]) ∧ St W.heap.size w' v [t] ∧ Below W.heap.size W w' := by
  obtain ⟨a8, c8, rfl, h⟩ := h
  have H : Hid (Si 0 W (.slice a8 t.s.length c8) t.s) := Si.lower ⟨a8, c8, rfl, h⟩ (Nat.zero_le _)
  clear h
  obtain ⟨tv, htv⟩ : ∃ x, t.v = x := ⟨_, rfl⟩
  obtain ⟨ts, hts⟩ : ∃ x, t.set = x := ⟨_, rfl⟩
  obtain ⟨tn, htn⟩ : ∃ x, t.n = x := ⟨_, rfl⟩
  obtain ⟨sn, hsn⟩ : ∃ x, t.s.length = x := ⟨_, rfl⟩
  have HT : Hid (t.v = tv ∧ t.set = ts ∧ t.n = tn ∧ t.s.length = sn) := ⟨htv, hts, htn, hsn⟩
  rw [htv, hts, htn, hsn]
  clear htv hts htn hsn
  go_enter Tryz.func28, Tryz.ntmps28
  go_wp2_with fail
  have hbA : Below W.heap.size W (((W.alloc (Obj.cells #[.int .i64 tv, .bool ts, .int .i64 tn, .slice a8 sn c8] 46)).alloc (Obj.cells #[.bool false, .slice none 0 0] 54)).alloc (Obj.cells #[.int .i64 tv, .bool ts, .int .i64 tn, .slice a8 sn c8] 46)) := (((Below.refl _ W).alloc (Nat.le_refl _) _).alloc (by simp) _).alloc (by simp; omega) _
  have hst : St 0 (((W.alloc (Obj.cells #[.int .i64 tv, .bool ts, .int .i64 tn, .slice a8 sn c8] 46)).alloc (Obj.cells #[.bool false, .slice none 0 0] 54)).alloc (Obj.cells #[.int .i64 tv, .bool ts, .int .i64 tn, .slice a8 sn c8] 46)) (.slice (some ⟨W.heap.size + 2, 0, none⟩) 1 1) [t] := by
    obtain ⟨e1, e2, e3, e4⟩ := HT.out
    refine ⟨_, _, rfl, fun _ => ⟨_, 0, [.slice a8 sn c8], rfl, Nat.zero_le _, by simp, rfl, fun i t' sv h1 h2 => ?_⟩⟩
    have hk := Blk.new ((W.alloc (Obj.cells #[.int .i64 tv, .bool ts, .int .i64 tn, .slice a8 sn c8] 46)).alloc (Obj.cells #[.bool false, .slice none 0 0] 54)) #[.int .i64 tv, .bool ts, .int .i64 tn, .slice a8 sn c8] 46
    rw [World.size_alloc, World.size_alloc] at hk
    match i, h1, h2 with
    | 0, h1, h2 =>
      simp at h1 h2
      subst h1; subst h2
      refine ⟨by have h9 := H.out.below hbA; rw [e4] at h9; exact h9, fun r u hu => ?_⟩
      rw [hk.cell, show 0 + 0 * 4 + r = r by omega, ← hu, Tm.cells, e1, e2, e3]
      simp only [List.getElem?_toArray]
  refine (copyTerms_any hst (by simp) (by intro t' h; simp at h; subst h; exact hl)).mono ?_
  rintro e w1 ⟨v, rfl, ⟨a9, c9, rfl, hv⟩, hb⟩
  have HV : Hid (St (W.heap.size + 3) w1 (.slice a9 [t].length c9) [t]) := ⟨a9, c9, rfl, by simpa using hv⟩
  clear hv hst
  have k1 : Hid (Blk w1 (W.heap.size + 1) #[.bool false, .slice none 0 0] 54) := by
    have := ((Blk.new (W.alloc (Obj.cells #[.int .i64 tv, .bool ts, .int .i64 tn, .slice a8 sn c8] 46)) #[.bool false, .slice none 0 0] 54).alloc _).below hb
    rw [World.size_alloc] at this
    exact this
  have c0 : w1.cell? ⟨W.heap.size + 1, 0, none⟩ = some (.bool false) := k1.out.cell 0
  have c1 : w1.cell? ⟨W.heap.size + 1, 1, none⟩ = some (.slice none 0 0) := k1.out.cell 1
  have f0 := k1.out.frozen
  have hbW : Hid (Below W.heap.size W w1) := hbA.trans (hb.mono (by simp; omega))
  clear hbA hb
  go_wp2
  exact ⟨rfl, _, results_cell_row (P := Tryz.prog) rfl _ _ (W.heap.size + 1) 54 _ (0, 0) _ rfl ((k1.out.set 0 _).set 1 _).h Tryz.underlying54 rfl (by kernel_rfl), _, rfl, ((HV.out.set (by omega) _ _).set (by omega) _ _).lower (by omega), hbW.out.trans (((Below.refl _ w1).setCell (by simp) _).setCell (by simp) _)⟩
end Go.Proofs.YtpgecdhieakilaaGreatDoor
