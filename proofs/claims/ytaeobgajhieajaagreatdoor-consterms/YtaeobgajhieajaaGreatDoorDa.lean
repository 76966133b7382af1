/-
  What is proved here: numbers, terms and arguments in memory, and their copies.
-/
import Derived.Test.YtaeobgajhieajaaGreatDoorSg
import Derived.Test.YtaeobgajhieajaaGreatDoorCl
namespace Go.Proofs.YtaeobgajhieajaaGreatDoor
open Go.RowKit Go.Shelf
set_option linter.unusedVariables false
set_option linter.unusedSimpArgs false

def intv (l : List Int) : List Value := l.map (Value.int .i64)
/-- A slice of numbers in memory. -/
def Si (B : Nat) (W : World) (s : Value) (l : List Int) : Prop := ∃ a c, s = .slice a l.length c ∧ (0 < l.length → ∃ b off, a = some ⟨b, off, none⟩ ∧ B ≤ b ∧ b < W.heap.size ∧ ∀ i x, l[i]? = some x → W.cell? ⟨b, off + i, none⟩ = some (.int .i64 x))
theorem Si.below {B : Nat} {W W' : World} {s : Value} {l : List Int} (h : Si B W s l) (hb : Below W.heap.size W W') : Si B W' s l := by
  obtain ⟨a, c, e, h⟩ := h
  exact ⟨a, c, e, fun h0 => by obtain ⟨b, off, e1, e0, e2, e3⟩ := h h0; exact ⟨b, off, e1, e0, Nat.lt_of_lt_of_le e2 hb.size, fun i x hx => (hb.cell (p := ⟨b, off + i, none⟩) e2).trans (e3 i x hx)⟩⟩
theorem Si.lower {B B' : Nat} {W : World} {s : Value} {l : List Int} (h : Si B W s l) (hb : B' ≤ B) : Si B' W s l := by
  obtain ⟨a, c, e, h⟩ := h
  exact ⟨a, c, e, fun h0 => by obtain ⟨b, off, e1, e0, e2, e3⟩ := h h0; exact ⟨b, off, e1, Nat.le_trans hb e0, e2, e3⟩⟩
theorem own_keepB {W W' : World} {base e size n : Nat} {s : Value} {xs : List Value} (h : W.ownsRow base e size s n xs) (hb : Below W.heap.size W W') : W'.ownsRow base e size s n xs :=
  ⟨h.1, by
    rcases h.2 with h2 | ⟨g, cap, cur, e1, hg, hgb, r⟩
    · exact .inl h2
    · exact .inr ⟨g, cap, cur, e1, hg, (hb.block _ (Array.getElem?_eq_some_iff.1 hgb).1).trans hgb, r⟩⟩
theorem own_base {W : World} {base b' e size n : Nat} {s : Value} {xs : List Value} (h : W.ownsRow base e size s n xs) (hb : b' ≤ base) : W.ownsRow b' e size s n xs := by
  refine ⟨h.1, ?_⟩
  rcases h.2 with h | ⟨g, cap, cur, e1, hg, r⟩
  · exact .inl h
  · exact .inr ⟨g, cap, cur, e1, Nat.le_trans hb hg, r⟩
theorem own_si {W : World} {base n : Nat} {s : Value} {l : List Int} (h : W.ownsRow base 2 1 s n (intv l)) : Si base W s l := by
  have hl : n = l.length := by have := h.1; simp [intv] at this; omega
  subst hl
  rcases h.2 with ⟨e1, e2⟩ | ⟨g, cap, cur, e1, hg, hgb, hn, hm, hs, ht⟩
  · exact ⟨none, 0, by rw [e1, e2], fun h0 => by omega⟩
  · refine ⟨_, cap, e1, fun _ => ⟨g, 0, rfl, hg, (Array.getElem?_eq_some_iff.1 hgb).1, fun i x hx => ?_⟩⟩
    have hi : i < l.length := (List.getElem?_eq_some_iff.1 hx).1
    rw [cell_row hgb, Nat.zero_add]
    have : (intv l)[i]? = some (.int .i64 x) := by simp [intv, hx]
    rw [← ht, List.getElem?_take, if_pos (by omega), Array.getElem?_toList] at this
    exact this
theorem Tryz.info2 : (Tryz.prog.info? 2).map (fun i => (i.zero, i.size, i.bytes)) = some (some (.int .i64 0), 1, 8) := by kernel_rfl
theorem Tryz.info46 : (Tryz.prog.info? 46).map (fun i => (i.zero, i.size, i.bytes)) = some (some (.agg #[.int .i64 0, .bool false, .int .i64 0, .slice none 0 0]), 4, 48) := by kernel_rfl
theorem Tryz.info54 : (Tryz.prog.info? 54).map (fun i => (i.zero, i.size, i.bytes)) = some (some (.agg #[.bool false, .slice none 0 0]), 2, 32) := by kernel_rfl
theorem run_app0_59 (w : World) (ty : TypeId) (g : Nat) (a : Option Addr) (c' : Nat) : (Builtin.append_ #[42, 42] ty #[.slice (some ⟨g, 0, none⟩) 0 0, .slice a 0 c']).run Tryz.prog w = .ok (.slice (some ⟨g, 0, none⟩) 0 0) w := by
  obtain ⟨i0, hi0, hz0, hz1, hz2⟩ := info_parts Tryz.info2
  have hf : (Builtin.firstCells i0.size 0 (.slice a 0 c')).run Tryz.prog w = .ok #[] w := by cases a <;> simp [Builtin.firstCells, loadCells, loadCellsFrom]
  simp [Builtin.append_, run_underlying Tryz.underlying42, sizeOf, typeInfo, hi0, Builtin.lenOf, hf, storeCells]

set_option maxRecDepth 100000 in
set_option maxHeartbeats 4000000 in
theorem clone0_59 (a : Option Addr) (c : Nat) (W : World) : Calls Tryz.prog 59 #[.slice a 0 c] W fun e w' => ∃ v, e = .returned v ∧ w'.ownsRow W.heap.size 2 1 v 0 [] ∧ Below W.heap.size W w' := by
  cases a with
  | none => exact (AnyE.slices_Clone_nil Tryz.laysClone59 0 c W).mono fun e w' ⟨he, hw⟩ => ⟨_, he, World.ownsRow_nil _ _ _ _, by rw [hw]; exact Below.refl _ _⟩
  | some ad =>
    have happ := run_app0_59
    have hnil : ∀ (w : World) (a : Option Addr) (n c n' c' : Nat), (binOp .eql 42 (.slice a n c) (.slice none n' c')).run Tryz.prog w = .ok (.bool a.isNone) w := fun w a n c n' c' => Lib.run_eql_slice_nil w _ _ a n c n' c' Tryz.underlying42
    go_enter Tryz.func59, Tryz.ntmps59
    go_wp2
    go_ret
    refine ⟨_, rfl, World.ownsRow_made W #[] 0 (Nat.le_refl _) (Nat.zero_le _) (by simp), (Below.refl _ W).alloc (Nat.le_refl _) _⟩
theorem run_app0_84 (w : World) (ty : TypeId) (g : Nat) (a : Option Addr) (c' : Nat) : (Builtin.append_ #[52, 52] ty #[.slice (some ⟨g, 0, none⟩) 0 0, .slice a 0 c']).run Tryz.prog w = .ok (.slice (some ⟨g, 0, none⟩) 0 0) w := by
  obtain ⟨i0, hi0, hz0, hz1, hz2⟩ := info_parts Tryz.info46
  have hf : (Builtin.firstCells i0.size 0 (.slice a 0 c')).run Tryz.prog w = .ok #[] w := by cases a <;> simp [Builtin.firstCells, loadCells, loadCellsFrom]
  simp [Builtin.append_, run_underlying Tryz.underlying52, sizeOf, typeInfo, hi0, Builtin.lenOf, hf, storeCells]

set_option maxRecDepth 100000 in
set_option maxHeartbeats 4000000 in
theorem clone0_84 (a : Option Addr) (c : Nat) (W : World) : Calls Tryz.prog 84 #[.slice a 0 c] W fun e w' => ∃ v, e = .returned v ∧ w'.ownsRow W.heap.size 46 4 v 0 [] ∧ Below W.heap.size W w' := by
  cases a with
  | none => exact (AnyE.slices_Clone_nil Tryz.laysClone84 0 c W).mono fun e w' ⟨he, hw⟩ => ⟨_, he, World.ownsRow_nil _ _ _ _, by rw [hw]; exact Below.refl _ _⟩
  | some ad =>
    have happ := run_app0_84
    have hnil : ∀ (w : World) (a : Option Addr) (n c n' c' : Nat), (binOp .eql 52 (.slice a n c) (.slice none n' c')).run Tryz.prog w = .ok (.bool a.isNone) w := fun w a n c n' c' => Lib.run_eql_slice_nil w _ _ a n c n' c' Tryz.underlying52
    go_enter Tryz.func84, Tryz.ntmps84
    go_wp2
    go_ret
    refine ⟨_, rfl, World.ownsRow_made W #[] 0 (Nat.le_refl _) (Nat.zero_le _) (by simp), (Below.refl _ W).alloc (Nat.le_refl _) _⟩
theorem run_app0_57 (w : World) (ty : TypeId) (g : Nat) (a : Option Addr) (c' : Nat) : (Builtin.append_ #[30, 30] ty #[.slice (some ⟨g, 0, none⟩) 0 0, .slice a 0 c']).run Tryz.prog w = .ok (.slice (some ⟨g, 0, none⟩) 0 0) w := by
  obtain ⟨i0, hi0, hz0, hz1, hz2⟩ := info_parts Tryz.info54
  have hf : (Builtin.firstCells i0.size 0 (.slice a 0 c')).run Tryz.prog w = .ok #[] w := by cases a <;> simp [Builtin.firstCells, loadCells, loadCellsFrom]
  simp [Builtin.append_, run_underlying Tryz.underlying30, sizeOf, typeInfo, hi0, Builtin.lenOf, hf, storeCells]

set_option maxRecDepth 100000 in
set_option maxHeartbeats 4000000 in
theorem clone0_57 (a : Option Addr) (c : Nat) (W : World) : Calls Tryz.prog 57 #[.slice a 0 c] W fun e w' => ∃ v, e = .returned v ∧ w'.ownsRow W.heap.size 54 2 v 0 [] ∧ Below W.heap.size W w' := by
  cases a with
  | none => exact (AnyE.slices_Clone_nil Tryz.laysClone57 0 c W).mono fun e w' ⟨he, hw⟩ => ⟨_, he, World.ownsRow_nil _ _ _ _, by rw [hw]; exact Below.refl _ _⟩
  | some ad =>
    have happ := run_app0_57
    have hnil : ∀ (w : World) (a : Option Addr) (n c n' c' : Nat), (binOp .eql 30 (.slice a n c) (.slice none n' c')).run Tryz.prog w = .ok (.bool a.isNone) w := fun w a n c n' c' => Lib.run_eql_slice_nil w _ _ a n c n' c' Tryz.underlying30
    go_enter Tryz.func57, Tryz.ntmps57
    go_wp2
    go_ret
    refine ⟨_, rfl, World.ownsRow_made W #[] 0 (Nat.le_refl _) (Nat.zero_le _) (by simp), (Below.refl _ W).alloc (Nat.le_refl _) _⟩
end Go.Proofs.YtaeobgajhieajaaGreatDoor
