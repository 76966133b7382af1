/-
  What is proved here: slices.Clone of numbers; copyVal, Int, Var, Set.
-/
import Derived.Test.YtaeobgajhieajaaGreatDoorDa
namespace Go.Proofs.YtaeobgajhieajaaGreatDoor
open Go.RowKit Go.Shelf
set_option linter.unusedVariables false
set_option linter.unusedSimpArgs false

set_option maxRecDepth 100000 in
set_option maxHeartbeats 4000000 in
theorem clone59 {B : Nat} {W : World} {s : Value} {l : List Int} (h : Si B W s l) (hl : l.length ≤ 17592186043904) : Calls Tryz.prog 59 #[s] W fun e w' => ∃ v, e = .returned v ∧ Si W.heap.size w' v l ∧ Below W.heap.size W w' := by
  obtain ⟨a, c, rfl, h⟩ := h
  rcases Nat.eq_zero_or_pos l.length with h0 | h0
  · have : l = [] := List.length_eq_zero_iff.1 h0
    subst this
    exact (clone0_59 a c W).mono fun e w' ⟨v, e1, e2, e3⟩ => ⟨v, e1, own_si e2, e3⟩
  · obtain ⟨b, off, rfl, hB, hb, hc⟩ := h h0
    obtain ⟨i0, hi0, hz0, hz1, hz2⟩ := info_parts Tryz.info2
    refine (AnyE.slices_Clone Tryz.laysClone59 i0 _ 1 8 hi0 hz0 hz1 hz2 rfl (by omega) Tryz.sizeOf2 b off l.length c (intv l) W (by simp [intv]) (by unfold maxLen; omega) (by omega) ?_ ?_).mono fun e w' ⟨v, e1, e2, _, e3⟩ => ⟨v, e1, own_si e2, e3⟩
    · intro j u hu
      simp only [intv, List.getElem?_map, Option.map_eq_some_iff] at hu
      obtain ⟨x, hx, rfl⟩ := hu
      exact hc j x hx
    · intro u hu
      simp only [intv, List.mem_map] at hu
      obtain ⟨x, _, rfl⟩ := hu
      rfl
/-- A block of cells. -/
structure Blk (w : World) (g : Nat) (cs : Array Value) (ty : TypeId) : Prop where
  h : w.heap[g]? = some (.cells cs ty (0, 0))
theorem Blk.below {w w' : World} {g : Nat} {cs : Array Value} {ty : TypeId} (h : Blk w g cs ty) (hb : Below w.heap.size w w') : Blk w' g cs ty := ⟨(hb.block _ (Array.getElem?_eq_some_iff.1 h.h).1).trans h.h⟩
theorem Blk.lt {w : World} {g : Nat} {cs : Array Value} {ty : TypeId} (h : Blk w g cs ty) : g < w.heap.size := (Array.getElem?_eq_some_iff.1 h.h).1
theorem Blk.cell {w : World} {g : Nat} {cs : Array Value} {ty : TypeId} (h : Blk w g cs ty) (i : Nat) : w.cell? ⟨g, i, none⟩ = cs[i]? := cell_row h.h i
theorem Blk.frozen {w : World} {g : Nat} {cs : Array Value} {ty : TypeId} (h : Blk w g cs ty) (i : Nat) : w.frozen? ⟨g, i, none⟩ = false := by simp [World.frozen?, h.h]
theorem Blk.set {w : World} {g : Nat} {cs : Array Value} {ty : TypeId} (h : Blk w g cs ty) (i : Nat) (v : Value) : Blk (w.setCell ⟨g, i, none⟩ v) g (cs.setIfInBounds i v) ty := ⟨row_set h.h i v⟩
theorem Blk.other {w : World} {g k : Nat} {cs : Array Value} {ty : TypeId} (h : Blk w g cs ty) (hk : g ≠ k) (i : Nat) (v : Value) : Blk (w.setCell ⟨k, i, none⟩ v) g cs ty := ⟨(Below.heap_setCell w ⟨k, i, none⟩ v g hk).trans h.h⟩
theorem Si.set {B : Nat} {W : World} {s : Value} {l : List Int} (h : Si B W s l) {g : Nat} (hg : g < B) (i : Nat) (v : Value) : Si B (W.setCell ⟨g, i, none⟩ v) s l := by
  obtain ⟨a, c, e, h⟩ := h
  refine ⟨a, c, e, fun h0 => ?_⟩
  obtain ⟨b, off, e1, e0, e2, e3⟩ := h h0
  have hne : b ≠ g := by omega
  exact ⟨b, off, e1, e0, by rw [World.size_setCell]; exact e2, fun j x hx => (World.cell?_of_block (w := W) (a := ⟨b, off + j, none⟩) (Below.heap_setCell W ⟨g, i, none⟩ v b hne)).trans (e3 j x hx)⟩
theorem Blk.new (w : World) (cs : Array Value) (ty : TypeId) : Blk (w.alloc (.cells cs ty)) w.heap.size cs ty := ⟨World.alloc_heap_new w _⟩
theorem Blk.alloc {w : World} {g : Nat} {cs : Array Value} {ty : TypeId} (h : Blk w g cs ty) (o : Obj) : Blk (w.alloc o) g cs ty := h.below ((Below.refl _ w).alloc (Nat.le_refl _) _)

set_option maxRecDepth 100000 in
set_option maxHeartbeats 4000000 in
theorem copyVal_any {B : Nat} {W : World} {s : Value} {l : List Int} (b : Bool) (n : Int) (h : Si B W s l) (hl : l.length ≤ 17592186043904) : Calls Tryz.prog 60 #[.agg #[.bool b, .int .i64 n, s]] W fun e w' => ∃ v, e = .returned (.agg #[.bool b, .int .i64 n, v]) ∧ Si W.heap.size w' v l ∧ Below W.heap.size W w' := by
  obtain ⟨a8, c8, rfl, h⟩ := h
  have H : Hid (Si B W (.slice a8 l.length c8) l) := ⟨a8, c8, rfl, h⟩
  clear h
  go_enter Tryz.func60, Tryz.ntmps60
  go_wp2_with fail
  have hbA : Below W.heap.size W ((W.alloc (Obj.cells #[Value.bool b, Value.int IntKind.i64 n, .slice a8 l.length c8] 44)).alloc (Obj.cells #[Value.bool false, Value.int IntKind.i64 0, Value.slice none 0 0] 44)) := ((Below.refl _ W).alloc (Nat.le_refl _) _).alloc (by simp) _
  refine (clone59 (H.out.below hbA) hl).mono ?_
  rintro e w1 ⟨v, rfl, ⟨a9, c9, rfl, hv⟩, hb⟩
  have HV : Hid (Si (W.heap.size + 2) w1 (.slice a9 l.length c9) l) := ⟨a9, c9, rfl, by simpa using hv⟩
  clear hv
  have k1 : Hid (Blk w1 W.heap.size #[Value.bool b, Value.int IntKind.i64 n, .slice a8 l.length c8] 44) := ((Blk.new W _ _).alloc _).below hb
  have k2 : Hid (Blk w1 (W.heap.size + 1) #[Value.bool false, Value.int IntKind.i64 0, Value.slice none 0 0] 44) := by
    have := (Blk.new (W.alloc (Obj.cells #[Value.bool b, Value.int IntKind.i64 n, .slice a8 l.length c8] 44)) #[Value.bool false, Value.int IntKind.i64 0, Value.slice none 0 0] 44).below hb
    rw [World.size_alloc] at this
    exact this
  have c0 : w1.cell? ⟨W.heap.size, 0, none⟩ = some (.bool b) := k1.out.cell 0
  have c1 : w1.cell? ⟨W.heap.size, 1, none⟩ = some (.int .i64 n) := k1.out.cell 1
  have c2 : w1.cell? ⟨W.heap.size, 2, none⟩ = some (.slice a8 l.length c8) := k1.out.cell 2
  have d0 : w1.cell? ⟨W.heap.size + 1, 0, none⟩ = some (.bool false) := k2.out.cell 0
  have d1 : w1.cell? ⟨W.heap.size + 1, 1, none⟩ = some (.int .i64 0) := k2.out.cell 1
  have d2 : w1.cell? ⟨W.heap.size + 1, 2, none⟩ = some (.slice none 0 0) := k2.out.cell 2
  have f0 := k1.out.frozen
  have f1 := k2.out.frozen
  have hbW : Hid (Below W.heap.size W w1) := hbA.trans (hb.mono (by simp; omega))
  clear hbA hb
  go_wp2
  exact ⟨rfl, _, results_cell_row (P := Tryz.prog) rfl _ _ (W.heap.size + 1) 44 _ (0, 0) _ rfl ((((k2.out.other (by omega) _ _).set 0 _).set 1 _).set 2 _).h Tryz.underlying44 rfl (by kernel_rfl), _, rfl, ((((HV.out.set (by omega) _ _).set (by omega) _ _).set (by omega) _ _).set (by omega) _ _).lower (by omega), hbW.out.trans (((((Below.refl _ w1).setCell (by simp) _).setCell (by simp) _).setCell (by simp) _).setCell (by simp) _)⟩

set_option maxRecDepth 100000 in
set_option maxHeartbeats 4000000 in
theorem int_any (W : World) (n : Int) : Calls Tryz.prog 25 #[.int .i64 n] W fun e w' => e = .returned (.agg #[.int .i64 (-1), .bool false, .int .i64 n, .slice none 0 0]) ∧ Below W.heap.size W w' := by
  go_enter Tryz.func25, Tryz.ntmps25
  go_wp2
  exact ⟨rfl, _, results_cell_row (P := Tryz.prog) rfl _ _ W.heap.size 46 _ (0, 0) _ rfl (World.alloc_heap_new W _) Tryz.underlying46 rfl (by kernel_rfl), rfl, (Below.refl _ W).alloc (Nat.le_refl _) _⟩

set_option maxRecDepth 100000 in
set_option maxHeartbeats 4000000 in
theorem var_any (W : World) (n : Int) : Calls Tryz.prog 27 #[.int .i64 n] W fun e w' => e = .returned (.agg #[.int .i64 n, .bool false, .int .i64 0, .slice none 0 0]) ∧ Below W.heap.size W w' := by
  go_enter Tryz.func27, Tryz.ntmps27
  go_wp2
  exact ⟨rfl, _, results_cell_row (P := Tryz.prog) rfl _ _ W.heap.size 46 _ (0, 0) _ rfl (World.alloc_heap_new W _) Tryz.underlying46 rfl (by kernel_rfl), rfl, (Below.refl _ W).alloc (Nat.le_refl _) _⟩

set_option maxRecDepth 100000 in
set_option maxHeartbeats 4000000 in
theorem set_any {B : Nat} {W : World} {s : Value} {l : List Int} (h : Si B W s l) (hl : l.length ≤ 17592186043904) : Calls Tryz.prog 26 #[s] W fun e w' => ∃ v, e = .returned (.agg #[.int .i64 (-1), .bool true, .int .i64 0, v]) ∧ Si W.heap.size w' v l ∧ Below W.heap.size W w' := by
  obtain ⟨a8, c8, rfl, h⟩ := h
  have H : Hid (Si B W (.slice a8 l.length c8) l) := ⟨a8, c8, rfl, h⟩
  clear h
  go_enter Tryz.func26, Tryz.ntmps26
  go_wp2_with fail
  have hbA : Below W.heap.size W (W.alloc (Obj.cells #[.int .i64 0, .bool false, .int .i64 0, .slice none 0 0] 46)) := (Below.refl _ W).alloc (Nat.le_refl _) _
  refine (clone59 (H.out.below hbA) hl).mono ?_
  rintro e w1 ⟨v, rfl, ⟨a9, c9, rfl, hv⟩, hb⟩
  have HV : Hid (Si (W.heap.size + 1) w1 (.slice a9 l.length c9) l) := ⟨a9, c9, rfl, by simpa using hv⟩
  clear hv
  have k1 : Hid (Blk w1 W.heap.size #[.int .i64 0, .bool false, .int .i64 0, .slice none 0 0] 46) := (Blk.new W _ _).below hb
  have c0 : w1.cell? ⟨W.heap.size, 0, none⟩ = some (.int .i64 0) := k1.out.cell 0
  have c1 : w1.cell? ⟨W.heap.size, 1, none⟩ = some (.bool false) := k1.out.cell 1
  have c2 : w1.cell? ⟨W.heap.size, 2, none⟩ = some (.int .i64 0) := k1.out.cell 2
  have c3 : w1.cell? ⟨W.heap.size, 3, none⟩ = some (.slice none 0 0) := k1.out.cell 3
  have f0 := k1.out.frozen
  have hbW : Hid (Below W.heap.size W w1) := hbA.trans (hb.mono (by simp))
  clear hbA hb
  go_wp2
  exact ⟨rfl, _, results_cell_row (P := Tryz.prog) rfl _ _ W.heap.size 46 _ (0, 0) _ rfl ((((k1.out.set 0 _).set 1 _).set 2 _).set 3 _).h Tryz.underlying46 rfl (by kernel_rfl), _, rfl, ((((HV.out.set (by omega) _ _).set (by omega) _ _).set (by omega) _ _).set (by omega) _ _).lower (by omega), hbW.out.trans (((((Below.refl _ w1).setCell (by simp) _).setCell (by simp) _).setCell (by simp) _).setCell (by simp) _)⟩
end Go.Proofs.YtaeobgajhieajaaGreatDoor
