/-
  What is proved here: package cons and the reference have the same names, in the same order, with the same forms and families.
  What is proved here: all names, as the reference tells them.
  What is proved here: numbers, terms and arguments in memory, and their copies.
-/
import Derived.Test.YtaeobgajhieajaaGreatDoorCj
import Derived.Test.YtaeobgajhieajaaGreatDoorCi
import Derived.Lib.OwnBridge
import Derived.Test.YtaeobgajhieajaaGreatDoorZNcj
namespace Go.Proofs.YtaeobgajhieajaaGreatDoor
open Go.RowKit Go.Shelf
set_option linter.unusedVariables false
set_option linter.unusedSimpArgs false

def rowF (k : Nat) : List (List UInt8 × List UInt8 × List UInt8) := (nmL (rowK k).2.2).map fun n => (n, (rowK k).2.1, (rowK k).1)
theorem tbl_same : (List.range 48).flatMap rowF = (List.range 105).map rtK := by kernel_rfl
theorem row_find (nm : List UInt8) (k : Nat) : (rowF k).find? (fun r => r.1 == nm) = if hit nm k = true then some (nm, (rowK k).2.1, (rowK k).1) else none := by
  unfold rowF hit
  generalize nmL (rowK k).2.2 = l
  induction l with
  | nil => rfl
  | cons x l ih =>
    rw [List.map_cons, List.find?_cons, List.contains_cons]
    by_cases hx : x = nm
    · subst hx; simp
    · have h1 : (x == nm) = false := by simpa using hx
      have h2 : (nm == x) = false := by simpa using fun e => hx e.symm
      simp only [h1, h2, Bool.false_or]
      exact ih
theorem flat_find (nm : List UInt8) : ∀ ks : List Nat, (ks.flatMap rowF).find? (fun r => r.1 == nm) = (ks.find? (hit nm)).map fun k => (nm, (rowK k).2.1, (rowK k).1)
  | [] => rfl
  | k :: ks => by
    rw [List.flatMap_cons, List.find?_append, row_find, List.find?_cons, flat_find nm ks]
    cases hit nm k <;> simp
theorem find_same (nm : List UInt8) : (findT nm).1 = (rfind nm).2.2 ∧ (findT nm).2 = (rfind nm).2.1 := by
  have h := flat_find nm (List.range 48)
  rw [tbl_same, List.find?_map] at h
  have e : ((fun r : List UInt8 × List UInt8 × List UInt8 => r.1 == nm) ∘ rtK) = rhit nm := rfl
  rw [e] at h
  unfold findT rfind
  cases h1 : (List.range 105).find? (rhit nm) with
  | none =>
    rw [h1] at h
    cases h2 : (List.range 48).find? (hit nm) with
    | none => exact ⟨rfl, rfl⟩
    | some k => rw [h2] at h; cases h
  | some j =>
    rw [h1] at h
    cases h2 : (List.range 48).find? (hit nm) with
    | none => rw [h2] at h; cases h
    | some k =>
      rw [h2] at h
      simp only [Option.map_some, Option.some.injEq] at h
      dsimp only
      rw [h]
      exact ⟨rfl, rfl⟩
theorem names_same : preN 48 = (List.range 105).map fun k => (rtK k).1 := by
  have := congrArg (fun l => l.map fun r => r.1) tbl_same
  simp only [List.map_flatMap, List.map_map] at this
  unfold preN
  rw [show ((fun k => (rtK k).1) : Nat → List UInt8) = (fun r : List UInt8 × List UInt8 × List UInt8 => r.1) ∘ rtK from rfl, ← this]
  congr 1
  funext k
  unfold rowF
  rw [List.map_map]
  exact (List.map_id _).symm
theorem names_len : (preN 48).length = 105 := by rw [names_same]; simp
end Go.Proofs.YtaeobgajhieajaaGreatDoor

namespace Go.Proofs.YtaeobgajhieajaaGreatDoor
open Go.RowKit Go.Shelf
set_option linter.unusedVariables false
set_option linter.unusedSimpArgs false

def strv (l : List (List UInt8)) : List Value := l.map fun x => Value.string ⟨x.toArray⟩
/-- A slice of texts. -/
def Ss (w : World) (s : Value) (L : List (List UInt8)) : Prop := ∃ a c, s = .slice a L.length c ∧ (0 < L.length → ∃ b, a = some ⟨b, 0, none⟩ ∧ b < w.heap.size ∧ ∀ i x, L[i]? = some x → w.cell? ⟨b, i, none⟩ = some (.string ⟨x.toArray⟩))
theorem Ss.below {w w' : World} {s : Value} {L : List (List UInt8)} (h : Ss w s L) (hb : Below w.heap.size w w') : Ss w' s L := by
  obtain ⟨a, c, e, h⟩ := h
  exact ⟨a, c, e, fun h0 => by obtain ⟨b, e1, e2, e3⟩ := h h0; exact ⟨b, e1, Nat.lt_of_lt_of_le e2 hb.size, fun i x hx => (hb.cell (p := ⟨b, i, none⟩) e2).trans (e3 i x hx)⟩⟩
theorem own_ss {w : World} {B n : Nat} {s : Value} {L : List (List UInt8)} (h : w.ownsRow B 9 1 s n (strv L)) : Ss w s L := by
  have hl : n = L.length := by have := h.1; simp [strv] at this; omega
  subst hl
  rcases h.2 with ⟨e1, e2⟩ | ⟨g, cap, cur, e1, hg, hgb, hn, hm, hs, ht⟩
  · exact ⟨none, 0, by rw [e1, e2], fun h0 => by omega⟩
  · refine ⟨_, cap, e1, fun _ => ⟨g, rfl, (Array.getElem?_eq_some_iff.1 hgb).1, fun i x hx => ?_⟩⟩
    have hi : i < L.length := (List.getElem?_eq_some_iff.1 hx).1
    rw [cell_row hgb]
    have : (strv L)[i]? = some (.string ⟨x.toArray⟩) := by simp [strv, hx]
    rw [← ht, List.getElem?_take, if_pos (by omega), Array.getElem?_toList] at this
    exact this
theorem own_shape {W : World} {B e size n : Nat} {v : Value} {xs : List Value} (h : W.ownsRow B e size v n xs) : ∃ p c, v = .slice p n c := by
  rcases h.2 with ⟨e1, e2⟩ | ⟨g, cap, cur, e1, _⟩
  · exact ⟨none, 0, by rw [e1, e2]⟩
  · exact ⟨_, _, e1⟩
theorem Tryz.info9 : (Tryz.prog.info? 9).map (fun i => (i.zero, i.size, i.bytes)) = some (some (.string ⟨#[]⟩), 1, 16) := by kernel_rfl
theorem wpList_app_s (w : World) {ops : Array Oper} {rest : List Oper} {o : Oper} {a : Act} {Q : Exit → Act → World → Prop} (hgd : o.guard = none) (s x : Operand) (ho : o.op = .call { callee := .builtin .append, args := #[s, x], argTypes := #[22, 22] })
    (B : Nat) (vo : Value) (n : Nat) (L : List (List UInt8)) (hs : a.eval s = vo) (hown : w.ownsRow B 9 1 vo n (strv L)) (g : Nat) (y : List UInt8) (hx : a.eval x = .slice (some ⟨g, 0, none⟩) 1 1) (hc : w.cell? ⟨g, 0, none⟩ = some (.string ⟨y.toArray⟩)) (hB : B ≤ w.heap.size) (hn : n ≤ 1000)
    (h : ∀ v' w', w'.ownsRow B 9 1 v' (n + 1) (strv (L ++ [y])) → Below B w w' → wpList Tryz.prog ops Q rest (a.put o.dst v') w') : wpList Tryz.prog ops Q (o :: rest) a w := by
  obtain ⟨i0, hi0, hz0, hz1, hz2⟩ := info_parts Tryz.info9
  refine wpList_append_own _ hgd s x 22 ho B 9 i0 (.string ⟨#[]⟩) 1 16 Tryz.underlying22 hi0 hz0 hz1 hz2 rfl (by decide) _ _ _ hs hown ⟨g, 0, none⟩ 1 1 [.string ⟨y.toArray⟩] hx rfl (fun j u hj => ?_) (fun u hu => ?_) (by unfold maxLen; omega) (by omega) hB ?_
  · match j, hj with
    | 0, hj => simp at hj; subst hj; simpa [Addr.add] using hc
  · simp at hu; subst hu; rfl
  · intro v' w' g1 g2 _
    refine h v' w' (by unfold strv at *; rw [List.map_append]; exact g1) ((Below.refl _ w).grown g2 hB (fun k e => ?_))
    rcases hown.2 with ⟨e1, _⟩ | ⟨g', cap, cur, e1, hg, hgb, _⟩
    · rw [e1] at e; cases e
    · rw [e1] at e
      injection e with e
      subst e
      exact hg

set_option maxRecDepth 100000 in
set_option maxHeartbeats 4000000 in
theorem refnames_any (W : World) : Calls Tryz.prog 8 #[] W fun e w' => ∃ s, e = .returned s ∧ Ss w' s (preN 48) ∧ Below W.heap.size W w' := by
  go_enter Tryz.func8, Tryz.ntmps8
  go_wp2_with fail
  refine (refrows_any W).mono ?_
  rintro e w1 ⟨s1, rfl, hrt, hb1⟩
  obtain ⟨g, rfl, hg, hc⟩ := hrt
  have HC : Hid _ := hc
  clear hc
  go_wp2
  go_loopw [2, 3] (fun out i wr => ∃ k : Nat, k ≤ 105 ∧ i = .int .i64 (k : Int) ∧ Hid (wr.ownsRow w1.heap.size 9 1 out k (strv ((List.range k).map fun j => (rtK j).1))) ∧ Hid (Below w1.heap.size w1 wr)) (fun _ i _ => 105 - (intOf i).toNat)
  case atStart => exact ⟨0, Nat.zero_le _, rfl, World.ownsRow_nil _ _ _ _, Below.refl _ _⟩
  case round =>
    obtain ⟨k, hk, rfl, HO, HB⟩ := hrel
    by_cases hlt : k < 105
    · have hlt' : (k : Int) < 105 := by omega
      obtain ⟨c0, _, _⟩ := HC.out k hlt
      have d0 := (HB.out.cell (p := ⟨g, k * 3, none⟩) hg).trans c0
      obtain ⟨x0, hx0⟩ : ∃ x, (rtK k).1 = x := ⟨_, rfl⟩
      have HX : Hid (strv ((List.range (k + 1)).map fun j => (rtK j).1) = strv ((List.range k).map (fun j => (rtK j).1) ++ [x0])) := by unfold Hid; rw [List.range_succ, List.map_append, ← hx0]; rfl
      rw [hx0] at d0
      clear c0 hx0
      have hba := (Below.refl wr.heap.size wr).alloc (Nat.le_refl _) (Obj.cells #[.string ⟨x0.toArray⟩] 9)
      have hrow := World.ownsRow.alloc HO.out (Obj.cells #[.string ⟨x0.toArray⟩] 9)
      have hcA : (wr.alloc (Obj.cells #[.string ⟨x0.toArray⟩] 9)).cell? ⟨wr.heap.size, 0, none⟩ = some (.string ⟨x0.toArray⟩) := (cell_row (World.alloc_heap_new _ _) 0).trans rfl
      have hBA := HB.out.trans (hba.mono HB.out.size)
      have hw2 : IntKind.i64.wrap ((k : Int) + 1) = (k : Int) + 1 := by rw [IntKind.wrap_i64]; omega
      obtain ⟨po, co, rfl⟩ := own_shape HO.out
      go_wp2_with (at_builtin; refine wpList_app_s _ rfl _ _ rfl w1.heap.size _ k _ rfl hrow wr.heap.size x0 rfl hcA (Nat.le_trans HB.out.size hba.size) (by omega) ?_; intro v9 w9 hown9 hb9; have HO9 : Hid (w9.ownsRow w1.heap.size 9 1 v9 (k + 1) (strv ((List.range (k + 1)).map fun j => (rtK j).1))) := (by rw [HX.out]; exact hown9); have HB9 : Hid (Below w1.heap.size w1 w9) := hBA.trans hb9; clear hown9 hb9)
      go_roundw
      case rel => exact ⟨k + 1, by omega, by go_num, HO9.out, HB9.out⟩
      case measure => simp [intOf]; omega
    · have hlt' : ¬ (k : Int) < 105 := by omega
      obtain rfl : k = 105 := by omega
      go_wp2
      go_ret
      exact ⟨_, rfl, by rw [names_same]; exact own_ss HO.out, hb1.trans (HB.out.mono hb1.size)⟩
end Go.Proofs.YtaeobgajhieajaaGreatDoor

namespace Go.Proofs.YtaeobgajhieajaaGreatDoor
open Go.RowKit Go.Shelf
set_option linter.unusedVariables false
set_option linter.unusedSimpArgs false

def intv (l : List Int) : List Value := l.map (Value.int .i64)
/-- A slice of numbers in memory. -/
def Si (B : Nat) (W : World) (s : Value) (l : List Int) : Prop := ∃ a c, s = .slice a l.length c ∧ (0 < l.length → ∃ b off, a = some ⟨b, off, none⟩ ∧ B ≤ b ∧ b < W.heap.size ∧ ∀ i x, l[i]? = some x → W.cell? ⟨b, off + i, none⟩ = some (.int .i64 x))
theorem Si.below {B : Nat} {W W' : World} {s : Value} {l : List Int} (h : Si B W s l) (hb : Below W.heap.size W W') : Si B W' s l := by
  obtain ⟨a, c, e, h⟩ := h
  exact ⟨a, c, e, fun h0 => by obtain ⟨b, off, e1, e0, e2, e3⟩ := h h0; exact ⟨b, off, e1, e0, Nat.lt_of_lt_of_le e2 hb.size, fun i x hx => (hb.cell (p := ⟨b, off + i, none⟩) e2).trans (e3 i x hx)⟩⟩
theorem Si.lower {B B' : Nat} {W : World} {s : Value} {l : List Int} (h : Si B W s l) (hb : B' ≤ B) : Si B' W s l := by
  obtain ⟨a, c, e, h⟩ := h
  exact ⟨a, c, e, fun h0 => by obtain ⟨b, off, e1, e0, e2, e3⟩ := h h0; exact ⟨b, off, e1, Nat.le_trans hb e0, e2, e3⟩⟩
theorem own_keepB {W W' : World} {base e size n : Nat} {s : Value} {xs : List Value} (h : W.ownsRow base e size s n xs) (hb : Below W.heap.size W W') : W'.ownsRow base e size s n xs :=
  ⟨h.1, by
    rcases h.2 with h2 | ⟨g, cap, cur, e1, hg, hgb, r⟩
    · exact .inl h2
    · exact .inr ⟨g, cap, cur, e1, hg, (hb.block _ (Array.getElem?_eq_some_iff.1 hgb).1).trans hgb, r⟩⟩
theorem own_base {W : World} {base b' e size n : Nat} {s : Value} {xs : List Value} (h : W.ownsRow base e size s n xs) (hb : b' ≤ base) : W.ownsRow b' e size s n xs := by
  refine ⟨h.1, ?_⟩
  rcases h.2 with h | ⟨g, cap, cur, e1, hg, r⟩
  · exact .inl h
  · exact .inr ⟨g, cap, cur, e1, Nat.le_trans hb hg, r⟩
theorem own_si {W : World} {base n : Nat} {s : Value} {l : List Int} (h : W.ownsRow base 2 1 s n (intv l)) : Si base W s l := by
  have hl : n = l.length := by have := h.1; simp [intv] at this; omega
  subst hl
  rcases h.2 with ⟨e1, e2⟩ | ⟨g, cap, cur, e1, hg, hgb, hn, hm, hs, ht⟩
  · exact ⟨none, 0, by rw [e1, e2], fun h0 => by omega⟩
  · refine ⟨_, cap, e1, fun _ => ⟨g, 0, rfl, hg, (Array.getElem?_eq_some_iff.1 hgb).1, fun i x hx => ?_⟩⟩
    have hi : i < l.length := (List.getElem?_eq_some_iff.1 hx).1
    rw [cell_row hgb, Nat.zero_add]
    have : (intv l)[i]? = some (.int .i64 x) := by simp [intv, hx]
    rw [← ht, List.getElem?_take, if_pos (by omega), Array.getElem?_toList] at this
    exact this
theorem Tryz.info2 : (Tryz.prog.info? 2).map (fun i => (i.zero, i.size, i.bytes)) = some (some (.int .i64 0), 1, 8) := by kernel_rfl
theorem Tryz.info46 : (Tryz.prog.info? 46).map (fun i => (i.zero, i.size, i.bytes)) = some (some (.agg #[.int .i64 0, .bool false, .int .i64 0, .slice none 0 0]), 4, 48) := by kernel_rfl
theorem Tryz.info54 : (Tryz.prog.info? 54).map (fun i => (i.zero, i.size, i.bytes)) = some (some (.agg #[.bool false, .slice none 0 0]), 2, 32) := by kernel_rfl
theorem run_app0_59 (w : World) (ty : TypeId) (g : Nat) (a : Option Addr) (c' : Nat) : (Builtin.append_ #[42, 42] ty #[.slice (some ⟨g, 0, none⟩) 0 0, .slice a 0 c']).run Tryz.prog w = .ok (.slice (some ⟨g, 0, none⟩) 0 0) w := by
  obtain ⟨i0, hi0, hz0, hz1, hz2⟩ := info_parts Tryz.info2
  have hf : (Builtin.firstCells i0.size 0 (.slice a 0 c')).run Tryz.prog w = .ok #[] w := by cases a <;> simp [Builtin.firstCells, loadCells, loadCellsFrom]
  simp [Builtin.append_, run_underlying Tryz.underlying42, sizeOf, typeInfo, hi0, Builtin.lenOf, hf, storeCells]

set_option maxRecDepth 100000 in
set_option maxHeartbeats 4000000 in
theorem clone0_59 (a : Option Addr) (c : Nat) (W : World) : Calls Tryz.prog 59 #[.slice a 0 c] W fun e w' => ∃ v, e = .returned v ∧ w'.ownsRow W.heap.size 2 1 v 0 [] ∧ Below W.heap.size W w' := by
  cases a with
  | none => exact (AnyE.slices_Clone_nil Tryz.laysClone59 0 c W).mono fun e w' ⟨he, hw⟩ => ⟨_, he, World.ownsRow_nil _ _ _ _, by rw [hw]; exact Below.refl _ _⟩
  | some ad =>
    have happ := run_app0_59
    have hnil : ∀ (w : World) (a : Option Addr) (n c n' c' : Nat), (binOp .eql 42 (.slice a n c) (.slice none n' c')).run Tryz.prog w = .ok (.bool a.isNone) w := fun w a n c n' c' => Lib.run_eql_slice_nil w _ _ a n c n' c' Tryz.underlying42
    go_enter Tryz.func59, Tryz.ntmps59
    go_wp2
    go_ret
    refine ⟨_, rfl, World.ownsRow_made W #[] 0 (Nat.le_refl _) (Nat.zero_le _) (by simp), (Below.refl _ W).alloc (Nat.le_refl _) _⟩
theorem run_app0_84 (w : World) (ty : TypeId) (g : Nat) (a : Option Addr) (c' : Nat) : (Builtin.append_ #[52, 52] ty #[.slice (some ⟨g, 0, none⟩) 0 0, .slice a 0 c']).run Tryz.prog w = .ok (.slice (some ⟨g, 0, none⟩) 0 0) w := by
  obtain ⟨i0, hi0, hz0, hz1, hz2⟩ := info_parts Tryz.info46
  have hf : (Builtin.firstCells i0.size 0 (.slice a 0 c')).run Tryz.prog w = .ok #[] w := by cases a <;> simp [Builtin.firstCells, loadCells, loadCellsFrom]
  simp [Builtin.append_, run_underlying Tryz.underlying52, sizeOf, typeInfo, hi0, Builtin.lenOf, hf, storeCells]

set_option maxRecDepth 100000 in
set_option maxHeartbeats 4000000 in
theorem clone0_84 (a : Option Addr) (c : Nat) (W : World) : Calls Tryz.prog 84 #[.slice a 0 c] W fun e w' => ∃ v, e = .returned v ∧ w'.ownsRow W.heap.size 46 4 v 0 [] ∧ Below W.heap.size W w' := by
  cases a with
  | none => exact (AnyE.slices_Clone_nil Tryz.laysClone84 0 c W).mono fun e w' ⟨he, hw⟩ => ⟨_, he, World.ownsRow_nil _ _ _ _, by rw [hw]; exact Below.refl _ _⟩
  | some ad =>
    have happ := run_app0_84
    have hnil : ∀ (w : World) (a : Option Addr) (n c n' c' : Nat), (binOp .eql 52 (.slice a n c) (.slice none n' c')).run Tryz.prog w = .ok (.bool a.isNone) w := fun w a n c n' c' => Lib.run_eql_slice_nil w _ _ a n c n' c' Tryz.underlying52
    go_enter Tryz.func84, Tryz.ntmps84
    go_wp2
    go_ret
    refine ⟨_, rfl, World.ownsRow_made W #[] 0 (Nat.le_refl _) (Nat.zero_le _) (by simp), (Below.refl _ W).alloc (Nat.le_refl _) _⟩
theorem run_app0_57 (w : World) (ty : TypeId) (g : Nat) (a : Option Addr) (c' : Nat) : (Builtin.append_ #[30, 30] ty #[.slice (some ⟨g, 0, none⟩) 0 0, .slice a 0 c']).run Tryz.prog w = .ok (.slice (some ⟨g, 0, none⟩) 0 0) w := by
  obtain ⟨i0, hi0, hz0, hz1, hz2⟩ := info_parts Tryz.info54
  have hf : (Builtin.firstCells i0.size 0 (.slice a 0 c')).run Tryz.prog w = .ok #[] w := by cases a <;> simp [Builtin.firstCells, loadCells, loadCellsFrom]
  simp [Builtin.append_, run_underlying Tryz.underlying30, sizeOf, typeInfo, hi0, Builtin.lenOf, hf, storeCells]

set_option maxRecDepth 100000 in
set_option maxHeartbeats 4000000 in
theorem clone0_57 (a : Option Addr) (c : Nat) (W : World) : Calls Tryz.prog 57 #[.slice a 0 c] W fun e w' => ∃ v, e = .returned v ∧ w'.ownsRow W.heap.size 54 2 v 0 [] ∧ Below W.heap.size W w' := by
  cases a with
  | none => exact (AnyE.slices_Clone_nil Tryz.laysClone57 0 c W).mono fun e w' ⟨he, hw⟩ => ⟨_, he, World.ownsRow_nil _ _ _ _, by rw [hw]; exact Below.refl _ _⟩
  | some ad =>
    have happ := run_app0_57
    have hnil : ∀ (w : World) (a : Option Addr) (n c n' c' : Nat), (binOp .eql 30 (.slice a n c) (.slice none n' c')).run Tryz.prog w = .ok (.bool a.isNone) w := fun w a n c n' c' => Lib.run_eql_slice_nil w _ _ a n c n' c' Tryz.underlying30
    go_enter Tryz.func57, Tryz.ntmps57
    go_wp2
    go_ret
    refine ⟨_, rfl, World.ownsRow_made W #[] 0 (Nat.le_refl _) (Nat.zero_le _) (by simp), (Below.refl _ W).alloc (Nat.le_refl _) _⟩
end Go.Proofs.YtaeobgajhieajaaGreatDoor
