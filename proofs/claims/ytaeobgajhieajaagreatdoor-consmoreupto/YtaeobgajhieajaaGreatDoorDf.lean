/-
  What is proved here: slices.Sort and slices.Compact of whole numbers in own memory.
-/
import Derived.Test.YtaeobgajhieajaaGreatDoorDe
import Derived.Test.YtaeobgajhieajaaGreatDoorSk
import Derived.Lib.OwnBridge
import Derived.Shelf.Slices.In.SortNone
namespace Go.Proofs.YtaeobgajhieajaaGreatDoor
open Go.RowKit Go.Shelf
set_option linter.unusedVariables false
set_option linter.unusedSimpArgs false
theorem below_growP {B : Nat} {W w : World} (h : Below B W w) (os : Array Obj) (hB : B ≤ w.heap.size) : Below B W (Sort.grow w os) :=
  ⟨h.os, h.tape, h.output, by show W.heap.size ≤ (w.heap ++ os).size; rw [Array.size_append]; have := h.size; omega, fun k hk => by
    rw [← h.block k hk]
    show (w.heap ++ os)[k]? = w.heap[k]?
    rw [Array.getElem?_append_left (by omega)]⟩
def sortL (l : List Int) : List Int := l.mergeSort fun x y => decide (x ≤ y)
theorem sortL_len (l : List Int) : (sortL l).length = l.length := by simp [sortL]
theorem own_holds {w : World} {B : Nat} {s : Value} {L : List Int} (h : w.ownsRow B 3 1 s L.length (intv L)) (h0 : 0 < L.length) : ∃ g cap, s = .slice (some ⟨g, 0, none⟩) L.length cap ∧ B ≤ g ∧ g < w.heap.size ∧ L.length ≤ cap ∧ Sort.Holds (Value.int .i64) w g 0 L.toArray := by
  rcases h.2 with ⟨_, e2⟩ | ⟨g, cap, cur, e1, hg, hgb, hn, hm, hs, ht⟩
  · simp [intv] at e2; subst e2; simp at h0
  · refine ⟨g, cap, e1, hg, (Array.getElem?_eq_some_iff.1 hgb).1, hn, fun j hj => ⟨?_, by simp [World.frozen?, hgb]⟩⟩
    have hj' : j < L.length := by simpa using hj
    simp only [World.cell?, hgb]
    rw [if_neg (by simp), Nat.zero_add]
    have : (intv L)[j]? = some (.int .i64 (L.toArray[j]!)) := by simp [intv, hj', getElem!_pos]
    rw [← ht, List.getElem?_take, if_pos (by omega), Array.getElem?_toList] at this
    exact this
theorem own_zero {w : World} {B : Nat} {s : Value} {xs : List Value} (h : w.ownsRow B 3 1 s 0 xs) : ∃ p cap, s = .slice p 0 cap := by
  rcases h.2 with ⟨e1, _⟩ | ⟨g, cap, cur, e1, _⟩
  · exact ⟨none, 0, e1⟩
  · exact ⟨_, cap, e1⟩
theorem sort_own (B : Nat) (s : Value) (L : List Int) (w : World) (h : w.ownsRow B 3 1 s L.length (intv L)) (hB : B ≤ w.heap.size) (hs : L.length ≤ 1000000000000) :
    Calls Tryz.prog 43 #[s] w fun e w' => e = .returned (.tuple #[]) ∧ w'.ownsRow B 3 1 s (sortL L).length (intv (sortL L)) ∧ Below B w w' := by
  rcases Nat.eq_zero_or_pos L.length with h0 | h0
  · obtain rfl := List.eq_nil_of_length_eq_zero h0
    obtain ⟨p, cap, rfl⟩ := own_zero h
    refine (Any.slices_Sort_int_none Tryz.laysSort43 p cap w).mono fun e w' ⟨he, hw⟩ => ?_
    subst hw
    exact ⟨he, by simpa [sortL, intv] using h, Below.refl _ _⟩
  · obtain ⟨g, cap, rfl, hg, hgw, _, hH⟩ := own_holds h h0
    refine (Any.slices_Sort_int Tryz.laysSort43 g 0 cap L w hH hgw (by omega)).mono fun e w' ⟨he, q, os, hw⟩ => ?_
    have hl := sortL_len L
    have hp := Lib.ownsRow_putRow (q := q) (k := L.length) (ys := sortL L) (enc := Value.int .i64) (zs := L) h hl (Nat.le_refl _)
    rw [List.take_of_length_le (by omega)] at hp
    have hb : Below B w (Sort.putRow (Value.int .i64) (Sort.ahead w q) g 0 (sortL L).toArray) := Lib.below_putRow (Below.refl _ _) hg
    refine ⟨he, ?_, ?_⟩
    · rw [hw, hl]
      exact own_keepB hp (below_growP (Below.refl _ _) os (Nat.le_refl _))
    · rw [hw]
      exact below_growP hb os (Nat.le_trans hB hb.size)
theorem compact_own (B : Nat) (s : Value) (L : List Int) (w : World) (h : w.ownsRow B 3 1 s L.length (intv L)) (hs : L.length ≤ 1000000000000) (hc : (Lib.compact L).length ≤ L.length) :
    Calls Tryz.prog 44 #[s] w fun e w' => ∃ v, e = .returned v ∧ w'.ownsRow B 3 1 v (Lib.compact L).length (intv (Lib.compact L)) ∧ Below B w w' := by
  rcases Nat.eq_zero_or_pos L.length with h0 | h0
  · obtain rfl := List.eq_nil_of_length_eq_zero h0
    obtain ⟨p, cap, rfl⟩ := own_zero h
    have e0 : Lib.compact [] = [] := List.length_eq_zero_iff.1 (by simpa using hc)
    refine (Any.slices_Compact_int_empty Tryz.laysCompact44 p cap w).mono fun e w' ⟨he, hw⟩ => ?_
    subst hw
    exact ⟨_, he, by rw [e0]; exact h, Below.refl _ _⟩
  · obtain ⟨g, cap, rfl, hg, hgw, hcap, hH⟩ := own_holds h h0
    refine (Any.slices_Compact_int Tryz.laysCompact44 g 0 cap L w hH (by omega) hcap).mono fun e w' ⟨he, q, hw⟩ => ?_
    have hp := Lib.ownsRow_putRow (q := q) (k := (Lib.compact L).length) (ys := Lib.compact L ++ List.replicate (L.length - (Lib.compact L).length) 0) (enc := Value.int .i64) (zs := L) h (by simp; omega) hc
    rw [List.take_append_of_le_length (Nat.le_refl _), List.take_length] at hp
    exact ⟨_, he, by rw [hw]; exact hp, by rw [hw]; exact Lib.below_putRow (Below.refl _ _) hg⟩
theorem Tryz.info3 : (Tryz.prog.info? 3).map (fun i => (i.zero, i.size, i.bytes)) = some (some (.int .i64 0), 1, 8) := by kernel_rfl
theorem wpList_app_n (w : World) {ops : Array Oper} {rest : List Oper} {o : Oper} {a : Act} {Q : Exit → Act → World → Prop} (hgd : o.guard = none) (s x : Operand) (ho : o.op = .call { callee := .builtin .append, args := #[s, x], argTypes := #[35, 35] })
    (B : Nat) (vo : Value) (n : Nat) (L : List Int) (hs : a.eval s = vo) (hown : w.ownsRow B 3 1 vo n (intv L)) (g : Nat) (y : Int) (hx : a.eval x = .slice (some ⟨g, 0, none⟩) 1 1) (hc : w.cell? ⟨g, 0, none⟩ = some (.int .i64 y)) (hB : B ≤ w.heap.size) (hn : n ≤ 1000000000000)
    (h : ∀ v' w', w'.ownsRow B 3 1 v' (n + 1) (intv (L ++ [y])) → Below B w w' → wpList Tryz.prog ops Q rest (a.put o.dst v') w') : wpList Tryz.prog ops Q (o :: rest) a w := by
  obtain ⟨i0, hi0, hz0, hz1, hz2⟩ := info_parts Tryz.info3
  refine wpList_append_own _ hgd s x 35 ho B 3 i0 (.int .i64 0) 1 8 Tryz.underlying35 hi0 hz0 hz1 hz2 rfl (by decide) _ _ _ hs hown ⟨g, 0, none⟩ 1 1 [.int .i64 y] hx rfl (fun j u hj => ?_) (fun u hu => ?_) (by unfold maxLen; omega) (by omega) hB ?_
  · match j, hj with
    | 0, hj => simp at hj; subst hj; simpa [Addr.add] using hc
  · simp at hu; subst hu; rfl
  · intro v' w' g1 g2 _
    refine h v' w' (by unfold intv at *; rw [List.map_append]; exact g1) ((Below.refl _ w).grown g2 hB (fun k e => ?_))
    rcases hown.2 with ⟨e1, _⟩ | ⟨g', cap, cur, e1, hg, hgb, _⟩
    · rw [e1] at e; cases e
    · rw [e1] at e
      injection e with e
      subst e
      exact hg
end Go.Proofs.YtaeobgajhieajaaGreatDoor
