/-
  What is proved here: what dom.Each hands back of right ranges.
  What is proved here: rows that a call owns: a store into one, and a row of two new cells.
  What is proved here: the reference's Right of right ranges; the ranges of a set that was made of ranges are these.
  What is proved here: what the reference's Right, Taken, Min and Max return of any ranges.
  What is proved here: what not and Cut of the reference return of right ranges.
  What is proved here: what Cut of the reference returns of right ranges.
  What is proved here: what the reference's Alike tells of slices with the same ranges; what its Lent makes.
-/
import Derived.Test.YtaeobgajhieajaaGreatDoorZXdj
import Derived.Deep.WholeRow
import Derived.Test.YtaeobgajhieajaaGreatDoorZMathj
namespace Go.Proofs.YtaeobgajhieajaaGreatDoor.Dm
open Go.RowKit Go.Shelf

theorem cell_row {W : World} {g : Nat} {cur : Array Value} {t : TypeId} (h : W.heap[g]? = some (.cells cur t (0, 0))) (j : Nat) : W.cell? ⟨g, j, none⟩ = cur[j]? := by simp [World.cell?, h]

theorem own_some {W : World} {base e size n : Nat} {s : Value} {xs : List Value} (h : W.ownsRow base e size s n xs) (h0 : 0 < n) : ∃ g cap, s = .slice (some ⟨g, 0, none⟩) n cap ∧ base ≤ g ∧ g < W.heap.size ∧ ∀ j u, xs[j]? = some u → W.cell? ⟨g, j, none⟩ = some u := by
  rcases h.2 with ⟨_, e0⟩ | ⟨g, cap, cur, rfl, hg, hgb, hc1, hc2, hc3, hc4⟩
  · omega
  · refine ⟨g, cap, rfl, hg, (Array.getElem?_eq_some_iff.1 hgb).1, fun j u hj => ?_⟩
    rw [cell_row hgb, ← hj, ← hc4, List.getElem?_take]
    have hjl : j < n * size := by rw [← h.1]; exact (List.getElem?_eq_some_iff.1 hj).1
    rw [if_pos hjl]; simp
end Go.Proofs.YtaeobgajhieajaaGreatDoor.Dm


namespace Go.Proofs.YtaeobgajhieajaaGreatDoor.Dm
open Go.RowKit Go.Shelf

attribute [local go_sem] Oper.semAt_some

theorem row_set {W : World} {A : Nat} {cur : Array Value} {t : TypeId} (h : W.heap[A]? = some (.cells cur t (0, 0))) (q : Nat) (v : Value) : (W.setCell ⟨A, q, none⟩ v).heap[A]? = some (.cells (cur.setIfInBounds q v) t (0, 0)) := by
  obtain ⟨hlt, hk⟩ := Array.getElem?_eq_some_iff.1 h
  show (W.heap.modify A _)[A]? = _
  rw [Array.getElem?_eq_getElem (by rw [Array.size_modify]; exact hlt), Array.getElem_modify_self, hk]
  rfl
theorem own_set {W : World} {base e size n g cap j : Nat} {xs : List Value} (h : W.ownsRow base e size (.slice (some ⟨g, 0, none⟩) n cap) n xs) (v : Value) : (W.setCell ⟨g, j, none⟩ v).ownsRow base e size (.slice (some ⟨g, 0, none⟩) n cap) n (xs.set j v) := by
  refine ⟨by rw [List.length_set]; exact h.1, ?_⟩
  rcases h.2 with ⟨e1, _⟩ | ⟨g', cap', cur, e1, hg, hgb, h1, h2, h3, h4⟩
  · cases e1
  · have e' := e1
    injection e' with e2 _ e3; injection e2 with e2; injection e2 with e2; subst e2; subst e3
    exact .inr ⟨g, cap, _, rfl, hg, row_set hgb j v, h1, h2, by rw [Array.size_setIfInBounds]; exact h3, by rw [Array.toList_setIfInBounds, List.take_set, h4]⟩
theorem own_frozen {W : World} {base e size n g cap : Nat} {xs : List Value} (h : W.ownsRow base e size (.slice (some ⟨g, 0, none⟩) n cap) n xs) (j : Nat) : W.frozen? ⟨g, j, none⟩ = false := by
  rcases h.2 with ⟨e1, _⟩ | ⟨g', cap', cur, e1, hg, hgb, _⟩
  · cases e1
  · injection e1 with e2 _ e3; injection e2 with e2; injection e2 with e2; subst e2
    simp [World.frozen?, hgb]
theorem own_ge {W : World} {base e size n g cap : Nat} {xs : List Value} (h : W.ownsRow base e size (.slice (some ⟨g, 0, none⟩) n cap) n xs) : base ≤ g ∧ g < W.heap.size := by
  rcases h.2 with ⟨e1, _⟩ | ⟨g', cap', cur, e1, hg, hgb, _⟩
  · cases e1
  · injection e1 with e2 _ e3; injection e2 with e2; injection e2 with e2; subst e2
    exact ⟨hg, (Array.getElem?_eq_some_iff.1 hgb).1⟩
theorem flat_set (o : List Rg) (i : Nat) (v : Int) (hi' : i < o.length) : (flat o).set (i * 2 + 1) (.int .i64 v) = flat (o.set i (lo o i, v)) := by
  induction o generalizing i with
  | nil => simp at hi'
  | cons a t ih =>
    have e : ∀ (a : Rg) (t : List Rg), flat (a :: t) = .int .i64 a.1 :: .int .i64 a.2 :: flat t := fun a t => by simp [flat]
    cases i with
    | zero => rw [List.set_cons_zero, e, e]; simp [lo]
    | succ i =>
      rw [List.set_cons_succ, e, e, show (i + 1) * 2 + 1 = i * 2 + 1 + 1 + 1 by omega, List.set_cons_succ, List.set_cons_succ, ih i (by simpa using hi')]
      have : lo (a :: t) (i + 1) = lo t i := by simp [lo]
      rw [this]
theorem flat_snoc (o : List Rg) (v : Int) : flat (o ++ [(v, v)]) = flat o ++ [.int .i64 v, .int .i64 v] := by unfold flat; rw [List.flatMap_append]; rfl
theorem cell_two_new (w : World) (x y : Value) (t : TypeId) : ∀ j u, [x, y][j]? = some u → (w.alloc (.cells #[x, y] t)).cell? ((⟨w.heap.size, 0, none⟩ : Addr).add j) = some u := by
  intro j u hj
  have h := World.alloc_heap_new w (.cells #[x, y] t)
  rw [Addr.add_lit, Nat.zero_add, cell_row h]
  simpa using hj
theorem own_base {W : World} {base b' e size n : Nat} {s : Value} {xs : List Value} (h : W.ownsRow base e size s n xs) (hb : b' ≤ base) : W.ownsRow b' e size s n xs := by
  refine ⟨h.1, ?_⟩
  rcases h.2 with h | ⟨g, cap, cur, e1, hg, r⟩
  · exact .inl h
  · exact .inr ⟨g, cap, cur, e1, Nat.le_trans hb hg, r⟩
end Go.Proofs.YtaeobgajhieajaaGreatDoor.Dm


namespace Go.Proofs.YtaeobgajhieajaaGreatDoor.Dm
open Go.RowKit Go.Shelf

/-- Is v a value? -/
def inV (v : Int) : Bool := decide (-1000000 ≤ v ∧ v ≤ 1000000)
theorem inV_yes {v : Int} (h1 : -1000000 ≤ v) (h2 : v ≤ 1000000) : inV v = true := by unfold inV; simp; omega
theorem inV_no {v : Int} (h : ¬ (-1000000 ≤ v ∧ v ≤ 1000000)) : inV v = false := by unfold inV; exact decide_eq_false h
theorem own_sr {W : World} {base : Nat} {s : Value} {l : List Rg} (h : W.ownsRow base 161 2 s l.length (flat l)) (h0 : 0 < l.length) : Sr W s l := by
  obtain ⟨g, cap, rfl, _, hlt, hc⟩ := own_some h h0
  refine ⟨_, cap, rfl, fun _ => ⟨g, 0, rfl, hlt, fun i hi => ?_⟩⟩
  obtain ⟨d1, d2⟩ := flat_even l i hi
  exact ⟨by rw [Nat.zero_add]; exact hc _ _ d1, by rw [Nat.zero_add]; exact hc _ _ d2⟩
end Go.Proofs.YtaeobgajhieajaaGreatDoor.Dm


namespace Go.Proofs.YtaeobgajhieajaaGreatDoor.Dm
open Go.RowKit Go.Shelf

end Go.Proofs.YtaeobgajhieajaaGreatDoor.Dm


namespace Go.Proofs.YtaeobgajhieajaaGreatDoor.Dm
open Go.RowKit Go.Shelf
set_option linter.unusedVariables false

theorem flat_two (o : List Rg) (x y : Int) : flat (o ++ [(x, y)]) = flat o ++ [.int .i64 x, .int .i64 y] := by unfold flat; rw [List.flatMap_append]; rfl
theorem drop_cons (l : List Rg) (k : Nat) (hk : k < l.length) : l.drop k = (lo l k, hi l k) :: l.drop (k + 1) := by
  rw [List.drop_eq_getElem_cons hk, lo_get l k hk, hi_get l k hk]
theorem own_keepB {W W' : World} {base e size n : Nat} {s : Value} {xs : List Value} (h : W.ownsRow base e size s n xs) (hb : Below W.heap.size W W') : W'.ownsRow base e size s n xs :=
  ⟨h.1, by
    rcases h.2 with h2 | ⟨g, cap, cur, e1, hg, hgb, r⟩
    · exact .inl h2
    · exact .inr ⟨g, cap, cur, e1, hg, (hb.block g (Array.getElem?_eq_some_iff.1 hgb).1).trans hgb, r⟩⟩

end Go.Proofs.YtaeobgajhieajaaGreatDoor.Dm


namespace Go.Proofs.YtaeobgajhieajaaGreatDoor.Dm
open Go.RowKit Go.Shelf
set_option linter.unusedVariables false

theorem cutL_take (l : List Rg) (a b : Int) (k : Nat) (hk : k < l.length) : cutL (l.take (k + 1)) a b = cutL (l.take k) a b ++ (cut1 a b (lo l k, hi l k)).toList := by
  unfold cutL
  rw [List.take_add_one, List.getElem?_eq_getElem hk, List.filterMap_append, lo_get l k hk, hi_get l k hk]
  cases h : cut1 a b l[k] <;> simp [h]
theorem cutL_len (l : List Rg) (a b : Int) (k : Nat) : (cutL (l.take k) a b).length ≤ k := by
  unfold cutL
  have h1 := List.length_filterMap_le (cut1 a b) (l.take k)
  have h2 := List.length_take_le k l
  omega

end Go.Proofs.YtaeobgajhieajaaGreatDoor.Dm


namespace Go.Proofs.YtaeobgajhieajaaGreatDoor.Dm
open Go.RowKit Go.Shelf

theorem Sr.drawn {W : World} {s : Value} {l : List Rg} (h : Sr W s l) (n : Nat) : Sr (W.drewN n) s l := h
theorem own_capsR {W : World} {base g n cap : Nat} {xs : List Value} (h : W.ownsRow base 161 2 (.slice (some ⟨g, 0, none⟩) n cap) n xs) : n ≤ cap ∧ cap ≤ 9223372036854775807 := by
  rcases h.2 with ⟨h1, _⟩ | ⟨g', cap', cur, e, _, _, hc, hm, _⟩
  · cases h1
  · injection e with _ _ e3; subst e3; unfold maxLen at hm; exact ⟨hc, by omega⟩
end Go.Proofs.YtaeobgajhieajaaGreatDoor.Dm

