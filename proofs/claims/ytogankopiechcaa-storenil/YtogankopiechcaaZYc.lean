/-
  What is proved here: rows that a call owns: a store into one, and a row of two new cells.
-/
import Derived.Test.YtogankopiechcaaZXf
namespace Go.Proofs.Ytogankopiechcaa.Dm
set_option linter.unusedSimpArgs false
set_option linter.unusedVariables false
open Go.RowKit Go.Shelf

attribute [local go_sem] Oper.semAt_some

theorem row_set {W : World} {A : Nat} {cur : Array Value} {t : TypeId} (h : W.heap[A]? = some (.cells cur t (0, 0))) (q : Nat) (v : Value) : (W.setCell ⟨A, q, none⟩ v).heap[A]? = some (.cells (cur.setIfInBounds q v) t (0, 0)) := by
  obtain ⟨hlt, hk⟩ := Array.getElem?_eq_some_iff.1 h
  show (W.heap.modify A _)[A]? = _
  rw [Array.getElem?_eq_getElem (by rw [Array.size_modify]; exact hlt), Array.getElem_modify_self, hk]
  rfl
theorem own_set {W : World} {base e size n g cap j : Nat} {xs : List Value} (h : W.ownsRow base e size (.slice (some ⟨g, 0, none⟩) n cap) n xs) (v : Value) : (W.setCell ⟨g, j, none⟩ v).ownsRow base e size (.slice (some ⟨g, 0, none⟩) n cap) n (xs.set j v) := by
  refine ⟨by rw [List.length_set]; exact h.1, ?_⟩
  rcases h.2 with ⟨e1, _⟩ | ⟨g', cap', cur, e1, hg, hgb, h1, h2, h3, h4⟩
  · cases e1
  · have e' := e1
    injection e' with e2 _ e3; injection e2 with e2; injection e2 with e2; subst e2; subst e3
    exact .inr ⟨g, cap, _, rfl, hg, row_set hgb j v, h1, h2, by rw [Array.size_setIfInBounds]; exact h3, by rw [Array.toList_setIfInBounds, List.take_set, h4]⟩
theorem own_frozen {W : World} {base e size n g cap : Nat} {xs : List Value} (h : W.ownsRow base e size (.slice (some ⟨g, 0, none⟩) n cap) n xs) (j : Nat) : W.frozen? ⟨g, j, none⟩ = false := by
  rcases h.2 with ⟨e1, _⟩ | ⟨g', cap', cur, e1, hg, hgb, _⟩
  · cases e1
  · injection e1 with e2 _ e3; injection e2 with e2; injection e2 with e2; subst e2
    simp [World.frozen?, hgb]
theorem own_ge {W : World} {base e size n g cap : Nat} {xs : List Value} (h : W.ownsRow base e size (.slice (some ⟨g, 0, none⟩) n cap) n xs) : base ≤ g ∧ g < W.heap.size := by
  rcases h.2 with ⟨e1, _⟩ | ⟨g', cap', cur, e1, hg, hgb, _⟩
  · cases e1
  · injection e1 with e2 _ e3; injection e2 with e2; injection e2 with e2; subst e2
    exact ⟨hg, (Array.getElem?_eq_some_iff.1 hgb).1⟩
theorem flat_set (o : List Rg) (i : Nat) (v : Int) (hi' : i < o.length) : (flat o).set (i * 2 + 1) (.int .i64 v) = flat (o.set i (lo o i, v)) := by
  induction o generalizing i with
  | nil => simp at hi'
  | cons a t ih =>
    have e : ∀ (a : Rg) (t : List Rg), flat (a :: t) = .int .i64 a.1 :: .int .i64 a.2 :: flat t := fun a t => by simp [flat]
    cases i with
    | zero => rw [List.set_cons_zero, e, e]; simp [lo]
    | succ i =>
      rw [List.set_cons_succ, e, e, show (i + 1) * 2 + 1 = i * 2 + 1 + 1 + 1 by omega, List.set_cons_succ, List.set_cons_succ, ih i (by simpa using hi')]
      have : lo (a :: t) (i + 1) = lo t i := by simp [lo]
      rw [this]
theorem flat_snoc (o : List Rg) (v : Int) : flat (o ++ [(v, v)]) = flat o ++ [.int .i64 v, .int .i64 v] := by unfold flat; rw [List.flatMap_append]; rfl
theorem cell_two_new (w : World) (x y : Value) (t : TypeId) : ∀ j u, [x, y][j]? = some u → (w.alloc (.cells #[x, y] t)).cell? ((⟨w.heap.size, 0, none⟩ : Addr).add j) = some u := by
  intro j u hj
  have h := World.alloc_heap_new w (.cells #[x, y] t)
  rw [Addr.add_lit, Nat.zero_add, cell_row h]
  simpa using hj
theorem own_base {W : World} {base b' e size n : Nat} {s : Value} {xs : List Value} (h : W.ownsRow base e size s n xs) (hb : b' ≤ base) : W.ownsRow b' e size s n xs := by
  refine ⟨h.1, ?_⟩
  rcases h.2 with h | ⟨g, cap, cur, e1, hg, r⟩
  · exact .inl h
  · exact .inr ⟨g, cap, cur, e1, Nat.le_trans hb hg, r⟩
end Go.Proofs.Ytogankopiechcaa.Dm

