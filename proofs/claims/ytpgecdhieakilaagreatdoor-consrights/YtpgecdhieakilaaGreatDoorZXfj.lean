/-
  What is proved here: what dom.Each hands back of right ranges.
  What is proved here: rows that a call owns: a store into one, and a row of two new cells.
  What is proved here: what not and Cut of the reference return of right ranges.
  What is proved here: Size of any ranges, the reference's and the program's.
  What is proved here: the program's Size of right ranges.
-/
import Derived.Test.YtpgecdhieakilaaGreatDoorZXdj
import Derived.Deep.WholeRow
import Derived.Test.YtpgecdhieakilaaGreatDoorZMathj
namespace Go.Proofs.YtpgecdhieakilaaGreatDoor.Dm
open Go.RowKit Go.Shelf

theorem cell_row {W : World} {g : Nat} {cur : Array Value} {t : TypeId} (h : W.heap[g]? = some (.cells cur t (0, 0))) (j : Nat) : W.cell? ⟨g, j, none⟩ = cur[j]? := by simp [World.cell?, h]

theorem own_some {W : World} {base e size n : Nat} {s : Value} {xs : List Value} (h : W.ownsRow base e size s n xs) (h0 : 0 < n) : ∃ g cap, s = .slice (some ⟨g, 0, none⟩) n cap ∧ base ≤ g ∧ g < W.heap.size ∧ ∀ j u, xs[j]? = some u → W.cell? ⟨g, j, none⟩ = some u := by
  rcases h.2 with ⟨_, e0⟩ | ⟨g, cap, cur, rfl, hg, hgb, hc1, hc2, hc3, hc4⟩
  · omega
  · refine ⟨g, cap, rfl, hg, (Array.getElem?_eq_some_iff.1 hgb).1, fun j u hj => ?_⟩
    rw [cell_row hgb, ← hj, ← hc4, List.getElem?_take]
    have hjl : j < n * size := by rw [← h.1]; exact (List.getElem?_eq_some_iff.1 hj).1
    rw [if_pos hjl]; simp
end Go.Proofs.YtpgecdhieakilaaGreatDoor.Dm


namespace Go.Proofs.YtpgecdhieakilaaGreatDoor.Dm
open Go.RowKit Go.Shelf

attribute [local go_sem] Oper.semAt_some

theorem row_set {W : World} {A : Nat} {cur : Array Value} {t : TypeId} (h : W.heap[A]? = some (.cells cur t (0, 0))) (q : Nat) (v : Value) : (W.setCell ⟨A, q, none⟩ v).heap[A]? = some (.cells (cur.setIfInBounds q v) t (0, 0)) := by
  obtain ⟨hlt, hk⟩ := Array.getElem?_eq_some_iff.1 h
  show (W.heap.modify A _)[A]? = _
  rw [Array.getElem?_eq_getElem (by rw [Array.size_modify]; exact hlt), Array.getElem_modify_self, hk]
  rfl
theorem own_set {W : World} {base e size n g cap j : Nat} {xs : List Value} (h : W.ownsRow base e size (.slice (some ⟨g, 0, none⟩) n cap) n xs) (v : Value) : (W.setCell ⟨g, j, none⟩ v).ownsRow base e size (.slice (some ⟨g, 0, none⟩) n cap) n (xs.set j v) := by
  refine ⟨by rw [List.length_set]; exact h.1, ?_⟩
  rcases h.2 with ⟨e1, _⟩ | ⟨g', cap', cur, e1, hg, hgb, h1, h2, h3, h4⟩
  · cases e1
  · have e' := e1
    injection e' with e2 _ e3; injection e2 with e2; injection e2 with e2; subst e2; subst e3
    exact .inr ⟨g, cap, _, rfl, hg, row_set hgb j v, h1, h2, by rw [Array.size_setIfInBounds]; exact h3, by rw [Array.toList_setIfInBounds, List.take_set, h4]⟩
theorem own_frozen {W : World} {base e size n g cap : Nat} {xs : List Value} (h : W.ownsRow base e size (.slice (some ⟨g, 0, none⟩) n cap) n xs) (j : Nat) : W.frozen? ⟨g, j, none⟩ = false := by
  rcases h.2 with ⟨e1, _⟩ | ⟨g', cap', cur, e1, hg, hgb, _⟩
  · cases e1
  · injection e1 with e2 _ e3; injection e2 with e2; injection e2 with e2; subst e2
    simp [World.frozen?, hgb]
theorem own_ge {W : World} {base e size n g cap : Nat} {xs : List Value} (h : W.ownsRow base e size (.slice (some ⟨g, 0, none⟩) n cap) n xs) : base ≤ g ∧ g < W.heap.size := by
  rcases h.2 with ⟨e1, _⟩ | ⟨g', cap', cur, e1, hg, hgb, _⟩
  · cases e1
  · injection e1 with e2 _ e3; injection e2 with e2; injection e2 with e2; subst e2
    exact ⟨hg, (Array.getElem?_eq_some_iff.1 hgb).1⟩
theorem flat_set (o : List Rg) (i : Nat) (v : Int) (hi' : i < o.length) : (flat o).set (i * 2 + 1) (.int .i64 v) = flat (o.set i (lo o i, v)) := by
  induction o generalizing i with
  | nil => simp at hi'
  | cons a t ih =>
    have e : ∀ (a : Rg) (t : List Rg), flat (a :: t) = .int .i64 a.1 :: .int .i64 a.2 :: flat t := fun a t => by simp [flat]
    cases i with
    | zero => rw [List.set_cons_zero, e, e]; simp [lo]
    | succ i =>
      rw [List.set_cons_succ, e, e, show (i + 1) * 2 + 1 = i * 2 + 1 + 1 + 1 by omega, List.set_cons_succ, List.set_cons_succ, ih i (by simpa using hi')]
      have : lo (a :: t) (i + 1) = lo t i := by simp [lo]
      rw [this]
theorem cell_two_new (w : World) (x y : Value) (t : TypeId) : ∀ j u, [x, y][j]? = some u → (w.alloc (.cells #[x, y] t)).cell? ((⟨w.heap.size, 0, none⟩ : Addr).add j) = some u := by
  intro j u hj
  have h := World.alloc_heap_new w (.cells #[x, y] t)
  rw [Addr.add_lit, Nat.zero_add, cell_row h]
  simpa using hj
theorem own_base {W : World} {base b' e size n : Nat} {s : Value} {xs : List Value} (h : W.ownsRow base e size s n xs) (hb : b' ≤ base) : W.ownsRow b' e size s n xs := by
  refine ⟨h.1, ?_⟩
  rcases h.2 with h | ⟨g, cap, cur, e1, hg, r⟩
  · exact .inl h
  · exact .inr ⟨g, cap, cur, e1, Nat.le_trans hb hg, r⟩
end Go.Proofs.YtpgecdhieakilaaGreatDoor.Dm


namespace Go.Proofs.YtpgecdhieakilaaGreatDoor.Dm
open Go.RowKit Go.Shelf
set_option linter.unusedVariables false

theorem flat_two (o : List Rg) (x y : Int) : flat (o ++ [(x, y)]) = flat o ++ [.int .i64 x, .int .i64 y] := by unfold flat; rw [List.flatMap_append]; rfl
theorem own_keepB {W W' : World} {base e size n : Nat} {s : Value} {xs : List Value} (h : W.ownsRow base e size s n xs) (hb : Below W.heap.size W W') : W'.ownsRow base e size s n xs :=
  ⟨h.1, by
    rcases h.2 with h2 | ⟨g, cap, cur, e1, hg, hgb, r⟩
    · exact .inl h2
    · exact .inr ⟨g, cap, cur, e1, hg, (hb.block g (Array.getElem?_eq_some_iff.1 hgb).1).trans hgb, r⟩⟩

end Go.Proofs.YtpgecdhieakilaaGreatDoor.Dm


namespace Go.Proofs.YtpgecdhieakilaaGreatDoor.Dm
open Go.RowKit Go.Shelf

/-- How many values the ranges have. -/
def sizeR (l : List Rg) : Int := (l.map fun r => r.2 - r.1 + 1).sum
theorem sizeR_take (l : List Rg) (k : Nat) (hk : k < l.length) : sizeR (l.take (k + 1)) = sizeR (l.take k) + (hi l k - lo l k + 1) := by
  unfold sizeR
  rw [List.take_add_one, List.getElem?_eq_getElem hk, List.map_append, List.sum_append, lo_get l k hk, hi_get l k hk]
  simp

end Go.Proofs.YtpgecdhieakilaaGreatDoor.Dm


namespace Go.Proofs.YtpgecdhieakilaaGreatDoor.Dm
open Go.RowKit Go.Shelf

set_option maxHeartbeats 2000000 in
theorem domsize_yes (s : Value) (l : List Rg) (w : World) (h : Sr w s l) (hf : FitsR l) (hR : Right l) :
    Calls Tryz.prog 124 #[s] w fun e w' => e = .returned (.int .i64 (sizeR l)) ∧ Below w.heap.size w w' := by
  have hc := known_yes s l w h hf hR
  have hlen := hR.1
  have hok := hR.2
  obtain ⟨a, cap, rfl, hcell⟩ := h
  obtain ⟨n, hn⟩ : ∃ n, l.length = n := ⟨_, rfl⟩
  have HN : Hid (l.length = n) := hn
  have HC : Hid _ := hcell
  have HOK : Hid _ := hok
  rw [hn] at hc hlen ⊢
  clear hn hcell hR hok
  go_enter Tryz.func124, Tryz.ntmps124
  go_wp2_with (go_at_call 137; refine hc.mono ?_; rintro e w1 ⟨rfl, hb1⟩)
  go_loopw [3, 9] (fun sv i wr => ∃ (k : Nat), k ≤ n ∧ i = .int .i64 k ∧ sv = .int .i64 (sizeR (l.take k)) ∧ 0 ≤ sizeR (l.take k) ∧ sizeR (l.take k) ≤ 2000001 * k ∧ Below w.heap.size w wr) (fun _ i _ => n - (intOf i).toNat)
  case atStart => exact ⟨0, by omega, rfl, by simp [sizeR], by simp [sizeR], by simp [sizeR], hb1⟩
  case round =>
    obtain ⟨k, hk, rfl, rfl, hs0, hs1, hB⟩ := hrel
    by_cases hlt : k < n
    · have hkl : k < l.length := by rw [HN.out]; exact hlt
      obtain ⟨b, off, rfl, hb, hcells⟩ := HC.out (by omega)
      obtain ⟨c1, c2⟩ := hcells k hkl
      have d1 := (hB.cell (p := ⟨b, off + k * 2, none⟩) hb).trans c1
      have d2 := (hB.cell (p := ⟨b, off + k * 2 + 1, none⟩) hb).trans c2
      have ht := sizeR_take l k hkl
      obtain ⟨o1, o2, o3, _⟩ := HOK.out k hkl
      obtain ⟨x, hx⟩ : ∃ x, lo l k = x := ⟨_, rfl⟩
      obtain ⟨y, hy⟩ : ∃ y, hi l k = y := ⟨_, rfl⟩
      rw [hx, hy] at ht o1
      rw [hx] at o2; rw [hy] at o3
      rw [hx] at d1; rw [hy] at d2
      obtain ⟨S, hS⟩ : ∃ S, sizeR (l.take k) = S := ⟨_, rfl⟩
      rw [hS] at ht hs0 hs1 ⊢
      have hlt' : (k : Int) < (n : Int) := by omega
      have b1 : -1000000 ≤ y := by omega
      have b2 : x ≤ 1000000 := by omega
      have b3 : S ≤ 9000000000 := by omega
      have hbw : b < wr.heap.size := Nat.lt_of_lt_of_le hb hB.size
      have hb2 : Below w.heap.size w (wr.alloc (Obj.cells #[Value.int IntKind.i64 x, Value.int IntKind.i64 y] 161)) := hB.alloc hB.size _
      have HB2 : Hid (Below w.heap.size w (wr.alloc (Obj.cells #[Value.int IntKind.i64 x, Value.int IntKind.i64 y] 161))) := hb2
      have HT : Hid (sizeR (l.take (k + 1)) = S + (y - x + 1)) := ht
      clear c1 c2 hcells hx hy ht hS hb2
      go_wp2
      go_roundw
      case rel => exact ⟨k + 1, by omega, by go_num, by rw [HT.out], by rw [HT.out]; omega, by rw [HT.out]; omega, HB2.out⟩
      case measure => simp [intOf]; omega
    · have hkn : k = n := by omega
      subst hkn
      rw [List.take_of_length_le (by rw [HN.out]; exact Nat.le_refl _)] at hs0 hs1 ⊢
      go_wp2
      go_ret
      exact ⟨rfl, hB⟩
end Go.Proofs.YtpgecdhieakilaaGreatDoor.Dm

