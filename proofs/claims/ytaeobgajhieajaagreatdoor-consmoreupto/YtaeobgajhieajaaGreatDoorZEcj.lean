/-
  What is proved here: what the library's iterator over a slice of ranges tells: all of them, in their order.
  What is proved here: what dom.overlaps tells: what two lists of ranges have in common, rising.
  What is proved here: what dom.Each hands back of right ranges.
  What is proved here: rows that a call owns: a store into one, and a row of two new cells.
  What is proved here: the reference's Right of right ranges; the ranges of a set that was made of ranges are these.
  What is proved here: what the reference's Right, Taken, Min and Max return of any ranges.
  What is proved here: what not and Cut of the reference return of right ranges.
-/
import Derived.Test.YtaeobgajhieajaaGreatDoorZXcj
import Derived.Test.YtaeobgajhieajaaGreatDoorZEb
import Derived.Lib.MinMax
import Derived.Deep.RegionHeld3
import Derived.Sort.QuietIn
import Derived.Deep.WholeRow
import Derived.Test.YtaeobgajhieajaaGreatDoorZVa
namespace Go.Proofs.YtaeobgajhieajaaGreatDoor.Dm
open Go.RowKit Go.Shelf
set_option linter.unusedVariables false

attribute [local go_sem] Oper.semAt_some

/-- A range with ends from -1000000 to 1000000. -/
def Rok (r : Rg) : Prop := -1000000 ≤ r.1 ∧ r.1 ≤ r.2 ∧ r.2 ≤ 1000000
abbrev RgOk := { r : Rg // Rok r }
def encR (x : RgOk) : Array Value := #[.agg #[.int .i64 x.1.1, .int .i64 x.1.2]]

theorem take_snoc (l : List Rg) (k : Nat) (hk : k < l.length) : l.take (k + 1) = l.take k ++ [(lo l k, hi l k)] := by
  rw [List.take_add_one, List.getElem?_eq_getElem hk, lo_get l k hk, hi_get l k hk]; rfl

set_option maxRecDepth 100000 in
set_option maxHeartbeats 2000000 in
theorem values1_in (n : Nat) (hn : 1 ≤ n) (lr B n₀ b off cap : Nat) (l : List Rg) (hok : ∀ i, i < l.length → Rok (lo l i, hi l i)) (hlen : l.length * 16 ≤ 140737488351232) (hb : b < n₀) (J Jx : List RgOk → World → Prop)
    (hY : ∀ pre x W, J pre W → pre.length < l.length → YieldAt Fence.wide (n - 1) Tryz.prog lr (encR x) W fun e W' =>
      (e = .returned (.bool true) ∧ J (pre ++ [x]) W' ∧ Below n₀ W W') ∨ (e = .returned (.bool false) ∧ Jx (pre ++ [x]) W'))
    (W : World) (hnW : n₀ ≤ W.heap.size) (hJ : AbidesFrom W.heap.size J) (hB : W.cell? ⟨B, 0, none⟩ = some (.slice (some ⟨b, off, none⟩) l.length cap))
    (hc : ∀ i, i < l.length → W.cell? ⟨b, off + i * 2, none⟩ = some (.int .i64 (lo l i)) ∧ W.cell? ⟨b, off + i * 2 + 1, none⟩ = some (.int .i64 (hi l i))) (h0 : J [] W) :
    CallsIn Fence.wide n Tryz.prog 162 #[.func (.yield lr) #[] #[], .pointer (some ⟨B, 0, none⟩)] W fun e W' => (∃ v, e = .returned v) ∧
      ((∃ ys, ys.map (·.1) = l ∧ J ys W') ∨ (∃ pre, (∃ r, pre.map (·.1) ++ r = l) ∧ Jx pre W')) := by
  obtain ⟨m, hm⟩ : ∃ m, l.length = m := ⟨_, rfl⟩
  have HM : Hid (l.length = m) := hm
  rw [hm] at hok hlen hB hc hY
  have HOK : Hid (∀ i, i < m → Rok (lo l i, hi l i)) := hok
  have HC : Hid (∀ i, i < m → W.cell? ⟨b, off + i * 2, none⟩ = some (.int .i64 (lo l i)) ∧ W.cell? ⟨b, off + i * 2 + 1, none⟩ = some (.int .i64 (hi l i))) := hc
  clear hm hc hok
  refine callsIn_of_wp Tryz.func162 rfl trivial ?_ rfl
  simp only [Tryz.ntmps162, List.size_toArray, List.length_cons, List.length_nil, Nat.reduceAdd, Nat.reduceSub, Array.replicate_succ, Array.replicate_zero, List.push_toArray, List.append_toArray, List.nil_append, List.cons_append]
  gi_wp2
  gi_loopw [7] (fun i wr => ∃ k : Nat, k ≤ m ∧ i = .int .i64 k ∧ (∃ pre, pre.map (·.1) = l.take k ∧ J pre wr) ∧ Below n₀ W wr)
    (fun i _ => m - (intOf i).toNat)
  case atStart => exact ⟨0, Nat.zero_le _, rfl, ⟨[], by simp, h0⟩, Below.refl _ _⟩
  case round =>
    obtain ⟨k, hk, rfl, ⟨pre, hpre, hJp⟩, hBl⟩ := hrel
    have hsz := hBl.size
    by_cases hlt : k < m
    · obtain ⟨c1, c2⟩ := HC.out k hlt
      have hrok := HOK.out k hlt
      have d1 := (hBl.cell (p := ⟨b, off + k * 2, none⟩) hb).trans c1
      have d2 := (hBl.cell (p := ⟨b, off + k * 2 + 1, none⟩) hb).trans c2
      have htk := take_snoc l k (by rw [HM.out]; exact hlt)
      obtain ⟨x, hx⟩ : ∃ x, lo l k = x := ⟨_, rfl⟩
      obtain ⟨y, hy⟩ : ∃ y, hi l k = y := ⟨_, rfl⟩
      rw [hx] at d1 hrok htk; rw [hy] at d2 hrok htk
      have hpl : pre.length < m := by
        have e1 : pre.length = (l.take k).length := by rw [← hpre, List.length_map]
        rw [List.length_take, HM.out] at e1
        omega
      have HPR2 : Hid ((pre ++ [(⟨(x, y), hrok⟩ : RgOk)]).map (·.1) = l.take (k + 1)) := by
        unfold Hid; rw [List.map_append, hpre, htk]; rfl
      have HPRE : Hid (pre.map (·.1) = l.take k) := hpre
      have hJ2 : J pre (wr.alloc (Obj.cells #[Value.int IntKind.i64 x, Value.int IntKind.i64 y] 161)) := hJ _ _ _ none hJp (World.grownBy_alloc _ _ _) (fun r e => by cases e)
      have hB2 : Below n₀ W (wr.alloc (Obj.cells #[Value.int IntKind.i64 x, Value.int IntKind.i64 y] 161)) := hBl.alloc (Nat.le_trans hnW hsz) _
      obtain ⟨fn, tmps, assign, body, hyy, hRd⟩ := hY pre ⟨(x, y), hrok⟩ _ hJ2 hpl
      unfold encR at hyy
      dsimp only at hyy
      have HB2 : Hid (Below n₀ W (wr.alloc (Obj.cells #[Value.int IntKind.i64 x, Value.int IntKind.i64 y] 161))) := hB2
      clear hx hy c1 c2 htk hpre hpl hB2 hJ2
      gi_wp2
      refine hRd.mono ?_
      rintro e W3 (⟨rfl, hJ3, hk3⟩ | ⟨rfl, hJx3⟩)
      · gi_wp2
        go_roundw
        case rel => exact ⟨k + 1, by omega, by go_num, ⟨_, HPR2.out, hJ3⟩, HB2.out.trans hk3⟩
        case measure => simp [intOf]; omega
      · gi_wp2
        refine bodyPost_ret (results_none rfl _ _ _) rfl ?_
        refine ⟨⟨_, rfl⟩, .inr ⟨_, ?_, hJx3⟩⟩
        exact ⟨l.drop (k + 1), by rw [HPR2.out, List.take_append_drop]⟩
    · obtain rfl : k = m := by omega
      gi_wp2
      go_end0
      exact ⟨⟨_, rfl⟩, .inl ⟨pre, by rw [hpre, List.take_of_length_le (by rw [HM.out]; exact Nat.le_refl _)], hJp⟩⟩
end Go.Proofs.YtaeobgajhieajaaGreatDoor.Dm


namespace Go.Proofs.YtaeobgajhieajaaGreatDoor.Dm
open Go.RowKit Go.Shelf
set_option linter.unusedVariables false

attribute [local go_sem] Oper.semAt_some

theorem wp_calm {P : Program} {c : Code} {K : Act → World → Prop} {Q : Exit → Act → World → Prop} {a : Act} {w : World} (h : c.wp P (Exit.then K (fun _ _ _ => False)) a w) : c.wp P (Exit.then K Q) a w :=
  Code.wp_mono (fun e a w h => by cases e <;> first | exact h | exact (h : False).elim) h

theorem grown_drew (W : World) : W.grownBy W.drew none := ⟨rfl, rfl, rfl, Nat.le_refl _, fun _ _ _ => rfl⟩
theorem grown_drewN (W : World) (n : Nat) : W.grownBy (W.drewN n) none := ⟨rfl, rfl, rfl, Nat.le_refl _, fun _ _ _ => rfl⟩
/-- All ways through a region come to one place. -/
theorem wp_one {P : Program} {c : Code} {K : Act → World → Prop} {a : Act} {w : World} (act : Act) (wld : World) (h : c.wp P (Exit.then (fun a' w' => a' = act ∧ w' = wld) (fun _ _ _ => False)) a w) (hK : Exit.then K (fun _ _ _ => False) .normal act wld) : c.wp P (Exit.then K (fun _ _ _ => False)) a w :=
  Code.wp_mono (fun e a w h => by cases e <;> first | (obtain ⟨rfl, rfl⟩ := h; exact hK) | exact (h : False).elim) h

/-- The box B holds the slice of the ranges l; box and row lie below n₀. -/
def Lists (n₀ : Nat) (W : World) (B : Nat) (l : List Rg) : Prop := ∃ s, B < n₀ ∧ W.cell? ⟨B, 0, none⟩ = some s ∧ ∃ a cap, s = .slice a l.length cap ∧ (0 < l.length → ∃ b off, a = some ⟨b, off, none⟩ ∧ b < n₀ ∧ ∀ i, i < l.length → W.cell? ⟨b, off + i * 2, none⟩ = some (.int .i64 (lo l i)) ∧ W.cell? ⟨b, off + i * 2 + 1, none⟩ = some (.int .i64 (hi l i)))
theorem Lists.below {n₀ : Nat} {W W' : World} {B : Nat} {l : List Rg} (h : Lists n₀ W B l) (hb : Below n₀ W W') : Lists n₀ W' B l := by
  obtain ⟨s, h1, h2, a, cap, h3, h4⟩ := h
  refine ⟨s, h1, (hb.cell (p := ⟨B, 0, none⟩) h1).trans h2, a, cap, h3, fun h0 => ?_⟩
  obtain ⟨b, off, e, hlt, hc⟩ := h4 h0
  exact ⟨b, off, e, hlt, fun i hi => ⟨(hb.cell (p := ⟨b, off + i * 2, none⟩) hlt).trans (hc i hi).1, (hb.cell (p := ⟨b, off + i * 2 + 1, none⟩) hlt).trans (hc i hi).2⟩⟩

theorem ov_rok {a : List Rg} (ha : ∀ i, i < a.length → -1000000 ≤ lo a i ∧ hi a i ≤ 1000000) {i : Nat} (h : i < a.length) (y1 y2 : Int) (hle : max (lo a i) y1 ≤ min (hi a i) y2) : Rok (max (lo a i) y1, min (hi a i) y2) := by
  have := ha i h
  refine ⟨?_, hle, ?_⟩ <;> dsimp only <;> omega
theorem ov1_yes (x1 x2 y1 y2 : Int) (h : max x1 y1 ≤ min x2 y2) : ov1 (x1, x2) (y1, y2) = [(max x1 y1, min x2 y2)] := by
  unfold ov1 mx mn
  simp only [← Int.max_def, ← Int.min_def]
  rw [if_pos h]
theorem ov1_no (x1 x2 y1 y2 : Int) (h : ¬ max x1 y1 ≤ min x2 y2) : ov1 (x1, x2) (y1, y2) = [] := by
  unfold ov1 mx mn
  simp only [← Int.max_def, ← Int.min_def]
  rw [if_neg h]

end Go.Proofs.YtaeobgajhieajaaGreatDoor.Dm


namespace Go.Proofs.YtaeobgajhieajaaGreatDoor.Dm
open Go.RowKit Go.Shelf

theorem cell_row {W : World} {g : Nat} {cur : Array Value} {t : TypeId} (h : W.heap[g]? = some (.cells cur t (0, 0))) (j : Nat) : W.cell? ⟨g, j, none⟩ = cur[j]? := by simp [World.cell?, h]

theorem own_some {W : World} {base e size n : Nat} {s : Value} {xs : List Value} (h : W.ownsRow base e size s n xs) (h0 : 0 < n) : ∃ g cap, s = .slice (some ⟨g, 0, none⟩) n cap ∧ base ≤ g ∧ g < W.heap.size ∧ ∀ j u, xs[j]? = some u → W.cell? ⟨g, j, none⟩ = some u := by
  rcases h.2 with ⟨_, e0⟩ | ⟨g, cap, cur, rfl, hg, hgb, hc1, hc2, hc3, hc4⟩
  · omega
  · refine ⟨g, cap, rfl, hg, (Array.getElem?_eq_some_iff.1 hgb).1, fun j u hj => ?_⟩
    rw [cell_row hgb, ← hj, ← hc4, List.getElem?_take]
    have hjl : j < n * size := by rw [← h.1]; exact (List.getElem?_eq_some_iff.1 hj).1
    rw [if_pos hjl]; simp
end Go.Proofs.YtaeobgajhieajaaGreatDoor.Dm


namespace Go.Proofs.YtaeobgajhieajaaGreatDoor.Dm
open Go.RowKit Go.Shelf

attribute [local go_sem] Oper.semAt_some

theorem row_set {W : World} {A : Nat} {cur : Array Value} {t : TypeId} (h : W.heap[A]? = some (.cells cur t (0, 0))) (q : Nat) (v : Value) : (W.setCell ⟨A, q, none⟩ v).heap[A]? = some (.cells (cur.setIfInBounds q v) t (0, 0)) := by
  obtain ⟨hlt, hk⟩ := Array.getElem?_eq_some_iff.1 h
  show (W.heap.modify A _)[A]? = _
  rw [Array.getElem?_eq_getElem (by rw [Array.size_modify]; exact hlt), Array.getElem_modify_self, hk]
  rfl
theorem own_set {W : World} {base e size n g cap j : Nat} {xs : List Value} (h : W.ownsRow base e size (.slice (some ⟨g, 0, none⟩) n cap) n xs) (v : Value) : (W.setCell ⟨g, j, none⟩ v).ownsRow base e size (.slice (some ⟨g, 0, none⟩) n cap) n (xs.set j v) := by
  refine ⟨by rw [List.length_set]; exact h.1, ?_⟩
  rcases h.2 with ⟨e1, _⟩ | ⟨g', cap', cur, e1, hg, hgb, h1, h2, h3, h4⟩
  · cases e1
  · have e' := e1
    injection e' with e2 _ e3; injection e2 with e2; injection e2 with e2; subst e2; subst e3
    exact .inr ⟨g, cap, _, rfl, hg, row_set hgb j v, h1, h2, by rw [Array.size_setIfInBounds]; exact h3, by rw [Array.toList_setIfInBounds, List.take_set, h4]⟩
theorem own_frozen {W : World} {base e size n g cap : Nat} {xs : List Value} (h : W.ownsRow base e size (.slice (some ⟨g, 0, none⟩) n cap) n xs) (j : Nat) : W.frozen? ⟨g, j, none⟩ = false := by
  rcases h.2 with ⟨e1, _⟩ | ⟨g', cap', cur, e1, hg, hgb, _⟩
  · cases e1
  · injection e1 with e2 _ e3; injection e2 with e2; injection e2 with e2; subst e2
    simp [World.frozen?, hgb]
theorem own_ge {W : World} {base e size n g cap : Nat} {xs : List Value} (h : W.ownsRow base e size (.slice (some ⟨g, 0, none⟩) n cap) n xs) : base ≤ g ∧ g < W.heap.size := by
  rcases h.2 with ⟨e1, _⟩ | ⟨g', cap', cur, e1, hg, hgb, _⟩
  · cases e1
  · injection e1 with e2 _ e3; injection e2 with e2; injection e2 with e2; subst e2
    exact ⟨hg, (Array.getElem?_eq_some_iff.1 hgb).1⟩
theorem flat_set (o : List Rg) (i : Nat) (v : Int) (hi' : i < o.length) : (flat o).set (i * 2 + 1) (.int .i64 v) = flat (o.set i (lo o i, v)) := by
  induction o generalizing i with
  | nil => simp at hi'
  | cons a t ih =>
    have e : ∀ (a : Rg) (t : List Rg), flat (a :: t) = .int .i64 a.1 :: .int .i64 a.2 :: flat t := fun a t => by simp [flat]
    cases i with
    | zero => rw [List.set_cons_zero, e, e]; simp [lo]
    | succ i =>
      rw [List.set_cons_succ, e, e, show (i + 1) * 2 + 1 = i * 2 + 1 + 1 + 1 by omega, List.set_cons_succ, List.set_cons_succ, ih i (by simpa using hi')]
      have : lo (a :: t) (i + 1) = lo t i := by simp [lo]
      rw [this]
theorem flat_snoc (o : List Rg) (v : Int) : flat (o ++ [(v, v)]) = flat o ++ [.int .i64 v, .int .i64 v] := by unfold flat; rw [List.flatMap_append]; rfl
theorem cell_two_new (w : World) (x y : Value) (t : TypeId) : ∀ j u, [x, y][j]? = some u → (w.alloc (.cells #[x, y] t)).cell? ((⟨w.heap.size, 0, none⟩ : Addr).add j) = some u := by
  intro j u hj
  have h := World.alloc_heap_new w (.cells #[x, y] t)
  rw [Addr.add_lit, Nat.zero_add, cell_row h]
  simpa using hj
theorem own_base {W : World} {base b' e size n : Nat} {s : Value} {xs : List Value} (h : W.ownsRow base e size s n xs) (hb : b' ≤ base) : W.ownsRow b' e size s n xs := by
  refine ⟨h.1, ?_⟩
  rcases h.2 with h | ⟨g, cap, cur, e1, hg, r⟩
  · exact .inl h
  · exact .inr ⟨g, cap, cur, e1, Nat.le_trans hb hg, r⟩
end Go.Proofs.YtaeobgajhieajaaGreatDoor.Dm


namespace Go.Proofs.YtaeobgajhieajaaGreatDoor.Dm
open Go.RowKit Go.Shelf

/-- Is v a value? -/
def inV (v : Int) : Bool := decide (-1000000 ≤ v ∧ v ≤ 1000000)
theorem inV_yes {v : Int} (h1 : -1000000 ≤ v) (h2 : v ≤ 1000000) : inV v = true := by unfold inV; simp; omega
theorem inV_no {v : Int} (h : ¬ (-1000000 ≤ v ∧ v ≤ 1000000)) : inV v = false := by unfold inV; exact decide_eq_false h
theorem own_sr {W : World} {base : Nat} {s : Value} {l : List Rg} (h : W.ownsRow base 161 2 s l.length (flat l)) (h0 : 0 < l.length) : Sr W s l := by
  obtain ⟨g, cap, rfl, _, hlt, hc⟩ := own_some h h0
  refine ⟨_, cap, rfl, fun _ => ⟨g, 0, rfl, hlt, fun i hi => ?_⟩⟩
  obtain ⟨d1, d2⟩ := flat_even l i hi
  exact ⟨by rw [Nat.zero_add]; exact hc _ _ d1, by rw [Nat.zero_add]; exact hc _ _ d2⟩
end Go.Proofs.YtaeobgajhieajaaGreatDoor.Dm


namespace Go.Proofs.YtaeobgajhieajaaGreatDoor.Dm
open Go.RowKit Go.Shelf

end Go.Proofs.YtaeobgajhieajaaGreatDoor.Dm


namespace Go.Proofs.YtaeobgajhieajaaGreatDoor.Dm
open Go.RowKit Go.Shelf
set_option linter.unusedVariables false

theorem flat_two (o : List Rg) (x y : Int) : flat (o ++ [(x, y)]) = flat o ++ [.int .i64 x, .int .i64 y] := by unfold flat; rw [List.flatMap_append]; rfl
theorem drop_cons (l : List Rg) (k : Nat) (hk : k < l.length) : l.drop k = (lo l k, hi l k) :: l.drop (k + 1) := by
  rw [List.drop_eq_getElem_cons hk, lo_get l k hk, hi_get l k hk]
theorem own_keepB {W W' : World} {base e size n : Nat} {s : Value} {xs : List Value} (h : W.ownsRow base e size s n xs) (hb : Below W.heap.size W W') : W'.ownsRow base e size s n xs :=
  ⟨h.1, by
    rcases h.2 with h2 | ⟨g, cap, cur, e1, hg, hgb, r⟩
    · exact .inl h2
    · exact .inr ⟨g, cap, cur, e1, hg, (hb.block g (Array.getElem?_eq_some_iff.1 hgb).1).trans hgb, r⟩⟩

end Go.Proofs.YtaeobgajhieajaaGreatDoor.Dm

