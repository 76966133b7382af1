/-
  What is proved here: slices.Concat of two slices of numbers; sets.merged, Join and Sym of any sets.
-/
import Derived.Test.YtmfjahmkoaijeaaDoorSc
import Derived.Sort.CutIn
import Derived.Shelf.SortG.Plain
import Derived.Lib.AppendZerosOnto
import Derived.Lib.OwnBridge
import Derived.Lib.AppendIntMem
namespace Go.Proofs.YtmfjahmkoaijeaaDoor
open Go.RowKit Go.Shelf
set_option linter.unusedVariables false
set_option linter.unusedSimpArgs false

theorem Tryd.info2 : (Tryd.prog.info? 2).map (fun i => (i.zero, i.size, i.bytes)) = some (some (.int .i64 0), 1, 8) := by kernel_rfl
def intv (l : List Int) : List Value := l.map (Value.int .i64)
theorem intv_app (a b : List Int) : intv (a ++ b) = intv a ++ intv b := by simp [intv]
theorem intv_len (a : List Int) : (intv a).length = a.length := by simp [intv]
theorem own_keepB {W W' : World} {base e size n : Nat} {s : Value} {xs : List Value} (h : W.ownsRow base e size s n xs) (hb : Below W.heap.size W W') : W'.ownsRow base e size s n xs :=
  ⟨h.1, by
    rcases h.2 with h2 | ⟨g, cap, cur, e1, hg, hgb, r⟩
    · exact .inl h2
    · exact .inr ⟨g, cap, cur, e1, hg, (hb.block _ (Array.getElem?_eq_some_iff.1 hgb).1).trans hgb, r⟩⟩
theorem own_si {W : World} {base : Nat} {s : Value} {l : List Int} (h : W.ownsRow base 2 1 s l.length (intv l)) : Si W s l := by
  rcases h.2 with ⟨e1, e2⟩ | ⟨g, cap, cur, e1, hg, hgb, hn, hm, hs, ht⟩
  · exact ⟨none, 0, by rw [e1, e2], fun h0 => by omega⟩
  · refine ⟨_, cap, e1, fun _ => ⟨g, 0, rfl, (Array.getElem?_eq_some_iff.1 hgb).1, fun i hi => ?_⟩⟩
    simp only [World.cell?, hgb]
    rw [if_neg (by simp), Nat.zero_add]
    have : (intv l)[i]? = some (.int .i64 (nth l i)) := by simp [intv, nth, hi]
    rw [← ht, List.getElem?_take, if_pos (by omega), Array.getElem?_toList] at this
    exact this

theorem run_app_none (w : World) (ty : TypeId) (base : Option Addr) (n c c' : Nat) (hle : n ≤ c) : (Builtin.append_ #[23, 23] ty #[.slice base n c, .slice none 0 c']).run Tryd.prog w = .ok (.slice base n c) w := by
  obtain ⟨i0, hi0, hz0, hz1, hz2⟩ := info_parts Tryd.info2
  have hf : (Builtin.firstCells i0.size 0 (.slice none 0 c')).run Tryd.prog w = .ok #[] w := by simp [Builtin.firstCells]
  cases base <;> simp [Builtin.append_, run_underlying Tryd.underlying23, sizeOf, typeInfo, hi0, Builtin.lenOf, hle, hf, storeCells]

theorem srcells {w : World} {b off : Nat} {l : List Int} (hcell : ∀ i, i < l.length → w.cell? ⟨b, off + i, none⟩ = some (.int .i64 (nth l i))) :
    ∀ j u, (intv l)[j]? = some u → w.cell? ((⟨b, off, none⟩ : Addr).add j) = some u := by
  intro j u hj
  rw [Addr.add_lit]
  have hjl : j < l.length := by have := (List.getElem?_eq_some_iff.1 hj).1; simpa [intv] using this
  rw [hcell j hjl, ← hj]
  simp [intv, nth, hjl]
theorem intv_one {l : List Int} : ∀ u ∈ intv l, u.oneCell' = true := by
  intro u hu
  unfold intv at hu
  obtain ⟨x, _, rfl⟩ := List.mem_map.1 hu
  rfl

/-- Appending a slice of ranges to an own row. -/
theorem wpList_app_sr (w : World) {ops : Array Oper} {rest : List Oper} {o : Oper} {a : Act} {Q : Exit → Act → World → Prop} (hgd : o.guard = none) (s x : Operand) (ho : o.op = .call { callee := .builtin .append, args := #[s, x], argTypes := #[23, 23] })
    (base : Nat) (v : Value) (m : Nat) (L : List Int) (hs : a.eval s = v) (hown : w.ownsRow base 2 1 v m (intv L)) (hm : m = L.length) (sx : Value) (l : List Int) (hx : a.eval x = sx) (hsx : Si w sx l) (hb : L.length + l.length ≤ 100000) (hbase : base ≤ w.heap.size)
    (h : ∀ v' w', w'.ownsRow base 2 1 v' (L.length + l.length) (intv (L ++ l)) → Below base w w' → wpList Tryd.prog ops Q rest (a.put o.dst v') w') : wpList Tryd.prog ops Q (o :: rest) a w := by
  subst hm
  obtain ⟨i0, hi0, hz0, hz1, hz2⟩ := info_parts Tryd.info2
  obtain ⟨ax, cx, rfl, hcx⟩ := hsx
  have hbel : ∀ w', w.grownBy w' v.ownBlock → Below base w w' := fun w' hg => (Below.refl _ w).grown hg hbase (fun k e => (World.ownsRow.lt hown k e).1)
  cases ax with
  | none =>
    have h0 : l.length = 0 := by
      apply Classical.byContradiction; intro hn
      obtain ⟨_, _, e, _⟩ := hcx (by omega)
      cases e
    obtain rfl := List.eq_nil_of_length_eq_zero h0
    obtain ⟨bv, nv, cv, rfl, hle, hnv⟩ : ∃ b n c, v = .slice b n c ∧ n ≤ c ∧ n = L.length := by
      rcases hown.2 with ⟨e1, e2⟩ | ⟨q1, q2, q3, e, _, _, hq, _⟩
      · exact ⟨none, 0, 0, e1, Nat.le_refl _, e2.symm⟩
      · exact ⟨_, _, _, e, hq, rfl⟩
    refine Lib.wpList_append_run w hgd s x 23 23 ho _ _ hs hx _ _ (run_app_none w _ bv nv cv cx hle) (h _ _ ?_ (Below.refl _ _))
    simpa using hown
  | some ad =>
    rcases Nat.eq_zero_or_pos l.length with h0 | h0
    · obtain rfl := List.eq_nil_of_length_eq_zero h0
      refine wpList_append_own _ hgd s x 23 ho base 2 i0 (.int .i64 0) 1 8 Tryd.underlying23 hi0 hz0 hz1 hz2 rfl (by decide) _ _ _ hs hown ad 0 cx [] hx rfl (fun j u h => by simp at h) (fun u h => by simp at h) (by unfold maxLen; simp at hb; omega) (by simp at hb; omega) hbase ?_
      intro v' w' h1 h2 _
      exact h v' w' (by simpa using h1) (hbel w' h2)
    · obtain ⟨b, off, e, hlt, hcell⟩ := hcx h0
      injection e with e
      subst e
      refine wpList_append_own _ hgd s x 23 ho base 2 i0 (.int .i64 0) 1 8 Tryd.underlying23 hi0 hz0 hz1 hz2 rfl (by decide) _ _ _ hs hown ⟨b, off, none⟩ l.length cx (intv l) hx (by simp [intv]) (srcells hcell) intv_one (by unfold maxLen; omega) (by omega) hbase ?_
      intro v' w' h1 h2 _
      exact h v' w' (by rw [intv_app]; exact h1) (hbel w' h2)

/-- Two lists, told up to k of them. -/
def upTo2 (la lb : List Int) (k : Nat) : List Int := if k = 0 then [] else if k = 1 then la else la ++ lb
theorem own_base {W : World} {base b' e size n : Nat} {s : Value} {xs : List Value} (h : W.ownsRow base e size s n xs) (hb : b' ≤ base) : W.ownsRow b' e size s n xs := by
  refine ⟨h.1, ?_⟩
  rcases h.2 with h | ⟨g, cap, cur, e1, hg, r⟩
  · exact .inl h
  · exact .inr ⟨g, cap, cur, e1, Nat.le_trans hb hg, r⟩
theorem below_growP {B : Nat} {W w : World} (h : Below B W w) (os : Array Obj) (hB : B ≤ w.heap.size) : Below B W (Sort.grow w os) :=
  ⟨h.os, h.tape, h.output, by show W.heap.size ≤ (w.heap ++ os).size; rw [Array.size_append]; have := h.size; omega, fun k hk => by
    rw [← h.block k hk]
    show (w.heap ++ os)[k]? = w.heap[k]?
    rw [Array.getElem?_append_left (by omega)]⟩
def sortL (l : List Int) : List Int := l.mergeSort fun x y => decide (x ≤ y)
theorem sortL_len (l : List Int) : (sortL l).length = l.length := by simp [sortL]
theorem lessL_le (a b : List Int) : (lessL a b).length ≤ a.length := List.length_filter_le _ _
/-- Those of one of both; of just one. -/
def joinL (a b : List Int) : List Int := sortL (a ++ lessL b a)
def symL (a b : List Int) : List Int := sortL (lessL a b ++ lessL b a)

end Go.Proofs.YtmfjahmkoaijeaaDoor

