/-
  What is proved here: The reference: outputs of one's own, with what they hold.
  What is proved here: The reference: values of outputs.
  What is proved here: The reference tells that outputs are the same as themselves.
-/
import Derived.Test.YtdnhhmnllhlbbaaGreatDoorQg
import Derived.Test.YtdnhhmnllhlbbaaGreatDoorOe
import Derived.Test.YtdnhhmnllhlbbaaGreatDoorQfj
namespace Go.Proofs.YtdnhhmnllhlbbaaGreatDoor
open Go.RowKit Go.Shelf
set_option linter.unusedVariables false
set_option linter.unusedSimpArgs false
theorem tcells_get : ∀ (l : List Tm) (svl : List Value), svl.length = l.length → ∀ i t sv, l[i]? = some t → svl[i]? = some sv → ∀ r, r < 4 → (tcells l svl)[i * 4 + r]? = (t.cells sv)[r]?
  | [], _, _, i, t, sv, h1, _, r, _ => by simp at h1
  | t' :: l, [], h, _, _, _, _, _, _, _ => by simp at h
  | t' :: l, sv' :: svl, h, 0, t, sv, h1, h2, r, hr => by
    simp at h1 h2; subst h1; subst h2
    rw [tcells, List.getElem?_append_left (by simp [Tm.cells]; omega)]; simp
  | t' :: l, sv' :: svl, h, i + 1, t, sv, h1, h2, r, hr => by
    have e : (i + 1) * 4 + r = i * 4 + r + 4 := by omega
    rw [tcells, e, List.getElem?_append_right (by simp [Tm.cells]), show (t'.cells sv').length = 4 from rfl, Nat.add_sub_cancel]
    exact tcells_get l svl (by simpa using h) i t sv (by simpa using h1) (by simpa using h2) r hr
theorem own_cell {w : World} {B e size n : Nat} {v : Value} {xs : List Value} (h : w.ownsRow B e size v n xs) {j : Nat} {u : Value} (hu : xs[j]? = some u) : ∃ g cap cur, v = .slice (some ⟨g, 0, none⟩) n cap ∧ B ≤ g ∧ Blk w g cur e ∧ n ≤ cap ∧ cap ≤ maxLen ∧ w.cell? ⟨g, j, none⟩ = some u := by
  have hj := (List.getElem?_eq_some_iff.1 hu).1
  rcases h.2 with ⟨e1, e2⟩ | ⟨g, cap, cur, e1, hg, hgb, hn, hm, hs, ht⟩
  · rw [h.1, e2] at hj; simp at hj
  · refine ⟨g, cap, cur, e1, hg, ⟨hgb⟩, hn, hm, ?_⟩
    rw [cell_row hgb]
    rw [← ht, List.getElem?_take] at hu
    split at hu
    · rwa [Array.getElem?_toList] at hu
    · cases hu
theorem own_caps {w : World} {B e size n : Nat} {p : Option Addr} {c : Nat} {xs : List Value} (h : w.ownsRow B e size (.slice p n c) n xs) : n ≤ c ∧ c ≤ 9223372036854775807 := by
  rcases h.2 with ⟨e1, e2⟩ | ⟨g, cap, cur, e1, hg, hgb, hn, hm, hs, ht⟩
  · injection e1 with _ _ e3
    omega
  · injection e1 with _ _ e3
    subst e3
    unfold maxLen at hm
    exact ⟨hn, by omega⟩
theorem lo_st {B H : Nat} {w : World} {s : Value} {l : List Tm} (h : Lo B H w s l) : St B w s l := by
  obtain ⟨tvl, h1, h2, h3, h4⟩ := h
  obtain ⟨p, c, rfl⟩ := own_shape h3
  refine ⟨p, c, rfl, fun h0 => ?_⟩
  rcases h3.2 with ⟨e1, e2⟩ | ⟨g, cap, cur, e1, hg, hgb, _⟩
  · omega
  · injection e1 with e1 _ _
    refine ⟨g, 0, tvl, e1, hg, (Array.getElem?_eq_some_iff.1 hgb).1, h1, fun i t sv a b => ⟨own_si (h2 i t sv a b), fun r u hu => ?_⟩⟩
    have hr : r < 4 := by have := (List.getElem?_eq_some_iff.1 hu).1; simpa [Tm.cells] using this
    obtain ⟨g', cap', cur', e2, _, _, _, _, hc⟩ := own_cell h3 ((tcells_get l tvl h1 i t sv a b r hr).trans hu)
    rw [e1] at e2
    injection e2 with e2 _ _
    injection e2 with e2
    injection e2 with e2 _ _
    subst e2
    rw [Nat.zero_add]
    exact hc
theorem acells_get : ∀ (l : List Ag) (svl : List Value), svl.length = l.length → ∀ i g sv, l[i]? = some g → svl[i]? = some sv → (acells l svl)[i * 2]? = some (.bool g.arr) ∧ (acells l svl)[i * 2 + 1]? = some sv
  | [], _, _, i, t, sv, h1, _ => by simp at h1
  | t' :: l, [], h, _, _, _, _, _ => by simp at h
  | t' :: l, sv' :: svl, h, 0, t, sv, h1, h2 => by
    simp at h1 h2; subst h1; subst h2
    exact ⟨rfl, rfl⟩
  | t' :: l, sv' :: svl, h, i + 1, t, sv, h1, h2 => by
    have e : (i + 1) * 2 = i * 2 + 1 + 1 := by omega
    have := acells_get l svl (by simpa using h) i t sv (by simpa using h1) (by simpa using h2)
    rw [acells, e]
    simpa using this
theorem ao_sa {B : Nat} {w : World} {s : Value} {l : List Ag} (h : Ao B w s l) : Sa B w s l ∧ ∃ p c, s = .slice p l.length c ∧ l.length ≤ c ∧ c ≤ 9223372036854775807 := by
  obtain ⟨svl, bnd, h1, h2, h3, h4, h5⟩ := h
  obtain ⟨p, c, rfl⟩ := own_shape h5
  refine ⟨⟨p, c, rfl, fun h0 => ?_⟩, p, c, rfl, own_caps h5⟩
  rcases h5.2 with ⟨e1, e2⟩ | ⟨g, cap, cur, e1, hg, hgb, _⟩
  · omega
  · injection e1 with e1 _ _
    subst e1
    refine ⟨g, 0, svl, rfl, hg, (Array.getElem?_eq_some_iff.1 hgb).1, h1, fun i t sv a b => ?_⟩
    obtain ⟨a1, a2⟩ := acells_get l svl h1 i t sv a b
    obtain ⟨g1, _, _, e2, _, _, _, _, hc1⟩ := own_cell h5 a1
    obtain ⟨g2, _, _, e3, _, _, _, _, hc2⟩ := own_cell h5 a2
    injection e2 with e2 _ _
    injection e2 with e2
    injection e2 with e2 _ _
    injection e3 with e3 _ _
    injection e3 with e3
    injection e3 with e3 _ _
    subst e2
    subst e3
    rw [Nat.zero_add]
    exact ⟨(lo_st (h4 i t sv a b)).lower (h2 i).1, hc1, hc2⟩

/-- What P says holds in each world that keeps all blocks of w but one. -/
def Dx (o : Option Nat) (w : World) (P : World → Prop) : Prop := ∀ w', w.heap.size ≤ w'.heap.size → (∀ b, b < w.heap.size → o ≠ some b → w'.heap[b]? = w.heap[b]?) → P w'
theorem Dx.step {o o' : Option Nat} {w w' : World} {P : World → Prop} (h : Dx o w P) (hs : w.heap.size ≤ w'.heap.size) (hb : ∀ b, b < w.heap.size → o ≠ some b → w'.heap[b]? = w.heap[b]?) (ho : ∀ b, b < w.heap.size → o' = some b → o = some b) : Dx o' w' P := fun w2 h2 h3 =>
  h w2 (Nat.le_trans hs h2) fun b hbl hn => (h3 b (Nat.lt_of_lt_of_le hbl hs) (fun e => hn (ho b hbl e))).trans (hb b hbl hn)
theorem Dx.below {o : Option Nat} {w w' : World} {P : World → Prop} (h : Dx o w P) (hb : Below w.heap.size w w') : Dx o w' P := h.step hb.size (fun b hbl _ => hb.block b hbl) (fun _ _ e => e)
theorem Dx.grow {o o' : Option Nat} {w w' : World} {P : World → Prop} (h : Dx o w P) (hg : w.grownBy w' o) (hn : ∀ b, o' = some b → o = some b ∨ w.heap.size ≤ b) : Dx o' w' P := h.step hg.size (fun b hbl hne => hg.block b hbl (fun e => hne e.symm)) (fun b hbl e => (hn b e).elim id (fun q => by omega))
theorem Dx.here {o : Option Nat} {w : World} {P : World → Prop} (h : Dx o w P) : P w := h w (Nat.le_refl _) (fun _ _ _ => rfl)
theorem Si.keepB {B : Nat} {w w' : World} {s : Value} {l : List Int} (h : Si B w s l) (hs : w.heap.size ≤ w'.heap.size) (hb : ∀ b, B ≤ b → b < w.heap.size → w'.heap[b]? = w.heap[b]?) : Si B w' s l := by
  obtain ⟨a, c, e, h⟩ := h
  refine ⟨a, c, e, fun h0 => ?_⟩
  obtain ⟨b, off, e1, e0, e2, e3⟩ := h h0
  exact ⟨b, off, e1, e0, Nat.lt_of_lt_of_le e2 hs, fun i x hx => (World.cell?_of_block (a := ⟨b, off + i, none⟩) (hb b e0 e2)).trans (e3 i x hx)⟩
theorem St.keepB {B : Nat} {w w' : World} {s : Value} {l : List Tm} (h : St B w s l) (hs : w.heap.size ≤ w'.heap.size) (hb : ∀ b, B ≤ b → b < w.heap.size → w'.heap[b]? = w.heap[b]?) : St B w' s l := by
  obtain ⟨a, c, e, h⟩ := h
  refine ⟨a, c, e, fun h0 => ?_⟩
  obtain ⟨b, off, svl, e1, e0, e2, e3, e4⟩ := h h0
  exact ⟨b, off, svl, e1, e0, Nat.lt_of_lt_of_le e2 hs, e3, fun i t sv p q => ⟨(e4 i t sv p q).1.keepB hs hb, fun r u hu => (World.cell?_of_block (a := ⟨b, off + i * 4 + r, none⟩) (hb b e0 e2)).trans ((e4 i t sv p q).2 r u hu)⟩⟩
def rowsR (l : List (Int × Int)) : List (List Value) := l.map fun x => [.int .i64 x.1, .int .i64 x.2]
theorem rowsR_len (l : List (Int × Int)) : (rowsR l).length = l.length := by simp [rowsR]
theorem rowsR_two (l : List (Int × Int)) : ∀ c ∈ rowsR l, c.length = 2 := by
  intro c hc
  simp only [rowsR, List.mem_map] at hc
  obtain ⟨x, _, rfl⟩ := hc
  rfl
theorem rowsR_flen (l : List (Int × Int)) : (rowsR l).flatten.length = l.length * 2 := by rw [flat_len (rowsR_two l), rowsR_len]
theorem rowsR_cells {W : World} {b off : Nat} {l : List (Int × Int)} (h : ∀ i x, l[i]? = some x → W.cell? ⟨b, off + i * 2, none⟩ = some (.int .i64 x.1) ∧ W.cell? ⟨b, off + i * 2 + 1, none⟩ = some (.int .i64 x.2)) : ∀ j u, (rowsR l).flatten[j]? = some u → W.cell? ⟨b, off + j, none⟩ = some u := by
  intro j u hu
  have e : j = j / 2 * 2 + j % 2 := by omega
  rw [e, flat_get (rowsR_two l) (j / 2) (j % 2) (Nat.mod_lt _ (by decide))] at hu
  rw [e, ← Nat.add_assoc]
  rcases Option.bind_eq_some_iff.1 hu with ⟨c, h1, h2⟩
  simp only [rowsR, List.getElem?_map, Option.map_eq_some_iff] at h1
  obtain ⟨x, hx, rfl⟩ := h1
  have h3 : j % 2 = 0 ∨ j % 2 = 1 := by omega
  rcases h3 with h3 | h3 <;> rw [h3] at h2 ⊢
  · simp at h2; subst h2; exact (h _ x hx).1
  · simp at h2; subst h2; exact (h _ x hx).2
theorem rowsR_one (l : List (Int × Int)) : ∀ u ∈ (rowsR l).flatten, u.oneCell' = true := by
  intro u hu
  simp only [rowsR, List.mem_flatten, List.mem_map] at hu
  obtain ⟨c, ⟨x, _, rfl⟩, h⟩ := hu
  simp at h
  rcases h with rfl | rfl <;> rfl
/-- Ranges in own memory are ranges, whatever becomes of other blocks. -/
theorem own_rgs {w w' : World} {B : Nat} {s : Value} {l : List (Int × Int)} (h : w.ownsRow B 84 2 s l.length (rowsR l).flatten) (hs : w.heap.size ≤ w'.heap.size) (hb : ∀ b, B ≤ b → b < w.heap.size → w'.heap[b]? = w.heap[b]?) : Rgs w' s l := by
  obtain ⟨p, c, rfl⟩ := own_shape h
  refine ⟨p, c, rfl, fun h0 => ?_⟩
  rcases h.2 with ⟨e1, e2⟩ | ⟨g, cap, cur, e1, hg, hgb, _⟩
  · omega
  · injection e1 with e1 _ _
    have hlt := (Array.getElem?_eq_some_iff.1 hgb).1
    refine ⟨g, 0, e1, Nat.lt_of_lt_of_le hlt hs, fun i x hx => ?_⟩
    have hc : ∀ j u, j < 2 → ([Value.int .i64 x.1, Value.int .i64 x.2] : List Value)[j]? = some u → w'.cell? ⟨g, 0 + i * 2 + j, none⟩ = some u := by
      intro j u hj hu
      have hf : (rowsR l).flatten[i * 2 + j]? = some u := by
        rw [flat_get (rowsR_two l) i j hj]
        simp only [rowsR, List.getElem?_map, hx, Option.map_some, Option.bind_some]
        exact hu
      obtain ⟨g', cap', cur', e2, _, _, _, _, hcc⟩ := own_cell h hf
      rw [e1] at e2
      injection e2 with e2 _ _
      injection e2 with e2
      injection e2 with e2 _ _
      subst e2
      rw [Nat.zero_add]
      exact (World.cell?_of_block (a := ⟨g, i * 2 + j, none⟩) (hb g hg hlt)).trans hcc
    exact ⟨hc 0 _ (by decide) rfl, hc 1 _ (by decide) rfl⟩
theorem run_app_none50 (w : World) (ty : TypeId) (c' : Nat) : (Builtin.append_ #[50, 50] ty #[.slice none 0 0, .slice none 0 c']).run Tryz.prog w = .ok (.slice none 0 0) w := by
  obtain ⟨i0, hi0, hz0, hz1, hz2⟩ := info_parts info84L
  have hf : (Builtin.firstCells i0.size 0 (.slice none 0 c')).run Tryz.prog w = .ok #[] w := by simp [Builtin.firstCells]
  simp [Builtin.append_, run_underlying Tryz.underlying50, sizeOf, typeInfo, hi0, Builtin.lenOf, hf, storeCells]
/-- Appending ranges to none, as one step of a region. -/
theorem step_app_r (w : World) {ops : Array Oper} {o : Oper} {a : Act} {K : Act → World → Prop} {Q : Exit → Act → World → Prop} {E : Prop} (hgd : o.guard = none) (s x : Operand) (ho : o.op = .call { callee := .builtin .append, args := #[s, x], argTypes := #[50, 50] })
    (hs : a.eval s = .slice none 0 0) (sx : Value) (l : List (Int × Int)) (hx : a.eval x = sx) (hsx : Rgs w sx l) (hb : l.length * 16 ≤ 140737488351232)
    (h : ∀ v' w', w'.ownsRow w.heap.size 84 2 v' l.length (rowsR l).flatten → Below w.heap.size w w' → K (a.put o.dst v') w') : if Region.wanted o (yielded ops a.tmps) = true then Oper.wp Tryz.prog o a w K Q else E := by
  have hw : Region.wanted o (yielded ops a.tmps) = true := by simp [Region.wanted, hgd]
  rw [if_pos hw]
  obtain ⟨i0, hi0, hz0, hz1, hz2⟩ := info_parts info84L
  obtain ⟨ax, cx, rfl, hcx⟩ := hsx
  have hown : w.ownsRow w.heap.size 84 2 (.slice none 0 0) 0 [] := World.ownsRow_nil _ _ _ _
  have hbel : ∀ w', w.grownBy w' (Value.slice none 0 0).ownBlock → Below w.heap.size w w' := fun w' hg => (Below.refl _ w).grown hg (Nat.le_refl _) (fun k e => by cases e)
  cases ax with
  | none =>
    have h0 : l.length = 0 := by
      apply Classical.byContradiction; intro hn
      obtain ⟨_, _, e, _⟩ := hcx (by omega)
      cases e
    obtain rfl := List.eq_nil_of_length_eq_zero h0
    have hr := run_app_none50 w o.type cx
    unfold Oper.wp execOp
    simp only [ho, resolve, invoke, builtin, Sem.run_bind, Sem.run_pure, Result.andThen_ok, List.map_toArray, List.map_cons, List.map_nil, hs, hx, hr, List.length_nil]
    exact h _ _ hown (Below.refl _ _)
  | some ad =>
    rcases Nat.eq_zero_or_pos l.length with h0 | h0
    · obtain rfl := List.eq_nil_of_length_eq_zero h0
      refine wp_append_own w s x 50 ho w.heap.size 84 i0 (.agg #[.int .i64 0, .int .i64 0]) 2 16 Tryz.underlying50 hi0 hz0 hz1 hz2 rfl (by decide) _ _ _ hs hown ad 0 cx [] hx rfl (fun j u h => by simp at h) (fun u h => by simp at h) (by unfold maxLen; omega) (by omega) (Nat.le_refl _) ?_
      intro v' w' h1 h2 _
      exact h v' w' (by simpa [rowsR] using h1) (hbel w' h2)
    · obtain ⟨b, off, e, hlt, hcell⟩ := hcx h0
      injection e with e
      subst e
      refine wp_append_own w s x 50 ho w.heap.size 84 i0 (.agg #[.int .i64 0, .int .i64 0]) 2 16 Tryz.underlying50 hi0 hz0 hz1 hz2 rfl (by decide) _ _ _ hs hown ⟨b, off, none⟩ l.length cx (rowsR l).flatten hx (rowsR_flen l) (fun j u hj => by rw [Addr.add_lit]; exact rowsR_cells hcell j u hj) (rowsR_one l) (by unfold maxLen; omega) (by omega) (Nat.le_refl _) ?_
      intro v' w' h1 h2 _
      exact h v' w' (by simpa using h1) (hbel w' h2)
end Go.Proofs.YtdnhhmnllhlbbaaGreatDoor

namespace Go.Proofs.YtdnhhmnllhlbbaaGreatDoor
open Go.RowKit Go.Shelf
set_option linter.unusedVariables false
set_option linter.unusedSimpArgs false
set_option maxRecDepth 100000 in
set_option maxHeartbeats 4000000 in
theorem rof33b_c {W0 W : World} (ts : Bool) (tn : Int) (a8 a7 : Option Addr) (c8 sn n7 c7 : Nat) (l : List Int) (hs : Si 0 W0 (.slice a8 sn c8) l) (hl : l.length ≤ 17592186043904) : Calls Tryz.prog 33 #[.agg #[.int .i64 (-1), .bool ts, .int .i64 tn, .slice a8 sn c8], .slice a7 n7 c7] W fun e w' => ∃ a9 c9, e = .returned (.tuple #[.agg #[.bool ts, .int .i64 tn, .slice a9 sn c9], .int .i64 0]) ∧ Si 0 W0 (.slice a9 sn c9) l ∧ Below W.heap.size W w' := by
  have HS : Hid (Si 0 W0 (.slice a8 sn c8) l) := hs
  clear hs
  go_enter Tryz.func33, Tryz.ntmps33
  go_wp2
  exact ⟨rfl, _, res_val rfl _ _ (W.heap.size + 1) rfl rfl (Blk.new2 W _ _ _), a8, c8, rfl, HS.out, ((Below.refl _ W).alloc (Nat.le_refl _) _).alloc (by simp) _⟩
set_option maxRecDepth 100000 in
set_option maxHeartbeats 4000000 in
theorem rof33b_n {W0 W : World} (tv : Int) (ts : Bool) (tn : Int) (a8 a7 : Option Addr) (c8 sn n7 c7 : Nat) (h1 : tv ≠ -1) (h2 : tv < 0 ∨ (n7 : Int) ≤ tv) : Calls Tryz.prog 33 #[.agg #[.int .i64 tv, .bool ts, .int .i64 tn, .slice a8 sn c8], .slice a7 n7 c7] W fun e w' => ∃ a9 c9, e = .returned (.tuple #[.agg #[.bool false, .int .i64 0, .slice a9 0 c9], .int .i64 1]) ∧ Si 0 W0 (.slice a9 0 c9) [] ∧ Below W.heap.size W w' := by
  have hz : Hid (Si 0 W0 (.slice none 0 0) []) := ⟨none, 0, rfl, fun h => absurd h (by simp)⟩
  have hd1 : (tv == -1) = false := by simpa using h1
  by_cases h3 : tv < 0
  · go_enter Tryz.func33, Tryz.ntmps33
    go_wp2
    exact ⟨rfl, _, res_val rfl _ _ (W.heap.size + 1) rfl rfl (Blk.new2 W _ _ _), none, 0, rfl, hz.out, ((Below.refl _ W).alloc (Nat.le_refl _) _).alloc (by simp) _⟩
  · have h4 : (n7 : Int) ≤ tv := by omega
    have h5 : ¬ tv < n7 := by omega
    go_enter Tryz.func33, Tryz.ntmps33
    go_wp2
    exact ⟨rfl, _, res_val rfl _ _ (W.heap.size + 1) rfl rfl (Blk.new2 W _ _ _), none, 0, rfl, hz.out, ((Below.refl _ W).alloc (Nat.le_refl _) _).alloc (by simp) _⟩
set_option maxRecDepth 100000 in
set_option maxHeartbeats 4000000 in
theorem rof33b_v {W0 W : World} (k : Nat) (ts : Bool) (tn : Int) (a8 : Option Addr) (b off : Nat) (c8 sn n7 c7 : Nat) (hk : k < n7) (hn : n7 ≤ 17592186043904) (st : Bool) (m : Int) (l : List Int) (a6 : Option Addr) (n6 c6 : Nat) (hb : b < W.heap.size) (x0 : W.cell? ⟨b, off + k * 3, none⟩ = some (.bool st)) (x1 : W.cell? ⟨b, off + k * 3 + 1, none⟩ = some (.int .i64 m)) (x2 : W.cell? ⟨b, off + k * 3 + 2, none⟩ = some (.slice a6 n6 c6)) (hs : Si 0 W0 (.slice a6 n6 c6) l) (hl : l.length ≤ 17592186043904) : Calls Tryz.prog 33 #[.agg #[.int .i64 k, .bool ts, .int .i64 tn, .slice a8 sn c8], .slice (some ⟨b, off, none⟩) n7 c7] W fun e w' => ∃ a9 c9, e = .returned (.tuple #[.agg #[.bool st, .int .i64 m, .slice a9 n6 c9], .int .i64 0]) ∧ Si 0 W0 (.slice a9 n6 c9) l ∧ Below W.heap.size W w' := by
  have HS : Hid (Si 0 W0 (.slice a6 n6 c6) l) := hs
  have h1 : ((k : Int) == -1) = false := beq_eq_false_iff_ne.2 (by omega)
  have h2 : ¬ (k : Int) < 0 := by omega
  have h3 : (k : Int) < n7 := by omega
  have h4 : ¬ (n7 : Int) ≤ k := by omega
  have hbA : Below W.heap.size W ((W.alloc (Obj.cells #[.int .i64 k, .bool ts, .int .i64 tn, .slice a8 sn c8] 67)).alloc (Obj.cells #[.bool false, .int .i64 0, .slice none 0 0] 36)) := ((Below.refl _ W).alloc (Nat.le_refl _) _).alloc (by simp) _
  have y0 := (hbA.cell (p := ⟨b, off + k * 3, none⟩) hb).trans x0
  have y1 := (hbA.cell (p := ⟨b, off + k * 3 + 1, none⟩) hb).trans x1
  have y2 := (hbA.cell (p := ⟨b, off + k * 3 + 2, none⟩) hb).trans x2
  have hne : b ≠ W.heap.size + 1 := by omega
  have hne2 : b ≠ W.heap.size := by omega
  clear hs hb
  clear hbA
  go_enter Tryz.func33, Tryz.ntmps33
  go_wp2
  exact ⟨rfl, _, res_val rfl _ _ (W.heap.size + 1) rfl rfl (Blk.new2 W _ _ _), a6, c6, rfl, HS.out, ((Below.refl _ W).alloc (Nat.le_refl _) _).alloc (by simp) _⟩
theorem rof33b {W0 W : World} (hb0 : Below W0.heap.size W0 W) {sv vs : Value} (t : Tm) (vals : List Vl) (hs : Si 0 W0 sv t.s) (hv : Sv W0 vs vals) (hl : t.s.length ≤ 17592186043904) (hL : ∀ v ∈ vals, v.s.length ≤ 17592186043904) (hn : vals.length ≤ 17592186043904) : Calls Tryz.prog 33 #[.agg #[.int .i64 t.v, .bool t.set, .int .i64 t.n, sv], vs] W fun e w' => ∃ a9 c9, e = .returned (.tuple #[.agg #[.bool (ofV t vals).1.set, .int .i64 (ofV t vals).1.n, .slice a9 (ofV t vals).1.s.length c9], .int .i64 (ofV t vals).2]) ∧ Si 0 W0 (.slice a9 (ofV t vals).1.s.length c9) (ofV t vals).1.s ∧ Below W.heap.size W w' := by
  have HV := hv
  obtain ⟨a8, c8, rfl, hs'⟩ := hs
  obtain ⟨a7, c7, rfl, hv'⟩ := hv
  by_cases h1 : t.v = -1
  · rw [show ofV t vals = (⟨t.set, t.n, t.s⟩, 0) by simp [ofV, h1], h1]
    exact rof33b_c t.set t.n a8 a7 c8 t.s.length vals.length c7 t.s ⟨a8, c8, rfl, hs'⟩ hl
  · by_cases h2 : t.v < 0 ∨ (vals.length : Int) ≤ t.v
    · have e : ofV t vals = (⟨false, 0, []⟩, 1) := by
        unfold ofV
        rw [if_neg h1]
        by_cases h3 : t.v < 0
        · rw [if_pos h3]
        · rw [if_neg h3, List.getElem?_eq_none (by omega)]
      rw [e]
      exact rof33b_n t.v t.set t.n a8 a7 c8 t.s.length vals.length c7 h1 h2
    · have hk : t.v.toNat < vals.length := by omega
      have hcast : ((t.v.toNat : Nat) : Int) = t.v := by omega
      have hn0 : ¬ t.v < 0 := by omega
      obtain ⟨v, hv1⟩ : ∃ v, vals[t.v.toNat]? = some v := ⟨_, List.getElem?_eq_getElem hk⟩
      have e : ofV t vals = (v, 0) := by
        unfold ofV
        rw [if_neg h1, if_neg hn0, hv1]
      obtain ⟨b, off, a', c', rfl, hb, g1, g2, g3, g4⟩ := HV.at hv1
      rw [e]
      have h9 := rof33b_v t.v.toNat t.set t.n a8 b off c8 t.s.length vals.length c7 hk hn v.set v.n v.s a' v.s.length c' (Nat.lt_of_lt_of_le hb hb0.size) ((hb0.cell (p := ⟨b, off + t.v.toNat * 3, none⟩) hb).trans g2) ((hb0.cell (p := ⟨b, off + t.v.toNat * 3 + 1, none⟩) hb).trans g3) ((hb0.cell (p := ⟨b, off + t.v.toNat * 3 + 2, none⟩) hb).trans g4) g1 (hL v (List.mem_of_getElem? hv1))
      rw [hcast] at h9
      exact h9
theorem ofV_ok {t : Tm} {vals : List Vl} (h : -1 ≤ t.v) : ofV t vals = ((voV t vals).1, if (voV t vals).2 then 0 else 1) := by
  unfold ofV voV
  by_cases h1 : t.v = -1
  · rw [if_pos h1, if_pos h1]; rfl
  · rw [if_neg h1, if_neg h1, if_neg (by omega)]
    cases vals[t.v.toNat]? <;> rfl
/-- Values in own memory, whose numbers lie in older memory. -/
theorem ow_svx {W w w' : World} {B : Nat} {s : Value} {rows : List (List Value)} {x : List Vl} (h : Ow w 36 s 3 rows) (hl : rows.length = x.length) (hr : ∀ (j : Nat) (v : Vl) (c : List Value), x[j]? = some v → rows[j]? = some c → ∃ sv, c = [.bool v.set, .int .i64 v.n, sv] ∧ Si 0 W sv v.s)
    (hs : w.heap.size ≤ w'.heap.size) (hs0 : W.heap.size ≤ w'.heap.size) (hb : ∀ b, s.ownBlock = some b → w'.heap[b]? = w.heap[b]?) (h0 : ∀ b, b < W.heap.size → w'.heap[b]? = W.heap[b]?) : SvX (fun b => b < 0) w' s x := by
  obtain ⟨a, c, rfl, _, _⟩ := h.shape
  refine ⟨a, c, by rw [hl], fun hx0 => ?_⟩
  have hrow : ∀ (i : Nat) (v : Vl), x[i]? = some v → ∃ sv, rows[i]? = some [.bool v.set, .int .i64 v.n, sv] ∧ Si 0 W sv v.s := fun i v hv => by
    obtain ⟨r, hr1⟩ : ∃ r, rows[i]? = some r := ⟨_, List.getElem?_eq_getElem (by rw [hl]; exact (List.getElem?_eq_some_iff.1 hv).1)⟩
    obtain ⟨sv, e2, h3⟩ := hr i v r hv hr1
    exact ⟨sv, by rw [hr1, e2], h3⟩
  obtain ⟨v0, hv0⟩ : ∃ o, x[0]? = some o := ⟨_, List.getElem?_eq_getElem hx0⟩
  obtain ⟨sv0, hr0, _⟩ := hrow 0 v0 hv0
  obtain ⟨g, cap, e2, hg, _⟩ := h.at hr0
  injection e2 with e2 _ _
  subst e2
  refine ⟨g, 0, rfl, Nat.lt_of_lt_of_le hg hs, fun q => absurd q (Nat.not_lt_zero _), fun i v hv => ?_⟩
  obtain ⟨sv, hr1, hsi⟩ := hrow i v hv
  obtain ⟨g', cap', e3, _, _, _, hra, _⟩ := h.at hr1
  injection e3 with e3 _ _
  injection e3 with e3
  injection e3 with e3 _ _
  subst e3
  have hc : ∀ o, w'.cell? ⟨g, o, none⟩ = w.cell? ⟨g, o, none⟩ := fun o => World.cell?_of_block (a := ⟨g, o, none⟩) (hb g rfl)
  rw [Nat.zero_add]
  refine ⟨sv, ?_, (hc _).trans (hra 0 _ rfl), (hc _).trans (hra 1 _ rfl), (hc _).trans (hra 2 _ rfl)⟩
  obtain ⟨a2, c2, e4, h4⟩ := hsi
  refine ⟨a2, c2, e4, fun q => ?_⟩
  obtain ⟨b, off, f1, _, f2, f3⟩ := h4 q
  exact ⟨b, off, f1, Nat.lt_of_lt_of_le f2 hs0, fun q => absurd q (Nat.not_lt_zero _), fun i y hy => (World.cell?_of_block (a := ⟨b, off + i, none⟩) (h0 b f2)).trans (f3 i y hy)⟩
/-- Lists of values in own memory. -/
theorem ow_svvx {w : World} {s : Value} {ss : List Value} {xs : List (List Vl)} (h : Ow w 23 s 1 (ss.map fun x => [x])) (hl : ss.length = xs.length) (hr : ∀ (j : Nat) (x : List Vl) (sj : Value), xs[j]? = some x → ss[j]? = some sj → SvX (fun b => b < 0) w sj x) : SvvX (fun b => b < 0) w s xs := by
  obtain ⟨a, c, rfl, _, _⟩ := h.shape
  refine ⟨a, c, by rw [List.length_map, hl], fun hx0 => ?_⟩
  obtain ⟨c0, hc0⟩ : ∃ c0, ss[0]? = some c0 := ⟨_, List.getElem?_eq_getElem (by omega)⟩
  obtain ⟨b, cap, e1, hb, _, _, _, _⟩ := h.at (i := 0) (c := [c0]) (by rw [List.getElem?_map, hc0]; rfl)
  injection e1 with e1 _ _
  subst e1
  refine ⟨b, 0, rfl, hb, fun q => absurd q (Nat.not_lt_zero _), fun i x hx => ?_⟩
  obtain ⟨ci, hci⟩ : ∃ c0, ss[i]? = some c0 := ⟨_, List.getElem?_eq_getElem (by rw [hl]; exact (List.getElem?_eq_some_iff.1 hx).1)⟩
  obtain ⟨b', cap', e2, _, _, _, hra, _⟩ := h.at (i := i) (c := [ci]) (by rw [List.getElem?_map, hci]; rfl)
  injection e2 with e2 _ _
  injection e2 with e2
  injection e2 with e2 _ _
  subst e2
  refine ⟨ci, hr i x ci hx hci, ?_⟩
  have := hra 0 _ rfl
  rw [Nat.zero_add]
  simpa using this
end Go.Proofs.YtdnhhmnllhlbbaaGreatDoor

namespace Go.Proofs.YtdnhhmnllhlbbaaGreatDoor
open Go.RowKit Go.Shelf
set_option linter.unusedVariables false
set_option linter.unusedSimpArgs false

set_option maxRecDepth 100000 in
set_option maxHeartbeats 4000000 in
theorem sameOuts19 {W : World} {s1 s2 : Value} {l : List Ou} (h1 : Sou W s1 l) (h2 : Sou W s2 l) (hn : l.length ≤ 1048576) (hz : ∀ o ∈ l, OuZ o) (hd : ∀ o ∈ l, o.dims.length ≤ 17592186043904) :
    Calls Tryz.prog 19 #[s1, s2] W fun e w' => e = .returned (.bool true) ∧ Below W.heap.size W w' := by
  obtain ⟨a1, c1, rfl, h1'⟩ := h1
  obtain ⟨a2, c2, rfl, h2'⟩ := h2
  have H1 : Hid (Sou W (.slice a1 l.length c1) l) := ⟨_, _, rfl, h1'⟩
  have H2 : Hid (Sou W (.slice a2 l.length c2) l) := ⟨_, _, rfl, h2'⟩
  have HZ := hid hz
  have HDM := hid hd
  clear h1' h2' hz hd
  obtain ⟨n, hn0⟩ : ∃ n, l.length = n := ⟨_, rfl⟩
  rw [hn0] at H1 H2 hn
  rw [hn0]
  have HN := hid hn0
  clear hn0
  go_enter Tryz.func19, Tryz.ntmps19
  go_wp2
  go_loopw [5] (fun i wr => ∃ k : Nat, k ≤ n ∧ i = .int .i64 (k : Int) ∧ Hid (Below W.heap.size W wr)) (fun i _ => n - (intOf i).toNat)
  case atStart => exact ⟨0, Nat.zero_le _, rfl, Below.refl _ _⟩
  case round =>
    obtain ⟨k, hk, rfl, HB⟩ := hrel
    by_cases hlt : k < n
    · have hlt' : (k : Int) < n := by omega
      obtain ⟨o, ho⟩ : ∃ o, l[k]? = some o := ⟨_, List.getElem?_eq_getElem (by rw [HN.out]; exact hlt)⟩
      obtain ⟨b1, o1, dv1, lv1, rfl, hb1, hR1, hS1, d0, d1, d2, d3, d4⟩ := H1.out.at ho
      obtain ⟨b2, o2, dv2, lv2, rfl, hb2, hR2, hS2, e0, e1, e2, e3, e4⟩ := H2.out.at ho
      have HOZ := hid (HZ.out o (List.mem_of_getElem? ho))
      have HOD := hid (HDM.out o (List.mem_of_getElem? ho))
      have KR : Hid (∀ X, Below W.heap.size W X → Calls Tryz.prog 42 #[dv1, dv2] X fun e w' => e = .returned (.bool true) ∧ Below X.heap.size X w') := fun X hX => (alike42 (hR1.below hX) (hR2.below hX) HOD.out HOD.out).mono fun e w' h => by simpa using h
      have KS : Hid (∀ X, Below W.heap.size W X → Calls Tryz.prog 43 #[lv1, lv2] X fun e w' => e = .returned (.bool true) ∧ Below X.heap.size X w') := fun X hX => (rsameTerms43 (hS1.below hX) (hS2.below hX) (by have := HOZ.out.l; omega) (by have := HOZ.out.l; omega) HOZ.out.t HOZ.out.t).mono fun e w' h => by simpa using h
      obtain ⟨S, hS⟩ : ∃ S, bs o.nm = S := ⟨_, rfl⟩
      obtain ⟨kd, hkd⟩ : ∃ S, o.kind = S := ⟨_, rfl⟩
      obtain ⟨on, hon⟩ : ∃ S, o.one = S := ⟨_, rfl⟩
      rw [hS] at d0 e0
      rw [hkd] at d3 e3
      rw [hon] at d4 e4
      clear hR1 hR2 hS1 hS2 ho hS hkd hon HOZ HOD
      have hw2 : IntKind.i64.wrap ((k : Int) + 1) = (k : Int) + 1 := by rw [IntKind.wrap_i64]; omega
      have ht : (on != on) = false := by cases on <;> rfl
      have ht2 : (on == on) = true := by cases on <;> rfl
      go_upto_region 6 with (fail)
      have HP0 : Hid (Below W.heap.size W wr.drew) := Below.drew HB.out
      refine wp_region_held_drew (S := (fun X : World => Below W.heap.size W X)) (by kernel_rfl) (HP0.out) (fun hHeld => ?_)
      refine tkI 0 rfl hHeld ?_
      try simp only [Act.put, zS, eZ, eS]
      refine tkI 1 rfl hHeld ?_
      try simp only [Act.put, zS, eZ, eS]
      refine tkI 2 rfl hHeld ?_
      try simp only [Act.put, zS, eZ, eS]
      refine tkI 3 rfl hHeld ?_
      try simp only [Act.put, zS, eZ, eS]
      refine tkI 4 rfl hHeld ?_ (hy := by intro w hSw; have y := (hSw.cell (p := ⟨b1, o1 + k * 5, none⟩) hb1).trans d0; go_simp <;> with_reducible rfl)
      try simp only [Act.put, zS, eZ, eS]
      refine tkI 5 rfl hHeld ?_
      try simp only [Act.put, zS, eZ, eS]
      refine tkI 6 rfl hHeld ?_
      try simp only [Act.put, zS, eZ, eS]
      refine tkI 7 rfl hHeld ?_
      try simp only [Act.put, zS, eZ, eS]
      refine tkI 8 rfl hHeld ?_
      try simp only [Act.put, zS, eZ, eS]
      refine tkI 9 rfl hHeld ?_ (hy := by intro w hSw; have y := (hSw.cell (p := ⟨b2, o2 + k * 5, none⟩) hb2).trans e0; go_simp <;> with_reducible rfl)
      try simp only [Act.put, zS, eZ, eS]
      refine tkI 10 rfl hHeld ?_
      try simp only [Act.put, zS, eZ, eS]
      refine tkI 11 rfl hHeld ?_
      try simp only [Act.put, zS, eZ, eS]
      refine tkI 12 rfl hHeld ?_
      try simp only [Act.put, zS, eZ, eS]
      refine tkI 13 rfl hHeld ?_
      try simp only [Act.put, zS, eZ, eS]
      refine tkI 14 rfl hHeld ?_
      try simp only [Act.put, zS, eZ, eS]
      refine tkI 15 rfl hHeld ?_
      try simp only [Act.put, zS, eZ, eS]
      refine tkI 16 rfl hHeld ?_ (hy := by intro w hSw; have y := (hSw.cell (p := ⟨b1, o1 + k * 5 + 1, none⟩) hb1).trans d1; go_simp <;> with_reducible rfl)
      try simp only [Act.put, zS, eZ, eS]
      refine tkI 17 rfl hHeld ?_
      try simp only [Act.put, zS, eZ, eS]
      refine tkI 18 rfl hHeld ?_
      try simp only [Act.put, zS, eZ, eS]
      refine tkI 19 rfl hHeld ?_
      try simp only [Act.put, zS, eZ, eS]
      refine tkI 20 rfl hHeld ?_
      try simp only [Act.put, zS, eZ, eS]
      refine tkI 21 rfl hHeld ?_ (hy := by intro w hSw; have y := (hSw.cell (p := ⟨b2, o2 + k * 5 + 1, none⟩) hb2).trans e1; go_simp <;> with_reducible rfl)
      try simp only [Act.put, zS, eZ, eS]
      refine rdy 22 rfl fun K hK => ?_
      go_simp
      refine (KR.out _ HP0.out).mono ?_
      rintro e w1 ⟨rfl, hb1⟩
      have HB1 : Hid (Below W.heap.size W w1) := HP0.out.trans (hb1.mono HP0.out.size)
      clear hb1
      clear hHeld; refine hK.out _ _ (HB1.out) fun hHeld => ?_
      clear hK K
      try simp only [Act.put, zS, eZ, eS]
      refine tkI 23 rfl hHeld ?_
      try simp only [Act.put, zS, eZ, eS]
      refine tkI 24 rfl hHeld ?_
      try simp only [Act.put, zS, eZ, eS]
      refine tkI 25 rfl hHeld ?_
      try simp only [Act.put, zS, eZ, eS]
      refine tkI 26 rfl hHeld ?_
      try simp only [Act.put, zS, eZ, eS]
      refine tkI 27 rfl hHeld ?_
      try simp only [Act.put, zS, eZ, eS]
      refine tkI 28 rfl hHeld ?_
      try simp only [Act.put, zS, eZ, eS]
      refine tkI 29 rfl hHeld ?_
      try simp only [Act.put, zS, eZ, eS]
      refine tkI 30 rfl hHeld ?_ (hy := by intro w hSw; have y := (hSw.cell (p := ⟨b1, o1 + k * 5 + 2, none⟩) hb1).trans d2; go_simp <;> with_reducible rfl)
      try simp only [Act.put, zS, eZ, eS]
      refine tkI 31 rfl hHeld ?_
      try simp only [Act.put, zS, eZ, eS]
      refine tkI 32 rfl hHeld ?_
      try simp only [Act.put, zS, eZ, eS]
      refine tkI 33 rfl hHeld ?_
      try simp only [Act.put, zS, eZ, eS]
      refine tkI 34 rfl hHeld ?_
      try simp only [Act.put, zS, eZ, eS]
      refine tkI 35 rfl hHeld ?_ (hy := by intro w hSw; have y := (hSw.cell (p := ⟨b2, o2 + k * 5 + 2, none⟩) hb2).trans e2; go_simp <;> with_reducible rfl)
      try simp only [Act.put, zS, eZ, eS]
      refine rdy 36 rfl fun K hK => ?_
      go_simp
      refine (KS.out _ HB1.out).mono ?_
      rintro e w2 ⟨rfl, hb2⟩
      have HB2 : Hid (Below W.heap.size W w2) := HB1.out.trans (hb2.mono HB1.out.size)
      clear hb2
      clear hHeld; refine hK.out _ _ (HB2.out) fun hHeld => ?_
      clear hK K
      try simp only [Act.put, zS, eZ, eS]
      refine tkI 37 rfl hHeld ?_
      try simp only [Act.put, zS, eZ, eS]
      refine tkI 38 rfl hHeld ?_
      try simp only [Act.put, zS, eZ, eS]
      refine tkI 39 rfl hHeld ?_
      try simp only [Act.put, zS, eZ, eS]
      refine tkI 40 rfl hHeld ?_
      try simp only [Act.put, zS, eZ, eS]
      refine tkI 41 rfl hHeld ?_
      try simp only [Act.put, zS, eZ, eS]
      refine tkI 42 rfl hHeld ?_
      try simp only [Act.put, zS, eZ, eS]
      refine tkI 43 rfl hHeld ?_
      try simp only [Act.put, zS, eZ, eS]
      refine tkI 44 rfl hHeld ?_ (hy := by intro w hSw; have y := (hSw.cell (p := ⟨b1, o1 + k * 5 + 3, none⟩) hb1).trans d3; go_simp <;> with_reducible rfl)
      try simp only [Act.put, zS, eZ, eS]
      refine tkI 45 rfl hHeld ?_
      try simp only [Act.put, zS, eZ, eS]
      refine tkI 46 rfl hHeld ?_
      try simp only [Act.put, zS, eZ, eS]
      refine tkI 47 rfl hHeld ?_
      try simp only [Act.put, zS, eZ, eS]
      refine tkI 48 rfl hHeld ?_
      try simp only [Act.put, zS, eZ, eS]
      refine tkI 49 rfl hHeld ?_ (hy := by intro w hSw; have y := (hSw.cell (p := ⟨b2, o2 + k * 5 + 3, none⟩) hb2).trans e3; go_simp <;> with_reducible rfl)
      try simp only [Act.put, zS, eZ, eS]
      refine tkI 50 rfl hHeld ?_
      try simp only [Act.put, zS, eZ, eS]
      refine tkI 51 rfl hHeld ?_
      try simp only [Act.put, zS, eZ, eS]
      refine tkI 52 rfl hHeld ?_
      try simp only [Act.put, zS, eZ, eS]
      refine tkI 53 rfl hHeld ?_
      try simp only [Act.put, zS, eZ, eS]
      refine tkI 54 rfl hHeld ?_
      try simp only [Act.put, zS, eZ, eS]
      refine tkI 55 rfl hHeld ?_
      try simp only [Act.put, zS, eZ, eS]
      refine tkI 56 rfl hHeld ?_
      try simp only [Act.put, zS, eZ, eS]
      refine tkI 57 rfl hHeld ?_ (hy := by intro w hSw; have y := (hSw.cell (p := ⟨b1, o1 + k * 5 + 4, none⟩) hb1).trans d4; go_simp <;> with_reducible rfl)
      try simp only [Act.put, zS, eZ, eS]
      refine tkI 58 rfl hHeld ?_
      try simp only [Act.put, zS, eZ, eS]
      refine tkI 59 rfl hHeld ?_
      try simp only [Act.put, zS, eZ, eS]
      refine tkI 60 rfl hHeld ?_
      try simp only [Act.put, zS, eZ, eS]
      refine tkI 61 rfl hHeld ?_
      try simp only [Act.put, zS, eZ, eS]
      refine tkI 62 rfl hHeld ?_ (hy := by intro w hSw; have y := (hSw.cell (p := ⟨b2, o2 + k * 5 + 4, none⟩) hb2).trans e4; go_simp <;> with_reducible rfl)
      try simp only [Act.put, zS, eZ, eS]
      refine tkI 63 rfl hHeld ?_
      try simp only [Act.put, zS, eZ, eS]
      refine tkI 64 rfl hHeld ?_
      try simp only [Act.put, zS, eZ, eS]
      refine wpAnyH_done (by kernel_rfl) ?_ _
      clear hHeld
      go_wp2
      go_roundw
      case rel => exact ⟨k + 1, by omega, by go_num, HB2.out⟩
      case measure => simp [intOf]; omega
    · obtain rfl : k = n := by omega
      go_wp2
      go_ret
      exact ⟨rfl, HB.out⟩
end Go.Proofs.YtdnhhmnllhlbbaaGreatDoor
