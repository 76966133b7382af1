/-
  What is proved here: Constraints in own memory, as deep as they go; the reference's Lent.
-/
import Derived.Test.YtdnhhmnllhlbbaaGreatDoorQfj
namespace Go.Proofs.YtdnhhmnllhlbbaaGreatDoor
open Go.RowKit Go.Shelf
set_option linter.unusedVariables false
set_option linter.unusedSimpArgs false
/-- All cells of some terms. -/
def tcells : List Tm → List Value → List Value
  | t :: l, sv :: svl => t.cells sv ++ tcells l svl
  | _, _ => []
/-- All blocks but those of one type are kept. -/
structure Keep (T : TypeId) (w w' : World) : Prop where
  size : w.heap.size ≤ w'.heap.size
  block : ∀ (g : Nat) (cs : Array Value) (t : TypeId) (fr : Nat × Nat), t ≠ T → w.heap[g]? = some (Obj.cells cs t fr) → w'.heap[g]? = some (Obj.cells cs t fr)
theorem keep_grown {T : TypeId} {w w' : World} {B size n : Nat} {v : Value} {xs : List Value} (hown : w.ownsRow B T size v n xs) (hg : w.grownBy w' v.ownBlock) : Keep T w w' := by
  refine ⟨hg.size, fun g cs t fr ht h => (hg.block g (Array.getElem?_eq_some_iff.1 h).1 (fun e => ?_)).trans h⟩
  rcases hown.2 with ⟨e1, _⟩ | ⟨g', cap, cur, e1, _, hgb, _⟩
  · rw [e1] at e; cases e
  · rw [e1] at e
    injection e with e
    subst e
    rw [hgb] at h
    injection h with h
    injection h with _ h2 _
    exact ht h2.symm
theorem keep_set {w : World} {k : Nat} {cs : Array Value} {T : TypeId} (h : Blk w k cs T) (i : Nat) (v : Value) : Keep T w (w.setCell ⟨k, i, none⟩ v) := by
  refine ⟨by rw [World.size_setCell]; exact Nat.le_refl _, fun g cs' t fr ht hg => ?_⟩
  by_cases e : g = k
  · subst e
    rw [h.h] at hg
    injection hg with hg
    injection hg with _ h2 _
    exact absurd h2.symm ht
  · rw [Below.heap_setCell w ⟨k, i, none⟩ v g e]; exact hg
theorem own_keepT {T : TypeId} {w w' : World} {B e size n : Nat} {s : Value} {xs : List Value} (h : w.ownsRow B e size s n xs) (hk : Keep T w w') (he : e ≠ T) : w'.ownsRow B e size s n xs :=
  ⟨h.1, by
    rcases h.2 with h2 | ⟨g, cap, cur, e1, hg, hgb, r⟩
    · exact .inl h2
    · exact .inr ⟨g, cap, cur, e1, hg, hk.block _ _ _ _ he hgb, r⟩⟩
theorem blk_keepT {T : TypeId} {w w' : World} {g : Nat} {cs : Array Value} {ty : TypeId} (h : Blk w g cs ty) (hk : Keep T w w') (he : ty ≠ T) : Blk w' g cs ty := ⟨hk.block _ _ _ _ he h.h⟩
/-- Terms in own memory, with their sets. -/
def Lo (B H : Nat) (w : World) (s : Value) (l : List Tm) : Prop := ∃ tvl : List Value, tvl.length = l.length ∧ (∀ (i : Nat) (t : Tm) tv, l[i]? = some t → tvl[i]? = some tv → w.ownsRow B 2 1 tv t.s.length (intv t.s)) ∧ w.ownsRow B 67 4 s l.length (tcells l tvl) ∧ ∀ g, s.ownBlock = some g → g < H
theorem Lo.below {B H : Nat} {w w' : World} {s : Value} {l : List Tm} (h : Lo B H w s l) (hb : Below w.heap.size w w') : Lo B H w' s l := by
  obtain ⟨tvl, h1, h2, h3, h4⟩ := h
  exact ⟨tvl, h1, fun i t tv a b => own_keepB (h2 i t tv a b) hb, own_keepB h3 hb, h4⟩
theorem Lo.keep {T : TypeId} {B H : Nat} {w w' : World} {s : Value} {l : List Tm} (h : Lo B H w s l) (hk : Keep T w w') (h1 : 2 ≠ T) (h2 : 67 ≠ T) : Lo B H w' s l := by
  obtain ⟨tvl, a1, a2, a3, a4⟩ := h
  exact ⟨tvl, a1, fun i t tv a b => own_keepT (a2 i t tv a b) hk h1, own_keepT a3 hk h2, a4⟩
/-- All cells of some arguments. -/
def acells : List Ag → List Value → List Value
  | g :: l, sv :: svl => [.bool g.arr, sv] ++ acells l svl
  | _, _ => []
theorem acells_snoc : ∀ (l : List Ag) (svl : List Value), svl.length = l.length → ∀ g sv, acells (l ++ [g]) (svl ++ [sv]) = acells l svl ++ [.bool g.arr, sv]
  | [], [], _, g, sv => rfl
  | a :: l, [], h, _, _ => by simp at h
  | [], a :: l, h, _, _ => by simp at h
  | a :: l, b :: svl, h, g, sv => by
    simp only [List.cons_append, acells, acells_snoc l svl (by simpa using h) g sv, List.append_assoc]
theorem tcells_snoc : ∀ (l : List Tm) (svl : List Value), svl.length = l.length → ∀ t sv, tcells (l ++ [t]) (svl ++ [sv]) = tcells l svl ++ t.cells sv
  | [], [], _, t, sv => by simp [tcells]
  | a :: l, [], h, _, _ => by simp at h
  | [], a :: l, h, _, _ => by simp at h
  | a :: l, b :: svl, h, t, sv => by
    simp only [List.cons_append, tcells, tcells_snoc l svl (by simpa using h) t sv, List.append_assoc]
/-- Arguments in own memory, as deep as they go. -/
def Ao (B : Nat) (w : World) (s : Value) (ags : List Ag) : Prop := ∃ (svl : List Value) (bnd : Nat → Nat), svl.length = ags.length ∧ (∀ j, B ≤ bnd j ∧ bnd j ≤ bnd (j + 1)) ∧ bnd ags.length ≤ w.heap.size ∧ (∀ (j : Nat) (g : Ag) sv, ags[j]? = some g → svl[j]? = some sv → Lo (bnd j) (bnd (j + 1)) w sv g.l) ∧ w.ownsRow B 59 2 s ags.length (acells ags svl)
theorem Ao.below {B : Nat} {w w' : World} {s : Value} {l : List Ag} (h : Ao B w s l) (hb : Below w.heap.size w w') : Ao B w' s l := by
  obtain ⟨svl, bnd, h1, h2, h3, h4, h5⟩ := h
  exact ⟨svl, bnd, h1, h2, Nat.le_trans h3 hb.size, fun j g sv a b => (h4 j g sv a b).below hb, own_keepB h5 hb⟩
theorem Ao.keep {T : TypeId} {B : Nat} {w w' : World} {s : Value} {l : List Ag} (h : Ao B w s l) (hk : Keep T w w') (h1 : 2 ≠ T) (h2 : 67 ≠ T) (h3 : 59 ≠ T) : Ao B w' s l := by
  obtain ⟨svl, bnd, a1, a2, a3, a4, a5⟩ := h
  exact ⟨svl, bnd, a1, a2, Nat.le_trans a3 hk.size, fun j g sv a b => (a4 j g sv a b).keep hk h1 h2, own_keepT a5 hk h3⟩
theorem run_app_none34 (w : World) (ty : TypeId) (c' : Nat) : (Builtin.append_ #[34, 34] ty #[.slice none 0 0, .slice none 0 c']).run Tryz.prog w = .ok (.slice none 0 0) w := by
  obtain ⟨i0, hi0, hz0, hz1, hz2⟩ := info_parts Tryz.info2
  have hf : (Builtin.firstCells i0.size 0 (.slice none 0 c')).run Tryz.prog w = .ok #[] w := by simp [Builtin.firstCells]
  simp [Builtin.append_, run_underlying Tryz.underlying34, sizeOf, typeInfo, hi0, Builtin.lenOf, hf, storeCells]
/-- Appending a slice of numbers to none, as one step of a region. -/
theorem step_app_i (w : World) {ops : Array Oper} {o : Oper} {a : Act} {K : Act → World → Prop} {Q : Exit → Act → World → Prop} {E : Prop} (hgd : o.guard = none) (s x : Operand) (ho : o.op = .call { callee := .builtin .append, args := #[s, x], argTypes := #[34, 34] })
    (hs : a.eval s = .slice none 0 0) (sx : Value) (B : Nat) (l : List Int) (hx : a.eval x = sx) (hsx : Si B w sx l) (hb : l.length * 8 ≤ 140737488351232)
    (h : ∀ v' w', w'.ownsRow w.heap.size 2 1 v' l.length (intv l) → Below w.heap.size w w' → K (a.put o.dst v') w') : if Region.wanted o (yielded ops a.tmps) = true then Oper.wp Tryz.prog o a w K Q else E := by
  have hw : Region.wanted o (yielded ops a.tmps) = true := by simp [Region.wanted, hgd]
  rw [if_pos hw]
  obtain ⟨i0, hi0, hz0, hz1, hz2⟩ := info_parts Tryz.info2
  obtain ⟨ax, cx, rfl, hcx⟩ := hsx
  have hown : w.ownsRow w.heap.size 2 1 (.slice none 0 0) 0 [] := World.ownsRow_nil _ _ _ _
  have hbel : ∀ w', w.grownBy w' (Value.slice none 0 0).ownBlock → Below w.heap.size w w' := fun w' hg => (Below.refl _ w).grown hg (Nat.le_refl _) (fun k e => by cases e)
  cases ax with
  | none =>
    have h0 : l.length = 0 := by
      apply Classical.byContradiction; intro hn
      obtain ⟨_, _, e, _⟩ := hcx (by omega)
      cases e
    obtain rfl := List.eq_nil_of_length_eq_zero h0
    have hr := run_app_none34 w o.type cx
    unfold Oper.wp execOp
    simp only [ho, resolve, invoke, builtin, Sem.run_bind, Sem.run_pure, Result.andThen_ok, List.map_toArray, List.map_cons, List.map_nil, hs, hx, hr, List.length_nil]
    exact h _ _ hown (Below.refl _ _)
  | some ad =>
    rcases Nat.eq_zero_or_pos l.length with h0 | h0
    · obtain rfl := List.eq_nil_of_length_eq_zero h0
      refine wp_append_own w s x 34 ho w.heap.size 2 i0 (.int .i64 0) 1 8 Tryz.underlying34 hi0 hz0 hz1 hz2 rfl (by decide) _ _ _ hs hown ad 0 cx [] hx rfl (fun j u h => by simp at h) (fun u h => by simp at h) (by unfold maxLen; omega) (by omega) (Nat.le_refl _) ?_
      intro v' w' h1 h2 _
      exact h v' w' (by simpa [intv] using h1) (hbel w' h2)
    · obtain ⟨b, off, e, _, hlt, hcell⟩ := hcx h0
      injection e with e
      subst e
      refine wp_append_own w s x 34 ho w.heap.size 2 i0 (.int .i64 0) 1 8 Tryz.underlying34 hi0 hz0 hz1 hz2 rfl (by decide) _ _ _ hs hown ⟨b, off, none⟩ l.length cx (intv l) hx (by simp [intv]) (fun j u hj => ?_) (fun u hu => ?_) (by unfold maxLen; omega) (by omega) (Nat.le_refl _) ?_
      · simp only [intv, List.getElem?_map, Option.map_eq_some_iff] at hj
        obtain ⟨y, hy, rfl⟩ := hj
        rw [Addr.add_lit]
        exact hcell j y hy
      · simp only [intv, List.mem_map] at hu
        obtain ⟨y, _, rfl⟩ := hu
        rfl
      · intro v' w' h1 h2 _
        exact h v' w' (by simpa [intv] using h1) (hbel w' h2)
theorem own_lowerB {w : World} {B B' e size n : Nat} {s : Value} {xs : List Value} (h : w.ownsRow B e size s n xs) (hb : B' ≤ B) : w.ownsRow B' e size s n xs :=
  ⟨h.1, by
    rcases h.2 with h2 | ⟨g, cap, cur, e1, hg, hgb, r⟩
    · exact .inl h2
    · exact .inr ⟨g, cap, cur, e1, Nat.le_trans hb hg, hgb, r⟩⟩
theorem bel_grown {w w' : World} {B e size n : Nat} {v : Value} {xs : List Value} (hown : w.ownsRow B e size v n xs) (hB : B ≤ w.heap.size) (hg : w.grownBy w' v.ownBlock) : Below B w w' := by
  refine (Below.refl _ w).grown hg hB (fun k e => ?_)
  rcases hown.2 with ⟨e1, _⟩ | ⟨g', cap, cur, e1, hg, hgb, _⟩
  · rw [e1] at e; cases e
  · rw [e1] at e
    injection e with e
    subst e
    exact hg
theorem own_lt {w : World} {B e size n : Nat} {v : Value} {xs : List Value} (hown : w.ownsRow B e size v n xs) {g : Nat} (hg : v.ownBlock = some g) : g < w.heap.size := by
  rcases hown.2 with ⟨e1, _⟩ | ⟨g', cap, cur, e1, _, hgb, _⟩
  · rw [e1] at hg; cases hg
  · rw [e1] at hg
    injection hg with hg
    subst hg
    exact (Array.getElem?_eq_some_iff.1 hgb).1
theorem Ao.snoc {B H : Nat} {w : World} {s' sv : Value} {l : List Ag} {g : Ag} {svl : List Value} {bnd : Nat → Nat} (h1 : svl.length = l.length) (h2 : ∀ j, B ≤ bnd j ∧ bnd j ≤ bnd (j + 1)) (hH : bnd l.length ≤ H) (hw : H ≤ w.heap.size)
    (h4 : ∀ (j : Nat) (g : Ag) sv, l[j]? = some g → svl[j]? = some sv → Lo (bnd j) (bnd (j + 1)) w sv g.l) (hn : Lo (bnd l.length) H w sv g.l) (h5 : w.ownsRow B 59 2 s' (l.length + 1) (acells l svl ++ [.bool g.arr, sv])) : Ao B w s' (l ++ [g]) := by
  refine ⟨svl ++ [sv], fun j => if j ≤ l.length then bnd j else H, by simp [h1], fun j => ?_, ?_, fun j g' sv' a b => ?_, ?_⟩
  · dsimp only
    have hB := (h2 l.length).1
    have hj := h2 j
    by_cases c1 : j + 1 ≤ l.length
    · rw [if_pos (by omega), if_pos c1]; exact hj
    · by_cases c2 : j ≤ l.length
      · obtain rfl : j = l.length := by omega
        rw [if_pos c2, if_neg c1]; exact ⟨hj.1, hH⟩
      · rw [if_neg c2, if_neg c1]; exact ⟨by omega, Nat.le_refl _⟩
  · rw [List.length_append, List.length_singleton]
    dsimp only
    rw [if_neg (by omega)]; exact hw
  · dsimp only
    by_cases c : j < l.length
    · rw [List.getElem?_append_left c] at a
      rw [List.getElem?_append_left (by omega)] at b
      rw [if_pos (by omega), if_pos (by omega)]
      exact h4 j g' sv' a b
    · have c2 : j < l.length + 1 := by have := (List.getElem?_eq_some_iff.1 a).1; simpa using this
      obtain rfl : j = l.length := by omega
      rw [List.getElem?_append_right (Nat.le_refl _)] at a
      rw [List.getElem?_append_right (by omega)] at b
      simp only [Nat.sub_self, List.getElem?_cons_zero, Option.some.injEq, h1] at a b
      subst a
      subst b
      rw [if_pos (Nat.le_refl _), if_neg (by omega)]
      exact hn
  · rw [acells_snoc l svl h1, List.length_append, List.length_singleton]
    exact h5
theorem info67L : (Tryz.prog.info? 67).map (fun i => (i.zero, i.size, i.bytes)) = some (some (.agg #[.int .i64 0, .bool false, .int .i64 0, .slice none 0 0]), 4, 48) := by kernel_rfl
theorem info59L : (Tryz.prog.info? 59).map (fun i => (i.zero, i.size, i.bytes)) = some (some (.agg #[.bool false, .slice none 0 0]), 2, 32) := by kernel_rfl
theorem info84L : (Tryz.prog.info? 84).map (fun i => (i.zero, i.size, i.bytes)) = some (some (.agg #[.int .i64 0, .int .i64 0]), 2, 16) := by kernel_rfl
theorem info53L : (Tryz.prog.info? 53).map (fun i => (i.zero, i.size, i.bytes)) = some (some (.agg #[.string ⟨#[]⟩, .slice none 0 0, .slice none 0 0, .int .i64 0, .bool false]), 5, 80) := by kernel_rfl
theorem Blk.drew {w : World} {g : Nat} {cs : Array Value} {ty : TypeId} (h : Blk w g cs ty) : Blk w.drew g cs ty := ⟨h.h⟩
theorem new_cells (w : World) (l : List Value) (ty : TypeId) : ∀ (j : Nat) (u : Value), l[j]? = some u → (w.alloc (Obj.cells l.toArray ty)).cell? ((⟨w.heap.size, 0, none⟩ : Addr).add j) = some u := fun j u h => by
  rw [Addr.add_lit, Nat.zero_add, (Blk.new w l.toArray ty).cell j]
  simpa using h
set_option maxRecDepth 100000 in
set_option maxHeartbeats 4000000 in
theorem lent24 (nm : List UInt8) (ags : List Ag) {a0 : Option Addr} {n0 c0 : Nat} (W : World) (h : Sa 0 W (.slice a0 n0 c0) ags) (hlen : ags.length = n0) (hn : n0 * 32 ≤ 140737488351232) (hl : ∀ g ∈ ags, g.l.length * 48 ≤ 140737488351232) (hs : ∀ g ∈ ags, ∀ t ∈ g.l, t.s.length * 8 ≤ 140737488351232) :
    Calls Tryz.prog 24 #[.agg #[.string ⟨nm.toArray⟩, .slice a0 n0 c0]] W fun e w' => ∃ v, e = .returned (.agg #[.string ⟨nm.toArray⟩, v]) ∧ Ao W.heap.size w' v ags ∧ Below W.heap.size W w' := by
  obtain ⟨i46, hi46, hz46, hs46, hb46⟩ := info_parts info67L
  obtain ⟨i54, hi54, hz54, hs54, hb54⟩ := info_parts info59L
  have HA : Hid (Sa 0 W (.slice a0 n0 c0) ags) := h
  have HN : Hid (ags.length = n0) := hlen
  have HL : Hid (∀ g ∈ ags, g.l.length * 48 ≤ 140737488351232) := hl
  have HS : Hid (∀ g ∈ ags, ∀ t ∈ g.l, t.s.length * 8 ≤ 140737488351232) := hs
  clear h hlen hl hs
  obtain ⟨B, hB⟩ : ∃ x, W.heap.size = x := ⟨_, rfl⟩
  have HBB : Hid (W.heap.size = B) := hB
  obtain ⟨W1, hW1⟩ : ∃ X, ((W.alloc (Obj.cells #[.string ⟨nm.toArray⟩, .slice a0 n0 c0] 56)).alloc (Obj.cells #[.string ⟨#[]⟩, .slice none 0 0] 56)).alloc (Obj.cells #[.string ⟨nm.toArray⟩, .slice none 0 0] 56) = X := ⟨_, rfl⟩
  have HW1 : Hid (Below B W W1) := by rw [Hid, ← hW1, ← hB]; exact (((Below.refl _ W).alloc (Nat.le_refl _) _).alloc (by simp) _).alloc (by simp; omega) _
  have KC : Hid (Blk W1 B #[.string ⟨nm.toArray⟩, .slice a0 n0 c0] 56) := by rw [Hid, ← hW1, ← hB]; exact ((Blk.new W _ _).alloc _).alloc _
  have KR : Hid (Blk W1 (B + 1) #[.string ⟨#[]⟩, .slice none 0 0] 56) := by rw [Hid, ← hW1, ← hB]; exact (Blk.new2 W _ _ _).alloc _
  have KX : Hid (Blk W1 (B + 1 + 1) #[.string ⟨nm.toArray⟩, .slice none 0 0] 56) := by
    have h9 := Blk.new ((W.alloc (Obj.cells #[.string ⟨nm.toArray⟩, .slice a0 n0 c0] 56)).alloc (Obj.cells #[.string ⟨#[]⟩, .slice none 0 0] 56)) #[.string ⟨nm.toArray⟩, .slice none 0 0] 56
    rw [World.size_alloc, World.size_alloc, hB] at h9
    rw [Hid, ← hW1]
    exact h9
  have HWA : Hid (((W.alloc (Obj.cells #[.string ⟨nm.toArray⟩, .slice a0 n0 c0] 56)).alloc (Obj.cells #[.string ⟨#[]⟩, .slice none 0 0] 56)).alloc (Obj.cells #[.string ⟨nm.toArray⟩, .slice none 0 0] 56) = W1) := hW1
  have HSZ : Hid (B + 3 ≤ W1.heap.size) := by rw [Hid, ← hW1, ← hB]; simp
  clear hW1 hB
  go_enter Tryz.func24, Tryz.ntmps24
  go_upto_region 2 with (fail)
  rw [HWA.out, HBB.out]
  clear HWA
  go_wp2
  go_loopw [4] (fun i wr => ∃ k : Nat, k ≤ n0 ∧ i = .int .i64 (k : Int) ∧ ∃ vx, Hid (Blk wr (B + 1 + 1) #[.string ⟨nm.toArray⟩, vx] 56) ∧ Hid (Ao B wr vx (ags.take k)) ∧ Hid (Blk wr B #[.string ⟨nm.toArray⟩, .slice a0 n0 c0] 56) ∧ Hid (Blk wr (B + 1) #[.string ⟨#[]⟩, .slice none 0 0] 56) ∧ Hid (Below B W wr) ∧ Hid (B + 3 ≤ wr.heap.size)) (fun i _ => n0 - (intOf i).toNat)
  case atStart =>
    refine ⟨0, Nat.zero_le _, rfl, _, KX, ?_, KC, KR, HW1, HSZ⟩
    rw [Hid, List.take_zero]
    exact ⟨[], fun _ => B, rfl, fun j => ⟨Nat.le_refl _, Nat.le_refl _⟩, by have := HSZ.out; simp; omega, fun j g sv h => by simp at h, World.ownsRow_nil _ _ _ _⟩
  case round =>
    clear KC KR KX HW1 HSZ
    obtain ⟨k, hk, rfl, vx, KX, HAO, KC, KR, HB, HSZ⟩ := hrel
    have xc := KC.out.cell 1
    simp only [List.getElem?_toArray, List.getElem?_cons_succ, List.getElem?_cons_zero] at xc
    by_cases hlt : k < n0
    · have hlt' : (k : Int) < n0 := by omega
      obtain ⟨g, hg⟩ : ∃ g, ags[k]? = some g := ⟨_, List.getElem?_eq_getElem (by rw [HN.out]; exact hlt)⟩
      have HG : Hid (ags[k]? = some g) := hg
      obtain ⟨b, off, a2, c2, rfl, hb, hst, d0, d1⟩ := HA.out.at hg
      have hbB : b < B := by rw [← HBB.out]; exact hb
      have hgl := HL.out g (List.mem_of_getElem? hg)
      obtain ⟨m, hm⟩ : ∃ m, g.l.length = m := ⟨_, rfl⟩
      rw [hm] at d1 hst hgl
      have HM : Hid (g.l.length = m) := hm
      have HST : Hid (St 0 W (.slice a2 m c2) g.l) := hst
      obtain ⟨ar, har⟩ : ∃ x, g.arr = x := ⟨_, rfl⟩
      rw [har] at d0
      have HAR : Hid (g.arr = ar) := har
      have y0 := (HB.out.cell (p := ⟨b, off + k * 2, none⟩) hbB).trans d0
      have y1 := (HB.out.cell (p := ⟨b, off + k * 2 + 1, none⟩) hbB).trans d1
      have HD1 : Hid (W.cell? ⟨b, off + k * 2 + 1, none⟩ = some (.slice a2 m c2)) := d1
      clear hst hm har hg d0 d1
      obtain ⟨X, hX⟩ : ∃ x, x = wr := ⟨_, rfl⟩
      subst hX
      obtain ⟨X1, hX1⟩ : ∃ Y, X.alloc (Obj.cells #[.bool ar, .slice none 0 0] 59) = Y := ⟨_, rfl⟩
      have HX1 : Hid (X.alloc (Obj.cells #[.bool ar, .slice none 0 0] 59) = X1) := hX1
      obtain ⟨bA, hbA⟩ : ∃ x, X.heap.size = x := ⟨_, rfl⟩
      have HBA : Hid (X.heap.size = bA) := hbA
      have KA : Hid (Blk X1 bA #[.bool ar, .slice none 0 0] 59) := by rw [Hid, ← hX1, ← hbA]; exact Blk.new X _ _
      have HBX : Hid (Below bA X X1) := by rw [Hid, ← hX1, ← hbA]; exact (Below.refl _ X).alloc (Nat.le_refl _) _
      have HSA : Hid (bA < X1.heap.size) := KA.out.lt
      have hw0 : IntKind.i64.wrap ((k : Int) + 1) = (k : Int) + 1 := by rw [IntKind.wrap_i64]; omega
      clear hX1 hbA
      go_upto_region 6 with (fail)
      rw [HX1.out, HBA.out]
      clear y0 y1
      go_wp2
      go_loopw [6] (fun j wq => ∃ q : Nat, q ≤ m ∧ j = .int .i64 (q : Int) ∧ ∃ vL tvl, Hid (Blk wq bA #[.bool ar, vL] 59) ∧ Hid ((tvl : List Value).length = q ∧ (∀ (i : Nat) (t : Tm) tv, (g.l.take q)[i]? = some t → tvl[i]? = some tv → wq.ownsRow bA 2 1 tv t.s.length (intv t.s)) ∧ wq.ownsRow bA 67 4 vL q (tcells (g.l.take q) tvl)) ∧ Hid (Below bA X wq)) (fun j _ => m - (intOf j).toNat)
      case atStart => exact ⟨0, Nat.zero_le _, rfl, _, [], KA, ⟨rfl, fun i t tv h => by simp at h, World.ownsRow_nil _ _ _ _⟩, HBX⟩
      case round =>
        clear KA HBX HX1 HSA
        obtain ⟨q, hq, rfl, vL, tvl, KA, HQ, HBX⟩ := hrel
        obtain ⟨wq, hwq⟩ : ∃ x, x = wr := ⟨_, rfl⟩
        subst hwq
        have hBA : B + 3 ≤ bA := by have := HSZ.out; rw [HBA.out] at this; exact this
        have HBW : Hid (Below B W wq) := HB.out.trans (HBX.out.mono (by omega))
        have xc : wq.cell? ⟨B, 1, none⟩ = some (.slice (some ⟨b, off, none⟩) n0 c0) := (HBX.out.cell (p := ⟨B, 1, none⟩) (show B < bA by omega)).trans xc
        have y1 := (HBW.out.cell (p := ⟨b, off + k * 2 + 1, none⟩) hbB).trans HD1.out
        by_cases hqt : q < m
        · have hqt' : (q : Int) < m := by omega
          obtain ⟨t, ht⟩ : ∃ t, g.l[q]? = some t := ⟨_, List.getElem?_eq_getElem (by rw [HM.out]; exact hqt)⟩
          have HT : Hid (g.l[q]? = some t) := ht
          obtain ⟨b3, off3, a4, c4, rfl, hb3, hsi, e0, e1, e2, e3⟩ := HST.out.at ht
          have hb3B : b3 < B := by rw [← HBB.out]; exact hb3
          have hsz := HS.out g (List.mem_of_getElem? HG.out) t (List.mem_of_getElem? ht)
          have HSI : Hid (Si 0 W (.slice a4 t.s.length c4) t.s) := hsi
          obtain ⟨tv, htv⟩ : ∃ x, t.v = x := ⟨_, rfl⟩
          obtain ⟨ts, hts⟩ : ∃ x, t.set = x := ⟨_, rfl⟩
          obtain ⟨tn, htn⟩ : ∃ x, t.n = x := ⟨_, rfl⟩
          obtain ⟨sn, hsn⟩ : ∃ x, t.s.length = x := ⟨_, rfl⟩
          have HTT : Hid (t.v = tv ∧ t.set = ts ∧ t.n = tn ∧ t.s.length = sn) := ⟨htv, hts, htn, hsn⟩
          rw [htv] at e0; rw [hts] at e1; rw [htn] at e2; rw [hsn] at e3 HSI
          have z0 := (HBW.out.cell (p := ⟨b3, off3 + q * 4, none⟩) hb3B).trans e0
          have z1 := (HBW.out.cell (p := ⟨b3, off3 + q * 4 + 1, none⟩) hb3B).trans e1
          have z2 := (HBW.out.cell (p := ⟨b3, off3 + q * 4 + 2, none⟩) hb3B).trans e2
          have z3 := (HBW.out.cell (p := ⟨b3, off3 + q * 4 + 3, none⟩) hb3B).trans e3
          have HE3 : Hid (W.cell? ⟨b3, off3 + q * 4 + 3, none⟩ = some (.slice a4 sn c4)) := e3
          clear htv hts htn hsn e0 e1 e2 e3 ht hsi
          have hw2 : IntKind.i64.wrap ((q : Int) + 1) = (q : Int) + 1 := by rw [IntKind.wrap_i64]; omega
          have HSZ3 : Hid (t.s.length * 8 ≤ 140737488351232) := hsz
          obtain ⟨Y, hY⟩ : ∃ Y, wq.alloc (Obj.cells #[.int .i64 tv, .bool ts, .int .i64 tn, .slice none 0 0] 67) = Y := ⟨_, rfl⟩
          obtain ⟨bT, hbT⟩ : ∃ x, wq.heap.size = x := ⟨_, rfl⟩
          have HBT : Hid (wq.heap.size = bT) := hbT
          have HY : Hid (wq.alloc (Obj.cells #[.int .i64 tv, .bool ts, .int .i64 tn, .slice none 0 0] 67) = Y) := hY
          have KT : Hid (Blk Y bT #[.int .i64 tv, .bool ts, .int .i64 tn, .slice none 0 0] 67) := by rw [Hid, ← hY, ← hbT]; exact Blk.new wq _ _
          have HBY : Hid (Below bT wq Y) := by rw [Hid, ← hY, ← hbT]; exact (Below.refl _ wq).alloc (Nat.le_refl _) _
          have hbAT : bA < bT := by rw [← hbT]; exact KA.out.lt
          have hBbT : B < bT := by omega
          have HBbT : Hid (B ≤ bT) := (by omega : B ≤ bT)
          have hbbT : b < bT := by omega
          have hb3bT : b3 < bT := by omega
          clear hY hbT hsz
          go_upto_region 11 with (fail)
          rw [HY.out, HBT.out]
          refine wp_region_held_drew (S := (fun w' => Below bT wq w')) (by kernel_rfl) (Below.drew HBY.out) (fun hHeld => ?_)
          refine wpAnyH_take (i := 0) (oi := { dst := some 47, op := Go.Op.fieldAddr 67 (Go.Operand.tmp 7) 1, type := 0, pos := "ref.go:367", after := #[], guard := none }) (v := ?_) rfl (by kernel_rfl) (by kernel_rfl) (by kernel_rfl) (fun _ _ _ h => h) (Or.inl ⟨by rfl, ?_⟩) hHeld ?_
          rotate_left
          · intro w hSw; (try dsimp only at hSw); go_simp <;> with_reducible rfl
          try simp only [Act.put, List.setIfInBounds_toArray, List.set_cons_zero, List.set_cons_succ]
          refine wpAnyH_take (i := 1) (oi := { dst := some 48, op := Go.Op.fieldAddr 36 (Go.Operand.tmp 47) 2, type := 0, pos := "ref.go:367", after := #[{ on := 0, ground := Go.Ground.data }], guard := none }) (v := ?_) rfl (by kernel_rfl) (by kernel_rfl) (by kernel_rfl) (fun _ _ _ h => h) (Or.inl ⟨by rfl, ?_⟩) hHeld ?_
          rotate_left
          · intro w hSw; (try dsimp only at hSw); go_simp <;> with_reducible rfl
          try simp only [Act.put, List.setIfInBounds_toArray, List.set_cons_zero, List.set_cons_succ]
          refine wpAnyH_take (i := 3) (oi := { dst := some 50, op := Go.Op.fieldAddr 56 (Go.Operand.tmp 1) 1, type := 0, pos := "ref.go:367", after := #[], guard := none }) (v := ?_) rfl (by kernel_rfl) (by kernel_rfl) (by kernel_rfl) (fun _ _ _ h => h) (Or.inl ⟨by rfl, ?_⟩) hHeld ?_
          rotate_left
          · intro w hSw; (try dsimp only at hSw); go_simp <;> with_reducible rfl
          try simp only [Act.put, List.setIfInBounds_toArray, List.set_cons_zero, List.set_cons_succ]
          refine wpAnyH_take (i := 4) (oi := { dst := some 51, op := Go.Op.load 54 (Go.Operand.tmp 50), type := 54, pos := "ref.go:367", after := #[{ on := 3, ground := Go.Ground.data }], guard := none }) (v := ?_) rfl (by kernel_rfl) (by kernel_rfl) (by kernel_rfl) (fun _ _ _ h => h) (Or.inl ⟨by rfl, ?_⟩) hHeld ?_
          rotate_left
          · intro w hSw; (try dsimp only at hSw); have c4 := (hSw.cell (p := ⟨B, 1, none⟩) hBbT).trans xc; go_simp <;> with_reducible rfl
          try simp only [Act.put, List.setIfInBounds_toArray, List.set_cons_zero, List.set_cons_succ]
          refine wpAnyH_take (i := 5) (oi := { dst := some 52, op := Go.Op.move (Go.Operand.tmp 4), type := 3, pos := "ref.go:367", after := #[], guard := none }) (v := ?_) rfl (by kernel_rfl) (by kernel_rfl) (by kernel_rfl) (fun _ _ _ h => h) (Or.inl ⟨by rfl, ?_⟩) hHeld ?_
          rotate_left
          · intro w hSw; (try dsimp only at hSw); go_simp <;> with_reducible rfl
          try simp only [Act.put, List.setIfInBounds_toArray, List.set_cons_zero, List.set_cons_succ]
          refine wpAnyH_take (i := 6) (oi := { dst := some 53, op := Go.Op.indexAddr 54 (Go.Operand.tmp 51) (Go.Operand.tmp 52), type := 0, pos := "ref.go:367", after := #[{ on := 4, ground := Go.Ground.data }, { on := 5, ground := Go.Ground.data }], guard := none }) (v := ?_) rfl (by kernel_rfl) (by kernel_rfl) (by kernel_rfl) (fun _ _ _ h => h) (Or.inl ⟨by rfl, ?_⟩) hHeld ?_
          rotate_left
          · intro w hSw; (try dsimp only at hSw); go_simp <;> with_reducible rfl
          try simp only [Act.put, List.setIfInBounds_toArray, List.set_cons_zero, List.set_cons_succ]
          refine wpAnyH_take (i := 7) (oi := { dst := some 54, op := Go.Op.fieldAddr 59 (Go.Operand.tmp 53) 1, type := 0, pos := "ref.go:367", after := #[{ on := 6, ground := Go.Ground.data }], guard := none }) (v := ?_) rfl (by kernel_rfl) (by kernel_rfl) (by kernel_rfl) (fun _ _ _ h => h) (Or.inl ⟨by rfl, ?_⟩) hHeld ?_
          rotate_left
          · intro w hSw; (try dsimp only at hSw); go_simp <;> with_reducible rfl
          try simp only [Act.put, List.setIfInBounds_toArray, List.set_cons_zero, List.set_cons_succ]
          refine wpAnyH_take (i := 8) (oi := { dst := some 55, op := Go.Op.load 51 (Go.Operand.tmp 54), type := 51, pos := "ref.go:367", after := #[{ on := 7, ground := Go.Ground.data }], guard := none }) (v := ?_) rfl (by kernel_rfl) (by kernel_rfl) (by kernel_rfl) (fun _ _ _ h => h) (Or.inl ⟨by rfl, ?_⟩) hHeld ?_
          rotate_left
          · intro w hSw; (try dsimp only at hSw); have c8 := (hSw.cell (p := ⟨b, off + k * 2 + 1, none⟩) hbbT).trans y1; go_simp <;> with_reducible rfl
          try simp only [Act.put, List.setIfInBounds_toArray, List.set_cons_zero, List.set_cons_succ]
          refine wpAnyH_take (i := 9) (oi := { dst := some 56, op := Go.Op.move (Go.Operand.tmp 6), type := 3, pos := "ref.go:367", after := #[], guard := none }) (v := ?_) rfl (by kernel_rfl) (by kernel_rfl) (by kernel_rfl) (fun _ _ _ h => h) (Or.inl ⟨by rfl, ?_⟩) hHeld ?_
          rotate_left
          · intro w hSw; (try dsimp only at hSw); go_simp <;> with_reducible rfl
          try simp only [Act.put, List.setIfInBounds_toArray, List.set_cons_zero, List.set_cons_succ]
          refine wpAnyH_take (i := 10) (oi := { dst := some 57, op := Go.Op.indexAddr 51 (Go.Operand.tmp 55) (Go.Operand.tmp 56), type := 0, pos := "ref.go:367", after := #[{ on := 8, ground := Go.Ground.data }, { on := 9, ground := Go.Ground.data }], guard := none }) (v := ?_) rfl (by kernel_rfl) (by kernel_rfl) (by kernel_rfl) (fun _ _ _ h => h) (Or.inl ⟨by rfl, ?_⟩) hHeld ?_
          rotate_left
          · intro w hSw; (try dsimp only at hSw); go_simp <;> with_reducible rfl
          try simp only [Act.put, List.setIfInBounds_toArray, List.set_cons_zero, List.set_cons_succ]
          refine wpAnyH_take (i := 11) (oi := { dst := some 58, op := Go.Op.fieldAddr 67 (Go.Operand.tmp 57) 1, type := 0, pos := "ref.go:367", after := #[{ on := 10, ground := Go.Ground.data }], guard := none }) (v := ?_) rfl (by kernel_rfl) (by kernel_rfl) (by kernel_rfl) (fun _ _ _ h => h) (Or.inl ⟨by rfl, ?_⟩) hHeld ?_
          rotate_left
          · intro w hSw; (try dsimp only at hSw); go_simp <;> with_reducible rfl
          try simp only [Act.put, List.setIfInBounds_toArray, List.set_cons_zero, List.set_cons_succ]
          refine wpAnyH_take (i := 12) (oi := { dst := some 59, op := Go.Op.fieldAddr 36 (Go.Operand.tmp 58) 2, type := 0, pos := "ref.go:367", after := #[{ on := 11, ground := Go.Ground.data }], guard := none }) (v := ?_) rfl (by kernel_rfl) (by kernel_rfl) (by kernel_rfl) (fun _ _ _ h => h) (Or.inl ⟨by rfl, ?_⟩) hHeld ?_
          rotate_left
          · intro w hSw; (try dsimp only at hSw); go_simp <;> with_reducible rfl
          try simp only [Act.put, List.setIfInBounds_toArray, List.set_cons_zero, List.set_cons_succ]
          refine wpAnyH_take (i := 13) (oi := { dst := some 60, op := Go.Op.load 34 (Go.Operand.tmp 59), type := 34, pos := "ref.go:367", after := #[{ on := 12, ground := Go.Ground.data }], guard := none }) (v := ?_) rfl (by kernel_rfl) (by kernel_rfl) (by kernel_rfl) (fun _ _ _ h => h) (Or.inl ⟨by rfl, ?_⟩) hHeld ?_
          rotate_left
          · intro w hSw; (try dsimp only at hSw); have c13 := (hSw.cell (p := ⟨b3, off3 + q * 4 + 3, none⟩) hb3bT).trans z3; go_simp <;> with_reducible rfl
          try simp only [Act.put, List.setIfInBounds_toArray, List.set_cons_zero, List.set_cons_succ]
          refine wpAnyH_ready (rs := [2]) (by kernel_rfl) (by simp) ?_
          refine AllReadyH.cons rfl (fun K hK => ?_) AllReadyH.nil
          have d3 := KT.out.drew.cell 3
          simp only [List.getElem?_toArray, List.getElem?_cons_succ, List.getElem?_cons_zero] at d3
          go_simp
          refine hK.out _ _ (Below.drew HBY.out) (fun hHeld2 => ?_)
          clear hK K hHeld
          have hHeld := hHeld2
          clear hHeld2
          try simp only [Act.put, List.setIfInBounds_toArray, List.set_cons_zero, List.set_cons_succ]
          refine wpAnyH_ready (rs := [14]) (by kernel_rfl) (by simp) ?_
          refine AllReadyH.cons rfl (fun K hK => ?_) AllReadyH.nil
          refine step_app_i _ rfl _ _ rfl rfl _ 0 t.s rfl (HSI.out.below (HBW.out.trans ((Below.drew HBY.out).mono HBbT.out) |>.mono (by rw [HBB.out]; exact Nat.le_refl _))) HSZ3.out ?_
          intro v5 w5 hown5 hb5
          rw [HTT.out.2.2.2] at hown5
          obtain ⟨p5, c5, rfl⟩ := own_shape hown5
          have KT5 := KT.out.drew.below hb5
          have HB5 : Below bT wq w5 := (Below.drew HBY.out).trans (hb5.mono (by have := (Below.drew HBY.out).size; rw [HBT.out] at this; exact this))
          refine hK.out _ _ (HB5) (fun hHeld2 => ?_)
          clear hK K hHeld
          have hHeld := hHeld2
          clear hHeld2
          try simp only [Act.put, List.setIfInBounds_toArray, List.set_cons_zero, List.set_cons_succ]
          refine wpAnyH_take (i := 15) (oi := { dst := some 62, op := Go.Op.fieldAddr 67 (Go.Operand.tmp 7) 1, type := 0, pos := "ref.go:367", after := #[{ on := 0, ground := Go.Ground.phase }, { on := 1, ground := Go.Ground.phase }, { on := 2, ground := Go.Ground.phase }, { on := 3, ground := Go.Ground.phase }, { on := 4, ground := Go.Ground.phase }, { on := 5, ground := Go.Ground.phase }, { on := 6, ground := Go.Ground.phase }, { on := 7, ground := Go.Ground.phase }, { on := 8, ground := Go.Ground.phase }, { on := 9, ground := Go.Ground.phase }, { on := 10, ground := Go.Ground.phase }, { on := 11, ground := Go.Ground.phase }, { on := 12, ground := Go.Ground.phase }, { on := 13, ground := Go.Ground.phase }, { on := 14, ground := Go.Ground.phase }], guard := none }) (v := ?_) rfl (by kernel_rfl) (by kernel_rfl) (by kernel_rfl) (fun _ _ _ h => h) (Or.inl ⟨by rfl, ?_⟩) hHeld ?_
          rotate_left
          · intro w hSw; (try dsimp only at hSw); go_simp <;> with_reducible rfl
          try simp only [Act.put, List.setIfInBounds_toArray, List.set_cons_zero, List.set_cons_succ]
          refine wpAnyH_take (i := 16) (oi := { dst := some 63, op := Go.Op.fieldAddr 36 (Go.Operand.tmp 62) 2, type := 0, pos := "ref.go:367", after := #[{ on := 15, ground := Go.Ground.data }, { on := 0, ground := Go.Ground.phase }, { on := 1, ground := Go.Ground.phase }, { on := 2, ground := Go.Ground.phase }, { on := 3, ground := Go.Ground.phase }, { on := 4, ground := Go.Ground.phase }, { on := 5, ground := Go.Ground.phase }, { on := 6, ground := Go.Ground.phase }, { on := 7, ground := Go.Ground.phase }, { on := 8, ground := Go.Ground.phase }, { on := 9, ground := Go.Ground.phase }, { on := 10, ground := Go.Ground.phase }, { on := 11, ground := Go.Ground.phase }, { on := 12, ground := Go.Ground.phase }, { on := 13, ground := Go.Ground.phase }, { on := 14, ground := Go.Ground.phase }], guard := none }) (v := ?_) rfl (by kernel_rfl) (by kernel_rfl) (by kernel_rfl) (fun _ _ _ h => h) (Or.inl ⟨by rfl, ?_⟩) hHeld ?_
          rotate_left
          · intro w hSw; (try dsimp only at hSw); go_simp <;> with_reducible rfl
          try simp only [Act.put, List.setIfInBounds_toArray, List.set_cons_zero, List.set_cons_succ]
          refine wpAnyH_ready (rs := [17]) (by kernel_rfl) (by simp) ?_
          refine AllReadyH.cons rfl (fun K hK => ?_) AllReadyH.nil
          have d3 := KT5.cell 3
          simp only [List.getElem?_toArray, List.getElem?_cons_succ, List.getElem?_cons_zero] at d3
          have f5 := KT5.frozen
          go_simp
          refine hK.out _ _ (HB5.setCell (p := ⟨bT, 3, none⟩) (Nat.le_refl bT) _) (fun hHeld2 => ?_)
          clear hK K hHeld
          have hHeld := hHeld2
          clear hHeld2
          try simp only [Act.put, List.setIfInBounds_toArray, List.set_cons_zero, List.set_cons_succ]
          refine wpAnyH_done (by kernel_rfl) ?_ _
          have KT6 := KT5.set 3 (.slice p5 sn c5)
          simp only [List.setIfInBounds_toArray, List.set_cons_zero, List.set_cons_succ] at KT6
          have hO6 : (w5.setCell ⟨bT, 3, none⟩ (.slice p5 sn c5)).ownsRow bA 2 1 (.slice p5 sn c5) sn (intv t.s) := own_lowerB (own_keepT hown5 (keep_set KT5 3 _) (by decide)) (by have h1 := (Below.drew HBY.out).size; rw [HBT.out] at h1; omega)
          have hB6 : Below bT wq (w5.setCell ⟨bT, 3, none⟩ (.slice p5 sn c5)) := HB5.setCell (p := ⟨bT, 3, none⟩) (Nat.le_refl bT) _
          obtain ⟨w6, hw6⟩ : ∃ x, w5.setCell ⟨bT, 3, none⟩ (.slice p5 sn c5) = x := ⟨_, rfl⟩
          rw [hw6] at KT6 hO6 hB6 ⊢
          rw [← HBT.out] at hB6
          have HO6 : Hid (w6.ownsRow bA 2 1 (.slice p5 sn c5) sn (intv t.s)) := hO6
          have HB6 : Hid (Below wq.heap.size wq w6) := hB6
          have KA6 : Hid (Blk w6 bA #[.bool ar, vL] 59) := KA.out.below hB6
          have KT7 : Hid (Blk w6 bT #[.int .i64 tv, .bool ts, .int .i64 tn, .slice p5 sn c5] 67) := KT6
          obtain ⟨pL, cL, rfl⟩ := own_shape HQ.out.2.2
          have t0 := KT6.cell 0
          have t1 := KT6.cell 1
          have t2 := KT6.cell 2
          have t3 := KT6.cell 3
          have a1 := KA6.out.cell 1
          have fA := KA6.out.frozen
          simp only [List.getElem?_toArray, List.getElem?_cons_succ, List.getElem?_cons_zero] at t0 t1 t2 t3 a1
          clear hw6 hO6 hB6 KT6 KT5 d3 f5 HB5 hown5 hb5 z0 z1 z2 z3 y1 xc hHeld
          have hcA := new_cells w6 [.int .i64 tv, .bool ts, .int .i64 tn, .slice p5 sn c5] 67
          have hbN : Below w6.heap.size w6 (w6.alloc (Obj.cells #[.int .i64 tv, .bool ts, .int .i64 tn, .slice p5 sn c5] 67)) := (Below.refl _ w6).alloc (Nat.le_refl _) _
          have hQ7 : (w6.alloc (Obj.cells #[.int .i64 tv, .bool ts, .int .i64 tn, .slice p5 sn c5] 67)).ownsRow bA 67 4 (.slice pL q cL) q (tcells (g.l.take q) tvl) := own_keepB (own_keepB HQ.out.2.2 HB6.out) hbN
          have hle : bA ≤ (w6.alloc (Obj.cells #[.int .i64 tv, .bool ts, .int .i64 tn, .slice p5 sn c5] 67)).heap.size := Nat.le_trans (Nat.le_of_lt KA6.out.lt) hbN.size
          have HBN : Hid _ := hbN
          have HQ7 : Hid _ := hQ7
          have HLE : Hid _ := hle
          have hqn : (q + 1) * 48 ≤ 140737488351232 := by omega
          clear hbN hQ7 hle hw2
          go_wp2_with (at_builtin; refine wpList_append_own _ rfl _ _ 51 rfl bA 67 i46 _ 4 48 Tryz.underlying51 hi46 hz46 hs46 hb46 rfl (by decide) _ _ _ rfl HQ7.out ⟨w6.heap.size, 0, none⟩ 1 1 [.int .i64 tv, .bool ts, .int .i64 tn, .slice p5 sn c5] rfl rfl hcA (by simp [Value.oneCell']) (by unfold maxLen; omega) (by omega) HLE.out ?_; intro v9 w9 hown9 hg9 _; have HO9 : Hid (w9.ownsRow bA 67 4 v9 (q + 1) (tcells (g.l.take q) tvl ++ [.int .i64 tv, .bool ts, .int .i64 tn, .slice p5 sn c5])) := hown9; have HG9 : Hid _ := hg9; obtain ⟨p9, c9, rfl⟩ := own_shape hown9; have KA9 : Hid (Blk w9 bA #[.bool ar, .slice pL q cL] 59) := blk_keepT (KA6.out.alloc _) (keep_grown HQ7.out hg9) (by decide); have a9 := KA9.out.cell 1; simp only [List.getElem?_toArray, List.getElem?_cons_succ, List.getElem?_cons_zero] at a9; have f9 := KA9.out.frozen; clear hown9 hg9)
          have hK9 := keep_grown HQ7.out HG9.out
          have hKs := keep_set KA9.out 1 (.slice p9 (q + 1) c9)
          have htl : (g.l.take q).length = q := by rw [List.length_take, HM.out]; omega
          refine ⟨⟨q + 1, by omega, by go_num, .slice p9 (q + 1) c9, tvl ++ [.slice p5 sn c5], KA9.out.set 1 _, ⟨by rw [List.length_append, HQ.out.1]; rfl, ?_, ?_⟩, ?_⟩, by simp [intOf]; omega⟩
          · intro i t' tv' h1 h2
            by_cases hi : i < q
            · rw [List.getElem?_take_of_lt (by omega)] at h1
              rw [List.getElem?_append_left (by rw [HQ.out.1]; exact hi)] at h2
              exact own_keepT (own_keepT (own_keepB (own_keepB (HQ.out.2.1 i t' tv' (by rw [List.getElem?_take_of_lt hi]; exact h1) h2) HB6.out) HBN.out) hK9 (by decide)) hKs (by decide)
            · have hi2 : i < q + 1 := by have := (List.getElem?_eq_some_iff.1 h2).1; rw [List.length_append, HQ.out.1] at this; exact this
              obtain rfl : i = q := by omega
              rw [List.getElem?_take_of_lt (by omega), HT.out] at h1
              rw [List.getElem?_append_right (by rw [HQ.out.1]; exact Nat.le_refl _), HQ.out.1] at h2
              simp only [Nat.sub_self, List.getElem?_cons_zero, Option.some.injEq] at h1 h2
              subst h1
              subst h2
              rw [HTT.out.2.2.2]
              exact own_keepT (own_keepT (own_keepB HO6.out HBN.out) hK9 (by decide)) hKs (by decide)
          · have h8 := own_keepT HO9.out hKs (by decide)
            rw [List.take_add_one, HT.out]
            show World.ownsRow _ _ _ _ _ _ (tcells (g.l.take q ++ [t]) _)
            rw [tcells_snoc _ _ (by rw [HQ.out.1, htl])]
            unfold Tm.cells
            rw [HTT.out.1, HTT.out.2.1, HTT.out.2.2.1]
            exact h8
          · have hle : bA ≤ wq.heap.size := by rw [HBT.out]; omega
            exact ((HBX.out.trans (HB6.out.mono hle)).trans ((HBN.out.mono (Nat.le_trans hle HB6.out.size)).trans (bel_grown HQ7.out HLE.out HG9.out))).setCell (Nat.le_refl bA) _
        · have hqt' : ¬ (q : Int) < m := by omega
          obtain rfl : q = m := by omega
          obtain ⟨pL, cL, rfl⟩ := own_shape HQ.out.2.2
          have hX6 : Below X.heap.size X wq := by rw [HBA.out]; exact HBX.out
          have KX6 : Hid (Blk wq (B + 1 + 1) #[.string ⟨nm.toArray⟩, vx] 56) := KX.out.below hX6
          have HAO6 : Hid (Ao B wq vx (ags.take k)) := HAO.out.below hX6
          have KC6 : Hid (Blk wq B #[.string ⟨nm.toArray⟩, .slice (some ⟨b, off, none⟩) n0 c0] 56) := KC.out.below hX6
          have KR6 : Hid (Blk wq (B + 1) #[.string ⟨#[]⟩, .slice none 0 0] 56) := KR.out.below hX6
          have t0 := KA.out.cell 0
          have t1 := KA.out.cell 1
          have d1 := KX6.out.cell 1
          have fX := KX6.out.frozen
          simp only [List.getElem?_toArray, List.getElem?_cons_succ, List.getElem?_cons_zero] at t0 t1 d1
          obtain ⟨svl, bnd, o1, o2, o3, o4, o5⟩ := HAO.out
          have hkl : (ags.take k).length = k := by rw [List.length_take, HN.out]; omega
          rw [hkl] at o5
          obtain ⟨px, cx, rfl⟩ := own_shape o5
          have HOO : Hid (svl.length = (ags.take k).length ∧ (∀ j, B ≤ bnd j ∧ bnd j ≤ bnd (j + 1)) ∧ bnd (ags.take k).length ≤ X.heap.size ∧ (∀ (j : Nat) (g : Ag) sv, (ags.take k)[j]? = some g → svl[j]? = some sv → Lo (bnd j) (bnd (j + 1)) X sv g.l)) := ⟨o1, o2, o3, o4⟩
          have hcA := new_cells wq [.bool ar, .slice pL q cL] 59
          have hbN : Below wq.heap.size wq (wq.alloc (Obj.cells #[.bool ar, .slice pL q cL] 59)) := (Below.refl _ wq).alloc (Nat.le_refl _) _
          have HQ7 : Hid ((wq.alloc (Obj.cells #[.bool ar, .slice pL q cL] 59)).ownsRow B 59 2 (.slice px k cx) k (acells (ags.take k) svl)) := own_keepB (own_keepB o5 hX6) hbN
          have hAq : Hid (bA ≤ wq.heap.size) := Nat.le_of_lt KA.out.lt
          have HLE : Hid (B ≤ (wq.alloc (Obj.cells #[.bool ar, .slice pL q cL] 59)).heap.size) := Nat.le_trans (by have := hAq.out; omega : B ≤ wq.heap.size) hbN.size
          have HBN : Hid _ := hbN
          have HX6 : Hid _ := hX6
          clear hbN hX6 o1 o2 o3 o4 o5 HAO HAO6
          go_upto_region 13 with (fail)
          clear y1 xc
          go_wp2_with (at_builtin; refine wpList_append_own _ rfl _ _ 54 rfl B 59 i54 _ 2 32 Tryz.underlying54 hi54 hz54 hs54 hb54 rfl (by decide) _ _ _ rfl HQ7.out ⟨wq.heap.size, 0, none⟩ 1 1 [.bool ar, .slice pL q cL] rfl rfl hcA (by simp [Value.oneCell']) (by unfold maxLen; omega) (by omega) HLE.out ?_; intro v9 w9 hown9 hg9 _; have HO9 : Hid (w9.ownsRow B 59 2 v9 (k + 1) (acells (ags.take k) svl ++ [.bool ar, .slice pL q cL])) := hown9; have HG9 : Hid _ := hg9; obtain ⟨p9, c9, rfl⟩ := own_shape hown9; have KX9 : Hid (Blk w9 (B + 1 + 1) #[.string ⟨nm.toArray⟩, .slice px k cx] 56) := blk_keepT (KX6.out.alloc _) (keep_grown HQ7.out hg9) (by decide); have a9 := KX9.out.cell 1; simp only [List.getElem?_toArray, List.getElem?_cons_succ, List.getElem?_cons_zero] at a9; have f9 := KX9.out.frozen; clear hown9 hg9)
          have hK9 := keep_grown HQ7.out HG9.out
          have hKs := keep_set KX9.out 1 (.slice p9 (k + 1) c9)
          have hBq : B ≤ wq.heap.size := by have := hAq.out; omega
          have hsz9 : wq.heap.size ≤ w9.heap.size := Nat.le_trans HBN.out.size hK9.size
          refine ⟨⟨k + 1, by omega, by go_num, .slice p9 (k + 1) c9, KX9.out.set 1 _, ?_, ?_, ?_, ?_, ?_⟩, by simp [intOf]; omega⟩
          · have htk : ags.take (k + 1) = ags.take k ++ [g] := by rw [List.take_add_one, HG.out]; rfl
            rw [Hid, htk]
            have hgl2 : g.l.take q = g.l := List.take_of_length_le (by rw [HM.out]; exact Nat.le_refl _)
            have hq2 := HQ.out
            rw [hgl2] at hq2
            have hlo : Lo (bnd (ags.take k).length) wq.heap.size wq (.slice pL q cL) g.l := ⟨tvl, by rw [hq2.1, HM.out], fun i t tv a b => own_lowerB (hq2.2.1 i t tv a b) (by have := HOO.out.2.2.1; rw [HBA.out] at this; exact this), by rw [HM.out]; exact own_lowerB hq2.2.2 (by have := HOO.out.2.2.1; rw [HBA.out] at this; exact this), fun g' e => own_lt hq2.2.2 e⟩
            refine Ao.snoc (sv := .slice pL q cL) HOO.out.1 HOO.out.2.1 (H := wq.heap.size) (by have := HOO.out.2.2.1; rw [HBA.out] at this; exact Nat.le_trans this hAq.out) (by rw [World.size_setCell]; exact hsz9) (fun j g' sv a b => ?_) ?_ ?_
            · exact ((((HOO.out.2.2.2 j g' sv a b).below HX6.out).below HBN.out).keep hK9 (by decide) (by decide)).keep hKs (by decide) (by decide)
            · exact ((hlo.below HBN.out).keep hK9 (by decide) (by decide)).keep hKs (by decide) (by decide)
            · have h8 := own_keepT HO9.out hKs (by decide)
              rw [hkl, HAR.out]
              exact h8
          · exact (blk_keepT (KC6.out.alloc _) hK9 (by decide)).other (by omega) _ _
          · exact (blk_keepT (KR6.out.alloc _) hK9 (by decide)).other (by omega) _ _
          · exact ((HBW.out.trans (HBN.out.mono hBq)).trans (bel_grown HQ7.out HLE.out HG9.out)).setCell (show B ≤ B + 1 + 1 by omega) _
          · rw [Hid, World.size_setCell]; have := hAq.out; omega
    · have hlt' : ¬ (k : Int) < n0 := by omega
      obtain rfl : k = n0 := by omega
      obtain ⟨p9, c9, rfl⟩ : ∃ p9 c9, vx = .slice p9 k c9 := by
        obtain ⟨svl, bnd, h1, h2, h3, h4, h5⟩ := HAO.out
        have h6 := own_shape h5
        rw [List.length_take, HN.out, Nat.min_self] at h6
        exact h6
      have d0 := KX.out.cell 0
      have d1 := KX.out.cell 1
      have e0 := KR.out.cell 0
      have e1 := KR.out.cell 1
      simp only [List.getElem?_toArray, List.getElem?_cons_succ, List.getElem?_cons_zero] at d0 d1 e0 e1
      have f1 := KR.out.frozen
      go_wp2
      refine ⟨rfl, _, results_cell_row (P := Tryz.prog) rfl _ _ (B + 1) 56 _ (0, 0) _ rfl ((KR.out.set 0 _).set 1 _).h Tryz.underlying56 rfl (by kernel_rfl), _, rfl, ?_, ?_⟩
      · have h7 := (HAO.out.keep (keep_set KR.out 0 (.string ⟨nm.toArray⟩)) (by decide) (by decide) (by decide)).keep (keep_set (KR.out.set 0 (.string ⟨nm.toArray⟩)) 1 (.slice p9 k c9)) (by decide) (by decide) (by decide)
        rw [List.take_of_length_le (by rw [HN.out]; exact Nat.le_refl _)] at h7
        rw [HBB.out]
        exact h7
      · rw [HBB.out]
        exact (HB.out.setCell (show B ≤ B + 1 by omega) _).setCell (show B ≤ B + 1 by omega) _
end Go.Proofs.YtdnhhmnllhlbbaaGreatDoor
