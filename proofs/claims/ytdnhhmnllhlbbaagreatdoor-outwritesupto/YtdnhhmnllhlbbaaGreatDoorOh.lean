/-
  What is proved here: Values of package out: the data that it makes.
-/
import Derived.Test.YtdnhhmnllhlbbaaGreatDoorOg
import Derived.Laws.MakeOwn
namespace Go.Proofs.YtdnhhmnllhlbbaaGreatDoor
open Go.RowKit Go.Shelf
set_option linter.unusedVariables false
set_option linter.unusedSimpArgs false

/-- Values in memory, none of their blocks in X. -/
def SvX (X : Nat → Prop) (w : World) (s : Value) (l : List Vl) : Prop := ∃ a c, s = .slice a l.length c ∧ (0 < l.length → ∃ b off, a = some ⟨b, off, none⟩ ∧ b < w.heap.size ∧ ¬ X b ∧ ∀ i v, l[i]? = some v → ∃ sv, Nm X w sv v.s ∧ w.cell? ⟨b, off + i * 3, none⟩ = some (.bool v.set) ∧ w.cell? ⟨b, off + i * 3 + 1, none⟩ = some (.int .i64 v.n) ∧ w.cell? ⟨b, off + i * 3 + 2, none⟩ = some sv)
theorem SvX.kept {X : Nat → Prop} {w w' : World} {s : Value} {l : List Vl} (h : SvX X w s l) (k : Kept X w w') : SvX X w' s l := by
  obtain ⟨a, c, e, h⟩ := h
  refine ⟨a, c, e, fun h0 => ?_⟩
  obtain ⟨b, off, e1, e2, e3, e4⟩ := h h0
  refine ⟨b, off, e1, Nat.lt_of_lt_of_le e2 k.size, e3, fun i v hv => ?_⟩
  obtain ⟨sv, f1, f2, f3, f4⟩ := e4 i v hv
  exact ⟨sv, f1.kept k, (k.cell e2 e3 _).trans f2, (k.cell e2 e3 _).trans f3, (k.cell e2 e3 _).trans f4⟩
theorem nm_si {X : Nat → Prop} {w : World} {s : Value} {l : List Int} (h : Nm X w s l) : Si 0 w s l := by
  obtain ⟨a, c, e, h⟩ := h
  exact ⟨a, c, e, fun h0 => by obtain ⟨b, off, e1, e2, _, e4⟩ := h h0; exact ⟨b, off, e1, Nat.zero_le _, e2, e4⟩⟩
theorem own_nm {X : Nat → Prop} {w : World} {B : Nat} {s : Value} {l : List Int} (h : w.ownsRow B 2 1 s l.length (intv l)) (hX : ∀ b, X b → b < B) : Nm X w s l := by
  rcases h.2 with ⟨rfl, h9⟩ | ⟨g, cg, cur, rfl, hB, hgb, hr⟩
  · refine ⟨none, 0, ?_, fun h0 => by omega⟩
    rw [h9]
  · refine ⟨_, _, rfl, fun h0 => ⟨g, 0, rfl, (Array.getElem?_eq_some_iff.1 hgb).1, fun q => by have := hX g q; omega, fun i x hx => ?_⟩⟩
    have := h.cells (g := g) rfl i (.int .i64 x) (by simp [intv, hx])
    rw [Addr.add_lit, Nat.zero_add] at this
    rw [Nat.zero_add]
    exact this
/-- Lists of values in memory. -/
def SvvX (X : Nat → Prop) (w : World) (s : Value) (ls : List (List Vl)) : Prop := ∃ a c, s = .slice a ls.length c ∧ (0 < ls.length → ∃ b off, a = some ⟨b, off, none⟩ ∧ b < w.heap.size ∧ ¬ X b ∧ ∀ i l, ls[i]? = some l → ∃ sv, SvX X w sv l ∧ w.cell? ⟨b, off + i, none⟩ = some sv)
theorem made_nil (n : Nat) : madeCells #[Value.slice none 0 0] n = (List.replicate n (Value.slice none 0 0)).toArray := by
  apply Array.ext'
  apply List.ext_getElem
  · simp [madeCells]
  · intro i h1 h2
    simp [madeCells, Nat.mod_one]
theorem Tryz.info23 : (Tryz.prog.info? 23).map (fun i => (i.zero, i.size, i.bytes)) = some (some (.slice none 0 0), 1, 24) := by kernel_rfl
theorem Tryz.info36 : (Tryz.prog.info? 36).map (fun i => (i.zero, i.size, i.bytes)) = some (some (.agg #[.bool false, .int .i64 0, .slice none 0 0]), 3, 40) := by kernel_rfl
theorem make28 (n : Nat) (hn : n ≤ 1000) (w : World) : (Instr.makeSlice 28 (.int .i64 (n : Int)) (.int .i64 (n : Int))).run Tryz.prog w = .ok (.slice (some ⟨w.heap.size, 0, none⟩) n n) (w.alloc (.cells (List.replicate n (Value.slice none 0 0)).toArray 23)) := by
  obtain ⟨i0, hi0, hz0, hz1, hz2⟩ := info_parts Tryz.info23
  have := run_make (P := Tryz.prog) w 28 23 i0 _ Tryz.underlying28 hi0 hz0 .i64 .i64 n n (by omega) (by omega) (by rw [hz2]; omega) (by omega)
  simpa [hz1, made_nil, Value.cells] using this
/-- A row of values while it grows: its own block, and those of the values' numbers, are none of X. -/
structure Gr (A F : Nat) (w : World) (h : Nat) (s : Value) (l : List Vl) : Prop where
  o : ∃ vs, Ow w 36 s 3 vs ∧ vs.length = l.length ∧ ∀ (i : Nat) (v : Vl) (c : List Value), l[i]? = some v → vs[i]? = some c → ∃ sv, c = [.bool v.set, .int .i64 v.n, sv] ∧ Nm (fun b => (b = A ∨ b < F) ∨ s.ownBlock = some b) w sv v.s
  b : ∀ g, s.ownBlock = some g → h ≤ g
theorem Gr.nil (A F h : Nat) (w : World) : Gr A F w h (.slice none 0 0) [] := ⟨⟨[], ⟨by simp, World.ownsRow_nil _ _ _ _⟩, rfl, fun i v c h => by simp at h⟩, fun g e => by cases e⟩
/-- It is kept while nothing but A turns that is older. -/
theorem Gr.kept {A F h : Nat} {w w' : World} {s : Value} {l : List Vl} (g : Gr A F w h s l) (k : Kept (fun b => b = A) w w') (hA : A < h) : Gr A F w' h s l := by
  obtain ⟨vs, h1, h2, h3⟩ := g.o
  have hne : ∀ b, s.ownBlock = some b → ¬ b = A := fun b e q => by have := g.b b e; omega
  refine ⟨⟨vs, h1.keep (fun b e => k.block b (h1.lt e) (hne b e)), h2, fun i v c hv hc => ?_⟩, g.b⟩
  obtain ⟨sv, e, hs⟩ := h3 i v c hv hc
  refine ⟨sv, e, ?_⟩
  obtain ⟨a, c', e1, h⟩ := hs
  refine ⟨a, c', e1, fun h0 => ?_⟩
  obtain ⟨b, off, e1, e2, e3, e4⟩ := h h0
  exact ⟨b, off, e1, Nat.lt_of_lt_of_le e2 k.size, e3, fun i x hx => (k.cell e2 (fun q => e3 (.inl (.inl q))) _).trans (e4 i x hx)⟩
/-- At its end it is a list of values. -/
theorem Gr.done {A F h : Nat} {w : World} {s : Value} {l : List Vl} (g : Gr A F w h s l) (hA : A < h) (hF : F ≤ h) : SvX (fun b => b = A ∨ b < F) w s l := by
  obtain ⟨vs, h1, h2, h3⟩ := g.o
  obtain ⟨a, c, rfl, _, _⟩ := h1.shape
  refine ⟨a, c, by rw [h2], fun h0 => ?_⟩
  obtain ⟨c0, hc0⟩ : ∃ c0, vs[0]? = some c0 := ⟨_, List.getElem?_eq_getElem (by omega)⟩
  obtain ⟨b, cap, e1, hb, _, _, _, _⟩ := h1.at hc0
  injection e1 with e1 _ _
  subst e1
  refine ⟨b, 0, rfl, hb, fun q => by have := g.b b rfl; omega, fun i v hv => ?_⟩
  obtain ⟨ci, hci⟩ : ∃ c0, vs[i]? = some c0 := ⟨_, List.getElem?_eq_getElem (by rw [h2]; exact (List.getElem?_eq_some_iff.1 hv).1)⟩
  obtain ⟨sv, rfl, hs⟩ := h3 i v ci hv hci
  obtain ⟨b', cap', e1, _, _, _, hr, _⟩ := h1.at hci
  injection e1 with e1 _ _
  injection e1 with e1
  injection e1 with e1 _ _
  subst e1
  have r0 := hr 0 _ rfl
  have r1 := hr 1 _ rfl
  have r2 := hr 2 _ rfl
  refine ⟨sv, ?_, by simpa using r0, by simpa using r1, by simpa using r2⟩
  obtain ⟨a', c', e, h⟩ := hs
  exact ⟨a', c', e, fun h0 => by obtain ⟨b2, off, f1, f2, f3, f4⟩ := h h0; exact ⟨b2, off, f1, f2, fun q => f3 (.inl q), f4⟩⟩
/-- One value more: behind an append to the row. -/
theorem Gr.snoc {A F h : Nat} {w w' : World} {s s' : Value} {l : List Vl} {v : Vl} {sv : Value} (g : Gr A F w h s l) (hA : A < h) (hw : h ≤ w.heap.size) (hn : Nm (fun b => (b = A ∨ b < F) ∨ s.ownBlock = some b) w sv v.s)
    {vs : List (List Value)} (h2 : vs.length = l.length) (h3 : ∀ (i : Nat) (v : Vl) (c : List Value), l[i]? = some v → vs[i]? = some c → ∃ sv, c = [.bool v.set, .int .i64 v.n, sv] ∧ Nm (fun b => (b = A ∨ b < F) ∨ s.ownBlock = some b) w sv v.s)
    (k1 : Ow w' 36 s' 3 (vs ++ [[.bool v.set, .int .i64 v.n, sv]])) (k2 : w.grownBy w' s.ownBlock) (k3 : ∀ b, s'.ownBlock = some b → s.ownBlock = some b ∨ w.heap.size ≤ b) : Gr A F w' h s' (l ++ [v]) := by
  have conv : ∀ sv (l : List Int), Nm (fun b => (b = A ∨ b < F) ∨ s.ownBlock = some b) w sv l → Nm (fun b => (b = A ∨ b < F) ∨ s'.ownBlock = some b) w' sv l := fun sv l q => by
    obtain ⟨a, c, e, q⟩ := q
    refine ⟨a, c, e, fun h0 => ?_⟩
    obtain ⟨b, off, e1, e2, e3, e4⟩ := q h0
    have e5 : some b ≠ s.ownBlock := fun r => e3 (.inr r.symm)
    refine ⟨b, off, e1, Nat.lt_of_lt_of_le e2 k2.size, fun r => ?_, fun i x hx => (World.cell?_of_block (a := ⟨b, off + i, none⟩) (k2.block b e2 e5)).trans (e4 i x hx)⟩
    rcases r with r | r
    · exact e3 (.inl r)
    · rcases k3 b r with r | r
      · exact e3 (.inr r)
      · omega
  refine ⟨⟨_, k1, by simp [h2], fun i x c hx hc => ?_⟩, fun b e => ?_⟩
  · rcases Nat.lt_trichotomy i l.length with q | q | q
    · rw [List.getElem?_append_left q] at hx
      rw [List.getElem?_append_left (by omega)] at hc
      obtain ⟨sv2, e1, e2⟩ := h3 i x c hx hc
      exact ⟨sv2, e1, conv _ _ e2⟩
    · subst q
      rw [List.getElem?_append_right (Nat.le_refl _), Nat.sub_self] at hx
      rw [List.getElem?_append_right (by omega), h2, Nat.sub_self] at hc
      simp at hx hc
      subst hx hc
      exact ⟨sv, rfl, conv _ _ hn⟩
    · rw [List.getElem?_eq_none (by simp; omega)] at hx
      cases hx
  · rcases k3 b e with q | q
    · exact g.b b q
    · omega

theorem Nm.mono {X Y : Nat → Prop} {w : World} {s : Value} {l : List Int} (h : Nm X w s l) (hXY : ∀ b, Y b → X b) : Nm Y w s l := by
  obtain ⟨a, c, e, h⟩ := h
  exact ⟨a, c, e, fun h0 => by obtain ⟨b, off, e1, e2, e3, e4⟩ := h h0; exact ⟨b, off, e1, e2, fun q => e3 (hXY b q), e4⟩⟩
theorem SvX.mono {X Y : Nat → Prop} {w : World} {s : Value} {l : List Vl} (h : SvX X w s l) (hXY : ∀ b, Y b → X b) : SvX Y w s l := by
  obtain ⟨a, c, e, h⟩ := h
  refine ⟨a, c, e, fun h0 => ?_⟩
  obtain ⟨b, off, e1, e2, e3, e4⟩ := h h0
  refine ⟨b, off, e1, e2, fun q => e3 (hXY b q), fun i v hv => ?_⟩
  obtain ⟨sv, ⟨a', c', e', f1⟩, f2, f3, f4⟩ := e4 i v hv
  exact ⟨sv, ⟨a', c', e', fun h0 => by obtain ⟨b2, off2, g1, g2, g3, g4⟩ := f1 h0; exact ⟨b2, off2, g1, g2, fun q => g3 (hXY b2 q), g4⟩⟩, f2, f3, f4⟩
/-- The lists that are made already, in a block of slices. -/
structure Made (A F : Nat) (w : World) (n : Nat) (ss : List Value) (xs : List (List Vl)) : Prop where
  len : ss.length = n
  blk : Blk w A ss.toArray 23
  done : ∀ (j : Nat) (x : List Vl), xs[j]? = some x → ∃ sj, ss[j]? = some sj ∧ SvX (fun b => b = A ∨ b < F) w sj x
  rest : ∀ j, xs.length ≤ j → j < n → ss[j]? = some (.slice none 0 0)
theorem Made.kept {A F n : Nat} {w w' : World} {ss : List Value} {xs : List (List Vl)} (h : Made A F w n ss xs) (k : Kept (fun b => b = A) w w') : ∀ (j : Nat) (x : List Vl), xs[j]? = some x → ∃ sj, ss[j]? = some sj ∧ SvX (fun b => b = A ∨ b < F) w' sj x := fun j x hx => by
  obtain ⟨sj, h1, h2⟩ := h.done j x hx
  refine ⟨sj, h1, ?_⟩
  obtain ⟨a, c, e, h⟩ := h2
  refine ⟨a, c, e, fun h0 => ?_⟩
  obtain ⟨b, off, e1, e2, e3, e4⟩ := h h0
  refine ⟨b, off, e1, Nat.lt_of_lt_of_le e2 k.size, e3, fun i v hv => ?_⟩
  obtain ⟨sv, ⟨a', c', e', f1⟩, f2, f3, f4⟩ := e4 i v hv
  have hb : ¬ b = A := fun q => e3 (.inl q)
  exact ⟨sv, ⟨a', c', e', fun h0 => by obtain ⟨b2, off2, g1, g2, g3, g4⟩ := f1 h0; exact ⟨b2, off2, g1, Nat.lt_of_lt_of_le g2 k.size, g3, fun i x hx => (k.cell g2 (fun q => g3 (.inl q)) _).trans (g4 i x hx)⟩⟩, (k.cell e2 hb _).trans f2, (k.cell e2 hb _).trans f3, (k.cell e2 hb _).trans f4⟩
def okT (k : Int) (vals : List Vl) (t : Tm) : Bool := (voV t vals).2 && isVal (voV t vals).1.set (voV t vals).1.n (voV t vals).1.s k
theorem ouV_some {o : Ou} {vals : List Vl} (h : ∀ t ∈ o.l, okT o.kind vals t = true) : ouV o vals = some (o.l.map fun t => (voV t vals).1) := by
  have h2 : (o.l.all fun t => (voV t vals).2 && isVal (voV t vals).1.set (voV t vals).1.n (voV t vals).1.s o.kind) = true := List.all_eq_true.2 h
  unfold ouV
  rw [if_pos h2]
theorem ouV_none {o : Ou} {vals : List Vl} {t : Tm} (ht : t ∈ o.l) (h : okT o.kind vals t = false) : ouV o vals = none := by
  unfold ouV
  rw [if_neg]
  intro q
  have := List.all_eq_true.1 q t ht
  unfold okT at h
  rw [h] at this
  cases this
theorem ousV_none {vals : List Vl} : ∀ {l : List Ou} {o : Ou}, o ∈ l → ouV o vals = none → ousV l vals = none
  | x :: r, o, ho, h => by
    unfold ousV
    rcases List.mem_cons.1 ho with rfl | q
    · rw [h]
    · rw [ousV_none q h]
      cases ouV x vals <;> rfl
theorem ousV_snoc {vals : List Vl} : ∀ {l : List Ou} {o : Ou} {xs : List (List Vl)} {y : List Vl}, ousV l vals = some xs → ouV o vals = some y → ousV (l ++ [o]) vals = some (xs ++ [y])
  | [], o, xs, y, h, k => by
    simp only [ousV] at h
    injection h with h
    subst h
    simp [ousV, k]
  | x :: r, o, xs, y, h, k => by
    simp only [ousV] at h
    cases h1 : ouV x vals with
    | none => rw [h1] at h; simp at h
    | some a =>
      cases h2 : ousV r vals with
      | none => rw [h1, h2] at h; simp at h
      | some b =>
        rw [h1, h2] at h
        simp at h
        subst h
        have := ousV_snoc h2 k
        simp only [List.cons_append, ousV, h1, this]
theorem ousV_len {vals : List Vl} : ∀ {l : List Ou} {xs : List (List Vl)}, ousV l vals = some xs → xs.length = l.length
  | [], xs, h => by simp only [ousV] at h; injection h with h; subst h; rfl
  | x :: r, xs, h => by
    simp only [ousV] at h
    cases h1 : ouV x vals with
    | none => rw [h1] at h; simp at h
    | some a =>
      cases h2 : ousV r vals with
      | none => rw [h1, h2] at h; simp at h
      | some b =>
        rw [h1, h2] at h
        simp at h
        subst h
        simp [ousV_len h2]
/-- Of outputs that can be: how many, and what their terms are. -/
theorem right_ok {l : List Ou} (h : RightN l = 0) : l.length ≤ 1000 ∧ ∀ o ∈ l, wrB o = false := by
  unfold RightN at h
  by_cases h1 : 1000 < l.length
  · rw [if_pos h1] at h; cases h
  · rw [if_neg h1] at h
    refine ⟨by omega, fun o ho => ?_⟩
    cases h2 : anyB (wrA l) l.length with
    | true => rw [h2] at h; simp at h
    | false =>
      obtain ⟨i, hi⟩ := List.getElem?_of_mem ho
      rw [anyB, List.any_eq_false] at h2
      have := h2 i (List.mem_range.2 (List.getElem?_eq_some_iff.1 hi).1)
      unfold wrA at this
      rw [hi] at this
      simpa using this
theorem wr_ok {o : Ou} (h : wrB o = false) : wordB o.nm = true ∧ kindB o.kind = true ∧ shB o = true ∧ ∀ t ∈ o.l, wtB t o.kind = false := by
  unfold wrB at h
  simp only [Bool.or_eq_false_iff, Bool.not_eq_false'] at h
  obtain ⟨h1, h2, h3, h4⟩ := h
  refine ⟨h1, h2, h3, fun t ht => ?_⟩
  obtain ⟨i, hi⟩ := List.getElem?_of_mem ht
  rw [anyB, List.any_eq_false] at h4
  have := h4 i (List.mem_range.2 (List.getElem?_eq_some_iff.1 hi).1)
  unfold wtA at this
  rw [hi] at this
  simpa using this
theorem wt_ok {t : Tm} {k : Int} (h : wtB t k = false) : -1 ≤ t.v := by
  unfold wtB at h
  simp at h
  omega
end Go.Proofs.YtdnhhmnllhlbbaaGreatDoor
