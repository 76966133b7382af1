/-
  What is proved here: domains and rows in memory: how they read, and what a store into a row leaves.
-/
import Derived.Test.YtghnfnieppfhgaaGreatZEfj
import Derived.Test.YtghnfnieppfhgaaGreatZXdj
import Derived.Deep.MidRow
namespace Go.Proofs.YtghnfnieppfhgaaGreat
open Go.RowKit Go.Shelf
set_option linter.unusedVariables false
set_option linter.unusedSimpArgs false

/-- A domain. -/
structure MD where
  set : Bool
  r : List Dm.Rg
  lo : List Int
  up : List Int
  least : Int
  most : Int
/-- Nothing that was there has turned but in blocks of which X holds. -/
structure Kept (X : Nat → Prop) (w w' : World) : Prop where
  os : w'.os = w.os
  tape : w'.tape = w.tape
  output : w'.output = w.output
  size : w.heap.size ≤ w'.heap.size
  block : ∀ b, b < w.heap.size → ¬ X b → w'.heap[b]? = w.heap[b]?
theorem Kept.refl (X : Nat → Prop) (w : World) : Kept X w w := ⟨rfl, rfl, rfl, Nat.le_refl _, fun _ _ _ => rfl⟩
/-- X' holds of no old block more than X. -/
def Up (X X' : Nat → Prop) (w : World) : Prop := ∀ b, X' b → X b ∨ w.heap.size ≤ b
theorem Up.refl (X : Nat → Prop) (w : World) : Up X X w := fun _ h => .inl h
theorem Kept.trans {X Y : Nat → Prop} {a b c : World} (h : Kept X a b) (k : Kept Y b c) (u : Up X Y a) : Kept X a c :=
  ⟨k.os.trans h.os, k.tape.trans h.tape, k.output.trans h.output, Nat.le_trans h.size k.size, fun n hn hX =>
    (k.block n (Nat.lt_of_lt_of_le hn h.size) (fun hY => (u n hY).elim hX (fun q => by omega))).trans (h.block n hn hX)⟩
theorem Kept.of_below {X : Nat → Prop} {w w' : World} (h : Below w.heap.size w w') : Kept X w w' := ⟨h.os, h.tape, h.output, h.size, fun b hb _ => h.block b hb⟩
theorem Kept.below {X : Nat → Prop} {w w' : World} (h : Kept X w w') {B : Nat} (hB : B ≤ w.heap.size) (hX : ∀ b, X b → B ≤ b) : Below B w w' :=
  ⟨h.os, h.tape, h.output, h.size, fun b hb => h.block b (by omega) (fun q => by have := hX b q; omega)⟩
theorem Kept.cell {X : Nat → Prop} {w w' : World} (h : Kept X w w') {b : Nat} (hb : b < w.heap.size) (hX : ¬ X b) (o : Nat) : w'.cell? ⟨b, o, none⟩ = w.cell? ⟨b, o, none⟩ := World.cell?_of_block (a := ⟨b, o, none⟩) (h.block b hb hX)
theorem Kept.setCell {X : Nat → Prop} {a w : World} (h : Kept X a w) {g : Nat} (hX : X g) (o : Nat) (v : Value) : Kept X a (w.setCell ⟨g, o, none⟩ v) :=
  ⟨h.os, h.tape, h.output, by simpa [World.setCell] using h.size, fun b hb hx => (Below.heap_setCell w ⟨g, o, none⟩ v b (fun e => hx (by rw [e]; exact hX))).trans (h.block b hb hx)⟩
theorem Kept.setCells {X : Nat → Prop} {a : World} {g : Nat} (hX : X g) : ∀ (vs : List Value) (o : Nat) {w : World}, Kept X a w → Kept X a (w.setCells g o vs)
  | [], _, _, h => h
  | v :: r, o, _, h => Kept.setCells hX r (o + 1) (h.setCell hX o v)
theorem Kept.then_below {X : Nat → Prop} {a w w' : World} (h : Kept X a w) (hb : Below w.heap.size w w') : Kept X a w' :=
  ⟨hb.os.trans h.os, hb.tape.trans h.tape, hb.output.trans h.output, Nat.le_trans h.size hb.size, fun b q hx => (hb.block b (Nat.lt_of_lt_of_le q h.size)).trans (h.block b q hx)⟩
/-- Numbers in memory, in a block of which X does not hold. -/
def Nm (X : Nat → Prop) (w : World) (s : Value) (l : List Int) : Prop :=
  ∃ a c, s = .slice a l.length c ∧ (0 < l.length → ∃ b off, a = some ⟨b, off, none⟩ ∧ b < w.heap.size ∧ ¬ X b ∧ ∀ i x, l[i]? = some x → w.cell? ⟨b, off + i, none⟩ = some (.int .i64 x))
/-- Ranges in memory. -/
def Rm (X : Nat → Prop) (w : World) (s : Value) (l : List Dm.Rg) : Prop :=
  ∃ a c, s = .slice a l.length c ∧ (0 < l.length → ∃ b off, a = some ⟨b, off, none⟩ ∧ b < w.heap.size ∧ ¬ X b ∧ ∀ i, i < l.length → w.cell? ⟨b, off + i * 2, none⟩ = some (.int .i64 (Dm.lo l i)) ∧ w.cell? ⟨b, off + i * 2 + 1, none⟩ = some (.int .i64 (Dm.hi l i)))
theorem Nm.kept {X : Nat → Prop} {w w' : World} {s : Value} {l : List Int} (h : Nm X w s l) (k : Kept X w w') : Nm X w' s l := by
  obtain ⟨a, c, e, h⟩ := h
  refine ⟨a, c, e, fun h0 => ?_⟩
  obtain ⟨b, off, e1, e2, e3, e4⟩ := h h0
  exact ⟨b, off, e1, Nat.lt_of_lt_of_le e2 k.size, e3, fun i x hx => (k.cell e2 e3 _).trans (e4 i x hx)⟩
theorem Rm.kept {X : Nat → Prop} {w w' : World} {s : Value} {l : List Dm.Rg} (h : Rm X w s l) (k : Kept X w w') : Rm X w' s l := by
  obtain ⟨a, c, e, h⟩ := h
  refine ⟨a, c, e, fun h0 => ?_⟩
  obtain ⟨b, off, e1, e2, e3, e4⟩ := h h0
  exact ⟨b, off, e1, Nat.lt_of_lt_of_le e2 k.size, e3, fun i hi => ⟨(k.cell e2 e3 _).trans (e4 i hi).1, (k.cell e2 e3 _).trans (e4 i hi).2⟩⟩
theorem Nm.up {X X' : Nat → Prop} {w : World} {s : Value} {l : List Int} (h : Nm X w s l) (u : Up X X' w) : Nm X' w s l := by
  obtain ⟨a, c, e, h⟩ := h
  refine ⟨a, c, e, fun h0 => ?_⟩
  obtain ⟨b, off, e1, e2, e3, e4⟩ := h h0
  exact ⟨b, off, e1, e2, fun q => (u b q).elim e3 (fun q => by omega), e4⟩
theorem Rm.up {X X' : Nat → Prop} {w : World} {s : Value} {l : List Dm.Rg} (h : Rm X w s l) (u : Up X X' w) : Rm X' w s l := by
  obtain ⟨a, c, e, h⟩ := h
  refine ⟨a, c, e, fun h0 => ?_⟩
  obtain ⟨b, off, e1, e2, e3, e4⟩ := h h0
  exact ⟨b, off, e1, e2, fun q => (u b q).elim e3 (fun q => by omega), e4⟩
theorem Nm.go {X X' : Nat → Prop} {w w' : World} {s : Value} {l : List Int} (h : Nm X w s l) (k : Kept X w w') (u : Up X X' w) : Nm X' w' s l := by
  obtain ⟨a, c, e, h⟩ := h
  refine ⟨a, c, e, fun h0 => ?_⟩
  obtain ⟨b, off, e1, e2, e3, e4⟩ := h h0
  exact ⟨b, off, e1, Nat.lt_of_lt_of_le e2 k.size, fun q => (u b q).elim e3 (fun q => by omega), fun i x hx => (k.cell e2 e3 _).trans (e4 i x hx)⟩
theorem Rm.go {X X' : Nat → Prop} {w w' : World} {s : Value} {l : List Dm.Rg} (h : Rm X w s l) (k : Kept X w w') (u : Up X X' w) : Rm X' w' s l := by
  obtain ⟨a, c, e, h⟩ := h
  refine ⟨a, c, e, fun h0 => ?_⟩
  obtain ⟨b, off, e1, e2, e3, e4⟩ := h h0
  exact ⟨b, off, e1, Nat.lt_of_lt_of_le e2 k.size, fun q => (u b q).elim e3 (fun q => by omega), fun i hi => ⟨(k.cell e2 e3 _).trans (e4 i hi).1, (k.cell e2 e3 _).trans (e4 i hi).2⟩⟩
theorem Rm.sr {X : Nat → Prop} {w : World} {s : Value} {l : List Dm.Rg} (h : Rm X w s l) : Dm.Sr w s l := by
  obtain ⟨a, c, e, h⟩ := h
  refine ⟨a, c, e, fun h0 => ?_⟩
  obtain ⟨b, off, e1, e2, e3, e4⟩ := h h0
  exact ⟨b, off, e1, e2, e4⟩
/-- The six cells c hold the domain d. -/
def Dc (X : Nat → Prop) (w : World) (c : List Value) (d : MD) : Prop :=
  ∃ ra rc a1 c1 a2 c2, c = [.bool d.set, .slice ra d.r.length rc, .slice a1 d.lo.length c1, .slice a2 d.up.length c2, .int .i64 d.least, .int .i64 d.most] ∧ Rm X w (.slice ra d.r.length rc) d.r ∧ Nm X w (.slice a1 d.lo.length c1) d.lo ∧ Nm X w (.slice a2 d.up.length c2) d.up
theorem Dc.kept {X : Nat → Prop} {w w' : World} {c : List Value} {d : MD} (h : Dc X w c d) (k : Kept X w w') : Dc X w' c d := by
  obtain ⟨ra, rc, a1, c1, a2, c2, e, h1, h2, h3⟩ := h
  exact ⟨ra, rc, a1, c1, a2, c2, e, h1.kept k, h2.kept k, h3.kept k⟩
theorem Dc.up {X X' : Nat → Prop} {w : World} {c : List Value} {d : MD} (h : Dc X w c d) (u : Up X X' w) : Dc X' w c d := by
  obtain ⟨ra, rc, a1, c1, a2, c2, e, h1, h2, h3⟩ := h
  exact ⟨ra, rc, a1, c1, a2, c2, e, h1.up u, h2.up u, h3.up u⟩
theorem Dc.go {X X' : Nat → Prop} {w w' : World} {c : List Value} {d : MD} (h : Dc X w c d) (k : Kept X w w') (u : Up X X' w) : Dc X' w' c d := by
  obtain ⟨ra, rc, a1, c1, a2, c2, e, h1, h2, h3⟩ := h
  exact ⟨ra, rc, a1, c1, a2, c2, e, h1.go k u, h2.go k u, h3.go k u⟩
theorem Dc.below {X : Nat → Prop} {w w' : World} {c : List Value} {d : MD} (h : Dc X w c d) (k : Below w.heap.size w w') : Dc X w' c d := h.kept (Kept.of_below k)
theorem Dc.len {X : Nat → Prop} {w : World} {c : List Value} {d : MD} (h : Dc X w c d) : c.length = 6 := by
  obtain ⟨ra, rc, a1, c1, a2, c2, rfl, _⟩ := h; rfl
theorem Dc.one {X : Nat → Prop} {w : World} {c : List Value} {d : MD} (h : Dc X w c d) : ∀ v ∈ c, v.oneCell' = true := by
  obtain ⟨ra, rc, a1, c1, a2, c2, rfl, _⟩ := h
  intro v hv
  simp at hv
  rcases hv with rfl | rfl | rfl | rfl | rfl | rfl <;> rfl
/-- Where a list was before. -/
def wr : Array Value → Nat → List Value → Array Value
  | cur, _, [] => cur
  | cur, o, v :: r => wr (cur.setIfInBounds o v) (o + 1) r
theorem wr_size : ∀ (l : List Value) (cur : Array Value) (o : Nat), (wr cur o l).size = cur.size
  | [], _, _ => rfl
  | v :: r, cur, o => by rw [wr, wr_size r]; simp
theorem wr_get : ∀ (l : List Value) (cur : Array Value) (o j : Nat), o + l.length ≤ cur.size → (wr cur o l).toList[j]? = if o ≤ j ∧ j < o + l.length then l[j - o]? else cur.toList[j]?
  | [], cur, o, j, h => by rw [wr, if_neg (by simp)]
  | v :: r, cur, o, j, h => by
    have h' : o + (r.length + 1) ≤ cur.size := h
    rw [wr, wr_get r _ (o + 1) j (by simp; omega)]
    by_cases h1 : o + 1 ≤ j ∧ j < o + 1 + r.length
    · rw [if_pos h1, if_pos (by simp; omega), show j - o = j - (o + 1) + 1 by omega, List.getElem?_cons_succ]
    · rw [if_neg h1]
      by_cases h2 : j = o
      · subst h2
        rw [if_pos (by simp), Nat.sub_self, Array.toList_setIfInBounds, List.getElem?_set_self (by simp; omega)]; rfl
      · rw [if_neg (by simp; omega), Array.toList_setIfInBounds, List.getElem?_set_ne (by omega)]
theorem heap_setCell_in {w : World} {g j : Nat} {v : Value} {cur : Array Value} {t : TypeId} {fr : Nat × Nat} (h : w.heap[g]? = some (.cells cur t fr)) (hj : j < cur.size) : (w.setCell ⟨g, j, none⟩ v).heap[g]? = some (.cells (cur.setIfInBounds j v) t fr) := by
  have hg := (Array.getElem?_eq_some_iff.1 h).1
  have hx := (Array.getElem?_eq_some_iff.1 h).2
  rw [Array.getElem?_eq_some_iff]
  exact ⟨by simpa [World.setCell] using hg, by simp [World.setCell, Array.getElem_modify, hx]⟩
theorem heap_setCells : ∀ (l : List Value) (o : Nat) {w : World} {g : Nat} {cur : Array Value} {t : TypeId} {fr : Nat × Nat}, w.heap[g]? = some (.cells cur t fr) → o + l.length ≤ cur.size → (w.setCells g o l).heap[g]? = some (.cells (wr cur o l) t fr)
  | [], _, _, _, _, _, _, h, _ => h
  | v :: r, o, w, g, cur, t, fr, h, hj => by
    have hj' : o + (r.length + 1) ≤ cur.size := hj
    exact heap_setCells r (o + 1) (heap_setCell_in h (by omega)) (by simp; omega)
theorem flat_len {k : Nat} : ∀ {vs : List (List Value)}, (∀ c ∈ vs, c.length = k) → vs.flatten.length = vs.length * k
  | [], _ => by simp
  | c :: r, h => by
    rw [List.flatten_cons, List.length_append, h c (by simp), flat_len (fun x hx => h x (by simp [hx])), List.length_cons, Nat.succ_mul]; omega
theorem flat_get {k : Nat} : ∀ {vs : List (List Value)}, (∀ c ∈ vs, c.length = k) → ∀ q r, r < k → vs.flatten[q * k + r]? = (vs[q]?).bind (·[r]?)
  | [], _, _, _, _ => by simp
  | c :: rest, h, 0, r, hr => by
    rw [List.flatten_cons, Nat.zero_mul, Nat.zero_add, List.getElem?_append_left (by rw [h c (by simp)]; exact hr)]; simp
  | c :: rest, h, q + 1, r, hr => by
    rw [List.flatten_cons, List.getElem?_append_right (by rw [h c (by simp), Nat.succ_mul]; omega), h c (by simp), show (q + 1) * k + r - k = q * k + r by rw [Nat.succ_mul]; omega, flat_get (fun x hx => h x (by simp [hx])) q r hr, List.getElem?_cons_succ]
/-- A row of own memory: a slice of elements of k cells. -/
def Rw (w : World) (t : TypeId) (s : Value) (k : Nat) (vs : List (List Value)) : Prop := (∀ c ∈ vs, c.length = k) ∧ w.ownsRow 0 t k s vs.length vs.flatten
theorem Rw.shape {w : World} {t : TypeId} {s : Value} {k : Nat} {vs : List (List Value)} (h : Rw w t s k vs) : ∃ a c, s = .slice a vs.length c ∧ vs.length ≤ c ∧ c ≤ maxLen := by
  rcases h.2.2 with ⟨e1, e2⟩ | ⟨g, cap, cur, e1, _, _, e2, e3, _⟩
  · exact ⟨none, 0, by rw [e2]; exact e1, by omega, by unfold maxLen; omega⟩
  · exact ⟨_, cap, e1, e2, e3⟩
theorem Rw.lt {w : World} {t : TypeId} {s : Value} {k : Nat} {vs : List (List Value)} (h : Rw w t s k vs) {g : Nat} (hg : s.ownBlock = some g) : g < w.heap.size := (h.2.lt g hg).2
theorem Rw.at {w : World} {t : TypeId} {s : Value} {k : Nat} {vs : List (List Value)} (h : Rw w t s k vs) {i : Nat} {c : List Value} (hc : vs[i]? = some c) :
    ∃ g cap, s = .slice (some ⟨g, 0, none⟩) vs.length cap ∧ g < w.heap.size ∧ vs.length ≤ cap ∧ cap ≤ maxLen ∧ w.rangeAt g (i * k) c ∧ w.there g (i * k) k := by
  have hi : i < vs.length := (List.getElem?_eq_some_iff.1 hc).1
  have hk := h.1 c (List.mem_iff_getElem?.2 ⟨i, hc⟩)
  rcases h.2.2 with ⟨e1, e2⟩ | ⟨g, cap, cur, e1, _, hg, hn, hm, hs, ht⟩
  · omega
  · have hbd : i * k + k ≤ vs.length * k := by have : (i + 1) * k ≤ vs.length * k := Nat.mul_le_mul_right _ hi; rw [Nat.succ_mul] at this; omega
    have hcap : vs.length * k ≤ cap * k := Nat.mul_le_mul_right _ hn
    refine ⟨g, cap, e1, (Array.getElem?_eq_some_iff.1 hg).1, hn, hm, fun j v hv => ?_, fun j hj => ?_⟩
    · have hj : j < k := by have := (List.getElem?_eq_some_iff.1 hv).1; omega
      rw [cell_of_row w g _ cur t (0, 0) hg]
      have := flat_get h.1 i j hj
      rw [← ht, List.getElem?_take, if_pos (by omega), Array.getElem?_toList, hc] at this
      rw [this]; exact hv
    · constructor
      · rw [cell_of_row w g _ cur t (0, 0) hg, Array.getElem?_eq_getElem (by omega)]; rfl
      · simp [World.frozen?, hg]
theorem Rw.put {w : World} {t : TypeId} {s : Value} {k : Nat} {vs : List (List Value)} (h : Rw w t s k vs) {i g cap : Nat} {c : List Value} (hi : i < vs.length) (hk : c.length = k) (hs : s = .slice (some ⟨g, 0, none⟩) vs.length cap) : Rw (w.setCells g (i * k) c) t s k (vs.set i c) := by
  rcases h.2.2 with ⟨e1, e2⟩ | ⟨g', cap', cur, e1, e0, hg, hn, hm, hsz, ht⟩
  · omega
  · rw [hs] at e1
    injection e1 with e1 _ e3
    injection e1 with e1
    injection e1 with e1 _ _
    subst e1 e3
    have hbd : i * k + k ≤ vs.length * k := by have : (i + 1) * k ≤ vs.length * k := Nat.mul_le_mul_right _ hi; rw [Nat.succ_mul] at this; omega
    have hcap : vs.length * k ≤ cap * k := Nat.mul_le_mul_right _ hn
    have hall : ∀ x ∈ vs.set i c, x.length = k := fun x hx => by
      rcases List.mem_or_eq_of_mem_set hx with hx | rfl
      · exact h.1 x hx
      · exact hk
    refine ⟨hall, by rw [flat_len hall], .inr ⟨g, cap, wr cur (i * k) c, by rw [List.length_set]; exact hs, e0, heap_setCells c _ hg (by omega), by rw [List.length_set]; exact hn, hm, by rw [wr_size]; exact hsz, ?_⟩⟩
    rw [List.length_set]
    apply List.ext_getElem?
    intro j
    rw [List.getElem?_take]
    by_cases hj : j < vs.length * k
    · rw [if_pos hj, wr_get c cur (i * k) j (by omega)]
      have hk0 : 0 < k := by rcases Nat.eq_zero_or_pos k with e | e; (subst e; simp at hj); exact e
      have ej : j = j / k * k + j % k := by rw [Nat.mul_comm]; exact (Nat.div_add_mod j k).symm
      have hr := Nat.mod_lt j hk0
      have e1 := flat_get hall (j / k) (j % k) hr
      have e2 := flat_get h.1 (j / k) (j % k) hr
      rw [← ej] at e1 e2
      rw [e1]
      by_cases hq : j / k = i
      · rw [if_pos (by rw [hk]; rw [hq] at ej; omega), hq, List.getElem?_set_self hi, show j - i * k = j % k by rw [hq] at ej; omega]; rfl
      · have hne : ¬ (i * k ≤ j ∧ j < i * k + c.length) := by
          rw [hk]
          intro ⟨q1, q2⟩
          apply hq
          exact Nat.le_antisymm (Nat.lt_succ_iff.1 ((Nat.div_lt_iff_lt_mul hk0).2 (by rw [Nat.succ_mul]; omega))) ((Nat.le_div_iff_mul_le hk0).2 q1)
        rw [if_neg hne, List.getElem?_set_ne (fun q => hq q.symm), ← e2, ← ht, List.getElem?_take, if_pos hj]
    · rw [if_neg hj, List.getElem?_eq_none (by rw [flat_len hall, List.length_set]; omega)]
theorem Rw.keep {w w' : World} {t : TypeId} {s : Value} {k : Nat} {vs : List (List Value)} (h : Rw w t s k vs) (hb : ∀ g, s.ownBlock = some g → w'.heap[g]? = w.heap[g]?) : Rw w' t s k vs := by
  refine ⟨h.1, h.2.1, ?_⟩
  rcases h.2.2 with e | ⟨g, cap, cur, e1, e2, hg, r⟩
  · exact .inl e
  · exact .inr ⟨g, cap, cur, e1, e2, (hb g (by rw [e1]; rfl)).trans hg, r⟩
theorem Rw.cut {w : World} {t : TypeId} {k n cap g : Nat} {vs : List (List Value)} (h : Rw w t (.slice (some ⟨g, 0, none⟩) n cap) k vs) {m : Nat} (hm : m ≤ vs.length) : Rw w t (.slice (some ⟨g, 0, none⟩) m cap) k (vs.take m) := by
  have hl : (vs.take m).length = m := by simp; omega
  have hall : ∀ c ∈ vs.take m, c.length = k := fun c hc => h.1 c (List.mem_of_mem_take hc)
  rcases h.2.2 with ⟨e1, e2⟩ | ⟨g', cap', cur, e1, e0, hg, hn, hmx, hsz, ht⟩
  · cases e1
  · injection e1 with e1 e2 e3
    injection e1 with e1
    injection e1 with e1 _ _
    subst e1 e3
    refine ⟨hall, by rw [flat_len hall], .inr ⟨g, cap, cur, by rw [hl], e0, hg, by omega, hmx, hsz, ?_⟩⟩
    rw [hl]
    apply List.ext_getElem?
    intro j
    rw [List.getElem?_take]
    have hmk : m * k ≤ vs.length * k := Nat.mul_le_mul_right _ hm
    by_cases hj : j < m * k
    · have hk0 : 0 < k := by rcases Nat.eq_zero_or_pos k with e | e; (subst e; simp at hj); exact e
      have ej : j = j / k * k + j % k := by rw [Nat.mul_comm]; exact (Nat.div_add_mod j k).symm
      have hr := Nat.mod_lt j hk0
      have q1 := flat_get hall (j / k) (j % k) hr
      have q2 := flat_get h.1 (j / k) (j % k) hr
      rw [← ej] at q1 q2
      have hd : j / k < m := (Nat.div_lt_iff_lt_mul hk0).2 hj
      rw [if_pos hj, q1, List.getElem?_take, if_pos hd, ← q2, ← ht, List.getElem?_take, if_pos (by omega)]
    · rw [if_neg hj, List.getElem?_eq_none (by rw [flat_len hall, hl]; omega)]
/-- A list of numbers as a row. -/
def ivs (l : List Int) : List (List Value) := l.map fun x => [.int .i64 x]
theorem ivs_len (l : List Int) : (ivs l).length = l.length := by simp [ivs]
theorem ivs_get (l : List Int) (i : Nat) : (ivs l)[i]? = (l[i]?).map fun x => [.int .i64 x] := by simp [ivs]
theorem ivs_set (l : List Int) (i : Nat) (x : Int) : (ivs l).set i [.int .i64 x] = ivs (l.set i x) := by simp [ivs, List.map_set]
theorem ivs_flat (l : List Int) : (ivs l).flatten = l.map (Value.int .i64) := by
  induction l with
  | nil => rfl
  | cons a l ih => simp [ivs] at ih ⊢; simpa using ih
theorem rng_one {w : World} {g o : Nat} {v : Value} (h : w.rangeAt g o [v]) : w.cell? ⟨g, o, none⟩ = some v := by simpa using h 0 v rfl
theorem there_one {w : World} {g o k : Nat} (h : w.there g o k) (hk : 0 < k) : w.frozen? ⟨g, o, none⟩ = false := by simpa using (h 0 hk).2
end Go.Proofs.YtghnfnieppfhgaaGreat
