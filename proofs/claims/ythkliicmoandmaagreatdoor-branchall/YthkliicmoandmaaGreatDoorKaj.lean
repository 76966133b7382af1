/-
  What is proved here: domains and rows in memory: how they read, and what a store into a row leaves.
  What is proved here: what package kinds answers of domains of whole numbers.
  What is proved here: what package kinds and store answer of domains of whole numbers: empty, what is in both.
  What is proved here: cells of a box that are read and written.
  What is proved here: what package store makes of domains of whole numbers: narrower, tight, Same, Only.
  What is proved here: numbers that come one after another: Left and Next, of package branch and of the reference.
-/
import Derived.Test.YthkliicmoandmaaGreatDoorZStj
import Derived.Test.YthkliicmoandmaaGreatDoorZGaj
import Derived.Deep.MidRow
namespace Go.Proofs.YthkliicmoandmaaGreatDoor
open Go.RowKit Go.Shelf
set_option linter.unusedVariables false
set_option linter.unusedSimpArgs false

/-- A domain. -/
structure MD where
  set : Bool
  r : List Dm.Rg
  lo : List Int
  up : List Int
  least : Int
  most : Int
/-- Nothing that was there has turned but in blocks of which X holds. -/
structure Kept (X : Nat → Prop) (w w' : World) : Prop where
  os : w'.os = w.os
  tape : w'.tape = w.tape
  output : w'.output = w.output
  size : w.heap.size ≤ w'.heap.size
  block : ∀ b, b < w.heap.size → ¬ X b → w'.heap[b]? = w.heap[b]?
theorem Kept.refl (X : Nat → Prop) (w : World) : Kept X w w := ⟨rfl, rfl, rfl, Nat.le_refl _, fun _ _ _ => rfl⟩
/-- X' holds of no old block more than X. -/
def Up (X X' : Nat → Prop) (w : World) : Prop := ∀ b, X' b → X b ∨ w.heap.size ≤ b
theorem Up.refl (X : Nat → Prop) (w : World) : Up X X w := fun _ h => .inl h
theorem Kept.trans {X Y : Nat → Prop} {a b c : World} (h : Kept X a b) (k : Kept Y b c) (u : Up X Y a) : Kept X a c :=
  ⟨k.os.trans h.os, k.tape.trans h.tape, k.output.trans h.output, Nat.le_trans h.size k.size, fun n hn hX =>
    (k.block n (Nat.lt_of_lt_of_le hn h.size) (fun hY => (u n hY).elim hX (fun q => by omega))).trans (h.block n hn hX)⟩
theorem Kept.of_below {X : Nat → Prop} {w w' : World} (h : Below w.heap.size w w') : Kept X w w' := ⟨h.os, h.tape, h.output, h.size, fun b hb _ => h.block b hb⟩
theorem Kept.below {X : Nat → Prop} {w w' : World} (h : Kept X w w') {B : Nat} (hB : B ≤ w.heap.size) (hX : ∀ b, X b → B ≤ b) : Below B w w' :=
  ⟨h.os, h.tape, h.output, h.size, fun b hb => h.block b (by omega) (fun q => by have := hX b q; omega)⟩
theorem Kept.cell {X : Nat → Prop} {w w' : World} (h : Kept X w w') {b : Nat} (hb : b < w.heap.size) (hX : ¬ X b) (o : Nat) : w'.cell? ⟨b, o, none⟩ = w.cell? ⟨b, o, none⟩ := World.cell?_of_block (a := ⟨b, o, none⟩) (h.block b hb hX)
theorem Kept.setCell {X : Nat → Prop} {a w : World} (h : Kept X a w) {g : Nat} (hX : X g) (o : Nat) (v : Value) : Kept X a (w.setCell ⟨g, o, none⟩ v) :=
  ⟨h.os, h.tape, h.output, by simpa [World.setCell] using h.size, fun b hb hx => (Below.heap_setCell w ⟨g, o, none⟩ v b (fun e => hx (by rw [e]; exact hX))).trans (h.block b hb hx)⟩
theorem Kept.setCells {X : Nat → Prop} {a : World} {g : Nat} (hX : X g) : ∀ (vs : List Value) (o : Nat) {w : World}, Kept X a w → Kept X a (w.setCells g o vs)
  | [], _, _, h => h
  | v :: r, o, _, h => Kept.setCells hX r (o + 1) (h.setCell hX o v)
theorem Kept.then_below {X : Nat → Prop} {a w w' : World} (h : Kept X a w) (hb : Below w.heap.size w w') : Kept X a w' :=
  ⟨hb.os.trans h.os, hb.tape.trans h.tape, hb.output.trans h.output, Nat.le_trans h.size hb.size, fun b q hx => (hb.block b (Nat.lt_of_lt_of_le q h.size)).trans (h.block b q hx)⟩
/-- Numbers in memory, in a block of which X does not hold. -/
def Nm (X : Nat → Prop) (w : World) (s : Value) (l : List Int) : Prop :=
  ∃ a c, s = .slice a l.length c ∧ (0 < l.length → ∃ b off, a = some ⟨b, off, none⟩ ∧ b < w.heap.size ∧ ¬ X b ∧ ∀ i x, l[i]? = some x → w.cell? ⟨b, off + i, none⟩ = some (.int .i64 x))
/-- Ranges in memory. -/
def Rm (X : Nat → Prop) (w : World) (s : Value) (l : List Dm.Rg) : Prop :=
  ∃ a c, s = .slice a l.length c ∧ (0 < l.length → ∃ b off, a = some ⟨b, off, none⟩ ∧ b < w.heap.size ∧ ¬ X b ∧ ∀ i, i < l.length → w.cell? ⟨b, off + i * 2, none⟩ = some (.int .i64 (Dm.lo l i)) ∧ w.cell? ⟨b, off + i * 2 + 1, none⟩ = some (.int .i64 (Dm.hi l i)))
theorem Nm.kept {X : Nat → Prop} {w w' : World} {s : Value} {l : List Int} (h : Nm X w s l) (k : Kept X w w') : Nm X w' s l := by
  obtain ⟨a, c, e, h⟩ := h
  refine ⟨a, c, e, fun h0 => ?_⟩
  obtain ⟨b, off, e1, e2, e3, e4⟩ := h h0
  exact ⟨b, off, e1, Nat.lt_of_lt_of_le e2 k.size, e3, fun i x hx => (k.cell e2 e3 _).trans (e4 i x hx)⟩
theorem Rm.kept {X : Nat → Prop} {w w' : World} {s : Value} {l : List Dm.Rg} (h : Rm X w s l) (k : Kept X w w') : Rm X w' s l := by
  obtain ⟨a, c, e, h⟩ := h
  refine ⟨a, c, e, fun h0 => ?_⟩
  obtain ⟨b, off, e1, e2, e3, e4⟩ := h h0
  exact ⟨b, off, e1, Nat.lt_of_lt_of_le e2 k.size, e3, fun i hi => ⟨(k.cell e2 e3 _).trans (e4 i hi).1, (k.cell e2 e3 _).trans (e4 i hi).2⟩⟩
theorem Nm.up {X X' : Nat → Prop} {w : World} {s : Value} {l : List Int} (h : Nm X w s l) (u : Up X X' w) : Nm X' w s l := by
  obtain ⟨a, c, e, h⟩ := h
  refine ⟨a, c, e, fun h0 => ?_⟩
  obtain ⟨b, off, e1, e2, e3, e4⟩ := h h0
  exact ⟨b, off, e1, e2, fun q => (u b q).elim e3 (fun q => by omega), e4⟩
theorem Rm.up {X X' : Nat → Prop} {w : World} {s : Value} {l : List Dm.Rg} (h : Rm X w s l) (u : Up X X' w) : Rm X' w s l := by
  obtain ⟨a, c, e, h⟩ := h
  refine ⟨a, c, e, fun h0 => ?_⟩
  obtain ⟨b, off, e1, e2, e3, e4⟩ := h h0
  exact ⟨b, off, e1, e2, fun q => (u b q).elim e3 (fun q => by omega), e4⟩
theorem Nm.go {X X' : Nat → Prop} {w w' : World} {s : Value} {l : List Int} (h : Nm X w s l) (k : Kept X w w') (u : Up X X' w) : Nm X' w' s l := by
  obtain ⟨a, c, e, h⟩ := h
  refine ⟨a, c, e, fun h0 => ?_⟩
  obtain ⟨b, off, e1, e2, e3, e4⟩ := h h0
  exact ⟨b, off, e1, Nat.lt_of_lt_of_le e2 k.size, fun q => (u b q).elim e3 (fun q => by omega), fun i x hx => (k.cell e2 e3 _).trans (e4 i x hx)⟩
theorem Rm.go {X X' : Nat → Prop} {w w' : World} {s : Value} {l : List Dm.Rg} (h : Rm X w s l) (k : Kept X w w') (u : Up X X' w) : Rm X' w' s l := by
  obtain ⟨a, c, e, h⟩ := h
  refine ⟨a, c, e, fun h0 => ?_⟩
  obtain ⟨b, off, e1, e2, e3, e4⟩ := h h0
  exact ⟨b, off, e1, Nat.lt_of_lt_of_le e2 k.size, fun q => (u b q).elim e3 (fun q => by omega), fun i hi => ⟨(k.cell e2 e3 _).trans (e4 i hi).1, (k.cell e2 e3 _).trans (e4 i hi).2⟩⟩
theorem Rm.sr {X : Nat → Prop} {w : World} {s : Value} {l : List Dm.Rg} (h : Rm X w s l) : Dm.Sr w s l := by
  obtain ⟨a, c, e, h⟩ := h
  refine ⟨a, c, e, fun h0 => ?_⟩
  obtain ⟨b, off, e1, e2, e3, e4⟩ := h h0
  exact ⟨b, off, e1, e2, e4⟩
/-- The six cells c hold the domain d. -/
def Dc (X : Nat → Prop) (w : World) (c : List Value) (d : MD) : Prop :=
  ∃ ra rc a1 c1 a2 c2, c = [.bool d.set, .slice ra d.r.length rc, .slice a1 d.lo.length c1, .slice a2 d.up.length c2, .int .i64 d.least, .int .i64 d.most] ∧ Rm X w (.slice ra d.r.length rc) d.r ∧ Nm X w (.slice a1 d.lo.length c1) d.lo ∧ Nm X w (.slice a2 d.up.length c2) d.up
theorem Dc.kept {X : Nat → Prop} {w w' : World} {c : List Value} {d : MD} (h : Dc X w c d) (k : Kept X w w') : Dc X w' c d := by
  obtain ⟨ra, rc, a1, c1, a2, c2, e, h1, h2, h3⟩ := h
  exact ⟨ra, rc, a1, c1, a2, c2, e, h1.kept k, h2.kept k, h3.kept k⟩
theorem Dc.up {X X' : Nat → Prop} {w : World} {c : List Value} {d : MD} (h : Dc X w c d) (u : Up X X' w) : Dc X' w c d := by
  obtain ⟨ra, rc, a1, c1, a2, c2, e, h1, h2, h3⟩ := h
  exact ⟨ra, rc, a1, c1, a2, c2, e, h1.up u, h2.up u, h3.up u⟩
theorem Dc.go {X X' : Nat → Prop} {w w' : World} {c : List Value} {d : MD} (h : Dc X w c d) (k : Kept X w w') (u : Up X X' w) : Dc X' w' c d := by
  obtain ⟨ra, rc, a1, c1, a2, c2, e, h1, h2, h3⟩ := h
  exact ⟨ra, rc, a1, c1, a2, c2, e, h1.go k u, h2.go k u, h3.go k u⟩
theorem Dc.below {X : Nat → Prop} {w w' : World} {c : List Value} {d : MD} (h : Dc X w c d) (k : Below w.heap.size w w') : Dc X w' c d := h.kept (Kept.of_below k)
theorem Dc.len {X : Nat → Prop} {w : World} {c : List Value} {d : MD} (h : Dc X w c d) : c.length = 6 := by
  obtain ⟨ra, rc, a1, c1, a2, c2, rfl, _⟩ := h; rfl
theorem Dc.one {X : Nat → Prop} {w : World} {c : List Value} {d : MD} (h : Dc X w c d) : ∀ v ∈ c, v.oneCell' = true := by
  obtain ⟨ra, rc, a1, c1, a2, c2, rfl, _⟩ := h
  intro v hv
  simp at hv
  rcases hv with rfl | rfl | rfl | rfl | rfl | rfl <;> rfl
/-- Where a list was before. -/
def wr : Array Value → Nat → List Value → Array Value
  | cur, _, [] => cur
  | cur, o, v :: r => wr (cur.setIfInBounds o v) (o + 1) r
theorem wr_size : ∀ (l : List Value) (cur : Array Value) (o : Nat), (wr cur o l).size = cur.size
  | [], _, _ => rfl
  | v :: r, cur, o => by rw [wr, wr_size r]; simp
theorem wr_get : ∀ (l : List Value) (cur : Array Value) (o j : Nat), o + l.length ≤ cur.size → (wr cur o l).toList[j]? = if o ≤ j ∧ j < o + l.length then l[j - o]? else cur.toList[j]?
  | [], cur, o, j, h => by rw [wr, if_neg (by simp)]
  | v :: r, cur, o, j, h => by
    have h' : o + (r.length + 1) ≤ cur.size := h
    rw [wr, wr_get r _ (o + 1) j (by simp; omega)]
    by_cases h1 : o + 1 ≤ j ∧ j < o + 1 + r.length
    · rw [if_pos h1, if_pos (by simp; omega), show j - o = j - (o + 1) + 1 by omega, List.getElem?_cons_succ]
    · rw [if_neg h1]
      by_cases h2 : j = o
      · subst h2
        rw [if_pos (by simp), Nat.sub_self, Array.toList_setIfInBounds, List.getElem?_set_self (by simp; omega)]; rfl
      · rw [if_neg (by simp; omega), Array.toList_setIfInBounds, List.getElem?_set_ne (by omega)]
theorem heap_setCell_in {w : World} {g j : Nat} {v : Value} {cur : Array Value} {t : TypeId} {fr : Nat × Nat} (h : w.heap[g]? = some (.cells cur t fr)) (hj : j < cur.size) : (w.setCell ⟨g, j, none⟩ v).heap[g]? = some (.cells (cur.setIfInBounds j v) t fr) := by
  have hg := (Array.getElem?_eq_some_iff.1 h).1
  have hx := (Array.getElem?_eq_some_iff.1 h).2
  rw [Array.getElem?_eq_some_iff]
  exact ⟨by simpa [World.setCell] using hg, by simp [World.setCell, Array.getElem_modify, hx]⟩
theorem heap_setCells : ∀ (l : List Value) (o : Nat) {w : World} {g : Nat} {cur : Array Value} {t : TypeId} {fr : Nat × Nat}, w.heap[g]? = some (.cells cur t fr) → o + l.length ≤ cur.size → (w.setCells g o l).heap[g]? = some (.cells (wr cur o l) t fr)
  | [], _, _, _, _, _, _, h, _ => h
  | v :: r, o, w, g, cur, t, fr, h, hj => by
    have hj' : o + (r.length + 1) ≤ cur.size := hj
    exact heap_setCells r (o + 1) (heap_setCell_in h (by omega)) (by simp; omega)
theorem flat_len {k : Nat} : ∀ {vs : List (List Value)}, (∀ c ∈ vs, c.length = k) → vs.flatten.length = vs.length * k
  | [], _ => by simp
  | c :: r, h => by
    rw [List.flatten_cons, List.length_append, h c (by simp), flat_len (fun x hx => h x (by simp [hx])), List.length_cons, Nat.succ_mul]; omega
theorem flat_get {k : Nat} : ∀ {vs : List (List Value)}, (∀ c ∈ vs, c.length = k) → ∀ q r, r < k → vs.flatten[q * k + r]? = (vs[q]?).bind (·[r]?)
  | [], _, _, _, _ => by simp
  | c :: rest, h, 0, r, hr => by
    rw [List.flatten_cons, Nat.zero_mul, Nat.zero_add, List.getElem?_append_left (by rw [h c (by simp)]; exact hr)]; simp
  | c :: rest, h, q + 1, r, hr => by
    rw [List.flatten_cons, List.getElem?_append_right (by rw [h c (by simp), Nat.succ_mul]; omega), h c (by simp), show (q + 1) * k + r - k = q * k + r by rw [Nat.succ_mul]; omega, flat_get (fun x hx => h x (by simp [hx])) q r hr, List.getElem?_cons_succ]
/-- A row of own memory: a slice of elements of k cells. -/
def Rw (w : World) (t : TypeId) (s : Value) (k : Nat) (vs : List (List Value)) : Prop := (∀ c ∈ vs, c.length = k) ∧ w.ownsRow 0 t k s vs.length vs.flatten
theorem Rw.shape {w : World} {t : TypeId} {s : Value} {k : Nat} {vs : List (List Value)} (h : Rw w t s k vs) : ∃ a c, s = .slice a vs.length c ∧ vs.length ≤ c ∧ c ≤ maxLen := by
  rcases h.2.2 with ⟨e1, e2⟩ | ⟨g, cap, cur, e1, _, _, e2, e3, _⟩
  · exact ⟨none, 0, by rw [e2]; exact e1, by omega, by unfold maxLen; omega⟩
  · exact ⟨_, cap, e1, e2, e3⟩
theorem Rw.lt {w : World} {t : TypeId} {s : Value} {k : Nat} {vs : List (List Value)} (h : Rw w t s k vs) {g : Nat} (hg : s.ownBlock = some g) : g < w.heap.size := (h.2.lt g hg).2
theorem Rw.at {w : World} {t : TypeId} {s : Value} {k : Nat} {vs : List (List Value)} (h : Rw w t s k vs) {i : Nat} {c : List Value} (hc : vs[i]? = some c) :
    ∃ g cap, s = .slice (some ⟨g, 0, none⟩) vs.length cap ∧ g < w.heap.size ∧ vs.length ≤ cap ∧ cap ≤ maxLen ∧ w.rangeAt g (i * k) c ∧ w.there g (i * k) k := by
  have hi : i < vs.length := (List.getElem?_eq_some_iff.1 hc).1
  have hk := h.1 c (List.mem_iff_getElem?.2 ⟨i, hc⟩)
  rcases h.2.2 with ⟨e1, e2⟩ | ⟨g, cap, cur, e1, _, hg, hn, hm, hs, ht⟩
  · omega
  · have hbd : i * k + k ≤ vs.length * k := by have : (i + 1) * k ≤ vs.length * k := Nat.mul_le_mul_right _ hi; rw [Nat.succ_mul] at this; omega
    have hcap : vs.length * k ≤ cap * k := Nat.mul_le_mul_right _ hn
    refine ⟨g, cap, e1, (Array.getElem?_eq_some_iff.1 hg).1, hn, hm, fun j v hv => ?_, fun j hj => ?_⟩
    · have hj : j < k := by have := (List.getElem?_eq_some_iff.1 hv).1; omega
      rw [cell_of_row w g _ cur t (0, 0) hg]
      have := flat_get h.1 i j hj
      rw [← ht, List.getElem?_take, if_pos (by omega), Array.getElem?_toList, hc] at this
      rw [this]; exact hv
    · constructor
      · rw [cell_of_row w g _ cur t (0, 0) hg, Array.getElem?_eq_getElem (by omega)]; rfl
      · simp [World.frozen?, hg]
theorem Rw.put {w : World} {t : TypeId} {s : Value} {k : Nat} {vs : List (List Value)} (h : Rw w t s k vs) {i g cap : Nat} {c : List Value} (hi : i < vs.length) (hk : c.length = k) (hs : s = .slice (some ⟨g, 0, none⟩) vs.length cap) : Rw (w.setCells g (i * k) c) t s k (vs.set i c) := by
  rcases h.2.2 with ⟨e1, e2⟩ | ⟨g', cap', cur, e1, e0, hg, hn, hm, hsz, ht⟩
  · omega
  · rw [hs] at e1
    injection e1 with e1 _ e3
    injection e1 with e1
    injection e1 with e1 _ _
    subst e1 e3
    have hbd : i * k + k ≤ vs.length * k := by have : (i + 1) * k ≤ vs.length * k := Nat.mul_le_mul_right _ hi; rw [Nat.succ_mul] at this; omega
    have hcap : vs.length * k ≤ cap * k := Nat.mul_le_mul_right _ hn
    have hall : ∀ x ∈ vs.set i c, x.length = k := fun x hx => by
      rcases List.mem_or_eq_of_mem_set hx with hx | rfl
      · exact h.1 x hx
      · exact hk
    refine ⟨hall, by rw [flat_len hall], .inr ⟨g, cap, wr cur (i * k) c, by rw [List.length_set]; exact hs, e0, heap_setCells c _ hg (by omega), by rw [List.length_set]; exact hn, hm, by rw [wr_size]; exact hsz, ?_⟩⟩
    rw [List.length_set]
    apply List.ext_getElem?
    intro j
    rw [List.getElem?_take]
    by_cases hj : j < vs.length * k
    · rw [if_pos hj, wr_get c cur (i * k) j (by omega)]
      have hk0 : 0 < k := by rcases Nat.eq_zero_or_pos k with e | e; (subst e; simp at hj); exact e
      have ej : j = j / k * k + j % k := by rw [Nat.mul_comm]; exact (Nat.div_add_mod j k).symm
      have hr := Nat.mod_lt j hk0
      have e1 := flat_get hall (j / k) (j % k) hr
      have e2 := flat_get h.1 (j / k) (j % k) hr
      rw [← ej] at e1 e2
      rw [e1]
      by_cases hq : j / k = i
      · rw [if_pos (by rw [hk]; rw [hq] at ej; omega), hq, List.getElem?_set_self hi, show j - i * k = j % k by rw [hq] at ej; omega]; rfl
      · have hne : ¬ (i * k ≤ j ∧ j < i * k + c.length) := by
          rw [hk]
          intro ⟨q1, q2⟩
          apply hq
          exact Nat.le_antisymm (Nat.lt_succ_iff.1 ((Nat.div_lt_iff_lt_mul hk0).2 (by rw [Nat.succ_mul]; omega))) ((Nat.le_div_iff_mul_le hk0).2 q1)
        rw [if_neg hne, List.getElem?_set_ne (fun q => hq q.symm), ← e2, ← ht, List.getElem?_take, if_pos hj]
    · rw [if_neg hj, List.getElem?_eq_none (by rw [flat_len hall, List.length_set]; omega)]
theorem Rw.keep {w w' : World} {t : TypeId} {s : Value} {k : Nat} {vs : List (List Value)} (h : Rw w t s k vs) (hb : ∀ g, s.ownBlock = some g → w'.heap[g]? = w.heap[g]?) : Rw w' t s k vs := by
  refine ⟨h.1, h.2.1, ?_⟩
  rcases h.2.2 with e | ⟨g, cap, cur, e1, e2, hg, r⟩
  · exact .inl e
  · exact .inr ⟨g, cap, cur, e1, e2, (hb g (by rw [e1]; rfl)).trans hg, r⟩
end Go.Proofs.YthkliicmoandmaaGreatDoor

namespace Go.Proofs.YthkliicmoandmaaGreatDoor
open Go.RowKit Go.Shelf
set_option linter.unusedVariables false
set_option linter.unusedSimpArgs false

theorem ret_bool {a b : Bool} (h : a = b) : Ending.returned (.bool a) = .returned (.bool b) := by rw [h]
theorem ret_int {a b : Int} (h : a = b) : Ending.returned (.int .i64 a) = .returned (.int .i64 b) := by rw [h]
/-- A block with its cells. -/
structure Bx (w : World) (g : Nat) (cs : Array Value) (t : TypeId) : Prop where
  h : w.heap[g]? = some (.cells cs t (0, 0))
theorem Bx.lt {w : World} {g : Nat} {cs : Array Value} {t : TypeId} (h : Bx w g cs t) : g < w.heap.size := (Array.getElem?_eq_some_iff.1 h.h).1
theorem Bx.below {w w' : World} {g : Nat} {cs : Array Value} {t : TypeId} (h : Bx w g cs t) (hb : Below w.heap.size w w') : Bx w' g cs t := ⟨(hb.block g h.lt).trans h.h⟩
theorem Bx.kept {X : Nat → Prop} {w w' : World} {g : Nat} {cs : Array Value} {t : TypeId} (h : Bx w g cs t) (hb : Kept X w w') (hX : ¬ X g) : Bx w' g cs t := ⟨(hb.block g h.lt hX).trans h.h⟩
theorem Bx.new (w : World) (cs : Array Value) (t : TypeId) : Bx (w.alloc (.cells cs t)) w.heap.size cs t := ⟨World.alloc_heap_new w _⟩
theorem Bx.new' {w : World} {n : Nat} (hn : w.heap.size = n) (cs : Array Value) (t : TypeId) : Bx (w.alloc (.cells cs t)) n cs t := by subst hn; exact ⟨World.alloc_heap_new w _⟩
theorem Bx.alloc {w : World} {g : Nat} {cs : Array Value} {t : TypeId} (h : Bx w g cs t) (o : Obj) : Bx (w.alloc o) g cs t := ⟨(Below.heap_alloc _ _ _ h.lt).trans h.h⟩
theorem Bx.drew {w : World} {g : Nat} {cs : Array Value} {t : TypeId} (h : Bx w g cs t) (n : Nat) : Bx (w.drewN n) g cs t := ⟨h.h⟩
theorem Bx.cell {w : World} {g : Nat} {cs : Array Value} {t : TypeId} (h : Bx w g cs t) (j : Nat) : w.cell? ⟨g, j, none⟩ = cs[j]? := cell_of_row w g j cs t (0, 0) h.h
theorem Bx.fr {w : World} {g : Nat} {cs : Array Value} {t : TypeId} (h : Bx w g cs t) (j : Nat) : w.frozen? ⟨g, j, none⟩ = false := by simp [World.frozen?, h.h]
theorem Bx.six {w : World} {g : Nat} {x0 x1 x2 x3 x4 x5 : Value} {t : TypeId} (h : Bx w g #[x0, x1, x2, x3, x4, x5] t) :
    w.cell? ⟨g, 0, none⟩ = some x0 ∧ w.cell? ⟨g, 1, none⟩ = some x1 ∧ w.cell? ⟨g, 2, none⟩ = some x2 ∧ w.cell? ⟨g, 3, none⟩ = some x3 ∧ w.cell? ⟨g, 4, none⟩ = some x4 ∧ w.cell? ⟨g, 5, none⟩ = some x5 := ⟨h.cell 0, h.cell 1, h.cell 2, h.cell 3, h.cell 4, h.cell 5⟩
/-- What the cells of a domain look like. -/
theorem Dc.look {X : Nat → Prop} {w : World} {c : List Value} {d : MD} (h : Dc X w c d) : ∃ b ra n0 rc a1 n1 c1 a2 n2 c2 x y, c = [.bool b, .slice ra n0 rc, .slice a1 n1 c1, .slice a2 n2 c2, .int .i64 x, .int .i64 y] ∧
    Hid (d.set = b ∧ d.r.length = n0 ∧ d.lo.length = n1 ∧ d.up.length = n2 ∧ d.least = x ∧ d.most = y) ∧ Hid (Rm X w (.slice ra n0 rc) d.r) ∧ Hid (Nm X w (.slice a1 n1 c1) d.lo) ∧ Hid (Nm X w (.slice a2 n2 c2) d.up) := by
  obtain ⟨ra, rc, a1, c1, a2, c2, e, h1, h2, h3⟩ := h
  exact ⟨_, _, _, _, _, _, _, _, _, _, _, _, e, ⟨rfl, rfl, rfl, rfl, rfl, rfl⟩, h1, h2, h3⟩
def rightW (d : MD) : Bool := Dm.rightB d.r && decide (d.lo.length = 0) && decide (d.up.length = 0) && decide (d.least = 0) && decide (d.most = 0)

set_option maxRecDepth 100000 in
set_option maxHeartbeats 4000000 in
theorem right_w {X : Nat → Prop} {W : World} {c : List Value} {d : MD} (h : Dc X W c d) (hs : d.set = false) (hf : Dm.FitsR d.r) :
    Calls Tryz.prog 48 #[.agg c.toArray] W fun e w' => e = .returned (.bool (rightW d)) ∧ Below W.heap.size W w' := by
  obtain ⟨b, ra, n0, rc, a1, n1, c1, a2, n2, c2, x, y, rfl, HE, H1, H2, H3⟩ := h.look
  clear h
  obtain rfl : b = false := by rw [← HE.out.1, hs]
  obtain ⟨W0, hW0⟩ : ∃ Q, W.alloc (Obj.cells #[.bool false, .slice ra n0 rc, .slice a1 n1 c1, .slice a2 n2 c2, .int .i64 x, .int .i64 y] 50) = Q := ⟨_, rfl⟩
  have hb0 : Below W.heap.size W W0 := by rw [← hW0]; exact (Below.refl _ W).alloc (Nat.le_refl _) _
  have HB0 : Hid (Bx W0 W.heap.size #[.bool false, .slice ra n0 rc, .slice a1 n1 c1, .slice a2 n2 c2, .int .i64 x, .int .i64 y] 50) := by rw [← hW0]; exact Bx.new _ _ _
  have kr := Dm.right_any _ _ _ (H1.out.kept (Kept.of_below hb0)).sr hf
  have hM : rightW d = (Dm.rightB d.r && decide (n1 = 0) && decide (n2 = 0) && decide (x = 0) && decide (y = 0)) := by
    obtain ⟨_, _, rfl, rfl, rfl, rfl⟩ := HE.out; rfl
  rw [hM]
  clear hM H1 H2 H3 hf hs HE
  have HW0 : Hid _ := hW0
  clear hW0
  cases hR : Dm.rightB d.r
  · rw [hR] at kr
    go_enter Tryz.func48, Tryz.ntmps48
    go_wp2_with fail
    rw [HW0.out]
    refine kr.mono ?_
    rintro e w1 ⟨rfl, hb1⟩
    go_wp2
    go_ret
    exact ⟨ret_bool (by simp), hb0.trans (hb1.mono hb0.size)⟩
  · rw [hR] at kr
    rcases Nat.eq_zero_or_pos n1 with e1 | e1
    · rcases Nat.eq_zero_or_pos n2 with e2 | e2
      · by_cases e3 : x = 0
        · subst e1 e2 e3
          by_cases e4 : y = 0
          · subst e4
            go_enter Tryz.func48, Tryz.ntmps48
            go_wp2_with fail
            rw [HW0.out]
            refine kr.mono ?_
            rintro e w1 ⟨rfl, hb1⟩
            obtain ⟨z0, z1, z2, z3, z4, z5⟩ := (HB0.out.below hb1).six
            go_wp2
            go_ret
            exact ⟨ret_bool (by simp), hb0.trans (hb1.mono hb0.size)⟩
          · go_enter Tryz.func48, Tryz.ntmps48
            go_wp2_with fail
            rw [HW0.out]
            refine kr.mono ?_
            rintro e w1 ⟨rfl, hb1⟩
            obtain ⟨z0, z1, z2, z3, z4, z5⟩ := (HB0.out.below hb1).six
            go_wp2
            go_ret
            exact ⟨ret_bool (by simp [e4]), hb0.trans (hb1.mono hb0.size)⟩
        · subst e1 e2
          go_enter Tryz.func48, Tryz.ntmps48
          go_wp2_with fail
          rw [HW0.out]
          refine kr.mono ?_
          rintro e w1 ⟨rfl, hb1⟩
          obtain ⟨z0, z1, z2, z3, z4, z5⟩ := (HB0.out.below hb1).six
          go_wp2
          go_ret
          exact ⟨ret_bool (by simp [e3]), hb0.trans (hb1.mono hb0.size)⟩
      · have e2' : ¬ (n2 : Int) = 0 := by omega
        subst e1
        go_enter Tryz.func48, Tryz.ntmps48
        go_wp2_with fail
        rw [HW0.out]
        refine kr.mono ?_
        rintro e w1 ⟨rfl, hb1⟩
        obtain ⟨z0, z1, z2, z3, z4, z5⟩ := (HB0.out.below hb1).six
        go_wp2
        go_ret
        exact ⟨ret_bool (by simp; omega), hb0.trans (hb1.mono hb0.size)⟩
    · have e1' : ¬ (n1 : Int) = 0 := by omega
      go_enter Tryz.func48, Tryz.ntmps48
      go_wp2_with fail
      rw [HW0.out]
      refine kr.mono ?_
      rintro e w1 ⟨rfl, hb1⟩
      obtain ⟨z0, z1, z2, z3, z4, z5⟩ := (HB0.out.below hb1).six
      go_wp2
      go_ret
      exact ⟨ret_bool (by simp; omega), hb0.trans (hb1.mono hb0.size)⟩
end Go.Proofs.YthkliicmoandmaaGreatDoor

namespace Go.Proofs.YthkliicmoandmaaGreatDoor
open Go.RowKit Go.Shelf
set_option linter.unusedVariables false
set_option linter.unusedSimpArgs false

theorem Tryz.sizeDom : (Tryz.prog.info? 50).map (·.size) = some 6 := by kernel_rfl
theorem Bx.setRow {w : World} {g : Nat} {old : Array Value} {t : TypeId} (h : Bx w g old t) (cs : Array Value) : Bx (w.setRow g cs) g cs t := ⟨setRow_heap w g _ _ t (0, 0) h.h⟩
theorem stD {ops : Array Oper} {rest : List Oper} {o : Oper} {a : Act} {w : World} {Q : Exit → Act → World → Prop} {old : Array Value} (hgd : o.guard = none) (x y : Operand) (ho : o.op = .store 50 x y)
    (g : Nat) (c : List Value) (hx : a.eval x = .pointer (some ⟨g, 0, none⟩)) (hy : a.eval y = .agg c.toArray) (hg : Bx w g old 50) (hold : old.size = 6) (hc : c.length = 6) (h1 : ∀ v ∈ c, v.oneCell' = true)
    (h : wpList Tryz.prog ops Q rest (a.put o.dst undef) (w.setRow g c.toArray)) : wpList Tryz.prog ops Q (o :: rest) a w :=
  wpList_store_row hgd 50 x y ho g _ hx hy 50 _ hg.h (by rw [Tryz.sizeDom]; simp [hc]) (by simp [hold, hc]) (all_oneCell_toArray h1) h
theorem resD {fn : Func} {p : Tmp} (hf : fn.results = #[.cell p 50]) (tmps : Array Value) {w : World} {g : Nat} {c : List Value} (h : Bx w g c.toArray 50) (hc : c.length = 6) (hp : tmps.getD p undef = .pointer (some ⟨g, 0, none⟩)) :
    (results fn tmps).run Tryz.prog w = .ok (.agg c.toArray) w := results_cell_row hf tmps w g 50 _ (0, 0) _ hp h.h Tryz.underlying50 rfl (by rw [Tryz.sizeDom]; simp [hc])
theorem below_row {B g : Nat} {a w : World} (h : Below B a w) (hg : B ≤ g) (cs : Array Value) : Below B a (w.setRow g cs) :=
  h.trans ⟨rfl, rfl, rfl, by simp [World.setRow], fun k hk => setRow_other w g k cs (by omega)⟩
def emptyW (d : MD) : Bool := decide (d.r.length = 0)

set_option maxRecDepth 100000 in
set_option maxHeartbeats 4000000 in
theorem empty_w {X : Nat → Prop} {W : World} {c : List Value} {d : MD} (h : Dc X W c d) (hs : d.set = false) :
    Calls Tryz.prog 128 #[.agg c.toArray] W fun e w' => e = .returned (.bool (emptyW d)) ∧ Below W.heap.size W w' := by
  obtain ⟨b, ra, n0, rc, a1, n1, c1, a2, n2, c2, x, y, rfl, HE, H1, H2, H3⟩ := h.look
  clear h
  obtain rfl : b = false := by rw [← HE.out.1, hs]
  have hM : emptyW d = decide (n0 = 0) := by obtain ⟨_, rfl, _⟩ := HE.out; rfl
  rw [hM]
  clear hM H1 H2 H3 hs HE
  have hb0 : Below W.heap.size W (W.alloc (Obj.cells #[.bool false, .slice ra n0 rc, .slice a1 n1 c1, .slice a2 n2 c2, .int .i64 x, .int .i64 y] 50)) := (Below.refl _ W).alloc (Nat.le_refl _) _
  rcases Nat.eq_zero_or_pos n0 with e1 | e1
  · subst e1
    go_enter Tryz.func128, Tryz.ntmps128
    go_wp2
    go_ret
    exact ⟨ret_bool (by first | rfl | simp), hb0⟩
  · have e1' : ¬ (n0 : Int) = 0 := by omega
    go_enter Tryz.func128, Tryz.ntmps128
    go_wp2
    go_ret
    exact ⟨ret_bool (by rw [Bool.eq_iff_iff]; simp only [beq_iff_eq, decide_eq_true_eq]; omega), hb0⟩
theorem rm_own {X : Nat → Prop} {w : World} {B : Nat} {s : Value} {l : List Dm.Rg} (h : w.ownsRow B 92 2 s l.length (Dm.flat l)) (hX : ∀ b, X b → b < B) : Rm X w s l := by
  rcases h.2 with ⟨e1, e2⟩ | ⟨g, cap, cur, e1, hB, hg, hn, hm, hs, ht⟩
  · exact ⟨none, 0, by rw [e2]; exact e1, fun h0 => by omega⟩
  · refine ⟨_, cap, e1, fun h0 => ⟨g, 0, rfl, (Array.getElem?_eq_some_iff.1 hg).1, fun q => by have := hX g q; omega, fun i hi => ?_⟩⟩
    have hcap : l.length * 2 ≤ cap * 2 := Nat.mul_le_mul_right _ hn
    have key : ∀ j v, (Dm.flat l)[j]? = some v → w.cell? ⟨g, j, none⟩ = some v := fun j v hv => by
      have hj := (List.getElem?_eq_some_iff.1 hv).1
      rw [h.1] at hj
      rw [cell_of_row w g _ cur _ _ hg]
      rw [← ht, List.getElem?_take, if_pos hj, Array.getElem?_toList] at hv
      exact hv
    rw [Nat.zero_add]
    exact ⟨key _ _ ((Dm.flat_even l i hi).1), key _ _ ((Dm.flat_even l i hi).2)⟩
theorem Nm.empty (X : Nat → Prop) (w : World) : Nm X w (.slice none 0 0) [] := ⟨none, 0, rfl, fun h => absurd h (by simp)⟩
end Go.Proofs.YthkliicmoandmaaGreatDoor

namespace Go.Proofs.YthkliicmoandmaaGreatDoor
open Go.RowKit Go.Shelf
set_option linter.unusedVariables false
set_option linter.unusedSimpArgs false

theorem Bx.other {w : World} {g p : Nat} {cs : Array Value} {t : TypeId} (h : Bx w g cs t) (hp : g ≠ p) (o : Nat) (v : Value) : Bx (w.setCell ⟨p, o, none⟩ v) g cs t := ⟨(Below.heap_setCell w ⟨p, o, none⟩ v g hp).trans h.h⟩
theorem Bx.setc {w : World} {g : Nat} {cs : Array Value} {t : TypeId} (h : Bx w g cs t) {o : Nat} (ho : o < cs.size) (v : Value) : Bx (w.setCell ⟨g, o, none⟩ v) g (cs.setIfInBounds o v) t := ⟨heap_setCell_in h.h ho⟩
theorem Bx.set3 {w : World} {g : Nat} {x0 x1 x2 : Value} {t : TypeId} (h : Bx w g #[x0, x1, x2] t) (a b c : Value) : Bx (((w.setCell ⟨g, 0, none⟩ a).setCell ⟨g, 1, none⟩ b).setCell ⟨g, 2, none⟩ c) g #[a, b, c] t := by
  have h1 := ((h.setc (o := 0) (by simp) a).setc (o := 1) (by simp) b).setc (o := 2) (by simp) c
  simpa using h1
theorem Bx.three {w : World} {g : Nat} {x0 x1 x2 : Value} {t : TypeId} (h : Bx w g #[x0, x1, x2] t) : w.cell? ⟨g, 0, none⟩ = some x0 ∧ w.cell? ⟨g, 1, none⟩ = some x1 ∧ w.cell? ⟨g, 2, none⟩ = some x2 := ⟨h.cell 0, h.cell 1, h.cell 2⟩
end Go.Proofs.YthkliicmoandmaaGreatDoor

namespace Go.Proofs.YthkliicmoandmaaGreatDoor
open Go.RowKit Go.Shelf
set_option linter.unusedVariables false
set_option linter.unusedSimpArgs false

theorem Tryz.sizeVal : (Tryz.prog.info? 52).map (·.size) = some 3 := by kernel_rfl
theorem res_ct {fn : Func} {p q : Tmp} {ty : TypeId} (h : fn.results = #[.cell p ty, .tmp q]) (tmps : Array Value) {w : World} {g : Nat} {cs : Array Value} {d : TypeDesc} {t : TypeId} (hg : Bx w g cs t) (hp : tmps.getD p undef = .pointer (some ⟨g, 0, none⟩))
    (hd : d.isRow = true) (hu : Tryz.prog.underlying ty = some d) (hi : (Tryz.prog.info? ty).map (·.size) = some cs.size) {v : Value} (hv : tmps.getD q undef = v) :
    (results fn tmps).run Tryz.prog w = .ok (.tuple #[.agg cs, v]) w := by
  have hp' : tmps[p]?.getD undef = .pointer (some ⟨g, 0, none⟩) := by simpa using hp
  have hv' : tmps[q]?.getD undef = v := by simpa using hv
  have hl := run_loadVar_mid (P := Tryz.prog) w g 0 ty cs.toList d (fun j v hv => by rw [Nat.zero_add, hg.cell j]; simpa using hv) hu hd (by simpa using hi)
  simp [results, h, hp', hv', asAddr, hl]
theorem stV {ops : Array Oper} {rest : List Oper} {o : Oper} {a : Act} {w : World} {Q : Exit → Act → World → Prop} {old : Array Value} (hgd : o.guard = none) (x y : Operand) (ho : o.op = .store 52 x y)
    (g : Nat) (b : Bool) (n : Int) (sp : Option Addr) (sn sc : Nat) (hx : a.eval x = .pointer (some ⟨g, 0, none⟩)) (hy : a.eval y = .agg #[.bool b, .int .i64 n, .slice sp sn sc]) (hg : Bx w g old 52) (hold : old.size = 3)
    (h : wpList Tryz.prog ops Q rest (a.put o.dst undef) (w.setRow g #[.bool b, .int .i64 n, .slice sp sn sc])) : wpList Tryz.prog ops Q (o :: rest) a w :=
  wpList_store_row hgd 52 x y ho g _ hx hy 52 _ hg.h (by rw [Tryz.sizeVal]; rfl) (by simp [hold]) (all_oneCell_toArray (cs := [.bool b, .int .i64 n, .slice sp sn sc]) (by intro v hv; simp only [List.mem_cons, List.not_mem_nil, or_false] at hv; rcases hv with rfl | rfl | rfl <;> rfl)) h
/-- The only value. -/
def onlyW (d : MD) : Int × Bool := if Dm.sizeR (Dm.tk d.r) = 1 then (Dm.lo d.r 0, true) else (0, false)

set_option maxRecDepth 100000 in
set_option maxHeartbeats 4000000 in
theorem only_w {X : Nat → Prop} {W : World} {c : List Value} {d : MD} (h : Dc X W c d) (hs : d.set = false) (hf : Dm.FitsR d.r) :
    Calls Tryz.prog 129 #[.agg c.toArray] W fun e w' => e = .returned (.tuple #[.agg #[.bool false, .int .i64 (onlyW d).1, .slice none 0 0], .bool (onlyW d).2]) ∧ Below W.heap.size W w' := by
  obtain ⟨b, ra, n0, rc, a1, n1, c1, a2, n2, c2, x, y, rfl, HE, H1, H2, H3⟩ := h.look
  clear h
  obtain rfl : b = false := by rw [← HE.out.1, hs]
  obtain ⟨W0, hW0⟩ : ∃ Q, (W.alloc (Obj.cells #[.bool false, .slice ra n0 rc, .slice a1 n1 c1, .slice a2 n2 c2, .int .i64 x, .int .i64 y] 50)).alloc (Obj.cells #[.bool false, .int .i64 0, .slice none 0 0] 52) = Q := ⟨_, rfl⟩
  have hb0 : Below W.heap.size W W0 := by rw [← hW0]; exact (((Below.refl _ W).alloc (Nat.le_refl _) _).alloc (by simp) _)
  have HB0 : Hid (Bx W0 W.heap.size #[.bool false, .slice ra n0 rc, .slice a1 n1 c1, .slice a2 n2 c2, .int .i64 x, .int .i64 y] 50) := by rw [← hW0]; exact (Bx.new _ _ _).alloc _
  have HV0 : Hid (Bx W0 (W.heap.size + 1) #[.bool false, .int .i64 0, .slice none 0 0] 52) := by rw [← hW0]; exact Bx.new' (by simp) _ _
  have kb := Dm.domsize_any _ _ _ (H1.out.kept (Kept.of_below hb0)).sr hf
  have HW0 : Hid _ := hW0
  obtain ⟨sz, hsz⟩ : ∃ z, Dm.sizeR (Dm.tk d.r) = z := ⟨_, rfl⟩
  have HO : Hid (onlyW d = if sz = 1 then (Dm.lo d.r 0, true) else (0, false)) := by rw [← hsz]; exact rfl
  rw [hsz] at kb
  by_cases h1 : sz = 1
  · subst h1
    have hR : 0 < d.r.length := by
      rcases Nat.eq_zero_or_pos d.r.length with e | e
      · have e0 : d.r = [] := List.length_eq_zero_iff.1 e
        rw [e0] at hsz
        have : Dm.sizeR (Dm.tk []) = 0 := by rw [Dm.tk_yes Dm.right_nil]; rfl
        omega
      · exact e
    obtain ⟨a, cp, he, hcell⟩ := (H1.out.kept (Kept.of_below hb0)).sr
    injection he with he1 he2 he3
    subst he1 he3
    obtain ⟨bb, off, rfl, hlt, hc⟩ := hcell hR
    have hc0 := (hc 0 hR).1
    have hc1 : W0.cell? ⟨bb, off, none⟩ = some (.int .i64 (Dm.lo d.r 0)) := by simpa using hc0
    have HC0 : Hid (W0.cell? ⟨bb, off, none⟩ = some (.int .i64 (Dm.lo d.r 0))) := hc1
    clear hc1
    have hn0 : 0 < n0 := by omega
    have hcp : True := trivial
    clear hW0 hc hc0 hcell he2 hsz H2 H3 hs hf
    go_enter Tryz.func129, Tryz.ntmps129
    go_wp2_with fail
    rw [HW0.out]
    refine kb.mono ?_
    clear kb
    rintro e w1 ⟨rfl, hb1⟩
    have HB1 : Hid (Bx w1 W.heap.size _ _) := HB0.out.below hb1
    have HV1 : Hid (Bx w1 (W.heap.size + 1) _ _) := HV0.out.below hb1
    have hcc : w1.cell? ⟨bb, off, none⟩ = some (.int .i64 (Dm.lo d.r 0)) := (hb1.cell (p := ⟨bb, off, none⟩) hlt).trans HC0.out
    obtain ⟨z0, z1, z2, z3, z4, z5⟩ := HB1.out.six
    have hb2 : Below W.heap.size W w1 := hb0.trans (hb1.mono hb0.size)
    go_wp2_with (with_reducible refine stV rfl (.tmp 2) (.tmp 27) rfl (W.heap.size + 1) false (Dm.lo d.r 0) none 0 0 (by with_unfolding_all rfl) (by with_unfolding_all rfl) HV1.out rfl ?_)
    refine ⟨rfl, _, res_ct rfl _ (HV1.out.setRow _) (by with_unfolding_all rfl) rfl Tryz.underlying52 (by rw [Tryz.sizeVal]; rfl) (v := .bool true) (by with_unfolding_all rfl), ?_, below_row hb2 (by omega) _⟩
    rw [HO.out]; rfl
  · have HN1 : Hid (sz ≠ 1) := h1
    have hne : (sz != 1) = true := by simpa using h1
    clear hW0 hsz H1 H2 H3 hs hf HE
    go_enter Tryz.func129, Tryz.ntmps129
    go_wp2_with fail
    rw [HW0.out]
    refine kb.mono ?_
    clear kb
    rintro e w1 ⟨rfl, hb1⟩
    have HV1 : Hid (Bx w1 (W.heap.size + 1) _ _) := HV0.out.below hb1
    have hb2 : Below W.heap.size W w1 := hb0.trans (hb1.mono hb0.size)
    go_wp2_with (with_reducible refine stV rfl (.tmp 2) (.tmp 21) rfl (W.heap.size + 1) false 0 none 0 0 (by with_unfolding_all rfl) (by with_unfolding_all rfl) HV1.out rfl ?_)
    refine ⟨rfl, _, res_ct rfl _ (HV1.out.setRow _) (by with_unfolding_all rfl) rfl Tryz.underlying52 (by rw [Tryz.sizeVal]; rfl) (v := .bool false) (by with_unfolding_all rfl), ?_, below_row hb2 (by omega) _⟩
    rw [HO.out, if_neg HN1.out]
end Go.Proofs.YthkliicmoandmaaGreatDoor

namespace Go.Proofs.YthkliicmoandmaaGreatDoor
open Go.RowKit Go.Shelf
set_option linter.unusedVariables false
set_option linter.unusedSimpArgs false

abbrev ptr (p : Nat) : Value := .pointer (some ⟨p, 0, none⟩)
/-- The numbers that are left, in an object of package branch. -/
def Dr (X : Nat → Prop) (w : World) (p : Nat) (l : List Int) : Prop :=
  ∃ a c, Bx w p #[.slice a l.length c] 79 ∧ l.length ≤ c ∧ c ≤ 9223372036854775807 ∧ (0 < l.length → ∃ b off, a = some ⟨b, off, none⟩ ∧ b < w.heap.size ∧ b ≠ p ∧ ¬ X b ∧ ∀ i x, l[i]? = some x → w.cell? ⟨b, off + i, none⟩ = some (.int .i64 x))
/-- The rest of the division, 0 or above. -/
def modV (x m : Int) : Int := if x.tmod m < 0 then x.tmod m + m else x.tmod m
/-- What is told, and what is left. -/
def nextM (l : List Int) (m : Int) : Int × List Int := if m < 1 then (0, l) else match l with
  | [] => (0, [])
  | x :: r => (modV x m, r)
theorem mod_lt {x m : Int} (hm : 1 ≤ m) : -m < x.tmod m ∧ x.tmod m < m := by
  rcases Int.le_total 0 x with h | h
  · have h1 := Int.tmod_nonneg m h
    have h2 := Int.tmod_lt_of_pos x (show 0 < m by omega)
    omega
  · have h1 := Int.tmod_nonneg m (show 0 ≤ -x by omega)
    have h2 := Int.tmod_lt_of_pos (-x) (show 0 < m by omega)
    rw [Int.neg_tmod] at h1 h2
    omega
theorem Bx.set0 {w : World} {g : Nat} {x v : Value} {t : TypeId} (h : Bx w g #[x] t) : Bx (w.setCell ⟨g, 0, none⟩ v) g #[v] t := ⟨by rw [heap_setCell_in h.h (by simp)]; rfl⟩
theorem Kept.set {w : World} (p o : Nat) (v : Value) : Kept (fun b => b = p) w (w.setCell ⟨p, o, none⟩ v) := Kept.setCell (X := fun b => b = p) (Kept.refl _ w) rfl o v
theorem Dr.kept {X : Nat → Prop} {w w' : World} {p q : Nat} {l : List Int} (h : Dr X w p l) (k : Kept (fun b => b = q) w w') (hq : p ≠ q) (hX : X q) : Dr X w' p l := by
  obtain ⟨a, c, h1, h2, h3, h4⟩ := h
  refine ⟨a, c, h1.kept k hq, h2, h3, fun h0 => ?_⟩
  obtain ⟨b, off, rfl, e2, e3, e5, e4⟩ := h4 h0
  exact ⟨b, off, rfl, Nat.lt_of_lt_of_le e2 k.size, e3, e5, fun i x hx => (k.cell e2 (fun e => e5 (by rw [e]; exact hX)) _).trans (e4 i x hx)⟩
set_option maxRecDepth 100000 in
set_option maxHeartbeats 4000000 in
theorem left_nil (W : World) : Calls Tryz.prog 15 #[.pointer none] W fun e w' => e = .returned (.int .i64 0) ∧ w' = W := by
  go_enter Tryz.func15, Tryz.ntmps15
  go_wp2
  go_ret
  exact ⟨rfl, rfl⟩

set_option maxRecDepth 100000 in
set_option maxHeartbeats 4000000 in
theorem left_any {X : Nat → Prop} {W : World} {p : Nat} {l : List Int} (h : Dr X W p l) : Calls Tryz.prog 15 #[ptr p] W fun e w' => e = .returned (.int .i64 l.length) ∧ w' = W := by
  obtain ⟨a, c, h1, h2, h3, h4⟩ := h
  have z0 := h1.cell 0
  simp only [List.getElem?_toArray, List.getElem?_cons_zero] at z0
  clear h4 h1 h3 h2
  generalize l.length = n at *
  go_enter Tryz.func15, Tryz.ntmps15
  go_wp2
  go_ret
  exact ⟨rfl, rfl⟩

set_option maxRecDepth 100000 in
set_option maxHeartbeats 4000000 in
theorem next_nil (W : World) (m : Int) (hm : 1 ≤ m) : Calls Tryz.prog 74 #[.pointer none, .int .i64 m] W fun e w' => e = .returned (.int .i64 0) ∧ w' = W := by
  have hm' : decide (m < 1) = false := by simp; omega
  go_enter Tryz.func74, Tryz.ntmps74
  go_wp2_with (go_at_call 15; refine (left_nil _).mono ?_; rintro e w1 ⟨rfl, rfl⟩)
  go_ret
  exact ⟨rfl, rfl⟩

set_option maxRecDepth 100000 in
set_option maxHeartbeats 4000000 in
theorem next_small {W : World} {p : Nat} (m : Int) (hm : m < 1) : Calls Tryz.prog 74 #[ptr p, .int .i64 m] W fun e w' => e = .returned (.int .i64 0) ∧ w' = W := by
  have hm' : decide (m < 1) = true := by simpa using hm
  go_enter Tryz.func74, Tryz.ntmps74
  go_wp2
  go_ret
  exact ⟨rfl, rfl⟩

set_option maxRecDepth 100000 in
set_option maxHeartbeats 4000000 in
theorem next_none {X : Nat → Prop} {W : World} {p : Nat} (h : Dr X W p []) (m : Int) (hm : 1 ≤ m) : Calls Tryz.prog 74 #[ptr p, .int .i64 m] W fun e w' => e = .returned (.int .i64 0) ∧ w' = W := by
  have hm' : decide (m < 1) = false := by simp; omega
  have kl := left_any h
  go_enter Tryz.func74, Tryz.ntmps74
  go_wp2_with (go_at_call 15; refine kl.mono ?_; rintro e w1 ⟨rfl, rfl⟩)
  go_ret
  exact ⟨rfl, rfl⟩

set_option maxRecDepth 100000 in
set_option maxHeartbeats 4000000 in
theorem next_some {X : Nat → Prop} {W : World} {p : Nat} {x : Int} {r : List Int} (h : Dr X W p (x :: r)) (m : Int) (hm : 1 ≤ m) (hM : m ≤ 9223372036854775807) :
    Calls Tryz.prog 74 #[ptr p, .int .i64 m] W fun e w' => e = .returned (.int .i64 (modV x m)) ∧ Dr X w' p r ∧ Kept (fun b => b = p) W w' := by
  have hm' : decide (m < 1) = false := by simp; omega
  have kl := left_any h
  obtain ⟨a, c, h1, h2, h3, h4⟩ := h
  obtain ⟨b, off, rfl, hb, hbp, hbX, hc⟩ := h4 (by simp)
  have c0 : W.cell? ⟨b, off, none⟩ = some (.int .i64 x) := by simpa using hc 0 x rfl
  have z0 := h1.cell 0
  have zf := h1.fr 0
  simp only [List.getElem?_toArray, List.getElem?_cons_zero] at z0
  obtain ⟨hl1, hl2⟩ := mod_lt (x := x) hm
  have hn : (x :: r).length = r.length + 1 := rfl
  obtain ⟨n, hn2⟩ : ∃ n, (x :: r).length = n := ⟨_, rfl⟩
  rw [hn2] at z0 kl h2 h1
  have hn0 : 0 < n := by omega
  have hn1 : ((n : Int) == 0) = false := by simp; omega
  have HN : Hid (n = r.length + 1) := by rw [← hn2]; exact hn
  have hm0 : ¬ m = 0 := by omega
  have HC : Hid _ := hc
  have H1 : Hid (Bx W p #[.slice (some ⟨b, off, none⟩) n c] 79) := h1
  clear h4 hc hn hn2 h1
  have key : ∀ a', Dr X (W.setCell ⟨p, 0, none⟩ (.slice a' (n - 1) (c - 1))) p r ∨ ¬ (0 < r.length → a' = some ⟨b, off + 1, none⟩) := by
    intro a'
    by_cases hq : 0 < r.length → a' = some ⟨b, off + 1, none⟩
    · left
      refine ⟨a', c - 1, ?_, ?_, ?_, fun h0 => ⟨b, off + 1, hq h0, by simpa [World.setCell] using hb, hbp, hbX, fun i y hy => ?_⟩⟩
      · rw [show r.length = n - 1 by have := HN.out; omega]; exact H1.out.set0
      · have := HN.out; omega
      · omega
      · have h5 := HC.out (i + 1) y (by simpa using hy)
        rw [show off + 1 + i = off + (i + 1) by omega]
        exact ((Kept.set p 0 _).cell hb hbp _).trans h5
    · exact .inr hq
  have HK : Hid _ := key
  clear key
  have hw : wrap64 (x.tmod m + m) = x.tmod m + m ∨ ¬ x.tmod m < 0 := by
    by_cases h : x.tmod m < 0
    · left; unfold wrap64; omega
    · exact .inr h
  have HW : Hid _ := hw
  clear hw
  by_cases hneg : x.tmod m < 0
  · have HM : Hid (modV x m = x.tmod m + m) := by unfold Hid modV; rw [if_pos hneg]
    rcases Nat.lt_or_eq_of_le (show 1 ≤ c by omega) with hc1 | hc1
    · have hc2 : ¬ c = 1 := by omega
      go_enter Tryz.func74, Tryz.ntmps74
      go_wp2_with (go_at_call 15; refine kl.mono ?_; rintro e w1 ⟨rfl, rfl⟩)
      go_ret
      exact ⟨ret_int (by first | (rw [HM.out]; done) | (rw [HM.out]; exact HW.out.resolve_right (fun h => h hneg))), (HK.out _).resolve_right (fun h => h fun _ => rfl), Kept.set _ _ _⟩
    · have hr : ¬ 0 < r.length := by have := HN.out; omega
      subst hc1
      obtain rfl : n = 1 := by omega
      go_enter Tryz.func74, Tryz.ntmps74
      go_wp2_with (go_at_call 15; refine kl.mono ?_; rintro e w1 ⟨rfl, rfl⟩)
      go_ret
      exact ⟨ret_int (by first | (rw [HM.out]; done) | (rw [HM.out]; exact HW.out.resolve_right (fun h => h hneg))), by simpa using (HK.out _).resolve_right (fun h => h fun q => absurd q hr), Kept.set _ _ _⟩
  · have HM : Hid (modV x m = x.tmod m) := by unfold Hid modV; rw [if_neg hneg]
    rcases Nat.lt_or_eq_of_le (show 1 ≤ c by omega) with hc1 | hc1
    · have hc2 : ¬ c = 1 := by omega
      go_enter Tryz.func74, Tryz.ntmps74
      go_wp2_with (go_at_call 15; refine kl.mono ?_; rintro e w1 ⟨rfl, rfl⟩)
      go_ret
      exact ⟨ret_int (by rw [HM.out]), (HK.out _).resolve_right (fun h => h fun _ => rfl), Kept.set _ _ _⟩
    · have hr : ¬ 0 < r.length := by have := HN.out; omega
      subst hc1
      obtain rfl : n = 1 := by omega
      go_enter Tryz.func74, Tryz.ntmps74
      go_wp2_with (go_at_call 15; refine kl.mono ?_; rintro e w1 ⟨rfl, rfl⟩)
      go_ret
      exact ⟨ret_int (by rw [HM.out]), by simpa using (HK.out _).resolve_right (fun h => h fun q => absurd q hr), Kept.set _ _ _⟩

set_option maxRecDepth 100000 in
set_option maxHeartbeats 4000000 in
theorem next_any {X : Nat → Prop} {W : World} {p : Nat} {l : List Int} (h : Dr X W p l) (m : Int) (hM : m ≤ 9223372036854775807) :
    Calls Tryz.prog 74 #[ptr p, .int .i64 m] W fun e w' => e = .returned (.int .i64 (nextM l m).1) ∧ Dr X w' p (nextM l m).2 ∧ Kept (fun b => b = p) W w' := by
  unfold nextM
  by_cases hm : m < 1
  · rw [if_pos hm]
    exact (next_small m hm).mono fun e w' ⟨he, hw⟩ => ⟨he, by rw [hw]; exact h, by rw [hw]; exact Kept.refl _ _⟩
  · rw [if_neg hm]
    cases l with
    | nil => exact (next_none h m (by omega)).mono fun e w' ⟨he, hw⟩ => ⟨he, by rw [hw]; exact h, by rw [hw]; exact Kept.refl _ _⟩
    | cons x r => exact next_some h m (by omega) hM

end Go.Proofs.YthkliicmoandmaaGreatDoor
