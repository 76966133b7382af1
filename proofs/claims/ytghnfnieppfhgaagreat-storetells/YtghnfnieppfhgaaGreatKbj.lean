/-
  What is proved here: a store in memory: how it reads, and what each of its stores leaves.
  What is proved here: what package kinds answers of domains of whole numbers.
  What is proved here: what package kinds and store answer of domains of whole numbers: empty, what is in both.
  What is proved here: cells of a box that are read and written.
-/
import Derived.Test.YtghnfnieppfhgaaGreatKa
namespace Go.Proofs.YtghnfnieppfhgaaGreat
open Go.RowKit Go.Shelf
set_option linter.unusedVariables false
set_option linter.unusedSimpArgs false

/-- What a store is. -/
structure StM where
  D : List MD
  e : Int
  why : List Int
  since : List Int
  saved : List (Int × MD × Int)
  marks : List Int
/-- Its slices. -/
structure Sl where
  sv : Value
  mv : Value
  iv : Value
  dv : Value
  wv : Value
/-- The blocks that are written into. -/
def XS (p : Nat) (sl : Sl) : Nat → Prop := fun b => b = p ∨ sl.sv.ownBlock = some b ∨ sl.mv.ownBlock = some b ∨ sl.iv.ownBlock = some b ∨ sl.dv.ownBlock = some b ∨ sl.wv.ownBlock = some b
def kcell (v : Int) (c : List Value) (s : Int) : List Value := .int .i64 v :: (c ++ [.int .i64 s])
/-- Domains in a row. -/
def Dr (X : Nat → Prop) (w : World) (cs : List (List Value)) (D : List MD) : Prop := cs.length = D.length ∧ ∀ (i : Nat) c d, cs[i]? = some c → D[i]? = some d → Dc X w c d
/-- What is kept, in a row. -/
def Kr (X : Nat → Prop) (w : World) (ks : List (List Value)) (S : List (Int × MD × Int)) : Prop := ks.length = S.length ∧ ∀ (i : Nat) (kc : List Value) (t : Int × MD × Int), ks[i]? = some kc → S[i]? = some t → ∃ c, kc = kcell t.1 c t.2.2 ∧ Dc X w c t.2.1
/-- Block p holds a store. -/
structure Sto (w : World) (p : Nat) (st : StM) (sl : Sl) : Prop where
  blk : w.heap[p]? = some (.cells #[sl.sv, sl.mv, sl.iv, sl.dv, .int .i64 st.e, sl.wv] 68 (0, 0))
  doms : ∃ cs, Rw w 37 sl.dv 6 cs ∧ Dr (XS p sl) w cs st.D
  why : Rw w 3 sl.wv 1 (ivs st.why)
  since : Rw w 3 sl.iv 1 (ivs st.since)
  saved : ∃ ks, Rw w 105 sl.sv 8 ks ∧ Kr (XS p sl) w ks st.saved
  marks : Rw w 3 sl.mv 1 (ivs st.marks)
  wi : ∀ b, sl.wv.ownBlock = some b → sl.iv.ownBlock ≠ some b
  wm : ∀ b, sl.wv.ownBlock = some b → sl.mv.ownBlock ≠ some b
  im : ∀ b, sl.iv.ownBlock = some b → sl.mv.ownBlock ≠ some b
  lw : st.why.length = st.D.length
  ls : st.since.length = st.D.length
theorem Kept.mono {X Y : Nat → Prop} {w w' : World} (h : Kept X w w') (hXY : ∀ b, X b → Y b) : Kept Y w w' := ⟨h.os, h.tape, h.output, h.size, fun b hb hY => h.block b hb (fun q => hY (hXY b q))⟩
theorem Dr.kept {X : Nat → Prop} {w w' : World} {cs : List (List Value)} {D : List MD} (h : Dr X w cs D) (k : Kept X w w') : Dr X w' cs D := ⟨h.1, fun i c d h1 h2 => (h.2 i c d h1 h2).kept k⟩
theorem Kr.kept {X : Nat → Prop} {w w' : World} {cs : List (List Value)} {D : List (Int × MD × Int)} (h : Kr X w cs D) (k : Kept X w w') : Kr X w' cs D := ⟨h.1, fun i c d h1 h2 => by obtain ⟨c', e, q⟩ := h.2 i c d h1 h2; exact ⟨c', e, q.kept k⟩⟩
theorem Dr.go {X X' : Nat → Prop} {w w' : World} {cs : List (List Value)} {D : List MD} (h : Dr X w cs D) (k : Kept X w w') (u : Up X X' w) : Dr X' w' cs D := ⟨h.1, fun i c d h1 h2 => (h.2 i c d h1 h2).go k u⟩
theorem Kr.go {X X' : Nat → Prop} {w w' : World} {cs : List (List Value)} {D : List (Int × MD × Int)} (h : Kr X w cs D) (k : Kept X w w') (u : Up X X' w) : Kr X' w' cs D := ⟨h.1, fun i c d h1 h2 => by obtain ⟨c', e, q⟩ := h.2 i c d h1 h2; exact ⟨c', e, q.go k u⟩⟩
theorem Rw.typ {w : World} {t : TypeId} {s : Value} {k : Nat} {vs : List (List Value)} (h : Rw w t s k vs) {g : Nat} (hg : s.ownBlock = some g) : ∃ cur, w.heap[g]? = some (.cells cur t (0, 0)) := by
  rcases h.2.2 with ⟨e1, e2⟩ | ⟨g', cap, cur, e1, _, hh, _⟩
  · rw [e1] at hg; cases hg
  · rw [e1] at hg; injection hg with hg; subst hg; exact ⟨cur, hh⟩
theorem ne_typ {w : World} {a b : Nat} {x y : Array Value} {s t : TypeId} {f g : Nat × Nat} (h : w.heap[a]? = some (.cells x s f)) (k : w.heap[b]? = some (.cells y t g)) (hst : s ≠ t) : a ≠ b := fun e => by
  subst e
  rw [h] at k
  injection k with k
  injection k with _ k _
  exact hst k
theorem Rw.ne {w : World} {t u : TypeId} {s r : Value} {k l : Nat} {vs us : List (List Value)} (h : Rw w t s k vs) (h' : Rw w u r l us) (htu : t ≠ u) {g : Nat} (hg : s.ownBlock = some g) : r.ownBlock ≠ some g := fun q => by
  obtain ⟨c1, e1⟩ := h.typ hg
  obtain ⟨c2, e2⟩ := h'.typ q
  exact ne_typ e1 e2 htu rfl
theorem Rw.nep {w : World} {t u : TypeId} {s : Value} {k p : Nat} {vs : List (List Value)} {x : Array Value} {f : Nat × Nat} (h : Rw w t s k vs) (hp : w.heap[p]? = some (.cells x u f)) (htu : t ≠ u) : s.ownBlock ≠ some p := fun q => by
  obtain ⟨c1, e1⟩ := h.typ q
  exact ne_typ e1 hp htu rfl
/-- A row whose block is not the one that turned. -/
theorem Rw.stay {w w' : World} {t : TypeId} {s : Value} {k : Nat} {vs : List (List Value)} {G : Nat} (h : Rw w t s k vs) (hk : Kept (fun b => b = G) w w') (hG : s.ownBlock ≠ some G) : Rw w' t s k vs :=
  h.keep fun g hg => hk.block g (h.lt hg) (fun e => hG (e ▸ hg))
theorem Kept.one {w w' : World} {a : World} {g o : Nat} {v : Value} (e : w' = w.setCell ⟨g, o, none⟩ v) : Kept (fun b => b = g) w w' := by subst e; exact Kept.setCell (X := fun b => b = g) (Kept.refl _ w) rfl o v
theorem Kept.many {w w' : World} {g o : Nat} {vs : List Value} (e : w' = w.setCells g o vs) : Kept (fun b => b = g) w w' := by subst e; exact Kept.setCells (X := fun b => b = g) rfl vs o (Kept.refl _ w)
theorem Sto.p_lt {w : World} {p : Nat} {st : StM} {sl : Sl} (h : Sto w p st sl) : p < w.heap.size := (Array.getElem?_eq_some_iff.1 h.blk).1
theorem Sto.x_lt {w : World} {p : Nat} {st : StM} {sl : Sl} (h : Sto w p st sl) : ∀ b, XS p sl b → b < w.heap.size := fun b hb => by
  obtain ⟨cs, hd, _⟩ := h.doms
  obtain ⟨ks, hk, _⟩ := h.saved
  rcases hb with rfl | q | q | q | q | q
  · exact h.p_lt
  · exact hk.lt q
  · exact h.marks.lt q
  · exact h.since.lt q
  · exact hd.lt q
  · exact h.why.lt q
theorem Sto.cells {w : World} {p : Nat} {st : StM} {sl : Sl} (h : Sto w p st sl) :
    w.cell? ⟨p, 0, none⟩ = some sl.sv ∧ w.cell? ⟨p, 1, none⟩ = some sl.mv ∧ w.cell? ⟨p, 2, none⟩ = some sl.iv ∧ w.cell? ⟨p, 3, none⟩ = some sl.dv ∧ w.cell? ⟨p, 4, none⟩ = some (.int .i64 st.e) ∧ w.cell? ⟨p, 5, none⟩ = some sl.wv ∧ ∀ o, w.frozen? ⟨p, o, none⟩ = false := by
  have hp := h.blk
  refine ⟨?_, ?_, ?_, ?_, ?_, ?_, fun o => ?_⟩ <;> first | (rw [cell_of_row w p _ _ _ _ hp]; rfl) | simp [World.frozen?, hp]
theorem Sto.kept {w w' : World} {p : Nat} {st : StM} {sl : Sl} (h : Sto w p st sl) (hk : ∀ b, XS p sl b → w'.heap[b]? = w.heap[b]?) (k : Kept (XS p sl) w w') : Sto w' p st sl := by
  obtain ⟨cs, hd, hdr⟩ := h.doms
  obtain ⟨ks, hs, hkr⟩ := h.saved
  exact ⟨(hk p (.inl rfl)).trans h.blk, ⟨cs, hd.keep fun g hg => hk g (.inr (.inr (.inr (.inr (.inl hg))))), hdr.kept k⟩, h.why.keep fun g hg => hk g (.inr (.inr (.inr (.inr (.inr hg))))), h.since.keep fun g hg => hk g (.inr (.inr (.inr (.inl hg)))),
    ⟨ks, hs.keep fun g hg => hk g (.inr (.inl hg)), hkr.kept k⟩, h.marks.keep fun g hg => hk g (.inr (.inr (.inl hg))), h.wi, h.wm, h.im, h.lw, h.ls⟩
theorem Sto.below {w w' : World} {p : Nat} {st : StM} {sl : Sl} (h : Sto w p st sl) (hb : Below w.heap.size w w') : Sto w' p st sl :=
  h.kept (fun b q => hb.block b (h.x_lt b q)) (Kept.of_below hb)
/-- One cell of the block itself turned. -/
theorem Sto.set_e {w : World} {p : Nat} {st : StM} {sl : Sl} (h : Sto w p st sl) (x : Int) : Sto (w.setCell ⟨p, 4, none⟩ (.int .i64 x)) p { st with e := x } sl := by
  obtain ⟨cs, hd, hdr⟩ := h.doms
  obtain ⟨ks, hs, hkr⟩ := h.saved
  have k : Kept (fun b => b = p) w (w.setCell ⟨p, 4, none⟩ (.int .i64 x)) := Kept.one (a := w) rfl
  have kX := k.mono (Y := XS p sl) (fun b e => .inl e)
  exact ⟨heap_setCell_in h.blk (by simp), ⟨cs, hd.stay k (hd.nep h.blk (by decide)), hdr.kept kX⟩, h.why.stay k (h.why.nep h.blk (by decide)), h.since.stay k (h.since.nep h.blk (by decide)),
    ⟨ks, hs.stay k (hs.nep h.blk (by decide)), hkr.kept kX⟩, h.marks.stay k (h.marks.nep h.blk (by decide)), h.wi, h.wm, h.im, h.lw, h.ls⟩
theorem keep_p {w w' : World} {p G : Nat} {x : Array Value} {t u : TypeId} {f g : Nat × Nat} {cur : Array Value} (hp : w.heap[p]? = some (.cells x t f)) (hG : w.heap[G]? = some (.cells cur u g)) (htu : t ≠ u) (k : Kept (fun b => b = G) w w') : w'.heap[p]? = some (.cells x t f) :=
  (k.block p (Array.getElem?_eq_some_iff.1 hp).1 (ne_typ hp hG htu)).trans hp
theorem Sto.set_why {w : World} {p : Nat} {st : StM} {sl : Sl} (h : Sto w p st sl) {i g cap n : Nat} (hi : i < st.why.length) (hv : sl.wv = .slice (some ⟨g, 0, none⟩) n cap) (x : Int) : Sto (w.setCell ⟨g, i, none⟩ (.int .i64 x)) p { st with why := st.why.set i x } sl := by
  obtain ⟨cs, hd, hdr⟩ := h.doms
  obtain ⟨ks, hs, hkr⟩ := h.saved
  have hg : sl.wv.ownBlock = some g := by rw [hv]; rfl
  have k : Kept (fun b => b = g) w (w.setCell ⟨g, i, none⟩ (.int .i64 x)) := Kept.one (a := w) rfl
  have kX := k.mono (Y := XS p sl) (fun b e => .inr (.inr (.inr (.inr (.inr (e ▸ hg))))))
  obtain ⟨cur, hcur⟩ := h.why.typ hg
  obtain ⟨a, c, hsh, _⟩ := h.why.shape
  have hput := h.why.put (c := [.int .i64 x]) (i := i) (g := g) (cap := cap) (by rw [ivs_len]; exact hi) rfl (by rw [hv] at hsh ⊢; injection hsh with _ e _; rw [e])
  rw [ivs_set, Nat.mul_one] at hput
  exact ⟨keep_p h.blk hcur (by decide) k, ⟨cs, hd.stay k (h.why.ne hd (by decide) hg), hdr.kept kX⟩, hput, h.since.stay k (h.wi g hg),
    ⟨ks, hs.stay k (h.why.ne hs (by decide) hg), hkr.kept kX⟩, h.marks.stay k (h.wm g hg), h.wi, h.wm, h.im, by rw [List.length_set]; exact h.lw, h.ls⟩
theorem Sto.set_since {w : World} {p : Nat} {st : StM} {sl : Sl} (h : Sto w p st sl) {i g cap n : Nat} (hi : i < st.since.length) (hv : sl.iv = .slice (some ⟨g, 0, none⟩) n cap) (x : Int) : Sto (w.setCell ⟨g, i, none⟩ (.int .i64 x)) p { st with since := st.since.set i x } sl := by
  obtain ⟨cs, hd, hdr⟩ := h.doms
  obtain ⟨ks, hs, hkr⟩ := h.saved
  have hg : sl.iv.ownBlock = some g := by rw [hv]; rfl
  have k : Kept (fun b => b = g) w (w.setCell ⟨g, i, none⟩ (.int .i64 x)) := Kept.one (a := w) rfl
  have kX := k.mono (Y := XS p sl) (fun b e => .inr (.inr (.inr (.inl (e ▸ hg)))))
  obtain ⟨cur, hcur⟩ := h.since.typ hg
  obtain ⟨a, c, hsh, _⟩ := h.since.shape
  have hput := h.since.put (c := [.int .i64 x]) (i := i) (g := g) (cap := cap) (by rw [ivs_len]; exact hi) rfl (by rw [hv] at hsh ⊢; injection hsh with _ e _; rw [e])
  rw [ivs_set, Nat.mul_one] at hput
  exact ⟨keep_p h.blk hcur (by decide) k, ⟨cs, hd.stay k (h.since.ne hd (by decide) hg), hdr.kept kX⟩, h.why.stay k (fun q => h.wi g q hg), hput,
    ⟨ks, hs.stay k (h.since.ne hs (by decide) hg), hkr.kept kX⟩, h.marks.stay k (h.im g hg), h.wi, h.wm, h.im, h.lw, by rw [List.length_set]; exact h.ls⟩
theorem Sto.set_dom {w : World} {p : Nat} {st : StM} {sl : Sl} (h : Sto w p st sl) {i g cap n : Nat} (hi : i < st.D.length) (hv : sl.dv = .slice (some ⟨g, 0, none⟩) n cap) {c : List Value} {d : MD} (hc : Dc (XS p sl) w c d) : Sto (w.setCells g (i * 6) c) p { st with D := st.D.set i d } sl := by
  obtain ⟨cs, hd, hdr⟩ := h.doms
  obtain ⟨ks, hs, hkr⟩ := h.saved
  have hg : sl.dv.ownBlock = some g := by rw [hv]; rfl
  have k : Kept (fun b => b = g) w (w.setCells g (i * 6) c) := Kept.many rfl
  have kX := k.mono (Y := XS p sl) (fun b e => .inr (.inr (.inr (.inr (.inl (e ▸ hg))))))
  obtain ⟨cur, hcur⟩ := hd.typ hg
  obtain ⟨a, c', hsh, _⟩ := hd.shape
  have hput := hd.put (c := c) (i := i) (g := g) (cap := cap) (by have := hdr.1; omega) hc.len (by rw [hv] at hsh ⊢; injection hsh with _ e _; rw [e])
  refine ⟨keep_p h.blk hcur (by decide) k, ⟨cs.set i c, hput, ?_⟩, h.why.stay k (hd.ne h.why (by decide) hg), h.since.stay k (hd.ne h.since (by decide) hg),
    ⟨ks, hs.stay k (hd.ne hs (by decide) hg), hkr.kept kX⟩, h.marks.stay k (hd.ne h.marks (by decide) hg), h.wi, h.wm, h.im, by rw [List.length_set]; exact h.lw, by rw [List.length_set]; exact h.ls⟩
  refine ⟨by simp [hdr.1], fun j c1 d1 h1 h2 => ?_⟩
  by_cases e : i = j
  · subst e
    rw [List.getElem?_set_self (by rw [hdr.1]; exact hi)] at h1
    rw [List.getElem?_set_self hi] at h2
    injection h1 with h1
    injection h2 with h2
    subst h1 h2
    exact hc.kept kX
  · rw [List.getElem?_set_ne e] at h1 h2
    exact (hdr.2 j c1 d1 h1 h2).kept kX
/-- The slice of what is kept is another one. -/
theorem Sto.set_saved {w w1 : World} {p : Nat} {st : StM} {sl : Sl} (h : Sto w p st sl) {sv' : Value} {ks' : List (List Value)} {S' : List (Int × MD × Int)} (hg : w.grownBy w1 sl.sv.ownBlock) (hr : Rw w1 105 sv' 8 ks') (hn : ∀ b, sv'.ownBlock = some b → sl.sv.ownBlock = some b ∨ w.heap.size ≤ b)
    (hks : Kr (XS p { sl with sv := sv' }) w1 ks' S') : Sto (w1.setCell ⟨p, 0, none⟩ sv') p { st with saved := S' } { sl with sv := sv' } ∧ Up (XS p sl) (XS p { sl with sv := sv' }) w ∧ Kept (XS p sl) w (w1.setCell ⟨p, 0, none⟩ sv') := by
  obtain ⟨cs, hd, hdr⟩ := h.doms
  obtain ⟨ks, hs, hkr⟩ := h.saved
  have u : Up (XS p sl) (XS p { sl with sv := sv' }) w := fun b hb => by
    rcases hb with q | q | q
    · exact .inl (.inl q)
    · rcases hn b q with q | q
      · exact .inl (.inr (.inl q))
      · exact .inr q
    · exact .inl (.inr (.inr q))
  have k1 : Kept (XS p sl) w w1 := ⟨hg.os, hg.tape, hg.output, hg.size, fun b hb hx => hg.block b hb (fun e => hx (.inr (.inl e.symm)))⟩
  have b1 : ∀ b, b < w.heap.size → sl.sv.ownBlock ≠ some b → w1.heap[b]? = w.heap[b]? := fun b hb hx => hg.block b hb (fun e => hx e.symm)
  have hp1 : w1.heap[p]? = _ := (b1 p h.p_lt (hs.nep h.blk (by decide))).trans h.blk
  have r1 : Rw w1 37 sl.dv 6 cs := hd.keep fun g q => b1 g (hd.lt q) (hd.ne hs (by decide) q)
  have r2 := h.why.keep (w' := w1) fun g q => b1 g (h.why.lt q) (h.why.ne hs (by decide) q)
  have r3 := h.since.keep (w' := w1) fun g q => b1 g (h.since.lt q) (h.since.ne hs (by decide) q)
  have r4 := h.marks.keep (w' := w1) fun g q => b1 g (h.marks.lt q) (h.marks.ne hs (by decide) q)
  have k : Kept (fun b => b = p) w1 (w1.setCell ⟨p, 0, none⟩ sv') := Kept.one (a := w) rfl
  have kX := k.mono (Y := XS p { sl with sv := sv' }) (fun b e => .inl e)
  refine ⟨⟨heap_setCell_in hp1 (by simp), ⟨cs, r1.stay k (r1.nep hp1 (by decide)), (hdr.go k1 u).kept kX⟩, r2.stay k (r2.nep hp1 (by decide)), r3.stay k (r3.nep hp1 (by decide)),
    ⟨ks', hr.stay k (hr.nep hp1 (by decide)), hks.kept kX⟩, r4.stay k (r4.nep hp1 (by decide)), h.wi, h.wm, h.im, h.lw, h.ls⟩, u, ?_⟩
  exact k1.setCell (.inl rfl) 0 sv'
/-- The slice of marks is another one. -/
theorem Sto.set_marks {w w1 : World} {p : Nat} {st : StM} {sl : Sl} (h : Sto w p st sl) {mv' : Value} {M' : List Int} (hg : w.grownBy w1 sl.mv.ownBlock) (hr : Rw w1 3 mv' 1 (ivs M')) (hn : ∀ b, mv'.ownBlock = some b → sl.mv.ownBlock = some b ∨ w.heap.size ≤ b) :
    Sto (w1.setCell ⟨p, 1, none⟩ mv') p { st with marks := M' } { sl with mv := mv' } ∧ Up (XS p sl) (XS p { sl with mv := mv' }) w ∧ Kept (XS p sl) w (w1.setCell ⟨p, 1, none⟩ mv') := by
  obtain ⟨cs, hd, hdr⟩ := h.doms
  obtain ⟨ks, hs, hkr⟩ := h.saved
  have u : Up (XS p sl) (XS p { sl with mv := mv' }) w := fun b hb => by
    rcases hb with q | q | q | q
    · exact .inl (.inl q)
    · exact .inl (.inr (.inl q))
    · rcases hn b q with q | q
      · exact .inl (.inr (.inr (.inl q)))
      · exact .inr q
    · exact .inl (.inr (.inr (.inr q)))
  have k1 : Kept (XS p sl) w w1 := ⟨hg.os, hg.tape, hg.output, hg.size, fun b hb hx => hg.block b hb (fun e => hx (.inr (.inr (.inl e.symm))))⟩
  have b1 : ∀ b, b < w.heap.size → sl.mv.ownBlock ≠ some b → w1.heap[b]? = w.heap[b]? := fun b hb hx => hg.block b hb (fun e => hx e.symm)
  have hp1 : w1.heap[p]? = _ := (b1 p h.p_lt (h.marks.nep h.blk (by decide))).trans h.blk
  have r1 : Rw w1 37 sl.dv 6 cs := hd.keep fun g q => b1 g (hd.lt q) (hd.ne h.marks (by decide) q)
  have r2 := h.why.keep (w' := w1) fun g q => b1 g (h.why.lt q) (h.wm g q)
  have r3 := h.since.keep (w' := w1) fun g q => b1 g (h.since.lt q) (h.im g q)
  have r4 := hs.keep (w' := w1) fun g q => b1 g (hs.lt q) (hs.ne h.marks (by decide) q)
  have k : Kept (fun b => b = p) w1 (w1.setCell ⟨p, 1, none⟩ mv') := Kept.one (a := w) rfl
  have kX := k.mono (Y := XS p { sl with mv := mv' }) (fun b e => .inl e)
  refine ⟨⟨heap_setCell_in hp1 (by simp), ⟨cs, r1.stay k (r1.nep hp1 (by decide)), (hdr.go k1 u).kept kX⟩, r2.stay k (r2.nep hp1 (by decide)), r3.stay k (r3.nep hp1 (by decide)),
    ⟨ks, r4.stay k (r4.nep hp1 (by decide)), (hkr.go k1 u).kept kX⟩, hr.stay k (hr.nep hp1 (by decide)), h.wi, fun b q q2 => ?_, fun b q q2 => ?_, h.lw, h.ls⟩, u, ?_⟩
  · rcases hn b q2 with e | e
    · exact h.wm b q e
    · have := h.why.lt q; omega
  · rcases hn b q2 with e | e
    · exact h.im b q e
    · have := h.since.lt q; omega
  exact k1.setCell (.inl rfl) 1 mv'
theorem Sto.clear_why {w : World} {p : Nat} {st : StM} {sl : Sl} (h : Sto w p st sl) {g cap n : Nat} (hv : sl.wv = .slice (some ⟨g, 0, none⟩) n cap) : Sto (w.setCells g 0 (List.replicate st.why.length (.int .i64 0))) p { st with why := List.replicate st.why.length 0 } sl := by
  obtain ⟨cs, hd, hdr⟩ := h.doms
  obtain ⟨ks, hs, hkr⟩ := h.saved
  have hg : sl.wv.ownBlock = some g := by rw [hv]; rfl
  have k : Kept (fun b => b = g) w (w.setCells g 0 (List.replicate st.why.length (.int .i64 0))) := Kept.many rfl
  have kX := k.mono (Y := XS p sl) (fun b e => .inr (.inr (.inr (.inr (.inr (e ▸ hg))))))
  obtain ⟨cur, hcur⟩ := h.why.typ hg
  refine ⟨keep_p h.blk hcur (by decide) k, ⟨cs, hd.stay k (h.why.ne hd (by decide) hg), hdr.kept kX⟩, ?_, h.since.stay k (h.wi g hg),
    ⟨ks, hs.stay k (h.why.ne hs (by decide) hg), hkr.kept kX⟩, h.marks.stay k (h.wm g hg), h.wi, h.wm, h.im, by simpa using h.lw, h.ls⟩
  have hw := h.why
  rcases hw.2.2 with ⟨e1, e2⟩ | ⟨g', cap', cur', e1, e0, hh, hn, hm, hsz, ht⟩
  · rw [hv] at e1; cases e1
  · rw [e1] at hg
    injection hg with hg
    subst hg
    rw [ivs_len] at hn
    refine ⟨fun c hc => by simp [ivs] at hc; obtain ⟨_, rfl⟩ := hc; rfl, by rw [ivs_flat, ivs_len]; simp, .inr ⟨g', cap', wr cur' 0 (List.replicate st.why.length (.int .i64 0)), by rw [e1, ivs_len, ivs_len, List.length_replicate], e0, heap_setCells _ 0 hh (by simp; omega), by rw [ivs_len, List.length_replicate]; exact hn, hm, by rw [wr_size]; exact hsz, ?_⟩⟩
    rw [ivs_len, ivs_flat, List.length_replicate, List.map_replicate]
    apply List.ext_getElem?
    intro j
    rw [List.getElem?_take, wr_get _ _ _ _ (by simp; omega)]
    by_cases hj : j < st.why.length
    · rw [if_pos (by omega), if_pos (by simp; omega), Nat.sub_zero]
    · rw [if_neg (by omega), List.getElem?_eq_none (by simp; omega)]
end Go.Proofs.YtghnfnieppfhgaaGreat

namespace Go.Proofs.YtghnfnieppfhgaaGreat
open Go.RowKit Go.Shelf
set_option linter.unusedVariables false
set_option linter.unusedSimpArgs false

theorem ret_bool {a b : Bool} (h : a = b) : Ending.returned (.bool a) = .returned (.bool b) := by rw [h]
theorem ret_int {a b : Int} (h : a = b) : Ending.returned (.int .i64 a) = .returned (.int .i64 b) := by rw [h]
/-- A block with its cells. -/
structure Bx (w : World) (g : Nat) (cs : Array Value) (t : TypeId) : Prop where
  h : w.heap[g]? = some (.cells cs t (0, 0))
theorem Bx.lt {w : World} {g : Nat} {cs : Array Value} {t : TypeId} (h : Bx w g cs t) : g < w.heap.size := (Array.getElem?_eq_some_iff.1 h.h).1
theorem Bx.below {w w' : World} {g : Nat} {cs : Array Value} {t : TypeId} (h : Bx w g cs t) (hb : Below w.heap.size w w') : Bx w' g cs t := ⟨(hb.block g h.lt).trans h.h⟩
theorem Bx.kept {X : Nat → Prop} {w w' : World} {g : Nat} {cs : Array Value} {t : TypeId} (h : Bx w g cs t) (hb : Kept X w w') (hX : ¬ X g) : Bx w' g cs t := ⟨(hb.block g h.lt hX).trans h.h⟩
theorem Bx.new (w : World) (cs : Array Value) (t : TypeId) : Bx (w.alloc (.cells cs t)) w.heap.size cs t := ⟨World.alloc_heap_new w _⟩
theorem Bx.new' {w : World} {n : Nat} (hn : w.heap.size = n) (cs : Array Value) (t : TypeId) : Bx (w.alloc (.cells cs t)) n cs t := by subst hn; exact ⟨World.alloc_heap_new w _⟩
theorem Bx.alloc {w : World} {g : Nat} {cs : Array Value} {t : TypeId} (h : Bx w g cs t) (o : Obj) : Bx (w.alloc o) g cs t := ⟨(Below.heap_alloc _ _ _ h.lt).trans h.h⟩
theorem Bx.drew {w : World} {g : Nat} {cs : Array Value} {t : TypeId} (h : Bx w g cs t) (n : Nat) : Bx (w.drewN n) g cs t := ⟨h.h⟩
theorem Bx.cell {w : World} {g : Nat} {cs : Array Value} {t : TypeId} (h : Bx w g cs t) (j : Nat) : w.cell? ⟨g, j, none⟩ = cs[j]? := cell_of_row w g j cs t (0, 0) h.h
theorem Bx.fr {w : World} {g : Nat} {cs : Array Value} {t : TypeId} (h : Bx w g cs t) (j : Nat) : w.frozen? ⟨g, j, none⟩ = false := by simp [World.frozen?, h.h]
theorem Bx.six {w : World} {g : Nat} {x0 x1 x2 x3 x4 x5 : Value} {t : TypeId} (h : Bx w g #[x0, x1, x2, x3, x4, x5] t) :
    w.cell? ⟨g, 0, none⟩ = some x0 ∧ w.cell? ⟨g, 1, none⟩ = some x1 ∧ w.cell? ⟨g, 2, none⟩ = some x2 ∧ w.cell? ⟨g, 3, none⟩ = some x3 ∧ w.cell? ⟨g, 4, none⟩ = some x4 ∧ w.cell? ⟨g, 5, none⟩ = some x5 := ⟨h.cell 0, h.cell 1, h.cell 2, h.cell 3, h.cell 4, h.cell 5⟩
/-- What the cells of a domain look like. -/
theorem Dc.look {X : Nat → Prop} {w : World} {c : List Value} {d : MD} (h : Dc X w c d) : ∃ b ra n0 rc a1 n1 c1 a2 n2 c2 x y, c = [.bool b, .slice ra n0 rc, .slice a1 n1 c1, .slice a2 n2 c2, .int .i64 x, .int .i64 y] ∧
    Hid (d.set = b ∧ d.r.length = n0 ∧ d.lo.length = n1 ∧ d.up.length = n2 ∧ d.least = x ∧ d.most = y) ∧ Hid (Rm X w (.slice ra n0 rc) d.r) ∧ Hid (Nm X w (.slice a1 n1 c1) d.lo) ∧ Hid (Nm X w (.slice a2 n2 c2) d.up) := by
  obtain ⟨ra, rc, a1, c1, a2, c2, e, h1, h2, h3⟩ := h
  exact ⟨_, _, _, _, _, _, _, _, _, _, _, _, e, ⟨rfl, rfl, rfl, rfl, rfl, rfl⟩, h1, h2, h3⟩
def rightW (d : MD) : Bool := Dm.rightB d.r && decide (d.lo.length = 0) && decide (d.up.length = 0) && decide (d.least = 0) && decide (d.most = 0)

set_option maxRecDepth 100000 in
set_option maxHeartbeats 4000000 in
theorem right_w {X : Nat → Prop} {W : World} {c : List Value} {d : MD} (h : Dc X W c d) (hs : d.set = false) (hf : Dm.FitsR d.r) :
    Calls Tryz.prog 30 #[.agg c.toArray] W fun e w' => e = .returned (.bool (rightW d)) ∧ Below W.heap.size W w' := by
  obtain ⟨b, ra, n0, rc, a1, n1, c1, a2, n2, c2, x, y, rfl, HE, H1, H2, H3⟩ := h.look
  clear h
  obtain rfl : b = false := by rw [← HE.out.1, hs]
  obtain ⟨W0, hW0⟩ : ∃ Q, W.alloc (Obj.cells #[.bool false, .slice ra n0 rc, .slice a1 n1 c1, .slice a2 n2 c2, .int .i64 x, .int .i64 y] 37) = Q := ⟨_, rfl⟩
  have hb0 : Below W.heap.size W W0 := by rw [← hW0]; exact (Below.refl _ W).alloc (Nat.le_refl _) _
  have HB0 : Hid (Bx W0 W.heap.size #[.bool false, .slice ra n0 rc, .slice a1 n1 c1, .slice a2 n2 c2, .int .i64 x, .int .i64 y] 37) := by rw [← hW0]; exact Bx.new _ _ _
  have kr := Dm.right_any _ _ _ (H1.out.kept (Kept.of_below hb0)).sr hf
  have hM : rightW d = (Dm.rightB d.r && decide (n1 = 0) && decide (n2 = 0) && decide (x = 0) && decide (y = 0)) := by
    obtain ⟨_, _, rfl, rfl, rfl, rfl⟩ := HE.out; rfl
  rw [hM]
  clear hM H1 H2 H3 hf hs HE
  have HW0 : Hid _ := hW0
  clear hW0
  cases hR : Dm.rightB d.r
  · rw [hR] at kr
    go_enter Tryz.func30, Tryz.ntmps30
    go_wp2_with fail
    rw [HW0.out]
    refine kr.mono ?_
    rintro e w1 ⟨rfl, hb1⟩
    go_wp2
    go_ret
    exact ⟨ret_bool (by simp), hb0.trans (hb1.mono hb0.size)⟩
  · rw [hR] at kr
    rcases Nat.eq_zero_or_pos n1 with e1 | e1
    · rcases Nat.eq_zero_or_pos n2 with e2 | e2
      · by_cases e3 : x = 0
        · subst e1 e2 e3
          by_cases e4 : y = 0
          · subst e4
            go_enter Tryz.func30, Tryz.ntmps30
            go_wp2_with fail
            rw [HW0.out]
            refine kr.mono ?_
            rintro e w1 ⟨rfl, hb1⟩
            obtain ⟨z0, z1, z2, z3, z4, z5⟩ := (HB0.out.below hb1).six
            go_wp2
            go_ret
            exact ⟨ret_bool (by simp), hb0.trans (hb1.mono hb0.size)⟩
          · go_enter Tryz.func30, Tryz.ntmps30
            go_wp2_with fail
            rw [HW0.out]
            refine kr.mono ?_
            rintro e w1 ⟨rfl, hb1⟩
            obtain ⟨z0, z1, z2, z3, z4, z5⟩ := (HB0.out.below hb1).six
            go_wp2
            go_ret
            exact ⟨ret_bool (by simp [e4]), hb0.trans (hb1.mono hb0.size)⟩
        · subst e1 e2
          go_enter Tryz.func30, Tryz.ntmps30
          go_wp2_with fail
          rw [HW0.out]
          refine kr.mono ?_
          rintro e w1 ⟨rfl, hb1⟩
          obtain ⟨z0, z1, z2, z3, z4, z5⟩ := (HB0.out.below hb1).six
          go_wp2
          go_ret
          exact ⟨ret_bool (by simp [e3]), hb0.trans (hb1.mono hb0.size)⟩
      · have e2' : ¬ (n2 : Int) = 0 := by omega
        subst e1
        go_enter Tryz.func30, Tryz.ntmps30
        go_wp2_with fail
        rw [HW0.out]
        refine kr.mono ?_
        rintro e w1 ⟨rfl, hb1⟩
        obtain ⟨z0, z1, z2, z3, z4, z5⟩ := (HB0.out.below hb1).six
        go_wp2
        go_ret
        exact ⟨ret_bool (by simp; omega), hb0.trans (hb1.mono hb0.size)⟩
    · have e1' : ¬ (n1 : Int) = 0 := by omega
      go_enter Tryz.func30, Tryz.ntmps30
      go_wp2_with fail
      rw [HW0.out]
      refine kr.mono ?_
      rintro e w1 ⟨rfl, hb1⟩
      obtain ⟨z0, z1, z2, z3, z4, z5⟩ := (HB0.out.below hb1).six
      go_wp2
      go_ret
      exact ⟨ret_bool (by simp; omega), hb0.trans (hb1.mono hb0.size)⟩
end Go.Proofs.YtghnfnieppfhgaaGreat

namespace Go.Proofs.YtghnfnieppfhgaaGreat
open Go.RowKit Go.Shelf
set_option linter.unusedVariables false
set_option linter.unusedSimpArgs false

theorem Tryz.sizeDom : (Tryz.prog.info? 37).map (·.size) = some 6 := by kernel_rfl
theorem Bx.setRow {w : World} {g : Nat} {old : Array Value} {t : TypeId} (h : Bx w g old t) (cs : Array Value) : Bx (w.setRow g cs) g cs t := ⟨setRow_heap w g _ _ t (0, 0) h.h⟩
theorem Bx.setRow_ne {w : World} {g k : Nat} {cs : Array Value} {t : TypeId} (h : Bx w k cs t) (hk : k ≠ g) (c : Array Value) : Bx (w.setRow g c) k cs t := ⟨(setRow_other w g k c hk).trans h.h⟩
theorem six_one (b : Bool) (p0 : Option Addr) (m0 k0 : Nat) (p1 : Option Addr) (m1 k1 : Nat) (p2 : Option Addr) (m2 k2 : Nat) (i j : Int) : ∀ v ∈ [Value.bool b, .slice p0 m0 k0, .slice p1 m1 k1, .slice p2 m2 k2, .int .i64 i, .int .i64 j], v.oneCell' = true := by
  intro v hv
  simp only [List.mem_cons, List.not_mem_nil, or_false] at hv
  rcases hv with rfl | rfl | rfl | rfl | rfl | rfl <;> rfl
theorem stD {ops : Array Oper} {rest : List Oper} {o : Oper} {a : Act} {w : World} {Q : Exit → Act → World → Prop} {old : Array Value} (hgd : o.guard = none) (x y : Operand) (ho : o.op = .store 37 x y)
    (g : Nat) (c : List Value) (hx : a.eval x = .pointer (some ⟨g, 0, none⟩)) (hy : a.eval y = .agg c.toArray) (hg : Bx w g old 37) (hold : old.size = 6) (hc : c.length = 6) (h1 : ∀ v ∈ c, v.oneCell' = true)
    (h : wpList Tryz.prog ops Q rest (a.put o.dst undef) (w.setRow g c.toArray)) : wpList Tryz.prog ops Q (o :: rest) a w :=
  wpList_store_row hgd 37 x y ho g _ hx hy 37 _ hg.h (by rw [Tryz.sizeDom]; simp [hc]) (by simp [hold, hc]) (all_oneCell_toArray h1) h
theorem resD {fn : Func} {p : Tmp} (hf : fn.results = #[.cell p 37]) (tmps : Array Value) {w : World} {g : Nat} {c : List Value} (h : Bx w g c.toArray 37) (hc : c.length = 6) (hp : tmps.getD p undef = .pointer (some ⟨g, 0, none⟩)) :
    (results fn tmps).run Tryz.prog w = .ok (.agg c.toArray) w := results_cell_row hf tmps w g 37 _ (0, 0) _ hp h.h Tryz.underlying37 rfl (by rw [Tryz.sizeDom]; simp [hc])
theorem below_row {B g : Nat} {a w : World} (h : Below B a w) (hg : B ≤ g) (cs : Array Value) : Below B a (w.setRow g cs) :=
  h.trans ⟨rfl, rfl, rfl, by simp [World.setRow], fun k hk => setRow_other w g k cs (by omega)⟩
def emptyW (d : MD) : Bool := decide (d.r.length = 0)

set_option maxRecDepth 100000 in
set_option maxHeartbeats 4000000 in
theorem empty_w {X : Nat → Prop} {W : World} {c : List Value} {d : MD} (h : Dc X W c d) (hs : d.set = false) :
    Calls Tryz.prog 69 #[.agg c.toArray] W fun e w' => e = .returned (.bool (emptyW d)) ∧ Below W.heap.size W w' := by
  obtain ⟨b, ra, n0, rc, a1, n1, c1, a2, n2, c2, x, y, rfl, HE, H1, H2, H3⟩ := h.look
  clear h
  obtain rfl : b = false := by rw [← HE.out.1, hs]
  have hM : emptyW d = decide (n0 = 0) := by obtain ⟨_, rfl, _⟩ := HE.out; rfl
  rw [hM]
  clear hM H1 H2 H3 hs HE
  have hb0 : Below W.heap.size W (W.alloc (Obj.cells #[.bool false, .slice ra n0 rc, .slice a1 n1 c1, .slice a2 n2 c2, .int .i64 x, .int .i64 y] 37)) := (Below.refl _ W).alloc (Nat.le_refl _) _
  rcases Nat.eq_zero_or_pos n0 with e1 | e1
  · subst e1
    go_enter Tryz.func69, Tryz.ntmps69
    go_wp2
    go_ret
    exact ⟨ret_bool (by first | rfl | simp), hb0⟩
  · have e1' : ¬ (n0 : Int) = 0 := by omega
    go_enter Tryz.func69, Tryz.ntmps69
    go_wp2
    go_ret
    exact ⟨ret_bool (by rw [Bool.eq_iff_iff]; simp only [beq_iff_eq, decide_eq_true_eq]; omega), hb0⟩
def emptI (b : Bool) : Int := if b then 1 else 0

/-- What is in both. -/
def bothW (a b : MD) : MD := ⟨false, Dm.bothR a.r b.r, [], [], 0, 0⟩
theorem rm_own {X : Nat → Prop} {w : World} {B : Nat} {s : Value} {l : List Dm.Rg} (h : w.ownsRow B 80 2 s l.length (Dm.flat l)) (hX : ∀ b, X b → b < B) : Rm X w s l := by
  rcases h.2 with ⟨e1, e2⟩ | ⟨g, cap, cur, e1, hB, hg, hn, hm, hs, ht⟩
  · exact ⟨none, 0, by rw [e2]; exact e1, fun h0 => by omega⟩
  · refine ⟨_, cap, e1, fun h0 => ⟨g, 0, rfl, (Array.getElem?_eq_some_iff.1 hg).1, fun q => by have := hX g q; omega, fun i hi => ?_⟩⟩
    have hcap : l.length * 2 ≤ cap * 2 := Nat.mul_le_mul_right _ hn
    have key : ∀ j v, (Dm.flat l)[j]? = some v → w.cell? ⟨g, j, none⟩ = some v := fun j v hv => by
      have hj := (List.getElem?_eq_some_iff.1 hv).1
      rw [h.1] at hj
      rw [cell_of_row w g _ cur _ _ hg]
      rw [← ht, List.getElem?_take, if_pos hj, Array.getElem?_toList] at hv
      exact hv
    rw [Nat.zero_add]
    exact ⟨key _ _ ((Dm.flat_even l i hi).1), key _ _ ((Dm.flat_even l i hi).2)⟩
theorem Nm.empty (X : Nat → Prop) (w : World) : Nm X w (.slice none 0 0) [] := ⟨none, 0, rfl, fun h => absurd h (by simp)⟩

set_option maxRecDepth 100000 in
set_option maxHeartbeats 4000000 in
theorem with_w {X Y : Nat → Prop} {W : World} {c k : List Value} {d o : MD} (h : Dc X W c d) (h' : Dc Y W k o) (hs : d.set = false) (hs' : o.set = false) (hf : Dm.FitsR d.r) (hf' : Dm.FitsR o.r) :
    Calls Tryz.prog 74 #[.agg c.toArray, .agg k.toArray] W fun e w' => ∃ q : List Value, e = .returned (.agg q.toArray) ∧ (∀ Z : Nat → Prop, (∀ b, Z b → b < W.heap.size) → Dc Z w' q (bothW d o)) ∧ Below W.heap.size W w' := by
  obtain ⟨b, ra, n0, rc, a1, n1, c1, a2, n2, c2, x, y, rfl, HE, H1, H2, H3⟩ := h.look
  clear h
  obtain rfl : b = false := by rw [← HE.out.1, hs]
  obtain ⟨b', ra', n0', rc', a1', n1', c1', a2', n2', c2', x', y', rfl, HE', H1', H2', H3'⟩ := h'.look
  clear h'
  obtain rfl : b' = false := by rw [← HE'.out.1, hs']
  obtain ⟨W0, hW0⟩ : ∃ Q, ((W.alloc (Obj.cells #[.bool false, .slice ra n0 rc, .slice a1 n1 c1, .slice a2 n2 c2, .int .i64 x, .int .i64 y] 101)).alloc (Obj.cells #[.bool false, .slice ra' n0' rc', .slice a1' n1' c1', .slice a2' n2' c2', .int .i64 x', .int .i64 y'] 37)).alloc (Obj.cells #[.bool false, .slice none 0 0, .slice none 0 0, .slice none 0 0, .int .i64 0, .int .i64 0] 37) = Q := ⟨_, rfl⟩
  have hb0 : Below W.heap.size W W0 := by rw [← hW0]; exact ((((Below.refl _ W).alloc (Nat.le_refl _) _).alloc (by simp) _).alloc (by simp; omega) _)
  have HB0 : Hid (Bx W0 (W.heap.size + 2) #[.bool false, .slice none 0 0, .slice none 0 0, .slice none 0 0, .int .i64 0, .int .i64 0] 37) := by rw [← hW0]; exact Bx.new' (by simp) _ _
  have kb := Dm.domboth_any _ _ _ _ _ (H1.out.kept (Kept.of_below hb0)).sr (H1'.out.kept (Kept.of_below hb0)).sr hf hf'
  have hz0 : W0.heap.size = W.heap.size + 3 := by rw [← hW0]; simp
  have HZ0 : Hid (W0.heap.size = W.heap.size + 3) := hz0
  have HW0 : Hid _ := hW0
  clear hW0 hz0
  go_enter Tryz.func74, Tryz.ntmps74
  go_wp2_with fail
  rw [HW0.out]
  refine kb.mono ?_
  clear kb
  rintro e w1 ⟨s', rfl, ho, hb1⟩
  have HO : Hid _ := ho
  clear ho
  obtain ⟨p', m', k', rfl⟩ : ∃ p m k, s' = .slice p m k := by
    rcases HO.out.2 with ⟨e1, e2⟩ | ⟨g, cap, cur, e1, _⟩
    · exact ⟨_, _, _, e1⟩
    · exact ⟨_, _, _, e1⟩
  have HB1 : Hid (Bx w1 (W.heap.size + 2) _ _) := HB0.out.below hb1
  have hb2 : Below W.heap.size W w1 := hb0.trans (hb1.mono hb0.size)
  go_wp2_with (with_reducible refine stD rfl (.tmp 4) (.tmp 10) rfl (W.heap.size + 2) [.bool false, .slice p' m' k', .slice none 0 0, .slice none 0 0, .int .i64 0, .int .i64 0] (by with_unfolding_all rfl) (by with_unfolding_all rfl) HB1.out rfl rfl (six_one _ _ _ _ _ _ _ _ _ _ _ _) ?_)
  refine ⟨rfl, _, resD rfl _ (HB1.out.setRow _) rfl (by with_unfolding_all rfl), [.bool false, .slice p' m' k', .slice none 0 0, .slice none 0 0, .int .i64 0, .int .i64 0], rfl, fun Z hZ => ?_, below_row hb2 (by omega) _⟩
  have hr : Rm Z (w1.setRow (W.heap.size + 2) #[.bool false, .slice p' m' k', .slice none 0 0, .slice none 0 0, .int .i64 0, .int .i64 0]) (.slice p' m' k') (Dm.bothR d.r o.r) := by
    have h1 : Rm (fun b => b < W0.heap.size) w1 (.slice p' m' k') (Dm.bothR d.r o.r) := rm_own HO.out (fun b q => q)
    have h2 := h1.kept (w' := w1.setRow (W.heap.size + 2) #[.bool false, .slice p' m' k', .slice none 0 0, .slice none 0 0, .int .i64 0, .int .i64 0]) ⟨rfl, rfl, rfl, by simp [World.setRow], fun b _ q => setRow_other w1 _ b _ (by intro e; apply q; have := HZ0.out; omega)⟩
    obtain ⟨a, c, e, h3⟩ := h2
    refine ⟨a, c, e, fun q => ?_⟩
    obtain ⟨b, off, e1, e2, e3, e4⟩ := h3 q
    exact ⟨b, off, e1, e2, fun hb => e3 (by have := hZ b hb; have := HZ0.out; omega), e4⟩
  have hl : m' = (Dm.bothR d.r o.r).length := by obtain ⟨a, c, e, _⟩ := hr; injection e
  subst hl
  exact ⟨p', k', none, 0, none, 0, rfl, hr, Nm.empty _ _, Nm.empty _ _⟩
end Go.Proofs.YtghnfnieppfhgaaGreat

namespace Go.Proofs.YtghnfnieppfhgaaGreat
open Go.RowKit Go.Shelf
set_option linter.unusedVariables false
set_option linter.unusedSimpArgs false

theorem Bx.setk {w : World} {g : Nat} {cs : Array Value} {t : TypeId} (h : Bx w g cs t) {o : Nat} (ho : o < cs.size) (v : Value) : Bx (w.setCell ⟨g, o, none⟩ v) g (cs.setIfInBounds o v) t := ⟨heap_setCell_in h.h ho⟩
theorem Bx.set3 {w : World} {g : Nat} {x0 x1 x2 : Value} {t : TypeId} (h : Bx w g #[x0, x1, x2] t) (a b c : Value) : Bx (((w.setCell ⟨g, 0, none⟩ a).setCell ⟨g, 1, none⟩ b).setCell ⟨g, 2, none⟩ c) g #[a, b, c] t := by
  have h1 := ((h.setk (o := 0) (by simp) a).setk (o := 1) (by simp) b).setk (o := 2) (by simp) c
  simpa using h1
theorem Bx.three {w : World} {g : Nat} {x0 x1 x2 : Value} {t : TypeId} (h : Bx w g #[x0, x1, x2] t) : w.cell? ⟨g, 0, none⟩ = some x0 ∧ w.cell? ⟨g, 1, none⟩ = some x1 ∧ w.cell? ⟨g, 2, none⟩ = some x2 := ⟨h.cell 0, h.cell 1, h.cell 2⟩
end Go.Proofs.YtghnfnieppfhgaaGreat

