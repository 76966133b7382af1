/-
  What is proved here: what is kept but for some blocks; rows of own memory, and append to them.
-/
import Derived.Test.YtdnhhmnllhlbbaaGreatDoorOf
import Derived.Deep.MidRow
import Derived.OwnWalk
namespace Go.Proofs.YtdnhhmnllhlbbaaGreatDoor
open Go.RowKit Go.Shelf
set_option linter.unusedVariables false
set_option linter.unusedSimpArgs false
structure Kept (X : Nat → Prop) (w w' : World) : Prop where
  os : w'.os = w.os
  tape : w'.tape = w.tape
  output : w'.output = w.output
  size : w.heap.size ≤ w'.heap.size
  block : ∀ b, b < w.heap.size → ¬ X b → w'.heap[b]? = w.heap[b]?
theorem Kept.refl (X : Nat → Prop) (w : World) : Kept X w w := ⟨rfl, rfl, rfl, Nat.le_refl _, fun _ _ _ => rfl⟩
def Up (X X' : Nat → Prop) (w : World) : Prop := ∀ b, X' b → X b ∨ w.heap.size ≤ b
theorem Kept.trans {X Y : Nat → Prop} {a b c : World} (h : Kept X a b) (k : Kept Y b c) (u : Up X Y a) : Kept X a c :=
  ⟨k.os.trans h.os, k.tape.trans h.tape, k.output.trans h.output, Nat.le_trans h.size k.size, fun n hn hX =>
    (k.block n (Nat.lt_of_lt_of_le hn h.size) (fun hY => (u n hY).elim hX (fun q => by omega))).trans (h.block n hn hX)⟩
theorem Kept.of_below {X : Nat → Prop} {w w' : World} (h : Below w.heap.size w w') : Kept X w w' := ⟨h.os, h.tape, h.output, h.size, fun b hb _ => h.block b hb⟩
theorem Kept.below {X : Nat → Prop} {w w' : World} (h : Kept X w w') {B : Nat} (hB : B ≤ w.heap.size) (hX : ∀ b, X b → B ≤ b) : Below B w w' :=
  ⟨h.os, h.tape, h.output, h.size, fun b hb => h.block b (by omega) (fun q => by have := hX b q; omega)⟩
theorem Kept.cell {X : Nat → Prop} {w w' : World} (h : Kept X w w') {b : Nat} (hb : b < w.heap.size) (hX : ¬ X b) (o : Nat) : w'.cell? ⟨b, o, none⟩ = w.cell? ⟨b, o, none⟩ := World.cell?_of_block (a := ⟨b, o, none⟩) (h.block b hb hX)
theorem Kept.setCell {X : Nat → Prop} {a w : World} (h : Kept X a w) {g : Nat} (hX : X g) (o : Nat) (v : Value) : Kept X a (w.setCell ⟨g, o, none⟩ v) :=
  ⟨h.os, h.tape, h.output, by simpa [World.setCell] using h.size, fun b hb hx => (Below.heap_setCell w ⟨g, o, none⟩ v b (fun e => hx (by rw [e]; exact hX))).trans (h.block b hb hx)⟩
theorem Kept.then_below {X : Nat → Prop} {a w w' : World} (h : Kept X a w) (hb : Below w.heap.size w w') : Kept X a w' :=
  ⟨hb.os.trans h.os, hb.tape.trans h.tape, hb.output.trans h.output, Nat.le_trans h.size hb.size, fun b q hx => (hb.block b (Nat.lt_of_lt_of_le q h.size)).trans (h.block b q hx)⟩
def Nm (X : Nat → Prop) (w : World) (s : Value) (l : List Int) : Prop :=
  ∃ a c, s = .slice a l.length c ∧ (0 < l.length → ∃ b off, a = some ⟨b, off, none⟩ ∧ b < w.heap.size ∧ ¬ X b ∧ ∀ i x, l[i]? = some x → w.cell? ⟨b, off + i, none⟩ = some (.int .i64 x))
theorem Nm.kept {X : Nat → Prop} {w w' : World} {s : Value} {l : List Int} (h : Nm X w s l) (k : Kept X w w') : Nm X w' s l := by
  obtain ⟨a, c, e, h⟩ := h
  refine ⟨a, c, e, fun h0 => ?_⟩
  obtain ⟨b, off, e1, e2, e3, e4⟩ := h h0
  exact ⟨b, off, e1, Nat.lt_of_lt_of_le e2 k.size, e3, fun i x hx => (k.cell e2 e3 _).trans (e4 i x hx)⟩
theorem flat_len {k : Nat} : ∀ {vs : List (List Value)}, (∀ c ∈ vs, c.length = k) → vs.flatten.length = vs.length * k
  | [], _ => by simp
  | c :: r, h => by
    rw [List.flatten_cons, List.length_append, h c (by simp), flat_len (fun x hx => h x (by simp [hx])), List.length_cons, Nat.succ_mul]; omega
theorem flat_get {k : Nat} : ∀ {vs : List (List Value)}, (∀ c ∈ vs, c.length = k) → ∀ q r, r < k → vs.flatten[q * k + r]? = (vs[q]?).bind (·[r]?)
  | [], _, _, _, _ => by simp
  | c :: rest, h, 0, r, hr => by
    rw [List.flatten_cons, Nat.zero_mul, Nat.zero_add, List.getElem?_append_left (by rw [h c (by simp)]; exact hr)]; simp
  | c :: rest, h, q + 1, r, hr => by
    rw [List.flatten_cons, List.getElem?_append_right (by rw [h c (by simp), Nat.succ_mul]; omega), h c (by simp), show (q + 1) * k + r - k = q * k + r by rw [Nat.succ_mul]; omega, flat_get (fun x hx => h x (by simp [hx])) q r hr, List.getElem?_cons_succ]
def Ow (w : World) (t : TypeId) (s : Value) (k : Nat) (vs : List (List Value)) : Prop := (∀ c ∈ vs, c.length = k) ∧ w.ownsRow 0 t k s vs.length vs.flatten
theorem Ow.shape {w : World} {t : TypeId} {s : Value} {k : Nat} {vs : List (List Value)} (h : Ow w t s k vs) : ∃ a c, s = .slice a vs.length c ∧ vs.length ≤ c ∧ c ≤ maxLen := by
  rcases h.2.2 with ⟨e1, e2⟩ | ⟨g, cap, cur, e1, _, _, e2, e3, _⟩
  · exact ⟨none, 0, by rw [e2]; exact e1, by omega, by unfold maxLen; omega⟩
  · exact ⟨_, cap, e1, e2, e3⟩
theorem Ow.lt {w : World} {t : TypeId} {s : Value} {k : Nat} {vs : List (List Value)} (h : Ow w t s k vs) {g : Nat} (hg : s.ownBlock = some g) : g < w.heap.size := (h.2.lt g hg).2
theorem Ow.at {w : World} {t : TypeId} {s : Value} {k : Nat} {vs : List (List Value)} (h : Ow w t s k vs) {i : Nat} {c : List Value} (hc : vs[i]? = some c) :
    ∃ g cap, s = .slice (some ⟨g, 0, none⟩) vs.length cap ∧ g < w.heap.size ∧ vs.length ≤ cap ∧ cap ≤ maxLen ∧ w.rangeAt g (i * k) c ∧ w.there g (i * k) k := by
  have hi : i < vs.length := (List.getElem?_eq_some_iff.1 hc).1
  have hk := h.1 c (List.mem_iff_getElem?.2 ⟨i, hc⟩)
  rcases h.2.2 with ⟨e1, e2⟩ | ⟨g, cap, cur, e1, _, hg, hn, hm, hs, ht⟩
  · omega
  · have hbd : i * k + k ≤ vs.length * k := by have : (i + 1) * k ≤ vs.length * k := Nat.mul_le_mul_right _ hi; rw [Nat.succ_mul] at this; omega
    have hcap : vs.length * k ≤ cap * k := Nat.mul_le_mul_right _ hn
    refine ⟨g, cap, e1, (Array.getElem?_eq_some_iff.1 hg).1, hn, hm, fun j v hv => ?_, fun j hj => ?_⟩
    · have hj : j < k := by have := (List.getElem?_eq_some_iff.1 hv).1; omega
      rw [cell_of_row w g _ cur t (0, 0) hg]
      have := flat_get h.1 i j hj
      rw [← ht, List.getElem?_take, if_pos (by omega), Array.getElem?_toList, hc] at this
      rw [this]; exact hv
    · constructor
      · rw [cell_of_row w g _ cur t (0, 0) hg, Array.getElem?_eq_getElem (by omega)]; rfl
      · simp [World.frozen?, hg]
theorem Ow.keep {w w' : World} {t : TypeId} {s : Value} {k : Nat} {vs : List (List Value)} (h : Ow w t s k vs) (hb : ∀ g, s.ownBlock = some g → w'.heap[g]? = w.heap[g]?) : Ow w' t s k vs := by
  refine ⟨h.1, h.2.1, ?_⟩
  rcases h.2.2 with e | ⟨g, cap, cur, e1, e2, hg, r⟩
  · exact .inl e
  · exact .inr ⟨g, cap, cur, e1, e2, (hb g (by rw [e1]; rfl)).trans hg, r⟩
theorem Ow.app {w : World} {e : TypeId} {s : Value} {k : Nat} {vs : List (List Value)} (h : Ow w e s k vs) (t ty : TypeId) {z : Value} {bytes : Nat} (ht : Tryz.prog.underlying t = some (.slice e)) (hinfo : (Tryz.prog.info? e).map (fun i => (i.zero, i.size, i.bytes)) = some (some z, k, bytes)) (hzs : z.cells.size = k) (hk0 : 0 < k)
    (ad : Addr) (cp : Nat) (c : List Value) (hc : c.length = k) (hcells : ∀ j u, c[j]? = some u → w.cell? (ad.add j) = some u) (h1 : ∀ u ∈ c, u.oneCell' = true) (hlen : vs.length ≤ 100000000) (hby : bytes ≤ 1000) :
    ∃ v' w', (Builtin.append_ #[t, t] ty #[s, .slice (some ad) 1 cp]).run Tryz.prog w = .ok v' w' ∧ Ow w' e v' k (vs ++ [c]) ∧ w.grownBy w' s.ownBlock ∧ (∀ b, v'.ownBlock = some b → s.ownBlock = some b ∨ w.heap.size ≤ b) := by
  obtain ⟨i0, hi0, hz0, hz1, hz2⟩ := info_parts hinfo
  have hb1 : (vs.length + 1) * bytes ≤ 100000001 * 1000 := Nat.mul_le_mul (by omega) hby
  obtain ⟨v', w', hr, ho, hg, _⟩ := run_append_own (P := Tryz.prog) w 0 t ty e i0 z k bytes ht hi0 hz0 hz1 hz2 hzs hk0 s vs.length vs.flatten h.2 ad 1 cp c (by omega) hcells h1 (by unfold maxLen; omega) (by omega) (Nat.zero_le _)
  refine ⟨v', w', hr, ⟨?_, ?_⟩, hg, ?_⟩
  · intro x hx
    rcases List.mem_append.1 hx with hx | hx
    · exact h.1 x hx
    · simp at hx; subst hx; exact hc
  · have : (vs ++ [c]).flatten = vs.flatten ++ c := by simp
    rw [this, List.length_append]
    exact ho
  · intro b hb
    rcases h.2.2 with ⟨rfl, hn⟩ | ⟨g, cap, cur, rfl, hbg, hgg, hnc, hcm, hcs, htake⟩
    · have hr2 := run_append_nil (P := Tryz.prog) w t ty e i0 z ht hi0 hz0 ad 1 cp c (by rw [hz1]; omega) hcells (by omega) (by omega) (by rw [hz2]; omega)
      rw [hr] at hr2
      injection hr2 with e1 e2
      subst e1
      injection hb with hb
      subst hb
      exact .inr (Nat.le_refl _)
    · by_cases hroom : vs.length + 1 ≤ cap
      · have hfit : vs.length * i0.size + c.length ≤ cur.size := by
          rw [hz1, hc, hcs]
          have : (vs.length + 1) * k ≤ cap * k := Nat.mul_le_mul_right _ hroom
          rw [Nat.succ_mul] at this
          exact this
        have hr2 := run_append_room (P := Tryz.prog) w t ty e i0 ht hi0 g vs.length cap cur hgg ad 1 cp c (by rw [hz1]; omega) hcells h1 hroom hfit
        rw [hr] at hr2
        injection hr2 with e1 e2
        subst e1
        exact .inl hb
      · have hr2 := run_append_grow (P := Tryz.prog) w t ty e i0 z ht hi0 hz0 ⟨g, 0, none⟩ vs.length cap vs.flatten (by rw [hz1]; exact h.2.1) (h.2.cells (g := g) rfl) ad 1 cp c (by rw [hz1]; omega) hcells (by omega) (by omega) (growslice_fits (by omega) (by rw [hz2]; omega))
        rw [hr] at hr2
        injection hr2 with e1 e2
        subst e1
        injection hb with hb
        subst hb
        exact .inr (Nat.le_refl _)
theorem step_app {w : World} {e : TypeId} {s : Value} {k : Nat} {vs : List (List Value)} (h : Ow w e s k vs) (t : TypeId) {z : Value} {bytes : Nat} (ht : Tryz.prog.underlying t = some (.slice e)) (hinfo : (Tryz.prog.info? e).map (fun i => (i.zero, i.size, i.bytes)) = some (some z, k, bytes)) (hzs : z.cells.size = k) (hk0 : 0 < k)
    {ops : Array Oper} {o : Oper} {a : Act} {K : Act → World → Prop} {Q : Exit → Act → World → Prop} {E : Prop} (hgd : o.guard = none) (so xo : Operand) (ho : o.op = .call { callee := .builtin .append, args := #[so, xo], argTypes := #[t, t] })
    (hs : a.eval so = s) (ad : Addr) (cp : Nat) (hx : a.eval xo = .slice (some ad) 1 cp) (c : List Value) (hc : c.length = k) (hcells : ∀ j u, c[j]? = some u → w.cell? (ad.add j) = some u) (h1 : ∀ u ∈ c, u.oneCell' = true) (hlen : vs.length ≤ 100000000) (hby : bytes ≤ 1000)
    (hK : ∀ v' w', Ow w' e v' k (vs ++ [c]) → w.grownBy w' s.ownBlock → (∀ b, v'.ownBlock = some b → s.ownBlock = some b ∨ w.heap.size ≤ b) → K (a.put o.dst v') w') : if Region.wanted o (yielded ops a.tmps) = true then Oper.wp Tryz.prog o a w K Q else E := by
  have hw : Region.wanted o (yielded ops a.tmps) = true := by simp [Region.wanted, hgd]
  rw [if_pos hw]
  obtain ⟨v', w', hr, h2, h3, h4⟩ := h.app t o.type ht hinfo hzs hk0 ad cp c hc hcells h1 hlen hby
  unfold Oper.wp execOp
  simp only [ho, resolve, invoke, builtin, Sem.run_bind, Sem.run_pure, Result.andThen_ok, List.map_toArray, List.map_cons, List.map_nil, hs, hx, hr]
  exact hK v' w' h2 h3 h4
theorem list_app {w : World} {e : TypeId} {s : Value} {k : Nat} {vs : List (List Value)} (h : Ow w e s k vs) (t : TypeId) {z : Value} {bytes : Nat} (ht : Tryz.prog.underlying t = some (.slice e)) (hinfo : (Tryz.prog.info? e).map (fun i => (i.zero, i.size, i.bytes)) = some (some z, k, bytes)) (hzs : z.cells.size = k) (hk0 : 0 < k)
    {ops : Array Oper} {rest : List Oper} {o : Oper} {a : Act} {Q : Exit → Act → World → Prop} (hgd : o.guard = none) (so xo : Operand) (ho : o.op = .call { callee := .builtin .append, args := #[so, xo], argTypes := #[t, t] })
    (hs : a.eval so = s) (ad : Addr) (cp : Nat) (hx : a.eval xo = .slice (some ad) 1 cp) (c : List Value) (hc : c.length = k) (hcells : ∀ j u, c[j]? = some u → w.cell? (ad.add j) = some u) (h1 : ∀ u ∈ c, u.oneCell' = true) (hlen : vs.length ≤ 100000000) (hby : bytes ≤ 1000)
    (hK : ∀ v' w', Ow w' e v' k (vs ++ [c]) → w.grownBy w' s.ownBlock → (∀ b, v'.ownBlock = some b → s.ownBlock = some b ∨ w.heap.size ≤ b) → wpList Tryz.prog ops Q rest (a.put o.dst v') w') : wpList Tryz.prog ops Q (o :: rest) a w :=
  wpList_plain hgd fun _ hK' => by
    obtain ⟨v', w', hr, h2, h3, h4⟩ := h.app t o.type ht hinfo hzs hk0 ad cp c hc hcells h1 hlen hby
    unfold Oper.wp execOp
    simp only [ho, resolve, invoke, builtin, Sem.run_bind, Sem.run_pure, Result.andThen_ok, List.map_toArray, List.map_cons, List.map_nil, hs, hx, hr]
    exact hK' _ _ (hK v' w' h2 h3 h4)
end Go.Proofs.YtdnhhmnllhlbbaaGreatDoor
