/-
  What is proved here: texts in memory; appendTerm of a term that is no set.
  What is proved here: appendTerm of a term that is no set.
  What is proved here: appendTerms.
-/
import Derived.Test.YtpgecdhieakilaaGreatDoorDfj
import Derived.Test.YtpgecdhieakilaaGreatDoorSl
import Derived.Lib.AppendStr
import Derived.Lib.AppendIntMem
import Derived.Lib.SmallJoins
import Derived.Laws.IdiomStrings
import Derived.Deep.RegionHeld3
import Derived.Lib.ItoaLen
namespace Go.Proofs.YtpgecdhieakilaaGreatDoor
open Go.RowKit Go.Shelf
set_option linter.unusedVariables false
set_option linter.unusedSimpArgs false
theorem Tryz.info5 : (Tryz.prog.info? 5).map (fun i => (i.zero, i.size, i.bytes)) = some (some (.int .u8 0), 1, 1) := by kernel_rfl
/-- A slice of bytes in own memory, none of whose cells is frozen. -/
def Ob (B : Nat) (w : World) (v : Value) (L : List UInt8) : Prop := ∃ (g cap : Nat) (cur : Array Value) (fz : Nat × Nat), v = .slice (some ⟨g, 0, none⟩) L.length cap ∧ B ≤ g ∧ w.heap[g]? = some (.cells cur 5 fz) ∧ (fz = (0, 0) ∨ cap ≤ fz.1) ∧ L.length ≤ cap ∧ cap ≤ maxLen ∧ cur.size = cap ∧ ∀ (j : Nat) (x : UInt8), L[j]? = some x → cur[j]? = some (Value.int .u8 x.toNat)
theorem Ob.below {B : Nat} {w w' : World} {v : Value} {L : List UInt8} (h : Ob B w v L) (hb : Below w.heap.size w w') : Ob B w' v L := by
  obtain ⟨g, cap, cur, fz, e, h1, h2, r⟩ := h
  exact ⟨g, cap, cur, fz, e, h1, (hb.block _ (Array.getElem?_eq_some_iff.1 h2).1).trans h2, r⟩
theorem Ob.shape {B : Nat} {w : World} {v : Value} {L : List UInt8} (h : Ob B w v L) : ∃ p c, v = .slice p L.length c := by
  obtain ⟨g, cap, cur, fz, e, _⟩ := h; exact ⟨_, _, e⟩
theorem row_setF {W : World} {A : Nat} {cur : Array Value} {t : TypeId} {fz : Nat × Nat} (h : W.heap[A]? = some (.cells cur t fz)) (q : Nat) (v : Value) : (W.setCell ⟨A, q, none⟩ v).heap[A]? = some (.cells (cur.setIfInBounds q v) t fz) := by
  obtain ⟨hlt, hk⟩ := Array.getElem?_eq_some_iff.1 h
  show (W.heap.modify A _)[A]? = _
  rw [Array.getElem?_eq_getElem (by rw [Array.size_modify]; exact hlt), Array.getElem_modify_self, hk]
  rfl
theorem grown_trans {a b c : World} {r : Option Nat} (h : a.grownBy b r) (k : b.grownBy c r) : a.grownBy c r :=
  ⟨k.os.trans h.os, k.tape.trans h.tape, k.output.trans h.output, Nat.le_trans h.size k.size, fun i hi hr => (k.block i (Nat.lt_of_lt_of_le hi h.size) hr).trans (h.block i hi hr)⟩
theorem stores {g o cap : Nat} {fz : Nat × Nat} (hfz : fz = (0, 0) ∨ cap ≤ fz.1) : ∀ (vs : List Value) (i : Nat) (cur : Array Value) (w : World), (∀ v ∈ vs, v.oneCell' = true) → w.heap[g]? = some (.cells cur 5 fz) → cur.size = cap → o + i + vs.length ≤ cap →
    ∃ w' cur', (storeCells ⟨g, o, none⟩ vs i).run Tryz.prog w = .ok () w' ∧ w'.heap[g]? = some (.cells cur' 5 fz) ∧ cur'.size = cap ∧ (∀ j, j < o + i → cur'[j]? = cur[j]?) ∧ (∀ j v, vs[j]? = some v → cur'[o + i + j]? = some v) ∧ w.grownBy w' (some g)
  | [], i, cur, w, _, hg, hs, _ => ⟨w, cur, rfl, hg, hs, fun _ _ => rfl, fun j v h => by simp at h, ⟨rfl, rfl, rfl, Nat.le_refl _, fun _ _ _ => rfl⟩⟩
  | v :: vs, i, cur, w, h1, hg, hs, hl => by
    have hi : o + i < cur.size := by simp at hl; omega
    have hcell : w.cell? ⟨g, o + i, none⟩ = some cur[o + i] := (cell_row hg _).trans (Array.getElem?_eq_getElem hi)
    have hfro : w.frozen? ⟨g, o + i, none⟩ = false := by
      obtain ⟨lo, hi9⟩ := fz
      simp only [World.frozen?, hg]
      rcases hfz with e | e
      · injection e with e1 e2; subst e1; subst e2; simp
      · simp at e ⊢; omega
    have hst : (store ((⟨g, o, none⟩ : Addr).add i) v).run Tryz.prog w = .ok () (w.setCell ⟨g, o + i, none⟩ v) := by
      rw [Addr.add_lit, run_store Tryz.prog w _ v _ (h1 v (by simp)), hcell]
      simp [hfro]
    obtain ⟨w', cur', e1, e2, e3, e4, e5, e6⟩ := stores (o := o) hfz vs (i + 1) (cur.setIfInBounds (o + i) v) (w.setCell ⟨g, o + i, none⟩ v) (fun x hx => h1 x (by simp [hx])) (row_setF hg _ _) (by simpa using hs) (by simp at hl ⊢; omega)
    have hstep : w.grownBy (w.setCell ⟨g, o + i, none⟩ v) (some g) := ⟨rfl, rfl, rfl, by rw [World.size_setCell]; exact Nat.le_refl _, fun k _ hk => Below.heap_setCell w ⟨g, o + i, none⟩ v k (fun e => hk (by rw [e]))⟩
    refine ⟨w', cur', ?_, e2, e3, fun j hj => ?_, fun j x hx => ?_, grown_trans hstep e6⟩
    · simp only [storeCells, Sem.run_bind, hst, Result.andThen_ok]; exact e1
    · rw [e4 j (by omega), Array.getElem?_setIfInBounds_ne (by omega)]
    · cases j with
      | zero =>
        simp at hx; subst hx
        rw [Nat.add_zero, e4 _ (by omega), Array.getElem?_setIfInBounds_self_of_lt hi]
      | succ j =>
        have := e5 j x (by simpa using hx)
        rw [show o + i + (j + 1) = o + (i + 1) + j by omega]
        exact this
theorem bytes_one (T : List UInt8) : ∀ u ∈ Lib.byteCells T, u.oneCell' = true := by
  intro u hu
  simp only [Lib.byteCells, List.mem_map] at hu
  obtain ⟨x, _, rfl⟩ := hu
  rfl
/-- Appending any bytes. -/
theorem app_law {B : Nat} {w : World} {v : Value} {L T : List UInt8} (hown : Ob B w v L) (hB : B ≤ w.heap.size) (hn : L.length ≤ 1000000000000) (hm : T.length ≤ 1000000000000) (ty u : TypeId) (x : Value)
    (hroom : ∀ g cap, v = .slice (some ⟨g, 0, none⟩) L.length cap → L.length + T.length ≤ cap → ∀ w', (storeCells ⟨g, L.length, none⟩ (Lib.byteCells T) 0).run Tryz.prog w = .ok () w' → (Builtin.append_ #[98, u] ty #[v, x]).run Tryz.prog w = .ok (.slice (some ⟨g, 0, none⟩) (L.length + T.length) cap) w')
    (hgrow : ∀ g cap, v = .slice (some ⟨g, 0, none⟩) L.length cap → cap < L.length + T.length → (∀ j u, (Lib.byteCells L)[j]? = some u → w.cell? ((⟨g, 0, none⟩ : Addr).add j) = some u) → (Builtin.append_ #[98, u] ty #[v, x]).run Tryz.prog w = .ok (.slice (some ⟨w.heap.size, 0, none⟩) (L.length + T.length) (grownCap w (L.length + T.length) cap 5)) (w.drew.alloc (.cells ((Lib.byteCells L).toArray ++ (Lib.byteCells T).toArray ++ Builtin.zeroCells (Value.int .u8 0).cells (grownCap w (L.length + T.length) cap 5 - (L.length + T.length))) 5))) :
    ∃ v' w', (Builtin.append_ #[98, u] ty #[v, x]).run Tryz.prog w = .ok v' w' ∧ Ob B w' v' (L ++ T) ∧ w.grownBy w' v.ownBlock := by
  obtain ⟨g, cap, cur, fz, rfl, hg, hh, hfz, hlc, hcm, hcs, hcells⟩ := hown
  by_cases hr : L.length + T.length ≤ cap
  · obtain ⟨w', cur', e1, e2, e3, e4, e5, e6⟩ := stores (g := g) (o := L.length) hfz (Lib.byteCells T) 0 cur w (bytes_one T) hh hcs (by simpa [Lib.byteCells] using hr)
    refine ⟨_, w', hroom g cap rfl hr w' e1, ⟨g, cap, cur', fz, by rw [List.length_append], hg, e2, hfz, by rw [List.length_append]; exact hr, hcm, e3, fun j x hx => ?_⟩, e6⟩
    by_cases hj : j < L.length
    · rw [List.getElem?_append_left hj] at hx
      rw [e4 j (by omega)]; exact hcells j x hx
    · rw [List.getElem?_append_right (by omega)] at hx
      have := e5 (j - L.length) (.int .u8 x.toNat) (by simp [Lib.byteCells, hx])
      rw [show L.length + 0 + (j - L.length) = j by omega] at this
      exact this
  · have hc : ∀ j u, (Lib.byteCells L)[j]? = some u → w.cell? ((⟨g, 0, none⟩ : Addr).add j) = some u := fun j u hu => by
      simp only [Lib.byteCells, List.getElem?_map, Option.map_eq_some_iff] at hu
      obtain ⟨x, hx, rfl⟩ := hu
      rw [Addr.add_lit, cell_row hh, Nat.zero_add]
      exact hcells j x hx
    have hge := grownCap_ge w (L.length + T.length) cap 5
    refine ⟨_, _, hgrow g cap rfl (by omega) hc, ⟨w.heap.size, _, _, (0, 0), by rw [List.length_append], hB, World.alloc_heap_new w.drew _, .inl rfl, by rw [List.length_append]; exact hge, grownCap_le_maxLen w _ cap 5 (by unfold maxLen; omega), ?_, fun j x hx => ?_⟩, ⟨rfl, rfl, rfl, by simp, fun k hk _ => Below.heap_alloc w.drew _ k hk⟩⟩
    · have : (Value.int .u8 0).cells.size = 1 := rfl
      simp only [Array.size_append, List.size_toArray, size_zeroCells, this, Lib.byteCells, List.length_map]
      omega
    · have hj : j < (L ++ T).length := (List.getElem?_eq_some_iff.1 hx).1
      have e9 : (Lib.byteCells L).toArray ++ (Lib.byteCells T).toArray = (Lib.byteCells (L ++ T)).toArray := by simp [Lib.byteCells]
      rw [e9, Array.getElem?_append_left (by simpa [Lib.byteCells] using hj), List.getElem?_toArray, Lib.byteCells, List.getElem?_map, hx]
      rfl
/-- All is kept but rows of bytes of two and more. -/
def Kf (w w' : World) : Prop := ∀ (k : Nat) (o : Obj), w.heap[k]? = some o → (∀ (c : Array Value) (fz : Nat × Nat), o = .cells c 5 fz → c.size ≤ 1) → w'.heap[k]? = some o
theorem Kf.refl (w : World) : Kf w w := fun _ _ h _ => h
theorem Kf.trans {a b c : World} (h : Kf a b) (k : Kf b c) : Kf a c := fun i o hi ho => k i o (h i o hi ho) ho
theorem Kf.below {a w w' : World} (h : Kf a w) (hb : Below w.heap.size w w') : Kf a w' := fun i o hi ho => by
  have h1 := h i o hi ho
  rw [hb.block i (Array.getElem?_eq_some_iff.1 h1).1]; exact h1
theorem Kf.drew {a w : World} (h : Kf a w) : Kf a w.drew := h
theorem Kf.alloc {a w : World} (h : Kf a w) (o : Obj) : Kf a (w.alloc o) := h.below ((Below.refl _ w).alloc (Nat.le_refl _) _)
theorem Ob.grown {B : Nat} {w w' : World} {v : Value} {L : List UInt8} (h : Ob B w v L) (hL : 2 ≤ L.length) (g : w.grownBy w' v.ownBlock) : Kf w w' := by
  intro k o hk ho
  have hlt : k < w.heap.size := (Array.getElem?_eq_some_iff.1 hk).1
  obtain ⟨g', cap, cur, fz, e1, hg, hgb, hfz, hn, hm, hs, _⟩ := h
  by_cases e : k = g'
  · subst e; rw [hgb] at hk; injection hk with hk
    have := ho _ _ hk.symm
    omega
  · rw [g.block k hlt (by rw [e1]; intro e2; injection e2 with e2; exact e e2)]; exact hk
theorem Ob.bel {B : Nat} {w w' : World} {v : Value} {L : List UInt8} (h : Ob B w v L) (hB : B ≤ w.heap.size) (g : w.grownBy w' v.ownBlock) : Below B w w' := by
  obtain ⟨g', cap, cur, fz, e1, hg, _⟩ := h
  exact (Below.refl _ w).grown g hB (fun k e => by rw [e1] at e; injection e with e; subst e; exact hg)
theorem Blk.kept {w w' : World} {g : Nat} {cs : Array Value} {ty : TypeId} (h : Blk w g cs ty) (hk : Kf w w') (ht : ty = 5 → cs.size ≤ 1) : Blk w' g cs ty :=
  ⟨hk g _ h.h (fun c fz e => by injection e with e1 e2 _; rw [← e1]; exact ht e2)⟩
theorem app_b {B : Nat} {w : World} {v : Value} {L : List UInt8} (hown : Ob B w v L) (hB : B ≤ w.heap.size) (hn : L.length ≤ 1000000000000) (ty : TypeId) (g : Nat) (y : UInt8) (hc : w.cell? ⟨g, 0, none⟩ = some (.int .u8 y.toNat)) :
    ∃ v' w', (Builtin.append_ #[98, 98] ty #[v, .slice (some ⟨g, 0, none⟩) 1 1]).run Tryz.prog w = .ok v' w' ∧ Ob B w' v' (L ++ [y]) ∧ w.grownBy w' v.ownBlock := by
  obtain ⟨i0, hi0, hz0, hz1, hz2⟩ := info_parts Tryz.info5
  have hnews : ∀ j u, (Lib.byteCells [y])[j]? = some u → w.cell? ((⟨g, 0, none⟩ : Addr).add j) = some u := fun j u hj => by
    match j, hj with
    | 0, hj => simp [Lib.byteCells] at hj; subst hj; simpa [Addr.add] using hc
  refine app_law (T := [y]) hown hB hn (by simp) ty 98 _ ?_ ?_
  · rintro g9 cap rfl hr w' hst
    have hf := run_firstCells_some (P := Tryz.prog) w i0.size 1 ⟨g, 0, none⟩ 1 1 (Lib.byteCells [y]) (by rw [hz1]; rfl) hnews
    rw [hz1] at hf
    simp only [List.length_singleton] at hr ⊢
    simp [Builtin.append_, run_underlying Tryz.underlying98, sizeOf, typeInfo, hi0, Builtin.lenOf, hr, hf, Addr.add_lit, hz1, hst]
  · rintro g9 cap rfl hr hcs
    have hr9 := run_append_grow (P := Tryz.prog) w 98 ty 5 i0 (.int .u8 0) Tryz.underlying98 hi0 hz0 ⟨g9, 0, none⟩ L.length cap (Lib.byteCells L) (by rw [hz1]; simp [Lib.byteCells]) hcs ⟨g, 0, none⟩ 1 1 (Lib.byteCells [y]) (by rw [hz1]; rfl) hnews (by simpa using hr) (by omega) (by rw [hz2]; exact growslice_fits (by simpa using hr) (by omega))
    exact hr9
theorem wp_app_b (w : World) {o : Oper} {a : Act} {K : Act → World → Prop} {Q : Exit → Act → World → Prop} (s x : Operand) (ho : o.op = .call { callee := .builtin .append, args := #[s, x], argTypes := #[98, 98] })
    (B : Nat) (vo : Value) (L : List UInt8) (hs : a.eval s = vo) (hown : Ob B w vo L) (g : Nat) (y : UInt8) (hx : a.eval x = .slice (some ⟨g, 0, none⟩) 1 1) (hc : w.cell? ⟨g, 0, none⟩ = some (.int .u8 y.toNat)) (hB : B ≤ w.heap.size) (hn : L.length ≤ 1000000000000) (hL : 2 ≤ L.length)
    (h : ∀ v' w', Ob B w' v' (L ++ [y]) → Below B w w' → Kf w w' → K (a.put o.dst v') w') : Oper.wp Tryz.prog o a w K Q := by
  obtain ⟨v', w', hr, ho', hg'⟩ := app_b hown hB hn o.type g y hc
  unfold Oper.wp execOp
  simp only [ho, resolve, invoke, builtin, Sem.run_bind, Sem.run_pure, Result.andThen_ok, List.map_toArray, List.map_cons, List.map_nil, hs, hx, hr]
  exact h v' w' ho' (hown.bel hB hg') (hown.grown hL hg')
theorem wpList_app_b (w : World) {ops : Array Oper} {rest : List Oper} {o : Oper} {a : Act} {Q : Exit → Act → World → Prop} (hgd : o.guard = none) (s x : Operand) (ho : o.op = .call { callee := .builtin .append, args := #[s, x], argTypes := #[98, 98] })
    (B : Nat) (vo : Value) (L : List UInt8) (hs : a.eval s = vo) (hown : Ob B w vo L) (g : Nat) (y : UInt8) (hx : a.eval x = .slice (some ⟨g, 0, none⟩) 1 1) (hc : w.cell? ⟨g, 0, none⟩ = some (.int .u8 y.toNat)) (hB : B ≤ w.heap.size) (hn : L.length ≤ 1000000000000) (hL : 2 ≤ L.length)
    (h : ∀ v' w', Ob B w' v' (L ++ [y]) → Below B w w' → Kf w w' → wpList Tryz.prog ops Q rest (a.put o.dst v') w') : wpList Tryz.prog ops Q (o :: rest) a w :=
  wpList_plain hgd fun _ hK => wp_app_b w s x ho B vo L hs hown g y hx hc hB hn hL fun v' w' h1 h2 h3 => hK _ _ (h v' w' h1 h2 h3)
theorem step_app_b (w : World) {ops : Array Oper} {o : Oper} {a : Act} {K : Act → World → Prop} {Q : Exit → Act → World → Prop} {E : Prop} (hgd : o.guard = none) (s x : Operand) (ho : o.op = .call { callee := .builtin .append, args := #[s, x], argTypes := #[98, 98] })
    (B : Nat) (vo : Value) (L : List UInt8) (hs : a.eval s = vo) (hown : Ob B w vo L) (g : Nat) (y : UInt8) (hx : a.eval x = .slice (some ⟨g, 0, none⟩) 1 1) (hc : w.cell? ⟨g, 0, none⟩ = some (.int .u8 y.toNat)) (hB : B ≤ w.heap.size) (hn : L.length ≤ 1000000000000) (hL : 2 ≤ L.length)
    (h : ∀ v' w', Ob B w' v' (L ++ [y]) → Below B w w' → Kf w w' → K (a.put o.dst v') w') : if Region.wanted o (yielded ops a.tmps) = true then Oper.wp Tryz.prog o a w K Q else E := by
  have hw : Region.wanted o (yielded ops a.tmps) = true := by simp [Region.wanted, hgd]
  rw [if_pos hw]
  exact wp_app_b w s x ho B vo L hs hown g y hx hc hB hn hL h
theorem app_t {B : Nat} {w : World} {v : Value} {L T : List UInt8} (hown : Ob B w v L) (hB : B ≤ w.heap.size) (hn : L.length ≤ 1000000000000) (hm : T.length ≤ 1000000000000) (ty : TypeId) :
    ∃ v' w', (Builtin.append_ #[98, 9] ty #[v, .string ⟨T.toArray⟩]).run Tryz.prog w = .ok v' w' ∧ Ob B w' v' (L ++ T) ∧ w.grownBy w' v.ownBlock := by
  obtain ⟨i0, hi0, hz0, hz1, hz2⟩ := info_parts Tryz.info5
  have hsz : (ByteArray.mk T.toArray).size = T.length := by simp [ByteArray.size]
  have hsc : Lib.strCells ⟨T.toArray⟩ = Lib.byteCells T := by simp [Lib.byteCells, Lib.strCells]
  refine app_law (T := T) hown hB hn hm ty 9 _ ?_ ?_
  · rintro g9 cap rfl hr w' hst
    have hf := Lib.run_firstCells_string (P := Tryz.prog) w 1 ⟨T.toArray⟩
    rw [hsc, hsz] at hf
    simp [Builtin.append_, run_underlying Tryz.underlying98, run_underlying Tryz.underlying9, sizeOf, typeInfo, hi0, Builtin.lenOf, hr, hf, Addr.add_lit, hz1, hst, hsz]
  · rintro g9 cap rfl hr hcs
    have hr9 := Lib.run_append_grow_string (P := Tryz.prog) w 98 9 ty 5 i0 (.int .u8 0) Tryz.underlying98 Tryz.underlying9 hi0 hz0 ⟨g9, 0, none⟩ L.length cap (Lib.byteCells L) (by rw [hz1]; simp [Lib.byteCells]) hcs ⟨T.toArray⟩ (by rw [hsz]; exact hr) (by rw [hsz]; omega) (by rw [hz2, hsz]; exact growslice_fits hr (by omega))
    rw [hsz, hsc] at hr9
    exact hr9
theorem wpList_app_t (w : World) {ops : Array Oper} {rest : List Oper} {o : Oper} {a : Act} {Q : Exit → Act → World → Prop} (hgd : o.guard = none) (s x : Operand) (ho : o.op = .call { callee := .builtin .append, args := #[s, x], argTypes := #[98, 9] })
    (B : Nat) (vo : Value) (L : List UInt8) (hs : a.eval s = vo) (hown : Ob B w vo L) (T : List UInt8) (hx : a.eval x = .string ⟨T.toArray⟩) (hB : B ≤ w.heap.size) (hn : L.length ≤ 1000000000000) (hL : 2 ≤ L.length) (hm : T.length ≤ 1000000000000)
    (h : ∀ v' w', Ob B w' v' (L ++ T) → Below B w w' → Kf w w' → wpList Tryz.prog ops Q rest (a.put o.dst v') w') : wpList Tryz.prog ops Q (o :: rest) a w := by
  obtain ⟨v', w', hr, ho', hg'⟩ := app_t hown hB hn hm o.type
  refine wpList_plain hgd fun K hK => ?_
  unfold Oper.wp execOp
  simp only [ho, resolve, invoke, builtin, Sem.run_bind, Sem.run_pure, Result.andThen_ok, List.map_toArray, List.map_cons, List.map_nil, hs, hx, hr]
  exact hK _ _ (h v' w' ho' (hown.bel hB hg') (hown.grown hL hg'))
theorem itoa_nat (u : Nat) : Lib.itoa (u : Int) = Lib.decDigits u := by unfold Lib.itoa; rw [if_neg (by omega)]; simp

set_option maxRecDepth 100000 in
set_option maxHeartbeats 4000000 in
theorem app_uint (B u : Nat) (hu : u < 100) (sv : Value) (L : List UInt8) (w : World) (hown : Ob B w sv L) (hB : B ≤ w.heap.size) (hn : L.length ≤ 100000000000) (hL : 2 ≤ L.length) :
    Calls Tryz.prog 160 #[sv, .int .u64 u, .int .i64 10] w fun e w' => ∃ v', e = .returned v' ∧ Ob B w' v' (L ++ Lib.decDigits u) ∧ Below B w w' ∧ Kf w w' := by
  have k := Any.internal_strconv_small Tryz.laysSmall164 u hu w
  have hd : (Lib.decDigits u).length ≤ 1000 := by
    have := Lib.itoa_length_le (u : Int) (by omega) (by omega)
    rw [itoa_nat] at this
    omega
  have hu1 : (u : Int) < 100 := by omega
  have hw : IntKind.i64.wrap (u : Int) = u := by rw [IntKind.wrap_i64]; omega
  obtain ⟨p, c, rfl⟩ := hown.shape
  have HO : Hid _ := hown
  clear hown
  go_enter Tryz.func160, Tryz.ntmps160
  go_wp2_with fail
  refine k.mono ?_
  rintro e w1 ⟨rfl, rfl⟩
  go_wp2_with (at_builtin; refine wpList_app_t _ rfl _ _ rfl B _ L rfl HO.out (Lib.decDigits u) rfl hB (by omega) hL (by omega) ?_; intro v3 w3 hob3 hb3 hk3)
  go_ret
  exact ⟨_, rfl, hob3, hb3, hk3⟩

set_option maxRecDepth 100000 in
set_option maxHeartbeats 4000000 in
theorem app_int0 (B : Nat) (i : Int) (h0 : -100 < i) (h1 : i < 100) (sv : Value) (L : List UInt8) (w : World) (hown : Ob B w sv L) (hB : B ≤ w.heap.size) (hn : L.length ≤ 10000000000) (hL : 2 ≤ L.length) :
    Calls Tryz.prog 148 #[sv, .int .i64 i, .int .i64 10] w fun e w' => ∃ v', e = .returned v' ∧ Ob B w' v' (L ++ Lib.itoa i) ∧ Below B w w' ∧ Kf w w' := by
  obtain ⟨p, c, rfl⟩ := hown.shape
  have HO : Hid _ := hown
  by_cases hi : i < 0
  · obtain ⟨u, hu⟩ : ∃ u : Nat, -i = u := ⟨(-i).toNat, by omega⟩
    have hi2 : Lib.itoa i = [45] ++ Lib.decDigits u := by unfold Lib.itoa; rw [if_pos hi, show i.natAbs = u by omega]; rfl
    rw [hi2]
    clear hown
    go_enter Tryz.func148, Tryz.ntmps148
    have hw1 : IntKind.u64.wrap (-IntKind.u64.wrap i) = u := by rw [IntKind.wrap_u64, IntKind.wrap_u64]; omega
    have hbA : Below w.heap.size w (w.alloc (Obj.cells #[.int .u8 45] 5)) := (Below.refl _ w).alloc (Nat.le_refl _) _
    have hobA : Ob B (w.alloc (Obj.cells #[.int .u8 45] 5)) (.slice p L.length c) L := Ob.below HO.out hbA
    have hBA : Below B w (w.alloc (Obj.cells #[.int .u8 45] 5)) := hbA.mono hB
    have hkA : Kf w (w.alloc (Obj.cells #[.int .u8 45] 5)) := (Kf.refl w).alloc _
    have hcA : (w.alloc (Obj.cells #[.int .u8 45] 5)).cell? ⟨w.heap.size, 0, none⟩ = some (.int .u8 (45 : UInt8).toNat) := (Blk.new w #[.int .u8 45] 5).cell 0
    clear hbA
    go_upto_region 4 with (at_builtin; refine wpList_app_b _ rfl _ _ rfl B _ L rfl hobA w.heap.size 45 rfl hcA (Nat.le_trans hB hBA.size) (by omega) hL ?_; intro v3 w3 hob3 hb3 hk3)
    have hB3 := hBA.trans hb3
    have hK3 := hkA.trans hk3
    have HO3 : Hid _ := hob3
    clear hobA hcA hb3 hk3
    go_wp2_with fail
    refine (app_uint B u (by omega) _ (L ++ [45]) w3 hob3 (Nat.le_trans hB hB3.size) (by simp; omega) (by simp; omega)).mono ?_
    rintro e w4 ⟨v4, rfl, hob4, hb4, hk4⟩
    have HZ : Hid (Ob B w4 v4 (L ++ 45 :: Lib.decDigits u) ∧ Below B w w4 ∧ Kf w w4) := ⟨by simpa using hob4, hB3.trans hb4, hK3.trans hk4⟩
    clear hob4 hb4 hk4 hob3
    go_wp2
    go_ret
    exact ⟨_, rfl, HZ.out⟩
  · obtain ⟨u, rfl⟩ : ∃ u : Nat, i = u := ⟨i.toNat, by omega⟩
    have hi2 : Lib.itoa (u : Int) = Lib.decDigits u := itoa_nat u
    rw [hi2]
    have k := app_uint B u (by omega) _ L w hown hB (by omega) hL
    clear hown
    go_enter Tryz.func148, Tryz.ntmps148
    have hw1 : IntKind.u64.wrap (u : Int) = u := by rw [IntKind.wrap_u64]; omega
    have hneg : ¬ (u : Int) < 0 := by omega
    go_wp2_with fail
    refine k.mono ?_
    rintro e w4 ⟨v4, rfl, hob4, hb4, hk4⟩
    have HZ : Hid (Ob B w4 v4 (L ++ Lib.decDigits u) ∧ Below B w w4 ∧ Kf w w4) := ⟨hob4, hb4, hk4⟩
    clear hob4 hb4 hk4
    go_wp2
    go_ret
    exact ⟨_, rfl, HZ.out⟩

set_option maxRecDepth 100000 in
set_option maxHeartbeats 4000000 in
theorem app_int (B : Nat) (i : Int) (h0 : -100 < i) (h1 : i < 100) (sv : Value) (L : List UInt8) (w : World) (hown : Ob B w sv L) (hB : B ≤ w.heap.size) (hn : L.length ≤ 10000000000) (hL : 2 ≤ L.length) :
    Calls Tryz.prog 131 #[sv, .int .i64 i, .int .i64 10] w fun e w' => ∃ v', e = .returned v' ∧ Ob B w' v' (L ++ Lib.itoa i) ∧ Below B w w' ∧ Kf w w' := by
  have k := app_int0 B i h0 h1 sv L w hown hB hn hL
  clear hown
  go_enter Tryz.func131, Tryz.ntmps131
  go_wp2_with fail
  refine k.mono ?_
  rintro e w4 ⟨v4, rfl, hob4, hb4, hk4⟩
  have HZ : Hid (Ob B w4 v4 (L ++ Lib.itoa i) ∧ Below B w w4 ∧ Kf w w4) := ⟨hob4, hb4, hk4⟩
  clear hob4 hb4 hk4
  go_wp2
  go_ret
  exact ⟨_, rfl, HZ.out⟩
end Go.Proofs.YtpgecdhieakilaaGreatDoor

namespace Go.Proofs.YtpgecdhieakilaaGreatDoor
open Go.RowKit Go.Shelf
set_option linter.unusedVariables false
set_option linter.unusedSimpArgs false
/-- A term as text, where it is no set. -/
def tmT (t : Tm) : List UInt8 := if t.v = -1 then Lib.itoa t.n else 120 :: Lib.itoa t.v
def Tm.small (t : Tm) : Prop := (t.v = -1 → t.set = false) ∧ -100 < t.v ∧ t.v < 100 ∧ -100 < t.n ∧ t.n < 100
theorem tmT_length {t : Tm} (h : t.small) : (tmT t).length ≤ 22 := by
  obtain ⟨_, h1, h2, h3, h4⟩ := h
  have a := Lib.itoa_length_le t.v (by omega) (by omega)
  have b := Lib.itoa_length_le t.n (by omega) (by omega)
  unfold tmT
  split <;> simp <;> omega

set_option maxRecDepth 100000 in
set_option maxHeartbeats 4000000 in
theorem term_any {B : Nat} {W : World} {out sv : Value} {L : List UInt8} (t : Tm) (ho : Ob B W out L) (hB : B ≤ W.heap.size) (hL : L.length ≤ 1000000000) (hL2 : 2 ≤ L.length) (ht : t.small) :
    Calls Tryz.prog 112 #[out, .agg #[.int .i64 t.v, .bool t.set, .int .i64 t.n, sv]] W fun e w' => ∃ v', e = .returned v' ∧ Ob B w' v' (L ++ tmT t) ∧ Below B W w' ∧ Kf W w' := by
  obtain ⟨hset, h0, h1, h2, h3⟩ := ht
  have HE : Hid (tmT t = if t.v = -1 then Lib.itoa t.n else 120 :: Lib.itoa t.v) := rfl
  obtain ⟨T, hT9⟩ : ∃ T, tmT t = T := ⟨_, rfl⟩
  rw [hT9] at HE ⊢
  clear hT9
  obtain ⟨tv, htv⟩ : ∃ x, t.v = x := ⟨_, rfl⟩
  obtain ⟨ts, hts⟩ : ∃ x, t.set = x := ⟨_, rfl⟩
  obtain ⟨tn, htn⟩ : ∃ x, t.n = x := ⟨_, rfl⟩
  rw [htv, hts] at hset; rw [htv] at h0 h1; rw [htn] at h2 h3; rw [htv, htn] at HE
  rw [htv, hts, htn]
  clear htv hts htn
  have HO : Hid (Ob B W out L) := ho
  have hbA : Below W.heap.size W (W.alloc (Obj.cells #[.int .i64 tv, .bool ts, .int .i64 tn, sv] 46)) := (Below.refl _ W).alloc (Nat.le_refl _) _
  have hobA := ho.below hbA
  have hBA : Below B W (W.alloc (Obj.cells #[.int .i64 tv, .bool ts, .int .i64 tn, sv] 46)) := hbA.mono hB
  have hkA : Kf W (W.alloc (Obj.cells #[.int .i64 tv, .bool ts, .int .i64 tn, sv] 46)) := (Kf.refl W).alloc _
  have hnew := Blk.new W #[.int .i64 tv, .bool ts, .int .i64 tn, sv] 46
  clear ho hbA
  obtain ⟨WA, hWA⟩ : ∃ X, W.alloc (Obj.cells #[.int .i64 tv, .bool ts, .int .i64 tn, sv] 46) = X := ⟨_, rfl⟩
  have HWA : Hid (W.alloc (Obj.cells #[.int .i64 tv, .bool ts, .int .i64 tn, sv] 46) = WA) := hWA
  have hsA : WA.heap.size = W.heap.size + 1 := by rw [← hWA]; simp
  have HSA : Hid _ := hsA
  rw [hWA] at hobA hBA hkA hnew
  have c0 : WA.cell? ⟨W.heap.size, 0, none⟩ = some (.int .i64 tv) := hnew.cell 0
  have c1 : WA.cell? ⟨W.heap.size, 1, none⟩ = some (.bool ts) := hnew.cell 1
  have c2 : WA.cell? ⟨W.heap.size, 2, none⟩ = some (.int .i64 tn) := hnew.cell 2
  clear hWA
  go_enter Tryz.func112, Tryz.ntmps112
  by_cases hv : tv = -1
  · have hs : ts = false := hset hv
    subst hs; subst hv
    have HE2 : Hid (T = Lib.itoa tn) := by rw [HE.out]; rfl
    go_upto_region 1 with (fail)
    rw [HWA.out]
    clear hsA
    go_wp2_with fail
    refine (app_int B tn h2 h3 out L WA hobA (Nat.le_trans hB hBA.size) (by omega) hL2).mono ?_
    rintro e w4 ⟨v4, rfl, hob4, hb4, hk4⟩
    have HZ : Hid (Ob B w4 v4 (L ++ T) ∧ Below B W w4 ∧ Kf W w4) := ⟨by rw [HE2.out]; exact hob4, hBA.trans hb4, hkA.trans hk4⟩
    clear hob4 hb4 hk4
    go_wp2
    go_ret
    exact ⟨_, rfl, HZ.out⟩
  · have HE2 : Hid (T = 120 :: Lib.itoa tv) := by have := HE.out; rw [if_neg hv] at this; exact this
    have HS : ∀ X, Kf WA X → X.cell? ⟨W.heap.size, 0, none⟩ = some (.int .i64 tv) := fun X hX => (hnew.kept hX (by intro h; cases h)).cell 0
    have hv2 : (tv != -1) = true := by simp [hv]
    have hd1 : Kf WA WA.drew := (Kf.refl WA).drew
    have hk2 : Kf WA (WA.drew.alloc (Obj.cells #[.int .u8 120] 5)) := hd1.alloc _
    have hbD : Below WA.heap.size WA (WA.drew.alloc (Obj.cells #[.int .u8 120] 5)) := (Below.drew (Below.refl _ WA)).alloc (Nat.le_refl _) _
    have hob2 := hobA.below hbD
    have hB2 : Below B W (WA.drew.alloc (Obj.cells #[.int .u8 120] 5)) := hBA.trans (hbD.mono (Nat.le_trans hB hBA.size))
    have hcb : (WA.drew.alloc (Obj.cells #[.int .u8 120] 5)).cell? ⟨WA.heap.size, 0, none⟩ = some (.int .u8 (120 : UInt8).toNat) := (Blk.new WA.drew #[.int .u8 120] 5).cell 0
    clear hbD
    go_upto_region 1 with (fail)
    rw [HWA.out]
    go_upto_region 2 with (fail)
    clear hsA
    refine wp_region_held_drew (S := (fun w' => w'.cell? ⟨W.heap.size, 0, none⟩ = some (.int .i64 tv))) (by kernel_rfl) (HS _ hd1) (fun hHeld => ?_)
    refine wpAnyH_take (i := 0) (oi := { dst := some 9, op := Go.Op.move (Go.Operand.tmp 0), type := 98, pos := "text.go:46", after := #[], guard := none }) (v := ?_) rfl (by kernel_rfl) (by kernel_rfl) (by kernel_rfl) (fun _ _ _ h => h) (Or.inl ⟨by rfl, ?_⟩) hHeld ?_
    rotate_left
    · intro w hSw; (try dsimp only at hSw); go_simp <;> with_reducible rfl
    try simp only [Act.put, List.setIfInBounds_toArray, List.set_cons_zero, List.set_cons_succ]
    refine wpAnyH_take (i := 3) (oi := { dst := some 12, op := Go.Op.fieldAddr 46 (Go.Operand.tmp 3) 0, type := 0, pos := "text.go:46", after := #[], guard := none }) (v := ?_) rfl (by kernel_rfl) (by kernel_rfl) (by kernel_rfl) (fun _ _ _ h => h) (Or.inl ⟨by rfl, ?_⟩) hHeld ?_
    rotate_left
    · intro w hSw; (try dsimp only at hSw); go_simp <;> with_reducible rfl
    try simp only [Act.put, List.setIfInBounds_toArray, List.set_cons_zero, List.set_cons_succ]
    refine wpAnyH_take (i := 4) (oi := { dst := some 13, op := Go.Op.load 3 (Go.Operand.tmp 12), type := 3, pos := "text.go:46", after := #[{ on := 3, ground := Go.Ground.data }], guard := none }) (v := ?_) rfl (by kernel_rfl) (by kernel_rfl) (by kernel_rfl) (fun _ _ _ h => h) (Or.inl ⟨by rfl, ?_⟩) hHeld ?_
    rotate_left
    · intro w hSw; (try dsimp only at hSw); go_simp <;> with_reducible rfl
    try simp only [Act.put, List.setIfInBounds_toArray, List.set_cons_zero, List.set_cons_succ]
    refine wpAnyH_ready (rs := [1]) (by kernel_rfl) (by simp) ?_
    refine AllReadyH.cons rfl (fun K hK => ?_) AllReadyH.nil
    go_simp
    refine hK.out _ _ (HS _ hk2) (fun hHeld2 => ?_)
    clear hK K hHeld
    have hHeld := hHeld2
    clear hHeld2
    try simp only [Act.put, List.setIfInBounds_toArray, List.set_cons_zero, List.set_cons_succ]
    refine wpAnyH_ready (rs := [2]) (by kernel_rfl) (by simp) ?_
    refine AllReadyH.cons rfl (fun K hK => ?_) AllReadyH.nil
    refine step_app_b _ rfl (.tmp 9) (.tmp 10) rfl B _ L (by with_unfolding_all rfl) hob2 WA.heap.size 120 (by with_unfolding_all rfl) hcb (Nat.le_trans hB hB2.size) (by omega) hL2 ?_
    intro v3 w3 hob3 hb3 hk3
    have HK3 := hk2.trans hk3
    have HB3 := hB2.trans hb3
    refine hK.out _ _ (HS _ HK3) (fun hHeld2 => ?_)
    clear hK K hHeld
    have hHeld := hHeld2
    clear hHeld2
    try simp only [Act.put, List.setIfInBounds_toArray, List.set_cons_zero, List.set_cons_succ]
    refine wpAnyH_ready (rs := [5]) (by kernel_rfl) (by simp) ?_
    refine AllReadyH.cons rfl (fun K hK => ?_) AllReadyH.nil
    go_simp
    refine (app_int B tv h0 h1 v3 _ w3 hob3 (Nat.le_trans hB HB3.size) (by simp; omega) (by simp; omega)).mono ?_
    rintro e w4 ⟨v4, rfl, hob4, hb4, hk4⟩
    have HK4 := HK3.trans hk4
    have HB4 : Hid (Below B W w4) := HB3.trans hb4
    have HO4 : Hid _ := hob4
    refine hK.out _ _ (HS _ HK4) (fun hHeld2 => ?_)
    clear hK K hHeld
    have hHeld := hHeld2
    clear hHeld2
    try simp only [Act.put, List.setIfInBounds_toArray, List.set_cons_zero, List.set_cons_succ]
    refine wpAnyH_take (i := 6) (oi := { dst := some 4, op := Go.Op.assign (Go.Operand.tmp 14), type := 98, pos := "text.go:46", after := #[{ on := 5, ground := Go.Ground.data }, { on := 5, ground := Go.Ground.chain }, { on := 0, ground := Go.Ground.phase }, { on := 1, ground := Go.Ground.phase }, { on := 2, ground := Go.Ground.phase }, { on := 3, ground := Go.Ground.phase }, { on := 4, ground := Go.Ground.phase }, { on := 5, ground := Go.Ground.phase }], guard := none }) (v := ?_) rfl (by kernel_rfl) (by kernel_rfl) (by kernel_rfl) (fun _ _ _ h => h) (Or.inl ⟨by rfl, ?_⟩) hHeld ?_
    rotate_left
    · intro w hSw; (try dsimp only at hSw); go_simp <;> with_reducible rfl
    try simp only [Act.put, List.setIfInBounds_toArray, List.set_cons_zero, List.set_cons_succ]
    refine wpAnyH_done (by kernel_rfl) ?_ _
    have HZ : Hid (Ob B w4 v4 (L ++ T) ∧ Below B W w4 ∧ Kf W w4) := ⟨by rw [HE2.out]; have := HO4.out; rw [List.append_assoc] at this; exact this, HB4.out, hkA.trans HK4⟩
    clear HO4 HB4 HK4
    go_wp2
    go_ret
    exact ⟨_, rfl, HZ.out⟩
end Go.Proofs.YtpgecdhieakilaaGreatDoor

namespace Go.Proofs.YtpgecdhieakilaaGreatDoor
open Go.RowKit Go.Shelf
set_option linter.unusedVariables false
set_option linter.unusedSimpArgs false
/-- The texts of the first k, with ", " between them. -/
def tsP {α : Type} (f : α → List UInt8) (l : List α) : Nat → List UInt8
  | 0 => []
  | k + 1 => tsP f l k ++ ((if 0 < k then [44, 32] else []) ++ (match l[k]? with | some t => f t | none => []))
theorem tsP_succ {α : Type} (f : α → List UInt8) {l : List α} {k : Nat} {t : α} (h : l[k]? = some t) : tsP f l (k + 1) = tsP f l k ++ ((if 0 < k then [44, 32] else []) ++ f t) := by simp [tsP, h]
theorem tsP_len {α : Type} (f : α → List UInt8) (l : List α) (m : Nat) (h : ∀ t ∈ l, (f t).length ≤ m) : ∀ k, (tsP f l k).length ≤ (m + 2) * k
  | 0 => by simp [tsP]
  | k + 1 => by
    have ih := tsP_len f l m h k
    rw [tsP, List.length_append, List.length_append, Nat.mul_succ]
    have h1 : (if 0 < k then ([44, 32] : List UInt8) else []).length ≤ 2 := by split <;> simp
    have h2 : (match l[k]? with | some t => f t | none => []).length ≤ m := by
      cases hk : l[k]? with
      | none => simp
      | some t => exact h t (List.mem_of_getElem? hk)
    omega

set_option maxRecDepth 100000 in
set_option maxHeartbeats 4000000 in
theorem terms_any {B0 : Nat} {X W : World} {out s : Value} {L : List UInt8} {l : List Tm} (hs : St B0 X s l) (hW : Below X.heap.size X W) (ho : Ob X.heap.size W out L) (hL2 : 2 ≤ L.length) (hsm : ∀ t ∈ l, t.small) (hL : L.length + 24 * l.length ≤ 100000000) :
    Calls Tryz.prog 86 #[out, s] W fun e w' => ∃ v', e = .returned v' ∧ Ob X.heap.size w' v' (L ++ tsP tmT l l.length) ∧ Below X.heap.size X w' ∧ Kf W w' := by
  obtain ⟨a8, c8, rfl, h⟩ := hs
  obtain ⟨n, hn0⟩ : ∃ n, l.length = n := ⟨_, rfl⟩
  have HST : Hid (St B0 X (.slice a8 n c8) l) := ⟨a8, c8, by rw [hn0], h⟩
  rw [hn0] at hL ⊢
  have HN : Hid (l.length = n) := hn0
  have HSM : Hid (∀ t ∈ l, t.small) := hsm
  have HTL : Hid (∀ k, (tsP tmT l k).length ≤ (22 + 2) * k) := tsP_len tmT l 22 (fun t h => tmT_length (hsm t h))
  have HO : Hid (Ob X.heap.size W out L) := ho
  have HW : Hid (Below X.heap.size X W) := hW
  clear h hn0 hsm ho hW
  go_enter Tryz.func86, Tryz.ntmps86
  go_wp2
  go_loopw [0, 9] (fun o i wr => ∃ k : Nat, k ≤ n ∧ i = .int .i64 (k : Int) ∧ Hid (Ob X.heap.size wr o (L ++ tsP tmT l k)) ∧ Hid (Below X.heap.size X wr) ∧ Hid (Kf W wr)) (fun _ i _ => n - (intOf i).toNat)
  case atStart => exact ⟨0, Nat.zero_le _, rfl, by simpa [tsP] using HO, HW, Kf.refl _⟩
  case round =>
    obtain ⟨k, hk, rfl, HOB, HB, HK⟩ := hrel
    by_cases hlt : k < n
    · have hlt' : (k : Int) < n := by omega
      obtain ⟨t, ht⟩ : ∃ t, l[k]? = some t := ⟨_, List.getElem?_eq_getElem (by rw [HN.out]; exact hlt)⟩
      have HSU : Hid _ := tsP_succ tmT ht
      obtain ⟨b, off, a4, c4, rfl, hb, _, d0, d1, d2, d3⟩ := HST.out.at ht
      have y0 := (HB.out.cell (p := ⟨b, off + k * 4, none⟩) hb).trans d0
      have y1 := (HB.out.cell (p := ⟨b, off + k * 4 + 1, none⟩) hb).trans d1
      have y2 := (HB.out.cell (p := ⟨b, off + k * 4 + 2, none⟩) hb).trans d2
      have y3 := (HB.out.cell (p := ⟨b, off + k * 4 + 3, none⟩) hb).trans d3
      have hsm := HSM.out t (List.mem_of_getElem? ht)
      clear d0 d1 d2 d3 ht
      have hw2 : IntKind.i64.wrap ((k : Int) + 1) = (k : Int) + 1 := by rw [IntKind.wrap_i64]; omega
      have hll : (L ++ tsP tmT l k).length ≤ 100000000 := by have := HTL.out k; rw [List.length_append]; omega
      have hl2 : 2 ≤ (L ++ tsP tmT l k).length := by rw [List.length_append]; omega
      obtain ⟨LL, hLL⟩ : ∃ x, L ++ tsP tmT l k = x := ⟨_, rfl⟩
      have HLL : Hid (L ++ tsP tmT l k = LL) := hLL
      rw [hLL] at hll hl2 HOB
      clear hLL
      have hbA : Below wr.heap.size wr (wr.alloc (Obj.cells #[.int .i64 t.v, .bool t.set, .int .i64 t.n, .slice a4 t.s.length c4] 46)) := (Below.refl _ wr).alloc (Nat.le_refl _) _
      have hobA := HOB.out.below hbA
      have hBA := HB.out.trans (hbA.mono HB.out.size)
      have hkA : Kf W (wr.alloc (Obj.cells #[.int .i64 t.v, .bool t.set, .int .i64 t.n, .slice a4 t.s.length c4] 46)) := HK.out.alloc _
      have hnew := Blk.new wr #[.int .i64 t.v, .bool t.set, .int .i64 t.n, .slice a4 t.s.length c4] 46
      clear hbA
      obtain ⟨wA, hWA⟩ : ∃ Y, wr.alloc (Obj.cells #[.int .i64 t.v, .bool t.set, .int .i64 t.n, .slice a4 t.s.length c4] 46) = Y := ⟨_, rfl⟩
      have HWA : Hid (wr.alloc (Obj.cells #[.int .i64 t.v, .bool t.set, .int .i64 t.n, .slice a4 t.s.length c4] 46) = wA) := hWA
      rw [hWA] at hobA hBA hkA hnew
      have c0 : wA.cell? ⟨wr.heap.size, 0, none⟩ = some (.int .i64 t.v) := hnew.cell 0
      have c1 : wA.cell? ⟨wr.heap.size, 1, none⟩ = some (.bool t.set) := hnew.cell 1
      have c2 : wA.cell? ⟨wr.heap.size, 2, none⟩ = some (.int .i64 t.n) := hnew.cell 2
      have c3 : wA.cell? ⟨wr.heap.size, 3, none⟩ = some (.slice a4 t.s.length c4) := hnew.cell 3
      clear hWA
      obtain ⟨po, co, rfl⟩ := HOB.out.shape
      by_cases hk0 : 0 < k
      · have hd0 : decide (0 < (k : Int)) = true := by simp; omega
        have HS2 : Hid (tsP tmT l (k + 1) = tsP tmT l k ++ ([44, 32] ++ tmT t)) := by have := HSU.out; rw [if_pos hk0] at this; exact this
        go_upto_region 4 with (fail)
        rw [HWA.out]
        go_wp2_with (at_builtin; refine wpList_app_t _ rfl _ _ rfl X.heap.size _ LL rfl hobA [44, 32] rfl hBA.size (by omega) hl2 (by simp) ?_; intro v3 w3 hob3 hb3 hk3; refine Hid.out ?_)
        refine (show Hid _ from ?_)
        unfold Hid
        have hB3 := hBA.trans hb3
        have hK3 := hkA.trans hk3
        have hN3 := hnew.kept hk3 (by intro h; cases h)
        have x0 : w3.cell? ⟨wr.heap.size, 0, none⟩ = some (.int .i64 t.v) := hN3.cell 0
        have x1 : w3.cell? ⟨wr.heap.size, 1, none⟩ = some (.bool t.set) := hN3.cell 1
        have x2 : w3.cell? ⟨wr.heap.size, 2, none⟩ = some (.int .i64 t.n) := hN3.cell 2
        have x3 : w3.cell? ⟨wr.heap.size, 3, none⟩ = some (.slice a4 t.s.length c4) := hN3.cell 3
        clear c0 c1 c2 c3 hb3 hk3
        go_wp2_with fail
        refine (term_any t hob3 hB3.size (by simp; omega) (by rw [List.length_append]; omega) hsm).mono ?_
        rintro e w4 ⟨v4, rfl, hob4, hb4, hk4⟩
        have HZ : Hid (Ob X.heap.size w4 v4 (L ++ tsP tmT l (k + 1)) ∧ Below X.heap.size X w4 ∧ Kf W w4) := ⟨by rw [HS2.out, ← List.append_assoc, HLL.out]; simpa using hob4, hB3.trans hb4, hK3.trans hk4⟩
        clear hob4 hb4 hk4
        go_wp2
        go_roundw
        case rel => exact ⟨k + 1, by omega, by go_num, HZ.out.1, HZ.out.2.1, HZ.out.2.2⟩
        case measure => simp [intOf]; omega
      · have hd0 : decide (0 < (k : Int)) = false := by simp; omega
        have HS2 : Hid (tsP tmT l (k + 1) = tsP tmT l k ++ tmT t) := by have := HSU.out; rw [if_neg hk0, List.nil_append] at this; exact this
        go_upto_region 4 with (fail)
        rw [HWA.out]
        go_wp2_with fail
        have hB3 := hBA
        have hK3 := hkA
        refine (term_any t hobA hBA.size (by omega) hl2 hsm).mono ?_
        rintro e w4 ⟨v4, rfl, hob4, hb4, hk4⟩
        have HZ : Hid (Ob X.heap.size w4 v4 (L ++ tsP tmT l (k + 1)) ∧ Below X.heap.size X w4 ∧ Kf W w4) := ⟨by rw [HS2.out, ← List.append_assoc, HLL.out]; simpa using hob4, hB3.trans hb4, hK3.trans hk4⟩
        clear hob4 hb4 hk4
        go_wp2
        go_roundw
        case rel => exact ⟨k + 1, by omega, by go_num, HZ.out.1, HZ.out.2.1, HZ.out.2.2⟩
        case measure => simp [intOf]; omega
    · have hlt' : ¬ (k : Int) < n := by omega
      obtain rfl : k = n := by omega
      go_wp2
      go_ret
      exact ⟨_, rfl, HOB.out, HB.out, HK.out⟩
end Go.Proofs.YtpgecdhieakilaaGreatDoor
