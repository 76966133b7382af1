/-
  What is proved here: put: a variable has another domain.
  What is proved here: tight; change of a domain that has one value now.
-/
import Derived.Test.YtghnfnieppfhgaaGreatKg
namespace Go.Proofs.YtghnfnieppfhgaaGreat
open Go.RowKit Go.Shelf
set_option linter.unusedVariables false
set_option linter.unusedSimpArgs false

theorem emptI_01 (b : Bool) : 0 ≤ emptI b ∧ emptI b ≤ 1 := by cases b <;> decide
/-- The cells of a row from a place on, one by one. -/
theorem rng6 {w : World} {g o : Nat} {x0 x1 x2 x3 x4 x5 : Value} (h : w.rangeAt g o [x0, x1, x2, x3, x4, x5]) :
    w.cell? ⟨g, o, none⟩ = some x0 ∧ w.cell? ⟨g, o + 1, none⟩ = some x1 ∧ w.cell? ⟨g, o + 2, none⟩ = some x2 ∧ w.cell? ⟨g, o + 3, none⟩ = some x3 ∧ w.cell? ⟨g, o + 4, none⟩ = some x4 ∧ w.cell? ⟨g, o + 5, none⟩ = some x5 :=
  ⟨by simpa using h 0 x0 rfl, h 1 x1 rfl, h 2 x2 rfl, h 3 x3 rfl, h 4 x4 rfl, h 5 x5 rfl⟩
theorem wrap_small {x : Int} (h1 : -1000000000 ≤ x) (h2 : x ≤ 1000000000) : IntKind.i64.wrap x = x := by
  simp [IntKind.wrap, IntKind.bits, IntKind.signed]
  omega
/-- All ways of a region end in one frame, in worlds of one kind. -/
theorem wp_ways {P : Program} {c : Code} {K : Act → World → Prop} {Q : Exit → Act → World → Prop} {a : Act} {w : World} {act : Act} (R : World → Prop) (h : c.wp P (Exit.then (fun a' w' => a' = act ∧ R w') (fun _ _ _ => False)) a w) (hK : ∀ w', R w' → K act w') : c.wp P (Exit.then K Q) a w :=
  Code.wp_mono (fun e b x q => by
    cases e with
    | normal =>
      have q' : b = act ∧ R x := q
      obtain ⟨e1, q2⟩ := q'
      rw [e1]
      exact hK _ q2
    | _ => exact (q : False).elim) h
theorem stepM {ops : Array Oper} {o : Oper} {a : Act} {w : World} {K : Act → World → Prop} {Q : Exit → Act → World → Prop} {E : Prop} (hgd : o.guard = none) (ty : TypeId) (x y : Operand) (ho : o.op = .store ty x y) (b off : Nat) (c : List Value) (hx : a.eval x = .pointer (some ⟨b, off, none⟩)) (hy : a.eval y = .agg c.toArray)
    (ht : w.there b off c.length) (hi : (Tryz.prog.info? ty).map (·.size) = some c.length) (h1 : ∀ v ∈ c, v.oneCell' = true) (h : K (a.put o.dst undef) (w.setCells b off c)) : if Region.wanted o (yielded ops a.tmps) = true then Oper.wp Tryz.prog o a w K Q else E := by
  have hw : Region.wanted o (yielded ops a.tmps) = true := by simp [Region.wanted, hgd]
  rw [if_pos hw]
  exact wp_store_mid ty x y ho b off c.toArray hx hy (by simpa using ht) (by simpa using hi) (all_oneCell_toArray h1) (by simpa using h)
theorem Bx.setc {w : World} {g k : Nat} {cs : Array Value} {t : TypeId} (h : Bx w k cs t) (hk : k ≠ g) (o : Nat) (v : Value) : Bx (w.setCell ⟨g, o, none⟩ v) k cs t := ⟨(Below.heap_setCell w ⟨g, o, none⟩ v k hk).trans h.h⟩
theorem Bx.setcs {w : World} {g k : Nat} {cs : Array Value} {t : TypeId} (h : Bx w k cs t) (hk : k ≠ g) (o : Nat) (vs : List Value) : Bx (w.setCells g o vs) k cs t := ⟨((Kept.many (w := w) rfl).block k h.lt hk).trans h.h⟩
theorem Sto.dom_at {w : World} {p : Nat} {st : StM} {sl : Sl} (h : Sto w p st sl) {v : Nat} {d : MD} (hd : st.D[v]? = some d) : ∃ g cap c, sl.dv = .slice (some ⟨g, 0, none⟩) st.D.length cap ∧ g < w.heap.size ∧ st.D.length ≤ cap ∧ cap ≤ 9223372036854775807 ∧ w.rangeAt g (v * 6) c ∧ w.there g (v * 6) 6 ∧ Dc (XS p sl) w c d := by
  obtain ⟨cs, hr, hdr⟩ := h.doms
  have hv : v < cs.length := by rw [hdr.1]; exact (List.getElem?_eq_some_iff.1 hd).1
  obtain ⟨g, cap, e1, e2, e3, e4, e5, e6⟩ := hr.at (List.getElem?_eq_getElem hv)
  unfold maxLen at e4
  rw [hdr.1] at e1 e3
  exact ⟨g, cap, _, e1, e2, e3, by omega, e5, e6, hdr.2 v _ d (List.getElem?_eq_getElem hv) hd⟩

set_option maxRecDepth 100000 in
set_option maxHeartbeats 4000000 in
theorem put_any {W : World} {p : Nat} {st : StM} {sl : Sl} {c : List Value} {d : MD} (h : Sto W p st sl) (hc : Dc (XS p sl) W c d) (v : Nat) {o : MD} (hv : st.D[v]? = some o) (hs : d.set = false) (hs' : o.set = false) (he : -1000000 ≤ st.e) (he' : st.e ≤ 1000000) (hz : Sz st) :
    Calls Tryz.prog 52 #[ptr p, .int .i64 v, .agg c.toArray] W fun e w' => e = .returned (.tuple #[]) ∧ Sto w' p { st with e := st.e + (emptI (emptyW d) - emptI (emptyW o)), D := st.D.set v d } sl ∧ Kept (XS p sl) W w' := by
  have hvl : v < st.D.length := (List.getElem?_eq_some_iff.1 hv).1
  obtain ⟨n, k, m, sa, sc, ma, mc, ia, ic, da, dc, wa, wc, rfl, HL⟩ := h.look
  obtain ⟨gd, cap, c', e1, hgd, hcap, hcm, hr, hth, hco⟩ := h.dom_at hv
  injection e1 with e1 e2 e3
  subst e1 e3
  clear e2
  have hvn : v < n := by rw [← HL.out.1]; exact hvl
  have hn1 : n ≤ 1000 := by rw [← HL.out.1]; exact hz.1
  have hcap' : n ≤ dc := by rw [← HL.out.1]; exact hcap
  obtain ⟨b, ra, n0, rc, a1, n1, c1, a2, n2, c2, x, y, ec, HE, H1, H2, H3⟩ := hc.look
  obtain ⟨b', ra', n0', rc', a1', n1', c1', a2', n2', c2', x', y', ec', HE', H1', H2', H3'⟩ := hco.look
  subst ec ec'
  obtain ⟨W0, hW0⟩ : ∃ Q, W.alloc (Obj.cells #[.bool b, .slice ra n0 rc, .slice a1 n1 c1, .slice a2 n2 c2, .int .i64 x, .int .i64 y] 37) = Q := ⟨_, rfl⟩
  have hb0 : Below W.heap.size W W0 := by rw [← hW0]; exact (Below.refl _ W).alloc (Nat.le_refl _) _
  have HBX : Hid (Bx W0 W.heap.size #[.bool b, .slice ra n0 rc, .slice a1 n1 c1, .slice a2 n2 c2, .int .i64 x, .int .i64 y] 37) := by rw [← hW0]; exact Bx.new _ _ _
  have HS : Hid (Sto W0 p st ⟨.slice sa k sc, .slice ma m mc, .slice ia n ic, .slice (some ⟨gd, 0, none⟩) n dc, .slice wa n wc⟩) := h.below hb0
  have HR0 : Hid (W0.rangeAt gd (v * 6) _) := fun j u hu => (hb0.cell (p := ⟨gd, v * 6 + j, none⟩) hgd).trans (hr j u hu)
  have hgd0 : gd < W0.heap.size := Nat.lt_of_lt_of_le hgd hb0.size
  have HPG : Hid (p ≠ gd) := fun e => by
    obtain ⟨cs, hd, _⟩ := h.doms
    exact hd.nep h.blk (by decide) (by rw [e]; rfl)
  have HPW : Hid (W.heap.size ≠ p) := by have := h.p_lt; rw [Hid]; omega
  have HGD : Hid (gd < W.heap.size) := hgd
  have HVL : Hid (v < st.D.length) := hvl
  have HVO : Hid (st.D[v]? = some o) := hv
  have HXG : Hid (XS p ⟨.slice sa k sc, .slice ma m mc, .slice ia n ic, .slice (some ⟨gd, 0, none⟩) n dc, .slice wa n wc⟩ gd) := .inr (.inr (.inr (.inr (.inl rfl))))
  have FACTS : ∀ X, Below W0.heap.size W0 X → X.cell? ⟨p, 3, none⟩ = some (.slice (some ⟨gd, 0, none⟩) n dc) ∧ X.cell? ⟨p, 4, none⟩ = some (.int .i64 st.e) ∧ ((X.cell? ⟨W.heap.size, 0, none⟩ = some (.bool b) ∧ X.cell? ⟨W.heap.size, 1, none⟩ = some (.slice ra n0 rc) ∧ X.cell? ⟨W.heap.size, 2, none⟩ = some (.slice a1 n1 c1) ∧ X.cell? ⟨W.heap.size, 3, none⟩ = some (.slice a2 n2 c2) ∧ X.cell? ⟨W.heap.size, 4, none⟩ = some (.int .i64 x) ∧ X.cell? ⟨W.heap.size, 5, none⟩ = some (.int .i64 y)) ∧
      (X.cell? ⟨gd, v * 6, none⟩ = some (.bool b') ∧ X.cell? ⟨gd, v * 6 + 1, none⟩ = some (.slice ra' n0' rc') ∧ X.cell? ⟨gd, v * 6 + 2, none⟩ = some (.slice a1' n1' c1') ∧ X.cell? ⟨gd, v * 6 + 3, none⟩ = some (.slice a2' n2' c2') ∧ X.cell? ⟨gd, v * 6 + 4, none⟩ = some (.int .i64 x') ∧ X.cell? ⟨gd, v * 6 + 5, none⟩ = some (.int .i64 y'))) ∧ X.frozen? ⟨p, 4, none⟩ = false := by
    intro X hX
    obtain ⟨z0, z1, z2, z3, z4, z5, zf⟩ := (HS.out.below hX).cells
    exact ⟨z3, z4, ⟨(HBX.out.below hX).six, rng6 fun j u hu => (hX.cell (p := ⟨gd, v * 6 + j, none⟩) hgd0).trans (HR0.out j u hu)⟩, zf 4⟩
  have FACTS2 : ∀ X, (∃ Y, Below W0.heap.size W0 Y ∧ (X = Y ∨ ∃ u, X = Y.setCell ⟨p, 4, none⟩ u)) → X.cell? ⟨p, 3, none⟩ = some (.slice (some ⟨gd, 0, none⟩) n dc) ∧ ((X.cell? ⟨W.heap.size, 0, none⟩ = some (.bool b) ∧ X.cell? ⟨W.heap.size, 1, none⟩ = some (.slice ra n0 rc) ∧ X.cell? ⟨W.heap.size, 2, none⟩ = some (.slice a1 n1 c1) ∧ X.cell? ⟨W.heap.size, 3, none⟩ = some (.slice a2 n2 c2) ∧ X.cell? ⟨W.heap.size, 4, none⟩ = some (.int .i64 x) ∧ X.cell? ⟨W.heap.size, 5, none⟩ = some (.int .i64 y)) ∧
      (X.cell? ⟨gd, v * 6, none⟩ = some (.bool b') ∧ X.cell? ⟨gd, v * 6 + 1, none⟩ = some (.slice ra' n0' rc') ∧ X.cell? ⟨gd, v * 6 + 2, none⟩ = some (.slice a1' n1' c1') ∧ X.cell? ⟨gd, v * 6 + 3, none⟩ = some (.slice a2' n2' c2') ∧ X.cell? ⟨gd, v * 6 + 4, none⟩ = some (.int .i64 x') ∧ X.cell? ⟨gd, v * 6 + 5, none⟩ = some (.int .i64 y'))) := by
    intro X ⟨Y, hY, hX⟩
    have f := FACTS Y hY
    rcases hX with rfl | ⟨u, rfl⟩
    · exact ⟨f.1, f.2.2.1⟩
    · have hpp : p ≠ W.heap.size := by have := h.p_lt; omega
      have o1 : ∀ j, (Y.setCell ⟨p, 4, none⟩ u).cell? ⟨W.heap.size, j, none⟩ = Y.cell? ⟨W.heap.size, j, none⟩ := fun j => World.cell?_setCell_other _ _ _ _ (by intro e; injection e with e _ _; exact hpp e)
      have o2 : ∀ j, (Y.setCell ⟨p, 4, none⟩ u).cell? ⟨gd, j, none⟩ = Y.cell? ⟨gd, j, none⟩ := fun j => World.cell?_setCell_other _ _ _ _ (by intro e; injection e with e _ _; exact HPG.out e)
      simp only [o1, o2]
      exact ⟨(World.cell?_setCell_other _ _ _ _ (by intro e; injection e with _ e _; cases e)).trans f.1, f.2.2.1⟩
  have KN : Hid (∀ X, Below W0.heap.size W0 X → Calls Tryz.prog 32 #[.agg #[.bool b, .slice ra n0 rc, .slice a1 n1 c1, .slice a2 n2 c2, .int .i64 x, .int .i64 y]] X fun e w' => e = .returned (.int .i64 (emptI (emptyW d))) ∧ Below X.heap.size X w') := fun X hX => emptiness_w ((hc.below hb0).below hX) hs
  have KO : Hid (∀ X, Below W0.heap.size W0 X → Calls Tryz.prog 32 #[.agg #[.bool b', .slice ra' n0' rc', .slice a1' n1' c1', .slice a2' n2' c2', .int .i64 x', .int .i64 y']] X fun e w' => e = .returned (.int .i64 (emptI (emptyW o))) ∧ Below X.heap.size X w') := fun X hX => emptiness_w ((hco.below hb0).below hX) hs'
  have i1 := emptI_01 (emptyW d)
  have i2 := emptI_01 (emptyW o)
  generalize emptI (emptyW d) = q1 at *
  generalize emptI (emptyW o) = q2 at *
  obtain ⟨i1a, i1b⟩ := i1
  obtain ⟨i2a, i2b⟩ := i2
  generalize hE : st.e = ee at *
  have HEE : Hid _ := hE
  have HW0 : Hid _ := hW0
  have HB0 : Hid (Below W0.heap.size W0 W0.drew) := (Below.refl _ _).drew
  have HC : Hid (Dc _ W _ d) := hc
  have HB00 : Hid (Below W.heap.size W W0) := hb0
  have HH : Hid (Sto W p st _) := h
  clear hE hW0 h hz hr hth hco hc hvl hv hb0 hgd hs hs' hcap
  have hvi : (v : Int) < n := by omega
  have hw1 : IntKind.i64.wrap (q1 - q2) = q1 - q2 := wrap_small (by omega) (by omega)
  have hw2 : IntKind.i64.wrap (ee + (q1 - q2)) = ee + (q1 - q2) := wrap_small (by omega) (by omega)
  go_enter Tryz.func52, Tryz.ntmps52
  go_upto_region 1 with (fail)
  rw [HW0.out]
  apply wp_ways (R := fun w' => ∃ Y, Below W0.heap.size W0 Y ∧ w' = (Y.setCell ⟨p, 4, none⟩ (.int .i64 (ee + (q1 - q2)))))
  case h =>
    refine wp_region_held_drew (S := fun X : World => ∃ Y, Below W0.heap.size W0 Y ∧ (X = Y ∨ ∃ u, X = Y.setCell ⟨p, 4, none⟩ u)) (by kernel_rfl) (⟨_, HB0.out, .inl rfl⟩) (fun hHeld => ?_)
    refine wpAnyH_take (i := 0) (oi := { dst := some 6, op := Go.Op.move (Go.Operand.tmp 0), type := 25, pos := "store.go:109", after := #[], guard := none }) (v := ?_) rfl (by kernel_rfl) (by kernel_rfl) (by kernel_rfl) (fun _ _ _ h => h) (Or.inl ⟨by rfl, ?_⟩) hHeld ?_
    rotate_left
    · intro w hSw; (try dsimp only at hSw); go_simp <;> with_reducible rfl
    try simp only [Act.put, List.setIfInBounds_toArray, List.set_cons_zero, List.set_cons_succ]
    refine wpAnyH_take (i := 1) (oi := { dst := some 7, op := Go.Op.nilCheck (Go.Operand.tmp 6), type := 0, pos := "store.go:109", after := #[{ on := 0, ground := Go.Ground.data }], guard := none }) (v := ?_) rfl (by kernel_rfl) (by kernel_rfl) (by kernel_rfl) (fun _ _ _ h => h) (Or.inl ⟨by rfl, ?_⟩) hHeld ?_
    rotate_left
    · intro w hSw; (try dsimp only at hSw); go_simp <;> with_reducible rfl
    try simp only [Act.put, List.setIfInBounds_toArray, List.set_cons_zero, List.set_cons_succ]
    refine wpAnyH_take (i := 2) (oi := { dst := some 8, op := Go.Op.fieldAddr 68 (Go.Operand.tmp 7) 2, type := 0, pos := "store.go:109", after := #[{ on := 1, ground := Go.Ground.data }], guard := none }) (v := ?_) rfl (by kernel_rfl) (by kernel_rfl) (by kernel_rfl) (fun _ _ _ h => h) (Or.inl ⟨by rfl, ?_⟩) hHeld ?_
    rotate_left
    · intro w hSw; (try dsimp only at hSw); go_simp <;> with_reducible rfl
    try simp only [Act.put, List.setIfInBounds_toArray, List.set_cons_zero, List.set_cons_succ]
    refine wpAnyH_take (i := 4) (oi := { dst := some 10, op := Go.Op.load 37 (Go.Operand.tmp 5), type := 37, pos := "store.go:109", after := #[], guard := none }) (v := ?_) rfl (by kernel_rfl) (by kernel_rfl) (by kernel_rfl) (fun _ _ _ h => h) (Or.inl ⟨by rfl, ?_⟩) hHeld ?_
    rotate_left
    · intro w hSw; obtain ⟨y3, ⟨⟨y0, y1, y2, y31, y4, y5⟩, ⟨u0, u1, u2, u3, u4, u5⟩⟩⟩ := FACTS2 w hSw; go_simp <;> with_reducible rfl
    try simp only [Act.put, List.setIfInBounds_toArray, List.set_cons_zero, List.set_cons_succ]
    refine wpAnyH_take (i := 6) (oi := { dst := some 12, op := Go.Op.move (Go.Operand.tmp 0), type := 25, pos := "store.go:109", after := #[], guard := none }) (v := ?_) rfl (by kernel_rfl) (by kernel_rfl) (by kernel_rfl) (fun _ _ _ h => h) (Or.inl ⟨by rfl, ?_⟩) hHeld ?_
    rotate_left
    · intro w hSw; (try dsimp only at hSw); go_simp <;> with_reducible rfl
    try simp only [Act.put, List.setIfInBounds_toArray, List.set_cons_zero, List.set_cons_succ]
    refine wpAnyH_take (i := 7) (oi := { dst := some 13, op := Go.Op.nilCheck (Go.Operand.tmp 12), type := 0, pos := "store.go:109", after := #[{ on := 6, ground := Go.Ground.data }], guard := none }) (v := ?_) rfl (by kernel_rfl) (by kernel_rfl) (by kernel_rfl) (fun _ _ _ h => h) (Or.inl ⟨by rfl, ?_⟩) hHeld ?_
    rotate_left
    · intro w hSw; (try dsimp only at hSw); go_simp <;> with_reducible rfl
    try simp only [Act.put, List.setIfInBounds_toArray, List.set_cons_zero, List.set_cons_succ]
    refine wpAnyH_take (i := 8) (oi := { dst := some 14, op := Go.Op.fieldAddr 68 (Go.Operand.tmp 13) 1, type := 0, pos := "store.go:109", after := #[{ on := 7, ground := Go.Ground.data }], guard := none }) (v := ?_) rfl (by kernel_rfl) (by kernel_rfl) (by kernel_rfl) (fun _ _ _ h => h) (Or.inl ⟨by rfl, ?_⟩) hHeld ?_
    rotate_left
    · intro w hSw; (try dsimp only at hSw); go_simp <;> with_reducible rfl
    try simp only [Act.put, List.setIfInBounds_toArray, List.set_cons_zero, List.set_cons_succ]
    refine wpAnyH_take (i := 9) (oi := { dst := some 15, op := Go.Op.load 22 (Go.Operand.tmp 14), type := 22, pos := "store.go:109", after := #[{ on := 8, ground := Go.Ground.data }], guard := none }) (v := ?_) rfl (by kernel_rfl) (by kernel_rfl) (by kernel_rfl) (fun _ _ _ h => h) (Or.inl ⟨by rfl, ?_⟩) hHeld ?_
    rotate_left
    · intro w hSw; obtain ⟨y3, ⟨⟨y0, y1, y2, y31, y4, y5⟩, ⟨u0, u1, u2, u3, u4, u5⟩⟩⟩ := FACTS2 w hSw; go_simp <;> with_reducible rfl
    try simp only [Act.put, List.setIfInBounds_toArray, List.set_cons_zero, List.set_cons_succ]
    refine wpAnyH_take (i := 10) (oi := { dst := some 16, op := Go.Op.move (Go.Operand.tmp 1), type := 3, pos := "store.go:109", after := #[], guard := none }) (v := ?_) rfl (by kernel_rfl) (by kernel_rfl) (by kernel_rfl) (fun _ _ _ h => h) (Or.inl ⟨by rfl, ?_⟩) hHeld ?_
    rotate_left
    · intro w hSw; (try dsimp only at hSw); go_simp <;> with_reducible rfl
    try simp only [Act.put, List.setIfInBounds_toArray, List.set_cons_zero, List.set_cons_succ]
    refine wpAnyH_take (i := 11) (oi := { dst := some 17, op := Go.Op.indexAddr 22 (Go.Operand.tmp 15) (Go.Operand.tmp 16), type := 0, pos := "store.go:109", after := #[{ on := 9, ground := Go.Ground.data }, { on := 10, ground := Go.Ground.data }], guard := none }) (v := ?_) rfl (by kernel_rfl) (by kernel_rfl) (by kernel_rfl) (fun _ _ _ h => h) (Or.inl ⟨by rfl, ?_⟩) hHeld ?_
    rotate_left
    · intro w hSw; (try dsimp only at hSw); go_simp <;> with_reducible rfl
    try simp only [Act.put, List.setIfInBounds_toArray, List.set_cons_zero, List.set_cons_succ]
    refine wpAnyH_take (i := 12) (oi := { dst := some 18, op := Go.Op.load 37 (Go.Operand.tmp 17), type := 37, pos := "store.go:109", after := #[{ on := 11, ground := Go.Ground.data }], guard := none }) (v := ?_) rfl (by kernel_rfl) (by kernel_rfl) (by kernel_rfl) (fun _ _ _ h => h) (Or.inl ⟨by rfl, ?_⟩) hHeld ?_
    rotate_left
    · intro w hSw; obtain ⟨y3, ⟨⟨y0, y1, y2, y31, y4, y5⟩, ⟨u0, u1, u2, u3, u4, u5⟩⟩⟩ := FACTS2 w hSw; go_simp <;> with_reducible rfl
    try simp only [Act.put, List.setIfInBounds_toArray, List.set_cons_zero, List.set_cons_succ]
    refine wpAnyH_ready (rs := [3, 5]) (by kernel_rfl) (by simp) ?_
    refine AllReadyH.cons rfl (fun K hK => ?_) ?_
    · have z4 := (FACTS _ HB0.out).2.1
      go_simp
      clear z4
      refine hK.out _ _ (⟨_, HB0.out, .inl rfl⟩) (fun hHeld2 => ?_)
      clear hK K hHeld
      have hHeld := hHeld2
      clear hHeld2
      try simp only [Act.put, List.setIfInBounds_toArray, List.set_cons_zero, List.set_cons_succ]
      refine wpAnyH_ready (rs := [5]) (by kernel_rfl) (by simp) ?_
      refine AllReadyH.cons rfl (fun K hK => ?_) AllReadyH.nil
      go_simp
      refine (KN.out _ HB0.out).mono ?_
      rintro e w1 ⟨rfl, hb⟩
      have HB1 : Hid (Below W0.heap.size W0 w1) := HB0.out.trans (hb.mono HB0.out.size)
      clear hb
      refine hK.out _ _ (⟨_, HB1.out, .inl rfl⟩) (fun hHeld2 => ?_)
      clear hK K hHeld
      have hHeld := hHeld2
      clear hHeld2
      try simp only [Act.put, List.setIfInBounds_toArray, List.set_cons_zero, List.set_cons_succ]
      refine wpAnyH_ready (rs := [13]) (by kernel_rfl) (by simp) ?_
      refine AllReadyH.cons rfl (fun K hK => ?_) AllReadyH.nil
      go_simp
      refine (KO.out _ HB1.out).mono ?_
      rintro e w2 ⟨rfl, hb⟩
      have HB2 : Hid (Below W0.heap.size W0 w2) := HB1.out.trans (hb.mono HB1.out.size)
      clear hb
      refine hK.out _ _ (⟨_, HB2.out, .inl rfl⟩) (fun hHeld2 => ?_)
      clear hK K hHeld
      have hHeld := hHeld2
      clear hHeld2
      try simp only [Act.put, List.setIfInBounds_toArray, List.set_cons_zero, List.set_cons_succ]
      refine wpAnyH_take (i := 14) (oi := { dst := some 20, op := Go.Op.binOp Go.BinOp.sub 3 (Go.Operand.tmp 11) (Go.Operand.tmp 19) 3, type := 3, pos := "store.go:109", after := #[{ on := 5, ground := Go.Ground.data }, { on := 13, ground := Go.Ground.data }], guard := none }) (v := ?_) rfl (by kernel_rfl) (by kernel_rfl) (by kernel_rfl) (fun _ _ _ h => h) (Or.inl ⟨by rfl, ?_⟩) hHeld ?_
      rotate_left
      · intro w hSw; (try dsimp only at hSw); go_simp <;> with_reducible rfl
      try simp only [Act.put, List.setIfInBounds_toArray, List.set_cons_zero, List.set_cons_succ]
      refine wpAnyH_take (i := 15) (oi := { dst := some 21, op := Go.Op.binOp Go.BinOp.add 3 (Go.Operand.tmp 9) (Go.Operand.tmp 20) 3, type := 3, pos := "store.go:109", after := #[{ on := 3, ground := Go.Ground.data }, { on := 14, ground := Go.Ground.data }], guard := none }) (v := ?_) rfl (by kernel_rfl) (by kernel_rfl) (by kernel_rfl) (fun _ _ _ h => h) (Or.inl ⟨by rfl, ?_⟩) hHeld ?_
      rotate_left
      · intro w hSw; (try dsimp only at hSw); go_simp <;> with_reducible rfl
      try simp only [Act.put, List.setIfInBounds_toArray, List.set_cons_zero, List.set_cons_succ]
      refine wpAnyH_take (i := 16) (oi := { dst := some 22, op := Go.Op.nilCheck (Go.Operand.tmp 6), type := 0, pos := "store.go:109", after := #[{ on := 0, ground := Go.Ground.data }, { on := 0, ground := Go.Ground.phase }, { on := 1, ground := Go.Ground.phase }, { on := 2, ground := Go.Ground.phase }, { on := 3, ground := Go.Ground.phase }, { on := 4, ground := Go.Ground.phase }, { on := 5, ground := Go.Ground.phase }, { on := 6, ground := Go.Ground.phase }, { on := 7, ground := Go.Ground.phase }, { on := 8, ground := Go.Ground.phase }, { on := 9, ground := Go.Ground.phase }, { on := 10, ground := Go.Ground.phase }, { on := 11, ground := Go.Ground.phase }, { on := 12, ground := Go.Ground.phase }, { on := 13, ground := Go.Ground.phase }, { on := 14, ground := Go.Ground.phase }, { on := 15, ground := Go.Ground.phase }], guard := none }) (v := ?_) rfl (by kernel_rfl) (by kernel_rfl) (by kernel_rfl) (fun _ _ _ h => h) (Or.inl ⟨by rfl, ?_⟩) hHeld ?_
      rotate_left
      · intro w hSw; (try dsimp only at hSw); go_simp <;> with_reducible rfl
      try simp only [Act.put, List.setIfInBounds_toArray, List.set_cons_zero, List.set_cons_succ]
      refine wpAnyH_take (i := 17) (oi := { dst := some 23, op := Go.Op.fieldAddr 68 (Go.Operand.tmp 22) 2, type := 0, pos := "store.go:109", after := #[{ on := 16, ground := Go.Ground.data }, { on := 0, ground := Go.Ground.phase }, { on := 1, ground := Go.Ground.phase }, { on := 2, ground := Go.Ground.phase }, { on := 3, ground := Go.Ground.phase }, { on := 4, ground := Go.Ground.phase }, { on := 5, ground := Go.Ground.phase }, { on := 6, ground := Go.Ground.phase }, { on := 7, ground := Go.Ground.phase }, { on := 8, ground := Go.Ground.phase }, { on := 9, ground := Go.Ground.phase }, { on := 10, ground := Go.Ground.phase }, { on := 11, ground := Go.Ground.phase }, { on := 12, ground := Go.Ground.phase }, { on := 13, ground := Go.Ground.phase }, { on := 14, ground := Go.Ground.phase }, { on := 15, ground := Go.Ground.phase }], guard := none }) (v := ?_) rfl (by kernel_rfl) (by kernel_rfl) (by kernel_rfl) (fun _ _ _ h => h) (Or.inl ⟨by rfl, ?_⟩) hHeld ?_
      rotate_left
      · intro w hSw; (try dsimp only at hSw); go_simp <;> with_reducible rfl
      try simp only [Act.put, List.setIfInBounds_toArray, List.set_cons_zero, List.set_cons_succ]
      refine wpAnyH_ready (rs := [18]) (by kernel_rfl) (by simp) ?_
      refine AllReadyH.cons rfl (fun K hK => ?_) AllReadyH.nil
      have z4 := (FACTS _ HB2.out).2.1
      have zf := (FACTS _ HB2.out).2.2.2
      go_simp
      clear z4 zf
      refine hK.out _ _ (⟨_, HB2.out, .inr ⟨_, rfl⟩⟩) (fun hHeld2 => ?_)
      clear hK K hHeld
      have hHeld := hHeld2
      clear hHeld2
      try simp only [Act.put, List.setIfInBounds_toArray, List.set_cons_zero, List.set_cons_succ]
      refine wpAnyH_done (by kernel_rfl) ?_ _
      exact ⟨rfl, _, HB2.out, rfl⟩
    refine AllReadyH.cons rfl (fun K hK => ?_) ?_
    · go_simp
      refine (KN.out _ HB0.out).mono ?_
      rintro e w1 ⟨rfl, hb⟩
      have HB1 : Hid (Below W0.heap.size W0 w1) := HB0.out.trans (hb.mono HB0.out.size)
      clear hb
      refine hK.out _ _ (⟨_, HB1.out, .inl rfl⟩) (fun hHeld2 => ?_)
      clear hK K hHeld
      have hHeld := hHeld2
      clear hHeld2
      try simp only [Act.put, List.setIfInBounds_toArray, List.set_cons_zero, List.set_cons_succ]
      refine wpAnyH_ready (rs := [3, 13]) (by kernel_rfl) (by simp) ?_
      refine AllReadyH.cons rfl (fun K hK => ?_) ?_
      · have z4 := (FACTS _ HB1.out).2.1
        go_simp
        clear z4
        refine hK.out _ _ (⟨_, HB1.out, .inl rfl⟩) (fun hHeld2 => ?_)
        clear hK K hHeld
        have hHeld := hHeld2
        clear hHeld2
        try simp only [Act.put, List.setIfInBounds_toArray, List.set_cons_zero, List.set_cons_succ]
        refine wpAnyH_ready (rs := [13]) (by kernel_rfl) (by simp) ?_
        refine AllReadyH.cons rfl (fun K hK => ?_) AllReadyH.nil
        go_simp
        refine (KO.out _ HB1.out).mono ?_
        rintro e w2 ⟨rfl, hb⟩
        have HB2 : Hid (Below W0.heap.size W0 w2) := HB1.out.trans (hb.mono HB1.out.size)
        clear hb
        refine hK.out _ _ (⟨_, HB2.out, .inl rfl⟩) (fun hHeld2 => ?_)
        clear hK K hHeld
        have hHeld := hHeld2
        clear hHeld2
        try simp only [Act.put, List.setIfInBounds_toArray, List.set_cons_zero, List.set_cons_succ]
        refine wpAnyH_take (i := 14) (oi := { dst := some 20, op := Go.Op.binOp Go.BinOp.sub 3 (Go.Operand.tmp 11) (Go.Operand.tmp 19) 3, type := 3, pos := "store.go:109", after := #[{ on := 5, ground := Go.Ground.data }, { on := 13, ground := Go.Ground.data }], guard := none }) (v := ?_) rfl (by kernel_rfl) (by kernel_rfl) (by kernel_rfl) (fun _ _ _ h => h) (Or.inl ⟨by rfl, ?_⟩) hHeld ?_
        rotate_left
        · intro w hSw; (try dsimp only at hSw); go_simp <;> with_reducible rfl
        try simp only [Act.put, List.setIfInBounds_toArray, List.set_cons_zero, List.set_cons_succ]
        refine wpAnyH_take (i := 15) (oi := { dst := some 21, op := Go.Op.binOp Go.BinOp.add 3 (Go.Operand.tmp 9) (Go.Operand.tmp 20) 3, type := 3, pos := "store.go:109", after := #[{ on := 3, ground := Go.Ground.data }, { on := 14, ground := Go.Ground.data }], guard := none }) (v := ?_) rfl (by kernel_rfl) (by kernel_rfl) (by kernel_rfl) (fun _ _ _ h => h) (Or.inl ⟨by rfl, ?_⟩) hHeld ?_
        rotate_left
        · intro w hSw; (try dsimp only at hSw); go_simp <;> with_reducible rfl
        try simp only [Act.put, List.setIfInBounds_toArray, List.set_cons_zero, List.set_cons_succ]
        refine wpAnyH_take (i := 16) (oi := { dst := some 22, op := Go.Op.nilCheck (Go.Operand.tmp 6), type := 0, pos := "store.go:109", after := #[{ on := 0, ground := Go.Ground.data }, { on := 0, ground := Go.Ground.phase }, { on := 1, ground := Go.Ground.phase }, { on := 2, ground := Go.Ground.phase }, { on := 3, ground := Go.Ground.phase }, { on := 4, ground := Go.Ground.phase }, { on := 5, ground := Go.Ground.phase }, { on := 6, ground := Go.Ground.phase }, { on := 7, ground := Go.Ground.phase }, { on := 8, ground := Go.Ground.phase }, { on := 9, ground := Go.Ground.phase }, { on := 10, ground := Go.Ground.phase }, { on := 11, ground := Go.Ground.phase }, { on := 12, ground := Go.Ground.phase }, { on := 13, ground := Go.Ground.phase }, { on := 14, ground := Go.Ground.phase }, { on := 15, ground := Go.Ground.phase }], guard := none }) (v := ?_) rfl (by kernel_rfl) (by kernel_rfl) (by kernel_rfl) (fun _ _ _ h => h) (Or.inl ⟨by rfl, ?_⟩) hHeld ?_
        rotate_left
        · intro w hSw; (try dsimp only at hSw); go_simp <;> with_reducible rfl
        try simp only [Act.put, List.setIfInBounds_toArray, List.set_cons_zero, List.set_cons_succ]
        refine wpAnyH_take (i := 17) (oi := { dst := some 23, op := Go.Op.fieldAddr 68 (Go.Operand.tmp 22) 2, type := 0, pos := "store.go:109", after := #[{ on := 16, ground := Go.Ground.data }, { on := 0, ground := Go.Ground.phase }, { on := 1, ground := Go.Ground.phase }, { on := 2, ground := Go.Ground.phase }, { on := 3, ground := Go.Ground.phase }, { on := 4, ground := Go.Ground.phase }, { on := 5, ground := Go.Ground.phase }, { on := 6, ground := Go.Ground.phase }, { on := 7, ground := Go.Ground.phase }, { on := 8, ground := Go.Ground.phase }, { on := 9, ground := Go.Ground.phase }, { on := 10, ground := Go.Ground.phase }, { on := 11, ground := Go.Ground.phase }, { on := 12, ground := Go.Ground.phase }, { on := 13, ground := Go.Ground.phase }, { on := 14, ground := Go.Ground.phase }, { on := 15, ground := Go.Ground.phase }], guard := none }) (v := ?_) rfl (by kernel_rfl) (by kernel_rfl) (by kernel_rfl) (fun _ _ _ h => h) (Or.inl ⟨by rfl, ?_⟩) hHeld ?_
        rotate_left
        · intro w hSw; (try dsimp only at hSw); go_simp <;> with_reducible rfl
        try simp only [Act.put, List.setIfInBounds_toArray, List.set_cons_zero, List.set_cons_succ]
        refine wpAnyH_ready (rs := [18]) (by kernel_rfl) (by simp) ?_
        refine AllReadyH.cons rfl (fun K hK => ?_) AllReadyH.nil
        have z4 := (FACTS _ HB2.out).2.1
        have zf := (FACTS _ HB2.out).2.2.2
        go_simp
        clear z4 zf
        refine hK.out _ _ (⟨_, HB2.out, .inr ⟨_, rfl⟩⟩) (fun hHeld2 => ?_)
        clear hK K hHeld
        have hHeld := hHeld2
        clear hHeld2
        try simp only [Act.put, List.setIfInBounds_toArray, List.set_cons_zero, List.set_cons_succ]
        refine wpAnyH_done (by kernel_rfl) ?_ _
        exact ⟨rfl, _, HB2.out, rfl⟩
      refine AllReadyH.cons rfl (fun K hK => ?_) ?_
      · go_simp
        refine (KO.out _ HB1.out).mono ?_
        rintro e w2 ⟨rfl, hb⟩
        have HB2 : Hid (Below W0.heap.size W0 w2) := HB1.out.trans (hb.mono HB1.out.size)
        clear hb
        refine hK.out _ _ (⟨_, HB2.out, .inl rfl⟩) (fun hHeld2 => ?_)
        clear hK K hHeld
        have hHeld := hHeld2
        clear hHeld2
        try simp only [Act.put, List.setIfInBounds_toArray, List.set_cons_zero, List.set_cons_succ]
        refine wpAnyH_take (i := 14) (oi := { dst := some 20, op := Go.Op.binOp Go.BinOp.sub 3 (Go.Operand.tmp 11) (Go.Operand.tmp 19) 3, type := 3, pos := "store.go:109", after := #[{ on := 5, ground := Go.Ground.data }, { on := 13, ground := Go.Ground.data }], guard := none }) (v := ?_) rfl (by kernel_rfl) (by kernel_rfl) (by kernel_rfl) (fun _ _ _ h => h) (Or.inl ⟨by rfl, ?_⟩) hHeld ?_
        rotate_left
        · intro w hSw; (try dsimp only at hSw); go_simp <;> with_reducible rfl
        try simp only [Act.put, List.setIfInBounds_toArray, List.set_cons_zero, List.set_cons_succ]
        refine wpAnyH_ready (rs := [3]) (by kernel_rfl) (by simp) ?_
        refine AllReadyH.cons rfl (fun K hK => ?_) AllReadyH.nil
        have z4 := (FACTS _ HB2.out).2.1
        go_simp
        clear z4
        refine hK.out _ _ (⟨_, HB2.out, .inl rfl⟩) (fun hHeld2 => ?_)
        clear hK K hHeld
        have hHeld := hHeld2
        clear hHeld2
        try simp only [Act.put, List.setIfInBounds_toArray, List.set_cons_zero, List.set_cons_succ]
        refine wpAnyH_take (i := 15) (oi := { dst := some 21, op := Go.Op.binOp Go.BinOp.add 3 (Go.Operand.tmp 9) (Go.Operand.tmp 20) 3, type := 3, pos := "store.go:109", after := #[{ on := 3, ground := Go.Ground.data }, { on := 14, ground := Go.Ground.data }], guard := none }) (v := ?_) rfl (by kernel_rfl) (by kernel_rfl) (by kernel_rfl) (fun _ _ _ h => h) (Or.inl ⟨by rfl, ?_⟩) hHeld ?_
        rotate_left
        · intro w hSw; (try dsimp only at hSw); go_simp <;> with_reducible rfl
        try simp only [Act.put, List.setIfInBounds_toArray, List.set_cons_zero, List.set_cons_succ]
        refine wpAnyH_take (i := 16) (oi := { dst := some 22, op := Go.Op.nilCheck (Go.Operand.tmp 6), type := 0, pos := "store.go:109", after := #[{ on := 0, ground := Go.Ground.data }, { on := 0, ground := Go.Ground.phase }, { on := 1, ground := Go.Ground.phase }, { on := 2, ground := Go.Ground.phase }, { on := 3, ground := Go.Ground.phase }, { on := 4, ground := Go.Ground.phase }, { on := 5, ground := Go.Ground.phase }, { on := 6, ground := Go.Ground.phase }, { on := 7, ground := Go.Ground.phase }, { on := 8, ground := Go.Ground.phase }, { on := 9, ground := Go.Ground.phase }, { on := 10, ground := Go.Ground.phase }, { on := 11, ground := Go.Ground.phase }, { on := 12, ground := Go.Ground.phase }, { on := 13, ground := Go.Ground.phase }, { on := 14, ground := Go.Ground.phase }, { on := 15, ground := Go.Ground.phase }], guard := none }) (v := ?_) rfl (by kernel_rfl) (by kernel_rfl) (by kernel_rfl) (fun _ _ _ h => h) (Or.inl ⟨by rfl, ?_⟩) hHeld ?_
        rotate_left
        · intro w hSw; (try dsimp only at hSw); go_simp <;> with_reducible rfl
        try simp only [Act.put, List.setIfInBounds_toArray, List.set_cons_zero, List.set_cons_succ]
        refine wpAnyH_take (i := 17) (oi := { dst := some 23, op := Go.Op.fieldAddr 68 (Go.Operand.tmp 22) 2, type := 0, pos := "store.go:109", after := #[{ on := 16, ground := Go.Ground.data }, { on := 0, ground := Go.Ground.phase }, { on := 1, ground := Go.Ground.phase }, { on := 2, ground := Go.Ground.phase }, { on := 3, ground := Go.Ground.phase }, { on := 4, ground := Go.Ground.phase }, { on := 5, ground := Go.Ground.phase }, { on := 6, ground := Go.Ground.phase }, { on := 7, ground := Go.Ground.phase }, { on := 8, ground := Go.Ground.phase }, { on := 9, ground := Go.Ground.phase }, { on := 10, ground := Go.Ground.phase }, { on := 11, ground := Go.Ground.phase }, { on := 12, ground := Go.Ground.phase }, { on := 13, ground := Go.Ground.phase }, { on := 14, ground := Go.Ground.phase }, { on := 15, ground := Go.Ground.phase }], guard := none }) (v := ?_) rfl (by kernel_rfl) (by kernel_rfl) (by kernel_rfl) (fun _ _ _ h => h) (Or.inl ⟨by rfl, ?_⟩) hHeld ?_
        rotate_left
        · intro w hSw; (try dsimp only at hSw); go_simp <;> with_reducible rfl
        try simp only [Act.put, List.setIfInBounds_toArray, List.set_cons_zero, List.set_cons_succ]
        refine wpAnyH_ready (rs := [18]) (by kernel_rfl) (by simp) ?_
        refine AllReadyH.cons rfl (fun K hK => ?_) AllReadyH.nil
        have z4 := (FACTS _ HB2.out).2.1
        have zf := (FACTS _ HB2.out).2.2.2
        go_simp
        clear z4 zf
        refine hK.out _ _ (⟨_, HB2.out, .inr ⟨_, rfl⟩⟩) (fun hHeld2 => ?_)
        clear hK K hHeld
        have hHeld := hHeld2
        clear hHeld2
        try simp only [Act.put, List.setIfInBounds_toArray, List.set_cons_zero, List.set_cons_succ]
        refine wpAnyH_done (by kernel_rfl) ?_ _
        exact ⟨rfl, _, HB2.out, rfl⟩
      exact AllReadyH.nil
    exact AllReadyH.nil
  case hK =>
    rintro _ ⟨Y, HBY, rfl⟩
    have HST0 : Hid (Sto (Y.setCell ⟨p, 4, none⟩ (.int .i64 (ee + (q1 - q2)))).drew p { st with e := ee + (q1 - q2) } ⟨.slice sa k sc, .slice ma m mc, .slice ia n ic, .slice (some ⟨gd, 0, none⟩) n dc, .slice wa n wc⟩) := ((HS.out.below HBY).set_e _).below (Below.refl _ _).drew
    have HBX2 : Hid (Bx (Y.setCell ⟨p, 4, none⟩ (.int .i64 (ee + (q1 - q2)))).drew W.heap.size #[.bool b, .slice ra n0 rc, .slice a1 n1 c1, .slice a2 n2 c2, .int .i64 x, .int .i64 y] 37) := ((HBX.out.below HBY).setc HPW.out _ _).drew 1
    have HKZ : Hid (Kept (XS p ⟨.slice sa k sc, .slice ma m mc, .slice ia n ic, .slice (some ⟨gd, 0, none⟩) n dc, .slice wa n wc⟩) W (Y.setCell ⟨p, 4, none⟩ (.int .i64 (ee + (q1 - q2)))).drew) := (((Kept.of_below HB00.out).then_below HBY).setCell (.inl rfl) _ _).then_below (Below.refl _ _).drew
    have HCZ : Hid (Dc (XS p ⟨.slice sa k sc, .slice ma m mc, .slice ia n ic, .slice (some ⟨gd, 0, none⟩) n dc, .slice wa n wc⟩) (Y.setCell ⟨p, 4, none⟩ (.int .i64 (ee + (q1 - q2)))).drew [.bool b, .slice ra n0 rc, .slice a1 n1 c1, .slice a2 n2 c2, .int .i64 x, .int .i64 y] d) := HC.out.kept HKZ.out
    have HP3 : Hid (∀ o vs, ((Y.setCell ⟨p, 4, none⟩ (.int .i64 (ee + (q1 - q2)))).drew.setCells gd o vs).cell? ⟨p, 3, none⟩ = some (.slice (some ⟨gd, 0, none⟩) n dc)) := fun o vs => ((Kept.many (w := (Y.setCell ⟨p, 4, none⟩ (.int .i64 (ee + (q1 - q2)))).drew) rfl).cell HST0.out.p_lt HPG.out 3).trans HST0.out.cells.2.2.2.1
    have hp3 : (Y.setCell ⟨p, 4, none⟩ (.int .i64 (ee + (q1 - q2)))).drew.cell? ⟨p, 3, none⟩ = some (.slice (some ⟨gd, 0, none⟩) n dc) := HST0.out.cells.2.2.2.1
    have HFIN : Hid (Sto _ p _ _) := HST0.out.set_dom (i := v) HVL.out rfl HCZ.out
    have HTH : Hid ((Y.setCell ⟨p, 4, none⟩ (.int .i64 (ee + (q1 - q2)))).drew.there gd (v * 6) 6) := (HST0.out.dom_at HVO.out).elim fun g h => h.elim fun cp h => h.elim fun c h => by obtain ⟨e1, _, _, _, _, e6, _⟩ := h; injection e1 with e1 _ _; injection e1 with e1; injection e1 with e1 _ _; subst e1; exact e6
    clear HBY HB0 HB00 FACTS FACTS2 KN KO HS HBX HW0 hw1 hw2 HR0 hgd0
    generalize (Y.setCell ⟨p, 4, none⟩ (.int .i64 (ee + (q1 - q2)))) = wz at *
    clear Y W0
    go_upto_region 2 with (fail)
    refine wp_region_held_drew (S := fun X : World => X.cell? ⟨p, 3, none⟩ = some (.slice (some ⟨gd, 0, none⟩) n dc) ∧ Bx X W.heap.size #[.bool b, .slice ra n0 rc, .slice a1 n1 c1, .slice a2 n2 c2, .int .i64 x, .int .i64 y] 37) (by kernel_rfl) (⟨hp3, HBX2.out⟩) (fun hHeld => ?_)
    refine wpAnyH_take (i := 0) (oi := { dst := some 24, op := Go.Op.move (Go.Operand.tmp 0), type := 25, pos := "store.go:110", after := #[], guard := none }) (v := ?_) rfl (by kernel_rfl) (by kernel_rfl) (by kernel_rfl) (fun _ _ _ h => h) (Or.inl ⟨by rfl, ?_⟩) hHeld ?_
    rotate_left
    · intro w hSw; (try dsimp only at hSw); go_simp <;> with_reducible rfl
    try simp only [Act.put, List.setIfInBounds_toArray, List.set_cons_zero, List.set_cons_succ]
    refine wpAnyH_take (i := 1) (oi := { dst := some 25, op := Go.Op.nilCheck (Go.Operand.tmp 24), type := 0, pos := "store.go:110", after := #[{ on := 0, ground := Go.Ground.data }], guard := none }) (v := ?_) rfl (by kernel_rfl) (by kernel_rfl) (by kernel_rfl) (fun _ _ _ h => h) (Or.inl ⟨by rfl, ?_⟩) hHeld ?_
    rotate_left
    · intro w hSw; (try dsimp only at hSw); go_simp <;> with_reducible rfl
    try simp only [Act.put, List.setIfInBounds_toArray, List.set_cons_zero, List.set_cons_succ]
    refine wpAnyH_take (i := 2) (oi := { dst := some 26, op := Go.Op.fieldAddr 68 (Go.Operand.tmp 25) 1, type := 0, pos := "store.go:110", after := #[{ on := 1, ground := Go.Ground.data }], guard := none }) (v := ?_) rfl (by kernel_rfl) (by kernel_rfl) (by kernel_rfl) (fun _ _ _ h => h) (Or.inl ⟨by rfl, ?_⟩) hHeld ?_
    rotate_left
    · intro w hSw; (try dsimp only at hSw); go_simp <;> with_reducible rfl
    try simp only [Act.put, List.setIfInBounds_toArray, List.set_cons_zero, List.set_cons_succ]
    refine wpAnyH_take (i := 3) (oi := { dst := some 27, op := Go.Op.load 22 (Go.Operand.tmp 26), type := 22, pos := "store.go:110", after := #[{ on := 2, ground := Go.Ground.data }], guard := none }) (v := ?_) rfl (by kernel_rfl) (by kernel_rfl) (by kernel_rfl) (fun _ _ _ h => h) (Or.inl ⟨by rfl, ?_⟩) hHeld ?_
    rotate_left
    · intro w hSw; obtain ⟨y3, hbx⟩ := hSw; obtain ⟨y0, y1, y2, y31, y4, y5⟩ := hbx.six; go_simp <;> with_reducible rfl
    try simp only [Act.put, List.setIfInBounds_toArray, List.set_cons_zero, List.set_cons_succ]
    refine wpAnyH_take (i := 4) (oi := { dst := some 28, op := Go.Op.move (Go.Operand.tmp 1), type := 3, pos := "store.go:110", after := #[], guard := none }) (v := ?_) rfl (by kernel_rfl) (by kernel_rfl) (by kernel_rfl) (fun _ _ _ h => h) (Or.inl ⟨by rfl, ?_⟩) hHeld ?_
    rotate_left
    · intro w hSw; (try dsimp only at hSw); go_simp <;> with_reducible rfl
    try simp only [Act.put, List.setIfInBounds_toArray, List.set_cons_zero, List.set_cons_succ]
    refine wpAnyH_take (i := 5) (oi := { dst := some 29, op := Go.Op.load 37 (Go.Operand.tmp 5), type := 37, pos := "store.go:110", after := #[], guard := none }) (v := ?_) rfl (by kernel_rfl) (by kernel_rfl) (by kernel_rfl) (fun _ _ _ h => h) (Or.inl ⟨by rfl, ?_⟩) hHeld ?_
    rotate_left
    · intro w hSw; obtain ⟨y3, hbx⟩ := hSw; obtain ⟨y0, y1, y2, y31, y4, y5⟩ := hbx.six; go_simp <;> with_reducible rfl
    try simp only [Act.put, List.setIfInBounds_toArray, List.set_cons_zero, List.set_cons_succ]
    refine wpAnyH_take (i := 6) (oi := { dst := some 30, op := Go.Op.indexAddr 22 (Go.Operand.tmp 27) (Go.Operand.tmp 28), type := 0, pos := "store.go:110", after := #[{ on := 3, ground := Go.Ground.data }, { on := 4, ground := Go.Ground.data }, { on := 0, ground := Go.Ground.phase }, { on := 1, ground := Go.Ground.phase }, { on := 2, ground := Go.Ground.phase }, { on := 3, ground := Go.Ground.phase }, { on := 4, ground := Go.Ground.phase }, { on := 5, ground := Go.Ground.phase }], guard := none }) (v := ?_) rfl (by kernel_rfl) (by kernel_rfl) (by kernel_rfl) (fun _ _ _ h => h) (Or.inl ⟨by rfl, ?_⟩) hHeld ?_
    rotate_left
    · intro w hSw; (try dsimp only at hSw); go_simp <;> with_reducible rfl
    try simp only [Act.put, List.setIfInBounds_toArray, List.set_cons_zero, List.set_cons_succ]
    refine wpAnyH_ready (rs := [7]) (by kernel_rfl) (by simp) ?_
    refine AllReadyH.cons rfl (fun K hK => ?_) AllReadyH.nil
    refine stepM rfl 37 (.tmp 30) (.tmp 29) rfl gd (v * 6) [.bool b, .slice ra n0 rc, .slice a1 n1 c1, .slice a2 n2 c2, .int .i64 x, .int .i64 y] (by with_unfolding_all rfl) (by with_unfolding_all rfl) HTH.out Tryz.sizeDom (six_one _ _ _ _ _ _ _ _ _ _ _ _) ?_
    refine hK.out _ _ (⟨HP3.out _ _, HBX2.out.setcs (by have := HGD.out; omega) _ _⟩) (fun hHeld2 => ?_)
    clear hK K hHeld
    have hHeld := hHeld2
    clear hHeld2
    try simp only [Act.put, List.setIfInBounds_toArray, List.set_cons_zero, List.set_cons_succ]
    refine wpAnyH_done (by kernel_rfl) ?_ _
    refine ⟨rfl, _, results_none rfl _ _ _, rfl, HFIN.out, ?_⟩
    exact Kept.setCells HXG.out _ _ HKZ.out
end Go.Proofs.YtghnfnieppfhgaaGreat

namespace Go.Proofs.YtghnfnieppfhgaaGreat
open Go.RowKit Go.Shelf
set_option linter.unusedVariables false
set_option linter.unusedSimpArgs false

theorem stepR {ops : Array Oper} {o : Oper} {a : Act} {w : World} {K : Act → World → Prop} {Q : Exit → Act → World → Prop} {E : Prop} {old : Array Value} {t : TypeId} (hgd : o.guard = none) (ty : TypeId) (x y : Operand) (ho : o.op = .store ty x y) (g : Nat) (c : List Value) (hx : a.eval x = .pointer (some ⟨g, 0, none⟩)) (hy : a.eval y = .agg c.toArray)
    (hg : Bx w g old t) (hold : old.size = 6) (hc : c.length = 6) (hi : (Tryz.prog.info? ty).map (·.size) = some 6) (h1 : ∀ v ∈ c, v.oneCell' = true) (h : K (a.put o.dst undef) (w.setRow g c.toArray)) : if Region.wanted o (yielded ops a.tmps) = true then Oper.wp Tryz.prog o a w K Q else E := by
  have hw : Region.wanted o (yielded ops a.tmps) = true := by simp [Region.wanted, hgd]
  rw [if_pos hw]
  unfold Oper.wp execOp
  simp only [ho, hx, hy, Instr.storeAt, Instr.sureAddr, Sem.run_bind, Sem.run_pure, Result.andThen_ok, run_storeVar_row w g t ty old c.toArray hg.h (by rw [hi]; simp [hc]) (by simp [hold, hc]) (all_oneCell_toArray h1)]
  exact h

set_option maxRecDepth 100000 in
set_option maxHeartbeats 4000000 in
theorem tight_w {X : Nat → Prop} {W : World} {c : List Value} {d : MD} (h : Dc X W c d) (hs : d.set = false) (hf : Dm.FitsR d.r) :
    Calls Tryz.prog 31 #[.agg c.toArray] W fun e w' => ∃ q : List Value, e = .returned (.agg q.toArray) ∧ (∀ Z : Nat → Prop, (∀ b, Z b → b < W.heap.size) → Dc Z w' q (bothW d d)) ∧ Below W.heap.size W w' := by
  obtain ⟨b, ra, n0, rc, a1, n1, c1, a2, n2, c2, x, y, rfl, HE, H1, H2, H3⟩ := h.look
  obtain rfl : b = false := by rw [← HE.out.1, hs]
  obtain ⟨bw, hbw⟩ : ∃ q, W.heap.size = q := ⟨_, rfl⟩
  obtain ⟨W0, hW0⟩ : ∃ Q, (W.alloc (Obj.cells #[.bool false, .slice ra n0 rc, .slice a1 n1 c1, .slice a2 n2 c2, .int .i64 x, .int .i64 y] 37)).alloc (Obj.cells #[.bool false, .slice none 0 0, .slice none 0 0, .slice none 0 0, .int .i64 0, .int .i64 0] 37) = Q := ⟨_, rfl⟩
  have hb0 : Below W.heap.size W W0 := by rw [← hW0]; exact (((Below.refl _ W).alloc (Nat.le_refl _) _).alloc (by simp) _)
  have HBX : Hid (Bx W0 bw #[.bool false, .slice ra n0 rc, .slice a1 n1 c1, .slice a2 n2 c2, .int .i64 x, .int .i64 y] 37) := by rw [← hW0]; exact (Bx.new' hbw _ _).alloc _
  have HRX : Hid (Bx W0 (bw + 1) #[.bool false, .slice none 0 0, .slice none 0 0, .slice none 0 0, .int .i64 0, .int .i64 0] 37) := by rw [← hW0]; exact Bx.new' (by simp [hbw]) _ _
  have hC := h.below hb0
  have KN : Hid (∀ X, Below W0.heap.size W0 X → Calls Tryz.prog 49 #[.agg #[.bool false, .slice ra n0 rc, .slice a1 n1 c1, .slice a2 n2 c2, .int .i64 x, .int .i64 y]] X fun e w' => e = .returned (.func (.func 74) #[.agg #[.bool false, .slice ra n0 rc, .slice a1 n1 c1, .slice a2 n2 c2, .int .i64 x, .int .i64 y]] #[]) ∧ Below X.heap.size X w') := fun X hX => narrower_w (hC.below hX) hs
  have KW : Hid (∀ X, Below W0.heap.size W0 X → Calls Tryz.prog 74 #[.agg #[.bool false, .slice ra n0 rc, .slice a1 n1 c1, .slice a2 n2 c2, .int .i64 x, .int .i64 y], .agg #[.bool false, .slice ra n0 rc, .slice a1 n1 c1, .slice a2 n2 c2, .int .i64 x, .int .i64 y]] X fun e w' => ∃ q : List Value, e = .returned (.agg q.toArray) ∧ (∀ Z : Nat → Prop, (∀ b, Z b → b < X.heap.size) → Dc Z w' q (bothW d d)) ∧ Below X.heap.size X w') := fun X hX => with_w (hC.below hX) (hC.below hX) hs hs hf hf
  have HB00 : Hid (Below W.heap.size W W0) := hb0
  have HB0 : Hid (Below W0.heap.size W0 W0.drew) := (Below.refl _ _).drew
  have HW0 : Hid _ := hW0
  have HBW : Hid (W.heap.size = bw) := hbw
  have HX0 : Hid _ := HBX.out.drew 1
  clear hW0 hbw hb0 hC h hs hf H1 H2 H3 HE
  go_enter Tryz.func31, Tryz.ntmps31
  go_upto_region 1 with (fail)
  rw [HW0.out, HBW.out]
  refine wp_region_held_drew (S := fun X : World => Bx X bw #[.bool false, .slice ra n0 rc, .slice a1 n1 c1, .slice a2 n2 c2, .int .i64 x, .int .i64 y] 37) (by kernel_rfl) (HX0.out) (fun hHeld => ?_)
  refine wpAnyH_take (i := 0) (oi := { dst := some 3, op := Go.Op.load 37 (Go.Operand.tmp 1), type := 37, pos := "kinds.go:38", after := #[], guard := none }) (v := ?_) rfl (by kernel_rfl) (by kernel_rfl) (by kernel_rfl) (fun _ _ _ h => h) (Or.inl ⟨by rfl, ?_⟩) hHeld ?_
  rotate_left
  · intro w hSw; obtain ⟨y0, y1, y2, y3, y4, y5⟩ := hSw.six; go_simp <;> with_reducible rfl
  try simp only [Act.put, List.setIfInBounds_toArray, List.set_cons_zero, List.set_cons_succ]
  refine wpAnyH_take (i := 2) (oi := { dst := some 5, op := Go.Op.load 37 (Go.Operand.tmp 1), type := 37, pos := "kinds.go:38", after := #[], guard := none }) (v := ?_) rfl (by kernel_rfl) (by kernel_rfl) (by kernel_rfl) (fun _ _ _ h => h) (Or.inl ⟨by rfl, ?_⟩) hHeld ?_
  rotate_left
  · intro w hSw; obtain ⟨y0, y1, y2, y3, y4, y5⟩ := hSw.six; go_simp <;> with_reducible rfl
  try simp only [Act.put, List.setIfInBounds_toArray, List.set_cons_zero, List.set_cons_succ]
  refine wpAnyH_ready (rs := [1]) (by kernel_rfl) (by simp) ?_
  refine AllReadyH.cons rfl (fun K hK => ?_) AllReadyH.nil
  go_simp
  refine (KN.out _ HB0.out).mono ?_
  rintro e w1 ⟨rfl, hb⟩
  have HB1 : Hid (Below W0.heap.size W0 w1) := HB0.out.trans (hb.mono HB0.out.size)
  clear hb
  refine hK.out _ _ ((HBX.out.below HB1.out)) (fun hHeld2 => ?_)
  clear hK K hHeld
  have hHeld := hHeld2
  clear hHeld2
  try simp only [Act.put, List.setIfInBounds_toArray, List.set_cons_zero, List.set_cons_succ]
  refine wpAnyH_ready (rs := [3]) (by kernel_rfl) (by simp) ?_
  refine AllReadyH.cons rfl (fun K hK => ?_) AllReadyH.nil
  go_simp
  refine (KW.out _ HB1.out).mono ?_
  rintro e w2 ⟨q, rfl, hq, hb⟩
  have HQ : Hid _ := hq
  have HB2 : Hid (Below W0.heap.size W0 w2) := HB1.out.trans (hb.mono HB1.out.size)
  have HS12 : Hid (w1.heap.size ≤ w2.heap.size) := hb.size
  clear hb hq
  refine hK.out _ _ ((HBX.out.below HB2.out)) (fun hHeld2 => ?_)
  clear hK K hHeld
  have hHeld := hHeld2
  clear hHeld2
  try simp only [Act.put, List.setIfInBounds_toArray, List.set_cons_zero, List.set_cons_succ]
  refine wpAnyH_ready (rs := [4]) (by kernel_rfl) (by simp) ?_
  refine AllReadyH.cons rfl (fun K hK => ?_) AllReadyH.nil
  have HR2 : Hid (Bx w2 (bw + 1) #[.bool false, .slice none 0 0, .slice none 0 0, .slice none 0 0, .int .i64 0, .int .i64 0] 37) := HRX.out.below HB2.out
  have HDc : Hid (Dc (fun _ => False) w2 q (bothW d d)) := HQ.out _ (fun _ q => q.elim)
  refine stepR rfl 37 (.tmp 2) (.tmp 6) rfl (bw + 1) q (by with_unfolding_all rfl) (by with_unfolding_all rfl) HR2.out (by rfl) HDc.out.len Tryz.sizeDom HDc.out.one ?_
  refine hK.out _ _ (((HBX.out.below HB2.out).setRow_ne (by omega) _)) (fun hHeld2 => ?_)
  clear hK K hHeld
  have hHeld := hHeld2
  clear hHeld2
  try simp only [Act.put, List.setIfInBounds_toArray, List.set_cons_zero, List.set_cons_succ]
  refine wpAnyH_done (by kernel_rfl) ?_ _
  go_wp2
  refine ⟨rfl, _, resD rfl _ (HR2.out.setRow _) HDc.out.len (by with_unfolding_all rfl), q, rfl, fun Z hZ => ?_, below_row (HB00.out.trans (HB2.out.mono HB00.out.size)) (by have := HBW.out; omega) _⟩
  refine (HQ.out (fun b => b < w1.heap.size) (fun b q => q)).go ⟨rfl, rfl, rfl, by simp [World.setRow], fun b _ hb => setRow_other w2 _ b _ (by intro e; apply hb; have := HRX.out.lt; have := HB1.out.size; omega)⟩ (fun b hb => .inl ?_)
  have := hZ b hb; have := HB00.out.size; have := HB1.out.size; show b < w1.heap.size; omega

set_option maxRecDepth 100000 in
set_option maxHeartbeats 4000000 in
theorem change_fix {X Y : Nat → Prop} {W : World} {c k : List Value} {d o : MD} (h : Dc X W c d) (h' : Dc Y W k o) (hs : d.set = false) (hs' : o.set = false) (hf' : Dm.FitsR o.r) (ho : (onlyW o).2 = true) :
    Calls Tryz.prog 54 #[.agg c.toArray, .agg k.toArray] W fun e w' => e = .returned (.int .i64 1) ∧ Below W.heap.size W w' := by
  obtain ⟨b, ra, n0, rc, a1, n1, c1, a2, n2, c2, x, y, rfl, HE, H1, H2, H3⟩ := h.look
  obtain rfl : b = false := by rw [← HE.out.1, hs]
  obtain ⟨b', ra', n0', rc', a1', n1', c1', a2', n2', c2', x', y', rfl, HE', H1', H2', H3'⟩ := h'.look
  obtain rfl : b' = false := by rw [← HE'.out.1, hs']
  obtain ⟨W0, hW0⟩ : ∃ Q, (W.alloc (Obj.cells #[.bool false, .slice ra n0 rc, .slice a1 n1 c1, .slice a2 n2 c2, .int .i64 x, .int .i64 y] 37)).alloc (Obj.cells #[.bool false, .slice ra' n0' rc', .slice a1' n1' c1', .slice a2' n2' c2', .int .i64 x', .int .i64 y'] 37) = Q := ⟨_, rfl⟩
  have hb0 : Below W.heap.size W W0 := by rw [← hW0]; exact (((Below.refl _ W).alloc (Nat.le_refl _) _).alloc (by simp) _)
  have ko := only_w (h'.below hb0) hs' hf'
  rw [ho] at ko
  have HW0 : Hid _ := hW0
  clear hW0 h h' hs hs' hf' ho H1 H2 H3 HE H1' H2' H3' HE'
  generalize (onlyW o).1 = z at *
  go_enter Tryz.func54, Tryz.ntmps54
  go_wp2_with fail
  rw [HW0.out]
  refine ko.mono ?_
  clear ko
  rintro e w1 ⟨rfl, hb1⟩
  have hb2 : Below W.heap.size W w1 := hb0.trans (hb1.mono hb0.size)
  go_wp2
  go_ret
  exact ⟨rfl, hb2.alloc hb2.size _⟩
end Go.Proofs.YtghnfnieppfhgaaGreat
