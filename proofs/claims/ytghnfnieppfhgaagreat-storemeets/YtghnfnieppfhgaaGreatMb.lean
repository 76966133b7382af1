/-
  What is proved here: store.put, tight and Narrow of any domain that becomes smaller.
-/
import Derived.Test.YtghnfnieppfhgaaGreatAa
import Derived.Test.YtghnfnieppfhgaaGreatMa
import Derived.Test.YtghnfnieppfhgaaGreatKij
import Derived.Test.YtghnfnieppfhgaaGreatKgj
namespace Go.Proofs.YtghnfnieppfhgaaGreat
open Go.RowKit Go.Shelf
set_option linter.unusedVariables false
set_option linter.unusedSimpArgs false

abbrev oMb0 : Oper := ⟨some 20, .binOp .sub 3 (.tmp 11) (.tmp 19) 3, 3, "store.go:109", #[⟨5, .data⟩, ⟨13, .data⟩], none⟩
abbrev oMb1 : Oper := ⟨some 21, .binOp .add 3 (.tmp 9) (.tmp 20) 3, 3, "store.go:109", #[⟨3, .data⟩, ⟨14, .data⟩], none⟩
abbrev oMb2 : Oper := ⟨some 22, .nilCheck (.tmp 6), 0, "store.go:109", #[⟨0, .data⟩, ⟨0, .phase⟩, ⟨1, .phase⟩, ⟨2, .phase⟩, ⟨3, .phase⟩, ⟨4, .phase⟩, ⟨5, .phase⟩, ⟨6, .phase⟩, ⟨7, .phase⟩, ⟨8, .phase⟩, ⟨9, .phase⟩, ⟨10, .phase⟩, ⟨11, .phase⟩, ⟨12, .phase⟩, ⟨13, .phase⟩, ⟨14, .phase⟩, ⟨15, .phase⟩], none⟩
abbrev oMb3 : Oper := ⟨some 23, .fieldAddr 68 (.tmp 22) 2, 0, "store.go:109", #[⟨16, .data⟩, ⟨0, .phase⟩, ⟨1, .phase⟩, ⟨2, .phase⟩, ⟨3, .phase⟩, ⟨4, .phase⟩, ⟨5, .phase⟩, ⟨6, .phase⟩, ⟨7, .phase⟩, ⟨8, .phase⟩, ⟨9, .phase⟩, ⟨10, .phase⟩, ⟨11, .phase⟩, ⟨12, .phase⟩, ⟨13, .phase⟩, ⟨14, .phase⟩, ⟨15, .phase⟩], none⟩
abbrev oMb4 : Oper := ⟨some 19, .load 37 (.tmp 5), 37, "store.go:88", #[], none⟩
abbrev oMb5 : Oper := ⟨some 21, .unOp .not 4 (.tmp 20), 4, "store.go:88", #[⟨1, .data⟩], none⟩
abbrev oMb6 : Oper := ⟨some 22, .move (.tmp 21), 4, "store.go:88", #[⟨2, .data⟩, ⟨1, .chain⟩], none⟩
abbrev oMb7 : Oper := ⟨some 23, .fieldAddr 37 (.tmp 5) 0, 0, "store.go:88", #[⟨3, .guard⟩], some (3, false)⟩
abbrev oMb8 : Oper := ⟨some 24, .load 4 (.tmp 23), 4, "store.go:88", #[⟨4, .data⟩, ⟨3, .guard⟩], some (3, false)⟩
abbrev oMb9 : Oper := ⟨some 25, .move (.tmp 0), 25, "store.go:88", #[⟨3, .guard⟩], some (3, false)⟩
abbrev oMb10 : Oper := ⟨some 26, .nilCheck (.tmp 25), 0, "store.go:88", #[⟨6, .data⟩, ⟨3, .guard⟩], some (3, false)⟩
abbrev oMb11 : Oper := ⟨some 27, .fieldAddr 68 (.tmp 26) 1, 0, "store.go:88", #[⟨7, .data⟩, ⟨3, .guard⟩], some (3, false)⟩
abbrev oMb12 : Oper := ⟨some 28, .load 22 (.tmp 27), 22, "store.go:88", #[⟨8, .data⟩, ⟨3, .guard⟩], some (3, false)⟩
abbrev oMb13 : Oper := ⟨some 29, .move (.tmp 1), 3, "store.go:88", #[⟨3, .guard⟩], some (3, false)⟩
abbrev oMb14 : Oper := ⟨some 30, .indexAddr 22 (.tmp 28) (.tmp 29), 0, "store.go:88", #[⟨9, .data⟩, ⟨10, .data⟩, ⟨3, .guard⟩], some (3, false)⟩
abbrev oMb15 : Oper := ⟨some 31, .fieldAddr 37 (.tmp 30) 0, 0, "store.go:88", #[⟨11, .data⟩, ⟨3, .guard⟩], some (3, false)⟩
abbrev oMb16 : Oper := ⟨some 32, .load 4 (.tmp 31), 4, "store.go:88", #[⟨12, .data⟩, ⟨3, .guard⟩], some (3, false)⟩
abbrev oMb17 : Oper := ⟨some 33, .binOp .neq 4 (.tmp 24) (.tmp 32) 4, 4, "store.go:88", #[⟨5, .data⟩, ⟨13, .data⟩, ⟨3, .guard⟩], some (3, false)⟩
abbrev oMb18 : Oper := ⟨some 34, .pick (.tmp 22) (.const (.bool true)) (.tmp 33), 4, "store.go:88", #[⟨3, .data⟩, ⟨14, .data⟩], none⟩
abbrev oMb19 : Oper := ⟨some 18, .assign (.tmp 34), 4, "store.go:88", #[⟨15, .data⟩, ⟨3, .chain⟩], none⟩
abbrev oMb20 : Oper := ⟨some 45, .load 37 (.tmp 8), 37, "store.go:94", #[], none⟩
abbrev oMb21 : Oper := ⟨some 47, .load 37 (.tmp 5), 37, "store.go:94", #[], none⟩
abbrev oMb22 : Oper := ⟨some 52, .move (.tmp 0), 25, "store.go:98", #[], none⟩
abbrev oMb23 : Oper := ⟨some 53, .nilCheck (.tmp 52), 0, "store.go:98", #[⟨0, .data⟩], none⟩
abbrev oMb24 : Oper := ⟨some 54, .fieldAddr 68 (.tmp 53) 0, 0, "store.go:98", #[⟨1, .data⟩], none⟩
abbrev oMb25 : Oper := ⟨some 55, .move (.tmp 1), 3, "store.go:98", #[], none⟩
abbrev oMb26 : Oper := ⟨some 56, .load 37 (.tmp 8), 37, "store.go:98", #[], none⟩
theorem with_sz {X Y : Nat → Prop} {W : World} {c k : List Value} {d o : MD} (h : Dc X W c d) (h' : Dc Y W k o) (hs : d.set = true) :
    Calls Tryz.prog 73 #[.agg c.toArray, .agg k.toArray] W fun e w' => ∃ q : List Value, e = .returned (.agg q.toArray) ∧ (∀ Z : Nat → Prop, (∀ b, Z b → b < W.heap.size) → Dc Z w' q (bothA d o)) ∧ Below W.heap.size W w' := by
  have e : bothA d o = ofSD (St.bothD (sdM d) (sdM o)) := by unfold bothA; rw [if_pos hs]
  rw [e]
  exact (with_s h h' hs).mono fun e w' ⟨q, h1, h2, h3⟩ => ⟨q, h1, h2.dc, h3⟩
theorem with_wz {X Y : Nat → Prop} {W : World} {c k : List Value} {d o : MD} (h : Dc X W c d) (h' : Dc Y W k o) (hs : d.set = false) (hs' : o.set = false) (hf : Dm.FitsR d.r) (hf' : Dm.FitsR o.r) :
    Calls Tryz.prog 74 #[.agg c.toArray, .agg k.toArray] W fun e w' => ∃ q : List Value, e = .returned (.agg q.toArray) ∧ (∀ Z : Nat → Prop, (∀ b, Z b → b < W.heap.size) → Dc Z w' q (bothA d o)) ∧ Below W.heap.size W w' := by
  have e : bothA d o = bothW d o := by unfold bothA; rw [if_neg (by rw [hs]; decide)]
  rw [e]
  exact with_w h h' hs hs' hf hf'
theorem bothD_right (a b : St.SD) : St.RightD (St.bothD a b) := by
  rw [St.bothD_G]
  have hA := St.taken_right a
  have hB := St.taken_right b
  unfold St.bothG
  split
  · rename_i hsub
    have hsub' := (St.subB_iff _ _).1 hsub
    have hm := St.meet_set hA.2.2.2.1 (St.takenD b).up
    exact St.tight_right _ _ (St.join_set hA.2.2.1 hB.2.2.1 hm hsub') hm hsub'
  · exact St.none_right
theorem bothA_set (a b : MD) : (bothA a b).set = a.set := by
  unfold bothA
  cases hs : a.set
  · simp only [Bool.false_eq_true, if_false]; rfl
  · simp only [if_true]; exact (bothD_right _ _).1

set_option maxRecDepth 100000 in
set_option maxHeartbeats 4000000 in
theorem put_d [Gh] {W : World} {p : Nat} {st : StM} {sl : Sl} {c : List Value} {d : MD} (h : Sto W p st sl) (hc : Dc (XS p sl) W c d) (v : Nat) {o : MD} (hv : st.D[v]? = some o) (he : -1000000 ≤ st.e) (he' : st.e ≤ 1000000) (hz : Sz st) :
    Calls Tryz.prog 52 #[ptr p, .int .i64 v, .agg c.toArray] W fun e w' => e = .returned (.tuple #[]) ∧ Sto w' p { st with e := st.e + (emptI (emptyA d) - emptI (emptyA o)), D := st.D.set v d } sl ∧ Kept (XS p sl) W w' := by
  have hvl : v < st.D.length := (List.getElem?_eq_some_iff.1 hv).1
  obtain ⟨n, k, m, sa, sc, ma, mc, ia, ic, da, dc, wa, wc, rfl, HL⟩ := h.look
  obtain ⟨gd, cap, c', e1, hgd, hcap, hcm, hr, hth, hco⟩ := h.dom_at hv
  injection e1 with e1 e2 e3
  subst e1 e3
  clear e2
  have hvn : v < n := by rw [← HL.out.1]; exact hvl
  have hn1 : n ≤ 1000 := by rw [← HL.out.1]; exact hz.1
  have hcap' : n ≤ dc := by rw [← HL.out.1]; exact hcap
  obtain ⟨b, ra, n0, rc, a1, n1, c1, a2, n2, c2, x, y, ec, HE, H1, H2, H3⟩ := hc.look
  obtain ⟨b', ra', n0', rc', a1', n1', c1', a2', n2', c2', x', y', ec', HE', H1', H2', H3'⟩ := hco.look
  subst ec ec'
  obtain ⟨W0, hW0⟩ : ∃ Q, W.alloc (Obj.cells #[.bool b, .slice ra n0 rc, .slice a1 n1 c1, .slice a2 n2 c2, .int .i64 x, .int .i64 y] 37) = Q := ⟨_, rfl⟩
  have hb0 : Below W.heap.size W W0 := by rw [← hW0]; exact (Below.refl _ W).alloc (Nat.le_refl _) _
  have HBX : Hid (Bx W0 W.heap.size #[.bool b, .slice ra n0 rc, .slice a1 n1 c1, .slice a2 n2 c2, .int .i64 x, .int .i64 y] 37) := by rw [← hW0]; exact Bx.new _ _ _
  have HS := hid (h.below hb0)
  have HR0 : Hid (W0.rangeAt gd (v * 6) _) := fun j u hu => (hb0.cell (p := ⟨gd, v * 6 + j, none⟩) hgd).trans (hr j u hu)
  have hgd0 : gd < W0.heap.size := Nat.lt_of_lt_of_le hgd hb0.size
  have HPG : Hid (p ≠ gd) := fun e => by
    obtain ⟨cs, hd, _⟩ := h.doms
    exact hd.nep h.blk (by decide) (by rw [e]; rfl)
  have HPW : Hid (W.heap.size ≠ p) := by have := h.p_lt; rw [Hid]; omega
  have HGD : Hid (gd < W.heap.size) := hgd
  have HVL : Hid (v < st.D.length) := hvl
  have HVO : Hid (st.D[v]? = some o) := hv
  have HXG : Hid (XS p ⟨.slice sa k sc, .slice ma m mc, .slice ia n ic, .slice (some ⟨gd, 0, none⟩) n dc, .slice wa n wc⟩ gd) := .inr (.inr (.inr (.inr (.inl rfl))))
  have FACTS : ∀ X, Below W0.heap.size W0 X → X.cell? ⟨p, 3, none⟩ = some (.slice (some ⟨gd, 0, none⟩) n dc) ∧ X.cell? ⟨p, 4, none⟩ = some (.int .i64 st.e) ∧ ((X.cell? ⟨W.heap.size, 0, none⟩ = some (.bool b) ∧ X.cell? ⟨W.heap.size, 1, none⟩ = some (.slice ra n0 rc) ∧ X.cell? ⟨W.heap.size, 2, none⟩ = some (.slice a1 n1 c1) ∧ X.cell? ⟨W.heap.size, 3, none⟩ = some (.slice a2 n2 c2) ∧ X.cell? ⟨W.heap.size, 4, none⟩ = some (.int .i64 x) ∧ X.cell? ⟨W.heap.size, 5, none⟩ = some (.int .i64 y)) ∧
      (X.cell? ⟨gd, v * 6, none⟩ = some (.bool b') ∧ X.cell? ⟨gd, v * 6 + 1, none⟩ = some (.slice ra' n0' rc') ∧ X.cell? ⟨gd, v * 6 + 2, none⟩ = some (.slice a1' n1' c1') ∧ X.cell? ⟨gd, v * 6 + 3, none⟩ = some (.slice a2' n2' c2') ∧ X.cell? ⟨gd, v * 6 + 4, none⟩ = some (.int .i64 x') ∧ X.cell? ⟨gd, v * 6 + 5, none⟩ = some (.int .i64 y'))) ∧ X.frozen? ⟨p, 4, none⟩ = false := by
    intro X hX
    obtain ⟨z0, z1, z2, z3, z4, z5, zf⟩ := (HS.out.below hX).cells
    exact ⟨z3, z4, ⟨(HBX.out.below hX).six, rng6 fun j u hu => (hX.cell (p := ⟨gd, v * 6 + j, none⟩) hgd0).trans (HR0.out j u hu)⟩, zf 4⟩
  have FACTS2 : ∀ X, (∃ Y, Below W0.heap.size W0 Y ∧ (X = Y ∨ ∃ u, X = Y.setCell ⟨p, 4, none⟩ u)) → X.cell? ⟨p, 3, none⟩ = some (.slice (some ⟨gd, 0, none⟩) n dc) ∧ ((X.cell? ⟨W.heap.size, 0, none⟩ = some (.bool b) ∧ X.cell? ⟨W.heap.size, 1, none⟩ = some (.slice ra n0 rc) ∧ X.cell? ⟨W.heap.size, 2, none⟩ = some (.slice a1 n1 c1) ∧ X.cell? ⟨W.heap.size, 3, none⟩ = some (.slice a2 n2 c2) ∧ X.cell? ⟨W.heap.size, 4, none⟩ = some (.int .i64 x) ∧ X.cell? ⟨W.heap.size, 5, none⟩ = some (.int .i64 y)) ∧
      (X.cell? ⟨gd, v * 6, none⟩ = some (.bool b') ∧ X.cell? ⟨gd, v * 6 + 1, none⟩ = some (.slice ra' n0' rc') ∧ X.cell? ⟨gd, v * 6 + 2, none⟩ = some (.slice a1' n1' c1') ∧ X.cell? ⟨gd, v * 6 + 3, none⟩ = some (.slice a2' n2' c2') ∧ X.cell? ⟨gd, v * 6 + 4, none⟩ = some (.int .i64 x') ∧ X.cell? ⟨gd, v * 6 + 5, none⟩ = some (.int .i64 y'))) := by
    intro X ⟨Y, hY, hX⟩
    have f := FACTS Y hY
    rcases hX with rfl | ⟨u, rfl⟩
    · exact ⟨f.1, f.2.2.1⟩
    · have hpp : p ≠ W.heap.size := by have := h.p_lt; omega
      have o1 : ∀ j, (Y.setCell ⟨p, 4, none⟩ u).cell? ⟨W.heap.size, j, none⟩ = Y.cell? ⟨W.heap.size, j, none⟩ := fun j => World.cell?_setCell_other _ _ _ _ (by intro e; injection e with e _ _; exact hpp e)
      have o2 : ∀ j, (Y.setCell ⟨p, 4, none⟩ u).cell? ⟨gd, j, none⟩ = Y.cell? ⟨gd, j, none⟩ := fun j => World.cell?_setCell_other _ _ _ _ (by intro e; injection e with e _ _; exact HPG.out e)
      simp only [o1, o2]
      exact ⟨(World.cell?_setCell_other _ _ _ _ (by intro e; injection e with _ e _; cases e)).trans f.1, f.2.2.1⟩
  have KN : Hid (∀ X, Below W0.heap.size W0 X → Calls Tryz.prog 32 #[.agg #[.bool b, .slice ra n0 rc, .slice a1 n1 c1, .slice a2 n2 c2, .int .i64 x, .int .i64 y]] X fun e w' => e = .returned (.int .i64 (emptI (emptyA d))) ∧ Below X.heap.size X w') := fun X hX => emptiness_d ((hc.below hb0).below hX)
  have KO : Hid (∀ X, Below W0.heap.size W0 X → Calls Tryz.prog 32 #[.agg #[.bool b', .slice ra' n0' rc', .slice a1' n1' c1', .slice a2' n2' c2', .int .i64 x', .int .i64 y']] X fun e w' => e = .returned (.int .i64 (emptI (emptyA o))) ∧ Below X.heap.size X w') := fun X hX => emptiness_d ((hco.below hb0).below hX)
  have i1 := emptI_01 (emptyA d)
  have i2 := emptI_01 (emptyA o)
  generalize emptI (emptyA d) = q1 at *
  generalize emptI (emptyA o) = q2 at *
  obtain ⟨i1a, i1b⟩ := i1
  obtain ⟨i2a, i2b⟩ := i2
  generalize hE : st.e = ee at *
  have HEE : Hid _ := hE
  have HW0 : Hid _ := hW0
  have HB0 : Hid (Below W0.heap.size W0 W0.drew) := (Below.refl _ _).drew
  have HC : Hid (Dc _ W _ d) := hc
  have HB00 : Hid (Below W.heap.size W W0) := hb0
  have HH : Hid (Sto W p st _) := h
  clear hE hW0 h hz hr hth hco hc hvl hv hb0 hgd hcap
  have hvi : (v : Int) < n := by omega
  have hw1 : IntKind.i64.wrap (q1 - q2) = q1 - q2 := wrap_small (by omega) (by omega)
  have hw2 : IntKind.i64.wrap (ee + (q1 - q2)) = ee + (q1 - q2) := wrap_small (by omega) (by omega)
  go_enter Tryz.func52, Tryz.ntmps52
  go_upto_region 1 with (fail)
  rw [HW0.out]
  apply wp_ways (R := fun w' => ∃ Y, Below W0.heap.size W0 Y ∧ w' = (Y.setCell ⟨p, 4, none⟩ (.int .i64 (ee + (q1 - q2)))))
  case h =>
    refine wp_region_held_drew (S := fun X : World => ∃ Y, Below W0.heap.size W0 Y ∧ (X = Y ∨ ∃ u, X = Y.setCell ⟨p, 4, none⟩ u)) (by kernel_rfl) (⟨_, HB0.out, .inl rfl⟩) (fun hHeld => ?_)
    refine tkA 0 ⟨some 6, .move (.tmp 0), 25, "store.go:109", #[], none⟩ hHeld ?_
    try simp only [Act.put, zS, z0, z1]
    refine tkA 1 ⟨some 7, .nilCheck (.tmp 6), 0, "store.go:109", #[⟨0, .data⟩], none⟩ hHeld ?_
    try simp only [Act.put, zS, z0, z1]
    refine tkA 2 ⟨some 8, .fieldAddr 68 (.tmp 7) 2, 0, "store.go:109", #[⟨1, .data⟩], none⟩ hHeld ?_
    try simp only [Act.put, zS, z0, z1]
    refine tkH 4 ⟨some 10, .load 37 (.tmp 5), 37, "store.go:109", #[], none⟩ (v := ?_) hHeld ?_ ?_; rotate_left
    · intro w hSw; obtain ⟨y3, ⟨⟨y0, y1, y2, y31, y4, y5⟩, ⟨u0, u1, u2, u3, u4, u5⟩⟩⟩ := FACTS2 w hSw; go_simp <;> with_reducible rfl
    try simp only [Act.put, zS, z0, z1]
    refine tkA 6 ⟨some 12, .move (.tmp 0), 25, "store.go:109", #[], none⟩ hHeld ?_
    try simp only [Act.put, zS, z0, z1]
    refine tkA 7 ⟨some 13, .nilCheck (.tmp 12), 0, "store.go:109", #[⟨6, .data⟩], none⟩ hHeld ?_
    try simp only [Act.put, zS, z0, z1]
    refine tkA 8 ⟨some 14, .fieldAddr 68 (.tmp 13) 1, 0, "store.go:109", #[⟨7, .data⟩], none⟩ hHeld ?_
    try simp only [Act.put, zS, z0, z1]
    refine tkH 9 ⟨some 15, .load 22 (.tmp 14), 22, "store.go:109", #[⟨8, .data⟩], none⟩ (v := ?_) hHeld ?_ ?_; rotate_left
    · intro w hSw; obtain ⟨y3, ⟨⟨y0, y1, y2, y31, y4, y5⟩, ⟨u0, u1, u2, u3, u4, u5⟩⟩⟩ := FACTS2 w hSw; go_simp <;> with_reducible rfl
    try simp only [Act.put, zS, z0, z1]
    refine tkA 10 ⟨some 16, .move (.tmp 1), 3, "store.go:109", #[], none⟩ hHeld ?_
    try simp only [Act.put, zS, z0, z1]
    refine tkA 11 ⟨some 17, .indexAddr 22 (.tmp 15) (.tmp 16), 0, "store.go:109", #[⟨9, .data⟩, ⟨10, .data⟩], none⟩ hHeld ?_
    try simp only [Act.put, zS, z0, z1]
    refine tkH 12 ⟨some 18, .load 37 (.tmp 17), 37, "store.go:109", #[⟨11, .data⟩], none⟩ (v := ?_) hHeld ?_ ?_; rotate_left
    · intro w hSw; obtain ⟨y3, ⟨⟨y0, y1, y2, y31, y4, y5⟩, ⟨u0, u1, u2, u3, u4, u5⟩⟩⟩ := FACTS2 w hSw; go_simp <;> with_reducible rfl
    try simp only [Act.put, zS, z0, z1]
    refine wpAnyH_ready (rs := [3, 5]) (by kernel_rfl) (by simp) ?_
    refine AllReadyH.cons rfl (fun K hK => ?_) ?_
    · have z4 := (FACTS _ HB0.out).2.1
      go_simp
      clear z4
      refine hK.out _ _ (⟨_, HB0.out, .inl rfl⟩) (fun hHeld2 => ?_)
      clear hK K hHeld; have hHeld := hHeld2; clear hHeld2
      try simp only [Act.put, zS, z0, z1]
      refine rdy 5 rfl fun K hK => ?_
      go_simp
      refine (KN.out _ HB0.out).mono ?_
      rintro e w1 ⟨rfl, hb⟩
      have HB1 := hid (HB0.out.trans (hb.mono HB0.out.size))
      clear hb
      refine hK.out _ _ (⟨_, HB1.out, .inl rfl⟩) (fun hHeld2 => ?_)
      clear hK K hHeld; have hHeld := hHeld2; clear hHeld2
      try simp only [Act.put, zS, z0, z1]
      refine rdy 13 rfl fun K hK => ?_
      go_simp
      refine (KO.out _ HB1.out).mono ?_
      rintro e w2 ⟨rfl, hb⟩
      have HB2 := hid (HB1.out.trans (hb.mono HB1.out.size))
      clear hb
      refine hK.out _ _ (⟨_, HB2.out, .inl rfl⟩) (fun hHeld2 => ?_)
      clear hK K hHeld; have hHeld := hHeld2; clear hHeld2
      try simp only [Act.put, zS, z0, z1]
      refine tkA 14 oMb0 hHeld ?_
      try simp only [oMb0, Act.put, zS, z0, z1]
      refine tkA 15 oMb1 hHeld ?_
      try simp only [oMb1, Act.put, zS, z0, z1]
      refine tkA 16 oMb2 hHeld ?_
      try simp only [oMb2, Act.put, zS, z0, z1]
      refine tkA 17 oMb3 hHeld ?_
      try simp only [oMb3, Act.put, zS, z0, z1]
      refine rdy 18 rfl fun K hK => ?_
      have z4 := (FACTS _ HB2.out).2.1
      have zf := (FACTS _ HB2.out).2.2.2
      go_simp
      clear z4 zf
      refine hK.out _ _ (⟨_, HB2.out, .inr ⟨_, rfl⟩⟩) (fun hHeld2 => ?_)
      clear hK K hHeld; have hHeld := hHeld2; clear hHeld2
      try simp only [Act.put, zS, z0, z1]
      refine wpAnyH_done (by kernel_rfl) ?_ _
      exact ⟨rfl, _, HB2.out, rfl⟩
    refine AllReadyH.cons rfl (fun K hK => ?_) ?_
    · go_simp
      refine (KN.out _ HB0.out).mono ?_
      rintro e w1 ⟨rfl, hb⟩
      have HB1 := hid (HB0.out.trans (hb.mono HB0.out.size))
      clear hb
      refine hK.out _ _ (⟨_, HB1.out, .inl rfl⟩) (fun hHeld2 => ?_)
      clear hK K hHeld; have hHeld := hHeld2; clear hHeld2
      try simp only [Act.put, zS, z0, z1]
      refine wpAnyH_ready (rs := [3, 13]) (by kernel_rfl) (by simp) ?_
      refine AllReadyH.cons rfl (fun K hK => ?_) ?_
      · have z4 := (FACTS _ HB1.out).2.1
        go_simp
        clear z4
        refine hK.out _ _ (⟨_, HB1.out, .inl rfl⟩) (fun hHeld2 => ?_)
        clear hK K hHeld; have hHeld := hHeld2; clear hHeld2
        try simp only [Act.put, zS, z0, z1]
        refine rdy 13 rfl fun K hK => ?_
        go_simp
        refine (KO.out _ HB1.out).mono ?_
        rintro e w2 ⟨rfl, hb⟩
        have HB2 := hid (HB1.out.trans (hb.mono HB1.out.size))
        clear hb
        refine hK.out _ _ (⟨_, HB2.out, .inl rfl⟩) (fun hHeld2 => ?_)
        clear hK K hHeld; have hHeld := hHeld2; clear hHeld2
        try simp only [Act.put, zS, z0, z1]
        refine tkA 14 oMb0 hHeld ?_
        try simp only [oMb0, Act.put, zS, z0, z1]
        refine tkA 15 oMb1 hHeld ?_
        try simp only [oMb1, Act.put, zS, z0, z1]
        refine tkA 16 oMb2 hHeld ?_
        try simp only [oMb2, Act.put, zS, z0, z1]
        refine tkA 17 oMb3 hHeld ?_
        try simp only [oMb3, Act.put, zS, z0, z1]
        refine rdy 18 rfl fun K hK => ?_
        have z4 := (FACTS _ HB2.out).2.1
        have zf := (FACTS _ HB2.out).2.2.2
        go_simp
        clear z4 zf
        refine hK.out _ _ (⟨_, HB2.out, .inr ⟨_, rfl⟩⟩) (fun hHeld2 => ?_)
        clear hK K hHeld; have hHeld := hHeld2; clear hHeld2
        try simp only [Act.put, zS, z0, z1]
        refine wpAnyH_done (by kernel_rfl) ?_ _
        exact ⟨rfl, _, HB2.out, rfl⟩
      refine AllReadyH.cons rfl (fun K hK => ?_) ?_
      · go_simp
        refine (KO.out _ HB1.out).mono ?_
        rintro e w2 ⟨rfl, hb⟩
        have HB2 := hid (HB1.out.trans (hb.mono HB1.out.size))
        clear hb
        refine hK.out _ _ (⟨_, HB2.out, .inl rfl⟩) (fun hHeld2 => ?_)
        clear hK K hHeld; have hHeld := hHeld2; clear hHeld2
        try simp only [Act.put, zS, z0, z1]
        refine tkA 14 oMb0 hHeld ?_
        try simp only [oMb0, Act.put, zS, z0, z1]
        refine rdy 3 rfl fun K hK => ?_
        have z4 := (FACTS _ HB2.out).2.1
        go_simp
        clear z4
        refine hK.out _ _ (⟨_, HB2.out, .inl rfl⟩) (fun hHeld2 => ?_)
        clear hK K hHeld; have hHeld := hHeld2; clear hHeld2
        try simp only [Act.put, zS, z0, z1]
        refine tkA 15 oMb1 hHeld ?_
        try simp only [oMb1, Act.put, zS, z0, z1]
        refine tkA 16 oMb2 hHeld ?_
        try simp only [oMb2, Act.put, zS, z0, z1]
        refine tkA 17 oMb3 hHeld ?_
        try simp only [oMb3, Act.put, zS, z0, z1]
        refine rdy 18 rfl fun K hK => ?_
        have z4 := (FACTS _ HB2.out).2.1
        have zf := (FACTS _ HB2.out).2.2.2
        go_simp
        clear z4 zf
        refine hK.out _ _ (⟨_, HB2.out, .inr ⟨_, rfl⟩⟩) (fun hHeld2 => ?_)
        clear hK K hHeld; have hHeld := hHeld2; clear hHeld2
        try simp only [Act.put, zS, z0, z1]
        refine wpAnyH_done (by kernel_rfl) ?_ _
        exact ⟨rfl, _, HB2.out, rfl⟩
      exact AllReadyH.nil
    exact AllReadyH.nil
  case hK =>
    rintro _ ⟨Y, HBY, rfl⟩
    have HST0 : Hid (Sto (Y.setCell ⟨p, 4, none⟩ (.int .i64 (ee + (q1 - q2)))).drew p { st with e := ee + (q1 - q2) } ⟨.slice sa k sc, .slice ma m mc, .slice ia n ic, .slice (some ⟨gd, 0, none⟩) n dc, .slice wa n wc⟩) := ((HS.out.below HBY).set_e _).below (Below.refl _ _).drew
    have HBX2 : Hid (Bx (Y.setCell ⟨p, 4, none⟩ (.int .i64 (ee + (q1 - q2)))).drew W.heap.size #[.bool b, .slice ra n0 rc, .slice a1 n1 c1, .slice a2 n2 c2, .int .i64 x, .int .i64 y] 37) := ((HBX.out.below HBY).setc HPW.out _ _).drew 1
    have HKZ : Hid (Kept (XS p ⟨.slice sa k sc, .slice ma m mc, .slice ia n ic, .slice (some ⟨gd, 0, none⟩) n dc, .slice wa n wc⟩) W (Y.setCell ⟨p, 4, none⟩ (.int .i64 (ee + (q1 - q2)))).drew) := (((Kept.of_below HB00.out).then_below HBY).setCell (.inl rfl) _ _).then_below (Below.refl _ _).drew
    have HCZ := hid (HC.out.kept HKZ.out)
    have HP3 : Hid (∀ o vs, ((Y.setCell ⟨p, 4, none⟩ (.int .i64 (ee + (q1 - q2)))).drew.setCells gd o vs).cell? ⟨p, 3, none⟩ = some (.slice (some ⟨gd, 0, none⟩) n dc)) := fun o vs => ((Kept.many (w := (Y.setCell ⟨p, 4, none⟩ (.int .i64 (ee + (q1 - q2)))).drew) rfl).cell HST0.out.p_lt HPG.out 3).trans HST0.out.cells.2.2.2.1
    have hp3 : (Y.setCell ⟨p, 4, none⟩ (.int .i64 (ee + (q1 - q2)))).drew.cell? ⟨p, 3, none⟩ = some (.slice (some ⟨gd, 0, none⟩) n dc) := HST0.out.cells.2.2.2.1
    have HFIN : Hid (Sto _ p _ _) := HST0.out.set_dom (i := v) HVL.out rfl HCZ.out
    have HTH : Hid ((Y.setCell ⟨p, 4, none⟩ (.int .i64 (ee + (q1 - q2)))).drew.there gd (v * 6) 6) := (HST0.out.dom_at HVO.out).elim fun g h => h.elim fun cp h => h.elim fun c h => by obtain ⟨e1, _, _, _, _, e6, _⟩ := h; injection e1 with e1 _ _; injection e1 with e1; injection e1 with e1 _ _; subst e1; exact e6
    clear HBY HB0 HB00 FACTS FACTS2 KN KO HS HBX HW0 hw1 hw2 HR0 hgd0
    generalize (Y.setCell ⟨p, 4, none⟩ (.int .i64 (ee + (q1 - q2)))) = wz at *
    clear Y W0
    go_upto_region 2 with (fail)
    refine wp_region_held_drew (S := fun X : World => X.cell? ⟨p, 3, none⟩ = some (.slice (some ⟨gd, 0, none⟩) n dc) ∧ Bx X W.heap.size #[.bool b, .slice ra n0 rc, .slice a1 n1 c1, .slice a2 n2 c2, .int .i64 x, .int .i64 y] 37) (by kernel_rfl) (⟨hp3, HBX2.out⟩) (fun hHeld => ?_)
    refine tkA 0 ⟨some 24, .move (.tmp 0), 25, "store.go:110", #[], none⟩ hHeld ?_
    try simp only [Act.put, zS, z0, z1]
    refine tkA 1 ⟨some 25, .nilCheck (.tmp 24), 0, "store.go:110", #[⟨0, .data⟩], none⟩ hHeld ?_
    try simp only [Act.put, zS, z0, z1]
    refine tkA 2 ⟨some 26, .fieldAddr 68 (.tmp 25) 1, 0, "store.go:110", #[⟨1, .data⟩], none⟩ hHeld ?_
    try simp only [Act.put, zS, z0, z1]
    refine tkH 3 ⟨some 27, .load 22 (.tmp 26), 22, "store.go:110", #[⟨2, .data⟩], none⟩ (v := ?_) hHeld ?_ ?_; rotate_left
    · intro w hSw; obtain ⟨y3, hbx⟩ := hSw; obtain ⟨y0, y1, y2, y31, y4, y5⟩ := hbx.six; go_simp <;> with_reducible rfl
    try simp only [Act.put, zS, z0, z1]
    refine tkA 4 ⟨some 28, .move (.tmp 1), 3, "store.go:110", #[], none⟩ hHeld ?_
    try simp only [Act.put, zS, z0, z1]
    refine tkH 5 ⟨some 29, .load 37 (.tmp 5), 37, "store.go:110", #[], none⟩ (v := ?_) hHeld ?_ ?_; rotate_left
    · intro w hSw; obtain ⟨y3, hbx⟩ := hSw; obtain ⟨y0, y1, y2, y31, y4, y5⟩ := hbx.six; go_simp <;> with_reducible rfl
    try simp only [Act.put, zS, z0, z1]
    refine tkA 6 ⟨some 30, .indexAddr 22 (.tmp 27) (.tmp 28), 0, "store.go:110", #[⟨3, .data⟩, ⟨4, .data⟩, ⟨0, .phase⟩, ⟨1, .phase⟩, ⟨2, .phase⟩, ⟨3, .phase⟩, ⟨4, .phase⟩, ⟨5, .phase⟩], none⟩ hHeld ?_
    try simp only [Act.put, zS, z0, z1]
    refine rdy 7 rfl fun K hK => ?_
    refine stepM rfl 37 (.tmp 30) (.tmp 29) rfl gd (v * 6) [.bool b, .slice ra n0 rc, .slice a1 n1 c1, .slice a2 n2 c2, .int .i64 x, .int .i64 y] (by with_unfolding_all rfl) (by with_unfolding_all rfl) HTH.out Tryz.sizeDom (six_one _ _ _ _ _ _ _ _ _ _ _ _) ?_
    refine hK.out _ _ (⟨HP3.out _ _, HBX2.out.setcs (by have := HGD.out; omega) _ _⟩) (fun hHeld2 => ?_)
    clear hK K hHeld; have hHeld := hHeld2; clear hHeld2
    try simp only [Act.put, zS, z0, z1]
    refine wpAnyH_done (by kernel_rfl) ?_ _
    refine ⟨rfl, _, results_none rfl _ _ _, rfl, HFIN.out, ?_⟩
    exact Kept.setCells HXG.out _ _ HKZ.out

set_option maxRecDepth 100000 in
set_option maxHeartbeats 4000000 in
theorem tight_s {X : Nat → Prop} {W : World} {c : List Value} {d : MD} (h : Dc X W c d) (hs : d.set = true) :
    Calls Tryz.prog 31 #[.agg c.toArray] W fun e w' => ∃ q : List Value, e = .returned (.agg q.toArray) ∧ (∀ Z : Nat → Prop, (∀ b, Z b → b < W.heap.size) → Dc Z w' q (bothA d d)) ∧ Below W.heap.size W w' := by
  obtain ⟨b, ra, n0, rc, a1, n1, c1, a2, n2, c2, x, y, rfl, HE, H1, H2, H3⟩ := h.look
  obtain rfl : b = true := by rw [← HE.out.1, hs]
  obtain ⟨bw, hbw⟩ : ∃ q, W.heap.size = q := ⟨_, rfl⟩
  obtain ⟨W0, hW0⟩ : ∃ Q, (W.alloc (Obj.cells #[.bool true, .slice ra n0 rc, .slice a1 n1 c1, .slice a2 n2 c2, .int .i64 x, .int .i64 y] 37)).alloc (Obj.cells #[.bool false, .slice none 0 0, .slice none 0 0, .slice none 0 0, .int .i64 0, .int .i64 0] 37) = Q := ⟨_, rfl⟩
  have hb0 : Below W.heap.size W W0 := by rw [← hW0]; exact (((Below.refl _ W).alloc (Nat.le_refl _) _).alloc (by simp) _)
  have HBX : Hid (Bx W0 bw #[.bool true, .slice ra n0 rc, .slice a1 n1 c1, .slice a2 n2 c2, .int .i64 x, .int .i64 y] 37) := by rw [← hW0]; exact (Bx.new' hbw _ _).alloc _
  have HRX : Hid (Bx W0 (bw + 1) #[.bool false, .slice none 0 0, .slice none 0 0, .slice none 0 0, .int .i64 0, .int .i64 0] 37) := by rw [← hW0]; exact Bx.new' (by simp [hbw]) _ _
  have hC := h.below hb0
  have KN : Hid (∀ X, Below W0.heap.size W0 X → Calls Tryz.prog 49 #[.agg #[.bool true, .slice ra n0 rc, .slice a1 n1 c1, .slice a2 n2 c2, .int .i64 x, .int .i64 y]] X fun e w' => e = .returned (.func (.func 73) #[.agg #[.bool true, .slice ra n0 rc, .slice a1 n1 c1, .slice a2 n2 c2, .int .i64 x, .int .i64 y]] #[]) ∧ Below X.heap.size X w') := fun X hX => narrower_s (hC.below hX) hs
  have KW : Hid (∀ X, Below W0.heap.size W0 X → Calls Tryz.prog 73 #[.agg #[.bool true, .slice ra n0 rc, .slice a1 n1 c1, .slice a2 n2 c2, .int .i64 x, .int .i64 y], .agg #[.bool true, .slice ra n0 rc, .slice a1 n1 c1, .slice a2 n2 c2, .int .i64 x, .int .i64 y]] X fun e w' => ∃ q : List Value, e = .returned (.agg q.toArray) ∧ (∀ Z : Nat → Prop, (∀ b, Z b → b < X.heap.size) → Dc Z w' q (bothA d d)) ∧ Below X.heap.size X w') := fun X hX => with_sz (hC.below hX) (hC.below hX) hs
  have HB00 : Hid (Below W.heap.size W W0) := hb0
  have HB0 : Hid (Below W0.heap.size W0 W0.drew) := (Below.refl _ _).drew
  have HW0 : Hid _ := hW0
  have HBW : Hid (W.heap.size = bw) := hbw
  have HX0 : Hid _ := HBX.out.drew 1
  clear hW0 hbw hb0 hC h hs H1 H2 H3 HE
  go_enter Tryz.func31, Tryz.ntmps31
  go_upto_region 1 with (fail)
  rw [HW0.out, HBW.out]
  refine wp_region_held_drew (S := fun X : World => Bx X bw #[.bool true, .slice ra n0 rc, .slice a1 n1 c1, .slice a2 n2 c2, .int .i64 x, .int .i64 y] 37) (by kernel_rfl) (HX0.out) (fun hHeld => ?_)
  refine tkH 0 ⟨some 3, .load 37 (.tmp 1), 37, "kinds.go:38", #[], none⟩ (v := ?_) hHeld ?_ ?_; rotate_left
  · intro w hSw; obtain ⟨y0, y1, y2, y3, y4, y5⟩ := hSw.six; go_simp <;> with_reducible rfl
  try simp only [Act.put, zS, z0, z1]
  refine tkH 2 ⟨some 5, .load 37 (.tmp 1), 37, "kinds.go:38", #[], none⟩ (v := ?_) hHeld ?_ ?_; rotate_left
  · intro w hSw; obtain ⟨y0, y1, y2, y3, y4, y5⟩ := hSw.six; go_simp <;> with_reducible rfl
  try simp only [Act.put, zS, z0, z1]
  refine rdy 1 rfl fun K hK => ?_
  go_simp
  refine (KN.out _ HB0.out).mono ?_
  rintro e w1 ⟨rfl, hb⟩
  have HB1 := hid (HB0.out.trans (hb.mono HB0.out.size))
  clear hb
  refine hK.out _ _ ((HBX.out.below HB1.out)) (fun hHeld2 => ?_)
  clear hK K hHeld; have hHeld := hHeld2; clear hHeld2
  try simp only [Act.put, zS, z0, z1]
  refine rdy 3 rfl fun K hK => ?_
  go_simp
  refine (KW.out _ HB1.out).mono ?_
  rintro e w2 ⟨q, rfl, hq, hb⟩
  have HQ : Hid _ := hq
  have HB2 := hid (HB1.out.trans (hb.mono HB1.out.size))
  have HS12 : Hid (w1.heap.size ≤ w2.heap.size) := hb.size
  clear hb hq
  refine hK.out _ _ ((HBX.out.below HB2.out)) (fun hHeld2 => ?_)
  clear hK K hHeld; have hHeld := hHeld2; clear hHeld2
  try simp only [Act.put, zS, z0, z1]
  refine rdy 4 rfl fun K hK => ?_
  have HR2 := hid (HRX.out.below HB2.out)
  have HDc : Hid (Dc (fun _ => False) w2 q (bothA d d)) := HQ.out _ (fun _ q => q.elim)
  refine stepR rfl 37 (.tmp 2) (.tmp 6) rfl (bw + 1) q (by with_unfolding_all rfl) (by with_unfolding_all rfl) HR2.out (by rfl) HDc.out.len Tryz.sizeDom HDc.out.one ?_
  refine hK.out _ _ (((HBX.out.below HB2.out).setRow_ne (by omega) _)) (fun hHeld2 => ?_)
  clear hK K hHeld; have hHeld := hHeld2; clear hHeld2
  try simp only [Act.put, zS, z0, z1]
  refine wpAnyH_done (by kernel_rfl) ?_ _
  go_wp2
  refine ⟨rfl, _, resD rfl _ (HR2.out.setRow _) HDc.out.len (by with_unfolding_all rfl), q, rfl, fun Z hZ => ?_, below_row (HB00.out.trans (HB2.out.mono HB00.out.size)) (by have := HBW.out; omega) _⟩
  refine (HQ.out (fun b => b < w1.heap.size) (fun b q => q)).go ⟨rfl, rfl, rfl, by simp [World.setRow], fun b _ hb => setRow_other w2 _ b _ (by intro e; apply hb; have := HRX.out.lt; have := HB1.out.size; omega)⟩ (fun b hb => .inl ?_)
  have := hZ b hb; have := HB00.out.size; have := HB1.out.size; show b < w1.heap.size; omega
theorem tight_d {X : Nat → Prop} {W : World} {c : List Value} {d : MD} (h : Dc X W c d) (hf : Dm.FitsR d.r) :
    Calls Tryz.prog 31 #[.agg c.toArray] W fun e w' => ∃ q : List Value, e = .returned (.agg q.toArray) ∧ (∀ Z : Nat → Prop, (∀ b, Z b → b < W.heap.size) → Dc Z w' q (bothA d d)) ∧ Below W.heap.size W w' := by
  cases hs : d.set
  · have e : bothA d d = bothW d d := by unfold bothA; rw [if_neg (by rw [hs]; decide)]
    rw [e]
    exact tight_w h hs hf
  · exact tight_s h hs
def putA (st : StM) (v : Nat) (o nx : MD) : StM := { st with e := st.e + (emptI (emptyA nx) - emptI (emptyA o)), D := st.D.set v nx }
def narrowA (st : StM) (v : Nat) (o nx : MD) (chg : Int) : StM := if emptyA nx then putA (saveM st v o) v o nx else { putA (saveM st v o) v o nx with why := tellM (saveM st v o).why v chg }

set_option maxRecDepth 100000 in
set_option maxHeartbeats 4000000 in
theorem narrow_ch_n [Gh] {W : World} {p : Nat} {st : StM} {sl : Sl} {c : List Value} {d o : MD} (h : Sto W p st sl) (hc : Dc (XS p sl) W c d) (v : Nat) (hv : st.D[v]? = some o) (hs : d.set = false) (hs' : o.set = false) (hf : Dm.FitsR d.r) (hf' : Dm.FitsR o.r) (hfx : Dm.FitsR (bothA o d).r) (hR : rightM d = true) (he : st.e = 0) (ho : emptyA o = false) (hz : Sz st) (hzs : st.saved.length < 10000000)
    (hns : sameA o (bothA o d) = false) (chg : Int) (kch : emptyA (bothA o d) = false → ∀ (X Y : Nat → Prop) (w : World) (k k' : List Value), Dc X w k o → Dc Y w k' (bothA o d) → Calls Tryz.prog 54 #[.agg k.toArray, .agg k'.toArray] w fun e w' => e = .returned (.int .i64 chg) ∧ Below w.heap.size w w') :
    Calls Tryz.prog 14 #[ptr p, .int .i64 v, .agg c.toArray] W fun e w' => e = .returned (.tuple #[.int .i64 (if emptyA (bothA o d) then 2 else 1), .int .i64 0]) ∧ ∃ sl', Sto w' p (narrowA st v o (bothA o d) chg) sl' ∧ Up (XS p sl) (XS p sl') W ∧ Kept (XS p sl) W w' := by
  have hvl : v < st.D.length := (List.getElem?_eq_some_iff.1 hv).1
  obtain ⟨n, k, m, sa, sc, ma, mc, ia, ic, da, dc, wa, wc, rfl, HL⟩ := h.look
  obtain ⟨gd, cap, c', e1, hgd, hcap, hcm, hr, hth, hco⟩ := h.dom_at hv
  injection e1 with e1 e2 e3
  subst e1 e3
  clear e2
  have hvn : v < n := by rw [← HL.out.1]; exact hvl
  have hn1 : n ≤ 1000 := by rw [← HL.out.1]; exact hz.1
  obtain ⟨b, ra, n0, rc, a1, n1, c1, a2, n2, c2, x, y, ec, HE, H1, H2, H3⟩ := hc.look
  obtain ⟨b', ra', n0', rc', a1', n1', c1', a2', n2', c2', x', y', ec', HE', H1', H2', H3'⟩ := hco.look
  subst ec ec'
  obtain rfl : b = false := by rw [← HE.out.1, hs]
  obtain rfl : b' = false := by rw [← HE'.out.1, hs']
  obtain ⟨bw, hbw⟩ : ∃ q, W.heap.size = q := ⟨_, rfl⟩
  obtain ⟨W0, hW0⟩ : ∃ Q, W.alloc (Obj.cells #[.bool false, .slice ra n0 rc, .slice a1 n1 c1, .slice a2 n2 c2, .int .i64 x, .int .i64 y] 37) = Q := ⟨_, rfl⟩
  have hb0 : Below W.heap.size W W0 := by rw [← hW0]; exact (Below.refl _ W).alloc (Nat.le_refl _) _
  have HBX : Hid (Bx W0 bw #[.bool false, .slice ra n0 rc, .slice a1 n1 c1, .slice a2 n2 c2, .int .i64 x, .int .i64 y] 37) := by rw [← hW0]; exact Bx.new' hbw _ _
  have HS := hid (h.below hb0)
  have hgd0 : gd < W0.heap.size := Nat.lt_of_lt_of_le hgd hb0.size
  have HRG : Hid (∀ X, Below W0.heap.size W0 X → X.rangeAt gd (v * 6) [.bool false, .slice ra' n0' rc', .slice a1' n1' c1', .slice a2' n2' c2', .int .i64 x', .int .i64 y']) := fun X hX j u hu => (hX.cell (p := ⟨gd, v * 6 + j, none⟩) hgd0).trans ((hb0.cell (p := ⟨gd, v * 6 + j, none⟩) hgd).trans (hr j u hu))
  have HCD := hid (hc.below hb0)
  have HCO := hid (hco.below hb0)
  have KR : Hid (∀ X, Below W0.heap.size W0 X → Calls Tryz.prog 30 #[.agg #[.bool false, .slice ra n0 rc, .slice a1 n1 c1, .slice a2 n2 c2, .int .i64 x, .int .i64 y]] X fun e w' => e = .returned (.bool true) ∧ Below X.heap.size X w') := fun X hX => by have := right_d (HCD.out.below hX) hf; rw [hR] at this; exact this
  have kt := there_any HS.out hz v
  have htb : thereB st v = true := by unfold thereB; simp; exact hvl
  rw [htb] at kt
  have FS5 : Hid (∀ X, Below W0.heap.size W0 X → X.cell? ⟨p, 3, none⟩ = some (.slice (some ⟨gd, 0, none⟩) n dc) ∧ X.cell? ⟨gd, v * 6, none⟩ = some (.bool false) ∧ Bx X bw #[.bool false, .slice ra n0 rc, .slice a1 n1 c1, .slice a2 n2 c2, .int .i64 x, .int .i64 y] 37) := fun X hX => ⟨(HS.out.below hX).cells.2.2.2.1, (rng6 (HRG.out X hX)).1, HBX.out.below hX⟩
  have HE0 : Hid (st.e = 0) := he
  have HSD : Hid (d.set = false) := hs
  have HSO : Hid (o.set = false) := hs'
  have HFD : Hid (Dm.FitsR d.r) := hf
  have HFO : Hid (Dm.FitsR o.r) := hf'
  have HFX : Hid (Dm.FitsR (bothA o d).r) := hfx
  have HNS : Hid (sameA o (bothA o d) = false) := hns
  have HZ : Hid (Sz st) := hz
  have HZS : Hid (st.saved.length < 10000000) := hzs
  have HVO : Hid (st.D[v]? = some o) := hv
  have HVL : Hid (v < st.D.length) := hvl
  have HOE : Hid (emptyA o = false) := ho
  have HKC : Hid _ := kch
  have HH : Hid (Sto W p st ⟨.slice sa k sc, .slice ma m mc, .slice ia n ic, .slice (some ⟨gd, 0, none⟩) n dc, .slice wa n wc⟩) := h
  have HB00 : Hid (Below W.heap.size W W0) := hb0
  have HB0 : Hid (Below W0.heap.size W0 W0.drew) := (Below.refl _ _).drew
  have HW0 : Hid _ := hW0
  have HBW : Hid (W.heap.size = bw) := hbw
  have HXL : Hid (∀ b, XS p ⟨.slice sa k sc, .slice ma m mc, .slice ia n ic, .slice (some ⟨gd, 0, none⟩) n dc, .slice wa n wc⟩ b → b < bw) := by rw [Hid, ← hbw]; exact h.x_lt
  have hcapn : n ≤ dc := by rw [← HL.out.1]; exact hcap
  clear hW0 hbw hb0 h hc hco hz hzs hr hth hgd hvl hs hs' hf hf' hfx hns hv ho kch he hR htb hcap H1 H2 H3 H1' H2' H3' HE HE'
  have hvi : (v : Int) < n := by omega
  go_enter Tryz.func14, Tryz.ntmps14
  go_wp2_with fail
  rw [HW0.out]
  refine kt.mono ?_
  clear kt
  rintro e wt ⟨rfl, hwt⟩
  rw [hwt]
  clear hwt wt
  go_upto_region 5 with (fail)
  (try rw [HW0.out])
  (try rw [HBW.out])
  refine wp_region_held_drew (S := fun X : World => X.cell? ⟨p, 3, none⟩ = some (.slice (some ⟨gd, 0, none⟩) n dc) ∧ X.cell? ⟨gd, v * 6, none⟩ = some (.bool false) ∧ Bx X bw #[.bool false, .slice ra n0 rc, .slice a1 n1 c1, .slice a2 n2 c2, .int .i64 x, .int .i64 y] 37) (by kernel_rfl) ((FS5.out _ HB0.out)) (fun hHeld => ?_)
  refine tkH 0 oMb4 (v := ?_) hHeld ?_ ?_; rotate_left
  · intro w hSw; dsimp only [oMb4]; obtain ⟨q3, qd, hN⟩ := hSw; obtain ⟨u0, u1, u2, u3, u4, u5⟩ := hN.six; go_simp <;> with_reducible rfl
  try simp only [oMb4, Act.put, zS, z0, z1]
  refine rdy 1 rfl fun K hK => ?_
  go_simp
  refine (KR.out _ HB0.out).mono ?_
  rintro e w1 ⟨rfl, hb⟩
  have HB1 := hid (HB0.out.trans (hb.mono HB0.out.size))
  clear hb
  refine hK.out _ _ ((FS5.out _ HB1.out)) (fun hHeld2 => ?_)
  clear hK K hHeld; have hHeld := hHeld2; clear hHeld2
  try simp only [Act.put, zS, z0, z1]
  refine tkA 2 oMb5 hHeld ?_
  try simp only [oMb5, Act.put, zS, z0, z1]
  refine tkA 3 oMb6 hHeld ?_
  try simp only [oMb6, Act.put, zS, z0, z1]
  refine tkA 4 oMb7 hHeld ?_
  try simp only [oMb7, Act.put, zS, z0, z1]
  refine tkH 5 oMb8 (v := ?_) hHeld ?_ ?_; rotate_left
  · intro w hSw; dsimp only [oMb8]; obtain ⟨q3, qd, hN⟩ := hSw; obtain ⟨u0, u1, u2, u3, u4, u5⟩ := hN.six; go_simp <;> with_reducible rfl
  try simp only [oMb8, Act.put, zS, z0, z1]
  refine tkA 6 oMb9 hHeld ?_
  try simp only [oMb9, Act.put, zS, z0, z1]
  refine tkA 7 oMb10 hHeld ?_
  try simp only [oMb10, Act.put, zS, z0, z1]
  refine tkA 8 oMb11 hHeld ?_
  try simp only [oMb11, Act.put, zS, z0, z1]
  refine tkH 9 oMb12 (v := ?_) hHeld ?_ ?_; rotate_left
  · intro w hSw; dsimp only [oMb12]; obtain ⟨q3, qd, hN⟩ := hSw; obtain ⟨u0, u1, u2, u3, u4, u5⟩ := hN.six; go_simp <;> with_reducible rfl
  try simp only [oMb12, Act.put, zS, z0, z1]
  refine tkA 10 oMb13 hHeld ?_
  try simp only [oMb13, Act.put, zS, z0, z1]
  refine tkH 11 oMb14 (v := ?_) hHeld ?_ ?_; rotate_left
  · intro w hSw; dsimp only [oMb14]; obtain ⟨q3, qd, hN⟩ := hSw; obtain ⟨u0, u1, u2, u3, u4, u5⟩ := hN.six; go_simp <;> with_reducible rfl
  try simp only [oMb14, Act.put, zS, z0, z1]
  refine tkA 12 oMb15 hHeld ?_
  try simp only [oMb15, Act.put, zS, z0, z1]
  refine tkH 13 oMb16 (v := ?_) hHeld ?_ ?_; rotate_left
  · intro w hSw; dsimp only [oMb16]; obtain ⟨q3, qd, hN⟩ := hSw; obtain ⟨u0, u1, u2, u3, u4, u5⟩ := hN.six; go_simp <;> with_reducible rfl
  try simp only [oMb16, Act.put, zS, z0, z1]
  refine tkA 14 oMb17 hHeld ?_
  try simp only [oMb17, Act.put, zS, z0, z1]
  refine tkA 15 oMb18 hHeld ?_
  try simp only [oMb18, Act.put, zS, z0, z1]
  refine tkA 16 oMb19 hHeld ?_
  try simp only [oMb19, Act.put, zS, z0, z1]
  refine wpAnyH_done (by kernel_rfl) ?_ _
  have z4 := (HS.out.below HB1.out)
  have kf := failed_any z4
  rw [HE0.out] at kf
  have hd0 : decide (0 < (0 : Int)) = false := rfl
  rw [hd0] at kf
  clear hd0
  go_wp2_with fail
  refine kf.mono ?_
  clear kf
  rintro e wt ⟨rfl, hwt⟩
  rw [hwt]
  clear hwt wt
  obtain ⟨z0, z1, z2, z3, z44, z5, zf⟩ := z4.cells
  simp only at z3
  clear z0 z1 z2 z44 z5 zf z4
  obtain ⟨u0, u1, u2, u3, u4, u5⟩ := rng6 (HRG.out _ HB1.out)
  obtain ⟨bo, hbo⟩ : ∃ q, w1.heap.size = q := ⟨_, rfl⟩
  go_upto_region 10 with (fail)
  obtain ⟨W2, hW2⟩ : ∃ q, w1.alloc (Obj.cells #[.bool false, .slice ra' n0' rc', .slice a1' n1' c1', .slice a2' n2' c2', .int .i64 x', .int .i64 y'] 37) = q := ⟨_, rfl⟩
  rw [hW2]
  (try rw [hbo])
  have HB2 : Hid (Below W0.heap.size W0 W2) := by rw [← hW2]; exact HB1.out.alloc HB1.out.size _
  have HBO : Hid (Bx W2 bo #[.bool false, .slice ra' n0' rc', .slice a1' n1' c1', .slice a2' n2' c2', .int .i64 x', .int .i64 y'] 37) := by rw [← hW2]; exact Bx.new' hbo _ _
  have HOG : Hid (¬ bo < bw) := by rw [Hid, ← hbo, ← HBW.out]; exact Nat.not_lt.2 (Nat.le_trans HB00.out.size HB1.out.size)
  clear hW2 hbo z3 u0 u1 u2 u3 u4 u5
  have HBXd := hid (HBX.out.below HB2.out)
  have KN : Hid (∀ X, Below W2.heap.size W2 X → Calls Tryz.prog 49 #[.agg #[.bool false, .slice ra' n0' rc', .slice a1' n1' c1', .slice a2' n2' c2', .int .i64 x', .int .i64 y']] X fun e w' => e = .returned (.func (.func 74) #[.agg #[.bool false, .slice ra' n0' rc', .slice a1' n1' c1', .slice a2' n2' c2', .int .i64 x', .int .i64 y']] #[]) ∧ Below X.heap.size X w') := fun X hX => narrower_w ((HCO.out.below HB2.out).below hX) HSO.out
  have KW : Hid (∀ X, Below W2.heap.size W2 X → Calls Tryz.prog 74 #[.agg #[.bool false, .slice ra' n0' rc', .slice a1' n1' c1', .slice a2' n2' c2', .int .i64 x', .int .i64 y'], .agg #[.bool false, .slice ra n0 rc, .slice a1 n1 c1, .slice a2 n2 c2, .int .i64 x, .int .i64 y]] X fun e w' => ∃ q : List Value, e = .returned (.agg q.toArray) ∧ (∀ Z : Nat → Prop, (∀ b, Z b → b < X.heap.size) → Dc Z w' q (bothA o d)) ∧ Below X.heap.size X w') := fun X hX => with_wz ((HCO.out.below HB2.out).below hX) ((HCD.out.below HB2.out).below hX) HSO.out HSD.out HFO.out HFD.out
  have FS10 : Hid (∀ X, Below W2.heap.size W2 X → Bx X bo #[.bool false, .slice ra' n0' rc', .slice a1' n1' c1', .slice a2' n2' c2', .int .i64 x', .int .i64 y'] 37 ∧ Bx X bw #[.bool false, .slice ra n0 rc, .slice a1 n1 c1, .slice a2 n2 c2, .int .i64 x, .int .i64 y] 37) := fun X hX => ⟨HBO.out.below hX, HBXd.out.below hX⟩
  have HC0 : Hid (Below W2.heap.size W2 W2.drew) := (Below.refl _ _).drew
  clear HRG FS5 KR HB0
  apply wp_ways2 (R := fun bn q w' => Below W2.heap.size W2 w' ∧ W2.heap.size ≤ bn ∧ Bx w' bn q.toArray 37 ∧ Dc (fun b => b < W2.heap.size ∨ b = bn) w' q (bothA o d))
  case h =>
    refine wp_region_held_drew (S := fun X : World => Bx X bo #[.bool false, .slice ra' n0' rc', .slice a1' n1' c1', .slice a2' n2' c2', .int .i64 x', .int .i64 y'] 37 ∧ Bx X bw #[.bool false, .slice ra n0 rc, .slice a1 n1 c1, .slice a2 n2 c2, .int .i64 x, .int .i64 y] 37) (by kernel_rfl) ((FS10.out _ HC0.out)) (fun hHeld => ?_)
    refine tkH 0 oMb20 (v := ?_) hHeld ?_ ?_; rotate_left
    · intro w hSw; dsimp only [oMb20]; obtain ⟨hO, hN⟩ := hSw; obtain ⟨y0, y1, y2, y3, y4, y5⟩ := hO.six; obtain ⟨u0, u1, u2, u3, u4, u5⟩ := hN.six; go_simp <;> with_reducible rfl
    try simp only [oMb20, Act.put, zS, z0, z1]
    refine tkH 2 oMb21 (v := ?_) hHeld ?_ ?_; rotate_left
    · intro w hSw; dsimp only [oMb21]; obtain ⟨hO, hN⟩ := hSw; obtain ⟨y0, y1, y2, y3, y4, y5⟩ := hO.six; obtain ⟨u0, u1, u2, u3, u4, u5⟩ := hN.six; go_simp <;> with_reducible rfl
    try simp only [oMb21, Act.put, zS, z0, z1]
    refine wpAnyH_ready (rs := [1, 4]) (by kernel_rfl) (by simp) ?_
    refine AllReadyH.cons rfl (fun K hK => ?_) ?_
    · go_simp
      refine (KN.out _ HC0.out).mono ?_
      rintro e v1 ⟨rfl, hb⟩
      have HC1 := hid (HC0.out.trans (hb.mono HC0.out.size))
      clear hb
      refine hK.out _ _ ((FS10.out _ HC1.out)) (fun hHeld2 => ?_)
      clear hK K hHeld; have hHeld := hHeld2; clear hHeld2
      try simp only [Act.put, zS, z0, z1]
      refine wpAnyH_ready (rs := [3, 4]) (by kernel_rfl) (by simp) ?_
      refine AllReadyH.cons rfl (fun K hK => ?_) ?_
      · go_simp
        refine (KW.out _ HC1.out).mono ?_
        rintro e v2 ⟨q, rfl, hq, hb⟩
        have HC2 := hid (HC1.out.trans (hb.mono HC1.out.size))
        have HDq2 : Hid (Dc (fun b => b < W2.heap.size) v2 q (bothA o d)) := hq _ (fun b q => Nat.lt_of_lt_of_le q HC1.out.size)
        clear hb hq
        refine hK.out _ _ ((FS10.out _ HC2.out)) (fun hHeld2 => ?_)
        clear hK K hHeld; have hHeld := hHeld2; clear hHeld2
        try simp only [Act.put, zS, z0, z1]
        refine rdy 4 rfl fun K hK => ?_
        obtain ⟨bn, hbn⟩ : ∃ q, v2.heap.size = q := ⟨_, rfl⟩
        go_simp
        (try rw [hbn])
        obtain ⟨v3, hv3⟩ : ∃ q, v2.alloc (Obj.cells #[.bool false, .slice none 0 0, .slice none 0 0, .slice none 0 0, .int .i64 0, .int .i64 0] 37) = q := ⟨_, rfl⟩
        (try rw [hv3])
        (try rw [show (v2.alloc (Obj.cells #[.bool false, .slice none 0 0, .slice none 0 0, .slice none 0 0, .int .i64 0, .int .i64 0] 37)).drew = v3 from hv3])
        have HC3 : Hid (Below W2.heap.size W2 v3) := by rw [← hv3]; exact HC2.out.alloc (HC2.out.size) _
        have HNW3 : Hid (Bx v3 bn #[.bool false, .slice none 0 0, .slice none 0 0, .slice none 0 0, .int .i64 0, .int .i64 0] 37) := by rw [← hv3]; exact Bx.new' (w := v2) hbn _ _
        have HBN : Hid (W2.heap.size ≤ bn) := by rw [Hid, ← hbn]; exact HC2.out.size
        have HDq3 : Hid (Dc (fun b => b < W2.heap.size ∨ b = bn) v3 q (bothA o d)) := by
          rw [← hv3]
          exact HDq2.out.go (Kept.of_below ((Below.refl _ _).alloc (Nat.le_refl _) _)) (fun b hb => hb.elim .inl (fun e => .inr (by omega)))
        clear hv3 hbn
        refine hK.out _ _ ((FS10.out _ HC3.out)) (fun hHeld2 => ?_)
        clear hK K hHeld; have hHeld := hHeld2; clear hHeld2
        try simp only [Act.put, zS, z0, z1]
        refine rdy 5 rfl fun K hK => ?_
        refine stepR rfl 37 (.tmp 9) (.tmp 48) rfl bn q (by with_unfolding_all rfl) (by with_unfolding_all rfl) HNW3.out (by rfl) HDq3.out.len Tryz.sizeDom HDq3.out.one ?_
        refine hK.out _ _ ((FS10.out _ (below_row HC3.out HBN.out _))) (fun hHeld2 => ?_)
        clear hK K hHeld; have hHeld := hHeld2; clear hHeld2
        try simp only [Act.put, zS, z0, z1]
        refine wpAnyH_done (by kernel_rfl) ?_ _
        exact ⟨bn, q, rfl, below_row HC3.out HBN.out _, HBN.out, HNW3.out.setRow _, HDq3.out.kept ⟨rfl, rfl, rfl, by simp [World.setRow], fun b _ hb => setRow_other _ _ b _ (fun e => hb (.inr e))⟩⟩
      refine AllReadyH.cons rfl (fun K hK => ?_) ?_
      · obtain ⟨bn, hbn⟩ : ∃ q, v1.heap.size = q := ⟨_, rfl⟩
        go_simp
        (try rw [hbn])
        obtain ⟨v2, hv2⟩ : ∃ q, v1.alloc (Obj.cells #[.bool false, .slice none 0 0, .slice none 0 0, .slice none 0 0, .int .i64 0, .int .i64 0] 37) = q := ⟨_, rfl⟩
        (try rw [hv2])
        (try rw [show (v1.alloc (Obj.cells #[.bool false, .slice none 0 0, .slice none 0 0, .slice none 0 0, .int .i64 0, .int .i64 0] 37)).drew = v2 from hv2])
        have HC2 : Hid (Below W2.heap.size W2 v2) := by rw [← hv2]; exact HC1.out.alloc (HC1.out.size) _
        have HNW2 : Hid (Bx v2 bn #[.bool false, .slice none 0 0, .slice none 0 0, .slice none 0 0, .int .i64 0, .int .i64 0] 37) := by rw [← hv2]; exact Bx.new' (w := v1) hbn _ _
        have HBN : Hid (W2.heap.size ≤ bn) := by rw [Hid, ← hbn]; exact HC1.out.size
        clear hv2 hbn
        refine hK.out _ _ ((FS10.out _ HC2.out)) (fun hHeld2 => ?_)
        clear hK K hHeld; have hHeld := hHeld2; clear hHeld2
        try simp only [Act.put, zS, z0, z1]
        refine rdy 3 rfl fun K hK => ?_
        go_simp
        refine (KW.out _ HC2.out).mono ?_
        rintro e v3 ⟨q, rfl, hq, hb⟩
        have HC3 := hid (HC2.out.trans (hb.mono HC2.out.size))
        have HNW3 := hid (HNW2.out.below hb)
        have HDq3 : Hid (Dc (fun b => b < W2.heap.size ∨ b = bn) v3 q (bothA o d)) := hq _ (fun b hb => hb.elim (fun q => Nat.lt_of_lt_of_le q HC2.out.size) (fun q => by subst q; exact HNW2.out.lt))
        clear hb hq
        refine hK.out _ _ ((FS10.out _ HC3.out)) (fun hHeld2 => ?_)
        clear hK K hHeld; have hHeld := hHeld2; clear hHeld2
        try simp only [Act.put, zS, z0, z1]
        refine rdy 5 rfl fun K hK => ?_
        refine stepR rfl 37 (.tmp 9) (.tmp 48) rfl bn q (by with_unfolding_all rfl) (by with_unfolding_all rfl) HNW3.out (by rfl) HDq3.out.len Tryz.sizeDom HDq3.out.one ?_
        refine hK.out _ _ ((FS10.out _ (below_row HC3.out HBN.out _))) (fun hHeld2 => ?_)
        clear hK K hHeld; have hHeld := hHeld2; clear hHeld2
        try simp only [Act.put, zS, z0, z1]
        refine wpAnyH_done (by kernel_rfl) ?_ _
        exact ⟨bn, q, rfl, below_row HC3.out HBN.out _, HBN.out, HNW3.out.setRow _, HDq3.out.kept ⟨rfl, rfl, rfl, by simp [World.setRow], fun b _ hb => setRow_other _ _ b _ (fun e => hb (.inr e))⟩⟩
      exact AllReadyH.nil
    refine AllReadyH.cons rfl (fun K hK => ?_) ?_
    · obtain ⟨bn, hbn⟩ : ∃ q, W2.heap.size = q := ⟨_, rfl⟩
      go_simp
      (try rw [hbn])
      obtain ⟨v1, hv1⟩ : ∃ q, W2.drew.alloc (Obj.cells #[.bool false, .slice none 0 0, .slice none 0 0, .slice none 0 0, .int .i64 0, .int .i64 0] 37) = q := ⟨_, rfl⟩
      (try rw [hv1])
      (try rw [show (W2.alloc (Obj.cells #[.bool false, .slice none 0 0, .slice none 0 0, .slice none 0 0, .int .i64 0, .int .i64 0] 37)).drew = v1 from hv1])
      have HC1 : Hid (Below W2.heap.size W2 v1) := by rw [← hv1]; exact HC0.out.alloc (HC0.out.size) _
      have HNW1 : Hid (Bx v1 bn #[.bool false, .slice none 0 0, .slice none 0 0, .slice none 0 0, .int .i64 0, .int .i64 0] 37) := by rw [← hv1]; exact Bx.new' (w := W2.drew) hbn _ _
      have HBN : Hid (W2.heap.size ≤ bn) := by rw [Hid, ← hbn]; exact Nat.le_refl _
      clear hv1 hbn
      refine hK.out _ _ ((FS10.out _ HC1.out)) (fun hHeld2 => ?_)
      clear hK K hHeld; have hHeld := hHeld2; clear hHeld2
      try simp only [Act.put, zS, z0, z1]
      refine rdy 1 rfl fun K hK => ?_
      go_simp
      refine (KN.out _ HC1.out).mono ?_
      rintro e v2 ⟨rfl, hb⟩
      have HC2 := hid (HC1.out.trans (hb.mono HC1.out.size))
      have HNW2 := hid (HNW1.out.below hb)
      clear hb
      refine hK.out _ _ ((FS10.out _ HC2.out)) (fun hHeld2 => ?_)
      clear hK K hHeld; have hHeld := hHeld2; clear hHeld2
      try simp only [Act.put, zS, z0, z1]
      refine rdy 3 rfl fun K hK => ?_
      go_simp
      refine (KW.out _ HC2.out).mono ?_
      rintro e v3 ⟨q, rfl, hq, hb⟩
      have HC3 := hid (HC2.out.trans (hb.mono HC2.out.size))
      have HNW3 := hid (HNW2.out.below hb)
      have HDq3 : Hid (Dc (fun b => b < W2.heap.size ∨ b = bn) v3 q (bothA o d)) := hq _ (fun b hb => hb.elim (fun q => Nat.lt_of_lt_of_le q HC2.out.size) (fun q => by subst q; exact HNW2.out.lt))
      clear hb hq
      refine hK.out _ _ ((FS10.out _ HC3.out)) (fun hHeld2 => ?_)
      clear hK K hHeld; have hHeld := hHeld2; clear hHeld2
      try simp only [Act.put, zS, z0, z1]
      refine rdy 5 rfl fun K hK => ?_
      refine stepR rfl 37 (.tmp 9) (.tmp 48) rfl bn q (by with_unfolding_all rfl) (by with_unfolding_all rfl) HNW3.out (by rfl) HDq3.out.len Tryz.sizeDom HDq3.out.one ?_
      refine hK.out _ _ ((FS10.out _ (below_row HC3.out HBN.out _))) (fun hHeld2 => ?_)
      clear hK K hHeld; have hHeld := hHeld2; clear hHeld2
      try simp only [Act.put, zS, z0, z1]
      refine wpAnyH_done (by kernel_rfl) ?_ _
      exact ⟨bn, q, rfl, below_row HC3.out HBN.out _, HBN.out, HNW3.out.setRow _, HDq3.out.kept ⟨rfl, rfl, rfl, by simp [World.setRow], fun b _ hb => setRow_other _ _ b _ (fun e => hb (.inr e))⟩⟩
    exact AllReadyH.nil
  case hK =>
    rintro bn q V ⟨HBV, hbn, hnx, hdq⟩
    obtain ⟨b2, r2, m0, k0, p1, m1, k1, p2, m2, k2, x2, y2, rfl, HE2, _, _, _⟩ := hdq.look
    obtain rfl : b2 = false := by rw [← HE2.out.1, bothA_set]; exact HSO.out
    have HDQ : Hid (Dc (fun b => b < W2.heap.size ∨ b = bn) V [.bool false, .slice r2 m0 k0, .slice p1 m1 k1, .slice p2 m2 k2, .int .i64 x2, .int .i64 y2] (bothA o d)) := hdq
    have HNX : Hid (Bx V bn #[.bool false, .slice r2 m0 k0, .slice p1 m1 k1, .slice p2 m2 k2, .int .i64 x2, .int .i64 y2] 37) := hnx
    have HBOV := hid (HBO.out.below HBV)
    have HB0V := hid (HB2.out.trans (HBV.mono HB2.out.size))
    have HSV := hid (HS.out.below HB0V.out)
    have HCOV := hid (HCO.out.below HB0V.out)
    have HBWS : Hid (bw ≤ W2.heap.size) := by rw [Hid, ← HBW.out]; exact Nat.le_trans HB00.out.size HB2.out.size
    have HDX : Hid (Dc (XS p ⟨.slice sa k sc, .slice ma m mc, .slice ia n ic, .slice (some ⟨gd, 0, none⟩) n dc, .slice wa n wc⟩) V [.bool false, .slice r2 m0 k0, .slice p1 m1 k1, .slice p2 m2 k2, .int .i64 x2, .int .i64 y2] (bothA o d)) := HDQ.out.up (fun b hb => .inl (.inl (Nat.lt_of_lt_of_le (HXL.out b hb) HBWS.out)))
    have HXO : Hid (¬ XS p ⟨.slice sa k sc, .slice ma m mc, .slice ia n ic, .slice (some ⟨gd, 0, none⟩) n dc, .slice wa n wc⟩ bo) := fun q => HOG.out (HXL.out bo q)
    have HXN : Hid (¬ XS p ⟨.slice sa k sc, .slice ma m mc, .slice ia n ic, .slice (some ⟨gd, 0, none⟩) n dc, .slice wa n wc⟩ bn) := fun q => by have := HXL.out bn q; have := HBWS.out; omega
    have ks := same_d HCOV.out HDX.out (bothA_set o d).symm HFO.out HFX.out
    have hdf : sameA o (bothA o d) = false := HNS.out
    rw [hdf] at ks
    clear hdf
    obtain ⟨t0, t1, t2, t3, t4, t5⟩ := HBOV.out.six
    obtain ⟨u0, u1, u2, u3, u4, u5⟩ := HNX.out.six
    go_wp2_with fail
    refine ks.mono ?_
    clear ks t0 t1 t2 t3 t4 t5 u0 u1 u2 u3 u4 u5
    rintro e w3 ⟨rfl, hb3⟩
    have HS3 := hid (HSV.out.below hb3)
    have HBO3 := hid (HBOV.out.below hb3)
    have HNX3 := hid (HNX.out.below hb3)
    have HCO3 := hid (HCOV.out.below hb3)
    have HDX3 := hid (HDX.out.below hb3)
    have HK3 : Hid (Kept (XS p ⟨.slice sa k sc, .slice ma m mc, .slice ia n ic, .slice (some ⟨gd, 0, none⟩) n dc, .slice wa n wc⟩) W w3) := ((Kept.of_below HB00.out).then_below HB0V.out).then_below hb3
    have HW3 : Hid (W.heap.size ≤ w3.drew.heap.size) := HK3.out.size
    have KSV : Hid _ := save_any (HS3.out.below (Below.refl _ _).drew) (HCO3.out.below (Below.refl _ _).drew) v HVL.out HZ.out (Nat.lt_trans HZS.out (by decide))
    have HZ4 : Hid (Sz (saveM st v o)) := ⟨by rw [(saveM_D st v o).1]; exact HZ.out.1, by rw [(saveM_D st v o).2.2.2.1]; exact HZ.out.2.1, by have := (saveM_D st v o).2.2.2.2; have := HZS.out; omega⟩
    have HZ5 : Hid (Sz (putA (saveM st v o) v o (bothA o d))) := ⟨by show ((saveM st v o).D.set v _).length ≤ 1000; rw [List.length_set]; exact HZ4.out.1, HZ4.out.2.1, HZ4.out.2.2⟩
    have HV5 : Hid (v < (putA (saveM st v o) v o (bothA o d)).D.length) := by show v < ((saveM st v o).D.set v _).length; rw [List.length_set, (saveM_D st v o).1]; exact HVL.out
    clear hb3 HDQ HNX HBOV HB0V HSV HCOV HDX hnx hdq hbn HBV HBO HB2 HBXd KN KW FS10 HC0 HS HCO HCD HBX
    go_upto_region 13 with (fail)
    refine wp_region_held_drew (S := fun X : World => Bx X bo #[.bool false, .slice ra' n0' rc', .slice a1' n1' c1', .slice a2' n2' c2', .int .i64 x', .int .i64 y'] 37) (by kernel_rfl) ((HBO3.out.drew 1)) (fun hHeld => ?_)
    refine tkA 0 oMb22 hHeld ?_
    try simp only [oMb22, Act.put, zS, z0, z1]
    refine tkA 1 oMb23 hHeld ?_
    try simp only [oMb23, Act.put, zS, z0, z1]
    refine tkA 2 oMb24 hHeld ?_
    try simp only [oMb24, Act.put, zS, z0, z1]
    refine tkA 3 oMb25 hHeld ?_
    try simp only [oMb25, Act.put, zS, z0, z1]
    refine tkH 4 oMb26 (v := ?_) hHeld ?_ ?_; rotate_left
    · intro w hSw; dsimp only [oMb26]; obtain ⟨y0, y1, y2, y3, y4, y5⟩ := hSw.six; go_simp <;> with_reducible rfl
    try simp only [oMb26, Act.put, zS, z0, z1]
    refine rdy 5 rfl fun K hK => ?_
    go_simp
    refine Calls.mono KSV.out ?_
    rintro e w4 ⟨rfl, sl1, hs4, hu4, hk4⟩
    have HBO4 : Hid (Bx w4 bo #[.bool false, .slice ra' n0' rc', .slice a1' n1' c1', .slice a2' n2' c2', .int .i64 x', .int .i64 y'] 37) := (HBO3.out.drew 1).kept hk4 HXO.out
    have HNX4 : Hid (Bx w4 bn #[.bool false, .slice r2 m0 k0, .slice p1 m1 k1, .slice p2 m2 k2, .int .i64 x2, .int .i64 y2] 37) := (HNX3.out.drew 1).kept hk4 HXN.out
    have HDX4 : Hid (Dc (XS p sl1) w4 [.bool false, .slice r2 m0 k0, .slice p1 m1 k1, .slice p2 m2 k2, .int .i64 x2, .int .i64 y2] (bothA o d)) := (HDX3.out.below (Below.refl _ _).drew).go hk4 hu4
    have HCO4 : Hid (Dc (XS p sl1) w4 [.bool false, .slice ra' n0' rc', .slice a1' n1' c1', .slice a2' n2' c2', .int .i64 x', .int .i64 y'] o) := (HCO3.out.below (Below.refl _ _).drew).go hk4 hu4
    have HS4 : Hid (Sto w4 p (saveM st v o) sl1) := hs4
    have HU4 : Hid (Up (XS p ⟨.slice sa k sc, .slice ma m mc, .slice ia n ic, .slice (some ⟨gd, 0, none⟩) n dc, .slice wa n wc⟩) (XS p sl1) W) := fun b hb => (hu4 b hb).elim .inl (fun q => .inr (Nat.le_trans HW3.out q))
    have HK4 : Hid (Kept (XS p ⟨.slice sa k sc, .slice ma m mc, .slice ia n ic, .slice (some ⟨gd, 0, none⟩) n dc, .slice wa n wc⟩) W w4) := (HK3.out.then_below (Below.refl _ _).drew).trans hk4 (Up.refl _ _)
    have HXO4 : Hid (¬ XS p sl1 bo) := fun q => (hu4 bo q).elim HXO.out (fun q => absurd (HBO3.out.drew 1).lt (Nat.not_lt.2 q))
    have HXN4 : Hid (¬ XS p sl1 bn) := fun q => (hu4 bn q).elim HXN.out (fun q => absurd (HNX3.out.drew 1).lt (Nat.not_lt.2 q))
    clear hs4 hu4 hk4
    refine hK.out _ _ (HBO4.out) (fun hHeld2 => ?_)
    clear hK K hHeld; have hHeld := hHeld2; clear hHeld2
    try simp only [Act.put, zS, z0, z1]
    refine wpAnyH_done (by kernel_rfl) ?_ _
    obtain ⟨u0, u1, u2, u3, u4, u5⟩ := HNX4.out.six
    have kp := put_d HS4.out HDX4.out v (by rw [(saveM_D st v o).1]; exact HVO.out) (by rw [(saveM_D st v o).2.1, HE0.out]; decide) (by rw [(saveM_D st v o).2.1, HE0.out]; decide) HZ4.out
    go_wp2_with fail
    refine kp.mono ?_
    clear kp u0 u1 u2 u3 u4 u5
    rintro e w5 ⟨rfl, hs5, hk5⟩
    have HS5 : Hid (Sto w5 p (putA (saveM st v o) v o (bothA o d)) sl1) := hs5
    have HBO5 := hid (HBO4.out.kept hk5 HXO4.out)
    have HNX5 := hid (HNX4.out.kept hk5 HXN4.out)
    have HDX5 := hid (HDX4.out.kept hk5)
    have HCO5 := hid (HCO4.out.kept hk5)
    have HK5 := hid (HK4.out.trans hk5 HU4.out)
    clear hs5 hk5
    have kf := failed_any HS5.out
    have hev : (putA (saveM st v o) v o (bothA o d)).e = emptI (emptyA (bothA o d)) := by show (saveM st v o).e + _ = _; rw [(saveM_D st v o).2.1, HE0.out, HOE.out]; simp [emptI]
    rw [hev] at kf
    clear hev
    cases hE : emptyA (bothA o d)
    · rw [hE] at kf
      have hd0 : decide (0 < emptI false) = false := rfl
      rw [hd0] at kf
      clear hd0
      have kc := HKC.out hE _ _ w5 _ _ HCO5.out HDX5.out
      go_wp2_with fail
      refine kf.mono ?_
      clear kf
      rintro e wt ⟨rfl, hwt⟩
      rw [hwt]
      clear hwt wt
      obtain ⟨u0, u1, u2, u3, u4, u5⟩ := HNX5.out.six
      obtain ⟨y0, y1, y2, y3, y4, y5⟩ := HBO5.out.six
      go_wp2_with fail
      refine kc.mono ?_
      clear kc u0 u1 u2 u3 u4 u5 y0 y1 y2 y3 y4 y5
      rintro e w6 ⟨rfl, hb6⟩
      have kt := tell_any (HS5.out.below hb6) HZ5.out v HV5.out chg
      have HK6 := hid (HK5.out.then_below hb6)
      clear hb6
      go_wp2_with fail
      refine kt.mono ?_
      clear kt
      rintro e w7 ⟨rfl, hs7, hk7⟩
      have HS7 : Hid _ := hs7
      have HK7 := hid (HK6.out.trans hk7 HU4.out)
      clear hs7 hk7
      go_wp2
      all_goals
        go_ret2
        refine ⟨rfl, sl1, ?_, HU4.out, HK7.out⟩
        rw [narrowA, hE]
        exact HS7.out
    · rw [hE] at kf
      have hd0 : decide (0 < emptI true) = true := rfl
      rw [hd0] at kf
      clear hd0
      go_wp2_with fail
      refine kf.mono ?_
      clear kf
      rintro e wt ⟨rfl, hwt⟩
      rw [hwt]
      clear hwt wt
      go_wp2
      all_goals
        go_ret2
        refine ⟨rfl, sl1, ?_, HU4.out, HK5.out⟩
        rw [narrowA, hE]
        exact HS5.out

set_option maxRecDepth 100000 in
set_option maxHeartbeats 4000000 in
theorem narrow_ch_s [Gh] {W : World} {p : Nat} {st : StM} {sl : Sl} {c : List Value} {d o : MD} (h : Sto W p st sl) (hc : Dc (XS p sl) W c d) (v : Nat) (hv : st.D[v]? = some o) (hs : d.set = true) (hs' : o.set = true) (hf : Dm.FitsR d.r) (hf' : Dm.FitsR o.r) (hfx : Dm.FitsR (bothA o d).r) (hR : rightM d = true) (he : st.e = 0) (ho : emptyA o = false) (hz : Sz st) (hzs : st.saved.length < 10000000)
    (hns : sameA o (bothA o d) = false) (chg : Int) (kch : emptyA (bothA o d) = false → ∀ (X Y : Nat → Prop) (w : World) (k k' : List Value), Dc X w k o → Dc Y w k' (bothA o d) → Calls Tryz.prog 54 #[.agg k.toArray, .agg k'.toArray] w fun e w' => e = .returned (.int .i64 chg) ∧ Below w.heap.size w w') :
    Calls Tryz.prog 14 #[ptr p, .int .i64 v, .agg c.toArray] W fun e w' => e = .returned (.tuple #[.int .i64 (if emptyA (bothA o d) then 2 else 1), .int .i64 0]) ∧ ∃ sl', Sto w' p (narrowA st v o (bothA o d) chg) sl' ∧ Up (XS p sl) (XS p sl') W ∧ Kept (XS p sl) W w' := by
  have hvl : v < st.D.length := (List.getElem?_eq_some_iff.1 hv).1
  obtain ⟨n, k, m, sa, sc, ma, mc, ia, ic, da, dc, wa, wc, rfl, HL⟩ := h.look
  obtain ⟨gd, cap, c', e1, hgd, hcap, hcm, hr, hth, hco⟩ := h.dom_at hv
  injection e1 with e1 e2 e3
  subst e1 e3
  clear e2
  have hvn : v < n := by rw [← HL.out.1]; exact hvl
  have hn1 : n ≤ 1000 := by rw [← HL.out.1]; exact hz.1
  obtain ⟨b, ra, n0, rc, a1, n1, c1, a2, n2, c2, x, y, ec, HE, H1, H2, H3⟩ := hc.look
  obtain ⟨b', ra', n0', rc', a1', n1', c1', a2', n2', c2', x', y', ec', HE', H1', H2', H3'⟩ := hco.look
  subst ec ec'
  obtain rfl : b = true := by rw [← HE.out.1, hs]
  obtain rfl : b' = true := by rw [← HE'.out.1, hs']
  obtain ⟨bw, hbw⟩ : ∃ q, W.heap.size = q := ⟨_, rfl⟩
  obtain ⟨W0, hW0⟩ : ∃ Q, W.alloc (Obj.cells #[.bool true, .slice ra n0 rc, .slice a1 n1 c1, .slice a2 n2 c2, .int .i64 x, .int .i64 y] 37) = Q := ⟨_, rfl⟩
  have hb0 : Below W.heap.size W W0 := by rw [← hW0]; exact (Below.refl _ W).alloc (Nat.le_refl _) _
  have HBX : Hid (Bx W0 bw #[.bool true, .slice ra n0 rc, .slice a1 n1 c1, .slice a2 n2 c2, .int .i64 x, .int .i64 y] 37) := by rw [← hW0]; exact Bx.new' hbw _ _
  have HS := hid (h.below hb0)
  have hgd0 : gd < W0.heap.size := Nat.lt_of_lt_of_le hgd hb0.size
  have HRG : Hid (∀ X, Below W0.heap.size W0 X → X.rangeAt gd (v * 6) [.bool true, .slice ra' n0' rc', .slice a1' n1' c1', .slice a2' n2' c2', .int .i64 x', .int .i64 y']) := fun X hX j u hu => (hX.cell (p := ⟨gd, v * 6 + j, none⟩) hgd0).trans ((hb0.cell (p := ⟨gd, v * 6 + j, none⟩) hgd).trans (hr j u hu))
  have HCD := hid (hc.below hb0)
  have HCO := hid (hco.below hb0)
  have KR : Hid (∀ X, Below W0.heap.size W0 X → Calls Tryz.prog 30 #[.agg #[.bool true, .slice ra n0 rc, .slice a1 n1 c1, .slice a2 n2 c2, .int .i64 x, .int .i64 y]] X fun e w' => e = .returned (.bool true) ∧ Below X.heap.size X w') := fun X hX => by have := right_d (HCD.out.below hX) hf; rw [hR] at this; exact this
  have kt := there_any HS.out hz v
  have htb : thereB st v = true := by unfold thereB; simp; exact hvl
  rw [htb] at kt
  have FS5 : Hid (∀ X, Below W0.heap.size W0 X → X.cell? ⟨p, 3, none⟩ = some (.slice (some ⟨gd, 0, none⟩) n dc) ∧ X.cell? ⟨gd, v * 6, none⟩ = some (.bool true) ∧ Bx X bw #[.bool true, .slice ra n0 rc, .slice a1 n1 c1, .slice a2 n2 c2, .int .i64 x, .int .i64 y] 37) := fun X hX => ⟨(HS.out.below hX).cells.2.2.2.1, (rng6 (HRG.out X hX)).1, HBX.out.below hX⟩
  have HE0 : Hid (st.e = 0) := he
  have HSD : Hid (d.set = true) := hs
  have HSO : Hid (o.set = true) := hs'
  have HFD : Hid (Dm.FitsR d.r) := hf
  have HFO : Hid (Dm.FitsR o.r) := hf'
  have HFX : Hid (Dm.FitsR (bothA o d).r) := hfx
  have HNS : Hid (sameA o (bothA o d) = false) := hns
  have HZ : Hid (Sz st) := hz
  have HZS : Hid (st.saved.length < 10000000) := hzs
  have HVO : Hid (st.D[v]? = some o) := hv
  have HVL : Hid (v < st.D.length) := hvl
  have HOE : Hid (emptyA o = false) := ho
  have HKC : Hid _ := kch
  have HH : Hid (Sto W p st ⟨.slice sa k sc, .slice ma m mc, .slice ia n ic, .slice (some ⟨gd, 0, none⟩) n dc, .slice wa n wc⟩) := h
  have HB00 : Hid (Below W.heap.size W W0) := hb0
  have HB0 : Hid (Below W0.heap.size W0 W0.drew) := (Below.refl _ _).drew
  have HW0 : Hid _ := hW0
  have HBW : Hid (W.heap.size = bw) := hbw
  have HXL : Hid (∀ b, XS p ⟨.slice sa k sc, .slice ma m mc, .slice ia n ic, .slice (some ⟨gd, 0, none⟩) n dc, .slice wa n wc⟩ b → b < bw) := by rw [Hid, ← hbw]; exact h.x_lt
  have hcapn : n ≤ dc := by rw [← HL.out.1]; exact hcap
  clear hW0 hbw hb0 h hc hco hz hzs hr hth hgd hvl hs hs' hf hf' hfx hns hv ho kch he hR htb hcap H1 H2 H3 H1' H2' H3' HE HE'
  have hvi : (v : Int) < n := by omega
  go_enter Tryz.func14, Tryz.ntmps14
  go_wp2_with fail
  rw [HW0.out]
  refine kt.mono ?_
  clear kt
  rintro e wt ⟨rfl, hwt⟩
  rw [hwt]
  clear hwt wt
  go_upto_region 5 with (fail)
  (try rw [HW0.out])
  (try rw [HBW.out])
  refine wp_region_held_drew (S := fun X : World => X.cell? ⟨p, 3, none⟩ = some (.slice (some ⟨gd, 0, none⟩) n dc) ∧ X.cell? ⟨gd, v * 6, none⟩ = some (.bool true) ∧ Bx X bw #[.bool true, .slice ra n0 rc, .slice a1 n1 c1, .slice a2 n2 c2, .int .i64 x, .int .i64 y] 37) (by kernel_rfl) ((FS5.out _ HB0.out)) (fun hHeld => ?_)
  refine tkH 0 oMb4 (v := ?_) hHeld ?_ ?_; rotate_left
  · intro w hSw; dsimp only [oMb4]; obtain ⟨q3, qd, hN⟩ := hSw; obtain ⟨u0, u1, u2, u3, u4, u5⟩ := hN.six; go_simp <;> with_reducible rfl
  try simp only [oMb4, Act.put, zS, z0, z1]
  refine rdy 1 rfl fun K hK => ?_
  go_simp
  refine (KR.out _ HB0.out).mono ?_
  rintro e w1 ⟨rfl, hb⟩
  have HB1 := hid (HB0.out.trans (hb.mono HB0.out.size))
  clear hb
  refine hK.out _ _ ((FS5.out _ HB1.out)) (fun hHeld2 => ?_)
  clear hK K hHeld; have hHeld := hHeld2; clear hHeld2
  try simp only [Act.put, zS, z0, z1]
  refine tkA 2 oMb5 hHeld ?_
  try simp only [oMb5, Act.put, zS, z0, z1]
  refine tkA 3 oMb6 hHeld ?_
  try simp only [oMb6, Act.put, zS, z0, z1]
  refine tkA 4 oMb7 hHeld ?_
  try simp only [oMb7, Act.put, zS, z0, z1]
  refine tkH 5 oMb8 (v := ?_) hHeld ?_ ?_; rotate_left
  · intro w hSw; dsimp only [oMb8]; obtain ⟨q3, qd, hN⟩ := hSw; obtain ⟨u0, u1, u2, u3, u4, u5⟩ := hN.six; go_simp <;> with_reducible rfl
  try simp only [oMb8, Act.put, zS, z0, z1]
  refine tkA 6 oMb9 hHeld ?_
  try simp only [oMb9, Act.put, zS, z0, z1]
  refine tkA 7 oMb10 hHeld ?_
  try simp only [oMb10, Act.put, zS, z0, z1]
  refine tkA 8 oMb11 hHeld ?_
  try simp only [oMb11, Act.put, zS, z0, z1]
  refine tkH 9 oMb12 (v := ?_) hHeld ?_ ?_; rotate_left
  · intro w hSw; dsimp only [oMb12]; obtain ⟨q3, qd, hN⟩ := hSw; obtain ⟨u0, u1, u2, u3, u4, u5⟩ := hN.six; go_simp <;> with_reducible rfl
  try simp only [oMb12, Act.put, zS, z0, z1]
  refine tkA 10 oMb13 hHeld ?_
  try simp only [oMb13, Act.put, zS, z0, z1]
  refine tkH 11 oMb14 (v := ?_) hHeld ?_ ?_; rotate_left
  · intro w hSw; dsimp only [oMb14]; obtain ⟨q3, qd, hN⟩ := hSw; obtain ⟨u0, u1, u2, u3, u4, u5⟩ := hN.six; go_simp <;> with_reducible rfl
  try simp only [oMb14, Act.put, zS, z0, z1]
  refine tkA 12 oMb15 hHeld ?_
  try simp only [oMb15, Act.put, zS, z0, z1]
  refine tkH 13 oMb16 (v := ?_) hHeld ?_ ?_; rotate_left
  · intro w hSw; dsimp only [oMb16]; obtain ⟨q3, qd, hN⟩ := hSw; obtain ⟨u0, u1, u2, u3, u4, u5⟩ := hN.six; go_simp <;> with_reducible rfl
  try simp only [oMb16, Act.put, zS, z0, z1]
  refine tkA 14 oMb17 hHeld ?_
  try simp only [oMb17, Act.put, zS, z0, z1]
  refine tkA 15 oMb18 hHeld ?_
  try simp only [oMb18, Act.put, zS, z0, z1]
  refine tkA 16 oMb19 hHeld ?_
  try simp only [oMb19, Act.put, zS, z0, z1]
  refine wpAnyH_done (by kernel_rfl) ?_ _
  have z4 := (HS.out.below HB1.out)
  have kf := failed_any z4
  rw [HE0.out] at kf
  have hd0 : decide (0 < (0 : Int)) = false := rfl
  rw [hd0] at kf
  clear hd0
  go_wp2_with fail
  refine kf.mono ?_
  clear kf
  rintro e wt ⟨rfl, hwt⟩
  rw [hwt]
  clear hwt wt
  obtain ⟨z0, z1, z2, z3, z44, z5, zf⟩ := z4.cells
  simp only at z3
  clear z0 z1 z2 z44 z5 zf z4
  obtain ⟨u0, u1, u2, u3, u4, u5⟩ := rng6 (HRG.out _ HB1.out)
  obtain ⟨bo, hbo⟩ : ∃ q, w1.heap.size = q := ⟨_, rfl⟩
  go_upto_region 10 with (fail)
  obtain ⟨W2, hW2⟩ : ∃ q, w1.alloc (Obj.cells #[.bool true, .slice ra' n0' rc', .slice a1' n1' c1', .slice a2' n2' c2', .int .i64 x', .int .i64 y'] 37) = q := ⟨_, rfl⟩
  rw [hW2]
  (try rw [hbo])
  have HB2 : Hid (Below W0.heap.size W0 W2) := by rw [← hW2]; exact HB1.out.alloc HB1.out.size _
  have HBO : Hid (Bx W2 bo #[.bool true, .slice ra' n0' rc', .slice a1' n1' c1', .slice a2' n2' c2', .int .i64 x', .int .i64 y'] 37) := by rw [← hW2]; exact Bx.new' hbo _ _
  have HOG : Hid (¬ bo < bw) := by rw [Hid, ← hbo, ← HBW.out]; exact Nat.not_lt.2 (Nat.le_trans HB00.out.size HB1.out.size)
  clear hW2 hbo z3 u0 u1 u2 u3 u4 u5
  have HBXd := hid (HBX.out.below HB2.out)
  have KN : Hid (∀ X, Below W2.heap.size W2 X → Calls Tryz.prog 49 #[.agg #[.bool true, .slice ra' n0' rc', .slice a1' n1' c1', .slice a2' n2' c2', .int .i64 x', .int .i64 y']] X fun e w' => e = .returned (.func (.func 73) #[.agg #[.bool true, .slice ra' n0' rc', .slice a1' n1' c1', .slice a2' n2' c2', .int .i64 x', .int .i64 y']] #[]) ∧ Below X.heap.size X w') := fun X hX => narrower_s ((HCO.out.below HB2.out).below hX) HSO.out
  have KW : Hid (∀ X, Below W2.heap.size W2 X → Calls Tryz.prog 73 #[.agg #[.bool true, .slice ra' n0' rc', .slice a1' n1' c1', .slice a2' n2' c2', .int .i64 x', .int .i64 y'], .agg #[.bool true, .slice ra n0 rc, .slice a1 n1 c1, .slice a2 n2 c2, .int .i64 x, .int .i64 y]] X fun e w' => ∃ q : List Value, e = .returned (.agg q.toArray) ∧ (∀ Z : Nat → Prop, (∀ b, Z b → b < X.heap.size) → Dc Z w' q (bothA o d)) ∧ Below X.heap.size X w') := fun X hX => with_sz ((HCO.out.below HB2.out).below hX) ((HCD.out.below HB2.out).below hX) HSO.out
  have FS10 : Hid (∀ X, Below W2.heap.size W2 X → Bx X bo #[.bool true, .slice ra' n0' rc', .slice a1' n1' c1', .slice a2' n2' c2', .int .i64 x', .int .i64 y'] 37 ∧ Bx X bw #[.bool true, .slice ra n0 rc, .slice a1 n1 c1, .slice a2 n2 c2, .int .i64 x, .int .i64 y] 37) := fun X hX => ⟨HBO.out.below hX, HBXd.out.below hX⟩
  have HC0 : Hid (Below W2.heap.size W2 W2.drew) := (Below.refl _ _).drew
  clear HRG FS5 KR HB0
  apply wp_ways2 (R := fun bn q w' => Below W2.heap.size W2 w' ∧ W2.heap.size ≤ bn ∧ Bx w' bn q.toArray 37 ∧ Dc (fun b => b < W2.heap.size ∨ b = bn) w' q (bothA o d))
  case h =>
    refine wp_region_held_drew (S := fun X : World => Bx X bo #[.bool true, .slice ra' n0' rc', .slice a1' n1' c1', .slice a2' n2' c2', .int .i64 x', .int .i64 y'] 37 ∧ Bx X bw #[.bool true, .slice ra n0 rc, .slice a1 n1 c1, .slice a2 n2 c2, .int .i64 x, .int .i64 y] 37) (by kernel_rfl) ((FS10.out _ HC0.out)) (fun hHeld => ?_)
    refine tkH 0 oMb20 (v := ?_) hHeld ?_ ?_; rotate_left
    · intro w hSw; dsimp only [oMb20]; obtain ⟨hO, hN⟩ := hSw; obtain ⟨y0, y1, y2, y3, y4, y5⟩ := hO.six; obtain ⟨u0, u1, u2, u3, u4, u5⟩ := hN.six; go_simp <;> with_reducible rfl
    try simp only [oMb20, Act.put, zS, z0, z1]
    refine tkH 2 oMb21 (v := ?_) hHeld ?_ ?_; rotate_left
    · intro w hSw; dsimp only [oMb21]; obtain ⟨hO, hN⟩ := hSw; obtain ⟨y0, y1, y2, y3, y4, y5⟩ := hO.six; obtain ⟨u0, u1, u2, u3, u4, u5⟩ := hN.six; go_simp <;> with_reducible rfl
    try simp only [oMb21, Act.put, zS, z0, z1]
    refine wpAnyH_ready (rs := [1, 4]) (by kernel_rfl) (by simp) ?_
    refine AllReadyH.cons rfl (fun K hK => ?_) ?_
    · go_simp
      refine (KN.out _ HC0.out).mono ?_
      rintro e v1 ⟨rfl, hb⟩
      have HC1 := hid (HC0.out.trans (hb.mono HC0.out.size))
      clear hb
      refine hK.out _ _ ((FS10.out _ HC1.out)) (fun hHeld2 => ?_)
      clear hK K hHeld; have hHeld := hHeld2; clear hHeld2
      try simp only [Act.put, zS, z0, z1]
      refine wpAnyH_ready (rs := [3, 4]) (by kernel_rfl) (by simp) ?_
      refine AllReadyH.cons rfl (fun K hK => ?_) ?_
      · go_simp
        refine (KW.out _ HC1.out).mono ?_
        rintro e v2 ⟨q, rfl, hq, hb⟩
        have HC2 := hid (HC1.out.trans (hb.mono HC1.out.size))
        have HDq2 : Hid (Dc (fun b => b < W2.heap.size) v2 q (bothA o d)) := hq _ (fun b q => Nat.lt_of_lt_of_le q HC1.out.size)
        clear hb hq
        refine hK.out _ _ ((FS10.out _ HC2.out)) (fun hHeld2 => ?_)
        clear hK K hHeld; have hHeld := hHeld2; clear hHeld2
        try simp only [Act.put, zS, z0, z1]
        refine rdy 4 rfl fun K hK => ?_
        obtain ⟨bn, hbn⟩ : ∃ q, v2.heap.size = q := ⟨_, rfl⟩
        go_simp
        (try rw [hbn])
        obtain ⟨v3, hv3⟩ : ∃ q, v2.alloc (Obj.cells #[.bool false, .slice none 0 0, .slice none 0 0, .slice none 0 0, .int .i64 0, .int .i64 0] 37) = q := ⟨_, rfl⟩
        (try rw [hv3])
        (try rw [show (v2.alloc (Obj.cells #[.bool false, .slice none 0 0, .slice none 0 0, .slice none 0 0, .int .i64 0, .int .i64 0] 37)).drew = v3 from hv3])
        have HC3 : Hid (Below W2.heap.size W2 v3) := by rw [← hv3]; exact HC2.out.alloc (HC2.out.size) _
        have HNW3 : Hid (Bx v3 bn #[.bool false, .slice none 0 0, .slice none 0 0, .slice none 0 0, .int .i64 0, .int .i64 0] 37) := by rw [← hv3]; exact Bx.new' (w := v2) hbn _ _
        have HBN : Hid (W2.heap.size ≤ bn) := by rw [Hid, ← hbn]; exact HC2.out.size
        have HDq3 : Hid (Dc (fun b => b < W2.heap.size ∨ b = bn) v3 q (bothA o d)) := by
          rw [← hv3]
          exact HDq2.out.go (Kept.of_below ((Below.refl _ _).alloc (Nat.le_refl _) _)) (fun b hb => hb.elim .inl (fun e => .inr (by omega)))
        clear hv3 hbn
        refine hK.out _ _ ((FS10.out _ HC3.out)) (fun hHeld2 => ?_)
        clear hK K hHeld; have hHeld := hHeld2; clear hHeld2
        try simp only [Act.put, zS, z0, z1]
        refine rdy 5 rfl fun K hK => ?_
        refine stepR rfl 37 (.tmp 9) (.tmp 48) rfl bn q (by with_unfolding_all rfl) (by with_unfolding_all rfl) HNW3.out (by rfl) HDq3.out.len Tryz.sizeDom HDq3.out.one ?_
        refine hK.out _ _ ((FS10.out _ (below_row HC3.out HBN.out _))) (fun hHeld2 => ?_)
        clear hK K hHeld; have hHeld := hHeld2; clear hHeld2
        try simp only [Act.put, zS, z0, z1]
        refine wpAnyH_done (by kernel_rfl) ?_ _
        exact ⟨bn, q, rfl, below_row HC3.out HBN.out _, HBN.out, HNW3.out.setRow _, HDq3.out.kept ⟨rfl, rfl, rfl, by simp [World.setRow], fun b _ hb => setRow_other _ _ b _ (fun e => hb (.inr e))⟩⟩
      refine AllReadyH.cons rfl (fun K hK => ?_) ?_
      · obtain ⟨bn, hbn⟩ : ∃ q, v1.heap.size = q := ⟨_, rfl⟩
        go_simp
        (try rw [hbn])
        obtain ⟨v2, hv2⟩ : ∃ q, v1.alloc (Obj.cells #[.bool false, .slice none 0 0, .slice none 0 0, .slice none 0 0, .int .i64 0, .int .i64 0] 37) = q := ⟨_, rfl⟩
        (try rw [hv2])
        (try rw [show (v1.alloc (Obj.cells #[.bool false, .slice none 0 0, .slice none 0 0, .slice none 0 0, .int .i64 0, .int .i64 0] 37)).drew = v2 from hv2])
        have HC2 : Hid (Below W2.heap.size W2 v2) := by rw [← hv2]; exact HC1.out.alloc (HC1.out.size) _
        have HNW2 : Hid (Bx v2 bn #[.bool false, .slice none 0 0, .slice none 0 0, .slice none 0 0, .int .i64 0, .int .i64 0] 37) := by rw [← hv2]; exact Bx.new' (w := v1) hbn _ _
        have HBN : Hid (W2.heap.size ≤ bn) := by rw [Hid, ← hbn]; exact HC1.out.size
        clear hv2 hbn
        refine hK.out _ _ ((FS10.out _ HC2.out)) (fun hHeld2 => ?_)
        clear hK K hHeld; have hHeld := hHeld2; clear hHeld2
        try simp only [Act.put, zS, z0, z1]
        refine rdy 3 rfl fun K hK => ?_
        go_simp
        refine (KW.out _ HC2.out).mono ?_
        rintro e v3 ⟨q, rfl, hq, hb⟩
        have HC3 := hid (HC2.out.trans (hb.mono HC2.out.size))
        have HNW3 := hid (HNW2.out.below hb)
        have HDq3 : Hid (Dc (fun b => b < W2.heap.size ∨ b = bn) v3 q (bothA o d)) := hq _ (fun b hb => hb.elim (fun q => Nat.lt_of_lt_of_le q HC2.out.size) (fun q => by subst q; exact HNW2.out.lt))
        clear hb hq
        refine hK.out _ _ ((FS10.out _ HC3.out)) (fun hHeld2 => ?_)
        clear hK K hHeld; have hHeld := hHeld2; clear hHeld2
        try simp only [Act.put, zS, z0, z1]
        refine rdy 5 rfl fun K hK => ?_
        refine stepR rfl 37 (.tmp 9) (.tmp 48) rfl bn q (by with_unfolding_all rfl) (by with_unfolding_all rfl) HNW3.out (by rfl) HDq3.out.len Tryz.sizeDom HDq3.out.one ?_
        refine hK.out _ _ ((FS10.out _ (below_row HC3.out HBN.out _))) (fun hHeld2 => ?_)
        clear hK K hHeld; have hHeld := hHeld2; clear hHeld2
        try simp only [Act.put, zS, z0, z1]
        refine wpAnyH_done (by kernel_rfl) ?_ _
        exact ⟨bn, q, rfl, below_row HC3.out HBN.out _, HBN.out, HNW3.out.setRow _, HDq3.out.kept ⟨rfl, rfl, rfl, by simp [World.setRow], fun b _ hb => setRow_other _ _ b _ (fun e => hb (.inr e))⟩⟩
      exact AllReadyH.nil
    refine AllReadyH.cons rfl (fun K hK => ?_) ?_
    · obtain ⟨bn, hbn⟩ : ∃ q, W2.heap.size = q := ⟨_, rfl⟩
      go_simp
      (try rw [hbn])
      obtain ⟨v1, hv1⟩ : ∃ q, W2.drew.alloc (Obj.cells #[.bool false, .slice none 0 0, .slice none 0 0, .slice none 0 0, .int .i64 0, .int .i64 0] 37) = q := ⟨_, rfl⟩
      (try rw [hv1])
      (try rw [show (W2.alloc (Obj.cells #[.bool false, .slice none 0 0, .slice none 0 0, .slice none 0 0, .int .i64 0, .int .i64 0] 37)).drew = v1 from hv1])
      have HC1 : Hid (Below W2.heap.size W2 v1) := by rw [← hv1]; exact HC0.out.alloc (HC0.out.size) _
      have HNW1 : Hid (Bx v1 bn #[.bool false, .slice none 0 0, .slice none 0 0, .slice none 0 0, .int .i64 0, .int .i64 0] 37) := by rw [← hv1]; exact Bx.new' (w := W2.drew) hbn _ _
      have HBN : Hid (W2.heap.size ≤ bn) := by rw [Hid, ← hbn]; exact Nat.le_refl _
      clear hv1 hbn
      refine hK.out _ _ ((FS10.out _ HC1.out)) (fun hHeld2 => ?_)
      clear hK K hHeld; have hHeld := hHeld2; clear hHeld2
      try simp only [Act.put, zS, z0, z1]
      refine rdy 1 rfl fun K hK => ?_
      go_simp
      refine (KN.out _ HC1.out).mono ?_
      rintro e v2 ⟨rfl, hb⟩
      have HC2 := hid (HC1.out.trans (hb.mono HC1.out.size))
      have HNW2 := hid (HNW1.out.below hb)
      clear hb
      refine hK.out _ _ ((FS10.out _ HC2.out)) (fun hHeld2 => ?_)
      clear hK K hHeld; have hHeld := hHeld2; clear hHeld2
      try simp only [Act.put, zS, z0, z1]
      refine rdy 3 rfl fun K hK => ?_
      go_simp
      refine (KW.out _ HC2.out).mono ?_
      rintro e v3 ⟨q, rfl, hq, hb⟩
      have HC3 := hid (HC2.out.trans (hb.mono HC2.out.size))
      have HNW3 := hid (HNW2.out.below hb)
      have HDq3 : Hid (Dc (fun b => b < W2.heap.size ∨ b = bn) v3 q (bothA o d)) := hq _ (fun b hb => hb.elim (fun q => Nat.lt_of_lt_of_le q HC2.out.size) (fun q => by subst q; exact HNW2.out.lt))
      clear hb hq
      refine hK.out _ _ ((FS10.out _ HC3.out)) (fun hHeld2 => ?_)
      clear hK K hHeld; have hHeld := hHeld2; clear hHeld2
      try simp only [Act.put, zS, z0, z1]
      refine rdy 5 rfl fun K hK => ?_
      refine stepR rfl 37 (.tmp 9) (.tmp 48) rfl bn q (by with_unfolding_all rfl) (by with_unfolding_all rfl) HNW3.out (by rfl) HDq3.out.len Tryz.sizeDom HDq3.out.one ?_
      refine hK.out _ _ ((FS10.out _ (below_row HC3.out HBN.out _))) (fun hHeld2 => ?_)
      clear hK K hHeld; have hHeld := hHeld2; clear hHeld2
      try simp only [Act.put, zS, z0, z1]
      refine wpAnyH_done (by kernel_rfl) ?_ _
      exact ⟨bn, q, rfl, below_row HC3.out HBN.out _, HBN.out, HNW3.out.setRow _, HDq3.out.kept ⟨rfl, rfl, rfl, by simp [World.setRow], fun b _ hb => setRow_other _ _ b _ (fun e => hb (.inr e))⟩⟩
    exact AllReadyH.nil
  case hK =>
    rintro bn q V ⟨HBV, hbn, hnx, hdq⟩
    obtain ⟨b2, r2, m0, k0, p1, m1, k1, p2, m2, k2, x2, y2, rfl, HE2, _, _, _⟩ := hdq.look
    obtain rfl : b2 = true := by rw [← HE2.out.1, bothA_set]; exact HSO.out
    have HDQ : Hid (Dc (fun b => b < W2.heap.size ∨ b = bn) V [.bool true, .slice r2 m0 k0, .slice p1 m1 k1, .slice p2 m2 k2, .int .i64 x2, .int .i64 y2] (bothA o d)) := hdq
    have HNX : Hid (Bx V bn #[.bool true, .slice r2 m0 k0, .slice p1 m1 k1, .slice p2 m2 k2, .int .i64 x2, .int .i64 y2] 37) := hnx
    have HBOV := hid (HBO.out.below HBV)
    have HB0V := hid (HB2.out.trans (HBV.mono HB2.out.size))
    have HSV := hid (HS.out.below HB0V.out)
    have HCOV := hid (HCO.out.below HB0V.out)
    have HBWS : Hid (bw ≤ W2.heap.size) := by rw [Hid, ← HBW.out]; exact Nat.le_trans HB00.out.size HB2.out.size
    have HDX : Hid (Dc (XS p ⟨.slice sa k sc, .slice ma m mc, .slice ia n ic, .slice (some ⟨gd, 0, none⟩) n dc, .slice wa n wc⟩) V [.bool true, .slice r2 m0 k0, .slice p1 m1 k1, .slice p2 m2 k2, .int .i64 x2, .int .i64 y2] (bothA o d)) := HDQ.out.up (fun b hb => .inl (.inl (Nat.lt_of_lt_of_le (HXL.out b hb) HBWS.out)))
    have HXO : Hid (¬ XS p ⟨.slice sa k sc, .slice ma m mc, .slice ia n ic, .slice (some ⟨gd, 0, none⟩) n dc, .slice wa n wc⟩ bo) := fun q => HOG.out (HXL.out bo q)
    have HXN : Hid (¬ XS p ⟨.slice sa k sc, .slice ma m mc, .slice ia n ic, .slice (some ⟨gd, 0, none⟩) n dc, .slice wa n wc⟩ bn) := fun q => by have := HXL.out bn q; have := HBWS.out; omega
    have ks := same_d HCOV.out HDX.out (bothA_set o d).symm HFO.out HFX.out
    have hdf : sameA o (bothA o d) = false := HNS.out
    rw [hdf] at ks
    clear hdf
    obtain ⟨t0, t1, t2, t3, t4, t5⟩ := HBOV.out.six
    obtain ⟨u0, u1, u2, u3, u4, u5⟩ := HNX.out.six
    go_wp2_with fail
    refine ks.mono ?_
    clear ks t0 t1 t2 t3 t4 t5 u0 u1 u2 u3 u4 u5
    rintro e w3 ⟨rfl, hb3⟩
    have HS3 := hid (HSV.out.below hb3)
    have HBO3 := hid (HBOV.out.below hb3)
    have HNX3 := hid (HNX.out.below hb3)
    have HCO3 := hid (HCOV.out.below hb3)
    have HDX3 := hid (HDX.out.below hb3)
    have HK3 : Hid (Kept (XS p ⟨.slice sa k sc, .slice ma m mc, .slice ia n ic, .slice (some ⟨gd, 0, none⟩) n dc, .slice wa n wc⟩) W w3) := ((Kept.of_below HB00.out).then_below HB0V.out).then_below hb3
    have HW3 : Hid (W.heap.size ≤ w3.drew.heap.size) := HK3.out.size
    have KSV : Hid _ := save_any (HS3.out.below (Below.refl _ _).drew) (HCO3.out.below (Below.refl _ _).drew) v HVL.out HZ.out (Nat.lt_trans HZS.out (by decide))
    have HZ4 : Hid (Sz (saveM st v o)) := ⟨by rw [(saveM_D st v o).1]; exact HZ.out.1, by rw [(saveM_D st v o).2.2.2.1]; exact HZ.out.2.1, by have := (saveM_D st v o).2.2.2.2; have := HZS.out; omega⟩
    have HZ5 : Hid (Sz (putA (saveM st v o) v o (bothA o d))) := ⟨by show ((saveM st v o).D.set v _).length ≤ 1000; rw [List.length_set]; exact HZ4.out.1, HZ4.out.2.1, HZ4.out.2.2⟩
    have HV5 : Hid (v < (putA (saveM st v o) v o (bothA o d)).D.length) := by show v < ((saveM st v o).D.set v _).length; rw [List.length_set, (saveM_D st v o).1]; exact HVL.out
    clear hb3 HDQ HNX HBOV HB0V HSV HCOV HDX hnx hdq hbn HBV HBO HB2 HBXd KN KW FS10 HC0 HS HCO HCD HBX
    go_upto_region 13 with (fail)
    refine wp_region_held_drew (S := fun X : World => Bx X bo #[.bool true, .slice ra' n0' rc', .slice a1' n1' c1', .slice a2' n2' c2', .int .i64 x', .int .i64 y'] 37) (by kernel_rfl) ((HBO3.out.drew 1)) (fun hHeld => ?_)
    refine tkA 0 oMb22 hHeld ?_
    try simp only [oMb22, Act.put, zS, z0, z1]
    refine tkA 1 oMb23 hHeld ?_
    try simp only [oMb23, Act.put, zS, z0, z1]
    refine tkA 2 oMb24 hHeld ?_
    try simp only [oMb24, Act.put, zS, z0, z1]
    refine tkA 3 oMb25 hHeld ?_
    try simp only [oMb25, Act.put, zS, z0, z1]
    refine tkH 4 oMb26 (v := ?_) hHeld ?_ ?_; rotate_left
    · intro w hSw; dsimp only [oMb26]; obtain ⟨y0, y1, y2, y3, y4, y5⟩ := hSw.six; go_simp <;> with_reducible rfl
    try simp only [oMb26, Act.put, zS, z0, z1]
    refine rdy 5 rfl fun K hK => ?_
    go_simp
    refine Calls.mono KSV.out ?_
    rintro e w4 ⟨rfl, sl1, hs4, hu4, hk4⟩
    have HBO4 : Hid (Bx w4 bo #[.bool true, .slice ra' n0' rc', .slice a1' n1' c1', .slice a2' n2' c2', .int .i64 x', .int .i64 y'] 37) := (HBO3.out.drew 1).kept hk4 HXO.out
    have HNX4 : Hid (Bx w4 bn #[.bool true, .slice r2 m0 k0, .slice p1 m1 k1, .slice p2 m2 k2, .int .i64 x2, .int .i64 y2] 37) := (HNX3.out.drew 1).kept hk4 HXN.out
    have HDX4 : Hid (Dc (XS p sl1) w4 [.bool true, .slice r2 m0 k0, .slice p1 m1 k1, .slice p2 m2 k2, .int .i64 x2, .int .i64 y2] (bothA o d)) := (HDX3.out.below (Below.refl _ _).drew).go hk4 hu4
    have HCO4 : Hid (Dc (XS p sl1) w4 [.bool true, .slice ra' n0' rc', .slice a1' n1' c1', .slice a2' n2' c2', .int .i64 x', .int .i64 y'] o) := (HCO3.out.below (Below.refl _ _).drew).go hk4 hu4
    have HS4 : Hid (Sto w4 p (saveM st v o) sl1) := hs4
    have HU4 : Hid (Up (XS p ⟨.slice sa k sc, .slice ma m mc, .slice ia n ic, .slice (some ⟨gd, 0, none⟩) n dc, .slice wa n wc⟩) (XS p sl1) W) := fun b hb => (hu4 b hb).elim .inl (fun q => .inr (Nat.le_trans HW3.out q))
    have HK4 : Hid (Kept (XS p ⟨.slice sa k sc, .slice ma m mc, .slice ia n ic, .slice (some ⟨gd, 0, none⟩) n dc, .slice wa n wc⟩) W w4) := (HK3.out.then_below (Below.refl _ _).drew).trans hk4 (Up.refl _ _)
    have HXO4 : Hid (¬ XS p sl1 bo) := fun q => (hu4 bo q).elim HXO.out (fun q => absurd (HBO3.out.drew 1).lt (Nat.not_lt.2 q))
    have HXN4 : Hid (¬ XS p sl1 bn) := fun q => (hu4 bn q).elim HXN.out (fun q => absurd (HNX3.out.drew 1).lt (Nat.not_lt.2 q))
    clear hs4 hu4 hk4
    refine hK.out _ _ (HBO4.out) (fun hHeld2 => ?_)
    clear hK K hHeld; have hHeld := hHeld2; clear hHeld2
    try simp only [Act.put, zS, z0, z1]
    refine wpAnyH_done (by kernel_rfl) ?_ _
    obtain ⟨u0, u1, u2, u3, u4, u5⟩ := HNX4.out.six
    have kp := put_d HS4.out HDX4.out v (by rw [(saveM_D st v o).1]; exact HVO.out) (by rw [(saveM_D st v o).2.1, HE0.out]; decide) (by rw [(saveM_D st v o).2.1, HE0.out]; decide) HZ4.out
    go_wp2_with fail
    refine kp.mono ?_
    clear kp u0 u1 u2 u3 u4 u5
    rintro e w5 ⟨rfl, hs5, hk5⟩
    have HS5 : Hid (Sto w5 p (putA (saveM st v o) v o (bothA o d)) sl1) := hs5
    have HBO5 := hid (HBO4.out.kept hk5 HXO4.out)
    have HNX5 := hid (HNX4.out.kept hk5 HXN4.out)
    have HDX5 := hid (HDX4.out.kept hk5)
    have HCO5 := hid (HCO4.out.kept hk5)
    have HK5 := hid (HK4.out.trans hk5 HU4.out)
    clear hs5 hk5
    have kf := failed_any HS5.out
    have hev : (putA (saveM st v o) v o (bothA o d)).e = emptI (emptyA (bothA o d)) := by show (saveM st v o).e + _ = _; rw [(saveM_D st v o).2.1, HE0.out, HOE.out]; simp [emptI]
    rw [hev] at kf
    clear hev
    cases hE : emptyA (bothA o d)
    · rw [hE] at kf
      have hd0 : decide (0 < emptI false) = false := rfl
      rw [hd0] at kf
      clear hd0
      have kc := HKC.out hE _ _ w5 _ _ HCO5.out HDX5.out
      go_wp2_with fail
      refine kf.mono ?_
      clear kf
      rintro e wt ⟨rfl, hwt⟩
      rw [hwt]
      clear hwt wt
      obtain ⟨u0, u1, u2, u3, u4, u5⟩ := HNX5.out.six
      obtain ⟨y0, y1, y2, y3, y4, y5⟩ := HBO5.out.six
      go_wp2_with fail
      refine kc.mono ?_
      clear kc u0 u1 u2 u3 u4 u5 y0 y1 y2 y3 y4 y5
      rintro e w6 ⟨rfl, hb6⟩
      have kt := tell_any (HS5.out.below hb6) HZ5.out v HV5.out chg
      have HK6 := hid (HK5.out.then_below hb6)
      clear hb6
      go_wp2_with fail
      refine kt.mono ?_
      clear kt
      rintro e w7 ⟨rfl, hs7, hk7⟩
      have HS7 : Hid _ := hs7
      have HK7 := hid (HK6.out.trans hk7 HU4.out)
      clear hs7 hk7
      go_wp2
      all_goals
        go_ret2
        refine ⟨rfl, sl1, ?_, HU4.out, HK7.out⟩
        rw [narrowA, hE]
        exact HS7.out
    · rw [hE] at kf
      have hd0 : decide (0 < emptI true) = true := rfl
      rw [hd0] at kf
      clear hd0
      go_wp2_with fail
      refine kf.mono ?_
      clear kf
      rintro e wt ⟨rfl, hwt⟩
      rw [hwt]
      clear hwt wt
      go_wp2
      all_goals
        go_ret2
        refine ⟨rfl, sl1, ?_, HU4.out, HK5.out⟩
        rw [narrowA, hE]
        exact HS5.out
end Go.Proofs.YtghnfnieppfhgaaGreat
