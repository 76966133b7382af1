/-
  What is proved here: Narrow by a domain that can not be, or of another kind.
-/
import Derived.Test.YtghnfnieppfhgaaGreatAa
import Derived.Test.YtghnfnieppfhgaaGreatMc
import Derived.Test.YtghnfnieppfhgaaGreatMe
namespace Go.Proofs.YtghnfnieppfhgaaGreat
open Go.RowKit Go.Shelf
set_option linter.unusedVariables false
set_option linter.unusedSimpArgs false
abbrev q14_5_0 : Oper := { dst := some 19, op := Go.Op.load 37 (Go.Operand.tmp 5), type := 37, pos := "store.go:88", after := #[], guard := none }
abbrev q14_5_2 : Oper := { dst := some 21, op := Go.Op.unOp Go.UnOp.not 4 (Go.Operand.tmp 20), type := 4, pos := "store.go:88", after := #[{ on := 1, ground := Go.Ground.data }], guard := none }
abbrev q14_5_3 : Oper := { dst := some 22, op := Go.Op.move (Go.Operand.tmp 21), type := 4, pos := "store.go:88", after := #[{ on := 2, ground := Go.Ground.data }, { on := 1, ground := Go.Ground.chain }], guard := none }
abbrev q14_5_4 : Oper := { dst := some 23, op := Go.Op.fieldAddr 37 (Go.Operand.tmp 5) 0, type := 0, pos := "store.go:88", after := #[{ on := 3, ground := Go.Ground.guard }], guard := some (3, false) }
abbrev q14_5_5 : Oper := { dst := some 24, op := Go.Op.load 4 (Go.Operand.tmp 23), type := 4, pos := "store.go:88", after := #[{ on := 4, ground := Go.Ground.data }, { on := 3, ground := Go.Ground.guard }], guard := some (3, false) }
abbrev q14_5_6 : Oper := { dst := some 25, op := Go.Op.move (Go.Operand.tmp 0), type := 25, pos := "store.go:88", after := #[{ on := 3, ground := Go.Ground.guard }], guard := some (3, false) }
abbrev q14_5_7 : Oper := { dst := some 26, op := Go.Op.nilCheck (Go.Operand.tmp 25), type := 0, pos := "store.go:88", after := #[{ on := 6, ground := Go.Ground.data }, { on := 3, ground := Go.Ground.guard }], guard := some (3, false) }
abbrev q14_5_8 : Oper := { dst := some 27, op := Go.Op.fieldAddr 68 (Go.Operand.tmp 26) 1, type := 0, pos := "store.go:88", after := #[{ on := 7, ground := Go.Ground.data }, { on := 3, ground := Go.Ground.guard }], guard := some (3, false) }
abbrev q14_5_9 : Oper := { dst := some 28, op := Go.Op.load 22 (Go.Operand.tmp 27), type := 22, pos := "store.go:88", after := #[{ on := 8, ground := Go.Ground.data }, { on := 3, ground := Go.Ground.guard }], guard := some (3, false) }
abbrev q14_5_10 : Oper := { dst := some 29, op := Go.Op.move (Go.Operand.tmp 1), type := 3, pos := "store.go:88", after := #[{ on := 3, ground := Go.Ground.guard }], guard := some (3, false) }
abbrev q14_5_11 : Oper := { dst := some 30, op := Go.Op.indexAddr 22 (Go.Operand.tmp 28) (Go.Operand.tmp 29), type := 0, pos := "store.go:88", after := #[{ on := 9, ground := Go.Ground.data }, { on := 10, ground := Go.Ground.data }, { on := 3, ground := Go.Ground.guard }], guard := some (3, false) }
abbrev q14_5_12 : Oper := { dst := some 31, op := Go.Op.fieldAddr 37 (Go.Operand.tmp 30) 0, type := 0, pos := "store.go:88", after := #[{ on := 11, ground := Go.Ground.data }, { on := 3, ground := Go.Ground.guard }], guard := some (3, false) }
abbrev q14_5_13 : Oper := { dst := some 32, op := Go.Op.load 4 (Go.Operand.tmp 31), type := 4, pos := "store.go:88", after := #[{ on := 12, ground := Go.Ground.data }, { on := 3, ground := Go.Ground.guard }], guard := some (3, false) }
abbrev q14_5_14 : Oper := { dst := some 33, op := Go.Op.binOp Go.BinOp.neq 4 (Go.Operand.tmp 24) (Go.Operand.tmp 32) 4, type := 4, pos := "store.go:88", after := #[{ on := 5, ground := Go.Ground.data }, { on := 13, ground := Go.Ground.data }, { on := 3, ground := Go.Ground.guard }], guard := some (3, false) }
abbrev q14_5_15 : Oper := { dst := some 34, op := Go.Op.pick (Go.Operand.tmp 22) (Go.Operand.const (Go.Value.bool true)) (Go.Operand.tmp 33), type := 4, pos := "store.go:88", after := #[{ on := 3, ground := Go.Ground.data }, { on := 14, ground := Go.Ground.data }], guard := none }
abbrev q14_5_16 : Oper := { dst := some 18, op := Go.Op.assign (Go.Operand.tmp 34), type := 4, pos := "store.go:88", after := #[{ on := 15, ground := Go.Ground.data }, { on := 3, ground := Go.Ground.chain }], guard := none }

set_option maxRecDepth 100000 in
set_option maxHeartbeats 4000000 in
theorem narrow_bad1 [Gh] {W : World} {p : Nat} {st : StM} {sl : Sl} {c : List Value} {d o : MD} (h : Sto W p st sl) (hc : Dc (XS p sl) W c d) (v : Nat) (hv : st.D[v]? = some o) (hf : Dm.FitsR d.r) (hR : rightM d = false) (hz : Sz st) :
    Calls Tryz.prog 14 #[ptr p, .int .i64 v, .agg c.toArray] W fun e w' => e = .returned (.tuple #[.int .i64 0, .int .i64 20]) ∧ Below W.heap.size W w' := by
  have hvl : v < st.D.length := (List.getElem?_eq_some_iff.1 hv).1
  obtain ⟨n, k, m, sa, sc, ma, mc, ia, ic, da, dc, wa, wc, rfl, HL⟩ := h.look
  obtain ⟨gd, cap, c', e1, hgd, hcap, hcm, hr, hth, hco⟩ := h.dom_at hv
  injection e1 with e1 e2 e3
  subst e1 e3
  clear e2
  have hvn : v < n := by rw [← HL.out.1]; exact hvl
  have hn1 : n ≤ 1000 := by rw [← HL.out.1]; exact hz.1
  obtain ⟨b, ra, n0, rc, a1, n1, c1, a2, n2, c2, x, y, ec, HE, H1, H2, H3⟩ := hc.look
  obtain ⟨b', ra', n0', rc', a1', n1', c1', a2', n2', c2', x', y', ec', HE', H1', H2', H3'⟩ := hco.look
  subst ec ec'
  skip
  skip
  obtain ⟨bw, hbw⟩ : ∃ q, W.heap.size = q := ⟨_, rfl⟩
  obtain ⟨W0, hW0⟩ : ∃ Q, W.alloc (Obj.cells #[.bool b, .slice ra n0 rc, .slice a1 n1 c1, .slice a2 n2 c2, .int .i64 x, .int .i64 y] 37) = Q := ⟨_, rfl⟩
  have hb0 : Below W.heap.size W W0 := by rw [← hW0]; exact (Below.refl _ W).alloc (Nat.le_refl _) _
  have HBX : Hid (Bx W0 bw #[.bool b, .slice ra n0 rc, .slice a1 n1 c1, .slice a2 n2 c2, .int .i64 x, .int .i64 y] 37) := by rw [← hW0]; exact Bx.new' hbw _ _
  have HS := hid (h.below hb0)
  have hgd0 : gd < W0.heap.size := Nat.lt_of_lt_of_le hgd hb0.size
  have HRG : Hid (∀ X, Below W0.heap.size W0 X → X.rangeAt gd (v * 6) [.bool b', .slice ra' n0' rc', .slice a1' n1' c1', .slice a2' n2' c2', .int .i64 x', .int .i64 y']) := fun X hX j u hu => (hX.cell (p := ⟨gd, v * 6 + j, none⟩) hgd0).trans ((hb0.cell (p := ⟨gd, v * 6 + j, none⟩) hgd).trans (hr j u hu))
  have HCD := hid (hc.below hb0)
  have HCO := hid (hco.below hb0)
  have KR : Hid (∀ X, Below W0.heap.size W0 X → Calls Tryz.prog 30 #[.agg #[.bool b, .slice ra n0 rc, .slice a1 n1 c1, .slice a2 n2 c2, .int .i64 x, .int .i64 y]] X fun e w' => e = .returned (.bool false) ∧ Below X.heap.size X w') := fun X hX => by have := right_d (HCD.out.below hX) hf; rw [hR] at this; exact this
  have kt := there_any HS.out hz v
  have htb : thereB st v = true := by unfold thereB; simp; exact hvl
  rw [htb] at kt
  have FS5 : Hid (∀ X, Below W0.heap.size W0 X → X.cell? ⟨p, 3, none⟩ = some (.slice (some ⟨gd, 0, none⟩) n dc) ∧ X.cell? ⟨gd, v * 6, none⟩ = some (.bool b') ∧ Bx X bw #[.bool b, .slice ra n0 rc, .slice a1 n1 c1, .slice a2 n2 c2, .int .i64 x, .int .i64 y] 37) := fun X hX => ⟨(HS.out.below hX).cells.2.2.2.1, (rng6 (HRG.out X hX)).1, HBX.out.below hX⟩
  have HFD : Hid (Dm.FitsR d.r) := hf
  have HZ : Hid (Sz st) := hz
  have HVO : Hid (st.D[v]? = some o) := hv
  have HVL : Hid (v < st.D.length) := hvl
  have HH : Hid (Sto W p st ⟨.slice sa k sc, .slice ma m mc, .slice ia n ic, .slice (some ⟨gd, 0, none⟩) n dc, .slice wa n wc⟩) := h
  have HB00 : Hid (Below W.heap.size W W0) := hb0
  have HB0 : Hid (Below W0.heap.size W0 W0.drew) := (Below.refl _ _).drew
  have HW0 : Hid _ := hW0
  have HBW : Hid (W.heap.size = bw) := hbw
  have HXL : Hid (∀ b, XS p ⟨.slice sa k sc, .slice ma m mc, .slice ia n ic, .slice (some ⟨gd, 0, none⟩) n dc, .slice wa n wc⟩ b → b < bw) := by rw [Hid, ← hbw]; exact h.x_lt
  have hcapn : n ≤ dc := by rw [← HL.out.1]; exact hcap
  clear hW0 hbw hb0 h hc hco hz hr hth hgd hvl hf hv hR htb hcap H1 H2 H3 H1' H2' H3' HE HE'
  have hvi : (v : Int) < n := by omega
  go_enter Tryz.func14, Tryz.ntmps14
  go_wp2_with fail
  rw [HW0.out]
  refine kt.mono ?_
  clear kt
  rintro e wt ⟨rfl, hwt⟩
  rw [hwt]
  clear hwt wt
  go_upto_region 5 with (fail)
  (try rw [HW0.out])
  (try rw [HBW.out])
  refine wp_region_held_drew (S := fun X : World => X.cell? ⟨p, 3, none⟩ = some (.slice (some ⟨gd, 0, none⟩) n dc) ∧ X.cell? ⟨gd, v * 6, none⟩ = some (.bool b') ∧ Bx X bw #[.bool b, .slice ra n0 rc, .slice a1 n1 c1, .slice a2 n2 c2, .int .i64 x, .int .i64 y] 37) (by kernel_rfl) ((FS5.out _ HB0.out)) (fun hHeld => ?_)
  refine wpAnyH_take (i := 0) (oi := q14_5_0) (v := ?_) rfl (by kernel_rfl) (by kernel_rfl) (by kernel_rfl) (fun _ _ _ h => h) (Or.inl ⟨by rfl, ?_⟩) hHeld ?_
  rotate_left
  · intro w hSw; dsimp only [q14_5_0]; obtain ⟨q3, qd, hN⟩ := hSw; obtain ⟨u0, u1, u2, u3, u4, u5⟩ := hN.six; go_simp <;> with_reducible rfl
  try simp only [q14_5_0, Act.put, List.setIfInBounds_toArray, List.set_cons_zero, List.set_cons_succ]
  refine rdy 1 rfl fun K hK => ?_
  go_simp
  refine (KR.out _ HB0.out).mono ?_
  rintro e w1 ⟨rfl, hb⟩
  have HB1 := hid (HB0.out.trans (hb.mono HB0.out.size))
  clear hb
  refine hK.out _ _ ((FS5.out _ HB1.out)) (fun hHeld2 => ?_)
  clear hK K hHeld; have hHeld := hHeld2; clear hHeld2
  try simp only [Act.put, List.setIfInBounds_toArray, List.set_cons_zero, List.set_cons_succ]
  refine wpAnyH_take (i := 2) (oi := q14_5_2) (v := ?_) rfl (by kernel_rfl) (by kernel_rfl) (by kernel_rfl) (fun _ _ _ h => h) (Or.inl ⟨by rfl, ?_⟩) hHeld ?_
  rotate_left
  · intro w hSw; dsimp only [q14_5_2]; (try dsimp only at hSw); go_simp <;> with_reducible rfl
  try simp only [q14_5_2, Act.put, List.setIfInBounds_toArray, List.set_cons_zero, List.set_cons_succ]
  refine wpAnyH_take (i := 3) (oi := q14_5_3) (v := ?_) rfl (by kernel_rfl) (by kernel_rfl) (by kernel_rfl) (fun _ _ _ h => h) (Or.inl ⟨by rfl, ?_⟩) hHeld ?_
  rotate_left
  · intro w hSw; dsimp only [q14_5_3]; (try dsimp only at hSw); go_simp <;> with_reducible rfl
  try simp only [q14_5_3, Act.put, List.setIfInBounds_toArray, List.set_cons_zero, List.set_cons_succ]
  refine wpAnyH_take (i := 4) (oi := q14_5_4) (v := undef) rfl (by kernel_rfl) (by kernel_rfl) (by kernel_rfl) (fun _ _ _ h => h) (Or.inr ⟨by rfl, rfl⟩) hHeld ?_
  try simp only [q14_5_4, Act.put, List.setIfInBounds_toArray, List.set_cons_zero, List.set_cons_succ]
  refine wpAnyH_take (i := 5) (oi := q14_5_5) (v := undef) rfl (by kernel_rfl) (by kernel_rfl) (by kernel_rfl) (fun _ _ _ h => h) (Or.inr ⟨by rfl, rfl⟩) hHeld ?_
  try simp only [q14_5_5, Act.put, List.setIfInBounds_toArray, List.set_cons_zero, List.set_cons_succ]
  refine wpAnyH_take (i := 6) (oi := q14_5_6) (v := undef) rfl (by kernel_rfl) (by kernel_rfl) (by kernel_rfl) (fun _ _ _ h => h) (Or.inr ⟨by rfl, rfl⟩) hHeld ?_
  try simp only [q14_5_6, Act.put, List.setIfInBounds_toArray, List.set_cons_zero, List.set_cons_succ]
  refine wpAnyH_take (i := 7) (oi := q14_5_7) (v := undef) rfl (by kernel_rfl) (by kernel_rfl) (by kernel_rfl) (fun _ _ _ h => h) (Or.inr ⟨by rfl, rfl⟩) hHeld ?_
  try simp only [q14_5_7, Act.put, List.setIfInBounds_toArray, List.set_cons_zero, List.set_cons_succ]
  refine wpAnyH_take (i := 8) (oi := q14_5_8) (v := undef) rfl (by kernel_rfl) (by kernel_rfl) (by kernel_rfl) (fun _ _ _ h => h) (Or.inr ⟨by rfl, rfl⟩) hHeld ?_
  try simp only [q14_5_8, Act.put, List.setIfInBounds_toArray, List.set_cons_zero, List.set_cons_succ]
  refine wpAnyH_take (i := 9) (oi := q14_5_9) (v := undef) rfl (by kernel_rfl) (by kernel_rfl) (by kernel_rfl) (fun _ _ _ h => h) (Or.inr ⟨by rfl, rfl⟩) hHeld ?_
  try simp only [q14_5_9, Act.put, List.setIfInBounds_toArray, List.set_cons_zero, List.set_cons_succ]
  refine wpAnyH_take (i := 10) (oi := q14_5_10) (v := undef) rfl (by kernel_rfl) (by kernel_rfl) (by kernel_rfl) (fun _ _ _ h => h) (Or.inr ⟨by rfl, rfl⟩) hHeld ?_
  try simp only [q14_5_10, Act.put, List.setIfInBounds_toArray, List.set_cons_zero, List.set_cons_succ]
  refine wpAnyH_take (i := 11) (oi := q14_5_11) (v := undef) rfl (by kernel_rfl) (by kernel_rfl) (by kernel_rfl) (fun _ _ _ h => h) (Or.inr ⟨by rfl, rfl⟩) hHeld ?_
  try simp only [q14_5_11, Act.put, List.setIfInBounds_toArray, List.set_cons_zero, List.set_cons_succ]
  refine wpAnyH_take (i := 12) (oi := q14_5_12) (v := undef) rfl (by kernel_rfl) (by kernel_rfl) (by kernel_rfl) (fun _ _ _ h => h) (Or.inr ⟨by rfl, rfl⟩) hHeld ?_
  try simp only [q14_5_12, Act.put, List.setIfInBounds_toArray, List.set_cons_zero, List.set_cons_succ]
  refine wpAnyH_take (i := 13) (oi := q14_5_13) (v := undef) rfl (by kernel_rfl) (by kernel_rfl) (by kernel_rfl) (fun _ _ _ h => h) (Or.inr ⟨by rfl, rfl⟩) hHeld ?_
  try simp only [q14_5_13, Act.put, List.setIfInBounds_toArray, List.set_cons_zero, List.set_cons_succ]
  refine wpAnyH_take (i := 14) (oi := q14_5_14) (v := undef) rfl (by kernel_rfl) (by kernel_rfl) (by kernel_rfl) (fun _ _ _ h => h) (Or.inr ⟨by rfl, rfl⟩) hHeld ?_
  try simp only [q14_5_14, Act.put, List.setIfInBounds_toArray, List.set_cons_zero, List.set_cons_succ]
  refine wpAnyH_take (i := 15) (oi := q14_5_15) (v := .bool true) rfl (by kernel_rfl) (by kernel_rfl) (by kernel_rfl) (fun _ _ _ h => h) (Or.inl ⟨by rfl, ?_⟩) hHeld ?_
  skip
  · intro w hSw; dsimp only [q14_5_15]; go_simp <;> first | done | with_reducible rfl | simp
  try simp only [q14_5_15, Act.put, List.setIfInBounds_toArray, List.set_cons_zero, List.set_cons_succ]
  refine wpAnyH_take (i := 16) (oi := q14_5_16) (v := ?_) rfl (by kernel_rfl) (by kernel_rfl) (by kernel_rfl) (fun _ _ _ h => h) (Or.inl ⟨by rfl, ?_⟩) hHeld ?_
  rotate_left
  · intro w hSw; dsimp only [q14_5_16]; (try dsimp only at hSw); go_simp <;> with_reducible rfl
  try simp only [q14_5_16, Act.put, List.setIfInBounds_toArray, List.set_cons_zero, List.set_cons_succ]
  refine wpAnyH_done (by kernel_rfl) ?_ _
  go_wp2
  all_goals
    go_ret2
    exact ⟨rfl, HB00.out.trans (HB1.out.mono HB00.out.size)⟩

set_option maxRecDepth 100000 in
set_option maxHeartbeats 4000000 in
theorem narrow_bad2 [Gh] {W : World} {p : Nat} {st : StM} {sl : Sl} {c : List Value} {d o : MD} (h : Sto W p st sl) (hc : Dc (XS p sl) W c d) (v : Nat) (hv : st.D[v]? = some o) (hk : d.set ≠ o.set) (hf : Dm.FitsR d.r) (hR : rightM d = true) (hz : Sz st) :
    Calls Tryz.prog 14 #[ptr p, .int .i64 v, .agg c.toArray] W fun e w' => e = .returned (.tuple #[.int .i64 0, .int .i64 20]) ∧ Below W.heap.size W w' := by
  have hvl : v < st.D.length := (List.getElem?_eq_some_iff.1 hv).1
  obtain ⟨n, k, m, sa, sc, ma, mc, ia, ic, da, dc, wa, wc, rfl, HL⟩ := h.look
  obtain ⟨gd, cap, c', e1, hgd, hcap, hcm, hr, hth, hco⟩ := h.dom_at hv
  injection e1 with e1 e2 e3
  subst e1 e3
  clear e2
  have hvn : v < n := by rw [← HL.out.1]; exact hvl
  have hn1 : n ≤ 1000 := by rw [← HL.out.1]; exact hz.1
  obtain ⟨b, ra, n0, rc, a1, n1, c1, a2, n2, c2, x, y, ec, HE, H1, H2, H3⟩ := hc.look
  obtain ⟨b', ra', n0', rc', a1', n1', c1', a2', n2', c2', x', y', ec', HE', H1', H2', H3'⟩ := hco.look
  subst ec ec'
  skip
  skip
  have hbb : (b != b') = true := by have : b ≠ b' := fun e => hk (by rw [HE.out.1, HE'.out.1, e]); simpa using this
  obtain ⟨bw, hbw⟩ : ∃ q, W.heap.size = q := ⟨_, rfl⟩
  obtain ⟨W0, hW0⟩ : ∃ Q, W.alloc (Obj.cells #[.bool b, .slice ra n0 rc, .slice a1 n1 c1, .slice a2 n2 c2, .int .i64 x, .int .i64 y] 37) = Q := ⟨_, rfl⟩
  have hb0 : Below W.heap.size W W0 := by rw [← hW0]; exact (Below.refl _ W).alloc (Nat.le_refl _) _
  have HBX : Hid (Bx W0 bw #[.bool b, .slice ra n0 rc, .slice a1 n1 c1, .slice a2 n2 c2, .int .i64 x, .int .i64 y] 37) := by rw [← hW0]; exact Bx.new' hbw _ _
  have HS := hid (h.below hb0)
  have hgd0 : gd < W0.heap.size := Nat.lt_of_lt_of_le hgd hb0.size
  have HRG : Hid (∀ X, Below W0.heap.size W0 X → X.rangeAt gd (v * 6) [.bool b', .slice ra' n0' rc', .slice a1' n1' c1', .slice a2' n2' c2', .int .i64 x', .int .i64 y']) := fun X hX j u hu => (hX.cell (p := ⟨gd, v * 6 + j, none⟩) hgd0).trans ((hb0.cell (p := ⟨gd, v * 6 + j, none⟩) hgd).trans (hr j u hu))
  have HCD := hid (hc.below hb0)
  have HCO := hid (hco.below hb0)
  have KR : Hid (∀ X, Below W0.heap.size W0 X → Calls Tryz.prog 30 #[.agg #[.bool b, .slice ra n0 rc, .slice a1 n1 c1, .slice a2 n2 c2, .int .i64 x, .int .i64 y]] X fun e w' => e = .returned (.bool true) ∧ Below X.heap.size X w') := fun X hX => by have := right_d (HCD.out.below hX) hf; rw [hR] at this; exact this
  have kt := there_any HS.out hz v
  have htb : thereB st v = true := by unfold thereB; simp; exact hvl
  rw [htb] at kt
  have FS5 : Hid (∀ X, Below W0.heap.size W0 X → X.cell? ⟨p, 3, none⟩ = some (.slice (some ⟨gd, 0, none⟩) n dc) ∧ X.cell? ⟨gd, v * 6, none⟩ = some (.bool b') ∧ Bx X bw #[.bool b, .slice ra n0 rc, .slice a1 n1 c1, .slice a2 n2 c2, .int .i64 x, .int .i64 y] 37) := fun X hX => ⟨(HS.out.below hX).cells.2.2.2.1, (rng6 (HRG.out X hX)).1, HBX.out.below hX⟩
  have HFD : Hid (Dm.FitsR d.r) := hf
  have HZ : Hid (Sz st) := hz
  have HVO : Hid (st.D[v]? = some o) := hv
  have HVL : Hid (v < st.D.length) := hvl
  have HH : Hid (Sto W p st ⟨.slice sa k sc, .slice ma m mc, .slice ia n ic, .slice (some ⟨gd, 0, none⟩) n dc, .slice wa n wc⟩) := h
  have HB00 : Hid (Below W.heap.size W W0) := hb0
  have HB0 : Hid (Below W0.heap.size W0 W0.drew) := (Below.refl _ _).drew
  have HW0 : Hid _ := hW0
  have HBW : Hid (W.heap.size = bw) := hbw
  have HXL : Hid (∀ b, XS p ⟨.slice sa k sc, .slice ma m mc, .slice ia n ic, .slice (some ⟨gd, 0, none⟩) n dc, .slice wa n wc⟩ b → b < bw) := by rw [Hid, ← hbw]; exact h.x_lt
  have hcapn : n ≤ dc := by rw [← HL.out.1]; exact hcap
  clear hW0 hbw hb0 h hc hco hz hr hth hgd hvl hf hv hR hk htb hcap H1 H2 H3 H1' H2' H3' HE HE'
  have hvi : (v : Int) < n := by omega
  go_enter Tryz.func14, Tryz.ntmps14
  go_wp2_with fail
  rw [HW0.out]
  refine kt.mono ?_
  clear kt
  rintro e wt ⟨rfl, hwt⟩
  rw [hwt]
  clear hwt wt
  go_upto_region 5 with (fail)
  (try rw [HW0.out])
  (try rw [HBW.out])
  refine wp_region_held_drew (S := fun X : World => X.cell? ⟨p, 3, none⟩ = some (.slice (some ⟨gd, 0, none⟩) n dc) ∧ X.cell? ⟨gd, v * 6, none⟩ = some (.bool b') ∧ Bx X bw #[.bool b, .slice ra n0 rc, .slice a1 n1 c1, .slice a2 n2 c2, .int .i64 x, .int .i64 y] 37) (by kernel_rfl) ((FS5.out _ HB0.out)) (fun hHeld => ?_)
  refine wpAnyH_take (i := 0) (oi := q14_5_0) (v := ?_) rfl (by kernel_rfl) (by kernel_rfl) (by kernel_rfl) (fun _ _ _ h => h) (Or.inl ⟨by rfl, ?_⟩) hHeld ?_
  rotate_left
  · intro w hSw; dsimp only [q14_5_0]; obtain ⟨q3, qd, hN⟩ := hSw; obtain ⟨u0, u1, u2, u3, u4, u5⟩ := hN.six; go_simp <;> with_reducible rfl
  try simp only [q14_5_0, Act.put, List.setIfInBounds_toArray, List.set_cons_zero, List.set_cons_succ]
  refine rdy 1 rfl fun K hK => ?_
  go_simp
  refine (KR.out _ HB0.out).mono ?_
  rintro e w1 ⟨rfl, hb⟩
  have HB1 := hid (HB0.out.trans (hb.mono HB0.out.size))
  clear hb
  refine hK.out _ _ ((FS5.out _ HB1.out)) (fun hHeld2 => ?_)
  clear hK K hHeld; have hHeld := hHeld2; clear hHeld2
  try simp only [Act.put, List.setIfInBounds_toArray, List.set_cons_zero, List.set_cons_succ]
  refine wpAnyH_take (i := 2) (oi := q14_5_2) (v := ?_) rfl (by kernel_rfl) (by kernel_rfl) (by kernel_rfl) (fun _ _ _ h => h) (Or.inl ⟨by rfl, ?_⟩) hHeld ?_
  rotate_left
  · intro w hSw; dsimp only [q14_5_2]; (try dsimp only at hSw); go_simp <;> with_reducible rfl
  try simp only [q14_5_2, Act.put, List.setIfInBounds_toArray, List.set_cons_zero, List.set_cons_succ]
  refine wpAnyH_take (i := 3) (oi := q14_5_3) (v := ?_) rfl (by kernel_rfl) (by kernel_rfl) (by kernel_rfl) (fun _ _ _ h => h) (Or.inl ⟨by rfl, ?_⟩) hHeld ?_
  rotate_left
  · intro w hSw; dsimp only [q14_5_3]; (try dsimp only at hSw); go_simp <;> with_reducible rfl
  try simp only [q14_5_3, Act.put, List.setIfInBounds_toArray, List.set_cons_zero, List.set_cons_succ]
  refine wpAnyH_take (i := 4) (oi := q14_5_4) (v := ?_) rfl (by kernel_rfl) (by kernel_rfl) (by kernel_rfl) (fun _ _ _ h => h) (Or.inl ⟨by rfl, ?_⟩) hHeld ?_
  rotate_left
  · intro w hSw; dsimp only [q14_5_4]; (try dsimp only at hSw); go_simp <;> with_reducible rfl
  try simp only [q14_5_4, Act.put, List.setIfInBounds_toArray, List.set_cons_zero, List.set_cons_succ]
  refine wpAnyH_take (i := 5) (oi := q14_5_5) (v := ?_) rfl (by kernel_rfl) (by kernel_rfl) (by kernel_rfl) (fun _ _ _ h => h) (Or.inl ⟨by rfl, ?_⟩) hHeld ?_
  rotate_left
  · intro w hSw; dsimp only [q14_5_5]; obtain ⟨q3, qd, hN⟩ := hSw; obtain ⟨u0, u1, u2, u3, u4, u5⟩ := hN.six; go_simp <;> with_reducible rfl
  try simp only [q14_5_5, Act.put, List.setIfInBounds_toArray, List.set_cons_zero, List.set_cons_succ]
  refine wpAnyH_take (i := 6) (oi := q14_5_6) (v := ?_) rfl (by kernel_rfl) (by kernel_rfl) (by kernel_rfl) (fun _ _ _ h => h) (Or.inl ⟨by rfl, ?_⟩) hHeld ?_
  rotate_left
  · intro w hSw; dsimp only [q14_5_6]; (try dsimp only at hSw); go_simp <;> with_reducible rfl
  try simp only [q14_5_6, Act.put, List.setIfInBounds_toArray, List.set_cons_zero, List.set_cons_succ]
  refine wpAnyH_take (i := 7) (oi := q14_5_7) (v := ?_) rfl (by kernel_rfl) (by kernel_rfl) (by kernel_rfl) (fun _ _ _ h => h) (Or.inl ⟨by rfl, ?_⟩) hHeld ?_
  rotate_left
  · intro w hSw; dsimp only [q14_5_7]; (try dsimp only at hSw); go_simp <;> with_reducible rfl
  try simp only [q14_5_7, Act.put, List.setIfInBounds_toArray, List.set_cons_zero, List.set_cons_succ]
  refine wpAnyH_take (i := 8) (oi := q14_5_8) (v := ?_) rfl (by kernel_rfl) (by kernel_rfl) (by kernel_rfl) (fun _ _ _ h => h) (Or.inl ⟨by rfl, ?_⟩) hHeld ?_
  rotate_left
  · intro w hSw; dsimp only [q14_5_8]; (try dsimp only at hSw); go_simp <;> with_reducible rfl
  try simp only [q14_5_8, Act.put, List.setIfInBounds_toArray, List.set_cons_zero, List.set_cons_succ]
  refine wpAnyH_take (i := 9) (oi := q14_5_9) (v := ?_) rfl (by kernel_rfl) (by kernel_rfl) (by kernel_rfl) (fun _ _ _ h => h) (Or.inl ⟨by rfl, ?_⟩) hHeld ?_
  rotate_left
  · intro w hSw; dsimp only [q14_5_9]; obtain ⟨q3, qd, hN⟩ := hSw; obtain ⟨u0, u1, u2, u3, u4, u5⟩ := hN.six; go_simp <;> with_reducible rfl
  try simp only [q14_5_9, Act.put, List.setIfInBounds_toArray, List.set_cons_zero, List.set_cons_succ]
  refine wpAnyH_take (i := 10) (oi := q14_5_10) (v := ?_) rfl (by kernel_rfl) (by kernel_rfl) (by kernel_rfl) (fun _ _ _ h => h) (Or.inl ⟨by rfl, ?_⟩) hHeld ?_
  rotate_left
  · intro w hSw; dsimp only [q14_5_10]; (try dsimp only at hSw); go_simp <;> with_reducible rfl
  try simp only [q14_5_10, Act.put, List.setIfInBounds_toArray, List.set_cons_zero, List.set_cons_succ]
  refine wpAnyH_take (i := 11) (oi := q14_5_11) (v := ?_) rfl (by kernel_rfl) (by kernel_rfl) (by kernel_rfl) (fun _ _ _ h => h) (Or.inl ⟨by rfl, ?_⟩) hHeld ?_
  rotate_left
  · intro w hSw; dsimp only [q14_5_11]; obtain ⟨q3, qd, hN⟩ := hSw; obtain ⟨u0, u1, u2, u3, u4, u5⟩ := hN.six; go_simp <;> with_reducible rfl
  try simp only [q14_5_11, Act.put, List.setIfInBounds_toArray, List.set_cons_zero, List.set_cons_succ]
  refine wpAnyH_take (i := 12) (oi := q14_5_12) (v := ?_) rfl (by kernel_rfl) (by kernel_rfl) (by kernel_rfl) (fun _ _ _ h => h) (Or.inl ⟨by rfl, ?_⟩) hHeld ?_
  rotate_left
  · intro w hSw; dsimp only [q14_5_12]; (try dsimp only at hSw); go_simp <;> with_reducible rfl
  try simp only [q14_5_12, Act.put, List.setIfInBounds_toArray, List.set_cons_zero, List.set_cons_succ]
  refine wpAnyH_take (i := 13) (oi := q14_5_13) (v := ?_) rfl (by kernel_rfl) (by kernel_rfl) (by kernel_rfl) (fun _ _ _ h => h) (Or.inl ⟨by rfl, ?_⟩) hHeld ?_
  rotate_left
  · intro w hSw; dsimp only [q14_5_13]; obtain ⟨q3, qd, hN⟩ := hSw; obtain ⟨u0, u1, u2, u3, u4, u5⟩ := hN.six; go_simp <;> with_reducible rfl
  try simp only [q14_5_13, Act.put, List.setIfInBounds_toArray, List.set_cons_zero, List.set_cons_succ]
  refine wpAnyH_take (i := 14) (oi := q14_5_14) (v := .bool true) rfl (by kernel_rfl) (by kernel_rfl) (by kernel_rfl) (fun _ _ _ h => h) (Or.inl ⟨by rfl, ?_⟩) hHeld ?_
  skip
  · intro w hSw; dsimp only [q14_5_14]; go_simp <;> first | done | with_reducible rfl | simp [hbb] | (simp at hbb; simp [hbb])
  try simp only [q14_5_14, Act.put, List.setIfInBounds_toArray, List.set_cons_zero, List.set_cons_succ]
  refine wpAnyH_take (i := 15) (oi := q14_5_15) (v := .bool true) rfl (by kernel_rfl) (by kernel_rfl) (by kernel_rfl) (fun _ _ _ h => h) (Or.inl ⟨by rfl, ?_⟩) hHeld ?_
  skip
  · intro w hSw; dsimp only [q14_5_15]; go_simp <;> first | done | with_reducible rfl | simp
  try simp only [q14_5_15, Act.put, List.setIfInBounds_toArray, List.set_cons_zero, List.set_cons_succ]
  refine wpAnyH_take (i := 16) (oi := q14_5_16) (v := ?_) rfl (by kernel_rfl) (by kernel_rfl) (by kernel_rfl) (fun _ _ _ h => h) (Or.inl ⟨by rfl, ?_⟩) hHeld ?_
  rotate_left
  · intro w hSw; dsimp only [q14_5_16]; (try dsimp only at hSw); go_simp <;> with_reducible rfl
  try simp only [q14_5_16, Act.put, List.setIfInBounds_toArray, List.set_cons_zero, List.set_cons_succ]
  refine wpAnyH_done (by kernel_rfl) ?_ _
  go_wp2
  all_goals
    go_ret2
    exact ⟨rfl, HB00.out.trans (HB1.out.mono HB00.out.size)⟩
end Go.Proofs.YtghnfnieppfhgaaGreat
