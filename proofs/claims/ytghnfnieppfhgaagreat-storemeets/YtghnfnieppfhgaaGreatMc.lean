/-
  What is proved here: Narrow that refuses, and Narrow that changes nothing.
-/
import Derived.Test.YtghnfnieppfhgaaGreatAa
import Derived.Test.YtghnfnieppfhgaaGreatMb
namespace Go.Proofs.YtghnfnieppfhgaaGreat
open Go.RowKit Go.Shelf
set_option linter.unusedVariables false
set_option linter.unusedSimpArgs false

abbrev oMc0 : Oper := ⟨some 19, .load 37 (.tmp 5), 37, "store.go:88", #[], none⟩
abbrev oMc1 : Oper := ⟨some 21, .unOp .not 4 (.tmp 20), 4, "store.go:88", #[⟨1, .data⟩], none⟩
abbrev oMc2 : Oper := ⟨some 22, .move (.tmp 21), 4, "store.go:88", #[⟨2, .data⟩, ⟨1, .chain⟩], none⟩
abbrev oMc3 : Oper := ⟨some 23, .fieldAddr 37 (.tmp 5) 0, 0, "store.go:88", #[⟨3, .guard⟩], some (3, false)⟩
abbrev oMc4 : Oper := ⟨some 24, .load 4 (.tmp 23), 4, "store.go:88", #[⟨4, .data⟩, ⟨3, .guard⟩], some (3, false)⟩
abbrev oMc5 : Oper := ⟨some 25, .move (.tmp 0), 25, "store.go:88", #[⟨3, .guard⟩], some (3, false)⟩
abbrev oMc6 : Oper := ⟨some 26, .nilCheck (.tmp 25), 0, "store.go:88", #[⟨6, .data⟩, ⟨3, .guard⟩], some (3, false)⟩
abbrev oMc7 : Oper := ⟨some 27, .fieldAddr 68 (.tmp 26) 1, 0, "store.go:88", #[⟨7, .data⟩, ⟨3, .guard⟩], some (3, false)⟩
abbrev oMc8 : Oper := ⟨some 28, .load 22 (.tmp 27), 22, "store.go:88", #[⟨8, .data⟩, ⟨3, .guard⟩], some (3, false)⟩
abbrev oMc9 : Oper := ⟨some 29, .move (.tmp 1), 3, "store.go:88", #[⟨3, .guard⟩], some (3, false)⟩
abbrev oMc10 : Oper := ⟨some 30, .indexAddr 22 (.tmp 28) (.tmp 29), 0, "store.go:88", #[⟨9, .data⟩, ⟨10, .data⟩, ⟨3, .guard⟩], some (3, false)⟩
abbrev oMc11 : Oper := ⟨some 31, .fieldAddr 37 (.tmp 30) 0, 0, "store.go:88", #[⟨11, .data⟩, ⟨3, .guard⟩], some (3, false)⟩
abbrev oMc12 : Oper := ⟨some 32, .load 4 (.tmp 31), 4, "store.go:88", #[⟨12, .data⟩, ⟨3, .guard⟩], some (3, false)⟩
abbrev oMc13 : Oper := ⟨some 33, .binOp .neq 4 (.tmp 24) (.tmp 32) 4, 4, "store.go:88", #[⟨5, .data⟩, ⟨13, .data⟩, ⟨3, .guard⟩], some (3, false)⟩
abbrev oMc14 : Oper := ⟨some 34, .pick (.tmp 22) (.const (.bool true)) (.tmp 33), 4, "store.go:88", #[⟨3, .data⟩, ⟨14, .data⟩], none⟩
abbrev oMc15 : Oper := ⟨some 18, .assign (.tmp 34), 4, "store.go:88", #[⟨15, .data⟩, ⟨3, .chain⟩], none⟩
abbrev oMc16 : Oper := ⟨some 45, .load 37 (.tmp 8), 37, "store.go:94", #[], none⟩
abbrev oMc17 : Oper := ⟨some 47, .load 37 (.tmp 5), 37, "store.go:94", #[], none⟩
set_option maxRecDepth 100000 in
set_option maxHeartbeats 4000000 in
theorem narrow_out [Gh] {X : Nat → Prop} {W : World} {p : Nat} {st : StM} {sl : Sl} {c : List Value} {d : MD} (h : Sto W p st sl) (hc : Dc X W c d) (v : Int) (hv : thereB st v = false) (hz : Sz st) :
    Calls Tryz.prog 14 #[ptr p, .int .i64 v, .agg c.toArray] W fun e w' => e = .returned (.tuple #[.int .i64 0, .int .i64 1]) ∧ Below W.heap.size W w' := by
  obtain ⟨b, ra, n0, rc, a1, n1, c1, a2, n2, c2, x, y, rfl, HE, H1, H2, H3⟩ := hc.look
  obtain ⟨W0, hW0⟩ : ∃ Q, W.alloc (Obj.cells #[.bool b, .slice ra n0 rc, .slice a1 n1 c1, .slice a2 n2 c2, .int .i64 x, .int .i64 y] 37) = Q := ⟨_, rfl⟩
  have hb0 : Below W.heap.size W W0 := by rw [← hW0]; exact (Below.refl _ W).alloc (Nat.le_refl _) _
  have kt := there_any (h.below hb0) hz v
  rw [hv] at kt
  have HB0 : Hid (Below W.heap.size W W0) := hb0
  have HW0 : Hid _ := hW0
  clear h hc hv hz hb0 hW0 HE H1 H2 H3
  go_enter Tryz.func14, Tryz.ntmps14
  go_wp2_with fail
  rw [HW0.out]
  refine kt.mono ?_
  clear kt
  rintro e wt ⟨rfl, hwt⟩
  rw [hwt]
  clear hwt wt
  go_wp2
  all_goals
    go_ret2
    exact ⟨rfl, HB0.out⟩

set_option maxRecDepth 100000 in
set_option maxHeartbeats 4000000 in
theorem narrow_failed_n [Gh] {W : World} {p : Nat} {st : StM} {sl : Sl} {c : List Value} {d o : MD} (h : Sto W p st sl) (hc : Dc (XS p sl) W c d) (v : Nat) (hv : st.D[v]? = some o) (hs : d.set = false) (hs' : o.set = false) (hf : Dm.FitsR d.r) (hR : rightM d = true) (he : 0 < st.e) (hz : Sz st) :
    Calls Tryz.prog 14 #[ptr p, .int .i64 v, .agg c.toArray] W fun e w' => e = .returned (.tuple #[.int .i64 0, .int .i64 6]) ∧ Below W.heap.size W w' := by
  have hvl : v < st.D.length := (List.getElem?_eq_some_iff.1 hv).1
  obtain ⟨n, k, m, sa, sc, ma, mc, ia, ic, da, dc, wa, wc, rfl, HL⟩ := h.look
  obtain ⟨gd, cap, c', e1, hgd, hcap, hcm, hr, hth, hco⟩ := h.dom_at hv
  injection e1 with e1 e2 e3
  subst e1 e3
  clear e2
  have hvn : v < n := by rw [← HL.out.1]; exact hvl
  have hn1 : n ≤ 1000 := by rw [← HL.out.1]; exact hz.1
  obtain ⟨b, ra, n0, rc, a1, n1, c1, a2, n2, c2, x, y, ec, HE, H1, H2, H3⟩ := hc.look
  obtain ⟨b', ra', n0', rc', a1', n1', c1', a2', n2', c2', x', y', ec', HE', H1', H2', H3'⟩ := hco.look
  subst ec ec'
  obtain rfl : b = false := by rw [← HE.out.1, hs]
  obtain rfl : b' = false := by rw [← HE'.out.1, hs']
  obtain ⟨bw, hbw⟩ : ∃ q, W.heap.size = q := ⟨_, rfl⟩
  obtain ⟨W0, hW0⟩ : ∃ Q, W.alloc (Obj.cells #[.bool false, .slice ra n0 rc, .slice a1 n1 c1, .slice a2 n2 c2, .int .i64 x, .int .i64 y] 37) = Q := ⟨_, rfl⟩
  have hb0 : Below W.heap.size W W0 := by rw [← hW0]; exact (Below.refl _ W).alloc (Nat.le_refl _) _
  have HBX : Hid (Bx W0 bw #[.bool false, .slice ra n0 rc, .slice a1 n1 c1, .slice a2 n2 c2, .int .i64 x, .int .i64 y] 37) := by rw [← hW0]; exact Bx.new' hbw _ _
  have HS := hid (h.below hb0)
  have hgd0 : gd < W0.heap.size := Nat.lt_of_lt_of_le hgd hb0.size
  have HRG : Hid (∀ X, Below W0.heap.size W0 X → X.rangeAt gd (v * 6) [.bool false, .slice ra' n0' rc', .slice a1' n1' c1', .slice a2' n2' c2', .int .i64 x', .int .i64 y']) := fun X hX j u hu => (hX.cell (p := ⟨gd, v * 6 + j, none⟩) hgd0).trans ((hb0.cell (p := ⟨gd, v * 6 + j, none⟩) hgd).trans (hr j u hu))
  have HCD := hid (hc.below hb0)
  have HCO := hid (hco.below hb0)
  have KR : Hid (∀ X, Below W0.heap.size W0 X → Calls Tryz.prog 30 #[.agg #[.bool false, .slice ra n0 rc, .slice a1 n1 c1, .slice a2 n2 c2, .int .i64 x, .int .i64 y]] X fun e w' => e = .returned (.bool true) ∧ Below X.heap.size X w') := fun X hX => by have := right_d (HCD.out.below hX) hf; rw [hR] at this; exact this
  have kt := there_any HS.out hz v
  have htb : thereB st v = true := by unfold thereB; simp; exact hvl
  rw [htb] at kt
  have FS5 : Hid (∀ X, Below W0.heap.size W0 X → X.cell? ⟨p, 3, none⟩ = some (.slice (some ⟨gd, 0, none⟩) n dc) ∧ X.cell? ⟨gd, v * 6, none⟩ = some (.bool false) ∧ Bx X bw #[.bool false, .slice ra n0 rc, .slice a1 n1 c1, .slice a2 n2 c2, .int .i64 x, .int .i64 y] 37) := fun X hX => ⟨(HS.out.below hX).cells.2.2.2.1, (rng6 (HRG.out X hX)).1, HBX.out.below hX⟩
  have HE0 : Hid (0 < st.e) := he
  have HSD : Hid (d.set = false) := hs
  have HSO : Hid (o.set = false) := hs'
  have HFD : Hid (Dm.FitsR d.r) := hf
  have HZ : Hid (Sz st) := hz
  have HVO : Hid (st.D[v]? = some o) := hv
  have HVL : Hid (v < st.D.length) := hvl
  have HH : Hid (Sto W p st ⟨.slice sa k sc, .slice ma m mc, .slice ia n ic, .slice (some ⟨gd, 0, none⟩) n dc, .slice wa n wc⟩) := h
  have HB00 : Hid (Below W.heap.size W W0) := hb0
  have HB0 : Hid (Below W0.heap.size W0 W0.drew) := (Below.refl _ _).drew
  have HW0 : Hid _ := hW0
  have HBW : Hid (W.heap.size = bw) := hbw
  have HXL : Hid (∀ b, XS p ⟨.slice sa k sc, .slice ma m mc, .slice ia n ic, .slice (some ⟨gd, 0, none⟩) n dc, .slice wa n wc⟩ b → b < bw) := by rw [Hid, ← hbw]; exact h.x_lt
  have hcapn : n ≤ dc := by rw [← HL.out.1]; exact hcap
  clear hW0 hbw hb0 h hc hco hz hr hth hgd hvl hs hs' hf hv he hR htb hcap H1 H2 H3 H1' H2' H3' HE HE'
  have hvi : (v : Int) < n := by omega
  go_enter Tryz.func14, Tryz.ntmps14
  go_wp2_with fail
  rw [HW0.out]
  refine kt.mono ?_
  clear kt
  rintro e wt ⟨rfl, hwt⟩
  rw [hwt]
  clear hwt wt
  go_upto_region 5 with (fail)
  (try rw [HW0.out])
  (try rw [HBW.out])
  refine wp_region_held_drew (S := fun X : World => X.cell? ⟨p, 3, none⟩ = some (.slice (some ⟨gd, 0, none⟩) n dc) ∧ X.cell? ⟨gd, v * 6, none⟩ = some (.bool false) ∧ Bx X bw #[.bool false, .slice ra n0 rc, .slice a1 n1 c1, .slice a2 n2 c2, .int .i64 x, .int .i64 y] 37) (by kernel_rfl) ((FS5.out _ HB0.out)) (fun hHeld => ?_)
  refine tkH 0 oMc0 (v := ?_) hHeld ?_ ?_; rotate_left
  · intro w hSw; dsimp only [oMc0]; obtain ⟨q3, qd, hN⟩ := hSw; obtain ⟨u0, u1, u2, u3, u4, u5⟩ := hN.six; go_simp <;> with_reducible rfl
  try simp only [oMc0, Act.put, zS, z0, z1]
  refine rdy 1 rfl fun K hK => ?_
  go_simp
  refine (KR.out _ HB0.out).mono ?_
  rintro e w1 ⟨rfl, hb⟩
  have HB1 := hid (HB0.out.trans (hb.mono HB0.out.size))
  clear hb
  refine hK.out _ _ ((FS5.out _ HB1.out)) (fun hHeld2 => ?_)
  clear hK K hHeld; have hHeld := hHeld2; clear hHeld2
  try simp only [Act.put, zS, z0, z1]
  refine tkA 2 oMc1 hHeld ?_
  try simp only [oMc1, Act.put, zS, z0, z1]
  refine tkA 3 oMc2 hHeld ?_
  try simp only [oMc2, Act.put, zS, z0, z1]
  refine tkA 4 oMc3 hHeld ?_
  try simp only [oMc3, Act.put, zS, z0, z1]
  refine tkH 5 oMc4 (v := ?_) hHeld ?_ ?_; rotate_left
  · intro w hSw; dsimp only [oMc4]; obtain ⟨q3, qd, hN⟩ := hSw; obtain ⟨u0, u1, u2, u3, u4, u5⟩ := hN.six; go_simp <;> with_reducible rfl
  try simp only [oMc4, Act.put, zS, z0, z1]
  refine tkA 6 oMc5 hHeld ?_
  try simp only [oMc5, Act.put, zS, z0, z1]
  refine tkA 7 oMc6 hHeld ?_
  try simp only [oMc6, Act.put, zS, z0, z1]
  refine tkA 8 oMc7 hHeld ?_
  try simp only [oMc7, Act.put, zS, z0, z1]
  refine tkH 9 oMc8 (v := ?_) hHeld ?_ ?_; rotate_left
  · intro w hSw; dsimp only [oMc8]; obtain ⟨q3, qd, hN⟩ := hSw; obtain ⟨u0, u1, u2, u3, u4, u5⟩ := hN.six; go_simp <;> with_reducible rfl
  try simp only [oMc8, Act.put, zS, z0, z1]
  refine tkA 10 oMc9 hHeld ?_
  try simp only [oMc9, Act.put, zS, z0, z1]
  refine tkH 11 oMc10 (v := ?_) hHeld ?_ ?_; rotate_left
  · intro w hSw; dsimp only [oMc10]; obtain ⟨q3, qd, hN⟩ := hSw; obtain ⟨u0, u1, u2, u3, u4, u5⟩ := hN.six; go_simp <;> with_reducible rfl
  try simp only [oMc10, Act.put, zS, z0, z1]
  refine tkA 12 oMc11 hHeld ?_
  try simp only [oMc11, Act.put, zS, z0, z1]
  refine tkH 13 oMc12 (v := ?_) hHeld ?_ ?_; rotate_left
  · intro w hSw; dsimp only [oMc12]; obtain ⟨q3, qd, hN⟩ := hSw; obtain ⟨u0, u1, u2, u3, u4, u5⟩ := hN.six; go_simp <;> with_reducible rfl
  try simp only [oMc12, Act.put, zS, z0, z1]
  refine tkA 14 oMc13 hHeld ?_
  try simp only [oMc13, Act.put, zS, z0, z1]
  refine tkA 15 oMc14 hHeld ?_
  try simp only [oMc14, Act.put, zS, z0, z1]
  refine tkA 16 oMc15 hHeld ?_
  try simp only [oMc15, Act.put, zS, z0, z1]
  refine wpAnyH_done (by kernel_rfl) ?_ _
  have z4 := (HS.out.below HB1.out)
  have kf := failed_any z4
  have hd0 : decide (0 < st.e) = true := by simpa using HE0.out
  rw [hd0] at kf
  clear hd0 z4
  go_wp2_with fail
  refine kf.mono ?_
  clear kf
  rintro e wt ⟨rfl, hwt⟩
  rw [hwt]
  clear hwt wt
  go_wp2
  all_goals
    go_ret2
    exact ⟨rfl, HB00.out.trans (HB1.out.mono HB00.out.size)⟩

set_option maxRecDepth 100000 in
set_option maxHeartbeats 4000000 in
theorem narrow_same_n [Gh] {W : World} {p : Nat} {st : StM} {sl : Sl} {c : List Value} {d o : MD} (h : Sto W p st sl) (hc : Dc (XS p sl) W c d) (v : Nat) (hv : st.D[v]? = some o) (hs : d.set = false) (hs' : o.set = false) (hf : Dm.FitsR d.r) (hf' : Dm.FitsR o.r) (hfx : Dm.FitsR (bothA o d).r) (hR : rightM d = true) (he : st.e = 0) (hz : Sz st)
    (hns : sameA o (bothA o d) = true) :
    Calls Tryz.prog 14 #[ptr p, .int .i64 v, .agg c.toArray] W fun e w' => e = .returned (.tuple #[.int .i64 0, .int .i64 0]) ∧ Below W.heap.size W w' := by
  have hvl : v < st.D.length := (List.getElem?_eq_some_iff.1 hv).1
  obtain ⟨n, k, m, sa, sc, ma, mc, ia, ic, da, dc, wa, wc, rfl, HL⟩ := h.look
  obtain ⟨gd, cap, c', e1, hgd, hcap, hcm, hr, hth, hco⟩ := h.dom_at hv
  injection e1 with e1 e2 e3
  subst e1 e3
  clear e2
  have hvn : v < n := by rw [← HL.out.1]; exact hvl
  have hn1 : n ≤ 1000 := by rw [← HL.out.1]; exact hz.1
  obtain ⟨b, ra, n0, rc, a1, n1, c1, a2, n2, c2, x, y, ec, HE, H1, H2, H3⟩ := hc.look
  obtain ⟨b', ra', n0', rc', a1', n1', c1', a2', n2', c2', x', y', ec', HE', H1', H2', H3'⟩ := hco.look
  subst ec ec'
  obtain rfl : b = false := by rw [← HE.out.1, hs]
  obtain rfl : b' = false := by rw [← HE'.out.1, hs']
  obtain ⟨bw, hbw⟩ : ∃ q, W.heap.size = q := ⟨_, rfl⟩
  obtain ⟨W0, hW0⟩ : ∃ Q, W.alloc (Obj.cells #[.bool false, .slice ra n0 rc, .slice a1 n1 c1, .slice a2 n2 c2, .int .i64 x, .int .i64 y] 37) = Q := ⟨_, rfl⟩
  have hb0 : Below W.heap.size W W0 := by rw [← hW0]; exact (Below.refl _ W).alloc (Nat.le_refl _) _
  have HBX : Hid (Bx W0 bw #[.bool false, .slice ra n0 rc, .slice a1 n1 c1, .slice a2 n2 c2, .int .i64 x, .int .i64 y] 37) := by rw [← hW0]; exact Bx.new' hbw _ _
  have HS := hid (h.below hb0)
  have hgd0 : gd < W0.heap.size := Nat.lt_of_lt_of_le hgd hb0.size
  have HRG : Hid (∀ X, Below W0.heap.size W0 X → X.rangeAt gd (v * 6) [.bool false, .slice ra' n0' rc', .slice a1' n1' c1', .slice a2' n2' c2', .int .i64 x', .int .i64 y']) := fun X hX j u hu => (hX.cell (p := ⟨gd, v * 6 + j, none⟩) hgd0).trans ((hb0.cell (p := ⟨gd, v * 6 + j, none⟩) hgd).trans (hr j u hu))
  have HCD := hid (hc.below hb0)
  have HCO := hid (hco.below hb0)
  have KR : Hid (∀ X, Below W0.heap.size W0 X → Calls Tryz.prog 30 #[.agg #[.bool false, .slice ra n0 rc, .slice a1 n1 c1, .slice a2 n2 c2, .int .i64 x, .int .i64 y]] X fun e w' => e = .returned (.bool true) ∧ Below X.heap.size X w') := fun X hX => by have := right_d (HCD.out.below hX) hf; rw [hR] at this; exact this
  have kt := there_any HS.out hz v
  have htb : thereB st v = true := by unfold thereB; simp; exact hvl
  rw [htb] at kt
  have FS5 : Hid (∀ X, Below W0.heap.size W0 X → X.cell? ⟨p, 3, none⟩ = some (.slice (some ⟨gd, 0, none⟩) n dc) ∧ X.cell? ⟨gd, v * 6, none⟩ = some (.bool false) ∧ Bx X bw #[.bool false, .slice ra n0 rc, .slice a1 n1 c1, .slice a2 n2 c2, .int .i64 x, .int .i64 y] 37) := fun X hX => ⟨(HS.out.below hX).cells.2.2.2.1, (rng6 (HRG.out X hX)).1, HBX.out.below hX⟩
  have HE0 : Hid (st.e = 0) := he
  have HSD : Hid (d.set = false) := hs
  have HSO : Hid (o.set = false) := hs'
  have HFD : Hid (Dm.FitsR d.r) := hf
  have HFO : Hid (Dm.FitsR o.r) := hf'
  have HFX : Hid (Dm.FitsR (bothA o d).r) := hfx
  have HNS : Hid (sameA o (bothA o d) = true) := hns
  have HZ : Hid (Sz st) := hz
  have HVO : Hid (st.D[v]? = some o) := hv
  have HVL : Hid (v < st.D.length) := hvl
  have HH : Hid (Sto W p st ⟨.slice sa k sc, .slice ma m mc, .slice ia n ic, .slice (some ⟨gd, 0, none⟩) n dc, .slice wa n wc⟩) := h
  have HB00 : Hid (Below W.heap.size W W0) := hb0
  have HB0 : Hid (Below W0.heap.size W0 W0.drew) := (Below.refl _ _).drew
  have HW0 : Hid _ := hW0
  have HBW : Hid (W.heap.size = bw) := hbw
  have HXL : Hid (∀ b, XS p ⟨.slice sa k sc, .slice ma m mc, .slice ia n ic, .slice (some ⟨gd, 0, none⟩) n dc, .slice wa n wc⟩ b → b < bw) := by rw [Hid, ← hbw]; exact h.x_lt
  have hcapn : n ≤ dc := by rw [← HL.out.1]; exact hcap
  clear hW0 hbw hb0 h hc hco hz hr hth hgd hvl hs hs' hf hf' hfx hns hv he hR htb hcap H1 H2 H3 H1' H2' H3' HE HE'
  have hvi : (v : Int) < n := by omega
  go_enter Tryz.func14, Tryz.ntmps14
  go_wp2_with fail
  rw [HW0.out]
  refine kt.mono ?_
  clear kt
  rintro e wt ⟨rfl, hwt⟩
  rw [hwt]
  clear hwt wt
  go_upto_region 5 with (fail)
  (try rw [HW0.out])
  (try rw [HBW.out])
  refine wp_region_held_drew (S := fun X : World => X.cell? ⟨p, 3, none⟩ = some (.slice (some ⟨gd, 0, none⟩) n dc) ∧ X.cell? ⟨gd, v * 6, none⟩ = some (.bool false) ∧ Bx X bw #[.bool false, .slice ra n0 rc, .slice a1 n1 c1, .slice a2 n2 c2, .int .i64 x, .int .i64 y] 37) (by kernel_rfl) ((FS5.out _ HB0.out)) (fun hHeld => ?_)
  refine tkH 0 oMc0 (v := ?_) hHeld ?_ ?_; rotate_left
  · intro w hSw; dsimp only [oMc0]; obtain ⟨q3, qd, hN⟩ := hSw; obtain ⟨u0, u1, u2, u3, u4, u5⟩ := hN.six; go_simp <;> with_reducible rfl
  try simp only [oMc0, Act.put, zS, z0, z1]
  refine rdy 1 rfl fun K hK => ?_
  go_simp
  refine (KR.out _ HB0.out).mono ?_
  rintro e w1 ⟨rfl, hb⟩
  have HB1 := hid (HB0.out.trans (hb.mono HB0.out.size))
  clear hb
  refine hK.out _ _ ((FS5.out _ HB1.out)) (fun hHeld2 => ?_)
  clear hK K hHeld; have hHeld := hHeld2; clear hHeld2
  try simp only [Act.put, zS, z0, z1]
  refine tkA 2 oMc1 hHeld ?_
  try simp only [oMc1, Act.put, zS, z0, z1]
  refine tkA 3 oMc2 hHeld ?_
  try simp only [oMc2, Act.put, zS, z0, z1]
  refine tkA 4 oMc3 hHeld ?_
  try simp only [oMc3, Act.put, zS, z0, z1]
  refine tkH 5 oMc4 (v := ?_) hHeld ?_ ?_; rotate_left
  · intro w hSw; dsimp only [oMc4]; obtain ⟨q3, qd, hN⟩ := hSw; obtain ⟨u0, u1, u2, u3, u4, u5⟩ := hN.six; go_simp <;> with_reducible rfl
  try simp only [oMc4, Act.put, zS, z0, z1]
  refine tkA 6 oMc5 hHeld ?_
  try simp only [oMc5, Act.put, zS, z0, z1]
  refine tkA 7 oMc6 hHeld ?_
  try simp only [oMc6, Act.put, zS, z0, z1]
  refine tkA 8 oMc7 hHeld ?_
  try simp only [oMc7, Act.put, zS, z0, z1]
  refine tkH 9 oMc8 (v := ?_) hHeld ?_ ?_; rotate_left
  · intro w hSw; dsimp only [oMc8]; obtain ⟨q3, qd, hN⟩ := hSw; obtain ⟨u0, u1, u2, u3, u4, u5⟩ := hN.six; go_simp <;> with_reducible rfl
  try simp only [oMc8, Act.put, zS, z0, z1]
  refine tkA 10 oMc9 hHeld ?_
  try simp only [oMc9, Act.put, zS, z0, z1]
  refine tkH 11 oMc10 (v := ?_) hHeld ?_ ?_; rotate_left
  · intro w hSw; dsimp only [oMc10]; obtain ⟨q3, qd, hN⟩ := hSw; obtain ⟨u0, u1, u2, u3, u4, u5⟩ := hN.six; go_simp <;> with_reducible rfl
  try simp only [oMc10, Act.put, zS, z0, z1]
  refine tkA 12 oMc11 hHeld ?_
  try simp only [oMc11, Act.put, zS, z0, z1]
  refine tkH 13 oMc12 (v := ?_) hHeld ?_ ?_; rotate_left
  · intro w hSw; dsimp only [oMc12]; obtain ⟨q3, qd, hN⟩ := hSw; obtain ⟨u0, u1, u2, u3, u4, u5⟩ := hN.six; go_simp <;> with_reducible rfl
  try simp only [oMc12, Act.put, zS, z0, z1]
  refine tkA 14 oMc13 hHeld ?_
  try simp only [oMc13, Act.put, zS, z0, z1]
  refine tkA 15 oMc14 hHeld ?_
  try simp only [oMc14, Act.put, zS, z0, z1]
  refine tkA 16 oMc15 hHeld ?_
  try simp only [oMc15, Act.put, zS, z0, z1]
  refine wpAnyH_done (by kernel_rfl) ?_ _
  have z4 := (HS.out.below HB1.out)
  have kf := failed_any z4
  rw [HE0.out] at kf
  have hd0 : decide (0 < (0 : Int)) = false := rfl
  rw [hd0] at kf
  clear hd0
  go_wp2_with fail
  refine kf.mono ?_
  clear kf
  rintro e wt ⟨rfl, hwt⟩
  rw [hwt]
  clear hwt wt
  obtain ⟨z0, z1, z2, z3, z44, z5, zf⟩ := z4.cells
  simp only at z3
  clear z0 z1 z2 z44 z5 zf z4
  obtain ⟨u0, u1, u2, u3, u4, u5⟩ := rng6 (HRG.out _ HB1.out)
  obtain ⟨bo, hbo⟩ : ∃ q, w1.heap.size = q := ⟨_, rfl⟩
  go_upto_region 10 with (fail)
  obtain ⟨W2, hW2⟩ : ∃ q, w1.alloc (Obj.cells #[.bool false, .slice ra' n0' rc', .slice a1' n1' c1', .slice a2' n2' c2', .int .i64 x', .int .i64 y'] 37) = q := ⟨_, rfl⟩
  rw [hW2]
  (try rw [hbo])
  have HB2 : Hid (Below W0.heap.size W0 W2) := by rw [← hW2]; exact HB1.out.alloc HB1.out.size _
  have HBO : Hid (Bx W2 bo #[.bool false, .slice ra' n0' rc', .slice a1' n1' c1', .slice a2' n2' c2', .int .i64 x', .int .i64 y'] 37) := by rw [← hW2]; exact Bx.new' hbo _ _
  have HOG : Hid (¬ bo < bw) := by rw [Hid, ← hbo, ← HBW.out]; exact Nat.not_lt.2 (Nat.le_trans HB00.out.size HB1.out.size)
  clear hW2 hbo z3 u0 u1 u2 u3 u4 u5
  have HBXd := hid (HBX.out.below HB2.out)
  have KN : Hid (∀ X, Below W2.heap.size W2 X → Calls Tryz.prog 49 #[.agg #[.bool false, .slice ra' n0' rc', .slice a1' n1' c1', .slice a2' n2' c2', .int .i64 x', .int .i64 y']] X fun e w' => e = .returned (.func (.func 74) #[.agg #[.bool false, .slice ra' n0' rc', .slice a1' n1' c1', .slice a2' n2' c2', .int .i64 x', .int .i64 y']] #[]) ∧ Below X.heap.size X w') := fun X hX => narrower_w ((HCO.out.below HB2.out).below hX) HSO.out
  have KW : Hid (∀ X, Below W2.heap.size W2 X → Calls Tryz.prog 74 #[.agg #[.bool false, .slice ra' n0' rc', .slice a1' n1' c1', .slice a2' n2' c2', .int .i64 x', .int .i64 y'], .agg #[.bool false, .slice ra n0 rc, .slice a1 n1 c1, .slice a2 n2 c2, .int .i64 x, .int .i64 y]] X fun e w' => ∃ q : List Value, e = .returned (.agg q.toArray) ∧ (∀ Z : Nat → Prop, (∀ b, Z b → b < X.heap.size) → Dc Z w' q (bothA o d)) ∧ Below X.heap.size X w') := fun X hX => with_wz ((HCO.out.below HB2.out).below hX) ((HCD.out.below HB2.out).below hX) HSO.out HSD.out HFO.out HFD.out
  have FS10 : Hid (∀ X, Below W2.heap.size W2 X → Bx X bo #[.bool false, .slice ra' n0' rc', .slice a1' n1' c1', .slice a2' n2' c2', .int .i64 x', .int .i64 y'] 37 ∧ Bx X bw #[.bool false, .slice ra n0 rc, .slice a1 n1 c1, .slice a2 n2 c2, .int .i64 x, .int .i64 y] 37) := fun X hX => ⟨HBO.out.below hX, HBXd.out.below hX⟩
  have HC0 : Hid (Below W2.heap.size W2 W2.drew) := (Below.refl _ _).drew
  clear HRG FS5 KR HB0
  apply wp_ways2 (R := fun bn q w' => Below W2.heap.size W2 w' ∧ W2.heap.size ≤ bn ∧ Bx w' bn q.toArray 37 ∧ Dc (fun b => b < W2.heap.size ∨ b = bn) w' q (bothA o d))
  case h =>
    refine wp_region_held_drew (S := fun X : World => Bx X bo #[.bool false, .slice ra' n0' rc', .slice a1' n1' c1', .slice a2' n2' c2', .int .i64 x', .int .i64 y'] 37 ∧ Bx X bw #[.bool false, .slice ra n0 rc, .slice a1 n1 c1, .slice a2 n2 c2, .int .i64 x, .int .i64 y] 37) (by kernel_rfl) ((FS10.out _ HC0.out)) (fun hHeld => ?_)
    refine tkH 0 oMc16 (v := ?_) hHeld ?_ ?_; rotate_left
    · intro w hSw; dsimp only [oMc16]; obtain ⟨hO, hN⟩ := hSw; obtain ⟨y0, y1, y2, y3, y4, y5⟩ := hO.six; obtain ⟨u0, u1, u2, u3, u4, u5⟩ := hN.six; go_simp <;> with_reducible rfl
    try simp only [oMc16, Act.put, zS, z0, z1]
    refine tkH 2 oMc17 (v := ?_) hHeld ?_ ?_; rotate_left
    · intro w hSw; dsimp only [oMc17]; obtain ⟨hO, hN⟩ := hSw; obtain ⟨y0, y1, y2, y3, y4, y5⟩ := hO.six; obtain ⟨u0, u1, u2, u3, u4, u5⟩ := hN.six; go_simp <;> with_reducible rfl
    try simp only [oMc17, Act.put, zS, z0, z1]
    refine wpAnyH_ready (rs := [1, 4]) (by kernel_rfl) (by simp) ?_
    refine AllReadyH.cons rfl (fun K hK => ?_) ?_
    · go_simp
      refine (KN.out _ HC0.out).mono ?_
      rintro e v1 ⟨rfl, hb⟩
      have HC1 := hid (HC0.out.trans (hb.mono HC0.out.size))
      clear hb
      refine hK.out _ _ ((FS10.out _ HC1.out)) (fun hHeld2 => ?_)
      clear hK K hHeld; have hHeld := hHeld2; clear hHeld2
      try simp only [Act.put, zS, z0, z1]
      refine wpAnyH_ready (rs := [3, 4]) (by kernel_rfl) (by simp) ?_
      refine AllReadyH.cons rfl (fun K hK => ?_) ?_
      · go_simp
        refine (KW.out _ HC1.out).mono ?_
        rintro e v2 ⟨q, rfl, hq, hb⟩
        have HC2 := hid (HC1.out.trans (hb.mono HC1.out.size))
        have HDq2 : Hid (Dc (fun b => b < W2.heap.size) v2 q (bothA o d)) := hq _ (fun b q => Nat.lt_of_lt_of_le q HC1.out.size)
        clear hb hq
        refine hK.out _ _ ((FS10.out _ HC2.out)) (fun hHeld2 => ?_)
        clear hK K hHeld; have hHeld := hHeld2; clear hHeld2
        try simp only [Act.put, zS, z0, z1]
        refine rdy 4 rfl fun K hK => ?_
        obtain ⟨bn, hbn⟩ : ∃ q, v2.heap.size = q := ⟨_, rfl⟩
        go_simp
        (try rw [hbn])
        obtain ⟨v3, hv3⟩ : ∃ q, v2.alloc (Obj.cells #[.bool false, .slice none 0 0, .slice none 0 0, .slice none 0 0, .int .i64 0, .int .i64 0] 37) = q := ⟨_, rfl⟩
        (try rw [hv3])
        (try rw [show (v2.alloc (Obj.cells #[.bool false, .slice none 0 0, .slice none 0 0, .slice none 0 0, .int .i64 0, .int .i64 0] 37)).drew = v3 from hv3])
        have HC3 : Hid (Below W2.heap.size W2 v3) := by rw [← hv3]; exact HC2.out.alloc (HC2.out.size) _
        have HNW3 : Hid (Bx v3 bn #[.bool false, .slice none 0 0, .slice none 0 0, .slice none 0 0, .int .i64 0, .int .i64 0] 37) := by rw [← hv3]; exact Bx.new' (w := v2) hbn _ _
        have HBN : Hid (W2.heap.size ≤ bn) := by rw [Hid, ← hbn]; exact HC2.out.size
        have HDq3 : Hid (Dc (fun b => b < W2.heap.size ∨ b = bn) v3 q (bothA o d)) := by
          rw [← hv3]
          exact HDq2.out.go (Kept.of_below ((Below.refl _ _).alloc (Nat.le_refl _) _)) (fun b hb => hb.elim .inl (fun e => .inr (by omega)))
        clear hv3 hbn
        refine hK.out _ _ ((FS10.out _ HC3.out)) (fun hHeld2 => ?_)
        clear hK K hHeld; have hHeld := hHeld2; clear hHeld2
        try simp only [Act.put, zS, z0, z1]
        refine rdy 5 rfl fun K hK => ?_
        refine stepR rfl 37 (.tmp 9) (.tmp 48) rfl bn q (by with_unfolding_all rfl) (by with_unfolding_all rfl) HNW3.out (by rfl) HDq3.out.len Tryz.sizeDom HDq3.out.one ?_
        refine hK.out _ _ ((FS10.out _ (below_row HC3.out HBN.out _))) (fun hHeld2 => ?_)
        clear hK K hHeld; have hHeld := hHeld2; clear hHeld2
        try simp only [Act.put, zS, z0, z1]
        refine wpAnyH_done (by kernel_rfl) ?_ _
        exact ⟨bn, q, rfl, below_row HC3.out HBN.out _, HBN.out, HNW3.out.setRow _, HDq3.out.kept ⟨rfl, rfl, rfl, by simp [World.setRow], fun b _ hb => setRow_other _ _ b _ (fun e => hb (.inr e))⟩⟩
      refine AllReadyH.cons rfl (fun K hK => ?_) ?_
      · obtain ⟨bn, hbn⟩ : ∃ q, v1.heap.size = q := ⟨_, rfl⟩
        go_simp
        (try rw [hbn])
        obtain ⟨v2, hv2⟩ : ∃ q, v1.alloc (Obj.cells #[.bool false, .slice none 0 0, .slice none 0 0, .slice none 0 0, .int .i64 0, .int .i64 0] 37) = q := ⟨_, rfl⟩
        (try rw [hv2])
        (try rw [show (v1.alloc (Obj.cells #[.bool false, .slice none 0 0, .slice none 0 0, .slice none 0 0, .int .i64 0, .int .i64 0] 37)).drew = v2 from hv2])
        have HC2 : Hid (Below W2.heap.size W2 v2) := by rw [← hv2]; exact HC1.out.alloc (HC1.out.size) _
        have HNW2 : Hid (Bx v2 bn #[.bool false, .slice none 0 0, .slice none 0 0, .slice none 0 0, .int .i64 0, .int .i64 0] 37) := by rw [← hv2]; exact Bx.new' (w := v1) hbn _ _
        have HBN : Hid (W2.heap.size ≤ bn) := by rw [Hid, ← hbn]; exact HC1.out.size
        clear hv2 hbn
        refine hK.out _ _ ((FS10.out _ HC2.out)) (fun hHeld2 => ?_)
        clear hK K hHeld; have hHeld := hHeld2; clear hHeld2
        try simp only [Act.put, zS, z0, z1]
        refine rdy 3 rfl fun K hK => ?_
        go_simp
        refine (KW.out _ HC2.out).mono ?_
        rintro e v3 ⟨q, rfl, hq, hb⟩
        have HC3 := hid (HC2.out.trans (hb.mono HC2.out.size))
        have HNW3 := hid (HNW2.out.below hb)
        have HDq3 : Hid (Dc (fun b => b < W2.heap.size ∨ b = bn) v3 q (bothA o d)) := hq _ (fun b hb => hb.elim (fun q => Nat.lt_of_lt_of_le q HC2.out.size) (fun q => by subst q; exact HNW2.out.lt))
        clear hb hq
        refine hK.out _ _ ((FS10.out _ HC3.out)) (fun hHeld2 => ?_)
        clear hK K hHeld; have hHeld := hHeld2; clear hHeld2
        try simp only [Act.put, zS, z0, z1]
        refine rdy 5 rfl fun K hK => ?_
        refine stepR rfl 37 (.tmp 9) (.tmp 48) rfl bn q (by with_unfolding_all rfl) (by with_unfolding_all rfl) HNW3.out (by rfl) HDq3.out.len Tryz.sizeDom HDq3.out.one ?_
        refine hK.out _ _ ((FS10.out _ (below_row HC3.out HBN.out _))) (fun hHeld2 => ?_)
        clear hK K hHeld; have hHeld := hHeld2; clear hHeld2
        try simp only [Act.put, zS, z0, z1]
        refine wpAnyH_done (by kernel_rfl) ?_ _
        exact ⟨bn, q, rfl, below_row HC3.out HBN.out _, HBN.out, HNW3.out.setRow _, HDq3.out.kept ⟨rfl, rfl, rfl, by simp [World.setRow], fun b _ hb => setRow_other _ _ b _ (fun e => hb (.inr e))⟩⟩
      exact AllReadyH.nil
    refine AllReadyH.cons rfl (fun K hK => ?_) ?_
    · obtain ⟨bn, hbn⟩ : ∃ q, W2.heap.size = q := ⟨_, rfl⟩
      go_simp
      (try rw [hbn])
      obtain ⟨v1, hv1⟩ : ∃ q, W2.drew.alloc (Obj.cells #[.bool false, .slice none 0 0, .slice none 0 0, .slice none 0 0, .int .i64 0, .int .i64 0] 37) = q := ⟨_, rfl⟩
      (try rw [hv1])
      (try rw [show (W2.alloc (Obj.cells #[.bool false, .slice none 0 0, .slice none 0 0, .slice none 0 0, .int .i64 0, .int .i64 0] 37)).drew = v1 from hv1])
      have HC1 : Hid (Below W2.heap.size W2 v1) := by rw [← hv1]; exact HC0.out.alloc (HC0.out.size) _
      have HNW1 : Hid (Bx v1 bn #[.bool false, .slice none 0 0, .slice none 0 0, .slice none 0 0, .int .i64 0, .int .i64 0] 37) := by rw [← hv1]; exact Bx.new' (w := W2.drew) hbn _ _
      have HBN : Hid (W2.heap.size ≤ bn) := by rw [Hid, ← hbn]; exact Nat.le_refl _
      clear hv1 hbn
      refine hK.out _ _ ((FS10.out _ HC1.out)) (fun hHeld2 => ?_)
      clear hK K hHeld; have hHeld := hHeld2; clear hHeld2
      try simp only [Act.put, zS, z0, z1]
      refine rdy 1 rfl fun K hK => ?_
      go_simp
      refine (KN.out _ HC1.out).mono ?_
      rintro e v2 ⟨rfl, hb⟩
      have HC2 := hid (HC1.out.trans (hb.mono HC1.out.size))
      have HNW2 := hid (HNW1.out.below hb)
      clear hb
      refine hK.out _ _ ((FS10.out _ HC2.out)) (fun hHeld2 => ?_)
      clear hK K hHeld; have hHeld := hHeld2; clear hHeld2
      try simp only [Act.put, zS, z0, z1]
      refine rdy 3 rfl fun K hK => ?_
      go_simp
      refine (KW.out _ HC2.out).mono ?_
      rintro e v3 ⟨q, rfl, hq, hb⟩
      have HC3 := hid (HC2.out.trans (hb.mono HC2.out.size))
      have HNW3 := hid (HNW2.out.below hb)
      have HDq3 : Hid (Dc (fun b => b < W2.heap.size ∨ b = bn) v3 q (bothA o d)) := hq _ (fun b hb => hb.elim (fun q => Nat.lt_of_lt_of_le q HC2.out.size) (fun q => by subst q; exact HNW2.out.lt))
      clear hb hq
      refine hK.out _ _ ((FS10.out _ HC3.out)) (fun hHeld2 => ?_)
      clear hK K hHeld; have hHeld := hHeld2; clear hHeld2
      try simp only [Act.put, zS, z0, z1]
      refine rdy 5 rfl fun K hK => ?_
      refine stepR rfl 37 (.tmp 9) (.tmp 48) rfl bn q (by with_unfolding_all rfl) (by with_unfolding_all rfl) HNW3.out (by rfl) HDq3.out.len Tryz.sizeDom HDq3.out.one ?_
      refine hK.out _ _ ((FS10.out _ (below_row HC3.out HBN.out _))) (fun hHeld2 => ?_)
      clear hK K hHeld; have hHeld := hHeld2; clear hHeld2
      try simp only [Act.put, zS, z0, z1]
      refine wpAnyH_done (by kernel_rfl) ?_ _
      exact ⟨bn, q, rfl, below_row HC3.out HBN.out _, HBN.out, HNW3.out.setRow _, HDq3.out.kept ⟨rfl, rfl, rfl, by simp [World.setRow], fun b _ hb => setRow_other _ _ b _ (fun e => hb (.inr e))⟩⟩
    exact AllReadyH.nil
  case hK =>
    rintro bn q V ⟨HBV, hbn, hnx, hdq⟩
    obtain ⟨b2, r2, m0, k0, p1, m1, k1, p2, m2, k2, x2, y2, rfl, HE2, _, _, _⟩ := hdq.look
    obtain rfl : b2 = false := by rw [← HE2.out.1, bothA_set]; exact HSO.out
    have HDQ : Hid (Dc (fun b => b < W2.heap.size ∨ b = bn) V [.bool false, .slice r2 m0 k0, .slice p1 m1 k1, .slice p2 m2 k2, .int .i64 x2, .int .i64 y2] (bothA o d)) := hdq
    have HNX : Hid (Bx V bn #[.bool false, .slice r2 m0 k0, .slice p1 m1 k1, .slice p2 m2 k2, .int .i64 x2, .int .i64 y2] 37) := hnx
    have HBOV := hid (HBO.out.below HBV)
    have HB0V := hid (HB2.out.trans (HBV.mono HB2.out.size))
    have HSV := hid (HS.out.below HB0V.out)
    have HCOV := hid (HCO.out.below HB0V.out)
    have HBWS : Hid (bw ≤ W2.heap.size) := by rw [Hid, ← HBW.out]; exact Nat.le_trans HB00.out.size HB2.out.size
    have HDX : Hid (Dc (XS p ⟨.slice sa k sc, .slice ma m mc, .slice ia n ic, .slice (some ⟨gd, 0, none⟩) n dc, .slice wa n wc⟩) V [.bool false, .slice r2 m0 k0, .slice p1 m1 k1, .slice p2 m2 k2, .int .i64 x2, .int .i64 y2] (bothA o d)) := HDQ.out.up (fun b hb => .inl (.inl (Nat.lt_of_lt_of_le (HXL.out b hb) HBWS.out)))
    have HXO : Hid (¬ XS p ⟨.slice sa k sc, .slice ma m mc, .slice ia n ic, .slice (some ⟨gd, 0, none⟩) n dc, .slice wa n wc⟩ bo) := fun q => HOG.out (HXL.out bo q)
    have HXN : Hid (¬ XS p ⟨.slice sa k sc, .slice ma m mc, .slice ia n ic, .slice (some ⟨gd, 0, none⟩) n dc, .slice wa n wc⟩ bn) := fun q => by have := HXL.out bn q; have := HBWS.out; omega
    have ks := same_d HCOV.out HDX.out (bothA_set o d).symm HFO.out HFX.out
    rw [HNS.out] at ks
    obtain ⟨t0, t1, t2, t3, t4, t5⟩ := HBOV.out.six
    obtain ⟨u0, u1, u2, u3, u4, u5⟩ := HNX.out.six
    have HEND := hid (HB00.out.trans (HB0V.out.mono HB00.out.size))
    go_wp2_with fail
    refine ks.mono ?_
    clear ks t0 t1 t2 t3 t4 t5 u0 u1 u2 u3 u4 u5
    rintro e w3 ⟨rfl, hb3⟩
    go_wp2
    all_goals
      go_ret2
      exact ⟨rfl, HEND.out.trans (hb3.mono HEND.out.size)⟩

set_option maxRecDepth 100000 in
set_option maxHeartbeats 4000000 in
theorem narrow_failed_s [Gh] {W : World} {p : Nat} {st : StM} {sl : Sl} {c : List Value} {d o : MD} (h : Sto W p st sl) (hc : Dc (XS p sl) W c d) (v : Nat) (hv : st.D[v]? = some o) (hs : d.set = true) (hs' : o.set = true) (hf : Dm.FitsR d.r) (hR : rightM d = true) (he : 0 < st.e) (hz : Sz st) :
    Calls Tryz.prog 14 #[ptr p, .int .i64 v, .agg c.toArray] W fun e w' => e = .returned (.tuple #[.int .i64 0, .int .i64 6]) ∧ Below W.heap.size W w' := by
  have hvl : v < st.D.length := (List.getElem?_eq_some_iff.1 hv).1
  obtain ⟨n, k, m, sa, sc, ma, mc, ia, ic, da, dc, wa, wc, rfl, HL⟩ := h.look
  obtain ⟨gd, cap, c', e1, hgd, hcap, hcm, hr, hth, hco⟩ := h.dom_at hv
  injection e1 with e1 e2 e3
  subst e1 e3
  clear e2
  have hvn : v < n := by rw [← HL.out.1]; exact hvl
  have hn1 : n ≤ 1000 := by rw [← HL.out.1]; exact hz.1
  obtain ⟨b, ra, n0, rc, a1, n1, c1, a2, n2, c2, x, y, ec, HE, H1, H2, H3⟩ := hc.look
  obtain ⟨b', ra', n0', rc', a1', n1', c1', a2', n2', c2', x', y', ec', HE', H1', H2', H3'⟩ := hco.look
  subst ec ec'
  obtain rfl : b = true := by rw [← HE.out.1, hs]
  obtain rfl : b' = true := by rw [← HE'.out.1, hs']
  obtain ⟨bw, hbw⟩ : ∃ q, W.heap.size = q := ⟨_, rfl⟩
  obtain ⟨W0, hW0⟩ : ∃ Q, W.alloc (Obj.cells #[.bool true, .slice ra n0 rc, .slice a1 n1 c1, .slice a2 n2 c2, .int .i64 x, .int .i64 y] 37) = Q := ⟨_, rfl⟩
  have hb0 : Below W.heap.size W W0 := by rw [← hW0]; exact (Below.refl _ W).alloc (Nat.le_refl _) _
  have HBX : Hid (Bx W0 bw #[.bool true, .slice ra n0 rc, .slice a1 n1 c1, .slice a2 n2 c2, .int .i64 x, .int .i64 y] 37) := by rw [← hW0]; exact Bx.new' hbw _ _
  have HS := hid (h.below hb0)
  have hgd0 : gd < W0.heap.size := Nat.lt_of_lt_of_le hgd hb0.size
  have HRG : Hid (∀ X, Below W0.heap.size W0 X → X.rangeAt gd (v * 6) [.bool true, .slice ra' n0' rc', .slice a1' n1' c1', .slice a2' n2' c2', .int .i64 x', .int .i64 y']) := fun X hX j u hu => (hX.cell (p := ⟨gd, v * 6 + j, none⟩) hgd0).trans ((hb0.cell (p := ⟨gd, v * 6 + j, none⟩) hgd).trans (hr j u hu))
  have HCD := hid (hc.below hb0)
  have HCO := hid (hco.below hb0)
  have KR : Hid (∀ X, Below W0.heap.size W0 X → Calls Tryz.prog 30 #[.agg #[.bool true, .slice ra n0 rc, .slice a1 n1 c1, .slice a2 n2 c2, .int .i64 x, .int .i64 y]] X fun e w' => e = .returned (.bool true) ∧ Below X.heap.size X w') := fun X hX => by have := right_d (HCD.out.below hX) hf; rw [hR] at this; exact this
  have kt := there_any HS.out hz v
  have htb : thereB st v = true := by unfold thereB; simp; exact hvl
  rw [htb] at kt
  have FS5 : Hid (∀ X, Below W0.heap.size W0 X → X.cell? ⟨p, 3, none⟩ = some (.slice (some ⟨gd, 0, none⟩) n dc) ∧ X.cell? ⟨gd, v * 6, none⟩ = some (.bool true) ∧ Bx X bw #[.bool true, .slice ra n0 rc, .slice a1 n1 c1, .slice a2 n2 c2, .int .i64 x, .int .i64 y] 37) := fun X hX => ⟨(HS.out.below hX).cells.2.2.2.1, (rng6 (HRG.out X hX)).1, HBX.out.below hX⟩
  have HE0 : Hid (0 < st.e) := he
  have HSD : Hid (d.set = true) := hs
  have HSO : Hid (o.set = true) := hs'
  have HFD : Hid (Dm.FitsR d.r) := hf
  have HZ : Hid (Sz st) := hz
  have HVO : Hid (st.D[v]? = some o) := hv
  have HVL : Hid (v < st.D.length) := hvl
  have HH : Hid (Sto W p st ⟨.slice sa k sc, .slice ma m mc, .slice ia n ic, .slice (some ⟨gd, 0, none⟩) n dc, .slice wa n wc⟩) := h
  have HB00 : Hid (Below W.heap.size W W0) := hb0
  have HB0 : Hid (Below W0.heap.size W0 W0.drew) := (Below.refl _ _).drew
  have HW0 : Hid _ := hW0
  have HBW : Hid (W.heap.size = bw) := hbw
  have HXL : Hid (∀ b, XS p ⟨.slice sa k sc, .slice ma m mc, .slice ia n ic, .slice (some ⟨gd, 0, none⟩) n dc, .slice wa n wc⟩ b → b < bw) := by rw [Hid, ← hbw]; exact h.x_lt
  have hcapn : n ≤ dc := by rw [← HL.out.1]; exact hcap
  clear hW0 hbw hb0 h hc hco hz hr hth hgd hvl hs hs' hf hv he hR htb hcap H1 H2 H3 H1' H2' H3' HE HE'
  have hvi : (v : Int) < n := by omega
  go_enter Tryz.func14, Tryz.ntmps14
  go_wp2_with fail
  rw [HW0.out]
  refine kt.mono ?_
  clear kt
  rintro e wt ⟨rfl, hwt⟩
  rw [hwt]
  clear hwt wt
  go_upto_region 5 with (fail)
  (try rw [HW0.out])
  (try rw [HBW.out])
  refine wp_region_held_drew (S := fun X : World => X.cell? ⟨p, 3, none⟩ = some (.slice (some ⟨gd, 0, none⟩) n dc) ∧ X.cell? ⟨gd, v * 6, none⟩ = some (.bool true) ∧ Bx X bw #[.bool true, .slice ra n0 rc, .slice a1 n1 c1, .slice a2 n2 c2, .int .i64 x, .int .i64 y] 37) (by kernel_rfl) ((FS5.out _ HB0.out)) (fun hHeld => ?_)
  refine tkH 0 oMc0 (v := ?_) hHeld ?_ ?_; rotate_left
  · intro w hSw; dsimp only [oMc0]; obtain ⟨q3, qd, hN⟩ := hSw; obtain ⟨u0, u1, u2, u3, u4, u5⟩ := hN.six; go_simp <;> with_reducible rfl
  try simp only [oMc0, Act.put, zS, z0, z1]
  refine rdy 1 rfl fun K hK => ?_
  go_simp
  refine (KR.out _ HB0.out).mono ?_
  rintro e w1 ⟨rfl, hb⟩
  have HB1 := hid (HB0.out.trans (hb.mono HB0.out.size))
  clear hb
  refine hK.out _ _ ((FS5.out _ HB1.out)) (fun hHeld2 => ?_)
  clear hK K hHeld; have hHeld := hHeld2; clear hHeld2
  try simp only [Act.put, zS, z0, z1]
  refine tkA 2 oMc1 hHeld ?_
  try simp only [oMc1, Act.put, zS, z0, z1]
  refine tkA 3 oMc2 hHeld ?_
  try simp only [oMc2, Act.put, zS, z0, z1]
  refine tkA 4 oMc3 hHeld ?_
  try simp only [oMc3, Act.put, zS, z0, z1]
  refine tkH 5 oMc4 (v := ?_) hHeld ?_ ?_; rotate_left
  · intro w hSw; dsimp only [oMc4]; obtain ⟨q3, qd, hN⟩ := hSw; obtain ⟨u0, u1, u2, u3, u4, u5⟩ := hN.six; go_simp <;> with_reducible rfl
  try simp only [oMc4, Act.put, zS, z0, z1]
  refine tkA 6 oMc5 hHeld ?_
  try simp only [oMc5, Act.put, zS, z0, z1]
  refine tkA 7 oMc6 hHeld ?_
  try simp only [oMc6, Act.put, zS, z0, z1]
  refine tkA 8 oMc7 hHeld ?_
  try simp only [oMc7, Act.put, zS, z0, z1]
  refine tkH 9 oMc8 (v := ?_) hHeld ?_ ?_; rotate_left
  · intro w hSw; dsimp only [oMc8]; obtain ⟨q3, qd, hN⟩ := hSw; obtain ⟨u0, u1, u2, u3, u4, u5⟩ := hN.six; go_simp <;> with_reducible rfl
  try simp only [oMc8, Act.put, zS, z0, z1]
  refine tkA 10 oMc9 hHeld ?_
  try simp only [oMc9, Act.put, zS, z0, z1]
  refine tkH 11 oMc10 (v := ?_) hHeld ?_ ?_; rotate_left
  · intro w hSw; dsimp only [oMc10]; obtain ⟨q3, qd, hN⟩ := hSw; obtain ⟨u0, u1, u2, u3, u4, u5⟩ := hN.six; go_simp <;> with_reducible rfl
  try simp only [oMc10, Act.put, zS, z0, z1]
  refine tkA 12 oMc11 hHeld ?_
  try simp only [oMc11, Act.put, zS, z0, z1]
  refine tkH 13 oMc12 (v := ?_) hHeld ?_ ?_; rotate_left
  · intro w hSw; dsimp only [oMc12]; obtain ⟨q3, qd, hN⟩ := hSw; obtain ⟨u0, u1, u2, u3, u4, u5⟩ := hN.six; go_simp <;> with_reducible rfl
  try simp only [oMc12, Act.put, zS, z0, z1]
  refine tkA 14 oMc13 hHeld ?_
  try simp only [oMc13, Act.put, zS, z0, z1]
  refine tkA 15 oMc14 hHeld ?_
  try simp only [oMc14, Act.put, zS, z0, z1]
  refine tkA 16 oMc15 hHeld ?_
  try simp only [oMc15, Act.put, zS, z0, z1]
  refine wpAnyH_done (by kernel_rfl) ?_ _
  have z4 := (HS.out.below HB1.out)
  have kf := failed_any z4
  have hd0 : decide (0 < st.e) = true := by simpa using HE0.out
  rw [hd0] at kf
  clear hd0 z4
  go_wp2_with fail
  refine kf.mono ?_
  clear kf
  rintro e wt ⟨rfl, hwt⟩
  rw [hwt]
  clear hwt wt
  go_wp2
  all_goals
    go_ret2
    exact ⟨rfl, HB00.out.trans (HB1.out.mono HB00.out.size)⟩

set_option maxRecDepth 100000 in
set_option maxHeartbeats 4000000 in
theorem narrow_same_s [Gh] {W : World} {p : Nat} {st : StM} {sl : Sl} {c : List Value} {d o : MD} (h : Sto W p st sl) (hc : Dc (XS p sl) W c d) (v : Nat) (hv : st.D[v]? = some o) (hs : d.set = true) (hs' : o.set = true) (hf : Dm.FitsR d.r) (hf' : Dm.FitsR o.r) (hfx : Dm.FitsR (bothA o d).r) (hR : rightM d = true) (he : st.e = 0) (hz : Sz st)
    (hns : sameA o (bothA o d) = true) :
    Calls Tryz.prog 14 #[ptr p, .int .i64 v, .agg c.toArray] W fun e w' => e = .returned (.tuple #[.int .i64 0, .int .i64 0]) ∧ Below W.heap.size W w' := by
  have hvl : v < st.D.length := (List.getElem?_eq_some_iff.1 hv).1
  obtain ⟨n, k, m, sa, sc, ma, mc, ia, ic, da, dc, wa, wc, rfl, HL⟩ := h.look
  obtain ⟨gd, cap, c', e1, hgd, hcap, hcm, hr, hth, hco⟩ := h.dom_at hv
  injection e1 with e1 e2 e3
  subst e1 e3
  clear e2
  have hvn : v < n := by rw [← HL.out.1]; exact hvl
  have hn1 : n ≤ 1000 := by rw [← HL.out.1]; exact hz.1
  obtain ⟨b, ra, n0, rc, a1, n1, c1, a2, n2, c2, x, y, ec, HE, H1, H2, H3⟩ := hc.look
  obtain ⟨b', ra', n0', rc', a1', n1', c1', a2', n2', c2', x', y', ec', HE', H1', H2', H3'⟩ := hco.look
  subst ec ec'
  obtain rfl : b = true := by rw [← HE.out.1, hs]
  obtain rfl : b' = true := by rw [← HE'.out.1, hs']
  obtain ⟨bw, hbw⟩ : ∃ q, W.heap.size = q := ⟨_, rfl⟩
  obtain ⟨W0, hW0⟩ : ∃ Q, W.alloc (Obj.cells #[.bool true, .slice ra n0 rc, .slice a1 n1 c1, .slice a2 n2 c2, .int .i64 x, .int .i64 y] 37) = Q := ⟨_, rfl⟩
  have hb0 : Below W.heap.size W W0 := by rw [← hW0]; exact (Below.refl _ W).alloc (Nat.le_refl _) _
  have HBX : Hid (Bx W0 bw #[.bool true, .slice ra n0 rc, .slice a1 n1 c1, .slice a2 n2 c2, .int .i64 x, .int .i64 y] 37) := by rw [← hW0]; exact Bx.new' hbw _ _
  have HS := hid (h.below hb0)
  have hgd0 : gd < W0.heap.size := Nat.lt_of_lt_of_le hgd hb0.size
  have HRG : Hid (∀ X, Below W0.heap.size W0 X → X.rangeAt gd (v * 6) [.bool true, .slice ra' n0' rc', .slice a1' n1' c1', .slice a2' n2' c2', .int .i64 x', .int .i64 y']) := fun X hX j u hu => (hX.cell (p := ⟨gd, v * 6 + j, none⟩) hgd0).trans ((hb0.cell (p := ⟨gd, v * 6 + j, none⟩) hgd).trans (hr j u hu))
  have HCD := hid (hc.below hb0)
  have HCO := hid (hco.below hb0)
  have KR : Hid (∀ X, Below W0.heap.size W0 X → Calls Tryz.prog 30 #[.agg #[.bool true, .slice ra n0 rc, .slice a1 n1 c1, .slice a2 n2 c2, .int .i64 x, .int .i64 y]] X fun e w' => e = .returned (.bool true) ∧ Below X.heap.size X w') := fun X hX => by have := right_d (HCD.out.below hX) hf; rw [hR] at this; exact this
  have kt := there_any HS.out hz v
  have htb : thereB st v = true := by unfold thereB; simp; exact hvl
  rw [htb] at kt
  have FS5 : Hid (∀ X, Below W0.heap.size W0 X → X.cell? ⟨p, 3, none⟩ = some (.slice (some ⟨gd, 0, none⟩) n dc) ∧ X.cell? ⟨gd, v * 6, none⟩ = some (.bool true) ∧ Bx X bw #[.bool true, .slice ra n0 rc, .slice a1 n1 c1, .slice a2 n2 c2, .int .i64 x, .int .i64 y] 37) := fun X hX => ⟨(HS.out.below hX).cells.2.2.2.1, (rng6 (HRG.out X hX)).1, HBX.out.below hX⟩
  have HE0 : Hid (st.e = 0) := he
  have HSD : Hid (d.set = true) := hs
  have HSO : Hid (o.set = true) := hs'
  have HFD : Hid (Dm.FitsR d.r) := hf
  have HFO : Hid (Dm.FitsR o.r) := hf'
  have HFX : Hid (Dm.FitsR (bothA o d).r) := hfx
  have HNS : Hid (sameA o (bothA o d) = true) := hns
  have HZ : Hid (Sz st) := hz
  have HVO : Hid (st.D[v]? = some o) := hv
  have HVL : Hid (v < st.D.length) := hvl
  have HH : Hid (Sto W p st ⟨.slice sa k sc, .slice ma m mc, .slice ia n ic, .slice (some ⟨gd, 0, none⟩) n dc, .slice wa n wc⟩) := h
  have HB00 : Hid (Below W.heap.size W W0) := hb0
  have HB0 : Hid (Below W0.heap.size W0 W0.drew) := (Below.refl _ _).drew
  have HW0 : Hid _ := hW0
  have HBW : Hid (W.heap.size = bw) := hbw
  have HXL : Hid (∀ b, XS p ⟨.slice sa k sc, .slice ma m mc, .slice ia n ic, .slice (some ⟨gd, 0, none⟩) n dc, .slice wa n wc⟩ b → b < bw) := by rw [Hid, ← hbw]; exact h.x_lt
  have hcapn : n ≤ dc := by rw [← HL.out.1]; exact hcap
  clear hW0 hbw hb0 h hc hco hz hr hth hgd hvl hs hs' hf hf' hfx hns hv he hR htb hcap H1 H2 H3 H1' H2' H3' HE HE'
  have hvi : (v : Int) < n := by omega
  go_enter Tryz.func14, Tryz.ntmps14
  go_wp2_with fail
  rw [HW0.out]
  refine kt.mono ?_
  clear kt
  rintro e wt ⟨rfl, hwt⟩
  rw [hwt]
  clear hwt wt
  go_upto_region 5 with (fail)
  (try rw [HW0.out])
  (try rw [HBW.out])
  refine wp_region_held_drew (S := fun X : World => X.cell? ⟨p, 3, none⟩ = some (.slice (some ⟨gd, 0, none⟩) n dc) ∧ X.cell? ⟨gd, v * 6, none⟩ = some (.bool true) ∧ Bx X bw #[.bool true, .slice ra n0 rc, .slice a1 n1 c1, .slice a2 n2 c2, .int .i64 x, .int .i64 y] 37) (by kernel_rfl) ((FS5.out _ HB0.out)) (fun hHeld => ?_)
  refine tkH 0 oMc0 (v := ?_) hHeld ?_ ?_; rotate_left
  · intro w hSw; dsimp only [oMc0]; obtain ⟨q3, qd, hN⟩ := hSw; obtain ⟨u0, u1, u2, u3, u4, u5⟩ := hN.six; go_simp <;> with_reducible rfl
  try simp only [oMc0, Act.put, zS, z0, z1]
  refine rdy 1 rfl fun K hK => ?_
  go_simp
  refine (KR.out _ HB0.out).mono ?_
  rintro e w1 ⟨rfl, hb⟩
  have HB1 := hid (HB0.out.trans (hb.mono HB0.out.size))
  clear hb
  refine hK.out _ _ ((FS5.out _ HB1.out)) (fun hHeld2 => ?_)
  clear hK K hHeld; have hHeld := hHeld2; clear hHeld2
  try simp only [Act.put, zS, z0, z1]
  refine tkA 2 oMc1 hHeld ?_
  try simp only [oMc1, Act.put, zS, z0, z1]
  refine tkA 3 oMc2 hHeld ?_
  try simp only [oMc2, Act.put, zS, z0, z1]
  refine tkA 4 oMc3 hHeld ?_
  try simp only [oMc3, Act.put, zS, z0, z1]
  refine tkH 5 oMc4 (v := ?_) hHeld ?_ ?_; rotate_left
  · intro w hSw; dsimp only [oMc4]; obtain ⟨q3, qd, hN⟩ := hSw; obtain ⟨u0, u1, u2, u3, u4, u5⟩ := hN.six; go_simp <;> with_reducible rfl
  try simp only [oMc4, Act.put, zS, z0, z1]
  refine tkA 6 oMc5 hHeld ?_
  try simp only [oMc5, Act.put, zS, z0, z1]
  refine tkA 7 oMc6 hHeld ?_
  try simp only [oMc6, Act.put, zS, z0, z1]
  refine tkA 8 oMc7 hHeld ?_
  try simp only [oMc7, Act.put, zS, z0, z1]
  refine tkH 9 oMc8 (v := ?_) hHeld ?_ ?_; rotate_left
  · intro w hSw; dsimp only [oMc8]; obtain ⟨q3, qd, hN⟩ := hSw; obtain ⟨u0, u1, u2, u3, u4, u5⟩ := hN.six; go_simp <;> with_reducible rfl
  try simp only [oMc8, Act.put, zS, z0, z1]
  refine tkA 10 oMc9 hHeld ?_
  try simp only [oMc9, Act.put, zS, z0, z1]
  refine tkH 11 oMc10 (v := ?_) hHeld ?_ ?_; rotate_left
  · intro w hSw; dsimp only [oMc10]; obtain ⟨q3, qd, hN⟩ := hSw; obtain ⟨u0, u1, u2, u3, u4, u5⟩ := hN.six; go_simp <;> with_reducible rfl
  try simp only [oMc10, Act.put, zS, z0, z1]
  refine tkA 12 oMc11 hHeld ?_
  try simp only [oMc11, Act.put, zS, z0, z1]
  refine tkH 13 oMc12 (v := ?_) hHeld ?_ ?_; rotate_left
  · intro w hSw; dsimp only [oMc12]; obtain ⟨q3, qd, hN⟩ := hSw; obtain ⟨u0, u1, u2, u3, u4, u5⟩ := hN.six; go_simp <;> with_reducible rfl
  try simp only [oMc12, Act.put, zS, z0, z1]
  refine tkA 14 oMc13 hHeld ?_
  try simp only [oMc13, Act.put, zS, z0, z1]
  refine tkA 15 oMc14 hHeld ?_
  try simp only [oMc14, Act.put, zS, z0, z1]
  refine tkA 16 oMc15 hHeld ?_
  try simp only [oMc15, Act.put, zS, z0, z1]
  refine wpAnyH_done (by kernel_rfl) ?_ _
  have z4 := (HS.out.below HB1.out)
  have kf := failed_any z4
  rw [HE0.out] at kf
  have hd0 : decide (0 < (0 : Int)) = false := rfl
  rw [hd0] at kf
  clear hd0
  go_wp2_with fail
  refine kf.mono ?_
  clear kf
  rintro e wt ⟨rfl, hwt⟩
  rw [hwt]
  clear hwt wt
  obtain ⟨z0, z1, z2, z3, z44, z5, zf⟩ := z4.cells
  simp only at z3
  clear z0 z1 z2 z44 z5 zf z4
  obtain ⟨u0, u1, u2, u3, u4, u5⟩ := rng6 (HRG.out _ HB1.out)
  obtain ⟨bo, hbo⟩ : ∃ q, w1.heap.size = q := ⟨_, rfl⟩
  go_upto_region 10 with (fail)
  obtain ⟨W2, hW2⟩ : ∃ q, w1.alloc (Obj.cells #[.bool true, .slice ra' n0' rc', .slice a1' n1' c1', .slice a2' n2' c2', .int .i64 x', .int .i64 y'] 37) = q := ⟨_, rfl⟩
  rw [hW2]
  (try rw [hbo])
  have HB2 : Hid (Below W0.heap.size W0 W2) := by rw [← hW2]; exact HB1.out.alloc HB1.out.size _
  have HBO : Hid (Bx W2 bo #[.bool true, .slice ra' n0' rc', .slice a1' n1' c1', .slice a2' n2' c2', .int .i64 x', .int .i64 y'] 37) := by rw [← hW2]; exact Bx.new' hbo _ _
  have HOG : Hid (¬ bo < bw) := by rw [Hid, ← hbo, ← HBW.out]; exact Nat.not_lt.2 (Nat.le_trans HB00.out.size HB1.out.size)
  clear hW2 hbo z3 u0 u1 u2 u3 u4 u5
  have HBXd := hid (HBX.out.below HB2.out)
  have KN : Hid (∀ X, Below W2.heap.size W2 X → Calls Tryz.prog 49 #[.agg #[.bool true, .slice ra' n0' rc', .slice a1' n1' c1', .slice a2' n2' c2', .int .i64 x', .int .i64 y']] X fun e w' => e = .returned (.func (.func 73) #[.agg #[.bool true, .slice ra' n0' rc', .slice a1' n1' c1', .slice a2' n2' c2', .int .i64 x', .int .i64 y']] #[]) ∧ Below X.heap.size X w') := fun X hX => narrower_s ((HCO.out.below HB2.out).below hX) HSO.out
  have KW : Hid (∀ X, Below W2.heap.size W2 X → Calls Tryz.prog 73 #[.agg #[.bool true, .slice ra' n0' rc', .slice a1' n1' c1', .slice a2' n2' c2', .int .i64 x', .int .i64 y'], .agg #[.bool true, .slice ra n0 rc, .slice a1 n1 c1, .slice a2 n2 c2, .int .i64 x, .int .i64 y]] X fun e w' => ∃ q : List Value, e = .returned (.agg q.toArray) ∧ (∀ Z : Nat → Prop, (∀ b, Z b → b < X.heap.size) → Dc Z w' q (bothA o d)) ∧ Below X.heap.size X w') := fun X hX => with_sz ((HCO.out.below HB2.out).below hX) ((HCD.out.below HB2.out).below hX) HSO.out
  have FS10 : Hid (∀ X, Below W2.heap.size W2 X → Bx X bo #[.bool true, .slice ra' n0' rc', .slice a1' n1' c1', .slice a2' n2' c2', .int .i64 x', .int .i64 y'] 37 ∧ Bx X bw #[.bool true, .slice ra n0 rc, .slice a1 n1 c1, .slice a2 n2 c2, .int .i64 x, .int .i64 y] 37) := fun X hX => ⟨HBO.out.below hX, HBXd.out.below hX⟩
  have HC0 : Hid (Below W2.heap.size W2 W2.drew) := (Below.refl _ _).drew
  clear HRG FS5 KR HB0
  apply wp_ways2 (R := fun bn q w' => Below W2.heap.size W2 w' ∧ W2.heap.size ≤ bn ∧ Bx w' bn q.toArray 37 ∧ Dc (fun b => b < W2.heap.size ∨ b = bn) w' q (bothA o d))
  case h =>
    refine wp_region_held_drew (S := fun X : World => Bx X bo #[.bool true, .slice ra' n0' rc', .slice a1' n1' c1', .slice a2' n2' c2', .int .i64 x', .int .i64 y'] 37 ∧ Bx X bw #[.bool true, .slice ra n0 rc, .slice a1 n1 c1, .slice a2 n2 c2, .int .i64 x, .int .i64 y] 37) (by kernel_rfl) ((FS10.out _ HC0.out)) (fun hHeld => ?_)
    refine tkH 0 oMc16 (v := ?_) hHeld ?_ ?_; rotate_left
    · intro w hSw; dsimp only [oMc16]; obtain ⟨hO, hN⟩ := hSw; obtain ⟨y0, y1, y2, y3, y4, y5⟩ := hO.six; obtain ⟨u0, u1, u2, u3, u4, u5⟩ := hN.six; go_simp <;> with_reducible rfl
    try simp only [oMc16, Act.put, zS, z0, z1]
    refine tkH 2 oMc17 (v := ?_) hHeld ?_ ?_; rotate_left
    · intro w hSw; dsimp only [oMc17]; obtain ⟨hO, hN⟩ := hSw; obtain ⟨y0, y1, y2, y3, y4, y5⟩ := hO.six; obtain ⟨u0, u1, u2, u3, u4, u5⟩ := hN.six; go_simp <;> with_reducible rfl
    try simp only [oMc17, Act.put, zS, z0, z1]
    refine wpAnyH_ready (rs := [1, 4]) (by kernel_rfl) (by simp) ?_
    refine AllReadyH.cons rfl (fun K hK => ?_) ?_
    · go_simp
      refine (KN.out _ HC0.out).mono ?_
      rintro e v1 ⟨rfl, hb⟩
      have HC1 := hid (HC0.out.trans (hb.mono HC0.out.size))
      clear hb
      refine hK.out _ _ ((FS10.out _ HC1.out)) (fun hHeld2 => ?_)
      clear hK K hHeld; have hHeld := hHeld2; clear hHeld2
      try simp only [Act.put, zS, z0, z1]
      refine wpAnyH_ready (rs := [3, 4]) (by kernel_rfl) (by simp) ?_
      refine AllReadyH.cons rfl (fun K hK => ?_) ?_
      · go_simp
        refine (KW.out _ HC1.out).mono ?_
        rintro e v2 ⟨q, rfl, hq, hb⟩
        have HC2 := hid (HC1.out.trans (hb.mono HC1.out.size))
        have HDq2 : Hid (Dc (fun b => b < W2.heap.size) v2 q (bothA o d)) := hq _ (fun b q => Nat.lt_of_lt_of_le q HC1.out.size)
        clear hb hq
        refine hK.out _ _ ((FS10.out _ HC2.out)) (fun hHeld2 => ?_)
        clear hK K hHeld; have hHeld := hHeld2; clear hHeld2
        try simp only [Act.put, zS, z0, z1]
        refine rdy 4 rfl fun K hK => ?_
        obtain ⟨bn, hbn⟩ : ∃ q, v2.heap.size = q := ⟨_, rfl⟩
        go_simp
        (try rw [hbn])
        obtain ⟨v3, hv3⟩ : ∃ q, v2.alloc (Obj.cells #[.bool false, .slice none 0 0, .slice none 0 0, .slice none 0 0, .int .i64 0, .int .i64 0] 37) = q := ⟨_, rfl⟩
        (try rw [hv3])
        (try rw [show (v2.alloc (Obj.cells #[.bool false, .slice none 0 0, .slice none 0 0, .slice none 0 0, .int .i64 0, .int .i64 0] 37)).drew = v3 from hv3])
        have HC3 : Hid (Below W2.heap.size W2 v3) := by rw [← hv3]; exact HC2.out.alloc (HC2.out.size) _
        have HNW3 : Hid (Bx v3 bn #[.bool false, .slice none 0 0, .slice none 0 0, .slice none 0 0, .int .i64 0, .int .i64 0] 37) := by rw [← hv3]; exact Bx.new' (w := v2) hbn _ _
        have HBN : Hid (W2.heap.size ≤ bn) := by rw [Hid, ← hbn]; exact HC2.out.size
        have HDq3 : Hid (Dc (fun b => b < W2.heap.size ∨ b = bn) v3 q (bothA o d)) := by
          rw [← hv3]
          exact HDq2.out.go (Kept.of_below ((Below.refl _ _).alloc (Nat.le_refl _) _)) (fun b hb => hb.elim .inl (fun e => .inr (by omega)))
        clear hv3 hbn
        refine hK.out _ _ ((FS10.out _ HC3.out)) (fun hHeld2 => ?_)
        clear hK K hHeld; have hHeld := hHeld2; clear hHeld2
        try simp only [Act.put, zS, z0, z1]
        refine rdy 5 rfl fun K hK => ?_
        refine stepR rfl 37 (.tmp 9) (.tmp 48) rfl bn q (by with_unfolding_all rfl) (by with_unfolding_all rfl) HNW3.out (by rfl) HDq3.out.len Tryz.sizeDom HDq3.out.one ?_
        refine hK.out _ _ ((FS10.out _ (below_row HC3.out HBN.out _))) (fun hHeld2 => ?_)
        clear hK K hHeld; have hHeld := hHeld2; clear hHeld2
        try simp only [Act.put, zS, z0, z1]
        refine wpAnyH_done (by kernel_rfl) ?_ _
        exact ⟨bn, q, rfl, below_row HC3.out HBN.out _, HBN.out, HNW3.out.setRow _, HDq3.out.kept ⟨rfl, rfl, rfl, by simp [World.setRow], fun b _ hb => setRow_other _ _ b _ (fun e => hb (.inr e))⟩⟩
      refine AllReadyH.cons rfl (fun K hK => ?_) ?_
      · obtain ⟨bn, hbn⟩ : ∃ q, v1.heap.size = q := ⟨_, rfl⟩
        go_simp
        (try rw [hbn])
        obtain ⟨v2, hv2⟩ : ∃ q, v1.alloc (Obj.cells #[.bool false, .slice none 0 0, .slice none 0 0, .slice none 0 0, .int .i64 0, .int .i64 0] 37) = q := ⟨_, rfl⟩
        (try rw [hv2])
        (try rw [show (v1.alloc (Obj.cells #[.bool false, .slice none 0 0, .slice none 0 0, .slice none 0 0, .int .i64 0, .int .i64 0] 37)).drew = v2 from hv2])
        have HC2 : Hid (Below W2.heap.size W2 v2) := by rw [← hv2]; exact HC1.out.alloc (HC1.out.size) _
        have HNW2 : Hid (Bx v2 bn #[.bool false, .slice none 0 0, .slice none 0 0, .slice none 0 0, .int .i64 0, .int .i64 0] 37) := by rw [← hv2]; exact Bx.new' (w := v1) hbn _ _
        have HBN : Hid (W2.heap.size ≤ bn) := by rw [Hid, ← hbn]; exact HC1.out.size
        clear hv2 hbn
        refine hK.out _ _ ((FS10.out _ HC2.out)) (fun hHeld2 => ?_)
        clear hK K hHeld; have hHeld := hHeld2; clear hHeld2
        try simp only [Act.put, zS, z0, z1]
        refine rdy 3 rfl fun K hK => ?_
        go_simp
        refine (KW.out _ HC2.out).mono ?_
        rintro e v3 ⟨q, rfl, hq, hb⟩
        have HC3 := hid (HC2.out.trans (hb.mono HC2.out.size))
        have HNW3 := hid (HNW2.out.below hb)
        have HDq3 : Hid (Dc (fun b => b < W2.heap.size ∨ b = bn) v3 q (bothA o d)) := hq _ (fun b hb => hb.elim (fun q => Nat.lt_of_lt_of_le q HC2.out.size) (fun q => by subst q; exact HNW2.out.lt))
        clear hb hq
        refine hK.out _ _ ((FS10.out _ HC3.out)) (fun hHeld2 => ?_)
        clear hK K hHeld; have hHeld := hHeld2; clear hHeld2
        try simp only [Act.put, zS, z0, z1]
        refine rdy 5 rfl fun K hK => ?_
        refine stepR rfl 37 (.tmp 9) (.tmp 48) rfl bn q (by with_unfolding_all rfl) (by with_unfolding_all rfl) HNW3.out (by rfl) HDq3.out.len Tryz.sizeDom HDq3.out.one ?_
        refine hK.out _ _ ((FS10.out _ (below_row HC3.out HBN.out _))) (fun hHeld2 => ?_)
        clear hK K hHeld; have hHeld := hHeld2; clear hHeld2
        try simp only [Act.put, zS, z0, z1]
        refine wpAnyH_done (by kernel_rfl) ?_ _
        exact ⟨bn, q, rfl, below_row HC3.out HBN.out _, HBN.out, HNW3.out.setRow _, HDq3.out.kept ⟨rfl, rfl, rfl, by simp [World.setRow], fun b _ hb => setRow_other _ _ b _ (fun e => hb (.inr e))⟩⟩
      exact AllReadyH.nil
    refine AllReadyH.cons rfl (fun K hK => ?_) ?_
    · obtain ⟨bn, hbn⟩ : ∃ q, W2.heap.size = q := ⟨_, rfl⟩
      go_simp
      (try rw [hbn])
      obtain ⟨v1, hv1⟩ : ∃ q, W2.drew.alloc (Obj.cells #[.bool false, .slice none 0 0, .slice none 0 0, .slice none 0 0, .int .i64 0, .int .i64 0] 37) = q := ⟨_, rfl⟩
      (try rw [hv1])
      (try rw [show (W2.alloc (Obj.cells #[.bool false, .slice none 0 0, .slice none 0 0, .slice none 0 0, .int .i64 0, .int .i64 0] 37)).drew = v1 from hv1])
      have HC1 : Hid (Below W2.heap.size W2 v1) := by rw [← hv1]; exact HC0.out.alloc (HC0.out.size) _
      have HNW1 : Hid (Bx v1 bn #[.bool false, .slice none 0 0, .slice none 0 0, .slice none 0 0, .int .i64 0, .int .i64 0] 37) := by rw [← hv1]; exact Bx.new' (w := W2.drew) hbn _ _
      have HBN : Hid (W2.heap.size ≤ bn) := by rw [Hid, ← hbn]; exact Nat.le_refl _
      clear hv1 hbn
      refine hK.out _ _ ((FS10.out _ HC1.out)) (fun hHeld2 => ?_)
      clear hK K hHeld; have hHeld := hHeld2; clear hHeld2
      try simp only [Act.put, zS, z0, z1]
      refine rdy 1 rfl fun K hK => ?_
      go_simp
      refine (KN.out _ HC1.out).mono ?_
      rintro e v2 ⟨rfl, hb⟩
      have HC2 := hid (HC1.out.trans (hb.mono HC1.out.size))
      have HNW2 := hid (HNW1.out.below hb)
      clear hb
      refine hK.out _ _ ((FS10.out _ HC2.out)) (fun hHeld2 => ?_)
      clear hK K hHeld; have hHeld := hHeld2; clear hHeld2
      try simp only [Act.put, zS, z0, z1]
      refine rdy 3 rfl fun K hK => ?_
      go_simp
      refine (KW.out _ HC2.out).mono ?_
      rintro e v3 ⟨q, rfl, hq, hb⟩
      have HC3 := hid (HC2.out.trans (hb.mono HC2.out.size))
      have HNW3 := hid (HNW2.out.below hb)
      have HDq3 : Hid (Dc (fun b => b < W2.heap.size ∨ b = bn) v3 q (bothA o d)) := hq _ (fun b hb => hb.elim (fun q => Nat.lt_of_lt_of_le q HC2.out.size) (fun q => by subst q; exact HNW2.out.lt))
      clear hb hq
      refine hK.out _ _ ((FS10.out _ HC3.out)) (fun hHeld2 => ?_)
      clear hK K hHeld; have hHeld := hHeld2; clear hHeld2
      try simp only [Act.put, zS, z0, z1]
      refine rdy 5 rfl fun K hK => ?_
      refine stepR rfl 37 (.tmp 9) (.tmp 48) rfl bn q (by with_unfolding_all rfl) (by with_unfolding_all rfl) HNW3.out (by rfl) HDq3.out.len Tryz.sizeDom HDq3.out.one ?_
      refine hK.out _ _ ((FS10.out _ (below_row HC3.out HBN.out _))) (fun hHeld2 => ?_)
      clear hK K hHeld; have hHeld := hHeld2; clear hHeld2
      try simp only [Act.put, zS, z0, z1]
      refine wpAnyH_done (by kernel_rfl) ?_ _
      exact ⟨bn, q, rfl, below_row HC3.out HBN.out _, HBN.out, HNW3.out.setRow _, HDq3.out.kept ⟨rfl, rfl, rfl, by simp [World.setRow], fun b _ hb => setRow_other _ _ b _ (fun e => hb (.inr e))⟩⟩
    exact AllReadyH.nil
  case hK =>
    rintro bn q V ⟨HBV, hbn, hnx, hdq⟩
    obtain ⟨b2, r2, m0, k0, p1, m1, k1, p2, m2, k2, x2, y2, rfl, HE2, _, _, _⟩ := hdq.look
    obtain rfl : b2 = true := by rw [← HE2.out.1, bothA_set]; exact HSO.out
    have HDQ : Hid (Dc (fun b => b < W2.heap.size ∨ b = bn) V [.bool true, .slice r2 m0 k0, .slice p1 m1 k1, .slice p2 m2 k2, .int .i64 x2, .int .i64 y2] (bothA o d)) := hdq
    have HNX : Hid (Bx V bn #[.bool true, .slice r2 m0 k0, .slice p1 m1 k1, .slice p2 m2 k2, .int .i64 x2, .int .i64 y2] 37) := hnx
    have HBOV := hid (HBO.out.below HBV)
    have HB0V := hid (HB2.out.trans (HBV.mono HB2.out.size))
    have HSV := hid (HS.out.below HB0V.out)
    have HCOV := hid (HCO.out.below HB0V.out)
    have HBWS : Hid (bw ≤ W2.heap.size) := by rw [Hid, ← HBW.out]; exact Nat.le_trans HB00.out.size HB2.out.size
    have HDX : Hid (Dc (XS p ⟨.slice sa k sc, .slice ma m mc, .slice ia n ic, .slice (some ⟨gd, 0, none⟩) n dc, .slice wa n wc⟩) V [.bool true, .slice r2 m0 k0, .slice p1 m1 k1, .slice p2 m2 k2, .int .i64 x2, .int .i64 y2] (bothA o d)) := HDQ.out.up (fun b hb => .inl (.inl (Nat.lt_of_lt_of_le (HXL.out b hb) HBWS.out)))
    have HXO : Hid (¬ XS p ⟨.slice sa k sc, .slice ma m mc, .slice ia n ic, .slice (some ⟨gd, 0, none⟩) n dc, .slice wa n wc⟩ bo) := fun q => HOG.out (HXL.out bo q)
    have HXN : Hid (¬ XS p ⟨.slice sa k sc, .slice ma m mc, .slice ia n ic, .slice (some ⟨gd, 0, none⟩) n dc, .slice wa n wc⟩ bn) := fun q => by have := HXL.out bn q; have := HBWS.out; omega
    have ks := same_d HCOV.out HDX.out (bothA_set o d).symm HFO.out HFX.out
    rw [HNS.out] at ks
    obtain ⟨t0, t1, t2, t3, t4, t5⟩ := HBOV.out.six
    obtain ⟨u0, u1, u2, u3, u4, u5⟩ := HNX.out.six
    have HEND := hid (HB00.out.trans (HB0V.out.mono HB00.out.size))
    go_wp2_with fail
    refine ks.mono ?_
    clear ks t0 t1 t2 t3 t4 t5 u0 u1 u2 u3 u4 u5
    rintro e w3 ⟨rfl, hb3⟩
    go_wp2
    all_goals
      go_ret2
      exact ⟨rfl, HEND.out.trans (hb3.mono HEND.out.size)⟩
end Go.Proofs.YtghnfnieppfhgaaGreat
