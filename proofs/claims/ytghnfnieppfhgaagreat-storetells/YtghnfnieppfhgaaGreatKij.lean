/-
  What is proved here: save: the domain that a variable had is kept.
  What is proved here: Narrow, where a domain becomes smaller.
  What is proved here: Events.
-/
import Derived.Test.YtghnfnieppfhgaaGreatAa
import Derived.Test.YtghnfnieppfhgaaGreatKgj
import Derived.Lib.SliceRun
namespace Go.Proofs.YtghnfnieppfhgaaGreat
open Go.RowKit Go.Shelf
set_option linter.unusedVariables false
set_option linter.unusedSimpArgs false

abbrev oKi0 : Oper := ⟨some 6, .move (.tmp 0), 103, "trail.go:34", #[], none⟩
abbrev oKi1 : Oper := ⟨some 7, .nilCheck (.tmp 6), 0, "trail.go:34", #[⟨0, .data⟩], none⟩
abbrev oKi2 : Oper := ⟨some 8, .fieldAddr 65 (.tmp 7) 2, 0, "trail.go:34", #[⟨1, .data⟩], none⟩
abbrev oKi3 : Oper := ⟨some 9, .load 63 (.tmp 8), 63, "trail.go:34", #[⟨2, .data⟩], none⟩
abbrev oKi4 : Oper := ⟨some 10, .move (.tmp 1), 3, "trail.go:34", #[], none⟩
abbrev oKi5 : Oper := ⟨some 11, .indexAddr 63 (.tmp 9) (.tmp 10), 0, "trail.go:34", #[⟨3, .data⟩, ⟨4, .data⟩], none⟩
abbrev oKi6 : Oper := ⟨some 12, .load 3 (.tmp 11), 3, "trail.go:34", #[⟨5, .data⟩], none⟩
abbrev oKi7 : Oper := ⟨some 13, .move (.tmp 0), 103, "trail.go:34", #[], none⟩
abbrev oKi8 : Oper := ⟨some 15, .binOp .eql 3 (.tmp 12) (.tmp 14) 3, 4, "trail.go:34", #[⟨6, .data⟩, ⟨8, .data⟩], none⟩
abbrev oKi9 : Oper := ⟨some 33, .nilCheck (.tmp 16), 0, "trail.go:37", #[⟨0, .data⟩, ⟨0, .phase⟩, ⟨1, .phase⟩, ⟨2, .phase⟩, ⟨3, .phase⟩, ⟨4, .phase⟩, ⟨5, .phase⟩, ⟨6, .phase⟩, ⟨7, .phase⟩, ⟨8, .phase⟩, ⟨9, .phase⟩, ⟨10, .phase⟩, ⟨11, .phase⟩, ⟨12, .phase⟩, ⟨13, .phase⟩, ⟨14, .phase⟩, ⟨15, .phase⟩, ⟨16, .phase⟩], none⟩
abbrev oKi10 : Oper := ⟨some 34, .fieldAddr 65 (.tmp 33) 0, 0, "trail.go:37", #[⟨17, .data⟩, ⟨0, .phase⟩, ⟨1, .phase⟩, ⟨2, .phase⟩, ⟨3, .phase⟩, ⟨4, .phase⟩, ⟨5, .phase⟩, ⟨6, .phase⟩, ⟨7, .phase⟩, ⟨8, .phase⟩, ⟨9, .phase⟩, ⟨10, .phase⟩, ⟨11, .phase⟩, ⟨12, .phase⟩, ⟨13, .phase⟩, ⟨14, .phase⟩, ⟨15, .phase⟩, ⟨16, .phase⟩], none⟩
abbrev oKi11 : Oper := ⟨some 35, .move (.tmp 0), 103, "trail.go:38", #[], none⟩
abbrev oKi12 : Oper := ⟨some 36, .nilCheck (.tmp 35), 0, "trail.go:38", #[⟨0, .data⟩], none⟩
abbrev oKi13 : Oper := ⟨some 37, .fieldAddr 65 (.tmp 36) 2, 0, "trail.go:38", #[⟨1, .data⟩], none⟩
abbrev oKi14 : Oper := ⟨some 38, .load 63 (.tmp 37), 63, "trail.go:38", #[⟨2, .data⟩], none⟩
abbrev oKi15 : Oper := ⟨some 39, .move (.tmp 1), 3, "trail.go:38", #[], none⟩
abbrev oKi16 : Oper := ⟨some 40, .move (.tmp 0), 103, "trail.go:38", #[], none⟩
abbrev oKi17 : Oper := ⟨some 42, .indexAddr 63 (.tmp 38) (.tmp 39), 0, "trail.go:38", #[⟨3, .data⟩, ⟨4, .data⟩, ⟨0, .phase⟩, ⟨1, .phase⟩, ⟨2, .phase⟩, ⟨3, .phase⟩, ⟨4, .phase⟩, ⟨5, .phase⟩, ⟨6, .phase⟩], none⟩
/-- What becomes of a store whose variable's domain is saved. -/
def saveM (st : StM) (v : Nat) (o : MD) : StM := if st.since.getD v 0 = st.marks.length then st else { st with saved := st.saved ++ [((v : Int), o, st.since.getD v 0)], since := st.since.set v st.marks.length }
theorem Kr.snoc {X : Nat → Prop} {w : World} {ks : List (List Value)} {S : List (Int × MD × Int)} (h : Kr X w ks S) {c : List Value} {d : MD} (hc : Dc X w c d) (v s : Int) : Kr X w (ks ++ [kcell v c s]) (S ++ [(v, d, s)]) := by
  refine ⟨by simp [h.1], fun i kc t h1 h2 => ?_⟩
  by_cases hi : i < ks.length
  · rw [List.getElem?_append_left hi] at h1
    rw [List.getElem?_append_left (by rw [← h.1]; exact hi)] at h2
    exact h.2 i kc t h1 h2
  · have hl := (List.getElem?_eq_some_iff.1 h1).1
    simp at hl
    have e : i = ks.length := by omega
    subst e
    rw [List.getElem?_append_right (Nat.le_refl _), Nat.sub_self] at h1
    rw [h.1, List.getElem?_append_right (Nat.le_refl _), Nat.sub_self] at h2
    injection h1 with h1
    injection h2 with h2
    subst h1 h2
    exact ⟨c, rfl, hc⟩
theorem up_saved {w : World} {p : Nat} {sl : Sl} {sv' : Value} (hn : ∀ b, sv'.ownBlock = some b → sl.sv.ownBlock = some b ∨ w.heap.size ≤ b) : Up (XS p sl) (XS p { sl with sv := sv' }) w := fun b hb => by
  rcases hb with q | q | q
  · exact .inl (.inl q)
  · rcases hn b q with q | q
    · exact .inl (.inr (.inl q))
    · exact .inr q
  · exact .inl (.inr (.inr q))
theorem kept_saved {w w1 : World} {p : Nat} {sl : Sl} (hg : w.grownBy w1 sl.sv.ownBlock) : Kept (XS p sl) w w1 := ⟨hg.os, hg.tape, hg.output, hg.size, fun b hb hx => hg.block b hb (fun e => hx (.inr (.inl e.symm)))⟩
theorem quiet_same {P : Program} {f : Nat} {args : Array Value} {W : World} {r : Value} (h : Calls P f args W fun e w' => e = .returned r ∧ w' = W) : Calls P f args W fun e w' => e = .returned r ∧ ∃ n, w' = W.drewN n := h.mono fun e w' ⟨a, b⟩ => ⟨a, 0, b⟩
theorem eight_one (i : Int) (b : Bool) (p0 : Option Addr) (m0 k0 : Nat) (p1 : Option Addr) (m1 k1 : Nat) (p2 : Option Addr) (m2 k2 : Nat) (x y j : Int) : ∀ v ∈ [Value.int .i64 i, .bool b, .slice p0 m0 k0, .slice p1 m1 k1, .slice p2 m2 k2, .int .i64 x, .int .i64 y, .int .i64 j], v.oneCell' = true := by
  intro v hv
  simp only [List.mem_cons, List.not_mem_nil, or_false] at hv
  rcases hv with rfl | rfl | rfl | rfl | rfl | rfl | rfl | rfl <;> rfl

set_option maxRecDepth 100000 in
set_option maxHeartbeats 4000000 in
theorem save_any {W : World} {p : Nat} {st : StM} {sl : Sl} {c : List Value} {o : MD} (h : Sto W p st sl) (hc : Dc (XS p sl) W c o) (v : Nat) (hv : v < st.D.length) (hz : Sz st) (hzs : st.saved.length < 100000000) :
    Calls Tryz.prog 51 #[ptr p, .int .i64 v, .agg c.toArray] W fun e w' => e = .returned (.tuple #[]) ∧ ∃ sl', Sto w' p (saveM st v o) sl' ∧ Up (XS p sl) (XS p sl') W ∧ Kept (XS p sl) W w' := by
  have hvs : v < st.since.length := by rw [h.ls]; exact hv
  obtain ⟨n, k, m, sa, sc, ma, mc, ia, ic, da, dc, wa, wc, rfl, HL⟩ := h.look
  obtain ⟨gi, cap, e1, hgi, hle, hcm, hr, hth⟩ := h.since.at (i := v) (c := [.int .i64 (st.since.getD v 0)]) (by rw [ivs_get, List.getElem?_eq_getElem hvs]; simp [List.getD, hvs])
  rw [Nat.mul_one] at hr hth
  injection e1 with e1 e2 e3
  subst e1 e3
  clear e2
  rw [ivs_len, h.ls, HL.out.1] at hle
  have hvn : v < n := by rw [← HL.out.1]; exact hv
  have hn1 : n ≤ 1000 := by rw [← HL.out.1]; exact hz.1
  have hmb : m ≤ 1000000 := by rw [← HL.out.2.2]; exact hz.2.1
  unfold maxLen at hcm
  obtain ⟨b, ra, n0, rc, a1, n1, c1, a2, n2, c2, x, y, rfl, HE, H1, H2, H3⟩ := hc.look
  obtain ⟨bw, hbw⟩ : ∃ q, W.heap.size = q := ⟨_, rfl⟩
  obtain ⟨W0, hW0⟩ : ∃ Q, W.alloc (Obj.cells #[.bool b, .slice ra n0 rc, .slice a1 n1 c1, .slice a2 n2 c2, .int .i64 x, .int .i64 y] 37) = Q := ⟨_, rfl⟩
  have hb0 : Below W.heap.size W W0 := by rw [← hW0]; exact (Below.refl _ W).alloc (Nat.le_refl _) _
  have HBX : Hid (Bx W0 bw #[.bool b, .slice ra n0 rc, .slice a1 n1 c1, .slice a2 n2 c2, .int .i64 x, .int .i64 y] 37) := by rw [← hW0]; exact Bx.new' hbw _ _
  have HS := hid (h.below hb0)
  obtain ⟨sq, hsq⟩ : ∃ q, st.since.getD v 0 = q := ⟨_, rfl⟩
  rw [hsq] at hr
  have hci : W0.cell? ⟨gi, v, none⟩ = some (.int .i64 sq) := (hb0.cell (p := ⟨gi, v, none⟩) hgi).trans (rng_one hr)
  have hgi0 : gi < W0.heap.size := Nat.lt_of_lt_of_le hgi hb0.size
  have hC : Dc (XS p ⟨.slice sa k sc, .slice ma m mc, .slice (some ⟨gi, 0, none⟩) n ic, .slice da n dc, .slice wa n wc⟩) W0 _ o := hc.below hb0
  have HC : Hid (Dc (XS p ⟨.slice sa k sc, .slice ma m mc, .slice (some ⟨gi, 0, none⟩) n ic, .slice da n dc, .slice wa n wc⟩) W0 [.bool b, .slice ra n0 rc, .slice a1 n1 c1, .slice a2 n2 c2, .int .i64 x, .int .i64 y] o) := hC
  have kd := depth_any HS.out hz
  rw [HL.out.2.2] at kd
  have KD0 : Hid (∀ X, Below W0.heap.size W0 X → Calls Tryz.prog 56 #[ptr p] X fun e w' => e = .returned (.int .i64 m) ∧ w' = X) := fun X hX => by have := depth_any (HS.out.below hX) hz; rw [HL.out.2.2] at this; exact this
  have HZ : Hid (Sz st) := hz
  have HZS : Hid (st.saved.length < 100000000) := hzs
  have HSQ : Hid (st.since.getD v 0 = sq) := hsq
  have HVS : Hid (v < st.since.length) := hvs
  have HH : Hid (Sto W p st ⟨.slice sa k sc, .slice ma m mc, .slice (some ⟨gi, 0, none⟩) n ic, .slice da n dc, .slice wa n wc⟩) := h
  have HB00 : Hid (Below W.heap.size W W0) := hb0
  obtain ⟨z0, z1, z2, z3, z4, z5, zf⟩ := HS.out.cells
  simp only at z2
  obtain ⟨y0, y1, y2, y3, y4, y5⟩ := HBX.out.six
  have HW0 : Hid _ := hW0
  have HBW : Hid (W.heap.size = bw) := hbw
  clear hsq hW0 hbw hb0 h hc hC hz hr hth hvs hgi z0 z1 z3 z4 z5 zf
  have hvi : (v : Int) < n := by omega
  have kq := quiet_same kd
  have HB1 : Hid (Below W0.heap.size W0 W0.drew) := (Below.refl _ _).drew
  clear kd kq
  by_cases hne : sq = m
  · have hnb : ((sq : Int) == m) = true := by simpa using hne
    have HQ : Hid (sq = m) := hne
    clear hne
    go_enter Tryz.func51, Tryz.ntmps51
    go_upto_region 1 with (fail)
    rw [HW0.out, HBW.out]
    refine wp_region_held_drew (S := fun X : World => X.cell? ⟨p, 2, none⟩ = some (.slice (some ⟨gi, 0, none⟩) n ic) ∧ X.cell? ⟨gi, v, none⟩ = some (.int .i64 sq) ∧ Bx X bw #[.bool b, .slice ra n0 rc, .slice a1 n1 c1, .slice a2 n2 c2, .int .i64 x, .int .i64 y] 37) (by kernel_rfl) (⟨z2, hci, HBX.out.drew 1⟩) (fun hHeld => ?_)
    refine tkA 0 oKi0 hHeld ?_
    try simp only [oKi0, Act.put, zS, z0, z1]
    refine tkA 1 oKi1 hHeld ?_
    try simp only [oKi1, Act.put, zS, z0, z1]
    refine tkA 2 oKi2 hHeld ?_
    try simp only [oKi2, Act.put, zS, z0, z1]
    refine tkH 3 oKi3 (v := ?_) hHeld ?_ ?_; rotate_left
    · intro w hSw; dsimp only [oKi3]; obtain ⟨y2, yi, _⟩ := hSw; go_simp <;> with_reducible rfl
    try simp only [oKi3, Act.put, zS, z0, z1]
    refine tkA 4 oKi4 hHeld ?_
    try simp only [oKi4, Act.put, zS, z0, z1]
    refine tkH 5 oKi5 (v := ?_) hHeld ?_ ?_; rotate_left
    · intro w hSw; dsimp only [oKi5]; obtain ⟨y2, yi, _⟩ := hSw; go_simp <;> with_reducible rfl
    try simp only [oKi5, Act.put, zS, z0, z1]
    refine tkH 6 oKi6 (v := ?_) hHeld ?_ ?_; rotate_left
    · intro w hSw; dsimp only [oKi6]; obtain ⟨y2, yi, _⟩ := hSw; go_simp <;> with_reducible rfl
    try simp only [oKi6, Act.put, zS, z0, z1]
    refine tkA 7 oKi7 hHeld ?_
    try simp only [oKi7, Act.put, zS, z0, z1]
    refine rdy 8 rfl fun K hK => ?_
    go_simp
    refine (KD0.out _ HB1.out).mono ?_
    rintro e wq ⟨rfl, rfl⟩
    refine hK.out _ _ (⟨z2, hci, HBX.out.drew 1⟩) (fun hHeld2 => ?_)
    clear hK K hHeld; have hHeld := hHeld2; clear hHeld2
    try simp only [Act.put, zS, z0, z1]
    refine tkA 9 oKi8 hHeld ?_
    try simp only [oKi8, Act.put, zS, z0, z1]
    refine wpAnyH_done (by kernel_rfl) ?_ _
    go_wp2
    refine ⟨rfl, _, results_none rfl _ _ _, rfl, _, ?_, Up.refl _ _, (Kept.of_below HB00.out).then_below HB1.out⟩
    rw [saveM, if_pos (by rw [HSQ.out, HL.out.2.2]; exact HQ.out)]
    exact HS.out.below HB1.out
  · have hnb : ((sq : Int) == m) = false := by simpa using hne
    have HNE : Hid (¬ st.since.getD v 0 = st.marks.length) := by rw [Hid, HSQ.out, HL.out.2.2]; exact hne
    clear hne
    go_enter Tryz.func51, Tryz.ntmps51
    go_upto_region 1 with (fail)
    rw [HW0.out, HBW.out]
    refine wp_region_held_drew (S := fun X : World => X.cell? ⟨p, 2, none⟩ = some (.slice (some ⟨gi, 0, none⟩) n ic) ∧ X.cell? ⟨gi, v, none⟩ = some (.int .i64 sq) ∧ Bx X bw #[.bool b, .slice ra n0 rc, .slice a1 n1 c1, .slice a2 n2 c2, .int .i64 x, .int .i64 y] 37) (by kernel_rfl) (⟨z2, hci, HBX.out.drew 1⟩) (fun hHeld => ?_)
    refine tkA 0 oKi0 hHeld ?_
    try simp only [oKi0, Act.put, zS, z0, z1]
    refine tkA 1 oKi1 hHeld ?_
    try simp only [oKi1, Act.put, zS, z0, z1]
    refine tkA 2 oKi2 hHeld ?_
    try simp only [oKi2, Act.put, zS, z0, z1]
    refine tkH 3 oKi3 (v := ?_) hHeld ?_ ?_; rotate_left
    · intro w hSw; dsimp only [oKi3]; obtain ⟨y2, yi, _⟩ := hSw; go_simp <;> with_reducible rfl
    try simp only [oKi3, Act.put, zS, z0, z1]
    refine tkA 4 oKi4 hHeld ?_
    try simp only [oKi4, Act.put, zS, z0, z1]
    refine tkH 5 oKi5 (v := ?_) hHeld ?_ ?_; rotate_left
    · intro w hSw; dsimp only [oKi5]; obtain ⟨y2, yi, _⟩ := hSw; go_simp <;> with_reducible rfl
    try simp only [oKi5, Act.put, zS, z0, z1]
    refine tkH 6 oKi6 (v := ?_) hHeld ?_ ?_; rotate_left
    · intro w hSw; dsimp only [oKi6]; obtain ⟨y2, yi, _⟩ := hSw; go_simp <;> with_reducible rfl
    try simp only [oKi6, Act.put, zS, z0, z1]
    refine tkA 7 oKi7 hHeld ?_
    try simp only [oKi7, Act.put, zS, z0, z1]
    refine rdy 8 rfl fun K hK => ?_
    go_simp
    refine (KD0.out _ HB1.out).mono ?_
    rintro e wq ⟨rfl, rfl⟩
    refine hK.out _ _ (⟨z2, hci, HBX.out.drew 1⟩) (fun hHeld2 => ?_)
    clear hK K hHeld; have hHeld := hHeld2; clear hHeld2
    try simp only [Act.put, zS, z0, z1]
    refine tkA 9 oKi8 hHeld ?_
    try simp only [oKi8, Act.put, zS, z0, z1]
    refine wpAnyH_done (by kernel_rfl) ?_ _
    have HS1 := hid (HS.out.below HB1.out)
    have HBX1 : Hid (Bx W0.drew bw #[.bool b, .slice ra n0 rc, .slice a1 n1 c1, .slice a2 n2 c2, .int .i64 x, .int .i64 y] 37) := HBX.out.drew 1
    have HKW : Hid (Kept (XS p ⟨.slice sa k sc, .slice ma m mc, .slice (some ⟨gi, 0, none⟩) n ic, .slice da n dc, .slice wa n wc⟩) W W0.drew) := (Kept.of_below HB00.out).then_below HB1.out
    have HC1 := hid (HC.out.below HB1.out)
    have hi1 : W0.drew.cell? ⟨gi, v, none⟩ = some (.int .i64 sq) := hci
    have hz2 : W0.drew.cell? ⟨p, 2, none⟩ = some (.slice (some ⟨gi, 0, none⟩) n ic) := z2
    have hg1 : gi < W0.drew.heap.size := hgi0
    have HWV := hid (Nat.le_trans HB00.out.size HB1.out.size)
    clear HS HBX HB00 HB1 HC hci z2 hgi0 KD0 y0 y1 y2 y3 y4 y5
    clear HW0
    generalize W0.drew = V at *
    clear W0
    have HD : Hid (Sto V.drew p st ⟨.slice sa k sc, .slice ma m mc, .slice (some ⟨gi, 0, none⟩) n ic, .slice da n dc, .slice wa n wc⟩) := HS1.out.below (Below.refl _ _).drew
    have hbA : Below V.drew.heap.size V.drew (V.drew.alloc (Obj.cells #[.int .i64 v, .bool b, .slice ra n0 rc, .slice a1 n1 c1, .slice a2 n2 c2, .int .i64 x, .int .i64 y, .int .i64 sq] 105)) := (Below.refl _ _).alloc (Nat.le_refl _) _
    have HA := hid (HD.out.below hbA)
    obtain ⟨ks, hks, hkr⟩ := HA.out.saved
    have HR : Hid (Rw (V.drew.alloc (Obj.cells #[.int .i64 v, .bool b, .slice ra n0 rc, .slice a1 n1 c1, .slice a2 n2 c2, .int .i64 x, .int .i64 y, .int .i64 sq] 105)) 105 (.slice sa k sc) 8 ks) := hks
    have HKR : Hid (Kr (XS p ⟨.slice sa k sc, .slice ma m mc, .slice (some ⟨gi, 0, none⟩) n ic, .slice da n dc, .slice wa n wc⟩) (V.drew.alloc (Obj.cells #[.int .i64 v, .bool b, .slice ra n0 rc, .slice a1 n1 c1, .slice a2 n2 c2, .int .i64 x, .int .i64 y, .int .i64 sq] 105)) ks st.saved) := hkr
    have HML : Hid (ks.length ≤ 100000000) := by rw [Hid, hkr.1]; exact HZ.out.2.2
    have HCE : Hid (∀ j u, [.int .i64 v, .bool b, .slice ra n0 rc, .slice a1 n1 c1, .slice a2 n2 c2, .int .i64 x, .int .i64 y, .int .i64 sq][j]? = some u → (V.drew.alloc (Obj.cells #[.int .i64 v, .bool b, .slice ra n0 rc, .slice a1 n1 c1, .slice a2 n2 c2, .int .i64 x, .int .i64 y, .int .i64 sq] 105)).cell? ((⟨V.heap.size, 0, none⟩ : Addr).add j) = some u) := by
      intro j u hu
      have := (Bx.new V.drew #[.int .i64 v, .bool b, .slice ra n0 rc, .slice a1 n1 c1, .slice a2 n2 c2, .int .i64 x, .int .i64 y, .int .i64 sq] 105).cell j
      rw [Addr.add_mid, Nat.zero_add]
      simpa using this.trans (by simpa using hu)
    have HXI : Hid (XS p ⟨.slice sa k sc, .slice ma m mc, .slice (some ⟨gi, 0, none⟩) n ic, .slice da n dc, .slice wa n wc⟩ gi) := .inr (.inr (.inr (.inl rfl)))
    have HBXA : Hid (Bx (V.drew.alloc (Obj.cells #[.int .i64 v, .bool b, .slice ra n0 rc, .slice a1 n1 c1, .slice a2 n2 c2, .int .i64 x, .int .i64 y, .int .i64 sq] 105)) bw #[.bool b, .slice ra n0 rc, .slice a1 n1 c1, .slice a2 n2 c2, .int .i64 x, .int .i64 y] 37) := (HBX1.out.drew 1).below hbA
    have hiA : (V.drew.alloc (Obj.cells #[.int .i64 v, .bool b, .slice ra n0 rc, .slice a1 n1 c1, .slice a2 n2 c2, .int .i64 x, .int .i64 y, .int .i64 sq] 105)).cell? ⟨gi, v, none⟩ = some (.int .i64 sq) := (hbA.cell (p := ⟨gi, v, none⟩) hg1).trans hi1
    have hzA : (V.drew.alloc (Obj.cells #[.int .i64 v, .bool b, .slice ra n0 rc, .slice a1 n1 c1, .slice a2 n2 c2, .int .i64 x, .int .i64 y, .int .i64 sq] 105)).cell? ⟨p, 2, none⟩ = some (.slice (some ⟨gi, 0, none⟩) n ic) := HA.out.cells.2.2.1
    have FA : Hid ((V.drew.alloc (Obj.cells #[.int .i64 v, .bool b, .slice ra n0 rc, .slice a1 n1 c1, .slice a2 n2 c2, .int .i64 x, .int .i64 y, .int .i64 sq] 105)).cell? ⟨p, 2, none⟩ = some (.slice (some ⟨gi, 0, none⟩) n ic) ∧ (V.drew.alloc (Obj.cells #[.int .i64 v, .bool b, .slice ra n0 rc, .slice a1 n1 c1, .slice a2 n2 c2, .int .i64 x, .int .i64 y, .int .i64 sq] 105)).cell? ⟨gi, v, none⟩ = some (.int .i64 sq) ∧ Bx (V.drew.alloc (Obj.cells #[.int .i64 v, .bool b, .slice ra n0 rc, .slice a1 n1 c1, .slice a2 n2 c2, .int .i64 x, .int .i64 y, .int .i64 sq] 105)) bw #[.bool b, .slice ra n0 rc, .slice a1 n1 c1, .slice a2 n2 c2, .int .i64 x, .int .i64 y] 37) := ⟨hzA, hiA, HBXA.out⟩
    have FD : Hid (V.drew.cell? ⟨p, 2, none⟩ = some (.slice (some ⟨gi, 0, none⟩) n ic) ∧ V.drew.cell? ⟨gi, v, none⟩ = some (.int .i64 sq) ∧ Bx V.drew bw #[.bool b, .slice ra n0 rc, .slice a1 n1 c1, .slice a2 n2 c2, .int .i64 x, .int .i64 y] 37) := ⟨hz2, hi1, HBX1.out.drew 1⟩
    have MID : ∀ w1, (V.drew.alloc (Obj.cells #[.int .i64 v, .bool b, .slice ra n0 rc, .slice a1 n1 c1, .slice a2 n2 c2, .int .i64 x, .int .i64 y, .int .i64 sq] 105)).grownBy w1 (Value.slice sa k sc).ownBlock → w1.cell? ⟨p, 0, none⟩ = some (.slice sa k sc) ∧ w1.frozen? ⟨p, 0, none⟩ = false ∧ w1.cell? ⟨p, 2, none⟩ = some (.slice (some ⟨gi, 0, none⟩) n ic) ∧ w1.cell? ⟨gi, v, none⟩ = some (.int .i64 sq) ∧ Bx w1 bw #[.bool b, .slice ra n0 rc, .slice a1 n1 c1, .slice a2 n2 c2, .int .i64 x, .int .i64 y] 37 := by
      intro w1 hg
      have hp := (hg.block p HA.out.p_lt (fun e => HR.out.nep HA.out.blk (by decide) e.symm)).trans HA.out.blk
      exact ⟨cell_of_row w1 p 0 _ _ _ hp, by simp [World.frozen?, hp], cell_of_row w1 p 2 _ _ _ hp, (World.cell?_of_block (a := ⟨gi, v, none⟩) (hg.block gi (Nat.lt_of_lt_of_le hg1 hbA.size) (fun e => HA.out.since.ne HR.out (by decide) rfl e.symm))).trans hiA, ⟨(hg.block bw HBXA.out.lt (fun e => HR.out.nep HBXA.out.h (by decide) e.symm)).trans HBXA.out.h⟩⟩
    have HPG : Hid (p ≠ gi) := fun e => HA.out.since.nep HA.out.blk (by decide) (by rw [e]; rfl)
    have HPB : Hid (bw ≠ p) := ne_typ HBXA.out.h HA.out.blk (by decide)
    have MID2 : ∀ (w1 : World) (u : Value), (w1.cell? ⟨p, 2, none⟩ = some (.slice (some ⟨gi, 0, none⟩) n ic) ∧ w1.cell? ⟨gi, v, none⟩ = some (.int .i64 sq) ∧ Bx w1 bw #[.bool b, .slice ra n0 rc, .slice a1 n1 c1, .slice a2 n2 c2, .int .i64 x, .int .i64 y] 37) → (w1.setCell ⟨p, 0, none⟩ u).cell? ⟨p, 2, none⟩ = some (.slice (some ⟨gi, 0, none⟩) n ic) ∧ (w1.setCell ⟨p, 0, none⟩ u).cell? ⟨gi, v, none⟩ = some (.int .i64 sq) ∧ Bx (w1.setCell ⟨p, 0, none⟩ u) bw #[.bool b, .slice ra n0 rc, .slice a1 n1 c1, .slice a2 n2 c2, .int .i64 x, .int .i64 y] 37 := by
      intro w1 u ⟨f1, f2, f3⟩
      exact ⟨(World.cell?_setCell_other _ _ _ _ (by intro e; injection e with _ e _; cases e)).trans f1, (World.cell?_setCell_other _ _ _ _ (by intro e; injection e with e _ _; exact HPG.out e)).trans f2, f3.setc HPB.out _ _⟩
    clear hbA hks hkr hiA hzA
    go_upto_region 2 with (fail)
    refine wp_region_held_drew (S := fun X : World => X.cell? ⟨p, 2, none⟩ = some (.slice (some ⟨gi, 0, none⟩) n ic) ∧ X.cell? ⟨gi, v, none⟩ = some (.int .i64 sq) ∧ Bx X bw #[.bool b, .slice ra n0 rc, .slice a1 n1 c1, .slice a2 n2 c2, .int .i64 x, .int .i64 y] 37) (by kernel_rfl) (⟨hz2, hi1, HBX1.out.drew 1⟩) (fun hHeld => ?_)
    refine tkA 0 ⟨some 16, .move (.tmp 0), 103, "trail.go:37", #[], none⟩ hHeld ?_
    try simp only [Act.put, zS, z0, z1]
    refine tkA 1 ⟨some 17, .move (.tmp 0), 103, "trail.go:37", #[], none⟩ hHeld ?_
    try simp only [Act.put, zS, z0, z1]
    refine tkA 2 ⟨some 18, .nilCheck (.tmp 17), 0, "trail.go:37", #[⟨1, .data⟩], none⟩ hHeld ?_
    try simp only [Act.put, zS, z0, z1]
    refine tkA 3 ⟨some 19, .fieldAddr 65 (.tmp 18) 0, 0, "trail.go:37", #[⟨2, .data⟩], none⟩ hHeld ?_
    try simp only [Act.put, zS, z0, z1]
    refine tkA 5 ⟨some 21, .move (.tmp 1), 3, "trail.go:37", #[], none⟩ hHeld ?_
    try simp only [Act.put, zS, z0, z1]
    refine tkH 6 ⟨some 22, .load 37 (.tmp 5), 37, "trail.go:37", #[], none⟩ (v := ?_) hHeld ?_ ?_; rotate_left
    · intro w hSw; obtain ⟨y2, yi, yb⟩ := hSw; obtain ⟨q0, q1, q2, q3, q4, q5⟩ := yb.six; go_simp <;> with_reducible rfl
    try simp only [Act.put, zS, z0, z1]
    refine tkA 7 ⟨some 23, .move (.tmp 0), 103, "trail.go:37", #[], none⟩ hHeld ?_
    try simp only [Act.put, zS, z0, z1]
    refine tkA 8 ⟨some 24, .nilCheck (.tmp 23), 0, "trail.go:37", #[⟨7, .data⟩], none⟩ hHeld ?_
    try simp only [Act.put, zS, z0, z1]
    refine tkA 9 ⟨some 25, .fieldAddr 65 (.tmp 24) 2, 0, "trail.go:37", #[⟨8, .data⟩], none⟩ hHeld ?_
    try simp only [Act.put, zS, z0, z1]
    refine tkH 10 ⟨some 26, .load 63 (.tmp 25), 63, "trail.go:37", #[⟨9, .data⟩], none⟩ (v := ?_) hHeld ?_ ?_; rotate_left
    · intro w hSw; obtain ⟨y2, yi, yb⟩ := hSw; obtain ⟨q0, q1, q2, q3, q4, q5⟩ := yb.six; go_simp <;> with_reducible rfl
    try simp only [Act.put, zS, z0, z1]
    refine tkA 11 ⟨some 27, .move (.tmp 1), 3, "trail.go:37", #[], none⟩ hHeld ?_
    try simp only [Act.put, zS, z0, z1]
    refine tkA 12 ⟨some 28, .indexAddr 63 (.tmp 26) (.tmp 27), 0, "trail.go:37", #[⟨10, .data⟩, ⟨11, .data⟩], none⟩ hHeld ?_
    try simp only [Act.put, zS, z0, z1]
    refine tkH 13 ⟨some 29, .load 3 (.tmp 28), 3, "trail.go:37", #[⟨12, .data⟩], none⟩ (v := ?_) hHeld ?_ ?_; rotate_left
    · intro w hSw; obtain ⟨y2, yi, yb⟩ := hSw; obtain ⟨q0, q1, q2, q3, q4, q5⟩ := yb.six; go_simp <;> with_reducible rfl
    try simp only [Act.put, zS, z0, z1]
    refine tkA 14 ⟨some 30, .build 105 #[(0, .tmp 21), (1, .tmp 22), (2, .tmp 29)], 105, "trail.go:37", #[⟨5, .data⟩, ⟨6, .data⟩, ⟨13, .data⟩], none⟩ hHeld ?_
    try simp only [Act.put, zS, z0, z1]
    refine wpAnyH_ready (rs := [4, 15]) (by kernel_rfl) (by simp) ?_
    refine AllReadyH.cons rfl (fun K hK => ?_) ?_
    · have z1 : V.cell? ⟨p, 0, none⟩ = some (.slice sa k sc) := HD.out.cells.1
      go_simp
      clear z1
      refine hK.out _ _ (FD.out) (fun hHeld2 => ?_)
      clear hK K hHeld; have hHeld := hHeld2; clear hHeld2
      try simp only [Act.put, zS, z0, z1]
      refine rdy 15 rfl fun K hK => ?_
      go_simp
      refine hK.out _ _ (FA.out) (fun hHeld2 => ?_)
      clear hK K hHeld; have hHeld := hHeld2; clear hHeld2
      try simp only [Act.put, zS, z0, z1]
      refine rdy 16 rfl fun K hK => ?_
      refine step_app HR.out 62 Tryz.underlying62 Tryz.infoKept rfl (by decide) rfl _ _ rfl rfl ⟨V.heap.size, 0, none⟩ 1 (by with_unfolding_all rfl) [.int .i64 v, .bool b, .slice ra n0 rc, .slice a1 n1 c1, .slice a2 n2 c2, .int .i64 x, .int .i64 y, .int .i64 sq] rfl HCE.out (eight_one _ _ _ _ _ _ _ _ _ _ _ _ _ _) HML.out (by decide) ?_
      intro v1 w1 hr1 hg1 hn1
      obtain ⟨p1, q1, cc1, rfl, HQ1, _⟩ := hr1.look
      have HR1 : Hid _ := hr1
      have HG1 : Hid _ := hg1
      have HN1 : Hid _ := hn1
      clear hr1 hg1 hn1
      have z0 := MID w1 HG1.out
      refine hK.out _ _ (z0.2.2) (fun hHeld2 => ?_)
      clear hK K hHeld; have hHeld := hHeld2; clear hHeld2
      try simp only [Act.put, zS, z0, z1]
      refine tkA 17 oKi9 hHeld ?_
      try simp only [oKi9, Act.put, zS, z0, z1]
      refine tkA 18 oKi10 hHeld ?_
      try simp only [oKi10, Act.put, zS, z0, z1]
      refine rdy 19 rfl fun K hK => ?_
      have z1 := z0.1
      have z2 := z0.2.1
      go_simp
      clear z1 z2
      refine hK.out _ _ (MID2 w1 _ z0.2.2) (fun hHeld2 => ?_)
      clear hK K hHeld; have hHeld := hHeld2; clear hHeld2
      try simp only [Act.put, zS, z0, z1]
      refine wpAnyH_done (by kernel_rfl) ?_ _
      have hr1 := HR1.out
      have hgg1 := HG1.out
      have hn1 := HN1.out
      clear z0
      have hu := up_saved (p := p) (sl := ⟨.slice sa k sc, .slice ma m mc, .slice (some ⟨gi, 0, none⟩) n ic, .slice da n dc, .slice wa n wc⟩) (w := (V.drew.alloc (Obj.cells #[.int .i64 v, .bool b, .slice ra n0 rc, .slice a1 n1 c1, .slice a2 n2 c2, .int .i64 x, .int .i64 y, .int .i64 sq] 105))) hn1
      have hC1 : Dc (XS p ⟨.slice sa k sc, .slice ma m mc, .slice (some ⟨gi, 0, none⟩) n ic, .slice da n dc, .slice wa n wc⟩) (V.drew.alloc (Obj.cells #[.int .i64 v, .bool b, .slice ra n0 rc, .slice a1 n1 c1, .slice a2 n2 c2, .int .i64 x, .int .i64 y, .int .i64 sq] 105)) [.bool b, .slice ra n0 rc, .slice a1 n1 c1, .slice a2 n2 c2, .int .i64 x, .int .i64 y] o := HC1.out.below ((Below.refl _ V).drew.alloc (Nat.le_refl _) _)
      have hkr := (HKR.out.snoc hC1 v sq).go (kept_saved (p := p) (sl := ⟨.slice sa k sc, .slice ma m mc, .slice (some ⟨gi, 0, none⟩) n ic, .slice da n dc, .slice wa n wc⟩) hgg1) hu
      obtain ⟨f1, f2, f3⟩ := HA.out.set_saved hgg1 hr1 hn1 hkr
      have HS3 : Hid (Sto (w1.setCell ⟨p, 0, none⟩ (.slice p1 q1 cc1)).drew p { st with saved := st.saved ++ [((v : Int), o, sq)] } ⟨.slice p1 q1 cc1, .slice ma m mc, .slice (some ⟨gi, 0, none⟩) n ic, .slice da n dc, .slice wa n wc⟩) := f1.below (Below.refl _ _).drew
      have HK3 : Hid (Kept (XS p ⟨.slice sa k sc, .slice ma m mc, .slice (some ⟨gi, 0, none⟩) n ic, .slice da n dc, .slice wa n wc⟩) W (w1.setCell ⟨p, 0, none⟩ (.slice p1 q1 cc1)).drew) := (((HKW.out.then_below (Below.refl _ _).drew).then_below ((Below.refl _ _).alloc (Nat.le_refl _) _)).trans f3 (Up.refl _ _)).then_below (Below.refl _ _).drew
      have HUP : Hid (Up (XS p ⟨.slice sa k sc, .slice ma m mc, .slice (some ⟨gi, 0, none⟩) n ic, .slice da n dc, .slice wa n wc⟩) (XS p ⟨.slice p1 q1 cc1, .slice ma m mc, .slice (some ⟨gi, 0, none⟩) n ic, .slice da n dc, .slice wa n wc⟩) W) := fun bb hb => (hu bb hb).elim .inl (fun q => .inr (by have := HWV.out; simp at q; omega))
      have hq2 : (w1.setCell ⟨p, 0, none⟩ (.slice p1 q1 cc1)).drew.cell? ⟨p, 2, none⟩ = some (.slice (some ⟨gi, 0, none⟩) n ic) := HS3.out.cells.2.2.1
      have hvs3 : v < ({ st with saved := st.saved ++ [((v : Int), o, sq)] } : StM).since.length := HVS.out
      have HTI : Hid ((w1.setCell ⟨p, 0, none⟩ (.slice p1 q1 cc1)).drew.cell? ⟨gi, v, none⟩ = some (.int .i64 sq) ∧ (w1.setCell ⟨p, 0, none⟩ (.slice p1 q1 cc1)).drew.frozen? ⟨gi, v, none⟩ = false) := by
        obtain ⟨g, cp, e1, _, _, _, e5, e6⟩ := HS3.out.since.at (i := v) (c := [.int .i64 (st.since.getD v 0)]) (by rw [ivs_get, List.getElem?_eq_getElem HVS.out]; simp [List.getD, HVS.out])
        injection e1 with e1 _ _
        injection e1 with e1
        injection e1 with e1 _ _
        subst e1
        rw [Nat.mul_one] at e5 e6
        rw [HSQ.out] at e5
        exact ⟨rng_one e5, there_one e6 (by decide)⟩
      have HP2 : Hid (((w1.setCell ⟨p, 0, none⟩ (.slice p1 q1 cc1)).drew.setCell ⟨gi, v, none⟩ (.int .i64 m)).cell? ⟨p, 2, none⟩ = some (.slice (some ⟨gi, 0, none⟩) n ic)) := (World.cell?_setCell_other _ _ _ _ (by intro e; injection e with e _ _; exact HPG.out e.symm)).trans hq2
      have HFIN : Hid (Sto ((w1.setCell ⟨p, 0, none⟩ (.slice p1 q1 cc1)).drew.setCell ⟨gi, v, none⟩ (.int .i64 m)) p _ ⟨.slice p1 q1 cc1, .slice ma m mc, .slice (some ⟨gi, 0, none⟩) n ic, .slice da n dc, .slice wa n wc⟩) := HS3.out.set_since hvs3 rfl m
      have KD : Hid (Calls Tryz.prog 56 #[ptr p] (w1.setCell ⟨p, 0, none⟩ (.slice p1 q1 cc1)).drew fun e w' => e = .returned (.int .i64 m) ∧ w' = (w1.setCell ⟨p, 0, none⟩ (.slice p1 q1 cc1)).drew) := by have := depth_any HS3.out ⟨HZ.out.1, HZ.out.2.1, by have := HZS.out; simp; omega⟩; rw [HL.out.2.2] at this; exact this
      clear hr1 hgg1 hn1 hu hC1 hkr f1 f2 f3 HA HR HKR HCE MID MID2 FA FD HD HS1 HBX1 HBXA HC1 HKW hi1 hz2 hg1 HR1 HG1 HN1 hHeld HQ1
      generalize (w1.setCell ⟨p, 0, none⟩ (.slice p1 q1 cc1)) = zz at *
      clear w1
      go_upto_region 3 with (fail)
      refine wp_region_held_drew (S := fun X : World => X.cell? ⟨p, 2, none⟩ = some (.slice (some ⟨gi, 0, none⟩) n ic)) (by kernel_rfl) (hq2) (fun hHeld => ?_)
      refine tkA 0 oKi11 hHeld ?_
      try simp only [oKi11, Act.put, zS, z0, z1]
      refine tkA 1 oKi12 hHeld ?_
      try simp only [oKi12, Act.put, zS, z0, z1]
      refine tkA 2 oKi13 hHeld ?_
      try simp only [oKi13, Act.put, zS, z0, z1]
      refine tkA 3 oKi14 hHeld ?_
      try simp only [oKi14, Act.put, zS, z0, z1]
      refine tkA 4 oKi15 hHeld ?_
      try simp only [oKi15, Act.put, zS, z0, z1]
      refine tkA 5 oKi16 hHeld ?_
      try simp only [oKi16, Act.put, zS, z0, z1]
      refine rdy 6 rfl fun K hK => ?_
      go_simp
      refine KD.out.mono ?_
      rintro e wq ⟨rfl, rfl⟩
      refine hK.out _ _ (hq2) (fun hHeld2 => ?_)
      clear hK K hHeld; have hHeld := hHeld2; clear hHeld2
      try simp only [Act.put, zS, z0, z1]
      refine tkA 7 oKi17 hHeld ?_
      try simp only [oKi17, Act.put, zS, z0, z1]
      refine rdy 8 rfl fun K hK => ?_
      have zq := HTI.out.1
      have zf := HTI.out.2
      go_simp
      clear zq zf
      refine hK.out _ _ (HP2.out) (fun hHeld2 => ?_)
      clear hK K hHeld; have hHeld := hHeld2; clear hHeld2
      try simp only [Act.put, zS, z0, z1]
      refine wpAnyH_done (by kernel_rfl) ?_ _
      refine ⟨rfl, _, results_none rfl _ _ _, rfl, _, ?_, HUP.out, ?_⟩
      · rw [saveM, if_neg HNE.out, HSQ.out, HL.out.2.2]
        exact HFIN.out
      · exact (HK3.out).setCell HXI.out _ _
    refine AllReadyH.cons rfl (fun K hK => ?_) ?_
    · go_simp
      refine hK.out _ _ (FA.out) (fun hHeld2 => ?_)
      clear hK K hHeld; have hHeld := hHeld2; clear hHeld2
      try simp only [Act.put, zS, z0, z1]
      refine rdy 4 rfl fun K hK => ?_
      have z1 : (V.alloc (Obj.cells #[.int .i64 v, .bool b, .slice ra n0 rc, .slice a1 n1 c1, .slice a2 n2 c2, .int .i64 x, .int .i64 y, .int .i64 sq] 105)).cell? ⟨p, 0, none⟩ = some (.slice sa k sc) := HA.out.cells.1
      go_simp
      clear z1
      refine hK.out _ _ (FA.out) (fun hHeld2 => ?_)
      clear hK K hHeld; have hHeld := hHeld2; clear hHeld2
      try simp only [Act.put, zS, z0, z1]
      refine rdy 16 rfl fun K hK => ?_
      refine step_app HR.out 62 Tryz.underlying62 Tryz.infoKept rfl (by decide) rfl _ _ rfl rfl ⟨V.heap.size, 0, none⟩ 1 (by with_unfolding_all rfl) [.int .i64 v, .bool b, .slice ra n0 rc, .slice a1 n1 c1, .slice a2 n2 c2, .int .i64 x, .int .i64 y, .int .i64 sq] rfl HCE.out (eight_one _ _ _ _ _ _ _ _ _ _ _ _ _ _) HML.out (by decide) ?_
      intro v1 w1 hr1 hg1 hn1
      obtain ⟨p1, q1, cc1, rfl, HQ1, _⟩ := hr1.look
      have HR1 : Hid _ := hr1
      have HG1 : Hid _ := hg1
      have HN1 : Hid _ := hn1
      clear hr1 hg1 hn1
      have z0 := MID w1 HG1.out
      refine hK.out _ _ (z0.2.2) (fun hHeld2 => ?_)
      clear hK K hHeld; have hHeld := hHeld2; clear hHeld2
      try simp only [Act.put, zS, z0, z1]
      refine tkA 17 oKi9 hHeld ?_
      try simp only [oKi9, Act.put, zS, z0, z1]
      refine tkA 18 oKi10 hHeld ?_
      try simp only [oKi10, Act.put, zS, z0, z1]
      refine rdy 19 rfl fun K hK => ?_
      have z1 := z0.1
      have z2 := z0.2.1
      go_simp
      clear z1 z2
      refine hK.out _ _ (MID2 w1 _ z0.2.2) (fun hHeld2 => ?_)
      clear hK K hHeld; have hHeld := hHeld2; clear hHeld2
      try simp only [Act.put, zS, z0, z1]
      refine wpAnyH_done (by kernel_rfl) ?_ _
      have hr1 := HR1.out
      have hgg1 := HG1.out
      have hn1 := HN1.out
      clear z0
      have hu := up_saved (p := p) (sl := ⟨.slice sa k sc, .slice ma m mc, .slice (some ⟨gi, 0, none⟩) n ic, .slice da n dc, .slice wa n wc⟩) (w := (V.drew.alloc (Obj.cells #[.int .i64 v, .bool b, .slice ra n0 rc, .slice a1 n1 c1, .slice a2 n2 c2, .int .i64 x, .int .i64 y, .int .i64 sq] 105))) hn1
      have hC1 : Dc (XS p ⟨.slice sa k sc, .slice ma m mc, .slice (some ⟨gi, 0, none⟩) n ic, .slice da n dc, .slice wa n wc⟩) (V.drew.alloc (Obj.cells #[.int .i64 v, .bool b, .slice ra n0 rc, .slice a1 n1 c1, .slice a2 n2 c2, .int .i64 x, .int .i64 y, .int .i64 sq] 105)) [.bool b, .slice ra n0 rc, .slice a1 n1 c1, .slice a2 n2 c2, .int .i64 x, .int .i64 y] o := HC1.out.below ((Below.refl _ V).drew.alloc (Nat.le_refl _) _)
      have hkr := (HKR.out.snoc hC1 v sq).go (kept_saved (p := p) (sl := ⟨.slice sa k sc, .slice ma m mc, .slice (some ⟨gi, 0, none⟩) n ic, .slice da n dc, .slice wa n wc⟩) hgg1) hu
      obtain ⟨f1, f2, f3⟩ := HA.out.set_saved hgg1 hr1 hn1 hkr
      have HS3 : Hid (Sto (w1.setCell ⟨p, 0, none⟩ (.slice p1 q1 cc1)).drew p { st with saved := st.saved ++ [((v : Int), o, sq)] } ⟨.slice p1 q1 cc1, .slice ma m mc, .slice (some ⟨gi, 0, none⟩) n ic, .slice da n dc, .slice wa n wc⟩) := f1.below (Below.refl _ _).drew
      have HK3 : Hid (Kept (XS p ⟨.slice sa k sc, .slice ma m mc, .slice (some ⟨gi, 0, none⟩) n ic, .slice da n dc, .slice wa n wc⟩) W (w1.setCell ⟨p, 0, none⟩ (.slice p1 q1 cc1)).drew) := (((HKW.out.then_below (Below.refl _ _).drew).then_below ((Below.refl _ _).alloc (Nat.le_refl _) _)).trans f3 (Up.refl _ _)).then_below (Below.refl _ _).drew
      have HUP : Hid (Up (XS p ⟨.slice sa k sc, .slice ma m mc, .slice (some ⟨gi, 0, none⟩) n ic, .slice da n dc, .slice wa n wc⟩) (XS p ⟨.slice p1 q1 cc1, .slice ma m mc, .slice (some ⟨gi, 0, none⟩) n ic, .slice da n dc, .slice wa n wc⟩) W) := fun bb hb => (hu bb hb).elim .inl (fun q => .inr (by have := HWV.out; simp at q; omega))
      have hq2 : (w1.setCell ⟨p, 0, none⟩ (.slice p1 q1 cc1)).drew.cell? ⟨p, 2, none⟩ = some (.slice (some ⟨gi, 0, none⟩) n ic) := HS3.out.cells.2.2.1
      have hvs3 : v < ({ st with saved := st.saved ++ [((v : Int), o, sq)] } : StM).since.length := HVS.out
      have HTI : Hid ((w1.setCell ⟨p, 0, none⟩ (.slice p1 q1 cc1)).drew.cell? ⟨gi, v, none⟩ = some (.int .i64 sq) ∧ (w1.setCell ⟨p, 0, none⟩ (.slice p1 q1 cc1)).drew.frozen? ⟨gi, v, none⟩ = false) := by
        obtain ⟨g, cp, e1, _, _, _, e5, e6⟩ := HS3.out.since.at (i := v) (c := [.int .i64 (st.since.getD v 0)]) (by rw [ivs_get, List.getElem?_eq_getElem HVS.out]; simp [List.getD, HVS.out])
        injection e1 with e1 _ _
        injection e1 with e1
        injection e1 with e1 _ _
        subst e1
        rw [Nat.mul_one] at e5 e6
        rw [HSQ.out] at e5
        exact ⟨rng_one e5, there_one e6 (by decide)⟩
      have HP2 : Hid (((w1.setCell ⟨p, 0, none⟩ (.slice p1 q1 cc1)).drew.setCell ⟨gi, v, none⟩ (.int .i64 m)).cell? ⟨p, 2, none⟩ = some (.slice (some ⟨gi, 0, none⟩) n ic)) := (World.cell?_setCell_other _ _ _ _ (by intro e; injection e with e _ _; exact HPG.out e.symm)).trans hq2
      have HFIN : Hid (Sto ((w1.setCell ⟨p, 0, none⟩ (.slice p1 q1 cc1)).drew.setCell ⟨gi, v, none⟩ (.int .i64 m)) p _ ⟨.slice p1 q1 cc1, .slice ma m mc, .slice (some ⟨gi, 0, none⟩) n ic, .slice da n dc, .slice wa n wc⟩) := HS3.out.set_since hvs3 rfl m
      have KD : Hid (Calls Tryz.prog 56 #[ptr p] (w1.setCell ⟨p, 0, none⟩ (.slice p1 q1 cc1)).drew fun e w' => e = .returned (.int .i64 m) ∧ w' = (w1.setCell ⟨p, 0, none⟩ (.slice p1 q1 cc1)).drew) := by have := depth_any HS3.out ⟨HZ.out.1, HZ.out.2.1, by have := HZS.out; simp; omega⟩; rw [HL.out.2.2] at this; exact this
      clear hr1 hgg1 hn1 hu hC1 hkr f1 f2 f3 HA HR HKR HCE MID MID2 FA FD HD HS1 HBX1 HBXA HC1 HKW hi1 hz2 hg1 HR1 HG1 HN1 hHeld HQ1
      generalize (w1.setCell ⟨p, 0, none⟩ (.slice p1 q1 cc1)) = zz at *
      clear w1
      go_upto_region 3 with (fail)
      refine wp_region_held_drew (S := fun X : World => X.cell? ⟨p, 2, none⟩ = some (.slice (some ⟨gi, 0, none⟩) n ic)) (by kernel_rfl) (hq2) (fun hHeld => ?_)
      refine tkA 0 oKi11 hHeld ?_
      try simp only [oKi11, Act.put, zS, z0, z1]
      refine tkA 1 oKi12 hHeld ?_
      try simp only [oKi12, Act.put, zS, z0, z1]
      refine tkA 2 oKi13 hHeld ?_
      try simp only [oKi13, Act.put, zS, z0, z1]
      refine tkA 3 oKi14 hHeld ?_
      try simp only [oKi14, Act.put, zS, z0, z1]
      refine tkA 4 oKi15 hHeld ?_
      try simp only [oKi15, Act.put, zS, z0, z1]
      refine tkA 5 oKi16 hHeld ?_
      try simp only [oKi16, Act.put, zS, z0, z1]
      refine rdy 6 rfl fun K hK => ?_
      go_simp
      refine KD.out.mono ?_
      rintro e wq ⟨rfl, rfl⟩
      refine hK.out _ _ (hq2) (fun hHeld2 => ?_)
      clear hK K hHeld; have hHeld := hHeld2; clear hHeld2
      try simp only [Act.put, zS, z0, z1]
      refine tkA 7 oKi17 hHeld ?_
      try simp only [oKi17, Act.put, zS, z0, z1]
      refine rdy 8 rfl fun K hK => ?_
      have zq := HTI.out.1
      have zf := HTI.out.2
      go_simp
      clear zq zf
      refine hK.out _ _ (HP2.out) (fun hHeld2 => ?_)
      clear hK K hHeld; have hHeld := hHeld2; clear hHeld2
      try simp only [Act.put, zS, z0, z1]
      refine wpAnyH_done (by kernel_rfl) ?_ _
      refine ⟨rfl, _, results_none rfl _ _ _, rfl, _, ?_, HUP.out, ?_⟩
      · rw [saveM, if_neg HNE.out, HSQ.out, HL.out.2.2]
        exact HFIN.out
      · exact (HK3.out).setCell HXI.out _ _
    exact AllReadyH.nil
end Go.Proofs.YtghnfnieppfhgaaGreat

namespace Go.Proofs.YtghnfnieppfhgaaGreat
open Go.RowKit Go.Shelf
set_option linter.unusedVariables false
set_option linter.unusedSimpArgs false

theorem saveM_D (st : StM) (v : Nat) (o : MD) : (saveM st v o).D = st.D ∧ (saveM st v o).e = st.e ∧ (saveM st v o).why = st.why ∧ (saveM st v o).marks = st.marks ∧ (saveM st v o).saved.length ≤ st.saved.length + 1 := by
  unfold saveM
  split
  · exact ⟨rfl, rfl, rfl, rfl, by omega⟩
  · exact ⟨rfl, rfl, rfl, rfl, by simp⟩
def putM (st : StM) (v : Nat) (o nx : MD) : StM := { st with e := st.e + (emptI (emptyW nx) - emptI (emptyW o)), D := st.D.set v nx }
def narrowM (st : StM) (v : Nat) (o nx : MD) (chg : Int) : StM := if emptyW nx then putM (saveM st v o) v o nx else { putM (saveM st v o) v o nx with why := tellM (saveM st v o).why v chg }
theorem wp_ways2 {P : Program} {c : Code} {K : Act → World → Prop} {Q : Exit → Act → World → Prop} {a : Act} {w : World} {act : Nat → List Value → Act} (R : Nat → List Value → World → Prop) (h : c.wp P (Exit.then (fun a' w' => ∃ n q, a' = act n q ∧ R n q w') (fun _ _ _ => False)) a w) (hK : ∀ n q w', R n q w' → K (act n q) w') : c.wp P (Exit.then K Q) a w :=
  Code.wp_mono (fun e b x q => by
    cases e with
    | normal =>
      have q' : ∃ n q, b = act n q ∧ R n q x := q
      obtain ⟨n, q, e1, q2⟩ := q'
      rw [e1]
      exact hK _ _ _ q2
    | _ => exact (q : False).elim) h

end Go.Proofs.YtghnfnieppfhgaaGreat

namespace Go.Proofs.YtghnfnieppfhgaaGreat
open Go.RowKit Go.Shelf
set_option linter.unusedVariables false
set_option linter.unusedSimpArgs false

theorem Below.kept0 {W w' : World} (h : Below W.heap.size W w') : Kept (fun _ => False) W w' := ⟨h.os, h.tape, h.output, h.size, fun b hb _ => h.block b hb⟩
def evAt (st : StM) (v : Nat) : Option (List Value) := if st.why.getD v 0 ≠ 0 ∧ emptyW (st.D.getD v ⟨false, [], [], [], 0, 0⟩) = false then some [.int .i64 v, .int .i64 (st.why.getD v 0)] else none
def evs (st : StM) (k : Nat) : List (List Value) := (List.range k).filterMap (evAt st)
theorem evs_succ (st : StM) (k : Nat) : evs st (k + 1) = evs st k ++ (evAt st k).toList := by
  unfold evs
  rw [List.range_succ, List.filterMap_append]
  cases h : evAt st k <;> simp [h]
theorem evs_len (st : StM) (k : Nat) : (evs st k).length ≤ k := by
  unfold evs
  have := List.length_filterMap_le (evAt st) (List.range k)
  simpa using this

set_option maxRecDepth 100000 in
set_option maxHeartbeats 4000000 in
theorem events_any {W : World} {p : Nat} {st : StM} {sl : Sl} (h : Sto W p st sl) (hz : Sz st) (hn0 : 0 < st.D.length) (hD : ∀ d ∈ st.D, d.set = false) :
    Calls Tryz.prog 19 #[ptr p] W fun e w' => ∃ s, e = .returned s ∧ Rw w' 61 s 2 (evs st st.D.length) ∧ (∀ b, s.ownBlock = some b → W.heap.size ≤ b) ∧ Sto w' p { st with why := List.replicate st.D.length 0 } sl ∧ Kept (XS p sl) W w' := by
  obtain ⟨n, k, m, sa, sc, ma, mc, ia, ic, da, dc, wa, wc, rfl, HL⟩ := h.look
  have hlw := h.lw
  obtain ⟨gw, hgw⟩ : ∃ g, wa = some ⟨g, 0, none⟩ := by
    obtain ⟨g, cp, e1, _⟩ := h.why.at (i := 0) (c := [.int .i64 (st.why.getD 0 0)]) (by rw [ivs_get, List.getElem?_eq_getElem (by omega)]; simp [List.getD, show 0 < st.why.length by omega])
    injection e1 with e1 _ _
    exact ⟨g, e1⟩
  subst hgw
  have HWAT : Hid (∀ X, Sto X p st ⟨.slice sa k sc, .slice ma m mc, .slice ia n ic, .slice da n dc, .slice (some ⟨gw, 0, none⟩) n wc⟩ → ∀ i, i < n → X.cell? ⟨gw, i, none⟩ = some (.int .i64 (st.why.getD i 0)) ∧ X.frozen? ⟨gw, i, none⟩ = false) := by
    intro X hX i hi
    have hi' : i < st.why.length := by rw [hlw, HL.out.1]; exact hi
    obtain ⟨g, cp, q1, _, _, _, q5, q6⟩ := hX.why.at (i := i) (c := [.int .i64 (st.why.getD i 0)]) (by rw [ivs_get, List.getElem?_eq_getElem hi']; simp [List.getD, hi'])
    injection q1 with q1 _ _
    injection q1 with q1
    injection q1 with q1 _ _
    subst q1
    rw [Nat.mul_one] at q5 q6
    exact ⟨rng_one q5, there_one q6 (by decide)⟩
  have HH : Hid (Sto W p st ⟨.slice sa k sc, .slice ma m mc, .slice ia n ic, .slice da n dc, .slice (some ⟨gw, 0, none⟩) n wc⟩) := h
  have HDS : Hid _ := hD
  have hn1 : n ≤ 1000 := by rw [← HL.out.1]; exact hz.1
  have hnp : 0 < n := by rw [← HL.out.1]; exact hn0
  have HGW : Hid (gw < W.heap.size) := h.why.lt rfl
  have hcw : n ≤ wc ∧ wc ≤ 9223372036854775807 := by
    obtain ⟨a, q, c, e1, hq, h1, h2⟩ := h.why.look
    injection e1 with _ e2 e3
    subst e2 e3
    exact ⟨h1, h2⟩
  obtain ⟨hcw1, hcw2⟩ := hcw
  obtain ⟨z0, z1, z2, z3, z4, z5, zf⟩ := h.cells
  simp only at z5
  have HLW : Hid (st.why.length = st.D.length) := hlw
  rw [HL.out.1]
  clear z0 z1 z2 z3 z4 zf h hz hn0 hD hlw
  go_enter Tryz.func19, Tryz.ntmps19
  go_wp2
  go_loopw [3, 4, 5, 13] (fun out _ _ i wr => ∃ j : Nat, j ≤ n ∧ i = .int .i64 (j : Int) ∧ Hid (Rw wr 61 out 2 (evs st j)) ∧ Hid (∀ b, out.ownBlock = some b → W.heap.size ≤ b) ∧ Hid (Below W.heap.size W wr)) (fun _ _ _ i _ => n - (intOf i).toNat)
  case atStart => exact ⟨0, Nat.zero_le _, rfl, ⟨(fun c hc => by simp [evs] at hc), World.ownsRow_nil _ _ _ _⟩, (fun b hb => by cases hb), Below.refl _ _⟩
  case round =>
    obtain ⟨j, hj, rfl, HR, HF, HB⟩ := hrel
    have HS := HH.out.below HB.out
    by_cases hlt : j < n
    · have hlt' : (j : Int) < n := by omega
      have hcj := (HWAT.out _ HS j hlt).1
      obtain ⟨o, ho⟩ : ∃ o, st.D[j]? = some o := ⟨_, List.getElem?_eq_getElem (by rw [HL.out.1]; exact hlt)⟩
      have hgo : st.D.getD j ⟨false, [], [], [], 0, 0⟩ = o := by rw [List.getD, ho]; rfl
      have hos := HDS.out o (List.mem_of_getElem? ho)
      obtain ⟨oa, oq, oc, eo, HQ, hoc1, hoc2⟩ := HR.out.look
      subst eo
      obtain ⟨gd, cap, c', e1, hgd, hcap, hcm, hr, hth, hco⟩ := HS.dom_at ho
      injection e1 with e1 e2 e3
      subst e1 e3
      clear e2
      rw [HL.out.1] at hcap
      obtain ⟨b', ra', n0', rc', a1', n1', c1', a2', n2', c2', x', y', rfl, HE', _, _, _⟩ := hco.look
      obtain rfl : b' = false := by rw [← HE'.out.1, hos]
      have ke := emptiness_w hco hos
      obtain ⟨u0, u1, u2, u3, u4, u5⟩ := rng6 hr
      obtain ⟨z0, z1, z2, z3, z4, z9, zf⟩ := HS.cells
      simp only at z3
      obtain ⟨y, hy⟩ : ∃ q, st.why.getD j 0 = q := ⟨_, rfl⟩
      rw [hy] at hcj
      have hEV : evAt st j = if y ≠ 0 ∧ emptyW o = false then some [.int .i64 j, .int .i64 y] else none := by unfold evAt; rw [hy, hgo]
      have HEV : Hid _ := hEV
      have HSS : Hid _ := HS
      clear hEV hy ho hgo hr hth hco hos hgd HS z0 z1 z2 z4 z9 zf
      by_cases hy0 : y = 0
      · subst hy0
        go_wp2
        go_roundw
        case rel => exact ⟨j + 1, by omega, by go_num, (by rw [Hid, evs_succ, HEV.out, if_neg (by simp)]; simpa using HR.out), HF, HB⟩
        case measure => simp [intOf]; omega
      · have hyb : (y != 0) = true := by simpa using hy0
        cases hE : emptyW o
        · rw [hE] at ke
          have he0 : emptI false = 0 := rfl
          rw [he0] at ke
          clear he0
          go_wp2_with fail
          refine ke.mono ?_
          clear ke u0 u1 u2 u3 u4 u5 z3
          rintro e w1 ⟨rfl, hb1⟩
          have HB1 : Hid (Below W.heap.size W w1) := HB.out.trans (hb1.mono HB.out.size)
          have HR1 : Hid (Rw w1 61 (.slice oa oq oc) 2 (evs st j)) := HR.out.keep fun g hg => hb1.block g (HR.out.lt hg)
          clear hb1
          obtain ⟨bs, hbs⟩ : ∃ q, w1.heap.size = q := ⟨_, rfl⟩
          obtain ⟨w2, hw2⟩ : ∃ q, w1.alloc (Obj.cells #[.int .i64 j, .int .i64 y] 61) = q := ⟨_, rfl⟩
          have hb12 : Below w1.heap.size w1 w2 := by rw [← hw2]; exact (Below.refl _ _).alloc (Nat.le_refl _) _
          have HR2 : Hid (Rw w2 61 (.slice oa oq oc) 2 (evs st j)) := HR1.out.keep fun g hg => hb12.block g (HR1.out.lt hg)
          have HBS : Hid (Bx w2 bs #[.int .i64 j, .int .i64 y] 61) := by rw [← hw2]; exact Bx.new' hbs _ _
          have HB2 : Hid (Below W.heap.size W w2) := HB1.out.trans (hb12.mono HB1.out.size)
          have HW2 : Hid (w1.alloc (Obj.cells #[.int .i64 j, .int .i64 y] 61) = w2) := hw2
          have HEL : Hid ((evs st j).length ≤ 100000000) := by have := evs_len st j; rw [Hid]; omega
          clear hw2 hb12
          go_wp2_with (at_builtin; (try rw [HW2.out]); refine list_app HR2.out 47 Tryz.underlying47 Tryz.infoEvent rfl (by decide) rfl _ _ rfl rfl ⟨bs, 0, none⟩ 1 (by with_unfolding_all rfl) [.int .i64 j, .int .i64 y] rfl (fun j u hu => by rw [Addr.add_mid, Nat.zero_add, HBS.out.cell j]; simpa using hu) (by intro u hu; simp only [List.mem_cons, List.not_mem_nil, or_false] at hu; rcases hu with rfl | rfl <;> rfl) HEL.out (by decide) ?_; intro s3 w3 hr3 hg3 hn3; refine Hid.out ?_)
          refine (show Hid _ from ?_)
          unfold Hid
          obtain ⟨pa, qa, ca, rfl, _, _, _⟩ := hr3.look
          have HR3 : Hid (Rw w3 61 (.slice pa qa ca) 2 (evs st (j + 1))) := by rw [Hid, evs_succ, HEV.out, if_pos ⟨hy0, hE⟩]; exact hr3
          have HF3 : Hid (∀ b, (Value.slice pa qa ca).ownBlock = some b → W.heap.size ≤ b) := fun b hb => (hn3 b hb).elim (HF.out b) (fun q => Nat.le_trans HB2.out.size q)
          have HB3 : Hid (Below W.heap.size W w3) := HB2.out.trans (growB hg3 (fun b hb => HF.out b hb) HB2.out.size)
          clear hr3 hg3 hn3 HR2 HB2 HBS HW2 hbs
          go_wp2
          go_roundw
          case rel => exact ⟨j + 1, by omega, by go_num, HR3, HF3, HB3⟩
          case measure => simp [intOf]; omega
        · rw [hE] at ke
          have he0 : emptI true = 1 := rfl
          rw [he0] at ke
          clear he0
          go_wp2_with fail
          refine ke.mono ?_
          clear ke u0 u1 u2 u3 u4 u5 z3
          rintro e w1 ⟨rfl, hb1⟩
          have HB1 : Hid (Below W.heap.size W w1) := HB.out.trans (hb1.mono HB.out.size)
          have HR1 : Hid (Rw w1 61 (.slice oa oq oc) 2 (evs st j)) := HR.out.keep fun g hg => hb1.block g (HR.out.lt hg)
          clear hb1
          go_wp2
          go_roundw
          case rel => exact ⟨j + 1, by omega, by go_num, (by rw [Hid, evs_succ, HEV.out, if_neg (by simp [hE])]; simpa using HR1.out), HF, HB1⟩
          case measure => simp [intOf]; omega
    · obtain rfl : j = n := by omega
      have hlt' : ¬ (j : Int) < j := by omega
      obtain ⟨oa, oq, oc, eo, HQ, hoc1, hoc2⟩ := HR.out.look
      subst eo
      have hcl := HS.clear_why (g := gw) (cap := wc) (n := j) rfl
      have e9 : st.why.length = j := by rw [HLW.out, HL.out.1]
      rw [e9] at hcl
      have hclr : ∀ ty, (Builtin.clear_ #[63] ty #[.slice (some ⟨gw, 0, none⟩) j wc]).run Tryz.prog wr = .ok (.tuple #[]) (wr.setCells gw 0 (List.replicate j (.int .i64 0))) := fun ty => Lib.run_clear_slice wr 63 3 ty (.int .i64 0) Tryz.underlying63 (fun w => Tryz.zeroValue3 w) rfl rfl gw 0 j wc hnp (fun i hi => by rw [Nat.zero_add, (HWAT.out _ HS i hi).1]; rfl) (fun i hi => by rw [Nat.zero_add]; exact (HWAT.out _ HS i hi).2)
      obtain ⟨RR, hRR⟩ : ∃ q, List.replicate j (Value.int .i64 0) = q := ⟨_, rfl⟩
      rw [hRR] at hcl
      simp only [hRR] at hclr
      have HCL : Hid _ := hcl
      have HK : Hid (Kept (XS p ⟨.slice sa k sc, .slice ma m mc, .slice ia j ic, .slice da j dc, .slice (some ⟨gw, 0, none⟩) j wc⟩) W (wr.setCells gw 0 RR)) := Kept.setCells (.inr (.inr (.inr (.inr (.inr rfl))))) _ 0 (Kept.mono (Below.kept0 HB.out) (fun _ q => q.elim))
      have HRF : Hid (Rw (wr.setCells gw 0 RR) 61 (.slice oa oq oc) 2 (evs st j)) := HR.out.keep fun g hg => (Kept.many (w := wr) rfl).block g (HR.out.lt hg) (by have := HF.out g hg; have := HGW.out; omega)
      obtain ⟨z0, z1, z2, z3, z4, z9, zf⟩ := HS.cells
      simp only at z9
      clear hcl hRR HS z0 z1 z2 z3 z4 zf e9
      go_wp2
      go_ret
      exact ⟨_, rfl, HRF.out, HF.out, HCL.out, HK.out⟩
end Go.Proofs.YtghnfnieppfhgaaGreat
