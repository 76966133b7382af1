/-
  What is proved here: save: the domain that a variable had is kept.
  What is proved here: Narrow, where a domain becomes smaller.
  What is proved here: Events.
  What is proved here: back: the domains that were saved are put back.
  What is proved here: Pop, Value.
-/
import Derived.Test.YtghnfnieppfhgaaGreatAa
import Derived.Test.YtghnfnieppfhgaaGreatKgj
import Derived.Lib.SliceRun
namespace Go.Proofs.YtghnfnieppfhgaaGreat
open Go.RowKit Go.Shelf
set_option linter.unusedVariables false
set_option linter.unusedSimpArgs false

abbrev oKi0 : Oper := ⟨some 6, .move (.tmp 0), 103, "trail.go:34", #[], none⟩
abbrev oKi1 : Oper := ⟨some 7, .nilCheck (.tmp 6), 0, "trail.go:34", #[⟨0, .data⟩], none⟩
abbrev oKi2 : Oper := ⟨some 8, .fieldAddr 65 (.tmp 7) 2, 0, "trail.go:34", #[⟨1, .data⟩], none⟩
abbrev oKi3 : Oper := ⟨some 9, .load 63 (.tmp 8), 63, "trail.go:34", #[⟨2, .data⟩], none⟩
abbrev oKi4 : Oper := ⟨some 10, .move (.tmp 1), 3, "trail.go:34", #[], none⟩
abbrev oKi5 : Oper := ⟨some 11, .indexAddr 63 (.tmp 9) (.tmp 10), 0, "trail.go:34", #[⟨3, .data⟩, ⟨4, .data⟩], none⟩
abbrev oKi6 : Oper := ⟨some 12, .load 3 (.tmp 11), 3, "trail.go:34", #[⟨5, .data⟩], none⟩
abbrev oKi7 : Oper := ⟨some 13, .move (.tmp 0), 103, "trail.go:34", #[], none⟩
abbrev oKi8 : Oper := ⟨some 15, .binOp .eql 3 (.tmp 12) (.tmp 14) 3, 4, "trail.go:34", #[⟨6, .data⟩, ⟨8, .data⟩], none⟩
abbrev oKi9 : Oper := ⟨some 33, .nilCheck (.tmp 16), 0, "trail.go:37", #[⟨0, .data⟩, ⟨0, .phase⟩, ⟨1, .phase⟩, ⟨2, .phase⟩, ⟨3, .phase⟩, ⟨4, .phase⟩, ⟨5, .phase⟩, ⟨6, .phase⟩, ⟨7, .phase⟩, ⟨8, .phase⟩, ⟨9, .phase⟩, ⟨10, .phase⟩, ⟨11, .phase⟩, ⟨12, .phase⟩, ⟨13, .phase⟩, ⟨14, .phase⟩, ⟨15, .phase⟩, ⟨16, .phase⟩], none⟩
abbrev oKi10 : Oper := ⟨some 34, .fieldAddr 65 (.tmp 33) 0, 0, "trail.go:37", #[⟨17, .data⟩, ⟨0, .phase⟩, ⟨1, .phase⟩, ⟨2, .phase⟩, ⟨3, .phase⟩, ⟨4, .phase⟩, ⟨5, .phase⟩, ⟨6, .phase⟩, ⟨7, .phase⟩, ⟨8, .phase⟩, ⟨9, .phase⟩, ⟨10, .phase⟩, ⟨11, .phase⟩, ⟨12, .phase⟩, ⟨13, .phase⟩, ⟨14, .phase⟩, ⟨15, .phase⟩, ⟨16, .phase⟩], none⟩
abbrev oKi11 : Oper := ⟨some 35, .move (.tmp 0), 103, "trail.go:38", #[], none⟩
abbrev oKi12 : Oper := ⟨some 36, .nilCheck (.tmp 35), 0, "trail.go:38", #[⟨0, .data⟩], none⟩
abbrev oKi13 : Oper := ⟨some 37, .fieldAddr 65 (.tmp 36) 2, 0, "trail.go:38", #[⟨1, .data⟩], none⟩
abbrev oKi14 : Oper := ⟨some 38, .load 63 (.tmp 37), 63, "trail.go:38", #[⟨2, .data⟩], none⟩
abbrev oKi15 : Oper := ⟨some 39, .move (.tmp 1), 3, "trail.go:38", #[], none⟩
abbrev oKi16 : Oper := ⟨some 40, .move (.tmp 0), 103, "trail.go:38", #[], none⟩
abbrev oKi17 : Oper := ⟨some 42, .indexAddr 63 (.tmp 38) (.tmp 39), 0, "trail.go:38", #[⟨3, .data⟩, ⟨4, .data⟩, ⟨0, .phase⟩, ⟨1, .phase⟩, ⟨2, .phase⟩, ⟨3, .phase⟩, ⟨4, .phase⟩, ⟨5, .phase⟩, ⟨6, .phase⟩], none⟩
/-- What becomes of a store whose variable's domain is saved. -/
def saveM (st : StM) (v : Nat) (o : MD) : StM := if st.since.getD v 0 = st.marks.length then st else { st with saved := st.saved ++ [((v : Int), o, st.since.getD v 0)], since := st.since.set v st.marks.length }
theorem Kr.snoc {X : Nat → Prop} {w : World} {ks : List (List Value)} {S : List (Int × MD × Int)} (h : Kr X w ks S) {c : List Value} {d : MD} (hc : Dc X w c d) (v s : Int) : Kr X w (ks ++ [kcell v c s]) (S ++ [(v, d, s)]) := by
  refine ⟨by simp [h.1], fun i kc t h1 h2 => ?_⟩
  by_cases hi : i < ks.length
  · rw [List.getElem?_append_left hi] at h1
    rw [List.getElem?_append_left (by rw [← h.1]; exact hi)] at h2
    exact h.2 i kc t h1 h2
  · have hl := (List.getElem?_eq_some_iff.1 h1).1
    simp at hl
    have e : i = ks.length := by omega
    subst e
    rw [List.getElem?_append_right (Nat.le_refl _), Nat.sub_self] at h1
    rw [h.1, List.getElem?_append_right (Nat.le_refl _), Nat.sub_self] at h2
    injection h1 with h1
    injection h2 with h2
    subst h1 h2
    exact ⟨c, rfl, hc⟩
theorem up_saved [Gh] {w : World} {p : Nat} {sl : Sl} {sv' : Value} (hn : ∀ b, sv'.ownBlock = some b → sl.sv.ownBlock = some b ∨ w.heap.size ≤ b) : Up (XS p sl) (XS p { sl with sv := sv' }) w := fun b hb => by
  rcases hb with q | q | q
  · exact .inl (.inl q)
  · rcases hn b q with q | q
    · exact .inl (.inr (.inl q))
    · exact .inr q
  · exact .inl (.inr (.inr q))
theorem kept_saved [Gh] {w w1 : World} {p : Nat} {sl : Sl} (hg : w.grownBy w1 sl.sv.ownBlock) : Kept (XS p sl) w w1 := ⟨hg.os, hg.tape, hg.output, hg.size, fun b hb hx => hg.block b hb (fun e => hx (.inr (.inl e.symm)))⟩
theorem quiet_same {P : Program} {f : Nat} {args : Array Value} {W : World} {r : Value} (h : Calls P f args W fun e w' => e = .returned r ∧ w' = W) : Calls P f args W fun e w' => e = .returned r ∧ ∃ n, w' = W.drewN n := h.mono fun e w' ⟨a, b⟩ => ⟨a, 0, b⟩
theorem eight_one (i : Int) (b : Bool) (p0 : Option Addr) (m0 k0 : Nat) (p1 : Option Addr) (m1 k1 : Nat) (p2 : Option Addr) (m2 k2 : Nat) (x y j : Int) : ∀ v ∈ [Value.int .i64 i, .bool b, .slice p0 m0 k0, .slice p1 m1 k1, .slice p2 m2 k2, .int .i64 x, .int .i64 y, .int .i64 j], v.oneCell' = true := by
  intro v hv
  simp only [List.mem_cons, List.not_mem_nil, or_false] at hv
  rcases hv with rfl | rfl | rfl | rfl | rfl | rfl | rfl | rfl <;> rfl

set_option maxRecDepth 100000 in
set_option maxHeartbeats 4000000 in
theorem save_any [Gh] {W : World} {p : Nat} {st : StM} {sl : Sl} {c : List Value} {o : MD} (h : Sto W p st sl) (hc : Dc (XS p sl) W c o) (v : Nat) (hv : v < st.D.length) (hz : Sz st) (hzs : st.saved.length < 100000000) :
    Calls Tryz.prog 51 #[ptr p, .int .i64 v, .agg c.toArray] W fun e w' => e = .returned (.tuple #[]) ∧ ∃ sl', Sto w' p (saveM st v o) sl' ∧ Up (XS p sl) (XS p sl') W ∧ Kept (XS p sl) W w' := by
  have hvs : v < st.since.length := by rw [h.ls]; exact hv
  obtain ⟨n, k, m, sa, sc, ma, mc, ia, ic, da, dc, wa, wc, rfl, HL⟩ := h.look
  obtain ⟨gi, cap, e1, hgi, hle, hcm, hr, hth⟩ := h.since.at (i := v) (c := [.int .i64 (st.since.getD v 0)]) (by rw [ivs_get, List.getElem?_eq_getElem hvs]; simp [List.getD, hvs])
  rw [Nat.mul_one] at hr hth
  injection e1 with e1 e2 e3
  subst e1 e3
  clear e2
  rw [ivs_len, h.ls, HL.out.1] at hle
  have hvn : v < n := by rw [← HL.out.1]; exact hv
  have hn1 : n ≤ 1000 := by rw [← HL.out.1]; exact hz.1
  have hmb : m ≤ 1000000 := by rw [← HL.out.2.2]; exact hz.2.1
  unfold maxLen at hcm
  obtain ⟨b, ra, n0, rc, a1, n1, c1, a2, n2, c2, x, y, rfl, HE, H1, H2, H3⟩ := hc.look
  obtain ⟨bw, hbw⟩ : ∃ q, W.heap.size = q := ⟨_, rfl⟩
  obtain ⟨W0, hW0⟩ : ∃ Q, W.alloc (Obj.cells #[.bool b, .slice ra n0 rc, .slice a1 n1 c1, .slice a2 n2 c2, .int .i64 x, .int .i64 y] 37) = Q := ⟨_, rfl⟩
  have hb0 : Below W.heap.size W W0 := by rw [← hW0]; exact (Below.refl _ W).alloc (Nat.le_refl _) _
  have HBX : Hid (Bx W0 bw #[.bool b, .slice ra n0 rc, .slice a1 n1 c1, .slice a2 n2 c2, .int .i64 x, .int .i64 y] 37) := by rw [← hW0]; exact Bx.new' hbw _ _
  have HS := hid (h.below hb0)
  obtain ⟨sq, hsq⟩ : ∃ q, st.since.getD v 0 = q := ⟨_, rfl⟩
  rw [hsq] at hr
  have hci : W0.cell? ⟨gi, v, none⟩ = some (.int .i64 sq) := (hb0.cell (p := ⟨gi, v, none⟩) hgi).trans (rng_one hr)
  have hgi0 : gi < W0.heap.size := Nat.lt_of_lt_of_le hgi hb0.size
  have hC : Dc (XS p ⟨.slice sa k sc, .slice ma m mc, .slice (some ⟨gi, 0, none⟩) n ic, .slice da n dc, .slice wa n wc⟩) W0 _ o := hc.below hb0
  have HC : Hid (Dc (XS p ⟨.slice sa k sc, .slice ma m mc, .slice (some ⟨gi, 0, none⟩) n ic, .slice da n dc, .slice wa n wc⟩) W0 [.bool b, .slice ra n0 rc, .slice a1 n1 c1, .slice a2 n2 c2, .int .i64 x, .int .i64 y] o) := hC
  have kd := depth_any HS.out hz
  rw [HL.out.2.2] at kd
  have KD0 : Hid (∀ X, Below W0.heap.size W0 X → Calls Tryz.prog 56 #[ptr p] X fun e w' => e = .returned (.int .i64 m) ∧ w' = X) := fun X hX => by have := depth_any (HS.out.below hX) hz; rw [HL.out.2.2] at this; exact this
  have HZ : Hid (Sz st) := hz
  have HZS : Hid (st.saved.length < 100000000) := hzs
  have HSQ : Hid (st.since.getD v 0 = sq) := hsq
  have HVS : Hid (v < st.since.length) := hvs
  have HH : Hid (Sto W p st ⟨.slice sa k sc, .slice ma m mc, .slice (some ⟨gi, 0, none⟩) n ic, .slice da n dc, .slice wa n wc⟩) := h
  have HB00 : Hid (Below W.heap.size W W0) := hb0
  obtain ⟨z0, z1, z2, z3, z4, z5, zf⟩ := HS.out.cells
  simp only at z2
  obtain ⟨y0, y1, y2, y3, y4, y5⟩ := HBX.out.six
  have HW0 : Hid _ := hW0
  have HBW : Hid (W.heap.size = bw) := hbw
  clear hsq hW0 hbw hb0 h hc hC hz hr hth hvs hgi z0 z1 z3 z4 z5 zf
  have hvi : (v : Int) < n := by omega
  have kq := quiet_same kd
  have HB1 : Hid (Below W0.heap.size W0 W0.drew) := (Below.refl _ _).drew
  clear kd kq
  by_cases hne : sq = m
  · have hnb : ((sq : Int) == m) = true := by simpa using hne
    have HQ : Hid (sq = m) := hne
    clear hne
    go_enter Tryz.func51, Tryz.ntmps51
    go_upto_region 1 with (fail)
    rw [HW0.out, HBW.out]
    refine wp_region_held_drew (S := fun X : World => X.cell? ⟨p, 2, none⟩ = some (.slice (some ⟨gi, 0, none⟩) n ic) ∧ X.cell? ⟨gi, v, none⟩ = some (.int .i64 sq) ∧ Bx X bw #[.bool b, .slice ra n0 rc, .slice a1 n1 c1, .slice a2 n2 c2, .int .i64 x, .int .i64 y] 37) (by kernel_rfl) (⟨z2, hci, HBX.out.drew 1⟩) (fun hHeld => ?_)
    refine tkA 0 oKi0 hHeld ?_
    try simp only [oKi0, Act.put, zS, z0, z1]
    refine tkA 1 oKi1 hHeld ?_
    try simp only [oKi1, Act.put, zS, z0, z1]
    refine tkA 2 oKi2 hHeld ?_
    try simp only [oKi2, Act.put, zS, z0, z1]
    refine tkH 3 oKi3 (v := ?_) hHeld ?_ ?_; rotate_left
    · intro w hSw; dsimp only [oKi3]; obtain ⟨y2, yi, _⟩ := hSw; go_simp <;> with_reducible rfl
    try simp only [oKi3, Act.put, zS, z0, z1]
    refine tkA 4 oKi4 hHeld ?_
    try simp only [oKi4, Act.put, zS, z0, z1]
    refine tkH 5 oKi5 (v := ?_) hHeld ?_ ?_; rotate_left
    · intro w hSw; dsimp only [oKi5]; obtain ⟨y2, yi, _⟩ := hSw; go_simp <;> with_reducible rfl
    try simp only [oKi5, Act.put, zS, z0, z1]
    refine tkH 6 oKi6 (v := ?_) hHeld ?_ ?_; rotate_left
    · intro w hSw; dsimp only [oKi6]; obtain ⟨y2, yi, _⟩ := hSw; go_simp <;> with_reducible rfl
    try simp only [oKi6, Act.put, zS, z0, z1]
    refine tkA 7 oKi7 hHeld ?_
    try simp only [oKi7, Act.put, zS, z0, z1]
    refine rdy 8 rfl fun K hK => ?_
    go_simp
    refine (KD0.out _ HB1.out).mono ?_
    rintro e wq ⟨rfl, rfl⟩
    refine hK.out _ _ (⟨z2, hci, HBX.out.drew 1⟩) (fun hHeld2 => ?_)
    clear hK K hHeld; have hHeld := hHeld2; clear hHeld2
    try simp only [Act.put, zS, z0, z1]
    refine tkA 9 oKi8 hHeld ?_
    try simp only [oKi8, Act.put, zS, z0, z1]
    refine wpAnyH_done (by kernel_rfl) ?_ _
    go_wp2
    refine ⟨rfl, _, results_none rfl _ _ _, rfl, _, ?_, Up.refl _ _, (Kept.of_below HB00.out).then_below HB1.out⟩
    rw [saveM, if_pos (by rw [HSQ.out, HL.out.2.2]; exact HQ.out)]
    exact HS.out.below HB1.out
  · have hnb : ((sq : Int) == m) = false := by simpa using hne
    have HNE : Hid (¬ st.since.getD v 0 = st.marks.length) := by rw [Hid, HSQ.out, HL.out.2.2]; exact hne
    clear hne
    go_enter Tryz.func51, Tryz.ntmps51
    go_upto_region 1 with (fail)
    rw [HW0.out, HBW.out]
    refine wp_region_held_drew (S := fun X : World => X.cell? ⟨p, 2, none⟩ = some (.slice (some ⟨gi, 0, none⟩) n ic) ∧ X.cell? ⟨gi, v, none⟩ = some (.int .i64 sq) ∧ Bx X bw #[.bool b, .slice ra n0 rc, .slice a1 n1 c1, .slice a2 n2 c2, .int .i64 x, .int .i64 y] 37) (by kernel_rfl) (⟨z2, hci, HBX.out.drew 1⟩) (fun hHeld => ?_)
    refine tkA 0 oKi0 hHeld ?_
    try simp only [oKi0, Act.put, zS, z0, z1]
    refine tkA 1 oKi1 hHeld ?_
    try simp only [oKi1, Act.put, zS, z0, z1]
    refine tkA 2 oKi2 hHeld ?_
    try simp only [oKi2, Act.put, zS, z0, z1]
    refine tkH 3 oKi3 (v := ?_) hHeld ?_ ?_; rotate_left
    · intro w hSw; dsimp only [oKi3]; obtain ⟨y2, yi, _⟩ := hSw; go_simp <;> with_reducible rfl
    try simp only [oKi3, Act.put, zS, z0, z1]
    refine tkA 4 oKi4 hHeld ?_
    try simp only [oKi4, Act.put, zS, z0, z1]
    refine tkH 5 oKi5 (v := ?_) hHeld ?_ ?_; rotate_left
    · intro w hSw; dsimp only [oKi5]; obtain ⟨y2, yi, _⟩ := hSw; go_simp <;> with_reducible rfl
    try simp only [oKi5, Act.put, zS, z0, z1]
    refine tkH 6 oKi6 (v := ?_) hHeld ?_ ?_; rotate_left
    · intro w hSw; dsimp only [oKi6]; obtain ⟨y2, yi, _⟩ := hSw; go_simp <;> with_reducible rfl
    try simp only [oKi6, Act.put, zS, z0, z1]
    refine tkA 7 oKi7 hHeld ?_
    try simp only [oKi7, Act.put, zS, z0, z1]
    refine rdy 8 rfl fun K hK => ?_
    go_simp
    refine (KD0.out _ HB1.out).mono ?_
    rintro e wq ⟨rfl, rfl⟩
    refine hK.out _ _ (⟨z2, hci, HBX.out.drew 1⟩) (fun hHeld2 => ?_)
    clear hK K hHeld; have hHeld := hHeld2; clear hHeld2
    try simp only [Act.put, zS, z0, z1]
    refine tkA 9 oKi8 hHeld ?_
    try simp only [oKi8, Act.put, zS, z0, z1]
    refine wpAnyH_done (by kernel_rfl) ?_ _
    have HS1 := hid (HS.out.below HB1.out)
    have HBX1 : Hid (Bx W0.drew bw #[.bool b, .slice ra n0 rc, .slice a1 n1 c1, .slice a2 n2 c2, .int .i64 x, .int .i64 y] 37) := HBX.out.drew 1
    have HKW : Hid (Kept (XS p ⟨.slice sa k sc, .slice ma m mc, .slice (some ⟨gi, 0, none⟩) n ic, .slice da n dc, .slice wa n wc⟩) W W0.drew) := (Kept.of_below HB00.out).then_below HB1.out
    have HC1 := hid (HC.out.below HB1.out)
    have hi1 : W0.drew.cell? ⟨gi, v, none⟩ = some (.int .i64 sq) := hci
    have hz2 : W0.drew.cell? ⟨p, 2, none⟩ = some (.slice (some ⟨gi, 0, none⟩) n ic) := z2
    have hg1 : gi < W0.drew.heap.size := hgi0
    have HWV := hid (Nat.le_trans HB00.out.size HB1.out.size)
    clear HS HBX HB00 HB1 HC hci z2 hgi0 KD0 y0 y1 y2 y3 y4 y5
    clear HW0
    generalize W0.drew = V at *
    clear W0
    have HD : Hid (Sto V.drew p st ⟨.slice sa k sc, .slice ma m mc, .slice (some ⟨gi, 0, none⟩) n ic, .slice da n dc, .slice wa n wc⟩) := HS1.out.below (Below.refl _ _).drew
    have hbA : Below V.drew.heap.size V.drew (V.drew.alloc (Obj.cells #[.int .i64 v, .bool b, .slice ra n0 rc, .slice a1 n1 c1, .slice a2 n2 c2, .int .i64 x, .int .i64 y, .int .i64 sq] 105)) := (Below.refl _ _).alloc (Nat.le_refl _) _
    have HA := hid (HD.out.below hbA)
    obtain ⟨ks, hks, hkr⟩ := HA.out.saved
    have HR : Hid (Rw (V.drew.alloc (Obj.cells #[.int .i64 v, .bool b, .slice ra n0 rc, .slice a1 n1 c1, .slice a2 n2 c2, .int .i64 x, .int .i64 y, .int .i64 sq] 105)) 105 (.slice sa k sc) 8 ks) := hks
    have HKR : Hid (Kr (XS p ⟨.slice sa k sc, .slice ma m mc, .slice (some ⟨gi, 0, none⟩) n ic, .slice da n dc, .slice wa n wc⟩) (V.drew.alloc (Obj.cells #[.int .i64 v, .bool b, .slice ra n0 rc, .slice a1 n1 c1, .slice a2 n2 c2, .int .i64 x, .int .i64 y, .int .i64 sq] 105)) ks st.saved) := hkr
    have HML : Hid (ks.length ≤ 100000000) := by rw [Hid, hkr.1]; exact HZ.out.2.2
    have HCE : Hid (∀ j u, [.int .i64 v, .bool b, .slice ra n0 rc, .slice a1 n1 c1, .slice a2 n2 c2, .int .i64 x, .int .i64 y, .int .i64 sq][j]? = some u → (V.drew.alloc (Obj.cells #[.int .i64 v, .bool b, .slice ra n0 rc, .slice a1 n1 c1, .slice a2 n2 c2, .int .i64 x, .int .i64 y, .int .i64 sq] 105)).cell? ((⟨V.heap.size, 0, none⟩ : Addr).add j) = some u) := by
      intro j u hu
      have := (Bx.new V.drew #[.int .i64 v, .bool b, .slice ra n0 rc, .slice a1 n1 c1, .slice a2 n2 c2, .int .i64 x, .int .i64 y, .int .i64 sq] 105).cell j
      rw [Addr.add_mid, Nat.zero_add]
      simpa using this.trans (by simpa using hu)
    have HXI : Hid (XS p ⟨.slice sa k sc, .slice ma m mc, .slice (some ⟨gi, 0, none⟩) n ic, .slice da n dc, .slice wa n wc⟩ gi) := .inr (.inr (.inr (.inl rfl)))
    have HBXA : Hid (Bx (V.drew.alloc (Obj.cells #[.int .i64 v, .bool b, .slice ra n0 rc, .slice a1 n1 c1, .slice a2 n2 c2, .int .i64 x, .int .i64 y, .int .i64 sq] 105)) bw #[.bool b, .slice ra n0 rc, .slice a1 n1 c1, .slice a2 n2 c2, .int .i64 x, .int .i64 y] 37) := (HBX1.out.drew 1).below hbA
    have hiA : (V.drew.alloc (Obj.cells #[.int .i64 v, .bool b, .slice ra n0 rc, .slice a1 n1 c1, .slice a2 n2 c2, .int .i64 x, .int .i64 y, .int .i64 sq] 105)).cell? ⟨gi, v, none⟩ = some (.int .i64 sq) := (hbA.cell (p := ⟨gi, v, none⟩) hg1).trans hi1
    have hzA : (V.drew.alloc (Obj.cells #[.int .i64 v, .bool b, .slice ra n0 rc, .slice a1 n1 c1, .slice a2 n2 c2, .int .i64 x, .int .i64 y, .int .i64 sq] 105)).cell? ⟨p, 2, none⟩ = some (.slice (some ⟨gi, 0, none⟩) n ic) := HA.out.cells.2.2.1
    have FA : Hid ((V.drew.alloc (Obj.cells #[.int .i64 v, .bool b, .slice ra n0 rc, .slice a1 n1 c1, .slice a2 n2 c2, .int .i64 x, .int .i64 y, .int .i64 sq] 105)).cell? ⟨p, 2, none⟩ = some (.slice (some ⟨gi, 0, none⟩) n ic) ∧ (V.drew.alloc (Obj.cells #[.int .i64 v, .bool b, .slice ra n0 rc, .slice a1 n1 c1, .slice a2 n2 c2, .int .i64 x, .int .i64 y, .int .i64 sq] 105)).cell? ⟨gi, v, none⟩ = some (.int .i64 sq) ∧ Bx (V.drew.alloc (Obj.cells #[.int .i64 v, .bool b, .slice ra n0 rc, .slice a1 n1 c1, .slice a2 n2 c2, .int .i64 x, .int .i64 y, .int .i64 sq] 105)) bw #[.bool b, .slice ra n0 rc, .slice a1 n1 c1, .slice a2 n2 c2, .int .i64 x, .int .i64 y] 37) := ⟨hzA, hiA, HBXA.out⟩
    have FD : Hid (V.drew.cell? ⟨p, 2, none⟩ = some (.slice (some ⟨gi, 0, none⟩) n ic) ∧ V.drew.cell? ⟨gi, v, none⟩ = some (.int .i64 sq) ∧ Bx V.drew bw #[.bool b, .slice ra n0 rc, .slice a1 n1 c1, .slice a2 n2 c2, .int .i64 x, .int .i64 y] 37) := ⟨hz2, hi1, HBX1.out.drew 1⟩
    have MID : ∀ w1, (V.drew.alloc (Obj.cells #[.int .i64 v, .bool b, .slice ra n0 rc, .slice a1 n1 c1, .slice a2 n2 c2, .int .i64 x, .int .i64 y, .int .i64 sq] 105)).grownBy w1 (Value.slice sa k sc).ownBlock → w1.cell? ⟨p, 0, none⟩ = some (.slice sa k sc) ∧ w1.frozen? ⟨p, 0, none⟩ = false ∧ w1.cell? ⟨p, 2, none⟩ = some (.slice (some ⟨gi, 0, none⟩) n ic) ∧ w1.cell? ⟨gi, v, none⟩ = some (.int .i64 sq) ∧ Bx w1 bw #[.bool b, .slice ra n0 rc, .slice a1 n1 c1, .slice a2 n2 c2, .int .i64 x, .int .i64 y] 37 := by
      intro w1 hg
      have hp := (hg.block p HA.out.p_lt (fun e => HR.out.nep HA.out.blk (by decide) e.symm)).trans HA.out.blk
      exact ⟨cell_of_row w1 p 0 _ _ _ hp, by simp [World.frozen?, hp], cell_of_row w1 p 2 _ _ _ hp, (World.cell?_of_block (a := ⟨gi, v, none⟩) (hg.block gi (Nat.lt_of_lt_of_le hg1 hbA.size) (fun e => HA.out.since.ne HR.out (by decide) rfl e.symm))).trans hiA, ⟨(hg.block bw HBXA.out.lt (fun e => HR.out.nep HBXA.out.h (by decide) e.symm)).trans HBXA.out.h⟩⟩
    have HPG : Hid (p ≠ gi) := fun e => HA.out.since.nep HA.out.blk (by decide) (by rw [e]; rfl)
    have HPB : Hid (bw ≠ p) := ne_typ HBXA.out.h HA.out.blk (by decide)
    have MID2 : ∀ (w1 : World) (u : Value), (w1.cell? ⟨p, 2, none⟩ = some (.slice (some ⟨gi, 0, none⟩) n ic) ∧ w1.cell? ⟨gi, v, none⟩ = some (.int .i64 sq) ∧ Bx w1 bw #[.bool b, .slice ra n0 rc, .slice a1 n1 c1, .slice a2 n2 c2, .int .i64 x, .int .i64 y] 37) → (w1.setCell ⟨p, 0, none⟩ u).cell? ⟨p, 2, none⟩ = some (.slice (some ⟨gi, 0, none⟩) n ic) ∧ (w1.setCell ⟨p, 0, none⟩ u).cell? ⟨gi, v, none⟩ = some (.int .i64 sq) ∧ Bx (w1.setCell ⟨p, 0, none⟩ u) bw #[.bool b, .slice ra n0 rc, .slice a1 n1 c1, .slice a2 n2 c2, .int .i64 x, .int .i64 y] 37 := by
      intro w1 u ⟨f1, f2, f3⟩
      exact ⟨(World.cell?_setCell_other _ _ _ _ (by intro e; injection e with _ e _; cases e)).trans f1, (World.cell?_setCell_other _ _ _ _ (by intro e; injection e with e _ _; exact HPG.out e)).trans f2, f3.setc HPB.out _ _⟩
    clear hbA hks hkr hiA hzA
    go_upto_region 2 with (fail)
    refine wp_region_held_drew (S := fun X : World => X.cell? ⟨p, 2, none⟩ = some (.slice (some ⟨gi, 0, none⟩) n ic) ∧ X.cell? ⟨gi, v, none⟩ = some (.int .i64 sq) ∧ Bx X bw #[.bool b, .slice ra n0 rc, .slice a1 n1 c1, .slice a2 n2 c2, .int .i64 x, .int .i64 y] 37) (by kernel_rfl) (⟨hz2, hi1, HBX1.out.drew 1⟩) (fun hHeld => ?_)
    refine tkA 0 ⟨some 16, .move (.tmp 0), 103, "trail.go:37", #[], none⟩ hHeld ?_
    try simp only [Act.put, zS, z0, z1]
    refine tkA 1 ⟨some 17, .move (.tmp 0), 103, "trail.go:37", #[], none⟩ hHeld ?_
    try simp only [Act.put, zS, z0, z1]
    refine tkA 2 ⟨some 18, .nilCheck (.tmp 17), 0, "trail.go:37", #[⟨1, .data⟩], none⟩ hHeld ?_
    try simp only [Act.put, zS, z0, z1]
    refine tkA 3 ⟨some 19, .fieldAddr 65 (.tmp 18) 0, 0, "trail.go:37", #[⟨2, .data⟩], none⟩ hHeld ?_
    try simp only [Act.put, zS, z0, z1]
    refine tkA 5 ⟨some 21, .move (.tmp 1), 3, "trail.go:37", #[], none⟩ hHeld ?_
    try simp only [Act.put, zS, z0, z1]
    refine tkH 6 ⟨some 22, .load 37 (.tmp 5), 37, "trail.go:37", #[], none⟩ (v := ?_) hHeld ?_ ?_; rotate_left
    · intro w hSw; obtain ⟨y2, yi, yb⟩ := hSw; obtain ⟨q0, q1, q2, q3, q4, q5⟩ := yb.six; go_simp <;> with_reducible rfl
    try simp only [Act.put, zS, z0, z1]
    refine tkA 7 ⟨some 23, .move (.tmp 0), 103, "trail.go:37", #[], none⟩ hHeld ?_
    try simp only [Act.put, zS, z0, z1]
    refine tkA 8 ⟨some 24, .nilCheck (.tmp 23), 0, "trail.go:37", #[⟨7, .data⟩], none⟩ hHeld ?_
    try simp only [Act.put, zS, z0, z1]
    refine tkA 9 ⟨some 25, .fieldAddr 65 (.tmp 24) 2, 0, "trail.go:37", #[⟨8, .data⟩], none⟩ hHeld ?_
    try simp only [Act.put, zS, z0, z1]
    refine tkH 10 ⟨some 26, .load 63 (.tmp 25), 63, "trail.go:37", #[⟨9, .data⟩], none⟩ (v := ?_) hHeld ?_ ?_; rotate_left
    · intro w hSw; obtain ⟨y2, yi, yb⟩ := hSw; obtain ⟨q0, q1, q2, q3, q4, q5⟩ := yb.six; go_simp <;> with_reducible rfl
    try simp only [Act.put, zS, z0, z1]
    refine tkA 11 ⟨some 27, .move (.tmp 1), 3, "trail.go:37", #[], none⟩ hHeld ?_
    try simp only [Act.put, zS, z0, z1]
    refine tkA 12 ⟨some 28, .indexAddr 63 (.tmp 26) (.tmp 27), 0, "trail.go:37", #[⟨10, .data⟩, ⟨11, .data⟩], none⟩ hHeld ?_
    try simp only [Act.put, zS, z0, z1]
    refine tkH 13 ⟨some 29, .load 3 (.tmp 28), 3, "trail.go:37", #[⟨12, .data⟩], none⟩ (v := ?_) hHeld ?_ ?_; rotate_left
    · intro w hSw; obtain ⟨y2, yi, yb⟩ := hSw; obtain ⟨q0, q1, q2, q3, q4, q5⟩ := yb.six; go_simp <;> with_reducible rfl
    try simp only [Act.put, zS, z0, z1]
    refine tkA 14 ⟨some 30, .build 105 #[(0, .tmp 21), (1, .tmp 22), (2, .tmp 29)], 105, "trail.go:37", #[⟨5, .data⟩, ⟨6, .data⟩, ⟨13, .data⟩], none⟩ hHeld ?_
    try simp only [Act.put, zS, z0, z1]
    refine wpAnyH_ready (rs := [4, 15]) (by kernel_rfl) (by simp) ?_
    refine AllReadyH.cons rfl (fun K hK => ?_) ?_
    · have z1 : V.cell? ⟨p, 0, none⟩ = some (.slice sa k sc) := HD.out.cells.1
      go_simp
      clear z1
      refine hK.out _ _ (FD.out) (fun hHeld2 => ?_)
      clear hK K hHeld; have hHeld := hHeld2; clear hHeld2
      try simp only [Act.put, zS, z0, z1]
      refine rdy 15 rfl fun K hK => ?_
      go_simp
      refine hK.out _ _ (FA.out) (fun hHeld2 => ?_)
      clear hK K hHeld; have hHeld := hHeld2; clear hHeld2
      try simp only [Act.put, zS, z0, z1]
      refine rdy 16 rfl fun K hK => ?_
      refine step_app HR.out 62 Tryz.underlying62 Tryz.infoKept rfl (by decide) rfl _ _ rfl rfl ⟨V.heap.size, 0, none⟩ 1 (by with_unfolding_all rfl) [.int .i64 v, .bool b, .slice ra n0 rc, .slice a1 n1 c1, .slice a2 n2 c2, .int .i64 x, .int .i64 y, .int .i64 sq] rfl HCE.out (eight_one _ _ _ _ _ _ _ _ _ _ _ _ _ _) HML.out (by decide) ?_
      intro v1 w1 hr1 hg1 hn1
      obtain ⟨p1, q1, cc1, rfl, HQ1, _⟩ := hr1.look
      have HR1 : Hid _ := hr1
      have HG1 : Hid _ := hg1
      have HN1 : Hid _ := hn1
      clear hr1 hg1 hn1
      have z0 := MID w1 HG1.out
      refine hK.out _ _ (z0.2.2) (fun hHeld2 => ?_)
      clear hK K hHeld; have hHeld := hHeld2; clear hHeld2
      try simp only [Act.put, zS, z0, z1]
      refine tkA 17 oKi9 hHeld ?_
      try simp only [oKi9, Act.put, zS, z0, z1]
      refine tkA 18 oKi10 hHeld ?_
      try simp only [oKi10, Act.put, zS, z0, z1]
      refine rdy 19 rfl fun K hK => ?_
      have z1 := z0.1
      have z2 := z0.2.1
      go_simp
      clear z1 z2
      refine hK.out _ _ (MID2 w1 _ z0.2.2) (fun hHeld2 => ?_)
      clear hK K hHeld; have hHeld := hHeld2; clear hHeld2
      try simp only [Act.put, zS, z0, z1]
      refine wpAnyH_done (by kernel_rfl) ?_ _
      have hr1 := HR1.out
      have hgg1 := HG1.out
      have hn1 := HN1.out
      clear z0
      have hu := up_saved (p := p) (sl := ⟨.slice sa k sc, .slice ma m mc, .slice (some ⟨gi, 0, none⟩) n ic, .slice da n dc, .slice wa n wc⟩) (w := (V.drew.alloc (Obj.cells #[.int .i64 v, .bool b, .slice ra n0 rc, .slice a1 n1 c1, .slice a2 n2 c2, .int .i64 x, .int .i64 y, .int .i64 sq] 105))) hn1
      have hC1 : Dc (XS p ⟨.slice sa k sc, .slice ma m mc, .slice (some ⟨gi, 0, none⟩) n ic, .slice da n dc, .slice wa n wc⟩) (V.drew.alloc (Obj.cells #[.int .i64 v, .bool b, .slice ra n0 rc, .slice a1 n1 c1, .slice a2 n2 c2, .int .i64 x, .int .i64 y, .int .i64 sq] 105)) [.bool b, .slice ra n0 rc, .slice a1 n1 c1, .slice a2 n2 c2, .int .i64 x, .int .i64 y] o := HC1.out.below ((Below.refl _ V).drew.alloc (Nat.le_refl _) _)
      have hkr := (HKR.out.snoc hC1 v sq).go (kept_saved (p := p) (sl := ⟨.slice sa k sc, .slice ma m mc, .slice (some ⟨gi, 0, none⟩) n ic, .slice da n dc, .slice wa n wc⟩) hgg1) hu
      obtain ⟨f1, f2, f3⟩ := HA.out.set_saved hgg1 hr1 hn1 hkr
      have HS3 : Hid (Sto (w1.setCell ⟨p, 0, none⟩ (.slice p1 q1 cc1)).drew p { st with saved := st.saved ++ [((v : Int), o, sq)] } ⟨.slice p1 q1 cc1, .slice ma m mc, .slice (some ⟨gi, 0, none⟩) n ic, .slice da n dc, .slice wa n wc⟩) := f1.below (Below.refl _ _).drew
      have HK3 : Hid (Kept (XS p ⟨.slice sa k sc, .slice ma m mc, .slice (some ⟨gi, 0, none⟩) n ic, .slice da n dc, .slice wa n wc⟩) W (w1.setCell ⟨p, 0, none⟩ (.slice p1 q1 cc1)).drew) := (((HKW.out.then_below (Below.refl _ _).drew).then_below ((Below.refl _ _).alloc (Nat.le_refl _) _)).trans f3 (Up.refl _ _)).then_below (Below.refl _ _).drew
      have HUP : Hid (Up (XS p ⟨.slice sa k sc, .slice ma m mc, .slice (some ⟨gi, 0, none⟩) n ic, .slice da n dc, .slice wa n wc⟩) (XS p ⟨.slice p1 q1 cc1, .slice ma m mc, .slice (some ⟨gi, 0, none⟩) n ic, .slice da n dc, .slice wa n wc⟩) W) := fun bb hb => (hu bb hb).elim .inl (fun q => .inr (by have := HWV.out; simp at q; omega))
      have hq2 : (w1.setCell ⟨p, 0, none⟩ (.slice p1 q1 cc1)).drew.cell? ⟨p, 2, none⟩ = some (.slice (some ⟨gi, 0, none⟩) n ic) := HS3.out.cells.2.2.1
      have hvs3 : v < ({ st with saved := st.saved ++ [((v : Int), o, sq)] } : StM).since.length := HVS.out
      have HTI : Hid ((w1.setCell ⟨p, 0, none⟩ (.slice p1 q1 cc1)).drew.cell? ⟨gi, v, none⟩ = some (.int .i64 sq) ∧ (w1.setCell ⟨p, 0, none⟩ (.slice p1 q1 cc1)).drew.frozen? ⟨gi, v, none⟩ = false) := by
        obtain ⟨g, cp, e1, _, _, _, e5, e6⟩ := HS3.out.since.at (i := v) (c := [.int .i64 (st.since.getD v 0)]) (by rw [ivs_get, List.getElem?_eq_getElem HVS.out]; simp [List.getD, HVS.out])
        injection e1 with e1 _ _
        injection e1 with e1
        injection e1 with e1 _ _
        subst e1
        rw [Nat.mul_one] at e5 e6
        rw [HSQ.out] at e5
        exact ⟨rng_one e5, there_one e6 (by decide)⟩
      have HP2 : Hid (((w1.setCell ⟨p, 0, none⟩ (.slice p1 q1 cc1)).drew.setCell ⟨gi, v, none⟩ (.int .i64 m)).cell? ⟨p, 2, none⟩ = some (.slice (some ⟨gi, 0, none⟩) n ic)) := (World.cell?_setCell_other _ _ _ _ (by intro e; injection e with e _ _; exact HPG.out e.symm)).trans hq2
      have HFIN : Hid (Sto ((w1.setCell ⟨p, 0, none⟩ (.slice p1 q1 cc1)).drew.setCell ⟨gi, v, none⟩ (.int .i64 m)) p _ ⟨.slice p1 q1 cc1, .slice ma m mc, .slice (some ⟨gi, 0, none⟩) n ic, .slice da n dc, .slice wa n wc⟩) := HS3.out.set_since hvs3 rfl m
      have KD : Hid (Calls Tryz.prog 56 #[ptr p] (w1.setCell ⟨p, 0, none⟩ (.slice p1 q1 cc1)).drew fun e w' => e = .returned (.int .i64 m) ∧ w' = (w1.setCell ⟨p, 0, none⟩ (.slice p1 q1 cc1)).drew) := by have := depth_any HS3.out ⟨HZ.out.1, HZ.out.2.1, by have := HZS.out; simp; omega⟩; rw [HL.out.2.2] at this; exact this
      clear hr1 hgg1 hn1 hu hC1 hkr f1 f2 f3 HA HR HKR HCE MID MID2 FA FD HD HS1 HBX1 HBXA HC1 HKW hi1 hz2 hg1 HR1 HG1 HN1 hHeld HQ1
      generalize (w1.setCell ⟨p, 0, none⟩ (.slice p1 q1 cc1)) = zz at *
      clear w1
      go_upto_region 3 with (fail)
      refine wp_region_held_drew (S := fun X : World => X.cell? ⟨p, 2, none⟩ = some (.slice (some ⟨gi, 0, none⟩) n ic)) (by kernel_rfl) (hq2) (fun hHeld => ?_)
      refine tkA 0 oKi11 hHeld ?_
      try simp only [oKi11, Act.put, zS, z0, z1]
      refine tkA 1 oKi12 hHeld ?_
      try simp only [oKi12, Act.put, zS, z0, z1]
      refine tkA 2 oKi13 hHeld ?_
      try simp only [oKi13, Act.put, zS, z0, z1]
      refine tkA 3 oKi14 hHeld ?_
      try simp only [oKi14, Act.put, zS, z0, z1]
      refine tkA 4 oKi15 hHeld ?_
      try simp only [oKi15, Act.put, zS, z0, z1]
      refine tkA 5 oKi16 hHeld ?_
      try simp only [oKi16, Act.put, zS, z0, z1]
      refine rdy 6 rfl fun K hK => ?_
      go_simp
      refine KD.out.mono ?_
      rintro e wq ⟨rfl, rfl⟩
      refine hK.out _ _ (hq2) (fun hHeld2 => ?_)
      clear hK K hHeld; have hHeld := hHeld2; clear hHeld2
      try simp only [Act.put, zS, z0, z1]
      refine tkA 7 oKi17 hHeld ?_
      try simp only [oKi17, Act.put, zS, z0, z1]
      refine rdy 8 rfl fun K hK => ?_
      have zq := HTI.out.1
      have zf := HTI.out.2
      go_simp
      clear zq zf
      refine hK.out _ _ (HP2.out) (fun hHeld2 => ?_)
      clear hK K hHeld; have hHeld := hHeld2; clear hHeld2
      try simp only [Act.put, zS, z0, z1]
      refine wpAnyH_done (by kernel_rfl) ?_ _
      refine ⟨rfl, _, results_none rfl _ _ _, rfl, _, ?_, HUP.out, ?_⟩
      · rw [saveM, if_neg HNE.out, HSQ.out, HL.out.2.2]
        exact HFIN.out
      · exact (HK3.out).setCell HXI.out _ _
    refine AllReadyH.cons rfl (fun K hK => ?_) ?_
    · go_simp
      refine hK.out _ _ (FA.out) (fun hHeld2 => ?_)
      clear hK K hHeld; have hHeld := hHeld2; clear hHeld2
      try simp only [Act.put, zS, z0, z1]
      refine rdy 4 rfl fun K hK => ?_
      have z1 : (V.alloc (Obj.cells #[.int .i64 v, .bool b, .slice ra n0 rc, .slice a1 n1 c1, .slice a2 n2 c2, .int .i64 x, .int .i64 y, .int .i64 sq] 105)).cell? ⟨p, 0, none⟩ = some (.slice sa k sc) := HA.out.cells.1
      go_simp
      clear z1
      refine hK.out _ _ (FA.out) (fun hHeld2 => ?_)
      clear hK K hHeld; have hHeld := hHeld2; clear hHeld2
      try simp only [Act.put, zS, z0, z1]
      refine rdy 16 rfl fun K hK => ?_
      refine step_app HR.out 62 Tryz.underlying62 Tryz.infoKept rfl (by decide) rfl _ _ rfl rfl ⟨V.heap.size, 0, none⟩ 1 (by with_unfolding_all rfl) [.int .i64 v, .bool b, .slice ra n0 rc, .slice a1 n1 c1, .slice a2 n2 c2, .int .i64 x, .int .i64 y, .int .i64 sq] rfl HCE.out (eight_one _ _ _ _ _ _ _ _ _ _ _ _ _ _) HML.out (by decide) ?_
      intro v1 w1 hr1 hg1 hn1
      obtain ⟨p1, q1, cc1, rfl, HQ1, _⟩ := hr1.look
      have HR1 : Hid _ := hr1
      have HG1 : Hid _ := hg1
      have HN1 : Hid _ := hn1
      clear hr1 hg1 hn1
      have z0 := MID w1 HG1.out
      refine hK.out _ _ (z0.2.2) (fun hHeld2 => ?_)
      clear hK K hHeld; have hHeld := hHeld2; clear hHeld2
      try simp only [Act.put, zS, z0, z1]
      refine tkA 17 oKi9 hHeld ?_
      try simp only [oKi9, Act.put, zS, z0, z1]
      refine tkA 18 oKi10 hHeld ?_
      try simp only [oKi10, Act.put, zS, z0, z1]
      refine rdy 19 rfl fun K hK => ?_
      have z1 := z0.1
      have z2 := z0.2.1
      go_simp
      clear z1 z2
      refine hK.out _ _ (MID2 w1 _ z0.2.2) (fun hHeld2 => ?_)
      clear hK K hHeld; have hHeld := hHeld2; clear hHeld2
      try simp only [Act.put, zS, z0, z1]
      refine wpAnyH_done (by kernel_rfl) ?_ _
      have hr1 := HR1.out
      have hgg1 := HG1.out
      have hn1 := HN1.out
      clear z0
      have hu := up_saved (p := p) (sl := ⟨.slice sa k sc, .slice ma m mc, .slice (some ⟨gi, 0, none⟩) n ic, .slice da n dc, .slice wa n wc⟩) (w := (V.drew.alloc (Obj.cells #[.int .i64 v, .bool b, .slice ra n0 rc, .slice a1 n1 c1, .slice a2 n2 c2, .int .i64 x, .int .i64 y, .int .i64 sq] 105))) hn1
      have hC1 : Dc (XS p ⟨.slice sa k sc, .slice ma m mc, .slice (some ⟨gi, 0, none⟩) n ic, .slice da n dc, .slice wa n wc⟩) (V.drew.alloc (Obj.cells #[.int .i64 v, .bool b, .slice ra n0 rc, .slice a1 n1 c1, .slice a2 n2 c2, .int .i64 x, .int .i64 y, .int .i64 sq] 105)) [.bool b, .slice ra n0 rc, .slice a1 n1 c1, .slice a2 n2 c2, .int .i64 x, .int .i64 y] o := HC1.out.below ((Below.refl _ V).drew.alloc (Nat.le_refl _) _)
      have hkr := (HKR.out.snoc hC1 v sq).go (kept_saved (p := p) (sl := ⟨.slice sa k sc, .slice ma m mc, .slice (some ⟨gi, 0, none⟩) n ic, .slice da n dc, .slice wa n wc⟩) hgg1) hu
      obtain ⟨f1, f2, f3⟩ := HA.out.set_saved hgg1 hr1 hn1 hkr
      have HS3 : Hid (Sto (w1.setCell ⟨p, 0, none⟩ (.slice p1 q1 cc1)).drew p { st with saved := st.saved ++ [((v : Int), o, sq)] } ⟨.slice p1 q1 cc1, .slice ma m mc, .slice (some ⟨gi, 0, none⟩) n ic, .slice da n dc, .slice wa n wc⟩) := f1.below (Below.refl _ _).drew
      have HK3 : Hid (Kept (XS p ⟨.slice sa k sc, .slice ma m mc, .slice (some ⟨gi, 0, none⟩) n ic, .slice da n dc, .slice wa n wc⟩) W (w1.setCell ⟨p, 0, none⟩ (.slice p1 q1 cc1)).drew) := (((HKW.out.then_below (Below.refl _ _).drew).then_below ((Below.refl _ _).alloc (Nat.le_refl _) _)).trans f3 (Up.refl _ _)).then_below (Below.refl _ _).drew
      have HUP : Hid (Up (XS p ⟨.slice sa k sc, .slice ma m mc, .slice (some ⟨gi, 0, none⟩) n ic, .slice da n dc, .slice wa n wc⟩) (XS p ⟨.slice p1 q1 cc1, .slice ma m mc, .slice (some ⟨gi, 0, none⟩) n ic, .slice da n dc, .slice wa n wc⟩) W) := fun bb hb => (hu bb hb).elim .inl (fun q => .inr (by have := HWV.out; simp at q; omega))
      have hq2 : (w1.setCell ⟨p, 0, none⟩ (.slice p1 q1 cc1)).drew.cell? ⟨p, 2, none⟩ = some (.slice (some ⟨gi, 0, none⟩) n ic) := HS3.out.cells.2.2.1
      have hvs3 : v < ({ st with saved := st.saved ++ [((v : Int), o, sq)] } : StM).since.length := HVS.out
      have HTI : Hid ((w1.setCell ⟨p, 0, none⟩ (.slice p1 q1 cc1)).drew.cell? ⟨gi, v, none⟩ = some (.int .i64 sq) ∧ (w1.setCell ⟨p, 0, none⟩ (.slice p1 q1 cc1)).drew.frozen? ⟨gi, v, none⟩ = false) := by
        obtain ⟨g, cp, e1, _, _, _, e5, e6⟩ := HS3.out.since.at (i := v) (c := [.int .i64 (st.since.getD v 0)]) (by rw [ivs_get, List.getElem?_eq_getElem HVS.out]; simp [List.getD, HVS.out])
        injection e1 with e1 _ _
        injection e1 with e1
        injection e1 with e1 _ _
        subst e1
        rw [Nat.mul_one] at e5 e6
        rw [HSQ.out] at e5
        exact ⟨rng_one e5, there_one e6 (by decide)⟩
      have HP2 : Hid (((w1.setCell ⟨p, 0, none⟩ (.slice p1 q1 cc1)).drew.setCell ⟨gi, v, none⟩ (.int .i64 m)).cell? ⟨p, 2, none⟩ = some (.slice (some ⟨gi, 0, none⟩) n ic)) := (World.cell?_setCell_other _ _ _ _ (by intro e; injection e with e _ _; exact HPG.out e.symm)).trans hq2
      have HFIN : Hid (Sto ((w1.setCell ⟨p, 0, none⟩ (.slice p1 q1 cc1)).drew.setCell ⟨gi, v, none⟩ (.int .i64 m)) p _ ⟨.slice p1 q1 cc1, .slice ma m mc, .slice (some ⟨gi, 0, none⟩) n ic, .slice da n dc, .slice wa n wc⟩) := HS3.out.set_since hvs3 rfl m
      have KD : Hid (Calls Tryz.prog 56 #[ptr p] (w1.setCell ⟨p, 0, none⟩ (.slice p1 q1 cc1)).drew fun e w' => e = .returned (.int .i64 m) ∧ w' = (w1.setCell ⟨p, 0, none⟩ (.slice p1 q1 cc1)).drew) := by have := depth_any HS3.out ⟨HZ.out.1, HZ.out.2.1, by have := HZS.out; simp; omega⟩; rw [HL.out.2.2] at this; exact this
      clear hr1 hgg1 hn1 hu hC1 hkr f1 f2 f3 HA HR HKR HCE MID MID2 FA FD HD HS1 HBX1 HBXA HC1 HKW hi1 hz2 hg1 HR1 HG1 HN1 hHeld HQ1
      generalize (w1.setCell ⟨p, 0, none⟩ (.slice p1 q1 cc1)) = zz at *
      clear w1
      go_upto_region 3 with (fail)
      refine wp_region_held_drew (S := fun X : World => X.cell? ⟨p, 2, none⟩ = some (.slice (some ⟨gi, 0, none⟩) n ic)) (by kernel_rfl) (hq2) (fun hHeld => ?_)
      refine tkA 0 oKi11 hHeld ?_
      try simp only [oKi11, Act.put, zS, z0, z1]
      refine tkA 1 oKi12 hHeld ?_
      try simp only [oKi12, Act.put, zS, z0, z1]
      refine tkA 2 oKi13 hHeld ?_
      try simp only [oKi13, Act.put, zS, z0, z1]
      refine tkA 3 oKi14 hHeld ?_
      try simp only [oKi14, Act.put, zS, z0, z1]
      refine tkA 4 oKi15 hHeld ?_
      try simp only [oKi15, Act.put, zS, z0, z1]
      refine tkA 5 oKi16 hHeld ?_
      try simp only [oKi16, Act.put, zS, z0, z1]
      refine rdy 6 rfl fun K hK => ?_
      go_simp
      refine KD.out.mono ?_
      rintro e wq ⟨rfl, rfl⟩
      refine hK.out _ _ (hq2) (fun hHeld2 => ?_)
      clear hK K hHeld; have hHeld := hHeld2; clear hHeld2
      try simp only [Act.put, zS, z0, z1]
      refine tkA 7 oKi17 hHeld ?_
      try simp only [oKi17, Act.put, zS, z0, z1]
      refine rdy 8 rfl fun K hK => ?_
      have zq := HTI.out.1
      have zf := HTI.out.2
      go_simp
      clear zq zf
      refine hK.out _ _ (HP2.out) (fun hHeld2 => ?_)
      clear hK K hHeld; have hHeld := hHeld2; clear hHeld2
      try simp only [Act.put, zS, z0, z1]
      refine wpAnyH_done (by kernel_rfl) ?_ _
      refine ⟨rfl, _, results_none rfl _ _ _, rfl, _, ?_, HUP.out, ?_⟩
      · rw [saveM, if_neg HNE.out, HSQ.out, HL.out.2.2]
        exact HFIN.out
      · exact (HK3.out).setCell HXI.out _ _
    exact AllReadyH.nil
end Go.Proofs.YtghnfnieppfhgaaGreat

namespace Go.Proofs.YtghnfnieppfhgaaGreat
open Go.RowKit Go.Shelf
set_option linter.unusedVariables false
set_option linter.unusedSimpArgs false

theorem saveM_D (st : StM) (v : Nat) (o : MD) : (saveM st v o).D = st.D ∧ (saveM st v o).e = st.e ∧ (saveM st v o).why = st.why ∧ (saveM st v o).marks = st.marks ∧ (saveM st v o).saved.length ≤ st.saved.length + 1 := by
  unfold saveM
  split
  · exact ⟨rfl, rfl, rfl, rfl, by omega⟩
  · exact ⟨rfl, rfl, rfl, rfl, by simp⟩
def putM (st : StM) (v : Nat) (o nx : MD) : StM := { st with e := st.e + (emptI (emptyW nx) - emptI (emptyW o)), D := st.D.set v nx }
def narrowM (st : StM) (v : Nat) (o nx : MD) (chg : Int) : StM := if emptyW nx then putM (saveM st v o) v o nx else { putM (saveM st v o) v o nx with why := tellM (saveM st v o).why v chg }
theorem wp_ways2 {P : Program} {c : Code} {K : Act → World → Prop} {Q : Exit → Act → World → Prop} {a : Act} {w : World} {act : Nat → List Value → Act} (R : Nat → List Value → World → Prop) (h : c.wp P (Exit.then (fun a' w' => ∃ n q, a' = act n q ∧ R n q w') (fun _ _ _ => False)) a w) (hK : ∀ n q w', R n q w' → K (act n q) w') : c.wp P (Exit.then K Q) a w :=
  Code.wp_mono (fun e b x q => by
    cases e with
    | normal =>
      have q' : ∃ n q, b = act n q ∧ R n q x := q
      obtain ⟨n, q, e1, q2⟩ := q'
      rw [e1]
      exact hK _ _ _ q2
    | _ => exact (q : False).elim) h

end Go.Proofs.YtghnfnieppfhgaaGreat

namespace Go.Proofs.YtghnfnieppfhgaaGreat
open Go.RowKit Go.Shelf
set_option linter.unusedVariables false
set_option linter.unusedSimpArgs false

theorem Below.kept0 {W w' : World} (h : Below W.heap.size W w') : Kept (fun _ => False) W w' := ⟨h.os, h.tape, h.output, h.size, fun b hb _ => h.block b hb⟩
end Go.Proofs.YtghnfnieppfhgaaGreat

namespace Go.Proofs.YtghnfnieppfhgaaGreat
open Go.RowKit Go.Shelf
set_option linter.unusedVariables false
set_option linter.unusedSimpArgs false

/-- Clearing a slice of elements of several cells. -/
theorem run_clear_many {P : Program} (w : World) (t e ty : TypeId) (z : Value) (ht : P.underlying t = some (.slice e)) (hv : ∀ w, (zeroValue e).run P w = .ok z w) (h1 : ∀ v ∈ z.cells.toList, v.oneCell' = true) (b o n c : Nat) (hn : 0 < n)
    (hc : ∀ j, j < n * z.cells.size → (w.cell? ⟨b, o + j, none⟩).isSome = true) (hf : ∀ j, j < n * z.cells.size → w.frozen? ⟨b, o + j, none⟩ = false) :
    (Builtin.clear_ #[t] ty #[.slice (some ⟨b, o, none⟩) n c]).run P w = .ok (.tuple #[]) (w.setCells b o (Builtin.zeroCells z.cells n).toList) := by
  have hl : (Builtin.zeroCells z.cells n).toList.length = n * z.cells.size := by rw [Array.length_toList, size_zeroCells]
  have hst := run_storeCells_cells (P := P) b o (Builtin.zeroCells z.cells n).toList 0 w (by rw [hl]; simpa using hc) (by rw [hl]; simpa using hf) (by
    intro v hv'
    simp [Builtin.zeroCells] at hv'
    obtain ⟨a, ha, rfl⟩ := hv'
    rcases Nat.eq_zero_or_pos z.cells.size with e | e
    · rw [e] at ha; simp at ha
    · have hlt : a % z.cells.size < z.cells.size := Nat.mod_lt _ e
      have hm : z.cells[a % z.cells.size] ∈ z.cells.toList := by simp
      simpa [hlt] using h1 _ hm)
  simp only [Nat.add_zero] at hst
  obtain ⟨m, rfl⟩ : ∃ m, n = m + 1 := ⟨n - 1, by omega⟩
  simp [Builtin.clear_, run_underlying ht, hv, hst]
theorem zero_kept (w : World) : (zeroValue 105).run Tryz.prog w = .ok (.agg #[.int .i64 0, .bool false, .slice none 0 0, .slice none 0 0, .slice none 0 0, .int .i64 0, .int .i64 0, .int .i64 0]) w := Tryz.zeroValue105 w
theorem rng8 {w : World} {g o : Nat} {x0 x1 x2 x3 x4 x5 x6 x7 : Value} (h : w.rangeAt g o [x0, x1, x2, x3, x4, x5, x6, x7]) :
    w.cell? ⟨g, o, none⟩ = some x0 ∧ w.cell? ⟨g, o + 1, none⟩ = some x1 ∧ w.cell? ⟨g, o + 2, none⟩ = some x2 ∧ w.cell? ⟨g, o + 3, none⟩ = some x3 ∧ w.cell? ⟨g, o + 4, none⟩ = some x4 ∧ w.cell? ⟨g, o + 5, none⟩ = some x5 ∧ w.cell? ⟨g, o + 6, none⟩ = some x6 ∧ w.cell? ⟨g, o + 7, none⟩ = some x7 :=
  ⟨by simpa using h 0 x0 rfl, h 1 x1 rfl, h 2 x2 rfl, h 3 x3 rfl, h 4 x4 rfl, h 5 x5 rfl, h 6 x6 rfl, h 7 x7 rfl⟩
theorem Sto.saved_at [Gh] {w : World} {p : Nat} {st : StM} {sl : Sl} (h : Sto w p st sl) {i : Nat} {q : Int × MD × Int} (hd : st.saved[i]? = some q) : ∃ g cap c, sl.sv = .slice (some ⟨g, 0, none⟩) st.saved.length cap ∧ g < w.heap.size ∧ st.saved.length ≤ cap ∧ cap ≤ 9223372036854775807 ∧ w.rangeAt g (i * 8) (kcell q.1 c q.2.2) ∧ Dc (XS p sl) w c q.2.1 := by
  obtain ⟨ks, hr, hkr⟩ := h.saved
  have hv : i < ks.length := by rw [hkr.1]; exact (List.getElem?_eq_some_iff.1 hd).1
  obtain ⟨g, cap, e1, e2, e3, e4, e5, e6⟩ := hr.at (List.getElem?_eq_getElem hv)
  unfold maxLen at e4
  rw [hkr.1] at e1 e3
  obtain ⟨c, ec, hc⟩ := hkr.2 i _ q (List.getElem?_eq_getElem hv) hd
  rw [ec] at e5
  exact ⟨g, cap, c, e1, e2, e3, by omega, e5, hc⟩
theorem Rw.tail {w : World} {t : TypeId} {k m cap g : Nat} {vs : List (List Value)} (h : Rw w t (.slice (some ⟨g, 0, none⟩) m cap) k vs) (o : Nat) (l : List Value) (ho : vs.length * k ≤ o) (hl : o + l.length ≤ cap * k) : Rw (w.setCells g o l) t (.slice (some ⟨g, 0, none⟩) m cap) k vs := by
  rcases h.2.2 with ⟨e1, e2⟩ | ⟨g', cap', cur, e1, e0, hg, hn, hm, hsz, ht⟩
  · cases e1
  · injection e1 with e1 e2 e3
    injection e1 with e1
    injection e1 with e1 _ _
    subst e1 e3
    refine ⟨h.1, h.2.1, .inr ⟨g, cap, wr cur o l, by rw [e2], e0, heap_setCells l o hg (by omega), hn, hm, by rw [wr_size]; exact hsz, ?_⟩⟩
    rw [← ht]
    apply List.ext_getElem?
    intro j
    rw [List.getElem?_take, List.getElem?_take]
    by_cases hj : j < vs.length * k
    · rw [if_pos hj, if_pos hj, wr_get l cur o j (by omega), if_neg (by omega)]
    · rw [if_neg hj, if_neg hj]
theorem grown_cells (w : World) (g o : Nat) (vs : List Value) : w.grownBy (w.setCells g o vs) (some g) := by
  have k : Kept (fun b => b = g) w (w.setCells g o vs) := Kept.many rfl
  exact ⟨k.os, k.tape, k.output, k.size, fun b hb hx => k.block b hb (fun e => hx (by rw [e]))⟩
theorem grown_refl (w : World) (r : Option Nat) : w.grownBy w r := ⟨rfl, rfl, rfl, Nat.le_refl _, fun _ _ _ => rfl⟩
theorem Kr.take {X : Nat → Prop} {w : World} {ks : List (List Value)} {S : List (Int × MD × Int)} (h : Kr X w ks S) (f : Nat) : Kr X w (ks.take f) (S.take f) := by
  refine ⟨by simp [h.1], fun i kc t h1 h2 => ?_⟩
  rw [List.getElem?_take] at h1 h2
  split at h1
  · rename_i hi
    rw [if_pos hi] at h2
    exact h.2 i kc t h1 h2
  · cases h1
/-- What was saved at the end is struck. -/
theorem Sto.cut [Gh] {w : World} {p gk gm f kf mn sc mc : Nat} {st : StM} {sl : Sl} (h : Sto w p st sl) (hsv : sl.sv = .slice (some ⟨gk, 0, none⟩) (f + kf) sc) (hmv : sl.mv = .slice (some ⟨gm, 0, none⟩) (mn + 1) mc) (hk : f + kf = st.saved.length) (ms : List Int) (x : Int) (hms : st.marks = ms ++ [x]) (hmn : ms.length = mn) (Z : List Value) (hZ : Z.length = kf * 8) (hsc : f + kf ≤ sc) :
    Sto (((w.setCells gk (f * 8) Z).setCell ⟨p, 0, none⟩ (.slice (some ⟨gk, 0, none⟩) f sc)).setCell ⟨p, 1, none⟩ (.slice (some ⟨gm, 0, none⟩) mn mc)) p { st with saved := st.saved.take f, marks := ms } { sl with sv := .slice (some ⟨gk, 0, none⟩) f sc, mv := .slice (some ⟨gm, 0, none⟩) mn mc } ∧
    Up (XS p sl) (XS p { sl with sv := .slice (some ⟨gk, 0, none⟩) f sc, mv := .slice (some ⟨gm, 0, none⟩) mn mc }) w ∧ Kept (XS p sl) w (((w.setCells gk (f * 8) Z).setCell ⟨p, 0, none⟩ (.slice (some ⟨gk, 0, none⟩) f sc)).setCell ⟨p, 1, none⟩ (.slice (some ⟨gm, 0, none⟩) mn mc)) := by
  obtain ⟨ks, hs, hkr⟩ := h.saved
  have hsg : sl.sv.ownBlock = some gk := by rw [hsv]; rfl
  have hlt : (ks.take f).length = f := by rw [List.length_take, hkr.1]; omega
  rw [hsv] at hs
  have r1 := (hs.cut (m := f) (by rw [hkr.1]; omega)).tail (f * 8) Z (by rw [hlt]; exact Nat.le_refl _) (by rw [hZ]; have := Nat.mul_le_mul_right 8 hsc; rw [Nat.add_mul] at this; exact this)
  have g1 : w.grownBy (w.setCells gk (f * 8) Z) sl.sv.ownBlock := by rw [hsg]; exact grown_cells _ _ _ _
  have hn1 : ∀ b, (Value.slice (some ⟨gk, 0, none⟩) f sc).ownBlock = some b → sl.sv.ownBlock = some b ∨ w.heap.size ≤ b := fun b hb => .inl (by rw [hsg]; exact hb)
  have u1 := up_saved (p := p) hn1
  have k1 : Kept (XS p sl) w (w.setCells gk (f * 8) Z) := kept_saved g1
  obtain ⟨f1, f2, f3⟩ := h.set_saved g1 r1 hn1 ((hkr.take f).go k1 u1)
  have r2 := f1.marks
  simp only at r2
  rw [hmv] at r2
  have hlm : (ivs st.marks).length = mn + 1 := by rw [ivs_len, hms]; simp [hmn]
  have r3 := r2.cut (m := mn) (by omega)
  have e3 : (ivs st.marks).take mn = ivs ms := by rw [hms, ivs_snoc, ← hmn]; simp [ivs_len, ivs]
  rw [e3] at r3
  have hmg : sl.mv.ownBlock = some gm := by rw [hmv]; rfl
  obtain ⟨q1, q2, q3⟩ := f1.set_marks (mv' := .slice (some ⟨gm, 0, none⟩) mn mc) (M' := ms) (grown_refl _ _) r3 (fun b hb => .inl (by show sl.mv.ownBlock = _; rw [hmg]; exact hb))
  refine ⟨q1, fun b hb => ?_, f3.trans q3 f2⟩
  rcases q2 b hb with q | q
  · exact f2 b q
  · exact .inr (Nat.le_trans f3.size q)

end Go.Proofs.YtghnfnieppfhgaaGreat

namespace Go.Proofs.YtghnfnieppfhgaaGreat
open Go.RowKit Go.Shelf
set_option linter.unusedVariables false
set_option linter.unusedSimpArgs false

set_option maxRecDepth 100000 in
set_option maxHeartbeats 4000000 in
theorem value_any [Gh] {W : World} {p : Nat} {st : StM} {sl : Sl} (h : Sto W p st sl) (hz : Sz st) (v : Nat) {o : MD} (hv : st.D[v]? = some o) (hs : o.set = false) (hf : Dm.FitsR o.r) :
    Calls Tryz.prog 35 #[ptr p, .int .i64 v] W fun e w' => e = .returned (.tuple #[.agg #[.bool false, .int .i64 (onlyW o).1, .slice none 0 0], .bool (onlyW o).2]) ∧ Below W.heap.size W w' := by
  have hvl : v < st.D.length := (List.getElem?_eq_some_iff.1 hv).1
  obtain ⟨W0, hW0⟩ : ∃ Q, W.alloc (Obj.cells #[.bool false, .int .i64 0, .slice none 0 0] 57) = Q := ⟨_, rfl⟩
  have hb0 : Below W.heap.size W W0 := by rw [← hW0]; exact (Below.refl _ W).alloc (Nat.le_refl _) _
  obtain ⟨bv, hbv⟩ : ∃ q, W.heap.size = q := ⟨_, rfl⟩
  have HBV : Hid (Bx W0 bv #[.bool false, .int .i64 0, .slice none 0 0] 57) := by rw [← hW0]; exact Bx.new' hbv _ _
  have h0 := h.below hb0
  obtain ⟨n, k, m, sa, sc, ma, mc, ia, ic, da, dc, wa, wc, rfl, HL⟩ := h.look
  obtain ⟨gd, cap, c', e1, hgd, hcap, hcm, hr, hth, hco⟩ := h0.dom_at hv
  injection e1 with e1 e2 e3
  subst e1 e3
  clear e2
  have hvn : v < n := by rw [← HL.out.1]; exact hvl
  obtain ⟨b', ra', n0', rc', a1', n1', c1', a2', n2', c2', x', y', rfl, HE', H1', H2', H3'⟩ := hco.look
  obtain rfl : b' = false := by rw [← HE'.out.1, hs]
  have kt := there_any h0 hz v
  have htb : thereB st v = true := by unfold thereB; simp; exact hvl
  rw [htb] at kt
  have ko := only_w hco hs hf
  obtain ⟨z0, z1, z2, z3, z4, z5, zf⟩ := h0.cells
  simp only at z3
  obtain ⟨u0, u1, u2, u3, u4, u5⟩ := rng6 hr
  have hcapn : n ≤ dc := by rw [← HL.out.1]; exact hcap
  have hvi : (v : Int) < n := by omega
  have HW0 : Hid _ := hW0
  have HBW : Hid (W.heap.size = bv) := hbv
  have HB0 : Hid (Below W.heap.size W W0) := hb0
  clear hW0 hbv hb0 h h0 hv hs hf hr hth hco htb z0 z1 z2 z4 z5 zf hgd hcap hvl H1' H2' H3' HE' hz
  generalize onlyW o = ow at *
  obtain ⟨o1, o2⟩ := ow
  go_enter Tryz.func35, Tryz.ntmps35
  go_wp2_with fail
  rw [HW0.out]
  refine kt.mono ?_
  clear kt
  rintro e wt ⟨rfl, hwt⟩
  rw [hwt]
  clear hwt wt
  go_wp2_with fail
  (try rw [HW0.out])
  (try rw [HBW.out])
  refine ko.mono ?_
  clear ko
  rintro e w1 ⟨rfl, hb1⟩
  have HB1 : Hid (Bx w1 bv #[.bool false, .int .i64 0, .slice none 0 0] 57) := HBV.out.below hb1
  have HBb : Hid (Below W.heap.size W w1) := HB0.out.trans (hb1.mono HB0.out.size)
  clear hb1 z3 u0 u1 u2 u3 u4 u5
  go_wp2_with (with_reducible refine stV rfl (.tmp 4) (.tmp 19) rfl bv false o1 none 0 0 (by with_unfolding_all rfl) (by with_unfolding_all rfl) HB1.out rfl ?_)
  exact ⟨rfl, _, res_ct rfl _ (HB1.out.setRow _) (by with_unfolding_all rfl) rfl Tryz.underlying57 (by rw [Tryz.sizeVal]; rfl) (v := .bool o2) (by with_unfolding_all rfl), rfl, below_row HBb.out (by have := HBW.out; omega) _⟩
end Go.Proofs.YtghnfnieppfhgaaGreat
