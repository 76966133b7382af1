/-
  What is proved here: Pop, Value.
-/
import Derived.Test.YtogankopiechcaaKn
namespace Go.Proofs.Ytogankopiechcaa
open Go.RowKit Go.Shelf
set_option linter.unusedVariables false
set_option linter.unusedSimpArgs false

def popM (st : StM) (ms : List Int) (f : Nat) : StM := { foldB st (st.saved.drop f) with saved := st.saved.take f, marks := ms, why := List.replicate st.D.length 0 }

set_option maxRecDepth 100000 in
set_option maxHeartbeats 4000000 in
theorem pop_any {W : World} {p : Nat} {st : StM} {sl : Sl} (h : Sto W p st sl) (hz : Sz st) (ms : List Int) (f : Nat) (hm : st.marks = ms ++ [(f : Int)]) (hf : f < st.saved.length) (hs : st.saved.length ≤ 100000) (hval : ∀ t ∈ st.saved.drop f, 0 ≤ t.1 ∧ t.1 < st.D.length ∧ t.2.1.set = false) (hD : ∀ d ∈ st.D, d.set = false) (he : -500000 ≤ st.e) (he' : st.e ≤ 500000) :
    Calls Try.prog 14 #[ptr p] W fun e w' => e = .returned (.int .i64 0) ∧ ∃ sl', Sto w' p (popM st ms f) sl' ∧ Up (XS p sl) (XS p sl') W ∧ Kept (XS p sl) W w' := by
  have kd := depth_any h hz
  have kb := back_any h hz ms f hm hf hs hval hD he he'
  have hn0 : 0 < st.D.length := by
    have hq := hval _ (List.mem_iff_getElem?.2 ⟨0, by rw [List.getElem?_drop]; exact List.getElem?_eq_getElem hf⟩)
    omega
  have hml : st.marks.length ≠ 0 := by rw [hm]; simp
  have HFL : Hid _ := foldB_len st (st.saved.drop f)
  have hlw : (foldB st (st.saved.drop f)).why.length = st.D.length := by rw [HFL.out.2.2.2.1]; exact h.lw
  clear h hm hf hs hval hD he he'
  generalize hmm : st.marks.length = m at *
  have hne : ((m : Int) == 0) = false := by simp; omega
  clear hml hmm
  go_enter Try.func14, Try.ntmps14
  go_wp2_with fail
  refine kd.mono ?_
  clear kd
  rintro e wt ⟨rfl, hwt⟩
  rw [hwt]
  clear hwt wt
  go_wp2_with fail
  refine kb.mono ?_
  clear kb
  rintro e w1 ⟨rfl, sl1, hs1, hu1, hk1⟩
  obtain ⟨n, k, mm, sa, sc, ma, mc, ia, ic, da, dc, wa, wc, rfl, HL⟩ := hs1.look
  have hwl : 0 < ({ foldB st (st.saved.drop f) with saved := st.saved.take f, marks := ms } : StM).why.length := by show 0 < (foldB st (st.saved.drop f)).why.length; omega
  obtain ⟨gw, cap, e1, hgw, hle, hcm, _, _⟩ := hs1.why.at (i := 0) (c := [.int .i64 ((foldB st (st.saved.drop f)).why.getD 0 0)]) (by rw [ivs_get]; show ((foldB st (st.saved.drop f)).why[0]?).map _ = _; rw [List.getElem?_eq_getElem hwl]; simp [List.getD, hwl])
  injection e1 with e1 e2 e3
  subst e1 e3
  rw [ivs_len] at e2
  have hnn : n = (foldB st (st.saved.drop f)).why.length := e2
  clear e2
  have hcl := hs1.clear_why (g := gw) (cap := wc) (n := n) rfl
  have hX : XS p ⟨.slice sa k sc, .slice ma mm mc, .slice ia n ic, .slice da n dc, .slice (some ⟨gw, 0, none⟩) n wc⟩ gw := .inr (.inr (.inr (.inr (.inr rfl))))
  have hthr : ∀ i, i < n → (w1.cell? ⟨gw, 0 + i, none⟩).isSome = true ∧ w1.frozen? ⟨gw, 0 + i, none⟩ = false := by
    intro i hi
    rw [Nat.zero_add]
    have hi' : i < (foldB st (st.saved.drop f)).why.length := by omega
    obtain ⟨g, cp, q1, _, _, _, q5, q6⟩ := hs1.why.at (i := i) (c := [.int .i64 ((foldB st (st.saved.drop f)).why.getD i 0)]) (by rw [ivs_get]; show ((foldB st (st.saved.drop f)).why[i]?).map _ = _; rw [List.getElem?_eq_getElem hi']; simp [List.getD, hi'])
    injection q1 with q1 _ _
    injection q1 with q1
    injection q1 with q1 _ _
    subst q1
    rw [Nat.mul_one] at q5 q6
    exact ⟨by rw [rng_one q5]; rfl, there_one q6 (by decide)⟩
  have hclr : ∀ ty, (Builtin.clear_ #[52] ty #[.slice (some ⟨gw, 0, none⟩) n wc]).run Try.prog w1 = .ok (.tuple #[]) (w1.setCells gw 0 (List.replicate n (.int .i64 0))) := fun ty => Lib.run_clear_slice w1 52 3 ty (.int .i64 0) Try.underlying52 (fun w => Try.zeroValue3 w) rfl rfl gw 0 n wc (by omega) (fun i hi => (hthr i hi).1) (fun i hi => (hthr i hi).2)
  have HC : Hid (Sto (w1.setCells gw 0 (List.replicate n (.int .i64 0))) p (popM st ms f) ⟨.slice sa k sc, .slice ma mm mc, .slice ia n ic, .slice da n dc, .slice (some ⟨gw, 0, none⟩) n wc⟩) := by
    have e9 : ({ foldB st (st.saved.drop f) with saved := st.saved.take f, marks := ms } : StM).why.length = n := hnn.symm
    rw [e9] at hcl
    have e8 : n = st.D.length := by rw [hnn, hlw]
    rw [Hid, popM, ← e8]
    exact hcl
  have HU : Hid _ := hu1
  have HK : Hid (Kept (XS p sl) W (w1.setCells gw 0 (List.replicate n (.int .i64 0)))) := hk1.trans (Kept.setCells hX _ 0 (Kept.refl _ w1)) hu1
  obtain ⟨z0, z1, z2, z3, z4, z5, zf⟩ := hs1.cells
  simp only at z5
  obtain ⟨RR, hRR⟩ : ∃ q, List.replicate n (Value.int .i64 0) = q := ⟨_, rfl⟩
  rw [hRR] at HC HK
  simp only [hRR] at hclr
  clear hcl hthr hX hs1 hu1 hk1 hnn hlw hRR z0 z1 z2 z3 z4 zf hwl hgw hle hcm
  go_wp2
  go_ret
  exact ⟨rfl, _, HC.out, HU.out, HK.out⟩

set_option maxRecDepth 100000 in
set_option maxHeartbeats 4000000 in
theorem value_any {W : World} {p : Nat} {st : StM} {sl : Sl} (h : Sto W p st sl) (hz : Sz st) (v : Nat) {o : MD} (hv : st.D[v]? = some o) (hs : o.set = false) (hf : Dm.FitsR o.r) :
    Calls Try.prog 5 #[ptr p, .int .i64 v] W fun e w' => e = .returned (.tuple #[.agg #[.bool false, .int .i64 (onlyW o).1, .slice none 0 0], .bool (onlyW o).2]) ∧ Below W.heap.size W w' := by
  have hvl : v < st.D.length := (List.getElem?_eq_some_iff.1 hv).1
  obtain ⟨W0, hW0⟩ : ∃ Q, W.alloc (Obj.cells #[.bool false, .int .i64 0, .slice none 0 0] 31) = Q := ⟨_, rfl⟩
  have hb0 : Below W.heap.size W W0 := by rw [← hW0]; exact (Below.refl _ W).alloc (Nat.le_refl _) _
  obtain ⟨bv, hbv⟩ : ∃ q, W.heap.size = q := ⟨_, rfl⟩
  have HBV : Hid (Bx W0 bv #[.bool false, .int .i64 0, .slice none 0 0] 31) := by rw [← hW0]; exact Bx.new' hbv _ _
  have h0 := h.below hb0
  obtain ⟨n, k, m, sa, sc, ma, mc, ia, ic, da, dc, wa, wc, rfl, HL⟩ := h.look
  obtain ⟨gd, cap, c', e1, hgd, hcap, hcm, hr, hth, hco⟩ := h0.dom_at hv
  injection e1 with e1 e2 e3
  subst e1 e3
  clear e2
  have hvn : v < n := by rw [← HL.out.1]; exact hvl
  obtain ⟨b', ra', n0', rc', a1', n1', c1', a2', n2', c2', x', y', rfl, HE', H1', H2', H3'⟩ := hco.look
  obtain rfl : b' = false := by rw [← HE'.out.1, hs]
  have kt := there_any h0 hz v
  have htb : thereB st v = true := by unfold thereB; simp; exact hvl
  rw [htb] at kt
  have ko := only_w hco hs hf
  obtain ⟨z0, z1, z2, z3, z4, z5, zf⟩ := h0.cells
  simp only at z3
  obtain ⟨u0, u1, u2, u3, u4, u5⟩ := rng6 hr
  have hcapn : n ≤ dc := by rw [← HL.out.1]; exact hcap
  have hvi : (v : Int) < n := by omega
  have HW0 : Hid _ := hW0
  have HBW : Hid (W.heap.size = bv) := hbv
  have HB0 : Hid (Below W.heap.size W W0) := hb0
  clear hW0 hbv hb0 h h0 hv hs hf hr hth hco htb z0 z1 z2 z4 z5 zf hgd hcap hvl H1' H2' H3' HE' hz
  generalize onlyW o = ow at *
  obtain ⟨o1, o2⟩ := ow
  go_enter Try.func5, Try.ntmps5
  go_wp2_with fail
  rw [HW0.out]
  refine kt.mono ?_
  clear kt
  rintro e wt ⟨rfl, hwt⟩
  rw [hwt]
  clear hwt wt
  go_wp2_with fail
  (try rw [HW0.out])
  (try rw [HBW.out])
  refine ko.mono ?_
  clear ko
  rintro e w1 ⟨rfl, hb1⟩
  have HB1 : Hid (Bx w1 bv #[.bool false, .int .i64 0, .slice none 0 0] 31) := HBV.out.below hb1
  have HBb : Hid (Below W.heap.size W w1) := HB0.out.trans (hb1.mono HB0.out.size)
  clear hb1 z3 u0 u1 u2 u3 u4 u5
  go_wp2_with (with_reducible refine stV rfl (.tmp 4) (.tmp 19) rfl bv false o1 none 0 0 (by with_unfolding_all rfl) (by with_unfolding_all rfl) HB1.out rfl ?_)
  exact ⟨rfl, _, res_ct rfl _ (HB1.out.setRow _) (by with_unfolding_all rfl) rfl Try.underlying31 (by rw [Try.sizeVal]; rfl) (v := .bool o2) (by with_unfolding_all rfl), rfl, below_row HBb.out (by have := HBW.out; omega) _⟩
end Go.Proofs.Ytogankopiechcaa
