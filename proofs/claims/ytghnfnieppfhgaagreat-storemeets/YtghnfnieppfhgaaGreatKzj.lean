/-
  What is proved here: Copy, New and Narrow of domains of whole numbers, from what holds of any domain.
  What is proved here: Get.
-/
import Derived.Test.YtghnfnieppfhgaaGreatMd
import Derived.Test.YtghnfnieppfhgaaGreatMh
namespace Go.Proofs.YtghnfnieppfhgaaGreat
attribute [local instance] noG
open Go.RowKit Go.Shelf
set_option linter.unusedVariables false
set_option linter.unusedSimpArgs false

theorem copy_z {X : Nat → Prop} {W : World} {c : List Value} {d : MD} (h : Dc X W c d) (hs : d.set = false) (hlo : d.lo = []) (hup : d.up = []) (h0 : 0 < d.r.length) (hl : d.r.length ≤ 4096) :
    Calls Tryz.prog 55 #[.agg c.toArray] W fun e w' => ∃ q : List Value, e = .returned (.agg q.toArray) ∧ (∀ Z : Nat → Prop, (∀ b, Z b → b < W.heap.size) → Dc Z w' q d) ∧ Below W.heap.size W w' :=
  copy_d h hl (by rw [hlo]; simp) (by rw [hup]; simp)
theorem new_z {W : World} {s : Value} {l : List MD} (h : Ld W s l) (hl : l.length ≤ 1000) (hok : ∀ d ∈ l, d.set = false ∧ Dm.FitsR d.r ∧ rightW d = true) :
    Calls Tryz.prog 8 #[s] W fun e w' => ∃ p sl, e = .returned (.tuple #[ptr p, .int .i64 0]) ∧ Sto w' p (newM l) sl ∧ (∀ b, XS p sl b → W.heap.size ≤ b) ∧ Below W.heap.size W w' := by
  have k := new_ok h (fun b q => (q : False).elim) hl (fun d hd => ⟨(hok d hd).2.1, by rw [rightM, if_neg (by rw [(hok d hd).1]; exact Bool.false_ne_true)]; exact (hok d hd).2.2⟩)
  have e : newA l = newM l := by
    unfold newA newM
    rw [List.map_congr_left (g := fun d => bothW d d) fun d hd => by simp only [bothA, (hok d hd).1]; rfl,
      List.map_congr_left (g := fun d => emptI (emptyW d)) fun d hd => by simp only [emptyA, (hok d hd).1]; rfl]
  rw [e] at k
  exact k.mono fun e w' q => by
    obtain ⟨p, sl, q1, q2, q3, q4⟩ := q
    exact ⟨p, sl, q1, q2, (fun b hb => q3 b (xs_no hb)), q4⟩
theorem narrow_z {W : World} {p : Nat} {st : StM} {sl : Sl} {c : List Value} {d o : MD} (h : Sto W p st sl) (hc : Dc (XS p sl) W c d) (v : Nat) (hv : st.D[v]? = some o) (hs : d.set = false) (hs' : o.set = false) (hf : Dm.FitsR d.r) (hf' : Dm.FitsR o.r) (hfx : Dm.FitsR (bothW o d).r) (hR : rightW d = true) (he : st.e = 0) (ho : emptyW o = false) (hz : Sz st) (hzs : st.saved.length < 10000000)
    (hns : ¬ Dm.tk o.r = Dm.tk (bothW o d).r) (chg : Int) (kch : emptyW (bothW o d) = false → ∀ (X Y : Nat → Prop) (w : World) (k k' : List Value), Dc X w k o → Dc Y w k' (bothW o d) → Calls Tryz.prog 54 #[.agg k.toArray, .agg k'.toArray] w fun e w' => e = .returned (.int .i64 chg) ∧ Below w.heap.size w w') :
    Calls Tryz.prog 14 #[ptr p, .int .i64 v, .agg c.toArray] W fun e w' => e = .returned (.tuple #[.int .i64 (if emptyW (bothW o d) then 2 else 1), .int .i64 0]) ∧ ∃ sl', Sto w' p (narrowM st v o (bothW o d) chg) sl' ∧ Up (XS p sl) (XS p sl') W ∧ Kept (XS p sl) W w' := by
  have e1 : bothA o d = bothW o d := by simp only [bothA, hs']; rfl
  have e2 : emptyA (bothW o d) = emptyW (bothW o d) := rfl
  have e3 : emptyA o = emptyW o := by simp only [emptyA, hs']; rfl
  have e4 : sameA o (bothW o d) = false := by simp only [sameA, hs']; exact decide_eq_false hns
  have e5 : narrowA st v o (bothW o d) chg = narrowM st v o (bothW o d) chg := by simp only [narrowA, narrowM, putA, putM, e2, e3]
  have k := narrow_ch_n h hc v hv hs hs' hf hf' (by rw [e1]; exact hfx) (by rw [rightM, if_neg (by rw [hs]; exact Bool.false_ne_true)]; exact hR) he (by rw [e3]; exact ho) hz hzs (by rw [e1]; exact e4) chg (by rw [e1]; exact kch)
  rw [e1, e2, e5] at k
  exact k
end Go.Proofs.YtghnfnieppfhgaaGreat

namespace Go.Proofs.YtghnfnieppfhgaaGreat
open Go.RowKit Go.Shelf
set_option linter.unusedVariables false
set_option linter.unusedSimpArgs false

set_option maxRecDepth 100000 in
set_option maxHeartbeats 4000000 in
theorem get_any [Gh] {W : World} {p : Nat} {st : StM} {sl : Sl} (h : Sto W p st sl) (hz : Sz st) (v : Nat) {o : MD} (hv : st.D[v]? = some o) (hs : o.set = false) (hlo : o.lo = []) (hup : o.up = []) (h0 : 0 < o.r.length) (hl : o.r.length ≤ 4096) :
    Calls Tryz.prog 36 #[ptr p, .int .i64 v] W fun e w' => ∃ q : List Value, e = .returned (.tuple #[.agg q.toArray, .int .i64 0]) ∧ (∀ Z : Nat → Prop, (∀ b, Z b → b < W.heap.size) → Dc Z w' q o) ∧ Below W.heap.size W w' := by
  have hvl : v < st.D.length := (List.getElem?_eq_some_iff.1 hv).1
  obtain ⟨W0, hW0⟩ : ∃ Q, W.alloc (Obj.cells #[.bool false, .slice none 0 0, .slice none 0 0, .slice none 0 0, .int .i64 0, .int .i64 0] 37) = Q := ⟨_, rfl⟩
  have hb0 : Below W.heap.size W W0 := by rw [← hW0]; exact (Below.refl _ W).alloc (Nat.le_refl _) _
  obtain ⟨bv, hbv⟩ : ∃ q, W.heap.size = q := ⟨_, rfl⟩
  have HBV : Hid (Bx W0 bv #[.bool false, .slice none 0 0, .slice none 0 0, .slice none 0 0, .int .i64 0, .int .i64 0] 37) := by rw [← hW0]; exact Bx.new' hbv _ _
  have hst := h.below hb0
  obtain ⟨n, k, m, sa, sc, ma, mc, ia, ic, da, dc, wa, wc, rfl, HL⟩ := h.look
  obtain ⟨gd, cap, c', e1, hgd, hcap, hcm, hr, hth, hco⟩ := hst.dom_at hv
  injection e1 with e1 e2 e3
  subst e1 e3
  clear e2
  have hvn : v < n := by rw [← HL.out.1]; exact hvl
  have kc := copy_z hco hs hlo hup h0 hl
  obtain ⟨b', ra', n0', rc', a1', n1', c1', a2', n2', c2', x', y', rfl, HE', H1', H2', H3'⟩ := hco.look
  obtain rfl : b' = false := by rw [← HE'.out.1, hs]
  have kt := there_any hst hz v
  have htb : thereB st v = true := by unfold thereB; simp; exact hvl
  rw [htb] at kt
  obtain ⟨z0, z1, z2, z3, z4, z5, zf⟩ := hst.cells
  simp only at z3
  obtain ⟨u0, u1, u2, u3, u4, u5⟩ := rng6 hr
  have hcapn : n ≤ dc := by rw [← HL.out.1]; exact hcap
  have hvi : (v : Int) < n := by omega
  have HW0 : Hid _ := hW0
  have HBW : Hid (W.heap.size = bv) := hbv
  have HB0 : Hid (Below W.heap.size W W0) := hb0
  clear hW0 hbv hb0 h hst hv hs hr hth hco htb z0 z1 z2 z4 z5 zf hgd hcap hvl H1' H2' H3' HE' hz hlo hup h0 hl
  go_enter Tryz.func36, Tryz.ntmps36
  go_wp2_with fail
  rw [HW0.out]
  refine kt.mono ?_
  clear kt
  rintro e wt ⟨rfl, hwt⟩
  rw [hwt]
  clear hwt wt
  go_wp2_with fail
  (try rw [HW0.out])
  (try rw [HBW.out])
  refine kc.mono ?_
  clear kc
  rintro e w1 ⟨q, rfl, hq, hb1⟩
  have HQ : Hid _ := hq
  have HB1 : Hid (Bx w1 bv #[.bool false, .slice none 0 0, .slice none 0 0, .slice none 0 0, .int .i64 0, .int .i64 0] 37) := HBV.out.below hb1
  have HBb : Hid (Below W.heap.size W w1) := HB0.out.trans (hb1.mono HB0.out.size)
  have HDc : Hid (Dc (fun b => b < W0.heap.size) w1 q o) := hq _ (fun b q => q)
  clear hb1 z3 u0 u1 u2 u3 u4 u5 hq
  go_wp2_with (with_reducible refine stD rfl (.tmp 4) (.tmp 23) rfl bv q (by with_unfolding_all rfl) (by with_unfolding_all rfl) HB1.out rfl HDc.out.len HDc.out.one ?_)
  refine ⟨rfl, _, res_ct rfl _ (HB1.out.setRow _) (by with_unfolding_all rfl) rfl Tryz.underlying37 (by rw [Tryz.sizeDom]; simp [HDc.out.len]) (v := .int .i64 0) (by with_unfolding_all rfl), q, rfl, fun Z hZ => ?_, below_row HBb.out (by have := HBW.out; omega) _⟩
  refine (HDc.out.kept (w' := w1.setRow bv q.toArray) ⟨rfl, rfl, rfl, by simp [World.setRow], fun b _ hb => setRow_other _ _ b _ (fun e => hb (by rw [e]; exact HBV.out.lt))⟩).up (fun b hb => .inl (Nat.lt_of_lt_of_le (hZ b hb) HB0.out.size))
end Go.Proofs.YtghnfnieppfhgaaGreat
