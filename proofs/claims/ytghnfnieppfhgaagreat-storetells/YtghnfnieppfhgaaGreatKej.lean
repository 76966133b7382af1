/-
  What is proved here: what package store makes of domains of whole numbers: narrower, tight, Same, Only.
  What is proved here: what a store answers of itself: Len, there, Failed, depth; tell.
  What is proved here: One of two domains of whole numbers that are alike; SameVal of none.
  What is proved here: what a store that is not there answers.
-/
import Derived.Test.YtghnfnieppfhgaaGreatKbj
namespace Go.Proofs.YtghnfnieppfhgaaGreat
open Go.RowKit Go.Shelf
set_option linter.unusedVariables false
set_option linter.unusedSimpArgs false

set_option maxRecDepth 100000 in
set_option maxHeartbeats 4000000 in
theorem narrower_w {X : Nat → Prop} {W : World} {c : List Value} {d : MD} (h : Dc X W c d) (hs : d.set = false) :
    Calls Tryz.prog 49 #[.agg c.toArray] W fun e w' => e = .returned (.func (.func 74) #[.agg c.toArray] #[]) ∧ Below W.heap.size W w' := by
  obtain ⟨b, ra, n0, rc, a1, n1, c1, a2, n2, c2, x, y, rfl, HE, H1, H2, H3⟩ := h.look
  clear h
  obtain rfl : b = false := by rw [← HE.out.1, hs]
  clear H1 H2 H3 HE hs
  go_enter Tryz.func49, Tryz.ntmps49
  go_wp2
  go_ret
  exact ⟨rfl, (Below.refl _ W).alloc (Nat.le_refl _) _⟩

set_option maxRecDepth 100000 in
set_option maxHeartbeats 4000000 in
theorem same_w {X Y : Nat → Prop} {W : World} {c k : List Value} {d o : MD} (h : Dc X W c d) (h' : Dc Y W k o) (hs : d.set = false) (hs' : o.set = false) (hf : Dm.FitsR d.r) (hf' : Dm.FitsR o.r) :
    Calls Tryz.prog 50 #[.agg c.toArray, .agg k.toArray] W fun e w' => e = .returned (.bool (decide (Dm.tk d.r = Dm.tk o.r))) ∧ Below W.heap.size W w' := by
  obtain ⟨b, ra, n0, rc, a1, n1, c1, a2, n2, c2, x, y, rfl, HE, H1, H2, H3⟩ := h.look
  clear h
  obtain rfl : b = false := by rw [← HE.out.1, hs]
  obtain ⟨b', ra', n0', rc', a1', n1', c1', a2', n2', c2', x', y', rfl, HE', H1', H2', H3'⟩ := h'.look
  clear h'
  obtain rfl : b' = false := by rw [← HE'.out.1, hs']
  obtain ⟨W0, hW0⟩ : ∃ Q, (W.alloc (Obj.cells #[.bool false, .slice ra n0 rc, .slice a1 n1 c1, .slice a2 n2 c2, .int .i64 x, .int .i64 y] 37)).alloc (Obj.cells #[.bool false, .slice ra' n0' rc', .slice a1' n1' c1', .slice a2' n2' c2', .int .i64 x', .int .i64 y'] 37) = Q := ⟨_, rfl⟩
  have hb0 : Below W.heap.size W W0 := by rw [← hW0]; exact (((Below.refl _ W).alloc (Nat.le_refl _) _).alloc (by simp) _)
  have kb := Dm.domsame_any _ _ _ _ _ (H1.out.kept (Kept.of_below hb0)).sr (H1'.out.kept (Kept.of_below hb0)).sr hf hf'
  have HW0 : Hid _ := hW0
  clear hW0 H1 H1' H2 H2' H3 H3' HE HE' hs hs' hf hf'
  go_enter Tryz.func50, Tryz.ntmps50
  go_wp2_with fail
  rw [HW0.out]
  refine kb.mono ?_
  clear kb
  rintro e w1 ⟨t, rfl, ht, hb1⟩
  have HT : Hid _ := ht
  clear ht
  go_wp2
  go_ret
  exact ⟨ret_bool (by rw [Bool.eq_iff_iff, HT.out]; simp), hb0.trans (hb1.mono hb0.size)⟩
theorem Tryz.sizeVal : (Tryz.prog.info? 57).map (·.size) = some 3 := by kernel_rfl
theorem res_ct {fn : Func} {p q : Tmp} {ty : TypeId} (h : fn.results = #[.cell p ty, .tmp q]) (tmps : Array Value) {w : World} {g : Nat} {cs : Array Value} {d : TypeDesc} {t : TypeId} (hg : Bx w g cs t) (hp : tmps.getD p undef = .pointer (some ⟨g, 0, none⟩))
    (hd : d.isRow = true) (hu : Tryz.prog.underlying ty = some d) (hi : (Tryz.prog.info? ty).map (·.size) = some cs.size) {v : Value} (hv : tmps.getD q undef = v) :
    (results fn tmps).run Tryz.prog w = .ok (.tuple #[.agg cs, v]) w := by
  have hp' : tmps[p]?.getD undef = .pointer (some ⟨g, 0, none⟩) := by simpa using hp
  have hv' : tmps[q]?.getD undef = v := by simpa using hv
  have hl := run_loadVar_mid (P := Tryz.prog) w g 0 ty cs.toList d (fun j v hv => by rw [Nat.zero_add, hg.cell j]; simpa using hv) hu hd (by simpa using hi)
  simp [results, h, hp', hv', asAddr, hl]
theorem stV {ops : Array Oper} {rest : List Oper} {o : Oper} {a : Act} {w : World} {Q : Exit → Act → World → Prop} {old : Array Value} (hgd : o.guard = none) (x y : Operand) (ho : o.op = .store 57 x y)
    (g : Nat) (b : Bool) (n : Int) (sp : Option Addr) (sn sc : Nat) (hx : a.eval x = .pointer (some ⟨g, 0, none⟩)) (hy : a.eval y = .agg #[.bool b, .int .i64 n, .slice sp sn sc]) (hg : Bx w g old 57) (hold : old.size = 3)
    (h : wpList Tryz.prog ops Q rest (a.put o.dst undef) (w.setRow g #[.bool b, .int .i64 n, .slice sp sn sc])) : wpList Tryz.prog ops Q (o :: rest) a w :=
  wpList_store_row hgd 57 x y ho g _ hx hy 57 _ hg.h (by rw [Tryz.sizeVal]; rfl) (by simp [hold]) (all_oneCell_toArray (cs := [.bool b, .int .i64 n, .slice sp sn sc]) (by intro v hv; simp only [List.mem_cons, List.not_mem_nil, or_false] at hv; rcases hv with rfl | rfl | rfl <;> rfl)) h
/-- The only value. -/
def onlyW (d : MD) : Int × Bool := if Dm.sizeR (Dm.tk d.r) = 1 then (Dm.lo d.r 0, true) else (0, false)

set_option maxRecDepth 100000 in
set_option maxHeartbeats 4000000 in
theorem only_w {X : Nat → Prop} {W : World} {c : List Value} {d : MD} (h : Dc X W c d) (hs : d.set = false) (hf : Dm.FitsR d.r) :
    Calls Tryz.prog 70 #[.agg c.toArray] W fun e w' => e = .returned (.tuple #[.agg #[.bool false, .int .i64 (onlyW d).1, .slice none 0 0], .bool (onlyW d).2]) ∧ Below W.heap.size W w' := by
  obtain ⟨b, ra, n0, rc, a1, n1, c1, a2, n2, c2, x, y, rfl, HE, H1, H2, H3⟩ := h.look
  clear h
  obtain rfl : b = false := by rw [← HE.out.1, hs]
  obtain ⟨W0, hW0⟩ : ∃ Q, (W.alloc (Obj.cells #[.bool false, .slice ra n0 rc, .slice a1 n1 c1, .slice a2 n2 c2, .int .i64 x, .int .i64 y] 37)).alloc (Obj.cells #[.bool false, .int .i64 0, .slice none 0 0] 57) = Q := ⟨_, rfl⟩
  have hb0 : Below W.heap.size W W0 := by rw [← hW0]; exact (((Below.refl _ W).alloc (Nat.le_refl _) _).alloc (by simp) _)
  have HB0 : Hid (Bx W0 W.heap.size #[.bool false, .slice ra n0 rc, .slice a1 n1 c1, .slice a2 n2 c2, .int .i64 x, .int .i64 y] 37) := by rw [← hW0]; exact (Bx.new _ _ _).alloc _
  have HV0 : Hid (Bx W0 (W.heap.size + 1) #[.bool false, .int .i64 0, .slice none 0 0] 57) := by rw [← hW0]; exact Bx.new' (by simp) _ _
  have kb := Dm.domsize_any _ _ _ (H1.out.kept (Kept.of_below hb0)).sr hf
  have HW0 : Hid _ := hW0
  obtain ⟨sz, hsz⟩ : ∃ z, Dm.sizeR (Dm.tk d.r) = z := ⟨_, rfl⟩
  have HO : Hid (onlyW d = if sz = 1 then (Dm.lo d.r 0, true) else (0, false)) := by rw [← hsz]; exact rfl
  rw [hsz] at kb
  by_cases h1 : sz = 1
  · subst h1
    have hR : 0 < d.r.length := by
      rcases Nat.eq_zero_or_pos d.r.length with e | e
      · have e0 : d.r = [] := List.length_eq_zero_iff.1 e
        rw [e0] at hsz
        have : Dm.sizeR (Dm.tk []) = 0 := by rw [Dm.tk_yes Dm.right_nil]; rfl
        omega
      · exact e
    obtain ⟨a, cp, he, hcell⟩ := (H1.out.kept (Kept.of_below hb0)).sr
    injection he with he1 he2 he3
    subst he1 he3
    obtain ⟨bb, off, rfl, hlt, hc⟩ := hcell hR
    have hc0 := (hc 0 hR).1
    have hc1 : W0.cell? ⟨bb, off, none⟩ = some (.int .i64 (Dm.lo d.r 0)) := by simpa using hc0
    have HC0 : Hid (W0.cell? ⟨bb, off, none⟩ = some (.int .i64 (Dm.lo d.r 0))) := hc1
    clear hc1
    have hn0 : 0 < n0 := by omega
    have hcp : True := trivial
    clear hW0 hc hc0 hcell he2 hsz H2 H3 hs hf
    go_enter Tryz.func70, Tryz.ntmps70
    go_wp2_with fail
    rw [HW0.out]
    refine kb.mono ?_
    clear kb
    rintro e w1 ⟨rfl, hb1⟩
    have HB1 : Hid (Bx w1 W.heap.size _ _) := HB0.out.below hb1
    have HV1 : Hid (Bx w1 (W.heap.size + 1) _ _) := HV0.out.below hb1
    have hcc : w1.cell? ⟨bb, off, none⟩ = some (.int .i64 (Dm.lo d.r 0)) := (hb1.cell (p := ⟨bb, off, none⟩) hlt).trans HC0.out
    obtain ⟨z0, z1, z2, z3, z4, z5⟩ := HB1.out.six
    have hb2 : Below W.heap.size W w1 := hb0.trans (hb1.mono hb0.size)
    go_wp2_with (with_reducible refine stV rfl (.tmp 2) (.tmp 27) rfl (W.heap.size + 1) false (Dm.lo d.r 0) none 0 0 (by with_unfolding_all rfl) (by with_unfolding_all rfl) HV1.out rfl ?_)
    refine ⟨rfl, _, res_ct rfl _ (HV1.out.setRow _) (by with_unfolding_all rfl) rfl Tryz.underlying57 (by rw [Tryz.sizeVal]; rfl) (v := .bool true) (by with_unfolding_all rfl), ?_, below_row hb2 (by omega) _⟩
    rw [HO.out]; rfl
  · have HN1 : Hid (sz ≠ 1) := h1
    have hne : (sz != 1) = true := by simpa using h1
    clear hW0 hsz H1 H2 H3 hs hf HE
    go_enter Tryz.func70, Tryz.ntmps70
    go_wp2_with fail
    rw [HW0.out]
    refine kb.mono ?_
    clear kb
    rintro e w1 ⟨rfl, hb1⟩
    have HV1 : Hid (Bx w1 (W.heap.size + 1) _ _) := HV0.out.below hb1
    have hb2 : Below W.heap.size W w1 := hb0.trans (hb1.mono hb0.size)
    go_wp2_with (with_reducible refine stV rfl (.tmp 2) (.tmp 21) rfl (W.heap.size + 1) false 0 none 0 0 (by with_unfolding_all rfl) (by with_unfolding_all rfl) HV1.out rfl ?_)
    refine ⟨rfl, _, res_ct rfl _ (HV1.out.setRow _) (by with_unfolding_all rfl) rfl Tryz.underlying57 (by rw [Tryz.sizeVal]; rfl) (v := .bool false) (by with_unfolding_all rfl), ?_, below_row hb2 (by omega) _⟩
    rw [HO.out, if_neg HN1.out]
end Go.Proofs.YtghnfnieppfhgaaGreat

namespace Go.Proofs.YtghnfnieppfhgaaGreat
open Go.RowKit Go.Shelf
set_option linter.unusedVariables false
set_option linter.unusedSimpArgs false

/-- A store's block, its slices opened. -/
theorem Sto.open {w : World} {p : Nat} {st : StM} {sl : Sl} (h : Sto w p st sl) (hn : st.D.length ≤ 1000) (hm : st.marks.length ≤ 1000000) (hk : st.saved.length ≤ 100000000) : ∃ sa sc ma mc ia ic da dc wa wc,
    sl = ⟨.slice sa st.saved.length sc, .slice ma st.marks.length mc, .slice ia st.D.length ic, .slice da st.D.length dc, .slice wa st.D.length wc⟩ := by
  obtain ⟨cs, hd, hdr⟩ := h.doms
  obtain ⟨ks, hs, hkr⟩ := h.saved
  obtain ⟨sa, sc, e1, _⟩ := hs.shape
  obtain ⟨ma, mc, e2, _⟩ := h.marks.shape
  obtain ⟨ia, ic, e3, _⟩ := h.since.shape
  obtain ⟨da, dc, e4, _⟩ := hd.shape
  obtain ⟨wa, wc, e5, _⟩ := h.why.shape
  rw [hkr.1] at e1
  rw [ivs_len] at e2 e3 e5
  rw [h.ls] at e3
  rw [h.lw] at e5
  rw [hdr.1] at e4
  obtain ⟨s1, s2, s3, s4, s5⟩ := sl
  simp only at e1 e2 e3 e4 e5
  subst e1 e2 e3 e4 e5
  exact ⟨_, _, _, _, _, _, _, _, _, _, rfl⟩
/-- The same with its numbers under names. -/
theorem Sto.look {w : World} {p : Nat} {st : StM} {sl : Sl} (h : Sto w p st sl) : ∃ n k m sa sc ma mc ia ic da dc wa wc, sl = ⟨.slice sa k sc, .slice ma m mc, .slice ia n ic, .slice da n dc, .slice wa n wc⟩ ∧ Hid (st.D.length = n ∧ st.saved.length = k ∧ st.marks.length = m) := by
  obtain ⟨cs, hd, hdr⟩ := h.doms
  obtain ⟨ks, hs, hkr⟩ := h.saved
  obtain ⟨sa, sc, e1, _⟩ := hs.shape
  obtain ⟨ma, mc, e2, _⟩ := h.marks.shape
  obtain ⟨ia, ic, e3, _⟩ := h.since.shape
  obtain ⟨da, dc, e4, _⟩ := hd.shape
  obtain ⟨wa, wc, e5, _⟩ := h.why.shape
  rw [hkr.1] at e1
  rw [ivs_len] at e2 e3 e5
  rw [h.ls] at e3
  rw [h.lw] at e5
  rw [hdr.1] at e4
  obtain ⟨s1, s2, s3, s4, s5⟩ := sl
  simp only at e1 e2 e3 e4 e5
  subst e1 e2 e3 e4 e5
  exact ⟨_, _, _, _, _, _, _, _, _, _, _, _, _, rfl, rfl, rfl, rfl⟩
theorem Rw.look {w : World} {t : TypeId} {s : Value} {k : Nat} {vs : List (List Value)} (h : Rw w t s k vs) : ∃ a q c, s = .slice a q c ∧ Hid (vs.length = q) ∧ q ≤ c ∧ c ≤ 9223372036854775807 := by
  obtain ⟨a, c, e, h1, h2⟩ := h.shape
  unfold maxLen at h2
  exact ⟨a, _, c, e, rfl, h1, by omega⟩
/-- The bounds that hold of a store. -/
def Sz (st : StM) : Prop := st.D.length ≤ 1000 ∧ st.marks.length ≤ 1000000 ∧ st.saved.length ≤ 100000000
abbrev ptr (p : Nat) : Value := .pointer (some ⟨p, 0, none⟩)

set_option maxRecDepth 100000 in
set_option maxHeartbeats 4000000 in
theorem len_any {W : World} {p : Nat} {st : StM} {sl : Sl} (h : Sto W p st sl) (hz : Sz st) : Calls Tryz.prog 43 #[ptr p] W fun e w' => e = .returned (.int .i64 st.D.length) ∧ w' = W := by
  obtain ⟨sa, sc, ma, mc, ia, ic, da, dc, wa, wc, rfl⟩ := h.open hz.1 hz.2.1 hz.2.2
  obtain ⟨z0, z1, z2, z3, z4, z5, zf⟩ := h.cells
  simp only at z3
  clear h z0 z1 z2 z4 z5 zf hz
  generalize st.D.length = n at *
  go_enter Tryz.func43, Tryz.ntmps43
  go_wp2
  go_ret
  exact ⟨rfl, rfl⟩
def thereB (st : StM) (v : Int) : Bool := decide (0 ≤ v) && decide (v < st.D.length)

set_option maxRecDepth 100000 in
set_option maxHeartbeats 4000000 in
theorem there_any {W : World} {p : Nat} {st : StM} {sl : Sl} (h : Sto W p st sl) (hz : Sz st) (v : Int) : Calls Tryz.prog 48 #[ptr p, .int .i64 v] W fun e w' => e = .returned (.bool (thereB st v)) ∧ w' = W := by
  have kl := len_any h hz
  have hM : thereB st v = (decide (0 ≤ v) && decide (v < st.D.length)) := rfl
  rw [hM]
  clear hM h hz
  generalize st.D.length = n at *
  by_cases h0 : 0 ≤ v
  · have hd : decide (0 ≤ v) = true := by simpa using h0
    go_enter Tryz.func48, Tryz.ntmps48
    go_wp2_with (go_at_call 43; refine kl.mono ?_; rintro e w1 ⟨rfl, rfl⟩)
    go_ret
    exact ⟨ret_bool (by simp [h0]), rfl⟩
  · have hd : decide (0 ≤ v) = false := by simpa using h0
    go_enter Tryz.func48, Tryz.ntmps48
    go_wp2
    go_ret
    exact ⟨ret_bool (by simp [hd]), rfl⟩

set_option maxRecDepth 100000 in
set_option maxHeartbeats 4000000 in
theorem failed_any {W : World} {p : Nat} {st : StM} {sl : Sl} (h : Sto W p st sl) : Calls Tryz.prog 16 #[ptr p] W fun e w' => e = .returned (.bool (decide (0 < st.e))) ∧ w' = W := by
  obtain ⟨z0, z1, z2, z3, z4, z5, zf⟩ := h.cells
  clear h z0 z1 z2 z3 z5 zf
  generalize st.e = n at *
  go_enter Tryz.func16, Tryz.ntmps16
  go_wp2
  go_ret
  exact ⟨rfl, rfl⟩

set_option maxRecDepth 100000 in
set_option maxHeartbeats 4000000 in
theorem depth_any {W : World} {p : Nat} {st : StM} {sl : Sl} (h : Sto W p st sl) (hz : Sz st) : Calls Tryz.prog 56 #[ptr p] W fun e w' => e = .returned (.int .i64 st.marks.length) ∧ w' = W := by
  obtain ⟨sa, sc, ma, mc, ia, ic, da, dc, wa, wc, rfl⟩ := h.open hz.1 hz.2.1 hz.2.2
  obtain ⟨z0, z1, z2, z3, z4, z5, zf⟩ := h.cells
  simp only at z1
  clear h z0 z2 z3 z4 z5 zf hz
  generalize st.marks.length = n at *
  go_enter Tryz.func56, Tryz.ntmps56
  go_wp2
  go_ret
  exact ⟨rfl, rfl⟩
/-- What happened, the strongest of it. -/
def tellM (l : List Int) (v : Nat) (y : Int) : List Int := if l.getD v 0 = 0 ∨ y < l.getD v 0 then l.set v y else l

set_option maxRecDepth 100000 in
set_option maxHeartbeats 4000000 in
theorem tell_any {W : World} {p : Nat} {st : StM} {sl : Sl} (h : Sto W p st sl) (hz : Sz st) (v : Nat) (hv : v < st.D.length) (y : Int) : Calls Tryz.prog 53 #[ptr p, .int .i64 v, .int .i64 y] W fun e w' => e = .returned (.tuple #[]) ∧ Sto w' p { st with why := tellM st.why v y } sl ∧ Kept (XS p sl) W w' := by
  have hvw : v < st.why.length := by rw [h.lw]; exact hv
  obtain ⟨g, cap, hs, hg, hle, hcm, hr, hth⟩ := h.why.at (i := v) (c := [.int .i64 (st.why.getD v 0)]) (by rw [ivs_get, List.getElem?_eq_getElem hvw]; simp [List.getD, hvw])
  rw [Nat.mul_one] at hr hth
  have hc := rng_one hr
  have hfz := there_one hth (by decide)
  rw [ivs_len] at hs hle
  have hset := h.set_why hvw hs y
  have hX : XS p sl g := .inr (.inr (.inr (.inr (.inr (by rw [hs]; rfl)))))
  obtain ⟨z0, z1, z2, z3, z4, z5, zf⟩ := h.cells
  rw [hs] at z5
  have HS : Hid (Sto _ _ _ _) := hset
  have H0 : Hid (Sto W p st sl) := h
  have hM : tellM st.why v y = if st.why.getD v 0 = 0 ∨ y < st.why.getD v 0 then st.why.set v y else st.why := rfl
  have HM : Hid _ := hM
  have hln : st.why.length ≤ 1000 := by rw [h.lw]; exact hz.1
  generalize tellM st.why v y = T at hM HM ⊢
  clear hM hset h hz hr hth z0 z1 z2 z3 z4 zf hv
  generalize hq : st.why.getD v 0 = q at *
  generalize hn : st.why.length = n at *
  have HQ : Hid _ := hq
  have HN : Hid _ := hn
  clear hq hn
  unfold maxLen at hcm
  by_cases h1 : q = 0
  · subst h1
    go_enter Tryz.func53, Tryz.ntmps53
    go_wp2
    refine ⟨rfl, _, results_none rfl _ _ _, rfl, ?_, (Kept.refl _ W).setCell hX _ _⟩
    rw [HM.out, if_pos (by simp)]
    exact HS.out
  · by_cases h2 : y < q
    · go_enter Tryz.func53, Tryz.ntmps53
      go_wp2
      refine ⟨rfl, _, results_none rfl _ _ _, rfl, ?_, (Kept.refl _ W).setCell hX _ _⟩
      rw [HM.out, if_pos (.inr h2)]
      exact HS.out
    · go_enter Tryz.func53, Tryz.ntmps53
      go_wp2
      refine ⟨rfl, _, results_none rfl _ _ _, rfl, ?_, Kept.refl _ W⟩
      rw [HM.out, if_neg (by omega)]
      exact H0.out
end Go.Proofs.YtghnfnieppfhgaaGreat

namespace Go.Proofs.YtghnfnieppfhgaaGreat
open Go.RowKit Go.Shelf
set_option linter.unusedVariables false
set_option linter.unusedSimpArgs false

set_option maxRecDepth 100000 in
set_option maxHeartbeats 4000000 in
theorem same0 (a b : Option Addr) (c d : Nat) (W : World) : Calls Tryz.prog 63 #[.slice a 0 c, .slice b 0 d] W fun e w' => e = .returned (.bool true) ∧ w' = W := by
  go_enter Tryz.func63, Tryz.ntmps63
  go_wp2
  go_loop [5] (fun i => i = .int .i64 0) (fun _ => 0)
  case atStart => rfl
  case round =>
    obtain rfl := hrel
    go_wp2
    go_ret
    exact ⟨rfl, rfl⟩

set_option maxRecDepth 100000 in
set_option maxHeartbeats 4000000 in
theorem one_eq {X Y : Nat → Prop} {W : World} {c k : List Value} {d o : MD} (h : Dc X W c d) (h' : Dc Y W k o) (hs : d.set = false) (hs' : o.set = false) (hlo : d.lo = [] ∧ d.up = [] ∧ o.lo = [] ∧ o.up = []) (hlm : d.least = o.least ∧ d.most = o.most) (hr : d.r = o.r) (hl : d.r.length ≤ 100000) :
    Calls Tryz.prog 25 #[.agg c.toArray, .agg k.toArray] W fun e w' => e = .returned (.bool true) ∧ Below W.heap.size W w' := by
  obtain ⟨b, ra, n0, rc, a1, n1, c1, a2, n2, c2, x, y, rfl, HE, H1, H2, H3⟩ := h.look
  obtain ⟨b', ra', n0', rc', a1', n1', c1', a2', n2', c2', x', y', rfl, HE', H1', H2', H3'⟩ := h'.look
  obtain rfl : b = false := by rw [← HE.out.1, hs]
  obtain rfl : b' = false := by rw [← HE'.out.1, hs']
  obtain rfl : n1 = 0 := by rw [← HE.out.2.2.1, hlo.1]; rfl
  obtain rfl : n2 = 0 := by rw [← HE.out.2.2.2.1, hlo.2.1]; rfl
  obtain rfl : n1' = 0 := by rw [← HE'.out.2.2.1, hlo.2.2.1]; rfl
  obtain rfl : n2' = 0 := by rw [← HE'.out.2.2.2.1, hlo.2.2.2]; rfl
  obtain rfl : x' = x := by rw [← HE.out.2.2.2.2.1, ← HE'.out.2.2.2.2.1, hlm.1]
  obtain rfl : y' = y := by rw [← HE.out.2.2.2.2.2, ← HE'.out.2.2.2.2.2, hlm.2]
  obtain rfl : n0' = n0 := by rw [← HE.out.2.1, ← HE'.out.2.1, hr]
  obtain ⟨W0, hW0⟩ : ∃ Q, (W.alloc (Obj.cells #[.bool false, .slice ra n0' rc, .slice a1 0 c1, .slice a2 0 c2, .int .i64 x', .int .i64 y'] 37)).alloc (Obj.cells #[.bool false, .slice ra' n0' rc', .slice a1' 0 c1', .slice a2' 0 c2', .int .i64 x', .int .i64 y'] 37) = Q := ⟨_, rfl⟩
  have hb0 : Below W.heap.size W W0 := by rw [← hW0]; exact (((Below.refl _ W).alloc (Nat.le_refl _) _).alloc (by simp) _)
  obtain ⟨bw, hbw⟩ : ∃ q, W.heap.size = q := ⟨_, rfl⟩
  have HBX : Hid (Bx W0 bw #[.bool false, .slice ra n0' rc, .slice a1 0 c1, .slice a2 0 c2, .int .i64 x', .int .i64 y'] 37) := by rw [← hW0]; exact (Bx.new' hbw _ _).alloc _
  have HBY : Hid (Bx W0 (bw + 1) #[.bool false, .slice ra' n0' rc', .slice a1' 0 c1', .slice a2' 0 c2', .int .i64 x', .int .i64 y'] 37) := by rw [← hW0]; exact Bx.new' (by simp [hbw]) _ _
  have HR1 : Hid (Rm X W0 (.slice ra n0' rc) d.r) := H1.out.kept (Kept.of_below hb0)
  have HR2 : Hid (Rm Y W0 (.slice ra' n0' rc') d.r) := by rw [hr]; exact H1'.out.kept (Kept.of_below hb0)
  have HN : Hid (d.r.length = n0') := HE.out.2.1
  have hn : n0' ≤ 100000 := by rw [← HN.out]; exact hl
  have HW0 : Hid _ := hW0
  have HBW : Hid (W.heap.size = bw) := hbw
  have ks1 := same0 a1 a1' c1 c1'
  have ks2 := same0 a2 a2' c2 c2'
  obtain ⟨y0, y1, y2, y3, y4, y5⟩ := HBX.out.six
  obtain ⟨u0, u1, u2, u3, u4, u5⟩ := HBY.out.six
  clear hW0 hbw h h' hs hs' hlo hlm hr hl H1 H2 H3 H1' H2' H3' HE HE'
  go_enter Tryz.func25, Tryz.ntmps25
  go_wp2_with fail
  rw [HW0.out, HBW.out]
  refine (ks1 _).mono ?_
  rintro e wt ⟨rfl, hwt⟩
  rw [hwt]
  clear hwt wt
  go_wp2_with fail
  refine (ks2 _).mono ?_
  rintro e wt ⟨rfl, hwt⟩
  rw [hwt]
  clear hwt wt ks1 ks2
  go_wp2
  go_loopw [5] (fun i wr => ∃ k : Nat, k ≤ n0' ∧ i = .int .i64 (k : Int) ∧ ∃ nq, wr = W0.drewN nq) (fun i _ => n0' - (intOf i).toNat)
  case atStart => exact ⟨0, Nat.zero_le _, rfl, 0, rfl⟩
  case round =>
    obtain ⟨k, hk, rfl, nq0, rfl⟩ := hrel
    by_cases hlt : k < n0'
    · obtain ⟨q1, t1, e1, hc1⟩ := HR1.out
      obtain ⟨q2, t2, e2, hc2⟩ := HR2.out
      injection e1 with e1 _ e3
      injection e2 with e2 _ e4
      subst e1 e3 e2 e4
      rw [HN.out] at hc1 hc2
      obtain ⟨b1, o1, rfl, _, _, hcell1⟩ := hc1 (by omega)
      obtain ⟨b2, o2, rfl, _, _, hcell2⟩ := hc2 (by omega)
      obtain ⟨x1, z1⟩ := hcell1 k hlt
      obtain ⟨x2, z2⟩ := hcell2 k hlt
      have kk : (k : Int) < (n0' : Int) := by omega
      obtain ⟨pp, hp⟩ : ∃ p, Dm.lo d.r k = p := ⟨_, rfl⟩
      obtain ⟨qq, hq⟩ : ∃ p, Dm.hi d.r k = p := ⟨_, rfl⟩
      rw [hp] at x1 x2
      rw [hq] at z1 z2
      clear hcell1 hcell2 hp hq hc1 hc2
      go_wp2
      go_quiet (fail)
      go_wp2
      go_roundw
      case rel => exact ⟨k + 1, by omega, by go_num, _, rfl⟩
      case measure => simp [intOf]; omega
    · have kk : ¬ (k : Int) < (n0' : Int) := by omega
      go_wp2
      go_ret
      exact ⟨rfl, ⟨hb0.os, hb0.tape, hb0.output, hb0.size, hb0.block⟩⟩
end Go.Proofs.YtghnfnieppfhgaaGreat

namespace Go.Proofs.YtghnfnieppfhgaaGreat
open Go.RowKit Go.Shelf
set_option linter.unusedVariables false
set_option linter.unusedSimpArgs false

set_option maxRecDepth 100000 in
set_option maxHeartbeats 4000000 in
theorem one9 (x y : Int) (W : World) : Calls Tryz.prog 34 #[.int .i64 x, .int .i64 y] W fun e w' => ∃ q : List Value, e = .returned (.agg q.toArray) ∧ (∀ Z : Nat → Prop, (∀ b, Z b → b < W.heap.size) → Dc Z w' q ⟨false, [(x, y)], [], [], 0, 0⟩) ∧ Below W.heap.size W w' := by
  go_enter Tryz.func34, Tryz.ntmps34
  go_wp2
  have hb : Below W.heap.size W ((W.alloc (Obj.cells #[.bool false, .slice (some ⟨W.heap.size + 1, 0, none⟩) 1 1, .slice none 0 0, .slice none 0 0, .int .i64 0, .int .i64 0] 37)).alloc (Obj.cells #[.int .i64 x, .int .i64 y] 80)) := ((Below.refl _ W).alloc (Nat.le_refl _) _).alloc (by simp) _
  refine ⟨rfl, _, resD (c := [.bool false, .slice (some ⟨W.heap.size + 1, 0, none⟩) 1 1, .slice none 0 0, .slice none 0 0, .int .i64 0, .int .i64 0]) rfl _ ((Bx.new W _ _).alloc _) rfl (by with_unfolding_all rfl), [.bool false, .slice (some ⟨W.heap.size + 1, 0, none⟩) 1 1, .slice none 0 0, .slice none 0 0, .int .i64 0, .int .i64 0], rfl, fun Z hZ => ?_, hb⟩
  refine ⟨some ⟨W.heap.size + 1, 0, none⟩, 1, none, 0, none, 0, rfl, ⟨_, _, rfl, fun _ => ⟨W.heap.size + 1, 0, rfl, by simp, fun q => by have := hZ _ q; omega, fun i hi => ?_⟩⟩, Nm.empty _ _, Nm.empty _ _⟩
  have hi0 : i = 0 := by simp at hi; exact hi
  subst hi0
  have hbx := Bx.new' (w := W.alloc (Obj.cells #[.bool false, .slice (some ⟨W.heap.size + 1, 0, none⟩) 1 1, .slice none 0 0, .slice none 0 0, .int .i64 0, .int .i64 0] 37)) (n := W.heap.size + 1) (by simp) #[.int .i64 x, .int .i64 y] 80
  exact ⟨hbx.cell 0, hbx.cell 1⟩
end Go.Proofs.YtghnfnieppfhgaaGreat
