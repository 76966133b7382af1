/-
  What is proved here: the walk of DomAlgebra.
-/
import Derived.Test.YtkloadlodofipaaGreatDoorGd
namespace Go.Proofs.YtkloadlodofipaaGreatDoor
open Go.RowKit Go.Shelf
set_option linter.unusedVariables false

theorem sr_shape {W : World} {s : Value} {l : List Rg} (h : Sr W s l) : ∃ a n c, s = .slice a n c := by
  obtain ⟨a, c, rfl, _⟩ := h
  exact ⟨_, _, _, rfl⟩
theorem both_at (s1 s2 : Value) (la lb : List Rg) (w : World) (h1 : Sr w s1 la) (h2 : Sr w s2 lb) (hf1 : FitsR la) (hf2 : FitsR lb) (hl : la.length + lb.length ≤ 4096) :
    Calls Tryz.prog 35 #[s1, s2] w fun e w' => ∃ a n c, e = .returned (.slice a n c) ∧ Sr w' (.slice a n c) (ov (tk la) (tk lb)) ∧ Below w.heap.size w w' := by
  refine (domboth_any s1 s2 la lb w h1 h2 hf1 hf2).mono ?_
  rintro e w' ⟨s', rfl, hrow, hb⟩
  have hs := own_srl hrow
  have e : bothR la lb = ov (tk la) (tk lb) := if_pos (Nat.le_trans (ov_len _ _) (by have := tk_le la; have := tk_le lb; omega))
  rw [e] at hs
  obtain ⟨a, n, c, rfl⟩ := sr_shape hs
  exact ⟨a, n, c, rfl, hs, hb⟩
theorem either_at (s1 s2 : Value) (la lb : List Rg) (w : World) (h1 : Sr w s1 la) (h2 : Sr w s2 lb) (hf1 : FitsR la) (hf2 : FitsR lb) (hl : (nf (tk la ++ tk lb)).length ≤ 4096) :
    Calls Tryz.prog 36 #[s1, s2] w fun e w' => ∃ a n c, e = .returned (.tuple #[.slice a n c, .int .i64 0]) ∧ Sr w' (.slice a n c) (nf (tk la ++ tk lb)) ∧ Below w.heap.size w w' := by
  refine (domeither_any s1 s2 la lb w h1 h2 hf1 hf2).mono ?_
  rintro e w' ⟨s', cc, rfl, hb, hc⟩
  rcases hc with ⟨h, _⟩ | ⟨_, rfl, _, hrow, _⟩ | ⟨_, _, h, _⟩
  · exact absurd h (not_bad (tk_right la) (tk_right lb))
  · have hs := own_srl hrow
    obtain ⟨a, n, c, rfl⟩ := sr_shape hs
    exact ⟨a, n, c, rfl, hs, hb⟩
  · omega
theorem less_at (s1 s2 : Value) (la lb : List Rg) (w : World) (h1 : Sr w s1 la) (h2 : Sr w s2 lb) (hf1 : FitsR la) (hf2 : FitsR lb) (hl : la.length + lb.length ≤ 4096) :
    Calls Tryz.prog 38 #[s1, s2] w fun e w' => ∃ a n c, e = .returned (.tuple #[.slice a n c, .int .i64 0]) ∧ Sr w' (.slice a n c) (ov (tk la) (notL (tk lb))) ∧ Below w.heap.size w w' := by
  refine (domless_any s1 s2 la lb w h1 h2 hf1 hf2).mono ?_
  rintro e w' ⟨s', cc, rfl, hb, hc⟩
  rcases hc with ⟨rfl, _, hrow, _⟩ | ⟨_, h, _⟩
  · have hs := own_srl hrow
    obtain ⟨a, n, c, rfl⟩ := sr_shape hs
    exact ⟨a, n, c, rfl, hs, hb⟩
  · have := less_le (tk_right la) (tk_right lb) (by have := tk_le la; have := tk_le lb; omega)
    omega
theorem not_at (s : Value) (l : List Rg) (w : World) (h : Sr w s l) (hf : FitsR l) :
    Calls Tryz.prog 42 #[s] w fun e w' => ∃ a n c, e = .returned (.slice a n c) ∧ Sr w' (.slice a n c) (notR l) ∧ Below w.heap.size w w' := by
  refine (domnot_any s l w h hf).mono ?_
  rintro e w' ⟨s', rfl, hrow, hb⟩
  have hs := own_srl hrow
  obtain ⟨a, n, c, rfl⟩ := sr_shape hs
  exact ⟨a, n, c, rfl, hs, hb⟩
theorem within_at (s1 s2 : Value) (la lb : List Rg) (w : World) (h1 : Sr w s1 la) (h2 : Sr w s2 lb) (hf1 : FitsR la) (hf2 : FitsR lb) (hw : win (tk la) (tk lb)) :
    Calls Tryz.prog 49 #[s1, s2] w fun e w' => e = .returned (.bool true) ∧ Below w.heap.size w w' := by
  refine (domwithin_any s1 s2 la lb w h1 h2 hf1 hf2).mono ?_
  rintro e w' ⟨t, rfl, ht, hb⟩
  rw [ht.2 hw]
  exact ⟨rfl, hb⟩
theorem has_at (s : Value) (l : List Rg) (v : Int) (b : Bool) (w : World) (h : Sr w s l) (hf : FitsR l) (hb : hasV l v = b) :
    Calls Tryz.prog 29 #[s, .int .i64 v] w fun e w' => e = .returned (.bool b) ∧ Below w.heap.size w w' := by
  rw [← hb]
  exact domhas_any s l v w h hf
theorem size_at (s : Value) (l : List Rg) (m : Int) (w : World) (h : Sr w s l) (hf : FitsR l) (hm : sizeR (tk l) = m) :
    Calls Tryz.prog 31 #[s] w fun e w' => e = .returned (.int .i64 m) ∧ Below w.heap.size w w' := by
  rw [← hm]
  exact domsize_any s l w h hf
/-- What is needed of two lists of ranges, of few ranges together. -/
structure Alg (la lb : List Rg) (v : Int) (i o : Bool) (BL EL LL : List Rg) (m1 m2 m3 m4 : Int) : Prop where
  few : la.length + lb.length ≤ 4096
  bl : ov (tk la) (tk lb) = BL
  lb' : ov (tk lb) (tk la) = BL
  el : nf (tk la ++ tk lb) = EL
  ll : ov (tk la) (notL (tk lb)) = LL
  rB : Right BL
  rE : Right EL
  rL : Right LL
  vi : hasV la v = i
  vo : hasV lb v = o
  vB : hasV BL v = (i && o)
  vE : hasV EL v = (i || o)
  vL : hasV LL v = (i && !o)
  w1 : win (tk BL) (tk la)
  w2 : win (tk BL) (tk lb)
  ag : nf (tk LL ++ tk lb) = EL
  s1 : sizeR (tk BL) = m1
  s2 : sizeR (tk EL) = m2
  s3 : sizeR (tk la) = m3
  s4 : sizeR (tk lb) = m4
theorem alg_all (la lb : List Rg) (v : Int) (hl : la.length + lb.length ≤ 4096) : ∃ BL EL LL m1 m2 m3 m4, Alg la lb v (hasV la v) (hasV lb v) BL EL LL m1 m2 m3 m4 ∧ m1 + m2 = m3 + m4 ∧ (0 ≤ m1 ∧ m1 ≤ 10000000) ∧ (0 ≤ m2 ∧ m2 ≤ 10000000) ∧ (0 ≤ m3 ∧ m3 ≤ 10000000) ∧ (0 ≤ m4 ∧ m4 ≤ 10000000) := by
  have ha := tk_right la
  have hb := tk_right lb
  have hab : (tk la).length + (tk lb).length ≤ 4096 := by have := tk_le la; have := tk_le lb; omega
  have rB := ov_right ha hb hab
  have rE := nf_right ha hb (Nat.le_trans (nf_len _) (by rw [List.length_append]; exact hab))
  have rL := less_right ha hb (less_le ha hb hab)
  have fB := ov_facts (right_ord ha).1 (right_ord hb).1
  have w := win_both ha hb
  refine ⟨_, _, _, _, _, _, _, ⟨hl, rfl, (ov_comm hb ha), rfl, rfl, rB, rE, rL, rfl, rfl, ?_, ?_, ?_, ?_, ?_, ?_, rfl, rfl, rfl, rfl⟩, ?_, size_bounds (tk_right _), size_bounds (tk_right _), size_bounds ha, size_bounds hb⟩
  · unfold hasV; rw [tk_yes rB, ← Bool.decide_and]; exact decide_eq_decide.2 (fB.2 v)
  · unfold hasV; rw [tk_yes rE, ← Bool.decide_or]; exact decide_eq_decide.2 (mem_either _ _ v)
  · unfold hasV; rw [tk_yes rL, ← decide_not, ← Bool.decide_and]; exact decide_eq_decide.2 (mem_less ha hb v)
  · rw [tk_yes rB]; exact w.1
  · rw [tk_yes rB]; exact w.2
  · rw [tk_yes rL]; exact again_is ha hb
  · rw [tk_yes rB, tk_yes rE]; exact size_both ha hb hab
set_option maxRecDepth 100000 in
set_option maxHeartbeats 4000000 in
theorem algebra_tt (a1 a2 : Option Addr) (n1 n2 c1 c2 : Nat) (la lb : List Rg) (v : Int) (W : World) (h1 : Sr W (.slice a1 n1 c1) la) (h2 : Sr W (.slice a2 n2 c2) lb) (hf1 : FitsR la) (hf2 : FitsR lb) (hM : MaxL W) (hT : Tens W.heap.size W) (hl : n1 + n2 ≤ 4096) (hn1 : n1 = la.length)
    (BL EL LL : List Rg) (m1 m2 m3 m4 : Int) (hA : Alg la lb v true true BL EL LL m1 m2 m3 m4) (hsz : m1 + m2 = m3 + m4) (hb1 : 0 ≤ m1 ∧ m1 ≤ 10000000) (hb2 : 0 ≤ m2 ∧ m2 ≤ 10000000) (hb3 : 0 ≤ m3 ∧ m3 ≤ 10000000) (hb4 : 0 ≤ m4 ∧ m4 ≤ 10000000) :
    Calls Tryz.prog 6 #[.slice a1 n1 c1, .slice a2 n2 c2, .int .i64 v] W fun e w' => e = .returned (.bool true) ∧ Below W.heap.size W w' := by
  have hM0 := hM.1
  have HM : Hid (MaxL W) := hM
  have HT : Hid (Tens W.heap.size W) := hT
  have HF1 : Hid (FitsR la) := hf1
  have HF2 : Hid (FitsR lb) := hf2
  have HA : Hid (Alg la lb v true true BL EL LL m1 m2 m3 m4) := hA
  have HN1 : Hid (n1 = la.length) := hn1
  have hlt : decide (4096 < (n1 : Int) + (n2 : Int)) = false := by simp; omega
  have HSZ : Hid (m1 + m2 = m3 + m4 ∧ (0 ≤ m1 ∧ m1 ≤ 10000000) ∧ (0 ≤ m2 ∧ m2 ≤ 10000000) ∧ (0 ≤ m3 ∧ m3 ≤ 10000000) ∧ (0 ≤ m4 ∧ m4 ≤ 10000000)) := ⟨hsz, hb1, hb2, hb3, hb4⟩
  have HS1 : Hid (Sr W (.slice a1 n1 c1) la) := h1
  have HS2 : Hid (Sr W (.slice a2 n2 c2) lb) := h2
  have hB : Below W.heap.size W W := Below.refl _ _
  clear hM hT hf1 hf2 hA hn1 hsz hb1 hb2 hb3 hb4 h1 h2
  go_enter Tryz.func6, Tryz.ntmps6
  go_wp2_with fail
  have hcall := both_at _ _ la lb W HS1.out HS2.out HF1.out HF2.out HA.out.few
  rw [HA.out.bl] at hcall
  refine hcall.mono ?_
  clear hcall
  rintro e w1 ⟨boa, bon, boc, rfl, hs, hb⟩
  have Hbo : Hid (Sr w1 (.slice boa bon boc) BL) := hs
  clear hs
  replace HS1 : Hid (Sr w1 (.slice a1 n1 c1) la) := HS1.out.below hb
  replace HS2 : Hid (Sr w1 (.slice a2 n2 c2) lb) := HS2.out.below hb
  replace hB : Below W.heap.size W w1 := hB.trans (hb.mono hB.size)
  clear hb
  go_wp2_with fail
  have hcall := either_at _ _ la lb w1 HS1.out HS2.out HF1.out HF2.out (by rw [HA.out.el]; exact HA.out.rE.1)
  rw [HA.out.el] at hcall
  refine hcall.mono ?_
  clear hcall
  rintro e w2 ⟨eia, ein, eic, rfl, hs, hb⟩
  have Hei : Hid (Sr w2 (.slice eia ein eic) EL) := hs
  clear hs
  replace HS1 : Hid (Sr w2 (.slice a1 n1 c1) la) := HS1.out.below hb
  replace HS2 : Hid (Sr w2 (.slice a2 n2 c2) lb) := HS2.out.below hb
  replace Hbo : Hid (Sr w2 (.slice boa bon boc) BL) := Hbo.out.below hb
  replace hB : Below W.heap.size W w2 := hB.trans (hb.mono hB.size)
  clear hb
  go_wp2_with fail
  have hcall := less_at _ _ la lb w2 HS1.out HS2.out HF1.out HF2.out HA.out.few
  rw [HA.out.ll] at hcall
  refine hcall.mono ?_
  clear hcall
  rintro e w3 ⟨lea, len, lec, rfl, hs, hb⟩
  have Hle : Hid (Sr w3 (.slice lea len lec) LL) := hs
  clear hs
  replace HS1 : Hid (Sr w3 (.slice a1 n1 c1) la) := HS1.out.below hb
  replace HS2 : Hid (Sr w3 (.slice a2 n2 c2) lb) := HS2.out.below hb
  replace Hbo : Hid (Sr w3 (.slice boa bon boc) BL) := Hbo.out.below hb
  replace Hei : Hid (Sr w3 (.slice eia ein eic) EL) := Hei.out.below hb
  replace hB : Below W.heap.size W w3 := hB.trans (hb.mono hB.size)
  clear hb
  go_wp2_with fail
  have hcall := has_at _ la v true w3 HS1.out HF1.out HA.out.vi
  refine hcall.mono ?_
  clear hcall
  rintro e w4 ⟨rfl, hb⟩
  replace HS1 : Hid (Sr w4 (.slice a1 n1 c1) la) := HS1.out.below hb
  replace HS2 : Hid (Sr w4 (.slice a2 n2 c2) lb) := HS2.out.below hb
  replace Hbo : Hid (Sr w4 (.slice boa bon boc) BL) := Hbo.out.below hb
  replace Hei : Hid (Sr w4 (.slice eia ein eic) EL) := Hei.out.below hb
  replace Hle : Hid (Sr w4 (.slice lea len lec) LL) := Hle.out.below hb
  replace hB : Below W.heap.size W w4 := hB.trans (hb.mono hB.size)
  clear hb
  go_wp2_with fail
  have hcall := has_at _ lb v true w4 HS2.out HF2.out HA.out.vo
  refine hcall.mono ?_
  clear hcall
  rintro e w5 ⟨rfl, hb⟩
  replace HS1 : Hid (Sr w5 (.slice a1 n1 c1) la) := HS1.out.below hb
  replace HS2 : Hid (Sr w5 (.slice a2 n2 c2) lb) := HS2.out.below hb
  replace Hbo : Hid (Sr w5 (.slice boa bon boc) BL) := Hbo.out.below hb
  replace Hei : Hid (Sr w5 (.slice eia ein eic) EL) := Hei.out.below hb
  replace Hle : Hid (Sr w5 (.slice lea len lec) LL) := Hle.out.below hb
  replace hB : Below W.heap.size W w5 := hB.trans (hb.mono hB.size)
  clear hb
  go_wp2_with fail
  have hcall := has_at _ BL v true w5 Hbo.out (fits_small HA.out.rB) HA.out.vB
  refine hcall.mono ?_
  clear hcall
  rintro e w6 ⟨rfl, hb⟩
  replace HS1 : Hid (Sr w6 (.slice a1 n1 c1) la) := HS1.out.below hb
  replace HS2 : Hid (Sr w6 (.slice a2 n2 c2) lb) := HS2.out.below hb
  replace Hbo : Hid (Sr w6 (.slice boa bon boc) BL) := Hbo.out.below hb
  replace Hei : Hid (Sr w6 (.slice eia ein eic) EL) := Hei.out.below hb
  replace Hle : Hid (Sr w6 (.slice lea len lec) LL) := Hle.out.below hb
  replace hB : Below W.heap.size W w6 := hB.trans (hb.mono hB.size)
  clear hb
  go_wp2_with fail
  have hcall := has_at _ EL v true w6 Hei.out (fits_small HA.out.rE) HA.out.vE
  refine hcall.mono ?_
  clear hcall
  rintro e w7 ⟨rfl, hb⟩
  replace HS1 : Hid (Sr w7 (.slice a1 n1 c1) la) := HS1.out.below hb
  replace HS2 : Hid (Sr w7 (.slice a2 n2 c2) lb) := HS2.out.below hb
  replace Hbo : Hid (Sr w7 (.slice boa bon boc) BL) := Hbo.out.below hb
  replace Hei : Hid (Sr w7 (.slice eia ein eic) EL) := Hei.out.below hb
  replace Hle : Hid (Sr w7 (.slice lea len lec) LL) := Hle.out.below hb
  replace hB : Below W.heap.size W w7 := hB.trans (hb.mono hB.size)
  clear hb
  go_wp2_with fail
  have hcall := has_at _ LL v false w7 Hle.out (fits_small HA.out.rL) HA.out.vL
  refine hcall.mono ?_
  clear hcall
  rintro e w8 ⟨rfl, hb⟩
  replace HS1 : Hid (Sr w8 (.slice a1 n1 c1) la) := HS1.out.below hb
  replace HS2 : Hid (Sr w8 (.slice a2 n2 c2) lb) := HS2.out.below hb
  replace Hbo : Hid (Sr w8 (.slice boa bon boc) BL) := Hbo.out.below hb
  replace Hei : Hid (Sr w8 (.slice eia ein eic) EL) := Hei.out.below hb
  replace Hle : Hid (Sr w8 (.slice lea len lec) LL) := Hle.out.below hb
  replace hB : Below W.heap.size W w8 := hB.trans (hb.mono hB.size)
  clear hb
  go_wp2_with fail
  have hcall := both_at _ _ lb la w8 HS2.out HS1.out HF2.out HF1.out (by have := HA.out.few; omega)
  rw [HA.out.lb'] at hcall
  refine hcall.mono ?_
  clear hcall
  rintro e w9 ⟨oba, obn, obc, rfl, hs, hb⟩
  have Hob : Hid (Sr w9 (.slice oba obn obc) BL) := hs
  clear hs
  replace HS1 : Hid (Sr w9 (.slice a1 n1 c1) la) := HS1.out.below hb
  replace HS2 : Hid (Sr w9 (.slice a2 n2 c2) lb) := HS2.out.below hb
  replace Hbo : Hid (Sr w9 (.slice boa bon boc) BL) := Hbo.out.below hb
  replace Hei : Hid (Sr w9 (.slice eia ein eic) EL) := Hei.out.below hb
  replace Hle : Hid (Sr w9 (.slice lea len lec) LL) := Hle.out.below hb
  replace hB : Below W.heap.size W w9 := hB.trans (hb.mono hB.size)
  clear hb
  go_wp2_with fail
  have hcall := domsame_same _ _ BL BL w9 Hbo.out Hob.out (fits_small HA.out.rB) (fits_small HA.out.rB) rfl
  refine hcall.mono ?_
  clear hcall
  rintro e w10 ⟨rfl, hb⟩
  replace HS1 : Hid (Sr w10 (.slice a1 n1 c1) la) := HS1.out.below hb
  replace HS2 : Hid (Sr w10 (.slice a2 n2 c2) lb) := HS2.out.below hb
  replace Hbo : Hid (Sr w10 (.slice boa bon boc) BL) := Hbo.out.below hb
  replace Hei : Hid (Sr w10 (.slice eia ein eic) EL) := Hei.out.below hb
  replace Hle : Hid (Sr w10 (.slice lea len lec) LL) := Hle.out.below hb
  replace Hob : Hid (Sr w10 (.slice oba obn obc) BL) := Hob.out.below hb
  replace hB : Below W.heap.size W w10 := hB.trans (hb.mono hB.size)
  clear hb
  clear Hob
  go_wp2_with fail
  have hcall := within_at _ _ BL la w10 Hbo.out HS1.out (fits_small HA.out.rB) HF1.out HA.out.w1
  refine hcall.mono ?_
  clear hcall
  rintro e w11 ⟨rfl, hb⟩
  replace HS1 : Hid (Sr w11 (.slice a1 n1 c1) la) := HS1.out.below hb
  replace HS2 : Hid (Sr w11 (.slice a2 n2 c2) lb) := HS2.out.below hb
  replace Hbo : Hid (Sr w11 (.slice boa bon boc) BL) := Hbo.out.below hb
  replace Hei : Hid (Sr w11 (.slice eia ein eic) EL) := Hei.out.below hb
  replace Hle : Hid (Sr w11 (.slice lea len lec) LL) := Hle.out.below hb
  replace hB : Below W.heap.size W w11 := hB.trans (hb.mono hB.size)
  clear hb
  go_wp2_with fail
  have hcall := within_at _ _ BL lb w11 Hbo.out HS2.out (fits_small HA.out.rB) HF2.out HA.out.w2
  refine hcall.mono ?_
  clear hcall
  rintro e w12 ⟨rfl, hb⟩
  replace HS1 : Hid (Sr w12 (.slice a1 n1 c1) la) := HS1.out.below hb
  replace HS2 : Hid (Sr w12 (.slice a2 n2 c2) lb) := HS2.out.below hb
  replace Hbo : Hid (Sr w12 (.slice boa bon boc) BL) := Hbo.out.below hb
  replace Hei : Hid (Sr w12 (.slice eia ein eic) EL) := Hei.out.below hb
  replace Hle : Hid (Sr w12 (.slice lea len lec) LL) := Hle.out.below hb
  replace hB : Below W.heap.size W w12 := hB.trans (hb.mono hB.size)
  clear hb
  go_wp2_with fail
  have hcall := either_at _ _ LL lb w12 Hle.out HS2.out (fits_small HA.out.rL) HF2.out (by rw [HA.out.ag]; exact HA.out.rE.1)
  rw [HA.out.ag] at hcall
  refine hcall.mono ?_
  clear hcall
  rintro e w13 ⟨aga, agn, agc, rfl, hs, hb⟩
  have Hag : Hid (Sr w13 (.slice aga agn agc) EL) := hs
  clear hs
  replace HS1 : Hid (Sr w13 (.slice a1 n1 c1) la) := HS1.out.below hb
  replace HS2 : Hid (Sr w13 (.slice a2 n2 c2) lb) := HS2.out.below hb
  replace Hbo : Hid (Sr w13 (.slice boa bon boc) BL) := Hbo.out.below hb
  replace Hei : Hid (Sr w13 (.slice eia ein eic) EL) := Hei.out.below hb
  replace Hle : Hid (Sr w13 (.slice lea len lec) LL) := Hle.out.below hb
  replace hB : Below W.heap.size W w13 := hB.trans (hb.mono hB.size)
  clear hb
  go_wp2_with fail
  have hcall := domsame_same _ _ EL EL w13 Hag.out Hei.out (fits_small HA.out.rE) (fits_small HA.out.rE) rfl
  refine hcall.mono ?_
  clear hcall
  rintro e w14 ⟨rfl, hb⟩
  replace HS1 : Hid (Sr w14 (.slice a1 n1 c1) la) := HS1.out.below hb
  replace HS2 : Hid (Sr w14 (.slice a2 n2 c2) lb) := HS2.out.below hb
  replace Hbo : Hid (Sr w14 (.slice boa bon boc) BL) := Hbo.out.below hb
  replace Hei : Hid (Sr w14 (.slice eia ein eic) EL) := Hei.out.below hb
  replace Hle : Hid (Sr w14 (.slice lea len lec) LL) := Hle.out.below hb
  replace Hag : Hid (Sr w14 (.slice aga agn agc) EL) := Hag.out.below hb
  replace hB : Below W.heap.size W w14 := hB.trans (hb.mono hB.size)
  clear hb
  clear Hag Hle
  go_wp2_with fail
  have hcall := size_at _ BL m1 w14 Hbo.out (fits_small HA.out.rB) HA.out.s1
  refine hcall.mono ?_
  clear hcall
  rintro e w15 ⟨rfl, hb⟩
  replace HS1 : Hid (Sr w15 (.slice a1 n1 c1) la) := HS1.out.below hb
  replace HS2 : Hid (Sr w15 (.slice a2 n2 c2) lb) := HS2.out.below hb
  replace Hbo : Hid (Sr w15 (.slice boa bon boc) BL) := Hbo.out.below hb
  replace Hei : Hid (Sr w15 (.slice eia ein eic) EL) := Hei.out.below hb
  replace hB : Below W.heap.size W w15 := hB.trans (hb.mono hB.size)
  clear hb
  go_wp2_with fail
  have hcall := size_at _ EL m2 w15 Hei.out (fits_small HA.out.rE) HA.out.s2
  refine hcall.mono ?_
  clear hcall
  rintro e w16 ⟨rfl, hb⟩
  replace HS1 : Hid (Sr w16 (.slice a1 n1 c1) la) := HS1.out.below hb
  replace HS2 : Hid (Sr w16 (.slice a2 n2 c2) lb) := HS2.out.below hb
  replace Hbo : Hid (Sr w16 (.slice boa bon boc) BL) := Hbo.out.below hb
  replace Hei : Hid (Sr w16 (.slice eia ein eic) EL) := Hei.out.below hb
  replace hB : Below W.heap.size W w16 := hB.trans (hb.mono hB.size)
  clear hb
  clear Hbo Hei
  go_wp2_with fail
  have hcall := size_at _ la m3 w16 HS1.out HF1.out HA.out.s3
  refine hcall.mono ?_
  clear hcall
  rintro e w17 ⟨rfl, hb⟩
  replace HS1 : Hid (Sr w17 (.slice a1 n1 c1) la) := HS1.out.below hb
  replace HS2 : Hid (Sr w17 (.slice a2 n2 c2) lb) := HS2.out.below hb
  replace hB : Below W.heap.size W w17 := hB.trans (hb.mono hB.size)
  clear hb
  go_wp2_with fail
  have hcall := size_at _ lb m4 w17 HS2.out HF2.out HA.out.s4
  refine hcall.mono ?_
  clear hcall
  rintro e w18 ⟨rfl, hb⟩
  replace HS1 : Hid (Sr w18 (.slice a1 n1 c1) la) := HS1.out.below hb
  replace HS2 : Hid (Sr w18 (.slice a2 n2 c2) lb) := HS2.out.below hb
  replace hB : Below W.heap.size W w18 := hB.trans (hb.mono hB.size)
  clear hb
  obtain ⟨hsz, ⟨p1, p2⟩, ⟨p3, p4⟩, ⟨p5, p6⟩, ⟨p7, p8⟩⟩ := HSZ.out
  have z1 : (m1 + m2 == m3 + m4) = true := by simpa using hsz
  have z2 : (m1 + m2 != m3 + m4) = false := by simpa using hsz
  have z3 : decide (m1 + m2 = m3 + m4) = true := by simpa using hsz
  have z4 : (wrap64 (m1 + m2) != m3 + m4) = false := by rw [show wrap64 (m1 + m2) = m1 + m2 by unfold wrap64; omega]; exact z2
  have z5 : (wrap64 (m1 + m2) == m3 + m4) = true := by rw [show wrap64 (m1 + m2) = m1 + m2 by unfold wrap64; omega]; exact z1
  clear hsz
  by_cases hn : n1 < 4096
  · have hnl : la.length < 4096 := by rw [← HN1.out]; exact hn
    have g1 : decide ((n1 : Int) < 4096) = true := by simp; omega
    have g2 : decide (4096 ≤ (n1 : Int)) = false := by simp; omega
    by_cases hv1 : -1000000 ≤ v
    · have e1 : decide (-1000000 ≤ v) = true := by simpa using hv1
      by_cases hv2 : v ≤ 1000000
      · have e2 : decide (v ≤ 1000000) = true := by simpa using hv2
        go_wp2_with fail
        have hcall := not_at _ la w18 HS1.out HF1.out
        refine hcall.mono ?_
        clear hcall
        rintro e w19 ⟨naa, nan, nac, rfl, hs, hb⟩
        have Hna : Hid (Sr w19 (.slice naa nan nac) (notR la)) := hs
        clear hs
        replace HS1 : Hid (Sr w19 (.slice a1 n1 c1) la) := HS1.out.below hb
        replace HS2 : Hid (Sr w19 (.slice a2 n2 c2) lb) := HS2.out.below hb
        replace hB : Below W.heap.size W w19 := hB.trans (hb.mono hB.size)
        clear hb
        have hnv : hasV (notR la) v = false := by
          have h9 := HA.out.vi
          unfold hasV at h9 ⊢
          rw [tk_yes (notR_is hnl).2, (notR_is hnl).1]
          exact decide_eq_false fun h => (((notL_facts (tk_right la)).2 v).1 h).2.2 (of_decide_eq_true h9)
        have HNV : Hid (hasV (notR la) v = false) := hnv
        clear hnv
        go_wp2_with fail
        have hcall := has_at _ (notR la) v false w19 Hna.out (fits_small (notR_is hnl).2) HNV.out
        refine hcall.mono ?_
        clear hcall
        rintro e w20 ⟨rfl, hb⟩
        replace HS1 : Hid (Sr w20 (.slice a1 n1 c1) la) := HS1.out.below hb
        replace HS2 : Hid (Sr w20 (.slice a2 n2 c2) lb) := HS2.out.below hb
        replace Hna : Hid (Sr w20 (.slice naa nan nac) (notR la)) := Hna.out.below hb
        replace hB : Below W.heap.size W w20 := hB.trans (hb.mono hB.size)
        clear hb
        clear Hna
        go_wp2_with fail
        have hcall := not_at _ la w20 HS1.out HF1.out
        refine hcall.mono ?_
        clear hcall
        rintro e w21 ⟨noa, non, noc, rfl, hs, hb⟩
        have Hno : Hid (Sr w21 (.slice noa non noc) (notR la)) := hs
        clear hs
        replace HS1 : Hid (Sr w21 (.slice a1 n1 c1) la) := HS1.out.below hb
        replace HS2 : Hid (Sr w21 (.slice a2 n2 c2) lb) := HS2.out.below hb
        replace hB : Below W.heap.size W w21 := hB.trans (hb.mono hB.size)
        clear hb
        go_wp2_with fail
        have hcall := not_at _ (notR la) w21 Hno.out (fits_small (notR_is hnl).2)
        refine hcall.mono ?_
        clear hcall
        rintro e w22 ⟨nna, nnn, nnc, rfl, hs, hb⟩
        have Hnn : Hid (Sr w22 (.slice nna nnn nnc) (notR (notR la))) := hs
        clear hs
        replace HS1 : Hid (Sr w22 (.slice a1 n1 c1) la) := HS1.out.below hb
        replace HS2 : Hid (Sr w22 (.slice a2 n2 c2) lb) := HS2.out.below hb
        replace Hno : Hid (Sr w22 (.slice noa non noc) (notR la)) := Hno.out.below hb
        replace hB : Below W.heap.size W w22 := hB.trans (hb.mono hB.size)
        clear hb
        have hnn : tk (notR (notR la)) = tk la := by rw [notR_notR hnl, tk_yes (tk_right la)]
        have HNN : Hid (tk (notR (notR la)) = tk la) := hnn
        clear hnn
        go_wp2_with fail
        have hcall := domsame_same _ _ (notR (notR la)) la w22 Hnn.out HS1.out (by rw [notR_notR hnl]; exact fits_small (tk_right la)) HF1.out HNN.out
        refine hcall.mono ?_
        clear hcall
        rintro e w23 ⟨rfl, hb⟩
        replace HS1 : Hid (Sr w23 (.slice a1 n1 c1) la) := HS1.out.below hb
        replace HS2 : Hid (Sr w23 (.slice a2 n2 c2) lb) := HS2.out.below hb
        replace Hno : Hid (Sr w23 (.slice noa non noc) (notR la)) := Hno.out.below hb
        replace Hnn : Hid (Sr w23 (.slice nna nnn nnc) (notR (notR la))) := Hnn.out.below hb
        replace hB : Below W.heap.size W w23 := hB.trans (hb.mono hB.size)
        clear hb
        go_wp2_with fail
        refine (known22 _ (HM.out.below hB hM0) (Tens.here HT.out hB)).mono ?_
        rintro e wz ⟨rfl, hb⟩
        replace hB : Below W.heap.size W wz := hB.trans (hb.mono hB.size)
        clear hb
        go_wp2
        go_ret
        exact ⟨rfl, hB⟩
      · have e2 : decide (v ≤ 1000000) = false := by simpa using hv2
        go_wp2_with fail
        have hcall := not_at _ la w18 HS1.out HF1.out
        refine hcall.mono ?_
        clear hcall
        rintro e w19 ⟨noa, non, noc, rfl, hs, hb⟩
        have Hno : Hid (Sr w19 (.slice noa non noc) (notR la)) := hs
        clear hs
        replace HS1 : Hid (Sr w19 (.slice a1 n1 c1) la) := HS1.out.below hb
        replace HS2 : Hid (Sr w19 (.slice a2 n2 c2) lb) := HS2.out.below hb
        replace hB : Below W.heap.size W w19 := hB.trans (hb.mono hB.size)
        clear hb
        go_wp2_with fail
        have hcall := not_at _ (notR la) w19 Hno.out (fits_small (notR_is hnl).2)
        refine hcall.mono ?_
        clear hcall
        rintro e w20 ⟨nna, nnn, nnc, rfl, hs, hb⟩
        have Hnn : Hid (Sr w20 (.slice nna nnn nnc) (notR (notR la))) := hs
        clear hs
        replace HS1 : Hid (Sr w20 (.slice a1 n1 c1) la) := HS1.out.below hb
        replace HS2 : Hid (Sr w20 (.slice a2 n2 c2) lb) := HS2.out.below hb
        replace Hno : Hid (Sr w20 (.slice noa non noc) (notR la)) := Hno.out.below hb
        replace hB : Below W.heap.size W w20 := hB.trans (hb.mono hB.size)
        clear hb
        have hnn : tk (notR (notR la)) = tk la := by rw [notR_notR hnl, tk_yes (tk_right la)]
        have HNN : Hid (tk (notR (notR la)) = tk la) := hnn
        clear hnn
        go_wp2_with fail
        have hcall := domsame_same _ _ (notR (notR la)) la w20 Hnn.out HS1.out (by rw [notR_notR hnl]; exact fits_small (tk_right la)) HF1.out HNN.out
        refine hcall.mono ?_
        clear hcall
        rintro e w21 ⟨rfl, hb⟩
        replace HS1 : Hid (Sr w21 (.slice a1 n1 c1) la) := HS1.out.below hb
        replace HS2 : Hid (Sr w21 (.slice a2 n2 c2) lb) := HS2.out.below hb
        replace Hno : Hid (Sr w21 (.slice noa non noc) (notR la)) := Hno.out.below hb
        replace Hnn : Hid (Sr w21 (.slice nna nnn nnc) (notR (notR la))) := Hnn.out.below hb
        replace hB : Below W.heap.size W w21 := hB.trans (hb.mono hB.size)
        clear hb
        go_wp2_with fail
        refine (known22 _ (HM.out.below hB hM0) (Tens.here HT.out hB)).mono ?_
        rintro e wz ⟨rfl, hb⟩
        replace hB : Below W.heap.size W wz := hB.trans (hb.mono hB.size)
        clear hb
        go_wp2
        go_ret
        exact ⟨rfl, hB⟩
    · have e1 : decide (-1000000 ≤ v) = false := by simpa using hv1
      go_wp2_with fail
      have hcall := not_at _ la w18 HS1.out HF1.out
      refine hcall.mono ?_
      clear hcall
      rintro e w19 ⟨noa, non, noc, rfl, hs, hb⟩
      have Hno : Hid (Sr w19 (.slice noa non noc) (notR la)) := hs
      clear hs
      replace HS1 : Hid (Sr w19 (.slice a1 n1 c1) la) := HS1.out.below hb
      replace HS2 : Hid (Sr w19 (.slice a2 n2 c2) lb) := HS2.out.below hb
      replace hB : Below W.heap.size W w19 := hB.trans (hb.mono hB.size)
      clear hb
      go_wp2_with fail
      have hcall := not_at _ (notR la) w19 Hno.out (fits_small (notR_is hnl).2)
      refine hcall.mono ?_
      clear hcall
      rintro e w20 ⟨nna, nnn, nnc, rfl, hs, hb⟩
      have Hnn : Hid (Sr w20 (.slice nna nnn nnc) (notR (notR la))) := hs
      clear hs
      replace HS1 : Hid (Sr w20 (.slice a1 n1 c1) la) := HS1.out.below hb
      replace HS2 : Hid (Sr w20 (.slice a2 n2 c2) lb) := HS2.out.below hb
      replace Hno : Hid (Sr w20 (.slice noa non noc) (notR la)) := Hno.out.below hb
      replace hB : Below W.heap.size W w20 := hB.trans (hb.mono hB.size)
      clear hb
      have hnn : tk (notR (notR la)) = tk la := by rw [notR_notR hnl, tk_yes (tk_right la)]
      have HNN : Hid (tk (notR (notR la)) = tk la) := hnn
      clear hnn
      go_wp2_with fail
      have hcall := domsame_same _ _ (notR (notR la)) la w20 Hnn.out HS1.out (by rw [notR_notR hnl]; exact fits_small (tk_right la)) HF1.out HNN.out
      refine hcall.mono ?_
      clear hcall
      rintro e w21 ⟨rfl, hb⟩
      replace HS1 : Hid (Sr w21 (.slice a1 n1 c1) la) := HS1.out.below hb
      replace HS2 : Hid (Sr w21 (.slice a2 n2 c2) lb) := HS2.out.below hb
      replace Hno : Hid (Sr w21 (.slice noa non noc) (notR la)) := Hno.out.below hb
      replace Hnn : Hid (Sr w21 (.slice nna nnn nnc) (notR (notR la))) := Hnn.out.below hb
      replace hB : Below W.heap.size W w21 := hB.trans (hb.mono hB.size)
      clear hb
      go_wp2_with fail
      refine (known22 _ (HM.out.below hB hM0) (Tens.here HT.out hB)).mono ?_
      rintro e wz ⟨rfl, hb⟩
      replace hB : Below W.heap.size W wz := hB.trans (hb.mono hB.size)
      clear hb
      go_wp2
      go_ret
      exact ⟨rfl, hB⟩
  · have g1 : decide ((n1 : Int) < 4096) = false := by simp; omega
    have g2 : decide (4096 ≤ (n1 : Int)) = true := by simp; omega
    by_cases hv1 : -1000000 ≤ v
    · have e1 : decide (-1000000 ≤ v) = true := by simpa using hv1
      by_cases hv2 : v ≤ 1000000
      · have e2 : decide (v ≤ 1000000) = true := by simpa using hv2
        go_wp2_with fail
        refine (known22 _ (HM.out.below hB hM0) (Tens.here HT.out hB)).mono ?_
        rintro e wz ⟨rfl, hb⟩
        replace hB : Below W.heap.size W wz := hB.trans (hb.mono hB.size)
        clear hb
        go_wp2
        go_ret
        exact ⟨rfl, hB⟩
      · have e2 : decide (v ≤ 1000000) = false := by simpa using hv2
        go_wp2_with fail
        refine (known22 _ (HM.out.below hB hM0) (Tens.here HT.out hB)).mono ?_
        rintro e wz ⟨rfl, hb⟩
        replace hB : Below W.heap.size W wz := hB.trans (hb.mono hB.size)
        clear hb
        go_wp2
        go_ret
        exact ⟨rfl, hB⟩
    · have e1 : decide (-1000000 ≤ v) = false := by simpa using hv1
      go_wp2_with fail
      refine (known22 _ (HM.out.below hB hM0) (Tens.here HT.out hB)).mono ?_
      rintro e wz ⟨rfl, hb⟩
      replace hB : Below W.heap.size W wz := hB.trans (hb.mono hB.size)
      clear hb
      go_wp2
      go_ret
      exact ⟨rfl, hB⟩
set_option maxRecDepth 100000 in
set_option maxHeartbeats 4000000 in
theorem algebra_tf (a1 a2 : Option Addr) (n1 n2 c1 c2 : Nat) (la lb : List Rg) (v : Int) (W : World) (h1 : Sr W (.slice a1 n1 c1) la) (h2 : Sr W (.slice a2 n2 c2) lb) (hf1 : FitsR la) (hf2 : FitsR lb) (hM : MaxL W) (hT : Tens W.heap.size W) (hl : n1 + n2 ≤ 4096) (hn1 : n1 = la.length)
    (BL EL LL : List Rg) (m1 m2 m3 m4 : Int) (hA : Alg la lb v true false BL EL LL m1 m2 m3 m4) (hsz : m1 + m2 = m3 + m4) (hb1 : 0 ≤ m1 ∧ m1 ≤ 10000000) (hb2 : 0 ≤ m2 ∧ m2 ≤ 10000000) (hb3 : 0 ≤ m3 ∧ m3 ≤ 10000000) (hb4 : 0 ≤ m4 ∧ m4 ≤ 10000000) :
    Calls Tryz.prog 6 #[.slice a1 n1 c1, .slice a2 n2 c2, .int .i64 v] W fun e w' => e = .returned (.bool true) ∧ Below W.heap.size W w' := by
  have hM0 := hM.1
  have HM : Hid (MaxL W) := hM
  have HT : Hid (Tens W.heap.size W) := hT
  have HF1 : Hid (FitsR la) := hf1
  have HF2 : Hid (FitsR lb) := hf2
  have HA : Hid (Alg la lb v true false BL EL LL m1 m2 m3 m4) := hA
  have HN1 : Hid (n1 = la.length) := hn1
  have hlt : decide (4096 < (n1 : Int) + (n2 : Int)) = false := by simp; omega
  have HSZ : Hid (m1 + m2 = m3 + m4 ∧ (0 ≤ m1 ∧ m1 ≤ 10000000) ∧ (0 ≤ m2 ∧ m2 ≤ 10000000) ∧ (0 ≤ m3 ∧ m3 ≤ 10000000) ∧ (0 ≤ m4 ∧ m4 ≤ 10000000)) := ⟨hsz, hb1, hb2, hb3, hb4⟩
  have HS1 : Hid (Sr W (.slice a1 n1 c1) la) := h1
  have HS2 : Hid (Sr W (.slice a2 n2 c2) lb) := h2
  have hB : Below W.heap.size W W := Below.refl _ _
  clear hM hT hf1 hf2 hA hn1 hsz hb1 hb2 hb3 hb4 h1 h2
  go_enter Tryz.func6, Tryz.ntmps6
  go_wp2_with fail
  have hcall := both_at _ _ la lb W HS1.out HS2.out HF1.out HF2.out HA.out.few
  rw [HA.out.bl] at hcall
  refine hcall.mono ?_
  clear hcall
  rintro e w1 ⟨boa, bon, boc, rfl, hs, hb⟩
  have Hbo : Hid (Sr w1 (.slice boa bon boc) BL) := hs
  clear hs
  replace HS1 : Hid (Sr w1 (.slice a1 n1 c1) la) := HS1.out.below hb
  replace HS2 : Hid (Sr w1 (.slice a2 n2 c2) lb) := HS2.out.below hb
  replace hB : Below W.heap.size W w1 := hB.trans (hb.mono hB.size)
  clear hb
  go_wp2_with fail
  have hcall := either_at _ _ la lb w1 HS1.out HS2.out HF1.out HF2.out (by rw [HA.out.el]; exact HA.out.rE.1)
  rw [HA.out.el] at hcall
  refine hcall.mono ?_
  clear hcall
  rintro e w2 ⟨eia, ein, eic, rfl, hs, hb⟩
  have Hei : Hid (Sr w2 (.slice eia ein eic) EL) := hs
  clear hs
  replace HS1 : Hid (Sr w2 (.slice a1 n1 c1) la) := HS1.out.below hb
  replace HS2 : Hid (Sr w2 (.slice a2 n2 c2) lb) := HS2.out.below hb
  replace Hbo : Hid (Sr w2 (.slice boa bon boc) BL) := Hbo.out.below hb
  replace hB : Below W.heap.size W w2 := hB.trans (hb.mono hB.size)
  clear hb
  go_wp2_with fail
  have hcall := less_at _ _ la lb w2 HS1.out HS2.out HF1.out HF2.out HA.out.few
  rw [HA.out.ll] at hcall
  refine hcall.mono ?_
  clear hcall
  rintro e w3 ⟨lea, len, lec, rfl, hs, hb⟩
  have Hle : Hid (Sr w3 (.slice lea len lec) LL) := hs
  clear hs
  replace HS1 : Hid (Sr w3 (.slice a1 n1 c1) la) := HS1.out.below hb
  replace HS2 : Hid (Sr w3 (.slice a2 n2 c2) lb) := HS2.out.below hb
  replace Hbo : Hid (Sr w3 (.slice boa bon boc) BL) := Hbo.out.below hb
  replace Hei : Hid (Sr w3 (.slice eia ein eic) EL) := Hei.out.below hb
  replace hB : Below W.heap.size W w3 := hB.trans (hb.mono hB.size)
  clear hb
  go_wp2_with fail
  have hcall := has_at _ la v true w3 HS1.out HF1.out HA.out.vi
  refine hcall.mono ?_
  clear hcall
  rintro e w4 ⟨rfl, hb⟩
  replace HS1 : Hid (Sr w4 (.slice a1 n1 c1) la) := HS1.out.below hb
  replace HS2 : Hid (Sr w4 (.slice a2 n2 c2) lb) := HS2.out.below hb
  replace Hbo : Hid (Sr w4 (.slice boa bon boc) BL) := Hbo.out.below hb
  replace Hei : Hid (Sr w4 (.slice eia ein eic) EL) := Hei.out.below hb
  replace Hle : Hid (Sr w4 (.slice lea len lec) LL) := Hle.out.below hb
  replace hB : Below W.heap.size W w4 := hB.trans (hb.mono hB.size)
  clear hb
  go_wp2_with fail
  have hcall := has_at _ lb v false w4 HS2.out HF2.out HA.out.vo
  refine hcall.mono ?_
  clear hcall
  rintro e w5 ⟨rfl, hb⟩
  replace HS1 : Hid (Sr w5 (.slice a1 n1 c1) la) := HS1.out.below hb
  replace HS2 : Hid (Sr w5 (.slice a2 n2 c2) lb) := HS2.out.below hb
  replace Hbo : Hid (Sr w5 (.slice boa bon boc) BL) := Hbo.out.below hb
  replace Hei : Hid (Sr w5 (.slice eia ein eic) EL) := Hei.out.below hb
  replace Hle : Hid (Sr w5 (.slice lea len lec) LL) := Hle.out.below hb
  replace hB : Below W.heap.size W w5 := hB.trans (hb.mono hB.size)
  clear hb
  go_wp2_with fail
  have hcall := has_at _ BL v false w5 Hbo.out (fits_small HA.out.rB) HA.out.vB
  refine hcall.mono ?_
  clear hcall
  rintro e w6 ⟨rfl, hb⟩
  replace HS1 : Hid (Sr w6 (.slice a1 n1 c1) la) := HS1.out.below hb
  replace HS2 : Hid (Sr w6 (.slice a2 n2 c2) lb) := HS2.out.below hb
  replace Hbo : Hid (Sr w6 (.slice boa bon boc) BL) := Hbo.out.below hb
  replace Hei : Hid (Sr w6 (.slice eia ein eic) EL) := Hei.out.below hb
  replace Hle : Hid (Sr w6 (.slice lea len lec) LL) := Hle.out.below hb
  replace hB : Below W.heap.size W w6 := hB.trans (hb.mono hB.size)
  clear hb
  go_wp2_with fail
  have hcall := has_at _ EL v true w6 Hei.out (fits_small HA.out.rE) HA.out.vE
  refine hcall.mono ?_
  clear hcall
  rintro e w7 ⟨rfl, hb⟩
  replace HS1 : Hid (Sr w7 (.slice a1 n1 c1) la) := HS1.out.below hb
  replace HS2 : Hid (Sr w7 (.slice a2 n2 c2) lb) := HS2.out.below hb
  replace Hbo : Hid (Sr w7 (.slice boa bon boc) BL) := Hbo.out.below hb
  replace Hei : Hid (Sr w7 (.slice eia ein eic) EL) := Hei.out.below hb
  replace Hle : Hid (Sr w7 (.slice lea len lec) LL) := Hle.out.below hb
  replace hB : Below W.heap.size W w7 := hB.trans (hb.mono hB.size)
  clear hb
  go_wp2_with fail
  have hcall := has_at _ LL v true w7 Hle.out (fits_small HA.out.rL) HA.out.vL
  refine hcall.mono ?_
  clear hcall
  rintro e w8 ⟨rfl, hb⟩
  replace HS1 : Hid (Sr w8 (.slice a1 n1 c1) la) := HS1.out.below hb
  replace HS2 : Hid (Sr w8 (.slice a2 n2 c2) lb) := HS2.out.below hb
  replace Hbo : Hid (Sr w8 (.slice boa bon boc) BL) := Hbo.out.below hb
  replace Hei : Hid (Sr w8 (.slice eia ein eic) EL) := Hei.out.below hb
  replace Hle : Hid (Sr w8 (.slice lea len lec) LL) := Hle.out.below hb
  replace hB : Below W.heap.size W w8 := hB.trans (hb.mono hB.size)
  clear hb
  go_wp2_with fail
  have hcall := both_at _ _ lb la w8 HS2.out HS1.out HF2.out HF1.out (by have := HA.out.few; omega)
  rw [HA.out.lb'] at hcall
  refine hcall.mono ?_
  clear hcall
  rintro e w9 ⟨oba, obn, obc, rfl, hs, hb⟩
  have Hob : Hid (Sr w9 (.slice oba obn obc) BL) := hs
  clear hs
  replace HS1 : Hid (Sr w9 (.slice a1 n1 c1) la) := HS1.out.below hb
  replace HS2 : Hid (Sr w9 (.slice a2 n2 c2) lb) := HS2.out.below hb
  replace Hbo : Hid (Sr w9 (.slice boa bon boc) BL) := Hbo.out.below hb
  replace Hei : Hid (Sr w9 (.slice eia ein eic) EL) := Hei.out.below hb
  replace Hle : Hid (Sr w9 (.slice lea len lec) LL) := Hle.out.below hb
  replace hB : Below W.heap.size W w9 := hB.trans (hb.mono hB.size)
  clear hb
  go_wp2_with fail
  have hcall := domsame_same _ _ BL BL w9 Hbo.out Hob.out (fits_small HA.out.rB) (fits_small HA.out.rB) rfl
  refine hcall.mono ?_
  clear hcall
  rintro e w10 ⟨rfl, hb⟩
  replace HS1 : Hid (Sr w10 (.slice a1 n1 c1) la) := HS1.out.below hb
  replace HS2 : Hid (Sr w10 (.slice a2 n2 c2) lb) := HS2.out.below hb
  replace Hbo : Hid (Sr w10 (.slice boa bon boc) BL) := Hbo.out.below hb
  replace Hei : Hid (Sr w10 (.slice eia ein eic) EL) := Hei.out.below hb
  replace Hle : Hid (Sr w10 (.slice lea len lec) LL) := Hle.out.below hb
  replace Hob : Hid (Sr w10 (.slice oba obn obc) BL) := Hob.out.below hb
  replace hB : Below W.heap.size W w10 := hB.trans (hb.mono hB.size)
  clear hb
  clear Hob
  go_wp2_with fail
  have hcall := within_at _ _ BL la w10 Hbo.out HS1.out (fits_small HA.out.rB) HF1.out HA.out.w1
  refine hcall.mono ?_
  clear hcall
  rintro e w11 ⟨rfl, hb⟩
  replace HS1 : Hid (Sr w11 (.slice a1 n1 c1) la) := HS1.out.below hb
  replace HS2 : Hid (Sr w11 (.slice a2 n2 c2) lb) := HS2.out.below hb
  replace Hbo : Hid (Sr w11 (.slice boa bon boc) BL) := Hbo.out.below hb
  replace Hei : Hid (Sr w11 (.slice eia ein eic) EL) := Hei.out.below hb
  replace Hle : Hid (Sr w11 (.slice lea len lec) LL) := Hle.out.below hb
  replace hB : Below W.heap.size W w11 := hB.trans (hb.mono hB.size)
  clear hb
  go_wp2_with fail
  have hcall := within_at _ _ BL lb w11 Hbo.out HS2.out (fits_small HA.out.rB) HF2.out HA.out.w2
  refine hcall.mono ?_
  clear hcall
  rintro e w12 ⟨rfl, hb⟩
  replace HS1 : Hid (Sr w12 (.slice a1 n1 c1) la) := HS1.out.below hb
  replace HS2 : Hid (Sr w12 (.slice a2 n2 c2) lb) := HS2.out.below hb
  replace Hbo : Hid (Sr w12 (.slice boa bon boc) BL) := Hbo.out.below hb
  replace Hei : Hid (Sr w12 (.slice eia ein eic) EL) := Hei.out.below hb
  replace Hle : Hid (Sr w12 (.slice lea len lec) LL) := Hle.out.below hb
  replace hB : Below W.heap.size W w12 := hB.trans (hb.mono hB.size)
  clear hb
  go_wp2_with fail
  have hcall := either_at _ _ LL lb w12 Hle.out HS2.out (fits_small HA.out.rL) HF2.out (by rw [HA.out.ag]; exact HA.out.rE.1)
  rw [HA.out.ag] at hcall
  refine hcall.mono ?_
  clear hcall
  rintro e w13 ⟨aga, agn, agc, rfl, hs, hb⟩
  have Hag : Hid (Sr w13 (.slice aga agn agc) EL) := hs
  clear hs
  replace HS1 : Hid (Sr w13 (.slice a1 n1 c1) la) := HS1.out.below hb
  replace HS2 : Hid (Sr w13 (.slice a2 n2 c2) lb) := HS2.out.below hb
  replace Hbo : Hid (Sr w13 (.slice boa bon boc) BL) := Hbo.out.below hb
  replace Hei : Hid (Sr w13 (.slice eia ein eic) EL) := Hei.out.below hb
  replace Hle : Hid (Sr w13 (.slice lea len lec) LL) := Hle.out.below hb
  replace hB : Below W.heap.size W w13 := hB.trans (hb.mono hB.size)
  clear hb
  go_wp2_with fail
  have hcall := domsame_same _ _ EL EL w13 Hag.out Hei.out (fits_small HA.out.rE) (fits_small HA.out.rE) rfl
  refine hcall.mono ?_
  clear hcall
  rintro e w14 ⟨rfl, hb⟩
  replace HS1 : Hid (Sr w14 (.slice a1 n1 c1) la) := HS1.out.below hb
  replace HS2 : Hid (Sr w14 (.slice a2 n2 c2) lb) := HS2.out.below hb
  replace Hbo : Hid (Sr w14 (.slice boa bon boc) BL) := Hbo.out.below hb
  replace Hei : Hid (Sr w14 (.slice eia ein eic) EL) := Hei.out.below hb
  replace Hle : Hid (Sr w14 (.slice lea len lec) LL) := Hle.out.below hb
  replace Hag : Hid (Sr w14 (.slice aga agn agc) EL) := Hag.out.below hb
  replace hB : Below W.heap.size W w14 := hB.trans (hb.mono hB.size)
  clear hb
  clear Hag Hle
  go_wp2_with fail
  have hcall := size_at _ BL m1 w14 Hbo.out (fits_small HA.out.rB) HA.out.s1
  refine hcall.mono ?_
  clear hcall
  rintro e w15 ⟨rfl, hb⟩
  replace HS1 : Hid (Sr w15 (.slice a1 n1 c1) la) := HS1.out.below hb
  replace HS2 : Hid (Sr w15 (.slice a2 n2 c2) lb) := HS2.out.below hb
  replace Hbo : Hid (Sr w15 (.slice boa bon boc) BL) := Hbo.out.below hb
  replace Hei : Hid (Sr w15 (.slice eia ein eic) EL) := Hei.out.below hb
  replace hB : Below W.heap.size W w15 := hB.trans (hb.mono hB.size)
  clear hb
  go_wp2_with fail
  have hcall := size_at _ EL m2 w15 Hei.out (fits_small HA.out.rE) HA.out.s2
  refine hcall.mono ?_
  clear hcall
  rintro e w16 ⟨rfl, hb⟩
  replace HS1 : Hid (Sr w16 (.slice a1 n1 c1) la) := HS1.out.below hb
  replace HS2 : Hid (Sr w16 (.slice a2 n2 c2) lb) := HS2.out.below hb
  replace Hbo : Hid (Sr w16 (.slice boa bon boc) BL) := Hbo.out.below hb
  replace Hei : Hid (Sr w16 (.slice eia ein eic) EL) := Hei.out.below hb
  replace hB : Below W.heap.size W w16 := hB.trans (hb.mono hB.size)
  clear hb
  clear Hbo Hei
  go_wp2_with fail
  have hcall := size_at _ la m3 w16 HS1.out HF1.out HA.out.s3
  refine hcall.mono ?_
  clear hcall
  rintro e w17 ⟨rfl, hb⟩
  replace HS1 : Hid (Sr w17 (.slice a1 n1 c1) la) := HS1.out.below hb
  replace HS2 : Hid (Sr w17 (.slice a2 n2 c2) lb) := HS2.out.below hb
  replace hB : Below W.heap.size W w17 := hB.trans (hb.mono hB.size)
  clear hb
  go_wp2_with fail
  have hcall := size_at _ lb m4 w17 HS2.out HF2.out HA.out.s4
  refine hcall.mono ?_
  clear hcall
  rintro e w18 ⟨rfl, hb⟩
  replace HS1 : Hid (Sr w18 (.slice a1 n1 c1) la) := HS1.out.below hb
  replace HS2 : Hid (Sr w18 (.slice a2 n2 c2) lb) := HS2.out.below hb
  replace hB : Below W.heap.size W w18 := hB.trans (hb.mono hB.size)
  clear hb
  obtain ⟨hsz, ⟨p1, p2⟩, ⟨p3, p4⟩, ⟨p5, p6⟩, ⟨p7, p8⟩⟩ := HSZ.out
  have z1 : (m1 + m2 == m3 + m4) = true := by simpa using hsz
  have z2 : (m1 + m2 != m3 + m4) = false := by simpa using hsz
  have z3 : decide (m1 + m2 = m3 + m4) = true := by simpa using hsz
  have z4 : (wrap64 (m1 + m2) != m3 + m4) = false := by rw [show wrap64 (m1 + m2) = m1 + m2 by unfold wrap64; omega]; exact z2
  have z5 : (wrap64 (m1 + m2) == m3 + m4) = true := by rw [show wrap64 (m1 + m2) = m1 + m2 by unfold wrap64; omega]; exact z1
  clear hsz
  by_cases hn : n1 < 4096
  · have hnl : la.length < 4096 := by rw [← HN1.out]; exact hn
    have g1 : decide ((n1 : Int) < 4096) = true := by simp; omega
    have g2 : decide (4096 ≤ (n1 : Int)) = false := by simp; omega
    by_cases hv1 : -1000000 ≤ v
    · have e1 : decide (-1000000 ≤ v) = true := by simpa using hv1
      by_cases hv2 : v ≤ 1000000
      · have e2 : decide (v ≤ 1000000) = true := by simpa using hv2
        go_wp2_with fail
        have hcall := not_at _ la w18 HS1.out HF1.out
        refine hcall.mono ?_
        clear hcall
        rintro e w19 ⟨naa, nan, nac, rfl, hs, hb⟩
        have Hna : Hid (Sr w19 (.slice naa nan nac) (notR la)) := hs
        clear hs
        replace HS1 : Hid (Sr w19 (.slice a1 n1 c1) la) := HS1.out.below hb
        replace HS2 : Hid (Sr w19 (.slice a2 n2 c2) lb) := HS2.out.below hb
        replace hB : Below W.heap.size W w19 := hB.trans (hb.mono hB.size)
        clear hb
        have hnv : hasV (notR la) v = false := by
          have h9 := HA.out.vi
          unfold hasV at h9 ⊢
          rw [tk_yes (notR_is hnl).2, (notR_is hnl).1]
          exact decide_eq_false fun h => (((notL_facts (tk_right la)).2 v).1 h).2.2 (of_decide_eq_true h9)
        have HNV : Hid (hasV (notR la) v = false) := hnv
        clear hnv
        go_wp2_with fail
        have hcall := has_at _ (notR la) v false w19 Hna.out (fits_small (notR_is hnl).2) HNV.out
        refine hcall.mono ?_
        clear hcall
        rintro e w20 ⟨rfl, hb⟩
        replace HS1 : Hid (Sr w20 (.slice a1 n1 c1) la) := HS1.out.below hb
        replace HS2 : Hid (Sr w20 (.slice a2 n2 c2) lb) := HS2.out.below hb
        replace Hna : Hid (Sr w20 (.slice naa nan nac) (notR la)) := Hna.out.below hb
        replace hB : Below W.heap.size W w20 := hB.trans (hb.mono hB.size)
        clear hb
        clear Hna
        go_wp2_with fail
        have hcall := not_at _ la w20 HS1.out HF1.out
        refine hcall.mono ?_
        clear hcall
        rintro e w21 ⟨noa, non, noc, rfl, hs, hb⟩
        have Hno : Hid (Sr w21 (.slice noa non noc) (notR la)) := hs
        clear hs
        replace HS1 : Hid (Sr w21 (.slice a1 n1 c1) la) := HS1.out.below hb
        replace HS2 : Hid (Sr w21 (.slice a2 n2 c2) lb) := HS2.out.below hb
        replace hB : Below W.heap.size W w21 := hB.trans (hb.mono hB.size)
        clear hb
        go_wp2_with fail
        have hcall := not_at _ (notR la) w21 Hno.out (fits_small (notR_is hnl).2)
        refine hcall.mono ?_
        clear hcall
        rintro e w22 ⟨nna, nnn, nnc, rfl, hs, hb⟩
        have Hnn : Hid (Sr w22 (.slice nna nnn nnc) (notR (notR la))) := hs
        clear hs
        replace HS1 : Hid (Sr w22 (.slice a1 n1 c1) la) := HS1.out.below hb
        replace HS2 : Hid (Sr w22 (.slice a2 n2 c2) lb) := HS2.out.below hb
        replace Hno : Hid (Sr w22 (.slice noa non noc) (notR la)) := Hno.out.below hb
        replace hB : Below W.heap.size W w22 := hB.trans (hb.mono hB.size)
        clear hb
        have hnn : tk (notR (notR la)) = tk la := by rw [notR_notR hnl, tk_yes (tk_right la)]
        have HNN : Hid (tk (notR (notR la)) = tk la) := hnn
        clear hnn
        go_wp2_with fail
        have hcall := domsame_same _ _ (notR (notR la)) la w22 Hnn.out HS1.out (by rw [notR_notR hnl]; exact fits_small (tk_right la)) HF1.out HNN.out
        refine hcall.mono ?_
        clear hcall
        rintro e w23 ⟨rfl, hb⟩
        replace HS1 : Hid (Sr w23 (.slice a1 n1 c1) la) := HS1.out.below hb
        replace HS2 : Hid (Sr w23 (.slice a2 n2 c2) lb) := HS2.out.below hb
        replace Hno : Hid (Sr w23 (.slice noa non noc) (notR la)) := Hno.out.below hb
        replace Hnn : Hid (Sr w23 (.slice nna nnn nnc) (notR (notR la))) := Hnn.out.below hb
        replace hB : Below W.heap.size W w23 := hB.trans (hb.mono hB.size)
        clear hb
        go_wp2_with fail
        refine (known22 _ (HM.out.below hB hM0) (Tens.here HT.out hB)).mono ?_
        rintro e wz ⟨rfl, hb⟩
        replace hB : Below W.heap.size W wz := hB.trans (hb.mono hB.size)
        clear hb
        go_wp2
        go_ret
        exact ⟨rfl, hB⟩
      · have e2 : decide (v ≤ 1000000) = false := by simpa using hv2
        go_wp2_with fail
        have hcall := not_at _ la w18 HS1.out HF1.out
        refine hcall.mono ?_
        clear hcall
        rintro e w19 ⟨noa, non, noc, rfl, hs, hb⟩
        have Hno : Hid (Sr w19 (.slice noa non noc) (notR la)) := hs
        clear hs
        replace HS1 : Hid (Sr w19 (.slice a1 n1 c1) la) := HS1.out.below hb
        replace HS2 : Hid (Sr w19 (.slice a2 n2 c2) lb) := HS2.out.below hb
        replace hB : Below W.heap.size W w19 := hB.trans (hb.mono hB.size)
        clear hb
        go_wp2_with fail
        have hcall := not_at _ (notR la) w19 Hno.out (fits_small (notR_is hnl).2)
        refine hcall.mono ?_
        clear hcall
        rintro e w20 ⟨nna, nnn, nnc, rfl, hs, hb⟩
        have Hnn : Hid (Sr w20 (.slice nna nnn nnc) (notR (notR la))) := hs
        clear hs
        replace HS1 : Hid (Sr w20 (.slice a1 n1 c1) la) := HS1.out.below hb
        replace HS2 : Hid (Sr w20 (.slice a2 n2 c2) lb) := HS2.out.below hb
        replace Hno : Hid (Sr w20 (.slice noa non noc) (notR la)) := Hno.out.below hb
        replace hB : Below W.heap.size W w20 := hB.trans (hb.mono hB.size)
        clear hb
        have hnn : tk (notR (notR la)) = tk la := by rw [notR_notR hnl, tk_yes (tk_right la)]
        have HNN : Hid (tk (notR (notR la)) = tk la) := hnn
        clear hnn
        go_wp2_with fail
        have hcall := domsame_same _ _ (notR (notR la)) la w20 Hnn.out HS1.out (by rw [notR_notR hnl]; exact fits_small (tk_right la)) HF1.out HNN.out
        refine hcall.mono ?_
        clear hcall
        rintro e w21 ⟨rfl, hb⟩
        replace HS1 : Hid (Sr w21 (.slice a1 n1 c1) la) := HS1.out.below hb
        replace HS2 : Hid (Sr w21 (.slice a2 n2 c2) lb) := HS2.out.below hb
        replace Hno : Hid (Sr w21 (.slice noa non noc) (notR la)) := Hno.out.below hb
        replace Hnn : Hid (Sr w21 (.slice nna nnn nnc) (notR (notR la))) := Hnn.out.below hb
        replace hB : Below W.heap.size W w21 := hB.trans (hb.mono hB.size)
        clear hb
        go_wp2_with fail
        refine (known22 _ (HM.out.below hB hM0) (Tens.here HT.out hB)).mono ?_
        rintro e wz ⟨rfl, hb⟩
        replace hB : Below W.heap.size W wz := hB.trans (hb.mono hB.size)
        clear hb
        go_wp2
        go_ret
        exact ⟨rfl, hB⟩
    · have e1 : decide (-1000000 ≤ v) = false := by simpa using hv1
      go_wp2_with fail
      have hcall := not_at _ la w18 HS1.out HF1.out
      refine hcall.mono ?_
      clear hcall
      rintro e w19 ⟨noa, non, noc, rfl, hs, hb⟩
      have Hno : Hid (Sr w19 (.slice noa non noc) (notR la)) := hs
      clear hs
      replace HS1 : Hid (Sr w19 (.slice a1 n1 c1) la) := HS1.out.below hb
      replace HS2 : Hid (Sr w19 (.slice a2 n2 c2) lb) := HS2.out.below hb
      replace hB : Below W.heap.size W w19 := hB.trans (hb.mono hB.size)
      clear hb
      go_wp2_with fail
      have hcall := not_at _ (notR la) w19 Hno.out (fits_small (notR_is hnl).2)
      refine hcall.mono ?_
      clear hcall
      rintro e w20 ⟨nna, nnn, nnc, rfl, hs, hb⟩
      have Hnn : Hid (Sr w20 (.slice nna nnn nnc) (notR (notR la))) := hs
      clear hs
      replace HS1 : Hid (Sr w20 (.slice a1 n1 c1) la) := HS1.out.below hb
      replace HS2 : Hid (Sr w20 (.slice a2 n2 c2) lb) := HS2.out.below hb
      replace Hno : Hid (Sr w20 (.slice noa non noc) (notR la)) := Hno.out.below hb
      replace hB : Below W.heap.size W w20 := hB.trans (hb.mono hB.size)
      clear hb
      have hnn : tk (notR (notR la)) = tk la := by rw [notR_notR hnl, tk_yes (tk_right la)]
      have HNN : Hid (tk (notR (notR la)) = tk la) := hnn
      clear hnn
      go_wp2_with fail
      have hcall := domsame_same _ _ (notR (notR la)) la w20 Hnn.out HS1.out (by rw [notR_notR hnl]; exact fits_small (tk_right la)) HF1.out HNN.out
      refine hcall.mono ?_
      clear hcall
      rintro e w21 ⟨rfl, hb⟩
      replace HS1 : Hid (Sr w21 (.slice a1 n1 c1) la) := HS1.out.below hb
      replace HS2 : Hid (Sr w21 (.slice a2 n2 c2) lb) := HS2.out.below hb
      replace Hno : Hid (Sr w21 (.slice noa non noc) (notR la)) := Hno.out.below hb
      replace Hnn : Hid (Sr w21 (.slice nna nnn nnc) (notR (notR la))) := Hnn.out.below hb
      replace hB : Below W.heap.size W w21 := hB.trans (hb.mono hB.size)
      clear hb
      go_wp2_with fail
      refine (known22 _ (HM.out.below hB hM0) (Tens.here HT.out hB)).mono ?_
      rintro e wz ⟨rfl, hb⟩
      replace hB : Below W.heap.size W wz := hB.trans (hb.mono hB.size)
      clear hb
      go_wp2
      go_ret
      exact ⟨rfl, hB⟩
  · have g1 : decide ((n1 : Int) < 4096) = false := by simp; omega
    have g2 : decide (4096 ≤ (n1 : Int)) = true := by simp; omega
    by_cases hv1 : -1000000 ≤ v
    · have e1 : decide (-1000000 ≤ v) = true := by simpa using hv1
      by_cases hv2 : v ≤ 1000000
      · have e2 : decide (v ≤ 1000000) = true := by simpa using hv2
        go_wp2_with fail
        refine (known22 _ (HM.out.below hB hM0) (Tens.here HT.out hB)).mono ?_
        rintro e wz ⟨rfl, hb⟩
        replace hB : Below W.heap.size W wz := hB.trans (hb.mono hB.size)
        clear hb
        go_wp2
        go_ret
        exact ⟨rfl, hB⟩
      · have e2 : decide (v ≤ 1000000) = false := by simpa using hv2
        go_wp2_with fail
        refine (known22 _ (HM.out.below hB hM0) (Tens.here HT.out hB)).mono ?_
        rintro e wz ⟨rfl, hb⟩
        replace hB : Below W.heap.size W wz := hB.trans (hb.mono hB.size)
        clear hb
        go_wp2
        go_ret
        exact ⟨rfl, hB⟩
    · have e1 : decide (-1000000 ≤ v) = false := by simpa using hv1
      go_wp2_with fail
      refine (known22 _ (HM.out.below hB hM0) (Tens.here HT.out hB)).mono ?_
      rintro e wz ⟨rfl, hb⟩
      replace hB : Below W.heap.size W wz := hB.trans (hb.mono hB.size)
      clear hb
      go_wp2
      go_ret
      exact ⟨rfl, hB⟩
set_option maxRecDepth 100000 in
set_option maxHeartbeats 4000000 in
theorem algebra_ft (a1 a2 : Option Addr) (n1 n2 c1 c2 : Nat) (la lb : List Rg) (v : Int) (W : World) (h1 : Sr W (.slice a1 n1 c1) la) (h2 : Sr W (.slice a2 n2 c2) lb) (hf1 : FitsR la) (hf2 : FitsR lb) (hM : MaxL W) (hT : Tens W.heap.size W) (hl : n1 + n2 ≤ 4096) (hn1 : n1 = la.length)
    (BL EL LL : List Rg) (m1 m2 m3 m4 : Int) (hA : Alg la lb v false true BL EL LL m1 m2 m3 m4) (hsz : m1 + m2 = m3 + m4) (hb1 : 0 ≤ m1 ∧ m1 ≤ 10000000) (hb2 : 0 ≤ m2 ∧ m2 ≤ 10000000) (hb3 : 0 ≤ m3 ∧ m3 ≤ 10000000) (hb4 : 0 ≤ m4 ∧ m4 ≤ 10000000) :
    Calls Tryz.prog 6 #[.slice a1 n1 c1, .slice a2 n2 c2, .int .i64 v] W fun e w' => e = .returned (.bool true) ∧ Below W.heap.size W w' := by
  have hM0 := hM.1
  have HM : Hid (MaxL W) := hM
  have HT : Hid (Tens W.heap.size W) := hT
  have HF1 : Hid (FitsR la) := hf1
  have HF2 : Hid (FitsR lb) := hf2
  have HA : Hid (Alg la lb v false true BL EL LL m1 m2 m3 m4) := hA
  have HN1 : Hid (n1 = la.length) := hn1
  have hlt : decide (4096 < (n1 : Int) + (n2 : Int)) = false := by simp; omega
  have HSZ : Hid (m1 + m2 = m3 + m4 ∧ (0 ≤ m1 ∧ m1 ≤ 10000000) ∧ (0 ≤ m2 ∧ m2 ≤ 10000000) ∧ (0 ≤ m3 ∧ m3 ≤ 10000000) ∧ (0 ≤ m4 ∧ m4 ≤ 10000000)) := ⟨hsz, hb1, hb2, hb3, hb4⟩
  have HS1 : Hid (Sr W (.slice a1 n1 c1) la) := h1
  have HS2 : Hid (Sr W (.slice a2 n2 c2) lb) := h2
  have hB : Below W.heap.size W W := Below.refl _ _
  clear hM hT hf1 hf2 hA hn1 hsz hb1 hb2 hb3 hb4 h1 h2
  go_enter Tryz.func6, Tryz.ntmps6
  go_wp2_with fail
  have hcall := both_at _ _ la lb W HS1.out HS2.out HF1.out HF2.out HA.out.few
  rw [HA.out.bl] at hcall
  refine hcall.mono ?_
  clear hcall
  rintro e w1 ⟨boa, bon, boc, rfl, hs, hb⟩
  have Hbo : Hid (Sr w1 (.slice boa bon boc) BL) := hs
  clear hs
  replace HS1 : Hid (Sr w1 (.slice a1 n1 c1) la) := HS1.out.below hb
  replace HS2 : Hid (Sr w1 (.slice a2 n2 c2) lb) := HS2.out.below hb
  replace hB : Below W.heap.size W w1 := hB.trans (hb.mono hB.size)
  clear hb
  go_wp2_with fail
  have hcall := either_at _ _ la lb w1 HS1.out HS2.out HF1.out HF2.out (by rw [HA.out.el]; exact HA.out.rE.1)
  rw [HA.out.el] at hcall
  refine hcall.mono ?_
  clear hcall
  rintro e w2 ⟨eia, ein, eic, rfl, hs, hb⟩
  have Hei : Hid (Sr w2 (.slice eia ein eic) EL) := hs
  clear hs
  replace HS1 : Hid (Sr w2 (.slice a1 n1 c1) la) := HS1.out.below hb
  replace HS2 : Hid (Sr w2 (.slice a2 n2 c2) lb) := HS2.out.below hb
  replace Hbo : Hid (Sr w2 (.slice boa bon boc) BL) := Hbo.out.below hb
  replace hB : Below W.heap.size W w2 := hB.trans (hb.mono hB.size)
  clear hb
  go_wp2_with fail
  have hcall := less_at _ _ la lb w2 HS1.out HS2.out HF1.out HF2.out HA.out.few
  rw [HA.out.ll] at hcall
  refine hcall.mono ?_
  clear hcall
  rintro e w3 ⟨lea, len, lec, rfl, hs, hb⟩
  have Hle : Hid (Sr w3 (.slice lea len lec) LL) := hs
  clear hs
  replace HS1 : Hid (Sr w3 (.slice a1 n1 c1) la) := HS1.out.below hb
  replace HS2 : Hid (Sr w3 (.slice a2 n2 c2) lb) := HS2.out.below hb
  replace Hbo : Hid (Sr w3 (.slice boa bon boc) BL) := Hbo.out.below hb
  replace Hei : Hid (Sr w3 (.slice eia ein eic) EL) := Hei.out.below hb
  replace hB : Below W.heap.size W w3 := hB.trans (hb.mono hB.size)
  clear hb
  go_wp2_with fail
  have hcall := has_at _ la v false w3 HS1.out HF1.out HA.out.vi
  refine hcall.mono ?_
  clear hcall
  rintro e w4 ⟨rfl, hb⟩
  replace HS1 : Hid (Sr w4 (.slice a1 n1 c1) la) := HS1.out.below hb
  replace HS2 : Hid (Sr w4 (.slice a2 n2 c2) lb) := HS2.out.below hb
  replace Hbo : Hid (Sr w4 (.slice boa bon boc) BL) := Hbo.out.below hb
  replace Hei : Hid (Sr w4 (.slice eia ein eic) EL) := Hei.out.below hb
  replace Hle : Hid (Sr w4 (.slice lea len lec) LL) := Hle.out.below hb
  replace hB : Below W.heap.size W w4 := hB.trans (hb.mono hB.size)
  clear hb
  go_wp2_with fail
  have hcall := has_at _ lb v true w4 HS2.out HF2.out HA.out.vo
  refine hcall.mono ?_
  clear hcall
  rintro e w5 ⟨rfl, hb⟩
  replace HS1 : Hid (Sr w5 (.slice a1 n1 c1) la) := HS1.out.below hb
  replace HS2 : Hid (Sr w5 (.slice a2 n2 c2) lb) := HS2.out.below hb
  replace Hbo : Hid (Sr w5 (.slice boa bon boc) BL) := Hbo.out.below hb
  replace Hei : Hid (Sr w5 (.slice eia ein eic) EL) := Hei.out.below hb
  replace Hle : Hid (Sr w5 (.slice lea len lec) LL) := Hle.out.below hb
  replace hB : Below W.heap.size W w5 := hB.trans (hb.mono hB.size)
  clear hb
  go_wp2_with fail
  have hcall := has_at _ BL v false w5 Hbo.out (fits_small HA.out.rB) HA.out.vB
  refine hcall.mono ?_
  clear hcall
  rintro e w6 ⟨rfl, hb⟩
  replace HS1 : Hid (Sr w6 (.slice a1 n1 c1) la) := HS1.out.below hb
  replace HS2 : Hid (Sr w6 (.slice a2 n2 c2) lb) := HS2.out.below hb
  replace Hbo : Hid (Sr w6 (.slice boa bon boc) BL) := Hbo.out.below hb
  replace Hei : Hid (Sr w6 (.slice eia ein eic) EL) := Hei.out.below hb
  replace Hle : Hid (Sr w6 (.slice lea len lec) LL) := Hle.out.below hb
  replace hB : Below W.heap.size W w6 := hB.trans (hb.mono hB.size)
  clear hb
  go_wp2_with fail
  have hcall := has_at _ EL v true w6 Hei.out (fits_small HA.out.rE) HA.out.vE
  refine hcall.mono ?_
  clear hcall
  rintro e w7 ⟨rfl, hb⟩
  replace HS1 : Hid (Sr w7 (.slice a1 n1 c1) la) := HS1.out.below hb
  replace HS2 : Hid (Sr w7 (.slice a2 n2 c2) lb) := HS2.out.below hb
  replace Hbo : Hid (Sr w7 (.slice boa bon boc) BL) := Hbo.out.below hb
  replace Hei : Hid (Sr w7 (.slice eia ein eic) EL) := Hei.out.below hb
  replace Hle : Hid (Sr w7 (.slice lea len lec) LL) := Hle.out.below hb
  replace hB : Below W.heap.size W w7 := hB.trans (hb.mono hB.size)
  clear hb
  go_wp2_with fail
  have hcall := has_at _ LL v false w7 Hle.out (fits_small HA.out.rL) HA.out.vL
  refine hcall.mono ?_
  clear hcall
  rintro e w8 ⟨rfl, hb⟩
  replace HS1 : Hid (Sr w8 (.slice a1 n1 c1) la) := HS1.out.below hb
  replace HS2 : Hid (Sr w8 (.slice a2 n2 c2) lb) := HS2.out.below hb
  replace Hbo : Hid (Sr w8 (.slice boa bon boc) BL) := Hbo.out.below hb
  replace Hei : Hid (Sr w8 (.slice eia ein eic) EL) := Hei.out.below hb
  replace Hle : Hid (Sr w8 (.slice lea len lec) LL) := Hle.out.below hb
  replace hB : Below W.heap.size W w8 := hB.trans (hb.mono hB.size)
  clear hb
  go_wp2_with fail
  have hcall := both_at _ _ lb la w8 HS2.out HS1.out HF2.out HF1.out (by have := HA.out.few; omega)
  rw [HA.out.lb'] at hcall
  refine hcall.mono ?_
  clear hcall
  rintro e w9 ⟨oba, obn, obc, rfl, hs, hb⟩
  have Hob : Hid (Sr w9 (.slice oba obn obc) BL) := hs
  clear hs
  replace HS1 : Hid (Sr w9 (.slice a1 n1 c1) la) := HS1.out.below hb
  replace HS2 : Hid (Sr w9 (.slice a2 n2 c2) lb) := HS2.out.below hb
  replace Hbo : Hid (Sr w9 (.slice boa bon boc) BL) := Hbo.out.below hb
  replace Hei : Hid (Sr w9 (.slice eia ein eic) EL) := Hei.out.below hb
  replace Hle : Hid (Sr w9 (.slice lea len lec) LL) := Hle.out.below hb
  replace hB : Below W.heap.size W w9 := hB.trans (hb.mono hB.size)
  clear hb
  go_wp2_with fail
  have hcall := domsame_same _ _ BL BL w9 Hbo.out Hob.out (fits_small HA.out.rB) (fits_small HA.out.rB) rfl
  refine hcall.mono ?_
  clear hcall
  rintro e w10 ⟨rfl, hb⟩
  replace HS1 : Hid (Sr w10 (.slice a1 n1 c1) la) := HS1.out.below hb
  replace HS2 : Hid (Sr w10 (.slice a2 n2 c2) lb) := HS2.out.below hb
  replace Hbo : Hid (Sr w10 (.slice boa bon boc) BL) := Hbo.out.below hb
  replace Hei : Hid (Sr w10 (.slice eia ein eic) EL) := Hei.out.below hb
  replace Hle : Hid (Sr w10 (.slice lea len lec) LL) := Hle.out.below hb
  replace Hob : Hid (Sr w10 (.slice oba obn obc) BL) := Hob.out.below hb
  replace hB : Below W.heap.size W w10 := hB.trans (hb.mono hB.size)
  clear hb
  clear Hob
  go_wp2_with fail
  have hcall := within_at _ _ BL la w10 Hbo.out HS1.out (fits_small HA.out.rB) HF1.out HA.out.w1
  refine hcall.mono ?_
  clear hcall
  rintro e w11 ⟨rfl, hb⟩
  replace HS1 : Hid (Sr w11 (.slice a1 n1 c1) la) := HS1.out.below hb
  replace HS2 : Hid (Sr w11 (.slice a2 n2 c2) lb) := HS2.out.below hb
  replace Hbo : Hid (Sr w11 (.slice boa bon boc) BL) := Hbo.out.below hb
  replace Hei : Hid (Sr w11 (.slice eia ein eic) EL) := Hei.out.below hb
  replace Hle : Hid (Sr w11 (.slice lea len lec) LL) := Hle.out.below hb
  replace hB : Below W.heap.size W w11 := hB.trans (hb.mono hB.size)
  clear hb
  go_wp2_with fail
  have hcall := within_at _ _ BL lb w11 Hbo.out HS2.out (fits_small HA.out.rB) HF2.out HA.out.w2
  refine hcall.mono ?_
  clear hcall
  rintro e w12 ⟨rfl, hb⟩
  replace HS1 : Hid (Sr w12 (.slice a1 n1 c1) la) := HS1.out.below hb
  replace HS2 : Hid (Sr w12 (.slice a2 n2 c2) lb) := HS2.out.below hb
  replace Hbo : Hid (Sr w12 (.slice boa bon boc) BL) := Hbo.out.below hb
  replace Hei : Hid (Sr w12 (.slice eia ein eic) EL) := Hei.out.below hb
  replace Hle : Hid (Sr w12 (.slice lea len lec) LL) := Hle.out.below hb
  replace hB : Below W.heap.size W w12 := hB.trans (hb.mono hB.size)
  clear hb
  go_wp2_with fail
  have hcall := either_at _ _ LL lb w12 Hle.out HS2.out (fits_small HA.out.rL) HF2.out (by rw [HA.out.ag]; exact HA.out.rE.1)
  rw [HA.out.ag] at hcall
  refine hcall.mono ?_
  clear hcall
  rintro e w13 ⟨aga, agn, agc, rfl, hs, hb⟩
  have Hag : Hid (Sr w13 (.slice aga agn agc) EL) := hs
  clear hs
  replace HS1 : Hid (Sr w13 (.slice a1 n1 c1) la) := HS1.out.below hb
  replace HS2 : Hid (Sr w13 (.slice a2 n2 c2) lb) := HS2.out.below hb
  replace Hbo : Hid (Sr w13 (.slice boa bon boc) BL) := Hbo.out.below hb
  replace Hei : Hid (Sr w13 (.slice eia ein eic) EL) := Hei.out.below hb
  replace Hle : Hid (Sr w13 (.slice lea len lec) LL) := Hle.out.below hb
  replace hB : Below W.heap.size W w13 := hB.trans (hb.mono hB.size)
  clear hb
  go_wp2_with fail
  have hcall := domsame_same _ _ EL EL w13 Hag.out Hei.out (fits_small HA.out.rE) (fits_small HA.out.rE) rfl
  refine hcall.mono ?_
  clear hcall
  rintro e w14 ⟨rfl, hb⟩
  replace HS1 : Hid (Sr w14 (.slice a1 n1 c1) la) := HS1.out.below hb
  replace HS2 : Hid (Sr w14 (.slice a2 n2 c2) lb) := HS2.out.below hb
  replace Hbo : Hid (Sr w14 (.slice boa bon boc) BL) := Hbo.out.below hb
  replace Hei : Hid (Sr w14 (.slice eia ein eic) EL) := Hei.out.below hb
  replace Hle : Hid (Sr w14 (.slice lea len lec) LL) := Hle.out.below hb
  replace Hag : Hid (Sr w14 (.slice aga agn agc) EL) := Hag.out.below hb
  replace hB : Below W.heap.size W w14 := hB.trans (hb.mono hB.size)
  clear hb
  clear Hag Hle
  go_wp2_with fail
  have hcall := size_at _ BL m1 w14 Hbo.out (fits_small HA.out.rB) HA.out.s1
  refine hcall.mono ?_
  clear hcall
  rintro e w15 ⟨rfl, hb⟩
  replace HS1 : Hid (Sr w15 (.slice a1 n1 c1) la) := HS1.out.below hb
  replace HS2 : Hid (Sr w15 (.slice a2 n2 c2) lb) := HS2.out.below hb
  replace Hbo : Hid (Sr w15 (.slice boa bon boc) BL) := Hbo.out.below hb
  replace Hei : Hid (Sr w15 (.slice eia ein eic) EL) := Hei.out.below hb
  replace hB : Below W.heap.size W w15 := hB.trans (hb.mono hB.size)
  clear hb
  go_wp2_with fail
  have hcall := size_at _ EL m2 w15 Hei.out (fits_small HA.out.rE) HA.out.s2
  refine hcall.mono ?_
  clear hcall
  rintro e w16 ⟨rfl, hb⟩
  replace HS1 : Hid (Sr w16 (.slice a1 n1 c1) la) := HS1.out.below hb
  replace HS2 : Hid (Sr w16 (.slice a2 n2 c2) lb) := HS2.out.below hb
  replace Hbo : Hid (Sr w16 (.slice boa bon boc) BL) := Hbo.out.below hb
  replace Hei : Hid (Sr w16 (.slice eia ein eic) EL) := Hei.out.below hb
  replace hB : Below W.heap.size W w16 := hB.trans (hb.mono hB.size)
  clear hb
  clear Hbo Hei
  go_wp2_with fail
  have hcall := size_at _ la m3 w16 HS1.out HF1.out HA.out.s3
  refine hcall.mono ?_
  clear hcall
  rintro e w17 ⟨rfl, hb⟩
  replace HS1 : Hid (Sr w17 (.slice a1 n1 c1) la) := HS1.out.below hb
  replace HS2 : Hid (Sr w17 (.slice a2 n2 c2) lb) := HS2.out.below hb
  replace hB : Below W.heap.size W w17 := hB.trans (hb.mono hB.size)
  clear hb
  go_wp2_with fail
  have hcall := size_at _ lb m4 w17 HS2.out HF2.out HA.out.s4
  refine hcall.mono ?_
  clear hcall
  rintro e w18 ⟨rfl, hb⟩
  replace HS1 : Hid (Sr w18 (.slice a1 n1 c1) la) := HS1.out.below hb
  replace HS2 : Hid (Sr w18 (.slice a2 n2 c2) lb) := HS2.out.below hb
  replace hB : Below W.heap.size W w18 := hB.trans (hb.mono hB.size)
  clear hb
  obtain ⟨hsz, ⟨p1, p2⟩, ⟨p3, p4⟩, ⟨p5, p6⟩, ⟨p7, p8⟩⟩ := HSZ.out
  have z1 : (m1 + m2 == m3 + m4) = true := by simpa using hsz
  have z2 : (m1 + m2 != m3 + m4) = false := by simpa using hsz
  have z3 : decide (m1 + m2 = m3 + m4) = true := by simpa using hsz
  have z4 : (wrap64 (m1 + m2) != m3 + m4) = false := by rw [show wrap64 (m1 + m2) = m1 + m2 by unfold wrap64; omega]; exact z2
  have z5 : (wrap64 (m1 + m2) == m3 + m4) = true := by rw [show wrap64 (m1 + m2) = m1 + m2 by unfold wrap64; omega]; exact z1
  clear hsz
  by_cases hn : n1 < 4096
  · have hnl : la.length < 4096 := by rw [← HN1.out]; exact hn
    have g1 : decide ((n1 : Int) < 4096) = true := by simp; omega
    have g2 : decide (4096 ≤ (n1 : Int)) = false := by simp; omega
    by_cases hv1 : -1000000 ≤ v
    · have e1 : decide (-1000000 ≤ v) = true := by simpa using hv1
      by_cases hv2 : v ≤ 1000000
      · have e2 : decide (v ≤ 1000000) = true := by simpa using hv2
        go_wp2_with fail
        have hcall := not_at _ la w18 HS1.out HF1.out
        refine hcall.mono ?_
        clear hcall
        rintro e w19 ⟨naa, nan, nac, rfl, hs, hb⟩
        have Hna : Hid (Sr w19 (.slice naa nan nac) (notR la)) := hs
        clear hs
        replace HS1 : Hid (Sr w19 (.slice a1 n1 c1) la) := HS1.out.below hb
        replace HS2 : Hid (Sr w19 (.slice a2 n2 c2) lb) := HS2.out.below hb
        replace hB : Below W.heap.size W w19 := hB.trans (hb.mono hB.size)
        clear hb
        have hnv : hasV (notR la) v = true := by
          have h9 := HA.out.vi
          unfold hasV at h9 ⊢
          rw [tk_yes (notR_is hnl).2, (notR_is hnl).1]
          exact decide_eq_true (((notL_facts (tk_right la)).2 v).2 ⟨hv1, hv2, of_decide_eq_false h9⟩)
        have HNV : Hid (hasV (notR la) v = true) := hnv
        clear hnv
        go_wp2_with fail
        have hcall := has_at _ (notR la) v true w19 Hna.out (fits_small (notR_is hnl).2) HNV.out
        refine hcall.mono ?_
        clear hcall
        rintro e w20 ⟨rfl, hb⟩
        replace HS1 : Hid (Sr w20 (.slice a1 n1 c1) la) := HS1.out.below hb
        replace HS2 : Hid (Sr w20 (.slice a2 n2 c2) lb) := HS2.out.below hb
        replace Hna : Hid (Sr w20 (.slice naa nan nac) (notR la)) := Hna.out.below hb
        replace hB : Below W.heap.size W w20 := hB.trans (hb.mono hB.size)
        clear hb
        clear Hna
        go_wp2_with fail
        have hcall := not_at _ la w20 HS1.out HF1.out
        refine hcall.mono ?_
        clear hcall
        rintro e w21 ⟨noa, non, noc, rfl, hs, hb⟩
        have Hno : Hid (Sr w21 (.slice noa non noc) (notR la)) := hs
        clear hs
        replace HS1 : Hid (Sr w21 (.slice a1 n1 c1) la) := HS1.out.below hb
        replace HS2 : Hid (Sr w21 (.slice a2 n2 c2) lb) := HS2.out.below hb
        replace hB : Below W.heap.size W w21 := hB.trans (hb.mono hB.size)
        clear hb
        go_wp2_with fail
        have hcall := not_at _ (notR la) w21 Hno.out (fits_small (notR_is hnl).2)
        refine hcall.mono ?_
        clear hcall
        rintro e w22 ⟨nna, nnn, nnc, rfl, hs, hb⟩
        have Hnn : Hid (Sr w22 (.slice nna nnn nnc) (notR (notR la))) := hs
        clear hs
        replace HS1 : Hid (Sr w22 (.slice a1 n1 c1) la) := HS1.out.below hb
        replace HS2 : Hid (Sr w22 (.slice a2 n2 c2) lb) := HS2.out.below hb
        replace Hno : Hid (Sr w22 (.slice noa non noc) (notR la)) := Hno.out.below hb
        replace hB : Below W.heap.size W w22 := hB.trans (hb.mono hB.size)
        clear hb
        have hnn : tk (notR (notR la)) = tk la := by rw [notR_notR hnl, tk_yes (tk_right la)]
        have HNN : Hid (tk (notR (notR la)) = tk la) := hnn
        clear hnn
        go_wp2_with fail
        have hcall := domsame_same _ _ (notR (notR la)) la w22 Hnn.out HS1.out (by rw [notR_notR hnl]; exact fits_small (tk_right la)) HF1.out HNN.out
        refine hcall.mono ?_
        clear hcall
        rintro e w23 ⟨rfl, hb⟩
        replace HS1 : Hid (Sr w23 (.slice a1 n1 c1) la) := HS1.out.below hb
        replace HS2 : Hid (Sr w23 (.slice a2 n2 c2) lb) := HS2.out.below hb
        replace Hno : Hid (Sr w23 (.slice noa non noc) (notR la)) := Hno.out.below hb
        replace Hnn : Hid (Sr w23 (.slice nna nnn nnc) (notR (notR la))) := Hnn.out.below hb
        replace hB : Below W.heap.size W w23 := hB.trans (hb.mono hB.size)
        clear hb
        go_wp2_with fail
        refine (known22 _ (HM.out.below hB hM0) (Tens.here HT.out hB)).mono ?_
        rintro e wz ⟨rfl, hb⟩
        replace hB : Below W.heap.size W wz := hB.trans (hb.mono hB.size)
        clear hb
        go_wp2
        go_ret
        exact ⟨rfl, hB⟩
      · have e2 : decide (v ≤ 1000000) = false := by simpa using hv2
        go_wp2_with fail
        have hcall := not_at _ la w18 HS1.out HF1.out
        refine hcall.mono ?_
        clear hcall
        rintro e w19 ⟨noa, non, noc, rfl, hs, hb⟩
        have Hno : Hid (Sr w19 (.slice noa non noc) (notR la)) := hs
        clear hs
        replace HS1 : Hid (Sr w19 (.slice a1 n1 c1) la) := HS1.out.below hb
        replace HS2 : Hid (Sr w19 (.slice a2 n2 c2) lb) := HS2.out.below hb
        replace hB : Below W.heap.size W w19 := hB.trans (hb.mono hB.size)
        clear hb
        go_wp2_with fail
        have hcall := not_at _ (notR la) w19 Hno.out (fits_small (notR_is hnl).2)
        refine hcall.mono ?_
        clear hcall
        rintro e w20 ⟨nna, nnn, nnc, rfl, hs, hb⟩
        have Hnn : Hid (Sr w20 (.slice nna nnn nnc) (notR (notR la))) := hs
        clear hs
        replace HS1 : Hid (Sr w20 (.slice a1 n1 c1) la) := HS1.out.below hb
        replace HS2 : Hid (Sr w20 (.slice a2 n2 c2) lb) := HS2.out.below hb
        replace Hno : Hid (Sr w20 (.slice noa non noc) (notR la)) := Hno.out.below hb
        replace hB : Below W.heap.size W w20 := hB.trans (hb.mono hB.size)
        clear hb
        have hnn : tk (notR (notR la)) = tk la := by rw [notR_notR hnl, tk_yes (tk_right la)]
        have HNN : Hid (tk (notR (notR la)) = tk la) := hnn
        clear hnn
        go_wp2_with fail
        have hcall := domsame_same _ _ (notR (notR la)) la w20 Hnn.out HS1.out (by rw [notR_notR hnl]; exact fits_small (tk_right la)) HF1.out HNN.out
        refine hcall.mono ?_
        clear hcall
        rintro e w21 ⟨rfl, hb⟩
        replace HS1 : Hid (Sr w21 (.slice a1 n1 c1) la) := HS1.out.below hb
        replace HS2 : Hid (Sr w21 (.slice a2 n2 c2) lb) := HS2.out.below hb
        replace Hno : Hid (Sr w21 (.slice noa non noc) (notR la)) := Hno.out.below hb
        replace Hnn : Hid (Sr w21 (.slice nna nnn nnc) (notR (notR la))) := Hnn.out.below hb
        replace hB : Below W.heap.size W w21 := hB.trans (hb.mono hB.size)
        clear hb
        go_wp2_with fail
        refine (known22 _ (HM.out.below hB hM0) (Tens.here HT.out hB)).mono ?_
        rintro e wz ⟨rfl, hb⟩
        replace hB : Below W.heap.size W wz := hB.trans (hb.mono hB.size)
        clear hb
        go_wp2
        go_ret
        exact ⟨rfl, hB⟩
    · have e1 : decide (-1000000 ≤ v) = false := by simpa using hv1
      go_wp2_with fail
      have hcall := not_at _ la w18 HS1.out HF1.out
      refine hcall.mono ?_
      clear hcall
      rintro e w19 ⟨noa, non, noc, rfl, hs, hb⟩
      have Hno : Hid (Sr w19 (.slice noa non noc) (notR la)) := hs
      clear hs
      replace HS1 : Hid (Sr w19 (.slice a1 n1 c1) la) := HS1.out.below hb
      replace HS2 : Hid (Sr w19 (.slice a2 n2 c2) lb) := HS2.out.below hb
      replace hB : Below W.heap.size W w19 := hB.trans (hb.mono hB.size)
      clear hb
      go_wp2_with fail
      have hcall := not_at _ (notR la) w19 Hno.out (fits_small (notR_is hnl).2)
      refine hcall.mono ?_
      clear hcall
      rintro e w20 ⟨nna, nnn, nnc, rfl, hs, hb⟩
      have Hnn : Hid (Sr w20 (.slice nna nnn nnc) (notR (notR la))) := hs
      clear hs
      replace HS1 : Hid (Sr w20 (.slice a1 n1 c1) la) := HS1.out.below hb
      replace HS2 : Hid (Sr w20 (.slice a2 n2 c2) lb) := HS2.out.below hb
      replace Hno : Hid (Sr w20 (.slice noa non noc) (notR la)) := Hno.out.below hb
      replace hB : Below W.heap.size W w20 := hB.trans (hb.mono hB.size)
      clear hb
      have hnn : tk (notR (notR la)) = tk la := by rw [notR_notR hnl, tk_yes (tk_right la)]
      have HNN : Hid (tk (notR (notR la)) = tk la) := hnn
      clear hnn
      go_wp2_with fail
      have hcall := domsame_same _ _ (notR (notR la)) la w20 Hnn.out HS1.out (by rw [notR_notR hnl]; exact fits_small (tk_right la)) HF1.out HNN.out
      refine hcall.mono ?_
      clear hcall
      rintro e w21 ⟨rfl, hb⟩
      replace HS1 : Hid (Sr w21 (.slice a1 n1 c1) la) := HS1.out.below hb
      replace HS2 : Hid (Sr w21 (.slice a2 n2 c2) lb) := HS2.out.below hb
      replace Hno : Hid (Sr w21 (.slice noa non noc) (notR la)) := Hno.out.below hb
      replace Hnn : Hid (Sr w21 (.slice nna nnn nnc) (notR (notR la))) := Hnn.out.below hb
      replace hB : Below W.heap.size W w21 := hB.trans (hb.mono hB.size)
      clear hb
      go_wp2_with fail
      refine (known22 _ (HM.out.below hB hM0) (Tens.here HT.out hB)).mono ?_
      rintro e wz ⟨rfl, hb⟩
      replace hB : Below W.heap.size W wz := hB.trans (hb.mono hB.size)
      clear hb
      go_wp2
      go_ret
      exact ⟨rfl, hB⟩
  · have g1 : decide ((n1 : Int) < 4096) = false := by simp; omega
    have g2 : decide (4096 ≤ (n1 : Int)) = true := by simp; omega
    by_cases hv1 : -1000000 ≤ v
    · have e1 : decide (-1000000 ≤ v) = true := by simpa using hv1
      by_cases hv2 : v ≤ 1000000
      · have e2 : decide (v ≤ 1000000) = true := by simpa using hv2
        go_wp2_with fail
        refine (known22 _ (HM.out.below hB hM0) (Tens.here HT.out hB)).mono ?_
        rintro e wz ⟨rfl, hb⟩
        replace hB : Below W.heap.size W wz := hB.trans (hb.mono hB.size)
        clear hb
        go_wp2
        go_ret
        exact ⟨rfl, hB⟩
      · have e2 : decide (v ≤ 1000000) = false := by simpa using hv2
        go_wp2_with fail
        refine (known22 _ (HM.out.below hB hM0) (Tens.here HT.out hB)).mono ?_
        rintro e wz ⟨rfl, hb⟩
        replace hB : Below W.heap.size W wz := hB.trans (hb.mono hB.size)
        clear hb
        go_wp2
        go_ret
        exact ⟨rfl, hB⟩
    · have e1 : decide (-1000000 ≤ v) = false := by simpa using hv1
      go_wp2_with fail
      refine (known22 _ (HM.out.below hB hM0) (Tens.here HT.out hB)).mono ?_
      rintro e wz ⟨rfl, hb⟩
      replace hB : Below W.heap.size W wz := hB.trans (hb.mono hB.size)
      clear hb
      go_wp2
      go_ret
      exact ⟨rfl, hB⟩
set_option maxRecDepth 100000 in
set_option maxHeartbeats 4000000 in
theorem algebra_ff (a1 a2 : Option Addr) (n1 n2 c1 c2 : Nat) (la lb : List Rg) (v : Int) (W : World) (h1 : Sr W (.slice a1 n1 c1) la) (h2 : Sr W (.slice a2 n2 c2) lb) (hf1 : FitsR la) (hf2 : FitsR lb) (hM : MaxL W) (hT : Tens W.heap.size W) (hl : n1 + n2 ≤ 4096) (hn1 : n1 = la.length)
    (BL EL LL : List Rg) (m1 m2 m3 m4 : Int) (hA : Alg la lb v false false BL EL LL m1 m2 m3 m4) (hsz : m1 + m2 = m3 + m4) (hb1 : 0 ≤ m1 ∧ m1 ≤ 10000000) (hb2 : 0 ≤ m2 ∧ m2 ≤ 10000000) (hb3 : 0 ≤ m3 ∧ m3 ≤ 10000000) (hb4 : 0 ≤ m4 ∧ m4 ≤ 10000000) :
    Calls Tryz.prog 6 #[.slice a1 n1 c1, .slice a2 n2 c2, .int .i64 v] W fun e w' => e = .returned (.bool true) ∧ Below W.heap.size W w' := by
  have hM0 := hM.1
  have HM : Hid (MaxL W) := hM
  have HT : Hid (Tens W.heap.size W) := hT
  have HF1 : Hid (FitsR la) := hf1
  have HF2 : Hid (FitsR lb) := hf2
  have HA : Hid (Alg la lb v false false BL EL LL m1 m2 m3 m4) := hA
  have HN1 : Hid (n1 = la.length) := hn1
  have hlt : decide (4096 < (n1 : Int) + (n2 : Int)) = false := by simp; omega
  have HSZ : Hid (m1 + m2 = m3 + m4 ∧ (0 ≤ m1 ∧ m1 ≤ 10000000) ∧ (0 ≤ m2 ∧ m2 ≤ 10000000) ∧ (0 ≤ m3 ∧ m3 ≤ 10000000) ∧ (0 ≤ m4 ∧ m4 ≤ 10000000)) := ⟨hsz, hb1, hb2, hb3, hb4⟩
  have HS1 : Hid (Sr W (.slice a1 n1 c1) la) := h1
  have HS2 : Hid (Sr W (.slice a2 n2 c2) lb) := h2
  have hB : Below W.heap.size W W := Below.refl _ _
  clear hM hT hf1 hf2 hA hn1 hsz hb1 hb2 hb3 hb4 h1 h2
  go_enter Tryz.func6, Tryz.ntmps6
  go_wp2_with fail
  have hcall := both_at _ _ la lb W HS1.out HS2.out HF1.out HF2.out HA.out.few
  rw [HA.out.bl] at hcall
  refine hcall.mono ?_
  clear hcall
  rintro e w1 ⟨boa, bon, boc, rfl, hs, hb⟩
  have Hbo : Hid (Sr w1 (.slice boa bon boc) BL) := hs
  clear hs
  replace HS1 : Hid (Sr w1 (.slice a1 n1 c1) la) := HS1.out.below hb
  replace HS2 : Hid (Sr w1 (.slice a2 n2 c2) lb) := HS2.out.below hb
  replace hB : Below W.heap.size W w1 := hB.trans (hb.mono hB.size)
  clear hb
  go_wp2_with fail
  have hcall := either_at _ _ la lb w1 HS1.out HS2.out HF1.out HF2.out (by rw [HA.out.el]; exact HA.out.rE.1)
  rw [HA.out.el] at hcall
  refine hcall.mono ?_
  clear hcall
  rintro e w2 ⟨eia, ein, eic, rfl, hs, hb⟩
  have Hei : Hid (Sr w2 (.slice eia ein eic) EL) := hs
  clear hs
  replace HS1 : Hid (Sr w2 (.slice a1 n1 c1) la) := HS1.out.below hb
  replace HS2 : Hid (Sr w2 (.slice a2 n2 c2) lb) := HS2.out.below hb
  replace Hbo : Hid (Sr w2 (.slice boa bon boc) BL) := Hbo.out.below hb
  replace hB : Below W.heap.size W w2 := hB.trans (hb.mono hB.size)
  clear hb
  go_wp2_with fail
  have hcall := less_at _ _ la lb w2 HS1.out HS2.out HF1.out HF2.out HA.out.few
  rw [HA.out.ll] at hcall
  refine hcall.mono ?_
  clear hcall
  rintro e w3 ⟨lea, len, lec, rfl, hs, hb⟩
  have Hle : Hid (Sr w3 (.slice lea len lec) LL) := hs
  clear hs
  replace HS1 : Hid (Sr w3 (.slice a1 n1 c1) la) := HS1.out.below hb
  replace HS2 : Hid (Sr w3 (.slice a2 n2 c2) lb) := HS2.out.below hb
  replace Hbo : Hid (Sr w3 (.slice boa bon boc) BL) := Hbo.out.below hb
  replace Hei : Hid (Sr w3 (.slice eia ein eic) EL) := Hei.out.below hb
  replace hB : Below W.heap.size W w3 := hB.trans (hb.mono hB.size)
  clear hb
  go_wp2_with fail
  have hcall := has_at _ la v false w3 HS1.out HF1.out HA.out.vi
  refine hcall.mono ?_
  clear hcall
  rintro e w4 ⟨rfl, hb⟩
  replace HS1 : Hid (Sr w4 (.slice a1 n1 c1) la) := HS1.out.below hb
  replace HS2 : Hid (Sr w4 (.slice a2 n2 c2) lb) := HS2.out.below hb
  replace Hbo : Hid (Sr w4 (.slice boa bon boc) BL) := Hbo.out.below hb
  replace Hei : Hid (Sr w4 (.slice eia ein eic) EL) := Hei.out.below hb
  replace Hle : Hid (Sr w4 (.slice lea len lec) LL) := Hle.out.below hb
  replace hB : Below W.heap.size W w4 := hB.trans (hb.mono hB.size)
  clear hb
  go_wp2_with fail
  have hcall := has_at _ lb v false w4 HS2.out HF2.out HA.out.vo
  refine hcall.mono ?_
  clear hcall
  rintro e w5 ⟨rfl, hb⟩
  replace HS1 : Hid (Sr w5 (.slice a1 n1 c1) la) := HS1.out.below hb
  replace HS2 : Hid (Sr w5 (.slice a2 n2 c2) lb) := HS2.out.below hb
  replace Hbo : Hid (Sr w5 (.slice boa bon boc) BL) := Hbo.out.below hb
  replace Hei : Hid (Sr w5 (.slice eia ein eic) EL) := Hei.out.below hb
  replace Hle : Hid (Sr w5 (.slice lea len lec) LL) := Hle.out.below hb
  replace hB : Below W.heap.size W w5 := hB.trans (hb.mono hB.size)
  clear hb
  go_wp2_with fail
  have hcall := has_at _ BL v false w5 Hbo.out (fits_small HA.out.rB) HA.out.vB
  refine hcall.mono ?_
  clear hcall
  rintro e w6 ⟨rfl, hb⟩
  replace HS1 : Hid (Sr w6 (.slice a1 n1 c1) la) := HS1.out.below hb
  replace HS2 : Hid (Sr w6 (.slice a2 n2 c2) lb) := HS2.out.below hb
  replace Hbo : Hid (Sr w6 (.slice boa bon boc) BL) := Hbo.out.below hb
  replace Hei : Hid (Sr w6 (.slice eia ein eic) EL) := Hei.out.below hb
  replace Hle : Hid (Sr w6 (.slice lea len lec) LL) := Hle.out.below hb
  replace hB : Below W.heap.size W w6 := hB.trans (hb.mono hB.size)
  clear hb
  go_wp2_with fail
  have hcall := has_at _ EL v false w6 Hei.out (fits_small HA.out.rE) HA.out.vE
  refine hcall.mono ?_
  clear hcall
  rintro e w7 ⟨rfl, hb⟩
  replace HS1 : Hid (Sr w7 (.slice a1 n1 c1) la) := HS1.out.below hb
  replace HS2 : Hid (Sr w7 (.slice a2 n2 c2) lb) := HS2.out.below hb
  replace Hbo : Hid (Sr w7 (.slice boa bon boc) BL) := Hbo.out.below hb
  replace Hei : Hid (Sr w7 (.slice eia ein eic) EL) := Hei.out.below hb
  replace Hle : Hid (Sr w7 (.slice lea len lec) LL) := Hle.out.below hb
  replace hB : Below W.heap.size W w7 := hB.trans (hb.mono hB.size)
  clear hb
  go_wp2_with fail
  have hcall := has_at _ LL v false w7 Hle.out (fits_small HA.out.rL) HA.out.vL
  refine hcall.mono ?_
  clear hcall
  rintro e w8 ⟨rfl, hb⟩
  replace HS1 : Hid (Sr w8 (.slice a1 n1 c1) la) := HS1.out.below hb
  replace HS2 : Hid (Sr w8 (.slice a2 n2 c2) lb) := HS2.out.below hb
  replace Hbo : Hid (Sr w8 (.slice boa bon boc) BL) := Hbo.out.below hb
  replace Hei : Hid (Sr w8 (.slice eia ein eic) EL) := Hei.out.below hb
  replace Hle : Hid (Sr w8 (.slice lea len lec) LL) := Hle.out.below hb
  replace hB : Below W.heap.size W w8 := hB.trans (hb.mono hB.size)
  clear hb
  go_wp2_with fail
  have hcall := both_at _ _ lb la w8 HS2.out HS1.out HF2.out HF1.out (by have := HA.out.few; omega)
  rw [HA.out.lb'] at hcall
  refine hcall.mono ?_
  clear hcall
  rintro e w9 ⟨oba, obn, obc, rfl, hs, hb⟩
  have Hob : Hid (Sr w9 (.slice oba obn obc) BL) := hs
  clear hs
  replace HS1 : Hid (Sr w9 (.slice a1 n1 c1) la) := HS1.out.below hb
  replace HS2 : Hid (Sr w9 (.slice a2 n2 c2) lb) := HS2.out.below hb
  replace Hbo : Hid (Sr w9 (.slice boa bon boc) BL) := Hbo.out.below hb
  replace Hei : Hid (Sr w9 (.slice eia ein eic) EL) := Hei.out.below hb
  replace Hle : Hid (Sr w9 (.slice lea len lec) LL) := Hle.out.below hb
  replace hB : Below W.heap.size W w9 := hB.trans (hb.mono hB.size)
  clear hb
  go_wp2_with fail
  have hcall := domsame_same _ _ BL BL w9 Hbo.out Hob.out (fits_small HA.out.rB) (fits_small HA.out.rB) rfl
  refine hcall.mono ?_
  clear hcall
  rintro e w10 ⟨rfl, hb⟩
  replace HS1 : Hid (Sr w10 (.slice a1 n1 c1) la) := HS1.out.below hb
  replace HS2 : Hid (Sr w10 (.slice a2 n2 c2) lb) := HS2.out.below hb
  replace Hbo : Hid (Sr w10 (.slice boa bon boc) BL) := Hbo.out.below hb
  replace Hei : Hid (Sr w10 (.slice eia ein eic) EL) := Hei.out.below hb
  replace Hle : Hid (Sr w10 (.slice lea len lec) LL) := Hle.out.below hb
  replace Hob : Hid (Sr w10 (.slice oba obn obc) BL) := Hob.out.below hb
  replace hB : Below W.heap.size W w10 := hB.trans (hb.mono hB.size)
  clear hb
  clear Hob
  go_wp2_with fail
  have hcall := within_at _ _ BL la w10 Hbo.out HS1.out (fits_small HA.out.rB) HF1.out HA.out.w1
  refine hcall.mono ?_
  clear hcall
  rintro e w11 ⟨rfl, hb⟩
  replace HS1 : Hid (Sr w11 (.slice a1 n1 c1) la) := HS1.out.below hb
  replace HS2 : Hid (Sr w11 (.slice a2 n2 c2) lb) := HS2.out.below hb
  replace Hbo : Hid (Sr w11 (.slice boa bon boc) BL) := Hbo.out.below hb
  replace Hei : Hid (Sr w11 (.slice eia ein eic) EL) := Hei.out.below hb
  replace Hle : Hid (Sr w11 (.slice lea len lec) LL) := Hle.out.below hb
  replace hB : Below W.heap.size W w11 := hB.trans (hb.mono hB.size)
  clear hb
  go_wp2_with fail
  have hcall := within_at _ _ BL lb w11 Hbo.out HS2.out (fits_small HA.out.rB) HF2.out HA.out.w2
  refine hcall.mono ?_
  clear hcall
  rintro e w12 ⟨rfl, hb⟩
  replace HS1 : Hid (Sr w12 (.slice a1 n1 c1) la) := HS1.out.below hb
  replace HS2 : Hid (Sr w12 (.slice a2 n2 c2) lb) := HS2.out.below hb
  replace Hbo : Hid (Sr w12 (.slice boa bon boc) BL) := Hbo.out.below hb
  replace Hei : Hid (Sr w12 (.slice eia ein eic) EL) := Hei.out.below hb
  replace Hle : Hid (Sr w12 (.slice lea len lec) LL) := Hle.out.below hb
  replace hB : Below W.heap.size W w12 := hB.trans (hb.mono hB.size)
  clear hb
  go_wp2_with fail
  have hcall := either_at _ _ LL lb w12 Hle.out HS2.out (fits_small HA.out.rL) HF2.out (by rw [HA.out.ag]; exact HA.out.rE.1)
  rw [HA.out.ag] at hcall
  refine hcall.mono ?_
  clear hcall
  rintro e w13 ⟨aga, agn, agc, rfl, hs, hb⟩
  have Hag : Hid (Sr w13 (.slice aga agn agc) EL) := hs
  clear hs
  replace HS1 : Hid (Sr w13 (.slice a1 n1 c1) la) := HS1.out.below hb
  replace HS2 : Hid (Sr w13 (.slice a2 n2 c2) lb) := HS2.out.below hb
  replace Hbo : Hid (Sr w13 (.slice boa bon boc) BL) := Hbo.out.below hb
  replace Hei : Hid (Sr w13 (.slice eia ein eic) EL) := Hei.out.below hb
  replace Hle : Hid (Sr w13 (.slice lea len lec) LL) := Hle.out.below hb
  replace hB : Below W.heap.size W w13 := hB.trans (hb.mono hB.size)
  clear hb
  go_wp2_with fail
  have hcall := domsame_same _ _ EL EL w13 Hag.out Hei.out (fits_small HA.out.rE) (fits_small HA.out.rE) rfl
  refine hcall.mono ?_
  clear hcall
  rintro e w14 ⟨rfl, hb⟩
  replace HS1 : Hid (Sr w14 (.slice a1 n1 c1) la) := HS1.out.below hb
  replace HS2 : Hid (Sr w14 (.slice a2 n2 c2) lb) := HS2.out.below hb
  replace Hbo : Hid (Sr w14 (.slice boa bon boc) BL) := Hbo.out.below hb
  replace Hei : Hid (Sr w14 (.slice eia ein eic) EL) := Hei.out.below hb
  replace Hle : Hid (Sr w14 (.slice lea len lec) LL) := Hle.out.below hb
  replace Hag : Hid (Sr w14 (.slice aga agn agc) EL) := Hag.out.below hb
  replace hB : Below W.heap.size W w14 := hB.trans (hb.mono hB.size)
  clear hb
  clear Hag Hle
  go_wp2_with fail
  have hcall := size_at _ BL m1 w14 Hbo.out (fits_small HA.out.rB) HA.out.s1
  refine hcall.mono ?_
  clear hcall
  rintro e w15 ⟨rfl, hb⟩
  replace HS1 : Hid (Sr w15 (.slice a1 n1 c1) la) := HS1.out.below hb
  replace HS2 : Hid (Sr w15 (.slice a2 n2 c2) lb) := HS2.out.below hb
  replace Hbo : Hid (Sr w15 (.slice boa bon boc) BL) := Hbo.out.below hb
  replace Hei : Hid (Sr w15 (.slice eia ein eic) EL) := Hei.out.below hb
  replace hB : Below W.heap.size W w15 := hB.trans (hb.mono hB.size)
  clear hb
  go_wp2_with fail
  have hcall := size_at _ EL m2 w15 Hei.out (fits_small HA.out.rE) HA.out.s2
  refine hcall.mono ?_
  clear hcall
  rintro e w16 ⟨rfl, hb⟩
  replace HS1 : Hid (Sr w16 (.slice a1 n1 c1) la) := HS1.out.below hb
  replace HS2 : Hid (Sr w16 (.slice a2 n2 c2) lb) := HS2.out.below hb
  replace Hbo : Hid (Sr w16 (.slice boa bon boc) BL) := Hbo.out.below hb
  replace Hei : Hid (Sr w16 (.slice eia ein eic) EL) := Hei.out.below hb
  replace hB : Below W.heap.size W w16 := hB.trans (hb.mono hB.size)
  clear hb
  clear Hbo Hei
  go_wp2_with fail
  have hcall := size_at _ la m3 w16 HS1.out HF1.out HA.out.s3
  refine hcall.mono ?_
  clear hcall
  rintro e w17 ⟨rfl, hb⟩
  replace HS1 : Hid (Sr w17 (.slice a1 n1 c1) la) := HS1.out.below hb
  replace HS2 : Hid (Sr w17 (.slice a2 n2 c2) lb) := HS2.out.below hb
  replace hB : Below W.heap.size W w17 := hB.trans (hb.mono hB.size)
  clear hb
  go_wp2_with fail
  have hcall := size_at _ lb m4 w17 HS2.out HF2.out HA.out.s4
  refine hcall.mono ?_
  clear hcall
  rintro e w18 ⟨rfl, hb⟩
  replace HS1 : Hid (Sr w18 (.slice a1 n1 c1) la) := HS1.out.below hb
  replace HS2 : Hid (Sr w18 (.slice a2 n2 c2) lb) := HS2.out.below hb
  replace hB : Below W.heap.size W w18 := hB.trans (hb.mono hB.size)
  clear hb
  obtain ⟨hsz, ⟨p1, p2⟩, ⟨p3, p4⟩, ⟨p5, p6⟩, ⟨p7, p8⟩⟩ := HSZ.out
  have z1 : (m1 + m2 == m3 + m4) = true := by simpa using hsz
  have z2 : (m1 + m2 != m3 + m4) = false := by simpa using hsz
  have z3 : decide (m1 + m2 = m3 + m4) = true := by simpa using hsz
  have z4 : (wrap64 (m1 + m2) != m3 + m4) = false := by rw [show wrap64 (m1 + m2) = m1 + m2 by unfold wrap64; omega]; exact z2
  have z5 : (wrap64 (m1 + m2) == m3 + m4) = true := by rw [show wrap64 (m1 + m2) = m1 + m2 by unfold wrap64; omega]; exact z1
  clear hsz
  by_cases hn : n1 < 4096
  · have hnl : la.length < 4096 := by rw [← HN1.out]; exact hn
    have g1 : decide ((n1 : Int) < 4096) = true := by simp; omega
    have g2 : decide (4096 ≤ (n1 : Int)) = false := by simp; omega
    by_cases hv1 : -1000000 ≤ v
    · have e1 : decide (-1000000 ≤ v) = true := by simpa using hv1
      by_cases hv2 : v ≤ 1000000
      · have e2 : decide (v ≤ 1000000) = true := by simpa using hv2
        go_wp2_with fail
        have hcall := not_at _ la w18 HS1.out HF1.out
        refine hcall.mono ?_
        clear hcall
        rintro e w19 ⟨naa, nan, nac, rfl, hs, hb⟩
        have Hna : Hid (Sr w19 (.slice naa nan nac) (notR la)) := hs
        clear hs
        replace HS1 : Hid (Sr w19 (.slice a1 n1 c1) la) := HS1.out.below hb
        replace HS2 : Hid (Sr w19 (.slice a2 n2 c2) lb) := HS2.out.below hb
        replace hB : Below W.heap.size W w19 := hB.trans (hb.mono hB.size)
        clear hb
        have hnv : hasV (notR la) v = true := by
          have h9 := HA.out.vi
          unfold hasV at h9 ⊢
          rw [tk_yes (notR_is hnl).2, (notR_is hnl).1]
          exact decide_eq_true (((notL_facts (tk_right la)).2 v).2 ⟨hv1, hv2, of_decide_eq_false h9⟩)
        have HNV : Hid (hasV (notR la) v = true) := hnv
        clear hnv
        go_wp2_with fail
        have hcall := has_at _ (notR la) v true w19 Hna.out (fits_small (notR_is hnl).2) HNV.out
        refine hcall.mono ?_
        clear hcall
        rintro e w20 ⟨rfl, hb⟩
        replace HS1 : Hid (Sr w20 (.slice a1 n1 c1) la) := HS1.out.below hb
        replace HS2 : Hid (Sr w20 (.slice a2 n2 c2) lb) := HS2.out.below hb
        replace Hna : Hid (Sr w20 (.slice naa nan nac) (notR la)) := Hna.out.below hb
        replace hB : Below W.heap.size W w20 := hB.trans (hb.mono hB.size)
        clear hb
        clear Hna
        go_wp2_with fail
        have hcall := not_at _ la w20 HS1.out HF1.out
        refine hcall.mono ?_
        clear hcall
        rintro e w21 ⟨noa, non, noc, rfl, hs, hb⟩
        have Hno : Hid (Sr w21 (.slice noa non noc) (notR la)) := hs
        clear hs
        replace HS1 : Hid (Sr w21 (.slice a1 n1 c1) la) := HS1.out.below hb
        replace HS2 : Hid (Sr w21 (.slice a2 n2 c2) lb) := HS2.out.below hb
        replace hB : Below W.heap.size W w21 := hB.trans (hb.mono hB.size)
        clear hb
        go_wp2_with fail
        have hcall := not_at _ (notR la) w21 Hno.out (fits_small (notR_is hnl).2)
        refine hcall.mono ?_
        clear hcall
        rintro e w22 ⟨nna, nnn, nnc, rfl, hs, hb⟩
        have Hnn : Hid (Sr w22 (.slice nna nnn nnc) (notR (notR la))) := hs
        clear hs
        replace HS1 : Hid (Sr w22 (.slice a1 n1 c1) la) := HS1.out.below hb
        replace HS2 : Hid (Sr w22 (.slice a2 n2 c2) lb) := HS2.out.below hb
        replace Hno : Hid (Sr w22 (.slice noa non noc) (notR la)) := Hno.out.below hb
        replace hB : Below W.heap.size W w22 := hB.trans (hb.mono hB.size)
        clear hb
        have hnn : tk (notR (notR la)) = tk la := by rw [notR_notR hnl, tk_yes (tk_right la)]
        have HNN : Hid (tk (notR (notR la)) = tk la) := hnn
        clear hnn
        go_wp2_with fail
        have hcall := domsame_same _ _ (notR (notR la)) la w22 Hnn.out HS1.out (by rw [notR_notR hnl]; exact fits_small (tk_right la)) HF1.out HNN.out
        refine hcall.mono ?_
        clear hcall
        rintro e w23 ⟨rfl, hb⟩
        replace HS1 : Hid (Sr w23 (.slice a1 n1 c1) la) := HS1.out.below hb
        replace HS2 : Hid (Sr w23 (.slice a2 n2 c2) lb) := HS2.out.below hb
        replace Hno : Hid (Sr w23 (.slice noa non noc) (notR la)) := Hno.out.below hb
        replace Hnn : Hid (Sr w23 (.slice nna nnn nnc) (notR (notR la))) := Hnn.out.below hb
        replace hB : Below W.heap.size W w23 := hB.trans (hb.mono hB.size)
        clear hb
        go_wp2_with fail
        refine (known22 _ (HM.out.below hB hM0) (Tens.here HT.out hB)).mono ?_
        rintro e wz ⟨rfl, hb⟩
        replace hB : Below W.heap.size W wz := hB.trans (hb.mono hB.size)
        clear hb
        go_wp2
        go_ret
        exact ⟨rfl, hB⟩
      · have e2 : decide (v ≤ 1000000) = false := by simpa using hv2
        go_wp2_with fail
        have hcall := not_at _ la w18 HS1.out HF1.out
        refine hcall.mono ?_
        clear hcall
        rintro e w19 ⟨noa, non, noc, rfl, hs, hb⟩
        have Hno : Hid (Sr w19 (.slice noa non noc) (notR la)) := hs
        clear hs
        replace HS1 : Hid (Sr w19 (.slice a1 n1 c1) la) := HS1.out.below hb
        replace HS2 : Hid (Sr w19 (.slice a2 n2 c2) lb) := HS2.out.below hb
        replace hB : Below W.heap.size W w19 := hB.trans (hb.mono hB.size)
        clear hb
        go_wp2_with fail
        have hcall := not_at _ (notR la) w19 Hno.out (fits_small (notR_is hnl).2)
        refine hcall.mono ?_
        clear hcall
        rintro e w20 ⟨nna, nnn, nnc, rfl, hs, hb⟩
        have Hnn : Hid (Sr w20 (.slice nna nnn nnc) (notR (notR la))) := hs
        clear hs
        replace HS1 : Hid (Sr w20 (.slice a1 n1 c1) la) := HS1.out.below hb
        replace HS2 : Hid (Sr w20 (.slice a2 n2 c2) lb) := HS2.out.below hb
        replace Hno : Hid (Sr w20 (.slice noa non noc) (notR la)) := Hno.out.below hb
        replace hB : Below W.heap.size W w20 := hB.trans (hb.mono hB.size)
        clear hb
        have hnn : tk (notR (notR la)) = tk la := by rw [notR_notR hnl, tk_yes (tk_right la)]
        have HNN : Hid (tk (notR (notR la)) = tk la) := hnn
        clear hnn
        go_wp2_with fail
        have hcall := domsame_same _ _ (notR (notR la)) la w20 Hnn.out HS1.out (by rw [notR_notR hnl]; exact fits_small (tk_right la)) HF1.out HNN.out
        refine hcall.mono ?_
        clear hcall
        rintro e w21 ⟨rfl, hb⟩
        replace HS1 : Hid (Sr w21 (.slice a1 n1 c1) la) := HS1.out.below hb
        replace HS2 : Hid (Sr w21 (.slice a2 n2 c2) lb) := HS2.out.below hb
        replace Hno : Hid (Sr w21 (.slice noa non noc) (notR la)) := Hno.out.below hb
        replace Hnn : Hid (Sr w21 (.slice nna nnn nnc) (notR (notR la))) := Hnn.out.below hb
        replace hB : Below W.heap.size W w21 := hB.trans (hb.mono hB.size)
        clear hb
        go_wp2_with fail
        refine (known22 _ (HM.out.below hB hM0) (Tens.here HT.out hB)).mono ?_
        rintro e wz ⟨rfl, hb⟩
        replace hB : Below W.heap.size W wz := hB.trans (hb.mono hB.size)
        clear hb
        go_wp2
        go_ret
        exact ⟨rfl, hB⟩
    · have e1 : decide (-1000000 ≤ v) = false := by simpa using hv1
      go_wp2_with fail
      have hcall := not_at _ la w18 HS1.out HF1.out
      refine hcall.mono ?_
      clear hcall
      rintro e w19 ⟨noa, non, noc, rfl, hs, hb⟩
      have Hno : Hid (Sr w19 (.slice noa non noc) (notR la)) := hs
      clear hs
      replace HS1 : Hid (Sr w19 (.slice a1 n1 c1) la) := HS1.out.below hb
      replace HS2 : Hid (Sr w19 (.slice a2 n2 c2) lb) := HS2.out.below hb
      replace hB : Below W.heap.size W w19 := hB.trans (hb.mono hB.size)
      clear hb
      go_wp2_with fail
      have hcall := not_at _ (notR la) w19 Hno.out (fits_small (notR_is hnl).2)
      refine hcall.mono ?_
      clear hcall
      rintro e w20 ⟨nna, nnn, nnc, rfl, hs, hb⟩
      have Hnn : Hid (Sr w20 (.slice nna nnn nnc) (notR (notR la))) := hs
      clear hs
      replace HS1 : Hid (Sr w20 (.slice a1 n1 c1) la) := HS1.out.below hb
      replace HS2 : Hid (Sr w20 (.slice a2 n2 c2) lb) := HS2.out.below hb
      replace Hno : Hid (Sr w20 (.slice noa non noc) (notR la)) := Hno.out.below hb
      replace hB : Below W.heap.size W w20 := hB.trans (hb.mono hB.size)
      clear hb
      have hnn : tk (notR (notR la)) = tk la := by rw [notR_notR hnl, tk_yes (tk_right la)]
      have HNN : Hid (tk (notR (notR la)) = tk la) := hnn
      clear hnn
      go_wp2_with fail
      have hcall := domsame_same _ _ (notR (notR la)) la w20 Hnn.out HS1.out (by rw [notR_notR hnl]; exact fits_small (tk_right la)) HF1.out HNN.out
      refine hcall.mono ?_
      clear hcall
      rintro e w21 ⟨rfl, hb⟩
      replace HS1 : Hid (Sr w21 (.slice a1 n1 c1) la) := HS1.out.below hb
      replace HS2 : Hid (Sr w21 (.slice a2 n2 c2) lb) := HS2.out.below hb
      replace Hno : Hid (Sr w21 (.slice noa non noc) (notR la)) := Hno.out.below hb
      replace Hnn : Hid (Sr w21 (.slice nna nnn nnc) (notR (notR la))) := Hnn.out.below hb
      replace hB : Below W.heap.size W w21 := hB.trans (hb.mono hB.size)
      clear hb
      go_wp2_with fail
      refine (known22 _ (HM.out.below hB hM0) (Tens.here HT.out hB)).mono ?_
      rintro e wz ⟨rfl, hb⟩
      replace hB : Below W.heap.size W wz := hB.trans (hb.mono hB.size)
      clear hb
      go_wp2
      go_ret
      exact ⟨rfl, hB⟩
  · have g1 : decide ((n1 : Int) < 4096) = false := by simp; omega
    have g2 : decide (4096 ≤ (n1 : Int)) = true := by simp; omega
    by_cases hv1 : -1000000 ≤ v
    · have e1 : decide (-1000000 ≤ v) = true := by simpa using hv1
      by_cases hv2 : v ≤ 1000000
      · have e2 : decide (v ≤ 1000000) = true := by simpa using hv2
        go_wp2_with fail
        refine (known22 _ (HM.out.below hB hM0) (Tens.here HT.out hB)).mono ?_
        rintro e wz ⟨rfl, hb⟩
        replace hB : Below W.heap.size W wz := hB.trans (hb.mono hB.size)
        clear hb
        go_wp2
        go_ret
        exact ⟨rfl, hB⟩
      · have e2 : decide (v ≤ 1000000) = false := by simpa using hv2
        go_wp2_with fail
        refine (known22 _ (HM.out.below hB hM0) (Tens.here HT.out hB)).mono ?_
        rintro e wz ⟨rfl, hb⟩
        replace hB : Below W.heap.size W wz := hB.trans (hb.mono hB.size)
        clear hb
        go_wp2
        go_ret
        exact ⟨rfl, hB⟩
    · have e1 : decide (-1000000 ≤ v) = false := by simpa using hv1
      go_wp2_with fail
      refine (known22 _ (HM.out.below hB hM0) (Tens.here HT.out hB)).mono ?_
      rintro e wz ⟨rfl, hb⟩
      replace hB : Below W.heap.size W wz := hB.trans (hb.mono hB.size)
      clear hb
      go_wp2
      go_ret
      exact ⟨rfl, hB⟩
set_option maxRecDepth 100000 in
set_option maxHeartbeats 1000000 in
theorem algebra_walk (s1 s2 : Value) (la lb : List Rg) (v : Int) (W : World) (h1 : Sr W s1 la) (h2 : Sr W s2 lb) (hf1 : FitsR la) (hf2 : FitsR lb) (hl1 : la.length * 16 ≤ 140737488351232) (hl2 : lb.length * 16 ≤ 140737488351232) (hM : MaxL W) (hT : Tens W.heap.size W) :
    Calls Tryz.prog 6 #[s1, s2, .int .i64 v] W fun e w' => e = .returned (.bool true) ∧ Below W.heap.size W w' := by
  by_cases hl : la.length + lb.length ≤ 4096
  · obtain ⟨BL, EL, LL, m1, m2, m3, m4, hA, hsz, b1, b2, b3, b4⟩ := alg_all la lb v hl
    obtain ⟨a1, c1, e1, k1⟩ := h1
    obtain ⟨a2, c2, e2, k2⟩ := h2
    subst e1 e2
    generalize hi : hasV la v = i at hA
    generalize ho : hasV lb v = o at hA
    cases i <;> cases o
    · exact algebra_ff a1 a2 _ _ c1 c2 la lb v W ⟨_, _, rfl, k1⟩ ⟨_, _, rfl, k2⟩ hf1 hf2 hM hT hl rfl BL EL LL m1 m2 m3 m4 hA hsz b1 b2 b3 b4
    · exact algebra_ft a1 a2 _ _ c1 c2 la lb v W ⟨_, _, rfl, k1⟩ ⟨_, _, rfl, k2⟩ hf1 hf2 hM hT hl rfl BL EL LL m1 m2 m3 m4 hA hsz b1 b2 b3 b4
    · exact algebra_tf a1 a2 _ _ c1 c2 la lb v W ⟨_, _, rfl, k1⟩ ⟨_, _, rfl, k2⟩ hf1 hf2 hM hT hl rfl BL EL LL m1 m2 m3 m4 hA hsz b1 b2 b3 b4
    · exact algebra_tt a1 a2 _ _ c1 c2 la lb v W ⟨_, _, rfl, k1⟩ ⟨_, _, rfl, k2⟩ hf1 hf2 hM hT hl rfl BL EL LL m1 m2 m3 m4 hA hsz b1 b2 b3 b4
  · obtain ⟨a1, c1, rfl, _⟩ := h1
    obtain ⟨a2, c2, rfl, _⟩ := h2
    have hM0 := hM.1
    have HM : Hid (MaxL W) := hM
    have HT : Hid (Tens W.heap.size W) := hT
    obtain ⟨n1, e1⟩ : ∃ n, la.length = n := ⟨_, rfl⟩
    obtain ⟨n2, e2⟩ : ∃ n, lb.length = n := ⟨_, rfl⟩
    rw [e1] at hl hl1
    rw [e2] at hl hl2
    rw [e1, e2]
    have hlt : decide (4096 < (n1 : Int) + (n2 : Int)) = true := by simp; omega
    clear hM hT hf1 hf2 e1 e2 hl
    go_enter Tryz.func6, Tryz.ntmps6
    go_wp2_with fail
    refine (known22 _ HM.out (Tens.here HT.out (Below.refl _ _))).mono ?_
    rintro e wz ⟨rfl, hb⟩
    go_wp2
    go_ret
    exact ⟨rfl, hb⟩
end Go.Proofs.YtkloadlodofipaaGreatDoor
