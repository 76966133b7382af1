/-
  What is proved here: what a store answers of itself: Len, there, Failed, depth; tell.
-/
import Derived.Test.YtogankopiechcaaKe
namespace Go.Proofs.Ytogankopiechcaa
open Go.RowKit Go.Shelf
set_option linter.unusedVariables false
set_option linter.unusedSimpArgs false

/-- A store's block, its slices opened. -/
theorem Sto.open {w : World} {p : Nat} {st : StM} {sl : Sl} (h : Sto w p st sl) (hn : st.D.length ≤ 1000) (hm : st.marks.length ≤ 1000000) (hk : st.saved.length ≤ 100000000) : ∃ sa sc ma mc ia ic da dc wa wc,
    sl = ⟨.slice sa st.saved.length sc, .slice ma st.marks.length mc, .slice ia st.D.length ic, .slice da st.D.length dc, .slice wa st.D.length wc⟩ := by
  obtain ⟨cs, hd, hdr⟩ := h.doms
  obtain ⟨ks, hs, hkr⟩ := h.saved
  obtain ⟨sa, sc, e1, _⟩ := hs.shape
  obtain ⟨ma, mc, e2, _⟩ := h.marks.shape
  obtain ⟨ia, ic, e3, _⟩ := h.since.shape
  obtain ⟨da, dc, e4, _⟩ := hd.shape
  obtain ⟨wa, wc, e5, _⟩ := h.why.shape
  rw [hkr.1] at e1
  rw [ivs_len] at e2 e3 e5
  rw [h.ls] at e3
  rw [h.lw] at e5
  rw [hdr.1] at e4
  obtain ⟨s1, s2, s3, s4, s5⟩ := sl
  simp only at e1 e2 e3 e4 e5
  subst e1 e2 e3 e4 e5
  exact ⟨_, _, _, _, _, _, _, _, _, _, rfl⟩
/-- The same with its numbers under names. -/
theorem Sto.look {w : World} {p : Nat} {st : StM} {sl : Sl} (h : Sto w p st sl) : ∃ n k m sa sc ma mc ia ic da dc wa wc, sl = ⟨.slice sa k sc, .slice ma m mc, .slice ia n ic, .slice da n dc, .slice wa n wc⟩ ∧ Hid (st.D.length = n ∧ st.saved.length = k ∧ st.marks.length = m) := by
  obtain ⟨cs, hd, hdr⟩ := h.doms
  obtain ⟨ks, hs, hkr⟩ := h.saved
  obtain ⟨sa, sc, e1, _⟩ := hs.shape
  obtain ⟨ma, mc, e2, _⟩ := h.marks.shape
  obtain ⟨ia, ic, e3, _⟩ := h.since.shape
  obtain ⟨da, dc, e4, _⟩ := hd.shape
  obtain ⟨wa, wc, e5, _⟩ := h.why.shape
  rw [hkr.1] at e1
  rw [ivs_len] at e2 e3 e5
  rw [h.ls] at e3
  rw [h.lw] at e5
  rw [hdr.1] at e4
  obtain ⟨s1, s2, s3, s4, s5⟩ := sl
  simp only at e1 e2 e3 e4 e5
  subst e1 e2 e3 e4 e5
  exact ⟨_, _, _, _, _, _, _, _, _, _, _, _, _, rfl, rfl, rfl, rfl⟩
theorem Rw.look {w : World} {t : TypeId} {s : Value} {k : Nat} {vs : List (List Value)} (h : Rw w t s k vs) : ∃ a q c, s = .slice a q c ∧ Hid (vs.length = q) ∧ q ≤ c ∧ c ≤ 9223372036854775807 := by
  obtain ⟨a, c, e, h1, h2⟩ := h.shape
  unfold maxLen at h2
  exact ⟨a, _, c, e, rfl, h1, by omega⟩
/-- The bounds that hold of a store. -/
def Sz (st : StM) : Prop := st.D.length ≤ 1000 ∧ st.marks.length ≤ 1000000 ∧ st.saved.length ≤ 100000000
abbrev ptr (p : Nat) : Value := .pointer (some ⟨p, 0, none⟩)

set_option maxRecDepth 100000 in
set_option maxHeartbeats 4000000 in
theorem len_any {W : World} {p : Nat} {st : StM} {sl : Sl} (h : Sto W p st sl) (hz : Sz st) : Calls Try.prog 10 #[ptr p] W fun e w' => e = .returned (.int .i64 st.D.length) ∧ w' = W := by
  obtain ⟨sa, sc, ma, mc, ia, ic, da, dc, wa, wc, rfl⟩ := h.open hz.1 hz.2.1 hz.2.2
  obtain ⟨z0, z1, z2, z3, z4, z5, zf⟩ := h.cells
  simp only at z3
  clear h z0 z1 z2 z4 z5 zf hz
  generalize st.D.length = n at *
  go_enter Try.func10, Try.ntmps10
  go_wp2
  go_ret
  exact ⟨rfl, rfl⟩
def thereB (st : StM) (v : Int) : Bool := decide (0 ≤ v) && decide (v < st.D.length)

set_option maxRecDepth 100000 in
set_option maxHeartbeats 4000000 in
theorem there_any {W : World} {p : Nat} {st : StM} {sl : Sl} (h : Sto W p st sl) (hz : Sz st) (v : Int) : Calls Try.prog 18 #[ptr p, .int .i64 v] W fun e w' => e = .returned (.bool (thereB st v)) ∧ w' = W := by
  have kl := len_any h hz
  have hM : thereB st v = (decide (0 ≤ v) && decide (v < st.D.length)) := rfl
  rw [hM]
  clear hM h hz
  generalize st.D.length = n at *
  by_cases h0 : 0 ≤ v
  · have hd : decide (0 ≤ v) = true := by simpa using h0
    go_enter Try.func18, Try.ntmps18
    go_wp2_with (go_at_call 10; refine kl.mono ?_; rintro e w1 ⟨rfl, rfl⟩)
    go_ret
    exact ⟨ret_bool (by simp [h0]), rfl⟩
  · have hd : decide (0 ≤ v) = false := by simpa using h0
    go_enter Try.func18, Try.ntmps18
    go_wp2
    go_ret
    exact ⟨ret_bool (by simp [hd]), rfl⟩

set_option maxRecDepth 100000 in
set_option maxHeartbeats 4000000 in
theorem failed_any {W : World} {p : Nat} {st : StM} {sl : Sl} (h : Sto W p st sl) : Calls Try.prog 11 #[ptr p] W fun e w' => e = .returned (.bool (decide (0 < st.e))) ∧ w' = W := by
  obtain ⟨z0, z1, z2, z3, z4, z5, zf⟩ := h.cells
  clear h z0 z1 z2 z3 z5 zf
  generalize st.e = n at *
  go_enter Try.func11, Try.ntmps11
  go_wp2
  go_ret
  exact ⟨rfl, rfl⟩

set_option maxRecDepth 100000 in
set_option maxHeartbeats 4000000 in
theorem depth_any {W : World} {p : Nat} {st : StM} {sl : Sl} (h : Sto W p st sl) (hz : Sz st) : Calls Try.prog 30 #[ptr p] W fun e w' => e = .returned (.int .i64 st.marks.length) ∧ w' = W := by
  obtain ⟨sa, sc, ma, mc, ia, ic, da, dc, wa, wc, rfl⟩ := h.open hz.1 hz.2.1 hz.2.2
  obtain ⟨z0, z1, z2, z3, z4, z5, zf⟩ := h.cells
  simp only at z1
  clear h z0 z2 z3 z4 z5 zf hz
  generalize st.marks.length = n at *
  go_enter Try.func30, Try.ntmps30
  go_wp2
  go_ret
  exact ⟨rfl, rfl⟩
/-- What happened, the strongest of it. -/
def tellM (l : List Int) (v : Nat) (y : Int) : List Int := if l.getD v 0 = 0 ∨ y < l.getD v 0 then l.set v y else l

set_option maxRecDepth 100000 in
set_option maxHeartbeats 4000000 in
theorem tell_any {W : World} {p : Nat} {st : StM} {sl : Sl} (h : Sto W p st sl) (hz : Sz st) (v : Nat) (hv : v < st.D.length) (y : Int) : Calls Try.prog 26 #[ptr p, .int .i64 v, .int .i64 y] W fun e w' => e = .returned (.tuple #[]) ∧ Sto w' p { st with why := tellM st.why v y } sl ∧ Kept (XS p sl) W w' := by
  have hvw : v < st.why.length := by rw [h.lw]; exact hv
  obtain ⟨g, cap, hs, hg, hle, hcm, hr, hth⟩ := h.why.at (i := v) (c := [.int .i64 (st.why.getD v 0)]) (by rw [ivs_get, List.getElem?_eq_getElem hvw]; simp [List.getD, hvw])
  rw [Nat.mul_one] at hr hth
  have hc := rng_one hr
  have hfz := there_one hth (by decide)
  rw [ivs_len] at hs hle
  have hset := h.set_why hvw hs y
  have hX : XS p sl g := .inr (.inr (.inr (.inr (.inr (by rw [hs]; rfl)))))
  obtain ⟨z0, z1, z2, z3, z4, z5, zf⟩ := h.cells
  rw [hs] at z5
  have HS : Hid (Sto _ _ _ _) := hset
  have H0 : Hid (Sto W p st sl) := h
  have hM : tellM st.why v y = if st.why.getD v 0 = 0 ∨ y < st.why.getD v 0 then st.why.set v y else st.why := rfl
  have HM : Hid _ := hM
  have hln : st.why.length ≤ 1000 := by rw [h.lw]; exact hz.1
  generalize tellM st.why v y = T at hM HM ⊢
  clear hM hset h hz hr hth z0 z1 z2 z3 z4 zf hv
  generalize hq : st.why.getD v 0 = q at *
  generalize hn : st.why.length = n at *
  have HQ : Hid _ := hq
  have HN : Hid _ := hn
  clear hq hn
  unfold maxLen at hcm
  by_cases h1 : q = 0
  · subst h1
    go_enter Try.func26, Try.ntmps26
    go_wp2
    refine ⟨rfl, _, results_none rfl _ _ _, rfl, ?_, (Kept.refl _ W).setCell hX _ _⟩
    rw [HM.out, if_pos (by simp)]
    exact HS.out
  · by_cases h2 : y < q
    · go_enter Try.func26, Try.ntmps26
      go_wp2
      refine ⟨rfl, _, results_none rfl _ _ _, rfl, ?_, (Kept.refl _ W).setCell hX _ _⟩
      rw [HM.out, if_pos (.inr h2)]
      exact HS.out
    · go_enter Try.func26, Try.ntmps26
      go_wp2
      refine ⟨rfl, _, results_none rfl _ _ _, rfl, ?_, Kept.refl _ W⟩
      rw [HM.out, if_neg (by omega)]
      exact H0.out
end Go.Proofs.Ytogankopiechcaa
