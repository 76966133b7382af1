/-
  What is proved here: Narrow of any domain, where nothing was pushed: what becomes of a store.
-/
import Derived.Test.YtghnfnieppfhgaaGreatMf
import Derived.Test.YtghnfnieppfhgaaGreatFa
namespace Go.Proofs.YtghnfnieppfhgaaGreat
open Go.RowKit Go.Shelf
set_option linter.unusedVariables false
set_option linter.unusedSimpArgs false

/-- A store of which nothing was pushed. -/
structure Flat (st : StM) : Prop where
  m : st.marks = []
  s : ∀ v : Nat, st.since.getD v 0 = 0
  k : st.saved = []
theorem flat_save {st : StM} (h : Flat st) (v : Nat) (o : MD) : saveM st v o = st := by
  unfold saveM
  rw [if_pos (by rw [h.s, h.m]; rfl)]
/-- What is asked of a domain that a store holds. -/
structure Held (d : MD) : Prop where
  r : rightM d = true
  f : Dm.FitsR d.r
  n : d.r.length ≤ 4096
  lo : d.lo.length ≤ 64
  up : d.up.length ≤ 64
theorem right_held {d : MD} (h : rightM d = true) : Held d := by
  cases hs : d.set
  · have hw : rightW d = true := by unfold rightM at h; rwa [if_neg (by rw [hs]; decide)] at h
    unfold rightW at hw
    simp only [Bool.and_eq_true, decide_eq_true_eq] at hw
    obtain ⟨⟨⟨⟨w1, w2⟩, w3⟩, w4⟩, w5⟩ := hw
    have hR : Dm.Right d.r := by unfold Dm.rightB at w1; simpa using w1
    refine ⟨h, fun i hi => ?_, hR.1, by omega, by omega⟩
    have := hR.2 i hi
    unfold Dm.OkAt at this
    unfold Dm.Fits
    omega
  · have hw : St.rightD (sdM d) = true := by unfold rightM at h; rwa [if_pos hs] at h
    have hR : St.RightD (sdM d) := by unfold St.rightD at hw; simpa using hw
    have h0 : d.r.length = 0 := hR.2.1
    exact ⟨h, fun i hi => by omega, by omega, hR.2.2.1.1, hR.2.2.2.1.1⟩
theorem ofSD_held {s : St.SD} (h : St.RightD s) : Held (ofSD s) := by
  refine right_held ?_
  have e : sdM (ofSD s) = s := by
    cases s
    have h2 := h.2.1
    simp only at h2
    simp [sdM, ofSD, h2]
  unfold rightM
  rw [if_pos (show (ofSD s).set = true from h.1), e]
  unfold St.rightD
  exact decide_eq_true h
theorem bothR_right (a b : List Dm.Rg) : Dm.Right (Dm.bothR a b) := by
  have ha := Dm.tk_right a
  have hb := Dm.tk_right b
  unfold Dm.bothR
  split
  · rename_i hl
    obtain ⟨f1, f2⟩ := Dm.ov_facts (Dm.right_ord ha).1 (Dm.right_ord hb).1
    refine Dm.ord_right f1 ?_ hl
    obtain ⟨_, hi⟩ := Dm.right_ord ha
    have hb : ∀ x ∈ Dm.vals (Dm.ov (Dm.tk a) (Dm.tk b)), -1000000 ≤ x ∧ x ≤ 1000000 := fun x hx => by
      obtain ⟨r, q1, q2⟩ := (Dm.mem_vals' _ _).1 ((f2 x).1 hx).1
      have := hi r q1
      omega
    intro r hr
    have h2 := f1.1 r hr
    have b1 := hb r.1 ((Dm.mem_vals' _ _).2 ⟨r, hr, Int.le_refl _, h2⟩)
    have b2 := hb r.2 ((Dm.mem_vals' _ _).2 ⟨r, hr, h2, Int.le_refl _⟩)
    constructor <;> omega
  · exact ha
theorem both_held {o d : MD} (ho : rightM o = true) : Held (bothA o d) := by
  unfold bothA
  split
  · exact ofSD_held (bothD_right _ _)
  · refine right_held ?_
    unfold rightM bothW
    simp only [Bool.false_eq_true, if_false]
    unfold rightW
    simp [Dm.rightB_yes (bothR_right _ _)]
/-- What Narrow makes of a store. -/
def narM (st : StM) (v : Int) (d : MD) : StM :=
  if thereB st v = false then st else
  match st.D[v.toNat]? with
  | none => st
  | some o => if rightM d = false then st else if d.set ≠ o.set then st else if 0 < st.e then st else if sameA o (bothA o d) = true then st else narrowA st v.toNat o (bothA o d) (chM o (bothA o d))
theorem num_pos {d : MD} (h : emptyA d = false) (hs : d.set = false) : 0 < d.r.length := by
  unfold emptyA emptyW at h
  rw [if_neg (by rw [hs]; decide)] at h
  simp at h
  exact List.length_pos_iff.2 h
theorem narrow_any {W : World} {p : Nat} {st : StM} {sl : Sl} {c : List Value} {d : MD} (h : Sto W p st sl) (hc : Dc (XS p sl) W c d) (v : Int) (hz : Sz st) (hF : Flat st) (hf : Dm.FitsR d.r) (hH : ∀ o ∈ st.D, Held o) (he : 0 ≤ st.e) (hne : st.e = 0 → ∀ o ∈ st.D, emptyA o = false) :
    Calls Tryz.prog 14 #[ptr p, .int .i64 v, .agg c.toArray] W fun e w' => (∃ x y : Int, e = .returned (.tuple #[.int .i64 x, .int .i64 y])) ∧ ∃ sl', Sto w' p (narM st v d) sl' ∧ Up (XS p sl) (XS p sl') W ∧ Kept (XS p sl) W w' := by
  have stay : ∀ {x y : Int}, (Calls Tryz.prog 14 #[ptr p, .int .i64 v, .agg c.toArray] W fun e w' => e = .returned (.tuple #[.int .i64 x, .int .i64 y]) ∧ Below W.heap.size W w') → narM st v d = st → Calls Tryz.prog 14 #[ptr p, .int .i64 v, .agg c.toArray] W fun e w' => (∃ x y : Int, e = .returned (.tuple #[.int .i64 x, .int .i64 y])) ∧ ∃ sl', Sto w' p (narM st v d) sl' ∧ Up (XS p sl) (XS p sl') W ∧ Kept (XS p sl) W w' := fun {x y} hk e0 => hk.mono fun e w' ⟨h1, h2⟩ => ⟨⟨x, y, h1⟩, sl, by rw [e0]; exact h.below h2, Up.refl _ _, Kept.of_below h2⟩
  cases hv : thereB st v
  · exact stay (narrow_out h hc v hv hz) (by unfold narM; rw [if_pos hv])
  · have hv' : ¬ thereB st v = false := by rw [hv]; decide
    obtain ⟨n, rfl⟩ : ∃ n : Nat, v = n := by
      unfold thereB at hv
      simp only [Bool.and_eq_true, decide_eq_true_eq] at hv
      exact ⟨v.toNat, by omega⟩
    have hvl : n < st.D.length := by unfold thereB at hv; simp at hv; exact hv
    obtain ⟨o, ho⟩ : ∃ o, st.D[n]? = some o := ⟨_, List.getElem?_eq_getElem hvl⟩
    have hm := List.mem_of_getElem? ho
    have hO := hH o hm
    have hB := both_held (o := o) (d := d) hO.r
    have e1 : narM st (n : Int) d = if rightM d = false then st else if d.set ≠ o.set then st else if 0 < st.e then st else if sameA o (bothA o d) = true then st else narrowA st n o (bothA o d) (chM o (bothA o d)) := by
      unfold narM
      rw [if_neg hv', Int.toNat_natCast, ho]
    cases hR : rightM d
    · exact stay (narrow_bad1 h hc n ho hf hR hz) (by rw [e1, if_pos hR])
    · have hR' : ¬ rightM d = false := by rw [hR]; decide
      by_cases hk : d.set = o.set
      · by_cases hE : 0 < st.e
        · have e2 : narM st (n : Int) d = st := by rw [e1, if_neg hR', if_neg (by simpa using hk), if_pos hE]
          cases hs : o.set
          · exact stay (narrow_failed_n h hc n ho (by rw [hk, hs]) hs hf hR hE hz) e2
          · exact stay (narrow_failed_s h hc n ho (by rw [hk, hs]) hs hf hR hE hz) e2
        · have h0 : st.e = 0 := by omega
          cases hS : sameA o (bothA o d)
          · have e2 : narM st (n : Int) d = narrowA st n o (bothA o d) (chM o (bothA o d)) := by rw [e1, if_neg hR', if_neg (by simpa using hk), if_neg hE, if_neg (by rw [hS]; decide)]
            rw [e2]
            have kch : emptyA (bothA o d) = false → ∀ (X Y : Nat → Prop) (w : World) (k k' : List Value), Dc X w k o → Dc Y w k' (bothA o d) → Calls Tryz.prog 54 #[.agg k.toArray, .agg k'.toArray] w fun e w' => e = .returned (.int .i64 (chM o (bothA o d))) ∧ Below w.heap.size w w' := fun hne2 X Y w k k' h1 h2 =>
              change_d h1 h2 hB.f (by have := hO.lo; omega) (fun hs => ⟨num_pos (hne h0 o hm) hs, num_pos hne2 (by rw [bothA_set]; exact hs)⟩) (by have := hO.n; omega) (by have := hB.n; omega)
            cases hs : o.set
            · exact (narrow_ch_n h hc n ho (by rw [hk, hs]) hs hf hO.f hB.f hR h0 (hne h0 o hm) hz (by rw [hF.k]; decide) hS _ kch).mono fun e w' ⟨h1, h2⟩ => ⟨⟨_, _, h1⟩, h2⟩
            · exact (narrow_ch_s h hc n ho (by rw [hk, hs]) hs hf hO.f hB.f hR h0 (hne h0 o hm) hz (by rw [hF.k]; decide) hS _ kch).mono fun e w' ⟨h1, h2⟩ => ⟨⟨_, _, h1⟩, h2⟩
          · have e2 : narM st (n : Int) d = st := by rw [e1, if_neg hR', if_neg (by simpa using hk), if_neg hE, if_pos hS]
            cases hs : o.set
            · exact stay (narrow_same_n h hc n ho (by rw [hk, hs]) hs hf hO.f hB.f hR h0 hz hS) e2
            · exact stay (narrow_same_s h hc n ho (by rw [hk, hs]) hs hf hO.f hB.f hR h0 hz hS) e2
      · exact stay (narrow_bad2 h hc n ho hk hf hR hz) (by rw [e1, if_neg hR', if_pos hk])
end Go.Proofs.YtghnfnieppfhgaaGreat
