/-
  What is proved here: the mathematics of StoreMeets: what is in both is the greatest that lies within both; what Narrow keeps of a store.
  What is proved here: the mathematics of StoreTells: what is told of a variable.
-/
import Derived.Test.YtghnfnieppfhgaaGreatMgj
import Derived.Test.YtghnfnieppfhgaaGreatMh
import Derived.Test.YtghnfnieppfhgaaGreatFaj
import Derived.Test.YtghnfnieppfhgaaGreatMe
namespace Go.Proofs.YtghnfnieppfhgaaGreat
open Go.RowKit Go.Shelf
set_option linter.unusedVariables false
set_option linter.unusedSimpArgs false

theorem tight_idem {lo up : List Int} (least most : Int) (h1 : St.IsSet lo) (h2 : St.IsSet up) (hs : ∀ x ∈ lo, x ∈ up) : St.takenD (St.tightD lo up least most) = St.tightD lo up least most := by
  have hR := St.tight_right least most h1 h2 hs
  have e : St.takenD (St.tightD lo up least most) = St.tightD (St.tightD lo up least most).lo (St.tightD lo up least most).up (St.tightD lo up least most).least (St.tightD lo up least most).most := by
    unfold St.takenD; rw [if_pos hR]
  rw [e]
  rcases St.tight_cases2 least most h1 h2 hs with ⟨q, a⟩ | ⟨q, a, b⟩ | ⟨q, a, b, c⟩ | ⟨q, a, b, c, f⟩
  · rw [q]; exact St.tight_none (by decide)
  · rw [q]
    exact St.tight_top h2 h2 (fun _ h => h) (by show max (up.length : Int) up.length = up.length; omega) (Int.le_refl _)
  · rw [q]
    exact St.tight_bot h1 h1 (fun _ h => h) (Int.le_refl _) (by show min (lo.length : Int) lo.length = lo.length; omega)
  · rw [q]
    show St.tightD lo up (max least lo.length) (min most up.length) = _
    rcases St.tight_cases2 (max least lo.length) (min most up.length) h1 h2 hs with ⟨q2, a2⟩ | ⟨q2, a2, b2⟩ | ⟨q2, a2, b2, c2⟩ | ⟨q2, a2, b2, c2, f2⟩
    · omega
    · omega
    · omega
    · rw [q2]
      unfold St.TD
      congr 1 <;> omega
/-- What a tight domain of sets that is not empty is like. -/
theorem tight_look {C : St.SD} (ht : St.takenD C = C) (he : St.emptyD C = false) : St.RightD C ∧ (C.lo.length : Int) ≤ C.least ∧ C.least ≤ C.most ∧ C.most ≤ C.up.length ∧ (C.lo = C.up ∨ (C.least ≠ C.up.length ∧ C.most ≠ C.lo.length)) := by
  obtain ⟨hR, h1, h2, h3⟩ := St.empty_no he
  refine ⟨hR, h2, h1, h3, ?_⟩
  have e : C = St.tightD C.lo C.up C.least C.most := by
    have : St.takenD C = St.tightD C.lo C.up C.least C.most := by unfold St.takenD; rw [if_pos hR]
    rw [← this, ht]
  rcases St.tight_cases2 C.least C.most hR.2.2.1 hR.2.2.2.1 (St.right_sub hR) with ⟨q, a⟩ | ⟨q, a, b⟩ | ⟨q, a, b, c⟩ | ⟨q, a, b, c, f⟩
  · omega
  · left
    have : C = St.TD C.up C.up C.up.length C.up.length := e.trans q
    have := congrArg St.SD.lo this
    exact this
  · left
    have : C = St.TD C.lo C.lo C.lo.length C.lo.length := e.trans q
    have := congrArg St.SD.up this
    exact this.symm
  · right
    omega
theorem meet_le {C A B : St.SD} (ht : St.takenD C = C) (he : St.emptyD C = false) (hA : St.RightD A) (hB : St.RightD B) (h1 : LeD C A) (h2 : LeD C B) : St.emptyD (St.bothG A B) = false ∧ LeD C (St.bothG A B) := by
  obtain ⟨hR, c1, c2, c3, c4⟩ := tight_look ht he
  have hj : ∀ x ∈ St.joinL A.lo B.lo, x ∈ C.lo := fun x hx => ((St.join_mem _ _ _).1 hx).elim (h1.lo x) (h2.lo x)
  have hm : ∀ x ∈ C.up, x ∈ St.meetL A.up B.up := fun x hx => (St.meet_mem _ _ _).2 ⟨h1.up x hx, h2.up x hx⟩
  have hsub : ∀ x ∈ St.joinL A.lo B.lo, x ∈ St.meetL A.up B.up := fun x hx => hm x (St.right_sub hR x (hj x hx))
  have sm := St.meet_set hA.2.2.2.1 B.up
  have sj := St.join_set hA.2.2.1 hB.2.2.1 sm hsub
  have l1 := St.set_sub_len sj hR.2.2.1 hj
  have l2 := St.set_sub_len hR.2.2.2.1 sm hm
  have g1 := h1.least
  have g2 := h2.least
  have g3 := h1.most
  have g4 := h2.most
  have e : St.bothG A B = St.tightD (St.joinL A.lo B.lo) (St.meetL A.up B.up) (max A.least B.least) (min A.most B.most) := by
    unfold St.bothG
    rw [if_pos ((St.subB_iff _ _).2 hsub)]
  have hRt := St.tight_right (max A.least B.least) (min A.most B.most) sj sm hsub
  rw [e]
  have ne : ∀ T : St.SD, St.tightD (St.joinL A.lo B.lo) (St.meetL A.up B.up) (max A.least B.least) (min A.most B.most) = T → T.least ≤ T.most → St.emptyD (St.tightD (St.joinL A.lo B.lo) (St.meetL A.up B.up) (max A.least B.least) (min A.most B.most)) = false := fun T q hT => by
    unfold St.emptyD St.rightD
    simp only [Bool.or_eq_false_iff, Bool.not_eq_false', decide_eq_true_eq, decide_eq_false_iff_not]
    exact ⟨hRt, by rw [q]; omega⟩
  rcases St.tight_cases2 (max A.least B.least) (min A.most B.most) sj sm hsub with ⟨q, a⟩ | ⟨q, a, b⟩ | ⟨q, a, b, c⟩ | ⟨q, a, b, c, f⟩
  · omega
  · refine ⟨ne _ q (Int.le_refl _), ?_⟩
    rw [q]
    have eup : C.up = St.meetL A.up B.up := St.set_sub_eq hR.2.2.2.1 sm hm (by omega)
    have elo : C.lo = C.up := by
      rcases c4 with h | h
      · exact h
      · rw [eup] at h; omega
    refine ⟨fun x hx => by rw [elo, eup]; exact hx, hm, ?_, ?_⟩
    · show ((St.meetL A.up B.up).length : Int) ≤ C.least; omega
    · show C.most ≤ ((St.meetL A.up B.up).length : Int); rw [← eup]; exact c3
  · refine ⟨ne _ q (Int.le_refl _), ?_⟩
    rw [q]
    have elo : St.joinL A.lo B.lo = C.lo := St.set_sub_eq sj hR.2.2.1 hj (by omega)
    have eup : C.lo = C.up := by
      rcases c4 with h | h
      · exact h
      · rw [← elo] at h; omega
    refine ⟨hj, fun x hx => by rw [elo, eup]; exact hx, ?_, ?_⟩
    · show ((St.joinL A.lo B.lo).length : Int) ≤ C.least; rw [elo]; exact c1
    · show C.most ≤ ((St.joinL A.lo B.lo).length : Int); omega
  · refine ⟨ne _ q (by show max (max A.least B.least) ((St.joinL A.lo B.lo).length : Int) ≤ min (min A.most B.most) ((St.meetL A.up B.up).length : Int); omega), ?_⟩
    rw [q]
    refine ⟨hj, hm, ?_, ?_⟩
    · show max (max A.least B.least) ((St.joinL A.lo B.lo).length : Int) ≤ C.least; omega
    · show C.most ≤ min (min A.most B.most) ((St.meetL A.up B.up).length : Int); omega
theorem both_below {A B : St.SD} (hA : St.RightD A) (hB : St.RightD B) (he : St.emptyD (St.bothG A B) = false) : LeD (St.bothG A B) A ∧ LeD (St.bothG A B) B := by
  unfold St.bothG at he ⊢
  split at he
  · rename_i hsub
    rw [if_pos hsub]
    have hsub' := (St.subB_iff _ _).1 hsub
    have sm := St.meet_set hA.2.2.2.1 B.up
    have sj := St.join_set hA.2.2.1 hB.2.2.1 sm hsub'
    exact ⟨tight_le sj sm hsub' he (fun x hx => (St.join_mem _ _ _).2 (.inl hx)) (fun x hx => ((St.meet_mem _ _ _).1 hx).1) (by omega) (by omega),
      tight_le sj sm hsub' he (fun x hx => (St.join_mem _ _ _).2 (.inr hx)) (fun x hx => ((St.meet_mem _ _ _).1 hx).2) (by omega) (by omega)⟩
  · rw [St.empty_none] at he; cases he
/-- A domain as a store holds it. -/
structure Tt (x : MD) : Prop where
  r : rightM x = true
  t : x.set = true → St.takenD (sdM x) = sdM x
theorem sd_of {s : St.SD} (h : St.RightD s) : sdM (ofSD s) = s := by
  cases s
  have h2 := h.2.1
  simp only at h2
  simp [sdM, ofSD, h2]
theorem md_of {x : MD} (hs : x.set = true) (hr : rightM x = true) : ofSD (sdM x) = x ∧ St.RightD (sdM x) := by
  have hw : St.rightD (sdM x) = true := by unfold rightM at hr; rwa [if_pos hs] at hr
  have hR : St.RightD (sdM x) := by unfold St.rightD at hw; simpa using hw
  have h0 : x.r = [] := List.length_eq_zero_iff.1 hR.2.1
  refine ⟨?_, hR⟩
  cases x
  simp only at h0
  subst h0
  rfl
theorem num_of {x : MD} (hs : x.set = false) (hr : rightM x = true) : Dm.Right x.r ∧ x = ⟨false, x.r, [], [], 0, 0⟩ := by
  have hw : rightW x = true := by unfold rightM at hr; rwa [if_neg (by rw [hs]; decide)] at hr
  unfold rightW at hw
  simp only [Bool.and_eq_true, decide_eq_true_eq] at hw
  obtain ⟨⟨⟨⟨w1, w2⟩, w3⟩, w4⟩, w5⟩ := hw
  have e1 : x.lo = [] := List.length_eq_zero_iff.1 w2
  have e2 : x.up = [] := List.length_eq_zero_iff.1 w3
  refine ⟨by unfold Dm.rightB at w1; simpa using w1, ?_⟩
  cases x
  simp only at hs e1 e2 w4 w5
  subst hs e1 e2 w4 w5
  rfl
theorem bothD_idem (a b : St.SD) : St.takenD (St.bothD a b) = St.bothD a b := by
  rw [St.bothD_G]
  have hA := St.taken_right a
  have hB := St.taken_right b
  unfold St.bothG
  split
  · rename_i hsub
    have hsub' := (St.subB_iff _ _).1 hsub
    have hm := St.meet_set hA.2.2.2.1 (St.takenD b).up
    exact tight_idem _ _ (St.join_set hA.2.2.1 hB.2.2.1 hm hsub') hm hsub'
  · exact (St.empty_yes St.empty_none).1
theorem both_tt {o d : MD} (ho : rightM o = true) : Tt (bothA o d) := by
  refine ⟨(both_held ho).r, fun hs => ?_⟩
  rw [bothA_set] at hs
  have e : bothA o d = ofSD (St.bothD (sdM o) (sdM d)) := by unfold bothA; rw [if_pos hs]
  rw [e, sd_of (bothD_right _ _)]
  exact bothD_idem _ _
theorem empty_sd {x : MD} (hs : x.set = true) (hr : rightM x = true) : emptyA x = St.emptyD (sdM x) := by
  have hR := (md_of hs hr).2
  unfold emptyA St.emptyD St.rightD
  rw [if_pos hs, decide_eq_true hR]
  rfl
theorem self_ne {d : MD} (hd : rightM d = true) (he : emptyA d = false) : emptyA (bothA d d) = false := by
  cases hs : d.set
  · have nd := num_of hs hd
    have e : bothA d d = bothW d d := by unfold bothA; rw [if_neg (by rw [hs]; decide)]
    have hb : Dm.bothR d.r d.r = d.r := both_num nd.1 hs (LeA.refl d)
    have hp := num_pos he hs
    rw [e]
    unfold emptyA emptyW bothW
    simp only [Bool.false_eq_true, if_false, hb]
    exact decide_eq_false (by omega)
  · have hR := (md_of hs hd).2
    have hB := bothD_right (sdM d) (sdM d)
    have e : bothA d d = ofSD (St.bothD (sdM d) (sdM d)) := by unfold bothA; rw [if_pos hs]
    rw [e, empty_sd hB.1 (ofSD_held hB).r, sd_of hB, St.bothD_G]
    rw [empty_sd hs hd] at he
    have hidem : St.takenD (St.takenD (sdM d)) = St.takenD (sdM d) := by
      have : St.takenD (sdM d) = St.tightD (sdM d).lo (sdM d).up (sdM d).least (sdM d).most := by unfold St.takenD; rw [if_pos hR]
      rw [this]
      exact tight_idem _ _ hR.2.2.1 hR.2.2.2.1 (St.right_sub hR)
    exact (meet_le hidem (taken_not he) (St.taken_right _) (St.taken_right _) (LeD.refl _) (LeD.refl _)).1
end Go.Proofs.YtghnfnieppfhgaaGreat

namespace Go.Proofs.YtghnfnieppfhgaaGreat
open Go.RowKit Go.Shelf
set_option linter.unusedVariables false
set_option linter.unusedSimpArgs false

theorem both_left {o d : MD} (ho : rightM o = true) (he : emptyA (bothA o d) = false) : LeA (bothA o d) o := by
  cases hs : o.set
  · have no := num_of hs ho
    have e : bothA o d = bothW o d := by unfold bothA; rw [if_neg (by rw [hs]; decide)]
    have hRb := bothR_right o.r d.r
    rw [e]
    refine ⟨hs.symm, ?_⟩
    show ∀ x ∈ Dm.vals (Dm.tk (Dm.bothR o.r d.r)), x ∈ Dm.vals (Dm.tk o.r)
    intro x hx
    rw [Dm.tk_yes hRb] at hx
    unfold Dm.bothR at hx
    split at hx
    · exact ((Dm.ov_facts (Dm.right_ord (Dm.tk_right o.r)).1 (Dm.right_ord (Dm.tk_right d.r)).1).2 x |>.1 hx).1
    · exact hx
  · have e : bothA o d = ofSD (St.bothD (sdM o) (sdM d)) := by unfold bothA; rw [if_pos hs]
    have hB := bothD_right (sdM o) (sdM d)
    have eb := sd_of hB
    have hs' : (ofSD (St.bothD (sdM o) (sdM d))).set = true := hB.1
    have hr' : rightM (ofSD (St.bothD (sdM o) (sdM d))) = true := (ofSD_held hB).r
    rw [e] at he ⊢
    rw [empty_sd hs' hr', eb, St.bothD_G] at he
    have q := both_below (St.taken_right _) (St.taken_right _) he
    rw [← St.bothD_G] at q
    refine ⟨hs'.trans hs.symm, ?_⟩
    rw [if_pos hs', eb, bothD_idem]; exact q.1
end Go.Proofs.YtghnfnieppfhgaaGreat
