/-
  What is proved here: the mathematics of StoreMeets: what is in both is the greatest that lies within both; what Narrow keeps of a store.
  What is proved here: the mathematics of StoreMeets: two narrowings are one by what is in both.
-/
import Derived.Test.YtghnfnieppfhgaaGreatMgj
import Derived.Test.YtghnfnieppfhgaaGreatMh
import Derived.Test.YtghnfnieppfhgaaGreatFaj
namespace Go.Proofs.YtghnfnieppfhgaaGreat
open Go.RowKit Go.Shelf
set_option linter.unusedVariables false
set_option linter.unusedSimpArgs false

theorem tight_idem {lo up : List Int} (least most : Int) (h1 : St.IsSet lo) (h2 : St.IsSet up) (hs : ∀ x ∈ lo, x ∈ up) : St.takenD (St.tightD lo up least most) = St.tightD lo up least most := by
  have hR := St.tight_right least most h1 h2 hs
  have e : St.takenD (St.tightD lo up least most) = St.tightD (St.tightD lo up least most).lo (St.tightD lo up least most).up (St.tightD lo up least most).least (St.tightD lo up least most).most := by
    unfold St.takenD; rw [if_pos hR]
  rw [e]
  rcases St.tight_cases2 least most h1 h2 hs with ⟨q, a⟩ | ⟨q, a, b⟩ | ⟨q, a, b, c⟩ | ⟨q, a, b, c, f⟩
  · rw [q]; exact St.tight_none (by decide)
  · rw [q]
    exact St.tight_top h2 h2 (fun _ h => h) (by show max (up.length : Int) up.length = up.length; omega) (Int.le_refl _)
  · rw [q]
    exact St.tight_bot h1 h1 (fun _ h => h) (Int.le_refl _) (by show min (lo.length : Int) lo.length = lo.length; omega)
  · rw [q]
    show St.tightD lo up (max least lo.length) (min most up.length) = _
    rcases St.tight_cases2 (max least lo.length) (min most up.length) h1 h2 hs with ⟨q2, a2⟩ | ⟨q2, a2, b2⟩ | ⟨q2, a2, b2, c2⟩ | ⟨q2, a2, b2, c2, f2⟩
    · omega
    · omega
    · omega
    · rw [q2]
      unfold St.TD
      congr 1 <;> omega
/-- What a tight domain of sets that is not empty is like. -/
theorem tight_look {C : St.SD} (ht : St.takenD C = C) (he : St.emptyD C = false) : St.RightD C ∧ (C.lo.length : Int) ≤ C.least ∧ C.least ≤ C.most ∧ C.most ≤ C.up.length ∧ (C.lo = C.up ∨ (C.least ≠ C.up.length ∧ C.most ≠ C.lo.length)) := by
  obtain ⟨hR, h1, h2, h3⟩ := St.empty_no he
  refine ⟨hR, h2, h1, h3, ?_⟩
  have e : C = St.tightD C.lo C.up C.least C.most := by
    have : St.takenD C = St.tightD C.lo C.up C.least C.most := by unfold St.takenD; rw [if_pos hR]
    rw [← this, ht]
  rcases St.tight_cases2 C.least C.most hR.2.2.1 hR.2.2.2.1 (St.right_sub hR) with ⟨q, a⟩ | ⟨q, a, b⟩ | ⟨q, a, b, c⟩ | ⟨q, a, b, c, f⟩
  · omega
  · left
    have : C = St.TD C.up C.up C.up.length C.up.length := e.trans q
    have := congrArg St.SD.lo this
    exact this
  · left
    have : C = St.TD C.lo C.lo C.lo.length C.lo.length := e.trans q
    have := congrArg St.SD.up this
    exact this.symm
  · right
    omega
theorem meet_le {C A B : St.SD} (ht : St.takenD C = C) (he : St.emptyD C = false) (hA : St.RightD A) (hB : St.RightD B) (h1 : LeD C A) (h2 : LeD C B) : St.emptyD (St.bothG A B) = false ∧ LeD C (St.bothG A B) := by
  obtain ⟨hR, c1, c2, c3, c4⟩ := tight_look ht he
  have hj : ∀ x ∈ St.joinL A.lo B.lo, x ∈ C.lo := fun x hx => ((St.join_mem _ _ _).1 hx).elim (h1.lo x) (h2.lo x)
  have hm : ∀ x ∈ C.up, x ∈ St.meetL A.up B.up := fun x hx => (St.meet_mem _ _ _).2 ⟨h1.up x hx, h2.up x hx⟩
  have hsub : ∀ x ∈ St.joinL A.lo B.lo, x ∈ St.meetL A.up B.up := fun x hx => hm x (St.right_sub hR x (hj x hx))
  have sm := St.meet_set hA.2.2.2.1 B.up
  have sj := St.join_set hA.2.2.1 hB.2.2.1 sm hsub
  have l1 := St.set_sub_len sj hR.2.2.1 hj
  have l2 := St.set_sub_len hR.2.2.2.1 sm hm
  have g1 := h1.least
  have g2 := h2.least
  have g3 := h1.most
  have g4 := h2.most
  have e : St.bothG A B = St.tightD (St.joinL A.lo B.lo) (St.meetL A.up B.up) (max A.least B.least) (min A.most B.most) := by
    unfold St.bothG
    rw [if_pos ((St.subB_iff _ _).2 hsub)]
  have hRt := St.tight_right (max A.least B.least) (min A.most B.most) sj sm hsub
  rw [e]
  have ne : ∀ T : St.SD, St.tightD (St.joinL A.lo B.lo) (St.meetL A.up B.up) (max A.least B.least) (min A.most B.most) = T → T.least ≤ T.most → St.emptyD (St.tightD (St.joinL A.lo B.lo) (St.meetL A.up B.up) (max A.least B.least) (min A.most B.most)) = false := fun T q hT => by
    unfold St.emptyD St.rightD
    simp only [Bool.or_eq_false_iff, Bool.not_eq_false', decide_eq_true_eq, decide_eq_false_iff_not]
    exact ⟨hRt, by rw [q]; omega⟩
  rcases St.tight_cases2 (max A.least B.least) (min A.most B.most) sj sm hsub with ⟨q, a⟩ | ⟨q, a, b⟩ | ⟨q, a, b, c⟩ | ⟨q, a, b, c, f⟩
  · omega
  · refine ⟨ne _ q (Int.le_refl _), ?_⟩
    rw [q]
    have eup : C.up = St.meetL A.up B.up := St.set_sub_eq hR.2.2.2.1 sm hm (by omega)
    have elo : C.lo = C.up := by
      rcases c4 with h | h
      · exact h
      · rw [eup] at h; omega
    refine ⟨fun x hx => by rw [elo, eup]; exact hx, hm, ?_, ?_⟩
    · show ((St.meetL A.up B.up).length : Int) ≤ C.least; omega
    · show C.most ≤ ((St.meetL A.up B.up).length : Int); rw [← eup]; exact c3
  · refine ⟨ne _ q (Int.le_refl _), ?_⟩
    rw [q]
    have elo : St.joinL A.lo B.lo = C.lo := St.set_sub_eq sj hR.2.2.1 hj (by omega)
    have eup : C.lo = C.up := by
      rcases c4 with h | h
      · exact h
      · rw [← elo] at h; omega
    refine ⟨hj, fun x hx => by rw [elo, eup]; exact hx, ?_, ?_⟩
    · show ((St.joinL A.lo B.lo).length : Int) ≤ C.least; rw [elo]; exact c1
    · show C.most ≤ ((St.joinL A.lo B.lo).length : Int); omega
  · refine ⟨ne _ q (by show max (max A.least B.least) ((St.joinL A.lo B.lo).length : Int) ≤ min (min A.most B.most) ((St.meetL A.up B.up).length : Int); omega), ?_⟩
    rw [q]
    refine ⟨hj, hm, ?_, ?_⟩
    · show max (max A.least B.least) ((St.joinL A.lo B.lo).length : Int) ≤ C.least; omega
    · show C.most ≤ min (min A.most B.most) ((St.meetL A.up B.up).length : Int); omega
theorem both_below {A B : St.SD} (hA : St.RightD A) (hB : St.RightD B) (he : St.emptyD (St.bothG A B) = false) : LeD (St.bothG A B) A ∧ LeD (St.bothG A B) B := by
  unfold St.bothG at he ⊢
  split at he
  · rename_i hsub
    rw [if_pos hsub]
    have hsub' := (St.subB_iff _ _).1 hsub
    have sm := St.meet_set hA.2.2.2.1 B.up
    have sj := St.join_set hA.2.2.1 hB.2.2.1 sm hsub'
    exact ⟨tight_le sj sm hsub' he (fun x hx => (St.join_mem _ _ _).2 (.inl hx)) (fun x hx => ((St.meet_mem _ _ _).1 hx).1) (by omega) (by omega),
      tight_le sj sm hsub' he (fun x hx => (St.join_mem _ _ _).2 (.inr hx)) (fun x hx => ((St.meet_mem _ _ _).1 hx).2) (by omega) (by omega)⟩
  · rw [St.empty_none] at he; cases he
theorem leD_eq {A B : St.SD} (hA : St.RightD A) (hB : St.RightD B) (h : LeD A B) (k : LeD B A) : A = B := by
  have e1 : A.lo = B.lo := St.set_ext hA.2.2.1 hB.2.2.1 fun x => ⟨k.lo x, h.lo x⟩
  have e2 : A.up = B.up := St.set_ext hA.2.2.2.1 hB.2.2.2.1 fun x => ⟨h.up x, k.up x⟩
  have e3 : A.least = B.least := Int.le_antisymm k.least h.least
  have e4 : A.most = B.most := Int.le_antisymm h.most k.most
  have e5 : A.set = B.set := hA.1.trans hB.1.symm
  have e6 : A.rn = B.rn := hA.2.1.trans hB.2.1.symm
  cases A
  cases B
  simp only at e1 e2 e3 e4 e5 e6
  subst e1 e2 e3 e4 e5 e6
  rfl
/-- A domain as a store holds it. -/
structure Tt (x : MD) : Prop where
  r : rightM x = true
  t : x.set = true → St.takenD (sdM x) = sdM x
theorem sd_of {s : St.SD} (h : St.RightD s) : sdM (ofSD s) = s := by
  cases s
  have h2 := h.2.1
  simp only at h2
  simp [sdM, ofSD, h2]
theorem md_of {x : MD} (hs : x.set = true) (hr : rightM x = true) : ofSD (sdM x) = x ∧ St.RightD (sdM x) := by
  have hw : St.rightD (sdM x) = true := by unfold rightM at hr; rwa [if_pos hs] at hr
  have hR : St.RightD (sdM x) := by unfold St.rightD at hw; simpa using hw
  have h0 : x.r = [] := List.length_eq_zero_iff.1 hR.2.1
  refine ⟨?_, hR⟩
  cases x
  simp only at h0
  subst h0
  rfl
theorem num_of {x : MD} (hs : x.set = false) (hr : rightM x = true) : Dm.Right x.r ∧ x = ⟨false, x.r, [], [], 0, 0⟩ := by
  have hw : rightW x = true := by unfold rightM at hr; rwa [if_neg (by rw [hs]; decide)] at hr
  unfold rightW at hw
  simp only [Bool.and_eq_true, decide_eq_true_eq] at hw
  obtain ⟨⟨⟨⟨w1, w2⟩, w3⟩, w4⟩, w5⟩ := hw
  have e1 : x.lo = [] := List.length_eq_zero_iff.1 w2
  have e2 : x.up = [] := List.length_eq_zero_iff.1 w3
  refine ⟨by unfold Dm.rightB at w1; simpa using w1, ?_⟩
  cases x
  simp only at hs e1 e2 w4 w5
  subst hs e1 e2 w4 w5
  rfl
theorem bothD_idem (a b : St.SD) : St.takenD (St.bothD a b) = St.bothD a b := by
  rw [St.bothD_G]
  have hA := St.taken_right a
  have hB := St.taken_right b
  unfold St.bothG
  split
  · rename_i hsub
    have hsub' := (St.subB_iff _ _).1 hsub
    have hm := St.meet_set hA.2.2.2.1 (St.takenD b).up
    exact tight_idem _ _ (St.join_set hA.2.2.1 hB.2.2.1 hm hsub') hm hsub'
  · exact (St.empty_yes St.empty_none).1
theorem both_tt {o d : MD} (ho : rightM o = true) : Tt (bothA o d) := by
  refine ⟨(both_held ho).r, fun hs => ?_⟩
  rw [bothA_set] at hs
  have e : bothA o d = ofSD (St.bothD (sdM o) (sdM d)) := by unfold bothA; rw [if_pos hs]
  rw [e, sd_of (bothD_right _ _)]
  exact bothD_idem _ _
theorem empty_sd {x : MD} (hs : x.set = true) (hr : rightM x = true) : emptyA x = St.emptyD (sdM x) := by
  have hR := (md_of hs hr).2
  unfold emptyA St.emptyD St.rightD
  rw [if_pos hs, decide_eq_true hR]
  rfl
theorem vals_ne {l : List Dm.Rg} (h : Dm.Right l) (h0 : 0 < l.length) : ∃ v, v ∈ Dm.vals l := by
  have ho := (Dm.right_ord h).1
  exact ⟨l[0].1, (Dm.mem_vals' _ _).2 ⟨l[0], List.getElem_mem h0, Int.le_refl _, ho.1 _ (List.getElem_mem h0)⟩⟩
theorem ne_vals {l : List Dm.Rg} {v : Int} (h : v ∈ Dm.vals l) : 0 < l.length := by
  obtain ⟨r, hr, _⟩ := (Dm.mem_vals' _ _).1 h
  exact List.length_pos_of_mem hr
theorem both_vals {a b : MD} (ha : Dm.Right a.r) (hb : Dm.Right b.r) (hl : a.r.length + b.r.length ≤ 4096) (v : Int) : v ∈ Dm.vals (Dm.bothR a.r b.r) ↔ v ∈ Dm.vals a.r ∧ v ∈ Dm.vals b.r := by
  have := Dm.ov_len (Dm.tk a.r) (Dm.tk b.r)
  rw [Dm.tk_yes ha, Dm.tk_yes hb] at this
  unfold Dm.bothR
  rw [Dm.tk_yes ha, Dm.tk_yes hb, if_pos (by omega)]
  exact (Dm.ov_facts (Dm.right_ord ha).1 (Dm.right_ord hb).1).2 v
/-- Within both: within what is in both. -/
theorem mp {o d C : MD} (ho : rightM o = true) (hd : rightM d = true) (hk : o.set = d.set) (hl : o.r.length + d.r.length ≤ 4096) (hC : Tt C) (he : emptyA C = false) (hc : C.set = o.set) (h1 : LeA C o) (h2 : LeA C d) : emptyA (bothA o d) = false ∧ LeA C (bothA o d) := by
  cases hs : o.set
  · have no := num_of hs ho
    have nd := num_of (by rw [← hk]; exact hs) hd
    have nc := num_of (by rw [hc]; exact hs) hC.r
    have hcs : ¬ C.set = true := by rw [hc, hs]; decide
    have e : bothA o d = bothW o d := by unfold bothA; rw [if_neg (by rw [hs]; decide)]
    have g1 := h1.2
    have g2 := h2.2
    rw [if_neg hcs, Dm.tk_yes nc.1, Dm.tk_yes no.1] at g1
    rw [if_neg hcs, Dm.tk_yes nc.1, Dm.tk_yes nd.1] at g2
    have key : ∀ x ∈ Dm.vals C.r, x ∈ Dm.vals (Dm.bothR o.r d.r) := fun x hx => (both_vals no.1 nd.1 hl x).2 ⟨g1 x hx, g2 x hx⟩
    have hRb := bothR_right o.r d.r
    have hcl := num_pos he (by rw [hc]; exact hs)
    obtain ⟨v, hv⟩ := vals_ne nc.1 hcl
    rw [e]
    refine ⟨?_, ?_, ?_⟩
    · have := ne_vals (key v hv)
      unfold emptyA emptyW bothW
      simp only [Bool.false_eq_true, if_false]
      exact decide_eq_false (by omega)
    · rw [hc, hs]; rfl
    · rw [if_neg hcs]
      intro x hx
      rw [Dm.tk_yes nc.1] at hx
      show x ∈ Dm.vals (Dm.tk (Dm.bothR o.r d.r))
      rw [Dm.tk_yes hRb]
      exact key x hx
  · have hcs : C.set = true := by rw [hc, hs]
    have e : bothA o d = ofSD (St.bothD (sdM o) (sdM d)) := by unfold bothA; rw [if_pos hs]
    have g1 := h1.2
    have g2 := h2.2
    rw [if_pos hcs, hC.t hcs] at g1 g2
    have q := meet_le (hC.t hcs) (by rw [← empty_sd hcs hC.r]; exact he) (St.taken_right _) (St.taken_right _) g1 g2
    rw [← St.bothD_G] at q
    have hB := bothD_right (sdM o) (sdM d)
    have eb := sd_of hB
    rw [e]
    have hs' : (ofSD (St.bothD (sdM o) (sdM d))).set = true := hB.1
    have hr' : rightM (ofSD (St.bothD (sdM o) (sdM d))) = true := (ofSD_held hB).r
    refine ⟨?_, hcs.trans hs'.symm, ?_⟩
    · rw [empty_sd hs' hr', eb]; exact q.1
    · rw [if_pos hcs, hC.t hcs, eb, bothD_idem]; exact q.2
/-- What is in both lies within both. -/
theorem ml {o d : MD} (ho : rightM o = true) (hd : rightM d = true) (hk : o.set = d.set) (hl : o.r.length + d.r.length ≤ 4096) (he : emptyA (bothA o d) = false) : LeA (bothA o d) o ∧ LeA (bothA o d) d := by
  cases hs : o.set
  · have no := num_of hs ho
    have nd := num_of (by rw [← hk]; exact hs) hd
    have e : bothA o d = bothW o d := by unfold bothA; rw [if_neg (by rw [hs]; decide)]
    have hRb := bothR_right o.r d.r
    rw [e]
    refine ⟨⟨hs.symm, ?_⟩, ⟨by rw [← hk]; exact hs.symm, ?_⟩⟩
    · show ∀ x ∈ Dm.vals (Dm.tk (Dm.bothR o.r d.r)), x ∈ Dm.vals (Dm.tk o.r)
      intro x hx
      rw [Dm.tk_yes hRb] at hx
      rw [Dm.tk_yes no.1]
      exact ((both_vals no.1 nd.1 hl x).1 hx).1
    · show ∀ x ∈ Dm.vals (Dm.tk (Dm.bothR o.r d.r)), x ∈ Dm.vals (Dm.tk d.r)
      intro x hx
      rw [Dm.tk_yes hRb] at hx
      rw [Dm.tk_yes nd.1]
      exact ((both_vals no.1 nd.1 hl x).1 hx).2
  · have e : bothA o d = ofSD (St.bothD (sdM o) (sdM d)) := by unfold bothA; rw [if_pos hs]
    have hB := bothD_right (sdM o) (sdM d)
    have eb := sd_of hB
    have hs' : (ofSD (St.bothD (sdM o) (sdM d))).set = true := hB.1
    have hr' : rightM (ofSD (St.bothD (sdM o) (sdM d))) = true := (ofSD_held hB).r
    rw [e] at he ⊢
    rw [empty_sd hs' hr', eb, St.bothD_G] at he
    have q := both_below (St.taken_right _) (St.taken_right _) he
    rw [← St.bothD_G] at q
    refine ⟨⟨hs'.trans hs.symm, ?_⟩, ⟨hs'.trans (by rw [← hk]; exact hs.symm), ?_⟩⟩
    · rw [if_pos hs', eb, bothD_idem]; exact q.1
    · rw [if_pos hs', eb, bothD_idem]; exact q.2
theorem le_ne {x y : MD} (hx : Tt x) (hy : Tt y) (h : LeA x y) (he : emptyA x = false) : emptyA y = false := by
  cases hs : x.set
  · have nx := num_of hs hx.r
    have ny := num_of (by rw [← h.1]; exact hs) hy.r
    have g := h.2
    rw [if_neg (by rw [hs]; decide), Dm.tk_yes nx.1, Dm.tk_yes ny.1] at g
    obtain ⟨v, hv⟩ := vals_ne nx.1 (num_pos he hs)
    have := ne_vals (g v hv)
    unfold emptyA emptyW
    rw [if_neg (by rw [← h.1, hs]; decide)]
    exact decide_eq_false (by omega)
  · have hys : y.set = true := by rw [← h.1]; exact hs
    have g := h.2
    rw [if_pos hs, hx.t hs, hy.t hys] at g
    rw [empty_sd hs hx.r] at he
    obtain ⟨hR, c1, c2, c3, _⟩ := tight_look (hx.t hs) he
    rw [empty_sd hys hy.r]
    unfold St.emptyD St.rightD
    simp only [Bool.or_eq_false_iff, Bool.not_eq_false', decide_eq_true_eq, decide_eq_false_iff_not]
    have g1 := g.least
    have g2 := g.most
    exact ⟨(md_of hys hy.r).2, by omega⟩
theorem leA_eq {x y : MD} (hx : Tt x) (hy : Tt y) (h : LeA x y) (k : LeA y x) : x = y := by
  cases hs : x.set
  · have nx := num_of hs hx.r
    have ny := num_of (by rw [← h.1]; exact hs) hy.r
    have g := h.2
    have g' := k.2
    rw [if_neg (by rw [hs]; decide), Dm.tk_yes nx.1, Dm.tk_yes ny.1] at g
    rw [if_neg (by rw [← h.1, hs]; decide), Dm.tk_yes nx.1, Dm.tk_yes ny.1] at g'
    have e : x.r = y.r := Dm.ord_ext (Dm.right_ord nx.1).1 (Dm.right_ord ny.1).1 fun v => ⟨g v, g' v⟩
    rw [nx.2, ny.2, e]
  · have hys : y.set = true := by rw [← h.1]; exact hs
    have g := h.2
    have g' := k.2
    rw [if_pos hs, hx.t hs, hy.t hys] at g
    rw [if_pos hys, hx.t hs, hy.t hys] at g'
    have e := leD_eq (md_of hs hx.r).2 (md_of hys hy.r).2 g g'
    rw [← (md_of hs hx.r).1, ← (md_of hys hy.r).1, e]
theorem same_eq {x y : MD} (hx : Tt x) (hy : Tt y) (hk : x.set = y.set) (h : sameA x y = true) : x = y := by
  unfold sameA at h
  cases hs : x.set
  · rw [hs] at h
    simp only [Bool.false_eq_true, if_false, decide_eq_true_eq] at h
    have nx := num_of hs hx.r
    have ny := num_of (by rw [← hk]; exact hs) hy.r
    rw [Dm.tk_yes nx.1, Dm.tk_yes ny.1] at h
    rw [nx.2, ny.2, h]
  · have hys : y.set = true := by rw [← hk]; exact hs
    rw [hs] at h
    simp only [if_true] at h
    unfold St.sameD St.eqD at h
    rw [hx.t hs, hy.t hys] at h
    simp only [Bool.and_eq_true, decide_eq_true_eq] at h
    obtain ⟨⟨⟨h1, h2⟩, h3⟩, h4⟩ := h
    have e : sdM x = sdM y := leD_eq (md_of hs hx.r).2 (md_of hys hy.r).2 ⟨fun z hz => by rw [h1]; exact hz, fun z hz => by rw [← h2]; exact hz, by omega, by omega⟩ ⟨fun z hz => by rw [← h1]; exact hz, fun z hz => by rw [h2]; exact hz, by omega, by omega⟩
    rw [← (md_of hs hx.r).1, ← (md_of hys hy.r).1, e]
theorem self_ne {d : MD} (hd : rightM d = true) (he : emptyA d = false) : emptyA (bothA d d) = false := by
  cases hs : d.set
  · have nd := num_of hs hd
    have e : bothA d d = bothW d d := by unfold bothA; rw [if_neg (by rw [hs]; decide)]
    have hb : Dm.bothR d.r d.r = d.r := both_num nd.1 hs (LeA.refl d)
    have hp := num_pos he hs
    rw [e]
    unfold emptyA emptyW bothW
    simp only [Bool.false_eq_true, if_false, hb]
    exact decide_eq_false (by omega)
  · have hR := (md_of hs hd).2
    have hB := bothD_right (sdM d) (sdM d)
    have e : bothA d d = ofSD (St.bothD (sdM d) (sdM d)) := by unfold bothA; rw [if_pos hs]
    rw [e, empty_sd hB.1 (ofSD_held hB).r, sd_of hB, St.bothD_G]
    rw [empty_sd hs hd] at he
    have hidem : St.takenD (St.takenD (sdM d)) = St.takenD (sdM d) := by
      have : St.takenD (sdM d) = St.tightD (sdM d).lo (sdM d).up (sdM d).least (sdM d).most := by unfold St.takenD; rw [if_pos hR]
      rw [this]
      exact tight_idem _ _ hR.2.2.1 hR.2.2.2.1 (St.right_sub hR)
    exact (meet_le hidem (taken_not he) (St.taken_right _) (St.taken_right _) (LeD.refl _) (LeD.refl _)).1
end Go.Proofs.YtghnfnieppfhgaaGreat

namespace Go.Proofs.YtghnfnieppfhgaaGreat
open Go.RowKit Go.Shelf
set_option linter.unusedVariables false
set_option linter.unusedSimpArgs false

/-- What holds of a store of which nothing was pushed. -/
structure Ok (st : StM) : Prop where
  flat : Flat st
  sz : Sz st
  tt : ∀ o ∈ st.D, Tt o
  e0 : 0 ≤ st.e
  ne : st.e = 0 → ∀ o ∈ st.D, emptyA o = false
theorem Ok.held {st : StM} (h : Ok st) : ∀ o ∈ st.D, Held o := fun o ho => right_held (h.tt o ho).r
theorem nar_go {st : StM} (h : Ok st) {n : Nat} {o d : MD} (hv : st.D[n]? = some o) (hr : rightM d = true) (hk : d.set = o.set) (h0 : st.e = 0) : (narM st (n : Int) d).D = st.D.set n (bothA o d) ∧ (narM st (n : Int) d).e = emptI (emptyA (bothA o d)) ∧ (narM st (n : Int) d).marks = st.marks ∧ (narM st (n : Int) d).since = st.since ∧ (narM st (n : Int) d).saved = st.saved := by
  have hl := (List.getElem?_eq_some_iff.1 hv).1
  have hth : thereB st (n : Int) = true := by unfold thereB; simp; exact hl
  have hm := List.mem_of_getElem? hv
  have hoe := h.ne h0 o hm
  have e1 : narM st (n : Int) d = if sameA o (bothA o d) = true then st else narrowA st n o (bothA o d) (chM o (bothA o d)) := by
    unfold narM
    rw [if_neg (by rw [hth]; decide), Int.toNat_natCast, hv]
    simp only [hr, hk, h0]
    rw [if_neg (by decide), if_neg (by simp), if_neg (by decide)]
  cases hS : sameA o (bothA o d)
  · rw [e1, if_neg (by rw [hS]; decide)]
    unfold narrowA
    rw [flat_save h.flat]
    have hE : st.e + (emptI (emptyA (bothA o d)) - emptI (emptyA o)) = emptI (emptyA (bothA o d)) := by rw [h0, hoe]; simp [emptI]
    split
    · exact ⟨rfl, hE, rfl, rfl, rfl⟩
    · exact ⟨rfl, hE, rfl, rfl, rfl⟩
  · rw [e1, if_pos hS]
    have e : o = bothA o d := same_eq (h.tt o hm) (both_tt (h.tt o hm).r) (bothA_set o d).symm hS
    refine ⟨?_, ?_, rfl, rfl, rfl⟩
    · rw [← e]
      apply List.ext_getElem?
      intro i
      by_cases hi : n = i
      · subst hi; rw [List.getElem?_set_self hl]; exact hv
      · rw [List.getElem?_set_ne hi]
    · rw [← e, hoe, h0]; rfl
theorem nar_stay {st : StM} {v : Int} {d : MD} (h : ∀ (n : Nat) (o : MD), v = (n : Int) → st.D[n]? = some o → d.set = o.set → st.e = 0 → False) (he : 0 ≤ st.e) : narM st v d = st := by
  unfold narM
  split
  · rfl
  · rename_i hth
    have hth : thereB st v = true := by simpa using hth
    unfold thereB at hth
    simp only [Bool.and_eq_true, decide_eq_true_eq] at hth
    obtain ⟨n, rfl⟩ : ∃ n : Nat, v = n := ⟨v.toNat, by omega⟩
    rw [Int.toNat_natCast]
    have hn : n < st.D.length := by omega
    rw [List.getElem?_eq_getElem hn]
    dsimp only
    split
    · rfl
    split
    · rfl
    · rename_i hk
      split
      · rfl
      · rename_i h0
        exact (h n _ rfl (List.getElem?_eq_getElem hn) (by simpa using hk) (by omega)).elim
theorem emptI_pos {b : Bool} : 0 < emptI b ↔ b = true := by cases b <;> simp [emptI]
theorem nar_ok {st : StM} (h : Ok st) (v : Int) (d : MD) (hr : rightM d = true) : Ok (narM st v d) := by
  by_cases hg : ∃ (n : Nat) (o : MD), v = (n : Int) ∧ st.D[n]? = some o ∧ d.set = o.set ∧ st.e = 0
  · obtain ⟨n, o, rfl, hv, hk, h0⟩ := hg
    obtain ⟨e1, e2, e3, e4, e5⟩ := nar_go h hv hr hk h0
    have hm := List.mem_of_getElem? hv
    have hT := both_tt (o := o) (d := d) (h.tt o hm).r
    refine ⟨⟨by rw [e3]; exact h.flat.m, fun v => by rw [e4]; exact h.flat.s v, by rw [e5]; exact h.flat.k⟩, ⟨by rw [e1, List.length_set]; exact h.sz.1, by rw [e3]; exact h.sz.2.1, by rw [e5]; exact h.sz.2.2⟩, ?_, ?_, ?_⟩
    · rw [e1]
      intro x hx
      rcases List.mem_or_eq_of_mem_set hx with q | q
      · exact h.tt x q
      · rw [q]; exact hT
    · rw [e2]; cases emptyA (bothA o d) <;> decide
    · rw [e1, e2]
      intro hz x hx
      have hb : emptyA (bothA o d) = false := by cases hE : emptyA (bothA o d); rfl; rw [hE] at hz; simp [emptI] at hz
      rcases List.mem_or_eq_of_mem_set hx with q | q
      · exact h.ne h0 x q
      · rw [q]; exact hb
  · rw [nar_stay (fun n o q1 q2 q3 q4 => hg ⟨n, o, q1, q2, q3, q4⟩) h.e0]
    exact h
theorem sum_zero : ∀ {l : List MD}, (l.map (fun d => emptI (emptyA d))).sum = 0 → ∀ d ∈ l, emptyA d = false
  | [], _, d, hd => by simp at hd
  | a :: t, h, d, hd => by
    have h1 := sum_01A t
    have h2 := emptI_01 (emptyA a)
    rw [List.map_cons, List.sum_cons] at h
    rcases List.mem_cons.1 hd with q | q
    · subst q
      cases hE : emptyA d
      · rfl
      · rw [hE, show emptI true = 1 from rfl] at h; omega
    · exact sum_zero (l := t) (by omega) d q
theorem new_okk {l : List MD} (hl : l.length ≤ 1000) (hr : ∀ d ∈ l, rightM d = true) : Ok (newA l) := by
  refine ⟨⟨rfl, fun v => ?_, rfl⟩, ⟨by show (l.map _).length ≤ 1000; rw [List.length_map]; exact hl, Nat.zero_le _, Nat.zero_le _⟩, ?_, (sum_01A l).1, ?_⟩
  · show (List.replicate l.length (0 : Int)).getD v 0 = 0
    rw [List.getD_eq_getElem?_getD, List.getElem?_replicate]
    split <;> rfl
  · intro o ho
    obtain ⟨d, hd, rfl⟩ := List.mem_map.1 ho
    exact both_tt (hr d hd)
  · intro h0 o ho
    obtain ⟨d, hd, rfl⟩ := List.mem_map.1 ho
    exact self_ne (hr d hd) (sum_zero h0 d hd)
/-- One side: first a, then b. -/
theorem meets_one {st : StM} (h : Ok st) (v : Int) {a b ab : MD} (ha : rightM a = true) (hb : rightM b = true) (hab : Tt ab) (ka : b.set = a.set) (kb : ab.set = a.set)
    (hmp : ∀ C, Tt C → emptyA C = false → C.set = a.set → LeA C a → LeA C b → emptyA ab = false ∧ LeA C ab) (hml : emptyA ab = false → LeA ab a ∧ LeA ab b)
    (hl : ∀ (n : Nat) (o : MD), v = (n : Int) → st.D[n]? = some o → o.r.length ≤ 1000) (la : a.r.length ≤ 1000) (lb : b.r.length ≤ 1000) (lab : ab.r.length ≤ 1000) :
    (0 < (narM (narM st v a) v b).e ↔ 0 < (narM st v ab).e) ∧ ((narM st v ab).e = 0 → (narM (narM st v a) v b).D = (narM st v ab).D) := by
  by_cases hg : ∃ (n : Nat) (o : MD), v = (n : Int) ∧ st.D[n]? = some o ∧ a.set = o.set ∧ st.e = 0
  · obtain ⟨n, o, rfl, hv, hk, h0⟩ := hg
    have ho1 := hl n o rfl hv
    have hm := List.mem_of_getElem? hv
    have hoT := h.tt o hm
    have hol := (List.getElem?_eq_some_iff.1 hv).1
    obtain ⟨e1, e2, _⟩ := nar_go h hv ha hk h0
    obtain ⟨u1, u2, _⟩ := nar_go h hv hab.r (kb.trans hk) h0
    have hna : Tt (bothA o a) := both_tt hoT.r
    have hY : Tt (bothA o ab) := both_tt hoT.r
    have hYs : (bothA o ab).set = a.set := by rw [bothA_set, hk]
    -- what lies within o and ab lies within o, a and b
    have down : emptyA (bothA o ab) = false → LeA (bothA o ab) o ∧ LeA (bothA o ab) a ∧ LeA (bothA o ab) b := fun he => by
      obtain ⟨q1, q2⟩ := ml hoT.r hab.r (by rw [kb, hk]) (by omega) he
      obtain ⟨q3, q4⟩ := hml (le_ne hY hab q2 he)
      exact ⟨q1, q2.trans q3, q2.trans q4⟩
    have hO' := nar_ok h (n : Int) a ha
    have hlna : (bothA o a).r.length ≤ 2000 := by
      unfold bothA
      split
      · show ([] : List Dm.Rg).length ≤ 2000; decide
      · show (Dm.bothR o.r a.r).length ≤ 2000
        have q1 := Dm.ov_len (Dm.tk o.r) (Dm.tk a.r)
        have t1 : (Dm.tk o.r).length ≤ o.r.length := by unfold Dm.tk; split <;> simp
        have t2 : (Dm.tk a.r).length ≤ a.r.length := by unfold Dm.tk; split <;> simp
        unfold Dm.bothR
        split <;> omega
    cases hE : emptyA (bothA o a)
    · -- the first one leaves something
      rw [hE] at e2
      have e2' : (narM st (n : Int) a).e = 0 := e2
      have hv2 : (narM st (n : Int) a).D[n]? = some (bothA o a) := by rw [e1]; exact List.getElem?_set_self hol
      obtain ⟨f1, f2, _⟩ := nar_go hO' hv2 hb (by rw [bothA_set, ← hk]; exact ka) e2'
      have hX : Tt (bothA (bothA o a) b) := both_tt hna.r
      have fwd : emptyA (bothA (bothA o a) b) = false → emptyA (bothA o ab) = false ∧ LeA (bothA (bothA o a) b) (bothA o ab) := fun he => by
        obtain ⟨q1, q2⟩ := ml hna.r hb (by rw [bothA_set, ← hk]; exact ka.symm) (by omega) he
        obtain ⟨q3, q4⟩ := ml hoT.r ha hk.symm (by omega) hE
        have hXs : (bothA (bothA o a) b).set = a.set := by rw [bothA_set, bothA_set, hk]
        obtain ⟨_, q5⟩ := hmp _ hX he hXs (q1.trans q4) q2
        exact mp hoT.r hab.r (by rw [kb, hk]) (by omega) hX he (by rw [hXs, hk]) (q1.trans q3) q5
      have bwd : emptyA (bothA o ab) = false → emptyA (bothA (bothA o a) b) = false ∧ LeA (bothA o ab) (bothA (bothA o a) b) := fun he => by
        obtain ⟨q1, q2, q3⟩ := down he
        obtain ⟨_, q4⟩ := mp hoT.r ha hk.symm (by omega) hY he (by rw [bothA_set]) q1 q2
        exact mp hna.r hb (by rw [bothA_set, ← hk]; exact ka.symm) (by omega) hY he (by rw [bothA_set, bothA_set]) q4 q3
      rw [f2, u2, f1, u1, e1]
      refine ⟨?_, fun hz => ?_⟩
      · rw [emptI_pos, emptI_pos]
        constructor
        · intro q
          cases hq : emptyA (bothA o ab)
          · rw [(bwd hq).1] at q; cases q
          · rfl
        · intro q
          cases hq : emptyA (bothA (bothA o a) b)
          · rw [(fwd hq).1] at q; cases q
          · rfl
      · have hY0 : emptyA (bothA o ab) = false := by cases hq : emptyA (bothA o ab); rfl; rw [hq] at hz; simp [emptI] at hz
        obtain ⟨q1, q2⟩ := bwd hY0
        obtain ⟨_, q4⟩ := fwd q1
        rw [List.set_set, leA_eq hX hY q4 q2]
    · -- nothing is left at once
      rw [hE] at e2
      have e2' : (narM st (n : Int) a).e = 1 := e2
      have hst : narM (narM st (n : Int) a) (n : Int) b = narM st (n : Int) a := nar_stay (fun _ _ _ _ _ q => by omega) (by omega)
      have hYe : emptyA (bothA o ab) = true := by
        cases hq : emptyA (bothA o ab)
        · obtain ⟨q1, q2, q3⟩ := down hq
          have := (mp hoT.r ha hk.symm (by omega) hY hq (by rw [bothA_set]) q1 q2).1
          rw [hE] at this
          cases this
        · rfl
      rw [hst, e2', u2, hYe]
      exact ⟨by decide, fun hz => by simp [emptI] at hz⟩
  · have s1 : narM st v a = st := nar_stay (fun n o q1 q2 q3 q4 => hg ⟨n, o, q1, q2, q3, q4⟩) h.e0
    have s2 : narM st v b = st := nar_stay (fun n o q1 q2 q3 q4 => hg ⟨n, o, q1, q2, by rw [← ka]; exact q3, q4⟩) h.e0
    have s3 : narM st v ab = st := nar_stay (fun n o q1 q2 q3 q4 => hg ⟨n, o, q1, q2, by rw [← kb]; exact q3, q4⟩) h.e0
    rw [s1, s2, s3]
    exact ⟨Iff.rfl, fun _ => rfl⟩
theorem meets_both {st : StM} (h : Ok st) (v : Int) {a b : MD} (ha : rightM a = true) (hb : rightM b = true) (hk : a.set = b.set) (hl : ∀ (n : Nat) (o : MD), v = (n : Int) → st.D[n]? = some o → o.r.length ≤ 1000) (hab : a.r.length + b.r.length ≤ 1000) :
    (0 < (narM (narM st v a) v b).e ↔ 0 < (narM st v (bothA a b)).e) ∧ (0 < (narM (narM st v b) v a).e ↔ 0 < (narM st v (bothA a b)).e) ∧ ((narM st v (bothA a b)).e = 0 → (narM (narM st v a) v b).D = (narM st v (bothA a b)).D ∧ (narM (narM st v b) v a).D = (narM st v (bothA a b)).D) := by
  have hT : Tt (bothA a b) := both_tt ha
  have kab : (bothA a b).set = a.set := bothA_set a b
  have lab : (bothA a b).r.length ≤ 1000 := by
    unfold bothA
    split
    · show ([] : List Dm.Rg).length ≤ 1000; decide
    · show (Dm.bothR a.r b.r).length ≤ 1000
      have q1 := Dm.ov_len (Dm.tk a.r) (Dm.tk b.r)
      have t1 : (Dm.tk a.r).length ≤ a.r.length := by unfold Dm.tk; split <;> simp
      have t2 : (Dm.tk b.r).length ≤ b.r.length := by unfold Dm.tk; split <;> simp
      unfold Dm.bothR
      split <;> omega
  obtain ⟨p1, p2⟩ := meets_one h v ha hb hT hk.symm kab (fun C hC he hs h1 h2 => mp ha hb hk (by omega) hC he hs h1 h2) (fun he => ml ha hb hk (by omega) he) hl (by omega) (by omega) lab
  obtain ⟨q1, q2⟩ := meets_one h v hb ha hT hk (kab.trans hk) (fun C hC he hs h1 h2 => mp ha hb hk (by omega) hC he (hs.trans hk.symm) h2 h1) (fun he => (ml ha hb hk (by omega) he).symm) hl (by omega) (by omega) lab
  exact ⟨p1, q1, fun hz => ⟨p2 hz, q2 hz⟩⟩
end Go.Proofs.YtghnfnieppfhgaaGreat
