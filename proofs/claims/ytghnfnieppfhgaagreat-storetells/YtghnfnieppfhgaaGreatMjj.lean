/-
  What is proved here: the mathematics of StoreMeets: what is in both is the greatest that lies within both; what Narrow keeps of a store.
  What is proved here: the mathematics of StoreMeets: two narrowings are one by what is in both.
  What is proved here: the mathematics of StoreTells: what is told of a variable.
-/
import Derived.Test.YtghnfnieppfhgaaGreatMgj
import Derived.Test.YtghnfnieppfhgaaGreatMh
import Derived.Test.YtghnfnieppfhgaaGreatFdj
import Derived.Test.YtghnfnieppfhgaaGreatMe
namespace Go.Proofs.YtghnfnieppfhgaaGreat
open Go.RowKit Go.Shelf
set_option linter.unusedVariables false
set_option linter.unusedSimpArgs false

theorem tight_idem {lo up : List Int} (least most : Int) (h1 : St.IsSet lo) (h2 : St.IsSet up) (hs : ∀ x ∈ lo, x ∈ up) : St.takenD (St.tightD lo up least most) = St.tightD lo up least most := by
  have hR := St.tight_right least most h1 h2 hs
  have e : St.takenD (St.tightD lo up least most) = St.tightD (St.tightD lo up least most).lo (St.tightD lo up least most).up (St.tightD lo up least most).least (St.tightD lo up least most).most := by
    unfold St.takenD; rw [if_pos hR]
  rw [e]
  rcases St.tight_cases2 least most h1 h2 hs with ⟨q, a⟩ | ⟨q, a, b⟩ | ⟨q, a, b, c⟩ | ⟨q, a, b, c, f⟩
  · rw [q]; exact St.tight_none (by decide)
  · rw [q]
    exact St.tight_top h2 h2 (fun _ h => h) (by show max (up.length : Int) up.length = up.length; omega) (Int.le_refl _)
  · rw [q]
    exact St.tight_bot h1 h1 (fun _ h => h) (Int.le_refl _) (by show min (lo.length : Int) lo.length = lo.length; omega)
  · rw [q]
    show St.tightD lo up (max least lo.length) (min most up.length) = _
    rcases St.tight_cases2 (max least lo.length) (min most up.length) h1 h2 hs with ⟨q2, a2⟩ | ⟨q2, a2, b2⟩ | ⟨q2, a2, b2, c2⟩ | ⟨q2, a2, b2, c2, f2⟩
    · omega
    · omega
    · omega
    · rw [q2]
      unfold St.TD
      congr 1 <;> omega
/-- What a tight domain of sets that is not empty is like. -/
theorem tight_look {C : St.SD} (ht : St.takenD C = C) (he : St.emptyD C = false) : St.RightD C ∧ (C.lo.length : Int) ≤ C.least ∧ C.least ≤ C.most ∧ C.most ≤ C.up.length ∧ (C.lo = C.up ∨ (C.least ≠ C.up.length ∧ C.most ≠ C.lo.length)) := by
  obtain ⟨hR, h1, h2, h3⟩ := St.empty_no he
  refine ⟨hR, h2, h1, h3, ?_⟩
  have e : C = St.tightD C.lo C.up C.least C.most := by
    have : St.takenD C = St.tightD C.lo C.up C.least C.most := by unfold St.takenD; rw [if_pos hR]
    rw [← this, ht]
  rcases St.tight_cases2 C.least C.most hR.2.2.1 hR.2.2.2.1 (St.right_sub hR) with ⟨q, a⟩ | ⟨q, a, b⟩ | ⟨q, a, b, c⟩ | ⟨q, a, b, c, f⟩
  · omega
  · left
    have : C = St.TD C.up C.up C.up.length C.up.length := e.trans q
    have := congrArg St.SD.lo this
    exact this
  · left
    have : C = St.TD C.lo C.lo C.lo.length C.lo.length := e.trans q
    have := congrArg St.SD.up this
    exact this.symm
  · right
    omega
theorem meet_le {C A B : St.SD} (ht : St.takenD C = C) (he : St.emptyD C = false) (hA : St.RightD A) (hB : St.RightD B) (h1 : LeD C A) (h2 : LeD C B) : St.emptyD (St.bothG A B) = false ∧ LeD C (St.bothG A B) := by
  obtain ⟨hR, c1, c2, c3, c4⟩ := tight_look ht he
  have hj : ∀ x ∈ St.joinL A.lo B.lo, x ∈ C.lo := fun x hx => ((St.join_mem _ _ _).1 hx).elim (h1.lo x) (h2.lo x)
  have hm : ∀ x ∈ C.up, x ∈ St.meetL A.up B.up := fun x hx => (St.meet_mem _ _ _).2 ⟨h1.up x hx, h2.up x hx⟩
  have hsub : ∀ x ∈ St.joinL A.lo B.lo, x ∈ St.meetL A.up B.up := fun x hx => hm x (St.right_sub hR x (hj x hx))
  have sm := St.meet_set hA.2.2.2.1 B.up
  have sj := St.join_set hA.2.2.1 hB.2.2.1 sm hsub
  have l1 := St.set_sub_len sj hR.2.2.1 hj
  have l2 := St.set_sub_len hR.2.2.2.1 sm hm
  have g1 := h1.least
  have g2 := h2.least
  have g3 := h1.most
  have g4 := h2.most
  have e : St.bothG A B = St.tightD (St.joinL A.lo B.lo) (St.meetL A.up B.up) (max A.least B.least) (min A.most B.most) := by
    unfold St.bothG
    rw [if_pos ((St.subB_iff _ _).2 hsub)]
  have hRt := St.tight_right (max A.least B.least) (min A.most B.most) sj sm hsub
  rw [e]
  have ne : ∀ T : St.SD, St.tightD (St.joinL A.lo B.lo) (St.meetL A.up B.up) (max A.least B.least) (min A.most B.most) = T → T.least ≤ T.most → St.emptyD (St.tightD (St.joinL A.lo B.lo) (St.meetL A.up B.up) (max A.least B.least) (min A.most B.most)) = false := fun T q hT => by
    unfold St.emptyD St.rightD
    simp only [Bool.or_eq_false_iff, Bool.not_eq_false', decide_eq_true_eq, decide_eq_false_iff_not]
    exact ⟨hRt, by rw [q]; omega⟩
  rcases St.tight_cases2 (max A.least B.least) (min A.most B.most) sj sm hsub with ⟨q, a⟩ | ⟨q, a, b⟩ | ⟨q, a, b, c⟩ | ⟨q, a, b, c, f⟩
  · omega
  · refine ⟨ne _ q (Int.le_refl _), ?_⟩
    rw [q]
    have eup : C.up = St.meetL A.up B.up := St.set_sub_eq hR.2.2.2.1 sm hm (by omega)
    have elo : C.lo = C.up := by
      rcases c4 with h | h
      · exact h
      · rw [eup] at h; omega
    refine ⟨fun x hx => by rw [elo, eup]; exact hx, hm, ?_, ?_⟩
    · show ((St.meetL A.up B.up).length : Int) ≤ C.least; omega
    · show C.most ≤ ((St.meetL A.up B.up).length : Int); rw [← eup]; exact c3
  · refine ⟨ne _ q (Int.le_refl _), ?_⟩
    rw [q]
    have elo : St.joinL A.lo B.lo = C.lo := St.set_sub_eq sj hR.2.2.1 hj (by omega)
    have eup : C.lo = C.up := by
      rcases c4 with h | h
      · exact h
      · rw [← elo] at h; omega
    refine ⟨hj, fun x hx => by rw [elo, eup]; exact hx, ?_, ?_⟩
    · show ((St.joinL A.lo B.lo).length : Int) ≤ C.least; rw [elo]; exact c1
    · show C.most ≤ ((St.joinL A.lo B.lo).length : Int); omega
  · refine ⟨ne _ q (by show max (max A.least B.least) ((St.joinL A.lo B.lo).length : Int) ≤ min (min A.most B.most) ((St.meetL A.up B.up).length : Int); omega), ?_⟩
    rw [q]
    refine ⟨hj, hm, ?_, ?_⟩
    · show max (max A.least B.least) ((St.joinL A.lo B.lo).length : Int) ≤ C.least; omega
    · show C.most ≤ min (min A.most B.most) ((St.meetL A.up B.up).length : Int); omega
theorem both_below {A B : St.SD} (hA : St.RightD A) (hB : St.RightD B) (he : St.emptyD (St.bothG A B) = false) : LeD (St.bothG A B) A ∧ LeD (St.bothG A B) B := by
  unfold St.bothG at he ⊢
  split at he
  · rename_i hsub
    rw [if_pos hsub]
    have hsub' := (St.subB_iff _ _).1 hsub
    have sm := St.meet_set hA.2.2.2.1 B.up
    have sj := St.join_set hA.2.2.1 hB.2.2.1 sm hsub'
    exact ⟨tight_le sj sm hsub' he (fun x hx => (St.join_mem _ _ _).2 (.inl hx)) (fun x hx => ((St.meet_mem _ _ _).1 hx).1) (by omega) (by omega),
      tight_le sj sm hsub' he (fun x hx => (St.join_mem _ _ _).2 (.inr hx)) (fun x hx => ((St.meet_mem _ _ _).1 hx).2) (by omega) (by omega)⟩
  · rw [St.empty_none] at he; cases he
theorem leD_eq {A B : St.SD} (hA : St.RightD A) (hB : St.RightD B) (h : LeD A B) (k : LeD B A) : A = B := by
  have e1 : A.lo = B.lo := St.set_ext hA.2.2.1 hB.2.2.1 fun x => ⟨k.lo x, h.lo x⟩
  have e2 : A.up = B.up := St.set_ext hA.2.2.2.1 hB.2.2.2.1 fun x => ⟨h.up x, k.up x⟩
  have e3 : A.least = B.least := Int.le_antisymm k.least h.least
  have e4 : A.most = B.most := Int.le_antisymm h.most k.most
  have e5 : A.set = B.set := hA.1.trans hB.1.symm
  have e6 : A.rn = B.rn := hA.2.1.trans hB.2.1.symm
  cases A
  cases B
  simp only at e1 e2 e3 e4 e5 e6
  subst e1 e2 e3 e4 e5 e6
  rfl
/-- A domain as a store holds it. -/
structure Tt (x : MD) : Prop where
  r : rightM x = true
  t : x.set = true → St.takenD (sdM x) = sdM x
theorem sd_of {s : St.SD} (h : St.RightD s) : sdM (ofSD s) = s := by
  cases s
  have h2 := h.2.1
  simp only at h2
  simp [sdM, ofSD, h2]
theorem md_of {x : MD} (hs : x.set = true) (hr : rightM x = true) : ofSD (sdM x) = x ∧ St.RightD (sdM x) := by
  have hw : St.rightD (sdM x) = true := by unfold rightM at hr; rwa [if_pos hs] at hr
  have hR : St.RightD (sdM x) := by unfold St.rightD at hw; simpa using hw
  have h0 : x.r = [] := List.length_eq_zero_iff.1 hR.2.1
  refine ⟨?_, hR⟩
  cases x
  simp only at h0
  subst h0
  rfl
theorem num_of {x : MD} (hs : x.set = false) (hr : rightM x = true) : Dm.Right x.r ∧ x = ⟨false, x.r, [], [], 0, 0⟩ := by
  have hw : rightW x = true := by unfold rightM at hr; rwa [if_neg (by rw [hs]; decide)] at hr
  unfold rightW at hw
  simp only [Bool.and_eq_true, decide_eq_true_eq] at hw
  obtain ⟨⟨⟨⟨w1, w2⟩, w3⟩, w4⟩, w5⟩ := hw
  have e1 : x.lo = [] := List.length_eq_zero_iff.1 w2
  have e2 : x.up = [] := List.length_eq_zero_iff.1 w3
  refine ⟨by unfold Dm.rightB at w1; simpa using w1, ?_⟩
  cases x
  simp only at hs e1 e2 w4 w5
  subst hs e1 e2 w4 w5
  rfl
theorem bothD_idem (a b : St.SD) : St.takenD (St.bothD a b) = St.bothD a b := by
  rw [St.bothD_G]
  have hA := St.taken_right a
  have hB := St.taken_right b
  unfold St.bothG
  split
  · rename_i hsub
    have hsub' := (St.subB_iff _ _).1 hsub
    have hm := St.meet_set hA.2.2.2.1 (St.takenD b).up
    exact tight_idem _ _ (St.join_set hA.2.2.1 hB.2.2.1 hm hsub') hm hsub'
  · exact (St.empty_yes St.empty_none).1
theorem both_tt {o d : MD} (ho : rightM o = true) : Tt (bothA o d) := by
  refine ⟨(both_held ho).r, fun hs => ?_⟩
  rw [bothA_set] at hs
  have e : bothA o d = ofSD (St.bothD (sdM o) (sdM d)) := by unfold bothA; rw [if_pos hs]
  rw [e, sd_of (bothD_right _ _)]
  exact bothD_idem _ _
theorem empty_sd {x : MD} (hs : x.set = true) (hr : rightM x = true) : emptyA x = St.emptyD (sdM x) := by
  have hR := (md_of hs hr).2
  unfold emptyA St.emptyD St.rightD
  rw [if_pos hs, decide_eq_true hR]
  rfl
theorem vals_ne {l : List Dm.Rg} (h : Dm.Right l) (h0 : 0 < l.length) : ∃ v, v ∈ Dm.vals l := by
  have ho := (Dm.right_ord h).1
  exact ⟨l[0].1, (Dm.mem_vals' _ _).2 ⟨l[0], List.getElem_mem h0, Int.le_refl _, ho.1 _ (List.getElem_mem h0)⟩⟩
theorem ne_vals {l : List Dm.Rg} {v : Int} (h : v ∈ Dm.vals l) : 0 < l.length := by
  obtain ⟨r, hr, _⟩ := (Dm.mem_vals' _ _).1 h
  exact List.length_pos_of_mem hr
theorem le_ne {x y : MD} (hx : Tt x) (hy : Tt y) (h : LeA x y) (he : emptyA x = false) : emptyA y = false := by
  cases hs : x.set
  · have nx := num_of hs hx.r
    have ny := num_of (by rw [← h.1]; exact hs) hy.r
    have g := h.2
    rw [if_neg (by rw [hs]; decide), Dm.tk_yes nx.1, Dm.tk_yes ny.1] at g
    obtain ⟨v, hv⟩ := vals_ne nx.1 (num_pos he hs)
    have := ne_vals (g v hv)
    unfold emptyA emptyW
    rw [if_neg (by rw [← h.1, hs]; decide)]
    exact decide_eq_false (by omega)
  · have hys : y.set = true := by rw [← h.1]; exact hs
    have g := h.2
    rw [if_pos hs, hx.t hs, hy.t hys] at g
    rw [empty_sd hs hx.r] at he
    obtain ⟨hR, c1, c2, c3, _⟩ := tight_look (hx.t hs) he
    rw [empty_sd hys hy.r]
    unfold St.emptyD St.rightD
    simp only [Bool.or_eq_false_iff, Bool.not_eq_false', decide_eq_true_eq, decide_eq_false_iff_not]
    have g1 := g.least
    have g2 := g.most
    exact ⟨(md_of hys hy.r).2, by omega⟩
theorem leA_eq {x y : MD} (hx : Tt x) (hy : Tt y) (h : LeA x y) (k : LeA y x) : x = y := by
  cases hs : x.set
  · have nx := num_of hs hx.r
    have ny := num_of (by rw [← h.1]; exact hs) hy.r
    have g := h.2
    have g' := k.2
    rw [if_neg (by rw [hs]; decide), Dm.tk_yes nx.1, Dm.tk_yes ny.1] at g
    rw [if_neg (by rw [← h.1, hs]; decide), Dm.tk_yes nx.1, Dm.tk_yes ny.1] at g'
    have e : x.r = y.r := Dm.ord_ext (Dm.right_ord nx.1).1 (Dm.right_ord ny.1).1 fun v => ⟨g v, g' v⟩
    rw [nx.2, ny.2, e]
  · have hys : y.set = true := by rw [← h.1]; exact hs
    have g := h.2
    have g' := k.2
    rw [if_pos hs, hx.t hs, hy.t hys] at g
    rw [if_pos hys, hx.t hs, hy.t hys] at g'
    have e := leD_eq (md_of hs hx.r).2 (md_of hys hy.r).2 g g'
    rw [← (md_of hs hx.r).1, ← (md_of hys hy.r).1, e]
theorem same_eq {x y : MD} (hx : Tt x) (hy : Tt y) (hk : x.set = y.set) (h : sameA x y = true) : x = y := by
  unfold sameA at h
  cases hs : x.set
  · rw [hs] at h
    simp only [Bool.false_eq_true, if_false, decide_eq_true_eq] at h
    have nx := num_of hs hx.r
    have ny := num_of (by rw [← hk]; exact hs) hy.r
    rw [Dm.tk_yes nx.1, Dm.tk_yes ny.1] at h
    rw [nx.2, ny.2, h]
  · have hys : y.set = true := by rw [← hk]; exact hs
    rw [hs] at h
    simp only [if_true] at h
    unfold St.sameD St.eqD at h
    rw [hx.t hs, hy.t hys] at h
    simp only [Bool.and_eq_true, decide_eq_true_eq] at h
    obtain ⟨⟨⟨h1, h2⟩, h3⟩, h4⟩ := h
    have e : sdM x = sdM y := leD_eq (md_of hs hx.r).2 (md_of hys hy.r).2 ⟨fun z hz => by rw [h1]; exact hz, fun z hz => by rw [← h2]; exact hz, by omega, by omega⟩ ⟨fun z hz => by rw [← h1]; exact hz, fun z hz => by rw [h2]; exact hz, by omega, by omega⟩
    rw [← (md_of hs hx.r).1, ← (md_of hys hy.r).1, e]
theorem self_ne {d : MD} (hd : rightM d = true) (he : emptyA d = false) : emptyA (bothA d d) = false := by
  cases hs : d.set
  · have nd := num_of hs hd
    have e : bothA d d = bothW d d := by unfold bothA; rw [if_neg (by rw [hs]; decide)]
    have hb : Dm.bothR d.r d.r = d.r := both_num nd.1 hs (LeA.refl d)
    have hp := num_pos he hs
    rw [e]
    unfold emptyA emptyW bothW
    simp only [Bool.false_eq_true, if_false, hb]
    exact decide_eq_false (by omega)
  · have hR := (md_of hs hd).2
    have hB := bothD_right (sdM d) (sdM d)
    have e : bothA d d = ofSD (St.bothD (sdM d) (sdM d)) := by unfold bothA; rw [if_pos hs]
    rw [e, empty_sd hB.1 (ofSD_held hB).r, sd_of hB, St.bothD_G]
    rw [empty_sd hs hd] at he
    have hidem : St.takenD (St.takenD (sdM d)) = St.takenD (sdM d) := by
      have : St.takenD (sdM d) = St.tightD (sdM d).lo (sdM d).up (sdM d).least (sdM d).most := by unfold St.takenD; rw [if_pos hR]
      rw [this]
      exact tight_idem _ _ hR.2.2.1 hR.2.2.2.1 (St.right_sub hR)
    exact (meet_le hidem (taken_not he) (St.taken_right _) (St.taken_right _) (LeD.refl _) (LeD.refl _)).1
end Go.Proofs.YtghnfnieppfhgaaGreat

namespace Go.Proofs.YtghnfnieppfhgaaGreat
open Go.RowKit Go.Shelf
set_option linter.unusedVariables false
set_option linter.unusedSimpArgs false

/-- What holds of a store of which nothing was pushed. -/
structure Ok (st : StM) : Prop where
  flat : Flat st
  sz : Sz st
  tt : ∀ o ∈ st.D, Tt o
  e0 : 0 ≤ st.e
  ne : st.e = 0 → ∀ o ∈ st.D, emptyA o = false
theorem Ok.held {st : StM} (h : Ok st) : ∀ o ∈ st.D, Held o := fun o ho => right_held (h.tt o ho).r
theorem nar_go {st : StM} (h : Ok st) {n : Nat} {o d : MD} (hv : st.D[n]? = some o) (hr : rightM d = true) (hk : d.set = o.set) (h0 : st.e = 0) : (narM st (n : Int) d).D = st.D.set n (bothA o d) ∧ (narM st (n : Int) d).e = emptI (emptyA (bothA o d)) ∧ (narM st (n : Int) d).marks = st.marks ∧ (narM st (n : Int) d).since = st.since ∧ (narM st (n : Int) d).saved = st.saved := by
  have hl := (List.getElem?_eq_some_iff.1 hv).1
  have hth : thereB st (n : Int) = true := by unfold thereB; simp; exact hl
  have hm := List.mem_of_getElem? hv
  have hoe := h.ne h0 o hm
  have e1 : narM st (n : Int) d = if sameA o (bothA o d) = true then st else narrowA st n o (bothA o d) (chM o (bothA o d)) := by
    unfold narM
    rw [if_neg (by rw [hth]; decide), Int.toNat_natCast, hv]
    simp only [hr, hk, h0]
    rw [if_neg (by decide), if_neg (by simp), if_neg (by decide)]
  cases hS : sameA o (bothA o d)
  · rw [e1, if_neg (by rw [hS]; decide)]
    unfold narrowA
    rw [flat_save h.flat]
    have hE : st.e + (emptI (emptyA (bothA o d)) - emptI (emptyA o)) = emptI (emptyA (bothA o d)) := by rw [h0, hoe]; simp [emptI]
    split
    · exact ⟨rfl, hE, rfl, rfl, rfl⟩
    · exact ⟨rfl, hE, rfl, rfl, rfl⟩
  · rw [e1, if_pos hS]
    have e : o = bothA o d := same_eq (h.tt o hm) (both_tt (h.tt o hm).r) (bothA_set o d).symm hS
    refine ⟨?_, ?_, rfl, rfl, rfl⟩
    · rw [← e]
      apply List.ext_getElem?
      intro i
      by_cases hi : n = i
      · subst hi; rw [List.getElem?_set_self hl]; exact hv
      · rw [List.getElem?_set_ne hi]
    · rw [← e, hoe, h0]; rfl
theorem nar_stay {st : StM} {v : Int} {d : MD} (h : ∀ (n : Nat) (o : MD), v = (n : Int) → st.D[n]? = some o → d.set = o.set → st.e = 0 → False) (he : 0 ≤ st.e) : narM st v d = st := by
  unfold narM
  split
  · rfl
  · rename_i hth
    have hth : thereB st v = true := by simpa using hth
    unfold thereB at hth
    simp only [Bool.and_eq_true, decide_eq_true_eq] at hth
    obtain ⟨n, rfl⟩ : ∃ n : Nat, v = n := ⟨v.toNat, by omega⟩
    rw [Int.toNat_natCast]
    have hn : n < st.D.length := by omega
    rw [List.getElem?_eq_getElem hn]
    dsimp only
    split
    · rfl
    split
    · rfl
    · rename_i hk
      split
      · rfl
      · rename_i h0
        exact (h n _ rfl (List.getElem?_eq_getElem hn) (by simpa using hk) (by omega)).elim
theorem nar_ok {st : StM} (h : Ok st) (v : Int) (d : MD) (hr : rightM d = true) : Ok (narM st v d) := by
  by_cases hg : ∃ (n : Nat) (o : MD), v = (n : Int) ∧ st.D[n]? = some o ∧ d.set = o.set ∧ st.e = 0
  · obtain ⟨n, o, rfl, hv, hk, h0⟩ := hg
    obtain ⟨e1, e2, e3, e4, e5⟩ := nar_go h hv hr hk h0
    have hm := List.mem_of_getElem? hv
    have hT := both_tt (o := o) (d := d) (h.tt o hm).r
    refine ⟨⟨by rw [e3]; exact h.flat.m, fun v => by rw [e4]; exact h.flat.s v, by rw [e5]; exact h.flat.k⟩, ⟨by rw [e1, List.length_set]; exact h.sz.1, by rw [e3]; exact h.sz.2.1, by rw [e5]; exact h.sz.2.2⟩, ?_, ?_, ?_⟩
    · rw [e1]
      intro x hx
      rcases List.mem_or_eq_of_mem_set hx with q | q
      · exact h.tt x q
      · rw [q]; exact hT
    · rw [e2]; cases emptyA (bothA o d) <;> decide
    · rw [e1, e2]
      intro hz x hx
      have hb : emptyA (bothA o d) = false := by cases hE : emptyA (bothA o d); rfl; rw [hE] at hz; simp [emptI] at hz
      rcases List.mem_or_eq_of_mem_set hx with q | q
      · exact h.ne h0 x q
      · rw [q]; exact hb
  · rw [nar_stay (fun n o q1 q2 q3 q4 => hg ⟨n, o, q1, q2, q3, q4⟩) h.e0]
    exact h
theorem sum_zero : ∀ {l : List MD}, (l.map (fun d => emptI (emptyA d))).sum = 0 → ∀ d ∈ l, emptyA d = false
  | [], _, d, hd => by simp at hd
  | a :: t, h, d, hd => by
    have h1 := sum_01A t
    have h2 := emptI_01 (emptyA a)
    rw [List.map_cons, List.sum_cons] at h
    rcases List.mem_cons.1 hd with q | q
    · subst q
      cases hE : emptyA d
      · rfl
      · rw [hE, show emptI true = 1 from rfl] at h; omega
    · exact sum_zero (l := t) (by omega) d q
theorem new_okk {l : List MD} (hl : l.length ≤ 1000) (hr : ∀ d ∈ l, rightM d = true) : Ok (newA l) := by
  refine ⟨⟨rfl, fun v => ?_, rfl⟩, ⟨by show (l.map _).length ≤ 1000; rw [List.length_map]; exact hl, Nat.zero_le _, Nat.zero_le _⟩, ?_, (sum_01A l).1, ?_⟩
  · show (List.replicate l.length (0 : Int)).getD v 0 = 0
    rw [List.getD_eq_getElem?_getD, List.getElem?_replicate]
    split <;> rfl
  · intro o ho
    obtain ⟨d, hd, rfl⟩ := List.mem_map.1 ho
    exact both_tt (hr d hd)
  · intro h0 o ho
    obtain ⟨d, hd, rfl⟩ := List.mem_map.1 ho
    exact self_ne (hr d hd) (sum_zero h0 d hd)
end Go.Proofs.YtghnfnieppfhgaaGreat

namespace Go.Proofs.YtghnfnieppfhgaaGreat
open Go.RowKit Go.Shelf
set_option linter.unusedVariables false
set_option linter.unusedSimpArgs false

theorem both_left {o d : MD} (ho : rightM o = true) (he : emptyA (bothA o d) = false) : LeA (bothA o d) o := by
  cases hs : o.set
  · have no := num_of hs ho
    have e : bothA o d = bothW o d := by unfold bothA; rw [if_neg (by rw [hs]; decide)]
    have hRb := bothR_right o.r d.r
    rw [e]
    refine ⟨hs.symm, ?_⟩
    show ∀ x ∈ Dm.vals (Dm.tk (Dm.bothR o.r d.r)), x ∈ Dm.vals (Dm.tk o.r)
    intro x hx
    rw [Dm.tk_yes hRb] at hx
    unfold Dm.bothR at hx
    split at hx
    · exact ((Dm.ov_facts (Dm.right_ord (Dm.tk_right o.r)).1 (Dm.right_ord (Dm.tk_right d.r)).1).2 x |>.1 hx).1
    · exact hx
  · have e : bothA o d = ofSD (St.bothD (sdM o) (sdM d)) := by unfold bothA; rw [if_pos hs]
    have hB := bothD_right (sdM o) (sdM d)
    have eb := sd_of hB
    have hs' : (ofSD (St.bothD (sdM o) (sdM d))).set = true := hB.1
    have hr' : rightM (ofSD (St.bothD (sdM o) (sdM d))) = true := (ofSD_held hB).r
    rw [e] at he ⊢
    rw [empty_sd hs' hr', eb, St.bothD_G] at he
    have q := both_below (St.taken_right _) (St.taken_right _) he
    rw [← St.bothD_G] at q
    refine ⟨hs'.trans hs.symm, ?_⟩
    rw [if_pos hs', eb, bothD_idem]; exact q.1
theorem same_refl {x : MD} : sameA x x = true := by
  unfold sameA
  split
  · exact St.same_taken _
  · simp
/-- What has one value becomes no smaller without becoming empty. -/
theorem only_le {x y : MD} (hx : Tt x) (hy : Tt y) (h : LeA x y) (he : emptyA x = false) (ho : onlyA y = true) : x = y := by
  cases hs : y.set
  · have hxs : x.set = false := by rw [h.1]; exact hs
    have nx := num_of hxs hx.r
    have ny := num_of hs hy.r
    have g := h.2
    rw [if_neg (by rw [hxs]; decide), Dm.tk_yes nx.1, Dm.tk_yes ny.1] at g
    have h1 : Dm.sizeR y.r = 1 := by
      unfold onlyA onlyW at ho
      rw [if_neg (by rw [hs]; decide), Dm.tk_yes ny.1] at ho
      by_cases q : Dm.sizeR y.r = 1
      · exact q
      · rw [if_neg q] at ho; cases ho
    rw [Dm.sizeR_vals (Dm.right_ord ny.1).1.1] at h1
    obtain ⟨v, hv⟩ : ∃ v, Dm.vals y.r = [v] := List.length_eq_one_iff.1 (by omega)
    obtain ⟨u, hu⟩ := vals_ne nx.1 (num_pos he hxs)
    have huv : u = v := by have := g u hu; rw [hv] at this; simpa using this
    refine leA_eq hx hy h ⟨h.1.symm, ?_⟩
    rw [if_neg (by rw [hs]; decide), Dm.tk_yes nx.1, Dm.tk_yes ny.1]
    intro z hz
    rw [hv] at hz
    have : z = v := by simpa using hz
    rw [this, ← huv]
    exact hu
  · have hxs : x.set = true := by rw [h.1]; exact hs
    have g := h.2
    rw [if_pos hxs, hx.t hxs, hy.t hs] at g
    have hex := he
    rw [empty_sd hxs hx.r] at hex
    obtain ⟨hRx, c1, c2, c3, c4⟩ := tight_look (hx.t hxs) hex
    have hey := le_ne hx hy h he
    rw [empty_sd hs hy.r] at hey
    obtain ⟨hRy, d1, d2, d3, d4⟩ := tight_look (hy.t hs) hey
    have hf : ¬ (sdM y).lo.length < (sdM y).up.length := by
      unfold onlyA at ho
      rw [if_pos hs] at ho
      unfold St.fixB at ho
      rw [hy.t hs] at ho
      simp only [Bool.and_eq_true, Bool.not_eq_true', decide_eq_false_iff_not] at ho
      exact ho.2
    have elo : (sdM y).lo = (sdM y).up := St.set_sub_eq hRy.2.2.1 hRy.2.2.2.1 (St.right_sub hRy) (by omega)
    have l1 := St.set_sub_len hRy.2.2.1 hRx.2.2.1 g.lo
    have l2 := St.set_sub_len hRx.2.2.2.1 hRy.2.2.2.1 g.up
    have l3 := St.set_sub_len hRx.2.2.1 hRx.2.2.2.1 (St.right_sub hRx)
    refine leA_eq hx hy h ⟨h.1.symm, ?_⟩
    rw [if_pos hs, hx.t hxs, hy.t hs]
    refine ⟨fun z hz => ?_, fun z hz => ?_, ?_, ?_⟩
    · rw [elo]; exact g.up z (St.right_sub hRx z hz)
    · rw [← elo] at hz; exact St.right_sub hRx z (g.lo z hz)
    · omega
    · omega
/-- What is kept of a variable that had x and has y now. -/
def Rv (x y : MD) (w : Int) : Prop := 0 ≤ w ∧ w ≤ 3 ∧ (emptyA y = false → LeA y x ∧ (w = 0 ↔ y = x) ∧ (w ≠ 0 → (w = 1 ↔ onlyA y = true)))
structure Tol (D0 : List MD) (st : StM) : Prop where
  ok : Ok st
  n : st.D.length = D0.length
  w : st.why.length = D0.length
  t : ∀ x ∈ D0, Tt x
  v : ∀ (i : Nat) (x y : MD), D0[i]? = some x → st.D[i]? = some y → Rv x y (st.why.getD i 0)
theorem ch_vals (a b : MD) : (chM a b = 1 ↔ onlyA b = true) ∧ 1 ≤ chM a b ∧ chM a b ≤ 3 := by
  unfold chM
  cases onlyA b
  · simp only [Bool.false_eq_true, if_false]
    split <;> simp
  · simp
theorem Tol.step {D0 : List MD} {st : StM} (h : Tol D0 st) (v : Int) (d : MD) : Tol D0 (narM st v d) := by
  by_cases hr : rightM d = true
  · by_cases hg : ∃ (n : Nat) (o : MD), v = (n : Int) ∧ st.D[n]? = some o ∧ d.set = o.set ∧ st.e = 0
    · obtain ⟨n, o, rfl, hv, hk, h0⟩ := hg
      have hO := nar_ok h.ok (n : Int) d hr
      obtain ⟨e1, e2, _⟩ := nar_go h.ok hv hr hk h0
      have hol := (List.getElem?_eq_some_iff.1 hv).1
      have hm := List.mem_of_getElem? hv
      have hoT := h.ok.tt o hm
      have hnT : Tt (bothA o d) := both_tt hoT.r
      have hth : thereB st (n : Int) = true := by unfold thereB; simp; exact hol
      have en : narM st (n : Int) d = if sameA o (bothA o d) = true then st else narrowA st n o (bothA o d) (chM o (bothA o d)) := by
        unfold narM
        rw [if_neg (by rw [hth]; decide), Int.toNat_natCast, hv]
        simp only [hr, hk, h0]
        rw [if_neg (by decide), if_neg (by simp), if_neg (by decide)]
      cases hS : sameA o (bothA o d)
      · have ew : (narM st (n : Int) d).why = if emptyA (bothA o d) = true then st.why else tellM st.why n (chM o (bothA o d)) := by
          rw [en, if_neg (by rw [hS]; decide)]
          unfold narrowA
          rw [flat_save h.ok.flat]
          split <;> rfl
        refine ⟨hO, by rw [e1, List.length_set]; exact h.n, ?_, h.t, fun i x y hx hy => ?_⟩
        · rw [ew]
          split
          · exact h.w
          · unfold tellM
            split
            · rw [List.length_set]; exact h.w
            · exact h.w
        · rw [e1] at hy
          by_cases hi : n = i
          · subst hi
            rw [List.getElem?_set_self hol] at hy
            injection hy with hy
            subst hy
            obtain ⟨q1, q2, q3⟩ := h.v n x o hx hv
            cases hE : emptyA (bothA o d)
            · obtain ⟨q4, q5, q6⟩ := q3 (h.ok.ne h0 o hm)
              obtain ⟨c1, c2, c3⟩ := ch_vals o (bothA o d)
              have hle := both_left hoT.r hE
              have hno : o ≠ bothA o d := fun e => by rw [← e, same_refl] at hS; cases hS
              have hnx : bothA o d ≠ x := fun e => hno (leA_eq hoT hnT (by rw [e]; exact q4) hle)
              have hfo : onlyA o = false := by
                cases q : onlyA o
                · rfl
                · exact absurd (only_le hnT hoT hle hE q).symm hno
              have hwn : n < st.why.length := by rw [h.w, ← h.n]; exact hol
              rw [ew, if_neg (by rw [hE]; decide)]
              unfold tellM
              split
              · rename_i hc
                have eg : (st.why.set n (chM o (bothA o d))).getD n 0 = chM o (bothA o d) := by rw [List.getD_eq_getElem?_getD, List.getElem?_set_self hwn]; rfl
                rw [eg]
                exact ⟨by omega, by omega, fun _ => ⟨hle.trans q4, ⟨fun q => by omega, fun q => absurd q hnx⟩, fun _ => c1⟩⟩
              · rename_i hc
                have hw0 : st.why.getD n 0 ≠ 0 := fun q => hc (.inl q)
                have hw1 : ¬ chM o (bothA o d) < st.why.getD n 0 := fun q => hc (.inr q)
                have hw2 : st.why.getD n 0 ≠ 1 := fun q => by rw [(q6 hw0).1 q] at hfo; cases hfo
                refine ⟨q1, q2, fun _ => ⟨hle.trans q4, ⟨fun q => absurd q hw0, fun q => absurd q hnx⟩, fun _ => ⟨fun q => absurd q hw2, fun q => ?_⟩⟩⟩
                have := c1.2 q
                omega
            · rw [ew, if_pos hE]
              exact ⟨q1, q2, fun q => by rw [hE] at q; cases q⟩
          · rw [List.getElem?_set_ne hi] at hy
            have hrv := h.v i x y hx hy
            rw [ew]
            split
            · exact hrv
            · unfold tellM
              split
              · have eg : (st.why.set n (chM o (bothA o d))).getD i 0 = st.why.getD i 0 := by rw [List.getD_eq_getElem?_getD, List.getD_eq_getElem?_getD, List.getElem?_set_ne hi]
                rw [eg]; exact hrv
              · exact hrv
      · rw [en, if_pos hS]; exact h
    · rw [nar_stay (fun n o q1 q2 q3 q4 => hg ⟨n, o, q1, q2, q3, q4⟩) h.ok.e0]
      exact h
  · have e : narM st v d = st := by
      have hr' : rightM d = false := by simpa using hr
      unfold narM
      split
      · rfl
      · split
        · rfl
        · first | rfl | rw [if_pos hr']
    rw [e]; exact h
theorem tol_new {l : List MD} (hl : l.length ≤ 1000) (hr : ∀ d ∈ l, rightM d = true) : Tol (newA l).D (newA l) := by
  have hO := new_okk hl hr
  refine ⟨hO, rfl, ?_, hO.tt, fun i x y hx hy => ?_⟩
  · show (List.replicate l.length (0 : Int)).length = (l.map _).length
    simp
  · rw [hx] at hy
    injection hy with hy
    subst hy
    have e : (newA l).why.getD i 0 = 0 := by
      show (List.replicate l.length (0 : Int)).getD i 0 = 0
      rw [List.getD_eq_getElem?_getD, List.getElem?_replicate]
      split <;> rfl
    rw [e]
    exact ⟨Int.le_refl _, by decide, fun _ => ⟨LeA.refl x, ⟨fun _ => rfl, fun _ => rfl⟩, fun q => absurd rfl q⟩⟩
theorem re_empty {x : MD} (h : rightM x = true) : reM x = emptyA x := by
  cases hs : x.set
  · unfold reM emptyA emptyW
    rw [if_neg (by rw [hs]; decide), if_neg (by rw [hs]; decide)]
  · rw [empty_sd hs h]
    unfold reM
    rw [if_pos hs]
/-- What is told of a variable. -/
theorem Tol.told {D0 : List MD} {st : StM} (h : Tol D0 st) {i : Nat} {x y : MD} (hx : D0[i]? = some x) (hy : st.D[i]? = some y) :
    (evA st i = none ↔ (x = y ∨ emptyA y = true)) ∧ (emptyA y = false → x ≠ y → evA st i = some [.int .i64 i, .int .i64 (st.why.getD i 0)] ∧ (st.why.getD i 0 = 1 ↔ onlyA y = true)) := by
  obtain ⟨q1, q2, q3⟩ := h.v i x y hx hy
  have hg : st.D.getD i ⟨false, [], [], [], 0, 0⟩ = y := by rw [List.getD_eq_getElem?_getD, hy]; rfl
  have e : evA st i = if st.why.getD i 0 ≠ 0 ∧ emptyA y = false then some [.int .i64 i, .int .i64 (st.why.getD i 0)] else none := by unfold evA; rw [hg]
  rw [e]
  cases hE : emptyA y
  · obtain ⟨q4, q5, q6⟩ := q3 hE
    by_cases hw : st.why.getD i 0 = 0
    · have hxy := q5.1 hw
      rw [if_neg (fun q => q.1 hw)]
      exact ⟨⟨fun _ => .inl hxy.symm, fun _ => rfl⟩, fun _ q => absurd hxy.symm q⟩
    · have hxy : x ≠ y := fun q => hw (q5.2 q.symm)
      rw [if_pos ⟨hw, rfl⟩]
      exact ⟨⟨(fun q => by cases q), (fun q => q.elim (fun q => absurd q hxy) (fun q => by cases q))⟩, fun _ _ => ⟨rfl, q6 hw⟩⟩
  · rw [if_neg (fun q => by cases q.2)]
    exact ⟨⟨fun _ => .inr rfl, fun _ => rfl⟩, fun q => by cases q⟩
theorem evs_zero {st : StM} (h : ∀ i : Nat, st.why.getD i 0 = 0) : ∀ k, evsA st k = []
  | 0 => rfl
  | k + 1 => by
    rw [evsA_succ, evs_zero h k]
    have : evA st k = none := by unfold evA; rw [if_neg (fun q => q.1 (h k))]
    rw [this]; rfl
theorem evs_at {st : StM} {i n : Nat} {e : List Value} (hi : i < n) (he : evA st i = some e) : (evsA st n)[(evsA st i).length]? = some e := by
  induction n with
  | zero => omega
  | succ m ih =>
    rw [evsA_succ]
    rcases Nat.lt_or_ge i m with q | q
    · have h1 := ih q
      rw [List.getElem?_append_left (List.getElem?_eq_some_iff.1 h1).1]
      exact h1
    · obtain rfl : i = m := by omega
      rw [List.getElem?_append_right (Nat.le_refl _), Nat.sub_self, he]
      rfl
end Go.Proofs.YtghnfnieppfhgaaGreat
