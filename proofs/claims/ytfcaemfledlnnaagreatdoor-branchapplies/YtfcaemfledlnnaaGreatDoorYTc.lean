/-
  What is proved here: the cuts of the program and of the reference leave the same domains (mathematics only). slices.Equal and the reference's Same of any two slices of numbers. the reference's One of two domains in memory of their own.
-/
import Derived.Test.YtfcaemfledlnnaaGreatDoorYTb
import Derived.Test.YtfcaemfledlnnaaGreatDoorYRj
namespace Go.Proofs.YtfcaemfledlnnaaGreatDoor.St
open Go.RowKit Go.Shelf
set_option linter.unusedVariables false
set_option linter.unusedSimpArgs false

theorem tight_none {lo up : List Int} {least most : Int} (h : min most up.length < max least lo.length) : tightD lo up least most = noneD := by
  unfold tightD; dsimp only; rw [if_pos h]
theorem tight_top {lo up : List Int} {least most : Int} (h1 : IsSet lo) (h2 : IsSet up) (hs : ∀ x ∈ lo, x ∈ up) (ha : max least lo.length = up.length) (hb : (up.length : Int) ≤ most) : tightD lo up least most = TD up up up.length up.length := by
  rcases tight_cases2 least most h1 h2 hs with ⟨e, a⟩ | ⟨e, a, b⟩ | ⟨e, a, b, c⟩ | ⟨e, a, b, c, f⟩
  · omega
  · exact e
  · omega
  · exact absurd ha c
theorem tight_bot {lo up : List Int} {least most : Int} (h1 : IsSet lo) (h2 : IsSet up) (hs : ∀ x ∈ lo, x ∈ up) (ha : least ≤ lo.length) (hb : min most up.length = lo.length) : tightD lo up least most = TD lo lo lo.length lo.length := by
  rcases tight_cases2 least most h1 h2 hs with ⟨e, a⟩ | ⟨e, a, b⟩ | ⟨e, a, b, c⟩ | ⟨e, a, b, c, f⟩
  · omega
  · have : lo = up := set_sub_eq h1 h2 hs (by omega)
    rw [e, this]
  · exact e
  · exact absurd hb f
theorem empty_no {d : SD} (h : emptyD d = false) : RightD d ∧ d.least ≤ d.most ∧ (d.lo.length : Int) ≤ d.least ∧ d.most ≤ d.up.length := by
  unfold emptyD at h
  simp only [Bool.or_eq_false_iff, Bool.not_eq_false', decide_eq_false_iff_not, Int.not_lt] at h
  have hr : RightD d := of_decide_eq_true h.1
  have := hr.2.2.2.2.2
  refine ⟨hr, h.2, ?_, ?_⟩ <;> omega
theorem empty_yes {d : SD} (h : emptyD d = true) : takenD d = noneD ∧ rtakenD d = noneD := by
  refine ⟨?_, by unfold rtakenD; rw [h]; rfl⟩
  unfold takenD
  split
  · rename_i hr
    unfold emptyD at h
    have e1 : rightD d = true := decide_eq_true hr
    simp only [e1, Bool.not_true, Bool.false_or, decide_eq_true_eq] at h
    exact tight_none (by have := hr.2.2.2.2.2; omega)
  · rfl
theorem empty_none : emptyD noneD = true := by unfold emptyD; simp [noneD]
theorem rtaken_no {d : SD} (h : emptyD d = false) : rtakenD d = d := by unfold rtakenD; rw [h]; rfl
theorem taken_forms {d : SD} (h : emptyD d = false) :
    (takenD d = TD d.up d.up d.up.length d.up.length ∧ d.least = d.up.length ∧ d.most = d.up.length) ∨
    (takenD d = TD d.lo d.lo d.lo.length d.lo.length ∧ d.least = d.lo.length ∧ d.most = d.lo.length ∧ d.lo.length < d.up.length) ∨ takenD d = d := by
  obtain ⟨hr, h1, h2, h3⟩ := empty_no h
  have e : takenD d = tightD d.lo d.up d.least d.most := by unfold takenD; rw [if_pos hr]
  rw [e]
  rcases tight_cases2 d.least d.most hr.2.2.1 hr.2.2.2.1 (right_sub hr) with ⟨e, a⟩ | ⟨e, a, b⟩ | ⟨e, a, b, c⟩ | ⟨e, a, b, c, f⟩
  · omega
  · exact .inl ⟨e, by omega, by omega⟩
  · exact .inr (.inl ⟨e, by omega, by omega, c⟩)
  · refine .inr (.inr ?_)
    rw [e]
    have m1 : max d.least (d.lo.length : Int) = d.least := by omega
    have m2 : min d.most (d.up.length : Int) = d.most := by omega
    rw [m1, m2]
    obtain ⟨s, r, lo, up, le, mo⟩ := d
    obtain ⟨rfl, rfl, _⟩ := hr
    rfl
theorem has_yes {l : List Int} {v : Int} (h : v ∈ l) : l.contains v = true := by simpa using h
theorem has_no {l : List Int} {v : Int} (h : ¬ v ∈ l) : l.contains v = false := by simpa using h
theorem join_one_in {l : List Int} {v : Int} (hl : IsSet l) (hv : v ∈ l) : joinL l (tkS [v]) = l := by
  rw [tkS_one hl hv]
  exact set_ext (join_one_set hl hl (fun _ h => h) hv).1 hl fun x => by
    rw [join_mem]
    constructor
    · rintro (h | h)
      · exact h
      · rw [List.mem_singleton.1 h]; exact hv
    · exact .inl
theorem must_same (d : SD) (v : Int) : rmustD d v = mustD d v := by
  unfold mustD rmustD
  cases he : emptyD d
  · obtain ⟨hr, hle, hll, hmu⟩ := empty_no he
    have hs := right_sub hr
    have l1 := hr.2.2.1
    have l2 := hr.2.2.2.1
    rw [rtaken_no he, he, tkS_yes l1, tkS_yes l2]
    simp only [Bool.false_or]
    rcases taken_forms he with ⟨e, a, b⟩ | ⟨e, a, b, c⟩ | e
    · skip
      have e1 : (takenD d).lo = d.up := by rw [e]; rfl
      have e2 : (takenD d).up = d.up := by rw [e]; rfl
      have e3 : (takenD d).least = d.up.length := by rw [e]; rfl
      have e4 : (takenD d).most = d.up.length := by rw [e]; rfl
      simp only [e1, e2, e3, e4]
      by_cases hv : v ∈ d.up
      · rw [has_yes hv]
        simp only [Bool.not_true, Bool.false_eq_true, if_false, if_true]
        rw [join_one_in l2 hv, tkS_one l2 hv]
        obtain ⟨j1, j2⟩ := join_one_set l1 l2 hs hv
        have := set_sub_len j1 l2 j2
        rw [tight_top j1 l2 j2 (by omega) (by omega), tight_top l2 l2 (fun _ h => h) (by omega) (by omega)]
      · rw [has_no hv]; rfl
    · skip
      have e1 : (takenD d).lo = d.lo := by rw [e]; rfl
      have e2 : (takenD d).up = d.lo := by rw [e]; rfl
      have e3 : (takenD d).least = d.lo.length := by rw [e]; rfl
      have e4 : (takenD d).most = d.lo.length := by rw [e]; rfl
      simp only [e1, e2, e3, e4]
      by_cases hv : v ∈ d.lo
      · rw [has_yes hv, has_yes (hs v hv)]
        simp only [Bool.not_true, Bool.false_eq_true, if_false, if_true]
        rw [join_one_in l1 hv, tight_bot l1 l2 hs (by omega) (by omega), tight_top l1 l1 (fun _ h => h) (by omega) (by omega)]
      · rw [has_no hv]
        simp only [Bool.false_eq_true, if_false]
        by_cases hu : v ∈ d.up
        · rw [has_yes hu]
          simp only [Bool.not_true, Bool.false_eq_true, if_false]
          rw [tkS_one l2 hu]
          have hj : (joinL d.lo [v]).length = d.lo.length + 1 := by
            rw [join_len]
            have : lessL [v] d.lo = [v] := by unfold lessL; simp [hv]
            rw [this]; rfl
          exact tight_none (by omega)
        · rw [has_no hu]; rfl
    · rw [e]; cases h : d.up.contains v <;> simp
  · obtain ⟨e1, e2⟩ := empty_yes he
    rw [e1, e2, empty_none]
    rfl
theorem not_same (d : SD) (v : Int) : rnotD d v = notD d v := by
  unfold notD rnotD
  cases he : emptyD d
  · obtain ⟨hr, hle, hll, hmu⟩ := empty_no he
    have hs := right_sub hr
    have l1 := hr.2.2.1
    have l2 := hr.2.2.2.1
    rw [rtaken_no he, he, tkS_yes l1, tkS_yes l2]
    simp only [Bool.false_or]
    rcases taken_forms he with ⟨e, a, b⟩ | ⟨e, a, b, c⟩ | e
    · skip
      have e1 : (takenD d).lo = d.up := by rw [e]; rfl
      have e2 : (takenD d).up = d.up := by rw [e]; rfl
      have e3 : (takenD d).least = d.up.length := by rw [e]; rfl
      have e4 : (takenD d).most = d.up.length := by rw [e]; rfl
      simp only [e1, e2, e3, e4]
      by_cases hv : v ∈ d.up
      · rw [has_yes hv]
        simp only [if_true]
        split
        · rfl
        · rw [tkS_one l2 hv]
          have := less_len (set_pw l2) hv
          exact tight_none (by omega)
      · rw [has_no hv, has_no (fun h => hv (hs v h)), less_none hv]
        simp only [Bool.false_eq_true, if_false]
        rw [tight_top l1 l2 hs (by omega) (by omega), tight_top l2 l2 (fun _ h => h) (by omega) (by omega)]
    · skip
      have e1 : (takenD d).lo = d.lo := by rw [e]; rfl
      have e2 : (takenD d).up = d.lo := by rw [e]; rfl
      have e3 : (takenD d).least = d.lo.length := by rw [e]; rfl
      have e4 : (takenD d).most = d.lo.length := by rw [e]; rfl
      simp only [e1, e2, e3, e4]
      by_cases hv : v ∈ d.lo
      · rw [has_yes hv]; rfl
      · rw [has_no hv, less_none hv]
        simp only [Bool.false_eq_true, if_false]
        have j1 := less_one_set l2 (tkS [v])
        have j2 := not_sub hr hv
        have := set_sub_len l1 j1 j2
        rw [tight_bot l1 j1 j2 (by omega) (by omega), tight_top l1 l1 (fun _ h => h) (by omega) (by omega)]
    · rw [e]
  · obtain ⟨e1, e2⟩ := empty_yes he
    rw [e1, e2, empty_none]
    simp only [Bool.true_or, if_true]
    have : (noneD.lo.contains v) = false := rfl
    rw [this]
    simp only [Bool.false_eq_true, if_false]
    exact (tight_none (by simp [noneD, lessL] <;> omega)).symm
theorem card_same (d : SD) (x y : Int) : rcardD d x y = cardD d x y := by
  unfold cardD rcardD
  cases he : emptyD d
  · obtain ⟨hr, hle, hll, hmu⟩ := empty_no he
    have hs := right_sub hr
    have l1 := hr.2.2.1
    have l2 := hr.2.2.2.1
    have hl := set_sub_len l1 l2 hs
    rw [rtaken_no he, he]
    simp only [Bool.false_eq_true, if_false]
    rcases taken_forms he with ⟨e, a, b⟩ | ⟨e, a, b, c⟩ | e
    · skip
      have e1 : (takenD d).lo = d.up := by rw [e]; rfl
      have e2 : (takenD d).up = d.up := by rw [e]; rfl
      have e3 : (takenD d).least = d.up.length := by rw [e]; rfl
      have e4 : (takenD d).most = d.up.length := by rw [e]; rfl
      simp only [e1, e2, e3, e4]
      by_cases h : x ≤ d.up.length ∧ (d.up.length : Int) ≤ y
      · rw [tight_top l1 l2 hs (by omega) (by omega), tight_top l2 l2 (fun _ h => h) (by omega) (by omega)]
      · rw [tight_none (by omega), tight_none (by omega)]
    · skip
      have e1 : (takenD d).lo = d.lo := by rw [e]; rfl
      have e2 : (takenD d).up = d.lo := by rw [e]; rfl
      have e3 : (takenD d).least = d.lo.length := by rw [e]; rfl
      have e4 : (takenD d).most = d.lo.length := by rw [e]; rfl
      simp only [e1, e2, e3, e4]
      by_cases h : x ≤ d.lo.length ∧ (d.lo.length : Int) ≤ y
      · rw [tight_bot l1 l2 hs (by omega) (by omega), tight_top l1 l1 (fun _ h => h) (by omega) (by omega)]
      · rw [tight_none (by omega), tight_none (by omega)]
    · rw [e, Int.max_comm x, Int.min_comm y]
  · obtain ⟨e1, e2⟩ := empty_yes he
    rw [e1, e2, empty_none]
    simp only [if_true]
    exact (tight_none (by simp [noneD] <;> omega)).symm

/-! ### Both -/
theorem meet_mem (a b : List Int) (x : Int) : x ∈ meetL a b ↔ x ∈ a ∧ x ∈ b := by unfold meetL; rw [List.mem_filter]; simp
theorem meet_set {a : List Int} (ha : IsSet a) (b : List Int) : IsSet (meetL a b) := set_filter ha _
theorem join_set {a b u : List Int} (ha : IsSet a) (hb : IsSet b) (hu : IsSet u) (h : ∀ x ∈ joinL a b, x ∈ u) : IsSet (joinL a b) := by
  have hp := join_pw ha hb
  exact set_of (Nat.le_trans (pw_sub u _ hp (set_pw hu) h).length_le hu.1) (fun x hx => set_mem hu x (h x hx)) hp
def bothG (a b : SD) : SD := if subB (joinL a.lo b.lo) (meetL a.up b.up) then tightD (joinL a.lo b.lo) (meetL a.up b.up) (max a.least b.least) (min a.most b.most) else noneD
theorem bothG_comm {a b : SD} (ha : RightD a) (hb : RightD b) : bothG a b = bothG b a := by
  have m : meetL a.up b.up = meetL b.up a.up := set_ext (meet_set ha.2.2.2.1 _) (meet_set hb.2.2.2.1 _) fun x => by rw [meet_mem, meet_mem]; exact And.comm
  have key : ∀ {c d : SD}, RightD c → RightD d → subB (joinL c.lo d.lo) (meetL c.up d.up) = true → subB (joinL d.lo c.lo) (meetL c.up d.up) = true := fun {c d} hc hd h => by
    rw [subB_iff] at h ⊢
    intro x hx
    exact h x ((join_mem _ _ _).2 (((join_mem _ _ _).1 hx).symm))
  unfold bothG
  rw [← m]
  cases h : subB (joinL a.lo b.lo) (meetL a.up b.up)
  · cases h2 : subB (joinL b.lo a.lo) (meetL a.up b.up)
    · rfl
    · have := key hb ha (by rw [← m]; exact h2)
      rw [← m, h] at this
      cases this
  · rw [key ha hb h]
    have j : joinL a.lo b.lo = joinL b.lo a.lo :=
      set_ext (join_set ha.2.2.1 hb.2.2.1 (meet_set ha.2.2.2.1 b.up) ((subB_iff _ _).1 h)) (join_set hb.2.2.1 ha.2.2.1 (meet_set ha.2.2.2.1 b.up) ((subB_iff _ _).1 (key ha hb h))) fun x => by rw [join_mem, join_mem]; exact Or.comm
    simp only [if_true]
    rw [j, Int.max_comm, Int.min_comm]
theorem bothG_left {a b : SD} (he : emptyD a = false) (hb : RightD b) : bothG (takenD a) b = bothG a b := by
  obtain ⟨hr, hle, hll, hmu⟩ := empty_no he
  have hs := right_sub hr
  have l1 := hr.2.2.1
  have l2 := hr.2.2.2.1
  have b1 := hb.2.2.1
  have b2 := hb.2.2.2.1
  rcases taken_forms he with ⟨e, p, q⟩ | ⟨e, p, q, c⟩ | e
  · unfold bothG
    have e1 : (takenD a).lo = a.up := by rw [e]; rfl
    have e2 : (takenD a).up = a.up := by rw [e]; rfl
    have e3 : (takenD a).least = a.up.length := by rw [e]; rfl
    have e4 : (takenD a).most = a.up.length := by rw [e]; rfl
    simp only [e1, e2, e3, e4]
    have mset : IsSet (meetL a.up b.up) := meet_set l2 _
    have msub : ∀ x ∈ meetL a.up b.up, x ∈ a.up := fun x hx => ((meet_mem _ _ _).1 hx).1
    have ml := set_sub_len mset l2 msub
    by_cases hab : ∀ x ∈ a.up, x ∈ b.up
    · have em : meetL a.up b.up = a.up := set_ext mset l2 fun x => by rw [meet_mem]; exact ⟨fun h => h.1, fun h => ⟨h, hab x h⟩⟩
      rw [em]
      by_cases hba : ∀ x ∈ b.lo, x ∈ a.up
      · have s1 : ∀ x ∈ joinL a.up b.lo, x ∈ a.up := fun x hx => by rcases (join_mem _ _ _).1 hx with h | h; exact h; exact hba x h
        have s2 : ∀ x ∈ joinL a.lo b.lo, x ∈ a.up := fun x hx => by rcases (join_mem _ _ _).1 hx with h | h; exact hs x h; exact hba x h
        rw [(subB_iff _ _).2 s1, (subB_iff _ _).2 s2]
        simp only [if_true]
        have t1 := join_set l2 b1 l2 s1
        have t2 := join_set l1 b1 l2 s2
        have n1 := set_sub_len t1 l2 s1
        have n2 := set_sub_len t2 l2 s2
        by_cases hh : b.least ≤ a.up.length ∧ (a.up.length : Int) ≤ b.most
        · rw [tight_top t1 l2 s1 (by omega) (by omega), tight_top t2 l2 s2 (by omega) (by omega)]
        · rw [tight_none (by omega), tight_none (by omega)]
      · have s1 : subB (joinL a.up b.lo) a.up = false := by
          cases h : subB (joinL a.up b.lo) a.up
          · rfl
          · exact absurd (fun x hx => (subB_iff _ _).1 h x ((join_mem _ _ _).2 (.inr hx))) hba
        have s2 : subB (joinL a.lo b.lo) a.up = false := by
          cases h : subB (joinL a.lo b.lo) a.up
          · rfl
          · exact absurd (fun x hx => (subB_iff _ _).1 h x ((join_mem _ _ _).2 (.inr hx))) hba
        rw [s1, s2]
        rfl
    · have s1 : subB (joinL a.up b.lo) (meetL a.up b.up) = false := by
        cases h : subB (joinL a.up b.lo) (meetL a.up b.up)
        · rfl
        · exact absurd (fun x hx => ((meet_mem _ _ _).1 ((subB_iff _ _).1 h x ((join_mem _ _ _).2 (.inl hx)))).2) hab
      rw [s1]
      simp only [Bool.false_eq_true, if_false]
      have hlt : (meetL a.up b.up).length < a.up.length := by
        rcases Nat.lt_or_ge (meetL a.up b.up).length a.up.length with h | h
        · exact h
        · have := set_sub_eq mset l2 msub h
          exact absurd (fun x hx => by rw [← this] at hx; exact ((meet_mem _ _ _).1 hx).2) hab
      split
      · exact (tight_none (by omega)).symm
      · rfl
  · unfold bothG
    have e1 : (takenD a).lo = a.lo := by rw [e]; rfl
    have e2 : (takenD a).up = a.lo := by rw [e]; rfl
    have e3 : (takenD a).least = a.lo.length := by rw [e]; rfl
    have e4 : (takenD a).most = a.lo.length := by rw [e]; rfl
    simp only [e1, e2, e3, e4]
    have mset : IsSet (meetL a.lo b.up) := meet_set l1 _
    have mset2 : IsSet (meetL a.up b.up) := meet_set l2 _
    by_cases hba : ∀ x ∈ b.lo, x ∈ a.lo
    · have ej : joinL a.lo b.lo = a.lo := set_ext (join_set l1 b1 l1 fun x hx => by rcases (join_mem _ _ _).1 hx with h | h; exact h; exact hba x h) l1 fun x => by
        rw [join_mem]
        exact ⟨fun h => by rcases h with h | h; exact h; exact hba x h, .inl⟩
      rw [ej]
      by_cases hab : ∀ x ∈ a.lo, x ∈ b.up
      · have em : meetL a.lo b.up = a.lo := set_ext mset l1 fun x => by rw [meet_mem]; exact ⟨fun h => h.1, fun h => ⟨h, hab x h⟩⟩
        rw [em]
        have s2 : ∀ x ∈ a.lo, x ∈ meetL a.up b.up := fun x hx => (meet_mem _ _ _).2 ⟨hs x hx, hab x hx⟩
        rw [sub_refl, (subB_iff _ _).2 s2]
        simp only [if_true]
        have n2 := set_sub_len l1 mset2 s2
        by_cases hh : b.least ≤ a.lo.length ∧ (a.lo.length : Int) ≤ b.most
        · rw [tight_top l1 l1 (fun _ h => h) (by omega) (by omega), tight_bot l1 mset2 s2 (by omega) (by omega)]
        · rw [tight_none (by omega), tight_none (by omega)]
      · have s1 : subB a.lo (meetL a.lo b.up) = false := by
          cases h : subB a.lo (meetL a.lo b.up)
          · rfl
          · exact absurd (fun x hx => ((meet_mem _ _ _).1 ((subB_iff _ _).1 h x hx)).2) hab
        have s2 : subB a.lo (meetL a.up b.up) = false := by
          cases h : subB a.lo (meetL a.up b.up)
          · rfl
          · exact absurd (fun x hx => ((meet_mem _ _ _).1 ((subB_iff _ _).1 h x hx)).2) hab
        rw [s1, s2]
        rfl
    · have s1 : subB (joinL a.lo b.lo) (meetL a.lo b.up) = false := by
        cases h : subB (joinL a.lo b.lo) (meetL a.lo b.up)
        · rfl
        · exact absurd (fun x hx => ((meet_mem _ _ _).1 ((subB_iff _ _).1 h x ((join_mem _ _ _).2 (.inr hx)))).1) hba
      rw [s1]
      simp only [Bool.false_eq_true, if_false]
      cases h : subB (joinL a.lo b.lo) (meetL a.up b.up)
      · rfl
      · simp only [if_true]
        have js := join_set l1 b1 mset2 ((subB_iff _ _).1 h)
        have hlt : a.lo.length < (joinL a.lo b.lo).length := by
          rcases Nat.lt_or_ge a.lo.length (joinL a.lo b.lo).length with h | h
          · exact h
          · have := set_sub_eq l1 js (fun x hx => (join_mem _ _ _).2 (.inl hx)) h
            exact absurd (fun x hx => by rw [this]; exact (join_mem _ _ _).2 (.inr hx)) hba
        exact (tight_none (by omega)).symm
  · rw [e]
/-- sets.Both. -/
def bothD (d o : SD) : SD := if !subB (takenD d).lo (meetL (takenD d).up (takenD o).up) || !subB (takenD o).lo (meetL (takenD d).up (takenD o).up) then noneD else tightD (joinL (takenD d).lo (takenD o).lo) (meetL (takenD d).up (takenD o).up) (max (takenD d).least (takenD o).least) (min (takenD d).most (takenD o).most)
theorem sub_join2 (a b m : List Int) : subB (joinL a b) m = (subB a m && subB b m) := by
  rw [Bool.eq_iff_iff]
  simp only [Bool.and_eq_true, subB_iff]
  exact ⟨fun h => ⟨fun x hx => h x ((join_mem _ _ _).2 (.inl hx)), fun x hx => h x ((join_mem _ _ _).2 (.inr hx))⟩, fun h x hx => by rcases (join_mem _ _ _).1 hx with g | g; exact h.1 x g; exact h.2 x g⟩
theorem bothD_G (d o : SD) : bothD d o = bothG (takenD d) (takenD o) := by
  unfold bothD bothG
  rw [sub_join2]
  cases subB (takenD d).lo (meetL (takenD d).up (takenD o).up) <;> cases subB (takenD o).lo (meetL (takenD d).up (takenD o).up) <;> rfl
theorem bothG_none {b : SD} : bothG noneD b = noneD := by
  unfold bothG
  split
  · exact tight_none (by simp [noneD, meetL] <;> omega)
  · rfl
theorem both_same (d o : SD) : rbothD d o = bothD d o := by
  rw [bothD_G]
  unfold rbothD
  cases he : emptyD d
  · cases ho : emptyD o
    · rw [rtaken_no he, rtaken_no ho, he, ho]
      obtain ⟨hr, _⟩ := empty_no he
      obtain ⟨hq, _⟩ := empty_no ho
      rw [bothG_left he (taken_right o), bothG_comm hr (taken_right o), bothG_left ho hr, bothG_comm hq hr]
      simp only [Bool.or_self, Bool.false_eq_true, if_false]
      rw [tkS_yes hr.2.2.1, tkS_yes hr.2.2.2.1, tkS_yes hq.2.2.1, tkS_yes hq.2.2.2.1, tkS_yes (meet_set hr.2.2.2.1 o.up)]
      unfold bothG
      cases h : subB (joinL d.lo o.lo) (meetL d.up o.up)
      · cases hj : setB (joinL d.lo o.lo)
        · rfl
        · rw [tkS_yes (of_decide_eq_true hj), h]; rfl
      · have js := join_set hr.2.2.1 hq.2.2.1 (meet_set hr.2.2.2.1 o.up) ((subB_iff _ _).1 h)
        rw [setB_yes js, tkS_yes js, h]; rfl
    · obtain ⟨e1, e2⟩ := empty_yes ho
      rw [e1, e2, empty_none, bothG_comm (taken_right d) none_right, bothG_none]
      simp
  · obtain ⟨e1, e2⟩ := empty_yes he
    rw [e1, e2, empty_none, bothG_none]
    simp
/-- Same. -/
def eqD (d o : SD) : Bool := decide (d.lo = o.lo) && decide (d.up = o.up) && decide (d.least = o.least) && decide (d.most = o.most)
def sameD (d o : SD) : Bool := eqD (takenD d) (takenD o)
def rsameD (d o : SD) : Bool := if emptyD (rtakenD d) || emptyD (rtakenD o) then emptyD (rtakenD d) && emptyD (rtakenD o) else eqD (tightD (rtakenD d).lo (rtakenD d).up (rtakenD d).least (rtakenD d).most) (tightD (rtakenD o).lo (rtakenD o).up (rtakenD o).least (rtakenD o).most)
theorem eqD_refl (d : SD) : eqD d d = true := by unfold eqD; simp
theorem taken_le {d : SD} (h : emptyD d = false) : (takenD d).least ≤ (takenD d).most := by
  obtain ⟨_, a, _, _⟩ := empty_no h
  rcases taken_forms h with ⟨e, p, q⟩ | ⟨e, p, q, c⟩ | e <;> rw [e]
  · exact Int.le_refl _
  · exact Int.le_refl _
  · exact a
theorem same_same (d o : SD) : rsameD d o = sameD d o := by
  unfold rsameD sameD
  cases he : emptyD d <;> cases ho : emptyD o
  · rw [rtaken_no he, rtaken_no ho, he, ho]
    simp only [Bool.or_self, Bool.false_eq_true, if_false]
    unfold takenD
    rw [if_pos (empty_no he).1, if_pos (empty_no ho).1]
  · obtain ⟨e1, e2⟩ := empty_yes ho
    have := taken_le he
    rw [e1, e2, empty_none, rtaken_no he, he]
    simp only [Bool.or_true, if_true, Bool.false_and]
    cases h : eqD (takenD d) noneD
    · rfl
    · unfold eqD at h
      simp only [Bool.and_eq_true, decide_eq_true_eq] at h
      obtain ⟨⟨_, h4⟩, h5⟩ := h
      simp only [noneD] at h4 h5
      omega
  · obtain ⟨e1, e2⟩ := empty_yes he
    have := taken_le ho
    rw [e1, e2, empty_none, rtaken_no ho, ho]
    simp only [Bool.true_or, if_true, Bool.and_false]
    cases h : eqD noneD (takenD o)
    · rfl
    · unfold eqD at h
      simp only [Bool.and_eq_true, decide_eq_true_eq] at h
      obtain ⟨⟨_, h4⟩, h5⟩ := h
      simp only [noneD] at h4 h5
      omega
  · obtain ⟨e1, e2⟩ := empty_yes he
    obtain ⟨f1, f2⟩ := empty_yes ho
    rw [e1, e2, f1, f2, empty_none, eqD_refl]; rfl
theorem same_taken (d : SD) : sameD d d = true := eqD_refl _

theorem nth_list {a b : List Int} (hl : a.length = b.length) (h : ∀ i, i < a.length → nth a i = nth b i) : a = b := by
  apply List.ext_getElem hl
  intro i h1 h2
  have := h i h1
  simpa [nth, List.getElem?_eq_getElem h1, List.getElem?_eq_getElem h2] using this

set_option maxRecDepth 100000 in
set_option maxHeartbeats 4000000 in
theorem refsame_any (s1 s2 : Value) (a b : List Int) (W : World) (h1 : Si W s1 a) (h2 : Si W s2 b) (hr : a.length * 8 ≤ 140737488351232) :
    Calls Tryz.prog 57 #[s1, s2] W fun e w' => e = .returned (.bool (decide (a = b))) ∧ Below W.heap.size W w' := by
  obtain ⟨a1, c1, rfl, hc1⟩ := h1
  obtain ⟨a2, c2, rfl, hc2⟩ := h2
  obtain ⟨n, hn⟩ : ∃ n, a.length = n := ⟨_, rfl⟩
  obtain ⟨m, hm⟩ : ∃ m, b.length = m := ⟨_, rfl⟩
  have HN : Hid (a.length = n) := hn
  have HM : Hid (b.length = m) := hm
  rw [hn] at hc1 hr ⊢
  rw [hm] at hc2 ⊢
  have HC1 : Hid _ := hc1
  have HC2 : Hid _ := hc2
  clear hn hm hc1 hc2
  by_cases hl : n = m
  · subst hl
    go_enter Tryz.func57, Tryz.ntmps57
    go_wp2
    go_loopw [5] (fun i wr => ∃ k : Nat, k ≤ n ∧ i = .int .i64 (k : Int) ∧ Hid (∀ j, j < k → nth a j = nth b j) ∧ ∃ nq, wr = W.drewN nq) (fun i _ => n - (intOf i).toNat)
    case atStart => exact ⟨0, Nat.zero_le _, rfl, fun j hj => absurd hj (by omega), 0, rfl⟩
    case round =>
      obtain ⟨k, hk, rfl, HOK, nq0, rfl⟩ := hrel
      by_cases hlt : k < n
      · obtain ⟨b1, o1, rfl, _, hcell1⟩ := HC1.out (by omega)
        obtain ⟨b2, o2, rfl, _, hcell2⟩ := HC2.out (by omega)
        have x1 := hcell1 k hlt
        have x2 := hcell2 k hlt
        have kk : (k : Int) < (n : Int) := by omega
        clear hcell1 hcell2 HC1 HC2
        obtain ⟨x, hx⟩ : ∃ x, nth a k = x := ⟨_, rfl⟩
        obtain ⟨y, hy⟩ : ∃ x, nth b k = x := ⟨_, rfl⟩
        have HX : Hid (nth a k = x) := hx
        have HY : Hid (nth b k = y) := hy
        rw [hx] at x1
        rw [hy] at x2
        clear hx hy
        by_cases he : x = y
        · have HE : Hid (x = y) := he
          subst he
          go_wp2
          go_quiet (fail)
          go_wp2
          go_roundw
          case rel => exact ⟨k + 1, by omega, by go_num, fun j hj => if h : j = k then by subst h; rw [HX.out, HY.out] else HOK.out j (by omega), _, rfl⟩
          case measure => simp [intOf]; omega
        · have HE : Hid (¬ a = b) := fun h => he (by rw [← HX.out, ← HY.out, h])
          go_wp2
          go_quiet (fail)
          go_wp2
          go_ret
          exact ⟨ret_bool (by simpa using HE.out), below_drewN (below_drewN (Below.refl _ _) _) _⟩
      · have HE : Hid (a = b) := nth_list (by rw [HN.out, HM.out]) fun i hi => HOK.out i (by rw [HN.out] at hi; omega)
        go_wp2
        go_ret
        exact ⟨ret_bool (by simpa using HE.out), below_drewN (Below.refl _ _) _⟩
  · have HE : Hid (¬ a = b) := fun h => hl (by rw [← HN.out, ← HM.out, h])
    have hne : ¬ (n : Int) = (m : Int) := by omega
    go_enter Tryz.func57, Tryz.ntmps57
    go_wp2
    go_ret
    exact ⟨ret_bool (by simpa using HE.out), below_drewN (Below.refl _ _) 0⟩

set_option maxRecDepth 100000 in
set_option maxHeartbeats 4000000 in
theorem one_nil (v u : Value) (d o : SD) (W : World) (h : Dv 0 W v d) (ho : Dv 0 W u o) (hs : d.set = o.set) (hl1 : d.lo.length ≤ 1000) (hl2 : d.up.length ≤ 1000) :
    Calls Tryz.prog 22 #[v, u] W fun e w' => e = .returned (.bool (eqD d o)) ∧ Below W.heap.size W w' := by
  obtain ⟨y0a, p1a, m1a, k1a, p2a, m2a, k2a, y4a, y5a, rfl, HEa, HLOa, HUPa⟩ := h.look
  obtain ⟨y0b, p1b, m1b, k1b, p2b, m2b, k2b, y4b, y5b, rfl, HEb, HLOb, HUPb⟩ := ho.look
  have hs1 := dv_si h
  have hs2 := dv_si ho
  have k14a := fun X (hX : Below W.heap.size W X) => refsame_any _ _ d.lo o.lo X (hs1.1.below hX) (hs2.1.below hX) (by omega)
  have k14b := fun X (hX : Below W.heap.size W X) => refsame_any _ _ d.up o.up X (hs1.2.below hX) (hs2.2.below hX) (by omega)
  have hM : eqD d o = (decide (d.lo = o.lo) && decide (d.up = o.up) && decide (d.least = o.least) && decide (d.most = o.most)) := rfl
  rw [HEa.out.2.2.2.1, HEa.out.2.2.2.2.1, HEb.out.2.2.2.1, HEb.out.2.2.2.2.1] at hM
  generalize eqD d o = MD at hM ⊢
  obtain rfl : y0a = y0b := by rw [← HEa.out.1, ← HEb.out.1, hs]
  clear h ho HEa HLOa HUPa HEb HLOb HUPb hs1 hs2 hs hl1 hl2
  generalize decide (d.lo = o.lo) = c1 at *
  generalize decide (d.up = o.up) = c2 at *
  have HM : Hid _ := hM
  clear hM
  obtain ⟨w0, hW0⟩ : ∃ X, ((W.alloc (Obj.cells #[.bool y0a, .slice none 0 0, .slice p1a m1a k1a, .slice p2a m2a k2a, .int .i64 y4a, .int .i64 y5a] 50)).alloc (Obj.cells #[.bool y0a, .slice none 0 0, .slice p1b m1b k1b, .slice p2b m2b k2b, .int .i64 y4b, .int .i64 y5b] 50)) = X := ⟨_, rfl⟩
  have HW0 : Hid _ := hW0
  have hb0 : Below W.heap.size W w0 := by rw [← hW0]; exact (((Below.refl _ W).alloc (by simp <;> omega) _).alloc (by simp <;> omega) _)
  have HA_0 : Hid (R6 w0 W.heap.size (.bool y0a) (.slice none 0 0) (.slice p1a m1a k1a) (.slice p2a m2a k2a) (.int .i64 y4a) (.int .i64 y5a)) := by rw [← hW0]; exact ((R6.new _ _ _ _ _ _ _).alloc _)
  have HB_0 : Hid (R6 w0 (W.heap.size + 1) (.bool y0a) (.slice none 0 0) (.slice p1b m1b k1b) (.slice p2b m2b k2b) (.int .i64 y4b) (.int .i64 y5b)) := by rw [← hW0]; exact (R6.new1 _ _ _ _ _ _ _ _)
  clear hW0
  go_enter Tryz.func22, Tryz.ntmps22
  go_upto_region 1 with (fail)
  rw [HW0.out]
  clear HW0
  obtain ⟨zA0, zA1, zA2, zA3, zA4, zA5⟩ := HA_0.out.cells
  obtain ⟨zB0, zB1, zB2, zB3, zB4, zB5⟩ := HB_0.out.cells
  cases c1
  · go_wp2_with fail
    refine (k14a w0 hb0).mono ?_
    rintro e w1 ⟨rfl, hb⟩
    have hb1 : Below W.heap.size W w1 := hb0.trans (hb.mono hb0.size)
    have HA_1 : Hid _ := HA_0.out.below hb
    have HB_1 : Hid _ := HB_0.out.below hb
    clear zA0 zA1 zA2 zA3 zA4 zA5 zB0 zB1 zB2 zB3 zB4 zB5
    clear hb hb0 HA_0 HB_0
    obtain ⟨zA0, zA1, zA2, zA3, zA4, zA5⟩ := HA_1.out.cells
    obtain ⟨zB0, zB1, zB2, zB3, zB4, zB5⟩ := HB_1.out.cells
    go_wp2
    go_ret
    exact ⟨ret_bool (by rw [HM.out]; simp), hb1⟩
  · cases c2
    · go_wp2_with fail
      refine (k14a w0 hb0).mono ?_
      rintro e w1 ⟨rfl, hb⟩
      have hb1 : Below W.heap.size W w1 := hb0.trans (hb.mono hb0.size)
      have HA_1 : Hid _ := HA_0.out.below hb
      have HB_1 : Hid _ := HB_0.out.below hb
      clear zA0 zA1 zA2 zA3 zA4 zA5 zB0 zB1 zB2 zB3 zB4 zB5
      clear hb hb0 HA_0 HB_0
      obtain ⟨zA0, zA1, zA2, zA3, zA4, zA5⟩ := HA_1.out.cells
      obtain ⟨zB0, zB1, zB2, zB3, zB4, zB5⟩ := HB_1.out.cells
      go_wp2_with fail
      refine (k14b w1 hb1).mono ?_
      rintro e w2 ⟨rfl, hb⟩
      have hb2 : Below W.heap.size W w2 := hb1.trans (hb.mono hb1.size)
      have HA_2 : Hid _ := HA_1.out.below hb
      have HB_2 : Hid _ := HB_1.out.below hb
      clear zA0 zA1 zA2 zA3 zA4 zA5 zB0 zB1 zB2 zB3 zB4 zB5
      clear hb hb1 HA_1 HB_1
      obtain ⟨zA0, zA1, zA2, zA3, zA4, zA5⟩ := HA_2.out.cells
      obtain ⟨zB0, zB1, zB2, zB3, zB4, zB5⟩ := HB_2.out.cells
      go_wp2
      go_ret
      exact ⟨ret_bool (by rw [HM.out]; simp), hb2⟩
    · by_cases h4 : y4a = y4b
      · subst h4
        by_cases h5 : y5a = y5b
        · subst h5
          go_wp2_with fail
          refine (k14a w0 hb0).mono ?_
          rintro e w1 ⟨rfl, hb⟩
          have hb1 : Below W.heap.size W w1 := hb0.trans (hb.mono hb0.size)
          have HA_1 : Hid _ := HA_0.out.below hb
          have HB_1 : Hid _ := HB_0.out.below hb
          clear zA0 zA1 zA2 zA3 zA4 zA5 zB0 zB1 zB2 zB3 zB4 zB5
          clear hb hb0 HA_0 HB_0
          obtain ⟨zA0, zA1, zA2, zA3, zA4, zA5⟩ := HA_1.out.cells
          obtain ⟨zB0, zB1, zB2, zB3, zB4, zB5⟩ := HB_1.out.cells
          go_wp2_with fail
          refine (k14b w1 hb1).mono ?_
          rintro e w2 ⟨rfl, hb⟩
          have hb2 : Below W.heap.size W w2 := hb1.trans (hb.mono hb1.size)
          have HA_2 : Hid _ := HA_1.out.below hb
          have HB_2 : Hid _ := HB_1.out.below hb
          clear zA0 zA1 zA2 zA3 zA4 zA5 zB0 zB1 zB2 zB3 zB4 zB5
          clear hb hb1 HA_1 HB_1
          obtain ⟨zA0, zA1, zA2, zA3, zA4, zA5⟩ := HA_2.out.cells
          obtain ⟨zB0, zB1, zB2, zB3, zB4, zB5⟩ := HB_2.out.cells
          go_wp2
          go_loopw [5] (fun i wr => i = .int .i64 0 ∧ ∃ q, wr = w2.drewN q) (fun i _ => 0)
          case atStart => exact ⟨rfl, 0, rfl⟩
          case round =>
            obtain ⟨rfl, q, rfl⟩ := hrel
            go_wp2
            go_ret
            exact ⟨ret_bool (by rw [HM.out]; simp), below_drewN hb2 _⟩
        · go_wp2_with fail
          refine (k14a w0 hb0).mono ?_
          rintro e w1 ⟨rfl, hb⟩
          have hb1 : Below W.heap.size W w1 := hb0.trans (hb.mono hb0.size)
          have HA_1 : Hid _ := HA_0.out.below hb
          have HB_1 : Hid _ := HB_0.out.below hb
          clear zA0 zA1 zA2 zA3 zA4 zA5 zB0 zB1 zB2 zB3 zB4 zB5
          clear hb hb0 HA_0 HB_0
          obtain ⟨zA0, zA1, zA2, zA3, zA4, zA5⟩ := HA_1.out.cells
          obtain ⟨zB0, zB1, zB2, zB3, zB4, zB5⟩ := HB_1.out.cells
          go_wp2_with fail
          refine (k14b w1 hb1).mono ?_
          rintro e w2 ⟨rfl, hb⟩
          have hb2 : Below W.heap.size W w2 := hb1.trans (hb.mono hb1.size)
          have HA_2 : Hid _ := HA_1.out.below hb
          have HB_2 : Hid _ := HB_1.out.below hb
          clear zA0 zA1 zA2 zA3 zA4 zA5 zB0 zB1 zB2 zB3 zB4 zB5
          clear hb hb1 HA_1 HB_1
          obtain ⟨zA0, zA1, zA2, zA3, zA4, zA5⟩ := HA_2.out.cells
          obtain ⟨zB0, zB1, zB2, zB3, zB4, zB5⟩ := HB_2.out.cells
          go_wp2
          go_ret
          exact ⟨ret_bool (by rw [HM.out]; simp [h5]), hb2⟩
      · go_wp2_with fail
        refine (k14a w0 hb0).mono ?_
        rintro e w1 ⟨rfl, hb⟩
        have hb1 : Below W.heap.size W w1 := hb0.trans (hb.mono hb0.size)
        have HA_1 : Hid _ := HA_0.out.below hb
        have HB_1 : Hid _ := HB_0.out.below hb
        clear zA0 zA1 zA2 zA3 zA4 zA5 zB0 zB1 zB2 zB3 zB4 zB5
        clear hb hb0 HA_0 HB_0
        obtain ⟨zA0, zA1, zA2, zA3, zA4, zA5⟩ := HA_1.out.cells
        obtain ⟨zB0, zB1, zB2, zB3, zB4, zB5⟩ := HB_1.out.cells
        go_wp2_with fail
        refine (k14b w1 hb1).mono ?_
        rintro e w2 ⟨rfl, hb⟩
        have hb2 : Below W.heap.size W w2 := hb1.trans (hb.mono hb1.size)
        have HA_2 : Hid _ := HA_1.out.below hb
        have HB_2 : Hid _ := HB_1.out.below hb
        clear zA0 zA1 zA2 zA3 zA4 zA5 zB0 zB1 zB2 zB3 zB4 zB5
        clear hb hb1 HA_1 HB_1
        obtain ⟨zA0, zA1, zA2, zA3, zA4, zA5⟩ := HA_2.out.cells
        obtain ⟨zB0, zB1, zB2, zB3, zB4, zB5⟩ := HB_2.out.cells
        go_wp2
        go_ret
        exact ⟨ret_bool (by rw [HM.out]; simp [h4]), hb2⟩
end Go.Proofs.YtfcaemfledlnnaaGreatDoor.St

