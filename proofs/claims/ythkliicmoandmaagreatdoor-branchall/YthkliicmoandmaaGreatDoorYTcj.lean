/-
  What is proved here: the cuts of the program and of the reference leave the same domains (mathematics only). slices.Equal and the reference's Same of any two slices of numbers. the reference's One of two domains in memory of their own.
  What is proved here: what sets.Same tells of any two domains.
  What is proved here: the reference's One of a domain and its like, and Spoil. the reference's Spoil. the reference's Lent of a domain.
-/
import Derived.Test.YthkliicmoandmaaGreatDoorYTb
import Derived.Test.YthkliicmoandmaaGreatDoorYRcj
import Derived.Test.YthkliicmoandmaaGreatDoorYSdj
import Derived.Test.YthkliicmoandmaaGreatDoorYSa
import Derived.Lib.ItoaLen
import Derived.Lib.ParseIntBTie
import Derived.Lib.SplitLaws
import Derived.Lib.SlTrimSet
import Derived.Lib.AppendStr
import Derived.Lib.AppendIntMem
import Derived.Lib.SmallJoins
import Derived.Laws.IdiomStrings
import Derived.Shelf.Strconv.Itoa4
import Derived.Laws.Concat
import Derived.Laws.Strings
import Derived.Test.YthkliicmoandmaaGreatDoorYCaj
import Derived.Maps.AppendAt
import Derived.Sort.Row
namespace Go.Proofs.YthkliicmoandmaaGreatDoor.St
open Go.RowKit Go.Shelf
set_option linter.unusedVariables false
set_option linter.unusedSimpArgs false

theorem tight_none {lo up : List Int} {least most : Int} (h : min most up.length < max least lo.length) : tightD lo up least most = noneD := by
  unfold tightD; dsimp only; rw [if_pos h]
theorem tight_top {lo up : List Int} {least most : Int} (h1 : IsSet lo) (h2 : IsSet up) (hs : ∀ x ∈ lo, x ∈ up) (ha : max least lo.length = up.length) (hb : (up.length : Int) ≤ most) : tightD lo up least most = TD up up up.length up.length := by
  rcases tight_cases2 least most h1 h2 hs with ⟨e, a⟩ | ⟨e, a, b⟩ | ⟨e, a, b, c⟩ | ⟨e, a, b, c, f⟩
  · omega
  · exact e
  · omega
  · exact absurd ha c
theorem tight_bot {lo up : List Int} {least most : Int} (h1 : IsSet lo) (h2 : IsSet up) (hs : ∀ x ∈ lo, x ∈ up) (ha : least ≤ lo.length) (hb : min most up.length = lo.length) : tightD lo up least most = TD lo lo lo.length lo.length := by
  rcases tight_cases2 least most h1 h2 hs with ⟨e, a⟩ | ⟨e, a, b⟩ | ⟨e, a, b, c⟩ | ⟨e, a, b, c, f⟩
  · omega
  · have : lo = up := set_sub_eq h1 h2 hs (by omega)
    rw [e, this]
  · exact e
  · exact absurd hb f
theorem empty_no {d : SD} (h : emptyD d = false) : RightD d ∧ d.least ≤ d.most ∧ (d.lo.length : Int) ≤ d.least ∧ d.most ≤ d.up.length := by
  unfold emptyD at h
  simp only [Bool.or_eq_false_iff, Bool.not_eq_false', decide_eq_false_iff_not, Int.not_lt] at h
  have hr : RightD d := of_decide_eq_true h.1
  have := hr.2.2.2.2.2
  refine ⟨hr, h.2, ?_, ?_⟩ <;> omega
theorem empty_yes {d : SD} (h : emptyD d = true) : takenD d = noneD ∧ rtakenD d = noneD := by
  refine ⟨?_, by unfold rtakenD; rw [h]; rfl⟩
  unfold takenD
  split
  · rename_i hr
    unfold emptyD at h
    have e1 : rightD d = true := decide_eq_true hr
    simp only [e1, Bool.not_true, Bool.false_or, decide_eq_true_eq] at h
    exact tight_none (by have := hr.2.2.2.2.2; omega)
  · rfl
theorem empty_none : emptyD noneD = true := by unfold emptyD; simp [noneD]
theorem rtaken_no {d : SD} (h : emptyD d = false) : rtakenD d = d := by unfold rtakenD; rw [h]; rfl
theorem taken_forms {d : SD} (h : emptyD d = false) :
    (takenD d = TD d.up d.up d.up.length d.up.length ∧ d.least = d.up.length ∧ d.most = d.up.length) ∨
    (takenD d = TD d.lo d.lo d.lo.length d.lo.length ∧ d.least = d.lo.length ∧ d.most = d.lo.length ∧ d.lo.length < d.up.length) ∨ takenD d = d := by
  obtain ⟨hr, h1, h2, h3⟩ := empty_no h
  have e : takenD d = tightD d.lo d.up d.least d.most := by unfold takenD; rw [if_pos hr]
  rw [e]
  rcases tight_cases2 d.least d.most hr.2.2.1 hr.2.2.2.1 (right_sub hr) with ⟨e, a⟩ | ⟨e, a, b⟩ | ⟨e, a, b, c⟩ | ⟨e, a, b, c, f⟩
  · omega
  · exact .inl ⟨e, by omega, by omega⟩
  · exact .inr (.inl ⟨e, by omega, by omega, c⟩)
  · refine .inr (.inr ?_)
    rw [e]
    have m1 : max d.least (d.lo.length : Int) = d.least := by omega
    have m2 : min d.most (d.up.length : Int) = d.most := by omega
    rw [m1, m2]
    obtain ⟨s, r, lo, up, le, mo⟩ := d
    obtain ⟨rfl, rfl, _⟩ := hr
    rfl
/-! ### Both -/
theorem meet_mem (a b : List Int) (x : Int) : x ∈ meetL a b ↔ x ∈ a ∧ x ∈ b := by unfold meetL; rw [List.mem_filter]; simp
theorem meet_set {a : List Int} (ha : IsSet a) (b : List Int) : IsSet (meetL a b) := set_filter ha _
theorem join_set {a b u : List Int} (ha : IsSet a) (hb : IsSet b) (hu : IsSet u) (h : ∀ x ∈ joinL a b, x ∈ u) : IsSet (joinL a b) := by
  have hp := join_pw ha hb
  exact set_of (Nat.le_trans (pw_sub u _ hp (set_pw hu) h).length_le hu.1) (fun x hx => set_mem hu x (h x hx)) hp
def bothG (a b : SD) : SD := if subB (joinL a.lo b.lo) (meetL a.up b.up) then tightD (joinL a.lo b.lo) (meetL a.up b.up) (max a.least b.least) (min a.most b.most) else noneD
theorem bothG_comm {a b : SD} (ha : RightD a) (hb : RightD b) : bothG a b = bothG b a := by
  have m : meetL a.up b.up = meetL b.up a.up := set_ext (meet_set ha.2.2.2.1 _) (meet_set hb.2.2.2.1 _) fun x => by rw [meet_mem, meet_mem]; exact And.comm
  have key : ∀ {c d : SD}, RightD c → RightD d → subB (joinL c.lo d.lo) (meetL c.up d.up) = true → subB (joinL d.lo c.lo) (meetL c.up d.up) = true := fun {c d} hc hd h => by
    rw [subB_iff] at h ⊢
    intro x hx
    exact h x ((join_mem _ _ _).2 (((join_mem _ _ _).1 hx).symm))
  unfold bothG
  rw [← m]
  cases h : subB (joinL a.lo b.lo) (meetL a.up b.up)
  · cases h2 : subB (joinL b.lo a.lo) (meetL a.up b.up)
    · rfl
    · have := key hb ha (by rw [← m]; exact h2)
      rw [← m, h] at this
      cases this
  · rw [key ha hb h]
    have j : joinL a.lo b.lo = joinL b.lo a.lo :=
      set_ext (join_set ha.2.2.1 hb.2.2.1 (meet_set ha.2.2.2.1 b.up) ((subB_iff _ _).1 h)) (join_set hb.2.2.1 ha.2.2.1 (meet_set ha.2.2.2.1 b.up) ((subB_iff _ _).1 (key ha hb h))) fun x => by rw [join_mem, join_mem]; exact Or.comm
    simp only [if_true]
    rw [j, Int.max_comm, Int.min_comm]
theorem bothG_left {a b : SD} (he : emptyD a = false) (hb : RightD b) : bothG (takenD a) b = bothG a b := by
  obtain ⟨hr, hle, hll, hmu⟩ := empty_no he
  have hs := right_sub hr
  have l1 := hr.2.2.1
  have l2 := hr.2.2.2.1
  have b1 := hb.2.2.1
  have b2 := hb.2.2.2.1
  rcases taken_forms he with ⟨e, p, q⟩ | ⟨e, p, q, c⟩ | e
  · unfold bothG
    have e1 : (takenD a).lo = a.up := by rw [e]; rfl
    have e2 : (takenD a).up = a.up := by rw [e]; rfl
    have e3 : (takenD a).least = a.up.length := by rw [e]; rfl
    have e4 : (takenD a).most = a.up.length := by rw [e]; rfl
    simp only [e1, e2, e3, e4]
    have mset : IsSet (meetL a.up b.up) := meet_set l2 _
    have msub : ∀ x ∈ meetL a.up b.up, x ∈ a.up := fun x hx => ((meet_mem _ _ _).1 hx).1
    have ml := set_sub_len mset l2 msub
    by_cases hab : ∀ x ∈ a.up, x ∈ b.up
    · have em : meetL a.up b.up = a.up := set_ext mset l2 fun x => by rw [meet_mem]; exact ⟨fun h => h.1, fun h => ⟨h, hab x h⟩⟩
      rw [em]
      by_cases hba : ∀ x ∈ b.lo, x ∈ a.up
      · have s1 : ∀ x ∈ joinL a.up b.lo, x ∈ a.up := fun x hx => by rcases (join_mem _ _ _).1 hx with h | h; exact h; exact hba x h
        have s2 : ∀ x ∈ joinL a.lo b.lo, x ∈ a.up := fun x hx => by rcases (join_mem _ _ _).1 hx with h | h; exact hs x h; exact hba x h
        rw [(subB_iff _ _).2 s1, (subB_iff _ _).2 s2]
        simp only [if_true]
        have t1 := join_set l2 b1 l2 s1
        have t2 := join_set l1 b1 l2 s2
        have n1 := set_sub_len t1 l2 s1
        have n2 := set_sub_len t2 l2 s2
        by_cases hh : b.least ≤ a.up.length ∧ (a.up.length : Int) ≤ b.most
        · rw [tight_top t1 l2 s1 (by omega) (by omega), tight_top t2 l2 s2 (by omega) (by omega)]
        · rw [tight_none (by omega), tight_none (by omega)]
      · have s1 : subB (joinL a.up b.lo) a.up = false := by
          cases h : subB (joinL a.up b.lo) a.up
          · rfl
          · exact absurd (fun x hx => (subB_iff _ _).1 h x ((join_mem _ _ _).2 (.inr hx))) hba
        have s2 : subB (joinL a.lo b.lo) a.up = false := by
          cases h : subB (joinL a.lo b.lo) a.up
          · rfl
          · exact absurd (fun x hx => (subB_iff _ _).1 h x ((join_mem _ _ _).2 (.inr hx))) hba
        rw [s1, s2]
        rfl
    · have s1 : subB (joinL a.up b.lo) (meetL a.up b.up) = false := by
        cases h : subB (joinL a.up b.lo) (meetL a.up b.up)
        · rfl
        · exact absurd (fun x hx => ((meet_mem _ _ _).1 ((subB_iff _ _).1 h x ((join_mem _ _ _).2 (.inl hx)))).2) hab
      rw [s1]
      simp only [Bool.false_eq_true, if_false]
      have hlt : (meetL a.up b.up).length < a.up.length := by
        rcases Nat.lt_or_ge (meetL a.up b.up).length a.up.length with h | h
        · exact h
        · have := set_sub_eq mset l2 msub h
          exact absurd (fun x hx => by rw [← this] at hx; exact ((meet_mem _ _ _).1 hx).2) hab
      split
      · exact (tight_none (by omega)).symm
      · rfl
  · unfold bothG
    have e1 : (takenD a).lo = a.lo := by rw [e]; rfl
    have e2 : (takenD a).up = a.lo := by rw [e]; rfl
    have e3 : (takenD a).least = a.lo.length := by rw [e]; rfl
    have e4 : (takenD a).most = a.lo.length := by rw [e]; rfl
    simp only [e1, e2, e3, e4]
    have mset : IsSet (meetL a.lo b.up) := meet_set l1 _
    have mset2 : IsSet (meetL a.up b.up) := meet_set l2 _
    by_cases hba : ∀ x ∈ b.lo, x ∈ a.lo
    · have ej : joinL a.lo b.lo = a.lo := set_ext (join_set l1 b1 l1 fun x hx => by rcases (join_mem _ _ _).1 hx with h | h; exact h; exact hba x h) l1 fun x => by
        rw [join_mem]
        exact ⟨fun h => by rcases h with h | h; exact h; exact hba x h, .inl⟩
      rw [ej]
      by_cases hab : ∀ x ∈ a.lo, x ∈ b.up
      · have em : meetL a.lo b.up = a.lo := set_ext mset l1 fun x => by rw [meet_mem]; exact ⟨fun h => h.1, fun h => ⟨h, hab x h⟩⟩
        rw [em]
        have s2 : ∀ x ∈ a.lo, x ∈ meetL a.up b.up := fun x hx => (meet_mem _ _ _).2 ⟨hs x hx, hab x hx⟩
        rw [sub_refl, (subB_iff _ _).2 s2]
        simp only [if_true]
        have n2 := set_sub_len l1 mset2 s2
        by_cases hh : b.least ≤ a.lo.length ∧ (a.lo.length : Int) ≤ b.most
        · rw [tight_top l1 l1 (fun _ h => h) (by omega) (by omega), tight_bot l1 mset2 s2 (by omega) (by omega)]
        · rw [tight_none (by omega), tight_none (by omega)]
      · have s1 : subB a.lo (meetL a.lo b.up) = false := by
          cases h : subB a.lo (meetL a.lo b.up)
          · rfl
          · exact absurd (fun x hx => ((meet_mem _ _ _).1 ((subB_iff _ _).1 h x hx)).2) hab
        have s2 : subB a.lo (meetL a.up b.up) = false := by
          cases h : subB a.lo (meetL a.up b.up)
          · rfl
          · exact absurd (fun x hx => ((meet_mem _ _ _).1 ((subB_iff _ _).1 h x hx)).2) hab
        rw [s1, s2]
        rfl
    · have s1 : subB (joinL a.lo b.lo) (meetL a.lo b.up) = false := by
        cases h : subB (joinL a.lo b.lo) (meetL a.lo b.up)
        · rfl
        · exact absurd (fun x hx => ((meet_mem _ _ _).1 ((subB_iff _ _).1 h x ((join_mem _ _ _).2 (.inr hx)))).1) hba
      rw [s1]
      simp only [Bool.false_eq_true, if_false]
      cases h : subB (joinL a.lo b.lo) (meetL a.up b.up)
      · rfl
      · simp only [if_true]
        have js := join_set l1 b1 mset2 ((subB_iff _ _).1 h)
        have hlt : a.lo.length < (joinL a.lo b.lo).length := by
          rcases Nat.lt_or_ge a.lo.length (joinL a.lo b.lo).length with h | h
          · exact h
          · have := set_sub_eq l1 js (fun x hx => (join_mem _ _ _).2 (.inl hx)) h
            exact absurd (fun x hx => by rw [this]; exact (join_mem _ _ _).2 (.inr hx)) hba
        exact (tight_none (by omega)).symm
  · rw [e]
/-- sets.Both. -/
def bothD (d o : SD) : SD := if !subB (takenD d).lo (meetL (takenD d).up (takenD o).up) || !subB (takenD o).lo (meetL (takenD d).up (takenD o).up) then noneD else tightD (joinL (takenD d).lo (takenD o).lo) (meetL (takenD d).up (takenD o).up) (max (takenD d).least (takenD o).least) (min (takenD d).most (takenD o).most)
theorem sub_join2 (a b m : List Int) : subB (joinL a b) m = (subB a m && subB b m) := by
  rw [Bool.eq_iff_iff]
  simp only [Bool.and_eq_true, subB_iff]
  exact ⟨fun h => ⟨fun x hx => h x ((join_mem _ _ _).2 (.inl hx)), fun x hx => h x ((join_mem _ _ _).2 (.inr hx))⟩, fun h x hx => by rcases (join_mem _ _ _).1 hx with g | g; exact h.1 x g; exact h.2 x g⟩
theorem bothD_G (d o : SD) : bothD d o = bothG (takenD d) (takenD o) := by
  unfold bothD bothG
  rw [sub_join2]
  cases subB (takenD d).lo (meetL (takenD d).up (takenD o).up) <;> cases subB (takenD o).lo (meetL (takenD d).up (takenD o).up) <;> rfl
theorem bothG_none {b : SD} : bothG noneD b = noneD := by
  unfold bothG
  split
  · exact tight_none (by simp [noneD, meetL] <;> omega)
  · rfl
theorem both_same (d o : SD) : rbothD d o = bothD d o := by
  rw [bothD_G]
  unfold rbothD
  cases he : emptyD d
  · cases ho : emptyD o
    · rw [rtaken_no he, rtaken_no ho, he, ho]
      obtain ⟨hr, _⟩ := empty_no he
      obtain ⟨hq, _⟩ := empty_no ho
      rw [bothG_left he (taken_right o), bothG_comm hr (taken_right o), bothG_left ho hr, bothG_comm hq hr]
      simp only [Bool.or_self, Bool.false_eq_true, if_false]
      rw [tkS_yes hr.2.2.1, tkS_yes hr.2.2.2.1, tkS_yes hq.2.2.1, tkS_yes hq.2.2.2.1, tkS_yes (meet_set hr.2.2.2.1 o.up)]
      unfold bothG
      cases h : subB (joinL d.lo o.lo) (meetL d.up o.up)
      · cases hj : setB (joinL d.lo o.lo)
        · rfl
        · rw [tkS_yes (of_decide_eq_true hj), h]; rfl
      · have js := join_set hr.2.2.1 hq.2.2.1 (meet_set hr.2.2.2.1 o.up) ((subB_iff _ _).1 h)
        rw [setB_yes js, tkS_yes js, h]; rfl
    · obtain ⟨e1, e2⟩ := empty_yes ho
      rw [e1, e2, empty_none, bothG_comm (taken_right d) none_right, bothG_none]
      simp
  · obtain ⟨e1, e2⟩ := empty_yes he
    rw [e1, e2, empty_none, bothG_none]
    simp
theorem taken_le {d : SD} (h : emptyD d = false) : (takenD d).least ≤ (takenD d).most := by
  obtain ⟨_, a, _, _⟩ := empty_no h
  rcases taken_forms h with ⟨e, p, q⟩ | ⟨e, p, q, c⟩ | e <;> rw [e]
  · exact Int.le_refl _
  · exact Int.le_refl _
  · exact a
theorem nth_list {a b : List Int} (hl : a.length = b.length) (h : ∀ i, i < a.length → nth a i = nth b i) : a = b := by
  apply List.ext_getElem hl
  intro i h1 h2
  have := h i h1
  simpa [nth, List.getElem?_eq_getElem h1, List.getElem?_eq_getElem h2] using this

set_option maxRecDepth 100000 in
set_option maxHeartbeats 4000000 in
theorem refsame_any (s1 s2 : Value) (a b : List Int) (W : World) (h1 : Si W s1 a) (h2 : Si W s2 b) (hr : a.length * 8 ≤ 140737488351232) :
    Calls Tryz.prog 57 #[s1, s2] W fun e w' => e = .returned (.bool (decide (a = b))) ∧ Below W.heap.size W w' := by
  obtain ⟨a1, c1, rfl, hc1⟩ := h1
  obtain ⟨a2, c2, rfl, hc2⟩ := h2
  obtain ⟨n, hn⟩ : ∃ n, a.length = n := ⟨_, rfl⟩
  obtain ⟨m, hm⟩ : ∃ m, b.length = m := ⟨_, rfl⟩
  have HN : Hid (a.length = n) := hn
  have HM : Hid (b.length = m) := hm
  rw [hn] at hc1 hr ⊢
  rw [hm] at hc2 ⊢
  have HC1 : Hid _ := hc1
  have HC2 : Hid _ := hc2
  clear hn hm hc1 hc2
  by_cases hl : n = m
  · subst hl
    go_enter Tryz.func57, Tryz.ntmps57
    go_wp2
    go_loopw [5] (fun i wr => ∃ k : Nat, k ≤ n ∧ i = .int .i64 (k : Int) ∧ Hid (∀ j, j < k → nth a j = nth b j) ∧ ∃ nq, wr = W.drewN nq) (fun i _ => n - (intOf i).toNat)
    case atStart => exact ⟨0, Nat.zero_le _, rfl, fun j hj => absurd hj (by omega), 0, rfl⟩
    case round =>
      obtain ⟨k, hk, rfl, HOK, nq0, rfl⟩ := hrel
      by_cases hlt : k < n
      · obtain ⟨b1, o1, rfl, _, hcell1⟩ := HC1.out (by omega)
        obtain ⟨b2, o2, rfl, _, hcell2⟩ := HC2.out (by omega)
        have x1 := hcell1 k hlt
        have x2 := hcell2 k hlt
        have kk : (k : Int) < (n : Int) := by omega
        clear hcell1 hcell2 HC1 HC2
        obtain ⟨x, hx⟩ : ∃ x, nth a k = x := ⟨_, rfl⟩
        obtain ⟨y, hy⟩ : ∃ x, nth b k = x := ⟨_, rfl⟩
        have HX : Hid (nth a k = x) := hx
        have HY : Hid (nth b k = y) := hy
        rw [hx] at x1
        rw [hy] at x2
        clear hx hy
        by_cases he : x = y
        · have HE : Hid (x = y) := he
          subst he
          go_wp2
          go_quiet (fail)
          go_wp2
          go_roundw
          case rel => exact ⟨k + 1, by omega, by go_num, fun j hj => if h : j = k then by subst h; rw [HX.out, HY.out] else HOK.out j (by omega), _, rfl⟩
          case measure => simp [intOf]; omega
        · have HE : Hid (¬ a = b) := fun h => he (by rw [← HX.out, ← HY.out, h])
          go_wp2
          go_quiet (fail)
          go_wp2
          go_ret
          exact ⟨ret_bool (by simpa using HE.out), below_drewN (below_drewN (Below.refl _ _) _) _⟩
      · have HE : Hid (a = b) := nth_list (by rw [HN.out, HM.out]) fun i hi => HOK.out i (by rw [HN.out] at hi; omega)
        go_wp2
        go_ret
        exact ⟨ret_bool (by simpa using HE.out), below_drewN (Below.refl _ _) _⟩
  · have HE : Hid (¬ a = b) := fun h => hl (by rw [← HN.out, ← HM.out, h])
    have hne : ¬ (n : Int) = (m : Int) := by omega
    go_enter Tryz.func57, Tryz.ntmps57
    go_wp2
    go_ret
    exact ⟨ret_bool (by simpa using HE.out), below_drewN (Below.refl _ _) 0⟩

end Go.Proofs.YthkliicmoandmaaGreatDoor.St


namespace Go.Proofs.YthkliicmoandmaaGreatDoor.St
open Go.RowKit Go.Shelf
set_option linter.unusedVariables false
set_option linter.unusedSimpArgs false

theorem eqc {P : Program} {F : Nat} {args : Array Value} {W : World} {b c : Bool} {Q : World → Prop} (h : b = c) (k : Calls P F args W fun e w' => e = .returned (.bool b) ∧ Q w') : Calls P F args W fun e w' => e = .returned (.bool c) ∧ Q w' := by
  subst h; exact k

end Go.Proofs.YthkliicmoandmaaGreatDoor.St


namespace Go.Proofs.YthkliicmoandmaaGreatDoor.St
open Go.RowKit Go.Shelf
set_option linter.unusedVariables false
set_option linter.unusedSimpArgs false

/-- A slice of ranges: its numbers one behind the other. -/
def Rr (W : World) (s : Value) (fr : List Int) : Prop := ∃ a n cap, s = .slice a n cap ∧ fr.length = n * 2 ∧ (0 < n → ∃ b off, a = some ⟨b, off, none⟩ ∧ b < W.heap.size ∧ ∀ i, i < n * 2 → W.cell? ⟨b, off + i, none⟩ = some (.int .i64 (nth fr i)))
theorem Rr.below {W W' : World} {s : Value} {fr : List Int} (h : Rr W s fr) (hb : Below W.heap.size W W') : Rr W' s fr := by
  obtain ⟨a, n, cap, e, hl, hc⟩ := h
  refine ⟨a, n, cap, e, hl, fun h0 => ?_⟩
  obtain ⟨b, off, e1, hlt, hcell⟩ := hc h0
  exact ⟨b, off, e1, Nat.lt_of_lt_of_le hlt hb.size, fun i hi => (hb.cell (p := ⟨b, off + i, none⟩) hlt).trans (hcell i hi)⟩
/-- A domain that came in, with its ranges, no longer than a machine's memory. -/
def Dr (W : World) (v : Value) (d : SD) (fr : List Int) : Prop :=
  ∃ ra rc slo sup, v = .agg #[.bool d.set, .slice ra d.rn rc, slo, sup, .int .i64 d.least, .int .i64 d.most] ∧ Si W slo d.lo ∧ Si W sup d.up ∧ Rr W (.slice ra d.rn rc) fr ∧ d.lo.length * 8 ≤ 140737488351232 ∧ d.up.length * 8 ≤ 140737488351232 ∧ d.rn * 16 ≤ 140737488351232
theorem Dr.look {w : World} {v : Value} {d : SD} {fr : List Int} (h : Dr w v d fr) : ∃ x0 ra rn rc a1 n1 c1 a2 n2 c2 x4 x5, v = .agg #[.bool x0, .slice ra rn rc, .slice a1 n1 c1, .slice a2 n2 c2, .int .i64 x4, .int .i64 x5] ∧
    Hid (d.set = x0 ∧ d.lo.length = n1 ∧ d.up.length = n2 ∧ d.least = x4 ∧ d.most = x5 ∧ d.rn = rn) ∧ Hid (Si w (.slice a1 n1 c1) d.lo) ∧ Hid (Si w (.slice a2 n2 c2) d.up) ∧ Hid (Rr w (.slice ra rn rc) fr) ∧ d.lo.length * 8 ≤ 140737488351232 ∧ d.up.length * 8 ≤ 140737488351232 ∧ d.rn * 16 ≤ 140737488351232 := by
  obtain ⟨ra, rc, slo, sup, e, h1, h2, h3, h4⟩ := h
  have h1' := h1
  have h2' := h2
  obtain ⟨a1, c1, rfl, _⟩ := h1'
  obtain ⟨a2, c2, rfl, _⟩ := h2'
  exact ⟨_, _, _, _, _, _, _, _, _, _, _, _, e, ⟨rfl, rfl, rfl, rfl, rfl, rfl⟩, h1, h2, h3, h4⟩

set_option maxRecDepth 100000 in
set_option maxHeartbeats 4000000 in
theorem one_same (v u : Value) (d : SD) (fr : List Int) (W : World) (h : Dr W v d fr) (ho : Dr W u d fr) :
    Calls Tryz.prog 22 #[v, u] W fun e w' => e = .returned (.bool true) ∧ Below W.heap.size W w' := by
  obtain ⟨x0a, raa, rna, rca, a1a, n1a, c1a, a2a, n2a, c2a, x4a, x5a, rfl, HEa, HLOa, HUPa, HRa, hz1a, hz2a, hz3a⟩ := h.look
  obtain ⟨x0b, rab, rnb, rcb, a1b, n1b, c1b, a2b, n2b, c2b, x4b, x5b, rfl, HEb, HLOb, HUPb, HRb, hz1b, hz2b, hz3b⟩ := ho.look
  have k14a := fun X (hX : Below W.heap.size W X) => eqc (show decide (d.lo = d.lo) = true by simp) (refsame_any _ _ d.lo d.lo X (HLOa.out.below hX) (HLOb.out.below hX) hz1a)
  have k14b := fun X (hX : Below W.heap.size W X) => eqc (show decide (d.up = d.up) = true by simp) (refsame_any _ _ d.up d.up X (HUPa.out.below hX) (HUPb.out.below hX) hz2a)
  obtain rfl : x0a = x0b := by rw [← HEa.out.1, ← HEb.out.1]
  obtain rfl : x4a = x4b := by rw [← HEa.out.2.2.2.1, ← HEb.out.2.2.2.1]
  obtain rfl : x5a = x5b := by rw [← HEa.out.2.2.2.2.1, ← HEb.out.2.2.2.2.1]
  obtain rfl : rna = rnb := by rw [← HEa.out.2.2.2.2.2, ← HEb.out.2.2.2.2.2]
  have hnn : rna * 16 ≤ 140737488351232 := by rw [← HEa.out.2.2.2.2.2]; exact hz3a
  have HRA : Hid (∀ X, Below W.heap.size W X → 0 < rna → ∃ b off, raa = some ⟨b, off, none⟩ ∧ ∀ i, i < rna * 2 → X.cell? ⟨b, off + i, none⟩ = some (.int .i64 (nth fr i))) := fun X hX h0 => by
    obtain ⟨a, n, cap, e, _, hc⟩ := HRa.out.below hX
    injection e with e1 e2 e3
    subst e1 e2 e3
    obtain ⟨b, off, e1, _, hcell⟩ := hc h0
    exact ⟨b, off, e1, hcell⟩
  have HRB : Hid (∀ X, Below W.heap.size W X → 0 < rna → ∃ b off, rab = some ⟨b, off, none⟩ ∧ ∀ i, i < rna * 2 → X.cell? ⟨b, off + i, none⟩ = some (.int .i64 (nth fr i))) := fun X hX h0 => by
    obtain ⟨a, n, cap, e, _, hc⟩ := HRb.out.below hX
    injection e with e1 e2 e3
    subst e1 e2 e3
    obtain ⟨b, off, e1, _, hcell⟩ := hc h0
    exact ⟨b, off, e1, hcell⟩
  clear h ho HEa HLOa HUPa HEb HLOb HUPb HRa HRb hz1a hz2a hz3a hz1b hz2b hz3b
  obtain ⟨w0, hW0⟩ : ∃ X, ((W.alloc (Obj.cells #[.bool x0a, .slice raa rna rca, .slice a1a n1a c1a, .slice a2a n2a c2a, .int .i64 x4a, .int .i64 x5a] 50)).alloc (Obj.cells #[.bool x0a, .slice rab rna rcb, .slice a1b n1b c1b, .slice a2b n2b c2b, .int .i64 x4a, .int .i64 x5a] 50)) = X := ⟨_, rfl⟩
  have HW0 : Hid _ := hW0
  have hb0 : Below W.heap.size W w0 := by rw [← hW0]; exact (((Below.refl _ W).alloc (by simp <;> omega) _).alloc (by simp <;> omega) _)
  have HA_0 : Hid (R6 w0 W.heap.size (.bool x0a) (.slice raa rna rca) (.slice a1a n1a c1a) (.slice a2a n2a c2a) (.int .i64 x4a) (.int .i64 x5a)) := by rw [← hW0]; exact ((R6.new _ _ _ _ _ _ _).alloc _)
  have HB_0 : Hid (R6 w0 (W.heap.size + 1) (.bool x0a) (.slice rab rna rcb) (.slice a1b n1b c1b) (.slice a2b n2b c2b) (.int .i64 x4a) (.int .i64 x5a)) := by rw [← hW0]; exact (R6.new1 _ _ _ _ _ _ _ _)
  clear hW0
  go_enter Tryz.func22, Tryz.ntmps22
  go_upto_region 1 with (fail)
  rw [HW0.out]
  clear HW0
  obtain ⟨zA0, zA1, zA2, zA3, zA4, zA5⟩ := HA_0.out.cells
  obtain ⟨zB0, zB1, zB2, zB3, zB4, zB5⟩ := HB_0.out.cells
  go_wp2_with fail
  refine (k14a w0 hb0).mono ?_
  rintro e w1 ⟨rfl, hb⟩
  have hb1 : Below W.heap.size W w1 := hb0.trans (hb.mono hb0.size)
  have HA_1 : Hid _ := HA_0.out.below hb
  have HB_1 : Hid _ := HB_0.out.below hb
  clear zA0 zA1 zA2 zA3 zA4 zA5 zB0 zB1 zB2 zB3 zB4 zB5
  clear hb hb0 HA_0 HB_0
  obtain ⟨zA0, zA1, zA2, zA3, zA4, zA5⟩ := HA_1.out.cells
  obtain ⟨zB0, zB1, zB2, zB3, zB4, zB5⟩ := HB_1.out.cells
  go_wp2_with fail
  refine (k14b w1 hb1).mono ?_
  rintro e w2 ⟨rfl, hb⟩
  have hb2 : Below W.heap.size W w2 := hb1.trans (hb.mono hb1.size)
  have HA_2 : Hid _ := HA_1.out.below hb
  have HB_2 : Hid _ := HB_1.out.below hb
  clear zA0 zA1 zA2 zA3 zA4 zA5 zB0 zB1 zB2 zB3 zB4 zB5
  clear hb hb1 HA_1 HB_1
  obtain ⟨zA0, zA1, zA2, zA3, zA4, zA5⟩ := HA_2.out.cells
  obtain ⟨zB0, zB1, zB2, zB3, zB4, zB5⟩ := HB_2.out.cells
  go_wp2
  go_loopw [5] (fun i wr => ∃ j : Nat, j ≤ rna ∧ i = .int .i64 (j : Int) ∧ ∃ q, wr = w2.drewN q) (fun i _ => rna - (intOf i).toNat)
  case atStart => exact ⟨0, Nat.zero_le _, rfl, 0, rfl⟩
  case round =>
    obtain ⟨j, hj, rfl, q, rfl⟩ := hrel
    by_cases hlt : j < rna
    · obtain ⟨b1, o1, rfl, hcell1⟩ := HRA.out w2 hb2 (by omega)
      obtain ⟨b2, o2, rfl, hcell2⟩ := HRB.out w2 hb2 (by omega)
      have x1 := hcell1 (j * 2) (by omega)
      have x2 := hcell1 (j * 2 + 1) (by omega)
      have y1 := hcell2 (j * 2) (by omega)
      have y2 := hcell2 (j * 2 + 1) (by omega)
      rw [← Nat.add_assoc] at x2 y2
      have kk : (j : Int) < (rna : Int) := by omega
      clear hcell1 hcell2
      generalize nth fr (j * 2) = p at *
      generalize nth fr (j * 2 + 1) = r at *
      go_wp2
      go_quiet (fail)
      go_wp2
      go_roundw
      case rel => exact ⟨j + 1, by omega, by go_num, _, rfl⟩
      case measure => simp [intOf]; omega
    · go_wp2
      go_ret
      exact ⟨rfl, below_drewN hb2 _⟩

theorem Tryz.info92 : (Tryz.prog.info? 92).map (fun i => (i.zero, i.size, i.bytes)) = some (some (.agg #[.int .i64 0, .int .i64 0]), 2, 16) := by kernel_rfl
theorem run_app_noneR (w : World) (ty : TypeId) (c' : Nat) : (Builtin.append_ #[47, 47] ty #[.slice none 0 0, .slice none 0 c']).run Tryz.prog w = .ok (.slice none 0 0) w := by
  obtain ⟨i0, hi0, hz0, hz1, hz2⟩ := info_parts Tryz.info92
  have hf : (Builtin.firstCells i0.size 0 (.slice none 0 c')).run Tryz.prog w = .ok #[] w := by simp [Builtin.firstCells]
  simp [Builtin.append_, run_underlying Tryz.underlying47, sizeOf, typeInfo, hi0, Builtin.lenOf, hf, storeCells]
/-- Appending a slice of numbers to none. -/
theorem wpList_app_i (w : World) {ops : Array Oper} {rest : List Oper} {o : Oper} {a : Act} {Q : Exit → Act → World → Prop} (hgd : o.guard = none) (s x : Operand) (ho : o.op = .call { callee := .builtin .append, args := #[s, x], argTypes := #[48, 48] })
    (hs : a.eval s = .slice none 0 0) (sx : Value) (l : List Int) (hx : a.eval x = sx) (hsx : Si w sx l) (hb : l.length * 8 ≤ 140737488351232)
    (h : ∀ v' w', w'.ownsRow w.heap.size 2 1 v' l.length (intv l) → Below w.heap.size w w' → wpList Tryz.prog ops Q rest (a.put o.dst v') w') : wpList Tryz.prog ops Q (o :: rest) a w := by
  obtain ⟨i0, hi0, hz0, hz1, hz2⟩ := info_parts Tryz.info2
  obtain ⟨ax, cx, rfl, hcx⟩ := hsx
  have hown : w.ownsRow w.heap.size 2 1 (.slice none 0 0) 0 [] := World.ownsRow_nil _ _ _ _
  have hbel : ∀ w', w.grownBy w' (Value.slice none 0 0).ownBlock → Below w.heap.size w w' := fun w' hg => (Below.refl _ w).grown hg (Nat.le_refl _) (fun k e => by cases e)
  cases ax with
  | none =>
    have h0 : l.length = 0 := by
      apply Classical.byContradiction; intro hn
      obtain ⟨_, _, e, _⟩ := hcx (by omega)
      cases e
    obtain rfl := List.eq_nil_of_length_eq_zero h0
    refine Lib.wpList_append_run w hgd s x 48 48 ho _ _ hs hx _ _ (run_app_none w _ none 0 0 cx (Nat.le_refl _)) (h _ _ ?_ (Below.refl _ _))
    exact hown
  | some ad =>
    rcases Nat.eq_zero_or_pos l.length with h0 | h0
    · obtain rfl := List.eq_nil_of_length_eq_zero h0
      refine wpList_append_own _ hgd s x 48 ho w.heap.size 2 i0 (.int .i64 0) 1 8 Tryz.underlying48 hi0 hz0 hz1 hz2 rfl (by decide) _ _ _ hs hown ad 0 cx [] hx rfl (fun j u h => by simp at h) (fun u h => by simp at h) (by unfold maxLen; omega) (by omega) (Nat.le_refl _) ?_
      intro v' w' h1 h2 _
      exact h v' w' (by simpa [intv] using h1) (hbel w' h2)
    · obtain ⟨b, off, e, hlt, hcell⟩ := hcx h0
      injection e with e
      subst e
      refine wpList_append_own _ hgd s x 48 ho w.heap.size 2 i0 (.int .i64 0) 1 8 Tryz.underlying48 hi0 hz0 hz1 hz2 rfl (by decide) _ _ _ hs hown ⟨b, off, none⟩ l.length cx (intv l) hx (by simp [intv]) (srcells hcell) intv_one (by unfold maxLen; omega) (by omega) (Nat.le_refl _) ?_
      intro v' w' h1 h2 _
      exact h v' w' (by simpa [intv] using h1) (hbel w' h2)
/-- Appending a slice of ranges to none. -/
theorem wpList_app_r (w : World) {ops : Array Oper} {rest : List Oper} {o : Oper} {a : Act} {Q : Exit → Act → World → Prop} (hgd : o.guard = none) (s x : Operand) (ho : o.op = .call { callee := .builtin .append, args := #[s, x], argTypes := #[47, 47] })
    (hs : a.eval s = .slice none 0 0) (ax : Option Addr) (n cx : Nat) (fr : List Int) (hx : a.eval x = .slice ax n cx) (hsx : Rr w (.slice ax n cx) fr) (hb : n * 16 ≤ 140737488351232)
    (h : ∀ v' w', w'.ownsRow w.heap.size 92 2 v' n (intv fr) → Below w.heap.size w w' → wpList Tryz.prog ops Q rest (a.put o.dst v') w') : wpList Tryz.prog ops Q (o :: rest) a w := by
  obtain ⟨i0, hi0, hz0, hz1, hz2⟩ := info_parts Tryz.info92
  obtain ⟨ax', n', cx', e, hl, hcx⟩ := hsx
  injection e with e1 e2 e3
  subst e1 e2 e3
  have hown : w.ownsRow w.heap.size 92 2 (.slice none 0 0) 0 [] := World.ownsRow_nil _ _ _ _
  have hbel : ∀ w', w.grownBy w' (Value.slice none 0 0).ownBlock → Below w.heap.size w w' := fun w' hg => (Below.refl _ w).grown hg (Nat.le_refl _) (fun k e => by cases e)
  rcases Nat.eq_zero_or_pos n with h0 | h0
  · subst h0
    obtain rfl : fr = [] := List.eq_nil_of_length_eq_zero (by omega)
    cases ax with
    | none => exact Lib.wpList_append_run w hgd s x 47 47 ho _ _ hs hx _ _ (run_app_noneR w _ cx) (h _ _ hown (Below.refl _ _))
    | some ad =>
      refine wpList_append_own _ hgd s x 47 ho w.heap.size 92 i0 (.agg #[.int .i64 0, .int .i64 0]) 2 16 Tryz.underlying47 hi0 hz0 hz1 hz2 rfl (by decide) _ _ _ hs hown ad 0 cx [] hx rfl (fun j u h => by simp at h) (fun u h => by simp at h) (by unfold maxLen; omega) (by omega) (Nat.le_refl _) ?_
      intro v' w' h1 h2 _
      exact h v' w' (by simpa [intv] using h1) (hbel w' h2)
  · obtain ⟨b, off, e, hlt, hcell⟩ := hcx h0
    subst e
    refine wpList_append_own _ hgd s x 47 ho w.heap.size 92 i0 (.agg #[.int .i64 0, .int .i64 0]) 2 16 Tryz.underlying47 hi0 hz0 hz1 hz2 rfl (by decide) _ _ _ hs hown ⟨b, off, none⟩ n cx (intv fr) hx (by rw [intv_len, hl]) (srcells (fun i hi => hcell i (by omega))) intv_one (by unfold maxLen; omega) (by omega) (Nat.le_refl _) ?_
    intro v' w' h1 h2 _
    exact h v' w' (by simpa [intv] using h1) (hbel w' h2)
theorem own_sliceR {W : World} {B n : Nat} {v : Value} {xs : List Value} (h : W.ownsRow B 92 2 v n xs) : ∃ p c, v = .slice p n c := by
  rcases h.2 with ⟨e1, e2⟩ | ⟨g, cap, cur, e1, _⟩
  · exact ⟨none, 0, by rw [e1, e2]⟩
  · exact ⟨_, _, e1⟩
theorem own_setRowR {W : World} {B n : Nat} {v : Value} {xs : List Value} (h : W.ownsRow B 92 2 v n xs) (g : Nat) (cs : Array Value) {old : Array Value} (hg : W.heap[g]? = some (.cells old 50 (0, 0))) : (W.setRow g cs).ownsRow B 92 2 v n xs :=
  ⟨h.1, by
    rcases h.2 with h2 | ⟨g', cap, cur, e1, hB, hgb, r⟩
    · exact .inl h2
    · refine .inr ⟨g', cap, cur, e1, hB, ?_, r⟩
      rw [setRow_other W g g' cs (fun e => by subst e; rw [hg] at hgb; cases hgb)]
      exact hgb⟩
end Go.Proofs.YthkliicmoandmaaGreatDoor.St

