/-
  What is proved here: sets.In, Sub and Cmp of any sets; slices.Compare of two lists.
-/
import Derived.Test.YtacnhkaibcjjgaaGreatDoorSd
namespace Go.Proofs.YtacnhkaibcjjgaaGreatDoor
open Go.RowKit Go.Shelf
set_option linter.unusedVariables false
set_option linter.unusedSimpArgs false

/-- The order of lists. -/
def cmpL : List Int → List Int → Int
  | [], [] => 0
  | [], _ :: _ => -1
  | _ :: _, [] => 1
  | x :: a, y :: b => if x < y then -1 else if y < x then 1 else cmpL a b
theorem drop_nth (l : List Int) (k : Nat) (h : k < l.length) : l.drop k = nth l k :: l.drop (k + 1) := by
  rw [List.drop_eq_getElem_cons h]; simp [nth, h]
theorem cmpL_step (a b : List Int) (k : Nat) (h1 : k < a.length) (h2 : k < b.length) : cmpL (a.drop k) (b.drop k) = if nth a k < nth b k then -1 else if nth b k < nth a k then 1 else cmpL (a.drop (k + 1)) (b.drop (k + 1)) := by
  rw [drop_nth a k h1, drop_nth b k h2]; rfl
theorem cmpL_more (a b : List Int) (k : Nat) (h1 : k < a.length) (h2 : b.length ≤ k) : cmpL (a.drop k) (b.drop k) = 1 := by
  rw [drop_nth a k h1, List.drop_eq_nil_iff.2 h2]; rfl
theorem cmpL_end (a b : List Int) (h2 : a.length ≤ b.length) : cmpL (a.drop a.length) (b.drop a.length) = if a.length < b.length then -1 else 0 := by
  rw [List.drop_length]
  by_cases h : a.length < b.length
  · rw [drop_nth b _ h, if_pos h]; rfl
  · rw [List.drop_eq_nil_iff.2 (by omega), if_neg h]; rfl
theorem cmpInt_at (x y : Int) (W : World) : Calls Tryz.prog 102 #[.int .i64 x, .int .i64 y] W fun e w' => e = .returned (.int .i64 (Lib.compareInt x y)) ∧ w' = W := AnyG.cmp_Compare_int Tryz.laysCmp x y W

set_option maxHeartbeats 1000000 in
theorem compare_any (s1 s2 : Value) (a b : List Int) (W : World) (h1 : Si W s1 a) (h2 : Si W s2 b) (hl1 : a.length ≤ 1000) (hl2 : b.length ≤ 1000) :
    Calls Tryz.prog 72 #[s1, s2] W fun e w' => e = .returned (.int .i64 (cmpL a b)) ∧ ∃ q, w' = W.drewN q := by
  obtain ⟨a1, c1, rfl, hc1⟩ := h1
  obtain ⟨a2, c2, rfl, hc2⟩ := h2
  obtain ⟨n1, hn1⟩ : ∃ n, a.length = n := ⟨_, rfl⟩
  obtain ⟨n2, hn2⟩ : ∃ n, b.length = n := ⟨_, rfl⟩
  have HN1 : Hid (a.length = n1) := hn1
  have HN2 : Hid (b.length = n2) := hn2
  rw [hn1] at hc1 hl1 ⊢
  rw [hn2] at hc2 hl2 ⊢
  have HC1 : Hid _ := hc1
  have HC2 : Hid _ := hc2
  clear hn1 hn2 hc1 hc2
  go_enter Tryz.func72, Tryz.ntmps72
  go_wp2
  go_loopw [11] (fun i wr => ∃ k : Nat, k ≤ n1 ∧ k ≤ n2 ∧ i = .int .i64 k ∧ Hid (cmpL a b = cmpL (a.drop k) (b.drop k)) ∧ ∃ m, wr = W.drewN m) (fun i _ => n1 - (intOf i).toNat)
  case atStart => exact ⟨0, Nat.zero_le _, Nat.zero_le _, rfl, rfl, 0, rfl⟩
  case round =>
    obtain ⟨k, hk1, hk2, rfl, HP, m, rfl⟩ := hrel
    by_cases hlt : k < n1
    · have hlt' : (k : Int) < (n1 : Int) := by omega
      obtain ⟨b1, o1, rfl, hb1, hcell1⟩ := HC1.out (by omega)
      have d1 : (W.drewN m).cell? ⟨b1, o1 + k, none⟩ = some (.int .i64 (nth a k)) := hcell1 k hlt
      obtain ⟨x, hx⟩ : ∃ x, nth a k = x := ⟨_, rfl⟩
      rw [hx] at d1
      have HX : Hid (nth a k = x) := hx
      clear hcell1 hx
      by_cases hlt2 : k < n2
      · have hlt2' : ¬ (n2 : Int) ≤ (k : Int) := by omega
        obtain ⟨b2, o2, rfl, hb2, hcell2⟩ := HC2.out (by omega)
        have d2 : (W.drewN m).cell? ⟨b2, o2 + k, none⟩ = some (.int .i64 (nth b k)) := hcell2 k hlt2
        obtain ⟨y, hy⟩ : ∃ y, nth b k = y := ⟨_, rfl⟩
        rw [hy] at d2
        have HY : Hid (nth b k = y) := hy
        clear hcell2 hy
        have hst := cmpL_step a b k (by rw [HN1.out]; exact hlt) (by rw [HN2.out]; exact hlt2)
        rw [HX.out, HY.out] at hst
        have HST : Hid _ := hst
        clear hst
        have hcm := cmpInt_at x y (W.drewN m)
        obtain ⟨W2, hW2⟩ : ∃ W2, W.drewN m = W2 := ⟨_, rfl⟩
        have HW2 : Hid (W.drewN m = W2) := hW2
        rw [hW2] at hcm d1 d2 ⊢
        clear hW2
        rcases Int.lt_trichotomy x y with hxy | hxy | hxy
        · have hc : Lib.compareInt x y = -1 := by unfold Lib.compareInt; rw [if_pos hxy]
          rw [hc] at hcm
          have HR : Hid (cmpL a b = -1) := by unfold Hid; rw [HP.out, HST.out, if_pos hxy]
          go_wp2_with (go_at_call 102; refine hcm.mono ?_; rintro e w3 ⟨rfl, rfl⟩)
          go_ret
          exact ⟨by rw [HR.out]; rfl, m, HW2.out.symm⟩
        · have hc : Lib.compareInt x y = 0 := by unfold Lib.compareInt; rw [if_neg (by omega), if_neg (by omega)]
          rw [hc] at hcm
          have HR : Hid (cmpL a b = cmpL (a.drop (k + 1)) (b.drop (k + 1))) := by unfold Hid; rw [HP.out, HST.out, if_neg (by omega), if_neg (by omega)]
          clear hc
          subst hxy
          go_wp2_with (go_at_call 102; refine hcm.mono ?_; rintro e w3 ⟨rfl, rfl⟩)
          go_roundw
          case rel => exact ⟨k + 1, by omega, by omega, by go_num, HR.out, m, HW2.out.symm⟩
          case measure => simp [intOf]; omega
        · have hc : Lib.compareInt x y = 1 := by unfold Lib.compareInt; rw [if_neg (by omega), if_pos hxy]
          rw [hc] at hcm
          have HR : Hid (cmpL a b = 1) := by unfold Hid; rw [HP.out, HST.out, if_neg (by omega), if_pos hxy]
          go_wp2_with (go_at_call 102; refine hcm.mono ?_; rintro e w3 ⟨rfl, rfl⟩)
          go_ret
          exact ⟨by rw [HR.out]; rfl, m, HW2.out.symm⟩
      · have hlt2' : (n2 : Int) ≤ (k : Int) := by omega
        have HR : Hid (cmpL a b = 1) := by unfold Hid; rw [HP.out, cmpL_more a b k (by rw [HN1.out]; exact hlt) (by rw [HN2.out]; omega)]
        go_wp2
        go_ret
        exact ⟨by rw [HR.out]; rfl, _, rfl⟩
    · obtain rfl : k = n1 := by omega
      have hlt' : ¬ (k : Int) < (k : Int) := by omega
      have hen := cmpL_end a b (by rw [HN1.out, HN2.out]; exact hk2)
      rw [HN1.out, HN2.out] at hen
      by_cases h9 : k < n2
      · have h9' : (k : Int) < (n2 : Int) := by omega
        have HR : Hid (cmpL a b = -1) := by unfold Hid; rw [HP.out, hen, if_pos h9]
        clear hen
        go_wp2
        go_ret
        exact ⟨by rw [HR.out]; rfl, _, rfl⟩
      · have h9' : ¬ (k : Int) < (n2 : Int) := by omega
        have HR : Hid (cmpL a b = 0) := by unfold Hid; rw [HP.out, hen, if_neg h9]
        clear hen
        go_wp2
        go_ret
        exact ⟨by rw [HR.out]; rfl, _, rfl⟩

set_option maxHeartbeats 1000000 in
theorem cmp_any (s1 s2 : Value) (a b : List Int) (W : World) (h1 : Si W s1 a) (h2 : Si W s2 b) :
    Calls Tryz.prog 23 #[s1, s2] W fun e w' => e = .returned (.int .i64 (cmpL (tkS a) (tkS b))) ∧ Below W.heap.size W w' := by
  have hk1 := known_any s1 a W h1
  have hk2 := fun X (hX : Below W.heap.size W X) => known_any s2 b X (h2.below hX)
  have h1' := h1
  have h2' := h2
  obtain ⟨a1, c1, rfl, _⟩ := h1'
  obtain ⟨a2, c2, rfl, _⟩ := h2'
  clear h1 h2
  go_enter Tryz.func23, Tryz.ntmps23
  go_wp2_with fail
  refine hk1.mono ?_
  rintro e w1 ⟨a3, n3, c3, rfl, HS1, HN1, m1, hw1⟩
  have hB1 : Below W.heap.size W w1 := by rw [hw1]; exact below_drewN (Below.refl _ _) _
  have hS1 := HS1.out.below hB1
  have hk2' := hk2 _ hB1
  clear hk1 hk2 hw1 HS1
  go_wp2_with fail
  refine hk2'.mono ?_
  rintro e w2 ⟨a4, n4, c4, rfl, HS2, HN2, m2, hw2⟩
  have hb2 : Below w1.heap.size w1 w2 := by rw [hw2]; exact below_drewN (Below.refl _ _) _
  have hB2 : Below W.heap.size W w2 := hB1.trans (hb2.mono hB1.size)
  have hcm := compare_any _ _ (tkS a) (tkS b) w2 (hS1.below hb2) (HS2.out.below hb2) (by have := (tkS_set a).1; omega) (by have := (tkS_set b).1; omega)
  clear hk2' hb2 hS1 HS2 hw2 hB1
  go_wp2_with fail
  refine hcm.mono ?_
  rintro e w3 ⟨rfl, q, rfl⟩
  go_wp2
  go_ret
  exact ⟨rfl, below_drewN hB2 _⟩

set_option maxHeartbeats 1000000 in
theorem in_any (v : Int) (s : Value) (l : List Int) (W : World) (h : Si W s l) :
    Calls Tryz.prog 25 #[.int .i64 v, s] W fun e w' => e = .returned (.bool ((tkS l).contains v)) ∧ Below W.heap.size W w' := by
  have hk := known_any s l W h
  have h' := h
  obtain ⟨a1, c1, rfl, _⟩ := h'
  clear h
  go_enter Tryz.func25, Tryz.ntmps25
  go_wp2_with fail
  refine hk.mono ?_
  rintro e w1 ⟨a3, n3, c3, rfl, HS1, HN1, m1, hw1⟩
  have hB1 : Below W.heap.size W w1 := by rw [hw1]; exact below_drewN (Below.refl _ _) _
  have hs := search_any _ (tkS l) v w1 (HS1.out.below hB1) (tkS_set l)
  obtain ⟨t, ht⟩ : ∃ t, (tkS l).contains v = t := ⟨_, rfl⟩
  rw [ht] at hs
  have HT : Hid ((tkS l).contains v = t) := ht
  clear hk HS1 hw1 ht
  go_wp2_with fail
  refine hs.mono ?_
  rintro e w2 ⟨i, rfl, q, rfl⟩
  go_wp2
  go_ret
  exact ⟨by rw [HT.out]; rfl, below_drewN hB1 _⟩

/-- Is one within the other? -/
def subB (a b : List Int) : Bool := decide ((lessL a b).length = 0)
set_option maxHeartbeats 1000000 in
theorem sub_any (s1 s2 : Value) (a b : List Int) (W : World) (h1 : Si W s1 a) (h2 : Si W s2 b) :
    Calls Tryz.prog 27 #[s1, s2] W fun e w' => e = .returned (.bool (subB (tkS a) (tkS b))) ∧ Below W.heap.size W w' := by
  have hl := less_any s1 s2 a b W h1 h2
  have h1' := h1
  have h2' := h2
  obtain ⟨a1, c1, rfl, _⟩ := h1'
  obtain ⟨a2, c2, rfl, _⟩ := h2'
  clear h1 h2
  go_enter Tryz.func27, Tryz.ntmps27
  go_wp2_with fail
  refine hl.mono ?_
  rintro e w2 ⟨v, rfl, hF, hb2⟩
  obtain ⟨A, off, cap, cur, t, rfl, r⟩ := hF
  have hq' : subB (tkS a) (tkS b) = decide ((lessL (tkS a) (tkS b)).length = 0) := rfl
  obtain ⟨q, hq⟩ : ∃ q, (lessL (tkS a) (tkS b)).length = q := ⟨_, rfl⟩
  rw [hq] at hq' ⊢
  have HQ : Hid (subB (tkS a) (tkS b) = decide (q = 0)) := hq'
  clear hl r hq hq'
  by_cases h0 : q = 0
  · subst h0
    go_wp2
    go_ret
    exact ⟨ret_bool (by rw [HQ.out]; rfl), hb2⟩
  · have h0' : ((q : Int) == 0) = false := by simp; omega
    go_wp2
    go_ret
    exact ⟨ret_bool (by rw [HQ.out, decide_eq_false h0]), hb2⟩
end Go.Proofs.YtacnhkaibcjjgaaGreatDoor
