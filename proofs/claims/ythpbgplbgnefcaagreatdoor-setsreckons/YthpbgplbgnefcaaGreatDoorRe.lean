/-
  What is proved here: the reference's Cmp of any lists.
-/
import Derived.Test.YthpbgplbgnefcaaGreatDoorRd
namespace Go.Proofs.YthpbgplbgnefcaaGreatDoor
open Go.RowKit Go.Shelf
set_option linter.unusedVariables false
set_option linter.unusedSimpArgs false

set_option maxRecDepth 100000 in
set_option maxHeartbeats 4000000 in
theorem refcmp_any (s1 s2 : Value) (a b : List Int) (W : World) (h1 : Si W s1 a) (h2 : Si W s2 b) :
    Calls Tryz.prog 24 #[s1, s2] W fun e w' => e = .returned (.int .i64 (cmpL (tkS a) (tkS b))) ∧ Below W.heap.size W w' := by
  have hk1 := taken_any s1 a W h1
  have hk2 := fun X (hX : Below W.heap.size W X) => taken_any s2 b X (h2.below hX)
  have hset1 := (tkS_set a).1
  have hset2 := (tkS_set b).1
  obtain ⟨r, hr⟩ : ∃ r, cmpL (tkS a) (tkS b) = r := ⟨_, rfl⟩
  have HRR : Hid (cmpL (tkS a) (tkS b) = r) := hr
  rw [hr]
  generalize tkS a = A at hk1 hset1 HRR
  generalize tkS b = B at hk2 hset2 HRR
  clear hr
  obtain ⟨a1, c1, rfl, _⟩ := h1
  obtain ⟨a2, c2, rfl, _⟩ := h2
  generalize a.length = l1 at *
  generalize b.length = l2 at *
  go_enter Tryz.func24, Tryz.ntmps24
  go_wp2_with fail
  refine hk1.mono ?_
  rintro e w1 ⟨a3, n1, c3, rfl, HS1, HN1, m1, hw1⟩
  have hb1 : Below W.heap.size W w1 := by rw [hw1]; exact below_drewN (Below.refl _ _) _
  have kk := hk2 w1 hb1
  have HS1' : Hid (Si w1 (.slice a3 n1 c3) A) := HS1.out.below hb1
  clear hk1 hk2 hw1 HS1
  go_wp2_with fail
  refine kk.mono ?_
  rintro e w2 ⟨a4, n2, c4, rfl, HS2, HN2, m2, hw2⟩
  have hb2 : Below w1.heap.size w1 w2 := by rw [hw2]; exact below_drewN (Below.refl _ _) _
  have hB2 : Below W.heap.size W w2 := hb1.trans (hb2.mono hb1.size)
  have q1 := HS1'.out.below hb2
  have q2 := HS2.out.below hb2
  obtain ⟨_, _, e3, hc1⟩ := q1
  rw [← HN1.out] at e3 hc1
  injection e3 with e4 _ e5
  subst e4 e5
  obtain ⟨_, _, e3, hc2⟩ := q2
  rw [← HN2.out] at e3 hc2
  injection e3 with e4 _ e5
  subst e4 e5
  have HC1 : Hid _ := hc1
  have HC2 : Hid _ := hc2
  have hn1 : n1 ≤ 64 := by rw [HN1.out]; exact hset1
  have hn2 : n2 ≤ 64 := by rw [HN2.out]; exact hset2
  clear kk hw2 hb2 HS2 HS1' hc1 hc2 hset1 hset2 hb1
  go_wp2
  go_loopw [5] (fun i wr => ∃ k : Nat, k ≤ n1 ∧ k ≤ n2 ∧ i = .int .i64 k ∧ Hid (cmpL A B = cmpL (A.drop k) (B.drop k)) ∧ ∃ m, wr = w2.drewN m) (fun i _ => n1 - (intOf i).toNat)
  case atStart => exact ⟨0, Nat.zero_le _, Nat.zero_le _, rfl, rfl, 0, rfl⟩
  case round =>
    obtain ⟨k, hk1, hk2, rfl, HP, m, rfl⟩ := hrel
    by_cases hlt : k < n1
    · have hlt' : (k : Int) < (n1 : Int) := by omega
      by_cases hlt2 : k < n2
      · have hlt2' : (k : Int) < (n2 : Int) := by omega
        obtain ⟨b1, o1, rfl, hb1, hcell1⟩ := HC1.out (by omega)
        obtain ⟨b2, o2, rfl, hb2, hcell2⟩ := HC2.out (by omega)
        have d1' := hcell1 k hlt
        have d2' := hcell2 k hlt2
        obtain ⟨x, hx⟩ : ∃ x, nth A k = x := ⟨_, rfl⟩
        obtain ⟨y, hy⟩ : ∃ y, nth B k = y := ⟨_, rfl⟩
        rw [hx] at d1'
        rw [hy] at d2'
        have HX : Hid (nth A k = x) := hx
        have HY : Hid (nth B k = y) := hy
        have hst := cmpL_step A B k (by rw [← HN1.out]; exact hlt) (by rw [← HN2.out]; exact hlt2)
        rw [hx, hy] at hst
        have HST : Hid _ := hst
        obtain ⟨W2, hW2⟩ : ∃ W2, w2.drewN m = W2 := ⟨_, rfl⟩
        have HW2 : Hid (w2.drewN m = W2) := hW2
        have d1 : W2.cell? ⟨b1, o1 + k, none⟩ = some (.int .i64 x) := by rw [← hW2]; exact d1'
        have d2 : W2.cell? ⟨b2, o2 + k, none⟩ = some (.int .i64 y) := by rw [← hW2]; exact d2'
        rw [hW2]
        clear hcell1 hcell2 hx hy hst hW2 d1' d2'
        rcases Int.lt_trichotomy x y with hxy | hxy | hxy
        · have hd : decide (x < y) = true := by simpa using hxy
          have HR : Hid (r = -1) := by unfold Hid; rw [← HRR.out, HP.out, HST.out, if_pos hxy]
          go_wp2
          go_quiet (fail)
          go_wp2
          go_ret
          exact ⟨by rw [HR.out]; rfl, by rw [← HW2.out]; exact below_drewN (below_drewN hB2 _) _⟩
        · subst hxy
          have hd : decide (x < x) = false := by simp
          have HR : Hid (cmpL A B = cmpL (A.drop (k + 1)) (B.drop (k + 1))) := by unfold Hid; rw [HP.out, HST.out, if_neg (by omega), if_neg (by omega)]
          go_wp2
          go_quiet (fail)
          go_wp2
          go_quiet (fail)
          go_wp2
          go_roundw
          case rel => exact ⟨k + 1, by omega, by omega, by go_num, HR.out, _, by rw [← HW2.out, World.drewN_drewN]⟩
          case measure => simp [intOf]; omega
        · have hd : decide (x < y) = false := by simp; omega
          have hd2 : decide (y < x) = true := by simpa using hxy
          have HR : Hid (r = 1) := by unfold Hid; rw [← HRR.out, HP.out, HST.out, if_neg (by omega), if_pos hxy]
          go_wp2
          go_quiet (fail)
          go_wp2
          go_quiet (fail)
          go_wp2
          go_ret
          exact ⟨by rw [HR.out]; rfl, by rw [← HW2.out]; exact below_drewN (below_drewN (below_drewN hB2 _) _) _⟩
      · have hlt2' : ¬ (k : Int) < (n2 : Int) := by omega
        have h9 : ¬ (n1 : Int) < (n2 : Int) := by omega
        have h8 : (n2 : Int) < (n1 : Int) := by omega
        have HR : Hid (r = 1) := by unfold Hid; rw [← HRR.out, HP.out, cmpL_more A B k (by rw [← HN1.out]; exact hlt) (by rw [← HN2.out]; omega)]
        go_wp2
        go_ret
        exact ⟨by rw [HR.out]; rfl, below_drewN hB2 _⟩
    · obtain rfl : k = n1 := by omega
      have hlt' : ¬ (k : Int) < (k : Int) := by omega
      have hen := cmpL_end A B (by rw [← HN1.out, ← HN2.out]; exact hk2)
      rw [← HN1.out, ← HN2.out] at hen
      have h8 : ¬ (n2 : Int) < (k : Int) := by omega
      by_cases h9 : k < n2
      · have h9' : (k : Int) < (n2 : Int) := by omega
        have HR : Hid (r = -1) := by unfold Hid; rw [← HRR.out, HP.out, hen, if_pos h9]
        clear hen
        go_wp2
        go_ret
        exact ⟨by rw [HR.out]; rfl, below_drewN hB2 _⟩
      · have h9' : ¬ (k : Int) < (n2 : Int) := by omega
        have HR : Hid (r = 0) := by unfold Hid; rw [← HRR.out, HP.out, hen, if_neg h9]
        clear hen
        go_wp2
        go_ret
        exact ⟨by rw [HR.out]; rfl, below_drewN hB2 _⟩
end Go.Proofs.YthpbgplbgnefcaaGreatDoor
