/-
  What is proved here: slices.Equal and the reference's Same of any two slices of numbers.
-/
import Derived.Test.YthpbgplbgnefcaaGreatDoorOh
import Derived.Test.YthpbgplbgnefcaaGreatDoorRj
namespace Go.Proofs.YthpbgplbgnefcaaGreatDoor
open Go.RowKit Go.Shelf
set_option linter.unusedVariables false
set_option linter.unusedSimpArgs false

theorem nth_list {a b : List Int} (hl : a.length = b.length) (h : ∀ i, i < a.length → nth a i = nth b i) : a = b := by
  apply List.ext_getElem hl
  intro i h1 h2
  have := h i h1
  simpa [nth, List.getElem?_eq_getElem h1, List.getElem?_eq_getElem h2] using this

set_option maxRecDepth 100000 in
set_option maxHeartbeats 4000000 in
theorem equal_any (s1 s2 : Value) (a b : List Int) (W : World) (h1 : Si W s1 a) (h2 : Si W s2 b) (hr : a.length * 8 ≤ 140737488351232) :
    Calls Tryz.prog 87 #[s1, s2] W fun e w' => e = .returned (.bool (decide (a = b))) ∧ Below W.heap.size W w' := by
  obtain ⟨a1, c1, rfl, hc1⟩ := h1
  obtain ⟨a2, c2, rfl, hc2⟩ := h2
  obtain ⟨n, hn⟩ : ∃ n, a.length = n := ⟨_, rfl⟩
  obtain ⟨m, hm⟩ : ∃ m, b.length = m := ⟨_, rfl⟩
  have HN : Hid (a.length = n) := hn
  have HM : Hid (b.length = m) := hm
  rw [hn] at hc1 hr ⊢
  rw [hm] at hc2 ⊢
  have HC1 : Hid _ := hc1
  have HC2 : Hid _ := hc2
  clear hn hm hc1 hc2
  by_cases hl : n = m
  · subst hl
    go_enter Tryz.func87, Tryz.ntmps87
    go_wp2
    go_loopw [13] (fun i wr => ∃ k : Nat, k ≤ n ∧ i = .int .i64 (k : Int) ∧ Hid (∀ j, j < k → nth a j = nth b j) ∧ ∃ nq, wr = W.drewN nq) (fun i _ => n - (intOf i).toNat)
    case atStart => exact ⟨0, Nat.zero_le _, rfl, fun j hj => absurd hj (by omega), 0, rfl⟩
    case round =>
      obtain ⟨k, hk, rfl, HOK, nq0, rfl⟩ := hrel
      by_cases hlt : k < n
      · obtain ⟨b1, o1, rfl, _, hcell1⟩ := HC1.out (by omega)
        obtain ⟨b2, o2, rfl, _, hcell2⟩ := HC2.out (by omega)
        have x1 := hcell1 k hlt
        have x2 := hcell2 k hlt
        have kk : (k : Int) < (n : Int) := by omega
        clear hcell1 hcell2 HC1 HC2
        obtain ⟨x, hx⟩ : ∃ x, nth a k = x := ⟨_, rfl⟩
        obtain ⟨y, hy⟩ : ∃ x, nth b k = x := ⟨_, rfl⟩
        have HX : Hid (nth a k = x) := hx
        have HY : Hid (nth b k = y) := hy
        rw [hx] at x1
        rw [hy] at x2
        clear hx hy
        by_cases he : x = y
        · have HE : Hid (x = y) := he
          subst he
          go_wp2
          go_quiet (fail)
          go_wp2
          go_roundw
          case rel => exact ⟨k + 1, by omega, by go_num, fun j hj => if h : j = k then by subst h; rw [HX.out, HY.out] else HOK.out j (by omega), _, rfl⟩
          case measure => simp [intOf]; omega
        · have HE : Hid (¬ a = b) := fun h => he (by rw [← HX.out, ← HY.out, h])
          go_wp2
          go_quiet (fail)
          go_wp2
          go_ret
          exact ⟨ret_bool (by simpa using HE.out), below_drewN (below_drewN (Below.refl _ _) _) _⟩
      · have HE : Hid (a = b) := nth_list (by rw [HN.out, HM.out]) fun i hi => HOK.out i (by rw [HN.out] at hi; omega)
        go_wp2
        go_ret
        exact ⟨ret_bool (by simpa using HE.out), below_drewN (Below.refl _ _) _⟩
  · have HE : Hid (¬ a = b) := fun h => hl (by rw [← HN.out, ← HM.out, h])
    have hne : ¬ (n : Int) = (m : Int) := by omega
    go_enter Tryz.func87, Tryz.ntmps87
    go_wp2
    go_ret
    exact ⟨ret_bool (by simpa using HE.out), below_drewN (Below.refl _ _) 0⟩

set_option maxRecDepth 100000 in
set_option maxHeartbeats 4000000 in
theorem refsame_any (s1 s2 : Value) (a b : List Int) (W : World) (h1 : Si W s1 a) (h2 : Si W s2 b) (hr : a.length * 8 ≤ 140737488351232) :
    Calls Tryz.prog 14 #[s1, s2] W fun e w' => e = .returned (.bool (decide (a = b))) ∧ Below W.heap.size W w' := by
  obtain ⟨a1, c1, rfl, hc1⟩ := h1
  obtain ⟨a2, c2, rfl, hc2⟩ := h2
  obtain ⟨n, hn⟩ : ∃ n, a.length = n := ⟨_, rfl⟩
  obtain ⟨m, hm⟩ : ∃ m, b.length = m := ⟨_, rfl⟩
  have HN : Hid (a.length = n) := hn
  have HM : Hid (b.length = m) := hm
  rw [hn] at hc1 hr ⊢
  rw [hm] at hc2 ⊢
  have HC1 : Hid _ := hc1
  have HC2 : Hid _ := hc2
  clear hn hm hc1 hc2
  by_cases hl : n = m
  · subst hl
    go_enter Tryz.func14, Tryz.ntmps14
    go_wp2
    go_loopw [5] (fun i wr => ∃ k : Nat, k ≤ n ∧ i = .int .i64 (k : Int) ∧ Hid (∀ j, j < k → nth a j = nth b j) ∧ ∃ nq, wr = W.drewN nq) (fun i _ => n - (intOf i).toNat)
    case atStart => exact ⟨0, Nat.zero_le _, rfl, fun j hj => absurd hj (by omega), 0, rfl⟩
    case round =>
      obtain ⟨k, hk, rfl, HOK, nq0, rfl⟩ := hrel
      by_cases hlt : k < n
      · obtain ⟨b1, o1, rfl, _, hcell1⟩ := HC1.out (by omega)
        obtain ⟨b2, o2, rfl, _, hcell2⟩ := HC2.out (by omega)
        have x1 := hcell1 k hlt
        have x2 := hcell2 k hlt
        have kk : (k : Int) < (n : Int) := by omega
        clear hcell1 hcell2 HC1 HC2
        obtain ⟨x, hx⟩ : ∃ x, nth a k = x := ⟨_, rfl⟩
        obtain ⟨y, hy⟩ : ∃ x, nth b k = x := ⟨_, rfl⟩
        have HX : Hid (nth a k = x) := hx
        have HY : Hid (nth b k = y) := hy
        rw [hx] at x1
        rw [hy] at x2
        clear hx hy
        by_cases he : x = y
        · have HE : Hid (x = y) := he
          subst he
          go_wp2
          go_quiet (fail)
          go_wp2
          go_roundw
          case rel => exact ⟨k + 1, by omega, by go_num, fun j hj => if h : j = k then by subst h; rw [HX.out, HY.out] else HOK.out j (by omega), _, rfl⟩
          case measure => simp [intOf]; omega
        · have HE : Hid (¬ a = b) := fun h => he (by rw [← HX.out, ← HY.out, h])
          go_wp2
          go_quiet (fail)
          go_wp2
          go_ret
          exact ⟨ret_bool (by simpa using HE.out), below_drewN (below_drewN (Below.refl _ _) _) _⟩
      · have HE : Hid (a = b) := nth_list (by rw [HN.out, HM.out]) fun i hi => HOK.out i (by rw [HN.out] at hi; omega)
        go_wp2
        go_ret
        exact ⟨ret_bool (by simpa using HE.out), below_drewN (Below.refl _ _) _⟩
  · have HE : Hid (¬ a = b) := fun h => hl (by rw [← HN.out, ← HM.out, h])
    have hne : ¬ (n : Int) = (m : Int) := by omega
    go_enter Tryz.func14, Tryz.ntmps14
    go_wp2
    go_ret
    exact ⟨ret_bool (by simpa using HE.out), below_drewN (Below.refl _ _) 0⟩
end Go.Proofs.YthpbgplbgnefcaaGreatDoor
