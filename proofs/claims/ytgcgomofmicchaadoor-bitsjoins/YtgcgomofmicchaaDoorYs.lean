/-
  What is proved here: what bits.New returns.
-/
import Derived.Test.YtgcgomofmicchaaDoorYq
namespace Go.Proofs.YtgcgomofmicchaaDoor
open Go.RowKit Go.Shelf

set_option maxHeartbeats 400000 in
theorem made_dom (f t : Int) (w : World) (h : ¬ (-1000000 ≤ f ∧ t ≤ 1000000 ∧ f ≤ t)) :
    Calls Tryd.prog 44 #[.int .i64 f, .int .i64 t, .slice none 0 0] w fun e w' => e = .returned (.tuple #[.pointer none, .int .i64 20]) ∧ Below w.heap.size w w' := by
  by_cases h1 : f < -1000000
  · have d1 : decide (f < -1000000) = true := by simpa using h1
    go_enter Tryd.func44, Tryd.ntmps44
    go_wp2
    go_ret2
    exact ⟨rfl, (Below.refl _ _).alloc (Nat.le_refl _) _⟩
  · have d1 : decide (f < -1000000) = false := by simpa using h1
    by_cases h2 : 1000000 < t
    · have d2 : decide (1000000 < t) = true := by simpa using h2
      go_enter Tryd.func44, Tryd.ntmps44
      go_wp2
      go_ret2
      exact ⟨rfl, (Below.refl _ _).alloc (Nat.le_refl _) _⟩
    · have d2 : decide (1000000 < t) = false := by simpa using h2
      have h3 : t < f := by omega
      have d3 : decide (t < f) = true := by simpa using h3
      go_enter Tryd.func44, Tryd.ntmps44
      go_wp2
      go_ret2
      exact ⟨rfl, (Below.refl _ _).alloc (Nat.le_refl _) _⟩
set_option maxHeartbeats 400000 in
theorem new_dom (f t : Int) (w : World) (h : ¬ (-1000000 ≤ f ∧ t ≤ 1000000 ∧ f ≤ t)) :
    Calls Tryd.prog 11 #[.int .i64 f, .int .i64 t] w fun e w' => e = .returned (.tuple #[.pointer none, .int .i64 20]) ∧ Below w.heap.size w w' := by
  have k := made_dom f t w h
  clear h
  go_enter Tryd.func11, Tryd.ntmps11
  go_wp2_with (go_at_call 44; refine k.mono ?_; clear k; rintro e w1 ⟨rfl, hb1⟩)
  go_ret2
  exact ⟨rfl, hb1⟩
set_option maxHeartbeats 400000 in
theorem new_full (f t : Int) (w : World) (h1 : -1000000 ≤ f) (h2 : t ≤ 1000000) (h3 : f ≤ t) (h4 : 65536 ≤ t - f) :
    Calls Tryd.prog 11 #[.int .i64 f, .int .i64 t] w fun e w' => e = .returned (.tuple #[.pointer none, .int .i64 4]) ∧ Below w.heap.size w w' := by
  have k := made_long f t (.slice none 0 0) w h1 h2 h3 (by omega) ⟨_, _, _, rfl⟩
  clear h1 h2 h3 h4
  go_enter Tryd.func11, Tryd.ntmps11
  go_wp2_with (go_at_call 44; refine k.mono ?_; clear k; rintro e w1 ⟨rfl, hb1⟩)
  go_ret2
  exact ⟨rfl, hb1⟩
set_option maxHeartbeats 400000 in
theorem new_yes (f t : Int) (w : World) (h1 : -1000000 ≤ f) (h2 : t ≤ 1000000) (h3 : f ≤ t) (h4 : t - f < 65536) :
    Calls Tryd.prog 11 #[.int .i64 f, .int .i64 t] w fun e w' => ∃ b, e = .returned (.tuple #[.pointer (some ⟨b, 0, none⟩), .int .i64 0]) ∧ IsBits w' w.heap.size b f (t - f + 1) (wordsOf [] f ((t - f + 64) / 64).toNat) ∧ Below w.heap.size w w' := by
  have k := made_nil f t w h1 h2 h3 (by omega)
  obtain ⟨ww, hww⟩ : ∃ ww, wordsOf [] f ((t - f + 64) / 64).toNat = ww := ⟨_, rfl⟩
  rw [hww] at k ⊢
  clear h1 h2 h3 h4 hww
  go_enter Tryd.func11, Tryd.ntmps11
  go_wp2_with (go_at_call 44; refine k.mono ?_; clear k; rintro e w1 ⟨b, rfl, hib, hb1⟩)
  go_ret2
  exact ⟨_, rfl, hib, hb1⟩
theorem wat_zero (f : Int) (n k : Nat) : wat (wordsOf [] f n) k = 0 := by
  unfold wat wordsOf
  rw [List.getElem?_map]
  by_cases h : k < n
  · simp [h, wd_nil]
  · simp [h]
theorem sz_zero (f t : Int) (h1 : -1000000 ≤ f) (h2 : t ≤ 1000000) (h3 : f ≤ t) (h4 : t - f < 65536) : Sz f (t - f + 1) (wordsOf [] f ((t - f + 64) / 64).toNat) :=
  ⟨h1, by omega, by omega, by omega, by simp [wordsOf]; omega, fun k => by rw [wat_zero]; decide⟩
theorem bt_zero (f : Int) (n : Nat) (k : Int) : bt (wordsOf [] f n) k = false := by
  unfold bt
  split
  · rfl
  · rw [wat_zero]; simp
end Go.Proofs.YtgcgomofmicchaaDoor
