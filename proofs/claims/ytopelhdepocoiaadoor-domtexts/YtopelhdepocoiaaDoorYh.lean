/-
  What is proved here: what the reference's Right, Taken, Min and Max return of any ranges.
-/
import Derived.Test.YtopelhdepocoiaaDoorYd
namespace Go.Proofs.YtopelhdepocoiaaDoor
open Go.RowKit Go.Shelf

set_option maxHeartbeats 400000 in
theorem refright_none (a : Option Addr) (cap : Nat) (w : World) :
    Calls Tryd.prog 9 #[.slice a 0 cap] w fun e w' => e = .returned (.bool true) ∧ ∃ n, w' = w.drewN n := by
  go_enter Tryd.func9, Tryd.ntmps9
  go_wp2
  go_loop [3] (fun i => i = .int .i64 0) (fun _ => 0)
  case atStart => rfl
  case round =>
    obtain rfl := hrel
    go_wp2
    go_ret
    exact ⟨rfl, 0, rfl⟩
set_option maxHeartbeats 400000 in
theorem refright_long (a : Option Addr) (n cap : Nat) (w : World) (h : 4096 < n) :
    Calls Tryd.prog 9 #[.slice a n cap] w fun e w' => e = .returned (.bool false) ∧ ∃ n, w' = w.drewN n := by
  have h' : 4096 < (n : Int) := by omega
  go_enter Tryd.func9, Tryd.ntmps9
  go_wp2
  go_ret
  exact ⟨rfl, 0, rfl⟩

set_option maxRecDepth 100000 in
set_option maxHeartbeats 2000000 in
theorem refright_some (b off cap : Nat) (l : List Rg) (w : World) (h0 : 0 < l.length) (hlen : l.length ≤ 4096)
    (hcell : ∀ i, i < l.length → w.cell? ⟨b, off + i * 2, none⟩ = some (.int .i64 (lo l i)) ∧ w.cell? ⟨b, off + i * 2 + 1, none⟩ = some (.int .i64 (hi l i))) :
    Calls Tryd.prog 9 #[.slice (some ⟨b, off, none⟩) l.length cap] w fun e w' => e = .returned (.bool (rightB l)) ∧ ∃ n, w' = w.drewN n := by
  obtain ⟨n, hn⟩ : ∃ n, l.length = n := ⟨_, rfl⟩
  have HN : Hid (l.length = n) := hn
  rw [hn] at h0 hlen hcell ⊢
  have HC : Hid (∀ i, i < n → w.cell? ⟨b, off + i * 2, none⟩ = some (.int .i64 (lo l i)) ∧ w.cell? ⟨b, off + i * 2 + 1, none⟩ = some (.int .i64 (hi l i))) := hcell
  have hn' : ¬ (4096 < (n : Int)) := by omega
  clear hn hcell
  go_enter Tryd.func9, Tryd.ntmps9
  go_wp2
  go_loopw [3] (fun i wr => ∃ k : Nat, k ≤ n ∧ i = .int .i64 k ∧ (∀ j, j < k → OkAt l j) ∧ ∃ m, wr = w.drewN m) (fun i _ => n - (intOf i).toNat)
  case atStart => exact ⟨0, Nat.zero_le _, rfl, fun j hj => absurd hj (by omega), 0, rfl⟩
  case round =>
    obtain ⟨k, hk, rfl, hok, m, rfl⟩ := hrel
    have HOK : Hid (∀ j, j < k → OkAt l j) := hok
    clear hok
    by_cases hlt2 : k < n
    · obtain ⟨W2, hW2⟩ : ∃ W2, w.drewN m = W2 := ⟨_, rfl⟩
      have HW2 : Hid (w.drewN m = W2) := hW2
      have HC2 : Hid (∀ i, i < n → W2.cell? ⟨b, off + i * 2, none⟩ = some (.int .i64 (lo l i)) ∧ W2.cell? ⟨b, off + i * 2 + 1, none⟩ = some (.int .i64 (hi l i))) := by rw [← hW2]; exact HC.out
      rw [hW2]
      clear hW2
      obtain ⟨d1, d2⟩ := HC2.out k hlt2
      obtain ⟨x, hx⟩ : ∃ x, lo l k = x := ⟨_, rfl⟩
      obtain ⟨y, hy⟩ : ∃ y, hi l k = y := ⟨_, rfl⟩
      have HX : Hid (lo l k = x) := hx
      have HY : Hid (hi l k = y) := hy
      rw [hx] at d1; rw [hy] at d2
      have hnot : ¬ OkAt l k → rightB l = false := fun h => rightB_no fun hR => h (hR.2 k (by rw [HN.out]; exact hlt2))
      have HNOT : Hid (¬ OkAt l k → rightB l = false) := hnot
      clear hx hy hnot
      by_cases hA : -1000000 ≤ x ∧ x ≤ 1000000
      · have hix : inV x = true := inV_yes hA.1 hA.2
        obtain ⟨hA1, hA2⟩ := hA
        by_cases hB : -1000000 ≤ y ∧ y ≤ 1000000
        · have hiy : inV y = true := inV_yes hB.1 hB.2
          obtain ⟨hB1, hB2⟩ := hB
          by_cases hC : y < x
          · have hd1 : decide (y < x) = true := by simpa using hC
            go_wp2
            go_quiet ((go_at_call 18; exact Calls.quiet_of_same (in_any _ _)))
            go_wp2
            go_ret
            exact ⟨ret_bool (HNOT.out (fun h => by have := h.1; rw [HX.out, HY.out] at this; omega)).symm, _, by rw [← HW2.out, World.drewN_drewN]⟩
          · have hd1 : decide (y < x) = false := by simp; omega
            by_cases hk0 : 0 < k
            · obtain ⟨_, d3⟩ := HC2.out (k - 1) (by omega)
              have okp := HOK.out (k - 1) (by omega)
              unfold OkAt at okp
              obtain ⟨z, hz⟩ : ∃ z, hi l (k - 1) = z := ⟨_, rfl⟩
              have HZ : Hid (hi l (k - 1) = z) := hz
              rw [hz] at d3 okp
              obtain ⟨p1, p2, p3, _⟩ := okp
              have hd0 : decide (0 < k) = true := by simpa using hk0
              have hk1 : (k : Int) - 1 = ((k - 1 : Nat) : Int) := by omega
              have hz1 : -1000000 ≤ z := by omega
              clear hz p1 p2
              by_cases hD : x ≤ z + 1
              · have hd2 : decide (x ≤ z + 1) = true := by simpa using hD
                go_wp2
                go_quiet ((go_at_call 18; exact Calls.quiet_of_same (in_any _ _)))
                go_wp2
                go_ret
                exact ⟨ret_bool (HNOT.out (fun h => by have := h.2.2.2 hk0; rw [HX.out, HZ.out] at this; omega)).symm, _, by rw [← HW2.out, World.drewN_drewN]⟩
              · have hd2 : decide (x ≤ z + 1) = false := by simp; omega
                have hok2 : OkAt l k := ⟨by rw [HX.out, HY.out]; omega, by rw [HX.out]; exact hA1, by rw [HY.out]; exact hB2, fun _ => by rw [HZ.out, HX.out]; omega⟩
                have HOK2 : Hid (OkAt l k) := hok2
                clear hok2
                go_wp2
                go_quiet ((go_at_call 18; exact Calls.quiet_of_same (in_any _ _)))
                go_wp2
                go_roundw
                case rel => exact ⟨k + 1, by omega, by go_num, fun j hj => if h : j = k then by subst h; exact HOK2.out else HOK.out j (by omega), _, by rw [← HW2.out, World.drewN_drewN]⟩
                case measure => simp [intOf]; omega
            · have hd0 : decide (0 < k) = false := by simp; omega
              have hok2 : OkAt l k := ⟨by rw [HX.out, HY.out]; omega, by rw [HX.out]; exact hA1, by rw [HY.out]; exact hB2, fun h => absurd h hk0⟩
              have HOK2 : Hid (OkAt l k) := hok2
              clear hok2
              go_wp2
              go_quiet ((go_at_call 18; exact Calls.quiet_of_same (in_any _ _)))
              go_wp2
              go_roundw
              case rel => exact ⟨k + 1, by omega, by go_num, fun j hj => if h : j = k then by subst h; exact HOK2.out else HOK.out j (by omega), _, by rw [← HW2.out, World.drewN_drewN]⟩
              case measure => simp [intOf]; omega
        · have hiy : inV y = false := inV_no hB
          go_wp2
          go_quiet ((go_at_call 18; exact Calls.quiet_of_same (in_any _ _)))
          go_wp2
          go_ret
          exact ⟨ret_bool (HNOT.out (fun h => by have := h.1; have h2 := h.2.2.1; rw [HX.out, HY.out] at this; rw [HY.out] at h2; omega)).symm, _, by rw [← HW2.out, World.drewN_drewN]⟩
      · have hix : inV x = false := inV_no hA
        go_wp2
        go_quiet ((go_at_call 18; exact Calls.quiet_of_same (in_any _ _)))
        go_wp2
        go_ret
        exact ⟨ret_bool (HNOT.out (fun h => by have := h.1; have h2 := h.2.2.1; have h3 := h.2.1; rw [HX.out, HY.out] at this; rw [HY.out] at h2; rw [HX.out] at h3; omega)).symm, _, by rw [← HW2.out, World.drewN_drewN]⟩
    · go_wp2
      go_ret
      exact ⟨ret_bool (rightB_yes ⟨by rw [HN.out]; exact hlen, fun i hi => HOK.out i (by rw [HN.out] at hi; omega)⟩).symm, _, rfl⟩
theorem refright_any (s : Value) (l : List Rg) (w : World) (h : Sr w s l) :
    Calls Tryd.prog 9 #[s] w fun e w' => e = .returned (.bool (rightB l)) ∧ ∃ n, w' = w.drewN n := by
  obtain ⟨a, cap, rfl, hc⟩ := h
  by_cases hl : 4096 < l.length
  · rw [rightB_no (fun h => by have := h.1; omega)]
    exact refright_long a _ cap w hl
  · rcases Nat.eq_zero_or_pos l.length with h0 | h0
    · rw [rightB_yes ⟨by omega, fun i hi => by omega⟩, h0]
      exact refright_none a cap w
    · obtain ⟨b, off, rfl, hlt, hcell⟩ := hc h0
      exact refright_some b off cap l w h0 (by omega) hcell

theorem taken_yes (s : Value) (l : List Rg) (w : World) (h : Sr w s l) (hR : Right l) :
    Calls Tryd.prog 16 #[s] w fun e w' => e = .returned s ∧ ∃ n, w' = w.drewN n := by
  have hc := refright_any s l w h
  rw [rightB_yes hR] at hc
  obtain ⟨a, cap, rfl, _⟩ := h
  go_enter Tryd.func16, Tryd.ntmps16
  go_wp2_with (go_at_call 9; refine hc.mono ?_; rintro e w1 ⟨rfl, n1, rfl⟩)
  go_ret
  exact ⟨rfl, _, rfl⟩
theorem taken_no (s : Value) (l : List Rg) (w : World) (h : Sr w s l) (hR : ¬ Right l) :
    Calls Tryd.prog 16 #[s] w fun e w' => e = .returned (.slice none 0 0) ∧ ∃ n, w' = w.drewN n := by
  have hc := refright_any s l w h
  rw [rightB_no hR] at hc
  obtain ⟨a, cap, rfl, _⟩ := h
  go_enter Tryd.func16, Tryd.ntmps16
  go_wp2_with (go_at_call 9; refine hc.mono ?_; rintro e w1 ⟨rfl, n1, rfl⟩)
  go_ret
  exact ⟨rfl, _, rfl⟩
end Go.Proofs.YtopelhdepocoiaaDoor

