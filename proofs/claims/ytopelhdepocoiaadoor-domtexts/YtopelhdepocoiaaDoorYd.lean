/-
  What is proved here: the reference's Right of right ranges; the ranges of a set that was made of ranges are these.
-/
import Derived.Test.YtopelhdepocoiaaDoorXf
import Derived.Test.YtopelhdepocoiaaDoorMb
namespace Go.Proofs.YtopelhdepocoiaaDoor
open Go.RowKit Go.Shelf

/-- Is v a value? -/
def inV (v : Int) : Bool := decide (-1000000 ≤ v ∧ v ≤ 1000000)
theorem inV_yes {v : Int} (h1 : -1000000 ≤ v) (h2 : v ≤ 1000000) : inV v = true := by unfold inV; simp; omega
theorem inV_no {v : Int} (h : ¬ (-1000000 ≤ v ∧ v ≤ 1000000)) : inV v = false := by unfold inV; exact decide_eq_false h
set_option maxHeartbeats 400000 in
theorem in_any (v : Int) (w : World) :
    Calls Tryd.prog 18 #[.int .i64 v] w fun e w' => e = .returned (.bool (inV v)) ∧ w' = w := by
  by_cases h1 : -1000000 ≤ v
  · have d1 : decide (-1000000 ≤ v) = true := by simpa using h1
    by_cases h2 : v ≤ 1000000
    · rw [inV_yes h1 h2]
      go_enter Tryd.func18, Tryd.ntmps18
      go_wp2
      go_ret
      exact ⟨rfl, rfl⟩
    · have d2 : decide (v ≤ 1000000) = false := by simp; omega
      rw [inV_no (fun h => h2 h.2)]
      go_enter Tryd.func18, Tryd.ntmps18
      go_wp2
      go_ret
      exact ⟨rfl, rfl⟩
  · have d1 : decide (-1000000 ≤ v) = false := by simp; omega
    rw [inV_no (fun h => h1 h.1)]
    go_enter Tryd.func18, Tryd.ntmps18
    go_wp2
    go_ret
    exact ⟨rfl, rfl⟩

set_option maxRecDepth 100000 in
set_option maxHeartbeats 2000000 in
theorem refright_yes (s : Value) (l : List Rg) (w : World) (h : Sr w s l) (hR : Right l) (h0 : 0 < l.length) :
    Calls Tryd.prog 9 #[s] w fun e w' => e = .returned (.bool true) ∧ ∃ n, w' = w.drewN n := by
  obtain ⟨a, cap, rfl, hx⟩ := h
  obtain ⟨b, off, rfl, hlt, hcell⟩ := hx h0
  have hlen := hR.1
  have hok := hR.2
  obtain ⟨n, hn⟩ : ∃ n, l.length = n := ⟨_, rfl⟩
  rw [hn] at h0 hlen hcell hok ⊢
  have HOK : Hid (∀ i, i < n → OkAt l i) := hok
  have HC : Hid (∀ i, i < n → w.cell? ⟨b, off + i * 2, none⟩ = some (.int .i64 (lo l i)) ∧ w.cell? ⟨b, off + i * 2 + 1, none⟩ = some (.int .i64 (hi l i))) := hcell
  have hn' : ¬ (4096 < (n : Int)) := by omega
  clear hn hx hok hcell hR
  go_enter Tryd.func9, Tryd.ntmps9
  go_wp2
  go_loopw [3] (fun i wr => ∃ k : Nat, k ≤ n ∧ i = .int .i64 k ∧ ∃ m, wr = w.drewN m) (fun i _ => n - (intOf i).toNat)
  case atStart => exact ⟨0, Nat.zero_le _, rfl, 0, rfl⟩
  case round =>
    obtain ⟨k, hk, rfl, m, rfl⟩ := hrel
    by_cases hlt2 : k < n
    · obtain ⟨W2, hW2⟩ : ∃ W2, w.drewN m = W2 := ⟨_, rfl⟩
      have HW2 : Hid (w.drewN m = W2) := hW2
      have HC2 : Hid (∀ i, i < n → W2.cell? ⟨b, off + i * 2, none⟩ = some (.int .i64 (lo l i)) ∧ W2.cell? ⟨b, off + i * 2 + 1, none⟩ = some (.int .i64 (hi l i))) := by rw [← hW2]; exact HC.out
      rw [hW2]
      clear hW2
      obtain ⟨d1, d2⟩ := HC2.out k hlt2
      have ok := HOK.out k hlt2
      unfold OkAt at ok
      obtain ⟨x, hx⟩ : ∃ x, lo l k = x := ⟨_, rfl⟩
      obtain ⟨y, hy⟩ : ∃ y, hi l k = y := ⟨_, rfl⟩
      rw [hx] at d1 ok; rw [hy] at d2 ok
      obtain ⟨q1, q2, q3, q4⟩ := ok
      have hd1 : decide (y < x) = false := by simp; omega
      have hix : inV x = true := inV_yes q2 (by omega)
      have hiy : inV y = true := inV_yes (by omega) q3
      by_cases hk0 : 0 < k
      · obtain ⟨_, d3⟩ := HC2.out (k - 1) (by omega)
        have okp := HOK.out (k - 1) (by omega)
        unfold OkAt at okp
        obtain ⟨z, hz⟩ : ∃ z, hi l (k - 1) = z := ⟨_, rfl⟩
        have q5 := q4 hk0
        rw [hz] at d3 q5 okp
        obtain ⟨p1, p2, p3, _⟩ := okp
        have hd0 : decide (0 < k) = true := by simpa using hk0
        have hk1 : (k : Int) - 1 = ((k - 1 : Nat) : Int) := by omega
        have hd2 : decide (x ≤ z + 1) = false := by simp; omega
        have hz1 : -1000000 ≤ z := by omega
        clear hx hy hz q4 p1 p2
        go_wp2
        go_quiet ((go_at_call 18; exact Calls.quiet_of_same (in_any _ _)))
        go_wp2
        go_roundw
        case rel => exact ⟨k + 1, by omega, by go_num, _, by rw [← HW2.out, World.drewN_drewN]⟩
        case measure => simp [intOf]; omega
      · have hd0 : decide (0 < k) = false := by simp; omega
        clear hx hy q4
        go_wp2
        go_quiet ((go_at_call 18; exact Calls.quiet_of_same (in_any _ _)))
        go_wp2
        go_roundw
        case rel => exact ⟨k + 1, by omega, by go_num, _, by rw [← HW2.out, World.drewN_drewN]⟩
        case measure => simp [intOf]; omega
    · go_wp2
      go_ret
      exact ⟨rfl, _, rfl⟩
theorem own_sr {W : World} {base : Nat} {s : Value} {l : List Rg} (h : W.ownsRow base 34 2 s l.length (flat l)) (h0 : 0 < l.length) : Sr W s l := by
  obtain ⟨g, cap, rfl, _, hlt, hc⟩ := own_some h h0
  refine ⟨_, cap, rfl, fun _ => ⟨g, 0, rfl, hlt, fun i hi => ?_⟩⟩
  obtain ⟨d1, d2⟩ := flat_even l i hi
  exact ⟨by rw [Nat.zero_add]; exact hc _ _ d1, by rw [Nat.zero_add]; exact hc _ _ d2⟩
end Go.Proofs.YtopelhdepocoiaaDoor

