/-
  What is proved here: what the reference's Pow returns, at all numbers of 64 bits.
-/
import Derived.Test.YtfgpedleiajgeaaBk
import Derived.Test.YtfgpedleiajgeaaWi
namespace Go.Proofs.Ytfgpedleiajgeaa
open Go.RowKit

theorem natAbs_rp {a : Int} (ha : Fits a) (i : Nat) : -rp (3 * i) ≤ a ^ i ∧ a ^ i ≤ rp (3 * i) := by
  induction i with
  | zero => simp [rp_zero]
  | succ i ih =>
    have e : rp (3 * (i + 1)) = rp (3 * i) * rp 3 := by rw [← rp_add]; rfl
    rw [e, Int.pow_succ]
    have h3 : (a ^ i).natAbs ≤ (rp (3 * i)).natAbs := by omega
    have h4 : a.natAbs ≤ (rp 3).natAbs := by rw [rp3]; unfold Fits at ha; omega
    have h5 : (a ^ i * a).natAbs ≤ (rp (3 * i) * rp 3).natAbs := by
      rw [Int.natAbs_mul, Int.natAbs_mul]; exact Nat.mul_le_mul h3 h4
    have h6 : 0 < rp (3 * i) * rp 3 := Int.mul_pos (rp_pos _) (rp_pos _)
    omega
theorem pow_rp {a : Int} (ha : Fits a) {i : Nat} (hi : i ≤ 64) : -rp 200 < a ^ i ∧ a ^ i < rp 200 := by
  have h1 := natAbs_rp ha i
  have h2 := rp_mono (show 3 * i ≤ 199 by omega)
  have h3 : rp 200 = 1073741824 * rp 199 := rp_succ 199
  have h4 := rp_pos 199
  omega
theorem pow_big {a : Int} (h2 : 2 ≤ a.natAbs) {b : Nat} (hb : 64 < b) : ¬ Fits (a ^ b) := by
  have h : ¬ Fits (a ^ 64) := by
    intro hf
    have e : (a ^ 64).natAbs = a.natAbs ^ 64 := Int.natAbs_pow a 64
    have l : 2 ^ 64 ≤ a.natAbs ^ 64 := Nat.pow_le_pow_left h2 64
    have k : (2 : Nat) ^ 64 = 18446744073709551616 := by decide
    unfold Fits at hf; omega
  exact fits_pow_no h (by omega)
theorem pow_m1 (b : Nat) : (-1 : Int) ^ b = if b % 2 = 0 then 1 else -1 := by
  induction b with
  | zero => rfl
  | succ b ih =>
    rw [Int.pow_succ, ih]
    by_cases h : b % 2 = 0
    · rw [if_pos h, if_neg (by omega)]; rfl
    · rw [if_neg h, if_pos (by omega)]; rfl

set_option maxRecDepth 100000 in
set_option maxHeartbeats 2000000 in
theorem rpow_loop (a : Int) (m : Nat) (w : World) (ha : Fits a) (h2 : 2 ≤ a.natAbs) (hm : m ≤ 64) (hm0 : 0 < m) :
    Calls Try.prog 16 #[.int .i64 a, .int .i64 (m : Int)] w fun e w' => e = .returned (.tuple #[.int .i64 (ov (a ^ m)), .int .i64 (oe (a ^ m))]) ∧ Below w.heap.size w w' := by
  have g0 : ((m : Int) == 0) = false := by simp; omega
  have g1 : (a == 0) = false := by simp; omega
  have g2 : (a == 1) = false := by simp; omega
  have g3 : (a == -1) = false := by simp; omega
  have g4 : ¬ (64 : Int) < (m : Int) := by omega
  have hof := fun w => of_any a w ha
  have HOF : Hid (∀ w, _) := hof
  clear hof
  go_enter Try.func16, Try.ntmps16
  go_wp2_with fail
  refine (of_any 1 _ (by unfold Fits; omega)).mono ?_
  rintro e w1 ⟨v1, rfl, b1, k1⟩
  obtain ⟨m1, a3, n3, c3, rfl⟩ := b1.form
  obtain ⟨X, hX⟩ : ∃ X, w1.heap.size = X := ⟨_, rfl⟩
  have hwX : w.heap.size ≤ X := by have := k1.size; omega
  go_wp2
  go_loopw [7] (fun ii wr => ∃ (i : Nat) (mx : Bool) (ax : Option Addr) (nx cx : Nat), ii = .int .i64 (i : Int) ∧ i ≤ m ∧ Two wr X 35 (.bool mx) (.slice ax nx cx) ∧ IsBig wr (.agg #[.bool mx, .slice ax nx cx]) (a ^ i) ∧ Below w.heap.size w wr)
    (fun ii _ => 100 - (intOf ii).toNat)
  case atStart =>
    refine ⟨0, m1, a3, n3, c3, rfl, Nat.zero_le _, hX ▸ Two.new w1 35 _ _, ?_, k1.trans (((Below.refl _ w1).alloc (Nat.le_refl _) _).mono k1.size)⟩
    rw [Int.pow_zero]; exact b1.below ((Below.refl _ w1).alloc (Nat.le_refl _) _)
  case round =>
    obtain ⟨i, mx, ax, nx, cx, rfl, hi, hT, hbig, hB⟩ := hrel
    have c0 := hT.cell0; have c1 := hT.cell1
    by_cases hlt : i < m
    · have hr := pow_rp ha (show i ≤ 64 by omega)
      have hra : -rp 200 < a ∧ a < rp 200 := by have := pow_rp ha (show 1 ≤ 64 by omega); rwa [Int.pow_one] at this
      have Hr : Hid (_ ∧ _) := hr
      have Hra : Hid (_ ∧ _) := hra
      have hps : a ^ (i + 1) = a ^ i * a := Int.pow_succ a i
      have HPS : Hid (a ^ (i + 1) = a ^ i * a) := hps
      clear hr hra hps
      go_wp2
      go_region_with (first | (go_at_call 38; refine (HOF.out _).mono ?_; rintro e w3 ⟨v3, rfl, g3, k3'⟩; have k3 := below_undrew k3'; have hT3 := hT.below k3 hT.lt; have d0 := hT3.cell0; have d1 := hT3.cell1) | (go_at_call 41; refine (times_any 200 (by decide) _ v3 (a ^ i) a _ ?_ ?_ Hr.out Hra.out).mono ?_; exact hbig.below k3; exact g3; rintro e w4 ⟨v4, rfl, g4, k4⟩; obtain ⟨m4, a4, n4, c4, rfl⟩ := g4.form; have hT4 := hT3.below k4 hT3.lt; have s0 := hT4.frozen0; have s1 := hT4.frozen1; have s2 := hT4.cell0; have s3 := hT4.cell1))
      all_goals
        go_wp2
        go_roundw
        case rel => exact ⟨i + 1, m4, a4, n4, c4, by go_num, by omega, (hT4.set0 _).set1 _, by rw [HPS.out]; exact g4.copied hT4, ((hB.trans ((below2 k3 k4).mono hB.size)).setCell (by simp; omega) _).setCell (by simp; omega) _⟩
        case measure => simp [intOf]; omega
    · have him : i = m := by omega
      subst him
      go_wp2_with fail
      refine (back_any _ _ _ hbig).mono ?_
      rintro e w5 ⟨rfl, k5⟩
      go_wp2
      go_ret2
      exact ⟨rfl, hB.trans (k5.mono hB.size)⟩

set_option maxHeartbeats 1000000 in
theorem rpow_any (a b : Int) (w : World) (ha : Fits a) (hb : Fits b) :
    Calls Try.prog 16 #[.int .i64 a, .int .i64 b] w fun e w' => e = .returned (.tuple #[.int .i64 (pv a b), .int .i64 (pe a b)]) ∧ Below w.heap.size w w' := by
  have f1 : Fits 1 := by unfold Fits; omega
  have fm : Fits (-1) := by unfold Fits; omega
  by_cases b0 : b = 0
  · have e1 : pv a b = 1 := by unfold pv; rw [b0, if_pos (by omega)]; show ov (a ^ 0) = 1; rw [Int.pow_zero]; exact ov_yes f1
    have e2 : pe a b = 0 := by unfold pe; rw [b0, if_pos (by omega)]; show oe (a ^ 0) = 0; rw [Int.pow_zero]; exact oe_yes f1
    rw [e1, e2]
    have g0 : (b == 0) = true := by simp [b0]
    clear b0 e1 e2 ha hb
    go_enter Try.func16, Try.ntmps16
    go_wp2
    go_ret2
    exact ⟨rfl, Below.refl _ _⟩
  · have g0 : (b == 0) = false := by simp [b0]
    by_cases a0 : a = 0
    · have g1 : (a == 0) = true := by simp [a0]
      by_cases bn : b < 0
      · have e1 : pv a b = 0 := by unfold pv; rw [if_neg (by omega), if_neg (by omega), if_neg (by omega)]
        have e2 : pe a b = 11 := by unfold pe; rw [if_neg (by omega), if_pos a0]
        rw [e1, e2]
        clear a0 e1 e2 ha hb b0
        go_enter Try.func16, Try.ntmps16
        go_wp2
        go_ret2
        exact ⟨rfl, Below.refl _ _⟩
      · have hz : a ^ b.toNat = 0 := by
          obtain ⟨k, hk⟩ : ∃ k, b.toNat = k + 1 := ⟨b.toNat - 1, by omega⟩
          rw [hk, a0, Int.pow_succ, Int.mul_zero]
        have e1 : pv a b = 0 := by unfold pv; rw [if_pos (by omega), hz]; exact ov_yes fits0
        have e2 : pe a b = 0 := by unfold pe; rw [if_pos (by omega), hz]; exact oe_yes fits0
        rw [e1, e2]
        clear a0 e1 e2 ha hb b0 hz
        go_enter Try.func16, Try.ntmps16
        go_wp2
        go_ret2
        exact ⟨rfl, Below.refl _ _⟩
    · have g1 : (a == 0) = false := by simp [a0]
      by_cases a1 : a = 1
      · have g2 : (a == 1) = true := by simp [a1]
        have g3 : (a == -1) = false := by simp; omega
        have e1 : pv a b = 1 := by
          unfold pv; rw [a1]
          by_cases bn : 0 ≤ b
          · rw [if_pos bn, Int.one_pow]; exact ov_yes f1
          · rw [if_neg bn, if_pos rfl]
        have e2 : pe a b = 0 := by
          unfold pe; rw [a1]
          by_cases bn : 0 ≤ b
          · rw [if_pos bn, Int.one_pow]; exact oe_yes f1
          · rw [if_neg bn, if_neg (by omega)]
        rw [e1, e2]
        clear a1 a0 e1 e2 ha hb b0
        go_enter Try.func16, Try.ntmps16
        go_wp2
        go_ret2
        exact ⟨rfl, Below.refl _ _⟩
      · have g2 : (a == 1) = false := by simp [a1]
        by_cases am : a = -1
        · have g3 : (a == -1) = true := by simp [am]
          have ht : b.tmod 2 = 0 ↔ b % 2 = 0 := by
            rw [Int.tmod_eq_emod]; split <;> omega
          have e2 : pe a b = 0 := by
            unfold pe; rw [am]
            by_cases bn : 0 ≤ b
            · rw [if_pos bn, pow_m1]; split
              · exact oe_yes f1
              · exact oe_yes fm
            · rw [if_neg bn, if_neg (by omega)]
          rw [e2]
          by_cases hp : b % 2 = 0
          · have e1 : pv a b = 1 := by
              unfold pv; rw [am]
              by_cases bn : 0 ≤ b
              · rw [if_pos bn, pow_m1, if_pos (by omega)]; exact ov_yes f1
              · rw [if_neg bn, if_neg (by omega), if_pos rfl]; omega
            have g4 : (b.tmod 2 != 0) = false := by simp [ht.2 hp]
            rw [e1]
            clear am a1 a0 e1 e2 ha hb b0 ht hp
            go_enter Try.func16, Try.ntmps16
            go_wp2
            go_ret2
            exact ⟨rfl, Below.refl _ _⟩
          · have e1 : pv a b = -1 := by
              unfold pv; rw [am]
              by_cases bn : 0 ≤ b
              · rw [if_pos bn, pow_m1, if_neg (by omega)]; exact ov_yes fm
              · rw [if_neg bn, if_neg (by omega), if_pos rfl]; omega
            have g4 : (b.tmod 2 != 0) = true := by simp; omega
            rw [e1]
            clear am a1 a0 e1 e2 ha hb b0 ht hp
            go_enter Try.func16, Try.ntmps16
            go_wp2
            go_ret2
            exact ⟨rfl, Below.refl _ _⟩
        · have g3 : (a == -1) = false := by simp [am]
          by_cases bn : b < 0
          · have e1 : pv a b = 0 := by unfold pv; rw [if_neg (by omega), if_neg a1, if_neg am]
            have e2 : pe a b = 0 := by unfold pe; rw [if_neg (by omega), if_neg a0]
            rw [e1, e2]
            clear am a1 a0 e1 e2 ha hb b0
            go_enter Try.func16, Try.ntmps16
            go_wp2
            go_ret2
            exact ⟨rfl, Below.refl _ _⟩
          · obtain ⟨m, rfl⟩ := Int.eq_ofNat_of_zero_le (show 0 ≤ b by omega)
            have e1 : pv a (m : Int) = ov (a ^ m) := by unfold pv; rw [if_pos (by omega), Int.toNat_natCast]
            have e2 : pe a (m : Int) = oe (a ^ m) := by unfold pe; rw [if_pos (by omega), Int.toNat_natCast]
            rw [e1, e2]
            by_cases hm : m ≤ 64
            · exact rpow_loop a m w ha (by omega) hm (by omega)
            · have hf := pow_big (a := a) (b := m) (by omega) (by omega)
              rw [ov_no hf, oe_no hf]
              have g5 : (64 : Int) < (m : Int) := by omega
              clear am a1 a0 e1 e2 ha hb b0 hf
              go_enter Try.func16, Try.ntmps16
              go_wp2
              go_ret2
              exact ⟨rfl, Below.refl _ _⟩
end Go.Proofs.Ytfgpedleiajgeaa
