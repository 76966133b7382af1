/-
  What is proved here: jigsawlaw01.IntsMeets returns true at all pairs of 64-bit numbers and writes nothing that was there; no condition.
-/
import Derived.Test.YtfgpedleiajgeaaWi
namespace Go.Proofs.Ytfgpedleiajgeaa
open Go.RowKit

/-- Quotient and remainder give the number back; the product of quotient and divisor fits. -/
theorem meets_mul {a b : Int} (ha : Fits a) (h : de a b = 0) : Fits (dv a b * b) ∧ dv a b * b + mv a b = a ∧ me b = 0 := by
  have h0 : b ≠ 0 := fun h' => by rw [de_0 h'] at h; omega
  have hd : dv a b = a.tdiv b := by rw [dv_1 h0]; rw [de_1 h0] at h; exact ov_yes (oe_zero.1 h)
  have hm : mv a b = a.tmod b := if_neg h0
  have e : b * a.tdiv b + a.tmod b = a := Int.mul_tdiv_add_tmod a b
  have ec : a.tdiv b * b = b * a.tdiv b := Int.mul_comm _ _
  refine ⟨?_, by rw [hd, hm, ec]; exact e, if_neg h0⟩
  rw [hd, ec]
  by_cases hn : 0 ≤ a
  · have := Int.tmod_nonneg (a := a) b hn
    have k : 0 ≤ b * a.tdiv b := by
      have hmul : (b * a.tdiv b) = a - a.tmod b := by omega
      have : a.tmod b ≤ a := by
        have e2 : (a.tmod b).natAbs = a.natAbs % b.natAbs := Int.natAbs_tmod a b
        have l : a.natAbs % b.natAbs ≤ a.natAbs := Nat.mod_le _ _
        omega
      omega
    unfold Fits at *; omega
  · have h1 := Int.tmod_nonneg (a := -a) b (by omega)
    rw [Int.neg_tmod] at h1
    have l2 : a ≤ a.tmod b := by
      have e2 : (a.tmod b).natAbs = a.natAbs % b.natAbs := Int.natAbs_tmod a b
      have l : a.natAbs % b.natAbs ≤ a.natAbs := Nat.mod_le _ _
      omega
    unfold Fits at *; omega
/-- Down, towards 0 and up are in order. -/
theorem meets_order {a b : Int} (ha : Fits a) (h : de a b = 0) : ¬ dv a b < fv a b ∧ ¬ cv a b < dv a b ∧ ¬ 1 < wrap64 (cv a b - fv a b) ∧ (!(cv a b == fv a b) == (mv a b == 0)) = false := by
  have h0 : b ≠ 0 := fun h' => by rw [de_0 h'] at h; omega
  have hm : mv a b = a.tmod b := if_neg h0
  rw [hm]
  by_cases hz : a.tmod b = 0
  · rw [fv_no (.inr (.inl hz)), cv_no (.inr (.inl hz)), hz]
    refine ⟨by omega, by omega, ?_, by simp⟩
    rw [Int.sub_self]; unfold wrap64; omega
  · have hn := dv_near ha h0 hz
    have hz' : (a.tmod b == 0) = false := by simp [hz]
    rw [hz']
    by_cases hs : a < 0 ↔ b < 0
    · rw [fv_no (.inr (.inr hs)), cv_yes h0 hz hs]
      refine ⟨by omega, by omega, ?_, by simp; omega⟩
      rw [show dv a b + 1 - dv a b = 1 from by omega]; unfold wrap64; omega
    · rw [fv_yes h0 hz hs, cv_no (.inr (.inr hs))]
      refine ⟨by omega, by omega, ?_, by simp; omega⟩
      rw [show dv a b - (dv a b - 1) = 1 from by omega]; unfold wrap64; omega

theorem below3 {a b c d : World} (h1 : Below a.heap.size a b) (h2 : Below b.heap.size b c) (h3 : Below c.heap.size c d) : Below a.heap.size a d :=
  (h1.trans (h2.mono h1.size)).trans (h3.mono (Nat.le_trans h1.size h2.size))
theorem below2 {a b c : World} (h1 : Below a.heap.size a b) (h2 : Below b.heap.size b c) : Below a.heap.size a c := h1.trans (h2.mono h1.size)

set_option maxRecDepth 100000 in
set_option maxHeartbeats 4000000 in
theorem meets_ok (a b : Int) (w : World) (ha : Fits a) (hb : Fits b) (hd : de a b = 0) :
    Calls Try.prog 6 #[.int .i64 a, .int .i64 b] w fun e w' => e = .returned (.bool true) ∧ Below w.heap.size w w' := by
  have c1 := div_any a b w ha
  have c2 := mod_any a b w ha
  have c3 := floor_any a b w ha
  have c4 := ceil_any a b w ha
  obtain ⟨m1, m2, m3⟩ := meets_mul ha hd
  obtain ⟨g1, g2, g3, g4⟩ := meets_order ha hd
  have fm : Fits (mv a b) := by
    have h0 : b ≠ 0 := fun h' => by rw [de_0 h'] at hd; omega
    rw [show mv a b = a.tmod b from if_neg h0]; exact tmod_fits ha
  have c5 := mul_any (dv a b) b w (dv_fits a b) hb
  have c6 := fun w => add_any (dv a b * b) (mv a b) w m1 fm
  rw [hd] at c1 c3 c4
  rw [m3] at c2
  rw [ov_yes m1, oe_yes m1] at c5
  rw [m2, ov_yes ha, oe_yes ha] at c6
  have C6 : Hid (∀ w, _) := c6
  clear c6 hd m1 m2 m3 fm hb
  generalize dv a b = Q at *
  generalize mv a b = M at *
  generalize fv a b = LO at *
  generalize cv a b = HI at *
  generalize Q * b = P at *
  by_cases hn : a < 0
  · go_enter Try.func6, Try.ntmps6
    go_wp2_with fail
    refine c1.mono ?_
    rintro e w' ⟨rfl, rfl⟩
    go_wp2_with fail
    refine c2.mono ?_
    rintro e w' ⟨rfl, rfl⟩
    go_wp2_with fail
    refine c3.mono ?_
    rintro e w' ⟨rfl, rfl⟩
    go_wp2_with fail
    refine c4.mono ?_
    rintro e w' ⟨rfl, rfl⟩
    go_wp2_with fail
    refine c5.mono ?_
    rintro e w1 ⟨rfl, k1⟩
    go_wp2_with fail
    refine (C6.out w1).mono ?_
    rintro e w' ⟨rfl, rfl⟩
    go_wp2_with fail
    refine (root_neg a _ hn).mono ?_
    rintro e w' ⟨rfl, rfl⟩
    go_wp2_with fail
    refine (known_any _).mono ?_
    rintro e w9 ⟨rfl, k9⟩
    go_wp2
    go_ret
    exact ⟨rfl, below2 k1 k9⟩
  · obtain ⟨n, rfl⟩ := Int.eq_ofNat_of_zero_le (show 0 ≤ a by omega)
    have c7 := fun w => root_any n w (by unfold Fits at ha; omega)
    have C7 : Hid (∀ w, _) := c7
    clear c7
    go_enter Try.func6, Try.ntmps6
    go_wp2_with fail
    refine c1.mono ?_
    rintro e w' ⟨rfl, rfl⟩
    go_wp2_with fail
    refine c2.mono ?_
    rintro e w' ⟨rfl, rfl⟩
    go_wp2_with fail
    refine c3.mono ?_
    rintro e w' ⟨rfl, rfl⟩
    go_wp2_with fail
    refine c4.mono ?_
    rintro e w' ⟨rfl, rfl⟩
    go_wp2_with fail
    refine c5.mono ?_
    rintro e w1 ⟨rfl, k1⟩
    go_wp2_with fail
    refine (C6.out w1).mono ?_
    rintro e w' ⟨rfl, rfl⟩
    go_wp2_with fail
    refine (C7.out _).mono ?_
    rintro e w' ⟨⟨r, rfl, hr1, hr2⟩, rfl⟩
    have hrs : r < 4294967296 := by
      apply Classical.byContradiction; intro hx
      have : 4294967296 * 4294967296 ≤ r * r := Nat.mul_le_mul (by omega) (by omega)
      unfold Fits at ha; omega
    have er : (r : Int) * (r : Int) = ((r * r : Nat) : Int) := by simp
    have fr : Fits (r : Int) := by unfold Fits; omega
    have fr1 : Fits ((r : Int) + 1) := by unfold Fits; omega
    have frr : Fits ((r : Int) * (r : Int)) := by rw [er]; unfold Fits at *; omega
    have es : ((r : Int) + 1) * ((r : Int) + 1) = (((r + 1) * (r + 1) : Nat) : Int) := by simp
    have d1 := fun w => mul_any (r : Int) (r : Int) w fr fr
    have d2 := fun w => mul_any ((r : Int) + 1) ((r : Int) + 1) w fr1 fr1
    rw [ov_yes frr, oe_yes frr, er] at d1
    have D1 : Hid (∀ w, _) := d1
    obtain ⟨R, hR⟩ : ∃ R, r * r = R := ⟨_, rfl⟩
    obtain ⟨S, hS⟩ : ∃ S, (r + 1) * (r + 1) = S := ⟨_, rfl⟩
    rw [hR] at D1 hr1
    rw [hS] at es hr2
    have ES : Hid (((r : Int) + 1) * ((r : Int) + 1) = (S : Int)) := es
    clear hR hS er es frr d1 ha
    by_cases hf : Fits (S : Int)
    · rw [ES.out, ov_yes hf, oe_yes hf] at d2
      have D2 : Hid (∀ w, _) := d2
      clear d2
      go_wp2_with fail
      refine (D1.out _).mono ?_
      rintro e w2 ⟨rfl, k2⟩
      go_wp2_with fail
      refine (D2.out _).mono ?_
      rintro e w3 ⟨rfl, k3⟩
      go_wp2_with fail
      refine (known_any _).mono ?_
      rintro e w9 ⟨rfl, k9⟩
      go_wp2
      go_ret
      exact ⟨rfl, below2 k1 (below3 k2 k3 k9)⟩
    · rw [ES.out, ov_no hf, oe_no hf] at d2
      have D2 : Hid (∀ w, _) := d2
      clear d2
      go_wp2_with fail
      refine (D1.out _).mono ?_
      rintro e w2 ⟨rfl, k2⟩
      go_wp2_with fail
      refine (D2.out _).mono ?_
      rintro e w3 ⟨rfl, k3⟩
      go_wp2_with fail
      refine (known_any _).mono ?_
      rintro e w9 ⟨rfl, k9⟩
      go_wp2
      go_ret
      exact ⟨rfl, below2 k1 (below3 k2 k3 k9)⟩

set_option maxRecDepth 100000 in
set_option maxHeartbeats 4000000 in
theorem meets_bad (a b : Int) (w : World) (ha : Fits a) (hd : de a b ≠ 0) :
    Calls Try.prog 6 #[.int .i64 a, .int .i64 b] w fun e w' => e = .returned (.bool true) ∧ Below w.heap.size w w' := by
  have c1 := div_any a b w ha
  have c2 := mod_any a b w ha
  have c3 := floor_any a b w ha
  have c4 := ceil_any a b w ha
  have g0 : (de a b == 0) = false := by simp [hd]
  clear hd
  generalize dv a b = Q at *
  generalize mv a b = M at *
  generalize fv a b = LO at *
  generalize cv a b = HI at *
  generalize de a b = E at *
  generalize me b = E2 at *
  by_cases hn : a < 0
  · go_enter Try.func6, Try.ntmps6
    go_wp2_with fail
    refine c1.mono ?_
    rintro e w' ⟨rfl, rfl⟩
    go_wp2_with fail
    refine c2.mono ?_
    rintro e w' ⟨rfl, rfl⟩
    go_wp2_with fail
    refine c3.mono ?_
    rintro e w' ⟨rfl, rfl⟩
    go_wp2_with fail
    refine c4.mono ?_
    rintro e w' ⟨rfl, rfl⟩
    go_wp2_with fail
    refine (root_neg a _ hn).mono ?_
    rintro e w' ⟨rfl, rfl⟩
    go_wp2_with fail
    refine (known_any _).mono ?_
    rintro e w9 ⟨rfl, k9⟩
    go_wp2
    go_ret
    exact ⟨rfl, k9⟩
  · obtain ⟨n, rfl⟩ := Int.eq_ofNat_of_zero_le (show 0 ≤ a by omega)
    have c7 := fun w => root_any n w (by unfold Fits at ha; omega)
    have C7 : Hid (∀ w, _) := c7
    clear c7
    go_enter Try.func6, Try.ntmps6
    go_wp2_with fail
    refine c1.mono ?_
    rintro e w' ⟨rfl, rfl⟩
    go_wp2_with fail
    refine c2.mono ?_
    rintro e w' ⟨rfl, rfl⟩
    go_wp2_with fail
    refine c3.mono ?_
    rintro e w' ⟨rfl, rfl⟩
    go_wp2_with fail
    refine c4.mono ?_
    rintro e w' ⟨rfl, rfl⟩
    go_wp2_with fail
    refine (C7.out _).mono ?_
    rintro e w' ⟨⟨r, rfl, hr1, hr2⟩, rfl⟩
    have hrs : r < 4294967296 := by
      apply Classical.byContradiction; intro hx
      have : 4294967296 * 4294967296 ≤ r * r := Nat.mul_le_mul (by omega) (by omega)
      unfold Fits at ha; omega
    have er : (r : Int) * (r : Int) = ((r * r : Nat) : Int) := by simp
    have fr : Fits (r : Int) := by unfold Fits; omega
    have fr1 : Fits ((r : Int) + 1) := by unfold Fits; omega
    have frr : Fits ((r : Int) * (r : Int)) := by rw [er]; unfold Fits at *; omega
    have es : ((r : Int) + 1) * ((r : Int) + 1) = (((r + 1) * (r + 1) : Nat) : Int) := by simp
    have d1 := fun w => mul_any (r : Int) (r : Int) w fr fr
    have d2 := fun w => mul_any ((r : Int) + 1) ((r : Int) + 1) w fr1 fr1
    rw [ov_yes frr, oe_yes frr, er] at d1
    have D1 : Hid (∀ w, _) := d1
    obtain ⟨R, hR⟩ : ∃ R, r * r = R := ⟨_, rfl⟩
    obtain ⟨S, hS⟩ : ∃ S, (r + 1) * (r + 1) = S := ⟨_, rfl⟩
    rw [hR] at D1 hr1
    rw [hS] at es hr2
    have ES : Hid (((r : Int) + 1) * ((r : Int) + 1) = (S : Int)) := es
    clear hR hS er es frr d1 ha
    by_cases hf : Fits (S : Int)
    · rw [ES.out, ov_yes hf, oe_yes hf] at d2
      have D2 : Hid (∀ w, _) := d2
      clear d2
      go_wp2_with fail
      refine (D1.out _).mono ?_
      rintro e w2 ⟨rfl, k2⟩
      go_wp2_with fail
      refine (D2.out _).mono ?_
      rintro e w3 ⟨rfl, k3⟩
      go_wp2_with fail
      refine (known_any _).mono ?_
      rintro e w9 ⟨rfl, k9⟩
      go_wp2
      go_ret
      exact ⟨rfl, below3 k2 k3 k9⟩
    · rw [ES.out, ov_no hf, oe_no hf] at d2
      have D2 : Hid (∀ w, _) := d2
      clear d2
      go_wp2_with fail
      refine (D1.out _).mono ?_
      rintro e w2 ⟨rfl, k2⟩
      go_wp2_with fail
      refine (D2.out _).mono ?_
      rintro e w3 ⟨rfl, k3⟩
      go_wp2_with fail
      refine (known_any _).mono ?_
      rintro e w9 ⟨rfl, k9⟩
      go_wp2
      go_ret
      exact ⟨rfl, below3 k2 k3 k9⟩

theorem meets_walk (a b : Int) (w : World) (ha : Fits a) (hb : Fits b) :
    Calls Try.prog 6 #[.int .i64 a, .int .i64 b] w fun e w' => e = .returned (.bool true) ∧ Below w.heap.size w w' := by
  by_cases hd : de a b = 0
  · exact meets_ok a b w ha hb hd
  · exact meets_bad a b w ha hd
end Go.Proofs.Ytfgpedleiajgeaa
