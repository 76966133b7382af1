/-
  What is proved here: what the reference's Count tells of any domain.
-/
import Derived.Test.YtacnhkaibcjjgaaGreatDoorUd
namespace Go.Proofs.YtacnhkaibcjjgaaGreatDoor
open Go.RowKit Go.Shelf
set_option linter.unusedVariables false
set_option linter.unusedSimpArgs false

theorem count_plain {d : SD} (h : emptyD d = false) : countD d = min (sm (fun i => ch (d.up.length - d.lo.length) ((d.least - (d.lo.length : Int)).toNat + i)) (d.most + 1 - d.least).toNat) 4611686018427387904 := by
  obtain ⟨hr, h1, h2, h3⟩ := empty_no h
  have hl := set_sub_len hr.2.2.1 hr.2.2.2.1 (right_sub hr)
  rw [count_right hr]
  unfold NSd
  generalize d.lo.length = n at *
  generalize d.up.length = m at *
  congr 1
  obtain ⟨b, hb⟩ : ∃ b, (d.least - (n : Int)).toNat = b := ⟨_, rfl⟩
  obtain ⟨j, hj⟩ : ∃ b, (d.most + 1 - d.least).toNat = b := ⟨_, rfl⟩
  rw [hb, hj]
  rw [← sm_mid (ch (m - n)) b j (b + j + (m - n + 1)) (by omega), ← NS_more (m - n) n d.least d.most (b + j + (m - n + 1)) (by omega)]
  apply sm_congr
  intro i _
  unfold nsf
  by_cases c : b ≤ i ∧ i < b + j
  · rw [if_pos c, if_pos (by omega)]
  · rw [if_neg c, if_neg (by omega)]
theorem count_empty {d : SD} (h : emptyD d = true) : countD d = 0 := by
  unfold countD
  rw [(empty_yes h).1]
  rfl

set_option maxRecDepth 100000 in
set_option maxHeartbeats 4000000 in
theorem refcount_any (v : Value) (d : SD) (W : World) (h : Di W v d) :
    Calls Tryz.prog 47 #[v] W fun e w' => e = .returned (.int .i64 (countD d)) ∧ Below W.heap.size W w' := by
  have k43 := fun X (hX : Below W.heap.size W X) => refempty_any v d X (h.below hX)
  obtain ⟨x0a, raa, rna, rca, a1a, n1a, c1a, a2a, n2a, c2a, x4a, x5a, rfl, HEa, HLOa, HUPa⟩ := h.look
  have HE : Hid (emptyD d = true → countD d = 0) := count_empty
  have HF : Hid (emptyD d = false → RightD d ∧ d.least ≤ d.most ∧ (d.lo.length : Int) ≤ d.least ∧ d.most ≤ d.up.length) := empty_no
  have HG : Hid (emptyD d = false → countD d = _) := count_plain
  rw [HEa.out.2.1, HEa.out.2.2.1, HEa.out.2.2.2.1, HEa.out.2.2.2.2.1] at HF HG
  have HU : Hid (emptyD d = false → n2a ≤ 64) := fun he => by rw [← HEa.out.2.2.1]; exact (empty_no he).1.2.2.2.1.1
  generalize countD d = CN at *
  generalize emptyD d = eb at *
  obtain ⟨w0, hW0⟩ : ∃ X, (W.alloc (Obj.cells #[.bool x0a, .slice raa rna rca, .slice a1a n1a c1a, .slice a2a n2a c2a, .int .i64 x4a, .int .i64 x5a] 37)) = X := ⟨_, rfl⟩
  have HW0 : Hid _ := hW0
  have hb0 : Below W.heap.size W w0 := by rw [← hW0]; exact ((Below.refl _ W).alloc (by simp <;> omega) _)
  have HA_0 : Hid (R6 w0 W.heap.size (.bool x0a) (.slice raa rna rca) (.slice a1a n1a c1a) (.slice a2a n2a c2a) (.int .i64 x4a) (.int .i64 x5a)) := by rw [← hW0]; exact (R6.new _ _ _ _ _ _ _)
  clear hW0
  clear h HLOa HUPa HEa
  go_enter Tryz.func47, Tryz.ntmps47
  go_upto_region 1 with (fail)
  rw [HW0.out]
  clear HW0
  obtain ⟨zA0, zA1, zA2, zA3, zA4, zA5⟩ := HA_0.out.cells
  go_wp2_with fail
  refine (k43 w0 hb0).mono ?_
  rintro e w1 ⟨rfl, hb⟩
  have hb1 : Below W.heap.size W w1 := hb0.trans (hb.mono hb0.size)
  have HA_1 : Hid _ := HA_0.out.below hb
  clear zA0 zA1 zA2 zA3 zA4 zA5
  clear hb hb0 HA_0
  obtain ⟨zA0, zA1, zA2, zA3, zA4, zA5⟩ := HA_1.out.cells
  cases eb
  · obtain ⟨_, f1, f2, f3⟩ := HF.out rfl
    have hu := HU.out rfl
    have HCN : Hid _ := HG.out rfl
    clear HE HF HG HU
    obtain ⟨r, hr⟩ : ∃ r, n2a - n1a = r := ⟨_, rfl⟩
    obtain ⟨b, hb'⟩ : ∃ b, (x4a - (n1a : Int)).toNat = b := ⟨_, rfl⟩
    obtain ⟨J, hJ⟩ : ∃ b, (x5a + 1 - x4a).toNat = b := ⟨_, rfl⟩
    rw [hr, hb', hJ] at HCN
    have g1 : (n2a : Int) - (n1a : Int) = (r : Int) := by omega
    have hr64 : r ≤ 64 := by omega
    have hbr : b + J ≤ r + 1 := by omega
    have hx4 : x4a = (n1a : Int) + b := by omega
    have hx5 : x5a = (n1a : Int) + b + J - 1 := by omega
    have hn1 : n1a ≤ 64 := by omega
    clear hr hb' hJ f1 f2 f3
    subst hx4 hx5
    go_wp2
    go_loopw [3, 4] (fun nn kk wr => ∃ j : Nat, j ≤ J ∧ kk = .int .i64 ((n1a : Int) + b + (j : Int)) ∧ nn = .int .i64 (sm (fun i => ch r (b + i)) j) ∧ Hid (sm (fun i => ch r (b + i)) j ≤ 4611686018427387904 ∧ Below w1.heap.size w1 wr)) (fun _ kk _ => ((n1a : Int) + b + J - intOf kk).toNat)
    case atStart => exact ⟨0, Nat.zero_le _, by simp, rfl, by simp [sm], Below.refl _ _⟩
    case round =>
      obtain ⟨j, hj, rfl, rfl, HP⟩ := hrel
      clear zA0 zA1 zA2 zA3 zA4 zA5
      obtain ⟨z0, z1, z2, z3, z4, z5⟩ := (HA_1.out.below HP.out.2).cells
      by_cases hlt : j < J
      · have hlt' : (n1a : Int) + b + (j : Int) ≤ (n1a : Int) + b + J - 1 := by omega
        have g2 : (n1a : Int) + b + (j : Int) - (n1a : Int) = ((b + j : Nat) : Int) := by omega
        have k80 := choose_any r (b + j) hr64 (by omega) wr
        have c1 := ch_nonneg r (b + j)
        have c2 := ch_lt r (b + j) hr64
        have HS : Hid (sm (fun i => ch r (b + i)) (j + 1) = sm (fun i => ch r (b + i)) j + ch r (b + j)) := rfl
        have s0 : 0 ≤ sm (fun i => ch r (b + i)) j := sm_nonneg _ fun i _ => ch_nonneg _ _
        have s1 := HP.out.1
        have HMO : Hid (sm (fun i => ch r (b + i)) (j + 1) ≤ sm (fun i => ch r (b + i)) J) := by
          have := sm_mono (f := fun i => ch r (b + i)) (fun i => ch_nonneg _ _) (j + 1) (J - (j + 1))
          rw [show j + 1 + (J - (j + 1)) = J by omega] at this
          exact this
        have HB' : Hid _ := HP.out.2
        clear HP
        generalize sm (fun i => ch r (b + i)) J = ST at *
        obtain ⟨S2, hS2e⟩ : ∃ x, sm (fun i => ch r (b + i)) (j + 1) = x := ⟨_, rfl⟩
        have HS9 : Hid (sm (fun i => ch r (b + i)) (j + 1) = S2) := hS2e
        rw [hS2e] at HS HMO
        clear hS2e
        generalize sm (fun i => ch r (b + i)) j = S1 at *
        generalize ch r (b + j) = c at *
        have hw : IntKind.i64.wrap (S1 + c) = S2 := by rw [HS.out, IntKind.wrap_i64]; omega
        have hS2 : 0 ≤ S2 := by rw [HS.out]; omega
        by_cases hov : 4611686018427387904 < S2
        · have q1 : decide (4611686018427387904 < S2) = true := by simpa using hov
          have HCE : Hid (CN = 4611686018427387904) := by unfold Hid; have := HCN.out; have := HMO.out; omega
          go_wp2_with fail
          refine k80.mono ?_
          rintro e w3 ⟨rfl, hb⟩
          have hB3 : Below w1.heap.size w1 w3 := HB'.out.trans (hb.mono HB'.out.size)
          have hB4 : Below W.heap.size W w3 := hb1.trans (hB3.mono hb1.size)
          go_wp2
          go_ret
          exact ⟨by first | (rw [HCE.out]; done) | (rw [HCE.out]; rfl), hB4⟩
        · have q1 : decide (4611686018427387904 < S2) = false := by simpa using hov
          have q2 : decide (S2 < 0) = false := by simp; omega
          go_wp2_with fail
          refine k80.mono ?_
          rintro e w3 ⟨rfl, hb⟩
          have hB3 : Below w1.heap.size w1 w3 := HB'.out.trans (hb.mono HB'.out.size)
          go_wp2
          go_roundw
          case rel => exact ⟨j + 1, by omega, by go_num, by first | (rw [HS9.out]; done) | (rw [HS9.out]; rfl), by rw [HS9.out]; omega, hB3⟩
          case measure => simp [intOf]; omega
      · obtain rfl : j = J := by omega
        have hlt' : ¬ (n1a : Int) + b + (j : Int) ≤ (n1a : Int) + b + j - 1 := by omega
        have HCE : Hid (CN = sm (fun i => ch r (b + i)) j) := by unfold Hid; have := HCN.out; have := HP.out.1; omega
        have hB4 : Below W.heap.size W wr := hb1.trans (HP.out.2.mono hb1.size)
        go_wp2
        go_ret
        exact ⟨by first | (rw [HCE.out]; done) | (rw [HCE.out]; rfl), hB4⟩
  · have hz := HE.out rfl
    subst hz
    go_wp2
    go_ret
    exact ⟨rfl, hb1⟩
end Go.Proofs.YtacnhkaibcjjgaaGreatDoor
