/-
  What is proved here: what the reference's Same and Kept tell of slices with the same numbers, and what the reference's Root returns.
-/
import Derived.Test.YtfgpedleiajgeaaDa
namespace Go.Proofs.Ytfgpedleiajgeaa
open Go.RowKit

set_option maxHeartbeats 400000 in
theorem same_any (s1 s2 : Value) (ds : List Int) (w : World) (h1 : Sl w s1 ds) (h2 : Sl w s2 ds) (hr : ds.length * 8 ≤ 140737488351232) :
    Calls Try.prog 44 #[s1, s2] w fun e w' => e = .returned (.bool true) ∧ ∃ nq, w' = w.drewN nq := by
  obtain ⟨a1, c1, rfl, hc1⟩ := h1
  obtain ⟨a2, c2, rfl, hc2⟩ := h2
  go_enter Try.func44, Try.ntmps44
  go_wp2
  go_loopw [5] (fun i wr => ∃ k : Nat, k ≤ ds.length ∧ i = .int .i64 (k : Int) ∧ ∃ nq, wr = w.drewN nq) (fun i _ => ds.length - (intOf i).toNat)
  case atStart => exact ⟨0, Nat.zero_le _, rfl, 0, rfl⟩
  case round =>
    obtain ⟨k, hk, rfl, nq0, rfl⟩ := hrel
    by_cases hlt : k < ds.length
    · obtain ⟨b1, o1, rfl, _, hcell1⟩ := hc1 (by omega)
      obtain ⟨b2, o2, rfl, _, hcell2⟩ := hc2 (by omega)
      have x1 := hcell1 k hlt
      have x2 := hcell2 k hlt
      have kk : (k : Int) < (ds.length : Int) := by omega
      clear hcell1 hcell2 hc1 hc2
      generalize ds[k]?.getD 0 = x at *
      go_wp2
      go_quiet (fail)
      go_wp2
      go_roundw
      case rel => exact ⟨k + 1, by omega, by go_num, _, rfl⟩
      case measure => simp [intOf]; omega
    · go_wp2
      go_ret
      exact ⟨rfl, _, rfl⟩

set_option maxRecDepth 100000 in
set_option maxHeartbeats 400000 in
theorem kept_any (g c : Nat) (s2 : Value) (ds : List Int) (w : World) (h1 : Row w 0 (.slice (some ⟨g, 0, none⟩) (ds.length + 1) c) (ds ++ [7777])) (hc : ds.length + 1 ≤ c) (_hm : c ≤ maxLen) (h2 : Sl w s2 ds) (hr : ds.length * 8 ≤ 140737488351232) :
    Calls Try.prog 35 #[.slice (some ⟨g, 0, none⟩) ds.length c, s2] w fun e w' => e = .returned (.bool true) ∧ ∃ nq, w' = w.drewN nq := by
  have hl : (ds ++ [7777]).length = ds.length + 1 := by simp
  obtain ⟨g', cap', e, _, hg, _, _, hcell⟩ := h1.at (j := ds.length) (by omega)
  simp only [Value.slice.injEq, Option.some.injEq, Addr.mk.injEq] at e
  obtain ⟨⟨rfl, _⟩, _, rfl⟩ := e
  have hs1 : Sl w (.slice (some ⟨g, 0, none⟩) ds.length c) ds := ⟨some ⟨g, 0, none⟩, c, rfl, fun _ => ⟨g, 0, rfl, hg, fun i hi => by
    have := hcell i (by omega)
    rw [List.getElem?_append_left hi] at this
    rw [Nat.zero_add]; exact this⟩⟩
  have hlast : w.cell? ⟨g, ds.length, none⟩ = some (.int .i64 7777) := by
    have := hcell ds.length (by omega)
    rw [List.getElem?_append_right (Nat.le_refl _)] at this
    simpa using this
  have hsame := same_any _ s2 ds w hs1 h2 hr
  obtain ⟨a2, c2, rfl, _⟩ := h2

  have HS : Hid (Calls _ _ _ _ _) := hsame
  obtain ⟨n1, hn1⟩ : ∃ n1, ds.length + 1 = n1 := ⟨_, rfl⟩
  have hsl : ∀ W, (Instr.slice 28 (.slice (some ⟨g, 0, none⟩) ds.length c) none (some (.int .i64 ((ds.length : Int) + 1))) none).run Try.prog W = .ok (.slice (some ⟨g, 0, none⟩) n1 c) W := by
    intro W
    have e : ((ds.length : Int) + 1) = (n1 : Int) := by omega
    have h0 : (0 : Int) ≤ (n1 : Int) := by omega
    have h1 : (n1 : Int) ≤ (c : Int) := by omega
    rw [e]
    simp [Instr.slice, run_underlying Try.underlying28, Instr.sliceBounds, run_sliceBound _ _ _ _ h0 h1, go_sem]
    intro h; omega
  have hi1 : (ds.length : Int) < (n1 : Int) := by omega
  clear hsame hcell hs1 h1 hl hn1 hc
  go_enter Try.func35, Try.ntmps35
  go_wp2_with fail
  refine HS.out.mono ?_
  rintro e w' ⟨rfl, nq, rfl⟩
  go_wp2
  go_ret
  exact ⟨rfl, _, rfl⟩

theorem or_is' {r k : Nat} (hk : k + 1 ≤ 32) (h1 : r % 2 ^ (k + 1) = 0) (h2 : r + 2 ^ (k + 1) ≤ 4294967296) : bits BinOp.or IntKind.i64 (r : Int) (wrap64 (2 ^ k)) = ((r + 2 ^ k : Nat) : Int) := by
  have hp : 2 ^ (k + 1) = 2 * 2 ^ k := by rw [Nat.pow_succ]; omega
  have hp0 : 0 < 2 ^ k := Nat.pow_pos (by decide)
  have e2 : wrap64 ((2 : Int) ^ k) = ((2 ^ k : Nat) : Int) := by
    have := pow_le32 (k := k) (by omega)
    have e : ((2 : Int) ^ k) = ((2 ^ k : Nat) : Int) := by simp
    rw [e]; unfold wrap64; omega
  rw [e2]
  have h64 : (2 : Int) ^ 63 = 9223372036854775808 := by decide
  have hi : ((r : Int) % 2 ^ (k + 1)) = 0 := by
    have e : ((2 : Int) ^ (k + 1)) = ((2 ^ (k + 1) : Nat) : Int) := by simp
    rw [e, ← Int.natCast_emod, h1]; rfl
  have hl : (((2 ^ k : Nat) : Int) < 2 ^ (k + 1)) := by
    have e : ((2 : Int) ^ (k + 1)) = ((2 ^ (k + 1) : Nat) : Int) := by simp
    rw [e]; omega
  rw [bits_join .i64 63 (by decide) (fun n h0 h1 => by rw [IntKind.wrap_i64]; omega) (k + 1) (r : Int) ((2 ^ k : Nat) : Int) (by omega) hi (by omega) (by omega) hl (by omega)]
  omega

set_option maxHeartbeats 400000 in
theorem rroot_any (a : Nat) (w : World) (ha : a < 9223372036854775808) :
    Calls Try.prog 34 #[.int .i64 (a : Int)] w fun e w' => (∃ r : Nat, e = .returned (.tuple #[.int .i64 (r : Int), .int .i64 0]) ∧ r * r ≤ a ∧ a < (r + 1) * (r + 1)) ∧ w' = w := by
  go_enter Try.func34, Try.ntmps34
  go_wp2
  go_loop [4, 5] (fun t i => ∃ (r k : Nat), k ≤ 32 ∧ i = .int .i64 ((k : Int) - 1) ∧ t = .int .i64 (r : Int) ∧ r % 2 ^ k = 0 ∧ r + 2 ^ k ≤ 4294967296 ∧ r * r ≤ a ∧ a < (r + 2 ^ k) * (r + 2 ^ k))
    (fun _ i => (intOf i + 1).toNat)
  case atStart => exact ⟨0, 32, by decide, rfl, rfl, rfl, by decide, by omega, by omega⟩
  case round =>
    obtain ⟨r, k, hk, rfl, rfl, h1, h2, h3, h4⟩ := hrel
    cases k with
    | zero =>
      rw [Nat.pow_zero] at h4
      have H4 : Hid (a < (r + 1) * (r + 1)) := h4
      clear h4 h1
      go_wp2
      go_ret2
      exact ⟨⟨r, rfl, h3, H4.out⟩, rfl⟩
    | succ k =>
      have e1 : ((k + 1 : Nat) : Int) - 1 = (k : Int) := by omega
      rw [e1]
      have hor := or_is' hk h1 h2
      obtain ⟨q1, q2, q3, q4, q5⟩ := root_step h1 h2 h4
      obtain ⟨M, hM⟩ : ∃ M, r + 2 ^ k = M := ⟨_, rfl⟩
      rw [hM] at hor q1 q2 q3 q5
      obtain ⟨S, hS⟩ : ∃ S, M * M = S := ⟨_, rfl⟩
      rw [hS] at q5
      have hS' : (M : Int) * (M : Int) = (S : Int) := by rw [← hS]; simp
      have hbig : ¬ M ≤ 3037000499 → 9223372036854775808 ≤ S := by
        intro hx; rw [← hS]
        have : 3037000500 * 3037000500 ≤ M * M := Nat.mul_le_mul (by omega) (by omega)
        omega
      have HB : Hid (¬ M ≤ 3037000499 → 9223372036854775808 ≤ S) := hbig
      have HS : Hid (M * M = S) := hS
      have HM : Hid (r + 2 ^ k = M) := hM
      have Q1 : Hid (M % 2 ^ k = 0) := q1
      have Q2 : Hid (M + 2 ^ k ≤ 4294967296) := q2
      have Q3 : Hid (a < (M + 2 ^ k) * (M + 2 ^ k)) := q3
      have Q4 : Hid (r % 2 ^ k = 0) := q4
      have H3 : Hid (r * r ≤ a) := h3
      clear h1 h2 h3 h4 hM hS q1 q2 q3 q4 hbig
      by_cases hm : M ≤ 3037000499
      · have hsb : S ≤ 9223372036854775807 := by
          rw [← HS.out]
          have : M * M ≤ 3037000499 * 3037000499 := Nat.mul_le_mul hm hm
          omega
        have gm : decide ((M : Int) ≤ 3037000499) = true := by simp; omega
        by_cases hle : S ≤ a
        · go_wp2
          go_round
          case rel => exact ⟨M, k, by omega, rfl, rfl, Q1.out, Q2.out, by rw [HS.out]; exact hle, Q3.out⟩
          case measure => simp [intOf]
        · go_wp2
          go_round
          case rel => exact ⟨r, k, by omega, rfl, rfl, Q4.out, by have := HM.out; have := Q2.out; have : 0 < 2 ^ k := Nat.pow_pos (by decide); omega, H3.out, by rw [HM.out, HS.out]; omega⟩
          case measure => simp [intOf]
      · have hsb := HB.out hm
        have gm : decide ((M : Int) ≤ 3037000499) = false := by simp; omega
        go_wp2
        go_round
        case rel => exact ⟨r, k, by omega, rfl, rfl, Q4.out, by have := HM.out; have := Q2.out; have : 0 < 2 ^ k := Nat.pow_pos (by decide); omega, H3.out, by rw [HM.out, HS.out]; omega⟩
        case measure => simp [intOf]
set_option maxHeartbeats 400000 in
theorem rroot_neg (a : Int) (w : World) (ha : a < 0) :
    Calls Try.prog 34 #[.int .i64 a] w fun e w' => e = .returned (.tuple #[.int .i64 0, .int .i64 1]) ∧ w' = w := by
  go_enter Try.func34, Try.ntmps34
  go_wp2
  go_ret2
  exact ⟨rfl, rfl⟩
end Go.Proofs.Ytfgpedleiajgeaa
