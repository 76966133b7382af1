/-
  What is proved here: what package lex's wordEnd answers.
-/
import Derived.Test.YtokcbiafajpmoaaDoorLb
namespace Go.Proofs.YtokcbiafajpmoaaDoor
open Go.RowKit
set_option linter.unusedVariables false
set_option linter.unusedSimpArgs false

set_option maxRecDepth 100000 in
set_option maxHeartbeats 4000000 in
theorem wordEnd_any (l : List UInt8) (a : Nat) (ha : a ≤ l.length) (hl : l.length ≤ 140737488355328) (W : World) :
    Calls Tryd.prog 21 #[.string (bs l), .int .i64 (a : Int)] W fun e w' => e = .returned (.int .i64 ((a + spn wrdB (l.drop a) : Nat) : Int)) ∧ w' = W := by
  have hat := fun (i : Nat) (c : UInt8) (h : l[i]? = some c) => bs_get l i c h
  obtain ⟨n, hn⟩ : ∃ n, (bs l).size = n := ⟨_, rfl⟩
  have HN : Hid (l.length = n) := hn
  rw [show l.length = n from hn] at ha hl
  obtain ⟨g, hg⟩ : ∃ g, spn wrdB (l.drop a) = g := ⟨_, rfl⟩
  have HG : Hid (spn wrdB (l.drop a) = g) := hg
  have hgl : a + g ≤ n := by
    have h1 := spn_le wrdB (l.drop a)
    rw [List.length_drop, HN.out, hg] at h1
    omega
  rw [hg]
  clear hg
  go_enter Tryd.func21, Tryd.ntmps21
  go_wp2
  go_step3
  go_wp2
  go_step3
  go_wp2
  go_loopw [1] (fun i wr => ∃ k : Nat, k ≤ g ∧ i = .int .i64 ((a + k : Nat) : Int) ∧ wr = W) (fun i _ => n - (intOf i).toNat)
  case atStart => exact ⟨0, Nat.zero_le _, rfl, rfl⟩
  case round =>
    obtain ⟨k, hk, rfl, rfl⟩ := hrel
    obtain ⟨i, hi⟩ : ∃ i, a + k = i := ⟨_, rfl⟩
    rw [hi]
    have HI : Hid (a + k = i) := hi
    by_cases hlt : i < n
    · have hlt' : (i : Int) < (n : Int) := by omega
      obtain ⟨c, hc⟩ : ∃ c, l[i]? = some c := ⟨_, List.getElem?_eq_getElem (by rw [HN.out]; exact hlt)⟩
      obtain ⟨hx0, hx⟩ := hat i c hc
      have hsp := spn_at wrdB (l.drop a) k c (by rw [HG.out]; exact hk) (by rw [List.getElem?_drop, hi]; exact hc)
      rw [HG.out] at hsp
      have hw1 : IntKind.i64.wrap ((i : Int) + 1) = (i : Int) + 1 := by rw [IntKind.wrap_i64]; omega
      have HSP : Hid (k < g ↔ wrdB c = true) := hsp
      clear hsp hc hi
      by_cases hl1 : letB c = true
      · have hkg : k < g := HSP.out.2 (by simp [wrdB, hl1])
        go_wp2_with (first | (go_at_call 20; refine (letter_any _ _).mono ?_; rw [hl1]; rintro e w' ⟨rfl, rfl⟩) | (go_at_call 31; refine (digit_any _ _).mono ?_; rintro e w' ⟨rfl, rfl⟩))
        go_roundw
        case rel => exact ⟨k + 1, by omega, by have := HI.out; go_num, by first | rfl | trivial⟩
        case measure => simp [intOf]; omega
      · have hl2 : letB c = false := by simpa using hl1
        by_cases hd1 : digB c = true
        · have hkg : k < g := HSP.out.2 (by simp [wrdB, hd1])
          go_wp2_with (first | (go_at_call 20; refine (letter_any _ _).mono ?_; rw [hl2]; rintro e w' ⟨rfl, rfl⟩) | (go_at_call 31; refine (digit_any _ _).mono ?_; rw [hd1]; rintro e w' ⟨rfl, rfl⟩))
          go_roundw
          case rel => exact ⟨k + 1, by omega, by have := HI.out; go_num, by first | rfl | trivial⟩
          case measure => simp [intOf]; omega
        · have hd2 : digB c = false := by simpa using hd1
          have hkg : k = g := by
            have : ¬ k < g := fun h => by have := HSP.out.1 h; simp [wrdB, hl2, hd2] at this
            omega
          go_wp2_with (first | (go_at_call 20; refine (letter_any _ _).mono ?_; rw [hl2]; rintro e w' ⟨rfl, rfl⟩) | (go_at_call 31; refine (digit_any _ _).mono ?_; rw [hd2]; rintro e w' ⟨rfl, rfl⟩))
          (try rw [Exit.noGoto_ret])
          go_ret
          exact ⟨by rw [← hkg, HI.out]; rfl, rfl⟩
    · have hlt' : ¬ (i : Int) < (n : Int) := by omega
      have hkg : k = g := by omega
      clear hi
      go_wp2
      (try rw [Exit.noGoto_ret])
      go_ret
      exact ⟨by rw [← hkg, HI.out]; rfl, rfl⟩
end Go.Proofs.YtokcbiafajpmoaaDoor
