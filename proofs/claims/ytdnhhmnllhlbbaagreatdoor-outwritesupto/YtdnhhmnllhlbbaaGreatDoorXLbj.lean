/-
  What is proved here: what package lex's letter, digit and beginsWithDigit answer.
  What is proved here: what package lex's wordEnd answers.
-/
import Derived.Test.YtdnhhmnllhlbbaaGreatDoorXLa
import Derived.Laws.Strings
import Derived.Lib.Strings
namespace Go.Proofs.YtdnhhmnllhlbbaaGreatDoor
open Go.RowKit
set_option linter.unusedVariables false
set_option linter.unusedSimpArgs false

/-- A text of these bytes. -/
def bs (l : List UInt8) : ByteArray := ⟨l.toArray⟩
theorem bs_size (l : List UInt8) : (bs l).size = l.length := rfl
theorem bs_data (l : List UInt8) : (bs l).data.toList = l := by simp [bs]
theorem bs_of (s : ByteArray) : bs s.data.toList = s := by cases s; simp [bs]
theorem bs_toList (l : List UInt8) : (bs l).toList = l := by
  rw [show bs l = (⟨l.toArray⟩ : ByteArray) from rfl]
  first | exact List.toList_toByteArray | simp
theorem bs_ne (l : List UInt8) (h : l ≠ []) : ¬ (bs l).toList = [] := by rw [bs_toList]; exact h
theorem bs_nee (l : List UInt8) (h : l ≠ []) : (bs l).toList.isEmpty = false := by rw [bs_toList]; cases l with
  | nil => exact absurd rfl h
  | cons => rfl
theorem bs_e0 : (bs []).toList = [] := bs_toList []
theorem str_get (s : ByteArray) (i : Nat) (c : UInt8) (h : s.data.toList[i]? = some c) : ∃ h' : i < s.size, s[i] = c := by
  have hlt : i < s.size := by
    have := (List.getElem?_eq_some_iff.1 h).1
    simpa using this
  refine ⟨hlt, ?_⟩
  have e : s.data[i]'(by simpa using hlt) = c := by have := (List.getElem?_eq_some_iff.1 h).2; simpa using this
  exact e
theorem bs_get (l : List UInt8) (i : Nat) (c : UInt8) (h : l[i]? = some c) : ∃ h' : i < (bs l).size, (bs l)[i] = c := str_get _ _ _ (by rw [bs_data]; exact h)
theorem bs_cut (l : List UInt8) (a b : Nat) (h1 : a ≤ b) (h2 : b ≤ l.length) (X : World) :
    (Instr.slice 9 (.string (bs l)) (some (.int .i64 (a : Int))) (some (.int .i64 (b : Int))) none).run Tryz.prog X = .ok (.string (bs ((l.drop a).take (b - a)))) X := by
  rw [run_slice_string X 9 (bs l) .i64 .i64 a b Tryz.underlying9 (by omega) (by omega) (by rw [bs_size]; omega)]
  congr 2
  rw [← bs_of (ByteArray.extract _ _ _), Lib.extract_data, bs_data]
  simp
theorem bs_from (l : List UInt8) (a : Nat) (h : a ≤ l.length) (X : World) :
    (Instr.slice 9 (.string (bs l)) (some (.int .i64 (a : Int))) none none).run Tryz.prog X = .ok (.string (bs (l.drop a))) X := by
  rw [run_slice_string_from_if X 9 (bs l) .i64 a Tryz.underlying9, if_pos ⟨by omega, by rw [bs_size]; omega⟩]
  congr 2
  rw [← bs_of (ByteArray.extract _ _ _), Lib.extract_data, bs_data, bs_size]
  simp
  rw [List.take_of_length_le (by simp)]

set_option maxRecDepth 100000 in
set_option maxHeartbeats 4000000 in
theorem letter_any (c : UInt8) (W : World) : Calls Tryz.prog 79 #[.int .u8 (c.toNat : Int)] W fun e w' => e = .returned (.bool (letB c)) ∧ w' = W := by
  go_enter Tryz.func79, Tryz.ntmps79
  go_wp2
  all_goals (go_ret; refine ⟨?_, rfl⟩; show Ending.returned (Value.bool _) = _; congr 2; rw [Bool.eq_iff_iff]; simp [letB]; try omega)
set_option maxRecDepth 100000 in
set_option maxHeartbeats 4000000 in
theorem digit_any (c : UInt8) (W : World) : Calls Tryz.prog 101 #[.int .u8 (c.toNat : Int)] W fun e w' => e = .returned (.bool (digB c)) ∧ w' = W := by
  go_enter Tryz.func101, Tryz.ntmps101
  go_wp2
  all_goals (go_ret; refine ⟨?_, rfl⟩; show Ending.returned (Value.bool _) = _; congr 2; rw [Bool.eq_iff_iff]; simp [digB]; try omega)
end Go.Proofs.YtdnhhmnllhlbbaaGreatDoor


namespace Go.Proofs.YtdnhhmnllhlbbaaGreatDoor
open Go.RowKit
set_option linter.unusedVariables false
set_option linter.unusedSimpArgs false

set_option maxRecDepth 100000 in
set_option maxHeartbeats 4000000 in
theorem wordEnd_any (l : List UInt8) (a : Nat) (ha : a ≤ l.length) (hl : l.length ≤ 140737488355328) (W : World) :
    Calls Tryz.prog 80 #[.string (bs l), .int .i64 (a : Int)] W fun e w' => e = .returned (.int .i64 ((a + spn wrdB (l.drop a) : Nat) : Int)) ∧ w' = W := by
  have hat := fun (i : Nat) (c : UInt8) (h : l[i]? = some c) => bs_get l i c h
  obtain ⟨n, hn⟩ : ∃ n, (bs l).size = n := ⟨_, rfl⟩
  have HN : Hid (l.length = n) := hn
  rw [show l.length = n from hn] at ha hl
  obtain ⟨g, hg⟩ : ∃ g, spn wrdB (l.drop a) = g := ⟨_, rfl⟩
  have HG : Hid (spn wrdB (l.drop a) = g) := hg
  have hgl : a + g ≤ n := by
    have h1 := spn_le wrdB (l.drop a)
    rw [List.length_drop, HN.out, hg] at h1
    omega
  rw [hg]
  clear hg
  go_enter Tryz.func80, Tryz.ntmps80
  go_wp2
  go_step3
  go_wp2
  go_step3
  go_wp2
  go_loopw [1] (fun i wr => ∃ k : Nat, k ≤ g ∧ i = .int .i64 ((a + k : Nat) : Int) ∧ wr = W) (fun i _ => n - (intOf i).toNat)
  case atStart => exact ⟨0, Nat.zero_le _, rfl, rfl⟩
  case round =>
    obtain ⟨k, hk, rfl, rfl⟩ := hrel
    obtain ⟨i, hi⟩ : ∃ i, a + k = i := ⟨_, rfl⟩
    rw [hi]
    have HI : Hid (a + k = i) := hi
    by_cases hlt : i < n
    · have hlt' : (i : Int) < (n : Int) := by omega
      obtain ⟨c, hc⟩ : ∃ c, l[i]? = some c := ⟨_, List.getElem?_eq_getElem (by rw [HN.out]; exact hlt)⟩
      obtain ⟨hx0, hx⟩ := hat i c hc
      have hsp := spn_at wrdB (l.drop a) k c (by rw [HG.out]; exact hk) (by rw [List.getElem?_drop, hi]; exact hc)
      rw [HG.out] at hsp
      have hw1 : IntKind.i64.wrap ((i : Int) + 1) = (i : Int) + 1 := by rw [IntKind.wrap_i64]; omega
      have HSP : Hid (k < g ↔ wrdB c = true) := hsp
      clear hsp hc hi
      by_cases hl1 : letB c = true
      · have hkg : k < g := HSP.out.2 (by simp [wrdB, hl1])
        go_wp2_with (first | (go_at_call 79; refine (letter_any _ _).mono ?_; rw [hl1]; rintro e w' ⟨rfl, rfl⟩) | (go_at_call 101; refine (digit_any _ _).mono ?_; rintro e w' ⟨rfl, rfl⟩))
        go_roundw
        case rel => exact ⟨k + 1, by omega, by have := HI.out; go_num, by first | rfl | trivial⟩
        case measure => simp [intOf]; omega
      · have hl2 : letB c = false := by simpa using hl1
        by_cases hd1 : digB c = true
        · have hkg : k < g := HSP.out.2 (by simp [wrdB, hd1])
          go_wp2_with (first | (go_at_call 79; refine (letter_any _ _).mono ?_; rw [hl2]; rintro e w' ⟨rfl, rfl⟩) | (go_at_call 101; refine (digit_any _ _).mono ?_; rw [hd1]; rintro e w' ⟨rfl, rfl⟩))
          go_roundw
          case rel => exact ⟨k + 1, by omega, by have := HI.out; go_num, by first | rfl | trivial⟩
          case measure => simp [intOf]; omega
        · have hd2 : digB c = false := by simpa using hd1
          have hkg : k = g := by
            have : ¬ k < g := fun h => by have := HSP.out.1 h; simp [wrdB, hl2, hd2] at this
            omega
          go_wp2_with (first | (go_at_call 79; refine (letter_any _ _).mono ?_; rw [hl2]; rintro e w' ⟨rfl, rfl⟩) | (go_at_call 101; refine (digit_any _ _).mono ?_; rw [hd2]; rintro e w' ⟨rfl, rfl⟩))
          (try rw [Exit.noGoto_ret])
          go_ret
          exact ⟨by rw [← hkg, HI.out]; rfl, rfl⟩
    · have hlt' : ¬ (i : Int) < (n : Int) := by omega
      have hkg : k = g := by omega
      clear hi
      go_wp2
      (try rw [Exit.noGoto_ret])
      go_ret
      exact ⟨by rw [← hkg, HI.out]; rfl, rfl⟩
end Go.Proofs.YtdnhhmnllhlbbaaGreatDoor

