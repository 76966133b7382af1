/-
  What is proved here: what package lex's letter, digit and beginsWithDigit answer.
-/
import Derived.Test.YtokcbiafajpmoaaDoorLa
import Derived.Laws.Strings
import Derived.Lib.Strings
namespace Go.Proofs.YtokcbiafajpmoaaDoor
open Go.RowKit
set_option linter.unusedVariables false
set_option linter.unusedSimpArgs false

/-- A text of these bytes. -/
def bs (l : List UInt8) : ByteArray := ⟨l.toArray⟩
theorem bs_size (l : List UInt8) : (bs l).size = l.length := rfl
theorem bs_data (l : List UInt8) : (bs l).data.toList = l := by simp [bs]
theorem bs_of (s : ByteArray) : bs s.data.toList = s := by cases s; simp [bs]
theorem bs_inj {l r : List UInt8} (h : bs l = bs r) : l = r := by rw [← bs_data l, h, bs_data]
theorem bs_toList (l : List UInt8) : (bs l).toList = l := by
  rw [show bs l = (⟨l.toArray⟩ : ByteArray) from rfl]
  first | exact List.toList_toByteArray | simp
theorem bs_ne (l : List UInt8) (h : l ≠ []) : ¬ (bs l).toList = [] := by rw [bs_toList]; exact h
theorem bs_nee (l : List UInt8) (h : l ≠ []) : (bs l).toList.isEmpty = false := by rw [bs_toList]; cases l with
  | nil => exact absurd rfl h
  | cons => rfl
theorem bs_e0 : (bs []).toList = [] := bs_toList []
theorem str_get (s : ByteArray) (i : Nat) (c : UInt8) (h : s.data.toList[i]? = some c) : ∃ h' : i < s.size, s[i] = c := by
  have hlt : i < s.size := by
    have := (List.getElem?_eq_some_iff.1 h).1
    simpa using this
  refine ⟨hlt, ?_⟩
  have e : s.data[i]'(by simpa using hlt) = c := by have := (List.getElem?_eq_some_iff.1 h).2; simpa using this
  exact e
theorem bs_get (l : List UInt8) (i : Nat) (c : UInt8) (h : l[i]? = some c) : ∃ h' : i < (bs l).size, (bs l)[i] = c := str_get _ _ _ (by rw [bs_data]; exact h)
theorem bs_cut (l : List UInt8) (a b : Nat) (h1 : a ≤ b) (h2 : b ≤ l.length) (X : World) :
    (Instr.slice 9 (.string (bs l)) (some (.int .i64 (a : Int))) (some (.int .i64 (b : Int))) none).run Tryd.prog X = .ok (.string (bs ((l.drop a).take (b - a)))) X := by
  rw [run_slice_string X 9 (bs l) .i64 .i64 a b Tryd.underlying9 (by omega) (by omega) (by rw [bs_size]; omega)]
  congr 2
  rw [← bs_of (ByteArray.extract _ _ _), Lib.extract_data, bs_data]
  simp
theorem bs_from (l : List UInt8) (a : Nat) (h : a ≤ l.length) (X : World) :
    (Instr.slice 9 (.string (bs l)) (some (.int .i64 (a : Int))) none none).run Tryd.prog X = .ok (.string (bs (l.drop a))) X := by
  rw [run_slice_string_from_if X 9 (bs l) .i64 a Tryd.underlying9, if_pos ⟨by omega, by rw [bs_size]; omega⟩]
  congr 2
  rw [← bs_of (ByteArray.extract _ _ _), Lib.extract_data, bs_data, bs_size]
  simp
  rw [List.take_of_length_le (by simp)]

set_option maxRecDepth 100000 in
set_option maxHeartbeats 4000000 in
theorem letter_any (c : UInt8) (W : World) : Calls Tryd.prog 20 #[.int .u8 (c.toNat : Int)] W fun e w' => e = .returned (.bool (letB c)) ∧ w' = W := by
  go_enter Tryd.func20, Tryd.ntmps20
  go_wp2
  all_goals (go_ret; refine ⟨?_, rfl⟩; show Ending.returned (Value.bool _) = _; congr 2; rw [Bool.eq_iff_iff]; simp [letB]; try omega)
set_option maxRecDepth 100000 in
set_option maxHeartbeats 4000000 in
theorem digit_any (c : UInt8) (W : World) : Calls Tryd.prog 31 #[.int .u8 (c.toNat : Int)] W fun e w' => e = .returned (.bool (digB c)) ∧ w' = W := by
  go_enter Tryd.func31, Tryd.ntmps31
  go_wp2
  all_goals (go_ret; refine ⟨?_, rfl⟩; show Ending.returned (Value.bool _) = _; congr 2; rw [Bool.eq_iff_iff]; simp [digB]; try omega)
set_option maxRecDepth 100000 in
set_option maxHeartbeats 4000000 in
theorem bdig_any (l : List UInt8) (W : World) : Calls Tryd.prog 54 #[.string (bs l)] W fun e w' => e = .returned (.bool (bdig l)) ∧ w' = W := by
  go_enter Tryd.func54, Tryd.ntmps54
  cases l with
  | nil =>
    have h0 := bs_e0
    go_wp2
    go_ret
    exact ⟨rfl, rfl⟩
  | cons c r =>
    obtain ⟨hx0, hx⟩ := bs_get (c :: r) 0 c rfl
    have h0 := bs_ne (c :: r) (by simp)
    have h1 := bs_nee (c :: r) (by simp)
    go_wp2_with (first | (go_at_call 31; refine (digit_any _ _).mono ?_; rintro e w' ⟨rfl, rfl⟩))
    go_ret
    refine ⟨?_, rfl⟩
    show Ending.returned (Value.bool _) = _
    rfl
end Go.Proofs.YtokcbiafajpmoaaDoor
