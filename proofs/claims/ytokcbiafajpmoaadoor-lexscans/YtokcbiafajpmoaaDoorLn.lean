/-
  What is proved here: what strings.IndexRune answers of a rune that is no byte of ASCII, asked of the two signs that end a text in quotes.
-/
import Derived.Test.YtokcbiafajpmoaaDoorLm
import Derived.Laws.Runes
import Derived.Laws.RangeString
import Derived.Deep.LoopGhost
import Derived.RangeFuncNested
import Derived.RangeFuncBound
import Derived.RangeFuncCalls
import Derived.RangeFuncLeaves
import Derived.Shelf.Abstract
import Derived.Shelf.RegionOpen
import Derived.OwnWalk
import Derived.OwnWalkIn
import Derived.TacticsInMore
import Derived.LoopNIn
import Derived.LoopIn
import Derived.Laws.Externs
import Derived.BigFrameIn
import Derived.Deep.QuietTactic
import Derived.BigQuiet
import Derived.OrdersIn
import Derived.OrdersHeld
import Derived.Sort.CutIn
import Derived.Lib.IndexAny
import Derived.Lib.IndexBytes
import Derived.Shelf.Small.Utf8
namespace Go.Proofs.YtokcbiafajpmoaaDoor
open Go.RowKit
set_option linter.unusedVariables false
set_option linter.unusedSimpArgs false
theorem run_next_any (w : World) (s : ByteArray) (pos : Nat) (ty : TypeId) (h : pos < s.size) :
    (Instr.next (.pointer (some ⟨w.heap.size, 0, none⟩)) true ty).run Tryd.prog (w.iter s pos) =
      .ok (.tuple #[.bool true, .int .i64 pos, .int .i32 ((Utf8.decode s pos).1 : Nat)]) (w.iter s (pos + (Utf8.decode s pos).2)) := by
  simp only [Instr.next, getObj, setObj, Sem.run_bind, Sem.run, World.iter_heap, Result.andThen, h, if_true, World.iter_set]
  simp [goInt, Sem.run, World.iter_heap, World.iter_set]
/-- A rune that begins with a byte beyond ASCII: it is valid and beyond ASCII, and so are all its bytes. -/
theorem decode_high (s : ByteArray) (i : Nat) (hi : i < s.size) (h128 : 128 ≤ (s.get! i).toNat) :
    128 ≤ (Utf8.decode s i).1 ∧ (Utf8.decode s i).1 ≤ 1114111 ∧ Utf8.valid ((Utf8.decode s i).1 : Nat) = true ∧ 1 ≤ (Utf8.decode s i).2 ∧ i + (Utf8.decode s i).2 ≤ s.size ∧ ∀ j, j < (Utf8.decode s i).2 → 128 ≤ (s.get! (i + j)).toNat := by
  have hb0 : (s.get! i).toNat < 256 := UInt8.toNat_lt _
  have hb1 : (s.get! (i + 1)).toNat < 256 := UInt8.toNat_lt _
  have hb2 : (s.get! (i + 2)).toNat < 256 := UInt8.toNat_lt _
  have hb3 : (s.get! (i + 3)).toNat < 256 := UInt8.toNat_lt _
  have herr : 128 ≤ Utf8.runeError ∧ Utf8.runeError ≤ 1114111 ∧ Utf8.valid (Utf8.runeError : Nat) = true := by decide
  have one : ∀ j, j < 1 → 128 ≤ (s.get! (i + j)).toNat := by
    intro j hj
    have hj0 : j = 0 := by omega
    rw [hj0]; exact h128
  unfold Utf8.decode
  simp only [Nat.add_zero]
  rw [if_neg (by omega)]
  split
  · rename_i h
    simp only [Bool.and_eq_true, beq_iff_eq, decide_eq_true_eq] at h
    split
    · refine ⟨by omega, by omega, ?_, by omega, by omega, fun j hj => ?_⟩
      · simp [Utf8.valid]; omega
      · match j, hj with
        | 0, _ => exact h128
        | 1, _ => omega
    · exact ⟨herr.1, herr.2.1, herr.2.2, by omega, by omega, one⟩
  · split
    · rename_i h
      simp only [Bool.and_eq_true, beq_iff_eq, decide_eq_true_eq] at h
      split
      · rename_i h2
        simp only [Bool.and_eq_true, decide_eq_true_eq] at h2
        refine ⟨by omega, by omega, h2.2, by omega, by omega, fun j hj => ?_⟩
        match j, hj with
        | 0, _ => exact h128
        | 1, _ => omega
        | 2, _ => omega
      · exact ⟨herr.1, herr.2.1, herr.2.2, by omega, by omega, one⟩
    · split
      · rename_i h
        simp only [Bool.and_eq_true, beq_iff_eq, decide_eq_true_eq] at h
        split
        · rename_i h2
          simp only [Bool.and_eq_true, decide_eq_true_eq] at h2
          refine ⟨by omega, ?_, h2.2, by omega, by omega, fun j hj => ?_⟩
          · have := h2.2
            simp [Utf8.valid] at this
            omega
          · match j, hj with
            | 0, _ => exact h128
            | 1, _ => omega
            | 2, _ => omega
            | 3, _ => omega
        · exact ⟨herr.1, herr.2.1, herr.2.2, by omega, by omega, one⟩
      · exact ⟨herr.1, herr.2.1, herr.2.2, by omega, by omega, one⟩
def qs : ByteArray := ⟨#[34, 10]⟩

set_option maxRecDepth 100000 in
set_option maxHeartbeats 4000000 in
theorem irune_err (W : World) : Calls Tryd.prog 55 #[.string qs, .int .i32 65533] W fun e w' => e = .returned (.int .i64 (-1)) ∧ Below W.heap.size W w' := by
  have hq : qs.size = 2 := rfl
  have n0 := fun ty => run_next_ascii (P := Tryd.prog) W qs 0 ty (by decide) (by decide)
  have n1 := fun ty => run_next_ascii (P := Tryd.prog) W qs 1 ty (by decide) (by decide)
  have n2 := fun ty => run_next_end (P := Tryd.prog) W qs 2 ty (by decide)
  have x0 : (qs[0]'(by decide)).toNat = 34 := rfl
  have x1 : (qs[1]'(by decide)).toNat = 10 := rfl
  simp only [x0, x1, Nat.zero_add] at n0 n1
  have hb : ∀ k, Below W.heap.size W (W.iter qs k) := fun k => (Below.refl _ W).alloc (Nat.le_refl _) _
  go_enter Tryd.func55, Tryd.ntmps55
  go_wp2
  go_loopg [5, 6] 2 (fun g _ _ wx => ∃ i : Nat, i + g = 2 ∧ wx = W.iter qs i)
  case atStart => exact ⟨0, by omega, rfl⟩
  case round =>
    obtain ⟨i, hig, rfl⟩ := hrel
    have hcs : (i = 2 ∧ gk = 0) ∨ (i = 0 ∧ gk = 2) ∨ (i = 1 ∧ gk = 1) := by omega
    clear hig
    rcases hcs with ⟨rfl, rfl⟩ | ⟨rfl, rfl⟩ | ⟨rfl, rfl⟩
    · go_wp2
      go_ret
      exact ⟨rfl, hb _⟩
    · go_wp2
      go_roundg 1
      case measure => omega
      case rel => exact ⟨1, by omega, rfl⟩
    · go_wp2
      go_roundg 0
      case measure => omega
      case rel => exact ⟨2, by omega, rfl⟩

set_option maxRecDepth 100000 in
set_option maxHeartbeats 4000000 in
theorem irune_high (r : Int) (h128 : 128 ≤ r) (hr : r ≤ 1114111) (hv : Utf8.valid r = true) (hne : r ≠ 65533) (W : World) : Calls Tryd.prog 55 #[.string qs, .int .i32 r] W fun e w' => e = .returned (.int .i64 (-1)) ∧ Below W.heap.size W w' := by
  obtain ⟨e2, e4, e128⟩ := encode_facts r hv h128
  obtain ⟨u, hu⟩ : ∃ u, Utf8.encode r = u := ⟨_, rfl⟩
  have hconv := fun X => run_convert_int_string (P := Tryd.prog) X 21 9 .i32 r (by kernel_rfl) Tryd.underlying9
  rw [hu] at e2 e4 e128
  simp only [hu] at hconv
  have h1 : ¬ r < 128 := by omega
  have h0 : 0 ≤ r := by omega
  have h3 : (r == 65533) = false := by simpa using hne
  have hvr : Lib.validRune r = true := by
    rw [show Lib.validRune r = validRune r from rfl, ← validRune_eq]; exact hv
  have hval := fun X => Any.utf8_ValidRune { Tryd.laysIndexAny with } r X
  rw [hvr] at hval
  go_enter Tryd.func55, Tryd.ntmps55
  go_wp2_with (go_at_call 68; refine (hval _).mono ?_; rintro e w' ⟨rfl, rfl⟩)
  have hq : qs.size = 2 := rfl
  go_step3
  have hm : u.size = 2 ∨ u.size = 3 ∨ u.size = 4 := by omega
  clear hu hval hvr hv hne e2 e4
  rcases hm with hm | hm | hm
  · obtain ⟨x, hx⟩ : ∃ x, u[1]'(by omega) = x := ⟨_, rfl⟩
    have hx0 : 1 < u.size := by omega
    have hxv : 128 ≤ x.toNat := by
      have h := e128 (by omega)
      have e : u.size - 1 = 1 := by omega
      simp only [e] at h
      rw [hx] at h
      exact h
    have hy : qs[1]'(by decide) = 10 := rfl
    have hy0 : 1 < qs.size := by decide
    have hxx : x.toNat < 256 := x.toNat_lt
    have hc1 : ((10 : Int) != (x.toNat : Int)) = true := by simp; omega
    have hc2 : ¬ (10 : Int) = (x.toNat : Int) := by omega
    have hsl : ∀ X, (Instr.slice 9 (.string qs) (some (.int .i64 2)) none none).run Tryd.prog X = .ok (.string (bs [])) X := fun X => bs_from [34, 10] 2 (by decide) X
    have hib := fun X => Any.strings_IndexByte Tryd.laysIndexByte (bs []) (x.toNat : Int) X
    have hz : Lib.indexByte (bs []).data.toList ((x.toNat : Int).toNat.toUInt8) = -1 := rfl
    simp only [hz] at hib
    clear e128 hz
    go_wp2
    go_loopw [9] (fun i wr => i = .int .i64 1 ∧ wr = w') (fun _ _ => 0)
    case atStart => exact ⟨rfl, rfl⟩
    case round =>
      obtain ⟨rfl, rfl⟩ := hrel
      go_wp2
      go_step3
      go_upto_region 6 with (fail)
      go_quiet (fail)
      go_upto_region 7 with (fail)
      go_region_with (go_at_call 46; refine (hib _).mono ?_; rintro e w' ⟨rfl, rfl⟩)
      all_goals go_wp2
      all_goals rw [Exit.noGoto_ret]
      all_goals go_wp2
      all_goals rw [Exit.noGoto_ret]
      all_goals go_ret
      all_goals exact ⟨rfl, ⟨rfl, rfl, rfl, Nat.le_refl _, fun _ _ => rfl⟩⟩
  · go_wp2
    go_loopw [9] (fun i wr => i = .int .i64 2 ∧ wr = w') (fun _ _ => 0)
    case atStart => exact ⟨rfl, rfl⟩
    case round =>
      obtain ⟨rfl, rfl⟩ := hrel
      go_wp2
      rw [Exit.noGoto_ret]
      go_ret
      exact ⟨rfl, Below.refl _ _⟩
  · go_wp2
    go_loopw [9] (fun i wr => i = .int .i64 3 ∧ wr = w') (fun _ _ => 0)
    case atStart => exact ⟨rfl, rfl⟩
    case round =>
      obtain ⟨rfl, rfl⟩ := hrel
      go_wp2
      rw [Exit.noGoto_ret]
      go_ret
      exact ⟨rfl, Below.refl _ _⟩
end Go.Proofs.YtokcbiafajpmoaaDoor
