/-
  What is proved here: That a block is of one list of values alone.
  What is proved here: Mathematics of how a run's text goes on and ends.
-/
import Derived.Test.YtdnhhmnllhlbbaaGreatDoorOvj
import Derived.Test.YtdnhhmnllhlbbaaGreatDoorOsj
import Derived.Test.YtdnhhmnllhlbbaaGreatDoorOo
import Derived.Test.YtdnhhmnllhlbbaaGreatDoorOh
namespace Go.Proofs.YtdnhhmnllhlbbaaGreatDoor
open Go.RowKit Go.Shelf
set_option linter.unusedVariables false
set_option linter.unusedSimpArgs false

theorem aft_tail (o : Ou) (r : List UInt8) : Aft (tailT o ++ r) := by
  unfold tailT
  split
  · exact ⟨59, _, rfl, .inl rfl⟩
  · exact ⟨93, _, rfl, .inr (.inl rfl)⟩
theorem aft_sep (r : List UInt8) : Aft ([44, 32] ++ r) := ⟨44, _, rfl, .inr (.inr ⟨rfl, _, rfl⟩)⟩
end Go.Proofs.YtdnhhmnllhlbbaaGreatDoor

namespace Go.Proofs.YtdnhhmnllhlbbaaGreatDoor
open Go.RowKit Go.Shelf
set_option linter.unusedVariables false
set_option linter.unusedSimpArgs false
theorem lcp_ne {a b : UInt8} (h : a ≠ b) (r q : List UInt8) : lcp (a :: r) (b :: q) = 0 := by simp [lcp, h]
theorem head_nm {o : Ou} (h : wordB o.nm = true) : ∃ c q, headT o = c :: q ∧ letB c = true := by
  unfold wordB at h
  cases hn : o.nm with
  | nil => rw [hn] at h; cases h
  | cons c q =>
    rw [hn] at h
    simp only [Bool.and_eq_true] at h
    unfold headT
    rw [hn]
    split
    · exact ⟨c, _, rfl, h.1⟩
    · exact ⟨c, _, by simp only [List.cons_append]; rfl, h.1⟩
theorem let_61 {c : UInt8} (h : letB c = true) : (61 : UInt8) ≠ c := by
  intro e
  subst e
  revert h
  decide
theorem lcp_head {o : Ou} (h : wordB o.nm = true) (r : List UInt8) : lcp (61 :: r) (headT o) = 0 := by
  obtain ⟨c, q, e, hc⟩ := head_nm h
  rw [e]
  exact lcp_ne (let_61 hc) _ _
theorem lcp_dash (r : List UInt8) : lcp (61 :: r) dashT = 0 := lcp_ne (by decide) _ _
theorem pre_nm {o : Ou} (h : wordB o.nm = true) (r : List UInt8) : Lib.hasPrefix (61 :: r) o.nm = false := by
  unfold wordB at h
  cases hn : o.nm with
  | nil => rw [hn] at h; cases h
  | cons c q =>
    rw [hn] at h
    simp only [Bool.and_eq_true] at h
    have := let_61 h.1
    show (c == 61 && q.isPrefixOf r) = false
    rw [beq_eq_false_iff_ne.2 this.symm]
    rfl
theorem pre_dash (r : List UInt8) : Lib.hasPrefix (61 :: r) [45] = false := rfl
/-- A last line without the byte at its end. -/
def lineT (how why part at_ : Int) : List UInt8 :=
  if how = 1 then [61, 61, 61, 61, 61, 61, 61, 61, 61, 61]
  else if how = 2 then [61, 61, 61, 61, 61, 85, 78, 83, 65, 84, 73, 83, 70, 73, 65, 66, 76, 69, 61, 61, 61, 61, 61]
  else if how = 4 then [61, 61, 61, 61, 61, 69, 82, 82, 79, 82, 61, 61, 61, 61, 61, 32] ++ Lib.itoa why ++ [32] ++ Lib.itoa part ++ [32] ++ Lib.itoa at_
  else [61, 61, 61, 61, 61, 85, 78, 75, 78, 79, 87, 78, 61, 61, 61, 61, 61]
theorem stat_line (how why part at_ : Int) : statT how why part at_ = lineT how why part at_ ++ [10] := by
  unfold statT lineT
  split
  · rfl
  split
  · rfl
  split
  · rfl
  · rfl
theorem stat_61 (how why part at_ : Int) : ∃ q, statT how why part at_ = 61 :: q := by
  unfold statT
  split
  · exact ⟨_, rfl⟩
  split
  · exact ⟨_, rfl⟩
  split
  · exact ⟨_, by simp only [List.cons_append]; rfl⟩
  · exact ⟨_, rfl⟩
theorem line_10 (how why part at_ : Int) : (10 : UInt8) ∉ lineT how why part at_ := by
  unfold lineT
  split
  · decide
  split
  · decide
  split
  · intro h
    simp only [List.mem_append] at h
    rcases h with ((((h | h) | h) | h) | h) | h
    · revert h; decide
    · exact itoa_no why 10 (by decide) h
    · revert h; decide
    · exact itoa_no part 10 (by decide) h
    · revert h; decide
    · exact itoa_no at_ 10 (by decide) h
  · decide
theorem itoa_len9 (x : Int) (h0 : 0 ≤ x) (h1 : x ≤ 1000000) : (Lib.itoa x).length ≤ 21 := Lib.itoa_length_le x (by omega) (by omega)
theorem cut_line (how why part at_ : Int) (r : List UInt8) : Lib.cut (statT how why part at_ ++ r) [10] = (lineT how why part at_, r, true) := by
  rw [stat_line, List.append_assoc]
  exact cut_at (lineT how why part at_) 10 [] r (line_10 how why part at_)
/-- The numbers of an error's line. -/
def numsT (why part at_ : Int) : List UInt8 := Lib.itoa why ++ [32] ++ Lib.itoa part ++ [32] ++ Lib.itoa at_
theorem nums_split (why part at_ : Int) : Lib.split (numsT why part at_) [32] = [Lib.itoa why, Lib.itoa part, Lib.itoa at_] := by
  have := split_join 32 [Lib.itoa why, Lib.itoa part, Lib.itoa at_] (by simp) (by
    intro p hp
    simp only [List.mem_cons, List.not_mem_nil, or_false] at hp
    rcases hp with rfl | rfl | rfl <;> exact itoa_no _ 32 (by decide))
  rw [← this]
  congr 1
  simp [sepT, numsT]
theorem line_err (why part at_ : Int) : lineT 4 why part at_ = [61, 61, 61, 61, 61, 69, 82, 82, 79, 82, 61, 61, 61, 61, 61, 32] ++ numsT why part at_ := by
  unfold lineT numsT
  simp [List.append_assoc]
end Go.Proofs.YtdnhhmnllhlbbaaGreatDoor
