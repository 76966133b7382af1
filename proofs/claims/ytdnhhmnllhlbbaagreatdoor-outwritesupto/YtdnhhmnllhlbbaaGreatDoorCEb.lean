/-
  What is proved here: a set in memory that can be written; Lent, Kept.
-/
import Derived.Test.YtdnhhmnllhlbbaaGreatDoorCEa
import Derived.Test.YtdnhhmnllhlbbaaGreatDoorCClj
import Derived.Maps.AppendAt
import Derived.Sort.Row
namespace Go.Proofs.YtdnhhmnllhlbbaaGreatDoor
open Go.RowKit Go.Shelf
set_option linter.unusedVariables false
set_option linter.unusedSimpArgs false

theorem clone59o {B : Nat} {W : World} {s : Value} {l : List Int} (h : Si B W s l) (hl : l.length ≤ 17592186043904) : Calls Tryz.prog 32 #[s] W fun e w' => ∃ v, e = .returned v ∧ w'.ownsRow W.heap.size 2 1 v l.length (intv l) ∧ Below W.heap.size W w' := by
  obtain ⟨a, c, rfl, h⟩ := h
  rcases Nat.eq_zero_or_pos l.length with h0 | h0
  · have : l = [] := List.length_eq_zero_iff.1 h0
    subst this
    exact clone0_59 a c W
  · obtain ⟨b, off, rfl, hB, hb, hc⟩ := h h0
    obtain ⟨i0, hi0, hz0, hz1, hz2⟩ := info_parts Tryz.info2
    refine (AnyE.slices_Clone Tryz.laysClone59 i0 _ 1 8 hi0 hz0 hz1 hz2 rfl (by omega) Tryz.sizeOf2 b off l.length c (intv l) W (by simp [intv]) (by unfold maxLen; omega) (by omega) ?_ ?_).mono fun e w' ⟨v, e1, e2, _, e3⟩ => ⟨v, e1, e2, e3⟩
    · intro j u hu
      simp only [intv, List.getElem?_map, Option.map_eq_some_iff] at hu
      obtain ⟨x, hx, rfl⟩ := hu
      exact hc j x hx
    · intro u hu
      simp only [intv, List.mem_map] at hu
      obtain ⟨x, _, rfl⟩ := hu
      rfl

end Go.Proofs.YtdnhhmnllhlbbaaGreatDoor

