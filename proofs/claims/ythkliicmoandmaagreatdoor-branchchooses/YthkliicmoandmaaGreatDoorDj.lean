/-
  What is proved here: the walk of BranchGoes.
-/
import Derived.Test.YthkliicmoandmaaGreatDoorDi
import Derived.Test.YthkliicmoandmaaGreatDoorBk
import Derived.Test.YthkliicmoandmaaGreatDoorSn
import Derived.Test.YthkliicmoandmaaGreatDoorCij
import Derived.Test.YthkliicmoandmaaGreatDoorBjj
import Derived.OwnWalk
import Derived.Lib.AppendZerosOnto
import Derived.Lib.OwnBridge
import Derived.Laws.StructEq
namespace Go.Proofs.YthkliicmoandmaaGreatDoor
open Go.RowKit Go.Shelf
set_option linter.unusedVariables false
set_option linter.unusedSimpArgs false
theorem clone_any {W : World} {s : Value} {l : List Int} (h : Ns W s l) (hl : l.length * 8 ≤ 140737488355328) : Calls Tryz.prog 37 #[s] W fun e w' => ∃ v, e = .returned v ∧ Oi W.heap.size w' v l ∧ Below W.heap.size W w' := by
  obtain ⟨a, cap, rfl, hc⟩ := h
  cases a with
  | none =>
    have h0 : l.length = 0 := by
      apply Classical.byContradiction; intro hn
      obtain ⟨_, _, e, _⟩ := hc (by omega)
      cases e
    obtain rfl := List.eq_nil_of_length_eq_zero h0
    exact (AnyG.slices_Clone_int_nil Tryz.laysCloneN 0 cap W).mono fun e w' ⟨he, hw⟩ => ⟨_, he, by simpa [Oi, ivl] using World.ownsRow_nil _ _ _ _, by rw [hw]; exact Below.refl _ _⟩
  | some ad =>
    rcases Nat.eq_zero_or_pos l.length with h0 | h0
    · obtain rfl := List.eq_nil_of_length_eq_zero h0
      exact (AnyG.slices_Clone_int_zero Tryz.laysCloneN ad cap W).mono fun e w' ⟨v, he, hr, _, hb⟩ => ⟨v, he, hr, hb⟩
    · obtain ⟨b, off, e, hlt, _, hcell⟩ := hc h0
      injection e with e
      subst e
      have := AnyG.slices_Clone_int Tryz.laysCloneN b off l.length cap l W (Nat.le_refl _) hl (fun j hj => hcell j _ (by rw [List.getD_eq_getElem?_getD, List.getElem?_eq_getElem hj]; rfl))
      rw [List.take_length] at this
      exact this.mono fun e w' ⟨v, he, hr, _, hb⟩ => ⟨v, he, hr, hb⟩

set_option maxRecDepth 100000 in
set_option maxHeartbeats 4000000 in
theorem new_any {W : World} {p : Option Addr} {n c : Nat} {l : List Int} (h : Ns W (.slice p n c) l) (hl : l.length * 8 ≤ 140737488355328) : Calls Tryz.prog 9 #[.slice p n c] W fun e w' => ∃ q, e = .returned (ptr q) ∧ W.heap.size ≤ q ∧ q < w'.heap.size ∧ (∀ X : Nat → Prop, (∀ b, X b → b < W.heap.size ∨ w'.heap.size ≤ b) → Dr X w' q l) ∧ Below W.heap.size W w' := by
  have kc := clone_any h hl
  clear h
  go_enter Tryz.func9, Tryz.ntmps9
  go_wp2_with (go_at_call 37; refine kc.mono ?_; rintro e w1 ⟨v, rfl, ho, hb⟩; obtain ⟨a, cc, rfl⟩ := ho.shape)
  go_ret
  refine ⟨w1.heap.size, rfl, hb.size, by simp, fun X hX => ⟨a, cc, Bx.new _ _ _, ?_, ?_, fun h0 => ?_⟩, hb.alloc hb.size _⟩
  · rcases ho.2 with ⟨e1, e2⟩ | ⟨g, cap, cur, e1, _, _, hn, _⟩
    · omega
    · injection e1 with _ _ e3; omega
  · rcases ho.2 with ⟨e1, e2⟩ | ⟨g, cap, cur, e1, _, _, hn, hm, _⟩
    · injection e1 with _ _ e3; omega
    · injection e1 with _ _ e3; unfold maxLen at hm; omega
  · obtain ⟨g, c2, e1, hB, hg, _, hcells⟩ := ho.at h0
    injection e1 with e1 _ _
    refine ⟨g, 0, e1, by simp; omega, by omega, fun q => ?_, fun i x hx => ?_⟩
    · rcases hX g q with h1 | h1
      · omega
      · simp at h1; omega
    · have := (((Below.refl w1.heap.size w1).alloc (Nat.le_refl _) (Obj.cells #[.slice a l.length cc] 79)).cell (p := ⟨g, i, none⟩) hg).trans (hcells i x hx)
      simpa using this

end Go.Proofs.YthkliicmoandmaaGreatDoor
