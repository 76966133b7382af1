/-
  What is proved here: what dom.overlaps, dom.Cut and dom.Both return of any ranges.
-/
import Derived.Test.YtaeobgajhieajaaGreatDoorZEe
import Derived.Test.YtaeobgajhieajaaGreatDoorZVe
namespace Go.Proofs.YtaeobgajhieajaaGreatDoor.Dm
open Go.RowKit Go.Shelf
set_option linter.unusedVariables false

/-- Ranges as they are taken: none, if they are not right. -/
def tk (l : List Rg) : List Rg := if Right l then l else []
theorem right_nil : Right [] := ⟨by simp, fun i hi => by simp at hi⟩
theorem tk_right (l : List Rg) : Right (tk l) := by unfold tk; split; assumption; exact right_nil
theorem tk_yes {l : List Rg} (h : Right l) : tk l = l := if_pos h
theorem tk_no {l : List Rg} (h : ¬ Right l) : tk l = [] := if_neg h
theorem Sr.nil (W : World) (cap : Nat) (a : Option Addr) : Sr W (.slice a 0 cap) [] := ⟨a, cap, rfl, fun h => absurd h (by simp)⟩

theorem known_tk (s : Value) (l : List Rg) (w : World) (h : Sr w s l) (hf : FitsR l) :
    Calls Tryz.prog 137 #[s] w fun e w' => ∃ a n c, e = .returned (.slice a n c) ∧ Sr w (.slice a n c) (tk l) ∧ n = (tk l).length ∧ Below w.heap.size w w' := by
  by_cases hR : Right l
  · refine (known_yes s l w h hf hR).mono fun e w' ⟨he, hb⟩ => ?_
    have h0 := h
    obtain ⟨a, cap, rfl, _⟩ := h
    exact ⟨a, _, cap, he, by rw [tk_yes hR]; exact h0, by rw [tk_yes hR], hb⟩
  · refine (known_no s l w h hf hR).mono fun e w' ⟨he, hb⟩ => ?_
    exact ⟨none, 0, 0, he, by rw [tk_no hR]; exact Sr.nil _ _ _, by rw [tk_no hR]; rfl, hb⟩

theorem Lists.mk {W W1 : World} {B : Nat} {s : Value} {l : List Rg} (h : Sr W s l) (hb : Below W.heap.size W W1) (hB : Boxed W1 B 148 s) : Lists W1.heap.size W1 B l := by
  obtain ⟨a, cap, rfl, hc⟩ := h
  refine ⟨_, hB.lt, hB.cell, a, cap, rfl, fun h0 => ?_⟩
  obtain ⟨b, off, e, hlt, hcell⟩ := hc h0
  exact ⟨b, off, e, Nat.lt_of_lt_of_le hlt hb.size, fun i hi => ⟨(hb.cell (p := ⟨b, off + i * 2, none⟩) hlt).trans (hcell i hi).1, (hb.cell (p := ⟨b, off + i * 2 + 1, none⟩) hlt).trans (hcell i hi).2⟩⟩
theorem JoinEnd.down {L : List Rg} {W W1 w' : World} {e : Ending} (h : JoinEnd L W1 e w') (hb : Below W.heap.size W W1) : JoinEnd L W e w' := by
  obtain ⟨s, c, he, h1, h2⟩ := h
  refine ⟨s, c, he, hb.trans (h1.mono hb.size), ?_⟩
  rcases h2 with ⟨e1, e2, e3, e4⟩ | h2
  · exact .inl ⟨e1, e2, own_base e3 hb.size, e4⟩
  · exact .inr h2

theorem right_bounds {l : List Rg} (h : Right l) : ∀ i, i < l.length → -1000000 ≤ lo l i ∧ hi l i ≤ 1000000 := fun i hi => by
  have := h.2 i hi; unfold OkAt at this; exact ⟨this.2.1, this.2.2.1⟩
theorem Sr.one (w : World) (x y : Int) : Sr (w.alloc (.cells #[.int .i64 x, .int .i64 y] 161)) (.slice (some ⟨w.heap.size, 0, none⟩) 1 1) [(x, y)] := by
  refine ⟨_, 1, rfl, fun _ => ⟨w.heap.size, 0, rfl, by simp, fun i hi => ?_⟩⟩
  obtain rfl : i = 0 := by simpa using hi
  have h := Two.new w x y
  exact ⟨h.c0, h.c1⟩
theorem cutL_le (l : List Rg) (x y : Int) : (cutL l x y).length ≤ l.length := by unfold cutL; exact List.length_filterMap_le _ _
theorem cutL_ord {l : List Rg} (h : Ord l) (x y : Int) : Ord (cutL l x y) := by
  by_cases hxy : x ≤ y
  · have e : pieces [(x, y)] l = cutL l x y := by simp [pieces]
    rw [← e]
    exact ord_pieces ⟨fun r hr => by rw [List.mem_singleton] at hr; rw [hr]; exact hxy, List.pairwise_singleton _ _⟩ h
  · rw [← ov_cut h, ov, ovF_none l x y (by omega) _ 0 0 (Nat.le_refl _)]
    exact ⟨fun r hr => (by cases hr), List.Pairwise.nil⟩

/-- What Both returns. -/
def bothR (a b : List Rg) : List Rg := if (ov (tk a) (tk b)).length ≤ 4096 then ov (tk a) (tk b) else tk a
end Go.Proofs.YtaeobgajhieajaaGreatDoor.Dm

