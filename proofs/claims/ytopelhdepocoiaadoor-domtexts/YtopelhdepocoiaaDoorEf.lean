/-
  What is proved here: what dom.overlaps, dom.Cut and dom.Both return of any ranges.
-/
import Derived.Test.YtopelhdepocoiaaDoorEe
import Derived.Test.YtopelhdepocoiaaDoorVe
namespace Go.Proofs.YtopelhdepocoiaaDoor
open Go.RowKit Go.Shelf
set_option linter.unusedVariables false

/-- Ranges as they are taken: none, if they are not right. -/
def tk (l : List Rg) : List Rg := if Right l then l else []
theorem right_nil : Right [] := ⟨by simp, fun i hi => by simp at hi⟩
theorem tk_right (l : List Rg) : Right (tk l) := by unfold tk; split; assumption; exact right_nil
theorem tk_yes {l : List Rg} (h : Right l) : tk l = l := if_pos h
theorem tk_no {l : List Rg} (h : ¬ Right l) : tk l = [] := if_neg h
theorem Sr.nil (W : World) (cap : Nat) (a : Option Addr) : Sr W (.slice a 0 cap) [] := ⟨a, cap, rfl, fun h => absurd h (by simp)⟩

theorem known_tk (s : Value) (l : List Rg) (w : World) (h : Sr w s l) (hf : FitsR l) :
    Calls Tryd.prog 11 #[s] w fun e w' => ∃ a n c, e = .returned (.slice a n c) ∧ Sr w (.slice a n c) (tk l) ∧ n = (tk l).length ∧ Below w.heap.size w w' := by
  by_cases hR : Right l
  · refine (known_yes s l w h hf hR).mono fun e w' ⟨he, hb⟩ => ?_
    have h0 := h
    obtain ⟨a, cap, rfl, _⟩ := h
    exact ⟨a, _, cap, he, by rw [tk_yes hR]; exact h0, by rw [tk_yes hR], hb⟩
  · refine (known_no s l w h hf hR).mono fun e w' ⟨he, hb⟩ => ?_
    exact ⟨none, 0, 0, he, by rw [tk_no hR]; exact Sr.nil _ _ _, by rw [tk_no hR]; rfl, hb⟩

set_option maxHeartbeats 400000 in
theorem overlaps_any (a1 a2 : Option Addr) (n1 c1 n2 c2 : Nat) (w : World) :
    Calls Tryd.prog 32 #[.slice a1 n1 c1, .slice a2 n2 c2] w fun e w' => e = .returned (.func (.func 46) #[] #[.pointer (some ⟨w.heap.size, 0, none⟩), .pointer (some ⟨w.heap.size + 1, 0, none⟩)]) ∧ w' = (w.alloc (.cells #[.slice a1 n1 c1] 22)).alloc (.cells #[.slice a2 n2 c2] 22) := by
  have hmf : ∀ (fn : Fn) (first cap : Array Value) (w : World), (Instr.makeFunc fn first cap).run Tryd.prog w = .ok (.func fn first cap) w := fun _ _ _ _ => rfl
  go_enter Tryd.func32, Tryd.ntmps32
  go_wp2
  go_ret
  exact ⟨rfl, rfl⟩

theorem Lists.mk {W W1 : World} {B : Nat} {s : Value} {l : List Rg} (h : Sr W s l) (hb : Below W.heap.size W W1) (hB : Boxed W1 B 22 s) : Lists W1.heap.size W1 B l := by
  obtain ⟨a, cap, rfl, hc⟩ := h
  refine ⟨_, hB.lt, hB.cell, a, cap, rfl, fun h0 => ?_⟩
  obtain ⟨b, off, e, hlt, hcell⟩ := hc h0
  exact ⟨b, off, e, Nat.lt_of_lt_of_le hlt hb.size, fun i hi => ⟨(hb.cell (p := ⟨b, off + i * 2, none⟩) hlt).trans (hcell i hi).1, (hb.cell (p := ⟨b, off + i * 2 + 1, none⟩) hlt).trans (hcell i hi).2⟩⟩
theorem JoinEnd.down {L : List Rg} {W W1 w' : World} {e : Ending} (h : JoinEnd L W1 e w') (hb : Below W.heap.size W W1) : JoinEnd L W e w' := by
  obtain ⟨s, c, he, h1, h2⟩ := h
  refine ⟨s, c, he, hb.trans (h1.mono hb.size), ?_⟩
  rcases h2 with ⟨e1, e2, e3, e4⟩ | h2
  · exact .inl ⟨e1, e2, own_base e3 hb.size, e4⟩
  · exact .inr h2

theorem joinO (A B : Nat) (s1 s2 : Value) (a b : List Rg) (W : World) (eA : A = W.heap.size) (eB : B = W.heap.size + 1) (h1 : Sr W s1 a) (h2 : Sr W s2 b) (ha : ∀ i, i < a.length → -1000000 ≤ lo a i ∧ hi a i ≤ 1000000) (hla : a.length ≤ 5000) (hlb : b.length ≤ 5000) :
    Calls Tryd.prog 31 #[.func (.func 46) #[] #[.pointer (some ⟨A, 0, none⟩), .pointer (some ⟨B, 0, none⟩)]] ((W.alloc (.cells #[s1] 22)).alloc (.cells #[s2] 22)) fun e w' => JoinEnd (ov a b) W e w' := by
  subst eA eB
  have hb : Below W.heap.size W ((W.alloc (.cells #[s1] 22)).alloc (.cells #[s2] 22)) := ((Below.refl _ W).alloc (Nat.le_refl _) _).alloc (by simp) _
  have b1 : Boxed ((W.alloc (.cells #[s1] 22)).alloc (.cells #[s2] 22)) W.heap.size 22 s1 := (Boxed.new W 22 s1).alloc _
  have b2 : Boxed ((W.alloc (.cells #[s1] 22)).alloc (.cells #[s2] 22)) (W.heap.size + 1) 22 s2 := by have h9 := Boxed.new (W.alloc (.cells #[s1] 22)) 22 s2; rw [World.size_alloc] at h9; exact h9
  have L1 := Lists.mk h1 hb b1
  have L2 := Lists.mk h2 hb b2
  obtain ⟨W1, hW1⟩ : ∃ W1, ((W.alloc (.cells #[s1] 22)).alloc (.cells #[s2] 22)) = W1 := ⟨_, rfl⟩
  rw [hW1] at hb L1 L2 ⊢
  refine (join_any 46 _ (ov a b) 20000 W1 (enters_of Tryd.func46 (by kernel_rfl) rfl) ?_).mono fun e w' h => h.down hb
  exact fun lr J Jx X hX hJ _ hY h0 => overlaps1_in 5 (by decide) lr W.heap.size (W.heap.size + 1) W1.heap.size a b ha hla hlb J Jx hY X hX.size hJ (L1.below hX) (L2.below hX) h0

theorem right_bounds {l : List Rg} (h : Right l) : ∀ i, i < l.length → -1000000 ≤ lo l i ∧ hi l i ≤ 1000000 := fun i hi => by
  have := h.2 i hi; unfold OkAt at this; exact ⟨this.2.1, this.2.2.1⟩
theorem Sr.one (w : World) (x y : Int) : Sr (w.alloc (.cells #[.int .i64 x, .int .i64 y] 34)) (.slice (some ⟨w.heap.size, 0, none⟩) 1 1) [(x, y)] := by
  refine ⟨_, 1, rfl, fun _ => ⟨w.heap.size, 0, rfl, by simp, fun i hi => ?_⟩⟩
  obtain rfl : i = 0 := by simpa using hi
  have h := Two.new w x y
  exact ⟨h.c0, h.c1⟩
theorem cutL_le (l : List Rg) (x y : Int) : (cutL l x y).length ≤ l.length := by unfold cutL; exact List.length_filterMap_le _ _
theorem cutL_ord {l : List Rg} (h : Ord l) (x y : Int) : Ord (cutL l x y) := by
  by_cases hxy : x ≤ y
  · have e : pieces [(x, y)] l = cutL l x y := by simp [pieces]
    rw [← e]
    exact ord_pieces ⟨fun r hr => by rw [List.mem_singleton] at hr; rw [hr]; exact hxy, List.pairwise_singleton _ _⟩ h
  · rw [← ov_cut h, ov, ovF_none l x y (by omega) _ 0 0 (Nat.le_refl _)]
    exact ⟨fun r hr => (by cases hr), List.Pairwise.nil⟩

/-- What Both returns. -/
def bothR (a b : List Rg) : List Rg := if (ov (tk a) (tk b)).length ≤ 4096 then ov (tk a) (tk b) else tk a
end Go.Proofs.YtopelhdepocoiaaDoor

