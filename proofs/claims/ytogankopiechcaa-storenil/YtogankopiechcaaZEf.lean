/-
  What is proved here: what dom.overlaps, dom.Cut and dom.Both return of any ranges.
-/
import Derived.Test.YtogankopiechcaaZEe
import Derived.Test.YtogankopiechcaaZVe
namespace Go.Proofs.Ytogankopiechcaa.Dm
set_option linter.unusedSimpArgs false
set_option linter.unusedVariables false
open Go.RowKit Go.Shelf
set_option linter.unusedVariables false

/-- Ranges as they are taken: none, if they are not right. -/
def tk (l : List Rg) : List Rg := if Right l then l else []
theorem right_nil : Right [] := ⟨by simp, fun i hi => by simp at hi⟩
theorem tk_right (l : List Rg) : Right (tk l) := by unfold tk; split; assumption; exact right_nil
theorem tk_yes {l : List Rg} (h : Right l) : tk l = l := if_pos h
theorem tk_no {l : List Rg} (h : ¬ Right l) : tk l = [] := if_neg h
theorem Sr.nil (W : World) (cap : Nat) (a : Option Addr) : Sr W (.slice a 0 cap) [] := ⟨a, cap, rfl, fun h => absurd h (by simp)⟩

theorem known_tk (s : Value) (l : List Rg) (w : World) (h : Sr w s l) (hf : FitsR l) :
    Calls Try.prog 51 #[s] w fun e w' => ∃ a n c, e = .returned (.slice a n c) ∧ Sr w (.slice a n c) (tk l) ∧ n = (tk l).length ∧ Below w.heap.size w w' := by
  by_cases hR : Right l
  · refine (known_yes s l w h hf hR).mono fun e w' ⟨he, hb⟩ => ?_
    have h0 := h
    obtain ⟨a, cap, rfl, _⟩ := h
    exact ⟨a, _, cap, he, by rw [tk_yes hR]; exact h0, by rw [tk_yes hR], hb⟩
  · refine (known_no s l w h hf hR).mono fun e w' ⟨he, hb⟩ => ?_
    exact ⟨none, 0, 0, he, by rw [tk_no hR]; exact Sr.nil _ _ _, by rw [tk_no hR]; rfl, hb⟩

set_option maxHeartbeats 400000 in
theorem overlaps_any (a1 a2 : Option Addr) (n1 c1 n2 c2 : Nat) (w : World) :
    Calls Try.prog 65 #[.slice a1 n1 c1, .slice a2 n2 c2] w fun e w' => e = .returned (.func (.func 70) #[] #[.pointer (some ⟨w.heap.size, 0, none⟩), .pointer (some ⟨w.heap.size + 1, 0, none⟩)]) ∧ w' = (w.alloc (.cells #[.slice a1 n1 c1] 22)).alloc (.cells #[.slice a2 n2 c2] 22) := by
  have hmf : ∀ (fn : Fn) (first cap : Array Value) (w : World), (Instr.makeFunc fn first cap).run Try.prog w = .ok (.func fn first cap) w := fun _ _ _ _ => rfl
  go_enter Try.func65, Try.ntmps65
  go_wp2
  go_ret
  exact ⟨rfl, rfl⟩

theorem Lists.mk {W W1 : World} {B : Nat} {s : Value} {l : List Rg} (h : Sr W s l) (hb : Below W.heap.size W W1) (hB : Boxed W1 B 22 s) : Lists W1.heap.size W1 B l := by
  obtain ⟨a, cap, rfl, hc⟩ := h
  refine ⟨_, hB.lt, hB.cell, a, cap, rfl, fun h0 => ?_⟩
  obtain ⟨b, off, e, hlt, hcell⟩ := hc h0
  exact ⟨b, off, e, Nat.lt_of_lt_of_le hlt hb.size, fun i hi => ⟨(hb.cell (p := ⟨b, off + i * 2, none⟩) hlt).trans (hcell i hi).1, (hb.cell (p := ⟨b, off + i * 2 + 1, none⟩) hlt).trans (hcell i hi).2⟩⟩
theorem JoinEnd.down {L : List Rg} {W W1 w' : World} {e : Ending} (h : JoinEnd L W1 e w') (hb : Below W.heap.size W W1) : JoinEnd L W e w' := by
  obtain ⟨s, c, he, h1, h2⟩ := h
  refine ⟨s, c, he, hb.trans (h1.mono hb.size), ?_⟩
  rcases h2 with ⟨e1, e2, e3, e4⟩ | h2
  · exact .inl ⟨e1, e2, own_base e3 hb.size, e4⟩
  · exact .inr h2

theorem joinO (A B : Nat) (s1 s2 : Value) (a b : List Rg) (W : World) (eA : A = W.heap.size) (eB : B = W.heap.size + 1) (h1 : Sr W s1 a) (h2 : Sr W s2 b) (ha : ∀ i, i < a.length → -1000000 ≤ lo a i ∧ hi a i ≤ 1000000) (hla : a.length ≤ 5000) (hlb : b.length ≤ 5000) :
    Calls Try.prog 64 #[.func (.func 70) #[] #[.pointer (some ⟨A, 0, none⟩), .pointer (some ⟨B, 0, none⟩)]] ((W.alloc (.cells #[s1] 22)).alloc (.cells #[s2] 22)) fun e w' => JoinEnd (ov a b) W e w' := by
  subst eA eB
  have hb : Below W.heap.size W ((W.alloc (.cells #[s1] 22)).alloc (.cells #[s2] 22)) := ((Below.refl _ W).alloc (Nat.le_refl _) _).alloc (by simp) _
  have b1 : Boxed ((W.alloc (.cells #[s1] 22)).alloc (.cells #[s2] 22)) W.heap.size 22 s1 := (Boxed.new W 22 s1).alloc _
  have b2 : Boxed ((W.alloc (.cells #[s1] 22)).alloc (.cells #[s2] 22)) (W.heap.size + 1) 22 s2 := by have h9 := Boxed.new (W.alloc (.cells #[s1] 22)) 22 s2; rw [World.size_alloc] at h9; exact h9
  have L1 := Lists.mk h1 hb b1
  have L2 := Lists.mk h2 hb b2
  obtain ⟨W1, hW1⟩ : ∃ W1, ((W.alloc (.cells #[s1] 22)).alloc (.cells #[s2] 22)) = W1 := ⟨_, rfl⟩
  rw [hW1] at hb L1 L2 ⊢
  refine (join_any 70 _ (ov a b) 20000 W1 (enters_of Try.func70 (by kernel_rfl) rfl) ?_).mono fun e w' h => h.down hb
  exact fun lr J Jx X hX hJ _ hY h0 => overlaps1_in 5 (by decide) lr W.heap.size (W.heap.size + 1) W1.heap.size a b ha hla hlb J Jx hY X hX.size hJ (L1.below hX) (L2.below hX) h0

theorem right_bounds {l : List Rg} (h : Right l) : ∀ i, i < l.length → -1000000 ≤ lo l i ∧ hi l i ≤ 1000000 := fun i hi => by
  have := h.2 i hi; unfold OkAt at this; exact ⟨this.2.1, this.2.2.1⟩
theorem Sr.one (w : World) (x y : Int) : Sr (w.alloc (.cells #[.int .i64 x, .int .i64 y] 65)) (.slice (some ⟨w.heap.size, 0, none⟩) 1 1) [(x, y)] := by
  refine ⟨_, 1, rfl, fun _ => ⟨w.heap.size, 0, rfl, by simp, fun i hi => ?_⟩⟩
  obtain rfl : i = 0 := by simpa using hi
  have h := Two.new w x y
  exact ⟨h.c0, h.c1⟩
theorem cutL_le (l : List Rg) (x y : Int) : (cutL l x y).length ≤ l.length := by unfold cutL; exact List.length_filterMap_le _ _
theorem cutL_ord {l : List Rg} (h : Ord l) (x y : Int) : Ord (cutL l x y) := by
  by_cases hxy : x ≤ y
  · have e : pieces [(x, y)] l = cutL l x y := by simp [pieces]
    rw [← e]
    exact ord_pieces ⟨fun r hr => by rw [List.mem_singleton] at hr; rw [hr]; exact hxy, List.pairwise_singleton _ _⟩ h
  · rw [← ov_cut h, ov, ovF_none l x y (by omega) _ 0 0 (Nat.le_refl _)]
    exact ⟨fun r hr => (by cases hr), List.Pairwise.nil⟩

theorem clone_any (a : Option Addr) (n c : Nat) (l : List Rg) (w : World) (h : Sr w (.slice a n c) l) (h0 : 0 < l.length) (hlen : l.length ≤ 4096) :
    Calls Try.prog 35 #[.slice a n c] w fun e w' => ∃ s, e = .returned s ∧ w'.ownsRow w.heap.size 65 2 s l.length (flat l) ∧ Below w.heap.size w w' := by
  obtain ⟨a', cap, e, hc⟩ := h
  injection e with e1 e2 e3
  subst e1 e2 e3
  obtain ⟨b, off, rfl, _, hcell⟩ := hc h0
  exact clone_some b off c l w hlen hcell

/-- What Both returns. -/
def bothR (a b : List Rg) : List Rg := if (ov (tk a) (tk b)).length ≤ 4096 then ov (tk a) (tk b) else tk a
set_option maxRecDepth 100000 in
set_option maxHeartbeats 1000000 in
/-- Both, of any ranges. -/
theorem domboth_any (s1 s2 : Value) (la lb : List Rg) (w : World) (h1 : Sr w s1 la) (h2 : Sr w s2 lb) (hf1 : FitsR la) (hf2 : FitsR lb) :
    Calls Try.prog 56 #[s1, s2] w fun e w' => ∃ s', e = .returned s' ∧ w'.ownsRow w.heap.size 65 2 s' (bothR la lb).length (flat (bothR la lb)) ∧ Below w.heap.size w w' := by
  have hk1 := known_tk s1 la w h1 hf1
  have hk2 := fun W (hW : Below w.heap.size w W) => known_tk s2 lb W (h2.below hW) hf2
  have hRa := tk_right la
  have hRb := tk_right lb
  obtain ⟨a1, c1, rfl, _⟩ := h1
  obtain ⟨a2, c2, rfl, _⟩ := h2
  have HRa : Hid (Right (tk la)) := hRa
  have HRb : Hid (Right (tk lb)) := hRb
  clear hRa hRb hf1 hf2
  go_enter Try.func56, Try.ntmps56
  go_wp2_with fail
  refine hk1.mono ?_
  clear hk1
  rintro e w1 ⟨a, n, c, rfl, hS1, hn1, hb1⟩
  have HS1 : Hid (Sr w (.slice a n c) (tk la)) := hS1
  clear hS1 hn1
  go_wp2_with fail
  refine (hk2 _ hb1).mono ?_
  clear hk2
  rintro e w2 ⟨a', n', c', rfl, hS2, hn2, hb2⟩
  have hb12 : Below w.heap.size w w2 := hb1.trans (hb2.mono hb1.size)
  have HS2 : Hid (Sr w2 (.slice a' n' c') (tk lb)) := hS2.below hb2
  clear hS2 hn2 hb2
  go_wp2_with fail
  refine (overlaps_any _ _ _ _ _ _ _).mono ?_
  rintro e w3 ⟨rfl, rfl⟩
  go_wp2_with fail
  refine (joinO _ _ _ _ (tk la) (tk lb) _ rfl rfl (HS1.out.below hb12) HS2.out (right_bounds HRa.out) (by have := HRa.out.1; omega) (by have := HRb.out.1; omega)).mono ?_
  rintro e w4 hJ
  have hJ := hJ.down hb12
  have hof := ov_facts (right_ord HRa.out).1 (right_ord HRb.out).1
  obtain ⟨s', cc, rfl, hb4, hcase⟩ := hJ
  rw [joinF_ord _ hof.1] at hcase
  have HOF : Hid _ := hof
  clear hof
  rcases hcase with ⟨rfl, hle, hrow, hnil⟩ | ⟨rfl, hgt, rfl⟩
  · have HROW : Hid _ := hrow
    have HLE : Hid ((ov (tk la) (tk lb)).length ≤ 4096) := hle
    clear hrow hle hnil
    go_wp2
    go_ret
    refine ⟨s', rfl, ?_, hb4⟩
    unfold bothR
    rw [if_pos HLE.out]
    exact HROW.out
  · have HGT : Hid (4096 < (ov (tk la) (tk lb)).length) := hgt
    have hbw : bothR la lb = tk la := if_neg (by have h9 := HGT.out; omega)
    have HBW : Hid _ := hbw
    have hl0 : 0 < (tk la).length := by
      have h9 := HGT.out
      apply Classical.byContradiction
      intro hn
      have e0 : (tk la).length = 0 := by omega
      have e1 : ov (tk la) (tk lb) = [] := ovF_no _ _ _ _ (by omega)
      rw [e1] at h9
      simp at h9
    clear hgt hbw
    go_wp2_with fail
    refine (clone_any _ _ _ _ _ (HS1.out.below hb4) hl0 HRa.out.1).mono ?_
    rintro e w5 ⟨s5, rfl, hrow5, hb5⟩
    go_wp2
    go_ret
    refine ⟨s5, rfl, ?_, hb4.trans (hb5.mono hb4.size)⟩
    rw [HBW.out]
    exact own_base hrow5 hb4.size
end Go.Proofs.Ytogankopiechcaa.Dm

