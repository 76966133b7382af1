/-
  What is proved here: the algebra of ranges: both, either, less and not, as sets of values, and how many values they have (mathematics alone).
  What is proved here: Without of the reference and of dom, of any ranges. dom.Without of any ranges, and what the reference's Spoil leaves.
-/
import Derived.Test.YthkliicmoandmaaGreatDoorZStj
import Derived.Test.YthkliicmoandmaaGreatDoorZEfj
import Derived.Lib.AppendZerosOnto
import Derived.WalkMore
import Derived.Maps.AppendAt
namespace Go.Proofs.YthkliicmoandmaaGreatDoor.Dm
set_option linter.unusedSimpArgs false
set_option linter.unusedVariables false
set_option linter.unusedVariables false

theorem mem_less {a b : List Rg} (ha : Right a) (hb : Right b) (v : Int) : v ∈ vals (ov a (notL b)) ↔ v ∈ vals a ∧ v ∉ vals b := by
  rw [(ov_facts (right_ord ha).1 (notL_facts hb).1).2, (notL_facts hb).2]
  constructor
  · rintro ⟨h1, _, _, h2⟩; exact ⟨h1, h2⟩
  · rintro ⟨h1, h2⟩; have := vals_bounds ha v h1; exact ⟨h1, this.1, this.2, h2⟩
theorem sizeR_vals {l : List Rg} (h : ∀ r ∈ l, r.1 ≤ r.2) : sizeR l = ((vals l).length : Int) := by
  induction l with
  | nil => rfl
  | cons r t ih =>
    have e : vals (r :: t) = span r.1 r.2 ++ vals t := by unfold vals; rw [List.flatMap_cons]
    have hr := h r (by simp)
    have it := ih fun q hq => h q (by simp [hq])
    rw [e, List.length_append, span_length]
    unfold sizeR at it ⊢
    rw [List.map_cons, List.sum_cons, it]
    omega
end Go.Proofs.YthkliicmoandmaaGreatDoor.Dm


namespace Go.Proofs.YthkliicmoandmaaGreatDoor.Dm
set_option linter.unusedSimpArgs false
set_option linter.unusedVariables false
open Go.RowKit Go.Shelf
set_option linter.unusedVariables false

/-- What is left of a range without a value. -/
def wo1 (v : Int) (r : Rg) : List Rg := if v < r.1 ∨ r.2 < v then [r] else (if r.1 < v then [(r.1, v - 1)] else []) ++ (if v < r.2 then [(v + 1, r.2)] else [])
def woL (l : List Rg) (v : Int) : List Rg := l.flatMap (wo1 v)
def woR (l : List Rg) (v : Int) : List Rg := if (woL (tk l) v).length ≤ 4096 then woL (tk l) v else tk l
theorem wo1_facts (v : Int) (r : Rg) (h : r.1 ≤ r.2) : Ord (wo1 v r) ∧ (∀ p ∈ wo1 v r, r.1 ≤ p.1 ∧ p.2 ≤ r.2) ∧ ∀ x, x ∈ vals (wo1 v r) ↔ (r.1 ≤ x ∧ x ≤ r.2 ∧ x ≠ v) := by
  obtain ⟨a, b⟩ := r
  dsimp only at h
  unfold wo1
  dsimp only
  by_cases h1 : v < a ∨ b < v
  · rw [if_pos h1]
    refine ⟨⟨fun p hp => by rw [List.mem_singleton] at hp; rw [hp]; exact h, List.pairwise_singleton _ _⟩, fun p hp => by rw [List.mem_singleton] at hp; rw [hp]; exact ⟨Int.le_refl _, Int.le_refl _⟩, fun x => ?_⟩
    rw [vals_cons]; simp only [vals, List.flatMap_nil, List.not_mem_nil, or_false]; omega
  · rw [if_neg h1]
    by_cases h2 : a < v
    · rw [if_pos h2]
      by_cases h3 : v < b
      · rw [if_pos h3]
        refine ⟨⟨fun p hp => ?_, ?_⟩, fun p hp => ?_, fun x => ?_⟩
        · simp at hp; rcases hp with rfl | rfl <;> dsimp only <;> omega
        · simp; omega
        · simp at hp; rcases hp with rfl | rfl <;> dsimp only <;> omega
        · rw [List.singleton_append, vals_cons, vals_cons]; simp only [vals, List.flatMap_nil, List.not_mem_nil, or_false]; omega
      · rw [if_neg h3]
        refine ⟨⟨fun p hp => ?_, ?_⟩, fun p hp => ?_, fun x => ?_⟩
        · simp at hp; rw [hp]; dsimp only; omega
        · simp
        · simp at hp; rw [hp]; dsimp only; omega
        · rw [List.append_nil, vals_cons]; simp only [vals, List.flatMap_nil, List.not_mem_nil, or_false]; omega
    · rw [if_neg h2]
      by_cases h3 : v < b
      · rw [if_pos h3]
        refine ⟨⟨fun p hp => ?_, ?_⟩, fun p hp => ?_, fun x => ?_⟩
        · simp at hp; rw [hp]; dsimp only; omega
        · simp
        · simp at hp; rw [hp]; dsimp only; omega
        · rw [List.nil_append, vals_cons]; simp only [vals, List.flatMap_nil, List.not_mem_nil, or_false]; omega
      · rw [if_neg h3]
        refine ⟨⟨fun p hp => by simp at hp, by simp⟩, fun p hp => by simp at hp, fun x => ?_⟩
        simp [vals]; omega
theorem wo_facts {l : List Rg} (v : Int) (h : Ord l) : Ord (woL l v) ∧ (∀ x, x ∈ vals (woL l v) ↔ x ∈ vals l ∧ x ≠ v) := by
  induction l with
  | nil => exact ⟨⟨fun r hr => absurd hr (by simp [woL]), List.Pairwise.nil⟩, fun x => by simp [woL, vals]⟩
  | cons r t ih =>
    obtain ⟨h1, h2, h3⟩ := ord_cons h
    obtain ⟨i1, i2⟩ := ih h2
    obtain ⟨f1, f2, f3⟩ := wo1_facts v r h1
    have e : woL (r :: t) v = wo1 v r ++ woL t v := by unfold woL; rw [List.flatMap_cons]
    rw [e]
    refine ⟨⟨fun p hp => ?_, ?_⟩, fun x => ?_⟩
    · rcases List.mem_append.1 hp with h9 | h9
      · exact f1.1 p h9
      · exact i1.1 p h9
    · rw [List.pairwise_append]
      refine ⟨f1.2, i1.2, fun p hp q hq => ?_⟩
      have hq1 : q.1 ∈ vals (woL t v) := (mem_vals' _ _).2 ⟨q, hq, Int.le_refl _, i1.1 q hq⟩
      have := h3 _ ((i2 _).1 hq1).1
      have := (f2 p hp).2
      omega
    · rw [vals_append, List.mem_append, f3, i2, vals_cons]
      constructor
      · rintro (⟨a, b, c⟩ | ⟨a, b⟩)
        · exact ⟨.inl ⟨a, b⟩, c⟩
        · exact ⟨.inr a, b⟩
      · rintro ⟨a | a, b⟩
        · exact .inl ⟨a.1, a.2, b⟩
        · exact .inr ⟨a, b⟩
theorem tk_one (v : Int) : tk [(v, v)] = if -1000000 ≤ v ∧ v ≤ 1000000 then [(v, v)] else [] := by
  by_cases h : -1000000 ≤ v ∧ v ≤ 1000000
  · rw [if_pos h]
    exact tk_yes (ord_right ⟨fun r hr => by rw [List.mem_singleton] at hr; rw [hr]; exact Int.le_refl _, List.pairwise_singleton _ _⟩ (fun r hr => by rw [List.mem_singleton] at hr; rw [hr]; exact h) (by simp))
  · rw [if_neg h]
    refine tk_no fun hR => h ?_
    have := (right_ord hR).2 (v, v) (by simp)
    exact this
theorem wo_less (l : List Rg) (v : Int) : ov (tk l) (notL (tk [(v, v)])) = woL (tk l) v := by
  have ha := tk_right l
  have hb := tk_right [(v, v)]
  have f := wo_facts v (right_ord ha).1
  refine ord_ext (ov_facts (right_ord ha).1 (notL_facts hb).1).1 f.1 fun x => ?_
  rw [mem_less ha hb, f.2, tk_one]
  by_cases h : -1000000 ≤ v ∧ v ≤ 1000000
  · rw [if_pos h]
    refine and_congr_right fun _ => not_congr ?_
    rw [vals_cons]; simp only [vals, List.flatMap_nil, List.not_mem_nil, or_false]; omega
  · rw [if_neg h]
    constructor
    · rintro ⟨h1, _⟩
      have := vals_bounds ha x h1
      exact ⟨h1, fun e => h (by omega)⟩
    · rintro ⟨h1, _⟩
      exact ⟨h1, by simp [vals]⟩
theorem fits_one {v : Int} (h : Fits v) : FitsR [(v, v)] := fun i hi' => by
  have : i = 0 := by simpa using hi'
  subst this
  exact ⟨h, h⟩
set_option maxRecDepth 100000 in
set_option maxHeartbeats 2000000 in
theorem domwithout_any (s : Value) (l : List Rg) (v : Int) (w : World) (h : Sr w s l) (hf : FitsR l) (hv : Fits v) :
    Calls Tryz.prog 98 #[s, .int .i64 v] w fun e w' => ∃ s', e = .returned s' ∧ w'.ownsRow w.heap.size 92 2 s' (woR l v).length (flat (woR l v)) ∧ Below w.heap.size w w' := by
  have hb0 : Below w.heap.size w (w.alloc (.cells #[.int .i64 v, .int .i64 v] 92)) := (Below.refl _ _).alloc (Nat.le_refl _) _
  have hls := domless_any _ _ l [(v, v)] (w.alloc (.cells #[.int .i64 v, .int .i64 v] 92)) (h.below hb0) (Sr.one w v v) hf (fits_one hv)
  have HS : Hid (Sr w s l) := h
  obtain ⟨a0, c0, rfl, _⟩ := h
  obtain ⟨n0, hn0⟩ : ∃ n, l.length = n := ⟨_, rfl⟩
  have HN : Hid (l.length = n0) := hn0
  rw [hn0] at hls HS ⊢
  clear hf hv hn0
  go_enter Tryz.func98, Tryz.ntmps98
  go_wp2_with fail
  refine hls.mono ?_
  clear hls
  rintro e w1 ⟨s1, cc, rfl, hb1, hcase⟩
  have hb01 : Below w.heap.size w w1 := hb0.trans (hb1.mono hb0.size)
  rw [wo_less] at hcase
  rcases hcase with ⟨rfl, hle, hrow, _⟩ | ⟨rfl, hgt, rfl⟩
  · have HROW : Hid (w1.ownsRow w.heap.size 92 2 s1 (woL (tk l) v).length (flat (woL (tk l) v))) := own_base hrow hb0.size
    have HLE : Hid ((woL (tk l) v).length ≤ 4096) := hle
    clear hrow hle
    go_wp2
    go_ret
    refine ⟨_, rfl, ?_, hb01⟩
    have e : woR l v = woL (tk l) v := if_pos HLE.out
    rw [e]
    exact HROW.out
  · have hR : Right l := by
      apply Classical.byContradiction; intro hn
      rw [tk_no hn] at hgt
      simp [woL] at hgt
    have h0 : 0 < l.length := by
      apply Classical.byContradiction; intro hn
      have : l = [] := List.eq_nil_of_length_eq_zero (by omega)
      rw [this, tk_yes right_nil] at hgt
      simp [woL] at hgt
    have hcl := clone_any a0 n0 c0 l w1 (HS.out.below hb01) h0 hR.1
    have HWO : Hid (woR l v = l) := by
      unfold Hid woR
      rw [if_neg (by omega)]
      exact tk_yes hR
    clear hgt hR h0
    go_wp2_with fail
    refine hcl.mono ?_
    clear hcl
    rintro e w2 ⟨s2, rfl, hrow, hb2⟩
    have HROW : Hid (w2.ownsRow w1.heap.size 92 2 s2 l.length (flat l)) := hrow
    clear hrow
    go_wp2
    go_ret
    refine ⟨_, rfl, ?_, hb01.trans (hb2.mono hb01.size)⟩
    rw [HWO.out]
    exact own_base HROW.out hb01.size

end Go.Proofs.YthkliicmoandmaaGreatDoor.Dm

