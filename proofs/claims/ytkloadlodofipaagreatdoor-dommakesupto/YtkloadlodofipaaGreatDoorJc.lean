/-
  What is proved here: Without of the reference and of dom, of any ranges. dom.Without of any ranges, and what the reference's Spoil leaves.
-/
import Derived.Test.YtkloadlodofipaaGreatDoorJa
import Derived.Maps.AppendAt
namespace Go.Proofs.YtkloadlodofipaaGreatDoor
open Go.RowKit Go.Shelf
set_option linter.unusedVariables false

/-- What is left of a range without a value. -/
def wo1 (v : Int) (r : Rg) : List Rg := if v < r.1 ∨ r.2 < v then [r] else (if r.1 < v then [(r.1, v - 1)] else []) ++ (if v < r.2 then [(v + 1, r.2)] else [])
def woL (l : List Rg) (v : Int) : List Rg := l.flatMap (wo1 v)
def woR (l : List Rg) (v : Int) : List Rg := if (woL (tk l) v).length ≤ 4096 then woL (tk l) v else tk l
theorem wo1_facts (v : Int) (r : Rg) (h : r.1 ≤ r.2) : Ord (wo1 v r) ∧ (∀ p ∈ wo1 v r, r.1 ≤ p.1 ∧ p.2 ≤ r.2) ∧ ∀ x, x ∈ vals (wo1 v r) ↔ (r.1 ≤ x ∧ x ≤ r.2 ∧ x ≠ v) := by
  obtain ⟨a, b⟩ := r
  dsimp only at h
  unfold wo1
  dsimp only
  by_cases h1 : v < a ∨ b < v
  · rw [if_pos h1]
    refine ⟨⟨fun p hp => by rw [List.mem_singleton] at hp; rw [hp]; exact h, List.pairwise_singleton _ _⟩, fun p hp => by rw [List.mem_singleton] at hp; rw [hp]; exact ⟨Int.le_refl _, Int.le_refl _⟩, fun x => ?_⟩
    rw [vals_cons]; simp only [vals, List.flatMap_nil, List.not_mem_nil, or_false]; omega
  · rw [if_neg h1]
    by_cases h2 : a < v
    · rw [if_pos h2]
      by_cases h3 : v < b
      · rw [if_pos h3]
        refine ⟨⟨fun p hp => ?_, ?_⟩, fun p hp => ?_, fun x => ?_⟩
        · simp at hp; rcases hp with rfl | rfl <;> dsimp only <;> omega
        · simp; omega
        · simp at hp; rcases hp with rfl | rfl <;> dsimp only <;> omega
        · rw [List.singleton_append, vals_cons, vals_cons]; simp only [vals, List.flatMap_nil, List.not_mem_nil, or_false]; omega
      · rw [if_neg h3]
        refine ⟨⟨fun p hp => ?_, ?_⟩, fun p hp => ?_, fun x => ?_⟩
        · simp at hp; rw [hp]; dsimp only; omega
        · simp
        · simp at hp; rw [hp]; dsimp only; omega
        · rw [List.append_nil, vals_cons]; simp only [vals, List.flatMap_nil, List.not_mem_nil, or_false]; omega
    · rw [if_neg h2]
      by_cases h3 : v < b
      · rw [if_pos h3]
        refine ⟨⟨fun p hp => ?_, ?_⟩, fun p hp => ?_, fun x => ?_⟩
        · simp at hp; rw [hp]; dsimp only; omega
        · simp
        · simp at hp; rw [hp]; dsimp only; omega
        · rw [List.nil_append, vals_cons]; simp only [vals, List.flatMap_nil, List.not_mem_nil, or_false]; omega
      · rw [if_neg h3]
        refine ⟨⟨fun p hp => by simp at hp, by simp⟩, fun p hp => by simp at hp, fun x => ?_⟩
        simp [vals]; omega
theorem wo_facts {l : List Rg} (v : Int) (h : Ord l) : Ord (woL l v) ∧ (∀ x, x ∈ vals (woL l v) ↔ x ∈ vals l ∧ x ≠ v) := by
  induction l with
  | nil => exact ⟨⟨fun r hr => absurd hr (by simp [woL]), List.Pairwise.nil⟩, fun x => by simp [woL, vals]⟩
  | cons r t ih =>
    obtain ⟨h1, h2, h3⟩ := ord_cons h
    obtain ⟨i1, i2⟩ := ih h2
    obtain ⟨f1, f2, f3⟩ := wo1_facts v r h1
    have e : woL (r :: t) v = wo1 v r ++ woL t v := by unfold woL; rw [List.flatMap_cons]
    rw [e]
    refine ⟨⟨fun p hp => ?_, ?_⟩, fun x => ?_⟩
    · rcases List.mem_append.1 hp with h9 | h9
      · exact f1.1 p h9
      · exact i1.1 p h9
    · rw [List.pairwise_append]
      refine ⟨f1.2, i1.2, fun p hp q hq => ?_⟩
      have hq1 : q.1 ∈ vals (woL t v) := (mem_vals' _ _).2 ⟨q, hq, Int.le_refl _, i1.1 q hq⟩
      have := h3 _ ((i2 _).1 hq1).1
      have := (f2 p hp).2
      omega
    · rw [vals_append, List.mem_append, f3, i2, vals_cons]
      constructor
      · rintro (⟨a, b, c⟩ | ⟨a, b⟩)
        · exact ⟨.inl ⟨a, b⟩, c⟩
        · exact ⟨.inr a, b⟩
      · rintro ⟨a | a, b⟩
        · exact .inl ⟨a.1, a.2, b⟩
        · exact .inr ⟨a, b⟩
theorem wo_len (l : List Rg) (v : Int) : (woL l v).length ≤ 2 * l.length := by
  induction l with
  | nil => simp [woL]
  | cons r t ih =>
    have e : woL (r :: t) v = wo1 v r ++ woL t v := by unfold woL; rw [List.flatMap_cons]
    have h1 : (wo1 v r).length ≤ 2 := by
      unfold wo1
      split
      · simp
      · split <;> split <;> simp
    rw [e, List.length_append, List.length_cons]
    omega
theorem wo_take {l : List Rg} (v : Int) {k : Nat} (hk : k < l.length) : woL (l.take (k + 1)) v = woL (l.take k) v ++ wo1 v (lo l k, hi l k) := by
  unfold woL
  rw [take_two l k hk, List.flatMap_append, List.flatMap_singleton]
theorem tk_one (v : Int) : tk [(v, v)] = if -1000000 ≤ v ∧ v ≤ 1000000 then [(v, v)] else [] := by
  by_cases h : -1000000 ≤ v ∧ v ≤ 1000000
  · rw [if_pos h]
    exact tk_yes (ord_right ⟨fun r hr => by rw [List.mem_singleton] at hr; rw [hr]; exact Int.le_refl _, List.pairwise_singleton _ _⟩ (fun r hr => by rw [List.mem_singleton] at hr; rw [hr]; exact h) (by simp))
  · rw [if_neg h]
    refine tk_no fun hR => h ?_
    have := (right_ord hR).2 (v, v) (by simp)
    exact this
theorem wo_less (l : List Rg) (v : Int) : ov (tk l) (notL (tk [(v, v)])) = woL (tk l) v := by
  have ha := tk_right l
  have hb := tk_right [(v, v)]
  have f := wo_facts v (right_ord ha).1
  refine ord_ext (ov_facts (right_ord ha).1 (notL_facts hb).1).1 f.1 fun x => ?_
  rw [mem_less ha hb, f.2, tk_one]
  by_cases h : -1000000 ≤ v ∧ v ≤ 1000000
  · rw [if_pos h]
    refine and_congr_right fun _ => not_congr ?_
    rw [vals_cons]; simp only [vals, List.flatMap_nil, List.not_mem_nil, or_false]; omega
  · rw [if_neg h]
    constructor
    · rintro ⟨h1, _⟩
      have := vals_bounds ha x h1
      exact ⟨h1, fun e => h (by omega)⟩
    · rintro ⟨h1, _⟩
      exact ⟨h1, by simp [vals]⟩
set_option maxRecDepth 100000 in
set_option maxHeartbeats 8000000 in
theorem refwithout_any (s : Value) (l : List Rg) (v : Int) (W : World) (h : Sr W s l) :
    Calls Tryz.prog 45 #[s, .int .i64 v] W fun e w' => ∃ s', e = .returned s' ∧ w'.ownsRow W.heap.size 55 2 s' (woR l v).length (flat (woR l v)) ∧ Below W.heap.size W w' := by
  obtain ⟨i0, hi0, hz0, hz1, hz2⟩ := info_parts Tryz.info55
  have kt := taken_tk s l W h
  have hR := tk_right l
  have hlen := hR.1
  have hwo : woR l v = if (woL (tk l) v).length ≤ 4096 then woL (tk l) v else tk l := rfl
  obtain ⟨A, hA⟩ : ∃ A, tk l = A := ⟨_, rfl⟩
  rw [hA] at kt hR hlen hwo
  have HWO : Hid (woR l v = if (woL A v).length ≤ 4096 then woL A v else A) := hwo
  have HR : Hid (Right A) := hR
  obtain ⟨sa0, cap0, rfl, _⟩ := h
  clear hA hwo hR
  go_enter Tryz.func45, Tryz.ntmps45
  go_wp2_with fail
  refine kt.mono ?_
  rintro e w0 ⟨sa, n, cap, rfl, hSt, hn, m0, rfl⟩
  have HST : Hid (Sr W (.slice sa n cap) A) := hSt
  have HC : Hid (0 < A.length → ∃ b off, sa = some ⟨b, off, none⟩ ∧ b < W.heap.size ∧ ∀ i, i < A.length → W.cell? ⟨b, off + i * 2, none⟩ = some (.int .i64 (lo A i)) ∧ W.cell? ⟨b, off + i * 2 + 1, none⟩ = some (.int .i64 (hi A i))) := by
    obtain ⟨a', c', e, hc⟩ := hSt
    injection e with e1 _ _
    rw [e1]; exact hc
  have HN : Hid (A.length = n) := hn.symm
  have hB0 : Below W.heap.size W (W.drewN m0) := below_drewN (Below.refl _ _) m0
  rw [← hn] at hlen
  clear kt hSt hn
  go_wp2
  go_loopw [5, 6, 7] (fun o i _ wr => ∃ (k : Nat), k ≤ n ∧ i = .int .i64 k ∧ wr.ownsRow W.heap.size 55 2 o (woL (A.take k) v).length (flat (woL (A.take k) v)) ∧ Below W.heap.size W wr) (fun _ i _ _ => n - (intOf i).toNat)
  case atStart => exact ⟨0, Nat.zero_le _, rfl, World.ownsRow_nil _ _ _ _, hB0⟩
  case round =>
    clear hB0
    obtain ⟨k, hk, rfl, hrow, hB⟩ := hrel
    have hsz := hB.size
    by_cases hlt : k < n
    · have hkl : k < A.length := by rw [HN.out]; exact hlt
      obtain ⟨sb, off, rfl, hb, hcells⟩ := HC.out (by omega)
      obtain ⟨c1, c2⟩ := hcells k hkl
      have d1 := (hB.cell (p := ⟨sb, off + k * 2, none⟩) hb).trans c1
      have d2 := (hB.cell (p := ⟨sb, off + k * 2 + 1, none⟩) hb).trans c2
      have htk := wo_take v hkl
      have hwl := wo_len (A.take k) v
      rw [List.length_take] at hwl
      have hbd := right_bounds HR.out k hkl
      obtain ⟨x, hx⟩ : ∃ x, lo A k = x := ⟨_, rfl⟩
      obtain ⟨y, hy⟩ : ∃ y, hi A k = y := ⟨_, rfl⟩
      rw [hx] at d1 htk hbd
      rw [hy] at d2 htk hbd
      obtain ⟨hb1, hb2⟩ := hbd
      obtain ⟨os, hos⟩ : ∃ os, woL (A.take k) v = os := ⟨_, rfl⟩
      rw [hos] at hrow htk hwl
      obtain ⟨m, hm⟩ : ∃ m, os.length = m := ⟨_, rfl⟩
      have HM : Hid (os.length = m) := hm
      rw [hm] at hrow hwl
      obtain ⟨ua, uc, rfl, _, _⟩ := own_shape hrow
      have HROW : Hid (wr.ownsRow W.heap.size 55 2 (.slice ua m uc) m (flat os)) := hrow
      have hlt' : (k : Int) < (n : Int) := by omega
      have hmk : m ≤ 10000 := by omega
      unfold wo1 at htk
      dsimp only at htk
      have hBX : Below W.heap.size W (wr.alloc (Obj.cells #[.int .i64 x, .int .i64 y] 55)) := hB.alloc hB.size _
      have HRX : Hid ((wr.alloc (Obj.cells #[.int .i64 x, .int .i64 y] 55)).ownsRow W.heap.size 55 2 (.slice ua m uc) m (flat os)) := World.ownsRow.alloc hrow _
      have HTW : Hid (Two (wr.alloc (Obj.cells #[.int .i64 x, .int .i64 y] 55)) wr.heap.size x y) := Two.new wr x y
      have hsX : (wr.alloc (Obj.cells #[.int .i64 x, .int .i64 y] 55)).heap.size = wr.heap.size + 1 := World.size_alloc _ _
      clear hcells c1 c2 hx hy hos hm hkl hrow hwl
      by_cases h1 : v < x
      · have e1 : decide (v < x) = true := by simpa using h1
        have HTK : Hid (woL (A.take (k + 1)) v = os ++ [(x, y)]) := by unfold Hid; rw [htk, if_pos (.inl h1)]; try simp
        clear htk
        go_wp2_with (at_builtin; refine wpList_append_own _ rfl _ _ 23 rfl W.heap.size 55 i0 (.agg #[.int .i64 0, .int .i64 0]) 2 16 Tryz.underlying23 hi0 hz0 hz1 hz2 rfl (by decide) _ _ _ rfl (World.ownsRow.alloc HRX.out _) ⟨wr.heap.size + 1, 0, none⟩ 1 1 [.int .i64 x, .int .i64 y] rfl rfl (by have h9 := cell_two_new (wr.alloc (Obj.cells #[.int .i64 x, .int .i64 y] 55)) (.int .i64 x) (.int .i64 y) 55; rw [World.size_alloc] at h9; exact h9) (by simp [Value.oneCell']) (by unfold maxLen; omega) (by omega) (by have := hBX.size; rw [World.size_alloc] at this ⊢; rw [World.size_alloc]; omega) ?_; intro v1 w1 hown1 hgrow1 _; have hB1 : Below W.heap.size W w1 := (hBX.alloc hBX.size _).grown hgrow1 (by have := hBX.size; rw [World.size_alloc] at this ⊢; rw [World.size_alloc]; omega) (fun j e => (World.ownsRow.lt HRX.out j e).1); rw [← flat_two] at hown1; obtain ⟨ga1, gc1, e1, _, _⟩ := own_shape hown1; subst e1; have HR1 : Hid (w1.ownsRow W.heap.size 55 2 (.slice ga1 (m + 1) gc1) (m + 1) (flat (os ++ [(x, y)]))) := hown1; have hT1 : Two w1 wr.heap.size x y := (hgrow1.block wr.heap.size (by rw [World.size_alloc, World.size_alloc]; omega) (fun e => by have := (World.ownsRow.lt HROW.out _ e.symm).2; omega)).trans ((Below.heap_alloc _ _ wr.heap.size (by rw [World.size_alloc]; omega)).trans HTW.out); have q0 := hT1.c0; have q1 := hT1.c1; clear hown1 hgrow1)
        go_roundw
        case rel => exact ⟨k + 1, by omega, by go_num, by rw [HTK.out, List.length_append, HM.out]; exact HR1.out, hB1⟩
        case measure => simp [intOf]; omega
      · have e1 : decide (v < x) = false := by simpa using h1
        by_cases h2 : y < v
        · have e2 : decide (y < v) = true := by simpa using h2
          have HTK : Hid (woL (A.take (k + 1)) v = os ++ [(x, y)]) := by unfold Hid; rw [htk, if_pos (.inr h2)]; try simp
          clear htk
          go_wp2_with (at_builtin; refine wpList_append_own _ rfl _ _ 23 rfl W.heap.size 55 i0 (.agg #[.int .i64 0, .int .i64 0]) 2 16 Tryz.underlying23 hi0 hz0 hz1 hz2 rfl (by decide) _ _ _ rfl (World.ownsRow.alloc HRX.out _) ⟨wr.heap.size + 1, 0, none⟩ 1 1 [.int .i64 x, .int .i64 y] rfl rfl (by have h9 := cell_two_new (wr.alloc (Obj.cells #[.int .i64 x, .int .i64 y] 55)) (.int .i64 x) (.int .i64 y) 55; rw [World.size_alloc] at h9; exact h9) (by simp [Value.oneCell']) (by unfold maxLen; omega) (by omega) (by have := hBX.size; rw [World.size_alloc] at this ⊢; rw [World.size_alloc]; omega) ?_; intro v1 w1 hown1 hgrow1 _; have hB1 : Below W.heap.size W w1 := (hBX.alloc hBX.size _).grown hgrow1 (by have := hBX.size; rw [World.size_alloc] at this ⊢; rw [World.size_alloc]; omega) (fun j e => (World.ownsRow.lt HRX.out j e).1); rw [← flat_two] at hown1; obtain ⟨ga1, gc1, e1, _, _⟩ := own_shape hown1; subst e1; have HR1 : Hid (w1.ownsRow W.heap.size 55 2 (.slice ga1 (m + 1) gc1) (m + 1) (flat (os ++ [(x, y)]))) := hown1; have hT1 : Two w1 wr.heap.size x y := (hgrow1.block wr.heap.size (by rw [World.size_alloc, World.size_alloc]; omega) (fun e => by have := (World.ownsRow.lt HROW.out _ e.symm).2; omega)).trans ((Below.heap_alloc _ _ wr.heap.size (by rw [World.size_alloc]; omega)).trans HTW.out); have q0 := hT1.c0; have q1 := hT1.c1; clear hown1 hgrow1)
          go_roundw
          case rel => exact ⟨k + 1, by omega, by go_num, by rw [HTK.out, List.length_append, HM.out]; exact HR1.out, hB1⟩
          case measure => simp [intOf]; omega
        · have e2 : decide (y < v) = false := by simpa using h2
          have h12 : ¬ (v < x ∨ y < v) := by omega
          by_cases h3 : x < v
          · have e3 : decide (x < v) = true := by simpa using h3
            by_cases h4 : v < y
            · have e4 : decide (v < y) = true := by simpa using h4
              have HTK : Hid (woL (A.take (k + 1)) v = os ++ [(x, (v - 1))] ++ [((v + 1), y)]) := by unfold Hid; rw [htk, if_neg h12, if_pos h3, if_pos h4]; try simp
              clear htk
              go_wp2_with (first
                | (at_builtin; refine wpList_append_own _ rfl _ _ 23 rfl W.heap.size 55 i0 (.agg #[.int .i64 0, .int .i64 0]) 2 16 Tryz.underlying23 hi0 hz0 hz1 hz2 rfl (by decide) _ _ _ rfl (World.ownsRow.alloc HRX.out _) ⟨wr.heap.size + 1, 0, none⟩ 1 1 [.int .i64 x, .int .i64 (v - 1)] rfl rfl (by have h9 := cell_two_new (wr.alloc (Obj.cells #[.int .i64 x, .int .i64 y] 55)) (.int .i64 x) (.int .i64 (v - 1)) 55; rw [World.size_alloc] at h9; exact h9) (by simp [Value.oneCell']) (by unfold maxLen; omega) (by omega) (by have := hBX.size; rw [World.size_alloc] at this ⊢; rw [World.size_alloc]; omega) ?_; intro v1 w1 hown1 hgrow1 _; have hB1 : Below W.heap.size W w1 := (hBX.alloc hBX.size _).grown hgrow1 (by have := hBX.size; rw [World.size_alloc] at this ⊢; rw [World.size_alloc]; omega) (fun j e => (World.ownsRow.lt HRX.out j e).1); rw [← flat_two] at hown1; obtain ⟨ga1, gc1, e1, _, _⟩ := own_shape hown1; subst e1; have HR1 : Hid (w1.ownsRow W.heap.size 55 2 (.slice ga1 (m + 1) gc1) (m + 1) (flat (os ++ [(x, (v - 1))]))) := hown1; have hT1 : Two w1 wr.heap.size x y := (hgrow1.block wr.heap.size (by rw [World.size_alloc, World.size_alloc]; omega) (fun e => by have := (World.ownsRow.lt HROW.out _ e.symm).2; omega)).trans ((Below.heap_alloc _ _ wr.heap.size (by rw [World.size_alloc]; omega)).trans HTW.out); have q0 := hT1.c0; have q1 := hT1.c1; clear hown1 hgrow1)
                | (at_builtin; refine wpList_append_own _ rfl _ _ 23 rfl W.heap.size 55 i0 (.agg #[.int .i64 0, .int .i64 0]) 2 16 Tryz.underlying23 hi0 hz0 hz1 hz2 rfl (by decide) _ _ _ rfl (World.ownsRow.alloc HR1.out _) ⟨w1.heap.size, 0, none⟩ 1 1 [.int .i64 (v + 1), .int .i64 y] rfl rfl (cell_two_new _ _ _ _) (by simp [Value.oneCell']) (by unfold maxLen; omega) (by omega) (by have := hB1.size; rw [World.size_alloc]; omega) ?_; intro v2 w2 hown2 hgrow2 _; have hB2 : Below W.heap.size W w2 := (hB1.alloc hB1.size _).grown hgrow2 (by have := hB1.size; rw [World.size_alloc]; omega) (fun j e => (World.ownsRow.lt HR1.out j e).1); rw [← flat_two] at hown2; obtain ⟨ga2, gc2, e2, _, _⟩ := own_shape hown2; subst e2; have HR2 : Hid (w2.ownsRow W.heap.size 55 2 (.slice ga2 (m + 2) gc2) (m + 2) (flat (os ++ [(x, (v - 1))] ++ [((v + 1), y)]))) := hown2; clear hown2 hgrow2))
              go_roundw
              case rel => exact ⟨k + 1, by omega, by go_num, by rw [HTK.out, List.length_append, List.length_append, HM.out]; exact HR2.out, hB2⟩
              case measure => simp [intOf]; omega
            · have e4 : decide (v < y) = false := by simpa using h4
              have HTK : Hid (woL (A.take (k + 1)) v = os ++ [(x, (v - 1))]) := by unfold Hid; rw [htk, if_neg h12, if_pos h3, if_neg h4]; try simp
              clear htk
              go_wp2_with (at_builtin; refine wpList_append_own _ rfl _ _ 23 rfl W.heap.size 55 i0 (.agg #[.int .i64 0, .int .i64 0]) 2 16 Tryz.underlying23 hi0 hz0 hz1 hz2 rfl (by decide) _ _ _ rfl (World.ownsRow.alloc HRX.out _) ⟨wr.heap.size + 1, 0, none⟩ 1 1 [.int .i64 x, .int .i64 (v - 1)] rfl rfl (by have h9 := cell_two_new (wr.alloc (Obj.cells #[.int .i64 x, .int .i64 y] 55)) (.int .i64 x) (.int .i64 (v - 1)) 55; rw [World.size_alloc] at h9; exact h9) (by simp [Value.oneCell']) (by unfold maxLen; omega) (by omega) (by have := hBX.size; rw [World.size_alloc] at this ⊢; rw [World.size_alloc]; omega) ?_; intro v1 w1 hown1 hgrow1 _; have hB1 : Below W.heap.size W w1 := (hBX.alloc hBX.size _).grown hgrow1 (by have := hBX.size; rw [World.size_alloc] at this ⊢; rw [World.size_alloc]; omega) (fun j e => (World.ownsRow.lt HRX.out j e).1); rw [← flat_two] at hown1; obtain ⟨ga1, gc1, e1, _, _⟩ := own_shape hown1; subst e1; have HR1 : Hid (w1.ownsRow W.heap.size 55 2 (.slice ga1 (m + 1) gc1) (m + 1) (flat (os ++ [(x, (v - 1))]))) := hown1; have hT1 : Two w1 wr.heap.size x y := (hgrow1.block wr.heap.size (by rw [World.size_alloc, World.size_alloc]; omega) (fun e => by have := (World.ownsRow.lt HROW.out _ e.symm).2; omega)).trans ((Below.heap_alloc _ _ wr.heap.size (by rw [World.size_alloc]; omega)).trans HTW.out); have q0 := hT1.c0; have q1 := hT1.c1; clear hown1 hgrow1)
              go_roundw
              case rel => exact ⟨k + 1, by omega, by go_num, by rw [HTK.out, List.length_append, HM.out]; exact HR1.out, hB1⟩
              case measure => simp [intOf]; omega
          · have e3 : decide (x < v) = false := by simpa using h3
            by_cases h4 : v < y
            · have e4 : decide (v < y) = true := by simpa using h4
              have HTK : Hid (woL (A.take (k + 1)) v = os ++ [((v + 1), y)]) := by unfold Hid; rw [htk, if_neg h12, if_neg h3, if_pos h4]; try simp
              clear htk
              go_wp2_with (at_builtin; refine wpList_append_own _ rfl _ _ 23 rfl W.heap.size 55 i0 (.agg #[.int .i64 0, .int .i64 0]) 2 16 Tryz.underlying23 hi0 hz0 hz1 hz2 rfl (by decide) _ _ _ rfl (World.ownsRow.alloc HRX.out _) ⟨wr.heap.size + 1, 0, none⟩ 1 1 [.int .i64 (v + 1), .int .i64 y] rfl rfl (by have h9 := cell_two_new (wr.alloc (Obj.cells #[.int .i64 x, .int .i64 y] 55)) (.int .i64 (v + 1)) (.int .i64 y) 55; rw [World.size_alloc] at h9; exact h9) (by simp [Value.oneCell']) (by unfold maxLen; omega) (by omega) (by have := hBX.size; rw [World.size_alloc] at this ⊢; rw [World.size_alloc]; omega) ?_; intro v1 w1 hown1 hgrow1 _; have hB1 : Below W.heap.size W w1 := (hBX.alloc hBX.size _).grown hgrow1 (by have := hBX.size; rw [World.size_alloc] at this ⊢; rw [World.size_alloc]; omega) (fun j e => (World.ownsRow.lt HRX.out j e).1); rw [← flat_two] at hown1; obtain ⟨ga1, gc1, e1, _, _⟩ := own_shape hown1; subst e1; have HR1 : Hid (w1.ownsRow W.heap.size 55 2 (.slice ga1 (m + 1) gc1) (m + 1) (flat (os ++ [((v + 1), y)]))) := hown1; have hT1 : Two w1 wr.heap.size x y := (hgrow1.block wr.heap.size (by rw [World.size_alloc, World.size_alloc]; omega) (fun e => by have := (World.ownsRow.lt HROW.out _ e.symm).2; omega)).trans ((Below.heap_alloc _ _ wr.heap.size (by rw [World.size_alloc]; omega)).trans HTW.out); have q0 := hT1.c0; have q1 := hT1.c1; clear hown1 hgrow1)
              go_roundw
              case rel => exact ⟨k + 1, by omega, by go_num, by rw [HTK.out, List.length_append, HM.out]; exact HR1.out, hB1⟩
              case measure => simp [intOf]; omega
            · have e4 : decide (v < y) = false := by simpa using h4
              have HTK : Hid (woL (A.take (k + 1)) v = os) := by unfold Hid; rw [htk, if_neg h12, if_neg h3, if_neg h4]; try simp
              clear htk
              go_wp2
              go_roundw
              case rel => exact ⟨k + 1, by omega, by go_num, by rw [HTK.out, HM.out]; exact HRX.out, hBX⟩
              case measure => simp [intOf]; omega
    · obtain rfl : k = n := by omega
      have htk : A.take k = A := by rw [← HN.out]; exact List.take_length
      rw [htk] at hrow
      obtain ⟨P, hP⟩ : ∃ P, woL A v = P := ⟨_, rfl⟩
      obtain ⟨pl, hpl⟩ : ∃ pl, P.length = pl := ⟨_, rfl⟩
      rw [hP, hpl] at hrow
      have HP : Hid (woL A v = P) := hP
      have HPL : Hid (P.length = pl) := hpl
      obtain ⟨ua, uc, rfl, _, _⟩ := own_shape hrow
      have HROW : Hid (wr.ownsRow W.heap.size 55 2 (.slice ua pl uc) pl (flat P)) := hrow
      have HSR : Hid (Sr wr (.slice sa k cap) A) := HST.out.below hB
      clear htk hP hpl hrow
      by_cases hbig : pl ≤ 4096
      · have hd : decide (4096 < (pl : Int)) = false := by simp; omega
        go_wp2
        go_ret
        exact ⟨_, rfl, by rw [HWO.out, HP.out, if_pos (by rw [HPL.out]; exact hbig), HPL.out]; exact HROW.out, hB⟩
      · have hd : decide (4096 < (pl : Int)) = true := by simp; omega
        go_wp2_with (at_builtin; refine wpList_app_any _ rfl _ _ rfl W.heap.size _ 0 [] rfl (World.ownsRow_nil _ _ _ _) rfl _ A rfl HSR.out (by have := HN.out; simp only [List.length_nil]; omega) hB.size ?_; intro v4 w4 hown4 hb4 _; rw [List.nil_append, show ([] : List Rg).length + A.length = k from by rw [HN.out]; simp] at hown4; obtain ⟨g4, k4, e4, _, _⟩ := own_shape hown4; subst e4; have HOWN4 : Hid (w4.ownsRow W.heap.size 55 2 (.slice g4 k k4) k (flat A)) := hown4; clear hown4)
        go_ret
        refine ⟨_, rfl, ?_, hB.trans hb4⟩
        rw [HWO.out, HP.out, if_neg (by rw [HPL.out]; omega), HN.out]
        exact HOWN4.out

theorem fits_one {v : Int} (h : Fits v) : FitsR [(v, v)] := fun i hi' => by
  have : i = 0 := by simpa using hi'
  subst this
  exact ⟨h, h⟩
set_option maxRecDepth 100000 in
set_option maxHeartbeats 2000000 in
theorem domwithout_any (s : Value) (l : List Rg) (v : Int) (w : World) (h : Sr w s l) (hf : FitsR l) (hv : Fits v) :
    Calls Tryz.prog 41 #[s, .int .i64 v] w fun e w' => ∃ s', e = .returned s' ∧ w'.ownsRow w.heap.size 55 2 s' (woR l v).length (flat (woR l v)) ∧ Below w.heap.size w w' := by
  have hb0 : Below w.heap.size w (w.alloc (.cells #[.int .i64 v, .int .i64 v] 55)) := (Below.refl _ _).alloc (Nat.le_refl _) _
  have hls := domless_any _ _ l [(v, v)] (w.alloc (.cells #[.int .i64 v, .int .i64 v] 55)) (h.below hb0) (Sr.one w v v) hf (fits_one hv)
  have HS : Hid (Sr w s l) := h
  obtain ⟨a0, c0, rfl, _⟩ := h
  obtain ⟨n0, hn0⟩ : ∃ n, l.length = n := ⟨_, rfl⟩
  have HN : Hid (l.length = n0) := hn0
  rw [hn0] at hls HS ⊢
  clear hf hv hn0
  go_enter Tryz.func41, Tryz.ntmps41
  go_wp2_with fail
  refine hls.mono ?_
  clear hls
  rintro e w1 ⟨s1, cc, rfl, hb1, hcase⟩
  have hb01 : Below w.heap.size w w1 := hb0.trans (hb1.mono hb0.size)
  rw [wo_less] at hcase
  rcases hcase with ⟨rfl, hle, hrow, _⟩ | ⟨rfl, hgt, rfl⟩
  · have HROW : Hid (w1.ownsRow w.heap.size 55 2 s1 (woL (tk l) v).length (flat (woL (tk l) v))) := own_base hrow hb0.size
    have HLE : Hid ((woL (tk l) v).length ≤ 4096) := hle
    clear hrow hle
    go_wp2
    go_ret
    refine ⟨_, rfl, ?_, hb01⟩
    have e : woR l v = woL (tk l) v := if_pos HLE.out
    rw [e]
    exact HROW.out
  · have hR : Right l := by
      apply Classical.byContradiction; intro hn
      rw [tk_no hn] at hgt
      simp [woL] at hgt
    have h0 : 0 < l.length := by
      apply Classical.byContradiction; intro hn
      have : l = [] := List.eq_nil_of_length_eq_zero (by omega)
      rw [this, tk_yes right_nil] at hgt
      simp [woL] at hgt
    have hcl := clone_any a0 n0 c0 l w1 (HS.out.below hb01) h0 hR.1
    have HWO : Hid (woR l v = l) := by
      unfold Hid woR
      rw [if_neg (by omega)]
      exact tk_yes hR
    clear hgt hR h0
    go_wp2_with fail
    refine hcl.mono ?_
    clear hcl
    rintro e w2 ⟨s2, rfl, hrow, hb2⟩
    have HROW : Hid (w2.ownsRow w1.heap.size 55 2 s2 l.length (flat l)) := hrow
    clear hrow
    go_wp2
    go_ret
    refine ⟨_, rfl, ?_, hb01.trans (hb2.mono hb01.size)⟩
    rw [HWO.out]
    exact own_base HROW.out hb01.size

theorem gb_refl (W : World) (row : Option Nat) : W.grownBy W row := ⟨rfl, rfl, rfl, Nat.le_refl _, fun _ _ _ => rfl⟩
theorem gb_trans {W w1 w2 : World} {row : Option Nat} (h1 : W.grownBy w1 row) (h2 : w1.grownBy w2 row) : W.grownBy w2 row :=
  ⟨h2.os.trans h1.os, h2.tape.trans h1.tape, h2.output.trans h1.output, Nat.le_trans h1.size h2.size, fun k hk hr => (h2.block k (Nat.lt_of_lt_of_le hk h1.size) hr).trans (h1.block k hk hr)⟩
theorem gb_new {W w1 w2 : World} {row : Option Nat} {g : Nat} (h1 : W.grownBy w1 row) (h2 : w1.grownBy w2 (some g)) (hg : W.heap.size ≤ g) : W.grownBy w2 row :=
  ⟨h2.os.trans h1.os, h2.tape.trans h1.tape, h2.output.trans h1.output, Nat.le_trans h1.size h2.size, fun k hk hr => (h2.block k (Nat.lt_of_lt_of_le hk h1.size) (fun e => by injection e with e; omega)).trans (h1.block k hk hr)⟩
theorem gb_drewN (W : World) (n : Nat) (row : Option Nat) : W.grownBy (W.drewN n) row := ⟨rfl, rfl, rfl, Nat.le_refl _, fun _ _ _ => rfl⟩
theorem gb_alloc (W : World) (o : Obj) (row : Option Nat) : W.grownBy (W.alloc o) row := ⟨rfl, rfl, rfl, by rw [World.size_alloc]; omega, fun k hk _ => Below.heap_alloc W o k hk⟩

set_option maxRecDepth 100000 in
set_option maxHeartbeats 4000000 in
theorem spoil_any (s : Value) (W : World) (base n : Nat) (xs : List Value) (h : W.ownsRow base 55 2 s n xs) (hn : n ≤ 100000) (hbase : base ≤ W.heap.size) :
    Calls Tryz.prog 19 #[s] W fun e w' => e = .returned (.tuple #[]) ∧ W.grownBy w' s.ownBlock := by
  obtain ⟨i0, hi0, hz0, hz1, hz2⟩ := info_parts Tryz.info55
  obtain ⟨a, c, rfl, hc1, hc2⟩ := own_shape h
  have HROW : Hid (W.ownsRow base 55 2 (.slice a n c) n xs) := h
  obtain ⟨row, hrow⟩ : ∃ row, (Value.slice a n c).ownBlock = row := ⟨_, rfl⟩
  have HRB : Hid ((Value.slice a n c).ownBlock = row) := hrow
  rw [hrow]
  clear h hrow
  go_enter Tryz.func19, Tryz.ntmps19
  go_wp2
  go_loopw [2] (fun i wr => ∃ (k : Nat) (ys : List Value), k ≤ n ∧ i = .int .i64 k ∧ wr.ownsRow base 55 2 (.slice a n c) n ys ∧ W.grownBy wr row) (fun i _ => n - (intOf i).toNat)
  case atStart => exact ⟨0, xs, Nat.zero_le _, rfl, HROW.out, gb_refl _ _⟩
  case round =>
    obtain ⟨k, ys, hk, rfl, hr, hg⟩ := hrel
    have hsz := hg.size
    by_cases hlt : k < n
    · obtain ⟨g, cap, e, hg1, hg2, _⟩ := own_some hr (by omega)
      injection e with e1 e2 e3
      subst e1 e3
      have fz1 := World.ownsRow.frozenAt hr (k * 2)
      have fz2 := World.ownsRow.frozenAt hr (k * 2 + 1)
      have HR : Hid (wr.ownsRow base 55 2 (.slice (some ⟨g, 0, none⟩) n c) n ys) := hr
      have hlt' : (k : Int) < (n : Int) := by omega
      have hrb : some g = row := HRB.out
      have hcl : k * 2 + 1 < n * 2 := by omega
      have p1 : ∃ u, wr.cell? ⟨g, k * 2, none⟩ = some u := ⟨ys[k * 2]'(by have := hr.1; omega), by rw [World.ownsRow.cellAt hr _ (by omega)]; exact List.getElem?_eq_getElem _⟩
      have p2 : ∃ u, wr.cell? ⟨g, k * 2 + 1, none⟩ = some u := ⟨ys[k * 2 + 1]'(by have := hr.1; omega), by rw [World.ownsRow.cellAt hr _ (by omega)]; exact List.getElem?_eq_getElem _⟩
      obtain ⟨u1, p1⟩ := p1
      obtain ⟨u2, p2⟩ := p2
      clear hr
      go_wp2
      refine ⟨⟨k + 1, _, by omega, by go_num, (World.ownsRow.stored (World.ownsRow.stored HR.out _ _).1 _ _).1, ?_⟩, ?_⟩
      · rw [← hrb] at hg ⊢
        exact gb_trans hg (gb_trans (World.ownsRow.stored HR.out _ _).2 (World.ownsRow.stored (World.ownsRow.stored HR.out _ _).1 _ _).2)
      · simp [intOf]; omega
    · obtain rfl : k = n := by omega
      have HR : Hid (wr.ownsRow base 55 2 (.slice a k c) k ys) := hr
      clear hr
      go_wp2_with (at_builtin; refine wpList_append_own_at _ rfl _ _ 23 rfl base 55 i0 (.agg #[.int .i64 0, .int .i64 0]) 2 16 Tryz.underlying23 hi0 hz0 hz1 hz2 rfl (by decide) _ _ _ rfl (World.ownsRow.alloc HR.out _) ⟨wr.heap.size, 0, none⟩ 1 1 [.int .i64 5, .int .i64 (-5)] rfl rfl (cell_two_new _ _ _ _) (by simp [Value.oneCell']) (by unfold maxLen; omega) (by omega) (by rw [World.size_alloc]; omega) ?_; intro v1 w1 hown1 hgrow1 _ hat; obtain ⟨g1, k1, e1⟩ := ownsRow_succ hown1; subst e1; have fz1 := World.ownsRow.frozenAt hown1 (k * 2); have q1 : w1.cell? ⟨g1, k * 2, none⟩ = some (.int .i64 5) := (by rw [World.ownsRow.cellAt hown1 _ (by omega), List.getElem?_append_right (by rw [HR.out.1]; omega), HR.out.1]; simp); have HAT : Hid ((Value.slice (some ⟨g1, 0, none⟩) (k + 1) k1).ownBlock = (Value.slice a k c).ownBlock ∨ (Value.slice (some ⟨g1, 0, none⟩) (k + 1) k1).ownBlock = some (wr.alloc (Obj.cells #[Value.int IntKind.i64 5, Value.int IntKind.i64 (-5)] 55)).heap.size) := hat; have HOWN1 : Hid _ := hown1; have HG1 : Hid ((wr.alloc (Obj.cells #[Value.int IntKind.i64 5, Value.int IntKind.i64 (-5)] 55)).grownBy w1 (Value.slice a k c).ownBlock) := hgrow1; clear hown1 hgrow1 hat)
      go_end0
      refine ⟨rfl, ?_⟩
      have h1 : W.grownBy w1 row := gb_trans hg (gb_trans (gb_alloc _ _ _) (by have h9 := HG1.out; rw [HRB.out] at h9; exact h9))
      have h2 := (World.ownsRow.stored HOWN1.out (k * 2) (.int .i64 3)).2
      rcases HAT.out with h9 | h9
      · rw [HRB.out] at h9
        rw [← h9] at h1 ⊢
        exact gb_trans h1 h2
      · have h8 : some g1 = some (wr.alloc (Obj.cells #[Value.int IntKind.i64 5, Value.int IntKind.i64 (-5)] 55)).heap.size := h9
        injection h8 with h8
        rw [World.size_alloc] at h8
        exact gb_new h1 h2 (by omega)
end Go.Proofs.YtkloadlodofipaaGreatDoor
