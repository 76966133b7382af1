/-
  What is proved here: sets.In, Sub and Cmp of any sets; slices.Compare of two lists.
  What is proved here: the mathematics of SetsAlgebra.
  What is proved here: the reference's has, In and Sub of any lists.
-/
import Derived.Test.YthkliicmoandmaaGreatDoorYSd
namespace Go.Proofs.YthkliicmoandmaaGreatDoor.St
open Go.RowKit Go.Shelf
set_option linter.unusedVariables false
set_option linter.unusedSimpArgs false

set_option maxHeartbeats 1000000 in
theorem in_any (v : Int) (s : Value) (l : List Int) (W : World) (h : Si W s l) :
    Calls Tryz.prog 59 #[.int .i64 v, s] W fun e w' => e = .returned (.bool ((tkS l).contains v)) ∧ Below W.heap.size W w' := by
  have hk := known_any s l W h
  have h' := h
  obtain ⟨a1, c1, rfl, _⟩ := h'
  clear h
  go_enter Tryz.func59, Tryz.ntmps59
  go_wp2_with fail
  refine hk.mono ?_
  rintro e w1 ⟨a3, n3, c3, rfl, HS1, HN1, m1, hw1⟩
  have hB1 : Below W.heap.size W w1 := by rw [hw1]; exact below_drewN (Below.refl _ _) _
  have hs := search_any _ (tkS l) v w1 (HS1.out.below hB1) (tkS_set l)
  obtain ⟨t, ht⟩ : ∃ t, (tkS l).contains v = t := ⟨_, rfl⟩
  rw [ht] at hs
  have HT : Hid ((tkS l).contains v = t) := ht
  clear hk HS1 hw1 ht
  go_wp2_with fail
  refine hs.mono ?_
  rintro e w2 ⟨i, rfl, q, rfl⟩
  go_wp2
  go_ret
  exact ⟨by rw [HT.out]; rfl, below_drewN hB1 _⟩

/-- Is one within the other? -/
def subB (a b : List Int) : Bool := decide ((lessL a b).length = 0)
set_option maxHeartbeats 1000000 in
theorem sub_any (s1 s2 : Value) (a b : List Int) (W : World) (h1 : Si W s1 a) (h2 : Si W s2 b) :
    Calls Tryz.prog 131 #[s1, s2] W fun e w' => e = .returned (.bool (subB (tkS a) (tkS b))) ∧ Below W.heap.size W w' := by
  have hl := less_any s1 s2 a b W h1 h2
  have h1' := h1
  have h2' := h2
  obtain ⟨a1, c1, rfl, _⟩ := h1'
  obtain ⟨a2, c2, rfl, _⟩ := h2'
  clear h1 h2
  go_enter Tryz.func131, Tryz.ntmps131
  go_wp2_with fail
  refine hl.mono ?_
  rintro e w2 ⟨v, rfl, hF, hb2⟩
  obtain ⟨A, off, cap, cur, t, rfl, r⟩ := hF
  have hq' : subB (tkS a) (tkS b) = decide ((lessL (tkS a) (tkS b)).length = 0) := rfl
  obtain ⟨q, hq⟩ : ∃ q, (lessL (tkS a) (tkS b)).length = q := ⟨_, rfl⟩
  rw [hq] at hq' ⊢
  have HQ : Hid (subB (tkS a) (tkS b) = decide (q = 0)) := hq'
  clear hl r hq hq'
  by_cases h0 : q = 0
  · subst h0
    go_wp2
    go_ret
    exact ⟨ret_bool (by rw [HQ.out]; rfl), hb2⟩
  · have h0' : ((q : Int) == 0) = false := by simp; omega
    go_wp2
    go_ret
    exact ⟨ret_bool (by rw [HQ.out, decide_eq_false h0]), hb2⟩
end Go.Proofs.YthkliicmoandmaaGreatDoor.St


namespace Go.Proofs.YthkliicmoandmaaGreatDoor.St
open Go.RowKit Go.Shelf
set_option linter.unusedVariables false
set_option linter.unusedSimpArgs false

theorem set_pw {l : List Int} (h : IsSet l) : l.Pairwise (· < ·) := by
  rw [List.pairwise_iff_getElem]
  have step : ∀ d i, i + d + 1 < l.length → nth l i < nth l (i + d + 1) := by
    intro d
    induction d with
    | zero => intro i hi; have := (h.2 (i + 1) hi).2.2 (by omega); simpa using this
    | succ d ih => intro i hi; have h1 := ih i (by omega); have h2 := (h.2 (i + (d + 1) + 1) hi).2.2 (by omega); simp only [Nat.add_sub_cancel] at h2; exact Int.lt_trans (by simpa [Nat.add_assoc] using h1) h2
  intro i j hi hj hij
  have := step (j - i - 1) i (by omega)
  rw [show i + (j - i - 1) + 1 = j by omega] at this
  simpa [nth, hi, hj] using this
theorem set_of {l : List Int} (hl : l.length ≤ 64) (hb : ∀ x ∈ l, -1000000 ≤ x ∧ x ≤ 1000000) (hp : l.Pairwise (· < ·)) : IsSet l := by
  refine ⟨hl, fun i hi => ?_⟩
  have e : ∀ k (hk : k < l.length), nth l k = l[k] := fun k hk => by simp [nth, hk]
  have hm := hb l[i] (List.getElem_mem hi)
  refine ⟨by rw [e i hi]; exact hm.1, by rw [e i hi]; exact hm.2, fun h0 => ?_⟩
  rw [e i hi, e (i - 1) (by omega)]
  exact List.pairwise_iff_getElem.1 hp (i - 1) i (by omega) hi (by omega)
theorem set_mem {l : List Int} (h : IsSet l) : ∀ x ∈ l, -1000000 ≤ x ∧ x ≤ 1000000 := by
  intro x hx
  obtain ⟨i, hi, rfl⟩ := List.getElem_of_mem hx
  have := h.2 i hi
  unfold SetAt at this
  simp only [nth, List.getD_eq_getElem?_getD, List.getElem?_eq_getElem hi, Option.getD_some] at this
  exact ⟨this.1, this.2.1⟩
theorem set_filter {l : List Int} (h : IsSet l) (f : Int → Bool) : IsSet (l.filter f) :=
  set_of (Nat.le_trans (List.length_filter_le _ _) h.1) (fun x hx => set_mem h x (List.mem_filter.1 hx).1) ((set_pw h).filter _)
theorem sort_pw (l : List Int) : (sortL l).Pairwise (· ≤ ·) := by
  have := List.pairwise_mergeSort (le := fun x y : Int => decide (x ≤ y)) (by simp; omega) (by simp; omega) l
  exact this.imp (by simp)
end Go.Proofs.YthkliicmoandmaaGreatDoor.St


namespace Go.Proofs.YthkliicmoandmaaGreatDoor.St
open Go.RowKit Go.Shelf
set_option linter.unusedVariables false
set_option linter.unusedSimpArgs false

theorem mem_nth {l : List Int} {v : Int} : l.contains v = true ↔ ∃ k, k < l.length ∧ nth l k = v := by
  rw [List.contains_iff_mem, List.mem_iff_getElem]
  constructor
  · rintro ⟨k, hk, e⟩; exact ⟨k, hk, by simp [nth, hk, e]⟩
  · rintro ⟨k, hk, e⟩; exact ⟨k, hk, by simpa [nth, hk] using e⟩
theorem mem_none {l : List Int} {v : Int} (h : ∀ k, k < l.length → nth l k ≠ v) : l.contains v = false := by
  cases hc : l.contains v
  · rfl
  · obtain ⟨k, hk, e⟩ := mem_nth.1 hc
    exact absurd e (h k hk)

set_option maxRecDepth 100000 in
set_option maxHeartbeats 4000000 in
theorem refhas_any (v : Int) (s : Value) (l : List Int) (W : World) (h : Si W s l) (hl : l.length ≤ 1000) :
    Calls Tryz.prog 107 #[.int .i64 v, s] W fun e w' => e = .returned (.bool (l.contains v)) ∧ w' = W := by
  obtain ⟨a, cap, rfl, hc⟩ := h
  obtain ⟨r, hr⟩ : ∃ r, l.contains v = r := ⟨_, rfl⟩
  have HRR : Hid (l.contains v = r) := hr
  rw [hr]
  obtain ⟨n, hn⟩ : ∃ n, l.length = n := ⟨_, rfl⟩
  have HN : Hid (l.length = n) := hn
  rw [hn] at hc hl ⊢
  have HC : Hid _ := hc
  clear hn hc hr
  go_enter Tryz.func107, Tryz.ntmps107
  go_wp2
  go_loopw [5] (fun i wr => ∃ k : Nat, k ≤ n ∧ i = .int .i64 k ∧ (∀ j, j < k → nth l j ≠ v) ∧ wr = W) (fun i _ => n - (intOf i).toNat)
  case atStart => exact ⟨0, Nat.zero_le _, rfl, fun j hj => absurd hj (by omega), rfl⟩
  case round =>
    obtain ⟨k, hk, rfl, hok, rfl⟩ := hrel
    have HOK : Hid (∀ j, j < k → nth l j ≠ v) := hok
    clear hok
    by_cases hlt2 : k < n
    · obtain ⟨b, off, rfl, hb, hcell⟩ := HC.out (by omega)
      have d1 := hcell k hlt2
      have hlt' : (k : Int) < (n : Int) := by omega
      obtain ⟨x, hx⟩ : ∃ x, nth l k = x := ⟨_, rfl⟩
      have HX : Hid (nth l k = x) := hx
      rw [hx] at d1
      clear hx hcell
      by_cases hv : x = v
      · subst hv
        have hv' : (x == x) = true := by simp
        go_wp2
        go_ret
        exact ⟨ret_bool (by rw [← HRR.out]; exact (mem_nth.2 ⟨k, by rw [HN.out]; exact hlt2, HX.out⟩).symm), rfl⟩
      · have hv' : (x == v) = false := by simpa using hv
        have HV : Hid (x ≠ v) := hv
        clear hv
        go_wp2
        go_roundw
        case rel => exact ⟨k + 1, by omega, by go_num, fun j hj => if h : j = k then by subst h; rw [HX.out]; exact HV.out else HOK.out j (by omega), trivial⟩
        case measure => simp [intOf]; omega
    · have hlt' : ¬ (k : Int) < (n : Int) := by omega
      go_wp2
      go_ret
      exact ⟨ret_bool (by rw [← HRR.out]; exact (mem_none fun j hj => HOK.out j (by rw [HN.out] at hj; omega)).symm), rfl⟩
theorem refin_any (v : Int) (s : Value) (l : List Int) (W : World) (h : Si W s l) :
    Calls Tryz.prog 60 #[.int .i64 v, s] W fun e w' => e = .returned (.bool ((tkS l).contains v)) ∧ ∃ q, w' = W.drewN q := by
  have hk := taken_any s l W h
  have kh := fun q X (hq : Si X q (tkS l)) => refhas_any v q (tkS l) X hq (by have := (tkS_set l).1; omega)
  generalize (tkS l).contains v = r at *
  obtain ⟨a, n, rfl, _⟩ := h
  go_enter Tryz.func60, Tryz.ntmps60
  go_wp2_with fail
  refine hk.mono ?_
  rintro e w1 ⟨a1, n1, c1, rfl, HS, HN1, m1, hw1⟩
  have hb1 : Below W.heap.size W w1 := by rw [hw1]; exact below_drewN (Below.refl _ _) _
  have k1 := kh _ w1 (HS.out.below hb1)
  have HW1 : Hid _ := hw1
  clear hk kh hw1
  go_wp2_with fail
  refine k1.mono ?_
  rintro e w2 ⟨rfl, rfl⟩
  go_wp2
  go_ret
  exact ⟨rfl, _, HW1.out⟩
theorem sub_all {a b : List Int} (h : ∀ k, k < a.length → b.contains (nth a k) = true) : subB a b = true := by
  unfold subB lessL
  rw [decide_eq_true_iff, List.length_eq_zero_iff, List.filter_eq_nil_iff]
  intro x hx
  obtain ⟨k, hk, e⟩ := List.getElem_of_mem hx
  have := h k hk
  rw [show nth a k = x by simp [nth, hk, e]] at this
  simpa using this
theorem sub_not {a b : List Int} {k : Nat} (hk : k < a.length) (h : b.contains (nth a k) = false) : subB a b = false := by
  unfold subB lessL
  rw [decide_eq_false_iff_not, List.length_eq_zero_iff, List.filter_eq_nil_iff]
  intro hc
  have := hc (nth a k) (by simp [nth, hk])
  rw [h] at this
  simp at this

set_option maxRecDepth 100000 in
set_option maxHeartbeats 4000000 in
theorem refsub_any (s1 s2 : Value) (a b : List Int) (W : World) (h1 : Si W s1 a) (h2 : Si W s2 b) :
    Calls Tryz.prog 117 #[s1, s2] W fun e w' => e = .returned (.bool (subB (tkS a) (tkS b))) ∧ ∃ q, w' = W.drewN q := by
  have hk := taken_any s1 a W h1
  have kin := fun v m => refin_any v s2 b (W.drewN m) (h2.below (below_drewN (Below.refl _ _) m))
  obtain ⟨a1, c1, rfl, _⟩ := h1
  obtain ⟨a2, c2, rfl, _⟩ := h2
  generalize a.length = n1 at *
  generalize b.length = n2 at *
  obtain ⟨r, hr⟩ : ∃ r, subB (tkS a) (tkS b) = r := ⟨_, rfl⟩
  have HRR : Hid (subB (tkS a) (tkS b) = r) := hr
  rw [hr]
  clear hr
  go_enter Tryz.func117, Tryz.ntmps117
  go_wp2_with fail
  refine hk.mono ?_
  rintro e w1 ⟨a3, n3, c3, rfl, HS, HN3, m1, rfl⟩
  have hS := HS.out
  obtain ⟨a3', c3', e3, hc⟩ := hS
  rw [← HN3.out] at e3 hc
  injection e3 with e4 _ e5
  subst e4 e5
  have HC : Hid _ := hc
  have HN : Hid ((tkS a).length = n3) := HN3.out.symm
  have hn3 : n3 ≤ 64 := by rw [HN3.out]; exact (tkS_set a).1
  clear hk hc HS HN3
  go_wp2
  go_loopw [5] (fun i wr => ∃ k : Nat, k ≤ n3 ∧ i = .int .i64 k ∧ (∀ j, j < k → (tkS b).contains (nth (tkS a) j) = true) ∧ ∃ m, wr = W.drewN m) (fun i _ => n3 - (intOf i).toNat)
  case atStart => exact ⟨0, Nat.zero_le _, rfl, fun j hj => absurd hj (by omega), m1, rfl⟩
  case round =>
    obtain ⟨k, hk, rfl, hok, m, rfl⟩ := hrel
    have HOK : Hid (∀ j, j < k → (tkS b).contains (nth (tkS a) j) = true) := hok
    clear hok
    by_cases hlt2 : k < n3
    · obtain ⟨bb, off, rfl, hb, hcell⟩ := HC.out (by omega)
      have d0 := hcell k hlt2
      obtain ⟨x, hx⟩ : ∃ x, nth (tkS a) k = x := ⟨_, rfl⟩
      have HX : Hid (nth (tkS a) k = x) := hx
      have ki := kin x m
      have hlt' : (k : Int) < (n3 : Int) := by omega
      rw [hx] at d0
      obtain ⟨W2, hW2⟩ : ∃ W2, W.drewN m = W2 := ⟨_, rfl⟩
      have HW2 : Hid (W.drewN m = W2) := hW2
      have d1 : W2.cell? ⟨bb, off + k, none⟩ = some (.int .i64 x) := by rw [← hW2]; exact d0
      rw [hW2] at ki ⊢
      clear hx hcell d0 hW2
      obtain ⟨bo, hbo⟩ : ∃ bo, (tkS b).contains x = bo := ⟨_, rfl⟩
      have HB : Hid ((tkS b).contains x = bo) := hbo
      rw [hbo] at ki
      clear hbo
      cases bo
      · go_wp2_with fail
        refine ki.mono ?_
        rintro e w3 ⟨rfl, q, rfl⟩
        go_wp2
        go_ret
        exact ⟨ret_bool (by rw [← HRR.out]; exact (sub_not (k := k) (by rw [HN.out]; exact hlt2) (by rw [HX.out]; exact HB.out)).symm), _, by rw [← HW2.out, World.drewN_drewN]⟩
      · go_wp2_with fail
        refine ki.mono ?_
        rintro e w3 ⟨rfl, q, rfl⟩
        go_wp2
        go_roundw
        case rel => exact ⟨k + 1, by omega, by go_num, fun j hj => if h : j = k then by subst h; rw [HX.out]; exact HB.out else HOK.out j (by omega), _, by rw [← HW2.out, World.drewN_drewN]⟩
        case measure => simp [intOf]; omega
    · have hlt' : ¬ (k : Int) < (n3 : Int) := by omega
      go_wp2
      go_ret
      exact ⟨ret_bool (by rw [← HRR.out]; exact (sub_all fun j hj => HOK.out j (by rw [HN.out] at hj; omega)).symm), _, rfl⟩
end Go.Proofs.YthkliicmoandmaaGreatDoor.St

