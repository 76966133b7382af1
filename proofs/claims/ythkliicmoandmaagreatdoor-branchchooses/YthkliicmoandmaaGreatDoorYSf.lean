/-
  What is proved here: slices.Clone of numbers; sets.none and sets.tight.
-/
import Derived.Test.YthkliicmoandmaaGreatDoorYSdj
import Derived.Lib.MinMax
namespace Go.Proofs.YthkliicmoandmaaGreatDoor.St
open Go.RowKit Go.Shelf
set_option linter.unusedVariables false
set_option linter.unusedSimpArgs false

theorem clone_any (s : Value) (l : List Int) (W : World) (h : Si W s l) (hl : l.length ≤ 100000) :
    Calls Tryz.prog 133 #[s] W fun e w' => ∃ v, e = .returned v ∧ w'.ownsRow W.heap.size 2 1 v l.length (intv l) ∧ Below W.heap.size W w' := by
  obtain ⟨a, cap, rfl, hc⟩ := h
  cases a with
  | none =>
    have h0 : l.length = 0 := by
      apply Classical.byContradiction; intro hn
      obtain ⟨_, _, e, _⟩ := hc (by omega)
      cases e
    obtain rfl := List.eq_nil_of_length_eq_zero h0
    exact (AnyG.slices_Clone_int_nil Tryz.laysClone 0 cap W).mono fun e w' ⟨he, hw⟩ => ⟨_, he, by simpa [intv] using World.ownsRow_nil _ _ _ _, by rw [hw]; exact Below.refl _ _⟩
  | some ad =>
    rcases Nat.eq_zero_or_pos l.length with h0 | h0
    · obtain rfl := List.eq_nil_of_length_eq_zero h0
      exact (AnyG.slices_Clone_int_zero Tryz.laysClone ad cap W).mono fun e w' ⟨v, he, hr, _, hb⟩ => ⟨v, he, hr, hb⟩
    · obtain ⟨b, off, e, hlt, hcell⟩ := hc h0
      injection e with e
      subst e
      have := AnyG.slices_Clone_int Tryz.laysClone b off l.length cap l W (Nat.le_refl _) (by omega) (fun j hj => by rw [nth_getD]; exact hcell j hj)
      rw [List.take_length] at this
      exact this.mono fun e w' ⟨v, he, hr, _, hb⟩ => ⟨v, he, hr, hb⟩

/-- A domain of a set, as data. -/
structure SD where
  set : Bool
  rn : Nat
  lo : List Int
  up : List Int
  least : Int
  most : Int
def noneD : SD := ⟨true, 0, [], [], 1, 0⟩
def tightD (lo up : List Int) (least most : Int) : SD :=
  let L := max least lo.length
  let M := min most up.length
  if M < L then noneD else
    let lo' := if L = up.length then up else lo
    let up' := if M = lo'.length then lo' else up
    ⟨true, 0, lo', up', max L lo'.length, min M up'.length⟩
/-- A domain in memory of its own. -/
def Dv (B : Nat) (W : World) (v : Value) (d : SD) : Prop :=
  ∃ slo sup, v = .agg #[.bool d.set, .slice none 0 0, slo, sup, .int .i64 d.least, .int .i64 d.most] ∧ d.rn = 0 ∧ W.ownsRow B 2 1 slo d.lo.length (intv d.lo) ∧ W.ownsRow B 2 1 sup d.up.length (intv d.up)
set_option maxHeartbeats 400000 in
theorem none_at (W : World) : Calls Tryz.prog 94 #[] W fun e w' => e = .returned (.agg #[.bool true, .slice none 0 0, .slice none 0 0, .slice none 0 0, .int .i64 1, .int .i64 0]) ∧ Below W.heap.size W w' := by
  go_enter Tryz.func94, Tryz.ntmps94
  go_wp2
  refine ⟨rfl, _, results_cell_row (P := Tryz.prog) rfl _ _ W.heap.size 50 _ (0, 0) _ rfl (World.alloc_heap_new W _) Tryz.underlying50 rfl (by kernel_rfl), rfl, (Below.refl _ W).alloc (Nat.le_refl _) _⟩
theorem none_dv (B : Nat) (W : World) : Dv B W (.agg #[.bool true, .slice none 0 0, .slice none 0 0, .slice none 0 0, .int .i64 1, .int .i64 0]) noneD :=
  ⟨_, _, rfl, rfl, by simpa [noneD, intv] using World.ownsRow_nil _ _ _ _, by simpa [noneD, intv] using World.ownsRow_nil _ _ _ _⟩
theorem own_slice {W : World} {B n : Nat} {v : Value} {xs : List Value} (h : W.ownsRow B 2 1 v n xs) : ∃ p c, v = .slice p n c := by
  rcases h.2 with ⟨e1, e2⟩ | ⟨g, cap, cur, e1, _⟩
  · exact ⟨none, 0, by rw [e1, e2]⟩
  · exact ⟨_, _, e1⟩
theorem Tryz.size50 : (Tryz.prog.info? 50).map (·.size) = some 6 := by kernel_rfl
theorem Dv.below {B : Nat} {W W' : World} {v : Value} {d : SD} (h : Dv B W v d) (hb : Below W.heap.size W W') : Dv B W' v d := by
  obtain ⟨slo, sup, e, e0, h1, h2⟩ := h
  exact ⟨slo, sup, e, e0, own_keepB h1 hb, own_keepB h2 hb⟩
theorem own_setRow {W : World} {B n : Nat} {v : Value} {xs : List Value} (h : W.ownsRow B 2 1 v n xs) (g : Nat) (cs : Array Value) {old : Array Value} (hg : W.heap[g]? = some (.cells old 50 (0, 0))) : (W.setRow g cs).ownsRow B 2 1 v n xs :=
  ⟨h.1, by
    rcases h.2 with h2 | ⟨g', cap, cur, e1, hB, hgb, r⟩
    · exact .inl h2
    · refine .inr ⟨g', cap, cur, e1, hB, ?_, r⟩
      rw [setRow_other W g g' cs (fun e => by subst e; rw [hg] at hgb; cases hgb)]
      exact hgb⟩

set_option maxRecDepth 100000 in
set_option maxHeartbeats 4000000 in
theorem tight_any (s1 s2 : Value) (lo up : List Int) (least most : Int) (W : World) (h1 : Si W s1 lo) (h2 : Si W s2 up) (hl1 : lo.length ≤ 1000) (hl2 : up.length ≤ 1000) :
    Calls Tryz.prog 95 #[s1, s2, .int .i64 least, .int .i64 most] W fun e w' => ∃ v, e = .returned v ∧ Dv W.heap.size w' v (tightD lo up least most) ∧ Below W.heap.size W w' := by
  have hb0 : Below W.heap.size W (W.alloc (.cells #[.bool false, .slice none 0 0, .slice none 0 0, .slice none 0 0, .int .i64 0, .int .i64 0] 50)) := (Below.refl _ W).alloc (Nat.le_refl _) _
  have hnw := World.alloc_heap_new W (Obj.cells #[.bool false, .slice none 0 0, .slice none 0 0, .slice none 0 0, .int .i64 0, .int .i64 0] 50)
  have h1' := h1
  have h2' := h2
  obtain ⟨a1, c1, rfl, _⟩ := h1'
  obtain ⟨a2, c2, rfl, _⟩ := h2'
  obtain ⟨n1, hn1⟩ : ∃ n, lo.length = n := ⟨_, rfl⟩
  obtain ⟨n2, hn2⟩ : ∃ n, up.length = n := ⟨_, rfl⟩
  have HN1 : Hid (lo.length = n1) := hn1
  have HN2 : Hid (up.length = n2) := hn2
  rw [hn1] at h1 hl1 ⊢
  rw [hn2] at h2 hl2 ⊢
  have HLO : Hid (Si W (.slice a1 n1 c1) lo) := h1
  have HUP : Hid (Si W (.slice a2 n2 c2) up) := h2
  obtain ⟨L, hL⟩ : ∃ L, max least (n1 : Int) = L := ⟨_, rfl⟩
  obtain ⟨M, hM⟩ : ∃ M, min most (n2 : Int) = M := ⟨_, rfl⟩
  have HL : Hid (max least (n1 : Int) = L) := hL
  have HM : Hid (min most (n2 : Int) = M) := hM
  have hLn : (n1 : Int) ≤ L := by omega
  have hMn : M ≤ (n2 : Int) := by omega
  clear h1 h2 hn1 hn2
  by_cases hLM : M < L
  · have hd : decide (M < L) = true := by simpa using hLM
    have HD : Hid (tightD lo up least most = noneD) := by
      unfold Hid tightD
      simp only [HN1.out, HN2.out, HL.out, HM.out]
      rw [if_pos hLM]
    go_enter Tryz.func95, Tryz.ntmps95
    go_wp2_with fail
    refine (none_at _).mono ?_
    rintro e w1 ⟨rfl, hb1⟩
    have hB1 : Below W.heap.size W w1 := hb0.trans (hb1.mono hb0.size)
    have hg1 := (hb1.block W.heap.size (by simp)).trans hnw
    have HG1 : Hid _ := hg1
    have hBS := below_setRow hB1 (Nat.le_refl W.heap.size) #[.bool true, .slice none 0 0, .slice none 0 0, .slice none 0 0, .int .i64 1, .int .i64 0]
    have HROW : Hid _ := setRow_heap w1 W.heap.size _ #[.bool true, .slice none 0 0, .slice none 0 0, .slice none 0 0, .int .i64 1, .int .i64 0] 50 (0, 0) HG1.out
    clear hg1 hb1 hB1 hnw hb0
    have HSZ : Hid ((Tryz.prog.info? 50).map (·.size) = some (#[.bool true, .slice none 0 0, .slice none 0 0, .slice none 0 0, .int .i64 1, .int .i64 0] : Array Value).size) := Tryz.size50
    have HSO : Hid ((#[.bool false, .slice none 0 0, .slice none 0 0, .slice none 0 0, .int .i64 0, .int .i64 0] : Array Value).size = (#[.bool true, .slice none 0 0, .slice none 0 0, .slice none 0 0, .int .i64 1, .int .i64 0] : Array Value).size) := rfl
    have HSA : Hid ((#[.bool true, .slice none 0 0, .slice none 0 0, .slice none 0 0, .int .i64 1, .int .i64 0] : Array Value).all (·.oneCell') = true) := by unfold Hid; simp [Value.oneCell']
    go_wp2_with (with_reducible refine wpList_store_row rfl 50 (.tmp 8) (.tmp 20) rfl W.heap.size #[.bool true, .slice none 0 0, .slice none 0 0, .slice none 0 0, .int .i64 1, .int .i64 0] (by with_unfolding_all rfl) (by with_unfolding_all rfl) 50 _ HG1.out HSZ.out HSO.out HSA.out ?_)
    refine ⟨rfl, _, results_cell_row (P := Tryz.prog) rfl _ _ W.heap.size 50 _ (0, 0) _ rfl HROW.out Tryz.underlying50 rfl (by kernel_rfl), ⟨_, rfl, ?_, hBS⟩⟩
    rw [HD.out]
    exact none_dv _ _
  · have hd : decide (M < L) = false := by simpa using hLM
    by_cases e1 : L = (n2 : Int)
    · have e1' : (L == (n2 : Int)) = true := by simpa using e1
      have hMe : M = (n2 : Int) := by omega
      have e2' : (M == (n2 : Int)) = true := by simpa using hMe
      obtain ⟨LL, hLL⟩ : ∃ x, max L (n2 : Int) = x := ⟨_, rfl⟩
      obtain ⟨MM, hMM⟩ : ∃ x, min M (n2 : Int) = x := ⟨_, rfl⟩
      have HE : Hid (L = (n2 : Int) ∧ M = (n2 : Int)) := ⟨e1, hMe⟩
      clear e1 hMe
      go_enter Tryz.func95, Tryz.ntmps95
      have HD : Hid (tightD lo up least most = ⟨true, 0, up, up, LL, MM⟩) := by
        unfold Hid tightD
        simp only [HN1.out, HN2.out, HL.out, HM.out]
        rw [if_neg (by omega)]
        simp only [if_pos HE.out.1]
        simp only [HN2.out, if_pos HE.out.2]
        simp only [HN1.out, HN2.out, hLL, hMM]
      go_wp2_with fail
      refine (clone_any _ up _ ((HUP.out).below hb0) (by rw [HN2.out]; omega)).mono ?_
      rintro e w1 ⟨v1, rfl, hr1, hb1⟩
      have hB1 : Below W.heap.size W w1 := hb0.trans (hb1.mono hb0.size)
      have hcl2 := clone_any _ up w1 ((HUP.out).below hB1) (by rw [HN2.out]; omega)
      rw [HN2.out] at hr1
      obtain ⟨p1, k1, rfl⟩ := own_slice hr1
      have hg1 := (hb1.block W.heap.size (by simp)).trans hnw
      go_wp2_with fail
      refine hcl2.mono ?_
      clear hcl2
      rintro e w2 ⟨v2, rfl, hr2, hb2⟩
      have hB2 : Below W.heap.size W w2 := hB1.trans (hb2.mono hB1.size)
      rw [HN2.out] at hr2
      obtain ⟨p2, k2, rfl⟩ := own_slice hr2
      have hg2 : w2.heap[W.heap.size]? = _ := (hb2.block W.heap.size (by have := (Array.getElem?_eq_some_iff.1 hg1).1; exact this)).trans hg1
      have HG2 : Hid _ := hg2
      have hR1 := own_keepB (own_base hr1 hb0.size) hb2
      have hR2 := own_base hr2 hB1.size
      clear hg1 hg2 hb1 hb2 hr1 hr2 hB1 hnw hb0
      have hBS := below_setRow hB2 (Nat.le_refl W.heap.size) #[.bool true, .slice none 0 0, .slice p1 n2 k1, .slice p2 n2 k2, .int .i64 LL, .int .i64 MM]
      have hROW := setRow_heap w2 W.heap.size _ #[.bool true, .slice none 0 0, .slice p1 n2 k1, .slice p2 n2 k2, .int .i64 LL, .int .i64 MM] 50 (0, 0) HG2.out
      have HROW : Hid _ := hROW
      have hO1 := own_setRow hR1 W.heap.size #[.bool true, .slice none 0 0, .slice p1 n2 k1, .slice p2 n2 k2, .int .i64 LL, .int .i64 MM] HG2.out
      have hO2 := own_setRow hR2 W.heap.size #[.bool true, .slice none 0 0, .slice p1 n2 k1, .slice p2 n2 k2, .int .i64 LL, .int .i64 MM] HG2.out
      clear hROW hR1 hR2 hB2
      have HSZ : Hid ((Tryz.prog.info? 50).map (·.size) = some (#[.bool true, .slice none 0 0, .slice p1 n2 k1, .slice p2 n2 k2, .int .i64 LL, .int .i64 MM] : Array Value).size) := Tryz.size50
      have HSO : Hid ((#[.bool false, .slice none 0 0, .slice none 0 0, .slice none 0 0, .int .i64 0, .int .i64 0] : Array Value).size = (#[.bool true, .slice none 0 0, .slice p1 n2 k1, .slice p2 n2 k2, .int .i64 LL, .int .i64 MM] : Array Value).size) := rfl
      have HSA : Hid ((#[.bool true, .slice none 0 0, .slice p1 n2 k1, .slice p2 n2 k2, .int .i64 LL, .int .i64 MM] : Array Value).all (·.oneCell') = true) := by unfold Hid; simp [Value.oneCell']
      go_wp2_with (with_reducible refine wpList_store_row rfl 50 (.tmp 8) (.tmp 43) rfl W.heap.size #[.bool true, .slice none 0 0, .slice p1 n2 k1, .slice p2 n2 k2, .int .i64 LL, .int .i64 MM] (by with_unfolding_all rfl) (by with_unfolding_all rfl) 50 _ HG2.out HSZ.out HSO.out HSA.out ?_)
      refine ⟨rfl, _, results_cell_row (P := Tryz.prog) rfl _ _ W.heap.size 50 _ (0, 0) _ rfl HROW.out Tryz.underlying50 rfl (by kernel_rfl), ⟨_, rfl, ?_, hBS⟩⟩
      rw [HD.out]
      exact ⟨_, _, rfl, rfl, by rw [HN2.out]; exact hO1, by rw [HN2.out]; exact hO2⟩
    · have e1' : (L == (n2 : Int)) = false := by simpa using e1
      have HE1 : Hid (¬ L = (n2 : Int)) := e1
      by_cases e2 : M = (n1 : Int)
      · have e2' : (M == (n1 : Int)) = true := by simpa using e2
        have HE2 : Hid (M = (n1 : Int)) := e2
        obtain ⟨LL, hLL⟩ : ∃ x, max L (n1 : Int) = x := ⟨_, rfl⟩
        obtain ⟨MM, hMM⟩ : ∃ x, min M (n1 : Int) = x := ⟨_, rfl⟩
        clear e1 e2
        go_enter Tryz.func95, Tryz.ntmps95
        have HD : Hid (tightD lo up least most = ⟨true, 0, lo, lo, LL, MM⟩) := by
          unfold Hid tightD
          simp only [HN1.out, HN2.out, HL.out, HM.out]
          rw [if_neg (by omega)]
          simp only [if_neg HE1.out]
          simp only [HN1.out, if_pos HE2.out]
          simp only [HN1.out, HN2.out, hLL, hMM]
        go_wp2_with fail
        refine (clone_any _ lo _ ((HLO.out).below hb0) (by rw [HN1.out]; omega)).mono ?_
        rintro e w1 ⟨v1, rfl, hr1, hb1⟩
        have hB1 : Below W.heap.size W w1 := hb0.trans (hb1.mono hb0.size)
        have hcl2 := clone_any _ lo w1 ((HLO.out).below hB1) (by rw [HN1.out]; omega)
        rw [HN1.out] at hr1
        obtain ⟨p1, k1, rfl⟩ := own_slice hr1
        have hg1 := (hb1.block W.heap.size (by simp)).trans hnw
        go_wp2_with fail
        refine hcl2.mono ?_
        clear hcl2
        rintro e w2 ⟨v2, rfl, hr2, hb2⟩
        have hB2 : Below W.heap.size W w2 := hB1.trans (hb2.mono hB1.size)
        rw [HN1.out] at hr2
        obtain ⟨p2, k2, rfl⟩ := own_slice hr2
        have hg2 : w2.heap[W.heap.size]? = _ := (hb2.block W.heap.size (by have := (Array.getElem?_eq_some_iff.1 hg1).1; exact this)).trans hg1
        have HG2 : Hid _ := hg2
        have hR1 := own_keepB (own_base hr1 hb0.size) hb2
        have hR2 := own_base hr2 hB1.size
        clear hg1 hg2 hb1 hb2 hr1 hr2 hB1 hnw hb0
        have hBS := below_setRow hB2 (Nat.le_refl W.heap.size) #[.bool true, .slice none 0 0, .slice p1 n1 k1, .slice p2 n1 k2, .int .i64 LL, .int .i64 MM]
        have hROW := setRow_heap w2 W.heap.size _ #[.bool true, .slice none 0 0, .slice p1 n1 k1, .slice p2 n1 k2, .int .i64 LL, .int .i64 MM] 50 (0, 0) HG2.out
        have HROW : Hid _ := hROW
        have hO1 := own_setRow hR1 W.heap.size #[.bool true, .slice none 0 0, .slice p1 n1 k1, .slice p2 n1 k2, .int .i64 LL, .int .i64 MM] HG2.out
        have hO2 := own_setRow hR2 W.heap.size #[.bool true, .slice none 0 0, .slice p1 n1 k1, .slice p2 n1 k2, .int .i64 LL, .int .i64 MM] HG2.out
        clear hROW hR1 hR2 hB2
        have HSZ : Hid ((Tryz.prog.info? 50).map (·.size) = some (#[.bool true, .slice none 0 0, .slice p1 n1 k1, .slice p2 n1 k2, .int .i64 LL, .int .i64 MM] : Array Value).size) := Tryz.size50
        have HSO : Hid ((#[.bool false, .slice none 0 0, .slice none 0 0, .slice none 0 0, .int .i64 0, .int .i64 0] : Array Value).size = (#[.bool true, .slice none 0 0, .slice p1 n1 k1, .slice p2 n1 k2, .int .i64 LL, .int .i64 MM] : Array Value).size) := rfl
        have HSA : Hid ((#[.bool true, .slice none 0 0, .slice p1 n1 k1, .slice p2 n1 k2, .int .i64 LL, .int .i64 MM] : Array Value).all (·.oneCell') = true) := by unfold Hid; simp [Value.oneCell']
        go_wp2_with (with_reducible refine wpList_store_row rfl 50 (.tmp 8) (.tmp 43) rfl W.heap.size #[.bool true, .slice none 0 0, .slice p1 n1 k1, .slice p2 n1 k2, .int .i64 LL, .int .i64 MM] (by with_unfolding_all rfl) (by with_unfolding_all rfl) 50 _ HG2.out HSZ.out HSO.out HSA.out ?_)
        refine ⟨rfl, _, results_cell_row (P := Tryz.prog) rfl _ _ W.heap.size 50 _ (0, 0) _ rfl HROW.out Tryz.underlying50 rfl (by kernel_rfl), ⟨_, rfl, ?_, hBS⟩⟩
        rw [HD.out]
        exact ⟨_, _, rfl, rfl, by rw [HN1.out]; exact hO1, by rw [HN1.out]; exact hO2⟩
      · have e2' : (M == (n1 : Int)) = false := by simpa using e2
        have HE2 : Hid (¬ M = (n1 : Int)) := e2
        obtain ⟨LL, hLL⟩ : ∃ x, max L (n1 : Int) = x := ⟨_, rfl⟩
        obtain ⟨MM, hMM⟩ : ∃ x, min M (n2 : Int) = x := ⟨_, rfl⟩
        clear e1 e2
        go_enter Tryz.func95, Tryz.ntmps95
        have HD : Hid (tightD lo up least most = ⟨true, 0, lo, up, LL, MM⟩) := by
          unfold Hid tightD
          simp only [HN1.out, HN2.out, HL.out, HM.out]
          rw [if_neg (by omega)]
          simp only [if_neg HE1.out]
          simp only [HN1.out, if_neg HE2.out]
          simp only [HN1.out, HN2.out, hLL, hMM]
        go_wp2_with fail
        refine (clone_any _ lo _ ((HLO.out).below hb0) (by rw [HN1.out]; omega)).mono ?_
        rintro e w1 ⟨v1, rfl, hr1, hb1⟩
        have hB1 : Below W.heap.size W w1 := hb0.trans (hb1.mono hb0.size)
        have hcl2 := clone_any _ up w1 ((HUP.out).below hB1) (by rw [HN2.out]; omega)
        rw [HN1.out] at hr1
        obtain ⟨p1, k1, rfl⟩ := own_slice hr1
        have hg1 := (hb1.block W.heap.size (by simp)).trans hnw
        go_wp2_with fail
        refine hcl2.mono ?_
        clear hcl2
        rintro e w2 ⟨v2, rfl, hr2, hb2⟩
        have hB2 : Below W.heap.size W w2 := hB1.trans (hb2.mono hB1.size)
        rw [HN2.out] at hr2
        obtain ⟨p2, k2, rfl⟩ := own_slice hr2
        have hg2 : w2.heap[W.heap.size]? = _ := (hb2.block W.heap.size (by have := (Array.getElem?_eq_some_iff.1 hg1).1; exact this)).trans hg1
        have HG2 : Hid _ := hg2
        have hR1 := own_keepB (own_base hr1 hb0.size) hb2
        have hR2 := own_base hr2 hB1.size
        clear hg1 hg2 hb1 hb2 hr1 hr2 hB1 hnw hb0
        have hBS := below_setRow hB2 (Nat.le_refl W.heap.size) #[.bool true, .slice none 0 0, .slice p1 n1 k1, .slice p2 n2 k2, .int .i64 LL, .int .i64 MM]
        have hROW := setRow_heap w2 W.heap.size _ #[.bool true, .slice none 0 0, .slice p1 n1 k1, .slice p2 n2 k2, .int .i64 LL, .int .i64 MM] 50 (0, 0) HG2.out
        have HROW : Hid _ := hROW
        have hO1 := own_setRow hR1 W.heap.size #[.bool true, .slice none 0 0, .slice p1 n1 k1, .slice p2 n2 k2, .int .i64 LL, .int .i64 MM] HG2.out
        have hO2 := own_setRow hR2 W.heap.size #[.bool true, .slice none 0 0, .slice p1 n1 k1, .slice p2 n2 k2, .int .i64 LL, .int .i64 MM] HG2.out
        clear hROW hR1 hR2 hB2
        have HSZ : Hid ((Tryz.prog.info? 50).map (·.size) = some (#[.bool true, .slice none 0 0, .slice p1 n1 k1, .slice p2 n2 k2, .int .i64 LL, .int .i64 MM] : Array Value).size) := Tryz.size50
        have HSO : Hid ((#[.bool false, .slice none 0 0, .slice none 0 0, .slice none 0 0, .int .i64 0, .int .i64 0] : Array Value).size = (#[.bool true, .slice none 0 0, .slice p1 n1 k1, .slice p2 n2 k2, .int .i64 LL, .int .i64 MM] : Array Value).size) := rfl
        have HSA : Hid ((#[.bool true, .slice none 0 0, .slice p1 n1 k1, .slice p2 n2 k2, .int .i64 LL, .int .i64 MM] : Array Value).all (·.oneCell') = true) := by unfold Hid; simp [Value.oneCell']
        go_wp2_with (with_reducible refine wpList_store_row rfl 50 (.tmp 8) (.tmp 43) rfl W.heap.size #[.bool true, .slice none 0 0, .slice p1 n1 k1, .slice p2 n2 k2, .int .i64 LL, .int .i64 MM] (by with_unfolding_all rfl) (by with_unfolding_all rfl) 50 _ HG2.out HSZ.out HSO.out HSA.out ?_)
        refine ⟨rfl, _, results_cell_row (P := Tryz.prog) rfl _ _ W.heap.size 50 _ (0, 0) _ rfl HROW.out Tryz.underlying50 rfl (by kernel_rfl), ⟨_, rfl, ?_, hBS⟩⟩
        rw [HD.out]
        exact ⟨_, _, rfl, rfl, by rw [HN1.out]; exact hO1, by rw [HN2.out]; exact hO2⟩
end Go.Proofs.YthkliicmoandmaaGreatDoor.St

