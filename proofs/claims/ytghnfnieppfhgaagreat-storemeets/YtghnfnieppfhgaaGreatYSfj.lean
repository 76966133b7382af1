/-
  What is proved here: slices.Clone of numbers; sets.none and sets.tight.
  What is proved here: sets.Right, Empty, taken and Of of any domain.
  What is proved here: sets.Empty, taken and Of of any domain.
-/
import Derived.Test.YtghnfnieppfhgaaGreatYSdj
import Derived.Lib.MinMax
namespace Go.Proofs.YtghnfnieppfhgaaGreat.St
open Go.RowKit Go.Shelf
set_option linter.unusedVariables false
set_option linter.unusedSimpArgs false

theorem clone_any (s : Value) (l : List Int) (W : World) (h : Si W s l) (hl : l.length ≤ 100000) :
    Calls Tryz.prog 79 #[s] W fun e w' => ∃ v, e = .returned v ∧ w'.ownsRow W.heap.size 2 1 v l.length (intv l) ∧ Below W.heap.size W w' := by
  obtain ⟨a, cap, rfl, hc⟩ := h
  cases a with
  | none =>
    have h0 : l.length = 0 := by
      apply Classical.byContradiction; intro hn
      obtain ⟨_, _, e, _⟩ := hc (by omega)
      cases e
    obtain rfl := List.eq_nil_of_length_eq_zero h0
    exact (AnyG.slices_Clone_int_nil Tryz.laysClone 0 cap W).mono fun e w' ⟨he, hw⟩ => ⟨_, he, by simpa [intv] using World.ownsRow_nil _ _ _ _, by rw [hw]; exact Below.refl _ _⟩
  | some ad =>
    rcases Nat.eq_zero_or_pos l.length with h0 | h0
    · obtain rfl := List.eq_nil_of_length_eq_zero h0
      exact (AnyG.slices_Clone_int_zero Tryz.laysClone ad cap W).mono fun e w' ⟨v, he, hr, _, hb⟩ => ⟨v, he, hr, hb⟩
    · obtain ⟨b, off, e, hlt, hcell⟩ := hc h0
      injection e with e
      subst e
      have := AnyG.slices_Clone_int Tryz.laysClone b off l.length cap l W (Nat.le_refl _) (by omega) (fun j hj => by rw [nth_getD]; exact hcell j hj)
      rw [List.take_length] at this
      exact this.mono fun e w' ⟨v, he, hr, _, hb⟩ => ⟨v, he, hr, hb⟩

/-- A domain of a set, as data. -/
structure SD where
  set : Bool
  rn : Nat
  lo : List Int
  up : List Int
  least : Int
  most : Int
def noneD : SD := ⟨true, 0, [], [], 1, 0⟩
def tightD (lo up : List Int) (least most : Int) : SD :=
  let L := max least lo.length
  let M := min most up.length
  if M < L then noneD else
    let lo' := if L = up.length then up else lo
    let up' := if M = lo'.length then lo' else up
    ⟨true, 0, lo', up', max L lo'.length, min M up'.length⟩
/-- A domain in memory of its own. -/
def Dv (B : Nat) (W : World) (v : Value) (d : SD) : Prop :=
  ∃ slo sup, v = .agg #[.bool d.set, .slice none 0 0, slo, sup, .int .i64 d.least, .int .i64 d.most] ∧ d.rn = 0 ∧ W.ownsRow B 2 1 slo d.lo.length (intv d.lo) ∧ W.ownsRow B 2 1 sup d.up.length (intv d.up)
set_option maxHeartbeats 400000 in
theorem none_at (W : World) : Calls Tryz.prog 114 #[] W fun e w' => e = .returned (.agg #[.bool true, .slice none 0 0, .slice none 0 0, .slice none 0 0, .int .i64 1, .int .i64 0]) ∧ Below W.heap.size W w' := by
  go_enter Tryz.func114, Tryz.ntmps114
  go_wp2
  refine ⟨rfl, _, results_cell_row (P := Tryz.prog) rfl _ _ W.heap.size 37 _ (0, 0) _ rfl (World.alloc_heap_new W _) Tryz.underlying37 rfl (by kernel_rfl), rfl, (Below.refl _ W).alloc (Nat.le_refl _) _⟩
theorem none_dv (B : Nat) (W : World) : Dv B W (.agg #[.bool true, .slice none 0 0, .slice none 0 0, .slice none 0 0, .int .i64 1, .int .i64 0]) noneD :=
  ⟨_, _, rfl, rfl, by simpa [noneD, intv] using World.ownsRow_nil _ _ _ _, by simpa [noneD, intv] using World.ownsRow_nil _ _ _ _⟩
theorem own_slice {W : World} {B n : Nat} {v : Value} {xs : List Value} (h : W.ownsRow B 2 1 v n xs) : ∃ p c, v = .slice p n c := by
  rcases h.2 with ⟨e1, e2⟩ | ⟨g, cap, cur, e1, _⟩
  · exact ⟨none, 0, by rw [e1, e2]⟩
  · exact ⟨_, _, e1⟩
theorem Tryz.size37 : (Tryz.prog.info? 37).map (·.size) = some 6 := by kernel_rfl
theorem Dv.below {B : Nat} {W W' : World} {v : Value} {d : SD} (h : Dv B W v d) (hb : Below W.heap.size W W') : Dv B W' v d := by
  obtain ⟨slo, sup, e, e0, h1, h2⟩ := h
  exact ⟨slo, sup, e, e0, own_keepB h1 hb, own_keepB h2 hb⟩
theorem own_setRow {W : World} {B n : Nat} {v : Value} {xs : List Value} (h : W.ownsRow B 2 1 v n xs) (g : Nat) (cs : Array Value) {old : Array Value} (hg : W.heap[g]? = some (.cells old 37 (0, 0))) : (W.setRow g cs).ownsRow B 2 1 v n xs :=
  ⟨h.1, by
    rcases h.2 with h2 | ⟨g', cap, cur, e1, hB, hgb, r⟩
    · exact .inl h2
    · refine .inr ⟨g', cap, cur, e1, hB, ?_, r⟩
      rw [setRow_other W g g' cs (fun e => by subst e; rw [hg] at hgb; cases hgb)]
      exact hgb⟩

set_option maxRecDepth 100000 in
set_option maxHeartbeats 4000000 in
theorem tight_any (s1 s2 : Value) (lo up : List Int) (least most : Int) (W : World) (h1 : Si W s1 lo) (h2 : Si W s2 up) (hl1 : lo.length ≤ 1000) (hl2 : up.length ≤ 1000) :
    Calls Tryz.prog 115 #[s1, s2, .int .i64 least, .int .i64 most] W fun e w' => ∃ v, e = .returned v ∧ Dv W.heap.size w' v (tightD lo up least most) ∧ Below W.heap.size W w' := by
  have hb0 : Below W.heap.size W (W.alloc (.cells #[.bool false, .slice none 0 0, .slice none 0 0, .slice none 0 0, .int .i64 0, .int .i64 0] 37)) := (Below.refl _ W).alloc (Nat.le_refl _) _
  have hnw := World.alloc_heap_new W (Obj.cells #[.bool false, .slice none 0 0, .slice none 0 0, .slice none 0 0, .int .i64 0, .int .i64 0] 37)
  have h1' := h1
  have h2' := h2
  obtain ⟨a1, c1, rfl, _⟩ := h1'
  obtain ⟨a2, c2, rfl, _⟩ := h2'
  obtain ⟨n1, hn1⟩ : ∃ n, lo.length = n := ⟨_, rfl⟩
  obtain ⟨n2, hn2⟩ : ∃ n, up.length = n := ⟨_, rfl⟩
  have HN1 : Hid (lo.length = n1) := hn1
  have HN2 : Hid (up.length = n2) := hn2
  rw [hn1] at h1 hl1 ⊢
  rw [hn2] at h2 hl2 ⊢
  have HLO : Hid (Si W (.slice a1 n1 c1) lo) := h1
  have HUP : Hid (Si W (.slice a2 n2 c2) up) := h2
  obtain ⟨L, hL⟩ : ∃ L, max least (n1 : Int) = L := ⟨_, rfl⟩
  obtain ⟨M, hM⟩ : ∃ M, min most (n2 : Int) = M := ⟨_, rfl⟩
  have HL : Hid (max least (n1 : Int) = L) := hL
  have HM : Hid (min most (n2 : Int) = M) := hM
  have hLn : (n1 : Int) ≤ L := by omega
  have hMn : M ≤ (n2 : Int) := by omega
  clear h1 h2 hn1 hn2
  by_cases hLM : M < L
  · have hd : decide (M < L) = true := by simpa using hLM
    have HD : Hid (tightD lo up least most = noneD) := by
      unfold Hid tightD
      simp only [HN1.out, HN2.out, HL.out, HM.out]
      rw [if_pos hLM]
    go_enter Tryz.func115, Tryz.ntmps115
    go_wp2_with fail
    refine (none_at _).mono ?_
    rintro e w1 ⟨rfl, hb1⟩
    have hB1 : Below W.heap.size W w1 := hb0.trans (hb1.mono hb0.size)
    have hg1 := (hb1.block W.heap.size (by simp)).trans hnw
    have HG1 : Hid _ := hg1
    have hBS := below_setRow hB1 (Nat.le_refl W.heap.size) #[.bool true, .slice none 0 0, .slice none 0 0, .slice none 0 0, .int .i64 1, .int .i64 0]
    have HROW : Hid _ := setRow_heap w1 W.heap.size _ #[.bool true, .slice none 0 0, .slice none 0 0, .slice none 0 0, .int .i64 1, .int .i64 0] 37 (0, 0) HG1.out
    clear hg1 hb1 hB1 hnw hb0
    have HSZ : Hid ((Tryz.prog.info? 37).map (·.size) = some (#[.bool true, .slice none 0 0, .slice none 0 0, .slice none 0 0, .int .i64 1, .int .i64 0] : Array Value).size) := Tryz.size37
    have HSO : Hid ((#[.bool false, .slice none 0 0, .slice none 0 0, .slice none 0 0, .int .i64 0, .int .i64 0] : Array Value).size = (#[.bool true, .slice none 0 0, .slice none 0 0, .slice none 0 0, .int .i64 1, .int .i64 0] : Array Value).size) := rfl
    have HSA : Hid ((#[.bool true, .slice none 0 0, .slice none 0 0, .slice none 0 0, .int .i64 1, .int .i64 0] : Array Value).all (·.oneCell') = true) := by unfold Hid; simp [Value.oneCell']
    go_wp2_with (with_reducible refine wpList_store_row rfl 37 (.tmp 8) (.tmp 20) rfl W.heap.size #[.bool true, .slice none 0 0, .slice none 0 0, .slice none 0 0, .int .i64 1, .int .i64 0] (by with_unfolding_all rfl) (by with_unfolding_all rfl) 37 _ HG1.out HSZ.out HSO.out HSA.out ?_)
    refine ⟨rfl, _, results_cell_row (P := Tryz.prog) rfl _ _ W.heap.size 37 _ (0, 0) _ rfl HROW.out Tryz.underlying37 rfl (by kernel_rfl), ⟨_, rfl, ?_, hBS⟩⟩
    rw [HD.out]
    exact none_dv _ _
  · have hd : decide (M < L) = false := by simpa using hLM
    by_cases e1 : L = (n2 : Int)
    · have e1' : (L == (n2 : Int)) = true := by simpa using e1
      have hMe : M = (n2 : Int) := by omega
      have e2' : (M == (n2 : Int)) = true := by simpa using hMe
      obtain ⟨LL, hLL⟩ : ∃ x, max L (n2 : Int) = x := ⟨_, rfl⟩
      obtain ⟨MM, hMM⟩ : ∃ x, min M (n2 : Int) = x := ⟨_, rfl⟩
      have HE : Hid (L = (n2 : Int) ∧ M = (n2 : Int)) := ⟨e1, hMe⟩
      clear e1 hMe
      go_enter Tryz.func115, Tryz.ntmps115
      have HD : Hid (tightD lo up least most = ⟨true, 0, up, up, LL, MM⟩) := by
        unfold Hid tightD
        simp only [HN1.out, HN2.out, HL.out, HM.out]
        rw [if_neg (by omega)]
        simp only [if_pos HE.out.1]
        simp only [HN2.out, if_pos HE.out.2]
        simp only [HN1.out, HN2.out, hLL, hMM]
      go_wp2_with fail
      refine (clone_any _ up _ ((HUP.out).below hb0) (by rw [HN2.out]; omega)).mono ?_
      rintro e w1 ⟨v1, rfl, hr1, hb1⟩
      have hB1 : Below W.heap.size W w1 := hb0.trans (hb1.mono hb0.size)
      have hcl2 := clone_any _ up w1 ((HUP.out).below hB1) (by rw [HN2.out]; omega)
      rw [HN2.out] at hr1
      obtain ⟨p1, k1, rfl⟩ := own_slice hr1
      have hg1 := (hb1.block W.heap.size (by simp)).trans hnw
      go_wp2_with fail
      refine hcl2.mono ?_
      clear hcl2
      rintro e w2 ⟨v2, rfl, hr2, hb2⟩
      have hB2 : Below W.heap.size W w2 := hB1.trans (hb2.mono hB1.size)
      rw [HN2.out] at hr2
      obtain ⟨p2, k2, rfl⟩ := own_slice hr2
      have hg2 : w2.heap[W.heap.size]? = _ := (hb2.block W.heap.size (by have := (Array.getElem?_eq_some_iff.1 hg1).1; exact this)).trans hg1
      have HG2 : Hid _ := hg2
      have hR1 := own_keepB (own_base hr1 hb0.size) hb2
      have hR2 := own_base hr2 hB1.size
      clear hg1 hg2 hb1 hb2 hr1 hr2 hB1 hnw hb0
      have hBS := below_setRow hB2 (Nat.le_refl W.heap.size) #[.bool true, .slice none 0 0, .slice p1 n2 k1, .slice p2 n2 k2, .int .i64 LL, .int .i64 MM]
      have hROW := setRow_heap w2 W.heap.size _ #[.bool true, .slice none 0 0, .slice p1 n2 k1, .slice p2 n2 k2, .int .i64 LL, .int .i64 MM] 37 (0, 0) HG2.out
      have HROW : Hid _ := hROW
      have hO1 := own_setRow hR1 W.heap.size #[.bool true, .slice none 0 0, .slice p1 n2 k1, .slice p2 n2 k2, .int .i64 LL, .int .i64 MM] HG2.out
      have hO2 := own_setRow hR2 W.heap.size #[.bool true, .slice none 0 0, .slice p1 n2 k1, .slice p2 n2 k2, .int .i64 LL, .int .i64 MM] HG2.out
      clear hROW hR1 hR2 hB2
      have HSZ : Hid ((Tryz.prog.info? 37).map (·.size) = some (#[.bool true, .slice none 0 0, .slice p1 n2 k1, .slice p2 n2 k2, .int .i64 LL, .int .i64 MM] : Array Value).size) := Tryz.size37
      have HSO : Hid ((#[.bool false, .slice none 0 0, .slice none 0 0, .slice none 0 0, .int .i64 0, .int .i64 0] : Array Value).size = (#[.bool true, .slice none 0 0, .slice p1 n2 k1, .slice p2 n2 k2, .int .i64 LL, .int .i64 MM] : Array Value).size) := rfl
      have HSA : Hid ((#[.bool true, .slice none 0 0, .slice p1 n2 k1, .slice p2 n2 k2, .int .i64 LL, .int .i64 MM] : Array Value).all (·.oneCell') = true) := by unfold Hid; simp [Value.oneCell']
      go_wp2_with (with_reducible refine wpList_store_row rfl 37 (.tmp 8) (.tmp 43) rfl W.heap.size #[.bool true, .slice none 0 0, .slice p1 n2 k1, .slice p2 n2 k2, .int .i64 LL, .int .i64 MM] (by with_unfolding_all rfl) (by with_unfolding_all rfl) 37 _ HG2.out HSZ.out HSO.out HSA.out ?_)
      refine ⟨rfl, _, results_cell_row (P := Tryz.prog) rfl _ _ W.heap.size 37 _ (0, 0) _ rfl HROW.out Tryz.underlying37 rfl (by kernel_rfl), ⟨_, rfl, ?_, hBS⟩⟩
      rw [HD.out]
      exact ⟨_, _, rfl, rfl, by rw [HN2.out]; exact hO1, by rw [HN2.out]; exact hO2⟩
    · have e1' : (L == (n2 : Int)) = false := by simpa using e1
      have HE1 : Hid (¬ L = (n2 : Int)) := e1
      by_cases e2 : M = (n1 : Int)
      · have e2' : (M == (n1 : Int)) = true := by simpa using e2
        have HE2 : Hid (M = (n1 : Int)) := e2
        obtain ⟨LL, hLL⟩ : ∃ x, max L (n1 : Int) = x := ⟨_, rfl⟩
        obtain ⟨MM, hMM⟩ : ∃ x, min M (n1 : Int) = x := ⟨_, rfl⟩
        clear e1 e2
        go_enter Tryz.func115, Tryz.ntmps115
        have HD : Hid (tightD lo up least most = ⟨true, 0, lo, lo, LL, MM⟩) := by
          unfold Hid tightD
          simp only [HN1.out, HN2.out, HL.out, HM.out]
          rw [if_neg (by omega)]
          simp only [if_neg HE1.out]
          simp only [HN1.out, if_pos HE2.out]
          simp only [HN1.out, HN2.out, hLL, hMM]
        go_wp2_with fail
        refine (clone_any _ lo _ ((HLO.out).below hb0) (by rw [HN1.out]; omega)).mono ?_
        rintro e w1 ⟨v1, rfl, hr1, hb1⟩
        have hB1 : Below W.heap.size W w1 := hb0.trans (hb1.mono hb0.size)
        have hcl2 := clone_any _ lo w1 ((HLO.out).below hB1) (by rw [HN1.out]; omega)
        rw [HN1.out] at hr1
        obtain ⟨p1, k1, rfl⟩ := own_slice hr1
        have hg1 := (hb1.block W.heap.size (by simp)).trans hnw
        go_wp2_with fail
        refine hcl2.mono ?_
        clear hcl2
        rintro e w2 ⟨v2, rfl, hr2, hb2⟩
        have hB2 : Below W.heap.size W w2 := hB1.trans (hb2.mono hB1.size)
        rw [HN1.out] at hr2
        obtain ⟨p2, k2, rfl⟩ := own_slice hr2
        have hg2 : w2.heap[W.heap.size]? = _ := (hb2.block W.heap.size (by have := (Array.getElem?_eq_some_iff.1 hg1).1; exact this)).trans hg1
        have HG2 : Hid _ := hg2
        have hR1 := own_keepB (own_base hr1 hb0.size) hb2
        have hR2 := own_base hr2 hB1.size
        clear hg1 hg2 hb1 hb2 hr1 hr2 hB1 hnw hb0
        have hBS := below_setRow hB2 (Nat.le_refl W.heap.size) #[.bool true, .slice none 0 0, .slice p1 n1 k1, .slice p2 n1 k2, .int .i64 LL, .int .i64 MM]
        have hROW := setRow_heap w2 W.heap.size _ #[.bool true, .slice none 0 0, .slice p1 n1 k1, .slice p2 n1 k2, .int .i64 LL, .int .i64 MM] 37 (0, 0) HG2.out
        have HROW : Hid _ := hROW
        have hO1 := own_setRow hR1 W.heap.size #[.bool true, .slice none 0 0, .slice p1 n1 k1, .slice p2 n1 k2, .int .i64 LL, .int .i64 MM] HG2.out
        have hO2 := own_setRow hR2 W.heap.size #[.bool true, .slice none 0 0, .slice p1 n1 k1, .slice p2 n1 k2, .int .i64 LL, .int .i64 MM] HG2.out
        clear hROW hR1 hR2 hB2
        have HSZ : Hid ((Tryz.prog.info? 37).map (·.size) = some (#[.bool true, .slice none 0 0, .slice p1 n1 k1, .slice p2 n1 k2, .int .i64 LL, .int .i64 MM] : Array Value).size) := Tryz.size37
        have HSO : Hid ((#[.bool false, .slice none 0 0, .slice none 0 0, .slice none 0 0, .int .i64 0, .int .i64 0] : Array Value).size = (#[.bool true, .slice none 0 0, .slice p1 n1 k1, .slice p2 n1 k2, .int .i64 LL, .int .i64 MM] : Array Value).size) := rfl
        have HSA : Hid ((#[.bool true, .slice none 0 0, .slice p1 n1 k1, .slice p2 n1 k2, .int .i64 LL, .int .i64 MM] : Array Value).all (·.oneCell') = true) := by unfold Hid; simp [Value.oneCell']
        go_wp2_with (with_reducible refine wpList_store_row rfl 37 (.tmp 8) (.tmp 43) rfl W.heap.size #[.bool true, .slice none 0 0, .slice p1 n1 k1, .slice p2 n1 k2, .int .i64 LL, .int .i64 MM] (by with_unfolding_all rfl) (by with_unfolding_all rfl) 37 _ HG2.out HSZ.out HSO.out HSA.out ?_)
        refine ⟨rfl, _, results_cell_row (P := Tryz.prog) rfl _ _ W.heap.size 37 _ (0, 0) _ rfl HROW.out Tryz.underlying37 rfl (by kernel_rfl), ⟨_, rfl, ?_, hBS⟩⟩
        rw [HD.out]
        exact ⟨_, _, rfl, rfl, by rw [HN1.out]; exact hO1, by rw [HN1.out]; exact hO2⟩
      · have e2' : (M == (n1 : Int)) = false := by simpa using e2
        have HE2 : Hid (¬ M = (n1 : Int)) := e2
        obtain ⟨LL, hLL⟩ : ∃ x, max L (n1 : Int) = x := ⟨_, rfl⟩
        obtain ⟨MM, hMM⟩ : ∃ x, min M (n2 : Int) = x := ⟨_, rfl⟩
        clear e1 e2
        go_enter Tryz.func115, Tryz.ntmps115
        have HD : Hid (tightD lo up least most = ⟨true, 0, lo, up, LL, MM⟩) := by
          unfold Hid tightD
          simp only [HN1.out, HN2.out, HL.out, HM.out]
          rw [if_neg (by omega)]
          simp only [if_neg HE1.out]
          simp only [HN1.out, if_neg HE2.out]
          simp only [HN1.out, HN2.out, hLL, hMM]
        go_wp2_with fail
        refine (clone_any _ lo _ ((HLO.out).below hb0) (by rw [HN1.out]; omega)).mono ?_
        rintro e w1 ⟨v1, rfl, hr1, hb1⟩
        have hB1 : Below W.heap.size W w1 := hb0.trans (hb1.mono hb0.size)
        have hcl2 := clone_any _ up w1 ((HUP.out).below hB1) (by rw [HN2.out]; omega)
        rw [HN1.out] at hr1
        obtain ⟨p1, k1, rfl⟩ := own_slice hr1
        have hg1 := (hb1.block W.heap.size (by simp)).trans hnw
        go_wp2_with fail
        refine hcl2.mono ?_
        clear hcl2
        rintro e w2 ⟨v2, rfl, hr2, hb2⟩
        have hB2 : Below W.heap.size W w2 := hB1.trans (hb2.mono hB1.size)
        rw [HN2.out] at hr2
        obtain ⟨p2, k2, rfl⟩ := own_slice hr2
        have hg2 : w2.heap[W.heap.size]? = _ := (hb2.block W.heap.size (by have := (Array.getElem?_eq_some_iff.1 hg1).1; exact this)).trans hg1
        have HG2 : Hid _ := hg2
        have hR1 := own_keepB (own_base hr1 hb0.size) hb2
        have hR2 := own_base hr2 hB1.size
        clear hg1 hg2 hb1 hb2 hr1 hr2 hB1 hnw hb0
        have hBS := below_setRow hB2 (Nat.le_refl W.heap.size) #[.bool true, .slice none 0 0, .slice p1 n1 k1, .slice p2 n2 k2, .int .i64 LL, .int .i64 MM]
        have hROW := setRow_heap w2 W.heap.size _ #[.bool true, .slice none 0 0, .slice p1 n1 k1, .slice p2 n2 k2, .int .i64 LL, .int .i64 MM] 37 (0, 0) HG2.out
        have HROW : Hid _ := hROW
        have hO1 := own_setRow hR1 W.heap.size #[.bool true, .slice none 0 0, .slice p1 n1 k1, .slice p2 n2 k2, .int .i64 LL, .int .i64 MM] HG2.out
        have hO2 := own_setRow hR2 W.heap.size #[.bool true, .slice none 0 0, .slice p1 n1 k1, .slice p2 n2 k2, .int .i64 LL, .int .i64 MM] HG2.out
        clear hROW hR1 hR2 hB2
        have HSZ : Hid ((Tryz.prog.info? 37).map (·.size) = some (#[.bool true, .slice none 0 0, .slice p1 n1 k1, .slice p2 n2 k2, .int .i64 LL, .int .i64 MM] : Array Value).size) := Tryz.size37
        have HSO : Hid ((#[.bool false, .slice none 0 0, .slice none 0 0, .slice none 0 0, .int .i64 0, .int .i64 0] : Array Value).size = (#[.bool true, .slice none 0 0, .slice p1 n1 k1, .slice p2 n2 k2, .int .i64 LL, .int .i64 MM] : Array Value).size) := rfl
        have HSA : Hid ((#[.bool true, .slice none 0 0, .slice p1 n1 k1, .slice p2 n2 k2, .int .i64 LL, .int .i64 MM] : Array Value).all (·.oneCell') = true) := by unfold Hid; simp [Value.oneCell']
        go_wp2_with (with_reducible refine wpList_store_row rfl 37 (.tmp 8) (.tmp 43) rfl W.heap.size #[.bool true, .slice none 0 0, .slice p1 n1 k1, .slice p2 n2 k2, .int .i64 LL, .int .i64 MM] (by with_unfolding_all rfl) (by with_unfolding_all rfl) 37 _ HG2.out HSZ.out HSO.out HSA.out ?_)
        refine ⟨rfl, _, results_cell_row (P := Tryz.prog) rfl _ _ W.heap.size 37 _ (0, 0) _ rfl HROW.out Tryz.underlying37 rfl (by kernel_rfl), ⟨_, rfl, ?_, hBS⟩⟩
        rw [HD.out]
        exact ⟨_, _, rfl, rfl, by rw [HN1.out]; exact hO1, by rw [HN2.out]; exact hO2⟩
end Go.Proofs.YtghnfnieppfhgaaGreat.St


namespace Go.Proofs.YtghnfnieppfhgaaGreat.St
open Go.RowKit Go.Shelf
set_option linter.unusedVariables false
set_option linter.unusedSimpArgs false

/-- A domain as it is handed in. -/
def Di (W : World) (v : Value) (d : SD) : Prop :=
  ∃ ra rc slo sup, v = .agg #[.bool d.set, .slice ra d.rn rc, slo, sup, .int .i64 d.least, .int .i64 d.most] ∧ Si W slo d.lo ∧ Si W sup d.up
theorem Di.below {W W' : World} {v : Value} {d : SD} (h : Di W v d) (hb : Below W.heap.size W W') : Di W' v d := by
  obtain ⟨ra, rc, slo, sup, e, h1, h2⟩ := h
  exact ⟨ra, rc, slo, sup, e, h1.below hb, h2.below hb⟩
theorem Dv.di {B : Nat} {W : World} {v : Value} {d : SD} (h : Dv B W v d) : Di W v d := by
  obtain ⟨slo, sup, e, e0, h1, h2⟩ := h
  exact ⟨none, 0, slo, sup, by rw [e, e0], own_si h1, own_si h2⟩
/-- Can a domain be? -/
def RightD (d : SD) : Prop := d.set = true ∧ d.rn = 0 ∧ IsSet d.lo ∧ IsSet d.up ∧ subB d.lo d.up = true ∧ ((d.least = 1 ∧ d.most = 0 ∧ d.up.length = 0) ∨ ((d.lo.length : Int) ≤ d.least ∧ d.least ≤ d.most ∧ d.most ≤ d.up.length))
instance (d : SD) : Decidable (RightD d) := by unfold RightD; infer_instance
def rightD (d : SD) : Bool := decide (RightD d)
theorem six_cells {w : World} {g : Nat} {x0 x1 x2 x3 x4 x5 : Value} (h : w.heap[g]? = some (.cells #[x0, x1, x2, x3, x4, x5] 37 (0, 0))) :
    w.cell? ⟨g, 0, none⟩ = some x0 ∧ w.cell? ⟨g, 1, none⟩ = some x1 ∧ w.cell? ⟨g, 2, none⟩ = some x2 ∧ w.cell? ⟨g, 3, none⟩ = some x3 ∧ w.cell? ⟨g, 4, none⟩ = some x4 ∧ w.cell? ⟨g, 5, none⟩ = some x5 := by
  refine ⟨?_, ?_, ?_, ?_, ?_, ?_⟩ <;> simp [World.cell?, h]
theorem setB_below (s : Value) (l : List Int) (W : World) (h : Si W s l) : Calls Tryz.prog 94 #[s] W fun e w' => e = .returned (.bool (setB l)) ∧ Below W.heap.size W w' :=
  (set_any s l W h).mono fun e w' ⟨he, n, hw⟩ => ⟨he, by rw [hw]; exact below_drewN (Below.refl _ _) _⟩

set_option maxRecDepth 100000 in
set_option maxHeartbeats 4000000 in
theorem right_any (v : Value) (d : SD) (W : World) (h : Di W v d) :
    Calls Tryz.prog 67 #[v] W fun e w' => e = .returned (.bool (rightD d)) ∧ Below W.heap.size W w' := by
  obtain ⟨ra, rc, slo, sup, rfl, h1, h2⟩ := h
  obtain ⟨st, rn, lo, up, least, most⟩ := d
  simp only at h1 h2 ⊢
  obtain ⟨W0, hW0⟩ : ∃ X, W.alloc (Obj.cells #[.bool st, .slice ra rn rc, slo, sup, .int .i64 least, .int .i64 most] 37) = X := ⟨_, rfl⟩
  have hb0 : Below W.heap.size W W0 := by rw [← hW0]; exact (Below.refl _ W).alloc (Nat.le_refl _) _
  have hR0 : W0.heap[W.heap.size]? = some (.cells #[.bool st, .slice ra rn rc, slo, sup, .int .i64 least, .int .i64 most] 37 (0, 0)) := by rw [← hW0]; exact World.alloc_heap_new W _
  have hlt0 : W.heap.size < W0.heap.size := (Array.getElem?_eq_some_iff.1 hR0).1
  have hs1 := setB_below slo lo W0 (h1.below hb0)
  have hs2 := fun X (hX : Below W.heap.size W X) => setB_below sup up X (h2.below hX)
  have hs3 := fun X (hX : Below W.heap.size W X) => sub_any slo sup lo up X (h1.below hX) (h2.below hX)
  obtain ⟨a1, c1, rfl, _⟩ := h1
  obtain ⟨a2, c2, rfl, _⟩ := h2
  obtain ⟨n1, hn1⟩ : ∃ n, lo.length = n := ⟨_, rfl⟩
  obtain ⟨n2, hn2⟩ : ∃ n, up.length = n := ⟨_, rfl⟩
  have HN1 : Hid (lo.length = n1) := hn1
  have HN2 : Hid (up.length = n2) := hn2
  rw [hn1] at hs1 hs3 hR0 hW0 ⊢
  rw [hn2] at hs2 hs3 hR0 hW0 ⊢
  have HR0 : Hid _ := hR0
  have HW0 : Hid _ := hW0
  obtain ⟨c0, c1', c2', c3, c4, c5⟩ := six_cells hR0
  clear hn1 hn2 hR0 hW0
  have hRD : ∀ b, rightD ⟨st, rn, lo, up, least, most⟩ = b → rightD ⟨st, rn, lo, up, least, most⟩ = b := fun _ h => h
  clear hRD
  by_cases hst : st = true
  · subst hst
    by_cases hrn : rn = 0
    · subst hrn
      by_cases hI1 : IsSet lo
      · rw [setB_yes hI1] at hs1
        have HI1 : Hid (IsSet lo) := hI1
        by_cases hI2 : IsSet up
        · have HI2 : Hid (IsSet up) := hI2
          simp only [setB_yes hI2] at hs2
          simp only [tkS_yes hI1, tkS_yes hI2] at hs3
          clear hI1 hI2
          by_cases hsu : subB lo up = true
          · have HSU : Hid (subB lo up = true) := hsu
            simp only [hsu] at hs3
            clear hsu
            have HDD : Hid (rightD ⟨true, 0, lo, up, least, most⟩ = decide ((least = 1 ∧ most = 0 ∧ n2 = 0) ∨ ((n1 : Int) ≤ least ∧ least ≤ most ∧ most ≤ n2))) := by
              unfold Hid rightD
              rw [decide_eq_decide]
              unfold RightD
              simp only [HN1.out, HN2.out]
              exact ⟨fun h => h.2.2.2.2.2, fun h => ⟨trivial, trivial, HI1.out, HI2.out, HSU.out, h⟩⟩
            go_enter Tryz.func67, Tryz.ntmps67
            go_upto_region 1 with (fail)
            rw [HW0.out]
            go_wp2_with fail
            refine hs1.mono ?_
            rintro e w1 ⟨rfl, hb1⟩
            have hB1 : Below W.heap.size W w1 := hb0.trans (hb1.mono hb0.size)
            have hR1 := (hb1.block W.heap.size hlt0).trans HR0.out
            have hlt1 : W.heap.size < w1.heap.size := (Array.getElem?_eq_some_iff.1 hR1).1
            have HR1 : Hid _ := hR1
            clear c0 c1' c2' c3 c4 c5
            obtain ⟨c0, c1', c2', c3, c4, c5⟩ := six_cells hR1
            clear hR1 hb1
            go_wp2_with fail
            refine (hs2 w1 hB1).mono ?_
            rintro e w2 ⟨rfl, hb2⟩
            have hB2 : Below W.heap.size W w2 := hB1.trans (hb2.mono hB1.size)
            have hR2 := (hb2.block W.heap.size hlt1).trans HR1.out
            have hlt2 : W.heap.size < w2.heap.size := (Array.getElem?_eq_some_iff.1 hR2).1
            have HR2 : Hid _ := hR2
            clear c0 c1' c2' c3 c4 c5
            obtain ⟨c0, c1', c2', c3, c4, c5⟩ := six_cells hR2
            clear hR2 hb2
            go_wp2_with fail
            refine (hs3 w2 hB2).mono ?_
            rintro e w3 ⟨rfl, hb3⟩
            have hB3 : Below W.heap.size W w3 := hB2.trans (hb3.mono hB2.size)
            have hR3 := (hb3.block W.heap.size hlt2).trans HR2.out
            clear c0 c1' c2' c3 c4 c5
            obtain ⟨c0, c1', c2', c3, c4, c5⟩ := six_cells hR3
            clear hR3 hb3
            clear hs1 hs2 hs3
            by_cases hl : least = 1
            · by_cases hm : most = 0
              · by_cases hu : n2 = 0
                · subst hl; subst hm; subst hu
                  go_wp2
                  go_ret
                  exact ⟨ret_bool (by rw [HDD.out]; simp), hB3⟩
                · subst hl; subst hm
                  have hu' : ((n2 : Int) == 0) = false := by simp; omega
                  have HF : Hid (decide (((1 : Int) = 1 ∧ (0 : Int) = 0 ∧ n2 = 0) ∨ ((n1 : Int) ≤ 1 ∧ (1 : Int) ≤ 0 ∧ (0 : Int) ≤ n2)) = false) := by unfold Hid; rw [decide_eq_false_iff_not]; omega
                  by_cases hx : (n1 : Int) ≤ 1
                  · go_wp2
                    go_ret
                    exact ⟨ret_bool (by rw [HDD.out, HF.out]), hB3⟩
                  · go_wp2
                    go_ret
                    exact ⟨ret_bool (by rw [HDD.out, HF.out]), hB3⟩
              · subst hl
                have hm' : (most == 0) = false := by simpa using hm
                have HF : Hid (decide (((1 : Int) = 1 ∧ most = 0 ∧ n2 = 0) ∨ ((n1 : Int) ≤ 1 ∧ (1 : Int) ≤ most ∧ most ≤ n2)) = decide ((n1 : Int) ≤ 1 ∧ (1 : Int) ≤ most ∧ most ≤ n2)) := by unfold Hid; rw [decide_eq_decide]; omega
                by_cases hx : (n1 : Int) ≤ 1
                · by_cases hy : (1 : Int) ≤ most
                  · by_cases hz : most ≤ (n2 : Int)
                    · go_wp2
                      go_ret
                      exact ⟨ret_bool (by rw [HDD.out, HF.out]; simp [hx, hy, hz]), hB3⟩
                    · go_wp2
                      go_ret
                      exact ⟨ret_bool (by rw [HDD.out, HF.out]; first | (simp only [Bool.false_eq, decide_eq_false_iff_not]; omega) | (rw [decide_eq_decide]; omega) | (simp; omega)), hB3⟩
                  · go_wp2
                    go_ret
                    exact ⟨ret_bool (by rw [HDD.out, HF.out]; first | (simp only [Bool.false_eq, decide_eq_false_iff_not]; omega) | (rw [decide_eq_decide]; omega) | (simp; omega)), hB3⟩
                · go_wp2
                  go_ret
                  exact ⟨ret_bool (by rw [HDD.out, HF.out]; first | (simp only [Bool.false_eq, decide_eq_false_iff_not]; omega) | (rw [decide_eq_decide]; omega) | (simp; omega)), hB3⟩
            · have hl' : (least == 1) = false := by simpa using hl
              have HF : Hid (decide ((least = 1 ∧ most = 0 ∧ n2 = 0) ∨ ((n1 : Int) ≤ least ∧ least ≤ most ∧ most ≤ n2)) = decide ((n1 : Int) ≤ least ∧ least ≤ most ∧ most ≤ n2)) := by unfold Hid; rw [decide_eq_decide]; omega
              by_cases hx : (n1 : Int) ≤ least
              · by_cases hy : least ≤ most
                · by_cases hz : most ≤ (n2 : Int)
                  · go_wp2
                    go_ret
                    exact ⟨ret_bool (by rw [HDD.out, HF.out]; simp [hx, hy, hz]), hB3⟩
                  · go_wp2
                    go_ret
                    exact ⟨ret_bool (by rw [HDD.out, HF.out]; first | (simp only [Bool.false_eq, decide_eq_false_iff_not]; omega) | (rw [decide_eq_decide]; omega) | (simp; omega)), hB3⟩
                · go_wp2
                  go_ret
                  exact ⟨ret_bool (by rw [HDD.out, HF.out]; first | (simp only [Bool.false_eq, decide_eq_false_iff_not]; omega) | (rw [decide_eq_decide]; omega) | (simp; omega)), hB3⟩
              · go_wp2
                go_ret
                exact ⟨ret_bool (by rw [HDD.out, HF.out]; first | (simp only [Bool.false_eq, decide_eq_false_iff_not]; omega) | (rw [decide_eq_decide]; omega) | (simp; omega)), hB3⟩
          · have hsu' : subB lo up = false := by simpa using hsu
            have HSU : Hid (subB lo up = false) := hsu'
            simp only [hsu'] at hs3
            clear hsu hsu'
            go_enter Tryz.func67, Tryz.ntmps67
            go_upto_region 1 with (fail)
            rw [HW0.out]
            go_wp2_with fail
            refine hs1.mono ?_
            rintro e w1 ⟨rfl, hb1⟩
            have hB1 : Below W.heap.size W w1 := hb0.trans (hb1.mono hb0.size)
            have hR1 := (hb1.block W.heap.size hlt0).trans HR0.out
            have hlt1 : W.heap.size < w1.heap.size := (Array.getElem?_eq_some_iff.1 hR1).1
            have HR1 : Hid _ := hR1
            clear c0 c1' c2' c3 c4 c5
            obtain ⟨c0, c1', c2', c3, c4, c5⟩ := six_cells hR1
            clear hR1 hb1
            go_wp2_with fail
            refine (hs2 w1 hB1).mono ?_
            rintro e w2 ⟨rfl, hb2⟩
            have hB2 : Below W.heap.size W w2 := hB1.trans (hb2.mono hB1.size)
            have hR2 := (hb2.block W.heap.size hlt1).trans HR1.out
            have hlt2 : W.heap.size < w2.heap.size := (Array.getElem?_eq_some_iff.1 hR2).1
            have HR2 : Hid _ := hR2
            clear c0 c1' c2' c3 c4 c5
            obtain ⟨c0, c1', c2', c3, c4, c5⟩ := six_cells hR2
            clear hR2 hb2
            go_wp2_with fail
            refine (hs3 w2 hB2).mono ?_
            rintro e w3 ⟨rfl, hb3⟩
            have hB3 : Below W.heap.size W w3 := hB2.trans (hb3.mono hB2.size)
            go_wp2
            go_ret
            exact ⟨ret_bool (by unfold rightD; rw [decide_eq_false (fun h => by have := h.2.2.2.2.1; simp only at this; rw [HSU.out] at this; cases this)]), hB3⟩
        · have HI2 : Hid (¬ IsSet up) := hI2
          simp only [setB_no hI2] at hs2
          clear hI1 hI2 hs3
          go_enter Tryz.func67, Tryz.ntmps67
          go_upto_region 1 with (fail)
          rw [HW0.out]
          go_wp2_with fail
          refine hs1.mono ?_
          rintro e w1 ⟨rfl, hb1⟩
          have hB1 : Below W.heap.size W w1 := hb0.trans (hb1.mono hb0.size)
          have hR1 := (hb1.block W.heap.size hlt0).trans HR0.out
          have hlt1 : W.heap.size < w1.heap.size := (Array.getElem?_eq_some_iff.1 hR1).1
          have HR1 : Hid _ := hR1
          clear c0 c1' c2' c3 c4 c5
          obtain ⟨c0, c1', c2', c3, c4, c5⟩ := six_cells hR1
          clear hR1 hb1
          go_wp2_with fail
          refine (hs2 w1 hB1).mono ?_
          rintro e w2 ⟨rfl, hb2⟩
          have hB2 : Below W.heap.size W w2 := hB1.trans (hb2.mono hB1.size)
          go_wp2
          go_ret
          exact ⟨ret_bool (by unfold rightD; rw [decide_eq_false (fun h => HI2.out h.2.2.2.1)]), hB2⟩
      · have HI1 : Hid (¬ IsSet lo) := hI1
        rw [setB_no hI1] at hs1
        clear hI1 hs2 hs3
        go_enter Tryz.func67, Tryz.ntmps67
        go_upto_region 1 with (fail)
        rw [HW0.out]
        go_wp2_with fail
        refine hs1.mono ?_
        rintro e w1 ⟨rfl, hb1⟩
        have hB1 : Below W.heap.size W w1 := hb0.trans (hb1.mono hb0.size)
        go_wp2
        go_ret
        exact ⟨ret_bool (by unfold rightD; rw [decide_eq_false (fun h => HI1.out h.2.2.1)]), hB1⟩
    · have hrn' : decide (0 < (rn : Int)) = true := by simp; omega
      have HRN : Hid (¬ rn = 0) := hrn
      clear hrn hs1 hs2 hs3
      go_enter Tryz.func67, Tryz.ntmps67
      go_upto_region 1 with (fail)
      rw [HW0.out]
      go_wp2
      go_ret
      exact ⟨ret_bool (by unfold rightD; rw [decide_eq_false (fun h => HRN.out h.2.1)]), hb0⟩
  · have hst' : st = false := by simpa using hst
    subst hst'
    clear hst hs1 hs2 hs3
    go_enter Tryz.func67, Tryz.ntmps67
    go_upto_region 1 with (fail)
    rw [HW0.out]
    go_wp2
    go_ret
    exact ⟨ret_bool (by unfold rightD; rw [decide_eq_false (fun h => by have := h.1; cases this)]), hb0⟩
end Go.Proofs.YtghnfnieppfhgaaGreat.St


namespace Go.Proofs.YtghnfnieppfhgaaGreat.St
open Go.RowKit Go.Shelf
set_option linter.unusedVariables false
set_option linter.unusedSimpArgs false

def emptyD (d : SD) : Bool := !rightD d || decide (d.most < d.least)
def takenD (d : SD) : SD := if RightD d then tightD d.lo d.up d.least d.most else noneD

set_option maxRecDepth 100000 in
set_option maxHeartbeats 2000000 in
theorem empty_any (v : Value) (d : SD) (W : World) (h : Di W v d) :
    Calls Tryz.prog 112 #[v] W fun e w' => e = .returned (.bool (emptyD d)) ∧ Below W.heap.size W w' := by
  have hr := fun X (hX : Below W.heap.size W X) => right_any v d X (h.below hX)
  obtain ⟨ra, rc, slo, sup, rfl, h1, h2⟩ := h
  obtain ⟨a1, c1, rfl, _⟩ := h1
  obtain ⟨a2, c2, rfl, _⟩ := h2
  have he : emptyD d = (!rightD d || decide (d.most < d.least)) := rfl
  obtain ⟨st, rn, lo, up, least, most⟩ := d
  simp only at hr he ⊢
  obtain ⟨n1, hn1⟩ : ∃ n, lo.length = n := ⟨_, rfl⟩
  obtain ⟨n2, hn2⟩ : ∃ n, up.length = n := ⟨_, rfl⟩
  simp only [hn1, hn2] at hr ⊢
  obtain ⟨r, hrd⟩ : ∃ r, rightD ⟨st, rn, lo, up, least, most⟩ = r := ⟨_, rfl⟩
  rw [hrd] at he
  simp only [hrd] at hr
  have HE : Hid (emptyD ⟨st, rn, lo, up, least, most⟩ = (!r || decide (most < least))) := he
  have hb0 : Below W.heap.size W (W.alloc (Obj.cells #[.bool st, .slice ra rn rc, .slice a1 n1 c1, .slice a2 n2 c2, .int .i64 least, .int .i64 most] 37)) := (Below.refl _ W).alloc (Nat.le_refl _) _
  have hR0 := World.alloc_heap_new W (Obj.cells #[.bool st, .slice ra rn rc, .slice a1 n1 c1, .slice a2 n2 c2, .int .i64 least, .int .i64 most] 37)
  have hr0 := hr _ hb0
  clear he hrd hn1 hn2 hr
  by_cases hrr : r = true
  · subst hrr
    by_cases hlm : most < least
    · go_enter Tryz.func112, Tryz.ntmps112
      go_wp2_with fail
      refine hr0.mono ?_
      rintro e w1 ⟨rfl, hb1⟩
      obtain ⟨c0, c1', c2', c3, c4, c5⟩ := six_cells ((hb1.block W.heap.size (by simp)).trans hR0)
      have hB1 : Below W.heap.size W w1 := hb0.trans (hb1.mono hb0.size)
      clear hr0 hR0 hb1 hb0
      go_wp2
      go_ret
      exact ⟨ret_bool (by rw [HE.out]; simp [hlm]), hB1⟩
    · go_enter Tryz.func112, Tryz.ntmps112
      go_wp2_with fail
      refine hr0.mono ?_
      rintro e w1 ⟨rfl, hb1⟩
      obtain ⟨c0, c1', c2', c3, c4, c5⟩ := six_cells ((hb1.block W.heap.size (by simp)).trans hR0)
      have hB1 : Below W.heap.size W w1 := hb0.trans (hb1.mono hb0.size)
      clear hr0 hR0 hb1 hb0
      go_wp2
      go_ret
      exact ⟨ret_bool (by rw [HE.out]; simp [hlm]), hB1⟩
  · have hrr' : r = false := by simpa using hrr
    subst hrr'
    go_enter Tryz.func112, Tryz.ntmps112
    go_wp2_with fail
    refine hr0.mono ?_
    rintro e w1 ⟨rfl, hb1⟩
    have hB1 : Below W.heap.size W w1 := hb0.trans (hb1.mono hb0.size)
    clear hr0 hR0 hb1 hb0
    go_wp2
    go_ret
    exact ⟨ret_bool (by rw [HE.out]; simp), hB1⟩

set_option maxRecDepth 100000 in
set_option maxHeartbeats 2000000 in
theorem taken_dom (v : Value) (d : SD) (W : World) (h : Di W v d) :
    Calls Tryz.prog 101 #[v] W fun e w' => ∃ v', e = .returned v' ∧ Dv W.heap.size w' v' (takenD d) ∧ Below W.heap.size W w' := by
  have hr := fun X (hX : Below W.heap.size W X) => right_any v d X (h.below hX)
  obtain ⟨ra, rc, slo, sup, rfl, h1, h2⟩ := h
  have ht := fun (hR : RightD d) X (hX : Below W.heap.size W X) => tight_any slo sup d.lo d.up d.least d.most X (h1.below hX) (h2.below hX) (by have := hR.2.2.1.1; omega) (by have := hR.2.2.2.1.1; omega)
  obtain ⟨a1, c1, rfl, _⟩ := h1
  obtain ⟨a2, c2, rfl, _⟩ := h2
  have he : takenD d = if RightD d then tightD d.lo d.up d.least d.most else noneD := rfl
  obtain ⟨TD, hTD⟩ : ∃ X, takenD d = X := ⟨_, rfl⟩
  have HTD : Hid (takenD d = TD) := hTD
  obtain ⟨st, rn, lo, up, least, most⟩ := d
  simp only at hr he ht ⊢
  obtain ⟨n1, hn1⟩ : ∃ n, lo.length = n := ⟨_, rfl⟩
  obtain ⟨n2, hn2⟩ : ∃ n, up.length = n := ⟨_, rfl⟩
  simp only [hn1, hn2] at hr ht ⊢
  obtain ⟨W0, hW0⟩ : ∃ X, (W.alloc (Obj.cells #[.bool st, .slice ra rn rc, .slice a1 n1 c1, .slice a2 n2 c2, .int .i64 least, .int .i64 most] 37)).alloc (Obj.cells #[.bool false, .slice none 0 0, .slice none 0 0, .slice none 0 0, .int .i64 0, .int .i64 0] 37) = X := ⟨_, rfl⟩
  have HW0 : Hid _ := hW0
  have hb0 : Below W.heap.size W W0 := by rw [← hW0]; exact ((Below.refl _ W).alloc (Nat.le_refl _) _).alloc (by simp) _
  have hR0 : W0.heap[W.heap.size]? = some (.cells #[.bool st, .slice ra rn rc, .slice a1 n1 c1, .slice a2 n2 c2, .int .i64 least, .int .i64 most] 37 (0, 0)) := by
    rw [← hW0]; exact (Below.heap_alloc _ _ _ (by simp)).trans (World.alloc_heap_new W _)
  have hZ0 : W0.heap[W.heap.size + 1]? = some (.cells #[.bool false, .slice none 0 0, .slice none 0 0, .slice none 0 0, .int .i64 0, .int .i64 0] 37 (0, 0)) := by
    rw [← hW0]; have := World.alloc_heap_new (W.alloc (Obj.cells #[.bool st, .slice ra rn rc, .slice a1 n1 c1, .slice a2 n2 c2, .int .i64 least, .int .i64 most] 37)) (Obj.cells #[.bool false, .slice none 0 0, .slice none 0 0, .slice none 0 0, .int .i64 0, .int .i64 0] 37); rwa [World.size_alloc] at this
  have hlt0 : W.heap.size + 1 < W0.heap.size := (Array.getElem?_eq_some_iff.1 hZ0).1
  have hr0 := hr _ hb0
  obtain ⟨c0, c1', c2', c3, c4, c5⟩ := six_cells hR0
  clear hTD hn1 hn2 hr hW0
  by_cases hRD : RightD ⟨st, rn, lo, up, least, most⟩
  · have htt := ht hRD
    rw [if_pos hRD] at he
    have hrb : rightD ⟨st, rn, lo, up, least, most⟩ = true := decide_eq_true hRD
    rw [hrb] at hr0
    have HE : Hid (takenD ⟨st, rn, lo, up, least, most⟩ = tightD lo up least most) := he
    clear ht hRD hrb he
    go_enter Tryz.func101, Tryz.ntmps101
    go_upto_region 1 with (fail)
    rw [HW0.out]
    go_wp2_with fail
    refine hr0.mono ?_
    rintro e w1 ⟨rfl, hb1⟩
    have hB1 : Below W.heap.size W w1 := hb0.trans (hb1.mono hb0.size)
    have hZ1 := (hb1.block (W.heap.size + 1) hlt0).trans hZ0
    have hlt1 : W.heap.size + 1 < w1.heap.size := (Array.getElem?_eq_some_iff.1 hZ1).1
    have hR1 := (hb1.block W.heap.size (by omega)).trans hR0
    clear c0 c1' c2' c3 c4 c5
    obtain ⟨c0, c1', c2', c3, c4, c5⟩ := six_cells hR1
    have ht1 := htt w1 hB1
    clear hr0 hR0 hZ0 hb1 hb0 hR1
    go_wp2_with fail
    refine ht1.mono ?_
    rintro e w2 ⟨v2, rfl, hD2, hb2⟩
    have hB2 : Below W.heap.size W w2 := hB1.trans (hb2.mono hB1.size)
    have hZ2 := (hb2.block (W.heap.size + 1) hlt1).trans hZ1
    obtain ⟨slo, sup, rfl, e0, o1, o2⟩ := hD2
    obtain ⟨p1, k1, rfl⟩ := own_slice o1
    obtain ⟨p2, k2, rfl⟩ := own_slice o2
    obtain ⟨T, hT⟩ : ∃ T, tightD lo up least most = T := ⟨_, rfl⟩
    rw [hT] at e0 o1 o2 ⊢
    obtain ⟨m1, hm1⟩ : ∃ n, T.lo.length = n := ⟨_, rfl⟩
    obtain ⟨m2, hm2⟩ : ∃ n, T.up.length = n := ⟨_, rfl⟩
    obtain ⟨x0, hx0⟩ : ∃ x, T.set = x := ⟨_, rfl⟩
    obtain ⟨x4, hx4⟩ : ∃ x, T.least = x := ⟨_, rfl⟩
    obtain ⟨x5, hx5⟩ : ∃ x, T.most = x := ⟨_, rfl⟩
    have HX : Hid (takenD ⟨st, rn, lo, up, least, most⟩ = T ∧ T.lo.length = m1 ∧ T.up.length = m2 ∧ T.set = x0 ∧ T.least = x4 ∧ T.most = x5 ∧ T.rn = 0) := ⟨HE.out.trans hT, hm1, hm2, hx0, hx4, hx5, e0⟩
    rw [hm1] at o1 ⊢
    rw [hm2] at o2 ⊢
    rw [hx0, hx4, hx5]
    have HZ2 : Hid _ := hZ2
    have O1 := own_setRow (own_base o1 hB1.size) (W.heap.size + 1) #[.bool x0, .slice none 0 0, .slice p1 m1 k1, .slice p2 m2 k2, .int .i64 x4, .int .i64 x5] HZ2.out
    have O2 := own_setRow (own_base o2 hB1.size) (W.heap.size + 1) #[.bool x0, .slice none 0 0, .slice p1 m1 k1, .slice p2 m2 k2, .int .i64 x4, .int .i64 x5] HZ2.out
    have hBS := below_setRow hB2 (show W.heap.size ≤ W.heap.size + 1 by omega) #[.bool x0, .slice none 0 0, .slice p1 m1 k1, .slice p2 m2 k2, .int .i64 x4, .int .i64 x5]
    have HROW : Hid _ := setRow_heap w2 (W.heap.size + 1) _ #[.bool x0, .slice none 0 0, .slice p1 m1 k1, .slice p2 m2 k2, .int .i64 x4, .int .i64 x5] 37 (0, 0) HZ2.out
    have HSZ : Hid ((Tryz.prog.info? 37).map (·.size) = some (#[.bool x0, .slice none 0 0, .slice p1 m1 k1, .slice p2 m2 k2, .int .i64 x4, .int .i64 x5] : Array Value).size) := Tryz.size37
    have HSO : Hid ((#[.bool false, .slice none 0 0, .slice none 0 0, .slice none 0 0, .int .i64 0, .int .i64 0] : Array Value).size = (#[.bool x0, .slice none 0 0, .slice p1 m1 k1, .slice p2 m2 k2, .int .i64 x4, .int .i64 x5] : Array Value).size) := rfl
    have HSA : Hid ((#[.bool x0, .slice none 0 0, .slice p1 m1 k1, .slice p2 m2 k2, .int .i64 x4, .int .i64 x5] : Array Value).all (·.oneCell') = true) := by unfold Hid; simp [Value.oneCell']
    clear hZ1 hZ2 hb2 hB1 hB2 ht1 htt o1 o2 hT hm1 hm2 hx0 hx4 hx5 e0 c0 c1' c2' c3 c4 c5
    go_wp2_with (with_reducible refine wpList_store_row rfl 37 (.tmp 2) (.tmp 15) rfl (W.heap.size + 1) #[.bool x0, .slice none 0 0, .slice p1 m1 k1, .slice p2 m2 k2, .int .i64 x4, .int .i64 x5] (by with_unfolding_all rfl) (by with_unfolding_all rfl) 37 _ HZ2.out HSZ.out HSO.out HSA.out ?_)
    refine ⟨rfl, _, results_cell_row (P := Tryz.prog) rfl _ _ (W.heap.size + 1) 37 _ (0, 0) _ rfl HROW.out Tryz.underlying37 rfl HSZ.out, ⟨_, rfl, ?_, hBS⟩⟩
    obtain ⟨q0, q1, q2, q3, q4, q5, q6⟩ := HX.out
    rw [q0]
    exact ⟨_, _, by rw [q3, q4, q5], q6, by rw [q1]; exact O1, by rw [q2]; exact O2⟩
  · rw [if_neg hRD] at he
    have hrb : rightD ⟨st, rn, lo, up, least, most⟩ = false := decide_eq_false hRD
    rw [hrb] at hr0
    have HE : Hid (takenD ⟨st, rn, lo, up, least, most⟩ = noneD) := he
    clear ht hRD hrb he
    go_enter Tryz.func101, Tryz.ntmps101
    go_upto_region 1 with (fail)
    rw [HW0.out]
    go_wp2_with fail
    refine hr0.mono ?_
    rintro e w1 ⟨rfl, hb1⟩
    have hB1 : Below W.heap.size W w1 := hb0.trans (hb1.mono hb0.size)
    have hZ1 := (hb1.block (W.heap.size + 1) hlt0).trans hZ0
    have hlt1 : W.heap.size + 1 < w1.heap.size := (Array.getElem?_eq_some_iff.1 hZ1).1
    clear hr0 hR0 hZ0 hb1 hb0 c0 c1' c2' c3 c4 c5
    go_wp2_with fail
    refine (none_at _).mono ?_
    rintro e w2 ⟨rfl, hb2⟩
    have hB2 : Below W.heap.size W w2 := hB1.trans (hb2.mono hB1.size)
    have HZ2 : Hid _ := (hb2.block (W.heap.size + 1) hlt1).trans hZ1
    have hBS := below_setRow hB2 (show W.heap.size ≤ W.heap.size + 1 by omega) #[.bool true, .slice none 0 0, .slice none 0 0, .slice none 0 0, .int .i64 1, .int .i64 0]
    have HROW : Hid _ := setRow_heap w2 (W.heap.size + 1) _ #[.bool true, .slice none 0 0, .slice none 0 0, .slice none 0 0, .int .i64 1, .int .i64 0] 37 (0, 0) HZ2.out
    have HSZ : Hid ((Tryz.prog.info? 37).map (·.size) = some (#[.bool true, .slice none 0 0, .slice none 0 0, .slice none 0 0, .int .i64 1, .int .i64 0] : Array Value).size) := Tryz.size37
    have HSO : Hid ((#[.bool false, .slice none 0 0, .slice none 0 0, .slice none 0 0, .int .i64 0, .int .i64 0] : Array Value).size = (#[.bool true, .slice none 0 0, .slice none 0 0, .slice none 0 0, .int .i64 1, .int .i64 0] : Array Value).size) := rfl
    have HSA : Hid ((#[.bool true, .slice none 0 0, .slice none 0 0, .slice none 0 0, .int .i64 1, .int .i64 0] : Array Value).all (·.oneCell') = true) := by unfold Hid; simp [Value.oneCell']
    clear hZ1 hb2 hB1 hB2
    go_wp2_with (with_reducible refine wpList_store_row rfl 37 (.tmp 2) (.tmp 6) rfl (W.heap.size + 1) #[.bool true, .slice none 0 0, .slice none 0 0, .slice none 0 0, .int .i64 1, .int .i64 0] (by with_unfolding_all rfl) (by with_unfolding_all rfl) 37 _ HZ2.out HSZ.out HSO.out HSA.out ?_)
    refine ⟨rfl, _, results_cell_row (P := Tryz.prog) rfl _ _ (W.heap.size + 1) 37 _ (0, 0) _ rfl HROW.out Tryz.underlying37 rfl HSZ.out, ⟨_, rfl, ?_, hBS⟩⟩
    rw [HE.out]
    exact none_dv _ _
end Go.Proofs.YtghnfnieppfhgaaGreat.St

