/-
  What is proved here: the walk of SetsCards.
-/
import Derived.Test.YtmfjahmkoaijeaaDoorNd
import Derived.Test.YtmfjahmkoaijeaaDoorKn
namespace Go.Proofs.YtmfjahmkoaijeaaDoor
open Go.RowKit Go.Shelf
set_option linter.unusedVariables false
set_option linter.unusedSimpArgs false

theorem card_look (v : Value) (d : SD) (x y : Int) (W : World) (h : Di W v d) :
    Calls Tryd.prog 6 #[v, .int .i64 x, .int .i64 y] W fun e w' => ∃ x0 p1 m1 k1 p2 m2 k2 x4 x5, e = .returned (.agg #[.bool x0, .slice none 0 0, .slice p1 m1 k1, .slice p2 m2 k2, .int .i64 x4, .int .i64 x5]) ∧ Hid (Di w' (.agg #[.bool x0, .slice none 0 0, .slice p1 m1 k1, .slice p2 m2 k2, .int .i64 x4, .int .i64 x5]) (cardD d x y)) ∧ Below W.heap.size W w' :=
  (card_any v d x y W h).mono fun e w' ⟨v, he, hD, hb⟩ => by
    obtain ⟨x0, p1, m1, k1, p2, m2, k2, x4, x5, rfl, _⟩ := hD.look
    exact ⟨_, _, _, _, _, _, _, _, _, he, hD.di, hb⟩

set_option maxRecDepth 100000 in
set_option maxHeartbeats 4000000 in
theorem cards_much (v : Value) (d : SD) (W : World) (h : Di W v d) (hM : MaxL W) (hE : ErrV W) (hT : Tens W.heap.size W) (hn : 1125899906842624 < countD d) :
    Calls Tryd.prog 3 #[v] W fun e w' => e = .returned (.bool true) ∧ Below W.heap.size W w' := by
  have hM0 := hM.1
  have HM : Hid (MaxL W) := hM
  have HE' : Hid (ErrV W) := hE
  have HT : Hid (Tens W.heap.size W) := hT
  have k32 := fun X (hX : Below W.heap.size W X) => known32 X (HM.out.below hX hM0) (HE'.out.below hX (by omega)) (Tens.here HT.out hX)
  have k46 := fun X (hX : Below W.heap.size W X) => count_any v d X (h.below hX)
  have k52 := fun (k : Int) X (hX : Below W.heap.size W X) => card_look v d k k X (h.below hX)
  have k46c := fun (k : Int) u X (hu : Di X u (cardD d k k)) => count_any u (cardD d k k) X hu
  obtain ⟨x0, ra, rn, rc, a1, n1, c1, a2, n2, c2, x4, x5, rfl, HE, HLO, HUP⟩ := h.look
  obtain ⟨W0, hW0⟩ : ∃ X, W.alloc (Obj.cells #[.bool x0, .slice ra rn rc, .slice a1 n1 c1, .slice a2 n2 c2, .int .i64 x4, .int .i64 x5] 25) = X := ⟨_, rfl⟩
  have HW0 : Hid _ := hW0
  have hb0 : Below W.heap.size W W0 := by rw [← hW0]; exact (Below.refl _ W).alloc (Nat.le_refl _) _
  have HR0 : Hid (R6 W0 W.heap.size (.bool x0) (.slice ra rn rc) (.slice a1 n1 c1) (.slice a2 n2 c2) (.int .i64 x4) (.int .i64 x5)) := by rw [← hW0]; exact R6.new _ _ _ _ _ _ _
  clear hW0 h HE HLO HUP hM hE hT
  generalize countD d = cn at k46 hn
  go_enter Tryd.func3, Tryd.ntmps3
  go_upto_region 1 with (fail)
  rw [HW0.out]
  obtain ⟨z0, z1, z2, z3, z4, z5⟩ := HR0.out.cells
  go_wp2_with fail
  refine (k46 W0 hb0).mono ?_
  rintro e w1 ⟨rfl, hb⟩
  have hb1 : Below W.heap.size W w1 := hb0.trans (hb.mono hb0.size)
  have HR1 : Hid _ := HR0.out.below hb
  clear hb hb0 HR0 z0 z1 z2 z3 z4 z5
  obtain ⟨z0, z1, z2, z3, z4, z5⟩ := HR1.out.cells
  go_wp2_with fail
  refine (k32 w1 hb1).mono ?_
  rintro e w2 ⟨rfl, hb⟩
  have hb2 : Below W.heap.size W w2 := hb1.trans (hb.mono hb1.size)
  go_wp2
  go_ret
  exact ⟨rfl, hb2⟩

set_option maxRecDepth 100000 in
set_option maxHeartbeats 4000000 in
theorem cards_long (v : Value) (d : SD) (W : World) (h : Di W v d) (hM : MaxL W) (hE : ErrV W) (hT : Tens W.heap.size W) (hn : ¬ 1125899906842624 < countD d) (hu : 64 < d.up.length) :
    Calls Tryd.prog 3 #[v] W fun e w' => e = .returned (.bool true) ∧ Below W.heap.size W w' := by
  have hM0 := hM.1
  have HM : Hid (MaxL W) := hM
  have HE' : Hid (ErrV W) := hE
  have HT : Hid (Tens W.heap.size W) := hT
  have k32 := fun X (hX : Below W.heap.size W X) => known32 X (HM.out.below hX hM0) (HE'.out.below hX (by omega)) (Tens.here HT.out hX)
  have k46 := fun X (hX : Below W.heap.size W X) => count_any v d X (h.below hX)
  have k52 := fun (k : Int) X (hX : Below W.heap.size W X) => card_look v d k k X (h.below hX)
  have k46c := fun (k : Int) u X (hu : Di X u (cardD d k k)) => count_any u (cardD d k k) X hu
  obtain ⟨x0, ra, rn, rc, a1, n1, c1, a2, n2, c2, x4, x5, rfl, HE, HLO, HUP⟩ := h.look
  obtain ⟨W0, hW0⟩ : ∃ X, W.alloc (Obj.cells #[.bool x0, .slice ra rn rc, .slice a1 n1 c1, .slice a2 n2 c2, .int .i64 x4, .int .i64 x5] 25) = X := ⟨_, rfl⟩
  have HW0 : Hid _ := hW0
  have hb0 : Below W.heap.size W W0 := by rw [← hW0]; exact (Below.refl _ W).alloc (Nat.le_refl _) _
  have HR0 : Hid (R6 W0 W.heap.size (.bool x0) (.slice ra rn rc) (.slice a1 n1 c1) (.slice a2 n2 c2) (.int .i64 x4) (.int .i64 x5)) := by rw [← hW0]; exact R6.new _ _ _ _ _ _ _
  have hu2 : (64 : Int) < (n2 : Int) := by have := HE.out.2.2.1; omega
  clear hu
  clear hW0 h HE HLO HUP hM hE hT
  generalize countD d = cn at k46 hn
  go_enter Tryd.func3, Tryd.ntmps3
  go_upto_region 1 with (fail)
  rw [HW0.out]
  obtain ⟨z0, z1, z2, z3, z4, z5⟩ := HR0.out.cells
  go_wp2_with fail
  refine (k46 W0 hb0).mono ?_
  rintro e w1 ⟨rfl, hb⟩
  have hb1 : Below W.heap.size W w1 := hb0.trans (hb.mono hb0.size)
  have HR1 : Hid _ := HR0.out.below hb
  clear hb hb0 HR0 z0 z1 z2 z3 z4 z5
  obtain ⟨z0, z1, z2, z3, z4, z5⟩ := HR1.out.cells
  go_wp2_with fail
  refine (k32 w1 hb1).mono ?_
  rintro e w2 ⟨rfl, hb⟩
  have hb2 : Below W.heap.size W w2 := hb1.trans (hb.mono hb1.size)
  go_wp2
  go_ret
  exact ⟨rfl, hb2⟩

set_option maxRecDepth 100000 in
set_option maxHeartbeats 4000000 in
theorem cards_few (v : Value) (d : SD) (W : World) (h : Di W v d) (hM : MaxL W) (hE : ErrV W) (hT : Tens W.heap.size W) (hn : ¬ 1125899906842624 < countD d) (hu : ¬ 64 < d.up.length) :
    Calls Tryd.prog 3 #[v] W fun e w' => e = .returned (.bool true) ∧ Below W.heap.size W w' := by
  have hM0 := hM.1
  have HM : Hid (MaxL W) := hM
  have HE' : Hid (ErrV W) := hE
  have HT : Hid (Tens W.heap.size W) := hT
  have k32 := fun X (hX : Below W.heap.size W X) => known32 X (HM.out.below hX hM0) (HE'.out.below hX (by omega)) (Tens.here HT.out hX)
  have k46 := fun X (hX : Below W.heap.size W X) => count_any v d X (h.below hX)
  have k52 := fun (k : Int) X (hX : Below W.heap.size W X) => card_look v d k k X (h.below hX)
  have k46c := fun (k : Int) u X (hu : Di X u (cardD d k k)) => count_any u (cardD d k k) X hu
  obtain ⟨x0, ra, rn, rc, a1, n1, c1, a2, n2, c2, x4, x5, rfl, HE, HLO, HUP⟩ := h.look
  obtain ⟨W0, hW0⟩ : ∃ X, W.alloc (Obj.cells #[.bool x0, .slice ra rn rc, .slice a1 n1 c1, .slice a2 n2 c2, .int .i64 x4, .int .i64 x5] 25) = X := ⟨_, rfl⟩
  have HW0 : Hid _ := hW0
  have hb0 : Below W.heap.size W W0 := by rw [← hW0]; exact (Below.refl _ W).alloc (Nat.le_refl _) _
  have HR0 : Hid (R6 W0 W.heap.size (.bool x0) (.slice ra rn rc) (.slice a1 n1 c1) (.slice a2 n2 c2) (.int .i64 x4) (.int .i64 x5)) := by rw [← hW0]; exact R6.new _ _ _ _ _ _ _
  have hu2 : ¬ (64 : Int) < (n2 : Int) := by have := HE.out.2.2.1; omega
  clear hu
  clear hW0 h HE HLO HUP hM hE hT
  obtain ⟨hs1, hs2⟩ := cards_count d (by omega)
  obtain ⟨f, hf⟩ : ∃ f : Nat → Int, (fun k : Nat => countD (cardD d k k)) = f := ⟨_, rfl⟩
  have HF : Hid (∀ k : Nat, countD (cardD d k k) = f k) := fun k => by rw [← hf]
  rw [hf] at hs1 hs2
  have HS1 : Hid (sm f 65 = countD d) := hs1
  have HS2 : Hid (∀ j, j ≤ 65 → 0 ≤ sm f j ∧ sm f j ≤ 1125899906842624) := hs2
  clear hf hs1 hs2
  obtain ⟨cn, hcn⟩ : ∃ c, countD d = c := ⟨_, rfl⟩
  simp only [hcn] at k46 hn
  rw [hcn] at HS1
  clear hcn
  go_enter Tryd.func3, Tryd.ntmps3
  go_upto_region 1 with (fail)
  rw [HW0.out]
  obtain ⟨z0, z1, z2, z3, z4, z5⟩ := HR0.out.cells
  go_wp2_with fail
  refine (k46 W0 hb0).mono ?_
  rintro e w1 ⟨rfl, hb⟩
  have hb1 : Below W.heap.size W w1 := hb0.trans (hb.mono hb0.size)
  have HR1 : Hid _ := HR0.out.below hb
  clear hb hb0 HR0 z0 z1 z2 z3 z4 z5
  obtain ⟨z0, z1, z2, z3, z4, z5⟩ := HR1.out.cells
  go_wp2
  go_loopw [4, 5] (fun s k wr => ∃ j : Nat, j ≤ 65 ∧ s = .int .i64 (sm f j) ∧ k = .int .i64 j ∧ Hid (R6 wr W.heap.size (.bool x0) (.slice ra rn rc) (.slice a1 n1 c1) (.slice a2 n2 c2) (.int .i64 x4) (.int .i64 x5)) ∧ Below W.heap.size W wr) (fun _ k _ => 65 - (intOf k).toNat)
  case atStart => exact ⟨0, by omega, rfl, rfl, HR1.out, hb1⟩
  case round =>
    obtain ⟨j, hj, rfl, rfl, HR, hB⟩ := hrel
    clear z0 z1 z2 z3 z4 z5
    obtain ⟨z0, z1, z2, z3, z4, z5⟩ := HR.out.cells
    by_cases hlt : j ≤ 64
    · have hlt' : (j : Int) ≤ 64 := by omega
      obtain ⟨q1, q2⟩ := HS2.out j (by omega)
      obtain ⟨q3, q4⟩ := HS2.out (j + 1) (by omega)
      have hnx : sm f (j + 1) = sm f j + f j := rfl
      rw [hnx] at q3 q4
      have HNX : Hid (sm f (j + 1) = sm f j + f j) := hnx
      obtain ⟨x, hx⟩ : ∃ x, f j = x := ⟨_, rfl⟩
      obtain ⟨y, hy⟩ : ∃ y, sm f j = y := ⟨_, rfl⟩
      rw [hx] at q3 q4 HNX
      rw [hy] at q1 q2 q3 q4 HNX ⊢
      have kc := fun u X hu => k46c (j : Int) u X hu
      simp only [HF.out j, hx] at kc
      have hw : IntKind.i64.wrap (y + x) = y + x := by rw [IntKind.wrap_i64]; omega
      clear hnx hx hy
      go_wp2_with fail
      refine (k52 (j : Int) wr hB).mono ?_
      rintro e w2 ⟨y0, p1, m1, k1, p2, m2, k2, y4, y5, rfl, HD, hb⟩
      have hb2 : Below W.heap.size W w2 := hB.trans (hb.mono hB.size)
      have HR2 : Hid _ := HR.out.below hb
      clear hb hB HR z0 z1 z2 z3 z4 z5
      go_wp2_with fail
      refine (kc _ w2 HD.out).mono ?_
      rintro e w3 ⟨rfl, hb⟩
      have hb3 : Below W.heap.size W w3 := hb2.trans (hb.mono hb2.size)
      have HR3 : Hid _ := HR2.out.below hb
      clear hb hb2 HR2 kc
      go_wp2
      go_roundw
      case rel => exact ⟨j + 1, by omega, by rw [HNX.out], by go_num, HR3.out, hb3⟩
      case measure => simp [intOf]; omega
    · have hlt' : ¬ (j : Int) ≤ 64 := by omega
      obtain rfl : j = 65 := by omega
      rw [HS1.out]
      go_wp2_with fail
      refine (k32 _ hB).mono ?_
      rintro e w2 ⟨rfl, hb⟩
      have hb2 : Below W.heap.size W w2 := hB.trans (hb.mono hB.size)
      go_wp2
      go_ret
      exact ⟨rfl, hb2⟩

theorem cards_walk (v : Value) (d : SD) (W : World) (h : Di W v d) (hM : MaxL W) (hE : ErrV W) (hT : Tens W.heap.size W) :
    Calls Tryd.prog 3 #[v] W fun e w' => e = .returned (.bool true) ∧ Below W.heap.size W w' := by
  by_cases hn : 1125899906842624 < countD d
  · exact cards_much v d W h hM hE hT hn
  · by_cases hu : 64 < d.up.length
    · exact cards_long v d W h hM hE hT hn hu
    · exact cards_few v d W h hM hE hT hn hu
end Go.Proofs.YtmfjahmkoaijeaaDoor
