/-
  What is proved here: what sets.Has tells of any domain and any list.
-/
import Derived.Test.YtacnhkaibcjjgaaGreatDoorNb
import Derived.Test.YtacnhkaibcjjgaaGreatDoorNa
namespace Go.Proofs.YtacnhkaibcjjgaaGreatDoor
open Go.RowKit Go.Shelf
set_option linter.unusedVariables false
set_option linter.unusedSimpArgs false

set_option maxRecDepth 100000 in
set_option maxHeartbeats 4000000 in
theorem has_any (v s : Value) (d : SD) (l : List Int) (W : World) (h : Di W v d) (hl : Si W s l) :
    Calls Tryz.prog 44 #[v, s] W fun e w' => e = .returned (.bool (hasD d l)) ∧ Below W.heap.size W w' := by
  have k40 := fun X (hX : Below W.heap.size W X) => right_any v d X (h.below hX)
  have k61 := fun X (hX : Below W.heap.size W X) => known_any s l X (hl.below hX)
  obtain ⟨x0, ra, rn, rc, a1, n1, c1, a2, n2, c2, x4, x5, rfl, HE, HLO, HUP⟩ := h.look
  have k27a := fun q X (hX : Below W.heap.size W X) (hq : Si X q (tkS l)) => sub_any (.slice a1 n1 c1) q d.lo (tkS l) X (HLO.out.below hX) hq
  have k27b := fun q X (hX : Below W.heap.size W X) (hq : Si X q (tkS l)) => sub_any q (.slice a2 n2 c2) (tkS l) d.up X hq (HUP.out.below hX)
  simp only [tkS_yes (tkS_set l)] at k27a k27b
  obtain ⟨sa, ns, cs', rfl, HSL, HNL⟩ := si_look hl
  have hH : hasD d l = (rightD d && subB (tkS d.lo) (tkS l) && subB (tkS l) (tkS d.up) && decide (d.least ≤ (tkS l).length) && decide (((tkS l).length : Int) ≤ d.most)) := rfl
  rw [HE.out.2.2.2.1, HE.out.2.2.2.2.1] at hH
  generalize hasD d l = hd at hH ⊢
  generalize rightD d = r at k40 hH
  generalize subB (tkS d.lo) (tkS l) = s1 at k27a hH
  generalize subB (tkS l) (tkS d.up) = s2 at k27b hH
  obtain ⟨W0, hW0⟩ : ∃ X, W.alloc (Obj.cells #[.bool x0, .slice ra rn rc, .slice a1 n1 c1, .slice a2 n2 c2, .int .i64 x4, .int .i64 x5] 37) = X := ⟨_, rfl⟩
  have HW0 : Hid _ := hW0
  have hb0 : Below W.heap.size W W0 := by rw [← hW0]; exact (Below.refl _ W).alloc (Nat.le_refl _) _
  have HR0 : Hid (R6 W0 W.heap.size (.bool x0) (.slice ra rn rc) (.slice a1 n1 c1) (.slice a2 n2 c2) (.int .i64 x4) (.int .i64 x5)) := by rw [← hW0]; exact R6.new _ _ _ _ _ _ _
  clear hW0 h hl
  go_enter Tryz.func44, Tryz.ntmps44
  go_upto_region 1 with (fail)
  rw [HW0.out]
  go_wp2_with fail
  refine (k61 W0 hb0).mono ?_
  rintro e w1 ⟨a4, n4, c4, rfl, HS4, HN4, m1, hw1⟩
  have hb : Below W0.heap.size W0 w1 := by rw [hw1]; exact below_drewN (Below.refl _ _) _
  have hb1 : Below W.heap.size W w1 := hb0.trans (hb.mono hb0.size)
  have HR1 : Hid (R6 w1 W.heap.size (.bool x0) (.slice ra rn rc) (.slice a1 n1 c1) (.slice a2 n2 c2) (.int .i64 x4) (.int .i64 x5)) := HR0.out.below hb
  have HS : Hid (Si w1 (.slice a4 n4 c4) (tkS l)) := HS4.out.below hb
  rw [← HN4.out] at hH
  have HH : Hid _ := hH
  clear HR0 hb0 hb hw1 HS4 hH k61
  obtain ⟨z0, z1, z2, z3, z4, z5⟩ := HR1.out.cells
  cases r
  · go_wp2_with fail
    refine (k40 w1 hb1).mono ?_
    rintro e w2 ⟨rfl, hb⟩
    have hb2 : Below W.heap.size W w2 := hb1.trans (hb.mono hb1.size)
    have HR2 : Hid (R6 w2 W.heap.size (.bool x0) (.slice ra rn rc) (.slice a1 n1 c1) (.slice a2 n2 c2) (.int .i64 x4) (.int .i64 x5)) := HR1.out.below hb
    have HSb : Hid (Si w2 (.slice a4 n4 c4) (tkS l)) := HS.out.below hb
    clear HR1 hb1 HS
    clear z0 z1 z2 z3 z4 z5
    obtain ⟨z0, z1, z2, z3, z4, z5⟩ := HR2.out.cells
    go_wp2
    go_ret
    exact ⟨ret_bool (by rw [HH.out]; first | (simp; done) | (simp; omega)), hb2⟩
  · go_wp2_with fail
    refine (k40 w1 hb1).mono ?_
    rintro e w2 ⟨rfl, hb⟩
    have hb2 : Below W.heap.size W w2 := hb1.trans (hb.mono hb1.size)
    have HR2 : Hid (R6 w2 W.heap.size (.bool x0) (.slice ra rn rc) (.slice a1 n1 c1) (.slice a2 n2 c2) (.int .i64 x4) (.int .i64 x5)) := HR1.out.below hb
    have HSb : Hid (Si w2 (.slice a4 n4 c4) (tkS l)) := HS.out.below hb
    clear HR1 hb1 HS
    clear z0 z1 z2 z3 z4 z5
    obtain ⟨z0, z1, z2, z3, z4, z5⟩ := HR2.out.cells
    cases s1
    · go_wp2_with fail
      refine (k27a _ w2 hb2 HSb.out).mono ?_
      rintro e w3 ⟨rfl, hb⟩
      have hb3 : Below W.heap.size W w3 := hb2.trans (hb.mono hb2.size)
      have HR3 : Hid (R6 w3 W.heap.size (.bool x0) (.slice ra rn rc) (.slice a1 n1 c1) (.slice a2 n2 c2) (.int .i64 x4) (.int .i64 x5)) := HR2.out.below hb
      have HSc : Hid (Si w3 (.slice a4 n4 c4) (tkS l)) := HSb.out.below hb
      clear HR2 hb2 HSb
      clear z0 z1 z2 z3 z4 z5
      obtain ⟨z0, z1, z2, z3, z4, z5⟩ := HR3.out.cells
      go_wp2
      go_ret
      exact ⟨ret_bool (by rw [HH.out]; first | (simp; done) | (simp; omega)), hb3⟩
    · go_wp2_with fail
      refine (k27a _ w2 hb2 HSb.out).mono ?_
      rintro e w3 ⟨rfl, hb⟩
      have hb3 : Below W.heap.size W w3 := hb2.trans (hb.mono hb2.size)
      have HR3 : Hid (R6 w3 W.heap.size (.bool x0) (.slice ra rn rc) (.slice a1 n1 c1) (.slice a2 n2 c2) (.int .i64 x4) (.int .i64 x5)) := HR2.out.below hb
      have HSc : Hid (Si w3 (.slice a4 n4 c4) (tkS l)) := HSb.out.below hb
      clear HR2 hb2 HSb
      clear z0 z1 z2 z3 z4 z5
      obtain ⟨z0, z1, z2, z3, z4, z5⟩ := HR3.out.cells
      cases s2
      · go_wp2_with fail
        refine (k27b _ w3 hb3 HSc.out).mono ?_
        rintro e w4 ⟨rfl, hb⟩
        have hb4 : Below W.heap.size W w4 := hb3.trans (hb.mono hb3.size)
        have HR4 : Hid (R6 w4 W.heap.size (.bool x0) (.slice ra rn rc) (.slice a1 n1 c1) (.slice a2 n2 c2) (.int .i64 x4) (.int .i64 x5)) := HR3.out.below hb
        clear HR3 hb3 HSc
        clear z0 z1 z2 z3 z4 z5
        obtain ⟨z0, z1, z2, z3, z4, z5⟩ := HR4.out.cells
        go_wp2
        go_ret
        exact ⟨ret_bool (by rw [HH.out]; first | (simp; done) | (simp; omega)), hb4⟩
      · go_wp2_with fail
        refine (k27b _ w3 hb3 HSc.out).mono ?_
        rintro e w4 ⟨rfl, hb⟩
        have hb4 : Below W.heap.size W w4 := hb3.trans (hb.mono hb3.size)
        have HR4 : Hid (R6 w4 W.heap.size (.bool x0) (.slice ra rn rc) (.slice a1 n1 c1) (.slice a2 n2 c2) (.int .i64 x4) (.int .i64 x5)) := HR3.out.below hb
        clear HR3 hb3 HSc
        clear z0 z1 z2 z3 z4 z5
        obtain ⟨z0, z1, z2, z3, z4, z5⟩ := HR4.out.cells
        by_cases q1 : x4 ≤ (n4 : Int)
        · by_cases q2 : (n4 : Int) ≤ x5
          · go_wp2
            go_ret
            exact ⟨ret_bool (by rw [HH.out]; first | (simp [q1, q2]; done) | (simp; omega)), hb4⟩
          · go_wp2
            go_ret
            exact ⟨ret_bool (by rw [HH.out]; first | (simp [q1, q2]; done) | (simp; omega)), hb4⟩
        · go_wp2
          go_ret
          exact ⟨ret_bool (by rw [HH.out]; first | (simp [q1]; done) | (simp; omega)), hb4⟩
end Go.Proofs.YtacnhkaibcjjgaaGreatDoor
