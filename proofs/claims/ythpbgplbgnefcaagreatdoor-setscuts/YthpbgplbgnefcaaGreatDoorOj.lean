/-
  What is proved here: the reference's One of two domains in memory of their own.
-/
import Derived.Test.YthpbgplbgnefcaaGreatDoorOi
namespace Go.Proofs.YthpbgplbgnefcaaGreatDoor
open Go.RowKit Go.Shelf
set_option linter.unusedVariables false
set_option linter.unusedSimpArgs false

set_option maxRecDepth 100000 in
set_option maxHeartbeats 4000000 in
theorem one_nil (v u : Value) (d o : SD) (W : World) (h : Dv 0 W v d) (ho : Dv 0 W u o) (hs : d.set = o.set) (hl1 : d.lo.length ≤ 1000) (hl2 : d.up.length ≤ 1000) :
    Calls Tryz.prog 35 #[v, u] W fun e w' => e = .returned (.bool (eqD d o)) ∧ Below W.heap.size W w' := by
  obtain ⟨y0a, p1a, m1a, k1a, p2a, m2a, k2a, y4a, y5a, rfl, HEa, HLOa, HUPa⟩ := h.look
  obtain ⟨y0b, p1b, m1b, k1b, p2b, m2b, k2b, y4b, y5b, rfl, HEb, HLOb, HUPb⟩ := ho.look
  have hs1 := dv_si h
  have hs2 := dv_si ho
  have k14a := fun X (hX : Below W.heap.size W X) => refsame_any _ _ d.lo o.lo X (hs1.1.below hX) (hs2.1.below hX) (by omega)
  have k14b := fun X (hX : Below W.heap.size W X) => refsame_any _ _ d.up o.up X (hs1.2.below hX) (hs2.2.below hX) (by omega)
  have hM : eqD d o = (decide (d.lo = o.lo) && decide (d.up = o.up) && decide (d.least = o.least) && decide (d.most = o.most)) := rfl
  rw [HEa.out.2.2.2.1, HEa.out.2.2.2.2.1, HEb.out.2.2.2.1, HEb.out.2.2.2.2.1] at hM
  generalize eqD d o = MD at hM ⊢
  obtain rfl : y0a = y0b := by rw [← HEa.out.1, ← HEb.out.1, hs]
  clear h ho HEa HLOa HUPa HEb HLOb HUPb hs1 hs2 hs hl1 hl2
  generalize decide (d.lo = o.lo) = c1 at *
  generalize decide (d.up = o.up) = c2 at *
  have HM : Hid _ := hM
  clear hM
  obtain ⟨w0, hW0⟩ : ∃ X, ((W.alloc (Obj.cells #[.bool y0a, .slice none 0 0, .slice p1a m1a k1a, .slice p2a m2a k2a, .int .i64 y4a, .int .i64 y5a] 37)).alloc (Obj.cells #[.bool y0a, .slice none 0 0, .slice p1b m1b k1b, .slice p2b m2b k2b, .int .i64 y4b, .int .i64 y5b] 37)) = X := ⟨_, rfl⟩
  have HW0 : Hid _ := hW0
  have hb0 : Below W.heap.size W w0 := by rw [← hW0]; exact (((Below.refl _ W).alloc (by simp <;> omega) _).alloc (by simp <;> omega) _)
  have HA_0 : Hid (R6 w0 W.heap.size (.bool y0a) (.slice none 0 0) (.slice p1a m1a k1a) (.slice p2a m2a k2a) (.int .i64 y4a) (.int .i64 y5a)) := by rw [← hW0]; exact ((R6.new _ _ _ _ _ _ _).alloc _)
  have HB_0 : Hid (R6 w0 (W.heap.size + 1) (.bool y0a) (.slice none 0 0) (.slice p1b m1b k1b) (.slice p2b m2b k2b) (.int .i64 y4b) (.int .i64 y5b)) := by rw [← hW0]; exact (R6.new1 _ _ _ _ _ _ _ _)
  clear hW0
  go_enter Tryz.func35, Tryz.ntmps35
  go_upto_region 1 with (fail)
  rw [HW0.out]
  clear HW0
  obtain ⟨zA0, zA1, zA2, zA3, zA4, zA5⟩ := HA_0.out.cells
  obtain ⟨zB0, zB1, zB2, zB3, zB4, zB5⟩ := HB_0.out.cells
  cases c1
  · go_wp2_with fail
    refine (k14a w0 hb0).mono ?_
    rintro e w1 ⟨rfl, hb⟩
    have hb1 : Below W.heap.size W w1 := hb0.trans (hb.mono hb0.size)
    have HA_1 : Hid _ := HA_0.out.below hb
    have HB_1 : Hid _ := HB_0.out.below hb
    clear zA0 zA1 zA2 zA3 zA4 zA5 zB0 zB1 zB2 zB3 zB4 zB5
    clear hb hb0 HA_0 HB_0
    obtain ⟨zA0, zA1, zA2, zA3, zA4, zA5⟩ := HA_1.out.cells
    obtain ⟨zB0, zB1, zB2, zB3, zB4, zB5⟩ := HB_1.out.cells
    go_wp2
    go_ret
    exact ⟨ret_bool (by rw [HM.out]; simp), hb1⟩
  · cases c2
    · go_wp2_with fail
      refine (k14a w0 hb0).mono ?_
      rintro e w1 ⟨rfl, hb⟩
      have hb1 : Below W.heap.size W w1 := hb0.trans (hb.mono hb0.size)
      have HA_1 : Hid _ := HA_0.out.below hb
      have HB_1 : Hid _ := HB_0.out.below hb
      clear zA0 zA1 zA2 zA3 zA4 zA5 zB0 zB1 zB2 zB3 zB4 zB5
      clear hb hb0 HA_0 HB_0
      obtain ⟨zA0, zA1, zA2, zA3, zA4, zA5⟩ := HA_1.out.cells
      obtain ⟨zB0, zB1, zB2, zB3, zB4, zB5⟩ := HB_1.out.cells
      go_wp2_with fail
      refine (k14b w1 hb1).mono ?_
      rintro e w2 ⟨rfl, hb⟩
      have hb2 : Below W.heap.size W w2 := hb1.trans (hb.mono hb1.size)
      have HA_2 : Hid _ := HA_1.out.below hb
      have HB_2 : Hid _ := HB_1.out.below hb
      clear zA0 zA1 zA2 zA3 zA4 zA5 zB0 zB1 zB2 zB3 zB4 zB5
      clear hb hb1 HA_1 HB_1
      obtain ⟨zA0, zA1, zA2, zA3, zA4, zA5⟩ := HA_2.out.cells
      obtain ⟨zB0, zB1, zB2, zB3, zB4, zB5⟩ := HB_2.out.cells
      go_wp2
      go_ret
      exact ⟨ret_bool (by rw [HM.out]; simp), hb2⟩
    · by_cases h4 : y4a = y4b
      · subst h4
        by_cases h5 : y5a = y5b
        · subst h5
          go_wp2_with fail
          refine (k14a w0 hb0).mono ?_
          rintro e w1 ⟨rfl, hb⟩
          have hb1 : Below W.heap.size W w1 := hb0.trans (hb.mono hb0.size)
          have HA_1 : Hid _ := HA_0.out.below hb
          have HB_1 : Hid _ := HB_0.out.below hb
          clear zA0 zA1 zA2 zA3 zA4 zA5 zB0 zB1 zB2 zB3 zB4 zB5
          clear hb hb0 HA_0 HB_0
          obtain ⟨zA0, zA1, zA2, zA3, zA4, zA5⟩ := HA_1.out.cells
          obtain ⟨zB0, zB1, zB2, zB3, zB4, zB5⟩ := HB_1.out.cells
          go_wp2_with fail
          refine (k14b w1 hb1).mono ?_
          rintro e w2 ⟨rfl, hb⟩
          have hb2 : Below W.heap.size W w2 := hb1.trans (hb.mono hb1.size)
          have HA_2 : Hid _ := HA_1.out.below hb
          have HB_2 : Hid _ := HB_1.out.below hb
          clear zA0 zA1 zA2 zA3 zA4 zA5 zB0 zB1 zB2 zB3 zB4 zB5
          clear hb hb1 HA_1 HB_1
          obtain ⟨zA0, zA1, zA2, zA3, zA4, zA5⟩ := HA_2.out.cells
          obtain ⟨zB0, zB1, zB2, zB3, zB4, zB5⟩ := HB_2.out.cells
          go_wp2
          go_loopw [5] (fun i wr => i = .int .i64 0 ∧ ∃ q, wr = w2.drewN q) (fun i _ => 0)
          case atStart => exact ⟨rfl, 0, rfl⟩
          case round =>
            obtain ⟨rfl, q, rfl⟩ := hrel
            go_wp2
            go_ret
            exact ⟨ret_bool (by rw [HM.out]; simp), below_drewN hb2 _⟩
        · go_wp2_with fail
          refine (k14a w0 hb0).mono ?_
          rintro e w1 ⟨rfl, hb⟩
          have hb1 : Below W.heap.size W w1 := hb0.trans (hb.mono hb0.size)
          have HA_1 : Hid _ := HA_0.out.below hb
          have HB_1 : Hid _ := HB_0.out.below hb
          clear zA0 zA1 zA2 zA3 zA4 zA5 zB0 zB1 zB2 zB3 zB4 zB5
          clear hb hb0 HA_0 HB_0
          obtain ⟨zA0, zA1, zA2, zA3, zA4, zA5⟩ := HA_1.out.cells
          obtain ⟨zB0, zB1, zB2, zB3, zB4, zB5⟩ := HB_1.out.cells
          go_wp2_with fail
          refine (k14b w1 hb1).mono ?_
          rintro e w2 ⟨rfl, hb⟩
          have hb2 : Below W.heap.size W w2 := hb1.trans (hb.mono hb1.size)
          have HA_2 : Hid _ := HA_1.out.below hb
          have HB_2 : Hid _ := HB_1.out.below hb
          clear zA0 zA1 zA2 zA3 zA4 zA5 zB0 zB1 zB2 zB3 zB4 zB5
          clear hb hb1 HA_1 HB_1
          obtain ⟨zA0, zA1, zA2, zA3, zA4, zA5⟩ := HA_2.out.cells
          obtain ⟨zB0, zB1, zB2, zB3, zB4, zB5⟩ := HB_2.out.cells
          go_wp2
          go_ret
          exact ⟨ret_bool (by rw [HM.out]; simp [h5]), hb2⟩
      · go_wp2_with fail
        refine (k14a w0 hb0).mono ?_
        rintro e w1 ⟨rfl, hb⟩
        have hb1 : Below W.heap.size W w1 := hb0.trans (hb.mono hb0.size)
        have HA_1 : Hid _ := HA_0.out.below hb
        have HB_1 : Hid _ := HB_0.out.below hb
        clear zA0 zA1 zA2 zA3 zA4 zA5 zB0 zB1 zB2 zB3 zB4 zB5
        clear hb hb0 HA_0 HB_0
        obtain ⟨zA0, zA1, zA2, zA3, zA4, zA5⟩ := HA_1.out.cells
        obtain ⟨zB0, zB1, zB2, zB3, zB4, zB5⟩ := HB_1.out.cells
        go_wp2_with fail
        refine (k14b w1 hb1).mono ?_
        rintro e w2 ⟨rfl, hb⟩
        have hb2 : Below W.heap.size W w2 := hb1.trans (hb.mono hb1.size)
        have HA_2 : Hid _ := HA_1.out.below hb
        have HB_2 : Hid _ := HB_1.out.below hb
        clear zA0 zA1 zA2 zA3 zA4 zA5 zB0 zB1 zB2 zB3 zB4 zB5
        clear hb hb1 HA_1 HB_1
        obtain ⟨zA0, zA1, zA2, zA3, zA4, zA5⟩ := HA_2.out.cells
        obtain ⟨zB0, zB1, zB2, zB3, zB4, zB5⟩ := HB_2.out.cells
        go_wp2
        go_ret
        exact ⟨ret_bool (by rw [HM.out]; simp [h4]), hb2⟩
end Go.Proofs.YthpbgplbgnefcaaGreatDoor
