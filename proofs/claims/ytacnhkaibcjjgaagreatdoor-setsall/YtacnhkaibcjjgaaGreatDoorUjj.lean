/-
  What is proved here: the reference's All with the limit 1, where there is one set, and its Fixed.
  What is proved here: the reference's All with the limit 100, of any domain.
-/
import Derived.Test.YtacnhkaibcjjgaaGreatDoorUh
import Derived.Test.YtacnhkaibcjjgaaGreatDoorUfj
import Derived.Test.YtacnhkaibcjjgaaGreatDoorVb
namespace Go.Proofs.YtacnhkaibcjjgaaGreatDoor
open Go.RowKit Go.Shelf
set_option linter.unusedVariables false
set_option linter.unusedSimpArgs false

theorem Uq.some {d : SD} {S : List Int} (h : Uq d S) : emptyD d = false := by
  unfold emptyD
  rw [show rightD d = true from decide_eq_true h.right, h.least, h.most]
  simp

set_option maxRecDepth 100000 in
set_option maxHeartbeats 4000000 in
theorem all1 (v : Value) (d : SD) (S : List Int) (W : World) (h : Di W v d) (hq : Uq d S) :
    Calls Tryz.prog 48 #[v, .int .i64 1] W fun e w' => ∃ s, e = .returned s ∧ Out1 w' s S ∧ Below W.heap.size W w' := by
  have k43 := fun X (hX : Below W.heap.size W X) => eqc hq.some (refempty_any v d X (h.below hX))
  have k81 := fun X (hX : Below W.heap.size W X) => walk1 (d.up.length - 0) v (.slice none 0 0) d S 0 X (Nat.le_refl _) (h.below hX) (by rw [hd_zero]; exact ⟨none, 0, rfl, fun h0 => absurd h0 (by decide)⟩) hq (Nat.zero_le _)
  rw [show ((0 : Nat) : Int) = 0 from rfl] at k81
  obtain ⟨x0a, raa, rna, rca, a1a, n1a, c1a, a2a, n2a, c2a, x4a, x5a, rfl, HEa, HLOa, HUPa⟩ := h.look
  obtain ⟨w0, hW0⟩ : ∃ X, (W.alloc (Obj.cells #[.bool x0a, .slice raa rna rca, .slice a1a n1a c1a, .slice a2a n2a c2a, .int .i64 x4a, .int .i64 x5a] 37)) = X := ⟨_, rfl⟩
  have HW0 : Hid _ := hW0
  have hb0 : Below W.heap.size W w0 := by rw [← hW0]; exact ((Below.refl _ W).alloc (by simp <;> omega) _)
  have HA_0 : Hid (R6 w0 W.heap.size (.bool x0a) (.slice raa rna rca) (.slice a1a n1a c1a) (.slice a2a n2a c2a) (.int .i64 x4a) (.int .i64 x5a)) := by rw [← hW0]; exact (R6.new _ _ _ _ _ _ _)
  clear hW0
  clear h hq HEa HLOa HUPa
  go_enter Tryz.func48, Tryz.ntmps48
  go_upto_region 1 with (fail)
  rw [HW0.out]
  clear HW0
  obtain ⟨zA0, zA1, zA2, zA3, zA4, zA5⟩ := HA_0.out.cells
  go_wp2_with fail
  refine (k43 w0 hb0).mono ?_
  rintro e w1 ⟨rfl, hb⟩
  have hb1 : Below W.heap.size W w1 := hb0.trans (hb.mono hb0.size)
  have HA_1 : Hid _ := HA_0.out.below hb
  clear zA0 zA1 zA2 zA3 zA4 zA5
  clear hb hb0 HA_0
  obtain ⟨zA0, zA1, zA2, zA3, zA4, zA5⟩ := HA_1.out.cells
  go_wp2_with fail
  refine (k81 w1 hb1).mono ?_
  rintro e w9 ⟨s9, rfl, hO, hb⟩
  have HO : Hid (Out1 w9 s9 S) := hO
  obtain ⟨g8, c8, a8, n8, k8, rfl, _⟩ := hO
  have hb9 : Below W.heap.size W w9 := hb1.trans (hb.mono hb1.size)
  go_wp2
  go_ret
  exact ⟨_, rfl, HO.out, hb9⟩

set_option maxRecDepth 100000 in
set_option maxHeartbeats 4000000 in
theorem reffixed_any (v : Value) (d : SD) (W : World) (h : Di W v d) :
    Calls Tryz.prog 39 #[v] W fun e w' => ∃ p n c, e = .returned (.tuple #[.slice p n c, .bool (fixB d)]) ∧ Hid (Si w' (.slice p n c) (fixL d)) ∧ Below W.heap.size W w' := by
  have k47 := fun X (hX : Below W.heap.size W X) => refcount_any v d X (h.below hX)
  have HL : Hid (fixL d = if fixB d then (takenD d).lo else []) := rfl
  rcases fixed_one d with ⟨e1, e2, hq⟩ | ⟨e1, e2⟩
  · have k48 := fun X (hX : Below W.heap.size W X) => all1 v d _ X (h.below hX) hq
    simp only [e1] at k47
    rw [e2] at HL ⊢
    simp only [if_true] at HL
    generalize fixL d = FL at HL ⊢
    generalize (takenD d).lo = S at *
    obtain ⟨x0a, raa, rna, rca, a1a, n1a, c1a, a2a, n2a, c2a, x4a, x5a, rfl, HEa, HLOa, HUPa⟩ := h.look
    obtain ⟨w0, hW0⟩ : ∃ X, (W.alloc (Obj.cells #[.bool x0a, .slice raa rna rca, .slice a1a n1a c1a, .slice a2a n2a c2a, .int .i64 x4a, .int .i64 x5a] 37)) = X := ⟨_, rfl⟩
    have HW0 : Hid _ := hW0
    have hb0 : Below W.heap.size W w0 := by rw [← hW0]; exact ((Below.refl _ W).alloc (by simp <;> omega) _)
    have HA_0 : Hid (R6 w0 W.heap.size (.bool x0a) (.slice raa rna rca) (.slice a1a n1a c1a) (.slice a2a n2a c2a) (.int .i64 x4a) (.int .i64 x5a)) := by rw [← hW0]; exact (R6.new _ _ _ _ _ _ _)
    clear hW0
    clear h hq HEa HLOa HUPa e1 e2
    go_enter Tryz.func39, Tryz.ntmps39
    go_upto_region 1 with (fail)
    rw [HW0.out]
    clear HW0
    obtain ⟨zA0, zA1, zA2, zA3, zA4, zA5⟩ := HA_0.out.cells
    go_wp2_with fail
    refine (k47 w0 hb0).mono ?_
    rintro e w1 ⟨rfl, hb⟩
    have hb1 : Below W.heap.size W w1 := hb0.trans (hb.mono hb0.size)
    have HA_1 : Hid _ := HA_0.out.below hb
    clear zA0 zA1 zA2 zA3 zA4 zA5
    clear hb hb0 HA_0
    obtain ⟨zA0, zA1, zA2, zA3, zA4, zA5⟩ := HA_1.out.cells
    go_wp2_with fail
    refine (k48 w1 hb1).mono ?_
    rintro e w9 ⟨s9, rfl, hO, hb⟩
    obtain ⟨g8, c8, a8, n8, k8, rfl, hg8, hc8, hs8⟩ := hO
    have HS8 : Hid (Si w9 (.slice a8 n8 k8) S) := hs8
    have hb9 : Below W.heap.size W w9 := hb1.trans (hb.mono hb1.size)
    go_wp2
    go_ret2
    exact ⟨a8, n8, k8, rfl, by rw [HL.out]; exact HS8.out, hb9⟩
  · rw [e2] at HL ⊢
    simp only [Bool.false_eq_true, if_false] at HL
    generalize fixL d = FL at HL ⊢
    have e3 : (countD d == 1) = false := by simpa using e1
    generalize countD d = C at *
    obtain ⟨x0a, raa, rna, rca, a1a, n1a, c1a, a2a, n2a, c2a, x4a, x5a, rfl, HEa, HLOa, HUPa⟩ := h.look
    obtain ⟨w0, hW0⟩ : ∃ X, (W.alloc (Obj.cells #[.bool x0a, .slice raa rna rca, .slice a1a n1a c1a, .slice a2a n2a c2a, .int .i64 x4a, .int .i64 x5a] 37)) = X := ⟨_, rfl⟩
    have HW0 : Hid _ := hW0
    have hb0 : Below W.heap.size W w0 := by rw [← hW0]; exact ((Below.refl _ W).alloc (by simp <;> omega) _)
    have HA_0 : Hid (R6 w0 W.heap.size (.bool x0a) (.slice raa rna rca) (.slice a1a n1a c1a) (.slice a2a n2a c2a) (.int .i64 x4a) (.int .i64 x5a)) := by rw [← hW0]; exact (R6.new _ _ _ _ _ _ _)
    clear hW0
    clear h HEa HLOa HUPa e2
    go_enter Tryz.func39, Tryz.ntmps39
    go_upto_region 1 with (fail)
    rw [HW0.out]
    clear HW0
    obtain ⟨zA0, zA1, zA2, zA3, zA4, zA5⟩ := HA_0.out.cells
    go_wp2_with fail
    refine (k47 w0 hb0).mono ?_
    rintro e w1 ⟨rfl, hb⟩
    have hb1 : Below W.heap.size W w1 := hb0.trans (hb.mono hb0.size)
    have HA_1 : Hid _ := HA_0.out.below hb
    clear zA0 zA1 zA2 zA3 zA4 zA5
    clear hb hb0 HA_0
    obtain ⟨zA0, zA1, zA2, zA3, zA4, zA5⟩ := HA_1.out.cells
    go_wp2
    go_ret2
    exact ⟨none, 0, 0, rfl, by rw [HL.out]; exact ⟨none, 0, rfl, fun h0 => absurd h0 (by decide)⟩, hb1⟩
end Go.Proofs.YtacnhkaibcjjgaaGreatDoor

namespace Go.Proofs.YtacnhkaibcjjgaaGreatDoor
open Go.RowKit Go.Shelf
set_option linter.unusedVariables false
set_option linter.unusedSimpArgs false

def wantD (d : SD) : List (List Int) := (if emptyD d = true then [] else allD d).take 100

set_option maxRecDepth 100000 in
set_option maxHeartbeats 4000000 in
theorem refall_any (v : Value) (d : SD) (W : World) (h : Di W v d) :
    Calls Tryz.prog 48 #[v, .int .i64 100] W fun e w' => ∃ s, e = .returned s ∧ Outs w' W.heap.size s (wantD d) ∧ Below W.heap.size W w' := by
  have k43 := fun X (hX : Below W.heap.size W X) => refempty_any v d X (h.below hX)
  cases hem : emptyD d
  · have k81 := fun X (hX : Below W.heap.size W X) => walkN W 100 (by omega) (d.up.length - 0) v (.slice none 0 0) (.slice none 0 0) d [] 0 [] X (Nat.le_refl _) h hX (World.ownsRow_nil _ _ _ _) (Outs.nil _ _) (nonempty_facts hem) (by simp) (Nat.zero_le _) (by simp)
    rw [show ((0 : Nat) : Int) = 0 from rfl, show ((100 : Nat) : Int) = 100 from rfl] at k81
    have hWD : wantD d = ([] ++ RO d.lo d.least d.most [] (d.up.drop 0)).take 100 := by unfold wantD allD; rw [hem]; simp
    rw [← hWD] at k81
    simp only [hem] at k43
    generalize wantD d = WD at k81 ⊢
    clear hWD
    obtain ⟨x0a, raa, rna, rca, a1a, n1a, c1a, a2a, n2a, c2a, x4a, x5a, rfl, HEa, HLOa, HUPa⟩ := h.look
    obtain ⟨w0, hW0⟩ : ∃ X, (W.alloc (Obj.cells #[.bool x0a, .slice raa rna rca, .slice a1a n1a c1a, .slice a2a n2a c2a, .int .i64 x4a, .int .i64 x5a] 37)) = X := ⟨_, rfl⟩
    have HW0 : Hid _ := hW0
    have hb0 : Below W.heap.size W w0 := by rw [← hW0]; exact ((Below.refl _ W).alloc (by simp <;> omega) _)
    have HA_0 : Hid (R6 w0 W.heap.size (.bool x0a) (.slice raa rna rca) (.slice a1a n1a c1a) (.slice a2a n2a c2a) (.int .i64 x4a) (.int .i64 x5a)) := by rw [← hW0]; exact (R6.new _ _ _ _ _ _ _)
    clear hW0
    clear h HEa HLOa HUPa hem
    go_enter Tryz.func48, Tryz.ntmps48
    go_upto_region 1 with (fail)
    rw [HW0.out]
    clear HW0
    obtain ⟨zA0, zA1, zA2, zA3, zA4, zA5⟩ := HA_0.out.cells
    go_wp2_with fail
    refine (k43 w0 hb0).mono ?_
    rintro e w1 ⟨rfl, hb⟩
    have hb1 : Below W.heap.size W w1 := hb0.trans (hb.mono hb0.size)
    have HA_1 : Hid _ := HA_0.out.below hb
    clear zA0 zA1 zA2 zA3 zA4 zA5
    clear hb hb0 HA_0
    obtain ⟨zA0, zA1, zA2, zA3, zA4, zA5⟩ := HA_1.out.cells
    go_wp2_with fail
    refine (k81 w1 hb1).mono ?_
    rintro e w9 ⟨s9, rfl, hO, hkw⟩
    have HO : Hid (Outs w9 W.heap.size s9 WD) := hO
    obtain ⟨p8, n8, c8, rfl, _⟩ := hO.look
    have hb9 : Below W.heap.size W w9 := hb1.trans hkw.b
    clear hO
    go_wp2
    go_ret
    exact ⟨_, rfl, HO.out, hb9⟩
  · have hWD : wantD d = [] := by unfold wantD; rw [hem]; rfl
    rw [hWD]
    simp only [hem] at k43
    obtain ⟨x0a, raa, rna, rca, a1a, n1a, c1a, a2a, n2a, c2a, x4a, x5a, rfl, HEa, HLOa, HUPa⟩ := h.look
    obtain ⟨w0, hW0⟩ : ∃ X, (W.alloc (Obj.cells #[.bool x0a, .slice raa rna rca, .slice a1a n1a c1a, .slice a2a n2a c2a, .int .i64 x4a, .int .i64 x5a] 37)) = X := ⟨_, rfl⟩
    have HW0 : Hid _ := hW0
    have hb0 : Below W.heap.size W w0 := by rw [← hW0]; exact ((Below.refl _ W).alloc (by simp <;> omega) _)
    have HA_0 : Hid (R6 w0 W.heap.size (.bool x0a) (.slice raa rna rca) (.slice a1a n1a c1a) (.slice a2a n2a c2a) (.int .i64 x4a) (.int .i64 x5a)) := by rw [← hW0]; exact (R6.new _ _ _ _ _ _ _)
    clear hW0
    clear h HEa HLOa HUPa hem hWD
    go_enter Tryz.func48, Tryz.ntmps48
    go_upto_region 1 with (fail)
    rw [HW0.out]
    clear HW0
    obtain ⟨zA0, zA1, zA2, zA3, zA4, zA5⟩ := HA_0.out.cells
    go_wp2_with fail
    refine (k43 w0 hb0).mono ?_
    rintro e w1 ⟨rfl, hb⟩
    have hb1 : Below W.heap.size W w1 := hb0.trans (hb.mono hb0.size)
    have HA_1 : Hid _ := HA_0.out.below hb
    clear zA0 zA1 zA2 zA3 zA4 zA5
    clear hb hb0 HA_0
    obtain ⟨zA0, zA1, zA2, zA3, zA4, zA5⟩ := HA_1.out.cells
    go_wp2
    go_ret
    exact ⟨_, rfl, Outs.nil _ _, hb1⟩
end Go.Proofs.YtacnhkaibcjjgaaGreatDoor
