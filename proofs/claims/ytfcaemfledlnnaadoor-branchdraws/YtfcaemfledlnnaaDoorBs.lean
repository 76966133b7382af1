/-
  What is proved here: whether a domain of whole numbers has several values; how many it has.
-/
import Derived.Test.YtfcaemfledlnnaaDoorKe
namespace Go.Proofs.YtfcaemfledlnnaaDoor
open Go.RowKit Go.Shelf
set_option linter.unusedVariables false
set_option linter.unusedSimpArgs false

/-- Of what is spoken here. -/
def Good (d : MD) : Prop := d.set = false ∧ Dm.FitsR d.r
def sevB (d : MD) : Bool := rightW d && !emptyW d && !(onlyW d).2
def sizM (d : MD) : Int := Dm.sizeR (Dm.tk d.r)
theorem Bx.val {w : World} {g : Nat} {x0 x1 x2 : Value} {t : TypeId} (h : Bx w g #[x0, x1, x2] t) : w.cell? ⟨g, 0, none⟩ = some x0 ∧ w.cell? ⟨g, 1, none⟩ = some x1 ∧ w.cell? ⟨g, 2, none⟩ = some x2 := ⟨h.cell 0, h.cell 1, h.cell 2⟩

set_option maxRecDepth 100000 in
set_option maxHeartbeats 4000000 in
theorem several_any {X : Nat → Prop} {W : World} {c : List Value} {d : MD} (h : Dc X W c d) (hg : Good d) :
    Calls Tryd.prog 33 #[.agg c.toArray] W fun e w' => e = .returned (.bool (sevB d)) ∧ Below W.heap.size W w' := by
  have h00 := h
  obtain ⟨b, ra, n0, rc, a1, n1, c1, a2, n2, c2, x, y, rfl, HE, H1, H2, H3⟩ := h.look
  obtain rfl : b = false := by rw [← HE.out.1, hg.1]
  obtain ⟨W0, hW0⟩ : ∃ Q, W.alloc (Obj.cells #[.bool false, .slice ra n0 rc, .slice a1 n1 c1, .slice a2 n2 c2, .int .i64 x, .int .i64 y] 40) = Q := ⟨_, rfl⟩
  have hb0 : Below W.heap.size W W0 := by rw [← hW0]; exact (Below.refl _ W).alloc (Nat.le_refl _) _
  have HB0 : Hid (Bx W0 W.heap.size #[.bool false, .slice ra n0 rc, .slice a1 n1 c1, .slice a2 n2 c2, .int .i64 x, .int .i64 y] 40) := by rw [← hW0]; exact Bx.new _ _ _
  have kr := right_w (h00.below hb0) hg.1 hg.2
  have ke := fun (w : World) (hb : Below W0.heap.size W0 w) => empty_w ((h00.below hb0).below hb) hg.1
  have ko := fun (w : World) (hb : Below W0.heap.size W0 w) => only_w ((h00.below hb0).below hb) hg.1 hg.2
  have HS : Hid (sevB d = (rightW d && !emptyW d && !(onlyW d).2)) := rfl
  rw [HS.out]
  have HKE : Hid _ := ke
  have HKO : Hid _ := ko
  have HW0 : Hid _ := hW0
  clear hW0 h h00 H1 H2 H3 HE HS ke ko hg
  obtain ⟨z0, z1, z2, z3, z4, z5⟩ := HB0.out.six
  cases hR : rightW d
  · rw [hR] at kr
    go_enter Tryd.func33, Tryd.ntmps33
    go_wp2_with fail
    rw [HW0.out]
    go_wp2_with fail
    refine kr.mono ?_
    rintro e w1 ⟨rfl, hb1⟩
    go_wp2
    go_ret
    exact ⟨ret_bool (by simp), hb0.trans (hb1.mono hb0.size)⟩
  · rw [hR] at kr
    cases hE : emptyW d
    · obtain ⟨ov, ob, hO⟩ : ∃ a b, onlyW d = (a, b) := ⟨_, _, rfl⟩
      cases ob <;>
      · go_enter Tryd.func33, Tryd.ntmps33
        go_wp2_with fail
        rw [HW0.out]
        go_wp2_with fail
        refine kr.mono ?_
        rintro e w1 ⟨rfl, hb1⟩
        have HB1 : Hid (Bx w1 W.heap.size _ _) := HB0.out.below hb1
        have ke1 := HKE.out w1 hb1
        rw [hE] at ke1
        clear z0 z1 z2 z3 z4 z5
        obtain ⟨z0, z1, z2, z3, z4, z5⟩ := HB1.out.six
        go_wp2_with fail
        refine ke1.mono ?_
        clear ke1
        rintro e w2 ⟨rfl, hb2⟩
        have HB2 : Hid (Bx w2 W.heap.size _ _) := HB1.out.below hb2
        have hb3 : Below W0.heap.size W0 w2 := hb1.trans (hb2.mono hb1.size)
        have ko2 := HKO.out w2 hb3
        rw [hO] at ko2
        clear z0 z1 z2 z3 z4 z5
        obtain ⟨z0, z1, z2, z3, z4, z5⟩ := HB2.out.six
        go_wp2_with fail
        refine ko2.mono ?_
        clear ko2
        rintro e w4 ⟨rfl, hb4⟩
        have HV : Hid (Bx (w4.alloc (Obj.cells #[.bool false, .int .i64 0, .slice none 0 0] 93)) w4.heap.size #[.bool false, .int .i64 0, .slice none 0 0] 93) := Bx.new _ _ _
        go_wp2_with (with_reducible refine stV rfl (.tmp 3) (.tmp 15) rfl w4.heap.size false ov none 0 0 (by with_unfolding_all rfl) (by with_unfolding_all rfl) HV.out rfl ?_)
        go_ret
        have hbl : Below W.heap.size W w4 := hb0.trans ((hb3.trans (hb4.mono hb3.size)).mono hb0.size)
        exact ⟨ret_bool (by simp [hO]), by first | exact below_row (hbl.alloc hbl.size _) hbl.size _ | exact hbl.alloc hbl.size _⟩
    · go_enter Tryd.func33, Tryd.ntmps33
      go_wp2_with fail
      rw [HW0.out]
      go_wp2_with fail
      refine kr.mono ?_
      rintro e w1 ⟨rfl, hb1⟩
      have HB1 : Hid (Bx w1 W.heap.size _ _) := HB0.out.below hb1
      have ke1 := HKE.out w1 hb1
      rw [hE] at ke1
      clear z0 z1 z2 z3 z4 z5
      obtain ⟨z0, z1, z2, z3, z4, z5⟩ := HB1.out.six
      go_wp2_with fail
      refine ke1.mono ?_
      rintro e w2 ⟨rfl, hb2⟩
      go_wp2
      go_ret
      exact ⟨ret_bool (by simp), hb0.trans ((hb1.trans (hb2.mono hb1.size)).mono hb0.size)⟩

set_option maxRecDepth 100000 in
set_option maxHeartbeats 4000000 in
theorem ksize_any {X : Nat → Prop} {W : World} {c : List Value} {d : MD} (h : Dc X W c d) (hg : Good d) :
    Calls Tryd.prog 36 #[.agg c.toArray] W fun e w' => e = .returned (.int .i64 (sizM d)) ∧ Below W.heap.size W w' := by
  obtain ⟨b, ra, n0, rc, a1, n1, c1, a2, n2, c2, x, y, rfl, HE, H1, H2, H3⟩ := h.look
  obtain rfl : b = false := by rw [← HE.out.1, hg.1]
  obtain ⟨W0, hW0⟩ : ∃ Q, W.alloc (Obj.cells #[.bool false, .slice ra n0 rc, .slice a1 n1 c1, .slice a2 n2 c2, .int .i64 x, .int .i64 y] 40) = Q := ⟨_, rfl⟩
  have hb0 : Below W.heap.size W W0 := by rw [← hW0]; exact (Below.refl _ W).alloc (Nat.le_refl _) _
  have HB0 : Hid (Bx W0 W.heap.size #[.bool false, .slice ra n0 rc, .slice a1 n1 c1, .slice a2 n2 c2, .int .i64 x, .int .i64 y] 40) := by rw [← hW0]; exact Bx.new _ _ _
  have kb := Dm.domsize_any _ _ _ (H1.out.kept (Kept.of_below hb0)).sr hg.2
  have HS : Hid (sizM d = Dm.sizeR (Dm.tk d.r)) := rfl
  rw [HS.out]
  have HW0 : Hid _ := hW0
  clear hW0 h H1 H2 H3 HE HS hg
  generalize Dm.sizeR (Dm.tk d.r) = q at *
  go_enter Tryd.func36, Tryd.ntmps36
  go_wp2_with fail
  rw [HW0.out]
  refine kb.mono ?_
  rintro e w1 ⟨rfl, hb1⟩
  go_wp2
  go_ret
  exact ⟨rfl, hb0.trans (hb1.mono hb0.size)⟩
end Go.Proofs.YtfcaemfledlnnaaDoor
