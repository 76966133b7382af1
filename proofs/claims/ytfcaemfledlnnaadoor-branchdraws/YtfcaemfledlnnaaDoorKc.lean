/-
  What is proved here: what package kinds answers of domains of whole numbers.
-/
import Derived.Test.YtfcaemfledlnnaaDoorKa
namespace Go.Proofs.YtfcaemfledlnnaaDoor
open Go.RowKit Go.Shelf
set_option linter.unusedVariables false
set_option linter.unusedSimpArgs false

theorem ret_bool {a b : Bool} (h : a = b) : Ending.returned (.bool a) = .returned (.bool b) := by rw [h]
theorem ret_int {a b : Int} (h : a = b) : Ending.returned (.int .i64 a) = .returned (.int .i64 b) := by rw [h]
theorem bcell {W w1 : World} (hb : Below W.heap.size W w1) : (∀ b o, b < W.heap.size → w1.cell? ⟨b, o, none⟩ = W.cell? ⟨b, o, none⟩) ∧ (∀ b o, b < W.heap.size → w1.frozen? ⟨b, o, none⟩ = W.frozen? ⟨b, o, none⟩) :=
  ⟨fun b o h => hb.cell (p := ⟨b, o, none⟩) h, fun b o h => hb.frozen (p := ⟨b, o, none⟩) h⟩
/-- A block with its cells. -/
structure Bx (w : World) (g : Nat) (cs : Array Value) (t : TypeId) : Prop where
  h : w.heap[g]? = some (.cells cs t (0, 0))
theorem Bx.lt {w : World} {g : Nat} {cs : Array Value} {t : TypeId} (h : Bx w g cs t) : g < w.heap.size := (Array.getElem?_eq_some_iff.1 h.h).1
theorem Bx.below {w w' : World} {g : Nat} {cs : Array Value} {t : TypeId} (h : Bx w g cs t) (hb : Below w.heap.size w w') : Bx w' g cs t := ⟨(hb.block g h.lt).trans h.h⟩
theorem Bx.kept {X : Nat → Prop} {w w' : World} {g : Nat} {cs : Array Value} {t : TypeId} (h : Bx w g cs t) (hb : Kept X w w') (hX : ¬ X g) : Bx w' g cs t := ⟨(hb.block g h.lt hX).trans h.h⟩
theorem Bx.new (w : World) (cs : Array Value) (t : TypeId) : Bx (w.alloc (.cells cs t)) w.heap.size cs t := ⟨World.alloc_heap_new w _⟩
theorem Bx.new' {w : World} {n : Nat} (hn : w.heap.size = n) (cs : Array Value) (t : TypeId) : Bx (w.alloc (.cells cs t)) n cs t := by subst hn; exact ⟨World.alloc_heap_new w _⟩
theorem Bx.alloc {w : World} {g : Nat} {cs : Array Value} {t : TypeId} (h : Bx w g cs t) (o : Obj) : Bx (w.alloc o) g cs t := ⟨(Below.heap_alloc _ _ _ h.lt).trans h.h⟩
theorem Bx.drew {w : World} {g : Nat} {cs : Array Value} {t : TypeId} (h : Bx w g cs t) (n : Nat) : Bx (w.drewN n) g cs t := ⟨h.h⟩
theorem Bx.cell {w : World} {g : Nat} {cs : Array Value} {t : TypeId} (h : Bx w g cs t) (j : Nat) : w.cell? ⟨g, j, none⟩ = cs[j]? := cell_of_row w g j cs t (0, 0) h.h
theorem Bx.fr {w : World} {g : Nat} {cs : Array Value} {t : TypeId} (h : Bx w g cs t) (j : Nat) : w.frozen? ⟨g, j, none⟩ = false := by simp [World.frozen?, h.h]
theorem Bx.six {w : World} {g : Nat} {x0 x1 x2 x3 x4 x5 : Value} {t : TypeId} (h : Bx w g #[x0, x1, x2, x3, x4, x5] t) :
    w.cell? ⟨g, 0, none⟩ = some x0 ∧ w.cell? ⟨g, 1, none⟩ = some x1 ∧ w.cell? ⟨g, 2, none⟩ = some x2 ∧ w.cell? ⟨g, 3, none⟩ = some x3 ∧ w.cell? ⟨g, 4, none⟩ = some x4 ∧ w.cell? ⟨g, 5, none⟩ = some x5 := ⟨h.cell 0, h.cell 1, h.cell 2, h.cell 3, h.cell 4, h.cell 5⟩
/-- What the cells of a domain look like. -/
theorem Dc.look {X : Nat → Prop} {w : World} {c : List Value} {d : MD} (h : Dc X w c d) : ∃ b ra n0 rc a1 n1 c1 a2 n2 c2 x y, c = [.bool b, .slice ra n0 rc, .slice a1 n1 c1, .slice a2 n2 c2, .int .i64 x, .int .i64 y] ∧
    Hid (d.set = b ∧ d.r.length = n0 ∧ d.lo.length = n1 ∧ d.up.length = n2 ∧ d.least = x ∧ d.most = y) ∧ Hid (Rm X w (.slice ra n0 rc) d.r) ∧ Hid (Nm X w (.slice a1 n1 c1) d.lo) ∧ Hid (Nm X w (.slice a2 n2 c2) d.up) := by
  obtain ⟨ra, rc, a1, c1, a2, c2, e, h1, h2, h3⟩ := h
  exact ⟨_, _, _, _, _, _, _, _, _, _, _, _, e, ⟨rfl, rfl, rfl, rfl, rfl, rfl⟩, h1, h2, h3⟩
def rightW (d : MD) : Bool := Dm.rightB d.r && decide (d.lo.length = 0) && decide (d.up.length = 0) && decide (d.least = 0) && decide (d.most = 0)

set_option maxRecDepth 100000 in
set_option maxHeartbeats 4000000 in
theorem right_w {X : Nat → Prop} {W : World} {c : List Value} {d : MD} (h : Dc X W c d) (hs : d.set = false) (hf : Dm.FitsR d.r) :
    Calls Tryd.prog 45 #[.agg c.toArray] W fun e w' => e = .returned (.bool (rightW d)) ∧ Below W.heap.size W w' := by
  obtain ⟨b, ra, n0, rc, a1, n1, c1, a2, n2, c2, x, y, rfl, HE, H1, H2, H3⟩ := h.look
  clear h
  obtain rfl : b = false := by rw [← HE.out.1, hs]
  obtain ⟨W0, hW0⟩ : ∃ Q, W.alloc (Obj.cells #[.bool false, .slice ra n0 rc, .slice a1 n1 c1, .slice a2 n2 c2, .int .i64 x, .int .i64 y] 40) = Q := ⟨_, rfl⟩
  have hb0 : Below W.heap.size W W0 := by rw [← hW0]; exact (Below.refl _ W).alloc (Nat.le_refl _) _
  have HB0 : Hid (Bx W0 W.heap.size #[.bool false, .slice ra n0 rc, .slice a1 n1 c1, .slice a2 n2 c2, .int .i64 x, .int .i64 y] 40) := by rw [← hW0]; exact Bx.new _ _ _
  have kr := Dm.right_any _ _ _ (H1.out.kept (Kept.of_below hb0)).sr hf
  have hM : rightW d = (Dm.rightB d.r && decide (n1 = 0) && decide (n2 = 0) && decide (x = 0) && decide (y = 0)) := by
    obtain ⟨_, _, rfl, rfl, rfl, rfl⟩ := HE.out; rfl
  rw [hM]
  clear hM H1 H2 H3 hf hs HE
  have HW0 : Hid _ := hW0
  clear hW0
  cases hR : Dm.rightB d.r
  · rw [hR] at kr
    go_enter Tryd.func45, Tryd.ntmps45
    go_wp2_with fail
    rw [HW0.out]
    refine kr.mono ?_
    rintro e w1 ⟨rfl, hb1⟩
    go_wp2
    go_ret
    exact ⟨ret_bool (by simp), hb0.trans (hb1.mono hb0.size)⟩
  · rw [hR] at kr
    rcases Nat.eq_zero_or_pos n1 with e1 | e1
    · rcases Nat.eq_zero_or_pos n2 with e2 | e2
      · by_cases e3 : x = 0
        · subst e1 e2 e3
          by_cases e4 : y = 0
          · subst e4
            go_enter Tryd.func45, Tryd.ntmps45
            go_wp2_with fail
            rw [HW0.out]
            refine kr.mono ?_
            rintro e w1 ⟨rfl, hb1⟩
            obtain ⟨z0, z1, z2, z3, z4, z5⟩ := (HB0.out.below hb1).six
            go_wp2
            go_ret
            exact ⟨ret_bool (by simp), hb0.trans (hb1.mono hb0.size)⟩
          · go_enter Tryd.func45, Tryd.ntmps45
            go_wp2_with fail
            rw [HW0.out]
            refine kr.mono ?_
            rintro e w1 ⟨rfl, hb1⟩
            obtain ⟨z0, z1, z2, z3, z4, z5⟩ := (HB0.out.below hb1).six
            go_wp2
            go_ret
            exact ⟨ret_bool (by simp [e4]), hb0.trans (hb1.mono hb0.size)⟩
        · subst e1 e2
          go_enter Tryd.func45, Tryd.ntmps45
          go_wp2_with fail
          rw [HW0.out]
          refine kr.mono ?_
          rintro e w1 ⟨rfl, hb1⟩
          obtain ⟨z0, z1, z2, z3, z4, z5⟩ := (HB0.out.below hb1).six
          go_wp2
          go_ret
          exact ⟨ret_bool (by simp [e3]), hb0.trans (hb1.mono hb0.size)⟩
      · have e2' : ¬ (n2 : Int) = 0 := by omega
        subst e1
        go_enter Tryd.func45, Tryd.ntmps45
        go_wp2_with fail
        rw [HW0.out]
        refine kr.mono ?_
        rintro e w1 ⟨rfl, hb1⟩
        obtain ⟨z0, z1, z2, z3, z4, z5⟩ := (HB0.out.below hb1).six
        go_wp2
        go_ret
        exact ⟨ret_bool (by simp; omega), hb0.trans (hb1.mono hb0.size)⟩
    · have e1' : ¬ (n1 : Int) = 0 := by omega
      go_enter Tryd.func45, Tryd.ntmps45
      go_wp2_with fail
      rw [HW0.out]
      refine kr.mono ?_
      rintro e w1 ⟨rfl, hb1⟩
      obtain ⟨z0, z1, z2, z3, z4, z5⟩ := (HB0.out.below hb1).six
      go_wp2
      go_ret
      exact ⟨ret_bool (by simp; omega), hb0.trans (hb1.mono hb0.size)⟩
end Go.Proofs.YtfcaemfledlnnaaDoor
