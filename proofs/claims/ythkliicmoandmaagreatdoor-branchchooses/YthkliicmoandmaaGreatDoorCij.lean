/-
  What is proved here: domains held against each other, and lent.
  What is proved here: how many values a domain has, by the reference; whether a value can be, by the reference.
  What is proved here: the mathematics of parts, of whole numbers: a decision and its other one part the values of ranges.
-/
import Derived.Test.YthkliicmoandmaaGreatDoorBjj
import Derived.Deep.RegionHeld3
import Derived.Test.YthkliicmoandmaaGreatDoorSi
import Derived.Lib.LaidTab
import Derived.Lib.ItoaLen
import Derived.Test.YthkliicmoandmaaGreatDoorYTcj
import Derived.Test.YthkliicmoandmaaGreatDoorYUcj
namespace Go.Proofs.YthkliicmoandmaaGreatDoor
open Go.RowKit Go.Shelf
set_option linter.unusedVariables false
set_option linter.unusedSimpArgs false

def flI (r : List Dm.Rg) : List Int := (List.range (r.length * 2)).map fun i => if i % 2 = 0 then Dm.lo r (i / 2) else Dm.hi r (i / 2)
theorem flI_len (r : List Dm.Rg) : (flI r).length = r.length * 2 := by simp [flI]
theorem flI_nth (r : List Dm.Rg) (i : Nat) (h : i < r.length * 2) : St.nth (flI r) i = if i % 2 = 0 then Dm.lo r (i / 2) else Dm.hi r (i / 2) := by
  unfold St.nth flI
  rw [List.getD_eq_getElem?_getD, List.getElem?_map, List.getElem?_range h]; rfl
/-- The sizes of a domain. -/
def SzD (d : MD) : Prop := d.lo.length * 8 ≤ 140737488351232 ∧ d.up.length * 8 ≤ 140737488351232 ∧ d.r.length * 16 ≤ 140737488351232
theorem Dc.dr {X : Nat → Prop} {w : World} {c : List Value} {d : MD} (h : Dc X w c d) (hz : SzD d) : St.Dr w (.agg c.toArray) (sdM d) (flI d.r) := by
  obtain ⟨ra, rc, a1, c1, a2, c2, rfl, h1, h2, h3⟩ := h
  refine ⟨ra, rc, _, _, rfl, h2.si, h3.si, ?_, hz⟩
  obtain ⟨a, cc, e, h1⟩ := h1
  injection e with e1 _ e3
  subst e1 e3
  refine ⟨_, _, _, rfl, flI_len _, fun h0 => ?_⟩
  obtain ⟨b, off, q1, q2, _, q4⟩ := h1 h0
  refine ⟨b, off, q1, q2, fun i hi => ?_⟩
  rw [flI_nth _ _ hi]
  have hi' : i < d.r.length * 2 := hi
  have hq := q4 (i / 2) (by omega)
  by_cases hp : i % 2 = 0
  · rw [if_pos hp, show off + i = off + i / 2 * 2 by omega]; exact hq.1
  · rw [if_neg hp, show off + i = off + i / 2 * 2 + 1 by omega]; exact hq.2
theorem one_d {X Y : Nat → Prop} {W : World} {c k : List Value} {d : MD} (h : Dc X W c d) (h' : Dc Y W k d) (hz : SzD d) : Calls Tryz.prog 22 #[.agg c.toArray, .agg k.toArray] W fun e w' => e = .returned (.bool true) ∧ Below W.heap.size W w' :=
  St.one_same _ _ (sdM d) (flI d.r) W (h.dr hz) (h'.dr hz)
end Go.Proofs.YthkliicmoandmaaGreatDoor

namespace Go.Proofs.YthkliicmoandmaaGreatDoor
open Go.RowKit Go.Shelf
set_option linter.unusedVariables false
set_option linter.unusedSimpArgs false

set_option maxRecDepth 100000 in
set_option maxHeartbeats 4000000 in
theorem rsize_s {X : Nat → Prop} {W : World} {c : List Value} {d : MD} (h : Dc X W c d) (hs : d.set = true) : Calls Tryz.prog 31 #[.agg c.toArray] W fun e w' => e = .returned (.int .i64 (St.countD (sdM d))) ∧ Below W.heap.size W w' := by
  have h0 := h
  obtain ⟨b, ra, n0, rc, a1, n1, c1, a2, n2, c2, x, y, rfl, HE, H1, H2, H3⟩ := h.look
  obtain rfl : b = true := by rw [← HE.out.1, hs]
  obtain ⟨W0, hW0⟩ : ∃ Q, W.alloc (Obj.cells #[.bool true, .slice ra n0 rc, .slice a1 n1 c1, .slice a2 n2 c2, .int .i64 x, .int .i64 y] 50) = Q := ⟨_, rfl⟩
  have hb0 : Below W.heap.size W W0 := by rw [← hW0]; exact (Below.refl _ W).alloc (Nat.le_refl _) _
  have HB0 : Hid (Bx W0 W.heap.size #[.bool true, .slice ra n0 rc, .slice a1 n1 c1, .slice a2 n2 c2, .int .i64 x, .int .i64 y] 50) := by rw [← hW0]; exact Bx.new _ _ _
  have kr := St.refcount_any _ _ W0 (h0.below hb0).di
  have HW0 : Hid _ := hW0
  clear h h0 hs HE H1 H2 H3 hW0
  obtain ⟨z0, z1, z2, z3, z4, z5⟩ := HB0.out.six
  generalize St.countD (sdM d) = q at *
  go_enter Tryz.func31, Tryz.ntmps31
  go_upto_region 1 with (fail)
  rw [HW0.out]
  go_wp2_with fail
  refine kr.mono ?_
  rintro e w1 ⟨rfl, hb1⟩
  go_wp2
  go_ret
  exact ⟨rfl, hb0.trans (hb1.mono hb0.size)⟩

set_option maxRecDepth 100000 in
set_option maxHeartbeats 4000000 in
theorem rsize_n {X : Nat → Prop} {W : World} {c : List Value} {d : MD} (h : Dc X W c d) (hs : d.set = false) : Calls Tryz.prog 31 #[.agg c.toArray] W fun e w' => e = .returned (.int .i64 (Dm.sizeR (Dm.tk d.r))) ∧ Below W.heap.size W w' := by
  have h0 := h
  obtain ⟨b, ra, n0, rc, a1, n1, c1, a2, n2, c2, x, y, rfl, HE, H1, H2, H3⟩ := h.look
  obtain rfl : b = false := by rw [← HE.out.1, hs]
  obtain ⟨W0, hW0⟩ : ∃ Q, W.alloc (Obj.cells #[.bool false, .slice ra n0 rc, .slice a1 n1 c1, .slice a2 n2 c2, .int .i64 x, .int .i64 y] 50) = Q := ⟨_, rfl⟩
  have hb0 : Below W.heap.size W W0 := by rw [← hW0]; exact (Below.refl _ W).alloc (Nat.le_refl _) _
  have HB0 : Hid (Bx W0 W.heap.size #[.bool false, .slice ra n0 rc, .slice a1 n1 c1, .slice a2 n2 c2, .int .i64 x, .int .i64 y] 50) := by rw [← hW0]; exact Bx.new _ _ _
  have kr := (Dm.refsize_any _ _ _ (H1.out.kept (Kept.of_below hb0)).sr)
  have HW0 : Hid _ := hW0
  clear h h0 hs HE H1 H2 H3 hW0
  obtain ⟨z0, z1, z2, z3, z4, z5⟩ := HB0.out.six
  generalize Dm.sizeR (Dm.tk d.r) = q at *
  go_enter Tryz.func31, Tryz.ntmps31
  go_upto_region 1 with (fail)
  rw [HW0.out]
  go_wp2_with fail
  refine kr.mono ?_
  rintro e w1 ⟨rfl, hb1⟩
  go_wp2
  go_ret
  exact ⟨rfl, hb0.trans (hb1.mono hb0.size)⟩
theorem rsize_d {X : Nat → Prop} {W : World} {c : List Value} {d : MD} (h : Dc X W c d) : Calls Tryz.prog 31 #[.agg c.toArray] W fun e w' => e = .returned (.int .i64 (sizA d)) ∧ Below W.heap.size W w' := by
  cases hs : d.set
  · have := rsize_n h hs
    unfold sizA; rw [if_neg (by simp [hs])]; exact this
  · have := rsize_s h hs
    unfold sizA; rw [if_pos hs]; exact this

end Go.Proofs.YthkliicmoandmaaGreatDoor

namespace Go.Proofs.YthkliicmoandmaaGreatDoor
open Go.RowKit Go.Shelf
set_option linter.unusedVariables false
set_option linter.unusedSimpArgs false

theorem span_pw (a b : Int) : (Dm.span a b).Pairwise (· < ·) := by
  unfold Dm.span
  rw [List.pairwise_map]
  exact List.pairwise_lt_range.imp fun h => by omega
theorem vals_pw : ∀ {l : List Dm.Rg}, Dm.Ord l → (Dm.vals l).Pairwise (· < ·)
  | [], _ => by simp [Dm.vals]
  | r :: t, h => by
    obtain ⟨h1, h2, h3⟩ := Dm.ord_cons h
    have e : Dm.vals (r :: t) = Dm.span r.1 r.2 ++ Dm.vals t := by unfold Dm.vals; rw [List.flatMap_cons]
    rw [e, List.pairwise_append]
    refine ⟨span_pw _ _, vals_pw h2, fun x hx y hy => ?_⟩
    have := (Dm.mem_span _ _ _).1 hx
    have := h3 y hy
    omega
end Go.Proofs.YthkliicmoandmaaGreatDoor
