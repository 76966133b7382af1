/-
  What is proved here: the walk of StoreNil.
-/
import Derived.Test.YtogankopiechcaaKu
namespace Go.Proofs.Ytogankopiechcaa
open Go.RowKit Go.Shelf
set_option linter.unusedVariables false
set_option linter.unusedSimpArgs false

theorem one_zero (W : World) : Calls Try.prog 8 #[.agg #[.bool false, .slice none 0 0, .slice none 0 0, .slice none 0 0, .int .i64 0, .int .i64 0], .agg #[.bool false, .slice none 0 0, .slice none 0 0, .slice none 0 0, .int .i64 0, .int .i64 0]] W fun e w' => e = .returned (.bool true) ∧ Below W.heap.size W w' := by
  have h : Dc (fun _ => False) W [.bool false, .slice none 0 0, .slice none 0 0, .slice none 0 0, .int .i64 0, .int .i64 0] dE := ⟨none, 0, none, 0, none, 0, rfl, ⟨none, 0, rfl, fun q => by simp at q⟩, Nm.empty _ _, Nm.empty _ _⟩
  exact one_eq h h rfl rfl ⟨rfl, rfl, rfl, rfl⟩ ⟨rfl, rfl⟩ rfl (by decide)

set_option maxRecDepth 100000 in
set_option maxHeartbeats 4000000 in
theorem nil_walk (v : Int) (b : Bool) (p0 : Option Addr) (m0 k0 : Nat) (p1 : Option Addr) (m1 k1 : Nat) (p2 : Option Addr) (m2 k2 : Nat) (x y : Int) (W : World) :
    Calls Try.prog 3 #[.int .i64 v, .agg #[.bool b, .slice p0 m0 k0, .slice p1 m1 k1, .slice p2 m2 k2, .int .i64 x, .int .i64 y]] W fun e w' => e = .returned (.bool true) ∧ Below W.heap.size W w' := by
  obtain ⟨W0, hW0⟩ : ∃ q, W.alloc (Obj.cells #[.bool b, .slice p0 m0 k0, .slice p1 m1 k1, .slice p2 m2 k2, .int .i64 x, .int .i64 y] 25) = q := ⟨_, rfl⟩
  obtain ⟨bd, hbd⟩ : ∃ q, W.heap.size = q := ⟨_, rfl⟩
  have hb0 : Below W.heap.size W W0 := by rw [← hW0]; exact (Below.refl _ W).alloc (Nat.le_refl _) _
  have HBD : Hid (Bx W0 bd #[.bool b, .slice p0 m0 k0, .slice p1 m1 k1, .slice p2 m2 k2, .int .i64 x, .int .i64 y] 25) := by rw [← hW0]; exact Bx.new' hbd _ _
  have HB0 : Hid (Below W.heap.size W W0) := hb0
  have HW0 : Hid _ := hW0
  have HBW : Hid (W.heap.size = bd) := hbd
  clear hW0 hb0 hbd
  go_enter Try.func3, Try.ntmps3
  go_wp2_with fail
  rw [HW0.out, HBW.out]
  refine (get_nil v).mono ?_
  rintro e w1 ⟨rfl, hb1⟩
  obtain ⟨bg, hbg⟩ : ∃ q, w1.heap.size = q := ⟨_, rfl⟩
  obtain ⟨w2, hw2⟩ : ∃ q, w1.alloc (Obj.cells #[.bool false, .slice none 0 0, .slice none 0 0, .slice none 0 0, .int .i64 0, .int .i64 0] 25) = q := ⟨_, rfl⟩
  have hb2 : Below w1.heap.size w1 w2 := by rw [← hw2]; exact (Below.refl _ _).alloc (Nat.le_refl _) _
  have HBG2 : Hid (Bx w2 bg #[.bool false, .slice none 0 0, .slice none 0 0, .slice none 0 0, .int .i64 0, .int .i64 0] 25) := by rw [← hw2]; exact Bx.new' hbg _ _
  have HBD2 : Hid (Bx w2 bd _ _) := (HBD.out.below hb1).below hb2
  have HB2 : Hid (Below W.heap.size W w2) := (HB0.out.trans (hb1.mono HB0.out.size)).trans (hb2.mono (Nat.le_trans HB0.out.size hb1.size))
  have HW2 : Hid _ := hw2
  clear hw2 hb2 hb1
  go_wp2_with fail
  rw [HW2.out]
  (try rw [hbg])
  clear hbg HW2
  refine (value_nil v).mono ?_
  rintro e w3 ⟨rfl, hb3⟩
  obtain ⟨bv, hbv⟩ : ∃ q, w3.heap.size = q := ⟨_, rfl⟩
  obtain ⟨w4, hw4⟩ : ∃ q, w3.alloc (Obj.cells #[.bool false, .int .i64 0, .slice none 0 0] 31) = q := ⟨_, rfl⟩
  have hb4 : Below w3.heap.size w3 w4 := by rw [← hw4]; exact (Below.refl _ _).alloc (Nat.le_refl _) _
  have HBV4 : Hid (Bx w4 bv #[.bool false, .int .i64 0, .slice none 0 0] 31) := by rw [← hw4]; exact Bx.new' hbv _ _
  have HBG4 : Hid (Bx w4 bg #[.bool false, .slice none 0 0, .slice none 0 0, .slice none 0 0, .int .i64 0, .int .i64 0] 25) := (HBG2.out.below hb3).below hb4
  have HBD4 : Hid (Bx w4 bd #[.bool b, .slice p0 m0 k0, .slice p1 m1 k1, .slice p2 m2 k2, .int .i64 x, .int .i64 y] 25) := (Bx.below HBD2.out hb3).below hb4
  have HB4 : Hid (Below W.heap.size W w4) := (HB2.out.trans (hb3.mono HB2.out.size)).trans (hb4.mono (Nat.le_trans HB2.out.size hb3.size))
  have HW4 : Hid _ := hw4
  clear hw4 hb4 hb3
  go_upto_region 4 with (fail)
  rw [HW4.out]
  (try rw [hbv])
  clear hbv HW4
  obtain ⟨y0, y1, y2, y3, y4, y5⟩ := HBD4.out.six
  go_wp2_with fail
  refine (narrow_nil v b p0 m0 k0 p1 m1 k1 p2 m2 k2 x y).mono ?_
  clear y0 y1 y2 y3 y4 y5
  rintro e w5 ⟨rfl, hb5⟩
  have HB5 : Hid (Below W.heap.size W w5) := HB4.out.trans (hb5.mono HB4.out.size)
  have HBG5 : Hid (Bx w5 bg #[.bool false, .slice none 0 0, .slice none 0 0, .slice none 0 0, .int .i64 0, .int .i64 0] 25) := HBG4.out.below hb5
  have HBV5 : Hid (Bx w5 bv #[.bool false, .int .i64 0, .slice none 0 0] 31) := HBV4.out.below hb5
  clear hb5
  go_wp2_with fail
  refine (sol_nil 0).mono ?_
  rintro e wt ⟨rfl, hwt⟩
  rw [hwt]
  clear hwt wt
  obtain ⟨y0, y1, y2, y3, y4, y5⟩ := HBG5.out.six
  go_wp2_with fail
  refine (one_zero _).mono ?_
  clear y0 y1 y2 y3 y4 y5
  rintro e w6 ⟨rfl, hb6⟩
  have HB6 : Hid (Below W.heap.size W w6) := HB5.out.trans (hb6.mono HB5.out.size)
  have HBV6 : Hid (Bx w6 bv #[.bool false, .int .i64 0, .slice none 0 0] 31) := HBV5.out.below hb6
  clear hb6
  have v0 := HBV6.out.cell 0
  have v1 := HBV6.out.cell 1
  have v2 := HBV6.out.cell 2
  simp at v0 v1 v2
  go_wp2_with fail
  refine (sameval0 _).mono ?_
  clear v0 v1 v2
  rintro e w7 ⟨rfl, hb7⟩
  have HB7 : Hid (Below W.heap.size W w7) := HB6.out.trans (hb7.mono HB6.out.size)
  clear hb7
  go_wp2_with fail
  refine (len_nil 0).mono ?_
  rintro e wt ⟨rfl, hwt⟩
  rw [hwt]
  clear hwt wt
  go_wp2_with fail
  refine (failed_nil 0).mono ?_
  rintro e wt ⟨rfl, hwt⟩
  rw [hwt]
  clear hwt wt
  go_wp2_with fail
  refine (events_nil 0).mono ?_
  rintro e wt ⟨rfl, hwt⟩
  rw [hwt]
  clear hwt wt
  go_wp2_with fail
  refine (push_nil 0).mono ?_
  rintro e wt ⟨rfl, hwt⟩
  rw [hwt]
  clear hwt wt
  go_wp2_with fail
  refine (pop_nil 0).mono ?_
  rintro e wt ⟨rfl, hwt⟩
  rw [hwt]
  clear hwt wt
  go_wp2_with fail
  refine (depth_nil 0).mono ?_
  rintro e wt ⟨rfl, hwt⟩
  rw [hwt]
  clear hwt wt
  go_wp2_with fail
  refine (all_nil 0).mono ?_
  rintro e wt ⟨rfl, hwt⟩
  rw [hwt]
  clear hwt wt
  go_wp2_with fail
  refine (known_true _).mono ?_
  rintro e w8 ⟨rfl, hb8⟩
  have HB8 : Hid (Below W.heap.size W w8) := HB7.out.trans (hb8.mono HB7.out.size)
  clear hb8
  go_wp2
  go_ret
  exact ⟨rfl, HB8.out⟩
end Go.Proofs.Ytogankopiechcaa
