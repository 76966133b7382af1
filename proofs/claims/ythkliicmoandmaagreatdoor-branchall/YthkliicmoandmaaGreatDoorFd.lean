/-
  What is proved here: the reference: is a domain empty; what is in two; made tight; does one lie within another one.
-/
import Derived.Test.YthkliicmoandmaaGreatDoorDjj
import Derived.Test.YthkliicmoandmaaGreatDoorDhj
import Derived.Test.YthkliicmoandmaaGreatDoorYUhj
namespace Go.Proofs.YthkliicmoandmaaGreatDoor
open Go.RowKit Go.Shelf
set_option linter.unusedVariables false
set_option linter.unusedSimpArgs false

set_option maxRecDepth 100000 in
set_option maxHeartbeats 4000000 in
theorem rempty_s {X : Nat → Prop} {W : World} {c : List Value} {d : MD} (h : Dc X W c d) (hs : d.set = true) : Calls Tryz.prog 33 #[.agg c.toArray] W fun e w' => e = .returned (.bool (St.emptyD (sdM d))) ∧ Below W.heap.size W w' := by
  have h0 := h
  obtain ⟨b, ra, n0, rc, a1, n1, c1, a2, n2, c2, x, y, rfl, HE, H1, H2, H3⟩ := h.look
  obtain rfl : b = true := by rw [← HE.out.1, hs]
  obtain ⟨W0, hW0⟩ : ∃ Q, W.alloc (Obj.cells #[.bool true, .slice ra n0 rc, .slice a1 n1 c1, .slice a2 n2 c2, .int .i64 x, .int .i64 y] 50) = Q := ⟨_, rfl⟩
  have hb0 : Below W.heap.size W W0 := by rw [← hW0]; exact (Below.refl _ W).alloc (Nat.le_refl _) _
  have HB0 : Hid (Bx W0 W.heap.size #[.bool true, .slice ra n0 rc, .slice a1 n1 c1, .slice a2 n2 c2, .int .i64 x, .int .i64 y] 50) := by rw [← hW0]; exact Bx.new _ _ _
  have kr := St.refempty_any _ _ W0 (h0.below hb0).di
  have HW0 : Hid _ := hW0
  clear h h0 hs HE H1 H2 H3 hW0
  obtain ⟨z0, z1, z2, z3, z4, z5⟩ := HB0.out.six
  generalize St.emptyD (sdM d) = q at *
  go_enter Tryz.func33, Tryz.ntmps33
  go_upto_region 1 with (fail)
  rw [HW0.out]
  go_wp2_with fail
  refine kr.mono ?_
  rintro e w1 ⟨rfl, hb1⟩
  go_wp2
  go_ret
  exact ⟨rfl, hb0.trans (hb1.mono hb0.size)⟩

set_option maxRecDepth 100000 in
set_option maxHeartbeats 4000000 in
theorem rempty_n {X : Nat → Prop} {W : World} {c : List Value} {d : MD} (h : Dc X W c d) (hs : d.set = false) : Calls Tryz.prog 33 #[.agg c.toArray] W fun e w' => e = .returned (.bool (decide (d.r.length = 0))) ∧ Below W.heap.size W w' := by
  obtain ⟨b, ra, n0, rc, a1, n1, c1, a2, n2, c2, x, y, rfl, HE, H1, H2, H3⟩ := h.look
  obtain rfl : b = false := by rw [← HE.out.1, hs]
  have hn : d.r.length = n0 := HE.out.2.1
  rw [hn]
  obtain ⟨W0, hW0⟩ : ∃ Q, W.alloc (Obj.cells #[.bool false, .slice ra n0 rc, .slice a1 n1 c1, .slice a2 n2 c2, .int .i64 x, .int .i64 y] 50) = Q := ⟨_, rfl⟩
  have hb0 : Below W.heap.size W W0 := by rw [← hW0]; exact (Below.refl _ W).alloc (Nat.le_refl _) _
  have HB0 : Hid (Bx W0 W.heap.size #[.bool false, .slice ra n0 rc, .slice a1 n1 c1, .slice a2 n2 c2, .int .i64 x, .int .i64 y] 50) := by rw [← hW0]; exact Bx.new _ _ _
  have HW0 : Hid _ := hW0
  clear h hs HE H1 H2 H3 hW0 hn
  obtain ⟨z0, z1, z2, z3, z4, z5⟩ := HB0.out.six
  have hd : ((n0 : Int) == 0) = decide (n0 = 0) := by rw [Bool.eq_iff_iff]; simp
  go_enter Tryz.func33, Tryz.ntmps33
  go_upto_region 1 with (fail)
  rw [HW0.out]
  go_wp2
  go_ret
  exact ⟨by first | rfl | exact ret_bool hd, hb0⟩
theorem rempty_d {X : Nat → Prop} {W : World} {c : List Value} {d : MD} (h : Dc X W c d) : Calls Tryz.prog 33 #[.agg c.toArray] W fun e w' => e = .returned (.bool (reM d)) ∧ Below W.heap.size W w' := by
  cases hs : d.set
  · have := rempty_n h hs
    unfold reM; rw [if_neg (by simp [hs])]; exact this
  · have := rempty_s h hs
    unfold reM; rw [if_pos hs]; exact this
/-- What is in two domains, by the reference. -/
def rbM (a b : MD) : MD := if a.set then ofSD (St.rbothD (sdM a) (sdM b)) else ⟨false, Dm.bothR a.r b.r, [], [], 0, 0⟩

set_option maxRecDepth 100000 in
set_option maxHeartbeats 4000000 in
theorem rbothr_s {X Y : Nat → Prop} {W : World} {c k : List Value} {d o : MD} (h : Dc X W c d) (ho : Dc Y W k o) (hs : d.set = true) : Calls Tryz.prog 71 #[.agg c.toArray, .agg k.toArray] W fun e w' => ∃ q : List Value, e = .returned (.agg q.toArray) ∧ Ans W.heap.size w' q (rbM d o) ∧ Below W.heap.size W w' := by
  obtain ⟨N, hN⟩ : ∃ N, W.heap.size = N := ⟨_, rfl⟩
  have h0 := h
  have ho0 := ho
  obtain ⟨b, ra, n0, rc, a1, n1, c1, a2, n2, c2, x, y, rfl, HE, H1, H2, H3⟩ := h.look
  obtain rfl : b = true := by rw [← HE.out.1, hs]
  obtain ⟨B, rA, m0, rC, A1, m1, C1, A2, m2, C2, X1, Y1, rfl, HE', H1', H2', H3'⟩ := ho.look
  obtain ⟨W0, hW0⟩ : ∃ Q, ((W.alloc (Obj.cells #[.bool true, .slice ra n0 rc, .slice a1 n1 c1, .slice a2 n2 c2, .int .i64 x, .int .i64 y] 50)).alloc (Obj.cells #[.bool B, .slice rA m0 rC, .slice A1 m1 C1, .slice A2 m2 C2, .int .i64 X1, .int .i64 Y1] 50)).alloc (Obj.cells #[.bool false, .slice none 0 0, .slice none 0 0, .slice none 0 0, .int .i64 0, .int .i64 0] 50) = Q := ⟨_, rfl⟩
  have hb0 : Below W.heap.size W W0 := by rw [← hW0]; exact (((Below.refl _ W).alloc (Nat.le_refl _) _).alloc (by simp) _).alloc (by simp; omega) _
  have HX : Hid (Bx W0 N #[.bool true, .slice ra n0 rc, .slice a1 n1 c1, .slice a2 n2 c2, .int .i64 x, .int .i64 y] 50) := by rw [← hW0]; exact ((Bx.new' hN _ _).alloc _).alloc _
  have HY : Hid (Bx W0 (N + 1) #[.bool B, .slice rA m0 rC, .slice A1 m1 C1, .slice A2 m2 C2, .int .i64 X1, .int .i64 Y1] 50) := by rw [← hW0]; exact (Bx.new' (by simp [hN]) _ _).alloc _
  have HR : Hid (Bx W0 (N + 1 + 1) #[.bool false, .slice none 0 0, .slice none 0 0, .slice none 0 0, .int .i64 0, .int .i64 0] 50) := by rw [← hW0]; exact Bx.new' (by simp [hN]) _ _
  have HS0 : Hid (W0.heap.size = N + 3) := by unfold Hid; rw [← hW0]; simp [hN]
  have HB0 : Hid (Below W.heap.size W W0) := hb0
  have kr := St.refboth_any _ _ (sdM d) (sdM o) W0 (h0.below hb0).di (ho0.below hb0).di
  have HM : Hid (rbM d o = ofSD (St.rbothD (sdM d) (sdM o))) := by unfold Hid rbM; rw [hs]; rfl
  have HW0 : Hid _ := hW0
  have HN : Hid (W.heap.size = N) := hN
  clear h h0 hs HE H1 H2 H3 hW0 ho ho0 HE' H1' H2' H3' hb0
  obtain ⟨z0, z1, z2, z3, z4, z5⟩ := HX.out.six
  obtain ⟨y0, y1, y2, y3, y4, y5⟩ := HY.out.six
  rw [HM.out, hN]
  go_enter Tryz.func71, Tryz.ntmps71
  go_upto_region 1 with (fail)
  rw [HW0.out]
  clear hN
  go_wp2_with fail
  refine kr.mono ?_
  clear kr
  rintro e w1 ⟨v', rfl, hv, hb1⟩
  obtain ⟨q, rfl, hA⟩ := dv_ans hv
  have HRx : Hid (Bx w1 (N + 1 + 1) _ _) := HR.out.below hb1
  have hsz : N + 3 ≤ w1.heap.size := by have := hb1.size; have := HS0.out; omega
  have HANS : Hid (Ans W0.heap.size w1 q (ofSD (St.rbothD (sdM d) (sdM o)))) := hA
  have HBL : Hid (Below N W w1) := by rw [← HN.out]; exact HB0.out.trans (hb1.mono HB0.out.size)
  have hs0 := HS0.out
  clear hA hv hb1
  go_wp2_with (with_reducible refine stD rfl (.tmp 4) (.tmp 9) rfl (N + 1 + 1) q (by with_unfolding_all rfl) (by with_unfolding_all rfl) HRx.out rfl HANS.out.one.1 HANS.out.one.2 ?_)
  refine ⟨rfl, _, resD rfl _ (HRx.out.setRow _) HANS.out.one.1 (by with_unfolding_all rfl), q, rfl, (HANS.out.setRow (by omega) _).less (by omega), ?_⟩
  exact below_row HBL.out (by omega) _

set_option maxRecDepth 100000 in
set_option maxHeartbeats 4000000 in
theorem rbothr_n {X Y : Nat → Prop} {W : World} {c k : List Value} {d o : MD} (h : Dc X W c d) (ho : Dc Y W k o) (hs : d.set = false) : Calls Tryz.prog 71 #[.agg c.toArray, .agg k.toArray] W fun e w' => ∃ q : List Value, e = .returned (.agg q.toArray) ∧ Ans W.heap.size w' q (rbM d o) ∧ Below W.heap.size W w' := by
  obtain ⟨N, hN⟩ : ∃ N, W.heap.size = N := ⟨_, rfl⟩
  have h0 := h
  have ho0 := ho
  obtain ⟨b, ra, n0, rc, a1, n1, c1, a2, n2, c2, x, y, rfl, HE, H1, H2, H3⟩ := h.look
  obtain rfl : b = false := by rw [← HE.out.1, hs]
  obtain ⟨B, rA, m0, rC, A1, m1, C1, A2, m2, C2, X1, Y1, rfl, HE', H1', H2', H3'⟩ := ho.look
  obtain ⟨W0, hW0⟩ : ∃ Q, ((W.alloc (Obj.cells #[.bool false, .slice ra n0 rc, .slice a1 n1 c1, .slice a2 n2 c2, .int .i64 x, .int .i64 y] 50)).alloc (Obj.cells #[.bool B, .slice rA m0 rC, .slice A1 m1 C1, .slice A2 m2 C2, .int .i64 X1, .int .i64 Y1] 50)).alloc (Obj.cells #[.bool false, .slice none 0 0, .slice none 0 0, .slice none 0 0, .int .i64 0, .int .i64 0] 50) = Q := ⟨_, rfl⟩
  have hb0 : Below W.heap.size W W0 := by rw [← hW0]; exact (((Below.refl _ W).alloc (Nat.le_refl _) _).alloc (by simp) _).alloc (by simp; omega) _
  have HX : Hid (Bx W0 N #[.bool false, .slice ra n0 rc, .slice a1 n1 c1, .slice a2 n2 c2, .int .i64 x, .int .i64 y] 50) := by rw [← hW0]; exact ((Bx.new' hN _ _).alloc _).alloc _
  have HY : Hid (Bx W0 (N + 1) #[.bool B, .slice rA m0 rC, .slice A1 m1 C1, .slice A2 m2 C2, .int .i64 X1, .int .i64 Y1] 50) := by rw [← hW0]; exact (Bx.new' (by simp [hN]) _ _).alloc _
  have HR : Hid (Bx W0 (N + 1 + 1) #[.bool false, .slice none 0 0, .slice none 0 0, .slice none 0 0, .int .i64 0, .int .i64 0] 50) := by rw [← hW0]; exact Bx.new' (by simp [hN]) _ _
  have HS0 : Hid (W0.heap.size = N + 3) := by unfold Hid; rw [← hW0]; simp [hN]
  have HB0 : Hid (Below W.heap.size W W0) := hb0
  have kr := Dm.refboth_tk _ _ d.r o.r W0 (H1.out.kept (Kept.of_below hb0)).sr (H1'.out.kept (Kept.of_below hb0)).sr
  have HM : Hid (rbM d o = (⟨false, Dm.bothR d.r o.r, [], [], 0, 0⟩ : MD)) := by unfold Hid rbM; rw [hs]; rfl
  have HW0 : Hid _ := hW0
  have HN : Hid (W.heap.size = N) := hN
  clear h h0 hs HE H1 H2 H3 hW0 ho ho0 HE' H1' H2' H3' hb0
  obtain ⟨z0, z1, z2, z3, z4, z5⟩ := HX.out.six
  obtain ⟨y0, y1, y2, y3, y4, y5⟩ := HY.out.six
  rw [HM.out, hN]
  go_enter Tryz.func71, Tryz.ntmps71
  go_upto_region 1 with (fail)
  rw [HW0.out]
  clear hN
  go_wp2_with fail
  refine kr.mono ?_
  clear kr
  rintro e w1 ⟨s', rfl, hv, hb1⟩
  obtain ⟨pp, cc, rfl, _, _⟩ := Dm.own_shape hv
  have hA := rng_ans hv
  obtain ⟨q, hq⟩ : ∃ q : List Value, [.bool false, .slice pp (Dm.bothR d.r o.r).length cc, .slice none 0 0, .slice none 0 0, .int .i64 0, .int .i64 0] = q := ⟨_, rfl⟩
  have HQ : Hid _ := hq
  rw [hq] at hA
  have HRx : Hid (Bx w1 (N + 1 + 1) _ _) := HR.out.below hb1
  have hsz : N + 3 ≤ w1.heap.size := by have := hb1.size; have := HS0.out; omega
  have HANS : Hid (Ans W0.heap.size w1 q ((⟨false, Dm.bothR d.r o.r, [], [], 0, 0⟩ : MD))) := hA
  have HBL : Hid (Below N W w1) := by rw [← HN.out]; exact HB0.out.trans (hb1.mono HB0.out.size)
  have hs0 := HS0.out
  clear hA hv hb1
  go_wp2_with (with_reducible refine stD rfl (.tmp 4) (.tmp 15) rfl (N + 1 + 1) q (by with_unfolding_all rfl) (by rw [← HQ.out]; with_unfolding_all rfl) HRx.out rfl HANS.out.one.1 HANS.out.one.2 ?_)
  refine ⟨rfl, _, resD rfl _ (HRx.out.setRow _) HANS.out.one.1 (by with_unfolding_all rfl), q, rfl, (HANS.out.setRow (by omega) _).less (by omega), ?_⟩
  exact below_row HBL.out (by omega) _
theorem rbothr_d {X Y : Nat → Prop} {W : World} {c k : List Value} {d o : MD} (h : Dc X W c d) (ho : Dc Y W k o) : Calls Tryz.prog 71 #[.agg c.toArray, .agg k.toArray] W fun e w' => ∃ q : List Value, e = .returned (.agg q.toArray) ∧ Ans W.heap.size w' q (rbM d o) ∧ Below W.heap.size W w' := by
  cases hs : d.set
  · exact rbothr_n h ho hs
  · exact rbothr_s h ho hs
/-- A domain made tight, by the reference. -/
def rtM (a : MD) : MD := if a.set then ofSD (St.rbothD (sdM a) (sdM a)) else a

set_option maxRecDepth 100000 in
set_option maxHeartbeats 4000000 in
theorem rtight_s {X : Nat → Prop} {W : World} {c : List Value} {d : MD} (h : Dc X W c d) (hz : SzD d) (hs : d.set = true) : Calls Tryz.prog 72 #[.agg c.toArray] W fun e w' => ∃ q : List Value, e = .returned (.agg q.toArray) ∧ Dc (fun _ => False) w' q (rtM d) ∧ Below W.heap.size W w' := by
  obtain ⟨N, hN⟩ : ∃ N, W.heap.size = N := ⟨_, rfl⟩
  have h0 := h
  obtain ⟨b, ra, n0, rc, a1, n1, c1, a2, n2, c2, x, y, rfl, HE, H1, H2, H3⟩ := h.look
  obtain rfl : b = true := by rw [← HE.out.1, hs]
  obtain ⟨W0, hW0⟩ : ∃ Q, (W.alloc (Obj.cells #[.bool true, .slice ra n0 rc, .slice a1 n1 c1, .slice a2 n2 c2, .int .i64 x, .int .i64 y] 50)).alloc (Obj.cells #[.bool false, .slice none 0 0, .slice none 0 0, .slice none 0 0, .int .i64 0, .int .i64 0] 50) = Q := ⟨_, rfl⟩
  have hb0 : Below W.heap.size W W0 := by rw [← hW0]; exact ((Below.refl _ W).alloc (Nat.le_refl _) _).alloc (by simp) _
  have HX : Hid (Bx W0 N #[.bool true, .slice ra n0 rc, .slice a1 n1 c1, .slice a2 n2 c2, .int .i64 x, .int .i64 y] 50) := by rw [← hW0]; exact (Bx.new' hN _ _).alloc _
  have HR : Hid (Bx W0 (N + 1) #[.bool false, .slice none 0 0, .slice none 0 0, .slice none 0 0, .int .i64 0, .int .i64 0] 50) := by rw [← hW0]; exact Bx.new' (by simp [hN]) _ _
  have HS0 : Hid (W0.heap.size = N + 2) := by unfold Hid; rw [← hW0]; simp [hN]
  have HB0 : Hid (Below W.heap.size W W0) := hb0
  have kr := St.refboth_any _ _ (sdM d) (sdM d) W0 (h0.below hb0).di (h0.below hb0).di
  have HM : Hid (rtM d = ofSD (St.rbothD (sdM d) (sdM d))) := by unfold Hid rtM; rw [hs]; rfl
  have HW0 : Hid _ := hW0
  have HN : Hid (W.heap.size = N) := hN
  clear h h0 hs HE H1 H2 H3 hW0 hb0 hz
  obtain ⟨z0, z1, z2, z3, z4, z5⟩ := HX.out.six
  rw [HM.out, hN]
  go_enter Tryz.func72, Tryz.ntmps72
  go_upto_region 1 with (fail)
  rw [HW0.out]
  clear hN
  go_wp2_with fail
  refine kr.mono ?_
  clear kr
  rintro e w1 ⟨v', rfl, hv, hb1⟩
  obtain ⟨q, rfl, hA⟩ := dv_ans hv
  have HDC : Hid (Dc (fun b => b = N + 1) w1 q (ofSD (St.rbothD (sdM d) (sdM d)))) := hA.dc _ (fun b hb => by rw [hb, HS0.out]; omega)
  clear hA hv
  have HRx : Hid (Bx w1 (N + 1) _ _) := HR.out.below hb1
  have HBL : Hid (Below N W w1) := by rw [← HN.out]; exact HB0.out.trans (hb1.mono HB0.out.size)
  clear hb1
  go_wp2_with (with_reducible refine stD rfl (.tmp 2) (.tmp 7) rfl (N + 1) q (by with_unfolding_all rfl) (by with_unfolding_all rfl) HRx.out rfl HDC.out.len HDC.out.one ?_)
  refine ⟨rfl, _, resD rfl _ (HRx.out.setRow _) HDC.out.len (by with_unfolding_all rfl), q, rfl, ?_, ?_⟩
  · have hk : Kept (fun b => b = N + 1) w1 (w1.setRow (N + 1) q.toArray) := ⟨rfl, rfl, rfl, by simp [World.setRow], fun b _ hb => setRow_other _ _ b _ hb⟩
    exact (HDC.out.kept hk).weak
  · exact below_row HBL.out (by omega) _

set_option maxRecDepth 100000 in
set_option maxHeartbeats 4000000 in
theorem rtight_n {X : Nat → Prop} {W : World} {c : List Value} {d : MD} (h : Dc X W c d) (hz : SzD d) (hs : d.set = false) : Calls Tryz.prog 72 #[.agg c.toArray] W fun e w' => ∃ q : List Value, e = .returned (.agg q.toArray) ∧ Dc (fun _ => False) w' q (rtM d) ∧ Below W.heap.size W w' := by
  obtain ⟨N, hN⟩ : ∃ N, W.heap.size = N := ⟨_, rfl⟩
  have h0 := h
  obtain ⟨b, ra, n0, rc, a1, n1, c1, a2, n2, c2, x, y, rfl, HE, H1, H2, H3⟩ := h.look
  obtain rfl : b = false := by rw [← HE.out.1, hs]
  obtain ⟨W0, hW0⟩ : ∃ Q, (W.alloc (Obj.cells #[.bool false, .slice ra n0 rc, .slice a1 n1 c1, .slice a2 n2 c2, .int .i64 x, .int .i64 y] 50)).alloc (Obj.cells #[.bool false, .slice none 0 0, .slice none 0 0, .slice none 0 0, .int .i64 0, .int .i64 0] 50) = Q := ⟨_, rfl⟩
  have hb0 : Below W.heap.size W W0 := by rw [← hW0]; exact ((Below.refl _ W).alloc (Nat.le_refl _) _).alloc (by simp) _
  have HX : Hid (Bx W0 N #[.bool false, .slice ra n0 rc, .slice a1 n1 c1, .slice a2 n2 c2, .int .i64 x, .int .i64 y] 50) := by rw [← hW0]; exact (Bx.new' hN _ _).alloc _
  have HR : Hid (Bx W0 (N + 1) #[.bool false, .slice none 0 0, .slice none 0 0, .slice none 0 0, .int .i64 0, .int .i64 0] 50) := by rw [← hW0]; exact Bx.new' (by simp [hN]) _ _
  have HS0 : Hid (W0.heap.size = N + 2) := by unfold Hid; rw [← hW0]; simp [hN]
  have HB0 : Hid (Below W.heap.size W W0) := hb0
  have kr := lent_z (h0.below hb0) hz
  have HM : Hid (rtM d = d) := by unfold Hid rtM; rw [hs]; rfl
  have HW0 : Hid _ := hW0
  have HN : Hid (W.heap.size = N) := hN
  clear h h0 hs HE H1 H2 H3 hW0 hb0 hz
  obtain ⟨z0, z1, z2, z3, z4, z5⟩ := HX.out.six
  rw [HM.out, hN]
  go_enter Tryz.func72, Tryz.ntmps72
  go_upto_region 1 with (fail)
  rw [HW0.out]
  clear hN
  go_wp2_with fail
  refine kr.mono ?_
  clear kr
  rintro e w1 ⟨q, rfl, hv, hb1⟩
  have HDC : Hid (Dc (fun b => b = N + 1) w1 q (d)) := hv _ (fun b hb => by rw [hb, HS0.out]; omega)
  clear hv
  have HRx : Hid (Bx w1 (N + 1) _ _) := HR.out.below hb1
  have HBL : Hid (Below N W w1) := by rw [← HN.out]; exact HB0.out.trans (hb1.mono HB0.out.size)
  clear hb1
  go_wp2_with (with_reducible refine stD rfl (.tmp 2) (.tmp 9) rfl (N + 1) q (by with_unfolding_all rfl) (by with_unfolding_all rfl) HRx.out rfl HDC.out.len HDC.out.one ?_)
  refine ⟨rfl, _, resD rfl _ (HRx.out.setRow _) HDC.out.len (by with_unfolding_all rfl), q, rfl, ?_, ?_⟩
  · have hk : Kept (fun b => b = N + 1) w1 (w1.setRow (N + 1) q.toArray) := ⟨rfl, rfl, rfl, by simp [World.setRow], fun b _ hb => setRow_other _ _ b _ hb⟩
    exact (HDC.out.kept hk).weak
  · exact below_row HBL.out (by omega) _
theorem rtight_d {X : Nat → Prop} {W : World} {c : List Value} {d : MD} (h : Dc X W c d) (hz : SzD d) : Calls Tryz.prog 72 #[.agg c.toArray] W fun e w' => ∃ q : List Value, e = .returned (.agg q.toArray) ∧ Dc (fun _ => False) w' q (rtM d) ∧ Below W.heap.size W w' := by
  cases hs : d.set
  · exact rtight_n h hz hs
  · exact rtight_s h hz hs
/-- Where one lies within the other, both is the first one made tight. -/
theorem le_both {a b : MD} (h : LeA a b) (hr : rightM a = true) : rbM a b = rtM a ∧ SzD (rtM a) := by
  cases hs : a.set
  · have hw : rightW a = true := by unfold rightM at hr; rwa [if_neg (by rw [hs]; decide)] at hr
    unfold rightW at hw
    simp only [Bool.and_eq_true, decide_eq_true_eq] at hw
    obtain ⟨⟨⟨⟨w1, w2⟩, w3⟩, w4⟩, w5⟩ := hw
    have hR : Dm.Right a.r := by unfold Dm.rightB at w1; simpa using w1
    have e := both_num hR hs h
    have e1 : a.lo = [] := List.length_eq_zero_iff.1 w2
    have e2 : a.up = [] := List.length_eq_zero_iff.1 w3
    refine ⟨?_, ?_⟩
    · unfold rbM rtM
      rw [if_neg (by rw [hs]; decide), if_neg (by rw [hs]; decide), e]
      obtain ⟨s, r, lo, up, le, mo⟩ := a
      simp only at hs e1 e2 w4 w5
      subst hs e1 e2 w4 w5
      rfl
    · have hl : a.r.length ≤ 4096 := hR.1
      unfold rtM
      rw [if_neg (by rw [hs]; decide)]
      refine ⟨by rw [w2]; decide, by rw [w3]; decide, by omega⟩
  · have h2 := h.2
    rw [if_pos hs] at h2
    have e := both_le h2
    refine ⟨?_, ?_⟩
    · unfold rbM rtM
      rw [if_pos hs, if_pos hs, e]
    · unfold rtM
      rw [if_pos hs, St.both_same, St.bothD_G]
      have hA := St.taken_right (sdM a)
      have hall : St.RightD (St.bothG (St.takenD (sdM a)) (St.takenD (sdM a))) := by
        unfold St.bothG
        split
        · rename_i hsub
          have hsub' := (St.subB_iff _ _).1 hsub
          have hm := St.meet_set hA.2.2.2.1 (St.takenD (sdM a)).up
          exact St.tight_right _ _ (St.join_set hA.2.2.1 hA.2.2.1 hm hsub') hm hsub'
        · exact St.none_right
      refine ⟨?_, ?_, ?_⟩
      · have := hall.2.2.1.1; show (St.bothG _ _).lo.length * 8 ≤ _; omega
      · have := hall.2.2.2.1.1; show (St.bothG _ _).up.length * 8 ≤ _; omega
      · show ([] : List Dm.Rg).length * 16 ≤ _; decide

set_option maxRecDepth 100000 in
set_option maxHeartbeats 4000000 in
theorem within_yes {X Y : Nat → Prop} {W : World} {c k : List Value} {d o : MD} (h : Dc X W c d) (ho : Dc Y W k o) (hz : SzD d) (hr : rightM d = true) (hle : LeA d o) : Calls Tryz.prog 34 #[.agg c.toArray, .agg k.toArray] W fun e w' => e = .returned (.bool true) ∧ Below W.heap.size W w' := by
  obtain ⟨N, hN⟩ : ∃ N, W.heap.size = N := ⟨_, rfl⟩
  have h0 := h
  have ho0 := ho
  obtain ⟨hle1, hsz⟩ := le_both hle hr
  obtain ⟨b, ra, n0, rc, a1, n1, c1, a2, n2, c2, x, y, rfl, HE, H1, H2, H3⟩ := h.look
  obtain ⟨B, rA, m0, rC, A1, m1, C1, A2, m2, C2, X1, Y1, rfl, HE', H1', H2', H3'⟩ := ho.look
  have hbB : b = B := by rw [← HE.out.1, ← HE'.out.1, hle.1]
  subst hbB
  obtain ⟨W0, hW0⟩ : ∃ Q, (W.alloc (Obj.cells #[.bool b, .slice ra n0 rc, .slice a1 n1 c1, .slice a2 n2 c2, .int .i64 x, .int .i64 y] 50)).alloc (Obj.cells #[.bool b, .slice rA m0 rC, .slice A1 m1 C1, .slice A2 m2 C2, .int .i64 X1, .int .i64 Y1] 50) = Q := ⟨_, rfl⟩
  have hb0 : Below W.heap.size W W0 := by rw [← hW0]; exact ((Below.refl _ W).alloc (Nat.le_refl _) _).alloc (by simp) _
  have HX : Hid (Bx W0 N #[.bool b, .slice ra n0 rc, .slice a1 n1 c1, .slice a2 n2 c2, .int .i64 x, .int .i64 y] 50) := by rw [← hW0]; exact (Bx.new' hN _ _).alloc _
  have HY : Hid (Bx W0 (N + 1) #[.bool b, .slice rA m0 rC, .slice A1 m1 C1, .slice A2 m2 C2, .int .i64 X1, .int .i64 Y1] 50) := by rw [← hW0]; exact Bx.new' (by simp [hN]) _ _
  have HB0 : Hid (Below W.heap.size W W0) := hb0
  have KB : Hid (∀ w, Below W0.heap.size W0 w → Calls Tryz.prog 71 #[.agg #[.bool b, .slice ra n0 rc, .slice a1 n1 c1, .slice a2 n2 c2, .int .i64 x, .int .i64 y], .agg #[.bool b, .slice rA m0 rC, .slice A1 m1 C1, .slice A2 m2 C2, .int .i64 X1, .int .i64 Y1]] w fun e w' => ∃ q : List Value, e = .returned (.agg q.toArray) ∧ Ans w.heap.size w' q (rtM d) ∧ Below w.heap.size w w') := fun w hb => by
    rw [← hle1]; exact rbothr_d ((h0.below hb0).below hb) ((ho0.below hb0).below hb)
  have KT : Hid (∀ w, Below W0.heap.size W0 w → Calls Tryz.prog 72 #[.agg #[.bool b, .slice ra n0 rc, .slice a1 n1 c1, .slice a2 n2 c2, .int .i64 x, .int .i64 y]] w fun e w' => ∃ q : List Value, e = .returned (.agg q.toArray) ∧ Dc (fun _ => False) w' q (rtM d) ∧ Below w.heap.size w w') := fun w hb => rtight_d ((h0.below hb0).below hb) hz
  have HSZ : Hid (SzD (rtM d)) := hsz
  have HW0 : Hid _ := hW0
  clear h h0 HE H1 H2 H3 hW0 ho ho0 HE' H1' H2' H3' hb0 hz hr hle hle1 hsz
  have HP0 : Hid (Below W0.heap.size W0 W0.drew) := (Below.refl _ _).drew
  have HN : Hid (W.heap.size = N) := hN
  go_enter Tryz.func34, Tryz.ntmps34
  go_upto_region 1 with (fail)
  rw [HW0.out]
  clear hN
  refine wp_region_held_drew (S := fun X : World => Below W0.heap.size W0 X) (by kernel_rfl) (HP0.out) (fun hHeld => ?_)
  refine wpAnyH_take (i := 0) (oi := { dst := some 5, op := Go.Op.fieldAddr 50 (Go.Operand.tmp 2) 0, type := 0, pos := "ref.go:59", after := #[], guard := none }) (v := ?_) rfl (by kernel_rfl) (by kernel_rfl) (by kernel_rfl) (fun _ _ _ h => h) (Or.inl ⟨by rfl, ?_⟩) hHeld ?_
  rotate_left
  · intro w hSw; (try dsimp only at hSw); go_simp <;> with_reducible rfl
  try simp only [Act.put, List.setIfInBounds_toArray, List.set_cons_zero, List.set_cons_succ]
  refine wpAnyH_take (i := 1) (oi := { dst := some 6, op := Go.Op.load 4 (Go.Operand.tmp 5), type := 4, pos := "ref.go:59", after := #[{ on := 0, ground := Go.Ground.data }], guard := none }) (v := ?_) rfl (by kernel_rfl) (by kernel_rfl) (by kernel_rfl) (fun _ _ _ h => h) (Or.inl ⟨by rfl, ?_⟩) hHeld ?_
  rotate_left
  · intro w hSw; obtain ⟨z0, z1, z2, z3, z4, z5⟩ := (HX.out.below hSw).six; go_simp <;> with_reducible rfl
  try simp only [Act.put, List.setIfInBounds_toArray, List.set_cons_zero, List.set_cons_succ]
  refine wpAnyH_take (i := 2) (oi := { dst := some 7, op := Go.Op.fieldAddr 50 (Go.Operand.tmp 3) 0, type := 0, pos := "ref.go:59", after := #[], guard := none }) (v := ?_) rfl (by kernel_rfl) (by kernel_rfl) (by kernel_rfl) (fun _ _ _ h => h) (Or.inl ⟨by rfl, ?_⟩) hHeld ?_
  rotate_left
  · intro w hSw; (try dsimp only at hSw); go_simp <;> with_reducible rfl
  try simp only [Act.put, List.setIfInBounds_toArray, List.set_cons_zero, List.set_cons_succ]
  refine wpAnyH_take (i := 3) (oi := { dst := some 8, op := Go.Op.load 4 (Go.Operand.tmp 7), type := 4, pos := "ref.go:59", after := #[{ on := 2, ground := Go.Ground.data }], guard := none }) (v := ?_) rfl (by kernel_rfl) (by kernel_rfl) (by kernel_rfl) (fun _ _ _ h => h) (Or.inl ⟨by rfl, ?_⟩) hHeld ?_
  rotate_left
  · intro w hSw; obtain ⟨z0, z1, z2, z3, z4, z5⟩ := (HY.out.below hSw).six; go_simp <;> with_reducible rfl
  try simp only [Act.put, List.setIfInBounds_toArray, List.set_cons_zero, List.set_cons_succ]
  refine wpAnyH_take (i := 4) (oi := { dst := some 9, op := Go.Op.binOp Go.BinOp.eql 4 (Go.Operand.tmp 6) (Go.Operand.tmp 8) 4, type := 4, pos := "ref.go:59", after := #[{ on := 1, ground := Go.Ground.data }, { on := 3, ground := Go.Ground.data }], guard := none }) (v := .bool true) rfl (by kernel_rfl) (by kernel_rfl) (by kernel_rfl) (fun _ _ _ h => h) (Or.inl ⟨by rfl, ?_⟩) hHeld ?_
  skip
  · intro w hSw; go_simp <;> first | done | with_reducible rfl | simp
  try simp only [Act.put, List.setIfInBounds_toArray, List.set_cons_zero, List.set_cons_succ]
  refine wpAnyH_take (i := 5) (oi := { dst := some 10, op := Go.Op.move (Go.Operand.tmp 9), type := 4, pos := "ref.go:59", after := #[{ on := 4, ground := Go.Ground.data }], guard := none }) (v := .bool true) rfl (by kernel_rfl) (by kernel_rfl) (by kernel_rfl) (fun _ _ _ h => h) (Or.inl ⟨by rfl, ?_⟩) hHeld ?_
  skip
  · intro w hSw; (try dsimp only at hSw); go_simp <;> with_reducible rfl
  try simp only [Act.put, List.setIfInBounds_toArray, List.set_cons_zero, List.set_cons_succ]
  refine wpAnyH_take (i := 6) (oi := { dst := some 11, op := Go.Op.load 50 (Go.Operand.tmp 2), type := 50, pos := "ref.go:59", after := #[{ on := 5, ground := Go.Ground.guard }], guard := some (5, true) }) (v := ?_) rfl (by kernel_rfl) (by kernel_rfl) (by kernel_rfl) (fun _ _ _ h => h) (Or.inl ⟨by rfl, ?_⟩) hHeld ?_
  rotate_left
  · intro w hSw; obtain ⟨z0, z1, z2, z3, z4, z5⟩ := (HX.out.below hSw).six; go_simp <;> with_reducible rfl
  try simp only [Act.put, List.setIfInBounds_toArray, List.set_cons_zero, List.set_cons_succ]
  refine wpAnyH_take (i := 7) (oi := { dst := some 12, op := Go.Op.load 50 (Go.Operand.tmp 3), type := 50, pos := "ref.go:59", after := #[{ on := 5, ground := Go.Ground.guard }], guard := some (5, true) }) (v := ?_) rfl (by kernel_rfl) (by kernel_rfl) (by kernel_rfl) (fun _ _ _ h => h) (Or.inl ⟨by rfl, ?_⟩) hHeld ?_
  rotate_left
  · intro w hSw; obtain ⟨z0, z1, z2, z3, z4, z5⟩ := (HY.out.below hSw).six; go_simp <;> with_reducible rfl
  try simp only [Act.put, List.setIfInBounds_toArray, List.set_cons_zero, List.set_cons_succ]
  refine wpAnyH_take (i := 9) (oi := { dst := some 14, op := Go.Op.load 50 (Go.Operand.tmp 2), type := 50, pos := "ref.go:59", after := #[{ on := 5, ground := Go.Ground.guard }], guard := some (5, true) }) (v := ?_) rfl (by kernel_rfl) (by kernel_rfl) (by kernel_rfl) (fun _ _ _ h => h) (Or.inl ⟨by rfl, ?_⟩) hHeld ?_
  rotate_left
  · intro w hSw; obtain ⟨z0, z1, z2, z3, z4, z5⟩ := (HX.out.below hSw).six; go_simp <;> with_reducible rfl
  try simp only [Act.put, List.setIfInBounds_toArray, List.set_cons_zero, List.set_cons_succ]
  refine wpAnyH_ready (rs := [8]) (by kernel_rfl) (by simp) ?_
  refine AllReadyH.cons rfl (fun K hK => ?_) AllReadyH.nil
  go_simp
  refine (KB.out _ HP0.out).mono ?_
  rintro e u1 ⟨q1, rfl, hA, hbu⟩
  have HP1 : Hid (Below W0.heap.size W0 u1) := HP0.out.trans (hbu.mono HP0.out.size)
  have HQ1 : Hid (Dc (fun _ => False) u1 q1 (rtM d)) := hA.dc _ (fun _ h => h.elim)
  clear hA hbu
  refine hK.out _ _ (HP1.out) (fun hHeld2 => ?_)
  clear hK K hHeld
  have hHeld := hHeld2
  clear hHeld2
  try simp only [Act.put, List.setIfInBounds_toArray, List.set_cons_zero, List.set_cons_succ]
  refine wpAnyH_ready (rs := [10]) (by kernel_rfl) (by simp) ?_
  refine AllReadyH.cons rfl (fun K hK => ?_) AllReadyH.nil
  go_simp
  refine (KT.out _ HP1.out).mono ?_
  rintro e u2 ⟨q2, rfl, hA, hbu⟩
  have HP2 : Hid (Below W0.heap.size W0 u2) := HP1.out.trans (hbu.mono HP1.out.size)
  have HQ2 : Hid (Dc (fun _ => False) u2 q2 (rtM d)) := hA
  have HQ3 : Hid (Dc (fun _ => False) u2 q1 (rtM d)) := HQ1.out.below hbu
  clear hA hbu
  refine hK.out _ _ (HP2.out) (fun hHeld2 => ?_)
  clear hK K hHeld
  have hHeld := hHeld2
  clear hHeld2
  try simp only [Act.put, List.setIfInBounds_toArray, List.set_cons_zero, List.set_cons_succ]
  refine wpAnyH_ready (rs := [11]) (by kernel_rfl) (by simp) ?_
  refine AllReadyH.cons rfl (fun K hK => ?_) AllReadyH.nil
  go_simp
  refine (one_d HQ3.out HQ2.out HSZ.out).mono ?_
  rintro e u3 ⟨rfl, hbu⟩
  have HP3 : Hid (Below W0.heap.size W0 u3) := HP2.out.trans (hbu.mono HP2.out.size)
  clear hbu
  refine hK.out _ _ (HP3.out) (fun hHeld2 => ?_)
  clear hK K hHeld
  have hHeld := hHeld2
  clear hHeld2
  try simp only [Act.put, List.setIfInBounds_toArray, List.set_cons_zero, List.set_cons_succ]
  refine wpAnyH_take (i := 12) (oi := { dst := some 17, op := Go.Op.pick (Go.Operand.tmp 10) (Go.Operand.tmp 16) (Go.Operand.const (Go.Value.bool false)), type := 4, pos := "ref.go:59", after := #[{ on := 5, ground := Go.Ground.data }, { on := 11, ground := Go.Ground.data }], guard := none }) (v := .bool true) rfl (by kernel_rfl) (by kernel_rfl) (by kernel_rfl) (fun _ _ _ h => h) (Or.inl ⟨by rfl, ?_⟩) hHeld ?_
  skip
  · intro w hSw; go_simp <;> first | done | with_reducible rfl | simp
  try simp only [Act.put, List.setIfInBounds_toArray, List.set_cons_zero, List.set_cons_succ]
  refine wpAnyH_take (i := 13) (oi := { dst := some 4, op := Go.Op.assign (Go.Operand.tmp 17), type := 4, pos := "ref.go:59", after := #[{ on := 12, ground := Go.Ground.data }, { on := 11, ground := Go.Ground.chain }, { on := 0, ground := Go.Ground.phase }, { on := 1, ground := Go.Ground.phase }, { on := 2, ground := Go.Ground.phase }, { on := 3, ground := Go.Ground.phase }, { on := 4, ground := Go.Ground.phase }, { on := 5, ground := Go.Ground.phase }, { on := 6, ground := Go.Ground.phase }, { on := 7, ground := Go.Ground.phase }, { on := 8, ground := Go.Ground.phase }, { on := 9, ground := Go.Ground.phase }, { on := 10, ground := Go.Ground.phase }, { on := 11, ground := Go.Ground.phase }, { on := 12, ground := Go.Ground.phase }], guard := none }) (v := ?_) rfl (by kernel_rfl) (by kernel_rfl) (by kernel_rfl) (fun _ _ _ h => h) (Or.inl ⟨by rfl, ?_⟩) hHeld ?_
  rotate_left
  · intro w hSw; (try dsimp only at hSw); go_simp <;> with_reducible rfl
  try simp only [Act.put, List.setIfInBounds_toArray, List.set_cons_zero, List.set_cons_succ]
  refine wpAnyH_done (by kernel_rfl) ?_ _
  go_wp2
  go_ret
  exact ⟨rfl, HB0.out.trans (HP3.out.mono HB0.out.size)⟩
theorem one_val {d : MD} (hr : rightM d = true) (h1 : sizA d = 1) : onlyA d = true ∧ (d.set = false → 0 < d.r.length) := by
  have hz := sev_size d
  have he : emptyA d = false := by
    have := siz_re (d := d) (by omega)
    unfold reM at this
    unfold emptyA emptyW
    cases hs : d.set
    · rw [hs] at this; simpa using this
    · rw [hs] at this
      simp only [if_true] at this ⊢
      obtain ⟨_, h2, _⟩ := St.empty_no this
      exact decide_eq_false (by have h3 : (sdM d).least ≤ (sdM d).most := h2; show ¬ d.most < d.least; have e1 : (sdM d).least = d.least := rfl; have e2 : (sdM d).most = d.most := rfl; omega)
  rw [hr, h1] at hz
  refine ⟨?_, fun hs => ?_⟩
  · unfold sevB at hz
    rw [hr, he] at hz
    simpa using hz
  · unfold emptyA emptyW at he
    rw [hs] at he
    simp at he
    exact List.length_pos_iff.2 he

set_option maxRecDepth 100000 in
set_option maxHeartbeats 4000000 in
theorem value_s {X : Nat → Prop} {W : World} {c : List Value} {d : MD} (h : Dc X W c d) (hr : rightM d = true) (h1 : sizA d = 1) (hs : d.set = true) : Calls Tryz.prog 35 #[.agg c.toArray] W fun e w' => ∃ (b : Bool) (n : Int) (p : Option Addr) (l k : Nat), e = .returned (.tuple #[.agg #[.bool b, .int .i64 n, .slice p l k], .bool true]) ∧ Below W.heap.size W w' := by
  obtain ⟨N, hN⟩ : ∃ N, W.heap.size = N := ⟨_, rfl⟩
  have h0 := h
  have hfx : St.fixB (sdM d) = true := by have := (one_val hr h1).1; unfold onlyA at this; rwa [if_pos hs] at this
  obtain ⟨b, ra, n0, rc, a1, n1, c1, a2, n2, c2, x, y, rfl, HE, H1, H2, H3⟩ := h.look
  obtain rfl : b = true := by rw [← HE.out.1, hs]
  obtain ⟨W0, hW0⟩ : ∃ Q, (W.alloc (Obj.cells #[.bool true, .slice ra n0 rc, .slice a1 n1 c1, .slice a2 n2 c2, .int .i64 x, .int .i64 y] 50)).alloc (Obj.cells #[.bool false, .int .i64 0, .slice none 0 0] 52) = Q := ⟨_, rfl⟩
  have hb0 : Below W.heap.size W W0 := by rw [← hW0]; exact ((Below.refl _ W).alloc (Nat.le_refl _) _).alloc (by simp) _
  have HX : Hid (Bx W0 N #[.bool true, .slice ra n0 rc, .slice a1 n1 c1, .slice a2 n2 c2, .int .i64 x, .int .i64 y] 50) := by rw [← hW0]; exact (Bx.new' hN _ _).alloc _
  have HR : Hid (Bx W0 (N + 1) #[.bool false, .int .i64 0, .slice none 0 0] 52) := by rw [← hW0]; exact Bx.new' (by simp [hN]) _ _
  have HB0 : Hid (Below W.heap.size W W0) := hb0
  have kr := St.reffixed_any _ _ W0 (h0.below hb0).di
  rw [hfx] at kr
  have HW0 : Hid _ := hW0
  have HN : Hid (W.heap.size = N) := hN
  clear h h0 hr h1 hs hfx HE H1 H2 H3 hW0 hb0
  obtain ⟨z0, z1, z2, z3, z4, z5⟩ := HX.out.six
  go_enter Tryz.func35, Tryz.ntmps35
  go_upto_region 1 with (fail)
  rw [HW0.out]
  clear hN
  go_wp2_with fail
  refine kr.mono ?_
  clear kr
  rintro e w1 ⟨p, l, k, rfl, -, hb1⟩
  have HRx : Hid (Bx w1 (N + 1) _ _) := HR.out.below hb1
  have HBL : Hid (Below W.heap.size W w1) := HB0.out.trans (hb1.mono HB0.out.size)
  clear hb1
  obtain ⟨x0, x1, x2⟩ := HRx.out.three
  have f0 := HRx.out.fr 0
  have f1 := HRx.out.fr 1
  have f2 := HRx.out.fr 2
  have HZX := HRx.out.set3 (.bool true) (.int .i64 0) (.slice p l k)
  go_wp2
  refine ⟨rfl, _, res_ct rfl _ HZX (by with_unfolding_all rfl) rfl Tryz.underlying52 (by kernel_rfl) (v := .bool true) (by with_unfolding_all rfl), _, _, _, _, _, rfl, ?_⟩
  have hle : W.heap.size ≤ N + 1 := by rw [HN.out]; omega
  exact ((HBL.out.setCell (p := ⟨N + 1, 0, none⟩) hle _).setCell (p := ⟨N + 1, 1, none⟩) hle _).setCell (p := ⟨N + 1, 2, none⟩) hle _

set_option maxRecDepth 100000 in
set_option maxHeartbeats 4000000 in
theorem value_n {X : Nat → Prop} {W : World} {c : List Value} {d : MD} (h : Dc X W c d) (hr : rightM d = true) (h1 : sizA d = 1) (hs : d.set = false) : Calls Tryz.prog 35 #[.agg c.toArray] W fun e w' => ∃ (b : Bool) (n : Int) (p : Option Addr) (l k : Nat), e = .returned (.tuple #[.agg #[.bool b, .int .i64 n, .slice p l k], .bool true]) ∧ Below W.heap.size W w' := by
  obtain ⟨N, hN⟩ : ∃ N, W.heap.size = N := ⟨_, rfl⟩
  have h0 := h
  have hpos := (one_val hr h1).2 hs
  have hsz : Dm.sizeR (Dm.tk d.r) = 1 := by unfold sizA at h1; rwa [if_neg (by rw [hs]; decide)] at h1
  obtain ⟨b, ra, n0, rc, a1, n1, c1, a2, n2, c2, x, y, rfl, HE, H1, H2, H3⟩ := h.look
  obtain rfl : b = false := by rw [← HE.out.1, hs]
  have hn : d.r.length = n0 := HE.out.2.1
  obtain ⟨W0, hW0⟩ : ∃ Q, (W.alloc (Obj.cells #[.bool false, .slice ra n0 rc, .slice a1 n1 c1, .slice a2 n2 c2, .int .i64 x, .int .i64 y] 50)).alloc (Obj.cells #[.bool false, .int .i64 0, .slice none 0 0] 52) = Q := ⟨_, rfl⟩
  have hb0 : Below W.heap.size W W0 := by rw [← hW0]; exact ((Below.refl _ W).alloc (Nat.le_refl _) _).alloc (by simp) _
  have HX : Hid (Bx W0 N #[.bool false, .slice ra n0 rc, .slice a1 n1 c1, .slice a2 n2 c2, .int .i64 x, .int .i64 y] 50) := by rw [← hW0]; exact (Bx.new' hN _ _).alloc _
  have HR : Hid (Bx W0 (N + 1) #[.bool false, .int .i64 0, .slice none 0 0] 52) := by rw [← hW0]; exact Bx.new' (by simp [hN]) _ _
  have HB0 : Hid (Below W.heap.size W W0) := hb0
  have kr := (Dm.refsize_any _ _ _ (H1.out.kept (Kept.of_below hb0)).sr)
  rw [hsz] at kr
  obtain ⟨b1, off1, hra, hlo, hcl⟩ : ∃ b1 off1, ra = some ⟨b1, off1, none⟩ ∧ b1 < W0.heap.size ∧ W0.cell? ⟨b1, off1, none⟩ = some (.int .i64 (Dm.lo d.r 0)) := by
    obtain ⟨a', c', e, hh⟩ := (H1.out.kept (Kept.of_below hb0))
    injection e with e1 e2 e3
    obtain ⟨b1, off1, q1, q2, _, q3⟩ := hh hpos
    refine ⟨b1, off1, by rw [e1, q1], q2, ?_⟩
    have := (q3 0 hpos).1
    simpa using this
  subst hra
  have hn0 : (0 : Int) < (n0 : Int) := by omega
  have HW0 : Hid _ := hW0
  have HN : Hid (W.heap.size = N) := hN
  generalize Dm.lo d.r 0 = lo0 at *
  clear h h0 hr h1 hs hsz HE H1 H2 H3 hW0 hb0 hn hpos
  obtain ⟨z0, z1, z2, z3, z4, z5⟩ := HX.out.six
  go_enter Tryz.func35, Tryz.ntmps35
  go_upto_region 1 with (fail)
  rw [HW0.out]
  clear hN
  go_wp2_with fail
  refine kr.mono ?_
  clear kr z0 z1 z2 z3 z4 z5
  rintro e w1 ⟨rfl, hb1⟩
  have HRx : Hid (Bx w1 (N + 1) _ _) := HR.out.below hb1
  have HBL : Hid (Below W.heap.size W w1) := HB0.out.trans (hb1.mono HB0.out.size)
  have hcl1 : w1.cell? ⟨b1, off1, none⟩ = some (.int .i64 lo0) := (hb1.cell (p := ⟨b1, _, none⟩) hlo).trans hcl
  obtain ⟨z0, z1, z2, z3, z4, z5⟩ := (HX.out.below hb1).six
  clear hb1 hcl hlo
  obtain ⟨x0, x1, x2⟩ := HRx.out.three
  have f0 := HRx.out.fr 0
  have f1 := HRx.out.fr 1
  have f2 := HRx.out.fr 2
  have HZX := HRx.out.set3 (.bool false) (.int .i64 lo0) (.slice none 0 0)
  go_wp2
  refine ⟨rfl, _, res_ct rfl _ HZX (by with_unfolding_all rfl) rfl Tryz.underlying52 (by kernel_rfl) (v := .bool true) (by with_unfolding_all rfl), _, _, _, _, _, rfl, ?_⟩
  have hle : W.heap.size ≤ N + 1 := by rw [HN.out]; omega
  exact ((HBL.out.setCell (p := ⟨N + 1, 0, none⟩) hle _).setCell (p := ⟨N + 1, 1, none⟩) hle _).setCell (p := ⟨N + 1, 2, none⟩) hle _
theorem value_yes {X : Nat → Prop} {W : World} {c : List Value} {d : MD} (h : Dc X W c d) (hr : rightM d = true) (h1 : sizA d = 1) : Calls Tryz.prog 35 #[.agg c.toArray] W fun e w' => ∃ (b : Bool) (n : Int) (p : Option Addr) (l k : Nat), e = .returned (.tuple #[.agg #[.bool b, .int .i64 n, .slice p l k], .bool true]) ∧ Below W.heap.size W w' := by
  cases hs : d.set
  · exact value_n h hr h1 hs
  · exact value_s h hr h1 hs
end Go.Proofs.YthkliicmoandmaaGreatDoor
