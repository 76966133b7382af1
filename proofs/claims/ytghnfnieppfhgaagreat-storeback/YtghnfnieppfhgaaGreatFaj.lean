/-
  What is proved here: a domain that lies within another one: both of the two is the first one; what a decision leaves lies within and is smaller (mathematics alone).
  What is proved here: the reference: is a domain empty; what is in two; made tight; does one lie within another one.
-/
import Derived.Test.YtghnfnieppfhgaaGreatCaj
import Derived.Test.YtghnfnieppfhgaaGreatZJaj
import Derived.Test.YtghnfnieppfhgaaGreatYTbj
import Derived.Test.YtghnfnieppfhgaaGreatAa
import Derived.Test.YtghnfnieppfhgaaGreatYUc
import Derived.OrdersHeld
import Derived.OrdersIn
import Derived.Test.YtghnfnieppfhgaaGreatYSfj
import Derived.Deep.MidRow
import Derived.Test.YtghnfnieppfhgaaGreatYNbj
import Derived.Great.BuildSlice
import Derived.Test.YtghnfnieppfhgaaGreatYTd
namespace Go.Proofs.YtghnfnieppfhgaaGreat
open Go.RowKit Go.Shelf
set_option linter.unusedVariables false
set_option linter.unusedSimpArgs false

/-- A domain of sets whose bounds lie within another one's. -/
structure LeD (a b : St.SD) : Prop where
  lo : ∀ x ∈ b.lo, x ∈ a.lo
  up : ∀ x ∈ a.up, x ∈ b.up
  least : b.least ≤ a.least
  most : a.most ≤ b.most
theorem LeD.refl (a : St.SD) : LeD a a := ⟨fun _ h => h, fun _ h => h, Int.le_refl _, Int.le_refl _⟩
theorem LeD.trans {a b c : St.SD} (h : LeD a b) (k : LeD b c) : LeD a c := ⟨fun x hx => h.lo x (k.lo x hx), fun x hx => k.up x (h.up x hx), Int.le_trans k.least h.least, Int.le_trans h.most k.most⟩
theorem tight_le {lo up : List Int} {least most : Int} {B : St.SD} (h1 : St.IsSet lo) (h2 : St.IsSet up) (hs : ∀ x ∈ lo, x ∈ up) (hne : St.emptyD (St.tightD lo up least most) = false) (hlo : ∀ x ∈ B.lo, x ∈ lo) (hup : ∀ x ∈ up, x ∈ B.up) (hl : B.least ≤ least) (hm : most ≤ B.most) : LeD (St.tightD lo up least most) B := by
  rcases St.tight_cases2 least most h1 h2 hs with ⟨e, a⟩ | ⟨e, a, b⟩ | ⟨e, a, b, c⟩ | ⟨e, a, b, c, f⟩
  · rw [e, St.empty_none] at hne; cases hne
  · rw [e]
    refine ⟨fun x hx => hs x (hlo x hx), hup, ?_, ?_⟩
    · show B.least ≤ (up.length : Int); omega
    · show (up.length : Int) ≤ B.most; omega
  · rw [e]
    refine ⟨hlo, fun x hx => hup x (hs x hx), ?_, ?_⟩
    · show B.least ≤ (lo.length : Int); omega
    · show (lo.length : Int) ≤ B.most; omega
  · rw [e]
    refine ⟨hlo, hup, ?_, ?_⟩
    · show B.least ≤ max least (lo.length : Int); omega
    · show min most (up.length : Int) ≤ B.most; omega
theorem taken_not {s : St.SD} (h : St.emptyD s = false) : St.emptyD (St.takenD s) = false := by
  have h1 := St.taken_le h
  have h2 := St.taken_right s
  unfold St.emptyD St.rightD
  simp only [Bool.or_eq_false_iff, Bool.not_eq_false', decide_eq_true_eq, decide_eq_false_iff_not]
  exact ⟨h2, by omega⟩
theorem both_le {a b : St.SD} (h : LeD (St.takenD a) (St.takenD b)) : St.rbothD a b = St.rbothD a a := by
  rw [St.both_same, St.both_same, St.bothD_G, St.bothD_G]
  have hA := St.taken_right a
  have hB := St.taken_right b
  have key : ∀ c, LeD (St.takenD a) c → St.RightD c → St.bothG (St.takenD a) c = St.tightD (St.takenD a).lo (St.takenD a).up (St.takenD a).least (St.takenD a).most := fun c hc hR => by
    have hj : ∀ x ∈ St.joinL (St.takenD a).lo c.lo, x ∈ (St.takenD a).lo := fun x hx => ((St.join_mem _ _ _).1 hx).elim id (hc.lo x)
    have e1 : St.joinL (St.takenD a).lo c.lo = (St.takenD a).lo := St.set_ext (St.join_set hA.2.2.1 hR.2.2.1 hA.2.2.1 hj) hA.2.2.1 fun x => ⟨hj x, fun hx => (St.join_mem _ _ _).2 (.inl hx)⟩
    have e2 : St.meetL (St.takenD a).up c.up = (St.takenD a).up := St.set_ext (St.meet_set hA.2.2.2.1 _) hA.2.2.2.1 fun x => by rw [St.meet_mem]; exact ⟨fun q => q.1, fun q => ⟨q, hc.up x q⟩⟩
    unfold St.bothG
    rw [e1, e2, if_pos hA.2.2.2.2.1, Int.max_eq_left hc.least, Int.min_eq_left hc.most]
  rw [key _ h hB, key _ (LeD.refl _) hA]
/-- One domain lies within another one. -/
def LeA (a b : MD) : Prop := a.set = b.set ∧ (if a.set then LeD (St.takenD (sdM a)) (St.takenD (sdM b)) else ∀ x ∈ Dm.vals (Dm.tk a.r), x ∈ Dm.vals (Dm.tk b.r))
theorem LeA.refl (a : MD) : LeA a a := ⟨rfl, by split; exact LeD.refl _; exact fun _ h => h⟩
theorem LeA.trans {a b c : MD} (h : LeA a b) (k : LeA b c) : LeA a c := by
  refine ⟨h.1.trans k.1, ?_⟩
  have h2 := h.2
  have k2 := k.2
  rw [← h.1] at k2
  split
  · rename_i hs; rw [if_pos hs] at h2 k2; exact h2.trans k2
  · rename_i hs; rw [if_neg hs] at h2 k2; exact fun x hx => k2 x (h2 x hx)
theorem both_num {a b : MD} (ha : Dm.Right a.r) (hs : a.set = false) (h : LeA a b) : Dm.bothR a.r b.r = a.r := by
  have h2 := h.2
  rw [if_neg (by rw [hs]; decide)] at h2
  have hb := Dm.tk_right b.r
  obtain ⟨f1, f2⟩ := Dm.ov_facts (Dm.right_ord (Dm.tk_right a.r)).1 (Dm.right_ord hb).1
  have e : Dm.ov (Dm.tk a.r) (Dm.tk b.r) = Dm.tk a.r := Dm.ord_ext f1 (Dm.right_ord (Dm.tk_right a.r)).1 fun v => by rw [f2]; exact ⟨fun q => q.1, fun q => ⟨q, h2 v q⟩⟩
  unfold Dm.bothR
  rw [e, Dm.tk_yes ha]
  split <;> rfl
end Go.Proofs.YtghnfnieppfhgaaGreat


namespace Go.Proofs.YtghnfnieppfhgaaGreat
open Go.RowKit Go.Shelf
set_option linter.unusedVariables false
set_option linter.unusedSimpArgs false

/-- What is in two domains, by the reference. -/
def rbM (a b : MD) : MD := if a.set then ofSD (St.rbothD (sdM a) (sdM b)) else ⟨false, Dm.bothR a.r b.r, [], [], 0, 0⟩

set_option maxRecDepth 100000 in
set_option maxHeartbeats 4000000 in
theorem rbothr_s {X Y : Nat → Prop} {W : World} {c k : List Value} {d o : MD} (h : Dc X W c d) (ho : Dc Y W k o) (hs : d.set = true) : Calls Tryz.prog 24 #[.agg c.toArray, .agg k.toArray] W fun e w' => ∃ q : List Value, e = .returned (.agg q.toArray) ∧ Ans W.heap.size w' q (rbM d o) ∧ Below W.heap.size W w' := by
  obtain ⟨N, hN⟩ : ∃ N, W.heap.size = N := ⟨_, rfl⟩
  have h0 := h
  have ho0 := ho
  obtain ⟨b, ra, n0, rc, a1, n1, c1, a2, n2, c2, x, y, rfl, HE, H1, H2, H3⟩ := h.look
  obtain rfl : b = true := by rw [← HE.out.1, hs]
  obtain ⟨B, rA, m0, rC, A1, m1, C1, A2, m2, C2, X1, Y1, rfl, HE', H1', H2', H3'⟩ := ho.look
  obtain ⟨W0, hW0⟩ : ∃ Q, ((W.alloc (Obj.cells #[.bool true, .slice ra n0 rc, .slice a1 n1 c1, .slice a2 n2 c2, .int .i64 x, .int .i64 y] 37)).alloc (Obj.cells #[.bool B, .slice rA m0 rC, .slice A1 m1 C1, .slice A2 m2 C2, .int .i64 X1, .int .i64 Y1] 37)).alloc (Obj.cells #[.bool false, .slice none 0 0, .slice none 0 0, .slice none 0 0, .int .i64 0, .int .i64 0] 37) = Q := ⟨_, rfl⟩
  have hb0 : Below W.heap.size W W0 := by rw [← hW0]; exact (((Below.refl _ W).alloc (Nat.le_refl _) _).alloc (by simp) _).alloc (by simp; omega) _
  have HX : Hid (Bx W0 N #[.bool true, .slice ra n0 rc, .slice a1 n1 c1, .slice a2 n2 c2, .int .i64 x, .int .i64 y] 37) := by rw [← hW0]; exact ((Bx.new' hN _ _).alloc _).alloc _
  have HY : Hid (Bx W0 (N + 1) #[.bool B, .slice rA m0 rC, .slice A1 m1 C1, .slice A2 m2 C2, .int .i64 X1, .int .i64 Y1] 37) := by rw [← hW0]; exact (Bx.new' (by simp [hN]) _ _).alloc _
  have HR : Hid (Bx W0 (N + 1 + 1) #[.bool false, .slice none 0 0, .slice none 0 0, .slice none 0 0, .int .i64 0, .int .i64 0] 37) := by rw [← hW0]; exact Bx.new' (by simp [hN]) _ _
  have HS0 : Hid (W0.heap.size = N + 3) := by unfold Hid; rw [← hW0]; simp [hN]
  have HB0 : Hid (Below W.heap.size W W0) := hb0
  have kr := St.refboth_any _ _ (sdM d) (sdM o) W0 (h0.below hb0).di (ho0.below hb0).di
  have HM : Hid (rbM d o = ofSD (St.rbothD (sdM d) (sdM o))) := by unfold Hid rbM; rw [hs]; rfl
  have HW0 : Hid _ := hW0
  have HN : Hid (W.heap.size = N) := hN
  clear h h0 hs HE H1 H2 H3 hW0 ho ho0 HE' H1' H2' H3' hb0
  obtain ⟨z0, z1, z2, z3, z4, z5⟩ := HX.out.six
  obtain ⟨y0, y1, y2, y3, y4, y5⟩ := HY.out.six
  rw [HM.out, hN]
  go_enter Tryz.func24, Tryz.ntmps24
  go_upto_region 1 with (fail)
  rw [HW0.out]
  clear hN
  go_wp2_with fail
  refine kr.mono ?_
  clear kr
  rintro e w1 ⟨v', rfl, hv, hb1⟩
  obtain ⟨q, rfl, hA⟩ := dv_ans hv
  have HRx := hid (HR.out.below hb1)
  have hsz : N + 3 ≤ w1.heap.size := by have := hb1.size; have := HS0.out; omega
  have HANS : Hid (Ans W0.heap.size w1 q (ofSD (St.rbothD (sdM d) (sdM o)))) := hA
  have HBL : Hid (Below N W w1) := by rw [← HN.out]; exact HB0.out.trans (hb1.mono HB0.out.size)
  have hs0 := HS0.out
  clear hA hv hb1
  go_wp2_with (with_reducible refine stD rfl (.tmp 4) (.tmp 9) rfl (N + 1 + 1) q (by with_unfolding_all rfl) (by with_unfolding_all rfl) HRx.out rfl HANS.out.one.1 HANS.out.one.2 ?_)
  refine ⟨rfl, _, resD rfl _ (HRx.out.setRow _) HANS.out.one.1 (by with_unfolding_all rfl), q, rfl, (HANS.out.setRow (by omega) _).less (by omega), ?_⟩
  exact below_row HBL.out (by omega) _

set_option maxRecDepth 100000 in
set_option maxHeartbeats 4000000 in
theorem rbothr_n {X Y : Nat → Prop} {W : World} {c k : List Value} {d o : MD} (h : Dc X W c d) (ho : Dc Y W k o) (hs : d.set = false) : Calls Tryz.prog 24 #[.agg c.toArray, .agg k.toArray] W fun e w' => ∃ q : List Value, e = .returned (.agg q.toArray) ∧ Ans W.heap.size w' q (rbM d o) ∧ Below W.heap.size W w' := by
  obtain ⟨N, hN⟩ : ∃ N, W.heap.size = N := ⟨_, rfl⟩
  have h0 := h
  have ho0 := ho
  obtain ⟨b, ra, n0, rc, a1, n1, c1, a2, n2, c2, x, y, rfl, HE, H1, H2, H3⟩ := h.look
  obtain rfl : b = false := by rw [← HE.out.1, hs]
  obtain ⟨B, rA, m0, rC, A1, m1, C1, A2, m2, C2, X1, Y1, rfl, HE', H1', H2', H3'⟩ := ho.look
  obtain ⟨W0, hW0⟩ : ∃ Q, ((W.alloc (Obj.cells #[.bool false, .slice ra n0 rc, .slice a1 n1 c1, .slice a2 n2 c2, .int .i64 x, .int .i64 y] 37)).alloc (Obj.cells #[.bool B, .slice rA m0 rC, .slice A1 m1 C1, .slice A2 m2 C2, .int .i64 X1, .int .i64 Y1] 37)).alloc (Obj.cells #[.bool false, .slice none 0 0, .slice none 0 0, .slice none 0 0, .int .i64 0, .int .i64 0] 37) = Q := ⟨_, rfl⟩
  have hb0 : Below W.heap.size W W0 := by rw [← hW0]; exact (((Below.refl _ W).alloc (Nat.le_refl _) _).alloc (by simp) _).alloc (by simp; omega) _
  have HX : Hid (Bx W0 N #[.bool false, .slice ra n0 rc, .slice a1 n1 c1, .slice a2 n2 c2, .int .i64 x, .int .i64 y] 37) := by rw [← hW0]; exact ((Bx.new' hN _ _).alloc _).alloc _
  have HY : Hid (Bx W0 (N + 1) #[.bool B, .slice rA m0 rC, .slice A1 m1 C1, .slice A2 m2 C2, .int .i64 X1, .int .i64 Y1] 37) := by rw [← hW0]; exact (Bx.new' (by simp [hN]) _ _).alloc _
  have HR : Hid (Bx W0 (N + 1 + 1) #[.bool false, .slice none 0 0, .slice none 0 0, .slice none 0 0, .int .i64 0, .int .i64 0] 37) := by rw [← hW0]; exact Bx.new' (by simp [hN]) _ _
  have HS0 : Hid (W0.heap.size = N + 3) := by unfold Hid; rw [← hW0]; simp [hN]
  have HB0 : Hid (Below W.heap.size W W0) := hb0
  have kr := Dm.refboth_tk _ _ d.r o.r W0 (H1.out.kept (Kept.of_below hb0)).sr (H1'.out.kept (Kept.of_below hb0)).sr
  have HM : Hid (rbM d o = (⟨false, Dm.bothR d.r o.r, [], [], 0, 0⟩ : MD)) := by unfold Hid rbM; rw [hs]; rfl
  have HW0 : Hid _ := hW0
  have HN : Hid (W.heap.size = N) := hN
  clear h h0 hs HE H1 H2 H3 hW0 ho ho0 HE' H1' H2' H3' hb0
  obtain ⟨z0, z1, z2, z3, z4, z5⟩ := HX.out.six
  obtain ⟨y0, y1, y2, y3, y4, y5⟩ := HY.out.six
  rw [HM.out, hN]
  go_enter Tryz.func24, Tryz.ntmps24
  go_upto_region 1 with (fail)
  rw [HW0.out]
  clear hN
  go_wp2_with fail
  refine kr.mono ?_
  clear kr
  rintro e w1 ⟨s', rfl, hv, hb1⟩
  obtain ⟨pp, cc, rfl, _, _⟩ := Dm.own_shape hv
  have hA := rng_ans hv
  obtain ⟨q, hq⟩ : ∃ q : List Value, [.bool false, .slice pp (Dm.bothR d.r o.r).length cc, .slice none 0 0, .slice none 0 0, .int .i64 0, .int .i64 0] = q := ⟨_, rfl⟩
  have HQ : Hid _ := hq
  rw [hq] at hA
  have HRx := hid (HR.out.below hb1)
  have hsz : N + 3 ≤ w1.heap.size := by have := hb1.size; have := HS0.out; omega
  have HANS : Hid (Ans W0.heap.size w1 q ((⟨false, Dm.bothR d.r o.r, [], [], 0, 0⟩ : MD))) := hA
  have HBL : Hid (Below N W w1) := by rw [← HN.out]; exact HB0.out.trans (hb1.mono HB0.out.size)
  have hs0 := HS0.out
  clear hA hv hb1
  go_wp2_with (with_reducible refine stD rfl (.tmp 4) (.tmp 15) rfl (N + 1 + 1) q (by with_unfolding_all rfl) (by rw [← HQ.out]; with_unfolding_all rfl) HRx.out rfl HANS.out.one.1 HANS.out.one.2 ?_)
  refine ⟨rfl, _, resD rfl _ (HRx.out.setRow _) HANS.out.one.1 (by with_unfolding_all rfl), q, rfl, (HANS.out.setRow (by omega) _).less (by omega), ?_⟩
  exact below_row HBL.out (by omega) _
theorem rbothr_d {X Y : Nat → Prop} {W : World} {c k : List Value} {d o : MD} (h : Dc X W c d) (ho : Dc Y W k o) : Calls Tryz.prog 24 #[.agg c.toArray, .agg k.toArray] W fun e w' => ∃ q : List Value, e = .returned (.agg q.toArray) ∧ Ans W.heap.size w' q (rbM d o) ∧ Below W.heap.size W w' := by
  cases hs : d.set
  · exact rbothr_n h ho hs
  · exact rbothr_s h ho hs
/-- A domain made tight, by the reference. -/
def rtM (a : MD) : MD := if a.set then ofSD (St.rbothD (sdM a) (sdM a)) else a

set_option maxRecDepth 100000 in
set_option maxHeartbeats 4000000 in
theorem rtight_s {X : Nat → Prop} {W : World} {c : List Value} {d : MD} (h : Dc X W c d) (hz : SzD d) (hs : d.set = true) : Calls Tryz.prog 33 #[.agg c.toArray] W fun e w' => ∃ q : List Value, e = .returned (.agg q.toArray) ∧ Dc (fun _ => False) w' q (rtM d) ∧ Below W.heap.size W w' := by
  obtain ⟨N, hN⟩ : ∃ N, W.heap.size = N := ⟨_, rfl⟩
  have h0 := h
  obtain ⟨b, ra, n0, rc, a1, n1, c1, a2, n2, c2, x, y, rfl, HE, H1, H2, H3⟩ := h.look
  obtain rfl : b = true := by rw [← HE.out.1, hs]
  obtain ⟨W0, hW0⟩ : ∃ Q, (W.alloc (Obj.cells #[.bool true, .slice ra n0 rc, .slice a1 n1 c1, .slice a2 n2 c2, .int .i64 x, .int .i64 y] 37)).alloc (Obj.cells #[.bool false, .slice none 0 0, .slice none 0 0, .slice none 0 0, .int .i64 0, .int .i64 0] 37) = Q := ⟨_, rfl⟩
  have hb0 : Below W.heap.size W W0 := by rw [← hW0]; exact ((Below.refl _ W).alloc (Nat.le_refl _) _).alloc (by simp) _
  have HX : Hid (Bx W0 N #[.bool true, .slice ra n0 rc, .slice a1 n1 c1, .slice a2 n2 c2, .int .i64 x, .int .i64 y] 37) := by rw [← hW0]; exact (Bx.new' hN _ _).alloc _
  have HR : Hid (Bx W0 (N + 1) #[.bool false, .slice none 0 0, .slice none 0 0, .slice none 0 0, .int .i64 0, .int .i64 0] 37) := by rw [← hW0]; exact Bx.new' (by simp [hN]) _ _
  have HS0 : Hid (W0.heap.size = N + 2) := by unfold Hid; rw [← hW0]; simp [hN]
  have HB0 : Hid (Below W.heap.size W W0) := hb0
  have kr := St.refboth_any _ _ (sdM d) (sdM d) W0 (h0.below hb0).di (h0.below hb0).di
  have HM : Hid (rtM d = ofSD (St.rbothD (sdM d) (sdM d))) := by unfold Hid rtM; rw [hs]; rfl
  have HW0 : Hid _ := hW0
  have HN : Hid (W.heap.size = N) := hN
  clear h h0 hs HE H1 H2 H3 hW0 hb0 hz
  obtain ⟨z0, z1, z2, z3, z4, z5⟩ := HX.out.six
  rw [HM.out, hN]
  go_enter Tryz.func33, Tryz.ntmps33
  go_upto_region 1 with (fail)
  rw [HW0.out]
  clear hN
  go_wp2_with fail
  refine kr.mono ?_
  clear kr
  rintro e w1 ⟨v', rfl, hv, hb1⟩
  obtain ⟨q, rfl, hA⟩ := dv_ans hv
  have HDC : Hid (Dc (fun b => b = N + 1) w1 q (ofSD (St.rbothD (sdM d) (sdM d)))) := hA.dc _ (fun b hb => by rw [hb, HS0.out]; omega)
  clear hA hv
  have HRx := hid (HR.out.below hb1)
  have HBL : Hid (Below N W w1) := by rw [← HN.out]; exact HB0.out.trans (hb1.mono HB0.out.size)
  clear hb1
  go_wp2_with (with_reducible refine stD rfl (.tmp 2) (.tmp 7) rfl (N + 1) q (by with_unfolding_all rfl) (by with_unfolding_all rfl) HRx.out rfl HDC.out.len HDC.out.one ?_)
  refine ⟨rfl, _, resD rfl _ (HRx.out.setRow _) HDC.out.len (by with_unfolding_all rfl), q, rfl, ?_, ?_⟩
  · have hk : Kept (fun b => b = N + 1) w1 (w1.setRow (N + 1) q.toArray) := ⟨rfl, rfl, rfl, by simp [World.setRow], fun b _ hb => setRow_other _ _ b _ hb⟩
    exact (HDC.out.kept hk).weak
  · exact below_row HBL.out (by omega) _

set_option maxRecDepth 100000 in
set_option maxHeartbeats 4000000 in
theorem rtight_n {X : Nat → Prop} {W : World} {c : List Value} {d : MD} (h : Dc X W c d) (hz : SzD d) (hs : d.set = false) : Calls Tryz.prog 33 #[.agg c.toArray] W fun e w' => ∃ q : List Value, e = .returned (.agg q.toArray) ∧ Dc (fun _ => False) w' q (rtM d) ∧ Below W.heap.size W w' := by
  obtain ⟨N, hN⟩ : ∃ N, W.heap.size = N := ⟨_, rfl⟩
  have h0 := h
  obtain ⟨b, ra, n0, rc, a1, n1, c1, a2, n2, c2, x, y, rfl, HE, H1, H2, H3⟩ := h.look
  obtain rfl : b = false := by rw [← HE.out.1, hs]
  obtain ⟨W0, hW0⟩ : ∃ Q, (W.alloc (Obj.cells #[.bool false, .slice ra n0 rc, .slice a1 n1 c1, .slice a2 n2 c2, .int .i64 x, .int .i64 y] 37)).alloc (Obj.cells #[.bool false, .slice none 0 0, .slice none 0 0, .slice none 0 0, .int .i64 0, .int .i64 0] 37) = Q := ⟨_, rfl⟩
  have hb0 : Below W.heap.size W W0 := by rw [← hW0]; exact ((Below.refl _ W).alloc (Nat.le_refl _) _).alloc (by simp) _
  have HX : Hid (Bx W0 N #[.bool false, .slice ra n0 rc, .slice a1 n1 c1, .slice a2 n2 c2, .int .i64 x, .int .i64 y] 37) := by rw [← hW0]; exact (Bx.new' hN _ _).alloc _
  have HR : Hid (Bx W0 (N + 1) #[.bool false, .slice none 0 0, .slice none 0 0, .slice none 0 0, .int .i64 0, .int .i64 0] 37) := by rw [← hW0]; exact Bx.new' (by simp [hN]) _ _
  have HS0 : Hid (W0.heap.size = N + 2) := by unfold Hid; rw [← hW0]; simp [hN]
  have HB0 : Hid (Below W.heap.size W W0) := hb0
  have kr := lent_z (h0.below hb0) hz
  have HM : Hid (rtM d = d) := by unfold Hid rtM; rw [hs]; rfl
  have HW0 : Hid _ := hW0
  have HN : Hid (W.heap.size = N) := hN
  clear h h0 hs HE H1 H2 H3 hW0 hb0 hz
  obtain ⟨z0, z1, z2, z3, z4, z5⟩ := HX.out.six
  rw [HM.out, hN]
  go_enter Tryz.func33, Tryz.ntmps33
  go_upto_region 1 with (fail)
  rw [HW0.out]
  clear hN
  go_wp2_with fail
  refine kr.mono ?_
  clear kr
  rintro e w1 ⟨q, rfl, hv, hb1⟩
  have HDC : Hid (Dc (fun b => b = N + 1) w1 q (d)) := hv _ (fun b hb => by rw [hb, HS0.out]; omega)
  clear hv
  have HRx := hid (HR.out.below hb1)
  have HBL : Hid (Below N W w1) := by rw [← HN.out]; exact HB0.out.trans (hb1.mono HB0.out.size)
  clear hb1
  go_wp2_with (with_reducible refine stD rfl (.tmp 2) (.tmp 9) rfl (N + 1) q (by with_unfolding_all rfl) (by with_unfolding_all rfl) HRx.out rfl HDC.out.len HDC.out.one ?_)
  refine ⟨rfl, _, resD rfl _ (HRx.out.setRow _) HDC.out.len (by with_unfolding_all rfl), q, rfl, ?_, ?_⟩
  · have hk : Kept (fun b => b = N + 1) w1 (w1.setRow (N + 1) q.toArray) := ⟨rfl, rfl, rfl, by simp [World.setRow], fun b _ hb => setRow_other _ _ b _ hb⟩
    exact (HDC.out.kept hk).weak
  · exact below_row HBL.out (by omega) _
theorem rtight_d {X : Nat → Prop} {W : World} {c : List Value} {d : MD} (h : Dc X W c d) (hz : SzD d) : Calls Tryz.prog 33 #[.agg c.toArray] W fun e w' => ∃ q : List Value, e = .returned (.agg q.toArray) ∧ Dc (fun _ => False) w' q (rtM d) ∧ Below W.heap.size W w' := by
  cases hs : d.set
  · exact rtight_n h hz hs
  · exact rtight_s h hz hs
/-- Where one lies within the other, both is the first one made tight. -/
theorem le_both {a b : MD} (h : LeA a b) (hr : rightM a = true) : rbM a b = rtM a ∧ SzD (rtM a) := by
  cases hs : a.set
  · have hw : rightW a = true := by unfold rightM at hr; rwa [if_neg (by rw [hs]; decide)] at hr
    unfold rightW at hw
    simp only [Bool.and_eq_true, decide_eq_true_eq] at hw
    obtain ⟨⟨⟨⟨w1, w2⟩, w3⟩, w4⟩, w5⟩ := hw
    have hR : Dm.Right a.r := by unfold Dm.rightB at w1; simpa using w1
    have e := both_num hR hs h
    have e1 : a.lo = [] := List.length_eq_zero_iff.1 w2
    have e2 : a.up = [] := List.length_eq_zero_iff.1 w3
    refine ⟨?_, ?_⟩
    · unfold rbM rtM
      rw [if_neg (by rw [hs]; decide), if_neg (by rw [hs]; decide), e]
      obtain ⟨s, r, lo, up, le, mo⟩ := a
      simp only at hs e1 e2 w4 w5
      subst hs e1 e2 w4 w5
      rfl
    · have hl : a.r.length ≤ 4096 := hR.1
      unfold rtM
      rw [if_neg (by rw [hs]; decide)]
      refine ⟨by rw [w2]; decide, by rw [w3]; decide, by omega⟩
  · have h2 := h.2
    rw [if_pos hs] at h2
    have e := both_le h2
    refine ⟨?_, ?_⟩
    · unfold rbM rtM
      rw [if_pos hs, if_pos hs, e]
    · unfold rtM
      rw [if_pos hs, St.both_same, St.bothD_G]
      have hA := St.taken_right (sdM a)
      have hall : St.RightD (St.bothG (St.takenD (sdM a)) (St.takenD (sdM a))) := by
        unfold St.bothG
        split
        · rename_i hsub
          have hsub' := (St.subB_iff _ _).1 hsub
          have hm := St.meet_set hA.2.2.2.1 (St.takenD (sdM a)).up
          exact St.tight_right _ _ (St.join_set hA.2.2.1 hA.2.2.1 hm hsub') hm hsub'
        · exact St.none_right
      refine ⟨?_, ?_, ?_⟩
      · have := hall.2.2.1.1; show (St.bothG _ _).lo.length * 8 ≤ _; omega
      · have := hall.2.2.2.1.1; show (St.bothG _ _).up.length * 8 ≤ _; omega
      · show ([] : List Dm.Rg).length * 16 ≤ _; decide

set_option maxRecDepth 100000 in
set_option maxHeartbeats 4000000 in
theorem within_eq {X Y : Nat → Prop} {W : World} {c k : List Value} {d o : MD} (h : Dc X W c d) (ho : Dc Y W k o) (hz : SzD d) (hset : d.set = o.set) (hle1 : rbM d o = rtM d) (hsz : SzD (rtM d)) : Calls Tryz.prog 20 #[.agg c.toArray, .agg k.toArray] W fun e w' => e = .returned (.bool true) ∧ Below W.heap.size W w' := by
  obtain ⟨N, hN⟩ : ∃ N, W.heap.size = N := ⟨_, rfl⟩
  have h0 := h
  have ho0 := ho
  obtain ⟨b, ra, n0, rc, a1, n1, c1, a2, n2, c2, x, y, rfl, HE, H1, H2, H3⟩ := h.look
  obtain ⟨B, rA, m0, rC, A1, m1, C1, A2, m2, C2, X1, Y1, rfl, HE', H1', H2', H3'⟩ := ho.look
  have hbB : b = B := by rw [← HE.out.1, ← HE'.out.1, hset]
  subst hbB
  obtain ⟨W0, hW0⟩ : ∃ Q, (W.alloc (Obj.cells #[.bool b, .slice ra n0 rc, .slice a1 n1 c1, .slice a2 n2 c2, .int .i64 x, .int .i64 y] 37)).alloc (Obj.cells #[.bool b, .slice rA m0 rC, .slice A1 m1 C1, .slice A2 m2 C2, .int .i64 X1, .int .i64 Y1] 37) = Q := ⟨_, rfl⟩
  have hb0 : Below W.heap.size W W0 := by rw [← hW0]; exact ((Below.refl _ W).alloc (Nat.le_refl _) _).alloc (by simp) _
  have HX : Hid (Bx W0 N #[.bool b, .slice ra n0 rc, .slice a1 n1 c1, .slice a2 n2 c2, .int .i64 x, .int .i64 y] 37) := by rw [← hW0]; exact (Bx.new' hN _ _).alloc _
  have HY : Hid (Bx W0 (N + 1) #[.bool b, .slice rA m0 rC, .slice A1 m1 C1, .slice A2 m2 C2, .int .i64 X1, .int .i64 Y1] 37) := by rw [← hW0]; exact Bx.new' (by simp [hN]) _ _
  have HB0 : Hid (Below W.heap.size W W0) := hb0
  have KB : Hid (∀ w, Below W0.heap.size W0 w → Calls Tryz.prog 24 #[.agg #[.bool b, .slice ra n0 rc, .slice a1 n1 c1, .slice a2 n2 c2, .int .i64 x, .int .i64 y], .agg #[.bool b, .slice rA m0 rC, .slice A1 m1 C1, .slice A2 m2 C2, .int .i64 X1, .int .i64 Y1]] w fun e w' => ∃ q : List Value, e = .returned (.agg q.toArray) ∧ Ans w.heap.size w' q (rtM d) ∧ Below w.heap.size w w') := fun w hb => by
    rw [← hle1]; exact rbothr_d ((h0.below hb0).below hb) ((ho0.below hb0).below hb)
  have KT : Hid (∀ w, Below W0.heap.size W0 w → Calls Tryz.prog 33 #[.agg #[.bool b, .slice ra n0 rc, .slice a1 n1 c1, .slice a2 n2 c2, .int .i64 x, .int .i64 y]] w fun e w' => ∃ q : List Value, e = .returned (.agg q.toArray) ∧ Dc (fun _ => False) w' q (rtM d) ∧ Below w.heap.size w w') := fun w hb => rtight_d ((h0.below hb0).below hb) hz
  have HSZ : Hid (SzD (rtM d)) := hsz
  have HW0 : Hid _ := hW0
  clear h h0 HE H1 H2 H3 hW0 ho ho0 HE' H1' H2' H3' hb0 hz hset hle1 hsz
  have HP0 : Hid (Below W0.heap.size W0 W0.drew) := (Below.refl _ _).drew
  have HN : Hid (W.heap.size = N) := hN
  go_enter Tryz.func20, Tryz.ntmps20
  go_upto_region 1 with (fail)
  rw [HW0.out]
  clear hN
  refine wp_region_held_drew (S := fun X : World => Below W0.heap.size W0 X) (by kernel_rfl) (HP0.out) (fun hHeld => ?_)
  refine tkA 0 ⟨some 5, .fieldAddr 37 (.tmp 2) 0, 0, "ref.go:59", #[], none⟩ hHeld ?_
  try simp only [Act.put, zS, z0, z1]
  refine tkH 1 ⟨some 6, .load 4 (.tmp 5), 4, "ref.go:59", #[⟨0, .data⟩], none⟩ (v := ?_) hHeld ?_ ?_; rotate_left
  · intro w hSw; obtain ⟨z0, z1, z2, z3, z4, z5⟩ := (HX.out.below hSw).six; go_simp <;> with_reducible rfl
  try simp only [Act.put, zS, z0, z1]
  refine tkA 2 ⟨some 7, .fieldAddr 37 (.tmp 3) 0, 0, "ref.go:59", #[], none⟩ hHeld ?_
  try simp only [Act.put, zS, z0, z1]
  refine tkH 3 ⟨some 8, .load 4 (.tmp 7), 4, "ref.go:59", #[⟨2, .data⟩], none⟩ (v := ?_) hHeld ?_ ?_; rotate_left
  · intro w hSw; obtain ⟨z0, z1, z2, z3, z4, z5⟩ := (HY.out.below hSw).six; go_simp <;> with_reducible rfl
  try simp only [Act.put, zS, z0, z1]
  refine tkH 4 ⟨some 9, .binOp .eql 4 (.tmp 6) (.tmp 8) 4, 4, "ref.go:59", #[⟨1, .data⟩, ⟨3, .data⟩], none⟩ (v := .bool true) hHeld ?_ ?_
  skip
  · intro w hSw; go_simp <;> first | done | with_reducible rfl | simp
  try simp only [Act.put, zS, z0, z1]
  refine tkH 5 ⟨some 10, .move (.tmp 9), 4, "ref.go:59", #[⟨4, .data⟩], none⟩ (v := .bool true) hHeld ?_ ?_
  skip
  · intro w hSw; (try dsimp only at hSw); go_simp <;> with_reducible rfl
  try simp only [Act.put, zS, z0, z1]
  refine tkH 6 ⟨some 11, .load 37 (.tmp 2), 37, "ref.go:59", #[⟨5, .guard⟩], some (5, true)⟩ (v := ?_) hHeld ?_ ?_; rotate_left
  · intro w hSw; obtain ⟨z0, z1, z2, z3, z4, z5⟩ := (HX.out.below hSw).six; go_simp <;> with_reducible rfl
  try simp only [Act.put, zS, z0, z1]
  refine tkH 7 ⟨some 12, .load 37 (.tmp 3), 37, "ref.go:59", #[⟨5, .guard⟩], some (5, true)⟩ (v := ?_) hHeld ?_ ?_; rotate_left
  · intro w hSw; obtain ⟨z0, z1, z2, z3, z4, z5⟩ := (HY.out.below hSw).six; go_simp <;> with_reducible rfl
  try simp only [Act.put, zS, z0, z1]
  refine tkH 9 ⟨some 14, .load 37 (.tmp 2), 37, "ref.go:59", #[⟨5, .guard⟩], some (5, true)⟩ (v := ?_) hHeld ?_ ?_; rotate_left
  · intro w hSw; obtain ⟨z0, z1, z2, z3, z4, z5⟩ := (HX.out.below hSw).six; go_simp <;> with_reducible rfl
  try simp only [Act.put, zS, z0, z1]
  refine rdy 8 rfl fun K hK => ?_
  go_simp
  refine (KB.out _ HP0.out).mono ?_
  rintro e u1 ⟨q1, rfl, hA, hbu⟩
  have HP1 := hid (HP0.out.trans (hbu.mono HP0.out.size))
  have HQ1 : Hid (Dc (fun _ => False) u1 q1 (rtM d)) := hA.dc _ (fun _ h => h.elim)
  clear hA hbu
  refine hK.out _ _ (HP1.out) (fun hHeld2 => ?_)
  clear hK K hHeld; have hHeld := hHeld2; clear hHeld2
  try simp only [Act.put, zS, z0, z1]
  refine rdy 10 rfl fun K hK => ?_
  go_simp
  refine (KT.out _ HP1.out).mono ?_
  rintro e u2 ⟨q2, rfl, hA, hbu⟩
  have HP2 := hid (HP1.out.trans (hbu.mono HP1.out.size))
  have HQ2 : Hid (Dc (fun _ => False) u2 q2 (rtM d)) := hA
  have HQ3 := hid (HQ1.out.below hbu)
  clear hA hbu
  refine hK.out _ _ (HP2.out) (fun hHeld2 => ?_)
  clear hK K hHeld; have hHeld := hHeld2; clear hHeld2
  try simp only [Act.put, zS, z0, z1]
  refine rdy 11 rfl fun K hK => ?_
  go_simp
  refine (one_d HQ3.out HQ2.out HSZ.out).mono ?_
  rintro e u3 ⟨rfl, hbu⟩
  have HP3 := hid (HP2.out.trans (hbu.mono HP2.out.size))
  clear hbu
  refine hK.out _ _ (HP3.out) (fun hHeld2 => ?_)
  clear hK K hHeld; have hHeld := hHeld2; clear hHeld2
  try simp only [Act.put, zS, z0, z1]
  refine tkH 12 ⟨some 17, .pick (.tmp 10) (.tmp 16) (.const (.bool false)), 4, "ref.go:59", #[⟨5, .data⟩, ⟨11, .data⟩], none⟩ (v := .bool true) hHeld ?_ ?_
  skip
  · intro w hSw; go_simp <;> first | done | with_reducible rfl | simp
  try simp only [Act.put, zS, z0, z1]
  refine tkA 13 ⟨some 4, .assign (.tmp 17), 4, "ref.go:59", #[⟨12, .data⟩, ⟨11, .chain⟩, ⟨0, .phase⟩, ⟨1, .phase⟩, ⟨2, .phase⟩, ⟨3, .phase⟩, ⟨4, .phase⟩, ⟨5, .phase⟩, ⟨6, .phase⟩, ⟨7, .phase⟩, ⟨8, .phase⟩, ⟨9, .phase⟩, ⟨10, .phase⟩, ⟨11, .phase⟩, ⟨12, .phase⟩], none⟩ hHeld ?_
  try simp only [Act.put, zS, z0, z1]
  refine wpAnyH_done (by kernel_rfl) ?_ _
  go_wp2
  go_ret
  exact ⟨rfl, HB0.out.trans (HP3.out.mono HB0.out.size)⟩
theorem within_yes {X Y : Nat → Prop} {W : World} {c k : List Value} {d o : MD} (h : Dc X W c d) (ho : Dc Y W k o) (hz : SzD d) (hr : rightM d = true) (hle : LeA d o) : Calls Tryz.prog 20 #[.agg c.toArray, .agg k.toArray] W fun e w' => e = .returned (.bool true) ∧ Below W.heap.size W w' :=
  within_eq h ho hz hle.1 (le_both hle hr).1 (le_both hle hr).2
end Go.Proofs.YtghnfnieppfhgaaGreat

