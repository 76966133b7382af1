/-
  What is proved here: a domain that lies within another one: both of the two is the first one; what a decision leaves lies within and is smaller (mathematics alone).
  What is proved here: the reference: is a domain empty; what is in two; made tight; does one lie within another one.
-/
import Derived.Test.YtghnfnieppfhgaaGreatBsj
import Derived.Test.YtghnfnieppfhgaaGreatZJaj
import Derived.Test.YtghnfnieppfhgaaGreatYTbj
import Derived.Test.YtghnfnieppfhgaaGreatAa
import Derived.Test.YtghnfnieppfhgaaGreatYUc
import Derived.OrdersHeld
import Derived.OrdersIn
import Derived.Test.YtghnfnieppfhgaaGreatYSfj
import Derived.Deep.MidRow
import Derived.Test.YtghnfnieppfhgaaGreatYNbj
import Derived.Great.BuildSlice
import Derived.Test.YtghnfnieppfhgaaGreatYTd
namespace Go.Proofs.YtghnfnieppfhgaaGreat
open Go.RowKit Go.Shelf
set_option linter.unusedVariables false
set_option linter.unusedSimpArgs false

/-- A domain of sets whose bounds lie within another one's. -/
structure LeD (a b : St.SD) : Prop where
  lo : ∀ x ∈ b.lo, x ∈ a.lo
  up : ∀ x ∈ a.up, x ∈ b.up
  least : b.least ≤ a.least
  most : a.most ≤ b.most
theorem LeD.refl (a : St.SD) : LeD a a := ⟨fun _ h => h, fun _ h => h, Int.le_refl _, Int.le_refl _⟩
theorem LeD.trans {a b c : St.SD} (h : LeD a b) (k : LeD b c) : LeD a c := ⟨fun x hx => h.lo x (k.lo x hx), fun x hx => k.up x (h.up x hx), Int.le_trans k.least h.least, Int.le_trans h.most k.most⟩
theorem tight_le {lo up : List Int} {least most : Int} {B : St.SD} (h1 : St.IsSet lo) (h2 : St.IsSet up) (hs : ∀ x ∈ lo, x ∈ up) (hne : St.emptyD (St.tightD lo up least most) = false) (hlo : ∀ x ∈ B.lo, x ∈ lo) (hup : ∀ x ∈ up, x ∈ B.up) (hl : B.least ≤ least) (hm : most ≤ B.most) : LeD (St.tightD lo up least most) B := by
  rcases St.tight_cases2 least most h1 h2 hs with ⟨e, a⟩ | ⟨e, a, b⟩ | ⟨e, a, b, c⟩ | ⟨e, a, b, c, f⟩
  · rw [e, St.empty_none] at hne; cases hne
  · rw [e]
    refine ⟨fun x hx => hs x (hlo x hx), hup, ?_, ?_⟩
    · show B.least ≤ (up.length : Int); omega
    · show (up.length : Int) ≤ B.most; omega
  · rw [e]
    refine ⟨hlo, fun x hx => hup x (hs x hx), ?_, ?_⟩
    · show B.least ≤ (lo.length : Int); omega
    · show (lo.length : Int) ≤ B.most; omega
  · rw [e]
    refine ⟨hlo, hup, ?_, ?_⟩
    · show B.least ≤ max least (lo.length : Int); omega
    · show min most (up.length : Int) ≤ B.most; omega
theorem taken_not {s : St.SD} (h : St.emptyD s = false) : St.emptyD (St.takenD s) = false := by
  have h1 := St.taken_le h
  have h2 := St.taken_right s
  unfold St.emptyD St.rightD
  simp only [Bool.or_eq_false_iff, Bool.not_eq_false', decide_eq_true_eq, decide_eq_false_iff_not]
  exact ⟨h2, by omega⟩
/-- One domain lies within another one. -/
def LeA (a b : MD) : Prop := a.set = b.set ∧ (if a.set then LeD (St.takenD (sdM a)) (St.takenD (sdM b)) else ∀ x ∈ Dm.vals (Dm.tk a.r), x ∈ Dm.vals (Dm.tk b.r))
theorem LeA.refl (a : MD) : LeA a a := ⟨rfl, by split; exact LeD.refl _; exact fun _ h => h⟩
theorem LeA.trans {a b c : MD} (h : LeA a b) (k : LeA b c) : LeA a c := by
  refine ⟨h.1.trans k.1, ?_⟩
  have h2 := h.2
  have k2 := k.2
  rw [← h.1] at k2
  split
  · rename_i hs; rw [if_pos hs] at h2 k2; exact h2.trans k2
  · rename_i hs; rw [if_neg hs] at h2 k2; exact fun x hx => k2 x (h2 x hx)
theorem both_num {a b : MD} (ha : Dm.Right a.r) (hs : a.set = false) (h : LeA a b) : Dm.bothR a.r b.r = a.r := by
  have h2 := h.2
  rw [if_neg (by rw [hs]; decide)] at h2
  have hb := Dm.tk_right b.r
  obtain ⟨f1, f2⟩ := Dm.ov_facts (Dm.right_ord (Dm.tk_right a.r)).1 (Dm.right_ord hb).1
  have e : Dm.ov (Dm.tk a.r) (Dm.tk b.r) = Dm.tk a.r := Dm.ord_ext f1 (Dm.right_ord (Dm.tk_right a.r)).1 fun v => by rw [f2]; exact ⟨fun q => q.1, fun q => ⟨q, h2 v q⟩⟩
  unfold Dm.bothR
  rw [e, Dm.tk_yes ha]
  split <;> rfl
end Go.Proofs.YtghnfnieppfhgaaGreat


namespace Go.Proofs.YtghnfnieppfhgaaGreat
open Go.RowKit Go.Shelf
set_option linter.unusedVariables false
set_option linter.unusedSimpArgs false

/-- What is in two domains, by the reference. -/
def rbM (a b : MD) : MD := if a.set then ofSD (St.rbothD (sdM a) (sdM b)) else ⟨false, Dm.bothR a.r b.r, [], [], 0, 0⟩

set_option maxRecDepth 100000 in
set_option maxHeartbeats 4000000 in
theorem rbothr_s {X Y : Nat → Prop} {W : World} {c k : List Value} {d o : MD} (h : Dc X W c d) (ho : Dc Y W k o) (hs : d.set = true) : Calls Tryz.prog 24 #[.agg c.toArray, .agg k.toArray] W fun e w' => ∃ q : List Value, e = .returned (.agg q.toArray) ∧ Ans W.heap.size w' q (rbM d o) ∧ Below W.heap.size W w' := by
  obtain ⟨N, hN⟩ : ∃ N, W.heap.size = N := ⟨_, rfl⟩
  have h0 := h
  have ho0 := ho
  obtain ⟨b, ra, n0, rc, a1, n1, c1, a2, n2, c2, x, y, rfl, HE, H1, H2, H3⟩ := h.look
  obtain rfl : b = true := by rw [← HE.out.1, hs]
  obtain ⟨B, rA, m0, rC, A1, m1, C1, A2, m2, C2, X1, Y1, rfl, HE', H1', H2', H3'⟩ := ho.look
  obtain ⟨W0, hW0⟩ : ∃ Q, ((W.alloc (Obj.cells #[.bool true, .slice ra n0 rc, .slice a1 n1 c1, .slice a2 n2 c2, .int .i64 x, .int .i64 y] 37)).alloc (Obj.cells #[.bool B, .slice rA m0 rC, .slice A1 m1 C1, .slice A2 m2 C2, .int .i64 X1, .int .i64 Y1] 37)).alloc (Obj.cells #[.bool false, .slice none 0 0, .slice none 0 0, .slice none 0 0, .int .i64 0, .int .i64 0] 37) = Q := ⟨_, rfl⟩
  have hb0 : Below W.heap.size W W0 := by rw [← hW0]; exact (((Below.refl _ W).alloc (Nat.le_refl _) _).alloc (by simp) _).alloc (by simp; omega) _
  have HX : Hid (Bx W0 N #[.bool true, .slice ra n0 rc, .slice a1 n1 c1, .slice a2 n2 c2, .int .i64 x, .int .i64 y] 37) := by rw [← hW0]; exact ((Bx.new' hN _ _).alloc _).alloc _
  have HY : Hid (Bx W0 (N + 1) #[.bool B, .slice rA m0 rC, .slice A1 m1 C1, .slice A2 m2 C2, .int .i64 X1, .int .i64 Y1] 37) := by rw [← hW0]; exact (Bx.new' (by simp [hN]) _ _).alloc _
  have HR : Hid (Bx W0 (N + 1 + 1) #[.bool false, .slice none 0 0, .slice none 0 0, .slice none 0 0, .int .i64 0, .int .i64 0] 37) := by rw [← hW0]; exact Bx.new' (by simp [hN]) _ _
  have HS0 : Hid (W0.heap.size = N + 3) := by unfold Hid; rw [← hW0]; simp [hN]
  have HB0 : Hid (Below W.heap.size W W0) := hb0
  have kr := St.refboth_any _ _ (sdM d) (sdM o) W0 (h0.below hb0).di (ho0.below hb0).di
  have HM : Hid (rbM d o = ofSD (St.rbothD (sdM d) (sdM o))) := by unfold Hid rbM; rw [hs]; rfl
  have HW0 : Hid _ := hW0
  have HN : Hid (W.heap.size = N) := hN
  clear h h0 hs HE H1 H2 H3 hW0 ho ho0 HE' H1' H2' H3' hb0
  obtain ⟨z0, z1, z2, z3, z4, z5⟩ := HX.out.six
  obtain ⟨y0, y1, y2, y3, y4, y5⟩ := HY.out.six
  rw [HM.out, hN]
  go_enter Tryz.func24, Tryz.ntmps24
  go_upto_region 1 with (fail)
  rw [HW0.out]
  clear hN
  go_wp2_with fail
  refine kr.mono ?_
  clear kr
  rintro e w1 ⟨v', rfl, hv, hb1⟩
  obtain ⟨q, rfl, hA⟩ := dv_ans hv
  have HRx := hid (HR.out.below hb1)
  have hsz : N + 3 ≤ w1.heap.size := by have := hb1.size; have := HS0.out; omega
  have HANS : Hid (Ans W0.heap.size w1 q (ofSD (St.rbothD (sdM d) (sdM o)))) := hA
  have HBL : Hid (Below N W w1) := by rw [← HN.out]; exact HB0.out.trans (hb1.mono HB0.out.size)
  have hs0 := HS0.out
  clear hA hv hb1
  go_wp2_with (with_reducible refine stD rfl (.tmp 4) (.tmp 9) rfl (N + 1 + 1) q (by with_unfolding_all rfl) (by with_unfolding_all rfl) HRx.out rfl HANS.out.one.1 HANS.out.one.2 ?_)
  refine ⟨rfl, _, resD rfl _ (HRx.out.setRow _) HANS.out.one.1 (by with_unfolding_all rfl), q, rfl, (HANS.out.setRow (by omega) _).less (by omega), ?_⟩
  exact below_row HBL.out (by omega) _

set_option maxRecDepth 100000 in
set_option maxHeartbeats 4000000 in
theorem rbothr_n {X Y : Nat → Prop} {W : World} {c k : List Value} {d o : MD} (h : Dc X W c d) (ho : Dc Y W k o) (hs : d.set = false) : Calls Tryz.prog 24 #[.agg c.toArray, .agg k.toArray] W fun e w' => ∃ q : List Value, e = .returned (.agg q.toArray) ∧ Ans W.heap.size w' q (rbM d o) ∧ Below W.heap.size W w' := by
  obtain ⟨N, hN⟩ : ∃ N, W.heap.size = N := ⟨_, rfl⟩
  have h0 := h
  have ho0 := ho
  obtain ⟨b, ra, n0, rc, a1, n1, c1, a2, n2, c2, x, y, rfl, HE, H1, H2, H3⟩ := h.look
  obtain rfl : b = false := by rw [← HE.out.1, hs]
  obtain ⟨B, rA, m0, rC, A1, m1, C1, A2, m2, C2, X1, Y1, rfl, HE', H1', H2', H3'⟩ := ho.look
  obtain ⟨W0, hW0⟩ : ∃ Q, ((W.alloc (Obj.cells #[.bool false, .slice ra n0 rc, .slice a1 n1 c1, .slice a2 n2 c2, .int .i64 x, .int .i64 y] 37)).alloc (Obj.cells #[.bool B, .slice rA m0 rC, .slice A1 m1 C1, .slice A2 m2 C2, .int .i64 X1, .int .i64 Y1] 37)).alloc (Obj.cells #[.bool false, .slice none 0 0, .slice none 0 0, .slice none 0 0, .int .i64 0, .int .i64 0] 37) = Q := ⟨_, rfl⟩
  have hb0 : Below W.heap.size W W0 := by rw [← hW0]; exact (((Below.refl _ W).alloc (Nat.le_refl _) _).alloc (by simp) _).alloc (by simp; omega) _
  have HX : Hid (Bx W0 N #[.bool false, .slice ra n0 rc, .slice a1 n1 c1, .slice a2 n2 c2, .int .i64 x, .int .i64 y] 37) := by rw [← hW0]; exact ((Bx.new' hN _ _).alloc _).alloc _
  have HY : Hid (Bx W0 (N + 1) #[.bool B, .slice rA m0 rC, .slice A1 m1 C1, .slice A2 m2 C2, .int .i64 X1, .int .i64 Y1] 37) := by rw [← hW0]; exact (Bx.new' (by simp [hN]) _ _).alloc _
  have HR : Hid (Bx W0 (N + 1 + 1) #[.bool false, .slice none 0 0, .slice none 0 0, .slice none 0 0, .int .i64 0, .int .i64 0] 37) := by rw [← hW0]; exact Bx.new' (by simp [hN]) _ _
  have HS0 : Hid (W0.heap.size = N + 3) := by unfold Hid; rw [← hW0]; simp [hN]
  have HB0 : Hid (Below W.heap.size W W0) := hb0
  have kr := Dm.refboth_tk _ _ d.r o.r W0 (H1.out.kept (Kept.of_below hb0)).sr (H1'.out.kept (Kept.of_below hb0)).sr
  have HM : Hid (rbM d o = (⟨false, Dm.bothR d.r o.r, [], [], 0, 0⟩ : MD)) := by unfold Hid rbM; rw [hs]; rfl
  have HW0 : Hid _ := hW0
  have HN : Hid (W.heap.size = N) := hN
  clear h h0 hs HE H1 H2 H3 hW0 ho ho0 HE' H1' H2' H3' hb0
  obtain ⟨z0, z1, z2, z3, z4, z5⟩ := HX.out.six
  obtain ⟨y0, y1, y2, y3, y4, y5⟩ := HY.out.six
  rw [HM.out, hN]
  go_enter Tryz.func24, Tryz.ntmps24
  go_upto_region 1 with (fail)
  rw [HW0.out]
  clear hN
  go_wp2_with fail
  refine kr.mono ?_
  clear kr
  rintro e w1 ⟨s', rfl, hv, hb1⟩
  obtain ⟨pp, cc, rfl, _, _⟩ := Dm.own_shape hv
  have hA := rng_ans hv
  obtain ⟨q, hq⟩ : ∃ q : List Value, [.bool false, .slice pp (Dm.bothR d.r o.r).length cc, .slice none 0 0, .slice none 0 0, .int .i64 0, .int .i64 0] = q := ⟨_, rfl⟩
  have HQ : Hid _ := hq
  rw [hq] at hA
  have HRx := hid (HR.out.below hb1)
  have hsz : N + 3 ≤ w1.heap.size := by have := hb1.size; have := HS0.out; omega
  have HANS : Hid (Ans W0.heap.size w1 q ((⟨false, Dm.bothR d.r o.r, [], [], 0, 0⟩ : MD))) := hA
  have HBL : Hid (Below N W w1) := by rw [← HN.out]; exact HB0.out.trans (hb1.mono HB0.out.size)
  have hs0 := HS0.out
  clear hA hv hb1
  go_wp2_with (with_reducible refine stD rfl (.tmp 4) (.tmp 15) rfl (N + 1 + 1) q (by with_unfolding_all rfl) (by rw [← HQ.out]; with_unfolding_all rfl) HRx.out rfl HANS.out.one.1 HANS.out.one.2 ?_)
  refine ⟨rfl, _, resD rfl _ (HRx.out.setRow _) HANS.out.one.1 (by with_unfolding_all rfl), q, rfl, (HANS.out.setRow (by omega) _).less (by omega), ?_⟩
  exact below_row HBL.out (by omega) _
theorem rbothr_d {X Y : Nat → Prop} {W : World} {c k : List Value} {d o : MD} (h : Dc X W c d) (ho : Dc Y W k o) : Calls Tryz.prog 24 #[.agg c.toArray, .agg k.toArray] W fun e w' => ∃ q : List Value, e = .returned (.agg q.toArray) ∧ Ans W.heap.size w' q (rbM d o) ∧ Below W.heap.size W w' := by
  cases hs : d.set
  · exact rbothr_n h ho hs
  · exact rbothr_s h ho hs
end Go.Proofs.YtghnfnieppfhgaaGreat

