/-
  What is proved here: what packages kinds and store make of any domain: empty, with, narrower, tight, Same.
-/
import Derived.Test.YtghnfnieppfhgaaGreatBsj
import Derived.Test.YtghnfnieppfhgaaGreatKaj
import Derived.Test.YtghnfnieppfhgaaGreatYOl
import Derived.Test.YtghnfnieppfhgaaGreatYOk
import Derived.Test.YtghnfnieppfhgaaGreatKgj
namespace Go.Proofs.YtghnfnieppfhgaaGreat
open Go.RowKit Go.Shelf
set_option linter.unusedVariables false
set_option linter.unusedSimpArgs false

/-- What is in both of two domains of one kind. -/
def bothA (a b : MD) : MD := if a.set then ofSD (St.bothD (sdM a) (sdM b)) else bothW a b
/-- Have they the same values? -/
def sameA (a b : MD) : Bool := if a.set then St.sameD (sdM a) (sdM b) else decide (Dm.tk a.r = Dm.tk b.r)

set_option maxRecDepth 100000 in
set_option maxHeartbeats 4000000 in
theorem emptiness_d {X : Nat → Prop} {W : World} {c : List Value} {d : MD} (h : Dc X W c d) :
    Calls Tryz.prog 32 #[.agg c.toArray] W fun e w' => e = .returned (.int .i64 (emptI (emptyA d))) ∧ Below W.heap.size W w' := by
  have hc := h
  obtain ⟨b, ra, n0, rc, a1, n1, c1, a2, n2, c2, x, y, rfl, HE, H1, H2, H3⟩ := h.look
  clear h
  obtain ⟨W0, hW0⟩ : ∃ Q, W.alloc (Obj.cells #[.bool b, .slice ra n0 rc, .slice a1 n1 c1, .slice a2 n2 c2, .int .i64 x, .int .i64 y] 37) = Q := ⟨_, rfl⟩
  have hb0 : Below W.heap.size W W0 := by rw [← hW0]; exact (Below.refl _ W).alloc (Nat.le_refl _) _
  have HB0 : Hid (Bx W0 W.heap.size #[.bool b, .slice ra n0 rc, .slice a1 n1 c1, .slice a2 n2 c2, .int .i64 x, .int .i64 y] 37) := by rw [← hW0]; exact Bx.new _ _ _
  have ke := empty_d (hc.below hb0)
  have HW0 : Hid _ := hW0
  clear hW0 hc
  cases hM : emptyA d
  all_goals
    rw [hM] at ke
    clear hM
    go_enter Tryz.func32, Tryz.ntmps32
    go_wp2_with fail
    rw [HW0.out]
    refine ke.mono ?_
    rintro e w1 ⟨rfl, hb1⟩
    go_wp2
    go_ret
    exact ⟨ret_int (by rfl), hb0.trans (hb1.mono hb0.size)⟩

set_option maxRecDepth 100000 in
set_option maxHeartbeats 4000000 in
theorem with_s {X Y : Nat → Prop} {W : World} {c k : List Value} {d o : MD} (h : Dc X W c d) (h' : Dc Y W k o) (hs : d.set = true) :
    Calls Tryz.prog 73 #[.agg c.toArray, .agg k.toArray] W fun e w' => ∃ q : List Value, e = .returned (.agg q.toArray) ∧ Ans W.heap.size w' q (ofSD (St.bothD (sdM d) (sdM o))) ∧ Below W.heap.size W w' := by
  obtain ⟨N, hN⟩ : ∃ N, W.heap.size = N := ⟨_, rfl⟩
  have h0 := h
  have h0' := h'
  obtain ⟨b, ra, n0, rc, a1, n1, c1, a2, n2, c2, x, y, rfl, HE, H1, H2, H3⟩ := h.look
  obtain ⟨b', ra', n0', rc', a1', n1', c1', a2', n2', c2', x', y', rfl, HE', H1', H2', H3'⟩ := h'.look
  obtain ⟨W0, hW0⟩ : ∃ Q, ((W.alloc (Obj.cells #[.bool b, .slice ra n0 rc, .slice a1 n1 c1, .slice a2 n2 c2, .int .i64 x, .int .i64 y] 100)).alloc (Obj.cells #[.bool b', .slice ra' n0' rc', .slice a1' n1' c1', .slice a2' n2' c2', .int .i64 x', .int .i64 y'] 37)).alloc (Obj.cells #[.bool false, .slice none 0 0, .slice none 0 0, .slice none 0 0, .int .i64 0, .int .i64 0] 37) = Q := ⟨_, rfl⟩
  have hb0 : Below W.heap.size W W0 := by rw [← hW0]; exact (((Below.refl _ W).alloc (Nat.le_refl _) _).alloc (by simp) _).alloc (by simp; omega) _
  have HX : Hid (Bx W0 N #[.bool b, .slice ra n0 rc, .slice a1 n1 c1, .slice a2 n2 c2, .int .i64 x, .int .i64 y] 100) := by rw [← hW0]; exact ((Bx.new' hN _ _).alloc _).alloc _
  have HY : Hid (Bx W0 (N + 1) #[.bool b', .slice ra' n0' rc', .slice a1' n1' c1', .slice a2' n2' c2', .int .i64 x', .int .i64 y'] 37) := by rw [← hW0]; exact (Bx.new' (by simp [hN]) _ _).alloc _
  have HR : Hid (Bx W0 (N + 1 + 1) #[.bool false, .slice none 0 0, .slice none 0 0, .slice none 0 0, .int .i64 0, .int .i64 0] 37) := by rw [← hW0]; exact Bx.new' (by simp [hN]) _ _
  have HS0 : Hid (W0.heap.size = N + 3) := by unfold Hid; rw [← hW0]; simp [hN]
  have HB0 : Hid (Below W.heap.size W W0) := hb0
  have kr := St.both_dom _ _ (sdM d) (sdM o) W0 (h0.below hb0).di (h0'.below hb0).di
  have HW0 : Hid _ := hW0
  have HN : Hid (W.heap.size = N) := hN
  clear h h0 hs HE H1 H2 H3 hW0 h' h0' HE' H1' H2' H3' hb0
  obtain ⟨z0, z1, z2, z3, z4, z5⟩ := HX.out.six
  obtain ⟨y0, y1, y2, y3, y4, y5⟩ := HY.out.six
  rw [hN]
  go_enter Tryz.func73, Tryz.ntmps73
  go_upto_region 1 with (fail)
  rw [HW0.out]
  clear hN
  go_wp2_with fail
  refine kr.mono ?_
  clear kr
  rintro e w1 ⟨v', rfl, hv, hb1⟩
  obtain ⟨q, rfl, hA⟩ := dv_ans hv
  have HRx : Hid (Bx w1 (N + 1 + 1) _ _) := HR.out.below hb1
  have hsz : N + 3 ≤ w1.heap.size := by have := hb1.size; have := HS0.out; omega
  have HANS : Hid (Ans W0.heap.size w1 q (ofSD (St.bothD (sdM d) (sdM o)))) := hA
  have HBL : Hid (Below N W w1) := by rw [← HN.out]; exact HB0.out.trans (hb1.mono HB0.out.size)
  have hs0 := HS0.out
  clear hA hv hb1
  go_wp2_with (with_reducible refine stD rfl (.tmp 4) (.tmp 7) rfl (N + 1 + 1) q (by with_unfolding_all rfl) (by with_unfolding_all rfl) HRx.out rfl HANS.out.one.1 HANS.out.one.2 ?_)
  refine ⟨rfl, _, resD rfl _ (HRx.out.setRow _) HANS.out.one.1 (by with_unfolding_all rfl), q, rfl, (HANS.out.setRow (by omega) _).less (by omega), ?_⟩
  exact below_row HBL.out (by omega) _

set_option maxRecDepth 100000 in
set_option maxHeartbeats 4000000 in
theorem narrower_s {X : Nat → Prop} {W : World} {c : List Value} {d : MD} (h : Dc X W c d) (hs : d.set = true) :
    Calls Tryz.prog 49 #[.agg c.toArray] W fun e w' => e = .returned (.func (.func 73) #[.agg c.toArray] #[]) ∧ Below W.heap.size W w' := by
  obtain ⟨b, ra, n0, rc, a1, n1, c1, a2, n2, c2, x, y, rfl, HE, H1, H2, H3⟩ := h.look
  clear h
  obtain rfl : b = true := by rw [← HE.out.1, hs]
  clear H1 H2 H3 HE hs
  go_enter Tryz.func49, Tryz.ntmps49
  go_wp2
  go_ret
  exact ⟨rfl, (Below.refl _ W).alloc (Nat.le_refl _) _⟩

set_option maxRecDepth 100000 in
set_option maxHeartbeats 4000000 in
theorem same_s {X Y : Nat → Prop} {W : World} {c k : List Value} {d o : MD} (h : Dc X W c d) (h' : Dc Y W k o) (hs : d.set = true) :
    Calls Tryz.prog 50 #[.agg c.toArray, .agg k.toArray] W fun e w' => e = .returned (.bool (St.sameD (sdM d) (sdM o))) ∧ Below W.heap.size W w' := by
  obtain ⟨N, hN⟩ : ∃ N, W.heap.size = N := ⟨_, rfl⟩
  have h0 := h
  have h0' := h'
  obtain ⟨b, ra, n0, rc, a1, n1, c1, a2, n2, c2, x, y, rfl, HE, H1, H2, H3⟩ := h.look
  obtain rfl : b = true := by rw [← HE.out.1, hs]
  obtain ⟨b', ra', n0', rc', a1', n1', c1', a2', n2', c2', x', y', rfl, HE', H1', H2', H3'⟩ := h'.look
  obtain ⟨W0, hW0⟩ : ∃ Q, (W.alloc (Obj.cells #[.bool true, .slice ra n0 rc, .slice a1 n1 c1, .slice a2 n2 c2, .int .i64 x, .int .i64 y] 37)).alloc (Obj.cells #[.bool b', .slice ra' n0' rc', .slice a1' n1' c1', .slice a2' n2' c2', .int .i64 x', .int .i64 y'] 37) = Q := ⟨_, rfl⟩
  have hb0 : Below W.heap.size W W0 := by rw [← hW0]; exact ((Below.refl _ W).alloc (Nat.le_refl _) _).alloc (by simp) _
  have HX : Hid (Bx W0 N #[.bool true, .slice ra n0 rc, .slice a1 n1 c1, .slice a2 n2 c2, .int .i64 x, .int .i64 y] 37) := by rw [← hW0]; exact (Bx.new' hN _ _).alloc _
  have HY : Hid (Bx W0 (N + 1) #[.bool b', .slice ra' n0' rc', .slice a1' n1' c1', .slice a2' n2' c2', .int .i64 x', .int .i64 y'] 37) := by rw [← hW0]; exact Bx.new' (by simp [hN]) _ _
  have HB0 : Hid (Below W.heap.size W W0) := hb0
  have kr := St.same_dom _ _ (sdM d) (sdM o) W0 (h0.below hb0).di (h0'.below hb0).di
  have HW0 : Hid _ := hW0
  clear h h0 hs HE H1 H2 H3 hW0 h' h0' HE' H1' H2' H3' hb0
  obtain ⟨z0, z1, z2, z3, z4, z5⟩ := HX.out.six
  obtain ⟨y0, y1, y2, y3, y4, y5⟩ := HY.out.six
  generalize St.sameD (sdM d) (sdM o) = q at *
  go_enter Tryz.func50, Tryz.ntmps50
  go_upto_region 1 with (fail)
  rw [HW0.out]
  clear hN
  go_wp2_with fail
  refine kr.mono ?_
  clear kr
  rintro e w1 ⟨rfl, hb1⟩
  go_wp2
  go_ret
  exact ⟨rfl, HB0.out.trans (hb1.mono HB0.out.size)⟩
theorem same_d {X Y : Nat → Prop} {W : World} {c k : List Value} {d o : MD} (h : Dc X W c d) (h' : Dc Y W k o) (hk : d.set = o.set) (hf : Dm.FitsR d.r) (hf' : Dm.FitsR o.r) :
    Calls Tryz.prog 50 #[.agg c.toArray, .agg k.toArray] W fun e w' => e = .returned (.bool (sameA d o)) ∧ Below W.heap.size W w' := by
  unfold sameA
  cases hs : d.set
  · exact same_w h h' hs (by rw [← hk]; exact hs) hf hf'
  · exact same_s h h' hs
end Go.Proofs.YtghnfnieppfhgaaGreat
