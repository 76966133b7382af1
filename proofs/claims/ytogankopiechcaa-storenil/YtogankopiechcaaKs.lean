/-
  What is proved here: One of two domains of whole numbers that are alike; SameVal of none.
-/
import Derived.Test.YtogankopiechcaaKe
namespace Go.Proofs.Ytogankopiechcaa
open Go.RowKit Go.Shelf
set_option linter.unusedVariables false
set_option linter.unusedSimpArgs false


set_option maxRecDepth 100000 in
set_option maxHeartbeats 4000000 in
theorem same0 (a b : Option Addr) (c d : Nat) (W : World) : Calls Try.prog 28 #[.slice a 0 c, .slice b 0 d] W fun e w' => e = .returned (.bool true) ∧ w' = W := by
  go_enter Try.func28, Try.ntmps28
  go_wp2
  go_loop [5] (fun i => i = .int .i64 0) (fun _ => 0)
  case atStart => rfl
  case round =>
    obtain rfl := hrel
    go_wp2
    go_ret
    exact ⟨rfl, rfl⟩

set_option maxRecDepth 100000 in
set_option maxHeartbeats 4000000 in
theorem sameval0 (W : World) : Calls Try.prog 9 #[.agg #[.bool false, .int .i64 0, .slice none 0 0], .agg #[.bool false, .int .i64 0, .slice none 0 0]] W fun e w' => e = .returned (.bool true) ∧ Below W.heap.size W w' := by
  have ks := same0 none none 0 0
  have hb : Below W.heap.size W ((W.alloc (Obj.cells #[.bool false, .int .i64 0, .slice none 0 0] 31)).alloc (Obj.cells #[.bool false, .int .i64 0, .slice none 0 0] 31)) := ((Below.refl _ W).alloc (Nat.le_refl _) _).alloc (by simp) _
  go_enter Try.func9, Try.ntmps9
  go_wp2_with (go_at_call 28; refine (ks _).mono ?_; rintro e w1 ⟨rfl, rfl⟩)
  go_ret
  exact ⟨rfl, hb⟩

set_option maxRecDepth 100000 in
set_option maxHeartbeats 4000000 in
theorem one_eq {X Y : Nat → Prop} {W : World} {c k : List Value} {d o : MD} (h : Dc X W c d) (h' : Dc Y W k o) (hs : d.set = false) (hs' : o.set = false) (hlo : d.lo = [] ∧ d.up = [] ∧ o.lo = [] ∧ o.up = []) (hlm : d.least = o.least ∧ d.most = o.most) (hr : d.r = o.r) (hl : d.r.length ≤ 100000) :
    Calls Try.prog 8 #[.agg c.toArray, .agg k.toArray] W fun e w' => e = .returned (.bool true) ∧ Below W.heap.size W w' := by
  obtain ⟨b, ra, n0, rc, a1, n1, c1, a2, n2, c2, x, y, rfl, HE, H1, H2, H3⟩ := h.look
  obtain ⟨b', ra', n0', rc', a1', n1', c1', a2', n2', c2', x', y', rfl, HE', H1', H2', H3'⟩ := h'.look
  obtain rfl : b = false := by rw [← HE.out.1, hs]
  obtain rfl : b' = false := by rw [← HE'.out.1, hs']
  obtain rfl : n1 = 0 := by rw [← HE.out.2.2.1, hlo.1]; rfl
  obtain rfl : n2 = 0 := by rw [← HE.out.2.2.2.1, hlo.2.1]; rfl
  obtain rfl : n1' = 0 := by rw [← HE'.out.2.2.1, hlo.2.2.1]; rfl
  obtain rfl : n2' = 0 := by rw [← HE'.out.2.2.2.1, hlo.2.2.2]; rfl
  obtain rfl : x' = x := by rw [← HE.out.2.2.2.2.1, ← HE'.out.2.2.2.2.1, hlm.1]
  obtain rfl : y' = y := by rw [← HE.out.2.2.2.2.2, ← HE'.out.2.2.2.2.2, hlm.2]
  obtain rfl : n0' = n0 := by rw [← HE.out.2.1, ← HE'.out.2.1, hr]
  obtain ⟨W0, hW0⟩ : ∃ Q, (W.alloc (Obj.cells #[.bool false, .slice ra n0' rc, .slice a1 0 c1, .slice a2 0 c2, .int .i64 x', .int .i64 y'] 25)).alloc (Obj.cells #[.bool false, .slice ra' n0' rc', .slice a1' 0 c1', .slice a2' 0 c2', .int .i64 x', .int .i64 y'] 25) = Q := ⟨_, rfl⟩
  have hb0 : Below W.heap.size W W0 := by rw [← hW0]; exact (((Below.refl _ W).alloc (Nat.le_refl _) _).alloc (by simp) _)
  obtain ⟨bw, hbw⟩ : ∃ q, W.heap.size = q := ⟨_, rfl⟩
  have HBX : Hid (Bx W0 bw #[.bool false, .slice ra n0' rc, .slice a1 0 c1, .slice a2 0 c2, .int .i64 x', .int .i64 y'] 25) := by rw [← hW0]; exact (Bx.new' hbw _ _).alloc _
  have HBY : Hid (Bx W0 (bw + 1) #[.bool false, .slice ra' n0' rc', .slice a1' 0 c1', .slice a2' 0 c2', .int .i64 x', .int .i64 y'] 25) := by rw [← hW0]; exact Bx.new' (by simp [hbw]) _ _
  have HR1 : Hid (Rm X W0 (.slice ra n0' rc) d.r) := H1.out.kept (Kept.of_below hb0)
  have HR2 : Hid (Rm Y W0 (.slice ra' n0' rc') d.r) := by rw [hr]; exact H1'.out.kept (Kept.of_below hb0)
  have HN : Hid (d.r.length = n0') := HE.out.2.1
  have hn : n0' ≤ 100000 := by rw [← HN.out]; exact hl
  have HW0 : Hid _ := hW0
  have HBW : Hid (W.heap.size = bw) := hbw
  have ks1 := same0 a1 a1' c1 c1'
  have ks2 := same0 a2 a2' c2 c2'
  obtain ⟨y0, y1, y2, y3, y4, y5⟩ := HBX.out.six
  obtain ⟨u0, u1, u2, u3, u4, u5⟩ := HBY.out.six
  clear hW0 hbw h h' hs hs' hlo hlm hr hl H1 H2 H3 H1' H2' H3' HE HE'
  go_enter Try.func8, Try.ntmps8
  go_wp2_with fail
  rw [HW0.out, HBW.out]
  refine (ks1 _).mono ?_
  rintro e wt ⟨rfl, hwt⟩
  rw [hwt]
  clear hwt wt
  go_wp2_with fail
  refine (ks2 _).mono ?_
  rintro e wt ⟨rfl, hwt⟩
  rw [hwt]
  clear hwt wt ks1 ks2
  go_wp2
  go_loopw [5] (fun i wr => ∃ k : Nat, k ≤ n0' ∧ i = .int .i64 (k : Int) ∧ ∃ nq, wr = W0.drewN nq) (fun i _ => n0' - (intOf i).toNat)
  case atStart => exact ⟨0, Nat.zero_le _, rfl, 0, rfl⟩
  case round =>
    obtain ⟨k, hk, rfl, nq0, rfl⟩ := hrel
    by_cases hlt : k < n0'
    · obtain ⟨q1, t1, e1, hc1⟩ := HR1.out
      obtain ⟨q2, t2, e2, hc2⟩ := HR2.out
      injection e1 with e1 _ e3
      injection e2 with e2 _ e4
      subst e1 e3 e2 e4
      rw [HN.out] at hc1 hc2
      obtain ⟨b1, o1, rfl, _, _, hcell1⟩ := hc1 (by omega)
      obtain ⟨b2, o2, rfl, _, _, hcell2⟩ := hc2 (by omega)
      obtain ⟨x1, z1⟩ := hcell1 k hlt
      obtain ⟨x2, z2⟩ := hcell2 k hlt
      have kk : (k : Int) < (n0' : Int) := by omega
      obtain ⟨pp, hp⟩ : ∃ p, Dm.lo d.r k = p := ⟨_, rfl⟩
      obtain ⟨qq, hq⟩ : ∃ p, Dm.hi d.r k = p := ⟨_, rfl⟩
      rw [hp] at x1 x2
      rw [hq] at z1 z2
      clear hcell1 hcell2 hp hq hc1 hc2
      go_wp2
      go_quiet (fail)
      go_wp2
      go_roundw
      case rel => exact ⟨k + 1, by omega, by go_num, _, rfl⟩
      case measure => simp [intOf]; omega
    · have kk : ¬ (k : Int) < (n0' : Int) := by omega
      go_wp2
      go_ret
      exact ⟨rfl, ⟨hb0.os, hb0.tape, hb0.output, hb0.size, hb0.block⟩⟩
end Go.Proofs.Ytogankopiechcaa
