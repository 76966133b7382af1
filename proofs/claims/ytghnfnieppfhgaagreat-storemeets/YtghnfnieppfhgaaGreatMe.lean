/-
  What is proved here: store.change: what happened to a domain, of either kind.
-/
import Derived.Test.YtghnfnieppfhgaaGreatAa
import Derived.Test.YtghnfnieppfhgaaGreatMb
import Derived.Test.YtghnfnieppfhgaaGreatYTbj
namespace Go.Proofs.YtghnfnieppfhgaaGreat
open Go.RowKit Go.Shelf
set_option linter.unusedVariables false
set_option linter.unusedSimpArgs false

/-- Are the bounds the same? -/
def sbM (a b : MD) : Bool := if a.set then decide (a.lo = b.lo) && (decide (a.least = b.least) && decide (a.most = b.most)) else decide (Dm.lo a.r 0 = Dm.lo b.r 0) && decide (Dm.hi a.r (a.r.length - 1) = Dm.hi b.r (b.r.length - 1))
def chM (a b : MD) : Int := if onlyA b then 1 else if sbM a b then 3 else 2

set_option maxRecDepth 100000 in
set_option maxHeartbeats 4000000 in
theorem sb_s {X Y : Nat → Prop} {W : World} {c k : List Value} {d o : MD} (h : Dc X W c d) (h' : Dc Y W k o) (hs : d.set = true) (hz : d.lo.length * 8 ≤ 140737488351232) :
    Calls Tryz.prog 77 #[.agg c.toArray, .agg k.toArray] W fun e w' => e = .returned (.bool (sbM d o)) ∧ Below W.heap.size W w' := by
  obtain ⟨N, hN⟩ : ∃ N, W.heap.size = N := ⟨_, rfl⟩
  obtain ⟨b, ra, n0, rc, a1, n1, c1, a2, n2, c2, x, y, rfl, HE, H1, H2, H3⟩ := h.look
  obtain rfl : b = true := by rw [← HE.out.1, hs]
  obtain ⟨b', ra', n0', rc', a1', n1', c1', a2', n2', c2', x', y', rfl, HE', H1', H2', H3'⟩ := h'.look
  obtain ⟨W0, hW0⟩ : ∃ Q, (W.alloc (Obj.cells #[.bool true, .slice ra n0 rc, .slice a1 n1 c1, .slice a2 n2 c2, .int .i64 x, .int .i64 y] 37)).alloc (Obj.cells #[.bool b', .slice ra' n0' rc', .slice a1' n1' c1', .slice a2' n2' c2', .int .i64 x', .int .i64 y'] 37) = Q := ⟨_, rfl⟩
  have hb0 : Below W.heap.size W W0 := by rw [← hW0]; exact ((Below.refl _ W).alloc (Nat.le_refl _) _).alloc (by simp) _
  have HX : Hid (Bx W0 N #[.bool true, .slice ra n0 rc, .slice a1 n1 c1, .slice a2 n2 c2, .int .i64 x, .int .i64 y] 37) := by rw [← hW0]; exact (Bx.new' hN _ _).alloc _
  have HY : Hid (Bx W0 (N + 1) #[.bool b', .slice ra' n0' rc', .slice a1' n1' c1', .slice a2' n2' c2', .int .i64 x', .int .i64 y'] 37) := by rw [← hW0]; exact Bx.new' (by simp [hN]) _ _
  have HB0 : Hid (Below W.heap.size W W0) := hb0
  have kr := St.equal_any _ _ d.lo o.lo W0 (H2.out.kept (Kept.of_below hb0)).si (H2'.out.kept (Kept.of_below hb0)).si hz
  have HM : Hid (sbM d o = (decide (d.lo = o.lo) && (decide (x = x') && decide (y = y')))) := by
    unfold Hid sbM
    rw [if_pos hs, HE.out.2.2.2.2.1, HE.out.2.2.2.2.2, HE'.out.2.2.2.2.1, HE'.out.2.2.2.2.2]
  rw [HM.out]
  have HW0 : Hid _ := hW0
  clear h h' hs HE H1 H2 H3 hW0 HE' H1' H2' H3' hb0 HM hz
  obtain ⟨z0, z1, z2, z3, z4, z5⟩ := HX.out.six
  obtain ⟨y0, y1, y2, y3, y4, y5⟩ := HY.out.six
  generalize decide (d.lo = o.lo) = q at *
  go_enter Tryz.func77, Tryz.ntmps77
  go_upto_region 1 with (fail)
  rw [HW0.out]
  clear hN
  go_wp2_with fail
  refine kr.mono ?_
  clear kr z0 z1 z2 z3 z4 z5 y0 y1 y2 y3 y4 y5
  rintro e w1 ⟨rfl, hb1⟩
  have HBE := hid (HB0.out.trans (hb1.mono HB0.out.size))
  obtain ⟨z0, z1, z2, z3, z4, z5⟩ := (HX.out.below hb1).six
  obtain ⟨y0, y1, y2, y3, y4, y5⟩ := (HY.out.below hb1).six
  cases q
  · go_wp2
    go_ret
    exact ⟨ret_bool (by simp), HBE.out⟩
  · by_cases e1 : x = x'
    · by_cases e2 : y = y'
      · subst e1 e2
        go_wp2
        go_ret
        exact ⟨ret_bool (by simp), HBE.out⟩
      · subst e1
        have e2' : (y == y') = false := by simpa using e2
        go_wp2
        go_ret
        exact ⟨ret_bool (by simp [e2]), HBE.out⟩
    · have e1' : (x == x') = false := by simpa using e1
      go_wp2
      go_ret
      exact ⟨ret_bool (by simp [e1]), HBE.out⟩
abbrev q77_3_0 : Oper := ⟨some 26, .fieldAddr 37 (.tmp 2) 1, 0, "kinds.go:64", #[], none⟩
abbrev q77_3_1 : Oper := ⟨some 27, .load 34 (.tmp 26), 34, "kinds.go:64", #[⟨0, .data⟩], none⟩
abbrev q77_3_2 : Oper := ⟨some 28, .indexAddr 34 (.tmp 27) (.const (.int .i64 0)), 0, "kinds.go:64", #[⟨1, .data⟩], none⟩
abbrev q77_3_3 : Oper := ⟨some 29, .fieldAddr 80 (.tmp 28) 0, 0, "kinds.go:64", #[⟨2, .data⟩], none⟩
abbrev q77_3_4 : Oper := ⟨some 30, .load 2 (.tmp 29), 2, "kinds.go:64", #[⟨3, .data⟩], none⟩
abbrev q77_3_5 : Oper := ⟨some 31, .fieldAddr 37 (.tmp 3) 1, 0, "kinds.go:64", #[], none⟩
abbrev q77_3_6 : Oper := ⟨some 32, .load 34 (.tmp 31), 34, "kinds.go:64", #[⟨5, .data⟩], none⟩
abbrev q77_3_7 : Oper := ⟨some 33, .indexAddr 34 (.tmp 32) (.const (.int .i64 0)), 0, "kinds.go:64", #[⟨6, .data⟩], none⟩
abbrev q77_3_8 : Oper := ⟨some 34, .fieldAddr 80 (.tmp 33) 0, 0, "kinds.go:64", #[⟨7, .data⟩], none⟩
abbrev q77_3_9 : Oper := ⟨some 35, .load 2 (.tmp 34), 2, "kinds.go:64", #[⟨8, .data⟩], none⟩
abbrev q77_3_10 : Oper := ⟨some 36, .binOp .eql 2 (.tmp 30) (.tmp 35) 2, 4, "kinds.go:64", #[⟨4, .data⟩, ⟨9, .data⟩], none⟩
abbrev q77_3_11 : Oper := ⟨some 37, .move (.tmp 36), 4, "kinds.go:64", #[⟨10, .data⟩], none⟩
abbrev q77_3_12 : Oper := ⟨some 38, .fieldAddr 37 (.tmp 2) 1, 0, "kinds.go:64", #[⟨11, .guard⟩], some (11, true)⟩
abbrev q77_3_13 : Oper := ⟨some 39, .load 34 (.tmp 38), 34, "kinds.go:64", #[⟨12, .data⟩, ⟨11, .guard⟩], some (11, true)⟩
abbrev q77_3_14 : Oper := ⟨some 40, .fieldAddr 37 (.tmp 2) 1, 0, "kinds.go:64", #[⟨11, .guard⟩], some (11, true)⟩
abbrev q77_3_15 : Oper := ⟨some 41, .load 34 (.tmp 40), 34, "kinds.go:64", #[⟨14, .data⟩, ⟨11, .guard⟩], some (11, true)⟩
abbrev q77_3_16 : Oper := ⟨some 42, .call { callee := .builtin .len, args := #[.tmp 41], argTypes := #[34] }, 3, "kinds.go:64", #[⟨15, .data⟩, ⟨11, .guard⟩], some (11, true)⟩
abbrev q77_3_17 : Oper := ⟨some 43, .binOp .sub 3 (.tmp 42) (.const (.int .i64 1)) 3, 3, "kinds.go:64", #[⟨16, .data⟩, ⟨11, .guard⟩], some (11, true)⟩
abbrev q77_3_18 : Oper := ⟨some 44, .indexAddr 34 (.tmp 39) (.tmp 43), 0, "kinds.go:64", #[⟨13, .data⟩, ⟨17, .data⟩, ⟨11, .guard⟩], some (11, true)⟩
abbrev q77_3_19 : Oper := ⟨some 45, .fieldAddr 80 (.tmp 44) 1, 0, "kinds.go:64", #[⟨18, .data⟩, ⟨11, .guard⟩], some (11, true)⟩
abbrev q77_3_20 : Oper := ⟨some 46, .load 2 (.tmp 45), 2, "kinds.go:64", #[⟨19, .data⟩, ⟨11, .guard⟩], some (11, true)⟩
abbrev q77_3_21 : Oper := ⟨some 47, .fieldAddr 37 (.tmp 3) 1, 0, "kinds.go:64", #[⟨11, .guard⟩], some (11, true)⟩
abbrev q77_3_22 : Oper := ⟨some 48, .load 34 (.tmp 47), 34, "kinds.go:64", #[⟨21, .data⟩, ⟨11, .guard⟩], some (11, true)⟩
abbrev q77_3_23 : Oper := ⟨some 49, .fieldAddr 37 (.tmp 3) 1, 0, "kinds.go:64", #[⟨11, .guard⟩], some (11, true)⟩
abbrev q77_3_24 : Oper := ⟨some 50, .load 34 (.tmp 49), 34, "kinds.go:64", #[⟨23, .data⟩, ⟨11, .guard⟩], some (11, true)⟩
abbrev q77_3_25 : Oper := ⟨some 51, .call { callee := .builtin .len, args := #[.tmp 50], argTypes := #[34] }, 3, "kinds.go:64", #[⟨24, .data⟩, ⟨11, .guard⟩], some (11, true)⟩
abbrev q77_3_26 : Oper := ⟨some 52, .binOp .sub 3 (.tmp 51) (.const (.int .i64 1)) 3, 3, "kinds.go:64", #[⟨25, .data⟩, ⟨11, .guard⟩], some (11, true)⟩
abbrev q77_3_27 : Oper := ⟨some 53, .indexAddr 34 (.tmp 48) (.tmp 52), 0, "kinds.go:64", #[⟨22, .data⟩, ⟨26, .data⟩, ⟨11, .guard⟩], some (11, true)⟩
abbrev q77_3_28 : Oper := ⟨some 54, .fieldAddr 80 (.tmp 53) 1, 0, "kinds.go:64", #[⟨27, .data⟩, ⟨11, .guard⟩], some (11, true)⟩
abbrev q77_3_29 : Oper := ⟨some 55, .load 2 (.tmp 54), 2, "kinds.go:64", #[⟨28, .data⟩, ⟨11, .guard⟩], some (11, true)⟩
abbrev q77_3_30 : Oper := ⟨some 56, .binOp .eql 2 (.tmp 46) (.tmp 55) 2, 4, "kinds.go:64", #[⟨20, .data⟩, ⟨29, .data⟩, ⟨11, .guard⟩], some (11, true)⟩
abbrev q77_3_31 : Oper := ⟨some 57, .pick (.tmp 37) (.tmp 56) (.const (.bool false)), 4, "kinds.go:64", #[⟨11, .data⟩, ⟨30, .data⟩], none⟩
abbrev q77_3_32 : Oper := ⟨some 4, .assign (.tmp 57), 4, "kinds.go:64", #[⟨31, .data⟩, ⟨11, .chain⟩, ⟨0, .phase⟩, ⟨1, .phase⟩, ⟨2, .phase⟩, ⟨3, .phase⟩, ⟨4, .phase⟩, ⟨5, .phase⟩, ⟨6, .phase⟩, ⟨7, .phase⟩, ⟨8, .phase⟩, ⟨9, .phase⟩, ⟨10, .phase⟩, ⟨11, .phase⟩, ⟨12, .phase⟩, ⟨13, .phase⟩, ⟨14, .phase⟩, ⟨15, .phase⟩, ⟨16, .phase⟩, ⟨17, .phase⟩, ⟨18, .phase⟩, ⟨19, .phase⟩, ⟨20, .phase⟩, ⟨21, .phase⟩, ⟨22, .phase⟩, ⟨23, .phase⟩, ⟨24, .phase⟩, ⟨25, .phase⟩, ⟨26, .phase⟩, ⟨27, .phase⟩, ⟨28, .phase⟩, ⟨29, .phase⟩, ⟨30, .phase⟩, ⟨31, .phase⟩], none⟩

set_option maxRecDepth 100000 in
set_option maxHeartbeats 4000000 in
theorem sb_n {X Y : Nat → Prop} {W : World} {c k : List Value} {d o : MD} (h : Dc X W c d) (h' : Dc Y W k o) (hs : d.set = false) (hd : 0 < d.r.length) (ho : 0 < o.r.length) (hdl : d.r.length ≤ 100000) (hol : o.r.length ≤ 100000) :
    Calls Tryz.prog 77 #[.agg c.toArray, .agg k.toArray] W fun e w' => e = .returned (.bool (sbM d o)) ∧ Below W.heap.size W w' := by
  obtain ⟨N, hN⟩ : ∃ N, W.heap.size = N := ⟨_, rfl⟩
  obtain ⟨b, ra, n0, rc, a1, n1, c1, a2, n2, c2, x, y, rfl, HE, H1, H2, H3⟩ := h.look
  obtain rfl : b = false := by rw [← HE.out.1, hs]
  obtain ⟨b', ra', n0', rc', a1', n1', c1', a2', n2', c2', x', y', rfl, HE', H1', H2', H3'⟩ := h'.look
  obtain ⟨m0, hmm0⟩ : ∃ m, n0 = m + 1 := ⟨n0 - 1, by have := HE.out.2.1; omega⟩
  obtain ⟨m1, hmm1⟩ : ∃ m, n0' = m + 1 := ⟨n0' - 1, by have := HE'.out.2.1; omega⟩
  obtain ⟨p1, f1, hra, hp1, hc1⟩ : ∃ p1 f1, ra = some ⟨p1, f1, none⟩ ∧ p1 < W.heap.size ∧ ∀ i, i < d.r.length → W.cell? ⟨p1, f1 + i * 2, none⟩ = some (.int .i64 (Dm.lo d.r i)) ∧ W.cell? ⟨p1, f1 + i * 2 + 1, none⟩ = some (.int .i64 (Dm.hi d.r i)) := by
    obtain ⟨aa, cc, ea, hA⟩ := H1.out
    obtain ⟨q1, q2, q3, q4, _, q5⟩ := hA hd
    injection ea with ea _ _
    exact ⟨q1, q2, ea.trans q3, q4, q5⟩
  obtain ⟨p2, f2, hrb, hp2, hc2⟩ : ∃ p2 f2, ra' = some ⟨p2, f2, none⟩ ∧ p2 < W.heap.size ∧ ∀ i, i < o.r.length → W.cell? ⟨p2, f2 + i * 2, none⟩ = some (.int .i64 (Dm.lo o.r i)) ∧ W.cell? ⟨p2, f2 + i * 2 + 1, none⟩ = some (.int .i64 (Dm.hi o.r i)) := by
    obtain ⟨aa, cc, ea, hA⟩ := H1'.out
    obtain ⟨q1, q2, q3, q4, _, q5⟩ := hA ho
    injection ea with ea _ _
    exact ⟨q1, q2, ea.trans q3, q4, q5⟩
  subst hra hrb
  obtain ⟨W0, hW0⟩ : ∃ Q, (W.alloc (Obj.cells #[.bool false, .slice (some ⟨p1, f1, none⟩) n0 rc, .slice a1 n1 c1, .slice a2 n2 c2, .int .i64 x, .int .i64 y] 37)).alloc (Obj.cells #[.bool b', .slice (some ⟨p2, f2, none⟩) n0' rc', .slice a1' n1' c1', .slice a2' n2' c2', .int .i64 x', .int .i64 y'] 37) = Q := ⟨_, rfl⟩
  have hb0 : Below W.heap.size W W0 := by rw [← hW0]; exact ((Below.refl _ W).alloc (Nat.le_refl _) _).alloc (by simp) _
  have HX : Hid (Bx W0 N #[.bool false, .slice (some ⟨p1, f1, none⟩) n0 rc, .slice a1 n1 c1, .slice a2 n2 c2, .int .i64 x, .int .i64 y] 37) := by rw [← hW0]; exact (Bx.new' hN _ _).alloc _
  have HY : Hid (Bx W0 (N + 1) #[.bool b', .slice (some ⟨p2, f2, none⟩) n0' rc', .slice a1' n1' c1', .slice a2' n2' c2', .int .i64 x', .int .i64 y'] 37) := by rw [← hW0]; exact Bx.new' (by simp [hN]) _ _
  have HB0 : Hid (Below W.heap.size W W0) := hb0
  obtain ⟨la, hla⟩ : ∃ q, Dm.lo d.r 0 = q := ⟨_, rfl⟩
  obtain ⟨lb, hlb⟩ : ∃ q, Dm.lo o.r 0 = q := ⟨_, rfl⟩
  obtain ⟨hA, hhA⟩ : ∃ q, Dm.hi d.r m0 = q := ⟨_, rfl⟩
  obtain ⟨hB, hhB⟩ : ∃ q, Dm.hi o.r m1 = q := ⟨_, rfl⟩
  have ed : d.r.length = m0 + 1 := by rw [HE.out.2.1, hmm0]
  have eo : o.r.length = m1 + 1 := by rw [HE'.out.2.1, hmm1]
  have FS : Hid (∀ w, Below W0.heap.size W0 w → (w.cell? ⟨N, 0, none⟩ = some (.bool false) ∧ w.cell? ⟨N, 1, none⟩ = some (.slice (some ⟨p1, f1, none⟩) n0 rc) ∧ w.cell? ⟨N, 2, none⟩ = some (.slice a1 n1 c1) ∧ w.cell? ⟨N, 3, none⟩ = some (.slice a2 n2 c2) ∧ w.cell? ⟨N, 4, none⟩ = some (.int .i64 x) ∧ w.cell? ⟨N, 5, none⟩ = some (.int .i64 y)) ∧ (w.cell? ⟨N + 1, 0, none⟩ = some (.bool b') ∧ w.cell? ⟨N + 1, 1, none⟩ = some (.slice (some ⟨p2, f2, none⟩) n0' rc') ∧ w.cell? ⟨N + 1, 2, none⟩ = some (.slice a1' n1' c1') ∧ w.cell? ⟨N + 1, 3, none⟩ = some (.slice a2' n2' c2') ∧ w.cell? ⟨N + 1, 4, none⟩ = some (.int .i64 x') ∧ w.cell? ⟨N + 1, 5, none⟩ = some (.int .i64 y')) ∧ w.cell? ⟨p1, f1, none⟩ = some (.int .i64 la) ∧ w.cell? ⟨p2, f2, none⟩ = some (.int .i64 lb) ∧ w.cell? ⟨p1, f1 + m0 * 2 + 1, none⟩ = some (.int .i64 hA) ∧ w.cell? ⟨p2, f2 + m1 * 2 + 1, none⟩ = some (.int .i64 hB)) := fun w hb => by
    have b2 := hb0.trans (hb.mono hb0.size)
    refine ⟨(HX.out.below hb).six, (HY.out.below hb).six, ?_, ?_, ?_, ?_⟩
    · rw [← hla]; exact (b2.cell (p := ⟨p1, _, none⟩) hp1).trans (by simpa using (hc1 0 hd).1)
    · rw [← hlb]; exact (b2.cell (p := ⟨p2, _, none⟩) hp2).trans (by simpa using (hc2 0 ho).1)
    · rw [← hhA]; exact (b2.cell (p := ⟨p1, _, none⟩) hp1).trans (hc1 m0 (by omega)).2
    · rw [← hhB]; exact (b2.cell (p := ⟨p2, _, none⟩) hp2).trans (hc2 m1 (by omega)).2
  have HM : Hid (sbM d o = (decide (la = lb) && decide (hA = hB))) := by
    unfold Hid sbM
    rw [if_neg (by rw [hs]; decide), ed, eo, Nat.add_sub_cancel, Nat.add_sub_cancel, hla, hlb, hhA, hhB]
  rw [HM.out]
  have HW0 : Hid _ := hW0
  have HP0 : Hid (Below W0.heap.size W0 W0.drew) := (Below.refl _ _).drew
  have hm0 : IntKind.i64.wrap ((n0 : Int) - 1) = (m0 : Int) := by rw [IntKind.wrap_i64]; omega
  have hm1 : IntKind.i64.wrap ((n0' : Int) - 1) = (m1 : Int) := by rw [IntKind.wrap_i64]; omega
  have hj0 : (m0 : Int) < (n0 : Int) := by omega
  have hk0 : 0 < n0 := by omega
  have hl0 : m0 < n0 := by omega
  have hj1 : (m1 : Int) < (n0' : Int) := by omega
  have hk1 : 0 < n0' := by omega
  have hl1 : m1 < n0' := by omega
  obtain ⟨z0, z1, z2, z3, z4, z5⟩ := HX.out.six
  clear h h' hs HE H1 H2 H3 hW0 HE' H1' H2' H3' hb0 HM hc1 hc2 hd ho hdl hol hla hlb hhA hhB ed eo hmm0 hmm1
  go_enter Tryz.func77, Tryz.ntmps77
  go_upto_region 3 with (fail)
  rw [HW0.out]
  clear hN z0 z1 z2 z3 z4 z5
  by_cases hlo : la = lb
  ·
    refine wp_region_held_drew (S := fun X : World => Below W0.heap.size W0 X) (by kernel_rfl) (HP0.out) (fun hHeld => ?_)
    refine tkA 0 q77_3_0 hHeld ?_
    try simp only [q77_3_0, Act.put, zS, z0, z1]
    refine tkH 1 q77_3_1 (v := ?_) hHeld ?_ ?_; rotate_left
    · intro w hSw; dsimp only [q77_3_1]; obtain ⟨⟨y0, y1, y2, y3, y4, y5⟩, ⟨u0, u1, u2, u3, u4, u5⟩, g0, g1, g2, g3⟩ := FS.out _ hSw; go_simp <;> with_reducible rfl
    try simp only [q77_3_1, Act.put, zS, z0, z1]
    refine tkA 2 q77_3_2 hHeld ?_
    try simp only [q77_3_2, Act.put, zS, z0, z1]
    refine tkA 3 q77_3_3 hHeld ?_
    try simp only [q77_3_3, Act.put, zS, z0, z1]
    refine tkH 4 q77_3_4 (v := ?_) hHeld ?_ ?_; rotate_left
    · intro w hSw; dsimp only [q77_3_4]; obtain ⟨⟨y0, y1, y2, y3, y4, y5⟩, ⟨u0, u1, u2, u3, u4, u5⟩, g0, g1, g2, g3⟩ := FS.out _ hSw; go_simp <;> with_reducible rfl
    try simp only [q77_3_4, Act.put, zS, z0, z1]
    refine tkA 5 q77_3_5 hHeld ?_
    try simp only [q77_3_5, Act.put, zS, z0, z1]
    refine tkH 6 q77_3_6 (v := ?_) hHeld ?_ ?_; rotate_left
    · intro w hSw; dsimp only [q77_3_6]; obtain ⟨⟨y0, y1, y2, y3, y4, y5⟩, ⟨u0, u1, u2, u3, u4, u5⟩, g0, g1, g2, g3⟩ := FS.out _ hSw; go_simp <;> with_reducible rfl
    try simp only [q77_3_6, Act.put, zS, z0, z1]
    refine tkA 7 q77_3_7 hHeld ?_
    try simp only [q77_3_7, Act.put, zS, z0, z1]
    refine tkA 8 q77_3_8 hHeld ?_
    try simp only [q77_3_8, Act.put, zS, z0, z1]
    refine tkH 9 q77_3_9 (v := ?_) hHeld ?_ ?_; rotate_left
    · intro w hSw; dsimp only [q77_3_9]; obtain ⟨⟨y0, y1, y2, y3, y4, y5⟩, ⟨u0, u1, u2, u3, u4, u5⟩, g0, g1, g2, g3⟩ := FS.out _ hSw; go_simp <;> with_reducible rfl
    try simp only [q77_3_9, Act.put, zS, z0, z1]
    refine tkH 10 q77_3_10 (v := .bool true) hHeld ?_ ?_
    skip
    · intro w hSw; dsimp only [q77_3_10]; go_simp <;> first | done | with_reducible rfl | simp [hlo]
    try simp only [q77_3_10, Act.put, zS, z0, z1]
    refine tkH 11 q77_3_11 (v := .bool true) hHeld ?_ ?_
    skip
    · intro w hSw; dsimp only [q77_3_11]; (try dsimp only at hSw); go_simp <;> with_reducible rfl
    try simp only [q77_3_11, Act.put, zS, z0, z1]
    refine tkA 12 q77_3_12 hHeld ?_
    try simp only [q77_3_12, Act.put, zS, z0, z1]
    refine tkH 13 q77_3_13 (v := ?_) hHeld ?_ ?_; rotate_left
    · intro w hSw; dsimp only [q77_3_13]; obtain ⟨⟨y0, y1, y2, y3, y4, y5⟩, ⟨u0, u1, u2, u3, u4, u5⟩, g0, g1, g2, g3⟩ := FS.out _ hSw; go_simp <;> with_reducible rfl
    try simp only [q77_3_13, Act.put, zS, z0, z1]
    refine tkA 14 q77_3_14 hHeld ?_
    try simp only [q77_3_14, Act.put, zS, z0, z1]
    refine tkH 15 q77_3_15 (v := ?_) hHeld ?_ ?_; rotate_left
    · intro w hSw; dsimp only [q77_3_15]; obtain ⟨⟨y0, y1, y2, y3, y4, y5⟩, ⟨u0, u1, u2, u3, u4, u5⟩, g0, g1, g2, g3⟩ := FS.out _ hSw; go_simp <;> with_reducible rfl
    try simp only [q77_3_15, Act.put, zS, z0, z1]
    refine tkA 16 q77_3_16 hHeld ?_
    try simp only [q77_3_16, Act.put, zS, z0, z1]
    refine tkH 17 q77_3_17 (v := .int .i64 (m0 : Int)) hHeld ?_ ?_
    skip
    · intro w hSw; dsimp only [q77_3_17]; go_simp <;> first | done | with_reducible rfl | simp [hm0]
    try simp only [q77_3_17, Act.put, zS, z0, z1]
    refine tkA 18 q77_3_18 hHeld ?_
    try simp only [q77_3_18, Act.put, zS, z0, z1]
    refine tkA 19 q77_3_19 hHeld ?_
    try simp only [q77_3_19, Act.put, zS, z0, z1]
    refine tkH 20 q77_3_20 (v := ?_) hHeld ?_ ?_; rotate_left
    · intro w hSw; dsimp only [q77_3_20]; obtain ⟨⟨y0, y1, y2, y3, y4, y5⟩, ⟨u0, u1, u2, u3, u4, u5⟩, g0, g1, g2, g3⟩ := FS.out _ hSw; go_simp <;> with_reducible rfl
    try simp only [q77_3_20, Act.put, zS, z0, z1]
    refine tkA 21 q77_3_21 hHeld ?_
    try simp only [q77_3_21, Act.put, zS, z0, z1]
    refine tkH 22 q77_3_22 (v := ?_) hHeld ?_ ?_; rotate_left
    · intro w hSw; dsimp only [q77_3_22]; obtain ⟨⟨y0, y1, y2, y3, y4, y5⟩, ⟨u0, u1, u2, u3, u4, u5⟩, g0, g1, g2, g3⟩ := FS.out _ hSw; go_simp <;> with_reducible rfl
    try simp only [q77_3_22, Act.put, zS, z0, z1]
    refine tkA 23 q77_3_23 hHeld ?_
    try simp only [q77_3_23, Act.put, zS, z0, z1]
    refine tkH 24 q77_3_24 (v := ?_) hHeld ?_ ?_; rotate_left
    · intro w hSw; dsimp only [q77_3_24]; obtain ⟨⟨y0, y1, y2, y3, y4, y5⟩, ⟨u0, u1, u2, u3, u4, u5⟩, g0, g1, g2, g3⟩ := FS.out _ hSw; go_simp <;> with_reducible rfl
    try simp only [q77_3_24, Act.put, zS, z0, z1]
    refine tkA 25 q77_3_25 hHeld ?_
    try simp only [q77_3_25, Act.put, zS, z0, z1]
    refine tkH 26 q77_3_26 (v := .int .i64 (m1 : Int)) hHeld ?_ ?_
    skip
    · intro w hSw; dsimp only [q77_3_26]; go_simp <;> first | done | with_reducible rfl | simp [hm1]
    try simp only [q77_3_26, Act.put, zS, z0, z1]
    refine tkA 27 q77_3_27 hHeld ?_
    try simp only [q77_3_27, Act.put, zS, z0, z1]
    refine tkA 28 q77_3_28 hHeld ?_
    try simp only [q77_3_28, Act.put, zS, z0, z1]
    refine tkH 29 q77_3_29 (v := ?_) hHeld ?_ ?_; rotate_left
    · intro w hSw; dsimp only [q77_3_29]; obtain ⟨⟨y0, y1, y2, y3, y4, y5⟩, ⟨u0, u1, u2, u3, u4, u5⟩, g0, g1, g2, g3⟩ := FS.out _ hSw; go_simp <;> with_reducible rfl
    try simp only [q77_3_29, Act.put, zS, z0, z1]
    refine tkH 30 q77_3_30 (v := .bool (decide (hA = hB))) hHeld ?_ ?_
    skip
    · intro w hSw; dsimp only [q77_3_30]; go_simp <;> first | done | with_reducible rfl | (rw [Bool.eq_iff_iff]; simp) | simp
    try simp only [q77_3_30, Act.put, zS, z0, z1]
    refine tkH 31 q77_3_31 (v := .bool (decide (hA = hB))) hHeld ?_ ?_
    skip
    · intro w hSw; dsimp only [q77_3_31]; go_simp <;> first | done | with_reducible rfl | simp
    try simp only [q77_3_31, Act.put, zS, z0, z1]
    refine tkH 32 q77_3_32 (v := .bool (decide (hA = hB))) hHeld ?_ ?_
    skip
    · intro w hSw; dsimp only [q77_3_32]; (try dsimp only at hSw); go_simp <;> with_reducible rfl
    try simp only [q77_3_32, Act.put, zS, z0, z1]
    refine wpAnyH_done (by kernel_rfl) ?_ _
    go_wp2
    go_ret
    exact ⟨ret_bool (by simp [hlo]), HB0.out.trans (HP0.out.mono HB0.out.size)⟩
  ·
    refine wp_region_held_drew (S := fun X : World => Below W0.heap.size W0 X) (by kernel_rfl) (HP0.out) (fun hHeld => ?_)
    refine tkA 0 q77_3_0 hHeld ?_
    try simp only [q77_3_0, Act.put, zS, z0, z1]
    refine tkH 1 q77_3_1 (v := ?_) hHeld ?_ ?_; rotate_left
    · intro w hSw; dsimp only [q77_3_1]; obtain ⟨⟨y0, y1, y2, y3, y4, y5⟩, ⟨u0, u1, u2, u3, u4, u5⟩, g0, g1, g2, g3⟩ := FS.out _ hSw; go_simp <;> with_reducible rfl
    try simp only [q77_3_1, Act.put, zS, z0, z1]
    refine tkA 2 q77_3_2 hHeld ?_
    try simp only [q77_3_2, Act.put, zS, z0, z1]
    refine tkA 3 q77_3_3 hHeld ?_
    try simp only [q77_3_3, Act.put, zS, z0, z1]
    refine tkH 4 q77_3_4 (v := ?_) hHeld ?_ ?_; rotate_left
    · intro w hSw; dsimp only [q77_3_4]; obtain ⟨⟨y0, y1, y2, y3, y4, y5⟩, ⟨u0, u1, u2, u3, u4, u5⟩, g0, g1, g2, g3⟩ := FS.out _ hSw; go_simp <;> with_reducible rfl
    try simp only [q77_3_4, Act.put, zS, z0, z1]
    refine tkA 5 q77_3_5 hHeld ?_
    try simp only [q77_3_5, Act.put, zS, z0, z1]
    refine tkH 6 q77_3_6 (v := ?_) hHeld ?_ ?_; rotate_left
    · intro w hSw; dsimp only [q77_3_6]; obtain ⟨⟨y0, y1, y2, y3, y4, y5⟩, ⟨u0, u1, u2, u3, u4, u5⟩, g0, g1, g2, g3⟩ := FS.out _ hSw; go_simp <;> with_reducible rfl
    try simp only [q77_3_6, Act.put, zS, z0, z1]
    refine tkA 7 q77_3_7 hHeld ?_
    try simp only [q77_3_7, Act.put, zS, z0, z1]
    refine tkA 8 q77_3_8 hHeld ?_
    try simp only [q77_3_8, Act.put, zS, z0, z1]
    refine tkH 9 q77_3_9 (v := ?_) hHeld ?_ ?_; rotate_left
    · intro w hSw; dsimp only [q77_3_9]; obtain ⟨⟨y0, y1, y2, y3, y4, y5⟩, ⟨u0, u1, u2, u3, u4, u5⟩, g0, g1, g2, g3⟩ := FS.out _ hSw; go_simp <;> with_reducible rfl
    try simp only [q77_3_9, Act.put, zS, z0, z1]
    refine tkH 10 q77_3_10 (v := .bool false) hHeld ?_ ?_
    skip
    · intro w hSw; dsimp only [q77_3_10]; go_simp <;> first | done | with_reducible rfl | simp [hlo]
    try simp only [q77_3_10, Act.put, zS, z0, z1]
    refine tkH 11 q77_3_11 (v := .bool false) hHeld ?_ ?_
    skip
    · intro w hSw; dsimp only [q77_3_11]; (try dsimp only at hSw); go_simp <;> with_reducible rfl
    try simp only [q77_3_11, Act.put, zS, z0, z1]
    refine wpAnyH_take (i := 12) (oi := q77_3_12) (v := undef) rfl (by kernel_rfl) (by kernel_rfl) (by kernel_rfl) (fun _ _ _ h => h) (Or.inr ⟨by rfl, rfl⟩) hHeld ?_
    try simp only [q77_3_12, Act.put, zS, z0, z1]
    refine wpAnyH_take (i := 13) (oi := q77_3_13) (v := undef) rfl (by kernel_rfl) (by kernel_rfl) (by kernel_rfl) (fun _ _ _ h => h) (Or.inr ⟨by rfl, rfl⟩) hHeld ?_
    try simp only [q77_3_13, Act.put, zS, z0, z1]
    refine wpAnyH_take (i := 14) (oi := q77_3_14) (v := undef) rfl (by kernel_rfl) (by kernel_rfl) (by kernel_rfl) (fun _ _ _ h => h) (Or.inr ⟨by rfl, rfl⟩) hHeld ?_
    try simp only [q77_3_14, Act.put, zS, z0, z1]
    refine wpAnyH_take (i := 15) (oi := q77_3_15) (v := undef) rfl (by kernel_rfl) (by kernel_rfl) (by kernel_rfl) (fun _ _ _ h => h) (Or.inr ⟨by rfl, rfl⟩) hHeld ?_
    try simp only [q77_3_15, Act.put, zS, z0, z1]
    refine wpAnyH_take (i := 16) (oi := q77_3_16) (v := undef) rfl (by kernel_rfl) (by kernel_rfl) (by kernel_rfl) (fun _ _ _ h => h) (Or.inr ⟨by rfl, rfl⟩) hHeld ?_
    try simp only [q77_3_16, Act.put, zS, z0, z1]
    refine wpAnyH_take (i := 17) (oi := q77_3_17) (v := undef) rfl (by kernel_rfl) (by kernel_rfl) (by kernel_rfl) (fun _ _ _ h => h) (Or.inr ⟨by rfl, rfl⟩) hHeld ?_
    try simp only [q77_3_17, Act.put, zS, z0, z1]
    refine wpAnyH_take (i := 18) (oi := q77_3_18) (v := undef) rfl (by kernel_rfl) (by kernel_rfl) (by kernel_rfl) (fun _ _ _ h => h) (Or.inr ⟨by rfl, rfl⟩) hHeld ?_
    try simp only [q77_3_18, Act.put, zS, z0, z1]
    refine wpAnyH_take (i := 19) (oi := q77_3_19) (v := undef) rfl (by kernel_rfl) (by kernel_rfl) (by kernel_rfl) (fun _ _ _ h => h) (Or.inr ⟨by rfl, rfl⟩) hHeld ?_
    try simp only [q77_3_19, Act.put, zS, z0, z1]
    refine wpAnyH_take (i := 20) (oi := q77_3_20) (v := undef) rfl (by kernel_rfl) (by kernel_rfl) (by kernel_rfl) (fun _ _ _ h => h) (Or.inr ⟨by rfl, rfl⟩) hHeld ?_
    try simp only [q77_3_20, Act.put, zS, z0, z1]
    refine wpAnyH_take (i := 21) (oi := q77_3_21) (v := undef) rfl (by kernel_rfl) (by kernel_rfl) (by kernel_rfl) (fun _ _ _ h => h) (Or.inr ⟨by rfl, rfl⟩) hHeld ?_
    try simp only [q77_3_21, Act.put, zS, z0, z1]
    refine wpAnyH_take (i := 22) (oi := q77_3_22) (v := undef) rfl (by kernel_rfl) (by kernel_rfl) (by kernel_rfl) (fun _ _ _ h => h) (Or.inr ⟨by rfl, rfl⟩) hHeld ?_
    try simp only [q77_3_22, Act.put, zS, z0, z1]
    refine wpAnyH_take (i := 23) (oi := q77_3_23) (v := undef) rfl (by kernel_rfl) (by kernel_rfl) (by kernel_rfl) (fun _ _ _ h => h) (Or.inr ⟨by rfl, rfl⟩) hHeld ?_
    try simp only [q77_3_23, Act.put, zS, z0, z1]
    refine wpAnyH_take (i := 24) (oi := q77_3_24) (v := undef) rfl (by kernel_rfl) (by kernel_rfl) (by kernel_rfl) (fun _ _ _ h => h) (Or.inr ⟨by rfl, rfl⟩) hHeld ?_
    try simp only [q77_3_24, Act.put, zS, z0, z1]
    refine wpAnyH_take (i := 25) (oi := q77_3_25) (v := undef) rfl (by kernel_rfl) (by kernel_rfl) (by kernel_rfl) (fun _ _ _ h => h) (Or.inr ⟨by rfl, rfl⟩) hHeld ?_
    try simp only [q77_3_25, Act.put, zS, z0, z1]
    refine wpAnyH_take (i := 26) (oi := q77_3_26) (v := undef) rfl (by kernel_rfl) (by kernel_rfl) (by kernel_rfl) (fun _ _ _ h => h) (Or.inr ⟨by rfl, rfl⟩) hHeld ?_
    try simp only [q77_3_26, Act.put, zS, z0, z1]
    refine wpAnyH_take (i := 27) (oi := q77_3_27) (v := undef) rfl (by kernel_rfl) (by kernel_rfl) (by kernel_rfl) (fun _ _ _ h => h) (Or.inr ⟨by rfl, rfl⟩) hHeld ?_
    try simp only [q77_3_27, Act.put, zS, z0, z1]
    refine wpAnyH_take (i := 28) (oi := q77_3_28) (v := undef) rfl (by kernel_rfl) (by kernel_rfl) (by kernel_rfl) (fun _ _ _ h => h) (Or.inr ⟨by rfl, rfl⟩) hHeld ?_
    try simp only [q77_3_28, Act.put, zS, z0, z1]
    refine wpAnyH_take (i := 29) (oi := q77_3_29) (v := undef) rfl (by kernel_rfl) (by kernel_rfl) (by kernel_rfl) (fun _ _ _ h => h) (Or.inr ⟨by rfl, rfl⟩) hHeld ?_
    try simp only [q77_3_29, Act.put, zS, z0, z1]
    refine wpAnyH_take (i := 30) (oi := q77_3_30) (v := undef) rfl (by kernel_rfl) (by kernel_rfl) (by kernel_rfl) (fun _ _ _ h => h) (Or.inr ⟨by rfl, rfl⟩) hHeld ?_
    try simp only [q77_3_30, Act.put, zS, z0, z1]
    refine tkH 31 q77_3_31 (v := .bool false) hHeld ?_ ?_
    skip
    · intro w hSw; dsimp only [q77_3_31]; go_simp <;> first | done | with_reducible rfl | simp
    try simp only [q77_3_31, Act.put, zS, z0, z1]
    refine tkA 32 q77_3_32 hHeld ?_
    try simp only [q77_3_32, Act.put, zS, z0, z1]
    refine wpAnyH_done (by kernel_rfl) ?_ _
    go_wp2
    go_ret
    exact ⟨ret_bool (by simp [hlo]), HB0.out.trans (HP0.out.mono HB0.out.size)⟩
theorem sb_d {X Y : Nat → Prop} {W : World} {c k : List Value} {d o : MD} (h : Dc X W c d) (h' : Dc Y W k o) (hz : d.lo.length * 8 ≤ 140737488351232) (hn : d.set = false → 0 < d.r.length ∧ 0 < o.r.length) (hdl : d.r.length ≤ 100000) (hol : o.r.length ≤ 100000) :
    Calls Tryz.prog 77 #[.agg c.toArray, .agg k.toArray] W fun e w' => e = .returned (.bool (sbM d o)) ∧ Below W.heap.size W w' := by
  cases hs : d.set
  · exact sb_n h h' hs (hn hs).1 (hn hs).2 hdl hol
  · exact sb_s h h' hs hz

set_option maxRecDepth 100000 in
set_option maxHeartbeats 4000000 in
theorem change_d {X Y : Nat → Prop} {W : World} {c k : List Value} {d o : MD} (h : Dc X W c d) (h' : Dc Y W k o) (hf' : Dm.FitsR o.r) (hz : d.lo.length * 8 ≤ 140737488351232) (hn : d.set = false → 0 < d.r.length ∧ 0 < o.r.length) (hdl : d.r.length ≤ 100000) (hol : o.r.length ≤ 100000) :
    Calls Tryz.prog 54 #[.agg c.toArray, .agg k.toArray] W fun e w' => e = .returned (.int .i64 (chM d o)) ∧ Below W.heap.size W w' := by
  obtain ⟨N, hN⟩ : ∃ N, W.heap.size = N := ⟨_, rfl⟩
  have h0 := h
  have h0' := h'
  obtain ⟨b, ra, n0, rc, a1, n1, c1, a2, n2, c2, x, y, rfl, HE, H1, H2, H3⟩ := h.look
  obtain ⟨b', ra', n0', rc', a1', n1', c1', a2', n2', c2', x', y', rfl, HE', H1', H2', H3'⟩ := h'.look
  obtain ⟨W0, hW0⟩ : ∃ Q, (W.alloc (Obj.cells #[.bool b, .slice ra n0 rc, .slice a1 n1 c1, .slice a2 n2 c2, .int .i64 x, .int .i64 y] 37)).alloc (Obj.cells #[.bool b', .slice ra' n0' rc', .slice a1' n1' c1', .slice a2' n2' c2', .int .i64 x', .int .i64 y'] 37) = Q := ⟨_, rfl⟩
  have hb0 : Below W.heap.size W W0 := by rw [← hW0]; exact (((Below.refl _ W).alloc (Nat.le_refl _) _).alloc (by simp) _)
  have HX : Hid (Bx W0 N #[.bool b, .slice ra n0 rc, .slice a1 n1 c1, .slice a2 n2 c2, .int .i64 x, .int .i64 y] 37) := by rw [← hW0]; exact (Bx.new' hN _ _).alloc _
  have HY : Hid (Bx W0 (N + 1) #[.bool b', .slice ra' n0' rc', .slice a1' n1' c1', .slice a2' n2' c2', .int .i64 x', .int .i64 y'] 37) := by rw [← hW0]; exact Bx.new' (by simp [hN]) _ _
  have ko := only_d (h0'.below hb0) hf'
  have KS : Hid (∀ w, Below W0.heap.size W0 w → Calls Tryz.prog 77 #[.agg #[.bool b, .slice ra n0 rc, .slice a1 n1 c1, .slice a2 n2 c2, .int .i64 x, .int .i64 y], .agg #[.bool b', .slice ra' n0' rc', .slice a1' n1' c1', .slice a2' n2' c2', .int .i64 x', .int .i64 y']] w fun e w' => e = .returned (.bool (sbM d o)) ∧ Below w.heap.size w w') := fun w hb => sb_d ((h0.below hb0).below hb) ((h0'.below hb0).below hb) hz hn hdl hol
  have HB0 : Hid (Below W.heap.size W W0) := hb0
  obtain ⟨zz, hzz⟩ : ∃ q, chM d o = q := ⟨_, rfl⟩
  rw [hzz]
  have HZZ : Hid (zz = if onlyA o then 1 else if sbM d o then 3 else 2) := by rw [Hid, ← hzz]; rfl
  clear hzz
  have HW0 : Hid _ := hW0
  clear hW0 h h' h0 h0' hf' hz hn hdl hol H1 H2 H3 HE H1' H2' H3' HE' hb0
  generalize onlyA o = q at *
  obtain ⟨y0, y1, y2, y3, y4, y5⟩ := HY.out.six
  go_enter Tryz.func54, Tryz.ntmps54
  go_upto_region 1 with (fail)
  rw [HW0.out]
  clear hN
  go_wp2_with fail
  refine ko.mono ?_
  clear ko y0 y1 y2 y3 y4 y5
  rintro e w1 ⟨b1, x1, sp, sn, sc, rfl, hb1⟩
  obtain ⟨w2, hw2⟩ : ∃ Q, w1.alloc (Obj.cells #[.bool b1, .int .i64 x1, .slice sp sn sc] 57) = Q := ⟨_, rfl⟩
  have hb2 : Below W0.heap.size W0 w2 := by rw [← hw2]; exact hb1.alloc hb1.size _
  have HB2 : Hid (Below W0.heap.size W0 w2) := hb2
  have HBE := hid (HB0.out.trans (hb2.mono HB0.out.size))
  have HW2 : Hid _ := hw2
  clear hw2 hb1 hb2
  cases q
  · go_upto_region 2 with (fail)
    rw [HW2.out]
    have ks := KS.out w2 HB2.out
    obtain ⟨z0, z1, z2, z3, z4, z5⟩ := (HX.out.below HB2.out).six
    obtain ⟨y0, y1, y2, y3, y4, y5⟩ := (HY.out.below HB2.out).six
    generalize sbM d o = r at *
    go_wp2_with fail
    refine ks.mono ?_
    clear ks z0 z1 z2 z3 z4 z5 y0 y1 y2 y3 y4 y5
    rintro e w3 ⟨rfl, hb3⟩
    have HB3 := hid (HBE.out.trans (hb3.mono HBE.out.size))
    cases r
    · go_wp2
      go_ret
      exact ⟨ret_int (by rw [HZZ.out]; rfl), HB3.out⟩
    · go_wp2
      go_ret
      exact ⟨ret_int (by rw [HZZ.out]; rfl), HB3.out⟩
  · go_upto_region 2 with (fail)
    rw [HW2.out]
    go_wp2
    go_ret
    exact ⟨ret_int (by rw [HZZ.out]; rfl), HBE.out⟩
end Go.Proofs.YtghnfnieppfhgaaGreat
