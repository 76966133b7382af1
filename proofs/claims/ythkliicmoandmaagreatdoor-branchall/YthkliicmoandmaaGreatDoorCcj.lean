/-
  What is proved here: what a decision leaves of a domain, by package branch.
  What is proved here: decisions given and taken; their other ones; whether they hold.
  What is proved here: whether a decision holds of a value.
-/
import Derived.Test.YthkliicmoandmaaGreatDoorBjj
import Derived.Test.YthkliicmoandmaaGreatDoorKaj
import Derived.Test.YthkliicmoandmaaGreatDoorYSdj
import Derived.Test.YthkliicmoandmaaGreatDoorYTb
import Derived.Deep.RegionHeld3
namespace Go.Proofs.YthkliicmoandmaaGreatDoor
open Go.RowKit Go.Shelf
set_option linter.unusedVariables false
set_option linter.unusedSimpArgs false

def dZ : MD := ⟨false, [], [], [], 0, 0⟩
def ofSD (s : St.SD) : MD := ⟨s.set, [], s.lo, s.up, s.least, s.most⟩
/-- What is left, and the error. -/
def resM (d : MD) (op n : Int) : MD × Int := if rightM d = false then (dZ, 20) else if fitM op d.set = false then (dZ, 1) else if op = 4 then (ofSD (St.mustD (sdM d) n), 0) else if op = 5 then (ofSD (St.notD (sdM d) n), 0) else (⟨false, numR d.r op n, [], [], 0, 0⟩, 0)
theorem Kept.mono {X Y : Nat → Prop} {w w' : World} (h : Kept X w w') (hXY : ∀ b, X b → Y b) : Kept Y w w' := ⟨h.os, h.tape, h.output, h.size, fun b hb hY => h.block b hb (fun q => hY (hXY b q))⟩
theorem dZ_dc (Z : Nat → Prop) (w : World) : Dc Z w [.bool false, .slice none 0 0, .slice none 0 0, .slice none 0 0, .int .i64 0, .int .i64 0] dZ := ⟨none, 0, none, 0, none, 0, rfl, ⟨none, 0, rfl, fun h0 => absurd h0 (by simp [dZ])⟩, Nm.empty _ _, Nm.empty _ _⟩
theorem dZ_own (B : Nat) (w : World) : OwnD B w [.bool false, .slice none 0 0, .slice none 0 0, .slice none 0 0, .int .i64 0, .int .i64 0] := ⟨_, _, _, _, _, _, _, _, _, _, _, _, rfl, WrS.nil _ _ _, WrS.nil _ _ _, WrS.nil _ _ _⟩
/-- A row of which no slice of numbers or ranges is a part is written. -/
theorem WrS.row {B k g : Nat} {w : World} {s : Value} (h : WrS B k w s) (hB : g < B) (c : Array Value) : WrS B k (w.setRow g c) s := by
  obtain ⟨a, n, cc, e, hmx, h⟩ := h
  refine ⟨a, n, cc, e, hmx, fun h0 => ?_⟩
  obtain ⟨g', cur, t, e1, e2, e3, e4⟩ := h h0
  exact ⟨g', cur, t, e1, e2, (setRow_other w g g' c (by omega)).trans e3, e4⟩
theorem OwnD.setRow {B g : Nat} {w : World} {q : List Value} (h : OwnD B w q) (hB : g < B) (c : Array Value) : OwnD B (w.setRow g c) q := by
  obtain ⟨b, p0, n0, k0, p1, n1, k1, p2, n2, k2, x, y, e, h0, h1, h2⟩ := h
  exact ⟨b, p0, n0, k0, p1, n1, k1, p2, n2, k2, x, y, e, h0.row hB c, h1.row hB c, h2.row hB c⟩
theorem OwnD.less {B B' : Nat} {w : World} {q : List Value} (h : OwnD B w q) (hB : B' ≤ B) : OwnD B' w q := by
  obtain ⟨b, p0, n0, k0, p1, n1, k1, p2, n2, k2, x, y, e, h0, h1, h2⟩ := h
  have f : ∀ k s, WrS B k w s → WrS B' k w s := fun k s h => by
    obtain ⟨a, n, cc, e, hmx, h⟩ := h
    refine ⟨a, n, cc, e, hmx, fun h0 => ?_⟩
    obtain ⟨g', cur, t, e1, e2, e3, e4⟩ := h h0
    exact ⟨g', cur, t, e1, by omega, e3, e4⟩
  exact ⟨b, p0, n0, k0, p1, n1, k1, p2, n2, k2, x, y, e, f _ _ h0, f _ _ h1, f _ _ h2⟩
/-- What is asked of a domain that is answered. -/
structure Ans (B : Nat) (w : World) (q : List Value) (d : MD) : Prop where
  own : OwnD B w q
  dc : ∀ Z : Nat → Prop, (∀ b, Z b → b < B) → Dc Z w q d
theorem Ans.one {B : Nat} {w : World} {q : List Value} {d : MD} (h : Ans B w q d) : q.length = 6 ∧ (∀ v ∈ q, v.oneCell' = true) := ⟨(h.dc (fun _ => False) (fun _ h => h.elim)).len, (h.dc (fun _ => False) (fun _ h => h.elim)).one⟩
theorem Ans.setRow {B g : Nat} {w : World} {q : List Value} {d : MD} (h : Ans B w q d) (hB : g < B) (c : Array Value) : Ans B (w.setRow g c) q d :=
  ⟨h.own.setRow hB c, fun Z hZ => (h.dc (fun b => Z b ∨ b = g) (fun b hb => by rcases hb with hb | hb; exact hZ b hb; omega)).go (X' := Z) (Kept.mono (X := fun b => b = g) ⟨rfl, rfl, rfl, by simp [World.setRow], fun b _ hb => setRow_other w g b c hb⟩ (fun b hb => .inr hb)) (fun b hb => .inl (.inl hb))⟩
theorem Ans.less {B B' : Nat} {w : World} {q : List Value} {d : MD} (h : Ans B w q d) (hB : B' ≤ B) : Ans B' w q d := ⟨h.own.less hB, fun Z hZ => h.dc Z (fun b hb => Nat.lt_of_lt_of_le (hZ b hb) hB)⟩
theorem dZ_ans (B : Nat) (w : World) : Ans B w [.bool false, .slice none 0 0, .slice none 0 0, .slice none 0 0, .int .i64 0, .int .i64 0] dZ := ⟨dZ_own B w, fun Z _ => dZ_dc Z w⟩
theorem dv_ans {B : Nat} {w : World} {v : Value} {s : St.SD} (h : St.Dv B w v s) : ∃ q : List Value, v = .agg q.toArray ∧ Ans B w q (ofSD s) := by
  obtain ⟨q, e, h1, h2⟩ := dv_own h
  exact ⟨q, e, h1, h2⟩
theorem rng_ans {B : Nat} {w : World} {p : Option Addr} {c : Nat} {r : List Dm.Rg} (h : w.ownsRow B 92 2 (.slice p r.length c) r.length (Dm.flat r)) : Ans B w [.bool false, .slice p r.length c, .slice none 0 0, .slice none 0 0, .int .i64 0, .int .i64 0] ⟨false, r, [], [], 0, 0⟩ :=
  ⟨⟨_, _, _, _, _, _, _, _, _, _, _, _, rfl, WrS.own h, WrS.nil _ _ _, WrS.nil _ _ _⟩, fun Z hZ => ⟨p, c, none, 0, none, 0, rfl, rm_own h hZ, Nm.empty _ _, Nm.empty _ _⟩⟩
theorem list6 {q : List Value} (h : q.length = 6) : ∃ c0 c1 c2 c3 c4 c5, q = [c0, c1, c2, c3, c4, c5] := by
  match q, h with
  | [c0, c1, c2, c3, c4, c5], _ => exact ⟨c0, c1, c2, c3, c4, c5, rfl⟩
set_option maxRecDepth 100000 in
set_option maxHeartbeats 4000000 in
theorem apply_any {X : Nat → Prop} {W : World} {c : List Value} {d : MD} (v op n : Int) (h : Dc X W c d) (hf : Dm.FitsR d.r) (hn : Dm.Fits n) :
    Calls Tryz.prog 20 #[.agg c.toArray, .agg #[.int .i64 v, .int .i64 op, .int .i64 n]] W fun e w' => ∃ q : List Value, e = .returned (.tuple #[.agg q.toArray, .int .i64 (resM d op n).2]) ∧ Ans W.heap.size w' q (resM d op n).1 ∧ Below W.heap.size W w' := by
  obtain ⟨N, hN⟩ : ∃ N, W.heap.size = N := ⟨_, rfl⟩
  have hlen := h.len
  have hone := h.one
  obtain ⟨c0, c1, c2, c3, c4, c5, rfl⟩ := list6 hlen
  obtain ⟨W0, hW0⟩ : ∃ Q, ((W.alloc (Obj.cells #[c0, c1, c2, c3, c4, c5] 50)).alloc (Obj.cells #[.int .i64 v, .int .i64 op, .int .i64 n] 32)).alloc (Obj.cells #[.bool false, .slice none 0 0, .slice none 0 0, .slice none 0 0, .int .i64 0, .int .i64 0] 50) = Q := ⟨_, rfl⟩
  have hb0 : Below W.heap.size W W0 := by rw [← hW0]; exact (((Below.refl _ W).alloc (Nat.le_refl _) _).alloc (by simp) _).alloc (by simp; omega) _
  have HX : Hid (Bx W0 N #[c0, c1, c2, c3, c4, c5] 50) := by rw [← hW0]; exact ((Bx.new' hN _ _).alloc _).alloc _
  have HD : Hid (Bx W0 (N + 1) #[.int .i64 v, .int .i64 op, .int .i64 n] 32) := by rw [← hW0]; exact (Bx.new' (by simp [hN]) _ _).alloc _
  have HR : Hid (Bx W0 (N + 1 + 1) #[.bool false, .slice none 0 0, .slice none 0 0, .slice none 0 0, .int .i64 0, .int .i64 0] 50) := by rw [← hW0]; exact Bx.new' (by simp [hN]) _ _
  have HS0 : Hid (W0.heap.size = N + 3) := by unfold Hid; rw [← hW0]; simp [hN]
  have HB0 : Hid (Below W.heap.size W W0) := hb0
  have HC : Hid (∀ w, Below W0.heap.size W0 w → Dc X w [c0, c1, c2, c3, c4, c5] d) := fun w hb => (h.below hb0).below hb
  have HW0 : Hid _ := hW0
  have HN : Hid (W.heap.size = N) := hN
  have HSET : Hid (c0 = .bool d.set) := by obtain ⟨_, _, _, _, _, _, e, _⟩ := h; injection e
  have kr := right_d (h.below hb0) hf
  have KF : Hid (∀ w, Calls Tryz.prog 49 #[.int .i64 op, .bool d.set] w fun e w' => e = .returned (.bool (fitM op d.set)) ∧ w' = w) := fun w => fits_any op d.set w
  have HMU : Hid (∀ w, Below W0.heap.size W0 w → Calls Tryz.prog 50 #[.agg #[c0, c1, c2, c3, c4, c5], .int .i64 n] w fun e w' => ∃ v', e = .returned v' ∧ St.Dv w.heap.size w' v' (St.mustD (sdM d) n) ∧ Below w.heap.size w w') := fun w hb => St.must_any _ _ n w (HC.out w hb).di
  have HNO : Hid (∀ w, Below W0.heap.size W0 w → Calls Tryz.prog 51 #[.agg #[c0, c1, c2, c3, c4, c5], .int .i64 n] w fun e w' => ∃ v', e = .returned v' ∧ St.Dv w.heap.size w' v' (St.notD (sdM d) n) ∧ Below w.heap.size w w') := fun w hb => St.not_any _ _ n w (HC.out w hb).di
  obtain ⟨ra, n0, rc, rfl⟩ : ∃ ra n0 rc, c1 = .slice ra n0 rc := by obtain ⟨ra, rc, _, _, _, _, e, _⟩ := h; injection e with _ e; injection e with e _; exact ⟨_, _, _, e⟩
  have HNU : Hid (knB op = true → op ≤ 3 → ∀ w, Below W0.heap.size W0 w → Calls Tryz.prog 52 #[.slice ra n0 rc, .agg #[.int .i64 v, .int .i64 op, .int .i64 n]] w fun e w' => ∃ s', e = .returned s' ∧ w'.ownsRow w.heap.size 92 2 s' (numR d.r op n).length (Dm.flat (numR d.r op n)) ∧ Below w.heap.size w w') := fun q1 q2 w hb => by
    have hd := HC.out w hb
    obtain ⟨ra', rc', _, _, _, _, e, hr, _⟩ := hd
    injection e with _ e
    injection e with e _
    rw [e]
    exact numbers_any v op n hr.sr hf hn q1 q2
  have HMM : Hid (resM d op n = if rightM d = false then (dZ, 20) else if fitM op d.set = false then (dZ, 1) else if op = 4 then (ofSD (St.mustD (sdM d) n), 0) else if op = 5 then (ofSD (St.notD (sdM d) n), 0) else (⟨false, numR d.r op n, [], [], 0, 0⟩, 0)) := rfl
  obtain ⟨ob, hob⟩ : ∃ b, d.set = b := ⟨_, rfl⟩
  have HOB : Hid (d.set = ob) := hob
  rw [hob] at HSET KF
  have hc0 := HSET.out
  subst hc0
  clear h hf hn hW0 hb0 hlen hob
  obtain ⟨z0, z1, z2, z3, z4, z5⟩ := HX.out.six
  rw [hN]
  cases hR : rightM d
  · rw [hR] at kr
    have HM : Hid (resM d op n = (dZ, 20)) := by unfold Hid; rw [HMM.out, if_pos hR]
    rw [HM.out]
    go_enter Tryz.func20, Tryz.ntmps20
    go_upto_region 1 with (fail)
    rw [HW0.out]
    clear hN
    go_wp2_with fail
    refine kr.mono ?_
    rintro e w1 ⟨rfl, hb1⟩
    have HRx : Hid (Bx w1 (N + 1 + 1) _ _) := HR.out.below hb1
    have hsz : N + 3 ≤ w1.heap.size := by have := hb1.size; have := HS0.out; omega
    have HANS : Hid (Ans w1.heap.size w1 [.bool false, .slice none 0 0, .slice none 0 0, .slice none 0 0, .int .i64 0, .int .i64 0] dZ) := dZ_ans _ _
    have HBL : Hid (Below N W w1) := by rw [← HN.out]; exact HB0.out.trans (hb1.mono HB0.out.size)
    go_wp2_with (with_reducible refine stD rfl (.tmp 4) (.tmp 10) rfl (N + 1 + 1) [.bool false, .slice none 0 0, .slice none 0 0, .slice none 0 0, .int .i64 0, .int .i64 0] (by with_unfolding_all rfl) (by with_unfolding_all rfl) HRx.out rfl HANS.out.one.1 HANS.out.one.2 ?_)
    refine ⟨rfl, _, res_ct rfl _ (HRx.out.setRow _) (by with_unfolding_all rfl) rfl Tryz.underlying50 (by rw [Tryz.sizeDom]; first | rfl | (have := HANS.out.one.1; simp at this ⊢; omega)) (v := .int .i64 20) (by with_unfolding_all rfl), [.bool false, .slice none 0 0, .slice none 0 0, .slice none 0 0, .int .i64 0, .int .i64 0], rfl, (HANS.out.setRow (by omega) _).less (by omega), ?_⟩
    exact below_row HBL.out (by omega) _
  · rw [hR] at kr
    have hR' : ¬ rightM d = false := by rw [hR]; decide
    obtain ⟨y0, y1, y2⟩ := HD.out.three
    cases hF : fitM op ob
    · have HM : Hid (resM d op n = (dZ, 1)) := by unfold Hid; rw [HMM.out, if_neg hR', if_pos (by rw [HOB.out]; exact hF)]
      rw [HM.out]
      rw [hF] at KF
      go_enter Tryz.func20, Tryz.ntmps20
      go_upto_region 1 with (fail)
      rw [HW0.out]
      clear hN
      go_wp2_with fail
      refine kr.mono ?_
      rintro e w1 ⟨rfl, hb1⟩
      have HRx : Hid (Bx w1 (N + 1 + 1) _ _) := HR.out.below hb1
      have hsz : N + 3 ≤ w1.heap.size := by have := hb1.size; have := HS0.out; omega
      have HANS : Hid (Ans w1.heap.size w1 [.bool false, .slice none 0 0, .slice none 0 0, .slice none 0 0, .int .i64 0, .int .i64 0] dZ) := dZ_ans _ _
      have HBL : Hid (Below N W w1) := by rw [← HN.out]; exact HB0.out.trans (hb1.mono HB0.out.size)
      clear z0 z1 z2 z3 z4 z5 y0 y1 y2
      obtain ⟨z0, z1, z2, z3, z4, z5⟩ := (HX.out.below hb1).six
      obtain ⟨y0, y1, y2⟩ := (HD.out.below hb1).three
      go_wp2_with fail
      refine (KF.out w1).mono ?_
      rintro e wt ⟨rfl, hwt⟩
      rw [hwt]
      clear hwt wt
      go_wp2_with (with_reducible refine stD rfl (.tmp 4) (.tmp 18) rfl (N + 1 + 1) [.bool false, .slice none 0 0, .slice none 0 0, .slice none 0 0, .int .i64 0, .int .i64 0] (by with_unfolding_all rfl) (by with_unfolding_all rfl) HRx.out rfl HANS.out.one.1 HANS.out.one.2 ?_)
      refine ⟨rfl, _, res_ct rfl _ (HRx.out.setRow _) (by with_unfolding_all rfl) rfl Tryz.underlying50 (by rw [Tryz.sizeDom]; first | rfl | (have := HANS.out.one.1; simp at this ⊢; omega)) (v := .int .i64 1) (by with_unfolding_all rfl), [.bool false, .slice none 0 0, .slice none 0 0, .slice none 0 0, .int .i64 0, .int .i64 0], rfl, (HANS.out.setRow (by omega) _).less (by omega), ?_⟩
      exact below_row HBL.out (by omega) _
    · rw [hF] at KF
      have hF2 := hF
      unfold fitM at hF2
      simp only [Bool.and_eq_true, beq_iff_eq] at hF2
      obtain ⟨hK, h4b⟩ := hF2
      have hF' : ¬ fitM op d.set = false := by rw [HOB.out, hF]; decide
      have hK2 := hK
      unfold knB at hK2
      simp only [Bool.and_eq_true, decide_eq_true_eq] at hK2
      have START : True := trivial
      by_cases h4 : op = 4
      · subst h4
        have HM : Hid (resM d 4 n = (ofSD (St.mustD (sdM d) n), 0)) := by unfold Hid; rw [HMM.out, if_neg hR', if_neg hF', if_pos rfl]
        rw [HM.out]
        go_enter Tryz.func20, Tryz.ntmps20
        go_upto_region 1 with (fail)
        rw [HW0.out]
        clear hN
        go_wp2_with fail
        refine kr.mono ?_
        rintro e w1 ⟨rfl, hb1⟩
        clear z0 z1 z2 z3 z4 z5 y0 y1 y2
        obtain ⟨z0, z1, z2, z3, z4, z5⟩ := (HX.out.below hb1).six
        obtain ⟨y0, y1, y2⟩ := (HD.out.below hb1).three
        go_wp2_with fail
        refine (KF.out w1).mono ?_
        rintro e wt ⟨rfl, hwt⟩
        rw [hwt]
        clear hwt wt
        go_wp2_with fail
        refine (HMU.out w1 hb1).mono ?_
        rintro e w2 ⟨v', rfl, hv', hb2⟩
        obtain ⟨q, rfl, hans⟩ := dv_ans hv'
        have hq6 := hans.one.1
        obtain ⟨q0, q1, q2, q3, q4, q5, rfl⟩ := list6 hq6
        have HANS0 : Hid (Ans w1.heap.size w2 [q0, q1, q2, q3, q4, q5] _) := hans
        clear hv' hans hq6
        have HRx : Hid (Bx w2 (N + 1 + 1) _ _) := (HR.out.below hb1).below hb2
        have hsz : N + 3 ≤ w1.heap.size := by have := hb1.size; have := HS0.out; omega
        have HANS : Hid (Ans w1.heap.size w2 [q0, q1, q2, q3, q4, q5] _) := HANS0.out
        have HBL : Hid (Below N W w2) := by rw [← HN.out]; exact HB0.out.trans ((hb1.trans (hb2.mono hb1.size)).mono HB0.out.size)
        go_wp2_with (with_reducible refine stD rfl (.tmp 4) (.tmp 26) rfl (N + 1 + 1) [q0, q1, q2, q3, q4, q5] (by with_unfolding_all rfl) (by with_unfolding_all rfl) HRx.out rfl HANS.out.one.1 HANS.out.one.2 ?_)
        refine ⟨rfl, _, res_ct rfl _ (HRx.out.setRow _) (by with_unfolding_all rfl) rfl Tryz.underlying50 (by rw [Tryz.sizeDom]; first | rfl | (have := HANS.out.one.1; simp at this ⊢; omega)) (v := .int .i64 0) (by with_unfolding_all rfl), [q0, q1, q2, q3, q4, q5], rfl, (HANS.out.setRow (by omega) _).less (by omega), ?_⟩
        exact below_row HBL.out (by omega) _

      · by_cases h5 : op = 5
        · subst h5
          have HM : Hid (resM d 5 n = (ofSD (St.notD (sdM d) n), 0)) := by unfold Hid; rw [HMM.out, if_neg hR', if_neg hF', if_neg h4, if_pos rfl]
          rw [HM.out]
          go_enter Tryz.func20, Tryz.ntmps20
          go_upto_region 1 with (fail)
          rw [HW0.out]
          clear hN
          go_wp2_with fail
          refine kr.mono ?_
          rintro e w1 ⟨rfl, hb1⟩
          clear z0 z1 z2 z3 z4 z5 y0 y1 y2
          obtain ⟨z0, z1, z2, z3, z4, z5⟩ := (HX.out.below hb1).six
          obtain ⟨y0, y1, y2⟩ := (HD.out.below hb1).three
          go_wp2_with fail
          refine (KF.out w1).mono ?_
          rintro e wt ⟨rfl, hwt⟩
          rw [hwt]
          clear hwt wt
          go_wp2_with fail
          refine (HNO.out w1 hb1).mono ?_
          rintro e w2 ⟨v', rfl, hv', hb2⟩
          obtain ⟨q, rfl, hans⟩ := dv_ans hv'
          have hq6 := hans.one.1
          obtain ⟨q0, q1, q2, q3, q4, q5, rfl⟩ := list6 hq6
          have HANS0 : Hid (Ans w1.heap.size w2 [q0, q1, q2, q3, q4, q5] _) := hans
          clear hv' hans hq6
          have HRx : Hid (Bx w2 (N + 1 + 1) _ _) := (HR.out.below hb1).below hb2
          have hsz : N + 3 ≤ w1.heap.size := by have := hb1.size; have := HS0.out; omega
          have HANS : Hid (Ans w1.heap.size w2 [q0, q1, q2, q3, q4, q5] _) := HANS0.out
          have HBL : Hid (Below N W w2) := by rw [← HN.out]; exact HB0.out.trans ((hb1.trans (hb2.mono hb1.size)).mono HB0.out.size)
          go_wp2_with (with_reducible refine stD rfl (.tmp 4) (.tmp 32) rfl (N + 1 + 1) [q0, q1, q2, q3, q4, q5] (by with_unfolding_all rfl) (by with_unfolding_all rfl) HRx.out rfl HANS.out.one.1 HANS.out.one.2 ?_)
          refine ⟨rfl, _, res_ct rfl _ (HRx.out.setRow _) (by with_unfolding_all rfl) rfl Tryz.underlying50 (by rw [Tryz.sizeDom]; first | rfl | (have := HANS.out.one.1; simp at this ⊢; omega)) (v := .int .i64 0) (by with_unfolding_all rfl), [q0, q1, q2, q3, q4, q5], rfl, (HANS.out.setRow (by omega) _).less (by omega), ?_⟩
          exact below_row HBL.out (by omega) _

        · have HM : Hid (resM d op n = (⟨false, numR d.r op n, [], [], 0, 0⟩, 0)) := by unfold Hid; rw [HMM.out, if_neg hR', if_neg hF', if_neg h4, if_neg h5]
          have e4 : (op == 4) = false := by simpa using h4
          have e5 : (op == 5) = false := by simpa using h5
          have KN := HNU.out hK (by omega)
          have HKN : Hid _ := KN
          clear KN HNU
          rw [HM.out]
          go_enter Tryz.func20, Tryz.ntmps20
          go_upto_region 1 with (fail)
          rw [HW0.out]
          clear hN
          go_wp2_with fail
          refine kr.mono ?_
          rintro e w1 ⟨rfl, hb1⟩
          clear z0 z1 z2 z3 z4 z5 y0 y1 y2
          obtain ⟨z0, z1, z2, z3, z4, z5⟩ := (HX.out.below hb1).six
          obtain ⟨y0, y1, y2⟩ := (HD.out.below hb1).three
          go_wp2_with fail
          refine (KF.out w1).mono ?_
          rintro e wt ⟨rfl, hwt⟩
          rw [hwt]
          clear hwt wt
          go_wp2_with fail
          refine (HKN.out w1 hb1).mono ?_
          rintro e w2 ⟨s', rfl, ho, hb2⟩
          obtain ⟨p', c', rfl⟩ : ∃ p c, s' = .slice p (numR d.r op n).length c := by
            rcases ho.2 with ⟨e1, e2⟩ | ⟨g, cap, cur, e1, _⟩
            · exact ⟨none, 0, by rw [e2]; exact e1⟩
            · exact ⟨_, _, e1⟩
          have HANS0 : Hid (Ans w1.heap.size w2 [.bool false, .slice p' (numR d.r op n).length c', .slice none 0 0, .slice none 0 0, .int .i64 0, .int .i64 0] _) := rng_ans ho
          clear ho
          have HRx : Hid (Bx w2 (N + 1 + 1) _ _) := (HR.out.below hb1).below hb2
          have hsz : N + 3 ≤ w1.heap.size := by have := hb1.size; have := HS0.out; omega
          have HANS : Hid (Ans w1.heap.size w2 [.bool false, .slice p' (numR d.r op n).length c', .slice none 0 0, .slice none 0 0, .int .i64 0, .int .i64 0] _) := HANS0.out
          have HBL : Hid (Below N W w2) := by rw [← HN.out]; exact HB0.out.trans ((hb1.trans (hb2.mono hb1.size)).mono HB0.out.size)
          go_wp2_with (with_reducible refine stD rfl (.tmp 4) (.tmp 37) rfl (N + 1 + 1) [.bool false, .slice p' (numR d.r op n).length c', .slice none 0 0, .slice none 0 0, .int .i64 0, .int .i64 0] (by with_unfolding_all rfl) (by with_unfolding_all rfl) HRx.out rfl HANS.out.one.1 HANS.out.one.2 ?_)
          refine ⟨rfl, _, res_ct rfl _ (HRx.out.setRow _) (by with_unfolding_all rfl) rfl Tryz.underlying50 (by rw [Tryz.sizeDom]; first | rfl | (have := HANS.out.one.1; simp at this ⊢; omega)) (v := .int .i64 0) (by with_unfolding_all rfl), [.bool false, .slice p' (numR d.r op n).length c', .slice none 0 0, .slice none 0 0, .int .i64 0, .int .i64 0], rfl, (HANS.out.setRow (by omega) _).less (by omega), ?_⟩
          exact below_row HBL.out (by omega) _

end Go.Proofs.YthkliicmoandmaaGreatDoor

namespace Go.Proofs.YthkliicmoandmaaGreatDoor
open Go.RowKit Go.Shelf
set_option linter.unusedVariables false
set_option linter.unusedSimpArgs false

set_option maxRecDepth 100000 in
set_option maxHeartbeats 4000000 in
theorem not_dec (v op n : Int) (W : World) : Calls Tryz.prog 23 #[.agg #[.int .i64 v, .int .i64 op, .int .i64 n]] W fun e w' => e = .returned (.agg #[.int .i64 v, .int .i64 (otM op), .int .i64 n]) ∧ Below W.heap.size W w' := by
  obtain ⟨N, hN⟩ : ∃ N, W.heap.size = N := ⟨_, rfl⟩
  obtain ⟨W0, hW0⟩ : ∃ Q, (W.alloc (Obj.cells #[.int .i64 v, .int .i64 op, .int .i64 n] 32)).alloc (Obj.cells #[.int .i64 0, .int .i64 0, .int .i64 0] 32) = Q := ⟨_, rfl⟩
  have hb0 : Below N W W0 := by rw [← hW0, ← hN]; exact ((Below.refl _ W).alloc (Nat.le_refl _) _).alloc (by simp) _
  have hx : Bx W0 N #[.int .i64 v, .int .i64 op, .int .i64 n] 32 := by rw [← hW0]; exact (Bx.new' hN _ _).alloc _
  have hy : Bx W0 (N + 1) #[.int .i64 0, .int .i64 0, .int .i64 0] 32 := by rw [← hW0]; exact Bx.new' (by simp [hN]) _ _
  have HY : Hid _ := hy
  have HB : Hid (Below N W W0) := hb0
  have HW0 : Hid _ := hW0
  obtain ⟨z0, z1, z2⟩ := hx.three
  obtain ⟨y0, y1, y2⟩ := hy.three
  have f0 := hx.fr 1
  have g0 := hy.fr 0
  have g1 := hy.fr 1
  have g2 := hy.fr 2
  have kb := bknown_any op W0
  rw [hN]
  clear hx hy hb0 hW0
  cases hK : knB op
  · rw [hK] at kb
    have HOT : Hid (otM op = op) := by
      unfold Hid otM
      unfold knB at hK
      simp only [Bool.and_eq_false_iff, decide_eq_false_iff_not] at hK
      rw [if_neg (by omega), if_neg (by omega), if_neg (by omega), if_neg (by omega), if_neg (by omega), if_neg (by omega)]
    rw [HOT.out]
    unfold knB at hK
    go_enter Tryz.func23, Tryz.ntmps23
    go_upto_region 1 with (fail)
    rw [HW0.out]
    clear hN
    go_wp2_with fail
    refine kb.mono ?_
    clear kb
    rintro e wt ⟨rfl, hwt⟩
    rw [hwt]
    clear hwt wt
    go_wp2
    refine ⟨rfl, _, results_cell_row rfl _ _ (N + 1) 32 _ (0, 0) _ rfl (HY.out.set3 _ _ _).h Tryz.underlying32 rfl (by kernel_rfl), rfl, ?_⟩
    exact ((HB.out.setCell (p := ⟨N + 1, 0, none⟩) (by show N ≤ N + 1; omega) _).setCell (p := ⟨N + 1, 1, none⟩) (by show N ≤ N + 1; omega) _).setCell (p := ⟨N + 1, 2, none⟩) (by show N ≤ N + 1; omega) _
  · rw [hK] at kb
    unfold knB at hK
    simp only [Bool.and_eq_true, decide_eq_true_eq] at hK
    have h6 : op = 0 ∨ op = 1 ∨ op = 2 ∨ op = 3 ∨ op = 4 ∨ op = 5 := by omega
    clear hK
    rcases h6 with rfl | rfl | rfl | rfl | rfl | rfl
    · rw [show otM 0 = 1 from by decide]
      go_enter Tryz.func23, Tryz.ntmps23
      go_upto_region 1 with (fail)
      rw [HW0.out]
      clear hN
      go_wp2_with fail
      refine kb.mono ?_
      clear kb
      rintro e wt ⟨rfl, hwt⟩
      rw [hwt]
      clear hwt wt
      go_wp2
      refine ⟨rfl, _, results_cell_row rfl _ _ (N + 1) 32 _ (0, 0) _ rfl ((HY.out.other (by omega) 1 _).set3 _ _ _).h Tryz.underlying32 rfl (by kernel_rfl), rfl, ?_⟩
      exact (((HB.out.setCell (p := ⟨N, 1, none⟩) (Nat.le_refl _) _).setCell (p := ⟨N + 1, 0, none⟩) (by show N ≤ N + 1; omega) _).setCell (p := ⟨N + 1, 1, none⟩) (by show N ≤ N + 1; omega) _).setCell (p := ⟨N + 1, 2, none⟩) (by show N ≤ N + 1; omega) _
    · rw [show otM 1 = 0 from by decide]
      go_enter Tryz.func23, Tryz.ntmps23
      go_upto_region 1 with (fail)
      rw [HW0.out]
      clear hN
      go_wp2_with fail
      refine kb.mono ?_
      clear kb
      rintro e wt ⟨rfl, hwt⟩
      rw [hwt]
      clear hwt wt
      go_wp2
      refine ⟨rfl, _, results_cell_row rfl _ _ (N + 1) 32 _ (0, 0) _ rfl ((HY.out.other (by omega) 1 _).set3 _ _ _).h Tryz.underlying32 rfl (by kernel_rfl), rfl, ?_⟩
      exact (((HB.out.setCell (p := ⟨N, 1, none⟩) (Nat.le_refl _) _).setCell (p := ⟨N + 1, 0, none⟩) (by show N ≤ N + 1; omega) _).setCell (p := ⟨N + 1, 1, none⟩) (by show N ≤ N + 1; omega) _).setCell (p := ⟨N + 1, 2, none⟩) (by show N ≤ N + 1; omega) _
    · rw [show otM 2 = 3 from by decide]
      go_enter Tryz.func23, Tryz.ntmps23
      go_upto_region 1 with (fail)
      rw [HW0.out]
      clear hN
      go_wp2_with fail
      refine kb.mono ?_
      clear kb
      rintro e wt ⟨rfl, hwt⟩
      rw [hwt]
      clear hwt wt
      go_wp2
      refine ⟨rfl, _, results_cell_row rfl _ _ (N + 1) 32 _ (0, 0) _ rfl ((HY.out.other (by omega) 1 _).set3 _ _ _).h Tryz.underlying32 rfl (by kernel_rfl), rfl, ?_⟩
      exact (((HB.out.setCell (p := ⟨N, 1, none⟩) (Nat.le_refl _) _).setCell (p := ⟨N + 1, 0, none⟩) (by show N ≤ N + 1; omega) _).setCell (p := ⟨N + 1, 1, none⟩) (by show N ≤ N + 1; omega) _).setCell (p := ⟨N + 1, 2, none⟩) (by show N ≤ N + 1; omega) _
    · rw [show otM 3 = 2 from by decide]
      go_enter Tryz.func23, Tryz.ntmps23
      go_upto_region 1 with (fail)
      rw [HW0.out]
      clear hN
      go_wp2_with fail
      refine kb.mono ?_
      clear kb
      rintro e wt ⟨rfl, hwt⟩
      rw [hwt]
      clear hwt wt
      go_wp2
      refine ⟨rfl, _, results_cell_row rfl _ _ (N + 1) 32 _ (0, 0) _ rfl ((HY.out.other (by omega) 1 _).set3 _ _ _).h Tryz.underlying32 rfl (by kernel_rfl), rfl, ?_⟩
      exact (((HB.out.setCell (p := ⟨N, 1, none⟩) (Nat.le_refl _) _).setCell (p := ⟨N + 1, 0, none⟩) (by show N ≤ N + 1; omega) _).setCell (p := ⟨N + 1, 1, none⟩) (by show N ≤ N + 1; omega) _).setCell (p := ⟨N + 1, 2, none⟩) (by show N ≤ N + 1; omega) _
    · rw [show otM 4 = 5 from by decide]
      go_enter Tryz.func23, Tryz.ntmps23
      go_upto_region 1 with (fail)
      rw [HW0.out]
      clear hN
      go_wp2_with fail
      refine kb.mono ?_
      clear kb
      rintro e wt ⟨rfl, hwt⟩
      rw [hwt]
      clear hwt wt
      go_wp2
      refine ⟨rfl, _, results_cell_row rfl _ _ (N + 1) 32 _ (0, 0) _ rfl ((HY.out.other (by omega) 1 _).set3 _ _ _).h Tryz.underlying32 rfl (by kernel_rfl), rfl, ?_⟩
      exact (((HB.out.setCell (p := ⟨N, 1, none⟩) (Nat.le_refl _) _).setCell (p := ⟨N + 1, 0, none⟩) (by show N ≤ N + 1; omega) _).setCell (p := ⟨N + 1, 1, none⟩) (by show N ≤ N + 1; omega) _).setCell (p := ⟨N + 1, 2, none⟩) (by show N ≤ N + 1; omega) _
    · rw [show otM 5 = 4 from by decide]
      go_enter Tryz.func23, Tryz.ntmps23
      go_upto_region 1 with (fail)
      rw [HW0.out]
      clear hN
      go_wp2_with fail
      refine kb.mono ?_
      clear kb
      rintro e wt ⟨rfl, hwt⟩
      rw [hwt]
      clear hwt wt
      go_wp2
      refine ⟨rfl, _, results_cell_row rfl _ _ (N + 1) 32 _ (0, 0) _ rfl ((HY.out.other (by omega) 1 _).set3 _ _ _).h Tryz.underlying32 rfl (by kernel_rfl), rfl, ?_⟩
      exact (((HB.out.setCell (p := ⟨N, 1, none⟩) (Nat.le_refl _) _).setCell (p := ⟨N + 1, 0, none⟩) (by show N ≤ N + 1; omega) _).setCell (p := ⟨N + 1, 1, none⟩) (by show N ≤ N + 1; omega) _).setCell (p := ⟨N + 1, 2, none⟩) (by show N ≤ N + 1; omega) _

end Go.Proofs.YthkliicmoandmaaGreatDoor

namespace Go.Proofs.YthkliicmoandmaaGreatDoor
open Go.RowKit Go.Shelf
set_option linter.unusedVariables false
set_option linter.unusedSimpArgs false

/-- Whether a decision holds. -/
def hoM (op n : Int) (st : Bool) (vn : Int) (vs : List Int) : Bool := if st then (if op = 4 then (St.tkS vs).contains n else if op = 5 then !(St.tkS vs).contains n else false) else (if op = 0 then vn == n else if op = 1 then vn != n else if op = 2 then decide (vn ≤ n) else if op = 3 then decide (n < vn) else false)
theorem knB_cases {op : Int} (h : knB op = true) : op = 0 ∨ op = 1 ∨ op = 2 ∨ op = 3 ∨ op = 4 ∨ op = 5 := by
  unfold knB at h
  simp only [Bool.and_eq_true, decide_eq_true_eq] at h
  omega
theorem knB_no {op : Int} (h : knB op = false) : op ≠ 0 ∧ op ≠ 1 ∧ op ≠ 2 ∧ op ≠ 3 ∧ op ≠ 4 ∧ op ≠ 5 := by
  unfold knB at h
  simp only [Bool.and_eq_false_iff, decide_eq_false_iff_not] at h
  omega
end Go.Proofs.YthkliicmoandmaaGreatDoor
