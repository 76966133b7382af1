/-
  What is proved here: what a decision leaves of a domain, by the reference.
-/
import Derived.Test.YtfcaemfledlnnaaGreatDoorCbj
namespace Go.Proofs.YtfcaemfledlnnaaGreatDoor
open Go.RowKit Go.Shelf
set_option linter.unusedVariables false
set_option linter.unusedSimpArgs false

theorem cut_none (l : List Dm.Rg) : Dm.cutL l 1000001 1000000 = [] := by
  unfold Dm.cutL
  rw [List.filterMap_eq_nil_iff]
  intro r _
  cases h : Dm.cut1 1000001 1000000 r with
  | none => rfl
  | some p => obtain ⟨h1, h2, h3, h4, h5, _⟩ := Dm.cut1_some h; omega

set_option maxRecDepth 100000 in
set_option maxHeartbeats 4000000 in
theorem rapply_any {X : Nat → Prop} {W : World} {c : List Value} {d : MD} (v op n : Int) (h : Dc X W c d) (hf : Dm.FitsR d.r) (hn : Dm.Fits n) :
    Calls Tryz.prog 21 #[.agg c.toArray, .agg #[.int .i64 v, .int .i64 op, .int .i64 n]] W fun e w' => ∃ q : List Value, e = .returned (.tuple #[.agg q.toArray, .int .i64 (resM d op n).2]) ∧ Ans W.heap.size w' q (resM d op n).1 ∧ Below W.heap.size W w' := by
  obtain ⟨N, hN⟩ : ∃ N, W.heap.size = N := ⟨_, rfl⟩
  have hlen := h.len
  have hone := h.one
  obtain ⟨c0, c1, c2, c3, c4, c5, rfl⟩ := list6 hlen
  obtain ⟨W0, hW0⟩ : ∃ Q, ((W.alloc (Obj.cells #[c0, c1, c2, c3, c4, c5] 50)).alloc (Obj.cells #[.int .i64 v, .int .i64 op, .int .i64 n] 35)).alloc (Obj.cells #[.bool false, .slice none 0 0, .slice none 0 0, .slice none 0 0, .int .i64 0, .int .i64 0] 50) = Q := ⟨_, rfl⟩
  have hb0 : Below W.heap.size W W0 := by rw [← hW0]; exact (((Below.refl _ W).alloc (Nat.le_refl _) _).alloc (by simp) _).alloc (by simp; omega) _
  have HX : Hid (Bx W0 N #[c0, c1, c2, c3, c4, c5] 50) := by rw [← hW0]; exact ((Bx.new' hN _ _).alloc _).alloc _
  have HD : Hid (Bx W0 (N + 1) #[.int .i64 v, .int .i64 op, .int .i64 n] 35) := by rw [← hW0]; exact (Bx.new' (by simp [hN]) _ _).alloc _
  have HR : Hid (Bx W0 (N + 1 + 1) #[.bool false, .slice none 0 0, .slice none 0 0, .slice none 0 0, .int .i64 0, .int .i64 0] 50) := by rw [← hW0]; exact Bx.new' (by simp [hN]) _ _
  have HS0 : Hid (W0.heap.size = N + 3) := by unfold Hid; rw [← hW0]; simp [hN]
  have HB0 : Hid (Below W.heap.size W W0) := hb0
  have HC : Hid (∀ w, Below W0.heap.size W0 w → Dc X w [c0, c1, c2, c3, c4, c5] d) := fun w hb => (h.below hb0).below hb
  have HW0 : Hid _ := hW0
  have HN : Hid (W.heap.size = N) := hN
  have HSET : Hid (c0 = .bool d.set) := by obtain ⟨_, _, _, _, _, _, e, _⟩ := h; injection e
  have kr := rright_d (h.below hb0) hf
  have HMU : Hid (∀ w, Below W0.heap.size W0 w → Calls Tryz.prog 55 #[.agg #[c0, c1, c2, c3, c4, c5], .int .i64 n] w fun e w' => ∃ v', e = .returned v' ∧ St.Dv w.heap.size w' v' (St.mustD (sdM d) n) ∧ Below w.heap.size w w') := fun w hb => by rw [← St.must_same]; exact St.refmust_any _ _ n w (HC.out w hb).di
  have HNO : Hid (∀ w, Below W0.heap.size W0 w → Calls Tryz.prog 56 #[.agg #[c0, c1, c2, c3, c4, c5], .int .i64 n] w fun e w' => ∃ v', e = .returned v' ∧ St.Dv w.heap.size w' v' (St.notD (sdM d) n) ∧ Below w.heap.size w w') := fun w hb => by rw [← St.not_same]; exact St.refnot_any _ _ n w (HC.out w hb).di
  obtain ⟨ra, n0, rc, rfl⟩ : ∃ ra n0 rc, c1 = .slice ra n0 rc := by obtain ⟨ra, rc, _, _, _, _, e, _⟩ := h; injection e with _ e; injection e with e _; exact ⟨_, _, _, e⟩
  have HSR : Hid (∀ w, Below W0.heap.size W0 w → Dm.Sr w (.slice ra n0 rc) d.r) := fun w hb => by
    have hd := HC.out w hb
    obtain ⟨ra', rc', _, _, _, _, e, hr, _⟩ := hd
    injection e with _ e
    injection e with e _
    rw [e]
    exact hr.sr
  have HCU : Hid (∀ a b w, Below W0.heap.size W0 w → Calls Tryz.prog 53 #[.slice ra n0 rc, .int .i64 a, .int .i64 b] w fun e w' => ∃ s', e = .returned s' ∧ w'.ownsRow w.heap.size 92 2 s' (Dm.cutL (Dm.tk d.r) a b).length (Dm.flat (Dm.cutL (Dm.tk d.r) a b)) ∧ Below w.heap.size w w') := fun a b w hb => (Dm.refcut_tk _ d.r a b w (HSR.out w hb)).mono fun e w' ⟨s', h1, h2, _, h3⟩ => ⟨s', h1, h2, h3⟩
  have HWO : Hid (∀ w, Below W0.heap.size W0 w → Calls Tryz.prog 54 #[.slice ra n0 rc, .int .i64 n] w fun e w' => ∃ s', e = .returned s' ∧ w'.ownsRow w.heap.size 92 2 s' (Dm.woR d.r n).length (Dm.flat (Dm.woR d.r n)) ∧ Below w.heap.size w w') := fun w hb => Dm.refwithout_any _ d.r n w (HSR.out w hb)
  have HMM : Hid (resM d op n = if rightM d = false then (dZ, 20) else if fitM op d.set = false then (dZ, 1) else if op = 4 then (ofSD (St.mustD (sdM d) n), 0) else if op = 5 then (ofSD (St.notD (sdM d) n), 0) else (⟨false, numR d.r op n, [], [], 0, 0⟩, 0)) := rfl
  have hn1 : -9223372036854775808 ≤ n := hn.1
  have hn2 : n ≤ 9223372036854775807 := hn.2
  obtain ⟨ob, hob⟩ : ∃ b, d.set = b := ⟨_, rfl⟩
  have HOB : Hid (d.set = ob) := hob
  rw [hob] at HSET
  have hc0 := HSET.out
  subst hc0
  clear h hf hn hW0 hb0 hlen hob
  obtain ⟨z0, z1, z2, z3, z4, z5⟩ := HX.out.six
  obtain ⟨y0, y1, y2⟩ := HD.out.three
  rw [hN]
  cases hR : rightM d
  · rw [hR] at kr
    have HM : Hid (resM d op n = (dZ, 20)) := by unfold Hid; rw [HMM.out, if_pos hR]
    rw [HM.out]
    go_enter Tryz.func21, Tryz.ntmps21
    go_upto_region 1 with (fail)
    rw [HW0.out]
    clear hN
    go_wp2_with fail
    refine kr.mono ?_
    rintro e w1 ⟨rfl, hb1⟩
    have HRx : Hid (Bx w1 (N + 1 + 1) _ _) := HR.out.below hb1
    have hsz : N + 3 ≤ w1.heap.size := by have := hb1.size; have := HS0.out; omega
    have HANS : Hid (Ans w1.heap.size w1 [.bool false, .slice none 0 0, .slice none 0 0, .slice none 0 0, .int .i64 0, .int .i64 0] dZ) := dZ_ans _ _
    have HBL : Hid (Below N W w1) := by rw [← HN.out]; exact HB0.out.trans (hb1.mono HB0.out.size)
    go_wp2_with (with_reducible refine stD rfl (.tmp 4) (.tmp 9) rfl (N + 1 + 1) [.bool false, .slice none 0 0, .slice none 0 0, .slice none 0 0, .int .i64 0, .int .i64 0] (by with_unfolding_all rfl) (by with_unfolding_all rfl) HRx.out rfl HANS.out.one.1 HANS.out.one.2 ?_)
    refine ⟨rfl, _, res_ct rfl _ (HRx.out.setRow _) (by with_unfolding_all rfl) rfl Tryz.underlying50 (by rw [Tryz.sizeDom]; first | rfl | (have := HANS.out.one.1; simp at this ⊢; omega)) (v := .int .i64 20) (by with_unfolding_all rfl), [.bool false, .slice none 0 0, .slice none 0 0, .slice none 0 0, .int .i64 0, .int .i64 0], rfl, (HANS.out.setRow (by omega) _).less (by omega), ?_⟩
    exact below_row HBL.out (by omega) _
  · rw [hR] at kr
    have hR' : ¬ rightM d = false := by rw [hR]; decide
    have BAD : fitM op ob = false → (op < 0 ∨ 5 < op ∨ (0 ≤ op ∧ op ≤ 5 ∧ (ob != decide (4 ≤ op)) = true)) := by
      intro hF
      unfold fitM knB at hF
      by_cases q1 : 0 ≤ op
      · by_cases q2 : op ≤ 5
        · right; right
          refine ⟨q1, q2, ?_⟩
          simp only [q1, q2, decide_true, Bool.and_self, Bool.true_and] at hF
          revert hF
          cases ob <;> cases decide (4 ≤ op) <;> simp
        · exact .inr (.inl (by omega))
      · exact .inl (by omega)
    cases hF : fitM op ob
    · have HM : Hid (resM d op n = (dZ, 1)) := by unfold Hid; rw [HMM.out, if_neg hR', if_pos (by rw [HOB.out]; exact hF)]
      rw [HM.out]
      rcases BAD hF with hb | hb | ⟨q1, q2, hb⟩
      · have s1 : decide (op < 0) = true := by simpa using hb
        go_enter Tryz.func21, Tryz.ntmps21
        go_upto_region 1 with (fail)
        rw [HW0.out]
        clear hN
        go_wp2_with fail
        refine kr.mono ?_
        rintro e w1 ⟨rfl, hb1⟩
        clear z0 z1 z2 z3 z4 z5 y0 y1 y2
        obtain ⟨z0, z1, z2, z3, z4, z5⟩ := (HX.out.below hb1).six
        obtain ⟨y0, y1, y2⟩ := (HD.out.below hb1).three
        have HRx : Hid (Bx w1 (N + 1 + 1) _ _) := HR.out.below hb1
        have hsz : N + 3 ≤ w1.heap.size := by have := hb1.size; have := HS0.out; omega
        have HANS : Hid (Ans w1.heap.size w1 [.bool false, .slice none 0 0, .slice none 0 0, .slice none 0 0, .int .i64 0, .int .i64 0] dZ) := dZ_ans _ _
        have HBL : Hid (Below N W w1) := by rw [← HN.out]; exact HB0.out.trans (hb1.mono HB0.out.size)
        go_wp2_with (with_reducible refine stD rfl (.tmp 4) (.tmp 26) rfl (N + 1 + 1) [.bool false, .slice none 0 0, .slice none 0 0, .slice none 0 0, .int .i64 0, .int .i64 0] (by with_unfolding_all rfl) (by with_unfolding_all rfl) HRx.out rfl HANS.out.one.1 HANS.out.one.2 ?_)
        refine ⟨rfl, _, res_ct rfl _ (HRx.out.setRow _) (by with_unfolding_all rfl) rfl Tryz.underlying50 (by rw [Tryz.sizeDom]; first | rfl | (have := HANS.out.one.1; simp at this ⊢; omega)) (v := .int .i64 1) (by with_unfolding_all rfl), [.bool false, .slice none 0 0, .slice none 0 0, .slice none 0 0, .int .i64 0, .int .i64 0], rfl, (HANS.out.setRow (by omega) _).less (by omega), ?_⟩
        exact below_row HBL.out (by omega) _
      · have s1 : decide (op < 0) = false := by simp; omega
        have s2 : decide (5 < op) = true := by simpa using hb
        go_enter Tryz.func21, Tryz.ntmps21
        go_upto_region 1 with (fail)
        rw [HW0.out]
        clear hN
        go_wp2_with fail
        refine kr.mono ?_
        rintro e w1 ⟨rfl, hb1⟩
        clear z0 z1 z2 z3 z4 z5 y0 y1 y2
        obtain ⟨z0, z1, z2, z3, z4, z5⟩ := (HX.out.below hb1).six
        obtain ⟨y0, y1, y2⟩ := (HD.out.below hb1).three
        have HRx : Hid (Bx w1 (N + 1 + 1) _ _) := HR.out.below hb1
        have hsz : N + 3 ≤ w1.heap.size := by have := hb1.size; have := HS0.out; omega
        have HANS : Hid (Ans w1.heap.size w1 [.bool false, .slice none 0 0, .slice none 0 0, .slice none 0 0, .int .i64 0, .int .i64 0] dZ) := dZ_ans _ _
        have HBL : Hid (Below N W w1) := by rw [← HN.out]; exact HB0.out.trans (hb1.mono HB0.out.size)
        go_wp2_with (with_reducible refine stD rfl (.tmp 4) (.tmp 26) rfl (N + 1 + 1) [.bool false, .slice none 0 0, .slice none 0 0, .slice none 0 0, .int .i64 0, .int .i64 0] (by with_unfolding_all rfl) (by with_unfolding_all rfl) HRx.out rfl HANS.out.one.1 HANS.out.one.2 ?_)
        refine ⟨rfl, _, res_ct rfl _ (HRx.out.setRow _) (by with_unfolding_all rfl) rfl Tryz.underlying50 (by rw [Tryz.sizeDom]; first | rfl | (have := HANS.out.one.1; simp at this ⊢; omega)) (v := .int .i64 1) (by with_unfolding_all rfl), [.bool false, .slice none 0 0, .slice none 0 0, .slice none 0 0, .int .i64 0, .int .i64 0], rfl, (HANS.out.setRow (by omega) _).less (by omega), ?_⟩
        exact below_row HBL.out (by omega) _
      · have s1 : decide (op < 0) = false := by simp; omega
        have s2 : decide (5 < op) = false := by simp; omega
        by_cases h4 : 4 ≤ op
        · have s3 : decide (4 ≤ op) = true := by simpa using h4
          obtain rfl : ob = false := by rw [s3] at hb; cases ob <;> simp_all
          go_enter Tryz.func21, Tryz.ntmps21
          go_upto_region 1 with (fail)
          rw [HW0.out]
          clear hN
          go_wp2_with fail
          refine kr.mono ?_
          rintro e w1 ⟨rfl, hb1⟩
          clear z0 z1 z2 z3 z4 z5 y0 y1 y2
          obtain ⟨z0, z1, z2, z3, z4, z5⟩ := (HX.out.below hb1).six
          obtain ⟨y0, y1, y2⟩ := (HD.out.below hb1).three
          have HRx : Hid (Bx w1 (N + 1 + 1) _ _) := HR.out.below hb1
          have hsz : N + 3 ≤ w1.heap.size := by have := hb1.size; have := HS0.out; omega
          have HANS : Hid (Ans w1.heap.size w1 [.bool false, .slice none 0 0, .slice none 0 0, .slice none 0 0, .int .i64 0, .int .i64 0] dZ) := dZ_ans _ _
          have HBL : Hid (Below N W w1) := by rw [← HN.out]; exact HB0.out.trans (hb1.mono HB0.out.size)
          go_wp2_with (with_reducible refine stD rfl (.tmp 4) (.tmp 26) rfl (N + 1 + 1) [.bool false, .slice none 0 0, .slice none 0 0, .slice none 0 0, .int .i64 0, .int .i64 0] (by with_unfolding_all rfl) (by with_unfolding_all rfl) HRx.out rfl HANS.out.one.1 HANS.out.one.2 ?_)
          refine ⟨rfl, _, res_ct rfl _ (HRx.out.setRow _) (by with_unfolding_all rfl) rfl Tryz.underlying50 (by rw [Tryz.sizeDom]; first | rfl | (have := HANS.out.one.1; simp at this ⊢; omega)) (v := .int .i64 1) (by with_unfolding_all rfl), [.bool false, .slice none 0 0, .slice none 0 0, .slice none 0 0, .int .i64 0, .int .i64 0], rfl, (HANS.out.setRow (by omega) _).less (by omega), ?_⟩
          exact below_row HBL.out (by omega) _
        · have s3 : decide (4 ≤ op) = false := by simpa using h4
          obtain rfl : ob = true := by rw [s3] at hb; cases ob <;> simp_all
          go_enter Tryz.func21, Tryz.ntmps21
          go_upto_region 1 with (fail)
          rw [HW0.out]
          clear hN
          go_wp2_with fail
          refine kr.mono ?_
          rintro e w1 ⟨rfl, hb1⟩
          clear z0 z1 z2 z3 z4 z5 y0 y1 y2
          obtain ⟨z0, z1, z2, z3, z4, z5⟩ := (HX.out.below hb1).six
          obtain ⟨y0, y1, y2⟩ := (HD.out.below hb1).three
          have HRx : Hid (Bx w1 (N + 1 + 1) _ _) := HR.out.below hb1
          have hsz : N + 3 ≤ w1.heap.size := by have := hb1.size; have := HS0.out; omega
          have HANS : Hid (Ans w1.heap.size w1 [.bool false, .slice none 0 0, .slice none 0 0, .slice none 0 0, .int .i64 0, .int .i64 0] dZ) := dZ_ans _ _
          have HBL : Hid (Below N W w1) := by rw [← HN.out]; exact HB0.out.trans (hb1.mono HB0.out.size)
          go_wp2_with (with_reducible refine stD rfl (.tmp 4) (.tmp 26) rfl (N + 1 + 1) [.bool false, .slice none 0 0, .slice none 0 0, .slice none 0 0, .int .i64 0, .int .i64 0] (by with_unfolding_all rfl) (by with_unfolding_all rfl) HRx.out rfl HANS.out.one.1 HANS.out.one.2 ?_)
          refine ⟨rfl, _, res_ct rfl _ (HRx.out.setRow _) (by with_unfolding_all rfl) rfl Tryz.underlying50 (by rw [Tryz.sizeDom]; first | rfl | (have := HANS.out.one.1; simp at this ⊢; omega)) (v := .int .i64 1) (by with_unfolding_all rfl), [.bool false, .slice none 0 0, .slice none 0 0, .slice none 0 0, .int .i64 0, .int .i64 0], rfl, (HANS.out.setRow (by omega) _).less (by omega), ?_⟩
          exact below_row HBL.out (by omega) _
    · have hF2 := hF
      unfold fitM at hF2
      simp only [Bool.and_eq_true, beq_iff_eq] at hF2
      obtain ⟨hK, h4b⟩ := hF2
      have hF' : ¬ fitM op d.set = false := by rw [HOB.out, hF]; decide
      unfold knB at hK
      simp only [Bool.and_eq_true, decide_eq_true_eq] at hK
      obtain ⟨k1, k2⟩ := hK
      have h6 : op = 0 ∨ op = 1 ∨ op = 2 ∨ op = 3 ∨ op = 4 ∨ op = 5 := by omega
      clear BAD k1 k2 hF hR
      rcases h6 with rfl | rfl | rfl | rfl | rfl | rfl
      · obtain rfl : ob = false := by rw [← h4b]; decide
        have HM : Hid (resM d 0 n = (⟨false, Dm.cutL (Dm.tk d.r) n n, [], [], 0, 0⟩, 0)) := by unfold Hid; rw [HMM.out, if_neg hR', if_neg hF', if_neg (by decide), if_neg (by decide)]; rfl
        have kc := HCU.out n n
        obtain ⟨RR, hRR⟩ : ∃ q, Dm.cutL (Dm.tk d.r) n n = q := ⟨_, rfl⟩
        rw [hRR] at HM kc
        have HKC : Hid _ := kc
        clear hRR kc
        rw [HM.out]
        go_enter Tryz.func21, Tryz.ntmps21
        go_upto_region 1 with (fail)
        rw [HW0.out]
        clear hN
        go_wp2_with fail
        refine kr.mono ?_
        rintro e w1 ⟨rfl, hb1⟩
        clear z0 z1 z2 z3 z4 z5 y0 y1 y2
        obtain ⟨z0, z1, z2, z3, z4, z5⟩ := (HX.out.below hb1).six
        obtain ⟨y0, y1, y2⟩ := (HD.out.below hb1).three
        go_wp2_with fail
        refine (HKC.out w1 hb1).mono ?_
        rintro e w2 ⟨s', rfl, ho, hb2⟩
        obtain ⟨p', c', rfl⟩ : ∃ p c, s' = .slice p RR.length c := by
          rcases ho.2 with ⟨e1, e2⟩ | ⟨g, cap, cur, e1, _⟩
          · exact ⟨none, 0, by rw [e2]; exact e1⟩
          · exact ⟨_, _, e1⟩
        have HANS0 : Hid (Ans w1.heap.size w2 [.bool false, .slice p' RR.length c', .slice none 0 0, .slice none 0 0, .int .i64 0, .int .i64 0] _) := rng_ans ho
        clear ho
        have HRx : Hid (Bx w2 (N + 1 + 1) _ _) := (HR.out.below hb1).below hb2
        have hsz : N + 3 ≤ w1.heap.size := by have := hb1.size; have := HS0.out; omega
        have HANS : Hid (Ans w1.heap.size w2 [.bool false, .slice p' RR.length c', .slice none 0 0, .slice none 0 0, .int .i64 0, .int .i64 0] _) := HANS0.out
        have HBL : Hid (Below N W w2) := by rw [← HN.out]; exact HB0.out.trans ((hb1.trans (hb2.mono hb1.size)).mono HB0.out.size)
        go_wp2_with (with_reducible refine stD rfl (.tmp 4) (.tmp 38) rfl (N + 1 + 1) [.bool false, .slice p' RR.length c', .slice none 0 0, .slice none 0 0, .int .i64 0, .int .i64 0] (by with_unfolding_all rfl) (by with_unfolding_all rfl) HRx.out rfl HANS.out.one.1 HANS.out.one.2 ?_)
        refine ⟨rfl, _, res_ct rfl _ (HRx.out.setRow _) (by with_unfolding_all rfl) rfl Tryz.underlying50 (by rw [Tryz.sizeDom]; first | rfl | (have := HANS.out.one.1; simp at this ⊢; omega)) (v := .int .i64 0) (by with_unfolding_all rfl), [.bool false, .slice p' RR.length c', .slice none 0 0, .slice none 0 0, .int .i64 0, .int .i64 0], rfl, (HANS.out.setRow (by omega) _).less (by omega), ?_⟩
        exact below_row HBL.out (by omega) _
      · obtain rfl : ob = false := by rw [← h4b]; decide
        have HM : Hid (resM d 1 n = (⟨false, Dm.woR d.r n, [], [], 0, 0⟩, 0)) := by unfold Hid; rw [HMM.out, if_neg hR', if_neg hF', if_neg (by decide), if_neg (by decide)]; rfl
        have kc := HWO.out
        obtain ⟨RR, hRR⟩ : ∃ q, Dm.woR d.r n = q := ⟨_, rfl⟩
        rw [hRR] at HM kc
        have HKC : Hid _ := kc
        clear hRR kc
        rw [HM.out]
        go_enter Tryz.func21, Tryz.ntmps21
        go_upto_region 1 with (fail)
        rw [HW0.out]
        clear hN
        go_wp2_with fail
        refine kr.mono ?_
        rintro e w1 ⟨rfl, hb1⟩
        clear z0 z1 z2 z3 z4 z5 y0 y1 y2
        obtain ⟨z0, z1, z2, z3, z4, z5⟩ := (HX.out.below hb1).six
        obtain ⟨y0, y1, y2⟩ := (HD.out.below hb1).three
        go_wp2_with fail
        refine (HKC.out w1 hb1).mono ?_
        rintro e w2 ⟨s', rfl, ho, hb2⟩
        obtain ⟨p', c', rfl⟩ : ∃ p c, s' = .slice p RR.length c := by
          rcases ho.2 with ⟨e1, e2⟩ | ⟨g, cap, cur, e1, _⟩
          · exact ⟨none, 0, by rw [e2]; exact e1⟩
          · exact ⟨_, _, e1⟩
        have HANS0 : Hid (Ans w1.heap.size w2 [.bool false, .slice p' RR.length c', .slice none 0 0, .slice none 0 0, .int .i64 0, .int .i64 0] _) := rng_ans ho
        clear ho
        have HRx : Hid (Bx w2 (N + 1 + 1) _ _) := (HR.out.below hb1).below hb2
        have hsz : N + 3 ≤ w1.heap.size := by have := hb1.size; have := HS0.out; omega
        have HANS : Hid (Ans w1.heap.size w2 [.bool false, .slice p' RR.length c', .slice none 0 0, .slice none 0 0, .int .i64 0, .int .i64 0] _) := HANS0.out
        have HBL : Hid (Below N W w2) := by rw [← HN.out]; exact HB0.out.trans ((hb1.trans (hb2.mono hb1.size)).mono HB0.out.size)
        go_wp2_with (with_reducible refine stD rfl (.tmp 4) (.tmp 46) rfl (N + 1 + 1) [.bool false, .slice p' RR.length c', .slice none 0 0, .slice none 0 0, .int .i64 0, .int .i64 0] (by with_unfolding_all rfl) (by with_unfolding_all rfl) HRx.out rfl HANS.out.one.1 HANS.out.one.2 ?_)
        refine ⟨rfl, _, res_ct rfl _ (HRx.out.setRow _) (by with_unfolding_all rfl) rfl Tryz.underlying50 (by rw [Tryz.sizeDom]; first | rfl | (have := HANS.out.one.1; simp at this ⊢; omega)) (v := .int .i64 0) (by with_unfolding_all rfl), [.bool false, .slice p' RR.length c', .slice none 0 0, .slice none 0 0, .int .i64 0, .int .i64 0], rfl, (HANS.out.setRow (by omega) _).less (by omega), ?_⟩
        exact below_row HBL.out (by omega) _
      · obtain rfl : ob = false := by rw [← h4b]; decide
        have HM : Hid (resM d 2 n = (⟨false, Dm.cutL (Dm.tk d.r) (-1000000) n, [], [], 0, 0⟩, 0)) := by unfold Hid; rw [HMM.out, if_neg hR', if_neg hF', if_neg (by decide), if_neg (by decide)]; rfl
        have kc := HCU.out (-1000000) n
        obtain ⟨RR, hRR⟩ : ∃ q, Dm.cutL (Dm.tk d.r) (-1000000) n = q := ⟨_, rfl⟩
        rw [hRR] at HM kc
        have HKC : Hid _ := kc
        clear hRR kc
        rw [HM.out]
        go_enter Tryz.func21, Tryz.ntmps21
        go_upto_region 1 with (fail)
        rw [HW0.out]
        clear hN
        go_wp2_with fail
        refine kr.mono ?_
        rintro e w1 ⟨rfl, hb1⟩
        clear z0 z1 z2 z3 z4 z5 y0 y1 y2
        obtain ⟨z0, z1, z2, z3, z4, z5⟩ := (HX.out.below hb1).six
        obtain ⟨y0, y1, y2⟩ := (HD.out.below hb1).three
        go_wp2_with fail
        refine (HKC.out w1 hb1).mono ?_
        rintro e w2 ⟨s', rfl, ho, hb2⟩
        obtain ⟨p', c', rfl⟩ : ∃ p c, s' = .slice p RR.length c := by
          rcases ho.2 with ⟨e1, e2⟩ | ⟨g, cap, cur, e1, _⟩
          · exact ⟨none, 0, by rw [e2]; exact e1⟩
          · exact ⟨_, _, e1⟩
        have HANS0 : Hid (Ans w1.heap.size w2 [.bool false, .slice p' RR.length c', .slice none 0 0, .slice none 0 0, .int .i64 0, .int .i64 0] _) := rng_ans ho
        clear ho
        have HRx : Hid (Bx w2 (N + 1 + 1) _ _) := (HR.out.below hb1).below hb2
        have hsz : N + 3 ≤ w1.heap.size := by have := hb1.size; have := HS0.out; omega
        have HANS : Hid (Ans w1.heap.size w2 [.bool false, .slice p' RR.length c', .slice none 0 0, .slice none 0 0, .int .i64 0, .int .i64 0] _) := HANS0.out
        have HBL : Hid (Below N W w2) := by rw [← HN.out]; exact HB0.out.trans ((hb1.trans (hb2.mono hb1.size)).mono HB0.out.size)
        go_wp2_with (with_reducible refine stD rfl (.tmp 4) (.tmp 54) rfl (N + 1 + 1) [.bool false, .slice p' RR.length c', .slice none 0 0, .slice none 0 0, .int .i64 0, .int .i64 0] (by with_unfolding_all rfl) (by with_unfolding_all rfl) HRx.out rfl HANS.out.one.1 HANS.out.one.2 ?_)
        refine ⟨rfl, _, res_ct rfl _ (HRx.out.setRow _) (by with_unfolding_all rfl) rfl Tryz.underlying50 (by rw [Tryz.sizeDom]; first | rfl | (have := HANS.out.one.1; simp at this ⊢; omega)) (v := .int .i64 0) (by with_unfolding_all rfl), [.bool false, .slice p' RR.length c', .slice none 0 0, .slice none 0 0, .int .i64 0, .int .i64 0], rfl, (HANS.out.setRow (by omega) _).less (by omega), ?_⟩
        exact below_row HBL.out (by omega) _
      · obtain rfl : ob = false := by rw [← h4b]; decide
        have HM0 : Hid (resM d 3 n = (⟨false, Dm.cutL (Dm.tk d.r) (min n 1000000 + 1) 1000000, [], [], 0, 0⟩, 0)) := by unfold Hid; rw [HMM.out, if_neg hR', if_neg hF', if_neg (by decide), if_neg (by decide)]; rfl
        by_cases hbig : 1000000 ≤ n
        · have hbd : decide (1000000 ≤ n) = true := by simpa using hbig
          have HM : Hid (resM d 3 n = (dZ, 0)) := by unfold Hid; rw [HM0.out, show min n 1000000 = 1000000 by omega, show (1000000 : Int) + 1 = 1000001 from rfl, cut_none]; rfl
          rw [HM.out]
          go_enter Tryz.func21, Tryz.ntmps21
          go_upto_region 1 with (fail)
          rw [HW0.out]
          clear hN
          go_wp2_with fail
          refine kr.mono ?_
          rintro e w1 ⟨rfl, hb1⟩
          clear z0 z1 z2 z3 z4 z5 y0 y1 y2
          obtain ⟨z0, z1, z2, z3, z4, z5⟩ := (HX.out.below hb1).six
          obtain ⟨y0, y1, y2⟩ := (HD.out.below hb1).three
          have HRx : Hid (Bx w1 (N + 1 + 1) _ _) := HR.out.below hb1
          have hsz : N + 3 ≤ w1.heap.size := by have := hb1.size; have := HS0.out; omega
          have HANS : Hid (Ans w1.heap.size w1 [.bool false, .slice none 0 0, .slice none 0 0, .slice none 0 0, .int .i64 0, .int .i64 0] dZ) := dZ_ans _ _
          have HBL : Hid (Below N W w1) := by rw [← HN.out]; exact HB0.out.trans (hb1.mono HB0.out.size)
          go_wp2_with (with_reducible refine stD rfl (.tmp 4) (.tmp 60) rfl (N + 1 + 1) [.bool false, .slice none 0 0, .slice none 0 0, .slice none 0 0, .int .i64 0, .int .i64 0] (by with_unfolding_all rfl) (by with_unfolding_all rfl) HRx.out rfl HANS.out.one.1 HANS.out.one.2 ?_)
          refine ⟨rfl, _, res_ct rfl _ (HRx.out.setRow _) (by with_unfolding_all rfl) rfl Tryz.underlying50 (by rw [Tryz.sizeDom]; first | rfl | (have := HANS.out.one.1; simp at this ⊢; omega)) (v := .int .i64 0) (by with_unfolding_all rfl), [.bool false, .slice none 0 0, .slice none 0 0, .slice none 0 0, .int .i64 0, .int .i64 0], rfl, (HANS.out.setRow (by omega) _).less (by omega), ?_⟩
          exact below_row HBL.out (by omega) _
        · have hbd : decide (1000000 ≤ n) = false := by simpa using hbig
          have hwn : wrap64 (n + 1) = n + 1 := by unfold wrap64; omega
          have hwn2 : IntKind.i64.wrap (n + 1) = n + 1 := by rw [IntKind.wrap_i64]; omega
          have HM : Hid (resM d 3 n = (⟨false, Dm.cutL (Dm.tk d.r) (n + 1) 1000000, [], [], 0, 0⟩, 0)) := by unfold Hid; rw [HM0.out, show min n 1000000 = n by omega]
          have kc := HCU.out (n + 1) 1000000
          obtain ⟨RR, hRR⟩ : ∃ q, Dm.cutL (Dm.tk d.r) (n + 1) 1000000 = q := ⟨_, rfl⟩
          rw [hRR] at HM kc
          have HKC : Hid _ := kc
          clear hRR kc
          rw [HM.out]
          go_enter Tryz.func21, Tryz.ntmps21
          go_upto_region 1 with (fail)
          rw [HW0.out]
          clear hN
          go_wp2_with fail
          refine kr.mono ?_
          rintro e w1 ⟨rfl, hb1⟩
          clear z0 z1 z2 z3 z4 z5 y0 y1 y2
          obtain ⟨z0, z1, z2, z3, z4, z5⟩ := (HX.out.below hb1).six
          obtain ⟨y0, y1, y2⟩ := (HD.out.below hb1).three
          go_wp2_with fail
          refine (HKC.out w1 hb1).mono ?_
          rintro e w2 ⟨s', rfl, ho, hb2⟩
          obtain ⟨p', c', rfl⟩ : ∃ p c, s' = .slice p RR.length c := by
            rcases ho.2 with ⟨e1, e2⟩ | ⟨g, cap, cur, e1, _⟩
            · exact ⟨none, 0, by rw [e2]; exact e1⟩
            · exact ⟨_, _, e1⟩
          have HANS0 : Hid (Ans w1.heap.size w2 [.bool false, .slice p' RR.length c', .slice none 0 0, .slice none 0 0, .int .i64 0, .int .i64 0] _) := rng_ans ho
          clear ho
          have HRx : Hid (Bx w2 (N + 1 + 1) _ _) := (HR.out.below hb1).below hb2
          have hsz : N + 3 ≤ w1.heap.size := by have := hb1.size; have := HS0.out; omega
          have HANS : Hid (Ans w1.heap.size w2 [.bool false, .slice p' RR.length c', .slice none 0 0, .slice none 0 0, .int .i64 0, .int .i64 0] _) := HANS0.out
          have HBL : Hid (Below N W w2) := by rw [← HN.out]; exact HB0.out.trans ((hb1.trans (hb2.mono hb1.size)).mono HB0.out.size)
          go_wp2_with (with_reducible refine stD rfl (.tmp 4) (.tmp 67) rfl (N + 1 + 1) [.bool false, .slice p' RR.length c', .slice none 0 0, .slice none 0 0, .int .i64 0, .int .i64 0] (by with_unfolding_all rfl) (by with_unfolding_all rfl) HRx.out rfl HANS.out.one.1 HANS.out.one.2 ?_)
          refine ⟨rfl, _, res_ct rfl _ (HRx.out.setRow _) (by with_unfolding_all rfl) rfl Tryz.underlying50 (by rw [Tryz.sizeDom]; first | rfl | (have := HANS.out.one.1; simp at this ⊢; omega)) (v := .int .i64 0) (by with_unfolding_all rfl), [.bool false, .slice p' RR.length c', .slice none 0 0, .slice none 0 0, .int .i64 0, .int .i64 0], rfl, (HANS.out.setRow (by omega) _).less (by omega), ?_⟩
          exact below_row HBL.out (by omega) _
      · obtain rfl : ob = true := by rw [← h4b]; decide
        have HM : Hid (resM d 4 n = (ofSD (St.mustD (sdM d) n), 0)) := by unfold Hid; rw [HMM.out, if_neg hR', if_neg hF', if_pos rfl]
        rw [HM.out]
        go_enter Tryz.func21, Tryz.ntmps21
        go_upto_region 1 with (fail)
        rw [HW0.out]
        clear hN
        go_wp2_with fail
        refine kr.mono ?_
        rintro e w1 ⟨rfl, hb1⟩
        clear z0 z1 z2 z3 z4 z5 y0 y1 y2
        obtain ⟨z0, z1, z2, z3, z4, z5⟩ := (HX.out.below hb1).six
        obtain ⟨y0, y1, y2⟩ := (HD.out.below hb1).three
        go_wp2_with fail
        refine (HMU.out w1 hb1).mono ?_
        rintro e w2 ⟨v', rfl, hv', hb2⟩
        obtain ⟨q, rfl, hans⟩ := dv_ans hv'
        have hq6 := hans.one.1
        obtain ⟨q0, q1, q2, q3, q4, q5, rfl⟩ := list6 hq6
        have HANS0 : Hid (Ans w1.heap.size w2 [q0, q1, q2, q3, q4, q5] _) := hans
        clear hv' hans hq6
        have HRx : Hid (Bx w2 (N + 1 + 1) _ _) := (HR.out.below hb1).below hb2
        have hsz : N + 3 ≤ w1.heap.size := by have := hb1.size; have := HS0.out; omega
        have HANS : Hid (Ans w1.heap.size w2 [q0, q1, q2, q3, q4, q5] _) := HANS0.out
        have HBL : Hid (Below N W w2) := by rw [← HN.out]; exact HB0.out.trans ((hb1.trans (hb2.mono hb1.size)).mono HB0.out.size)
        go_wp2_with (with_reducible refine stD rfl (.tmp 4) (.tmp 73) rfl (N + 1 + 1) [q0, q1, q2, q3, q4, q5] (by with_unfolding_all rfl) (by with_unfolding_all rfl) HRx.out rfl HANS.out.one.1 HANS.out.one.2 ?_)
        refine ⟨rfl, _, res_ct rfl _ (HRx.out.setRow _) (by with_unfolding_all rfl) rfl Tryz.underlying50 (by rw [Tryz.sizeDom]; first | rfl | (have := HANS.out.one.1; simp at this ⊢; omega)) (v := .int .i64 0) (by with_unfolding_all rfl), [q0, q1, q2, q3, q4, q5], rfl, (HANS.out.setRow (by omega) _).less (by omega), ?_⟩
        exact below_row HBL.out (by omega) _
      · obtain rfl : ob = true := by rw [← h4b]; decide
        have HM : Hid (resM d 5 n = (ofSD (St.notD (sdM d) n), 0)) := by unfold Hid; rw [HMM.out, if_neg hR', if_neg hF', if_neg (by decide), if_pos rfl]
        rw [HM.out]
        go_enter Tryz.func21, Tryz.ntmps21
        go_upto_region 1 with (fail)
        rw [HW0.out]
        clear hN
        go_wp2_with fail
        refine kr.mono ?_
        rintro e w1 ⟨rfl, hb1⟩
        clear z0 z1 z2 z3 z4 z5 y0 y1 y2
        obtain ⟨z0, z1, z2, z3, z4, z5⟩ := (HX.out.below hb1).six
        obtain ⟨y0, y1, y2⟩ := (HD.out.below hb1).three
        go_wp2_with fail
        refine (HNO.out w1 hb1).mono ?_
        rintro e w2 ⟨v', rfl, hv', hb2⟩
        obtain ⟨q, rfl, hans⟩ := dv_ans hv'
        have hq6 := hans.one.1
        obtain ⟨q0, q1, q2, q3, q4, q5, rfl⟩ := list6 hq6
        have HANS0 : Hid (Ans w1.heap.size w2 [q0, q1, q2, q3, q4, q5] _) := hans
        clear hv' hans hq6
        have HRx : Hid (Bx w2 (N + 1 + 1) _ _) := (HR.out.below hb1).below hb2
        have hsz : N + 3 ≤ w1.heap.size := by have := hb1.size; have := HS0.out; omega
        have HANS : Hid (Ans w1.heap.size w2 [q0, q1, q2, q3, q4, q5] _) := HANS0.out
        have HBL : Hid (Below N W w2) := by rw [← HN.out]; exact HB0.out.trans ((hb1.trans (hb2.mono hb1.size)).mono HB0.out.size)
        go_wp2_with (with_reducible refine stD rfl (.tmp 4) (.tmp 77) rfl (N + 1 + 1) [q0, q1, q2, q3, q4, q5] (by with_unfolding_all rfl) (by with_unfolding_all rfl) HRx.out rfl HANS.out.one.1 HANS.out.one.2 ?_)
        refine ⟨rfl, _, res_ct rfl _ (HRx.out.setRow _) (by with_unfolding_all rfl) rfl Tryz.underlying50 (by rw [Tryz.sizeDom]; first | rfl | (have := HANS.out.one.1; simp at this ⊢; omega)) (v := .int .i64 0) (by with_unfolding_all rfl), [q0, q1, q2, q3, q4, q5], rfl, (HANS.out.setRow (by omega) _).less (by omega), ?_⟩
        exact below_row HBL.out (by omega) _
end Go.Proofs.YtfcaemfledlnnaaGreatDoor
