/-
  What is proved here: whether a decision holds of a value.
-/
import Derived.Test.YthkliicmoandmaaGreatDoorCe
import Derived.Deep.RegionHeld3
namespace Go.Proofs.YthkliicmoandmaaGreatDoor
open Go.RowKit Go.Shelf
set_option linter.unusedVariables false
set_option linter.unusedSimpArgs false

/-- Whether a decision holds. -/
def hoM (op n : Int) (st : Bool) (vn : Int) (vs : List Int) : Bool := if st then (if op = 4 then (St.tkS vs).contains n else if op = 5 then !(St.tkS vs).contains n else false) else (if op = 0 then vn == n else if op = 1 then vn != n else if op = 2 then decide (vn ≤ n) else if op = 3 then decide (n < vn) else false)
/-- A value in memory. -/
def Vc (w : World) (c : List Value) (st : Bool) (vn : Int) (vs : List Int) : Prop := ∃ p k, c = [.bool st, .int .i64 vn, .slice p vs.length k] ∧ St.Si w (.slice p vs.length k) vs
theorem Vc.below {w w' : World} {c : List Value} {st : Bool} {vn : Int} {vs : List Int} (h : Vc w c st vn vs) (hb : Below w.heap.size w w') : Vc w' c st vn vs := by
  obtain ⟨p, k, e, h⟩ := h
  exact ⟨p, k, e, h.below hb⟩
theorem knB_cases {op : Int} (h : knB op = true) : op = 0 ∨ op = 1 ∨ op = 2 ∨ op = 3 ∨ op = 4 ∨ op = 5 := by
  unfold knB at h
  simp only [Bool.and_eq_true, decide_eq_true_eq] at h
  omega
theorem knB_no {op : Int} (h : knB op = false) : op ≠ 0 ∧ op ≠ 1 ∧ op ≠ 2 ∧ op ≠ 3 ∧ op ≠ 4 ∧ op ≠ 5 := by
  unfold knB at h
  simp only [Bool.and_eq_false_iff, decide_eq_false_iff_not] at h
  omega
theorem ho_no {op n : Int} {st : Bool} {vn : Int} {vs : List Int} (h : fitM op st = false) : hoM op n st vn vs = false := by
  unfold hoM
  unfold fitM at h
  cases hk : knB op
  · obtain ⟨h0, h1, h2, h3, h4, h5⟩ := knB_no hk
    rw [if_neg h4, if_neg h5, if_neg h0, if_neg h1, if_neg h2, if_neg h3]; simp
  · rw [hk, Bool.true_and] at h
    rcases knB_cases hk with rfl | rfl | rfl | rfl | rfl | rfl <;> cases st <;> simp_all

set_option maxRecDepth 100000 in
set_option maxHeartbeats 4000000 in
theorem holds_any {W : World} {c : List Value} {st : Bool} {vn : Int} {vs : List Int} (v op n : Int) (h : Vc W c st vn vs) : Calls Tryz.prog 25 #[.agg #[.int .i64 v, .int .i64 op, .int .i64 n], .agg c.toArray] W fun e w' => e = .returned (.bool (hoM op n st vn vs)) ∧ Below W.heap.size W w' := by
  obtain ⟨N, hN⟩ : ∃ N, W.heap.size = N := ⟨_, rfl⟩
  obtain ⟨pv, kv, rfl, hs⟩ := h
  obtain ⟨nv, hnv⟩ : ∃ q, vs.length = q := ⟨_, rfl⟩
  rw [hnv] at hs ⊢
  obtain ⟨W0, hW0⟩ : ∃ Q, (W.alloc (Obj.cells #[.int .i64 v, .int .i64 op, .int .i64 n] 32)).alloc (Obj.cells #[.bool st, .int .i64 vn, .slice pv nv kv] 52) = Q := ⟨_, rfl⟩
  have hb0 : Below W.heap.size W W0 := by rw [← hW0]; exact ((Below.refl _ W).alloc (Nat.le_refl _) _).alloc (by simp) _
  have HD : Hid (Bx W0 N #[.int .i64 v, .int .i64 op, .int .i64 n] 32) := by rw [← hW0]; exact (Bx.new' hN _ _).alloc _
  have HV : Hid (Bx W0 (N + 1) #[.bool st, .int .i64 vn, .slice pv nv kv] 52) := by rw [← hW0]; exact Bx.new' (by simp [hN]) _ _
  have HS : Hid (∀ w, Below W0.heap.size W0 w → St.Si w (.slice pv nv kv) vs) := fun w hb => (hs.below hb0).below hb
  have HB0 : Hid (Below W.heap.size W W0) := hb0
  have HW0 : Hid _ := hW0
  have HN : Hid (W.heap.size = N) := hN
  obtain ⟨z0, z1, z2⟩ := HD.out.three
  obtain ⟨y0, y1, y2⟩ := HV.out.three
  clear hW0 hb0 hs hnv
  have kf := fits_any op st W0
  cases hF : fitM op st
  · have HM : Hid (hoM op n st vn vs = false) := ho_no hF
    rw [HM.out]
    rw [hF] at kf
    go_enter Tryz.func25, Tryz.ntmps25
    go_upto_region 1 with (fail)
    rw [HW0.out]
    (try rw [hN])
    go_wp2_with fail
    refine kf.mono ?_
    rintro e wt ⟨rfl, hwt⟩
    rw [hwt]
    clear hwt wt
    go_wp2
    go_ret
    exact ⟨rfl, HB0.out⟩
  · rw [hF] at kf
    unfold fitM at hF
    simp only [Bool.and_eq_true, beq_iff_eq] at hF
    obtain ⟨hK, h4b⟩ := hF
    rcases knB_cases hK with rfl | rfl | rfl | rfl | rfl | rfl
    · obtain rfl : st = false := by rw [← h4b]; decide
      have HM : Hid (hoM 0 n false vn vs = (vn == n)) := rfl
      rw [HM.out]
      go_enter Tryz.func25, Tryz.ntmps25
      go_upto_region 1 with (fail)
      rw [HW0.out]
      (try rw [hN])
      go_wp2_with fail
      refine kf.mono ?_
      rintro e wt ⟨rfl, hwt⟩
      rw [hwt]
      clear hwt wt
      go_wp2
      go_ret
      exact ⟨rfl, HB0.out⟩
    · obtain rfl : st = false := by rw [← h4b]; decide
      have HM : Hid (hoM 1 n false vn vs = (vn != n)) := rfl
      rw [HM.out]
      go_enter Tryz.func25, Tryz.ntmps25
      go_upto_region 1 with (fail)
      rw [HW0.out]
      (try rw [hN])
      go_wp2_with fail
      refine kf.mono ?_
      rintro e wt ⟨rfl, hwt⟩
      rw [hwt]
      clear hwt wt
      go_wp2
      go_ret
      exact ⟨rfl, HB0.out⟩
    · obtain rfl : st = false := by rw [← h4b]; decide
      have HM : Hid (hoM 2 n false vn vs = decide (vn ≤ n)) := rfl
      rw [HM.out]
      go_enter Tryz.func25, Tryz.ntmps25
      go_upto_region 1 with (fail)
      rw [HW0.out]
      (try rw [hN])
      go_wp2_with fail
      refine kf.mono ?_
      rintro e wt ⟨rfl, hwt⟩
      rw [hwt]
      clear hwt wt
      go_wp2
      go_ret
      exact ⟨rfl, HB0.out⟩
    · obtain rfl : st = false := by rw [← h4b]; decide
      have HM : Hid (hoM 3 n false vn vs = decide (n < vn)) := rfl
      rw [HM.out]
      go_enter Tryz.func25, Tryz.ntmps25
      go_upto_region 1 with (fail)
      rw [HW0.out]
      (try rw [hN])
      go_wp2_with fail
      refine kf.mono ?_
      rintro e wt ⟨rfl, hwt⟩
      rw [hwt]
      clear hwt wt
      go_wp2
      go_ret
      exact ⟨rfl, HB0.out⟩
    · obtain rfl : st = true := by rw [← h4b]; decide
      have HM : Hid (hoM 4 n true vn vs = (St.tkS vs).contains n) := rfl
      rw [HM.out]
      have HB1 : Hid (Below W0.heap.size W0 W0.drew) := (Below.refl _ _).drew
      go_enter Tryz.func25, Tryz.ntmps25
      go_upto_region 1 with (fail)
      rw [HW0.out]
      (try rw [hN])
      clear hN
      go_wp2_with fail
      refine kf.mono ?_
      rintro e wt ⟨rfl, hwt⟩
      rw [hwt]
      clear hwt wt
      go_upto_region 12 with (fail)
      refine wp_region_held_drew (S := fun X : World => Bx X N #[.int .i64 v, .int .i64 4, .int .i64 n] 32 ∧ Bx X (N + 1) #[.bool true, .int .i64 vn, .slice pv nv kv] 52) (by kernel_rfl) (⟨HD.out.drew 1, HV.out.drew 1⟩) (fun hHeld => ?_)
      refine wpAnyH_take (i := 0) (oi := { dst := some 41, op := Go.Op.fieldAddr 32 (Go.Operand.tmp 2) 2, type := 0, pos := "branch.go:93", after := #[], guard := none }) (v := ?_) rfl (by kernel_rfl) (by kernel_rfl) (by kernel_rfl) (fun _ _ _ h => h) (Or.inl ⟨by rfl, ?_⟩) hHeld ?_
      rotate_left
      · intro w hSw; (try dsimp only at hSw); go_simp <;> with_reducible rfl
      try simp only [Act.put, List.setIfInBounds_toArray, List.set_cons_zero, List.set_cons_succ]
      refine wpAnyH_take (i := 1) (oi := { dst := some 42, op := Go.Op.load 2 (Go.Operand.tmp 41), type := 2, pos := "branch.go:93", after := #[{ on := 0, ground := Go.Ground.data }], guard := none }) (v := ?_) rfl (by kernel_rfl) (by kernel_rfl) (by kernel_rfl) (fun _ _ _ h => h) (Or.inl ⟨by rfl, ?_⟩) hHeld ?_
      rotate_left
      · intro w hSw; obtain ⟨q1, q2⟩ := hSw; obtain ⟨a0, a1, a2⟩ := q1.three; obtain ⟨b0, b1, b2⟩ := q2.three; go_simp <;> with_reducible rfl
      try simp only [Act.put, List.setIfInBounds_toArray, List.set_cons_zero, List.set_cons_succ]
      refine wpAnyH_take (i := 2) (oi := { dst := some 43, op := Go.Op.fieldAddr 52 (Go.Operand.tmp 3) 2, type := 0, pos := "branch.go:93", after := #[], guard := none }) (v := ?_) rfl (by kernel_rfl) (by kernel_rfl) (by kernel_rfl) (fun _ _ _ h => h) (Or.inl ⟨by rfl, ?_⟩) hHeld ?_
      rotate_left
      · intro w hSw; (try dsimp only at hSw); go_simp <;> with_reducible rfl
      try simp only [Act.put, List.setIfInBounds_toArray, List.set_cons_zero, List.set_cons_succ]
      refine wpAnyH_take (i := 3) (oi := { dst := some 44, op := Go.Op.load 48 (Go.Operand.tmp 43), type := 48, pos := "branch.go:93", after := #[{ on := 2, ground := Go.Ground.data }], guard := none }) (v := ?_) rfl (by kernel_rfl) (by kernel_rfl) (by kernel_rfl) (fun _ _ _ h => h) (Or.inl ⟨by rfl, ?_⟩) hHeld ?_
      rotate_left
      · intro w hSw; obtain ⟨q1, q2⟩ := hSw; obtain ⟨a0, a1, a2⟩ := q1.three; obtain ⟨b0, b1, b2⟩ := q2.three; go_simp <;> with_reducible rfl
      try simp only [Act.put, List.setIfInBounds_toArray, List.set_cons_zero, List.set_cons_succ]
      refine wpAnyH_take (i := 5) (oi := { dst := some 46, op := Go.Op.fieldAddr 32 (Go.Operand.tmp 2) 1, type := 0, pos := "branch.go:93", after := #[], guard := none }) (v := ?_) rfl (by kernel_rfl) (by kernel_rfl) (by kernel_rfl) (fun _ _ _ h => h) (Or.inl ⟨by rfl, ?_⟩) hHeld ?_
      rotate_left
      · intro w hSw; (try dsimp only at hSw); go_simp <;> with_reducible rfl
      try simp only [Act.put, List.setIfInBounds_toArray, List.set_cons_zero, List.set_cons_succ]
      refine wpAnyH_take (i := 6) (oi := { dst := some 47, op := Go.Op.load 3 (Go.Operand.tmp 46), type := 3, pos := "branch.go:93", after := #[{ on := 5, ground := Go.Ground.data }], guard := none }) (v := ?_) rfl (by kernel_rfl) (by kernel_rfl) (by kernel_rfl) (fun _ _ _ h => h) (Or.inl ⟨by rfl, ?_⟩) hHeld ?_
      rotate_left
      · intro w hSw; obtain ⟨q1, q2⟩ := hSw; obtain ⟨a0, a1, a2⟩ := q1.three; obtain ⟨b0, b1, b2⟩ := q2.three; go_simp <;> with_reducible rfl
      try simp only [Act.put, List.setIfInBounds_toArray, List.set_cons_zero, List.set_cons_succ]
      refine wpAnyH_take (i := 7) (oi := { dst := some 48, op := Go.Op.binOp Go.BinOp.eql 3 (Go.Operand.tmp 47) (Go.Operand.const (Go.Value.int Go.IntKind.i64 4)) 3, type := 4, pos := "branch.go:93", after := #[{ on := 6, ground := Go.Ground.data }], guard := none }) (v := ?_) rfl (by kernel_rfl) (by kernel_rfl) (by kernel_rfl) (fun _ _ _ h => h) (Or.inl ⟨by rfl, ?_⟩) hHeld ?_
      rotate_left
      · intro w hSw; (try dsimp only at hSw); go_simp <;> with_reducible rfl
      try simp only [Act.put, List.setIfInBounds_toArray, List.set_cons_zero, List.set_cons_succ]
      refine wpAnyH_ready (rs := [4]) (by kernel_rfl) (by simp) ?_
      refine AllReadyH.cons rfl (fun K hK => ?_) AllReadyH.nil
      go_simp
      refine (St.in_any n _ vs _ (HS.out _ HB1.out)).mono ?_
      rintro e w2 ⟨rfl, hb2⟩
      have HB2 : Hid (Below W0.heap.size W0 w2) := HB1.out.trans (hb2.mono HB1.out.size)
      clear hb2
      refine hK.out _ _ (⟨HD.out.below HB2.out, HV.out.below HB2.out⟩) (fun hHeld2 => ?_)
      clear hK K hHeld
      have hHeld := hHeld2
      clear hHeld2
      try simp only [Act.put, List.setIfInBounds_toArray, List.set_cons_zero, List.set_cons_succ]
      refine wpAnyH_take (i := 8) (oi := { dst := some 49, op := Go.Op.binOp Go.BinOp.eql 4 (Go.Operand.tmp 45) (Go.Operand.tmp 48) 4, type := 4, pos := "branch.go:93", after := #[{ on := 4, ground := Go.Ground.data }, { on := 7, ground := Go.Ground.data }], guard := none }) (v := ?_) rfl (by kernel_rfl) (by kernel_rfl) (by kernel_rfl) (fun _ _ _ h => h) (Or.inl ⟨by rfl, ?_⟩) hHeld ?_
      rotate_left
      · intro w hSw; (try dsimp only at hSw); go_simp <;> with_reducible rfl
      try simp only [Act.put, List.setIfInBounds_toArray, List.set_cons_zero, List.set_cons_succ]
      refine wpAnyH_take (i := 9) (oi := { dst := some 4, op := Go.Op.assign (Go.Operand.tmp 49), type := 4, pos := "branch.go:93", after := #[{ on := 8, ground := Go.Ground.data }, { on := 4, ground := Go.Ground.chain }, { on := 0, ground := Go.Ground.phase }, { on := 1, ground := Go.Ground.phase }, { on := 2, ground := Go.Ground.phase }, { on := 3, ground := Go.Ground.phase }, { on := 4, ground := Go.Ground.phase }, { on := 5, ground := Go.Ground.phase }, { on := 6, ground := Go.Ground.phase }, { on := 7, ground := Go.Ground.phase }, { on := 8, ground := Go.Ground.phase }], guard := none }) (v := ?_) rfl (by kernel_rfl) (by kernel_rfl) (by kernel_rfl) (fun _ _ _ h => h) (Or.inl ⟨by rfl, ?_⟩) hHeld ?_
      rotate_left
      · intro w hSw; (try dsimp only at hSw); go_simp <;> with_reducible rfl
      try simp only [Act.put, List.setIfInBounds_toArray, List.set_cons_zero, List.set_cons_succ]
      refine wpAnyH_done (by kernel_rfl) ?_ _
      go_wp2
      go_ret
      exact ⟨ret_bool (by first | (simp; done) | (cases h : (St.tkS vs).contains n <;> simp_all)), HB0.out.trans (HB2.out.mono HB0.out.size)⟩
    · obtain rfl : st = true := by rw [← h4b]; decide
      have HM : Hid (hoM 5 n true vn vs = !(St.tkS vs).contains n) := rfl
      rw [HM.out]
      have HB1 : Hid (Below W0.heap.size W0 W0.drew) := (Below.refl _ _).drew
      go_enter Tryz.func25, Tryz.ntmps25
      go_upto_region 1 with (fail)
      rw [HW0.out]
      (try rw [hN])
      clear hN
      go_wp2_with fail
      refine kf.mono ?_
      rintro e wt ⟨rfl, hwt⟩
      rw [hwt]
      clear hwt wt
      go_upto_region 12 with (fail)
      refine wp_region_held_drew (S := fun X : World => Bx X N #[.int .i64 v, .int .i64 5, .int .i64 n] 32 ∧ Bx X (N + 1) #[.bool true, .int .i64 vn, .slice pv nv kv] 52) (by kernel_rfl) (⟨HD.out.drew 1, HV.out.drew 1⟩) (fun hHeld => ?_)
      refine wpAnyH_take (i := 0) (oi := { dst := some 41, op := Go.Op.fieldAddr 32 (Go.Operand.tmp 2) 2, type := 0, pos := "branch.go:93", after := #[], guard := none }) (v := ?_) rfl (by kernel_rfl) (by kernel_rfl) (by kernel_rfl) (fun _ _ _ h => h) (Or.inl ⟨by rfl, ?_⟩) hHeld ?_
      rotate_left
      · intro w hSw; (try dsimp only at hSw); go_simp <;> with_reducible rfl
      try simp only [Act.put, List.setIfInBounds_toArray, List.set_cons_zero, List.set_cons_succ]
      refine wpAnyH_take (i := 1) (oi := { dst := some 42, op := Go.Op.load 2 (Go.Operand.tmp 41), type := 2, pos := "branch.go:93", after := #[{ on := 0, ground := Go.Ground.data }], guard := none }) (v := ?_) rfl (by kernel_rfl) (by kernel_rfl) (by kernel_rfl) (fun _ _ _ h => h) (Or.inl ⟨by rfl, ?_⟩) hHeld ?_
      rotate_left
      · intro w hSw; obtain ⟨q1, q2⟩ := hSw; obtain ⟨a0, a1, a2⟩ := q1.three; obtain ⟨b0, b1, b2⟩ := q2.three; go_simp <;> with_reducible rfl
      try simp only [Act.put, List.setIfInBounds_toArray, List.set_cons_zero, List.set_cons_succ]
      refine wpAnyH_take (i := 2) (oi := { dst := some 43, op := Go.Op.fieldAddr 52 (Go.Operand.tmp 3) 2, type := 0, pos := "branch.go:93", after := #[], guard := none }) (v := ?_) rfl (by kernel_rfl) (by kernel_rfl) (by kernel_rfl) (fun _ _ _ h => h) (Or.inl ⟨by rfl, ?_⟩) hHeld ?_
      rotate_left
      · intro w hSw; (try dsimp only at hSw); go_simp <;> with_reducible rfl
      try simp only [Act.put, List.setIfInBounds_toArray, List.set_cons_zero, List.set_cons_succ]
      refine wpAnyH_take (i := 3) (oi := { dst := some 44, op := Go.Op.load 48 (Go.Operand.tmp 43), type := 48, pos := "branch.go:93", after := #[{ on := 2, ground := Go.Ground.data }], guard := none }) (v := ?_) rfl (by kernel_rfl) (by kernel_rfl) (by kernel_rfl) (fun _ _ _ h => h) (Or.inl ⟨by rfl, ?_⟩) hHeld ?_
      rotate_left
      · intro w hSw; obtain ⟨q1, q2⟩ := hSw; obtain ⟨a0, a1, a2⟩ := q1.three; obtain ⟨b0, b1, b2⟩ := q2.three; go_simp <;> with_reducible rfl
      try simp only [Act.put, List.setIfInBounds_toArray, List.set_cons_zero, List.set_cons_succ]
      refine wpAnyH_take (i := 5) (oi := { dst := some 46, op := Go.Op.fieldAddr 32 (Go.Operand.tmp 2) 1, type := 0, pos := "branch.go:93", after := #[], guard := none }) (v := ?_) rfl (by kernel_rfl) (by kernel_rfl) (by kernel_rfl) (fun _ _ _ h => h) (Or.inl ⟨by rfl, ?_⟩) hHeld ?_
      rotate_left
      · intro w hSw; (try dsimp only at hSw); go_simp <;> with_reducible rfl
      try simp only [Act.put, List.setIfInBounds_toArray, List.set_cons_zero, List.set_cons_succ]
      refine wpAnyH_take (i := 6) (oi := { dst := some 47, op := Go.Op.load 3 (Go.Operand.tmp 46), type := 3, pos := "branch.go:93", after := #[{ on := 5, ground := Go.Ground.data }], guard := none }) (v := ?_) rfl (by kernel_rfl) (by kernel_rfl) (by kernel_rfl) (fun _ _ _ h => h) (Or.inl ⟨by rfl, ?_⟩) hHeld ?_
      rotate_left
      · intro w hSw; obtain ⟨q1, q2⟩ := hSw; obtain ⟨a0, a1, a2⟩ := q1.three; obtain ⟨b0, b1, b2⟩ := q2.three; go_simp <;> with_reducible rfl
      try simp only [Act.put, List.setIfInBounds_toArray, List.set_cons_zero, List.set_cons_succ]
      refine wpAnyH_take (i := 7) (oi := { dst := some 48, op := Go.Op.binOp Go.BinOp.eql 3 (Go.Operand.tmp 47) (Go.Operand.const (Go.Value.int Go.IntKind.i64 4)) 3, type := 4, pos := "branch.go:93", after := #[{ on := 6, ground := Go.Ground.data }], guard := none }) (v := ?_) rfl (by kernel_rfl) (by kernel_rfl) (by kernel_rfl) (fun _ _ _ h => h) (Or.inl ⟨by rfl, ?_⟩) hHeld ?_
      rotate_left
      · intro w hSw; (try dsimp only at hSw); go_simp <;> with_reducible rfl
      try simp only [Act.put, List.setIfInBounds_toArray, List.set_cons_zero, List.set_cons_succ]
      refine wpAnyH_ready (rs := [4]) (by kernel_rfl) (by simp) ?_
      refine AllReadyH.cons rfl (fun K hK => ?_) AllReadyH.nil
      go_simp
      refine (St.in_any n _ vs _ (HS.out _ HB1.out)).mono ?_
      rintro e w2 ⟨rfl, hb2⟩
      have HB2 : Hid (Below W0.heap.size W0 w2) := HB1.out.trans (hb2.mono HB1.out.size)
      clear hb2
      refine hK.out _ _ (⟨HD.out.below HB2.out, HV.out.below HB2.out⟩) (fun hHeld2 => ?_)
      clear hK K hHeld
      have hHeld := hHeld2
      clear hHeld2
      try simp only [Act.put, List.setIfInBounds_toArray, List.set_cons_zero, List.set_cons_succ]
      refine wpAnyH_take (i := 8) (oi := { dst := some 49, op := Go.Op.binOp Go.BinOp.eql 4 (Go.Operand.tmp 45) (Go.Operand.tmp 48) 4, type := 4, pos := "branch.go:93", after := #[{ on := 4, ground := Go.Ground.data }, { on := 7, ground := Go.Ground.data }], guard := none }) (v := ?_) rfl (by kernel_rfl) (by kernel_rfl) (by kernel_rfl) (fun _ _ _ h => h) (Or.inl ⟨by rfl, ?_⟩) hHeld ?_
      rotate_left
      · intro w hSw; (try dsimp only at hSw); go_simp <;> with_reducible rfl
      try simp only [Act.put, List.setIfInBounds_toArray, List.set_cons_zero, List.set_cons_succ]
      refine wpAnyH_take (i := 9) (oi := { dst := some 4, op := Go.Op.assign (Go.Operand.tmp 49), type := 4, pos := "branch.go:93", after := #[{ on := 8, ground := Go.Ground.data }, { on := 4, ground := Go.Ground.chain }, { on := 0, ground := Go.Ground.phase }, { on := 1, ground := Go.Ground.phase }, { on := 2, ground := Go.Ground.phase }, { on := 3, ground := Go.Ground.phase }, { on := 4, ground := Go.Ground.phase }, { on := 5, ground := Go.Ground.phase }, { on := 6, ground := Go.Ground.phase }, { on := 7, ground := Go.Ground.phase }, { on := 8, ground := Go.Ground.phase }], guard := none }) (v := ?_) rfl (by kernel_rfl) (by kernel_rfl) (by kernel_rfl) (fun _ _ _ h => h) (Or.inl ⟨by rfl, ?_⟩) hHeld ?_
      rotate_left
      · intro w hSw; (try dsimp only at hSw); go_simp <;> with_reducible rfl
      try simp only [Act.put, List.setIfInBounds_toArray, List.set_cons_zero, List.set_cons_succ]
      refine wpAnyH_done (by kernel_rfl) ?_ _
      go_wp2
      go_ret
      exact ⟨ret_bool (by first | (simp; done) | (cases h : (St.tkS vs).contains n <;> simp_all)), HB0.out.trans (HB2.out.mono HB0.out.size)⟩

end Go.Proofs.YthkliicmoandmaaGreatDoor
