/-
  What is proved here: the reference's value of a number, whether a number is in a list, which variable is taken.
-/
import Derived.Test.YthkliicmoandmaaGreatDoorDhj
import Derived.Test.YthkliicmoandmaaGreatDoorDe
import Derived.Deep.RegionHeld3
namespace Go.Proofs.YthkliicmoandmaaGreatDoor
open Go.RowKit Go.Shelf
set_option linter.unusedVariables false
set_option linter.unusedSimpArgs false

set_option maxRecDepth 100000 in
set_option maxHeartbeats 4000000 in
theorem rnth_any {X : Nat → Prop} {W : World} {ra : Option Addr} {n0 rc : Nat} {r : List Dm.Rg} (h : Rm X W (.slice ra n0 rc) r) (hR : Dm.Right r) (n : Int) (hn : 0 ≤ n) (hn2 : n ≤ 4611686018427387904) :
    Calls Tryz.prog 85 #[.slice ra n0 rc, .int .i64 n] W fun e w' => e = .returned (.int .i64 (nthR r n)) ∧ Below W.heap.size W w' := by
  have hln : r.length = n0 := by obtain ⟨_, _, e, _⟩ := h; injection e with _ e2 _; exact e2.symm
  have HC : Hid (∀ k, k < n0 → ∃ b off, ra = some ⟨b, off, none⟩ ∧ ∀ w, Below W.heap.size W w → w.cell? ⟨b, off + k * 2, none⟩ = some (.int .i64 (Dm.lo r k)) ∧ w.cell? ⟨b, off + k * 2 + 1, none⟩ = some (.int .i64 (Dm.hi r k))) := fun k hk => by
    obtain ⟨a, c, e, hc⟩ := h
    injection e with q1 q2 q3
    obtain ⟨b, off, e1, hb, _, hcc⟩ := hc (by omega)
    refine ⟨b, off, q1.trans e1, fun w hbw => ?_⟩
    obtain ⟨g1, g2⟩ := hcc k (by omega)
    exact ⟨(hbw.cell (p := ⟨b, _, none⟩) hb).trans g1, (hbw.cell (p := ⟨b, _, none⟩) hb).trans g2⟩
  have HR : Hid (Dm.Right r) := hR
  have hn0 : n0 ≤ 4096 := by rw [← hln]; exact hR.1
  have HLN : Hid (r.length = n0) := hln
  clear h hR hln
  go_enter Tryz.func85, Tryz.ntmps85
  go_wp2
  go_loopw [1, 5] (fun v i wr => ∃ (k : Nat) (m : Int), v = .int .i64 m ∧ i = .int .i64 (k : Int) ∧ k ≤ n0 ∧ 0 ≤ m ∧ m ≤ n ∧ Hid (nthR r n = nthR (r.drop k) m) ∧ Hid (Below W.heap.size W wr)) (fun _ i _ => n0 - (intOf i).toNat)
  case atStart => exact ⟨0, n, rfl, rfl, Nat.zero_le _, hn, Int.le_refl _, rfl, Below.refl _ _⟩
  case round =>
    obtain ⟨k, m, rfl, rfl, hk, hm0, hmn, HM, HB⟩ := hrel
    by_cases hlt : k < n0
    · have hlt' : (k : Int) < (n0 : Int) := by omega
      obtain ⟨b, off, rfl, hcell⟩ := HC.out k hlt
      obtain ⟨g0, g1⟩ := hcell wr HB.out
      have hok := HR.out.2 k (by rw [HLN.out]; exact hlt)
      unfold Dm.OkAt at hok
      have HST : Hid (nthR (r.drop k) m = if m < Dm.hi r k - Dm.lo r k + 1 then Dm.lo r k + m else nthR (r.drop (k + 1)) (m - (Dm.hi r k - Dm.lo r k + 1))) := nthR_drop r k m (by rw [HLN.out]; exact hlt)
      have HCL : Hid (∀ w, Below W.heap.size W w → w.cell? ⟨b, off + k * 2, none⟩ = some (.int .i64 (Dm.lo r k))) := fun w hb => (hcell w hb).1
      obtain ⟨lo, hlo⟩ : ∃ q, Dm.lo r k = q := ⟨_, rfl⟩
      obtain ⟨hi, hhi⟩ : ∃ q, Dm.hi r k = q := ⟨_, rfl⟩
      rw [hlo] at g0 hok HST HCL
      rw [hhi] at g1 hok HST
      obtain ⟨ok1, ok2, ok3, _⟩ := hok
      clear hcell hlo hhi
      obtain ⟨dl, hdl⟩ : ∃ q, hi - lo = q := ⟨_, rfl⟩
      obtain ⟨sz, hsz⟩ : ∃ q, dl + 1 = q := ⟨_, rfl⟩
      rw [hdl, hsz] at HST
      have hsz0 : 1 ≤ sz ∧ sz ≤ 2000001 := by omega
      have hmb : -9223372036854775808 ≤ lo + m ∧ lo + m ≤ 9223372036854775807 := by omega
      have hmc : -9223372036854775808 ≤ m - sz ∧ m - sz ≤ 9223372036854775807 := by omega
      have hm1 : -9223372036854775808 ≤ hi - lo ∧ hi - lo ≤ 9223372036854775807 := by omega
      have hm2 : -9223372036854775808 ≤ dl + 1 ∧ dl + 1 ≤ 9223372036854775807 := by omega
      have hm3 : -9223372036854775808 ≤ (k : Int) + 1 ∧ (k : Int) + 1 ≤ 9223372036854775807 := by omega
      have hw1 := (wrapU_in _ hm1).trans hdl
      have hw1i := (wrapI_in _ hm1).trans hdl
      have hw2 := (wrapU_in _ hm2).trans hsz
      have hw2i := (wrapI_in _ hm2).trans hsz
      have hw3 := wrapU_in _ hm3
      have hw3i := wrapI_in _ hm3
      have HSZ : Hid (1 ≤ sz ∧ sz ≤ 2000001) := hsz0
      clear hdl hsz hm1 hm2 hm3 ok1 ok2 ok3 hsz0
      by_cases hlm : m < sz
      · have hd : decide (m < sz) = true := by simpa using hlm
        have HV : Hid (nthR r n = lo + m) := by unfold Hid; rw [HM.out, HST.out, if_pos hlm]
        have hw4 := wrapU_in (lo + m) hmb
        have hw4i := wrapI_in (lo + m) hmb
        clear hmb hmc
        go_upto_region 4 with (fail)
        go_quiet (fail)
        have HBQ : Hid (Below W.heap.size W (wr.drewN nq)) := below_drewN HB.out _
        have g2 := HCL.out _ HBQ.out
        go_wp2
        go_ret
        exact ⟨by rw [HV.out]; rfl, HBQ.out⟩
      · have hd : decide (m < sz) = false := by simpa using hlm
        have HV : Hid (nthR r n = nthR (r.drop (k + 1)) (m - sz)) := by unfold Hid; rw [HM.out, HST.out, if_neg hlm]
        have hw4 := wrapU_in (m - sz) hmc
        have hw4i := wrapI_in (m - sz) hmc
        clear hmb hmc
        go_upto_region 4 with (fail)
        go_quiet (fail)
        have HBQ : Hid (Below W.heap.size W (wr.drewN nq)) := below_drewN HB.out _
        go_wp2
        go_roundw
        all_goals clear hw1 hw1i hw2 hw2i hw3 hw3i hw4 hw4i
        case rel => exact ⟨k + 1, m - sz, rfl, by go_num, by omega, by omega, by have := HSZ.out; omega, HV.out, HBQ.out⟩
        case measure => simp [intOf]; omega
    · have hlt' : ¬ (k : Int) < (n0 : Int) := by omega
      have HV : Hid (nthR r n = 0) := by unfold Hid; rw [HM.out, List.drop_of_length_le (by rw [HLN.out]; omega)]; rfl
      go_wp2
      go_ret
      exact ⟨by rw [HV.out]; rfl, HB.out⟩
def hasI (l : List Int) (v : Int) : Bool := l.contains v

set_option maxRecDepth 100000 in
set_option maxHeartbeats 4000000 in
theorem rhas_any {W : World} {p : Option Addr} {nl k : Nat} {l : List Int} (v : Int) (h : Ns W (.slice p nl k) l) (hl : l.length ≤ 9223372036854775806) :
    Calls Tryz.prog 42 #[.int .i64 v, .slice p nl k] W fun e w' => e = .returned (.bool (hasI l v)) ∧ w' = W := by
  have hln : l.length = nl := by obtain ⟨_, _, e, _⟩ := h; injection e with _ e2 _; exact e2.symm
  have HC : Hid (∀ i x, l[i]? = some x → ∃ b off, p = some ⟨b, off, none⟩ ∧ W.cell? ⟨b, off + i, none⟩ = some (.int .i64 x)) := fun i x hx => by
    obtain ⟨a, c, e, hc⟩ := h
    have := (List.getElem?_eq_some_iff.1 hx).1
    obtain ⟨b, off, e1, _, _, hcc⟩ := hc (by omega)
    injection e with q1 _ _
    exact ⟨b, off, q1.trans e1, hcc i x hx⟩
  have HLN : Hid (l.length = nl) := hln
  rw [hln] at hl
  clear h hln
  go_enter Tryz.func42, Tryz.ntmps42
  go_wp2
  go_loopw [5] (fun i wr => ∃ k : Nat, i = .int .i64 (k : Int) ∧ k ≤ nl ∧ Hid (wr = W) ∧ Hid (hasI l v = hasI (l.drop k) v)) (fun i _ => nl - (intOf i).toNat)
  case atStart => exact ⟨0, rfl, Nat.zero_le _, rfl, rfl⟩
  case round =>
    obtain ⟨k, rfl, hk, HW, HM⟩ := hrel
    by_cases hlt : k < nl
    · have hlt' : (k : Int) < (nl : Int) := by omega
      have hwk : IntKind.i64.wrap ((k : Int) + 1) = (k : Int) + 1 := by rw [IntKind.wrap_i64]; omega
      obtain ⟨x, hx⟩ : ∃ x, l[k]? = some x := ⟨_, List.getElem?_eq_getElem (by rw [HLN.out]; exact hlt)⟩
      obtain ⟨b, off, rfl, g0⟩ := HC.out k x hx
      rw [← HW.out] at g0
      have HST : Hid (hasI (l.drop k) v = (v == x || hasI (l.drop (k + 1)) v)) := by
        unfold Hid hasI
        have hkl := (List.getElem?_eq_some_iff.1 hx).1
        rw [List.drop_eq_getElem_cons hkl, (List.getElem?_eq_some_iff.1 hx).2, List.contains_cons]
      clear hx
      by_cases hv : x = v
      · subst hv
        have HV : Hid (hasI l x = true) := by unfold Hid; rw [HM.out, HST.out]; simp
        go_wp2
        go_ret
        exact ⟨by rw [HV.out]; rfl, HW.out⟩
      · have hv' : (x == v) = false := by simpa using hv
        have HV : Hid (hasI l v = hasI (l.drop (k + 1)) v) := by
          unfold Hid
          have h3 : (v == x) = false := by simpa using fun e => hv e.symm
          rw [HM.out, HST.out, h3]
          rfl
        go_wp2
        go_roundw
        case rel => exact ⟨k + 1, by go_num, by omega, HW.out, HV.out⟩
        case measure => simp [intOf]; omega
    · have hlt' : ¬ (k : Int) < (nl : Int) := by omega
      have HV : Hid (hasI l v = false) := by unfold Hid; rw [HM.out, List.drop_of_length_le (by rw [HLN.out]; omega)]; rfl
      go_wp2
      go_ret
      exact ⟨by rw [HV.out]; rfl, HW.out⟩

set_option maxRecDepth 100000 in
set_option maxHeartbeats 4000000 in
theorem rbetter_any {X Y : Nat → Prop} {W : World} {c c' : List Value} {d d' : MD} (how : Int) (h : Dc X W c d) (h' : Dc Y W c' d') (hv : sevB d = true) (hv' : sevB d' = true) :
    Calls Tryz.prog 82 #[.int .i64 how, .agg c.toArray, .agg c'.toArray] W fun e w' => e = .returned (.bool (decide (rankF how d < rankF how d'))) ∧ Below W.heap.size W w' := by
  obtain ⟨b, ra, n0, rc, a1, n1, c1, a2, n2, c2, x, y, e1, HE, _, _, _⟩ := h.look
  obtain ⟨bb, rab, n0b, rcb, a1b, n1b, c1b, a2b, n2b, c2b, xb, yb, e2, HE2, _, _, _⟩ := h'.look
  subst e1 e2
  obtain ⟨N, hN⟩ : ∃ N, W.heap.size = N := ⟨_, rfl⟩
  obtain ⟨W0, hW0⟩ : ∃ Q, (W.alloc (Obj.cells #[.bool b, .slice ra n0 rc, .slice a1 n1 c1, .slice a2 n2 c2, .int .i64 x, .int .i64 y] 50)).alloc (Obj.cells #[.bool bb, .slice rab n0b rcb, .slice a1b n1b c1b, .slice a2b n2b c2b, .int .i64 xb, .int .i64 yb] 50) = Q := ⟨_, rfl⟩
  have hb0 : Below W.heap.size W W0 := by rw [← hW0]; exact ((Below.refl _ W).alloc (Nat.le_refl _) _).alloc (by simp) _
  have HX : Hid (Bx W0 N #[.bool b, .slice ra n0 rc, .slice a1 n1 c1, .slice a2 n2 c2, .int .i64 x, .int .i64 y] 50) := by rw [← hW0]; exact (Bx.new' hN _ _).alloc _
  have HY : Hid (Bx W0 (N + 1) #[.bool bb, .slice rab n0b rcb, .slice a1b n1b c1b, .slice a2b n2b c2b, .int .i64 xb, .int .i64 yb] 50) := by rw [← hW0]; exact Bx.new' (by simp [hN]) _ _
  have HEA : Hid (∀ w, Below W0.heap.size W0 w → Calls Tryz.prog 83 #[.agg #[.bool b, .slice ra n0 rc, .slice a1 n1 c1, .slice a2 n2 c2, .int .i64 x, .int .i64 y]] w fun e w' => e = .returned (.tuple #[.int .i64 (endsD d).1, .int .i64 (endsD d).2]) ∧ Below w.heap.size w w') := fun w hb => rends_d ((h.below hb0).below hb) hv
  have HEB : Hid (∀ w, Below W0.heap.size W0 w → Calls Tryz.prog 83 #[.agg #[.bool bb, .slice rab n0b rcb, .slice a1b n1b c1b, .slice a2b n2b c2b, .int .i64 xb, .int .i64 yb]] w fun e w' => e = .returned (.tuple #[.int .i64 (endsD d').1, .int .i64 (endsD d').2]) ∧ Below w.heap.size w w') := fun w hb => rends_d ((h'.below hb0).below hb) hv'
  have HSA : Hid (∀ w, Below W0.heap.size W0 w → Calls Tryz.prog 31 #[.agg #[.bool b, .slice ra n0 rc, .slice a1 n1 c1, .slice a2 n2 c2, .int .i64 x, .int .i64 y]] w fun e w' => e = .returned (.int .i64 (sizA d)) ∧ Below w.heap.size w w') := fun w hb => rsize_d ((h.below hb0).below hb)
  have HSB : Hid (∀ w, Below W0.heap.size W0 w → Calls Tryz.prog 31 #[.agg #[.bool bb, .slice rab n0b rcb, .slice a1b n1b c1b, .slice a2b n2b c2b, .int .i64 xb, .int .i64 yb]] w fun e w' => e = .returned (.int .i64 (sizA d')) ∧ Below w.heap.size w w') := fun w hb => rsize_d ((h'.below hb0).below hb)
  have HBB : Hid (Below W.heap.size W W0) := hb0
  have HWW : Hid _ := hW0
  have HRA : Hid (rankF how d = if how = 1 then sizA d else if how = 2 then -sizA d else if how = 3 then (endsD d).1 else if how = 4 then -(endsD d).2 else 0) := rfl
  have HRB : Hid (rankF how d' = if how = 1 then sizA d' else if how = 2 then -sizA d' else if how = 3 then (endsD d').1 else if how = 4 then -(endsD d').2 else 0) := rfl
  generalize rankF how d = fa at *
  generalize rankF how d' = fb at *
  generalize sizA d = sa at *
  generalize sizA d' = sb at *
  generalize (endsD d).1 = la at *
  generalize (endsD d).2 = ua at *
  generalize (endsD d').1 = lb at *
  generalize (endsD d').2 = ub at *
  obtain ⟨z0, z1, z2, z3, z4, z5⟩ := HX.out.six
  clear hb0 hW0 HE HE2 h h' hv hv'
  go_enter Tryz.func82, Tryz.ntmps82
  go_upto_region 1 with (fail)
  rw [HWW.out]
  clear hN
  go_wp2_with fail
  refine (HEA.out _ (Below.refl _ _)).mono ?_
  clear z0 z1 z2 z3 z4 z5
  rintro e w1 ⟨rfl, hb1⟩
  have HB1 : Hid (Below W0.heap.size W0 w1) := hb1
  clear hb1
  obtain ⟨z0, z1, z2, z3, z4, z5⟩ := (HY.out.below HB1.out).six
  go_wp2_with fail
  refine (HEB.out _ HB1.out).mono ?_
  clear z0 z1 z2 z3 z4 z5
  rintro e w2 ⟨rfl, hb2⟩
  have HB2 : Hid (Below W0.heap.size W0 w2) := HB1.out.trans (hb2.mono HB1.out.size)
  clear hb2
  by_cases h1 : how = 1
  · subst h1
    obtain rfl : fa = sa := HRA.out
    obtain rfl : fb = sb := HRB.out
    have HP0 : Hid (Below W0.heap.size W0 w2.drew) := HB2.out.drew
    go_upto_region 5 with (fail)
    refine wp_region_held_drew (S := fun X : World => Below W0.heap.size W0 X) (by kernel_rfl) (HP0.out) (fun hHeld => ?_)
    refine wpAnyH_take (i := 0) (oi := { dst := some 24, op := Go.Op.load 50 (Go.Operand.tmp 4), type := 50, pos := "ref.go:81", after := #[], guard := none }) (v := ?_) rfl (by kernel_rfl) (by kernel_rfl) (by kernel_rfl) (fun _ _ _ h => h) (Or.inl ⟨by rfl, ?_⟩) hHeld ?_
    rotate_left
    · intro w hSw; obtain ⟨q0, q1, q2, q3, q4, q5⟩ := (HX.out.below hSw).six; go_simp <;> with_reducible rfl
    try simp only [Act.put, List.setIfInBounds_toArray, List.set_cons_zero, List.set_cons_succ]
    refine wpAnyH_take (i := 2) (oi := { dst := some 26, op := Go.Op.load 50 (Go.Operand.tmp 5), type := 50, pos := "ref.go:81", after := #[], guard := none }) (v := ?_) rfl (by kernel_rfl) (by kernel_rfl) (by kernel_rfl) (fun _ _ _ h => h) (Or.inl ⟨by rfl, ?_⟩) hHeld ?_
    rotate_left
    · intro w hSw; obtain ⟨q0, q1, q2, q3, q4, q5⟩ := (HY.out.below hSw).six; go_simp <;> with_reducible rfl
    try simp only [Act.put, List.setIfInBounds_toArray, List.set_cons_zero, List.set_cons_succ]
    refine wpAnyH_ready (rs := [1]) (by kernel_rfl) (by simp) ?_
    refine AllReadyH.cons rfl (fun K hK => ?_) AllReadyH.nil
    go_simp
    refine (HSA.out _ HP0.out).mono ?_
    rintro e u1 ⟨rfl, hbu⟩
    have HP1 : Hid (Below W0.heap.size W0 u1) := HP0.out.trans (hbu.mono HP0.out.size)
    clear hbu
    refine hK.out _ _ (HP1.out) (fun hHeld2 => ?_)
    clear hK K hHeld
    have hHeld := hHeld2
    clear hHeld2
    try simp only [Act.put, List.setIfInBounds_toArray, List.set_cons_zero, List.set_cons_succ]
    refine wpAnyH_ready (rs := [3]) (by kernel_rfl) (by simp) ?_
    refine AllReadyH.cons rfl (fun K hK => ?_) AllReadyH.nil
    go_simp
    refine (HSB.out _ HP1.out).mono ?_
    rintro e u2 ⟨rfl, hbu⟩
    have HP2 : Hid (Below W0.heap.size W0 u2) := HP1.out.trans (hbu.mono HP1.out.size)
    clear hbu
    refine hK.out _ _ (HP2.out) (fun hHeld2 => ?_)
    clear hK K hHeld
    have hHeld := hHeld2
    clear hHeld2
    try simp only [Act.put, List.setIfInBounds_toArray, List.set_cons_zero, List.set_cons_succ]
    refine wpAnyH_take (i := 4) (oi := { dst := some 28, op := Go.Op.binOp Go.BinOp.lss 2 (Go.Operand.tmp 25) (Go.Operand.tmp 27) 2, type := 4, pos := "ref.go:81", after := #[{ on := 1, ground := Go.Ground.data }, { on := 3, ground := Go.Ground.data }], guard := none }) (v := ?_) rfl (by kernel_rfl) (by kernel_rfl) (by kernel_rfl) (fun _ _ _ h => h) (Or.inl ⟨by rfl, ?_⟩) hHeld ?_
    rotate_left
    · intro w hSw; (try dsimp only at hSw); go_simp <;> with_reducible rfl
    try simp only [Act.put, List.setIfInBounds_toArray, List.set_cons_zero, List.set_cons_succ]
    refine wpAnyH_take (i := 5) (oi := { dst := some 6, op := Go.Op.assign (Go.Operand.tmp 28), type := 4, pos := "ref.go:81", after := #[{ on := 4, ground := Go.Ground.data }, { on := 3, ground := Go.Ground.chain }, { on := 0, ground := Go.Ground.phase }, { on := 1, ground := Go.Ground.phase }, { on := 2, ground := Go.Ground.phase }, { on := 3, ground := Go.Ground.phase }, { on := 4, ground := Go.Ground.phase }], guard := none }) (v := ?_) rfl (by kernel_rfl) (by kernel_rfl) (by kernel_rfl) (fun _ _ _ h => h) (Or.inl ⟨by rfl, ?_⟩) hHeld ?_
    rotate_left
    · intro w hSw; (try dsimp only at hSw); go_simp <;> with_reducible rfl
    try simp only [Act.put, List.setIfInBounds_toArray, List.set_cons_zero, List.set_cons_succ]
    refine wpAnyH_done (by kernel_rfl) ?_ _
    go_wp2
    go_ret
    exact ⟨ret_bool (by first | rfl | simp), HBB.out.trans (HP2.out.mono HBB.out.size)⟩
  have e1 : (how == 1) = false := by simpa using h1
  by_cases h2 : how = 2
  · subst h2
    obtain rfl : fa = -sa := HRA.out
    obtain rfl : fb = -sb := HRB.out
    have HP0 : Hid (Below W0.heap.size W0 w2.drew) := HB2.out.drew
    go_upto_region 7 with (fail)
    refine wp_region_held_drew (S := fun X : World => Below W0.heap.size W0 X) (by kernel_rfl) (HP0.out) (fun hHeld => ?_)
    refine wpAnyH_take (i := 0) (oi := { dst := some 31, op := Go.Op.load 50 (Go.Operand.tmp 4), type := 50, pos := "ref.go:83", after := #[], guard := none }) (v := ?_) rfl (by kernel_rfl) (by kernel_rfl) (by kernel_rfl) (fun _ _ _ h => h) (Or.inl ⟨by rfl, ?_⟩) hHeld ?_
    rotate_left
    · intro w hSw; obtain ⟨q0, q1, q2, q3, q4, q5⟩ := (HX.out.below hSw).six; go_simp <;> with_reducible rfl
    try simp only [Act.put, List.setIfInBounds_toArray, List.set_cons_zero, List.set_cons_succ]
    refine wpAnyH_take (i := 2) (oi := { dst := some 33, op := Go.Op.load 50 (Go.Operand.tmp 5), type := 50, pos := "ref.go:83", after := #[], guard := none }) (v := ?_) rfl (by kernel_rfl) (by kernel_rfl) (by kernel_rfl) (fun _ _ _ h => h) (Or.inl ⟨by rfl, ?_⟩) hHeld ?_
    rotate_left
    · intro w hSw; obtain ⟨q0, q1, q2, q3, q4, q5⟩ := (HY.out.below hSw).six; go_simp <;> with_reducible rfl
    try simp only [Act.put, List.setIfInBounds_toArray, List.set_cons_zero, List.set_cons_succ]
    refine wpAnyH_ready (rs := [1]) (by kernel_rfl) (by simp) ?_
    refine AllReadyH.cons rfl (fun K hK => ?_) AllReadyH.nil
    go_simp
    refine (HSA.out _ HP0.out).mono ?_
    rintro e u1 ⟨rfl, hbu⟩
    have HP1 : Hid (Below W0.heap.size W0 u1) := HP0.out.trans (hbu.mono HP0.out.size)
    clear hbu
    refine hK.out _ _ (HP1.out) (fun hHeld2 => ?_)
    clear hK K hHeld
    have hHeld := hHeld2
    clear hHeld2
    try simp only [Act.put, List.setIfInBounds_toArray, List.set_cons_zero, List.set_cons_succ]
    refine wpAnyH_ready (rs := [3]) (by kernel_rfl) (by simp) ?_
    refine AllReadyH.cons rfl (fun K hK => ?_) AllReadyH.nil
    go_simp
    refine (HSB.out _ HP1.out).mono ?_
    rintro e u2 ⟨rfl, hbu⟩
    have HP2 : Hid (Below W0.heap.size W0 u2) := HP1.out.trans (hbu.mono HP1.out.size)
    clear hbu
    refine hK.out _ _ (HP2.out) (fun hHeld2 => ?_)
    clear hK K hHeld
    have hHeld := hHeld2
    clear hHeld2
    try simp only [Act.put, List.setIfInBounds_toArray, List.set_cons_zero, List.set_cons_succ]
    refine wpAnyH_take (i := 4) (oi := { dst := some 35, op := Go.Op.binOp Go.BinOp.gtr 2 (Go.Operand.tmp 32) (Go.Operand.tmp 34) 2, type := 4, pos := "ref.go:83", after := #[{ on := 1, ground := Go.Ground.data }, { on := 3, ground := Go.Ground.data }], guard := none }) (v := ?_) rfl (by kernel_rfl) (by kernel_rfl) (by kernel_rfl) (fun _ _ _ h => h) (Or.inl ⟨by rfl, ?_⟩) hHeld ?_
    rotate_left
    · intro w hSw; (try dsimp only at hSw); go_simp <;> with_reducible rfl
    try simp only [Act.put, List.setIfInBounds_toArray, List.set_cons_zero, List.set_cons_succ]
    refine wpAnyH_take (i := 5) (oi := { dst := some 6, op := Go.Op.assign (Go.Operand.tmp 35), type := 4, pos := "ref.go:83", after := #[{ on := 4, ground := Go.Ground.data }, { on := 3, ground := Go.Ground.chain }, { on := 0, ground := Go.Ground.phase }, { on := 1, ground := Go.Ground.phase }, { on := 2, ground := Go.Ground.phase }, { on := 3, ground := Go.Ground.phase }, { on := 4, ground := Go.Ground.phase }], guard := none }) (v := ?_) rfl (by kernel_rfl) (by kernel_rfl) (by kernel_rfl) (fun _ _ _ h => h) (Or.inl ⟨by rfl, ?_⟩) hHeld ?_
    rotate_left
    · intro w hSw; (try dsimp only at hSw); go_simp <;> with_reducible rfl
    try simp only [Act.put, List.setIfInBounds_toArray, List.set_cons_zero, List.set_cons_succ]
    refine wpAnyH_done (by kernel_rfl) ?_ _
    go_wp2
    go_ret
    exact ⟨ret_bool (by rw [Bool.eq_iff_iff]; simp), HBB.out.trans (HP2.out.mono HBB.out.size)⟩
  have e2 : (how == 2) = false := by simpa using h2
  by_cases h3 : how = 3
  · subst h3
    obtain rfl : fa = la := HRA.out
    obtain rfl : fb = lb := HRB.out
    go_wp2
    go_ret
    exact ⟨ret_bool (by first | rfl | simp), HBB.out.trans (HB2.out.mono HBB.out.size)⟩
  have e3 : (how == 3) = false := by simpa using h3
  by_cases h4 : how = 4
  · subst h4
    obtain rfl : fa = -ua := HRA.out
    obtain rfl : fb = -ub := HRB.out
    go_wp2
    go_ret
    exact ⟨ret_bool (by rw [Bool.eq_iff_iff]; simp), HBB.out.trans (HB2.out.mono HBB.out.size)⟩
  have e4 : (how == 4) = false := by simpa using h4
  obtain rfl : fa = 0 := by rw [HRA.out, if_neg h1, if_neg h2, if_neg h3, if_neg h4]
  obtain rfl : fb = 0 := by rw [HRB.out, if_neg h1, if_neg h2, if_neg h3, if_neg h4]
  go_wp2
  go_ret
  exact ⟨ret_bool (by first | rfl | simp), HBB.out.trans (HB2.out.mono HBB.out.size)⟩
end Go.Proofs.YthkliicmoandmaaGreatDoor
