/-
  What is proved here: what ints.power returns, at all numbers of 64 bits with an exponent that is not below 0.
-/
import Derived.Test.YtfgpedleiajgeaaWg
namespace Go.Proofs.Ytfgpedleiajgeaa
open Go.RowKit Go.Shelf

attribute [local go_sem] Oper.semAt_some

/-- A function that holds a label, inside the wide fence. -/
theorem wpIn_scope_wide {n : Nat} {P : Program} {c : Code} {Q : Exit → Act → World → Prop} {a : Act} {w : World} (h : c.wpIn Fence.wide n P (Exit.noGoto Q) a w) : (Code.scope c).wpIn Fence.wide n P Q a w :=
  wpIn_wide.2 (wp_scope_straight (wpIn_wide.1 h))

set_option maxHeartbeats 1000000 in
theorem bits_in (n : Nat) (v : Int) (w : World) :
    CallsIn Fence.wide n Try.prog 49 #[.int .u64 v] w fun e w' => e = .returned (.func (.func 51) #[] #[.pointer (some ⟨w.heap.size, 0, none⟩)]) ∧ w' = w.alloc (.cells #[.int .u64 v] 38) := by
  refine callsIn_of_wp Try.func49 rfl trivial ?_ rfl
  simp only [Try.ntmps49, List.size_toArray, List.length_cons, List.length_nil, Nat.reduceAdd, Nat.reduceSub, Array.replicate_succ, Array.replicate_zero, List.push_toArray, List.append_toArray, List.nil_append, List.cons_append]
  gi_wp2
  go_ret
  exact ⟨rfl, rfl⟩

theorem keepsOthers_below {W W' : World} (h : Below W.heap.size W W') : KeepsOthers W W' := ⟨h.size, fun k _ hk _ => (h.block k (Array.getElem?_eq_some_iff.1 hk).1).trans hk⟩
theorem boxed_below {W W' : World} {n B : Nat} {t : TypeId} {v : Value} (h : Boxed W B t v) (hb : Below n W W') (hB : B < n) : Boxed W' B t v := (hb.block B hB).trans h

theorem fits_pow_no {a : Int} {k b : Nat} (h : ¬ Fits (a ^ k)) (hk : k ≤ b) : ¬ Fits (a ^ b) := by
  rcases Nat.lt_or_eq_of_le hk with hlt | rfl
  · intro hb
    have ek : (a ^ k).natAbs = a.natAbs ^ k := Int.natAbs_pow a k
    have eb : (a ^ b).natAbs = a.natAbs ^ b := Int.natAbs_pow a b
    have ha : 2 ≤ a.natAbs := by
      apply Classical.byContradiction; intro hn
      have hle : a.natAbs ^ k ≤ 1 ^ k := Nat.pow_le_pow_left (by omega) k
      rw [Nat.one_pow] at hle
      apply h; unfold Fits; omega
    have h2 : a.natAbs ^ b = a.natAbs ^ k * a.natAbs ^ (b - k) := by rw [← Nat.pow_add]; congr 1; omega
    have h3 : a.natAbs ^ 1 ≤ a.natAbs ^ (b - k) := Nat.pow_le_pow_right (by omega) (by omega)
    rw [Nat.pow_one] at h3
    have h4 : a.natAbs ^ k * 2 ≤ a.natAbs ^ k * a.natAbs ^ (b - k) := Nat.mul_le_mul_left _ (by omega)
    unfold Fits at *
    omega
  · exact h

set_option maxRecDepth 100000 in
set_option maxHeartbeats 2000000 in
theorem power_any (a : Int) (m : Nat) (w : World) (ha : Fits a) (hm : m < 9223372036854775808) :
    Calls Try.prog 42 #[.int .i64 a, .int .i64 (m : Int)] w fun e w' => e = .returned (.tuple #[.int .i64 (ov (a ^ m)), .int .i64 (oe (a ^ m))]) ∧ Below w.heap.size w w' := by
  refine (callsIn_wide (n := 6)).1 ?_
  refine callsIn_of_wp_marks Try.func42 rfl trivial ?_ rfl
  simp only [Try.ntmps42, List.size_toArray, List.length_cons, List.length_nil, Nat.reduceAdd, Nat.reduceSub, Array.replicate_succ, Array.replicate_zero, List.push_toArray, List.append_toArray, List.nil_append, List.cons_append]
  have hmw : IntKind.u64.wrap (m : Int) = (m : Int) := by rw [IntKind.wrap_u64]; omega
  gi_wp2
  apply wpIn_scope_wide
  gi_wp2_with fail
  refine wpIn_label ?_
  gi_wp2_with (refine ⟨trivial, ?_⟩; gi_at_call 49; refine (bits_in _ _ _).mono ?_; rintro e w' ⟨rfl, rfl⟩)
  obtain ⟨N, hN⟩ : ∃ N, w.heap.size = N := ⟨_, rfl⟩
  obtain ⟨W0, hW0⟩ : ∃ W0, ((((w.alloc (Obj.cells #[Value.int IntKind.i64 a] 2)).alloc (Obj.cells #[Value.int IntKind.i64 1] 2)).alloc (Obj.cells #[Value.int IntKind.i64 0] 22)).alloc (Obj.cells #[Value.int IntKind.u64 (m : Int)] 38)) = W0 := ⟨_, rfl⟩
  have hs0 : W0.heap.size = N + 4 := by rw [← hW0, ← hN]; simp
  have bA : Boxed W0 N 2 (.int .i64 a) := by rw [← hW0, ← hN]; exact (((Boxed.new w 2 _).alloc _).alloc _).alloc _
  have bP : Boxed W0 (N + 1) 2 (.int .i64 1) := by
    rw [← hW0, ← hN]; have h := Boxed.new (w.alloc (Obj.cells #[Value.int IntKind.i64 a] 2)) 2 (.int .i64 1); rw [World.size_alloc] at h; exact (h.alloc _).alloc _
  have bE : Boxed W0 (N + 2) 22 (.int .i64 0) := by
    rw [← hW0, ← hN]; have h := Boxed.new ((w.alloc (Obj.cells #[Value.int IntKind.i64 a] 2)).alloc (Obj.cells #[Value.int IntKind.i64 1] 2)) 22 (.int .i64 0); rw [World.size_alloc, World.size_alloc] at h; exact h.alloc _
  have bN : Boxed W0 (N + 3) 38 (.int .u64 (m : Int)) := by
    rw [← hW0, ← hN]; have h := Boxed.new (((w.alloc (Obj.cells #[Value.int IntKind.i64 a] 2)).alloc (Obj.cells #[Value.int IntKind.i64 1] 2)).alloc (Obj.cells #[Value.int IntKind.i64 0] 22)) 38 (.int .u64 (m : Int)); rw [World.size_alloc, World.size_alloc, World.size_alloc] at h; exact h
  have hB0 : Below N w W0 := by
    rw [← hW0, ← hN]; exact ((((Below.refl _ w).alloc (Nat.le_refl _) _).alloc (by simp) _).alloc (by simp; omega) _).alloc (by simp; omega) _
  rw [hW0, hN]
  have hNw : N ≤ w.heap.size := by omega
  clear hW0
  refine wpIn_rangeFunc_ownF (α := Bool) rfl (by decide) (gf := 51) (lb := #[.pointer (some ⟨N + 1 + 1 + 1, 0, none⟩)]) rfl trivial (enters_of Try.func51 (by kernel_rfl) rfl)
    (encs := fun x => #[.bool x]) (Kp := fun W W' => W'.cell? ⟨N + 3, 0, none⟩ = W.cell? ⟨N + 3, 0, none⟩) (S := fun xs => bval xs = m) (Sp := fun pre => bval pre ≤ m) (N := 64) (w0 := W0)
    (fun l J Jx W hW _ _ hY h0 => bits1_in 5 (by decide) l (N + 3) m (by omega) J Jx hY W ((hW.cell (p := ⟨N + 3, 0, none⟩) (by show N + 3 < _; omega)).trans bN.cell) h0)
    (fun h k => k.trans h) (fun W l o o' hl h h1 h2 => (belowK_b (n₀ := N + 4) (by omega) W l o o' hl h h1 h2).cell (p := ⟨N + 3, 0, none⟩) (by show N + 3 < N + 4; omega)) (Below.refl _ _) (fun _ => rfl)
    (fun pre W => Fits (a ^ bval pre) ∧ Boxed W (N + 1) 2 (.int .i64 (a ^ bval pre)) ∧ Boxed W (N + 2) 22 (.int .i64 0) ∧ Boxed W N 2 (.int .i64 a) ∧ Boxed W (N + 3) 38 (.int .u64 (m : Int)) ∧ Below N w W)
    (fun c pre W => c = .exit 0 ∧ (∃ k, k ≤ bval pre ∧ ¬ Fits (a ^ k)) ∧ Boxed W (N + 1) 2 (.int .i64 0) ∧ Boxed W (N + 2) 22 (.int .i64 10) ∧ Below N w W)
    (OwnFrom.and (ownFrom_pure _ _) (OwnFrom.and (Own.from (boxed_own _ _ _) _) (OwnFrom.and (Own.from (boxed_own _ _ _) _) (OwnFrom.and (Own.from (boxed_own _ _ _) _) (OwnFrom.and (Own.from (boxed_own _ _ _) _) (ownFrom_below hNw (by omega)))))))
    (fun c => OwnFrom.and (ownFrom_pure _ _) (OwnFrom.and (ownFrom_pure _ _) (OwnFrom.and (Own.from (boxed_own _ _ _) _) (OwnFrom.and (Own.from (boxed_own _ _ _) _) (ownFrom_below hNw (by omega))))))
    ⟨by unfold Fits bval; simp, by simpa [bval] using bP, bE, bA, bN, hB0⟩
    (fun x => { tmps := #[Value.int IntKind.i64 a, Value.int IntKind.i64 (m : Int), Value.pointer (some { block := N, off := 0 }), undef, Value.int IntKind.i64 0, Value.int IntKind.i64 0, Value.pointer (some { block := N + 1, off := 0 }), Value.pointer (some { block := N + 1 + 1, off := 0 }), .bool x, Value.int IntKind.i64 (m : Int), Value.int IntKind.u64 (m : Int), Value.func (Fn.func 51) #[] #[Value.pointer (some { block := N + 1 + 1 + 1, off := 0 })], .bool x, undef, undef, undef, undef, undef, undef, undef, undef, undef, undef, undef, undef, undef, undef, undef, undef, undef, undef, undef, undef, undef], defers := [] })
    ?assign ?body ?done ?stop
  case assign =>
    intro l x W K hK
    gi_wp2
    exact hK
  case body =>
    rintro l pre x W ⟨hf, hP, hE, hA, hM, hB⟩ _
    obtain ⟨q, hq⟩ : ∃ q, a ^ bval pre = q := ⟨_, rfl⟩
    rw [hq] at hf hP
    have Hq : Hid (a ^ bval pre = q) := hq
    clear hq
    have cP := hP.cell; have cE := hE.cell; have cA := hA.cell
    by_cases hf2 : Fits (q * q)
    · have hmul : CallsIn Fence.wide (6 - 1 - 1 - 1) Try.prog 13 #[.int .i64 q, .int .i64 q] W fun e w1 => e = .returned (.tuple #[.int .i64 (q * q), .int .i64 0]) ∧ Below W.heap.size W w1 := by
        have h := mul_any q q W hf hf
        rw [ov_yes hf2, oe_yes hf2] at h
        exact callsIn_wide.2 h
      cases x
      · have hv : a ^ bval (pre ++ [false]) = q * q := by
          rw [bval_snoc, ← Hq.out, ← Int.pow_add]; congr 1; simp; omega
        have Hv : Hid (a ^ bval (pre ++ [false]) = q * q) := hv
        clear hv
        gi_wp2_with fail
        refine ⟨trivial, (CallsIn.inRound l hmul).mono ?_⟩
        rintro e w1 ⟨rfl, h1⟩
        have hP1 := boxed_below hP h1 hP.lt; have hE1 := boxed_below hE h1 hE.lt; have hA1 := boxed_below hA h1 hA.lt; have hM1 := boxed_below hM h1 hM.lt
        have cP1 := hP1.cell; have cE1 := hE1.cell; have fP1 := hP1.frozen; have fE1 := hE1.frozen
        gi_wp2
        refine ⟨(keepsOthers_below h1).trans ((KeepsOthers.setCell _ _ _).trans (KeepsOthers.setCell _ _ _)), ?_, ?_⟩
        · exact ((hM1.other (by omega) _).other (by omega) _).cell.trans hM.cell.symm
        · refine ⟨by rw [Hv.out]; exact hf2, by rw [Hv.out]; exact (hP1.set _).other (by omega) _, (hE1.other (by omega) _).set _, (hA1.other (by omega) _).other (by omega) _, (hM1.other (by omega) _).other (by omega) _, ?_⟩
          exact ((hB.trans (h1.mono (Nat.le_trans hNw hB.size))).setCell (p := ⟨N + 1, 0, none⟩) (by show N ≤ N + 1; omega) _).setCell (p := ⟨N + 2, 0, none⟩) (by show N ≤ N + 2; omega) _
      · have hv : a ^ bval (pre ++ [true]) = q * q * a := by
          rw [bval_snoc, ← Hq.out, ← Int.pow_add, ← Int.pow_succ]; congr 1; simp; omega
        have Hv : Hid (a ^ bval (pre ++ [true]) = q * q * a) := hv
        clear hv
        gi_wp2_with fail
        refine ⟨trivial, (CallsIn.inRound l hmul).mono ?_⟩
        rintro e w1 ⟨rfl, h1⟩
        have hP1 := boxed_below hP h1 hP.lt; have hE1 := boxed_below hE h1 hE.lt; have hA1 := boxed_below hA h1 hA.lt; have hM1 := boxed_below hM h1 hM.lt
        have cP1 := hP1.cell; have cE1 := hE1.cell; have fP1 := hP1.frozen; have fE1 := hE1.frozen
        have cA1 := hA1.cell
        gi_wp2_with fail
        have hP2 := (hP1.set (.int .i64 (q * q))).other (B' := N + 2) (by omega) (.int .i64 0)
        have hE2 := (hE1.other (B' := N + 1) (by omega) (.int .i64 (q * q))).set (.int .i64 0)
        have hA2 := (hA1.other (B' := N + 1) (by omega) (.int .i64 (q * q))).other (B' := N + 2) (by omega) (.int .i64 0)
        have hM2 := (hM1.other (B' := N + 1) (by omega) (.int .i64 (q * q))).other (B' := N + 2) (by omega) (.int .i64 0)
        have hB2 := ((hB.trans (h1.mono (Nat.le_trans hNw hB.size))).setCell (p := ⟨N + 1, 0, none⟩) (by show N ≤ N + 1; omega) (.int .i64 (q * q))).setCell (p := ⟨N + 2, 0, none⟩) (by show N ≤ N + 2; omega) (.int .i64 0)
        have hk2 := (keepsOthers_below h1).trans ((KeepsOthers.setCell w1 ⟨N + 1, 0, none⟩ (.int .i64 (q * q))).trans (KeepsOthers.setCell _ ⟨N + 2, 0, none⟩ (.int .i64 0)))
        by_cases hf3 : Fits (q * q * a)
        · have hmul2 : ∀ W, CallsIn Fence.wide (6 - 1 - 1 - 1) Try.prog 13 #[.int .i64 (q * q), .int .i64 a] W fun e w1 => e = .returned (.tuple #[.int .i64 (q * q * a), .int .i64 0]) ∧ Below W.heap.size W w1 := by
            intro W
            have h := mul_any (q * q) a W hf2 ha
            rw [ov_yes hf3, oe_yes hf3] at h
            exact callsIn_wide.2 h
          refine ⟨trivial, (CallsIn.inRound l (hmul2 _)).mono ?_⟩
          rintro e w2 ⟨rfl, h2⟩
          have hP3 := boxed_below hP2 h2 hP2.lt; have hE3 := boxed_below hE2 h2 hE2.lt; have hA3 := boxed_below hA2 h2 hA2.lt; have hM3 := boxed_below hM2 h2 hM2.lt
          have cP3 := hP3.cell; have cE3 := hE3.cell; have fP3 := hP3.frozen; have fE3 := hE3.frozen
          have hB3 := hB2.trans (h2.mono (Nat.le_trans hNw hB2.size))
          gi_wp2
          refine ⟨hk2.trans ((keepsOthers_below h2).trans ((KeepsOthers.setCell _ _ _).trans (KeepsOthers.setCell _ _ _))), ?_, ?_⟩
          · exact ((hM3.other (by omega) _).other (by omega) _).cell.trans hM.cell.symm
          · refine ⟨by rw [Hv.out]; exact hf3, by rw [Hv.out]; exact (hP3.set _).other (by omega) _, (hE3.other (by omega) _).set _, (hA3.other (by omega) _).other (by omega) _, (hM3.other (by omega) _).other (by omega) _, ?_⟩
            exact (hB3.setCell (p := ⟨N + 1, 0, none⟩) (by show N ≤ N + 1; omega) _).setCell (p := ⟨N + 2, 0, none⟩) (by show N ≤ N + 2; omega) _
        · have hmul2 : ∀ W, CallsIn Fence.wide (6 - 1 - 1 - 1) Try.prog 13 #[.int .i64 (q * q), .int .i64 a] W fun e w1 => e = .returned (.tuple #[.int .i64 0, .int .i64 10]) ∧ Below W.heap.size W w1 := by
            intro W
            have h := mul_any (q * q) a W hf2 ha
            rw [ov_no hf3, oe_no hf3] at h
            exact callsIn_wide.2 h
          refine ⟨trivial, (CallsIn.inRound l (hmul2 _)).mono ?_⟩
          rintro e w2 ⟨rfl, h2⟩
          have hP3 := boxed_below hP2 h2 hP2.lt; have hE3 := boxed_below hE2 h2 hE2.lt; have hA3 := boxed_below hA2 h2 hA2.lt; have hM3 := boxed_below hM2 h2 hM2.lt
          have cP3 := hP3.cell; have cE3 := hE3.cell; have fP3 := hP3.frozen; have fE3 := hE3.frozen
          have hB3 := hB2.trans (h2.mono (Nat.le_trans hNw hB2.size))
          gi_wp2
          refine ⟨hk2.trans ((keepsOthers_below h2).trans ((KeepsOthers.setCell _ _ _).trans (KeepsOthers.setCell _ _ _))), rfl, ⟨_, Nat.le_refl _, by rw [Hv.out]; exact hf3⟩, (hP3.set _).other (by omega) _, (hE3.other (by omega) _).set _, ?_⟩
          exact (hB3.setCell (p := ⟨N + 1, 0, none⟩) (by show N ≤ N + 1; omega) _).setCell (p := ⟨N + 2, 0, none⟩) (by show N ≤ N + 2; omega) _
    · have hmul : CallsIn Fence.wide (6 - 1 - 1 - 1) Try.prog 13 #[.int .i64 q, .int .i64 q] W fun e w1 => e = .returned (.tuple #[.int .i64 0, .int .i64 10]) ∧ Below W.heap.size W w1 := by
        have h := mul_any q q W hf hf
        rw [ov_no hf2, oe_no hf2] at h
        exact callsIn_wide.2 h
      have hnk : ∃ k, k ≤ bval (pre ++ [x]) ∧ ¬ Fits (a ^ k) := ⟨2 * bval pre, by rw [bval_snoc]; omega, by rw [show 2 * bval pre = bval pre + bval pre from by omega, Int.pow_add, Hq.out]; exact hf2⟩
      have Hnk : Hid (∃ k, k ≤ bval (pre ++ [x]) ∧ ¬ Fits (a ^ k)) := hnk
      clear hnk
      gi_wp2_with fail
      refine ⟨trivial, (CallsIn.inRound l hmul).mono ?_⟩
      rintro e w1 ⟨rfl, h1⟩
      have hP1 := boxed_below hP h1 hP.lt; have hE1 := boxed_below hE h1 hE.lt
      have cP1 := hP1.cell; have cE1 := hE1.cell; have fP1 := hP1.frozen; have fE1 := hE1.frozen
      gi_wp2
      refine ⟨(keepsOthers_below h1).trans ((KeepsOthers.setCell _ _ _).trans (KeepsOthers.setCell _ _ _)), rfl, Hnk.out, (hP1.set _).other (by omega) _, (hE1.other (by omega) _).set _, ?_⟩
      exact ((hB.trans (h1.mono (Nat.le_trans hNw hB.size))).setCell (p := ⟨N + 1, 0, none⟩) (by show N ≤ N + 1; omega) _).setCell (p := ⟨N + 2, 0, none⟩) (by show N ≤ N + 2; omega) _
  case done =>
    rintro D xs W hD hS ⟨hf, hP, hE, hA, hM, hB⟩ hK
    rw [hS] at hf hP
    have cP := hP.cell; have cE := hE.cell
    have hBe : Below w.heap.size w (W.drew.putObj D (.deferred none)) := by
      rw [hN]; exact (hB.drew).trans (belowK_b (n₀ := N) (w := w) hNw W.drew D _ (.deferred none) (by omega) hK rfl rfl)
    have HBe : Hid (Below w.heap.size w (W.drew.putObj D (.deferred none))) := hBe
    clear hBe
    gi_wp2
    gi_region
    all_goals gi_wp2
    rw [Exit.noGoto_ret]
    refine ⟨by simp, .inl ⟨_, _, rfl, run_takeDeferred (w := W.drew) hK, ?_⟩⟩
    exact ⟨_, results_tmp2 (t := 4) (u := 5) rfl _ _ _, ret2_eq (ov_yes hf).symm (oe_yes hf).symm, HBe.out⟩
  case stop =>
    rintro D c pre W hD hS ⟨rfl, ⟨k, hk, hnf⟩, hP, hE, hB⟩ hK
    have hf : ¬ Fits (a ^ m) := fits_pow_no hnf (Nat.le_trans hk hS)
    clear hnf hk hS
    have cP := hP.cell; have cE := hE.cell
    have hBe : Below w.heap.size w (W.drew.putObj D (.deferred none)) := by
      rw [hN]; exact (hB.drew).trans (belowK_b (n₀ := N) (w := w) hNw W.drew D _ (.deferred none) (by omega) hK rfl rfl)
    have HBe : Hid (Below w.heap.size w (W.drew.putObj D (.deferred none))) := hBe
    clear hBe
    gi_wp2
    gi_region
    all_goals gi_wp2
    rw [Exit.noGoto_ret]
    refine ⟨by simp, .inl ⟨_, _, rfl, run_takeDeferred (w := W.drew) hK, ?_⟩⟩
    exact ⟨_, results_tmp2 (t := 4) (u := 5) rfl _ _ _, ret2_eq (ov_no hf).symm (oe_no hf).symm, HBe.out⟩
end Go.Proofs.Ytfgpedleiajgeaa
