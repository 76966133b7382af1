/-
  What is proved here: what is tried of sets; of whole numbers, whatever the selector.
-/
import Derived.Test.YthkliicmoandmaaGreatDoorDe
import Derived.Deep.RegionHeld3
namespace Go.Proofs.YthkliicmoandmaaGreatDoor
open Go.RowKit Go.Shelf
set_option linter.unusedVariables false
set_option linter.unusedSimpArgs false

/-- What is tried of a set's elements that may be there or not. -/
def elemA (how : Int) (fl R : List Int) : (Int × Int) × List Int :=
  if how = 1 ∨ how = 4 then ((4, St.nth fl (fl.length - 1)), R) else if how = 5 then ((4, St.nth fl (nextM R fl.length).1.toNat), (nextM R fl.length).2) else ((4, St.nth fl 0), R)
theorem Fresh.at {B : Nat} {w : World} {s : Value} {l : List Int} (h : St.Fresh B w s l) : ∃ A off cap, s = .slice (some ⟨A, off, none⟩) l.length cap ∧ B ≤ A ∧ A < w.heap.size ∧ ∀ i, i < l.length → w.cell? ⟨A, off + i, none⟩ = some (.int .i64 (St.nth l i)) := by
  obtain ⟨A, off, cap, cur, t, e, h1, h2, h3, h4⟩ := h
  exact ⟨A, off, cap, e, h1, h2, fun i hi => by rw [cell_of_row w A _ cur t _ h3]; exact h4 i hi⟩

set_option maxRecDepth 100000 in
set_option maxHeartbeats 4000000 in
theorem element_any {X Y : Nat → Prop} {W : World} {c : List Value} {d : MD} {rv : Value} {R : List Int} (how : Int) (h : Dc Y W c d) (hs : d.set = true) (hp : 0 < (freeL d).length) (hq : (freeL d).length ≤ 64) (hd : Dw X W rv R) :
    Calls Tryz.prog 40 #[.int .i64 how, .agg c.toArray, rv] W fun e w' => e = .returned (.tuple #[.int .i64 (elemA how (freeL d) R).1.1, .int .i64 (elemA how (freeL d) R).1.2]) ∧ Dw X w' rv (elemA how (freeL d) R).2 ∧ Kept (DrB rv) W w' := by
  obtain ⟨b, ra, n0, rc, a1, n1, c1, a2, n2, c2, x, y, rfl, HE, H1, H2, H3⟩ := h.look
  obtain rfl : b = true := by rw [← HE.out.1, hs]
  obtain ⟨W0, hW0⟩ : ∃ Q, W.alloc (Obj.cells #[.bool true, .slice ra n0 rc, .slice a1 n1 c1, .slice a2 n2 c2, .int .i64 x, .int .i64 y] 50) = Q := ⟨_, rfl⟩
  have hb0 : Below W.heap.size W W0 := by rw [← hW0]; exact (Below.refl _ W).alloc (Nat.le_refl _) _
  have HB0 : Hid (Bx W0 W.heap.size #[.bool true, .slice ra n0 rc, .slice a1 n1 c1, .slice a2 n2 c2, .int .i64 x, .int .i64 y] 50) := by rw [← hW0]; exact Bx.new _ _ _
  have kl := St.less_any (.slice a2 n2 c2) (.slice a1 n1 c1) d.up d.lo W0 (H3.out.si.below hb0) (H2.out.si.below hb0)
  have HF : Hid (St.lessL (St.tkS d.up) (St.tkS d.lo) = freeL d) := rfl
  rw [HF.out] at kl
  generalize freeL d = fl at *
  have HBB : Hid (Below W.heap.size W W0) := hb0
  have HWW : Hid _ := hW0
  have HDW : Hid (∀ w, Below W.heap.size W w → Dw X w rv R) := fun w hb => hd.below hb
  have HDL : Hid (∀ b, DrB rv b → b < W.heap.size) := fun b hb => hd.lt hb
  obtain ⟨ra', hra⟩ := hd.ptr
  obtain ⟨z0, z1, z2, z3, z4, z5⟩ := HB0.out.six
  clear hb0 hW0 H1 H2 H3 HE hs h HF hd
  have KL : Hid _ := kl
  clear kl
  by_cases h14 : how = 1 ∨ how = 4
  · have HM : Hid (elemA how fl R = ((4, St.nth fl (fl.length - 1)), R)) := if_pos h14
    rw [HM.out]
    obtain ⟨nf, hnf⟩ : ∃ q, fl.length = q := ⟨_, rfl⟩
    rw [hnf] at hp hq ⊢
    obtain ⟨q1, hq1⟩ : ∃ q, St.nth fl (nf - 1) = q := ⟨_, rfl⟩
    rw [hq1]
    have HQ1 : Hid _ := hq1
    have HNF : Hid (fl.length = nf) := hnf
    have hcast : ((nf : Int) - 1) = ((nf - 1 : Nat) : Int) := by omega
    have hw1 : wrap64 ((nf : Int) - 1) = ((nf - 1 : Nat) : Int) := by unfold wrap64; omega
    have hlt1 : nf - 1 < nf := by omega
    clear hnf hq1 HM
    subst hra
    rcases h14 with rfl | rfl
    all_goals
      go_enter Tryz.func40, Tryz.ntmps40
      go_upto_region 1 with (fail)
      rw [HWW.out]
      go_wp2_with fail
      refine Calls.mono KL.out ?_
      clear z0 z1 z2 z3 z4 z5
      rintro e w1 ⟨v, rfl, hfr, hb1⟩
      obtain ⟨b1, off1, fc, rfl, _, _, hcell⟩ := Fresh.at hfr
      rw [HNF.out] at hcell ⊢
      have g1 := hcell (nf - 1) hlt1
      rw [HQ1.out] at g1
      have HB2 : Hid (Below W.heap.size W w1) := HBB.out.trans (hb1.mono HBB.out.size)
      generalize nf - 1 = m at *
      clear hfr hcell hb1
      go_upto_region 5 with (fail)
      go_quiet (fail)
      go_wp2
      go_ret2
      exact ⟨rfl, HDW.out _ (below_drewN HB2.out _), Kept.of_below (below_drewN HB2.out _)⟩
  · by_cases h5 : how = 5
    · subst h5
      have HM : Hid (elemA 5 fl R = ((4, St.nth fl (nextM R fl.length).1.toNat), (nextM R fl.length).2)) := rfl
      rw [HM.out]
      have hnx := next_in R (m := (fl.length : Int)) (by omega)
      obtain ⟨kk, hkk⟩ : ∃ k : Nat, (nextM R (fl.length : Int)).1 = (k : Int) := ⟨(nextM R (fl.length : Int)).1.toNat, by omega⟩
      have hkl : kk < fl.length := by omega
      have HNX : Hid (∀ w, Below W.heap.size W w → Calls Tryz.prog 74 #[rv, .int .i64 (fl.length : Int)] w fun e w' => e = .returned (.int .i64 (kk : Int)) ∧ Dw X w' rv (nextM R fl.length).2 ∧ Kept (DrB rv) w w') := fun w hb => by
        have := next_w (HDW.out w hb) (fl.length : Int) (by omega)
        rw [hkk] at this
        exact this
      have hqq : St.nth fl (nextM R (fl.length : Int)).1.toNat = St.nth fl kk := by rw [hkk]; rfl
      rw [hqq]
      generalize (nextM R (fl.length : Int)).2 = R' at *
      obtain ⟨nf, hnf⟩ : ∃ q, fl.length = q := ⟨_, rfl⟩
      rw [hnf] at hp hq hkl HNX
      obtain ⟨q1, hq1⟩ : ∃ q, St.nth fl kk = q := ⟨_, rfl⟩
      rw [hq1]
      have HQ1 : Hid _ := hq1
      have HNF : Hid (fl.length = nf) := hnf
      have hkl' : (kk : Int) < (nf : Int) := by omega
      clear hnf hq1 HM hnx hkk hqq h14
      subst hra
      go_enter Tryz.func40, Tryz.ntmps40
      go_upto_region 1 with (fail)
      rw [HWW.out]
      go_wp2_with fail
      refine Calls.mono KL.out ?_
      clear z0 z1 z2 z3 z4 z5
      rintro e w1 ⟨v, rfl, hfr, hb1⟩
      obtain ⟨b1, off1, fc, rfl, hB1, hl1, hcell⟩ := Fresh.at hfr
      rw [HNF.out] at hcell ⊢
      have g1 := hcell kk hkl
      rw [HQ1.out] at g1
      have HB2 : Hid (Below W.heap.size W w1) := HBB.out.trans (hb1.mono HBB.out.size)
      have HX1 : Hid (¬ DrB (.pointer ra') b1) := fun h => by have := HDL.out b1 h; have := HBB.out.size; omega
      have FS : Hid (∀ w, Kept (DrB (.pointer ra')) w1 w → w.cell? ⟨b1, off1 + kk, none⟩ = some (.int .i64 q1)) := fun w hk => (hk.cell hl1 HX1.out _).trans g1
      have HK0 : Hid (Kept (DrB (.pointer ra')) w1 w1.drew) := Kept.of_below (Below.refl _ _).drew
      have KN := HNX.out w1.drew (HB2.out.drew)
      have HKN : Hid _ := KN
      clear hfr hcell hb1 g1 KN
      go_upto_region 7 with (fail)
      refine wp_region_held_drew (S := fun X : World => X.cell? ⟨b1, off1 + kk, none⟩ = some (.int .i64 q1)) (by kernel_rfl) (FS.out _ HK0.out) (fun hHeld => ?_)
      refine wpAnyH_take (i := 0) (oi := { dst := some 26, op := Go.Op.move (Go.Operand.tmp 8), type := 48, pos := "choose.go:163", after := #[{ on := 7, ground := Go.Ground.gcOnly Go.Departure.lateStores }], guard := none }) (v := ?_) rfl (by kernel_rfl) (by kernel_rfl) (by kernel_rfl) (fun _ _ _ h => h) (Or.inl ⟨by rfl, ?_⟩) hHeld ?_
      rotate_left
      · intro w hSw; (try dsimp only at hSw); go_simp <;> with_reducible rfl
      try simp only [Act.put, List.setIfInBounds_toArray, List.set_cons_zero, List.set_cons_succ]
      refine wpAnyH_take (i := 1) (oi := { dst := some 27, op := Go.Op.move (Go.Operand.tmp 2), type := 26, pos := "choose.go:163", after := #[], guard := none }) (v := ?_) rfl (by kernel_rfl) (by kernel_rfl) (by kernel_rfl) (fun _ _ _ h => h) (Or.inl ⟨by rfl, ?_⟩) hHeld ?_
      rotate_left
      · intro w hSw; (try dsimp only at hSw); go_simp <;> with_reducible rfl
      try simp only [Act.put, List.setIfInBounds_toArray, List.set_cons_zero, List.set_cons_succ]
      refine wpAnyH_take (i := 2) (oi := { dst := some 28, op := Go.Op.move (Go.Operand.tmp 8), type := 48, pos := "choose.go:163", after := #[], guard := none }) (v := ?_) rfl (by kernel_rfl) (by kernel_rfl) (by kernel_rfl) (fun _ _ _ h => h) (Or.inl ⟨by rfl, ?_⟩) hHeld ?_
      rotate_left
      · intro w hSw; (try dsimp only at hSw); go_simp <;> with_reducible rfl
      try simp only [Act.put, List.setIfInBounds_toArray, List.set_cons_zero, List.set_cons_succ]
      refine wpAnyH_take (i := 3) (oi := { dst := some 29, op := Go.Op.call { callee := Go.Callee.builtin Go.Builtin.len, args := #[Go.Operand.tmp 28], argTypes := #[48] }, type := 3, pos := "choose.go:163", after := #[{ on := 2, ground := Go.Ground.data }], guard := none }) (v := ?_) rfl (by kernel_rfl) (by kernel_rfl) (by kernel_rfl) (fun _ _ _ h => h) (Or.inl ⟨by rfl, ?_⟩) hHeld ?_
      rotate_left
      · intro w hSw; (try dsimp only at hSw); go_simp <;> with_reducible rfl
      try simp only [Act.put, List.setIfInBounds_toArray, List.set_cons_zero, List.set_cons_succ]
      refine wpAnyH_ready (rs := [4]) (by kernel_rfl) (by simp) ?_
      refine AllReadyH.cons rfl (fun K hK => ?_) AllReadyH.nil
      go_simp
      refine Calls.mono HKN.out ?_
      rintro e u1 ⟨rfl, hdw, hk1⟩
      have HDU : Hid (Dw X u1 _ R') := hdw
      have HK1 : Hid (Kept _ w1 u1) := HK0.out.trans hk1 (Up.refl _ _)
      clear hdw hk1
      refine hK.out _ _ (FS.out _ HK1.out) (fun hHeld2 => ?_)
      clear hK K hHeld
      have hHeld := hHeld2
      clear hHeld2
      try simp only [Act.put, List.setIfInBounds_toArray, List.set_cons_zero, List.set_cons_succ]
      refine wpAnyH_take (i := 5) (oi := { dst := some 31, op := Go.Op.indexAddr 48 (Go.Operand.tmp 26) (Go.Operand.tmp 30), type := 0, pos := "choose.go:163", after := #[{ on := 0, ground := Go.Ground.data }, { on := 4, ground := Go.Ground.data }, { on := 7, ground := Go.Ground.gcOnly Go.Departure.lateStores }], guard := none }) (v := ?_) rfl (by kernel_rfl) (by kernel_rfl) (by kernel_rfl) (fun _ _ _ h => h) (Or.inl ⟨by rfl, ?_⟩) hHeld ?_
      rotate_left
      · intro w hSw; (try dsimp only at hSw); go_simp <;> with_reducible rfl
      try simp only [Act.put, List.setIfInBounds_toArray, List.set_cons_zero, List.set_cons_succ]
      refine wpAnyH_take (i := 6) (oi := { dst := some 32, op := Go.Op.load 2 (Go.Operand.tmp 31), type := 2, pos := "choose.go:163", after := #[{ on := 5, ground := Go.Ground.data }, { on := 7, ground := Go.Ground.gcOnly Go.Departure.lateStores }], guard := none }) (v := ?_) rfl (by kernel_rfl) (by kernel_rfl) (by kernel_rfl) (fun _ _ _ h => h) (Or.inl ⟨by rfl, ?_⟩) hHeld ?_
      rotate_left
      · intro w hSw; have hC := hSw; go_simp <;> with_reducible rfl
      try simp only [Act.put, List.setIfInBounds_toArray, List.set_cons_zero, List.set_cons_succ]
      refine wpAnyH_take (i := 7) (oi := { dst := some 6, op := Go.Op.assign (Go.Operand.const (Go.Value.int Go.IntKind.i64 4)), type := 3, pos := "choose.go:163", after := #[{ on := 4, ground := Go.Ground.chain }, { on := 0, ground := Go.Ground.textOnly Go.Departure.lateStores }, { on := 1, ground := Go.Ground.textOnly Go.Departure.lateStores }, { on := 2, ground := Go.Ground.textOnly Go.Departure.lateStores }, { on := 3, ground := Go.Ground.textOnly Go.Departure.lateStoresUnsure }, { on := 4, ground := Go.Ground.textOnly Go.Departure.lateStoresUnsure }, { on := 5, ground := Go.Ground.textOnly Go.Departure.lateStores }, { on := 6, ground := Go.Ground.textOnly Go.Departure.lateStores }], guard := none }) (v := ?_) rfl (by kernel_rfl) (by kernel_rfl) (by kernel_rfl) (fun _ _ _ h => h) (Or.inl ⟨by rfl, ?_⟩) hHeld ?_
      rotate_left
      · intro w hSw; (try dsimp only at hSw); go_simp <;> with_reducible rfl
      try simp only [Act.put, List.setIfInBounds_toArray, List.set_cons_zero, List.set_cons_succ]
      refine wpAnyH_take (i := 8) (oi := { dst := some 7, op := Go.Op.assign (Go.Operand.tmp 32), type := 2, pos := "choose.go:163", after := #[{ on := 6, ground := Go.Ground.data }, { on := 7, ground := Go.Ground.chain }, { on := 0, ground := Go.Ground.phase }, { on := 1, ground := Go.Ground.phase }, { on := 2, ground := Go.Ground.phase }, { on := 3, ground := Go.Ground.phase }, { on := 4, ground := Go.Ground.phase }, { on := 5, ground := Go.Ground.phase }, { on := 6, ground := Go.Ground.phase }, { on := 7, ground := Go.Ground.phase }], guard := none }) (v := ?_) rfl (by kernel_rfl) (by kernel_rfl) (by kernel_rfl) (fun _ _ _ h => h) (Or.inl ⟨by rfl, ?_⟩) hHeld ?_
      rotate_left
      · intro w hSw; (try dsimp only at hSw); go_simp <;> with_reducible rfl
      try simp only [Act.put, List.setIfInBounds_toArray, List.set_cons_zero, List.set_cons_succ]
      refine wpAnyH_done (by kernel_rfl) ?_ _
      go_wp2
      go_ret2
      exact ⟨rfl, HDU.out, (Kept.of_below HB2.out).trans HK1.out (Up.refl _ _)⟩
    · have HM : Hid (elemA how fl R = ((4, St.nth fl 0), R)) := by unfold Hid elemA; rw [if_neg h14, if_neg h5]
      rw [HM.out]
      have e1 : (how == 1) = false := by simpa using fun h => h14 (.inl h)
      have e4 : (how == 4) = false := by simpa using fun h => h14 (.inr h)
      have e5 : (how == 5) = false := by simpa using h5
      obtain ⟨nf, hnf⟩ : ∃ q, fl.length = q := ⟨_, rfl⟩
      rw [hnf] at hp hq
      obtain ⟨q1, hq1⟩ : ∃ q, St.nth fl 0 = q := ⟨_, rfl⟩
      rw [hq1]
      have HQ1 : Hid _ := hq1
      have HNF : Hid (fl.length = nf) := hnf
      clear hnf hq1 HM h14 h5
      subst hra
      go_enter Tryz.func40, Tryz.ntmps40
      go_upto_region 1 with (fail)
      rw [HWW.out]
      go_wp2_with fail
      refine Calls.mono KL.out ?_
      clear z0 z1 z2 z3 z4 z5
      rintro e w1 ⟨v, rfl, hfr, hb1⟩
      obtain ⟨b1, off1, fc, rfl, _, _, hcell⟩ := Fresh.at hfr
      rw [HNF.out] at hcell ⊢
      have g1 := hcell 0 hp
      rw [HQ1.out, Nat.add_zero] at g1
      have HB2 : Hid (Below W.heap.size W w1) := HBB.out.trans (hb1.mono HBB.out.size)
      clear hfr hcell hb1
      go_upto_region 8 with (fail)
      go_quiet (fail)
      go_wp2
      go_ret2
      exact ⟨rfl, HDW.out _ (below_drewN HB2.out _), Kept.of_below (below_drewN HB2.out _)⟩

theorem number_all {X : Nat → Prop} {W : World} {ra : Option Addr} {n0 rc : Nat} {r : List Dm.Rg} {rv : Value} {R : List Int} (how : Int) (h : Rm (DrB rv) W (.slice ra n0 rc) r) (hR : Dm.Right r) (hr : 0 < r.length) (hd : Dw X W rv R) (hsz : 1 ≤ Dm.sizeR (Dm.tk r)) (hsz2 : Dm.sizeR (Dm.tk r) ≤ 4611686018427387904) :
    Calls Tryz.prog 41 #[.int .i64 how, .slice ra n0 rc, rv] W fun e w' => e = .returned (.tuple #[.int .i64 (numA how r R).1.1, .int .i64 (numA how r R).1.2]) ∧ Dw X w' rv (numA how r R).2 ∧ Kept (DrB rv) W w' := by
  by_cases h2 : how = 2
  · subst h2; exact number_med (Z := X) h hR hr hd hsz hsz2
  by_cases h5 : how = 5
  · subst h5; exact number_rand (Z := X) h hR hr hd hsz hsz2
  have e : numA how r R = (numM how (Dm.lo r 0) (Dm.hi r (r.length - 1)), R) := by unfold numA; rw [if_neg h2, if_neg h5]
  rw [e]
  have b1 := hR.2 0 hr
  have b2 := hR.2 (r.length - 1) (by omega)
  unfold Dm.OkAt at b1 b2
  exact (number_few h hr (right_len hR) how h2 h5 rv hd.one (by omega)).mono fun e w' ⟨he, hb⟩ => ⟨he, hd.below hb, Kept.of_below hb⟩
end Go.Proofs.YthkliicmoandmaaGreatDoor
