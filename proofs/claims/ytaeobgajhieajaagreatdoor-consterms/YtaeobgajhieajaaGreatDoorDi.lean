/-
  What is proved here: appendTerm of a term that is no set.
-/
import Derived.Test.YtaeobgajhieajaaGreatDoorDh
import Derived.Lib.ItoaLen
namespace Go.Proofs.YtaeobgajhieajaaGreatDoor
open Go.RowKit Go.Shelf
set_option linter.unusedVariables false
set_option linter.unusedSimpArgs false
/-- A term as text, where it is no set. -/
def tmT (t : Tm) : List UInt8 := if t.v = -1 then Lib.itoa t.n else 120 :: Lib.itoa t.v
def Tm.small (t : Tm) : Prop := (t.v = -1 → t.set = false) ∧ -100 < t.v ∧ t.v < 100 ∧ -100 < t.n ∧ t.n < 100
theorem tmT_length {t : Tm} (h : t.small) : (tmT t).length ≤ 22 := by
  obtain ⟨_, h1, h2, h3, h4⟩ := h
  have a := Lib.itoa_length_le t.v (by omega) (by omega)
  have b := Lib.itoa_length_le t.n (by omega) (by omega)
  unfold tmT
  split <;> simp <;> omega

set_option maxRecDepth 100000 in
set_option maxHeartbeats 4000000 in
theorem term_any {B : Nat} {W : World} {out sv : Value} {L : List UInt8} (t : Tm) (ho : Ob B W out L) (hB : B ≤ W.heap.size) (hL : L.length ≤ 1000000000) (hL2 : 2 ≤ L.length) (ht : t.small) :
    Calls Tryz.prog 112 #[out, .agg #[.int .i64 t.v, .bool t.set, .int .i64 t.n, sv]] W fun e w' => ∃ v', e = .returned v' ∧ Ob B w' v' (L ++ tmT t) ∧ Below B W w' ∧ Kf W w' := by
  obtain ⟨hset, h0, h1, h2, h3⟩ := ht
  have HE : Hid (tmT t = if t.v = -1 then Lib.itoa t.n else 120 :: Lib.itoa t.v) := rfl
  obtain ⟨T, hT9⟩ : ∃ T, tmT t = T := ⟨_, rfl⟩
  rw [hT9] at HE ⊢
  clear hT9
  obtain ⟨tv, htv⟩ : ∃ x, t.v = x := ⟨_, rfl⟩
  obtain ⟨ts, hts⟩ : ∃ x, t.set = x := ⟨_, rfl⟩
  obtain ⟨tn, htn⟩ : ∃ x, t.n = x := ⟨_, rfl⟩
  rw [htv, hts] at hset; rw [htv] at h0 h1; rw [htn] at h2 h3; rw [htv, htn] at HE
  rw [htv, hts, htn]
  clear htv hts htn
  have HO : Hid (Ob B W out L) := ho
  have hbA : Below W.heap.size W (W.alloc (Obj.cells #[.int .i64 tv, .bool ts, .int .i64 tn, sv] 46)) := (Below.refl _ W).alloc (Nat.le_refl _) _
  have hobA := ho.below hbA
  have hBA : Below B W (W.alloc (Obj.cells #[.int .i64 tv, .bool ts, .int .i64 tn, sv] 46)) := hbA.mono hB
  have hkA : Kf W (W.alloc (Obj.cells #[.int .i64 tv, .bool ts, .int .i64 tn, sv] 46)) := (Kf.refl W).alloc _
  have hnew := Blk.new W #[.int .i64 tv, .bool ts, .int .i64 tn, sv] 46
  clear ho hbA
  obtain ⟨WA, hWA⟩ : ∃ X, W.alloc (Obj.cells #[.int .i64 tv, .bool ts, .int .i64 tn, sv] 46) = X := ⟨_, rfl⟩
  have HWA : Hid (W.alloc (Obj.cells #[.int .i64 tv, .bool ts, .int .i64 tn, sv] 46) = WA) := hWA
  have hsA : WA.heap.size = W.heap.size + 1 := by rw [← hWA]; simp
  have HSA : Hid _ := hsA
  rw [hWA] at hobA hBA hkA hnew
  have c0 : WA.cell? ⟨W.heap.size, 0, none⟩ = some (.int .i64 tv) := hnew.cell 0
  have c1 : WA.cell? ⟨W.heap.size, 1, none⟩ = some (.bool ts) := hnew.cell 1
  have c2 : WA.cell? ⟨W.heap.size, 2, none⟩ = some (.int .i64 tn) := hnew.cell 2
  clear hWA
  go_enter Tryz.func112, Tryz.ntmps112
  by_cases hv : tv = -1
  · have hs : ts = false := hset hv
    subst hs; subst hv
    have HE2 : Hid (T = Lib.itoa tn) := by rw [HE.out]; rfl
    go_upto_region 1 with (fail)
    rw [HWA.out]
    clear hsA
    go_wp2_with fail
    refine (app_int B tn h2 h3 out L WA hobA (Nat.le_trans hB hBA.size) (by omega) hL2).mono ?_
    rintro e w4 ⟨v4, rfl, hob4, hb4, hk4⟩
    have HZ : Hid (Ob B w4 v4 (L ++ T) ∧ Below B W w4 ∧ Kf W w4) := ⟨by rw [HE2.out]; exact hob4, hBA.trans hb4, hkA.trans hk4⟩
    clear hob4 hb4 hk4
    go_wp2
    go_ret
    exact ⟨_, rfl, HZ.out⟩
  · have HE2 : Hid (T = 120 :: Lib.itoa tv) := by have := HE.out; rw [if_neg hv] at this; exact this
    have HS : ∀ X, Kf WA X → X.cell? ⟨W.heap.size, 0, none⟩ = some (.int .i64 tv) := fun X hX => (hnew.kept hX (by intro h; cases h)).cell 0
    have hv2 : (tv != -1) = true := by simp [hv]
    have hd1 : Kf WA WA.drew := (Kf.refl WA).drew
    have hk2 : Kf WA (WA.drew.alloc (Obj.cells #[.int .u8 120] 5)) := hd1.alloc _
    have hbD : Below WA.heap.size WA (WA.drew.alloc (Obj.cells #[.int .u8 120] 5)) := (Below.drew (Below.refl _ WA)).alloc (Nat.le_refl _) _
    have hob2 := hobA.below hbD
    have hB2 : Below B W (WA.drew.alloc (Obj.cells #[.int .u8 120] 5)) := hBA.trans (hbD.mono (Nat.le_trans hB hBA.size))
    have hcb : (WA.drew.alloc (Obj.cells #[.int .u8 120] 5)).cell? ⟨WA.heap.size, 0, none⟩ = some (.int .u8 (120 : UInt8).toNat) := (Blk.new WA.drew #[.int .u8 120] 5).cell 0
    clear hbD
    go_upto_region 1 with (fail)
    rw [HWA.out]
    go_upto_region 2 with (fail)
    clear hsA
    refine wp_region_held_drew (S := (fun w' => w'.cell? ⟨W.heap.size, 0, none⟩ = some (.int .i64 tv))) (by kernel_rfl) (HS _ hd1) (fun hHeld => ?_)
    refine wpAnyH_take (i := 0) (oi := { dst := some 9, op := Go.Op.move (Go.Operand.tmp 0), type := 98, pos := "text.go:46", after := #[], guard := none }) (v := ?_) rfl (by kernel_rfl) (by kernel_rfl) (by kernel_rfl) (fun _ _ _ h => h) (Or.inl ⟨by rfl, ?_⟩) hHeld ?_
    rotate_left
    · intro w hSw; (try dsimp only at hSw); go_simp <;> with_reducible rfl
    try simp only [Act.put, List.setIfInBounds_toArray, List.set_cons_zero, List.set_cons_succ]
    refine wpAnyH_take (i := 3) (oi := { dst := some 12, op := Go.Op.fieldAddr 46 (Go.Operand.tmp 3) 0, type := 0, pos := "text.go:46", after := #[], guard := none }) (v := ?_) rfl (by kernel_rfl) (by kernel_rfl) (by kernel_rfl) (fun _ _ _ h => h) (Or.inl ⟨by rfl, ?_⟩) hHeld ?_
    rotate_left
    · intro w hSw; (try dsimp only at hSw); go_simp <;> with_reducible rfl
    try simp only [Act.put, List.setIfInBounds_toArray, List.set_cons_zero, List.set_cons_succ]
    refine wpAnyH_take (i := 4) (oi := { dst := some 13, op := Go.Op.load 3 (Go.Operand.tmp 12), type := 3, pos := "text.go:46", after := #[{ on := 3, ground := Go.Ground.data }], guard := none }) (v := ?_) rfl (by kernel_rfl) (by kernel_rfl) (by kernel_rfl) (fun _ _ _ h => h) (Or.inl ⟨by rfl, ?_⟩) hHeld ?_
    rotate_left
    · intro w hSw; (try dsimp only at hSw); go_simp <;> with_reducible rfl
    try simp only [Act.put, List.setIfInBounds_toArray, List.set_cons_zero, List.set_cons_succ]
    refine wpAnyH_ready (rs := [1]) (by kernel_rfl) (by simp) ?_
    refine AllReadyH.cons rfl (fun K hK => ?_) AllReadyH.nil
    go_simp
    refine hK.out _ _ (HS _ hk2) (fun hHeld2 => ?_)
    clear hK K hHeld
    have hHeld := hHeld2
    clear hHeld2
    try simp only [Act.put, List.setIfInBounds_toArray, List.set_cons_zero, List.set_cons_succ]
    refine wpAnyH_ready (rs := [2]) (by kernel_rfl) (by simp) ?_
    refine AllReadyH.cons rfl (fun K hK => ?_) AllReadyH.nil
    refine step_app_b _ rfl (.tmp 9) (.tmp 10) rfl B _ L (by with_unfolding_all rfl) hob2 WA.heap.size 120 (by with_unfolding_all rfl) hcb (Nat.le_trans hB hB2.size) (by omega) hL2 ?_
    intro v3 w3 hob3 hb3 hk3
    have HK3 := hk2.trans hk3
    have HB3 := hB2.trans hb3
    refine hK.out _ _ (HS _ HK3) (fun hHeld2 => ?_)
    clear hK K hHeld
    have hHeld := hHeld2
    clear hHeld2
    try simp only [Act.put, List.setIfInBounds_toArray, List.set_cons_zero, List.set_cons_succ]
    refine wpAnyH_ready (rs := [5]) (by kernel_rfl) (by simp) ?_
    refine AllReadyH.cons rfl (fun K hK => ?_) AllReadyH.nil
    go_simp
    refine (app_int B tv h0 h1 v3 _ w3 hob3 (Nat.le_trans hB HB3.size) (by simp; omega) (by simp; omega)).mono ?_
    rintro e w4 ⟨v4, rfl, hob4, hb4, hk4⟩
    have HK4 := HK3.trans hk4
    have HB4 : Hid (Below B W w4) := HB3.trans hb4
    have HO4 : Hid _ := hob4
    refine hK.out _ _ (HS _ HK4) (fun hHeld2 => ?_)
    clear hK K hHeld
    have hHeld := hHeld2
    clear hHeld2
    try simp only [Act.put, List.setIfInBounds_toArray, List.set_cons_zero, List.set_cons_succ]
    refine wpAnyH_take (i := 6) (oi := { dst := some 4, op := Go.Op.assign (Go.Operand.tmp 14), type := 98, pos := "text.go:46", after := #[{ on := 5, ground := Go.Ground.data }, { on := 5, ground := Go.Ground.chain }, { on := 0, ground := Go.Ground.phase }, { on := 1, ground := Go.Ground.phase }, { on := 2, ground := Go.Ground.phase }, { on := 3, ground := Go.Ground.phase }, { on := 4, ground := Go.Ground.phase }, { on := 5, ground := Go.Ground.phase }], guard := none }) (v := ?_) rfl (by kernel_rfl) (by kernel_rfl) (by kernel_rfl) (fun _ _ _ h => h) (Or.inl ⟨by rfl, ?_⟩) hHeld ?_
    rotate_left
    · intro w hSw; (try dsimp only at hSw); go_simp <;> with_reducible rfl
    try simp only [Act.put, List.setIfInBounds_toArray, List.set_cons_zero, List.set_cons_succ]
    refine wpAnyH_done (by kernel_rfl) ?_ _
    have HZ : Hid (Ob B w4 v4 (L ++ T) ∧ Below B W w4 ∧ Kf W w4) := ⟨by rw [HE2.out]; have := HO4.out; rw [List.append_assoc] at this; exact this, HB4.out, hkA.trans HK4⟩
    clear HO4 HB4 HK4
    go_wp2
    go_ret
    exact ⟨_, rfl, HZ.out⟩
end Go.Proofs.YtaeobgajhieajaaGreatDoor
