/-
  What is proved here: appendTerm of a term that is no set.
  What is proved here: appendTerms.
-/
import Derived.Test.YtaeobgajhieajaaGreatDoorDh
import Derived.Lib.ItoaLen
namespace Go.Proofs.YtaeobgajhieajaaGreatDoor
open Go.RowKit Go.Shelf
set_option linter.unusedVariables false
set_option linter.unusedSimpArgs false
/-- A term as text, where it is no set. -/
def tmT (t : Tm) : List UInt8 := if t.v = -1 then Lib.itoa t.n else 120 :: Lib.itoa t.v
def Tm.small (t : Tm) : Prop := (t.v = -1 → t.set = false) ∧ -100 < t.v ∧ t.v < 100 ∧ -100 < t.n ∧ t.n < 100
theorem tmT_length {t : Tm} (h : t.small) : (tmT t).length ≤ 22 := by
  obtain ⟨_, h1, h2, h3, h4⟩ := h
  have a := Lib.itoa_length_le t.v (by omega) (by omega)
  have b := Lib.itoa_length_le t.n (by omega) (by omega)
  unfold tmT
  split <;> simp <;> omega

set_option maxRecDepth 100000 in
set_option maxHeartbeats 4000000 in
theorem term_any {B : Nat} {W : World} {out sv : Value} {L : List UInt8} (t : Tm) (ho : Ob B W out L) (hB : B ≤ W.heap.size) (hL : L.length ≤ 1000000000) (hL2 : 2 ≤ L.length) (ht : t.small) :
    Calls Tryz.prog 112 #[out, .agg #[.int .i64 t.v, .bool t.set, .int .i64 t.n, sv]] W fun e w' => ∃ v', e = .returned v' ∧ Ob B w' v' (L ++ tmT t) ∧ Below B W w' ∧ Kf W w' := by
  obtain ⟨hset, h0, h1, h2, h3⟩ := ht
  have HE : Hid (tmT t = if t.v = -1 then Lib.itoa t.n else 120 :: Lib.itoa t.v) := rfl
  obtain ⟨T, hT9⟩ : ∃ T, tmT t = T := ⟨_, rfl⟩
  rw [hT9] at HE ⊢
  clear hT9
  obtain ⟨tv, htv⟩ : ∃ x, t.v = x := ⟨_, rfl⟩
  obtain ⟨ts, hts⟩ : ∃ x, t.set = x := ⟨_, rfl⟩
  obtain ⟨tn, htn⟩ : ∃ x, t.n = x := ⟨_, rfl⟩
  rw [htv, hts] at hset; rw [htv] at h0 h1; rw [htn] at h2 h3; rw [htv, htn] at HE
  rw [htv, hts, htn]
  clear htv hts htn
  have HO : Hid (Ob B W out L) := ho
  have hbA : Below W.heap.size W (W.alloc (Obj.cells #[.int .i64 tv, .bool ts, .int .i64 tn, sv] 46)) := (Below.refl _ W).alloc (Nat.le_refl _) _
  have hobA := ho.below hbA
  have hBA : Below B W (W.alloc (Obj.cells #[.int .i64 tv, .bool ts, .int .i64 tn, sv] 46)) := hbA.mono hB
  have hkA : Kf W (W.alloc (Obj.cells #[.int .i64 tv, .bool ts, .int .i64 tn, sv] 46)) := (Kf.refl W).alloc _
  have hnew := Blk.new W #[.int .i64 tv, .bool ts, .int .i64 tn, sv] 46
  clear ho hbA
  obtain ⟨WA, hWA⟩ : ∃ X, W.alloc (Obj.cells #[.int .i64 tv, .bool ts, .int .i64 tn, sv] 46) = X := ⟨_, rfl⟩
  have HWA : Hid (W.alloc (Obj.cells #[.int .i64 tv, .bool ts, .int .i64 tn, sv] 46) = WA) := hWA
  have hsA : WA.heap.size = W.heap.size + 1 := by rw [← hWA]; simp
  have HSA : Hid _ := hsA
  rw [hWA] at hobA hBA hkA hnew
  have c0 : WA.cell? ⟨W.heap.size, 0, none⟩ = some (.int .i64 tv) := hnew.cell 0
  have c1 : WA.cell? ⟨W.heap.size, 1, none⟩ = some (.bool ts) := hnew.cell 1
  have c2 : WA.cell? ⟨W.heap.size, 2, none⟩ = some (.int .i64 tn) := hnew.cell 2
  clear hWA
  go_enter Tryz.func112, Tryz.ntmps112
  by_cases hv : tv = -1
  · have hs : ts = false := hset hv
    subst hs; subst hv
    have HE2 : Hid (T = Lib.itoa tn) := by rw [HE.out]; rfl
    go_upto_region 1 with (fail)
    rw [HWA.out]
    clear hsA
    go_wp2_with fail
    refine (app_int B tn h2 h3 out L WA hobA (Nat.le_trans hB hBA.size) (by omega) hL2).mono ?_
    rintro e w4 ⟨v4, rfl, hob4, hb4, hk4⟩
    have HZ : Hid (Ob B w4 v4 (L ++ T) ∧ Below B W w4 ∧ Kf W w4) := ⟨by rw [HE2.out]; exact hob4, hBA.trans hb4, hkA.trans hk4⟩
    clear hob4 hb4 hk4
    go_wp2
    go_ret
    exact ⟨_, rfl, HZ.out⟩
  · have HE2 : Hid (T = 120 :: Lib.itoa tv) := by have := HE.out; rw [if_neg hv] at this; exact this
    have HS : ∀ X, Kf WA X → X.cell? ⟨W.heap.size, 0, none⟩ = some (.int .i64 tv) := fun X hX => (hnew.kept hX (by intro h; cases h)).cell 0
    have hv2 : (tv != -1) = true := by simp [hv]
    have hd1 : Kf WA WA.drew := (Kf.refl WA).drew
    have hk2 : Kf WA (WA.drew.alloc (Obj.cells #[.int .u8 120] 5)) := hd1.alloc _
    have hbD : Below WA.heap.size WA (WA.drew.alloc (Obj.cells #[.int .u8 120] 5)) := (Below.drew (Below.refl _ WA)).alloc (Nat.le_refl _) _
    have hob2 := hobA.below hbD
    have hB2 : Below B W (WA.drew.alloc (Obj.cells #[.int .u8 120] 5)) := hBA.trans (hbD.mono (Nat.le_trans hB hBA.size))
    have hcb : (WA.drew.alloc (Obj.cells #[.int .u8 120] 5)).cell? ⟨WA.heap.size, 0, none⟩ = some (.int .u8 (120 : UInt8).toNat) := (Blk.new WA.drew #[.int .u8 120] 5).cell 0
    clear hbD
    go_upto_region 1 with (fail)
    rw [HWA.out]
    go_upto_region 2 with (fail)
    clear hsA
    refine wp_region_held_drew (S := (fun w' => w'.cell? ⟨W.heap.size, 0, none⟩ = some (.int .i64 tv))) (by kernel_rfl) (HS _ hd1) (fun hHeld => ?_)
    refine wpAnyH_take (i := 0) (oi := { dst := some 9, op := Go.Op.move (Go.Operand.tmp 0), type := 98, pos := "text.go:46", after := #[], guard := none }) (v := ?_) rfl (by kernel_rfl) (by kernel_rfl) (by kernel_rfl) (fun _ _ _ h => h) (Or.inl ⟨by rfl, ?_⟩) hHeld ?_
    rotate_left
    · intro w hSw; (try dsimp only at hSw); go_simp <;> with_reducible rfl
    try simp only [Act.put, List.setIfInBounds_toArray, List.set_cons_zero, List.set_cons_succ]
    refine wpAnyH_take (i := 3) (oi := { dst := some 12, op := Go.Op.fieldAddr 46 (Go.Operand.tmp 3) 0, type := 0, pos := "text.go:46", after := #[], guard := none }) (v := ?_) rfl (by kernel_rfl) (by kernel_rfl) (by kernel_rfl) (fun _ _ _ h => h) (Or.inl ⟨by rfl, ?_⟩) hHeld ?_
    rotate_left
    · intro w hSw; (try dsimp only at hSw); go_simp <;> with_reducible rfl
    try simp only [Act.put, List.setIfInBounds_toArray, List.set_cons_zero, List.set_cons_succ]
    refine wpAnyH_take (i := 4) (oi := { dst := some 13, op := Go.Op.load 3 (Go.Operand.tmp 12), type := 3, pos := "text.go:46", after := #[{ on := 3, ground := Go.Ground.data }], guard := none }) (v := ?_) rfl (by kernel_rfl) (by kernel_rfl) (by kernel_rfl) (fun _ _ _ h => h) (Or.inl ⟨by rfl, ?_⟩) hHeld ?_
    rotate_left
    · intro w hSw; (try dsimp only at hSw); go_simp <;> with_reducible rfl
    try simp only [Act.put, List.setIfInBounds_toArray, List.set_cons_zero, List.set_cons_succ]
    refine wpAnyH_ready (rs := [1]) (by kernel_rfl) (by simp) ?_
    refine AllReadyH.cons rfl (fun K hK => ?_) AllReadyH.nil
    go_simp
    refine hK.out _ _ (HS _ hk2) (fun hHeld2 => ?_)
    clear hK K hHeld
    have hHeld := hHeld2
    clear hHeld2
    try simp only [Act.put, List.setIfInBounds_toArray, List.set_cons_zero, List.set_cons_succ]
    refine wpAnyH_ready (rs := [2]) (by kernel_rfl) (by simp) ?_
    refine AllReadyH.cons rfl (fun K hK => ?_) AllReadyH.nil
    refine step_app_b _ rfl (.tmp 9) (.tmp 10) rfl B _ L (by with_unfolding_all rfl) hob2 WA.heap.size 120 (by with_unfolding_all rfl) hcb (Nat.le_trans hB hB2.size) (by omega) hL2 ?_
    intro v3 w3 hob3 hb3 hk3
    have HK3 := hk2.trans hk3
    have HB3 := hB2.trans hb3
    refine hK.out _ _ (HS _ HK3) (fun hHeld2 => ?_)
    clear hK K hHeld
    have hHeld := hHeld2
    clear hHeld2
    try simp only [Act.put, List.setIfInBounds_toArray, List.set_cons_zero, List.set_cons_succ]
    refine wpAnyH_ready (rs := [5]) (by kernel_rfl) (by simp) ?_
    refine AllReadyH.cons rfl (fun K hK => ?_) AllReadyH.nil
    go_simp
    refine (app_int B tv h0 h1 v3 _ w3 hob3 (Nat.le_trans hB HB3.size) (by simp; omega) (by simp; omega)).mono ?_
    rintro e w4 ⟨v4, rfl, hob4, hb4, hk4⟩
    have HK4 := HK3.trans hk4
    have HB4 : Hid (Below B W w4) := HB3.trans hb4
    have HO4 : Hid _ := hob4
    refine hK.out _ _ (HS _ HK4) (fun hHeld2 => ?_)
    clear hK K hHeld
    have hHeld := hHeld2
    clear hHeld2
    try simp only [Act.put, List.setIfInBounds_toArray, List.set_cons_zero, List.set_cons_succ]
    refine wpAnyH_take (i := 6) (oi := { dst := some 4, op := Go.Op.assign (Go.Operand.tmp 14), type := 98, pos := "text.go:46", after := #[{ on := 5, ground := Go.Ground.data }, { on := 5, ground := Go.Ground.chain }, { on := 0, ground := Go.Ground.phase }, { on := 1, ground := Go.Ground.phase }, { on := 2, ground := Go.Ground.phase }, { on := 3, ground := Go.Ground.phase }, { on := 4, ground := Go.Ground.phase }, { on := 5, ground := Go.Ground.phase }], guard := none }) (v := ?_) rfl (by kernel_rfl) (by kernel_rfl) (by kernel_rfl) (fun _ _ _ h => h) (Or.inl ⟨by rfl, ?_⟩) hHeld ?_
    rotate_left
    · intro w hSw; (try dsimp only at hSw); go_simp <;> with_reducible rfl
    try simp only [Act.put, List.setIfInBounds_toArray, List.set_cons_zero, List.set_cons_succ]
    refine wpAnyH_done (by kernel_rfl) ?_ _
    have HZ : Hid (Ob B w4 v4 (L ++ T) ∧ Below B W w4 ∧ Kf W w4) := ⟨by rw [HE2.out]; have := HO4.out; rw [List.append_assoc] at this; exact this, HB4.out, hkA.trans HK4⟩
    clear HO4 HB4 HK4
    go_wp2
    go_ret
    exact ⟨_, rfl, HZ.out⟩
end Go.Proofs.YtaeobgajhieajaaGreatDoor

namespace Go.Proofs.YtaeobgajhieajaaGreatDoor
open Go.RowKit Go.Shelf
set_option linter.unusedVariables false
set_option linter.unusedSimpArgs false
/-- The texts of the first k, with ", " between them. -/
def tsP {α : Type} (f : α → List UInt8) (l : List α) : Nat → List UInt8
  | 0 => []
  | k + 1 => tsP f l k ++ ((if 0 < k then [44, 32] else []) ++ (match l[k]? with | some t => f t | none => []))
theorem tsP_succ {α : Type} (f : α → List UInt8) {l : List α} {k : Nat} {t : α} (h : l[k]? = some t) : tsP f l (k + 1) = tsP f l k ++ ((if 0 < k then [44, 32] else []) ++ f t) := by simp [tsP, h]
theorem tsP_len {α : Type} (f : α → List UInt8) (l : List α) (m : Nat) (h : ∀ t ∈ l, (f t).length ≤ m) : ∀ k, (tsP f l k).length ≤ (m + 2) * k
  | 0 => by simp [tsP]
  | k + 1 => by
    have ih := tsP_len f l m h k
    rw [tsP, List.length_append, List.length_append, Nat.mul_succ]
    have h1 : (if 0 < k then ([44, 32] : List UInt8) else []).length ≤ 2 := by split <;> simp
    have h2 : (match l[k]? with | some t => f t | none => []).length ≤ m := by
      cases hk : l[k]? with
      | none => simp
      | some t => exact h t (List.mem_of_getElem? hk)
    omega

set_option maxRecDepth 100000 in
set_option maxHeartbeats 4000000 in
theorem terms_any {B0 : Nat} {X W : World} {out s : Value} {L : List UInt8} {l : List Tm} (hs : St B0 X s l) (hW : Below X.heap.size X W) (ho : Ob X.heap.size W out L) (hL2 : 2 ≤ L.length) (hsm : ∀ t ∈ l, t.small) (hL : L.length + 24 * l.length ≤ 100000000) :
    Calls Tryz.prog 86 #[out, s] W fun e w' => ∃ v', e = .returned v' ∧ Ob X.heap.size w' v' (L ++ tsP tmT l l.length) ∧ Below X.heap.size X w' ∧ Kf W w' := by
  obtain ⟨a8, c8, rfl, h⟩ := hs
  obtain ⟨n, hn0⟩ : ∃ n, l.length = n := ⟨_, rfl⟩
  have HST : Hid (St B0 X (.slice a8 n c8) l) := ⟨a8, c8, by rw [hn0], h⟩
  rw [hn0] at hL ⊢
  have HN : Hid (l.length = n) := hn0
  have HSM : Hid (∀ t ∈ l, t.small) := hsm
  have HTL : Hid (∀ k, (tsP tmT l k).length ≤ (22 + 2) * k) := tsP_len tmT l 22 (fun t h => tmT_length (hsm t h))
  have HO : Hid (Ob X.heap.size W out L) := ho
  have HW : Hid (Below X.heap.size X W) := hW
  clear h hn0 hsm ho hW
  go_enter Tryz.func86, Tryz.ntmps86
  go_wp2
  go_loopw [0, 9] (fun o i wr => ∃ k : Nat, k ≤ n ∧ i = .int .i64 (k : Int) ∧ Hid (Ob X.heap.size wr o (L ++ tsP tmT l k)) ∧ Hid (Below X.heap.size X wr) ∧ Hid (Kf W wr)) (fun _ i _ => n - (intOf i).toNat)
  case atStart => exact ⟨0, Nat.zero_le _, rfl, by simpa [tsP] using HO, HW, Kf.refl _⟩
  case round =>
    obtain ⟨k, hk, rfl, HOB, HB, HK⟩ := hrel
    by_cases hlt : k < n
    · have hlt' : (k : Int) < n := by omega
      obtain ⟨t, ht⟩ : ∃ t, l[k]? = some t := ⟨_, List.getElem?_eq_getElem (by rw [HN.out]; exact hlt)⟩
      have HSU : Hid _ := tsP_succ tmT ht
      obtain ⟨b, off, a4, c4, rfl, hb, _, d0, d1, d2, d3⟩ := HST.out.at ht
      have y0 := (HB.out.cell (p := ⟨b, off + k * 4, none⟩) hb).trans d0
      have y1 := (HB.out.cell (p := ⟨b, off + k * 4 + 1, none⟩) hb).trans d1
      have y2 := (HB.out.cell (p := ⟨b, off + k * 4 + 2, none⟩) hb).trans d2
      have y3 := (HB.out.cell (p := ⟨b, off + k * 4 + 3, none⟩) hb).trans d3
      have hsm := HSM.out t (List.mem_of_getElem? ht)
      clear d0 d1 d2 d3 ht
      have hw2 : IntKind.i64.wrap ((k : Int) + 1) = (k : Int) + 1 := by rw [IntKind.wrap_i64]; omega
      have hll : (L ++ tsP tmT l k).length ≤ 100000000 := by have := HTL.out k; rw [List.length_append]; omega
      have hl2 : 2 ≤ (L ++ tsP tmT l k).length := by rw [List.length_append]; omega
      obtain ⟨LL, hLL⟩ : ∃ x, L ++ tsP tmT l k = x := ⟨_, rfl⟩
      have HLL : Hid (L ++ tsP tmT l k = LL) := hLL
      rw [hLL] at hll hl2 HOB
      clear hLL
      have hbA : Below wr.heap.size wr (wr.alloc (Obj.cells #[.int .i64 t.v, .bool t.set, .int .i64 t.n, .slice a4 t.s.length c4] 46)) := (Below.refl _ wr).alloc (Nat.le_refl _) _
      have hobA := HOB.out.below hbA
      have hBA := HB.out.trans (hbA.mono HB.out.size)
      have hkA : Kf W (wr.alloc (Obj.cells #[.int .i64 t.v, .bool t.set, .int .i64 t.n, .slice a4 t.s.length c4] 46)) := HK.out.alloc _
      have hnew := Blk.new wr #[.int .i64 t.v, .bool t.set, .int .i64 t.n, .slice a4 t.s.length c4] 46
      clear hbA
      obtain ⟨wA, hWA⟩ : ∃ Y, wr.alloc (Obj.cells #[.int .i64 t.v, .bool t.set, .int .i64 t.n, .slice a4 t.s.length c4] 46) = Y := ⟨_, rfl⟩
      have HWA : Hid (wr.alloc (Obj.cells #[.int .i64 t.v, .bool t.set, .int .i64 t.n, .slice a4 t.s.length c4] 46) = wA) := hWA
      rw [hWA] at hobA hBA hkA hnew
      have c0 : wA.cell? ⟨wr.heap.size, 0, none⟩ = some (.int .i64 t.v) := hnew.cell 0
      have c1 : wA.cell? ⟨wr.heap.size, 1, none⟩ = some (.bool t.set) := hnew.cell 1
      have c2 : wA.cell? ⟨wr.heap.size, 2, none⟩ = some (.int .i64 t.n) := hnew.cell 2
      have c3 : wA.cell? ⟨wr.heap.size, 3, none⟩ = some (.slice a4 t.s.length c4) := hnew.cell 3
      clear hWA
      obtain ⟨po, co, rfl⟩ := HOB.out.shape
      by_cases hk0 : 0 < k
      · have hd0 : decide (0 < (k : Int)) = true := by simp; omega
        have HS2 : Hid (tsP tmT l (k + 1) = tsP tmT l k ++ ([44, 32] ++ tmT t)) := by have := HSU.out; rw [if_pos hk0] at this; exact this
        go_upto_region 4 with (fail)
        rw [HWA.out]
        go_wp2_with (at_builtin; refine wpList_app_t _ rfl _ _ rfl X.heap.size _ LL rfl hobA [44, 32] rfl hBA.size (by omega) hl2 (by simp) ?_; intro v3 w3 hob3 hb3 hk3; refine Hid.out ?_)
        refine (show Hid _ from ?_)
        unfold Hid
        have hB3 := hBA.trans hb3
        have hK3 := hkA.trans hk3
        have hN3 := hnew.kept hk3 (by intro h; cases h)
        have x0 : w3.cell? ⟨wr.heap.size, 0, none⟩ = some (.int .i64 t.v) := hN3.cell 0
        have x1 : w3.cell? ⟨wr.heap.size, 1, none⟩ = some (.bool t.set) := hN3.cell 1
        have x2 : w3.cell? ⟨wr.heap.size, 2, none⟩ = some (.int .i64 t.n) := hN3.cell 2
        have x3 : w3.cell? ⟨wr.heap.size, 3, none⟩ = some (.slice a4 t.s.length c4) := hN3.cell 3
        clear c0 c1 c2 c3 hb3 hk3
        go_wp2_with fail
        refine (term_any t hob3 hB3.size (by simp; omega) (by rw [List.length_append]; omega) hsm).mono ?_
        rintro e w4 ⟨v4, rfl, hob4, hb4, hk4⟩
        have HZ : Hid (Ob X.heap.size w4 v4 (L ++ tsP tmT l (k + 1)) ∧ Below X.heap.size X w4 ∧ Kf W w4) := ⟨by rw [HS2.out, ← List.append_assoc, HLL.out]; simpa using hob4, hB3.trans hb4, hK3.trans hk4⟩
        clear hob4 hb4 hk4
        go_wp2
        go_roundw
        case rel => exact ⟨k + 1, by omega, by go_num, HZ.out.1, HZ.out.2.1, HZ.out.2.2⟩
        case measure => simp [intOf]; omega
      · have hd0 : decide (0 < (k : Int)) = false := by simp; omega
        have HS2 : Hid (tsP tmT l (k + 1) = tsP tmT l k ++ tmT t) := by have := HSU.out; rw [if_neg hk0, List.nil_append] at this; exact this
        go_upto_region 4 with (fail)
        rw [HWA.out]
        go_wp2_with fail
        have hB3 := hBA
        have hK3 := hkA
        refine (term_any t hobA hBA.size (by omega) hl2 hsm).mono ?_
        rintro e w4 ⟨v4, rfl, hob4, hb4, hk4⟩
        have HZ : Hid (Ob X.heap.size w4 v4 (L ++ tsP tmT l (k + 1)) ∧ Below X.heap.size X w4 ∧ Kf W w4) := ⟨by rw [HS2.out, ← List.append_assoc, HLL.out]; simpa using hob4, hB3.trans hb4, hK3.trans hk4⟩
        clear hob4 hb4 hk4
        go_wp2
        go_roundw
        case rel => exact ⟨k + 1, by omega, by go_num, HZ.out.1, HZ.out.2.1, HZ.out.2.2⟩
        case measure => simp [intOf]; omega
    · have hlt' : ¬ (k : Int) < n := by omega
      obtain rfl : k = n := by omega
      go_wp2
      go_ret
      exact ⟨_, rfl, HOB.out, HB.out, HK.out⟩
end Go.Proofs.YtaeobgajhieajaaGreatDoor
