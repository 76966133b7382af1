/-
  What is proved here: what the reference's Dot returns at any two slices of one length.
-/
import Derived.Test.YtfgpedleiajgeaaDe
namespace Go.Proofs.Ytfgpedleiajgeaa
open Go.RowKit

theorem rp10 : rp 10 = 2037035976334486086268445688409378161051468393665936250636140449354381299763336706183397376 := by decide
theorem prod_rp {a b : Int} (ha : Fits a) (hb : Fits b) : -rp 10 < a * b ∧ a * b < rp 10 := by
  have := prod_bound ha hb; rw [rp10]; omega

set_option maxRecDepth 100000 in
set_option maxHeartbeats 16000000 in
theorem rdot_any (s1 s2 : Value) (da db : List Int) (w : World) (h1 : Sl w s1 da) (h2 : Sl w s2 db) (hda : FitsAll da) (hdb : FitsAll db) (hr1 : da.length * 8 ≤ 140737488351232) (hl : da.length = db.length) :
    Calls Try.prog 32 #[s1, s2] w fun e w' => e = .returned (.tuple #[.int .i64 (ov (dotS da db)), .int .i64 (oe (dotS da db))]) ∧ Below w.heap.size w w' := by
  obtain ⟨a1, c1, rfl, hc1⟩ := h1
  obtain ⟨a2, c2, rfl, hc2⟩ := h2
  have g0 : ((da.length : Int) != (db.length : Int)) = false := by rw [hl]; simp
  have HL : Hid (da.length = db.length) := hl
  have l1 : da.length ≤ db.length := by omega
  have l2 : db.length ≤ da.length := by omega
  clear hl
  go_enter Try.func32, Try.ntmps32
  go_wp2_with fail
  refine (of_any 0 _ fits0).mono ?_
  rintro e w1 ⟨v1, rfl, b1, k1⟩
  obtain ⟨m1, a3, n3, c3, rfl⟩ := b1.form
  obtain ⟨X, hX⟩ : ∃ X, w1.heap.size = X := ⟨_, rfl⟩
  have hwX : w.heap.size ≤ X := by have := k1.size; omega
  go_wp2
  go_loopw [7] (fun ii wr => ∃ (k : Nat) (mx : Bool) (ax : Option Addr) (nx cx : Nat), ii = .int .i64 (k : Int) ∧ k ≤ da.length ∧ Two wr X 35 (.bool mx) (.slice ax nx cx) ∧ IsBig wr (.agg #[.bool mx, .slice ax nx cx]) (dotS (da.take k) (db.take k)) ∧ Below w.heap.size w wr)
    (fun ii _ => da.length - (intOf ii).toNat)
  case atStart =>
    refine ⟨0, m1, a3, n3, c3, rfl, Nat.zero_le _, hX ▸ Two.new w1 35 _ _, ?_, k1.trans (((Below.refl _ w1).alloc (Nat.le_refl _) _).mono k1.size)⟩
    have := b1.below ((Below.refl _ w1).alloc (Nat.le_refl _) (.cells #[.bool m1, .slice a3 n3 c3] 35))
    simpa [dotS] using this
  case round =>
    obtain ⟨k, mx, ax, nx, cx, rfl, hk, hT, hbig, hB⟩ := hrel
    have c0 := hT.cell0; have c1' := hT.cell1
    by_cases hlt : k < da.length
    · obtain ⟨b1', o1, rfl, hb1, hcell1⟩ := hc1 (by omega)
      obtain ⟨b2, o2, rfl, hb2, hcell2⟩ := hc2 (by omega)
      have x1 : wr.cell? ⟨b1', o1 + k, none⟩ = some (.int .i64 (da[k]?.getD 0)) := (hB.cell (p := ⟨b1', o1 + k, none⟩) hb1).trans (hcell1 k hlt)
      have x2 : wr.cell? ⟨b2, o2 + k, none⟩ = some (.int .i64 (db[k]?.getD 0)) := (hB.cell (p := ⟨b2, o2 + k, none⟩) hb2).trans (hcell2 k (by omega))
      have fx := fits_at hda k; have fy := fits_at hdb k
      have HS : Hid (dotS (da.take (k + 1)) (db.take (k + 1)) = dotS (da.take k) (db.take k) + da[k]?.getD 0 * db[k]?.getD 0) := dotS_take da db HL.out k hlt
      have hb0 := dotS_bound da db HL.out hda hdb k hk
      have HQ : Hid (-rp 10 < dotS (da.take k) (db.take k) ∧ dotS (da.take k) (db.take k) < rp 10) := ⟨by rw [rp10]; omega, by rw [rp10]; omega⟩
      have HP : Hid (-rp 10 < da[k]?.getD 0 * db[k]?.getD 0 ∧ da[k]?.getD 0 * db[k]?.getD 0 < rp 10) := prod_rp fx fy
      have kk : (k : Int) < (db.length : Int) := by omega
      have hws := hB.size
      clear hcell1 hcell2 hc1 hc2 hb0
      generalize da[k]?.getD 0 = x at *
      generalize db[k]?.getD 0 = y at *
      generalize dotS (da.take k) (db.take k) = q at *
      go_wp2
      have HH : Hid (_ ∧ _ ∧ _) := ⟨hT, hbig, hB⟩
      have HF : Hid (_ ∧ _) := And.intro fx fy
      have hb2w : b2 < wr.heap.size := by omega
      clear hT hbig hB fx fy hb1 hb2 hws hk l1 l2 g0 b1 k1 hX
      go_region_with (first
        | (go_at_call_of 38 (Value.int IntKind.i64 x); refine (of_any x _ HF.out.1).mono ?_; rintro e w3 ⟨v3, rfl, g3, k3'⟩; have k3 := below_undrew k3'; have hT3 := HH.out.1.below k3 HH.out.1.lt; have d0 := hT3.cell0; have d1 := hT3.cell1; have e2 : w3.cell? ⟨b2, o2 + k, none⟩ = some (.int .i64 y) := (k3.cell (p := ⟨b2, o2 + k, none⟩) hb2w).trans x2; have G3 : Hid (_ ∧ _ ∧ _) := ⟨g3, k3, hT3⟩; clear g3 k3 k3' hT3)
        | (go_at_call_of 38 (Value.int IntKind.i64 y); refine (of_any y _ HF.out.2).mono ?_; rintro e w4 ⟨v4, rfl, g4, k4⟩; have hT4 := G3.out.2.2.below k4 G3.out.2.2.lt; have i0 := hT4.cell0; have i1 := hT4.cell1; have G4 : Hid (_ ∧ _ ∧ _) := ⟨g4, k4, hT4⟩; clear g4 k4 hT4 d0 d1 e2)
        | (go_at_call 41; refine (times_any 10 (by decide) v3 v4 x y _ ?_ ?_ (fits_rp HF.out.1) (fits_rp HF.out.2)).mono ?_; exact G3.out.1.below G4.out.2.1; exact G4.out.1; rintro e w5 ⟨v5, rfl, g5, k5⟩; have hT5 := G4.out.2.2.below k5 G4.out.2.2.lt; have j0 := hT5.cell0; have j1 := hT5.cell1; have G5 : Hid (_ ∧ _ ∧ _) := ⟨g5, k5, hT5⟩; clear g5 k5 hT5 i0 i1)
        | (go_at_call 37; refine (plus_any 10 (by decide) _ v5 q (x * y) _ ?_ ?_ HQ.out HP.out).mono ?_; exact ((HH.out.2.1.below G3.out.2.1).below G4.out.2.1).below G5.out.2.1; exact G5.out.1; rintro e w6 ⟨v6, rfl, g6, k6⟩; obtain ⟨m6, a6, n6, c6, rfl⟩ := g6.form; have hT6 := G5.out.2.2.below k6 G5.out.2.2.lt; have s0 := hT6.frozen0; have s1 := hT6.frozen1; have s2 := hT6.cell0; have s3 := hT6.cell1; have G6 : Hid (_ ∧ _ ∧ _) := ⟨g6, k6, hT6⟩; clear g6 k6 hT6 j0 j1))
      all_goals
        go_wp2
        go_roundw
        case rel => exact ⟨k + 1, m6, a6, n6, c6, by go_num, by omega, (G6.out.2.2.set0 _).set1 _, by rw [HS.out]; exact G6.out.1.copied G6.out.2.2, ((HH.out.2.2.trans ((below2 (below2 G3.out.2.1 G4.out.2.1) (below2 G5.out.2.1 G6.out.2.1)).mono HH.out.2.2.size)).setCell (by simp; omega) _).setCell (by simp; omega) _⟩
        case measure => simp [intOf]; omega
    · have hv : dotS (da.take k) (db.take k) = dotS da db := by rw [List.take_of_length_le (by omega), List.take_of_length_le (by omega)]
      rw [hv] at hbig
      clear hv
      go_wp2_with fail
      refine (back_any _ _ _ hbig).mono ?_
      rintro e w5 ⟨rfl, k5⟩
      go_wp2
      go_ret2
      exact ⟨rfl, hB.trans (k5.mono hB.size)⟩
end Go.Proofs.Ytfgpedleiajgeaa
