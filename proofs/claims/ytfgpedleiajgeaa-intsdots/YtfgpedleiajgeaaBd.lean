/-
  What is proved here: what the reference's Back returns: the number, or that it is beyond 64 bits.
-/
import Derived.Test.YtfgpedleiajgeaaBc
import Derived.Laws.BitsLemmas
namespace Go.Proofs.Ytfgpedleiajgeaa
open Go.RowKit

theorem dval_drop (ds : List Int) (k : Nat) (hk : k < ds.length) : dval (ds.drop k) = ds[k]?.getD 0 + 1073741824 * dval (ds.drop (k + 1)) := by
  rw [List.drop_eq_getElem_cons hk, dval, List.getElem?_eq_getElem hk]; rfl
theorem dval_drop_le {ds : List Int} (h : Digs ds) (k : Nat) : 0 ≤ dval (ds.drop k) ∧ dval (ds.drop k) ≤ dval ds := by
  have hd : Digs (ds.drop k) := fun d hm => h d (List.mem_of_mem_drop hm)
  have h0 := (dval_bound hd).1
  refine ⟨h0, ?_⟩
  have e : dval ds = dval (ds.take k) + rp (ds.take k).length * dval (ds.drop k) := by rw [← dval_append, List.take_append_drop]
  have h1 := (dval_bound (digs_take h k)).1
  have h2 := rp_pos (ds.take k).length
  have : 1 * dval (ds.drop k) ≤ rp (ds.take k).length * dval (ds.drop k) := Int.mul_le_mul_of_nonneg_right (by omega) h0
  omega
theorem or30 {u d : Int} (h0 : 0 ≤ u) (h1 : 0 ≤ d) (h2 : d < 1073741824) (h3 : d + 1073741824 * u < 18446744073709551616) :
    bits BinOp.or IntKind.u64 (IntKind.u64.wrap (u * 1073741824)) d = d + 1073741824 * u := by
  have e1 : IntKind.u64.wrap (u * 1073741824) = 1073741824 * u := by rw [IntKind.wrap_u64]; omega
  have h64 : (2 : Int) ^ 64 = 18446744073709551616 := by decide
  have h30 : (2 : Int) ^ 30 = 1073741824 := by decide
  rw [e1, bits_join .u64 64 (by decide) (fun n h0 h1 => by rw [IntKind.wrap_u64]; omega) 30 _ _ (by omega) (by omega) (by omega) h1 (by omega) (by omega)]
  omega
theorem rp3 : rp 3 = 1237940039285380274899124224 := by decide
theorem rp2 : rp 2 = 1152921504606846976 := by decide
/-- How great a number with so many digits is. -/
theorem dval_beyond {ds : List Int} (h : Digs ds) (ht : Top ds) (hl : 3 < ds.length) : 18446744073709551616 ≤ dval ds := by
  obtain ⟨n, hn⟩ : ∃ n, ds.length = n + 1 := ⟨ds.length - 1, by omega⟩
  have h1 := dval_top h ht hn
  have h2 := rp_mono (show 3 ≤ n by omega)
  rw [rp3] at h2; omega
theorem dval_three {ds : List Int} (h : Digs ds) (hl : ds.length = 3) : ((15 : Int) < ds[2]?.getD 0 → 18446744073709551616 ≤ dval ds) ∧ (¬ (15 : Int) < ds[2]?.getD 0 → dval ds < 18446744073709551616) := by
  have e := dval_take_succ ds 2
  rw [dval_take_all (by omega), rp2] at e
  have h1 := dval_bound (digs_take h 2)
  have hl2 : (ds.take 2).length = 2 := by rw [List.length_take]; omega
  rw [hl2, rp2] at h1
  have h2 := digs_at h 2
  constructor <;> intro h3 <;> omega
theorem dval_few {ds : List Int} (h : Digs ds) (hl : ds.length < 3) : dval ds < 18446744073709551616 := by
  have h1 := dval_bound h
  have h2 := rp_mono (show ds.length ≤ 2 by omega)
  rw [rp2] at h2; omega

set_option maxHeartbeats 1000000 in
theorem back_big (m : Bool) (s : Value) (ds : List Int) (w : World) (hrow : Row w 0 s ds) (hd : Digs ds) (hb : 18446744073709551616 ≤ dval ds) :
    Calls Try.prog 36 #[.agg #[.bool m, s]] w fun e w' => e = .returned (.tuple #[.int .i64 0, .int .i64 10]) ∧ Below w.heap.size w w' := by
  have h3 : 3 ≤ ds.length := by
    apply Classical.byContradiction; intro hx
    have := dval_few hd (by omega); omega
  obtain ⟨g, cap, rfl, _, hg, hcap, hmx, hcell⟩ := hrow.at (show 2 < ds.length by omega)
  have hc := hcell 2 (by omega)
  clear hcell
  by_cases h4 : 3 < ds.length
  · have g4 : (3 : Int) < (ds.length : Int) := by omega
    clear h4 hb
    go_enter Try.func36, Try.ntmps36
    go_wp2
    go_ret2
    exact ⟨rfl, (Below.refl _ _).alloc (Nat.le_refl _) _⟩
  · have h5 : ds.length = 3 := by omega
    have h6 : (15 : Int) < ds[2]?.getD 0 := by
      apply Classical.byContradiction; intro hx
      have := (dval_three hd h5).2 hx; omega
    rw [h5] at *
    clear h4 hb
    go_enter Try.func36, Try.ntmps36
    go_wp2
    go_ret2
    exact ⟨rfl, (Below.refl _ _).alloc (Nat.le_refl _) _⟩

set_option maxHeartbeats 2000000 in
theorem back_small (m : Bool) (s : Value) (ds : List Int) (w : World) (hrow : Row w 0 s ds) (hd : Digs ds) (ht : Top ds) (hm : ds = [] → m = false) (hb : dval ds < 18446744073709551616) :
    Calls Try.prog 36 #[.agg #[.bool m, s]] w fun e w' => e = .returned (.tuple #[.int .i64 (ov (sg m (dval ds))), .int .i64 (oe (sg m (dval ds)))]) ∧ Below w.heap.size w w' := by
  have h4 : ds.length ≤ 3 := by
    apply Classical.byContradiction; intro hx
    have := dval_beyond hd ht (by omega); omega
  rcases Nat.eq_zero_or_pos ds.length with h0 | hpos
  · obtain rfl := List.eq_nil_of_length_eq_zero h0
    obtain rfl := hm rfl
    obtain ⟨av, cv, rfl⟩ := hrow.form
    have e1 : ov (sg false (dval [])) = 0 := by decide
    have e2 : oe (sg false (dval [])) = 0 := by decide
    rw [e1, e2]
    go_enter Try.func36, Try.ntmps36
    go_wp2
    go_loop [4, 5] (fun u i => u = .int .u64 0 ∧ i = .int .i64 (-1)) (fun _ i => (intOf i).toNat)
    case atStart => exact ⟨rfl, rfl⟩
    case round =>
      obtain ⟨rfl, rfl⟩ := hrel
      go_wp2
      go_ret2
      exact ⟨rfl, (Below.refl _ _).alloc (Nat.le_refl _) _⟩
  · obtain ⟨g, cap, rfl, _, hg, hcap, hmx, hcell⟩ := hrow.at hpos
    unfold maxLen at hmx
    have hD0 : 0 < dval ds := by
      obtain ⟨n, hn⟩ : ∃ n, ds.length = n + 1 := ⟨ds.length - 1, by omega⟩
      have := dval_top hd ht hn; have := rp_pos n; omega
    by_cases h3 : ds.length = 3
    · have hx : ¬ (15 : Int) < ds[2]?.getD 0 := by
        intro hy; have := (dval_three hd h3).1 hy; omega
      have hc2 := hcell 2 (by omega)
      have g3 : ((ds.length : Int) == 3) = true := by simp; omega
      have g4 : ¬ (3 : Int) < (ds.length : Int) := by omega
      have g5 : 3 ≤ ds.length := by omega
      clear h3
      go_enter Try.func36, Try.ntmps36
      go_wp2
      go_loop [4, 5] (fun u i => ∃ k : Nat, k ≤ ds.length ∧ i = .int .i64 ((k : Int) - 1) ∧ u = .int .u64 (dval (ds.drop k))) (fun _ i => (intOf i + 1).toNat)
      case atStart => exact ⟨ds.length, Nat.le_refl _, by go_num, by simp [dval]⟩
      case round =>
        obtain ⟨k, hk, rfl, rfl⟩ := hrel
        cases k with
        | zero =>
          rw [List.drop_zero]
          clear hcell
          have hd0 := (dval_bound hd).1
          cases m
          · by_cases hf : Fits (dval ds)
            · have hf' : ¬ (9223372036854775807 : Int) < dval ds := by unfold Fits at hf; omega
              have HW : Hid (wrap64 (dval ds) = dval ds) := wrap_id hf
              have HF : Hid (Fits (sg false (dval ds))) := hf
              clear hf
              go_wp2
              go_ret2
              exact ⟨ret2_eq (Eq.trans (by first | rfl | exact HW.out) (ov_yes HF.out).symm) (oe_yes HF.out).symm, (Below.refl _ _).alloc (Nat.le_refl _) _⟩
            · have hf' : (9223372036854775807 : Int) < dval ds := by unfold Fits at hf; omega
              have HF : Hid (¬ Fits (sg false (dval ds))) := hf
              clear hf
              go_wp2
              go_ret2
              exact ⟨ret2_eq (ov_no HF.out).symm (oe_no HF.out).symm, (Below.refl _ _).alloc (Nat.le_refl _) _⟩
          · by_cases hf : Fits (-dval ds)
            · have hf' : ¬ (9223372036854775808 : Int) < dval ds := by unfold Fits at hf; omega
              have HF : Hid (Fits (sg true (dval ds))) := hf
              clear hf
              go_wp2
              go_ret2
              exact ⟨ret2_eq (Eq.trans (by rw [sg_true]; omega) (ov_yes HF.out).symm) (oe_yes HF.out).symm, (Below.refl _ _).alloc (Nat.le_refl _) _⟩
            · have hf' : (9223372036854775808 : Int) < dval ds := by unfold Fits at hf; omega
              have HF : Hid (¬ Fits (sg true (dval ds))) := hf
              clear hf
              go_wp2
              go_ret2
              exact ⟨ret2_eq (ov_no HF.out).symm (oe_no HF.out).symm, (Below.refl _ _).alloc (Nat.le_refl _) _⟩
        | succ k =>
          have ek : ((k + 1 : Nat) : Int) - 1 = (k : Int) := by omega
          rw [ek]
          have hc := hcell k (by omega)
          have hk1 := dval_drop ds k (by omega)
          have hk2 := dval_drop_le hd k
          have hk3 := dval_drop_le hd (k + 1)
          have hk4 := digs_at hd k
          have ho := or30 hk3.1 hk4.1 hk4.2 (by omega)
          rw [← hk1] at ho
          have HO : Hid (_ = _) := ho
          clear hcell hk1 hk2 ho
          generalize ds[k]?.getD 0 = d at *
          go_wp2
          go_round
          case rel => exact ⟨k, by omega, by go_num, by rw [HO.out]⟩
          case measure => simp [intOf]
    · have g3 : ((ds.length : Int) == 3) = false := by simp; omega
      have g4 : ¬ (3 : Int) < (ds.length : Int) := by omega
      clear h3
      go_enter Try.func36, Try.ntmps36
      go_wp2
      go_loop [4, 5] (fun u i => ∃ k : Nat, k ≤ ds.length ∧ i = .int .i64 ((k : Int) - 1) ∧ u = .int .u64 (dval (ds.drop k))) (fun _ i => (intOf i + 1).toNat)
      case atStart => exact ⟨ds.length, Nat.le_refl _, by go_num, by simp [dval]⟩
      case round =>
        obtain ⟨k, hk, rfl, rfl⟩ := hrel
        cases k with
        | zero =>
          rw [List.drop_zero]
          clear hcell
          have hd0 := (dval_bound hd).1
          cases m
          · by_cases hf : Fits (dval ds)
            · have hf' : ¬ (9223372036854775807 : Int) < dval ds := by unfold Fits at hf; omega
              have HW : Hid (wrap64 (dval ds) = dval ds) := wrap_id hf
              have HF : Hid (Fits (sg false (dval ds))) := hf
              clear hf
              go_wp2
              go_ret2
              exact ⟨ret2_eq (Eq.trans (by first | rfl | exact HW.out) (ov_yes HF.out).symm) (oe_yes HF.out).symm, (Below.refl _ _).alloc (Nat.le_refl _) _⟩
            · have hf' : (9223372036854775807 : Int) < dval ds := by unfold Fits at hf; omega
              have HF : Hid (¬ Fits (sg false (dval ds))) := hf
              clear hf
              go_wp2
              go_ret2
              exact ⟨ret2_eq (ov_no HF.out).symm (oe_no HF.out).symm, (Below.refl _ _).alloc (Nat.le_refl _) _⟩
          · by_cases hf : Fits (-dval ds)
            · have hf' : ¬ (9223372036854775808 : Int) < dval ds := by unfold Fits at hf; omega
              have HF : Hid (Fits (sg true (dval ds))) := hf
              clear hf
              go_wp2
              go_ret2
              exact ⟨ret2_eq (Eq.trans (by rw [sg_true]; omega) (ov_yes HF.out).symm) (oe_yes HF.out).symm, (Below.refl _ _).alloc (Nat.le_refl _) _⟩
            · have hf' : (9223372036854775808 : Int) < dval ds := by unfold Fits at hf; omega
              have HF : Hid (¬ Fits (sg true (dval ds))) := hf
              clear hf
              go_wp2
              go_ret2
              exact ⟨ret2_eq (ov_no HF.out).symm (oe_no HF.out).symm, (Below.refl _ _).alloc (Nat.le_refl _) _⟩
        | succ k =>
          have ek : ((k + 1 : Nat) : Int) - 1 = (k : Int) := by omega
          rw [ek]
          have hc := hcell k (by omega)
          have hk1 := dval_drop ds k (by omega)
          have hk2 := dval_drop_le hd k
          have hk3 := dval_drop_le hd (k + 1)
          have hk4 := digs_at hd k
          have ho := or30 hk3.1 hk4.1 hk4.2 (by omega)
          rw [← hk1] at ho
          have HO : Hid (_ = _) := ho
          clear hcell hk1 hk2 ho
          generalize ds[k]?.getD 0 = d at *
          go_wp2
          go_round
          case rel => exact ⟨k, by omega, by go_num, by rw [HO.out]⟩
          case measure => simp [intOf]


theorem back_any (x : Int) (v : Value) (w : World) (h : IsBig w v x) :
    Calls Try.prog 36 #[v] w fun e w' => e = .returned (.tuple #[.int .i64 (ov x), .int .i64 (oe x)]) ∧ Below w.heap.size w w' := by
  obtain ⟨m, s, ds, rfl, hrow, hd, ht, hm, rfl⟩ := h
  by_cases hb : 18446744073709551616 ≤ dval ds
  · have hf : ¬ Fits (sg m (dval ds)) := by cases m <;> simp only [sg_true, sg_false] <;> unfold Fits <;> omega
    rw [ov_no hf, oe_no hf]
    exact back_big m s ds w hrow hd hb
  · exact back_small m s ds w hrow hd ht hm (by omega)
end Go.Proofs.Ytfgpedleiajgeaa
