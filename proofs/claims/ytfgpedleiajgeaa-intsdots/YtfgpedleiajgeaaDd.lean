/-
  What is proved here: what ints.Dot returns at any two slices: the sum of the products, or that it is beyond 64 bits, or that the lengths differ.
-/
import Derived.Test.YtfgpedleiajgeaaDc
import Derived.Test.YtfgpedleiajgeaaBk
namespace Go.Proofs.Ytfgpedleiajgeaa
open Go.RowKit

/-- Block B is the number x in three words. -/
def Thr (W : World) (B : Nat) (x : Int) : Prop := W.heap[B]? = some (.cells #[.int .u64 (w0 x), .int .u64 (w1 x), .int .u64 (w2 x)] 40 (0, 0))
theorem Thr.lt {W : World} {B : Nat} {x : Int} (h : Thr W B x) : B < W.heap.size := (Array.getElem?_eq_some_iff.1 h).1
theorem Thr.cell0 {W : World} {B : Nat} {x : Int} (h : Thr W B x) : W.cell? ⟨B, 0, none⟩ = some (.int .u64 (w0 x)) := by simp [World.cell?, show W.heap[B]? = _ from h]
theorem Thr.cell1 {W : World} {B : Nat} {x : Int} (h : Thr W B x) : W.cell? ⟨B, 1, none⟩ = some (.int .u64 (w1 x)) := by simp [World.cell?, show W.heap[B]? = _ from h]
theorem Thr.cell2 {W : World} {B : Nat} {x : Int} (h : Thr W B x) : W.cell? ⟨B, 2, none⟩ = some (.int .u64 (w2 x)) := by simp [World.cell?, show W.heap[B]? = _ from h]
theorem Thr.frozen {W : World} {B : Nat} {x : Int} (h : Thr W B x) (j : Nat) : W.frozen? ⟨B, j, none⟩ = false := by simp [World.frozen?, show W.heap[B]? = _ from h]
theorem Thr.below {W W' : World} {n B : Nat} {x : Int} (h : Thr W B x) (hb : Below n W W') (hB : B < n) : Thr W' B x := (hb.block B hB).trans h
theorem Thr.set {W : World} {B : Nat} {x : Int} (h : Thr W B x) (y : Int) : Thr (((W.setCell ⟨B, 0, none⟩ (.int .u64 (w0 y))).setCell ⟨B, 1, none⟩ (.int .u64 (w1 y))).setCell ⟨B, 2, none⟩ (.int .u64 (w2 y))) B y := by
  unfold Thr at *; simp [World.setCell, Array.getElem?_modify, h]
theorem thr_zero (W : World) : Thr (W.alloc (.cells #[.int .u64 0, .int .u64 0, .int .u64 0] 40)) W.heap.size 0 := World.alloc_heap_new W _

theorem wplus_agg (x y : Int) (w : World) :
    Calls Try.prog 43 #[.agg #[.int .u64 (w0 x), .int .u64 (w1 x), .int .u64 (w2 x)], .agg #[.int .u64 (w0 y), .int .u64 (w1 y), .int .u64 (w2 y)]] w fun e w' => e = .returned (.agg #[.int .u64 (w0 (x + y)), .int .u64 (w1 (x + y)), .int .u64 (w2 (x + y))]) ∧ Below w.heap.size w w' := wplus_any x y w
theorem prod_agg (a b : Int) (w : World) (ha : Fits a) (hb : Fits b) :
    Calls Try.prog 39 #[.int .i64 a, .int .i64 b] w fun e w' => e = .returned (.agg #[.int .u64 (w0 (a * b)), .int .u64 (w1 (a * b)), .int .u64 (w2 (a * b))]) ∧ Below w.heap.size w w' := prod_any a b w ha hb

set_option maxRecDepth 100000 in
set_option maxHeartbeats 1000000 in
theorem dot_any (s1 s2 : Value) (da db : List Int) (w : World) (h1 : Sl w s1 da) (h2 : Sl w s2 db) (hda : FitsAll da) (hdb : FitsAll db) (hr1 : da.length * 8 ≤ 140737488351232) (_hr2 : db.length * 8 ≤ 140737488351232) (hl : da.length = db.length) :
    Calls Try.prog 31 #[s1, s2] w fun e w' => e = .returned (.tuple #[.int .i64 (ov (dotS da db)), .int .i64 (oe (dotS da db))]) ∧ Below w.heap.size w w' := by
  obtain ⟨a1, c1, rfl, hc1⟩ := h1
  obtain ⟨a2, c2, rfl, hc2⟩ := h2
  obtain ⟨B, hBs⟩ : ∃ B, w.heap.size = B := ⟨_, rfl⟩
  have g0 : ((da.length : Int) != (db.length : Int)) = false := by rw [hl]; simp
  have HL : Hid (da.length = db.length) := hl
  have l1 : da.length ≤ db.length := by omega
  have l2 : db.length ≤ da.length := by omega
  clear hl
  go_enter Try.func31, Try.ntmps31
  go_wp2
  go_loopw [16] (fun i wr => ∃ k : Nat, k ≤ da.length ∧ i = .int .i64 (k : Int) ∧ Thr wr B (dotS (da.take k) (db.take k)) ∧ Below B w wr) (fun i _ => da.length - (intOf i).toNat)
  case atStart =>
    refine ⟨0, Nat.zero_le _, rfl, ?_, hBs ▸ (Below.refl _ w).alloc (Nat.le_refl _) _⟩
    have := thr_zero w
    rw [hBs] at this
    simpa [dotS] using this
  case round =>
    obtain ⟨k, hk, rfl, hT, hB⟩ := hrel
    have c0 := hT.cell0; have c1' := hT.cell1; have c2' := hT.cell2
    have hb0 := dotS_bound da db HL.out hda hdb k hk
    by_cases hlt : k < da.length
    · obtain ⟨b1, o1, rfl, hb1, hcell1⟩ := hc1 (by omega)
      obtain ⟨b2, o2, rfl, hb2, hcell2⟩ := hc2 (by omega)
      have x1 : wr.cell? ⟨b1, o1 + k, none⟩ = some (.int .i64 (da[k]?.getD 0)) := (hB.cell (p := ⟨b1, o1 + k, none⟩) (by show b1 < B; omega)).trans (hcell1 k hlt)
      have x2 : wr.cell? ⟨b2, o2 + k, none⟩ = some (.int .i64 (db[k]?.getD 0)) := (hB.cell (p := ⟨b2, o2 + k, none⟩) (by show b2 < B; omega)).trans (hcell2 k (by omega))
      have fx := fits_at hda k; have fy := fits_at hdb k
      have HS : Hid (dotS (da.take (k + 1)) (db.take (k + 1)) = dotS (da.take k) (db.take k) + da[k]?.getD 0 * db[k]?.getD 0) := dotS_take da db HL.out k hlt
      have kk : (k : Int) < (db.length : Int) := by omega
      clear hcell1 hcell2 hc1 hc2 hb0
      generalize da[k]?.getD 0 = x at *
      generalize db[k]?.getD 0 = y at *
      generalize dotS (da.take k) (db.take k) = q at *
      go_wp2
      go_region_with (first | (go_at_call 39; refine (prod_agg x y _ fx fy).mono ?_; rintro e w3 ⟨rfl, k3'⟩; have k3 := below_undrew k3'; have hT3 := hT.below k3 hT.lt; have d0 := hT3.cell0; have d1 := hT3.cell1; have d2 := hT3.cell2; have e2 : w3.cell? ⟨b2, o2 + k, none⟩ = some (.int .i64 y) := (k3.cell (p := ⟨b2, o2 + k, none⟩) (by have := hB.size; show b2 < _; omega)).trans x2) | (go_at_call 43; refine (wplus_agg q (x * y) _).mono ?_; rintro e w4 ⟨rfl, k4⟩; have hT4 := hT3.below k4 hT3.lt; have s0 := hT4.frozen 0; have s1 := hT4.frozen 1; have s2 := hT4.frozen 2; have t0 := hT4.cell0; have t1 := hT4.cell1; have t2 := hT4.cell2))
      all_goals
        go_wp2
        go_roundw
        case rel => exact ⟨k + 1, by omega, by go_num, by rw [HS.out]; exact hT4.set _, (((hB.trans ((below2 k3 k4).mono (by have := hT.lt; omega))).setCell (by simp) _).setCell (by simp) _).setCell (by simp) _⟩
        case measure => simp [intOf]; omega
    · have hkk : k = da.length := by omega
      have hv : dotS (da.take k) (db.take k) = dotS da db := by rw [List.take_of_length_le (by omega), List.take_of_length_le (by omega)]
      rw [hv] at hT hb0
      have hn := narrow_any (dotS da db) wr (by omega) (by omega)
      unfold wide at hn
      have HN : Hid (Calls _ _ _ _ _) := hn
      have q0 := hT.cell0; have q1 := hT.cell1; have q2 := hT.cell2
      clear hn hb0 hv c0 c1' c2'
      go_wp2_with fail
      refine HN.out.mono ?_
      rintro e w5 ⟨rfl, k5⟩
      go_wp2
      go_ret2
      exact ⟨rfl, hBs ▸ hB.trans (k5.mono (by have := hT.lt; omega))⟩
end Go.Proofs.Ytfgpedleiajgeaa
