/-
  What is proved here: what math/bits.TrailingZeros64 and the method Next return.
-/
import Derived.Test.YtgcgomofmicchaaDoorXj
import Derived.Lib.TrailingZeros
import Derived.Laws.Bits64b
namespace Go.Proofs.YtgcgomofmicchaaDoor
open Go.RowKit Go.Shelf

/-- The library's table, as it is laid. -/
def Tab (W : World) : Prop := 0 < W.heap.size ∧ ∀ j, j < 64 → W.cell? ⟨0, j, none⟩ = some (.int .u8 (Lib.deBruijn64tab.getD j 0 : Nat))
theorem Tab.below {W W' : World} {B : Nat} (h : Tab W) (hb : Below B W W') (h0 : 0 < B) : Tab W' :=
  ⟨Nat.lt_of_lt_of_le h.1 hb.size, fun j hj => (hb.cell (p := ⟨0, j, none⟩) h0).trans (h.2 j hj)⟩
theorem Tab.drawn {W : World} (h : Tab W) (n : Nat) : Tab (W.drewN n) := h

set_option maxHeartbeats 1000000 in
theorem tz_core (x k idx : Nat) (w : World) (hx0 : ((x : Int) == 0) = false)
    (key : IntKind.u64.wrap (bits BinOp.and IntKind.u64 (x : Int) (IntKind.u64.wrap (-(x : Int))) * 285870213051353865) / 288230376151711744 = (idx : Int))
    (hi : idx < 64) (hk : k < 64) (hcell : w.cell? ⟨0, idx, none⟩ = some (.int .u8 k)) :
    Calls Tryd.prog 71 #[.int .u64 x] w fun e w' => e = .returned (.int .i64 k) ∧ w' = w := by
  go_enter Tryd.func71, Tryd.ntmps71
  go_wp2_with (simp only [key])
  go_ret
  exact ⟨rfl, rfl⟩
theorem tz_key (x a : Nat) (hx : x < 18446744073709551616) (hx0 : x ≠ 0) (hlow : x &&& (18446744073709551616 - x) = a) :
    IntKind.u64.wrap (bits BinOp.and IntKind.u64 (x : Int) (IntKind.u64.wrap (-(x : Int))) * 285870213051353865) / 288230376151711744 = ((a * 285870213051353865 % 18446744073709551616 / 288230376151711744 : Nat) : Int) := by
  have e1 : IntKind.u64.wrap (-(x : Int)) = ((18446744073709551616 - x : Nat) : Int) := by rw [IntKind.wrap_u64]; omega
  rw [e1, bits_and x _ hx (by omega), hlow, IntKind.wrap_u64]
  omega
theorem tz_any (x : Nat) (hx : x < 18446744073709551616) (hx0 : x ≠ 0) (w : World) (hT : Tab w) :
    Calls Tryd.prog 71 #[.int .u64 x] w fun e w' => e = .returned (.int .i64 (Lib.ctz 64 x : Nat)) ∧ w' = w := by
  obtain ⟨hlow, hk⟩ := Lib.lowest_bit 64 x hx0 hx
  obtain ⟨hi, htab⟩ := Lib.deBruijn64_at _ hk
  have hcell := hT.2 _ hi
  rw [htab] at hcell
  exact tz_core x _ _ w (by simp; omega) (tz_key x _ hx hx0 hlow) hi hk hcell
theorem ctz_bits (x : Nat) (hx : x < 2 ^ 64) (hx0 : x ≠ 0) : Lib.ctz 64 x < 64 ∧ x.testBit (Lib.ctz 64 x) = true ∧ ∀ j, j < Lib.ctz 64 x → x.testBit j = false := by
  have e : Lib.ctz 64 x = Lib.ctzFrom 64 x := by simp [Lib.ctz, hx0]
  rw [e]
  obtain ⟨m, hm, hk⟩ := Lib.ctzFrom_spec 64 x (by omega) hx
  generalize Lib.ctzFrom 64 x = k at hm hk
  rw [Nat.mul_comm] at hm
  refine ⟨hk, ?_, fun j hj => ?_⟩
  · rw [hm, Nat.testBit_mul_two_pow, Nat.sub_self, Nat.testBit_zero]
    simp
  · rw [hm, Nat.testBit_mul_two_pow]
    have : decide (k ≤ j) = false := by simp; omega
    rw [this]; rfl

/-- Bits beyond the room are 0. -/
def Cl (room : Int) (ws : List Nat) : Prop := ∀ k : Int, room ≤ k → bt ws k = false
theorem bt_neg (ws : List Nat) (k : Int) (h : k < 0) : bt ws k = false := by unfold bt; rw [if_pos h]
theorem hasB_eq {f room : Int} {ws : List Nat} (hc : Cl room ws) (v : Int) : hasB f room ws v = bt ws (v - f) := by
  unfold hasB
  by_cases h : f ≤ v ∧ v < f + room
  · rw [fitB_yes h]; simp
  · rw [fitB_no h]
    by_cases h1 : v < f
    · rw [bt_neg _ _ (by omega)]; rfl
    · rw [hc _ (by omega)]; rfl
/-- What Next returns. -/
def NextIs (f room : Int) (ws : List Nat) (v : Int) (r : Int) (ok : Bool) : Prop :=
  (ok = true ∧ hasB f room ws r = true ∧ v ≤ r ∧ ∀ x, v ≤ x → x < r → hasB f room ws x = false) ∨ (ok = false ∧ r = 0 ∧ ∀ x, v ≤ x → hasB f room ws x = false)
def NextEnd (f room : Int) (ws : List Nat) (v : Int) (e : Ending) : Prop := ∃ r ok, e = .returned (.tuple #[.int .i64 r, .bool ok]) ∧ NextIs f room ws v r ok
theorem ret_at {a b : Int} {t : Bool} (h : a = b) : Ending.returned (.tuple #[.int .i64 a, .bool t]) = .returned (.tuple #[.int .i64 b, .bool t]) := by rw [h]

set_option maxHeartbeats 2000000 in
theorem next_any (b g c : Nat) (f room v : Int) (ws : List Nat) (W : World) (h : Bits W b g c f room ws) (hz : Sz f room ws) (hc : Cl room ws) (hT : Tab W) :
    Calls Tryd.prog 37 #[.pointer (some ⟨b, 0, none⟩), .int .i64 v] W fun e w' => NextEnd f room ws v e ∧ ∃ n, w' = W.drewN n := by
  have c0 := h.c0
  have z1 := hz.lo; have z2 := hz.one; have z3 := hz.most; have z4 := hz.hi
  obtain ⟨M, hM⟩ : ∃ M, max v f = M := ⟨_, rfl⟩
  have hM1 : v ≤ M := by omega
  have hM2 : f ≤ M := by omega
  have h0 : ∀ y, v ≤ y → y < M → hasB f room ws y = false := fun y h1 h2 => by
    unfold hasB; rw [fitB_no (by omega)]; rfl
  have HB : Hid (Bits W b g c f room ws) := h
  have HZ : Hid (Sz f room ws) := hz
  have HC : Hid (Cl room ws) := hc
  have HT : Hid (Tab W) := hT
  have H0 : Hid (∀ y, v ≤ y → y < M → hasB f room ws y = false) := h0
  have kf := fun n x => fits_any b g c f room x ws (W.drewN n) (h.drawn n) hz
  have ki := fun n x (h1 : -10000000 ≤ x) (h2 : x ≤ 10000000) => from_any b g c f room x ws (W.drewN n) (h.drawn n) hz h1 h2
  clear h hz hc hT h0
  go_enter Tryd.func37, Tryd.ntmps37
  go_wp2
  go_loopw [6] (fun a wr => ∃ x : Int, a = .int .i64 x ∧ M ≤ x ∧ (∀ y, v ≤ y → y < x → hasB f room ws y = false) ∧ ∃ n, wr = W.drewN n) (fun a _ => (f + room + 64 - intOf a).toNat)
  case atStart => exact ⟨M, rfl, Int.le_refl _, H0.out, 0, rfl⟩
  case round =>
    obtain ⟨x, rfl, hx, hno, n, rfl⟩ := hrel
    have HNO : Hid (∀ y, v ≤ y → y < x → hasB f room ws y = false) := hno
    have k1 := kf n x
    clear hno
    by_cases hfit : f ≤ x ∧ x < f + room
    · rw [fitB_yes hfit] at k1
      obtain ⟨hf1, hf2⟩ := hfit
      have k2 := fun m => ki m x (by omega) (by omega)
      obtain ⟨u, hu⟩ : ∃ u, frm ws (x - f) = u := ⟨_, rfl⟩
      rw [hu] at k2
      have hul : u < 18446744073709551616 := by rw [← hu]; exact frm_lt HZ.out.word _
      have hub : ∀ j : Nat, j < 64 → u.testBit j = hasB f room ws (x + (j : Int)) := fun j hj => by
        rw [← hu, frm_bit HZ.out.word _ j hj, hasB_eq HC.out]
        congr 1; omega
      have HUB : Hid (∀ j : Nat, j < 64 → u.testBit j = hasB f room ws (x + (j : Int))) := hub
      clear hu hub
      by_cases hu0 : u = 0
      · have hno2 : ∀ y, v ≤ y → y < x + 64 → hasB f room ws y = false := fun y h1 h2 => by
          by_cases hy : y < x
          · exact HNO.out y h1 hy
          · have := HUB.out (y - x).toNat (by omega)
            rw [hu0, Nat.zero_testBit] at this
            rw [this]; congr 1; omega
        have HNO2 : Hid (∀ y, v ≤ y → y < x + 64 → hasB f room ws y = false) := hno2
        subst hu0
        clear hno2
        go_wp2_with (first | (go_at_call 51; refine k1.mono ?_; clear k1; rintro e w1 ⟨rfl, n1, rfl⟩) | (go_at_call 58; refine (k2 _).mono ?_; clear k2; rintro e w1 ⟨rfl, n2, rfl⟩))
        go_roundw
        case rel => exact ⟨x + 64, rfl, by omega, HNO2.out, _, rfl⟩
        case measure => simp [intOf]; omega
      · have hd : ((u : Int) == 0) = false := by simp; omega
        obtain ⟨t1, t2, t3⟩ := ctz_bits u hul hu0
        have k3 := fun m => tz_any u hul hu0 (W.drewN m) (HT.out.drawn m)
        obtain ⟨k, hk⟩ : ∃ k, Lib.ctz 64 u = k := ⟨_, rfl⟩
        rw [hk] at k3 t1 t2 t3
        have hend : NextIs f room ws v (x + (k : Int)) true := .inl ⟨rfl, by rw [← HUB.out k t1]; exact t2, by omega, fun y h1 h2 => by
          by_cases hy : y < x
          · exact HNO.out y h1 hy
          · have h9 := HUB.out (y - x).toNat (by omega)
            rw [t3 _ (by omega)] at h9
            rw [h9]; congr 1; omega⟩
        have HEND : Hid (NextIs f room ws v (x + (k : Int)) true) := hend
        clear hend t2 t3 hk hu0
        go_wp2_with (first | (go_at_call 51; refine k1.mono ?_; clear k1; rintro e w1 ⟨rfl, n1, rfl⟩) | (go_at_call 58; refine (k2 _).mono ?_; clear k2; rintro e w1 ⟨rfl, n2, rfl⟩) | (go_at_call 71; refine (k3 _).mono ?_; clear k3; rintro e w1 ⟨rfl, rfl⟩))
        go_ret2
        exact ⟨⟨x + (k : Int), true, rfl, HEND.out⟩, _, rfl⟩
    · rw [fitB_no hfit] at k1
      have hend : NextIs f room ws v 0 false := .inr ⟨rfl, rfl, fun y h1 => by
        by_cases hy : y < x
        · exact HNO.out y h1 hy
        · unfold hasB; rw [fitB_no (by omega)]; rfl⟩
      have HEND : Hid (NextIs f room ws v 0 false) := hend
      clear hend hfit
      go_wp2_with (go_at_call 51; refine k1.mono ?_; clear k1; rintro e w1 ⟨rfl, n1, rfl⟩)
      go_ret2
      exact ⟨⟨0, false, rfl, HEND.out⟩, _, rfl⟩
set_option maxHeartbeats 400000 in
theorem next_nil (v : Int) (W : World) :
    Calls Tryd.prog 37 #[.pointer none, .int .i64 v] W fun e w' => e = .returned (.tuple #[.int .i64 0, .bool false]) ∧ w' = W := by
  go_enter Tryd.func37, Tryd.ntmps37
  go_wp2
  go_ret2
  exact ⟨rfl, rfl⟩
set_option maxHeartbeats 400000 in
theorem min_nil (W : World) :
    Calls Tryd.prog 35 #[.pointer none] W fun e w' => e = .returned (.tuple #[.int .i64 0, .bool false]) ∧ w' = W := by
  go_enter Tryd.func35, Tryd.ntmps35
  go_wp2_with (go_at_call 37; refine (next_nil _ _).mono ?_; rintro e w1 ⟨rfl, rfl⟩)
  go_ret2
  exact ⟨rfl, rfl⟩
set_option maxHeartbeats 400000 in
theorem max_nil (W : World) :
    Calls Tryd.prog 36 #[.pointer none] W fun e w' => e = .returned (.tuple #[.int .i64 0, .bool false]) ∧ w' = W := by
  go_enter Tryd.func36, Tryd.ntmps36
  go_wp2
  go_ret2
  exact ⟨rfl, rfl⟩
end Go.Proofs.YtgcgomofmicchaaDoor
