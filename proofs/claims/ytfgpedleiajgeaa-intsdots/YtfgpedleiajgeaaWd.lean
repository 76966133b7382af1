/-
  What is proved here: what math/bits.Mul64, ints.signWord and ints.product return: the product in three words.
-/
import Derived.Test.YtfgpedleiajgeaaWc
import Derived.Lib.Mul64
import Derived.Laws.Bits64b
namespace Go.Proofs.Ytfgpedleiajgeaa
open Go.RowKit Go.Lib

theorem maskN (a : Nat) (ha : a < 18446744073709551616) : bits .and .u64 (a : Int) 4294967295 = ((a % 4294967296 : Nat) : Int) := by
  have h := bits_and_u64_nat a 4294967295 ha (by omega)
  rw [show a &&& 4294967295 = a % 4294967296 from Nat.and_two_pow_sub_one_eq_mod a 32] at h
  exact h
theorem divN (a : Nat) : (a : Int) / 4294967296 = ((a / 4294967296 : Nat) : Int) := by omega
theorem mulN (a b : Nat) : (a : Int) * (b : Int) = ((a * b : Nat) : Int) := (Int.natCast_mul a b).symm
theorem addN (a b : Nat) : (a : Int) + (b : Int) = ((a + b : Nat) : Int) := (Int.natCast_add a b).symm
theorem wrapN (a : Nat) (ha : a < 18446744073709551616) : IntKind.u64.wrap (a : Int) = (a : Int) := by rw [IntKind.wrap_u64]; omega
theorem wrapM (a : Nat) : IntKind.u64.wrap (a : Int) = ((a % 18446744073709551616 : Nat) : Int) := by rw [IntKind.wrap_u64]; omega

set_option maxHeartbeats 1000000 in
theorem mul64_nat (x y : Nat) (hx : x < 18446744073709551616) (hy : y < 18446744073709551616) (w : World) :
    Calls Try.prog 47 #[.int .u64 x, .int .u64 y] w fun e w' => e = .returned (.tuple #[.int .u64 ((x * y / 18446744073709551616 : Nat) : Int), .int .u64 ((x * y % 18446744073709551616 : Nat) : Int)]) ∧ w' = w := by
  obtain ⟨bd, bt, bw, hhi⟩ := mul64_hi x y hx hy
  have ba := half_mul_le (a := x / 4294967296) (b := y / 4294967296) (by omega) (by omega)
  have bb := half_mul_le (a := x / 4294967296) (b := y % 4294967296) (by omega) (by omega)
  have bc := half_mul_le (a := x % 4294967296) (b := y / 4294967296) (by omega) (by omega)
  have ba' : x / 4294967296 * (y / 4294967296) < 18446744073709551616 := by omega
  have bb' : x / 4294967296 * (y % 4294967296) < 18446744073709551616 := by omega
  have bc' : x % 4294967296 * (y / 4294967296) < 18446744073709551616 := by omega
  have bh1 : x / 4294967296 * (y / 4294967296) + (x / 4294967296 * (y % 4294967296) + x % 4294967296 * (y % 4294967296) / 4294967296) / 4294967296 < 18446744073709551616 := by omega
  have bh : x / 4294967296 * (y / 4294967296) + (x / 4294967296 * (y % 4294967296) + x % 4294967296 * (y % 4294967296) / 4294967296) / 4294967296 + ((x / 4294967296 * (y % 4294967296) + x % 4294967296 * (y % 4294967296) / 4294967296) % 4294967296 + x % 4294967296 * (y / 4294967296)) / 4294967296 < 18446744073709551616 := by omega
  go_enter Try.func47, Try.ntmps47
  go_wp2
  simp only [maskN x hx, maskN y hy, divN, mulN, addN, wrapN _ bd, wrapN _ bb', wrapN _ bt, maskN _ bt, wrapN _ bc', wrapN _ bw, wrapN _ ba', wrapN _ bh1, wrapN _ bh, wrapM (x * y)]
  rw [hhi]
  go_ret2
  exact ⟨rfl, rfl⟩

theorem mul64_any (x y : Int) (w : World) (x0 : 0 ≤ x) (x1 : x < 18446744073709551616) (y0 : 0 ≤ y) (y1 : y < 18446744073709551616) :
    Calls Try.prog 47 #[.int .u64 x, .int .u64 y] w fun e w' => e = .returned (.tuple #[.int .u64 (x * y / 18446744073709551616), .int .u64 (x * y % 18446744073709551616)]) ∧ w' = w := by
  obtain ⟨m, rfl⟩ := Int.eq_ofNat_of_zero_le x0
  obtain ⟨n, rfl⟩ := Int.eq_ofNat_of_zero_le y0
  exact mul64_nat m n (by omega) (by omega) w

theorem sw_is {x : Int} (h0 : 0 ≤ x) (h1 : x < 18446744073709551616) : IntKind.u64.wrap (wrap64 x / 9223372036854775808) = sw x := by
  rw [IntKind.wrap_u64]; unfold sw wrap64; split <;> omega

set_option maxHeartbeats 400000 in
theorem sign_any (x : Int) (w : World) (h0 : 0 ≤ x) (h1 : x < 18446744073709551616) :
    Calls Try.prog 48 #[.int .u64 x] w fun e w' => e = .returned (.int .u64 (sw x)) ∧ w' = w := by
  have k := sw_is h0 h1
  have K : Hid (IntKind.u64.wrap (wrap64 x / 9223372036854775808) = sw x) := k
  clear k
  go_enter Try.func48, Try.ntmps48
  go_wp2
  go_ret
  exact ⟨congrArg (fun y => Ending.returned (.int .u64 y)) K.out, rfl⟩

theorem wrapI (x : Int) : IntKind.u64.wrap x = x % 18446744073709551616 := by rw [IntKind.wrap_u64]

set_option maxHeartbeats 400000 in
theorem prod_any (a b : Int) (w : World) (ha : Fits a) (hb : Fits b) :
    Calls Try.prog 39 #[.int .i64 a, .int .i64 b] w fun e w' => e = .returned (wide (a * b)) ∧ Below w.heap.size w w' := by
  have hpb := prod_bound ha hb
  have kS := sw_w1 hpb.1 hpb.2
  have kL := lo_is a b
  by_cases sa : a < 0
  · by_cases sb : b < 0
    · have kH := hi_nn ha hb sa sb
      go_enter Try.func39, Try.ntmps39
      go_wp2_with fail
      rw [wrapI, wrapI]
      refine (mul64_any _ _ _ (by omega) (by omega) (by omega) (by omega)).mono ?_
      rintro e w' ⟨rfl, rfl⟩
      go_wp2_with fail
      simp only [wrapI, kH]
      refine (sign_any _ _ (w1_in _).1 (w1_in _).2).mono ?_
      rintro e w' ⟨rfl, rfl⟩
      rw [kS]
      go_wp2
      exact bodyPost_ret (v := wide (a * b)) (by simp [results, Try.results39, go_sem, wide]) rfl ⟨rfl, (Below.refl _ _).alloc (Nat.le_refl _) _⟩
    · have kH := hi_np ha hb sa sb
      go_enter Try.func39, Try.ntmps39
      go_wp2_with fail
      rw [wrapI, wrapI]
      refine (mul64_any _ _ _ (by omega) (by omega) (by omega) (by omega)).mono ?_
      rintro e w' ⟨rfl, rfl⟩
      go_wp2_with fail
      simp only [wrapI, kH]
      refine (sign_any _ _ (w1_in _).1 (w1_in _).2).mono ?_
      rintro e w' ⟨rfl, rfl⟩
      rw [kS]
      go_wp2
      exact bodyPost_ret (v := wide (a * b)) (by simp [results, Try.results39, go_sem, wide]) rfl ⟨rfl, (Below.refl _ _).alloc (Nat.le_refl _) _⟩
  · by_cases sb : b < 0
    · have kH := hi_pn ha hb sa sb
      go_enter Try.func39, Try.ntmps39
      go_wp2_with fail
      rw [wrapI, wrapI]
      refine (mul64_any _ _ _ (by omega) (by omega) (by omega) (by omega)).mono ?_
      rintro e w' ⟨rfl, rfl⟩
      go_wp2_with fail
      simp only [wrapI, kH]
      refine (sign_any _ _ (w1_in _).1 (w1_in _).2).mono ?_
      rintro e w' ⟨rfl, rfl⟩
      rw [kS]
      go_wp2
      exact bodyPost_ret (v := wide (a * b)) (by simp [results, Try.results39, go_sem, wide]) rfl ⟨rfl, (Below.refl _ _).alloc (Nat.le_refl _) _⟩
    · have kH := hi_pp ha hb sa sb
      go_enter Try.func39, Try.ntmps39
      go_wp2_with fail
      rw [wrapI, wrapI]
      refine (mul64_any _ _ _ (by omega) (by omega) (by omega) (by omega)).mono ?_
      rintro e w' ⟨rfl, rfl⟩
      go_wp2_with fail
      try simp only [wrapI, kH]
      refine (sign_any _ _ (w1_in _).1 (w1_in _).2).mono ?_
      rintro e w' ⟨rfl, rfl⟩
      rw [kS]
      go_wp2
      exact bodyPost_ret (v := wide (a * b)) (by simp [results, Try.results39, go_sem, wide]) rfl ⟨rfl, (Below.refl _ _).alloc (Nat.le_refl _) _⟩

end Go.Proofs.Ytfgpedleiajgeaa
