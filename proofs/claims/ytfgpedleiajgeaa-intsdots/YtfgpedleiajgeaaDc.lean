/-
  What is proved here: what (wide).plus and ints.Dot return: the sum of the products, or that it is beyond 64 bits.
-/
import Derived.Test.YtfgpedleiajgeaaDb
import Derived.Deep.RegionWith
namespace Go.Proofs.Ytfgpedleiajgeaa
open Go.RowKit

theorem add64 (x y c : Int) (hx : 0 ≤ x) (hy : 0 ≤ y) (hc0 : 0 ≤ c) (hc : c ≤ 1) (w : World) : (callFunc 50 #[.int .u64 x, .int .u64 y, .int .u64 c]).run Try.prog w =
    .ok (.value (.tuple #[.int .u64 ((x + y + c) % 18446744073709551616), .int .u64 ((x + y + c) / 18446744073709551616)])) w := by
  rw [run_callFunc_extern Try.func50 (by kernel_rfl) (by kernel_rfl) (by kernel_rfl) (e := add64Entry) (by kernel_rfl), run_add64 x y c hx hy hc0 hc]
  rfl
theorem add64_0 (x y : Int) (hx : 0 ≤ x) (hy : 0 ≤ y) (w : World) : (callFunc 50 #[.int .u64 x, .int .u64 y, .int .u64 0]).run Try.prog w =
    .ok (.value (.tuple #[.int .u64 ((x + y) % 18446744073709551616), .int .u64 ((x + y) / 18446744073709551616)])) w := by
  simpa using add64 x y 0 hx hy (Int.le_refl 0) (by decide) w

theorem plus_w0 (x y : Int) : (w0 x + w0 y) % 18446744073709551616 = w0 (x + y) := by unfold w0; omega
theorem plus_w1 (x y : Int) : (w1 x + w1 y + (w0 x + w0 y) / 18446744073709551616) % 18446744073709551616 = w1 (x + y) := by unfold w1 w0; omega
theorem w2_eq (x : Int) : w2 x = x / 18446744073709551616 / 18446744073709551616 % 18446744073709551616 := by
  unfold w2; rw [Int.ediv_ediv_of_nonneg (by decide)]; rfl
theorem plus_w2 (x y : Int) : (w2 x + w2 y + (w1 x + w1 y + (w0 x + w0 y) / 18446744073709551616) / 18446744073709551616) % 18446744073709551616 = w2 (x + y) := by
  rw [w2_eq, w2_eq, w2_eq]; unfold w1 w0; omega

set_option maxHeartbeats 1000000 in
theorem wplus_any (x y : Int) (w : World) :
    Calls Try.prog 43 #[wide x, wide y] w fun e w' => e = .returned (wide (x + y)) ∧ Below w.heap.size w w' := by
  have k0 := plus_w0 x y; have k1 := plus_w1 x y; have k2 := plus_w2 x y
  have a0 := w0_in x; have a1 := w1_in x; have a2 := w2_in x
  have b0 := w0_in y; have b1 := w1_in y; have b2 := w2_in y
  unfold wide
  generalize w0 x = x0 at *
  generalize w1 x = x1 at *
  generalize w2 x = x2 at *
  generalize w0 y = y0 at *
  generalize w1 y = y1 at *
  generalize w2 y = y2 at *
  have K0 : Hid (_ = _) := k0; have K1 : Hid (_ = _) := k1; have K2 : Hid (_ = _) := k2
  clear k0 k1 k2
  have d0 : 0 ≤ (x0 + y0) / 18446744073709551616 := by omega
  have d1 : (x0 + y0) / 18446744073709551616 ≤ 1 := by omega
  have d2 : 0 ≤ (x1 + y1 + (x0 + y0) / 18446744073709551616) / 18446744073709551616 := by omega
  have d3 : (x1 + y1 + (x0 + y0) / 18446744073709551616) / 18446744073709551616 ≤ 1 := by omega
  go_enter Try.func43, Try.ntmps43
  go_wp2_with (first | simp only [add64_0 x0 y0 a0.1 b0.1] | simp only [add64 x1 y1 _ a1.1 b1.1 d0 d1] | simp only [add64 x2 y2 _ a2.1 b2.1 d2 d3])
  simp only [K0.out, K1.out, K2.out]
  exact bodyPost_ret (v := .agg #[.int .u64 (w0 (x + y)), .int .u64 (w1 (x + y)), .int .u64 (w2 (x + y))]) (by simp [results, Try.results43, go_sem]) rfl ⟨rfl, (((Below.refl _ _).alloc (Nat.le_refl _) _).alloc (by simp) _).alloc (by simp; omega) _⟩

/-- The sum of the products of each two. -/
def dotS : List Int → List Int → Int
  | x :: xs, y :: ys => x * y + dotS xs ys
  | _, _ => 0
theorem dotS_snoc (xs ys : List Int) (x y : Int) (h : xs.length = ys.length) : dotS (xs ++ [x]) (ys ++ [y]) = dotS xs ys + x * y := by
  induction xs generalizing ys with
  | nil => cases ys with
    | nil => simp [dotS]
    | cons _ _ => simp at h
  | cons a xs ih => cases ys with
    | nil => simp at h
    | cons b ys => simp [dotS, ih ys (by simpa using h)]; omega
theorem dotS_take (xs ys : List Int) (h : xs.length = ys.length) (k : Nat) (hk : k < xs.length) : dotS (xs.take (k + 1)) (ys.take (k + 1)) = dotS (xs.take k) (ys.take k) + xs[k]?.getD 0 * ys[k]?.getD 0 := by
  rw [List.take_succ_eq_append_getElem hk, List.take_succ_eq_append_getElem (by omega : k < ys.length), dotS_snoc _ _ _ _ (by simp; omega), List.getElem?_eq_getElem hk, List.getElem?_eq_getElem (by omega : k < ys.length)]
  rfl
def FitsAll (ds : List Int) : Prop := ∀ d ∈ ds, Fits d
theorem fits_at {ds : List Int} (h : FitsAll ds) (k : Nat) : Fits (ds[k]?.getD 0) := by
  by_cases hk : k < ds.length
  · rw [List.getElem?_eq_getElem hk]; exact h _ (List.getElem_mem hk)
  · rw [List.getElem?_eq_none (by omega)]; exact fits0
theorem dotS_bound (xs ys : List Int) (h : xs.length = ys.length) (hx : FitsAll xs) (hy : FitsAll ys) (k : Nat) (hk : k ≤ xs.length) :
    -(85070591730234615865843651857942052864 * (k : Int)) ≤ dotS (xs.take k) (ys.take k) ∧ dotS (xs.take k) (ys.take k) ≤ 85070591730234615865843651857942052864 * (k : Int) := by
  induction k with
  | zero => simp [dotS]
  | succ k ih =>
    have h1 := ih (by omega)
    have h2 := prod_bound (fits_at hx k) (fits_at hy k)
    rw [dotS_take xs ys h k (by omega)]
    generalize xs[k]?.getD 0 * ys[k]?.getD 0 = p at *
    generalize dotS (xs.take k) (ys.take k) = q at *
    omega
end Go.Proofs.Ytfgpedleiajgeaa
