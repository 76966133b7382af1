/-
  What is proved here: The reference: how many elements dimensions have; names that stand twice.
-/
import Derived.Test.YtdnhhmnllhlbbaaGreatDoorQa
import Derived.Test.YtdnhhmnllhlbbaaGreatDoorCEcj
import Derived.Test.YtdnhhmnllhlbbaaGreatDoorOe
import Derived.Maps.Views
namespace Go.Proofs.YtdnhhmnllhlbbaaGreatDoor
open Go.RowKit Go.Shelf
set_option linter.unusedVariables false
set_option linter.unusedSimpArgs false
theorem cap_mul {C x r : Int} (hC : 0 ≤ C) (hx : 0 ≤ x) (hr : 0 ≤ r) : min C (min C x * r) = min C (x * r) := by
  rcases Int.lt_or_le C x with h | h
  · rw [Int.min_eq_left (Int.le_of_lt h)]
    rcases Int.lt_or_le 0 r with h0 | h0
    · have h1 : C * 1 ≤ C * r := Int.mul_le_mul_of_nonneg_left (by omega) hC
      have h2 : C * r ≤ x * r := Int.mul_le_mul_of_nonneg_right (Int.le_of_lt h) hr
      rw [Int.min_eq_left (by omega), Int.min_eq_left (by omega)]
    · obtain rfl : r = 0 := by omega
      simp
  · rw [Int.min_eq_right h]
/-- How many values a range has. -/
def one0 (r : Int × Int) : Int := max 0 (r.2 - r.1 + 1)
theorem one0_nn (r : Int × Int) : 0 ≤ one0 r := by unfold one0; omega
/-- The true product. -/
def tprod : List (Int × Int) → Int
  | [] => 1
  | r :: l => one0 r * tprod l
theorem tprod_nn : ∀ l, 0 ≤ tprod l
  | [] => by simp [tprod]
  | r :: l => Int.mul_nonneg (one0_nn r) (tprod_nn l)
/-- The reference's product. -/
def sizeM : List (Int × Int) → Int → Int
  | [], acc => acc
  | r :: l, acc => sizeM l (min 1099511627776 (acc * one0 r))
theorem sizeM_is : ∀ (l : List (Int × Int)) (acc : Int), 0 ≤ acc → acc ≤ 1099511627776 → sizeM l acc = min 1099511627776 (acc * tprod l)
  | [], acc, h0, h1 => by simp only [sizeM, tprod, Int.mul_one]; omega
  | r :: l, acc, h0, h1 => by
    have hn := Int.mul_nonneg h0 (one0_nn r)
    rw [sizeM, sizeM_is l _ (by omega) (by omega), cap_mul (by decide) hn (tprod_nn l), tprod, Int.mul_assoc]
theorem prodM_is : ∀ (l : List (Int × Int)) (most acc : Int), 0 ≤ acc → acc ≤ most → prodM l most acc = min most (acc * tprod l)
  | [], most, acc, h0, h1 => by simp only [prodM, tprod, Int.mul_one]; omega
  | (lo, hi) :: l, most, acc, h0, h1 => by
    rw [prodM, tprod]
    by_cases h : hi < lo
    · rw [if_pos h]
      have : one0 (lo, hi) = 0 := by unfold one0; simp only; omega
      rw [this]
      simp
      omega
    · rw [if_neg h]
      have : one0 (lo, hi) = hi - lo + 1 := by unfold one0; simp only; omega
      have hn := Int.mul_nonneg h0 (one0_nn (lo, hi))
      rw [← this, prodM_is l most _ (by omega) (by omega), cap_mul (by omega) hn (tprod_nn l), Int.mul_assoc]
theorem size_prod (l : List (Int × Int)) (n : Nat) (hn : n ≤ 1000000000) : (sizeM l 1 = (n : Int)) ↔ (prodM l ((n : Int) + 1) 1 = (n : Int)) := by
  rw [sizeM_is l 1 (by decide) (by decide), prodM_is l _ 1 (by decide) (by omega)]
  omega
theorem sizeM_step {l : List (Int × Int)} {k : Nat} {x : Int × Int} (hx : l[k]? = some x) (acc : Int) : sizeM (l.drop k) acc = sizeM (l.drop (k + 1)) (min 1099511627776 (acc * one0 x)) := by
  have hk := (List.getElem?_eq_some_iff.1 hx).1
  rw [List.drop_eq_getElem_cons hk, (List.getElem?_eq_some_iff.1 hx).2]
  rfl

set_option maxRecDepth 100000 in
set_option maxHeartbeats 4000000 in
theorem rsize66 {W : World} {a : Option Addr} {n c : Nat} {l : List (Int × Int)} (h : Rgs W (.slice a n c) l) (hlen : l.length = n) (hn : n ≤ 1000) (hb : ∀ x ∈ l, -1000000 ≤ x.1 ∧ x.1 ≤ 1000000 ∧ -1000000 ≤ x.2 ∧ x.2 ≤ 1000000) :
    Calls Tryz.prog 66 #[.slice a n c] W fun e w' => e = .returned (.int .i64 (sizeM l 1)) ∧ Below W.heap.size W w' := by
  have HA := hid h
  have HN := hid hlen
  have HL := hid hb
  obtain ⟨r, hr⟩ : ∃ r, sizeM l 1 = r := ⟨_, rfl⟩
  have HR : Hid (sizeM (l.drop 0) 1 = r) := hr
  rw [hr]
  clear h hlen hb hr
  go_enter Tryz.func66, Tryz.ntmps66
  go_wp2
  go_loopw [3, 4, 5] (fun t3 i t5 wr => ∃ (k : Nat) (acc : Int), i = .int .i64 (k : Int) ∧ k ≤ n ∧ t3 = .int .i64 acc ∧ 0 ≤ acc ∧ acc ≤ 1099511627776 ∧ Hid (sizeM (l.drop k) acc = r) ∧ Hid (Below W.heap.size W wr)) (fun _ i _ _ => n - (intOf i).toNat)
  case atStart => exact ⟨0, 1, rfl, Nat.zero_le _, rfl, by decide, by decide, HR, Below.refl _ _⟩
  case round =>
    obtain ⟨k, acc, rfl, hk, rfl, ha0, ha1, HS, HB⟩ := hrel
    by_cases hlt : k < n
    · have hlt' : (k : Int) < n := by omega
      obtain ⟨x, hx⟩ : ∃ x, l[k]? = some x := ⟨_, List.getElem?_eq_getElem (by rw [HN.out]; exact hlt)⟩
      obtain ⟨b, off, rfl, hb, d1, d2⟩ := HA.out.at hx
      have y1 := (HB.out.cell (p := ⟨b, off + k * 2, none⟩) hb).trans d1
      have y2 := (HB.out.cell (p := ⟨b, off + k * 2 + 1, none⟩) hb).trans d2
      obtain ⟨lb1, lb2, lb3, lb4⟩ := HL.out x (List.mem_of_getElem? hx)
      have hst := sizeM_step hx acc
      rw [HS.out] at hst
      obtain ⟨lo, hi⟩ := x
      simp only at y1 y2 lb1 lb2 lb3 lb4
      have HST := hid hst
      have hwk : IntKind.i64.wrap ((k : Int) + 1) = (k : Int) + 1 := by rw [IntKind.wrap_i64]; omega
      have hw1 : IntKind.i64.wrap (hi - lo) = hi - lo := by rw [IntKind.wrap_i64]; omega
      have hw2 : IntKind.i64.wrap (hi - lo + 1) = hi - lo + 1 := by rw [IntKind.wrap_i64]; omega
      clear hx hst d1 d2 hb
      by_cases hneg : hi - lo + 1 < 0
      · have hone : Hid (one0 (lo, hi) = 0) := by unfold Hid one0; simp only; omega
        have hww : IntKind.i64.wrap (acc * 0) = 0 := by rw [Int.mul_zero]; rfl
        have HST2 : Hid (sizeM (l.drop (k + 1)) 0 = r) := by have := HST.out; rw [hone.out, Int.mul_zero] at this; exact this.symm
        clear lb1 lb2 lb3 lb4 ha0 ha1
        go_wp2
        go_quiet (fail)
        go_wp2
        go_roundw
        case rel => exact ⟨k + 1, 0, by go_num, by omega, by first | rfl | simp, by decide, by decide, HST2, below_drewN HB.out _⟩
        case measure => simp [intOf]; omega
      · have hone : Hid (one0 (lo, hi) = hi - lo + 1) := by unfold Hid one0; simp only; omega
        obtain ⟨m, hm⟩ : ∃ m, hi - lo + 1 = m := ⟨_, rfl⟩
        have hm0 : 0 ≤ m := by omega
        have hm1 : m ≤ 2000001 := by omega
        have hp0 : 0 ≤ acc * m := Int.mul_nonneg ha0 hm0
        have hp1 : acc * m ≤ 1099511627776 * 2000001 := Int.mul_le_mul ha1 hm1 hm0 (by decide)
        have hww : IntKind.i64.wrap (acc * m) = acc * m := by rw [IntKind.wrap_i64]; omega
        have HST2 : Hid (sizeM (l.drop (k + 1)) (min 1099511627776 (acc * m)) = r) := by have := HST.out; rw [hone.out, hm] at this; exact this.symm
        obtain ⟨q, hq⟩ : ∃ q, acc * m = q := ⟨_, rfl⟩
        rw [hq] at hp0 hp1 hww HST2
        have hqe : IntKind.i64.wrap (acc * m) = q := by rw [hq]; exact hww
        have hv1 : wrap64 (hi - lo + 1) = m := by unfold wrap64; omega
        have hv2 : IntKind.i64.wrap (hi - lo + 1) = m := by rw [IntKind.wrap_i64]; omega
        have hv3 : wrap64 (acc * m) = q := by rw [hq]; unfold wrap64; omega
        have hneg2 : ¬ m < 0 := by omega
        clear lb1 lb2 lb3 lb4 ha0 ha1 hm hq hww hone HST hneg hw2
        by_cases hbig : 1099511627776 < q
        · have HST3 : Hid (sizeM (l.drop (k + 1)) 1099511627776 = r) := by have := HST2.out; rw [Int.min_eq_left (by omega)] at this; exact this
          go_wp2
          go_quiet (fail)
          go_wp2
          go_roundw
          case rel => exact ⟨k + 1, 1099511627776, by go_num, by omega, rfl, by decide, by decide, HST3, below_drewN HB.out _⟩
          case measure => simp [intOf]; omega
        · have HST3 : Hid (sizeM (l.drop (k + 1)) q = r) := by have := HST2.out; rw [Int.min_eq_right (by omega)] at this; exact this
          go_wp2
          go_quiet (fail)
          go_wp2
          go_roundw
          case rel => exact ⟨k + 1, q, by go_num, by omega, rfl, hp0, by omega, HST3, below_drewN HB.out _⟩
          case measure => simp [intOf]; omega
    · have hkn : k = n := by omega
      have hlt' : ¬ (k : Int) < n := by omega
      have HF : Hid (acc = r) := by have := HS.out; rw [List.drop_eq_nil_of_le (by rw [HN.out]; omega)] at this; exact this
      go_wp2
      go_ret
      exact ⟨by show Ending.returned (Value.int .i64 acc) = _; rw [HF.out], HB.out⟩
end Go.Proofs.YtdnhhmnllhlbbaaGreatDoor
