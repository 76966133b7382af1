/-
  What is proved here: plain mathematics of counting bits lane by lane.
-/
import Derived.Test.YtgcgomofmicchaaDoorMath
namespace Go.Proofs.YtgcgomofmicchaaDoor

/-- How many of the first n bits are set. -/
def cnt : Nat → Nat → Nat
  | 0, _ => 0
  | n + 1, x => x % 2 + cnt n (x / 2)
def lane1 : Nat → Nat → Nat
  | 0, _ => 0
  | k + 1, x => (x % 4 / 2 + x % 2) + 4 * lane1 k (x / 4)
def lane2 : Nat → Nat → Nat
  | 0, _ => 0
  | k + 1, x => (x % 16 / 4 + x % 4) + 16 * lane2 k (x / 16)
def lane3 : Nat → Nat → Nat
  | 0, _ => 0
  | k + 1, x => (x % 256 / 16 + x % 16) + 256 * lane3 k (x / 256)
def mask (b m : Nat) : Nat → Nat
  | 0 => 0
  | k + 1 => m + b * mask b m k
theorem and_lane (w : Nat) (u v m n : Nat) (hu : u < 2 ^ w) (hm : m < 2 ^ w) : (u + 2 ^ w * v) &&& (m + 2 ^ w * n) = (u &&& m) + 2 ^ w * (v &&& n) := by
  have hum : u &&& m < 2 ^ w := Nat.lt_of_le_of_lt Nat.and_le_left hu
  apply Nat.eq_of_testBit_eq
  intro i
  rw [Nat.testBit_and, Nat.add_comm u, Nat.add_comm m, Nat.add_comm (u &&& m), Nat.testBit_two_pow_mul_add _ hu, Nat.testBit_two_pow_mul_add _ hm, Nat.testBit_two_pow_mul_add _ hum]
  split <;> simp [Nat.testBit_and]
theorem step1 (k x : Nat) : (x / 2 &&& mask 4 1 k) + (x &&& mask 4 1 k) = lane1 k x := by
  induction k generalizing x with
  | zero => simp [mask, lane1]
  | succ k ih =>
    unfold lane1 mask
    have h1 := and_lane 2 ((x / 2) % 4) (x / 2 / 4) 1 (mask 4 1 k) (by omega) (by decide)
    have h2 := and_lane 2 (x % 4) (x / 4) 1 (mask 4 1 k) (by omega) (by decide)
    rw [show (x / 2) % 4 + 2 ^ 2 * (x / 2 / 4) = x / 2 by omega, show (2 : Nat) ^ 2 = 4 by decide] at h1
    rw [show x % 4 + 2 ^ 2 * (x / 4) = x by omega, show (2 : Nat) ^ 2 = 4 by decide] at h2
    rw [h1, h2, Nat.and_one_is_mod, Nat.and_one_is_mod, ← ih (x / 4), show x / 4 / 2 = x / 2 / 4 by omega]
    omega
theorem step2 (k x : Nat) : (x / 4 &&& mask 16 3 k) + (x &&& mask 16 3 k) = lane2 k x := by
  induction k generalizing x with
  | zero => simp [mask, lane2]
  | succ k ih =>
    unfold lane2 mask
    have h1 := and_lane 4 ((x / 4) % 16) (x / 4 / 16) 3 (mask 16 3 k) (by omega) (by decide)
    have h2 := and_lane 4 (x % 16) (x / 16) 3 (mask 16 3 k) (by omega) (by decide)
    rw [show (x / 4) % 16 + 2 ^ 4 * (x / 4 / 16) = x / 4 by omega, show (2 : Nat) ^ 4 = 16 by decide] at h1
    rw [show x % 16 + 2 ^ 4 * (x / 16) = x by omega, show (2 : Nat) ^ 4 = 16 by decide] at h2
    have e3 : ∀ y, y &&& 3 = y % 4 := fun y => Nat.and_two_pow_sub_one_eq_mod y 2
    rw [h1, h2, e3, e3, ← ih (x / 16), show x / 16 / 4 = x / 4 / 16 by omega]
    omega
/-- Every nibble is at most 4. -/
def Small : Nat → Nat → Prop
  | 0, x => x = 0
  | k + 1, x => x % 16 ≤ 4 ∧ x % 256 / 16 ≤ 4 ∧ Small k (x / 256)
theorem step3 (k x : Nat) (h : Small k x) : (x / 16 + x) &&& mask 256 15 k = lane3 k x := by
  induction k generalizing x with
  | zero => simp [mask, lane3]
  | succ k ih =>
    obtain ⟨h1, h2, h3⟩ := h
    unfold lane3 mask
    have hn : x / 256 % 16 ≤ 4 := by
      cases k with
      | zero => have : x / 256 = 0 := h3
                omega
      | succ k => exact h3.1
    have h4 := and_lane 8 ((x / 16 + x) % 256) ((x / 16 + x) / 256) 15 (mask 256 15 k) (by omega) (by decide)
    rw [show (x / 16 + x) % 256 + 2 ^ 8 * ((x / 16 + x) / 256) = x / 16 + x by omega, show (2 : Nat) ^ 8 = 256 by decide] at h4
    have e3 : ∀ y, y &&& 15 = y % 16 := fun y => Nat.and_two_pow_sub_one_eq_mod y 4
    rw [h4, e3, ← ih (x / 256) h3]
    have e5 : (x / 16 + x) / 256 = x / 256 / 16 + x / 256 := by omega
    rw [e5]
    omega
theorem lane1_split (k x : Nat) : lane1 (k + 4) x = lane1 4 (x % 256) + 256 * lane1 k (x / 256) := by
  simp only [lane1]
  have : x / 4 / 4 / 4 / 4 = x / 256 := by omega
  rw [this]
  omega
theorem lane2_split (k x : Nat) : lane2 (k + 2) x = lane2 2 (x % 256) + 256 * lane2 k (x / 256) := by
  simp only [lane2]
  have : x / 16 / 16 = x / 256 := by omega
  rw [this]
  omega
theorem lane1_lt (b : Nat) : lane1 4 b < 256 := by simp only [lane1]; omega
theorem lane2_lt (b : Nat) : lane2 2 b < 256 := by simp only [lane2]; omega
theorem byte_is : ∀ b, b < 256 → (lane2 2 (lane1 4 b)) % 256 / 16 + (lane2 2 (lane1 4 b)) % 16 = cnt 8 b ∧ (lane2 2 (lane1 4 b)) % 16 ≤ 4 ∧ (lane2 2 (lane1 4 b)) % 256 / 16 ≤ 4 := by decide +kernel
/-- The bytes' counts, side by side. -/
def sums : Nat → Nat → Nat
  | 0, _ => 0
  | k + 1, x => cnt 8 (x % 256) + 256 * sums k (x / 256)
theorem lanes_next (k x : Nat) : lane2 (2 * k + 2) (lane1 (4 * k + 4) x) = lane2 2 (lane1 4 (x % 256)) + 256 * lane2 (2 * k) (lane1 (4 * k) (x / 256)) := by
  have h := lane1_lt (x % 256)
  rw [lane1_split, lane2_split]
  have e1 : (lane1 4 (x % 256) + 256 * lane1 (4 * k) (x / 256)) % 256 = lane1 4 (x % 256) := by omega
  have e2 : (lane1 4 (x % 256) + 256 * lane1 (4 * k) (x / 256)) / 256 = lane1 (4 * k) (x / 256) := by omega
  rw [e1, e2]
theorem lanes_small (k x : Nat) : Small k (lane2 (2 * k) (lane1 (4 * k) x)) := by
  induction k generalizing x with
  | zero => rfl
  | succ k ih =>
    have hb := byte_is (x % 256) (by omega)
    have hl := lane2_lt (lane1 4 (x % 256))
    rw [show 2 * (k + 1) = 2 * k + 2 by omega, show 4 * (k + 1) = 4 * k + 4 by omega, lanes_next]
    have hi' := ih (x / 256)
    generalize lane2 2 (lane1 4 (x % 256)) = A at *
    generalize lane2 (2 * k) (lane1 (4 * k) (x / 256)) = R at *
    obtain ⟨_, hb1, hb2⟩ := hb
    refine ⟨by omega, by omega, ?_⟩
    rw [show (A + 256 * R) / 256 = R by omega]; exact hi'
theorem lanes_sum (k x : Nat) : lane3 k (lane2 (2 * k) (lane1 (4 * k) x)) = sums k x := by
  induction k generalizing x with
  | zero => rfl
  | succ k ih =>
    have hb := byte_is (x % 256) (by omega)
    have hl := lane2_lt (lane1 4 (x % 256))
    rw [show 2 * (k + 1) = 2 * k + 2 by omega, show 4 * (k + 1) = 4 * k + 4 by omega, lanes_next]
    show (_ % 256 / 16 + _ % 16) + 256 * lane3 k (_ / 256) = cnt 8 (x % 256) + 256 * sums k (x / 256)
    have hi' := ih (x / 256)
    generalize lane2 2 (lane1 4 (x % 256)) = A at *
    generalize lane2 (2 * k) (lane1 (4 * k) (x / 256)) = R at *
    obtain ⟨hb0, _, _⟩ := hb
    rw [show (A + 256 * R) / 256 = R by omega, hi', ← hb0]
    omega
theorem cnt_le (n x : Nat) : cnt n x ≤ n := by
  induction n generalizing x with
  | zero => simp [cnt]
  | succ n ih => unfold cnt; have := ih (x / 2); omega
theorem cnt_add (m n x : Nat) : cnt (m + n) x = cnt m x + cnt n (x / 2 ^ m) := by
  induction m generalizing x with
  | zero => simp [cnt]
  | succ m ih =>
    rw [show m + 1 + n = (m + n) + 1 by omega]
    show x % 2 + cnt (m + n) (x / 2) = x % 2 + cnt m (x / 2) + cnt n (x / 2 ^ (m + 1))
    rw [ih, Nat.div_div_eq_div_mul, ← Nat.pow_succ']
    show _ = x % 2 + cnt m (x / 2) + cnt n (x / 2 ^ m.succ)
    omega
theorem cnt_mod (n m x : Nat) (h : n ≤ m) : cnt n (x % 2 ^ m) = cnt n x := by
  induction n generalizing x m with
  | zero => rfl
  | succ n ih =>
    unfold cnt
    obtain ⟨m', rfl⟩ : ∃ m', m = m' + 1 := ⟨m - 1, by omega⟩
    have e1 : x % 2 ^ (m' + 1) % 2 = x % 2 := Nat.mod_mod_of_dvd x ⟨2 ^ m', by rw [Nat.pow_succ]; omega⟩
    have e2 : x % 2 ^ (m' + 1) / 2 = x / 2 % 2 ^ m' := by
      rw [Nat.pow_succ, Nat.mul_comm, Nat.mod_mul]
      omega
    rw [e1, e2, ih m' (x / 2) (by omega)]
/-- The last three steps add the bytes. -/
theorem add_up (x : Nat) : (let y := sums 8 x; let a := y + y / 256; let b := a + a / 65536; let c := b + b / 4294967296; c % 128) = cnt 64 x := by
  have h0 := cnt_le 8 (x % 256)
  have h1 := cnt_le 8 (x / 256 % 256)
  have h2 := cnt_le 8 (x / 256 / 256 % 256)
  have h3 := cnt_le 8 (x / 256 / 256 / 256 % 256)
  have h4 := cnt_le 8 (x / 256 / 256 / 256 / 256 % 256)
  have h5 := cnt_le 8 (x / 256 / 256 / 256 / 256 / 256 % 256)
  have h6 := cnt_le 8 (x / 256 / 256 / 256 / 256 / 256 / 256 % 256)
  have h7 := cnt_le 8 (x / 256 / 256 / 256 / 256 / 256 / 256 / 256 % 256)
  have hs : cnt 64 x = cnt 8 (x % 256) + cnt 8 (x / 256 % 256) + cnt 8 (x / 256 / 256 % 256) + cnt 8 (x / 256 / 256 / 256 % 256) + cnt 8 (x / 256 / 256 / 256 / 256 % 256) + cnt 8 (x / 256 / 256 / 256 / 256 / 256 % 256) + cnt 8 (x / 256 / 256 / 256 / 256 / 256 / 256 % 256) + cnt 8 (x / 256 / 256 / 256 / 256 / 256 / 256 / 256 % 256) := by
    have hm : ∀ y, cnt 8 (y % 256) = cnt 8 y := fun y => cnt_mod 8 8 y (Nat.le_refl _)
    have ha : ∀ n y, cnt (8 + n) y = cnt 8 y + cnt n (y / 256) := fun n y => cnt_add 8 n y
    simp only [hm]
    rw [show (64 : Nat) = 8 + (8 + (8 + (8 + (8 + (8 + (8 + 8)))))) from rfl, ha, ha, ha, ha, ha, ha, ha]
    omega
  rw [hs]
  simp only [sums]
  generalize cnt 8 (x % 256) = d0 at *
  generalize cnt 8 (x / 256 % 256) = d1 at *
  generalize cnt 8 (x / 256 / 256 % 256) = d2 at *
  generalize cnt 8 (x / 256 / 256 / 256 % 256) = d3 at *
  generalize cnt 8 (x / 256 / 256 / 256 / 256 % 256) = d4 at *
  generalize cnt 8 (x / 256 / 256 / 256 / 256 / 256 % 256) = d5 at *
  generalize cnt 8 (x / 256 / 256 / 256 / 256 / 256 / 256 % 256) = d6 at *
  generalize cnt 8 (x / 256 / 256 / 256 / 256 / 256 / 256 / 256 % 256) = d7 at *
  clear hs
  obtain ⟨y, hy⟩ : ∃ y, d0 + 256 * (d1 + 256 * (d2 + 256 * (d3 + 256 * (d4 + 256 * (d5 + 256 * (d6 + 256 * d7)))))) = y := ⟨_, rfl⟩
  have hy' : d0 + 256 * (d1 + 256 * (d2 + 256 * (d3 + 256 * (d4 + 256 * (d5 + 256 * (d6 + 256 * (d7 + 256 * 0))))))) = y := by omega
  rw [hy']
  have e1 : y / 256 = d1 + 256 * (d2 + 256 * (d3 + 256 * (d4 + 256 * (d5 + 256 * (d6 + 256 * d7))))) := by omega
  obtain ⟨a, ha⟩ : ∃ a, y + y / 256 = a := ⟨_, rfl⟩
  rw [ha]
  have ea : a = (d0 + d1) + 256 * ((d1 + d2) + 256 * ((d2 + d3) + 256 * ((d3 + d4) + 256 * ((d4 + d5) + 256 * ((d5 + d6) + 256 * ((d6 + d7) + 256 * d7)))))) := by omega
  clear hy hy' e1 ha
  have e2 : a / 65536 = (d2 + d3) + 256 * ((d3 + d4) + 256 * ((d4 + d5) + 256 * ((d5 + d6) + 256 * ((d6 + d7) + 256 * d7)))) := by omega
  obtain ⟨b, hb⟩ : ∃ b, a + a / 65536 = b := ⟨_, rfl⟩
  rw [hb]
  obtain ⟨u, hu⟩ : ∃ u, (d1 + d2 + d3 + d4) + 256 * ((d2 + d3 + d4 + d5) + 256 * (d3 + d4 + d5 + d6)) = u := ⟨_, rfl⟩
  have eb : b = (d0 + d1 + d2 + d3) + 256 * (u + 16777216 * ((d4 + d5 + d6 + d7) + 256 * ((d5 + d6 + d7) + 256 * ((d6 + d7) + 256 * d7)))) := by omega
  clear ea e2 hb
  have e3 : b / 4294967296 = (d4 + d5 + d6 + d7) + 256 * ((d5 + d6 + d7) + 256 * ((d6 + d7) + 256 * d7)) := by omega
  rw [e3]
  omega
end Go.Proofs.YtgcgomofmicchaaDoor
