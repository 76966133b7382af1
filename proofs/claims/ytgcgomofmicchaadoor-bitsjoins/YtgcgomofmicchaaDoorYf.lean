/-
  What is proved here: what math/bits.OnesCount64 and Size return.
-/
import Derived.Test.YtgcgomofmicchaaDoorYd
import Derived.Test.YtgcgomofmicchaaDoorMc
namespace Go.Proofs.YtgcgomofmicchaaDoor
open Go.RowKit Go.Shelf

theorem and127_i64 (n : Int) : bits .and .i64 n 127 = n % 128 := by
  have h1 : (BitVec.ofInt 64 127).toNat = 2 ^ 7 - 1 := by decide
  have key : (BitVec.ofInt 64 n &&& BitVec.ofInt 64 127).toNat = (n % ((2 ^ 64 : Nat) : Int)).toNat % 2 ^ 7 := by
    rw [BitVec.toNat_and, BitVec.toNat_ofInt, h1, Nat.and_two_pow_sub_one_eq_mod]
  show IntKind.i64.wrap ((BitVec.ofInt 64 n &&& BitVec.ofInt 64 127).toNat : Nat) = n % 128
  rw [key, IntKind.wrap_i64]
  omega
theorem lane1_bd (k x : Nat) : lane1 k x < 4 ^ k := by
  induction k generalizing x with
  | zero => simp [lane1]
  | succ k ih => unfold lane1; have := ih (x / 4); rw [Nat.pow_succ]; omega
theorem lane2_bd (k x : Nat) : lane2 k x < 16 ^ k := by
  induction k generalizing x with
  | zero => simp [lane2]
  | succ k ih => unfold lane2; have := ih (x / 16); rw [Nat.pow_succ]; omega
theorem small_bd (k x : Nat) (h : Small k x) : x / 16 + x < 256 ^ k := by
  induction k generalizing x with
  | zero => have : x = 0 := h
            subst this; decide
  | succ k ih =>
    obtain ⟨h1, h2, h3⟩ := h
    have := ih (x / 256) h3
    rw [Nat.pow_succ]
    have hn : x / 256 % 16 ≤ 4 := by
      cases k with
      | zero => have : x / 256 = 0 := h3
                omega
      | succ k => exact h3.1
    omega
def bd : Nat → Nat
  | 0 => 0
  | k + 1 => 8 + 256 * bd k
theorem sums_bd (k x : Nat) : sums k x ≤ bd k := by
  induction k generalizing x with
  | zero => simp [sums, bd]
  | succ k ih =>
    unfold sums bd
    have h1 := ih (x / 256)
    have h2 := cnt_le 8 (x % 256)
    omega

set_option maxRecDepth 100000 in
set_option maxHeartbeats 1000000 in
theorem ones_any (x : Nat) (hx : x < 18446744073709551616) (W : World) : Calls Tryd.prog 68 #[.int .u64 (x : Int)] W fun e w' => e = .returned (.int .i64 (cnt 64 x : Nat)) ∧ w' = W := by
  have m1 : mask 4 1 32 = 6148914691236517205 := by decide
  have m2 : mask 16 3 16 = 3689348814741910323 := by decide
  have m3 : mask 256 15 8 = 1085102592571150095 := by decide
  obtain ⟨x1, h1⟩ : ∃ x1, lane1 32 x = x1 := ⟨_, rfl⟩
  obtain ⟨x2, h2⟩ : ∃ x2, lane2 16 x1 = x2 := ⟨_, rfl⟩
  obtain ⟨x3, h3⟩ : ∃ x3, lane3 8 x2 = x3 := ⟨_, rfl⟩
  have b1 : x1 < 18446744073709551616 := by rw [← h1]; exact lane1_bd 32 x
  have b2 : x2 < 18446744073709551616 := by rw [← h2]; exact lane2_bd 16 x1
  have hsm : Small 8 x2 := by rw [← h2, ← h1]; exact lanes_small 8 x
  have b3 : x2 / 16 + x2 < 18446744073709551616 := small_bd 8 x2 hsm
  have e3 : x3 = sums 8 x := by rw [← h3, ← h2, ← h1]; exact lanes_sum 8 x
  have b4 : x3 ≤ 578721382704613384 := by rw [e3, ← show bd 8 = 578721382704613384 by decide]; exact sums_bd 8 x
  have s1 : IntKind.u64.wrap (bits .and .u64 ((x : Int) / 2) 6148914691236517205 + bits .and .u64 (x : Int) 6148914691236517205) = (x1 : Int) := by
    have q1 := bits_and (x / 2) 6148914691236517205 (by omega) (by decide)
    have q2 := bits_and x 6148914691236517205 hx (by decide)
    have q3 := step1 32 x
    rw [m1, h1] at q3
    rw [show ((x : Int) / 2) = ((x / 2 : Nat) : Int) by omega]
    rw [show (6148914691236517205 : Int) = ((6148914691236517205 : Nat) : Int) from rfl, q1, q2, IntKind.wrap_u64]
    omega
  have s2 : IntKind.u64.wrap (bits .and .u64 ((x1 : Int) / 4) 3689348814741910323 + bits .and .u64 (x1 : Int) 3689348814741910323) = (x2 : Int) := by
    have q1 := bits_and (x1 / 4) 3689348814741910323 (by omega) (by decide)
    have q2 := bits_and x1 3689348814741910323 b1 (by decide)
    have q3 := step2 16 x1
    rw [m2, h2] at q3
    rw [show ((x1 : Int) / 4) = ((x1 / 4 : Nat) : Int) by omega]
    rw [show (3689348814741910323 : Int) = ((3689348814741910323 : Nat) : Int) from rfl, q1, q2, IntKind.wrap_u64]
    omega
  have s3 : bits .and .u64 (IntKind.u64.wrap ((x2 : Int) / 16 + (x2 : Int))) 1085102592571150095 = (x3 : Int) := by
    have q0 : IntKind.u64.wrap ((x2 : Int) / 16 + (x2 : Int)) = ((x2 / 16 + x2 : Nat) : Int) := by rw [IntKind.wrap_u64]; omega
    have q1 := bits_and (x2 / 16 + x2) 1085102592571150095 b3 (by decide)
    have q3 := step3 8 x2 hsm
    rw [m3, h3] at q3
    rw [q0, show (1085102592571150095 : Int) = ((1085102592571150095 : Nat) : Int) from rfl, q1, q3]
  have s3' : bits .and .u64 ((x2 : Int) / 16 + (x2 : Int)) 1085102592571150095 = (x3 : Int) := by
    have q0 : IntKind.u64.wrap ((x2 : Int) / 16 + (x2 : Int)) = (x2 : Int) / 16 + (x2 : Int) := by rw [IntKind.wrap_u64]; omega
    rw [← q0]; exact s3
  have hup := add_up x
  rw [← e3] at hup
  obtain ⟨x4, h4⟩ : ∃ x4, x3 + x3 / 256 = x4 := ⟨_, rfl⟩
  obtain ⟨x5, h5⟩ : ∃ x5, x4 + x4 / 65536 = x5 := ⟨_, rfl⟩
  obtain ⟨x6, h6⟩ : ∃ x6, x5 + x5 / 4294967296 = x6 := ⟨_, rfl⟩
  have hup' : x6 % 128 = cnt 64 x := by rw [← hup, ← h6, ← h5, ← h4]
  have s4 : IntKind.u64.wrap ((x3 : Int) + (x3 : Int) / 256) = (x4 : Int) := by rw [IntKind.wrap_u64]; omega
  have s5 : IntKind.u64.wrap ((x4 : Int) + (x4 : Int) / 65536) = (x5 : Int) := by rw [IntKind.wrap_u64]; omega
  have s6 : IntKind.u64.wrap ((x5 : Int) + (x5 : Int) / 4294967296) = (x6 : Int) := by rw [IntKind.wrap_u64]; omega
  have s7 : IntKind.i64.wrap (x6 : Int) = (x6 : Int) := by rw [IntKind.wrap_i64]; omega
  have s8 : bits .and .i64 (x6 : Int) 127 = ((cnt 64 x : Nat) : Int) := by rw [and127_i64, ← hup']; omega
  clear hup hup' h1 h2 h3 h4 h5 h6 m1 m2 m3 hsm e3 b4
  go_enter Tryd.func68, Tryd.ntmps68
  go_wp2
  go_ret
  exact ⟨rfl, rfl⟩

/-- How many values there are. -/
def sizeOf' (ws : List Nat) (n : Nat) : Nat := ((List.range n).map fun k => cnt 64 (wat ws k)).sum
theorem sizeOf'_succ (ws : List Nat) (n : Nat) : sizeOf' ws (n + 1) = sizeOf' ws n + cnt 64 (wat ws n) := by unfold sizeOf'; rw [List.range_succ, List.map_append, List.sum_append]; simp
theorem sizeOf'_le (ws : List Nat) (n : Nat) : sizeOf' ws n ≤ 64 * n := by
  induction n with
  | zero => simp [sizeOf']
  | succ n ih => rw [sizeOf'_succ]; have := cnt_le 64 (wat ws n); omega
set_option maxHeartbeats 1000000 in
theorem size_any (b g c : Nat) (f room : Int) (ws : List Nat) (W : World) (h : Bits W b g c f room ws) (hz : Sz f room ws) :
    Calls Tryd.prog 33 #[.pointer (some ⟨b, 0, none⟩)] W fun e w' => e = .returned (.int .i64 (sizeOf' ws ws.length : Nat)) ∧ w' = W := by
  have c2 := h.c2
  have hl := hz.len; have z3 := hz.most
  obtain ⟨n, hn⟩ : ∃ n, ws.length = n := ⟨_, rfl⟩
  have hcw : ∀ k, k < n → W.cell? ⟨g, k, none⟩ = some (.int .u64 (wat ws k : Nat)) := fun k hk => (h.cw k (by omega)).1
  have HCW : Hid (∀ k, k < n → W.cell? ⟨g, k, none⟩ = some (.int .u64 (wat ws k : Nat))) := hcw
  have HW : Hid (∀ k, wat ws k < 18446744073709551616) := hz.word
  rw [hn] at c2 hl ⊢
  have hn2 : (n : Int) ≤ 1024 := by omega
  clear hn hl h hz hcw
  go_enter Tryd.func33, Tryd.ntmps33
  go_wp2
  go_loop [3, 13] (fun t i => ∃ k : Nat, k ≤ n ∧ i = .int .i64 k ∧ t = .int .i64 (sizeOf' ws k : Nat)) (fun _ i => n - (intOf i).toNat)
  case atStart => exact ⟨0, Nat.zero_le _, rfl, rfl⟩
  case round =>
    obtain ⟨k, hk, rfl, rfl⟩ := hrel
    by_cases hlt : k < n
    · have hc := HCW.out k hlt
      have ko := ones_any (wat ws k) (HW.out k)
      have hs := sizeOf'_succ ws k
      have hs2 := sizeOf'_le ws k
      have hc2 := cnt_le 64 (wat ws k)
      obtain ⟨x, hx⟩ : ∃ x, wat ws k = x := ⟨_, rfl⟩
      rw [hx] at hc ko hs hc2
      obtain ⟨y, hy⟩ : ∃ y, cnt 64 x = y := ⟨_, rfl⟩
      rw [hy] at ko hs hc2
      obtain ⟨z, hz⟩ : ∃ z, sizeOf' ws k = z := ⟨_, rfl⟩
      rw [hz] at hs hs2 ⊢
      have HS : Hid (sizeOf' ws (k + 1) = z + y) := hs
      clear hx hy hz hs
      go_wp2_with (go_at_call 68; refine (ko _).mono ?_; rintro e w1 ⟨rfl, rfl⟩)
      go_round
      case rel => exact ⟨k + 1, by omega, by go_num, by rw [HS.out]; go_num⟩
      case measure => simp [intOf]; omega
    · obtain rfl : k = n := by omega
      go_wp2
      go_ret
      exact ⟨rfl, rfl⟩
end Go.Proofs.YtgcgomofmicchaaDoor
