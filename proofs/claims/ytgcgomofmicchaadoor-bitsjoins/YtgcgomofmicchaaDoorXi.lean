/-
  What is proved here: what the methods from and Has of a set of bits return.
-/
import Derived.Test.YtgcgomofmicchaaDoorMa
namespace Go.Proofs.YtgcgomofmicchaaDoor
open Go.RowKit Go.Shelf

set_option maxHeartbeats 1000000 in
theorem from_any (b g c : Nat) (f room v : Int) (ws : List Nat) (W : World) (h : Bits W b g c f room ws) (hz : Sz f room ws) (h1 : -10000000 ≤ v) (h2 : v ≤ 10000000) :
    Calls Tryd.prog 58 #[.pointer (some ⟨b, 0, none⟩), .int .i64 v] W fun e w' => e = .returned (.int .u64 (frm ws (v - f) : Nat)) ∧ ∃ n, w' = W.drewN n := by
  have c0 := h.c0
  have z1 := hz.lo; have z2 := hz.one; have z3 := hz.most; have z4 := hz.hi
  obtain ⟨n, hn⟩ : ∃ n, v - f = n := ⟨_, rfl⟩
  have hn1 : -12000000 ≤ n := by omega
  have hn2 : n ≤ 12000000 := by omega
  obtain ⟨r, hr⟩ : ∃ r : Nat, n % 64 = (r : Int) := ⟨(n % 64).toNat, by omega⟩
  have hr1 : (r : Int) < 64 := by omega
  obtain ⟨q, hq⟩ : ∃ q, n / 64 = q := ⟨_, rfl⟩
  have hq1 : -1000000 ≤ q := by omega
  have hq2 : q ≤ 1000000 := by omega
  have hand : bits BinOp.and IntKind.i64 n 63 = (r : Int) := by rw [and63_i64]; exact hr
  have hres : bits BinOp.or IntKind.u64 ((wai ws q : Int) / 2 ^ r) (IntKind.u64.wrap ((wai ws (q + 1) : Int) * 2 ^ (64 - r))) = ((frm ws n : Nat) : Int) := by
    rw [wrap_mul, div_pow, bits_or _ _ (Nat.lt_of_le_of_lt (Nat.div_le_self _ _) (wai_lt hz.word _)) (Nat.mod_lt _ (by decide))]
    unfold frm
    rw [hq, hr, Int.toNat_natCast]
  rw [hn]
  have HB : Hid (Bits W b g c f room ws) := h
  have HRES : Hid (bits BinOp.or IntKind.u64 ((wai ws q : Int) / 2 ^ r) (IntKind.u64.wrap ((wai ws (q + 1) : Int) * 2 ^ (64 - r))) = ((frm ws n : Nat) : Int)) := hres
  have HZ : Hid (Sz f room ws) := hz
  clear hr h hz hres
  go_enter Tryd.func58, Tryd.ntmps58
  go_wp2
  go_quiet ((go_at_call 76; exact Calls.quiet_of_same (word_any b g c f room _ ws _ (HB.out.drawn _) HZ.out)))
  go_wp2
  go_ret
  exact ⟨congrArg Ending.returned (congrArg (Value.int .u64) HRES.out), _, rfl⟩
set_option maxHeartbeats 400000 in
theorem from_nil (v : Int) (W : World) :
    Calls Tryd.prog 58 #[.pointer none, .int .i64 v] W fun e w' => e = .returned (.int .u64 0) ∧ w' = W := by
  go_enter Tryd.func58, Tryd.ntmps58
  go_wp2
  go_ret
  exact ⟨rfl, rfl⟩

/-- Is v there? -/
def hasB (f room : Int) (ws : List Nat) (v : Int) : Bool := fitB f room v && bt ws (v - f)
theorem and1_u64 (a : Nat) (ha : a < 18446744073709551616) : (bits .and .u64 (a : Int) 1 == 1) = a.testBit 0 := by
  have h := bits_and a 1 ha (by decide)
  have e : (((1 : Nat) : Int)) = 1 := rfl
  rw [e] at h
  rw [h, Nat.and_one_is_mod, Nat.testBit_zero]
  rcases Nat.mod_two_eq_zero_or_one a with h | h <;> simp [h]
set_option maxHeartbeats 1000000 in
theorem has_any (b g c : Nat) (f room v : Int) (ws : List Nat) (W : World) (h : Bits W b g c f room ws) (hz : Sz f room ws) :
    Calls Tryd.prog 32 #[.pointer (some ⟨b, 0, none⟩), .int .i64 v] W fun e w' => e = .returned (.bool (hasB f room ws v)) ∧ ∃ n, w' = W.drewN n := by
  have k1 := fits_any b g c f room v ws W h hz
  by_cases hf : f ≤ v ∧ v < f + room
  · rw [fitB_yes hf] at k1
    have h1 := hz.lo; have h2 := hz.hi
    have k2 := fun n => from_any b g c f room v ws (W.drewN n) (h.drawn n) hz (by omega) (by omega)
    have e : hasB f room ws v = (frm ws (v - f)).testBit 0 := by unfold hasB; rw [fitB_yes hf, frm_bit hz.word _ 0 (by decide)]; simp
    have ht := and1_u64 (frm ws (v - f)) (frm_lt hz.word _)
    rw [e]
    obtain ⟨x, hx⟩ : ∃ x, frm ws (v - f) = x := ⟨_, rfl⟩
    rw [hx] at k2 ht ⊢
    obtain ⟨t, htt⟩ : ∃ t, x.testBit 0 = t := ⟨_, rfl⟩
    rw [htt] at ht ⊢
    clear hx e hf h hz h1 h2 htt
    go_enter Tryd.func32, Tryd.ntmps32
    go_wp2_with (first | (go_at_call 51; refine k1.mono ?_; clear k1; rintro e w1 ⟨rfl, n1, rfl⟩) | (go_at_call 58; refine (k2 _).mono ?_; clear k2; rintro e w1 ⟨rfl, n2, rfl⟩))
    go_ret
    exact ⟨rfl, _, rfl⟩
  · rw [fitB_no hf] at k1
    have e : hasB f room ws v = false := by unfold hasB; rw [fitB_no hf]; rfl
    rw [e]
    clear e hf h hz
    go_enter Tryd.func32, Tryd.ntmps32
    go_wp2_with (go_at_call 51; refine k1.mono ?_; clear k1; rintro e w1 ⟨rfl, n1, rfl⟩)
    go_ret
    exact ⟨rfl, _, rfl⟩
set_option maxHeartbeats 400000 in
theorem has_nil (v : Int) (W : World) :
    Calls Tryd.prog 32 #[.pointer none, .int .i64 v] W fun e w' => e = .returned (.bool false) ∧ ∃ n, w' = W.drewN n := by
  go_enter Tryd.func32, Tryd.ntmps32
  go_wp2_with (go_at_call 51; refine (fits_nil _ _).mono ?_; rintro e w1 ⟨rfl, n1, rfl⟩)
  go_ret
  exact ⟨rfl, _, rfl⟩
end Go.Proofs.YtgcgomofmicchaaDoor
