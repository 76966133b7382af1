/-
  What is proved here: And, Or and Minus with nil; Size of words that are all 0; what methods of nil return.
-/
import Derived.Test.YtgcgomofmicchaaDoorXo
namespace Go.Proofs.YtgcgomofmicchaaDoor
open Go.RowKit Go.Shelf

theorem upd_same (G : Nat → Nat) (ws : List Nat) (k : Nat) (h : ∀ i, i < ws.length → G i = wat ws i) : upd G ws k = ws := by
  apply List.ext_getElem?
  intro i
  by_cases hi : i < ws.length
  · rw [upd_get G ws k i hi, h i hi]; simp [wat, hi]
  · rw [List.getElem?_eq_none (by rw [upd_length]; omega), List.getElem?_eq_none (by omega)]
theorem chg_none (G : Nat → Nat) (ws : List Nat) (k : Nat) (hk : k ≤ ws.length) (h : ∀ i, i < ws.length → G i = wat ws i) : chg G ws k = false := by
  unfold chg
  rw [List.any_eq_false]
  intro i hi
  rw [List.mem_range] at hi
  simp [h i (by omega)]
theorem chg_some (G : Nat → Nat) (ws : List Nat) (k i : Nat) (hi : i < k) (h : G i ≠ wat ws i) : chg G ws k = true := by
  unfold chg
  rw [List.any_eq_true]
  exact ⟨i, List.mem_range.2 hi, by simpa using h⟩

theorem fr_nil (f : Int) (k : Nat) (W : World) : Calls Tryd.prog 58 #[.pointer none, .int .i64 (f + (k : Int) * 64)] W fun e w' => e = .returned (.int .u64 ((0 : Nat) : Int)) ∧ ∃ n, w' = W.drewN n :=
  (from_nil _ W).mono fun _ _ ⟨h1, h2⟩ => ⟨h1, 0, h2⟩

set_option maxHeartbeats 400000 in
theorem and_nilo (b g c : Nat) (f room : Int) (ws : List Nat) (W : World) (h : Bits W b g c f room ws) (hz : Sz f room ws) (n₀ : Nat) (hn₀ : n₀ ≤ g) :
    Calls Tryd.prog 25 #[.pointer (some ⟨b, 0, none⟩), .pointer none] W fun e w' => e = .returned (.tuple #[.bool (chg (fun _ => 0) ws ws.length), .int .i64 0]) ∧ Bits w' b g c f room (upd (fun _ => 0) ws ws.length) ∧ Below n₀ W w' := by
  have k := change_any 61 (.pointer none) (fun _ => 0) (fun _ => 0) b g c f room ws W h hz (fun _ _ => by decide) (fun k W' _ => by have := fand (wat ws k) 0 (hz.word k) (by decide) W'; rw [Nat.and_zero] at this; exact this) (enters_of Tryd.func61 (by kernel_rfl) rfl) (fun k W' _ _ _ => fr_nil f k W') n₀ hn₀
  obtain ⟨t, ht⟩ : ∃ t, chg (fun _ => 0) ws ws.length = t := ⟨_, rfl⟩
  rw [ht] at k ⊢
  clear ht h hz
  go_enter Tryd.func25, Tryd.ntmps25
  go_wp2_with (go_at_call 60; refine k.mono ?_; clear k; rintro e w1 ⟨rfl, hB, hb, _⟩)
  go_ret2
  exact ⟨rfl, hB, hb⟩
set_option maxHeartbeats 400000 in
theorem minus_nilo (b g c : Nat) (f room : Int) (ws : List Nat) (W : World) (h : Bits W b g c f room ws) (hz : Sz f room ws) (n₀ : Nat) (hn₀ : n₀ ≤ g) :
    Calls Tryd.prog 26 #[.pointer (some ⟨b, 0, none⟩), .pointer none] W fun e w' => e = .returned (.tuple #[.bool false, .int .i64 0]) ∧ Bits w' b g c f room ws ∧ Below n₀ W w' := by
  have k := change_any 62 (.pointer none) (fun _ => 0) (wat ws) b g c f room ws W h hz (fun i _ => hz.word i) (fun k W' _ => by have := fminus (wat ws k) 0 (hz.word k) (by decide) W'; rw [anot_zero _ (hz.word k)] at this; exact this) (enters_of Tryd.func62 (by kernel_rfl) rfl) (fun k W' _ _ _ => fr_nil f k W') n₀ hn₀
  rw [chg_none _ ws _ (Nat.le_refl _) (fun _ _ => rfl), upd_same _ ws _ (fun _ _ => rfl)] at k
  clear h hz
  go_enter Tryd.func26, Tryd.ntmps26
  go_wp2_with (go_at_call 60; refine k.mono ?_; clear k; rintro e w1 ⟨rfl, hB, hb, _⟩)
  go_ret2
  exact ⟨rfl, hB, hb⟩
set_option maxHeartbeats 400000 in
theorem or_nilo (b g c : Nat) (f room : Int) (ws : List Nat) (W : World) (h : Bits W b g c f room ws) (hz : Sz f room ws) (n₀ : Nat) (hn₀ : n₀ ≤ g) :
    Calls Tryd.prog 34 #[.pointer (some ⟨b, 0, none⟩), .pointer none] W fun e w' => e = .returned (.tuple #[.bool false, .int .i64 0]) ∧ Bits w' b g c f room ws ∧ Below n₀ W w' := by
  have k := change_any 69 (.pointer none) (fun _ => 0) (wat ws) b g c f room ws W h hz (fun i _ => hz.word i) (fun k W' _ => by have := for_ (wat ws k) 0 (hz.word k) (by decide) W'; rw [Nat.or_zero] at this; exact this) (enters_of Tryd.func69 (by kernel_rfl) rfl) (fun k W' _ _ _ => fr_nil f k W') n₀ hn₀
  rw [chg_none _ ws _ (Nat.le_refl _) (fun _ _ => rfl), upd_same _ ws _ (fun _ _ => rfl)] at k
  clear h hz
  go_enter Tryd.func34, Tryd.ntmps34
  go_wp2_with (first | (go_at_call 35; refine (min_nil _).mono ?_; rintro e w1 ⟨rfl, rfl⟩) | (go_at_call 36; refine (max_nil _).mono ?_; rintro e w1 ⟨rfl, rfl⟩) | (go_at_call 60; refine k.mono ?_; clear k; rintro e w1 ⟨rfl, hB, hb, _⟩))
  go_ret2
  exact ⟨rfl, hB, hb⟩
set_option maxHeartbeats 400000 in
theorem nil_and (W : World) : Calls Tryd.prog 25 #[.pointer none, .pointer none] W fun e w' => e = .returned (.tuple #[.bool false, .int .i64 2]) ∧ w' = W := by
  go_enter Tryd.func25, Tryd.ntmps25
  go_wp2
  go_ret2
  exact ⟨rfl, rfl⟩
set_option maxHeartbeats 400000 in
theorem nil_minus (W : World) : Calls Tryd.prog 26 #[.pointer none, .pointer none] W fun e w' => e = .returned (.tuple #[.bool false, .int .i64 2]) ∧ w' = W := by
  go_enter Tryd.func26, Tryd.ntmps26
  go_wp2
  go_ret2
  exact ⟨rfl, rfl⟩
set_option maxHeartbeats 400000 in
theorem nil_or (W : World) : Calls Tryd.prog 34 #[.pointer none, .pointer none] W fun e w' => e = .returned (.tuple #[.bool false, .int .i64 2]) ∧ w' = W := by
  go_enter Tryd.func34, Tryd.ntmps34
  go_wp2
  go_ret2
  exact ⟨rfl, rfl⟩
set_option maxHeartbeats 400000 in
theorem nil_size (W : World) : Calls Tryd.prog 33 #[.pointer none] W fun e w' => e = .returned (.int .i64 0) ∧ w' = W := by
  go_enter Tryd.func33, Tryd.ntmps33
  go_wp2
  go_ret
  exact ⟨rfl, rfl⟩
set_option maxHeartbeats 400000 in
theorem nil_copy (W : World) : Calls Tryd.prog 24 #[.pointer none] W fun e w' => e = .returned (.pointer none) ∧ w' = W := by
  go_enter Tryd.func24, Tryd.ntmps24
  go_wp2
  go_ret
  exact ⟨rfl, rfl⟩
set_option maxHeartbeats 400000 in
theorem nil_same (o : Option Addr) (W : World) : Calls Tryd.prog 21 #[.pointer none, .pointer o] W fun e w' => e = .returned (.bool false) ∧ w' = W := by
  go_enter Tryd.func21, Tryd.ntmps21
  go_wp2
  go_ret
  exact ⟨rfl, rfl⟩
set_option maxHeartbeats 400000 in
theorem same_nil (a : Addr) (W : World) : Calls Tryd.prog 21 #[.pointer (some a), .pointer none] W fun e w' => e = .returned (.bool false) ∧ w' = W := by
  go_enter Tryd.func21, Tryd.ntmps21
  go_wp2
  go_ret
  exact ⟨rfl, rfl⟩
set_option maxHeartbeats 400000 in
theorem nil_ranges (W : World) : Calls Tryd.prog 27 #[.pointer none] W fun e w' => e = .returned (.tuple #[.slice none 0 0, .int .i64 2]) ∧ Below W.heap.size W w' := by
  go_enter Tryd.func27, Tryd.ntmps27
  go_wp2
  exact bodyPost_ret (v := .tuple #[.slice none 0 0, .int .i64 2]) (by simp [results, Tryd.results27, go_sem]) rfl ⟨rfl, ((Below.refl _ W).alloc (Nat.le_refl _) _).alloc (by simp) _⟩
set_option maxHeartbeats 400000 in
theorem ones_zero (W : World) : Calls Tryd.prog 68 #[.int .u64 0] W fun e w' => e = .returned (.int .i64 0) ∧ w' = W := by
  have e1 : bits BinOp.and IntKind.u64 0 6148914691236517205 = 0 := by decide
  have e2 : bits BinOp.and IntKind.u64 0 3689348814741910323 = 0 := by decide
  have e3 : bits BinOp.and IntKind.u64 0 1085102592571150095 = 0 := by decide
  have e4 : bits BinOp.and IntKind.i64 0 127 = 0 := by decide
  go_enter Tryd.func68, Tryd.ntmps68
  go_wp2
  go_ret
  exact ⟨rfl, rfl⟩
set_option maxHeartbeats 1000000 in
theorem size_zero (b g c : Nat) (f room : Int) (ws : List Nat) (W : World) (h : Bits W b g c f room ws) (hz : Sz f room ws) (h0 : ∀ i, wat ws i = 0) :
    Calls Tryd.prog 33 #[.pointer (some ⟨b, 0, none⟩)] W fun e w' => e = .returned (.int .i64 0) ∧ w' = W := by
  have c2 := h.c2
  have hl := hz.len; have z3 := hz.most
  obtain ⟨n, hn⟩ : ∃ n, ws.length = n := ⟨_, rfl⟩
  have hcw : ∀ k, k < n → W.cell? ⟨g, k, none⟩ = some (.int .u64 0) := fun k hk => by
    have := (h.cw k (by omega)).1
    rw [h0 k] at this; exact this
  have HCW : Hid (∀ k, k < n → W.cell? ⟨g, k, none⟩ = some (.int .u64 0)) := hcw
  rw [hn] at c2 hl
  have hn2 : (n : Int) ≤ 1024 := by omega
  clear hn hl h0 h hz hcw
  go_enter Tryd.func33, Tryd.ntmps33
  go_wp2
  go_loop [3, 13] (fun t i => ∃ k : Nat, k ≤ n ∧ i = .int .i64 k ∧ t = .int .i64 0) (fun _ i => n - (intOf i).toNat)
  case atStart => exact ⟨0, Nat.zero_le _, rfl, rfl⟩
  case round =>
    obtain ⟨k, hk, rfl, rfl⟩ := hrel
    by_cases hlt : k < n
    · have hc := HCW.out k hlt
      go_wp2_with (go_at_call 68; refine (ones_zero _).mono ?_; rintro e w1 ⟨rfl, rfl⟩)
      go_round
      case rel => exact ⟨k + 1, by omega, by go_num, rfl⟩
      case measure => simp [intOf]; omega
    · go_wp2
      go_ret
      exact ⟨rfl, rfl⟩
end Go.Proofs.YtgcgomofmicchaaDoor
