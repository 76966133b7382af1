/-
  What is proved here: what And, Or and Minus with nil do, and Size of words that are all 0.
-/
import Derived.Test.YtgcgomofmicchaaDoorXm
namespace Go.Proofs.YtgcgomofmicchaaDoor
open Go.RowKit Go.Shelf

set_option maxHeartbeats 400000 in
theorem fand (x y : Nat) (hx : x < 18446744073709551616) (hy : y < 18446744073709551616) (W : World) : Calls Tryd.prog 61 #[.int .u64 (x : Int), .int .u64 (y : Int)] W fun e w' => e = .returned (.int .u64 (x &&& y : Nat)) ∧ w' = W := by
  have h := bits_and x y hx hy
  obtain ⟨z, hz⟩ : ∃ z, x &&& y = z := ⟨_, rfl⟩
  rw [hz] at h ⊢
  clear hz
  go_enter Tryd.func61, Tryd.ntmps61
  go_wp2
  go_ret
  exact ⟨rfl, rfl⟩
set_option maxHeartbeats 400000 in
theorem for_ (x y : Nat) (hx : x < 18446744073709551616) (hy : y < 18446744073709551616) (W : World) : Calls Tryd.prog 69 #[.int .u64 (x : Int), .int .u64 (y : Int)] W fun e w' => e = .returned (.int .u64 (x ||| y : Nat)) ∧ w' = W := by
  have h := bits_or x y hx hy
  obtain ⟨z, hz⟩ : ∃ z, x ||| y = z := ⟨_, rfl⟩
  rw [hz] at h ⊢
  clear hz
  go_enter Tryd.func69, Tryd.ntmps69
  go_wp2
  go_ret
  exact ⟨rfl, rfl⟩
/-- x without the bits of y. -/
def anot (x y : Nat) : Nat := x &&& (18446744073709551615 - y)
theorem anot_zero (x : Nat) (hx : x < 18446744073709551616) : anot x 0 = x := by
  unfold anot
  rw [show 18446744073709551615 - 0 = 2 ^ 64 - 1 by decide, Nat.and_two_pow_sub_one_eq_mod]
  exact Nat.mod_eq_of_lt hx
theorem bits_andNot (a b : Nat) (ha : a < 18446744073709551616) (hb : b < 18446744073709551616) : bits .andNot .u64 (a : Int) (b : Int) = ((anot a b : Nat) : Int) := by
  show IntKind.u64.wrap ((BitVec.ofInt 64 (a : Int) &&& ~~~ (BitVec.ofInt 64 (b : Int))).toNat : Nat) = _
  rw [BitVec.toNat_and, BitVec.toNat_not, toNat64 a ha, toNat64 b hb, IntKind.wrap_u64]
  have e : 2 ^ 64 - 1 - b = 18446744073709551615 - b := by omega
  rw [e]
  unfold anot
  have : a &&& (18446744073709551615 - b) ≤ a := Nat.and_le_left
  omega
set_option maxHeartbeats 400000 in
theorem fminus (x y : Nat) (hx : x < 18446744073709551616) (hy : y < 18446744073709551616) (W : World) : Calls Tryd.prog 62 #[.int .u64 (x : Int), .int .u64 (y : Int)] W fun e w' => e = .returned (.int .u64 (anot x y : Nat)) ∧ w' = W := by
  have h := bits_andNot x y hx hy
  obtain ⟨z, hz⟩ : ∃ z, anot x y = z := ⟨_, rfl⟩
  rw [hz] at h ⊢
  clear hz
  go_enter Tryd.func62, Tryd.ntmps62
  go_wp2
  go_ret
  exact ⟨rfl, rfl⟩

/-- The first k words made new: word number i becomes G i. -/
def upd (G : Nat → Nat) (ws : List Nat) (k : Nat) : List Nat := (List.range ws.length).map fun i => if i < k then G i else wat ws i
theorem upd_length (G : Nat → Nat) (ws : List Nat) (k : Nat) : (upd G ws k).length = ws.length := by unfold upd; simp
theorem upd_get (G : Nat → Nat) (ws : List Nat) (k i : Nat) (hi : i < ws.length) : (upd G ws k)[i]? = some (if i < k then G i else wat ws i) := by unfold upd; simp [hi]
theorem upd_zero (G : Nat → Nat) (ws : List Nat) : upd G ws 0 = ws := by
  apply List.ext_getElem?
  intro i
  by_cases hi : i < ws.length
  · rw [upd_get G ws 0 i hi, if_neg (by omega)]; simp [wat, hi]
  · rw [List.getElem?_eq_none (by rw [upd_length]; omega), List.getElem?_eq_none (by omega)]
theorem upd_step (G : Nat → Nat) (ws : List Nat) (k : Nat) (hk : k < ws.length) : (upd G ws k).set k (G k) = upd G ws (k + 1) := by
  apply List.ext_getElem?
  intro i
  rw [List.getElem?_set, upd_length]
  by_cases hi : i < ws.length
  · rw [upd_get G ws k i hi, upd_get G ws (k + 1) i hi]
    by_cases e : k = i
    · subst e; rw [if_pos rfl, if_pos hi, if_pos (by omega)]
    · rw [if_neg e]
      by_cases h2 : i < k
      · rw [if_pos h2, if_pos (by omega)]
      · rw [if_neg h2, if_neg (by omega)]
  · rw [List.getElem?_eq_none (by rw [upd_length]; omega), List.getElem?_eq_none (by rw [upd_length]; omega), if_neg (by omega)]
theorem upd_at (G : Nat → Nat) (ws : List Nat) (k : Nat) (hk : k < ws.length) : wat (upd G ws k) k = wat ws k := by
  unfold wat
  rw [upd_get G ws k k hk, if_neg (by omega)]; rfl
theorem upd_lt (G : Nat → Nat) (ws : List Nat) (hG : ∀ i, i < ws.length → G i < 18446744073709551616) (hw : ∀ k, wat ws k < 18446744073709551616) (k i : Nat) : wat (upd G ws k) i < 18446744073709551616 := by
  by_cases hi : i < ws.length
  · unfold wat
    rw [upd_get G ws k i hi]
    show (if i < k then G i else wat ws i) < _
    split
    · exact hG i hi
    · exact hw i
  · unfold wat; rw [List.getElem?_eq_none (by rw [upd_length]; omega)]; decide
theorem Sz.upd {f room : Int} {ws : List Nat} (h : Sz f room ws) (G : Nat → Nat) (hG : ∀ i, i < ws.length → G i < 18446744073709551616) (k : Nat) : Sz f room (upd G ws k) :=
  ⟨h.lo, h.one, h.most, h.hi, by rw [upd_length]; exact h.len, upd_lt G ws hG h.word k⟩
/-- Was one of the first k words changed? -/
def chg (G : Nat → Nat) (ws : List Nat) (k : Nat) : Bool := (List.range k).any fun i => decide (G i ≠ wat ws i)
theorem chg_succ (G : Nat → Nat) (ws : List Nat) (k : Nat) : chg G ws (k + 1) = (chg G ws k || decide (G k ≠ wat ws k)) := by unfold chg; rw [List.range_succ, List.any_append]; simp

set_option maxRecDepth 100000 in
set_option maxHeartbeats 4000000 in
/-- change: word number i becomes G i, which the function makes of it and of what from says of the other set. -/
theorem change_any (fn : Nat) (o : Value) (oth : Nat → Nat) (G : Nat → Nat) (b g c : Nat) (f room : Int) (ws : List Nat) (W : World) (h : Bits W b g c f room ws) (hz : Sz f room ws)
    (hG : ∀ i, i < ws.length → G i < 18446744073709551616)
    (hfn : ∀ k (W' : World), k < ws.length → Calls Tryd.prog fn #[.int .u64 (wat ws k : Nat), .int .u64 (oth k : Nat)] W' fun e w' => e = .returned (.int .u64 (G k : Nat)) ∧ w' = W')
    (hen : ∀ args w, (callFunc fn args).run Tryd.prog w = .ok (.enter fn args) w)
    (hfr : ∀ k (W' : World), k < ws.length → Bits W' b g c f room (upd G ws k) → (∀ B, B ≠ g → W'.heap[B]? = W.heap[B]?) → Calls Tryd.prog 58 #[o, .int .i64 (f + (k : Int) * 64)] W' fun e w' => e = .returned (.int .u64 (oth k : Nat)) ∧ ∃ n, w' = W'.drewN n)
    (n₀ : Nat) (hn₀ : n₀ ≤ g) :
    Calls Tryd.prog 60 #[.pointer (some ⟨b, 0, none⟩), o, .func (.func fn) #[] #[]] W fun e w' => e = .returned (.bool (chg G ws ws.length)) ∧ Bits w' b g c f room (upd G ws ws.length) ∧ Below n₀ W w' ∧ (∀ B, B ≠ g → w'.heap[B]? = W.heap[B]?) := by
  have hl := hz.len; have z3 := hz.most; have z2 := hz.one; have z1 := hz.lo; have z4 := hz.hi
  have c2 := h.c2
  have h0 : Bits W b g c f room (upd G ws 0) := by rw [upd_zero]; exact h
  have hne := h.ne
  obtain ⟨n, hn⟩ : ∃ n, ws.length = n := ⟨_, rfl⟩
  have HN : Hid (ws.length = n) := hn
  rw [hn] at c2 hl hG hfn hfr ⊢
  have hn2 : (n : Int) ≤ 1024 := by omega
  have HG : Hid (∀ i, i < n → G i < 18446744073709551616) := hG
  clear hn hl h hG
  go_enter Tryd.func60, Tryd.ntmps60
  go_wp2
  go_loopw [7, 16] (fun t i wr => ∃ k : Nat, k ≤ n ∧ i = .int .i64 k ∧ t = .bool (chg G ws k) ∧ Bits wr b g c f room (upd G ws k) ∧ Below n₀ W wr ∧ (∀ B, B ≠ g → wr.heap[B]? = W.heap[B]?)) (fun _ i _ => n - (intOf i).toNat)
  case atStart => exact ⟨0, Nat.zero_le _, rfl, rfl, h0, Below.refl _ _, fun _ _ => rfl⟩
  case round =>
    obtain ⟨k, hk, rfl, rfl, hB, hbl, hoff⟩ := hrel
    by_cases hlt : k < n
    · have hkl : k < ws.length := by rw [HN.out]; exact hlt
      have d0 := hB.c0
      have d2 := hB.c2
      obtain ⟨dw, fw⟩ := hB.cw k (by rw [upd_length]; exact hkl)
      rw [upd_at G ws k hkl] at dw
      rw [upd_length, HN.out] at d2
      have k1 := hfr k wr hlt hB hoff
      have k2 := fun W' => hfn k W' hlt
      have hst := (hB.store k (by rw [upd_length]; exact hkl) (G k))
      rw [upd_step G ws k hkl] at hst
      have HST : Hid (Bits (wr.setCell ⟨g, k, none⟩ (.int .u64 (G k : Nat))) b g c f room (upd G ws (k + 1))) := hst
      have HOFF : Hid (∀ B, B ≠ g → wr.heap[B]? = W.heap[B]?) := hoff
      have HCH := chg_succ G ws k
      obtain ⟨x, hx⟩ : ∃ x, wat ws k = x := ⟨_, rfl⟩
      obtain ⟨y, hy⟩ : ∃ y, G k = y := ⟨_, rfl⟩
      obtain ⟨z, hz'⟩ : ∃ z, oth k = z := ⟨_, rfl⟩
      obtain ⟨t, ht⟩ : ∃ t, chg G ws k = t := ⟨_, rfl⟩
      rw [hx, hy, ht] at HCH
      rw [hx, hy, hz'] at k2; rw [hz'] at k1; rw [hx] at dw; rw [hy] at HST
      rw [ht]
      have HCH' : Hid (chg G ws (k + 1) = (t || decide (y ≠ x))) := HCH
      clear hst hoff HCH hx hy hz' ht hkl hfr hfn h0 hz
      have hkb : (k : Int) * 64 < 65537 := by omega
      cases t
      · by_cases hyx : y = x
        · subst hyx
          go_wp2_with (first | (go_at_call 58; refine k1.mono ?_; clear k1; rintro e w1 ⟨rfl, n1, rfl⟩) | (refine (k2 _).mono ?_; clear k2; rintro e w1 ⟨rfl, rfl⟩))
          refine ⟨⟨k + 1, by omega, by go_num, by rw [HCH'.out]; first | rfl | (simp; done) | (simp [hyx]; exact fun h => hyx (Int.ofNat_inj.1 h)), HST.out, ?_, fun B hB' => ?_⟩, by simp [intOf]; omega⟩
          · exact (below_drewN hbl n1).setCell (p := ⟨g, k, none⟩) hn₀ _
          · exact (Below.heap_setCell _ _ _ B hB').trans (HOFF.out B hB')
        · have hd : ((y : Int) == (x : Int)) = false := by simp; omega
          go_wp2_with (first | (go_at_call 58; refine k1.mono ?_; clear k1; rintro e w1 ⟨rfl, n1, rfl⟩) | (refine (k2 _).mono ?_; clear k2; rintro e w1 ⟨rfl, rfl⟩))
          refine ⟨⟨k + 1, by omega, by go_num, by rw [HCH'.out]; first | rfl | (simp; done) | (simp [hyx]; exact fun h => hyx (Int.ofNat_inj.1 h)), HST.out, ?_, fun B hB' => ?_⟩, by simp [intOf]; omega⟩
          · exact (below_drewN hbl n1).setCell (p := ⟨g, k, none⟩) hn₀ _
          · exact (Below.heap_setCell _ _ _ B hB').trans (HOFF.out B hB')
      · skip
        go_wp2_with (first | (go_at_call 58; refine k1.mono ?_; clear k1; rintro e w1 ⟨rfl, n1, rfl⟩) | (refine (k2 _).mono ?_; clear k2; rintro e w1 ⟨rfl, rfl⟩))
        refine ⟨⟨k + 1, by omega, by go_num, by rw [HCH'.out]; first | rfl | (simp; done) | (simp [hyx]; exact fun h => hyx (Int.ofNat_inj.1 h)), HST.out, ?_, fun B hB' => ?_⟩, by simp [intOf]; omega⟩
        · exact (below_drewN hbl n1).setCell (p := ⟨g, k, none⟩) hn₀ _
        · exact (Below.heap_setCell _ _ _ B hB').trans (HOFF.out B hB')
    · obtain rfl : k = n := by omega
      go_wp2
      go_ret
      exact ⟨rfl, hB, hbl, hoff⟩
end Go.Proofs.YtgcgomofmicchaaDoor
