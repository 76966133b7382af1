/-
  What is proved here: what turn, Add and Del do.
-/
import Derived.Test.YtgcgomofmicchaaDoorXi
namespace Go.Proofs.YtgcgomofmicchaaDoor
open Go.RowKit Go.Shelf

theorem bits_xor (a b : Nat) (ha : a < 18446744073709551616) (hb : b < 18446744073709551616) : bits .xor .u64 (a : Int) (b : Int) = ((a ^^^ b : Nat) : Int) := by
  show IntKind.u64.wrap ((BitVec.ofInt 64 (a : Int) ^^^ BitVec.ofInt 64 (b : Int)).toNat : Nat) = _
  rw [BitVec.toNat_xor, toNat64 a ha, toNat64 b hb, IntKind.wrap_u64]
  have : a ^^^ b < 2 ^ 64 := Nat.xor_lt_two_pow ha hb
  omega
theorem wrap_pow (r : Nat) (hr : r < 64) : IntKind.u64.wrap ((2 : Int) ^ r) = ((2 ^ r : Nat) : Int) := by
  have hp := two_pow_lt hr
  have e : ((2 : Int) ^ r) = ((2 ^ r : Nat) : Int) := by simp
  rw [e]
  generalize 2 ^ r = p at hp ⊢
  rw [IntKind.wrap_u64]; omega
theorem xor_pow (a r : Nat) (ha : a < 18446744073709551616) (hr : r < 64) : bits .xor .u64 (a : Int) (IntKind.u64.wrap (2 ^ r)) = ((a ^^^ 2 ^ r : Nat) : Int) := by
  rw [wrap_pow r hr, bits_xor a (2 ^ r) ha (two_pow_lt hr)]

/-- A word is written. -/
theorem Bits.store {W : World} {b g c : Nat} {f room : Int} {ws : List Nat} (h : Bits W b g c f room ws) (q : Nat) (_hq : q < ws.length) (x : Nat) : Bits (W.setCell ⟨g, q, none⟩ (.int .u64 (x : Int))) b g c f room (ws.set q x) := by
  obtain ⟨cur, h1, h2, h3, h4, h5⟩ := h.row
  have hb : (W.setCell ⟨g, q, none⟩ (.int .u64 (x : Int))).heap[b]? = W.heap[b]? := Below.heap_setCell _ _ _ b h.ne
  have hl : (ws.set q x).length = ws.length := List.length_set
  refine ⟨by rw [hb, hl]; exact h.1, by simp [words], .inr ⟨g, c, cur.setIfInBounds q (.int .u64 (x : Int)), by rw [hl], Nat.zero_le _, row_set h1 q _, by rw [hl]; exact h2, h3, by rw [Array.size_setIfInBounds]; omega, ?_⟩⟩
  rw [hl, Nat.mul_one, Array.toList_setIfInBounds, List.take_set, h5]
  unfold words
  rw [List.map_set]
theorem wat_set (ws : List Nat) (q x k : Nat) (hq : q < ws.length) : wat (ws.set q x) k = if q = k then x else wat ws k := by
  unfold wat
  rw [List.getElem?_set]
  by_cases h : q = k
  · subst h; simp [hq]
  · simp [h]
theorem Sz.set {f room : Int} {ws : List Nat} (h : Sz f room ws) (q x : Nat) (hq : q < ws.length) (hx : x < 18446744073709551616) : Sz f room (ws.set q x) :=
  ⟨h.lo, h.one, h.most, h.hi, by rw [List.length_set]; exact h.len, fun k => by rw [wat_set ws q x k hq]; split <;> first | exact hx | exact h.word k⟩

/-- The words with bit number n turned. -/
def flip (ws : List Nat) (n : Nat) : List Nat := ws.set (n / 64) (wat ws (n / 64) ^^^ 2 ^ (n % 64))

set_option maxHeartbeats 2000000 in
theorem turn_any (b g c n : Nat) (f room v : Int) (ws : List Nat) (W : World) (h : Bits W b g c f room ws) (hz : Sz f room ws) (hn : v - f = (n : Int)) (hn2 : n / 64 < ws.length) :
    Calls Tryd.prog 52 #[.pointer (some ⟨b, 0, none⟩), .int .i64 v] W fun e w' => (∃ u, e = .returned u) ∧ ∃ m, w' = (W.setCell ⟨g, n / 64, none⟩ (.int .u64 ((wat ws (n / 64) ^^^ 2 ^ (n % 64) : Nat) : Int))).drewN m := by
  have c0 := h.c0; have c2 := h.c2
  obtain ⟨cw, fw⟩ := h.cw (n / 64) hn2
  have z1 := hz.lo; have z2 := hz.one; have z3 := hz.most; have z4 := hz.hi; have hl := hz.len
  obtain ⟨q, hq, hq2⟩ : ∃ q : Nat, (n : Int) / 64 = (q : Int) ∧ n / 64 = q := ⟨n / 64, by omega, rfl⟩
  obtain ⟨r, hr, hr2⟩ : ∃ r : Nat, (n : Int) % 64 = (r : Int) ∧ n % 64 = r := ⟨n % 64, by omega, rfl⟩
  have hr3 : r < 64 := by omega
  rw [hq2] at cw fw hn2
  rw [hq2, hr2]
  obtain ⟨L, hL⟩ : ∃ L, ws.length = L := ⟨_, rfl⟩
  rw [hL] at hn2 c2 hl
  obtain ⟨x, hx⟩ : ∃ x, wat ws q = x := ⟨_, rfl⟩
  rw [hx] at cw
  rw [hx]
  have hxl : x < 18446744073709551616 := by rw [← hx]; exact hz.word q
  have hres := xor_pow x r hxl hr3
  have HRES : Hid (bits .xor .u64 (x : Int) (IntKind.u64.wrap (2 ^ r)) = ((x ^^^ 2 ^ r : Nat) : Int)) := hres
  have hn3 : (n : Int) < 65536 + 64 := by omega
  have hqw : IntKind.i64.wrap (q : Int) = (q : Int) := by rw [IntKind.wrap_i64]; omega
  have hrt : Int.tmod (n : Int) 64 = (r : Int) := by rw [Int.tmod_eq_emod_of_nonneg (by omega)]; exact hr
  have hq4 : (q : Int) < (L : Int) := by omega
  have hr4 : (r : Int) < 64 := by omega
  have hvf : wrap64 (v - f) = (n : Int) := by rw [hn]; unfold wrap64; omega
  clear hq2 hr2 hL hx hres h hz hxl
  go_enter Tryd.func52, Tryd.ntmps52
  go_wp2
  go_region
  all_goals go_wp2
  all_goals
    go_end0
    exact ⟨⟨_, rfl⟩, 1, by rw [HRES.out]; rfl⟩

theorem turned (W : World) (p : Addr) (v : Value) (n m : Nat) : ((W.drewN n).setCell p v).drewN m = (W.setCell p v).drewN (n + m) := by
  show ((W.setCell p v).drewN n).drewN m = _
  rw [World.drewN_drewN]

set_option maxHeartbeats 400000 in
theorem del_no (b g c : Nat) (f room v : Int) (ws : List Nat) (W : World) (h : Bits W b g c f room ws) (hz : Sz f room ws) (hh : hasB f room ws v = false) :
    Calls Tryd.prog 18 #[.pointer (some ⟨b, 0, none⟩), .int .i64 v] W fun e w' => e = .returned (.tuple #[.bool false, .int .i64 0]) ∧ ∃ m, w' = W.drewN m := by
  have k := has_any b g c f room v ws W h hz
  rw [hh] at k
  clear h hz hh
  go_enter Tryd.func18, Tryd.ntmps18
  go_wp2_with (go_at_call 32; refine k.mono ?_; clear k; rintro e w1 ⟨rfl, n1, rfl⟩)
  go_ret2
  exact ⟨rfl, _, rfl⟩
theorem has_room {f room : Int} {ws : List Nat} {v : Int} (hz : Sz f room ws) (hf : f ≤ v ∧ v < f + room) : ∃ n : Nat, v - f = (n : Int) ∧ n / 64 < ws.length := by
  have := hz.len
  exact ⟨(v - f).toNat, by omega, by omega⟩
theorem has_fits {f room : Int} {ws : List Nat} {v : Int} (hh : hasB f room ws v = true) : f ≤ v ∧ v < f + room := by
  unfold hasB fitB at hh
  rw [Bool.and_eq_true] at hh
  simpa using hh.1
set_option maxHeartbeats 400000 in
theorem del_yes (b g c n : Nat) (f room v : Int) (ws : List Nat) (W : World) (h : Bits W b g c f room ws) (hz : Sz f room ws) (hh : hasB f room ws v = true) (hn : v - f = (n : Int)) (hn2 : n / 64 < ws.length) :
    Calls Tryd.prog 18 #[.pointer (some ⟨b, 0, none⟩), .int .i64 v] W fun e w' => e = .returned (.tuple #[.bool true, .int .i64 0]) ∧ ∃ m, w' = (W.setCell ⟨g, n / 64, none⟩ (.int .u64 ((wat ws (n / 64) ^^^ 2 ^ (n % 64) : Nat) : Int))).drewN m := by
  have k := has_any b g c f room v ws W h hz
  rw [hh] at k
  have k2 := fun m => turn_any b g c n f room v ws (W.drewN m) (h.drawn m) hz hn hn2
  obtain ⟨X, hX⟩ : ∃ X, wat ws (n / 64) ^^^ 2 ^ (n % 64) = X := ⟨_, rfl⟩
  obtain ⟨q, hq⟩ : ∃ q, n / 64 = q := ⟨_, rfl⟩
  rw [hX] at k2 ⊢
  rw [hq] at k2 ⊢
  clear h hz hh hX hq hn hn2
  go_enter Tryd.func18, Tryd.ntmps18
  go_wp2_with (first | (go_at_call 32; refine k.mono ?_; clear k; rintro e w1 ⟨rfl, n1, rfl⟩) | (go_at_call 52; refine (k2 _).mono ?_; clear k2; rintro e w1 ⟨⟨u, rfl⟩, n2, rfl⟩))
  go_ret2
  exact ⟨rfl, _, turned _ _ _ _ _⟩
set_option maxHeartbeats 400000 in
theorem add_dom (b g c : Nat) (f room v : Int) (ws : List Nat) (W : World) (h : Bits W b g c f room ws) (hz : Sz f room ws) (hf : ¬ (f ≤ v ∧ v < f + room)) :
    Calls Tryd.prog 16 #[.pointer (some ⟨b, 0, none⟩), .int .i64 v] W fun e w' => e = .returned (.tuple #[.bool false, .int .i64 20]) ∧ ∃ m, w' = W.drewN m := by
  have k := fits_any b g c f room v ws W h hz
  rw [fitB_no hf] at k
  clear h hz hf
  go_enter Tryd.func16, Tryd.ntmps16
  go_wp2_with (go_at_call 51; refine k.mono ?_; clear k; rintro e w1 ⟨rfl, n1, rfl⟩)
  go_ret2
  exact ⟨rfl, _, rfl⟩
set_option maxHeartbeats 400000 in
theorem add_is (b g c : Nat) (f room v : Int) (ws : List Nat) (W : World) (h : Bits W b g c f room ws) (hz : Sz f room ws) (hh : hasB f room ws v = true) :
    Calls Tryd.prog 16 #[.pointer (some ⟨b, 0, none⟩), .int .i64 v] W fun e w' => e = .returned (.tuple #[.bool false, .int .i64 0]) ∧ ∃ m, w' = W.drewN m := by
  have k := fits_any b g c f room v ws W h hz
  rw [fitB_yes (has_fits hh)] at k
  have k2 := fun m => has_any b g c f room v ws (W.drewN m) (h.drawn m) hz
  rw [hh] at k2
  clear h hz hh
  go_enter Tryd.func16, Tryd.ntmps16
  go_wp2_with (first | (go_at_call 51; refine k.mono ?_; clear k; rintro e w1 ⟨rfl, n1, rfl⟩) | (go_at_call 32; refine (k2 _).mono ?_; clear k2; rintro e w1 ⟨rfl, n2, rfl⟩))
  go_ret2
  exact ⟨rfl, _, rfl⟩
set_option maxHeartbeats 400000 in
theorem add_new (b g c n : Nat) (f room v : Int) (ws : List Nat) (W : World) (h : Bits W b g c f room ws) (hz : Sz f room ws) (hf : f ≤ v ∧ v < f + room) (hh : hasB f room ws v = false) (hn : v - f = (n : Int)) (hn2 : n / 64 < ws.length) :
    Calls Tryd.prog 16 #[.pointer (some ⟨b, 0, none⟩), .int .i64 v] W fun e w' => e = .returned (.tuple #[.bool true, .int .i64 0]) ∧ ∃ m, w' = (W.setCell ⟨g, n / 64, none⟩ (.int .u64 ((wat ws (n / 64) ^^^ 2 ^ (n % 64) : Nat) : Int))).drewN m := by
  have k := fits_any b g c f room v ws W h hz
  rw [fitB_yes hf] at k
  have k2 := fun m => has_any b g c f room v ws (W.drewN m) (h.drawn m) hz
  rw [hh] at k2
  have k3 := fun m => turn_any b g c n f room v ws (W.drewN m) (h.drawn m) hz hn hn2
  obtain ⟨X, hX⟩ : ∃ X, wat ws (n / 64) ^^^ 2 ^ (n % 64) = X := ⟨_, rfl⟩
  obtain ⟨q, hq⟩ : ∃ q, n / 64 = q := ⟨_, rfl⟩
  rw [hX] at k3 ⊢
  rw [hq] at k3 ⊢
  clear h hz hh hX hq hn hn2 hf
  go_enter Tryd.func16, Tryd.ntmps16
  go_wp2_with (first | (go_at_call 51; refine k.mono ?_; clear k; rintro e w1 ⟨rfl, n1, rfl⟩) | (go_at_call 32; refine (k2 _).mono ?_; clear k2; rintro e w1 ⟨rfl, n2, rfl⟩) | (go_at_call 52; refine (k3 _).mono ?_; clear k3; rintro e w1 ⟨⟨u, rfl⟩, n2, rfl⟩))
  go_ret2
  exact ⟨rfl, _, turned _ _ _ _ _⟩
set_option maxHeartbeats 400000 in
theorem add_nil (v : Int) (W : World) :
    Calls Tryd.prog 16 #[.pointer none, .int .i64 v] W fun e w' => e = .returned (.tuple #[.bool false, .int .i64 2]) ∧ w' = W := by
  go_enter Tryd.func16, Tryd.ntmps16
  go_wp2
  go_ret2
  exact ⟨rfl, rfl⟩
set_option maxHeartbeats 400000 in
theorem del_nil (v : Int) (W : World) :
    Calls Tryd.prog 18 #[.pointer none, .int .i64 v] W fun e w' => e = .returned (.tuple #[.bool false, .int .i64 2]) ∧ w' = W := by
  go_enter Tryd.func18, Tryd.ntmps18
  go_wp2
  go_ret2
  exact ⟨rfl, rfl⟩
end Go.Proofs.YtgcgomofmicchaaDoor
