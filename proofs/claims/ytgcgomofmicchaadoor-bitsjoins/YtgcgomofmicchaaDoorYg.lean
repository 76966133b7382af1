/-
  What is proved here: what math/bits.Len64 and Max return.
-/
import Derived.Test.YtgcgomofmicchaaDoorYf
import Derived.Lib.BitFns
namespace Go.Proofs.YtgcgomofmicchaaDoor
open Go.RowKit Go.Shelf

theorem tab_at (i : Int) (h : i.toNat < Lib.len8tab.size) : ((Lib.len8tab[i.toNat]'h).toNat : Int) = Lib.len8 i := by
  unfold Lib.len8
  rw [getElem?_pos Lib.len8tab i.toNat h]; rfl
theorem len_step (x i kk : Int) (k d : Nat) (hk : kk = (k : Int)) (h0 : 0 ≤ i) (h1 : i ≤ 255) (e : i.toNat = x.toNat / d) (s : Lib.bitLen x.toNat = k + Lib.bitLen (x.toNat / d)) (h2 : k ≤ 56) : wrap64 (kk + wrap64 (Lib.len8 i)) = (Lib.bitLen x.toNat : Int) := by
  have l := Lib.bitLen_le8' i h0 h1
  rw [Lib.len8_of i h0 h1, s, ← e, hk]
  generalize Lib.bitLen i.toNat = y at l ⊢
  simp only [wrap64]
  omega
set_option maxHeartbeats 400000 in
set_option maxRecDepth 100000 in
theorem len64_any (x : Int) (w : World) (h0 : 0 ≤ x) (h1 : x ≤ 18446744073709551615) :
    Calls Tryd.prog 70 #[.int .u64 x] w fun e w' => e = .returned (.int .i64 (Lib.bitLen x.toNat)) ∧ w' = w := by
  have mixed : Tryd.prog.follows .mixedOrders = true := by kernel_rfl
  have hsz : (Lib.len8tab.size : Int) = 256 := by rw [Lib.len8tab_size]; rfl
  go_enter Tryd.func70, Tryd.ntmps70
  go_wp2
  all_goals (go_ret; refine ⟨congrArg Ending.returned (congrArg (Value.int IntKind.i64) ?_), rfl⟩; rw [tab_at]; clear hsz)
  · exact len_step x (x / 4294967296 / 65536 / 256) 56 56 72057594037927936 rfl (by omega) (by omega) (by omega) (Lib.bitLen_shift56 x.toNat (by omega) (by omega)) (by omega)
  · exact len_step x (x / 4294967296 / 65536) 48 48 281474976710656 rfl (by omega) (by omega) (by omega) (Lib.bitLen_shift48 x.toNat (by omega) (by omega)) (by omega)
  · exact len_step x (x / 4294967296 / 256) 40 40 1099511627776 rfl (by omega) (by omega) (by omega) (Lib.bitLen_shift40 x.toNat (by omega) (by omega)) (by omega)
  · exact len_step x (x / 4294967296) 32 32 4294967296 rfl (by omega) (by omega) (by omega) (Lib.bitLen_shift32 x.toNat (by omega) (by omega)) (by omega)
  · exact len_step x (x / 65536 / 256) 24 24 16777216 rfl (by omega) (by omega) (by omega) (Lib.bitLen_shift24 x.toNat (by omega) (by omega)) (by omega)
  · exact len_step x (x / 65536) 16 16 65536 rfl (by omega) (by omega) (by omega) (Lib.bitLen_shift16 x.toNat (by omega) (by omega)) (by omega)
  · exact len_step x (x / 256) 8 8 256 rfl (by omega) (by omega) (by omega) (Lib.bitLen_shift8 x.toNat (by omega) (by omega)) (by omega)
  · have l := Lib.bitLen_le8' x (by omega) (by omega)
    rw [Lib.len8_of x (by omega) (by omega)]
    generalize Lib.bitLen x.toNat = y at l ⊢
    simp only [wrap64]
    omega

/-- What Max tells: the number of the greatest word that is not 0, and in it the greatest bit. -/
def MaxEnd (f : Int) (ws : List Nat) (n : Nat) (e : Ending) : Prop :=
  ((∀ k, k < n → wat ws k = 0) ∧ e = .returned (.tuple #[.int .i64 0, .bool false])) ∨
  ∃ k, k < n ∧ wat ws k ≠ 0 ∧ (∀ j, k < j → j < n → wat ws j = 0) ∧ e = .returned (.tuple #[.int .i64 (f + ((k * 64 + Lib.bitLen (wat ws k) : Nat) : Int) - 1), .bool true])
set_option maxHeartbeats 2000000 in
theorem max_any (b g c : Nat) (f room : Int) (ws : List Nat) (W : World) (h : Bits W b g c f room ws) (hz : Sz f room ws) :
    Calls Tryd.prog 36 #[.pointer (some ⟨b, 0, none⟩)] W fun e w' => MaxEnd f ws ws.length e ∧ ∃ m, w' = W.drewN m := by
  have c0 := h.c0
  have c2 := h.c2
  have hl := hz.len; have z1 := hz.lo; have z2 := hz.one; have z3 := hz.most; have z4 := hz.hi
  obtain ⟨n, hn⟩ : ∃ n, ws.length = n := ⟨_, rfl⟩
  have hcw : ∀ k, k < n → W.cell? ⟨g, k, none⟩ = some (.int .u64 (wat ws k : Nat)) := fun k hk => (h.cw k (by omega)).1
  have HCW : Hid (∀ k, k < n → W.cell? ⟨g, k, none⟩ = some (.int .u64 (wat ws k : Nat))) := hcw
  have HW : Hid (∀ k, wat ws k < 18446744073709551616) := hz.word
  rw [hn] at c2 hl ⊢
  have hn2 : (n : Int) ≤ 1024 := by omega
  clear hn hl h hz hcw
  go_enter Tryd.func36, Tryd.ntmps36
  go_wp2
  go_loop [4] (fun i => ∃ k : Nat, k ≤ n ∧ i = .int .i64 ((k : Int) - 1) ∧ ∀ j, k ≤ j → j < n → wat ws j = 0) (fun i => ((intOf i) + 1).toNat)
  case atStart => exact ⟨n, Nat.le_refl _, rfl, fun j h1 h2 => absurd h1 (by omega)⟩
  case round =>
    obtain ⟨k, hk, rfl, hall⟩ := hrel
    have HA : Hid (∀ j, k ≤ j → j < n → wat ws j = 0) := hall
    clear hall
    by_cases hlt : 0 < k
    · obtain ⟨m, rfl⟩ : ∃ m, k = m + 1 := ⟨k - 1, by omega⟩
      have hc := HCW.out m (by omega)
      have hw := HW.out m
      obtain ⟨x, hx⟩ : ∃ x, wat ws m = x := ⟨_, rfl⟩
      have HX : Hid (wat ws m = x) := hx
      rw [hx] at hc hw
      have ko := fun V => len64_any (x : Int) V (by omega) (by omega)
      rw [Int.toNat_natCast] at ko
      have hm1 : ((m + 1 : Nat) : Int) - 1 = (m : Int) := by omega
      rw [hm1]
      clear hx
      by_cases hx0 : x = 0
      · subst hx0
        go_wp2
        go_round
        case rel => exact ⟨m, by omega, by go_num, fun j h1 h2 => by
          by_cases e : j = m
          · subst e; exact HX.out
          · exact HA.out j (by omega) h2⟩
        case measure => simp [intOf]
      · have hd : ((x : Int) = 0) = False := by simp; omega
        have hb64 : Lib.bitLen x ≤ 64 := Lib.bitLen_le x 64 (by omega) (by omega)
        obtain ⟨y, hy⟩ : ∃ y, Lib.bitLen x = y := ⟨_, rfl⟩
        rw [hy] at ko hb64
        have HY : Hid (Lib.bitLen x = y) := hy
        clear hy
        go_wp2
        go_quiet ((go_at_call 70; exact Calls.quiet_of_same (ko _)))
        go_wp2
        go_ret2
        exact ⟨.inr ⟨m, by omega, by rw [HX.out]; exact hx0, fun j h1 h2 => HA.out j (by omega) h2, by rw [HX.out, HY.out]; go_num⟩, _, rfl⟩
    · obtain rfl : k = 0 := by omega
      go_wp2
      go_ret2
      exact ⟨.inl ⟨fun j h => HA.out j (Nat.zero_le _) h, rfl⟩, 0, rfl⟩
end Go.Proofs.YtgcgomofmicchaaDoor
