/-
  What is proved here: slices.IndexFunc and slices.ContainsFunc of ranges, of terms and of outputs.
-/
import Derived.Test.YtdnhhmnllhlbbaaGreatDoorCEcj
namespace Go.Proofs.YtdnhhmnllhlbbaaGreatDoor
open Go.RowKit Go.Shelf
set_option linter.unusedVariables false
set_option linter.unusedSimpArgs false
def anyB (p : Nat → Bool) (n : Nat) : Bool := (List.range n).any p

/-- What a walk over such elements wants of them: their cells, and what the function says of them. -/
def ElR (W : World) (a : Option Addr) (n : Nat) (p : Nat → Bool) : Prop := ∀ k, k < n → ∃ b off c0 c1, a = some ⟨b, off, none⟩ ∧ b < W.heap.size ∧ W.cell? ⟨b, off + k * 2, none⟩ = some c0 ∧ W.cell? ⟨b, off + k * 2 + 1, none⟩ = some c1 ∧ ∀ X, Below W.heap.size W X → Calls Tryz.prog 82 #[.agg #[c0, c1]] X fun e w' => e = .returned (.bool (p k)) ∧ Below X.heap.size X w'

set_option maxRecDepth 100000 in
set_option maxHeartbeats 4000000 in
theorem idxR {W : World} {a : Option Addr} {n c : Nat} {p : Nat → Bool} (h : ElR W a n p) (hn : n ≤ 17592186043904) :
    Calls Tryz.prog 102 #[.slice a n c, .func (.func 82) #[] #[]] W fun e w' => (∃ i : Int, e = .returned (.int .i64 i) ∧ (0 ≤ i ∧ anyB p n = true ∨ i = -1 ∧ anyB p n = false)) ∧ Below W.heap.size W w' := by
  have HE : Hid (ElR W a n p) := h
  clear h
  go_enter Tryz.func102, Tryz.ntmps102
  go_wp2
  go_loopw [8] (fun i wr => ∃ k : Nat, k ≤ n ∧ i = .int .i64 (k : Int) ∧ Hid (∀ j, j < k → p j = false) ∧ Hid (Below W.heap.size W wr)) (fun i _ => n - (intOf i).toNat)
  case atStart => exact ⟨0, Nat.zero_le _, rfl, fun j hj => absurd hj (Nat.not_lt_zero _), Below.refl _ _⟩
  case round =>
    obtain ⟨k, hk, rfl, HQ, HB⟩ := hrel
    by_cases hlt : k < n
    · have hlt' : (k : Int) < n := by omega
      obtain ⟨b, off, c0, c1, rfl, hb, d0, d1, hc⟩ := HE.out k hlt
      have y0 := (HB.out.cell (p := ⟨b, off + k * 2, none⟩) hb).trans d0
      have y1 := (HB.out.cell (p := ⟨b, off + k * 2 + 1, none⟩) hb).trans d1
      have kc := hc _ HB.out
      clear hc d0 d1
      have hw2 : IntKind.i64.wrap ((k : Int) + 1) = (k : Int) + 1 := by rw [IntKind.wrap_i64]; omega
      cases hp : p k with
      | false =>
        have HK : Hid (∀ j, j < k + 1 → p j = false) := fun j hj => by
          rcases Nat.lt_succ_iff_lt_or_eq.1 hj with q | rfl
          · exact HQ.out j q
          · exact hp
        rw [hp] at kc
        clear hp
        go_wp2_with fail
        refine kc.mono ?_
        rintro e w1 ⟨rfl, hb1⟩
        have HB1 : Hid (Below W.heap.size W w1) := HB.out.trans (hb1.mono HB.out.size)
        clear hb1 kc y0 y1
        go_wp2
        go_roundw
        case rel => exact ⟨k + 1, by omega, by go_num, HK, HB1⟩
        case measure => simp [intOf] <;> omega
      | true =>
        have HA : Hid (anyB p n = true) := by rw [Hid, anyB, List.any_eq_true]; exact ⟨k, List.mem_range.2 hlt, hp⟩
        rw [hp] at kc
        clear hp
        go_wp2_with fail
        refine kc.mono ?_
        rintro e w1 ⟨rfl, hb1⟩
        go_wp2
        go_ret
        exact ⟨⟨_, rfl, .inl ⟨by omega, HA.out⟩⟩, HB.out.trans (hb1.mono HB.out.size)⟩
    · have hlt' : ¬ (k : Int) < n := by omega
      obtain rfl : k = n := by omega
      have HA : Hid (anyB p k = false) := by rw [Hid, anyB, List.any_eq_false]; intro j hj; simp [HQ.out j (List.mem_range.1 hj)]
      go_wp2
      go_ret
      exact ⟨⟨_, rfl, .inr ⟨rfl, HA.out⟩⟩, HB.out⟩

set_option maxRecDepth 100000 in
set_option maxHeartbeats 4000000 in
theorem hasR {W : World} {a : Option Addr} {n c : Nat} {p : Nat → Bool} (h : ElR W a n p) (hn : n ≤ 17592186043904) :
    Calls Tryz.prog 81 #[.slice a n c, .func (.func 82) #[] #[]] W fun e w' => e = .returned (.bool (anyB p n)) ∧ Below W.heap.size W w' := by
  have k := idxR (c := c) h hn
  obtain ⟨r, hr⟩ : ∃ r, anyB p n = r := ⟨_, rfl⟩
  rw [hr] at k ⊢
  clear h hr
  go_enter Tryz.func81, Tryz.ntmps81
  go_wp2_with fail
  refine k.mono ?_
  rintro e w1 ⟨⟨i, rfl, hi⟩, hb1⟩
  clear k
  rcases hi with ⟨h0, rfl⟩ | ⟨rfl, rfl⟩
  · go_wp2
    go_ret
    exact ⟨rfl, hb1⟩
  · go_wp2
    go_ret
    exact ⟨rfl, hb1⟩

/-- What a walk over such elements wants of them: their cells, and what the function says of them. -/
def ElT (W : World) (a : Option Addr) (n : Nat) (q : Option Addr) (p : Nat → Bool) : Prop := ∀ k, k < n → ∃ b off c0 c1 c2 c3, a = some ⟨b, off, none⟩ ∧ b < W.heap.size ∧ W.cell? ⟨b, off + k * 4, none⟩ = some c0 ∧ W.cell? ⟨b, off + k * 4 + 1, none⟩ = some c1 ∧ W.cell? ⟨b, off + k * 4 + 2, none⟩ = some c2 ∧ W.cell? ⟨b, off + k * 4 + 3, none⟩ = some c3 ∧ ∀ X, Below W.heap.size W X → Calls Tryz.prog 85 #[.agg #[c0, c1, c2, c3], .pointer q] X fun e w' => e = .returned (.bool (p k)) ∧ Below X.heap.size X w'

set_option maxRecDepth 100000 in
set_option maxHeartbeats 4000000 in
theorem idxT {W : World} {a : Option Addr} {n c : Nat} {q : Option Addr} {p : Nat → Bool} (h : ElT W a n q p) (hn : n ≤ 17592186043904) :
    Calls Tryz.prog 84 #[.slice a n c, .func (.func 85) #[] #[.pointer q]] W fun e w' => (∃ i : Int, e = .returned (.int .i64 i) ∧ (0 ≤ i ∧ anyB p n = true ∨ i = -1 ∧ anyB p n = false)) ∧ Below W.heap.size W w' := by
  have HE : Hid (ElT W a n q p) := h
  clear h
  go_enter Tryz.func84, Tryz.ntmps84
  go_wp2
  go_loopw [8] (fun i wr => ∃ k : Nat, k ≤ n ∧ i = .int .i64 (k : Int) ∧ Hid (∀ j, j < k → p j = false) ∧ Hid (Below W.heap.size W wr)) (fun i _ => n - (intOf i).toNat)
  case atStart => exact ⟨0, Nat.zero_le _, rfl, fun j hj => absurd hj (Nat.not_lt_zero _), Below.refl _ _⟩
  case round =>
    obtain ⟨k, hk, rfl, HQ, HB⟩ := hrel
    by_cases hlt : k < n
    · have hlt' : (k : Int) < n := by omega
      obtain ⟨b, off, c0, c1, c2, c3, rfl, hb, d0, d1, d2, d3, hc⟩ := HE.out k hlt
      have y0 := (HB.out.cell (p := ⟨b, off + k * 4, none⟩) hb).trans d0
      have y1 := (HB.out.cell (p := ⟨b, off + k * 4 + 1, none⟩) hb).trans d1
      have y2 := (HB.out.cell (p := ⟨b, off + k * 4 + 2, none⟩) hb).trans d2
      have y3 := (HB.out.cell (p := ⟨b, off + k * 4 + 3, none⟩) hb).trans d3
      have kc := hc _ HB.out
      clear hc d0 d1 d2 d3
      have hw2 : IntKind.i64.wrap ((k : Int) + 1) = (k : Int) + 1 := by rw [IntKind.wrap_i64]; omega
      cases hp : p k with
      | false =>
        have HK : Hid (∀ j, j < k + 1 → p j = false) := fun j hj => by
          rcases Nat.lt_succ_iff_lt_or_eq.1 hj with q | rfl
          · exact HQ.out j q
          · exact hp
        rw [hp] at kc
        clear hp
        go_wp2_with fail
        refine kc.mono ?_
        rintro e w1 ⟨rfl, hb1⟩
        have HB1 : Hid (Below W.heap.size W w1) := HB.out.trans (hb1.mono HB.out.size)
        clear hb1 kc y0 y1 y2 y3
        go_wp2
        go_roundw
        case rel => exact ⟨k + 1, by omega, by go_num, HK, HB1⟩
        case measure => simp [intOf] <;> omega
      | true =>
        have HA : Hid (anyB p n = true) := by rw [Hid, anyB, List.any_eq_true]; exact ⟨k, List.mem_range.2 hlt, hp⟩
        rw [hp] at kc
        clear hp
        go_wp2_with fail
        refine kc.mono ?_
        rintro e w1 ⟨rfl, hb1⟩
        go_wp2
        go_ret
        exact ⟨⟨_, rfl, .inl ⟨by omega, HA.out⟩⟩, HB.out.trans (hb1.mono HB.out.size)⟩
    · have hlt' : ¬ (k : Int) < n := by omega
      obtain rfl : k = n := by omega
      have HA : Hid (anyB p k = false) := by rw [Hid, anyB, List.any_eq_false]; intro j hj; simp [HQ.out j (List.mem_range.1 hj)]
      go_wp2
      go_ret
      exact ⟨⟨_, rfl, .inr ⟨rfl, HA.out⟩⟩, HB.out⟩

set_option maxRecDepth 100000 in
set_option maxHeartbeats 4000000 in
theorem hasT {W : World} {a : Option Addr} {n c : Nat} {q : Option Addr} {p : Nat → Bool} (h : ElT W a n q p) (hn : n ≤ 17592186043904) :
    Calls Tryz.prog 63 #[.slice a n c, .func (.func 85) #[] #[.pointer q]] W fun e w' => e = .returned (.bool (anyB p n)) ∧ Below W.heap.size W w' := by
  have k := idxT (c := c) h hn
  obtain ⟨r, hr⟩ : ∃ r, anyB p n = r := ⟨_, rfl⟩
  rw [hr] at k ⊢
  clear h hr
  go_enter Tryz.func63, Tryz.ntmps63
  go_wp2_with fail
  refine k.mono ?_
  rintro e w1 ⟨⟨i, rfl, hi⟩, hb1⟩
  clear k
  rcases hi with ⟨h0, rfl⟩ | ⟨rfl, rfl⟩
  · go_wp2
    go_ret
    exact ⟨rfl, hb1⟩
  · go_wp2
    go_ret
    exact ⟨rfl, hb1⟩

/-- What a walk over such elements wants of them: their cells, and what the function says of them. -/
def ElO (W : World) (a : Option Addr) (n : Nat) (p : Nat → Bool) : Prop := ∀ k, k < n → ∃ b off c0 c1 c2 c3 c4, a = some ⟨b, off, none⟩ ∧ b < W.heap.size ∧ W.cell? ⟨b, off + k * 5, none⟩ = some c0 ∧ W.cell? ⟨b, off + k * 5 + 1, none⟩ = some c1 ∧ W.cell? ⟨b, off + k * 5 + 2, none⟩ = some c2 ∧ W.cell? ⟨b, off + k * 5 + 3, none⟩ = some c3 ∧ W.cell? ⟨b, off + k * 5 + 4, none⟩ = some c4 ∧ ∀ X, Below W.heap.size W X → Calls Tryz.prog 37 #[.agg #[c0, c1, c2, c3, c4]] X fun e w' => e = .returned (.bool (p k)) ∧ Below X.heap.size X w'

set_option maxRecDepth 100000 in
set_option maxHeartbeats 4000000 in
theorem idxO {W : World} {a : Option Addr} {n c : Nat} {p : Nat → Bool} (h : ElO W a n p) (hn : n ≤ 17592186043904) :
    Calls Tryz.prog 59 #[.slice a n c, .func (.func 37) #[] #[]] W fun e w' => (∃ i : Int, e = .returned (.int .i64 i) ∧ (0 ≤ i ∧ anyB p n = true ∨ i = -1 ∧ anyB p n = false)) ∧ Below W.heap.size W w' := by
  have HE : Hid (ElO W a n p) := h
  clear h
  go_enter Tryz.func59, Tryz.ntmps59
  go_wp2
  go_loopw [8] (fun i wr => ∃ k : Nat, k ≤ n ∧ i = .int .i64 (k : Int) ∧ Hid (∀ j, j < k → p j = false) ∧ Hid (Below W.heap.size W wr)) (fun i _ => n - (intOf i).toNat)
  case atStart => exact ⟨0, Nat.zero_le _, rfl, fun j hj => absurd hj (Nat.not_lt_zero _), Below.refl _ _⟩
  case round =>
    obtain ⟨k, hk, rfl, HQ, HB⟩ := hrel
    by_cases hlt : k < n
    · have hlt' : (k : Int) < n := by omega
      obtain ⟨b, off, c0, c1, c2, c3, c4, rfl, hb, d0, d1, d2, d3, d4, hc⟩ := HE.out k hlt
      have y0 := (HB.out.cell (p := ⟨b, off + k * 5, none⟩) hb).trans d0
      have y1 := (HB.out.cell (p := ⟨b, off + k * 5 + 1, none⟩) hb).trans d1
      have y2 := (HB.out.cell (p := ⟨b, off + k * 5 + 2, none⟩) hb).trans d2
      have y3 := (HB.out.cell (p := ⟨b, off + k * 5 + 3, none⟩) hb).trans d3
      have y4 := (HB.out.cell (p := ⟨b, off + k * 5 + 4, none⟩) hb).trans d4
      have kc := hc _ HB.out
      clear hc d0 d1 d2 d3 d4
      have hw2 : IntKind.i64.wrap ((k : Int) + 1) = (k : Int) + 1 := by rw [IntKind.wrap_i64]; omega
      cases hp : p k with
      | false =>
        have HK : Hid (∀ j, j < k + 1 → p j = false) := fun j hj => by
          rcases Nat.lt_succ_iff_lt_or_eq.1 hj with q | rfl
          · exact HQ.out j q
          · exact hp
        rw [hp] at kc
        clear hp
        go_wp2_with fail
        refine kc.mono ?_
        rintro e w1 ⟨rfl, hb1⟩
        have HB1 : Hid (Below W.heap.size W w1) := HB.out.trans (hb1.mono HB.out.size)
        clear hb1 kc y0 y1 y2 y3 y4
        go_wp2
        go_roundw
        case rel => exact ⟨k + 1, by omega, by go_num, HK, HB1⟩
        case measure => simp [intOf] <;> omega
      | true =>
        have HA : Hid (anyB p n = true) := by rw [Hid, anyB, List.any_eq_true]; exact ⟨k, List.mem_range.2 hlt, hp⟩
        rw [hp] at kc
        clear hp
        go_wp2_with fail
        refine kc.mono ?_
        rintro e w1 ⟨rfl, hb1⟩
        go_wp2
        go_ret
        exact ⟨⟨_, rfl, .inl ⟨by omega, HA.out⟩⟩, HB.out.trans (hb1.mono HB.out.size)⟩
    · have hlt' : ¬ (k : Int) < n := by omega
      obtain rfl : k = n := by omega
      have HA : Hid (anyB p k = false) := by rw [Hid, anyB, List.any_eq_false]; intro j hj; simp [HQ.out j (List.mem_range.1 hj)]
      go_wp2
      go_ret
      exact ⟨⟨_, rfl, .inr ⟨rfl, HA.out⟩⟩, HB.out⟩

set_option maxRecDepth 100000 in
set_option maxHeartbeats 4000000 in
theorem hasO {W : World} {a : Option Addr} {n c : Nat} {p : Nat → Bool} (h : ElO W a n p) (hn : n ≤ 17592186043904) :
    Calls Tryz.prog 36 #[.slice a n c, .func (.func 37) #[] #[]] W fun e w' => e = .returned (.bool (anyB p n)) ∧ Below W.heap.size W w' := by
  have k := idxO (c := c) h hn
  obtain ⟨r, hr⟩ : ∃ r, anyB p n = r := ⟨_, rfl⟩
  rw [hr] at k ⊢
  clear h hr
  go_enter Tryz.func36, Tryz.ntmps36
  go_wp2_with fail
  refine k.mono ?_
  rintro e w1 ⟨⟨i, rfl, hi⟩, hb1⟩
  clear k
  rcases hi with ⟨h0, rfl⟩ | ⟨rfl, rfl⟩
  · go_wp2
    go_ret
    exact ⟨rfl, hb1⟩
  · go_wp2
    go_ret
    exact ⟨rfl, hb1⟩
end Go.Proofs.YtdnhhmnllhlbbaaGreatDoor
