/-
  What is proved here: what bits.Of returns of any ranges.
-/
import Derived.Test.YtgcgomofmicchaaDoorXl
namespace Go.Proofs.YtgcgomofmicchaaDoor
open Go.RowKit Go.Shelf

/-- How many values lie from the least to the greatest. -/
def room (l : List Rg) : Int := hi l (l.length - 1) - lo l 0 + 1
/-- The words of ranges. -/
def wordsR (l : List Rg) : List Nat := wordsOf (vals l) (lo l 0) ((room l + 63) / 64).toNat

set_option maxHeartbeats 400000 in
theorem of_no (s : Value) (l : List Rg) (w : World) (h : Sr w s l) (hf : FitsR l) (hR : ¬ Some' l) :
    Calls Tryd.prog 9 #[s] w fun e w' => e = .returned (.tuple #[.pointer none, .int .i64 20]) ∧ Below w.heap.size w w' := by
  have k := min_no s l w h hf hR
  obtain ⟨a, cap, rfl, _⟩ := h
  go_enter Tryd.func9, Tryd.ntmps9
  go_wp2_with (go_at_call 42; refine k.mono ?_; clear k; rintro e w1 ⟨rfl, hb1⟩)
  go_ret2
  exact ⟨rfl, hb1⟩
set_option maxHeartbeats 400000 in
theorem made_long (f t : Int) (s : Value) (w : World) (h1 : -1000000 ≤ f) (h2 : t ≤ 1000000) (h3 : f ≤ t) (h4 : 65536 < t - f + 1) (hs : ∃ a n c, s = .slice a n c) :
    Calls Tryd.prog 44 #[.int .i64 f, .int .i64 t, s] w fun e w' => e = .returned (.tuple #[.pointer none, .int .i64 4]) ∧ Below w.heap.size w w' := by
  obtain ⟨a, n, c, rfl⟩ := hs
  have hd1 : decide (f < -1000000) = false := by simp; omega
  have hd2 : decide (1000000 < t) = false := by simp; omega
  have hd3 : decide (t < f) = false := by simp; omega
  go_enter Tryd.func44, Tryd.ntmps44
  go_wp2
  go_ret2
  exact ⟨rfl, (Below.refl _ _).alloc (Nat.le_refl _) _⟩
set_option maxHeartbeats 400000 in
theorem of_long (s : Value) (l : List Rg) (w : World) (h : Sr w s l) (hf : FitsR l) (hR : Some' l) (hl : 65536 < room l) :
    Calls Tryd.prog 9 #[s] w fun e w' => e = .returned (.tuple #[.pointer none, .int .i64 4]) ∧ Below w.heap.size w w' := by
  have k1 := min_yes s l w h hf hR
  have k2 := fun w1 (hb : Below w.heap.size w w1) => max_yes s l w1 (h.below hb) hf hR
  obtain ⟨e1, e2, e3, _⟩ := right_ends l hR.1 hR.2
  have k3 := fun w1 => made_long (lo l 0) (hi l (l.length - 1)) s w1 e1 e2 e3 hl (by obtain ⟨a, c, rfl, _⟩ := h; exact ⟨a, _, c, rfl⟩)
  obtain ⟨x, hx⟩ : ∃ x, lo l 0 = x := ⟨_, rfl⟩
  obtain ⟨y, hy⟩ : ∃ y, hi l (l.length - 1) = y := ⟨_, rfl⟩
  rw [hx] at k1 k3; rw [hy] at k2 k3
  obtain ⟨a, cap, rfl, _⟩ := h
  clear hx hy e1 e2 e3 hl hf hR
  go_enter Tryd.func9, Tryd.ntmps9
  go_wp2_with (first | (go_at_call 42; refine k1.mono ?_; clear k1; rintro e w1 ⟨rfl, hb1⟩) | (go_at_call 43; refine (k2 _ hb1).mono ?_; clear k2; rintro e w2 ⟨rfl, hb2⟩) | (go_at_call 44; refine (k3 _).mono ?_; clear k3; rintro e w3 ⟨rfl, hb3⟩))
  go_ret2
  have := hb1.size; have := hb2.size
  exact ⟨rfl, (hb1.trans (hb2.mono hb1.size)).trans (hb3.mono (by omega))⟩
set_option maxHeartbeats 400000 in
theorem of_yes (s : Value) (l : List Rg) (w : World) (h : Sr w s l) (hf : FitsR l) (hR : Some' l) (hl : room l ≤ 65536) :
    Calls Tryd.prog 9 #[s] w fun e w' => ∃ b, e = .returned (.tuple #[.pointer (some ⟨b, 0, none⟩), .int .i64 0]) ∧ IsBits w' w.heap.size b (lo l 0) (room l) (wordsR l) ∧ Below w.heap.size w w' := by
  have k1 := min_yes s l w h hf hR
  have k2 := fun w1 (hb : Below w.heap.size w w1) => max_yes s l w1 (h.below hb) hf hR
  obtain ⟨e1, e2, e3, e4⟩ := right_ends l hR.1 hR.2
  have k3 := fun w1 (hb : Below w.heap.size w w1) => made_some (lo l 0) (hi l (l.length - 1)) s l w1 (h.below hb) hf hR e1 e2 e3 hl e4
  have hw : wordsOf (vals l) (lo l 0) ((hi l (l.length - 1) - lo l 0 + 64) / 64).toNat = wordsR l := by unfold wordsR room; congr 3; omega
  rw [hw] at k3
  have hr : hi l (l.length - 1) - lo l 0 + 1 = room l := rfl
  rw [hr] at k3
  obtain ⟨R, hR'⟩ : ∃ R, room l = R := ⟨_, rfl⟩
  rw [hR'] at k3 ⊢
  obtain ⟨x, hx⟩ : ∃ x, lo l 0 = x := ⟨_, rfl⟩
  obtain ⟨y, hy⟩ : ∃ y, hi l (l.length - 1) = y := ⟨_, rfl⟩
  obtain ⟨ws, hws⟩ : ∃ ws, wordsR l = ws := ⟨_, rfl⟩
  rw [hws] at k3 ⊢
  rw [hx] at k1 k3 ⊢; rw [hy] at k2 k3
  obtain ⟨a, cap, rfl, _⟩ := h
  clear hx hy e1 e2 e3 e4 hl hf hR hw hr hR' hws
  go_enter Tryd.func9, Tryd.ntmps9
  go_wp2_with (first | (go_at_call 42; refine k1.mono ?_; clear k1; rintro e w1 ⟨rfl, hb1⟩) | (go_at_call 43; refine (k2 _ hb1).mono ?_; clear k2; rintro e w2 ⟨rfl, hb2⟩; have hb12 := hb1.trans (hb2.mono hb1.size)) | (go_at_call 44; refine (k3 _ hb12).mono ?_; clear k3; rintro e w3 ⟨b, rfl, hib, hb3⟩))
  go_ret2
  refine ⟨b, rfl, ?_, hb12.trans (hb3.mono hb12.size)⟩
  obtain ⟨g, c, q1, q2, q3⟩ := hib
  exact ⟨g, c, Nat.le_trans hb12.size q1, q2, own_base q3 hb12.size⟩

theorem wat_wordsOf (vs : List Int) (f : Int) (n k : Nat) (hk : k < n) : wat (wordsOf vs f n) k = wd vs f k := by unfold wat wordsOf; simp [hk]
theorem bt_wordsR (l : List Rg) (hR : Some' l) (k : Int) : bt (wordsR l) k = true ↔ (lo l 0 + k) ∈ vals l := by
  obtain ⟨e1, e2, e3, e4⟩ := right_ends l hR.1 hR.2
  unfold bt
  by_cases h0 : k < 0
  · rw [if_pos h0]
    constructor
    · intro h; cases h
    · intro h; have := e4 _ h; omega
  · rw [if_neg h0]
    by_cases hk : k.toNat / 64 < ((room l + 63) / 64).toNat
    · unfold wordsR
      rw [wat_wordsOf _ _ _ _ hk, wd_bit _ _ _ _ (by omega)]
      constructor
      · rintro ⟨v, hv, e⟩
        have := e4 v hv
        rw [show lo l 0 + k = v by omega]; exact hv
      · intro h; exact ⟨_, h, by omega⟩
    · have : wat (wordsR l) (k.toNat / 64) = 0 := by unfold wat wordsR wordsOf; rw [List.getElem?_eq_none (by simpa using hk)]; rfl
      rw [this, Nat.zero_testBit]
      constructor
      · intro h; cases h
      · intro h; have := e4 _ h; unfold room at hk; omega
theorem sz_wordsR (l : List Rg) (hR : Some' l) (hl : room l ≤ 65536) : Sz (lo l 0) (room l) (wordsR l) := by
  obtain ⟨e1, e2, e3, e4⟩ := right_ends l hR.1 hR.2
  refine ⟨e1, by unfold room; omega, hl, by unfold room; omega, ?_, fun k => ?_⟩
  · unfold wordsR wordsOf; simp; unfold room; omega
  · by_cases hk : k < ((room l + 63) / 64).toNat
    · unfold wordsR; rw [wat_wordsOf _ _ _ _ hk]; exact wd_lt _ _ _
    · unfold wat wordsR wordsOf; rw [List.getElem?_eq_none (by simpa using hk)]; decide
theorem cl_wordsR (l : List Rg) (hR : Some' l) : Cl (room l) (wordsR l) := fun k hk => by
  obtain ⟨e1, e2, e3, e4⟩ := right_ends l hR.1 hR.2
  cases h : bt (wordsR l) k
  · rfl
  · have := e4 _ ((bt_wordsR l hR k).1 h); unfold room at hk; omega
end Go.Proofs.YtgcgomofmicchaaDoor
