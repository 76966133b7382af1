/-
  What is proved here: what the reference's Of makes of ranges.
-/
import Derived.Test.YtgcgomofmicchaaDoorYk
import Derived.Test.YtgcgomofmicchaaDoorYh
namespace Go.Proofs.YtgcgomofmicchaaDoor
open Go.RowKit Go.Shelf

set_option maxHeartbeats 1000000 in
theorem refof_no (s : Value) (l : List Rg) (w : World) (h : Sr w s l) (hR : ¬ Some' l) :
    Calls Tryd.prog 10 #[s] w fun e w' => e = .returned (.tuple #[.pointer none, .int .i64 20]) ∧ Below w.heap.size w w' := by
  have k1 := refmin_no s l w h hR
  have k2 := fun m => refmax_no s l (w.drewN m) h hR
  obtain ⟨a, cap, rfl, _⟩ := h
  go_enter Tryd.func10, Tryd.ntmps10
  go_wp2_with (first | (go_at_call 45; refine k1.mono ?_; clear k1; rintro e w1 ⟨rfl, n1, rfl⟩) | (go_at_call 46; refine (k2 _).mono ?_; clear k2; rintro e w1 ⟨rfl, n2, rfl⟩))
  go_ret2
  exact ⟨rfl, below_drewN (Below.refl _ _) _⟩
set_option maxHeartbeats 1000000 in
theorem refof_full (s : Value) (l : List Rg) (w : World) (h : Sr w s l) (hR : Some' l) (hr : 65536 < room l) :
    Calls Tryd.prog 10 #[s] w fun e w' => e = .returned (.tuple #[.pointer none, .int .i64 4]) ∧ Below w.heap.size w w' := by
  have k1 := refmin_yes s l w h hR
  have k2 := fun m => refmax_yes s l (w.drewN m) h hR
  obtain ⟨e1, e2, e3, _⟩ := right_ends l hR.1 hR.2
  unfold room at hr
  obtain ⟨x, hx⟩ : ∃ x, lo l 0 = x := ⟨_, rfl⟩
  obtain ⟨y, hy⟩ : ∃ y, hi l (l.length - 1) = y := ⟨_, rfl⟩
  rw [hx] at k1 e1 e3 hr; rw [hy] at k2 e2 e3 hr
  have k3 := fun V => refnew_full x y V e1 e2 e3 (by omega)
  clear hx hy hR
  obtain ⟨a, cap, rfl, _⟩ := h
  go_enter Tryd.func10, Tryd.ntmps10
  go_wp2_with (first | (go_at_call 45; refine k1.mono ?_; clear k1; rintro e w1 ⟨rfl, n1, rfl⟩) | (go_at_call 46; refine (k2 _).mono ?_; clear k2; rintro e w1 ⟨rfl, n2, rfl⟩) | (go_at_call 12; refine (k3 _).mono ?_; clear k3; rintro e w1 ⟨rfl, rfl⟩))
  go_ret2
  exact ⟨rfl, below_drewN (Below.refl _ _) _⟩

/-- Which values the first i ranges have, and of the next one those below v. -/
def Upto (l : List Rg) (f : Int) (n i : Nat) (v : Int) (p : Nat → Bool) : Prop :=
  ∀ j, j < n → (p j = true ↔ (∃ t, t < i ∧ lo l t ≤ f + j ∧ f + j ≤ hi l t) ∨ (lo l i ≤ f + j ∧ f + j < v))
theorem upto_put {l : List Rg} {f : Int} {n i q : Nat} {v : Int} {p : Nat → Bool} (h : Upto l f n i v p) (hv : lo l i ≤ v) (hq : v - f = (q : Int)) : Upto l f n i (v + 1) (fun j => if j = q then true else p j) := by
  intro j hj
  by_cases e : j = q
  · subst e
    simp only [if_true, true_iff]
    exact .inr ⟨by omega, by omega⟩
  · simp only [if_neg e]
    rw [h j hj]
    constructor
    · rintro (h1 | h1)
      · exact .inl h1
      · exact .inr ⟨h1.1, by omega⟩
    · rintro (h1 | h1)
      · exact .inl h1
      · exact .inr ⟨h1.1, by omega⟩
theorem upto_end {l : List Rg} {f : Int} {n i : Nat} {v : Int} {p : Nat → Bool} (h : Upto l f n i v p) (hv : v = hi l i + 1) (hne : ∀ j, j < n → ¬ (lo l (i + 1) ≤ f + j ∧ f + j < lo l (i + 1))) : Upto l f n (i + 1) (lo l (i + 1)) p := by
  intro j hj
  rw [h j hj]
  constructor
  · rintro (⟨t, ht, h1⟩ | h1)
    · exact .inl ⟨t, by omega, h1⟩
    · exact .inl ⟨i, by omega, h1.1, by omega⟩
  · rintro (⟨t, ht, h1⟩ | h1)
    · by_cases e : t = i
      · subst e; exact .inr ⟨h1.1, by omega⟩
      · exact .inl ⟨t, by omega, h1⟩
    · exact absurd h1 (hne j hj)
theorem uptoL_all {l : List Rg} {f : Int} {n : Nat} {v : Int} {p : Nat → Bool} (h : Upto l f n l.length v p) (hv : v = lo l l.length) (j : Nat) (hj : j < n) : p j = true ↔ f + (j : Int) ∈ vals l := by
  rw [h j hj, mem_vals]
  constructor
  · rintro (h1 | h1)
    · exact h1
    · omega
  · exact .inl
theorem rowIs_drawn {W : World} {g t n : Nat} {p : Nat → Value} (h : W.rowIs g t n p) (m : Nat) : (W.drewN m).rowIs g t n p := h

set_option maxRecDepth 100000 in
set_option maxHeartbeats 2000000 in
theorem refof_yes (s : Value) (l : List Rg) (w : World) (h : Sr w s l) (hR : Some' l) (hr : room l ≤ 65536) :
    Calls Tryd.prog 10 #[s] w fun e w' => ∃ (b g n : Nat) (p : Nat → Bool), e = .returned (.tuple #[.pointer (some ⟨b, 0, none⟩), .int .i64 0]) ∧ w.heap.size ≤ b ∧ w.heap.size ≤ g ∧ room l = (n : Int) ∧
      w'.heap[b]? = some (.cells #[.int .i64 (lo l 0), .slice (some ⟨g, 0, none⟩) n n] 40 (0, 0)) ∧ w'.rowIs g 4 n (fun j => .bool (p j)) ∧ (∀ j, j < n → (p j = true ↔ lo l 0 + (j : Int) ∈ vals l)) ∧ Below w.heap.size w w' := by
  have k1 := refmin_yes s l w h hR
  have k2 := fun m => refmax_yes s l (w.drewN m) h hR
  obtain ⟨e1, e2, e3, e4⟩ := right_ends l hR.1 hR.2
  have hok := hR.1.2
  have h0 := hR.2
  have h4096 := hR.1.1
  obtain ⟨a, cap, rfl, hx⟩ := h
  obtain ⟨b, off, rfl, hlt, hcell⟩ := hx hR.2
  obtain ⟨N, hN⟩ : ∃ N, l.length = N := ⟨_, rfl⟩
  have HN : Hid (l.length = N) := hN
  have hv4 : ∀ i, i < N → lo l 0 ≤ lo l i ∧ hi l i ≤ hi l (l.length - 1) ∧ lo l i ≤ hi l i := fun i hi' => by
    have h9 := hok i (by omega)
    unfold OkAt at h9
    have q1 := e4 (lo l i) ((mem_vals l _).2 ⟨i, by omega, Int.le_refl _, h9.1⟩)
    have q2 := e4 (hi l i) ((mem_vals l _).2 ⟨i, by omega, h9.1, Int.le_refl _⟩)
    exact ⟨q1.1, q2.2, h9.1⟩
  unfold room at hr ⊢
  obtain ⟨x, hx'⟩ : ∃ x, lo l 0 = x := ⟨_, rfl⟩
  have HX : Hid (lo l 0 = x) := hx'
  obtain ⟨y, hy⟩ : ∃ y, hi l (l.length - 1) = y := ⟨_, rfl⟩
  rw [hx'] at k1 e1 e3 hr hv4; rw [hy] at k2 e2 e3 hr hv4
  rw [hx', hy]
  obtain ⟨n, hn⟩ : ∃ n : Nat, y - x + 1 = (n : Int) := ⟨(y - x + 1).toNat, by omega⟩
  have k3 := fun V => refnew_yes x y n V e1 e2 e3 (by omega) hn
  have HV4 : Hid (∀ i, i < N → x ≤ lo l i ∧ hi l i ≤ y ∧ lo l i ≤ hi l i) := hv4
  have HC : Hid (∀ i, i < N → w.cell? ⟨b, off + i * 2, none⟩ = some (.int .i64 (lo l i)) ∧ w.cell? ⟨b, off + i * 2 + 1, none⟩ = some (.int .i64 (hi l i))) := by rw [← hN]; exact hcell
  rw [hN] at k1 k2 h0 h4096 ⊢
  have HNN : Hid (y - x + 1 = (n : Int)) := hn
  have hxy : y - x < 65536 := by omega
  clear hy hx' hR hcell hx hN hok e4 hv4 hn
  go_enter Tryd.func10, Tryd.ntmps10
  go_wp2_with (first | (go_at_call 45; refine k1.mono ?_; clear k1; rintro e w1 ⟨rfl, n1, rfl⟩) | (go_at_call 46; refine (k2 _).mono ?_; clear k2; rintro e w1 ⟨rfl, n2, rfl⟩) | (go_at_call 12; refine (k3 _).mono ?_; clear k3; rintro e w1 ⟨rfl, hbk, hrw, hbe⟩))
  obtain ⟨G, hG⟩ : ∃ G, w.heap.size = G := ⟨_, rfl⟩
  have hbk' : w1.heap[G + 1]? = some (.cells #[.int .i64 x, .slice (some ⟨G, 0, none⟩) n n] 40 (0, 0)) := by rw [← hG]; exact hbk
  have hrw' : w1.rowIs G 4 n (fun _ => .bool false) := by rw [← hG]; exact hrw
  have hbe' : Below G w w1 := by rw [← hG]; exact (below_drewN (Below.refl _ w) _).trans hbe

  have HG : Hid (w.heap.size = G) := hG
  rw [hG] at hlt
  rw [HG.out]
  clear hbk hrw hbe hG
  go_loopw [10] (fun i wr => ∃ (k : Nat) (p : Nat → Bool), k ≤ N ∧ i = .int .i64 k ∧ Upto l x n k (lo l k) p ∧ wr.heap[G + 1]? = some (.cells #[.int .i64 x, .slice (some ⟨G, 0, none⟩) n n] 40 (0, 0)) ∧ wr.rowIs G 4 n (fun j => .bool (p j)) ∧ Below G w wr) (fun i _ => N - (intOf i).toNat)
  case atStart => exact ⟨0, fun _ => false, Nat.zero_le _, rfl, fun j _ => ⟨fun h => by simp at h, fun h => by rcases h with ⟨t, ht, _⟩ | h <;> omega⟩, hbk', hrw', hbe'⟩
  case round =>
    obtain ⟨k, p, hk, rfl, hU, hb1, hr1, hB⟩ := hrel
    by_cases hkN : k < N
    · obtain ⟨c1, c2⟩ := HC.out k hkN
      have d1 := (hB.cell (p := ⟨b, off + k * 2, none⟩) hlt).trans c1
      have d2 := (hB.cell (p := ⟨b, off + k * 2 + 1, none⟩) hlt).trans c2
      obtain ⟨q1, q2, q3⟩ := HV4.out k hkN
      obtain ⟨u, hu⟩ : ∃ u, lo l k = u := ⟨_, rfl⟩
      obtain ⟨v, hv⟩ : ∃ v, hi l k = v := ⟨_, rfl⟩
      have HU : Hid (lo l k = u) := hu
      have HV : Hid (hi l k = v) := hv
      rw [hu] at d1 q1 q3 c1 hU
      rw [hv] at d2 q2 q3 c2
      clear hu hv d2
      go_wp2
      go_loopw [11] (fun a wr2 => ∃ (z : Int) (p : Nat → Bool), a = .int .i64 z ∧ u ≤ z ∧ z ≤ v + 1 ∧ Upto l x n k z p ∧ wr2.heap[G + 1]? = some (.cells #[.int .i64 x, .slice (some ⟨G, 0, none⟩) n n] 40 (0, 0)) ∧ wr2.rowIs G 4 n (fun j => .bool (p j)) ∧ Below G w wr2) (fun a _ => (v + 1 - intOf a).toNat)
      case atStart => exact ⟨u, p, rfl, Int.le_refl _, by omega, hU, hb1, hr1, hB⟩
      case round =>
        obtain ⟨z, p2, rfl, hz1, hz2, hU2, hb2, hr2, hB2⟩ := hrel
        have d2 := (hB2.cell (p := ⟨b, off + k * 2 + 1, none⟩) hlt).trans c2
        by_cases hzv : z ≤ v
        · obtain ⟨q, hq⟩ : ∃ q : Nat, z - x = (q : Int) := ⟨(z - x).toNat, by omega⟩
          have hqn : (q : Int) < (n : Int) := by have := HNN.out; omega
          have hc1 : wr.cell? ⟨G + 1, 1, none⟩ = some (.slice (some ⟨G, 0, none⟩) n n) := by rw [cell_row hb2]; rfl
          have hcq := hr2.cell (i := q) (by omega)
          have hfq := hr2.frozen q
          have hU3 := upto_put hU2 (by rw [HU.out]; exact hz1) hq
          have hb3 : (wr.setCell ⟨G, q, none⟩ (.bool true)).heap[G + 1]? = some (.cells #[.int .i64 x, .slice (some ⟨G, 0, none⟩) n n] 40 (0, 0)) := (Below.heap_setCell _ _ _ (G + 1) (by show G + 1 ≠ G; omega)).trans hb2
          have hr3 : (wr.setCell ⟨G, q, none⟩ (.bool true)).rowIs G 4 n (fun j => .bool (if j = q then true else p2 j)) := (hr2.set q (.bool true)).congr (fun j _ => by by_cases e : j = q <;> simp [e])
          have hB3 : Below G w (wr.setCell ⟨G, q, none⟩ (.bool true)) := hB2.setCell (by show G ≤ G; omega) _
          have HF : Hid (Upto l x n k (z + 1) (fun j => if j = q then true else p2 j) ∧ (wr.setCell ⟨G, q, none⟩ (.bool true)).heap[G + 1]? = some (.cells #[.int .i64 x, .slice (some ⟨G, 0, none⟩) n n] 40 (0, 0)) ∧ (wr.setCell ⟨G, q, none⟩ (.bool true)).rowIs G 4 n (fun j => .bool (if j = q then true else p2 j)) ∧ Below G w (wr.setCell ⟨G, q, none⟩ (.bool true))) := ⟨hU3, hb3, hr3, hB3⟩
          have hvf : wrap64 (z - x) = (q : Int) := by rw [hq]; unfold wrap64; omega
          clear hU3 hb3 hr3 hB3 hU2 hb2 hr2 hU hb1 hr1 hB c1 c2 d1
          go_wp2
          go_roundw
          case rel => exact ⟨z + 1, _, by go_num, by omega, by omega, HF.out⟩
          case measure => simp [intOf]; omega
        · have hU3 := upto_end hU2 (by rw [HV.out]; omega) (fun j _ h => by omega)
          have HU3 : Hid (Upto l x n (k + 1) (lo l (k + 1)) p2) := hU3
          clear hU3 hU2
          go_wp2
          go_roundw
          case rel => exact ⟨k + 1, p2, by omega, by go_num, HU3.out, hb2, hr2, hB2⟩
          case measure => simp [intOf]; omega
    · obtain rfl : k = N := by omega
      go_wp2
      go_ret2
      refine ⟨G + 1, G, n, p, rfl, by rw [HG.out]; omega, by rw [HG.out]; exact Nat.le_refl _, HNN.out, hb1, hr1, fun j hj => ?_, by rw [HG.out]; exact hB⟩
      exact uptoL_all (by rw [HN.out]; exact hU) (by rw [HN.out]) j hj
end Go.Proofs.YtgcgomofmicchaaDoor
