/-
  What is proved here: what a set of the reference reads as; what its New, Fits and Has return.
-/
import Derived.Test.YtgcgomofmicchaaDoorYd
namespace Go.Proofs.YtgcgomofmicchaaDoor
open Go.RowKit Go.Shelf

def bools (L : List Bool) : List Value := L.map .bool
/-- The reference's set at block b, its list at block g: the first value f, the list L. -/
def Ref (W : World) (b g c : Nat) (f : Int) (L : List Bool) : Prop :=
  W.heap[b]? = some (.cells #[.int .i64 f, .slice (some ⟨g, 0, none⟩) L.length c] 40 (0, 0)) ∧ W.ownsRow 0 4 1 (.slice (some ⟨g, 0, none⟩) L.length c) L.length (bools L)
theorem Ref.row {W : World} {b g c : Nat} {f : Int} {L : List Bool} (h : Ref W b g c f L) : ∃ cur, W.heap[g]? = some (.cells cur 4 (0, 0)) ∧ L.length ≤ c ∧ c ≤ maxLen ∧ cur.size = c ∧ cur.toList.take L.length = bools L := by
  rcases h.2.2 with ⟨e, _⟩ | ⟨g', c', cur, e, _, hgb, h1, h2, h3, h4⟩
  · cases e
  · injection e with e1 _ e3; injection e1 with e1; injection e1 with e1; subst e1; subst e3
    exact ⟨cur, hgb, h1, h2, by omega, by simpa using h4⟩
theorem Ref.b_lt {W : World} {b g c : Nat} {f : Int} {L : List Bool} (h : Ref W b g c f L) : b < W.heap.size := (Array.getElem?_eq_some_iff.1 h.1).1
theorem Ref.g_lt {W : World} {b g c : Nat} {f : Int} {L : List Bool} (h : Ref W b g c f L) : g < W.heap.size := by obtain ⟨cur, h1, _⟩ := h.row; exact (Array.getElem?_eq_some_iff.1 h1).1
theorem Ref.ne {W : World} {b g c : Nat} {f : Int} {L : List Bool} (h : Ref W b g c f L) : b ≠ g := by
  intro e; subst e
  obtain ⟨cur, h1, _⟩ := h.row
  have := h.1.symm.trans h1
  simp at this
theorem Ref.c0 {W : World} {b g c : Nat} {f : Int} {L : List Bool} (h : Ref W b g c f L) : W.cell? ⟨b, 0, none⟩ = some (.int .i64 f) := by rw [cell_row h.1]; rfl
theorem Ref.c1 {W : World} {b g c : Nat} {f : Int} {L : List Bool} (h : Ref W b g c f L) : W.cell? ⟨b, 1, none⟩ = some (.slice (some ⟨g, 0, none⟩) L.length c) := by rw [cell_row h.1]; rfl
/-- Entry number k, false beyond. -/
def lat (L : List Bool) (k : Nat) : Bool := L[k]?.getD false
theorem Ref.cw {W : World} {b g c : Nat} {f : Int} {L : List Bool} (h : Ref W b g c f L) (k : Nat) (hk : k < L.length) : W.cell? ⟨g, k, none⟩ = some (.bool (lat L k)) ∧ W.frozen? ⟨g, k, none⟩ = false := by
  obtain ⟨cur, h1, h2, h3, h4, h5⟩ := h.row
  constructor
  · rw [cell_row h1]
    have : (cur.toList.take L.length)[k]? = (bools L)[k]? := by rw [h5]
    rw [List.getElem?_take, if_pos hk] at this
    simp [bools, lat] at this ⊢
    rw [this]; simp [hk]
  · simp [World.frozen?, h1]
theorem Ref.keep {W W' : World} {b g c : Nat} {f : Int} {L : List Bool} (h : Ref W b g c f L) (h1 : W'.heap[b]? = W.heap[b]?) (h2 : W'.heap[g]? = W.heap[g]?) : Ref W' b g c f L := by
  refine ⟨h1.trans h.1, h.2.1, ?_⟩
  rcases h.2.2 with ⟨e, _⟩ | ⟨g', c', cur, e, h0, hgb, r⟩
  · cases e
  · have e' := e
    injection e' with e1 _ e3; injection e1 with e1; injection e1 with e1; subst e1
    exact .inr ⟨g, c', cur, e, h0, h2.trans hgb, r⟩
theorem Ref.below {W W' : World} {b g c B : Nat} {f : Int} {L : List Bool} (h : Ref W b g c f L) (hb : Below B W W') (h1 : b < B) (h2 : g < B) : Ref W' b g c f L :=
  h.keep (hb.block b h1) (hb.block g h2)
theorem Ref.drawn {W : World} {b g c : Nat} {f : Int} {L : List Bool} (h : Ref W b g c f L) (n : Nat) : Ref (W.drewN n) b g c f L := h
theorem Ref.set {W : World} {b g c : Nat} {f : Int} {L : List Bool} (h : Ref W b g c f L) (q : Nat) (x : Bool) : Ref (W.setCell ⟨g, q, none⟩ (.bool x)) b g c f (L.set q x) := by
  obtain ⟨cur, h1, h2, h3, h4, h5⟩ := h.row
  have hb : (W.setCell ⟨g, q, none⟩ (.bool x)).heap[b]? = W.heap[b]? := Below.heap_setCell _ _ _ b h.ne
  have hl : (L.set q x).length = L.length := List.length_set
  refine ⟨by rw [hb, hl]; exact h.1, by simp [bools], .inr ⟨g, c, cur.setIfInBounds q (.bool x), by rw [hl], Nat.zero_le _, row_set h1 q _, by rw [hl]; exact h2, h3, by rw [Array.size_setIfInBounds]; omega, ?_⟩⟩
  rw [hl, Nat.mul_one, Array.toList_setIfInBounds, List.take_set, h5]
  unfold bools
  rw [List.map_set]
/-- Numbers that a set of the reference has. -/
structure Rz (f : Int) (L : List Bool) : Prop where
  lo : -1000000 ≤ f
  one : 1 ≤ L.length
  most : L.length ≤ 65536
  hi : f + L.length ≤ 1000001

set_option maxHeartbeats 1000000 in
theorem reffits_any (b g c : Nat) (f v : Int) (L : List Bool) (W : World) (h : Ref W b g c f L) (hz : Rz f L) :
    Calls Tryd.prog 53 #[.pointer (some ⟨b, 0, none⟩), .int .i64 v] W fun e w' => e = .returned (.bool (fitB f L.length v)) ∧ ∃ m, w' = W.drewN m := by
  have c0 := h.c0; have c1 := h.c1
  have z1 := hz.lo; have z2 := hz.one; have z3 := hz.most; have z4 := hz.hi
  obtain ⟨n, hn⟩ : ∃ n, L.length = n := ⟨_, rfl⟩
  rw [hn] at c1 z2 z3 z4 ⊢
  clear hn h hz
  by_cases h1 : f ≤ v
  · have d1 : decide (f ≤ v) = true := by simpa using h1
    by_cases h2 : v ≤ f + n - 1
    · have d2 : decide (v ≤ f + (n : Int) - 1) = true := by simpa using h2
      rw [fitB_yes ⟨h1, by omega⟩]
      go_enter Tryd.func53, Tryd.ntmps53
      go_wp2
      go_quiet (fail)
      go_wp2
      go_ret
      exact ⟨rfl, _, rfl⟩
    · have d2 : decide (v ≤ f + (n : Int) - 1) = false := by simp; omega
      rw [fitB_no (by omega)]
      go_enter Tryd.func53, Tryd.ntmps53
      go_wp2
      go_quiet (fail)
      go_wp2
      go_ret
      exact ⟨rfl, _, rfl⟩
  · have d1 : decide (f ≤ v) = false := by simp; omega
    rw [fitB_no (by omega)]
    go_enter Tryd.func53, Tryd.ntmps53
    go_wp2
    go_quiet (fail)
    go_wp2
    go_ret
    exact ⟨rfl, _, rfl⟩
end Go.Proofs.YtgcgomofmicchaaDoor
