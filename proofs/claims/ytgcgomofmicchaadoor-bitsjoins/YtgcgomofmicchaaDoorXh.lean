/-
  What is proved here: what a set of bits reads as; what its fits and word return.
-/
import Derived.Test.YtgcgomofmicchaaDoorXg
namespace Go.Proofs.YtgcgomofmicchaaDoor
open Go.RowKit Go.Shelf

/-- The set at block b, its words at block g: room from f on, the words ws. -/
def Bits (W : World) (b g c : Nat) (f room : Int) (ws : List Nat) : Prop :=
  W.heap[b]? = some (.cells #[.int .i64 f, .int .i64 room, .slice (some ⟨g, 0, none⟩) ws.length c] 82 (0, 0)) ∧ W.ownsRow 0 59 1 (.slice (some ⟨g, 0, none⟩) ws.length c) ws.length (words ws)
theorem IsBits.open {W : World} {n₀ b : Nat} {f room : Int} {ws : List Nat} (h : IsBits W n₀ b f room ws) : ∃ g c, n₀ ≤ b ∧ n₀ ≤ g ∧ Bits W b g c f room ws := by
  obtain ⟨g, c, hb, hh, ho⟩ := h
  refine ⟨g, c, hb, ?_, hh, own_base ho (Nat.zero_le _)⟩
  rcases ho.2 with ⟨e, _⟩ | ⟨g', c', cur, e, hg, _⟩
  · cases e
  · injection e with e1; injection e1 with e1; injection e1 with e1; omega
theorem Bits.row {W : World} {b g c : Nat} {f room : Int} {ws : List Nat} (h : Bits W b g c f room ws) : ∃ cur, W.heap[g]? = some (.cells cur 59 (0, 0)) ∧ ws.length ≤ c ∧ c ≤ maxLen ∧ cur.size = c ∧ cur.toList.take ws.length = words ws := by
  rcases h.2.2 with ⟨e, _⟩ | ⟨g', c', cur, e, _, hgb, h1, h2, h3, h4⟩
  · cases e
  · injection e with e1 _ e3; injection e1 with e1; injection e1 with e1; subst e1; subst e3
    exact ⟨cur, hgb, h1, h2, by omega, by simpa using h4⟩
theorem Bits.b_lt {W : World} {b g c : Nat} {f room : Int} {ws : List Nat} (h : Bits W b g c f room ws) : b < W.heap.size := (Array.getElem?_eq_some_iff.1 h.1).1
theorem Bits.g_lt {W : World} {b g c : Nat} {f room : Int} {ws : List Nat} (h : Bits W b g c f room ws) : g < W.heap.size := by obtain ⟨cur, h1, _⟩ := h.row; exact (Array.getElem?_eq_some_iff.1 h1).1
theorem Bits.ne {W : World} {b g c : Nat} {f room : Int} {ws : List Nat} (h : Bits W b g c f room ws) : b ≠ g := by
  intro e; subst e
  obtain ⟨cur, h1, _⟩ := h.row
  have := h.1.symm.trans h1
  simp at this
theorem Bits.c0 {W : World} {b g c : Nat} {f room : Int} {ws : List Nat} (h : Bits W b g c f room ws) : W.cell? ⟨b, 0, none⟩ = some (.int .i64 f) := by rw [cell_row h.1]; rfl
theorem Bits.c1 {W : World} {b g c : Nat} {f room : Int} {ws : List Nat} (h : Bits W b g c f room ws) : W.cell? ⟨b, 1, none⟩ = some (.int .i64 room) := by rw [cell_row h.1]; rfl
theorem Bits.c2 {W : World} {b g c : Nat} {f room : Int} {ws : List Nat} (h : Bits W b g c f room ws) : W.cell? ⟨b, 2, none⟩ = some (.slice (some ⟨g, 0, none⟩) ws.length c) := by rw [cell_row h.1]; rfl
/-- Word number k, 0 beyond. -/
def wat (ws : List Nat) (k : Nat) : Nat := ws[k]?.getD 0
theorem Bits.cw {W : World} {b g c : Nat} {f room : Int} {ws : List Nat} (h : Bits W b g c f room ws) (k : Nat) (hk : k < ws.length) : W.cell? ⟨g, k, none⟩ = some (.int .u64 (wat ws k : Nat)) ∧ W.frozen? ⟨g, k, none⟩ = false := by
  obtain ⟨cur, h1, h2, h3, h4, h5⟩ := h.row
  constructor
  · rw [cell_row h1]
    have : (cur.toList.take ws.length)[k]? = (words ws)[k]? := by rw [h5]
    rw [List.getElem?_take, if_pos hk] at this
    simp [words, wat] at this ⊢
    rw [this]; simp [hk]
  · simp [World.frozen?, h1]
theorem Bits.keep {W W' : World} {b g c : Nat} {f room : Int} {ws : List Nat} (h : Bits W b g c f room ws) (h1 : W'.heap[b]? = W.heap[b]?) (h2 : W'.heap[g]? = W.heap[g]?) : Bits W' b g c f room ws := by
  refine ⟨h1.trans h.1, h.2.1, ?_⟩
  rcases h.2.2 with ⟨e, _⟩ | ⟨g', c', cur, e, h0, hgb, r⟩
  · cases e
  · have e' := e
    injection e' with e1 _ e3; injection e1 with e1; injection e1 with e1; subst e1
    exact .inr ⟨g, c', cur, e, h0, h2.trans hgb, r⟩
theorem Bits.below {W W' : World} {b g c B : Nat} {f room : Int} {ws : List Nat} (h : Bits W b g c f room ws) (hb : Below B W W') (h1 : b < B) (h2 : g < B) : Bits W' b g c f room ws :=
  h.keep (hb.block b h1) (hb.block g h2)
theorem Bits.drawn {W : World} {b g c : Nat} {f room : Int} {ws : List Nat} (h : Bits W b g c f room ws) (n : Nat) : Bits (W.drewN n) b g c f room ws := h

/-- Is there room for v? -/
def fitB (f room v : Int) : Bool := decide (f ≤ v ∧ v < f + room)
theorem fitB_yes {f room v : Int} (h : f ≤ v ∧ v < f + room) : fitB f room v = true := by unfold fitB; simpa using h
theorem fitB_no {f room v : Int} (h : ¬ (f ≤ v ∧ v < f + room)) : fitB f room v = false := by unfold fitB; exact decide_eq_false h
/-- Numbers that a set has. -/
structure Sz (f room : Int) (ws : List Nat) : Prop where
  lo : -1000000 ≤ f
  one : 1 ≤ room
  most : room ≤ 65536
  hi : f + room ≤ 1000001
  len : (ws.length : Int) = (room + 63) / 64
  word : ∀ k, wat ws k < 18446744073709551616

set_option maxHeartbeats 1000000 in
theorem fits_any (b g c : Nat) (f room v : Int) (ws : List Nat) (W : World) (h : Bits W b g c f room ws) (hz : Sz f room ws) :
    Calls Tryd.prog 51 #[.pointer (some ⟨b, 0, none⟩), .int .i64 v] W fun e w' => e = .returned (.bool (fitB f room v)) ∧ ∃ n, w' = W.drewN n := by
  have c0 := h.c0; have c1 := h.c1
  have z1 := hz.lo; have z2 := hz.one; have z3 := hz.most; have z4 := hz.hi
  clear h hz
  by_cases hA : f ≤ v
  · have hd1 : decide (f ≤ v) = true := by simpa using hA
    by_cases hB : v < f + room
    · have hd2 : decide (v < f + room) = true := by simpa using hB
      rw [fitB_yes ⟨hA, hB⟩]
      go_enter Tryd.func51, Tryd.ntmps51
      go_wp2
      go_quiet (fail)
      go_wp2
      go_ret
      exact ⟨rfl, _, rfl⟩
    · have hd2 : decide (v < f + room) = false := by simp; omega
      rw [fitB_no (fun h => hB h.2)]
      go_enter Tryd.func51, Tryd.ntmps51
      go_wp2
      go_quiet (fail)
      go_wp2
      go_ret
      exact ⟨rfl, _, rfl⟩
  · have hd1 : decide (f ≤ v) = false := by simp; omega
    rw [fitB_no (fun h => hA h.1)]
    go_enter Tryd.func51, Tryd.ntmps51
    go_wp2
    go_quiet (fail)
    go_wp2
    go_ret
    exact ⟨rfl, _, rfl⟩
set_option maxHeartbeats 400000 in
theorem fits_nil (v : Int) (W : World) :
    Calls Tryd.prog 51 #[.pointer none, .int .i64 v] W fun e w' => e = .returned (.bool false) ∧ ∃ n, w' = W.drewN n := by
  go_enter Tryd.func51, Tryd.ntmps51
  go_wp2
  go_quiet (fail)
  go_wp2
  go_ret
  exact ⟨rfl, _, rfl⟩

/-- Word number k, 0 where there is none. -/
def wai (ws : List Nat) (k : Int) : Nat := if k < 0 then 0 else wat ws k.toNat
set_option maxHeartbeats 400000 in
theorem word_any (b g c : Nat) (f room k : Int) (ws : List Nat) (W : World) (h : Bits W b g c f room ws) (hz : Sz f room ws) :
    Calls Tryd.prog 76 #[.pointer (some ⟨b, 0, none⟩), .int .i64 k] W fun e w' => e = .returned (.int .u64 (wai ws k : Nat)) ∧ w' = W := by
  have c2 := h.c2
  have hl := hz.len; have z3 := hz.most; have z2 := hz.one
  obtain ⟨n, hn⟩ : ∃ n, ws.length = n := ⟨_, rfl⟩
  rw [hn] at c2 hl
  by_cases hA : k < 0
  · have e : wai ws k = 0 := by unfold wai; rw [if_pos hA]
    rw [e]
    have hd : decide (k < 0) = true := by simpa using hA
    clear e hn
    go_enter Tryd.func76, Tryd.ntmps76
    go_wp2
    go_ret
    exact ⟨rfl, rfl⟩
  · have hd : decide (k < 0) = false := by simp; omega
    obtain ⟨m, rfl⟩ := Int.eq_ofNat_of_zero_le (show 0 ≤ k by omega)
    by_cases hB : m < n
    · have e : wai ws (m : Int) = wat ws m := by unfold wai; rw [if_neg hA, Int.toNat_natCast]
      rw [e]
      obtain ⟨cw, _⟩ := h.cw m (by omega)
      obtain ⟨x, hx⟩ : ∃ x, wat ws m = x := ⟨_, rfl⟩
      rw [hx] at cw ⊢
      have hd2 : decide ((n : Int) ≤ (m : Int)) = false := by simp; omega
      clear e hn hx
      go_enter Tryd.func76, Tryd.ntmps76
      go_wp2
      go_ret
      exact ⟨rfl, rfl⟩
    · have e : wai ws (m : Int) = 0 := by unfold wai wat; rw [if_neg hA, Int.toNat_natCast, List.getElem?_eq_none (by omega)]; rfl
      rw [e]
      have hd2 : decide ((n : Int) ≤ (m : Int)) = true := by simp; omega
      clear e hn
      go_enter Tryd.func76, Tryd.ntmps76
      go_wp2
      go_ret
      exact ⟨rfl, rfl⟩
end Go.Proofs.YtgcgomofmicchaaDoor
