/-
  What is proved here: what the reference's Words makes; what the law's words tells of the same words.
-/
import Derived.Test.YtgcgomofmicchaaDoorYk
namespace Go.Proofs.YtgcgomofmicchaaDoor
open Go.RowKit Go.Shelf

set_option maxHeartbeats 1000000 in
theorem lawwords_same (A B ca cb n : Nat) (p : Nat → Nat) (w : World) (hn : n ≤ 1024) (hA : ∀ k, k < n → w.cell? ⟨A, k, none⟩ = some (.int .u64 (p k : Nat))) (hB : ∀ k, k < n → w.cell? ⟨B, k, none⟩ = some (.int .u64 (p k : Nat))) :
    Calls Tryd.prog 48 #[.slice (some ⟨A, 0, none⟩) n ca, .slice (some ⟨B, 0, none⟩) n cb] w fun e w' => e = .returned (.bool true) ∧ ∃ nq, w' = w.drewN nq := by
  have HA : Hid (∀ k, k < n → w.cell? ⟨A, k, none⟩ = some (.int .u64 (p k : Nat))) := hA
  have HB : Hid (∀ k, k < n → w.cell? ⟨B, k, none⟩ = some (.int .u64 (p k : Nat))) := hB
  clear hA hB
  go_enter Tryd.func48, Tryd.ntmps48
  go_wp2
  go_loopw [5] (fun i wr => ∃ k : Nat, k ≤ n ∧ i = .int .i64 (k : Int) ∧ ∃ nq, wr = w.drewN nq) (fun i _ => n - (intOf i).toNat)
  case atStart => exact ⟨0, Nat.zero_le _, rfl, 0, rfl⟩
  case round =>
    obtain ⟨k, hk, rfl, nq0, rfl⟩ := hrel
    by_cases hlt : k < n
    · have x1 := HA.out k hlt
      have x2 := HB.out k hlt
      have kk : (k : Int) < (n : Int) := by omega
      generalize p k = x at x1 x2
      go_wp2
      go_quiet (fail)
      go_wp2
      go_roundw
      case rel => exact ⟨k + 1, by omega, by go_num, _, rfl⟩
      case measure => simp [intOf]; omega
    · go_wp2
      go_ret
      exact ⟨rfl, _, rfl⟩

/-- Word number q has the bits of the first k entries. -/
def Wup (L : List Bool) (k : Nat) (p : Nat → Nat) : Prop := ∀ q, p q < 18446744073709551616 ∧ ∀ r, r < 64 → (p q).testBit r = (decide (64 * q + r < k) && lat L (64 * q + r))
theorem wup_no {L : List Bool} {k : Nat} {p : Nat → Nat} (h : Wup L k p) (hf : lat L k = false) : Wup L (k + 1) p := by
  intro q
  refine ⟨(h q).1, fun r hr => ?_⟩
  rw [(h q).2 r hr]
  by_cases e : 64 * q + r = k
  · rw [e, hf]; simp
  · congr 1; simp; omega
theorem wup_yes {L : List Bool} {k : Nat} {p : Nat → Nat} (h : Wup L k p) (hf : lat L k = true) : Wup L (k + 1) (fun j => if j = k / 64 then p (k / 64) ||| 2 ^ (k % 64) else p j) := by
  intro q
  by_cases e : q = k / 64
  · subst e
    simp only [if_true]
    refine ⟨Nat.or_lt_two_pow (n := 64) (h _).1 (two_pow_lt (by omega)), fun r hr => ?_⟩
    rw [Nat.testBit_or, (h _).2 r hr, Nat.testBit_two_pow]
    by_cases e2 : k % 64 = r
    · have : 64 * (k / 64) + r = k := by omega
      rw [this, hf]; simp [e2]
    · have h1 : ¬ (64 * (k / 64) + r = k) := by omega
      simp only [e2, decide_false, Bool.or_false]
      congr 1; simp; omega
  · simp only [if_neg e]
    refine ⟨(h q).1, fun r hr => ?_⟩
    rw [(h q).2 r hr]
    congr 1; simp; omega

set_option maxRecDepth 100000 in
set_option maxHeartbeats 2000000 in
theorem refwords_any (b g c nw : Nat) (f : Int) (L : List Bool) (W : World) (h : Ref W b g c f L) (hz : Rz f L) (hnw : (L.length + 63) / 64 = nw) :
    Calls Tryd.prog 49 #[.pointer (some ⟨b, 0, none⟩)] W fun e w' => ∃ A p, e = .returned (.slice (some ⟨A, 0, none⟩) nw nw) ∧ W.heap.size ≤ A ∧ Wup L L.length p ∧ w'.rowIs A 59 nw (fun k => .int .u64 (p k : Nat)) ∧ Below W.heap.size W w' := by
  have c0 := h.c0; have c1 := h.c1
  have hbl := h.b_lt; have hgl := h.g_lt
  have z2 := hz.one; have z3 := hz.most
  have hcw : ∀ k, k < L.length → W.cell? ⟨g, k, none⟩ = some (.bool (lat L k)) := fun k hk => (h.cw k hk).1
  obtain ⟨n, hn⟩ : ∃ n, L.length = n := ⟨_, rfl⟩
  rw [hn] at c1 hcw z2 z3 hnw ⊢
  have HCW : Hid (∀ k, k < n → W.cell? ⟨g, k, none⟩ = some (.bool (lat L k))) := hcw
  have hnw1 : nw ≤ 1024 := by omega
  have hnw2 : ((n : Int) + 63) / 64 = (nw : Int) := by omega
  have hnw3 : Int.tdiv ((n : Int) + 63) 64 = (nw : Int) := by rw [Int.tdiv_eq_ediv_of_nonneg (by omega)]; exact hnw2
  have hmk := run_make_row' (P := Tryd.prog) 57 59 (.int .u64 0) 8 Tryd.underlying57 Tryd.info59 rfl .i64 .i64 nw (by omega) (by omega)
  have HNW : Hid ((n + 63) / 64 = nw) := hnw
  obtain ⟨G, hG⟩ : ∃ G, W.heap.size = G := ⟨_, rfl⟩
  clear h hz hn hcw hnw
  go_enter Tryd.func49, Tryd.ntmps49
  go_wp2
  rw [hG] at hbl hgl
  have HG : Hid (W.heap.size = G) := hG
  have hst : (W.alloc (Obj.cells (madeCells #[.int .u64 0] nw) 59)).rowIs G 59 nw (fun _ => .int .u64 ((0 : Nat) : Int)) := by rw [← hG]; exact World.rowIs_made W (.int .u64 0) nw 59
  have hB0 : Below G W (W.alloc (Obj.cells (madeCells #[.int .u64 0] nw) 59)) := by rw [← hG]; exact (Below.refl _ W).alloc (Nat.le_refl _) _
  clear hG hmk
  go_loopw [4] (fun i wr => ∃ (k : Nat) (p : Nat → Nat), k ≤ n ∧ i = .int .i64 k ∧ Wup L k p ∧ wr.rowIs G 59 nw (fun j => .int .u64 (p j : Nat)) ∧ Below G W wr) (fun i _ => n - (intOf i).toNat)
  case atStart => exact ⟨0, fun _ => 0, Nat.zero_le _, rfl, fun q => ⟨by show (0 : Nat) < _; decide, fun r _ => by simp⟩, hst, hB0⟩
  case round =>
    obtain ⟨k, p, hk, rfl, hU, hr1, hB⟩ := hrel
    have d1 := (hB.cell (p := ⟨b, 1, none⟩) hbl).trans c1
    by_cases hlt : k < n
    · have d2 := (hB.cell (p := ⟨g, k, none⟩) hgl).trans (HCW.out k hlt)
      by_cases ht : lat L k = true
      · rw [ht] at d2
        have hU2 := wup_yes hU ht
        have hxl := (hU (k / 64)).1
        obtain ⟨q, hq, hq2⟩ : ∃ q : Nat, (k : Int) / 64 = (q : Int) ∧ k / 64 = q := ⟨k / 64, by omega, rfl⟩
        obtain ⟨r, hr, hr2⟩ : ∃ r : Nat, (k : Int) % 64 = (r : Int) ∧ k % 64 = r := ⟨k % 64, by omega, rfl⟩
        have hr3 : r < 64 := by omega
        rw [hq2, hr2] at hU2
        rw [hq2] at hxl
        have hqn : q < nw := by have := HNW.out; omega
        have hc := hr1.cell hqn
        have hf := hr1.frozen q
        obtain ⟨x, hx⟩ : ∃ x, p q = x := ⟨_, rfl⟩
        rw [hx] at hU2 hxl
        simp only [hx] at hc
        have hres := or_pow x r hxl hr3
        have hr4' : (wr.setCell ⟨G, q, none⟩ (.int .u64 ((x ||| 2 ^ r : Nat) : Int))).rowIs G 59 nw (fun j => .int .u64 ((if j = q then x ||| 2 ^ r else p j : Nat) : Int)) := (hr1.set q _).congr (fun j _ => by by_cases e : j = q <;> simp [e])
        have hB3 : Below G W (wr.setCell ⟨G, q, none⟩ (.int .u64 ((x ||| 2 ^ r : Nat) : Int))) := hB.setCell (by show G ≤ G; omega) _
        have HF : Hid (Wup L (k + 1) (fun j => if j = q then x ||| 2 ^ r else p j) ∧ (wr.setCell ⟨G, q, none⟩ (.int .u64 ((x ||| 2 ^ r : Nat) : Int))).rowIs G 59 nw (fun j => .int .u64 ((if j = q then x ||| 2 ^ r else p j : Nat) : Int)) ∧ Below G W (wr.setCell ⟨G, q, none⟩ (.int .u64 ((x ||| 2 ^ r : Nat) : Int)))) := ⟨hU2, hr4', hB3⟩
        have HRES : Hid (bits .or .u64 (x : Int) (IntKind.u64.wrap (2 ^ r)) = ((x ||| 2 ^ r : Nat) : Int)) := hres
        have hqw : IntKind.i64.wrap (q : Int) = (q : Int) := by rw [IntKind.wrap_i64]; omega
        have hrt : Int.tmod (k : Int) 64 = (r : Int) := by rw [Int.tmod_eq_emod_of_nonneg (by omega)]; exact hr
        have hqt : Int.tdiv (k : Int) 64 = (q : Int) := by rw [Int.tdiv_eq_ediv_of_nonneg (by omega)]; exact hq
        have hq4 : (q : Int) < (nw : Int) := by omega
        have hr4 : (r : Int) < 64 := by omega
        clear hU hU2 hr1 hB hr4' hB3 hres hx hq2 hr2 ht hst hB0 hnw2 hnw3
        go_wp2
        go_roundw
        case rel => exact ⟨k + 1, _, by omega, by go_num, by rw [HRES.out]; exact HF.out⟩
        case measure => simp [intOf]; omega
      · have ht' : lat L k = false := by simpa using ht
        rw [ht'] at d2
        have HU : Hid (Wup L (k + 1) p) := wup_no hU ht'
        clear ht ht' hU
        go_wp2
        go_roundw
        case rel => exact ⟨k + 1, p, by omega, by go_num, HU.out, hr1, hB⟩
        case measure => simp [intOf]; omega
    · obtain rfl : k = n := by omega
      go_wp2
      go_ret
      exact ⟨G, p, rfl, by rw [HG.out]; exact Nat.le_refl _, hU, hr1, by rw [HG.out]; exact hB⟩
end Go.Proofs.YtgcgomofmicchaaDoor
