/-
  What is proved here: the reference's Lent, Same and Kept of numbers; what can be written.
-/
import Derived.Test.YtfcaemfledlnnaaGreatDoorYRgj
import Derived.Test.YtfcaemfledlnnaaGreatDoorYCaj
import Derived.Maps.AppendAt
import Derived.Sort.Row
namespace Go.Proofs.YtfcaemfledlnnaaGreatDoor.St
open Go.RowKit Go.Shelf
set_option linter.unusedVariables false
set_option linter.unusedSimpArgs false

def RowI (W : World) (base : Nat) (s : Value) (ds : List Int) : Prop := W.ownsRow base 2 1 s ds.length (ds.map (Value.int .i64))
theorem RowI.at {W : World} {base : Nat} {s : Value} {ds : List Int} (h : RowI W base s ds) {j : Nat} (hj : j < ds.length) :
    ∃ g cap, s = .slice (some ⟨g, 0, none⟩) ds.length cap ∧ base ≤ g ∧ g < W.heap.size ∧ ds.length ≤ cap ∧ cap ≤ maxLen ∧ ∀ i, i < ds.length → W.cell? ⟨g, i, none⟩ = some (.int .i64 (ds[i]?.getD 0)) := by
  rcases h.2 with ⟨h1, h2⟩ | ⟨g, cap, cur, e, hg, hh, hc, hm, _⟩
  · omega
  · refine ⟨g, cap, e, hg, (Array.getElem?_eq_some_iff.1 hh).1, hc, hm, fun i hi => ?_⟩
    have := World.ownsRow.cells h (g := g) (by rw [e]; rfl) i (.int .i64 (ds[i]?.getD 0)) (by simp [List.getElem?_eq_getElem hi])
    by_cases h0 : i = 0
    · subst h0; simpa [Addr.add] using this
    · simpa [Addr.add, h0] using this

/-! ### Behind 'append' of one number -/
theorem RowI.appended {w1 : World} {base : Nat} {v' : Value} {ds : List Int} {d : Int} {n : Nat} (hn : n = ds.length + 1) (h : w1.ownsRow base 2 1 v' n (ds.map (Value.int .i64) ++ [.int .i64 d])) : RowI w1 base v' (ds ++ [d]) := by
  subst hn; unfold RowI; simpa using h
theorem own_caps1 {W : World} {base g n cap : Nat} {xs : List Value} (h : W.ownsRow base 2 1 (.slice (some ⟨g, 0, none⟩) n cap) n xs) : n ≤ cap ∧ cap ≤ 9223372036854775807 := by
  rcases h.2 with ⟨h1, _⟩ | ⟨g', cap', cur, e, _, _, hc, hm, _⟩
  · cases h1
  · injection e with _ _ e3; subst e3; unfold maxLen at hm; exact ⟨hc, by omega⟩

set_option maxHeartbeats 400000 in
theorem sameI_any (s1 s2 : Value) (ds : List Int) (w : World) (h1 : Si w s1 ds) (h2 : Si w s2 ds) (hr : ds.length * 8 ≤ 140737488351232) :
    Calls Tryz.prog 57 #[s1, s2] w fun e w' => e = .returned (.bool true) ∧ ∃ nq, w' = w.drewN nq := by
  obtain ⟨a1, c1, rfl, hc1⟩ := h1
  obtain ⟨a2, c2, rfl, hc2⟩ := h2
  go_enter Tryz.func57, Tryz.ntmps57
  go_wp2
  go_loopw [5] (fun i wr => ∃ k : Nat, k ≤ ds.length ∧ i = .int .i64 (k : Int) ∧ ∃ nq, wr = w.drewN nq) (fun i _ => ds.length - (intOf i).toNat)
  case atStart => exact ⟨0, Nat.zero_le _, rfl, 0, rfl⟩
  case round =>
    obtain ⟨k, hk, rfl, nq0, rfl⟩ := hrel
    by_cases hlt : k < ds.length
    · obtain ⟨b1, o1, rfl, _, hcell1⟩ := hc1 (by omega)
      obtain ⟨b2, o2, rfl, _, hcell2⟩ := hc2 (by omega)
      have x1 := hcell1 k hlt
      have x2 := hcell2 k hlt
      have kk : (k : Int) < (ds.length : Int) := by omega
      clear hcell1 hcell2 hc1 hc2
      generalize nth ds k = x at *
      go_wp2
      go_quiet (fail)
      go_wp2
      go_roundw
      case rel => exact ⟨k + 1, by omega, by go_num, _, rfl⟩
      case measure => simp [intOf]; omega
    · go_wp2
      go_ret
      exact ⟨rfl, _, rfl⟩

/-- A slice whose elements can be written, in a block from B on. -/
def Wrt (w : World) (B : Nat) (s : Value) : Prop := ∃ a n c, s = .slice a n c ∧ (0 < n → ∃ g off cur t, a = some ⟨g, off, none⟩ ∧ B ≤ g ∧ w.heap[g]? = some (.cells cur t (0, 0)) ∧ off + n ≤ cur.size)
theorem own_wrt {w : World} {B : Nat} {s : Value} {l : List Int} (h : w.ownsRow B 2 1 s l.length (intv l)) : Wrt w B s := by
  rcases h.2 with ⟨e, e0⟩ | ⟨g, cap, cur, e, hB, hg, hc, _, hs, _⟩
  · exact ⟨_, _, _, e, fun h0 => absurd h0 (by omega)⟩
  · exact ⟨_, _, _, e, fun h0 => ⟨g, 0, cur, 2, rfl, hB, hg, by omega⟩⟩
theorem fresh_wrt {w : World} {B : Nat} {s : Value} {l : List Int} (h : Fresh B w s l) : Wrt w B s := by
  obtain ⟨A, off, cap, cur, t, e, hB, hA, hh, hc⟩ := h
  refine ⟨_, _, _, e, fun h0 => ⟨A, off, cur, t, rfl, hB, hh, ?_⟩⟩
  have := (Array.getElem?_eq_some_iff.1 (hc (l.length - 1) (by omega))).1
  omega
theorem Wrt.below {w w' : World} {B : Nat} {s : Value} (h : Wrt w B s) (hb : Below w.heap.size w w') : Wrt w' B s := by
  obtain ⟨a, n, c, e, hc⟩ := h
  refine ⟨a, n, c, e, fun h0 => ?_⟩
  obtain ⟨g, off, cur, t, e1, hB, hg, hs⟩ := hc h0
  exact ⟨g, off, cur, t, e1, hB, (hb.block g (Array.getElem?_eq_some_iff.1 hg).1).trans hg, hs⟩
theorem Wrt.set {w : World} {B : Nat} {s : Value} (h : Wrt w B s) (g' o' : Nat) (v : Value) : Wrt (w.setCell ⟨g', o', none⟩ v) B s := by
  obtain ⟨a, n, c, e, hc⟩ := h
  refine ⟨a, n, c, e, fun h0 => ?_⟩
  obtain ⟨g, off, cur, t, e1, hB, hg, hs⟩ := hc h0
  rw [Sort.setCell_eq]
  unfold Sort.mapBlock
  by_cases hk : g' = g
  · subst hk
    exact ⟨g', off, cur.setIfInBounds o' v, t, e1, hB, by simp only [Array.getElem?_modify, if_true, hg]; rfl, by simpa using hs⟩
  · exact ⟨g, off, cur, t, e1, hB, by simp only [Array.getElem?_modify, if_neg hk]; exact hg, hs⟩
theorem below_set {B : Nat} {w w' : World} (h : Below B w w') (g o : Nat) (hg : B ≤ g) (v : Value) : Below B w (w'.setCell ⟨g, o, none⟩ v) :=
  h.trans ⟨rfl, rfl, rfl, by rw [Sort.setCell_eq]; simp [Sort.mapBlock], fun k hk => by rw [Sort.setCell_eq]; unfold Sort.mapBlock; simp only [Array.getElem?_modify, if_neg (show ¬ g = k by omega)]⟩
theorem Wrt.at {w : World} {B n c : Nat} {a : Option Addr} (h : Wrt w B (.slice a n c)) (i : Nat) (hi : i < n) : ∃ g off u, a = some ⟨g, off, none⟩ ∧ B ≤ g ∧ w.cell? ⟨g, off + i, none⟩ = some u ∧ w.frozen? ⟨g, off + i, none⟩ = false := by
  obtain ⟨a', n', c', e, hc⟩ := h
  injection e with e1 e2 e3
  subst e1 e2 e3
  obtain ⟨g, off, cur, t, e1, hB, hg, hs⟩ := hc (by omega)
  refine ⟨g, off, cur[off + i]'(by omega), e1, hB, ?_, ?_⟩
  · rw [cell_row hg]; exact Array.getElem?_eq_getElem _
  · simp [World.frozen?, hg]
/-- What a text is read as: how it ended, and the set. -/
def PF (b : List UInt8) (n : Int) (l : List Int) : Prop :=
  (65536 < b.length ∧ n = 3 ∧ l = []) ∨ (b.length ≤ 65536 ∧ b = [123, 125] ∧ n = 0 ∧ l = []) ∨
  (b.length ≤ 65536 ∧ b ≠ [123, 125] ∧ ((IsSet l ∧ 0 < l.length ∧ stx l = b ∧ n = 0) ∨ ((∀ l, IsSet l → 0 < l.length → stx l ≠ b) ∧ n = 20 ∧ l = [])))
theorem PF.one {b : List UInt8} {n m : Int} {l k : List Int} (h1 : PF b n l) (h2 : PF b m k) : m = n ∧ k = l := by
  rcases h1 with ⟨a, rfl, rfl⟩ | ⟨a, a2, rfl, rfl⟩ | ⟨a, a2, (⟨s1, s0, s2, rfl⟩ | ⟨s1, rfl, rfl⟩)⟩ <;> rcases h2 with ⟨c, rfl, rfl⟩ | ⟨c, c2, rfl, rfl⟩ | ⟨c, c2, (⟨t1, t0, t2, rfl⟩ | ⟨t1, rfl, rfl⟩)⟩ <;> first | exact ⟨rfl, rfl⟩ | (exfalso; omega) | exact absurd a2 c2 | exact absurd c2 a2 | exact absurd s2 (t1 _ s1 s0) | exact absurd t2 (s1 _ t1 t0) | skip
  exact ⟨rfl, stx_inj t1 s1 t0 s0 (t2.trans s2.symm)⟩
theorem PF.len {b : List UInt8} {n : Int} {l : List Int} (h : PF b n l) : l.length ≤ 64 := by
  rcases h with ⟨a, rfl, rfl⟩ | ⟨a, a2, rfl, rfl⟩ | ⟨a, a2, (⟨s1, s0, s2, rfl⟩ | ⟨s1, rfl, rfl⟩)⟩ <;> first | exact s1.1 | simp
theorem parsE_pf {b : List UInt8} {e : Ending} {B : Nat} {w : World} (h : ParsE b e B w) : ∃ p m c n l, e = .returned (.tuple #[.slice p m c, .int .i64 n]) ∧ Hid (Si w (.slice p m c) l) ∧ Hid (PF b n l) := by
  rcases h with ⟨a, rfl⟩ | ⟨a, a2, rfl⟩ | ⟨a, a2, (⟨l, v, s1, s0, s2, rfl, hr⟩ | ⟨s1, rfl⟩)⟩
  · exact ⟨_, _, _, _, [], rfl, Si.nil _, .inl ⟨a, rfl, rfl⟩⟩
  · exact ⟨_, _, _, _, [], rfl, Si.nil _, .inr (.inl ⟨a, a2, rfl, rfl⟩)⟩
  · have hs := own_si hr
    obtain ⟨p, c, rfl⟩ := own_slice hr
    exact ⟨_, _, _, _, l, rfl, hs, .inr (.inr ⟨a, a2, .inl ⟨s1, s0, s2, rfl⟩⟩)⟩
  · exact ⟨_, _, _, _, [], rfl, Si.nil _, .inr (.inr ⟨a, a2, .inr ⟨s1, rfl, rfl⟩⟩)⟩
end Go.Proofs.YtfcaemfledlnnaaGreatDoor.St

