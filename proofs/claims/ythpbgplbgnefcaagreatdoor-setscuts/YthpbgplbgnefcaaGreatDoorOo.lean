/-
  What is proved here: the reference's Spoil.
-/
import Derived.Test.YthpbgplbgnefcaaGreatDoorOn
namespace Go.Proofs.YthpbgplbgnefcaaGreatDoor
open Go.RowKit Go.Shelf
set_option linter.unusedVariables false
set_option linter.unusedSimpArgs false

/-- A slice of numbers whose elements can be written, in a block from B on. -/
def Wr2 (w : World) (B : Nat) (s : Value) : Prop := ∃ a n c, s = .slice a n c ∧ (0 < n → ∃ g off cur, a = some ⟨g, off, none⟩ ∧ B ≤ g ∧ w.heap[g]? = some (.cells cur 2 (0, 0)) ∧ off + n ≤ cur.size)
theorem own_wr2 {w : World} {B n : Nat} {s : Value} {xs : List Value} (h : w.ownsRow B 2 1 s n xs) : Wr2 w B s := by
  rcases h.2 with ⟨e, e0⟩ | ⟨g, cap, cur, e, hB, hg, hc, _, hs, _⟩
  · exact ⟨_, _, _, e, fun h0 => absurd h0 (by omega)⟩
  · exact ⟨_, _, _, e, fun h0 => ⟨g, 0, cur, rfl, hB, hg, by omega⟩⟩
theorem Wr2.below {w w' : World} {B : Nat} {s : Value} (h : Wr2 w B s) (hb : Below w.heap.size w w') : Wr2 w' B s := by
  obtain ⟨a, n, c, e, hc⟩ := h
  refine ⟨a, n, c, e, fun h0 => ?_⟩
  obtain ⟨g, off, cur, e1, hB, hg, hs⟩ := hc h0
  exact ⟨g, off, cur, e1, hB, (hb.block g (Array.getElem?_eq_some_iff.1 hg).1).trans hg, hs⟩
theorem Wr2.base {w : World} {B B' : Nat} {s : Value} (h : Wr2 w B s) (hb : B' ≤ B) : Wr2 w B' s := by
  obtain ⟨a, n, c, e, hc⟩ := h
  refine ⟨a, n, c, e, fun h0 => ?_⟩
  obtain ⟨g, off, cur, e1, hB, hg, hs⟩ := hc h0
  exact ⟨g, off, cur, e1, by omega, hg, hs⟩
theorem Wr2.set {w : World} {B : Nat} {s : Value} (h : Wr2 w B s) (g' o' : Nat) (v : Value) : Wr2 (w.setCell ⟨g', o', none⟩ v) B s := by
  obtain ⟨a, n, c, e, hc⟩ := h
  refine ⟨a, n, c, e, fun h0 => ?_⟩
  obtain ⟨g, off, cur, e1, hB, hg, hs⟩ := hc h0
  rw [Sort.setCell_eq]
  unfold Sort.mapBlock
  by_cases hk : g' = g
  · subst hk
    exact ⟨g', off, cur.setIfInBounds o' v, e1, hB, by simp only [Array.getElem?_modify, if_true, hg]; rfl, by simpa using hs⟩
  · exact ⟨g, off, cur, e1, hB, by simp only [Array.getElem?_modify, if_neg hk]; exact hg, hs⟩
theorem Wr2.at {w : World} {B n c : Nat} {a : Option Addr} (h : Wr2 w B (.slice a n c)) (i : Nat) (hi : i < n) : ∃ g off u cur, a = some ⟨g, off, none⟩ ∧ B ≤ g ∧ w.cell? ⟨g, off + i, none⟩ = some u ∧ w.frozen? ⟨g, off + i, none⟩ = false ∧ w.heap[g]? = some (.cells cur 2 (0, 0)) := by
  obtain ⟨a', n', c', e, hc⟩ := h
  injection e with e1 e2 e3
  subst e1 e2 e3
  obtain ⟨g, off, cur, e1, hB, hg, hs⟩ := hc (by omega)
  refine ⟨g, off, cur[off + i]'(by omega), cur, e1, hB, ?_, ?_, hg⟩
  · rw [cell_row hg]; exact Array.getElem?_eq_getElem _
  · simp [World.frozen?, hg]
/-- What a write into numbers from B on keeps. -/
structure Kps (B : Nat) (W w' : World) : Prop where
  b : Below B W w'
  k : ∀ (g : Nat) (cs : Array Value), W.heap[g]? = some (.cells cs 37 (0, 0)) → w'.heap[g]? = some (.cells cs 37 (0, 0))
  r : ∀ B' s, Wr2 W B' s → Wr2 w' B' s
theorem Kps.of_below {B : Nat} {W w' : World} (h : Below W.heap.size W w') (hB : B ≤ W.heap.size) : Kps B W w' :=
  ⟨h.mono hB, fun g cs e => (h.block g (Array.getElem?_eq_some_iff.1 e).1).trans e, fun _ _ e => e.below h⟩
theorem Kps.trans {B : Nat} {W w1 w2 : World} (h1 : Kps B W w1) (h2 : Kps B w1 w2) : Kps B W w2 :=
  ⟨h1.b.trans h2.b, fun g cs e => h2.k g cs (h1.k g cs e), fun B' s e => h2.r B' s (h1.r B' s e)⟩
theorem Kps.set {B : Nat} {W w' : World} (h : Kps B W w') {g o : Nat} {cur : Array Value} (hg : w'.heap[g]? = some (.cells cur 2 (0, 0))) (hB : B ≤ g) (v : Value) : Kps B W (w'.setCell ⟨g, o, none⟩ v) :=
  ⟨below_set h.b g o hB v, fun k cs e => by
    have e2 := h.k k cs e
    have hk : ¬ g = k := fun e3 => by subst e3; rw [hg] at e2; injection e2 with e2; injection e2 with _ e2; cases e2
    rw [Sort.setCell_eq]; unfold Sort.mapBlock
    simp only [Array.getElem?_modify, if_neg hk]
    exact e2, fun B' s e => (h.r B' s e).set g o v⟩
theorem R6.keep {B : Nat} {w w' : World} {g : Nat} {x0 x1 x2 x3 x4 x5 : Value} (h : R6 w g x0 x1 x2 x3 x4 x5) (hk : Kps B w w') : R6 w' g x0 x1 x2 x3 x4 x5 := ⟨hk.k _ _ h.h⟩

set_option maxRecDepth 100000 in
set_option maxHeartbeats 4000000 in
theorem spoil_any (B : Nat) (x0 : Bool) (p1 p2 : Option Addr) (m1 k1 m2 k2 : Nat) (x4 x5 : Int) (W : World) (hB : B ≤ W.heap.size) (h1 : Wr2 W B (.slice p1 m1 k1)) (h2 : Wr2 W B (.slice p2 m2 k2)) (hm1 : m1 ≤ 1000) (hm2 : m2 ≤ 1000) :
    Calls Tryz.prog 36 #[.agg #[.bool x0, .slice none 0 0, .slice p1 m1 k1, .slice p2 m2 k2, .int .i64 x4, .int .i64 x5]] W fun e w' => ∃ r, e = .returned r ∧ Kps B W w' := by
  obtain ⟨w0, hW0⟩ : ∃ X, W.alloc (Obj.cells #[.bool x0, .slice none 0 0, .slice p1 m1 k1, .slice p2 m2 k2, .int .i64 x4, .int .i64 x5] 37) = X := ⟨_, rfl⟩
  have HW0 : Hid _ := hW0
  have hb0 : Below W.heap.size W w0 := by rw [← hW0]; exact (Below.refl _ W).alloc (Nat.le_refl _) _
  have HA : Hid (R6 w0 W.heap.size (.bool x0) (.slice none 0 0) (.slice p1 m1 k1) (.slice p2 m2 k2) (.int .i64 x4) (.int .i64 x5)) := by rw [← hW0]; exact R6.new _ _ _ _ _ _ _
  have HK0 : Hid (Kps B W w0) := Kps.of_below hb0 hB
  have H1 : Hid (Wr2 w0 B (.slice p1 m1 k1)) := h1.below hb0
  have H2 : Hid (Wr2 w0 B (.slice p2 m2 k2)) := h2.below hb0
  have HP : Hid (Kps B w0 w0) := Kps.of_below (Below.refl _ _) (Nat.le_trans hB hb0.size)
  clear hW0 h1 h2 hb0
  obtain ⟨z0, z1, z2, z3, z4, z5⟩ := HA.out.cells
  go_enter Tryz.func36, Tryz.ntmps36
  go_upto_region 2 with (fail)
  rw [HW0.out]
  clear HW0
  go_loopw [2] (fun i wr => i = .int .i64 0 ∧ w0 = wr) (fun i _ => 0)
  case atStart => exact ⟨rfl, rfl⟩
  case round =>
    obtain ⟨rfl, hwr⟩ := hrel
    subst hwr
    go_wp2
    clear z0 z1 z2 z3 z4 z5
    go_loopw [3] (fun i wr => ∃ k : Nat, k ≤ m1 ∧ i = .int .i64 k ∧ Hid (Kps B w0 wr)) (fun i _ => m1 - (intOf i).toNat)
    case atStart => exact ⟨0, Nat.zero_le _, rfl, HP.out⟩
    case round =>
      clear HP
      obtain ⟨k, hk, rfl, HP⟩ := hrel
      obtain ⟨z0, z1, z2, z3, z4, z5⟩ := (HA.out.keep HP.out).cells
      by_cases hlt : k < m1
      · obtain ⟨g, off, u, cur, hpp, hg, q1, q2, hgc⟩ := (HP.out.r _ _ H1.out).at k hlt
        subst hpp
        have hlt' : (k : Int) < (m1 : Int) := by omega
        have HNX : Hid (Kps B w0 (wr.setCell ⟨g, off + k, none⟩ (.int .i64 99))) := HP.out.set hgc hg _
        clear hgc
        go_wp2
        refine ⟨⟨k + 1, by omega, by go_num, HNX.out⟩, ?_⟩
        simp [intOf]; omega
      · have hlt' : ¬ (k : Int) < (m1 : Int) := by omega
        clear hk hlt
        go_wp2
        clear z0 z1 z2 z3 z4 z5 hlt'
        go_loopw [4] (fun i wr => ∃ k : Nat, k ≤ m2 ∧ i = .int .i64 k ∧ Hid (Kps B w0 wr)) (fun i _ => m2 - (intOf i).toNat)
        case atStart => exact ⟨0, Nat.zero_le _, rfl, HP.out⟩
        case round =>
          clear HP
          obtain ⟨k, hk, rfl, HP⟩ := hrel
          obtain ⟨z0, z1, z2, z3, z4, z5⟩ := (HA.out.keep HP.out).cells
          by_cases hlt : k < m2
          · obtain ⟨g, off, u, cur, hpp, hg, q1, q2, hgc⟩ := (HP.out.r _ _ H2.out).at k hlt
            subst hpp
            have hlt' : (k : Int) < (m2 : Int) := by omega
            have HNX : Hid (Kps B w0 (wr.setCell ⟨g, off + k, none⟩ (.int .i64 98))) := HP.out.set hgc hg _
            clear hgc
            go_wp2
            refine ⟨⟨k + 1, by omega, by go_num, HNX.out⟩, ?_⟩
            simp [intOf]; omega
          · have hlt' : ¬ (k : Int) < (m2 : Int) := by omega
            clear hk hlt
            go_wp2
            exact ⟨rfl, _, results_none rfl _ _ _, ⟨_, rfl⟩, HK0.out.trans HP.out⟩
end Go.Proofs.YthpbgplbgnefcaaGreatDoor
