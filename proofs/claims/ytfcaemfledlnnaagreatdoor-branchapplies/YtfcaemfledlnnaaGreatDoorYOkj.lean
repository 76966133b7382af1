/-
  What is proved here: what sets.Same tells of any two domains.
  What is proved here: what sets.Both leaves of any two domains.
  What is proved here: what the reference's Same tells of any two domains.
  What is proved here: the reference's One of a domain and its like, and Spoil. the reference's Spoil. the reference's Lent of a domain.
-/
import Derived.Test.YtfcaemfledlnnaaGreatDoorYTc
namespace Go.Proofs.YtfcaemfledlnnaaGreatDoor.St
open Go.RowKit Go.Shelf
set_option linter.unusedVariables false
set_option linter.unusedSimpArgs false

theorem eqc {P : Program} {F : Nat} {args : Array Value} {W : World} {b c : Bool} {Q : World → Prop} (h : b = c) (k : Calls P F args W fun e w' => e = .returned (.bool b) ∧ Q w') : Calls P F args W fun e w' => e = .returned (.bool c) ∧ Q w' := by
  subst h; exact k

end Go.Proofs.YtfcaemfledlnnaaGreatDoor.St


namespace Go.Proofs.YtfcaemfledlnnaaGreatDoor.St
open Go.RowKit Go.Shelf
set_option linter.unusedVariables false
set_option linter.unusedSimpArgs false

end Go.Proofs.YtfcaemfledlnnaaGreatDoor.St


namespace Go.Proofs.YtfcaemfledlnnaaGreatDoor.St
open Go.RowKit Go.Shelf
set_option linter.unusedVariables false
set_option linter.unusedSimpArgs false

theorem tight_set (lo up : List Int) (least most : Int) : (tightD lo up least most).set = true := by
  unfold tightD; dsimp only; split <;> rfl

end Go.Proofs.YtfcaemfledlnnaaGreatDoor.St


namespace Go.Proofs.YtfcaemfledlnnaaGreatDoor.St
open Go.RowKit Go.Shelf
set_option linter.unusedVariables false
set_option linter.unusedSimpArgs false

/-- A slice of ranges: its numbers one behind the other. -/
def Rr (W : World) (s : Value) (fr : List Int) : Prop := ∃ a n cap, s = .slice a n cap ∧ fr.length = n * 2 ∧ (0 < n → ∃ b off, a = some ⟨b, off, none⟩ ∧ b < W.heap.size ∧ ∀ i, i < n * 2 → W.cell? ⟨b, off + i, none⟩ = some (.int .i64 (nth fr i)))
theorem Rr.below {W W' : World} {s : Value} {fr : List Int} (h : Rr W s fr) (hb : Below W.heap.size W W') : Rr W' s fr := by
  obtain ⟨a, n, cap, e, hl, hc⟩ := h
  refine ⟨a, n, cap, e, hl, fun h0 => ?_⟩
  obtain ⟨b, off, e1, hlt, hcell⟩ := hc h0
  exact ⟨b, off, e1, Nat.lt_of_lt_of_le hlt hb.size, fun i hi => (hb.cell (p := ⟨b, off + i, none⟩) hlt).trans (hcell i hi)⟩
/-- A domain that came in, with its ranges, no longer than a machine's memory. -/
def Dr (W : World) (v : Value) (d : SD) (fr : List Int) : Prop :=
  ∃ ra rc slo sup, v = .agg #[.bool d.set, .slice ra d.rn rc, slo, sup, .int .i64 d.least, .int .i64 d.most] ∧ Si W slo d.lo ∧ Si W sup d.up ∧ Rr W (.slice ra d.rn rc) fr ∧ d.lo.length * 8 ≤ 140737488351232 ∧ d.up.length * 8 ≤ 140737488351232 ∧ d.rn * 16 ≤ 140737488351232
theorem Dr.below {W W' : World} {v : Value} {d : SD} {fr : List Int} (h : Dr W v d fr) (hb : Below W.heap.size W W') : Dr W' v d fr := by
  obtain ⟨ra, rc, slo, sup, e, h1, h2, h3, h4⟩ := h
  exact ⟨ra, rc, slo, sup, e, h1.below hb, h2.below hb, h3.below hb, h4⟩
theorem Dr.di {W : World} {v : Value} {d : SD} {fr : List Int} (h : Dr W v d fr) : Di W v d := by
  obtain ⟨ra, rc, slo, sup, e, h1, h2, h3, h4⟩ := h
  exact ⟨ra, rc, slo, sup, e, h1, h2⟩
theorem Dr.look {w : World} {v : Value} {d : SD} {fr : List Int} (h : Dr w v d fr) : ∃ x0 ra rn rc a1 n1 c1 a2 n2 c2 x4 x5, v = .agg #[.bool x0, .slice ra rn rc, .slice a1 n1 c1, .slice a2 n2 c2, .int .i64 x4, .int .i64 x5] ∧
    Hid (d.set = x0 ∧ d.lo.length = n1 ∧ d.up.length = n2 ∧ d.least = x4 ∧ d.most = x5 ∧ d.rn = rn) ∧ Hid (Si w (.slice a1 n1 c1) d.lo) ∧ Hid (Si w (.slice a2 n2 c2) d.up) ∧ Hid (Rr w (.slice ra rn rc) fr) ∧ d.lo.length * 8 ≤ 140737488351232 ∧ d.up.length * 8 ≤ 140737488351232 ∧ d.rn * 16 ≤ 140737488351232 := by
  obtain ⟨ra, rc, slo, sup, e, h1, h2, h3, h4⟩ := h
  have h1' := h1
  have h2' := h2
  obtain ⟨a1, c1, rfl, _⟩ := h1'
  obtain ⟨a2, c2, rfl, _⟩ := h2'
  exact ⟨_, _, _, _, _, _, _, _, _, _, _, _, e, ⟨rfl, rfl, rfl, rfl, rfl, rfl⟩, h1, h2, h3, h4⟩

set_option maxRecDepth 100000 in
set_option maxHeartbeats 4000000 in
theorem one_same (v u : Value) (d : SD) (fr : List Int) (W : World) (h : Dr W v d fr) (ho : Dr W u d fr) :
    Calls Tryz.prog 22 #[v, u] W fun e w' => e = .returned (.bool true) ∧ Below W.heap.size W w' := by
  obtain ⟨x0a, raa, rna, rca, a1a, n1a, c1a, a2a, n2a, c2a, x4a, x5a, rfl, HEa, HLOa, HUPa, HRa, hz1a, hz2a, hz3a⟩ := h.look
  obtain ⟨x0b, rab, rnb, rcb, a1b, n1b, c1b, a2b, n2b, c2b, x4b, x5b, rfl, HEb, HLOb, HUPb, HRb, hz1b, hz2b, hz3b⟩ := ho.look
  have k14a := fun X (hX : Below W.heap.size W X) => eqc (show decide (d.lo = d.lo) = true by simp) (refsame_any _ _ d.lo d.lo X (HLOa.out.below hX) (HLOb.out.below hX) hz1a)
  have k14b := fun X (hX : Below W.heap.size W X) => eqc (show decide (d.up = d.up) = true by simp) (refsame_any _ _ d.up d.up X (HUPa.out.below hX) (HUPb.out.below hX) hz2a)
  obtain rfl : x0a = x0b := by rw [← HEa.out.1, ← HEb.out.1]
  obtain rfl : x4a = x4b := by rw [← HEa.out.2.2.2.1, ← HEb.out.2.2.2.1]
  obtain rfl : x5a = x5b := by rw [← HEa.out.2.2.2.2.1, ← HEb.out.2.2.2.2.1]
  obtain rfl : rna = rnb := by rw [← HEa.out.2.2.2.2.2, ← HEb.out.2.2.2.2.2]
  have hnn : rna * 16 ≤ 140737488351232 := by rw [← HEa.out.2.2.2.2.2]; exact hz3a
  have HRA : Hid (∀ X, Below W.heap.size W X → 0 < rna → ∃ b off, raa = some ⟨b, off, none⟩ ∧ ∀ i, i < rna * 2 → X.cell? ⟨b, off + i, none⟩ = some (.int .i64 (nth fr i))) := fun X hX h0 => by
    obtain ⟨a, n, cap, e, _, hc⟩ := HRa.out.below hX
    injection e with e1 e2 e3
    subst e1 e2 e3
    obtain ⟨b, off, e1, _, hcell⟩ := hc h0
    exact ⟨b, off, e1, hcell⟩
  have HRB : Hid (∀ X, Below W.heap.size W X → 0 < rna → ∃ b off, rab = some ⟨b, off, none⟩ ∧ ∀ i, i < rna * 2 → X.cell? ⟨b, off + i, none⟩ = some (.int .i64 (nth fr i))) := fun X hX h0 => by
    obtain ⟨a, n, cap, e, _, hc⟩ := HRb.out.below hX
    injection e with e1 e2 e3
    subst e1 e2 e3
    obtain ⟨b, off, e1, _, hcell⟩ := hc h0
    exact ⟨b, off, e1, hcell⟩
  clear h ho HEa HLOa HUPa HEb HLOb HUPb HRa HRb hz1a hz2a hz3a hz1b hz2b hz3b
  obtain ⟨w0, hW0⟩ : ∃ X, ((W.alloc (Obj.cells #[.bool x0a, .slice raa rna rca, .slice a1a n1a c1a, .slice a2a n2a c2a, .int .i64 x4a, .int .i64 x5a] 50)).alloc (Obj.cells #[.bool x0a, .slice rab rna rcb, .slice a1b n1b c1b, .slice a2b n2b c2b, .int .i64 x4a, .int .i64 x5a] 50)) = X := ⟨_, rfl⟩
  have HW0 : Hid _ := hW0
  have hb0 : Below W.heap.size W w0 := by rw [← hW0]; exact (((Below.refl _ W).alloc (by simp <;> omega) _).alloc (by simp <;> omega) _)
  have HA_0 : Hid (R6 w0 W.heap.size (.bool x0a) (.slice raa rna rca) (.slice a1a n1a c1a) (.slice a2a n2a c2a) (.int .i64 x4a) (.int .i64 x5a)) := by rw [← hW0]; exact ((R6.new _ _ _ _ _ _ _).alloc _)
  have HB_0 : Hid (R6 w0 (W.heap.size + 1) (.bool x0a) (.slice rab rna rcb) (.slice a1b n1b c1b) (.slice a2b n2b c2b) (.int .i64 x4a) (.int .i64 x5a)) := by rw [← hW0]; exact (R6.new1 _ _ _ _ _ _ _ _)
  clear hW0
  go_enter Tryz.func22, Tryz.ntmps22
  go_upto_region 1 with (fail)
  rw [HW0.out]
  clear HW0
  obtain ⟨zA0, zA1, zA2, zA3, zA4, zA5⟩ := HA_0.out.cells
  obtain ⟨zB0, zB1, zB2, zB3, zB4, zB5⟩ := HB_0.out.cells
  go_wp2_with fail
  refine (k14a w0 hb0).mono ?_
  rintro e w1 ⟨rfl, hb⟩
  have hb1 : Below W.heap.size W w1 := hb0.trans (hb.mono hb0.size)
  have HA_1 : Hid _ := HA_0.out.below hb
  have HB_1 : Hid _ := HB_0.out.below hb
  clear zA0 zA1 zA2 zA3 zA4 zA5 zB0 zB1 zB2 zB3 zB4 zB5
  clear hb hb0 HA_0 HB_0
  obtain ⟨zA0, zA1, zA2, zA3, zA4, zA5⟩ := HA_1.out.cells
  obtain ⟨zB0, zB1, zB2, zB3, zB4, zB5⟩ := HB_1.out.cells
  go_wp2_with fail
  refine (k14b w1 hb1).mono ?_
  rintro e w2 ⟨rfl, hb⟩
  have hb2 : Below W.heap.size W w2 := hb1.trans (hb.mono hb1.size)
  have HA_2 : Hid _ := HA_1.out.below hb
  have HB_2 : Hid _ := HB_1.out.below hb
  clear zA0 zA1 zA2 zA3 zA4 zA5 zB0 zB1 zB2 zB3 zB4 zB5
  clear hb hb1 HA_1 HB_1
  obtain ⟨zA0, zA1, zA2, zA3, zA4, zA5⟩ := HA_2.out.cells
  obtain ⟨zB0, zB1, zB2, zB3, zB4, zB5⟩ := HB_2.out.cells
  go_wp2
  go_loopw [5] (fun i wr => ∃ j : Nat, j ≤ rna ∧ i = .int .i64 (j : Int) ∧ ∃ q, wr = w2.drewN q) (fun i _ => rna - (intOf i).toNat)
  case atStart => exact ⟨0, Nat.zero_le _, rfl, 0, rfl⟩
  case round =>
    obtain ⟨j, hj, rfl, q, rfl⟩ := hrel
    by_cases hlt : j < rna
    · obtain ⟨b1, o1, rfl, hcell1⟩ := HRA.out w2 hb2 (by omega)
      obtain ⟨b2, o2, rfl, hcell2⟩ := HRB.out w2 hb2 (by omega)
      have x1 := hcell1 (j * 2) (by omega)
      have x2 := hcell1 (j * 2 + 1) (by omega)
      have y1 := hcell2 (j * 2) (by omega)
      have y2 := hcell2 (j * 2 + 1) (by omega)
      rw [← Nat.add_assoc] at x2 y2
      have kk : (j : Int) < (rna : Int) := by omega
      clear hcell1 hcell2
      generalize nth fr (j * 2) = p at *
      generalize nth fr (j * 2 + 1) = r at *
      go_wp2
      go_quiet (fail)
      go_wp2
      go_roundw
      case rel => exact ⟨j + 1, by omega, by go_num, _, rfl⟩
      case measure => simp [intOf]; omega
    · go_wp2
      go_ret
      exact ⟨rfl, below_drewN hb2 _⟩

/-- A slice of numbers whose elements can be written, in a block from B on. -/
def Wr2 (w : World) (B : Nat) (s : Value) : Prop := ∃ a n c, s = .slice a n c ∧ (0 < n → ∃ g off cur, a = some ⟨g, off, none⟩ ∧ B ≤ g ∧ w.heap[g]? = some (.cells cur 2 (0, 0)) ∧ off + n ≤ cur.size)
theorem own_wr2 {w : World} {B n : Nat} {s : Value} {xs : List Value} (h : w.ownsRow B 2 1 s n xs) : Wr2 w B s := by
  rcases h.2 with ⟨e, e0⟩ | ⟨g, cap, cur, e, hB, hg, hc, _, hs, _⟩
  · exact ⟨_, _, _, e, fun h0 => absurd h0 (by omega)⟩
  · exact ⟨_, _, _, e, fun h0 => ⟨g, 0, cur, rfl, hB, hg, by omega⟩⟩
theorem Wr2.below {w w' : World} {B : Nat} {s : Value} (h : Wr2 w B s) (hb : Below w.heap.size w w') : Wr2 w' B s := by
  obtain ⟨a, n, c, e, hc⟩ := h
  refine ⟨a, n, c, e, fun h0 => ?_⟩
  obtain ⟨g, off, cur, e1, hB, hg, hs⟩ := hc h0
  exact ⟨g, off, cur, e1, hB, (hb.block g (Array.getElem?_eq_some_iff.1 hg).1).trans hg, hs⟩
theorem Wr2.base {w : World} {B B' : Nat} {s : Value} (h : Wr2 w B s) (hb : B' ≤ B) : Wr2 w B' s := by
  obtain ⟨a, n, c, e, hc⟩ := h
  refine ⟨a, n, c, e, fun h0 => ?_⟩
  obtain ⟨g, off, cur, e1, hB, hg, hs⟩ := hc h0
  exact ⟨g, off, cur, e1, by omega, hg, hs⟩
theorem Wr2.set {w : World} {B : Nat} {s : Value} (h : Wr2 w B s) (g' o' : Nat) (v : Value) : Wr2 (w.setCell ⟨g', o', none⟩ v) B s := by
  obtain ⟨a, n, c, e, hc⟩ := h
  refine ⟨a, n, c, e, fun h0 => ?_⟩
  obtain ⟨g, off, cur, e1, hB, hg, hs⟩ := hc h0
  rw [Sort.setCell_eq]
  unfold Sort.mapBlock
  by_cases hk : g' = g
  · subst hk
    exact ⟨g', off, cur.setIfInBounds o' v, e1, hB, by simp only [Array.getElem?_modify, if_true, hg]; rfl, by simpa using hs⟩
  · exact ⟨g, off, cur, e1, hB, by simp only [Array.getElem?_modify, if_neg hk]; exact hg, hs⟩
theorem Wr2.at {w : World} {B n c : Nat} {a : Option Addr} (h : Wr2 w B (.slice a n c)) (i : Nat) (hi : i < n) : ∃ g off u cur, a = some ⟨g, off, none⟩ ∧ B ≤ g ∧ w.cell? ⟨g, off + i, none⟩ = some u ∧ w.frozen? ⟨g, off + i, none⟩ = false ∧ w.heap[g]? = some (.cells cur 2 (0, 0)) := by
  obtain ⟨a', n', c', e, hc⟩ := h
  injection e with e1 e2 e3
  subst e1 e2 e3
  obtain ⟨g, off, cur, e1, hB, hg, hs⟩ := hc (by omega)
  refine ⟨g, off, cur[off + i]'(by omega), cur, e1, hB, ?_, ?_, hg⟩
  · rw [cell_row hg]; exact Array.getElem?_eq_getElem _
  · simp [World.frozen?, hg]
/-- What a write into numbers from B on keeps. -/
structure Kps (B : Nat) (W w' : World) : Prop where
  b : Below B W w'
  k : ∀ (g : Nat) (cs : Array Value), W.heap[g]? = some (.cells cs 50 (0, 0)) → w'.heap[g]? = some (.cells cs 50 (0, 0))
  r : ∀ B' s, Wr2 W B' s → Wr2 w' B' s
theorem Kps.of_below {B : Nat} {W w' : World} (h : Below W.heap.size W w') (hB : B ≤ W.heap.size) : Kps B W w' :=
  ⟨h.mono hB, fun g cs e => (h.block g (Array.getElem?_eq_some_iff.1 e).1).trans e, fun _ _ e => e.below h⟩
theorem Kps.trans {B : Nat} {W w1 w2 : World} (h1 : Kps B W w1) (h2 : Kps B w1 w2) : Kps B W w2 :=
  ⟨h1.b.trans h2.b, fun g cs e => h2.k g cs (h1.k g cs e), fun B' s e => h2.r B' s (h1.r B' s e)⟩
theorem Kps.set {B : Nat} {W w' : World} (h : Kps B W w') {g o : Nat} {cur : Array Value} (hg : w'.heap[g]? = some (.cells cur 2 (0, 0))) (hB : B ≤ g) (v : Value) : Kps B W (w'.setCell ⟨g, o, none⟩ v) :=
  ⟨below_set h.b g o hB v, fun k cs e => by
    have e2 := h.k k cs e
    have hk : ¬ g = k := fun e3 => by subst e3; rw [hg] at e2; injection e2 with e2; injection e2 with _ e2; cases e2
    rw [Sort.setCell_eq]; unfold Sort.mapBlock
    simp only [Array.getElem?_modify, if_neg hk]
    exact e2, fun B' s e => (h.r B' s e).set g o v⟩
theorem R6.keep {B : Nat} {w w' : World} {g : Nat} {x0 x1 x2 x3 x4 x5 : Value} (h : R6 w g x0 x1 x2 x3 x4 x5) (hk : Kps B w w') : R6 w' g x0 x1 x2 x3 x4 x5 := ⟨hk.k _ _ h.h⟩

set_option maxRecDepth 100000 in
set_option maxHeartbeats 4000000 in
theorem spoil_any (B : Nat) (x0 : Bool) (p1 p2 : Option Addr) (m1 k1 m2 k2 : Nat) (x4 x5 : Int) (W : World) (hB : B ≤ W.heap.size) (h1 : Wr2 W B (.slice p1 m1 k1)) (h2 : Wr2 W B (.slice p2 m2 k2)) (hm1 : m1 ≤ 1000) (hm2 : m2 ≤ 1000) :
    Calls Tryz.prog 29 #[.agg #[.bool x0, .slice none 0 0, .slice p1 m1 k1, .slice p2 m2 k2, .int .i64 x4, .int .i64 x5]] W fun e w' => ∃ r, e = .returned r ∧ Kps B W w' := by
  obtain ⟨w0, hW0⟩ : ∃ X, W.alloc (Obj.cells #[.bool x0, .slice none 0 0, .slice p1 m1 k1, .slice p2 m2 k2, .int .i64 x4, .int .i64 x5] 50) = X := ⟨_, rfl⟩
  have HW0 : Hid _ := hW0
  have hb0 : Below W.heap.size W w0 := by rw [← hW0]; exact (Below.refl _ W).alloc (Nat.le_refl _) _
  have HA : Hid (R6 w0 W.heap.size (.bool x0) (.slice none 0 0) (.slice p1 m1 k1) (.slice p2 m2 k2) (.int .i64 x4) (.int .i64 x5)) := by rw [← hW0]; exact R6.new _ _ _ _ _ _ _
  have HK0 : Hid (Kps B W w0) := Kps.of_below hb0 hB
  have H1 : Hid (Wr2 w0 B (.slice p1 m1 k1)) := h1.below hb0
  have H2 : Hid (Wr2 w0 B (.slice p2 m2 k2)) := h2.below hb0
  have HP : Hid (Kps B w0 w0) := Kps.of_below (Below.refl _ _) (Nat.le_trans hB hb0.size)
  clear hW0 h1 h2 hb0
  obtain ⟨z0, z1, z2, z3, z4, z5⟩ := HA.out.cells
  go_enter Tryz.func29, Tryz.ntmps29
  go_upto_region 2 with (fail)
  rw [HW0.out]
  clear HW0
  go_loopw [2] (fun i wr => i = .int .i64 0 ∧ w0 = wr) (fun i _ => 0)
  case atStart => exact ⟨rfl, rfl⟩
  case round =>
    obtain ⟨rfl, hwr⟩ := hrel
    subst hwr
    go_wp2
    clear z0 z1 z2 z3 z4 z5
    go_loopw [3] (fun i wr => ∃ k : Nat, k ≤ m1 ∧ i = .int .i64 k ∧ Hid (Kps B w0 wr)) (fun i _ => m1 - (intOf i).toNat)
    case atStart => exact ⟨0, Nat.zero_le _, rfl, HP.out⟩
    case round =>
      clear HP
      obtain ⟨k, hk, rfl, HP⟩ := hrel
      obtain ⟨z0, z1, z2, z3, z4, z5⟩ := (HA.out.keep HP.out).cells
      by_cases hlt : k < m1
      · obtain ⟨g, off, u, cur, hpp, hg, q1, q2, hgc⟩ := (HP.out.r _ _ H1.out).at k hlt
        subst hpp
        have hlt' : (k : Int) < (m1 : Int) := by omega
        have HNX : Hid (Kps B w0 (wr.setCell ⟨g, off + k, none⟩ (.int .i64 99))) := HP.out.set hgc hg _
        clear hgc
        go_wp2
        refine ⟨⟨k + 1, by omega, by go_num, HNX.out⟩, ?_⟩
        simp [intOf]; omega
      · have hlt' : ¬ (k : Int) < (m1 : Int) := by omega
        clear hk hlt
        go_wp2
        clear z0 z1 z2 z3 z4 z5 hlt'
        go_loopw [4] (fun i wr => ∃ k : Nat, k ≤ m2 ∧ i = .int .i64 k ∧ Hid (Kps B w0 wr)) (fun i _ => m2 - (intOf i).toNat)
        case atStart => exact ⟨0, Nat.zero_le _, rfl, HP.out⟩
        case round =>
          clear HP
          obtain ⟨k, hk, rfl, HP⟩ := hrel
          obtain ⟨z0, z1, z2, z3, z4, z5⟩ := (HA.out.keep HP.out).cells
          by_cases hlt : k < m2
          · obtain ⟨g, off, u, cur, hpp, hg, q1, q2, hgc⟩ := (HP.out.r _ _ H2.out).at k hlt
            subst hpp
            have hlt' : (k : Int) < (m2 : Int) := by omega
            have HNX : Hid (Kps B w0 (wr.setCell ⟨g, off + k, none⟩ (.int .i64 98))) := HP.out.set hgc hg _
            clear hgc
            go_wp2
            refine ⟨⟨k + 1, by omega, by go_num, HNX.out⟩, ?_⟩
            simp [intOf]; omega
          · have hlt' : ¬ (k : Int) < (m2 : Int) := by omega
            clear hk hlt
            go_wp2
            exact ⟨rfl, _, results_none rfl _ _ _, ⟨_, rfl⟩, HK0.out.trans HP.out⟩

theorem Tryz.info92 : (Tryz.prog.info? 92).map (fun i => (i.zero, i.size, i.bytes)) = some (some (.agg #[.int .i64 0, .int .i64 0]), 2, 16) := by kernel_rfl
theorem run_app_noneR (w : World) (ty : TypeId) (c' : Nat) : (Builtin.append_ #[47, 47] ty #[.slice none 0 0, .slice none 0 c']).run Tryz.prog w = .ok (.slice none 0 0) w := by
  obtain ⟨i0, hi0, hz0, hz1, hz2⟩ := info_parts Tryz.info92
  have hf : (Builtin.firstCells i0.size 0 (.slice none 0 c')).run Tryz.prog w = .ok #[] w := by simp [Builtin.firstCells]
  simp [Builtin.append_, run_underlying Tryz.underlying47, sizeOf, typeInfo, hi0, Builtin.lenOf, hf, storeCells]
/-- Appending a slice of numbers to none. -/
theorem wpList_app_i (w : World) {ops : Array Oper} {rest : List Oper} {o : Oper} {a : Act} {Q : Exit → Act → World → Prop} (hgd : o.guard = none) (s x : Operand) (ho : o.op = .call { callee := .builtin .append, args := #[s, x], argTypes := #[48, 48] })
    (hs : a.eval s = .slice none 0 0) (sx : Value) (l : List Int) (hx : a.eval x = sx) (hsx : Si w sx l) (hb : l.length * 8 ≤ 140737488351232)
    (h : ∀ v' w', w'.ownsRow w.heap.size 2 1 v' l.length (intv l) → Below w.heap.size w w' → wpList Tryz.prog ops Q rest (a.put o.dst v') w') : wpList Tryz.prog ops Q (o :: rest) a w := by
  obtain ⟨i0, hi0, hz0, hz1, hz2⟩ := info_parts Tryz.info2
  obtain ⟨ax, cx, rfl, hcx⟩ := hsx
  have hown : w.ownsRow w.heap.size 2 1 (.slice none 0 0) 0 [] := World.ownsRow_nil _ _ _ _
  have hbel : ∀ w', w.grownBy w' (Value.slice none 0 0).ownBlock → Below w.heap.size w w' := fun w' hg => (Below.refl _ w).grown hg (Nat.le_refl _) (fun k e => by cases e)
  cases ax with
  | none =>
    have h0 : l.length = 0 := by
      apply Classical.byContradiction; intro hn
      obtain ⟨_, _, e, _⟩ := hcx (by omega)
      cases e
    obtain rfl := List.eq_nil_of_length_eq_zero h0
    refine Lib.wpList_append_run w hgd s x 48 48 ho _ _ hs hx _ _ (run_app_none w _ none 0 0 cx (Nat.le_refl _)) (h _ _ ?_ (Below.refl _ _))
    exact hown
  | some ad =>
    rcases Nat.eq_zero_or_pos l.length with h0 | h0
    · obtain rfl := List.eq_nil_of_length_eq_zero h0
      refine wpList_append_own _ hgd s x 48 ho w.heap.size 2 i0 (.int .i64 0) 1 8 Tryz.underlying48 hi0 hz0 hz1 hz2 rfl (by decide) _ _ _ hs hown ad 0 cx [] hx rfl (fun j u h => by simp at h) (fun u h => by simp at h) (by unfold maxLen; omega) (by omega) (Nat.le_refl _) ?_
      intro v' w' h1 h2 _
      exact h v' w' (by simpa [intv] using h1) (hbel w' h2)
    · obtain ⟨b, off, e, hlt, hcell⟩ := hcx h0
      injection e with e
      subst e
      refine wpList_append_own _ hgd s x 48 ho w.heap.size 2 i0 (.int .i64 0) 1 8 Tryz.underlying48 hi0 hz0 hz1 hz2 rfl (by decide) _ _ _ hs hown ⟨b, off, none⟩ l.length cx (intv l) hx (by simp [intv]) (srcells hcell) intv_one (by unfold maxLen; omega) (by omega) (Nat.le_refl _) ?_
      intro v' w' h1 h2 _
      exact h v' w' (by simpa [intv] using h1) (hbel w' h2)
/-- Appending a slice of ranges to none. -/
theorem wpList_app_r (w : World) {ops : Array Oper} {rest : List Oper} {o : Oper} {a : Act} {Q : Exit → Act → World → Prop} (hgd : o.guard = none) (s x : Operand) (ho : o.op = .call { callee := .builtin .append, args := #[s, x], argTypes := #[47, 47] })
    (hs : a.eval s = .slice none 0 0) (ax : Option Addr) (n cx : Nat) (fr : List Int) (hx : a.eval x = .slice ax n cx) (hsx : Rr w (.slice ax n cx) fr) (hb : n * 16 ≤ 140737488351232)
    (h : ∀ v' w', w'.ownsRow w.heap.size 92 2 v' n (intv fr) → Below w.heap.size w w' → wpList Tryz.prog ops Q rest (a.put o.dst v') w') : wpList Tryz.prog ops Q (o :: rest) a w := by
  obtain ⟨i0, hi0, hz0, hz1, hz2⟩ := info_parts Tryz.info92
  obtain ⟨ax', n', cx', e, hl, hcx⟩ := hsx
  injection e with e1 e2 e3
  subst e1 e2 e3
  have hown : w.ownsRow w.heap.size 92 2 (.slice none 0 0) 0 [] := World.ownsRow_nil _ _ _ _
  have hbel : ∀ w', w.grownBy w' (Value.slice none 0 0).ownBlock → Below w.heap.size w w' := fun w' hg => (Below.refl _ w).grown hg (Nat.le_refl _) (fun k e => by cases e)
  rcases Nat.eq_zero_or_pos n with h0 | h0
  · subst h0
    obtain rfl : fr = [] := List.eq_nil_of_length_eq_zero (by omega)
    cases ax with
    | none => exact Lib.wpList_append_run w hgd s x 47 47 ho _ _ hs hx _ _ (run_app_noneR w _ cx) (h _ _ hown (Below.refl _ _))
    | some ad =>
      refine wpList_append_own _ hgd s x 47 ho w.heap.size 92 i0 (.agg #[.int .i64 0, .int .i64 0]) 2 16 Tryz.underlying47 hi0 hz0 hz1 hz2 rfl (by decide) _ _ _ hs hown ad 0 cx [] hx rfl (fun j u h => by simp at h) (fun u h => by simp at h) (by unfold maxLen; omega) (by omega) (Nat.le_refl _) ?_
      intro v' w' h1 h2 _
      exact h v' w' (by simpa [intv] using h1) (hbel w' h2)
  · obtain ⟨b, off, e, hlt, hcell⟩ := hcx h0
    subst e
    refine wpList_append_own _ hgd s x 47 ho w.heap.size 92 i0 (.agg #[.int .i64 0, .int .i64 0]) 2 16 Tryz.underlying47 hi0 hz0 hz1 hz2 rfl (by decide) _ _ _ hs hown ⟨b, off, none⟩ n cx (intv fr) hx (by rw [intv_len, hl]) (srcells (fun i hi => hcell i (by omega))) intv_one (by unfold maxLen; omega) (by omega) (Nat.le_refl _) ?_
    intro v' w' h1 h2 _
    exact h v' w' (by simpa [intv] using h1) (hbel w' h2)
theorem own_sliceR {W : World} {B n : Nat} {v : Value} {xs : List Value} (h : W.ownsRow B 92 2 v n xs) : ∃ p c, v = .slice p n c := by
  rcases h.2 with ⟨e1, e2⟩ | ⟨g, cap, cur, e1, _⟩
  · exact ⟨none, 0, by rw [e1, e2]⟩
  · exact ⟨_, _, e1⟩
theorem own_setRowR {W : World} {B n : Nat} {v : Value} {xs : List Value} (h : W.ownsRow B 92 2 v n xs) (g : Nat) (cs : Array Value) {old : Array Value} (hg : W.heap[g]? = some (.cells old 50 (0, 0))) : (W.setRow g cs).ownsRow B 92 2 v n xs :=
  ⟨h.1, by
    rcases h.2 with h2 | ⟨g', cap, cur, e1, hB, hgb, r⟩
    · exact .inl h2
    · refine .inr ⟨g', cap, cur, e1, hB, ?_, r⟩
      rw [setRow_other W g g' cs (fun e => by subst e; rw [hg] at hgb; cases hgb)]
      exact hgb⟩
theorem own_rr {W : World} {base n : Nat} {s : Value} {fr : List Int} (h : W.ownsRow base 92 2 s n (intv fr)) (hl : fr.length = n * 2) : Rr W s fr := by
  rcases h.2 with ⟨e1, e2⟩ | ⟨g, cap, cur, e1, hg, hgb, hn, hm, hs, ht⟩
  · exact ⟨none, 0, 0, e1, by omega, fun h0 => by omega⟩
  · refine ⟨_, n, cap, e1, hl, fun _ => ⟨g, 0, rfl, (Array.getElem?_eq_some_iff.1 hgb).1, fun i hi => ?_⟩⟩
    simp only [World.cell?, hgb]
    rw [if_neg (by simp), Nat.zero_add]
    have hi' : i < fr.length := by omega
    have : (intv fr)[i]? = some (.int .i64 (nth fr i)) := by simp [intv, nth, hi']
    rw [← ht, List.getElem?_take, if_pos (by omega), Array.getElem?_toList] at this
    exact this

set_option maxRecDepth 100000 in
set_option maxHeartbeats 4000000 in
theorem lent_dom (v : Value) (d : SD) (fr : List Int) (W : World) (h : Dr W v d fr) :
    Calls Tryz.prog 18 #[v] W fun e w' => ∃ v', e = .returned v' ∧ Dr w' v' d fr ∧ Below W.heap.size W w' := by
  obtain ⟨x0a, raa, rna, rca, a1a, n1a, c1a, a2a, n2a, c2a, x4a, x5a, rfl, HEa, HLOa, HUPa, HRa, hz1a, hz2a, hz3a⟩ := h.look
  have HFL : Hid (fr.length = rna * 2) := by
    obtain ⟨a, n, c, e, hl, _⟩ := HRa.out
    injection e with _ e2 _
    subst e2
    exact hl
  have hz3 : rna * 16 ≤ 140737488351232 := by rw [← HEa.out.2.2.2.2.2]; exact hz3a
  have HZZ : Hid (d.lo.length * 8 ≤ 140737488351232 ∧ d.up.length * 8 ≤ 140737488351232 ∧ d.rn * 16 ≤ 140737488351232) := ⟨hz1a, hz2a, hz3a⟩
  have HQ1 : Hid (d.lo.length * 8 ≤ 140737488351232) := hz1a
  have HQ2 : Hid (d.up.length * 8 ≤ 140737488351232) := hz2a
  have HQ3 : Hid (rna * 16 ≤ 140737488351232) := hz3
  clear h hz1a hz2a hz3a hz3
  obtain ⟨w0, hW0⟩ : ∃ X, ((W.alloc (Obj.cells #[.bool x0a, .slice raa rna rca, .slice a1a n1a c1a, .slice a2a n2a c2a, .int .i64 x4a, .int .i64 x5a] 50)).alloc (Obj.cells #[.bool false, .slice none 0 0, .slice none 0 0, .slice none 0 0, .int .i64 0, .int .i64 0] 50)) = X := ⟨_, rfl⟩
  have HW0 : Hid _ := hW0
  have hb0 : Below W.heap.size W w0 := by rw [← hW0]; exact (((Below.refl _ W).alloc (by simp <;> omega) _).alloc (by simp <;> omega) _)
  have HA_0 : Hid (R6 w0 W.heap.size (.bool x0a) (.slice raa rna rca) (.slice a1a n1a c1a) (.slice a2a n2a c2a) (.int .i64 x4a) (.int .i64 x5a)) := by rw [← hW0]; exact ((R6.new _ _ _ _ _ _ _).alloc _)
  have HZ_0 : Hid (R6 w0 (W.heap.size + 1) (.bool false) (.slice none 0 0) (.slice none 0 0) (.slice none 0 0) (.int .i64 0) (.int .i64 0)) := by rw [← hW0]; exact (R6.new1 _ _ _ _ _ _ _ _)
  have HSZ0 : Hid (w0.heap.size = W.heap.size + 2) := by unfold Hid; rw [← hW0]; simp
  clear hW0
  go_enter Tryz.func18, Tryz.ntmps18
  go_upto_region 1 with (fail)
  rw [HW0.out]
  obtain ⟨y0, y1, y2, y3, y4, y5⟩ := HA_0.out.cells
  have hzb := (Below.refl w0.heap.size w0).alloc (Nat.le_refl _) (Obj.cells #[.bool x0a, .slice none 0 0, .slice none 0 0, .slice none 0 0, .int .i64 x4a, .int .i64 x5a] 50)
  have hb1 := hb0.trans (hzb.mono hb0.size)
  have HG_1 : Hid _ := R6.new w0 (.bool x0a) (.slice none 0 0) (.slice none 0 0) (.slice none 0 0) (.int .i64 x4a) (.int .i64 x5a)
  have HZ_1 : Hid _ := HZ_0.out.below hzb
  have HA_1 : Hid _ := HA_0.out.below hzb
  go_upto_region 2 with (fail)
  clear hb0 HZ_0 HA_0 hzb HW0 y0 y1 y2 y3 y4 y5
  generalize w0.alloc (Obj.cells #[.bool x0a, .slice none 0 0, .slice none 0 0, .slice none 0 0, .int .i64 x4a, .int .i64 x5a] 50) = w1 at hb1 HG_1 HZ_1 HA_1 ⊢
  have hGW : W.heap.size + 1 < w0.heap.size := by rw [HSZ0.out]; omega
  generalize w0.heap.size = G at HG_1 hGW ⊢
  clear HSZ0
  obtain ⟨z0, z1, z2, z3, z4, z5⟩ := HG_1.out.cells
  obtain ⟨y0, y1, y2, y3, y4, y5⟩ := HA_1.out.cells
  go_upto_region 3 with (at_builtin; refine wpList_app_r _ rfl _ _ rfl rfl _ _ _ fr rfl (HRa.out.below hb1) HQ3.out ?_; intro v9 w2 hrow hbel; obtain ⟨p1, e1, rfl⟩ := own_sliceR hrow; have HG_2 : Hid _ := HG_1.out.below hbel; have HZ_2 : Hid _ := HZ_1.out.below hbel; have HA_2 : Hid _ := HA_1.out.below hbel; have O1_2 : Hid _ := own_base hrow (Nat.zero_le _); have hb2 := hb1.trans (hbel.mono hb1.size); clear z0 z1 z2 z3 z4 z5 y0 y1 y2 y3 y4 y5 hrow hbel; obtain ⟨z0, z1, z2, z3, z4, z5⟩ := HG_2.out.cells; have fz := HG_2.out.frozen 1)
  rw [HG_2.out.setc1]
  clear z0 z1 z2 z3 z4 z5 fz
  clear HG_1 HZ_1 HA_1 hb1
  have HG_3 : Hid _ := HG_2.out.set (.bool x0a) (.slice p1 rna e1) (.slice none 0 0) (.slice none 0 0) (.int .i64 x4a) (.int .i64 x5a)
  have HZ_3 : Hid _ := HZ_2.out.other (show W.heap.size + 1 ≠ G by omega) #[.bool x0a, .slice p1 rna e1, .slice none 0 0, .slice none 0 0, .int .i64 x4a, .int .i64 x5a]
  have HA_3 : Hid _ := HA_2.out.other (show W.heap.size ≠ G by omega) #[.bool x0a, .slice p1 rna e1, .slice none 0 0, .slice none 0 0, .int .i64 x4a, .int .i64 x5a]
  have hb3 := below_setRow hb2 (show W.heap.size ≤ G by omega) #[.bool x0a, .slice p1 rna e1, .slice none 0 0, .slice none 0 0, .int .i64 x4a, .int .i64 x5a]
  have O1_3 : Hid _ := own_setRowR O1_2.out G #[.bool x0a, .slice p1 rna e1, .slice none 0 0, .slice none 0 0, .int .i64 x4a, .int .i64 x5a] HG_2.out.h
  clear HG_2 HZ_2 HA_2 hb2 O1_2
  generalize w2.setRow G #[.bool x0a, .slice p1 rna e1, .slice none 0 0, .slice none 0 0, .int .i64 x4a, .int .i64 x5a] = w3 at HG_3 HZ_3 HA_3 hb3 O1_3 ⊢
  obtain ⟨z0, z1, z2, z3, z4, z5⟩ := HG_3.out.cells
  obtain ⟨y0, y1, y2, y3, y4, y5⟩ := HA_3.out.cells
  go_upto_region 4 with (at_builtin; refine wpList_app_i _ rfl _ _ rfl rfl _ d.lo rfl (HLOa.out.below hb3) HQ1.out ?_; intro v9 w4 hrow hbel; obtain ⟨p3, e3, rfl⟩ := own_slice hrow; have HG_4 : Hid _ := HG_3.out.below hbel; have HZ_4 : Hid _ := HZ_3.out.below hbel; have HA_4 : Hid _ := HA_3.out.below hbel; have O3_4 : Hid _ := own_base hrow (Nat.zero_le _); have hb4 := hb3.trans (hbel.mono hb3.size); have O1_4 : Hid _ := own_keepB O1_3.out hbel; clear z0 z1 z2 z3 z4 z5 y0 y1 y2 y3 y4 y5 hrow hbel; obtain ⟨z0, z1, z2, z3, z4, z5⟩ := HG_4.out.cells; have fz := HG_4.out.frozen 2)
  rw [HG_4.out.setc2]
  clear z0 z1 z2 z3 z4 z5 fz
  clear HG_3 HZ_3 HA_3 hb3 O1_3
  have HG_5 : Hid _ := HG_4.out.set (.bool x0a) (.slice p1 rna e1) (.slice p3 d.lo.length e3) (.slice none 0 0) (.int .i64 x4a) (.int .i64 x5a)
  have HZ_5 : Hid _ := HZ_4.out.other (show W.heap.size + 1 ≠ G by omega) #[.bool x0a, .slice p1 rna e1, .slice p3 d.lo.length e3, .slice none 0 0, .int .i64 x4a, .int .i64 x5a]
  have HA_5 : Hid _ := HA_4.out.other (show W.heap.size ≠ G by omega) #[.bool x0a, .slice p1 rna e1, .slice p3 d.lo.length e3, .slice none 0 0, .int .i64 x4a, .int .i64 x5a]
  have hb5 := below_setRow hb4 (show W.heap.size ≤ G by omega) #[.bool x0a, .slice p1 rna e1, .slice p3 d.lo.length e3, .slice none 0 0, .int .i64 x4a, .int .i64 x5a]
  have O1_5 : Hid _ := own_setRowR O1_4.out G #[.bool x0a, .slice p1 rna e1, .slice p3 d.lo.length e3, .slice none 0 0, .int .i64 x4a, .int .i64 x5a] HG_4.out.h
  have O3_5 : Hid _ := own_setRow O3_4.out G #[.bool x0a, .slice p1 rna e1, .slice p3 d.lo.length e3, .slice none 0 0, .int .i64 x4a, .int .i64 x5a] HG_4.out.h
  clear HG_4 HZ_4 HA_4 hb4 O1_4 O3_4
  generalize w4.setRow G #[.bool x0a, .slice p1 rna e1, .slice p3 d.lo.length e3, .slice none 0 0, .int .i64 x4a, .int .i64 x5a] = w5 at HG_5 HZ_5 HA_5 hb5 O1_5 O3_5 ⊢
  obtain ⟨z0, z1, z2, z3, z4, z5⟩ := HG_5.out.cells
  obtain ⟨y0, y1, y2, y3, y4, y5⟩ := HA_5.out.cells
  go_upto_region 5 with (at_builtin; refine wpList_app_i _ rfl _ _ rfl rfl _ d.up rfl (HUPa.out.below hb5) HQ2.out ?_; intro v9 w6 hrow hbel; obtain ⟨p5, e5, rfl⟩ := own_slice hrow; have HG_6 : Hid _ := HG_5.out.below hbel; have HZ_6 : Hid _ := HZ_5.out.below hbel; have HA_6 : Hid _ := HA_5.out.below hbel; have O5_6 : Hid _ := own_base hrow (Nat.zero_le _); have hb6 := hb5.trans (hbel.mono hb5.size); have O1_6 : Hid _ := own_keepB O1_5.out hbel; have O3_6 : Hid _ := own_keepB O3_5.out hbel; clear z0 z1 z2 z3 z4 z5 y0 y1 y2 y3 y4 y5 hrow hbel; obtain ⟨z0, z1, z2, z3, z4, z5⟩ := HG_6.out.cells; have fz := HG_6.out.frozen 3)
  rw [HG_6.out.setc3]
  clear z0 z1 z2 z3 z4 z5 fz
  clear HG_5 HZ_5 HA_5 hb5 O1_5 O3_5
  have HG_7 : Hid _ := HG_6.out.set (.bool x0a) (.slice p1 rna e1) (.slice p3 d.lo.length e3) (.slice p5 d.up.length e5) (.int .i64 x4a) (.int .i64 x5a)
  have HZ_7 : Hid _ := HZ_6.out.other (show W.heap.size + 1 ≠ G by omega) #[.bool x0a, .slice p1 rna e1, .slice p3 d.lo.length e3, .slice p5 d.up.length e5, .int .i64 x4a, .int .i64 x5a]
  have HA_7 : Hid _ := HA_6.out.other (show W.heap.size ≠ G by omega) #[.bool x0a, .slice p1 rna e1, .slice p3 d.lo.length e3, .slice p5 d.up.length e5, .int .i64 x4a, .int .i64 x5a]
  have hb7 := below_setRow hb6 (show W.heap.size ≤ G by omega) #[.bool x0a, .slice p1 rna e1, .slice p3 d.lo.length e3, .slice p5 d.up.length e5, .int .i64 x4a, .int .i64 x5a]
  have O1_7 : Hid _ := own_setRowR O1_6.out G #[.bool x0a, .slice p1 rna e1, .slice p3 d.lo.length e3, .slice p5 d.up.length e5, .int .i64 x4a, .int .i64 x5a] HG_6.out.h
  have O3_7 : Hid _ := own_setRow O3_6.out G #[.bool x0a, .slice p1 rna e1, .slice p3 d.lo.length e3, .slice p5 d.up.length e5, .int .i64 x4a, .int .i64 x5a] HG_6.out.h
  have O5_7 : Hid _ := own_setRow O5_6.out G #[.bool x0a, .slice p1 rna e1, .slice p3 d.lo.length e3, .slice p5 d.up.length e5, .int .i64 x4a, .int .i64 x5a] HG_6.out.h
  clear HG_6 HZ_6 HA_6 hb6 O1_6 O3_6 O5_6
  generalize w6.setRow G #[.bool x0a, .slice p1 rna e1, .slice p3 d.lo.length e3, .slice p5 d.up.length e5, .int .i64 x4a, .int .i64 x5a] = w7 at HG_7 HZ_7 HA_7 hb7 O1_7 O3_7 O5_7 ⊢
  obtain ⟨z0, z1, z2, z3, z4, z5⟩ := HG_7.out.cells
  go_wp2_with (with_reducible refine st37 rfl (.tmp 2) (.tmp 29) rfl (W.heap.size + 1) _ _ _ _ _ _ (by with_unfolding_all rfl) (by with_unfolding_all rfl) HZ_7.out (six_dom _ _ _ _ _ _ _ _ _ _ _ _) ?_)
  refine ⟨rfl, _, R6.res rfl _ (HZ_7.out.set (.bool x0a) (.slice p1 rna e1) (.slice p3 d.lo.length e3) (.slice p5 d.up.length e5) (.int .i64 x4a) (.int .i64 x5a)) rfl, ⟨_, rfl, ?_, below_setRow hb7 (by omega) _⟩⟩
  obtain ⟨he0, he1, he2, he4, he5, hen⟩ := HEa.out
  refine ⟨p1, e1, .slice p3 d.lo.length e3, .slice p5 d.up.length e5, by rw [he0, he4, he5, hen], own_si (own_setRow O3_7.out _ _ HZ_7.out.h), own_si (own_setRow O5_7.out _ _ HZ_7.out.h), ?_, HZZ.out⟩
  rw [hen]
  exact own_rr (own_setRowR O1_7.out _ _ HZ_7.out.h) HFL.out
end Go.Proofs.YtfcaemfledlnnaaGreatDoor.St

