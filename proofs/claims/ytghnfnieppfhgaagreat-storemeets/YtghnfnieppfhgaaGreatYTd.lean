/-
  What is proved here: the reference's One of a domain and its like, and Spoil. the reference's Spoil. the reference's Lent of a domain.
-/
import Derived.Test.YtghnfnieppfhgaaGreatYOl
import Derived.Test.YtghnfnieppfhgaaGreatYOk
namespace Go.Proofs.YtghnfnieppfhgaaGreat.St
open Go.RowKit Go.Shelf
set_option linter.unusedVariables false
set_option linter.unusedSimpArgs false

/-- A slice of ranges: its numbers one behind the other. -/
def Rr (W : World) (s : Value) (fr : List Int) : Prop := ∃ a n cap, s = .slice a n cap ∧ fr.length = n * 2 ∧ (0 < n → ∃ b off, a = some ⟨b, off, none⟩ ∧ b < W.heap.size ∧ ∀ i, i < n * 2 → W.cell? ⟨b, off + i, none⟩ = some (.int .i64 (nth fr i)))
theorem Rr.below {W W' : World} {s : Value} {fr : List Int} (h : Rr W s fr) (hb : Below W.heap.size W W') : Rr W' s fr := by
  obtain ⟨a, n, cap, e, hl, hc⟩ := h
  refine ⟨a, n, cap, e, hl, fun h0 => ?_⟩
  obtain ⟨b, off, e1, hlt, hcell⟩ := hc h0
  exact ⟨b, off, e1, Nat.lt_of_lt_of_le hlt hb.size, fun i hi => (hb.cell (p := ⟨b, off + i, none⟩) hlt).trans (hcell i hi)⟩
/-- A domain that came in, with its ranges, no longer than a machine's memory. -/
def Dr (W : World) (v : Value) (d : SD) (fr : List Int) : Prop :=
  ∃ ra rc slo sup, v = .agg #[.bool d.set, .slice ra d.rn rc, slo, sup, .int .i64 d.least, .int .i64 d.most] ∧ Si W slo d.lo ∧ Si W sup d.up ∧ Rr W (.slice ra d.rn rc) fr ∧ d.lo.length * 8 ≤ 140737488351232 ∧ d.up.length * 8 ≤ 140737488351232 ∧ d.rn * 16 ≤ 140737488351232
theorem Dr.look {w : World} {v : Value} {d : SD} {fr : List Int} (h : Dr w v d fr) : ∃ x0 ra rn rc a1 n1 c1 a2 n2 c2 x4 x5, v = .agg #[.bool x0, .slice ra rn rc, .slice a1 n1 c1, .slice a2 n2 c2, .int .i64 x4, .int .i64 x5] ∧
    Hid (d.set = x0 ∧ d.lo.length = n1 ∧ d.up.length = n2 ∧ d.least = x4 ∧ d.most = x5 ∧ d.rn = rn) ∧ Hid (Si w (.slice a1 n1 c1) d.lo) ∧ Hid (Si w (.slice a2 n2 c2) d.up) ∧ Hid (Rr w (.slice ra rn rc) fr) ∧ d.lo.length * 8 ≤ 140737488351232 ∧ d.up.length * 8 ≤ 140737488351232 ∧ d.rn * 16 ≤ 140737488351232 := by
  obtain ⟨ra, rc, slo, sup, e, h1, h2, h3, h4⟩ := h
  have h1' := h1
  have h2' := h2
  obtain ⟨a1, c1, rfl, _⟩ := h1'
  obtain ⟨a2, c2, rfl, _⟩ := h2'
  exact ⟨_, _, _, _, _, _, _, _, _, _, _, _, e, ⟨rfl, rfl, rfl, rfl, rfl, rfl⟩, h1, h2, h3, h4⟩

set_option maxRecDepth 100000 in
set_option maxHeartbeats 4000000 in
theorem one_same (v u : Value) (d : SD) (fr : List Int) (W : World) (h : Dr W v d fr) (ho : Dr W u d fr) :
    Calls Tryz.prog 25 #[v, u] W fun e w' => e = .returned (.bool true) ∧ Below W.heap.size W w' := by
  obtain ⟨x0a, raa, rna, rca, a1a, n1a, c1a, a2a, n2a, c2a, x4a, x5a, rfl, HEa, HLOa, HUPa, HRa, hz1a, hz2a, hz3a⟩ := h.look
  obtain ⟨x0b, rab, rnb, rcb, a1b, n1b, c1b, a2b, n2b, c2b, x4b, x5b, rfl, HEb, HLOb, HUPb, HRb, hz1b, hz2b, hz3b⟩ := ho.look
  have k14a := fun X (hX : Below W.heap.size W X) => eqc (show decide (d.lo = d.lo) = true by simp) (refsame_any _ _ d.lo d.lo X (HLOa.out.below hX) (HLOb.out.below hX) hz1a)
  have k14b := fun X (hX : Below W.heap.size W X) => eqc (show decide (d.up = d.up) = true by simp) (refsame_any _ _ d.up d.up X (HUPa.out.below hX) (HUPb.out.below hX) hz2a)
  obtain rfl : x0a = x0b := by rw [← HEa.out.1, ← HEb.out.1]
  obtain rfl : x4a = x4b := by rw [← HEa.out.2.2.2.1, ← HEb.out.2.2.2.1]
  obtain rfl : x5a = x5b := by rw [← HEa.out.2.2.2.2.1, ← HEb.out.2.2.2.2.1]
  obtain rfl : rna = rnb := by rw [← HEa.out.2.2.2.2.2, ← HEb.out.2.2.2.2.2]
  have hnn : rna * 16 ≤ 140737488351232 := by rw [← HEa.out.2.2.2.2.2]; exact hz3a
  have HRA : Hid (∀ X, Below W.heap.size W X → 0 < rna → ∃ b off, raa = some ⟨b, off, none⟩ ∧ ∀ i, i < rna * 2 → X.cell? ⟨b, off + i, none⟩ = some (.int .i64 (nth fr i))) := fun X hX h0 => by
    obtain ⟨a, n, cap, e, _, hc⟩ := HRa.out.below hX
    injection e with e1 e2 e3
    subst e1 e2 e3
    obtain ⟨b, off, e1, _, hcell⟩ := hc h0
    exact ⟨b, off, e1, hcell⟩
  have HRB : Hid (∀ X, Below W.heap.size W X → 0 < rna → ∃ b off, rab = some ⟨b, off, none⟩ ∧ ∀ i, i < rna * 2 → X.cell? ⟨b, off + i, none⟩ = some (.int .i64 (nth fr i))) := fun X hX h0 => by
    obtain ⟨a, n, cap, e, _, hc⟩ := HRb.out.below hX
    injection e with e1 e2 e3
    subst e1 e2 e3
    obtain ⟨b, off, e1, _, hcell⟩ := hc h0
    exact ⟨b, off, e1, hcell⟩
  clear h ho HEa HLOa HUPa HEb HLOb HUPb HRa HRb hz1a hz2a hz3a hz1b hz2b hz3b
  obtain ⟨w0, hW0⟩ : ∃ X, ((W.alloc (Obj.cells #[.bool x0a, .slice raa rna rca, .slice a1a n1a c1a, .slice a2a n2a c2a, .int .i64 x4a, .int .i64 x5a] 37)).alloc (Obj.cells #[.bool x0a, .slice rab rna rcb, .slice a1b n1b c1b, .slice a2b n2b c2b, .int .i64 x4a, .int .i64 x5a] 37)) = X := ⟨_, rfl⟩
  have HW0 : Hid _ := hW0
  have hb0 : Below W.heap.size W w0 := by rw [← hW0]; exact (((Below.refl _ W).alloc (by simp <;> omega) _).alloc (by simp <;> omega) _)
  have HA_0 : Hid (R6 w0 W.heap.size (.bool x0a) (.slice raa rna rca) (.slice a1a n1a c1a) (.slice a2a n2a c2a) (.int .i64 x4a) (.int .i64 x5a)) := by rw [← hW0]; exact ((R6.new _ _ _ _ _ _ _).alloc _)
  have HB_0 : Hid (R6 w0 (W.heap.size + 1) (.bool x0a) (.slice rab rna rcb) (.slice a1b n1b c1b) (.slice a2b n2b c2b) (.int .i64 x4a) (.int .i64 x5a)) := by rw [← hW0]; exact (R6.new1 _ _ _ _ _ _ _ _)
  clear hW0
  go_enter Tryz.func25, Tryz.ntmps25
  go_upto_region 1 with (fail)
  rw [HW0.out]
  clear HW0
  obtain ⟨zA0, zA1, zA2, zA3, zA4, zA5⟩ := HA_0.out.cells
  obtain ⟨zB0, zB1, zB2, zB3, zB4, zB5⟩ := HB_0.out.cells
  go_wp2_with fail
  refine (k14a w0 hb0).mono ?_
  rintro e w1 ⟨rfl, hb⟩
  have hb1 : Below W.heap.size W w1 := hb0.trans (hb.mono hb0.size)
  have HA_1 : Hid _ := HA_0.out.below hb
  have HB_1 : Hid _ := HB_0.out.below hb
  clear zA0 zA1 zA2 zA3 zA4 zA5 zB0 zB1 zB2 zB3 zB4 zB5
  clear hb hb0 HA_0 HB_0
  obtain ⟨zA0, zA1, zA2, zA3, zA4, zA5⟩ := HA_1.out.cells
  obtain ⟨zB0, zB1, zB2, zB3, zB4, zB5⟩ := HB_1.out.cells
  go_wp2_with fail
  refine (k14b w1 hb1).mono ?_
  rintro e w2 ⟨rfl, hb⟩
  have hb2 : Below W.heap.size W w2 := hb1.trans (hb.mono hb1.size)
  have HA_2 : Hid _ := HA_1.out.below hb
  have HB_2 : Hid _ := HB_1.out.below hb
  clear zA0 zA1 zA2 zA3 zA4 zA5 zB0 zB1 zB2 zB3 zB4 zB5
  clear hb hb1 HA_1 HB_1
  obtain ⟨zA0, zA1, zA2, zA3, zA4, zA5⟩ := HA_2.out.cells
  obtain ⟨zB0, zB1, zB2, zB3, zB4, zB5⟩ := HB_2.out.cells
  go_wp2
  go_loopw [5] (fun i wr => ∃ j : Nat, j ≤ rna ∧ i = .int .i64 (j : Int) ∧ ∃ q, wr = w2.drewN q) (fun i _ => rna - (intOf i).toNat)
  case atStart => exact ⟨0, Nat.zero_le _, rfl, 0, rfl⟩
  case round =>
    obtain ⟨j, hj, rfl, q, rfl⟩ := hrel
    by_cases hlt : j < rna
    · obtain ⟨b1, o1, rfl, hcell1⟩ := HRA.out w2 hb2 (by omega)
      obtain ⟨b2, o2, rfl, hcell2⟩ := HRB.out w2 hb2 (by omega)
      have x1 := hcell1 (j * 2) (by omega)
      have x2 := hcell1 (j * 2 + 1) (by omega)
      have y1 := hcell2 (j * 2) (by omega)
      have y2 := hcell2 (j * 2 + 1) (by omega)
      rw [← Nat.add_assoc] at x2 y2
      have kk : (j : Int) < (rna : Int) := by omega
      clear hcell1 hcell2
      generalize nth fr (j * 2) = p at *
      generalize nth fr (j * 2 + 1) = r at *
      go_wp2
      go_quiet (fail)
      go_wp2
      go_roundw
      case rel => exact ⟨j + 1, by omega, by go_num, _, rfl⟩
      case measure => simp [intOf]; omega
    · go_wp2
      go_ret
      exact ⟨rfl, below_drewN hb2 _⟩

end Go.Proofs.YtghnfnieppfhgaaGreat.St

