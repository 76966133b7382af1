/-
  What is proved here: what dom.Of and dom.Span return.
-/
import Derived.Test.YtaeobgajhieajaaGreatDoorZNaj
namespace Go.Proofs.YtaeobgajhieajaaGreatDoor.Dm
open Go.RowKit Go.Shelf Go.Sort
set_option linter.unusedVariables false

/-- The slice value s has the numbers vs, wherever they lie. -/
def Si (W : World) (s : Value) (vs : List Int) : Prop :=
  ∃ a cap, s = .slice a vs.length cap ∧ (0 < vs.length → ∃ b off, a = some ⟨b, off, none⟩ ∧ b < W.heap.size ∧ ∀ i, i < vs.length → W.cell? ⟨b, off + i, none⟩ = some (.int .i64 (vs[i]?.getD 0)))
theorem Si.below {W W' : World} {s : Value} {vs : List Int} (h : Si W s vs) (hb : Below W.heap.size W W') : Si W' s vs := by
  obtain ⟨a, cap, e, hc⟩ := h
  refine ⟨a, cap, e, fun h0 => ?_⟩
  obtain ⟨b, off, e1, hlt, hcell⟩ := hc h0
  exact ⟨b, off, e1, Nat.lt_of_lt_of_le hlt hb.size, fun i hi => (hb.cell (p := ⟨b, off + i, none⟩) hlt).trans (hcell i hi)⟩
def singles (vs : List Int) : List Rg := vs.map fun v => (v, v)
theorem singles_take (vs : List Int) (k : Nat) (hk : k < vs.length) : singles (vs.take (k + 1)) = singles (vs.take k) ++ [(vs[k]?.getD 0, vs[k]?.getD 0)] := by
  unfold singles
  rw [List.take_add_one, List.getElem?_eq_getElem hk, List.map_append]
  simp
theorem singles_length (vs : List Int) : (singles vs).length = vs.length := by simp [singles]

set_option maxRecDepth 100000 in
set_option maxHeartbeats 2000000 in
theorem domof_any (s : Value) (vs : List Int) (W : World) (h : Si W s vs) (hl : vs.length * 16 ≤ 140737488351232) :
    Calls Tryz.prog 122 #[s] W fun e w' => NormEnd (singles vs) W e w' := by
  obtain ⟨i0, hi0, hz0, hz1, hz2⟩ := info_parts Tryz.info161
  obtain ⟨a, cap, rfl, hcell⟩ := h
  obtain ⟨n, hn⟩ : ∃ n, vs.length = n := ⟨_, rfl⟩
  have HN : Hid (vs.length = n) := hn
  have HC : Hid _ := hcell
  rw [hn] at hl ⊢
  clear hn hcell
  go_enter Tryz.func122, Tryz.ntmps122
  go_wp2_with (at_make; refine wpList_make_own _ rfl _ _ 148 rfl W.heap.size 161 i0 (.agg #[.int .i64 0, .int .i64 0]) 2 Tryz.underlying148 hi0 hz0 hz1 .i64 .i64 _ n rfl rfl rfl (by rw [hz2]; omega) (by unfold maxLen; omega) (Nat.le_refl _) ?_; intro w0 hown0 hgrow0; have hB0 : Below W.heap.size W w0 := (Below.refl _ W).grown hgrow0 (Nat.le_refl _) (fun j e => by cases e); clear hgrow0)
  go_loopw [4, 12] (fun o i wr => ∃ (k : Nat), k ≤ n ∧ i = .int .i64 k ∧ wr.ownsRow W.heap.size 161 2 o k (flat (singles (vs.take k))) ∧ Below W.heap.size W wr) (fun _ i _ => n - (intOf i).toNat)
  case atStart => exact ⟨0, by omega, rfl, by simpa [singles, flat] using hown0, hB0⟩
  case round =>
    clear hown0 hB0
    obtain ⟨k, hk, rfl, hrow, hB⟩ := hrel
    have hsz := hB.size
    by_cases hlt : k < n
    · have hkl : k < vs.length := by rw [HN.out]; exact hlt
      obtain ⟨b, off, rfl, hb, hcells⟩ := HC.out (by omega)
      have d1 := (hB.cell (p := ⟨b, off + k, none⟩) hb).trans (hcells k hkl)
      have hst := singles_take vs k hkl
      obtain ⟨x, hx⟩ : ∃ x, vs[k]?.getD 0 = x := ⟨_, rfl⟩
      rw [hx] at d1 hst
      have HST : Hid (singles (vs.take (k + 1)) = singles (vs.take k) ++ [(x, x)]) := hst
      have hlt' : (k : Int) < (n : Int) := by omega
      clear hcells hx hst hkl
      go_wp2_with (at_builtin; refine wpList_append_own _ rfl _ _ 148 rfl W.heap.size 161 i0 (.agg #[.int .i64 0, .int .i64 0]) 2 16 Tryz.underlying148 hi0 hz0 hz1 hz2 rfl (by decide) _ _ _ rfl (World.ownsRow.alloc hrow _) ⟨wr.heap.size, 0, none⟩ 1 1 [.int .i64 x, .int .i64 x] rfl rfl (cell_two_new _ _ _ _) (by simp [Value.oneCell']) (by unfold maxLen; omega) (by omega) (by simp; omega) ?_; intro v' w1 hown' hgrow hnl; have hB1 : Below W.heap.size W w1 := (hB.alloc hsz _).grown hgrow (by simp; omega) (fun j e => (World.ownsRow.lt hrow j e).1); clear hgrow)
      go_roundw
      case rel =>
        refine ⟨k + 1, by omega, by go_num, ?_, hB1⟩
        rw [HST.out, flat_two]
        exact hown'
      case measure => simp [intOf]; omega
    · have hkn : k = n := by omega
      subst hkn
      have htk : vs.take k = vs := List.take_of_length_le (by rw [HN.out]; exact Nat.le_refl _)
      rw [htk] at hrow
      have hlen := singles_length vs
      rw [HN.out] at hlen
      rw [← hlen] at hrow
      have hS := own_srl hrow
      have hcon := norm_any _ _ wr hS (by rw [hlen]; omega)
      have hS2 := hS
      obtain ⟨a4, c4, rfl, _⟩ := hS2
      rw [hlen] at hcon ⊢
      clear hrow htk hS hlen
      go_wp2_with fail
      refine hcon.mono ?_
      rintro e w1 ⟨s', c, rfl, hb1, hcase⟩
      have HCASE : Hid _ := hcase
      clear hcase hcon
      go_wp2
      go_ret2
      refine ⟨s', c, rfl, hB.trans (hb1.mono hsz), ?_⟩
      rcases HCASE.out with h | ⟨h1, h2, h3, h4, h5⟩ | h
      · exact .inl h
      · exact .inr (.inl ⟨h1, h2, h3, own_base h4 hsz, h5⟩)
      · exact .inr (.inr h)

/-- Are both ends in bounds, in whatever order? -/
def inbB (a b : Int) : Bool := decide (-1000000 ≤ min a b) && decide (max a b ≤ 1000000)
set_option maxHeartbeats 400000 in
theorem inb_any (a b : Int) (w : World) :
    Calls Tryz.prog 149 #[.agg #[.int .i64 a, .int .i64 b]] w fun e w' => e = .returned (.bool (inbB a b)) ∧ Below w.heap.size w w' := by
  unfold inbB
  obtain ⟨m, hm⟩ : ∃ m, min a b = m := ⟨_, rfl⟩
  obtain ⟨M, hM⟩ : ∃ M, max a b = M := ⟨_, rfl⟩
  by_cases h1 : -1000000 ≤ m
  · go_enter Tryz.func149, Tryz.ntmps149
    go_wp2
    go_ret
    exact ⟨by simp [hm, hM, h1], (Below.refl _ _).alloc (Nat.le_refl _) _⟩
  · have hd : decide (-1000000 ≤ m) = false := by simp; omega
    have HD : Hid (decide (-1000000 ≤ m) = false) := hd
    go_enter Tryz.func149, Tryz.ntmps149
    go_wp2
    go_ret
    exact ⟨rfl, (Below.refl _ _).alloc (Nat.le_refl _) _⟩

/-- All numbers from x to y, as ranges. -/
def spanL (x y : Int) : List Rg := if x ≤ y then [(x, y)] else []
theorem nf_span (x y : Int) : nf [(x, y)] = spanL x y := by
  have f := nf_facts [(x, y)]
  unfold spanL
  by_cases h : x ≤ y
  · rw [if_pos h]
    exact ord_ext f.1 ⟨fun r hr => by rw [List.mem_singleton] at hr; rw [hr]; exact h, List.pairwise_singleton _ _⟩ f.2
  · rw [if_neg h]
    refine ord_ext f.1 ⟨fun r hr => (by cases hr), List.Pairwise.nil⟩ fun v => ?_
    rw [f.2, vals_cons]
    simp only [vals, List.flatMap_nil, List.not_mem_nil, or_false, iff_false]
    omega
/-- How Span ends. -/
def SpanEnd (x y : Int) (W : World) (e : Ending) (w' : World) : Prop := ∃ (s : Value) (c : Int), e = .returned (.tuple #[s, .int .i64 c]) ∧ Below W.heap.size W w' ∧
  ((inbB x y = true ∧ c = 0 ∧ w'.ownsRow W.heap.size 161 2 s (spanL x y).length (flat (spanL x y))) ∨ (inbB x y = false ∧ c = 20 ∧ s = .slice none 0 0))
end Go.Proofs.YtaeobgajhieajaaGreatDoor.Dm

