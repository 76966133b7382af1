/-
  What is proved here: the reference's Lent, Same and Kept of numbers; Of and Span of the reference, of any numbers; the walk of DomMakes.
-/
import Derived.Test.YtkloadlodofipaaGreatDoorJd
import Derived.Maps.AppendAt
namespace Go.Proofs.YtkloadlodofipaaGreatDoor
open Go.RowKit Go.Shelf
set_option linter.unusedVariables false

def RowI (W : World) (base : Nat) (s : Value) (ds : List Int) : Prop := W.ownsRow base 2 1 s ds.length (ds.map (Value.int .i64))
theorem RowI.at {W : World} {base : Nat} {s : Value} {ds : List Int} (h : RowI W base s ds) {j : Nat} (hj : j < ds.length) :
    ∃ g cap, s = .slice (some ⟨g, 0, none⟩) ds.length cap ∧ base ≤ g ∧ g < W.heap.size ∧ ds.length ≤ cap ∧ cap ≤ maxLen ∧ ∀ i, i < ds.length → W.cell? ⟨g, i, none⟩ = some (.int .i64 (ds[i]?.getD 0)) := by
  rcases h.2 with ⟨h1, h2⟩ | ⟨g, cap, cur, e, hg, hh, hc, hm, _⟩
  · omega
  · refine ⟨g, cap, e, hg, (Array.getElem?_eq_some_iff.1 hh).1, hc, hm, fun i hi => ?_⟩
    have := World.ownsRow.cells h (g := g) (by rw [e]; rfl) i (.int .i64 (ds[i]?.getD 0)) (by simp [List.getElem?_eq_getElem hi])
    by_cases h0 : i = 0
    · subst h0; simpa [Addr.add] using this
    · simpa [Addr.add, h0] using this

/-! ### Behind 'append' of one number -/
theorem RowI.appended {w1 : World} {base : Nat} {v' : Value} {ds : List Int} {d : Int} {n : Nat} (hn : n = ds.length + 1) (h : w1.ownsRow base 2 1 v' n (ds.map (Value.int .i64) ++ [.int .i64 d])) : RowI w1 base v' (ds ++ [d]) := by
  subst hn; unfold RowI; simpa using h
theorem own_caps1 {W : World} {base g n cap : Nat} {xs : List Value} (h : W.ownsRow base 2 1 (.slice (some ⟨g, 0, none⟩) n cap) n xs) : n ≤ cap ∧ cap ≤ 9223372036854775807 := by
  rcases h.2 with ⟨h1, _⟩ | ⟨g', cap', cur, e, _, _, hc, hm, _⟩
  · cases h1
  · injection e with _ _ e3; subst e3; unfold maxLen at hm; exact ⟨hc, by omega⟩

set_option maxHeartbeats 400000 in
theorem lentI_some (b off cap : Nat) (ds : List Int) (w : World) (h0 : 0 < ds.length) (hlt : b < w.heap.size) (hr : ds.length * 8 ≤ 140737488351232)
    (hcell : ∀ i, i < ds.length → w.cell? ⟨b, off + i, none⟩ = some (.int .i64 (ds[i]?.getD 0))) :
    Calls Tryz.prog 8 #[.slice (some ⟨b, off, none⟩) ds.length cap] w fun e w' => ∃ g c, e = .returned (.slice (some ⟨g, 0, none⟩) ds.length c) ∧ ds.length + 1 ≤ c ∧ c ≤ maxLen ∧ RowI w' w.heap.size (.slice (some ⟨g, 0, none⟩) (ds.length + 1) c) (ds ++ [7777]) ∧ Below w.heap.size w w' := by
  obtain ⟨i0, hi, hz0, hz1, hz2⟩ := info_parts Tryz.info2
  have hnews : ∀ j u, (ds.map (Value.int .i64))[j]? = some u → w.cell? ((⟨b, off, none⟩ : Addr).add j) = some u := by
    intro j u hj
    rw [List.getElem?_map] at hj
    obtain ⟨d, hd, rfl⟩ := Option.map_eq_some_iff.1 hj
    have hjl : j < ds.length := (List.getElem?_eq_some_iff.1 hd).1
    have := hcell j hjl
    rw [hd] at this
    by_cases hj0 : j = 0
    · subst hj0; simpa [Addr.add] using this
    · simpa [Addr.add, hj0] using this
  have h1c : ∀ u ∈ ds.map (Value.int .i64), u.oneCell' = true := by intro u hu; simp at hu; obtain ⟨d, _, rfl⟩ := hu; rfl
  have hl : (ds.map (Value.int .i64)).length = ds.length * 1 := by simp
  have hml : ds.length ≤ maxLen := by unfold maxLen; omega
  clear hcell
  go_enter Tryz.func8, Tryz.ntmps8
  go_wp2_with (first | (at_builtin; refine wpList_append_own _ rfl _ _ 22 rfl w.heap.size 2 i0 (.int .i64 0) 1 8 Tryz.underlying22 hi hz0 hz1 hz2 rfl (by decide) _ _ _ rfl (World.ownsRow_nil _ _ _ _) ⟨b, off, none⟩ ds.length cap (ds.map (Value.int .i64)) rfl hl hnews h1c (by omega) (by omega) (Nat.le_refl _) ?_; intro v1 w1 hown1 hgrow1 _; simp only [Nat.zero_add, List.nil_append] at hown1; have hs1 := hgrow1.size) | (at_builtin; refine wpList_append_own _ rfl _ _ 22 rfl w.heap.size 2 i0 (.int .i64 0) 1 8 Tryz.underlying22 hi hz0 hz1 hz2 rfl (by decide) _ _ _ rfl (World.ownsRow.alloc hown1 _) ⟨w1.heap.size, 0, none⟩ 1 1 [.int .i64 7777] rfl rfl (cell_one_new _ _ _) (by simp [Value.oneCell']) (by unfold maxLen; omega) (by omega) (by simp; omega) ?_; intro v2 w2 hown2 hgrow2 _; obtain ⟨g', cap', rfl⟩ := ownsRow_succ hown2; obtain ⟨hq1, hq2⟩ := own_caps1 hown2))
  go_ret
  refine ⟨g', cap', rfl, hq1, by unfold maxLen; omega, RowI.appended rfl hown2, ?_⟩
  have hb1 : Below w.heap.size w w1 := (Below.refl _ w).grown hgrow1 (Nat.le_refl _) (fun k e => by cases e)
  exact (hb1.alloc hs1 _).grown hgrow2 (by simp; omega) (fun k e => (World.ownsRow.lt hown1 k e).1)

set_option maxHeartbeats 400000 in
theorem lentI_none (a : Option Addr) (cap : Nat) (w : World) :
    Calls Tryz.prog 8 #[.slice a 0 cap] w fun e w' => ∃ g c, e = .returned (.slice (some ⟨g, 0, none⟩) 0 c) ∧ 1 ≤ c ∧ c ≤ maxLen ∧ RowI w' w.heap.size (.slice (some ⟨g, 0, none⟩) 1 c) [7777] ∧ Below w.heap.size w w' := by
  obtain ⟨i0, hi, hz0, hz1, hz2⟩ := info_parts Tryz.info2
  cases a with
  | none =>
    have hpure : ∀ (w : World), Sem.run Tryz.prog (pure #[] : Sem (Array Value)) w = .ok #[] w := fun _ => rfl
    go_enter Tryz.func8, Tryz.ntmps8
    go_wp2_with (at_builtin; refine wpList_append_own _ rfl _ _ 22 rfl w.heap.size 2 i0 (.int .i64 0) 1 8 Tryz.underlying22 hi hz0 hz1 hz2 rfl (by decide) _ _ _ rfl (World.ownsRow_nil _ _ _ _) ⟨w.heap.size, 0, none⟩ 1 1 [.int .i64 7777] rfl rfl (cell_one_new _ _ _) (by simp [Value.oneCell']) (by unfold maxLen; omega) (by omega) (by simp; try omega) ?_; intro v2 w2 hown2 hgrow2 _; simp only [Nat.zero_add, List.nil_append] at hown2; obtain ⟨g', cap', rfl⟩ := ownsRow_succ hown2; obtain ⟨hq1, hq2⟩ := own_caps1 hown2)
    go_ret
    refine ⟨g', cap', rfl, hq1, by unfold maxLen; omega, RowI.appended (ds := []) rfl hown2, ?_⟩
    exact ((Below.refl _ w).alloc (Nat.le_refl _) _).grown hgrow2 (by simp) (fun k e => by cases e)
  | some ad =>
    go_enter Tryz.func8, Tryz.ntmps8
    go_wp2_with (first | (at_builtin; refine wpList_append_own _ rfl _ _ 22 rfl w.heap.size 2 i0 (.int .i64 0) 1 8 Tryz.underlying22 hi hz0 hz1 hz2 rfl (by decide) _ _ _ rfl (World.ownsRow_nil _ _ _ _) ad 0 cap [] rfl rfl (fun j u h => by simp at h) (fun u h => by simp at h) (by unfold maxLen; omega) (by omega) (Nat.le_refl _) ?_; intro v1 w1 hown1 hgrow1 hnil; have hv1 := hnil.2 ⟨rfl, rfl⟩; subst hv1; have hs1 := hgrow1.size) | (at_builtin; refine wpList_append_own _ rfl _ _ 22 rfl w.heap.size 2 i0 (.int .i64 0) 1 8 Tryz.underlying22 hi hz0 hz1 hz2 rfl (by decide) _ _ _ rfl (World.ownsRow_nil _ _ _ _) ⟨w1.heap.size, 0, none⟩ 1 1 [.int .i64 7777] rfl rfl (cell_one_new _ _ _) (by simp [Value.oneCell']) (by unfold maxLen; omega) (by omega) (by simp; try omega) ?_; intro v2 w2 hown2 hgrow2 _; simp only [Nat.zero_add, List.nil_append] at hown2; obtain ⟨g', cap', rfl⟩ := ownsRow_succ hown2; obtain ⟨hq1, hq2⟩ := own_caps1 hown2))
    go_ret
    refine ⟨g', cap', rfl, hq1, by unfold maxLen; omega, RowI.appended (ds := []) rfl hown2, ?_⟩
    have hb1 : Below w.heap.size w w1 := (Below.refl _ w).grown hgrow1 (Nat.le_refl _) (fun k e => by cases e)
    exact (hb1.alloc hs1 _).grown hgrow2 (by simp; omega) (fun k e => by cases e)

theorem lentI_any (s : Value) (ds : List Int) (w : World) (h : Si w s ds) (hr : ds.length * 8 ≤ 140737488351232) :
    Calls Tryz.prog 8 #[s] w fun e w' => ∃ g c, e = .returned (.slice (some ⟨g, 0, none⟩) ds.length c) ∧ ds.length + 1 ≤ c ∧ c ≤ maxLen ∧ RowI w' w.heap.size (.slice (some ⟨g, 0, none⟩) (ds.length + 1) c) (ds ++ [7777]) ∧ Below w.heap.size w w' := by
  obtain ⟨a, cap, rfl, hc⟩ := h
  rcases Nat.eq_zero_or_pos ds.length with h0 | h0
  · obtain rfl := List.eq_nil_of_length_eq_zero h0
    exact lentI_none a cap w
  · obtain ⟨b, off, rfl, hlt, hcell⟩ := hc h0
    exact lentI_some b off cap ds w h0 hlt hr hcell
set_option maxHeartbeats 400000 in
theorem sameI_any (s1 s2 : Value) (ds : List Int) (w : World) (h1 : Si w s1 ds) (h2 : Si w s2 ds) (hr : ds.length * 8 ≤ 140737488351232) :
    Calls Tryz.prog 59 #[s1, s2] w fun e w' => e = .returned (.bool true) ∧ ∃ nq, w' = w.drewN nq := by
  obtain ⟨a1, c1, rfl, hc1⟩ := h1
  obtain ⟨a2, c2, rfl, hc2⟩ := h2
  go_enter Tryz.func59, Tryz.ntmps59
  go_wp2
  go_loopw [5] (fun i wr => ∃ k : Nat, k ≤ ds.length ∧ i = .int .i64 (k : Int) ∧ ∃ nq, wr = w.drewN nq) (fun i _ => ds.length - (intOf i).toNat)
  case atStart => exact ⟨0, Nat.zero_le _, rfl, 0, rfl⟩
  case round =>
    obtain ⟨k, hk, rfl, nq0, rfl⟩ := hrel
    by_cases hlt : k < ds.length
    · obtain ⟨b1, o1, rfl, _, hcell1⟩ := hc1 (by omega)
      obtain ⟨b2, o2, rfl, _, hcell2⟩ := hc2 (by omega)
      have x1 := hcell1 k hlt
      have x2 := hcell2 k hlt
      have kk : (k : Int) < (ds.length : Int) := by omega
      clear hcell1 hcell2 hc1 hc2
      generalize ds[k]?.getD 0 = x at *
      go_wp2
      go_quiet (fail)
      go_wp2
      go_roundw
      case rel => exact ⟨k + 1, by omega, by go_num, _, rfl⟩
      case measure => simp [intOf]; omega
    · go_wp2
      go_ret
      exact ⟨rfl, _, rfl⟩

set_option maxRecDepth 100000 in
set_option maxHeartbeats 400000 in
theorem keptI_any (g c : Nat) (s2 : Value) (ds : List Int) (w : World) (h1 : RowI w 0 (.slice (some ⟨g, 0, none⟩) (ds.length + 1) c) (ds ++ [7777])) (hc : ds.length + 1 ≤ c) (hm : c ≤ maxLen) (h2 : Si w s2 ds) (hr : ds.length * 8 ≤ 140737488351232) :
    Calls Tryz.prog 20 #[.slice (some ⟨g, 0, none⟩) ds.length c, s2] w fun e w' => e = .returned (.bool true) ∧ ∃ nq, w' = w.drewN nq := by
  have hl : (ds ++ [7777]).length = ds.length + 1 := by simp
  obtain ⟨g', cap', e, _, hg, _, _, hcell⟩ := h1.at (j := ds.length) (by omega)
  simp only [Value.slice.injEq, Option.some.injEq, Addr.mk.injEq] at e
  obtain ⟨⟨rfl, _⟩, _, rfl⟩ := e
  have hs1 : Si w (.slice (some ⟨g, 0, none⟩) ds.length c) ds := ⟨some ⟨g, 0, none⟩, c, rfl, fun _ => ⟨g, 0, rfl, hg, fun i hi => by
    have := hcell i (by omega)
    rw [List.getElem?_append_left hi] at this
    rw [Nat.zero_add]; exact this⟩⟩
  have hlast : w.cell? ⟨g, ds.length, none⟩ = some (.int .i64 7777) := by
    have := hcell ds.length (by omega)
    rw [List.getElem?_append_right (Nat.le_refl _)] at this
    simpa using this
  have hsame := sameI_any _ s2 ds w hs1 h2 hr
  obtain ⟨a2, c2, rfl, _⟩ := h2
  unfold maxLen at hm
  have HS : Hid (Calls _ _ _ _ _) := hsame
  obtain ⟨n1, hn1⟩ : ∃ n1, ds.length + 1 = n1 := ⟨_, rfl⟩
  have hsl : ∀ W, (Instr.slice 22 (.slice (some ⟨g, 0, none⟩) ds.length c) none (some (.int .i64 ((ds.length : Int) + 1))) none).run Tryz.prog W = .ok (.slice (some ⟨g, 0, none⟩) n1 c) W := by
    intro W
    have e : ((ds.length : Int) + 1) = (n1 : Int) := by omega
    have h0 : (0 : Int) ≤ (n1 : Int) := by omega
    have h1 : (n1 : Int) ≤ (c : Int) := by omega
    rw [e]
    simp [Instr.slice, run_underlying Tryz.underlying22, Instr.sliceBounds, run_sliceBound _ _ _ _ h0 h1, go_sem]
    intro h; omega
  have hi1 : (ds.length : Int) < (n1 : Int) := by omega
  clear hsame hcell hs1 h1 hl hn1 hc
  go_enter Tryz.func20, Tryz.ntmps20
  go_wp2_with fail
  refine HS.out.mono ?_
  rintro e w' ⟨rfl, nq, rfl⟩
  go_wp2
  go_ret
  exact ⟨rfl, _, rfl⟩

set_option maxRecDepth 100000 in
set_option maxHeartbeats 1000000 in
theorem refspan_any (x y : Int) (W : World) : Calls Tryz.prog 15 #[.int .i64 x, .int .i64 y] W fun e w' => SpanEnd x y W e w' := by
  have kx := fun X => in_any x X
  have ky := fun X => in_any y X
  by_cases h1 : -1000000 ≤ x ∧ x ≤ 1000000
  · simp only [inV_yes h1.1 h1.2] at kx
    by_cases h2 : -1000000 ≤ y ∧ y ≤ 1000000
    · simp only [inV_yes h2.1 h2.2] at ky
      have hin : inbB x y = true := by
        unfold inbB
        rw [Bool.and_eq_true]
        exact ⟨decide_eq_true (by omega), decide_eq_true (by omega)⟩
      have HIN : Hid (inbB x y = true) := hin
      clear hin
      by_cases h3 : x ≤ y
      · have e3 : decide (y < x) = false := by simp; omega
        go_enter Tryz.func15, Tryz.ntmps15
        go_wp2_with fail
        refine (kx _).mono ?_
        rintro e Wd ⟨rfl, rfl⟩
        go_wp2_with fail
        refine (ky _).mono ?_
        rintro e Wd ⟨rfl, rfl⟩
        clear kx ky
        go_wp2
        go_ret2
        refine ⟨_, _, rfl, (Below.refl _ _).alloc (Nat.le_refl _) _, .inl ⟨HIN.out, rfl, ?_⟩⟩
        unfold spanL
        rw [if_pos h3]
        exact ⟨rfl, .inr ⟨Wd.heap.size, 1, _, rfl, Nat.le_refl _, World.alloc_heap_new _ _, Nat.le_refl _, by unfold maxLen; decide, rfl, rfl⟩⟩
      · have e3 : decide (y < x) = true := by simp; omega
        go_enter Tryz.func15, Tryz.ntmps15
        go_wp2_with fail
        refine (kx _).mono ?_
        rintro e Wd ⟨rfl, rfl⟩
        go_wp2_with fail
        refine (ky _).mono ?_
        rintro e Wd ⟨rfl, rfl⟩
        clear kx ky
        go_wp2
        go_ret2
        refine ⟨_, _, rfl, Below.refl _ _, .inl ⟨HIN.out, rfl, ?_⟩⟩
        unfold spanL
        rw [if_neg (by omega)]
        exact World.ownsRow_nil _ _ _ _
    · simp only [inV_no h2] at ky
      have hin : inbB x y = false := by
        unfold inbB
        rw [Bool.and_eq_false_iff]
        by_cases h4 : -1000000 ≤ y
        · exact .inr (decide_eq_false (by omega))
        · exact .inl (decide_eq_false (by omega))
      have HIN : Hid (inbB x y = false) := hin
      clear hin
      go_enter Tryz.func15, Tryz.ntmps15
      go_wp2_with fail
      refine (kx _).mono ?_
      rintro e Wd ⟨rfl, rfl⟩
      go_wp2_with fail
      refine (ky _).mono ?_
      rintro e Wd ⟨rfl, rfl⟩
      clear kx ky
      go_wp2
      go_ret2
      exact ⟨_, _, rfl, Below.refl _ _, .inr ⟨HIN.out, rfl, rfl⟩⟩
  · simp only [inV_no h1] at kx
    have hin : inbB x y = false := by
      unfold inbB
      rw [Bool.and_eq_false_iff]
      by_cases h4 : -1000000 ≤ x
      · exact .inr (decide_eq_false (by omega))
      · exact .inl (decide_eq_false (by omega))
    have HIN : Hid (inbB x y = false) := hin
    clear hin
    go_enter Tryz.func15, Tryz.ntmps15
    go_wp2_with fail
    refine (kx _).mono ?_
    rintro e Wd ⟨rfl, rfl⟩
    clear kx ky
    go_wp2
    go_ret2
    exact ⟨_, _, rfl, Below.refl _ _, .inr ⟨HIN.out, rfl, rfl⟩⟩

set_option maxRecDepth 100000 in
set_option maxHeartbeats 4000000 in
theorem refof_any (s : Value) (vs : List Int) (W : World) (h : Si W s vs) (hl : vs.length * 16 ≤ 140737488351232) :
    Calls Tryz.prog 11 #[s] W fun e w' => NormEnd (singles vs) W e w' := by
  obtain ⟨i0, hi0, hz0, hz1, hz2⟩ := info_parts Tryz.info55
  obtain ⟨sa, cap, rfl, hcell⟩ := h
  obtain ⟨n, hn⟩ : ∃ n, vs.length = n := ⟨_, rfl⟩
  have HN : Hid (vs.length = n) := hn
  have HC : Hid _ := hcell
  rw [hn] at hl ⊢
  clear hn hcell
  go_enter Tryz.func11, Tryz.ntmps11
  go_wp2
  go_loopw [4, 5] (fun o i wr => ∃ (k : Nat), k ≤ n ∧ i = .int .i64 k ∧ wr.ownsRow W.heap.size 55 2 o k (flat (singles (vs.take k))) ∧ Below W.heap.size W wr) (fun _ i _ => n - (intOf i).toNat)
  case atStart => exact ⟨0, Nat.zero_le _, rfl, World.ownsRow_nil _ _ _ _, Below.refl _ _⟩
  case round =>
    obtain ⟨k, hk, rfl, hrow, hB⟩ := hrel
    have hsz := hB.size
    by_cases hlt : k < n
    · have hkl : k < vs.length := by rw [HN.out]; exact hlt
      obtain ⟨sb, off, rfl, hb, hcells⟩ := HC.out (by omega)
      have d1 := (hB.cell (p := ⟨sb, off + k, none⟩) hb).trans (hcells k hkl)
      have htk := singles_take vs k hkl
      obtain ⟨x, hx⟩ : ∃ x, vs[k]?.getD 0 = x := ⟨_, rfl⟩
      rw [hx] at d1 htk
      have HTK : Hid (singles (vs.take (k + 1)) = singles (vs.take k) ++ [(x, x)]) := htk
      obtain ⟨ua, uc, rfl, _, _⟩ := own_shape hrow
      have HROW : Hid (wr.ownsRow W.heap.size 55 2 (.slice ua k uc) k (flat (singles (vs.take k)))) := hrow
      have hlt' : (k : Int) < (n : Int) := by omega
      clear hcells hx htk hkl hrow
      go_wp2
      have HRD : Hid (wr.drew.ownsRow W.heap.size 55 2 (.slice ua k uc) k (flat (singles (vs.take k)))) := HROW.out
      have hBd : Below W.heap.size W wr.drew := hB.drew
      have HK : ∀ X, Below W.heap.size W X → X.cell? ⟨sb, off + k, none⟩ = some (.int .i64 x) := fun X hX => (hX.cell (p := ⟨sb, off + k, none⟩) hb).trans ((hB.cell (p := ⟨sb, off + k, none⟩) hb).symm.trans d1)
      have hBA : Below W.heap.size W (wr.drew.alloc (Obj.cells #[.int .i64 x, .int .i64 x] 55)) := hBd.alloc hBd.size _
      go_region_held_law (fun w' => w'.cell? ⟨sb, off + k, none⟩ = some (.int .i64 x)) (exact HK _ (by assumption)) (first | (refine step_append_lies _ rfl _ _ 23 rfl W.heap.size 55 i0 (.agg #[.int .i64 0, .int .i64 0]) 2 16 Tryz.underlying23 hi0 hz0 hz1 hz2 rfl (by decide) _ _ _ rfl (World.ownsRow.alloc HRD.out _) ⟨wr.heap.size, 0, none⟩ 1 1 [.int .i64 x, .int .i64 x] rfl rfl (cell_two_new wr.drew _ _ _) (by simp [Value.oneCell']) (by decide) (show k + 1 ≤ maxLen by unfold maxLen; omega) (show (k + 1) * 16 ≤ 140737488355328 by omega) hBA.size _ rfl ?_; intro g cap2 w2 hown hgrow hat hlt2; have hB2 : Below W.heap.size W w2 := hBA.grown hgrow hBA.size (fun j e => (World.ownsRow.lt HRD.out j e).1)))
      go_wp2
      go_roundw
      case rel => exact ⟨k + 1, by omega, by go_num, by rw [HTK.out, flat_two]; exact hown, hB2⟩
      case measure => simp [intOf]; omega
    · obtain rfl : k = n := by omega
      have htk : vs.take k = vs := by rw [← HN.out]; exact List.take_length
      rw [htk] at hrow
      have hsr : Sr wr u4 (singles vs) := own_srl (by rw [singles_length, HN.out]; exact hrow)
      have kj := refnorm_any _ (singles vs) wr hsr (by rw [singles_length, HN.out]; exact hl)
      obtain ⟨av, vn, cv, rfl⟩ := sr_form hsr
      clear htk hsr hrow
      go_wp2_with fail
      refine kj.mono ?_
      clear kj
      rintro e w1 ⟨s5, cc, rfl, hb5, hcase⟩
      have HC : Hid _ := hcase
      clear hcase
      go_wp2
      go_ret2
      refine ⟨s5, cc, rfl, hB.trans (hb5.mono hsz), ?_⟩
      rcases HC.out with h | ⟨q1, q2, q3, q4, q5⟩ | h
      · exact .inl h
      · exact .inr (.inl ⟨q1, q2, q3, own_base q4 hsz, q5⟩)
      · exact .inr (.inr h)


theorem norm_pair (l : List Rg) : ∃ (NL : List Rg) (NC : Int), NL.length ≤ 10000 ∧ ∀ w e w', NormEnd l w e w' → MadeE w NL NC e w' := by
  by_cases hb : bad l
  · refine ⟨[], 20, by simp, fun w e w' h => ?_⟩
    obtain ⟨s, c, rfl, hbl, hc⟩ := h
    rcases hc with ⟨_, rfl, rfl⟩ | ⟨h, _⟩ | ⟨h, _⟩
    · exact ⟨none, 0, 0, rfl, World.ownsRow_nil _ _ _ _, hbl⟩
    · exact absurd hb h
    · exact absurd hb h
  · exact ⟨enL l, enC l, en_le l, fun w e w' h => made_norm hb h⟩
theorem span_pair (x y : Int) : ∃ (NL : List Rg) (NC : Int), NL.length ≤ 10000 ∧ ∀ w e w', SpanEnd x y w e w' → MadeE w NL NC e w' := by
  cases hb : inbB x y with
  | true =>
    refine ⟨spanL x y, 0, by unfold spanL; split <;> simp, fun w e w' h => ?_⟩
    obtain ⟨s, c, rfl, hbl, hc⟩ := h
    rcases hc with ⟨_, rfl, hr⟩ | ⟨h, _⟩
    · obtain ⟨a, c, rfl, _, _⟩ := own_shape hr
      exact ⟨a, _, c, rfl, hr, hbl⟩
    · rw [hb] at h; cases h
  | false =>
    refine ⟨[], 20, by simp, fun w e w' h => ?_⟩
    obtain ⟨s, c, rfl, hbl, hc⟩ := h
    rcases hc with ⟨h, _⟩ | ⟨_, rfl, rfl⟩
    · rw [hb] at h; cases h
    · exact ⟨none, 0, 0, rfl, World.ownsRow_nil _ _ _ _, hbl⟩
/-- Numbers that were lent. -/
structure LntI (w : World) (g n c : Nat) (vs : List Int) : Prop where
  row : RowI w 0 (.slice (some ⟨g, 0, none⟩) (vs.length + 1) c) (vs ++ [7777])
  len : n = vs.length
  cap : vs.length + 1 ≤ c
  max : c ≤ maxLen
theorem LntI.si {w : World} {g n c : Nat} {vs : List Int} (h : LntI w g n c vs) : Si w (.slice (some ⟨g, 0, none⟩) n c) vs := by
  have hl : (vs ++ [7777]).length = vs.length + 1 := by simp
  obtain ⟨g', cap', e, _, hg, _, _, hcell⟩ := h.row.at (j := vs.length) (by omega)
  simp only [Value.slice.injEq, Option.some.injEq, Addr.mk.injEq] at e
  obtain ⟨⟨rfl, _⟩, _, rfl⟩ := e
  refine ⟨some ⟨g, 0, none⟩, c, by rw [h.len], fun _ => ⟨g, 0, rfl, hg, fun i hi => ?_⟩⟩
  have := hcell i (by omega)
  rw [List.getElem?_append_left hi] at this
  rw [Nat.zero_add]; exact this
theorem LntI.below {w w' : World} {g n c : Nat} {vs : List Int} (h : LntI w g n c vs) (hb : Below w.heap.size w w') : LntI w' g n c vs := ⟨own_keepB h.row hb, h.len, h.cap, h.max⟩
theorem lentI_at (s : Value) (n : Nat) (vs : List Int) (w : World) (h : Si w s vs) (hn : n = vs.length) (hr : vs.length * 8 ≤ 140737488351232) :
    Calls Tryz.prog 8 #[s] w fun e w' => ∃ g c, e = .returned (.slice (some ⟨g, 0, none⟩) n c) ∧ LntI w' g n c vs ∧ Below w.heap.size w w' := by
  subst hn
  refine (lentI_any s vs w h hr).mono ?_
  rintro e w' ⟨g, c, rfl, h1, h2, h3, h4⟩
  exact ⟨g, c, rfl, ⟨own_base h3 (Nat.zero_le _), rfl, h1, h2⟩, h4⟩
theorem keptI_at (g n c : Nat) (s2 : Value) (vs : List Int) (w : World) (h : LntI w g n c vs) (h2 : Si w s2 vs) (hr : vs.length * 8 ≤ 140737488351232) :
    Calls Tryz.prog 20 #[.slice (some ⟨g, 0, none⟩) n c, s2] w fun e w' => e = .returned (.bool true) ∧ Below w.heap.size w w' := by
  rw [h.len]
  refine (keptI_any g c s2 vs w h.row h.cap h.max h2 hr).mono ?_
  rintro e w' ⟨rfl, nq, rfl⟩
  exact ⟨rfl, below_drewN (Below.refl _ _) _⟩
theorem refright_at (s : Value) (l : List Rg) (w : World) (h : Sr w s l) :
    Calls Tryz.prog 18 #[s] w fun e w' => e = .returned (.bool (rightB l)) ∧ Below w.heap.size w w' := by
  refine (refright_any s l w h).mono ?_
  rintro e w' ⟨rfl, nq, rfl⟩
  exact ⟨rfl, below_drewN (Below.refl _ _) _⟩
theorem si_form {W : World} {s : Value} {vs : List Int} (h : Si W s vs) : ∃ a n c, s = .slice a n c := by
  obtain ⟨a, c, rfl, _⟩ := h
  exact ⟨_, _, _, rfl⟩
set_option maxRecDepth 100000 in
set_option maxHeartbeats 8000000 in
theorem makes_walk (s1 s2 : Value) (vs : List Int) (l : List Rg) (x y : Int) (W : World) (h1 : Si W s1 vs) (h2 : Sr W s2 l) (hf : FitsR l) (hl1 : vs.length * 16 ≤ 140737488351232) (hl2 : l.length * 16 ≤ 140737488351232) (hM : MaxL W) (hT : Tens W.heap.size W) :
    Calls Tryz.prog 3 #[s1, s2, .int .i64 x, .int .i64 y] W fun e w' => e = .returned (.bool true) ∧ Below W.heap.size W w' := by
  have hM0 := hM.1
  have HM : Hid (MaxL W) := hM
  have HT : Hid (Tens W.heap.size W) := hT
  have HF : Hid (FitsR l) := hf
  have HL1 : Hid (vs.length * 16 ≤ 140737488351232) := hl1
  have HL8 : Hid (vs.length * 8 ≤ 140737488351232) := by unfold Hid; omega
  have HL2 : Hid (l.length * 16 ≤ 140737488351232) := hl2
  obtain ⟨n1, hn1⟩ : ∃ n, vs.length = n := ⟨_, rfl⟩
  obtain ⟨n2, hn2⟩ : ∃ n, l.length = n := ⟨_, rfl⟩
  have HN1 : Hid (n1 = vs.length) := hn1.symm
  have HN2 : Hid (n2 = l.length) := hn2.symm
  obtain ⟨a1, m1, c1, rfl⟩ := si_form h1
  obtain ⟨a2, m2, c2, rfl⟩ := sr_form h2
  have HS1 : Hid (Si W (.slice a1 m1 c1) vs) := h1
  have HS2 : Hid (Sr W (.slice a2 m2 c2) l) := h2
  have hB : Below W.heap.size W W := Below.refl _ _
  obtain ⟨OL, OC, hOl, hO⟩ := norm_pair (singles vs)
  obtain ⟨NL, NC, hNl, hNn⟩ := norm_pair l
  obtain ⟨SL, SC, hSl, hS⟩ := span_pair x y
  have HOL : Hid (OL.length ≤ 10000) := hOl
  have HNL : Hid (NL.length ≤ 10000) := hNl
  have HSL : Hid (SL.length ≤ 10000) := hSl
  have HO : Hid (∀ w e w', NormEnd (singles vs) w e w' → MadeE w OL OC e w') := hO
  have HNN : Hid (∀ w e w', NormEnd l w e w' → MadeE w NL NC e w') := hNn
  have HSS : Hid (∀ w e w', SpanEnd x y w e w' → MadeE w SL SC e w') := hS
  obtain ⟨rb, hrb⟩ : ∃ rb, rightB l = rb := ⟨_, rfl⟩
  have HRB : Hid (rightB l = rb) := hrb
  clear hM hT hf hl1 hl2 hn1 hn2 h1 h2 hOl hNl hSl hO hNn hS hrb
  go_enter Tryz.func3, Tryz.ntmps3
  go_wp2_with fail
  have hcall := lentI_at _ n1 vs W HS1.out HN1.out HL8.out
  refine hcall.mono ?_
  clear hcall
  rintro e w1 hq
  obtain ⟨xg, xc, rfl, hr, hb⟩ := hq
  have Hx : Hid (LntI w1 xg n1 xc vs) := hr
  clear hr
  replace HS1 : Hid (Si w1 (.slice a1 m1 c1) vs) := HS1.out.below hb
  replace HS2 : Hid (Sr w1 (.slice a2 m2 c2) l) := HS2.out.below hb
  replace hB : Below W.heap.size W w1 := hB.trans (hb.mono hB.size)
  have hz1 := hb.size
  clear hb
  go_wp2_with fail
  have hcall := lent_at _ n2 l w1 HS2.out HN2.out HL2.out
  refine hcall.mono ?_
  clear hcall
  rintro e w2 hq
  obtain ⟨yg, yc, rfl, hr, hb⟩ := hq
  have Hy : Hid (Lnt w2 yg n2 yc l) := hr
  clear hr
  replace HS1 : Hid (Si w2 (.slice a1 m1 c1) vs) := HS1.out.below hb
  replace HS2 : Hid (Sr w2 (.slice a2 m2 c2) l) := HS2.out.below hb
  replace Hx : Hid (LntI w2 xg n1 xc vs) := Hx.out.below hb
  replace hB : Below W.heap.size W w2 := hB.trans (hb.mono hB.size)
  have hz2 := hb.size
  clear hb
  have HBW2 : Hid (Below W.heap.size W w2) := hB
  have hB2 : Below w2.heap.size w2 w2 := Below.refl _ _
  go_wp2_with fail
  have hcall := (domof_any _ vs w2 (Hx.out.si.below hB2) HL1.out).mono (fun e w' h => HO.out _ _ _ h)
  refine hcall.mono ?_
  clear hcall
  rintro e w3 hq
  obtain ⟨aaa, aan, aac, rfl, hr, hb⟩ := hq
  have Haa : Hid (Rw w2.heap.size w3 w2.heap.size w3.heap.size (.slice aaa aan aac) OL) := Rw.new hr hB2.size
  clear hr
  replace hB : Below W.heap.size W w3 := hB.trans (hb.mono hB.size)
  replace hB2 : Below w2.heap.size w2 w3 := hB2.trans (hb.mono hB2.size)
  have hz3 := hb.size
  clear hb
  go_wp2_with fail
  have hcall := (refof_any _ vs w3 (HS1.out.below hB2) HL1.out).mono (fun e w' h => HO.out _ _ _ h)
  refine hcall.mono ?_
  clear hcall
  rintro e w4 hq
  obtain ⟨bba, bbn, bbc, rfl, hr, hb⟩ := hq
  have Hbb : Hid (Rw w2.heap.size w4 w3.heap.size w4.heap.size (.slice bba bbn bbc) OL) := Rw.new hr hB2.size
  clear hr
  replace Haa : Hid (Rw w2.heap.size w4 w2.heap.size w3.heap.size (.slice aaa aan aac) OL) := Haa.out.below hb
  replace hB : Below W.heap.size W w4 := hB.trans (hb.mono hB.size)
  replace hB2 : Below w2.heap.size w2 w4 := hB2.trans (hb.mono hB2.size)
  have hz4 := hb.size
  clear hb
  go_wp2_with fail
  have hcall := (norm_any _ l w4 (Hy.out.sr.below hB2) HL2.out).mono (fun e w' h => HNN.out _ _ _ h)
  refine hcall.mono ?_
  clear hcall
  rintro e w5 hq
  obtain ⟨cca, ccn, ccc, rfl, hr, hb⟩ := hq
  have Hcc : Hid (Rw w2.heap.size w5 w4.heap.size w5.heap.size (.slice cca ccn ccc) NL) := Rw.new hr hB2.size
  clear hr
  replace Haa : Hid (Rw w2.heap.size w5 w2.heap.size w3.heap.size (.slice aaa aan aac) OL) := Haa.out.below hb
  replace Hbb : Hid (Rw w2.heap.size w5 w3.heap.size w4.heap.size (.slice bba bbn bbc) OL) := Hbb.out.below hb
  replace hB : Below W.heap.size W w5 := hB.trans (hb.mono hB.size)
  replace hB2 : Below w2.heap.size w2 w5 := hB2.trans (hb.mono hB2.size)
  have hz5 := hb.size
  clear hb
  go_wp2_with fail
  have hcall := (refnorm_any _ l w5 (HS2.out.below hB2) HL2.out).mono (fun e w' h => HNN.out _ _ _ h)
  refine hcall.mono ?_
  clear hcall
  rintro e w6 hq
  obtain ⟨dda, ddn, ddc, rfl, hr, hb⟩ := hq
  have Hdd : Hid (Rw w2.heap.size w6 w5.heap.size w6.heap.size (.slice dda ddn ddc) NL) := Rw.new hr hB2.size
  clear hr
  replace Haa : Hid (Rw w2.heap.size w6 w2.heap.size w3.heap.size (.slice aaa aan aac) OL) := Haa.out.below hb
  replace Hbb : Hid (Rw w2.heap.size w6 w3.heap.size w4.heap.size (.slice bba bbn bbc) OL) := Hbb.out.below hb
  replace Hcc : Hid (Rw w2.heap.size w6 w4.heap.size w5.heap.size (.slice cca ccn ccc) NL) := Hcc.out.below hb
  replace hB : Below W.heap.size W w6 := hB.trans (hb.mono hB.size)
  replace hB2 : Below w2.heap.size w2 w6 := hB2.trans (hb.mono hB2.size)
  have hz6 := hb.size
  clear hb
  go_wp2_with fail
  have hcall := (domspan_any x y w6).mono (fun e w' h => HSS.out _ _ _ h)
  refine hcall.mono ?_
  clear hcall
  rintro e w7 hq
  obtain ⟨iia, iin, iic, rfl, hr, hb⟩ := hq
  have Hii : Hid (Rw w2.heap.size w7 w6.heap.size w7.heap.size (.slice iia iin iic) SL) := Rw.new hr hB2.size
  clear hr
  replace Haa : Hid (Rw w2.heap.size w7 w2.heap.size w3.heap.size (.slice aaa aan aac) OL) := Haa.out.below hb
  replace Hbb : Hid (Rw w2.heap.size w7 w3.heap.size w4.heap.size (.slice bba bbn bbc) OL) := Hbb.out.below hb
  replace Hcc : Hid (Rw w2.heap.size w7 w4.heap.size w5.heap.size (.slice cca ccn ccc) NL) := Hcc.out.below hb
  replace Hdd : Hid (Rw w2.heap.size w7 w5.heap.size w6.heap.size (.slice dda ddn ddc) NL) := Hdd.out.below hb
  replace hB : Below W.heap.size W w7 := hB.trans (hb.mono hB.size)
  replace hB2 : Below w2.heap.size w2 w7 := hB2.trans (hb.mono hB2.size)
  have hz7 := hb.size
  clear hb
  go_wp2_with fail
  have hcall := (refspan_any x y w7).mono (fun e w' h => HSS.out _ _ _ h)
  refine hcall.mono ?_
  clear hcall
  rintro e w8 hq
  obtain ⟨kka, kkn, kkc, rfl, hr, hb⟩ := hq
  have Hkk : Hid (Rw w2.heap.size w8 w7.heap.size w8.heap.size (.slice kka kkn kkc) SL) := Rw.new hr hB2.size
  clear hr
  replace Haa : Hid (Rw w2.heap.size w8 w2.heap.size w3.heap.size (.slice aaa aan aac) OL) := Haa.out.below hb
  replace Hbb : Hid (Rw w2.heap.size w8 w3.heap.size w4.heap.size (.slice bba bbn bbc) OL) := Hbb.out.below hb
  replace Hcc : Hid (Rw w2.heap.size w8 w4.heap.size w5.heap.size (.slice cca ccn ccc) NL) := Hcc.out.below hb
  replace Hdd : Hid (Rw w2.heap.size w8 w5.heap.size w6.heap.size (.slice dda ddn ddc) NL) := Hdd.out.below hb
  replace Hii : Hid (Rw w2.heap.size w8 w6.heap.size w7.heap.size (.slice iia iin iic) SL) := Hii.out.below hb
  replace hB : Below W.heap.size W w8 := hB.trans (hb.mono hB.size)
  replace hB2 : Below w2.heap.size w2 w8 := hB2.trans (hb.mono hB2.size)
  have hz8 := hb.size
  clear hb
  go_wp2_with fail
  have hcall := alike_at _ _ OL w8 Haa.out.sr Hbb.out.sr HOL.out
  refine hcall.mono ?_
  clear hcall
  rintro e w9 hq
  obtain ⟨rfl, hb⟩ := hq
  replace Haa : Hid (Rw w2.heap.size w9 w2.heap.size w3.heap.size (.slice aaa aan aac) OL) := Haa.out.below hb
  replace Hbb : Hid (Rw w2.heap.size w9 w3.heap.size w4.heap.size (.slice bba bbn bbc) OL) := Hbb.out.below hb
  replace Hcc : Hid (Rw w2.heap.size w9 w4.heap.size w5.heap.size (.slice cca ccn ccc) NL) := Hcc.out.below hb
  replace Hdd : Hid (Rw w2.heap.size w9 w5.heap.size w6.heap.size (.slice dda ddn ddc) NL) := Hdd.out.below hb
  replace Hii : Hid (Rw w2.heap.size w9 w6.heap.size w7.heap.size (.slice iia iin iic) SL) := Hii.out.below hb
  replace Hkk : Hid (Rw w2.heap.size w9 w7.heap.size w8.heap.size (.slice kka kkn kkc) SL) := Hkk.out.below hb
  replace hB : Below W.heap.size W w9 := hB.trans (hb.mono hB.size)
  replace hB2 : Below w2.heap.size w2 w9 := hB2.trans (hb.mono hB2.size)
  have hz9 := hb.size
  clear hb
  clear Hbb
  clear Haa
  go_wp2_with fail
  have hcall := alike_at _ _ NL w9 Hcc.out.sr Hdd.out.sr HNL.out
  refine hcall.mono ?_
  clear hcall
  rintro e w10 hq
  obtain ⟨rfl, hb⟩ := hq
  replace Hcc : Hid (Rw w2.heap.size w10 w4.heap.size w5.heap.size (.slice cca ccn ccc) NL) := Hcc.out.below hb
  replace Hdd : Hid (Rw w2.heap.size w10 w5.heap.size w6.heap.size (.slice dda ddn ddc) NL) := Hdd.out.below hb
  replace Hii : Hid (Rw w2.heap.size w10 w6.heap.size w7.heap.size (.slice iia iin iic) SL) := Hii.out.below hb
  replace Hkk : Hid (Rw w2.heap.size w10 w7.heap.size w8.heap.size (.slice kka kkn kkc) SL) := Hkk.out.below hb
  replace hB : Below W.heap.size W w10 := hB.trans (hb.mono hB.size)
  replace hB2 : Below w2.heap.size w2 w10 := hB2.trans (hb.mono hB2.size)
  have hz10 := hb.size
  clear hb
  clear Hdd
  go_wp2_with fail
  have hcall := alike_at _ _ SL w10 Hii.out.sr Hkk.out.sr HSL.out
  refine hcall.mono ?_
  clear hcall
  rintro e w11 hq
  obtain ⟨rfl, hb⟩ := hq
  replace Hcc : Hid (Rw w2.heap.size w11 w4.heap.size w5.heap.size (.slice cca ccn ccc) NL) := Hcc.out.below hb
  replace Hii : Hid (Rw w2.heap.size w11 w6.heap.size w7.heap.size (.slice iia iin iic) SL) := Hii.out.below hb
  replace Hkk : Hid (Rw w2.heap.size w11 w7.heap.size w8.heap.size (.slice kka kkn kkc) SL) := Hkk.out.below hb
  replace hB : Below W.heap.size W w11 := hB.trans (hb.mono hB.size)
  replace hB2 : Below w2.heap.size w2 w11 := hB2.trans (hb.mono hB2.size)
  have hz11 := hb.size
  clear hb
  clear Hkk
  clear Hii
  go_wp2_with fail
  have hcall := right_any _ l w11 (Hy.out.sr.below hB2) HF.out
  rw [HRB.out] at hcall
  refine hcall.mono ?_
  clear hcall
  rintro e w12 hq
  obtain ⟨rfl, hb⟩ := hq
  replace Hcc : Hid (Rw w2.heap.size w12 w4.heap.size w5.heap.size (.slice cca ccn ccc) NL) := Hcc.out.below hb
  replace hB : Below W.heap.size W w12 := hB.trans (hb.mono hB.size)
  replace hB2 : Below w2.heap.size w2 w12 := hB2.trans (hb.mono hB2.size)
  have hz12 := hb.size
  clear hb
  go_wp2_with fail
  have hcall := refright_at _ l w12 (HS2.out.below hB2)
  rw [HRB.out] at hcall
  refine hcall.mono ?_
  clear hcall
  rintro e w13 hq
  obtain ⟨rfl, hb⟩ := hq
  replace Hcc : Hid (Rw w2.heap.size w13 w4.heap.size w5.heap.size (.slice cca ccn ccc) NL) := Hcc.out.below hb
  replace hB : Below W.heap.size W w13 := hB.trans (hb.mono hB.size)
  replace hB2 : Below w2.heap.size w2 w13 := hB2.trans (hb.mono hB2.size)
  have hz13 := hb.size
  clear hb
  go_wp2_with fail
  have hcall := spoil_any _ w13 _ _ _ Hcc.out.row (Nat.le_trans HNL.out (by decide)) (by have := hB2.size; omega)
  refine hcall.mono ?_
  clear hcall
  rintro e w14 ⟨rfl, hg⟩
  replace hB2 : Below w2.heap.size w2 w14 := Hcc.out.spoiled hg hB2 hB2.size
  clear hg Hcc hB
  have hB : Below W.heap.size W w14 := HBW2.out.trans (hB2.mono HBW2.out.size)
  go_wp2_with fail
  have hcall := keptI_at _ _ _ _ vs w14 (Hx.out.below hB2) (HS1.out.below hB2) HL8.out
  refine hcall.mono ?_
  clear hcall
  rintro e w15 hq
  obtain ⟨rfl, hb⟩ := hq
  replace hB : Below W.heap.size W w15 := hB.trans (hb.mono hB.size)
  replace hB2 : Below w2.heap.size w2 w15 := hB2.trans (hb.mono hB2.size)
  have hz15 := hb.size
  clear hb
  go_wp2_with fail
  have hcall := kept_at _ _ _ _ l w15 (Hy.out.below hB2) (HS2.out.below hB2) HL2.out
  refine hcall.mono ?_
  clear hcall
  rintro e w16 hq
  obtain ⟨rfl, hb⟩ := hq
  replace hB : Below W.heap.size W w16 := hB.trans (hb.mono hB.size)
  replace hB2 : Below w2.heap.size w2 w16 := hB2.trans (hb.mono hB2.size)
  have hz16 := hb.size
  clear hb
  go_wp2_with fail
  have hcall := known22 _ (HM.out.below hB hM0) (Tens.here HT.out hB)
  refine hcall.mono ?_
  clear hcall
  rintro e w17 hq
  obtain ⟨rfl, hb⟩ := hq
  replace hB : Below W.heap.size W w17 := hB.trans (hb.mono hB.size)
  replace hB2 : Below w2.heap.size w2 w17 := hB2.trans (hb.mono hB2.size)
  have hz17 := hb.size
  clear hb
  go_wp2
  go_ret
  exact ⟨rfl, hB⟩
end Go.Proofs.YtkloadlodofipaaGreatDoor
