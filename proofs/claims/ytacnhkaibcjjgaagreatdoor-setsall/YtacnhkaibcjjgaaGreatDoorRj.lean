/-
  What is proved here: the reference's Lent, Same and Kept of numbers; what can be written.
-/
import Derived.Test.YtacnhkaibcjjgaaGreatDoorRg
import Derived.Test.YtacnhkaibcjjgaaGreatDoorSp
import Derived.Test.YtacnhkaibcjjgaaGreatDoorCbj
import Derived.Maps.AppendAt
import Derived.Sort.Row
namespace Go.Proofs.YtacnhkaibcjjgaaGreatDoor
open Go.RowKit Go.Shelf
set_option linter.unusedVariables false
set_option linter.unusedSimpArgs false

def RowI (W : World) (base : Nat) (s : Value) (ds : List Int) : Prop := W.ownsRow base 2 1 s ds.length (ds.map (Value.int .i64))
theorem RowI.at {W : World} {base : Nat} {s : Value} {ds : List Int} (h : RowI W base s ds) {j : Nat} (hj : j < ds.length) :
    ∃ g cap, s = .slice (some ⟨g, 0, none⟩) ds.length cap ∧ base ≤ g ∧ g < W.heap.size ∧ ds.length ≤ cap ∧ cap ≤ maxLen ∧ ∀ i, i < ds.length → W.cell? ⟨g, i, none⟩ = some (.int .i64 (ds[i]?.getD 0)) := by
  rcases h.2 with ⟨h1, h2⟩ | ⟨g, cap, cur, e, hg, hh, hc, hm, _⟩
  · omega
  · refine ⟨g, cap, e, hg, (Array.getElem?_eq_some_iff.1 hh).1, hc, hm, fun i hi => ?_⟩
    have := World.ownsRow.cells h (g := g) (by rw [e]; rfl) i (.int .i64 (ds[i]?.getD 0)) (by simp [List.getElem?_eq_getElem hi])
    by_cases h0 : i = 0
    · subst h0; simpa [Addr.add] using this
    · simpa [Addr.add, h0] using this

/-! ### Behind 'append' of one number -/
theorem RowI.appended {w1 : World} {base : Nat} {v' : Value} {ds : List Int} {d : Int} {n : Nat} (hn : n = ds.length + 1) (h : w1.ownsRow base 2 1 v' n (ds.map (Value.int .i64) ++ [.int .i64 d])) : RowI w1 base v' (ds ++ [d]) := by
  subst hn; unfold RowI; simpa using h
theorem own_caps1 {W : World} {base g n cap : Nat} {xs : List Value} (h : W.ownsRow base 2 1 (.slice (some ⟨g, 0, none⟩) n cap) n xs) : n ≤ cap ∧ cap ≤ 9223372036854775807 := by
  rcases h.2 with ⟨h1, _⟩ | ⟨g', cap', cur, e, _, _, hc, hm, _⟩
  · cases h1
  · injection e with _ _ e3; subst e3; unfold maxLen at hm; exact ⟨hc, by omega⟩

set_option maxHeartbeats 400000 in
theorem lentI_some (b off cap : Nat) (ds : List Int) (w : World) (h0 : 0 < ds.length) (hlt : b < w.heap.size) (hr : ds.length * 8 ≤ 140737488351232)
    (hcell : ∀ i, i < ds.length → w.cell? ⟨b, off + i, none⟩ = some (.int .i64 (ds[i]?.getD 0))) :
    Calls Tryz.prog 9 #[.slice (some ⟨b, off, none⟩) ds.length cap] w fun e w' => ∃ g c, e = .returned (.slice (some ⟨g, 0, none⟩) ds.length c) ∧ ds.length + 1 ≤ c ∧ c ≤ maxLen ∧ RowI w' w.heap.size (.slice (some ⟨g, 0, none⟩) (ds.length + 1) c) (ds ++ [7777]) ∧ Below w.heap.size w w' := by
  obtain ⟨i0, hi, hz0, hz1, hz2⟩ := info_parts Tryz.info2
  have hnews : ∀ j u, (ds.map (Value.int .i64))[j]? = some u → w.cell? ((⟨b, off, none⟩ : Addr).add j) = some u := by
    intro j u hj
    rw [List.getElem?_map] at hj
    obtain ⟨d, hd, rfl⟩ := Option.map_eq_some_iff.1 hj
    have hjl : j < ds.length := (List.getElem?_eq_some_iff.1 hd).1
    have := hcell j hjl
    rw [hd] at this
    by_cases hj0 : j = 0
    · subst hj0; simpa [Addr.add] using this
    · simpa [Addr.add, hj0] using this
  have h1c : ∀ u ∈ ds.map (Value.int .i64), u.oneCell' = true := by intro u hu; simp at hu; obtain ⟨d, _, rfl⟩ := hu; rfl
  have hl : (ds.map (Value.int .i64)).length = ds.length * 1 := by simp
  have hml : ds.length ≤ maxLen := by unfold maxLen; omega
  clear hcell
  go_enter Tryz.func9, Tryz.ntmps9
  go_wp2_with (first | (at_builtin; refine wpList_append_own _ rfl _ _ 22 rfl w.heap.size 2 i0 (.int .i64 0) 1 8 Tryz.underlying22 hi hz0 hz1 hz2 rfl (by decide) _ _ _ rfl (World.ownsRow_nil _ _ _ _) ⟨b, off, none⟩ ds.length cap (ds.map (Value.int .i64)) rfl hl hnews h1c (by omega) (by omega) (Nat.le_refl _) ?_; intro v1 w1 hown1 hgrow1 _; simp only [Nat.zero_add, List.nil_append] at hown1; have hs1 := hgrow1.size) | (at_builtin; refine wpList_append_own _ rfl _ _ 22 rfl w.heap.size 2 i0 (.int .i64 0) 1 8 Tryz.underlying22 hi hz0 hz1 hz2 rfl (by decide) _ _ _ rfl (World.ownsRow.alloc hown1 _) ⟨w1.heap.size, 0, none⟩ 1 1 [.int .i64 7777] rfl rfl (cell_one_new2 _ _) (by simp [Value.oneCell']) (by unfold maxLen; omega) (by omega) (by simp; omega) ?_; intro v2 w2 hown2 hgrow2 _; obtain ⟨g', cap', rfl⟩ := ownsRow_succ hown2; obtain ⟨hq1, hq2⟩ := own_caps1 hown2))
  go_ret
  refine ⟨g', cap', rfl, hq1, by unfold maxLen; omega, RowI.appended rfl hown2, ?_⟩
  have hb1 : Below w.heap.size w w1 := (Below.refl _ w).grown hgrow1 (Nat.le_refl _) (fun k e => by cases e)
  exact (hb1.alloc hs1 _).grown hgrow2 (by simp; omega) (fun k e => (World.ownsRow.lt hown1 k e).1)

set_option maxHeartbeats 400000 in
theorem lentI_none (a : Option Addr) (cap : Nat) (w : World) :
    Calls Tryz.prog 9 #[.slice a 0 cap] w fun e w' => ∃ g c, e = .returned (.slice (some ⟨g, 0, none⟩) 0 c) ∧ 1 ≤ c ∧ c ≤ maxLen ∧ RowI w' w.heap.size (.slice (some ⟨g, 0, none⟩) 1 c) [7777] ∧ Below w.heap.size w w' := by
  obtain ⟨i0, hi, hz0, hz1, hz2⟩ := info_parts Tryz.info2
  cases a with
  | none =>
    have hpure : ∀ (w : World), Sem.run Tryz.prog (pure #[] : Sem (Array Value)) w = .ok #[] w := fun _ => rfl
    go_enter Tryz.func9, Tryz.ntmps9
    go_wp2_with (at_builtin; refine wpList_append_own _ rfl _ _ 22 rfl w.heap.size 2 i0 (.int .i64 0) 1 8 Tryz.underlying22 hi hz0 hz1 hz2 rfl (by decide) _ _ _ rfl (World.ownsRow_nil _ _ _ _) ⟨w.heap.size, 0, none⟩ 1 1 [.int .i64 7777] rfl rfl (cell_one_new2 _ _) (by simp [Value.oneCell']) (by unfold maxLen; omega) (by omega) (by simp; try omega) ?_; intro v2 w2 hown2 hgrow2 _; simp only [Nat.zero_add, List.nil_append] at hown2; obtain ⟨g', cap', rfl⟩ := ownsRow_succ hown2; obtain ⟨hq1, hq2⟩ := own_caps1 hown2)
    go_ret
    refine ⟨g', cap', rfl, hq1, by unfold maxLen; omega, RowI.appended (ds := []) rfl hown2, ?_⟩
    exact ((Below.refl _ w).alloc (Nat.le_refl _) _).grown hgrow2 (by simp) (fun k e => by cases e)
  | some ad =>
    go_enter Tryz.func9, Tryz.ntmps9
    go_wp2_with (first | (at_builtin; refine wpList_append_own _ rfl _ _ 22 rfl w.heap.size 2 i0 (.int .i64 0) 1 8 Tryz.underlying22 hi hz0 hz1 hz2 rfl (by decide) _ _ _ rfl (World.ownsRow_nil _ _ _ _) ad 0 cap [] rfl rfl (fun j u h => by simp at h) (fun u h => by simp at h) (by unfold maxLen; omega) (by omega) (Nat.le_refl _) ?_; intro v1 w1 hown1 hgrow1 hnil; have hv1 := hnil.2 ⟨rfl, rfl⟩; subst hv1; have hs1 := hgrow1.size) | (at_builtin; refine wpList_append_own _ rfl _ _ 22 rfl w.heap.size 2 i0 (.int .i64 0) 1 8 Tryz.underlying22 hi hz0 hz1 hz2 rfl (by decide) _ _ _ rfl (World.ownsRow_nil _ _ _ _) ⟨w1.heap.size, 0, none⟩ 1 1 [.int .i64 7777] rfl rfl (cell_one_new2 _ _) (by simp [Value.oneCell']) (by unfold maxLen; omega) (by omega) (by simp; try omega) ?_; intro v2 w2 hown2 hgrow2 _; simp only [Nat.zero_add, List.nil_append] at hown2; obtain ⟨g', cap', rfl⟩ := ownsRow_succ hown2; obtain ⟨hq1, hq2⟩ := own_caps1 hown2))
    go_ret
    refine ⟨g', cap', rfl, hq1, by unfold maxLen; omega, RowI.appended (ds := []) rfl hown2, ?_⟩
    have hb1 : Below w.heap.size w w1 := (Below.refl _ w).grown hgrow1 (Nat.le_refl _) (fun k e => by cases e)
    exact (hb1.alloc hs1 _).grown hgrow2 (by simp; omega) (fun k e => by cases e)

theorem lentI_any (s : Value) (ds : List Int) (w : World) (h : Si w s ds) (hr : ds.length * 8 ≤ 140737488351232) :
    Calls Tryz.prog 9 #[s] w fun e w' => ∃ g c, e = .returned (.slice (some ⟨g, 0, none⟩) ds.length c) ∧ ds.length + 1 ≤ c ∧ c ≤ maxLen ∧ RowI w' w.heap.size (.slice (some ⟨g, 0, none⟩) (ds.length + 1) c) (ds ++ [7777]) ∧ Below w.heap.size w w' := by
  obtain ⟨a, cap, rfl, hc⟩ := h
  rcases Nat.eq_zero_or_pos ds.length with h0 | h0
  · obtain rfl := List.eq_nil_of_length_eq_zero h0
    exact lentI_none a cap w
  · obtain ⟨b, off, rfl, hlt, hcell⟩ := hc h0
    exact lentI_some b off cap ds w h0 hlt hr hcell
set_option maxHeartbeats 400000 in
theorem sameI_any (s1 s2 : Value) (ds : List Int) (w : World) (h1 : Si w s1 ds) (h2 : Si w s2 ds) (hr : ds.length * 8 ≤ 140737488351232) :
    Calls Tryz.prog 14 #[s1, s2] w fun e w' => e = .returned (.bool true) ∧ ∃ nq, w' = w.drewN nq := by
  obtain ⟨a1, c1, rfl, hc1⟩ := h1
  obtain ⟨a2, c2, rfl, hc2⟩ := h2
  go_enter Tryz.func14, Tryz.ntmps14
  go_wp2
  go_loopw [5] (fun i wr => ∃ k : Nat, k ≤ ds.length ∧ i = .int .i64 (k : Int) ∧ ∃ nq, wr = w.drewN nq) (fun i _ => ds.length - (intOf i).toNat)
  case atStart => exact ⟨0, Nat.zero_le _, rfl, 0, rfl⟩
  case round =>
    obtain ⟨k, hk, rfl, nq0, rfl⟩ := hrel
    by_cases hlt : k < ds.length
    · obtain ⟨b1, o1, rfl, _, hcell1⟩ := hc1 (by omega)
      obtain ⟨b2, o2, rfl, _, hcell2⟩ := hc2 (by omega)
      have x1 := hcell1 k hlt
      have x2 := hcell2 k hlt
      have kk : (k : Int) < (ds.length : Int) := by omega
      clear hcell1 hcell2 hc1 hc2
      generalize nth ds k = x at *
      go_wp2
      go_quiet (fail)
      go_wp2
      go_roundw
      case rel => exact ⟨k + 1, by omega, by go_num, _, rfl⟩
      case measure => simp [intOf]; omega
    · go_wp2
      go_ret
      exact ⟨rfl, _, rfl⟩

set_option maxRecDepth 100000 in
set_option maxHeartbeats 400000 in
theorem keptI_any (g c : Nat) (s2 : Value) (ds : List Int) (w : World) (h1 : RowI w 0 (.slice (some ⟨g, 0, none⟩) (ds.length + 1) c) (ds ++ [7777])) (hc : ds.length + 1 ≤ c) (hm : c ≤ maxLen) (h2 : Si w s2 ds) (hr : ds.length * 8 ≤ 140737488351232) :
    Calls Tryz.prog 31 #[.slice (some ⟨g, 0, none⟩) ds.length c, s2] w fun e w' => e = .returned (.bool true) ∧ ∃ nq, w' = w.drewN nq := by
  have hl : (ds ++ [7777]).length = ds.length + 1 := by simp
  obtain ⟨g', cap', e, _, hg, _, _, hcell⟩ := h1.at (j := ds.length) (by omega)
  simp only [Value.slice.injEq, Option.some.injEq, Addr.mk.injEq] at e
  obtain ⟨⟨rfl, _⟩, _, rfl⟩ := e
  have hs1 : Si w (.slice (some ⟨g, 0, none⟩) ds.length c) ds := ⟨some ⟨g, 0, none⟩, c, rfl, fun _ => ⟨g, 0, rfl, hg, fun i hi => by
    have := hcell i (by omega)
    rw [List.getElem?_append_left hi] at this
    rw [Nat.zero_add]; exact this⟩⟩
  have hlast : w.cell? ⟨g, ds.length, none⟩ = some (.int .i64 7777) := by
    have := hcell ds.length (by omega)
    rw [List.getElem?_append_right (Nat.le_refl _)] at this
    simpa using this
  have hsame := sameI_any _ s2 ds w hs1 h2 hr
  obtain ⟨a2, c2, rfl, _⟩ := h2
  unfold maxLen at hm
  have HS : Hid (Calls _ _ _ _ _) := hsame
  obtain ⟨n1, hn1⟩ : ∃ n1, ds.length + 1 = n1 := ⟨_, rfl⟩
  have hsl : ∀ W, (Instr.slice 22 (.slice (some ⟨g, 0, none⟩) ds.length c) none (some (.int .i64 ((ds.length : Int) + 1))) none).run Tryz.prog W = .ok (.slice (some ⟨g, 0, none⟩) n1 c) W := by
    intro W
    have e : ((ds.length : Int) + 1) = (n1 : Int) := by omega
    have h0 : (0 : Int) ≤ (n1 : Int) := by omega
    have h1 : (n1 : Int) ≤ (c : Int) := by omega
    rw [e]
    simp [Instr.slice, run_underlying Tryz.underlying22, Instr.sliceBounds, run_sliceBound _ _ _ _ h0 h1, go_sem]
    intro h; omega
  have hi1 : (ds.length : Int) < (n1 : Int) := by omega
  clear hsame hcell hs1 h1 hl hn1 hc
  go_enter Tryz.func31, Tryz.ntmps31
  go_wp2_with fail
  refine HS.out.mono ?_
  rintro e w' ⟨rfl, nq, rfl⟩
  go_wp2
  go_ret
  exact ⟨rfl, _, rfl⟩

/-- A slice whose elements can be written, in a block from B on. -/
def Wrt (w : World) (B : Nat) (s : Value) : Prop := ∃ a n c, s = .slice a n c ∧ (0 < n → ∃ g off cur t, a = some ⟨g, off, none⟩ ∧ B ≤ g ∧ w.heap[g]? = some (.cells cur t (0, 0)) ∧ off + n ≤ cur.size)
theorem own_wrt {w : World} {B : Nat} {s : Value} {l : List Int} (h : w.ownsRow B 2 1 s l.length (intv l)) : Wrt w B s := by
  rcases h.2 with ⟨e, e0⟩ | ⟨g, cap, cur, e, hB, hg, hc, _, hs, _⟩
  · exact ⟨_, _, _, e, fun h0 => absurd h0 (by omega)⟩
  · exact ⟨_, _, _, e, fun h0 => ⟨g, 0, cur, 2, rfl, hB, hg, by omega⟩⟩
theorem fresh_wrt {w : World} {B : Nat} {s : Value} {l : List Int} (h : Fresh B w s l) : Wrt w B s := by
  obtain ⟨A, off, cap, cur, t, e, hB, hA, hh, hc⟩ := h
  refine ⟨_, _, _, e, fun h0 => ⟨A, off, cur, t, rfl, hB, hh, ?_⟩⟩
  have := (Array.getElem?_eq_some_iff.1 (hc (l.length - 1) (by omega))).1
  omega
theorem Wrt.below {w w' : World} {B : Nat} {s : Value} (h : Wrt w B s) (hb : Below w.heap.size w w') : Wrt w' B s := by
  obtain ⟨a, n, c, e, hc⟩ := h
  refine ⟨a, n, c, e, fun h0 => ?_⟩
  obtain ⟨g, off, cur, t, e1, hB, hg, hs⟩ := hc h0
  exact ⟨g, off, cur, t, e1, hB, (hb.block g (Array.getElem?_eq_some_iff.1 hg).1).trans hg, hs⟩
theorem Wrt.set {w : World} {B : Nat} {s : Value} (h : Wrt w B s) (g' o' : Nat) (v : Value) : Wrt (w.setCell ⟨g', o', none⟩ v) B s := by
  obtain ⟨a, n, c, e, hc⟩ := h
  refine ⟨a, n, c, e, fun h0 => ?_⟩
  obtain ⟨g, off, cur, t, e1, hB, hg, hs⟩ := hc h0
  rw [Sort.setCell_eq]
  unfold Sort.mapBlock
  by_cases hk : g' = g
  · subst hk
    exact ⟨g', off, cur.setIfInBounds o' v, t, e1, hB, by simp only [Array.getElem?_modify, if_true, hg]; rfl, by simpa using hs⟩
  · exact ⟨g, off, cur, t, e1, hB, by simp only [Array.getElem?_modify, if_neg hk]; exact hg, hs⟩
theorem below_set {B : Nat} {w w' : World} (h : Below B w w') (g o : Nat) (hg : B ≤ g) (v : Value) : Below B w (w'.setCell ⟨g, o, none⟩ v) :=
  h.trans ⟨rfl, rfl, rfl, by rw [Sort.setCell_eq]; simp [Sort.mapBlock], fun k hk => by rw [Sort.setCell_eq]; unfold Sort.mapBlock; simp only [Array.getElem?_modify, if_neg (show ¬ g = k by omega)]⟩
theorem Wrt.at {w : World} {B n c : Nat} {a : Option Addr} (h : Wrt w B (.slice a n c)) (i : Nat) (hi : i < n) : ∃ g off u, a = some ⟨g, off, none⟩ ∧ B ≤ g ∧ w.cell? ⟨g, off + i, none⟩ = some u ∧ w.frozen? ⟨g, off + i, none⟩ = false := by
  obtain ⟨a', n', c', e, hc⟩ := h
  injection e with e1 e2 e3
  subst e1 e2 e3
  obtain ⟨g, off, cur, t, e1, hB, hg, hs⟩ := hc (by omega)
  refine ⟨g, off, cur[off + i]'(by omega), e1, hB, ?_, ?_⟩
  · rw [cell_row hg]; exact Array.getElem?_eq_getElem _
  · simp [World.frozen?, hg]
/-- What a text is read as: how it ended, and the set. -/
def PF (b : List UInt8) (n : Int) (l : List Int) : Prop :=
  (65536 < b.length ∧ n = 3 ∧ l = []) ∨ (b.length ≤ 65536 ∧ b = [123, 125] ∧ n = 0 ∧ l = []) ∨
  (b.length ≤ 65536 ∧ b ≠ [123, 125] ∧ ((IsSet l ∧ 0 < l.length ∧ stx l = b ∧ n = 0) ∨ ((∀ l, IsSet l → 0 < l.length → stx l ≠ b) ∧ n = 20 ∧ l = [])))
theorem PF.one {b : List UInt8} {n m : Int} {l k : List Int} (h1 : PF b n l) (h2 : PF b m k) : m = n ∧ k = l := by
  rcases h1 with ⟨a, rfl, rfl⟩ | ⟨a, a2, rfl, rfl⟩ | ⟨a, a2, (⟨s1, s0, s2, rfl⟩ | ⟨s1, rfl, rfl⟩)⟩ <;> rcases h2 with ⟨c, rfl, rfl⟩ | ⟨c, c2, rfl, rfl⟩ | ⟨c, c2, (⟨t1, t0, t2, rfl⟩ | ⟨t1, rfl, rfl⟩)⟩ <;> first | exact ⟨rfl, rfl⟩ | (exfalso; omega) | exact absurd a2 c2 | exact absurd c2 a2 | exact absurd s2 (t1 _ s1 s0) | exact absurd t2 (s1 _ t1 t0) | skip
  exact ⟨rfl, stx_inj t1 s1 t0 s0 (t2.trans s2.symm)⟩
theorem PF.len {b : List UInt8} {n : Int} {l : List Int} (h : PF b n l) : l.length ≤ 64 := by
  rcases h with ⟨a, rfl, rfl⟩ | ⟨a, a2, rfl, rfl⟩ | ⟨a, a2, (⟨s1, s0, s2, rfl⟩ | ⟨s1, rfl, rfl⟩)⟩ <;> first | exact s1.1 | simp
theorem parsE_pf {b : List UInt8} {e : Ending} {B : Nat} {w : World} (h : ParsE b e B w) : ∃ p m c n l, e = .returned (.tuple #[.slice p m c, .int .i64 n]) ∧ Hid (Si w (.slice p m c) l) ∧ Hid (PF b n l) := by
  rcases h with ⟨a, rfl⟩ | ⟨a, a2, rfl⟩ | ⟨a, a2, (⟨l, v, s1, s0, s2, rfl, hr⟩ | ⟨s1, rfl⟩)⟩
  · exact ⟨_, _, _, _, [], rfl, Si.nil _, .inl ⟨a, rfl, rfl⟩⟩
  · exact ⟨_, _, _, _, [], rfl, Si.nil _, .inr (.inl ⟨a, a2, rfl, rfl⟩)⟩
  · have hs := own_si hr
    obtain ⟨p, c, rfl⟩ := own_slice hr
    exact ⟨_, _, _, _, l, rfl, hs, .inr (.inr ⟨a, a2, .inl ⟨s1, s0, s2, rfl⟩⟩)⟩
  · exact ⟨_, _, _, _, [], rfl, Si.nil _, .inr (.inr ⟨a, a2, .inr ⟨s1, rfl, rfl⟩⟩)⟩
end Go.Proofs.YtacnhkaibcjjgaaGreatDoor
