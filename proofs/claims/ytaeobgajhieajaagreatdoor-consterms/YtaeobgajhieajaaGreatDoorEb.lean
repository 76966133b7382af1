/-
  What is proved here: a set in memory that can be written; Lent, Kept.
-/
import Derived.Test.YtaeobgajhieajaaGreatDoorEa
import Derived.Test.YtaeobgajhieajaaGreatDoorDe
import Derived.Maps.AppendAt
import Derived.Sort.Row
namespace Go.Proofs.YtaeobgajhieajaaGreatDoor
open Go.RowKit Go.Shelf
set_option linter.unusedVariables false
set_option linter.unusedSimpArgs false

/-- A slice whose elements can be written, in a block from B on. -/
def Wrt (w : World) (B : Nat) (s : Value) : Prop := ∃ a n c, s = .slice a n c ∧ (0 < n → ∃ g off cur t, a = some ⟨g, off, none⟩ ∧ B ≤ g ∧ w.heap[g]? = some (.cells cur t (0, 0)) ∧ off + n ≤ cur.size)
theorem own_wrt {w : World} {B : Nat} {s : Value} {l : List Int} (h : w.ownsRow B 2 1 s l.length (intv l)) : Wrt w B s := by
  rcases h.2 with ⟨e, e0⟩ | ⟨g, cap, cur, e, hB, hg, hc, _, hs, _⟩
  · exact ⟨_, _, _, e, fun h0 => absurd h0 (by omega)⟩
  · exact ⟨_, _, _, e, fun h0 => ⟨g, 0, cur, 2, rfl, hB, hg, by omega⟩⟩
theorem Wrt.below {w w' : World} {B : Nat} {s : Value} (h : Wrt w B s) (hb : Below w.heap.size w w') : Wrt w' B s := by
  obtain ⟨a, n, c, e, hc⟩ := h
  refine ⟨a, n, c, e, fun h0 => ?_⟩
  obtain ⟨g, off, cur, t, e1, hB, hg, hs⟩ := hc h0
  exact ⟨g, off, cur, t, e1, hB, (hb.block g (Array.getElem?_eq_some_iff.1 hg).1).trans hg, hs⟩
theorem Wrt.set {w : World} {B : Nat} {s : Value} (h : Wrt w B s) (g' o' : Nat) (v : Value) : Wrt (w.setCell ⟨g', o', none⟩ v) B s := by
  obtain ⟨a, n, c, e, hc⟩ := h
  refine ⟨a, n, c, e, fun h0 => ?_⟩
  obtain ⟨g, off, cur, t, e1, hB, hg, hs⟩ := hc h0
  rw [Sort.setCell_eq]
  unfold Sort.mapBlock
  by_cases hk : g' = g
  · subst hk
    exact ⟨g', off, cur.setIfInBounds o' v, t, e1, hB, by simp only [Array.getElem?_modify, if_true, hg]; rfl, by simpa using hs⟩
  · exact ⟨g, off, cur, t, e1, hB, by simp only [Array.getElem?_modify, if_neg hk]; exact hg, hs⟩
theorem Wrt.lower {w : World} {B B' : Nat} {s : Value} (h : Wrt w B s) (hb : B' ≤ B) : Wrt w B' s := by
  obtain ⟨a, n, c, e, hc⟩ := h
  refine ⟨a, n, c, e, fun h0 => ?_⟩
  obtain ⟨g, off, cur, t, e1, hB, hg, hs⟩ := hc h0
  exact ⟨g, off, cur, t, e1, Nat.le_trans hb hB, hg, hs⟩
theorem Wrt.at {w : World} {B n c : Nat} {a : Option Addr} (h : Wrt w B (.slice a n c)) (i : Nat) (hi : i < n) : ∃ g off u, a = some ⟨g, off, none⟩ ∧ B ≤ g ∧ g < w.heap.size ∧ w.cell? ⟨g, off + i, none⟩ = some u ∧ w.frozen? ⟨g, off + i, none⟩ = false := by
  obtain ⟨a', n', c', e, hc⟩ := h
  injection e with e1 e2 e3
  subst e1 e2 e3
  obtain ⟨g, off, cur, t, e1, hB, hg, hs⟩ := hc (by omega)
  refine ⟨g, off, cur[off + i]'(by omega), e1, hB, (Array.getElem?_eq_some_iff.1 hg).1, ?_, ?_⟩
  · rw [cell_row hg]; exact Array.getElem?_eq_getElem _
  · simp [World.frozen?, hg]
theorem clone59o {B : Nat} {W : World} {s : Value} {l : List Int} (h : Si B W s l) (hl : l.length ≤ 17592186043904) : Calls Tryz.prog 59 #[s] W fun e w' => ∃ v, e = .returned v ∧ w'.ownsRow W.heap.size 2 1 v l.length (intv l) ∧ Below W.heap.size W w' := by
  obtain ⟨a, c, rfl, h⟩ := h
  rcases Nat.eq_zero_or_pos l.length with h0 | h0
  · have : l = [] := List.length_eq_zero_iff.1 h0
    subst this
    exact clone0_59 a c W
  · obtain ⟨b, off, rfl, hB, hb, hc⟩ := h h0
    obtain ⟨i0, hi0, hz0, hz1, hz2⟩ := info_parts Tryz.info2
    refine (AnyE.slices_Clone Tryz.laysClone59 i0 _ 1 8 hi0 hz0 hz1 hz2 rfl (by omega) Tryz.sizeOf2 b off l.length c (intv l) W (by simp [intv]) (by unfold maxLen; omega) (by omega) ?_ ?_).mono fun e w' ⟨v, e1, e2, _, e3⟩ => ⟨v, e1, e2, e3⟩
    · intro j u hu
      simp only [intv, List.getElem?_map, Option.map_eq_some_iff] at hu
      obtain ⟨x, hx, rfl⟩ := hu
      exact hc j x hx
    · intro u hu
      simp only [intv, List.mem_map] at hu
      obtain ⟨x, _, rfl⟩ := hu
      rfl

set_option maxRecDepth 100000 in
set_option maxHeartbeats 4000000 in
theorem set_own {B : Nat} {W : World} {s : Value} {l : List Int} (h : Si B W s l) (hl : l.length ≤ 17592186043904) : Calls Tryz.prog 26 #[s] W fun e w' => ∃ a c, e = .returned (.agg #[.int .i64 (-1), .bool true, .int .i64 0, .slice a l.length c]) ∧ Si W.heap.size w' (.slice a l.length c) l ∧ Wrt w' W.heap.size (.slice a l.length c) ∧ Below W.heap.size W w' := by
  obtain ⟨a8, c8, rfl, h⟩ := h
  have H : Hid (Si B W (.slice a8 l.length c8) l) := ⟨a8, c8, rfl, h⟩
  clear h
  go_enter Tryz.func26, Tryz.ntmps26
  go_wp2_with fail
  have hbA : Below W.heap.size W (W.alloc (Obj.cells #[.int .i64 0, .bool false, .int .i64 0, .slice none 0 0] 46)) := (Below.refl _ W).alloc (Nat.le_refl _) _
  refine (clone59o (H.out.below hbA) hl).mono ?_
  rintro e w1 ⟨v, rfl, hown, hb⟩
  have hwr := own_wrt hown
  obtain ⟨a9, c9, rfl, hv⟩ := own_si hown
  have HV : Hid (Si (W.heap.size + 1) w1 (.slice a9 l.length c9) l) := ⟨a9, c9, rfl, by simpa using hv⟩
  have HW : Hid (Wrt w1 (W.heap.size + 1) (.slice a9 l.length c9)) := (by simpa using hwr : Wrt w1 (W.heap.size + 1) (.slice a9 l.length c9))
  clear hv hown hwr
  have k1 : Hid (Blk w1 W.heap.size #[.int .i64 0, .bool false, .int .i64 0, .slice none 0 0] 46) := (Blk.new W _ _).below hb
  have c0 : w1.cell? ⟨W.heap.size, 0, none⟩ = some (.int .i64 0) := k1.out.cell 0
  have c1 : w1.cell? ⟨W.heap.size, 1, none⟩ = some (.bool false) := k1.out.cell 1
  have c2 : w1.cell? ⟨W.heap.size, 2, none⟩ = some (.int .i64 0) := k1.out.cell 2
  have c3 : w1.cell? ⟨W.heap.size, 3, none⟩ = some (.slice none 0 0) := k1.out.cell 3
  have f0 := k1.out.frozen
  have hbW : Hid (Below W.heap.size W w1) := hbA.trans (hb.mono (by simp))
  clear hbA hb
  go_wp2
  exact ⟨rfl, _, results_cell_row (P := Tryz.prog) rfl _ _ W.heap.size 46 _ (0, 0) _ rfl ((((k1.out.set 0 _).set 1 _).set 2 _).set 3 _).h Tryz.underlying46 rfl (by kernel_rfl), _, _, rfl, ((((HV.out.set (by omega) _ _).set (by omega) _ _).set (by omega) _ _).set (by omega) _ _).lower (by omega), ((((HW.out.set _ _ _).set _ _ _).set _ _ _).set _ _ _).lower (by omega), hbW.out.trans (((((Below.refl _ w1).setCell (by simp) _).setCell (by simp) _).setCell (by simp) _).setCell (by simp) _)⟩
def RowI (W : World) (base : Nat) (s : Value) (ds : List Int) : Prop := W.ownsRow base 2 1 s ds.length (ds.map (Value.int .i64))
theorem RowI.at {W : World} {base : Nat} {s : Value} {ds : List Int} (h : RowI W base s ds) {j : Nat} (hj : j < ds.length) :
    ∃ g cap, s = .slice (some ⟨g, 0, none⟩) ds.length cap ∧ base ≤ g ∧ g < W.heap.size ∧ ds.length ≤ cap ∧ cap ≤ maxLen ∧ ∀ (i : Nat) (x : Int), ds[i]? = some x → W.cell? ⟨g, i, none⟩ = some (.int .i64 x) := by
  rcases h.2 with ⟨h1, h2⟩ | ⟨g, cap, cur, e, hg, hh, hc, hm, _⟩
  · omega
  · refine ⟨g, cap, e, hg, (Array.getElem?_eq_some_iff.1 hh).1, hc, hm, fun i x hx => ?_⟩
    have := World.ownsRow.cells h (g := g) (by rw [e]; rfl) i (.int .i64 x) (by simp [hx])
    by_cases h0 : i = 0
    · subst h0; simpa [Addr.add] using this
    · simpa [Addr.add, h0] using this
theorem RowI.appended {w1 : World} {base : Nat} {v' : Value} {ds : List Int} {d : Int} {n : Nat} (hn : n = ds.length + 1) (h : w1.ownsRow base 2 1 v' n (ds.map (Value.int .i64) ++ [.int .i64 d])) : RowI w1 base v' (ds ++ [d]) := by
  subst hn; unfold RowI; simpa using h
theorem own_caps1 {W : World} {base g n cap : Nat} {xs : List Value} (h : W.ownsRow base 2 1 (.slice (some ⟨g, 0, none⟩) n cap) n xs) : n ≤ cap ∧ cap ≤ 9223372036854775807 := by
  rcases h.2 with ⟨h1, _⟩ | ⟨g', cap', cur, e, _, _, hc, hm, _⟩
  · cases h1
  · injection e with _ _ e3; subst e3; unfold maxLen at hm; exact ⟨hc, by omega⟩
theorem cell_one_new2 (w : World) (v : Value) : ∀ (j : Nat) (u : Value), [v][j]? = some u → (w.alloc (.cells #[v] 2)).cell? ((⟨w.heap.size, 0, none⟩ : Addr).add j) = some u := by
  intro j u hu
  match j, hu with
  | 0, hu => simp at hu; subst hu; exact (Blk.new w #[v] 2).cell 0
theorem ownsRow_succ {w : World} {base n : Nat} {v : Value} {xs : List Value} (h : w.ownsRow base 2 1 v (n + 1) xs) : ∃ g cap, v = .slice (some ⟨g, 0, none⟩) (n + 1) cap := by
  rcases h.2 with ⟨_, h0⟩ | ⟨g, cap, cur, e, _⟩
  · omega
  · exact ⟨g, cap, e⟩
set_option maxHeartbeats 400000 in
theorem lentI_some (b off cap : Nat) (ds : List Int) (w : World) (h0 : 0 < ds.length) (hlt : b < w.heap.size) (hr : ds.length * 8 ≤ 140737488351232)
    (hcell : ∀ (i : Nat) (x : Int), ds[i]? = some x → w.cell? ⟨b, off + i, none⟩ = some (.int .i64 x)) :
    Calls Tryz.prog 24 #[.slice (some ⟨b, off, none⟩) ds.length cap] w fun e w' => ∃ g c, e = .returned (.slice (some ⟨g, 0, none⟩) ds.length c) ∧ ds.length + 1 ≤ c ∧ c ≤ maxLen ∧ RowI w' w.heap.size (.slice (some ⟨g, 0, none⟩) (ds.length + 1) c) (ds ++ [7777]) ∧ Below w.heap.size w w' := by
  obtain ⟨i0, hi, hz0, hz1, hz2⟩ := info_parts Tryz.info2
  have hnews : ∀ j u, (ds.map (Value.int .i64))[j]? = some u → w.cell? ((⟨b, off, none⟩ : Addr).add j) = some u := by
    intro j u hj
    rw [List.getElem?_map] at hj
    obtain ⟨d, hd, rfl⟩ := Option.map_eq_some_iff.1 hj
    rw [Addr.add_lit]
    exact hcell j d hd
  have h1c : ∀ u ∈ ds.map (Value.int .i64), u.oneCell' = true := by intro u hu; simp at hu; obtain ⟨d, _, rfl⟩ := hu; rfl
  have hl : (ds.map (Value.int .i64)).length = ds.length * 1 := by simp
  have hml : ds.length ≤ maxLen := by unfold maxLen; omega
  clear hcell
  go_enter Tryz.func24, Tryz.ntmps24
  go_wp2_with (first | (at_builtin; refine wpList_append_own _ rfl _ _ 42 rfl w.heap.size 2 i0 (.int .i64 0) 1 8 Tryz.underlying42 hi hz0 hz1 hz2 rfl (by decide) _ _ _ rfl (World.ownsRow_nil _ _ _ _) ⟨b, off, none⟩ ds.length cap (ds.map (Value.int .i64)) rfl hl hnews h1c (by omega) (by omega) (Nat.le_refl _) ?_; intro v1 w1 hown1 hgrow1 _; simp only [Nat.zero_add, List.nil_append] at hown1; have hs1 := hgrow1.size) | (at_builtin; refine wpList_append_own _ rfl _ _ 42 rfl w.heap.size 2 i0 (.int .i64 0) 1 8 Tryz.underlying42 hi hz0 hz1 hz2 rfl (by decide) _ _ _ rfl (World.ownsRow.alloc hown1 _) ⟨w1.heap.size, 0, none⟩ 1 1 [.int .i64 7777] rfl rfl (cell_one_new2 _ _) (by simp [Value.oneCell']) (by unfold maxLen; omega) (by omega) (by simp; omega) ?_; intro v2 w2 hown2 hgrow2 _; obtain ⟨g', cap', rfl⟩ := ownsRow_succ hown2; obtain ⟨hq1, hq2⟩ := own_caps1 hown2))
  go_ret
  refine ⟨g', cap', rfl, hq1, by unfold maxLen; omega, RowI.appended rfl hown2, ?_⟩
  have hb1 : Below w.heap.size w w1 := (Below.refl _ w).grown hgrow1 (Nat.le_refl _) (fun k e => by cases e)
  exact (hb1.alloc hs1 _).grown hgrow2 (by simp; omega) (fun k e => (World.ownsRow.lt hown1 k e).1)
set_option maxHeartbeats 400000 in
theorem lentI_none (a : Option Addr) (cap : Nat) (w : World) :
    Calls Tryz.prog 24 #[.slice a 0 cap] w fun e w' => ∃ g c, e = .returned (.slice (some ⟨g, 0, none⟩) 0 c) ∧ 1 ≤ c ∧ c ≤ maxLen ∧ RowI w' w.heap.size (.slice (some ⟨g, 0, none⟩) 1 c) [7777] ∧ Below w.heap.size w w' := by
  obtain ⟨i0, hi, hz0, hz1, hz2⟩ := info_parts Tryz.info2
  cases a with
  | none =>
    have hpure : ∀ (w : World), Sem.run Tryz.prog (pure #[] : Sem (Array Value)) w = .ok #[] w := fun _ => rfl
    go_enter Tryz.func24, Tryz.ntmps24
    go_wp2_with (at_builtin; refine wpList_append_own _ rfl _ _ 42 rfl w.heap.size 2 i0 (.int .i64 0) 1 8 Tryz.underlying42 hi hz0 hz1 hz2 rfl (by decide) _ _ _ rfl (World.ownsRow_nil _ _ _ _) ⟨w.heap.size, 0, none⟩ 1 1 [.int .i64 7777] rfl rfl (cell_one_new2 _ _) (by simp [Value.oneCell']) (by unfold maxLen; omega) (by omega) (by simp; try omega) ?_; intro v2 w2 hown2 hgrow2 _; simp only [Nat.zero_add, List.nil_append] at hown2; obtain ⟨g', cap', rfl⟩ := ownsRow_succ hown2; obtain ⟨hq1, hq2⟩ := own_caps1 hown2)
    go_ret
    refine ⟨g', cap', rfl, hq1, by unfold maxLen; omega, RowI.appended (ds := []) rfl hown2, ?_⟩
    exact ((Below.refl _ w).alloc (Nat.le_refl _) _).grown hgrow2 (by simp) (fun k e => by cases e)
  | some ad =>
    go_enter Tryz.func24, Tryz.ntmps24
    go_wp2_with (first | (at_builtin; refine wpList_append_own _ rfl _ _ 42 rfl w.heap.size 2 i0 (.int .i64 0) 1 8 Tryz.underlying42 hi hz0 hz1 hz2 rfl (by decide) _ _ _ rfl (World.ownsRow_nil _ _ _ _) ad 0 cap [] rfl rfl (fun j u h => by simp at h) (fun u h => by simp at h) (by unfold maxLen; omega) (by omega) (Nat.le_refl _) ?_; intro v1 w1 hown1 hgrow1 hnil; have hv1 := hnil.2 ⟨rfl, rfl⟩; subst hv1; have hs1 := hgrow1.size) | (at_builtin; refine wpList_append_own _ rfl _ _ 42 rfl w.heap.size 2 i0 (.int .i64 0) 1 8 Tryz.underlying42 hi hz0 hz1 hz2 rfl (by decide) _ _ _ rfl (World.ownsRow_nil _ _ _ _) ⟨w1.heap.size, 0, none⟩ 1 1 [.int .i64 7777] rfl rfl (cell_one_new2 _ _) (by simp [Value.oneCell']) (by unfold maxLen; omega) (by omega) (by simp; try omega) ?_; intro v2 w2 hown2 hgrow2 _; simp only [Nat.zero_add, List.nil_append] at hown2; obtain ⟨g', cap', rfl⟩ := ownsRow_succ hown2; obtain ⟨hq1, hq2⟩ := own_caps1 hown2))
    go_ret
    refine ⟨g', cap', rfl, hq1, by unfold maxLen; omega, RowI.appended (ds := []) rfl hown2, ?_⟩
    have hb1 : Below w.heap.size w w1 := (Below.refl _ w).grown hgrow1 (Nat.le_refl _) (fun k e => by cases e)
    exact (hb1.alloc hs1 _).grown hgrow2 (by simp; omega) (fun k e => by cases e)
theorem lentI_any {B : Nat} (s : Value) (ds : List Int) (w : World) (h : Si B w s ds) (hr : ds.length * 8 ≤ 140737488351232) :
    Calls Tryz.prog 24 #[s] w fun e w' => ∃ g c, e = .returned (.slice (some ⟨g, 0, none⟩) ds.length c) ∧ ds.length + 1 ≤ c ∧ c ≤ maxLen ∧ RowI w' w.heap.size (.slice (some ⟨g, 0, none⟩) (ds.length + 1) c) (ds ++ [7777]) ∧ Below w.heap.size w w' := by
  obtain ⟨a, cap, rfl, hc⟩ := h
  rcases Nat.eq_zero_or_pos ds.length with h0 | h0
  · obtain rfl := List.eq_nil_of_length_eq_zero h0
    exact lentI_none a cap w
  · obtain ⟨b, off, rfl, _, hlt, hcell⟩ := hc h0
    exact lentI_some b off cap ds w h0 hlt hr hcell
/-- The mark behind lent numbers is there. -/
structure Lt (W : World) (g c : Nat) (ds : List Int) : Prop where
  lt : g < W.heap.size
  cs : ∀ (i : Nat) (x : Int), (ds ++ [7777])[i]? = some x → W.cell? ⟨g, i, none⟩ = some (.int .i64 x)
theorem RowI.lt {W : World} {base g c n : Nat} {ds : List Int} (h : RowI W base (.slice (some ⟨g, 0, none⟩) n c) (ds ++ [7777])) : Lt W g c ds ∧ base ≤ g := by
  obtain ⟨g', cap', e, hb, hg, _, _, hcell⟩ := h.at (j := ds.length) (by simp)
  simp only [Value.slice.injEq, Option.some.injEq, Addr.mk.injEq] at e
  obtain ⟨⟨rfl, _⟩, _, rfl⟩ := e
  exact ⟨⟨hg, hcell⟩, hb⟩
theorem Lt.below {W W' : World} {g c : Nat} {ds : List Int} (h : Lt W g c ds) {F : Nat} (hb : Below F W W') (hF : g < F) : Lt W' g c ds :=
  ⟨Nat.lt_of_lt_of_le h.lt hb.size, fun i x hx => (hb.cell (p := ⟨g, i, none⟩) hF).trans (h.cs i x hx)⟩
theorem Lt.si {W : World} {g c : Nat} {ds : List Int} (h : Lt W g c ds) : Si g W (.slice (some ⟨g, 0, none⟩) ds.length c) ds := ⟨_, _, rfl, fun _ => ⟨g, 0, rfl, Nat.le_refl _, h.lt, fun i x hx => by
  rw [Nat.zero_add]
  exact h.cs i x (by rw [List.getElem?_append_left (List.getElem?_eq_some_iff.1 hx).1]; exact hx)⟩⟩

set_option maxRecDepth 100000 in
set_option maxHeartbeats 4000000 in
theorem keptI_any {B : Nat} (g c : Nat) (s2 : Value) (ds : List Int) (w : World) (h1 : Lt w g c ds) (hc : ds.length + 1 ≤ c) (hm : c ≤ maxLen) (h2 : Si B w s2 ds) (hr : ds.length * 8 ≤ 140737488351232) :
    Calls Tryz.prog 35 #[.slice (some ⟨g, 0, none⟩) ds.length c, s2] w fun e w' => e = .returned (.bool true) ∧ Below w.heap.size w w' := by
  have hlast : w.cell? ⟨g, ds.length, none⟩ = some (.int .i64 7777) := h1.cs ds.length 7777 (by simp)
  have hsame := same61 h1.si h2 (by omega) (by omega)
  have hg := h1.lt
  rw [show decide (ds = ds) = true by simp] at hsame
  obtain ⟨a2, c2, rfl, _⟩ := h2
  unfold maxLen at hm
  have HS : Hid (Calls _ _ _ _ _) := hsame
  obtain ⟨n1, hn1⟩ : ∃ n1, ds.length + 1 = n1 := ⟨_, rfl⟩
  have hsl : ∀ W, (Instr.slice 42 (.slice (some ⟨g, 0, none⟩) ds.length c) none (some (.int .i64 ((ds.length : Int) + 1))) none).run Tryz.prog W = .ok (.slice (some ⟨g, 0, none⟩) n1 c) W := by
    intro W
    have e : ((ds.length : Int) + 1) = (n1 : Int) := by omega
    have h0 : (0 : Int) ≤ (n1 : Int) := by omega
    have h1 : (n1 : Int) ≤ (c : Int) := by omega
    rw [e]
    simp [Instr.slice, run_underlying Tryz.underlying42, Instr.sliceBounds, run_sliceBound _ _ _ _ h0 h1, go_sem]
    intro h; omega
  have hi1 : (ds.length : Int) < (n1 : Int) := by omega
  clear hsame h1 hn1 hc
  go_enter Tryz.func35, Tryz.ntmps35
  go_wp2_with fail
  refine HS.out.mono ?_
  rintro e w' ⟨rfl, hb⟩
  have y := (hb.cell (p := ⟨g, ds.length, none⟩) hg).trans hlast
  have HB : Hid _ := hb
  clear hb hlast
  go_wp2
  go_ret
  exact ⟨rfl, HB.out⟩
end Go.Proofs.YtaeobgajhieajaaGreatDoor
