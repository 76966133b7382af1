/-
  What is proved here: what the reference's Lent, Same and Kept do with any slice of numbers, and what (wide).plus and the reference's Root return.
-/
import Derived.Test.YtfgpedleiajgeaaWi
import Derived.Test.YtfgpedleiajgeaaBa
import Derived.Laws.Externs
import Derived.Deep.QuietTactic
import Derived.BigQuiet
namespace Go.Proofs.Ytfgpedleiajgeaa
open Go.RowKit

/-- The slice value s has the numbers ds, wherever they lie. -/
def Sl (W : World) (s : Value) (ds : List Int) : Prop :=
  ∃ a cap, s = .slice a ds.length cap ∧ (0 < ds.length → ∃ b off, a = some ⟨b, off, none⟩ ∧ b < W.heap.size ∧ ∀ i, i < ds.length → W.cell? ⟨b, off + i, none⟩ = some (.int .i64 (ds[i]?.getD 0)))
theorem Sl.below {W W' : World} {s : Value} {ds : List Int} (h : Sl W s ds) (hb : Below W.heap.size W W') : Sl W' s ds := by
  obtain ⟨a, cap, e, hc⟩ := h
  refine ⟨a, cap, e, fun h0 => ?_⟩
  obtain ⟨b, off, e1, hlt, hcell⟩ := hc h0
  exact ⟨b, off, e1, Nat.lt_of_lt_of_le hlt hb.size, fun i hi => (hb.cell (p := ⟨b, off + i, none⟩) hlt).trans (hcell i hi)⟩

theorem Try.info2' : (Try.prog.info? 2).map (fun i => (i.zero, i.size, i.bytes)) = some (some (.int .i64 0), 1, 8) := by kernel_rfl

theorem own_caps {W : World} {base g n cap : Nat} {xs : List Value} (h : W.ownsRow base 2 1 (.slice (some ⟨g, 0, none⟩) n cap) n xs) : n ≤ cap ∧ cap ≤ 9223372036854775807 := by
  rcases h.2 with ⟨h1, _⟩ | ⟨g', cap', cur, e, _, _, hc, hm, _⟩
  · cases h1
  · injection e with _ _ e3; subst e3; unfold maxLen at hm; exact ⟨hc, by omega⟩

set_option maxHeartbeats 400000 in
theorem lent_some (b off cap : Nat) (ds : List Int) (w : World) (h0 : 0 < ds.length) (_hlt : b < w.heap.size) (hr : ds.length * 8 ≤ 140737488351232)
    (hcell : ∀ i, i < ds.length → w.cell? ⟨b, off + i, none⟩ = some (.int .i64 (ds[i]?.getD 0))) :
    Calls Try.prog 30 #[.slice (some ⟨b, off, none⟩) ds.length cap] w fun e w' => ∃ g c, e = .returned (.slice (some ⟨g, 0, none⟩) ds.length c) ∧ ds.length + 1 ≤ c ∧ c ≤ maxLen ∧ Row w' w.heap.size (.slice (some ⟨g, 0, none⟩) (ds.length + 1) c) (ds ++ [7777]) ∧ Below w.heap.size w w' := by
  obtain ⟨i0, hi, hz0, hz1, hz2⟩ := info_parts Try.info2'
  have hnews : ∀ j u, (ds.map (Value.int .i64))[j]? = some u → w.cell? ((⟨b, off, none⟩ : Addr).add j) = some u := by
    intro j u hj
    rw [List.getElem?_map] at hj
    obtain ⟨d, hd, rfl⟩ := Option.map_eq_some_iff.1 hj
    have hjl : j < ds.length := (List.getElem?_eq_some_iff.1 hd).1
    have := hcell j hjl
    rw [hd] at this
    by_cases hj0 : j = 0
    · subst hj0; simpa [Addr.add] using this
    · simpa [Addr.add, hj0] using this
  have h1c : ∀ u ∈ ds.map (Value.int .i64), u.oneCell' = true := by intro u hu; simp at hu; obtain ⟨d, _, rfl⟩ := hu; rfl
  have hl : (ds.map (Value.int .i64)).length = ds.length * 1 := by simp
  have hml : ds.length ≤ maxLen := by unfold maxLen; omega
  clear hcell
  go_enter Try.func30, Try.ntmps30
  go_wp2_with (first | (at_builtin; refine wpList_append_own _ rfl (.tmp 4) (.tmp 5) 28 rfl w.heap.size 2 i0 (.int .i64 0) 1 8 Try.underlying28 hi hz0 hz1 hz2 rfl (by decide) _ _ _ rfl (World.ownsRow_nil _ _ _ _) ⟨b, off, none⟩ ds.length cap (ds.map (Value.int .i64)) rfl hl hnews h1c (by omega) (by omega) (Nat.le_refl _) ?_; intro v1 w1 hown1 hgrow1 _; simp only [Nat.zero_add, List.nil_append] at hown1; have hs1 := hgrow1.size) | (at_builtin; refine wpList_append_own _ rfl (.tmp 7) (.tmp 8) 28 rfl w.heap.size 2 i0 (.int .i64 0) 1 8 Try.underlying28 hi hz0 hz1 hz2 rfl (by decide) _ _ _ rfl (World.ownsRow.alloc hown1 _) ⟨w1.heap.size, 0, none⟩ 1 1 [.int .i64 7777] rfl rfl (cell_one_new _ _ _) (by simp [Value.oneCell']) (by unfold maxLen; omega) (by omega) (by simp; omega) ?_; intro v2 w2 hown2 hgrow2 _; obtain ⟨g', cap', rfl⟩ := ownsRow_succ hown2; obtain ⟨hq1, hq2⟩ := own_caps hown2))
  go_ret
  refine ⟨g', cap', rfl, hq1, by unfold maxLen; omega, Row.appended rfl hown2, ?_⟩
  have hb1 : Below w.heap.size w w1 := (Below.refl _ w).grown hgrow1 (Nat.le_refl _) (fun k e => by cases e)
  exact (hb1.alloc hs1 _).grown hgrow2 (by simp; omega) (fun k e => (World.ownsRow.lt hown1 k e).1)

set_option maxHeartbeats 400000 in
theorem lent_none (a : Option Addr) (cap : Nat) (w : World) :
    Calls Try.prog 30 #[.slice a 0 cap] w fun e w' => ∃ g c, e = .returned (.slice (some ⟨g, 0, none⟩) 0 c) ∧ 1 ≤ c ∧ c ≤ maxLen ∧ Row w' w.heap.size (.slice (some ⟨g, 0, none⟩) 1 c) [7777] ∧ Below w.heap.size w w' := by
  obtain ⟨i0, hi, hz0, hz1, hz2⟩ := info_parts Try.info2'
  cases a with
  | none =>
    have hpure : ∀ (w : World), Sem.run Try.prog (pure #[] : Sem (Array Value)) w = .ok #[] w := fun _ => rfl
    go_enter Try.func30, Try.ntmps30
    go_wp2_with (at_builtin; refine wpList_append_own _ rfl (.tmp 7) (.tmp 8) 28 rfl w.heap.size 2 i0 (.int .i64 0) 1 8 Try.underlying28 hi hz0 hz1 hz2 rfl (by decide) _ _ _ rfl (World.ownsRow_nil _ _ _ _) ⟨w.heap.size, 0, none⟩ 1 1 [.int .i64 7777] rfl rfl (cell_one_new _ _ _) (by simp [Value.oneCell']) (by unfold maxLen; omega) (by omega) (by simp; try omega) ?_; intro v2 w2 hown2 hgrow2 _; simp only [Nat.zero_add, List.nil_append] at hown2; obtain ⟨g', cap', rfl⟩ := ownsRow_succ hown2; obtain ⟨hq1, hq2⟩ := own_caps hown2)
    go_ret
    refine ⟨g', cap', rfl, hq1, by unfold maxLen; omega, Row.appended (ds := []) rfl hown2, ?_⟩
    exact ((Below.refl _ w).alloc (Nat.le_refl _) _).grown hgrow2 (by simp) (fun k e => by cases e)
  | some ad =>
    go_enter Try.func30, Try.ntmps30
    go_wp2_with (first | (at_builtin; refine wpList_append_own _ rfl (.tmp 4) (.tmp 5) 28 rfl w.heap.size 2 i0 (.int .i64 0) 1 8 Try.underlying28 hi hz0 hz1 hz2 rfl (by decide) _ _ _ rfl (World.ownsRow_nil _ _ _ _) ad 0 cap [] rfl rfl (fun j u h => by simp at h) (fun u h => by simp at h) (by unfold maxLen; omega) (by omega) (Nat.le_refl _) ?_; intro v1 w1 hown1 hgrow1 hnil; have hv1 := hnil.2 ⟨rfl, rfl⟩; subst hv1; have hs1 := hgrow1.size) | (at_builtin; refine wpList_append_own _ rfl (.tmp 7) (.tmp 8) 28 rfl w.heap.size 2 i0 (.int .i64 0) 1 8 Try.underlying28 hi hz0 hz1 hz2 rfl (by decide) _ _ _ rfl (World.ownsRow_nil _ _ _ _) ⟨w1.heap.size, 0, none⟩ 1 1 [.int .i64 7777] rfl rfl (cell_one_new _ _ _) (by simp [Value.oneCell']) (by unfold maxLen; omega) (by omega) (by simp; try omega) ?_; intro v2 w2 hown2 hgrow2 _; simp only [Nat.zero_add, List.nil_append] at hown2; obtain ⟨g', cap', rfl⟩ := ownsRow_succ hown2; obtain ⟨hq1, hq2⟩ := own_caps hown2))
    go_ret
    refine ⟨g', cap', rfl, hq1, by unfold maxLen; omega, Row.appended (ds := []) rfl hown2, ?_⟩
    have hb1 : Below w.heap.size w w1 := (Below.refl _ w).grown hgrow1 (Nat.le_refl _) (fun k e => by cases e)
    exact (hb1.alloc hs1 _).grown hgrow2 (by simp; omega) (fun k e => by cases e)

theorem lent_any (s : Value) (ds : List Int) (w : World) (h : Sl w s ds) (hr : ds.length * 8 ≤ 140737488351232) :
    Calls Try.prog 30 #[s] w fun e w' => ∃ g c, e = .returned (.slice (some ⟨g, 0, none⟩) ds.length c) ∧ ds.length + 1 ≤ c ∧ c ≤ maxLen ∧ Row w' w.heap.size (.slice (some ⟨g, 0, none⟩) (ds.length + 1) c) (ds ++ [7777]) ∧ Below w.heap.size w w' := by
  obtain ⟨a, cap, rfl, hc⟩ := h
  rcases Nat.eq_zero_or_pos ds.length with h0 | h0
  · obtain rfl := List.eq_nil_of_length_eq_zero h0
    exact lent_none a cap w
  · obtain ⟨b, off, rfl, hlt, hcell⟩ := hc h0
    exact lent_some b off cap ds w h0 hlt hr hcell
end Go.Proofs.Ytfgpedleiajgeaa
