/-
  What is proved here: what the reference's Lent and Kept do with any ranges.
-/
import Derived.Test.YtkloadlodofipaaGreatDoorYm
import Derived.Test.YtkloadlodofipaaGreatDoorYc
namespace Go.Proofs.YtkloadlodofipaaGreatDoor
open Go.RowKit Go.Shelf

set_option maxRecDepth 100000 in
set_option maxHeartbeats 1000000 in
theorem lentR_zero (ad : Addr) (cap : Nat) (w : World) :
    Calls Tryz.prog 9 #[.slice (some ad) 0 cap] w fun e w' => ∃ g c, e = .returned (.slice (some ⟨g, 0, none⟩) 0 c) ∧ 1 ≤ c ∧ c ≤ 9223372036854775807 ∧ w'.ownsRow w.heap.size 55 2 (.slice (some ⟨g, 0, none⟩) 1 c) 1 [.int .i64 77, .int .i64 7] ∧ Below w.heap.size w w' := by
  obtain ⟨i0, hi0, hz0, hz1, hz2⟩ := info_parts Tryz.info55
  go_enter Tryz.func9, Tryz.ntmps9
  go_wp2_with (first | (at_builtin; refine wpList_append_own _ rfl (.tmp 4) (.tmp 5) 23 rfl w.heap.size 55 i0 (.agg #[.int .i64 0, .int .i64 0]) 2 16 Tryz.underlying23 hi0 hz0 hz1 hz2 rfl (by decide) _ _ _ rfl (World.ownsRow_nil _ _ _ _) ad 0 cap [] rfl rfl (fun j u h => by simp at h) (fun u h => by simp at h) (by unfold maxLen; omega) (by omega) (Nat.le_refl _) ?_; intro v1 w1 hown1 hgrow1 hnil; have hv1 := hnil.2 ⟨rfl, rfl⟩; subst hv1; have hs1 := hgrow1.size) | (at_builtin; refine wpList_append_own _ rfl _ _ 23 rfl w.heap.size 55 i0 (.agg #[.int .i64 0, .int .i64 0]) 2 16 Tryz.underlying23 hi0 hz0 hz1 hz2 rfl (by decide) _ _ _ rfl (World.ownsRow_nil _ _ _ _) ⟨w1.heap.size, 0, none⟩ 1 1 [.int .i64 77, .int .i64 7] rfl rfl (cell_two_new _ _ _ _) (by simp [Value.oneCell']) (by unfold maxLen; omega) (by omega) (by simp; try omega) ?_; intro v2 w2 hown2 hgrow2 _; simp only [Nat.zero_add, List.nil_append] at hown2; obtain ⟨g', cap', rfl⟩ := ownsRow_succ hown2; obtain ⟨hq1, hq2⟩ := own_capsR hown2))
  go_ret
  refine ⟨g', cap', rfl, hq1, hq2, hown2, ?_⟩
  have hb1 : Below w.heap.size w w1 := (Below.refl _ w).grown hgrow1 (Nat.le_refl _) (fun k e => by cases e)
  exact (hb1.alloc hs1 _).grown hgrow2 (by simp; omega) (fun k e => by cases e)
theorem lentR_any (s : Value) (l : List Rg) (w : World) (h : Sr w s l) (hr : l.length * 16 ≤ 140737488351232) :
    Calls Tryz.prog 9 #[s] w fun e w' => ∃ g c, e = .returned (.slice (some ⟨g, 0, none⟩) l.length c) ∧ l.length + 1 ≤ c ∧ c ≤ 9223372036854775807 ∧ w'.ownsRow w.heap.size 55 2 (.slice (some ⟨g, 0, none⟩) (l.length + 1) c) (l.length + 1) (flat l ++ [.int .i64 77, .int .i64 7]) ∧ Below w.heap.size w w' := by
  obtain ⟨a, cap, rfl, hc⟩ := h
  rcases Nat.eq_zero_or_pos l.length with h0 | h0
  · obtain rfl := List.eq_nil_of_length_eq_zero h0
    cases a with
    | none => exact lentR_none cap w
    | some ad => exact lentR_zero ad cap w
  · obtain ⟨b, off, rfl, hlt, hcell⟩ := hc h0
    exact lentR_some b off cap l w hr hcell
theorem own_at {W : World} {base g n c : Nat} {xs : List Value} (h : W.ownsRow base 55 2 (.slice (some ⟨g, 0, none⟩) n c) n xs) (h0 : 0 < n) : g < W.heap.size ∧ ∀ j u, xs[j]? = some u → W.cell? ⟨g, j, none⟩ = some u := by
  obtain ⟨g', cap', e, _, h2, h3⟩ := own_some h h0
  injection e with e1 _ _; injection e1 with e1; injection e1 with e1; subst e1
  exact ⟨h2, h3⟩
theorem lent_sr {W : World} {base g c : Nat} {l : List Rg} (h : W.ownsRow base 55 2 (.slice (some ⟨g, 0, none⟩) (l.length + 1) c) (l.length + 1) (flat l ++ [.int .i64 77, .int .i64 7])) : Sr W (.slice (some ⟨g, 0, none⟩) l.length c) l := by
  obtain ⟨h2, h3⟩ := own_at h (by omega)
  refine ⟨_, c, rfl, fun _ => ⟨g, 0, rfl, h2, fun i hi => ?_⟩⟩
  obtain ⟨d1, d2⟩ := flat_even l i hi
  have hl := flat_length l
  exact ⟨by rw [Nat.zero_add]; exact h3 _ _ (by rw [List.getElem?_append_left (by omega)]; exact d1), by rw [Nat.zero_add]; exact h3 _ _ (by rw [List.getElem?_append_left (by omega)]; exact d2)⟩
set_option maxRecDepth 100000 in
set_option maxHeartbeats 1000000 in
theorem keptR_any (g c : Nat) (s2 : Value) (l : List Rg) (w : World) (h1 : w.ownsRow 0 55 2 (.slice (some ⟨g, 0, none⟩) (l.length + 1) c) (l.length + 1) (flat l ++ [.int .i64 77, .int .i64 7])) (hc : l.length + 1 ≤ c) (_hm : c ≤ 9223372036854775807) (h2 : Sr w s2 l) (hr : l.length * 16 ≤ 140737488351232) :
    Calls Tryz.prog 21 #[.slice (some ⟨g, 0, none⟩) l.length c, s2] w fun e w' => e = .returned (.bool true) ∧ Below w.heap.size w w' := by
  obtain ⟨hg, hcell⟩ := own_at h1 (by omega)
  have hl := flat_length l
  have hs1 := lent_sr h1
  have hx : w.cell? ⟨g, l.length * 2, none⟩ = some (.int .i64 77) := hcell _ _ (by rw [List.getElem?_append_right (by omega), hl]; simp)
  have hy : w.cell? ⟨g, l.length * 2 + 1, none⟩ = some (.int .i64 7) := hcell _ _ (by rw [List.getElem?_append_right (by omega), hl]; simp)
  have hsame := fun W' (hb : Below w.heap.size w W') => alikeR_same _ s2 l W' (hs1.below hb) (h2.below hb) hr
  obtain ⟨a2, c2, rfl, _⟩ := h2
  obtain ⟨n, hn⟩ : ∃ n, l.length = n := ⟨_, rfl⟩
  rw [hn] at hx hy hsame hc hr ⊢
  obtain ⟨n1, hn1⟩ : ∃ n1, n + 1 = n1 := ⟨_, rfl⟩
  have hsl : ∀ W, (Instr.slice 23 (.slice (some ⟨g, 0, none⟩) n c) none (some (.int .i64 ((n : Int) + 1))) none).run Tryz.prog W = .ok (.slice (some ⟨g, 0, none⟩) n1 c) W := by
    intro W
    have e : ((n : Int) + 1) = (n1 : Int) := by omega
    have h0 : (0 : Int) ≤ (n1 : Int) := by omega
    have h1 : (n1 : Int) ≤ (c : Int) := by omega
    rw [e]
    simp [Instr.slice, run_underlying Tryz.underlying23, Instr.sliceBounds, run_sliceBound _ _ _ _ h0 h1, go_sem]
    intro h; omega
  have hi1 : (n : Int) < (n1 : Int) := by omega
  have HS : Hid (∀ W', Below w.heap.size w W' → Calls Tryz.prog 16 #[.slice (some ⟨g, 0, none⟩) n c, .slice a2 n c2] W' fun e w' => e = .returned (.bool true) ∧ ∃ nq, w' = W'.drewN nq) := hsame
  clear hsame hcell hs1 h1 hl hn1 hc hn
  go_enter Tryz.func21, Tryz.ntmps21
  go_wp2_with fail
  refine (HS.out _ ((Below.refl _ w).alloc (Nat.le_refl _) _)).mono ?_
  rintro e w' ⟨rfl, nq, rfl⟩
  have hbe : Below w.heap.size w ((w.alloc (Obj.cells #[.int .i64 77, .int .i64 7] 55)).drewN nq) := below_drewN ((Below.refl _ w).alloc (Nat.le_refl _) _) _
  have m0 : (w.alloc (Obj.cells #[.int .i64 77, .int .i64 7] 55)).cell? ⟨w.heap.size, 0, none⟩ = some (.int .i64 77) := cell_two_new w _ _ 55 0 _ rfl
  have m1 : (w.alloc (Obj.cells #[.int .i64 77, .int .i64 7] 55)).cell? ⟨w.heap.size, 1, none⟩ = some (.int .i64 7) := cell_two_new w _ _ 55 1 _ rfl
  obtain ⟨W2, hW2⟩ : ∃ W2, w.alloc (Obj.cells #[.int .i64 77, .int .i64 7] 55) = W2 := ⟨_, rfl⟩
  rw [hW2] at hbe m0 m1 ⊢
  have HBE : Hid (Below w.heap.size w (W2.drewN nq)) := hbe
  clear hW2 hbe
  go_wp2
  go_ret
  exact ⟨rfl, HBE.out⟩
end Go.Proofs.YtkloadlodofipaaGreatDoor
