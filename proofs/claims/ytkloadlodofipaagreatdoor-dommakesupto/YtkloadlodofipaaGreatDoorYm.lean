/-
  What is proved here: what the reference's Alike tells of slices with the same ranges; what its Lent makes.
-/
import Derived.Test.YtkloadlodofipaaGreatDoorYd
namespace Go.Proofs.YtkloadlodofipaaGreatDoor
open Go.RowKit Go.Shelf

theorem Sr.drawn {W : World} {s : Value} {l : List Rg} (h : Sr W s l) (n : Nat) : Sr (W.drewN n) s l := h
set_option maxHeartbeats 1000000 in
theorem alikeR_same (s1 s2 : Value) (l : List Rg) (w : World) (h1 : Sr w s1 l) (h2 : Sr w s2 l) (hr : l.length * 16 ≤ 140737488351232) :
    Calls Tryz.prog 16 #[s1, s2] w fun e w' => e = .returned (.bool true) ∧ ∃ nq, w' = w.drewN nq := by
  obtain ⟨a1, c1, rfl, hc1⟩ := h1
  obtain ⟨a2, c2, rfl, hc2⟩ := h2
  obtain ⟨n, hn⟩ : ∃ n, l.length = n := ⟨_, rfl⟩
  rw [hn] at hc1 hc2 hr ⊢
  clear hn
  go_enter Tryz.func16, Tryz.ntmps16
  go_wp2
  go_loopw [5] (fun i wr => ∃ k : Nat, k ≤ n ∧ i = .int .i64 (k : Int) ∧ ∃ nq, wr = w.drewN nq) (fun i _ => n - (intOf i).toNat)
  case atStart => exact ⟨0, Nat.zero_le _, rfl, 0, rfl⟩
  case round =>
    obtain ⟨k, hk, rfl, nq0, rfl⟩ := hrel
    by_cases hlt : k < n
    · obtain ⟨b1, o1, rfl, _, hcell1⟩ := hc1 (by omega)
      obtain ⟨b2, o2, rfl, _, hcell2⟩ := hc2 (by omega)
      obtain ⟨x1, y1⟩ := hcell1 k hlt
      obtain ⟨x2, y2⟩ := hcell2 k hlt
      have kk : (k : Int) < (n : Int) := by omega
      clear hcell1 hcell2 hc1 hc2
      generalize lo l k = x at *
      generalize hi l k = y at *
      go_wp2
      go_quiet (fail)
      go_wp2
      go_roundw
      case rel => exact ⟨k + 1, by omega, by go_num, _, rfl⟩
      case measure => simp [intOf]; omega
    · go_wp2
      go_ret
      exact ⟨rfl, _, rfl⟩
theorem own_capsR {W : World} {base g n cap : Nat} {xs : List Value} (h : W.ownsRow base 55 2 (.slice (some ⟨g, 0, none⟩) n cap) n xs) : n ≤ cap ∧ cap ≤ 9223372036854775807 := by
  rcases h.2 with ⟨h1, _⟩ | ⟨g', cap', cur, e, _, _, hc, hm, _⟩
  · cases h1
  · injection e with _ _ e3; subst e3; unfold maxLen at hm; exact ⟨hc, by omega⟩
set_option maxRecDepth 100000 in
set_option maxHeartbeats 1000000 in
theorem lentR_some (b off cap : Nat) (l : List Rg) (w : World) (hr : l.length * 16 ≤ 140737488351232)
    (hcell : ∀ i, i < l.length → w.cell? ⟨b, off + i * 2, none⟩ = some (.int .i64 (lo l i)) ∧ w.cell? ⟨b, off + i * 2 + 1, none⟩ = some (.int .i64 (hi l i))) :
    Calls Tryz.prog 9 #[.slice (some ⟨b, off, none⟩) l.length cap] w fun e w' => ∃ g c, e = .returned (.slice (some ⟨g, 0, none⟩) l.length c) ∧ l.length + 1 ≤ c ∧ c ≤ 9223372036854775807 ∧ w'.ownsRow w.heap.size 55 2 (.slice (some ⟨g, 0, none⟩) (l.length + 1) c) (l.length + 1) (flat l ++ [.int .i64 77, .int .i64 7]) ∧ Below w.heap.size w w' := by
  obtain ⟨i0, hi0, hz0, hz1, hz2⟩ := info_parts Tryz.info55
  have hnews : ∀ j u, (flat l)[j]? = some u → w.cell? ((⟨b, off, none⟩ : Addr).add j) = some u := by
    intro j u hj
    rw [Addr.add_lit]
    have hjl : j < l.length * 2 := by rw [← flat_length]; exact (List.getElem?_eq_some_iff.1 hj).1
    obtain ⟨e1, e2⟩ := flat_even l (j / 2) (by omega)
    obtain ⟨c1, c2⟩ := hcell (j / 2) (by omega)
    rcases Nat.mod_two_eq_zero_or_one j with hm | hm
    · rw [show j / 2 * 2 = j from by omega] at e1 c1
      rw [e1] at hj; injection hj with hj; subst hj
      exact c1
    · rw [show j / 2 * 2 + 1 = j from by omega] at e2
      rw [show off + j / 2 * 2 + 1 = off + j from by omega] at c2
      rw [e2] at hj; injection hj with hj; subst hj
      exact c2
  have h1c : ∀ u ∈ flat l, u.oneCell' = true := by
    intro u hu
    unfold flat at hu
    rw [List.mem_flatMap] at hu
    obtain ⟨r, _, hu⟩ := hu
    simp at hu
    rcases hu with rfl | rfl <;> rfl
  have hl : (flat l).length = l.length * 2 := flat_length l
  clear hcell
  obtain ⟨n, hn⟩ : ∃ n, l.length = n := ⟨_, rfl⟩
  obtain ⟨fl, hfl⟩ : ∃ fl, flat l = fl := ⟨_, rfl⟩
  rw [hfl] at hnews h1c hl ⊢
  rw [hn] at hl hr ⊢
  have hml : n ≤ maxLen := by unfold maxLen; omega
  clear hn hfl
  go_enter Tryz.func9, Tryz.ntmps9
  go_wp2_with (first | (at_builtin; refine wpList_append_own _ rfl (.tmp 4) (.tmp 5) 23 rfl w.heap.size 55 i0 (.agg #[.int .i64 0, .int .i64 0]) 2 16 Tryz.underlying23 hi0 hz0 hz1 hz2 rfl (by decide) _ _ _ rfl (World.ownsRow_nil _ _ _ _) ⟨b, off, none⟩ n cap fl rfl hl hnews h1c (by omega) (by omega) (Nat.le_refl _) ?_; intro v1 w1 hown1 hgrow1 _; simp only [Nat.zero_add, List.nil_append] at hown1; have hs1 := hgrow1.size) | (at_builtin; refine wpList_append_own _ rfl _ _ 23 rfl w.heap.size 55 i0 (.agg #[.int .i64 0, .int .i64 0]) 2 16 Tryz.underlying23 hi0 hz0 hz1 hz2 rfl (by decide) _ _ _ rfl (World.ownsRow.alloc hown1 _) ⟨w1.heap.size, 0, none⟩ 1 1 [.int .i64 77, .int .i64 7] rfl rfl (cell_two_new _ _ _ _) (by simp [Value.oneCell']) (by unfold maxLen; omega) (by omega) (by simp; omega) ?_; intro v2 w2 hown2 hgrow2 _; obtain ⟨g', cap', rfl⟩ := ownsRow_succ hown2; obtain ⟨hq1, hq2⟩ := own_capsR hown2))
  go_ret
  refine ⟨g', cap', rfl, hq1, hq2, hown2, ?_⟩
  have hb1 : Below w.heap.size w w1 := (Below.refl _ w).grown hgrow1 (Nat.le_refl _) (fun k e => by cases e)
  exact (hb1.alloc hs1 _).grown hgrow2 (by simp; omega) (fun k e => (World.ownsRow.lt hown1 k e).1)
set_option maxRecDepth 100000 in
set_option maxHeartbeats 1000000 in
theorem lentR_none (cap : Nat) (w : World) :
    Calls Tryz.prog 9 #[.slice none 0 cap] w fun e w' => ∃ g c, e = .returned (.slice (some ⟨g, 0, none⟩) 0 c) ∧ 1 ≤ c ∧ c ≤ 9223372036854775807 ∧ w'.ownsRow w.heap.size 55 2 (.slice (some ⟨g, 0, none⟩) 1 c) 1 [.int .i64 77, .int .i64 7] ∧ Below w.heap.size w w' := by
  obtain ⟨i0, hi0, hz0, hz1, hz2⟩ := info_parts Tryz.info55
  have hpure : ∀ (w : World), Sem.run Tryz.prog (pure #[] : Sem (Array Value)) w = .ok #[] w := fun _ => rfl
  go_enter Tryz.func9, Tryz.ntmps9
  go_wp2_with (at_builtin; refine wpList_append_own _ rfl _ _ 23 rfl w.heap.size 55 i0 (.agg #[.int .i64 0, .int .i64 0]) 2 16 Tryz.underlying23 hi0 hz0 hz1 hz2 rfl (by decide) _ _ _ rfl (World.ownsRow_nil _ _ _ _) ⟨w.heap.size, 0, none⟩ 1 1 [.int .i64 77, .int .i64 7] rfl rfl (cell_two_new _ _ _ _) (by simp [Value.oneCell']) (by unfold maxLen; omega) (by omega) (by simp; try omega) ?_; intro v2 w2 hown2 hgrow2 _; simp only [Nat.zero_add, List.nil_append] at hown2; obtain ⟨g', cap', rfl⟩ := ownsRow_succ hown2; obtain ⟨hq1, hq2⟩ := own_capsR hown2)
  go_ret
  refine ⟨g', cap', rfl, hq1, hq2, hown2, ?_⟩
  exact ((Below.refl _ w).alloc (Nat.le_refl _) _).grown hgrow2 (by simp) (fun k e => by cases e)
end Go.Proofs.YtkloadlodofipaaGreatDoor
