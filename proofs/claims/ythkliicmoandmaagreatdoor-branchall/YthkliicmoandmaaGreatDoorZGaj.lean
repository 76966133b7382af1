/-
  What is proved here: slices.Grow and slices.Concat of two slices of ranges, and dom.Either of any ranges.
  What is proved here: the algebra of ranges: both, either, less and not, as sets of values, and how many values they have (mathematics alone).
  What is proved here: joined of the reference, of any ranges with right ends (mathematics; append and slices of ranges). joined of the reference, of any ranges with right ends. Norm and Either of the reference, of any ranges. Taken, Cut, Not, Both, Either and Less of the reference, of any ranges.
  What is proved here: Both of the reference, of any ranges. Less of the reference, of any ranges. Alike of the reference and slices.Equal of any ranges, and Same and Within, of both, of any ranges. Within and Without of the reference, of any ranges.
  What is proved here: Without of the reference and of dom, of any ranges. dom.Without of any ranges, and what the reference's Spoil leaves.
-/
import Derived.Test.YthkliicmoandmaaGreatDoorZStj
import Derived.Test.YthkliicmoandmaaGreatDoorZEfj
import Derived.Lib.AppendZerosOnto
import Derived.WalkMore
import Derived.Maps.AppendAt
namespace Go.Proofs.YthkliicmoandmaaGreatDoor.Dm
set_option linter.unusedSimpArgs false
set_option linter.unusedVariables false
open Go.RowKit Go.Shelf
set_option linter.unusedVariables false

theorem run_app_none (w : World) (ty : TypeId) (base : Option Addr) (n c c' : Nat) (hle : n ≤ c) : (Builtin.append_ #[47, 47] ty #[.slice base n c, .slice none 0 c']).run Tryz.prog w = .ok (.slice base n c) w := by
  obtain ⟨i0, hi0, hz0, hz1, hz2⟩ := info_parts Tryz.info92
  have hf : (Builtin.firstCells i0.size 0 (.slice none 0 c')).run Tryz.prog w = .ok #[] w := by simp [Builtin.firstCells]
  cases base <;> simp [Builtin.append_, run_underlying Tryz.underlying47, sizeOf, typeInfo, hi0, Builtin.lenOf, hle, hf, storeCells]

theorem srcells {w : World} {b off : Nat} {l : List Rg} (hcell : ∀ i, i < l.length → w.cell? ⟨b, off + i * 2, none⟩ = some (.int .i64 (lo l i)) ∧ w.cell? ⟨b, off + i * 2 + 1, none⟩ = some (.int .i64 (hi l i))) :
    ∀ j u, (flat l)[j]? = some u → w.cell? ((⟨b, off, none⟩ : Addr).add j) = some u := by
  intro j u hj
  rw [Addr.add_lit]
  have hjl : j < l.length * 2 := by rw [← flat_length]; exact (List.getElem?_eq_some_iff.1 hj).1
  obtain ⟨e1, e2⟩ := flat_even l (j / 2) (by omega)
  obtain ⟨c1, c2⟩ := hcell (j / 2) (by omega)
  rcases Nat.mod_two_eq_zero_or_one j with hm | hm
  · rw [show j / 2 * 2 = j from by omega] at e1 c1
    rw [e1] at hj; injection hj with hj; subst hj
    exact c1
  · rw [show j / 2 * 2 + 1 = j from by omega] at e2
    rw [show off + j / 2 * 2 + 1 = off + j from by omega] at c2
    rw [e2] at hj; injection hj with hj; subst hj
    exact c2

end Go.Proofs.YthkliicmoandmaaGreatDoor.Dm


namespace Go.Proofs.YthkliicmoandmaaGreatDoor.Dm
set_option linter.unusedSimpArgs false
set_option linter.unusedVariables false
set_option linter.unusedVariables false

theorem mem_less {a b : List Rg} (ha : Right a) (hb : Right b) (v : Int) : v ∈ vals (ov a (notL b)) ↔ v ∈ vals a ∧ v ∉ vals b := by
  rw [(ov_facts (right_ord ha).1 (notL_facts hb).1).2, (notL_facts hb).2]
  constructor
  · rintro ⟨h1, _, _, h2⟩; exact ⟨h1, h2⟩
  · rintro ⟨h1, h2⟩; have := vals_bounds ha v h1; exact ⟨h1, this.1, this.2, h2⟩
theorem sizeR_vals {l : List Rg} (h : ∀ r ∈ l, r.1 ≤ r.2) : sizeR l = ((vals l).length : Int) := by
  induction l with
  | nil => rfl
  | cons r t ih =>
    have e : vals (r :: t) = span r.1 r.2 ++ vals t := by unfold vals; rw [List.flatMap_cons]
    have hr := h r (by simp)
    have it := ih fun q hq => h q (by simp [hq])
    rw [e, List.length_append, span_length]
    unfold sizeR at it ⊢
    rw [List.map_cons, List.sum_cons, it]
    omega
end Go.Proofs.YthkliicmoandmaaGreatDoor.Dm


namespace Go.Proofs.YthkliicmoandmaaGreatDoor.Dm
set_option linter.unusedSimpArgs false
set_option linter.unusedVariables false
open Go.RowKit Go.Shelf
set_option linter.unusedVariables false

/-- Appending a slice of ranges to an own row, of any length that there is room for. -/
theorem wpList_app_any (w : World) {ops : Array Oper} {rest : List Oper} {o : Oper} {a : Act} {Q : Exit → Act → World → Prop} (hgd : o.guard = none) (s x : Operand) (ho : o.op = .call { callee := .builtin .append, args := #[s, x], argTypes := #[47, 47] })
    (base : Nat) (v : Value) (m : Nat) (L : List Rg) (hs : a.eval s = v) (hown : w.ownsRow base 92 2 v m (flat L)) (hm : m = L.length) (sx : Value) (l : List Rg) (hx : a.eval x = sx) (hsx : Sr w sx l) (hb : (L.length + l.length) * 16 ≤ 140737488355328) (hbase : base ≤ w.heap.size)
    (h : ∀ v' w', w'.ownsRow base 92 2 v' (L.length + l.length) (flat (L ++ l)) → Below base w w' → (v' = .slice none 0 0 ↔ v = .slice none 0 0 ∧ l = []) → wpList Tryz.prog ops Q rest (a.put o.dst v') w') : wpList Tryz.prog ops Q (o :: rest) a w := by
  subst hm
  obtain ⟨i0, hi0, hz0, hz1, hz2⟩ := info_parts Tryz.info92
  obtain ⟨ax, cx, rfl, hcx⟩ := hsx
  have hbel : ∀ w', w.grownBy w' v.ownBlock → Below base w w' := fun w' hg => (Below.refl _ w).grown hg hbase (fun k e => (World.ownsRow.lt hown k e).1)
  cases ax with
  | none =>
    have h0 : l.length = 0 := by
      apply Classical.byContradiction; intro hn
      obtain ⟨_, _, e, _⟩ := hcx (by omega)
      cases e
    obtain rfl := List.eq_nil_of_length_eq_zero h0
    obtain ⟨bv, nv, cv, rfl, hle, hnv⟩ : ∃ b n c, v = .slice b n c ∧ n ≤ c ∧ n = L.length := by
      rcases hown.2 with ⟨e1, e2⟩ | ⟨q1, q2, q3, e, _, _, hq, _⟩
      · exact ⟨none, 0, 0, e1, Nat.le_refl _, e2.symm⟩
      · exact ⟨_, _, _, e, hq, rfl⟩
    refine Lib.wpList_append_run w hgd s x 47 47 ho _ _ hs hx _ _ (run_app_none w _ bv nv cv cx hle) (h _ _ ?_ (Below.refl _ _) (by simp))
    simpa using hown
  | some ad =>
    rcases Nat.eq_zero_or_pos l.length with h0 | h0
    · obtain rfl := List.eq_nil_of_length_eq_zero h0
      refine wpList_append_own _ hgd s x 47 ho base 92 i0 (.agg #[.int .i64 0, .int .i64 0]) 2 16 Tryz.underlying47 hi0 hz0 hz1 hz2 rfl (by decide) _ _ _ hs hown ad 0 cx [] hx rfl (fun j u h => by simp at h) (fun u h => by simp at h) (by unfold maxLen; simp at hb; omega) (by simpa using hb) hbase ?_
      intro v' w' h1 h2 h3
      exact h v' w' (by simpa using h1) (hbel w' h2) (by simpa using h3)
    · obtain ⟨b, off, e, hlt, hcell⟩ := hcx h0
      injection e with e
      subst e
      refine wpList_append_own _ hgd s x 47 ho base 92 i0 (.agg #[.int .i64 0, .int .i64 0]) 2 16 Tryz.underlying47 hi0 hz0 hz1 hz2 rfl (by decide) _ _ _ hs hown ⟨b, off, none⟩ l.length cx (flat l) hx (flat_length l) (srcells hcell) flat_one (by unfold maxLen; omega) hb hbase ?_
      intro v' w' h1 h2 h3
      exact h v' w' (by rw [flat_app]; exact h1) (hbel w' h2) (h3.trans ⟨fun h9 => by omega, fun h9 => by rw [h9.2] at h0; simp at h0⟩)
theorem own_shape {W : World} {base e size n : Nat} {s : Value} {xs : List Value} (h : W.ownsRow base e size s n xs) : ∃ a c, s = .slice a n c ∧ n ≤ c ∧ c ≤ 9223372036854775807 := by
  rcases h.2 with ⟨e1, e2⟩ | ⟨g, cap, cur, e1, _, _, hc, hm, _⟩
  · exact ⟨none, 0, by rw [e1, e2], by omega, by omega⟩
  · exact ⟨_, _, e1, hc, by unfold maxLen at hm; omega⟩

theorem taken_tk (s : Value) (l : List Rg) (w : World) (h : Sr w s l) :
    Calls Tryz.prog 99 #[s] w fun e w' => ∃ a n c, e = .returned (.slice a n c) ∧ Sr w (.slice a n c) (tk l) ∧ n = (tk l).length ∧ ∃ m, w' = w.drewN m := by
  by_cases hR : Right l
  · refine (taken_yes s l w h hR).mono fun e w' ⟨he, hb⟩ => ?_
    have h0 := h
    obtain ⟨a, cap, rfl, _⟩ := h
    exact ⟨a, _, cap, he, by rw [tk_yes hR]; exact h0, by rw [tk_yes hR], hb⟩
  · refine (taken_no s l w h hR).mono fun e w' ⟨he, hb⟩ => ?_
    exact ⟨none, 0, 0, he, by rw [tk_no hR]; exact Sr.nil _ _ _, by rw [tk_no hR]; rfl, hb⟩
set_option maxRecDepth 100000 in
set_option maxHeartbeats 1000000 in
theorem refcut_no (s : Value) (l : List Rg) (a b : Int) (W : World) (h : Sr W s l) (hR : ¬ Right l) :
    Calls Tryz.prog 53 #[s, .int .i64 a, .int .i64 b] W fun e w' => e = .returned (.slice none 0 0) ∧ Below W.heap.size W w' := by
  have kt := taken_no s l W h hR
  obtain ⟨sa, cap, rfl, _⟩ := h
  obtain ⟨n, hn⟩ : ∃ n, l.length = n := ⟨_, rfl⟩
  rw [hn] at kt ⊢
  clear hn hR
  go_enter Tryz.func53, Tryz.ntmps53
  go_wp2_with fail
  refine kt.mono ?_
  rintro e w0 ⟨rfl, m0, rfl⟩
  have hB0 : Below W.heap.size W (W.drewN m0) := below_drewN (Below.refl _ _) m0
  clear kt
  go_wp2
  go_loopw [7, 8, 9] (fun o i _ wr => i = .int .i64 0 ∧ o = .slice none 0 0 ∧ wr = W.drewN m0) (fun _ _ _ _ => 0)
  case atStart => exact ⟨rfl, rfl, rfl⟩
  case round =>
    obtain ⟨rfl, rfl, rfl⟩ := hrel
    go_wp2
    go_ret
    exact ⟨rfl, hB0⟩
theorem refcut_tk (s : Value) (l : List Rg) (a b : Int) (W : World) (h : Sr W s l) :
    Calls Tryz.prog 53 #[s, .int .i64 a, .int .i64 b] W fun e w' => ∃ s', e = .returned s' ∧ w'.ownsRow W.heap.size 92 2 s' (cutL (tk l) a b).length (flat (cutL (tk l) a b)) ∧ (s' = .slice none 0 0 ↔ cutL (tk l) a b = []) ∧ Below W.heap.size W w' := by
  by_cases hR : Right l
  · rw [tk_yes hR]; exact refcut_any s l a b W h hR
  · rw [tk_no hR]
    refine (refcut_no s l a b W h hR).mono fun e w' ⟨he, hb⟩ => ⟨_, he, World.ownsRow_nil _ _ _ _, by simp [cutL], hb⟩
end Go.Proofs.YthkliicmoandmaaGreatDoor.Dm


namespace Go.Proofs.YthkliicmoandmaaGreatDoor.Dm
set_option linter.unusedSimpArgs false
set_option linter.unusedVariables false
open Go.RowKit Go.Shelf
set_option linter.unusedVariables false

set_option maxRecDepth 100000 in
set_option maxHeartbeats 8000000 in
theorem refboth_tk (s1 s2 : Value) (a0 b0 : List Rg) (W : World) (h1 : Sr W s1 a0) (h2 : Sr W s2 b0) :
    Calls Tryz.prog 120 #[s1, s2] W fun e w' => ∃ s', e = .returned s' ∧ w'.ownsRow W.heap.size 92 2 s' (bothR a0 b0).length (flat (bothR a0 b0)) ∧ Below W.heap.size W w' := by
  obtain ⟨i0, hi0, hz0, hz1, hz2⟩ := info_parts Tryz.info92
  have kt := taken_tk s2 b0 W h2
  have kc := fun x y X (hX : Below W.heap.size W X) => refcut_tk s1 a0 x y X (h1.below hX)
  have kta := fun X (hX : Below W.heap.size W X) => taken_tk s1 a0 X (h1.below hX)
  have ha := tk_right a0
  have hb := tk_right b0
  have hbr : bothR a0 b0 = if (pieces (tk b0) (tk a0)).length ≤ 4096 then pieces (tk b0) (tk a0) else tk a0 := by unfold bothR; rw [ov_pieces (right_ord ha).1 (right_ord hb).1]
  obtain ⟨a, hA⟩ : ∃ a, tk a0 = a := ⟨_, rfl⟩
  obtain ⟨b, hBb⟩ : ∃ b, tk b0 = b := ⟨_, rfl⟩
  rw [hA] at ha hbr
  rw [hBb] at hb kt hbr
  simp only [hA] at kc kta
  have hlb := hb.1
  have hla := ha.1
  have hpo := ord_pieces (right_ord hb).1 (right_ord ha).1
  have hpi := inb_pieces (c := b) (right_ord ha).2
  have hle := both_len (right_ord hb).1 (right_ord ha).1
  obtain ⟨sa, ca, rfl, _⟩ := h1
  obtain ⟨sb0, cb0, rfl, _⟩ := h2
  obtain ⟨na, hna⟩ : ∃ na, a0.length = na := ⟨_, rfl⟩
  obtain ⟨nb0, hnb0⟩ : ∃ nb, b0.length = nb := ⟨_, rfl⟩
  have KC : Hid _ := kc
  have KTA : Hid _ := kta
  have HPO : Hid (Ord (pieces b a)) := hpo
  have HPI : Hid (Inb (pieces b a)) := hpi
  have HBR : Hid (bothR a0 b0 = if (pieces b a).length ≤ 4096 then pieces b a else a) := hbr
  rw [hna] at KC KTA ⊢
  rw [hnb0] at kt ⊢
  clear kc hpo hpi ha hb hna kta hbr hA hBb hnb0
  go_enter Tryz.func120, Tryz.ntmps120
  go_wp2_with fail
  refine kt.mono ?_
  rintro e w0 ⟨sb, n, cb, rfl, hSb, hn', m0, rfl⟩
  have HN : Hid (b.length = n) := hn'.symm
  have HC : Hid (0 < b.length → ∃ b' off, sb = some ⟨b', off, none⟩ ∧ b' < W.heap.size ∧ ∀ i, i < b.length → W.cell? ⟨b', off + i * 2, none⟩ = some (.int .i64 (lo b i)) ∧ W.cell? ⟨b', off + i * 2 + 1, none⟩ = some (.int .i64 (hi b i))) := by
    obtain ⟨a', c', e, hc⟩ := hSb
    injection e with e1 _ _
    rw [e1]; exact hc
  rw [← hn'] at hlb hle
  have hB0 : Below W.heap.size W (W.drewN m0) := below_drewN (Below.refl _ _) m0
  clear kt hSb hn'
  go_wp2
  go_loopw [5, 6] (fun o i wr => ∃ (k : Nat), k ≤ n ∧ i = .int .i64 k ∧ wr.ownsRow W.heap.size 92 2 o (pieces (b.take k) a).length (flat (pieces (b.take k) a)) ∧ (o = .slice none 0 0 ↔ pieces (b.take k) a = []) ∧ Below W.heap.size W wr) (fun _ i _ => n - (intOf i).toNat)
  case atStart => exact ⟨0, Nat.zero_le _, rfl, World.ownsRow_nil _ _ _ _, by simp [pieces], hB0⟩
  case round =>
    clear hB0
    obtain ⟨k, hk, rfl, hrow, hnil, hB⟩ := hrel
    have hsz := hB.size
    by_cases hlt : k < n
    · have hkl : k < b.length := by rw [HN.out]; exact hlt
      obtain ⟨bb, off, rfl, hbb, hcells⟩ := HC.out (by omega)
      obtain ⟨c1, c2⟩ := hcells k hkl
      have d1 := (hB.cell (p := ⟨bb, off + k * 2, none⟩) hbb).trans c1
      have d2 := (hB.cell (p := ⟨bb, off + k * 2 + 1, none⟩) hbb).trans c2
      have htk := pieces_take b a k hkl
      have hpl := pieces_len_take b a (k + 1)
      obtain ⟨x, hx⟩ : ∃ x, lo b k = x := ⟨_, rfl⟩
      obtain ⟨y, hy⟩ : ∃ y, hi b k = y := ⟨_, rfl⟩
      rw [hx] at d1 htk
      rw [hy] at d2 htk
      obtain ⟨os, hos⟩ : ∃ os, pieces (b.take k) a = os := ⟨_, rfl⟩
      obtain ⟨cu, hcu⟩ : ∃ cu, cutL a x y = cu := ⟨_, rfl⟩
      rw [hos] at hrow hnil htk
      rw [hcu] at htk
      rw [htk, List.length_append] at hpl
      have k65 := KC.out x y wr.drew (hB.drew)
      rw [hcu] at k65
      have HTK : Hid (pieces (b.take (k + 1)) a = os ++ cu) := htk
      have hcnm : ∃ ov on oc, u5 = .slice ov on oc ∧ on = os.length ∧ on ≤ oc := by
        rcases hrow.2 with ⟨e1, e2⟩ | ⟨g', cap', cur, e1, _, _, h3, _⟩
        · exact ⟨none, 0, 0, e1, e2.symm, Nat.le_refl _⟩
        · exact ⟨_, _, _, e1, rfl, h3⟩
      obtain ⟨ov, on, oc, rfl, hon, honc⟩ := hcnm
      subst hon
      obtain ⟨m, hm⟩ : ∃ m, os.length = m := ⟨_, rfl⟩
      have HM : Hid (os.length = m) := hm
      rw [hm] at hrow honc hpl hnil ⊢
      clear hm
      have hlt' : (k : Int) < (n : Int) := by omega
      clear hcells c1 c2 hx hy hos hcu htk hkl
      have HK : ∀ X, Below W.heap.size W X → X.cell? ⟨bb, off + k * 2, none⟩ = some (.int .i64 x) ∧ X.cell? ⟨bb, off + k * 2 + 1, none⟩ = some (.int .i64 y) := fun X hX => ⟨(hX.cell (p := ⟨bb, off + k * 2, none⟩) hbb).trans ((hB.cell (p := ⟨bb, off + k * 2, none⟩) hbb).symm.trans d1), (hX.cell (p := ⟨bb, off + k * 2 + 1, none⟩) hbb).trans ((hB.cell (p := ⟨bb, off + k * 2 + 1, none⟩) hbb).symm.trans d2)⟩
      rcases Nat.eq_zero_or_pos cu.length with hc0 | hc0
      · obtain rfl : cu = [] := List.eq_nil_of_length_eq_zero hc0
        have k66 : Calls Tryz.prog 53 #[.slice sa na ca, .int .i64 x, .int .i64 y] wr.drew fun e w' => e = .returned (.slice none 0 0) ∧ Below W.heap.size W w' ∧ Below wr.heap.size wr w' := k65.mono (fun e w' ⟨s', he, _, hn, hb⟩ => ⟨by rw [he, hn.2 rfl], hB.drew.trans (hb.mono hsz), (Below.refl wr.heap.size wr).drew.trans hb⟩)
        have HROW : Hid _ := hrow
        have hBdr : Below W.heap.size W wr.drew := hB.drew
        clear k65 hrow hpl hc0
        go_wp2
        go_region_held_law (fun w' => w'.cell? ⟨bb, off + k * 2, none⟩ = some (.int .i64 x) ∧ w'.cell? ⟨bb, off + k * 2 + 1, none⟩ = some (.int .i64 y)) (exact HK _ (by assumption)) (first
          | (go_at_call 53; refine k66.mono ?_; clear k66; rintro e w1 ⟨rfl, hbW, hb1⟩)
          | (refine step_app_nil _ rfl _ _ rfl _ _ _ honc rfl rfl ?_))
        go_wp2
        go_roundw
        case rel => exact ⟨k + 1, by omega, by go_num, by rw [HTK.out, List.append_nil, HM.out]; exact own_keepB HROW.out hb1, by rw [HTK.out, List.append_nil]; exact hnil, hbW⟩
        case measure => simp [intOf]; omega
      · obtain ⟨cl, hcl⟩ : ∃ cl, cu.length = cl := ⟨_, rfl⟩
        have HCL : Hid (cu.length = cl) := hcl
        have hfl : (flat cu).length = cl * 2 := by rw [flat_length, hcl]
        rw [hcl] at k65 hc0 hpl
        have k66 : Calls Tryz.prog 53 #[.slice sa na ca, .int .i64 x, .int .i64 y] wr.drew fun e w' => ∃ g c, e = .returned (.slice (some ⟨g, 0, none⟩) cl c) ∧ (∀ j u, (flat cu)[j]? = some u → w'.cell? ((⟨g, 0, none⟩ : Addr).add j) = some u) ∧ Below W.heap.size W w' ∧ Below wr.heap.size wr w' := k65.mono (fun e w' ⟨s', he, ho, hn, hb⟩ => by
          obtain ⟨g, c, e1, _, _, h3⟩ := own_some ho hc0
          exact ⟨g, c, by rw [he, e1], fun j u hj => by rw [Addr.add_lit, Nat.zero_add]; exact h3 j u hj, hB.drew.trans (hb.mono hsz), (Below.refl wr.heap.size wr).drew.trans hb⟩)
        have HROW : Hid _ := hrow
        have hBdr : Below W.heap.size W wr.drew := hB.drew
        have hcne : cu ≠ [] := fun e => by rw [e] at hcl; simp at hcl; omega
        have HCNE : Hid (cu ≠ []) := hcne
        clear k65 hrow hcl hcne
        go_wp2
        go_region_held_law (fun w' => w'.cell? ⟨bb, off + k * 2, none⟩ = some (.int .i64 x) ∧ w'.cell? ⟨bb, off + k * 2 + 1, none⟩ = some (.int .i64 y)) (exact HK _ (by assumption)) (first
          | (go_at_call 53; refine k66.mono ?_; clear k66; rintro e w1 ⟨g1, cg1, rfl, hnews, hbW, hb1⟩; have hrw1 := own_keepB HROW.out hb1)
          | (refine step_append_lies _ rfl _ _ 47 rfl W.heap.size 92 i0 (.agg #[.int .i64 0, .int .i64 0]) 2 16 Tryz.underlying47 hi0 hz0 hz1 hz2 rfl (by decide) _ _ _ rfl hrw1 ⟨g1, 0, none⟩ cl cg1 (flat cu) rfl hfl hnews flat_one hc0 (by unfold maxLen; omega) (by omega) hbW.size _ rfl ?_; intro g cap w2 hown hgrow hat hlt2; have hB2 : Below W.heap.size W w2 := hbW.grown hgrow hbW.size (fun j e => (World.ownsRow.lt hrw1 j e).1)))
        go_wp2
        go_roundw
        case rel =>
          refine ⟨k + 1, by omega, by go_num, ?_, ?_, hB2⟩
          · rw [HTK.out, List.length_append, HM.out, HCL.out, flat_app]; exact hown
          · rw [HTK.out]; simp [HCNE.out]
        case measure => simp [intOf]; omega
    · obtain rfl : k = n := by omega
      have htk : b.take k = b := by rw [← HN.out]; exact List.take_length
      rw [htk] at hrow hnil
      have hsr := own_srl hrow
      obtain ⟨av, cv, rfl⟩ : ∃ av cv, u5 = .slice av (pieces b a).length cv := by
        obtain ⟨av, cv, e, _⟩ := hsr; exact ⟨av, cv, e⟩
      have kj := joined_ord _ (pieces b a) wr hsr HPO.out HPI.out (by have := HN.out; omega)
      obtain ⟨P, hP⟩ : ∃ P, pieces b a = P := ⟨_, rfl⟩
      rw [hP] at kj
      simp only [hP]
      have HP : Hid (pieces b a = P) := hP
      obtain ⟨pl, hpl⟩ : ∃ pl, P.length = pl := ⟨_, rfl⟩
      have HPL : Hid (P.length = pl) := hpl
      rw [hpl] at kj
      simp only [hpl]
      clear htk hsr hrow hnil hP hpl
      go_wp2_with fail
      refine kj.mono ?_
      rintro e w1 ⟨s', rfl, hown, hnl, hb1⟩
      obtain ⟨a1, c1, rfl⟩ : ∃ a1 c1, s' = .slice a1 pl c1 := by
        rcases hown.2 with ⟨e1, e2⟩ | ⟨g', cap', cur, e1, _⟩
        · exact ⟨none, 0, by rw [e1, e2]⟩
        · exact ⟨_, _, e1⟩
      have HOWN : Hid _ := hown
      have hBW1 : Below W.heap.size W w1 := hB.trans (hb1.mono hsz)
      clear kj hown hnl
      by_cases hbig : pl ≤ 4096
      · have hd : decide (4096 < (pl : Int)) = false := by simp; omega
        go_wp2
        go_ret
        exact ⟨_, rfl, by rw [HBR.out, HP.out, if_pos (by rw [HPL.out]; exact hbig), HPL.out]; exact own_base HOWN.out hsz, hBW1⟩
      · have hd : decide (4096 < (pl : Int)) = true := by simp; omega
        go_wp2_with fail
        refine (KTA.out w1 hBW1).mono ?_
        rintro e w2 ⟨ta, tn, tc, rfl, hSt, htn, m2, rfl⟩
        have hb2 : Below w1.heap.size w1 (w1.drewN m2) := below_drewN (Below.refl _ _) m2
        have HSt : Hid (Sr (w1.drewN m2) (.slice ta tn tc) a) := hSt.below hb2
        obtain ⟨w3, hw3⟩ : ∃ wd, w1.drewN m2 = wd := ⟨_, rfl⟩
        rw [hw3] at hb2 HSt ⊢
        have hBW3 : Below W.heap.size W w3 := hBW1.trans (hb2.mono hBW1.size)
        clear hSt htn hw3
        go_wp2_with (at_builtin; refine wpList_app_any _ rfl _ _ rfl W.heap.size _ 0 [] rfl (World.ownsRow_nil _ _ _ _) rfl _ a rfl HSt.out (by simp; omega) hBW3.size ?_; intro v4 w4 hown4 hb4 _; rw [List.nil_append] at hown4; obtain ⟨g4, k4, e4, _, _⟩ := own_shape hown4; subst e4; have HOWN4 : Hid _ := hown4; clear hown4)
        go_ret
        refine ⟨_, rfl, ?_, hBW3.trans hb4⟩
        rw [HBR.out, HP.out, if_neg (by rw [HPL.out]; exact hbig)]
        have h9 := HOWN4.out
        simp only [List.length_nil, Nat.zero_add] at h9
        exact h9

end Go.Proofs.YthkliicmoandmaaGreatDoor.Dm


namespace Go.Proofs.YthkliicmoandmaaGreatDoor.Dm
set_option linter.unusedSimpArgs false
set_option linter.unusedVariables false
open Go.RowKit Go.Shelf
set_option linter.unusedVariables false

/-- What is left of a range without a value. -/
def wo1 (v : Int) (r : Rg) : List Rg := if v < r.1 ∨ r.2 < v then [r] else (if r.1 < v then [(r.1, v - 1)] else []) ++ (if v < r.2 then [(v + 1, r.2)] else [])
def woL (l : List Rg) (v : Int) : List Rg := l.flatMap (wo1 v)
def woR (l : List Rg) (v : Int) : List Rg := if (woL (tk l) v).length ≤ 4096 then woL (tk l) v else tk l
theorem wo1_facts (v : Int) (r : Rg) (h : r.1 ≤ r.2) : Ord (wo1 v r) ∧ (∀ p ∈ wo1 v r, r.1 ≤ p.1 ∧ p.2 ≤ r.2) ∧ ∀ x, x ∈ vals (wo1 v r) ↔ (r.1 ≤ x ∧ x ≤ r.2 ∧ x ≠ v) := by
  obtain ⟨a, b⟩ := r
  dsimp only at h
  unfold wo1
  dsimp only
  by_cases h1 : v < a ∨ b < v
  · rw [if_pos h1]
    refine ⟨⟨fun p hp => by rw [List.mem_singleton] at hp; rw [hp]; exact h, List.pairwise_singleton _ _⟩, fun p hp => by rw [List.mem_singleton] at hp; rw [hp]; exact ⟨Int.le_refl _, Int.le_refl _⟩, fun x => ?_⟩
    rw [vals_cons]; simp only [vals, List.flatMap_nil, List.not_mem_nil, or_false]; omega
  · rw [if_neg h1]
    by_cases h2 : a < v
    · rw [if_pos h2]
      by_cases h3 : v < b
      · rw [if_pos h3]
        refine ⟨⟨fun p hp => ?_, ?_⟩, fun p hp => ?_, fun x => ?_⟩
        · simp at hp; rcases hp with rfl | rfl <;> dsimp only <;> omega
        · simp; omega
        · simp at hp; rcases hp with rfl | rfl <;> dsimp only <;> omega
        · rw [List.singleton_append, vals_cons, vals_cons]; simp only [vals, List.flatMap_nil, List.not_mem_nil, or_false]; omega
      · rw [if_neg h3]
        refine ⟨⟨fun p hp => ?_, ?_⟩, fun p hp => ?_, fun x => ?_⟩
        · simp at hp; rw [hp]; dsimp only; omega
        · simp
        · simp at hp; rw [hp]; dsimp only; omega
        · rw [List.append_nil, vals_cons]; simp only [vals, List.flatMap_nil, List.not_mem_nil, or_false]; omega
    · rw [if_neg h2]
      by_cases h3 : v < b
      · rw [if_pos h3]
        refine ⟨⟨fun p hp => ?_, ?_⟩, fun p hp => ?_, fun x => ?_⟩
        · simp at hp; rw [hp]; dsimp only; omega
        · simp
        · simp at hp; rw [hp]; dsimp only; omega
        · rw [List.nil_append, vals_cons]; simp only [vals, List.flatMap_nil, List.not_mem_nil, or_false]; omega
      · rw [if_neg h3]
        refine ⟨⟨fun p hp => by simp at hp, by simp⟩, fun p hp => by simp at hp, fun x => ?_⟩
        simp [vals]; omega
theorem wo_facts {l : List Rg} (v : Int) (h : Ord l) : Ord (woL l v) ∧ (∀ x, x ∈ vals (woL l v) ↔ x ∈ vals l ∧ x ≠ v) := by
  induction l with
  | nil => exact ⟨⟨fun r hr => absurd hr (by simp [woL]), List.Pairwise.nil⟩, fun x => by simp [woL, vals]⟩
  | cons r t ih =>
    obtain ⟨h1, h2, h3⟩ := ord_cons h
    obtain ⟨i1, i2⟩ := ih h2
    obtain ⟨f1, f2, f3⟩ := wo1_facts v r h1
    have e : woL (r :: t) v = wo1 v r ++ woL t v := by unfold woL; rw [List.flatMap_cons]
    rw [e]
    refine ⟨⟨fun p hp => ?_, ?_⟩, fun x => ?_⟩
    · rcases List.mem_append.1 hp with h9 | h9
      · exact f1.1 p h9
      · exact i1.1 p h9
    · rw [List.pairwise_append]
      refine ⟨f1.2, i1.2, fun p hp q hq => ?_⟩
      have hq1 : q.1 ∈ vals (woL t v) := (mem_vals' _ _).2 ⟨q, hq, Int.le_refl _, i1.1 q hq⟩
      have := h3 _ ((i2 _).1 hq1).1
      have := (f2 p hp).2
      omega
    · rw [vals_append, List.mem_append, f3, i2, vals_cons]
      constructor
      · rintro (⟨a, b, c⟩ | ⟨a, b⟩)
        · exact ⟨.inl ⟨a, b⟩, c⟩
        · exact ⟨.inr a, b⟩
      · rintro ⟨a | a, b⟩
        · exact .inl ⟨a.1, a.2, b⟩
        · exact .inr ⟨a, b⟩
theorem tk_one (v : Int) : tk [(v, v)] = if -1000000 ≤ v ∧ v ≤ 1000000 then [(v, v)] else [] := by
  by_cases h : -1000000 ≤ v ∧ v ≤ 1000000
  · rw [if_pos h]
    exact tk_yes (ord_right ⟨fun r hr => by rw [List.mem_singleton] at hr; rw [hr]; exact Int.le_refl _, List.pairwise_singleton _ _⟩ (fun r hr => by rw [List.mem_singleton] at hr; rw [hr]; exact h) (by simp))
  · rw [if_neg h]
    refine tk_no fun hR => h ?_
    have := (right_ord hR).2 (v, v) (by simp)
    exact this
theorem wo_less (l : List Rg) (v : Int) : ov (tk l) (notL (tk [(v, v)])) = woL (tk l) v := by
  have ha := tk_right l
  have hb := tk_right [(v, v)]
  have f := wo_facts v (right_ord ha).1
  refine ord_ext (ov_facts (right_ord ha).1 (notL_facts hb).1).1 f.1 fun x => ?_
  rw [mem_less ha hb, f.2, tk_one]
  by_cases h : -1000000 ≤ v ∧ v ≤ 1000000
  · rw [if_pos h]
    refine and_congr_right fun _ => not_congr ?_
    rw [vals_cons]; simp only [vals, List.flatMap_nil, List.not_mem_nil, or_false]; omega
  · rw [if_neg h]
    constructor
    · rintro ⟨h1, _⟩
      have := vals_bounds ha x h1
      exact ⟨h1, fun e => h (by omega)⟩
    · rintro ⟨h1, _⟩
      exact ⟨h1, by simp [vals]⟩
theorem fits_one {v : Int} (h : Fits v) : FitsR [(v, v)] := fun i hi' => by
  have : i = 0 := by simpa using hi'
  subst this
  exact ⟨h, h⟩
set_option maxRecDepth 100000 in
set_option maxHeartbeats 2000000 in
theorem domwithout_any (s : Value) (l : List Rg) (v : Int) (w : World) (h : Sr w s l) (hf : FitsR l) (hv : Fits v) :
    Calls Tryz.prog 98 #[s, .int .i64 v] w fun e w' => ∃ s', e = .returned s' ∧ w'.ownsRow w.heap.size 92 2 s' (woR l v).length (flat (woR l v)) ∧ Below w.heap.size w w' := by
  have hb0 : Below w.heap.size w (w.alloc (.cells #[.int .i64 v, .int .i64 v] 92)) := (Below.refl _ _).alloc (Nat.le_refl _) _
  have hls := domless_any _ _ l [(v, v)] (w.alloc (.cells #[.int .i64 v, .int .i64 v] 92)) (h.below hb0) (Sr.one w v v) hf (fits_one hv)
  have HS : Hid (Sr w s l) := h
  obtain ⟨a0, c0, rfl, _⟩ := h
  obtain ⟨n0, hn0⟩ : ∃ n, l.length = n := ⟨_, rfl⟩
  have HN : Hid (l.length = n0) := hn0
  rw [hn0] at hls HS ⊢
  clear hf hv hn0
  go_enter Tryz.func98, Tryz.ntmps98
  go_wp2_with fail
  refine hls.mono ?_
  clear hls
  rintro e w1 ⟨s1, cc, rfl, hb1, hcase⟩
  have hb01 : Below w.heap.size w w1 := hb0.trans (hb1.mono hb0.size)
  rw [wo_less] at hcase
  rcases hcase with ⟨rfl, hle, hrow, _⟩ | ⟨rfl, hgt, rfl⟩
  · have HROW : Hid (w1.ownsRow w.heap.size 92 2 s1 (woL (tk l) v).length (flat (woL (tk l) v))) := own_base hrow hb0.size
    have HLE : Hid ((woL (tk l) v).length ≤ 4096) := hle
    clear hrow hle
    go_wp2
    go_ret
    refine ⟨_, rfl, ?_, hb01⟩
    have e : woR l v = woL (tk l) v := if_pos HLE.out
    rw [e]
    exact HROW.out
  · have hR : Right l := by
      apply Classical.byContradiction; intro hn
      rw [tk_no hn] at hgt
      simp [woL] at hgt
    have h0 : 0 < l.length := by
      apply Classical.byContradiction; intro hn
      have : l = [] := List.eq_nil_of_length_eq_zero (by omega)
      rw [this, tk_yes right_nil] at hgt
      simp [woL] at hgt
    have hcl := clone_any a0 n0 c0 l w1 (HS.out.below hb01) h0 hR.1
    have HWO : Hid (woR l v = l) := by
      unfold Hid woR
      rw [if_neg (by omega)]
      exact tk_yes hR
    clear hgt hR h0
    go_wp2_with fail
    refine hcl.mono ?_
    clear hcl
    rintro e w2 ⟨s2, rfl, hrow, hb2⟩
    have HROW : Hid (w2.ownsRow w1.heap.size 92 2 s2 l.length (flat l)) := hrow
    clear hrow
    go_wp2
    go_ret
    refine ⟨_, rfl, ?_, hb01.trans (hb2.mono hb01.size)⟩
    rw [HWO.out]
    exact own_base HROW.out hb01.size

end Go.Proofs.YthkliicmoandmaaGreatDoor.Dm

