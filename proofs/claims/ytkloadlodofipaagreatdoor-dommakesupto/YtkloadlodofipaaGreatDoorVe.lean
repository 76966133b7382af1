/-
  What is proved here: what Both of the reference returns of right ranges.
-/
import Derived.Test.YtkloadlodofipaaGreatDoorVd
import Derived.Deep.RegionHeldLaw
namespace Go.Proofs.YtkloadlodofipaaGreatDoor
open Go.RowKit Go.Shelf
set_option linter.unusedVariables false

theorem own_srl {W : World} {base : Nat} {s : Value} {l : List Rg} (h : W.ownsRow base 55 2 s l.length (flat l)) : Sr W s l := by
  rcases Nat.eq_zero_or_pos l.length with h0 | h0
  · rcases h.2 with ⟨e1, e2⟩ | ⟨g', cap', cur, e1, _⟩
    · exact ⟨none, 0, by rw [e1, h0], fun h1 => by omega⟩
    · exact ⟨_, _, e1, fun h1 => by omega⟩
  · obtain ⟨g, c, rfl, _, h2, h3⟩ := own_some h h0
    refine ⟨_, c, rfl, fun _ => ⟨g, 0, rfl, h2, fun i hi => ?_⟩⟩
    obtain ⟨e1, e2⟩ := flat_even l i hi
    rw [Nat.zero_add]
    exact ⟨h3 _ _ e1, h3 _ _ e2⟩
theorem pieces_take (c a : List Rg) (k : Nat) (hk : k < c.length) : pieces (c.take (k + 1)) a = pieces (c.take k) a ++ cutL a (lo c k) (hi c k) := by
  unfold pieces
  rw [take_two c k hk, List.flatMap_append]
  simp
theorem flat_app (a b : List Rg) : flat (a ++ b) = flat a ++ flat b := by unfold flat; rw [List.flatMap_append]
theorem pieces_len_take (c a : List Rg) (k : Nat) : (pieces (c.take k) a).length ≤ (pieces c a).length := by
  have : pieces c a = pieces (c.take k) a ++ pieces (c.drop k) a := by unfold pieces; rw [← List.flatMap_append, List.take_append_drop]
  rw [this, List.length_append]; omega

set_option maxRecDepth 100000 in
set_option maxHeartbeats 8000000 in
theorem refboth_any (s1 s2 : Value) (a b : List Rg) (W : World) (h1 : Sr W s1 a) (h2 : Sr W s2 b) (ha : Right a) (hb : Right b) (hle : (pieces b a).length ≤ 4096) :
    Calls Tryz.prog 43 #[s1, s2] W fun e w' => ∃ s', e = .returned s' ∧ w'.ownsRow W.heap.size 55 2 s' (pieces b a).length (flat (pieces b a)) ∧ Below W.heap.size W w' := by
  obtain ⟨i0, hi0, hz0, hz1, hz2⟩ := info_parts Tryz.info55
  have kt := taken_yes s2 b W h2 hb
  have kc := fun x y X (hX : Below W.heap.size W X) => refcut_any s1 a x y X (h1.below hX) ha
  have hlb := hb.1
  have hpo := ord_pieces (right_ord hb).1 (right_ord ha).1
  have hpi := inb_pieces (c := b) (right_ord ha).2
  obtain ⟨sa, ca, rfl, _⟩ := h1
  obtain ⟨sb, cb, rfl, hcell⟩ := h2
  obtain ⟨n, hn⟩ : ∃ n, b.length = n := ⟨_, rfl⟩
  obtain ⟨na, hna⟩ : ∃ na, a.length = na := ⟨_, rfl⟩
  have HN : Hid (b.length = n) := hn
  have HC : Hid _ := hcell
  have KC : Hid _ := kc
  have HPO : Hid _ := hpo
  have HPI : Hid _ := hpi
  rw [hn] at hlb kt ⊢
  rw [hna] at KC ⊢
  clear hn hcell kc hpo hpi ha hb hna
  go_enter Tryz.func43, Tryz.ntmps43
  go_wp2_with fail
  refine kt.mono ?_
  rintro e w0 ⟨rfl, m0, rfl⟩
  have hB0 : Below W.heap.size W (W.drewN m0) := below_drewN (Below.refl _ _) m0
  clear kt
  go_wp2
  go_loopw [5, 6] (fun o i wr => ∃ (k : Nat), k ≤ n ∧ i = .int .i64 k ∧ wr.ownsRow W.heap.size 55 2 o (pieces (b.take k) a).length (flat (pieces (b.take k) a)) ∧ (o = .slice none 0 0 ↔ pieces (b.take k) a = []) ∧ Below W.heap.size W wr) (fun _ i _ => n - (intOf i).toNat)
  case atStart => exact ⟨0, Nat.zero_le _, rfl, World.ownsRow_nil _ _ _ _, by simp [pieces], hB0⟩
  case round =>
    clear hB0
    obtain ⟨k, hk, rfl, hrow, hnil, hB⟩ := hrel
    have hsz := hB.size
    by_cases hlt : k < n
    · have hkl : k < b.length := by rw [HN.out]; exact hlt
      obtain ⟨bb, off, rfl, hbb, hcells⟩ := HC.out (by omega)
      obtain ⟨c1, c2⟩ := hcells k hkl
      have d1 := (hB.cell (p := ⟨bb, off + k * 2, none⟩) hbb).trans c1
      have d2 := (hB.cell (p := ⟨bb, off + k * 2 + 1, none⟩) hbb).trans c2
      have htk := pieces_take b a k hkl
      have hpl := pieces_len_take b a (k + 1)
      obtain ⟨x, hx⟩ : ∃ x, lo b k = x := ⟨_, rfl⟩
      obtain ⟨y, hy⟩ : ∃ y, hi b k = y := ⟨_, rfl⟩
      rw [hx] at d1 htk
      rw [hy] at d2 htk
      obtain ⟨os, hos⟩ : ∃ os, pieces (b.take k) a = os := ⟨_, rfl⟩
      obtain ⟨cu, hcu⟩ : ∃ cu, cutL a x y = cu := ⟨_, rfl⟩
      rw [hos] at hrow hnil htk
      rw [hcu] at htk
      rw [htk, List.length_append] at hpl
      have k65 := KC.out x y wr.drew (hB.drew)
      rw [hcu] at k65
      have HTK : Hid (pieces (b.take (k + 1)) a = os ++ cu) := htk
      have hcnm : ∃ ov on oc, u5 = .slice ov on oc ∧ on = os.length ∧ on ≤ oc := by
        rcases hrow.2 with ⟨e1, e2⟩ | ⟨g', cap', cur, e1, _, _, h3, _⟩
        · exact ⟨none, 0, 0, e1, e2.symm, Nat.le_refl _⟩
        · exact ⟨_, _, _, e1, rfl, h3⟩
      obtain ⟨ov, on, oc, rfl, hon, honc⟩ := hcnm
      subst hon
      obtain ⟨m, hm⟩ : ∃ m, os.length = m := ⟨_, rfl⟩
      have HM : Hid (os.length = m) := hm
      rw [hm] at hrow honc hpl hnil ⊢
      clear hm
      have hlt' : (k : Int) < (n : Int) := by omega
      clear hcells c1 c2 hx hy hos hcu htk hkl
      have HK : ∀ X, Below W.heap.size W X → X.cell? ⟨bb, off + k * 2, none⟩ = some (.int .i64 x) ∧ X.cell? ⟨bb, off + k * 2 + 1, none⟩ = some (.int .i64 y) := fun X hX => ⟨(hX.cell (p := ⟨bb, off + k * 2, none⟩) hbb).trans ((hB.cell (p := ⟨bb, off + k * 2, none⟩) hbb).symm.trans d1), (hX.cell (p := ⟨bb, off + k * 2 + 1, none⟩) hbb).trans ((hB.cell (p := ⟨bb, off + k * 2 + 1, none⟩) hbb).symm.trans d2)⟩
      rcases Nat.eq_zero_or_pos cu.length with hc0 | hc0
      · obtain rfl : cu = [] := List.eq_nil_of_length_eq_zero hc0
        have k66 : Calls Tryz.prog 44 #[.slice sa na ca, .int .i64 x, .int .i64 y] wr.drew fun e w' => e = .returned (.slice none 0 0) ∧ Below W.heap.size W w' ∧ Below wr.heap.size wr w' := k65.mono (fun e w' ⟨s', he, _, hn, hb⟩ => ⟨by rw [he, hn.2 rfl], hB.drew.trans (hb.mono hsz), (Below.refl wr.heap.size wr).drew.trans hb⟩)
        have HROW : Hid _ := hrow
        have hBdr : Below W.heap.size W wr.drew := hB.drew
        clear k65 hrow hpl hc0
        go_wp2
        go_region_held_law (fun w' => w'.cell? ⟨bb, off + k * 2, none⟩ = some (.int .i64 x) ∧ w'.cell? ⟨bb, off + k * 2 + 1, none⟩ = some (.int .i64 y)) (exact HK _ (by assumption)) (first
          | (go_at_call 44; refine k66.mono ?_; clear k66; rintro e w1 ⟨rfl, hbW, hb1⟩)
          | (refine step_app_nil _ rfl _ _ rfl _ _ _ honc rfl rfl ?_))
        go_wp2
        go_roundw
        case rel => exact ⟨k + 1, by omega, by go_num, by rw [HTK.out, List.append_nil, HM.out]; exact own_keepB HROW.out hb1, by rw [HTK.out, List.append_nil]; exact hnil, hbW⟩
        case measure => simp [intOf]; omega
      · obtain ⟨cl, hcl⟩ : ∃ cl, cu.length = cl := ⟨_, rfl⟩
        have HCL : Hid (cu.length = cl) := hcl
        have hfl : (flat cu).length = cl * 2 := by rw [flat_length, hcl]
        rw [hcl] at k65 hc0 hpl
        have k66 : Calls Tryz.prog 44 #[.slice sa na ca, .int .i64 x, .int .i64 y] wr.drew fun e w' => ∃ g c, e = .returned (.slice (some ⟨g, 0, none⟩) cl c) ∧ (∀ j u, (flat cu)[j]? = some u → w'.cell? ((⟨g, 0, none⟩ : Addr).add j) = some u) ∧ Below W.heap.size W w' ∧ Below wr.heap.size wr w' := k65.mono (fun e w' ⟨s', he, ho, hn, hb⟩ => by
          obtain ⟨g, c, e1, _, _, h3⟩ := own_some ho hc0
          exact ⟨g, c, by rw [he, e1], fun j u hj => by rw [Addr.add_lit, Nat.zero_add]; exact h3 j u hj, hB.drew.trans (hb.mono hsz), (Below.refl wr.heap.size wr).drew.trans hb⟩)
        have HROW : Hid _ := hrow
        have hBdr : Below W.heap.size W wr.drew := hB.drew
        have hcne : cu ≠ [] := fun e => by rw [e] at hcl; simp at hcl; omega
        have HCNE : Hid (cu ≠ []) := hcne
        clear k65 hrow hcl hcne
        go_wp2
        go_region_held_law (fun w' => w'.cell? ⟨bb, off + k * 2, none⟩ = some (.int .i64 x) ∧ w'.cell? ⟨bb, off + k * 2 + 1, none⟩ = some (.int .i64 y)) (exact HK _ (by assumption)) (first
          | (go_at_call 44; refine k66.mono ?_; clear k66; rintro e w1 ⟨g1, cg1, rfl, hnews, hbW, hb1⟩; have hrw1 := own_keepB HROW.out hb1)
          | (refine step_append_lies _ rfl _ _ 23 rfl W.heap.size 55 i0 (.agg #[.int .i64 0, .int .i64 0]) 2 16 Tryz.underlying23 hi0 hz0 hz1 hz2 rfl (by decide) _ _ _ rfl hrw1 ⟨g1, 0, none⟩ cl cg1 (flat cu) rfl hfl hnews flat_one hc0 (by unfold maxLen; omega) (by omega) hbW.size _ rfl ?_; intro g cap w2 hown hgrow hat hlt2; have hB2 : Below W.heap.size W w2 := hbW.grown hgrow hbW.size (fun j e => (World.ownsRow.lt hrw1 j e).1)))
        go_wp2
        go_roundw
        case rel =>
          refine ⟨k + 1, by omega, by go_num, ?_, ?_, hB2⟩
          · rw [HTK.out, List.length_append, HM.out, HCL.out, flat_app]; exact hown
          · rw [HTK.out]; simp [HCNE.out]
        case measure => simp [intOf]; omega
    · obtain rfl : k = n := by omega
      have htk : b.take k = b := by rw [← HN.out]; exact List.take_length
      rw [htk] at hrow hnil
      have hsr := own_srl hrow
      obtain ⟨av, cv, rfl⟩ : ∃ av cv, u5 = .slice av (pieces b a).length cv := by
        obtain ⟨av, cv, e, _⟩ := hsr; exact ⟨av, cv, e⟩
      have kj := joined_ord _ (pieces b a) wr hsr HPO.out HPI.out (by omega)
      obtain ⟨P, hP⟩ : ∃ P, pieces b a = P := ⟨_, rfl⟩
      rw [hP] at kj hle ⊢
      have HP : Hid (pieces b a = P) := hP
      clear htk hsr hrow hnil hP
      go_wp2_with fail
      refine kj.mono ?_
      rintro e w1 ⟨s', rfl, hown, hnl, hb1⟩
      obtain ⟨a1, c1, rfl⟩ : ∃ a1 c1, s' = .slice a1 P.length c1 := by
        rcases hown.2 with ⟨e1, e2⟩ | ⟨g', cap', cur, e1, _⟩
        · exact ⟨none, 0, by rw [e1, e2]⟩
        · exact ⟨_, _, e1⟩
      have hd : decide (4096 < (P.length : Int)) = false := by simp; omega
      have HOWN : Hid _ := hown
      clear kj hown hnl
      go_wp2
      go_ret
      exact ⟨_, rfl, by rw [HP.out]; exact own_base HOWN.out hsz, hB.trans (hb1.mono hsz)⟩
end Go.Proofs.YtkloadlodofipaaGreatDoor
