/-
  What is proved here: Both of the reference, of any ranges. Less of the reference, of any ranges. Alike of the reference and slices.Equal of any ranges, and Same and Within, of both, of any ranges. Within and Without of the reference, of any ranges.
-/
import Derived.Test.YtkloadlodofipaaGreatDoorJa
namespace Go.Proofs.YtkloadlodofipaaGreatDoor
open Go.RowKit Go.Shelf
set_option linter.unusedVariables false

set_option maxRecDepth 100000 in
set_option maxHeartbeats 8000000 in
theorem refboth_tk (s1 s2 : Value) (a0 b0 : List Rg) (W : World) (h1 : Sr W s1 a0) (h2 : Sr W s2 b0) :
    Calls Tryz.prog 43 #[s1, s2] W fun e w' => ∃ s', e = .returned s' ∧ w'.ownsRow W.heap.size 55 2 s' (bothR a0 b0).length (flat (bothR a0 b0)) ∧ Below W.heap.size W w' := by
  obtain ⟨i0, hi0, hz0, hz1, hz2⟩ := info_parts Tryz.info55
  have kt := taken_tk s2 b0 W h2
  have kc := fun x y X (hX : Below W.heap.size W X) => refcut_tk s1 a0 x y X (h1.below hX)
  have kta := fun X (hX : Below W.heap.size W X) => taken_tk s1 a0 X (h1.below hX)
  have ha := tk_right a0
  have hb := tk_right b0
  have hbr : bothR a0 b0 = if (pieces (tk b0) (tk a0)).length ≤ 4096 then pieces (tk b0) (tk a0) else tk a0 := by unfold bothR; rw [ov_pieces (right_ord ha).1 (right_ord hb).1]
  obtain ⟨a, hA⟩ : ∃ a, tk a0 = a := ⟨_, rfl⟩
  obtain ⟨b, hBb⟩ : ∃ b, tk b0 = b := ⟨_, rfl⟩
  rw [hA] at ha hbr
  rw [hBb] at hb kt hbr
  simp only [hA] at kc kta
  have hlb := hb.1
  have hla := ha.1
  have hpo := ord_pieces (right_ord hb).1 (right_ord ha).1
  have hpi := inb_pieces (c := b) (right_ord ha).2
  have hle := both_len (right_ord hb).1 (right_ord ha).1
  obtain ⟨sa, ca, rfl, _⟩ := h1
  obtain ⟨sb0, cb0, rfl, _⟩ := h2
  obtain ⟨na, hna⟩ : ∃ na, a0.length = na := ⟨_, rfl⟩
  obtain ⟨nb0, hnb0⟩ : ∃ nb, b0.length = nb := ⟨_, rfl⟩
  have KC : Hid _ := kc
  have KTA : Hid _ := kta
  have HPO : Hid (Ord (pieces b a)) := hpo
  have HPI : Hid (Inb (pieces b a)) := hpi
  have HBR : Hid (bothR a0 b0 = if (pieces b a).length ≤ 4096 then pieces b a else a) := hbr
  rw [hna] at KC KTA ⊢
  rw [hnb0] at kt ⊢
  clear kc hpo hpi ha hb hna kta hbr hA hBb hnb0
  go_enter Tryz.func43, Tryz.ntmps43
  go_wp2_with fail
  refine kt.mono ?_
  rintro e w0 ⟨sb, n, cb, rfl, hSb, hn', m0, rfl⟩
  have HN : Hid (b.length = n) := hn'.symm
  have HC : Hid (0 < b.length → ∃ b' off, sb = some ⟨b', off, none⟩ ∧ b' < W.heap.size ∧ ∀ i, i < b.length → W.cell? ⟨b', off + i * 2, none⟩ = some (.int .i64 (lo b i)) ∧ W.cell? ⟨b', off + i * 2 + 1, none⟩ = some (.int .i64 (hi b i))) := by
    obtain ⟨a', c', e, hc⟩ := hSb
    injection e with e1 _ _
    rw [e1]; exact hc
  rw [← hn'] at hlb hle
  have hB0 : Below W.heap.size W (W.drewN m0) := below_drewN (Below.refl _ _) m0
  clear kt hSb hn'
  go_wp2
  go_loopw [5, 6] (fun o i wr => ∃ (k : Nat), k ≤ n ∧ i = .int .i64 k ∧ wr.ownsRow W.heap.size 55 2 o (pieces (b.take k) a).length (flat (pieces (b.take k) a)) ∧ (o = .slice none 0 0 ↔ pieces (b.take k) a = []) ∧ Below W.heap.size W wr) (fun _ i _ => n - (intOf i).toNat)
  case atStart => exact ⟨0, Nat.zero_le _, rfl, World.ownsRow_nil _ _ _ _, by simp [pieces], hB0⟩
  case round =>
    clear hB0
    obtain ⟨k, hk, rfl, hrow, hnil, hB⟩ := hrel
    have hsz := hB.size
    by_cases hlt : k < n
    · have hkl : k < b.length := by rw [HN.out]; exact hlt
      obtain ⟨bb, off, rfl, hbb, hcells⟩ := HC.out (by omega)
      obtain ⟨c1, c2⟩ := hcells k hkl
      have d1 := (hB.cell (p := ⟨bb, off + k * 2, none⟩) hbb).trans c1
      have d2 := (hB.cell (p := ⟨bb, off + k * 2 + 1, none⟩) hbb).trans c2
      have htk := pieces_take b a k hkl
      have hpl := pieces_len_take b a (k + 1)
      obtain ⟨x, hx⟩ : ∃ x, lo b k = x := ⟨_, rfl⟩
      obtain ⟨y, hy⟩ : ∃ y, hi b k = y := ⟨_, rfl⟩
      rw [hx] at d1 htk
      rw [hy] at d2 htk
      obtain ⟨os, hos⟩ : ∃ os, pieces (b.take k) a = os := ⟨_, rfl⟩
      obtain ⟨cu, hcu⟩ : ∃ cu, cutL a x y = cu := ⟨_, rfl⟩
      rw [hos] at hrow hnil htk
      rw [hcu] at htk
      rw [htk, List.length_append] at hpl
      have k65 := KC.out x y wr.drew (hB.drew)
      rw [hcu] at k65
      have HTK : Hid (pieces (b.take (k + 1)) a = os ++ cu) := htk
      have hcnm : ∃ ov on oc, u5 = .slice ov on oc ∧ on = os.length ∧ on ≤ oc := by
        rcases hrow.2 with ⟨e1, e2⟩ | ⟨g', cap', cur, e1, _, _, h3, _⟩
        · exact ⟨none, 0, 0, e1, e2.symm, Nat.le_refl _⟩
        · exact ⟨_, _, _, e1, rfl, h3⟩
      obtain ⟨ov, on, oc, rfl, hon, honc⟩ := hcnm
      subst hon
      obtain ⟨m, hm⟩ : ∃ m, os.length = m := ⟨_, rfl⟩
      have HM : Hid (os.length = m) := hm
      rw [hm] at hrow honc hpl hnil ⊢
      clear hm
      have hlt' : (k : Int) < (n : Int) := by omega
      clear hcells c1 c2 hx hy hos hcu htk hkl
      have HK : ∀ X, Below W.heap.size W X → X.cell? ⟨bb, off + k * 2, none⟩ = some (.int .i64 x) ∧ X.cell? ⟨bb, off + k * 2 + 1, none⟩ = some (.int .i64 y) := fun X hX => ⟨(hX.cell (p := ⟨bb, off + k * 2, none⟩) hbb).trans ((hB.cell (p := ⟨bb, off + k * 2, none⟩) hbb).symm.trans d1), (hX.cell (p := ⟨bb, off + k * 2 + 1, none⟩) hbb).trans ((hB.cell (p := ⟨bb, off + k * 2 + 1, none⟩) hbb).symm.trans d2)⟩
      rcases Nat.eq_zero_or_pos cu.length with hc0 | hc0
      · obtain rfl : cu = [] := List.eq_nil_of_length_eq_zero hc0
        have k66 : Calls Tryz.prog 44 #[.slice sa na ca, .int .i64 x, .int .i64 y] wr.drew fun e w' => e = .returned (.slice none 0 0) ∧ Below W.heap.size W w' ∧ Below wr.heap.size wr w' := k65.mono (fun e w' ⟨s', he, _, hn, hb⟩ => ⟨by rw [he, hn.2 rfl], hB.drew.trans (hb.mono hsz), (Below.refl wr.heap.size wr).drew.trans hb⟩)
        have HROW : Hid _ := hrow
        have hBdr : Below W.heap.size W wr.drew := hB.drew
        clear k65 hrow hpl hc0
        go_wp2
        go_region_held_law (fun w' => w'.cell? ⟨bb, off + k * 2, none⟩ = some (.int .i64 x) ∧ w'.cell? ⟨bb, off + k * 2 + 1, none⟩ = some (.int .i64 y)) (exact HK _ (by assumption)) (first
          | (go_at_call 44; refine k66.mono ?_; clear k66; rintro e w1 ⟨rfl, hbW, hb1⟩)
          | (refine step_app_nil _ rfl _ _ rfl _ _ _ honc rfl rfl ?_))
        go_wp2
        go_roundw
        case rel => exact ⟨k + 1, by omega, by go_num, by rw [HTK.out, List.append_nil, HM.out]; exact own_keepB HROW.out hb1, by rw [HTK.out, List.append_nil]; exact hnil, hbW⟩
        case measure => simp [intOf]; omega
      · obtain ⟨cl, hcl⟩ : ∃ cl, cu.length = cl := ⟨_, rfl⟩
        have HCL : Hid (cu.length = cl) := hcl
        have hfl : (flat cu).length = cl * 2 := by rw [flat_length, hcl]
        rw [hcl] at k65 hc0 hpl
        have k66 : Calls Tryz.prog 44 #[.slice sa na ca, .int .i64 x, .int .i64 y] wr.drew fun e w' => ∃ g c, e = .returned (.slice (some ⟨g, 0, none⟩) cl c) ∧ (∀ j u, (flat cu)[j]? = some u → w'.cell? ((⟨g, 0, none⟩ : Addr).add j) = some u) ∧ Below W.heap.size W w' ∧ Below wr.heap.size wr w' := k65.mono (fun e w' ⟨s', he, ho, hn, hb⟩ => by
          obtain ⟨g, c, e1, _, _, h3⟩ := own_some ho hc0
          exact ⟨g, c, by rw [he, e1], fun j u hj => by rw [Addr.add_lit, Nat.zero_add]; exact h3 j u hj, hB.drew.trans (hb.mono hsz), (Below.refl wr.heap.size wr).drew.trans hb⟩)
        have HROW : Hid _ := hrow
        have hBdr : Below W.heap.size W wr.drew := hB.drew
        have hcne : cu ≠ [] := fun e => by rw [e] at hcl; simp at hcl; omega
        have HCNE : Hid (cu ≠ []) := hcne
        clear k65 hrow hcl hcne
        go_wp2
        go_region_held_law (fun w' => w'.cell? ⟨bb, off + k * 2, none⟩ = some (.int .i64 x) ∧ w'.cell? ⟨bb, off + k * 2 + 1, none⟩ = some (.int .i64 y)) (exact HK _ (by assumption)) (first
          | (go_at_call 44; refine k66.mono ?_; clear k66; rintro e w1 ⟨g1, cg1, rfl, hnews, hbW, hb1⟩; have hrw1 := own_keepB HROW.out hb1)
          | (refine step_append_lies _ rfl _ _ 23 rfl W.heap.size 55 i0 (.agg #[.int .i64 0, .int .i64 0]) 2 16 Tryz.underlying23 hi0 hz0 hz1 hz2 rfl (by decide) _ _ _ rfl hrw1 ⟨g1, 0, none⟩ cl cg1 (flat cu) rfl hfl hnews flat_one hc0 (by unfold maxLen; omega) (by omega) hbW.size _ rfl ?_; intro g cap w2 hown hgrow hat hlt2; have hB2 : Below W.heap.size W w2 := hbW.grown hgrow hbW.size (fun j e => (World.ownsRow.lt hrw1 j e).1)))
        go_wp2
        go_roundw
        case rel =>
          refine ⟨k + 1, by omega, by go_num, ?_, ?_, hB2⟩
          · rw [HTK.out, List.length_append, HM.out, HCL.out, flat_app]; exact hown
          · rw [HTK.out]; simp [HCNE.out]
        case measure => simp [intOf]; omega
    · obtain rfl : k = n := by omega
      have htk : b.take k = b := by rw [← HN.out]; exact List.take_length
      rw [htk] at hrow hnil
      have hsr := own_srl hrow
      obtain ⟨av, cv, rfl⟩ : ∃ av cv, u5 = .slice av (pieces b a).length cv := by
        obtain ⟨av, cv, e, _⟩ := hsr; exact ⟨av, cv, e⟩
      have kj := joined_ord _ (pieces b a) wr hsr HPO.out HPI.out (by have := HN.out; omega)
      obtain ⟨P, hP⟩ : ∃ P, pieces b a = P := ⟨_, rfl⟩
      rw [hP] at kj
      simp only [hP]
      have HP : Hid (pieces b a = P) := hP
      obtain ⟨pl, hpl⟩ : ∃ pl, P.length = pl := ⟨_, rfl⟩
      have HPL : Hid (P.length = pl) := hpl
      rw [hpl] at kj
      simp only [hpl]
      clear htk hsr hrow hnil hP hpl
      go_wp2_with fail
      refine kj.mono ?_
      rintro e w1 ⟨s', rfl, hown, hnl, hb1⟩
      obtain ⟨a1, c1, rfl⟩ : ∃ a1 c1, s' = .slice a1 pl c1 := by
        rcases hown.2 with ⟨e1, e2⟩ | ⟨g', cap', cur, e1, _⟩
        · exact ⟨none, 0, by rw [e1, e2]⟩
        · exact ⟨_, _, e1⟩
      have HOWN : Hid _ := hown
      have hBW1 : Below W.heap.size W w1 := hB.trans (hb1.mono hsz)
      clear kj hown hnl
      by_cases hbig : pl ≤ 4096
      · have hd : decide (4096 < (pl : Int)) = false := by simp; omega
        go_wp2
        go_ret
        exact ⟨_, rfl, by rw [HBR.out, HP.out, if_pos (by rw [HPL.out]; exact hbig), HPL.out]; exact own_base HOWN.out hsz, hBW1⟩
      · have hd : decide (4096 < (pl : Int)) = true := by simp; omega
        go_wp2_with fail
        refine (KTA.out w1 hBW1).mono ?_
        rintro e w2 ⟨ta, tn, tc, rfl, hSt, htn, m2, rfl⟩
        have hb2 : Below w1.heap.size w1 (w1.drewN m2) := below_drewN (Below.refl _ _) m2
        have HSt : Hid (Sr (w1.drewN m2) (.slice ta tn tc) a) := hSt.below hb2
        obtain ⟨w3, hw3⟩ : ∃ wd, w1.drewN m2 = wd := ⟨_, rfl⟩
        rw [hw3] at hb2 HSt ⊢
        have hBW3 : Below W.heap.size W w3 := hBW1.trans (hb2.mono hBW1.size)
        clear hSt htn hw3
        go_wp2_with (at_builtin; refine wpList_app_any _ rfl _ _ rfl W.heap.size _ 0 [] rfl (World.ownsRow_nil _ _ _ _) rfl _ a rfl HSt.out (by simp; omega) hBW3.size ?_; intro v4 w4 hown4 hb4 _; rw [List.nil_append] at hown4; obtain ⟨g4, k4, e4, _, _⟩ := own_shape hown4; subst e4; have HOWN4 : Hid _ := hown4; clear hown4)
        go_ret
        refine ⟨_, rfl, ?_, hBW3.trans hb4⟩
        rw [HBR.out, HP.out, if_neg (by rw [HPL.out]; exact hbig)]
        have h9 := HOWN4.out
        simp only [List.length_nil, Nat.zero_add] at h9
        exact h9

set_option maxRecDepth 100000 in
set_option maxHeartbeats 8000000 in
theorem refless_tk (s1 s2 : Value) (a0 b0 : List Rg) (W : World) (h1 : Sr W s1 a0) (h2 : Sr W s2 b0) :
    Calls Tryz.prog 39 #[s1, s2] W fun e w' => LessEnd a0 b0 W e w' := by
  obtain ⟨i0, hi0, hz0, hz1, hz2⟩ := info_parts Tryz.info55
  have kt := taken_tk s2 b0 W h2
  have kn := fun a' n' c' m (hS : Sr W (.slice a' n' c') (tk b0)) => refnot_any (.slice a' n' c') (tk b0) (W.drewN m) (hS.below (below_drewN (Below.refl _ W) m)) (tk_right b0)
  have kc := fun x y X (hX : Below W.heap.size W X) => refcut_tk s1 a0 x y X (h1.below hX)
  have ha := tk_right a0
  have hb := tk_right b0
  have hnf := notL_facts hb
  have hnl : (notL (tk b0)).length ≤ 4097 := Nat.le_trans (notF_len (tk b0) _) (by have := hb.1; omega)
  have hov : ov (tk a0) (notL (tk b0)) = pieces (notL (tk b0)) (tk a0) := ov_pieces (right_ord ha).1 hnf.1
  have hpo : Ord (pieces (notL (tk b0)) (tk a0)) := ord_pieces hnf.1 (right_ord ha).1
  have hpi : Inb (pieces (notL (tk b0)) (tk a0)) := inb_pieces (right_ord ha).2
  have hle : (pieces (notL (tk b0)) (tk a0)).length ≤ 10000 := Nat.le_trans (less_len (right_ord ha).1 (right_ord ha).2 (right_ord hb).1 (right_ord hb).2) (by have := ha.1; have := hb.1; omega)
  obtain ⟨sa, ca, rfl, _⟩ := h1
  obtain ⟨sb, cb, rfl, _⟩ := h2
  obtain ⟨na, hna⟩ : ∃ na, a0.length = na := ⟨_, rfl⟩
  obtain ⟨nb, hnb⟩ : ∃ nb, b0.length = nb := ⟨_, rfl⟩
  obtain ⟨a, hA⟩ : ∃ a, tk a0 = a := ⟨_, rfl⟩
  obtain ⟨c, hc⟩ : ∃ c, notL (tk b0) = c := ⟨_, rfl⟩
  obtain ⟨n, hn⟩ : ∃ n, c.length = n := ⟨_, rfl⟩
  have HN : Hid (c.length = n) := hn
  simp only [hA] at hov hpo hpi hle kc
  rw [hc] at hnl hpo hpi hle hov
  simp only [hc] at kn
  rw [hn] at hnl
  simp only [hn] at kn
  have HOV : Hid (ov (tk a0) (notL (tk b0)) = pieces c a) := by unfold Hid; rw [hA, hc]; exact hov
  have KC : Hid _ := kc
  have KN : Hid _ := kn
  have HPO : Hid (Ord (pieces c a)) := hpo
  have HPI : Hid (Inb (pieces c a)) := hpi
  rw [hna] at KC ⊢
  rw [hnb] at kt ⊢
  clear kc kn hpo hpi ha hb hna hnb hc hn hnf hov hA
  go_enter Tryz.func39, Tryz.ntmps39
  go_wp2_with fail
  refine kt.mono ?_
  rintro e w0 ⟨tb, tn, tc, rfl, hSt, htn, m0, rfl⟩
  have kn := KN.out tb tn tc m0 hSt
  clear kt hSt htn KN
  go_wp2_with fail
  refine kn.mono ?_
  rintro e Wb ⟨sn, rfl, hownN, _, hbN⟩
  have hWb : Below W.heap.size W Wb := (below_drewN (Below.refl _ W) m0).trans hbN
  obtain ⟨an, cn, rfl⟩ : ∃ an cn, sn = .slice an n cn := by
    rcases hownN.2 with ⟨e1, e2⟩ | ⟨g', cap', cur, e1, _⟩
    · exact ⟨none, 0, by rw [e1, e2]⟩
    · exact ⟨_, _, e1⟩
  have hcell : 0 < n → ∃ gn, an = some ⟨gn, 0, none⟩ ∧ gn < Wb.heap.size ∧ ∀ j u, (flat c)[j]? = some u → Wb.cell? ⟨gn, j, none⟩ = some u := fun h0 => by
    obtain ⟨gs, cs, e, _, h2, h3⟩ := own_some hownN h0
    injection e with e1 _ _
    exact ⟨gs, e1, h2, h3⟩
  have HC : Hid _ := hcell
  have hszb := hWb.size
  clear hownN hcell kn hbN
  go_wp2
  go_loopw [6, 8] (fun o i wr => ∃ (k : Nat), k ≤ n ∧ i = .int .i64 k ∧ wr.ownsRow Wb.heap.size 55 2 o (pieces (c.take k) a).length (flat (pieces (c.take k) a)) ∧ Below Wb.heap.size Wb wr) (fun _ i _ => n - (intOf i).toNat)
  case atStart => exact ⟨0, Nat.zero_le _, rfl, World.ownsRow_nil _ _ _ _, Below.refl _ _⟩
  case round =>
    obtain ⟨k, hk, rfl, hrow, hB⟩ := hrel
    have hsz := hB.size
    have hBW : Below W.heap.size W wr := hWb.trans (hB.mono hszb)
    by_cases hlt : k < n
    · have hkl : k < c.length := by rw [HN.out]; exact hlt
      obtain ⟨bb, rfl, hbb, hcells⟩ := HC.out (by omega)
      obtain ⟨f1, f2⟩ := flat_even c k hkl
      have d1 := (hB.cell (p := ⟨bb, k * 2, none⟩) hbb).trans (hcells _ _ f1)
      have d2 := (hB.cell (p := ⟨bb, k * 2 + 1, none⟩) hbb).trans (hcells _ _ f2)
      have htk := pieces_take c a k hkl
      have hpl := pieces_len_take c a (k + 1)
      obtain ⟨x, hx⟩ : ∃ x, lo c k = x := ⟨_, rfl⟩
      obtain ⟨y, hy⟩ : ∃ y, hi c k = y := ⟨_, rfl⟩
      rw [hx] at d1 htk
      rw [hy] at d2 htk
      obtain ⟨os, hos⟩ : ∃ os, pieces (c.take k) a = os := ⟨_, rfl⟩
      obtain ⟨cu, hcu⟩ : ∃ cu, cutL a x y = cu := ⟨_, rfl⟩
      rw [hos] at hrow htk
      rw [hcu] at htk
      rw [htk, List.length_append] at hpl
      have k65 := KC.out x y wr.drew (hBW.drew)
      rw [hcu] at k65
      have HTK : Hid (pieces (c.take (k + 1)) a = os ++ cu) := htk
      have hcnm : ∃ ov on oc, u6 = .slice ov on oc ∧ on = os.length ∧ on ≤ oc := by
        rcases hrow.2 with ⟨e1, e2⟩ | ⟨g', cap', cur, e1, _, _, h3, _⟩
        · exact ⟨none, 0, 0, e1, e2.symm, Nat.le_refl _⟩
        · exact ⟨_, _, _, e1, rfl, h3⟩
      obtain ⟨ov, on, oc, rfl, hon, honc⟩ := hcnm
      subst hon
      obtain ⟨m, hm⟩ : ∃ m, os.length = m := ⟨_, rfl⟩
      have HM : Hid (os.length = m) := hm
      rw [hm] at hrow honc hpl ⊢
      have hlt' : (k : Int) < (n : Int) := by omega
      have HK : ∀ X, Below Wb.heap.size Wb X → X.cell? ⟨bb, k * 2, none⟩ = some (.int .i64 x) ∧ X.cell? ⟨bb, k * 2 + 1, none⟩ = some (.int .i64 y) := fun X hX => ⟨(hX.cell (p := ⟨bb, k * 2, none⟩) hbb).trans ((hB.cell (p := ⟨bb, k * 2, none⟩) hbb).symm.trans d1), (hX.cell (p := ⟨bb, k * 2 + 1, none⟩) hbb).trans ((hB.cell (p := ⟨bb, k * 2 + 1, none⟩) hbb).symm.trans d2)⟩
      clear hcells f1 f2 hx hy hos hcu htk hkl hm
      rcases Nat.eq_zero_or_pos cu.length with hc0 | hc0
      · obtain rfl : cu = [] := List.eq_nil_of_length_eq_zero hc0
        have k66 : Calls Tryz.prog 44 #[.slice sa na ca, .int .i64 x, .int .i64 y] wr.drew fun e w' => e = .returned (.slice none 0 0) ∧ Below Wb.heap.size Wb w' ∧ Below wr.heap.size wr w' := k65.mono (fun e w' ⟨s', he, _, hn, hb⟩ => ⟨by rw [he, hn.2 rfl], hB.drew.trans (hb.mono hsz), (Below.refl wr.heap.size wr).drew.trans hb⟩)
        have HROW : Hid _ := hrow
        have hBdr : Below Wb.heap.size Wb wr.drew := hB.drew
        clear k65 hrow hpl hc0
        go_wp2
        go_region_held_law (fun w' => w'.cell? ⟨bb, k * 2, none⟩ = some (.int .i64 x) ∧ w'.cell? ⟨bb, k * 2 + 1, none⟩ = some (.int .i64 y)) (exact HK _ (by assumption)) (first
          | (go_at_call 44; refine k66.mono ?_; clear k66; rintro e w1 ⟨rfl, hbW, hb1⟩)
          | (refine step_app_nil _ rfl _ _ rfl _ _ _ honc rfl rfl ?_))
        go_wp2
        go_roundw
        case rel => exact ⟨k + 1, by omega, by go_num, by rw [HTK.out, List.append_nil, HM.out]; exact own_keepB HROW.out hb1, hbW⟩
        case measure => simp [intOf]; omega
      · obtain ⟨cl, hcl⟩ : ∃ cl, cu.length = cl := ⟨_, rfl⟩
        have HCL : Hid (cu.length = cl) := hcl
        have hfl : (flat cu).length = cl * 2 := by rw [flat_length, hcl]
        rw [hcl] at k65 hc0 hpl
        have k66 : Calls Tryz.prog 44 #[.slice sa na ca, .int .i64 x, .int .i64 y] wr.drew fun e w' => ∃ g c, e = .returned (.slice (some ⟨g, 0, none⟩) cl c) ∧ (∀ j u, (flat cu)[j]? = some u → w'.cell? ((⟨g, 0, none⟩ : Addr).add j) = some u) ∧ Below Wb.heap.size Wb w' ∧ Below wr.heap.size wr w' := k65.mono (fun e w' ⟨s', he, ho, hn, hb⟩ => by
          obtain ⟨g, c, e1, _, _, h3⟩ := own_some ho hc0
          exact ⟨g, c, by rw [he, e1], fun j u hj => by rw [Addr.add_lit, Nat.zero_add]; exact h3 j u hj, hB.drew.trans (hb.mono hsz), (Below.refl wr.heap.size wr).drew.trans hb⟩)
        have HROW : Hid _ := hrow
        have hBdr : Below Wb.heap.size Wb wr.drew := hB.drew
        clear k65 hrow hcl
        go_wp2
        go_region_held_law (fun w' => w'.cell? ⟨bb, k * 2, none⟩ = some (.int .i64 x) ∧ w'.cell? ⟨bb, k * 2 + 1, none⟩ = some (.int .i64 y)) (exact HK _ (by assumption)) (first
          | (go_at_call 44; refine k66.mono ?_; clear k66; rintro e w1 ⟨g1, cg1, rfl, hnews, hbW, hb1⟩; have hrw1 := own_keepB HROW.out hb1)
          | (refine step_append_lies _ rfl _ _ 23 rfl Wb.heap.size 55 i0 (.agg #[.int .i64 0, .int .i64 0]) 2 16 Tryz.underlying23 hi0 hz0 hz1 hz2 rfl (by decide) _ _ _ rfl hrw1 ⟨g1, 0, none⟩ cl cg1 (flat cu) rfl hfl hnews flat_one hc0 (by unfold maxLen; omega) (by omega) hbW.size _ rfl ?_; intro g cap w2 hown hgrow hat hlt2; have hB2 : Below Wb.heap.size Wb w2 := hbW.grown hgrow hbW.size (fun j e => (World.ownsRow.lt hrw1 j e).1)))
        go_wp2
        go_roundw
        case rel =>
          refine ⟨k + 1, by omega, by go_num, ?_, hB2⟩
          rw [HTK.out, List.length_append, HM.out, HCL.out, flat_app]; exact hown
        case measure => simp [intOf]; omega
    · obtain rfl : k = n := by omega
      have htk : c.take k = c := by rw [← HN.out]; exact List.take_length
      rw [htk] at hrow
      have hsr := own_srl hrow
      obtain ⟨av, cv, e, _⟩ := id hsr
      subst e
      have kj := refnorm_any _ (pieces c a) wr hsr (by omega)
      have hnb : ¬ bad (pieces c a) := fun ⟨r, hr, _, h9⟩ => h9 (HPI.out r hr)
      have hnp : nf (pieces c a) = pieces c a := ord_ext (nf_facts _).1 HPO.out (nf_facts _).2
      obtain ⟨P, hP⟩ : ∃ P, pieces c a = P := ⟨_, rfl⟩
      rw [hP] at kj hnp hnb
      simp only [hP]
      have HP : Hid (pieces c a = P) := hP
      have HNP : Hid (nf P = P) := hnp
      have HNB : Hid (¬ bad P) := hnb
      obtain ⟨pl, hpl⟩ : ∃ pl, P.length = pl := ⟨_, rfl⟩
      rw [hpl] at kj
      simp only [hpl]
      clear htk hsr hrow hP hnp hnb
      go_wp2_with fail
      refine kj.mono ?_
      rintro e w1 ⟨s', cc, rfl, hb1, hcase⟩
      have HCASE : Hid _ := hcase
      clear kj hcase
      go_wp2
      go_ret2
      refine ⟨s', cc, rfl, hBW.trans (hb1.mono (Nat.le_trans hszb hsz)), ?_⟩
      rw [HOV.out, HP.out]
      have h9 := HCASE.out
      rw [HNP.out] at h9
      rcases h9 with h | ⟨_, q2, q3, q4, q5⟩ | ⟨_, q2, q3, q4⟩
      · exact absurd h.1 HNB.out
      · exact .inl ⟨q2, q3, own_base q4 (Nat.le_trans hszb hsz), q5⟩
      · exact .inr ⟨q2, q3, q4⟩

theorem rg_ext {a b : List Rg} (hl : a.length = b.length) (h : ∀ k, k < a.length → lo a k = lo b k ∧ hi a k = hi b k) : a = b := by
  refine List.ext_getElem hl fun i h1 h2 => ?_
  have := h i h1
  rw [lo_get a i h1, lo_get b i h2, hi_get a i h1, hi_get b i h2] at this
  exact Prod.ext this.1 this.2
set_option maxHeartbeats 2000000 in
theorem alikeR_any (s1 s2 : Value) (la lb : List Rg) (w : World) (h1 : Sr w s1 la) (h2 : Sr w s2 lb) (hr1 : la.length ≤ 100000) (hr2 : lb.length ≤ 100000) :
    Calls Tryz.prog 16 #[s1, s2] w fun e w' => ∃ t, e = .returned (.bool t) ∧ (t = true ↔ la = lb) ∧ ∃ nq, w' = w.drewN nq := by
  obtain ⟨a1, c1, rfl, hc1⟩ := h1
  obtain ⟨a2, c2, rfl, hc2⟩ := h2
  obtain ⟨n, hn⟩ : ∃ n, la.length = n := ⟨_, rfl⟩
  obtain ⟨n2, hn2⟩ : ∃ n, lb.length = n := ⟨_, rfl⟩
  have HN : Hid (la.length = n) := hn
  have HN2 : Hid (lb.length = n2) := hn2
  rw [hn] at hc1 hr1 ⊢
  rw [hn2] at hc2 hr2 ⊢
  have HC1 : Hid _ := hc1
  have HC2 : Hid _ := hc2
  clear hn hn2 hc1 hc2
  by_cases hnn : n = n2
  · subst hnn
    go_enter Tryz.func16, Tryz.ntmps16
    go_wp2
    go_loopw [5] (fun i wr => ∃ k : Nat, k ≤ n ∧ i = .int .i64 (k : Int) ∧ (∀ j, j < k → lo la j = lo lb j ∧ hi la j = hi lb j) ∧ ∃ nq, wr = w.drewN nq) (fun i _ => n - (intOf i).toNat)
    case atStart => exact ⟨0, Nat.zero_le _, rfl, fun j hj => by omega, 0, rfl⟩
    case round =>
      obtain ⟨k, hk, rfl, hall, nq0, rfl⟩ := hrel
      have HALL : Hid (∀ j, j < k → lo la j = lo lb j ∧ hi la j = hi lb j) := hall
      clear hall
      by_cases hlt : k < n
      · obtain ⟨b1, o1, rfl, _, hcell1⟩ := HC1.out (by omega)
        obtain ⟨b2, o2, rfl, _, hcell2⟩ := HC2.out (by omega)
        obtain ⟨x1, y1⟩ := hcell1 k hlt
        obtain ⟨x2, y2⟩ := hcell2 k hlt
        have kk : (k : Int) < (n : Int) := by omega
        obtain ⟨p, hp⟩ : ∃ p, lo la k = p := ⟨_, rfl⟩
        obtain ⟨q, hq⟩ : ∃ p, hi la k = p := ⟨_, rfl⟩
        obtain ⟨r, hr⟩ : ∃ p, lo lb k = p := ⟨_, rfl⟩
        obtain ⟨u, hu⟩ : ∃ p, hi lb k = p := ⟨_, rfl⟩
        rw [hp] at x1
        rw [hq] at y1
        rw [hr] at x2
        rw [hu] at y2
        have HP : Hid (lo la k = p ∧ hi la k = q ∧ lo lb k = r ∧ hi lb k = u) := ⟨hp, hq, hr, hu⟩
        clear hcell1 hcell2 hp hq hr hu
        by_cases e1 : p = r
        · subst e1
          by_cases e2 : q = u
          · subst e2
            go_wp2
            go_quiet (fail)
            go_wp2
            go_roundw
            case rel => exact ⟨k + 1, by omega, by go_num, fun j hj => if h : j = k then by obtain ⟨g1, g2, g3, g4⟩ := HP.out; rw [h, g1, g2, g3, g4]; exact ⟨rfl, rfl⟩ else HALL.out j (by omega), _, rfl⟩
            case measure => simp [intOf]; omega
          · have z1 : (q == u) = false := by simpa using e2
            have z2 : (q != u) = true := by simpa using e2
            have z3 : decide (q = u) = false := by simpa using e2
            go_wp2
            go_quiet (fail)
            go_wp2
            (try rw [Exit.noGoto_ret])
            go_ret
            exact ⟨false, rfl, ⟨fun h => by simp at h, fun h => by obtain ⟨g1, g2, g3, g4⟩ := HP.out; rw [h] at g2; exact absurd (g2.symm.trans g4) e2⟩, _, World.drewN_drewN _ _ _⟩
        · have z1 : (p == r) = false := by simpa using e1
          have z2 : (p != r) = true := by simpa using e1
          have z3 : decide (p = r) = false := by simpa using e1
          go_wp2
          go_quiet (fail)
          go_wp2
          (try rw [Exit.noGoto_ret])
          go_ret
          exact ⟨false, rfl, ⟨fun h => by simp at h, fun h => by obtain ⟨g1, g2, g3, g4⟩ := HP.out; rw [h] at g1; exact absurd (g1.symm.trans g3) e1⟩, _, World.drewN_drewN _ _ _⟩
      · obtain rfl : k = n := by omega
        go_wp2
        (try rw [Exit.noGoto_ret])
        go_ret
        exact ⟨true, rfl, ⟨fun _ => rg_ext (by rw [HN.out, HN2.out]) (fun j hj => HALL.out j (by rw [← HN.out]; exact hj)), fun _ => rfl⟩, _, rfl⟩
  · have z1 : ((n : Int) == (n2 : Int)) = false := by simpa using (fun h => hnn (by omega))
    have z2 : ((n : Int) != (n2 : Int)) = true := by simp; omega
    have z3 : decide ((n : Int) = (n2 : Int)) = false := by simp; omega
    go_enter Tryz.func16, Tryz.ntmps16
    go_wp2
    (try rw [Exit.noGoto_ret])
    go_ret
    exact ⟨false, rfl, ⟨fun h => by simp at h, fun h => absurd (by rw [← HN.out, ← HN2.out, h]) hnn⟩, 0, rfl⟩
set_option maxHeartbeats 2000000 in
theorem equalR_any (s1 s2 : Value) (la lb : List Rg) (w : World) (h1 : Sr w s1 la) (h2 : Sr w s2 lb) (hr1 : la.length ≤ 100000) (hr2 : lb.length ≤ 100000) :
    Calls Tryz.prog 70 #[s1, s2] w fun e w' => ∃ t, e = .returned (.bool t) ∧ (t = true ↔ la = lb) ∧ ∃ nq, w' = w.drewN nq := by
  obtain ⟨a1, c1, rfl, hc1⟩ := h1
  obtain ⟨a2, c2, rfl, hc2⟩ := h2
  obtain ⟨n, hn⟩ : ∃ n, la.length = n := ⟨_, rfl⟩
  obtain ⟨n2, hn2⟩ : ∃ n, lb.length = n := ⟨_, rfl⟩
  have HN : Hid (la.length = n) := hn
  have HN2 : Hid (lb.length = n2) := hn2
  rw [hn] at hc1 hr1 ⊢
  rw [hn2] at hc2 hr2 ⊢
  have HC1 : Hid _ := hc1
  have HC2 : Hid _ := hc2
  clear hn hn2 hc1 hc2
  by_cases hnn : n = n2
  · subst hnn
    go_enter Tryz.func70, Tryz.ntmps70
    go_wp2
    go_loopw [13] (fun i wr => ∃ k : Nat, k ≤ n ∧ i = .int .i64 (k : Int) ∧ (∀ j, j < k → lo la j = lo lb j ∧ hi la j = hi lb j) ∧ ∃ nq, wr = w.drewN nq) (fun i _ => n - (intOf i).toNat)
    case atStart => exact ⟨0, Nat.zero_le _, rfl, fun j hj => by omega, 0, rfl⟩
    case round =>
      obtain ⟨k, hk, rfl, hall, nq0, rfl⟩ := hrel
      have HALL : Hid (∀ j, j < k → lo la j = lo lb j ∧ hi la j = hi lb j) := hall
      clear hall
      by_cases hlt : k < n
      · obtain ⟨b1, o1, rfl, _, hcell1⟩ := HC1.out (by omega)
        obtain ⟨b2, o2, rfl, _, hcell2⟩ := HC2.out (by omega)
        obtain ⟨x1, y1⟩ := hcell1 k hlt
        obtain ⟨x2, y2⟩ := hcell2 k hlt
        have kk : (k : Int) < (n : Int) := by omega
        obtain ⟨p, hp⟩ : ∃ p, lo la k = p := ⟨_, rfl⟩
        obtain ⟨q, hq⟩ : ∃ p, hi la k = p := ⟨_, rfl⟩
        obtain ⟨r, hr⟩ : ∃ p, lo lb k = p := ⟨_, rfl⟩
        obtain ⟨u, hu⟩ : ∃ p, hi lb k = p := ⟨_, rfl⟩
        rw [hp] at x1
        rw [hq] at y1
        rw [hr] at x2
        rw [hu] at y2
        have HP : Hid (lo la k = p ∧ hi la k = q ∧ lo lb k = r ∧ hi lb k = u) := ⟨hp, hq, hr, hu⟩
        clear hcell1 hcell2 hp hq hr hu
        by_cases e1 : p = r
        · subst e1
          by_cases e2 : q = u
          · subst e2
            go_wp2
            go_quiet (fail)
            go_wp2
            go_roundw
            case rel => exact ⟨k + 1, by omega, by go_num, fun j hj => if h : j = k then by obtain ⟨g1, g2, g3, g4⟩ := HP.out; rw [h, g1, g2, g3, g4]; exact ⟨rfl, rfl⟩ else HALL.out j (by omega), _, rfl⟩
            case measure => simp [intOf]; omega
          · have z1 : (q == u) = false := by simpa using e2
            have z2 : (q != u) = true := by simpa using e2
            have z3 : decide (q = u) = false := by simpa using e2
            go_wp2
            go_quiet (fail)
            go_wp2
            (try rw [Exit.noGoto_ret])
            go_ret
            exact ⟨false, rfl, ⟨fun h => by simp at h, fun h => by obtain ⟨g1, g2, g3, g4⟩ := HP.out; rw [h] at g2; exact absurd (g2.symm.trans g4) e2⟩, _, World.drewN_drewN _ _ _⟩
        · have z1 : (p == r) = false := by simpa using e1
          have z2 : (p != r) = true := by simpa using e1
          have z3 : decide (p = r) = false := by simpa using e1
          go_wp2
          go_quiet (fail)
          go_wp2
          (try rw [Exit.noGoto_ret])
          go_ret
          exact ⟨false, rfl, ⟨fun h => by simp at h, fun h => by obtain ⟨g1, g2, g3, g4⟩ := HP.out; rw [h] at g1; exact absurd (g1.symm.trans g3) e1⟩, _, World.drewN_drewN _ _ _⟩
      · obtain rfl : k = n := by omega
        go_wp2
        (try rw [Exit.noGoto_ret])
        go_ret
        exact ⟨true, rfl, ⟨fun _ => rg_ext (by rw [HN.out, HN2.out]) (fun j hj => HALL.out j (by rw [← HN.out]; exact hj)), fun _ => rfl⟩, _, rfl⟩
  · have z1 : ((n : Int) == (n2 : Int)) = false := by simpa using (fun h => hnn (by omega))
    have z2 : ((n : Int) != (n2 : Int)) = true := by simp; omega
    have z3 : decide ((n : Int) = (n2 : Int)) = false := by simp; omega
    go_enter Tryz.func70, Tryz.ntmps70
    go_wp2
    (try rw [Exit.noGoto_ret])
    go_ret
    exact ⟨false, rfl, ⟨fun h => by simp at h, fun h => absurd (by rw [← HN.out, ← HN2.out, h]) hnn⟩, 0, rfl⟩
set_option maxHeartbeats 1000000 in
theorem domsame_any (s1 s2 : Value) (la lb : List Rg) (w : World) (h1 : Sr w s1 la) (h2 : Sr w s2 lb) (hf1 : FitsR la) (hf2 : FitsR lb) :
    Calls Tryz.prog 47 #[s1, s2] w fun e w' => ∃ t, e = .returned (.bool t) ∧ (t = true ↔ tk la = tk lb) ∧ Below w.heap.size w w' := by
  have hk1 := known_tk s1 la w h1 hf1
  have hk2 := fun W (hW : Below w.heap.size w W) => known_tk s2 lb W (h2.below hW) hf2
  obtain ⟨a1, c1, rfl, _⟩ := h1
  obtain ⟨a2, c2, rfl, _⟩ := h2
  clear hf1 hf2
  go_enter Tryz.func47, Tryz.ntmps47
  go_wp2_with fail
  refine hk1.mono ?_
  clear hk1
  rintro e w1 ⟨a, n, c, rfl, hS1, hn1, hb1⟩
  have HS1 : Hid (Sr w (.slice a n c) (tk la)) := hS1
  clear hS1 hn1
  go_wp2_with fail
  refine (hk2 _ hb1).mono ?_
  clear hk2
  rintro e w2 ⟨a', n', c', rfl, hS2, hn2, hb2⟩
  have hb12 : Below w.heap.size w w2 := hb1.trans (hb2.mono hb1.size)
  have HS2 : Hid (Sr w2 (.slice a' n' c') (tk lb)) := hS2.below hb2
  clear hS2 hn2 hb2
  go_wp2_with fail
  refine (equalR_any _ _ (tk la) (tk lb) _ (HS1.out.below hb12) HS2.out (by have := tk_len la; omega) (by have := tk_len lb; omega)).mono ?_
  rintro e w3 ⟨t, rfl, ht, nq, rfl⟩
  have HT : Hid _ := ht
  clear ht
  go_wp2
  go_ret
  exact ⟨t, rfl, HT.out, below_drewN hb12 _⟩
set_option maxHeartbeats 1000000 in
theorem refsame_any (s1 s2 : Value) (la lb : List Rg) (w : World) (h1 : Sr w s1 la) (h2 : Sr w s2 lb) :
    Calls Tryz.prog 48 #[s1, s2] w fun e w' => ∃ t, e = .returned (.bool t) ∧ (t = true ↔ tk la = tk lb) ∧ Below w.heap.size w w' := by
  have hk1 := taken_tk s1 la w h1
  have hk2 := fun W (hW : Below w.heap.size w W) => taken_tk s2 lb W (h2.below hW)
  obtain ⟨a1, c1, rfl, _⟩ := h1
  obtain ⟨a2, c2, rfl, _⟩ := h2
  go_enter Tryz.func48, Tryz.ntmps48
  go_wp2_with fail
  refine hk1.mono ?_
  clear hk1
  rintro e w1 ⟨a, n, c, rfl, hS1, hn1, m1, rfl⟩
  have hb1 : Below w.heap.size w (w.drewN m1) := below_drewN (Below.refl _ _) m1
  obtain ⟨w1, hw1⟩ : ∃ wd, w.drewN m1 = wd := ⟨_, rfl⟩
  rw [hw1] at hb1 ⊢
  have HS1 : Hid (Sr w (.slice a n c) (tk la)) := hS1
  clear hS1 hn1 hw1
  go_wp2_with fail
  refine (hk2 _ hb1).mono ?_
  clear hk2
  rintro e w2 ⟨a', n', c', rfl, hS2, hn2, m2, rfl⟩
  have hb2 : Below w1.heap.size w1 (w1.drewN m2) := below_drewN (Below.refl _ _) m2
  obtain ⟨w2, hw2⟩ : ∃ wd, w1.drewN m2 = wd := ⟨_, rfl⟩
  rw [hw2] at hb2 ⊢
  have hb12 : Below w.heap.size w w2 := hb1.trans (hb2.mono hb1.size)
  have HS2 : Hid (Sr w2 (.slice a' n' c') (tk lb)) := hS2.below hb2
  clear hS2 hn2 hb2 hw2
  go_wp2_with fail
  refine (alikeR_any _ _ (tk la) (tk lb) _ (HS1.out.below hb12) HS2.out (by have := tk_len la; omega) (by have := tk_len lb; omega)).mono ?_
  rintro e w3 ⟨t, rfl, ht, nq, rfl⟩
  have HT : Hid _ := ht
  clear ht
  go_wp2
  go_ret
  exact ⟨t, rfl, HT.out, below_drewN hb12 _⟩

set_option maxRecDepth 100000 in
set_option maxHeartbeats 4000000 in
theorem refwithin_any (s1 s2 : Value) (la lb : List Rg) (w : World) (h1 : Sr w s1 la) (h2 : Sr w s2 lb) :
    Calls Tryz.prog 50 #[s1, s2] w fun e w' => ∃ t, e = .returned (.bool t) ∧ (t = true ↔ win (tk la) (tk lb)) ∧ Below w.heap.size w w' := by
  have hk1 := taken_tk s1 la w h1
  have hk2 := fun W (hW : Below w.heap.size w W) => taken_tk s2 lb W (h2.below hW)
  have hla := tk_len la
  have hlb := tk_len lb
  obtain ⟨A, hA⟩ : ∃ A, tk la = A := ⟨_, rfl⟩
  obtain ⟨B, hB⟩ : ∃ B, tk lb = B := ⟨_, rfl⟩
  rw [hA] at hla hk1 ⊢
  rw [hB] at hlb ⊢
  simp only [hB] at hk2
  obtain ⟨a1, c1, rfl, _⟩ := h1
  obtain ⟨a2, c2, rfl, _⟩ := h2
  clear hA hB
  go_enter Tryz.func50, Tryz.ntmps50
  go_wp2_with fail
  refine hk1.mono ?_
  clear hk1
  rintro e w1 ⟨a0, n1, d0, rfl, hS1, hn1, m1, rfl⟩
  have hb1 : Below w.heap.size w (w.drewN m1) := below_drewN (Below.refl _ _) m1
  have HS1 : Hid (Sr w (.slice a0 n1 d0) A) := hS1
  have HN1 : Hid (n1 = A.length) := hn1
  rw [← hn1] at hla
  obtain ⟨w1, hw1⟩ : ∃ wd, w.drewN m1 = wd := ⟨_, rfl⟩
  rw [hw1] at hb1 ⊢
  clear hS1 hn1 hw1
  go_wp2_with fail
  refine (hk2 _ hb1).mono ?_
  clear hk2
  rintro e w2 ⟨b0, n2, c0, rfl, hS2, hn2, m2, rfl⟩
  have hb2 : Below w1.heap.size w1 (w1.drewN m2) := below_drewN (Below.refl _ _) m2
  have HN2 : Hid (n2 = B.length) := hn2
  rw [← hn2] at hlb
  obtain ⟨W1, hw2⟩ : ∃ wd, w1.drewN m2 = wd := ⟨_, rfl⟩
  rw [hw2] at hb2 ⊢
  have hbW : Below w.heap.size w W1 := hb1.trans (hb2.mono hb1.size)
  have HSA : Hid (Sr W1 (.slice a0 n1 d0) A) := HS1.out.below hbW
  have HSB : Hid (Sr W1 (.slice b0 n2 c0) B) := hS2.below hb2
  clear hS2 hn2 hw2 HS1 hb1 hb2
  go_wp2
  go_loopw [5, 6, 7] (fun i _ _ wr => ∃ (k m : Nat), k ≤ n1 ∧ i = .int .i64 k ∧ (∀ j, j < k → ∃ t, t < B.length ∧ holdsIn A B t j) ∧ wr = W1.drewN m) (fun i _ _ _ => n1 - (intOf i).toNat)
  case atStart => exact ⟨0, 0, by omega, rfl, fun j hj => by omega, rfl⟩
  case round =>
    obtain ⟨k, m, hk, rfl, hdone, rfl⟩ := hrel
    have HDONE : Hid (∀ j, j < k → ∃ t, t < B.length ∧ holdsIn A B t j) := hdone
    clear hdone
    by_cases hlt : k < n1
    · have HLT : Hid (k < A.length) := by unfold Hid; rw [← HN1.out]; exact hlt
      have hcA : ∃ b off, a0 = some ⟨b, off, none⟩ ∧ W1.cell? ⟨b, off + k * 2, none⟩ = some (.int .i64 (lo A k)) ∧ W1.cell? ⟨b, off + k * 2 + 1, none⟩ = some (.int .i64 (hi A k)) := by
        obtain ⟨a', c', e, hc⟩ := HSA.out
        injection e with e1 e2 e3
        obtain ⟨b, off, e, hbl, hcell⟩ := hc (by have := HLT.out; omega)
        exact ⟨b, off, e1.trans e, hcell k HLT.out⟩
      obtain ⟨ba, oa, rfl, d1, d2⟩ := hcA
      obtain ⟨x, hx⟩ : ∃ x, lo A k = x := ⟨_, rfl⟩
      obtain ⟨y, hy⟩ : ∃ y, hi A k = y := ⟨_, rfl⟩
      rw [hx] at d1; rw [hy] at d2
      have HX : Hid (lo A k = x) := hx
      have HY : Hid (hi A k = y) := hy
      have hlt' : (k : Int) < (n1 : Int) := by omega
      clear hx hy
      go_wp2
      go_loopw [6, 7] (fun ok i w3 => ∃ (t : Nat) (bb : Bool) (m : Nat), t ≤ n2 ∧ ok = .bool bb ∧ i = .int .i64 t ∧ (bb = true ↔ ∃ j, j < t ∧ holdsIn A B j k) ∧ w3 = W1.drewN m) (fun _ i _ => n2 - (intOf i).toNat)
      case atStart => exact ⟨0, false, m, Nat.zero_le _, rfl, rfl, ⟨fun h => by simp at h, fun ⟨j, hj, _⟩ => by omega⟩, rfl⟩
      case round =>
        obtain ⟨t, bb, m', ht, rfl, rfl, hiff, rfl⟩ := hrel
        have HIFF : Hid (bb = true ↔ ∃ j, j < t ∧ holdsIn A B j k) := hiff
        clear hiff
        by_cases htl : t < n2
        · have HTL : Hid (t < B.length) := by unfold Hid; rw [← HN2.out]; exact htl
          have hcB : ∃ b off, b0 = some ⟨b, off, none⟩ ∧ W1.cell? ⟨b, off + t * 2, none⟩ = some (.int .i64 (lo B t)) ∧ W1.cell? ⟨b, off + t * 2 + 1, none⟩ = some (.int .i64 (hi B t)) := by
            obtain ⟨a', c', e, hc⟩ := HSB.out
            injection e with e1 e2 e3
            obtain ⟨b, off, e, hbl, hcell⟩ := hc (by have := HTL.out; omega)
            exact ⟨b, off, e1.trans e, hcell t HTL.out⟩
          obtain ⟨bv, ob, rfl, f1, f2⟩ := hcB
          obtain ⟨p, hp⟩ : ∃ p, lo B t = p := ⟨_, rfl⟩
          obtain ⟨q, hq⟩ : ∃ q, hi B t = q := ⟨_, rfl⟩
          rw [hp] at f1; rw [hq] at f2
          have HH : Hid (holdsIn A B t k ↔ p ≤ x ∧ y ≤ q) := by unfold Hid holdsIn; rw [hp, hq, HX.out, HY.out]
          have htl' : (t : Int) < (n2 : Int) := by omega
          clear hp hq
          cases bb with
          | true =>
            go_wp2
            go_quiet (fail)
            go_wp2
            go_roundw
            case rel => exact ⟨t + 1, true, _, by omega, rfl, by go_num, ⟨fun _ => by obtain ⟨j, hj, hh⟩ := HIFF.out.1 (by first | rfl | trivial); exact ⟨j, by omega, hh⟩, fun _ => rfl⟩, rfl⟩
            case measure => simp [intOf]; omega
          | false =>
            have hnone : ∀ j, j < t → ¬ holdsIn A B j k := fun j hj hh => by have := HIFF.out.2 ⟨j, hj, hh⟩; simp at this
            have HNO : Hid (∀ j, j < t → ¬ holdsIn A B j k) := hnone
            clear hnone
            by_cases g1 : p ≤ x
            · have e1 : decide (p ≤ x) = true := by simpa using g1
              by_cases g2 : y ≤ q
              · have e2 : decide (y ≤ q) = true := by simpa using g2
                go_wp2
                go_quiet (fail)
                go_wp2
                go_roundw
                case rel => exact ⟨t + 1, true, _, by omega, rfl, by go_num, ⟨fun _ => ⟨t, by omega, HH.out.2 ⟨g1, g2⟩⟩, fun _ => rfl⟩, rfl⟩
                case measure => simp [intOf]; omega
              · have e2 : decide (y ≤ q) = false := by simpa using g2
                go_wp2
                go_quiet (fail)
                go_wp2
                go_roundw
                case rel => exact ⟨t + 1, false, _, by omega, rfl, by go_num, ⟨fun h => by simp at h, fun ⟨j, hj, hh⟩ => if h : j = t then by subst h; have := (HH.out.1 hh).2; omega else absurd hh (HNO.out j (by omega))⟩, rfl⟩
                case measure => simp [intOf]; omega
            · have e1 : decide (p ≤ x) = false := by simpa using g1
              go_wp2
              go_quiet (fail)
              go_wp2
              go_roundw
              case rel => exact ⟨t + 1, false, _, by omega, rfl, by go_num, ⟨fun h => by simp at h, fun ⟨j, hj, hh⟩ => if h : j = t then by subst h; have := (HH.out.1 hh).1; omega else absurd hh (HNO.out j (by omega))⟩, rfl⟩
              case measure => simp [intOf]; omega
        · obtain rfl : t = n2 := by omega
          cases bb with
          | true =>
            have hyes : ∃ j, j < B.length ∧ holdsIn A B j k := by obtain ⟨j, hj, hh⟩ := HIFF.out.1 rfl; exact ⟨j, by rw [← HN2.out]; exact hj, hh⟩
            have HYES : Hid (∃ j, j < B.length ∧ holdsIn A B j k) := hyes
            clear hyes
            go_wp2
            go_roundw
            case rel => exact ⟨k + 1, _, by omega, by go_num, fun j hj => if h : j = k then by rw [h]; exact HYES.out else HDONE.out j (by omega), rfl⟩
            case measure => simp [intOf]; omega
          | false =>
            go_wp2
            (try rw [Exit.noGoto_ret])
            go_ret
            refine ⟨false, rfl, ⟨fun h => by simp at h, fun hw => ?_⟩, below_drewN hbW _⟩
            obtain ⟨j, hj, hh⟩ := hw k HLT.out
            exact HIFF.out.2 ⟨j, by rw [HN2.out]; exact hj, hh⟩
    · obtain rfl : k = n1 := by omega
      have hdn : win A B := fun i hi' => HDONE.out i (by rw [HN1.out]; exact hi')
      have HDN : Hid (win A B) := hdn
      clear hdn
      go_wp2
      (try rw [Exit.noGoto_ret])
      go_ret
      exact ⟨true, rfl, ⟨fun _ => HDN.out, fun _ => rfl⟩, below_drewN hbW _⟩
end Go.Proofs.YtkloadlodofipaaGreatDoor
