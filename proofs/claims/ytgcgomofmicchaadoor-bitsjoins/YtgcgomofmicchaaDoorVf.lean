/-
  What is proved here: what Norm and Less of the reference return of right ranges.
-/
import Derived.Test.YtgcgomofmicchaaDoorVe
import Derived.Test.YtgcgomofmicchaaDoorYd
namespace Go.Proofs.YtgcgomofmicchaaDoor
open Go.RowKit Go.Shelf
set_option linter.unusedVariables false

theorem inV_is (v : Int) (h1 : -1000000 ≤ v) (h2 : v ≤ 1000000) : inV v = true := by unfold inV; simp; omega

set_option maxRecDepth 100000 in
set_option maxHeartbeats 4000000 in
theorem refnorm_ord (s : Value) (l : List Rg) (W : World) (h : Sr W s l) (ho : Ord l) (hib : Inb l) (hlen : l.length ≤ 4096) :
    Calls Tryd.prog 66 #[s] W fun e w' => ∃ s', e = .returned (.tuple #[s', .int .i64 0]) ∧ w'.ownsRow W.heap.size 62 2 s' l.length (flat l) ∧ Below W.heap.size W w' := by
  obtain ⟨i0, hi0, hz0, hz1, hz2⟩ := info_parts Tryd.info62
  obtain ⟨sa, cap, rfl, hcell⟩ := h
  have hin := fun k (hk : k < l.length) => by have q := hib l[k] (List.getElem_mem hk); rw [← lo_get l k hk, ← hi_get l k hk] at q; exact q
  have hne := fun k (hk : k < l.length) => by have q := ho.1 l[k] (List.getElem_mem hk); rw [← lo_get l k hk, ← hi_get l k hk] at q; exact q
  obtain ⟨n, hn⟩ : ∃ n, l.length = n := ⟨_, rfl⟩
  have HN : Hid (l.length = n) := hn
  have HC : Hid _ := hcell
  have HIN : Hid _ := hin
  have HNE : Hid _ := hne
  have HO : Hid (Ord l) := ho
  have HI : Hid (Inb l) := hib
  rw [hn] at hlen ⊢
  clear hn hcell hin hne ho hib
  go_enter Tryd.func66, Tryd.ntmps66
  go_wp2
  go_loopw [4, 5] (fun o i wr => ∃ (k : Nat), k ≤ n ∧ i = .int .i64 k ∧ wr.ownsRow W.heap.size 62 2 o k (flat (l.take k)) ∧ Below W.heap.size W wr) (fun _ i _ => n - (intOf i).toNat)
  case atStart => exact ⟨0, Nat.zero_le _, rfl, World.ownsRow_nil _ _ _ _, Below.refl _ _⟩
  case round =>
    obtain ⟨k, hk, rfl, hrow, hB⟩ := hrel
    have hsz := hB.size
    by_cases hlt : k < n
    · have hkl : k < l.length := by rw [HN.out]; exact hlt
      obtain ⟨sb, off, rfl, hb, hcells⟩ := HC.out (by omega)
      obtain ⟨c1, c2⟩ := hcells k hkl
      have d1 := (hB.cell (p := ⟨sb, off + k * 2, none⟩) hb).trans c1
      have d2 := (hB.cell (p := ⟨sb, off + k * 2 + 1, none⟩) hb).trans c2
      have htk := take_two l k hkl
      obtain ⟨n1, n2⟩ := HIN.out k hkl
      have n3 := HNE.out k hkl
      obtain ⟨x, hx⟩ : ∃ x, lo l k = x := ⟨_, rfl⟩
      obtain ⟨y, hy⟩ : ∃ y, hi l k = y := ⟨_, rfl⟩
      rw [hx] at d1 htk n1 n3
      rw [hy] at d2 htk n2 n3
      have HTK : Hid (l.take (k + 1) = l.take k ++ [(x, y)]) := htk
      have hlt' : (k : Int) < (n : Int) := by omega
      have hd : decide (y < x) = false := by simp; omega
      have ki := fun X => in_any x X
      have kj := fun X => in_any y X
      simp only [inV_is x n1 (by omega)] at ki
      simp only [inV_is y (by omega) n2] at kj
      clear hcells c1 c2 hx hy htk hkl
      go_wp2
      go_quiet (fail)
      obtain ⟨Wd, hWd⟩ : ∃ Wd, wr.drewN nq = Wd := ⟨_, rfl⟩
      have hBd : Below W.heap.size W Wd := by rw [← hWd]; exact below_drewN hB nq
      have d1' : Wd.cell? ⟨sb, off + k * 2, none⟩ = some (.int .i64 x) := by rw [← hWd]; exact d1
      have d2' : Wd.cell? ⟨sb, off + k * 2 + 1, none⟩ = some (.int .i64 y) := by rw [← hWd]; exact d2
      have hrow' : Wd.ownsRow W.heap.size 62 2 u4 k (flat (l.take k)) := by rw [← hWd]; exact hrow
      rw [hWd]
      clear hWd d1 d2 hrow
      go_wp2_with fail
      refine (ki _).mono ?_
      rintro e Wd ⟨rfl, rfl⟩
      go_wp2_with fail
      refine (kj _).mono ?_
      rintro e Wd ⟨rfl, rfl⟩
      clear ki kj
      go_wp2_with (at_builtin; refine wpList_append_own _ rfl _ _ 22 rfl W.heap.size 62 i0 (.agg #[.int .i64 0, .int .i64 0]) 2 16 Tryd.underlying22 hi0 hz0 hz1 hz2 rfl (by decide) _ _ _ rfl (World.ownsRow.alloc hrow' _) ⟨Wd.heap.size, 0, none⟩ 1 1 [.int .i64 x, .int .i64 y] rfl rfl (cell_two_new _ _ _ _) (by simp [Value.oneCell']) (by unfold maxLen; omega) (by omega) (by have := hBd.size; simp; omega) ?_; intro v' w1 hown' hgrow hnl; have hB1 : Below W.heap.size W w1 := (hBd.alloc hBd.size _).grown hgrow (by have := hBd.size; simp; omega) (fun j e => (World.ownsRow.lt hrow' j e).1))
      go_roundw
      case rel => exact ⟨k + 1, by omega, by go_num, by rw [HTK.out, flat_two]; exact hown', hB1⟩
      case measure => simp [intOf]; omega
    · obtain rfl : k = n := by omega
      have htk : l.take k = l := by rw [← HN.out]; exact List.take_length
      rw [htk] at hrow
      have hrl : wr.ownsRow W.heap.size 62 2 u4 l.length (flat l) := by rw [HN.out]; exact hrow
      have hsr := own_srl hrl
      obtain ⟨av, cv, e, _⟩ := id hsr
      subst e
      have kj := joined_ord _ l wr hsr HO.out HI.out (by rw [HN.out]; omega)
      rw [HN.out] at kj ⊢
      clear htk hsr hrl hrow
      go_wp2_with fail
      refine kj.mono ?_
      rintro e w1 ⟨s', rfl, hown, hnl, hb1⟩
      obtain ⟨a1, c1, rfl⟩ : ∃ a1 c1, s' = .slice a1 k c1 := by
        rcases hown.2 with ⟨e1, e2⟩ | ⟨g', cap', cur, e1, _⟩
        · exact ⟨none, 0, by rw [e1, e2]⟩
        · exact ⟨_, _, e1⟩
      have hd : decide (4096 < (k : Int)) = false := by simp; omega
      have HOWN : Hid _ := hown
      clear kj hown hnl
      go_wp2
      go_ret2
      exact ⟨_, rfl, own_base HOWN.out hsz, hB.trans (hb1.mono hsz)⟩

set_option maxRecDepth 100000 in
set_option maxHeartbeats 8000000 in
theorem refless_any (s1 s2 : Value) (a b : List Rg) (W : World) (h1 : Sr W s1 a) (h2 : Sr W s2 b) (ha : Right a) (hb : Right b) (hle : (pieces (notL b) a).length ≤ 4096) :
    Calls Tryd.prog 28 #[s1, s2] W fun e w' => ∃ s', e = .returned (.tuple #[s', .int .i64 0]) ∧ w'.ownsRow W.heap.size 62 2 s' (pieces (notL b) a).length (flat (pieces (notL b) a)) ∧ Below W.heap.size W w' := by
  obtain ⟨i0, hi0, hz0, hz1, hz2⟩ := info_parts Tryd.info62
  have kt := taken_yes s2 b W h2 hb
  have kn := fun m => refnot_any s2 b (W.drewN m) (h2.below (below_drewN (Below.refl _ W) m)) hb
  have kc := fun x y X (hX : Below W.heap.size W X) => refcut_any s1 a x y X (h1.below hX) ha
  have hnf := notF_facts b (-1000000) (right_ord hb).1 (right_ord hb).2 (fun r hr => ((right_ord hb).2 r hr).1)
  have hnl : (notL b).length ≤ 100000 := by
    have h3 := up_le (ord_los hnf.1) (S := -1000000 :: b.map (fun r => r.2 + 1)) (fun v hv => by
      rw [List.mem_map] at hv
      obtain ⟨p, hp, rfl⟩ := hv
      rcases notF_mem b (-1000000) p (right_ord hb).1.1 hp with e | ⟨q, hq, e⟩
      · rw [e]; simp
      · rw [e]; exact List.mem_cons_of_mem _ (List.mem_map.2 ⟨q, hq, rfl⟩))
    have h4 := hb.1
    have e5 : (-1000000 :: b.map (fun r : Rg => r.2 + 1)).length = b.length + 1 := by simp
    rw [e5, List.length_map] at h3
    show (notF (-1000000) b).length ≤ 100000
    omega
  have hpo : Ord (pieces (notL b) a) := ord_pieces hnf.1 (right_ord ha).1
  have hpi : Inb (pieces (notL b) a) := inb_pieces (right_ord ha).2
  obtain ⟨sa, ca, rfl, _⟩ := h1
  obtain ⟨sb, cb, rfl, _⟩ := h2
  obtain ⟨na, hna⟩ : ∃ na, a.length = na := ⟨_, rfl⟩
  obtain ⟨nb, hnb⟩ : ∃ nb, b.length = nb := ⟨_, rfl⟩
  obtain ⟨c, hc⟩ : ∃ c, notL b = c := ⟨_, rfl⟩
  obtain ⟨n, hn⟩ : ∃ n, c.length = n := ⟨_, rfl⟩
  have HN : Hid (c.length = n) := hn
  have HCB : Hid (notL b = c) := hc
  rw [hc] at hnl hpo hpi hle ⊢
  simp only [hc] at kn
  rw [hn] at hnl
  simp only [hn] at kn
  have KC : Hid _ := kc
  have HPO : Hid (Ord (pieces c a)) := hpo
  have HPI : Hid (Inb (pieces c a)) := hpi
  rw [hna] at KC ⊢
  rw [hnb] at kt ⊢
  simp only [hnb] at kn
  clear kc hpo hpi ha hb hna hnb hc hn hnf
  go_enter Tryd.func28, Tryd.ntmps28
  go_wp2_with fail
  refine kt.mono ?_
  rintro e w0 ⟨rfl, m0, rfl⟩
  clear kt
  go_wp2_with fail
  refine (kn m0).mono ?_
  rintro e Wb ⟨sn, rfl, hownN, _, hbN⟩
  have hWb : Below W.heap.size W Wb := (below_drewN (Below.refl _ W) m0).trans hbN
  obtain ⟨an, cn, rfl⟩ : ∃ an cn, sn = .slice an n cn := by
    rcases hownN.2 with ⟨e1, e2⟩ | ⟨g', cap', cur, e1, _⟩
    · exact ⟨none, 0, by rw [e1, e2]⟩
    · exact ⟨_, _, e1⟩
  have hcell : 0 < n → ∃ gn, an = some ⟨gn, 0, none⟩ ∧ gn < Wb.heap.size ∧ ∀ j u, (flat c)[j]? = some u → Wb.cell? ⟨gn, j, none⟩ = some u := fun h0 => by
    obtain ⟨gs, cs, e, _, h2, h3⟩ := own_some hownN h0
    injection e with e1 _ _
    exact ⟨gs, e1, h2, h3⟩
  have HC : Hid _ := hcell
  have hszb := hWb.size
  clear hownN hcell kn hbN
  go_wp2
  go_loopw [6, 8] (fun o i wr => ∃ (k : Nat), k ≤ n ∧ i = .int .i64 k ∧ wr.ownsRow Wb.heap.size 62 2 o (pieces (c.take k) a).length (flat (pieces (c.take k) a)) ∧ Below Wb.heap.size Wb wr) (fun _ i _ => n - (intOf i).toNat)
  case atStart => exact ⟨0, Nat.zero_le _, rfl, World.ownsRow_nil _ _ _ _, Below.refl _ _⟩
  case round =>
    obtain ⟨k, hk, rfl, hrow, hB⟩ := hrel
    have hsz := hB.size
    have hBW : Below W.heap.size W wr := hWb.trans (hB.mono hszb)
    by_cases hlt : k < n
    · have hkl : k < c.length := by rw [HN.out]; exact hlt
      obtain ⟨bb, rfl, hbb, hcells⟩ := HC.out (by omega)
      obtain ⟨f1, f2⟩ := flat_even c k hkl
      have d1 := (hB.cell (p := ⟨bb, k * 2, none⟩) hbb).trans (hcells _ _ f1)
      have d2 := (hB.cell (p := ⟨bb, k * 2 + 1, none⟩) hbb).trans (hcells _ _ f2)
      have htk := pieces_take c a k hkl
      have hpl := pieces_len_take c a (k + 1)
      obtain ⟨x, hx⟩ : ∃ x, lo c k = x := ⟨_, rfl⟩
      obtain ⟨y, hy⟩ : ∃ y, hi c k = y := ⟨_, rfl⟩
      rw [hx] at d1 htk
      rw [hy] at d2 htk
      obtain ⟨os, hos⟩ : ∃ os, pieces (c.take k) a = os := ⟨_, rfl⟩
      obtain ⟨cu, hcu⟩ : ∃ cu, cutL a x y = cu := ⟨_, rfl⟩
      rw [hos] at hrow htk
      rw [hcu] at htk
      rw [htk, List.length_append] at hpl
      have k65 := KC.out x y wr.drew (hBW.drew)
      rw [hcu] at k65
      have HTK : Hid (pieces (c.take (k + 1)) a = os ++ cu) := htk
      have hcnm : ∃ ov on oc, u6 = .slice ov on oc ∧ on = os.length ∧ on ≤ oc := by
        rcases hrow.2 with ⟨e1, e2⟩ | ⟨g', cap', cur, e1, _, _, h3, _⟩
        · exact ⟨none, 0, 0, e1, e2.symm, Nat.le_refl _⟩
        · exact ⟨_, _, _, e1, rfl, h3⟩
      obtain ⟨ov, on, oc, rfl, hon, honc⟩ := hcnm
      subst hon
      obtain ⟨m, hm⟩ : ∃ m, os.length = m := ⟨_, rfl⟩
      have HM : Hid (os.length = m) := hm
      rw [hm] at hrow honc hpl ⊢
      have hlt' : (k : Int) < (n : Int) := by omega
      have HK : ∀ X, Below Wb.heap.size Wb X → X.cell? ⟨bb, k * 2, none⟩ = some (.int .i64 x) ∧ X.cell? ⟨bb, k * 2 + 1, none⟩ = some (.int .i64 y) := fun X hX => ⟨(hX.cell (p := ⟨bb, k * 2, none⟩) hbb).trans ((hB.cell (p := ⟨bb, k * 2, none⟩) hbb).symm.trans d1), (hX.cell (p := ⟨bb, k * 2 + 1, none⟩) hbb).trans ((hB.cell (p := ⟨bb, k * 2 + 1, none⟩) hbb).symm.trans d2)⟩
      clear hcells f1 f2 hx hy hos hcu htk hkl hm
      rcases Nat.eq_zero_or_pos cu.length with hc0 | hc0
      · obtain rfl : cu = [] := List.eq_nil_of_length_eq_zero hc0
        have k66 : Calls Tryd.prog 65 #[.slice sa na ca, .int .i64 x, .int .i64 y] wr.drew fun e w' => e = .returned (.slice none 0 0) ∧ Below Wb.heap.size Wb w' ∧ Below wr.heap.size wr w' := k65.mono (fun e w' ⟨s', he, _, hn, hb⟩ => ⟨by rw [he, hn.2 rfl], hB.drew.trans (hb.mono hsz), (Below.refl wr.heap.size wr).drew.trans hb⟩)
        have HROW : Hid _ := hrow
        have hBdr : Below Wb.heap.size Wb wr.drew := hB.drew
        clear k65 hrow hpl hc0
        go_wp2
        go_region_held_law (fun w' => w'.cell? ⟨bb, k * 2, none⟩ = some (.int .i64 x) ∧ w'.cell? ⟨bb, k * 2 + 1, none⟩ = some (.int .i64 y)) (exact HK _ (by assumption)) (first
          | (go_at_call 65; refine k66.mono ?_; clear k66; rintro e w1 ⟨rfl, hbW, hb1⟩)
          | (refine step_app_nil _ rfl _ _ rfl _ _ _ honc rfl rfl ?_))
        go_wp2
        go_roundw
        case rel => exact ⟨k + 1, by omega, by go_num, by rw [HTK.out, List.append_nil, HM.out]; exact own_keepB HROW.out hb1, hbW⟩
        case measure => simp [intOf]; omega
      · obtain ⟨cl, hcl⟩ : ∃ cl, cu.length = cl := ⟨_, rfl⟩
        have HCL : Hid (cu.length = cl) := hcl
        have hfl : (flat cu).length = cl * 2 := by rw [flat_length, hcl]
        rw [hcl] at k65 hc0 hpl
        have k66 : Calls Tryd.prog 65 #[.slice sa na ca, .int .i64 x, .int .i64 y] wr.drew fun e w' => ∃ g c, e = .returned (.slice (some ⟨g, 0, none⟩) cl c) ∧ (∀ j u, (flat cu)[j]? = some u → w'.cell? ((⟨g, 0, none⟩ : Addr).add j) = some u) ∧ Below Wb.heap.size Wb w' ∧ Below wr.heap.size wr w' := k65.mono (fun e w' ⟨s', he, ho, hn, hb⟩ => by
          obtain ⟨g, c, e1, _, _, h3⟩ := own_some ho hc0
          exact ⟨g, c, by rw [he, e1], fun j u hj => by rw [Addr.add_lit, Nat.zero_add]; exact h3 j u hj, hB.drew.trans (hb.mono hsz), (Below.refl wr.heap.size wr).drew.trans hb⟩)
        have HROW : Hid _ := hrow
        have hBdr : Below Wb.heap.size Wb wr.drew := hB.drew
        clear k65 hrow hcl
        go_wp2
        go_region_held_law (fun w' => w'.cell? ⟨bb, k * 2, none⟩ = some (.int .i64 x) ∧ w'.cell? ⟨bb, k * 2 + 1, none⟩ = some (.int .i64 y)) (exact HK _ (by assumption)) (first
          | (go_at_call 65; refine k66.mono ?_; clear k66; rintro e w1 ⟨g1, cg1, rfl, hnews, hbW, hb1⟩; have hrw1 := own_keepB HROW.out hb1)
          | (refine step_append_lies _ rfl _ _ 22 rfl Wb.heap.size 62 i0 (.agg #[.int .i64 0, .int .i64 0]) 2 16 Tryd.underlying22 hi0 hz0 hz1 hz2 rfl (by decide) _ _ _ rfl hrw1 ⟨g1, 0, none⟩ cl cg1 (flat cu) rfl hfl hnews flat_one hc0 (by unfold maxLen; omega) (by omega) hbW.size _ rfl ?_; intro g cap w2 hown hgrow hat hlt2; have hB2 : Below Wb.heap.size Wb w2 := hbW.grown hgrow hbW.size (fun j e => (World.ownsRow.lt hrw1 j e).1)))
        go_wp2
        go_roundw
        case rel =>
          refine ⟨k + 1, by omega, by go_num, ?_, hB2⟩
          rw [HTK.out, List.length_append, HM.out, HCL.out, flat_app]; exact hown
        case measure => simp [intOf]; omega
    · obtain rfl : k = n := by omega
      have htk : c.take k = c := by rw [← HN.out]; exact List.take_length
      rw [htk] at hrow
      have hsr := own_srl hrow
      obtain ⟨av, cv, e, _⟩ := id hsr
      subst e
      have kj := refnorm_ord _ (pieces c a) wr hsr HPO.out HPI.out hle
      obtain ⟨P, hP⟩ : ∃ P, pieces c a = P := ⟨_, rfl⟩
      rw [hP] at kj ⊢
      have HP : Hid (pieces c a = P) := hP
      clear htk hsr hrow hP
      go_wp2_with fail
      refine kj.mono ?_
      rintro e w1 ⟨s', rfl, hown, hb1⟩
      have HOWN : Hid _ := hown
      clear kj hown
      go_wp2
      go_ret2
      exact ⟨_, rfl, by rw [HP.out]; exact own_base HOWN.out (Nat.le_trans hszb hsz), hBW.trans (hb1.mono (Nat.le_trans hszb hsz))⟩
end Go.Proofs.YtgcgomofmicchaaDoor
