/-
  What is proved here: the walk of the reference's Vars.
-/
import Derived.Test.YtpgecdhieakilaaGreatDoorHaj
import Derived.Test.YtpgecdhieakilaaGreatDoorJbj
namespace Go.Proofs.YtpgecdhieakilaaGreatDoor
open Go.RowKit Go.Shelf
set_option linter.unusedVariables false
set_option linter.unusedSimpArgs false

theorem own_cases {w : World} {B : Nat} {s : Value} {n : Nat} {L : List Int} (h : w.ownsRow B 3 1 s n (intv L)) (hn : L.length = n) : (s = .slice none 0 0 ∧ L = [] ∧ n = 0) ∨ ∃ g c, s = .slice (some ⟨g, 0, none⟩) n c ∧ g < w.heap.size ∧ n ≤ c ∧ c ≤ 9223372036854775807 ∧ ∀ (j : Nat) x, L[j]? = some x → w.cell? ⟨g, j, none⟩ = some (.int .i64 x) := by
  rcases h.2 with ⟨e1, e2⟩ | ⟨g, cap, cur, e1, hg, hgb, h1, h2, h3, h4⟩
  · exact .inl ⟨e1, List.length_eq_zero_iff.1 (by omega), e2⟩
  · refine .inr ⟨g, cap, e1, (Array.getElem?_eq_some_iff.1 hgb).1, h1, by unfold maxLen at h2; omega, fun j x hx => ?_⟩
    have hj := (List.getElem?_eq_some_iff.1 hx).1
    rw [cell_row hgb j, ← Array.getElem?_toList]
    have h5 : (cur.toList.take (n * 1))[j]? = (intv L)[j]? := by rw [h4]
    rw [List.getElem?_take, if_pos (by omega)] at h5
    rw [h5]
    unfold intv
    rw [List.getElem?_map, hx]
    rfl

set_option maxRecDepth 100000 in
set_option maxHeartbeats 8000000 in
theorem refvars_any {B : Nat} {W : World} {a8 : Option Addr} {n c8 : Nat} {ags : List Ag} (nm : ByteArray) (h : Sa B W (.slice a8 n c8) ags) (hlen : ags.length = n) (hn : n ≤ 1000000000000) (hl : ∀ g ∈ ags, g.l.length ≤ 1000000000000) (hv : (varsA ags).length ≤ 1000000000000) :
    Calls Tryz.prog 17 #[.agg #[.string nm, .slice a8 n c8]] W fun e w' => ∃ v, e = .returned v ∧ w'.ownsRow W.heap.size 3 1 v (csL (varsA ags)).length (intv (csL (varsA ags))) ∧ Below W.heap.size W w' := by
  have HA : Hid (Sa B W (.slice a8 n c8) ags) := h
  have HN : Hid (ags.length = n) := hlen
  have HL : Hid (∀ g ∈ ags, g.l.length ≤ 1000000000000) := hl
  have HV : Hid ((varsA ags).length ≤ 1000000000000) := hv
  obtain ⟨B0, hB0⟩ : ∃ x, W.heap.size = x := ⟨_, rfl⟩
  obtain ⟨W1, hW1⟩ : ∃ X, W.alloc (Obj.cells #[.string nm, .slice a8 n c8] 32) = X := ⟨_, rfl⟩
  have hb1 : Below W.heap.size W W1 := by rw [← hW1]; exact (Below.refl _ W).alloc (Nat.le_refl _) _
  have hs1 : W1.heap.size = B0 + 1 := by rw [← hW1, ← hB0]; simp
  have KC : Hid (Blk W1 B0 #[.string nm, .slice a8 n c8] 32) := by rw [Hid, ← hW1, ← hB0]; exact Blk.new W _ _
  have HW1 : Hid _ := hW1
  have HBB : Hid (W.heap.size = B0) := hB0
  have HS1 : Hid (W1.heap.size = B0 + 1) := hs1
  have HB1 : Hid (Below W.heap.size W W1) := hb1
  have HXC : Hid (∀ w, Below (B0 + 1) W1 w → w.cell? ⟨B0, 1, none⟩ = some (.slice a8 n c8)) := fun w hw => (hw.cell (p := ⟨B0, 1, none⟩) (Nat.lt_succ_self B0)).trans (KC.out.cell 1)
  clear h hlen hl hv hB0 hW1 hb1 hs1 KC
  go_enter Tryz.func17, Tryz.ntmps17
  go_upto_region 2 with (fail)
  rw [HW1.out, HBB.out]
  clear HW1
  go_wp2
  go_loopw [3, 4] (fun out i wr => ∃ k : Nat, k ≤ n ∧ i = .int .i64 (k : Int) ∧ Hid (wr.ownsRow (B0 + 1) 3 1 out (csL (varsA (ags.take k))).length (intv (csL (varsA (ags.take k))))) ∧ Hid (Below (B0 + 1) W1 wr)) (fun _ i _ => n - (intOf i).toNat)
  case atStart => exact ⟨0, Nat.zero_le _, rfl, (by rw [Hid, List.take_zero, show varsA [] = [] from rfl, csL_nil]; exact World.ownsRow_nil _ _ _ _), Below.refl _ _⟩
  case round =>
    obtain ⟨k, hk, rfl, HO, HB⟩ := hrel
    have xc := HXC.out _ HB.out
    by_cases hlt : k < n
    · have hlt' : (k : Int) < n := by omega
      obtain ⟨g, hg⟩ : ∃ g, ags[k]? = some g := ⟨_, List.getElem?_eq_getElem (by rw [HN.out]; exact hlt)⟩
      have HG : Hid (ags[k]? = some g) := hg
      obtain ⟨b, off, a2, c2, rfl, hb2, hst, d0, d1⟩ := HA.out.at hg
      obtain ⟨m, hm⟩ : ∃ m, g.l.length = m := ⟨_, rfl⟩
      have HM : Hid (g.l.length = m) := hm
      have hm9 : m ≤ 1000000000000 := hm ▸ HL.out g (List.mem_of_getElem? hg)
      rw [hm] at hst d1
      have HST : Hid (St B W (.slice a2 m c2) g.l) := hst
      have hbB : b < B0 := by rw [← HBB.out]; exact hb2
      have HCX : Hid (∀ w, Below (B0 + 1) W1 w → w.cell? ⟨B0, 1, none⟩ = some (.slice (some ⟨b, off, none⟩) n c8) ∧ w.cell? ⟨b, off + k * 2 + 1, none⟩ = some (.slice a2 m c2)) := fun w hw => ⟨HXC.out w hw, (hw.cell (p := ⟨b, off + k * 2 + 1, none⟩) (show b < B0 + 1 by omega)).trans ((HB1.out.cell (p := ⟨b, off + k * 2 + 1, none⟩) hb2).trans d1)⟩
      have hw2 : IntKind.i64.wrap ((k : Int) + 1) = (k : Int) + 1 := by rw [IntKind.wrap_i64]; omega
      clear hm hst hg d0 d1 hb2 hbB xc
      obtain ⟨wo, hwo⟩ : ∃ x, x = wr := ⟨_, rfl⟩
      subst hwo
      obtain ⟨x0, x1⟩ := HCX.out _ HB.out
      have HO' : Hid (wo.ownsRow (B0 + 1) 3 1 u3 (csL (varsA (ags.take k) ++ varsL (g.l.take 0))).length (intv (csL (varsA (ags.take k) ++ varsL (g.l.take 0))))) := by
        rw [Hid, show varsA (ags.take k) ++ varsL (g.l.take 0) = varsA (ags.take k) by simp [varsL]]
        exact HO.out
      go_wp2
      go_loopw [3, 5] (fun out j wq => ∃ q : Nat, q ≤ m ∧ j = .int .i64 (q : Int) ∧ Hid (wq.ownsRow (B0 + 1) 3 1 out (csL (varsA (ags.take k) ++ varsL (g.l.take q))).length (intv (csL (varsA (ags.take k) ++ varsL (g.l.take q))))) ∧ Hid (Below (B0 + 1) W1 wq)) (fun _ j _ => m - (intOf j).toNat)
      case atStart => exact ⟨0, Nat.zero_le _, rfl, HO', HB⟩
      case round =>
        clear HO HO' HB
        obtain ⟨q, hq, rfl, HO, HB⟩ := hrel
        obtain ⟨x0, x1⟩ := HCX.out _ HB.out
        by_cases hqt : q < m
        · have hqt' : (q : Int) < m := by omega
          have hw3 : IntKind.i64.wrap ((q : Int) + 1) = (q : Int) + 1 := by rw [IntKind.wrap_i64]; omega
          obtain ⟨t, ht⟩ : ∃ t, g.l[q]? = some t := ⟨_, List.getElem?_eq_getElem (by rw [HM.out]; exact hqt)⟩
          have HS := varsL_succ ht
          obtain ⟨b3, off3, a4, c4, rfl, hb3, _, d0, d1, d2, d3⟩ := HST.out.at ht
          obtain ⟨tv, htv⟩ : ∃ x, t.v = x := ⟨_, rfl⟩
          rw [htv] at d0 HS
          have y0 := (HB.out.cell (p := ⟨b3, off3 + q * 4, none⟩) (show b3 < B0 + 1 by have := HBB.out; omega)).trans ((HB1.out.cell (p := ⟨b3, off3 + q * 4, none⟩) hb3).trans d0)
          have HLE : Hid ((varsA (ags.take k) ++ varsL (g.l.take q)).length ≤ 1000000000000) := Nat.le_trans (varsA_le HG.out q) HV.out
          obtain ⟨PL, hPL⟩ : ∃ z, varsA (ags.take k) ++ varsL (g.l.take q) = z := ⟨_, rfl⟩
          have HPS : Hid (varsA (ags.take k) ++ varsL (g.l.take (q + 1)) = PL ++ (if 0 ≤ tv then [tv] else [])) := by rw [Hid, HS, ← List.append_assoc, hPL]
          have HNL := hid (cs_len PL)
          rw [hPL] at HO HLE
          obtain ⟨nn, hnn⟩ : ∃ z, (csL PL).length = z := ⟨_, rfl⟩
          have HNN : Hid ((csL PL).length = nn) := hnn
          rw [hnn] at HO
          have hnb : nn ≤ 1000000000000 := by have := HNL.out; have := HLE.out; omega
          clear htv d0 d1 d2 d3 ht hPL hnn HS hb3
          obtain ⟨wq, hwq⟩ : ∃ x, x = wr := ⟨_, rfl⟩
          subst hwq
          rcases own_cases HO.out HNN.out with hc | hc
          · obtain ⟨rfl, hnil, rfl⟩ := hc
            have HNIL : Hid (csL PL = []) := hnil
            clear hnil
            by_cases hneg : tv < 0
            · have HEQ : Hid (varsA (ags.take k) ++ varsL (g.l.take (q + 1)) = PL) := by rw [Hid, HPS.out, if_neg (by omega), List.append_nil]
              go_wp2
              go_loopw [7] (fun at_ wz => at_ = .int .i64 0 ∧ wq = wz) (fun _ _ => 0)
              case atStart => exact ⟨rfl, rfl⟩
              case round =>
                obtain ⟨rfl, rfl⟩ := hrel
                go_wp2
                go_roundw
                case rel => exact ⟨q + 1, by omega, by go_num, (by rw [HEQ.out, HNN.out]; exact HO), HB⟩
                case measure => simp [intOf]; omega
            · have HADD : Hid (varsA (ags.take k) ++ varsL (g.l.take (q + 1)) = PL ++ [tv]) := by rw [Hid, HPS.out, if_pos (by omega)]
              have HCUT : Hid (csL (PL ++ [tv]) = (csL PL).take 0 ++ [tv] ++ (csL PL).drop 0) := cs_cut (Nat.zero_le _) (fun j x _ hx => by rw [HNIL.out] at hx; cases hx) (fun x h0 => by omega)
              obtain ⟨Nq, hNq⟩ : ∃ z, wq.heap.size = z := ⟨_, rfl⟩
              have HNQ : Hid (wq.heap.size = Nq) := hNq
              clear hNq
              go_wp2
              go_loopw [7] (fun at_ wz => at_ = .int .i64 0 ∧ wq = wz) (fun _ _ => 0)
              case atStart => exact ⟨rfl, rfl⟩
              case round =>
                obtain ⟨rfl, rfl⟩ := hrel
                go_wp2_with (at_builtin; refine wpList_app_m _ rfl _ _ rfl Nq _ 0 [] rfl (World.ownsRow_nil _ _ _ _) _ rfl 0 ((csL PL).take 0) (by rw [List.length_take]; have := HNN.out; omega) (.inl ⟨rfl, rfl, by rw [HNIL.out]; rfl⟩) (by omega) (by rw [HNQ.out]; exact Nat.le_refl _) ?_; intro v1 w1 ho1 hb1; refine Hid.out ?_)
                refine (show Hid _ from ?_)
                unfold Hid
                obtain ⟨x1', z1', rfl⟩ := own_shape ho1
                have HO1 : Hid (w1.ownsRow Nq 3 1 (.slice x1' (0 + 0) z1') 0 (intv ((csL PL).take 0))) := by rw [Hid]; simpa using ho1
                have HBq1 : Hid (Below Nq wq w1) := hb1
                clear ho1 hb1
                obtain ⟨bs, hbs⟩ : ∃ z, w1.heap.size = z := ⟨_, rfl⟩
                obtain ⟨w2, hw2'⟩ : ∃ z, w1.alloc (Obj.cells #[.int .i64 tv] 3) = z := ⟨_, rfl⟩
                have hb12 : Below w1.heap.size w1 w2 := by rw [← hw2']; exact (Below.refl _ _).alloc (Nat.le_refl _) _
                have HBS : Hid (Blk w2 bs #[.int .i64 tv] 3) := by rw [Hid, ← hw2', ← hbs]; exact Blk.new _ _ _
                have HBq2 : Hid (Below Nq wq w2) := HBq1.out.trans (hb12.mono (by have := HBq1.out.size; rw [HNQ.out] at this; exact this))
                have HO2 : Hid (w2.ownsRow Nq 3 1 (.slice x1' (0 + 0) z1') 0 (intv ((csL PL).take 0))) := own_keepB HO1.out hb12
                have HW2 : Hid (w1.alloc (Obj.cells #[.int .i64 tv] 3) = w2) := hw2'
                have HBI : Hid (w1.heap.size = bs) := hbs
                clear hw2' hb12 hbs
                go_wp2_with (at_builtin; (try rw [HW2.out]); (try rw [HBI.out]); refine wpList_app_m _ rfl _ _ rfl Nq _ 0 ((csL PL).take 0) rfl HO2.out (.slice (some ⟨bs, 0, none⟩) 1 1) (by with_unfolding_all rfl) 1 [tv] rfl (.inr ⟨⟨bs, 0, none⟩, 1, rfl, fun j y hy => by rw [Addr.add_lit, Nat.zero_add, HBS.out.cell j]; match j, hy with | 0, hy => simp at hy; subst hy; rfl⟩) (by omega) (by have := HBq2.out.size; rw [HNQ.out] at this; exact this) ?_; intro v3 w3 ho3 hb3; refine Hid.out ?_)
                refine (show Hid _ from ?_)
                unfold Hid
                obtain ⟨x3', z3', rfl⟩ := own_shape ho3
                have HO3 : Hid (w3.ownsRow Nq 3 1 (.slice x3' (0 + 1) z3') (0 + 1) (intv ((csL PL).take 0 ++ [tv]))) := ho3
                have HBq3 : Hid (Below Nq wq w3) := HBq2.out.trans hb3
                clear ho3 hb3 HW2 HBI HBS HO2 HO1 HBq1 HBq2
                go_wp2_with (at_builtin; refine wpList_app_m _ rfl _ _ rfl Nq _ (0 + 1) ((csL PL).take 0 ++ [tv]) rfl HO3.out _ rfl (0 - 0) ((csL PL).drop 0) (by rw [List.length_drop]; have := HNN.out; omega) (.inl ⟨rfl, rfl, by rw [HNIL.out]; rfl⟩) (by omega) (by have := HBq3.out.size; rw [HNQ.out] at this; exact this) ?_; intro v4 w4 ho4 hb4; refine Hid.out ?_)
                refine (show Hid _ from ?_)
                unfold Hid
                have HBq4 : Hid (Below (B0 + 1) W1 w4) := HB.out.trans ((HBq3.out.trans hb4).mono (by have := HB.out.size; rw [HS1.out, HNQ.out] at this; exact this))
                have HO4 : Hid (w4.ownsRow (B0 + 1) 3 1 v4 (csL (PL ++ [tv])).length (intv (csL (PL ++ [tv])))) := by
                  have e1 : csL (PL ++ [tv]) = (csL PL).take 0 ++ [tv] ++ (csL PL).drop 0 := HCUT.out
                  have e2 : (csL (PL ++ [tv])).length = 0 + 1 + (0 - 0) := by rw [e1]; simp only [List.length_append, List.length_take, List.length_drop, List.length_cons, List.length_nil]; have := HNN.out; omega
                  rw [Hid, e2, e1]
                  exact own_lowerB ho4 (by have := HB.out.size; rw [HS1.out, HNQ.out] at this; exact this)
                clear ho4 hb4
                obtain ⟨x4', z4', rfl⟩ := own_shape HO4.out
                go_wp2
                go_roundw
                case rel => exact ⟨q + 1, by omega, by go_num, (by rw [HADD.out]; exact HO4), HBq4⟩
                case measure => simp [intOf]; omega
          · obtain ⟨g7, co, rfl, hg7, hnc, hcm, hrow⟩ := hc
            have HROW : Hid (∀ (j : Nat) x, (csL PL)[j]? = some x → wq.cell? ⟨g7, j, none⟩ = some (.int .i64 x)) := hrow
            have HG7 : Hid (g7 < wq.heap.size) := hg7
            clear hrow hg7
            obtain ⟨Nq, hNq⟩ : ∃ z, wq.heap.size = z := ⟨_, rfl⟩
            have HNQ : Hid (wq.heap.size = Nq) := hNq
            clear hNq
            go_wp2
            go_loopw [7] (fun at_ wz => ∃ p : Nat, at_ = .int .i64 (p : Int) ∧ p ≤ nn ∧ Hid (∀ (j : Nat) x, p ≤ j → (csL PL)[j]? = some x → tv < x) ∧ wq = wz) (fun at_ _ => (intOf at_).toNat)
            case atStart => exact ⟨nn, rfl, Nat.le_refl _, (fun j x hj hx => by have := (List.getElem?_eq_some_iff.1 hx).1; have := HNN.out; omega), rfl⟩
            case round =>
              obtain ⟨p, rfl, hp, HGT, rfl⟩ := hrel
              by_cases hp0 : p = 0
              · subst hp0
                by_cases hneg : tv < 0
                · have HEQ : Hid (varsA (ags.take k) ++ varsL (g.l.take (q + 1)) = PL) := by rw [Hid, HPS.out, if_neg (by omega), List.append_nil]
                  go_wp2
                  go_roundw
                  case rel => exact ⟨q + 1, by omega, by go_num, (by rw [HEQ.out, HNN.out]; exact HO), HB⟩
                  case measure => simp [intOf]; omega
                · have HADD : Hid (varsA (ags.take k) ++ varsL (g.l.take (q + 1)) = PL ++ [tv]) := by rw [Hid, HPS.out, if_pos (by omega)]
                  have HCUT : Hid (csL (PL ++ [tv]) = (csL PL).take 0 ++ [tv] ++ (csL PL).drop 0) := cs_cut (Nat.zero_le _) HGT.out (fun x h0 => by omega)
                  go_wp2_with (at_builtin; refine wpList_app_m _ rfl _ _ rfl Nq _ 0 [] rfl (World.ownsRow_nil _ _ _ _) _ rfl 0 ((csL PL).take 0) (by rw [List.length_take]; have := HNN.out; omega) (.inr ⟨⟨g7, 0, none⟩, co, rfl, fun j y hy => by rw [Addr.add_lit, Nat.zero_add]; rw [List.getElem?_take] at hy; split at hy; exact HROW.out j y hy; cases hy⟩) (by omega) (by rw [HNQ.out]; exact Nat.le_refl _) ?_; intro v1 w1 ho1 hb1; refine Hid.out ?_)
                  refine (show Hid _ from ?_)
                  unfold Hid
                  obtain ⟨x1', z1', rfl⟩ := own_shape ho1
                  have HO1 : Hid (w1.ownsRow Nq 3 1 (.slice x1' (0 + 0) z1') 0 (intv ((csL PL).take 0))) := by rw [Hid]; simpa using ho1
                  have HBq1 : Hid (Below Nq wq w1) := hb1
                  clear ho1 hb1
                  obtain ⟨bs, hbs⟩ : ∃ z, w1.heap.size = z := ⟨_, rfl⟩
                  obtain ⟨w2, hw2'⟩ : ∃ z, w1.alloc (Obj.cells #[.int .i64 tv] 3) = z := ⟨_, rfl⟩
                  have hb12 : Below w1.heap.size w1 w2 := by rw [← hw2']; exact (Below.refl _ _).alloc (Nat.le_refl _) _
                  have HBS : Hid (Blk w2 bs #[.int .i64 tv] 3) := by rw [Hid, ← hw2', ← hbs]; exact Blk.new _ _ _
                  have HBq2 : Hid (Below Nq wq w2) := HBq1.out.trans (hb12.mono (by have := HBq1.out.size; rw [HNQ.out] at this; exact this))
                  have HO2 : Hid (w2.ownsRow Nq 3 1 (.slice x1' (0 + 0) z1') 0 (intv ((csL PL).take 0))) := own_keepB HO1.out hb12
                  have HW2 : Hid (w1.alloc (Obj.cells #[.int .i64 tv] 3) = w2) := hw2'
                  have HBI : Hid (w1.heap.size = bs) := hbs
                  clear hw2' hb12 hbs
                  go_wp2_with (at_builtin; (try rw [HW2.out]); (try rw [HBI.out]); refine wpList_app_m _ rfl _ _ rfl Nq _ 0 ((csL PL).take 0) rfl HO2.out (.slice (some ⟨bs, 0, none⟩) 1 1) (by with_unfolding_all rfl) 1 [tv] rfl (.inr ⟨⟨bs, 0, none⟩, 1, rfl, fun j y hy => by rw [Addr.add_lit, Nat.zero_add, HBS.out.cell j]; match j, hy with | 0, hy => simp at hy; subst hy; rfl⟩) (by omega) (by have := HBq2.out.size; rw [HNQ.out] at this; exact this) ?_; intro v3 w3 ho3 hb3; refine Hid.out ?_)
                  refine (show Hid _ from ?_)
                  unfold Hid
                  obtain ⟨x3', z3', rfl⟩ := own_shape ho3
                  have HO3 : Hid (w3.ownsRow Nq 3 1 (.slice x3' (0 + 1) z3') (0 + 1) (intv ((csL PL).take 0 ++ [tv]))) := ho3
                  have HBq3 : Hid (Below Nq wq w3) := HBq2.out.trans hb3
                  clear ho3 hb3 HW2 HBI HBS HO2 HO1 HBq1 HBq2
                  go_wp2_with (at_builtin; refine wpList_app_m _ rfl _ _ rfl Nq _ (0 + 1) ((csL PL).take 0 ++ [tv]) rfl HO3.out _ rfl (nn - 0) ((csL PL).drop 0) (by rw [List.length_drop]; have := HNN.out; omega) (.inr ⟨⟨g7, 0, none⟩, co - 0, rfl, fun j y hy => by rw [Addr.add_lit]; rw [List.getElem?_drop] at hy; exact (HBq3.out.cell (p := ⟨g7, 0 + j, none⟩) (HNQ.out ▸ HG7.out)).trans (HROW.out _ y hy)⟩) (by omega) (by have := HBq3.out.size; rw [HNQ.out] at this; exact this) ?_; intro v4 w4 ho4 hb4; refine Hid.out ?_)
                  refine (show Hid _ from ?_)
                  unfold Hid
                  have HBq4 : Hid (Below (B0 + 1) W1 w4) := HB.out.trans ((HBq3.out.trans hb4).mono (by have := HB.out.size; rw [HS1.out, HNQ.out] at this; exact this))
                  have HO4 : Hid (w4.ownsRow (B0 + 1) 3 1 v4 (csL (PL ++ [tv])).length (intv (csL (PL ++ [tv])))) := by
                    have e1 : csL (PL ++ [tv]) = (csL PL).take 0 ++ [tv] ++ (csL PL).drop 0 := HCUT.out
                    have e2 : (csL (PL ++ [tv])).length = 0 + 1 + (nn - 0) := by rw [e1]; simp only [List.length_append, List.length_take, List.length_drop, List.length_cons, List.length_nil]; have := HNN.out; omega
                    rw [Hid, e2, e1]
                    exact own_lowerB ho4 (by have := HB.out.size; rw [HS1.out, HNQ.out] at this; exact this)
                  clear ho4 hb4
                  obtain ⟨x4', z4', rfl⟩ := own_shape HO4.out
                  go_wp2
                  go_roundw
                  case rel => exact ⟨q + 1, by omega, by go_num, (by rw [HADD.out]; exact HO4), HBq4⟩
                  case measure => simp [intOf]; omega
              · have hp1 : (0 : Int) < (p : Int) := by omega
                have hwp : IntKind.i64.wrap ((p : Int) - 1) = ((p - 1 : Nat) : Int) := by rw [IntKind.wrap_i64]; omega
                have hpn : p - 1 < nn := by omega
                obtain ⟨x, hx⟩ : ∃ x, (csL PL)[p - 1]? = some x := ⟨_, List.getElem?_eq_getElem (by rw [HNN.out]; exact hpn)⟩
                have HX : Hid ((csL PL)[p - 1]? = some x) := hx
                have cx := HROW.out _ _ hx
                have hpn' : ((p - 1 : Nat) : Int) < (nn : Int) := by omega
                clear hx
                by_cases hgt : tv < x
                · go_wp2
                  go_roundw
                  case rel => exact ⟨p - 1, rfl, by omega, (fun j y hj hy => by
                    rcases Nat.lt_or_ge j p with q1 | q1
                    · have : j = p - 1 := by omega
                      subst this
                      rw [HX.out] at hy
                      injection hy with hy
                      rw [← hy]; exact hgt
                    · exact HGT.out j y q1 hy), by first | trivial | rfl⟩
                  case measure => simp [intOf]; omega
                · by_cases hneg : tv < 0
                  · have HEQ : Hid (varsA (ags.take k) ++ varsL (g.l.take (q + 1)) = PL) := by rw [Hid, HPS.out, if_neg (by omega), List.append_nil]
                    go_wp2
                    go_roundw
                    case rel => exact ⟨q + 1, by omega, by go_num, (by rw [HEQ.out, HNN.out]; exact HO), HB⟩
                    case measure => simp [intOf]; omega
                  · by_cases hev : x = tv
                    · subst hev
                      have HEQ : Hid (csL (varsA (ags.take k) ++ varsL (g.l.take (q + 1))) = csL PL) := by rw [Hid, HPS.out, if_pos (by omega)]; exact cs_old (List.mem_of_getElem? HX.out)
                      go_wp2
                      go_roundw
                      case rel => exact ⟨q + 1, by omega, by go_num, (by rw [HEQ.out, HNN.out]; exact HO), HB⟩
                      case measure => simp [intOf]; omega
                    · have HADD : Hid (varsA (ags.take k) ++ varsL (g.l.take (q + 1)) = PL ++ [tv]) := by rw [Hid, HPS.out, if_pos (by omega)]
                      have HCUT : Hid (csL (PL ++ [tv]) = (csL PL).take p ++ [tv] ++ (csL PL).drop p) := cs_cut (by rw [HNN.out]; exact hp) HGT.out (fun y _ hy => by rw [HX.out] at hy; injection hy with hy; omega)
                      have hne : (x == tv) = false := by simpa using hev
                      have HS3 : Hid (∀ w, Below Nq wq w → ∃ ad c, Value.slice (if co = p then some ⟨g7, 0, none⟩ else some ⟨g7, p, none⟩) (nn - p) (co - p) = .slice (some ad) (nn - p) c ∧ ∀ (j : Nat) y, ((csL PL).drop p)[j]? = some y → w.cell? (ad.add j) = some (.int .i64 y)) := fun w hw => by
                        by_cases hcp : co = p
                        · refine ⟨⟨g7, 0, none⟩, co - p, by rw [if_pos hcp], fun j y hy => ?_⟩
                          have := (List.getElem?_eq_some_iff.1 hy).1
                          rw [List.length_drop, HNN.out] at this
                          omega
                        · exact ⟨⟨g7, p, none⟩, co - p, by rw [if_neg hcp], fun j y hy => by rw [Addr.add_lit]; rw [List.getElem?_drop] at hy; exact (hw.cell (p := ⟨g7, p + j, none⟩) (HNQ.out ▸ HG7.out)).trans (HROW.out _ y hy)⟩
                      go_wp2_with (at_builtin; refine wpList_app_m _ rfl _ _ rfl Nq _ 0 [] rfl (World.ownsRow_nil _ _ _ _) _ rfl p ((csL PL).take p) (by rw [List.length_take]; have := HNN.out; omega) (.inr ⟨⟨g7, 0, none⟩, co, rfl, fun j y hy => by rw [Addr.add_lit, Nat.zero_add]; rw [List.getElem?_take] at hy; split at hy; exact HROW.out j y hy; cases hy⟩) (by omega) (by rw [HNQ.out]; exact Nat.le_refl _) ?_; intro v1 w1 ho1 hb1; refine Hid.out ?_)
                      refine (show Hid _ from ?_)
                      unfold Hid
                      obtain ⟨x1', z1', rfl⟩ := own_shape ho1
                      have HO1 : Hid (w1.ownsRow Nq 3 1 (.slice x1' (0 + p) z1') p (intv ((csL PL).take p))) := by rw [Hid]; simpa using ho1
                      have HBq1 : Hid (Below Nq wq w1) := hb1
                      clear ho1 hb1
                      obtain ⟨bs, hbs⟩ : ∃ z, w1.heap.size = z := ⟨_, rfl⟩
                      obtain ⟨w2, hw2'⟩ : ∃ z, w1.alloc (Obj.cells #[.int .i64 tv] 3) = z := ⟨_, rfl⟩
                      have hb12 : Below w1.heap.size w1 w2 := by rw [← hw2']; exact (Below.refl _ _).alloc (Nat.le_refl _) _
                      have HBS : Hid (Blk w2 bs #[.int .i64 tv] 3) := by rw [Hid, ← hw2', ← hbs]; exact Blk.new _ _ _
                      have HBq2 : Hid (Below Nq wq w2) := HBq1.out.trans (hb12.mono (by have := HBq1.out.size; rw [HNQ.out] at this; exact this))
                      have HO2 : Hid (w2.ownsRow Nq 3 1 (.slice x1' (0 + p) z1') p (intv ((csL PL).take p))) := own_keepB HO1.out hb12
                      have HW2 : Hid (w1.alloc (Obj.cells #[.int .i64 tv] 3) = w2) := hw2'
                      have HBI : Hid (w1.heap.size = bs) := hbs
                      clear hw2' hb12 hbs
                      go_wp2_with (at_builtin; (try rw [HW2.out]); (try rw [HBI.out]); refine wpList_app_m _ rfl _ _ rfl Nq _ p ((csL PL).take p) rfl HO2.out (.slice (some ⟨bs, 0, none⟩) 1 1) (by with_unfolding_all rfl) 1 [tv] rfl (.inr ⟨⟨bs, 0, none⟩, 1, rfl, fun j y hy => by rw [Addr.add_lit, Nat.zero_add, HBS.out.cell j]; match j, hy with | 0, hy => simp at hy; subst hy; rfl⟩) (by omega) (by have := HBq2.out.size; rw [HNQ.out] at this; exact this) ?_; intro v3 w3 ho3 hb3; refine Hid.out ?_)
                      refine (show Hid _ from ?_)
                      unfold Hid
                      obtain ⟨x3', z3', rfl⟩ := own_shape ho3
                      have HO3 : Hid (w3.ownsRow Nq 3 1 (.slice x3' (p + 1) z3') (p + 1) (intv ((csL PL).take p ++ [tv]))) := ho3
                      have HBq3 : Hid (Below Nq wq w3) := HBq2.out.trans hb3
                      clear ho3 hb3 HW2 HBI HBS HO2 HO1 HBq1 HBq2
                      go_wp2_with (at_builtin; refine wpList_app_m _ rfl _ _ rfl Nq _ (p + 1) ((csL PL).take p ++ [tv]) rfl HO3.out _ rfl (nn - p) ((csL PL).drop p) (by rw [List.length_drop]; have := HNN.out; omega) (.inr (HS3.out _ HBq3.out)) (by omega) (by have := HBq3.out.size; rw [HNQ.out] at this; exact this) ?_; intro v4 w4 ho4 hb4; refine Hid.out ?_)
                      all_goals (
                        refine (show Hid _ from ?_)
                        unfold Hid
                        have HBq4 : Hid (Below (B0 + 1) W1 w4) := HB.out.trans ((HBq3.out.trans hb4).mono (by have := HB.out.size; rw [HS1.out, HNQ.out] at this; exact this))
                        have HO4 : Hid (w4.ownsRow (B0 + 1) 3 1 v4 (csL (PL ++ [tv])).length (intv (csL (PL ++ [tv])))) := by
                          have e1 : csL (PL ++ [tv]) = (csL PL).take p ++ [tv] ++ (csL PL).drop p := HCUT.out
                          have e2 : (csL (PL ++ [tv])).length = p + 1 + (nn - p) := by rw [e1]; simp only [List.length_append, List.length_take, List.length_drop, List.length_cons, List.length_nil]; have := HNN.out; omega
                          rw [Hid, e2, e1]
                          exact own_lowerB ho4 (by have := HB.out.size; rw [HS1.out, HNQ.out] at this; exact this)
                        clear ho4 hb4
                        obtain ⟨x4', z4', rfl⟩ := own_shape HO4.out
                        go_wp2
                        go_roundw
                        case rel => exact ⟨q + 1, by omega, by go_num, (by rw [HADD.out]; exact HO4), HBq4⟩
                        case measure => simp [intOf]; omega)
        · have hqt' : ¬ (q : Int) < m := by omega
          obtain rfl : q = m := by omega
          go_wp2
          go_roundw
          case rel =>
            refine ⟨k + 1, by omega, by go_num, ?_, HB⟩
            have h9 := HO.out
            rw [List.take_of_length_le (l := g.l) (by rw [HM.out]; exact Nat.le_refl _), ← varsA_succ HG.out] at h9
            exact h9
          case measure => simp [intOf]; omega
    · have hlt' : ¬ (k : Int) < n := by omega
      obtain rfl : k = n := by omega
      have h9 := HO.out
      rw [List.take_of_length_le (by rw [HN.out]; exact Nat.le_refl _)] at h9
      have H9 : Hid _ := h9
      clear h9
      go_wp2
      go_ret
      exact ⟨_, rfl, own_lowerB H9.out (by have := HBB.out; omega), HB1.out.trans (HB.out.mono (by have := HBB.out; omega))⟩
end Go.Proofs.YtpgecdhieakilaaGreatDoor
