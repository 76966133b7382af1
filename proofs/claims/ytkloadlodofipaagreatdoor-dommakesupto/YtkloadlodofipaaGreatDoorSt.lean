/-
  What is proved here: the walk of DomSteps.
-/
import Derived.Test.YtkloadlodofipaaGreatDoorKn
import Derived.Test.YtkloadlodofipaaGreatDoorDg
import Derived.Test.YtkloadlodofipaaGreatDoorEq
namespace Go.Proofs.YtkloadlodofipaaGreatDoor
open Go.RowKit Go.Shelf
set_option linter.unusedVariables false

/-- What Next answers: the least value from v on. -/
theorem nextR_spec : ∀ (l : List Rg), Ord l → ∀ v, ((nextR l v).2 = true → (nextR l v).1 ∈ vals l ∧ v ≤ (nextR l v).1 ∧ ∀ x ∈ vals l, v ≤ x → (nextR l v).1 ≤ x) ∧ ((nextR l v).2 = false → (nextR l v).1 = 0 ∧ ∀ x ∈ vals l, x < v) := by
  intro l
  induction l with
  | nil => intro _ v; simp [nextR, vals]
  | cons r t ih =>
    intro h v
    obtain ⟨h1, h2, h3⟩ := ord_cons h
    unfold nextR
    by_cases hv : v ≤ r.2
    · rw [if_pos hv]
      dsimp only
      refine ⟨fun _ => ?_, fun h9 => by cases h9⟩
      by_cases hv1 : v ≤ r.1
      · rw [if_pos hv1]
        refine ⟨(vals_cons r t _).2 (.inl ⟨Int.le_refl _, h1⟩), hv1, fun x hx _ => ?_⟩
        rcases (vals_cons r t x).1 hx with h9 | h9
        · exact h9.1
        · have := h3 x h9; omega
      · rw [if_neg hv1]
        exact ⟨(vals_cons r t _).2 (.inl ⟨by omega, hv⟩), Int.le_refl _, fun x _ h9 => h9⟩
    · rw [if_neg hv]
      obtain ⟨i1, i2⟩ := ih h2 v
      refine ⟨fun h9 => ?_, fun h9 => ?_⟩
      · obtain ⟨j1, j2, j3⟩ := i1 h9
        refine ⟨(vals_cons r t _).2 (.inr j1), j2, fun x hx hxv => ?_⟩
        rcases (vals_cons r t x).1 hx with h8 | h8
        · omega
        · exact j3 x h8 hxv
      · obtain ⟨j1, j2⟩ := i2 h9
        refine ⟨j1, fun x hx => ?_⟩
        rcases (vals_cons r t x).1 hx with h8 | h8
        · omega
        · exact j2 x h8
/-- The value at a place, and whether there is one. -/
def stp (vs : List Int) (k : Nat) : Int × Bool := (vs[k]?.getD 0, decide (k < vs.length))
theorem vals_lt {l : List Rg} (h : Right l) : (vals l).Pairwise (· < ·) := by
  have := (vals_up l h l.length (Nat.le_refl _)).1
  rwa [List.take_length] at this
theorem next_stp {l : List Rg} (h : Right l) (k : Nat) (v : Int) (hk : ∀ j (hj : j < (vals l).length), (j < k → (vals l)[j] < v) ∧ (k ≤ j → v ≤ (vals l)[j])) : nextR l v = stp (vals l) k := by
  have hs := nextR_spec l (right_ord h).1 v
  have hp := List.pairwise_iff_getElem.1 (vals_lt h)
  unfold stp
  cases hb : (nextR l v).2 with
  | true =>
    obtain ⟨h1, h2, h3⟩ := hs.1 hb
    obtain ⟨j, hj, e⟩ := List.getElem_of_mem h1
    have hkj : k ≤ j := by
      apply Classical.byContradiction; intro hn
      have := (hk j hj).1 (by omega); omega
    have hkl : k < (vals l).length := by omega
    have hle := h3 _ (List.getElem_mem hkl) ((hk k hkl).2 (Nat.le_refl _))
    have hge : (vals l)[k] ≤ (vals l)[j] := by
      rcases Nat.lt_or_ge k j with h9 | h9
      · have := hp k j hkl hj h9; omega
      · have : k = j := by omega
        subst this; exact Int.le_refl _
    refine Prod.ext ?_ ?_
    · rw [List.getElem?_eq_getElem hkl]; show (nextR l v).1 = (vals l)[k]; omega
    · rw [hb]; simp [hkl]
  | false =>
    obtain ⟨h1, h2⟩ := hs.2 hb
    have hkl : ¬ k < (vals l).length := fun hkl => by
      have := h2 _ (List.getElem_mem hkl)
      have := (hk k hkl).2 (Nat.le_refl _)
      omega
    refine Prod.ext ?_ ?_
    · rw [List.getElem?_eq_none (by omega)]; exact h1
    · rw [hb]; simp; omega
theorem next_succ {l : List Rg} (h : Right l) (k : Nat) (hk : k < (vals l).length) : nextR l ((vals l)[k] + 1) = stp (vals l) (k + 1) := by
  have hp := List.pairwise_iff_getElem.1 (vals_lt h)
  refine next_stp h (k + 1) _ fun j hj => ⟨fun h9 => ?_, fun h9 => ?_⟩
  · rcases Nat.lt_or_ge j k with h8 | h8
    · have := hp j k hj hk h8; omega
    · have : j = k := by omega
      subst this; omega
  · have := hp k j hk hj (by omega); omega
theorem vals_bounds {l : List Rg} (h : Right l) : ∀ v ∈ vals l, -1000000 ≤ v ∧ v ≤ 1000000 := fun v hv => by
  obtain ⟨r, hr, h1, h2⟩ := (mem_vals' l v).1 hv
  have := (right_ord h).2 r hr
  omega
theorem vals_first {l : List Rg} (h : Some' l) : 0 < (vals l).length ∧ (vals l)[0]?.getD 0 = lo l 0 := by
  obtain ⟨hR, h0⟩ := h
  cases l with
  | nil => simp at h0
  | cons r t =>
    have hr : r.1 ≤ r.2 := (right_ord hR).1.1 r (by simp)
    have e : vals (r :: t) = span r.1 r.2 ++ vals t := by unfold vals; rw [List.flatMap_cons]
    have hl := span_length r.1 r.2
    rw [e, List.length_append]
    refine ⟨by omega, ?_⟩
    rw [List.getElem?_append_left (by omega)]
    obtain ⟨n, hn⟩ : ∃ n, (r.2 + 1 - r.1).toNat = n + 1 := ⟨(r.2 - r.1).toNat, by omega⟩
    have : span r.1 r.2 = r.1 :: ((List.range n).map fun j : Nat => r.1 + ((j + 1 : Nat) : Int)) := by
      unfold span
      rw [hn, List.range_succ_eq_map, List.map_cons, List.map_map]
      simp
    rw [this]
    simp [lo]
theorem tk_none {l : List Rg} (h : ¬ Some' l) : tk l = [] := by
  unfold tk
  split
  · rename_i hr
    exact List.eq_nil_of_length_eq_zero (by apply Classical.byContradiction; intro hn; exact h ⟨hr, by omega⟩)
  · rfl
theorem dommin_any (s : Value) (l : List Rg) (w : World) (h : Sr w s l) (hf : FitsR l) :
    Calls Tryz.prog 23 #[s] w fun e w' => e = .returned (.tuple #[.int .i64 (stp (vals (tk l)) 0).1, .bool (stp (vals (tk l)) 0).2]) ∧ Below w.heap.size w w' := by
  by_cases hR : Some' l
  · have hv := vals_first hR
    rw [tk_yes hR.1]
    refine (min_yes s l w h hf hR).mono fun e w' ⟨he, hb⟩ => ⟨?_, hb⟩
    rw [he]; unfold stp; simp only [hv.2, hv.1, decide_true]
  · rw [tk_none hR]
    exact min_no s l w h hf hR
theorem cut_right {l : List Rg} (h : Right l) (x y : Int) : Right (cutL l x y) := by
  have hO := right_ord h
  refine ord_right (cutL_ord hO.1 x y) (fun r hr => ?_) (Nat.le_trans (cutL_le l x y) h.1)
  unfold cutL at hr
  rw [List.mem_filterMap] at hr
  obtain ⟨q, hq, e⟩ := hr
  have h1 := cut1_some e
  have h2 := hO.2 q hq
  omega
theorem both_span (l : List Rg) (x y : Int) (h : inbB x y = true) : bothR l (spanL x y) = cutL (tk l) x y ∧ Right (spanL x y) := by
  unfold inbB at h
  rw [Bool.and_eq_true] at h
  have h1 : -1000000 ≤ min x y := of_decide_eq_true h.1
  have h2 : max x y ≤ 1000000 := of_decide_eq_true h.2
  have hO := (right_ord (tk_right l)).1
  have hle : (cutL (tk l) x y).length ≤ 4096 := Nat.le_trans (cutL_le _ x y) (tk_right l).1
  unfold spanL
  by_cases hxy : x ≤ y
  · rw [if_pos hxy]
    have hR : Right [(x, y)] := ord_right ⟨fun r hr => by rw [List.mem_singleton] at hr; rw [hr]; exact hxy, List.pairwise_singleton _ _⟩ (fun r hr => by rw [List.mem_singleton] at hr; rw [hr]; dsimp only; omega) (by simp)
    refine ⟨?_, hR⟩
    unfold bothR
    rw [tk_yes hR, ov_cut hO, if_pos hle]
  · rw [if_neg hxy]
    refine ⟨?_, right_nil⟩
    have e : cutL (tk l) x y = [] := by rw [← ov_cut hO]; unfold ov; rw [ovF_none (tk l) x y (by omega) _ 0 0 (Nat.le_refl _)]
    have e2 : ov (tk l) (tk []) = [] := by rw [tk_yes right_nil]; exact ovF_no _ _ _ _ (by simp)
    unfold bothR
    rw [e2, e]; simp

theorem nums_get (ds : List Int) (j : Nat) (hj : j < ds.length) : (nums ds)[j]? = some (.int .i64 (ds[j]?.getD 0)) := by
  unfold nums
  rw [List.getElem?_map, List.getElem?_eq_getElem hj]; rfl

set_option maxRecDepth 100000 in
set_option maxHeartbeats 4000000 in
theorem steps_walk (s : Value) (l : List Rg) (x y : Int) (W : World) (h : Sr W s l) (hf : FitsR l) (hM : MaxL W) (hT : Tens W.heap.size W) :
    Calls Tryz.prog 7 #[s, .int .i64 x, .int .i64 y] W fun e w' => e = .returned (.bool true) ∧ Below W.heap.size W w' := by
  have hM0 := hM.1
  have HM : Hid (MaxL W) := hM
  have HT : Hid (Tens W.heap.size W) := hT
  have HS : Hid (Sr W s l) := h
  have HF : Hid (FitsR l) := hf
  have hvs := refvalues_any s l 300 W h (by decide)
  have hR := tk_right l
  have HR : Hid (Right (tk l)) := hR
  obtain ⟨a, cap, rfl, _⟩ := h
  clear hM hT hf hR
  go_enter Tryz.func7, Tryz.ntmps7
  go_wp2_with fail
  refine hvs.mono ?_
  clear hvs
  rintro e w1 ⟨sw, rfl, hrow, hB1⟩
  obtain ⟨vs, hvs⟩ : ∃ vs, vals (tk l) = vs := ⟨_, rfl⟩
  rw [hvs] at hrow
  have HVS : Hid (vals (tk l) = vs) := hvs
  obtain ⟨n, hn⟩ : ∃ n, (vs.take 300).length = n := ⟨_, rfl⟩
  have hnm : n = min 300 vs.length := by rw [← hn, List.length_take]
  have hws : ∃ ow oc, sw = .slice ow n oc := by
    rcases hrow.2 with ⟨e1, e2⟩ | ⟨g', cap', cur, e1, _⟩
    · rw [hn] at e2; subst e2; exact ⟨none, 0, e1⟩
    · rw [hn] at e1; exact ⟨_, _, e1⟩
  obtain ⟨ow, oc, rfl⟩ := hws
  have hwc : ∀ k, k < n → ∃ g, ow = some ⟨g, 0, none⟩ ∧ g < w1.heap.size ∧ w1.cell? ⟨g, k, none⟩ = some (.int .i64 (vs[k]?.getD 0)) := fun k hk => by
    rw [hn] at hrow
    obtain ⟨g, c, e, _, hlt, hcell⟩ := own_some hrow (by omega)
    injection e with e1 _ _
    refine ⟨g, e1, hlt, hcell k _ ?_⟩
    rw [nums_get _ k (by omega)]
    congr 2
    rw [List.getElem?_take_of_lt (by omega)]
  have HWC : Hid _ := hwc
  have HNM : Hid (n = min 300 vs.length) := hnm
  have hn300 : n ≤ 300 := by omega
  have hmin := dommin_any _ l w1 (HS.out.below hB1) HF.out
  rw [HVS.out] at hmin
  clear hvs hrow hn hwc hnm
  go_wp2_with fail
  refine hmin.mono ?_
  clear hmin
  rintro e w2 ⟨rfl, hb2⟩
  have hB2 : Below W.heap.size W w2 := hB1.trans (hb2.mono hB1.size)
  go_wp2
  go_loopw [8, 9, 10] (fun v ok i wr => ∃ (k : Nat), k ≤ n ∧ i = .int .i64 k ∧ v = .int .i64 (stp vs k).1 ∧ ok = .bool (stp vs k).2 ∧ Below W.heap.size W wr ∧ Below w1.heap.size w1 wr) (fun _ _ i _ => n - (intOf i).toNat)
  case atStart => exact ⟨0, by omega, rfl, rfl, rfl, hB2, hb2⟩
  case round =>
    clear hB2 hb2
    obtain ⟨k, hk, rfl, rfl, rfl, hB, hBw⟩ := hrel
    by_cases hlt : k < n
    · obtain ⟨g, rfl, hg, hc⟩ := HWC.out k hlt
      have d1 := (hBw.cell (p := ⟨g, k, none⟩) hg).trans hc
      have hkl : k < vs.length := by have := HNM.out; omega
      have hst : stp vs k = (vs[k], true) := by unfold stp; rw [List.getElem?_eq_getElem hkl]; simp [hkl]
      have hmem : vs[k] ∈ vals (tk l) := by rw [HVS.out]; exact List.getElem_mem hkl
      have hbd := vals_bounds HR.out _ hmem
      have hnx : nextR (tk l) (vs[k] + 1) = stp vs (k + 1) := by
        have h9 := next_succ HR.out k (by rw [HVS.out]; exact hkl)
        simp only [HVS.out] at h9
        exact h9
      have hhas : hasV l vs[k] = true := by unfold hasV; exact decide_eq_true hmem
      rw [List.getElem?_eq_getElem hkl, Option.getD_some] at d1
      rw [hst]
      have hh := domhas_any _ l vs[k] wr (HS.out.below hB) HF.out
      rw [hhas] at hh
      have hnn := fun X (hX : Below W.heap.size W X) => domnext_any _ l (vs[k] + 1) X (HS.out.below hX) HF.out
      rw [hnx] at hnn
      obtain ⟨z, hz⟩ : ∃ z, vs[k] = z := ⟨_, rfl⟩
      rw [hz] at d1 hbd hh hnn ⊢
      obtain ⟨hb1, hb2⟩ := hbd
      have hlt' : (k : Int) < (n : Int) := by omega
      clear hst hmem hnx hhas hz hc
      go_wp2_with fail
      refine hh.mono ?_
      clear hh
      rintro e w3 ⟨rfl, hb3⟩
      have hB3 : Below W.heap.size W w3 := hB.trans (hb3.mono hB.size)
      have hB3w : Below w1.heap.size w1 w3 := hBw.trans (hb3.mono hBw.size)
      clear hb3 d1
      go_wp2_with fail
      refine (hnn _ hB3).mono ?_
      clear hnn
      rintro e w4 ⟨rfl, hb4⟩
      have hB4 : Below W.heap.size W w4 := hB3.trans (hb4.mono hB3.size)
      have hB4w : Below w1.heap.size w1 w4 := hB3w.trans (hb4.mono hB3w.size)
      clear hb4
      go_wp2
      go_roundw
      case rel => exact ⟨k + 1, by omega, by go_num, rfl, rfl, hB4, hB4w⟩
      case measure => simp [intOf]; omega
    · obtain rfl : k = n := by omega
      have hok : (k : Int) < 300 → (stp vs k).2 = false := fun h9 => by
        unfold stp
        have := HNM.out
        simp; omega
      obtain ⟨z, hz⟩ : ∃ z, (stp vs k).1 = z := ⟨_, rfl⟩
      obtain ⟨t, ht⟩ : ∃ t, (stp vs k).2 = t := ⟨_, rfl⟩
      rw [hz, ht]
      rw [ht] at hok
      clear hz ht
      by_cases h300 : (k : Int) < 300
      · obtain rfl := hok h300
        go_wp2_with fail
        refine (domspan_any x y _).mono ?_
        rintro e w5 ⟨sp, cp, rfl, hb5, hcp⟩
        have hB5 : Below W.heap.size W w5 := hB.trans (hb5.mono hB.size)
        clear hb5
        rcases hcp with ⟨hin, rfl, hrow⟩ | ⟨_, rfl, rfl⟩
        · obtain ⟨hbs, hRs⟩ := both_span l x y hin
          have hSp := own_srl hrow
          have HSp : Hid (Sr w5 sp (spanL x y)) := hSp
          have HBS : Hid (bothR l (spanL x y) = cutL (tk l) x y) := hbs
          have HRS : Hid (Right (spanL x y)) := hRs
          have h9 := hSp
          obtain ⟨asp, csp, rfl, _⟩ := h9
          have hcut := domcut_any _ l x y w5 (HS.out.below hB5) HF.out
          clear hrow hSp hbs hRs hin hok HWC
          go_wp2_with fail
          refine hcut.mono ?_
          clear hcut
          rintro e w6 ⟨sc, rfl, hrow6, hb6⟩
          have hB6 : Below W.heap.size W w6 := hB5.trans (hb6.mono hB5.size)
          have hSc := own_srl hrow6
          have HSc : Hid (Sr w6 sc (cutL (tk l) x y)) := hSc
          have h9 := hSc
          obtain ⟨asc, csc, rfl, _⟩ := h9
          have hboth := domboth_any _ _ l (spanL x y) w6 (HS.out.below hB6) (HSp.out.below hb6) HF.out (fits_small HRS.out)
          rw [HBS.out] at hboth
          clear hrow6 hSc hb6
          go_wp2_with fail
          refine hboth.mono ?_
          clear hboth
          rintro e w7 ⟨sb, rfl, hrow7, hb7⟩
          have hB7 : Below W.heap.size W w7 := hB6.trans (hb7.mono hB6.size)
          have hSb := own_srl hrow7
          have hsame := domsame_same _ _ _ _ w7 (HSc.out.below hb7) hSb (fits_small (cut_right HR.out x y)) (fits_small (cut_right HR.out x y)) rfl
          have h9 := hSb
          obtain ⟨asb, csb, rfl, _⟩ := h9
          clear hrow7 hSb hb7
          go_wp2_with fail
          refine hsame.mono ?_
          clear hsame
          rintro e w8 ⟨rfl, hb8⟩
          have hB8 : Below W.heap.size W w8 := hB7.trans (hb8.mono hB7.size)
          clear hb8
          go_wp2_with fail
          refine (known22 _ (HM.out.below hB8 hM0) (Tens.here HT.out hB8)).mono ?_
          rintro e w9 ⟨rfl, hb9⟩
          have hB9 : Below W.heap.size W w9 := hB8.trans (hb9.mono hB8.size)
          clear hb9
          go_wp2
          go_ret
          exact ⟨rfl, hB9⟩
        · clear hok HWC
          go_wp2_with fail
          refine (known22 _ (HM.out.below hB5 hM0) (Tens.here HT.out hB5)).mono ?_
          rintro e w9 ⟨rfl, hb9⟩
          have hB9 : Below W.heap.size W w9 := hB5.trans (hb9.mono hB5.size)
          clear hb9
          go_wp2
          go_ret
          exact ⟨rfl, hB9⟩
      · have h300' : decide ((k : Int) < 300) = false := by simpa using h300
        go_wp2_with fail
        refine (domspan_any x y _).mono ?_
        rintro e w5 ⟨sp, cp, rfl, hb5, hcp⟩
        have hB5 : Below W.heap.size W w5 := hB.trans (hb5.mono hB.size)
        clear hb5
        rcases hcp with ⟨hin, rfl, hrow⟩ | ⟨_, rfl, rfl⟩
        · obtain ⟨hbs, hRs⟩ := both_span l x y hin
          have hSp := own_srl hrow
          have HSp : Hid (Sr w5 sp (spanL x y)) := hSp
          have HBS : Hid (bothR l (spanL x y) = cutL (tk l) x y) := hbs
          have HRS : Hid (Right (spanL x y)) := hRs
          have h9 := hSp
          obtain ⟨asp, csp, rfl, _⟩ := h9
          have hcut := domcut_any _ l x y w5 (HS.out.below hB5) HF.out
          clear hrow hSp hbs hRs hin hok HWC
          go_wp2_with fail
          refine hcut.mono ?_
          clear hcut
          rintro e w6 ⟨sc, rfl, hrow6, hb6⟩
          have hB6 : Below W.heap.size W w6 := hB5.trans (hb6.mono hB5.size)
          have hSc := own_srl hrow6
          have HSc : Hid (Sr w6 sc (cutL (tk l) x y)) := hSc
          have h9 := hSc
          obtain ⟨asc, csc, rfl, _⟩ := h9
          have hboth := domboth_any _ _ l (spanL x y) w6 (HS.out.below hB6) (HSp.out.below hb6) HF.out (fits_small HRS.out)
          rw [HBS.out] at hboth
          clear hrow6 hSc hb6
          go_wp2_with fail
          refine hboth.mono ?_
          clear hboth
          rintro e w7 ⟨sb, rfl, hrow7, hb7⟩
          have hB7 : Below W.heap.size W w7 := hB6.trans (hb7.mono hB6.size)
          have hSb := own_srl hrow7
          have hsame := domsame_same _ _ _ _ w7 (HSc.out.below hb7) hSb (fits_small (cut_right HR.out x y)) (fits_small (cut_right HR.out x y)) rfl
          have h9 := hSb
          obtain ⟨asb, csb, rfl, _⟩ := h9
          clear hrow7 hSb hb7
          go_wp2_with fail
          refine hsame.mono ?_
          clear hsame
          rintro e w8 ⟨rfl, hb8⟩
          have hB8 : Below W.heap.size W w8 := hB7.trans (hb8.mono hB7.size)
          clear hb8
          go_wp2_with fail
          refine (known22 _ (HM.out.below hB8 hM0) (Tens.here HT.out hB8)).mono ?_
          rintro e w9 ⟨rfl, hb9⟩
          have hB9 : Below W.heap.size W w9 := hB8.trans (hb9.mono hB8.size)
          clear hb9
          go_wp2
          go_ret
          exact ⟨rfl, hB9⟩
        · clear hok HWC
          go_wp2_with fail
          refine (known22 _ (HM.out.below hB5 hM0) (Tens.here HT.out hB5)).mono ?_
          rintro e w9 ⟨rfl, hb9⟩
          have hB9 : Below W.heap.size W w9 := hB5.trans (hb9.mono hB5.size)
          clear hb9
          go_wp2
          go_ret
          exact ⟨rfl, hB9⟩
end Go.Proofs.YtkloadlodofipaaGreatDoor
