/-
  What is proved here: the reference's Choose tells the same decision.
-/
import Derived.Test.YthkliicmoandmaaGreatDoorEe
import Derived.Test.YthkliicmoandmaaGreatDoorDhj
import Derived.Deep.RegionHeld3
namespace Go.Proofs.YthkliicmoandmaaGreatDoor
open Go.RowKit Go.Shelf
set_option linter.unusedVariables false
set_option linter.unusedSimpArgs false

theorem cell_set3 {w : World} {g N i : Nat} {v u0 u1 u2 : Value} (h : w.cell? ⟨g, i, none⟩ = some v) (hn : g ≠ N) : (((w.setCell ⟨N, 0, none⟩ u0).setCell ⟨N, 1, none⟩ u1).setCell ⟨N, 2, none⟩ u2).cell? ⟨g, i, none⟩ = some v := by
  have hb : (((w.setCell ⟨N, 0, none⟩ u0).setCell ⟨N, 1, none⟩ u1).setCell ⟨N, 2, none⟩ u2).heap[g]? = w.heap[g]? := (Below.heap_setCell _ _ _ g hn).trans ((Below.heap_setCell _ _ _ g hn).trans (Below.heap_setCell _ _ _ g hn))
  exact (World.cell?_of_block (a := ⟨g, i, none⟩) hb).trans h
theorem has_open (D : List MD) (v : Int) : hasI (openAll D) v = openB D v := by
  unfold hasI
  cases h : openB D v with
  | true =>
    have hm : v ∈ openAll D := by
      obtain ⟨n, d, e, _, _, hl⟩ := openB_dom h
      exact List.mem_filter.2 ⟨by rw [e]; unfold rangeI; exact List.mem_map.2 ⟨n, List.mem_range.2 hl, rfl⟩, h⟩
    simpa using hm
  | false =>
    have hm : ¬ v ∈ openAll D := fun hm => by have := (List.mem_filter.1 hm).2; rw [h] at this; exact absurd this (by decide)
    simpa using hm
theorem open_none {D : List MD} (h : openAll D = []) (l : List Int) : openL l D = [] := by
  unfold openL
  rw [List.filter_eq_nil_iff]
  intro v _
  rw [← has_open, h]
  simp [hasI]
theorem phase_none {D : List MD} (h : openAll D = []) : ∀ L : List Ph, (phaseM D L).vars = []
  | [] => h
  | p :: L => by unfold phaseM; rw [if_pos (open_none h p.vars)]; exact phase_none h L
theorem which_zero {f : Int → Int} (hf : ∀ v, f v = 0) : ∀ (l : List Int) (b : Int × Int × Bool), b.2.2 = true → b.2.1 = 0 → l.foldl (fun b v => offM b v (f v)) b = b
  | [], b, _, _ => rfl
  | v :: t, b, h1, h2 => by
    rw [List.foldl_cons]
    have : offM b v (f v) = b := offM_old (by rw [h1, hf, h2]; simp)
    rw [this]
    exact which_zero hf t b h1 h2
theorem which_first {f : Int → Int} (hf : ∀ v, f v = 0) {v : Int} {t : List Int} : (whichM f (v :: t)).1 = v := by
  unfold whichM
  rw [List.foldl_cons, offM_new (.inl rfl), hf v]
  rw [which_zero hf t (v, 0, true) rfl rfl]
theorem rank_zero (D : List MD) (v : Int) : rkV (rankF 0) D v = 0 := by
  unfold rkV
  cases D[v.toNat]? with
  | none => rfl
  | some d => simp [rankF]
theorem sel_first {D : List MD} {v : Int} {t R : List Int} (h : openAll D = v :: t) : selM ⟨openAll D, 0, 0⟩ D R = (v, R) := by
  unfold selM
  rw [if_neg (show ¬ (0 : Int) = 5 by decide)]
  dsimp only
  rw [h, which_first (rank_zero D)]

set_option maxRecDepth 100000 in
set_option maxHeartbeats 4000000 in
theorem rchoose0 {X : Nat → Prop} {B0 W : World} {p : Nat} {p1 : Option Addr} {n k1 : Nat} {p2 : Option Addr} {nd k2 : Nat} {L : List Ph} {D : List MD} {Q R : List Int} (hP : Ps B0 (.slice p1 n k1) L) (hd : Ds B0 (.slice p2 nd k2) D) (hB : Below B0.heap.size B0 W) (hD : ∀ d ∈ D, Good d) (hz : SzP L D) (hr : Rq X W p Q R) (hpos : B0.heap.size ≤ p) (hXX : ∀ b, W.heap.size ≤ b → X b) :
    Calls Tryz.prog 11 #[.slice p1 n k1, .slice p2 nd k2, ptr p] W fun e w' => e = .returned (.tuple #[.agg #[.int .i64 (chooseM L D R).1.1, .int .i64 (chooseM L D R).1.2.1, .int .i64 (chooseM L D R).1.2.2.1], .bool (chooseM L D R).1.2.2.2]) ∧ Rq X w' p Q (chooseM L D R).2 ∧ Kept (fun b => b = p) W w' := by
  obtain ⟨N, hN⟩ : ∃ N, W.heap.size = N := ⟨_, rfl⟩
  obtain ⟨W0, hW0⟩ : ∃ Q, W.alloc (Obj.cells #[.int .i64 0, .int .i64 0, .int .i64 0] 35) = Q := ⟨_, rfl⟩
  have hb0 : Below W.heap.size W W0 := by rw [← hW0]; exact (Below.refl _ W).alloc (Nat.le_refl _) _
  have HZ0 : Hid (Bx W0 N #[.int .i64 0, .int .i64 0, .int .i64 0] 35) := by rw [← hW0]; exact Bx.new' hN _ _
  have hBW0 : Below B0.heap.size B0 W0 := hB.trans (hb0.mono hB.size)
  have ko := ropen_any (hd.below hBW0) hD hz.d
  have hLn : L.length = n := by obtain ⟨a, c, e, _⟩ := hP; injection e with _ e2 _; exact e2.symm
  have hDn : D.length = nd := by obtain ⟨a, c, e, _⟩ := hd; injection e with _ e2 _; exact e2.symm
  have HP : Hid (Ps B0 (.slice p1 n k1) L) := hP
  have HD : Hid (Ds B0 (.slice p2 nd k2) D) := hd
  have HG : Hid (∀ d ∈ D, Good d) := hD
  have HZ : Hid (SzP L D) := hz
  have HPO : Hid (B0.heap.size ≤ p) := hpos
  have hpl := hr.lt
  have HPN : Hid (p < N) := by unfold Hid; omega
  have HXN : Hid (X N) := hXX _ (by omega)
  have HNN : Hid (W.heap.size ≤ N) := by unfold Hid; omega
  have HB0 : Hid (Below W.heap.size W W0) := hb0
  have HBW0 : Hid (Below B0.heap.size B0 W0) := hBW0
  have HRW : Hid (∀ w, Below W0.heap.size W0 w → Rq X w p Q R) := fun w hb => (hr.below hb0).below hb
  have HWW : Hid _ := hW0
  have HLN : Hid (L.length = n) := hLn
  have HDN : Hid (D.length = nd) := hDn
  have HOL : Hid ((openAll D).length * 8 ≤ 140737488355328) := phase_len D [] ⟨fun p hp => by simp at hp, hz.d, by simp⟩
  have hnb : n ≤ 9223372036854775806 := by rw [← hLn]; exact hz.l
  obtain ⟨i0, hi0, hz0, hz1, hz2⟩ := info_parts Tryz.infoI
  clear hP hd hB hD hz hr hpos hXX hpl hLn hDn hW0 hb0 hBW0
  have HKW : Hid (∀ w, Kept (fun b => b = p) W0 w → Kept (fun b => b = p) W w) := fun w hk => (Kept.of_below HB0.out).trans hk (Up.refl _ _)
  have HZK : Hid (∀ w, Kept (fun b => b = p) W0 w → Bx w N #[.int .i64 0, .int .i64 0, .int .i64 0] 35) := fun w hk => HZ0.out.kept hk (fun e => by have := HPN.out; omega) |> fun h => h
  go_enter Tryz.func11, Tryz.ntmps11
  go_upto_region 1 with (fail)
  rw [HWW.out]
  clear hN
  go_wp2_with fail
  refine ko.mono ?_
  clear ko
  rintro e w1 ⟨ov, rfl, ho1, hb1⟩
  obtain ⟨oa, oc, rfl⟩ := ho1.shape
  obtain ⟨on, hon⟩ : ∃ q, (openAll D).length = q := ⟨_, rfl⟩
  rw [hon] at ho1 ⊢
  have HON : Hid ((openAll D).length = on) := hon
  have HO1 : Hid (Oi W0.heap.size w1 (.slice oa on oc) (openAll D)) := ho1
  have HB1 : Hid (Below W0.heap.size W0 w1) := hb1
  have HBB1 : Hid (Below B0.heap.size B0 w1) := HBW0.out.trans (hb1.mono HBW0.out.size)
  clear ho1 hb1 hon
  by_cases hon0 : on = 0
  · subst hon0
    have hoe : openAll D = [] := List.eq_nil_of_length_eq_zero HON.out
    have HCM : Hid (chooseM L D R = ((0, 0, 0, false), R)) := by unfold Hid chooseM; rw [if_pos (phase_none hoe L)]
    have HK1 : Hid (Kept (fun b => b = p) W0 w1) := Kept.of_below HB1.out
    have HZw : Hid (Bx w1 N #[.int .i64 0, .int .i64 0, .int .i64 0] 35) := HZK.out _ HK1.out
    obtain ⟨y0, y1, y2⟩ := HZw.out.three
    have f0 := HZw.out.fr 0
    have f1 := HZw.out.fr 1
    have f2 := HZw.out.fr 2
    have HZX := HZw.out.set3 (.int .i64 0) (.int .i64 0) (.int .i64 0)
    clear hoe
    go_wp2
    refine ⟨rfl, _, res_ct rfl _ HZX (by with_unfolding_all rfl) rfl Tryz.underlying35 (by kernel_rfl) (v := .bool false) (by with_unfolding_all rfl), ?_, ?_, ?_⟩
    · rw [HCM.out]
    · rw [HCM.out]; exact (HRW.out _ HB1.out).set3 HXN.out (by have := HPN.out; omega)
    · exact kept_set3' HKW.out HK1.out HNN.out
  · have hon1 : ((on : Int) == 0) = false := by simp; omega
    go_wp2
    go_loopw [9] (fun i wr => ∃ k : Nat, i = .int .i64 (k : Int) ∧ k ≤ n ∧ Hid (phaseM D L = phaseM D (L.drop k)) ∧ Hid (Below w1.heap.size w1 wr)) (fun i _ => n - (intOf i).toNat)
    case atStart => exact ⟨0, rfl, Nat.zero_le _, rfl, Below.refl _ _⟩
    case round =>
      obtain ⟨k, rfl, hk, HPH, HBr⟩ := hrel
      obtain ⟨wo, hwo⟩ : ∃ x, x = wr := ⟨_, rfl⟩
      rw [← hwo] at HBr ⊢
      clear hwo wr
      have HBWo : Hid (Below B0.heap.size B0 wo) := HBB1.out.trans (HBr.out.mono HBB1.out.size)
      by_cases hlt : k < n
      · have hlt' : (k : Int) < (n : Int) := by omega
        have hwk : IntKind.i64.wrap ((k : Int) + 1) = (k : Int) + 1 := by rw [IntKind.wrap_i64]; omega
        obtain ⟨P, hp⟩ : ∃ p, L[k]? = some p := ⟨_, List.getElem?_eq_getElem (by rw [HLN.out]; exact hlt)⟩
        obtain ⟨bp, offp, rfl, hbp, _, pv, kv, hns, j0, j1, j2⟩ := HP.out.at hp
        have HND : Hid (phaseM D (L.drop k) = if openL P.vars D = [] then phaseM D (L.drop (k + 1)) else ⟨openL P.vars D, P.sel, P.val⟩) := phaseM_drop D L k P hp
        have HPL : Hid (P.vars.length * 8 ≤ 140737488355328) := HZ.out.v P (List.mem_of_getElem? hp)
        obtain ⟨l, sel, val⟩ := P
        dsimp only at hns j0 j1 j2 HND HPL
        obtain ⟨nv, hnv⟩ : ∃ q, l.length = q := ⟨_, rfl⟩
        rw [hnv] at hns j0
        have HNV : Hid (l.length = nv) := hnv
        have HCP : Hid (∀ w, Below B0.heap.size B0 w → w.cell? ⟨bp, offp + k * 3, none⟩ = some (.slice pv nv kv) ∧ w.cell? ⟨bp, offp + k * 3 + 1, none⟩ = some (.int .i64 sel) ∧ w.cell? ⟨bp, offp + k * 3 + 2, none⟩ = some (.int .i64 val)) := fun w hb => ⟨(hb.cell (p := ⟨bp, _, none⟩) hbp).trans j0, (hb.cell (p := ⟨bp, _, none⟩) hbp).trans j1, (hb.cell (p := ⟨bp, _, none⟩) hbp).trans j2⟩
        have HNS : Hid (∀ w, Below B0.heap.size B0 w → Ns w (.slice pv nv kv) l) := fun w hb => hns.below hb
        have HVZ : Hid (0 < nv → ∃ b off, pv = some ⟨b, off, none⟩) := fun h0 => by
          obtain ⟨a, c, e, hc⟩ := hns
          obtain ⟨b, off, e1, _⟩ := hc (by omega)
          injection e with e2 _ _
          exact ⟨b, off, e2.trans e1⟩
        have HBo : Hid (w1.heap.size ≤ wo.heap.size) := HBr.out.size
        clear hp hns j0 j1 j2 hnv
        have hnvb : nv * 8 ≤ 140737488355328 := by rw [← HNV.out]; exact HPL.out
        go_wp2
        go_loopw [10, 11] (fun sv i wr => ∃ j : Nat, i = .int .i64 (j : Int) ∧ j ≤ nv ∧ Hid (Oi w1.heap.size wr sv (openL (l.take j) D)) ∧ Hid (Below w1.heap.size w1 wr)) (fun _ i _ => nv - (intOf i).toNat)
        case atStart => exact ⟨0, rfl, Nat.zero_le _, by unfold Hid; simpa [Oi, ivl, openL] using World.ownsRow_nil _ _ _ _, HBr.out⟩
        case round =>
          obtain ⟨j, rfl, hj, HOj, HBj⟩ := hrel
          have HBWj : Hid (Below B0.heap.size B0 wr) := HBB1.out.trans (HBj.out.mono HBB1.out.size)
          obtain ⟨sa, sc, rfl⟩ := HOj.out.shape
          have hls : (openL (l.take j) D).length ≤ j := Nat.le_trans (openL_le _ _) (by rw [List.length_take]; omega)
          obtain ⟨sn, hsn⟩ : ∃ q, (openL (l.take j) D).length = q := ⟨_, rfl⟩
          rw [hsn] at HOj hls ⊢
          have HSN : Hid ((openL (l.take j) D).length = sn) := hsn
          clear hsn
          obtain ⟨g0, g1, g2⟩ := HCP.out wr HBWj.out
          by_cases hjl : j < nv
          · have hjl' : (j : Int) < (nv : Int) := by omega
            have hwj : IntKind.i64.wrap ((j : Int) + 1) = (j : Int) + 1 := by rw [IntKind.wrap_i64]; omega
            obtain ⟨v, hv⟩ : ∃ v, l[j]? = some v := ⟨_, List.getElem?_eq_getElem (by rw [HNV.out]; exact hjl)⟩
            have HSS : Hid (openL (l.take (j + 1)) D = if openB D v then openL (l.take j) D ++ [v] else openL (l.take j) D) := openL_snoc l D j v hv
            obtain ⟨bv, offv, rfl⟩ := HVZ.out (by omega)
            have gv : wr.cell? ⟨bv, offv + j, none⟩ = some (.int .i64 v) := by
              obtain ⟨a, c, e, hc⟩ := HNS.out wr HBWj.out
              obtain ⟨b, off, e1, _, _, hcc⟩ := hc (by rw [HNV.out]; omega)
              injection e with q1 _ _
              have q2 := q1.trans e1
              injection q2 with q2
              injection q2 with q3 q4
              subst q3 q4
              exact hcc j v hv
            have kh := rhas_any v (HO1.out.ns.below HBj.out) (by have := HOL.out; omega)
            rw [has_open D v] at kh
            clear hv
            cases hob : openB D v
            · rw [hob] at kh HSS
              go_wp2_with fail
              refine kh.mono ?_
              clear kh
              rintro e wt ⟨rfl, hwt⟩
              rw [hwt]
              clear hwt wt
              go_wp2
              go_roundw
              case rel => exact ⟨j + 1, by go_num, by omega, by unfold Hid; rw [HSS.out]; exact HOj.out, HBj.out⟩
              case measure => simp [intOf]; omega
            · rw [hob] at kh HSS
              have hbytes : (sn + 1) * 8 ≤ 140737488355328 := by omega
              have hlenm : sn + 1 ≤ maxLen := by unfold maxLen; omega
              have HOW : Hid (wr.ownsRow w1.heap.size 3 1 (.slice sa sn sc) sn (ivl (openL (l.take j) D))) := by have := HOj.out; unfold Oi at this; rw [HSN.out] at this; exact this
              have HBA : Hid (Below w1.heap.size w1 (wr.alloc (Obj.cells #[.int .i64 v] 3))) := HBj.out.alloc HBj.out.size _
              have HSZ : Hid (w1.heap.size ≤ wr.heap.size) := HBj.out.size
              go_wp2_with fail
              refine kh.mono ?_
              clear kh
              rintro e wt ⟨rfl, hwt⟩
              rw [hwt]
              clear hwt wt
              go_wp2_with (at_builtin; refine wpList_append_own _ rfl _ _ 24 rfl w1.heap.size 3 i0 (.int .i64 0) 1 8 Tryz.underlying24 hi0 hz0 hz1 hz2 rfl (by decide) _ _ _ rfl (HOW.out.alloc _) ⟨wr.heap.size, 0, none⟩ 1 1 [.int .i64 v] rfl rfl (fun j u hj => by cases j with | zero => (simp at hj; subst hj; simp [Addr.add]) | succ j => simp at hj) (by simp [Value.oneCell']) hlenm hbytes (by simp; have := HSZ.out; omega) ?_; intro v' w3 hown' hgrow _; obtain ⟨gn, capn, rfl⟩ := ownsRow_succ hown')
              go_roundw
              case rel =>
                refine ⟨j + 1, by go_num, by omega, ?_, ?_⟩
                · unfold Hid Oi
                  rw [HSS.out]
                  simp only [if_true, List.length_append, List.length_cons, List.length_nil, HSN.out]
                  have : ivl (openL (l.take j) D ++ [v]) = ivl (openL (l.take j) D) ++ [.int .i64 v] := by simp [ivl]
                  rw [this]; exact hown'
                · exact HBA.out.grown hgrow (by simp; have := HSZ.out; omega) (fun g hg => own_typN HOW.out hg)
              case measure => simp [intOf]; omega
          · have hjl' : ¬ (j : Int) < (nv : Int) := by omega
            obtain rfl : j = nv := by omega
            have hfull : l.take j = l := List.take_of_length_le (by rw [HNV.out]; exact Nat.le_refl _)
            rw [hfull] at HOj HSN
            clear hfull
            by_cases hs0 : sn = 0
            · subst hs0
              have hem : openL l D = [] := List.eq_nil_of_length_eq_zero HSN.out
              have HPX : Hid (phaseM D L = phaseM D (L.drop (k + 1))) := by unfold Hid; rw [HPH.out, HND.out, if_pos hem]
              clear hem
              go_wp2
              go_roundw
              case rel => exact ⟨k + 1, by go_num, by omega, HPX.out, HBj.out⟩
              case measure => simp [intOf]; omega
            · have hs1 : (0 : Int) < (sn : Int) := by omega
              have hs2 : (sn : Int) > 0 := by omega
              have hne : openL l D ≠ [] := fun e => by rw [e] at HSN; exact hs0 HSN.out.symm
              have HPX : Hid (phaseM D L = ⟨openL l D, sel, val⟩) := by unfold Hid; rw [HPH.out, HND.out, if_neg hne]
              have hop : ∀ v ∈ openL l D, openB D v = true := fun v hv => (List.mem_filter.1 hv).2
              have hll : (openL l D).length ≤ 9223372036854775806 := by rw [HSN.out]; omega
              have kv1 := rvar_all (P := ⟨openL l D, sel, val⟩) (oi_nm (Z := fun b => b = p) HOj.out (fun b hb => by rw [hb]; have h1 := HPN.out; have h2 := HB1.out.size; have h3 := HB0.out.size; have h4 := HNN.out; have h5 := HZ0.out.lt; omega)) (HD.out.below HBWj.out) hop hne hll (HRW.out wr (HB1.out.trans (HBj.out.mono HB1.out.size)))
              obtain ⟨vn, d, hvn, hdd, hsev, hvl⟩ := openB_dom (hop _ (sel_in (p := ⟨openL l D, sel, val⟩) D R hne))
              rw [hvn] at kv1
              have HCC : Hid (chooseM L D R = ((((vn : Int), (if d.set = true then elemA val (freeL d) (selM ⟨openL l D, sel, val⟩ D R).2 else numA val d.r (selM ⟨openL l D, sel, val⟩ D R).2).1.1, (if d.set = true then elemA val (freeL d) (selM ⟨openL l D, sel, val⟩ D R).2 else numA val d.r (selM ⟨openL l D, sel, val⟩ D R).2).1.2, true)), (if d.set = true then elemA val (freeL d) (selM ⟨openL l D, sel, val⟩ D R).2 else numA val d.r (selM ⟨openL l D, sel, val⟩ D R).2).2)) := by
                unfold Hid chooseM
                rw [HPX.out, if_neg hne]
                dsimp only
                rw [hvn]
                simp only [Int.toNat_natCast, hdd, Option.getD_some]
              generalize (selM ⟨openL l D, sel, val⟩ D R).2 = R1 at *
              have HKr : Hid (Kept (fun b => b = p) W0 wr) := Kept.of_below (HB1.out.trans (HBj.out.mono HB1.out.size))
              clear hop hll hvn hne HND HPH
              go_upto_region 14 with (fail)
              go_wp2_with fail
              refine kv1.mono ?_
              clear kv1 g0 g1 g2
              rintro e w4 ⟨rfl, hd4, hk4⟩
              have HRw : Hid (Rq X w4 p Q R1) := hd4
              have HKw : Hid (Kept (fun b => b = p) W0 w4) := HKr.out.trans hk4 (Up.refl _ _)
              have HBBw : Hid (Below B0.heap.size B0 w4) := HBWj.out.trans (hk4.below HBWj.out.size (fun b hb => by rw [hb]; exact HPO.out))
              clear hd4 hk4
              obtain ⟨b2, off2, hp2, hb2l, _, c0, c1, c2, c3, c4, c5, hDc0, u0, u1, u2, u3, u4, u5⟩ := HD.out.at hdd
              subst hp2
              have hDcB : Dc (fun b => b = p) B0 [c0, c1, c2, c3, c4, c5] d := hDc0.up (fun b hb => .inr (by rw [hb]; exact HPO.out))
              have HCE : Hid (∀ w, Below B0.heap.size B0 w → w.cell? ⟨b2, off2 + vn * 6, none⟩ = some c0 ∧ w.cell? ⟨b2, off2 + vn * 6 + 1, none⟩ = some c1 ∧ w.cell? ⟨b2, off2 + vn * 6 + 2, none⟩ = some c2 ∧ w.cell? ⟨b2, off2 + vn * 6 + 3, none⟩ = some c3 ∧ w.cell? ⟨b2, off2 + vn * 6 + 4, none⟩ = some c4 ∧ w.cell? ⟨b2, off2 + vn * 6 + 5, none⟩ = some c5) := fun w hb => ⟨(hb.cell (p := ⟨b2, _, none⟩) hb2l).trans u0, (hb.cell (p := ⟨b2, _, none⟩) hb2l).trans u1, (hb.cell (p := ⟨b2, _, none⟩) hb2l).trans u2, (hb.cell (p := ⟨b2, _, none⟩) hb2l).trans u3, (hb.cell (p := ⟨b2, _, none⟩) hb2l).trans u4, (hb.cell (p := ⟨b2, _, none⟩) hb2l).trans u5⟩
              have HBd : Hid (Below B0.heap.size B0 w4.drew) := HBBw.out.drew
              have HRd : Hid (Rq X w4.drew p Q R1) := HRw.out.below (Below.refl _ _).drew
              have HKd : Hid (Kept (fun b => b = p) W0 w4.drew) := HKw.out.then_below (Below.refl _ _).drew
              have kd := rdecide_any (vn : Int) val (hDcB.below HBd.out) hsev HRd.out
              have hvl' : vn < nd := by rw [← HDN.out]; exact hvl
              have hvi : (vn : Int) < (nd : Int) := by omega
              generalize (if d.set = true then elemA val (freeL d) R1 else numA val d.r R1).1.1 = q1 at *
              generalize (if d.set = true then elemA val (freeL d) R1 else numA val d.r R1).1.2 = q2 at *
              generalize (if d.set = true then elemA val (freeL d) R1 else numA val d.r R1).2 = R2 at *
              have HKD : Hid _ := kd
              have hone := hDc0.one
              clear kd hDcB hDc0 u0 u1 u2 u3 u4 u5 hb2l hsev hvl hdd hone
              have FS : Hid (∀ w, Kept (fun b => b = p) w4.drew w → Below B0.heap.size B0 w) := fun w hk => HBd.out.trans (hk.below HBd.out.size (fun b hb => by rw [hb]; exact HPO.out))
              have HNB : Hid (B0.heap.size ≤ N) := by have h1 := HPO.out; have h2 := HPN.out; unfold Hid; omega
              go_upto_region 15 with (fail)
              refine wp_region_held_drew (S := fun w : World => Below B0.heap.size B0 w) (by kernel_rfl) (HBd.out) (fun hHeld => ?_)
              refine wpAnyH_take (i := 0) (oi := { dst := some 68, op := Go.Op.move (Go.Operand.tmp 12), type := 3, pos := "ref.go:181", after := #[], guard := none }) (v := ?_) rfl (by kernel_rfl) (by kernel_rfl) (by kernel_rfl) (fun _ _ _ h => h) (Or.inl ⟨by rfl, ?_⟩) hHeld ?_
              rotate_left
              · intro w hSw; (try dsimp only at hSw); go_simp <;> with_reducible rfl
              try simp only [Act.put, List.setIfInBounds_toArray, List.set_cons_zero, List.set_cons_succ]
              refine wpAnyH_take (i := 1) (oi := { dst := some 69, op := Go.Op.move (Go.Operand.tmp 0), type := 22, pos := "ref.go:181", after := #[], guard := none }) (v := ?_) rfl (by kernel_rfl) (by kernel_rfl) (by kernel_rfl) (fun _ _ _ h => h) (Or.inl ⟨by rfl, ?_⟩) hHeld ?_
              rotate_left
              · intro w hSw; (try dsimp only at hSw); go_simp <;> with_reducible rfl
              try simp only [Act.put, List.setIfInBounds_toArray, List.set_cons_zero, List.set_cons_succ]
              refine wpAnyH_take (i := 2) (oi := { dst := some 70, op := Go.Op.move (Go.Operand.tmp 9), type := 3, pos := "ref.go:181", after := #[], guard := none }) (v := ?_) rfl (by kernel_rfl) (by kernel_rfl) (by kernel_rfl) (fun _ _ _ h => h) (Or.inl ⟨by rfl, ?_⟩) hHeld ?_
              rotate_left
              · intro w hSw; (try dsimp only at hSw); go_simp <;> with_reducible rfl
              try simp only [Act.put, List.setIfInBounds_toArray, List.set_cons_zero, List.set_cons_succ]
              refine wpAnyH_take (i := 3) (oi := { dst := some 71, op := Go.Op.indexAddr 22 (Go.Operand.tmp 69) (Go.Operand.tmp 70), type := 0, pos := "ref.go:181", after := #[{ on := 1, ground := Go.Ground.data }, { on := 2, ground := Go.Ground.data }], guard := none }) (v := ?_) rfl (by kernel_rfl) (by kernel_rfl) (by kernel_rfl) (fun _ _ _ h => h) (Or.inl ⟨by rfl, ?_⟩) hHeld ?_
              rotate_left
              · intro w hSw; (try dsimp only at hSw); go_simp <;> with_reducible rfl
              try simp only [Act.put, List.setIfInBounds_toArray, List.set_cons_zero, List.set_cons_succ]
              refine wpAnyH_take (i := 4) (oi := { dst := some 72, op := Go.Op.fieldAddr 71 (Go.Operand.tmp 71) 2, type := 0, pos := "ref.go:181", after := #[{ on := 3, ground := Go.Ground.data }], guard := none }) (v := ?_) rfl (by kernel_rfl) (by kernel_rfl) (by kernel_rfl) (fun _ _ _ h => h) (Or.inl ⟨by rfl, ?_⟩) hHeld ?_
              rotate_left
              · intro w hSw; (try dsimp only at hSw); go_simp <;> with_reducible rfl
              try simp only [Act.put, List.setIfInBounds_toArray, List.set_cons_zero, List.set_cons_succ]
              refine wpAnyH_take (i := 5) (oi := { dst := some 73, op := Go.Op.load 3 (Go.Operand.tmp 72), type := 3, pos := "ref.go:181", after := #[{ on := 4, ground := Go.Ground.data }], guard := none }) (v := ?_) rfl (by kernel_rfl) (by kernel_rfl) (by kernel_rfl) (fun _ _ _ h => h) (Or.inl ⟨by rfl, ?_⟩) hHeld ?_
              rotate_left
              · intro w hSw; obtain ⟨g0, g1, g2⟩ := HCP.out _ hSw; go_simp <;> with_reducible rfl
              try simp only [Act.put, List.setIfInBounds_toArray, List.set_cons_zero, List.set_cons_succ]
              refine wpAnyH_take (i := 6) (oi := { dst := some 74, op := Go.Op.move (Go.Operand.tmp 1), type := 23, pos := "ref.go:181", after := #[], guard := none }) (v := ?_) rfl (by kernel_rfl) (by kernel_rfl) (by kernel_rfl) (fun _ _ _ h => h) (Or.inl ⟨by rfl, ?_⟩) hHeld ?_
              rotate_left
              · intro w hSw; (try dsimp only at hSw); go_simp <;> with_reducible rfl
              try simp only [Act.put, List.setIfInBounds_toArray, List.set_cons_zero, List.set_cons_succ]
              refine wpAnyH_take (i := 7) (oi := { dst := some 75, op := Go.Op.move (Go.Operand.tmp 12), type := 3, pos := "ref.go:181", after := #[], guard := none }) (v := ?_) rfl (by kernel_rfl) (by kernel_rfl) (by kernel_rfl) (fun _ _ _ h => h) (Or.inl ⟨by rfl, ?_⟩) hHeld ?_
              rotate_left
              · intro w hSw; (try dsimp only at hSw); go_simp <;> with_reducible rfl
              try simp only [Act.put, List.setIfInBounds_toArray, List.set_cons_zero, List.set_cons_succ]
              refine wpAnyH_take (i := 8) (oi := { dst := some 76, op := Go.Op.indexAddr 23 (Go.Operand.tmp 74) (Go.Operand.tmp 75), type := 0, pos := "ref.go:181", after := #[{ on := 6, ground := Go.Ground.data }, { on := 7, ground := Go.Ground.data }], guard := none }) (v := ?_) rfl (by kernel_rfl) (by kernel_rfl) (by kernel_rfl) (fun _ _ _ h => h) (Or.inl ⟨by rfl, ?_⟩) hHeld ?_
              rotate_left
              · intro w hSw; (try dsimp only at hSw); go_simp <;> with_reducible rfl
              try simp only [Act.put, List.setIfInBounds_toArray, List.set_cons_zero, List.set_cons_succ]
              refine wpAnyH_take (i := 9) (oi := { dst := some 77, op := Go.Op.load 50 (Go.Operand.tmp 76), type := 50, pos := "ref.go:181", after := #[{ on := 8, ground := Go.Ground.data }], guard := none }) (v := ?_) rfl (by kernel_rfl) (by kernel_rfl) (by kernel_rfl) (fun _ _ _ h => h) (Or.inl ⟨by rfl, ?_⟩) hHeld ?_
              rotate_left
              · intro w hSw; obtain ⟨y0, y1, y2, y3, y4, y5⟩ := HCE.out _ hSw; go_simp <;> with_reducible rfl
              try simp only [Act.put, List.setIfInBounds_toArray, List.set_cons_zero, List.set_cons_succ]
              refine wpAnyH_take (i := 10) (oi := { dst := some 78, op := Go.Op.move (Go.Operand.tmp 2), type := 28, pos := "ref.go:181", after := #[], guard := none }) (v := ?_) rfl (by kernel_rfl) (by kernel_rfl) (by kernel_rfl) (fun _ _ _ h => h) (Or.inl ⟨by rfl, ?_⟩) hHeld ?_
              rotate_left
              · intro w hSw; (try dsimp only at hSw); go_simp <;> with_reducible rfl
              try simp only [Act.put, List.setIfInBounds_toArray, List.set_cons_zero, List.set_cons_succ]
              refine wpAnyH_ready (rs := [11]) (by kernel_rfl) (by simp) ?_
              refine AllReadyH.cons rfl (fun K hK => ?_) AllReadyH.nil
              go_simp
              refine Calls.mono HKD.out ?_
              rintro e w5 ⟨rfl, hd5, hk5⟩
              have HR5 : Hid (Rq X w5 p Q R2) := hd5
              have HK5 : Hid (Kept (fun b => b = p) w4.drew w5) := hk5
              have HKW5 : Hid (Kept (fun b => b = p) W0 w5) := HKd.out.trans hk5 (Up.refl _ _)
              clear hd5 hk5
              refine hK.out _ _ ((FS.out _ HK5.out)) (fun hHeld2 => ?_)
              clear hK K hHeld
              have hHeld := hHeld2
              clear hHeld2
              try simp only [Act.put, List.setIfInBounds_toArray, List.set_cons_zero, List.set_cons_succ]
              refine wpAnyH_ready (rs := [12]) (by kernel_rfl) (by simp) ?_
              refine AllReadyH.cons rfl (fun K hK => ?_) AllReadyH.nil
              have HZw : Hid (Bx w5 N #[.int .i64 0, .int .i64 0, .int .i64 0] 35) := HZK.out _ HKW5.out
              obtain ⟨y0, y1, y2⟩ := HZw.out.three
              have f0 := HZw.out.fr 0
              have f1 := HZw.out.fr 1
              have f2 := HZw.out.fr 2
              go_simp
              refine hK.out _ _ (((((FS.out _ HK5.out).setCell (p := ⟨N, 0, none⟩) HNB.out _).setCell (p := ⟨N, 1, none⟩) HNB.out _).setCell (p := ⟨N, 2, none⟩) HNB.out _)) (fun hHeld2 => ?_)
              clear hK K hHeld
              have hHeld := hHeld2
              clear hHeld2
              try simp only [Act.put, List.setIfInBounds_toArray, List.set_cons_zero, List.set_cons_succ]
              refine wpAnyH_take (i := 13) (oi := { dst := some 7, op := Go.Op.assign (Go.Operand.const (Go.Value.bool true)), type := 4, pos := "ref.go:181", after := #[{ on := 12, ground := Go.Ground.chain }, { on := 0, ground := Go.Ground.phase }, { on := 1, ground := Go.Ground.phase }, { on := 2, ground := Go.Ground.phase }, { on := 3, ground := Go.Ground.phase }, { on := 4, ground := Go.Ground.phase }, { on := 5, ground := Go.Ground.phase }, { on := 6, ground := Go.Ground.phase }, { on := 7, ground := Go.Ground.phase }, { on := 8, ground := Go.Ground.phase }, { on := 9, ground := Go.Ground.phase }, { on := 10, ground := Go.Ground.phase }, { on := 11, ground := Go.Ground.phase }, { on := 12, ground := Go.Ground.phase }], guard := none }) (v := ?_) rfl (by kernel_rfl) (by kernel_rfl) (by kernel_rfl) (fun _ _ _ h => h) (Or.inl ⟨by rfl, ?_⟩) hHeld ?_
              rotate_left
              · intro w hSw; (try dsimp only at hSw); go_simp <;> with_reducible rfl
              try simp only [Act.put, List.setIfInBounds_toArray, List.set_cons_zero, List.set_cons_succ]
              refine wpAnyH_done (by kernel_rfl) ?_ _
              have HZX := HZw.out.set3 (.int .i64 (vn : Int)) (.int .i64 q1) (.int .i64 q2)
              go_wp2
              refine ⟨rfl, _, res_ct rfl _ HZX (by with_unfolding_all rfl) rfl Tryz.underlying35 (by kernel_rfl) (v := .bool true) (by with_unfolding_all rfl), ?_, ?_, ?_⟩
              · rw [HCC.out]
              · rw [HCC.out]; exact HR5.out.set3 HXN.out (by have := HPN.out; omega)
              · exact kept_set3' HKW.out HKW5.out HNN.out
      · have hlt' : ¬ (k : Int) < (n : Int) := by omega
        have HPX : Hid (phaseM D L = ⟨openAll D, 0, 0⟩) := by unfold Hid; rw [HPH.out, List.drop_of_length_le (by rw [HLN.out]; omega)]; rfl
        obtain ⟨v0, tl, hvt⟩ : ∃ v t, openAll D = v :: t := by
          cases ho : openAll D with
          | nil => rw [ho] at HON; exact absurd HON.out.symm hon0
          | cons v t => exact ⟨v, t, rfl⟩
        obtain ⟨vn, d, hvn, hdd, hsev, hvl⟩ := openB_dom ((List.mem_filter.1 (show v0 ∈ openAll D by rw [hvt]; simp)).2)
        subst hvn
        obtain ⟨gO, cO, eO, hBg, hgO, _, hcO⟩ := HO1.out.at (by rw [HON.out]; omega)
        injection eO with eO eOn eO2
        subst eO eO2
        clear eOn
        have hon2 : 0 < on := by omega
        have hon3 : (0 : Int) < (on : Int) := by omega
        have hc0 : w1.cell? ⟨gO, 0, none⟩ = some (.int .i64 (vn : Int)) := hcO 0 _ (by rw [hvt]; rfl)
        have HC0 : Hid (∀ w, Below w1.heap.size w1 w → w.cell? ⟨gO, 0, none⟩ = some (.int .i64 (vn : Int))) := fun w hb => (hb.cell (p := ⟨gO, 0, none⟩) hgO).trans hc0
        have HCC : Hid (chooseM L D R = ((((vn : Int), (if d.set = true then elemA 0 (freeL d) R else numA 0 d.r R).1.1, (if d.set = true then elemA 0 (freeL d) R else numA 0 d.r R).1.2, true)), (if d.set = true then elemA 0 (freeL d) R else numA 0 d.r R).2)) := by
          unfold Hid chooseM
          rw [HPX.out, if_neg (show ¬ openAll D = [] by rw [hvt]; simp)]
          dsimp only
          rw [sel_first hvt]
          simp only [Int.toNat_natCast, hdd, Option.getD_some]
        have HRw : Hid (Rq X wo p Q R) := HRW.out wo (HB1.out.trans (HBr.out.mono HB1.out.size))
        have HKw : Hid (Kept (fun b => b = p) W0 wo) := Kept.of_below (HB1.out.trans (HBr.out.mono HB1.out.size))
        have HBBw : Hid (Below B0.heap.size B0 wo) := HBWo.out
        have HPG : Hid (gO ≠ p ∧ gO ≠ N) := by have h1 := HPN.out; have h2 := HZ0.out.lt; unfold Hid; omega
        clear hvt hc0 hcO HPH hBg
        obtain ⟨b2, off2, hp2, hb2l, _, c0, c1, c2, c3, c4, c5, hDc0, u0, u1, u2, u3, u4, u5⟩ := HD.out.at hdd
        subst hp2
        have hDcB : Dc (fun b => b = p) B0 [c0, c1, c2, c3, c4, c5] d := hDc0.up (fun b hb => .inr (by rw [hb]; exact HPO.out))
        have HCE : Hid (∀ w, Below B0.heap.size B0 w → w.cell? ⟨b2, off2 + vn * 6, none⟩ = some c0 ∧ w.cell? ⟨b2, off2 + vn * 6 + 1, none⟩ = some c1 ∧ w.cell? ⟨b2, off2 + vn * 6 + 2, none⟩ = some c2 ∧ w.cell? ⟨b2, off2 + vn * 6 + 3, none⟩ = some c3 ∧ w.cell? ⟨b2, off2 + vn * 6 + 4, none⟩ = some c4 ∧ w.cell? ⟨b2, off2 + vn * 6 + 5, none⟩ = some c5) := fun w hb => ⟨(hb.cell (p := ⟨b2, _, none⟩) hb2l).trans u0, (hb.cell (p := ⟨b2, _, none⟩) hb2l).trans u1, (hb.cell (p := ⟨b2, _, none⟩) hb2l).trans u2, (hb.cell (p := ⟨b2, _, none⟩) hb2l).trans u3, (hb.cell (p := ⟨b2, _, none⟩) hb2l).trans u4, (hb.cell (p := ⟨b2, _, none⟩) hb2l).trans u5⟩
        have HBd : Hid (Below B0.heap.size B0 wo.drew) := HBBw.out.drew
        have HRd : Hid (Rq X wo.drew p Q R) := HRw.out.below (Below.refl _ _).drew
        have HKd : Hid (Kept (fun b => b = p) W0 wo.drew) := HKw.out.then_below (Below.refl _ _).drew
        have kd := rdecide_any (vn : Int) 0 (hDcB.below HBd.out) hsev HRd.out
        have hvl' : vn < nd := by rw [← HDN.out]; exact hvl
        have hvi : (vn : Int) < (nd : Int) := by omega
        generalize (if d.set = true then elemA 0 (freeL d) R else numA 0 d.r R).1.1 = q1 at *
        generalize (if d.set = true then elemA 0 (freeL d) R else numA 0 d.r R).1.2 = q2 at *
        generalize (if d.set = true then elemA 0 (freeL d) R else numA 0 d.r R).2 = R2 at *
        have HKD : Hid _ := kd
        have hone := hDc0.one
        clear kd hDcB hDc0 u0 u1 u2 u3 u4 u5 hb2l hsev hvl hdd hone
        have FS : Hid (∀ w, Kept (fun b => b = p) wo.drew w → Below B0.heap.size B0 w) := fun w hk => HBd.out.trans (hk.below HBd.out.size (fun b hb => by rw [hb]; exact HPO.out))
        have HNB : Hid (B0.heap.size ≤ N) := by have h1 := HPO.out; have h2 := HPN.out; unfold Hid; omega
        have HC0d : Hid (wo.drew.cell? ⟨gO, 0, none⟩ = some (.int .i64 (vn : Int))) := HC0.out _ (HBr.out.drew)
        have HGL : Hid (gO < wo.drew.heap.size) := Nat.lt_of_lt_of_le hgO HBr.out.size
        have FS2 : Hid (∀ w, Kept (fun b => b = p) wo.drew w → Below B0.heap.size B0 w ∧ w.cell? ⟨gO, 0, none⟩ = some (.int .i64 (vn : Int))) := fun w hk => ⟨FS.out w hk, (hk.cell HGL.out HPG.out.1 0).trans HC0d.out⟩
        go_upto_region 16 with (fail)
        refine wp_region_held_drew (S := fun w : World => Below B0.heap.size B0 w ∧ w.cell? ⟨gO, 0, none⟩ = some (.int .i64 (vn : Int))) (by kernel_rfl) (⟨HBd.out, HC0d.out⟩) (fun hHeld => ?_)
        refine wpAnyH_take (i := 0) (oi := { dst := some 80, op := Go.Op.move (Go.Operand.tmp 8), type := 24, pos := "ref.go:184", after := #[], guard := none }) (v := ?_) rfl (by kernel_rfl) (by kernel_rfl) (by kernel_rfl) (fun _ _ _ h => h) (Or.inl ⟨by rfl, ?_⟩) hHeld ?_
        rotate_left
        · intro w hSw; (try dsimp only at hSw); go_simp <;> with_reducible rfl
        try simp only [Act.put, List.setIfInBounds_toArray, List.set_cons_zero, List.set_cons_succ]
        refine wpAnyH_take (i := 1) (oi := { dst := some 81, op := Go.Op.indexAddr 24 (Go.Operand.tmp 80) (Go.Operand.const (Go.Value.int Go.IntKind.i64 0)), type := 0, pos := "ref.go:184", after := #[{ on := 0, ground := Go.Ground.data }], guard := none }) (v := ?_) rfl (by kernel_rfl) (by kernel_rfl) (by kernel_rfl) (fun _ _ _ h => h) (Or.inl ⟨by rfl, ?_⟩) hHeld ?_
        rotate_left
        · intro w hSw; (try dsimp only at hSw); go_simp <;> with_reducible rfl
        try simp only [Act.put, List.setIfInBounds_toArray, List.set_cons_zero, List.set_cons_succ]
        refine wpAnyH_take (i := 2) (oi := { dst := some 82, op := Go.Op.load 3 (Go.Operand.tmp 81), type := 3, pos := "ref.go:184", after := #[{ on := 1, ground := Go.Ground.data }], guard := none }) (v := ?_) rfl (by kernel_rfl) (by kernel_rfl) (by kernel_rfl) (fun _ _ _ h => h) (Or.inl ⟨by rfl, ?_⟩) hHeld ?_
        rotate_left
        · intro w hSw; obtain ⟨hBB, hC⟩ := hSw; go_simp <;> with_reducible rfl
        try simp only [Act.put, List.setIfInBounds_toArray, List.set_cons_zero, List.set_cons_succ]
        refine wpAnyH_take (i := 3) (oi := { dst := some 83, op := Go.Op.move (Go.Operand.tmp 1), type := 23, pos := "ref.go:184", after := #[], guard := none }) (v := ?_) rfl (by kernel_rfl) (by kernel_rfl) (by kernel_rfl) (fun _ _ _ h => h) (Or.inl ⟨by rfl, ?_⟩) hHeld ?_
        rotate_left
        · intro w hSw; (try dsimp only at hSw); go_simp <;> with_reducible rfl
        try simp only [Act.put, List.setIfInBounds_toArray, List.set_cons_zero, List.set_cons_succ]
        refine wpAnyH_take (i := 4) (oi := { dst := some 84, op := Go.Op.move (Go.Operand.tmp 8), type := 24, pos := "ref.go:184", after := #[], guard := none }) (v := ?_) rfl (by kernel_rfl) (by kernel_rfl) (by kernel_rfl) (fun _ _ _ h => h) (Or.inl ⟨by rfl, ?_⟩) hHeld ?_
        rotate_left
        · intro w hSw; (try dsimp only at hSw); go_simp <;> with_reducible rfl
        try simp only [Act.put, List.setIfInBounds_toArray, List.set_cons_zero, List.set_cons_succ]
        refine wpAnyH_take (i := 5) (oi := { dst := some 85, op := Go.Op.indexAddr 24 (Go.Operand.tmp 84) (Go.Operand.const (Go.Value.int Go.IntKind.i64 0)), type := 0, pos := "ref.go:184", after := #[{ on := 4, ground := Go.Ground.data }], guard := none }) (v := ?_) rfl (by kernel_rfl) (by kernel_rfl) (by kernel_rfl) (fun _ _ _ h => h) (Or.inl ⟨by rfl, ?_⟩) hHeld ?_
        rotate_left
        · intro w hSw; (try dsimp only at hSw); go_simp <;> with_reducible rfl
        try simp only [Act.put, List.setIfInBounds_toArray, List.set_cons_zero, List.set_cons_succ]
        refine wpAnyH_take (i := 6) (oi := { dst := some 86, op := Go.Op.load 3 (Go.Operand.tmp 85), type := 3, pos := "ref.go:184", after := #[{ on := 5, ground := Go.Ground.data }], guard := none }) (v := ?_) rfl (by kernel_rfl) (by kernel_rfl) (by kernel_rfl) (fun _ _ _ h => h) (Or.inl ⟨by rfl, ?_⟩) hHeld ?_
        rotate_left
        · intro w hSw; obtain ⟨hBB, hC⟩ := hSw; go_simp <;> with_reducible rfl
        try simp only [Act.put, List.setIfInBounds_toArray, List.set_cons_zero, List.set_cons_succ]
        refine wpAnyH_take (i := 7) (oi := { dst := some 87, op := Go.Op.indexAddr 23 (Go.Operand.tmp 83) (Go.Operand.tmp 86), type := 0, pos := "ref.go:184", after := #[{ on := 3, ground := Go.Ground.data }, { on := 6, ground := Go.Ground.data }], guard := none }) (v := ?_) rfl (by kernel_rfl) (by kernel_rfl) (by kernel_rfl) (fun _ _ _ h => h) (Or.inl ⟨by rfl, ?_⟩) hHeld ?_
        rotate_left
        · intro w hSw; (try dsimp only at hSw); go_simp <;> with_reducible rfl
        try simp only [Act.put, List.setIfInBounds_toArray, List.set_cons_zero, List.set_cons_succ]
        refine wpAnyH_take (i := 8) (oi := { dst := some 88, op := Go.Op.load 50 (Go.Operand.tmp 87), type := 50, pos := "ref.go:184", after := #[{ on := 7, ground := Go.Ground.data }], guard := none }) (v := ?_) rfl (by kernel_rfl) (by kernel_rfl) (by kernel_rfl) (fun _ _ _ h => h) (Or.inl ⟨by rfl, ?_⟩) hHeld ?_
        rotate_left
        · intro w hSw; obtain ⟨hBB, hC⟩ := hSw; obtain ⟨y0, y1, y2, y3, y4, y5⟩ := HCE.out _ hBB; go_simp <;> with_reducible rfl
        try simp only [Act.put, List.setIfInBounds_toArray, List.set_cons_zero, List.set_cons_succ]
        refine wpAnyH_take (i := 9) (oi := { dst := some 89, op := Go.Op.move (Go.Operand.tmp 2), type := 28, pos := "ref.go:184", after := #[], guard := none }) (v := ?_) rfl (by kernel_rfl) (by kernel_rfl) (by kernel_rfl) (fun _ _ _ h => h) (Or.inl ⟨by rfl, ?_⟩) hHeld ?_
        rotate_left
        · intro w hSw; (try dsimp only at hSw); go_simp <;> with_reducible rfl
        try simp only [Act.put, List.setIfInBounds_toArray, List.set_cons_zero, List.set_cons_succ]
        refine wpAnyH_ready (rs := [10]) (by kernel_rfl) (by simp) ?_
        refine AllReadyH.cons rfl (fun K hK => ?_) AllReadyH.nil
        go_simp
        refine Calls.mono HKD.out ?_
        rintro e w5 ⟨rfl, hd5, hk5⟩
        have HR5 : Hid (Rq X w5 p Q R2) := hd5
        have HK5 : Hid (Kept (fun b => b = p) wo.drew w5) := hk5
        have HKW5 : Hid (Kept (fun b => b = p) W0 w5) := HKd.out.trans hk5 (Up.refl _ _)
        clear hd5 hk5
        refine hK.out _ _ ((FS2.out _ HK5.out)) (fun hHeld2 => ?_)
        clear hK K hHeld
        have hHeld := hHeld2
        clear hHeld2
        try simp only [Act.put, List.setIfInBounds_toArray, List.set_cons_zero, List.set_cons_succ]
        refine wpAnyH_ready (rs := [11]) (by kernel_rfl) (by simp) ?_
        refine AllReadyH.cons rfl (fun K hK => ?_) AllReadyH.nil
        have HZw : Hid (Bx w5 N #[.int .i64 0, .int .i64 0, .int .i64 0] 35) := HZK.out _ HKW5.out
        obtain ⟨y0, y1, y2⟩ := HZw.out.three
        have f0 := HZw.out.fr 0
        have f1 := HZw.out.fr 1
        have f2 := HZw.out.fr 2
        go_simp
        refine hK.out _ _ (⟨((((FS2.out _ HK5.out).1.setCell (p := ⟨N, 0, none⟩) HNB.out _).setCell (p := ⟨N, 1, none⟩) HNB.out _).setCell (p := ⟨N, 2, none⟩) HNB.out _), cell_set3 (FS2.out _ HK5.out).2 HPG.out.2⟩) (fun hHeld2 => ?_)
        clear hK K hHeld
        have hHeld := hHeld2
        clear hHeld2
        try simp only [Act.put, List.setIfInBounds_toArray, List.set_cons_zero, List.set_cons_succ]
        refine wpAnyH_take (i := 12) (oi := { dst := some 7, op := Go.Op.assign (Go.Operand.const (Go.Value.bool true)), type := 4, pos := "ref.go:184", after := #[{ on := 11, ground := Go.Ground.chain }, { on := 0, ground := Go.Ground.phase }, { on := 1, ground := Go.Ground.phase }, { on := 2, ground := Go.Ground.phase }, { on := 3, ground := Go.Ground.phase }, { on := 4, ground := Go.Ground.phase }, { on := 5, ground := Go.Ground.phase }, { on := 6, ground := Go.Ground.phase }, { on := 7, ground := Go.Ground.phase }, { on := 8, ground := Go.Ground.phase }, { on := 9, ground := Go.Ground.phase }, { on := 10, ground := Go.Ground.phase }, { on := 11, ground := Go.Ground.phase }], guard := none }) (v := ?_) rfl (by kernel_rfl) (by kernel_rfl) (by kernel_rfl) (fun _ _ _ h => h) (Or.inl ⟨by rfl, ?_⟩) hHeld ?_
        rotate_left
        · intro w hSw; (try dsimp only at hSw); go_simp <;> with_reducible rfl
        try simp only [Act.put, List.setIfInBounds_toArray, List.set_cons_zero, List.set_cons_succ]
        refine wpAnyH_done (by kernel_rfl) ?_ _
        have HZX := HZw.out.set3 (.int .i64 (vn : Int)) (.int .i64 q1) (.int .i64 q2)
        go_wp2
        refine ⟨rfl, _, res_ct rfl _ HZX (by with_unfolding_all rfl) rfl Tryz.underlying35 (by kernel_rfl) (v := .bool true) (by with_unfolding_all rfl), ?_, ?_, ?_⟩
        · rw [HCC.out]
        · rw [HCC.out]; exact HR5.out.set3 HXN.out (by have := HPN.out; omega)
        · exact kept_set3' HKW.out HKW5.out HNN.out

theorem rchoose_any {X : Nat → Prop} {B0 W : World} {p : Nat} {p1 : Option Addr} {n k1 : Nat} {p2 : Option Addr} {nd k2 : Nat} {L : List Ph} {D : List MD} {Q R : List Int} (hP : Ps B0 (.slice p1 n k1) L) (hd : Ds B0 (.slice p2 nd k2) D) (hB : Below B0.heap.size B0 W) (hD : ∀ d ∈ D, Good d) (hz : SzP L D) (hr : Rq X W p Q R) (hpos : B0.heap.size ≤ p) :
    Calls Tryz.prog 11 #[.slice p1 n k1, .slice p2 nd k2, ptr p] W fun e w' => e = .returned (.tuple #[.agg #[.int .i64 (chooseM L D R).1.1, .int .i64 (chooseM L D R).1.2.1, .int .i64 (chooseM L D R).1.2.2.1], .bool (chooseM L D R).1.2.2.2]) ∧ Rq X w' p Q (chooseM L D R).2 ∧ Kept (fun b => b = p) W w' :=
  (rchoose0 hP hd hB hD hz hr.more hpos (fun b hb => .inr hb)).mono fun e w' ⟨he, h1, h2⟩ => ⟨he, h1.less (fun b hb => .inl hb), h2⟩
end Go.Proofs.YthkliicmoandmaaGreatDoor
