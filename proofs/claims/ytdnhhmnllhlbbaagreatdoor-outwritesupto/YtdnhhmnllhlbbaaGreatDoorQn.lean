/-
  What is proved here: The reference: Block.
-/
import Derived.Test.YtdnhhmnllhlbbaaGreatDoorQb
import Derived.Test.YtdnhhmnllhlbbaaGreatDoorQc
import Derived.Test.YtdnhhmnllhlbbaaGreatDoorQm
import Derived.Test.YtdnhhmnllhlbbaaGreatDoorOr
namespace Go.Proofs.YtdnhhmnllhlbbaaGreatDoor
open Go.RowKit Go.Shelf
set_option linter.unusedVariables false
set_option linter.unusedSimpArgs false
theorem valsT_step {k : Int} {x : List Vl} {j : Nat} {v : Vl} (hv : x[j]? = some v) : valsT k (x.take (j + 1)) = valsT k (x.take j) ++ (if j = 0 then [] else [44, 32]) ++ valT k v := by
  have hj := (List.getElem?_eq_some_iff.1 hv).1
  unfold valsT
  rw [List.take_add_one, hv, Option.toList_some, List.map_append, List.map_cons, List.map_nil, sepT_snoc, List.length_map, List.length_take, Nat.min_eq_left (by omega)]

set_option maxRecDepth 100000 in
set_option maxHeartbeats 4000000 in
theorem rblock9 {W : World} {s vs : Value} {l : List Ou} {vals : List Vl} (h : Sou W s l) (hn : l.length ≤ 1000000000) (hz : ∀ o ∈ l, OuZ o) (hnm : ∀ o ∈ l, o.nm.length ≤ 10000000000) (hv : Sv W vs vals) (hL : ∀ v ∈ vals, v.s.length ≤ 17592186043904) (hvn : vals.length ≤ 17592186043904) (hT : Tens W) :
    Calls Tryz.prog 9 #[s, vs] W fun e w' => BlkE l vals e ∧ Below W.heap.size W w' := by
  have kv := rvalues11 h hn hz hv hL hvn
  obtain ⟨a, c, rfl, h'⟩ := h
  obtain ⟨va, vc, rfl, _⟩ := hv
  have HA : Hid (Sou W (.slice a l.length c) l) := ⟨_, _, rfl, h'⟩
  have HZ : Hid (∀ o ∈ l, OuZ o) := hz
  have HNM : Hid (∀ o ∈ l, o.nm.length ≤ 10000000000) := hnm
  have HT : Hid (Tens W) := hT
  obtain ⟨n, hnn⟩ : ∃ n, l.length = n := ⟨_, rfl⟩
  have HN : Hid (l.length = n) := hnn
  rw [hnn] at HA kv hn ⊢
  clear h' hL hvn hz hnn hT hnm
  go_enter Tryz.func9, Tryz.ntmps9
  go_wp2_with fail
  refine kv.mono ?_
  rintro e w1 ⟨⟨sv, er, rfl, hE⟩, hb1⟩
  have HB1 : Hid (Below W.heap.size W w1) := hb1
  clear kv hb1
  rcases hE with ⟨h1, h2, h3⟩ | ⟨h1, h2, h3, h4⟩ | ⟨h1, xs, h2, h3, h4⟩
  · subst h3
    have h9 : (er == 0) = false := by rw [h2]; simpa using h1
    have h8 : (er != 0) = true := by rw [h2]; simpa using h1
    have HE : Hid (BlkE l vals (.returned (.tuple #[.string (bs []), .int .i64 er]))) := ⟨_, _, rfl, .inl ⟨h1, h2, rfl⟩⟩
    clear h1 h2
    go_wp2
    go_ret2
    exact ⟨HE.out, HB1.out⟩
  · subst h3 h4
    have HE : Hid (BlkE l vals (.returned (.tuple #[.string (bs []), .int .i64 1]))) := ⟨_, _, rfl, .inr (.inl ⟨h1, h2, rfl, rfl⟩)⟩
    clear h1 h2
    go_wp2
    go_ret2
    exact ⟨HE.out, HB1.out⟩
  · subst h3
    have HE : Hid (BlkE l vals (.returned (.tuple #[.string (bs (blockT l xs)), .int .i64 0]))) := ⟨_, _, rfl, .inr (.inr ⟨h1, xs, h2, rfl, rfl⟩)⟩
    have HXS : Hid (ousV l vals = some xs) := h2
    have HR : Hid (l.length ≤ 1000 ∧ ∀ o ∈ l, wrB o = false) := right_ok h1
    have hn1 : n ≤ 1000 := by have := HR.out.1; rw [HN.out] at this; exact this
    have HXN : Hid (xs.length = n) := by have := ousV_len h2; rw [HN.out] at this; exact this
    obtain ⟨xa, xc, rfl, h5⟩ := h4
    have HSV : Hid (SvvX (fun b => b < 0) w1 (.slice xa n xc) xs) := ⟨_, _, by rw [HXN.out], h5⟩
    rw [HXN.out]
    clear h1 h2 h5
    go_wp2
    go_loopw [8, 9] (fun o' i wr => ∃ (k : Nat), k ≤ n ∧ i = .int .i64 (k : Int) ∧ Hid (By wr w1.heap.size o' (outsT (l.take k) (xs.take k))) ∧ Hid (Below w1.heap.size w1 wr) ∧ Hid ((outsT (l.take k) (xs.take k)).length ≤ 14000000000 * k)) (fun _ i _ => n - (intOf i).toNat)
    case atStart => exact ⟨0, Nat.zero_le _, rfl, .inl (World.ownsRow_nil _ _ _ _), Below.refl _ _, by unfold Hid; simp [outsT]⟩
    case round =>
      obtain ⟨k, hk, rfl, HY, HB, HLK⟩ := hrel
      by_cases hlt : k < n
      · have hlt' : (k : Int) < n := by omega
        obtain ⟨o, ho⟩ : ∃ g, l[k]? = some g := ⟨_, List.getElem?_eq_getElem (by rw [HN.out]; exact hlt)⟩
        have hol := List.mem_of_getElem? ho
        obtain ⟨x, hx, hov⟩ := ousV_get HXS.out ho
        obtain ⟨hxl, hxv⟩ := ouV_facts hov
        have hsh := (wr_ok (HR.out.2 o hol)).2.2.1
        obtain ⟨hd1, hd2⟩ := dims_ok hsh
        obtain ⟨r1, r2⟩ := round_len (HNM.out o hol) hsh
        have r3 := valsT_len hxv
        have r4 := (HZ.out o hol).l
        have HTK : Hid (outsT (l.take (k + 1)) (xs.take (k + 1)) = outsT (l.take k) (xs.take k) ++ (headT o ++ valsT o.kind x ++ tailT o)) := outsT_take ho hx
        obtain ⟨b, off, dv, lv, rfl, hb, hdv, hlv, d0, d1, d2, d3, d4⟩ := HA.out.at ho
        have hbo : Below W.heap.size W wr := HB1.out.trans (HB.out.mono HB1.out.size)
        have HDV := hdv
        obtain ⟨da, dc, rfl, _⟩ := id hdv
        obtain ⟨la, lc, rfl, _⟩ := id hlv
        obtain ⟨vb, voff, sa, sc, rfl, hvb, hsx, hc⟩ := HSV.out.at hx
        have HSX : Hid (SvX (fun b => b < 0) w1 (.slice sa x.length sc) x) := hsx
        have HC1 : Hid (vb < w1.heap.size ∧ w1.cell? ⟨vb, voff + k, none⟩ = some (.slice sa x.length sc)) := ⟨hvb, hc⟩
        have HRD : Hid (Rgs W (.slice da o.dims.length dc) o.dims ∧ ∀ r ∈ o.dims, -1000000000 ≤ r.1 ∧ r.1 ≤ 1000000000 ∧ -1000000000 ≤ r.2 ∧ r.2 ≤ 1000000000) := ⟨HDV, hd2⟩
        have HXV : Hid (x.length ≤ 2000000 ∧ ∀ v ∈ x, isVal v.set v.n v.s o.kind = true) := ⟨by omega, hxv⟩
        have HNO : Hid (o.nm.length ≤ 10000000000) := HNM.out o hol
        have lk := HLK.out
        obtain ⟨D, hD⟩ : ∃ D, outsT (l.take k) (xs.take k) = D := ⟨_, rfl⟩
        rw [hD] at HY HTK lk
        have HL1 : Hid (D.length + (headT o).length ≤ 100000000000000) := by unfold Hid; omega
        have HL2 : Hid ((D ++ headT o).length ≤ 50000000000000) := by unfold Hid; rw [List.length_append]; omega
        have HL3 : Hid ((D ++ headT o ++ valsT o.kind x).length + (tailT o).length ≤ 100000000000000) := by unfold Hid; simp only [List.length_append]; omega
        have HLN : Hid ((outsT (l.take (k + 1)) (xs.take (k + 1))).length ≤ 14000000000 * (k + 1)) := by unfold Hid; rw [HTK.out]; simp only [List.length_append]; omega
        have hwk : IntKind.i64.wrap ((k : Int) + 1) = (k : Int) + 1 := by rw [IntKind.wrap_i64]; omega
        obtain ⟨dn, hdn⟩ : ∃ q, o.dims.length = q := ⟨_, rfl⟩
        obtain ⟨m, hm⟩ : ∃ q, o.l.length = q := ⟨_, rfl⟩
        obtain ⟨xn, hxn⟩ : ∃ q, x.length = q := ⟨_, rfl⟩
        rw [hdn] at d1 HRD
        rw [hm] at d2
        rw [hxn] at HSX HC1
        have HDN : Hid (o.dims.length = dn ∧ x.length = xn ∧ dn ≤ 16 ∧ xn ≤ 2000000) := ⟨hdn, hxn, by omega, by omega⟩
        have HCC : Hid (∀ X, Below W.heap.size W X → X.cell? ⟨b, off + k * 5, none⟩ = some (.string (bs o.nm)) ∧ X.cell? ⟨b, off + k * 5 + 1, none⟩ = some (.slice da dn dc) ∧ X.cell? ⟨b, off + k * 5 + 2, none⟩ = some (.slice la m lc) ∧ X.cell? ⟨b, off + k * 5 + 3, none⟩ = some (.int .i64 o.kind) ∧ X.cell? ⟨b, off + k * 5 + 4, none⟩ = some (.bool o.one)) := fun X hX =>
          ⟨(hX.cell (p := ⟨b, off + k * 5, none⟩) hb).trans d0, (hX.cell (p := ⟨b, off + k * 5 + 1, none⟩) hb).trans d1, (hX.cell (p := ⟨b, off + k * 5 + 2, none⟩) hb).trans d2, (hX.cell (p := ⟨b, off + k * 5 + 3, none⟩) hb).trans d3, (hX.cell (p := ⟨b, off + k * 5 + 4, none⟩) hb).trans d4⟩
        obtain ⟨y0, y1, y2, y3, y4⟩ := HCC.out _ hbo
        have HW1 : Hid (∀ X, Below w1.heap.size w1 X → Below W.heap.size W X) := fun X hX => HB1.out.trans (hX.mono HB1.out.size)
        clear hD ho hx hov hxl hxv hsh hd1 hd2 r1 r2 r3 r4 hdv HDV hlv hsx hc hvb d0 d1 d2 d3 d4 hb hol lk HLK hdn hm hxn
        have ka := rhead27 (W := wr) (dv := .slice da dn dc) (lv := .slice la m lc) o (HRD.out.1.below hbo) ⟨_, _, _, rfl⟩ HNO.out (by rw [HDN.out.1]; have := HDN.out.2.2.1; omega) HRD.out.2 (HT.out.self hbo)
        clear hbo
        go_wp2_with fail
        refine ka.mono ?_
        rintro e w3 ⟨rfl, hb3⟩
        clear ka y0 y1 y2 y3 y4
        have HB3 : Hid (Below w1.heap.size w1 w3) := HB.out.trans (hb3.mono HB.out.size)
        have HY3 : Hid _ := By.below HY.out hb3
        clear hb3 HY HB
        go_wp2_with (at_builtin; refine wpList_app_by rfl (.tmp 26) (.tmp 31) rfl w1.heap.size _ D (headT o) rfl HY3.out rfl HL1.out HB3.out.size ?_; intro v4 w4 hown4 hb4 hf4; refine Hid.out ?_)
        refine (show Hid _ from ?_)
        unfold Hid
        have HB4 : Hid (Below w1.heap.size w1 w4) := HB3.out.trans hb4
        have HY4 : Hid (By w4 w1.heap.size v4 (D ++ headT o ++ valsT o.kind (x.take 0))) := by rw [List.take_zero]; simpa [valsT, sepT, Hid] using hown4
        clear hown4 hb4 hf4 HB3 HY3
        go_wp2
        go_loopw [8, 10] (fun o' i wi => ∃ (j : Nat), j ≤ xn ∧ i = .int .i64 (j : Int) ∧ Hid (By wi w1.heap.size o' (D ++ headT o ++ valsT o.kind (x.take j))) ∧ Hid (Below w1.heap.size w1 wi)) (fun _ i _ => xn - (intOf i).toNat)
        case atStart => exact ⟨0, Nat.zero_le _, rfl, HY4, HB4⟩
        case round =>
          obtain ⟨j, hj, rfl, HY, HB⟩ := hrel
          have z5 := (HB.out.cell (p := ⟨vb, voff + k, none⟩) HC1.out.1).trans HC1.out.2
          by_cases hlj : j < xn
          · have hlj' : (j : Int) < xn := by omega
            obtain ⟨v, hv⟩ : ∃ v, x[j]? = some v := ⟨_, List.getElem?_eq_getElem (by rw [HDN.out.2.1]; exact hlj)⟩
            have HVS : Hid (valsT o.kind (x.take (j + 1)) = valsT o.kind (x.take j) ++ (if j = 0 then [] else [44, 32]) ++ valT o.kind v) := valsT_step hv
            have HVI : Hid (isVal v.set v.n v.s o.kind = true) := HXV.out.2 v (List.mem_of_getElem? hv)
            have hvl := valT_len HVI.out
            have htl := valsT_len (k := o.kind) (x := x.take j) (fun v hv => HXV.out.2 v (List.mem_of_mem_take hv))
            rw [List.length_take] at htl
            obtain ⟨b3, o3, a3, c3, rfl, hb3, g3, e0, e1, e2⟩ := HSX.out.at hv
            have HVC : Hid (b3 < w1.heap.size ∧ w1.cell? ⟨b3, o3 + j * 3, none⟩ = some (.bool v.set) ∧ w1.cell? ⟨b3, o3 + j * 3 + 1, none⟩ = some (.int .i64 v.n) ∧ w1.cell? ⟨b3, o3 + j * 3 + 2, none⟩ = some (.slice a3 v.s.length c3)) := ⟨hb3, e0, e1, e2⟩
            have KT : Hid (∀ X, Below w1.heap.size w1 X → Calls Tryz.prog 28 #[.agg #[.bool v.set, .int .i64 v.n, .slice a3 v.s.length c3], .int .i64 o.kind] X fun e w' => e = .returned (.string (bs (valT o.kind v))) ∧ Below X.heap.size X w') := fun X hX => rtext28 v o.kind (g3.below hX) HVI.out (HT.out.self (HW1.out X hX))
            have HSM : Hid ((valsT o.kind (x.take j)).length ≤ 4000000000 ∧ (valT o.kind v).length ≤ 1500) := ⟨by obtain ⟨_, q2, _, q4⟩ := HDN.out; omega, hvl.2⟩
            have hwj : IntKind.i64.wrap ((j : Int) + 1) = (j : Int) + 1 := by rw [IntKind.wrap_i64]; obtain ⟨_, q2, _, q4⟩ := HDN.out; omega
            obtain ⟨vn, hvn⟩ : ∃ q, v.s.length = q := ⟨_, rfl⟩
            rw [hvn] at KT HVC
            clear hv hvl htl g3 e0 e1 e2 hb3 hvn
            by_cases h0 : j = 0
            · subst h0
              simp only [Nat.zero_mul, Nat.add_zero] at HVC
              have HV2 : Hid (D ++ headT o ++ valsT o.kind (x.take (0 + 1)) = D ++ headT o ++ valsT o.kind (x.take 0) ++ valT o.kind v) := by rw [Hid, HVS.out]; simp
              have HLE : Hid ((D ++ headT o ++ valsT o.kind (x.take 0)).length + (valT o.kind v).length ≤ 100000000000000) := by have := HSM.out; have := HL2.out; rw [Hid, List.length_append]; omega
              go_upto_region 14 with (fail)
              clear z5
              have HP0 : Hid (Below w1.heap.size w1 wr.drew) := HB.out.drew
              have HQ0 : Hid _ := By.below HY.out ((Below.refl _ wr).drew)
              refine wp_region_held_drew (S := (fun X : World => Below w1.heap.size w1 X)) (by kernel_rfl) (HP0.out) (fun hHeld => ?_)
              refine tkI 0 rfl hHeld ?_
              try simp only [Act.put, zS, eZ, eS]
              refine tkI 1 rfl hHeld ?_
              try simp only [Act.put, zS, eZ, eS]
              refine tkI 2 rfl hHeld ?_
              try simp only [Act.put, zS, eZ, eS]
              refine tkI 3 rfl hHeld ?_
              try simp only [Act.put, zS, eZ, eS]
              refine tkI 4 rfl hHeld ?_ (hy := by intro w hSw; have y := (hSw.cell (p := ⟨vb, voff + k, none⟩) HC1.out.1).trans HC1.out.2; go_simp <;> with_reducible rfl)
              try simp only [Act.put, zS, eZ, eS]
              refine tkI 5 rfl hHeld ?_
              try simp only [Act.put, zS, eZ, eS]
              refine tkI 6 rfl hHeld ?_
              try simp only [Act.put, zS, eZ, eS]
              refine tkI 7 rfl hHeld ?_ (hy := by intro w hSw; have u0 := (hSw.cell (p := ⟨b3, o3, none⟩) HVC.out.1).trans HVC.out.2.1; have u1 := (hSw.cell (p := ⟨b3, o3 + 1, none⟩) HVC.out.1).trans HVC.out.2.2.1; have u2 := (hSw.cell (p := ⟨b3, o3 + 2, none⟩) HVC.out.1).trans HVC.out.2.2.2; go_simp <;> with_reducible rfl)
              try simp only [Act.put, zS, eZ, eS]
              refine tkI 8 rfl hHeld ?_
              try simp only [Act.put, zS, eZ, eS]
              refine tkI 9 rfl hHeld ?_
              try simp only [Act.put, zS, eZ, eS]
              refine tkI 10 rfl hHeld ?_
              try simp only [Act.put, zS, eZ, eS]
              refine tkI 11 rfl hHeld ?_
              try simp only [Act.put, zS, eZ, eS]
              refine tkI 12 rfl hHeld ?_ (hy := by intro w hSw; obtain ⟨_, _, _, y3, _⟩ := HCC.out _ (HW1.out _ hSw); go_simp <;> with_reducible rfl)
              try simp only [Act.put, zS, eZ, eS]
              refine rdy 13 rfl fun K hK => ?_
              go_simp
              refine (KT.out _ HP0.out).mono ?_
              rintro e w6 ⟨rfl, hb6⟩
              have HBW : Hid (Below w1.heap.size w1 w6) := HP0.out.trans (hb6.mono HP0.out.size)
              have HYW : Hid _ := By.below HQ0.out hb6
              clear hb6
              clear hHeld; refine hK.out _ _ (HBW.out) fun hHeld => ?_
              clear hK K
              try simp only [Act.put, zS, eZ, eS]
              refine rdy 14 rfl fun K hK => ?_
              refine step_by rfl (.tmp 46) (.tmp 59) rfl w1.heap.size _ (D ++ headT o ++ valsT o.kind (x.take 0)) (valT o.kind v) rfl HYW.out rfl HLE.out HBW.out.size ?_
              intro v7 w7 hown7 hb7 hf7
              have HBZ : Hid (Below w1.heap.size w1 w7) := HBW.out.trans hb7
              have HYZ : Hid (By w7 w1.heap.size v7 (D ++ headT o ++ valsT o.kind (x.take (0 + 1)))) := by rw [Hid, HV2.out]; exact hown7
              clear hown7 hb7 hf7
              clear hHeld; refine hK.out _ _ (HBZ.out) fun hHeld => ?_
              clear hK K
              try simp only [Act.put, zS, eZ, eS]
              refine tkI 15 rfl hHeld ?_
              try simp only [Act.put, zS, eZ, eS]
              refine wpAnyH_done (by kernel_rfl) ?_ _
              clear hHeld HP0 HQ0
              clear HYW HBW
              go_wp2
              go_roundw
              case rel => exact ⟨0 + 1, by omega, by go_num, HYZ, HBZ⟩
              case measure => simp [intOf]; omega
            · have h0' : (0 : Int) < j := by omega
              have HV2 : Hid (D ++ headT o ++ valsT o.kind (x.take (j + 1)) = D ++ headT o ++ valsT o.kind (x.take j) ++ [44, 32] ++ valT o.kind v) := by rw [Hid, HVS.out, if_neg h0]; simp only [List.append_assoc]
              have HLC : Hid ((D ++ headT o ++ valsT o.kind (x.take j)).length + ([44, 32] : List UInt8).length ≤ 100000000000000) := by have := HSM.out; have := HL2.out; rw [Hid, List.length_append]; simp only [List.length_cons, List.length_nil]; omega
              have HLE : Hid ((D ++ headT o ++ valsT o.kind (x.take j) ++ [44, 32]).length + (valT o.kind v).length ≤ 100000000000000) := by have := HSM.out; have := HL2.out; rw [Hid, List.length_append, List.length_append]; simp only [List.length_cons, List.length_nil]; omega
              go_upto_region 13 with (fail)
              clear z5
              go_wp2_with (at_builtin; refine wpList_app_by rfl (.tmp 44) (.const (.string ⟨#[44, 32]⟩)) rfl w1.heap.size _ (D ++ headT o ++ valsT o.kind (x.take j)) [44, 32] rfl HY.out rfl HLC.out HB.out.size ?_; intro v5 w5 hown5 hb5 hf5; refine Hid.out ?_)
              refine (show Hid _ from ?_)
              unfold Hid
              have HB5 : Hid (Below w1.heap.size w1 w5) := HB.out.trans hb5
              have HY5 := hid hown5
              clear hown5 hb5 hf5 HY HB
              go_upto_region 14 with (fail)
              have HP0 : Hid (Below w1.heap.size w1 w5.drew) := HB5.out.drew
              have HQ0 : Hid _ := By.below HY5.out ((Below.refl _ w5).drew)
              refine wp_region_held_drew (S := (fun X : World => Below w1.heap.size w1 X)) (by kernel_rfl) (HP0.out) (fun hHeld => ?_)
              refine tkI 0 rfl hHeld ?_
              try simp only [Act.put, zS, eZ, eS]
              refine tkI 1 rfl hHeld ?_
              try simp only [Act.put, zS, eZ, eS]
              refine tkI 2 rfl hHeld ?_
              try simp only [Act.put, zS, eZ, eS]
              refine tkI 3 rfl hHeld ?_
              try simp only [Act.put, zS, eZ, eS]
              refine tkI 4 rfl hHeld ?_ (hy := by intro w hSw; have y := (hSw.cell (p := ⟨vb, voff + k, none⟩) HC1.out.1).trans HC1.out.2; go_simp <;> with_reducible rfl)
              try simp only [Act.put, zS, eZ, eS]
              refine tkI 5 rfl hHeld ?_
              try simp only [Act.put, zS, eZ, eS]
              refine tkI 6 rfl hHeld ?_
              try simp only [Act.put, zS, eZ, eS]
              refine tkI 7 rfl hHeld ?_ (hy := by intro w hSw; have u0 := (hSw.cell (p := ⟨b3, o3 + j * 3, none⟩) HVC.out.1).trans HVC.out.2.1; have u1 := (hSw.cell (p := ⟨b3, o3 + j * 3 + 1, none⟩) HVC.out.1).trans HVC.out.2.2.1; have u2 := (hSw.cell (p := ⟨b3, o3 + j * 3 + 2, none⟩) HVC.out.1).trans HVC.out.2.2.2; go_simp <;> with_reducible rfl)
              try simp only [Act.put, zS, eZ, eS]
              refine tkI 8 rfl hHeld ?_
              try simp only [Act.put, zS, eZ, eS]
              refine tkI 9 rfl hHeld ?_
              try simp only [Act.put, zS, eZ, eS]
              refine tkI 10 rfl hHeld ?_
              try simp only [Act.put, zS, eZ, eS]
              refine tkI 11 rfl hHeld ?_
              try simp only [Act.put, zS, eZ, eS]
              refine tkI 12 rfl hHeld ?_ (hy := by intro w hSw; obtain ⟨_, _, _, y3, _⟩ := HCC.out _ (HW1.out _ hSw); go_simp <;> with_reducible rfl)
              try simp only [Act.put, zS, eZ, eS]
              refine rdy 13 rfl fun K hK => ?_
              go_simp
              refine (KT.out _ HP0.out).mono ?_
              rintro e w6 ⟨rfl, hb6⟩
              have HBW : Hid (Below w1.heap.size w1 w6) := HP0.out.trans (hb6.mono HP0.out.size)
              have HYW : Hid _ := By.below HQ0.out hb6
              clear hb6
              clear hHeld; refine hK.out _ _ (HBW.out) fun hHeld => ?_
              clear hK K
              try simp only [Act.put, zS, eZ, eS]
              refine rdy 14 rfl fun K hK => ?_
              refine step_by rfl (.tmp 46) (.tmp 59) rfl w1.heap.size _ (D ++ headT o ++ valsT o.kind (x.take j) ++ [44, 32]) (valT o.kind v) rfl HYW.out rfl HLE.out HBW.out.size ?_
              intro v7 w7 hown7 hb7 hf7
              have HBZ : Hid (Below w1.heap.size w1 w7) := HBW.out.trans hb7
              have HYZ : Hid (By w7 w1.heap.size v7 (D ++ headT o ++ valsT o.kind (x.take (j + 1)))) := by rw [Hid, HV2.out]; exact hown7
              clear hown7 hb7 hf7
              clear hHeld; refine hK.out _ _ (HBZ.out) fun hHeld => ?_
              clear hK K
              try simp only [Act.put, zS, eZ, eS]
              refine tkI 15 rfl hHeld ?_
              try simp only [Act.put, zS, eZ, eS]
              refine wpAnyH_done (by kernel_rfl) ?_ _
              clear hHeld HP0 HQ0
              clear HYW HBW
              go_wp2
              go_roundw
              case rel => exact ⟨j + 1, by omega, by go_num, HYZ, HBZ⟩
              case measure => simp [intOf]; omega
          · have hlj' : ¬ (j : Int) < xn := by omega
            obtain rfl : j = xn := by omega
            have hall : x.take j = x := List.take_of_length_le (by rw [HDN.out.2.1]; exact Nat.le_refl _)
            rw [hall] at HY
            have hbo := HW1.out _ HB.out
            obtain ⟨y0, y1, y2, y3, y4⟩ := HCC.out _ hbo
            have kb := rtail29 (W := wr) (dv := .slice da dn dc) (lv := .slice la m lc) o (HRD.out.1.below hbo) ⟨_, _, _, rfl⟩
            clear hall hbo
            go_upto_region 15 with (fail)
            clear z5
            go_wp2_with fail
            refine kb.mono ?_
            rintro e w7 ⟨rfl, hb7⟩
            clear kb y0 y1 y2 y3 y4
            have HB7 : Hid (Below w1.heap.size w1 w7) := HB.out.trans (hb7.mono HB.out.size)
            have HY7 : Hid _ := By.below HY.out hb7
            clear hb7 HY HB
            go_wp2_with (at_builtin; refine wpList_app_by rfl (.tmp 61) (.tmp 66) rfl w1.heap.size _ (D ++ headT o ++ valsT o.kind x) (tailT o) rfl HY7.out rfl HL3.out HB7.out.size ?_; intro v8 w8 hown8 hb8 _; refine Hid.out ?_)
            refine (show Hid _ from ?_)
            unfold Hid
            have HB8 : Hid (Below w1.heap.size w1 w8) := HB7.out.trans hb8
            have HY8 : Hid (By w8 w1.heap.size v8 (outsT (l.take (k + 1)) (xs.take (k + 1)))) := by unfold Hid; rw [HTK.out, ← List.append_assoc, ← List.append_assoc]; exact hown8
            clear hown8 hb8 HY7 HB7
            go_wp2
            go_roundw
            case rel => exact ⟨k + 1, by omega, by go_num, HY8, HB8, HLN⟩
            case measure => simp [intOf]; omega
      · have hk9 : n = k := by omega
        have hlt' : ¬ (k : Int) < (n : Int) := by omega
        have t1 : l.take k = l := by rw [← hk9, ← HN.out]; exact List.take_length
        have t2 : xs.take k = xs := by rw [← hk9, ← HXN.out]; exact List.take_length
        rw [t1, t2] at HY HLK
        have lk := HLK.out
        obtain ⟨D, hD⟩ : ∃ D, outsT l xs = D := ⟨_, rfl⟩
        rw [hD] at HY lk
        have HBT : Hid (blockT l xs = D ++ dashT) := by unfold Hid blockT; rw [hD]
        have hq : D.length ≤ 14000000000000 := by omega
        have HL1 : Hid (D.length + dashT.length ≤ 100000000000000) := by unfold Hid; simp only [dashT, List.length_cons, List.length_nil]; omega
        clear t1 t2 hD HLK lk hk
        go_wp2_with (at_builtin; refine wpList_app_by rfl (.tmp 68) (.const (.string ⟨#[45, 45, 45, 45, 45, 45, 45, 45, 45, 45, 10]⟩)) rfl w1.heap.size _ D dashT rfl HY.out rfl HL1.out HB.out.size ?_; intro v8 w8 hown8 hb8 _; refine Hid.out ?_)
        refine (show Hid _ from ?_)
        unfold Hid
        have HB8 : Hid (Below W.heap.size W w8) := HB1.out.trans ((HB.out.trans hb8).mono HB1.out.size)
        obtain ⟨p, c9, rfl, hcv⟩ := conv_by hown8 (by simp [dashT])
        have HCV := hcv w8 (Below.refl _ _)
        have hqm : (D ++ dashT).length ≤ 100000000000000 := by rw [List.length_append]; exact HL1.out
        obtain ⟨q, hqe⟩ : ∃ m, (D ++ dashT).length = m := ⟨_, rfl⟩
        rw [hqe] at HCV hqm ⊢
        clear hown8 hb8 hcv hqe HY HB hq
        go_wp2_with fail
        go_ret2
        exact ⟨by rw [← HBT.out]; exact HE.out, HB8.out⟩
end Go.Proofs.YtdnhhmnllhlbbaaGreatDoor
