/-
  What is proved here: Values of package out: the values of any outputs.
-/
import Derived.Test.YtdnhhmnllhlbbaaGreatDoorOh
namespace Go.Proofs.YtdnhhmnllhlbbaaGreatDoor
open Go.RowKit Go.Shelf
set_option linter.unusedVariables false
set_option linter.unusedSimpArgs false

/-- What Values answers. -/
def ValE (l : List Ou) (vals : List Vl) (F : Nat) (e : Ending) (w : World) : Prop := ∃ sv er, e = .returned (.tuple #[sv, .int .i64 er]) ∧ ((RightN l ≠ 0 ∧ er = RightN l ∧ sv = .slice none 0 0) ∨ (RightN l = 0 ∧ ousV l vals = none ∧ er = 1 ∧ sv = .slice none 0 0) ∨ (RightN l = 0 ∧ ∃ xs, ousV l vals = some xs ∧ er = 0 ∧ SvvX (fun b => b < F) w sv xs))

set_option maxRecDepth 100000 in
set_option maxHeartbeats 8000000 in
theorem values10 {W : World} {s vs : Value} {l : List Ou} {vals : List Vl} (h : Sou W s l) (hn : l.length ≤ 1000000000) (hz : ∀ o ∈ l, OuZ o) (hv : Sv W vs vals) (hL : ∀ v ∈ vals, v.s.length ≤ 17592186043904) (hvn : vals.length ≤ 17592186043904) :
    Calls Tryz.prog 10 #[s, vs] W fun e w' => ValE l vals W.heap.size e w' ∧ Below W.heap.size W w' := by
  obtain ⟨a, c, rfl, h'⟩ := h
  have HA : Hid (Sou W (.slice a l.length c) l) := ⟨_, _, rfl, h'⟩
  have HV : Hid (Sv W vs vals) := hv
  have HLV : Hid ((∀ v ∈ vals, v.s.length ≤ 17592186043904) ∧ vals.length ≤ 17592186043904) := ⟨hL, hvn⟩
  have HZ : Hid (∀ o ∈ l, OuZ o) := hz
  have kr := right13 HA.out hn hz
  obtain ⟨r, hr⟩ : ∃ r, RightN l = r := ⟨_, rfl⟩
  have HR : Hid (RightN l = r) := hr
  rw [hr] at kr
  obtain ⟨n, hnn⟩ : ∃ n, l.length = n := ⟨_, rfl⟩
  have HN : Hid (l.length = n) := hnn
  rw [hnn] at HA kr hn ⊢
  clear h' hv hL hvn hz hr hnn
  go_enter Tryz.func10, Tryz.ntmps10
  go_wp2_with fail
  refine kr.mono ?_
  rintro e w1 ⟨rfl, hb1⟩
  have HB1 : Hid (Below W.heap.size W w1) := hb1
  clear kr hb1
  by_cases hr0 : r = 0
  · subst hr0
    have hn1 : n ≤ 1000 := by have := (right_ok HR.out).1; rw [HN.out] at this; exact this
    have hmk := make28 n hn1
    have HM0 : Hid (Made w1.heap.size W.heap.size (w1.alloc (.cells (Array.replicate n (Value.slice none 0 0)) 23)) n (List.replicate n (Value.slice none 0 0)) []) := ⟨by simp, by rw [List.toArray_replicate]; exact Blk.new _ _ _, fun j x hx => by simp at hx, fun j _ hj => by rw [List.getElem?_replicate, if_pos hj]⟩
    have HB2 : Hid (Below W.heap.size W (w1.alloc (.cells (Array.replicate n (Value.slice none 0 0)) 23))) := HB1.out.alloc HB1.out.size _
    obtain ⟨A, hA⟩ : ∃ A, w1.heap.size = A := ⟨_, rfl⟩
    have HAF : Hid (W.heap.size ≤ A) := by rw [Hid, ← hA]; exact HB1.out.size
    rw [hA] at HM0
    have HAE : Hid (w1.heap.size = A) := hA
    clear hA
    go_wp2
    rw [HAE.out]
    generalize w1.alloc (.cells (Array.replicate n (Value.slice none 0 0)) 23) = w2 at *
    clear HB1 HAE
    go_loopw [24] (fun i wr => ∃ (k : Nat) (ss : List Value) (xs : List (List Vl)), k ≤ n ∧ i = .int .i64 (k : Int) ∧ Hid (Made A W.heap.size wr n ss xs) ∧ Hid (ousV (l.take k) vals = some xs) ∧ Hid (Below W.heap.size W wr)) (fun i _ => n - (intOf i).toNat)
    case atStart => exact ⟨0, _, [], Nat.zero_le _, rfl, HM0, rfl, HB2⟩
    case round =>
      obtain ⟨k, ss, xs, hk, rfl, HM, HX, HB⟩ := hrel
      obtain ⟨wo, hwo⟩ : ∃ x, x = wr := ⟨_, rfl⟩
      subst hwo
      by_cases hlt : k < n
      · have hlt' : (k : Int) < n := by omega
        obtain ⟨o, ho⟩ : ∃ g, l[k]? = some g := ⟨_, List.getElem?_eq_getElem (by rw [HN.out]; exact hlt)⟩
        have HO : Hid (l[k]? = some o ∧ o ∈ l) := ⟨ho, List.mem_of_getElem? ho⟩
        obtain ⟨b, off, dv, lv, rfl, hb, ⟨da, dc, rfl, _⟩, hlv, d0, d1, d2, d3, d4⟩ := HA.out.at ho
        obtain ⟨la, lc, rfl, _⟩ := id hlv
        have HLV2 : Hid (St 0 W (.slice la o.l.length lc) o.l) := hlv
        obtain ⟨dn, hdn⟩ : ∃ q, o.dims.length = q := ⟨_, rfl⟩
        obtain ⟨m, hm⟩ : ∃ q, o.l.length = q := ⟨_, rfl⟩
        have HMM : Hid (o.l.length = m) := hm
        rw [hdn] at d1
        rw [hm] at d2 HLV2
        have hm2 : m ≤ 2000000 := by rw [← hm]; exact (HZ.out o HO.out.2).l
        clear hdn hm hlv
        have y0 := (HB.out.cell (p := ⟨b, off + k * 5, none⟩) hb).trans d0
        have y1 := (HB.out.cell (p := ⟨b, off + k * 5 + 1, none⟩) hb).trans d1
        have y2 := (HB.out.cell (p := ⟨b, off + k * 5 + 2, none⟩) hb).trans d2
        have y3 := (HB.out.cell (p := ⟨b, off + k * 5 + 3, none⟩) hb).trans d3
        have y4 := (HB.out.cell (p := ⟨b, off + k * 5 + 4, none⟩) hb).trans d4
        have HTK : Hid (l.take (k + 1) = l.take k ++ [o]) := by rw [Hid, List.take_add_one, ho]; rfl
        have hw2 : IntKind.i64.wrap ((k : Int) + 1) = (k : Int) + 1 := by rw [IntKind.wrap_i64]; omega
        obtain ⟨ob, hob⟩ : ∃ q, wo.heap.size = q := ⟨_, rfl⟩
        have HOB : Hid (Blk (wo.alloc (Obj.cells #[.string (bs o.nm), .slice da dn dc, .slice la m lc, .int .i64 o.kind, .bool o.one] 53)) ob #[.string (bs o.nm), .slice da dn dc, .slice la m lc, .int .i64 o.kind, .bool o.one] 53) := by rw [← hob]; exact Blk.new _ _ _
        have HBE : Hid (wo.heap.size = ob) := hob
        have hbx : Below wo.heap.size wo (wo.alloc (Obj.cells #[.string (bs o.nm), .slice da dn dc, .slice la m lc, .int .i64 o.kind, .bool o.one] 53)) := (Below.refl wo.heap.size wo).alloc (Nat.le_refl _) _
        have HKB : Hid (Below wo.heap.size wo (wo.alloc (Obj.cells #[.string (bs o.nm), .slice da dn dc, .slice la m lc, .int .i64 o.kind, .bool o.one] 53))) := hbx
        clear d0 d1 d2 d3 d4 ho hbx hob
        go_upto_region 8 with (fail)
        rw [HBE.out]
        generalize wo.alloc (Obj.cells #[.string (bs o.nm), .slice da dn dc, .slice la m lc, .int .i64 o.kind, .bool o.one] 53) = w3 at *
        clear y0 y1 y2 y3 y4
        have hxl : xs.length = k := by have := ousV_len HX.out; rw [List.length_take, HN.out] at this; omega
        have HXL : Hid (xs.length = k) := hxl
        have hss : ss.set k (.slice none 0 0) = ss := by
          apply List.ext_getElem?
          intro j
          rw [List.getElem?_set]
          by_cases hj : k = j
          · subst hj
            rw [if_pos rfl, if_pos (by rw [HM.out.len]; exact hlt)]
            exact (HM.out.rest k (by omega) hlt).symm
          · rw [if_neg hj]
        have hAo : A < ob := by have := (HM.out.blk).lt; rw [HBE.out] at this; exact this
        have HAO : Hid (A < ob) := hAo
        have HK0 : Hid (Kept (fun b => b = A) wo w3) := Kept.of_below HKB.out
        have HA3 : Hid (Blk w3 A (ss.set k (.slice none 0 0)).toArray 23) := by rw [hss]; exact HM.out.blk.below HKB.out
        have H3 : Hid (ob < w3.heap.size) := HOB.out.lt
        have HBW3 : Hid (Below W.heap.size W w3) := HB.out.trans (HKB.out.mono HB.out.size)
        obtain ⟨h, hh⟩ : ∃ q, w3.heap.size = q := ⟨_, rfl⟩
        have HH : Hid (w3.heap.size = h) := hh
        have HAh : Hid (A < h) := by rw [Hid, ← HH.out]; exact Nat.lt_trans HAO.out H3.out
        have HFh : Hid (W.heap.size ≤ h) := by rw [Hid, ← HH.out]; exact Nat.le_trans HAF.out (Nat.le_of_lt (Nat.lt_trans HAO.out H3.out))
        clear hss hAo hxl hh
        obtain ⟨z0, z1, z2, z3, z4⟩ := (⟨HOB.out.cell 0, HOB.out.cell 1, HOB.out.cell 2, HOB.out.cell 3, HOB.out.cell 4⟩ : w3.cell? ⟨ob, 0, none⟩ = some (.string (bs o.nm)) ∧ w3.cell? ⟨ob, 1, none⟩ = some (.slice da dn dc) ∧ w3.cell? ⟨ob, 2, none⟩ = some (.slice la m lc) ∧ w3.cell? ⟨ob, 3, none⟩ = some (.int .i64 o.kind) ∧ w3.cell? ⟨ob, 4, none⟩ = some (.bool o.one))
        go_wp2
        clear z0 z1 z2 z3 z4
        go_loopw [32] (fun i wi => ∃ (q : Nat) (si : Value), q ≤ m ∧ i = .int .i64 (q : Int) ∧ Hid (Blk wi A (ss.set k si).toArray 23) ∧ Hid (Gr A W.heap.size wi h si ((o.l.take q).map fun t => (voV t vals).1)) ∧ Hid (∀ t ∈ o.l.take q, okT o.kind vals t = true) ∧ Hid (Kept (fun b => b = A) w3 wi)) (fun i _ => m - (intOf i).toNat)
        case atStart => exact ⟨0, _, Nat.zero_le _, rfl, HA3, Gr.nil _ _ _ _, (fun t ht => by simp at ht), Kept.refl _ _⟩
        case round =>
          obtain ⟨q, si, hq, rfl, HBA, HG, HOK, HK⟩ := hrel
          by_cases hlq : q < m
          · have hlq' : (q : Int) < m := by omega
            obtain ⟨t, ht⟩ : ∃ g, o.l[q]? = some g := ⟨_, List.getElem?_eq_getElem (by rw [HMM.out]; exact hlq)⟩
            have HT : Hid (o.l[q]? = some t ∧ t ∈ o.l) := ⟨ht, List.mem_of_getElem? ht⟩
            have HKW : Hid (Kept (fun b => b = A) wo wr) := HK0.out.trans HK.out (fun b q => .inl q)
            have hbi : Below W.heap.size W wr := HBW3.out.trans (HK.out.below HBW3.out.size (fun b e => by rw [e]; exact HAF.out))
            have HBI : Hid (Below W.heap.size W wr) := hbi
            obtain ⟨tb, toff, tsv, rfl, htb, hts, d0, d1, d2, d3⟩ := st_at HLV2.out ht
            obtain ⟨ta, tc, rfl, _⟩ := id hts
            have KV : Hid (∀ X, Below W.heap.size W X → Calls Tryz.prog 30 #[.agg #[.int .i64 t.v, .bool t.set, .int .i64 t.n, .slice ta t.s.length tc], vs] X fun e w' => ∃ a9 c9, e = .returned (.tuple #[.agg #[.bool (voV t vals).1.set, .int .i64 (voV t vals).1.n, .slice a9 (voV t vals).1.s.length c9], .bool (voV t vals).2]) ∧ Si 0 w' (.slice a9 (voV t vals).1.s.length c9) (voV t vals).1.s ∧ Below X.heap.size X w') := fun X hX => vo30 t vals (hts.below hX) (HV.out.below hX) ((HZ.out o HO.out.2).t t HT.out.2) HLV.out.1 HLV.out.2 (wt_ok ((wr_ok ((right_ok HR.out).2 o HO.out.2)).2.2.2 t HT.out.2))
            have HVL : Hid ((voV t vals).1.s.length ≤ 17592186043904) := by
              rw [Hid]
              unfold voV
              by_cases h1 : t.v = -1
              · rw [if_pos h1]; exact (HZ.out o HO.out.2).t t HT.out.2
              · rw [if_neg h1]
                cases hx : vals[t.v.toNat]? with
                | none => simp
                | some x => exact HLV.out.1 x (List.mem_of_getElem? hx)
            have HOT : Hid (okT o.kind vals t = ((voV t vals).2 && isVal (voV t vals).1.set (voV t vals).1.n (voV t vals).1.s o.kind)) := rfl
            obtain ⟨⟨⟨s1, vn, vl⟩, vok⟩, hvv⟩ : ∃ z, voV t vals = z := ⟨_, rfl⟩
            have HVV : Hid (voV t vals = (⟨s1, vn, vl⟩, vok)) := hvv
            rw [hvv] at KV HVL HOT
            simp only at KV HVL HOT
            obtain ⟨tn, htn⟩ : ∃ z, t.s.length = z := ⟨_, rfl⟩
            rw [htn] at KV d3
            obtain ⟨xn, hxn⟩ : ∃ z, vl.length = z := ⟨_, rfl⟩
            have HXN : Hid (vl.length = xn) := hxn
            rw [hxn] at KV
            have x0 := (hbi.cell (p := ⟨tb, toff + q * 4, none⟩) htb).trans d0
            have x1 := (hbi.cell (p := ⟨tb, toff + q * 4 + 1, none⟩) htb).trans d1
            have x2 := (hbi.cell (p := ⟨tb, toff + q * 4 + 2, none⟩) htb).trans d2
            have x3 := (hbi.cell (p := ⟨tb, toff + q * 4 + 3, none⟩) htb).trans d3
            have hq1 : IntKind.i64.wrap ((q : Int) + 1) = (q : Int) + 1 := by rw [IntKind.wrap_i64]; omega
            have hba := (Below.refl wr.heap.size wr).alloc (Nat.le_refl _) (Obj.cells #[.int .i64 t.v, .bool t.set, .int .i64 t.n, .slice ta tn tc] 67)
            have HB4 : Hid (Below wr.heap.size wr (wr.alloc (Obj.cells #[.int .i64 t.v, .bool t.set, .int .i64 t.n, .slice ta tn tc] 67))) := hba
            have k30 := KV.out _ (hbi.trans (hba.mono hbi.size))
            clear d0 d1 d2 d3 ht hts hvv htn hxn hba hbi
            go_wp2_with fail
            refine k30.mono ?_
            rintro e w5 ⟨a9, c9, rfl, hsi, hb5⟩
            have HS5 : Hid (Si 0 w5 (.slice a9 xn c9) vl) := hsi
            have HB5 : Hid (Below wr.heap.size wr w5) := HB4.out.trans (hb5.mono HB4.out.size)
            clear k30 hsi hb5 x0 x1 x2 x3 KV HB4
            obtain ⟨xb, hxb⟩ : ∃ z, w5.heap.size = z := ⟨_, rfl⟩
            have HXE : Hid (w5.heap.size = xb) := hxb
            have HX6 : Hid (Blk (w5.alloc (Obj.cells #[.bool s1, .int .i64 vn, .slice a9 xn c9] 36)) xb #[.bool s1, .int .i64 vn, .slice a9 xn c9] 36) := by rw [← hxb]; exact Blk.new _ _ _
            have hb6 : Below w5.heap.size w5 (w5.alloc (Obj.cells #[.bool s1, .int .i64 vn, .slice a9 xn c9] 36)) := (Below.refl _ _).alloc (Nat.le_refl _) _
            have HB6 : Hid (Below wr.heap.size wr (w5.alloc (Obj.cells #[.bool s1, .int .i64 vn, .slice a9 xn c9] 36))) := HB5.out.trans (hb6.mono HB5.out.size)
            have HS6 : Hid (Si 0 (w5.alloc (Obj.cells #[.bool s1, .int .i64 vn, .slice a9 xn c9] 36)) (.slice a9 xn c9) vl) := HS5.out.below hb6
            have HXR : Hid (wr.heap.size ≤ xb) := by rw [← hxb]; exact HB5.out.size
            clear hb6 HS5 hxb
            go_upto_region 12 with (fail)
            rw [HXE.out]
            generalize w5.alloc (Obj.cells #[.bool s1, .int .i64 vn, .slice a9 xn c9] 36) = w6 at *
            clear HXE HB5
            obtain ⟨u0, u1, u2⟩ := (⟨HX6.out.cell 0, HX6.out.cell 1, HX6.out.cell 2⟩ : w6.cell? ⟨xb, 0, none⟩ = some (.bool s1) ∧ w6.cell? ⟨xb, 1, none⟩ = some (.int .i64 vn) ∧ w6.cell? ⟨xb, 2, none⟩ = some (.slice a9 xn c9))
            have HOBR : Hid (Blk wr ob #[.string (bs o.nm), .slice da dn dc, .slice (some ⟨tb, toff, none⟩) m lc, .int .i64 o.kind, .bool o.one] 53) := ⟨(HK.out.block ob H3.out (fun e => by have := HAO.out; omega)).trans HOB.out.h⟩
            have z3 : w6.cell? ⟨ob, 3, none⟩ = some (.int .i64 o.kind) := (HOBR.out.below HB6.out).cell 3
            cases vok with
            | false =>
              have HBAD : Hid (okT o.kind vals t = false) := HOT
              have BB := HB6
              go_wp2
              go_ret2
              exact ⟨⟨_, _, rfl, .inr (.inl ⟨HR.out, ousV_none HO.out.2 (ouV_none HT.out.2 HBAD.out), rfl, rfl⟩)⟩, HBI.out.trans (BB.out.mono HBI.out.size)⟩
            | true =>
              have k31 := val31 s1 vn o.kind HS6.out HVL.out
              cases hiv : isVal s1 vn vl o.kind with
              | false =>
                have HBAD : Hid (okT o.kind vals t = false) := by rw [Hid, HOT.out, hiv]; rfl
                rw [hiv] at k31
                go_wp2_with fail
                refine k31.mono ?_
                rintro e w7 ⟨rfl, hb7⟩
                have BB : Hid (Below wr.heap.size wr w7) := HB6.out.trans (hb7.mono HB6.out.size)
                go_wp2
                go_ret2
                exact ⟨⟨_, _, rfl, .inr (.inl ⟨HR.out, ousV_none HO.out.2 (ouV_none HT.out.2 HBAD.out), rfl, rfl⟩)⟩, HBI.out.trans (BB.out.mono HBI.out.size)⟩
              | true =>
                have HGOOD : Hid (okT o.kind vals t = true) := by rw [Hid, HOT.out, hiv]; rfl
                rw [hiv] at k31
                clear hiv
                go_wp2_with fail
                refine k31.mono ?_
                rintro e w7 ⟨rfl, hb7⟩
                have HB7 : Hid (Below wr.heap.size wr w7) := HB6.out.trans (hb7.mono HB6.out.size)
                have HX7 : Hid (Blk w7 xb #[.bool s1, .int .i64 vn, .slice a9 xn c9] 36) := HX6.out.below hb7
                have HS7 : Hid (Si 0 w7 (.slice a9 xn c9) vl) := HS6.out.below hb7
                clear u0 u1 u2 z3 k31 hb7
                have u2 : w7.cell? ⟨xb, 2, none⟩ = some (.slice a9 xn c9) := HX7.out.cell 2
                have kc := clone59o HS7.out HVL.out
                go_wp2_with fail
                refine kc.mono ?_
                rintro e w8 ⟨cv, rfl, hown, hb8⟩
                obtain ⟨cp, cc, rfl⟩ := own_shape hown
                have HOW : Hid (w8.ownsRow w7.heap.size 2 1 (.slice cp vl.length cc) vl.length (intv vl)) := hown
                have HX8 : Hid (Blk w8 xb #[.bool s1, .int .i64 vn, .slice a9 xn c9] 36) := HX7.out.below hb8
                have HB8 : Hid (Below wr.heap.size wr w8) := HB7.out.trans (hb8.mono HB7.out.size)
                have HXLT : Hid (xb < w7.heap.size) := HX7.out.lt
                have HX9 : Hid (Blk (w8.setCell ⟨xb, 2, none⟩ (.slice cp xn cc)) xb #[.bool s1, .int .i64 vn, .slice cp xn cc] 36) := HX8.out.set 2 _
                have HB9 : Hid (Below wr.heap.size wr (w8.setCell ⟨xb, 2, none⟩ (.slice cp xn cc))) := HB8.out.setCell HXR.out _
                have hsib : ∀ b, si.ownBlock = some b → b < wr.heap.size := by obtain ⟨vs9, h1, _⟩ := HG.out.o; exact fun b e => h1.lt e
                have HN9 : Hid (Nm (fun b => ((b = A ∨ b < W.heap.size) ∨ si.ownBlock = some b) ∨ b = xb) (w8.setCell ⟨xb, 2, none⟩ (.slice cp xn cc)) (.slice cp xn cc) vl) := by
                  have hnm : Nm (fun b => ((b = A ∨ b < W.heap.size) ∨ si.ownBlock = some b) ∨ b = xb) w8 (.slice cp vl.length cc) vl := own_nm HOW.out (fun b q => by
                    have h1 := HB7.out.size
                    have h2 := HK.out.size
                    have h3 := HH.out
                    have h4 := HAh.out
                    have h5 := HFh.out
                    rcases q with ((q | q) | q) | q
                    · omega
                    · omega
                    · have := hsib b q; omega
                    · rw [q]; exact HXLT.out)
                  rw [HXN.out] at hnm
                  exact hnm.kept ((Kept.refl _ _).setCell (.inr rfl) _ _)
                have v2 : w8.cell? ⟨xb, 2, none⟩ = some (.slice a9 xn c9) := HX8.out.cell 2
                have vf := HX8.out.frozen 2
                rw [HXN.out]
                clear hown hb8 kc u2 HX7 HS7 HX8 HOW
                go_upto_region 15 with (fail)
                have HD0 : Hid (Below (w8.setCell ⟨xb, 2, none⟩ (.slice cp xn cc)).heap.size (w8.setCell ⟨xb, 2, none⟩ (.slice cp xn cc)) (w8.setCell ⟨xb, 2, none⟩ (.slice cp xn cc)).drew) := (Below.refl _ _).drew
                have HB10 : Hid (Below wr.heap.size wr (w8.setCell ⟨xb, 2, none⟩ (.slice cp xn cc)).drew) := HB9.out.trans (HD0.out.mono HB9.out.size)
                have HX10 : Hid (Blk (w8.setCell ⟨xb, 2, none⟩ (.slice cp xn cc)).drew xb #[.bool s1, .int .i64 vn, .slice cp xn cc] 36) := HX9.out.below HD0.out
                have HN10 : Hid (Nm (fun b => ((b = A ∨ b < W.heap.size) ∨ si.ownBlock = some b) ∨ b = xb) (w8.setCell ⟨xb, 2, none⟩ (.slice cp xn cc)).drew (.slice cp xn cc) vl) := HN9.out.kept (Kept.of_below HD0.out)
                have HA10 : Hid (Blk (w8.setCell ⟨xb, 2, none⟩ (.slice cp xn cc)).drew A (ss.set k si).toArray 23) := HBA.out.below HB10.out
                have HG10 : Hid (Gr A W.heap.size (w8.setCell ⟨xb, 2, none⟩ (.slice cp xn cc)).drew h si ((o.l.take q).map fun t => (voV t vals).1)) := HG.out.kept (Kept.of_below HB10.out) HAh.out
                have HXA : Hid (xb ≠ A) := fun e => by have h1 := HXR.out; have h2 := HK.out.size; have h3 := HH.out; have h4 := HAh.out; omega
                have HXS : Hid (∀ b, si.ownBlock = some b → b ≠ xb ∧ b ≠ A) := fun b e => by have h1 := HXR.out; have h2 := hsib b e; have h3 := HG.out.b b e; have h4 := HAh.out; omega
                have HKS : Hid ((ss.set k si)[k]? = some si) := by rw [Hid, List.getElem?_set, if_pos rfl, if_pos (by rw [HM.out.len]; exact hlt)]
                clear hsib v2 vf
                refine wp_region_held_drew (S := fun X : World => Blk X xb #[.bool s1, .int .i64 vn, .slice cp xn cc] 36) (by kernel_rfl) (HX10.out) (fun hHeld => ?_)
                generalize (w8.setCell ⟨xb, 2, none⟩ (.slice cp xn cc)).drew = vv at *
                refine tkI 0 rfl hHeld ?_
                try simp only [Act.put, zS, eZ, eS]
                refine tkI 1 rfl hHeld ?_
                try simp only [Act.put, zS, eZ, eS]
                refine tkI 2 rfl hHeld ?_
                try simp only [Act.put, zS, eZ, eS]
                refine tkI 3 rfl hHeld ?_
                try simp only [Act.put, zS, eZ, eS]
                refine tkI 4 rfl hHeld ?_
                try simp only [Act.put, zS, eZ, eS]
                refine tkI 6 rfl hHeld ?_ (hy := by intro w hSw; obtain ⟨u0, u1, u2⟩ := (⟨hSw.cell 0, hSw.cell 1, hSw.cell 2⟩ : w.cell? ⟨xb, 0, none⟩ = some (.bool s1) ∧ w.cell? ⟨xb, 1, none⟩ = some (.int .i64 vn) ∧ w.cell? ⟨xb, 2, none⟩ = some (.slice cp xn cc)); go_simp <;> with_reducible rfl)
                try simp only [Act.put, zS, eZ, eS]
                refine rd2 5 7 (fun K hK => ?_) (fun K hK => ?_)
                focus
                  have z5 : vv.cell? ⟨A, k, none⟩ = some si := (HA10.out.cell k).trans (by simpa using HKS.out)
                  go_simp
                  clear z5
                  clear hHeld; refine hK.out _ _ (HX10.out) fun hHeld => ?_
                  clear hK K
                  try simp only [Act.put, zS, eZ, eS]
                  refine rdy 7 rfl fun K hK => ?_
                  obtain ⟨bs, hbs⟩ : ∃ q, vv.heap.size = q := ⟨_, rfl⟩
                  go_simp
                  (try rw [hbs])
                  obtain ⟨v2, hv2⟩ : ∃ q, vv.alloc (Obj.cells #[.bool s1, .int .i64 vn, .slice cp xn cc] 36) = q := ⟨_, rfl⟩
                  rw [hv2]
                  have hbel : Below vv.heap.size vv v2 := by rw [← hv2]; exact (Below.refl _ _).alloc (Nat.le_refl _) _
                  have HBS : Hid (Blk v2 bs #[.bool s1, .int .i64 vn, .slice cp xn cc] 36) := by rw [← hv2, ← hbs]; exact Blk.new _ _ _
                  have HB11 : Hid (Below wr.heap.size wr v2) := HB10.out.trans (hbel.mono HB10.out.size)
                  have HX11 : Hid (Blk v2 xb #[.bool s1, .int .i64 vn, .slice cp xn cc] 36) := HX10.out.below hbel
                  have HN11 : Hid (Nm (fun b => ((b = A ∨ b < W.heap.size) ∨ si.ownBlock = some b) ∨ b = xb) v2 (.slice cp xn cc) vl) := HN10.out.kept (Kept.of_below hbel)
                  have HA11 : Hid (Blk v2 A (ss.set k si).toArray 23) := HA10.out.below hbel
                  have HG11 : Hid (Gr A W.heap.size v2 h si ((o.l.take q).map fun t => (voV t vals).1)) := HG10.out.kept (Kept.of_below hbel) HAh.out
                  clear hv2 hbs hbel
                  clear hHeld; refine hK.out _ _ (HX11.out) fun hHeld => ?_
                  clear hK K
                  try simp only [Act.put, zS, eZ, eS]
                rotate_left 1
                focus
                  obtain ⟨bs, hbs⟩ : ∃ q, vv.heap.size = q := ⟨_, rfl⟩
                  go_simp
                  (try rw [hbs])
                  obtain ⟨v2, hv2⟩ : ∃ q, vv.alloc (Obj.cells #[.bool s1, .int .i64 vn, .slice cp xn cc] 36) = q := ⟨_, rfl⟩
                  rw [hv2]
                  have hbel : Below vv.heap.size vv v2 := by rw [← hv2]; exact (Below.refl _ _).alloc (Nat.le_refl _) _
                  have HBS : Hid (Blk v2 bs #[.bool s1, .int .i64 vn, .slice cp xn cc] 36) := by rw [← hv2, ← hbs]; exact Blk.new _ _ _
                  have HB11 : Hid (Below wr.heap.size wr v2) := HB10.out.trans (hbel.mono HB10.out.size)
                  have HX11 : Hid (Blk v2 xb #[.bool s1, .int .i64 vn, .slice cp xn cc] 36) := HX10.out.below hbel
                  have HN11 : Hid (Nm (fun b => ((b = A ∨ b < W.heap.size) ∨ si.ownBlock = some b) ∨ b = xb) v2 (.slice cp xn cc) vl) := HN10.out.kept (Kept.of_below hbel)
                  have HA11 : Hid (Blk v2 A (ss.set k si).toArray 23) := HA10.out.below hbel
                  have HG11 : Hid (Gr A W.heap.size v2 h si ((o.l.take q).map fun t => (voV t vals).1)) := HG10.out.kept (Kept.of_below hbel) HAh.out
                  clear hv2 hbs hbel
                  clear hHeld; refine hK.out _ _ (HX11.out) fun hHeld => ?_
                  clear hK K
                  try simp only [Act.put, zS, eZ, eS]
                  refine rdy 5 rfl fun K hK => ?_
                  have z5 : v2.cell? ⟨A, k, none⟩ = some si := (HA11.out.cell k).trans (by simpa using HKS.out)
                  go_simp
                  clear z5
                  clear hHeld; refine hK.out _ _ (HX11.out) fun hHeld => ?_
                  clear hK K
                  try simp only [Act.put, zS, eZ, eS]
                all_goals
                  refine rdy 8 rfl fun K hK => ?_
                  obtain ⟨vs9, hr9, hl9, hd9⟩ := HG11.out.o
                  have HR9 : Hid (Ow v2 36 si 3 vs9) := hr9
                  have HL9 : Hid (vs9.length = ((o.l.take q).map fun t => (voV t vals).1).length) := hl9
                  have HD9 : Hid (∀ (i : Nat) (v : Vl) (c : List Value), ((o.l.take q).map fun t => (voV t vals).1)[i]? = some v → vs9[i]? = some c → ∃ sv, c = [.bool v.set, .int .i64 v.n, sv] ∧ Nm (fun b => (b = A ∨ b < W.heap.size) ∨ si.ownBlock = some b) v2 sv v.s) := hd9
                  have hlv : vs9.length ≤ 100000000 := by rw [hl9]; simp; omega
                  clear hr9 hl9 hd9
                  refine step_app HR9.out 23 Tryz.underlying23 Tryz.info36 rfl (by decide) rfl _ _ rfl rfl ⟨bs, 0, none⟩ 1 (by with_unfolding_all rfl) [.bool s1, .int .i64 vn, .slice cp xn cc] rfl (fun j u hu => by rw [Addr.add_mid, Nat.zero_add, HBS.out.cell j]; simpa using hu) (by intro u hu; simp at hu; rcases hu with rfl | rfl | rfl <;> rfl) hlv (by decide) ?_
                  intro d1 wa hr1 hg1 hn1
                  obtain ⟨p1, c1, hd1, _, _⟩ := hr1.shape
                  subst hd1
                  have HRA : Hid _ := hr1
                  have HG1 : Hid (v2.grownBy wa si.ownBlock) := hg1
                  have HN1 : Hid _ := hn1
                  have HX12 : Hid (Blk wa xb #[.bool s1, .int .i64 vn, .slice cp xn cc] 36) := ⟨(hg1.block xb HX11.out.lt (fun e => (HXS.out xb e.symm).1 rfl)).trans HX11.out.h⟩
                  have HA12 : Hid (Blk wa A (ss.set k si).toArray 23) := ⟨(hg1.block A HA11.out.lt (fun e => (HXS.out A e.symm).2 rfl)).trans HA11.out.h⟩
                  clear hr1 hg1 hn1
                  clear hHeld; refine hK.out _ _ (HX12.out) fun hHeld => ?_
                  clear hK K
                  try simp only [Act.put, zS, eZ, eS]
                  refine tkI 9 rfl hHeld ?_
                  try simp only [Act.put, zS, eZ, eS]
                  refine rdy 10 rfl fun K hK => ?_
                  have zc : wa.cell? ⟨A, k, none⟩ = some si := (HA12.out.cell k).trans (by simpa using HKS.out)
                  have zf := HA12.out.frozen k
                  go_simp
                  clear zc zf
                  refine hK.out _ _ (HX12.out.other HXA.out _ _) fun hHeld => ?_
                  clear hK K
                  try simp only [Act.put, zS, eZ, eS]
                  refine wpAnyH_done (by kernel_rfl) ?_ _
                  have hmap : ((o.l.take (q + 1)).map fun t => (voV t vals).1) = ((o.l.take q).map fun t => (voV t vals).1) ++ [⟨s1, vn, vl⟩] := by
                    rw [List.take_add_one, HT.out.1]
                    simp [HVV.out]
                  have hhv : h ≤ v2.heap.size := by rw [← HH.out]; exact Nat.le_trans HK.out.size HB11.out.size
                  have HGN : Hid (Gr A W.heap.size wa h (.slice p1 (vs9.length + 1) c1) ((o.l.take (q + 1)).map fun t => (voV t vals).1)) := by
                    rw [hmap, Hid]
                    have := HG11.out.snoc (w' := wa) (s' := Value.slice p1 (vs9 ++ [[Value.bool s1, Value.int .i64 vn, Value.slice cp xn cc]]).length c1) (v := ⟨s1, vn, vl⟩) (sv := .slice cp xn cc) HAh.out hhv (HN11.out.mono (fun b q => .inl q)) HL9.out HD9.out HRA.out HG1.out HN1.out
                    rwa [List.length_append] at this
                  have hk3 : Kept (fun b => b = A) w3 wa := by
                    have k1 := HK.out.then_below HB11.out
                    refine ⟨HG1.out.os.trans k1.os, HG1.out.tape.trans k1.tape, HG1.out.output.trans k1.output, Nat.le_trans k1.size HG1.out.size, fun b hb hA => ?_⟩
                    refine (HG1.out.block b (Nat.lt_of_lt_of_le hb k1.size) (fun e => ?_)).trans (k1.block b hb hA)
                    have h1 := HG11.out.b b e.symm
                    have h2 := HH.out
                    omega
                  have HKZ : Hid (Kept (fun b => b = A) w3 (wa.setCell ⟨A, k, none⟩ (.slice p1 (vs9.length + 1) c1))) := hk3.setCell rfl _ _
                  have HAZ : Hid (Blk (wa.setCell ⟨A, k, none⟩ (.slice p1 (vs9.length + 1) c1)) A (ss.set k (.slice p1 (vs9.length + 1) c1)).toArray 23) := by
                    have := HA12.out.set k (.slice p1 (vs9.length + 1) c1)
                    rw [List.setIfInBounds_toArray, List.set_set] at this
                    exact this
                  have HGZ : Hid (Gr A W.heap.size (wa.setCell ⟨A, k, none⟩ (.slice p1 (vs9.length + 1) c1)) h (.slice p1 (vs9.length + 1) c1) ((o.l.take (q + 1)).map fun t => (voV t vals).1)) := HGN.out.kept ((Kept.refl (fun b => b = A) wa).setCell rfl _ _) HAh.out
                  have HOZ : Hid (∀ t ∈ o.l.take (q + 1), okT o.kind vals t = true) := fun t' ht' => by
                    rw [List.take_add_one, HT.out.1] at ht'
                    rcases List.mem_append.1 ht' with r | r
                    · exact HOK.out t' r
                    · simp at r; subst r; exact HGOOD.out
                  clear hmap hhv hk3 hlv
                  go_wp2
                  go_roundw
                  case rel => exact ⟨q + 1, _, by omega, by go_num, HAZ, HGZ, HOZ, HKZ⟩
                  case measure => simp [intOf] <;> omega
          · obtain rfl : q = m := by omega
            have hdone := HG.out.done HAh.out HFh.out
            have hall : o.l.take q = o.l := List.take_of_length_le (by rw [HMM.out]; exact Nat.le_refl _)
            rw [hall] at hdone
            have hov : ouV o vals = some (o.l.map fun t => (voV t vals).1) := ouV_some (fun t ht => HOK.out t (by rw [hall]; exact ht))
            have HXN : Hid (ousV (l.take (k + 1)) vals = some (xs ++ [o.l.map fun t => (voV t vals).1])) := by rw [Hid, HTK.out]; exact ousV_snoc HX.out hov
            have HKW : Hid (Kept (fun b => b = A) wo wr) := HK0.out.trans HK.out (fun b q => .inl q)
            have HMN : Hid (Made A W.heap.size wr n (ss.set k si) (xs ++ [o.l.map fun t => (voV t vals).1])) := by
              refine ⟨by rw [List.length_set]; exact HM.out.len, HBA.out, fun j x hx => ?_, fun j hj1 hj2 => ?_⟩
              · rcases Nat.lt_trichotomy j xs.length with r | r | r
                · rw [List.getElem?_append_left r] at hx
                  obtain ⟨sj, h1, h2⟩ := HM.out.kept HKW.out j x hx
                  exact ⟨sj, by rw [List.getElem?_set, if_neg (by have := HXL.out; omega)]; exact h1, h2⟩
                · subst r
                  rw [List.getElem?_append_right (Nat.le_refl _), Nat.sub_self] at hx
                  simp at hx
                  subst hx
                  exact ⟨si, by rw [HXL.out, List.getElem?_set, if_pos rfl, if_pos (by rw [HM.out.len]; exact hlt)], hdone⟩
                · rw [List.getElem?_eq_none (by simp; omega)] at hx
                  cases hx
              · rw [List.length_append] at hj1
                simp at hj1
                rw [List.getElem?_set, if_neg (by have := HXL.out; omega)]
                exact HM.out.rest j (by omega) hj2
            have HBN : Hid (Below W.heap.size W wr) := HBW3.out.trans (HK.out.below HBW3.out.size (fun b e => by rw [e]; exact HAF.out))
            clear hdone hall hov
            go_wp2
            go_roundw
            case rel => exact ⟨k + 1, _, _, by omega, by go_num, HMN, HXN, HBN⟩
            case measure => simp [intOf] <;> omega
      · obtain rfl : k = n := by omega
        have hall : l.take k = l := List.take_of_length_le (by rw [HN.out]; exact Nat.le_refl _)
        have hx := HX.out
        rw [hall] at hx
        have HXS : Hid (ousV l vals = some xs) := hx
        have hxl := ousV_len hx
        have HXL : Hid (xs.length = k) := by rw [Hid, hxl, HN.out]
        have HSV : Hid (SvvX (fun b => b < W.heap.size) wo (.slice (some ⟨A, 0, none⟩) k k) xs) := by
          refine ⟨_, _, by rw [HXL.out], fun h0 => ⟨A, 0, rfl, HM.out.blk.lt, fun q => by have := HAF.out; omega, fun i x hx => ?_⟩⟩
          obtain ⟨sj, h1, h2⟩ := HM.out.done i x hx
          refine ⟨sj, h2.mono (fun b q => .inr q), ?_⟩
          rw [Nat.zero_add]
          exact (HM.out.blk.cell i).trans (by simpa using h1)
        clear hall hx hxl
        go_wp2
        go_ret2
        exact ⟨⟨_, _, rfl, .inr (.inr ⟨HR.out, xs, HXS.out, rfl, HSV.out⟩)⟩, HB.out⟩
  · have hr0' : (r == 0) = false := by simpa using hr0
    go_wp2
    go_ret2
    exact ⟨⟨_, _, rfl, .inl ⟨by rw [HR.out]; exact hr0, by rw [HR.out], rfl⟩⟩, HB1.out⟩
end Go.Proofs.YtdnhhmnllhlbbaaGreatDoor
