/-
  What is proved here: An output that stands as it is written is read: output.
-/
import Derived.Test.YtdnhhmnllhlbbaaGreatDoorPe
import Derived.Test.YtdnhhmnllhlbbaaGreatDoorOi
namespace Go.Proofs.YtdnhhmnllhlbbaaGreatDoor
open Go.RowKit Go.Shelf
set_option linter.unusedVariables false
set_option linter.unusedSimpArgs false
theorem sepT_app (s : List UInt8) : ∀ (a b : List (List UInt8)), b ≠ [] → sepT s (a ++ b) = sepT s a ++ (if a.length = 0 then [] else s) ++ sepT s b
  | [], b, _ => by simp [sepT]
  | [p], b, hb => by rw [List.singleton_append, sepT_cons s p b hb]; simp [sepT]
  | p :: q :: a, b, hb => by
    rw [List.cons_append, sepT_cons s p ((q :: a) ++ b) (by simp), sepT_app s (q :: a) b hb, sepT_cons s p (q :: a) (by simp)]
    simp [List.append_assoc]
/-- What stands from a value on. -/
theorem vals_at {k : Int} {x : List Vl} {i : Nat} {v : Vl} (hv : x[i]? = some v) : ∃ R, valsT k x = valsT k (x.take i) ++ (if i = 0 then [] else [44, 32]) ++ (valT k v ++ R) ∧ (R = [] ∨ ∃ R', R = [44, 32] ++ R') := by
  have hi := (List.getElem?_eq_some_iff.1 hv).1
  have e : x = x.take i ++ v :: x.drop (i + 1) := by
    conv => lhs; rw [← List.take_append_drop i x, List.drop_eq_getElem_cons hi, (List.getElem?_eq_some_iff.1 hv).2]
  have hl : ((x.take i).map (valT k)).length = i := by rw [List.length_map, List.length_take]; omega
  have e2 : valsT k x = valsT k (x.take i) ++ (if i = 0 then [] else [44, 32]) ++ sepT [44, 32] (valT k v :: (x.drop (i + 1)).map (valT k)) := by
    conv => lhs; rw [e]
    unfold valsT
    rw [List.map_append, List.map_cons, sepT_app _ _ _ (by simp), hl]
  rw [e2]
  cases h : (x.drop (i + 1)).map (valT k) with
  | nil => exact ⟨[], by simp [sepT], .inl rfl⟩
  | cons q t => exact ⟨[44, 32] ++ sepT [44, 32] (q :: t), by rw [sepT_cons _ _ _ (by simp), List.append_assoc (valT k v)], .inr ⟨_, rfl⟩⟩
theorem vals_take {k : Int} {x : List Vl} {i : Nat} {v : Vl} (hv : x[i]? = some v) : valsT k (x.take (i + 1)) = valsT k (x.take i) ++ (if i = 0 then [] else [44, 32]) ++ valT k v := by
  have hi := (List.getElem?_eq_some_iff.1 hv).1
  unfold valsT
  rw [List.take_add_one, hv, Option.toList_some, List.map_append, List.map_singleton, sepT_snoc, List.length_map, List.length_take, Nat.min_eq_left (by omega)]
theorem drop_app {s u r : List UInt8} {p : Nat} (h : s.drop p = u ++ r) : s.drop (p + u.length) = r := by rw [← List.drop_drop, h, List.drop_left]
theorem drop_le {s u r : List UInt8} {p : Nat} (hp : p ≤ s.length) (h : s.drop p = u ++ r) : p + u.length ≤ s.length := by
  have := congrArg List.length h
  rw [List.length_drop, List.length_append] at this
  omega
theorem si_nmg {B0 w : World} {g : Nat} {sv : Value} {l : List Int} (h : Si 0 B0 sv l) (hb : Below B0.heap.size B0 w) (hg : B0.heap.size ≤ g) : Nm (fun b => b = g) w sv l := by
  obtain ⟨a, c, e, h⟩ := h
  refine ⟨a, c, e, fun h0 => ?_⟩
  obtain ⟨b, off, e1, _, e2, e3⟩ := h h0
  exact ⟨b, off, e1, Nat.lt_of_lt_of_le e2 hb.size, by omega, fun i x hx => (hb.cell (p := ⟨b, off + i, none⟩) e2).trans (e3 i x hx)⟩
/-- What reading an output does where it stands at a place. -/
def ReadO (s : List UInt8) (g q : Nat) (x : List Vl) (W : World) (e : Ending) (w : World) : Prop := ∃ sv, e = .returned sv ∧ SvX (fun b => b < W.heap.size) w sv x ∧ Blk w g #[.string (bs s), .int .i64 (q : Int)] 115 ∧ Kept (fun b => b = g) W w

set_option maxRecDepth 100000 in
set_option maxHeartbeats 4000000 in
theorem output71 {B0 W : World} {g p : Nat} {dv lv : Value} (s r : List UInt8) (o : Ou) (x : List Vl) (hd : Rgs B0 dv o.dims) (hl : St 0 B0 lv o.l) (hbw : Below B0.heap.size B0 W) (hg : B0.heap.size ≤ g) (hX : Blk W g #[.string (bs s), .int .i64 (p : Int)] 115)
    (hlen : x.length = o.l.length) (hv : ∀ v ∈ x, isVal v.set v.n v.s o.kind = true) (hcon : ∀ (i : Nat) (t : Tm) (v : Vl), o.l[i]? = some t → x[i]? = some v → t.v = -1 → v.n = t.n ∧ v.s = t.s) (hat : s.drop p = outT o x ++ r) (hp : p ≤ s.length) (hs : s.length ≤ 1000000000000)
    (hnm : o.nm.length ≤ 10000000000) (hsh : shB o = true) (hz : OuZ o) (hT : Tens B0) (hM : MaxL B0) :
    Calls Tryz.prog 71 #[.pointer (some ⟨g, 0, none⟩), .agg #[.string (bs o.nm), dv, lv, .int .i64 o.kind, .bool o.one]] W fun e w' => ReadO s g (p + (outT o x).length) x W e w' := by
  obtain ⟨hd1, hd2⟩ := dims_ok hsh
  obtain ⟨da, dc, rfl, _⟩ := id hd
  obtain ⟨la, lc, rfl, _⟩ := id hl
  have HAT : Hid (s.drop p = outT o x ++ r) := hat
  have h1 : s.drop p = headT o ++ (valsT o.kind x ++ (tailT o ++ r)) := by rw [hat]; unfold outT; simp only [List.append_assoc]
  obtain ⟨q0, hq0⟩ : ∃ q, p + (headT o).length = q := ⟨_, rfl⟩
  have h2 : s.drop q0 = valsT o.kind x ++ (tailT o ++ r) := by rw [← hq0]; exact drop_app h1
  have hq0l : q0 ≤ s.length := by rw [← hq0]; exact drop_le hp h1
  obtain ⟨q1, hq1⟩ : ∃ q, q0 + (valsT o.kind x).length = q := ⟨_, rfl⟩
  have h3 : s.drop q1 = tailT o ++ r := by rw [← hq1]; exact drop_app h2
  have hq1l : q1 ≤ s.length := by rw [← hq1]; exact drop_le hq0l h2
  obtain ⟨q2, hq2⟩ : ∃ q, q1 + (tailT o).length = q := ⟨_, rfl⟩
  have hq2e : p + (outT o x).length = q2 := by unfold outT; simp only [List.length_append]; omega
  have HQ : Hid (p + (headT o).length = q0 ∧ q0 + (valsT o.kind x).length = q1 ∧ q1 + (tailT o).length = q2) := ⟨hq0, hq1, hq2⟩
  have HS0 : Hid (s.drop q0 = valsT o.kind x ++ (tailT o ++ r)) := h2
  have HLC0 : Hid (lcp (s.drop p) (headT o) = (headT o).length) := by unfold Hid; rw [h1]; exact lcp_app _ _
  have HLC1 : Hid (lcp (s.drop q1) (tailT o) = (tailT o).length) := by unfold Hid; rw [h3]; exact lcp_app _ _
  have HPL : Hid (p ≤ s.length ∧ q0 ≤ s.length ∧ q1 ≤ s.length ∧ s.length ≤ 1000000000000) := ⟨hp, hq0l, hq1l, hs⟩
  have hrl := round_len hnm hsh
  have HRL : Hid ((headT o).length ≤ 1000000000000 ∧ (tailT o).length ≤ 1000000000000) := ⟨by omega, by omega⟩
  rw [hq2e]
  have HV : Hid (∀ v ∈ x, isVal v.set v.n v.s o.kind = true) := hv
  have HCON : Hid (∀ (i : Nat) (t : Tm) (v : Vl), o.l[i]? = some t → x[i]? = some v → t.v = -1 → v.n = t.n ∧ v.s = t.s) := hcon
  have HL : Hid (St 0 B0 (.slice la o.l.length lc) o.l) := hl
  have HBW : Hid (Below B0.heap.size B0 W ∧ B0.heap.size ≤ g) := ⟨hbw, hg⟩
  have HZ : Hid (OuZ o) := hz
  have HT : Hid (Tens B0) := hT
  have HM : Hid (MaxL B0) := hM
  obtain ⟨F, hF⟩ : ∃ F, W.heap.size = F := ⟨_, rfl⟩
  have HGF : Hid (g < F) := by rw [← hF]; exact hX.lt
  have HF : Hid (W.heap.size = F) := hF
  obtain ⟨dn, hdn⟩ : ∃ q, o.dims.length = q := ⟨_, rfl⟩
  obtain ⟨n, hn⟩ : ∃ q, o.l.length = q := ⟨_, rfl⟩
  have HN : Hid (o.l.length = n ∧ x.length = n) := ⟨hn, by rw [hlen, hn]⟩
  rw [hn] at HL ⊢
  rw [hdn] at hd ⊢
  have hb1 : Below W.heap.size W (W.alloc (Obj.cells #[.string (bs o.nm), .slice da dn dc, .slice la n lc, .int .i64 o.kind, .bool o.one] 53)) := (Below.refl _ _).alloc (Nat.le_refl _) _
  have HO1 : Hid (Blk (W.alloc (Obj.cells #[.string (bs o.nm), .slice da dn dc, .slice la n lc, .int .i64 o.kind, .bool o.one] 53)) F #[.string (bs o.nm), .slice da dn dc, .slice la n lc, .int .i64 o.kind, .bool o.one] 53) := by rw [← hF]; exact Blk.new _ _ _
  obtain ⟨w1, hw1⟩ : ∃ q, W.alloc (Obj.cells #[.string (bs o.nm), .slice da dn dc, .slice la n lc, .int .i64 o.kind, .bool o.one] 53) = q := ⟨_, rfl⟩
  rw [hw1] at hb1 HO1
  have HB1 : Hid (Below W.heap.size W w1) := hb1
  have HX1 : Hid (Blk w1 g #[.string (bs s), .int .i64 (p : Int)] 115) := hX.below hb1
  have ka := around25 (W := w1) (dv := .slice da dn dc) (lv := .slice la n lc) o (hd.below (hbw.trans (hb1.mono hbw.size))) ⟨_, _, _, rfl⟩ hnm (by omega) hd2 (hT.self (hbw.trans (hb1.mono hbw.size)))
  have HW1 : Hid _ := hw1
  clear hd1 hd2 h1 h2 h3 hq0 hq0l hq1 hq1l hq2 hq2e hp hs hrl hv hcon hl hbw hg hz hT hM hF hX hdn hn hw1 hb1 hlen hat hd hnm hsh
  go_enter Tryz.func71, Tryz.ntmps71
  go_upto_region 2 with (fail)
  rw [HW1.out, HF.out]
  clear HW1
  have x0 := HO1.out.cell 0
  have x1 := HO1.out.cell 1
  have x2 := HO1.out.cell 2
  have x3 := HO1.out.cell 3
  have x4 := HO1.out.cell 4
  go_wp2_with fail
  refine ka.mono ?_
  rintro e w2 ⟨rfl, hb2⟩
  have HO2 : Hid (Blk w2 F #[.string (bs o.nm), .slice da dn dc, .slice la n lc, .int .i64 o.kind, .bool o.one] 53) := HO1.out.below hb2
  have HX2 : Hid (Blk w2 g #[.string (bs s), .int .i64 (p : Int)] 115) := HX1.out.below hb2
  have HB2 : Hid (Below W.heap.size W w2) := HB1.out.trans (hb2.mono HB1.out.size)
  have kn := need72 s (headT o) HX2.out HPL.out.1 HPL.out.2.2.2 HRL.out.1
  obtain ⟨H, hH⟩ : ∃ H, bs (headT o) = H := ⟨_, rfl⟩
  obtain ⟨TT, hTT⟩ : ∃ H, bs (tailT o) = H := ⟨_, rfl⟩
  have HTT : Hid (bs (tailT o) = TT) := hTT
  rw [hH] at kn
  rw [hH, hTT]
  clear ka x0 x1 x2 x3 x4 hb2 HO1 HX1 HB1 hH hTT
  go_wp2_with fail
  refine kn.mono ?_
  rintro e w3 ⟨hX3, hK3, (⟨_, rfl⟩ | ⟨hlt, _⟩)⟩
  rotate_left 1
  · rw [HLC0.out] at hlt; exact absurd hlt (Nat.lt_irrefl _)
  rw [HLC0.out, HQ.out.1] at hX3
  have HX3 : Hid (Blk w3 g #[.string (bs s), .int .i64 (q0 : Int)] 115) := hX3
  have hGF := HGF.out
  have HO3 : Hid (Blk w3 F #[.string (bs o.nm), .slice da dn dc, .slice la n lc, .int .i64 o.kind, .bool o.one] 53) := ⟨(hK3.block F HO2.out.lt (by omega)).trans HO2.out.h⟩
  have HK3 : Hid (Kept (fun b => b = g) W w3) := (Kept.of_below (X := fun b => b = g) HB2.out).trans hK3 (fun b q => .inl q)
  clear kn hX3 hK3 HO2 HX2 HB2
  have x2 := HO3.out.cell 2
  go_wp2
  go_loopw [5, 21] (fun S i wr => ∃ (k : Nat), k ≤ n ∧ i = .int .i64 (k : Int) ∧ Hid (Gr g F wr (F + 1) S (x.take k)) ∧ Hid (Blk wr g #[.string (bs s), .int .i64 ((q0 + (valsT o.kind (x.take k)).length : Nat) : Int)] 115) ∧ Hid (Kept (fun b => b = g) W wr) ∧ Hid (Blk wr F #[.string (bs o.nm), .slice da dn dc, .slice la n lc, .int .i64 o.kind, .bool o.one] 53)) (fun _ i _ => n - (intOf i).toNat)
  case atStart => exact ⟨0, Nat.zero_le _, rfl, Gr.nil _ _ _ _, HX3, HK3, HO3⟩
  case round =>
    obtain ⟨k, hk, rfl, HG, HX, HKW, HO⟩ := hrel
    have hn2 : n ≤ 2000000 := by rw [← HN.out.1]; exact HZ.out.l
    by_cases hlt : k < n
    · have hlt' : (k : Int) < n := by omega
      obtain ⟨t, ht⟩ : ∃ g, o.l[k]? = some g := ⟨_, List.getElem?_eq_getElem (by rw [HN.out.1]; exact hlt)⟩
      obtain ⟨v, hxv⟩ : ∃ g, x[k]? = some g := ⟨_, List.getElem?_eq_getElem (by rw [HN.out.2]; exact hlt)⟩
      have hbo : Below B0.heap.size B0 wr := HBW.out.1.trans (HKW.out.below HBW.out.1.size (fun b e => by rw [e]; exact HBW.out.2))
      obtain ⟨tb, toff, tsv, rfl, htb, hts, d0, d1, d2, d3⟩ := st_at HL.out ht
      obtain ⟨ta, tc, rfl, _⟩ := id hts
      have y0 := (hbo.cell (p := ⟨tb, toff + k * 4, none⟩) htb).trans d0
      have y1 := (hbo.cell (p := ⟨tb, toff + k * 4 + 1, none⟩) htb).trans d1
      have y2 := (hbo.cell (p := ⟨tb, toff + k * 4 + 2, none⟩) htb).trans d2
      have y3 := (hbo.cell (p := ⟨tb, toff + k * 4 + 3, none⟩) htb).trans d3
      have HTS : Hid (Nm (fun b => b = g) wr (.slice ta t.s.length tc) t.s) := si_nmg hts hbo HBW.out.2
      have HVV : Hid (isVal v.set v.n v.s o.kind = true) := HV.out v (List.mem_of_getElem? hxv)
      have HTC : Hid (t.v = -1 → v.n = t.n ∧ v.s = t.s) := HCON.out k t v ht hxv
      have HTZ : Hid (t.s.length ≤ 17592186043904) := HZ.out.t t (List.mem_of_getElem? ht)
      have HTK : Hid (x.take (k + 1) = x.take k ++ [v]) := by unfold Hid; rw [List.take_add_one, hxv]; rfl
      obtain ⟨R, hR1, hR2⟩ := vals_at (k := o.kind) hxv
      have hvt := vals_take (k := o.kind) hxv
      obtain ⟨q, hq⟩ : ∃ q, q0 + (valsT o.kind (x.take k)).length = q := ⟨_, rfl⟩
      have hdr : s.drop q = (if k = 0 then [] else [44, 32]) ++ (valT o.kind v ++ (R ++ (tailT o ++ r))) := by
        rw [← hq]
        refine drop_app (u := valsT o.kind (x.take k)) ?_
        rw [HS0.out, hR1]
        simp only [List.append_assoc]
      have haft : Aft (R ++ (tailT o ++ r)) := by
        rcases hR2 with rfl | ⟨R', rfl⟩
        · exact aft_tail o r
        · rw [List.append_assoc]; exact aft_sep _
      have hql : q ≤ s.length := by
        rw [← hq]
        refine drop_le HPL.out.2.1 (u := valsT o.kind (x.take k)) (r := (if k = 0 then [] else [44, 32]) ++ (valT o.kind v ++ (R ++ (tailT o ++ r)))) ?_
        rw [HS0.out, hR1]
        simp only [List.append_assoc]
      have HDR : Hid (s.drop q = (if k = 0 then [] else [44, 32]) ++ (valT o.kind v ++ (R ++ (tailT o ++ r))) ∧ q ≤ s.length ∧ Aft (R ++ (tailT o ++ r))) := ⟨hdr, hql, haft⟩
      have HQN : Hid (q0 + (valsT o.kind (x.take (k + 1))).length = q + ((if k = 0 then [] else [44, 32]) : List UInt8).length + (valT o.kind v).length) := by unfold Hid; rw [hvt, List.length_append, List.length_append, ← hq]; omega
      rw [hq] at HX
      have hk1 : IntKind.i64.wrap ((k : Int) + 1) = (k : Int) + 1 := by rw [IntKind.wrap_i64]; omega
      obtain ⟨tn, htn⟩ : ∃ n, t.s.length = n := ⟨_, rfl⟩
      rw [htn] at y3 HTS
      have HTN : Hid (t.s.length = tn) := htn
      obtain ⟨C, hC⟩ : ∃ C, wr.heap.size = C := ⟨_, rfl⟩
      have hb4 : Below wr.heap.size wr (wr.alloc (Obj.cells #[.int .i64 t.v, .bool t.set, .int .i64 t.n, .slice ta tn tc] 67)) := (Below.refl _ _).alloc (Nat.le_refl _) _
      have HC4 : Hid (Blk (wr.alloc (Obj.cells #[.int .i64 t.v, .bool t.set, .int .i64 t.n, .slice ta tn tc] 67)) C #[.int .i64 t.v, .bool t.set, .int .i64 t.n, .slice ta tn tc] 67) := by rw [← hC]; exact Blk.new _ _ _
      obtain ⟨w4, hw4⟩ : ∃ q, wr.alloc (Obj.cells #[.int .i64 t.v, .bool t.set, .int .i64 t.n, .slice ta tn tc] 67) = q := ⟨_, rfl⟩
      rw [hw4] at hb4 HC4
      have hgF := HGF.out
      have HG4 : Hid (Gr g F w4 (F + 1) _ (x.take k)) := HG.out.kept (Kept.of_below hb4) (by omega)
      have HX4 : Hid (Blk w4 g #[.string (bs s), .int .i64 (q : Int)] 115) := HX.out.below hb4
      have HO4 : Hid (Blk w4 F #[.string (bs o.nm), .slice da dn dc, .slice (some ⟨tb, toff, none⟩) n lc, .int .i64 o.kind, .bool o.one] 53) := HO.out.below hb4
      have HK4 : Hid (Kept (fun b => b = g) W w4) := HKW.out.then_below hb4
      have HTS4 : Hid (Nm (fun b => b = g) w4 (.slice ta tn tc) t.s) := HTS.out.kept (Kept.of_below hb4)
      have HW4 : Hid (wr.alloc (Obj.cells #[.int .i64 t.v, .bool t.set, .int .i64 t.n, .slice ta tn tc] 67) = w4 ∧ wr.heap.size = C) := ⟨hw4, hC⟩
      have HFC : Hid (F < C) := by rw [← hC]; exact HO.out.lt
      clear ht hxv hbo hts d0 d1 d2 d3 htb hR1 hR2 hvt hq hdr haft hql htn hC hb4 hw4 hgF HTS HX HO HG HKW
      go_upto_region 7 with (fail)
      rw [HW4.out.1, HW4.out.2]
      clear HW4 y0 y1 y2 y3
      by_cases hk0 : k = 0
      focus
        have hgt : ¬ 0 < k := by omega
        obtain ⟨w5, h5⟩ : ∃ q, q = w4 := ⟨_, rfl⟩
        subst h5
        have HDR5 : Hid (s.drop q = valT o.kind v ++ (R ++ (tailT o ++ r)) ∧ q ≤ s.length) := by have := HDR.out; rw [if_pos hk0, List.nil_append] at this; exact ⟨this.1, this.2.1⟩
        have HQN5 : Hid (q0 + (valsT o.kind (x.take (k + 1))).length = q + (valT o.kind v).length) := by have := HQN.out; rw [if_pos hk0, List.length_nil] at this; exact this
        have HX5 := HX4
        have HO5 := HO4
        have HK5 := HK4
        have HTS5 := HTS4
        have HG5 := HG4
        have HC5 := HC4
        clear HX4 HO4 HK4 HTS4 HG4 HC4 HQN hk0
        go_upto_region 9 with (fail)
      rotate_left 1
      focus
        have hgt : 0 < k := by omega
        obtain ⟨q', hq'⟩ : ∃ q', q + ([44, 32] : List UInt8).length = q' := ⟨_, rfl⟩
        have hdr := HDR.out.1
        rw [if_neg hk0] at hdr
        have HDR5 : Hid (s.drop q' = valT o.kind v ++ (R ++ (tailT o ++ r)) ∧ q' ≤ s.length) := ⟨by rw [← hq']; exact drop_app (u := [44, 32]) hdr, by rw [← hq']; exact drop_le HDR.out.2.1 (u := [44, 32]) hdr⟩
        have HQN5 : Hid (q0 + (valsT o.kind (x.take (k + 1))).length = q' + (valT o.kind v).length) := by have := HQN.out; rw [if_neg hk0, hq'] at this; exact this
        have HLC : Hid (lcp (s.drop q) [44, 32] = ([44, 32] : List UInt8).length) := by unfold Hid; rw [hdr]; exact lcp_app _ _
        have kn : Calls Tryz.prog 72 #[.pointer (some ⟨g, 0, none⟩), .string ⟨#[44, 32]⟩] w4 fun e w' => NeedE s [44, 32] q g w4 e w' := need72 s [44, 32] HX4.out HDR.out.2.1 HPL.out.2.2.2 (by simp)
        have HQ' : Hid (q + ([44, 32] : List UInt8).length = q') := hq'
        clear hdr hq' hk0
        go_wp2_with fail
        refine kn.mono ?_
        rintro e w5 ⟨hX5, hK5, (⟨_, rfl⟩ | ⟨hlt2, _⟩)⟩
        rotate_left 1
        · rw [HLC.out] at hlt2; exact absurd hlt2 (Nat.lt_irrefl _)
        rw [HLC.out, HQ'.out] at hX5
        have hgF := HGF.out
        have hFC := HFC.out
        have HX5 : Hid (Blk w5 g #[.string (bs s), .int .i64 (q' : Int)] 115) := hX5
        have HO5 : Hid (Blk w5 F #[.string (bs o.nm), .slice da dn dc, .slice (some ⟨tb, toff, none⟩) n lc, .int .i64 o.kind, .bool o.one] 53) := ⟨(hK5.block F HO4.out.lt (by omega)).trans HO4.out.h⟩
        have HC5 : Hid (Blk w5 C #[.int .i64 t.v, .bool t.set, .int .i64 t.n, .slice ta tn tc] 67) := ⟨(hK5.block C HC4.out.lt (by omega)).trans HC4.out.h⟩
        have HK5 : Hid (Kept (fun b => b = g) W w5) := HK4.out.trans hK5 (fun b q => .inl q)
        have HTS5 : Hid (Nm (fun b => b = g) w5 (.slice ta tn tc) t.s) := HTS4.out.kept hK5
        have HG5 : Hid (Gr g F w5 (F + 1) u5 (x.take k)) := HG4.out.kept hK5 (by omega)
        clear kn hX5 hK5 hgF hFC HX4 HO4 HK4 HTS4 HG4 HC4 HQN HLC HQ'
        go_upto_region 9 with (fail)
      all_goals
        have z0 := HC5.out.cell 0
        have z1 := HC5.out.cell 1
        have z2 := HC5.out.cell 2
        have z3 := HC5.out.cell 3
        have u3 := HO5.out.cell 3
        have hbo := HBW.out.1.trans (HK5.out.below HBW.out.1.size (fun b e => by rw [e]; exact HBW.out.2))
        have kt := term89 s (R ++ (tailT o ++ r)) v t HX5.out HVV.out HDR5.out.1 HDR.out.2.2 HDR5.out.2 HPL.out.2.2.2 (HT.out.self hbo) (HM.out.self hbo) HTS5.out HTZ.out HTC.out
        clear hbo
        go_wp2_with fail
        refine kt.mono ?_
        rintro e w6 ⟨sv, rfl, hsi, hX6, hK6⟩
        rw [← HQN5.out] at hX6
        obtain ⟨sa, sc, rfl, _⟩ := id hsi
        have hgF := HGF.out
        have hFC := HFC.out
        have HX6 : Hid (Blk w6 g #[.string (bs s), .int .i64 ((q0 + (valsT o.kind (x.take (k + 1))).length : Nat) : Int)] 115) := hX6
        have HO6 : Hid (Blk w6 F #[.string (bs o.nm), .slice da dn dc, .slice (some ⟨tb, toff, none⟩) n lc, .int .i64 o.kind, .bool o.one] 53) := ⟨(hK6.block F HO5.out.lt (by omega)).trans HO5.out.h⟩
        have HK6 : Hid (Kept (fun b => b = g) W w6) := HK5.out.trans hK6 (fun b q => .inl q)
        have HG6 : Hid (Gr g F w6 (F + 1) u5 (x.take k)) := HG5.out.kept hK6 (by omega)
        have HNM6 : Hid (Nm (fun b => (b = g ∨ b < F) ∨ u5.ownBlock = some b) w6 (.slice sa v.s.length sc) v.s) := by
          obtain ⟨a9, c9, e9, h9⟩ := hsi
          refine ⟨a9, c9, e9, fun h0 => ?_⟩
          obtain ⟨b9, o9, f1, f2, f3, f4⟩ := h9 h0
          have hs5 := HO5.out.lt
          refine ⟨b9, o9, f1, f3, fun q => ?_, f4⟩
          rcases q with (q | q) | q
          · omega
          · omega
          · obtain ⟨vs9, h1, _⟩ := HG5.out.o
            have := h1.lt q
            omega
        obtain ⟨m, hm⟩ : ∃ m, v.s.length = m := ⟨_, rfl⟩
        rw [hm] at HNM6 ⊢
        obtain ⟨vb, hvb⟩ : ∃ q, v.set = q := ⟨_, rfl⟩
        obtain ⟨vn, hvn⟩ : ∃ q, v.n = q := ⟨_, rfl⟩
        have HVE : Hid (v.set = vb ∧ v.n = vn) := ⟨hvb, hvn⟩
        rw [hvb, hvn]
        have hb7 : Below w6.heap.size w6 (w6.alloc (Obj.cells #[.bool vb, .int .i64 vn, .slice sa m sc] 36)) := (Below.refl _ _).alloc (Nat.le_refl _) _
        have HRW : Hid (Blk (w6.alloc (Obj.cells #[.bool vb, .int .i64 vn, .slice sa m sc] 36)) w6.heap.size #[.bool vb, .int .i64 vn, .slice sa m sc] 36) := Blk.new _ _ _
        have HX7 : Hid (Blk (w6.alloc (Obj.cells #[.bool vb, .int .i64 vn, .slice sa m sc] 36)) g #[.string (bs s), .int .i64 ((q0 + (valsT o.kind (x.take (k + 1))).length : Nat) : Int)] 115) := HX6.out.below hb7
        have HO7 : Hid (Blk (w6.alloc (Obj.cells #[.bool vb, .int .i64 vn, .slice sa m sc] 36)) F #[.string (bs o.nm), .slice da dn dc, .slice (some ⟨tb, toff, none⟩) n lc, .int .i64 o.kind, .bool o.one] 53) := HO6.out.below hb7
        have HK7 : Hid (Kept (fun b => b = g) W (w6.alloc (Obj.cells #[.bool vb, .int .i64 vn, .slice sa m sc] 36))) := HK6.out.then_below hb7
        have HG7 : Hid (Gr g F (w6.alloc (Obj.cells #[.bool vb, .int .i64 vn, .slice sa m sc] 36)) (F + 1) u5 (x.take k)) := HG6.out.kept (Kept.of_below hb7) (by omega)
        have HNM7 : Hid (Nm (fun b => (b = g ∨ b < F) ∨ u5.ownBlock = some b) (w6.alloc (Obj.cells #[.bool vb, .int .i64 vn, .slice sa m sc] 36)) (.slice sa m sc) v.s) := HNM6.out.kept (Kept.of_below hb7)
        obtain ⟨vs9, hr9, hl9, hd9⟩ := HG7.out.o
        have HR9 : Hid (Ow (w6.alloc (Obj.cells #[.bool vb, .int .i64 vn, .slice sa m sc] 36)) 36 u5 3 vs9) := hr9
        have HL9 : Hid (vs9.length = (x.take k).length) := hl9
        have HD9 : Hid (∀ (i : Nat) (v : Vl) (c : List Value), (x.take k)[i]? = some v → vs9[i]? = some c → ∃ sv, c = [.bool v.set, .int .i64 v.n, sv] ∧ Nm (fun b => (b = g ∨ b < F) ∨ u5.ownBlock = some b) (w6.alloc (Obj.cells #[.bool vb, .int .i64 vn, .slice sa m sc] 36)) sv v.s) := hd9
        have hlv : vs9.length ≤ 100000000 := by rw [hl9, List.length_take]; omega
        have HSZ : Hid (F + 1 ≤ (w6.alloc (Obj.cells #[.bool vb, .int .i64 vn, .slice sa m sc] 36)).heap.size) := by have := HO7.out.lt; unfold Hid; omega
        clear kt hsi hX6 hK6 hgF hFC hm hvb hvn hb7 hr9 hl9 hd9 z0 z1 z2 z3 u3 HX5 HO5 HK5 HG5 HC5 HTS5 HX6 HO6 HK6 HG6 HNM6
        go_wp2_with (at_builtin; refine list_app HR9.out 23 Tryz.underlying23 Tryz.info36 rfl (by decide) rfl (.tmp 30) (.tmp 36) rfl rfl ⟨w6.heap.size, 0, none⟩ 1 rfl [.bool vb, .int .i64 vn, .slice sa m sc] rfl (fun j u hu => by rw [Addr.add_lit, Nat.zero_add, HRW.out.cell j]; simpa using hu) (by intro u hu; simp at hu; rcases hu with rfl | rfl | rfl <;> rfl) hlv (by decide) ?_; intro d1 w8 hr1 hg1 hn1; refine Hid.out ?_)
        refine (show Hid _ from ?_)
        unfold Hid
        have hgF := HGF.out
        have hown : ∀ b, u5.ownBlock = some b → F + 1 ≤ b := HG7.out.b
        have HG8 : Hid (Gr g F w8 (F + 1) d1 (x.take (k + 1))) := by
          unfold Hid
          rw [HTK.out]
          refine HG7.out.snoc (sv := .slice sa m sc) (by omega) HSZ.out HNM7.out HL9.out HD9.out ?_ hg1 hn1
          rw [HVE.out.1, HVE.out.2]
          exact hr1
        have HX8 : Hid (Blk w8 g #[.string (bs s), .int .i64 ((q0 + (valsT o.kind (x.take (k + 1))).length : Nat) : Int)] 115) := ⟨(hg1.block g HX7.out.lt (fun e => by have := hown g e.symm; omega)).trans HX7.out.h⟩
        have HO8 : Hid (Blk w8 F #[.string (bs o.nm), .slice da dn dc, .slice (some ⟨tb, toff, none⟩) n lc, .int .i64 o.kind, .bool o.one] 53) := ⟨(hg1.block F HO7.out.lt (fun e => by have := hown F e.symm; omega)).trans HO7.out.h⟩
        have HK8 : Hid (Kept (fun b => b = g) W w8) := by
          have k7 := HK7.out
          have hF := HF.out
          exact ⟨hg1.os.trans k7.os, hg1.tape.trans k7.tape, hg1.output.trans k7.output, Nat.le_trans k7.size hg1.size, fun b hb hne => (hg1.block b (Nat.lt_of_lt_of_le hb k7.size) (fun e => by have := hown b e.symm; omega)).trans (k7.block b hb hne)⟩
        obtain ⟨vs8, h8, _⟩ := HG8.out.o
        obtain ⟨ea, ec, rfl, _, _⟩ := h8.shape
        clear HRW HX7 HO7 HK7 HG7 HNM7 HR9 HL9 HD9 hr1 hg1 hn1 hgF hown HSZ hlv
        go_wp2
        go_roundw
        case rel => exact ⟨k + 1, by omega, by go_num, HG8, HX8, HK8, HO8⟩
        case measure => simp [intOf]; omega
    · have hkn : k = n := by omega
      have htk : x.take k = x := by rw [hkn, ← HN.out.2]; exact List.take_length
      have hlt' : ¬ (k : Int) < (n : Int) := by omega
      rw [htk, HQ.out.2.1] at HX
      rw [htk] at HG
      have kn := need72 s (tailT o) HX.out HPL.out.2.2.1 HPL.out.2.2.2 HRL.out.2
      rw [HTT.out] at kn
      clear htk
      go_wp2_with fail
      refine kn.mono ?_
      rintro e w5 ⟨hX5, hK5, (⟨_, rfl⟩ | ⟨hlt2, _⟩)⟩
      rotate_left 1
      · rw [HLC1.out] at hlt2; exact absurd hlt2 (Nat.lt_irrefl _)
      rw [HLC1.out, HQ.out.2.2] at hX5
      have hgF := HGF.out
      have hF := HF.out
      have HG5 : Hid (Gr g F w5 (F + 1) u5 x) := HG.out.kept hK5 (by omega)
      have HX5 : Hid (Blk w5 g #[.string (bs s), .int .i64 (q2 : Int)] 115) := hX5
      have HK5 : Hid (Kept (fun b => b = g) W w5) := HKW.out.trans hK5 (fun b q => .inl q)
      have HSV : Hid (SvX (fun b => b < F) w5 u5 x) := (HG5.out.done (by omega) (by omega)).mono (fun b q => .inr q)
      obtain ⟨ea, ec, rfl, _⟩ := id HSV.out
      clear kn hX5 hK5 hgF hF HG5 HG HX HKW HO
      go_wp2
      go_ret
      exact ⟨_, rfl, by rw [HF.out]; exact HSV.out, HX5.out, HK5.out⟩
end Go.Proofs.YtdnhhmnllhlbbaaGreatDoor
