/-
  What is proved here: Block of package out: a solution as text.
-/
import Derived.Test.YtdnhhmnllhlbbaaGreatDoorOq
import Derived.Test.YtdnhhmnllhlbbaaGreatDoorOi
namespace Go.Proofs.YtdnhhmnllhlbbaaGreatDoor
open Go.RowKit Go.Shelf
set_option linter.unusedVariables false
set_option linter.unusedSimpArgs false

/-- Outputs as text. -/
def outT (o : Ou) (x : List Vl) : List UInt8 := headT o ++ valsT o.kind x ++ tailT o
def outsT : List Ou → List (List Vl) → List UInt8
  | o :: r, x :: y => outT o x ++ outsT r y
  | _, _ => []
def dashT : List UInt8 := [45, 45, 45, 45, 45, 45, 45, 45, 45, 45, 10]
def blockT (l : List Ou) (xs : List (List Vl)) : List UInt8 := outsT l xs ++ dashT
theorem outsT_snoc : ∀ {l : List Ou} {xs : List (List Vl)} (o : Ou) (x : List Vl), l.length = xs.length → outsT (l ++ [o]) (xs ++ [x]) = outsT l xs ++ outT o x
  | [], [], o, x, _ => by simp [outsT]
  | a :: l, b :: xs, o, x, h => by
    show outT a b ++ outsT (l ++ [o]) (xs ++ [x]) = outT a b ++ outsT l xs ++ outT o x
    rw [outsT_snoc o x (by simpa using h), List.append_assoc]
theorem outsT_take {l : List Ou} {xs : List (List Vl)} {k : Nat} {o : Ou} {x : List Vl} (ho : l[k]? = some o) (hx : xs[k]? = some x) : outsT (l.take (k + 1)) (xs.take (k + 1)) = outsT (l.take k) (xs.take k) ++ outT o x := by
  have h1 := (List.getElem?_eq_some_iff.1 ho).1
  have h2 := (List.getElem?_eq_some_iff.1 hx).1
  rw [List.take_add_one, List.take_add_one, ho, hx, Option.toList_some, Option.toList_some, outsT_snoc]
  rw [List.length_take, List.length_take]; omega
theorem ousV_get {vals : List Vl} : ∀ {l : List Ou} {xs : List (List Vl)} {k : Nat} {o : Ou}, ousV l vals = some xs → l[k]? = some o → ∃ x, xs[k]? = some x ∧ ouV o vals = some x
  | [], xs, k, o, _, h => by simp at h
  | a :: r, xs, k, o, h, ho => by
    unfold ousV at h
    cases e1 : ouV a vals with
    | none => rw [e1] at h; cases h
    | some x =>
      cases e2 : ousV r vals with
      | none => rw [e1, e2] at h; cases h
      | some y =>
        rw [e1, e2] at h
        injection h with h
        subst h
        cases k with
        | zero => simp at ho; subst ho; exact ⟨x, rfl, e1⟩
        | succ k => obtain ⟨z, h1, h2⟩ := ousV_get e2 (by simpa using ho : r[k]? = some o); exact ⟨z, by simpa using h1, h2⟩
theorem ouV_facts {o : Ou} {vals : List Vl} {x : List Vl} (h : ouV o vals = some x) : x.length = o.l.length ∧ ∀ v ∈ x, isVal v.set v.n v.s o.kind = true := by
  unfold ouV at h
  split at h
  · rename_i ha
    injection h with h
    subst h
    refine ⟨by simp, fun v hv => ?_⟩
    obtain ⟨t, ht, rfl⟩ := List.mem_map.1 hv
    have := List.all_eq_true.1 ha t ht
    simp only [Bool.and_eq_true] at this
    exact this.2
  · cases h
theorem dims_ok {o : Ou} (h : shB o = true) : o.dims.length ≤ 16 ∧ ∀ r ∈ o.dims, -1000000000 ≤ r.1 ∧ r.1 ≤ 1000000000 ∧ -1000000000 ≤ r.2 ∧ r.2 ≤ 1000000000 := by
  unfold shB at h
  cases ho : o.one with
  | true =>
    rw [ho] at h
    simp at h
    rw [h.2]
    simp
  | false =>
    rw [ho] at h
    simp only [Bool.false_eq_true, if_false, Bool.and_eq_true, decide_eq_true_eq, Bool.not_eq_true', anyB, List.any_eq_false, List.mem_range] at h
    refine ⟨h.2.1, fun r hr => ?_⟩
    obtain ⟨i, hi, e⟩ := List.getElem_of_mem hr
    have := h.2.2.1 i hi
    rw [List.getElem?_eq_getElem hi, e] at this
    simp [bndB] at this
    omega
theorem valsT_len {k : Int} {x : List Vl} (h : ∀ v ∈ x, isVal v.set v.n v.s k = true) : (valsT k x).length ≤ 1502 * x.length := by
  have := sepT_len [44, 32] 1502 (x.map (valT k)) (fun p hp => by
    obtain ⟨y, hy, rfl⟩ := List.mem_map.1 hp
    have := valT_len (h y hy)
    simp only [List.length_cons, List.length_nil]; omega)
  rwa [List.length_map] at this
theorem dimsT_len {l : List (Int × Int)} (h : ∀ r ∈ l, -1000000000 ≤ r.1 ∧ r.1 ≤ 1000000000 ∧ -1000000000 ≤ r.2 ∧ r.2 ≤ 1000000000) : (dimsT l).length ≤ 50 * l.length := by
  induction l with
  | nil => simp [dimsT]
  | cons r t ih =>
    have h1 := h r (List.mem_cons_self ..)
    have h2 := ih (fun x hx => h x (List.mem_cons_of_mem _ hx))
    have a := Lib.itoa_length_le r.1 (by omega) (by omega)
    have b := Lib.itoa_length_le r.2 (by omega) (by omega)
    unfold dimsT at h2 ⊢
    rw [List.map_cons, List.flatten_cons, List.length_append]
    unfold spanT at h2 ⊢
    simp only [List.length_append, List.length_cons, List.length_nil] at h2 ⊢
    omega
theorem round_len {o : Ou} (hn : o.nm.length ≤ 10000000000) (h : shB o = true) : (headT o).length ≤ 10000001000 ∧ (tailT o).length ≤ 4 := by
  obtain ⟨h1, h2⟩ := dims_ok h
  have h3 := dimsT_len h2
  have h4 := Lib.itoa_length_le (o.dims.length : Int) (by omega) (by omega)
  unfold headT tailT
  constructor
  · split <;> simp only [List.length_append, List.length_cons, List.length_nil] <;> omega
  · split <;> simp
/-- What Block answers. -/
def BlkE (l : List Ou) (vals : List Vl) (e : Ending) : Prop := ∃ T er, e = .returned (.tuple #[.string (bs T), .int .i64 er]) ∧ ((RightN l ≠ 0 ∧ er = RightN l ∧ T = []) ∨ (RightN l = 0 ∧ ousV l vals = none ∧ er = 1 ∧ T = []) ∨ (RightN l = 0 ∧ ∃ xs, ousV l vals = some xs ∧ er = 0 ∧ T = blockT l xs))

set_option maxRecDepth 100000 in
set_option maxHeartbeats 4000000 in
theorem block8 {W : World} {s vs : Value} {l : List Ou} {vals : List Vl} (h : Sou W s l) (hn : l.length ≤ 1000000000) (hz : ∀ o ∈ l, OuZ o) (hnm : ∀ o ∈ l, o.nm.length ≤ 10000000000) (hv : Sv W vs vals) (hL : ∀ v ∈ vals, v.s.length ≤ 17592186043904) (hvn : vals.length ≤ 17592186043904) (hT : Tens W) :
    Calls Tryz.prog 8 #[s, vs] W fun e w' => BlkE l vals e ∧ Below W.heap.size W w' := by
  have kv := values10 h hn hz hv hL hvn
  obtain ⟨a, c, rfl, h'⟩ := h
  obtain ⟨va, vc, rfl, _⟩ := hv
  have HA : Hid (Sou W (.slice a l.length c) l) := ⟨_, _, rfl, h'⟩
  have HZ : Hid (∀ o ∈ l, OuZ o) := hz
  have HNM : Hid (∀ o ∈ l, o.nm.length ≤ 10000000000) := hnm
  have HT : Hid (Tens W) := hT
  obtain ⟨n, hnn⟩ : ∃ n, l.length = n := ⟨_, rfl⟩
  have HN : Hid (l.length = n) := hnn
  rw [hnn] at HA kv hn ⊢
  clear h' hL hvn hz hnn hT hnm
  go_enter Tryz.func8, Tryz.ntmps8
  go_wp2_with fail
  refine kv.mono ?_
  rintro e w1 ⟨⟨sv, er, rfl, hE⟩, hb1⟩
  have HB1 : Hid (Below W.heap.size W w1) := hb1
  clear kv hb1
  rcases hE with ⟨h1, h2, h3⟩ | ⟨h1, h2, h3, h4⟩ | ⟨h1, xs, h2, h3, h4⟩
  · subst h3
    have h9 : (er == 0) = false := by rw [h2]; simpa using h1
    have HE : Hid (BlkE l vals (.returned (.tuple #[.string (bs []), .int .i64 er]))) := ⟨_, _, rfl, .inl ⟨h1, h2, rfl⟩⟩
    clear h1 h2
    go_wp2
    go_ret2
    exact ⟨HE.out, HB1.out⟩
  · subst h3 h4
    have HE : Hid (BlkE l vals (.returned (.tuple #[.string (bs []), .int .i64 1]))) := ⟨_, _, rfl, .inr (.inl ⟨h1, h2, rfl, rfl⟩)⟩
    clear h1 h2
    go_wp2
    go_ret2
    exact ⟨HE.out, HB1.out⟩
  · subst h3
    have HE : Hid (BlkE l vals (.returned (.tuple #[.string (bs (blockT l xs)), .int .i64 0]))) := ⟨_, _, rfl, .inr (.inr ⟨h1, xs, h2, rfl, rfl⟩)⟩
    have HXS : Hid (ousV l vals = some xs) := h2
    have HR : Hid (l.length ≤ 1000 ∧ ∀ o ∈ l, wrB o = false) := right_ok h1
    have hn1 : n ≤ 1000 := by have := HR.out.1; rw [HN.out] at this; exact this
    have HXN : Hid (xs.length = n) := by have := ousV_len h2; rw [HN.out] at this; exact this
    obtain ⟨xa, xc, rfl, h5⟩ := h4
    have HSV : Hid (0 < xs.length → ∃ b off, xa = some ⟨b, off, none⟩ ∧ b < w1.heap.size ∧ ¬ (b < W.heap.size) ∧ ∀ i l, xs[i]? = some l → ∃ sv, SvX (fun b => b < W.heap.size) w1 sv l ∧ w1.cell? ⟨b, off + i, none⟩ = some sv) := h5
    rw [HXN.out] at HSV ⊢
    clear h1 h2 h5
    go_wp2
    go_loopw [8, 24] (fun o' i wr => ∃ (k : Nat), k ≤ n ∧ i = .int .i64 (k : Int) ∧ Hid (By wr w1.heap.size o' (outsT (l.take k) (xs.take k))) ∧ Hid (Below w1.heap.size w1 wr) ∧ Hid ((outsT (l.take k) (xs.take k)).length ≤ 14000000000 * k)) (fun _ i _ => n - (intOf i).toNat)
    case atStart => exact ⟨0, Nat.zero_le _, rfl, .inl (World.ownsRow_nil _ _ _ _), Below.refl _ _, by unfold Hid; simp [outsT]⟩
    case round =>
      obtain ⟨k, hk, rfl, HY, HB, HLK⟩ := hrel
      by_cases hlt : k < n
      · have hlt' : (k : Int) < n := by omega
        obtain ⟨o, ho⟩ : ∃ g, l[k]? = some g := ⟨_, List.getElem?_eq_getElem (by rw [HN.out]; exact hlt)⟩
        have hol := List.mem_of_getElem? ho
        obtain ⟨x, hx, hov⟩ := ousV_get HXS.out ho
        obtain ⟨hxl, hxv⟩ := ouV_facts hov
        have hsh := (wr_ok (HR.out.2 o hol)).2.2.1
        obtain ⟨hd1, hd2⟩ := dims_ok hsh
        obtain ⟨r1, r2⟩ := round_len (HNM.out o hol) hsh
        have r3 := valsT_len hxv
        have r4 := (HZ.out o hol).l
        have HTK : Hid (outsT (l.take (k + 1)) (xs.take (k + 1)) = outsT (l.take k) (xs.take k) ++ (headT o ++ valsT o.kind x ++ tailT o)) := outsT_take ho hx
        obtain ⟨b, off, dv, lv, rfl, hb, hdv, hlv, d0, d1, d2, d3, d4⟩ := HA.out.at ho
        have hbo : Below W.heap.size W wr := HB1.out.trans (HB.out.mono HB1.out.size)
        have HDV := hdv
        obtain ⟨da, dc, rfl, _⟩ := id hdv
        obtain ⟨la, lc, rfl, _⟩ := id hlv
        obtain ⟨vb, voff, exa, hvb, _, hcl⟩ := HSV.out (by omega)
        subst exa
        obtain ⟨sv, hsx, hc⟩ := hcl k x hx
        obtain ⟨sa, sc, rfl, _⟩ := id hsx
        have HSX : Hid (SvX (fun b => b < W.heap.size) w1 (.slice sa x.length sc) x) := hsx
        have HYV : Hid (wr.cell? ⟨vb, voff + k, none⟩ = some (.slice sa x.length sc)) := (HB.out.cell (p := ⟨vb, voff + k, none⟩) hvb).trans hc
        have HVB : Hid (vb < w1.heap.size) := hvb
        have HC1 : Hid (w1.cell? ⟨vb, voff + k, none⟩ = some (.slice sa x.length sc)) := hc
        have HRD : Hid (Rgs W (.slice da o.dims.length dc) o.dims ∧ ∀ r ∈ o.dims, -1000000000 ≤ r.1 ∧ r.1 ≤ 1000000000 ∧ -1000000000 ≤ r.2 ∧ r.2 ≤ 1000000000) := ⟨HDV, hd2⟩
        have HXV : Hid (x.length ≤ 2000000 ∧ ∀ v ∈ x, isVal v.set v.n v.s o.kind = true) := ⟨by omega, hxv⟩
        have HNO : Hid (o.nm.length ≤ 10000000000) := HNM.out o hol
        have lk := HLK.out
        obtain ⟨D, hD⟩ : ∃ D, outsT (l.take k) (xs.take k) = D := ⟨_, rfl⟩
        rw [hD] at HY HTK lk
        have HL1 : Hid (D.length + (headT o).length ≤ 100000000000000) := by unfold Hid; omega
        have HL2 : Hid ((D ++ headT o).length + (valsT o.kind x).length ≤ 100000000000000) := by unfold Hid; rw [List.length_append]; omega
        have HL3 : Hid ((D ++ headT o ++ valsT o.kind x).length + (tailT o).length ≤ 100000000000000) := by unfold Hid; simp only [List.length_append]; omega
        have HLN : Hid ((outsT (l.take (k + 1)) (xs.take (k + 1))).length ≤ 14000000000 * (k + 1)) := by unfold Hid; rw [HTK.out]; simp only [List.length_append]; omega
        have hwk : IntKind.i64.wrap ((k : Int) + 1) = (k : Int) + 1 := by rw [IntKind.wrap_i64]; omega
        obtain ⟨dn, hdn⟩ : ∃ q, o.dims.length = q := ⟨_, rfl⟩
        obtain ⟨m, hm⟩ : ∃ q, o.l.length = q := ⟨_, rfl⟩
        obtain ⟨xn, hxn⟩ : ∃ q, x.length = q := ⟨_, rfl⟩
        rw [hdn] at d1 HRD
        rw [hm] at d2
        rw [hxn] at HSX HYV HC1
        have HDN : Hid (o.dims.length = dn ∧ x.length = xn ∧ dn ≤ 16) := ⟨hdn, hxn, by omega⟩
        have y0 := (hbo.cell (p := ⟨b, off + k * 5, none⟩) hb).trans d0
        have y1 := (hbo.cell (p := ⟨b, off + k * 5 + 1, none⟩) hb).trans d1
        have y2 := (hbo.cell (p := ⟨b, off + k * 5 + 2, none⟩) hb).trans d2
        have y3 := (hbo.cell (p := ⟨b, off + k * 5 + 3, none⟩) hb).trans d3
        have y4 := (hbo.cell (p := ⟨b, off + k * 5 + 4, none⟩) hb).trans d4
        clear hD ho hx hov hxl hxv hsh hd1 hd2 r1 r2 r3 r4 hdv HDV hlv hcl hsx hc hvb d0 d1 d2 d3 d4 hb hol lk HLK hdn hm hxn hbo
        go_upto_region 8 with (fail)
        clear y0 y1 y2 y3 y4
        obtain ⟨xb, hxb⟩ : ∃ q, wr.heap.size = q := ⟨_, rfl⟩
        obtain ⟨w2, hw2⟩ : ∃ q, wr.alloc (Obj.cells #[.string (bs o.nm), .slice da dn dc, .slice la m lc, .int .i64 o.kind, .bool o.one] 53) = q := ⟨_, rfl⟩
        have hb2 : Below wr.heap.size wr w2 := by rw [← hw2]; exact (Below.refl _ _).alloc (Nat.le_refl _) _
        have HX2 : Hid (Blk w2 xb #[.string (bs o.nm), .slice da dn dc, .slice la m lc, .int .i64 o.kind, .bool o.one] 53) := by rw [← hw2, ← hxb]; exact Blk.new _ _ _
        have HB2 : Hid (Below w1.heap.size w1 w2) := HB.out.trans (hb2.mono HB.out.size)
        have HY2 : Hid _ := By.below HY.out hb2
        rw [hw2, hxb]
        clear hw2 hxb hb2 HY HB HYV
        have x0 := HX2.out.cell 0
        have x1 := HX2.out.cell 1
        have x2 := HX2.out.cell 2
        have x3 := HX2.out.cell 3
        have x4 := HX2.out.cell 4
        have ka := around25 (W := w2) (dv := .slice da dn dc) (lv := .slice la m lc) o (HRD.out.1.below (HB1.out.trans (HB2.out.mono HB1.out.size))) ⟨_, _, _, rfl⟩ HNO.out (by rw [HDN.out.1]; have := HDN.out.2.2; omega) HRD.out.2 (HT.out.self (HB1.out.trans (HB2.out.mono HB1.out.size)))
        go_wp2_with fail
        refine ka.mono ?_
        rintro e w3 ⟨rfl, hb3⟩
        clear ka x0 x1 x2 x3 x4
        have HB3 : Hid (Below w1.heap.size w1 w3) := HB2.out.trans (hb3.mono HB2.out.size)
        have HX3 : Hid (Blk w3 xb #[.string (bs o.nm), .slice da dn dc, .slice la m lc, .int .i64 o.kind, .bool o.one] 53) := HX2.out.below hb3
        have HY3 : Hid _ := By.below HY2.out hb3
        clear hb3 HB2 HX2 HY2
        go_wp2_with (at_builtin; refine wpList_app_by rfl (.tmp 34) (.tmp 35) rfl w1.heap.size _ D (headT o) rfl HY3.out rfl HL1.out HB3.out.size ?_; intro v4 w4 hown4 hb4 hf4; refine Hid.out ?_)
        refine (show Hid _ from ?_)
        unfold Hid
        have HB4 : Hid (Below w1.heap.size w1 w4) := HB3.out.trans hb4
        have HX4 : Hid (Blk w4 xb #[.string (bs o.nm), .slice da dn dc, .slice la m lc, .int .i64 o.kind, .bool o.one] 53) := hf4.blk HX3.out (by decide) (by decide)
        have HY4 : Hid (By w4 w1.heap.size v4 (D ++ headT o)) := hown4
        clear hown4 hb4 hf4 HB3 HX3 HY3
        go_upto_region 10 with (fail)
        have HB5 : Hid (Below w1.heap.size w1 w4.drew) := HB4.out.drew
        have HX5 : Hid (Blk w4.drew xb #[.string (bs o.nm), .slice da dn dc, .slice la m lc, .int .i64 o.kind, .bool o.one] 53) := HX4.out.below ((Below.refl _ _).drew)
        have HY5 : Hid (By w4.drew w1.heap.size v4 (D ++ headT o)) := By.below HY4.out ((Below.refl _ _).drew)
        refine wp_region_held_drew (S := fun X : World => Blk X xb #[.string (bs o.nm), .slice da dn dc, .slice la m lc, .int .i64 o.kind, .bool o.one] 53 ∧ X.cell? ⟨vb, voff + k, none⟩ = some (.slice sa xn sc)) (by kernel_rfl) (⟨HX5.out, (HB5.out.cell (p := ⟨vb, voff + k, none⟩) HVB.out).trans HC1.out⟩) (fun hHeld => ?_)
        refine tkI 0 rfl hHeld ?_
        try simp only [Act.put, zS, eZ, eS]
        refine tkI 1 rfl hHeld ?_
        try simp only [Act.put, zS, eZ, eS]
        refine tkI 2 rfl hHeld ?_ (hy := by intro w hSw; have x3 := hSw.1.cell 3; go_simp <;> with_reducible rfl)
        try simp only [Act.put, zS, eZ, eS]
        refine tkI 3 rfl hHeld ?_
        try simp only [Act.put, zS, eZ, eS]
        refine tkI 4 rfl hHeld ?_
        try simp only [Act.put, zS, eZ, eS]
        refine tkI 5 rfl hHeld ?_ (hy := by intro w hSw; have c1 : (0:Int) ≤ (k:Int) := (by omega); have c2 : (k:Int) < n := (by omega); go_simp <;> with_reducible rfl)
        try simp only [Act.put, zS, eZ, eS]
        refine tkI 6 rfl hHeld ?_ (hy := by intro w hSw; have x6 := hSw.2; go_simp <;> with_reducible rfl)
        try simp only [Act.put, zS, eZ, eS]
        refine rdy 7 rfl fun K hK => ?_
        go_simp
        refine (texts26 (X := fun b => b < W.heap.size) (l := x) (SvX.kept HSX.out (Kept.of_below HB5.out)) HXV.out.1 HXV.out.2 (HT.out.self (HB1.out.trans (HB5.out.mono HB1.out.size)))).mono ?_
        rintro e w6 ⟨rfl, hb6⟩
        have HB6 : Hid (Below w1.heap.size w1 w6) := HB5.out.trans (hb6.mono HB5.out.size)
        have HX6 : Hid (Blk w6 xb #[.string (bs o.nm), .slice da dn dc, .slice la m lc, .int .i64 o.kind, .bool o.one] 53) := HX5.out.below hb6
        have HY6 : Hid _ := By.below HY5.out hb6
        clear hb6
        clear hHeld; refine hK.out _ _ (⟨HX6.out, (HB6.out.cell (p := ⟨vb, voff + k, none⟩) HVB.out).trans HC1.out⟩) fun hHeld => ?_
        clear hK K
        try simp only [Act.put, zS, eZ, eS]
        refine rdy 8 rfl fun K hK => ?_
        refine step_by rfl (.tmp 37) (.tmp 44) rfl w1.heap.size _ (D ++ headT o) (valsT o.kind x) rfl HY6.out rfl HL2.out HB6.out.size ?_
        intro v7 w7 hown7 hb7 hf7
        have HB7 : Hid (Below w1.heap.size w1 w7) := HB6.out.trans hb7
        have HX7 : Hid (Blk w7 xb #[.string (bs o.nm), .slice da dn dc, .slice la m lc, .int .i64 o.kind, .bool o.one] 53) := hf7.blk HX6.out (by decide) (by decide)
        have HY7 : Hid (By w7 w1.heap.size v7 (D ++ headT o ++ valsT o.kind x)) := hown7
        clear hown7 hb7 hf7
        clear hHeld; refine hK.out _ _ (⟨HX7.out, (HB7.out.cell (p := ⟨vb, voff + k, none⟩) HVB.out).trans HC1.out⟩) fun hHeld => ?_
        clear hK K
        try simp only [Act.put, zS, eZ, eS]
        refine tkI 9 rfl hHeld ?_
        try simp only [Act.put, zS, eZ, eS]
        refine wpAnyH_done (by kernel_rfl) ?_ _
        clear HB4 HX4 HY4 HB5 HX5 HY5 HB6 HX6 HY6
        go_wp2_with (at_builtin; refine wpList_app_by rfl (.tmp 46) (.tmp 47) rfl w1.heap.size _ (D ++ headT o ++ valsT o.kind x) (tailT o) rfl HY7.out rfl HL3.out HB7.out.size ?_; intro v8 w8 hown8 hb8 _; refine Hid.out ?_)
        refine (show Hid _ from ?_)
        unfold Hid
        have HB8 : Hid (Below w1.heap.size w1 w8) := HB7.out.trans hb8
        have HY8 : Hid (By w8 w1.heap.size v8 (outsT (l.take (k + 1)) (xs.take (k + 1)))) := by unfold Hid; rw [HTK.out, ← List.append_assoc, ← List.append_assoc]; exact hown8
        clear hown8 hb8 HY7 HB7 HX7
        go_wp2
        go_roundw
        case rel => exact ⟨k + 1, by omega, by go_num, HY8, HB8, HLN⟩
        case measure => simp [intOf]; omega
      · have hk9 : n = k := by omega
        have hlt' : ¬ (k : Int) < (n : Int) := by omega
        have t1 : l.take k = l := by rw [← hk9, ← HN.out]; exact List.take_length
        have t2 : xs.take k = xs := by rw [← hk9, ← HXN.out]; exact List.take_length
        rw [t1, t2] at HY HLK
        have lk := HLK.out
        obtain ⟨D, hD⟩ : ∃ D, outsT l xs = D := ⟨_, rfl⟩
        rw [hD] at HY lk
        have HBT : Hid (blockT l xs = D ++ dashT) := by unfold Hid blockT; rw [hD]
        have hq : D.length ≤ 14000000000000 := by omega
        have HL1 : Hid (D.length + dashT.length ≤ 100000000000000) := by unfold Hid; simp only [dashT, List.length_cons, List.length_nil]; omega
        clear t1 t2 hD HLK lk hk
        go_wp2_with (at_builtin; refine wpList_app_by rfl (.tmp 50) (.const (.string ⟨#[45, 45, 45, 45, 45, 45, 45, 45, 45, 45, 10]⟩)) rfl w1.heap.size _ D dashT rfl HY.out rfl HL1.out HB.out.size ?_; intro v8 w8 hown8 hb8 _; refine Hid.out ?_)
        refine (show Hid _ from ?_)
        unfold Hid
        have HB8 : Hid (Below W.heap.size W w8) := HB1.out.trans ((HB.out.trans hb8).mono HB1.out.size)
        obtain ⟨p, c9, rfl, hcv⟩ := conv_by hown8 (by simp [dashT])
        have HCV := hcv w8 (Below.refl _ _)
        have hqm : (D ++ dashT).length ≤ 100000000000000 := by rw [List.length_append]; exact HL1.out
        obtain ⟨q, hqe⟩ : ∃ m, (D ++ dashT).length = m := ⟨_, rfl⟩
        rw [hqe] at HCV hqm ⊢
        clear hown8 hb8 hcv hqe HY HB hq
        go_wp2_with fail
        go_ret2
        exact ⟨by rw [← HBT.out]; exact HE.out, HB8.out⟩
end Go.Proofs.YtdnhhmnllhlbbaaGreatDoor
