/-
  What is proved here: the walk of ConsRights.
-/
import Derived.Test.YtpgecdhieakilaaGreatDoorKap
import Derived.Test.YtpgecdhieakilaaGreatDoorKalj
import Derived.Test.YtpgecdhieakilaaGreatDoorKak
import Derived.Test.YtpgecdhieakilaaGreatDoorKab
import Derived.Test.YtpgecdhieakilaaGreatDoorJbj
namespace Go.Proofs.YtpgecdhieakilaaGreatDoor
open Go.RowKit Go.Shelf
set_option linter.unusedVariables false
set_option linter.unusedSimpArgs false

theorem run_app0_33 (w : World) (ty : TypeId) (a : Option Addr) (c' : Nat) : (Builtin.append_ #[33, 33] ty #[.slice none 0 0, .slice a 0 c']).run Tryz.prog w = .ok (.slice none 0 0) w := by
  obtain ⟨i0, hi0, hz0, hz1, hz2⟩ := info_parts Tryz.info4
  have hf : (Builtin.firstCells i0.size 0 (.slice a 0 c')).run Tryz.prog w = .ok #[] w := by cases a <;> simp [Builtin.firstCells, loadCells, loadCellsFrom]
  simp [Builtin.append_, run_underlying Tryz.underlying33, sizeOf, typeInfo, hi0, Builtin.lenOf, hf, storeCells]
theorem wpList_kinds (w : World) {ops : Array Oper} {rest : List Oper} {o : Oper} {a : Act} {Q : Exit → Act → World → Prop} (hgd : o.guard = none) (so xo : Operand) (ho : o.op = .call { callee := .builtin .append, args := #[so, xo], argTypes := #[33, 33] })
    (hs : a.eval so = .slice none 0 0) (x : Value) (hx : a.eval xo = x) (m : Nat) (M : List Bool) (hM : M.length = m) (hsb : Sb w x M) (hb : m ≤ 2000000000000)
    (hK : ∀ p c w', Sb w' (.slice p m c) M → Below w.heap.size w w' → wpList Tryz.prog ops Q rest (a.put o.dst (.slice p m c)) w') : wpList Tryz.prog ops Q (o :: rest) a w :=
  wpList_plain hgd fun _ hK' => by
    obtain ⟨i0, hi0, hz0, hz1, hz2⟩ := info_parts Tryz.info4
    obtain ⟨ax, cx, rfl, hc⟩ := hsb
    rw [hM] at hc hx
    rcases Nat.eq_zero_or_pos m with h0 | h0
    · subst h0
      have hr := run_app0_33 w o.type ax cx
      unfold Oper.wp execOp
      simp only [ho, resolve, invoke, builtin, Sem.run_bind, Sem.run_pure, Result.andThen_ok, List.map_toArray, List.map_cons, List.map_nil, hs, hx, hr]
      exact hK' _ _ (hK none 0 w ⟨none, 0, by rw [hM], fun h => by omega⟩ (Below.refl _ w))
    · obtain ⟨b, off, rfl, hlt, hcell⟩ := hc h0
      obtain ⟨v', w', hr, h2, h3, _⟩ := run_append_own (P := Tryz.prog) w w.heap.size 33 o.type 4 i0 _ 1 1 Tryz.underlying33 hi0 hz0 hz1 hz2 rfl (by decide) (.slice none 0 0) 0 [] (World.ownsRow_nil _ _ _ _) ⟨b, off, none⟩ m cx (boolv M) (by simp [boolv, hM]) (fun j u hu => by
          simp only [boolv, List.getElem?_map, Option.map_eq_some_iff] at hu
          obtain ⟨y, hy, rfl⟩ := hu
          have := hcell j y hy
          rcases j with _ | j <;> simpa [Addr.add] using this) (fun u hu => by
          simp only [boolv, List.mem_map] at hu
          obtain ⟨y, _, rfl⟩ := hu
          rfl) (by unfold maxLen; omega) (by omega) (Nat.le_refl _)
      rw [List.nil_append, Nat.zero_add] at h2
      obtain ⟨p, c, rfl⟩ := own_shape h2
      have hsb' : Sb w' (.slice p m c) M := ⟨p, c, by rw [hM], fun _ => by
        rcases own_ge h2 with ⟨_, e2⟩ | ⟨g, cap, cs, e1, e2, e3, e4, e5⟩
        · omega
        · injection e1 with e1 _ _
          subst e1
          refine ⟨g, 0, rfl, e3.lt, fun i y hy => ?_⟩
          have hi := (List.getElem?_eq_some_iff.1 hy).1
          rw [e3.cell, Nat.zero_add, e5 i (by omega)]
          simp [boolv, hy]⟩
      unfold Oper.wp execOp
      simp only [ho, resolve, invoke, builtin, Sem.run_bind, Sem.run_pure, Result.andThen_ok, List.map_toArray, List.map_cons, List.map_nil, hs, hx, hr]
      exact hK' _ _ (hK p c w' hsb' ((Below.refl _ w).grown h3 (Nat.le_refl _) (fun k e => by cases e)))

set_option maxRecDepth 100000 in
set_option maxHeartbeats 4000000 in
theorem rights_walk (nm nm2 : List UInt8) (ags ags2 : List Ag) (bls : List Bool) {a0 a1 a2 : Option Addr} {n0 n1 n2 c0 c1 c2 : Nat} (W : World) (hM : MaxL W) (h1 : Sa 0 W (.slice a0 n0 c0) ags) (hlen1 : ags.length = n0) (h2 : Sa 0 W (.slice a1 n1 c1) ags2) (hlen2 : ags2.length = n1) (hb : Sb W (.slice a2 n2 c2) bls) (hbn : bls.length = n2)
    (hn0 : n0 ≤ 1048576) (hn1 : n1 ≤ 1048576) (hn2 : n2 ≤ 1048576) (hl1 : ∀ g ∈ ags, g.l.length ≤ 1048576 ∧ ∀ t ∈ g.l, t.s.length * 8 ≤ 140737488351232) (hl2 : ∀ g ∈ ags2, g.l.length ≤ 1048576 ∧ ∀ t ∈ g.l, t.s.length * 8 ≤ 140737488351232) (hv : (varsA ags).length ≤ 1000000000000) :
    Calls Tryz.prog 4 #[.agg #[.string (bs nm), .slice a0 n0 c0], .agg #[.string (bs nm2), .slice a1 n1 c1], .slice a2 n2 c2] W fun e w' => e = .returned (.bool true) ∧ Below W.heap.size W w' := by
  have HN : Hid (ags.length = n0 ∧ ags2.length = n1 ∧ bls.length = n2) := ⟨hlen1, hlen2, hbn⟩
  have hZ1 : ∀ g ∈ ags, AgZ g := fun g hg => ⟨by have := (hl1 g hg).1; omega, fun t ht => by have := (hl1 g hg).2 t ht; omega⟩
  have hZ2 : ∀ g ∈ ags2, AgZ g := fun g hg => ⟨by have := (hl2 g hg).1; omega, fun t ht => by have := (hl2 g hg).2 t ht; omega⟩
  have KN : Hid (∀ X, Below W.heap.size W X → Calls Tryz.prog 14 #[] X fun e w' => e = .returned (.bool true) ∧ Below X.heap.size X w') := fun X hX => known14 X (hM.below hX hM.1)
  have HM : Hid (MaxL W) := hM
  have K15 : Hid (∀ X, Below W.heap.size W X → Calls Tryz.prog 15 #[.agg #[.string (bs nm), .slice a0 n0 c0]] X fun e w' => ∃ v, e = .returned (.agg #[.string (bs nm), v]) ∧ Ao X.heap.size w' v ags ∧ Below X.heap.size X w') := fun X hX => lent15 nm ags X (h1.below hX) hlen1 (by omega) (fun g hg => by have := (hl1 g hg).1; omega) (fun g hg => (hl1 g hg).2)
  have hcl : (Lib.compact (sortL (varsA ags))).length ≤ (varsA ags).length := by have := Lib.compact_length_le (sortL (varsA ags)); rwa [sortL_len] at this
  have K16 : Hid (∀ B X s, Sa B X s ags → Calls Tryz.prog 16 #[.agg #[.string (bs nm), s]] X fun e w' => ∃ v, e = .returned v ∧ w'.ownsRow X.heap.size 3 1 v (csL (varsA ags)).length (intv (csL (varsA ags))) ∧ Below X.heap.size X w') := fun B X s hs => vars_any (bs nm) hs (by omega) (fun g hg => by have := (hl1 g hg).1; omega) hv hcl
  have K17 : Hid (∀ X, Below W.heap.size W X → Calls Tryz.prog 17 #[.agg #[.string (bs nm), .slice a0 n0 c0]] X fun e w' => ∃ v, e = .returned v ∧ w'.ownsRow X.heap.size 3 1 v (csL (varsA ags)).length (intv (csL (varsA ags))) ∧ Below X.heap.size X w') := fun X hX => refvars_any (bs nm) (h1.below hX) hlen1 (by omega) (fun g hg => by have := (hl1 g hg).1; omega) hv
  have K18 : Hid (∀ B X p c pk ck, Below W.heap.size W X → Sa B X (.slice p n0 c) ags → n0 ≤ c → c ≤ 9223372036854775807 → Sb X (.slice pk n2 ck) bls → Calls Tryz.prog 18 #[.agg #[.string (bs nm), .slice p n0 c], .slice pk n2 ck] X fun e w' => e = .returned (.int .i64 (rightB nm ags bls)) ∧ Below X.heap.size X w') := fun B X p c pk ck hX hs x1 x2 hk => right_any nm (hM.below hX hM.1) hs hlen1 x1 x2 hk hbn (by omega) (fun g hg => by have := (hl1 g hg).1; omega) (fun g hg t ht => by have := (hl1 g hg).2 t ht; omega)
  have K19 : Hid (∀ X, Below W.heap.size W X → Calls Tryz.prog 19 #[.agg #[.string (bs nm), .slice a0 n0 c0], .slice a2 n2 c2] X fun e w' => e = .returned (.int .i64 (rightB nm ags bls)) ∧ Below X.heap.size X w') := fun X hX => refright_any nm (h1.below hX) hlen1 (by omega) (fun g hg => by have := (hl1 g hg).1; omega) (hb.below hX) hbn
  have K20 : Hid (∀ B B' X p c p' n' c' (nm' : List UInt8) L, Sa B X (.slice p n0 c) ags → Sa B' X (.slice p' n' c') L → L.length = n' → n' ≤ 1048576 → (∀ g ∈ L, AgZ g) → Calls Tryz.prog 20 #[.agg #[.string (bs nm), .slice p n0 c], .agg #[.string (bs nm'), .slice p' n' c']] X fun e w' => e = .returned (.bool (decide (nm = nm' ∧ ags = L))) ∧ Below X.heap.size X w') := fun B B' X p c p' n' c' nm' L x1 x2 x3 x4 x5 => same20 nm nm' x1 x2 hlen1 x3 (by omega) (by omega) hZ1 x5
  have K21 : Hid (∀ B B' X p c p' n' c' (nm' : List UInt8) L, Sa B X (.slice p n0 c) ags → Sa B' X (.slice p' n' c') L → L.length = n' → n' ≤ 1048576 → (∀ g ∈ L, AgZ g) → Calls Tryz.prog 21 #[.agg #[.string (bs nm), .slice p n0 c], .agg #[.string (bs nm'), .slice p' n' c']] X fun e w' => e = .returned (.bool (decide (nm = nm' ∧ ags = L))) ∧ Below X.heap.size X w') := fun B B' X p c p' n' c' nm' L x1 x2 x3 x4 x5 => refsame21 nm nm' x1 x2 hlen1 x3 (by omega) (by omega) hZ1 x5
  have K22 : Hid (∀ B X p c, Sa B X (.slice p n0 c) ags → Calls Tryz.prog 22 #[.agg #[.string (bs nm), .slice p n0 c]] X fun e w' => ∃ v, e = .returned (.agg #[.string (bs nm), v]) ∧ Sa X.heap.size w' v ags ∧ OkA X.heap.size w' v ∧ Below X.heap.size X w') := fun B X p c x1 => copy_any (bs nm) x1 hlen1 (by omega) (fun g hg => ⟨by have := (hl1 g hg).1; omega, fun t ht => by have := (hl1 g hg).2 t ht; omega⟩)
  obtain ⟨sm, hsm⟩ : ∃ r, decide (nm = nm2 ∧ ags = ags2) = r := ⟨_, rfl⟩
  have K20o : Hid (∀ B B' X p c p' c', Sa B X (.slice p n0 c) ags → Sa B' X (.slice p' n1 c') ags2 → Calls Tryz.prog 20 #[.agg #[.string (bs nm), .slice p n0 c], .agg #[.string (bs nm2), .slice p' n1 c']] X fun e w' => e = .returned (.bool sm) ∧ Below X.heap.size X w') := fun B B' X p c p' c' x1 x2 => by rw [← hsm]; exact K20.out B B' X p c p' n1 c' nm2 ags2 x1 x2 hlen2 hn1 hZ2
  have K21o : Hid (∀ B B' X p c p' c', Sa B X (.slice p n0 c) ags → Sa B' X (.slice p' n1 c') ags2 → Calls Tryz.prog 21 #[.agg #[.string (bs nm), .slice p n0 c], .agg #[.string (bs nm2), .slice p' n1 c']] X fun e w' => e = .returned (.bool sm) ∧ Below X.heap.size X w') := fun B B' X p c p' c' x1 x2 => by rw [← hsm]; exact K21.out B B' X p c p' n1 c' nm2 ags2 x1 x2 hlen2 hn1 hZ2
  have K20c : Hid (∀ B B' X p c p' c', Sa B X (.slice p n0 c) ags → Sa B' X (.slice p' n0 c') ags → Calls Tryz.prog 20 #[.agg #[.string (bs nm), .slice p n0 c], .agg #[.string (bs nm), .slice p' n0 c']] X fun e w' => e = .returned (.bool true) ∧ Below X.heap.size X w') := fun B B' X p c p' c' x1 x2 => (K20.out B B' X p c p' n0 c' nm ags x1 x2 hlen1 hn0 hZ1).mono fun e w' ⟨q1, q2⟩ => ⟨by rw [q1]; simp, q2⟩
  have K21c : Hid (∀ B B' X p c p' c', Sa B X (.slice p n0 c) ags → Sa B' X (.slice p' n0 c') ags → Calls Tryz.prog 21 #[.agg #[.string (bs nm), .slice p n0 c], .agg #[.string (bs nm), .slice p' n0 c']] X fun e w' => e = .returned (.bool true) ∧ Below X.heap.size X w') := fun B B' X p c p' c' x1 x2 => (K21.out B B' X p c p' n0 c' nm ags x1 x2 hlen1 hn0 hZ1).mono fun e w' ⟨q1, q2⟩ => ⟨by rw [q1]; simp, q2⟩
  clear hsm K20 K21
  have H1 := hid h1
  have H2 := hid h2
  have HSB := hid hb
  have HZ1 := hid hZ1
  have HZ2 := hid hZ2
  have HNN : Hid (n0 ≤ 1048576 ∧ n1 ≤ 1048576 ∧ n2 ≤ 1048576) := ⟨hn0, hn1, hn2⟩
  obtain ⟨LV, hLV⟩ : ∃ L, csL (varsA ags) = L := ⟨_, rfl⟩
  obtain ⟨nV, hnV⟩ : ∃ n, LV.length = n := ⟨_, rfl⟩
  have HNV : Hid (nV ≤ 1000000000000) := by rw [Hid, ← hnV, ← hLV]; exact Nat.le_trans (cs_len _) hv
  rw [hLV, hnV] at K16 K17
  have HNL := hid hnV
  clear hLV hnV
  obtain ⟨ee, hee⟩ : ∃ r, rightB nm ags bls = r := ⟨_, rfl⟩
  rw [hee] at K18 K19
  clear hee hlen1 hlen2 hbn hM h1 h2 hb hn0 hn1 hn2 hl1 hl2 hv hcl hZ1 hZ2
  obtain ⟨B0, hB0⟩ : ∃ x, W.heap.size = x := ⟨_, rfl⟩
  obtain ⟨W1, hW1⟩ : ∃ X, (W.alloc (Obj.cells #[.string (bs nm), .slice a0 n0 c0] 32)).alloc (Obj.cells #[.string (bs nm2), .slice a1 n1 c1] 32) = X := ⟨_, rfl⟩
  have KA : Hid (Blk W1 B0 #[.string (bs nm), .slice a0 n0 c0] 32) := by rw [Hid, ← hW1, ← hB0]; exact (Blk.new W _ _).alloc _
  have KB : Hid (Blk W1 (B0 + 1) #[.string (bs nm2), .slice a1 n1 c1] 32) := by rw [Hid, ← hW1, ← hB0]; exact Blk.new2 W _ _ _
  have HB1 : Hid (Below W.heap.size W W1) := by rw [Hid, ← hW1]; exact ((Below.refl _ W).alloc (Nat.le_refl _) _).alloc (by simp) _
  have HW1 : Hid _ := hW1
  have HB0 : Hid (W.heap.size = B0) := hB0
  clear hW1 hB0
  have x0 := KA.out.cell 0
  have x1 := KA.out.cell 1
  simp only [List.getElem?_toArray, List.getElem?_cons_succ, List.getElem?_cons_zero] at x0 x1
  have k15 := K15.out W1 HB1.out
  go_enter Tryz.func4, Tryz.ntmps4
  go_upto_region 1 with (fail)
  rw [HW1.out]
  (try simp only [World.size_alloc])
  rw [HB0.out]
  go_wp2_with fail
  refine k15.mono ?_
  clear k15 x0 x1
  rintro e w2 ⟨v, rfl, hao, hb⟩
  obtain ⟨hsa, pv, cv, rfl, hcv, hcv9⟩ := ao_sa hao
  have HCV : Hid (n0 ≤ cv ∧ cv ≤ 9223372036854775807) := ⟨by rw [← HN.out.1]; exact hcv, hcv9⟩
  rw [HN.out.1] at hsa ⊢
  have hw23 : Below w2.heap.size w2 (w2.alloc (Obj.cells #[.string (bs nm), .slice pv n0 cv] 32)) := (Below.refl _ w2).alloc (Nat.le_refl _) _
  obtain ⟨w3, hw3⟩ : ∃ X, w2.alloc (Obj.cells #[.string (bs nm), .slice pv n0 cv] 32) = X := ⟨_, rfl⟩
  obtain ⟨bD, hbD⟩ : ∃ x, w2.heap.size = x := ⟨_, rfl⟩
  have KD : Hid (Blk w3 bD #[.string (bs nm), .slice pv n0 cv] 32) := by rw [Hid, ← hw3, ← hbD]; exact Blk.new w2 _ _
  have HW3 := hid hw3
  have HBD := hid hbD
  rw [hw3] at hw23
  have hb13 := hb.trans (hw23.mono hb.size)
  have HB3 := hid (HB1.out.trans (hb13.mono HB1.out.size))
  have KA3 := hid (KA.out.below hb13)
  have KB3 := hid (KB.out.below hb13)
  have HSO := hid (hsa.below hw23)
  clear hw3 hbD hw23 hb13 hb hsa hao hcv hcv9 KA KB
  go_upto_region 3 with (fail)
  rw [HW3.out, HBD.out]
  have hsb3 := HSB.out.below HB3.out
  go_upto_region 4 with (at_builtin; refine wpList_kinds _ rfl _ _ rfl rfl _ rfl n2 bls HN.out.2.2 hsb3 (by have := HNN.out.2.2; omega) ?_; intro pk ck w4 hkb hb4; clear hsb3)
  have HB4 := hid (HB3.out.trans (hb4.mono HB3.out.size))
  have KA4 := hid (KA3.out.below hb4)
  have KB4 := hid (KB3.out.below hb4)
  have KD4 := hid (KD.out.below hb4)
  have HSO4 := hid (HSO.out.below hb4)
  have HSK4 := hid hkb
  clear hb4 hkb KA3 KB3 KD HSO HB3 HW3 HBD HW1 HB1
  have xd0 := KD4.out.cell 0
  have xd1 := KD4.out.cell 1
  simp only [List.getElem?_toArray, List.getElem?_cons_succ, List.getElem?_cons_zero] at xd0 xd1
  have k16 := K16.out _ w4 _ HSO4.out
  go_wp2_with fail
  refine k16.mono ?_
  clear k16 xd0 xd1
  rintro e w5 ⟨v, rfl, hown, hb5⟩
  obtain ⟨pV, cV, rfl⟩ := own_shape hown
  have hsi := own_si3 hown
  have HV5 := hid hsi
  have HB5 := hid (HB4.out.trans (hb5.mono HB4.out.size))
  have KA5 := hid (KA4.out.below hb5)
  have KB5 := hid (KB4.out.below hb5)
  have KD5 := hid (KD4.out.below hb5)
  have HSO5 := hid (HSO4.out.below hb5)
  have HSK5 := hid (HSK4.out.below hb5)
  clear hb5 hown hsi KA4 KB4 KD4 HSO4 HSK4 HB4
  have xa0 := KA5.out.cell 0
  have xa1 := KA5.out.cell 1
  simp only [List.getElem?_toArray, List.getElem?_cons_succ, List.getElem?_cons_zero] at xa0 xa1
  have k17 := K17.out w5 HB5.out
  go_wp2_with fail
  refine k17.mono ?_
  clear k17 xa0 xa1
  rintro e w6 ⟨v, rfl, hown, hb6⟩
  obtain ⟨pW, cW, rfl⟩ := own_shape hown
  have hsi := own_si3 hown
  have HU6 := hid hsi
  have HV6 := hid (HV5.out.below hb6)
  have HB6 := hid (HB5.out.trans (hb6.mono HB5.out.size))
  have KA6 := hid (KA5.out.below hb6)
  have KB6 := hid (KB5.out.below hb6)
  have KD6 := hid (KD5.out.below hb6)
  have HSO6 := hid (HSO5.out.below hb6)
  have HSK6 := hid (HSK5.out.below hb6)
  clear hb6 hown hsi KA5 KB5 KD5 HSO5 HSK5 HB5 HV5
  have xa0 := KA6.out.cell 0
  have xa1 := KA6.out.cell 1
  have xb0 := KB6.out.cell 0
  have xb1 := KB6.out.cell 1
  have xd0 := KD6.out.cell 0
  have xd1 := KD6.out.cell 1
  simp only [List.getElem?_toArray, List.getElem?_cons_succ, List.getElem?_cons_zero] at xa0 xa1 xb0 xb1 xd0 xd1
  have ha6 := KA6.out.lt
  have hb6 := KB6.out.lt
  have hd6 := KD6.out.lt
  have hB := Below.drew (Below.refl w6.heap.size w6)
  go_upto_region 6 with (fail)
  refine wp_region_held_drew (S := (fun w' => Below w6.heap.size w6 w')) (by kernel_rfl) (hB) (fun hHeld => ?_)
  refine wpAnyH_take (i := 0) (oi := { dst := some 22, op := Go.Op.load 32 (Go.Operand.tmp 7), type := 32, pos := "law.go:45", after := #[], guard := none }) (v := ?_) rfl (by kernel_rfl) (by kernel_rfl) (by kernel_rfl) (fun _ _ _ h => h) (Or.inl ⟨by rfl, ?_⟩) hHeld ?_
  rotate_left
  · intro w hSw; have y0 := (hSw.cell (p := ⟨bD, 0, none⟩) hd6).trans xd0; have y1 := (hSw.cell (p := ⟨bD, 1, none⟩) hd6).trans xd1; clear hSw; go_simp <;> with_reducible rfl
  try simp only [Act.put, List.setIfInBounds_toArray, List.set_cons_zero, List.set_cons_succ]
  refine wpAnyH_take (i := 1) (oi := { dst := some 23, op := Go.Op.move (Go.Operand.tmp 8), type := 33, pos := "law.go:45", after := #[], guard := none }) (v := ?_) rfl (by kernel_rfl) (by kernel_rfl) (by kernel_rfl) (fun _ _ _ h => h) (Or.inl ⟨by rfl, ?_⟩) hHeld ?_
  rotate_left
  · intro w hSw; (try dsimp only at hSw); go_simp <;> with_reducible rfl
  try simp only [Act.put, List.setIfInBounds_toArray, List.set_cons_zero, List.set_cons_succ]
  refine wpAnyH_take (i := 3) (oi := { dst := some 25, op := Go.Op.load 32 (Go.Operand.tmp 3), type := 32, pos := "law.go:45", after := #[], guard := none }) (v := ?_) rfl (by kernel_rfl) (by kernel_rfl) (by kernel_rfl) (fun _ _ _ h => h) (Or.inl ⟨by rfl, ?_⟩) hHeld ?_
  rotate_left
  · intro w hSw; have y0 := (hSw.cell (p := ⟨B0, 0, none⟩) ha6).trans xa0; have y1 := (hSw.cell (p := ⟨B0, 1, none⟩) ha6).trans xa1; clear hSw; go_simp <;> with_reducible rfl
  try simp only [Act.put, List.setIfInBounds_toArray, List.set_cons_zero, List.set_cons_succ]
  refine wpAnyH_take (i := 4) (oi := { dst := some 26, op := Go.Op.move (Go.Operand.tmp 2), type := 33, pos := "law.go:45", after := #[], guard := none }) (v := ?_) rfl (by kernel_rfl) (by kernel_rfl) (by kernel_rfl) (fun _ _ _ h => h) (Or.inl ⟨by rfl, ?_⟩) hHeld ?_
  rotate_left
  · intro w hSw; (try dsimp only at hSw); go_simp <;> with_reducible rfl
  try simp only [Act.put, List.setIfInBounds_toArray, List.set_cons_zero, List.set_cons_succ]
  refine wpAnyH_ready (rs := [2]) (by kernel_rfl) (by simp) ?_
  refine AllReadyH.cons rfl (fun K hK => ?_) AllReadyH.nil
  go_simp
  refine (K18.out _ _ pv cv pk ck (HB6.out.trans (hB.mono HB6.out.size)) (HSO6.out.below hB) HCV.out.1 HCV.out.2 (HSK6.out.below hB)).mono ?_
  rintro e wz2 ⟨rfl, hbz⟩
  have hB := hB.trans (hbz.mono hB.size)
  clear hbz
  refine hK.out _ _ (hB) (fun hHeld2 => ?_)
  clear hK K hHeld
  have hHeld := hHeld2
  clear hHeld2
  try simp only [Act.put, List.setIfInBounds_toArray, List.set_cons_zero, List.set_cons_succ]
  refine wpAnyH_ready (rs := [5]) (by kernel_rfl) (by simp) ?_
  refine AllReadyH.cons rfl (fun K hK => ?_) AllReadyH.nil
  go_simp
  refine (K19.out _ (HB6.out.trans (hB.mono HB6.out.size))).mono ?_
  rintro e wz5 ⟨rfl, hbz⟩
  have hB := hB.trans (hbz.mono hB.size)
  clear hbz
  refine hK.out _ _ (hB) (fun hHeld2 => ?_)
  clear hK K hHeld
  have hHeld := hHeld2
  clear hHeld2
  try simp only [Act.put, List.setIfInBounds_toArray, List.set_cons_zero, List.set_cons_succ]
  refine wpAnyH_take (i := 6) (oi := { dst := some 28, op := Go.Op.binOp Go.BinOp.neq 37 (Go.Operand.tmp 24) (Go.Operand.tmp 27) 37, type := 4, pos := "law.go:45", after := #[{ on := 2, ground := Go.Ground.data }, { on := 5, ground := Go.Ground.data }], guard := none }) (v := .bool false) rfl (by kernel_rfl) (by kernel_rfl) (by kernel_rfl) (fun _ _ _ h => h) (Or.inl ⟨by rfl, ?_⟩) hHeld ?_
  skip
  · intro w hSw; go_simp <;> first | with_reducible rfl | simp
  try simp only [Act.put, List.setIfInBounds_toArray, List.set_cons_zero, List.set_cons_succ]
  refine wpAnyH_take (i := 7) (oi := { dst := some 29, op := Go.Op.move (Go.Operand.tmp 28), type := 4, pos := "law.go:45", after := #[{ on := 6, ground := Go.Ground.data }, { on := 5, ground := Go.Ground.chain }], guard := none }) (v := .bool false) rfl (by kernel_rfl) (by kernel_rfl) (by kernel_rfl) (fun _ _ _ h => h) (Or.inl ⟨by rfl, ?_⟩) hHeld ?_
  skip
  · intro w hSw; (try dsimp only at hSw); go_simp <;> with_reducible rfl
  try simp only [Act.put, List.setIfInBounds_toArray, List.set_cons_zero, List.set_cons_succ]
  refine wpAnyH_take (i := 8) (oi := { dst := some 30, op := Go.Op.load 32 (Go.Operand.tmp 7), type := 32, pos := "law.go:45", after := #[{ on := 7, ground := Go.Ground.guard }], guard := some (7, false) }) (v := ?_) rfl (by kernel_rfl) (by kernel_rfl) (by kernel_rfl) (fun _ _ _ h => h) (Or.inl ⟨by rfl, ?_⟩) hHeld ?_
  rotate_left
  · intro w hSw; have y0 := (hSw.cell (p := ⟨bD, 0, none⟩) hd6).trans xd0; have y1 := (hSw.cell (p := ⟨bD, 1, none⟩) hd6).trans xd1; clear hSw; go_simp <;> with_reducible rfl
  try simp only [Act.put, List.setIfInBounds_toArray, List.set_cons_zero, List.set_cons_succ]
  refine wpAnyH_take (i := 9) (oi := { dst := some 31, op := Go.Op.load 32 (Go.Operand.tmp 4), type := 32, pos := "law.go:45", after := #[{ on := 7, ground := Go.Ground.guard }], guard := some (7, false) }) (v := ?_) rfl (by kernel_rfl) (by kernel_rfl) (by kernel_rfl) (fun _ _ _ h => h) (Or.inl ⟨by rfl, ?_⟩) hHeld ?_
  rotate_left
  · intro w hSw; have y0 := (hSw.cell (p := ⟨B0 + 1, 0, none⟩) hb6).trans xb0; have y1 := (hSw.cell (p := ⟨B0 + 1, 1, none⟩) hb6).trans xb1; clear hSw; go_simp <;> with_reducible rfl
  try simp only [Act.put, List.setIfInBounds_toArray, List.set_cons_zero, List.set_cons_succ]
  refine wpAnyH_take (i := 11) (oi := { dst := some 33, op := Go.Op.load 32 (Go.Operand.tmp 3), type := 32, pos := "law.go:45", after := #[{ on := 7, ground := Go.Ground.guard }], guard := some (7, false) }) (v := ?_) rfl (by kernel_rfl) (by kernel_rfl) (by kernel_rfl) (fun _ _ _ h => h) (Or.inl ⟨by rfl, ?_⟩) hHeld ?_
  rotate_left
  · intro w hSw; have y0 := (hSw.cell (p := ⟨B0, 0, none⟩) ha6).trans xa0; have y1 := (hSw.cell (p := ⟨B0, 1, none⟩) ha6).trans xa1; clear hSw; go_simp <;> with_reducible rfl
  try simp only [Act.put, List.setIfInBounds_toArray, List.set_cons_zero, List.set_cons_succ]
  refine wpAnyH_take (i := 12) (oi := { dst := some 34, op := Go.Op.load 32 (Go.Operand.tmp 4), type := 32, pos := "law.go:45", after := #[{ on := 7, ground := Go.Ground.guard }], guard := some (7, false) }) (v := ?_) rfl (by kernel_rfl) (by kernel_rfl) (by kernel_rfl) (fun _ _ _ h => h) (Or.inl ⟨by rfl, ?_⟩) hHeld ?_
  rotate_left
  · intro w hSw; have y0 := (hSw.cell (p := ⟨B0 + 1, 0, none⟩) hb6).trans xb0; have y1 := (hSw.cell (p := ⟨B0 + 1, 1, none⟩) hb6).trans xb1; clear hSw; go_simp <;> with_reducible rfl
  try simp only [Act.put, List.setIfInBounds_toArray, List.set_cons_zero, List.set_cons_succ]
  refine wpAnyH_ready (rs := [10]) (by kernel_rfl) (by simp) ?_
  refine AllReadyH.cons rfl (fun K hK => ?_) AllReadyH.nil
  go_simp
  refine (K20o.out _ _ _ pv cv a1 c1 (HSO6.out.below hB) (H2.out.below (HB6.out.trans (hB.mono HB6.out.size)))).mono ?_
  rintro e wz10 ⟨rfl, hbz⟩
  have hB := hB.trans (hbz.mono hB.size)
  clear hbz
  refine hK.out _ _ (hB) (fun hHeld2 => ?_)
  clear hK K hHeld
  have hHeld := hHeld2
  clear hHeld2
  try simp only [Act.put, List.setIfInBounds_toArray, List.set_cons_zero, List.set_cons_succ]
  refine wpAnyH_ready (rs := [13]) (by kernel_rfl) (by simp) ?_
  refine AllReadyH.cons rfl (fun K hK => ?_) AllReadyH.nil
  go_simp
  refine (K21o.out _ _ _ a0 c0 a1 c1 (H1.out.below (HB6.out.trans (hB.mono HB6.out.size))) (H2.out.below (HB6.out.trans (hB.mono HB6.out.size)))).mono ?_
  rintro e wz13 ⟨rfl, hbz⟩
  have hB := hB.trans (hbz.mono hB.size)
  clear hbz
  refine hK.out _ _ (hB) (fun hHeld2 => ?_)
  clear hK K hHeld
  have hHeld := hHeld2
  clear hHeld2
  try simp only [Act.put, List.setIfInBounds_toArray, List.set_cons_zero, List.set_cons_succ]
  refine wpAnyH_take (i := 14) (oi := { dst := some 36, op := Go.Op.binOp Go.BinOp.neq 4 (Go.Operand.tmp 32) (Go.Operand.tmp 35) 4, type := 4, pos := "law.go:45", after := #[{ on := 10, ground := Go.Ground.data }, { on := 13, ground := Go.Ground.data }, { on := 7, ground := Go.Ground.guard }], guard := some (7, false) }) (v := .bool false) rfl (by kernel_rfl) (by kernel_rfl) (by kernel_rfl) (fun _ _ _ h => h) (Or.inl ⟨by rfl, ?_⟩) hHeld ?_
  skip
  · intro w hSw; go_simp <;> first | with_reducible rfl | simp
  try simp only [Act.put, List.setIfInBounds_toArray, List.set_cons_zero, List.set_cons_succ]
  refine wpAnyH_take (i := 15) (oi := { dst := some 37, op := Go.Op.pick (Go.Operand.tmp 29) (Go.Operand.const (Go.Value.bool true)) (Go.Operand.tmp 36), type := 4, pos := "law.go:45", after := #[{ on := 7, ground := Go.Ground.data }, { on := 14, ground := Go.Ground.data }], guard := none }) (v := .bool false) rfl (by kernel_rfl) (by kernel_rfl) (by kernel_rfl) (fun _ _ _ h => h) (Or.inl ⟨by rfl, ?_⟩) hHeld ?_
  skip
  · intro w hSw; (try dsimp only at hSw); go_simp <;> with_reducible rfl
  try simp only [Act.put, List.setIfInBounds_toArray, List.set_cons_zero, List.set_cons_succ]
  refine wpAnyH_take (i := 16) (oi := { dst := some 38, op := Go.Op.move (Go.Operand.tmp 37), type := 4, pos := "law.go:45", after := #[{ on := 15, ground := Go.Ground.data }, { on := 13, ground := Go.Ground.chain }], guard := none }) (v := .bool false) rfl (by kernel_rfl) (by kernel_rfl) (by kernel_rfl) (fun _ _ _ h => h) (Or.inl ⟨by rfl, ?_⟩) hHeld ?_
  skip
  · intro w hSw; (try dsimp only at hSw); go_simp <;> with_reducible rfl
  try simp only [Act.put, List.setIfInBounds_toArray, List.set_cons_zero, List.set_cons_succ]
  refine wpAnyH_take (i := 17) (oi := { dst := some 39, op := Go.Op.load 32 (Go.Operand.tmp 7), type := 32, pos := "law.go:45", after := #[{ on := 16, ground := Go.Ground.guard }], guard := some (16, false) }) (v := ?_) rfl (by kernel_rfl) (by kernel_rfl) (by kernel_rfl) (fun _ _ _ h => h) (Or.inl ⟨by rfl, ?_⟩) hHeld ?_
  rotate_left
  · intro w hSw; have y0 := (hSw.cell (p := ⟨bD, 0, none⟩) hd6).trans xd0; have y1 := (hSw.cell (p := ⟨bD, 1, none⟩) hd6).trans xd1; clear hSw; go_simp <;> with_reducible rfl
  try simp only [Act.put, List.setIfInBounds_toArray, List.set_cons_zero, List.set_cons_succ]
  refine wpAnyH_take (i := 18) (oi := { dst := some 40, op := Go.Op.load 32 (Go.Operand.tmp 3), type := 32, pos := "law.go:45", after := #[{ on := 16, ground := Go.Ground.guard }], guard := some (16, false) }) (v := ?_) rfl (by kernel_rfl) (by kernel_rfl) (by kernel_rfl) (fun _ _ _ h => h) (Or.inl ⟨by rfl, ?_⟩) hHeld ?_
  rotate_left
  · intro w hSw; have y0 := (hSw.cell (p := ⟨B0, 0, none⟩) ha6).trans xa0; have y1 := (hSw.cell (p := ⟨B0, 1, none⟩) ha6).trans xa1; clear hSw; go_simp <;> with_reducible rfl
  try simp only [Act.put, List.setIfInBounds_toArray, List.set_cons_zero, List.set_cons_succ]
  refine wpAnyH_ready (rs := [19]) (by kernel_rfl) (by simp) ?_
  refine AllReadyH.cons rfl (fun K hK => ?_) AllReadyH.nil
  go_simp
  refine (K20c.out _ _ _ pv cv a0 c0 (HSO6.out.below hB) (H1.out.below (HB6.out.trans (hB.mono HB6.out.size)))).mono ?_
  rintro e wz19 ⟨rfl, hbz⟩
  have hB := hB.trans (hbz.mono hB.size)
  clear hbz
  refine hK.out _ _ (hB) (fun hHeld2 => ?_)
  clear hK K hHeld
  have hHeld := hHeld2
  clear hHeld2
  try simp only [Act.put, List.setIfInBounds_toArray, List.set_cons_zero, List.set_cons_succ]
  refine wpAnyH_take (i := 20) (oi := { dst := some 42, op := Go.Op.unOp Go.UnOp.not 4 (Go.Operand.tmp 41), type := 4, pos := "law.go:45", after := #[{ on := 19, ground := Go.Ground.data }, { on := 16, ground := Go.Ground.guard }], guard := some (16, false) }) (v := ?_) rfl (by kernel_rfl) (by kernel_rfl) (by kernel_rfl) (fun _ _ _ h => h) (Or.inl ⟨by rfl, ?_⟩) hHeld ?_
  rotate_left
  · intro w hSw; (try dsimp only at hSw); go_simp <;> with_reducible rfl
  try simp only [Act.put, List.setIfInBounds_toArray, List.set_cons_zero, List.set_cons_succ]
  refine wpAnyH_take (i := 21) (oi := { dst := some 43, op := Go.Op.pick (Go.Operand.tmp 38) (Go.Operand.const (Go.Value.bool true)) (Go.Operand.tmp 42), type := 4, pos := "law.go:45", after := #[{ on := 16, ground := Go.Ground.data }, { on := 20, ground := Go.Ground.data }], guard := none }) (v := ?_) rfl (by kernel_rfl) (by kernel_rfl) (by kernel_rfl) (fun _ _ _ h => h) (Or.inl ⟨by rfl, ?_⟩) hHeld ?_
  rotate_left
  · intro w hSw; (try dsimp only at hSw); go_simp <;> with_reducible rfl
  try simp only [Act.put, List.setIfInBounds_toArray, List.set_cons_zero, List.set_cons_succ]
  refine wpAnyH_take (i := 22) (oi := { dst := some 44, op := Go.Op.move (Go.Operand.tmp 43), type := 4, pos := "law.go:45", after := #[{ on := 21, ground := Go.Ground.data }, { on := 19, ground := Go.Ground.chain }], guard := none }) (v := ?_) rfl (by kernel_rfl) (by kernel_rfl) (by kernel_rfl) (fun _ _ _ h => h) (Or.inl ⟨by rfl, ?_⟩) hHeld ?_
  rotate_left
  · intro w hSw; (try dsimp only at hSw); go_simp <;> with_reducible rfl
  try simp only [Act.put, List.setIfInBounds_toArray, List.set_cons_zero, List.set_cons_succ]
  refine wpAnyH_take (i := 23) (oi := { dst := some 45, op := Go.Op.move (Go.Operand.tmp 9), type := 35, pos := "law.go:45", after := #[{ on := 22, ground := Go.Ground.guard }], guard := some (22, false) }) (v := ?_) rfl (by kernel_rfl) (by kernel_rfl) (by kernel_rfl) (fun _ _ _ h => h) (Or.inl ⟨by rfl, ?_⟩) hHeld ?_
  rotate_left
  · intro w hSw; (try dsimp only at hSw); go_simp <;> with_reducible rfl
  try simp only [Act.put, List.setIfInBounds_toArray, List.set_cons_zero, List.set_cons_succ]
  refine wpAnyH_take (i := 24) (oi := { dst := some 46, op := Go.Op.call { callee := Go.Callee.builtin Go.Builtin.len, args := #[Go.Operand.tmp 45], argTypes := #[35] }, type := 3, pos := "law.go:45", after := #[{ on := 23, ground := Go.Ground.data }, { on := 22, ground := Go.Ground.guard }], guard := some (22, false) }) (v := ?_) rfl (by kernel_rfl) (by kernel_rfl) (by kernel_rfl) (fun _ _ _ h => h) (Or.inl ⟨by rfl, ?_⟩) hHeld ?_
  rotate_left
  · intro w hSw; (try dsimp only at hSw); go_simp <;> with_reducible rfl
  try simp only [Act.put, List.setIfInBounds_toArray, List.set_cons_zero, List.set_cons_succ]
  refine wpAnyH_take (i := 25) (oi := { dst := some 47, op := Go.Op.move (Go.Operand.tmp 10), type := 35, pos := "law.go:45", after := #[{ on := 22, ground := Go.Ground.guard }], guard := some (22, false) }) (v := ?_) rfl (by kernel_rfl) (by kernel_rfl) (by kernel_rfl) (fun _ _ _ h => h) (Or.inl ⟨by rfl, ?_⟩) hHeld ?_
  rotate_left
  · intro w hSw; (try dsimp only at hSw); go_simp <;> with_reducible rfl
  try simp only [Act.put, List.setIfInBounds_toArray, List.set_cons_zero, List.set_cons_succ]
  refine wpAnyH_take (i := 26) (oi := { dst := some 48, op := Go.Op.call { callee := Go.Callee.builtin Go.Builtin.len, args := #[Go.Operand.tmp 47], argTypes := #[35] }, type := 3, pos := "law.go:45", after := #[{ on := 25, ground := Go.Ground.data }, { on := 22, ground := Go.Ground.guard }], guard := some (22, false) }) (v := ?_) rfl (by kernel_rfl) (by kernel_rfl) (by kernel_rfl) (fun _ _ _ h => h) (Or.inl ⟨by rfl, ?_⟩) hHeld ?_
  rotate_left
  · intro w hSw; (try dsimp only at hSw); go_simp <;> with_reducible rfl
  try simp only [Act.put, List.setIfInBounds_toArray, List.set_cons_zero, List.set_cons_succ]
  refine wpAnyH_take (i := 27) (oi := { dst := some 49, op := Go.Op.binOp Go.BinOp.neq 3 (Go.Operand.tmp 46) (Go.Operand.tmp 48) 3, type := 4, pos := "law.go:45", after := #[{ on := 24, ground := Go.Ground.data }, { on := 26, ground := Go.Ground.data }, { on := 22, ground := Go.Ground.guard }], guard := some (22, false) }) (v := .bool false) rfl (by kernel_rfl) (by kernel_rfl) (by kernel_rfl) (fun _ _ _ h => h) (Or.inl ⟨by rfl, ?_⟩) hHeld ?_
  skip
  · intro w hSw; go_simp <;> first | with_reducible rfl | simp
  try simp only [Act.put, List.setIfInBounds_toArray, List.set_cons_zero, List.set_cons_succ]
  refine wpAnyH_take (i := 28) (oi := { dst := some 50, op := Go.Op.pick (Go.Operand.tmp 44) (Go.Operand.const (Go.Value.bool true)) (Go.Operand.tmp 49), type := 4, pos := "law.go:45", after := #[{ on := 22, ground := Go.Ground.data }, { on := 27, ground := Go.Ground.data }], guard := none }) (v := ?_) rfl (by kernel_rfl) (by kernel_rfl) (by kernel_rfl) (fun _ _ _ h => h) (Or.inl ⟨by rfl, ?_⟩) hHeld ?_
  rotate_left
  · intro w hSw; (try dsimp only at hSw); go_simp <;> with_reducible rfl
  try simp only [Act.put, List.setIfInBounds_toArray, List.set_cons_zero, List.set_cons_succ]
  refine wpAnyH_done (by kernel_rfl) ?_ _
  have HBE := hid hB
  clear hB hHeld
  go_wp2
  go_loopw [11] (fun i wr => ∃ k : Nat, k ≤ nV ∧ i = .int .i64 (k : Int) ∧ Hid (Below w6.heap.size w6 wr)) (fun i _ => nV - (intOf i).toNat)
  case atStart => exact ⟨0, Nat.zero_le _, rfl, HBE⟩
  case round =>
    obtain ⟨k, hk, rfl, HBR⟩ := hrel
    by_cases hlt : k < nV
    · have hlt' : (k : Int) < nV := by omega
      have hwk : IntKind.i64.wrap ((k : Int) + 1) = (k : Int) + 1 := by rw [IntKind.wrap_i64]; have := HNV.out; omega
      obtain ⟨x, hx⟩ : ∃ x, LV[k]? = some x := ⟨_, List.getElem?_eq_getElem (by rw [HNL.out]; exact hlt)⟩
      obtain ⟨bx, ox, e, _, y1⟩ := (HV6.out.below HBR.out).at hx
      subst e
      obtain ⟨by', oy, e, _, y2⟩ := (HU6.out.below HBR.out).at hx
      subst e
      go_wp2
      go_quiet (fail)
      go_wp2
      go_roundw
      case rel => exact ⟨k + 1, by omega, by go_num, below_drewN HBR.out _⟩
      case measure => simp [intOf]; omega
    · have hlt' : ¬ (k : Int) < nV := by omega
      obtain ⟨w7, hw7⟩ : ∃ x, x = wr := ⟨_, rfl⟩
      subst hw7
      have KA7 := hid (KA6.out.below HBR.out)
      have KD7 := hid (KD6.out.below HBR.out)
      have HSO7 := hid (HSO6.out.below HBR.out)
      have HB7 := hid (HB6.out.trans (HBR.out.mono HB6.out.size))
      have xd0 := KD7.out.cell 0
      have xd1 := KD7.out.cell 1
      simp only [List.getElem?_toArray, List.getElem?_cons_succ, List.getElem?_cons_zero] at xd0 xd1
      have k22 := K22.out _ w7 pv cv HSO7.out
      clear xa0 xa1 xb0 xb1 KA6 KB6 KD6
      go_wp2_with fail
      refine k22.mono ?_
      clear k22 xd0 xd1
      rintro e w8 ⟨v, rfl, hs8, ho8, hb8⟩
      have hs8' := hs8
      obtain ⟨p8, c8, rfl, _⟩ := hs8
      rw [HN.out.1] at hs8' ho8 ⊢
      have hal : Below w8.heap.size w8 (w8.alloc (Obj.cells #[.string (bs nm), .slice p8 n0 c8] 32)) := (Below.refl _ w8).alloc (Nat.le_refl _) _
      obtain ⟨w9, hw9⟩ : ∃ X, w8.alloc (Obj.cells #[.string (bs nm), .slice p8 n0 c8] 32) = X := ⟨_, rfl⟩
      obtain ⟨bE, hbE⟩ : ∃ x, w8.heap.size = x := ⟨_, rfl⟩
      have KE9 : Hid (Blk w9 bE #[.string (bs nm), .slice p8 n0 c8] 32) := by rw [Hid, ← hw9, ← hbE]; exact Blk.new w8 _ _
      have HW9 := hid hw9
      have HBE9 := hid hbE
      rw [hw9] at hal
      have hb79 := hb8.trans (hal.mono hb8.size)
      have HB79 := hid hb79
      have HS9 := hid (hs8'.below hal)
      have HO9 := hid (ho8.below hal)
      have KA9 := hid (KA7.out.below hb79)
      have KD9 := hid (KD7.out.below hb79)
      have HB9 := hid (HB7.out.trans (hb79.mono HB7.out.size))
      clear hw9 hbE hal hb79 hb8 hs8' ho8
      go_upto_region 14 with (fail)
      rw [HW9.out, HBE9.out]
      have xa0 := KA9.out.cell 0
      have xa1 := KA9.out.cell 1
      have xe0 := KE9.out.cell 0
      have xe1 := KE9.out.cell 1
      simp only [List.getElem?_toArray, List.getElem?_cons_succ, List.getElem?_cons_zero] at xa0 xa1 xe0 xe1
      have k21 := K21c.out _ _ w9 p8 c8 a0 c0 HS9.out (H1.out.below HB9.out)
      go_wp2_with fail
      refine k21.mono ?_
      clear k21 xa0 xa1 xe0 xe1
      rintro e w10 ⟨rfl, hb10⟩
      have HB10 := hid (HB79.out.trans (hb10.mono HB79.out.size))
      have KE10 := hid (KE9.out.below hb10)
      have HO10 := hid (HO9.out.below hb10)
      clear hb10
      have xe0 := KE10.out.cell 0
      have xe1 := KE10.out.cell 1
      simp only [List.getElem?_toArray, List.getElem?_cons_succ, List.getElem?_cons_zero] at xe0 xe1
      have k23 := spoil_any (bs nm) HO10.out HB10.out.size
      go_wp2_with fail
      refine k23.mono ?_
      clear k23 xe0 xe1
      rintro e w11 ⟨rfl, hb11⟩
      have HB11 := hid (HB10.out.trans hb11)
      have KA11 := hid (KA7.out.below HB11.out)
      have KD11 := hid (KD7.out.below HB11.out)
      have HBW := hid (HB7.out.trans (HB11.out.mono HB7.out.size))
      clear hb11
      have xa0 := KA11.out.cell 0
      have xa1 := KA11.out.cell 1
      have xd0 := KD11.out.cell 0
      have xd1 := KD11.out.cell 1
      simp only [List.getElem?_toArray, List.getElem?_cons_succ, List.getElem?_cons_zero] at xa0 xa1 xd0 xd1
      have k21 := K21c.out _ _ w11 pv cv a0 c0 (HSO7.out.below HB11.out) (H1.out.below HBW.out)
      go_wp2_with fail
      refine k21.mono ?_
      clear k21 xa0 xa1 xd0 xd1
      rintro e w12 ⟨rfl, hb12⟩
      have HB12 := hid (HBW.out.trans (hb12.mono HBW.out.size))
      clear hb12
      go_wp2_with fail
      refine (KN.out w12 HB12.out).mono ?_
      rintro e w13 ⟨rfl, hb13⟩
      have HB13 := hid (HB12.out.trans (hb13.mono HB12.out.size))
      clear hb13
      go_wp2
      go_ret
      exact ⟨rfl, HB13.out⟩
end Go.Proofs.YtpgecdhieakilaaGreatDoor
