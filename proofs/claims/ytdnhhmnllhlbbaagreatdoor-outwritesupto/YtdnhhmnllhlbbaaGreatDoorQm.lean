/-
  What is proved here: The reference: Values.
-/
import Derived.Test.YtdnhhmnllhlbbaaGreatDoorQij
import Derived.Test.YtdnhhmnllhlbbaaGreatDoorOi
namespace Go.Proofs.YtdnhhmnllhlbbaaGreatDoor
open Go.RowKit Go.Shelf
set_option linter.unusedVariables false
set_option linter.unusedSimpArgs false

set_option maxRecDepth 100000 in
set_option maxHeartbeats 4000000 in
theorem rvalues11 {W : World} {s vs : Value} {l : List Ou} {vals : List Vl} (h : Sou W s l) (hn : l.length ≤ 1000000000) (hz : ∀ o ∈ l, OuZ o) (hv : Sv W vs vals) (hL : ∀ v ∈ vals, v.s.length ≤ 17592186043904) (hvn : vals.length ≤ 17592186043904) :
    Calls Tryz.prog 11 #[s, vs] W fun e w' => ValE l vals 0 e w' ∧ Below W.heap.size W w' := by
  obtain ⟨a, c, rfl, h'⟩ := h
  have HA : Hid (Sou W (.slice a l.length c) l) := ⟨_, _, rfl, h'⟩
  have HV : Hid (Sv W vs vals) := hv
  have HLV : Hid ((∀ v ∈ vals, v.s.length ≤ 17592186043904) ∧ vals.length ≤ 17592186043904) := ⟨hL, hvn⟩
  have HZ : Hid (∀ o ∈ l, OuZ o) := hz
  have kr := rright14 HA.out hn hz
  obtain ⟨r, hr⟩ : ∃ r, RightN l = r := ⟨_, rfl⟩
  have HR : Hid (RightN l = r) := hr
  rw [hr] at kr
  obtain ⟨n, hnn⟩ : ∃ n, l.length = n := ⟨_, rfl⟩
  have HN : Hid (l.length = n) := hnn
  rw [hnn] at HA kr hn ⊢
  obtain ⟨va, vc, rfl, _⟩ := hv
  clear h' hL hvn hz hr hnn
  obtain ⟨B, hB⟩ : ∃ B, W.heap.size = B := ⟨_, rfl⟩
  have HBB := hid hB
  clear hB
  go_enter Tryz.func11, Tryz.ntmps11
  go_wp2_with fail
  refine kr.mono ?_
  rintro e w1 ⟨rfl, hb1⟩
  have HB1 : Hid (Below B W w1) := by rw [← HBB.out]; exact hb1
  clear kr hb1
  by_cases hr0 : r = 0
  · subst hr0
    have hn1 : n ≤ 1000 := by have := (right_ok HR.out).1; rw [HN.out] at this; exact this
    go_wp2
    go_loopw [7, 8] (fun s7 i wr => ∃ (k : Nat) (xs : List (List Vl)) (ss : List Value), k ≤ n ∧ i = .int .i64 (k : Int) ∧ Hid (ousV (l.take k) vals = some xs) ∧ Hid (ss.length = xs.length) ∧ Hid (Ow wr 23 s7 1 (ss.map fun x => [x])) ∧ Hid (∀ (j : Nat) (x : List Vl) (sj : Value), xs[j]? = some x → ss[j]? = some sj → Dx s7.ownBlock wr (fun w => SvX (fun b => b < 0) w sj x)) ∧ Hid (∀ g, s7.ownBlock = some g → B ≤ g) ∧ Hid (Below B W wr)) (fun s7 i _ => n - (intOf i).toNat)
    case atStart => exact ⟨0, [], [], Nat.zero_le _, rfl, rfl, rfl, ⟨by simp, World.ownsRow_nil _ _ _ _⟩, fun j x sj h => (by simp at h), fun g e => (by cases e), HB1.out⟩
    case round =>
      obtain ⟨k, xs, ss, hk, rfl, HX, HSL, HO7, HD7, HG7, HB⟩ := hrel
      obtain ⟨wo, hwo⟩ : ∃ x, x = wr := ⟨_, rfl⟩
      subst hwo
      by_cases hlt : k < n
      · have hlt' : (k : Int) < n := by omega
        obtain ⟨o, ho⟩ : ∃ g, l[k]? = some g := ⟨_, List.getElem?_eq_getElem (by rw [HN.out]; exact hlt)⟩
        have HO : Hid (l[k]? = some o ∧ o ∈ l) := ⟨ho, List.mem_of_getElem? ho⟩
        obtain ⟨b, off, dv, lv, rfl, hb, _, hlv, d0, d1, d2, d3, d4⟩ := HA.out.at ho
        obtain ⟨la, lc, rfl, _⟩ := id hlv
        have HLV2 : Hid (St 0 W (.slice la o.l.length lc) o.l) := hlv
        obtain ⟨m, hm⟩ : ∃ q, o.l.length = q := ⟨_, rfl⟩
        have HMM : Hid (o.l.length = m) := hm
        rw [hm] at d2 HLV2
        have hm2 : m ≤ 2000000 := by rw [← hm]; exact (HZ.out o HO.out.2).l
        obtain ⟨kd, hkd⟩ : ∃ q, o.kind = q := ⟨_, rfl⟩
        have HKD := hid hkd
        rw [hkd] at d3
        clear hm hlv hkd d0 d1 d4
        have HCL : Hid (b < W.heap.size ∧ W.cell? ⟨b, off + k * 5 + 2, none⟩ = some (.slice la m lc) ∧ W.cell? ⟨b, off + k * 5 + 3, none⟩ = some (.int .i64 kd)) := ⟨hb, d2, d3⟩
        have HTK : Hid (l.take (k + 1) = l.take k ++ [o]) := by rw [Hid, List.take_add_one, ho]; rfl
        have hw2 : IntKind.i64.wrap ((k : Int) + 1) = (k : Int) + 1 := by rw [IntKind.wrap_i64]; omega
        obtain ⟨H, hH⟩ : ∃ q, wo.heap.size = q := ⟨_, rfl⟩
        have HHH := hid hH
        have HBH : Hid (B ≤ H) := by rw [Hid, ← HBB.out, ← hH]; exact HB.out.size
        clear d2 d3 ho hb hH
        go_wp2
        go_loopw [9, 10] (fun s9 i wi => ∃ (q : Nat) (rows : List (List Value)), q ≤ m ∧ i = .int .i64 (q : Int) ∧ Hid (rows.length = q) ∧ Hid (Ow wi 36 s9 3 rows) ∧ Hid (∀ (j : Nat) (t : Tm) (c : List Value), o.l[j]? = some t → rows[j]? = some c → ∃ sv, c = [.bool (voV t vals).1.set, .int .i64 (voV t vals).1.n, sv] ∧ Si 0 W sv (voV t vals).1.s) ∧ Hid (∀ g, s9.ownBlock = some g → H ≤ g) ∧ Hid (∀ t ∈ o.l.take q, okT o.kind vals t = true) ∧ Hid (Below H wo wi)) (fun s9 i _ => m - (intOf i).toNat)
        case atStart => exact ⟨0, [], Nat.zero_le _, rfl, rfl, ⟨by simp, World.ownsRow_nil _ _ _ _⟩, fun j t c _ h => (by simp at h), fun g e => (by cases e), (fun t ht => by simp at ht), Below.refl _ _⟩
        case round =>
          obtain ⟨q, rows, hq, rfl, HL9, HO9, HD9, HG9, HOK, HI⟩ := hrel
          have HBI : Hid (Below B W wr) := HB.out.trans (HI.out.mono HBH.out)
          have z2 := (HBI.out.cell (p := ⟨b, off + k * 5 + 2, none⟩) (by rw [← HBB.out]; exact HCL.out.1)).trans HCL.out.2.1
          by_cases hlq : q < m
          · have hlq' : (q : Int) < m := by omega
            obtain ⟨t, ht⟩ : ∃ g, o.l[q]? = some g := ⟨_, List.getElem?_eq_getElem (by rw [HMM.out]; exact hlq)⟩
            have HT : Hid (o.l[q]? = some t ∧ t ∈ o.l) := ⟨ht, List.mem_of_getElem? ht⟩
            obtain ⟨tb, toff, tsv, rfl, htb, hts, d0, d1, d2, d3⟩ := st_at HLV2.out ht
            obtain ⟨ta, tc, rfl, _⟩ := id hts
            have HBW : Hid (∀ X, Below B W X → Below W.heap.size W X) := fun X hX => hX.mono (by rw [HBB.out]; exact Nat.le_refl _)
            have hov := ofV_ok (vals := vals) (wt_ok ((wr_ok ((right_ok HR.out).2 o HO.out.2)).2.2.2 t HT.out.2))
            have KV : Hid (∀ X, Below B W X → Calls Tryz.prog 33 #[.agg #[.int .i64 t.v, .bool t.set, .int .i64 t.n, .slice ta t.s.length tc], .slice va vals.length vc] X fun e w' => ∃ a9 c9, e = .returned (.tuple #[.agg #[.bool (ofV t vals).1.set, .int .i64 (ofV t vals).1.n, .slice a9 (ofV t vals).1.s.length c9], .int .i64 (ofV t vals).2]) ∧ Si 0 W (.slice a9 (ofV t vals).1.s.length c9) (ofV t vals).1.s ∧ Below X.heap.size X w') := fun X hX => rof33b (HBW.out X hX) t vals hts HV.out ((HZ.out o HO.out.2).t t HT.out.2) HLV.out.1 HLV.out.2
            have HVL : Hid ((voV t vals).1.s.length ≤ 17592186043904) := by
              rw [Hid]
              unfold voV
              by_cases h1 : t.v = -1
              · rw [if_pos h1]; exact (HZ.out o HO.out.2).t t HT.out.2
              · rw [if_neg h1]
                cases hx : vals[t.v.toNat]? with
                | none => simp
                | some x => exact HLV.out.1 x (List.mem_of_getElem? hx)
            have HOT : Hid (okT o.kind vals t = ((voV t vals).2 && isVal (voV t vals).1.set (voV t vals).1.n (voV t vals).1.s kd)) := by rw [Hid, ← HKD.out]; rfl
            rw [hov] at KV
            obtain ⟨⟨⟨s1, vn, vl⟩, vok⟩, hvv⟩ : ∃ z, voV t vals = z := ⟨_, rfl⟩
            have HVV : Hid (voV t vals = (⟨s1, vn, vl⟩, vok)) := hvv
            rw [hvv] at KV HVL HOT
            simp only at KV HVL HOT
            obtain ⟨tn, htn⟩ : ∃ z, t.s.length = z := ⟨_, rfl⟩
            rw [htn] at KV d3
            obtain ⟨xn, hxn⟩ : ∃ z, vl.length = z := ⟨_, rfl⟩
            have HXN : Hid (vl.length = xn) := hxn
            rw [hxn] at KV
            rw [HBB.out] at htb
            have x0 := (HBI.out.cell (p := ⟨tb, toff + q * 4, none⟩) htb).trans d0
            have x1 := (HBI.out.cell (p := ⟨tb, toff + q * 4 + 1, none⟩) htb).trans d1
            have x2 := (HBI.out.cell (p := ⟨tb, toff + q * 4 + 2, none⟩) htb).trans d2
            have x3 := (HBI.out.cell (p := ⟨tb, toff + q * 4 + 3, none⟩) htb).trans d3
            have hq1 : IntKind.i64.wrap ((q : Int) + 1) = (q : Int) + 1 := by rw [IntKind.wrap_i64]; omega
            have k33 := KV.out _ HBI.out
            have HWS : Hid (B ≤ wr.heap.size) := by rw [Hid, ← HBB.out]; exact HBI.out.size
            clear d0 d1 d2 d3 ht hts hvv htn hxn hov KV
            go_wp2_with fail
            refine k33.mono ?_
            rintro e w5 ⟨a9, c9, rfl, hsi, hb5⟩
            have HS5 : Hid (Si 0 W (.slice a9 xn c9) vl) := hsi
            clear k33 hsi x0 x1 x2 x3 z2
            obtain ⟨w6, hw6⟩ : ∃ z, w5.alloc (Obj.cells #[.bool s1, .int .i64 vn, .slice a9 xn c9] 36) = z := ⟨_, rfl⟩
            obtain ⟨xb, hxb⟩ : ∃ z, w5.heap.size = z := ⟨_, rfl⟩
            have HX6 : Hid (Blk w6 xb #[.bool s1, .int .i64 vn, .slice a9 xn c9] 36) := by rw [← hw6, ← hxb]; exact Blk.new _ _ _
            have hb6 : Below w5.heap.size w5 w6 := by rw [← hw6]; exact (Below.refl _ _).alloc (Nat.le_refl _) _
            have HB6 : Hid (Below wr.heap.size wr w6) := hb5.trans (hb6.mono hb5.size)
            have HB6W : Hid (Below B W w6) := HBI.out.trans (HB6.out.mono HWS.out)
            have HW6 := hid hw6
            have HXE := hid hxb
            clear hb5 hb6 hw6 hxb
            go_upto_region 13 with (fail)
            rw [HW6.out, HXE.out]
            cases vok with
            | false =>
              have HBAD : Hid (okT o.kind vals t = false) := HOT
              rw [show (if false = true then (0 : Int) else 1) = 1 from rfl]
              refine wp_region_held_drew (S := (fun _ : World => True)) (by kernel_rfl) (trivial) (fun hHeld => ?_)
              refine tkI 0 rfl hHeld ?_
              try simp only [Act.put, zS, eZ, eS]
              refine tkI 1 rfl hHeld ?_
              try simp only [Act.put, zS, eZ, eS]
              refine tkI 2 rfl hHeld ?_
              try simp only [Act.put, zS, eZ, eS]
              refine tkU 3 rfl hHeld ?_
              try simp only [Act.put, zS, eZ, eS]
              refine tkU 4 rfl hHeld ?_
              try simp only [Act.put, zS, eZ, eS]
              refine tkU 5 rfl hHeld ?_
              try simp only [Act.put, zS, eZ, eS]
              refine tkU 6 rfl hHeld ?_
              try simp only [Act.put, zS, eZ, eS]
              refine tkU 7 rfl hHeld ?_
              try simp only [Act.put, zS, eZ, eS]
              refine tkU 8 rfl hHeld ?_
              try simp only [Act.put, zS, eZ, eS]
              refine tkU 9 rfl hHeld ?_
              try simp only [Act.put, zS, eZ, eS]
              refine tkU 10 rfl hHeld ?_
              try simp only [Act.put, zS, eZ, eS]
              refine tkI 11 rfl hHeld ?_
              try simp only [Act.put, zS, eZ, eS]
              refine wpAnyH_done (by kernel_rfl) ?_ _
              clear hHeld
              have HBZ : Hid (Below W.heap.size W w6.drew) := by rw [Hid, HBB.out]; exact HB6W.out.drew
              go_wp2
              go_ret2
              exact ⟨⟨_, _, rfl, .inr (.inl ⟨HR.out, ousV_none HO.out.2 (ouV_none HT.out.2 HBAD.out), rfl, rfl⟩)⟩, HBZ.out⟩
            | true =>
              rw [show (if true = true then (0 : Int) else 1) = 0 from rfl]
              have KF : Hid (∀ X, Below B W X → Calls Tryz.prog 34 #[.agg #[.bool s1, .int .i64 vn, .slice a9 xn c9], .int .i64 kd] X fun e w' => e = .returned (.bool (isVal s1 vn vl kd)) ∧ Below X.heap.size X w') := fun X hX => by
                have hs := HS5.out
                rw [← HXN.out] at hs ⊢
                exact fits34 s1 vn kd (hs.below (hX.mono (by rw [HBB.out]; exact Nat.le_refl _))) HVL.out
              obtain ⟨iv, hiv⟩ : ∃ z, isVal s1 vn vl kd = z := ⟨_, rfl⟩
              rw [hiv] at KF HOT
              have HIV := hid hiv
              clear hiv
              have hbB : b < B := by rw [← HBB.out]; exact HCL.out.1
              have z3 := HCL.out.2.2
              have HP0 : Hid (Below B W w6.drew) := HB6W.out.drew
              have HX0 : Hid (Blk w6.drew xb #[.bool s1, .int .i64 vn, .slice a9 xn c9] 36) := HX6.out.drew
              refine wp_region_held_drew (S := (fun X : World => Blk X xb #[.bool s1, .int .i64 vn, .slice a9 xn c9] 36 ∧ Below B W X)) (by kernel_rfl) (⟨HX0.out, HP0.out⟩) (fun hHeld => ?_)
              refine tkI 0 rfl hHeld ?_
              try simp only [Act.put, zS, eZ, eS]
              refine tkI 1 rfl hHeld ?_
              try simp only [Act.put, zS, eZ, eS]
              refine tkI 2 rfl hHeld ?_
              try simp only [Act.put, zS, eZ, eS]
              refine tkI 3 rfl hHeld ?_ (hy := by intro w hSw; have u0 := hSw.1.cell 0; have u1 := hSw.1.cell 1; have u2 := hSw.1.cell 2; simp only [List.getElem?_toArray, List.getElem?_cons_succ, List.getElem?_cons_zero] at u0 u1 u2; go_simp <;> with_reducible rfl)
              try simp only [Act.put, zS, eZ, eS]
              refine tkI 4 rfl hHeld ?_
              try simp only [Act.put, zS, eZ, eS]
              refine tkI 5 rfl hHeld ?_
              try simp only [Act.put, zS, eZ, eS]
              refine tkI 6 rfl hHeld ?_
              try simp only [Act.put, zS, eZ, eS]
              refine tkI 7 rfl hHeld ?_
              try simp only [Act.put, zS, eZ, eS]
              refine tkI 8 rfl hHeld ?_ (hy := by intro w hSw; have y3 := (hSw.2.cell (p := ⟨b, off + k * 5 + 3, none⟩) hbB).trans z3; go_simp <;> with_reducible rfl)
              try simp only [Act.put, zS, eZ, eS]
              refine rdy 9 rfl fun K hK => ?_
              go_simp
              refine (KF.out _ HP0.out).mono ?_
              rintro e w7 ⟨rfl, hb7⟩
              have HB7 : Hid (Below B W w7) := HP0.out.trans (hb7.mono (by rw [← HBB.out]; exact HP0.out.size))
              have HX7 : Hid (Blk w7 xb #[.bool s1, .int .i64 vn, .slice a9 xn c9] 36) := HX0.out.below hb7
              have HI7 : Hid (Below wr.heap.size wr w7) := HB6.out.drew.trans (hb7.mono HB6.out.drew.size)
              clear hb7
              clear hHeld; refine hK.out _ _ (⟨HX7.out, HB7.out⟩) fun hHeld => ?_
              clear hK K
              try simp only [Act.put, zS, eZ, eS]
              refine tkI 10 rfl hHeld ?_
              try simp only [Act.put, zS, eZ, eS]
              refine tkI 11 rfl hHeld ?_
              try simp only [Act.put, zS, eZ, eS]
              refine wpAnyH_done (by kernel_rfl) ?_ _
              clear hHeld
              cases iv with
              | false =>
                have HBAD : Hid (okT o.kind vals t = false) := HOT
                have HBZ : Hid (Below W.heap.size W w7) := by rw [Hid, HBB.out]; exact HB7.out
                go_wp2
                go_ret2
                exact ⟨⟨_, _, rfl, .inr (.inl ⟨HR.out, ousV_none HO.out.2 (ouV_none HT.out.2 HBAD.out), rfl, rfl⟩)⟩, HBZ.out⟩
              | true =>
                have HGOOD : Hid (okT o.kind vals t = true) := HOT
                have u0 := HX7.out.cell 0
                have u1 := HX7.out.cell 1
                have u2 := HX7.out.cell 2
                simp only [List.getElem?_toArray, List.getElem?_cons_succ, List.getElem?_cons_zero] at u0 u1 u2
                have HRW : Hid (Blk (w7.alloc (Obj.cells #[.bool s1, .int .i64 vn, .slice a9 xn c9] 36)) w7.heap.size #[.bool s1, .int .i64 vn, .slice a9 xn c9] 36) := Blk.new _ _ _
                have hb8 : Below w7.heap.size w7 (w7.alloc (Obj.cells #[.bool s1, .int .i64 vn, .slice a9 xn c9] 36)) := (Below.refl _ _).alloc (Nat.le_refl _) _
                have HI8 : Hid (Below wr.heap.size wr (w7.alloc (Obj.cells #[.bool s1, .int .i64 vn, .slice a9 xn c9] 36))) := HI7.out.trans (hb8.mono HI7.out.size)
                have HO8 : Hid (Ow (w7.alloc (Obj.cells #[.bool s1, .int .i64 vn, .slice a9 xn c9] 36)) 36 u9 3 rows) := HO9.out.keep (fun g e => HI8.out.block g (HO9.out.lt e))
                have hHr : H ≤ wr.heap.size := by rw [← HHH.out]; exact HI.out.size
                have HH8 : Hid (Below H wo (w7.alloc (Obj.cells #[.bool s1, .int .i64 vn, .slice a9 xn c9] 36))) := HI.out.trans (HI8.out.mono hHr)
                have HS8 : Hid (H ≤ (w7.alloc (Obj.cells #[.bool s1, .int .i64 vn, .slice a9 xn c9] 36)).heap.size) := Nat.le_trans hHr HI8.out.size
                have hlr : rows.length ≤ 100000000 := by rw [HL9.out]; omega
                clear hb8 hHr
                go_wp2_with (at_builtin; refine list_app HO8.out 23 Tryz.underlying23 Tryz.info36 rfl (by decide) rfl (.tmp 59) (.tmp 61) rfl rfl ⟨w7.heap.size, 0, none⟩ 1 rfl [.bool s1, .int .i64 vn, .slice a9 xn c9] rfl (fun j u hu => by rw [Addr.add_lit, Nat.zero_add, HRW.out.cell j]; simpa using hu) (by intro u hu; simp at hu; rcases hu with rfl | rfl | rfl <;> rfl) hlr (by decide) ?_; intro d1 w9 hr1 hg1 hn1; refine Hid.out ?_)
                have HOZ : Hid (∀ t ∈ o.l.take (q + 1), okT o.kind vals t = true) := fun t' ht' => by
                  rw [List.take_add_one, HT.out.1] at ht'
                  rcases List.mem_append.1 ht' with r | r
                  · exact HOK.out t' r
                  · simp at r; subst r; exact HGOOD.out
                rw [Hid]
                go_wp2
                go_roundw
                case rel =>
                  refine ⟨q + 1, rows ++ [[Value.bool s1, Value.int .i64 vn, Value.slice a9 xn c9]], by omega, by go_num, by rw [Hid, List.length_append, HL9.out]; rfl, hr1, fun j t' c' h1 h2 => ?_, fun g e => ?_, HOZ, ?_⟩
                  · by_cases hj : j < q
                    · rw [List.getElem?_append_left (by rw [HL9.out]; exact hj)] at h2
                      exact HD9.out j t' c' h1 h2
                    · have hj2 : j = q := by have := (List.getElem?_eq_some_iff.1 h2).1; rw [List.length_append, HL9.out] at this; simp at this; omega
                      subst hj2
                      rw [HT.out.1] at h1
                      injection h1 with h1
                      subst h1
                      rw [List.getElem?_append_right (by rw [HL9.out]; exact Nat.le_refl _), HL9.out, Nat.sub_self] at h2
                      injection h2 with h2
                      exact ⟨_, by rw [← h2, HVV.out], by rw [HVV.out]; exact HS5.out⟩
                  · rcases hn1 g e with h1 | h1
                    · exact HG9.out g h1
                    · have := HS8.out; omega
                  · exact HH8.out.grown hg1 HS8.out HG9.out
                case measure => simp [intOf]; omega
          · have hlq' : ¬ (q : Int) < m := by omega
            obtain rfl : q = m := by omega
            have hall : o.l.take q = o.l := List.take_of_length_le (by rw [HMM.out]; exact Nat.le_refl _)
            have hov : ouV o vals = some (o.l.map fun t => (voV t vals).1) := ouV_some (fun t ht => HOK.out t (by rw [hall]; exact ht))
            have HXN : Hid (ousV (l.take (k + 1)) vals = some (xs ++ [o.l.map fun t => (voV t vals).1])) := by rw [Hid, HTK.out]; exact ousV_snoc HX.out hov
            obtain ⟨p9, c9, he9, _, _⟩ := HO9.out.shape
            rw [HL9.out] at he9
            subst he9
            have HRW : Hid (Blk (wr.alloc (Obj.cells #[.slice p9 q c9] 23)) wr.heap.size #[.slice p9 q c9] 23) := Blk.new _ _ _
            have hb8 : Below wr.heap.size wr (wr.alloc (Obj.cells #[.slice p9 q c9] 23)) := (Below.refl _ _).alloc (Nat.le_refl _) _
            have hHr : H ≤ wr.heap.size := by rw [← HHH.out]; exact HI.out.size
            have hI8 : Below H wo (wr.alloc (Obj.cells #[.slice p9 q c9] 23)) := HI.out.trans (hb8.mono hHr)
            have HO8 : Hid (Ow (wr.alloc (Obj.cells #[.slice p9 q c9] 23)) 23 u7 1 (ss.map fun x => [x])) := HO7.out.keep (fun g e => hI8.block g (by rw [← HHH.out]; exact HO7.out.lt e))
            have HB8 : Hid (Below B W (wr.alloc (Obj.cells #[.slice p9 q c9] 23))) := HBI.out.trans (hb8.mono (by rw [← HBB.out]; exact HBI.out.size))
            have HS8 : Hid (B ≤ (wr.alloc (Obj.cells #[.slice p9 q c9] 23)).heap.size) := by rw [Hid, ← HBB.out]; exact HB8.out.size
            have HD8 : Hid (∀ (j : Nat) (x : List Vl) (sj : Value), xs[j]? = some x → ss[j]? = some sj → Dx u7.ownBlock (wr.alloc (Obj.cells #[.slice p9 q c9] 23)) (fun w => SvX (fun b => b < 0) w sj x)) := fun j x sj h1 h2 => (HD7.out j x sj h1 h2).below (by rw [HHH.out]; exact hI8)
            have HN8 : Hid (Dx u7.ownBlock (wr.alloc (Obj.cells #[.slice p9 q c9] 23)) (fun w => SvX (fun b => b < 0) w (.slice p9 q c9) (o.l.map fun t => (voV t vals).1))) := by
              intro w' h1 h2
              have hs := hb8.size
              have h7 : ∀ g, u7.ownBlock = some g → B ≤ g ∧ g < H := fun g e => ⟨HG7.out g e, by rw [← HHH.out]; exact HO7.out.lt e⟩
              have hBs := HBI.out.size
              refine ow_svx (W := W) (w := wr) (B := 0) HO9.out (by rw [HL9.out, List.length_map, HMM.out]) (fun j v c h3 h4 => ?_) (by omega) (by omega) (fun b e => ?_) (fun b hb => ?_)
              · rw [List.getElem?_map, Option.map_eq_some_iff] at h3
                obtain ⟨t, h5, rfl⟩ := h3
                exact HD9.out j t c h5 h4
              · have hlt9 := HO9.out.lt e
                rw [h2 b (by omega) (fun e7 => by have := (h7 b e7).2; have := HG9.out b e; omega), hb8.block b hlt9]
              · rw [HBB.out] at hb
                rw [h2 b (by have := HBB.out; omega) (fun e7 => by have := (h7 b e7).1; omega), HB8.out.block b hb]
            have hlr : (ss.map fun x => [x]).length ≤ 100000000 := by
              have := ousV_len HX.out
              rw [List.length_take] at this
              rw [List.length_map, HSL.out]
              omega
            clear hall hov hb8 hHr hI8 HO9 HD9 HG9 HOK
            go_upto_region 16 with (fail)
            clear z2
            go_wp2_with (at_builtin; refine list_app HO8.out 28 Tryz.underlying28 Tryz.info23 rfl (by decide) rfl (.tmp 63) (.tmp 65) rfl rfl ⟨wr.heap.size, 0, none⟩ 1 rfl [.slice p9 q c9] rfl (fun j u hu => by rw [Addr.add_lit, Nat.zero_add, HRW.out.cell j]; simpa using hu) (by intro u hu; rw [List.mem_singleton.1 hu]; rfl) hlr (by decide) ?_; intro d1 w9 hr1 hg1 hn1; refine Hid.out ?_)
            rw [Hid]
            go_wp2
            go_roundw
            case rel =>
              refine ⟨k + 1, xs ++ [o.l.map fun t => (voV t vals).1], ss ++ [.slice p9 q c9], by omega, by go_num, HXN, by rw [Hid, List.length_append, List.length_append, HSL.out]; rfl, by rw [Hid, List.map_append]; exact hr1, fun j x sj h1 h2 => ?_, fun g e => ?_, ?_⟩
              · rcases Nat.lt_trichotomy j xs.length with r | r | r
                · rw [List.getElem?_append_left r] at h1
                  rw [List.getElem?_append_left (by rw [HSL.out]; exact r)] at h2
                  exact (HD8.out j x sj h1 h2).grow hg1 hn1
                · subst r
                  rw [List.getElem?_append_right (Nat.le_refl _), Nat.sub_self] at h1
                  rw [List.getElem?_append_right (by rw [HSL.out]; exact Nat.le_refl _), HSL.out, Nat.sub_self] at h2
                  simp at h1 h2
                  subst h1 h2
                  exact HN8.out.grow hg1 hn1
                · rw [List.getElem?_eq_none (by simp; omega)] at h1
                  cases h1
              · rcases hn1 g e with h1 | h1
                · exact HG7.out g h1
                · have := HS8.out; omega
              · exact HB8.out.grown hg1 HS8.out HG7.out
            case measure => simp [intOf]; omega
      · have hlt' : ¬ (k : Int) < n := by omega
        obtain rfl : k = n := by omega
        have HXA : Hid (ousV l vals = some xs) := by
          have := HX.out
          rwa [List.take_of_length_le (by rw [HN.out]; exact Nat.le_refl _)] at this
        have HFI : Hid (SvvX (fun b => b < 0) wo u7 xs) := ow_svvx HO7.out HSL.out (fun j x sj h1 h2 => (HD7.out j x sj h1 h2).here)
        have HBZ : Hid (Below W.heap.size W wo) := by rw [Hid, HBB.out]; exact HB.out
        go_wp2
        go_ret2
        exact ⟨⟨_, _, rfl, .inr (.inr ⟨HR.out, xs, HXA.out, rfl, HFI.out⟩)⟩, HBZ.out⟩
  · have HNE := hid hr0
    have hd1 : (r == 0) = false := by simpa using hr0
    have hd2 : (r != 0) = true := by simpa using hr0
    have hd3 : decide (r = 0) = false := by simpa using hr0
    have HBZ : Hid (Below W.heap.size W w1) := by rw [Hid, HBB.out]; exact HB1.out
    go_wp2
    go_ret2
    exact ⟨⟨_, _, rfl, .inl ⟨by rw [HR.out]; exact HNE.out, HR.out.symm, rfl⟩⟩, HBZ.out⟩
end Go.Proofs.YtdnhhmnllhlbbaaGreatDoor
