/-
  What is proved here: setOf, of a set that is written in braces; setOf of any set's text.
-/
import Derived.Test.YtdnhhmnllhlbbaaGreatDoorOzj
namespace Go.Proofs.YtdnhhmnllhlbbaaGreatDoor
open Go.RowKit Go.Shelf
set_option linter.unusedVariables false
set_option linter.unusedSimpArgs false
theorem br_num {c : UInt8} (h : c = 44 ∨ numB c = true) : brB c = false := by
  rcases h with rfl | h
  · decide
  · unfold brB
    rw [Bool.eq_false_iff]
    intro h2
    simp only [List.contains_cons, List.contains_nil, Bool.or_false, Bool.or_eq_true, beq_iff_eq] at h2
    rcases h2 with rfl | rfl <;> exact absurd h (by decide)
theorem trim_body {l : List Int} (hs : spanB l = false) : trL (trR (setT l)) = bodyT l := by
  rw [setT_body hs, ← List.cons_append, trR_snoc, show brB 125 = true by decide, if_pos rfl]
  rcases List.eq_nil_or_concat (bodyT l) with h | ⟨r, c, h⟩
  · rw [h]; decide
  · rw [List.concat_eq_append] at h
    rw [h, ← List.cons_append, trR_snoc, br_num (body_mem (c := c) (by rw [h]; simp)), if_neg (by decide), List.cons_append, trL_cons, show brB 123 = true by decide, if_pos rfl]
    cases r with
    | nil => rw [List.nil_append, trL_cons, br_num (body_mem (c := c) (by rw [h]; simp)), if_neg (by decide)]
    | cons d q => rw [List.cons_append, trL_cons, br_num (body_mem (c := d) (by rw [h]; simp)), if_neg (by decide)]

set_option maxRecDepth 100000 in
set_option maxHeartbeats 4000000 in
theorem setOf_body {W : World} (l : List Int) (h : setOk l = true) (hs : spanB l = false) (hM : MaxL W) :
    Calls Tryz.prog 124 #[.string (bs (setT l))] W fun e w' => ∃ sv, e = .returned (.agg #[.bool true, .int .i64 0, sv]) ∧ Si W.heap.size w' sv l ∧ Below W.heap.size W w' := by
  have hlen := (setOk_facts h).1
  have hbd := (setOk_facts h).2
  have hcut := cut_body hs
  have hl2 := (setT_len h).2
  have htr := trim_body hs
  have hlb : (bodyT l).length ≤ 1500 := by rw [setT_body hs] at hl2; simp only [List.length_cons, List.length_append, List.length_nil] at hl2; omega
  obtain ⟨w1, hw1⟩ : ∃ q, (W.alloc (Obj.cells #[.bool false, .int .i64 0, .slice none 0 0] 36)).alloc (Obj.cells #[.bool true, .int .i64 0, .slice none 0 0] 36) = q := ⟨_, rfl⟩
  obtain ⟨R, hR⟩ : ∃ R, W.heap.size = R := ⟨_, rfl⟩
  have hbe : Below W.heap.size W w1 := by rw [← hw1]; exact ((Below.refl _ _).alloc (Nat.le_refl _) _).alloc (by rw [World.size_alloc]; omega) _
  have HR1 : Hid (Blk w1 R #[.bool false, .int .i64 0, .slice none 0 0] 36) := by rw [← hw1, ← hR]; exact (Blk.new _ _ _).alloc _
  have HA1 : Hid (Blk w1 (R + 1) #[.bool true, .int .i64 0, .slice none 0 0] 36) := by
    rw [← hw1, ← hR]
    have := Blk.new (W.alloc (Obj.cells #[.bool false, .int .i64 0, .slice none 0 0] 36)) #[.bool true, .int .i64 0, .slice none 0 0] 36
    rw [World.size_alloc] at this
    exact this
  obtain ⟨A, hA⟩ : ∃ A, R + 1 = A := ⟨_, rfl⟩
  have HRA : Hid (R < A) := by unfold Hid; omega
  rw [hA] at HA1
  have HB1 : Hid (Below W.heap.size W w1) := hbe
  have HW1 : Hid _ := hw1
  have HWR : Hid (W.heap.size = R ∧ R + 1 = A) := ⟨hR, hA⟩
  have HM : Hid (MaxL W) := hM
  have kc := cut74 (setT l) [46, 46] w1 (hM.self hbe) (by omega)
  rw [hcut] at kc
  have kt : Hid (∀ X, Calls Tryz.prog 139 #[.string (bs (setT l)), .string ⟨#[123, 125]⟩] X fun e w' => e = .returned (.string (bs (bodyT l))) ∧ Below X.heap.size X w') := fun X => by
    have := trim139 (setT l) (by omega) X
    rwa [htr] at this
  have ks : Hid (∀ X, MaxL X → Calls Tryz.prog 94 #[.string (bs (bodyT l)), .string (bs [44])] X fun e w' => ∃ b, e = .returned (.slice (some ⟨b, 0, none⟩) (Lib.split (bodyT l) [44]).length (Lib.split (bodyT l) [44]).length) ∧ b < w'.heap.size ∧ (∀ i x, (Lib.split (bodyT l) [44])[i]? = some x → w'.cell? ⟨b, i, none⟩ = some (.string (bs x))) ∧ Below X.heap.size X w') := fun X hX => split94 (bodyT l) 44 X hX (by omega)
  obtain ⟨T, hT⟩ : ∃ T, bs (setT l) = T := ⟨_, rfl⟩
  rw [hT] at kc kt
  rw [hT]
  have HBD : Hid (setOk l = true ∧ l.length ≤ 64 ∧ ∀ x ∈ l, -1000000 ≤ x ∧ x ≤ 1000000) := ⟨h, hlen, hbd⟩
  clear hcut hl2 htr hbe h hs hM hT hw1 hR hA hlen hbd
  go_enter Tryz.func124, Tryz.ntmps124
  go_wp2_with fail
  rw [HW1.out, HWR.out.1, HWR.out.2]
  refine kc.mono ?_
  rintro e w2 ⟨rfl, hb2⟩
  have HR2 : Hid (Blk w2 R #[.bool false, .int .i64 0, .slice none 0 0] 36) := HR1.out.below hb2
  have HA2 : Hid (Blk w2 A #[.bool true, .int .i64 0, .slice none 0 0] 36) := HA1.out.below hb2
  have HB2 : Hid (Below W.heap.size W w2) := HB1.out.trans (hb2.mono HB1.out.size)
  clear kc HW1 hb2 HR1 HA1 HB1
  go_wp2_with fail
  refine (kt.out w2).mono ?_
  rintro e w3 ⟨rfl, hb3⟩
  have HR3 : Hid (Blk w3 R #[.bool false, .int .i64 0, .slice none 0 0] 36) := HR2.out.below hb3
  have HA3 : Hid (Blk w3 A #[.bool true, .int .i64 0, .slice none 0 0] 36) := HA2.out.below hb3
  have HB3 : Hid (Below W.heap.size W w3) := HB2.out.trans (hb3.mono HB2.out.size)
  clear kt hb3 HR2 HA2 HB2
  cases l with
  | nil =>
    have h0 : (bs (bodyT [])).toList = [] := bs_toList _
    have x0 := HA3.out.cell 0
    have x1 := HA3.out.cell 1
    have x2 := HA3.out.cell 2
    have y0 := HR3.out.cell 0
    have y1 := HR3.out.cell 1
    have y2 := HR3.out.cell 2
    have g0 := HR3.out.frozen 0
    have g1 := HR3.out.frozen 1
    have g2 := HR3.out.frozen 2
    go_wp2
    have HF : Blk (((w3.setCell ⟨R, 0, none⟩ (.bool true)).setCell ⟨R, 1, none⟩ (.int .i64 0)).setCell ⟨R, 2, none⟩ (.slice none 0 0)) R #[.bool true, .int .i64 0, .slice none 0 0] 36 := ((HR3.out.set 0 _).set 1 _).set 2 _
    have hge : W.heap.size ≤ R := by rw [HWR.out.1]; exact Nat.le_refl _
    exact ⟨rfl, _, res_36 rfl _ HF rfl, _, rfl, ⟨none, 0, rfl, fun h => by simp at h⟩, ((HB3.out.setCell hge _).setCell hge _).setCell hge _⟩
  | cons z r =>
    generalize hl9 : z :: r = l at *
    have hpos := body_pos (l := l) (by rw [← hl9]; simp)
    have hsp := body_split (l := l) (by rw [← hl9]; simp)
    have hne : (bs (bodyT l)).toList.isEmpty = false := bs_nee _ (by intro e; rw [e] at hpos; simp at hpos)
    rw [hsp] at ks
    have k94 := ks.out w3 (HM.out.self HB3.out)
    obtain ⟨n, hn⟩ : ∃ n, l.length = n := ⟨_, rfl⟩
    have HN : Hid (l.length = n) := hn
    rw [List.length_map, hn] at k94
    obtain ⟨B, hB⟩ : ∃ B, bs (bodyT l) = B := ⟨_, rfl⟩
    have HL9 : Hid (z :: r = l) := hl9
    rw [hB] at hne k94 ⊢
    clear hl9 hpos hsp hB hn ks hlb
    go_wp2_with fail
    refine ((show Calls Tryz.prog 94 #[.string B, .string ⟨#[44]⟩] _ _ from k94)).mono ?_
    rintro e w4 ⟨pb, rfl, hpl, hpc, hb4⟩
    have HP : Hid (pb < w4.heap.size ∧ ∀ i x, l[i]? = some x → w4.cell? ⟨pb, i, none⟩ = some (.string (bs (Lib.itoa x)))) := ⟨hpl, fun i x hx => hpc i (Lib.itoa x) (by rw [List.getElem?_map, hx]; rfl)⟩
    have HR4 : Hid (Blk w4 R #[.bool false, .int .i64 0, .slice none 0 0] 36) := HR3.out.below hb4
    have HA4 : Hid (Blk w4 A #[.bool true, .int .i64 0, .slice none 0 0] 36) := HA3.out.below hb4
    have HB4 : Hid (Below W.heap.size W w4) := HB3.out.trans (hb4.mono HB3.out.size)
    clear k94 hpl hpc hb4 HR3 HA3 HB3 hne
    have hn64 : n ≤ 64 := by have := HBD.out.2.1; have := HN.out; omega
    have HPA : Hid (pb ≠ A) := fun e => by
      have h1 := HP.out.2 0 z (by rw [← HL9.out]; rfl)
      rw [e, HA4.out.cell 0] at h1
      injection h1 with h1
      cases h1
    go_wp2
    go_loopw [53] (fun i wr => ∃ (k : Nat) (S : Value), k ≤ n ∧ i = .int .i64 (k : Int) ∧ Hid (Blk wr A #[.bool true, .int .i64 0, S] 36) ∧ Hid (Blk wr R #[.bool false, .int .i64 0, .slice none 0 0] 36) ∧ Hid (OwI wr S (l.take k)) ∧ Hid (∀ b, S.ownBlock = some b → A < b ∧ w4.heap.size ≤ b) ∧ Hid (Below W.heap.size W wr) ∧ Hid (Kept (fun b => b = A) w4 wr)) (fun i _ => n - (intOf i).toNat)
    case atStart => exact ⟨0, .slice none 0 0, Nat.zero_le _, rfl, HA4, HR4, ⟨by simp, World.ownsRow_nil _ _ _ _⟩, fun b e => by (cases e), HB4, Kept.refl _ _⟩
    case round =>
      obtain ⟨k, S, hk, rfl, HA, HR, HS, HO, HB, HKP⟩ := hrel
      obtain ⟨sa, sc, rfl, _, _⟩ := HS.out.shape
      have hkl : ((l.take k).map fun x => [Value.int .i64 x]).length = k := by rw [List.length_map, List.length_take]; have := HN.out; omega
      rw [hkl] at HA HS HO
      by_cases hlt : k < n
      · have hlt' : (k : Int) < (n : Int) := by omega
        obtain ⟨x, hx⟩ : ∃ x, l[k]? = some x := ⟨_, List.getElem?_eq_getElem (by rw [HN.out]; exact hlt)⟩
        have hxb := HBD.out.2.2 x (List.mem_of_getElem? hx)
        have hpA := HPA.out
        have y0 : wr.cell? ⟨pb, k, none⟩ = some (.string (bs (Lib.itoa x))) := (HKP.out.cell HP.out.1 hpA k).trans (HP.out.2 k x hx)
        have HTK : Hid (l.take (k + 1) = l.take k ++ [x]) := by unfold Hid; rw [List.take_add_one, hx]; rfl
        have KN : Hid (∀ X, Calls Tryz.prog 96 #[.string (bs (Lib.itoa x))] X fun e w' => e = .returned (.agg #[.bool false, .int .i64 x, .slice none 0 0]) ∧ Below X.heap.size X w') := fun X => number96 x (by omega) (by omega) X
        obtain ⟨tx, htx⟩ : ∃ q, bs (Lib.itoa x) = q := ⟨_, rfl⟩
        have hk1 : IntKind.i64.wrap ((k : Int) + 1) = (k : Int) + 1 := by rw [IntKind.wrap_i64]; omega
        have HKL : Hid (((l.take k).map fun x => [Value.int .i64 x]).length = k) := hkl
        rw [htx] at y0 KN
        clear hx hxb htx hkl hpA
        go_upto_region 16 with (fail)
        have fx := fld36 x
        have HD0 : Hid (Below wr.heap.size wr wr.drew) := (Below.refl _ _).drew
        clear y0
        refine wp_region_held_drew (S := (fun _ : World => True)) (by kernel_rfl) (trivial) (fun hHeld => ?_)
        refine tkI 0 rfl hHeld ?_
        try simp only [Act.put, zS, eZ, eS]
        refine tkI 2 rfl hHeld ?_
        try simp only [Act.put, zS, eZ, eS]
        refine rd2 1 3 (fun K hK => ?_) (fun K hK => ?_)
        · have z5 : wr.drew.cell? ⟨A, 2, none⟩ = some (.slice sa k sc) := (HA.out.below HD0.out).cell 2
          go_simp
          clear z5
          clear hHeld; refine hK.out _ _ (trivial) fun hHeld => ?_
          clear hK K
          try simp only [Act.put, zS, eZ, eS]
          refine rdy 3 rfl fun K hK => ?_
          go_simp
          refine (KN.out _).mono ?_
          rintro e wa ⟨rfl, hba⟩
          have HBa : Hid (Below wr.heap.size wr wa) := HD0.out.trans (hba.mono HD0.out.size)
          clear hba
          clear hHeld; refine hK.out _ _ (trivial) fun hHeld => ?_
          clear hK K
          try simp only [Act.put, zS, eZ, eS]
          refine tkI 4 rfl hHeld ?_
          try simp only [Act.put, zS, eZ, eS]
          refine rdy 5 rfl fun K hK => ?_
          obtain ⟨bq, hbq⟩ : ∃ q, wa.heap.size = q := ⟨_, rfl⟩
          go_simp
          (try rw [hbq])
          obtain ⟨wb, hwb⟩ : ∃ q, wa.alloc (Obj.cells #[.int .i64 x] 2) = q := ⟨_, rfl⟩
          rw [hwb]
          have HBb : Hid (Below wr.heap.size wr wb) := by rw [← hwb]; exact HBa.out.alloc HBa.out.size _
          have HRB : Hid (Blk wb bq #[.int .i64 x] 2) := by rw [← hwb, ← hbq]; exact Blk.new _ _ _
          clear hwb hbq
          clear hHeld; refine hK.out _ _ (trivial) fun hHeld => ?_
          clear hK K
          try simp only [Act.put, zS, eZ, eS]
          refine rdy 6 rfl fun K hK => ?_
          have HOW : Hid (Ow wb 2 (.slice sa k sc) 1 ((l.take k).map fun x => [Value.int .i64 x])) := HS.out.keep (fun g hg => HBb.out.block g (HS.out.lt hg))
          refine step_app HOW.out 34 Tryz.underlying34 Tryz.info2 rfl (by decide) rfl _ _ rfl rfl ⟨bq, 0, none⟩ 1 (by with_unfolding_all rfl) [.int .i64 x] rfl (fun j u hj => by rw [Addr.add_lit, Nat.zero_add, HRB.out.cell]; simpa using hj) (by intro u hu; rw [List.mem_singleton.1 hu]; rfl) (by rw [HKL.out]; omega) (by decide) ?_
          intro v6 w6 h61 h62 h63
          obtain ⟨va, vc, rfl, _, _⟩ := h61.shape
          have HA6 : Hid (Blk w6 A #[.bool true, .int .i64 0, .slice sa k sc] 36) := ⟨(h62.block A (HA.out.below HBb.out).lt (fun e => by have := HO.out A e.symm; omega)).trans (HA.out.below HBb.out).h⟩
          have HR6 : Hid (Blk w6 R #[.bool false, .int .i64 0, .slice none 0 0] 36) := ⟨(h62.block R (HR.out.below HBb.out).lt (fun e => by have := HO.out R e.symm; have := HRA.out; omega)).trans (HR.out.below HBb.out).h⟩
          have HB6 : Hid (Below W.heap.size W w6) := (HB.out.trans (HBb.out.mono HB.out.size)).grown h62 (HB.out.trans (HBb.out.mono HB.out.size)).size (fun b e => by have := HO.out b e; have := HRA.out; have := HWR.out.1; omega)
          have HS6 : Hid (OwI w6 (.slice va ((l.take k).map (fun x => [Value.int .i64 x]) ++ [[Value.int .i64 x]]).length vc) (l.take (k + 1))) := by unfold Hid OwI; rw [HTK.out, List.map_append]; exact h61
          have HO6 : Hid (∀ b, (Value.slice va ((l.take k).map (fun x => [Value.int .i64 x]) ++ [[Value.int .i64 x]]).length vc).ownBlock = some b → A < b ∧ w4.heap.size ≤ b) := fun b e => by
            rcases h63 b e with h | h
            · exact HO.out b h
            · have := HBb.out.size; have := HKP.out.size; have := HA.out.lt; omega
          have HKQ : Hid (Kept (fun b => b = A) w4 w6) := ⟨h62.os.trans (HBb.out.os.trans HKP.out.os), h62.tape.trans (HBb.out.tape.trans HKP.out.tape), h62.output.trans (HBb.out.output.trans HKP.out.output), Nat.le_trans HKP.out.size (Nat.le_trans HBb.out.size h62.size), fun b hb hA => (h62.block b (Nat.lt_of_lt_of_le hb (Nat.le_trans HKP.out.size HBb.out.size)) (fun e => by have := HO.out b e.symm; omega)).trans ((HBb.out.block b (Nat.lt_of_lt_of_le hb HKP.out.size)).trans (HKP.out.block b hb hA))⟩
          have hk1 : ((l.take k).map (fun x => [Value.int .i64 x]) ++ [[Value.int .i64 x]]).length = k + 1 := by rw [List.length_append, HKL.out]; rfl
          rw [hk1] at HS6 HO6 ⊢
          obtain ⟨m, hm⟩ : ∃ m, k + 1 = m := ⟨_, rfl⟩
          have HMM : Hid (k + 1 = m) := hm
          rw [hm] at HS6 HO6 ⊢
          clear hk1 hm h61 h62 h63
          clear hHeld; refine hK.out _ _ (trivial) fun hHeld => ?_
          clear hK K
          try simp only [Act.put, zS, eZ, eS]
          refine tkI 7 rfl hHeld ?_
          try simp only [Act.put, zS, eZ, eS]
          refine rdy 8 rfl fun K hK => ?_
          have y2 := HA6.out.cell 2
          have g2 := HA6.out.frozen 2
          go_simp
          clear y2 g2
          clear hHeld; refine hK.out _ _ (trivial) fun hHeld => ?_
          clear hK K
          try simp only [Act.put, zS, eZ, eS]
          refine wpAnyH_done (by kernel_rfl) ?_ _
          go_wp2
          go_roundw
          case rel =>
            have hM := HMM.out
            refine ⟨m, .slice va m vc, by omega, by go_num, HA6.out.set 2 _, HR6.out.other (by have := HRA.out; omega) 2 _, HS6.out.keep (fun g hg => Below.heap_setCell _ _ _ _ (by have := HO6.out g hg; show g ≠ A; omega)), HO6, HB6.out.setCell (by have := HRA.out; have := HWR.out.1; show W.heap.size ≤ A; omega) _, HKQ.out.setCell rfl _ _⟩
          case measure => have hM := HMM.out; simp [intOf]; omega
        · go_simp
          refine (KN.out _).mono ?_
          rintro e wa ⟨rfl, hba⟩
          have HBa : Hid (Below wr.heap.size wr wa) := HD0.out.trans (hba.mono HD0.out.size)
          clear hba
          clear hHeld; refine hK.out _ _ (trivial) fun hHeld => ?_
          clear hK K
          try simp only [Act.put, zS, eZ, eS]
          refine tkI 4 rfl hHeld ?_
          try simp only [Act.put, zS, eZ, eS]
          refine rd2 1 5 (fun K hK => ?_) (fun K hK => ?_)
          · have z5 : wa.cell? ⟨A, 2, none⟩ = some (.slice sa k sc) := (HA.out.below HBa.out).cell 2
            go_simp
            clear z5
            clear hHeld; refine hK.out _ _ (trivial) fun hHeld => ?_
            clear hK K
            try simp only [Act.put, zS, eZ, eS]
            refine rdy 5 rfl fun K hK => ?_
            obtain ⟨bq, hbq⟩ : ∃ q, wa.heap.size = q := ⟨_, rfl⟩
            go_simp
            (try rw [hbq])
            obtain ⟨wb, hwb⟩ : ∃ q, wa.alloc (Obj.cells #[.int .i64 x] 2) = q := ⟨_, rfl⟩
            rw [hwb]
            have HBb : Hid (Below wr.heap.size wr wb) := by rw [← hwb]; exact HBa.out.alloc HBa.out.size _
            have HRB : Hid (Blk wb bq #[.int .i64 x] 2) := by rw [← hwb, ← hbq]; exact Blk.new _ _ _
            clear hwb hbq
            clear hHeld; refine hK.out _ _ (trivial) fun hHeld => ?_
            clear hK K
            try simp only [Act.put, zS, eZ, eS]
            refine rdy 6 rfl fun K hK => ?_
            have HOW : Hid (Ow wb 2 (.slice sa k sc) 1 ((l.take k).map fun x => [Value.int .i64 x])) := HS.out.keep (fun g hg => HBb.out.block g (HS.out.lt hg))
            refine step_app HOW.out 34 Tryz.underlying34 Tryz.info2 rfl (by decide) rfl _ _ rfl rfl ⟨bq, 0, none⟩ 1 (by with_unfolding_all rfl) [.int .i64 x] rfl (fun j u hj => by rw [Addr.add_lit, Nat.zero_add, HRB.out.cell]; simpa using hj) (by intro u hu; rw [List.mem_singleton.1 hu]; rfl) (by rw [HKL.out]; omega) (by decide) ?_
            intro v6 w6 h61 h62 h63
            obtain ⟨va, vc, rfl, _, _⟩ := h61.shape
            have HA6 : Hid (Blk w6 A #[.bool true, .int .i64 0, .slice sa k sc] 36) := ⟨(h62.block A (HA.out.below HBb.out).lt (fun e => by have := HO.out A e.symm; omega)).trans (HA.out.below HBb.out).h⟩
            have HR6 : Hid (Blk w6 R #[.bool false, .int .i64 0, .slice none 0 0] 36) := ⟨(h62.block R (HR.out.below HBb.out).lt (fun e => by have := HO.out R e.symm; have := HRA.out; omega)).trans (HR.out.below HBb.out).h⟩
            have HB6 : Hid (Below W.heap.size W w6) := (HB.out.trans (HBb.out.mono HB.out.size)).grown h62 (HB.out.trans (HBb.out.mono HB.out.size)).size (fun b e => by have := HO.out b e; have := HRA.out; have := HWR.out.1; omega)
            have HS6 : Hid (OwI w6 (.slice va ((l.take k).map (fun x => [Value.int .i64 x]) ++ [[Value.int .i64 x]]).length vc) (l.take (k + 1))) := by unfold Hid OwI; rw [HTK.out, List.map_append]; exact h61
            have HO6 : Hid (∀ b, (Value.slice va ((l.take k).map (fun x => [Value.int .i64 x]) ++ [[Value.int .i64 x]]).length vc).ownBlock = some b → A < b ∧ w4.heap.size ≤ b) := fun b e => by
              rcases h63 b e with h | h
              · exact HO.out b h
              · have := HBb.out.size; have := HKP.out.size; have := HA.out.lt; omega
            have HKQ : Hid (Kept (fun b => b = A) w4 w6) := ⟨h62.os.trans (HBb.out.os.trans HKP.out.os), h62.tape.trans (HBb.out.tape.trans HKP.out.tape), h62.output.trans (HBb.out.output.trans HKP.out.output), Nat.le_trans HKP.out.size (Nat.le_trans HBb.out.size h62.size), fun b hb hA => (h62.block b (Nat.lt_of_lt_of_le hb (Nat.le_trans HKP.out.size HBb.out.size)) (fun e => by have := HO.out b e.symm; omega)).trans ((HBb.out.block b (Nat.lt_of_lt_of_le hb HKP.out.size)).trans (HKP.out.block b hb hA))⟩
            have hk1 : ((l.take k).map (fun x => [Value.int .i64 x]) ++ [[Value.int .i64 x]]).length = k + 1 := by rw [List.length_append, HKL.out]; rfl
            rw [hk1] at HS6 HO6 ⊢
            obtain ⟨m, hm⟩ : ∃ m, k + 1 = m := ⟨_, rfl⟩
            have HMM : Hid (k + 1 = m) := hm
            rw [hm] at HS6 HO6 ⊢
            clear hk1 hm h61 h62 h63
            clear hHeld; refine hK.out _ _ (trivial) fun hHeld => ?_
            clear hK K
            try simp only [Act.put, zS, eZ, eS]
            refine tkI 7 rfl hHeld ?_
            try simp only [Act.put, zS, eZ, eS]
            refine rdy 8 rfl fun K hK => ?_
            have y2 := HA6.out.cell 2
            have g2 := HA6.out.frozen 2
            go_simp
            clear y2 g2
            clear hHeld; refine hK.out _ _ (trivial) fun hHeld => ?_
            clear hK K
            try simp only [Act.put, zS, eZ, eS]
            refine wpAnyH_done (by kernel_rfl) ?_ _
            go_wp2
            go_roundw
            case rel =>
              have hM := HMM.out
              refine ⟨m, .slice va m vc, by omega, by go_num, HA6.out.set 2 _, HR6.out.other (by have := HRA.out; omega) 2 _, HS6.out.keep (fun g hg => Below.heap_setCell _ _ _ _ (by have := HO6.out g hg; show g ≠ A; omega)), HO6, HB6.out.setCell (by have := HRA.out; have := HWR.out.1; show W.heap.size ≤ A; omega) _, HKQ.out.setCell rfl _ _⟩
            case measure => have hM := HMM.out; simp [intOf]; omega
          · obtain ⟨bq, hbq⟩ : ∃ q, wa.heap.size = q := ⟨_, rfl⟩
            go_simp
            (try rw [hbq])
            obtain ⟨wb, hwb⟩ : ∃ q, wa.alloc (Obj.cells #[.int .i64 x] 2) = q := ⟨_, rfl⟩
            rw [hwb]
            have HBb : Hid (Below wr.heap.size wr wb) := by rw [← hwb]; exact HBa.out.alloc HBa.out.size _
            have HRB : Hid (Blk wb bq #[.int .i64 x] 2) := by rw [← hwb, ← hbq]; exact Blk.new _ _ _
            clear hwb hbq
            clear hHeld; refine hK.out _ _ (trivial) fun hHeld => ?_
            clear hK K
            try simp only [Act.put, zS, eZ, eS]
            refine rdy 1 rfl fun K hK => ?_
            have z5 : wb.cell? ⟨A, 2, none⟩ = some (.slice sa k sc) := (HA.out.below HBb.out).cell 2
            go_simp
            clear z5
            clear hHeld; refine hK.out _ _ (trivial) fun hHeld => ?_
            clear hK K
            try simp only [Act.put, zS, eZ, eS]
            refine rdy 6 rfl fun K hK => ?_
            have HOW : Hid (Ow wb 2 (.slice sa k sc) 1 ((l.take k).map fun x => [Value.int .i64 x])) := HS.out.keep (fun g hg => HBb.out.block g (HS.out.lt hg))
            refine step_app HOW.out 34 Tryz.underlying34 Tryz.info2 rfl (by decide) rfl _ _ rfl rfl ⟨bq, 0, none⟩ 1 (by with_unfolding_all rfl) [.int .i64 x] rfl (fun j u hj => by rw [Addr.add_lit, Nat.zero_add, HRB.out.cell]; simpa using hj) (by intro u hu; rw [List.mem_singleton.1 hu]; rfl) (by rw [HKL.out]; omega) (by decide) ?_
            intro v6 w6 h61 h62 h63
            obtain ⟨va, vc, rfl, _, _⟩ := h61.shape
            have HA6 : Hid (Blk w6 A #[.bool true, .int .i64 0, .slice sa k sc] 36) := ⟨(h62.block A (HA.out.below HBb.out).lt (fun e => by have := HO.out A e.symm; omega)).trans (HA.out.below HBb.out).h⟩
            have HR6 : Hid (Blk w6 R #[.bool false, .int .i64 0, .slice none 0 0] 36) := ⟨(h62.block R (HR.out.below HBb.out).lt (fun e => by have := HO.out R e.symm; have := HRA.out; omega)).trans (HR.out.below HBb.out).h⟩
            have HB6 : Hid (Below W.heap.size W w6) := (HB.out.trans (HBb.out.mono HB.out.size)).grown h62 (HB.out.trans (HBb.out.mono HB.out.size)).size (fun b e => by have := HO.out b e; have := HRA.out; have := HWR.out.1; omega)
            have HS6 : Hid (OwI w6 (.slice va ((l.take k).map (fun x => [Value.int .i64 x]) ++ [[Value.int .i64 x]]).length vc) (l.take (k + 1))) := by unfold Hid OwI; rw [HTK.out, List.map_append]; exact h61
            have HO6 : Hid (∀ b, (Value.slice va ((l.take k).map (fun x => [Value.int .i64 x]) ++ [[Value.int .i64 x]]).length vc).ownBlock = some b → A < b ∧ w4.heap.size ≤ b) := fun b e => by
              rcases h63 b e with h | h
              · exact HO.out b h
              · have := HBb.out.size; have := HKP.out.size; have := HA.out.lt; omega
            have HKQ : Hid (Kept (fun b => b = A) w4 w6) := ⟨h62.os.trans (HBb.out.os.trans HKP.out.os), h62.tape.trans (HBb.out.tape.trans HKP.out.tape), h62.output.trans (HBb.out.output.trans HKP.out.output), Nat.le_trans HKP.out.size (Nat.le_trans HBb.out.size h62.size), fun b hb hA => (h62.block b (Nat.lt_of_lt_of_le hb (Nat.le_trans HKP.out.size HBb.out.size)) (fun e => by have := HO.out b e.symm; omega)).trans ((HBb.out.block b (Nat.lt_of_lt_of_le hb HKP.out.size)).trans (HKP.out.block b hb hA))⟩
            have hk1 : ((l.take k).map (fun x => [Value.int .i64 x]) ++ [[Value.int .i64 x]]).length = k + 1 := by rw [List.length_append, HKL.out]; rfl
            rw [hk1] at HS6 HO6 ⊢
            obtain ⟨m, hm⟩ : ∃ m, k + 1 = m := ⟨_, rfl⟩
            have HMM : Hid (k + 1 = m) := hm
            rw [hm] at HS6 HO6 ⊢
            clear hk1 hm h61 h62 h63
            clear hHeld; refine hK.out _ _ (trivial) fun hHeld => ?_
            clear hK K
            try simp only [Act.put, zS, eZ, eS]
            refine tkI 7 rfl hHeld ?_
            try simp only [Act.put, zS, eZ, eS]
            refine rdy 8 rfl fun K hK => ?_
            have y2 := HA6.out.cell 2
            have g2 := HA6.out.frozen 2
            go_simp
            clear y2 g2
            clear hHeld; refine hK.out _ _ (trivial) fun hHeld => ?_
            clear hK K
            try simp only [Act.put, zS, eZ, eS]
            refine wpAnyH_done (by kernel_rfl) ?_ _
            go_wp2
            go_roundw
            case rel =>
              have hM := HMM.out
              refine ⟨m, .slice va m vc, by omega, by go_num, HA6.out.set 2 _, HR6.out.other (by have := HRA.out; omega) 2 _, HS6.out.keep (fun g hg => Below.heap_setCell _ _ _ _ (by have := HO6.out g hg; show g ≠ A; omega)), HO6, HB6.out.setCell (by have := HRA.out; have := HWR.out.1; show W.heap.size ≤ A; omega) _, HKQ.out.setCell rfl _ _⟩
            case measure => have hM := HMM.out; simp [intOf]; omega
      · have hkn : k = n := by omega
        have htk : l.take k = l := by rw [hkn, ← HN.out]; exact List.take_length
        subst hkn
        have hlt' : ¬ (k : Int) < (k : Int) := by omega
        rw [htk] at HS
        have x0 := HA.out.cell 0
        have x1 := HA.out.cell 1
        have x2 := HA.out.cell 2
        have y0 := HR.out.cell 0
        have y1 := HR.out.cell 1
        have y2 := HR.out.cell 2
        have g0 := HR.out.frozen 0
        have g1 := HR.out.frozen 1
        have g2 := HR.out.frozen 2
        clear htk hkl
        go_wp2
        have HF : Blk (((wr.setCell ⟨R, 0, none⟩ (.bool true)).setCell ⟨R, 1, none⟩ (.int .i64 0)).setCell ⟨R, 2, none⟩ (.slice sa k sc)) R #[.bool true, .int .i64 0, .slice sa k sc] 36 := ((HR.out.set 0 _).set 1 _).set 2 _
        have hne : ∀ g, (Value.slice sa k sc).ownBlock = some g → g ≠ R := fun g hg => by have := HO.out g hg; have := HRA.out; omega
        have hge : W.heap.size ≤ R := by rw [HWR.out.1]; exact Nat.le_refl _
        refine ⟨rfl, _, res_36 rfl _ HF rfl, _, rfl, ?_, ((HB.out.setCell hge _).setCell hge _).setCell hge _⟩
        rw [HL9.out]
        exact OwI.si (((HS.out.keep (fun g hg => Below.heap_setCell _ _ _ _ (hne g hg))).keep (fun g hg => Below.heap_setCell _ _ _ _ (hne g hg))).keep (fun g hg => Below.heap_setCell _ _ _ _ (hne g hg))) (fun g hg => by have := HO.out g hg; have := HRA.out; omega)
theorem setOf124 {W : World} (l : List Int) (h : setOk l = true) (hM : MaxL W) :
    Calls Tryz.prog 124 #[.string (bs (setT l))] W fun e w' => ∃ sv, e = .returned (.agg #[.bool true, .int .i64 0, sv]) ∧ Si W.heap.size w' sv l ∧ Below W.heap.size W w' := by
  cases hs : spanB l with
  | true => exact setOf_span l h hs hM
  | false => exact setOf_body l h hs hM
end Go.Proofs.YtdnhhmnllhlbbaaGreatDoor
