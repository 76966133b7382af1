/-
  What is proved here: The reference: a set's, a value's text.
-/
import Derived.Test.YtdnhhmnllhlbbaaGreatDoorQa
import Derived.Test.YtdnhhmnllhlbbaaGreatDoorOm
import Derived.Test.YtdnhhmnllhlbbaaGreatDoorOnj
namespace Go.Proofs.YtdnhhmnllhlbbaaGreatDoor
open Go.RowKit Go.Shelf
set_option linter.unusedVariables false
set_option linter.unusedSimpArgs false

set_option maxRecDepth 100000 in
set_option maxHeartbeats 4000000 in
theorem rtext54 {B : Nat} {W : World} {s : Value} {l : List Int} (h : Si B W s l) (hs : setOk l = true) (hT : Tens W) :
    Calls Tryz.prog 54 #[s] W fun e w' => e = .returned (.string (bs (123 :: sepT [44] (l.map Lib.itoa) ++ [125]))) ∧ Below W.heap.size W w' := by
  have kt := taken77 h hs
  obtain ⟨hl, hb⟩ := setOk_facts hs
  obtain ⟨a, c, rfl, h'⟩ := h
  have HA : Hid (Si B W (.slice a l.length c) l) := ⟨_, _, rfl, h'⟩
  obtain ⟨n, hn⟩ : ∃ n, l.length = n := ⟨_, rfl⟩
  have HN : Hid (l.length = n) := hn
  have HB : Hid (∀ x ∈ l, -1000000 ≤ x ∧ x ≤ 1000000) := hb
  have HT := hid hT
  rw [hn] at HA kt hl ⊢
  clear h' hs hb hT hn
  go_enter Tryz.func54, Tryz.ntmps54
  go_wp2_with fail
  refine kt.mono ?_
  rintro e w1 ⟨rfl, hb1⟩
  have HB1 := hid hb1
  clear kt hb1
  go_wp2
  go_loopw [3, 4] (fun t3 i wr => ∃ (k : Nat) (S : ByteArray), i = .int .i64 (k : Int) ∧ k ≤ n ∧ t3 = .string S ∧ Hid (S = bs (123 :: sepT [44] ((l.take k).map Lib.itoa))) ∧ S.size ≤ 1 + 22 * k ∧ Hid (Below W.heap.size W wr)) (fun _ i _ => n - (intOf i).toNat)
  case atStart => exact ⟨0, _, rfl, Nat.zero_le _, rfl, by simp [Hid, sepT]; rfl, by decide, HB1⟩
  case round =>
    obtain ⟨k, S, rfl, hk, rfl, HS, hsz, HBB⟩ := hrel
    by_cases hlt : k < n
    · have hlt' : (k : Int) < n := by omega
      obtain ⟨x, hx⟩ : ∃ x, l[k]? = some x := ⟨_, List.getElem?_eq_getElem (by rw [HN.out]; exact hlt)⟩
      obtain ⟨b1, o1, rfl, hb1, d1⟩ := HA.out.at hx
      have y1 := (HBB.out.cell (p := ⟨b1, o1 + k, none⟩) hb1).trans d1
      have hxb := HB.out x (List.mem_of_getElem? hx)
      have kf := fint68 x (by omega) (by omega) wr (HT.out.self HBB.out)
      have hil := Lib.itoa_length_le x (by omega) (by omega)
      have HTK : Hid ((l.take (k + 1)).map Lib.itoa = (l.take k).map Lib.itoa ++ [Lib.itoa x]) := by unfold Hid; rw [List.take_add_one, hx]; simp
      have HKL : Hid (((l.take k).map Lib.itoa).length = k) := by unfold Hid; rw [List.length_map, List.length_take, HN.out]; omega
      obtain ⟨T, hTe⟩ : ∃ T, bs (Lib.itoa x) = T := ⟨_, rfl⟩
      have htl : T.size ≤ 21 := by rw [← hTe, bs_size]; exact hil
      have HTE := hid hTe
      rw [hTe] at kf
      have hwk : IntKind.i64.wrap ((k : Int) + 1) = (k : Int) + 1 := by rw [IntKind.wrap_i64]; omega
      clear hx d1 hxb hil hTe hb1
      by_cases hk0 : 0 < k
      · have hk0' : (0 : Int) < (k : Int) := by omega
        have ha1 : S.size + 1 ≤ 9223372036854775807 := by omega
        have ha2 : S.size + 1 + T.size ≤ 9223372036854775807 := by omega
        have HF : Hid (S ++ ⟨#[44]⟩ ++ T = bs (123 :: sepT [44] ((l.take (k + 1)).map Lib.itoa))) := by
          unfold Hid
          rw [HTK.out, sepT_snoc, HKL.out, if_neg (by omega), HS.out, ← HTE.out]
          show bs _ ++ bs [44] ++ bs _ = _
          rw [bs_app, bs_app]
          simp
        have hsz2 : Hid ((S ++ ⟨#[44]⟩ ++ T).size ≤ 1 + 22 * (k + 1)) := by unfold Hid; rw [ByteArray.size_append, ByteArray.size_append]; have : (⟨#[44]⟩ : ByteArray).size = 1 := rfl; omega
        go_wp2_with fail
        refine kf.mono ?_
        rintro e w2 ⟨rfl, hb2⟩
        have HB2 : Hid (Below W.heap.size W w2) := HBB.out.trans (hb2.mono HBB.out.size)
        clear kf hb2 y1
        go_wp2
        go_roundw
        case rel => exact ⟨k + 1, _, by go_num, by omega, rfl, HF, hsz2.out, HB2⟩
        case measure => simp [intOf]; omega
      · have hk0' : ¬ (0 : Int) < (k : Int) := by omega
        have ha2 : S.size + T.size ≤ 9223372036854775807 := by omega
        have HF : Hid (S ++ T = bs (123 :: sepT [44] ((l.take (k + 1)).map Lib.itoa))) := by
          unfold Hid
          rw [HTK.out, sepT_snoc, HKL.out, if_pos (by omega), HS.out, ← HTE.out, bs_app]
          simp
        have hsz2 : Hid ((S ++ T).size ≤ 1 + 22 * (k + 1)) := by unfold Hid; rw [ByteArray.size_append]; omega
        go_wp2_with fail
        refine kf.mono ?_
        rintro e w2 ⟨rfl, hb2⟩
        have HB2 : Hid (Below W.heap.size W w2) := HBB.out.trans (hb2.mono HBB.out.size)
        clear kf hb2 y1
        go_wp2
        go_roundw
        case rel => exact ⟨k + 1, _, by go_num, by omega, rfl, HF, hsz2.out, HB2⟩
        case measure => simp [intOf]; omega
    · have hkn : k = n := by omega
      have hlt' : ¬ (k : Int) < n := by omega
      have HF : Hid (S ++ ⟨#[125]⟩ = bs (123 :: sepT [44] (l.map Lib.itoa) ++ [125])) := by
        unfold Hid
        have e : l.take k = l := by rw [hkn, ← HN.out]; exact List.take_length
        rw [HS.out, e]
        show bs _ ++ bs [125] = _
        rw [bs_app]
      have ha1 : S.size + 1 ≤ 9223372036854775807 := by omega
      go_wp2
      go_ret
      exact ⟨by show Ending.returned (Value.string (S ++ ⟨#[125]⟩)) = _; rw [HF.out]; rfl, HBB.out⟩

set_option maxRecDepth 100000 in
set_option maxHeartbeats 4000000 in
theorem rtext28 {B : Nat} {W : World} {sv : Value} (v : Vl) (k : Int) (h : Si B W sv v.s) (hv : isVal v.set v.n v.s k = true) (hT : Tens W) :
    Calls Tryz.prog 28 #[.agg #[.bool v.set, .int .i64 v.n, sv], .int .i64 k] W fun e w' => e = .returned (.string (bs (valT k v))) ∧ Below W.heap.size W w' := by
  obtain ⟨vs, vn, vl⟩ := v
  simp only at h hv ⊢
  obtain ⟨a1, c1, rfl, h1'⟩ := h
  obtain ⟨w1, hw1⟩ : ∃ w1, W.alloc (Obj.cells #[.bool vs, .int .i64 vn, .slice a1 vl.length c1] 36) = w1 := ⟨_, rfl⟩
  have hb1 : Below W.heap.size W w1 := by rw [← hw1]; exact (Below.refl _ _).alloc (Nat.le_refl _) _
  have HX1 : Hid (Blk w1 W.heap.size #[.bool vs, .int .i64 vn, .slice a1 vl.length c1] 36) := by rw [← hw1]; exact Blk.new _ _ _
  have HSI : Hid (Si B w1 (.slice a1 vl.length c1) vl) := (show Si B W (.slice a1 vl.length c1) vl from ⟨_, _, rfl, h1'⟩).below hb1
  have HB1 := hid hb1
  have HW := hid hw1
  have HT1 : Hid (Tens w1) := hT.self hb1
  rcases isVal_more (v := ⟨vs, vn, vl⟩) hv with ⟨rfl, h2, h3, h4⟩ | ⟨rfl, h2, h3, h4, h5⟩ | ⟨rfl, h2, h3, h4, h5⟩
  · have hl := (setOk_facts h4)
    have k54 := rtext54 HSI.out h4 HT1.out
    have hOK : Hid (setOk vl = true) := h4
    have HBD : Hid (∀ x ∈ vl, -1000000 ≤ x ∧ x ≤ 1000000) := hl.2
    obtain ⟨n, hn⟩ : ∃ n, vl.length = n := ⟨_, rfl⟩
    have HN := hid hn
    have hn64 : n ≤ 64 := by rw [← hn]; exact hl.1
    rw [hn] at HX1 HSI HW k54 ⊢
    have hw0 : IntKind.i64.wrap ((n : Int) - 1) = (n : Int) - 1 := by rw [IntKind.wrap_i64]; omega
    by_cases h1n : 1 < n
    · have h1n' : (1 : Int) < n := by omega
      obtain ⟨x, hx⟩ : ∃ x, vl[0]? = some x := ⟨_, List.getElem?_eq_getElem (by omega)⟩
      obtain ⟨y, hy⟩ : ∃ x, vl[n - 1]? = some x := ⟨_, List.getElem?_eq_getElem (by omega)⟩
      obtain ⟨b1, o1, rfl, hb1', d1⟩ := HSI.out.at hx
      obtain ⟨b2, o2, e2, hb2', d2⟩ := HSI.out.at hy
      injection e2 with e2
      injection e2 with e3 e4
      subst e3 e4
      rw [Nat.add_zero] at d1
      have hxb := HBD.out x (List.mem_of_getElem? hx)
      have hyb := HBD.out y (List.mem_of_getElem? hy)
      have HG : Hid (vl.getD 0 0 = x ∧ vl.getD (vl.length - 1) 0 = y) := by
        unfold Hid
        rw [hn]
        simp [List.getD, hx, hy]
      have HSP : Hid (spanB vl = decide (y - x = (n : Int) - 1)) := by
        unfold Hid spanB
        rw [HG.out.1, HG.out.2, hn]
        have : decide (2 ≤ n) = true := by simp; omega
        rw [this, Bool.true_and]
      have KD : Hid (∀ (z : Int) X, -1000000 ≤ z ∧ z ≤ 1000000 → Below W.heap.size W X → Calls Tryz.prog 41 #[.int .i64 z] X fun e w' => e = .returned (.string (bs (Lib.itoa z))) ∧ Below X.heap.size X w') := fun z X hz hX => dec41 z (by omega) (by omega) X (hT.self hX)
      have HC : Hid (b1 < w1.heap.size ∧ w1.cell? ⟨b1, o1, none⟩ = some (.int .i64 x) ∧ w1.cell? ⟨b1, o1 + (n - 1), none⟩ = some (.int .i64 y)) := ⟨hb1', d1, d2⟩
      have hwd : IntKind.i64.wrap (y - x) = y - x := by rw [IntKind.wrap_i64]; omega
      have hix : (n : Int) - 1 = ((n - 1 : Nat) : Int) := by omega
      clear hv h2 h3 h4 hl h1' hT hw1 hb1 hx hy hb1' hb2' d1 d2 hn
      obtain ⟨A, hA⟩ : ∃ A, W.heap.size = A := ⟨_, rfl⟩
      have HA := hid hA
      rw [hA] at HX1
      clear hA
      have z1 := HX1.out.cell 1
      have z2 := HX1.out.cell 2
      by_cases hsp : y - x = (n : Int) - 1
      · have hs1 : (y - x == (n : Int) - 1) = true := by simpa using hsp
        have hs2 : decide (y - x = (n : Int) - 1) = true := by simpa using hsp
        have HV : Hid (valT 3 ⟨vs, vn, vl⟩ = Lib.itoa x ++ [46, 46] ++ Lib.itoa y) := by
          show setT vl = _
          unfold setT
          rw [HSP.out, hs2, if_pos rfl, HG.out.1, HG.out.2]
          rfl
        have e1 := HC.out.2.1
        have e2 := HC.out.2.2
        clear hsp hs2 k54
        go_enter Tryz.func28, Tryz.ntmps28
        go_upto_region 1 with (fail)
        rw [HW.out, HA.out]
        clear HW
        go_wp2
        go_quiet (fail)
        obtain ⟨w2, hw2⟩ : ∃ q, w1.drewN nq = q := ⟨_, rfl⟩
        have HB2 : Hid (Below w1.heap.size w1 w2) := by rw [← hw2]; exact below_drewN (Below.refl _ _) _
        rw [hw2]
        clear hw2 e1 e2 z1 z2
        have HX2 : Hid (Blk w2 A #[.bool vs, .int .i64 vn, .slice (some ⟨b1, o1, none⟩) n c1] 36) := HX1.out.below HB2.out
        go_upto_region 9 with (fail)
        have HP0 : Hid (Below w1.heap.size w1 w2.drew) := HB2.out.drew
        have HX3 : Hid (Blk w2.drew A #[.bool vs, .int .i64 vn, .slice (some ⟨b1, o1, none⟩) n c1] 36) := HX2.out.below ((Below.refl _ _).drew)
        have hx9 : -1000000 ≤ x ∧ x ≤ 1000000 := hxb
        have hl1 := Lib.itoa_length_le x (by omega) (by omega)
        have hl2 := Lib.itoa_length_le y (by omega) (by omega)
        obtain ⟨X, hX⟩ : ∃ X, bs (Lib.itoa x) = X := ⟨_, rfl⟩
        obtain ⟨Y, hY⟩ : ∃ X, bs (Lib.itoa y) = X := ⟨_, rfl⟩
        have ha1 : X.size + 2 ≤ 9223372036854775807 := by rw [← hX, bs_size]; omega
        have ha2 : X.size + 2 + Y.size ≤ 9223372036854775807 := by rw [← hX, ← hY, bs_size, bs_size]; omega
        have HXY : Hid (X ++ ⟨#[46, 46]⟩ ++ Y = bs (Lib.itoa x ++ [46, 46] ++ Lib.itoa y)) := by
          unfold Hid
          rw [← hX, ← hY]
          show bs _ ++ bs [46, 46] ++ bs _ = _
          rw [bs_app, bs_app]
        have KX := fun Q (hQ : Below W.heap.size W Q) => KD.out x Q hxb hQ
        have KY := fun Q (hQ : Below W.heap.size W Q) => KD.out y Q hyb hQ
        rw [hX] at KX
        rw [hY] at KY
        have KX := hid KX
        have KY := hid KY
        clear hX hY hl1 hl2 hxb hyb hx9 KD
        have ha1n : ¬ 9223372036854775807 < X.size + 2 := by omega
        have ha2n : ¬ 9223372036854775807 < X.size + 2 + Y.size := by omega
        clear ha1 ha2
        have h0n : 0 < n := by omega
        have hw9 : IntKind.i64.wrap ((n - 1 : Nat) : Int) = ((n - 1 : Nat) : Int) := by rw [IntKind.wrap_i64]; omega
        have hl9 : ((n - 1 : Nat) : Int) < (n : Int) := by omega
        refine wp_region_held_drew (S := (fun Q : World => Blk Q A #[.bool vs, .int .i64 vn, .slice (some ⟨b1, o1, none⟩) n c1] 36 ∧ Below w1.heap.size w1 Q)) (by kernel_rfl) (⟨HX3.out, HP0.out⟩) (fun hHeld => ?_)
        refine tkI 0 rfl hHeld ?_
        try simp only [Act.put, zS, eZ, eS]
        refine tkI 1 rfl hHeld ?_ (hy := by intro w hSw; have z2 := hSw.1.cell 2; go_simp <;> with_reducible rfl)
        try simp only [Act.put, zS, eZ, eS]
        refine tkI 2 rfl hHeld ?_
        try simp only [Act.put, zS, eZ, eS]
        refine tkI 3 rfl hHeld ?_ (hy := by intro w hSw; have e1 := (hSw.2.cell (p := ⟨b1, o1, none⟩) HC.out.1).trans HC.out.2.1; go_simp <;> with_reducible rfl)
        try simp only [Act.put, zS, eZ, eS]
        refine tkI 6 rfl hHeld ?_
        try simp only [Act.put, zS, eZ, eS]
        refine tkI 7 rfl hHeld ?_ (hy := by intro w hSw; have z2 := hSw.1.cell 2; go_simp <;> with_reducible rfl)
        try simp only [Act.put, zS, eZ, eS]
        refine tkI 8 rfl hHeld ?_
        try simp only [Act.put, zS, eZ, eS]
        refine tkI 9 rfl hHeld ?_
        try simp only [Act.put, zS, eZ, eS]
        refine tkI 10 rfl hHeld ?_
        try simp only [Act.put, zS, eZ, eS]
        refine tkI 11 rfl hHeld ?_ (hy := by intro w hSw; have e2 := (hSw.2.cell (p := ⟨b1, o1 + (n - 1), none⟩) HC.out.1).trans HC.out.2.2; go_simp <;> with_reducible rfl)
        try simp only [Act.put, zS, eZ, eS]
        refine rdy 4 rfl fun K hK => ?_
        go_simp
        refine (KX.out _ (HB1.out.trans (HP0.out.mono HB1.out.size))).mono ?_
        rintro e w4 ⟨rfl, hb4⟩
        have HB4 : Hid (Below w1.heap.size w1 w4) := HP0.out.trans (hb4.mono HP0.out.size)
        have HX4 : Hid (Blk w4 A #[.bool vs, .int .i64 vn, .slice (some ⟨b1, o1, none⟩) n c1] 36) := HX3.out.below hb4
        clear hb4
        clear hHeld; refine hK.out _ _ (⟨HX4.out, HB4.out⟩) fun hHeld => ?_
        clear hK K
        try simp only [Act.put, zS, eZ, eS]
        refine tkI 5 rfl hHeld ?_
        try simp only [Act.put, zS, eZ, eS]
        refine rdy 12 rfl fun K hK => ?_
        go_simp
        refine (KY.out _ (HB1.out.trans (HB4.out.mono HB1.out.size))).mono ?_
        rintro e w5 ⟨rfl, hb5⟩
        have HB5 : Hid (Below w1.heap.size w1 w5) := HB4.out.trans (hb5.mono HB4.out.size)
        have HX5 : Hid (Blk w5 A #[.bool vs, .int .i64 vn, .slice (some ⟨b1, o1, none⟩) n c1] 36) := HX4.out.below hb5
        clear hb5
        clear hHeld; refine hK.out _ _ (⟨HX5.out, HB5.out⟩) fun hHeld => ?_
        clear hK K
        try simp only [Act.put, zS, eZ, eS]
        refine tkI 13 rfl hHeld ?_
        try simp only [Act.put, zS, eZ, eS]
        refine tkI 14 rfl hHeld ?_
        try simp only [Act.put, zS, eZ, eS]
        refine wpAnyH_done (by kernel_rfl) ?_ _
        clear hHeld
        go_wp2
        go_ret
        exact ⟨by show Ending.returned (Value.string (X ++ ⟨#[46, 46]⟩ ++ Y)) = _; rw [HXY.out, HV.out], HB1.out.trans (HB5.out.mono HB1.out.size)⟩
      · have hs1 : (y - x == (n : Int) - 1) = false := by simpa using hsp
        have hs2 : decide (y - x = (n : Int) - 1) = false := by simpa using hsp
        have HV : Hid (valT 3 ⟨vs, vn, vl⟩ = 123 :: sepT [44] (vl.map Lib.itoa) ++ [125]) := by
          show setT vl = _
          unfold setT
          rw [HSP.out, hs2]
          rfl
        have e1 := HC.out.2.1
        have e2 := HC.out.2.2
        have K54 : Hid (∀ Q, Below w1.heap.size w1 Q → Calls Tryz.prog 54 #[.slice (some ⟨b1, o1, none⟩) n c1] Q fun e w' => e = .returned (.string (bs (123 :: sepT [44] (vl.map Lib.itoa) ++ [125]))) ∧ Below Q.heap.size Q w') := fun Q hQ => rtext54 (HSI.out.below hQ) hOK.out (HT1.out.self hQ)
        clear hsp hs2 k54
        go_enter Tryz.func28, Tryz.ntmps28
        go_upto_region 1 with (fail)
        rw [HW.out, HA.out]
        clear HW
        go_wp2
        go_quiet (fail)
        obtain ⟨w2, hw2⟩ : ∃ q, w1.drewN nq = q := ⟨_, rfl⟩
        have HB2 : Hid (Below w1.heap.size w1 w2) := by rw [← hw2]; exact below_drewN (Below.refl _ _) _
        rw [hw2]
        clear hw2 e1 e2 z1 z2
        have HX2 : Hid (Blk w2 A #[.bool vs, .int .i64 vn, .slice (some ⟨b1, o1, none⟩) n c1] 36) := HX1.out.below HB2.out
        have z2 := HX2.out.cell 2
        have k54 := K54.out w2 HB2.out
        go_wp2_with fail
        refine k54.mono ?_
        rintro e w3 ⟨rfl, hb3⟩
        have HB3 : Hid (Below W.heap.size W w3) := HB1.out.trans ((HB2.out.trans (hb3.mono HB2.out.size)).mono HB1.out.size)
        clear k54 hb3
        go_wp2
        go_ret
        exact ⟨by show Ending.returned (Value.string (bs _)) = _; rw [HV.out]; rfl, HB3.out⟩
    · have h1n' : ¬ (1 : Int) < n := by omega
      have HV : Hid (valT 3 ⟨vs, vn, vl⟩ = 123 :: sepT [44] (vl.map Lib.itoa) ++ [125]) := by
        show setT vl = _
        unfold setT
        have : spanB vl = false := by unfold spanB; rw [hn]; have : decide (2 ≤ n) = false := by simp; omega
                                      rw [this]; rfl
        rw [this]
        rfl
      obtain ⟨A, hA⟩ : ∃ A, W.heap.size = A := ⟨_, rfl⟩
      have HA := hid hA
      rw [hA] at HX1
      clear hA hv h2 h3 h4 hl h1' hT hw1 hb1 hn k54
      have z1 := HX1.out.cell 1
      have z2 := HX1.out.cell 2
      have K54 : Hid (∀ Q, Below w1.heap.size w1 Q → Calls Tryz.prog 54 #[.slice a1 n c1] Q fun e w' => e = .returned (.string (bs (123 :: sepT [44] (vl.map Lib.itoa) ++ [125]))) ∧ Below Q.heap.size Q w') := fun Q hQ => rtext54 (HSI.out.below hQ) hOK.out (HT1.out.self hQ)
      go_enter Tryz.func28, Tryz.ntmps28
      go_upto_region 1 with (fail)
      rw [HW.out, HA.out]
      clear HW
      go_upto_region 8 with (fail)
      refine wp_region_held_drew (S := (fun _ : World => True)) (by kernel_rfl) (trivial) (fun hHeld => ?_)
      refine tkI 0 rfl hHeld ?_
      try simp only [Act.put, zS, eZ, eS]
      refine tkI 1 rfl hHeld ?_
      try simp only [Act.put, zS, eZ, eS]
      refine tkI 2 rfl hHeld ?_
      try simp only [Act.put, zS, eZ, eS]
      refine tkU 3 rfl hHeld ?_
      try simp only [Act.put, zS, eZ, eS]
      refine tkU 4 rfl hHeld ?_
      try simp only [Act.put, zS, eZ, eS]
      refine tkU 5 rfl hHeld ?_
      try simp only [Act.put, zS, eZ, eS]
      refine tkU 6 rfl hHeld ?_
      try simp only [Act.put, zS, eZ, eS]
      refine tkU 7 rfl hHeld ?_
      try simp only [Act.put, zS, eZ, eS]
      refine tkU 8 rfl hHeld ?_
      try simp only [Act.put, zS, eZ, eS]
      refine tkU 9 rfl hHeld ?_
      try simp only [Act.put, zS, eZ, eS]
      refine tkU 10 rfl hHeld ?_
      try simp only [Act.put, zS, eZ, eS]
      refine tkU 11 rfl hHeld ?_
      try simp only [Act.put, zS, eZ, eS]
      refine tkU 12 rfl hHeld ?_
      try simp only [Act.put, zS, eZ, eS]
      refine tkU 13 rfl hHeld ?_
      try simp only [Act.put, zS, eZ, eS]
      refine tkU 14 rfl hHeld ?_
      try simp only [Act.put, zS, eZ, eS]
      refine tkU 15 rfl hHeld ?_
      try simp only [Act.put, zS, eZ, eS]
      refine tkU 16 rfl hHeld ?_
      try simp only [Act.put, zS, eZ, eS]
      refine tkI 17 rfl hHeld ?_
      try simp only [Act.put, zS, eZ, eS]
      refine wpAnyH_done (by kernel_rfl) ?_ _
      clear hHeld
      obtain ⟨w2, hw2⟩ : ∃ q, w1.drew = q := ⟨_, rfl⟩
      have HB2 : Hid (Below w1.heap.size w1 w2) := by rw [← hw2]; exact (Below.refl _ _).drew
      rw [hw2]
      clear hw2 z1 z2
      have HX2 : Hid (Blk w2 A #[.bool vs, .int .i64 vn, .slice a1 n c1] 36) := HX1.out.below HB2.out
      have z2 := HX2.out.cell 2
      have k54 := K54.out w2 HB2.out
      go_wp2_with fail
      refine k54.mono ?_
      rintro e w3 ⟨rfl, hb3⟩
      have HB3 : Hid (Below W.heap.size W w3) := HB1.out.trans ((HB2.out.trans (hb3.mono HB2.out.size)).mono HB1.out.size)
      clear k54 hb3
      go_wp2
      go_ret
      exact ⟨by show Ending.returned (Value.string (bs _)) = _; rw [HV.out]; rfl, HB3.out⟩
  · have hn : vn = 0 ∨ vn = 1 := by have h4' : 0 ≤ vn := h4; have h5' : vn ≤ 1 := h5; omega
    clear h1' hT hw1 hb1 hv h2 h3 h4 h5 HSI HX1 HW HB1
    have hb1 : Below W.heap.size W (W.alloc (Obj.cells #[.bool vs, .int .i64 vn, .slice a1 vl.length c1] 36)) := (Below.refl _ _).alloc (Nat.le_refl _) _
    have HB1 := hid hb1
    clear hb1
    rcases hn with rfl | rfl
    · go_enter Tryz.func28, Tryz.ntmps28
      go_wp2
      go_ret
      exact ⟨rfl, HB1.out⟩
    · go_enter Tryz.func28, Tryz.ntmps28
      go_wp2
      go_ret
      exact ⟨rfl, HB1.out⟩
  · have kd := dec41 vn (by have h4' : -1000000 ≤ vn := h4; omega) (by have h5' : vn ≤ 1000000 := h5; omega) w1 HT1.out
    have HV : Hid (valT 2 ⟨vs, vn, vl⟩ = Lib.itoa vn) := rfl
    obtain ⟨A, hA⟩ : ∃ A, W.heap.size = A := ⟨_, rfl⟩
    have HA := hid hA
    rw [hA] at HX1
    clear hA hv h2 h3 h4 h5 h1' hT hw1 hb1
    have z1 := HX1.out.cell 1
    go_enter Tryz.func28, Tryz.ntmps28
    go_upto_region 1 with (fail)
    rw [HW.out, HA.out]
    clear HW
    go_wp2_with fail
    refine kd.mono ?_
    rintro e w3 ⟨rfl, hb3⟩
    have HB3 : Hid (Below W.heap.size W w3) := HB1.out.trans (hb3.mono HB1.out.size)
    clear kd hb3
    go_wp2
    go_ret
    exact ⟨by show Ending.returned (Value.string (bs _)) = _; rw [HV.out], HB3.out⟩
end Go.Proofs.YtdnhhmnllhlbbaaGreatDoor
