/-
  What is proved here: The reference: a value, what stands ahead of an output's values and behind them.
-/
import Derived.Test.YtdnhhmnllhlbbaaGreatDoorQb
import Derived.Test.YtdnhhmnllhlbbaaGreatDoorOq
import Derived.Test.YtdnhhmnllhlbbaaGreatDoorOsj
namespace Go.Proofs.YtdnhhmnllhlbbaaGreatDoor
open Go.RowKit Go.Shelf
set_option linter.unusedVariables false
set_option linter.unusedSimpArgs false

set_option maxRecDepth 100000 in
set_option maxHeartbeats 4000000 in
theorem rvalue18 {W : World} {sv : Value} (v : Vl) (k : Int) (h : Si 0 W sv v.s) (hz : v.s.length ≤ 17592186043904) (hT : Tens W) :
    Calls Tryz.prog 18 #[.agg #[.bool v.set, .int .i64 v.n, sv], .int .i64 k] W fun e w' => valE v k e ∧ Below W.heap.size W w' := by
  obtain ⟨a1, c1, rfl, h1'⟩ := h
  obtain ⟨w1, hw1⟩ : ∃ w1, W.alloc (Obj.cells #[.bool v.set, .int .i64 v.n, .slice a1 v.s.length c1] 36) = w1 := ⟨_, rfl⟩
  have hb1 : Below W.heap.size W w1 := by rw [← hw1]; exact (Below.refl _ _).alloc (Nat.le_refl _) _
  have HX1 : Hid (Blk w1 W.heap.size #[.bool v.set, .int .i64 v.n, .slice a1 v.s.length c1] 36) := by rw [← hw1]; exact Blk.new _ _ _
  have HSI : Hid (Si 0 w1 (.slice a1 v.s.length c1) v.s) := (show Si 0 W (.slice a1 v.s.length c1) v.s from ⟨_, _, rfl, h1'⟩).below hb1
  have HB1 := hid hb1
  have HW := hid hw1
  have HT1 : Hid (Tens w1) := hT.self hb1
  have kf := fits34 v.set v.n k HSI.out hz
  have KT : Hid (isVal v.set v.n v.s k = true → ∀ Q, Below w1.heap.size w1 Q → Calls Tryz.prog 28 #[.agg #[.bool v.set, .int .i64 v.n, .slice a1 v.s.length c1], .int .i64 k] Q fun e w' => e = .returned (.string (bs (valT k v))) ∧ Below Q.heap.size Q w') := fun hv Q hQ => rtext28 v k (HSI.out.below hQ) hv (HT1.out.self hQ)
  obtain ⟨A, hA⟩ : ∃ A, W.heap.size = A := ⟨_, rfl⟩
  have HA := hid hA
  rw [hA] at HX1
  obtain ⟨o, ho⟩ : ∃ o, isVal v.set v.n v.s k = o := ⟨_, rfl⟩
  rw [ho] at kf
  have HO := hid ho
  obtain ⟨n, hn⟩ : ∃ n, v.s.length = n := ⟨_, rfl⟩
  rw [hn] at kf KT HX1 HW ⊢
  obtain ⟨vs, hvs⟩ : ∃ n, v.set = n := ⟨_, rfl⟩
  obtain ⟨vn, hvn⟩ : ∃ n, v.n = n := ⟨_, rfl⟩
  rw [hvs, hvn] at kf HX1 HW ⊢
  have HK2 : Hid (o = true → ∀ Q, Below w1.heap.size w1 Q → Calls Tryz.prog 28 #[.agg #[.bool vs, .int .i64 vn, .slice a1 n c1], .int .i64 k] Q fun e w' => e = .returned (.string (bs (valT k v))) ∧ Below Q.heap.size Q w') := by
    intro h9 Q hQ
    rw [← hvs, ← hvn]
    exact KT.out (by rw [HO.out]; exact h9) Q hQ
  clear hw1 hb1 hA ho hn hvs hvn h1' hz hT KT
  have z0 := HX1.out.cell 0
  have z1 := HX1.out.cell 1
  have z2 := HX1.out.cell 2
  go_enter Tryz.func18, Tryz.ntmps18
  go_upto_region 1 with (fail)
  rw [HW.out, HA.out]
  clear HW
  go_wp2_with fail
  refine kf.mono ?_
  rintro e w2 ⟨rfl, hb2⟩
  have HB2 : Hid (Below W.heap.size W w2) := HB1.out.trans (hb2.mono HB1.out.size)
  have HX2 : Hid (Blk w2 A #[.bool vs, .int .i64 vn, .slice a1 n c1] 36) := HX1.out.below hb2
  have HBB := hid hb2
  clear kf hb2 z0 z1 z2
  cases o
  · have HF : Hid (valE v k (.returned (.tuple #[.string ⟨#[]⟩, .int .i64 1]))) := by unfold Hid valE; rw [HO.out]; rfl
    clear HK2
    go_wp2
    go_ret2
    exact ⟨HF.out, HB2.out⟩
  · have HF : Hid (valE v k (.returned (.tuple #[.string (bs (valT k v)), .int .i64 0]))) := by unfold Hid valE; rw [HO.out]; rfl
    have kt := HK2.out rfl w2 HBB.out
    have z0 := HX2.out.cell 0
    have z1 := HX2.out.cell 1
    have z2 := HX2.out.cell 2
    clear HK2
    go_wp2_with fail
    refine kt.mono ?_
    rintro e w3 ⟨rfl, hb3⟩
    have HB3 : Hid (Below W.heap.size W w3) := HB2.out.trans (hb3.mono HB2.out.size)
    clear kt hb3
    go_wp2
    go_ret2
    exact ⟨HF.out, HB3.out⟩

set_option maxRecDepth 100000 in
set_option maxHeartbeats 4000000 in
theorem rtail29 {W : World} {dv lv : Value} (o : Ou) (hd : Rgs W dv o.dims) (hl : ∃ p n c, lv = .slice p n c) :
    Calls Tryz.prog 29 #[.agg #[.string (bs o.nm), dv, lv, .int .i64 o.kind, .bool o.one]] W fun e w' => e = .returned (.string (bs (tailT o))) ∧ Below W.heap.size W w' := by
  obtain ⟨da, dc, rfl, _⟩ := hd
  obtain ⟨la, ln, lc, rfl⟩ := hl
  have HE : Hid (tailT o = if o.one then [59, 10] else [93, 41] ++ [59, 10]) := rfl
  obtain ⟨b, hb⟩ : ∃ b, o.one = b := ⟨_, rfl⟩
  rw [hb] at HE ⊢
  have hb1 : Below W.heap.size W (W.alloc (Obj.cells #[.string (bs o.nm), .slice da o.dims.length dc, .slice la ln lc, .int .i64 o.kind, .bool b] 53)) := (Below.refl _ _).alloc (Nat.le_refl _) _
  have HB1 := hid hb1
  clear hb1 hb
  go_enter Tryz.func29, Tryz.ntmps29
  cases b
  · go_wp2
    go_ret
    exact ⟨by rw [HE.out]; rfl, HB1.out⟩
  · go_wp2
    go_ret
    exact ⟨by rw [HE.out]; rfl, HB1.out⟩
theorem dimsT_take {l : List (Int × Int)} {k : Nat} {r : Int × Int} (h : l[k]? = some r) : dimsT (l.take (k + 1)) = dimsT (l.take k) ++ (Lib.itoa r.1 ++ [46, 46] ++ Lib.itoa r.2 ++ [44, 32]) := by
  unfold dimsT
  rw [List.take_add_one, h, Option.toList_some, List.map_append, List.flatten_append]
  simp [spanT]

set_option maxRecDepth 100000 in
set_option maxHeartbeats 4000000 in
theorem rhead27 {W : World} {dv lv : Value} (o : Ou) (hd : Rgs W dv o.dims) (hl : ∃ p n c, lv = .slice p n c) (hn : o.nm.length ≤ 10000000000) (hdn : o.dims.length ≤ 1000) (hb : ∀ r ∈ o.dims, -1000000000 ≤ r.1 ∧ r.1 ≤ 1000000000 ∧ -1000000000 ≤ r.2 ∧ r.2 ≤ 1000000000) (hT : Tens W) :
    Calls Tryz.prog 27 #[.agg #[.string (bs o.nm), dv, lv, .int .i64 o.kind, .bool o.one]] W fun e w' => e = .returned (.string (bs (headT o))) ∧ Below W.heap.size W w' := by
  obtain ⟨da, dc, rfl, hd'⟩ := hd
  obtain ⟨la, ln, lc, rfl⟩ := hl
  have HD : Hid (Rgs W (.slice da o.dims.length dc) o.dims) := ⟨_, _, rfl, hd'⟩
  obtain ⟨n, hdl⟩ : ∃ n, o.dims.length = n := ⟨_, rfl⟩
  have HN := hid hdl
  have HDB := hid hb
  have HT := hid hT
  rw [hdl] at HD hdn ⊢
  obtain ⟨A, hA⟩ : ∃ A, W.heap.size = A := ⟨_, rfl⟩
  obtain ⟨N, hN⟩ : ∃ N, bs o.nm = N := ⟨_, rfl⟩
  have hnz : N.size ≤ 10000000000 := by rw [← hN, bs_size]; exact hn
  have HNN := hid hN
  obtain ⟨one, hone⟩ : ∃ b, o.one = b := ⟨_, rfl⟩
  have HE : Hid (headT o = if one then o.nm ++ [32, 61, 32] else o.nm ++ [32, 61, 32] ++ [97, 114, 114, 97, 121] ++ Lib.itoa n ++ [100, 40] ++ dimsT o.dims ++ [91]) := by unfold Hid headT; rw [hone, hdl]
  rw [hN, hone]
  obtain ⟨w1, hw1⟩ : ∃ q, W.alloc (Obj.cells #[.string N, .slice da n dc, .slice la ln lc, .int .i64 o.kind, .bool one] 53) = q := ⟨_, rfl⟩
  have hb1 : Below W.heap.size W w1 := by rw [← hw1]; exact (Below.refl _ _).alloc (Nat.le_refl _) _
  have HX1 : Hid (Blk w1 A #[.string N, .slice da n dc, .slice la ln lc, .int .i64 o.kind, .bool one] 53) := by rw [← hw1, ← hA]; exact Blk.new _ _ _
  have HB1 := hid hb1
  have HW := hid hw1
  have HA := hid hA
  have HAL : Hid (A < w1.heap.size) := HX1.out.lt
  clear hd' hdl hb hT hA hN hone hw1 hb1 hn
  have z0 := HX1.out.cell 0
  have z1 := HX1.out.cell 1
  have z4 := HX1.out.cell 4
  have hq1 : N.size + 3 ≤ 9223372036854775807 := by omega
  cases one
  · have hk40 := itoa40 (n : Int) (by omega) (by omega) w1 (HT.out.self HB1.out)
    have hil := Lib.itoa_length_le (n : Int) (by omega) (by omega)
    obtain ⟨X, hX⟩ : ∃ X, bs (Lib.itoa (n : Int)) = X := ⟨_, rfl⟩
    have hxz : X.size ≤ 21 := by rw [← hX, bs_size]; exact hil
    have HXX := hid hX
    rw [hX] at hk40
    have hq2 : N.size + 3 + 5 ≤ 9223372036854775807 := by omega
    have hq3 : N.size + 3 + 5 + X.size ≤ 9223372036854775807 := by omega
    have hq4 : N.size + 3 + 5 + X.size + 2 ≤ 9223372036854775807 := by omega
    clear hX hil
    go_enter Tryz.func27, Tryz.ntmps27
    go_upto_region 1 with (fail)
    rw [HW.out, HA.out]
    clear HW
    go_wp2_with fail
    refine hk40.mono ?_
    rintro e w2 ⟨rfl, hb2⟩
    have HB2 : Hid (Below w1.heap.size w1 w2) := hb2
    clear hk40 hb2 z0 z1 z4
    go_upto_region 5 with (fail)
    obtain ⟨H, hH⟩ : ∃ H, N ++ ⟨#[32, 61, 32]⟩ ++ ⟨#[97, 114, 114, 97, 121]⟩ ++ X ++ ⟨#[100, 40]⟩ = H := ⟨_, rfl⟩
    rw [hH]
    have HHH : Hid (H = bs (o.nm ++ [32, 61, 32] ++ [97, 114, 114, 97, 121] ++ Lib.itoa n ++ [100, 40])) := by
      unfold Hid
      rw [← hH, ← HNN.out, ← HXX.out]
      show bs _ ++ bs [32, 61, 32] ++ bs [97, 114, 114, 97, 121] ++ bs _ ++ bs [100, 40] = _
      simp only [bs_app]
    have hhz : H.size ≤ 20000000000 := by
      rw [← hH]
      simp only [ByteArray.size_append]
      have e1 : (⟨#[32, 61, 32]⟩ : ByteArray).size = 3 := rfl
      have e2 : (⟨#[97, 114, 114, 97, 121]⟩ : ByteArray).size = 5 := rfl
      have e3 : (⟨#[100, 40]⟩ : ByteArray).size = 2 := rfl
      omega
    clear hH hq1 hq2 hq3 hq4
    go_wp2
    go_loopw [3, 4] (fun t3 i wr => ∃ (k : Nat) (S : ByteArray), i = .int .i64 (k : Int) ∧ k ≤ n ∧ t3 = .string S ∧ Hid (S = bs (o.nm ++ [32, 61, 32] ++ [97, 114, 114, 97, 121] ++ Lib.itoa n ++ [100, 40] ++ dimsT (o.dims.take k))) ∧ S.size ≤ 20000000000 + 50 * k ∧ Hid (Below w1.heap.size w1 wr)) (fun _ i _ => n - (intOf i).toNat)
    case atStart => exact ⟨0, _, rfl, Nat.zero_le _, rfl, by unfold Hid; rw [HHH.out]; simp [dimsT], by omega, HB2.out⟩
    case round =>
      obtain ⟨k, S, rfl, hk, rfl, HS, hsz, HBB⟩ := hrel
      have z1 := (HX1.out.below HBB.out).cell 1
      by_cases hlt : k < n
      · have hlt' : (k : Int) < n := by omega
        obtain ⟨r, hr⟩ : ∃ x, o.dims[k]? = some x := ⟨_, List.getElem?_eq_getElem (by rw [HN.out]; exact hlt)⟩
        obtain ⟨b1, o1, rfl, hb1, d1, d2⟩ := HD.out.at hr
        have hrb := HDB.out r (List.mem_of_getElem? hr)
        have HDT : Hid (dimsT (o.dims.take (k + 1)) = dimsT (o.dims.take k) ++ (Lib.itoa r.1 ++ [46, 46] ++ Lib.itoa r.2 ++ [44, 32])) := dimsT_take hr
        have HCC : Hid (b1 < W.heap.size ∧ W.cell? ⟨b1, o1 + k * 2, none⟩ = some (.int .i64 r.1) ∧ W.cell? ⟨b1, o1 + k * 2 + 1, none⟩ = some (.int .i64 r.2)) := ⟨hb1, d1, d2⟩
        have hi1 := Lib.itoa_length_le r.1 (by omega) (by omega)
        have hi2 := Lib.itoa_length_le r.2 (by omega) (by omega)
        have KX := fun Q (hQ : Below W.heap.size W Q) => dec41 r.1 (by omega) (by omega) Q (HT.out.self hQ)
        have KY := fun Q (hQ : Below W.heap.size W Q) => dec41 r.2 (by omega) (by omega) Q (HT.out.self hQ)
        obtain ⟨Y, hY⟩ : ∃ X, bs (Lib.itoa r.1) = X := ⟨_, rfl⟩
        obtain ⟨Z, hZ⟩ : ∃ X, bs (Lib.itoa r.2) = X := ⟨_, rfl⟩
        have hyz : Y.size ≤ 21 := by rw [← hY, bs_size]; exact hi1
        have hzz : Z.size ≤ 21 := by rw [← hZ, bs_size]; exact hi2
        simp only [hY] at KX
        simp only [hZ] at KY
        have KX := hid KX
        have KY := hid KY
        have HF : Hid (S ++ Y ++ ⟨#[46, 46]⟩ ++ Z ++ ⟨#[44, 32]⟩ = bs (o.nm ++ [32, 61, 32] ++ [97, 114, 114, 97, 121] ++ Lib.itoa n ++ [100, 40] ++ dimsT (o.dims.take (k + 1)))) := by
          unfold Hid
          rw [HDT.out, HS.out, ← hY, ← hZ]
          show bs _ ++ bs _ ++ bs [46, 46] ++ bs _ ++ bs [44, 32] = _
          simp only [bs_app, List.append_assoc]
        have hf1 : ¬ 9223372036854775807 < S.size + Y.size := by omega
        have hf2 : ¬ 9223372036854775807 < S.size + Y.size + 2 := by omega
        have hf3 : ¬ 9223372036854775807 < S.size + Y.size + 2 + Z.size := by omega
        have hf4 : ¬ 9223372036854775807 < S.size + Y.size + 2 + Z.size + 2 := by omega
        have hsz2 : Hid ((S ++ Y ++ ⟨#[46, 46]⟩ ++ Z ++ ⟨#[44, 32]⟩).size ≤ 20000000000 + 50 * (k + 1)) := by
          unfold Hid
          simp only [ByteArray.size_append]
          have e1 : (⟨#[46, 46]⟩ : ByteArray).size = 2 := rfl
          have e2 : (⟨#[44, 32]⟩ : ByteArray).size = 2 := rfl
          omega
        have hwk : IntKind.i64.wrap ((k : Int) + 1) = (k : Int) + 1 := by rw [IntKind.wrap_i64]; omega
        have HKK : Hid (n ≤ 1000) := hdn
        have HSZ := hid hsz
        clear hr d1 d2 hb1 hrb hi1 hi2 hY hZ hyz hzz hsz
        go_upto_region 8 with (fail)
        have HP0 : Hid (Below w1.heap.size w1 wr.drew) := HBB.out.drew
        refine wp_region_held_drew (S := (fun Q : World => Below w1.heap.size w1 Q)) (by kernel_rfl) (HP0.out) (fun hHeld => ?_)
        refine tkI 0 rfl hHeld ?_
        try simp only [Act.put, zS, eZ, eS]
        refine tkI 1 rfl hHeld ?_
        try simp only [Act.put, zS, eZ, eS]
        refine tkI 2 rfl hHeld ?_ (hy := by intro w hSw; have q1 := (HX1.out.below hSw).cell 1; go_simp <;> with_reducible rfl)
        try simp only [Act.put, zS, eZ, eS]
        refine tkI 3 rfl hHeld ?_
        try simp only [Act.put, zS, eZ, eS]
        refine tkI 4 rfl hHeld ?_
        try simp only [Act.put, zS, eZ, eS]
        refine tkI 5 rfl hHeld ?_
        try simp only [Act.put, zS, eZ, eS]
        refine tkI 6 rfl hHeld ?_ (hy := by intro w hSw; have q2 := ((HB1.out.trans (hSw.mono HB1.out.size)).cell (p := ⟨b1, o1 + k * 2, none⟩) HCC.out.1).trans HCC.out.2.1; go_simp <;> with_reducible rfl)
        try simp only [Act.put, zS, eZ, eS]
        refine tkI 10 rfl hHeld ?_
        try simp only [Act.put, zS, eZ, eS]
        refine tkI 11 rfl hHeld ?_ (hy := by intro w hSw; have q1 := (HX1.out.below hSw).cell 1; go_simp <;> with_reducible rfl)
        try simp only [Act.put, zS, eZ, eS]
        refine tkI 12 rfl hHeld ?_
        try simp only [Act.put, zS, eZ, eS]
        refine tkI 13 rfl hHeld ?_
        try simp only [Act.put, zS, eZ, eS]
        refine tkI 14 rfl hHeld ?_
        try simp only [Act.put, zS, eZ, eS]
        refine tkI 15 rfl hHeld ?_ (hy := by intro w hSw; have q2 := ((HB1.out.trans (hSw.mono HB1.out.size)).cell (p := ⟨b1, o1 + k * 2 + 1, none⟩) HCC.out.1).trans HCC.out.2.2; go_simp <;> with_reducible rfl)
        try simp only [Act.put, zS, eZ, eS]
        refine rdy 7 rfl fun K hK => ?_
        go_simp
        refine (KX.out _ (HB1.out.trans ((HP0).out.mono HB1.out.size))).mono ?_
        rintro e w4 ⟨rfl, hb4⟩
        have HB4 : Hid (Below w1.heap.size w1 w4) := HP0.out.trans (hb4.mono HP0.out.size)
        clear hb4
        clear hHeld; refine hK.out _ _ (HB4.out) fun hHeld => ?_
        clear hK K
        try simp only [Act.put, zS, eZ, eS]
        refine tkI 8 rfl hHeld ?_
        try simp only [Act.put, zS, eZ, eS]
        refine tkI 9 rfl hHeld ?_
        try simp only [Act.put, zS, eZ, eS]
        refine rdy 16 rfl fun K hK => ?_
        go_simp
        refine (KY.out _ (HB1.out.trans ((HB4).out.mono HB1.out.size))).mono ?_
        rintro e w5 ⟨rfl, hb5⟩
        have HB5 : Hid (Below w1.heap.size w1 w5) := HB4.out.trans (hb5.mono HB4.out.size)
        clear hb5
        clear hHeld; refine hK.out _ _ (HB5.out) fun hHeld => ?_
        clear hK K
        try simp only [Act.put, zS, eZ, eS]
        refine tkI 17 rfl hHeld ?_
        try simp only [Act.put, zS, eZ, eS]
        refine tkI 18 rfl hHeld ?_
        try simp only [Act.put, zS, eZ, eS]
        refine tkI 19 rfl hHeld ?_
        try simp only [Act.put, zS, eZ, eS]
        refine wpAnyH_done (by kernel_rfl) ?_ _
        clear hHeld
        go_wp2
        go_roundw
        case rel => exact ⟨k + 1, _, by go_num, by omega, rfl, HF, hsz2.out, HB5⟩
        case measure => simp [intOf]; omega
      · have hkn : k = n := by omega
        have hlt' : ¬ (k : Int) < n := by omega
        have HF : Hid (S ++ ⟨#[91]⟩ = bs (headT o)) := by
          unfold Hid
          have e : o.dims.take k = o.dims := by rw [hkn, ← HN.out]; exact List.take_length
          rw [HE.out, HS.out, e]
          show bs _ ++ bs [91] = _
          rw [bs_app]
          rfl
        have ha1 : S.size + 1 ≤ 9223372036854775807 := by omega
        go_wp2
        go_ret
        exact ⟨by show Ending.returned (Value.string (S ++ ⟨#[91]⟩)) = _; rw [HF.out], HB1.out.trans (HBB.out.mono HB1.out.size)⟩
  · have HF : Hid (N ++ ⟨#[32, 61, 32]⟩ = bs (headT o)) := by
      unfold Hid
      rw [HE.out, ← HNN.out]
      show bs _ ++ bs [32, 61, 32] = _
      rw [bs_app]
      rfl
    go_enter Tryz.func27, Tryz.ntmps27
    go_upto_region 1 with (fail)
    rw [HW.out, HA.out]
    clear HW
    go_wp2
    go_ret
    exact ⟨by show Ending.returned (Value.string (N ++ ⟨#[32, 61, 32]⟩)) = _; rw [HF.out], HB1.out⟩
end Go.Proofs.YtdnhhmnllhlbbaaGreatDoor
