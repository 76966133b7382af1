/-
  What is proved here: A term that stands as it is written is read: slices.Equal of numbers, term.
-/
import Derived.Test.YtdnhhmnllhlbbaaGreatDoorPcj
import Derived.Test.YtdnhhmnllhlbbaaGreatDoorCEa
import Derived.Test.YtdnhhmnllhlbbaaGreatDoorCEb
namespace Go.Proofs.YtdnhhmnllhlbbaaGreatDoor
open Go.RowKit Go.Shelf
set_option linter.unusedVariables false
set_option linter.unusedSimpArgs false
set_option maxRecDepth 100000 in
set_option maxHeartbeats 4000000 in
theorem equal108 {B1 B2 : Nat} {W : World} {s1 s2 : Value} {l1 l2 : List Int} (h1 : Si B1 W s1 l1) (h2 : Si B2 W s2 l2) (hz1 : l1.length ≤ 17592186043904) (hz2 : l2.length ≤ 17592186043904) :
    Calls Tryz.prog 108 #[s1, s2] W fun e w' => e = .returned (.bool (decide (l1 = l2))) ∧ Below W.heap.size W w' := by
  obtain ⟨a1, c1, rfl, h1'⟩ := h1
  obtain ⟨a2, c2, rfl, h2'⟩ := h2
  have H1 : Hid (Si B1 W (.slice a1 l1.length c1) l1) := ⟨_, _, rfl, h1'⟩
  have H2 : Hid (Si B2 W (.slice a2 l2.length c2) l2) := ⟨_, _, rfl, h2'⟩
  clear h1' h2'
  obtain ⟨n1, hn1⟩ : ∃ n, l1.length = n := ⟨_, rfl⟩
  obtain ⟨n2, hn2⟩ : ∃ n, l2.length = n := ⟨_, rfl⟩
  rw [hn1] at hz1 H1 ⊢
  rw [hn2] at hz2 H2 ⊢
  have HN : Hid (l1.length = n1 ∧ l2.length = n2) := ⟨hn1, hn2⟩
  clear hn1 hn2
  by_cases hne : n1 = n2
  · subst hne
    go_enter Tryz.func108, Tryz.ntmps108
    go_wp2
    go_loopw [13] (fun i wr => ∃ k : Nat, k ≤ n1 ∧ i = .int .i64 (k : Int) ∧ Hid (l1.take k = l2.take k) ∧ Hid (Below W.heap.size W wr)) (fun i _ => n1 - (intOf i).toNat)
    case atStart => exact ⟨0, Nat.zero_le _, rfl, by simp [Hid], Below.refl _ _⟩
    case round =>
      obtain ⟨k, hk, rfl, HQ, HB⟩ := hrel
      by_cases hlt : k < n1
      · have hlt' : (k : Int) < n1 := by omega
        obtain ⟨x, hx⟩ : ∃ x, l1[k]? = some x := ⟨_, List.getElem?_eq_getElem (by rw [HN.out.1]; exact hlt)⟩
        obtain ⟨y, hy⟩ : ∃ x, l2[k]? = some x := ⟨_, List.getElem?_eq_getElem (by rw [HN.out.2]; exact hlt)⟩
        obtain ⟨b1, o1, rfl, hb1, d1⟩ := H1.out.at hx
        obtain ⟨b2, o2, rfl, hb2, d2⟩ := H2.out.at hy
        have y1 := (HB.out.cell (p := ⟨b1, o1 + k, none⟩) hb1).trans d1
        have y2 := (HB.out.cell (p := ⟨b2, o2 + k, none⟩) hb2).trans d2
        have HS : Hid (l1.take (k + 1) = l2.take (k + 1) ↔ x = y) := take_eq_succ hx hy HQ.out
        clear d1 d2 hx hy
        have hw2 : IntKind.i64.wrap ((k : Int) + 1) = (k : Int) + 1 := by rw [IntKind.wrap_i64]; omega
        by_cases hxy : x = y
        · have HT : Hid _ := HS.out.2 hxy
          subst hxy
          go_wp2
          go_quiet (fail)
          go_wp2
          go_roundw
          case rel => exact ⟨k + 1, by omega, by go_num, HT, below_drewN HB.out _⟩
          case measure => simp [intOf]; omega
        · have HF : Hid (l1 ≠ l2) := fun e => hxy (HS.out.1 (by rw [e]))
          have hd : (x != y) = true := by simpa using hxy
          have hd2 : (x == y) = false := by simpa using hxy
          go_wp2
          go_quiet (fail)
          go_wp2
          go_ret
          exact ⟨by simp [HF.out], below_drewN HB.out _⟩
      · have hlt' : ¬ (k : Int) < n1 := by omega
        obtain rfl : k = n1 := by omega
        have HT : Hid (l1 = l2) := take_eq_all HN.out.1 HN.out.2 HQ.out
        go_wp2
        go_ret
        exact ⟨by simp [HT.out], HB.out⟩
  · have HF : Hid (l1 ≠ l2) := fun e => hne (by rw [← HN.out.1, ← HN.out.2, e])
    have hd : ((n1 : Int) != n2) = true := by simp; omega
    have hd2 : ((n1 : Int) == n2) = false := by simp; omega
    go_enter Tryz.func108, Tryz.ntmps108
    go_wp2
    go_ret
    exact ⟨by simp [HF.out], Below.refl _ _⟩

set_option maxRecDepth 100000 in
set_option maxHeartbeats 4000000 in
theorem term89 {W : World} {g p : Nat} {k : Int} {tsv : Value} (s r : List UInt8) (v : Vl) (t : Tm) (hX : Blk W g #[.string (bs s), .int .i64 (p : Int)] 115) (hv : isVal v.set v.n v.s k = true) (hat : s.drop p = valT k v ++ r) (hr : Aft r) (hp : p ≤ s.length) (hs : s.length ≤ 1000000000000) (hT : Tens W) (hM : MaxL W)
    (htN : Nm (fun b => b = g) W tsv t.s) (htz : t.s.length ≤ 17592186043904) (hcon : t.v = -1 → v.n = t.n ∧ v.s = t.s) :
    Calls Tryz.prog 89 #[.pointer (some ⟨g, 0, none⟩), .agg #[.int .i64 t.v, .bool t.set, .int .i64 t.n, tsv], .int .i64 k] W fun e w' => ReadV s g (p + (valT k v).length) v W e w' := by
  obtain ⟨ta, tc, rfl, _⟩ := id htN
  obtain ⟨tn, htn⟩ : ∃ n, t.s.length = n := ⟨_, rfl⟩
  rw [htn] at htN htz ⊢
  have HTN : Hid (t.s.length = tn) := htn
  obtain ⟨A, hA⟩ : ∃ A, W.heap.size = A := ⟨_, rfl⟩
  have HGA : Hid (g < A) := by rw [← hA]; exact hX.lt
  have hw : ∃ q, (W.alloc (Obj.cells #[.int .i64 t.v, .bool t.set, .int .i64 t.n, .slice ta tn tc] 67)).alloc (Obj.cells #[.bool false, .int .i64 0, .slice none 0 0] 36) = q := ⟨_, rfl⟩
  obtain ⟨w1, hw1⟩ := hw
  have hbe : Below W.heap.size W w1 := by rw [← hw1]; exact ((Below.refl _ _).alloc (Nat.le_refl _) _).alloc (by rw [World.size_alloc]; omega) _
  have HT1 : Hid (Blk w1 A #[.int .i64 t.v, .bool t.set, .int .i64 t.n, .slice ta tn tc] 67) := by rw [← hw1, ← hA]; exact (Blk.new _ _ _).alloc _
  obtain ⟨R, hR⟩ : ∃ R, A + 1 = R := ⟨_, rfl⟩
  have HR1 : Hid (Blk w1 R #[.bool false, .int .i64 0, .slice none 0 0] 36) := by
    rw [← hw1, ← hR, ← hA]
    have := Blk.new (W.alloc (Obj.cells #[.int .i64 t.v, .bool t.set, .int .i64 t.n, .slice ta tn tc] 67)) #[.bool false, .int .i64 0, .slice none 0 0] 36
    rw [World.size_alloc] at this
    exact this
  have HA : Hid (W.heap.size = A ∧ A + 1 = R) := ⟨hA, hR⟩
  have HW1 : Hid _ := hw1
  have HB1 : Hid (Below W.heap.size W w1) := hbe
  have kv := value107 s r v (hX.below hbe) hv hat hr hp hs (hT.self hbe) (hM.self hbe)
  have HN1 : Hid (Nm (fun b => b = g) w1 (.slice ta tn tc) t.s) := htN.kept (Kept.of_below hbe)
  have HX1 : Hid (Blk w1 g #[.string (bs s), .int .i64 (p : Int)] 115) := hX.below hbe
  have HTZ : Hid (tn ≤ 17592186043904) := htz
  have hvl : v.s.length ≤ 64 := by
    rcases isVal_more hv with ⟨_, _, _, h⟩ | ⟨_, _, h, _⟩ | ⟨_, _, h, _⟩
    · exact (setOk_facts h).1
    · rw [h]; simp
    · rw [h]; simp
  have HVL : Hid (v.s.length ≤ 64) := hvl
  have HCON : Hid (t.v = -1 → v.n = t.n ∧ v.s = t.s) := hcon
  obtain ⟨E, hE⟩ : ∃ E, p + (valT k v).length = E := ⟨_, rfl⟩
  rw [hE] at kv ⊢
  obtain ⟨tv, htv⟩ : ∃ q, t.v = q := ⟨_, rfl⟩
  obtain ⟨tb, htb⟩ : ∃ q, t.set = q := ⟨_, rfl⟩
  obtain ⟨tm, htm⟩ : ∃ q, t.n = q := ⟨_, rfl⟩
  rw [htv, htb, htm] at HT1 ⊢
  rw [htv, htb, htm] at HW1
  rw [htv, htm] at HCON
  have x1 : w1.cell? ⟨g, 1, none⟩ = some (.int .i64 (p : Int)) := HX1.out.cell 1
  clear hE hA hR hw1 hbe htN hX hv hat hr hT hM htz hcon hvl htv htb htm htn
  go_enter Tryz.func89, Tryz.ntmps89
  go_upto_region 1 with (fail)
  rw [HW1.out, HA.out.1, HA.out.2]
  clear HW1
  go_wp2_with fail
  refine kv.mono ?_
  rintro e w2 ⟨sv, rfl, hsi, hX2, hK2⟩
  obtain ⟨sa, sc, rfl, _⟩ := id hsi
  have hGA := HGA.out
  have hA := HA.out
  have HS2 : Hid (Si (R + 1) w2 (.slice sa v.s.length sc) v.s) := hsi.lower HR1.out.lt
  have HX2 : Hid (Blk w2 g #[.string (bs s), .int .i64 (E : Int)] 115) := hX2
  have HR2 : Hid (Blk w2 R #[.bool false, .int .i64 0, .slice none 0 0] 36) := ⟨(hK2.block R HR1.out.lt (by omega)).trans HR1.out.h⟩
  have HT2 : Hid (Blk w2 A #[.int .i64 tv, .bool tb, .int .i64 tm, .slice ta tn tc] 67) := ⟨(hK2.block A HT1.out.lt (by omega)).trans HT1.out.h⟩
  have HN2 : Hid (Nm (fun b => b = g) w2 (.slice ta tn tc) t.s) := HN1.out.kept hK2
  have HK2 : Hid (Kept (fun b => b = g) W w2) := (Kept.of_below (X := fun b => b = g) HB1.out).trans hK2 (fun b q => .inl q)
  obtain ⟨m, hm⟩ : ∃ m, v.s.length = m := ⟨_, rfl⟩
  have HMM : Hid (v.s.length = m) := hm
  rw [hm] at HS2 ⊢
  obtain ⟨vb, hvb⟩ : ∃ q, v.set = q := ⟨_, rfl⟩
  obtain ⟨vn, hvn⟩ : ∃ q, v.n = q := ⟨_, rfl⟩
  have HVE : Hid (v.set = vb ∧ v.n = vn) := ⟨hvb, hvn⟩
  rw [hvn] at HCON
  rw [hvb, hvn]
  obtain ⟨C, hC⟩ : ∃ C, w2.heap.size = C := ⟨_, rfl⟩
  have hb3 : Below w2.heap.size w2 (w2.alloc (Obj.cells #[.bool vb, .int .i64 vn, .slice sa m sc] 36)) := (Below.refl _ _).alloc (Nat.le_refl _) _
  have HC3 : Hid (Blk (w2.alloc (Obj.cells #[.bool vb, .int .i64 vn, .slice sa m sc] 36)) C #[.bool vb, .int .i64 vn, .slice sa m sc] 36) := by rw [← hC]; exact Blk.new _ _ _
  obtain ⟨w3, hw3⟩ : ∃ q, w2.alloc (Obj.cells #[.bool vb, .int .i64 vn, .slice sa m sc] 36) = q := ⟨_, rfl⟩
  rw [hw3] at hb3 HC3
  have HX3 : Hid (Blk w3 g #[.string (bs s), .int .i64 (E : Int)] 115) := HX2.out.below hb3
  have HS3 : Hid (Si (R + 1) w3 (.slice sa m sc) v.s) := HS2.out.below hb3
  have HR3 : Hid (Blk w3 R #[.bool false, .int .i64 0, .slice none 0 0] 36) := HR2.out.below hb3
  have HT3 : Hid (Blk w3 A #[.int .i64 tv, .bool tb, .int .i64 tm, .slice ta tn tc] 67) := HT2.out.below hb3
  have HN3 : Hid (Nm (fun b => b = g) w3 (.slice ta tn tc) t.s) := HN2.out.kept (Kept.of_below hb3)
  have HK3 : Hid (Kept (fun b => b = g) W w3) := HK2.out.then_below hb3
  have HW3 : Hid (w2.alloc (Obj.cells #[.bool vb, .int .i64 vn, .slice sa m sc] 36) = w3 ∧ w2.heap.size = C) := ⟨hw3, hC⟩
  have HRC : Hid (R < C) := by rw [← hC]; exact HR2.out.lt
  clear kv x1 hsi hX2 hK2 hGA hA hm hvb hvn hC hb3 hw3 HS2 HX2 HR2 HT2 HN2 HK2 HR1 HT1 HN1 HX1 HB1
  go_upto_region 3 with (fail)
  rw [HW3.out.1, HW3.out.2]
  clear HW3
  have x0 := HC3.out.cell 0
  have x1 := HC3.out.cell 1
  have x2 := HC3.out.cell 2
  have y0 := HT3.out.cell 0
  have y1 := HT3.out.cell 1
  have y2 := HT3.out.cell 2
  have y3 := HT3.out.cell 3
  by_cases h1 : tv = -1
  · obtain ⟨h2, h3⟩ := HCON.out h1
    have ke := equal108 HS3.out (nm_si HN3.out) (by have := HVL.out; omega) (by have := HTN.out; have := HTZ.out; omega)
    rw [h3, decide_eq_true rfl] at ke
    subst h1
    subst h2
    clear h3 HCON
    go_wp2_with fail
    refine ke.mono ?_
    rintro e w4 ⟨rfl, hb4⟩
    have HC4 : Hid (Blk w4 C #[.bool vb, .int .i64 vn, .slice sa m sc] 36) := HC3.out.below hb4
    have HX4 : Hid (Blk w4 g #[.string (bs s), .int .i64 (E : Int)] 115) := HX3.out.below hb4
    have HS4 : Hid (Si (R + 1) w4 (.slice sa m sc) v.s) := HS3.out.below hb4
    have HR4 : Hid (Blk w4 R #[.bool false, .int .i64 0, .slice none 0 0] 36) := HR3.out.below hb4
    have HK4 : Hid (Kept (fun b => b = g) W w4) := HK3.out.then_below hb4
    clear ke hb4 x0 x1 x2 y0 y1 y2 y3 HC3 HX3 HS3 HR3 HK3 HT3 HN3
    have z0 := HC4.out.cell 0
    have z1 := HC4.out.cell 1
    have z2 := HC4.out.cell 2
    have q0 := HR4.out.cell 0
    have q1 := HR4.out.cell 1
    have q2 := HR4.out.cell 2
    have g0 := HR4.out.frozen 0
    have g1 := HR4.out.frozen 1
    have g2 := HR4.out.frozen 2
    go_wp2
    have hA := HA.out
    have hGA := HGA.out
    exact ⟨rfl, _, res_36 rfl _ (HR4.out.set3 _ _ _) rfl, _, by rw [HVE.out.1, HVE.out.2], (HS4.out.set3 (Nat.lt_succ_self _) _ _ _).lower (by omega), HX4.out.other3 (by omega) _ _ _, HK4.out.new3 (by omega) _ _ _⟩
  · have HC4 := HC3
    have HX4 := HX3
    have HS4 := HS3
    have HR4 := HR3
    have HK4 := HK3
    clear HCON
    have z0 := HC4.out.cell 0
    have z1 := HC4.out.cell 1
    have z2 := HC4.out.cell 2
    have q0 := HR4.out.cell 0
    have q1 := HR4.out.cell 1
    have q2 := HR4.out.cell 2
    have g0 := HR4.out.frozen 0
    have g1 := HR4.out.frozen 1
    have g2 := HR4.out.frozen 2
    go_wp2
    have hA := HA.out
    have hGA := HGA.out
    exact ⟨rfl, _, res_36 rfl _ (HR4.out.set3 _ _ _) rfl, _, by rw [HVE.out.1, HVE.out.2], (HS4.out.set3 (Nat.lt_succ_self _) _ _ _).lower (by omega), HX4.out.other3 (by omega) _ _ _, HK4.out.new3 (by omega) _ _ _⟩
end Go.Proofs.YtdnhhmnllhlbbaaGreatDoor
