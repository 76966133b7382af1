/-
  What is proved here: the walk of BitsJoins where both sets are made.
-/
import Derived.Test.YtgcgomofmicchaaDoorVg
import Derived.Test.YtgcgomofmicchaaDoorYu
import Derived.Test.YtgcgomofmicchaaDoorXn
import Derived.Test.YtgcgomofmicchaaDoorYa
import Derived.Test.YtgcgomofmicchaaDoorYc
import Derived.Test.YtgcgomofmicchaaDoorYf
namespace Go.Proofs.YtgcgomofmicchaaDoor
open Go.RowKit Go.Shelf
set_option linter.unusedVariables false

theorem own_shape {W : World} {base e size n : Nat} {s : Value} {xs : List Value} (h : W.ownsRow base e size s n xs) : ∃ a c, s = .slice a n c := by
  rcases h.2 with ⟨e1, e2⟩ | ⟨g', cap', cur, e1, _⟩
  · exact ⟨none, 0, by rw [e1, e2]⟩
  · exact ⟨_, _, e1⟩
theorem bits_apart {W : World} {b g c ob og oc : Nat} {f room of oroom : Int} {ws ows : List Nat} (h : Bits W b g c f room ws) (k : Bits W ob og oc of oroom ows) : ob ≠ g := fun e => by
  obtain ⟨cur, h1, _⟩ := h.row
  have h2 := k.1
  rw [e, h1] at h2
  cases h2
/-- Add and Del of a set, whatever they tell: it stays a set, and no other block is another one. -/
theorem add_some (b g c : Nat) (f room v : Int) (ws : List Nat) (W : World) (h : Bits W b g c f room ws) (hz : Sz f room ws) :
    ∃ ws', Sz f room ws' ∧ Calls Tryd.prog 16 #[.pointer (some ⟨b, 0, none⟩), .int .i64 v] W fun e w' => (∃ t er, e = .returned (.tuple #[.bool t, .int .i64 er])) ∧ Bits w' b g c f room ws' ∧ (∀ n₀, n₀ ≤ g → Below n₀ W w') ∧ ∀ B, B ≠ g → w'.heap[B]? = W.heap[B]? := by
  by_cases hf : f ≤ v ∧ v < f + room
  · obtain ⟨n, hn, hn2⟩ := has_room hz hf
    cases hh : hasB f room ws v
    · refine ⟨flip ws n, flip_sz hz n hn2, (add_new b g c n f room v ws W h hz hf hh hn hn2).mono fun e w' ⟨he, m, hw⟩ => ⟨⟨_, _, he⟩, ?_, fun n₀ hn₀ => ?_, fun B hB => ?_⟩⟩
      · rw [hw]; exact (h.store (n / 64) hn2 _).drawn m
      · rw [hw]; exact below_drewN ((Below.refl _ _).setCell (p := ⟨g, n / 64, none⟩) hn₀ _) _
      · rw [hw]; exact set_same W _ _ m _ B hB
    · exact ⟨ws, hz, (add_is b g c f room v ws W h hz hh).mono fun e w' ⟨he, m, hw⟩ => ⟨⟨_, _, he⟩, by rw [hw]; exact h.drawn m, fun n₀ _ => by rw [hw]; exact below_drewN (Below.refl _ _) _, fun B _ => by rw [hw]; rfl⟩⟩
  · exact ⟨ws, hz, (add_dom b g c f room v ws W h hz hf).mono fun e w' ⟨he, m, hw⟩ => ⟨⟨_, _, he⟩, by rw [hw]; exact h.drawn m, fun n₀ _ => by rw [hw]; exact below_drewN (Below.refl _ _) _, fun B _ => by rw [hw]; rfl⟩⟩
theorem del_some (b g c : Nat) (f room v : Int) (ws : List Nat) (W : World) (h : Bits W b g c f room ws) (hz : Sz f room ws) :
    ∃ ws', Sz f room ws' ∧ Calls Tryd.prog 18 #[.pointer (some ⟨b, 0, none⟩), .int .i64 v] W fun e w' => (∃ t er, e = .returned (.tuple #[.bool t, .int .i64 er])) ∧ Bits w' b g c f room ws' ∧ (∀ n₀, n₀ ≤ g → Below n₀ W w') ∧ ∀ B, B ≠ g → w'.heap[B]? = W.heap[B]? := by
  cases hh : hasB f room ws v
  · exact ⟨ws, hz, (del_no b g c f room v ws W h hz hh).mono fun e w' ⟨he, m, hw⟩ => ⟨⟨_, _, he⟩, by rw [hw]; exact h.drawn m, fun n₀ _ => by rw [hw]; exact below_drewN (Below.refl _ _) _, fun B _ => by rw [hw]; rfl⟩⟩
  · obtain ⟨n, hn, hn2⟩ := has_room hz (has_fits hh)
    refine ⟨flip ws n, flip_sz hz n hn2, (del_yes b g c n f room v ws W h hz hh hn hn2).mono fun e w' ⟨he, m, hw⟩ => ⟨⟨_, _, he⟩, ?_, fun n₀ hn₀ => ?_, fun B hB => ?_⟩⟩
    · rw [hw]; exact (h.store (n / 64) hn2 _).drawn m
    · rw [hw]; exact below_drewN ((Below.refl _ _).setCell (p := ⟨g, n / 64, none⟩) hn₀ _) _
    · rw [hw]; exact set_same W _ _ m _ B hB

set_option maxRecDepth 100000 in
set_option maxHeartbeats 8000000 in
theorem joins_yy (s1 s2 : Value) (a b : List Rg) (v : Int) (w : World) (h1 : Sr w s1 a) (h2 : Sr w s2 b) (hf1 : FitsR a) (hf2 : FitsR b) (ha : Some' a) (hb : Some' b) (ra : room a ≤ 65536) (rb : room b ≤ 65536) (hl : a.length + b.length ≤ 4096) (hT : Tab w) :
    Calls Tryd.prog 5 #[s1, s2, .int .i64 v] w fun e w' => e = .returned (.bool true) ∧ Below w.heap.size w w' := by
  have hT0 := hT.1
  have HS1 : Hid (Sr w s1 a) := h1
  have HS2 : Hid (Sr w s2 b) := h2
  have HT : Hid (Tab w) := hT
  have k1 := of_yes s1 a w h1 hf1 ha ra
  have k2 := fun X (hX : Below w.heap.size w X) => of_yes s2 b X (h2.below hX) hf2 hb rb
  have za := sz_wordsR a ha ra; have zb := sz_wordsR b hb rb
  have ca := cl_wordsR a ha; have cb := cl_wordsR b hb
  have r1 := runs_both ha hb hl ra rb
  have r2 := runs_less ha hb hl ra rb
  have r3 := runs_of a ha
  have pr1 := both_right ha.1 hb.1 hl
  have pr2 := less_right ha.1 hb.1 hl
  have hlo : hasB (lo a 0) (room a) (wordsR a) (lo a 0) = true := (of_has a ha _).2 ((mem_vals a _).2 ⟨0, ha.2, Int.le_refl _, (ha.1.2 0 ha.2).1⟩)
  obtain ⟨f1, hf1'⟩ : ∃ x, lo a 0 = x := ⟨_, rfl⟩
  obtain ⟨f2, hf2'⟩ : ∃ x, lo b 0 = x := ⟨_, rfl⟩
  obtain ⟨R1, hR1⟩ : ∃ x, room a = x := ⟨_, rfl⟩
  obtain ⟨R2, hR2⟩ : ∃ x, room b = x := ⟨_, rfl⟩
  obtain ⟨W1, hW1⟩ : ∃ x, wordsR a = x := ⟨_, rfl⟩
  obtain ⟨W2, hW2⟩ : ∃ x, wordsR b = x := ⟨_, rfl⟩
  rw [hf1', hR1, hW1] at k1 za
  rw [hR1, hW1] at ca
  simp only [hf2', hR2, hW2] at k2
  rw [hf2', hR2, hW2] at zb
  rw [hR2, hW2] at cb
  rw [hf1', hf2', hR1, hW1, hW2] at r1 r2
  rw [hf1', hR1, hW1] at r3 hlo
  obtain ⟨WX, hWX⟩ : ∃ x, joinW (fun x y => x &&& y) f1 f2 W1 W2 = x := ⟨_, rfl⟩
  obtain ⟨WY, hWY⟩ : ∃ x, joinW anot f1 f2 W1 W2 = x := ⟨_, rfl⟩
  have zx := join_sz joins_and za zb
  have zy := join_sz joins_anot za zb
  have cx := join_cl joins_and za zb ca (fun k _ => rfl)
  have cy := join_cl joins_anot za zb ca (fun k _ => rfl)
  rw [hWX] at zx cx r1
  rw [hWY] at zy cy r2
  obtain ⟨sa, sca, rfl, hcell⟩ := h1
  obtain ⟨sb, scb, rfl, _⟩ := h2
  obtain ⟨b0, off0, rfl, hb0, hcells⟩ := hcell ha.2
  have hc00 := (hcells 0 ha.2).1
  rw [hf1'] at hc00
  have hab : (a.length : Int) + (b.length : Int) ≤ 4096 := by omega
  have hap : (0 : Int) < (a.length : Int) := by have := ha.2; omega
  have hd0 : decide (4096 < (a.length : Int) + (b.length : Int)) = false := by simp; omega
  have K2 : Hid _ := k2
  have ZA : Hid (Sz f1 R1 W1) := za
  have ZB : Hid (Sz f2 R2 W2) := zb
  have CA : Hid (Cl R1 W1) := ca
  have CB : Hid (Cl R2 W2) := cb
  have ZX : Hid (Sz f1 R1 WX) := zx
  have ZY : Hid (Sz f1 R1 WY) := zy
  have CX : Hid (Cl R1 WX) := cx
  have CY : Hid (Cl R1 WY) := cy
  have RN1 : Hid (runs (bvs f1 R1 WX) = pieces b a) := r1
  have RN2 : Hid (runs (bvs f1 R1 WY) = pieces (notL b) a) := r2
  have RN3 : Hid (runs (bvs f1 R1 W1) = a) := r3
  have HWX : Hid (joinW (fun x y => x &&& y) f1 f2 W1 W2 = WX) := hWX
  have HWY : Hid (joinW anot f1 f2 W1 W2 = WY) := hWY
  have PR1 : Hid (Right (pieces b a)) := pr1
  have PR2 : Hid (Right (pieces (notL b) a)) := pr2
  have HA : Hid (Some' a) := ha
  have HB : Hid (Some' b) := hb
  have HLO : Hid (hasB f1 R1 W1 f1 = true) := hlo
  obtain ⟨na, hna⟩ : ∃ na, a.length = na := ⟨_, rfl⟩
  obtain ⟨nb, hnb⟩ : ∃ nb, b.length = nb := ⟨_, rfl⟩
  have HNA : Hid (a.length = na) := hna
  have HNB : Hid (b.length = nb) := hnb
  rw [hna, hnb] at hab hd0
  rw [hna] at hap k1 HS1 ⊢
  rw [hnb] at K2 HS2 ⊢
  clear k2 za zb ca cb zx zy cx cy r1 r2 r3 hWX hWY pr1 pr2 ha hb hlo hcell hcells hf1' hf2' hR1 hR2 hW1 hW2 hT hna hnb hf1 hf2 ra rb hl
  go_enter Tryd.func5, Tryd.ntmps5
  go_wp2_with fail
  refine k1.mono ?_
  rintro e w1 ⟨b1, rfl, hi1, hb1⟩
  obtain ⟨g1, c1, hb1n, hg1n, hB1⟩ := hi1.open
  have B1 : Hid (Bits w1 b1 g1 c1 f1 R1 W1) := hB1
  clear hi1 hB1 k1
  go_wp2_with fail
  refine (K2.out w1 hb1).mono ?_
  rintro e w2 ⟨b2, rfl, hi2, hb2⟩
  obtain ⟨g2, c2, hb2n, hg2n, hB2⟩ := hi2.open
  have hw2 : Below w.heap.size w w2 := hb1.trans (hb2.mono hb1.size)
  have B1' : Hid (Bits w2 b1 g1 c1 f1 R1 W1) := B1.out.below hb2 B1.out.b_lt B1.out.g_lt
  have B2 : Hid (Bits w2 b2 g2 c2 f2 R2 W2) := hB2
  have q1 := B1.out.g_lt; have q1' := B1.out.b_lt
  have z12 := hb1.size; have z23 := hb2.size
  clear hi2 hB2 B1 K2
  go_wp2_with fail
  refine (copy_any b1 g1 c1 f1 R1 W1 w2 B1'.out ZA.out).mono ?_
  rintro e w3 ⟨bx, rfl, hix, hb3⟩
  obtain ⟨gx, cx, hbxn, hgxn, hBx⟩ := hix.open
  have hw3 : Below w.heap.size w w3 := hw2.trans (hb3.mono hw2.size)
  have B1 : Hid (Bits w3 b1 g1 c1 f1 R1 W1) := B1'.out.below hb3 B1'.out.b_lt B1'.out.g_lt
  have B2' : Hid (Bits w3 b2 g2 c2 f2 R2 W2) := B2.out.below hb3 B2.out.b_lt B2.out.g_lt
  have BX : Hid (Bits w3 bx gx cx f1 R1 W1) := hBx
  have q2 := B2.out.g_lt; have q2' := B2.out.b_lt
  have z34 := hb3.size
  clear hix hBx B1' B2
  go_wp2_with fail
  refine (copy_any b1 g1 c1 f1 R1 W1 w3 B1.out ZA.out).mono ?_
  rintro e w4 ⟨byy, rfl, hiy, hb4⟩
  obtain ⟨gy, cy, hbyn, hgyn, hBy⟩ := hiy.open
  have hw4 : Below w.heap.size w w4 := hw3.trans (hb4.mono hw3.size)
  have B1' : Hid (Bits w4 b1 g1 c1 f1 R1 W1) := B1.out.below hb4 B1.out.b_lt B1.out.g_lt
  have B2 : Hid (Bits w4 b2 g2 c2 f2 R2 W2) := B2'.out.below hb4 B2'.out.b_lt B2'.out.g_lt
  have BX' : Hid (Bits w4 bx gx cx f1 R1 W1) := BX.out.below hb4 BX.out.b_lt BX.out.g_lt
  have BY : Hid (Bits w4 byy gy cy f1 R1 W1) := hBy
  have q3 := BX.out.g_lt; have q3' := BX.out.b_lt
  have q4 := BY.out.g_lt; have q4' := BY.out.b_lt
  have z45 := hb4.size
  clear hiy hBy B1 B2' BX hb1 hb2 hb3 hb4 hw2 hw3
  have ks1 := same_two bx gx cx f1 R1 W1 b1 g1 c1 f1 R1 W1 w4 BX'.out ZA.out CA.out B1'.out ZA.out CA.out
  have ks2 := fun m => same_two b1 g1 c1 f1 R1 W1 bx gx cx f1 R1 W1 (w4.drewN m) (B1'.out.drawn m) ZA.out CA.out (BX'.out.drawn m) ZA.out CA.out
  rw [decide_eq_true rfl] at ks1
  simp only [decide_true] at ks2
  go_wp2_with fail
  refine ks1.mono ?_
  rintro e w5 ⟨rfl, m5, rfl⟩
  go_wp2_with fail
  refine (ks2 m5).mono ?_
  rintro e w5 ⟨rfl, m6, rfl⟩
  simp only [World.drewN_drewN]
  obtain ⟨w5, hw5e⟩ : ∃ w5, w4.drewN (m5 + m6) = w5 := ⟨_, rfl⟩
  have P1 : Hid (Bits w5 b1 g1 c1 f1 R1 W1) := by rw [← hw5e]; exact B1'.out
  have P2 : Hid (Bits w5 b2 g2 c2 f2 R2 W2) := by rw [← hw5e]; exact B2.out
  have PX : Hid (Bits w5 bx gx cx f1 R1 W1) := by rw [← hw5e]; exact BX'.out
  have PY : Hid (Bits w5 byy gy cy f1 R1 W1) := by rw [← hw5e]; exact BY.out
  have hw5 : Below w.heap.size w w5 := by rw [← hw5e]; exact below_drewN hw4 _
  rw [hw5e]
  clear hw5e ks1 ks2 B1' B2 BX' BY hw4
  have ka := and_two bx gx cx f1 R1 W1 b2 g2 c2 f2 R2 W2 w5 PX.out ZA.out ZB.out (.inl ⟨P2.out, bits_apart PX.out P2.out, by omega⟩) w.heap.size (by omega) _ rfl
  rw [HWX.out] at ka
  obtain ⟨t1, ht1⟩ : ∃ t1, chg (joinG (fun x y => x &&& y) f1 f2 W1 W2) W1 W1.length = t1 := ⟨_, rfl⟩
  rw [ht1] at ka
  clear ht1
  go_wp2_with fail
  refine ka.mono ?_
  rintro e w6 ⟨rfl, hX6, hB6, hoff6⟩
  have hw6 : Below w.heap.size w w6 := hw5.trans hB6
  have Q1 : Hid (Bits w6 b1 g1 c1 f1 R1 W1) := P1.out.keep (hoff6 _ (bits_apart PX.out P1.out)) (hoff6 _ (by omega))
  have Q2 : Hid (Bits w6 b2 g2 c2 f2 R2 W2) := P2.out.keep (hoff6 _ (bits_apart PX.out P2.out)) (hoff6 _ (by omega))
  have QX : Hid (Bits w6 bx gx cx f1 R1 WX) := hX6
  have QY : Hid (Bits w6 byy gy cy f1 R1 W1) := PY.out.keep (hoff6 _ (bits_apart PX.out PY.out)) (hoff6 _ (by omega))
  clear ka hX6 hoff6 P1 P2 PX PY hw5 hB6
  have km := minus_two byy gy cy f1 R1 W1 b2 g2 c2 f2 R2 W2 w6 QY.out ZA.out ZB.out (.inl ⟨Q2.out, bits_apart QY.out Q2.out, by omega⟩) w.heap.size (by omega) _ rfl
  rw [HWY.out] at km
  obtain ⟨t2, ht2⟩ : ∃ t2, chg (joinG anot f1 f2 W1 W2) W1 W1.length = t2 := ⟨_, rfl⟩
  rw [ht2] at km
  clear ht2
  go_wp2_with fail
  refine km.mono ?_
  rintro e w7 ⟨rfl, hY7, hB7, hoff7⟩
  have hw7 : Below w.heap.size w w7 := hw6.trans hB7
  have P1 : Hid (Bits w7 b1 g1 c1 f1 R1 W1) := Q1.out.keep (hoff7 _ (bits_apart QY.out Q1.out)) (hoff7 _ (by omega))
  have PX : Hid (Bits w7 bx gx cx f1 R1 WX) := QX.out.keep (hoff7 _ (bits_apart QY.out QX.out)) (hoff7 _ (by omega))
  have PY : Hid (Bits w7 byy gy cy f1 R1 WY) := hY7
  have hT7 : Hid (Tab w7) := HT.out.below hw7 hT0
  clear km hY7 hoff7 Q1 Q2 QX QY hw6 hB7
  go_wp2_with fail
  refine (ranges_any bx gx cx f1 R1 WX w7 PX.out ZX.out CX.out hT7.out (by rw [RN1.out]; exact PR1.out.1)).mono ?_
  rintro e w8 ⟨sx, rfl, hownx, _, hb8⟩
  rw [RN1.out] at hownx
  obtain ⟨ax, cpx, rfl⟩ := own_shape hownx
  have SX : Hid (Sr w8 (.slice ax (pieces b a).length cpx) (pieces b a)) := own_srl hownx
  have hw8 : Below w.heap.size w w8 := hw7.trans (hb8.mono hw7.size)
  have P1' : Hid (Bits w8 b1 g1 c1 f1 R1 W1) := P1.out.below hb8 P1.out.b_lt P1.out.g_lt
  have PY' : Hid (Bits w8 byy gy cy f1 R1 WY) := PY.out.below hb8 PY.out.b_lt PY.out.g_lt
  clear hownx PX P1 PY hb8 hT7
  go_wp2_with fail
  refine (ranges_any byy gy cy f1 R1 WY w8 PY'.out ZY.out CY.out (HT.out.below hw8 hT0) (by rw [RN2.out]; exact PR2.out.1)).mono ?_
  rintro e w9 ⟨sy, rfl, howny, _, hb9⟩
  rw [RN2.out] at howny
  obtain ⟨ay, cpy, rfl⟩ := own_shape howny
  have SX' : Hid (Sr w9 (.slice ax (pieces b a).length cpx) (pieces b a)) := SX.out.below hb9
  have SY : Hid (Sr w9 (.slice ay (pieces (notL b) a).length cpy) (pieces (notL b) a)) := own_srl howny
  have hw9 : Below w.heap.size w w9 := hw8.trans (hb9.mono hw8.size)
  have P1 : Hid (Bits w9 b1 g1 c1 f1 R1 W1) := P1'.out.below hb9 P1'.out.b_lt P1'.out.g_lt
  clear howny SX P1' PY' hb9 hw8
  go_wp2_with fail
  refine (ranges_any b1 g1 c1 f1 R1 W1 w9 P1.out ZA.out CA.out (HT.out.below hw9 hT0) (by rw [RN3.out]; exact HA.out.1.1)).mono ?_
  rintro e w10 ⟨sz, rfl, hownz, _, hb10⟩
  rw [RN3.out] at hownz
  obtain ⟨az, cpz, rfl⟩ := own_shape hownz
  have SX : Hid (Sr w10 (.slice ax (pieces b a).length cpx) (pieces b a)) := SX'.out.below hb10
  have SY' : Hid (Sr w10 (.slice ay (pieces (notL b) a).length cpy) (pieces (notL b) a)) := SY.out.below hb10
  have SZ : Hid (Sr w10 (.slice az a.length cpz) a) := own_srl hownz
  have hw10 : Below w.heap.size w w10 := hw9.trans (hb10.mono hw9.size)
  have P1' : Hid (Bits w10 b1 g1 c1 f1 R1 W1) := P1.out.below hb10 P1.out.b_lt P1.out.g_lt
  clear hownz SX' SY P1 hb10 hw9
  go_wp2_with fail
  refine (refless_any _ _ a b w10 (HS1.out.below hw10) (HS2.out.below hw10) HA.out.1 HB.out.1 PR2.out.1).mono ?_
  rintro e w11 ⟨sl, rfl, hownl, hb11⟩
  obtain ⟨al, cpl, rfl⟩ := own_shape hownl
  have SX' : Hid (Sr w11 (.slice ax (pieces b a).length cpx) (pieces b a)) := SX.out.below hb11
  have SY : Hid (Sr w11 (.slice ay (pieces (notL b) a).length cpy) (pieces (notL b) a)) := SY'.out.below hb11
  have SZ' : Hid (Sr w11 (.slice az a.length cpz) a) := SZ.out.below hb11
  have SL : Hid (Sr w11 (.slice al (pieces (notL b) a).length cpl) (pieces (notL b) a)) := own_srl hownl
  have hw11 : Below w.heap.size w w11 := hw10.trans (hb11.mono hw10.size)
  have P1 : Hid (Bits w11 b1 g1 c1 f1 R1 W1) := P1'.out.below hb11 P1'.out.b_lt P1'.out.g_lt
  clear hownl SX SY' SZ P1' hb11 hw10
  go_wp2_with fail
  refine (refboth_any _ _ a b w11 (HS1.out.below hw11) (HS2.out.below hw11) HA.out.1 HB.out.1 PR1.out.1).mono ?_
  rintro e w12 ⟨so, rfl, howno, hb12⟩
  obtain ⟨ao, cpo, rfl⟩ := own_shape howno
  have SX : Hid (Sr w12 (.slice ax (pieces b a).length cpx) (pieces b a)) := SX'.out.below hb12
  have SY' : Hid (Sr w12 (.slice ay (pieces (notL b) a).length cpy) (pieces (notL b) a)) := SY.out.below hb12
  have SZ : Hid (Sr w12 (.slice az a.length cpz) a) := SZ'.out.below hb12
  have SL' : Hid (Sr w12 (.slice al (pieces (notL b) a).length cpl) (pieces (notL b) a)) := SL.out.below hb12
  have SO : Hid (Sr w12 (.slice ao (pieces b a).length cpo) (pieces b a)) := own_srl howno
  have hw12 : Below w.heap.size w w12 := hw11.trans (hb12.mono hw11.size)
  have P1' : Hid (Bits w12 b1 g1 c1 f1 R1 W1) := P1.out.below hb12 P1.out.b_lt P1.out.g_lt
  clear howno SX' SY SZ' SL P1 hb12 hw11
  go_wp2_with fail
  refine (alikeR_same _ _ (pieces b a) w12 SX.out SO.out (by have := PR1.out.1; omega)).mono ?_
  rintro e w13 ⟨rfl, m13, rfl⟩
  go_wp2_with fail
  refine (alikeR_same _ _ (pieces (notL b) a) _ (SY'.out.drawn m13) (SL'.out.drawn m13) (by have := PR2.out.1; omega)).mono ?_
  rintro e w14 ⟨rfl, m14, rfl⟩
  have HS1' : Sr w12 (.slice (some ⟨b0, off0, none⟩) na sca) a := HS1.out.below hw12
  go_wp2_with fail
  refine (alikeR_same _ _ a _ ((by have h9 := (SZ.out.drawn (m13 + m14)); exact h9)) (HS1'.drawn (m13 + m14)) (by have := HA.out.1.1; omega)).mono ?_
  rintro e w15 ⟨rfl, m15, rfl⟩
  obtain ⟨w15, hw15e⟩ : ∃ w15, w12.drewN (m13 + m14 + m15) = w15 := ⟨_, rfl⟩
  have P1 : Hid (Bits w15 b1 g1 c1 f1 R1 W1) := by rw [← hw15e]; exact P1'.out
  have hw15 : Below w.heap.size w w15 := by rw [← hw15e]; exact below_drewN hw12 _
  try simp only [World.drewN_drewN]
  try rw [hw15e]
  clear hw15e SX SY' SZ SL' SO P1' hw12 HS1'
  have q11 := P1.out.g_lt
  have q11' := P1.out.b_lt
  have hlenw := ZA.out.len
  have hmost := ZA.out.most
  go_wp2_with fail
  refine (words2_any b1 g1 c1 f1 R1 W1 w15 P1.out ZA.out).mono ?_
  rintro e w16 ⟨A, rfl, hA1, hA2, hAc, _, hb16⟩
  obtain ⟨nw, hnw⟩ : ∃ nw, W1.length = nw := ⟨_, rfl⟩
  have HNW : Hid (W1.length = nw) := hnw
  rw [hnw] at hAc hlenw ⊢
  have HAC : Hid (∀ k, k < nw → w16.cell? ⟨A, k, none⟩ = some (.int .u64 (wat W1 k : Nat))) := hAc
  have P1' : Hid (Bits w16 b1 g1 c1 f1 R1 W1) := P1.out.below hb16 P1.out.b_lt P1.out.g_lt
  have hw16 : Below w.heap.size w w16 := hw15.trans (hb16.mono hw15.size)
  clear hAc hnw P1 hb16 hw15
  go_wp2
  go_loopw [21, 23, 24] (fun on i _ wr => ∃ (k m : Nat), k ≤ nw ∧ i = .int .i64 k ∧ on = .int .i64 (sizeOf' W1 k : Nat) ∧ wr = w16.drewN m) (fun _ i _ _ => nw - (intOf i).toNat)
  case atStart => exact ⟨0, 0, by omega, rfl, rfl, rfl⟩
  case round =>
    obtain ⟨k, m, hk, rfl, rfl, rfl⟩ := hrel
    by_cases hkn : k < nw
    · have hc := HAC.out k hkn
      have hsu := sizeOf'_succ W1 k
      have hle := sizeOf'_le W1 (k + 1)
      have hwd := ZA.out.word k
      obtain ⟨u, hu⟩ : ∃ u, wat W1 k = u := ⟨_, rfl⟩
      rw [hu] at hc hsu hwd
      obtain ⟨T, hTs⟩ : ∃ T, sizeOf' W1 (k + 1) = T := ⟨_, rfl⟩
      rw [hTs] at hsu hle
      obtain ⟨S0, hS0⟩ : ∃ S0, sizeOf' W1 k = S0 := ⟨_, rfl⟩
      rw [hS0] at hsu
      have hkn' : (k : Int) < (nw : Int) := by omega
      have hcm : (w16.drewN m).cell? ⟨A, k, none⟩ = some (.int .u64 (u : Nat)) := hc
      try rw [hS0]
      clear hc hu hS0
      go_wp2
      go_loopw [21, 24] (fun on uu wq => ∃ (x o m' : Nat), uu = .int .u64 x ∧ on = .int .i64 o ∧ x < 18446744073709551616 ∧ o + cnt 64 x = T ∧ wq = w16.drewN m') (fun _ uu _ => (intOf uu).toNat)
      case atStart => exact ⟨u, S0, m, by go_num, by go_num, hwd, by omega, rfl⟩
      case round =>
        obtain ⟨x, o, m', rfl, rfl, hx, hox, rfl⟩ := hrel
        rcases Nat.eq_zero_or_pos x with hx0 | hx0
        · subst hx0
          rw [cnt_zero64] at hox
          go_wp2
          go_roundw
          case rel => exact ⟨k + 1, m', by omega, by go_num, by rw [hTs]; go_num, rfl⟩
          case measure => simp [intOf]; omega
        · have hh := cnt_half x hx
          have hd : decide (0 < (x : Int)) = true := by simp; omega
          have hol : o ≤ 70000 := by omega
          go_wp2
          go_roundw
          case rel => exact ⟨x / 2, o + x % 2, m', by go_num, by go_num, by omega, by omega, rfl⟩
          case measure => simp [intOf]; omega
    · have hkk : k = nw := by omega
      subst hkk
      clear hk
      obtain ⟨was, hwas⟩ : ∃ was, hasB f1 R1 W1 v = was := ⟨_, rfl⟩
      have HWAS : Hid (hasB f1 R1 W1 v = was) := hwas
      clear hwas
      go_wp2_with fail
      refine (has_any b1 g1 c1 f1 R1 v W1 _ (P1'.out.drawn m) ZA.out).mono ?_
      rintro e w17 ⟨rfl, m17, rfl⟩
      obtain ⟨w17, hw17e⟩ : ∃ w17, w16.drewN (m + m17) = w17 := ⟨_, rfl⟩
      have P2 : Hid (Bits w17 b1 g1 c1 f1 R1 W1) := by rw [← hw17e]; exact P1'.out
      have hw17 : Below w.heap.size w w17 := by rw [← hw17e]; exact below_drewN hw16 _
      simp only [World.drewN_drewN]
      rw [hw17e, HWAS.out]
      clear hw17e P1' hw16 HAC
      go_wp2_with fail
      refine (copy_any b1 g1 c1 f1 R1 W1 w17 P2.out ZA.out).mono ?_
      rintro e w18 ⟨bc, rfl, hic, hb18⟩
      obtain ⟨gc, cc, hbcn, hgcn, hBc⟩ := hic.open
      have P3 : Hid (Bits w18 b1 g1 c1 f1 R1 W1) := P2.out.below hb18 P2.out.b_lt P2.out.g_lt
      have hw18 : Below w.heap.size w w18 := hw17.trans (hb18.mono hw17.size)
      have q17 := P2.out.g_lt; have q17' := P2.out.b_lt
      have z17 := hw17.size
      obtain ⟨WA, zA, kA⟩ := add_some bc gc cc f1 R1 v W1 w18 hBc ZA.out
      have hbcg := bits_apart hBc P3.out
      have ZWA : Hid (Sz f1 R1 WA) := zA
      clear hic P2 hb18 hw17 zA
      go_wp2_with fail
      refine kA.mono ?_
      rintro e w19 ⟨⟨tA, eA, rfl⟩, hBA, hszA, hoffA⟩
      have P4 : Hid (Bits w19 b1 g1 c1 f1 R1 W1) := P3.out.keep (hoffA _ hbcg) (hoffA _ (by omega))
      have hw19 : Below w.heap.size w w19 := hw18.trans (hszA _ (by omega))
      obtain ⟨WD, zD, kD⟩ := del_some bc gc cc f1 R1 f1 WA w19 hBA ZWA.out
      have hbcg' := bits_apart hBA P4.out
      have hc19 := (hw19.cell (p := ⟨b0, off0 + 0 * 2, none⟩) hb0).trans hc00
      simp only [Nat.zero_mul, Nat.add_zero] at hc19
      clear kA P3 hw18 hBc hbcg hBA zD
      go_wp2_with fail
      refine kD.mono ?_
      rintro e w20 ⟨⟨tD, eD, rfl⟩, hBD, hszD, hoffD⟩
      have P5 : Hid (Bits w20 b1 g1 c1 f1 R1 W1) := P4.out.keep (hoffD _ hbcg') (hoffD _ (by omega))
      have hw20 : Below w.heap.size w w20 := hw19.trans (hszD _ (by omega))
      have hc20 := (hw20.cell (p := ⟨b0, off0 + 0 * 2, none⟩) hb0).trans hc00
      simp only [Nat.zero_mul, Nat.add_zero] at hc20
      have ks := size_any b1 g1 c1 f1 R1 W1 w20 P5.out ZA.out
      rw [HNW.out] at ks
      clear kD P4 hw19 hbcg' hBD hc19
      go_wp2_with fail
      refine ks.mono ?_
      rintro e w21 ⟨rfl, rfl⟩
      go_wp2_with fail
      refine (has_any b1 g1 c1 f1 R1 v W1 w21 P5.out ZA.out).mono ?_
      rintro e w22 ⟨rfl, m22, rfl⟩
      rw [HWAS.out]
      go_wp2_with fail
      refine (has_any b1 g1 c1 f1 R1 f1 W1 _ (P5.out.drawn m22) ZA.out).mono ?_
      rintro e w23 ⟨rfl, m23, rfl⟩
      rw [HLO.out]
      have hwz : Below w.heap.size w (w21.drewN (m22 + m23)) := below_drewN hw20 _
      go_wp2_with fail
      refine (known_any _ (HT.out.below hwz hT0)).mono ?_
      rintro e w24 ⟨rfl, hb24⟩
      have hwl := hwz.trans (hb24.mono hwz.size)
      go_wp2
      go_ret
      exact ⟨rfl, hwl⟩
end Go.Proofs.YtgcgomofmicchaaDoor
