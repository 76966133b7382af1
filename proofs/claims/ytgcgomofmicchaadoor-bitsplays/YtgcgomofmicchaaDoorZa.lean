/-
  What is proved here: the walk of BitsMakes.
-/
import Derived.Test.YtgcgomofmicchaaDoorYt
import Derived.Test.YtgcgomofmicchaaDoorYl
import Derived.Test.YtgcgomofmicchaaDoorYo
import Derived.Test.YtgcgomofmicchaaDoorYs
import Derived.Test.YtgcgomofmicchaaDoorXn
namespace Go.Proofs.YtgcgomofmicchaaDoor
open Go.RowKit Go.Shelf

theorem own_below {W W' : World} {base e size n : Nat} {s : Value} {xs : List Value} (h : W.ownsRow base e size s n xs) (hb : Below W.heap.size W W') : W'.ownsRow base e size s n xs :=
  ⟨h.1, by
    rcases h.2 with h2 | ⟨g, cap, cur, e1, hg, hgb, r⟩
    · exact .inl h2
    · exact .inr ⟨g, cap, cur, e1, hg, (hb.block g (Array.getElem?_eq_some_iff.1 hgb).1).trans hgb, r⟩⟩

/-- What a set of bits and one of the reference have in common, beside memory. -/
structure Match (f room : Int) (ws : List Nat) (L : List Bool) : Prop where
  sz : Sz f room ws
  cl : Cl room ws
  rz : Rz f L
  ag : Agree room ws L
  le : (runs (bvs f room ws)).length ≤ 4096
theorem alike_of (b g c rb rg rc : Nat) (f room v : Int) (ws : List Nat) (L : List Bool) (W : World) (h : Bits W b g c f room ws) (hr : Ref W rb rg rc f L) (hm : Match f room ws L) (hT : Tab W) :
    Calls Tryd.prog 14 #[.pointer (some ⟨b, 0, none⟩), .pointer (some ⟨rb, 0, none⟩), .int .i64 v] W fun e w' => e = .returned (.bool true) ∧ Below W.heap.size W w' :=
  alike_any b g c rb rg rc f room v ws L W h hm.sz hm.cl hr hm.rz hm.ag hm.le hT

def ofL (l : List Rg) : List Bool := (List.range (room l).toNat).map fun j : Nat => decide (lo l 0 + (j : Int) ∈ vals l)
theorem ofL_at (l : List Rg) (j : Nat) (hj : j < (room l).toNat) : lat (ofL l) j = decide (lo l 0 + (j : Int) ∈ vals l) := lat_range _ _ _ hj
theorem ofL_length (l : List Rg) : (ofL l).length = (room l).toNat := by simp [ofL]
theorem match_of (l : List Rg) (hR : Some' l) (hl : room l ≤ 65536) : Match (lo l 0) (room l) (wordsR l) (ofL l) := by
  have hz := sz_wordsR l hR hl
  have h1 := hz.one
  refine ⟨hz, cl_wordsR l hR, ⟨hz.lo, by rw [ofL_length]; omega, by rw [ofL_length]; omega, ?_⟩, ⟨by rw [ofL_length]; omega, fun i hi => ?_⟩, by rw [runs_of l hR]; exact hR.1.1⟩
  · rw [ofL_length]; have := hz.hi; omega
  · rw [ofL_length] at hi
    rw [ofL_at l i hi]
    unfold pb
    have h9 := bt_wordsR l hR (i : Int)
    cases hb : bt (wordsR l) (i : Int)
    · rw [hb] at h9
      have : ¬ (lo l 0 + (i : Int) ∈ vals l) := fun q => by simpa using h9.2 q
      simp [this]
    · have := h9.1 hb
      simp [this]
theorem refof_ok (s : Value) (l : List Rg) (w : World) (h : Sr w s l) (hR : Some' l) (hr : room l ≤ 65536) :
    Calls Tryd.prog 10 #[s] w fun e w' => ∃ rb rg rc : Nat, e = .returned (.tuple #[.pointer (some ⟨rb, 0, none⟩), .int .i64 0]) ∧ Ref w' rb rg rc (lo l 0) (ofL l) ∧ Below w.heap.size w w' := by
  refine (refof_yes s l w h hR hr).mono fun e w' ⟨b, g, n, p, he, _, _, hn, hb, hrow, hp, hbel⟩ => ⟨b, g, n, he, ?_, hbel⟩
  have e1 : ofL l = (List.range n).map p := by
    unfold ofL
    rw [hn, Int.toNat_natCast]
    refine List.map_congr_left fun j hj => ?_
    have hj' : j < n := by simpa using hj
    have h9 := hp j hj'
    cases hpj : p j
    · rw [hpj] at h9
      have : ¬ (lo l 0 + (j : Int) ∈ vals l) := fun q => by simpa using h9.2 q
      simp [this]
    · have := h9.1 hpj
      simp [this]
  rw [e1]
  exact ref_of (by omega) hb hrow

/-- Both ways of making a set of ranges: refused alike, or made alike. -/
theorem of_cases (l : List Rg) (hf : FitsR l) :
    (∃ e : Int, ∀ s w, Sr w s l → (Calls Tryd.prog 9 #[s] w fun r w' => r = .returned (.tuple #[.pointer none, .int .i64 e]) ∧ Below w.heap.size w w') ∧ (Calls Tryd.prog 10 #[s] w fun r w' => r = .returned (.tuple #[.pointer none, .int .i64 e]) ∧ Below w.heap.size w w')) ∨
    (∃ f room ws L, Match f room ws L ∧ ∀ s w, Sr w s l → (Calls Tryd.prog 9 #[s] w fun r w' => ∃ b g c : Nat, r = .returned (.tuple #[.pointer (some ⟨b, 0, none⟩), .int .i64 0]) ∧ Bits w' b g c f room ws ∧ Below w.heap.size w w') ∧
      (Calls Tryd.prog 10 #[s] w fun r w' => ∃ rb rg rc : Nat, r = .returned (.tuple #[.pointer (some ⟨rb, 0, none⟩), .int .i64 0]) ∧ Ref w' rb rg rc f L ∧ Below w.heap.size w w')) := by
  by_cases hR : Some' l
  · by_cases hl : room l ≤ 65536
    · exact .inr ⟨_, _, _, _, match_of l hR hl, fun s w h => ⟨(of_yes s l w h hf hR hl).mono (fun e w' ⟨b, he, hib, hb⟩ => by
        obtain ⟨g, c, _, _, hB⟩ := hib.open
        exact ⟨b, g, c, he, hB, hb⟩), refof_ok s l w h hR hl⟩⟩
    · exact .inl ⟨4, fun s w h => ⟨of_long s l w h hf hR (by omega), refof_full s l w h hR (by omega)⟩⟩
  · exact .inl ⟨20, fun s w h => ⟨of_no s l w h hf hR, refof_no s l w h hR⟩⟩

theorem bvs_zero (f room : Int) (n : Nat) : bvs f room (wordsOf [] f n) = [] := by
  unfold bvs
  have := bv_gap f (pb (wordsOf [] f n)) 0 room.toNat (Nat.zero_le _) (fun i _ _ => by unfold pb; exact bt_zero f n _)
  rw [this]; rfl
theorem match_new (f t : Int) (h1 : -1000000 ≤ f) (h2 : t ≤ 1000000) (h3 : f ≤ t) (h4 : t - f < 65536) : Match f (t - f + 1) (wordsOf [] f ((t - f + 64) / 64).toNat) ((List.range (t - f + 1).toNat).map fun _ => false) := by
  refine ⟨sz_zero f t h1 h2 h3 h4, fun k _ => bt_zero f _ k, ⟨h1, by simp; omega, by simp; omega, by simp; omega⟩, ⟨by simp; omega, fun i hi => ?_⟩, by rw [bvs_zero]; simp [runs]⟩
  have hi' : i < (t - f + 1).toNat := by simpa using hi
  rw [lat_range _ _ _ hi']
  unfold pb; exact bt_zero f _ _
theorem new_cases (f t : Int) :
    (∃ e : Int, ∀ w, (Calls Tryd.prog 11 #[.int .i64 f, .int .i64 t] w fun r w' => r = .returned (.tuple #[.pointer none, .int .i64 e]) ∧ Below w.heap.size w w') ∧ (Calls Tryd.prog 12 #[.int .i64 f, .int .i64 t] w fun r w' => r = .returned (.tuple #[.pointer none, .int .i64 e]) ∧ Below w.heap.size w w')) ∨
    (∃ f' room ws L, Match f' room ws L ∧ ∀ w, (Calls Tryd.prog 11 #[.int .i64 f, .int .i64 t] w fun r w' => ∃ b g c : Nat, r = .returned (.tuple #[.pointer (some ⟨b, 0, none⟩), .int .i64 0]) ∧ Bits w' b g c f' room ws ∧ Below w.heap.size w w') ∧
      (Calls Tryd.prog 12 #[.int .i64 f, .int .i64 t] w fun r w' => ∃ rb rg rc : Nat, r = .returned (.tuple #[.pointer (some ⟨rb, 0, none⟩), .int .i64 0]) ∧ Ref w' rb rg rc f' L ∧ Below w.heap.size w w')) := by
  by_cases h : -1000000 ≤ f ∧ t ≤ 1000000 ∧ f ≤ t
  · obtain ⟨h1, h2, h3⟩ := h
    by_cases h4 : t - f < 65536
    · refine .inr ⟨_, _, _, _, match_new f t h1 h2 h3 h4, fun w => ⟨(new_yes f t w h1 h2 h3 h4).mono (fun e w' ⟨b, he, hib, hb⟩ => by
        obtain ⟨g, c, _, _, hB⟩ := hib.open
        exact ⟨b, g, c, he, hB, hb⟩), (refnew_yes f t (t - f + 1).toNat w h1 h2 h3 h4 (by omega)).mono (fun e w' ⟨he, hb, hrow, hbel⟩ => ⟨_, _, _, he, ref_of (by omega) hb hrow, hbel⟩)⟩⟩
    · exact .inl ⟨4, fun w => ⟨new_full f t w h1 h2 h3 (by omega), (refnew_full f t w h1 h2 h3 (by omega)).mono (fun e w' ⟨he, hw⟩ => ⟨he, by rw [hw]; exact Below.refl _ _⟩)⟩⟩
  · exact .inl ⟨20, fun w => ⟨new_dom f t w h, (refnew_dom f t w h).mono (fun e w' ⟨he, hw⟩ => ⟨he, by rw [hw]; exact Below.refl _ _⟩)⟩⟩

set_option maxRecDepth 100000 in
set_option maxHeartbeats 4000000 in
theorem makes_nn (lo' hi' v : Int) (s : Value) (l : List Rg) (w : World) (h : Sr w s l) (hr : l.length * 16 ≤ 140737488351232) (hT : Tab w)
    (e1 : Int) (k9 : ∀ s w, Sr w s l → (Calls Tryd.prog 9 #[s] w fun r w' => r = .returned (.tuple #[.pointer none, .int .i64 e1]) ∧ Below w.heap.size w w') ∧ (Calls Tryd.prog 10 #[s] w fun r w' => r = .returned (.tuple #[.pointer none, .int .i64 e1]) ∧ Below w.heap.size w w'))
    (e2 : Int) (k11 : ∀ w, (Calls Tryd.prog 11 #[.int .i64 lo', .int .i64 hi'] w fun r w' => r = .returned (.tuple #[.pointer none, .int .i64 e2]) ∧ Below w.heap.size w w') ∧ (Calls Tryd.prog 12 #[.int .i64 lo', .int .i64 hi'] w fun r w' => r = .returned (.tuple #[.pointer none, .int .i64 e2]) ∧ Below w.heap.size w w'))
    : Calls Tryd.prog 3 #[s, .int .i64 lo', .int .i64 hi', .int .i64 v] w fun e w' => e = .returned (.bool true) ∧ Below w.heap.size w w' := by
  have hT0 := hT.1
  have k8 := lentR_any s l w h hr
  have HS : Hid (Sr w s l) := h
  have HT : Hid (Tab w) := hT
  have K9 : Hid _ := k9
  have K11 : Hid _ := k11
  obtain ⟨sa, sc, rfl, _⟩ := h
  clear hT k9 k11
  go_enter Tryd.func3, Tryd.ntmps3
  go_wp2_with fail
  refine k8.mono ?_
  clear k8
  rintro e w1 ⟨g, c, rfl, hc1, hc2, hown, hb1⟩
  have HO1 : Hid (w1.ownsRow w.heap.size 62 2 (.slice (some ⟨g, 0, none⟩) (l.length + 1) c) (l.length + 1) (flat l ++ [.int .i64 77, .int .i64 7])) := hown
  clear hown
  go_wp2_with fail
  refine (K9.out _ w1 (lent_sr HO1.out)).1.mono ?_
  rintro e w2 ⟨rfl, hb2⟩
  have hw2 : Below w.heap.size w w2 := hb1.trans (hb2.mono hb1.size)
  go_wp2_with fail
  refine (K9.out _ w2 (HS.out.below hw2)).2.mono ?_
  rintro e w3 ⟨rfl, hb3⟩
  have hw3 : Below w.heap.size w w3 := hw2.trans (hb3.mono hw2.size)
  go_wp2_with fail
  refine (K11.out w3).1.mono ?_
  rintro e w4 ⟨rfl, hb4⟩
  have hw4 : Below w.heap.size w w4 := hw3.trans (hb4.mono hw3.size)
  go_wp2_with fail
  refine (K11.out w4).2.mono ?_
  rintro e w5 ⟨rfl, hb5⟩
  have hw5 : Below w.heap.size w w5 := hw4.trans (hb5.mono hw4.size)
  have HO5 : Hid (w5.ownsRow 0 62 2 (.slice (some ⟨g, 0, none⟩) (l.length + 1) c) (l.length + 1) (flat l ++ [.int .i64 77, .int .i64 7])) := own_base (own_below (own_below (own_below (own_below HO1.out hb2) hb3) hb4) hb5) (Nat.zero_le _)
  go_wp2_with fail
  refine (keptR_any g c _ l w5 HO5.out hc1 hc2 (HS.out.below hw5) hr).mono ?_
  rintro e w6 ⟨rfl, hb6⟩
  have hw6 : Below w.heap.size w w6 := hw5.trans (hb6.mono hw5.size)
  go_wp2_with fail
  refine (known_any w6 (HT.out.below hw6 hT0)).mono ?_
  rintro e w9 ⟨rfl, hb9⟩
  go_wp2
  go_ret
  exact ⟨rfl, hw6.trans (hb9.mono hw6.size)⟩

set_option maxRecDepth 100000 in
set_option maxHeartbeats 4000000 in
theorem makes_ny (lo' hi' v : Int) (s : Value) (l : List Rg) (w : World) (h : Sr w s l) (hr : l.length * 16 ≤ 140737488351232) (hT : Tab w)
    (e1 : Int) (k9 : ∀ s w, Sr w s l → (Calls Tryd.prog 9 #[s] w fun r w' => r = .returned (.tuple #[.pointer none, .int .i64 e1]) ∧ Below w.heap.size w w') ∧ (Calls Tryd.prog 10 #[s] w fun r w' => r = .returned (.tuple #[.pointer none, .int .i64 e1]) ∧ Below w.heap.size w w'))
    (f2 room2 : Int) (ws2 : List Nat) (L2 : List Bool) (m2 : Match f2 room2 ws2 L2)
    (k11 : ∀ w, (Calls Tryd.prog 11 #[.int .i64 lo', .int .i64 hi'] w fun r w' => ∃ b g c : Nat, r = .returned (.tuple #[.pointer (some ⟨b, 0, none⟩), .int .i64 0]) ∧ Bits w' b g c f2 room2 ws2 ∧ Below w.heap.size w w') ∧
      (Calls Tryd.prog 12 #[.int .i64 lo', .int .i64 hi'] w fun r w' => ∃ rb rg rc : Nat, r = .returned (.tuple #[.pointer (some ⟨rb, 0, none⟩), .int .i64 0]) ∧ Ref w' rb rg rc f2 L2 ∧ Below w.heap.size w w'))
    : Calls Tryd.prog 3 #[s, .int .i64 lo', .int .i64 hi', .int .i64 v] w fun e w' => e = .returned (.bool true) ∧ Below w.heap.size w w' := by
  have hT0 := hT.1
  have k8 := lentR_any s l w h hr
  have HS : Hid (Sr w s l) := h
  have HT : Hid (Tab w) := hT
  have K9 : Hid _ := k9
  have K11 : Hid _ := k11
  obtain ⟨sa, sc, rfl, _⟩ := h
  clear hT k9 k11
  go_enter Tryd.func3, Tryd.ntmps3
  go_wp2_with fail
  refine k8.mono ?_
  clear k8
  rintro e w1 ⟨g, c, rfl, hc1, hc2, hown, hb1⟩
  have HO1 : Hid (w1.ownsRow w.heap.size 62 2 (.slice (some ⟨g, 0, none⟩) (l.length + 1) c) (l.length + 1) (flat l ++ [.int .i64 77, .int .i64 7])) := hown
  clear hown
  go_wp2_with fail
  refine (K9.out _ w1 (lent_sr HO1.out)).1.mono ?_
  rintro e w2 ⟨rfl, hb2⟩
  have hw2 : Below w.heap.size w w2 := hb1.trans (hb2.mono hb1.size)
  go_wp2_with fail
  refine (K9.out _ w2 (HS.out.below hw2)).2.mono ?_
  rintro e w3 ⟨rfl, hb3⟩
  have hw3 : Below w.heap.size w w3 := hw2.trans (hb3.mono hw2.size)
  go_wp2_with fail
  refine (K11.out w3).1.mono ?_
  rintro e w4 ⟨cb, cg, cc, rfl, hB2, hb4⟩
  have HB2 : Hid (Bits w4 cb cg cc f2 room2 ws2) := hB2
  clear hB2
  have hw4 : Below w.heap.size w w4 := hw3.trans (hb4.mono hw3.size)
  go_wp2_with fail
  refine (K11.out w4).2.mono ?_
  rintro e w5 ⟨db, dg, dc, rfl, hR2, hb5⟩
  have HR2 : Hid (Ref w5 db dg dc f2 L2) := hR2
  clear hR2
  have hw5 : Below w.heap.size w w5 := hw4.trans (hb5.mono hw4.size)
  have HO5 : Hid (w5.ownsRow 0 62 2 (.slice (some ⟨g, 0, none⟩) (l.length + 1) c) (l.length + 1) (flat l ++ [.int .i64 77, .int .i64 7])) := own_base (own_below (own_below (own_below (own_below HO1.out hb2) hb3) hb4) hb5) (Nat.zero_le _)
  go_wp2_with fail
  refine (keptR_any g c _ l w5 HO5.out hc1 hc2 (HS.out.below hw5) hr).mono ?_
  rintro e w6 ⟨rfl, hb6⟩
  have hw6 : Below w.heap.size w w6 := hw5.trans (hb6.mono hw5.size)
  go_wp2_with fail
  refine (alike_of cb cg cc db dg dc f2 room2 v ws2 L2 w6 ((HB2.out.below hb5 HB2.out.b_lt HB2.out.g_lt).below (hb6) (Nat.lt_of_lt_of_le HB2.out.b_lt hb5.size) (Nat.lt_of_lt_of_le HB2.out.g_lt hb5.size)) (HR2.out.below (hb6) HR2.out.b_lt HR2.out.g_lt) m2 (HT.out.below hw6 hT0)).mono ?_
  rintro e w8 ⟨rfl, hb8⟩
  have hw8 : Below w.heap.size w w8 := hw6.trans (hb8.mono hw6.size)
  go_wp2_with fail
  refine (known_any w8 (HT.out.below hw8 hT0)).mono ?_
  rintro e w9 ⟨rfl, hb9⟩
  go_wp2
  go_ret
  exact ⟨rfl, hw8.trans (hb9.mono hw8.size)⟩

set_option maxRecDepth 100000 in
set_option maxHeartbeats 4000000 in
theorem makes_yn (lo' hi' v : Int) (s : Value) (l : List Rg) (w : World) (h : Sr w s l) (hr : l.length * 16 ≤ 140737488351232) (hT : Tab w)
    (f1 room1 : Int) (ws1 : List Nat) (L1 : List Bool) (m1 : Match f1 room1 ws1 L1)
    (k9 : ∀ s w, Sr w s l → (Calls Tryd.prog 9 #[s] w fun r w' => ∃ b g c : Nat, r = .returned (.tuple #[.pointer (some ⟨b, 0, none⟩), .int .i64 0]) ∧ Bits w' b g c f1 room1 ws1 ∧ Below w.heap.size w w') ∧
      (Calls Tryd.prog 10 #[s] w fun r w' => ∃ rb rg rc : Nat, r = .returned (.tuple #[.pointer (some ⟨rb, 0, none⟩), .int .i64 0]) ∧ Ref w' rb rg rc f1 L1 ∧ Below w.heap.size w w'))
    (e2 : Int) (k11 : ∀ w, (Calls Tryd.prog 11 #[.int .i64 lo', .int .i64 hi'] w fun r w' => r = .returned (.tuple #[.pointer none, .int .i64 e2]) ∧ Below w.heap.size w w') ∧ (Calls Tryd.prog 12 #[.int .i64 lo', .int .i64 hi'] w fun r w' => r = .returned (.tuple #[.pointer none, .int .i64 e2]) ∧ Below w.heap.size w w'))
    : Calls Tryd.prog 3 #[s, .int .i64 lo', .int .i64 hi', .int .i64 v] w fun e w' => e = .returned (.bool true) ∧ Below w.heap.size w w' := by
  have hT0 := hT.1
  have k8 := lentR_any s l w h hr
  have HS : Hid (Sr w s l) := h
  have HT : Hid (Tab w) := hT
  have K9 : Hid _ := k9
  have K11 : Hid _ := k11
  obtain ⟨sa, sc, rfl, _⟩ := h
  clear hT k9 k11
  go_enter Tryd.func3, Tryd.ntmps3
  go_wp2_with fail
  refine k8.mono ?_
  clear k8
  rintro e w1 ⟨g, c, rfl, hc1, hc2, hown, hb1⟩
  have HO1 : Hid (w1.ownsRow w.heap.size 62 2 (.slice (some ⟨g, 0, none⟩) (l.length + 1) c) (l.length + 1) (flat l ++ [.int .i64 77, .int .i64 7])) := hown
  clear hown
  go_wp2_with fail
  refine (K9.out _ w1 (lent_sr HO1.out)).1.mono ?_
  rintro e w2 ⟨ab, ag, ac, rfl, hB1, hb2⟩
  have HB1 : Hid (Bits w2 ab ag ac f1 room1 ws1) := hB1
  clear hB1
  have hw2 : Below w.heap.size w w2 := hb1.trans (hb2.mono hb1.size)
  go_wp2_with fail
  refine (K9.out _ w2 (HS.out.below hw2)).2.mono ?_
  rintro e w3 ⟨bb, bg, bc, rfl, hR1, hb3⟩
  have HR1 : Hid (Ref w3 bb bg bc f1 L1) := hR1
  clear hR1
  have hw3 : Below w.heap.size w w3 := hw2.trans (hb3.mono hw2.size)
  go_wp2_with fail
  refine (K11.out w3).1.mono ?_
  rintro e w4 ⟨rfl, hb4⟩
  have hw4 : Below w.heap.size w w4 := hw3.trans (hb4.mono hw3.size)
  go_wp2_with fail
  refine (K11.out w4).2.mono ?_
  rintro e w5 ⟨rfl, hb5⟩
  have hw5 : Below w.heap.size w w5 := hw4.trans (hb5.mono hw4.size)
  have HO5 : Hid (w5.ownsRow 0 62 2 (.slice (some ⟨g, 0, none⟩) (l.length + 1) c) (l.length + 1) (flat l ++ [.int .i64 77, .int .i64 7])) := own_base (own_below (own_below (own_below (own_below HO1.out hb2) hb3) hb4) hb5) (Nat.zero_le _)
  go_wp2_with fail
  refine (keptR_any g c _ l w5 HO5.out hc1 hc2 (HS.out.below hw5) hr).mono ?_
  rintro e w6 ⟨rfl, hb6⟩
  have hw6 : Below w.heap.size w w6 := hw5.trans (hb6.mono hw5.size)
  go_wp2_with fail
  refine (alike_of ab ag ac bb bg bc f1 room1 v ws1 L1 w6 (((((HB1.out.below hb3 HB1.out.b_lt HB1.out.g_lt).below hb4 (Nat.lt_of_lt_of_le HB1.out.b_lt hb3.size) (Nat.lt_of_lt_of_le HB1.out.g_lt hb3.size)).below (hb5.trans (hb6.mono hb5.size)) (Nat.lt_of_lt_of_le HB1.out.b_lt (Nat.le_trans hb3.size hb4.size)) (Nat.lt_of_lt_of_le HB1.out.g_lt (Nat.le_trans hb3.size hb4.size))))) ((HR1.out.below hb4 HR1.out.b_lt HR1.out.g_lt).below (hb5.trans (hb6.mono hb5.size)) (Nat.lt_of_lt_of_le HR1.out.b_lt hb4.size) (Nat.lt_of_lt_of_le HR1.out.g_lt hb4.size)) m1 (HT.out.below hw6 hT0)).mono ?_
  rintro e w7 ⟨rfl, hb7⟩
  have hw7 : Below w.heap.size w w7 := hw6.trans (hb7.mono hw6.size)
  go_wp2_with fail
  refine (known_any w7 (HT.out.below hw7 hT0)).mono ?_
  rintro e w9 ⟨rfl, hb9⟩
  go_wp2
  go_ret
  exact ⟨rfl, hw7.trans (hb9.mono hw7.size)⟩

set_option maxRecDepth 100000 in
set_option maxHeartbeats 4000000 in
theorem makes_yy (lo' hi' v : Int) (s : Value) (l : List Rg) (w : World) (h : Sr w s l) (hr : l.length * 16 ≤ 140737488351232) (hT : Tab w)
    (f1 room1 : Int) (ws1 : List Nat) (L1 : List Bool) (m1 : Match f1 room1 ws1 L1)
    (k9 : ∀ s w, Sr w s l → (Calls Tryd.prog 9 #[s] w fun r w' => ∃ b g c : Nat, r = .returned (.tuple #[.pointer (some ⟨b, 0, none⟩), .int .i64 0]) ∧ Bits w' b g c f1 room1 ws1 ∧ Below w.heap.size w w') ∧
      (Calls Tryd.prog 10 #[s] w fun r w' => ∃ rb rg rc : Nat, r = .returned (.tuple #[.pointer (some ⟨rb, 0, none⟩), .int .i64 0]) ∧ Ref w' rb rg rc f1 L1 ∧ Below w.heap.size w w'))
    (f2 room2 : Int) (ws2 : List Nat) (L2 : List Bool) (m2 : Match f2 room2 ws2 L2)
    (k11 : ∀ w, (Calls Tryd.prog 11 #[.int .i64 lo', .int .i64 hi'] w fun r w' => ∃ b g c : Nat, r = .returned (.tuple #[.pointer (some ⟨b, 0, none⟩), .int .i64 0]) ∧ Bits w' b g c f2 room2 ws2 ∧ Below w.heap.size w w') ∧
      (Calls Tryd.prog 12 #[.int .i64 lo', .int .i64 hi'] w fun r w' => ∃ rb rg rc : Nat, r = .returned (.tuple #[.pointer (some ⟨rb, 0, none⟩), .int .i64 0]) ∧ Ref w' rb rg rc f2 L2 ∧ Below w.heap.size w w'))
    : Calls Tryd.prog 3 #[s, .int .i64 lo', .int .i64 hi', .int .i64 v] w fun e w' => e = .returned (.bool true) ∧ Below w.heap.size w w' := by
  have hT0 := hT.1
  have k8 := lentR_any s l w h hr
  have HS : Hid (Sr w s l) := h
  have HT : Hid (Tab w) := hT
  have K9 : Hid _ := k9
  have K11 : Hid _ := k11
  obtain ⟨sa, sc, rfl, _⟩ := h
  clear hT k9 k11
  go_enter Tryd.func3, Tryd.ntmps3
  go_wp2_with fail
  refine k8.mono ?_
  clear k8
  rintro e w1 ⟨g, c, rfl, hc1, hc2, hown, hb1⟩
  have HO1 : Hid (w1.ownsRow w.heap.size 62 2 (.slice (some ⟨g, 0, none⟩) (l.length + 1) c) (l.length + 1) (flat l ++ [.int .i64 77, .int .i64 7])) := hown
  clear hown
  go_wp2_with fail
  refine (K9.out _ w1 (lent_sr HO1.out)).1.mono ?_
  rintro e w2 ⟨ab, ag, ac, rfl, hB1, hb2⟩
  have HB1 : Hid (Bits w2 ab ag ac f1 room1 ws1) := hB1
  clear hB1
  have hw2 : Below w.heap.size w w2 := hb1.trans (hb2.mono hb1.size)
  go_wp2_with fail
  refine (K9.out _ w2 (HS.out.below hw2)).2.mono ?_
  rintro e w3 ⟨bb, bg, bc, rfl, hR1, hb3⟩
  have HR1 : Hid (Ref w3 bb bg bc f1 L1) := hR1
  clear hR1
  have hw3 : Below w.heap.size w w3 := hw2.trans (hb3.mono hw2.size)
  go_wp2_with fail
  refine (K11.out w3).1.mono ?_
  rintro e w4 ⟨cb, cg, cc, rfl, hB2, hb4⟩
  have HB2 : Hid (Bits w4 cb cg cc f2 room2 ws2) := hB2
  clear hB2
  have hw4 : Below w.heap.size w w4 := hw3.trans (hb4.mono hw3.size)
  go_wp2_with fail
  refine (K11.out w4).2.mono ?_
  rintro e w5 ⟨db, dg, dc, rfl, hR2, hb5⟩
  have HR2 : Hid (Ref w5 db dg dc f2 L2) := hR2
  clear hR2
  have hw5 : Below w.heap.size w w5 := hw4.trans (hb5.mono hw4.size)
  have HO5 : Hid (w5.ownsRow 0 62 2 (.slice (some ⟨g, 0, none⟩) (l.length + 1) c) (l.length + 1) (flat l ++ [.int .i64 77, .int .i64 7])) := own_base (own_below (own_below (own_below (own_below HO1.out hb2) hb3) hb4) hb5) (Nat.zero_le _)
  go_wp2_with fail
  refine (keptR_any g c _ l w5 HO5.out hc1 hc2 (HS.out.below hw5) hr).mono ?_
  rintro e w6 ⟨rfl, hb6⟩
  have hw6 : Below w.heap.size w w6 := hw5.trans (hb6.mono hw5.size)
  go_wp2_with fail
  refine (alike_of ab ag ac bb bg bc f1 room1 v ws1 L1 w6 (((((HB1.out.below hb3 HB1.out.b_lt HB1.out.g_lt).below hb4 (Nat.lt_of_lt_of_le HB1.out.b_lt hb3.size) (Nat.lt_of_lt_of_le HB1.out.g_lt hb3.size)).below (hb5.trans (hb6.mono hb5.size)) (Nat.lt_of_lt_of_le HB1.out.b_lt (Nat.le_trans hb3.size hb4.size)) (Nat.lt_of_lt_of_le HB1.out.g_lt (Nat.le_trans hb3.size hb4.size))))) ((HR1.out.below hb4 HR1.out.b_lt HR1.out.g_lt).below (hb5.trans (hb6.mono hb5.size)) (Nat.lt_of_lt_of_le HR1.out.b_lt hb4.size) (Nat.lt_of_lt_of_le HR1.out.g_lt hb4.size)) m1 (HT.out.below hw6 hT0)).mono ?_
  rintro e w7 ⟨rfl, hb7⟩
  have hw7 : Below w.heap.size w w7 := hw6.trans (hb7.mono hw6.size)
  go_wp2_with fail
  refine (alike_of cb cg cc db dg dc f2 room2 v ws2 L2 w7 ((HB2.out.below hb5 HB2.out.b_lt HB2.out.g_lt).below (hb6.trans (hb7.mono hb6.size)) (Nat.lt_of_lt_of_le HB2.out.b_lt hb5.size) (Nat.lt_of_lt_of_le HB2.out.g_lt hb5.size)) (HR2.out.below (hb6.trans (hb7.mono hb6.size)) HR2.out.b_lt HR2.out.g_lt) m2 (HT.out.below hw7 hT0)).mono ?_
  rintro e w8 ⟨rfl, hb8⟩
  have hw8 : Below w.heap.size w w8 := hw7.trans (hb8.mono hw7.size)
  go_wp2_with fail
  refine (known_any w8 (HT.out.below hw8 hT0)).mono ?_
  rintro e w9 ⟨rfl, hb9⟩
  go_wp2
  go_ret
  exact ⟨rfl, hw8.trans (hb9.mono hw8.size)⟩

theorem makes_walk (lo' hi' v : Int) (s : Value) (l : List Rg) (w : World) (h : Sr w s l) (hf : FitsR l) (hr : l.length * 16 ≤ 140737488351232) (hT : Tab w) :
    Calls Tryd.prog 3 #[s, .int .i64 lo', .int .i64 hi', .int .i64 v] w fun e w' => e = .returned (.bool true) ∧ Below w.heap.size w w' := by
  rcases of_cases l hf with ⟨e1, k9⟩ | ⟨f1, r1, ws1, L1, m1, k9⟩ <;> rcases new_cases lo' hi' with ⟨e2, k11⟩ | ⟨f2, r2, ws2, L2, m2, k11⟩
  · exact makes_nn lo' hi' v s l w h hr hT e1 k9 e2 k11
  · exact makes_ny lo' hi' v s l w h hr hT e1 k9 f2 r2 ws2 L2 m2 k11
  · exact makes_yn lo' hi' v s l w h hr hT f1 r1 ws1 L1 m1 k9 e2 k11
  · exact makes_yy lo' hi' v s l w h hr hT f1 r1 ws1 L1 m1 k9 f2 r2 ws2 L2 m2 k11
end Go.Proofs.YtgcgomofmicchaaDoor
