/-
  What is proved here: the walk of BitsPlays.
-/
import Derived.Test.YtgcgomofmicchaaDoorZj
namespace Go.Proofs.YtgcgomofmicchaaDoor
open Go.RowKit Go.Shelf
set_option linter.unusedVariables false

set_option maxRecDepth 100000 in
set_option maxHeartbeats 4000000 in
theorem plays_nn (s1 s2 : Value) (sa : Option Addr) (sn sc : Nat) (l1 l2 : List Rg) (w : World) (h1 : Sr w s1 l1) (h2 : Sr w s2 l2) (hT : Tab w)
    (e1 : Int) (he1 : e1 ≠ 0) (k1 : ∀ s w, Sr w s l1 → (Calls Tryd.prog 9 #[s] w fun r w' => r = .returned (.tuple #[.pointer none, .int .i64 e1]) ∧ Below w.heap.size w w') ∧ (Calls Tryd.prog 10 #[s] w fun r w' => r = .returned (.tuple #[.pointer none, .int .i64 e1]) ∧ Below w.heap.size w w'))
    (e2 : Int) (he2 : e2 ≠ 0) (k2 : ∀ s w, Sr w s l2 → (Calls Tryd.prog 9 #[s] w fun r w' => r = .returned (.tuple #[.pointer none, .int .i64 e2]) ∧ Below w.heap.size w w') ∧ (Calls Tryd.prog 10 #[s] w fun r w' => r = .returned (.tuple #[.pointer none, .int .i64 e2]) ∧ Below w.heap.size w w'))
    : Calls Tryd.prog 4 #[s1, s2, .slice sa sn sc] w fun e w' => e = .returned (.bool true) ∧ Below w.heap.size w w' := by
  have hT0 := hT.1
  have HS1 : Hid (Sr w s1 l1) := h1
  have HS2 : Hid (Sr w s2 l2) := h2
  have HT : Hid (Tab w) := hT
  have K1 : Hid _ := k1
  have K2 : Hid _ := k2
  have d1 : (e1 == 0) = false := by simpa using he1
  have d1' : (e1 != 0) = true := by simpa using he1
  clear he1
  have d2 : (e2 == 0) = false := by simpa using he2
  have d2' : (e2 != 0) = true := by simpa using he2
  clear he2
  obtain ⟨a1, c1, rfl, _⟩ := h1
  obtain ⟨a2, c2, rfl, _⟩ := h2
  clear hT k1 k2
  go_enter Tryd.func4, Tryd.ntmps4
  go_wp2_with fail
  refine (K1.out _ w HS1.out).1.mono ?_
  rintro e w1 ⟨rfl, hb1⟩
  go_wp2_with fail
  refine (K2.out _ w1 (HS2.out.below hb1)).1.mono ?_
  rintro e w2 ⟨rfl, hb2⟩
  have hw2 : Below w.heap.size w w2 := hb1.trans (hb2.mono hb1.size)
  go_wp2_with fail
  refine (K1.out _ w2 (HS1.out.below hw2)).2.mono ?_
  rintro e w3 ⟨rfl, hb3⟩
  have hw3 : Below w.heap.size w w3 := hw2.trans (hb3.mono hw2.size)
  go_wp2_with fail
  refine (K2.out _ w3 (HS2.out.below hw3)).2.mono ?_
  rintro e w4 ⟨rfl, hb4⟩
  have hw4 : Below w.heap.size w w4 := hw3.trans (hb4.mono hw3.size)
  go_wp2_with fail
  refine (known_any w4 (HT.out.below hw4 hT0)).mono ?_
  rintro e w9 ⟨rfl, hb9⟩
  go_wp2
  go_ret
  exact ⟨rfl, hw4.trans (hb9.mono hw4.size)⟩

set_option maxRecDepth 100000 in
set_option maxHeartbeats 4000000 in
theorem plays_ny (s1 s2 : Value) (sa : Option Addr) (sn sc : Nat) (l1 l2 : List Rg) (w : World) (h1 : Sr w s1 l1) (h2 : Sr w s2 l2) (hT : Tab w)
    (e1 : Int) (he1 : e1 ≠ 0) (k1 : ∀ s w, Sr w s l1 → (Calls Tryd.prog 9 #[s] w fun r w' => r = .returned (.tuple #[.pointer none, .int .i64 e1]) ∧ Below w.heap.size w w') ∧ (Calls Tryd.prog 10 #[s] w fun r w' => r = .returned (.tuple #[.pointer none, .int .i64 e1]) ∧ Below w.heap.size w w'))
    (f2 room2 : Int) (ws2 : List Nat) (L2 : List Bool)
    (k2 : ∀ s w, Sr w s l2 → (Calls Tryd.prog 9 #[s] w fun r w' => ∃ b g c : Nat, r = .returned (.tuple #[.pointer (some ⟨b, 0, none⟩), .int .i64 0]) ∧ w.heap.size ≤ g ∧ Bits w' b g c f2 room2 ws2 ∧ Below w.heap.size w w') ∧
      (Calls Tryd.prog 10 #[s] w fun r w' => ∃ rb rg rc : Nat, r = .returned (.tuple #[.pointer (some ⟨rb, 0, none⟩), .int .i64 0]) ∧ w.heap.size ≤ rb ∧ w.heap.size ≤ rg ∧ Ref w' rb rg rc f2 L2 ∧ Below w.heap.size w w'))
    : Calls Tryd.prog 4 #[s1, s2, .slice sa sn sc] w fun e w' => e = .returned (.bool true) ∧ Below w.heap.size w w' := by
  have hT0 := hT.1
  have HS1 : Hid (Sr w s1 l1) := h1
  have HS2 : Hid (Sr w s2 l2) := h2
  have HT : Hid (Tab w) := hT
  have K1 : Hid _ := k1
  have K2 : Hid _ := k2
  have d1 : (e1 == 0) = false := by simpa using he1
  have d1' : (e1 != 0) = true := by simpa using he1
  clear he1
  obtain ⟨a1, c1, rfl, _⟩ := h1
  obtain ⟨a2, c2, rfl, _⟩ := h2
  clear hT k1 k2
  go_enter Tryd.func4, Tryd.ntmps4
  go_wp2_with fail
  refine (K1.out _ w HS1.out).1.mono ?_
  rintro e w1 ⟨rfl, hb1⟩
  go_wp2_with fail
  refine (K2.out _ w1 (HS2.out.below hb1)).1.mono ?_
  rintro e w2 ⟨b2, g2, cc2, rfl, hg2, hB2, hb2⟩
  clear hB2 hg2
  have hw2 : Below w.heap.size w w2 := hb1.trans (hb2.mono hb1.size)
  go_wp2_with fail
  refine (K1.out _ w2 (HS1.out.below hw2)).2.mono ?_
  rintro e w3 ⟨rfl, hb3⟩
  have hw3 : Below w.heap.size w w3 := hw2.trans (hb3.mono hw2.size)
  go_wp2_with fail
  refine (K2.out _ w3 (HS2.out.below hw3)).2.mono ?_
  rintro e w4 ⟨rb2, rg2, rc2, rfl, hrb2, hrg2, hR2, hb4⟩
  have hw4 : Below w.heap.size w w4 := hw3.trans (hb4.mono hw3.size)
  go_wp2_with fail
  refine (known_any w4 (HT.out.below hw4 hT0)).mono ?_
  rintro e w9 ⟨rfl, hb9⟩
  go_wp2
  go_ret
  exact ⟨rfl, hw4.trans (hb9.mono hw4.size)⟩

set_option maxRecDepth 100000 in
set_option maxHeartbeats 4000000 in
theorem plays_yn (s1 s2 : Value) (sa : Option Addr) (sn sc : Nat) (l1 l2 : List Rg) (w : World) (h1 : Sr w s1 l1) (h2 : Sr w s2 l2) (hT : Tab w)
    (f1 room1 : Int) (ws1 : List Nat) (L1 : List Bool)
    (k1 : ∀ s w, Sr w s l1 → (Calls Tryd.prog 9 #[s] w fun r w' => ∃ b g c : Nat, r = .returned (.tuple #[.pointer (some ⟨b, 0, none⟩), .int .i64 0]) ∧ w.heap.size ≤ g ∧ Bits w' b g c f1 room1 ws1 ∧ Below w.heap.size w w') ∧
      (Calls Tryd.prog 10 #[s] w fun r w' => ∃ rb rg rc : Nat, r = .returned (.tuple #[.pointer (some ⟨rb, 0, none⟩), .int .i64 0]) ∧ w.heap.size ≤ rb ∧ w.heap.size ≤ rg ∧ Ref w' rb rg rc f1 L1 ∧ Below w.heap.size w w'))
    (e2 : Int) (he2 : e2 ≠ 0) (k2 : ∀ s w, Sr w s l2 → (Calls Tryd.prog 9 #[s] w fun r w' => r = .returned (.tuple #[.pointer none, .int .i64 e2]) ∧ Below w.heap.size w w') ∧ (Calls Tryd.prog 10 #[s] w fun r w' => r = .returned (.tuple #[.pointer none, .int .i64 e2]) ∧ Below w.heap.size w w'))
    : Calls Tryd.prog 4 #[s1, s2, .slice sa sn sc] w fun e w' => e = .returned (.bool true) ∧ Below w.heap.size w w' := by
  have hT0 := hT.1
  have HS1 : Hid (Sr w s1 l1) := h1
  have HS2 : Hid (Sr w s2 l2) := h2
  have HT : Hid (Tab w) := hT
  have K1 : Hid _ := k1
  have K2 : Hid _ := k2
  have d2 : (e2 == 0) = false := by simpa using he2
  have d2' : (e2 != 0) = true := by simpa using he2
  clear he2
  obtain ⟨a1, c1, rfl, _⟩ := h1
  obtain ⟨a2, c2, rfl, _⟩ := h2
  clear hT k1 k2
  go_enter Tryd.func4, Tryd.ntmps4
  go_wp2_with fail
  refine (K1.out _ w HS1.out).1.mono ?_
  rintro e w1 ⟨b1, g1, cc1, rfl, hg1, hB1, hb1⟩
  clear hB1 hg1
  go_wp2_with fail
  refine (K2.out _ w1 (HS2.out.below hb1)).1.mono ?_
  rintro e w2 ⟨rfl, hb2⟩
  have hw2 : Below w.heap.size w w2 := hb1.trans (hb2.mono hb1.size)
  go_wp2_with fail
  refine (K1.out _ w2 (HS1.out.below hw2)).2.mono ?_
  rintro e w3 ⟨rb1, rg1, rc1, rfl, hrb1, hrg1, hR1, hb3⟩
  have hw3 : Below w.heap.size w w3 := hw2.trans (hb3.mono hw2.size)
  go_wp2_with fail
  refine (K2.out _ w3 (HS2.out.below hw3)).2.mono ?_
  rintro e w4 ⟨rfl, hb4⟩
  have hw4 : Below w.heap.size w w4 := hw3.trans (hb4.mono hw3.size)
  go_wp2_with fail
  refine (known_any w4 (HT.out.below hw4 hT0)).mono ?_
  rintro e w9 ⟨rfl, hb9⟩
  go_wp2
  go_ret
  exact ⟨rfl, hw4.trans (hb9.mono hw4.size)⟩

set_option maxRecDepth 100000 in
set_option maxHeartbeats 4000000 in
theorem plays_big1 (s1 s2 : Value) (sa : Option Addr) (sn sc : Nat) (l1 l2 : List Rg) (w : World) (h1 : Sr w s1 l1) (h2 : Sr w s2 l2) (hT : Tab w)
    (f1 room1 : Int) (ws1 : List Nat) (L1 : List Bool)
    (k1 : ∀ s w, Sr w s l1 → (Calls Tryd.prog 9 #[s] w fun r w' => ∃ b g c : Nat, r = .returned (.tuple #[.pointer (some ⟨b, 0, none⟩), .int .i64 0]) ∧ w.heap.size ≤ g ∧ Bits w' b g c f1 room1 ws1 ∧ Below w.heap.size w w') ∧
      (Calls Tryd.prog 10 #[s] w fun r w' => ∃ rb rg rc : Nat, r = .returned (.tuple #[.pointer (some ⟨rb, 0, none⟩), .int .i64 0]) ∧ w.heap.size ≤ rb ∧ w.heap.size ≤ rg ∧ Ref w' rb rg rc f1 L1 ∧ Below w.heap.size w w'))
    (f2 room2 : Int) (ws2 : List Nat) (L2 : List Bool)
    (k2 : ∀ s w, Sr w s l2 → (Calls Tryd.prog 9 #[s] w fun r w' => ∃ b g c : Nat, r = .returned (.tuple #[.pointer (some ⟨b, 0, none⟩), .int .i64 0]) ∧ w.heap.size ≤ g ∧ Bits w' b g c f2 room2 ws2 ∧ Below w.heap.size w w') ∧
      (Calls Tryd.prog 10 #[s] w fun r w' => ∃ rb rg rc : Nat, r = .returned (.tuple #[.pointer (some ⟨rb, 0, none⟩), .int .i64 0]) ∧ w.heap.size ≤ rb ∧ w.heap.size ≤ rg ∧ Ref w' rb rg rc f2 L2 ∧ Below w.heap.size w w'))
    (hbig : 3000 < L1.length)
    : Calls Tryd.prog 4 #[s1, s2, .slice sa sn sc] w fun e w' => e = .returned (.bool true) ∧ Below w.heap.size w w' := by
  have hT0 := hT.1
  have HS1 : Hid (Sr w s1 l1) := h1
  have HS2 : Hid (Sr w s2 l2) := h2
  have HT : Hid (Tab w) := hT
  have K1 : Hid _ := k1
  have K2 : Hid _ := k2
  obtain ⟨a1, c1, rfl, _⟩ := h1
  obtain ⟨a2, c2, rfl, _⟩ := h2
  clear hT k1 k2
  go_enter Tryd.func4, Tryd.ntmps4
  go_wp2_with fail
  refine (K1.out _ w HS1.out).1.mono ?_
  rintro e w1 ⟨b1, g1, cc1, rfl, hg1, hB1, hb1⟩
  clear hB1 hg1
  go_wp2_with fail
  refine (K2.out _ w1 (HS2.out.below hb1)).1.mono ?_
  rintro e w2 ⟨b2, g2, cc2, rfl, hg2, hB2, hb2⟩
  clear hB2 hg2
  have hw2 : Below w.heap.size w w2 := hb1.trans (hb2.mono hb1.size)
  go_wp2_with fail
  refine (K1.out _ w2 (HS1.out.below hw2)).2.mono ?_
  rintro e w3 ⟨rb1, rg1, rc1, rfl, hrb1, hrg1, hR1, hb3⟩
  have hw3 : Below w.heap.size w w3 := hw2.trans (hb3.mono hw2.size)
  go_wp2_with fail
  refine (K2.out _ w3 (HS2.out.below hw3)).2.mono ?_
  rintro e w4 ⟨rb2, rg2, rc2, rfl, hrb2, hrg2, hR2, hb4⟩
  have hw4 : Below w.heap.size w w4 := hw3.trans (hb4.mono hw3.size)
  have y1 := (hR1.below hb4 hR1.b_lt hR1.g_lt).c1
  have y2 := hR2.c1
  have hd1 : decide (3000 < (L1.length : Int)) = true := by simp; omega
  clear hbig hR1 hR2
  obtain ⟨x1, hx1⟩ : ∃ x1, L1.length = x1 := ⟨_, rfl⟩
  obtain ⟨x2, hx2⟩ : ∃ x2, L2.length = x2 := ⟨_, rfl⟩
  rw [hx1] at y1 hd1
  rw [hx2] at y2
  clear hx1 hx2
  go_wp2_with fail
  refine (known_any w4 (HT.out.below hw4 hT0)).mono ?_
  rintro e w9 ⟨rfl, hb9⟩
  go_wp2
  go_ret
  exact ⟨rfl, hw4.trans (hb9.mono hw4.size)⟩

set_option maxRecDepth 100000 in
set_option maxHeartbeats 4000000 in
theorem plays_big2 (s1 s2 : Value) (sa : Option Addr) (sn sc : Nat) (l1 l2 : List Rg) (w : World) (h1 : Sr w s1 l1) (h2 : Sr w s2 l2) (hT : Tab w)
    (f1 room1 : Int) (ws1 : List Nat) (L1 : List Bool)
    (k1 : ∀ s w, Sr w s l1 → (Calls Tryd.prog 9 #[s] w fun r w' => ∃ b g c : Nat, r = .returned (.tuple #[.pointer (some ⟨b, 0, none⟩), .int .i64 0]) ∧ w.heap.size ≤ g ∧ Bits w' b g c f1 room1 ws1 ∧ Below w.heap.size w w') ∧
      (Calls Tryd.prog 10 #[s] w fun r w' => ∃ rb rg rc : Nat, r = .returned (.tuple #[.pointer (some ⟨rb, 0, none⟩), .int .i64 0]) ∧ w.heap.size ≤ rb ∧ w.heap.size ≤ rg ∧ Ref w' rb rg rc f1 L1 ∧ Below w.heap.size w w'))
    (f2 room2 : Int) (ws2 : List Nat) (L2 : List Bool)
    (k2 : ∀ s w, Sr w s l2 → (Calls Tryd.prog 9 #[s] w fun r w' => ∃ b g c : Nat, r = .returned (.tuple #[.pointer (some ⟨b, 0, none⟩), .int .i64 0]) ∧ w.heap.size ≤ g ∧ Bits w' b g c f2 room2 ws2 ∧ Below w.heap.size w w') ∧
      (Calls Tryd.prog 10 #[s] w fun r w' => ∃ rb rg rc : Nat, r = .returned (.tuple #[.pointer (some ⟨rb, 0, none⟩), .int .i64 0]) ∧ w.heap.size ≤ rb ∧ w.heap.size ≤ rg ∧ Ref w' rb rg rc f2 L2 ∧ Below w.heap.size w w'))
    (hsm : L1.length ≤ 3000) (hbig : 3000 < L2.length)
    : Calls Tryd.prog 4 #[s1, s2, .slice sa sn sc] w fun e w' => e = .returned (.bool true) ∧ Below w.heap.size w w' := by
  have hT0 := hT.1
  have HS1 : Hid (Sr w s1 l1) := h1
  have HS2 : Hid (Sr w s2 l2) := h2
  have HT : Hid (Tab w) := hT
  have K1 : Hid _ := k1
  have K2 : Hid _ := k2
  obtain ⟨a1, c1, rfl, _⟩ := h1
  obtain ⟨a2, c2, rfl, _⟩ := h2
  clear hT k1 k2
  go_enter Tryd.func4, Tryd.ntmps4
  go_wp2_with fail
  refine (K1.out _ w HS1.out).1.mono ?_
  rintro e w1 ⟨b1, g1, cc1, rfl, hg1, hB1, hb1⟩
  clear hB1 hg1
  go_wp2_with fail
  refine (K2.out _ w1 (HS2.out.below hb1)).1.mono ?_
  rintro e w2 ⟨b2, g2, cc2, rfl, hg2, hB2, hb2⟩
  clear hB2 hg2
  have hw2 : Below w.heap.size w w2 := hb1.trans (hb2.mono hb1.size)
  go_wp2_with fail
  refine (K1.out _ w2 (HS1.out.below hw2)).2.mono ?_
  rintro e w3 ⟨rb1, rg1, rc1, rfl, hrb1, hrg1, hR1, hb3⟩
  have hw3 : Below w.heap.size w w3 := hw2.trans (hb3.mono hw2.size)
  go_wp2_with fail
  refine (K2.out _ w3 (HS2.out.below hw3)).2.mono ?_
  rintro e w4 ⟨rb2, rg2, rc2, rfl, hrb2, hrg2, hR2, hb4⟩
  have hw4 : Below w.heap.size w w4 := hw3.trans (hb4.mono hw3.size)
  have y1 := (hR1.below hb4 hR1.b_lt hR1.g_lt).c1
  have y2 := hR2.c1
  have hd1 : decide (3000 < (L1.length : Int)) = false := by simp; omega
  have hd2 : decide (3000 < (L2.length : Int)) = true := by simp; omega
  clear hbig hsm hR1 hR2
  obtain ⟨x1, hx1⟩ : ∃ x1, L1.length = x1 := ⟨_, rfl⟩
  obtain ⟨x2, hx2⟩ : ∃ x2, L2.length = x2 := ⟨_, rfl⟩
  rw [hx1] at y1 hd1
  rw [hx2] at y2 hd2
  clear hx1 hx2
  go_wp2_with fail
  refine (known_any w4 (HT.out.below hw4 hT0)).mono ?_
  rintro e w9 ⟨rfl, hb9⟩
  go_wp2
  go_ret
  exact ⟨rfl, hw4.trans (hb9.mono hw4.size)⟩

theorem plays_walk (s1 s2 s3 : Value) (l1 l2 : List Rg) (ops : List Sop) (w : World) (h1 : Sr w s1 l1) (h2 : Sr w s2 l2) (h3 : So w s3 ops) (hf1 : FitsR l1) (hf2 : FitsR l2) (hT : Tab w) :
    Calls Tryd.prog 4 #[s1, s2, s3] w fun e w' => e = .returned (.bool true) ∧ Below w.heap.size w w' := by
  have h3' := h3
  obtain ⟨sa, sc, rfl, _⟩ := h3
  rcases of_cases2 l1 hf1 with ⟨e1, he1, k1⟩ | ⟨f1, r1, ws1, L1, m1, k1⟩ <;> rcases of_cases2 l2 hf2 with ⟨e2, he2, k2⟩ | ⟨f2, r2, ws2, L2, m2, k2⟩
  · exact plays_nn s1 s2 sa _ sc l1 l2 w h1 h2 hT e1 he1 k1 e2 he2 k2
  · exact plays_ny s1 s2 sa _ sc l1 l2 w h1 h2 hT e1 he1 k1 f2 r2 ws2 L2 k2
  · exact plays_yn s1 s2 sa _ sc l1 l2 w h1 h2 hT f1 r1 ws1 L1 k1 e2 he2 k2
  · by_cases hb1 : 3000 < L1.length
    · exact plays_big1 s1 s2 sa _ sc l1 l2 w h1 h2 hT f1 r1 ws1 L1 k1 f2 r2 ws2 L2 k2 hb1
    · by_cases hb2 : 3000 < L2.length
      · exact plays_big2 s1 s2 sa _ sc l1 l2 w h1 h2 hT f1 r1 ws1 L1 k1 f2 r2 ws2 L2 k2 (by omega) hb2
      · exact plays_loop s1 s2 sa sc l1 l2 ops w h1 h2 h3' hT f1 r1 ws1 L1 m1 k1 f2 r2 ws2 L2 m2 k2 (by omega) (by omega)
end Go.Proofs.YtgcgomofmicchaaDoor
