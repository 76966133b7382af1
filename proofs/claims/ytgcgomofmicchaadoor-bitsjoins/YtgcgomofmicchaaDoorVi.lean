/-
  What is proved here: the walk of BitsJoins.
-/
import Derived.Test.YtgcgomofmicchaaDoorVh
namespace Go.Proofs.YtgcgomofmicchaaDoor
open Go.RowKit Go.Shelf
set_option linter.unusedVariables false

/-- What Of answers: that it made none, and why, or that the ranges are right. -/
theorem of_cases3 (l : List Rg) (hf : FitsR l) :
    (∃ e : Int, e ≠ 0 ∧ ∀ s w, Sr w s l → (Calls Tryd.prog 9 #[s] w fun r w' => ∃ p, r = .returned (.tuple #[.pointer p, .int .i64 e]) ∧ Below w.heap.size w w')) ∨
    (Some' l ∧ room l ≤ 65536 ∧ ∀ s w, Sr w s l → (Calls Tryd.prog 9 #[s] w fun r w' => ∃ p, r = .returned (.tuple #[.pointer p, .int .i64 0]) ∧ Below w.heap.size w w')) := by
  by_cases hR : Some' l
  · by_cases hl : room l ≤ 65536
    · exact .inr ⟨hR, hl, fun s w h => (of_yes s l w h hf hR hl).mono fun e w' ⟨b, he, _, hb⟩ => ⟨_, he, hb⟩⟩
    · exact .inl ⟨4, by decide, fun s w h => (of_long s l w h hf hR (by omega)).mono fun e w' ⟨he, hb⟩ => ⟨_, he, hb⟩⟩
  · exact .inl ⟨20, by decide, fun s w h => (of_no s l w h hf hR).mono fun e w' ⟨he, hb⟩ => ⟨_, he, hb⟩⟩

set_option maxRecDepth 100000 in
set_option maxHeartbeats 4000000 in
theorem joins_long (s1 s2 : Value) (a b : List Rg) (v : Int) (w : World) (h1 : Sr w s1 a) (h2 : Sr w s2 b) (ha : a.length * 16 ≤ 140737488351232) (hb : b.length * 16 ≤ 140737488351232) (hl : ¬ a.length + b.length ≤ 4096) (hT : Tab w) :
    Calls Tryd.prog 5 #[s1, s2, .int .i64 v] w fun e w' => e = .returned (.bool true) ∧ Below w.heap.size w w' := by
  have hT0 := hT.1
  have HT : Hid (Tab w) := hT
  obtain ⟨sa, sca, rfl, _⟩ := h1
  obtain ⟨sb, scb, rfl, _⟩ := h2
  obtain ⟨na, hna⟩ : ∃ na, a.length = na := ⟨_, rfl⟩
  obtain ⟨nb, hnb⟩ : ∃ nb, b.length = nb := ⟨_, rfl⟩
  rw [hna] at ha hl ⊢
  rw [hnb] at hb hl ⊢
  have hd0 : decide (4096 < (na : Int) + (nb : Int)) = true := by simp; omega
  have hab : 4096 < (na : Int) + (nb : Int) := by omega
  clear hT hna hnb hl
  go_enter Tryd.func5, Tryd.ntmps5
  go_wp2_with fail
  refine (known_any _ HT.out).mono ?_
  rintro e w1 ⟨rfl, hb1⟩
  go_wp2
  go_ret
  exact ⟨rfl, hb1⟩

set_option maxRecDepth 100000 in
set_option maxHeartbeats 4000000 in
theorem joins_no1 (s1 s2 : Value) (a b : List Rg) (v : Int) (w : World) (h1 : Sr w s1 a) (h2 : Sr w s2 b) (hl : a.length + b.length ≤ 4096) (hT : Tab w)
    (e1 e2 : Int) (he1 : e1 ≠ 0) (k1 : ∀ s w, Sr w s a → (Calls Tryd.prog 9 #[s] w fun r w' => ∃ p, r = .returned (.tuple #[.pointer p, .int .i64 e1]) ∧ Below w.heap.size w w'))
    (k2 : ∀ s w, Sr w s b → (Calls Tryd.prog 9 #[s] w fun r w' => ∃ p, r = .returned (.tuple #[.pointer p, .int .i64 e2]) ∧ Below w.heap.size w w')) :
    Calls Tryd.prog 5 #[s1, s2, .int .i64 v] w fun e w' => e = .returned (.bool true) ∧ Below w.heap.size w w' := by
  have hT0 := hT.1
  have HT : Hid (Tab w) := hT
  have HS1 : Hid (Sr w s1 a) := h1
  have HS2 : Hid (Sr w s2 b) := h2
  have K1 : Hid _ := k1
  have K2 : Hid _ := k2
  have d1 : (e1 == 0) = false := by simpa using he1
  have d1' : (e1 != 0) = true := by simpa using he1
  obtain ⟨sa, sca, rfl, _⟩ := h1
  obtain ⟨sb, scb, rfl, _⟩ := h2
  obtain ⟨na, hna⟩ : ∃ na, a.length = na := ⟨_, rfl⟩
  obtain ⟨nb, hnb⟩ : ∃ nb, b.length = nb := ⟨_, rfl⟩
  rw [hna] at hl HS1 ⊢
  rw [hnb] at hl HS2 ⊢
  have hd0 : decide (4096 < (na : Int) + (nb : Int)) = false := by simp; omega
  have hab : (na : Int) + (nb : Int) ≤ 4096 := by omega
  clear hT hna hnb hl k1 k2 he1
  go_enter Tryd.func5, Tryd.ntmps5
  go_wp2_with fail
  refine (K1.out _ w HS1.out).mono ?_
  rintro e w1 ⟨p1, rfl, hb1⟩
  go_wp2_with fail
  refine (K2.out _ w1 (HS2.out.below hb1)).mono ?_
  rintro e w2 ⟨p2, rfl, hb2⟩
  have hw2 : Below w.heap.size w w2 := hb1.trans (hb2.mono hb1.size)
  go_wp2_with fail
  refine (known_any _ (HT.out.below hw2 hT0)).mono ?_
  rintro e w3 ⟨rfl, hb3⟩
  go_wp2
  go_ret
  exact ⟨rfl, hw2.trans (hb3.mono hw2.size)⟩

set_option maxRecDepth 100000 in
set_option maxHeartbeats 4000000 in
theorem joins_no2 (s1 s2 : Value) (a b : List Rg) (v : Int) (w : World) (h1 : Sr w s1 a) (h2 : Sr w s2 b) (hl : a.length + b.length ≤ 4096) (hT : Tab w)
    (e2 : Int) (he2 : e2 ≠ 0) (k1 : ∀ s w, Sr w s a → (Calls Tryd.prog 9 #[s] w fun r w' => ∃ p, r = .returned (.tuple #[.pointer p, .int .i64 0]) ∧ Below w.heap.size w w'))
    (k2 : ∀ s w, Sr w s b → (Calls Tryd.prog 9 #[s] w fun r w' => ∃ p, r = .returned (.tuple #[.pointer p, .int .i64 e2]) ∧ Below w.heap.size w w')) :
    Calls Tryd.prog 5 #[s1, s2, .int .i64 v] w fun e w' => e = .returned (.bool true) ∧ Below w.heap.size w w' := by
  have hT0 := hT.1
  have HT : Hid (Tab w) := hT
  have HS1 : Hid (Sr w s1 a) := h1
  have HS2 : Hid (Sr w s2 b) := h2
  have K1 : Hid _ := k1
  have K2 : Hid _ := k2
  have d1 : (e2 == 0) = false := by simpa using he2
  have d1' : (e2 != 0) = true := by simpa using he2
  obtain ⟨sa, sca, rfl, _⟩ := h1
  obtain ⟨sb, scb, rfl, _⟩ := h2
  obtain ⟨na, hna⟩ : ∃ na, a.length = na := ⟨_, rfl⟩
  obtain ⟨nb, hnb⟩ : ∃ nb, b.length = nb := ⟨_, rfl⟩
  rw [hna] at hl HS1 ⊢
  rw [hnb] at hl HS2 ⊢
  have hd0 : decide (4096 < (na : Int) + (nb : Int)) = false := by simp; omega
  have hab : (na : Int) + (nb : Int) ≤ 4096 := by omega
  clear hT hna hnb hl k1 k2 he2
  go_enter Tryd.func5, Tryd.ntmps5
  go_wp2_with fail
  refine (K1.out _ w HS1.out).mono ?_
  rintro e w1 ⟨p1, rfl, hb1⟩
  go_wp2_with fail
  refine (K2.out _ w1 (HS2.out.below hb1)).mono ?_
  rintro e w2 ⟨p2, rfl, hb2⟩
  have hw2 : Below w.heap.size w w2 := hb1.trans (hb2.mono hb1.size)
  go_wp2_with fail
  refine (known_any _ (HT.out.below hw2 hT0)).mono ?_
  rintro e w3 ⟨rfl, hb3⟩
  go_wp2
  go_ret
  exact ⟨rfl, hw2.trans (hb3.mono hw2.size)⟩

theorem joins_walk (s1 s2 : Value) (a b : List Rg) (v : Int) (w : World) (h1 : Sr w s1 a) (h2 : Sr w s2 b) (hf1 : FitsR a) (hf2 : FitsR b) (ha : a.length * 16 ≤ 140737488351232) (hb : b.length * 16 ≤ 140737488351232) (hT : Tab w) :
    Calls Tryd.prog 5 #[s1, s2, .int .i64 v] w fun e w' => e = .returned (.bool true) ∧ Below w.heap.size w w' := by
  by_cases hl : a.length + b.length ≤ 4096
  · rcases of_cases3 a hf1 with ⟨e1, he1, k1⟩ | ⟨sa, ra, k1⟩ <;> rcases of_cases3 b hf2 with ⟨e2, he2, k2⟩ | ⟨sb, rb, k2⟩
    · exact joins_no1 s1 s2 a b v w h1 h2 hl hT e1 e2 he1 k1 k2
    · exact joins_no1 s1 s2 a b v w h1 h2 hl hT e1 0 he1 k1 k2
    · exact joins_no2 s1 s2 a b v w h1 h2 hl hT e2 he2 k1 k2
    · exact joins_yy s1 s2 a b v w h1 h2 hf1 hf2 sa sb ra rb hl hT
  · exact joins_long s1 s2 a b v w h1 h2 ha hb hl hT
end Go.Proofs.YtgcgomofmicchaaDoor
