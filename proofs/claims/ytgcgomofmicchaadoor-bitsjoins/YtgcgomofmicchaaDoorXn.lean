/-
  What is proved here: the fixed calls of known.
-/
import Derived.Test.YtgcgomofmicchaaDoorXm
namespace Go.Proofs.YtgcgomofmicchaaDoor
open Go.RowKit Go.Shelf

def kl : List Rg := [(1, 3), (7, 7)]
theorem kl_right : Some' kl := ⟨⟨by decide, fun i hi => by
  have : i = 0 ∨ i = 1 := by have : kl.length = 2 := rfl
                             omega
  rcases this with rfl | rfl <;> decide⟩, by decide⟩
theorem kl_words : wordsR kl = [71] := by decide
theorem kl_fits : FitsR kl := fun i hi => by
  have : i = 0 ∨ i = 1 := by have : kl.length = 2 := rfl
                             omega
  rcases this with rfl | rfl <;> (unfold Fits; decide)
theorem kl_sr (w : World) : Sr (w.alloc (.cells #[.int .i64 1, .int .i64 3, .int .i64 7, .int .i64 7] 62)) (.slice (some ⟨w.heap.size, 0, none⟩) 2 2) kl := by
  have h := World.alloc_heap_new w (.cells #[.int .i64 1, .int .i64 3, .int .i64 7, .int .i64 7] 62)
  refine ⟨_, _, rfl, fun _ => ⟨_, _, rfl, by simp, fun i hi => ?_⟩⟩
  have : i = 0 ∨ i = 1 := by have : kl.length = 2 := rfl
                             omega
  rcases this with rfl | rfl
  · exact ⟨by rw [cell_row h]; rfl, by rw [cell_row h]; rfl⟩
  · exact ⟨by rw [cell_row h]; rfl, by rw [cell_row h]; rfl⟩
theorem next_is {r : Int} {ok : Bool} (h : NextIs 1 7 [69] 4 r ok) : r = 7 ∧ ok = true := by
  rcases h with ⟨rfl, h1, h2, h3⟩ | ⟨_, _, h3⟩
  · have a : hasB 1 7 [69] 7 = true := by decide
    have h7 : r ≤ 7 := by
      apply Classical.byContradiction; intro hn
      have := h3 7 (by omega) (by omega); rw [a] at this; cases this
    have : r = 4 ∨ r = 5 ∨ r = 6 ∨ r = 7 := by omega
    rcases this with rfl | rfl | rfl | rfl
    · exact absurd h1 (by decide)
    · exact absurd h1 (by decide)
    · exact absurd h1 (by decide)
    · exact ⟨rfl, rfl⟩
  · exact absurd (h3 7 (by decide)) (by decide)

theorem below_set {B : Nat} {a w : World} (h : Below B a w) {g q : Nat} (hg : B ≤ g) (v : Value) (m : Nat) : Below B a ((w.setCell ⟨g, q, none⟩ v).drewN m) := below_drewN (h.setCell (p := ⟨g, q, none⟩) hg v) m
theorem cell_set {w : World} {g q A k : Nat} (v : Value) (hne : A ≠ g) : (w.setCell ⟨g, q, none⟩ v).cell? ⟨A, k, none⟩ = w.cell? ⟨A, k, none⟩ := by
  have : (w.setCell ⟨g, q, none⟩ v).heap[A]? = w.heap[A]? := Below.heap_setCell _ _ _ A hne
  simp only [World.cell?, this]

set_option maxRecDepth 100000 in
set_option maxHeartbeats 2000000 in
theorem known_any (w : World) (hT : Tab w) :
    Calls Tryd.prog 15 #[] w fun e w' => e = .returned (.bool true) ∧ Below w.heap.size w w' := by
  have k0 := of_yes _ _ _ (kl_sr w) kl_fits kl_right (by decide)
  rw [kl_words, show lo kl 0 = 1 from rfl, show room kl = 7 from rfl] at k0
  have hz : Sz 1 7 [71] := by have := sz_wordsR kl kl_right (by decide); rw [kl_words] at this; exact this
  have hz2 : Sz 1 7 [69] := hz.set 0 69 (by decide) (by decide)
  have hc2 : Cl 7 [69] := fun k hk => by
    unfold bt
    rw [if_neg (by omega)]
    by_cases h64 : k.toNat / 64 = 0
    · have h9 : k.toNat % 64 = k.toNat := by omega
      rw [h64, h9, show wat [69] 0 = 69 from rfl]
      exact Nat.testBit_lt_two_pow (Nat.lt_of_lt_of_le (show 69 < 2 ^ 7 by decide) (Nat.pow_le_pow_right (by decide) (by omega)))
    · have : wat [69] (k.toNat / 64) = 0 := by unfold wat; rw [List.getElem?_eq_none (by simp; omega)]; rfl
      rw [this]; exact Nat.zero_testBit _
  have hT0 := hT.1
  go_enter Tryd.func15, Tryd.ntmps15
  go_wp2_with fail
  refine k0.mono ?_
  clear k0
  rintro e w1 ⟨b, rfl, hib, hb1⟩
  obtain ⟨g, c, hbb, hbg, hB1⟩ := hib.open
  have hs1 := hb1.size
  simp only [World.size_alloc] at hbb hbg hs1
  have hw1 : Below w.heap.size w w1 := ((Below.refl _ w).alloc (Nat.le_refl _) _).trans (hb1.mono (by simp))
  have hbl := hB1.b_lt; have hgl := hB1.g_lt
  go_wp2_with fail
  refine (first_any b g c 1 7 [71] w1 hB1).mono ?_
  rintro e w1 ⟨rfl, rfl⟩
  go_wp2_with fail
  refine (room_any b g c 1 7 [71] w1 hB1).mono ?_
  rintro e w1 ⟨rfl, rfl⟩
  go_wp2_with fail
  refine (words_any b g c 1 7 [71] w1 hB1 hz).mono ?_
  rintro e w2 ⟨A, rfl, hA1, hA2, hA3, hb2⟩
  have hA4 : w2.cell? ⟨A, 0, none⟩ = some (.int .u64 71) := hA3 0 (by decide)
  have hB2 := hB1.below hb2 hbl hgl
  have hw2 : Below w.heap.size w w2 := hw1.trans (hb2.mono (by omega))
  have hs2 := hb2.size
  go_wp2_with fail
  refine (del_yes b g c 1 1 7 2 [71] w2 hB2 hz (by decide) (by decide) (by decide)).mono ?_
  rintro e w3 ⟨rfl, m3, rfl⟩
  have hB3 : Bits ((w2.setCell ⟨g, 1 / 64, none⟩ (.int .u64 ((wat [71] (1 / 64) ^^^ 2 ^ (1 % 64) : Nat) : Int))).drewN m3) b g c 1 7 [69] := (hB2.store 0 (by decide) 69).drawn m3
  have hA5 : ((w2.setCell ⟨g, 1 / 64, none⟩ (.int .u64 ((wat [71] (1 / 64) ^^^ 2 ^ (1 % 64) : Nat) : Int))).drewN m3).cell? ⟨A, 0, none⟩ = some (.int .u64 71) := (cell_set _ (by omega)).trans hA4
  have hw3 : Below w.heap.size w ((w2.setCell ⟨g, 1 / 64, none⟩ (.int .u64 ((wat [71] (1 / 64) ^^^ 2 ^ (1 % 64) : Nat) : Int))).drewN m3) := below_set hw2 (by omega) _ _
  obtain ⟨w3, hw3e⟩ : ∃ w3, (w2.setCell ⟨g, 1 / 64, none⟩ (.int .u64 ((wat [71] (1 / 64) ^^^ 2 ^ (1 % 64) : Nat) : Int))).drewN m3 = w3 := ⟨_, rfl⟩
  have hs3 : w2.heap.size ≤ w3.heap.size := by rw [← hw3e]; exact (KeepsOthers.setCell w2 _ _).size
  rw [hw3e] at hB3 hA5 hw3 ⊢
  clear hw3e
  go_wp2_with fail
  refine (add_dom b g c 1 7 9 [69] w3 hB3 hz2 (by decide)).mono ?_
  rintro e w4 ⟨rfl, m4, rfl⟩
  go_wp2_with fail
  refine (next_any b g c 1 7 4 [69] _ (hB3.drawn m4) hz2 hc2 ((hT.below hw3 hT0).drawn m4)).mono ?_
  rintro e w5 ⟨⟨r, ok, rfl, hn⟩, m5, rfl⟩
  obtain ⟨rfl, rfl⟩ := next_is hn
  go_wp2_with fail
  refine (words_any b g c 1 7 [69] _ (hB3.drawn (m4 + m5)) hz2).mono ?_
  rintro e w6 ⟨A', rfl, hA1', hA2', hA3', hb6⟩
  have hA4' : w6.cell? ⟨A', 0, none⟩ = some (.int .u64 69) := hA3' 0 (by decide)
  have hA6 : w6.cell? ⟨A, 0, none⟩ = some (.int .u64 71) := (hb6.cell (p := ⟨A, 0, none⟩) (by show A < w3.heap.size; omega)).trans hA5
  have hw6 : Below w.heap.size w w6 := (below_drewN hw3 (m4 + m5)).trans (hb6.mono hw3.size)
  go_wp2
  go_ret
  exact ⟨rfl, hw6⟩
end Go.Proofs.YtgcgomofmicchaaDoor
