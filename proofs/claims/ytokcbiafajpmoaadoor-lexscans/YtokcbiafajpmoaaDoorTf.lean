/-
  What is proved here: what the reference's one answers.
-/
import Derived.Test.YtokcbiafajpmoaaDoorTd
namespace Go.Proofs.YtokcbiafajpmoaaDoor
open Go.RowKit
set_option linter.unusedVariables false
set_option linter.unusedSimpArgs false

set_option maxRecDepth 100000 in
set_option maxHeartbeats 40000000 in
theorem one25n (l : List UInt8) (a : Nat) (c : UInt8) (hc : l[a]? = some c) (hl1 : letB c = false) (hcd : c = 45 ∨ digB c = true) (hl : l.length ≤ 65536) (W : World) :
    Calls Tryd.prog 25 #[.string (bs l), .int .i64 (a : Int)] W fun e w' => e = endR (oneR (l.drop a)) l a ∧ Below W.heap.size W w' := by
  have hal : a < l.length := (List.getElem?_eq_some_iff.1 hc).1
  have hat := fun (i : Nat) (c : UInt8) (h : l[i]? = some c) => bs_get l i c h
  have hcut := fun (b : Nat) (h1 : a ≤ b) (h2 : b ≤ l.length) X => bs_cut l a b h1 h2 X
  have hsz : (bs l).size = l.length := bs_size l
  have hga := goes_at l a c hc
  obtain ⟨n, hn⟩ : ∃ n, l.length = n := ⟨_, rfl⟩
  have HN : Hid (l.length = n) := hn
  have hc2 : c.toNat < 256 := c.toNat_lt
  have hnum : ∀ X, Calls Tryd.prog 32 #[.string (bs l), .int .i64 (a : Int)] X fun e w' => e = endR (numR (l.drop a)) l a ∧ Below X.heap.size X w' := fun X => by
    rcases hcd with h | h
    · exact number32n l a c hc h hl X
    · exact number32p l a c hc h hl X
  rw [hn] at hsz hal hl
  simp only [hn] at hcut
  have HCUT : Hid _ := hcut
  obtain ⟨hx0, hx⟩ := hat a c hc
  obtain ⟨w1, hW1⟩ : ∃ X, W.alloc (Obj.cells #[.int .i64 0, .string ⟨#[]⟩, .int .i64 0, .int .i64 0] 23) = X := ⟨_, rfl⟩
  have hb1 : Below W.heap.size W w1 := by rw [← hW1]; exact (Below.refl _ W).alloc (Nat.le_refl _) _
  have HW1 : Hid _ := hW1
  have HB1 : Hid _ := hb1
  have HROW : Hid (Rw w1 W.heap.size 23 #[.int .i64 0, .string ⟨#[]⟩, .int .i64 0, .int .i64 0]) := by unfold Hid; rw [← hW1]; exact Rw.new _ _ _
  have HV : Hid (oneR (l.drop a) = numR (l.drop a)) := by
    unfold Hid
    conv => lhs; rw [hga]
    simp only [oneR]
    rw [hl1, if_neg (by simp), if_pos (by rcases hcd with rfl | h; · exact .inl rfl
                                          · exact .inr h), ← hga]
  rw [HV.out]
  have hnq := hnum w1
  have hdg : digB c = true ∨ (digB c = false ∧ ((c.toNat : Int) == 45) = true) := by
    cases h : digB c with
    | true => exact .inl rfl
    | false => rcases hcd with rfl | h2
               · exact .inr ⟨rfl, rfl⟩
               · rw [h] at h2; exact absurd h2 (by simp)
  generalize numR (l.drop a) = R at hnq
  clear hn hc hW1 hb1 hcut hga hnum hcd HCUT hat
  rcases hdg with hd | ⟨hd, h45⟩ <;>
  · go_enter Tryd.func25, Tryd.ntmps25
    go_upto_region 1 with (fail)
    rw [HW1.out]
    clear HW1
    go_wp2_with (first | (go_at_call 22; refine (letter22 _ _).mono ?_; rw [hl1]; rintro e w' ⟨rfl, hw'⟩; have hw2 := hw'.symm; clear hw'; subst hw2) | (go_at_call 23; refine (digit23 _ _).mono ?_; rw [hd]; rintro e w' ⟨rfl, hw'⟩; have hw2 := hw'.symm; clear hw'; subst hw2))
    refine hnq.mono ?_
    rintro e w2 ⟨rfl, hb2⟩
    have hR2 := HROW.out.below hb2
    have HB2 : Hid (Below W.heap.size W w2) := HB1.out.trans (hb2.mono HB1.out.size)
    have HR2 : Hid _ := hR2
    clear hnq hb2 hR2 HROW
    cases R with
    | ok k m v =>
      unfold endR tokV
      go_wp2_with (with_reducible refine st23 rfl (.tmp 4) (.tmp 51) rfl W.heap.size _ _ _ _ (by with_unfolding_all rfl) (by with_unfolding_all rfl) HR2.out rfl ⟨rfl, rfl, rfl, rfl⟩ ?_)
      refine ⟨rfl, _, resNT rfl _ _ W.heap.size _ _ _ _ _ (HR2.out.set #[.int .i64 k, .string (bs ((l.drop a).take m)), .int .i64 v, .int .i64 (a : Int)]) rfl rfl, rfl, below_setRow HB2.out (Nat.le_refl _) _⟩
    | bad x =>
      unfold endR tokV
      go_wp2_with (with_reducible refine st23 rfl (.tmp 4) (.tmp 51) rfl W.heap.size _ _ _ _ (by with_unfolding_all rfl) (by with_unfolding_all rfl) HR2.out rfl ⟨rfl, rfl, rfl, rfl⟩ ?_)
      refine ⟨rfl, _, resNT rfl _ _ W.heap.size _ _ _ _ _ (HR2.out.set #[.int .i64 0, .string (bs []), .int .i64 0, .int .i64 0]) rfl rfl, rfl, below_setRow HB2.out (Nat.le_refl _) _⟩
end Go.Proofs.YtokcbiafajpmoaaDoor
