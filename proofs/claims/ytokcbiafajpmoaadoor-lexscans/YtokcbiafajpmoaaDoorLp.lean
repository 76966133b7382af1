/-
  What is proved here: what package lex's quoted answers, or throws.
-/
import Derived.Test.YtokcbiafajpmoaaDoorLo
import Derived.Test.YtokcbiafajpmoaaDoorLf
namespace Go.Proofs.YtokcbiafajpmoaaDoor
open Go.RowKit
set_option linter.unusedVariables false
set_option linter.unusedSimpArgs false

set_option maxRecDepth 100000 in
set_option maxHeartbeats 4000000 in
theorem quoted_any (l : List UInt8) (a : Nat) (hal : a < l.length) (hl : l.length ≤ 65536) (W : World) :
    Calls Tryd.prog 34 #[.string (bs l), .int .i64 (a : Int)] W fun e w' => e = endOf (strR (l.drop a)) l a ∧ Below W.heap.size W w' := by
  have hsz : (bs l).size = l.length := bs_size l
  obtain ⟨g, hg⟩ : ∃ g, spn inqB (l.drop (a + 1)) = g := ⟨_, rfl⟩
  have hgl : a + 1 + g ≤ l.length := by
    have h1 := spn_le inqB (l.drop (a + 1))
    rw [List.length_drop, hg] at h1
    omega
  have hR : strR (l.drop a) = if (l.drop (a + 1 + g)).head? = some 34 then .ok 3 (g + 2) 0 else .bad 150 := by
    unfold strR
    rw [List.drop_drop, List.drop_drop, hg, show a + (g + 1) = a + 1 + g by omega]
  obtain ⟨w1, hW1⟩ : ∃ X, W.alloc (Obj.cells #[.int .i64 0, .string ⟨#[]⟩, .int .i64 0, .int .i64 0] 23) = X := ⟨_, rfl⟩
  have hb1 : Below W.heap.size W w1 := by rw [← hW1]; exact (Below.refl _ W).alloc (Nat.le_refl _) _
  have HROW : Hid (Rw w1 W.heap.size 23 #[.int .i64 0, .string ⟨#[]⟩, .int .i64 0, .int .i64 0]) := by unfold Hid; rw [← hW1]; exact Rw.new _ _ _
  have HW1 : Hid _ := hW1
  have hin := indexAny_any (l.drop (a + 1)) (by rw [List.length_drop]; omega) w1
  rw [index_ql, hg, List.length_drop] at hin
  obtain ⟨a1, ha1⟩ : ∃ a1, a + 1 = a1 := ⟨_, rfl⟩
  have hsl := fun X => bs_from l (a + 1) (by omega) X
  rw [ha1] at hin hsl
  have hw0 : IntKind.i64.wrap ((a : Int) + 1) = (a1 : Int) := by rw [IntKind.wrap_i64]; omega
  have HB1 : Hid _ := hb1
  by_cases hlt : g < l.length - a1
  · rw [if_pos hlt] at hin
    obtain ⟨x, hx⟩ : ∃ x, l[a1 + g]? = some x := ⟨_, List.getElem?_eq_getElem (by omega)⟩
    have hxn : inqB x = false := by
      have hsp := spn_at inqB (l.drop (a + 1)) g x (by omega) (by rw [List.getElem?_drop, ha1]; exact hx)
      rw [hg] at hsp
      cases hb : inqB x with
      | false => rfl
      | true => exact absurd (hsp.2 hb) (by omega)
    have hhd : (l.drop (a + 1 + g)).head? = some x := by rw [List.head?_drop, ha1]; exact hx
    rw [hhd] at hR
    have hxc : x = 34 ∨ x = 10 := by
      simp only [inqB, Bool.and_eq_false_iff, decide_eq_false_iff_not, ne_eq, Decidable.not_not] at hxn
      rcases hxn with h | h
      · exact .inl (UInt8.toNat_inj.1 h)
      · exact .inr (UInt8.toNat_inj.1 h)
    obtain ⟨i, hi⟩ : ∃ i, a1 + g = i := ⟨_, rfl⟩
    obtain ⟨b, hb⟩ : ∃ b, a + g + 2 = b := ⟨_, rfl⟩
    have hw2 : IntKind.i64.wrap ((a1 : Int) + (g : Int)) = (i : Int) := by rw [IntKind.wrap_i64]; omega
    obtain ⟨ag, hag⟩ : ∃ b, a + g = b := ⟨_, rfl⟩
    have hw3 : IntKind.i64.wrap ((a : Int) + (g : Int)) = (ag : Int) := by rw [IntKind.wrap_i64]; omega
    have hw4 : IntKind.i64.wrap ((ag : Int) + 2) = (b : Int) := by rw [IntKind.wrap_i64]; omega
    have hcut := fun X => bs_cut l a b (by omega) (by omega) X
    rw [show b - a = g + 2 by omega] at hcut
    rw [hi] at hx
    obtain ⟨hx0, hxx⟩ := bs_get l i x hx
    have h0 : ¬ (g : Int) < 0 := by omega
    have HR : Hid _ := hR
    have hgi : ¬ (i : Int) < 0 := by omega
    have hgs : (i : Int) < ((bs l).size : Int) := by omega
    clear hW1 hb1 hx hg hgl hR hhd hxn hsz hlt ha1 hi hb hag
    rcases hxc with rfl | rfl
    · rw [if_pos rfl] at HR
      go_enter Tryd.func34, Tryd.ntmps34
      go_upto_region 1 with (fail)
      rw [HW1.out]
      clear HW1
      go_upto_region 4 with (go_at_call 44; refine hin.mono ?_; rintro e w2 ⟨rfl, hb2⟩)
      have HBB : Hid (Below W.heap.size W w2) := HB1.out.trans (hb2.mono HB1.out.size)
      have HROW2 : Hid (Rw w2 W.heap.size 23 #[.int .i64 0, .string ⟨#[]⟩, .int .i64 0, .int .i64 0]) := HROW.out.below hb2
      clear hb2 hin
      go_wp2_with (with_reducible refine st23 rfl (.tmp 4) (.tmp 33) rfl W.heap.size _ _ _ _ (by with_unfolding_all rfl) (by with_unfolding_all rfl) HROW2.out rfl ⟨rfl, rfl, rfl, rfl⟩ ?_)
      refine ⟨rfl, _, Rw.res23 rfl _ (HROW2.out.set #[.int .i64 3, .string (bs (List.take (g + 2) (List.drop a l))), .int .i64 0, .int .i64 (a : Int)]) rfl, ?_, below_setRow HBB.out (Nat.le_refl _) _⟩
      rw [HR.out]; rfl
    · rw [if_neg (by decide)] at HR
      go_enter Tryd.func34, Tryd.ntmps34
      go_upto_region 1 with (fail)
      rw [HW1.out]
      clear HW1
      go_wp2_with (go_at_call 44; refine hin.mono ?_; rintro e w2 ⟨rfl, hb2⟩)
      exact ⟨rfl, by rw [HR.out]; rfl, HB1.out.trans (hb2.mono HB1.out.size)⟩
  · rw [if_neg hlt] at hin
    have hnil : l.drop (a + 1 + g) = [] := List.drop_eq_nil_of_le (by omega)
    rw [hnil] at hR
    have HR : Hid (strR (l.drop a) = .bad 150) := hR
    clear hnil
    clear hW1 hb1 hg hgl hR hsz hlt ha1
    go_enter Tryd.func34, Tryd.ntmps34
    go_upto_region 1 with (fail)
    rw [HW1.out]
    clear HW1
    go_wp2_with (go_at_call 44; refine hin.mono ?_; rintro e w2 ⟨rfl, hb2⟩)
    exact ⟨rfl, by rw [HR.out]; rfl, HB1.out.trans (hb2.mono HB1.out.size)⟩
end Go.Proofs.YtokcbiafajpmoaaDoor
