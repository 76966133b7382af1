/-
  What is proved here: the token at a place, as package lex's next finds it, or throws.
-/
import Derived.Test.YtokcbiafajpmoaaDoorLq
namespace Go.Proofs.YtokcbiafajpmoaaDoor
open Go.RowKit
set_option linter.unusedVariables false
set_option linter.unusedSimpArgs false

set_option maxRecDepth 100000 in
set_option maxHeartbeats 4000000 in
theorem next_any (l : List UInt8) (a : Nat) (hal : a ≤ l.length) (hl : l.length ≤ 65536) (W : World) (hE : ErrV W) :
    Calls Tryd.prog 28 #[.string (bs l), .int .i64 (a : Int)] W fun e w' => e = endOf (oneR (l.drop a)) l a ∧ Below W.heap.size W w' := by
  have hsz : (bs l).size = l.length := bs_size l
  obtain ⟨w1, hW1⟩ : ∃ X, W.alloc (Obj.cells #[.int .i64 0, .string ⟨#[]⟩, .int .i64 0, .int .i64 0] 23) = X := ⟨_, rfl⟩
  have hb1 : Below W.heap.size W w1 := by rw [← hW1]; exact (Below.refl _ W).alloc (Nat.le_refl _) _
  have HROW : Hid (Rw w1 W.heap.size 23 #[.int .i64 0, .string ⟨#[]⟩, .int .i64 0, .int .i64 0]) := by unfold Hid; rw [← hW1]; exact Rw.new _ _ _
  have HW1 : Hid _ := hW1
  have HB1 : Hid _ := hb1
  have hE1 := hE.self hb1
  obtain ⟨n, hn⟩ : ∃ n, l.length = n := ⟨_, rfl⟩
  have HN : Hid (l.length = n) := hn
  rw [hn] at hsz
  clear hW1 hb1 hE
  by_cases han : a = n
  · subst han
    have hnil : l.drop a = [] := List.drop_eq_nil_of_le (by omega)
    rw [endOf_eq, hnil]
    clear hnil hn
    go_enter Tryd.func28, Tryd.ntmps28
    go_upto_region 1 with (fail)
    rw [HW1.out]
    clear HW1
    go_wp2_with (with_reducible refine st23 rfl (.tmp 4) (.tmp 11) rfl W.heap.size _ _ _ _ (by with_unfolding_all rfl) (by with_unfolding_all rfl) HROW.out rfl ⟨rfl, rfl, rfl, rfl⟩ ?_)
    refine ⟨rfl, _, Rw.res23 rfl _ (HROW.out.set #[.int .i64 5, .string ⟨#[]⟩, .int .i64 0, .int .i64 (a : Int)]) rfl, rfl, below_setRow HB1.out (Nat.le_refl _) _⟩
  · have he : ((a : Int) == (n : Int)) = false := by simp; omega
    have he3 : (a == n) = false := by simpa using han
    have hlt : a < n := by omega
    obtain ⟨c, hc⟩ : ∃ c, l[a]? = some c := ⟨_, List.getElem?_eq_getElem (by omega)⟩
    have hd : l.drop a = c :: l.drop (a + 1) := by
      obtain ⟨h1, h2⟩ := List.getElem?_eq_some_iff.1 hc
      rw [List.drop_eq_getElem_cons h1, h2]
    obtain ⟨hx0, hx⟩ := bs_get l a c hc
    have hc2 : c.toNat < 256 := c.toNat_lt
    have hone : oneR (l.drop a) = if letB c then .ok 1 (spn wrdB (l.drop a)) 0 else if c.toNat = 45 ∨ digB c = true then numR (l.drop a) else if c.toNat = 34 then strR (l.drop a) else sgnR (l.drop a) := by rw [hd]; rfl
    rw [hone]
    cases h1 : letB c with
    | true =>
      have hwe := fun X => wordEnd_any l a (by omega) (by omega) X
      have hle := spn_le wrdB (l.drop a)
      obtain ⟨g, hg⟩ : ∃ g, spn wrdB (l.drop a) = g := ⟨_, rfl⟩
      simp only [hg] at hwe
      rw [hg] at hle ⊢
      have hcut := fun X => bs_cut l a (a + g) (by omega) (by rw [List.length_drop] at hle; omega) X
      rw [show a + g - a = g by omega] at hcut
      obtain ⟨b, hb⟩ : ∃ b, a + g = b := ⟨_, rfl⟩
      simp only [hb] at hwe hcut
      clear hone hd hc hn hg hb hle
      go_enter Tryd.func28, Tryd.ntmps28
      go_upto_region 1 with (fail)
      rw [HW1.out]
      clear HW1
      go_wp2_with (first | (go_at_call 20; refine (letter_any _ _).mono ?_; rw [h1]; rintro e w' ⟨rfl, rfl⟩) | (go_at_call 21; refine (hwe _).mono ?_; rintro e w' ⟨rfl, rfl⟩) | (with_reducible refine st23 rfl (.tmp 4) (.tmp 25) rfl W.heap.size _ _ _ _ (by with_unfolding_all rfl) (by with_unfolding_all rfl) HROW.out rfl ⟨rfl, rfl, rfl, rfl⟩ ?_))
      refine ⟨rfl, _, Rw.res23 rfl _ (HROW.out.set #[.int .i64 1, .string (bs (List.take g (List.drop a l))), .int .i64 0, .int .i64 (a : Int)]) rfl, rfl, below_setRow HB1.out (Nat.le_refl _) _⟩
    | false =>
      rw [if_neg (by simp)]
      by_cases h45 : c = 45
      · have e1 : ((c.toNat : Int) == 45) = true := by rw [h45]; rfl
        rw [if_pos (.inl (by rw [h45]; rfl))]
        clear h45
        have hcall := number_any l a c hc (by omega) w1 hE1
        clear hone hd hc hn
        cases hr : numR (l.drop a) with
        | ok k m v =>
          rw [hr] at hcall
          go_enter Tryd.func28, Tryd.ntmps28
          go_upto_region 1 with (fail)
          rw [HW1.out]
          clear HW1
          go_upto_region 7 with ((go_at_call 20; refine (letter_any _ _).mono ?_; rw [h1]; rintro e w' ⟨rfl, rfl⟩))
          go_wp2_with fail
          refine hcall.mono ?_
          rintro e w2 ⟨rfl, hb2⟩
          have HBB : Hid (Below W.heap.size W w2) := HB1.out.trans (hb2.mono HB1.out.size)
          have HROW2 : Hid (Rw w2 W.heap.size 23 #[.int .i64 0, .string ⟨#[]⟩, .int .i64 0, .int .i64 0]) := HROW.out.below hb2
          clear hb2 hcall
          unfold endOf tokV
          go_wp2_with (with_reducible refine st23 rfl (.tmp 4) (.tmp 35) rfl W.heap.size _ _ _ _ (by with_unfolding_all rfl) (by with_unfolding_all rfl) HROW2.out rfl ⟨rfl, rfl, rfl, rfl⟩ ?_)
          refine ⟨rfl, _, Rw.res23 rfl _ (HROW2.out.set #[.int .i64 k, .string (bs (List.take m (List.drop a l))), .int .i64 v, .int .i64 (a : Int)]) rfl, rfl, below_setRow HBB.out (Nat.le_refl _) _⟩
        | bad x =>
          rw [hr] at hcall
          go_enter Tryd.func28, Tryd.ntmps28
          go_upto_region 1 with (fail)
          rw [HW1.out]
          clear HW1
          go_upto_region 7 with ((go_at_call 20; refine (letter_any _ _).mono ?_; rw [h1]; rintro e w' ⟨rfl, rfl⟩))
          go_wp2_with fail
          refine hcall.mono ?_
          rintro e w2 ⟨rfl, hb2⟩
          have HBB : Hid (Below W.heap.size W w2) := HB1.out.trans (hb2.mono HB1.out.size)
          clear hb2 hcall
          unfold endOf thrown
          go_wp2
          exact ⟨rfl, rfl, HBB.out⟩
      · have h45' : ¬ c.toNat = 45 := fun h => h45 (UInt8.toNat_inj.1 h)
        have e1 : ((c.toNat : Int) == 45) = false := by simp; omega
        cases hdg : digB c with
        | true =>
          rw [if_pos (.inr rfl)]
          have hcall := number_any l a c hc (by omega) w1 hE1
          clear hone hd hc hn
          cases hr : numR (l.drop a) with
          | ok k m v =>
            rw [hr] at hcall
            go_enter Tryd.func28, Tryd.ntmps28
            go_upto_region 1 with (fail)
            rw [HW1.out]
            clear HW1
            go_upto_region 7 with (first | (go_at_call 20; refine (letter_any _ _).mono ?_; rw [h1]; rintro e w' ⟨rfl, rfl⟩) | (go_at_call 31; refine (digit_any _ _).mono ?_; rw [hdg]; rintro e w' ⟨rfl, rfl⟩))
            go_wp2_with fail
            refine hcall.mono ?_
            rintro e w2 ⟨rfl, hb2⟩
            have HBB : Hid (Below W.heap.size W w2) := HB1.out.trans (hb2.mono HB1.out.size)
            have HROW2 : Hid (Rw w2 W.heap.size 23 #[.int .i64 0, .string ⟨#[]⟩, .int .i64 0, .int .i64 0]) := HROW.out.below hb2
            clear hb2 hcall
            unfold endOf tokV
            go_wp2_with (with_reducible refine st23 rfl (.tmp 4) (.tmp 35) rfl W.heap.size _ _ _ _ (by with_unfolding_all rfl) (by with_unfolding_all rfl) HROW2.out rfl ⟨rfl, rfl, rfl, rfl⟩ ?_)
            refine ⟨rfl, _, Rw.res23 rfl _ (HROW2.out.set #[.int .i64 k, .string (bs (List.take m (List.drop a l))), .int .i64 v, .int .i64 (a : Int)]) rfl, rfl, below_setRow HBB.out (Nat.le_refl _) _⟩
          | bad x =>
            rw [hr] at hcall
            go_enter Tryd.func28, Tryd.ntmps28
            go_upto_region 1 with (fail)
            rw [HW1.out]
            clear HW1
            go_upto_region 7 with (first | (go_at_call 20; refine (letter_any _ _).mono ?_; rw [h1]; rintro e w' ⟨rfl, rfl⟩) | (go_at_call 31; refine (digit_any _ _).mono ?_; rw [hdg]; rintro e w' ⟨rfl, rfl⟩))
            go_wp2_with fail
            refine hcall.mono ?_
            rintro e w2 ⟨rfl, hb2⟩
            have HBB : Hid (Below W.heap.size W w2) := HB1.out.trans (hb2.mono HB1.out.size)
            clear hb2 hcall
            unfold endOf thrown
            go_wp2
            exact ⟨rfl, rfl, HBB.out⟩
        | false =>
          rw [if_neg (by simp [h45'])]
          by_cases h34 : c = 34
          · have e2 : ((c.toNat : Int) == 34) = true := by rw [h34]; rfl
            rw [if_pos (by rw [h34]; rfl)]
            clear h34
            have hcall := quoted_any l a (by omega) (by omega) w1
            clear hone hd hc hn h45 h45'
            cases hr : strR (l.drop a) with
            | ok k m v =>
              rw [hr] at hcall
              go_enter Tryd.func28, Tryd.ntmps28
              go_upto_region 1 with (fail)
              rw [HW1.out]
              clear HW1
              go_upto_region 9 with (first | (go_at_call 20; refine (letter_any _ _).mono ?_; rw [h1]; rintro e w' ⟨rfl, rfl⟩) | (go_at_call 31; refine (digit_any _ _).mono ?_; rw [hdg]; rintro e w' ⟨rfl, rfl⟩))
              go_wp2_with fail
              refine hcall.mono ?_
              rintro e w2 ⟨rfl, hb2⟩
              have HBB : Hid (Below W.heap.size W w2) := HB1.out.trans (hb2.mono HB1.out.size)
              have HROW2 : Hid (Rw w2 W.heap.size 23 #[.int .i64 0, .string ⟨#[]⟩, .int .i64 0, .int .i64 0]) := HROW.out.below hb2
              clear hb2 hcall
              unfold endOf tokV
              go_wp2_with (with_reducible refine st23 rfl (.tmp 4) (.tmp 41) rfl W.heap.size _ _ _ _ (by with_unfolding_all rfl) (by with_unfolding_all rfl) HROW2.out rfl ⟨rfl, rfl, rfl, rfl⟩ ?_)
              refine ⟨rfl, _, Rw.res23 rfl _ (HROW2.out.set #[.int .i64 k, .string (bs (List.take m (List.drop a l))), .int .i64 v, .int .i64 (a : Int)]) rfl, rfl, below_setRow HBB.out (Nat.le_refl _) _⟩
            | bad x =>
              rw [hr] at hcall
              go_enter Tryd.func28, Tryd.ntmps28
              go_upto_region 1 with (fail)
              rw [HW1.out]
              clear HW1
              go_upto_region 9 with (first | (go_at_call 20; refine (letter_any _ _).mono ?_; rw [h1]; rintro e w' ⟨rfl, rfl⟩) | (go_at_call 31; refine (digit_any _ _).mono ?_; rw [hdg]; rintro e w' ⟨rfl, rfl⟩))
              go_wp2_with fail
              refine hcall.mono ?_
              rintro e w2 ⟨rfl, hb2⟩
              have HBB : Hid (Below W.heap.size W w2) := HB1.out.trans (hb2.mono HB1.out.size)
              clear hb2 hcall
              unfold endOf thrown
              go_wp2
              exact ⟨rfl, rfl, HBB.out⟩
          · have h34' : ¬ c.toNat = 34 := fun h => h34 (UInt8.toNat_inj.1 h)
            have e2 : ((c.toNat : Int) == 34) = false := by simp; omega
            rw [if_neg h34']
            have hcall := sign_any l a c (l.drop (a + 1)) hd (by omega) w1
            clear hone hd hc hn
            cases hr : sgnR (l.drop a) with
            | ok k m v =>
              rw [hr] at hcall
              go_enter Tryd.func28, Tryd.ntmps28
              go_upto_region 1 with (fail)
              rw [HW1.out]
              clear HW1
              go_upto_region 10 with (first | (go_at_call 20; refine (letter_any _ _).mono ?_; rw [h1]; rintro e w' ⟨rfl, rfl⟩) | (go_at_call 31; refine (digit_any _ _).mono ?_; rw [hdg]; rintro e w' ⟨rfl, rfl⟩))
              go_wp2_with fail
              refine hcall.mono ?_
              rintro e w2 ⟨rfl, hb2⟩
              have HBB : Hid (Below W.heap.size W w2) := HB1.out.trans (hb2.mono HB1.out.size)
              have HROW2 : Hid (Rw w2 W.heap.size 23 #[.int .i64 0, .string ⟨#[]⟩, .int .i64 0, .int .i64 0]) := HROW.out.below hb2
              clear hb2 hcall
              unfold endOf tokV
              go_wp2_with (with_reducible refine st23 rfl (.tmp 4) (.tmp 44) rfl W.heap.size _ _ _ _ (by with_unfolding_all rfl) (by with_unfolding_all rfl) HROW2.out rfl ⟨rfl, rfl, rfl, rfl⟩ ?_)
              refine ⟨rfl, _, Rw.res23 rfl _ (HROW2.out.set #[.int .i64 k, .string (bs (List.take m (List.drop a l))), .int .i64 v, .int .i64 (a : Int)]) rfl, rfl, below_setRow HBB.out (Nat.le_refl _) _⟩
            | bad x =>
              rw [hr] at hcall
              go_enter Tryd.func28, Tryd.ntmps28
              go_upto_region 1 with (fail)
              rw [HW1.out]
              clear HW1
              go_upto_region 10 with (first | (go_at_call 20; refine (letter_any _ _).mono ?_; rw [h1]; rintro e w' ⟨rfl, rfl⟩) | (go_at_call 31; refine (digit_any _ _).mono ?_; rw [hdg]; rintro e w' ⟨rfl, rfl⟩))
              go_wp2_with fail
              refine hcall.mono ?_
              rintro e w2 ⟨rfl, hb2⟩
              have HBB : Hid (Below W.heap.size W w2) := HB1.out.trans (hb2.mono HB1.out.size)
              clear hb2 hcall
              unfold endOf thrown
              go_wp2
              exact ⟨rfl, rfl, HBB.out⟩
end Go.Proofs.YtokcbiafajpmoaaDoor
