/-
  What is proved here: what the reference's one answers.
-/
import Derived.Test.YtokcbiafajpmoaaDoorTc
namespace Go.Proofs.YtokcbiafajpmoaaDoor
open Go.RowKit
set_option linter.unusedVariables false
set_option linter.unusedSimpArgs false
theorem two_cut (l : List UInt8) (a : Nat) (c d : UInt8) (r : List UInt8) (h : l.drop a = c :: d :: r) : (l.drop a).take 2 = [c, d] := by rw [h]; rfl

set_option maxRecDepth 100000 in
set_option maxHeartbeats 40000000 in
theorem one25s (l : List UInt8) (a : Nat) (c : UInt8) (hc : l[a]? = some c) (hl1 : letB c = false) (h45 : ¬ c = 45) (hd : digB c = false) (h34 : ¬ c = 34) (hl : l.length ≤ 65536) (W : World) :
    Calls Tryd.prog 25 #[.string (bs l), .int .i64 (a : Int)] W fun e w' => e = endR (oneR (l.drop a)) l a ∧ Below W.heap.size W w' := by
  have hal : a < l.length := (List.getElem?_eq_some_iff.1 hc).1
  have hat := fun (i : Nat) (c : UInt8) (h : l[i]? = some c) => bs_get l i c h
  have hcut := fun (b : Nat) (h1 : a ≤ b) (h2 : b ≤ l.length) X => bs_cut l a b h1 h2 X
  have hsz : (bs l).size = l.length := bs_size l
  have hga := goes_at l a c hc
  obtain ⟨n, hn⟩ : ∃ n, l.length = n := ⟨_, rfl⟩
  have HN : Hid (l.length = n) := hn
  have hc2 : c.toNat < 256 := c.toNat_lt
  rw [hn] at hsz hal hl
  simp only [hn] at hcut
  have HCUT : Hid _ := hcut
  obtain ⟨hx0, hx⟩ := hat a c hc
  obtain ⟨w1, hW1⟩ : ∃ X, W.alloc (Obj.cells #[.int .i64 0, .string ⟨#[]⟩, .int .i64 0, .int .i64 0] 23) = X := ⟨_, rfl⟩
  have hb1 : Below W.heap.size W w1 := by rw [← hW1]; exact (Below.refl _ W).alloc (Nat.le_refl _) _
  have HW1 : Hid _ := hW1
  have HB1 : Hid _ := hb1
  have HROW : Hid (Rw w1 W.heap.size 23 #[.int .i64 0, .string ⟨#[]⟩, .int .i64 0, .int .i64 0]) := by unfold Hid; rw [← hW1]; exact Rw.new _ _ _
  have q1 : ¬ c.toNat = 45 := fun h => h45 (UInt8.toNat_inj.1 h)
  have q2 : ¬ c.toNat = 34 := fun h => h34 (UInt8.toNat_inj.1 h)
  have e1 : ((c.toNat : Int) == 45) = false := by simp; omega
  have e2 : ((c.toNat : Int) == 34) = false := by simp; omega
  have HO : Hid (oneR (l.drop a) = sgnR (l.drop a)) := by
    unfold Hid
    conv => lhs; rw [hga]
    simp only [oneR]
    rw [hl1, if_neg (by simp), if_neg (by rw [hd]; simp [q1]), if_neg q2, ← hga]
  obtain ⟨a1, ha1⟩ : ∃ a1, a + 1 = a1 := ⟨_, rfl⟩
  obtain ⟨a2, ha2⟩ : ∃ a2, a + 2 = a2 := ⟨_, rfl⟩
  have hw0 : IntKind.i64.wrap ((a : Int) + 1) = (a1 : Int) := by rw [IntKind.wrap_i64]; omega
  have hw2 : IntKind.i64.wrap ((a : Int) + 2) = (a2 : Int) := by rw [IntKind.wrap_i64]; omega
  have hcu1 := fun X => HCUT.out a1 (by omega) (by omega) X
  rw [show a1 - a = 1 by omega] at hcu1
  rw [ha1] at hga
  have HTW : Hid (twoB (l.drop a) = true → ∃ d r, a2 ≤ n ∧ l.drop a = c :: d :: r ∧ (c = 46 ∧ d = 46 ∨ c = 58 ∧ d = 58)) := by
    intro ht
    rw [hga] at ht ⊢
    cases hr : l.drop a1 with
    | nil => rw [hr] at ht; simp [twoB] at ht
    | cons d r =>
      rw [hr] at ht
      simp only [twoB, Bool.or_eq_true, Bool.and_eq_true, beq_iff_eq] at ht
      have h3 := congrArg List.length hr
      rw [List.length_drop, HN.out] at h3
      simp at h3
      exact ⟨d, r, by omega, rfl, ht⟩
  have HFT : Hid (twoB (l.drop a) = false → a2 ≤ n → ∃ d r, l.drop a = c :: d :: r ∧ ([c, d] == [46, 46]) = false ∧ ([c, d] == [58, 58]) = false) := by
    intro ht h2
    obtain ⟨d, hdd⟩ : ∃ d, l[a1]? = some d := ⟨_, List.getElem?_eq_getElem (by rw [HN.out]; omega)⟩
    have h3 := goes_at l a1 d hdd
    rw [hga, h3] at ht
    refine ⟨d, _, by rw [hga, h3], ?_⟩
    simp only [twoB, Bool.or_eq_false_iff] at ht
    constructor
    · have := ht.1; simpa [List.cons_beq_cons] using this
    · have := ht.2; simpa [List.cons_beq_cons] using this
  have HGA : Hid (∃ r, l.drop a = c :: r) := ⟨_, hga⟩
  have HA12 : Hid (a + 1 = a1 ∧ a + 2 = a2) := ⟨ha1, ha2⟩
  clear hn hc hW1 hb1 hcut hga ha1 h45 h34 q1 q2
  cases htw : twoB (l.drop a) with
  | true =>
    obtain ⟨d, r, h2n, hdr, hcd⟩ := HTW.out htw
    have hcu2 := fun X => HCUT.out a2 (by omega) h2n X
    rw [show a2 - a = 2 by omega] at hcu2
    have htk := two_cut l a c d r hdr
    rw [htk] at hcu2
    have hlt1 : (a1 : Int) < (n : Int) := by
      have h3 := congrArg List.length hdr
      rw [List.length_drop, HN.out] at h3
      simp at h3
      have : IntKind.i64.wrap ((a : Int) + 1) = (a : Int) + 1 := by rw [IntKind.wrap_i64]; omega
      omega
    have HV : Hid (oneR (l.drop a) = .ok 4 2 0) := by unfold Hid; rw [HO.out]; unfold sgnR; rw [htw]; rfl
    have HTK : Hid ((l.drop a).take 2 = [c, d]) := htk
    have b1 := bs_toList [c, d]
    have b2 : (ByteArray.mk #[46, 46]).toList = [46, 46] := bs_toList [46, 46]
    have b3 : (ByteArray.mk #[58, 58]).toList = [58, 58] := bs_toList [58, 58]
    have hss : ((bs [c, d]).toList == [46, 46]) = true ∨ (((bs [c, d]).toList == [46, 46]) = false ∧ ((bs [c, d]).toList == [58, 58]) = true) := by
      rw [b1]
      rcases hcd with ⟨rfl, rfl⟩ | ⟨rfl, rfl⟩
      · left; rfl
      · right; exact ⟨rfl, rfl⟩
    obtain ⟨ss, hse⟩ : ∃ ss, bs [c, d] = ss := ⟨_, rfl⟩
    have HSE : Hid (bs [c, d] = ss) := hse
    rw [hse] at hss
    simp only [hse] at hcu2
    clear htk htw hdr HTW HFT hcu1 hcd b1 b2 b3 hse hat
    rcases hss with s1 | ⟨s1, s2⟩ <;>
    · go_enter Tryd.func25, Tryd.ntmps25
      go_upto_region 1 with (fail)
      rw [HW1.out]
      clear HW1
      go_wp2_with (first | (go_at_call 22; refine (letter22 _ _).mono ?_; rw [hl1]; rintro e w' ⟨rfl, hw'⟩; have hw2 := hw'.symm; clear hw'; subst hw2) | (go_at_call 23; refine (digit23 _ _).mono ?_; rw [hd]; rintro e w' ⟨rfl, hw'⟩; have hw2 := hw'.symm; clear hw'; subst hw2) | (with_reducible refine st23 rfl (.tmp 4) (.tmp 121) rfl W.heap.size _ _ _ _ (by with_unfolding_all rfl) (by with_unfolding_all rfl) HROW.out rfl ⟨rfl, rfl, rfl, rfl⟩ ?_))
      refine ⟨rfl, _, resNT rfl _ _ W.heap.size _ _ _ _ _ (HROW.out.set #[.int .i64 4, .string ss, .int .i64 0, .int .i64 (a : Int)]) rfl rfl, ?_, below_setRow HB1.out (Nat.le_refl _) _⟩
      rw [HV.out]
      unfold endR tokV
      simp only
      rw [HTK.out, HSE.out]
      rfl
  | false =>
    have hR : sgnR (l.drop a) = if signs.contains c then .ok 4 1 0 else .bad 150 := by
      unfold sgnR
      rw [htw]
      obtain ⟨r, hr⟩ : ∃ r, l.drop a = c :: r := HGA.out
      rw [hr]
      rfl
    rw [hR] at HO
    have hcase : (¬ (a1 : Int) < (n : Int)) ∨ ((a1 : Int) < (n : Int) ∧ ∃ d, (∀ X, (Instr.slice 9 (.string (bs l)) (some (.int .i64 (a : Int))) (some (.int .i64 (a2 : Int))) none).run Tryd.prog X = .ok (.string (bs [c, d])) X) ∧ ((bs [c, d]).toList == [46, 46]) = false ∧ ((bs [c, d]).toList == [58, 58]) = false) := by
      by_cases h : a2 ≤ n
      · right
        obtain ⟨d, r, h3, h4⟩ := HFT.out htw h
        refine ⟨by have := HA12.out; omega, d, fun X => ?_, by rw [bs_toList]; exact h4⟩
        have := HCUT.out a2 (by have := HA12.out; omega) h X
        rw [show a2 - a = 2 by have := HA12.out; omega, two_cut l a c d r h3] at this
        exact this
      · left; have := HA12.out; omega
    clear htw hR HTW HFT hat
    rcases hcase with hlt1 | ⟨hlt1, d, hcu2, hb1, hb2⟩
    · go_enter Tryd.func25, Tryd.ntmps25
      go_upto_region 1 with (fail)
      rw [HW1.out]
      clear HW1
      go_wp2_with (first | (go_at_call 22; refine (letter22 _ _).mono ?_; rw [hl1]; rintro e w' ⟨rfl, hw'⟩; have hw2 := hw'.symm; clear hw'; subst hw2) | (go_at_call 23; refine (digit23 _ _).mono ?_; rw [hd]; rintro e w' ⟨rfl, hw'⟩; have hw2 := hw'.symm; clear hw'; subst hw2))
      clear hx hx0
      go_loopw [9] (fun i wr => ∃ k : Nat, k ≤ 10 ∧ i = .int .i64 (k : Int) ∧ Hid (∀ e ∈ signs.take k, e ≠ c) ∧ wr = w1) (fun i _ => 10 - (intOf i).toNat)
      case atStart => exact ⟨0, Nat.zero_le _, rfl, by intro e he; simp at he, rfl⟩
      case round =>
        obtain ⟨k, hk, rfl, HK, rfl⟩ := hrel
        by_cases hlt : k < 10
        · have hlt' : (k : Int) < 10 := by omega
          obtain ⟨s, hs⟩ : ∃ s, signs[k]? = some s := ⟨_, List.getElem?_eq_getElem (by exact hlt)⟩
          have hyy : ∃ h' : k < (ByteArray.mk #[59, 58, 44, 40, 41, 91, 93, 123, 125, 61]).size, (ByteArray.mk #[59, 58, 44, 40, 41, 91, 93, 123, 125, 61])[k] = s := bs_get signs k s hs
          obtain ⟨hy0, hy⟩ := hyy
          have hwk : IntKind.i64.wrap ((k : Int) + 1) = (k : Int) + 1 := by rw [IntKind.wrap_i64]; omega
          have HSS : Hid (signs[k]? = some s) := hs
          clear hs
          by_cases hsc : s = c
          · subst hsc
            have HV : Hid (oneR (l.drop a) = .ok 4 1 0) := by
              unfold Hid; rw [HO.out, if_pos]
              exact List.contains_iff_mem.2 (List.mem_of_getElem? HSS.out)
            go_wp2_with (first | (with_reducible refine st23 rfl (.tmp 4) (.tmp 139) rfl W.heap.size _ _ _ _ (by with_unfolding_all rfl) (by with_unfolding_all rfl) HROW.out rfl ⟨rfl, rfl, rfl, rfl⟩ ?_))
            refine ⟨rfl, _, resNT rfl _ _ W.heap.size _ _ _ _ _ (HROW.out.set #[.int .i64 4, .string (bs ((l.drop a).take 1)), .int .i64 0, .int .i64 (a : Int)]) rfl rfl, ?_, below_setRow HB1.out (Nat.le_refl _) _⟩
            rw [HV.out]; rfl
          · have q5 : ¬ s.toNat = c.toNat := fun h => hsc (UInt8.toNat_inj.1 h)
            have e5 : ((s.toNat : Int) == (c.toNat : Int)) = false := by simp; omega
            have HK2 : Hid (∀ e ∈ signs.take (k + 1), e ≠ c) := by
              intro e he
              rw [List.take_add_one, HSS.out, List.mem_append] at he
              rcases he with he | he
              · exact HK.out e he
              · simp at he; rw [he]; exact hsc
            clear hsc q5
            go_wp2
            go_roundw
            case rel => exact ⟨k + 1, by omega, by go_num, HK2, by first | rfl | trivial⟩
            case measure => simp [intOf]; omega
        · have hlt' : ¬ (k : Int) < 10 := by omega
          have HV : Hid (oneR (l.drop a) = .bad 150) := by
            unfold Hid; rw [HO.out, if_neg]
            intro h
            obtain rfl : k = 10 := by omega
            exact HK.out c (List.contains_iff_mem.1 h) rfl
          go_wp2_with (first | (with_reducible refine st23 rfl (.tmp 4) (.tmp 140) rfl W.heap.size _ _ _ _ (by with_unfolding_all rfl) (by with_unfolding_all rfl) HROW.out rfl ⟨rfl, rfl, rfl, rfl⟩ ?_))
          refine ⟨rfl, _, resNT rfl _ _ W.heap.size _ _ _ _ _ (HROW.out.set #[.int .i64 0, .string ⟨#[]⟩, .int .i64 0, .int .i64 0]) rfl rfl, ?_, below_setRow HB1.out (Nat.le_refl _) _⟩
          rw [HV.out]; rfl
    · generalize bs [c, d] = ss at hcu2 hb1 hb2
      go_enter Tryd.func25, Tryd.ntmps25
      go_upto_region 1 with (fail)
      rw [HW1.out]
      clear HW1
      go_wp2_with (first | (go_at_call 22; refine (letter22 _ _).mono ?_; rw [hl1]; rintro e w' ⟨rfl, hw'⟩; have hw2 := hw'.symm; clear hw'; subst hw2) | (go_at_call 23; refine (digit23 _ _).mono ?_; rw [hd]; rintro e w' ⟨rfl, hw'⟩; have hw2 := hw'.symm; clear hw'; subst hw2))
      clear hx hx0 hcu2 hb1 hb2
      go_loopw [9] (fun i wr => ∃ k : Nat, k ≤ 10 ∧ i = .int .i64 (k : Int) ∧ Hid (∀ e ∈ signs.take k, e ≠ c) ∧ wr = w1) (fun i _ => 10 - (intOf i).toNat)
      case atStart => exact ⟨0, Nat.zero_le _, rfl, by intro e he; simp at he, rfl⟩
      case round =>
        obtain ⟨k, hk, rfl, HK, rfl⟩ := hrel
        by_cases hlt : k < 10
        · have hlt' : (k : Int) < 10 := by omega
          obtain ⟨s, hs⟩ : ∃ s, signs[k]? = some s := ⟨_, List.getElem?_eq_getElem (by exact hlt)⟩
          have hyy : ∃ h' : k < (ByteArray.mk #[59, 58, 44, 40, 41, 91, 93, 123, 125, 61]).size, (ByteArray.mk #[59, 58, 44, 40, 41, 91, 93, 123, 125, 61])[k] = s := bs_get signs k s hs
          obtain ⟨hy0, hy⟩ := hyy
          have hwk : IntKind.i64.wrap ((k : Int) + 1) = (k : Int) + 1 := by rw [IntKind.wrap_i64]; omega
          have HSS : Hid (signs[k]? = some s) := hs
          clear hs
          by_cases hsc : s = c
          · subst hsc
            have HV : Hid (oneR (l.drop a) = .ok 4 1 0) := by
              unfold Hid; rw [HO.out, if_pos]
              exact List.contains_iff_mem.2 (List.mem_of_getElem? HSS.out)
            go_wp2_with (first | (with_reducible refine st23 rfl (.tmp 4) (.tmp 139) rfl W.heap.size _ _ _ _ (by with_unfolding_all rfl) (by with_unfolding_all rfl) HROW.out rfl ⟨rfl, rfl, rfl, rfl⟩ ?_))
            refine ⟨rfl, _, resNT rfl _ _ W.heap.size _ _ _ _ _ (HROW.out.set #[.int .i64 4, .string (bs ((l.drop a).take 1)), .int .i64 0, .int .i64 (a : Int)]) rfl rfl, ?_, below_setRow HB1.out (Nat.le_refl _) _⟩
            rw [HV.out]; rfl
          · have q5 : ¬ s.toNat = c.toNat := fun h => hsc (UInt8.toNat_inj.1 h)
            have e5 : ((s.toNat : Int) == (c.toNat : Int)) = false := by simp; omega
            have HK2 : Hid (∀ e ∈ signs.take (k + 1), e ≠ c) := by
              intro e he
              rw [List.take_add_one, HSS.out, List.mem_append] at he
              rcases he with he | he
              · exact HK.out e he
              · simp at he; rw [he]; exact hsc
            clear hsc q5
            go_wp2
            go_roundw
            case rel => exact ⟨k + 1, by omega, by go_num, HK2, by first | rfl | trivial⟩
            case measure => simp [intOf]; omega
        · have hlt' : ¬ (k : Int) < 10 := by omega
          have HV : Hid (oneR (l.drop a) = .bad 150) := by
            unfold Hid; rw [HO.out, if_neg]
            intro h
            obtain rfl : k = 10 := by omega
            exact HK.out c (List.contains_iff_mem.1 h) rfl
          go_wp2_with (first | (with_reducible refine st23 rfl (.tmp 4) (.tmp 140) rfl W.heap.size _ _ _ _ (by with_unfolding_all rfl) (by with_unfolding_all rfl) HROW.out rfl ⟨rfl, rfl, rfl, rfl⟩ ?_))
          refine ⟨rfl, _, resNT rfl _ _ W.heap.size _ _ _ _ _ (HROW.out.set #[.int .i64 0, .string ⟨#[]⟩, .int .i64 0, .int .i64 0]) rfl rfl, ?_, below_setRow HB1.out (Nat.le_refl _) _⟩
          rw [HV.out]; rfl
end Go.Proofs.YtokcbiafajpmoaaDoor
