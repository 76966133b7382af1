/-
  What is proved here: what the reference's one answers.
-/
import Derived.Test.YtokcbiafajpmoaaDoorTc
namespace Go.Proofs.YtokcbiafajpmoaaDoor
open Go.RowKit
set_option linter.unusedVariables false
set_option linter.unusedSimpArgs false

set_option maxRecDepth 100000 in
set_option maxHeartbeats 40000000 in
theorem one25q (l : List UInt8) (a : Nat) (c : UInt8) (hc : l[a]? = some c) (h34 : c = 34) (hl : l.length ≤ 65536) (W : World) :
    Calls Tryd.prog 25 #[.string (bs l), .int .i64 (a : Int)] W fun e w' => e = endR (oneR (l.drop a)) l a ∧ Below W.heap.size W w' := by
  have hal : a < l.length := (List.getElem?_eq_some_iff.1 hc).1
  have hat := fun (i : Nat) (c : UInt8) (h : l[i]? = some c) => bs_get l i c h
  have hcut := fun (b : Nat) (h1 : a ≤ b) (h2 : b ≤ l.length) X => bs_cut l a b h1 h2 X
  have hsz : (bs l).size = l.length := bs_size l
  have hga := goes_at l a c hc
  obtain ⟨n, hn⟩ : ∃ n, l.length = n := ⟨_, rfl⟩
  have HN : Hid (l.length = n) := hn
  have hc2 : c.toNat < 256 := c.toNat_lt
  rw [hn] at hsz hal hl
  simp only [hn] at hcut
  have HCUT : Hid _ := hcut
  obtain ⟨hx0, hx⟩ := hat a c hc
  obtain ⟨w1, hW1⟩ : ∃ X, W.alloc (Obj.cells #[.int .i64 0, .string ⟨#[]⟩, .int .i64 0, .int .i64 0] 23) = X := ⟨_, rfl⟩
  have hb1 : Below W.heap.size W w1 := by rw [← hW1]; exact (Below.refl _ W).alloc (Nat.le_refl _) _
  have HW1 : Hid _ := hW1
  have HB1 : Hid _ := hb1
  have HROW : Hid (Rw w1 W.heap.size 23 #[.int .i64 0, .string ⟨#[]⟩, .int .i64 0, .int .i64 0]) := by unfold Hid; rw [← hW1]; exact Rw.new _ _ _
  subst h34
  have hl1 : letB 34 = false := by decide
  have hd : digB 34 = false := by decide
  obtain ⟨a1, ha1⟩ : ∃ a1, a + 1 = a1 := ⟨_, rfl⟩
  have hw0 : IntKind.i64.wrap ((a : Int) + 1) = (a1 : Int) := by rw [IntKind.wrap_i64]; omega
  obtain ⟨g, hg⟩ : ∃ g, spn inqB (l.drop a1) = g := ⟨_, rfl⟩
  have HG : Hid (spn inqB (l.drop a1) = g) := hg
  have hgl : a1 + g ≤ n := by
    have h1 := spn_le inqB (l.drop a1)
    rw [List.length_drop, HN.out, hg] at h1
    omega
  have HV : Hid (oneR (l.drop a) = if l[a1 + g]? = some 34 then .ok 3 (g + 2) 0 else .bad 150) := by
    unfold Hid
    rw [hga]
    simp only [oneR]
    rw [hl1, if_neg (by simp), if_neg (by simp [hd]), if_pos (by rfl)]
    unfold strR
    simp only [List.drop_succ_cons, List.drop_zero, ha1, hg]
    rw [List.head?_drop, List.getElem?_drop]
  have HA : Hid (a + 1 = a1) := ha1
  clear hn hc hW1 hb1 hcut hga hg ha1
  go_enter Tryd.func25, Tryd.ntmps25
  go_upto_region 1 with (fail)
  rw [HW1.out]
  clear HW1
  go_wp2_with (first | (go_at_call 22; refine (letter22 34 _).mono ?_; rw [hl1]; rintro e w' ⟨rfl, hw'⟩; have hw2 := hw'.symm; clear hw'; subst hw2) | (go_at_call 23; refine (digit23 34 _).mono ?_; rw [hd]; rintro e w' ⟨rfl, hw'⟩; have hw2 := hw'.symm; clear hw'; subst hw2))
  clear hx hx0 hl1 hd
  go_loopw [7] (fun i wr => ∃ k : Nat, k ≤ g ∧ i = .int .i64 ((a1 + k : Nat) : Int) ∧ wr = w1) (fun i _ => n - (intOf i).toNat)
  case atStart => exact ⟨0, Nat.zero_le _, rfl, rfl⟩
  case round =>
    obtain ⟨k, hk, rfl, rfl⟩ := hrel
    obtain ⟨i, hi⟩ : ∃ i, a1 + k = i := ⟨_, rfl⟩
    rw [hi]
    have HI : Hid (a1 + k = i) := hi
    by_cases hlt : i < n
    · have hlt' : (i : Int) < (n : Int) := by omega
      have hne : ((i : Int) == (n : Int)) = false := by simp; omega
      obtain ⟨c, hc⟩ : ∃ c, l[i]? = some c := ⟨_, List.getElem?_eq_getElem (by rw [HN.out]; exact hlt)⟩
      obtain ⟨hx0, hx⟩ := hat i c hc
      have hsp := spn_at inqB (l.drop a1) k c (by rw [HG.out]; exact hk) (by rw [List.getElem?_drop, hi]; exact hc)
      rw [HG.out] at hsp
      have hw1 : IntKind.i64.wrap ((i : Int) + 1) = (i : Int) + 1 := by rw [IntKind.wrap_i64]; omega
      obtain ⟨i1, hi1⟩ : ∃ i1, i + 1 = i1 := ⟨_, rfl⟩
      have hw2 : IntKind.i64.wrap ((i : Int) + 1) = (i1 : Int) := by rw [hw1]; omega
      have HSP : Hid (k < g ↔ inqB c = true) := hsp
      have hcu := fun X => HCUT.out i1 (by have := HA.out; omega) (by omega) X
      have HC : Hid (l[i]? = some c) := hc
      have hc3 : c.toNat < 256 := c.toNat_lt
      have HI1 : Hid (i + 1 = i1) := hi1
      clear hsp hc hi hat hi1
      by_cases h34 : c = 34
      · subst h34
        have hkg : k = g := by
          have : ¬ k < g := fun h => by have := HSP.out.1 h; simp [inqB] at this
          omega
        have HV2 : Hid (oneR (l.drop a) = .ok 3 (g + 2) 0) := by
          unfold Hid; rw [HV.out, ← hkg, HI.out, HC.out]; rfl
        have hgg : i1 - a = g + 2 := by have := HI.out; have := HI1.out; have := HA.out; omega
        rw [hgg] at hcu
        clear hkg hgg hw1 HV
        have HV := HV2
        go_wp2_with (first | (with_reducible refine st23 rfl (.tmp 4) (.tmp 93) rfl W.heap.size _ _ _ _ (by with_unfolding_all rfl) (by with_unfolding_all rfl) HROW.out rfl ⟨rfl, rfl, rfl, rfl⟩ ?_))
        refine ⟨rfl, _, resNT rfl _ _ W.heap.size _ _ _ _ _ (HROW.out.set #[.int .i64 3, .string (bs ((l.drop a).take (g + 2))), .int .i64 0, .int .i64 (a : Int)]) rfl rfl, ?_, below_setRow HB1.out (Nat.le_refl _) _⟩
        rw [HV.out]; rfl
      · have q1 : ¬ c.toNat = 34 := fun h => h34 (UInt8.toNat_inj.1 h)
        have e1 : ((c.toNat : Int) != 34) = true := by simp; omega
        have e2 : ((c.toNat : Int) == 34) = false := by simp; omega
        by_cases h10 : c = 10
        · subst h10
          have hkg : k = g := by
            have : ¬ k < g := fun h => by have := HSP.out.1 h; simp [inqB] at this
            omega
          have HV2 : Hid (oneR (l.drop a) = .bad 150) := by
            unfold Hid; rw [HV.out, ← hkg, HI.out, HC.out]; rfl
          clear hkg hw1 hw2 HV h34 q1 e1 e2 hcu
          have HV := HV2
          go_wp2_with (first | (with_reducible refine st23 rfl (.tmp 4) (.tmp 86) rfl W.heap.size _ _ _ _ (by with_unfolding_all rfl) (by with_unfolding_all rfl) HROW.out rfl ⟨rfl, rfl, rfl, rfl⟩ ?_))
          refine ⟨rfl, _, resNT rfl _ _ W.heap.size _ _ _ _ _ (HROW.out.set #[.int .i64 0, .string ⟨#[]⟩, .int .i64 0, .int .i64 0]) rfl rfl, ?_, below_setRow HB1.out (Nat.le_refl _) _⟩
          rw [HV.out]; rfl
        · have q2 : ¬ c.toNat = 10 := fun h => h10 (UInt8.toNat_inj.1 h)
          have e3 : ((c.toNat : Int) != 10) = true := by simp; omega
          have e4 : ((c.toNat : Int) == 10) = false := by simp; omega
          have hkg : k < g := HSP.out.2 (by simp [inqB, q1, q2])
          clear hw2 h34 h10 q1 q2 hcu
          go_wp2
          go_roundw
          case rel => exact ⟨k + 1, by omega, by have := HI.out; go_num, by first | rfl | trivial⟩
          case measure => simp [intOf]; omega
    · have hlt' : ¬ (i : Int) < (n : Int) := by omega
      obtain rfl : i = n := by omega
      have HV2 : Hid (oneR (l.drop a) = .bad 150) := by
        unfold Hid; rw [HV.out, show a1 + g = i by omega, List.getElem?_eq_none (by rw [HN.out]; exact Nat.le_refl _)]; rfl
      clear HV hi hat
      have HV := HV2
      go_wp2_with (first | (with_reducible refine st23 rfl (.tmp 4) (.tmp 86) rfl W.heap.size _ _ _ _ (by with_unfolding_all rfl) (by with_unfolding_all rfl) HROW.out rfl ⟨rfl, rfl, rfl, rfl⟩ ?_))
      refine ⟨rfl, _, resNT rfl _ _ W.heap.size _ _ _ _ _ (HROW.out.set #[.int .i64 0, .string ⟨#[]⟩, .int .i64 0, .int .i64 0]) rfl rfl, ?_, below_setRow HB1.out (Nat.le_refl _) _⟩
      rw [HV.out]; rfl
end Go.Proofs.YtokcbiafajpmoaaDoor
