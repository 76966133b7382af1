/-
  What is proved here: what the reference's one answers.
-/
import Derived.Test.YtokcbiafajpmoaaDoorTc
namespace Go.Proofs.YtokcbiafajpmoaaDoor
open Go.RowKit
set_option linter.unusedVariables false
set_option linter.unusedSimpArgs false

set_option maxRecDepth 100000 in
set_option maxHeartbeats 40000000 in
theorem one25w (l : List UInt8) (a : Nat) (c : UInt8) (hc : l[a]? = some c) (hl1 : letB c = true) (hl : l.length ≤ 65536) (W : World) :
    Calls Tryd.prog 25 #[.string (bs l), .int .i64 (a : Int)] W fun e w' => e = endR (oneR (l.drop a)) l a ∧ Below W.heap.size W w' := by
  have hal : a < l.length := (List.getElem?_eq_some_iff.1 hc).1
  have hat := fun (i : Nat) (c : UInt8) (h : l[i]? = some c) => bs_get l i c h
  have hcut := fun (b : Nat) (h1 : a ≤ b) (h2 : b ≤ l.length) X => bs_cut l a b h1 h2 X
  have hsz : (bs l).size = l.length := bs_size l
  have hga := goes_at l a c hc
  obtain ⟨n, hn⟩ : ∃ n, l.length = n := ⟨_, rfl⟩
  have HN : Hid (l.length = n) := hn
  have hc2 : c.toNat < 256 := c.toNat_lt
  rw [hn] at hsz hal hl
  simp only [hn] at hcut
  have HCUT : Hid _ := hcut
  obtain ⟨hx0, hx⟩ := hat a c hc
  obtain ⟨w1, hW1⟩ : ∃ X, W.alloc (Obj.cells #[.int .i64 0, .string ⟨#[]⟩, .int .i64 0, .int .i64 0] 23) = X := ⟨_, rfl⟩
  have hb1 : Below W.heap.size W w1 := by rw [← hW1]; exact (Below.refl _ W).alloc (Nat.le_refl _) _
  have HW1 : Hid _ := hW1
  have HB1 : Hid _ := hb1
  have HROW : Hid (Rw w1 W.heap.size 23 #[.int .i64 0, .string ⟨#[]⟩, .int .i64 0, .int .i64 0]) := by unfold Hid; rw [← hW1]; exact Rw.new _ _ _
  obtain ⟨g, hg⟩ : ∃ g, spn wrdB (l.drop a) = g := ⟨_, rfl⟩
  have HG : Hid (spn wrdB (l.drop a) = g) := hg
  have hgl : a + g ≤ n := by
    have h1 := spn_le wrdB (l.drop a)
    rw [List.length_drop, HN.out, hg] at h1
    omega
  have HV : Hid (oneR (l.drop a) = .ok 1 g 0) := by
    unfold Hid
    rw [hga]
    simp only [oneR]
    rw [if_pos hl1, ← hga, hg]
  clear hn hc hW1 hb1 hcut hga hg
  go_enter Tryd.func25, Tryd.ntmps25
  go_upto_region 1 with (fail)
  rw [HW1.out]
  clear HW1
  go_wp2_with (first | (go_at_call 22; refine (letter22 _ _).mono ?_; rw [hl1]; rintro e w' ⟨rfl, hw'⟩; have hw2 := hw'.symm; clear hw'; subst hw2))
  clear hx hx0 hl1
  go_loopw [7] (fun i wr => ∃ k : Nat, k ≤ g ∧ i = .int .i64 ((a + k : Nat) : Int) ∧ wr = w1) (fun i _ => n - (intOf i).toNat)
  case atStart => exact ⟨0, Nat.zero_le _, rfl, rfl⟩
  case round =>
    obtain ⟨k, hk, rfl, rfl⟩ := hrel
    obtain ⟨i, hi⟩ : ∃ i, a + k = i := ⟨_, rfl⟩
    rw [hi]
    have HI : Hid (a + k = i) := hi
    have hin : i ≤ n := by omega
    have hcu := fun X => HCUT.out i (by omega) hin X
    by_cases hlt : i < n
    · have hlt' : (i : Int) < (n : Int) := by omega
      obtain ⟨c, hc⟩ : ∃ c, l[i]? = some c := ⟨_, List.getElem?_eq_getElem (by rw [HN.out]; exact hlt)⟩
      obtain ⟨hx0, hx⟩ := hat i c hc
      have hsp := spn_at wrdB (l.drop a) k c (by rw [HG.out]; exact hk) (by rw [List.getElem?_drop, hi]; exact hc)
      rw [HG.out] at hsp
      have hw1 : IntKind.i64.wrap ((i : Int) + 1) = (i : Int) + 1 := by rw [IntKind.wrap_i64]; omega
      have HSP : Hid (k < g ↔ wrdB c = true) := hsp
      clear hsp hc hi hat
      by_cases hl1 : letB c = true
      · have hkg : k < g := HSP.out.2 (by simp [wrdB, hl1])
        go_wp2_with (first | (go_at_call 22; refine (letter22 _ _).mono ?_; rw [hl1]; rintro e w' ⟨rfl, rfl⟩) | (go_at_call 23; refine (digit23 _ _).mono ?_; rintro e w' ⟨rfl, rfl⟩))
        go_roundw
        case rel => exact ⟨k + 1, by omega, by have := HI.out; go_num, by first | rfl | trivial⟩
        case measure => simp [intOf]; omega
      · have hl2 : letB c = false := by simpa using hl1
        clear hl1
        have hl1 := hl2
        by_cases hd1 : digB c = true
        · have hkg : k < g := HSP.out.2 (by simp [wrdB, hd1])
          go_wp2_with (first | (go_at_call 22; refine (letter22 _ _).mono ?_; rw [hl1]; rintro e w' ⟨rfl, rfl⟩) | (go_at_call 23; refine (digit23 _ _).mono ?_; rw [hd1]; rintro e w' ⟨rfl, rfl⟩))
          go_roundw
          case rel => exact ⟨k + 1, by omega, by have := HI.out; go_num, by first | rfl | trivial⟩
          case measure => simp [intOf]; omega
        · have hd2 : digB c = false := by simpa using hd1
          have hkg : i - a = g := by
            have : ¬ k < g := fun h => by have := HSP.out.1 h; simp [wrdB, hl2, hd2] at this
            have := HI.out; omega
          rw [hkg] at hcu
          clear hkg hd1
          go_wp2_with (first | (go_at_call 22; refine (letter22 _ _).mono ?_; rw [hl1]; rintro e w' ⟨rfl, rfl⟩) | (go_at_call 23; refine (digit23 _ _).mono ?_; rw [hd2]; rintro e w' ⟨rfl, rfl⟩) | (with_reducible refine st23 rfl (.tmp 4) (.tmp 40) rfl W.heap.size _ _ _ _ (by with_unfolding_all rfl) (by with_unfolding_all rfl) HROW.out rfl ⟨rfl, rfl, rfl, rfl⟩ ?_))
          refine ⟨rfl, _, resNT rfl _ _ W.heap.size _ _ _ _ _ (HROW.out.set #[.int .i64 1, .string (bs ((l.drop a).take g)), .int .i64 0, .int .i64 (a : Int)]) rfl rfl, ?_, below_setRow HB1.out (Nat.le_refl _) _⟩
          rw [HV.out]; rfl
    · have hlt' : ¬ (i : Int) < (n : Int) := by omega
      have hkg : i - a = g := by omega
      rw [hkg] at hcu
      clear hkg hi hat
      go_wp2_with (first | (with_reducible refine st23 rfl (.tmp 4) (.tmp 40) rfl W.heap.size _ _ _ _ (by with_unfolding_all rfl) (by with_unfolding_all rfl) HROW.out rfl ⟨rfl, rfl, rfl, rfl⟩ ?_))
      refine ⟨rfl, _, resNT rfl _ _ W.heap.size _ _ _ _ _ (HROW.out.set #[.int .i64 1, .string (bs ((l.drop a).take g)), .int .i64 0, .int .i64 (a : Int)]) rfl rfl, ?_, below_setRow HB1.out (Nat.le_refl _) _⟩
      rw [HV.out]; rfl
end Go.Proofs.YtokcbiafajpmoaaDoor
