/-
  What is proved here: Size of any ranges, the reference's and the program's.
-/
import Derived.Test.YtkloadlodofipaaGreatDoorDa
namespace Go.Proofs.YtkloadlodofipaaGreatDoor
open Go.RowKit Go.Shelf

/-- How many values the ranges have. -/
def sizeR (l : List Rg) : Int := (l.map fun r => r.2 - r.1 + 1).sum
theorem sizeR_take (l : List Rg) (k : Nat) (hk : k < l.length) : sizeR (l.take (k + 1)) = sizeR (l.take k) + (hi l k - lo l k + 1) := by
  unfold sizeR
  rw [List.take_add_one, List.getElem?_eq_getElem hk, List.map_append, List.sum_append, lo_get l k hk, hi_get l k hk]
  simp

set_option maxHeartbeats 2000000 in
theorem refsize_yes (s : Value) (l : List Rg) (w : World) (h : Sr w s l) (hR : Right l) :
    Calls Tryz.prog 32 #[s] w fun e w' => e = .returned (.int .i64 (sizeR l)) ∧ ∃ n, w' = w.drewN n := by
  have hc := taken_yes s l w h hR
  have hlen := hR.1
  have hok := hR.2
  obtain ⟨a, cap, rfl, hcell⟩ := h
  obtain ⟨n, hn⟩ : ∃ n, l.length = n := ⟨_, rfl⟩
  have HN : Hid (l.length = n) := hn
  have HC : Hid _ := hcell
  have HOK : Hid _ := hok
  rw [hn] at hc hlen ⊢
  clear hn hcell hR hok
  go_enter Tryz.func32, Tryz.ntmps32
  go_wp2_with (go_at_call 63; refine hc.mono ?_; rintro e w1 ⟨rfl, n1, rfl⟩)
  go_loopw [3, 4] (fun sv i wr => ∃ (k m : Nat), k ≤ n ∧ i = .int .i64 k ∧ sv = .int .i64 (sizeR (l.take k)) ∧ 0 ≤ sizeR (l.take k) ∧ sizeR (l.take k) ≤ 2000001 * k ∧ wr = w.drewN m) (fun _ i _ => n - (intOf i).toNat)
  case atStart => exact ⟨0, n1, by omega, rfl, by simp [sizeR], by simp [sizeR], by simp [sizeR], rfl⟩
  case round =>
    obtain ⟨k, m, hk, rfl, rfl, hs0, hs1, rfl⟩ := hrel
    by_cases hlt : k < n
    · have hkl : k < l.length := by rw [HN.out]; exact hlt
      obtain ⟨b, off, rfl, hb, hcells⟩ := HC.out (by omega)
      obtain ⟨c1, c2⟩ := hcells k hkl
      have d1 : (w.drewN m).cell? ⟨b, off + k * 2, none⟩ = _ := c1
      have d2 : (w.drewN m).cell? ⟨b, off + k * 2 + 1, none⟩ = _ := c2
      have ht := sizeR_take l k hkl
      obtain ⟨o1, o2, o3, _⟩ := HOK.out k hkl
      obtain ⟨x, hx⟩ : ∃ x, lo l k = x := ⟨_, rfl⟩
      obtain ⟨y, hy⟩ : ∃ y, hi l k = y := ⟨_, rfl⟩
      rw [hx, hy] at ht o1
      rw [hx] at o2; rw [hy] at o3
      rw [hx] at d1 c1; rw [hy] at d2 c2
      obtain ⟨S, hS⟩ : ∃ S, sizeR (l.take k) = S := ⟨_, rfl⟩
      rw [hS] at ht hs0 hs1 ⊢
      have hlt' : (k : Int) < (n : Int) := by omega
      have HT : Hid (sizeR (l.take (k + 1)) = S + (y - x + 1)) := ht
      have b1 : -1000000 ≤ y := by omega
      have b2 : x ≤ 1000000 := by omega
      have b3 : S ≤ 9000000000 := by omega
      clear hcells hx hy ht hS
      go_wp2
      go_quiet (fail)
      go_wp2
      go_roundw
      case rel => exact ⟨k + 1, m + nq, by omega, by go_num, by rw [HT.out]; go_num, by rw [HT.out]; omega, by rw [HT.out]; omega, rfl⟩
      case measure => simp [intOf]; omega
    · have hkn : k = n := by omega
      subst hkn
      rw [List.take_of_length_le (by rw [HN.out]; exact Nat.le_refl _)] at hs0 hs1 ⊢
      go_wp2
      go_ret
      exact ⟨rfl, _, rfl⟩
end Go.Proofs.YtkloadlodofipaaGreatDoor
