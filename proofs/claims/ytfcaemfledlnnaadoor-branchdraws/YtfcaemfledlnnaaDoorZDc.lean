/-
  What is proved here: the program's Size of right ranges.
-/
import Derived.Test.YtfcaemfledlnnaaDoorZDb
namespace Go.Proofs.YtfcaemfledlnnaaDoor.Dm
set_option linter.unusedSimpArgs false
set_option linter.unusedVariables false
open Go.RowKit Go.Shelf

set_option maxHeartbeats 2000000 in
theorem domsize_yes (s : Value) (l : List Rg) (w : World) (h : Sr w s l) (hf : FitsR l) (hR : Right l) :
    Calls Tryd.prog 29 #[s] w fun e w' => e = .returned (.int .i64 (sizeR l)) ∧ Below w.heap.size w w' := by
  have hc := known_yes s l w h hf hR
  have hlen := hR.1
  have hok := hR.2
  obtain ⟨a, cap, rfl, hcell⟩ := h
  obtain ⟨n, hn⟩ : ∃ n, l.length = n := ⟨_, rfl⟩
  have HN : Hid (l.length = n) := hn
  have HC : Hid _ := hcell
  have HOK : Hid _ := hok
  rw [hn] at hc hlen ⊢
  clear hn hcell hR hok
  go_enter Tryd.func29, Tryd.ntmps29
  go_wp2_with (go_at_call 40; refine hc.mono ?_; rintro e w1 ⟨rfl, hb1⟩)
  go_loopw [3, 9] (fun sv i wr => ∃ (k : Nat), k ≤ n ∧ i = .int .i64 k ∧ sv = .int .i64 (sizeR (l.take k)) ∧ 0 ≤ sizeR (l.take k) ∧ sizeR (l.take k) ≤ 2000001 * k ∧ Below w.heap.size w wr) (fun _ i _ => n - (intOf i).toNat)
  case atStart => exact ⟨0, by omega, rfl, by simp [sizeR], by simp [sizeR], by simp [sizeR], hb1⟩
  case round =>
    obtain ⟨k, hk, rfl, rfl, hs0, hs1, hB⟩ := hrel
    by_cases hlt : k < n
    · have hkl : k < l.length := by rw [HN.out]; exact hlt
      obtain ⟨b, off, rfl, hb, hcells⟩ := HC.out (by omega)
      obtain ⟨c1, c2⟩ := hcells k hkl
      have d1 := (hB.cell (p := ⟨b, off + k * 2, none⟩) hb).trans c1
      have d2 := (hB.cell (p := ⟨b, off + k * 2 + 1, none⟩) hb).trans c2
      have ht := sizeR_take l k hkl
      obtain ⟨o1, o2, o3, _⟩ := HOK.out k hkl
      obtain ⟨x, hx⟩ : ∃ x, lo l k = x := ⟨_, rfl⟩
      obtain ⟨y, hy⟩ : ∃ y, hi l k = y := ⟨_, rfl⟩
      rw [hx, hy] at ht o1
      rw [hx] at o2; rw [hy] at o3
      rw [hx] at d1; rw [hy] at d2
      obtain ⟨S, hS⟩ : ∃ S, sizeR (l.take k) = S := ⟨_, rfl⟩
      rw [hS] at ht hs0 hs1 ⊢
      have hlt' : (k : Int) < (n : Int) := by omega
      have b1 : -1000000 ≤ y := by omega
      have b2 : x ≤ 1000000 := by omega
      have b3 : S ≤ 9000000000 := by omega
      have hbw : b < wr.heap.size := Nat.lt_of_lt_of_le hb hB.size
      have hb2 : Below w.heap.size w (wr.alloc (Obj.cells #[Value.int IntKind.i64 x, Value.int IntKind.i64 y] 37)) := hB.alloc hB.size _
      have HB2 : Hid (Below w.heap.size w (wr.alloc (Obj.cells #[Value.int IntKind.i64 x, Value.int IntKind.i64 y] 37))) := hb2
      have HT : Hid (sizeR (l.take (k + 1)) = S + (y - x + 1)) := ht
      clear c1 c2 hcells hx hy ht hS hb2
      go_wp2
      go_roundw
      case rel => exact ⟨k + 1, by omega, by go_num, by rw [HT.out], by rw [HT.out]; omega, by rw [HT.out]; omega, HB2.out⟩
      case measure => simp [intOf]; omega
    · have hkn : k = n := by omega
      subst hkn
      rw [List.take_of_length_le (by rw [HN.out]; exact Nat.le_refl _)] at hs0 hs1 ⊢
      go_wp2
      go_ret
      exact ⟨rfl, hB⟩
end Go.Proofs.YtfcaemfledlnnaaDoor.Dm


