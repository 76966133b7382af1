/-
  What is proved here: the reference's Has of any ranges.
  What is proved here: Size of any ranges, the reference's and the program's.
  What is proved here: the program's Size of right ranges.
-/
import Derived.Test.YtaeobgajhieajaaGreatDoorZXfj
import Derived.Test.YtaeobgajhieajaaGreatDoorZMathj
namespace Go.Proofs.YtaeobgajhieajaaGreatDoor.Dm
open Go.RowKit Go.Shelf

/-- Is v in one of the ranges? -/
def hasR (l : List Rg) (v : Int) : Bool := l.any fun r => decide (r.1 ≤ v ∧ v ≤ r.2)
theorem hasR_take (l : List Rg) (v : Int) (k : Nat) (hk : k < l.length) : hasR (l.take (k + 1)) v = (hasR (l.take k) v || decide (lo l k ≤ v ∧ v ≤ hi l k)) := by
  unfold hasR
  rw [List.take_add_one, List.getElem?_eq_getElem hk, List.any_append, lo_get l k hk, hi_get l k hk]
  simp
theorem hasR_of (l : List Rg) (v : Int) (k : Nat) (hk : k < l.length) (h : lo l k ≤ v ∧ v ≤ hi l k) : hasR l v = true := by
  unfold hasR
  rw [List.any_eq_true]
  refine ⟨l[k], List.getElem_mem hk, ?_⟩
  rw [lo_get l k hk, hi_get l k hk] at h
  simpa using h

end Go.Proofs.YtaeobgajhieajaaGreatDoor.Dm


namespace Go.Proofs.YtaeobgajhieajaaGreatDoor.Dm
open Go.RowKit Go.Shelf

/-- How many values the ranges have. -/
def sizeR (l : List Rg) : Int := (l.map fun r => r.2 - r.1 + 1).sum
theorem sizeR_take (l : List Rg) (k : Nat) (hk : k < l.length) : sizeR (l.take (k + 1)) = sizeR (l.take k) + (hi l k - lo l k + 1) := by
  unfold sizeR
  rw [List.take_add_one, List.getElem?_eq_getElem hk, List.map_append, List.sum_append, lo_get l k hk, hi_get l k hk]
  simp

end Go.Proofs.YtaeobgajhieajaaGreatDoor.Dm


namespace Go.Proofs.YtaeobgajhieajaaGreatDoor.Dm
open Go.RowKit Go.Shelf

set_option maxHeartbeats 2000000 in
theorem domsize_yes (s : Value) (l : List Rg) (w : World) (h : Sr w s l) (hf : FitsR l) (hR : Right l) :
    Calls Tryz.prog 124 #[s] w fun e w' => e = .returned (.int .i64 (sizeR l)) ∧ Below w.heap.size w w' := by
  have hc := known_yes s l w h hf hR
  have hlen := hR.1
  have hok := hR.2
  obtain ⟨a, cap, rfl, hcell⟩ := h
  obtain ⟨n, hn⟩ : ∃ n, l.length = n := ⟨_, rfl⟩
  have HN : Hid (l.length = n) := hn
  have HC : Hid _ := hcell
  have HOK : Hid _ := hok
  rw [hn] at hc hlen ⊢
  clear hn hcell hR hok
  go_enter Tryz.func124, Tryz.ntmps124
  go_wp2_with (go_at_call 137; refine hc.mono ?_; rintro e w1 ⟨rfl, hb1⟩)
  go_loopw [3, 9] (fun sv i wr => ∃ (k : Nat), k ≤ n ∧ i = .int .i64 k ∧ sv = .int .i64 (sizeR (l.take k)) ∧ 0 ≤ sizeR (l.take k) ∧ sizeR (l.take k) ≤ 2000001 * k ∧ Below w.heap.size w wr) (fun _ i _ => n - (intOf i).toNat)
  case atStart => exact ⟨0, by omega, rfl, by simp [sizeR], by simp [sizeR], by simp [sizeR], hb1⟩
  case round =>
    obtain ⟨k, hk, rfl, rfl, hs0, hs1, hB⟩ := hrel
    by_cases hlt : k < n
    · have hkl : k < l.length := by rw [HN.out]; exact hlt
      obtain ⟨b, off, rfl, hb, hcells⟩ := HC.out (by omega)
      obtain ⟨c1, c2⟩ := hcells k hkl
      have d1 := (hB.cell (p := ⟨b, off + k * 2, none⟩) hb).trans c1
      have d2 := (hB.cell (p := ⟨b, off + k * 2 + 1, none⟩) hb).trans c2
      have ht := sizeR_take l k hkl
      obtain ⟨o1, o2, o3, _⟩ := HOK.out k hkl
      obtain ⟨x, hx⟩ : ∃ x, lo l k = x := ⟨_, rfl⟩
      obtain ⟨y, hy⟩ : ∃ y, hi l k = y := ⟨_, rfl⟩
      rw [hx, hy] at ht o1
      rw [hx] at o2; rw [hy] at o3
      rw [hx] at d1; rw [hy] at d2
      obtain ⟨S, hS⟩ : ∃ S, sizeR (l.take k) = S := ⟨_, rfl⟩
      rw [hS] at ht hs0 hs1 ⊢
      have hlt' : (k : Int) < (n : Int) := by omega
      have b1 : -1000000 ≤ y := by omega
      have b2 : x ≤ 1000000 := by omega
      have b3 : S ≤ 9000000000 := by omega
      have hbw : b < wr.heap.size := Nat.lt_of_lt_of_le hb hB.size
      have hb2 : Below w.heap.size w (wr.alloc (Obj.cells #[Value.int IntKind.i64 x, Value.int IntKind.i64 y] 161)) := hB.alloc hB.size _
      have HB2 : Hid (Below w.heap.size w (wr.alloc (Obj.cells #[Value.int IntKind.i64 x, Value.int IntKind.i64 y] 161))) := hb2
      have HT : Hid (sizeR (l.take (k + 1)) = S + (y - x + 1)) := ht
      clear c1 c2 hcells hx hy ht hS hb2
      go_wp2
      go_roundw
      case rel => exact ⟨k + 1, by omega, by go_num, by rw [HT.out], by rw [HT.out]; omega, by rw [HT.out]; omega, HB2.out⟩
      case measure => simp [intOf]; omega
    · have hkn : k = n := by omega
      subst hkn
      rw [List.take_of_length_le (by rw [HN.out]; exact Nat.le_refl _)] at hs0 hs1 ⊢
      go_wp2
      go_ret
      exact ⟨rfl, hB⟩
end Go.Proofs.YtaeobgajhieajaaGreatDoor.Dm

