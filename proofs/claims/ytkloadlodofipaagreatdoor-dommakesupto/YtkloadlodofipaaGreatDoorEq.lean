/-
  What is proved here: slices.Equal of ranges, and dom.Same.
-/
import Derived.Test.YtkloadlodofipaaGreatDoorEf
import Derived.Test.YtkloadlodofipaaGreatDoorYm
namespace Go.Proofs.YtkloadlodofipaaGreatDoor
open Go.RowKit Go.Shelf
set_option linter.unusedVariables false

set_option maxHeartbeats 1000000 in
theorem equalR_same (s1 s2 : Value) (l : List Rg) (w : World) (h1 : Sr w s1 l) (h2 : Sr w s2 l) (hr : l.length ≤ 4096) :
    Calls Tryz.prog 70 #[s1, s2] w fun e w' => e = .returned (.bool true) ∧ ∃ nq, w' = w.drewN nq := by
  obtain ⟨a1, c1, rfl, hc1⟩ := h1
  obtain ⟨a2, c2, rfl, hc2⟩ := h2
  obtain ⟨n, hn⟩ : ∃ n, l.length = n := ⟨_, rfl⟩
  rw [hn] at hc1 hc2 hr ⊢
  clear hn
  go_enter Tryz.func70, Tryz.ntmps70
  go_wp2
  go_loopw [13] (fun i wr => ∃ k : Nat, k ≤ n ∧ i = .int .i64 (k : Int) ∧ ∃ nq, wr = w.drewN nq) (fun i _ => n - (intOf i).toNat)
  case atStart => exact ⟨0, Nat.zero_le _, rfl, 0, rfl⟩
  case round =>
    obtain ⟨k, hk, rfl, nq0, rfl⟩ := hrel
    by_cases hlt : k < n
    · obtain ⟨b1, o1, rfl, _, hcell1⟩ := hc1 (by omega)
      obtain ⟨b2, o2, rfl, _, hcell2⟩ := hc2 (by omega)
      obtain ⟨x1, y1⟩ := hcell1 k hlt
      obtain ⟨x2, y2⟩ := hcell2 k hlt
      have kk : (k : Int) < (n : Int) := by omega
      clear hcell1 hcell2 hc1 hc2
      generalize lo l k = x at *
      generalize hi l k = y at *
      go_wp2
      go_quiet (fail)
      go_wp2
      go_roundw
      case rel => exact ⟨k + 1, by omega, by go_num, _, rfl⟩
      case measure => simp [intOf]; omega
    · go_wp2
      go_ret
      exact ⟨rfl, _, rfl⟩

set_option maxHeartbeats 1000000 in
/-- Same, of the same ranges as they are taken. -/
theorem domsame_same (s1 s2 : Value) (la lb : List Rg) (w : World) (h1 : Sr w s1 la) (h2 : Sr w s2 lb) (hf1 : FitsR la) (hf2 : FitsR lb) (he : tk la = tk lb) :
    Calls Tryz.prog 47 #[s1, s2] w fun e w' => e = .returned (.bool true) ∧ Below w.heap.size w w' := by
  have hk1 := known_tk s1 la w h1 hf1
  have hk2 := fun W (hW : Below w.heap.size w W) => known_tk s2 lb W (h2.below hW) hf2
  have hRa := tk_right la
  obtain ⟨a1, c1, rfl, _⟩ := h1
  obtain ⟨a2, c2, rfl, _⟩ := h2
  have HRa : Hid (Right (tk la)) := hRa
  have HE : Hid (tk la = tk lb) := he
  clear hRa hf1 hf2 he
  go_enter Tryz.func47, Tryz.ntmps47
  go_wp2_with fail
  refine hk1.mono ?_
  clear hk1
  rintro e w1 ⟨a, n, c, rfl, hS1, hn1, hb1⟩
  have HS1 : Hid (Sr w (.slice a n c) (tk la)) := hS1
  clear hS1 hn1
  go_wp2_with fail
  refine (hk2 _ hb1).mono ?_
  clear hk2
  rintro e w2 ⟨a', n', c', rfl, hS2, hn2, hb2⟩
  have hb12 : Below w.heap.size w w2 := hb1.trans (hb2.mono hb1.size)
  have HS2 : Hid (Sr w2 (.slice a' n' c') (tk la)) := by unfold Hid; rw [HE.out]; exact hS2.below hb2
  clear hS2 hn2 hb2
  go_wp2_with fail
  refine (equalR_same _ _ (tk la) _ (HS1.out.below hb12) HS2.out HRa.out.1).mono ?_
  rintro e w3 ⟨rfl, nq, rfl⟩
  go_wp2
  go_ret
  exact ⟨rfl, below_drewN hb12 _⟩
end Go.Proofs.YtkloadlodofipaaGreatDoor
