/-
  What is proved here: what Cut of the reference returns of right ranges.
-/
import Derived.Test.YtkloadlodofipaaGreatDoorVb
namespace Go.Proofs.YtkloadlodofipaaGreatDoor
open Go.RowKit Go.Shelf
set_option linter.unusedVariables false

theorem cutL_take (l : List Rg) (a b : Int) (k : Nat) (hk : k < l.length) : cutL (l.take (k + 1)) a b = cutL (l.take k) a b ++ (cut1 a b (lo l k, hi l k)).toList := by
  unfold cutL
  rw [List.take_add_one, List.getElem?_eq_getElem hk, List.filterMap_append, lo_get l k hk, hi_get l k hk]
  cases h : cut1 a b l[k] <;> simp [h]
theorem cutL_len (l : List Rg) (a b : Int) (k : Nat) : (cutL (l.take k) a b).length ≤ k := by
  unfold cutL
  have h1 := List.length_filterMap_le (cut1 a b) (l.take k)
  have h2 := List.length_take_le k l
  omega

set_option maxRecDepth 100000 in
set_option maxHeartbeats 4000000 in
theorem refcut_any (s : Value) (l : List Rg) (a b : Int) (W : World) (h : Sr W s l) (hR : Right l) :
    Calls Tryz.prog 44 #[s, .int .i64 a, .int .i64 b] W fun e w' => ∃ s', e = .returned s' ∧ w'.ownsRow W.heap.size 55 2 s' (cutL l a b).length (flat (cutL l a b)) ∧ (s' = .slice none 0 0 ↔ cutL l a b = []) ∧ Below W.heap.size W w' := by
  obtain ⟨i0, hi0, hz0, hz1, hz2⟩ := info_parts Tryz.info55
  have kt := taken_yes s l W h hR
  have hlen := hR.1
  obtain ⟨sa, cap, rfl, hcell⟩ := h
  obtain ⟨n, hn⟩ : ∃ n, l.length = n := ⟨_, rfl⟩
  have HN : Hid (l.length = n) := hn
  have HC : Hid _ := hcell
  rw [hn] at hlen kt ⊢
  clear hn hcell hR
  go_enter Tryz.func44, Tryz.ntmps44
  go_wp2_with fail
  refine kt.mono ?_
  rintro e w0 ⟨rfl, m0, rfl⟩
  have hB0 : Below W.heap.size W (W.drewN m0) := below_drewN (Below.refl _ _) m0
  clear kt
  go_wp2
  go_loopw [7, 8, 9] (fun o i _ wr => ∃ (k : Nat), k ≤ n ∧ i = .int .i64 k ∧ wr.ownsRow W.heap.size 55 2 o (cutL (l.take k) a b).length (flat (cutL (l.take k) a b)) ∧ (o = .slice none 0 0 ↔ cutL (l.take k) a b = []) ∧ Below W.heap.size W wr) (fun _ i _ _ => n - (intOf i).toNat)
  case atStart => exact ⟨0, Nat.zero_le _, rfl, World.ownsRow_nil _ _ _ _, by simp [cutL], hB0⟩
  case round =>
    clear hB0
    obtain ⟨k, hk, rfl, hrow, hnil, hB⟩ := hrel
    have hsz := hB.size
    by_cases hlt : k < n
    · have hkl : k < l.length := by rw [HN.out]; exact hlt
      obtain ⟨sb, off, rfl, hb, hcells⟩ := HC.out (by omega)
      obtain ⟨c1, c2⟩ := hcells k hkl
      have d1 := (hB.cell (p := ⟨sb, off + k * 2, none⟩) hb).trans c1
      have d2 := (hB.cell (p := ⟨sb, off + k * 2 + 1, none⟩) hb).trans c2
      have htk := cutL_take l a b k hkl
      have hcl := cutL_len l a b k
      obtain ⟨x, hx⟩ : ∃ x, lo l k = x := ⟨_, rfl⟩
      obtain ⟨y, hy⟩ : ∃ y, hi l k = y := ⟨_, rfl⟩
      rw [hx] at d1 htk
      rw [hy] at d2 htk
      obtain ⟨os, hos⟩ : ∃ os, cutL (l.take k) a b = os := ⟨_, rfl⟩
      rw [hos] at hrow hnil htk hcl
      obtain ⟨m, hm⟩ : ∃ m, os.length = m := ⟨_, rfl⟩
      have HM : Hid (os.length = m) := hm
      rw [hm] at hrow hcl
      have hlt' : (k : Int) < (n : Int) := by omega
      clear hcells c1 c2 hx hy hos hm hkl
      unfold cut1 at htk
      simp only at htk
      by_cases h1 : x < a
      · have e1 : decide (x < a) = true := by simpa using h1
        simp only [if_pos h1] at htk
        by_cases h2 : b < y
        · have e2 : decide (b < y) = true := by simpa using h2
          simp only [if_pos h2] at htk
          by_cases h3 : a ≤ b
          · have e3 : decide (a ≤ b) = true := by simpa using h3
            rw [if_pos h3] at htk
            simp only [Option.toList_some] at htk
            have hX : Below wr.heap.size wr (wr.alloc (Obj.cells #[.int .i64 a, .int .i64 b] 55)) := (Below.refl wr.heap.size wr).alloc (Nat.le_refl _) (Obj.cells #[.int .i64 a, .int .i64 b] 55)
            have hBX : Below W.heap.size W (wr.alloc (Obj.cells #[.int .i64 a, .int .i64 b] 55)) := hB.trans (hX.mono hsz)
            have hrX := own_keepB hrow hX
            have HTK : Hid (cutL (l.take (k + 1)) a b = os ++ [(a, b)]) := htk
            clear htk
            go_wp2_with (at_builtin; refine wpList_append_own _ rfl _ _ 23 rfl W.heap.size 55 i0 (.agg #[.int .i64 0, .int .i64 0]) 2 16 Tryz.underlying23 hi0 hz0 hz1 hz2 rfl (by decide) _ _ _ rfl (World.ownsRow.alloc hrX _) ⟨wr.heap.size + 1, 0, none⟩ 1 1 [.int .i64 a, .int .i64 b] rfl rfl (by have h9 := cell_two_new (wr.alloc (Obj.cells #[.int .i64 a, .int .i64 b] 55)) (.int .i64 a) (.int .i64 b) 55; rw [World.size_alloc] at h9; exact h9) (by simp [Value.oneCell']) (by unfold maxLen; omega) (by omega) (by have := hBX.size; simp at this ⊢; omega) ?_; intro v' w1 hown' hgrow hnl; have hB1 : Below W.heap.size W w1 := (hBX.alloc hBX.size _).grown hgrow (by have := hBX.size; simp at this ⊢; omega) (fun j e => (World.ownsRow.lt hrX j e).1); clear hgrow)
            go_roundw
            case rel =>
              refine ⟨k + 1, by omega, by go_num, ?_, by rw [HTK.out]; simp [hnl], hB1⟩
              rw [HTK.out, List.length_append, flat_two, HM.out]
              exact hown'
            case measure => simp [intOf]; omega
          · have e3 : decide (a ≤ b) = false := by simpa using h3
            rw [if_neg h3] at htk
            have hX : Below wr.heap.size wr (wr.alloc (Obj.cells #[.int .i64 a, .int .i64 b] 55)) := (Below.refl wr.heap.size wr).alloc (Nat.le_refl _) (Obj.cells #[.int .i64 a, .int .i64 b] 55)
            have hBX : Below W.heap.size W (wr.alloc (Obj.cells #[.int .i64 a, .int .i64 b] 55)) := hB.trans (hX.mono hsz)
            have hrX := own_keepB hrow hX
            have HTK : Hid (cutL (l.take (k + 1)) a b = os) := by unfold Hid; rw [htk]; simp
            clear htk
            go_wp2
            go_roundw
            case rel => exact ⟨k + 1, by omega, by go_num, by rw [HTK.out, HM.out]; exact hrX, by rw [HTK.out]; exact hnil, hBX⟩
            case measure => simp [intOf]; omega
        · have e2 : decide (b < y) = false := by simpa using h2
          simp only [if_neg h2] at htk
          by_cases h3 : a ≤ y
          · have e3 : decide (a ≤ y) = true := by simpa using h3
            rw [if_pos h3] at htk
            simp only [Option.toList_some] at htk
            have hX : Below wr.heap.size wr (wr.alloc (Obj.cells #[.int .i64 a, .int .i64 y] 55)) := (Below.refl wr.heap.size wr).alloc (Nat.le_refl _) (Obj.cells #[.int .i64 a, .int .i64 y] 55)
            have hBX : Below W.heap.size W (wr.alloc (Obj.cells #[.int .i64 a, .int .i64 y] 55)) := hB.trans (hX.mono hsz)
            have hrX := own_keepB hrow hX
            have HTK : Hid (cutL (l.take (k + 1)) a b = os ++ [(a, y)]) := htk
            clear htk
            go_wp2_with (at_builtin; refine wpList_append_own _ rfl _ _ 23 rfl W.heap.size 55 i0 (.agg #[.int .i64 0, .int .i64 0]) 2 16 Tryz.underlying23 hi0 hz0 hz1 hz2 rfl (by decide) _ _ _ rfl (World.ownsRow.alloc hrX _) ⟨wr.heap.size + 1, 0, none⟩ 1 1 [.int .i64 a, .int .i64 y] rfl rfl (by have h9 := cell_two_new (wr.alloc (Obj.cells #[.int .i64 a, .int .i64 y] 55)) (.int .i64 a) (.int .i64 y) 55; rw [World.size_alloc] at h9; exact h9) (by simp [Value.oneCell']) (by unfold maxLen; omega) (by omega) (by have := hBX.size; simp at this ⊢; omega) ?_; intro v' w1 hown' hgrow hnl; have hB1 : Below W.heap.size W w1 := (hBX.alloc hBX.size _).grown hgrow (by have := hBX.size; simp at this ⊢; omega) (fun j e => (World.ownsRow.lt hrX j e).1); clear hgrow)
            go_roundw
            case rel =>
              refine ⟨k + 1, by omega, by go_num, ?_, by rw [HTK.out]; simp [hnl], hB1⟩
              rw [HTK.out, List.length_append, flat_two, HM.out]
              exact hown'
            case measure => simp [intOf]; omega
          · have e3 : decide (a ≤ y) = false := by simpa using h3
            rw [if_neg h3] at htk
            have hX : Below wr.heap.size wr (wr.alloc (Obj.cells #[.int .i64 a, .int .i64 y] 55)) := (Below.refl wr.heap.size wr).alloc (Nat.le_refl _) (Obj.cells #[.int .i64 a, .int .i64 y] 55)
            have hBX : Below W.heap.size W (wr.alloc (Obj.cells #[.int .i64 a, .int .i64 y] 55)) := hB.trans (hX.mono hsz)
            have hrX := own_keepB hrow hX
            have HTK : Hid (cutL (l.take (k + 1)) a b = os) := by unfold Hid; rw [htk]; simp
            clear htk
            go_wp2
            go_roundw
            case rel => exact ⟨k + 1, by omega, by go_num, by rw [HTK.out, HM.out]; exact hrX, by rw [HTK.out]; exact hnil, hBX⟩
            case measure => simp [intOf]; omega
      · have e1 : decide (x < a) = false := by simpa using h1
        simp only [if_neg h1] at htk
        by_cases h2 : b < y
        · have e2 : decide (b < y) = true := by simpa using h2
          simp only [if_pos h2] at htk
          by_cases h3 : x ≤ b
          · have e3 : decide (x ≤ b) = true := by simpa using h3
            rw [if_pos h3] at htk
            simp only [Option.toList_some] at htk
            have hX : Below wr.heap.size wr (wr.alloc (Obj.cells #[.int .i64 x, .int .i64 b] 55)) := (Below.refl wr.heap.size wr).alloc (Nat.le_refl _) (Obj.cells #[.int .i64 x, .int .i64 b] 55)
            have hBX : Below W.heap.size W (wr.alloc (Obj.cells #[.int .i64 x, .int .i64 b] 55)) := hB.trans (hX.mono hsz)
            have hrX := own_keepB hrow hX
            have HTK : Hid (cutL (l.take (k + 1)) a b = os ++ [(x, b)]) := htk
            clear htk
            go_wp2_with (at_builtin; refine wpList_append_own _ rfl _ _ 23 rfl W.heap.size 55 i0 (.agg #[.int .i64 0, .int .i64 0]) 2 16 Tryz.underlying23 hi0 hz0 hz1 hz2 rfl (by decide) _ _ _ rfl (World.ownsRow.alloc hrX _) ⟨wr.heap.size + 1, 0, none⟩ 1 1 [.int .i64 x, .int .i64 b] rfl rfl (by have h9 := cell_two_new (wr.alloc (Obj.cells #[.int .i64 x, .int .i64 b] 55)) (.int .i64 x) (.int .i64 b) 55; rw [World.size_alloc] at h9; exact h9) (by simp [Value.oneCell']) (by unfold maxLen; omega) (by omega) (by have := hBX.size; simp at this ⊢; omega) ?_; intro v' w1 hown' hgrow hnl; have hB1 : Below W.heap.size W w1 := (hBX.alloc hBX.size _).grown hgrow (by have := hBX.size; simp at this ⊢; omega) (fun j e => (World.ownsRow.lt hrX j e).1); clear hgrow)
            go_roundw
            case rel =>
              refine ⟨k + 1, by omega, by go_num, ?_, by rw [HTK.out]; simp [hnl], hB1⟩
              rw [HTK.out, List.length_append, flat_two, HM.out]
              exact hown'
            case measure => simp [intOf]; omega
          · have e3 : decide (x ≤ b) = false := by simpa using h3
            rw [if_neg h3] at htk
            have hX : Below wr.heap.size wr (wr.alloc (Obj.cells #[.int .i64 x, .int .i64 b] 55)) := (Below.refl wr.heap.size wr).alloc (Nat.le_refl _) (Obj.cells #[.int .i64 x, .int .i64 b] 55)
            have hBX : Below W.heap.size W (wr.alloc (Obj.cells #[.int .i64 x, .int .i64 b] 55)) := hB.trans (hX.mono hsz)
            have hrX := own_keepB hrow hX
            have HTK : Hid (cutL (l.take (k + 1)) a b = os) := by unfold Hid; rw [htk]; simp
            clear htk
            go_wp2
            go_roundw
            case rel => exact ⟨k + 1, by omega, by go_num, by rw [HTK.out, HM.out]; exact hrX, by rw [HTK.out]; exact hnil, hBX⟩
            case measure => simp [intOf]; omega
        · have e2 : decide (b < y) = false := by simpa using h2
          simp only [if_neg h2] at htk
          by_cases h3 : x ≤ y
          · have e3 : decide (x ≤ y) = true := by simpa using h3
            rw [if_pos h3] at htk
            simp only [Option.toList_some] at htk
            have hX : Below wr.heap.size wr (wr.alloc (Obj.cells #[.int .i64 x, .int .i64 y] 55)) := (Below.refl wr.heap.size wr).alloc (Nat.le_refl _) (Obj.cells #[.int .i64 x, .int .i64 y] 55)
            have hBX : Below W.heap.size W (wr.alloc (Obj.cells #[.int .i64 x, .int .i64 y] 55)) := hB.trans (hX.mono hsz)
            have hrX := own_keepB hrow hX
            have HTK : Hid (cutL (l.take (k + 1)) a b = os ++ [(x, y)]) := htk
            clear htk
            go_wp2_with (at_builtin; refine wpList_append_own _ rfl _ _ 23 rfl W.heap.size 55 i0 (.agg #[.int .i64 0, .int .i64 0]) 2 16 Tryz.underlying23 hi0 hz0 hz1 hz2 rfl (by decide) _ _ _ rfl (World.ownsRow.alloc hrX _) ⟨wr.heap.size + 1, 0, none⟩ 1 1 [.int .i64 x, .int .i64 y] rfl rfl (by have h9 := cell_two_new (wr.alloc (Obj.cells #[.int .i64 x, .int .i64 y] 55)) (.int .i64 x) (.int .i64 y) 55; rw [World.size_alloc] at h9; exact h9) (by simp [Value.oneCell']) (by unfold maxLen; omega) (by omega) (by have := hBX.size; simp at this ⊢; omega) ?_; intro v' w1 hown' hgrow hnl; have hB1 : Below W.heap.size W w1 := (hBX.alloc hBX.size _).grown hgrow (by have := hBX.size; simp at this ⊢; omega) (fun j e => (World.ownsRow.lt hrX j e).1); clear hgrow)
            go_roundw
            case rel =>
              refine ⟨k + 1, by omega, by go_num, ?_, by rw [HTK.out]; simp [hnl], hB1⟩
              rw [HTK.out, List.length_append, flat_two, HM.out]
              exact hown'
            case measure => simp [intOf]; omega
          · have e3 : decide (x ≤ y) = false := by simpa using h3
            rw [if_neg h3] at htk
            have hX : Below wr.heap.size wr (wr.alloc (Obj.cells #[.int .i64 x, .int .i64 y] 55)) := (Below.refl wr.heap.size wr).alloc (Nat.le_refl _) (Obj.cells #[.int .i64 x, .int .i64 y] 55)
            have hBX : Below W.heap.size W (wr.alloc (Obj.cells #[.int .i64 x, .int .i64 y] 55)) := hB.trans (hX.mono hsz)
            have hrX := own_keepB hrow hX
            have HTK : Hid (cutL (l.take (k + 1)) a b = os) := by unfold Hid; rw [htk]; simp
            clear htk
            go_wp2
            go_roundw
            case rel => exact ⟨k + 1, by omega, by go_num, by rw [HTK.out, HM.out]; exact hrX, by rw [HTK.out]; exact hnil, hBX⟩
            case measure => simp [intOf]; omega
    · obtain rfl : k = n := by omega
      have htk : l.take k = l := by rw [← HN.out]; exact List.take_length
      rw [htk] at hrow hnil
      go_wp2
      go_ret
      exact ⟨_, rfl, hrow, hnil, hB⟩
end Go.Proofs.YtkloadlodofipaaGreatDoor
