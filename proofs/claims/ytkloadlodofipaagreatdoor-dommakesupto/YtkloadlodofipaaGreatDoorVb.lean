/-
  What is proved here: what not and Cut of the reference return of right ranges.
-/
import Derived.Test.YtkloadlodofipaaGreatDoorVa
import Derived.Test.YtkloadlodofipaaGreatDoorYh
import Derived.Test.YtkloadlodofipaaGreatDoorYc
namespace Go.Proofs.YtkloadlodofipaaGreatDoor
open Go.RowKit Go.Shelf
set_option linter.unusedVariables false

theorem flat_two (o : List Rg) (x y : Int) : flat (o ++ [(x, y)]) = flat o ++ [.int .i64 x, .int .i64 y] := by unfold flat; rw [List.flatMap_append]; rfl
theorem drop_cons (l : List Rg) (k : Nat) (hk : k < l.length) : l.drop k = (lo l k, hi l k) :: l.drop (k + 1) := by
  rw [List.drop_eq_getElem_cons hk, lo_get l k hk, hi_get l k hk]
theorem own_keepB {W W' : World} {base e size n : Nat} {s : Value} {xs : List Value} (h : W.ownsRow base e size s n xs) (hb : Below W.heap.size W W') : W'.ownsRow base e size s n xs :=
  ⟨h.1, by
    rcases h.2 with h2 | ⟨g, cap, cur, e1, hg, hgb, r⟩
    · exact .inl h2
    · exact .inr ⟨g, cap, cur, e1, hg, (hb.block g (Array.getElem?_eq_some_iff.1 hgb).1).trans hgb, r⟩⟩

set_option maxRecDepth 100000 in
set_option maxHeartbeats 2000000 in
theorem refnot_any (s : Value) (l : List Rg) (W : World) (h : Sr W s l) (hR : Right l) :
    Calls Tryz.prog 69 #[s] W fun e w' => ∃ s', e = .returned s' ∧ w'.ownsRow W.heap.size 55 2 s' (notL l).length (flat (notL l)) ∧ (s' = .slice none 0 0 ↔ notL l = []) ∧ Below W.heap.size W w' := by
  obtain ⟨i0, hi0, hz0, hz1, hz2⟩ := info_parts Tryz.info55
  have hlen := hR.1
  have hok := hR.2
  obtain ⟨a, cap, rfl, hcell⟩ := h
  obtain ⟨n, hn⟩ : ∃ n, l.length = n := ⟨_, rfl⟩
  have HN : Hid (l.length = n) := hn
  have HC : Hid _ := hcell
  have HOK : Hid _ := hok
  rw [hn] at hlen ⊢
  clear hn hcell hok hR
  go_enter Tryz.func69, Tryz.ntmps69
  go_wp2
  go_loopw [3, 4, 5] (fun o fr i wr => ∃ (k : Nat) (f : Int) (os : List Rg), k ≤ n ∧ i = .int .i64 k ∧ fr = .int .i64 f ∧ -1000000 ≤ f ∧ f ≤ 1000001 ∧ os.length ≤ k ∧ os ++ notF f (l.drop k) = notL l ∧ wr.ownsRow W.heap.size 55 2 o os.length (flat os) ∧ (o = .slice none 0 0 ↔ os = []) ∧ Below W.heap.size W wr) (fun _ _ i _ => n - (intOf i).toNat)
  case atStart => exact ⟨0, -1000000, [], Nat.zero_le _, rfl, rfl, by omega, by omega, Nat.le_refl _, rfl, World.ownsRow_nil _ _ _ _, by simp, Below.refl _ _⟩
  case round =>
    obtain ⟨k, f, os, hk, rfl, rfl, hf1, hf2, hol, heq, hrow, hnil, hB⟩ := hrel
    have hsz := hB.size
    by_cases hlt : k < n
    · have hkl : k < l.length := by rw [HN.out]; exact hlt
      obtain ⟨b, off, rfl, hb, hcells⟩ := HC.out (by omega)
      obtain ⟨c1, c2⟩ := hcells k hkl
      have d1 := (hB.cell (p := ⟨b, off + k * 2, none⟩) hb).trans c1
      have d2 := (hB.cell (p := ⟨b, off + k * 2 + 1, none⟩) hb).trans c2
      obtain ⟨o1, o2, o3, _⟩ := HOK.out k hkl
      rw [drop_cons l k hkl] at heq
      obtain ⟨x, hx⟩ : ∃ x, lo l k = x := ⟨_, rfl⟩
      obtain ⟨y, hy⟩ : ∃ y, hi l k = y := ⟨_, rfl⟩
      rw [hx] at d1 o1 o2 heq
      rw [hy] at d2 o1 o3 heq
      unfold notF at heq
      simp only at heq
      have hlt' : (k : Int) < (n : Int) := by omega
      by_cases hfx : f < x
      · rw [if_pos hfx, ← List.append_assoc] at heq
        have HEQ : Hid ((os ++ [(f, x - 1)]) ++ notF (y + 1) (l.drop (k + 1)) = notL l) := heq
        have hd : decide (f < x) = true := by simpa using hfx
        obtain ⟨m, hm⟩ : ∃ m, os.length = m := ⟨_, rfl⟩
        have HM : Hid (os.length = m) := hm
        rw [hm] at hrow hol
        clear heq hcells c1 c2 hx hy hm hkl
        go_wp2_with (at_builtin; refine wpList_append_own _ rfl _ _ 23 rfl W.heap.size 55 i0 (.agg #[.int .i64 0, .int .i64 0]) 2 16 Tryz.underlying23 hi0 hz0 hz1 hz2 rfl (by decide) _ _ _ rfl (World.ownsRow.alloc hrow _) ⟨wr.heap.size, 0, none⟩ 1 1 [.int .i64 f, .int .i64 (x - 1)] rfl rfl (cell_two_new _ _ _ _) (by simp [Value.oneCell']) (by unfold maxLen; omega) (by omega) (by simp; omega) ?_; intro v' w1 hown' hgrow hnl; have hB1 : Below W.heap.size W w1 := (hB.alloc hsz _).grown hgrow (by simp; omega) (fun j e => (World.ownsRow.lt hrow j e).1); have d2' := (hB1.cell (p := ⟨b, off + k * 2 + 1, none⟩) hb).trans ((hB.cell (p := ⟨b, off + k * 2 + 1, none⟩) hb).symm.trans d2); clear hgrow)
        go_roundw
        case rel =>
          refine ⟨k + 1, y + 1, os ++ [(f, x - 1)], by omega, by go_num, rfl, by omega, by omega, by rw [List.length_append, HM.out]; simp; omega, HEQ.out, ?_, by simp [hnl], hB1⟩
          rw [List.length_append, flat_two, HM.out]
          exact hown'
        case measure => simp [intOf]; omega
      · rw [if_neg hfx, List.nil_append] at heq
        have HEQ : Hid (os ++ notF (y + 1) (l.drop (k + 1)) = notL l) := heq
        have hd : decide (f < x) = false := by simpa using hfx
        clear heq hcells c1 c2 hx hy hkl
        go_wp2
        go_roundw
        case rel => exact ⟨k + 1, y + 1, os, by omega, by go_num, rfl, by omega, by omega, by omega, HEQ.out, hrow, hnil, hB⟩
        case measure => simp [intOf]; omega
    · obtain rfl : k = n := by omega
      rw [List.drop_eq_nil_of_le (by rw [HN.out]; exact Nat.le_refl _)] at heq
      unfold notF at heq
      by_cases hfe : f ≤ 1000000
      · rw [if_pos hfe] at heq
        have HEQ : Hid (os ++ [(f, 1000000)] = notL l) := heq
        have hd : decide (f ≤ 1000000) = true := by simpa using hfe
        obtain ⟨m, hm⟩ : ∃ m, os.length = m := ⟨_, rfl⟩
        have HM : Hid (os.length = m) := hm
        rw [hm] at hrow hol
        clear heq hm
        go_wp2_with (at_builtin; refine wpList_append_own _ rfl _ _ 23 rfl W.heap.size 55 i0 (.agg #[.int .i64 0, .int .i64 0]) 2 16 Tryz.underlying23 hi0 hz0 hz1 hz2 rfl (by decide) _ _ _ rfl (World.ownsRow.alloc hrow _) ⟨wr.heap.size, 0, none⟩ 1 1 [.int .i64 f, .int .i64 1000000] rfl rfl (cell_two_new _ _ _ _) (by simp [Value.oneCell']) (by unfold maxLen; omega) (by omega) (by simp; omega) ?_; intro v' w1 hown' hgrow hnl; have hB1 : Below W.heap.size W w1 := (hB.alloc hsz _).grown hgrow (by simp; omega) (fun j e => (World.ownsRow.lt hrow j e).1); clear hgrow)
        go_ret
        refine ⟨_, rfl, ?_, ?_, hB1⟩
        · rw [← HEQ.out, List.length_append, flat_two, HM.out]; exact hown'
        · rw [← HEQ.out]; simp [hnl]
      · rw [if_neg hfe, List.append_nil] at heq
        have HEQ : Hid (os = notL l) := heq
        have hd : decide (f ≤ 1000000) = false := by simpa using hfe
        clear heq
        go_wp2
        go_ret
        refine ⟨_, rfl, ?_, ?_, hB⟩
        · rw [← HEQ.out]; exact hrow
        · rw [← HEQ.out]; exact hnil
end Go.Proofs.YtkloadlodofipaaGreatDoor
