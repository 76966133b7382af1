/-
  What is proved here: the reference's Values of any ranges.
-/
import Derived.Test.YtkloadlodofipaaGreatDoorEf
import Derived.Maps.AppendAt
namespace Go.Proofs.YtkloadlodofipaaGreatDoor
open Go.RowKit Go.Shelf
set_option linter.unusedVariables false

theorem Tryz.info2 : (Tryz.prog.info? 2).map (fun i => (i.zero, i.size, i.bytes)) = some (some (.int .i64 0), 1, 8) := by kernel_rfl
/-- Numbers as values. -/
def nums (ds : List Int) : List Value := ds.map (Value.int .i64)
theorem take_pre {p q r : List Int} (h : p ++ r = q) {m : Nat} (hm : m ≤ p.length) : q.take m = p.take m := by rw [← h, List.take_append_of_le_length hm]

set_option maxRecDepth 100000 in
set_option maxHeartbeats 2000000 in
theorem refvalues_yes (s : Value) (l : List Rg) (most : Nat) (W : World) (h : Sr W s l) (hR : Right l) (hm : most ≤ 1000) :
    Calls Tryz.prog 33 #[s, .int .i64 most] W fun e w' => ∃ s', e = .returned s' ∧ w'.ownsRow W.heap.size 2 1 s' ((vals l).take most).length (nums ((vals l).take most)) ∧ Below W.heap.size W w' := by
  obtain ⟨i0, hi0, hz0, hz1, hz2⟩ := info_parts Tryz.info2
  have hc := taken_yes s l W h hR
  have hlen := hR.1
  have hok := hR.2
  obtain ⟨a, cap, rfl, hcell⟩ := h
  obtain ⟨n, hn⟩ : ∃ n, l.length = n := ⟨_, rfl⟩
  have HN : Hid (l.length = n) := hn
  have HC : Hid _ := hcell
  have HOK : Hid _ := hok
  rw [hn] at hc hlen ⊢
  clear hn hcell hR hok
  go_enter Tryz.func33, Tryz.ntmps33
  go_wp2_with (go_at_call 63; refine hc.mono ?_; rintro e w1 ⟨rfl, n1, rfl⟩)
  go_loopw [5, 6] (fun o i wr => ∃ (k : Nat), k ≤ n ∧ i = .int .i64 k ∧ wr.ownsRow W.heap.size 2 1 o ((vals (l.take k)).take most).length (nums ((vals (l.take k)).take most)) ∧ Below W.heap.size W wr) (fun _ i _ => n - (intOf i).toNat)
  case atStart => exact ⟨0, by omega, rfl, by simpa [vals, nums] using World.ownsRow_nil _ _ _ _, below_drewN (Below.refl _ _) _⟩
  case round =>
    obtain ⟨k, hk, rfl, hrow, hB⟩ := hrel
    by_cases hlt : k < n
    · have hkl : k < l.length := by rw [HN.out]; exact hlt
      obtain ⟨b, off, rfl, hb, hcells⟩ := HC.out (by omega)
      obtain ⟨c1, c2⟩ := hcells k hkl
      obtain ⟨o1, o2, o3, _⟩ := HOK.out k hkl
      have hvt := vals_take l k hkl
      obtain ⟨x, hx⟩ : ∃ x, lo l k = x := ⟨_, rfl⟩
      obtain ⟨y, hy⟩ : ∃ y, hi l k = y := ⟨_, rfl⟩
      rw [hx] at o1 o2 c1 hvt
      rw [hy] at o1 o3 c2 hvt
      obtain ⟨A, hA⟩ : ∃ A, vals (l.take k) = A := ⟨_, rfl⟩
      rw [hA] at hvt hrow
      have HVT : Hid (vals (l.take (k + 1)) = A ++ span x y) := hvt
      have hlt' : (k : Int) < (n : Int) := by omega
      have d1 := (hB.cell (p := ⟨b, off + k * 2, none⟩) hb).trans c1
      have HROW : Hid _ := hrow
      have HB : Hid _ := hB
      clear hcells hx hy hvt hA hrow hB
      go_wp2
      go_loopw [5, 7] (fun o v w2 => ∃ (j : Nat), v = .int .i64 (x + (j : Int)) ∧ x + (j : Int) ≤ y + 1 ∧ w2.ownsRow W.heap.size 2 1 o ((A ++ upto x j).take most).length (nums ((A ++ upto x j).take most)) ∧ Below W.heap.size W w2) (fun _ v _ => (y + 1 - intOf v).toNat)
      case atStart =>
        refine ⟨0, by simp, by omega, ?_, HB.out⟩
        have h9 : A ++ upto x 0 = A := by simp [upto]
        rw [h9]; exact HROW.out
      case round =>
        clear d1
        obtain ⟨j, rfl, hj, hrow, hB⟩ := hrel
        have hsz := hB.size
        have d2 := (hB.cell (p := ⟨b, off + k * 2 + 1, none⟩) hb).trans c2
        have hcnm : ∃ ov on oc, u5 = .slice ov on oc ∧ on = ((A ++ upto x j).take most).length := by
          rcases hrow.2 with ⟨e1, e2⟩ | ⟨g', cap', cur, e1, _, _, h3, _⟩
          · exact ⟨none, 0, 0, e1, by simpa using e2.symm⟩
          · exact ⟨_, _, _, e1, rfl⟩
        obtain ⟨ov, on, oc, rfl, hon⟩ := hcnm
        obtain ⟨cur, hcur⟩ : ∃ cur, A ++ upto x j = cur := ⟨_, rfl⟩
        have HCUR : Hid (A ++ upto x j = cur) := hcur
        rw [hcur] at hrow hon
        rw [← hon] at hrow
        have HON : Hid (on = (cur.take most).length) := hon
        have hcl : on = min most cur.length := by rw [hon, List.length_take]
        clear hcur hon
        by_cases hle : x + (j : Int) ≤ y
        · have hd1 : decide (x + (j : Int) ≤ y) = true := by simpa using hle
          by_cases hlm : on < most
          · have hd2 : decide ((on : Int) < (most : Int)) = true := by simp; omega
            have hlen2 : cur.length = on := by omega
            have htk : cur.take most = cur := List.take_of_length_le (by omega)
            rw [htk] at hrow
            have HLEN : Hid (cur.length = on) := hlen2
            have hnew : A ++ upto x (j + 1) = cur ++ [x + (j : Int)] := by rw [upto_succ, ← List.append_assoc, HCUR.out]
            have HNEW : Hid (A ++ upto x (j + 1) = cur ++ [x + (j : Int)]) := hnew
            clear hnew htk hlen2 hcl
            go_wp2_with (at_builtin; refine wpList_append_own _ rfl _ _ 22 rfl W.heap.size 2 i0 (.int .i64 0) 1 8 Tryz.underlying22 hi0 hz0 hz1 hz2 rfl (by decide) _ _ _ rfl (World.ownsRow.alloc hrow _) ⟨wr.heap.size, 0, none⟩ 1 1 [.int .i64 (x + (j : Int))] rfl rfl (cell_one_new _ _ _) (by simp [Value.oneCell']) (by unfold maxLen; omega) (by omega) (by simp; omega) ?_; intro v' w3 hown' hgrow _; have hB1 : Below W.heap.size W w3 := (hB.alloc hsz _).grown hgrow (by simp; omega) (fun j e => (World.ownsRow.lt hrow j e).1); clear hgrow)
            go_roundw
            case rel =>
              refine ⟨j + 1, by first | rfl | (congr 1; omega), by omega, ?_, hB1⟩
              rw [HNEW.out, List.take_of_length_le (by rw [List.length_append, HLEN.out]; simp; omega), List.length_append, HLEN.out]
              unfold nums at hown' ⊢
              rw [List.map_append]
              exact hown'
            case measure => simp [intOf]; omega
          · have hd2 : decide ((on : Int) < (most : Int)) = false := by simp; omega
            have hmc : most ≤ cur.length := by omega
            have htk : (vals (l.take (k + 1))).take most = cur.take most := by
              rw [HVT.out]
              obtain ⟨r1, e1⟩ := span_upto x y j (by omega)
              exact take_pre (r := r1) (by rw [← HCUR.out, List.append_assoc, e1]) hmc
            have HTK : Hid ((vals (l.take (k + 1))).take most = cur.take most) := htk
            clear htk hcl
            go_wp2
            refine ⟨⟨k + 1, by omega, by go_num, ?_, hB⟩, ?_⟩
            · rw [HTK.out, ← HON.out]; exact hrow
            · simp [intOf]; omega
        · have hd1 : decide (x + (j : Int) ≤ y) = false := by simpa using hle
          have htk : vals (l.take (k + 1)) = cur := by rw [HVT.out, ← HCUR.out, upto_all x y j (by omega)]
          have HTK : Hid (vals (l.take (k + 1)) = cur) := htk
          clear htk hcl
          go_wp2
          refine ⟨⟨k + 1, by omega, by go_num, ?_, hB⟩, ?_⟩
          · rw [HTK.out, ← HON.out]; exact hrow
          · simp [intOf]; omega
    · have hkn : k = n := by omega
      subst hkn
      rw [show l.take k = l from List.take_of_length_le (by rw [HN.out]; exact Nat.le_refl _)] at hrow
      go_wp2
      go_ret
      exact ⟨_, rfl, hrow, hB⟩

set_option maxHeartbeats 1000000 in
theorem refvalues_no (s : Value) (l : List Rg) (most : Nat) (W : World) (h : Sr W s l) (hR : ¬ Right l) :
    Calls Tryz.prog 33 #[s, .int .i64 most] W fun e w' => e = .returned (.slice none 0 0) ∧ Below W.heap.size W w' := by
  have hc := taken_no s l W h hR
  obtain ⟨a, cap, rfl, hcell⟩ := h
  clear hcell hR
  go_enter Tryz.func33, Tryz.ntmps33
  go_wp2_with (go_at_call 63; refine hc.mono ?_; rintro e w1 ⟨rfl, n1, rfl⟩)
  go_loop [5, 6] (fun o i => i = .int .i64 0 ∧ o = .slice none 0 0) (fun _ _ => 0)
  case atStart => exact ⟨rfl, rfl⟩
  case round =>
    obtain ⟨rfl, rfl⟩ := hrel
    go_wp2
    go_ret
    exact ⟨rfl, below_drewN (Below.refl _ _) _⟩
/-- The reference's Values, of any ranges. -/
theorem refvalues_any (s : Value) (l : List Rg) (most : Nat) (W : World) (h : Sr W s l) (hm : most ≤ 1000) :
    Calls Tryz.prog 33 #[s, .int .i64 most] W fun e w' => ∃ s', e = .returned s' ∧ w'.ownsRow W.heap.size 2 1 s' ((vals (tk l)).take most).length (nums ((vals (tk l)).take most)) ∧ Below W.heap.size W w' := by
  by_cases hR : Right l
  · rw [tk_yes hR]; exact refvalues_yes s l most W h hR hm
  · rw [tk_no hR]
    refine (refvalues_no s l most W h hR).mono fun e w' ⟨he, hb⟩ => ⟨_, he, ?_, hb⟩
    simpa [vals, nums] using World.ownsRow_nil _ _ _ _
end Go.Proofs.YtkloadlodofipaaGreatDoor
