/-
  What is proved here: what sets.Text writes of any list.
-/
import Derived.Test.YtacnhkaibcjjgaaGreatDoorSd
import Derived.Test.YtacnhkaibcjjgaaGreatDoorTx
import Derived.Lib.AppendStr
import Derived.Lib.AppendIntMem
import Derived.Lib.SmallJoins
import Derived.Laws.IdiomStrings
namespace Go.Proofs.YtacnhkaibcjjgaaGreatDoor
open Go.RowKit Go.Shelf
set_option linter.unusedVariables false
set_option linter.unusedSimpArgs false

/-- The library's powers of ten lie as its text lays them, and stay so while what lies below B stays. -/
abbrev Tens (B : Nat) (w : World) : Prop := Lib.TabBelow Tryz.prog B w "internal/strconv.uint64pow10" .u64 Lib.pow10Tab
theorem tens_here {W w1 : World} (hT : Tens W.heap.size W) (hb : Below W.heap.size W w1) : Tens w1.heap.size w1 := Lib.tabBelow_of_tabIs (hT.on hb).here
theorem Tryz.info5 : (Tryz.prog.info? 5).map (fun i => (i.zero, i.size, i.bytes)) = some (some (.int .u8 0), 1, 1) := by kernel_rfl
theorem app_int (B n : Nat) (i : Int) (h0 : -9223372036854775808 ≤ i) (h1 : i ≤ 9223372036854775807) (sv : Value) (xs : List Value) (w : World) (hown : w.ownsRow B 5 1 sv n xs) (hBw : B ≤ w.heap.size) (hlim : n + 21 ≤ 140737488355328) (htab : Tens B w) :
    Calls Tryz.prog 70 #[sv, .int .i64 i, .int .i64 10] w fun e w' => ∃ v', e = .returned v' ∧ w'.ownsRow B 5 1 v' (n + (Lib.itoa i).length) (xs ++ Lib.byteCells (Lib.itoa i)) ∧ Below B w w' ∧ Lib.OthersKept 5 none w w' :=
  Any.strconv_AppendInt_10 Tryz.laysApp B n i h0 h1 sv xs w hown hBw hlim htab
theorem own_one (w : World) (v : Value) (hv : v.oneCell' = true) : (w.alloc (.cells #[v] 5)).ownsRow w.heap.size 5 1 (.slice (some ⟨w.heap.size, 0, none⟩) 1 1) 1 [v] :=
  ⟨rfl, .inr ⟨w.heap.size, 1, #[v], rfl, Nat.le_refl _, World.alloc_heap_new w _, Nat.le_refl _, by unfold maxLen; omega, rfl, rfl⟩⟩
theorem cell_one_new (w : World) (v : Value) : ∀ j u, ([v] : List Value)[j]? = some u → (w.alloc (.cells #[v] 5)).cell? ((⟨w.heap.size, 0, none⟩ : Addr).add j) = some u := by
  intro j u hj
  rw [Addr.add_lit]
  have hnw := World.alloc_heap_new w (Obj.cells #[v] 5)
  have : j = 0 := by have := (List.getElem?_eq_some_iff.1 hj).1; simp at this; exact this
  subst this
  simp at hj; subst hj
  simp only [World.cell?, hnw]; rfl

theorem known_at (s : Value) (l : List Int) (W X : World) (h : Si W s l) (hX : Below W.heap.size W X) :
    Calls Tryz.prog 61 #[s] X fun e w' => ∃ a n c, e = .returned (.slice a n c) ∧ Hid (Si W (.slice a n c) (tkS l)) ∧ Hid (n = (tkS l).length) ∧ Below X.heap.size X w' := by
  by_cases hR : IsSet l
  · have h2 := h
    obtain ⟨a, cap, rfl, _⟩ := h2
    exact (known_yes _ l X (h.below hX) hR).mono fun e w' ⟨he, n, hw⟩ => ⟨a, _, cap, he, by rw [tkS_yes hR]; exact h, by rw [tkS_yes hR]; exact rfl, by rw [hw]; exact below_drewN (Below.refl _ _) _⟩
  · exact (known_no _ l X (h.below hX) hR).mono fun e w' ⟨he, n, hw⟩ => ⟨none, 0, 0, he, by rw [tkS_no hR]; exact Si.nil _, by rw [tkS_no hR]; exact rfl, by rw [hw]; exact below_drewN (Below.refl _ _) _⟩

set_option maxRecDepth 100000 in
set_option maxHeartbeats 4000000 in
theorem text_any (s : Value) (l : List Int) (W : World) (h : Si W s l) (hT : Tens W.heap.size W) :
    Calls Tryz.prog 21 #[s] W fun e w' => e = .returned (.string ⟨(stx (tkS l)).toArray⟩) ∧ Below W.heap.size W w' := by
  obtain ⟨i0, hi0, hz0, hz1, hz2⟩ := info_parts Tryz.info5
  obtain ⟨W0, hW0⟩ : ∃ X, W.alloc (Obj.cells #[Value.int .u8 123] 5) = X := ⟨_, rfl⟩
  have HW0 : Hid _ := hW0
  have hb0 : Below W.heap.size W W0 := by rw [← hW0]; exact (Below.refl _ W).alloc (Nat.le_refl _) _
  have hrow0 : W0.ownsRow W.heap.size 5 1 (.slice (some ⟨W.heap.size, 0, none⟩) 1 1) 1 [.int .u8 123] := by rw [← hW0]; exact own_one W _ rfl
  have hk := known_at s l W W0 h hb0
  obtain ⟨a0, c0, rfl, _⟩ := h
  have HT : Hid (Tens W.heap.size W) := hT
  have HSET : Hid (IsSet (tkS l)) := tkS_set l
  obtain ⟨L, hL⟩ : ∃ L, tkS l = L := ⟨_, rfl⟩
  rw [hL] at hk HSET
  have HL : Hid (tkS l = L) := hL
  clear hT hW0 hL
  go_enter Tryz.func21, Tryz.ntmps21
  go_upto_region 2 with (fail)
  rw [HW0.out]
  go_wp2_with fail
  refine hk.mono ?_
  clear hk
  rintro e w1 ⟨a, n, cap, rfl, HS1, HN, hb1⟩
  have hB1 : Below W.heap.size W w1 := hb0.trans (hb1.mono hb0.size)
  have hrow1 := own_keepB hrow0 hb1
  have hn64 : n ≤ 64 := by rw [HN.out]; exact HSET.out.1
  clear hrow0 hb0 hb1
  go_wp2
  go_loopw [3, 10] (fun o i wr => ∃ (k : Nat), k ≤ n ∧ i = .int .i64 k ∧ (txS L k).length ≤ 50 * k + 1 ∧ wr.ownsRow W.heap.size 5 1 o (txS L k).length (Lib.byteCells (txS L k)) ∧ Below W.heap.size W wr) (fun _ i _ => n - (intOf i).toNat)
  case atStart => exact ⟨0, by omega, rfl, by simp [txS], hrow1, hB1⟩
  case round =>
    clear hrow1 hB1
    obtain ⟨k, hk, rfl, htl, hrow, hB⟩ := hrel
    have hsz := hB.size
    by_cases hlt : k < n
    · have hS := HS1.out.below hB
      obtain ⟨a', cap', e, hc⟩ := hS
      injection e with e1 e2 e3
      subst e1; subst e3
      obtain ⟨b, off, rfl, hb, hcell⟩ := hc (by rw [← HN.out]; omega)
      have d1 := hcell k (by rw [← HN.out]; exact hlt)
      have ho := HSET.out.2 k (by rw [← HN.out]; exact hlt)
      unfold SetAt at ho
      have htx : txS L (k + 1) = txS L k ++ (if 0 < k then [44] else []) ++ Lib.itoa (nth L k) := rfl
      obtain ⟨x, hx⟩ : ∃ x, nth L k = x := ⟨_, rfl⟩
      rw [hx] at d1 ho htx
      have hx0 := ho.1
      have hx1 := ho.2.1
      have lx := Lib.itoa_length_le x (by omega) (by omega)
      have hlt' : (k : Int) < (n : Int) := by omega
      have HTX : Hid (txS L (k + 1) = txS L k ++ (if 0 < k then [44] else []) ++ Lib.itoa x) := htx
      have HE2 : Hid _ := e2
      clear hcell hc ho hx htx e2
      by_cases hk0 : 0 < k
      · have hd0 : decide (0 < (k : Int)) = true := by simp; omega
        go_wp2_with (at_builtin; refine wpList_append_own _ rfl _ _ 74 rfl W.heap.size 5 i0 (.int .u8 0) 1 1 Tryz.underlying74 hi0 hz0 hz1 hz2 rfl (by decide) _ _ _ rfl (World.ownsRow.alloc hrow _) ⟨wr.heap.size, 0, none⟩ 1 1 [Value.int .u8 44] rfl rfl (cell_one_new wr (.int .u8 44)) (by simp [Value.oneCell']) (by unfold maxLen; omega) (by omega) (by simp; omega) ?_; intro v3 w3 hown3 hgrow3 _; refine Hid.out ?_)
        refine (show Hid _ from ?_)
        unfold Hid
        have hB3 : Below W.heap.size W w3 := (hB.alloc hsz _).grown hgrow3 (by simp; omega) (fun j e => (World.ownsRow.lt hrow j e).1)
        clear hgrow3 hrow
        go_wp2_with fail
        refine (app_int W.heap.size _ x (by omega) (by omega) _ _ _ hown3 hB3.size (by omega) (HT.out.on hB3)).mono ?_
        rintro e w4 ⟨v4, rfl, hown4, hb4, hk4⟩
        have hB4 : Below W.heap.size W w4 := hB3.trans hb4
        have HNEW : Hid (txS L (k + 1) = (txS L k ++ [44]) ++ Lib.itoa x) := by unfold Hid at *; rw [HTX, if_pos hk0]
        go_wp2
        go_roundw
        case rel =>
          refine ⟨k + 1, by omega, by go_num, by rw [HNEW.out]; simp; omega, ?_, hB4⟩
          rw [HNEW.out]
          have e1 : Lib.byteCells ((txS L k ++ [44]) ++ Lib.itoa x) = (Lib.byteCells (txS L k) ++ [Value.int .u8 44]) ++ Lib.byteCells (Lib.itoa x) := by simp [Lib.byteCells]
          have e2 : ((txS L k ++ [44]) ++ Lib.itoa x).length = ((txS L k).length + 1) + (Lib.itoa x).length := by simp only [List.length_append, List.length_cons, List.length_nil]
          rw [e1, e2]
          exact hown4
        case measure => simp [intOf]; omega
      · have hd0 : decide (0 < (k : Int)) = false := by simp; omega
        go_wp2_with fail
        refine (app_int W.heap.size _ x (by omega) (by omega) _ _ _ hrow hsz (by omega) (HT.out.on hB)).mono ?_
        rintro e w4 ⟨v4, rfl, hown4, hb4, hk4⟩
        have hB4 : Below W.heap.size W w4 := hB.trans hb4
        have HNEW : Hid (txS L (k + 1) = txS L k ++ Lib.itoa x) := by unfold Hid at *; rw [HTX, if_neg hk0, List.append_nil]
        go_wp2
        go_roundw
        case rel =>
          refine ⟨k + 1, by omega, by go_num, by rw [HNEW.out]; simp; omega, ?_, hB4⟩
          rw [HNEW.out]
          have e1 : Lib.byteCells (txS L k ++ Lib.itoa x) = Lib.byteCells (txS L k) ++ Lib.byteCells (Lib.itoa x) := by simp [Lib.byteCells]
          have e2 : (txS L k ++ Lib.itoa x).length = (txS L k).length + (Lib.itoa x).length := by simp only [List.length_append]
          rw [e1, e2]
          exact hown4
        case measure => simp [intOf]; omega
    · obtain rfl : k = n := by omega
      have hlt' : ¬ (k : Int) < (k : Int) := by omega
      go_wp2_with (at_builtin; refine wpList_append_own _ rfl _ _ 74 rfl W.heap.size 5 i0 (.int .u8 0) 1 1 Tryz.underlying74 hi0 hz0 hz1 hz2 rfl (by decide) _ _ _ rfl (World.ownsRow.alloc hrow _) ⟨wr.heap.size, 0, none⟩ 1 1 [Value.int .u8 125] rfl rfl (cell_one_new wr (.int .u8 125)) (by simp [Value.oneCell']) (by unfold maxLen; omega) (by omega) (by simp; omega) ?_; intro v3 w3 hown3 hgrow3 _; refine Hid.out ?_)
      refine (show Hid _ from ?_)
      unfold Hid
      have hB3 : Below W.heap.size W w3 := (hB.alloc hsz _).grown hgrow3 (by simp; omega) (fun j e => (World.ownsRow.lt hrow j e).1)
      have HST : Hid (stx (tkS l) = txS L k ++ [125]) := by unfold Hid; rw [HL.out]; unfold stx; rw [← HN.out]
      obtain ⟨tl, htl'⟩ : ∃ tl, txS L k ++ [125] = tl := ⟨_, rfl⟩
      have hcl : Lib.byteCells (txS L k) ++ [Value.int .u8 125] = Lib.byteCells tl := by rw [← htl']; simp [Lib.byteCells]
      have hll : (txS L k).length + 1 = tl.length := by rw [← htl']; simp
      rw [hcl, hll] at hown3
      have hpos : 0 < tl.length := by omega
      rw [htl'] at HST
      clear hgrow3 hrow htl' hcl hll htl
      rcases hown3.2 with ⟨_, h0⟩ | ⟨g, cg, cur, rfl, _, _, _, _, _, _⟩
      · omega
      · have hcv := run_convert_bytes_back (P := Tryz.prog) w3 74 9 5 ⟨g, 0, none⟩ cg tl Tryz.underlying74 Tryz.underlying5 Tryz.underlying9 (fun j hj => hown3.cells (g := g) rfl j _ (by simp [Lib.byteCells, hj]))
        go_wp2
        go_ret
        exact ⟨by rw [HST.out]; rfl, hB3⟩
end Go.Proofs.YtacnhkaibcjjgaaGreatDoor
