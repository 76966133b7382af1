/-
  What is proved here: what dom.Text writes of any ranges.
-/
import Derived.Test.YtopelhdepocoiaaDoorNc
import Derived.Test.YtopelhdepocoiaaDoorTm
import Derived.Lib.AppendStr
import Derived.Lib.AppendIntMem
import Derived.Lib.ItoaLen
import Derived.Laws.IdiomStrings
import Derived.OwnWalk
namespace Go.Proofs.YtopelhdepocoiaaDoor
open Go.RowKit Go.Shelf
set_option linter.unusedVariables false

/-- The library's powers of ten lie as its text lays them, and stay so while what lies below B stays. -/
abbrev Tens (B : Nat) (w : World) : Prop := Lib.TabBelow Tryd.prog B w "internal/strconv.uint64pow10" .u64 Lib.pow10Tab
theorem Tryd.info5 : (Tryd.prog.info? 5).map (fun i => (i.zero, i.size, i.bytes)) = some (some (.int .u8 0), 1, 1) := by kernel_rfl

theorem itoa_pos (x : Int) : 0 < (Lib.itoa x).length := by
  unfold Lib.itoa
  split
  · simp
  · rw [Lib.decDigits_length]; exact Lib.nDigits_pos _
theorem app_int (B n : Nat) (i : Int) (h0 : -9223372036854775808 ≤ i) (h1 : i ≤ 9223372036854775807) (sv : Value) (xs : List Value) (w : World) (hown : w.ownsRow B 5 1 sv n xs) (hBw : B ≤ w.heap.size) (hlim : n + 21 ≤ 140737488355328) (htab : Tens B w) :
    Calls Tryd.prog 12 #[sv, .int .i64 i, .int .i64 10] w fun e w' => ∃ v', e = .returned v' ∧ w'.ownsRow B 5 1 v' (n + (Lib.itoa i).length) (xs ++ Lib.byteCells (Lib.itoa i)) ∧ Below B w w' ∧ Lib.OthersKept 5 none w w' :=
  Any.strconv_AppendInt_10 Tryd.laysApp B n i h0 h1 sv xs w hown hBw hlim htab
theorem Two.kept5 {W W' : World} {B : Nat} {x y : Int} (h : Two W B x y) (hk : Lib.OthersKept 5 none W W') : Two W' B x y := hk B _ h (by simp) (fun c fz e => by cases e)

set_option maxRecDepth 100000 in
set_option maxHeartbeats 4000000 in
theorem domtext_yes (s : Value) (l : List Rg) (W : World) (h : Sr W s l) (hf : FitsR l) (hR : Some' l) (hT : Tens W.heap.size W) :
    Calls Tryd.prog 4 #[s] W fun e w' => e = .returned (.string ⟨(txN l l.length).toArray⟩) ∧ Below W.heap.size W w' := by
  obtain ⟨i0, hi0, hz0, hz1, hz2⟩ := info_parts Tryd.info5
  have hc := known_yes s l W h hf hR.1
  have hlen := hR.1.1
  have hpos := hR.2
  have hok := hR.1.2
  obtain ⟨a, cap, rfl, hcell⟩ := h
  obtain ⟨b, off, rfl, hb, hcells⟩ := hcell hpos
  obtain ⟨n, hn⟩ : ∃ n, l.length = n := ⟨_, rfl⟩
  have HN : Hid (l.length = n) := hn
  have HC : Hid _ := hcells
  have HOK : Hid _ := hok
  have HT : Hid (Tens W.heap.size W) := hT
  rw [hn] at hc hlen hpos ⊢
  have hn0 : ((n : Int) == 0) = false := by simp; omega
  clear hn hcells hok hcell hR hf hT
  go_enter Tryd.func4, Tryd.ntmps4
  go_wp2_with (go_at_call 11; refine hc.mono ?_; rintro e w1 ⟨rfl, hb1⟩)
  go_loopw [3, 13] (fun o i wr => ∃ (k : Nat), k ≤ n ∧ i = .int .i64 k ∧ (txN l k).length ≤ 50 * k ∧ (0 < k → 0 < (txN l k).length) ∧ wr.ownsRow W.heap.size 5 1 o (txN l k).length (Lib.byteCells (txN l k)) ∧ Below W.heap.size W wr) (fun _ i _ => n - (intOf i).toNat)
  case atStart => exact ⟨0, by omega, rfl, by simp [txN], fun h => by omega, by simpa [txN, Lib.byteCells] using World.ownsRow_nil _ _ _ _, hb1⟩
  case round =>
    clear hb1 hc
    obtain ⟨k, hk, rfl, htl, htp, hrow, hB⟩ := hrel
    have hsz := hB.size
    by_cases hlt : k < n
    · have hkl : k < l.length := by rw [HN.out]; exact hlt
      obtain ⟨c1, c2⟩ := HC.out k hkl
      have d1 := (hB.cell (p := ⟨b, off + k * 2, none⟩) hb).trans c1
      have d2 := (hB.cell (p := ⟨b, off + k * 2 + 1, none⟩) hb).trans c2
      obtain ⟨o1, o2, o3, _⟩ := HOK.out k hkl
      have htx : txN l (k + 1) = txN l k ++ (if 0 < k then [44] else []) ++ tx1 (lo l k) (hi l k) := rfl
      obtain ⟨x, hx⟩ : ∃ x, lo l k = x := ⟨_, rfl⟩
      obtain ⟨y, hy⟩ : ∃ y, hi l k = y := ⟨_, rfl⟩
      rw [hx] at d1 o1 o2 htx; rw [hy] at d2 o1 o3 htx
      have lx := Lib.itoa_length_le x (by omega) (by omega)
      have ly := Lib.itoa_length_le y (by omega) (by omega)
      have hlt' : (k : Int) < (n : Int) := by omega
      have hbw : b < wr.heap.size := Nat.lt_of_lt_of_le hb hsz
      have hB2 : Below W.heap.size W (wr.alloc (Obj.cells #[Value.int IntKind.i64 x, Value.int IntKind.i64 y] 34)) := hB.alloc hsz _
      have hT2 := Two.new wr x y
      have hrow2 := World.ownsRow.alloc hrow (Obj.cells #[Value.int IntKind.i64 x, Value.int IntKind.i64 y] 34)
      have HTX : Hid (txN l (k + 1) = txN l k ++ (if 0 < k then [44] else []) ++ tx1 x y) := htx
      by_cases hk0 : 0 < k
      · have hd0 : decide (0 < (k : Int)) = true := by simp; omega
        clear c1 c2 hkl htx hx hy
        go_wp2_with (at_builtin; refine wpList_append_own _ rfl _ _ 32 rfl W.heap.size 5 i0 (.int .u8 0) 1 1 Tryd.underlying32 hi0 hz0 hz1 hz2 rfl (by decide) _ _ _ rfl (hrow2.alloc _) ⟨wr.heap.size + 1, 0, none⟩ 1 1 [Value.int .u8 44] rfl rfl (by have h9 := cell_one_new (wr.alloc (Obj.cells #[Value.int IntKind.i64 x, Value.int IntKind.i64 y] 34)) (.int .u8 44) 5; rw [World.size_alloc] at h9; exact h9) (by simp [Value.oneCell']) (by unfold maxLen; omega) (by omega) (by simp; omega) ?_; intro v3 w3 hown3 hgrow3 _; refine Hid.out ?_)
        refine (show Hid _ from ?_)
        unfold Hid
        have hB3 : Below W.heap.size W w3 := (hB2.alloc hB2.size _).grown hgrow3 (by simp; omega) (fun j e => (World.ownsRow.lt hrow2 j e).1)
        have hT3 : Two w3 wr.heap.size x y := by
          exact (hgrow3.block _ (by simp; omega) (fun e => by have := (World.ownsRow.lt hrow _ e.symm).2; omega)).trans ((Below.heap_alloc _ _ _ (by simp)).trans hT2)
        clear hgrow3 hrow2 hrow hT2
        have q0 := hT3.c0
        have q1 := hT3.c1
        have HT3 : Hid _ := hT3
        have hs3 := hB3.size
        go_wp2_with fail
        refine (app_int W.heap.size _ x (by omega) (by omega) _ _ _ hown3 (by first | exact hs3 | omega) (by omega) (HT.out.on hB3)).mono ?_
        rintro e w4 ⟨v4, rfl, hown4, hb4, hk4⟩
        have hB4 : Below W.heap.size W w4 := hB3.trans hb4
        have hT4 : Two w4 wr.heap.size x y := Two.kept5 (x := x) (y := y) HT3.out hk4
        have r0 := hT4.c0
        have r1 := hT4.c1
        have HT4 : Hid (Two w4 wr.heap.size x y) := hT4
        clear hk4 hb4 hT4 q0 q1
        by_cases hxy : x < y
        · have hd : decide (x < y) = true := by simpa using hxy
          have HNEW : Hid (txN l (k + 1) = (txN l k ++ [44]) ++ Lib.itoa x ++ [46, 46] ++ Lib.itoa y) := by unfold Hid tx1 at *; rw [HTX, if_pos hk0, if_pos hxy]; simp
          go_wp2_with (at_builtin; refine Lib.wpList_append_own_string _ rfl _ _ 32 9 rfl W.heap.size 5 i0 Tryd.underlying32 Tryd.underlying9 hi0 hz0 hz1 hz2 _ _ _ rfl hown4 ⟨#[46, 46]⟩ rfl (by unfold maxLen; show _ + 2 ≤ _; omega) (by show _ + 2 ≤ _; omega) hB4.size ?_; intro v5 w5 hown5 hgrow5 _; refine Hid.out ?_)
          refine (show Hid _ from ?_)
          unfold Hid
          have hgw5 : w4.grownBy w5 v4.ownBlock := hgrow5
          have hB5 : Below W.heap.size W w5 := hB4.grown hgw5 hB4.size (fun j e => (World.ownsRow.lt hown4 j e).1)
          have hT5 : Two w5 wr.heap.size x y := (hgw5.block wr.heap.size (Array.getElem?_eq_some_iff.1 HT4.out).1 (fun e => by
            rcases hown4.2 with ⟨e1, _⟩ | ⟨g, c, cur, e1, _, hgb, _⟩
            · rw [e1] at e; simp [Value.ownBlock] at e
            · rw [e1] at e
              have : wr.heap.size = g := by simpa [Value.ownBlock] using e
              subst this
              have h9 := HT4.out
              unfold Hid Two at h9
              rw [h9] at hgb
              cases hgb)).trans HT4.out
          have s1 := hT5.c1
          have hs5 := hB5.size
          clear hgrow5 hgw5 hown4 r0 r1
          go_wp2_with fail
          refine (app_int W.heap.size _ y (by omega) (by omega) _ _ _ hown5 hs5 (by show _ + 2 + 21 ≤ _; omega) (HT.out.on hB5)).mono ?_
          rintro e w6 ⟨v6, rfl, hown6, hb6, _⟩
          have hB6 : Below W.heap.size W w6 := hB5.trans hb6
          clear hb6 s1
          go_wp2
          go_roundw
          case rel =>
            refine ⟨k + 1, by omega, by go_num, by rw [HNEW.out]; simp; omega, fun _ => by rw [HNEW.out]; simp only [List.length_append, List.length_cons]; omega, ?_, hB6⟩
            rw [HNEW.out]
            have e1 : Lib.byteCells ((txN l k ++ [44]) ++ Lib.itoa x ++ [46, 46] ++ Lib.itoa y) = (Lib.byteCells (txN l k) ++ [Value.int .u8 44]) ++ Lib.byteCells (Lib.itoa x) ++ Lib.strCells ⟨#[46, 46]⟩ ++ Lib.byteCells (Lib.itoa y) := by simp [Lib.byteCells, Lib.strCells]
            have e2 : ((txN l k ++ [44]) ++ Lib.itoa x ++ [46, 46] ++ Lib.itoa y).length = ((txN l k).length + 1) + (Lib.itoa x).length + 2 + (Lib.itoa y).length := by simp only [List.length_append, List.length_cons, List.length_nil] <;> omega
            rw [e1, e2]
            exact hown6
          case measure => simp [intOf]; omega
        · have hd : decide (x < y) = false := by simpa using hxy
          have HNEW : Hid (txN l (k + 1) = (txN l k ++ [44]) ++ Lib.itoa x) := by unfold Hid tx1 at *; rw [HTX, if_pos hk0, if_neg hxy]; simp
          have hip := itoa_pos x
          go_wp2
          go_roundw
          case rel =>
            refine ⟨k + 1, by omega, by go_num, by rw [HNEW.out]; simp; omega, fun _ => by rw [HNEW.out, List.length_append]; omega, ?_, hB4⟩
            rw [HNEW.out]
            have e1 : Lib.byteCells ((txN l k ++ [44]) ++ Lib.itoa x) = (Lib.byteCells (txN l k) ++ [Value.int .u8 44]) ++ Lib.byteCells (Lib.itoa x) := by simp [Lib.byteCells]
            have e2 : ((txN l k ++ [44]) ++ Lib.itoa x).length = ((txN l k).length + 1) + (Lib.itoa x).length := by simp only [List.length_append, List.length_cons, List.length_nil] <;> omega
            rw [e1, e2]
            exact hown4
          case measure => simp [intOf]; omega
      · have hd0 : decide (0 < (k : Int)) = false := by simp; omega
        clear c1 c2 hkl htx hx hy hrow
        have q0 := hT2.c0
        have q1 := hT2.c1
        have HT3 : Hid _ := hT2
        have hs3 := hB2.size
        go_wp2_with fail
        refine (app_int W.heap.size _ x (by omega) (by omega) _ _ _ hrow2 (by first | exact hs3 | omega) (by omega) (HT.out.on hB2)).mono ?_
        rintro e w4 ⟨v4, rfl, hown4, hb4, hk4⟩
        have hB4 : Below W.heap.size W w4 := hB2.trans hb4
        have hT4 : Two w4 wr.heap.size x y := Two.kept5 (x := x) (y := y) HT3.out hk4
        have r0 := hT4.c0
        have r1 := hT4.c1
        have HT4 : Hid (Two w4 wr.heap.size x y) := hT4
        clear hk4 hb4 hT4 q0 q1
        by_cases hxy : x < y
        · have hd : decide (x < y) = true := by simpa using hxy
          have HNEW : Hid (txN l (k + 1) = txN l k ++ Lib.itoa x ++ [46, 46] ++ Lib.itoa y) := by unfold Hid tx1 at *; rw [HTX, if_neg hk0, if_pos hxy]; simp
          go_wp2_with (at_builtin; refine Lib.wpList_append_own_string _ rfl _ _ 32 9 rfl W.heap.size 5 i0 Tryd.underlying32 Tryd.underlying9 hi0 hz0 hz1 hz2 _ _ _ rfl hown4 ⟨#[46, 46]⟩ rfl (by unfold maxLen; show _ + 2 ≤ _; omega) (by show _ + 2 ≤ _; omega) hB4.size ?_; intro v5 w5 hown5 hgrow5 _; refine Hid.out ?_)
          refine (show Hid _ from ?_)
          unfold Hid
          have hgw5 : w4.grownBy w5 v4.ownBlock := hgrow5
          have hB5 : Below W.heap.size W w5 := hB4.grown hgw5 hB4.size (fun j e => (World.ownsRow.lt hown4 j e).1)
          have hT5 : Two w5 wr.heap.size x y := (hgw5.block wr.heap.size (Array.getElem?_eq_some_iff.1 HT4.out).1 (fun e => by
            rcases hown4.2 with ⟨e1, _⟩ | ⟨g, c, cur, e1, _, hgb, _⟩
            · rw [e1] at e; simp [Value.ownBlock] at e
            · rw [e1] at e
              have : wr.heap.size = g := by simpa [Value.ownBlock] using e
              subst this
              have h9 := HT4.out
              unfold Hid Two at h9
              rw [h9] at hgb
              cases hgb)).trans HT4.out
          have s1 := hT5.c1
          have hs5 := hB5.size
          clear hgrow5 hgw5 hown4 r0 r1
          go_wp2_with fail
          refine (app_int W.heap.size _ y (by omega) (by omega) _ _ _ hown5 hs5 (by show _ + 2 + 21 ≤ _; omega) (HT.out.on hB5)).mono ?_
          rintro e w6 ⟨v6, rfl, hown6, hb6, _⟩
          have hB6 : Below W.heap.size W w6 := hB5.trans hb6
          clear hb6 s1
          go_wp2
          go_roundw
          case rel =>
            refine ⟨k + 1, by omega, by go_num, by rw [HNEW.out]; simp; omega, fun _ => by rw [HNEW.out]; simp only [List.length_append, List.length_cons]; omega, ?_, hB6⟩
            rw [HNEW.out]
            have e1 : Lib.byteCells (txN l k ++ Lib.itoa x ++ [46, 46] ++ Lib.itoa y) = Lib.byteCells (txN l k) ++ Lib.byteCells (Lib.itoa x) ++ Lib.strCells ⟨#[46, 46]⟩ ++ Lib.byteCells (Lib.itoa y) := by simp [Lib.byteCells, Lib.strCells]
            have e2 : (txN l k ++ Lib.itoa x ++ [46, 46] ++ Lib.itoa y).length = (txN l k).length + (Lib.itoa x).length + 2 + (Lib.itoa y).length := by simp only [List.length_append, List.length_cons, List.length_nil] <;> omega
            rw [e1, e2]
            exact hown6
          case measure => simp [intOf]; omega
        · have hd : decide (x < y) = false := by simpa using hxy
          have HNEW : Hid (txN l (k + 1) = txN l k ++ Lib.itoa x) := by unfold Hid tx1 at *; rw [HTX, if_neg hk0, if_neg hxy]; simp
          have hip := itoa_pos x
          go_wp2
          go_roundw
          case rel =>
            refine ⟨k + 1, by omega, by go_num, by rw [HNEW.out]; simp; omega, fun _ => by rw [HNEW.out, List.length_append]; omega, ?_, hB4⟩
            rw [HNEW.out]
            have e1 : Lib.byteCells (txN l k ++ Lib.itoa x) = Lib.byteCells (txN l k) ++ Lib.byteCells (Lib.itoa x) := by simp [Lib.byteCells]
            have e2 : (txN l k ++ Lib.itoa x).length = (txN l k).length + (Lib.itoa x).length := by simp only [List.length_append]
            rw [e1, e2]
            exact hown4
          case measure => simp [intOf]; omega
    · have hkn : k = n := by omega
      subst hkn
      have hpos2 := htp hpos
      obtain ⟨tl, htl'⟩ : ∃ tl, txN l k = tl := ⟨_, rfl⟩
      rw [htl'] at hrow hpos2
      have HTL : Hid (txN l k = tl) := htl'
      clear htl' htl htp
      rcases hrow.2 with ⟨_, h0⟩ | ⟨g, cg, cur, rfl, _, _, _, _, _, _⟩
      · omega
      · have hcv := run_convert_bytes_back (P := Tryd.prog) wr 32 9 5 ⟨g, 0, none⟩ cg tl Tryd.underlying32 Tryd.underlying5 Tryd.underlying9 (fun j hj => hrow.cells (g := g) rfl j _ (by simp [Lib.byteCells, hj]))
        go_wp2
        go_ret
        exact ⟨by rw [HTL.out]; rfl, hB⟩
end Go.Proofs.YtopelhdepocoiaaDoor

