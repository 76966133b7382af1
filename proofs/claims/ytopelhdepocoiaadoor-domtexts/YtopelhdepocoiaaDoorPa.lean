/-
  What is proved here: what dom.parseRange reads of a text that is one number; what strings.Split and strings.Cut answer here.
-/
import Derived.Test.YtopelhdepocoiaaDoorTe
import Derived.Lib.SmallJoins
namespace Go.Proofs.YtopelhdepocoiaaDoor
open Go.RowKit Go.Shelf
set_option linter.unusedVariables false

/-- The library's variable for the longest text that is searched holds some number. -/
def MaxL (W : World) : Prop := 1 < W.heap.size ∧ ∃ m, W.cell? ⟨1, 0, none⟩ = some (.int .i64 m)
theorem MaxL.below {B : Nat} {W W' : World} (h : MaxL W) (hb : Below B W W') (hB : 1 < B) : MaxL W' := by
  obtain ⟨h1, m, hm⟩ := h
  exact ⟨Nat.lt_of_lt_of_le h1 hb.size, m, (hb.cell (p := ⟨1, 0, none⟩) hB).trans hm⟩
theorem split_at (s sep : ByteArray) (w : World) (hM : MaxL w) (hs : s.size < 4294967281) (h1 : 1 ≤ sep.size) :
    Calls Tryd.prog 13 #[.string s, .string sep] w fun e w' => e = .returned (.slice (some ⟨w.heap.size, 0, none⟩) (Lib.countB s sep + 1) (Lib.countB s sep + 1)) ∧ w' = w.alloc (.cells ((Lib.splitB sep 0 (Lib.countB s sep) s).map Value.string).toArray 9) := by
  obtain ⟨_, m, hm⟩ := hM
  exact Any.strings_Split { Tryd.laysSplit with } Tryd.laysSplit.i9 s sep m w hs hm h1
theorem cut_at (s sep : ByteArray) (w : World) (hM : MaxL w) (hs : s.size < 4294967281) :
    Calls Tryd.prog 26 #[.string s, .string sep] w fun e w' => e = .returned (.tuple #[.string ⟨(Lib.cut s.data.toList sep.data.toList).1.toArray⟩, .string ⟨(Lib.cut s.data.toList sep.data.toList).2.1.toArray⟩, .bool (Lib.cut s.data.toList sep.data.toList).2.2]) ∧ ∃ n, w' = w.drewN n := by
  obtain ⟨_, m, hm⟩ := hM
  exact Any.strings_Cut { Tryd.laysCut with } s sep m w hs hm
theorem pint_at (s : ByteArray) (v : Int) (w : World) (hmax : s.size ≤ 9223372036854775806) (h : Lib.parseIntB 64 s.data.toList = .ok v) :
    Calls Tryd.prog 27 #[.string s, .int .i64 10, .int .i64 64] w fun e w' => e = .returned (.tuple #[.int .i64 v, .nilIface]) ∧ Below w.heap.size w w' := by
  refine (Any.strconv_ParseInt_10_at64_ok Tryd.laysPint s hmax v h w).mono fun e w' ⟨he, hw⟩ => ⟨he, ?_⟩
  rcases hw with rfl | ⟨t, rfl⟩
  · exact Below.refl _ _
  · exact Joins.below_bytesWorld _ _ _ _ (Nat.le_refl _)

set_option maxRecDepth 100000 in
set_option maxHeartbeats 1000000 in
theorem prange_one (p : ByteArray) (v : Int) (W : World) (hM : MaxL W) (hs : p.size ≤ 100) (hcut : Lib.cut p.data.toList [46, 46] = (p.data.toList, [], false)) (hv : Lib.parseIntB 64 p.data.toList = .ok v) :
    Calls Tryd.prog 14 #[.string p] W fun e w' => e = .returned (.tuple #[.agg #[.int .i64 v, .int .i64 v], .bool true]) ∧ Below W.heap.size W w' := by
  have hc := fun X (hX : MaxL X) => cut_at p ⟨#[46, 46]⟩ X hX (by omega)
  simp only [hcut] at hc
  have ep : (⟨p.data.toList.toArray⟩ : ByteArray) = p := by simp
  rw [ep] at hc
  have hp := fun X => pint_at p v X (by omega) hv
  have hM0 := hM.1
  have HM : Hid (MaxL W) := hM
  clear hcut hv hM
  have mixed : Tryd.prog.follows .mixedOrders = true := by kernel_rfl
  go_enter Tryd.func14, Tryd.ntmps14
  go_wp2_with fail
  refine (hc _ (HM.out.below ((Below.refl W.heap.size W).alloc (Nat.le_refl _) _) hM0)).mono ?_
  rintro e w1 ⟨rfl, nq, rfl⟩
  clear hc
  go_wp2_with fail
  refine (hp _).mono ?_
  rintro e w2 ⟨rfl, hb2⟩
  go_wp2_with fail
  refine (hp _).mono ?_
  rintro e w3 ⟨rfl, hb3⟩
  have hT : (w3.heap[W.heap.size]? = some (.cells #[.int .i64 0, .int .i64 0] 34 (0, 0))) := by
    refine (hb3.block _ ?_).trans ((hb2.block _ ?_).trans ?_)
    · have := hb2.size; simp at this; omega
    · simp
    · exact World.alloc_heap_new W _
  have hB1 : Below W.heap.size W ((W.alloc (Obj.cells #[Value.int IntKind.i64 0, Value.int IntKind.i64 0] 34)).drewN nq) := below_drewN ((Below.refl _ W).alloc (Nat.le_refl _) _) _
  have hB2 : Below W.heap.size W w2 := hB1.trans (hb2.mono hB1.size)
  have hB3 : Below W.heap.size W w3 := hB2.trans (hb3.mono hB2.size)
  clear hp hb2 hb3
  have c0 : w3.cell? ⟨W.heap.size, 0, none⟩ = some (.int .i64 0) := by simp [World.cell?, hT]
  have c1 : w3.cell? ⟨W.heap.size, 1, none⟩ = some (.int .i64 0) := by simp [World.cell?, hT]
  have f0 : w3.frozen? ⟨W.heap.size, 0, none⟩ = false := by simp [World.frozen?, hT]
  have f1 : w3.frozen? ⟨W.heap.size, 1, none⟩ = false := by simp [World.frozen?, hT]
  go_wp2
  go_region
  go_wp2
  have h1 := row_set (row_set hT 0 (.int .i64 v)) 1 (.int .i64 v)
  have h2 : (((w3.setCell ⟨W.heap.size, 0, none⟩ (.int .i64 v)).setCell ⟨W.heap.size, 1, none⟩ (.int .i64 v)).drew).heap[W.heap.size]? = some (.cells #[.int .i64 v, .int .i64 v] 34 (0, 0)) := by
    have h3 : ((w3.setCell ⟨W.heap.size, 0, none⟩ (.int .i64 v)).setCell ⟨W.heap.size, 1, none⟩ (.int .i64 v)).heap[W.heap.size]? = some (.cells #[.int .i64 v, .int .i64 v] 34 (0, 0)) := by simpa using h1
    exact h3
  have e0 : (((w3.setCell ⟨W.heap.size, 0, none⟩ (.int .i64 v)).setCell ⟨W.heap.size, 1, none⟩ (.int .i64 v)).drew).cell? ⟨W.heap.size, 0, none⟩ = some (.int .i64 v) := by simp only [World.cell?, h2]; rfl
  have e1 : (((w3.setCell ⟨W.heap.size, 0, none⟩ (.int .i64 v)).setCell ⟨W.heap.size, 1, none⟩ (.int .i64 v)).drew).cell? ⟨W.heap.size, 1, none⟩ = some (.int .i64 v) := by simp only [World.cell?, h2]; rfl
  have hB4 : Below W.heap.size W (((w3.setCell ⟨W.heap.size, 0, none⟩ (.int .i64 v)).setCell ⟨W.heap.size, 1, none⟩ (.int .i64 v)).drew) := ((hB3.setCell (p := ⟨W.heap.size, 0, none⟩) (Nat.le_refl _) _).setCell (p := ⟨W.heap.size, 1, none⟩) (Nat.le_refl _) _).drew
  obtain ⟨X, hX⟩ : ∃ X, ((w3.setCell ⟨W.heap.size, 0, none⟩ (.int .i64 v)).setCell ⟨W.heap.size, 1, none⟩ (.int .i64 v)).drew = X := ⟨_, rfl⟩
  rw [hX] at e0 e1 hB4 ⊢
  refine ⟨rfl, .tuple #[.agg #[.int .i64 v, .int .i64 v], .bool true], ?_, rfl, hB4⟩
  simp [results, Tryd.results14, go_sem, e0, e1]

set_option maxHeartbeats 1000000 in
theorem domtext_no (s : Value) (l : List Rg) (W : World) (h : Sr W s l) (hf : FitsR l) (hR : ¬ Some' l) :
    Calls Tryd.prog 4 #[s] W fun e w' => e = .returned (.string ⟨#[123, 125]⟩) ∧ Below W.heap.size W w' := by
  have hk := known_tk s l W h hf
  have h0 : (tk l).length = 0 := by
    unfold tk
    split
    · rename_i hr
      apply Classical.byContradiction; intro hn; exact hR ⟨hr, by omega⟩
    · rfl
  rw [h0] at hk
  obtain ⟨a, cap, rfl, _⟩ := h
  clear hR hf h0
  go_enter Tryd.func4, Tryd.ntmps4
  go_wp2_with (go_at_call 11; refine hk.mono ?_; rintro e w1 ⟨a1, n1, c1, rfl, _, rfl, hb1⟩)
  go_ret
  exact ⟨rfl, hb1⟩

/-- Two ranges that touch. -/
def twelve : List Rg := [(1, 1), (2, 2)]
theorem twelve_no : ¬ Some' twelve := fun h => by
  have := (h.1.2 1 (by simp [twelve])).2.2.2 (by decide)
  simp [twelve, lo, hi] at this

set_option maxRecDepth 100000 in
set_option maxHeartbeats 2000000 in
theorem parse12 (W : World) (hM : MaxL W) :
    Calls Tryd.prog 5 #[.string ⟨#[49, 44, 50]⟩] W fun e w' => e = .returned (.tuple #[.slice none 0 0, .int .i64 20]) ∧ Below W.heap.size W w' := by
  obtain ⟨i0, hi0, hz0, hz1, hz2⟩ := info_parts Tryd.info34
  have hs := split_at ⟨#[49, 44, 50]⟩ ⟨#[44]⟩ W hM (by decide) (by decide)
  rw [show Lib.countB ⟨#[49, 44, 50]⟩ ⟨#[44]⟩ = 1 by decide, show Lib.splitB ⟨#[44]⟩ 0 1 ⟨#[49, 44, 50]⟩ = [⟨#[49]⟩, ⟨#[50]⟩] by decide] at hs
  have hp1 := fun X (hX : MaxL X) => prange_one ⟨#[49]⟩ 1 X hX (by decide) (by decide) (by decide)
  have hp2 := fun X (hX : MaxL X) => prange_one ⟨#[50]⟩ 2 X hX (by decide) (by decide) (by decide)
  have hM0 := hM.1
  have HM : Hid (MaxL W) := hM
  have HP1 := fun X hX => (hp1 X hX)
  clear hM HP1
  go_enter Tryd.func5, Tryd.ntmps5
  go_wp2_with fail
  refine hs.mono ?_
  clear hs
  rintro e w1 ⟨rfl, rfl⟩
  go_wp2
  have hb1 : Below W.heap.size W (W.alloc (Obj.cells #[Value.string ⟨#[49]⟩, Value.string ⟨#[50]⟩] 9)) := (Below.refl _ W).alloc (Nat.le_refl _) _
  have hM1 := HM.out.below hb1 hM0
  have hnw := World.alloc_heap_new W (Obj.cells #[Value.string ⟨#[49]⟩, Value.string ⟨#[50]⟩] 9)
  have c0 : (W.alloc (Obj.cells #[Value.string ⟨#[49]⟩, Value.string ⟨#[50]⟩] 9)).cell? ⟨W.heap.size, 0, none⟩ = some (Value.string ⟨#[49]⟩) := by simp only [World.cell?, hnw]; rfl
  have c1 : (W.alloc (Obj.cells #[Value.string ⟨#[49]⟩, Value.string ⟨#[50]⟩] 9)).cell? ⟨W.heap.size, 1, none⟩ = some (Value.string ⟨#[50]⟩) := by simp only [World.cell?, hnw]; rfl
  obtain ⟨W1, hW1⟩ : ∃ W1, W.alloc (Obj.cells #[Value.string ⟨#[49]⟩, Value.string ⟨#[50]⟩] 9) = W1 := ⟨_, rfl⟩
  have hsz1 : W.heap.size + 1 = W1.heap.size := by rw [← hW1]; simp
  rw [hW1] at hb1 hM1 c0 c1 ⊢
  obtain ⟨N1, hN1⟩ : ∃ N1, W1.heap.size = N1 := ⟨_, rfl⟩
  rw [hN1] at hsz1
  have HM1 : Hid (MaxL W1) := hM1
  clear hnw hW1 hM1
  go_loopw [4, 17] (fun o i wr => ∃ (k : Nat), k ≤ 2 ∧ i = .int .i64 k ∧ wr.ownsRow N1 34 2 o k (flat (twelve.take k)) ∧ Below N1 W1 wr) (fun _ i _ => 2 - (intOf i).toNat)
  case atStart => exact ⟨0, by omega, rfl, by simpa [flat] using World.ownsRow_nil _ _ _ _, Below.refl _ _⟩
  case round =>
    obtain ⟨k, hk, rfl, hrow, hB⟩ := hrel
    have hsz := hB.size
    by_cases hlt : k < 2
    · by_cases hk0 : k = 0
      · obtain rfl : k = 0 := by omega
        have d1 := (hB.cell (p := ⟨W.heap.size, 0, none⟩) (by rw [← hsz1]; simp)).trans c0
        have hMr := HM1.out.below hB (by omega)
        go_wp2_with fail
        refine (hp1 _ hMr).mono ?_
        rintro e w2 ⟨rfl, hb2⟩
        have hr2 := own_keepB hrow hb2
        have hB2 : Below N1 W1 w2 := hB.trans (hb2.mono (by rw [← hN1]; exact hB.size))
        have hs2 := hB2.size
        have hr3 := World.ownsRow.alloc hr2 (Obj.cells #[Value.int IntKind.i64 1, Value.int IntKind.i64 1] 34)
        clear hrow hb2 hr2 hp1 hp2
        go_wp2_with (at_builtin; refine wpList_append_own _ rfl _ _ 22 rfl N1 34 i0 (.agg #[.int .i64 0, .int .i64 0]) 2 16 Tryd.underlying22 hi0 hz0 hz1 hz2 rfl (by decide) _ _ _ rfl (World.ownsRow.alloc hr3 _) ⟨w2.heap.size + 1, 0, none⟩ 1 1 [.int .i64 1, .int .i64 1] rfl rfl (by have h9 := cell_two_new (w2.alloc (Obj.cells #[Value.int IntKind.i64 1, Value.int IntKind.i64 1] 34)) (.int .i64 1) (.int .i64 1) 34; rw [World.size_alloc] at h9; exact h9) (by simp [Value.oneCell']) (by unfold maxLen; omega) (by omega) (by simp; omega) ?_; intro v' w3 hown' hgrow hnl; have hB3 : Below N1 W1 w3 := ((hB2.alloc (by omega) _).alloc (by simp; omega) _).grown hgrow (by simp; omega) (fun j e => (World.ownsRow.lt hr3 j e).1); clear hgrow)
        go_roundw
        case rel => exact ⟨1, by omega, by first | rfl | go_num, by simpa [twelve, flat] using hown', hB3⟩
        case measure => simp [intOf]
      · obtain rfl : k = 1 := by omega
        have d1 := (hB.cell (p := ⟨W.heap.size, 1, none⟩) (by rw [← hsz1]; simp)).trans c1
        have hMr := HM1.out.below hB (by omega)
        go_wp2_with fail
        refine (hp2 _ hMr).mono ?_
        rintro e w2 ⟨rfl, hb2⟩
        have hr2 := own_keepB hrow hb2
        have hB2 : Below N1 W1 w2 := hB.trans (hb2.mono (by rw [← hN1]; exact hB.size))
        have hs2 := hB2.size
        have hr3 := World.ownsRow.alloc hr2 (Obj.cells #[Value.int IntKind.i64 2, Value.int IntKind.i64 2] 34)
        clear hrow hb2 hr2 hp1 hp2
        go_wp2_with (at_builtin; refine wpList_append_own _ rfl _ _ 22 rfl N1 34 i0 (.agg #[.int .i64 0, .int .i64 0]) 2 16 Tryd.underlying22 hi0 hz0 hz1 hz2 rfl (by decide) _ _ _ rfl (World.ownsRow.alloc hr3 _) ⟨w2.heap.size + 1, 0, none⟩ 1 1 [.int .i64 2, .int .i64 2] rfl rfl (by have h9 := cell_two_new (w2.alloc (Obj.cells #[Value.int IntKind.i64 2, Value.int IntKind.i64 2] 34)) (.int .i64 2) (.int .i64 2) 34; rw [World.size_alloc] at h9; exact h9) (by simp [Value.oneCell']) (by unfold maxLen; omega) (by omega) (by simp; omega) ?_; intro v' w3 hown' hgrow hnl; have hB3 : Below N1 W1 w3 := ((hB2.alloc (by omega) _).alloc (by simp; omega) _).grown hgrow (by simp; omega) (fun j e => (World.ownsRow.lt hr3 j e).1); clear hgrow)
        go_roundw
        case rel => exact ⟨2, by omega, by first | rfl | go_num, by simpa [twelve, flat] using hown', hB3⟩
        case measure => simp [intOf]
    · obtain rfl : k = 2 := by omega
      have hS : Sr wr u4 twelve := own_srl (l := twelve) (base := N1) (by simpa [twelve] using hrow)
      have hcon := domtext_no _ _ _ hS (by intro i hi; have h9 : i = 0 ∨ i = 1 := by simp [twelve] at hi; omega
                                           rcases h9 with rfl | rfl <;> simp [twelve, lo, Go.Proofs.YtopelhdepocoiaaDoor.hi, Fits]) twelve_no
      have hS2 := hS
      obtain ⟨a4, c4, rfl, _⟩ := hS2
      clear hrow hS hp1 hp2
      go_wp2_with fail
      refine hcon.mono ?_
      rintro e w2 ⟨rfl, hb2⟩
      clear hcon
      have hB2 : Below W.heap.size W w2 := hb1.trans ((hB.mono (by omega)).trans (hb2.mono (by omega)))
      go_wp2
      go_ret2
      exact ⟨rfl, hB2⟩
end Go.Proofs.YtopelhdepocoiaaDoor

