/-
  What is proved here: what sets.begun.with returns.
-/
import Derived.Test.YtacnhkaibcjjgaaGreatDoorFa
namespace Go.Proofs.YtacnhkaibcjjgaaGreatDoor
open Go.RowKit Go.Shelf
set_option linter.unusedVariables false
set_option linter.unusedSimpArgs false

/-- The cells of a set that is begun. -/
def begV (f : Nat → Bool) (at_ have_ needed : Int) : Array Value := bits64 f ++ #[.int .i64 at_, .int .i64 have_, .int .i64 needed]
theorem beg_size (f : Nat → Bool) (a h n : Int) : (begV f a h n).size = 67 := by unfold begV; rw [Array.size_append, bits64_size]; rfl
theorem beg_one (f : Nat → Bool) (a h n : Int) : (begV f a h n).all (·.oneCell') = true := by
  unfold begV; rw [Array.all_append, bits64_one]; simp [Value.oneCell']
theorem beg_get (f : Nat → Bool) (a h n : Int) : (∀ j, j < 64 → (begV f a h n)[j]? = some (.bool (f j))) ∧ (begV f a h n)[64]? = some (.int .i64 a) ∧ (begV f a h n)[65]? = some (.int .i64 h) ∧ (begV f a h n)[66]? = some (.int .i64 n) := by
  have hs := bits64_size f
  refine ⟨fun j hj => ?_, ?_, ?_, ?_⟩
  · unfold begV; rw [Array.getElem?_append_left (by omega)]; exact bits64_get f j hj
  · unfold begV; rw [Array.getElem?_append_right (by omega), hs]; rfl
  · unfold begV; rw [Array.getElem?_append_right (by omega), hs]; rfl
  · unfold begV; rw [Array.getElem?_append_right (by omega), hs]; rfl
theorem beg_ext {T : Array Value} {f : Nat → Bool} {a h n : Int} (hs : T.size = 67) (h0 : ∀ j, j < 64 → T[j]? = some (.bool (f j))) (h1 : T[64]? = some (.int .i64 a)) (h2 : T[65]? = some (.int .i64 h)) (h3 : T[66]? = some (.int .i64 n)) : T = begV f a h n := by
  obtain ⟨g1, g2, g3, g4⟩ := beg_get f a h n
  apply Array.ext_getElem?
  intro j
  rcases Nat.lt_or_ge j 64 with hj | hj
  · rw [h0 j hj, g1 j hj]
  · rcases Nat.lt_or_ge j 67 with hj2 | hj2
    · have : j = 64 ∨ j = 65 ∨ j = 66 := by omega
      rcases this with rfl | rfl | rfl
      · rw [h1, g2]
      · rw [h2, g3]
      · rw [h3, g4]
    · rw [Array.getElem?_eq_none (by omega), Array.getElem?_eq_none (by rw [beg_size]; omega)]
theorem beg_set (f : Nat → Bool) (i : Nat) (hi : i < 64) (a h n a' h' n' : Int) :
    ((((begV f a h n).setIfInBounds i (.bool true)).setIfInBounds 64 (.int .i64 a')).setIfInBounds 65 (.int .i64 h')).setIfInBounds 66 (.int .i64 n') = begV (fun j => if j = i then true else f j) a' h' n' := by
  obtain ⟨g1, g2, g3, g4⟩ := beg_get f a h n
  have hs := beg_size f a h n
  refine beg_ext (by simp [hs]) (fun j hj => ?_) ?_ ?_ ?_
  · simp only [Array.getElem?_setIfInBounds]
    rw [if_neg (by omega), if_neg (by omega), if_neg (by omega)]
    by_cases e : i = j
    · subst e; simp [hs]; omega
    · rw [if_neg e, if_neg (fun h => e h.symm)]; exact g1 j hj
  · simp [Array.getElem?_setIfInBounds, hs]
  · simp [Array.getElem?_setIfInBounds, hs]
  · simp [Array.getElem?_setIfInBounds, hs]
theorem beg_set3 (f : Nat → Bool) (i : Nat) (hi : i < 64) (a h n a' h' : Int) :
    (((begV f a h n).setIfInBounds i (.bool true)).setIfInBounds 64 (.int .i64 a')).setIfInBounds 65 (.int .i64 h') = begV (fun j => if j = i then true else f j) a' h' n := by
  obtain ⟨g1, g2, g3, g4⟩ := beg_get f a h n
  have hs := beg_size f a h n
  refine beg_ext (by simp [hs]) (fun j hj => ?_) ?_ ?_ ?_
  · simp only [Array.getElem?_setIfInBounds]
    rw [if_neg (by omega), if_neg (by omega)]
    by_cases e : i = j
    · subst e; simp [hs]; omega
    · rw [if_neg e, if_neg (fun h => e h.symm)]; exact g1 j hj
  · simp [Array.getElem?_setIfInBounds, hs]
  · simp [Array.getElem?_setIfInBounds, hs]
  · simp only [Array.getElem?_setIfInBounds]
    rw [if_neg (by omega), if_neg (by omega), if_neg (by omega)]; exact g4
theorem wrap_small {x : Int} (h1 : -1000000 ≤ x) (h2 : x ≤ 1000000) : IntKind.i64.wrap x = x := by rw [IntKind.wrap_i64]; omega
theorem info91 : (Tryz.prog.info? 91).map (fun i => (i.zero, i.size)) = some (some (.agg (begV (fun _ => false) 0 0 0)), 67) := by kernel_rfl
theorem size91 : (Tryz.prog.info? 91).map (·.size) = some 67 := by kernel_rfl
theorem cell_row {W : World} {g : Nat} {cur : Array Value} {t : TypeId} (h : W.heap[g]? = some (.cells cur t (0, 0))) (j : Nat) : W.cell? ⟨g, j, none⟩ = cur[j]? := by simp [World.cell?, h]

set_option maxRecDepth 100000 in
set_option maxHeartbeats 4000000 in
theorem with_true (f : Nat → Bool) (i : Nat) (hi : i < 64) (at_ have_ needed : Int) (h1 : 0 ≤ have_ ∧ have_ ≤ 1000) (h2 : -1000 ≤ needed ∧ needed ≤ 1000) (W : World) :
    Calls Tryz.prog 107 #[.agg (begV f at_ have_ needed), .int .i64 i, .bool true] W fun e w' => e = .returned (.agg (begV (fun j => if j = i then true else f j) ((i : Int) + 1) (have_ + 1) (needed - 1))) ∧ Below W.heap.size W w' := by
  obtain ⟨g1, g2, g3, g4⟩ := beg_get f at_ have_ needed
  have hTT := beg_set f i hi at_ have_ needed ((i : Int) + 1) (have_ + 1) (needed - 1)
  have hbs := beg_size f at_ have_ needed
  obtain ⟨BV, hBV⟩ : ∃ B, begV f at_ have_ needed = B := ⟨_, rfl⟩
  rw [hBV] at g1 g2 g3 g4 hTT hbs ⊢
  obtain ⟨T, hT⟩ : ∃ T, begV (fun j => if j = i then true else f j) ((i : Int) + 1) (have_ + 1) (needed - 1) = T := ⟨_, rfl⟩
  have hTs := beg_size (fun j => if j = i then true else f j) ((i : Int) + 1) (have_ + 1) (needed - 1)
  have hone := beg_one (fun j => if j = i then true else f j) ((i : Int) + 1) (have_ + 1) (needed - 1)
  rw [hT] at hTT hTs hone ⊢
  obtain ⟨hz, hzs⟩ := zero_of_info info91
  obtain ⟨Z, hZ⟩ : ∃ Z : Array Value, begV (fun _ => false) 0 0 0 = Z := ⟨_, rfl⟩
  rw [hZ] at hz
  have hZs : Z.size = 67 := by rw [← hZ]; exact beg_size _ _ _ _
  obtain ⟨W2, hW2⟩ : ∃ X, (W.alloc (Obj.cells BV 91)).alloc (Obj.cells Z 91) = X := ⟨_, rfl⟩
  have hR1 : W2.heap[W.heap.size]? = some (.cells BV 91 (0, 0)) := by rw [← hW2]; exact (Below.heap_alloc _ _ _ (by simp)).trans (World.alloc_heap_new W _)
  have hR2 : W2.heap[W.heap.size + 1]? = some (.cells Z 91 (0, 0)) := by
    rw [← hW2]; have := World.alloc_heap_new (W.alloc (Obj.cells BV 91)) (Obj.cells Z 91); rwa [World.size_alloc] at this
  have hB0 : Below W.heap.size W W2 := by rw [← hW2]; exact ((Below.refl _ W).alloc (Nat.le_refl _) _).alloc (by simp) _
  have ci := (cell_row hR1 i).trans (g1 i hi)
  have c64 := (cell_row hR1 64).trans g2
  have c65 := (cell_row hR1 65).trans g3
  have c66 := (cell_row hR1 66).trans g4
  have fz : ∀ j, W2.frozen? ⟨W.heap.size, j, none⟩ = false := fun j => by simp [World.frozen?, hR1]
  have fi := fz i
  have f64 := fz 64
  have f65 := fz 65
  have f66 := fz 66
  have n64 : ¬ i = 64 := by omega
  have n65 : ¬ i = 65 := by omega
  have n66 : ¬ i = 66 := by omega
  have m64 : ¬ 64 = i := by omega
  have m65 : ¬ 65 = i := by omega
  have m66 : ¬ 66 = i := by omega
  have hi' : (i : Int) < 64 := by omega
  have wr1 : IntKind.i64.wrap ((i : Int) + 1) = (i : Int) + 1 := wrap_small (by omega) (by omega)
  have wr2 : IntKind.i64.wrap (have_ + 1) = have_ + 1 := wrap_small (by omega) (by omega)
  have wr3 : IntKind.i64.wrap (needed - 1) = needed - 1 := wrap_small (by omega) (by omega)
  have HA : Hid (BV.size = 67 ∧ T.size = 67 ∧ T.all (·.oneCell') = true ∧ Z.size = 67) := ⟨hbs, hTs, hone, hZs⟩
  have HT : Hid _ := hTT
  have HR : Hid (W2.heap[W.heap.size]? = some (.cells BV 91 (0, 0)) ∧ W2.heap[W.heap.size + 1]? = some (.cells Z 91 (0, 0))) := ⟨hR1, hR2⟩
  clear hbs hTs hone hzs hT hZ hBV hR1 hR2 g1 g2 g3 g4 fz hTT hZs
  go_enter Tryz.func107, Tryz.ntmps107
  go_upto_region 6 with (fail)
  have H1 : Hid (((((W2.setCell ⟨W.heap.size, i, none⟩ (.bool true)).setCell ⟨W.heap.size, 64, none⟩ (.int .i64 ((i : Int) + 1))).setCell ⟨W.heap.size, 65, none⟩ (.int .i64 (have_ + 1))).setCell ⟨W.heap.size, 66, none⟩ (.int .i64 (needed - 1))).heap[W.heap.size]? = some (.cells T 91 (0, 0))) := by
    unfold Hid
    rw [row_set (row_set (row_set (row_set HR.out.1 _ _) _ _) _ _) _ _]
    exact congrArg (fun q => some (Obj.cells q 91 (0, 0))) HT.out
  have H2 : Hid (((((W2.setCell ⟨W.heap.size, i, none⟩ (.bool true)).setCell ⟨W.heap.size, 64, none⟩ (.int .i64 ((i : Int) + 1))).setCell ⟨W.heap.size, 65, none⟩ (.int .i64 (have_ + 1))).setCell ⟨W.heap.size, 66, none⟩ (.int .i64 (needed - 1))).heap[W.heap.size + 1]? = some (.cells Z 91 (0, 0))) := by
    unfold Hid
    rw [heap_setCell_other _ _ _ _ (by simp), heap_setCell_other _ _ _ _ (by simp), heap_setCell_other _ _ _ _ (by simp), heap_setCell_other _ _ _ _ (by simp)]
    exact HR.out.2
  have hB1 : Below W.heap.size W ((((W2.setCell ⟨W.heap.size, i, none⟩ (.bool true)).setCell ⟨W.heap.size, 64, none⟩ (.int .i64 ((i : Int) + 1))).setCell ⟨W.heap.size, 65, none⟩ (.int .i64 (have_ + 1))).setCell ⟨W.heap.size, 66, none⟩ (.int .i64 (needed - 1))) := ((((hB0.setCell (p := ⟨W.heap.size, i, none⟩) (Nat.le_refl _) _).setCell (p := ⟨W.heap.size, 64, none⟩) (Nat.le_refl _) _).setCell (p := ⟨W.heap.size, 65, none⟩) (Nat.le_refl _) _).setCell (p := ⟨W.heap.size, 66, none⟩) (Nat.le_refl _) _)
  obtain ⟨W3, hW3⟩ : ∃ X, (((W2.setCell ⟨W.heap.size, i, none⟩ (.bool true)).setCell ⟨W.heap.size, 64, none⟩ (.int .i64 ((i : Int) + 1))).setCell ⟨W.heap.size, 65, none⟩ (.int .i64 (have_ + 1))).setCell ⟨W.heap.size, 66, none⟩ (.int .i64 (needed - 1)) = X := ⟨_, rfl⟩
  rw [hW3] at H1 H2 hB1 ⊢
  have HS : Hid ((Tryz.prog.info? 91).map (·.size) = some T.size) := by unfold Hid; rw [size91, HA.out.2.1]
  have HZT : Hid (Z.size = T.size ∧ T.all (·.oneCell') = true) := ⟨by rw [HA.out.2.1, HA.out.2.2.2], HA.out.2.2.1⟩
  have hB9 : Below W.heap.size W (W3.setRow (W.heap.size + 1) T) := below_setRow hB1 (Nat.le_succ _) T
  have H9 : Hid ((W3.setRow (W.heap.size + 1) T).heap[W.heap.size + 1]? = some (.cells T 91 (0, 0))) := setRow_heap W3 (W.heap.size + 1) Z T 91 (0, 0) H2.out
  clear hW3 ci c64 c65 c66 fi f64 f65 f66 n64 n65 n66 m64 m65 m66 hi' wr1 wr2 wr3 hz hW2 hB0 HR HT HA
  go_wp2_with (first | (with_reducible refine wpList_load_row rfl 91 (.tmp 3) rfl W.heap.size (by with_unfolding_all rfl) 91 T (0, 0) _ H1.out Tryz.underlying91 rfl HS.out ?_) | (with_reducible refine wpList_store_row rfl 91 (.tmp 6) (.tmp 22) rfl (W.heap.size + 1) T (by with_unfolding_all rfl) (by with_unfolding_all rfl) 91 Z H2.out HS.out HZT.out.1 HZT.out.2 ?_))
  refine ⟨rfl, .agg T, ?_, rfl, hB9⟩
  exact results_cell_row (P := Tryz.prog) rfl _ _ (W.heap.size + 1) 91 T (0, 0) _ rfl H9.out Tryz.underlying91 rfl HS.out

set_option maxRecDepth 100000 in
set_option maxHeartbeats 4000000 in
theorem with_false (f : Nat → Bool) (i : Nat) (hi : i < 64) (at_ have_ needed : Int) (h1 : 0 ≤ have_ ∧ have_ ≤ 1000) (h2 : -1000 ≤ needed ∧ needed ≤ 1000) (W : World) :
    Calls Tryz.prog 107 #[.agg (begV f at_ have_ needed), .int .i64 i, .bool false] W fun e w' => e = .returned (.agg (begV (fun j => if j = i then true else f j) ((i : Int) + 1) (have_ + 1) (needed))) ∧ Below W.heap.size W w' := by
  obtain ⟨g1, g2, g3, g4⟩ := beg_get f at_ have_ needed
  have hTT := beg_set3 f i hi at_ have_ needed ((i : Int) + 1) (have_ + 1)
  have hbs := beg_size f at_ have_ needed
  obtain ⟨BV, hBV⟩ : ∃ B, begV f at_ have_ needed = B := ⟨_, rfl⟩
  rw [hBV] at g1 g2 g3 g4 hTT hbs ⊢
  obtain ⟨T, hT⟩ : ∃ T, begV (fun j => if j = i then true else f j) ((i : Int) + 1) (have_ + 1) (needed) = T := ⟨_, rfl⟩
  have hTs := beg_size (fun j => if j = i then true else f j) ((i : Int) + 1) (have_ + 1) (needed)
  have hone := beg_one (fun j => if j = i then true else f j) ((i : Int) + 1) (have_ + 1) (needed)
  rw [hT] at hTT hTs hone ⊢
  obtain ⟨hz, hzs⟩ := zero_of_info info91
  obtain ⟨Z, hZ⟩ : ∃ Z : Array Value, begV (fun _ => false) 0 0 0 = Z := ⟨_, rfl⟩
  rw [hZ] at hz
  have hZs : Z.size = 67 := by rw [← hZ]; exact beg_size _ _ _ _
  obtain ⟨W2, hW2⟩ : ∃ X, (W.alloc (Obj.cells BV 91)).alloc (Obj.cells Z 91) = X := ⟨_, rfl⟩
  have hR1 : W2.heap[W.heap.size]? = some (.cells BV 91 (0, 0)) := by rw [← hW2]; exact (Below.heap_alloc _ _ _ (by simp)).trans (World.alloc_heap_new W _)
  have hR2 : W2.heap[W.heap.size + 1]? = some (.cells Z 91 (0, 0)) := by
    rw [← hW2]; have := World.alloc_heap_new (W.alloc (Obj.cells BV 91)) (Obj.cells Z 91); rwa [World.size_alloc] at this
  have hB0 : Below W.heap.size W W2 := by rw [← hW2]; exact ((Below.refl _ W).alloc (Nat.le_refl _) _).alloc (by simp) _
  have ci := (cell_row hR1 i).trans (g1 i hi)
  have c64 := (cell_row hR1 64).trans g2
  have c65 := (cell_row hR1 65).trans g3
  have c66 := (cell_row hR1 66).trans g4
  have fz : ∀ j, W2.frozen? ⟨W.heap.size, j, none⟩ = false := fun j => by simp [World.frozen?, hR1]
  have fi := fz i
  have f64 := fz 64
  have f65 := fz 65
  have f66 := fz 66
  have n64 : ¬ i = 64 := by omega
  have n65 : ¬ i = 65 := by omega
  have n66 : ¬ i = 66 := by omega
  have m64 : ¬ 64 = i := by omega
  have m65 : ¬ 65 = i := by omega
  have m66 : ¬ 66 = i := by omega
  have hi' : (i : Int) < 64 := by omega
  have wr1 : IntKind.i64.wrap ((i : Int) + 1) = (i : Int) + 1 := wrap_small (by omega) (by omega)
  have wr2 : IntKind.i64.wrap (have_ + 1) = have_ + 1 := wrap_small (by omega) (by omega)
  have wr3 : IntKind.i64.wrap (needed - 1) = needed - 1 := wrap_small (by omega) (by omega)
  have HA : Hid (BV.size = 67 ∧ T.size = 67 ∧ T.all (·.oneCell') = true ∧ Z.size = 67) := ⟨hbs, hTs, hone, hZs⟩
  have HT : Hid _ := hTT
  have HR : Hid (W2.heap[W.heap.size]? = some (.cells BV 91 (0, 0)) ∧ W2.heap[W.heap.size + 1]? = some (.cells Z 91 (0, 0))) := ⟨hR1, hR2⟩
  clear hbs hTs hone hzs hT hZ hBV hR1 hR2 g1 g2 g3 g4 fz hTT hZs
  go_enter Tryz.func107, Tryz.ntmps107
  go_upto_region 6 with (fail)
  have H1 : Hid (((((W2.setCell ⟨W.heap.size, i, none⟩ (.bool true)).setCell ⟨W.heap.size, 64, none⟩ (.int .i64 ((i : Int) + 1))).setCell ⟨W.heap.size, 65, none⟩ (.int .i64 (have_ + 1)))).heap[W.heap.size]? = some (.cells T 91 (0, 0))) := by
    unfold Hid
    rw [row_set (row_set (row_set HR.out.1 _ _) _ _) _ _]
    exact congrArg (fun q => some (Obj.cells q 91 (0, 0))) HT.out
  have H2 : Hid (((((W2.setCell ⟨W.heap.size, i, none⟩ (.bool true)).setCell ⟨W.heap.size, 64, none⟩ (.int .i64 ((i : Int) + 1))).setCell ⟨W.heap.size, 65, none⟩ (.int .i64 (have_ + 1)))).heap[W.heap.size + 1]? = some (.cells Z 91 (0, 0))) := by
    unfold Hid
    rw [heap_setCell_other _ _ _ _ (by simp), heap_setCell_other _ _ _ _ (by simp), heap_setCell_other _ _ _ _ (by simp)]
    exact HR.out.2
  have hB1 : Below W.heap.size W ((((W2.setCell ⟨W.heap.size, i, none⟩ (.bool true)).setCell ⟨W.heap.size, 64, none⟩ (.int .i64 ((i : Int) + 1))).setCell ⟨W.heap.size, 65, none⟩ (.int .i64 (have_ + 1)))) := (((hB0.setCell (p := ⟨W.heap.size, i, none⟩) (Nat.le_refl _) _).setCell (p := ⟨W.heap.size, 64, none⟩) (Nat.le_refl _) _).setCell (p := ⟨W.heap.size, 65, none⟩) (Nat.le_refl _) _)
  obtain ⟨W3, hW3⟩ : ∃ X, (((W2.setCell ⟨W.heap.size, i, none⟩ (.bool true)).setCell ⟨W.heap.size, 64, none⟩ (.int .i64 ((i : Int) + 1))).setCell ⟨W.heap.size, 65, none⟩ (.int .i64 (have_ + 1))) = X := ⟨_, rfl⟩
  rw [hW3] at H1 H2 hB1 ⊢
  have HS : Hid ((Tryz.prog.info? 91).map (·.size) = some T.size) := by unfold Hid; rw [size91, HA.out.2.1]
  have HZT : Hid (Z.size = T.size ∧ T.all (·.oneCell') = true) := ⟨by rw [HA.out.2.1, HA.out.2.2.2], HA.out.2.2.1⟩
  have hB9 : Below W.heap.size W (W3.setRow (W.heap.size + 1) T) := below_setRow hB1 (Nat.le_succ _) T
  have H9 : Hid ((W3.setRow (W.heap.size + 1) T).heap[W.heap.size + 1]? = some (.cells T 91 (0, 0))) := setRow_heap W3 (W.heap.size + 1) Z T 91 (0, 0) H2.out
  clear hW3 ci c64 c65 c66 fi f64 f65 f66 n64 n65 n66 m64 m65 m66 hi' wr1 wr2 wr3 hz hW2 hB0 HR HT HA
  go_wp2_with (first | (with_reducible refine wpList_load_row rfl 91 (.tmp 3) rfl W.heap.size (by with_unfolding_all rfl) 91 T (0, 0) _ H1.out Tryz.underlying91 rfl HS.out ?_) | (with_reducible refine wpList_store_row rfl 91 (.tmp 6) (.tmp 22) rfl (W.heap.size + 1) T (by with_unfolding_all rfl) (by with_unfolding_all rfl) 91 Z H2.out HS.out HZT.out.1 HZT.out.2 ?_))
  refine ⟨rfl, .agg T, ?_, rfl, hB9⟩
  exact results_cell_row (P := Tryz.prog) rfl _ _ (W.heap.size + 1) 91 T (0, 0) _ rfl H9.out Tryz.underlying91 rfl HS.out
end Go.Proofs.YtacnhkaibcjjgaaGreatDoor
