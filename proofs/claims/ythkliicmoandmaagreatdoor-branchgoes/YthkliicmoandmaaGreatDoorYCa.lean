/-
  What is proved here: what sets.choices returns: a row of Pascal's triangle.
-/
import Derived.Test.YthkliicmoandmaaGreatDoorYFb
import Derived.Great.BuildSlice
namespace Go.Proofs.YthkliicmoandmaaGreatDoor.St
open Go.RowKit Go.Shelf
set_option linter.unusedVariables false
set_option linter.unusedSimpArgs false

/-- How many ways there are to choose k of r. -/
def ch : Nat → Nat → Int
  | 0, k => if k = 0 then 1 else 0
  | r + 1, k => if k = 0 then ch r 0 else ch r k + ch r (k - 1)
theorem ch_nonneg : ∀ r k, 0 ≤ ch r k
  | 0, k => by unfold ch; split <;> decide
  | r + 1, k => by unfold ch; split; exact ch_nonneg r 0; exact Int.add_nonneg (ch_nonneg r k) (ch_nonneg r (k - 1))
theorem ch_zero : ∀ r k, r < k → ch r k = 0
  | 0, k, h => by unfold ch; rw [if_neg (by omega)]
  | r + 1, k, h => by unfold ch; rw [if_neg (by omega), ch_zero r k (by omega), ch_zero r (k - 1) (by omega)]; rfl
theorem ch_first : ∀ r, ch r 0 = 1
  | 0 => rfl
  | r + 1 => by unfold ch; rw [if_pos rfl]; exact ch_first r
theorem ch_pow : ∀ r k, ch r k ≤ 2 ^ r
  | 0, k => by unfold ch; split <;> decide
  | r + 1, k => by
    unfold ch
    have h1 := ch_pow r k
    have h2 := ch_pow r (k - 1)
    have h3 := ch_pow r 0
    have h4 : (2 : Int) ^ (r + 1) = 2 ^ r + 2 ^ r := by rw [Int.pow_succ]; omega
    have h5 : (0 : Int) ≤ 2 ^ r := Int.le_trans (ch_nonneg r k) h1
    split <;> omega
theorem ch_base : ∀ k, k ≤ 12 → ch 12 k ≤ 924 := by decide +kernel
theorem ch_twelve : ∀ t k, ch (12 + t) k ≤ 924 * 2 ^ t
  | 0, k => by
    rcases Nat.lt_or_ge 12 k with h | h
    · rw [Nat.add_zero, ch_zero 12 k h]; decide
    · have := ch_base k h; simpa using this
  | t + 1, k => by
    have h1 := ch_twelve t k
    have h2 := ch_twelve t (k - 1)
    have h3 := ch_twelve t 0
    have h4 : (2 : Int) ^ (t + 1) = 2 ^ t + 2 ^ t := by rw [Int.pow_succ]; omega
    have h5 := ch_nonneg (12 + t) k
    have h6 := ch_nonneg (12 + t) (k - 1)
    show ch (12 + t + 1) k ≤ _
    unfold ch
    split <;> omega
theorem pow_mono2 {a b : Nat} (h : a ≤ b) : (2 : Int) ^ a ≤ 2 ^ b := by
  have := Nat.pow_le_pow_right (n := 2) (by decide) h
  exact_mod_cast this
theorem ch_lt (r k : Nat) (hr : r ≤ 64) : ch r k < 4611686018427387904 := by
  rcases Nat.lt_or_ge r 12 with h | h
  · have h1 := ch_pow r k
    have h2 := pow_mono2 (show r ≤ 12 by omega)
    have h3 : (2 : Int) ^ 12 = 4096 := by decide
    omega
  · obtain ⟨t, rfl⟩ : ∃ t, r = 12 + t := ⟨r - 12, by omega⟩
    have h1 := ch_twelve t k
    have h2 := pow_mono2 (show t ≤ 52 by omega)
    have h3 : (2 : Int) ^ 52 = 4503599627370496 := by decide
    omega

/-- 65 numbers as cells. -/
def row65 (g : Nat → Int) : Array Value := ((List.range 65).map fun j => Value.int .i64 (g j)).toArray
theorem row65_size (g : Nat → Int) : (row65 g).size = 65 := by simp [row65]
theorem row65_get (g : Nat → Int) (k : Nat) (h : k < 65) : (row65 g)[k]? = some (.int .i64 (g k)) := by simp [row65, h]
theorem row65_ext {T : Array Value} {g : Nat → Int} (hs : T.size = 65) (h : ∀ k, k < 65 → T[k]? = some (.int .i64 (g k))) : T = row65 g := by
  apply Array.ext_getElem?
  intro j
  rcases Nat.lt_or_ge j 65 with hj | hj
  · rw [h j hj, row65_get g j hj]
  · rw [Array.getElem?_eq_none (by omega), Array.getElem?_eq_none (by rw [row65_size]; omega)]
theorem row65_set (g : Nat → Int) (k : Nat) (x : Int) : (row65 g).setIfInBounds k (.int .i64 x) = row65 (fun j => if j = k then x else g j) := by
  refine row65_ext (by simp [row65_size]) fun j hj => ?_
  rw [Array.getElem?_setIfInBounds]
  by_cases e : k = j
  · subst e; rw [if_pos rfl, if_pos (by rw [row65_size]; exact hj), if_pos rfl]
  · rw [if_neg e, if_neg (fun h => e h.symm), row65_get g j hj]
theorem row65_congr {f g : Nat → Int} (h : ∀ j, j < 65 → f j = g j) : row65 f = row65 g :=
  row65_ext (row65_size f) fun k hk => by rw [row65_get f k hk, h k hk]
theorem row65_one (g : Nat → Int) : (row65 g).all (·.oneCell') = true := by
  rw [Array.all_eq_true_iff_forall_mem]
  intro v hv
  unfold row65 at hv
  simp only [List.mem_toArray, List.mem_map] at hv
  obtain ⟨j, _, rfl⟩ := hv
  rfl
theorem info82 : (Tryz.prog.info? 183).map (fun i => (i.zero, i.size)) = some (some (.agg (row65 (fun _ => 0))), 65) := by kernel_rfl
theorem size82 : (Tryz.prog.info? 183).map (·.size) = some 65 := by kernel_rfl
/-- A row on its way from one row of the triangle to the next. -/
def chMid (r k : Nat) (j : Nat) : Int := if k < j then ch r j + ch r (j - 1) else ch r j
theorem chMid_top (r : Nat) : row65 (chMid r 64) = row65 (ch r) := row65_congr fun j hj => by unfold chMid; rw [if_neg (by omega)]
theorem chMid_end (r : Nat) : row65 (chMid r 0) = row65 (ch (r + 1)) := row65_congr fun j hj => by
  unfold chMid; rw [ch]
  by_cases h : j = 0
  · subst h; simp
  · rw [if_pos (by omega), if_neg h]
theorem chMid_step (r k : Nat) : row65 (fun j => if j = k + 1 then ch r (k + 1) + ch r k else chMid r (k + 1) j) = row65 (chMid r k) := row65_congr fun j hj => by
  unfold chMid
  by_cases h : j = k + 1
  · subst h; rw [if_pos rfl, if_pos (by omega)]; rfl
  · rw [if_neg h]
    by_cases h2 : k + 1 < j
    · rw [if_pos h2, if_pos (by omega)]
    · rw [if_neg h2, if_neg (by omega)]

set_option maxRecDepth 100000 in
set_option maxHeartbeats 4000000 in
theorem choices_any (n : Nat) (hn : n ≤ 64) (W : World) :
    Calls Tryz.prog 162 #[.int .i64 n] W fun e w' => e = .returned (.agg (row65 (ch n))) ∧ Below W.heap.size W w' := by
  obtain ⟨hz, _⟩ := zero_of_info info82
  obtain ⟨Z, hZ⟩ : ∃ Z : Array Value, row65 (fun _ => 0) = Z := ⟨_, rfl⟩
  have hZ1 : row65 (ch 0) = Z.setIfInBounds 0 (.int .i64 1) := by
    rw [← hZ, row65_set]; exact row65_congr fun j hj => rfl
  obtain ⟨O, hO⟩ : ∃ O : Array Value, Z.setIfInBounds 0 (.int .i64 1) = O := ⟨_, rfl⟩
  rw [hZ] at hz
  rw [hO] at hZ1
  have HZ : Hid (row65 (fun _ => 0) = Z ∧ row65 (ch 0) = O) := ⟨hZ, hZ1⟩
  clear hZ hZ1
  have HS : Hid ((Tryz.prog.info? 183).map (·.size) = some 65) := size82
  obtain ⟨hZs, hOs, hOo⟩ : Z.size = 65 ∧ O.size = 65 ∧ O.all (·.oneCell') = true := by
    rw [← HZ.out.1, ← HZ.out.2]; exact ⟨row65_size _, row65_size _, row65_one _⟩
  obtain ⟨W1, hW1⟩ : ∃ X, (W.alloc (Obj.cells Z 183)).alloc (Obj.cells Z 183) = X := ⟨_, rfl⟩
  have hg1 : W1.heap[W.heap.size]? = some (.cells Z 183 (0, 0)) := by rw [← hW1]; exact (Below.heap_alloc _ _ _ (by simp)).trans (World.alloc_heap_new W _)
  have hg2 : W1.heap[W.heap.size + 1]? = some (.cells Z 183 (0, 0)) := by
    rw [← hW1]; have := World.alloc_heap_new (W.alloc (Obj.cells Z 183)) (Obj.cells Z 183); rwa [World.size_alloc] at this
  have hB0 : Below W.heap.size W W1 := by rw [← hW1]; exact ((Below.refl _ W).alloc (Nat.le_refl _) _).alloc (by simp) _
  have HG : Hid (W1.heap[W.heap.size + 1]? = some (.cells Z 183 (0, 0)) ∧ (Tryz.prog.info? 183).map (·.size) = some O.size ∧ Z.size = O.size ∧ O.all (·.oneCell') = true) := ⟨hg2, by rw [hOs]; exact size82, by rw [hZs, hOs], hOo⟩
  have hB1 : Below W.heap.size W (W1.setRow (W.heap.size + 1) O) := below_setRow hB0 (Nat.le_succ _) O
  have H1 : Hid ((W1.setRow (W.heap.size + 1) O).heap[W.heap.size]? = some (.cells Z 183 (0, 0))) := (setRow_other W1 (W.heap.size + 1) W.heap.size O (by omega)).trans hg1
  have H2 : Hid ((W1.setRow (W.heap.size + 1) O).heap[W.heap.size + 1]? = some (.cells (row65 (ch 0)) 183 (0, 0))) := by
    unfold Hid; rw [HZ.out.2]; exact setRow_heap W1 (W.heap.size + 1) Z O 183 (0, 0) hg2
  have HZs : Hid (Z.size = 65) := hZs
  clear hg1 hg2 hOs hOo hB0
  have hne : ¬ Z = #[] := fun h => by rw [h] at hZs; simp at hZs
  go_enter Tryz.func162, Tryz.ntmps162
  go_upto_region 2 with (first | (with_reducible refine wpList_store_row rfl 183 (.tmp 3) (.tmp 5) rfl (W.heap.size + 1) O (by with_unfolding_all rfl) (by with_unfolding_all rfl) 183 Z HG.out.1 HG.out.2.1 HG.out.2.2.1 HG.out.2.2.2 ?_))
  generalize W1.setRow (W.heap.size + 1) O = W2 at H1 H2 hB1 ⊢
  have HH : Hid (W2.heap[W.heap.size]? = some (.cells Z 183 (0, 0)) ∧ W2.heap[W.heap.size + 1]? = some (.cells (row65 (ch 0)) 183 (0, 0)) ∧ Below W.heap.size W W2) := ⟨H1.out, H2.out, hB1⟩
  clear hW1 hO HG H1 H2 hB1 hz hZs hne
  simp only [Act.put]
  go_wp2
  go_loopw [7] (fun i wr => ∃ r : Nat, r ≤ n ∧ i = .int .i64 r ∧ Hid (wr.heap[W.heap.size]? = some (.cells Z 183 (0, 0)) ∧ wr.heap[W.heap.size + 1]? = some (.cells (row65 (ch r)) 183 (0, 0)) ∧ Below W.heap.size W wr)) (fun i _ => n - (intOf i).toNat)
  case atStart => exact ⟨0, Nat.zero_le _, rfl, HH.out⟩
  case round =>
    obtain ⟨r, hr, rfl, Hr⟩ := hrel
    clear HH
    by_cases hlt : r < n
    · have hlt' : (r : Int) < (n : Int) := by omega
      go_wp2
      go_loopw [4] (fun i w2 => ∃ k : Nat, k ≤ 64 ∧ i = .int .i64 k ∧ Hid (w2.heap[W.heap.size]? = some (.cells Z 183 (0, 0)) ∧ w2.heap[W.heap.size + 1]? = some (.cells (row65 (chMid r k)) 183 (0, 0)) ∧ Below W.heap.size W w2)) (fun i _ => (intOf i).toNat)
      case atStart => exact ⟨64, Nat.le_refl _, rfl, Hr.out.1, by rw [chMid_top]; exact Hr.out.2.1, Hr.out.2.2⟩
      case round =>
        obtain ⟨k, hk, rfl, Hk⟩ := hrel
        cases k with
        | zero =>
          go_wp2
          refine ⟨⟨r + 1, by omega, by go_num, Hk.out.1, by rw [← chMid_end]; exact Hk.out.2.1, Hk.out.2.2⟩, ?_⟩
          simp [intOf]; omega
        | succ k =>
          have c1 : wr.cell? ⟨W.heap.size + 1, k + 1, none⟩ = some (.int .i64 (ch r (k + 1))) := by
            rw [cell_row Hk.out.2.1, row65_get _ _ (by omega)]; unfold chMid; rw [if_neg (by omega)]
          have c2 : wr.cell? ⟨W.heap.size + 1, k, none⟩ = some (.int .i64 (ch r k)) := by
            rw [cell_row Hk.out.2.1, row65_get _ _ (by omega)]; unfold chMid; rw [if_neg (by omega)]
          have f1 : wr.frozen? ⟨W.heap.size + 1, k + 1, none⟩ = false := by simp [World.frozen?, Hk.out.2.1]
          have b1 := ch_lt r (k + 1) (by omega)
          have b2 := ch_lt r k (by omega)
          have b3 := ch_nonneg r (k + 1)
          have b4 := ch_nonneg r k
          have hst := chMid_step r k
          generalize ch r (k + 1) = x at c1 b1 b3 hst
          generalize ch r k = y at c2 b2 b4 hst
          have hw : IntKind.i64.wrap (x + y) = x + y := by rw [IntKind.wrap_i64]; omega
          have hk65 : (k : Int) < 65 := by omega
          have hk66 : (k : Int) + 1 < 65 := by omega
          have hw3 : IntKind.i64.wrap ((k : Int) + 1 - 1) = (k : Int) := by rw [IntKind.wrap_i64]; omega
          have HST : Hid _ := hst
          clear hst
          have hBk : Hid (Below W.heap.size W (wr.setCell ⟨W.heap.size + 1, k + 1, none⟩ (.int .i64 (x + y))).drew) := (Hk.out.2.2.setCell (p := ⟨W.heap.size + 1, k + 1, none⟩) (Nat.le_succ _) _).drew
          go_wp2
          go_region
          all_goals
            go_wp2
            go_roundw
            case rel =>
              refine ⟨k, by omega, by go_num, ?_, ?_, hBk.out⟩
              · show (wr.setCell ⟨W.heap.size + 1, k + 1, none⟩ (.int .i64 (x + y))).heap[W.heap.size]? = _
                rw [heap_setCell_other _ _ _ _ (by simp)]; exact Hk.out.1
              · show (wr.setCell ⟨W.heap.size + 1, k + 1, none⟩ (.int .i64 (x + y))).heap[W.heap.size + 1]? = _
                rw [row_set Hk.out.2.1, row65_set, HST.out]
            case measure => simp [intOf]
    · obtain rfl : r = n := by omega
      have hlt' : ¬ (r : Int) < (r : Int) := by omega
      have hsz := row65_size (ch r)
      have hone := row65_one (ch r)
      obtain ⟨T, hT⟩ : ∃ T, row65 (ch r) = T := ⟨_, rfl⟩
      rw [hT] at Hr hsz hone
      have HT : Hid (row65 (ch r) = T) := hT
      have HA : Hid ((Tryz.prog.info? 183).map (·.size) = some T.size ∧ Z.size = T.size ∧ T.all (·.oneCell') = true) := ⟨by rw [hsz]; exact size82, by rw [hsz]; exact HZs.out, hone⟩
      have hB9 : Below W.heap.size W (wr.setRow W.heap.size T) := below_setRow Hr.out.2.2 (Nat.le_refl _) T
      have H9 : Hid ((wr.setRow W.heap.size T).heap[W.heap.size]? = some (.cells T 183 (0, 0))) := setRow_heap wr W.heap.size Z T 183 (0, 0) Hr.out.1
      clear hsz hone hT
      go_wp2_with (first | (with_reducible refine wpList_load_row rfl 183 (.tmp 3) rfl (W.heap.size + 1) (by with_unfolding_all rfl) 183 T (0, 0) _ Hr.out.2.1 Tryz.underlying183 rfl HA.out.1 ?_) | (with_reducible refine wpList_store_row rfl 183 (.tmp 2) (.tmp 23) rfl W.heap.size T (by with_unfolding_all rfl) (by with_unfolding_all rfl) 183 Z Hr.out.1 HA.out.1 HA.out.2.1 HA.out.2.2 ?_))
      refine ⟨rfl, .agg T, ?_, by rw [HT.out], hB9⟩
      exact results_cell_row (P := Tryz.prog) rfl _ _ W.heap.size 183 T (0, 0) _ rfl H9.out Tryz.underlying183 rfl HA.out.1
end Go.Proofs.YthkliicmoandmaaGreatDoor.St

