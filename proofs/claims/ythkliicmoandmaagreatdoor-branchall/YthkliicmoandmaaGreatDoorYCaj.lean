/-
  What is proved here: what sets.choices returns: a row of Pascal's triangle.
  What is proved here: what sets.Count returns of any domain.
  What is proved here: a row of six cells that holds a domain of sets: read, kept, written.
  What is proved here: the reference's Meet and Less of any lists.
-/
import Derived.Test.YthkliicmoandmaaGreatDoorYFb
import Derived.Great.BuildSlice
import Derived.Test.YthkliicmoandmaaGreatDoorYSdj
namespace Go.Proofs.YthkliicmoandmaaGreatDoor.St
open Go.RowKit Go.Shelf
set_option linter.unusedVariables false
set_option linter.unusedSimpArgs false

/-- How many ways there are to choose k of r. -/
def ch : Nat → Nat → Int
  | 0, k => if k = 0 then 1 else 0
  | r + 1, k => if k = 0 then ch r 0 else ch r k + ch r (k - 1)
theorem ch_nonneg : ∀ r k, 0 ≤ ch r k
  | 0, k => by unfold ch; split <;> decide
  | r + 1, k => by unfold ch; split; exact ch_nonneg r 0; exact Int.add_nonneg (ch_nonneg r k) (ch_nonneg r (k - 1))
theorem ch_zero : ∀ r k, r < k → ch r k = 0
  | 0, k, h => by unfold ch; rw [if_neg (by omega)]
  | r + 1, k, h => by unfold ch; rw [if_neg (by omega), ch_zero r k (by omega), ch_zero r (k - 1) (by omega)]; rfl
theorem ch_first : ∀ r, ch r 0 = 1
  | 0 => rfl
  | r + 1 => by unfold ch; rw [if_pos rfl]; exact ch_first r
theorem ch_pow : ∀ r k, ch r k ≤ 2 ^ r
  | 0, k => by unfold ch; split <;> decide
  | r + 1, k => by
    unfold ch
    have h1 := ch_pow r k
    have h2 := ch_pow r (k - 1)
    have h3 := ch_pow r 0
    have h4 : (2 : Int) ^ (r + 1) = 2 ^ r + 2 ^ r := by rw [Int.pow_succ]; omega
    have h5 : (0 : Int) ≤ 2 ^ r := Int.le_trans (ch_nonneg r k) h1
    split <;> omega
theorem ch_base : ∀ k, k ≤ 12 → ch 12 k ≤ 924 := by decide +kernel
theorem ch_twelve : ∀ t k, ch (12 + t) k ≤ 924 * 2 ^ t
  | 0, k => by
    rcases Nat.lt_or_ge 12 k with h | h
    · rw [Nat.add_zero, ch_zero 12 k h]; decide
    · have := ch_base k h; simpa using this
  | t + 1, k => by
    have h1 := ch_twelve t k
    have h2 := ch_twelve t (k - 1)
    have h3 := ch_twelve t 0
    have h4 : (2 : Int) ^ (t + 1) = 2 ^ t + 2 ^ t := by rw [Int.pow_succ]; omega
    have h5 := ch_nonneg (12 + t) k
    have h6 := ch_nonneg (12 + t) (k - 1)
    show ch (12 + t + 1) k ≤ _
    unfold ch
    split <;> omega
theorem pow_mono2 {a b : Nat} (h : a ≤ b) : (2 : Int) ^ a ≤ 2 ^ b := by
  have := Nat.pow_le_pow_right (n := 2) (by decide) h
  exact_mod_cast this
theorem ch_lt (r k : Nat) (hr : r ≤ 64) : ch r k < 4611686018427387904 := by
  rcases Nat.lt_or_ge r 12 with h | h
  · have h1 := ch_pow r k
    have h2 := pow_mono2 (show r ≤ 12 by omega)
    have h3 : (2 : Int) ^ 12 = 4096 := by decide
    omega
  · obtain ⟨t, rfl⟩ : ∃ t, r = 12 + t := ⟨r - 12, by omega⟩
    have h1 := ch_twelve t k
    have h2 := pow_mono2 (show t ≤ 52 by omega)
    have h3 : (2 : Int) ^ 52 = 4503599627370496 := by decide
    omega

/-- 65 numbers as cells. -/
def row65 (g : Nat → Int) : Array Value := ((List.range 65).map fun j => Value.int .i64 (g j)).toArray
theorem row65_size (g : Nat → Int) : (row65 g).size = 65 := by simp [row65]
theorem row65_get (g : Nat → Int) (k : Nat) (h : k < 65) : (row65 g)[k]? = some (.int .i64 (g k)) := by simp [row65, h]
theorem row65_ext {T : Array Value} {g : Nat → Int} (hs : T.size = 65) (h : ∀ k, k < 65 → T[k]? = some (.int .i64 (g k))) : T = row65 g := by
  apply Array.ext_getElem?
  intro j
  rcases Nat.lt_or_ge j 65 with hj | hj
  · rw [h j hj, row65_get g j hj]
  · rw [Array.getElem?_eq_none (by omega), Array.getElem?_eq_none (by rw [row65_size]; omega)]
theorem row65_set (g : Nat → Int) (k : Nat) (x : Int) : (row65 g).setIfInBounds k (.int .i64 x) = row65 (fun j => if j = k then x else g j) := by
  refine row65_ext (by simp [row65_size]) fun j hj => ?_
  rw [Array.getElem?_setIfInBounds]
  by_cases e : k = j
  · subst e; rw [if_pos rfl, if_pos (by rw [row65_size]; exact hj), if_pos rfl]
  · rw [if_neg e, if_neg (fun h => e h.symm), row65_get g j hj]
theorem row65_congr {f g : Nat → Int} (h : ∀ j, j < 65 → f j = g j) : row65 f = row65 g :=
  row65_ext (row65_size f) fun k hk => by rw [row65_get f k hk, h k hk]
theorem row65_one (g : Nat → Int) : (row65 g).all (·.oneCell') = true := by
  rw [Array.all_eq_true_iff_forall_mem]
  intro v hv
  unfold row65 at hv
  simp only [List.mem_toArray, List.mem_map] at hv
  obtain ⟨j, _, rfl⟩ := hv
  rfl
theorem info82 : (Tryz.prog.info? 183).map (fun i => (i.zero, i.size)) = some (some (.agg (row65 (fun _ => 0))), 65) := by kernel_rfl
theorem size82 : (Tryz.prog.info? 183).map (·.size) = some 65 := by kernel_rfl
/-- A row on its way from one row of the triangle to the next. -/
def chMid (r k : Nat) (j : Nat) : Int := if k < j then ch r j + ch r (j - 1) else ch r j
theorem chMid_top (r : Nat) : row65 (chMid r 64) = row65 (ch r) := row65_congr fun j hj => by unfold chMid; rw [if_neg (by omega)]
theorem chMid_end (r : Nat) : row65 (chMid r 0) = row65 (ch (r + 1)) := row65_congr fun j hj => by
  unfold chMid; rw [ch]
  by_cases h : j = 0
  · subst h; simp
  · rw [if_pos (by omega), if_neg h]
theorem chMid_step (r k : Nat) : row65 (fun j => if j = k + 1 then ch r (k + 1) + ch r k else chMid r (k + 1) j) = row65 (chMid r k) := row65_congr fun j hj => by
  unfold chMid
  by_cases h : j = k + 1
  · subst h; rw [if_pos rfl, if_pos (by omega)]; rfl
  · rw [if_neg h]
    by_cases h2 : k + 1 < j
    · rw [if_pos h2, if_pos (by omega)]
    · rw [if_neg h2, if_neg (by omega)]

set_option maxRecDepth 100000 in
set_option maxHeartbeats 4000000 in
theorem choices_any (n : Nat) (hn : n ≤ 64) (W : World) :
    Calls Tryz.prog 162 #[.int .i64 n] W fun e w' => e = .returned (.agg (row65 (ch n))) ∧ Below W.heap.size W w' := by
  obtain ⟨hz, _⟩ := zero_of_info info82
  obtain ⟨Z, hZ⟩ : ∃ Z : Array Value, row65 (fun _ => 0) = Z := ⟨_, rfl⟩
  have hZ1 : row65 (ch 0) = Z.setIfInBounds 0 (.int .i64 1) := by
    rw [← hZ, row65_set]; exact row65_congr fun j hj => rfl
  obtain ⟨O, hO⟩ : ∃ O : Array Value, Z.setIfInBounds 0 (.int .i64 1) = O := ⟨_, rfl⟩
  rw [hZ] at hz
  rw [hO] at hZ1
  have HZ : Hid (row65 (fun _ => 0) = Z ∧ row65 (ch 0) = O) := ⟨hZ, hZ1⟩
  clear hZ hZ1
  have HS : Hid ((Tryz.prog.info? 183).map (·.size) = some 65) := size82
  obtain ⟨hZs, hOs, hOo⟩ : Z.size = 65 ∧ O.size = 65 ∧ O.all (·.oneCell') = true := by
    rw [← HZ.out.1, ← HZ.out.2]; exact ⟨row65_size _, row65_size _, row65_one _⟩
  obtain ⟨W1, hW1⟩ : ∃ X, (W.alloc (Obj.cells Z 183)).alloc (Obj.cells Z 183) = X := ⟨_, rfl⟩
  have hg1 : W1.heap[W.heap.size]? = some (.cells Z 183 (0, 0)) := by rw [← hW1]; exact (Below.heap_alloc _ _ _ (by simp)).trans (World.alloc_heap_new W _)
  have hg2 : W1.heap[W.heap.size + 1]? = some (.cells Z 183 (0, 0)) := by
    rw [← hW1]; have := World.alloc_heap_new (W.alloc (Obj.cells Z 183)) (Obj.cells Z 183); rwa [World.size_alloc] at this
  have hB0 : Below W.heap.size W W1 := by rw [← hW1]; exact ((Below.refl _ W).alloc (Nat.le_refl _) _).alloc (by simp) _
  have HG : Hid (W1.heap[W.heap.size + 1]? = some (.cells Z 183 (0, 0)) ∧ (Tryz.prog.info? 183).map (·.size) = some O.size ∧ Z.size = O.size ∧ O.all (·.oneCell') = true) := ⟨hg2, by rw [hOs]; exact size82, by rw [hZs, hOs], hOo⟩
  have hB1 : Below W.heap.size W (W1.setRow (W.heap.size + 1) O) := below_setRow hB0 (Nat.le_succ _) O
  have H1 : Hid ((W1.setRow (W.heap.size + 1) O).heap[W.heap.size]? = some (.cells Z 183 (0, 0))) := (setRow_other W1 (W.heap.size + 1) W.heap.size O (by omega)).trans hg1
  have H2 : Hid ((W1.setRow (W.heap.size + 1) O).heap[W.heap.size + 1]? = some (.cells (row65 (ch 0)) 183 (0, 0))) := by
    unfold Hid; rw [HZ.out.2]; exact setRow_heap W1 (W.heap.size + 1) Z O 183 (0, 0) hg2
  have HZs : Hid (Z.size = 65) := hZs
  clear hg1 hg2 hOs hOo hB0
  have hne : ¬ Z = #[] := fun h => by rw [h] at hZs; simp at hZs
  go_enter Tryz.func162, Tryz.ntmps162
  go_upto_region 2 with (first | (with_reducible refine wpList_store_row rfl 183 (.tmp 3) (.tmp 5) rfl (W.heap.size + 1) O (by with_unfolding_all rfl) (by with_unfolding_all rfl) 183 Z HG.out.1 HG.out.2.1 HG.out.2.2.1 HG.out.2.2.2 ?_))
  generalize W1.setRow (W.heap.size + 1) O = W2 at H1 H2 hB1 ⊢
  have HH : Hid (W2.heap[W.heap.size]? = some (.cells Z 183 (0, 0)) ∧ W2.heap[W.heap.size + 1]? = some (.cells (row65 (ch 0)) 183 (0, 0)) ∧ Below W.heap.size W W2) := ⟨H1.out, H2.out, hB1⟩
  clear hW1 hO HG H1 H2 hB1 hz hZs hne
  simp only [Act.put]
  go_wp2
  go_loopw [7] (fun i wr => ∃ r : Nat, r ≤ n ∧ i = .int .i64 r ∧ Hid (wr.heap[W.heap.size]? = some (.cells Z 183 (0, 0)) ∧ wr.heap[W.heap.size + 1]? = some (.cells (row65 (ch r)) 183 (0, 0)) ∧ Below W.heap.size W wr)) (fun i _ => n - (intOf i).toNat)
  case atStart => exact ⟨0, Nat.zero_le _, rfl, HH.out⟩
  case round =>
    obtain ⟨r, hr, rfl, Hr⟩ := hrel
    clear HH
    by_cases hlt : r < n
    · have hlt' : (r : Int) < (n : Int) := by omega
      go_wp2
      go_loopw [4] (fun i w2 => ∃ k : Nat, k ≤ 64 ∧ i = .int .i64 k ∧ Hid (w2.heap[W.heap.size]? = some (.cells Z 183 (0, 0)) ∧ w2.heap[W.heap.size + 1]? = some (.cells (row65 (chMid r k)) 183 (0, 0)) ∧ Below W.heap.size W w2)) (fun i _ => (intOf i).toNat)
      case atStart => exact ⟨64, Nat.le_refl _, rfl, Hr.out.1, by rw [chMid_top]; exact Hr.out.2.1, Hr.out.2.2⟩
      case round =>
        obtain ⟨k, hk, rfl, Hk⟩ := hrel
        cases k with
        | zero =>
          go_wp2
          refine ⟨⟨r + 1, by omega, by go_num, Hk.out.1, by rw [← chMid_end]; exact Hk.out.2.1, Hk.out.2.2⟩, ?_⟩
          simp [intOf]; omega
        | succ k =>
          have c1 : wr.cell? ⟨W.heap.size + 1, k + 1, none⟩ = some (.int .i64 (ch r (k + 1))) := by
            rw [cell_row Hk.out.2.1, row65_get _ _ (by omega)]; unfold chMid; rw [if_neg (by omega)]
          have c2 : wr.cell? ⟨W.heap.size + 1, k, none⟩ = some (.int .i64 (ch r k)) := by
            rw [cell_row Hk.out.2.1, row65_get _ _ (by omega)]; unfold chMid; rw [if_neg (by omega)]
          have f1 : wr.frozen? ⟨W.heap.size + 1, k + 1, none⟩ = false := by simp [World.frozen?, Hk.out.2.1]
          have b1 := ch_lt r (k + 1) (by omega)
          have b2 := ch_lt r k (by omega)
          have b3 := ch_nonneg r (k + 1)
          have b4 := ch_nonneg r k
          have hst := chMid_step r k
          generalize ch r (k + 1) = x at c1 b1 b3 hst
          generalize ch r k = y at c2 b2 b4 hst
          have hw : IntKind.i64.wrap (x + y) = x + y := by rw [IntKind.wrap_i64]; omega
          have hk65 : (k : Int) < 65 := by omega
          have hk66 : (k : Int) + 1 < 65 := by omega
          have hw3 : IntKind.i64.wrap ((k : Int) + 1 - 1) = (k : Int) := by rw [IntKind.wrap_i64]; omega
          have HST : Hid _ := hst
          clear hst
          have hBk : Hid (Below W.heap.size W (wr.setCell ⟨W.heap.size + 1, k + 1, none⟩ (.int .i64 (x + y))).drew) := (Hk.out.2.2.setCell (p := ⟨W.heap.size + 1, k + 1, none⟩) (Nat.le_succ _) _).drew
          go_wp2
          go_region
          all_goals
            go_wp2
            go_roundw
            case rel =>
              refine ⟨k, by omega, by go_num, ?_, ?_, hBk.out⟩
              · show (wr.setCell ⟨W.heap.size + 1, k + 1, none⟩ (.int .i64 (x + y))).heap[W.heap.size]? = _
                rw [heap_setCell_other _ _ _ _ (by simp)]; exact Hk.out.1
              · show (wr.setCell ⟨W.heap.size + 1, k + 1, none⟩ (.int .i64 (x + y))).heap[W.heap.size + 1]? = _
                rw [row_set Hk.out.2.1, row65_set, HST.out]
            case measure => simp [intOf]
    · obtain rfl : r = n := by omega
      have hlt' : ¬ (r : Int) < (r : Int) := by omega
      have hsz := row65_size (ch r)
      have hone := row65_one (ch r)
      obtain ⟨T, hT⟩ : ∃ T, row65 (ch r) = T := ⟨_, rfl⟩
      rw [hT] at Hr hsz hone
      have HT : Hid (row65 (ch r) = T) := hT
      have HA : Hid ((Tryz.prog.info? 183).map (·.size) = some T.size ∧ Z.size = T.size ∧ T.all (·.oneCell') = true) := ⟨by rw [hsz]; exact size82, by rw [hsz]; exact HZs.out, hone⟩
      have hB9 : Below W.heap.size W (wr.setRow W.heap.size T) := below_setRow Hr.out.2.2 (Nat.le_refl _) T
      have H9 : Hid ((wr.setRow W.heap.size T).heap[W.heap.size]? = some (.cells T 183 (0, 0))) := setRow_heap wr W.heap.size Z T 183 (0, 0) Hr.out.1
      clear hsz hone hT
      go_wp2_with (first | (with_reducible refine wpList_load_row rfl 183 (.tmp 3) rfl (W.heap.size + 1) (by with_unfolding_all rfl) 183 T (0, 0) _ Hr.out.2.1 Tryz.underlying183 rfl HA.out.1 ?_) | (with_reducible refine wpList_store_row rfl 183 (.tmp 2) (.tmp 23) rfl W.heap.size T (by with_unfolding_all rfl) (by with_unfolding_all rfl) 183 Z Hr.out.1 HA.out.1 HA.out.2.1 HA.out.2.2 ?_))
      refine ⟨rfl, .agg T, ?_, by rw [HT.out], hB9⟩
      exact results_cell_row (P := Tryz.prog) rfl _ _ W.heap.size 183 T (0, 0) _ rfl H9.out Tryz.underlying183 rfl HA.out.1
end Go.Proofs.YthkliicmoandmaaGreatDoor.St


namespace Go.Proofs.YthkliicmoandmaaGreatDoor.St
open Go.RowKit Go.Shelf
set_option linter.unusedVariables false
set_option linter.unusedSimpArgs false

theorem taken_facts (d : SD) : (takenD d).lo.length ≤ (takenD d).up.length ∧ (takenD d).up.length ≤ 64 ∧ ((takenD d).lo.length : Int) ≤ (takenD d).least ∧ (takenD d).most ≤ ((takenD d).up.length : Int) ∧ (takenD d).least ≤ 64 ∧ -64 ≤ (takenD d).most ∧ (takenD d).rn = 0 ∧ (takenD d).set = true ∧ IsSet (takenD d).lo ∧ IsSet (takenD d).up := by
  have hnone : noneD.lo.length ≤ noneD.up.length ∧ noneD.up.length ≤ 64 ∧ (noneD.lo.length : Int) ≤ noneD.least ∧ noneD.most ≤ (noneD.up.length : Int) ∧ noneD.least ≤ 64 ∧ -64 ≤ noneD.most ∧ noneD.rn = 0 ∧ noneD.set = true ∧ IsSet noneD.lo ∧ IsSet noneD.up := by
    refine ⟨by decide, by decide, by decide, by decide, by decide, by decide, rfl, rfl, ?_, ?_⟩ <;> exact ⟨by decide, fun i hi => by simp [noneD] at hi⟩
  unfold takenD
  split
  · rename_i hR
    obtain ⟨_, _, s1, s2, _, hh⟩ := hR
    have l1 := s1.1
    have l2 := s2.1
    unfold tightD
    dsimp only
    split
    · exact hnone
    · rename_i hML
      rcases hh with ⟨e1, e2, e3⟩ | ⟨e1, e2, e3⟩
      · exfalso; omega
      · by_cases q1 : max d.least (d.lo.length : Int) = (d.up.length : Int)
        · simp only [q1, if_true]
          by_cases q2 : min d.most (d.up.length : Int) = (d.up.length : Int)
          · simp only [q2, if_true]
            refine ⟨by omega, by omega, by omega, by omega, by omega, by omega, trivial, trivial, s2, s2⟩
          · simp only [q2, if_false]
            refine ⟨by omega, by omega, by omega, by omega, by omega, by omega, trivial, trivial, s2, s2⟩
        · simp only [q1, if_false]
          by_cases q2 : min d.most (d.up.length : Int) = (d.lo.length : Int)
          · simp only [q2, if_true]
            refine ⟨by omega, by omega, by omega, by omega, by omega, by omega, trivial, trivial, s1, s1⟩
          · simp only [q2, if_false]
            refine ⟨by omega, by omega, by omega, by omega, by omega, by omega, trivial, trivial, s1, s2⟩
  · exact hnone

/-- The sum of some numbers of a row, up to a limit. -/
def cs (r base : Nat) : Nat → Int
  | 0 => 0
  | j + 1 => min (cs r base j + ch r (base + j)) 4611686018427387904
theorem cs_bound (r base : Nat) (hr : r ≤ 64) : ∀ j, 0 ≤ cs r base j ∧ cs r base j ≤ 4611686018427387904
  | 0 => by unfold cs; omega
  | j + 1 => by
    have h1 := cs_bound r base hr j
    have h2 := ch_nonneg r (base + j)
    unfold cs; omega
def countT (T : SD) : Int := cs (T.up.length - T.lo.length) (T.least - (T.lo.length : Int)).toNat (T.most + 1 - T.least).toNat
def countD (d : SD) : Int := countT (takenD d)

set_option maxRecDepth 100000 in
set_option maxHeartbeats 4000000 in
theorem count_any (v : Value) (d : SD) (W : World) (h : Di W v d) :
    Calls Tryz.prog 149 #[v] W fun e w' => e = .returned (.int .i64 (countD d)) ∧ Below W.heap.size W w' := by
  have ht := fun X (hX : Below W.heap.size W X) => taken_dom v d X (h.below hX)
  obtain ⟨ra, rc, slo, sup, rfl, h1, h2⟩ := h
  obtain ⟨a1, c1, rfl, _⟩ := h1
  obtain ⟨a2, c2, rfl, _⟩ := h2
  have hf := taken_facts d
  have hcd : countD d = countT (takenD d) := rfl
  obtain ⟨T, hTD⟩ : ∃ X, takenD d = X := ⟨_, rfl⟩
  obtain ⟨CD, hCD⟩ : ∃ x, countD d = x := ⟨_, rfl⟩
  rw [hTD] at hf hcd
  rw [hCD] at hcd ⊢
  simp only [hTD] at ht
  obtain ⟨st, rn, lo, up, least, most⟩ := d
  simp only at ht ⊢
  obtain ⟨n1, hn1⟩ : ∃ n, lo.length = n := ⟨_, rfl⟩
  obtain ⟨n2, hn2⟩ : ∃ n, up.length = n := ⟨_, rfl⟩
  simp only [hn1, hn2] at ht ⊢
  obtain ⟨W0, hW0⟩ : ∃ X, W.alloc (Obj.cells #[.bool st, .slice ra rn rc, .slice a1 n1 c1, .slice a2 n2 c2, .int .i64 least, .int .i64 most] 50) = X := ⟨_, rfl⟩
  have HW0 : Hid _ := hW0
  have hb0 : Below W.heap.size W W0 := by rw [← hW0]; exact (Below.refl _ W).alloc (Nat.le_refl _) _
  have hR0 : W0.heap[W.heap.size]? = some (.cells #[.bool st, .slice ra rn rc, .slice a1 n1 c1, .slice a2 n2 c2, .int .i64 least, .int .i64 most] 50 (0, 0)) := by rw [← hW0]; exact World.alloc_heap_new W _
  have hlt0 : W.heap.size < W0.heap.size := (Array.getElem?_eq_some_iff.1 hR0).1
  have ht0 := ht _ hb0
  obtain ⟨z0, z1, z2, z3, z4, z5⟩ := six_cells hR0
  have HF : Hid (_ ∧ CD = countT T) := ⟨hf, hcd⟩
  clear hTD hn1 hn2 ht hW0 hf hcd hCD
  go_enter Tryz.func149, Tryz.ntmps149
  go_upto_region 1 with (fail)
  rw [HW0.out]
  go_wp2_with fail
  refine ht0.mono ?_
  rintro e w2 ⟨v2, rfl, hD2, hb2⟩
  have hB2 : Below W.heap.size W w2 := hb0.trans (hb2.mono hb0.size)
  have HZ2 : Hid _ := (hb2.block W.heap.size hlt0).trans hR0
  obtain ⟨slo, sup, rfl, e0, o1, o2⟩ := hD2
  obtain ⟨p1, k1, rfl⟩ := own_slice o1
  obtain ⟨p2, k2, rfl⟩ := own_slice o2
  clear o1 o2
  obtain ⟨m1, hm1⟩ : ∃ n, T.lo.length = n := ⟨_, rfl⟩
  obtain ⟨m2, hm2⟩ : ∃ n, T.up.length = n := ⟨_, rfl⟩
  obtain ⟨x0, hx0⟩ : ∃ x, T.set = x := ⟨_, rfl⟩
  obtain ⟨x4, hx4⟩ : ∃ x, T.least = x := ⟨_, rfl⟩
  obtain ⟨x5, hx5⟩ : ∃ x, T.most = x := ⟨_, rfl⟩
  obtain ⟨⟨f1, f2, f3, f4, f5, f6, _⟩, hCT⟩ := HF.out
  have hCT2 : CD = cs (m2 - m1) (x4 - (m1 : Int)).toNat (x5 + 1 - x4).toNat := by rw [hCT]; unfold countT; rw [hm1, hm2, hx4, hx5]
  simp only [hm1, hm2, hx0, hx4, hx5] at f1 f2 f3 f4 f5 f6 ⊢
  have hBS := below_setRow hB2 (Nat.le_refl W.heap.size) #[.bool x0, .slice none 0 0, .slice p1 m1 k1, .slice p2 m2 k2, .int .i64 x4, .int .i64 x5]
  have HROW : Hid _ := setRow_heap w2 W.heap.size _ #[.bool x0, .slice none 0 0, .slice p1 m1 k1, .slice p2 m2 k2, .int .i64 x4, .int .i64 x5] 50 (0, 0) HZ2.out
  have HSZ : Hid ((Tryz.prog.info? 50).map (·.size) = some (#[.bool x0, .slice none 0 0, .slice p1 m1 k1, .slice p2 m2 k2, .int .i64 x4, .int .i64 x5] : Array Value).size) := Tryz.size50
  have HSO : Hid ((#[.bool st, .slice ra rn rc, .slice a1 n1 c1, .slice a2 n2 c2, .int .i64 least, .int .i64 most] : Array Value).size = (#[.bool x0, .slice none 0 0, .slice p1 m1 k1, .slice p2 m2 k2, .int .i64 x4, .int .i64 x5] : Array Value).size) := rfl
  have HSA : Hid ((#[.bool x0, .slice none 0 0, .slice p1 m1 k1, .slice p2 m2 k2, .int .i64 x4, .int .i64 x5] : Array Value).all (·.oneCell') = true) := by unfold Hid; simp [Value.oneCell']
  have HCD : Hid (CD = cs (m2 - m1) (x4 - (m1 : Int)).toNat (x5 + 1 - x4).toNat) := hCT2
  clear hb2 hB2 ht0 z0 z1 z2 z3 z4 z5 hR0 hlt0 hb0 HF hCT hCT2 hm1 hm2 hx0 hx4 hx5 e0
  go_upto_region 2 with (with_reducible refine wpList_store_row rfl 50 (.tmp 1) (.tmp 7) rfl W.heap.size #[.bool x0, .slice none 0 0, .slice p1 m1 k1, .slice p2 m2 k2, .int .i64 x4, .int .i64 x5] (by with_unfolding_all rfl) (by with_unfolding_all rfl) 50 _ HZ2.out HSZ.out HSO.out HSA.out ?_)
  simp only [Act.put]
  generalize w2.setRow W.heap.size #[.bool x0, .slice none 0 0, .slice p1 m1 k1, .slice p2 m2 k2, .int .i64 x4, .int .i64 x5] = W3 at hBS HROW ⊢
  obtain ⟨z0, z1, z2, z3, z4, z5⟩ := six_cells HROW.out
  clear HZ2 HSZ HSO HSA
  have hsub : IntKind.i64.wrap ((m2 : Int) - (m1 : Int)) = ((m2 - m1 : Nat) : Int) := by rw [IntKind.wrap_i64]; omega
  obtain ⟨rr, hrr⟩ : ∃ q, m2 - m1 = q := ⟨_, rfl⟩
  rw [hrr] at hsub HCD
  have hc := choices_any rr (by omega) W3
  obtain ⟨hz, _⟩ := zero_of_info info82
  have hZs := row65_size (fun _ => 0)
  generalize row65 (fun _ => 0) = Z at hz hZs
  have hTs := row65_size (ch rr)
  have hTo := row65_one (ch rr)
  go_wp2_with fail
  refine hc.mono ?_
  rintro e w4 ⟨rfl, hb4⟩
  have hB4 : Below W.heap.size W w4 := hBS.trans (hb4.mono hBS.size)
  have hlt3 : W.heap.size < W3.heap.size := (Array.getElem?_eq_some_iff.1 HROW.out).1
  have HR4 : Hid _ := (hb4.block W.heap.size hlt3).trans HROW.out
  have hlt4 : W.heap.size < w4.heap.size := Nat.lt_of_lt_of_le hlt3 hb4.size
  have HG : Hid ((w4.alloc (Obj.cells Z 183)).heap[w4.heap.size]? = some (.cells Z 183 (0, 0))) := World.alloc_heap_new w4 _
  have HR5 : Hid ((w4.alloc (Obj.cells Z 183)).heap[W.heap.size]? = some (.cells #[.bool x0, .slice none 0 0, .slice p1 m1 k1, .slice p2 m2 k2, .int .i64 x4, .int .i64 x5] 50 (0, 0))) := (Below.heap_alloc _ _ _ hlt4).trans HR4.out
  have hB5 : Below W.heap.size W (w4.alloc (Obj.cells Z 183)) := hB4.alloc hB4.size _
  have hRR : W.heap.size ≠ w4.heap.size := by omega
  obtain ⟨TT, hTT⟩ : ∃ T, row65 (ch rr) = T := ⟨_, rfl⟩
  rw [hTT] at hTs hTo ⊢
  have HA : Hid ((Tryz.prog.info? 183).map (·.size) = some TT.size ∧ Z.size = TT.size ∧ TT.all (·.oneCell') = true) := ⟨by rw [hTs]; exact size82, by rw [hZs, hTs], hTo⟩
  have HW5 : Hid (Below W.heap.size W ((w4.alloc (Obj.cells Z 183)).setRow w4.heap.size TT) ∧ ((w4.alloc (Obj.cells Z 183)).setRow w4.heap.size TT).heap[W.heap.size]? = some (.cells #[.bool x0, .slice none 0 0, .slice p1 m1 k1, .slice p2 m2 k2, .int .i64 x4, .int .i64 x5] 50 (0, 0)) ∧ ((w4.alloc (Obj.cells Z 183)).setRow w4.heap.size TT).heap[w4.heap.size]? = some (.cells (row65 (ch rr)) 183 (0, 0))) :=
    ⟨below_setRow hB5 hB4.size TT, (setRow_other _ w4.heap.size W.heap.size TT hRR).trans HR5.out, by rw [hTT]; exact setRow_heap _ w4.heap.size Z TT 183 (0, 0) HG.out⟩
  have hge := hB4.size
  clear hTT hTs hTo hZs hb4 HROW hc z0 z1 z2 z3 z4 z5 HR4 HR5 hB5 hlt3
  generalize hR : w4.heap.size = R at HG HW5 hRR hge
  go_upto_region 3 with (with_reducible refine wpList_store_row rfl 183 (.tmp 3) (.tmp 15) rfl R TT (by rw [← hR]; with_unfolding_all rfl) (by with_unfolding_all rfl) 183 Z HG.out HA.out.1 HA.out.2.1 HA.out.2.2 ?_)
  simp only [Act.put]
  generalize (w4.alloc (Obj.cells Z 183)).setRow R TT = W5 at HW5 ⊢
  obtain ⟨hB5, hr5, hg5⟩ := HW5.out
  obtain ⟨z0, z1, z2, z3, z4, z5⟩ := six_cells hr5
  have HG5 : Hid (W5.heap[R]? = some (.cells (row65 (ch rr)) 183 (0, 0))) := hg5
  have HB5 : Hid (Below W.heap.size W W5) := hB5
  obtain ⟨base, hbase⟩ : ∃ q, (x4 - (m1 : Int)).toNat = q := ⟨_, rfl⟩
  rw [hbase] at HCD
  have HBI : Hid (x4 = (m1 : Int) + (base : Int)) := by unfold Hid; omega
  clear HG HA HW5 hr5 hg5 hB5 hz hB4 hlt4 hR hge hBS z0 z1 hbase
  go_wp2
  go_loopw [4, 5] (fun n sz wr => ∃ j : Nat, n = .int .i64 (cs rr base j) ∧ sz = .int .i64 (x4 + (j : Int)) ∧ (j : Int) ≤ max 0 (x5 + 1 - x4) ∧ wr = W5) (fun n sz _ => (x5 + 1 - intOf sz).toNat)
  case atStart => exact ⟨0, rfl, by simp, by omega, rfl⟩
  case round =>
    obtain ⟨j, rfl, rfl, hj, rfl⟩ := hrel
    by_cases hle : x4 + (j : Int) ≤ x5
    · have hbi := HBI.out
      have q1 : wr.cell? ⟨R, base + j, none⟩ = some (.int .i64 (ch rr (base + j))) := by rw [cell_row HG5.out, row65_get _ _ (by omega)]
      have q2 : IntKind.i64.wrap (x4 + (j : Int) - (m1 : Int)) = ((base + j : Nat) : Int) := by rw [IntKind.wrap_i64]; omega
      have q3 : ((base + j : Nat) : Int) < 65 := by omega
      have b1 := ch_lt rr (base + j) (by omega)
      have b2 := ch_nonneg rr (base + j)
      have b3 := cs_bound rr base (by omega) j
      have b4 : Hid (cs rr base (j + 1) = min (cs rr base j + ch rr (base + j)) 4611686018427387904) := rfl
      generalize ch rr (base + j) = x at q1 b1 b2 b4
      generalize cs rr base j = y at b3 b4 ⊢
      have q4 : IntKind.i64.wrap (y + x) = y + x := by rw [IntKind.wrap_i64]; omega
      have q5 : IntKind.i64.wrap (x4 + (j : Int) + 1) = x4 + (j : Int) + 1 := by rw [IntKind.wrap_i64]; omega
      clear hbi
      generalize hbj : base + j = bj at q1 q2 q3
      have HBJ : Hid (base + j = bj) := hbj
      clear hbj
      go_wp2
      refine ⟨⟨j + 1, by rw [b4.out], ?_, by omega, trivial⟩, ?_⟩
      · have : x4 + (j : Int) + 1 = x4 + ((j + 1 : Nat) : Int) := by omega
        rw [this]
      · simp only [intOf]; omega
    · have hjj : j = (x5 + 1 - x4).toNat := by omega
      subst hjj
      go_wp2
      go_ret
      exact ⟨by rw [HCD.out]; rfl, HB5.out⟩
end Go.Proofs.YthkliicmoandmaaGreatDoor.St


namespace Go.Proofs.YthkliicmoandmaaGreatDoor.St
open Go.RowKit Go.Shelf
set_option linter.unusedVariables false
set_option linter.unusedSimpArgs false

/-- Block g holds a domain of sets. -/
structure R6 (w : World) (g : Nat) (x0 x1 x2 x3 x4 x5 : Value) : Prop where
  h : w.heap[g]? = some (.cells #[x0, x1, x2, x3, x4, x5] 50 (0, 0))
theorem R6.lt {w : World} {g : Nat} {x0 x1 x2 x3 x4 x5 : Value} (h : R6 w g x0 x1 x2 x3 x4 x5) : g < w.heap.size := (Array.getElem?_eq_some_iff.1 h.h).1
theorem R6.below {w w' : World} {g : Nat} {x0 x1 x2 x3 x4 x5 : Value} (h : R6 w g x0 x1 x2 x3 x4 x5) (hb : Below w.heap.size w w') : R6 w' g x0 x1 x2 x3 x4 x5 := ⟨(hb.block g h.lt).trans h.h⟩
theorem R6.cells {w : World} {g : Nat} {x0 x1 x2 x3 x4 x5 : Value} (h : R6 w g x0 x1 x2 x3 x4 x5) :
    w.cell? ⟨g, 0, none⟩ = some x0 ∧ w.cell? ⟨g, 1, none⟩ = some x1 ∧ w.cell? ⟨g, 2, none⟩ = some x2 ∧ w.cell? ⟨g, 3, none⟩ = some x3 ∧ w.cell? ⟨g, 4, none⟩ = some x4 ∧ w.cell? ⟨g, 5, none⟩ = some x5 := six_cells h.h
theorem R6.new (w : World) (x0 x1 x2 x3 x4 x5 : Value) : R6 (w.alloc (.cells #[x0, x1, x2, x3, x4, x5] 50)) w.heap.size x0 x1 x2 x3 x4 x5 := ⟨World.alloc_heap_new w _⟩
theorem R6.new1 (w : World) (o : Obj) (x0 x1 x2 x3 x4 x5 : Value) : R6 ((w.alloc o).alloc (.cells #[x0, x1, x2, x3, x4, x5] 50)) (w.heap.size + 1) x0 x1 x2 x3 x4 x5 := by
  have := World.alloc_heap_new (w.alloc o) (.cells #[x0, x1, x2, x3, x4, x5] 50)
  rw [World.size_alloc] at this
  exact ⟨this⟩
theorem R6.new2 (w : World) (o p : Obj) (x0 x1 x2 x3 x4 x5 : Value) : R6 (((w.alloc o).alloc p).alloc (.cells #[x0, x1, x2, x3, x4, x5] 50)) (w.heap.size + 2) x0 x1 x2 x3 x4 x5 := by
  have := World.alloc_heap_new ((w.alloc o).alloc p) (.cells #[x0, x1, x2, x3, x4, x5] 50)
  rw [World.size_alloc, World.size_alloc] at this
  exact ⟨this⟩
theorem R6.alloc {w : World} {g : Nat} {x0 x1 x2 x3 x4 x5 : Value} (h : R6 w g x0 x1 x2 x3 x4 x5) (o : Obj) : R6 (w.alloc o) g x0 x1 x2 x3 x4 x5 := ⟨(Below.heap_alloc _ _ _ h.lt).trans h.h⟩
theorem R6.set {w : World} {g : Nat} {y0 y1 y2 y3 y4 y5 : Value} (h : R6 w g y0 y1 y2 y3 y4 y5) (x0 x1 x2 x3 x4 x5 : Value) : R6 (w.setRow g #[x0, x1, x2, x3, x4, x5]) g x0 x1 x2 x3 x4 x5 := ⟨setRow_heap w g _ _ 50 (0, 0) h.h⟩
theorem R6.other {w : World} {g k : Nat} {x0 x1 x2 x3 x4 x5 : Value} (h : R6 w k x0 x1 x2 x3 x4 x5) (hk : k ≠ g) (cs : Array Value) : R6 (w.setRow g cs) k x0 x1 x2 x3 x4 x5 := ⟨(setRow_other w g k cs hk).trans h.h⟩
theorem R6.res {fn : Func} {p : Tmp} (hf : fn.results = #[.cell p 50]) (tmps : Array Value) {w : World} {g : Nat} {x0 x1 x2 x3 x4 x5 : Value} (h : R6 w g x0 x1 x2 x3 x4 x5) (hp : tmps.getD p undef = .pointer (some ⟨g, 0, none⟩)) :
    (results fn tmps).run Tryz.prog w = .ok (.agg #[x0, x1, x2, x3, x4, x5]) w := results_cell_row hf tmps w g 50 _ (0, 0) _ hp h.h Tryz.underlying50 rfl Tryz.size50
/-- The row of a domain: six values of one cell each. -/
def Six (x0 x1 x2 x3 x4 x5 : Value) : Prop := x0.oneCell' = true ∧ x1.oneCell' = true ∧ x2.oneCell' = true ∧ x3.oneCell' = true ∧ x4.oneCell' = true ∧ x5.oneCell' = true
theorem six_dom (b : Bool) (p0 p1 p2 : Option Addr) (m0 k0 m1 k1 m2 k2 : Nat) (i j : Int) : Six (.bool b) (.slice p0 m0 k0) (.slice p1 m1 k1) (.slice p2 m2 k2) (.int .i64 i) (.int .i64 j) := ⟨rfl, rfl, rfl, rfl, rfl, rfl⟩
theorem Six.all {x0 x1 x2 x3 x4 x5 : Value} (h : Six x0 x1 x2 x3 x4 x5) : (#[x0, x1, x2, x3, x4, x5] : Array Value).all (·.oneCell') = true := by
  obtain ⟨h0, h1, h2, h3, h4, h5⟩ := h
  simp [h0, h1, h2, h3, h4, h5]
theorem st37 {ops : Array Oper} {rest : List Oper} {o : Oper} {a : Act} {w : World} {Q : Exit → Act → World → Prop} {y0 y1 y2 y3 y4 y5 : Value} (hgd : o.guard = none) (x y : Operand) (ho : o.op = .store 50 x y)
    (g : Nat) (x0 x1 x2 x3 x4 x5 : Value) (hx : a.eval x = .pointer (some ⟨g, 0, none⟩)) (hy : a.eval y = .agg #[x0, x1, x2, x3, x4, x5]) (hg : R6 w g y0 y1 y2 y3 y4 y5) (hs : Six x0 x1 x2 x3 x4 x5)
    (h : wpList Tryz.prog ops Q rest (a.put o.dst undef) (w.setRow g #[x0, x1, x2, x3, x4, x5])) : wpList Tryz.prog ops Q (o :: rest) a w :=
  wpList_store_row hgd 50 x y ho g _ hx hy 50 _ hg.h Tryz.size50 rfl hs.all h
theorem store_row {P : Program} {op : Oper} {a : Act} {w : World} {K : Act → World → Prop} {Q : Exit → Act → World → Prop} (ty : TypeId) (x y : Operand) (ho : op.op = .store ty x y)
    (g : Nat) (cells : Array Value) (hx : a.eval x = .pointer (some ⟨g, 0, none⟩)) (hy : a.eval y = .agg cells)
    (t : TypeId) (old : Array Value) (hg : w.heap[g]? = some (.cells old t (0, 0))) (hi : (P.info? ty).map (·.size) = some cells.size)
    (hold : old.size = cells.size) (h1 : cells.all (·.oneCell') = true)
    (h : K (a.put op.dst undef) (w.setRow g cells)) : Oper.wp P op a w K Q := by
  unfold Oper.wp
  unfold execOp
  simp only [ho, hx, hy, Instr.storeAt, Instr.sureAddr, Sem.run_bind, Sem.run_pure, Result.andThen_ok, run_storeVar_row w g t ty old cells hg hi hold h1]
  exact h
/-- The same at a step of a region that draws its order. -/
theorem step37 {ops : Array Oper} {o : Oper} {a : Act} {w : World} {K : Act → World → Prop} {Q : Exit → Act → World → Prop} {E : Prop} {y0 y1 y2 y3 y4 y5 : Value} (hgd : o.guard = none) (x y : Operand) (ho : o.op = .store 50 x y)
    (g : Nat) (x0 x1 x2 x3 x4 x5 : Value) (hx : a.eval x = .pointer (some ⟨g, 0, none⟩)) (hy : a.eval y = .agg #[x0, x1, x2, x3, x4, x5]) (hg : R6 w g y0 y1 y2 y3 y4 y5) (hs : Six x0 x1 x2 x3 x4 x5)
    (h : K (a.put o.dst undef) (w.setRow g #[x0, x1, x2, x3, x4, x5])) : if Region.wanted o (yielded ops a.tmps) = true then Oper.wp Tryz.prog o a w K Q else E := by
  have hw : Region.wanted o (yielded ops a.tmps) = true := by simp [Region.wanted, hgd]
  rw [if_pos hw]
  exact store_row 50 x y ho g _ hx hy 50 _ hg.h Tryz.size50 rfl hs.all h
theorem Dv.set {B g : Nat} {w : World} {v : Value} {d : SD} {y0 y1 y2 y3 y4 y5 : Value} (h : Dv B w v d) (hg : R6 w g y0 y1 y2 y3 y4 y5) (cs : Array Value) : Dv B (w.setRow g cs) v d := by
  obtain ⟨slo, sup, e, e0, o1, o2⟩ := h
  exact ⟨slo, sup, e, e0, own_setRow o1 g cs hg.h, own_setRow o2 g cs hg.h⟩
theorem Dv.base {B B' : Nat} {w : World} {v : Value} {d : SD} (h : Dv B w v d) (hb : B' ≤ B) : Dv B' w v d := by
  obtain ⟨slo, sup, e, e0, o1, o2⟩ := h
  exact ⟨slo, sup, e, e0, own_base o1 hb, own_base o2 hb⟩
/-- What a domain in memory of its own looks like. -/
theorem Dv.look {B : Nat} {w : World} {v : Value} {d : SD} (h : Dv B w v d) : ∃ x0 p1 m1 k1 p2 m2 k2 x4 x5, v = .agg #[.bool x0, .slice none 0 0, .slice p1 m1 k1, .slice p2 m2 k2, .int .i64 x4, .int .i64 x5] ∧
    Hid (d.set = x0 ∧ d.lo.length = m1 ∧ d.up.length = m2 ∧ d.least = x4 ∧ d.most = x5 ∧ d.rn = 0) ∧ Hid (w.ownsRow B 2 1 (.slice p1 m1 k1) m1 (intv d.lo)) ∧ Hid (w.ownsRow B 2 1 (.slice p2 m2 k2) m2 (intv d.up)) := by
  obtain ⟨slo, sup, e, e0, o1, o2⟩ := h
  obtain ⟨p1, k1, rfl⟩ := own_slice o1
  obtain ⟨p2, k2, rfl⟩ := own_slice o2
  exact ⟨_, _, _, _, _, _, _, _, _, e, ⟨rfl, rfl, rfl, rfl, rfl, e0⟩, o1, o2⟩
/-- What a domain that is handed in looks like. -/
theorem Di.look {w : World} {v : Value} {d : SD} (h : Di w v d) : ∃ x0 ra rn rc a1 n1 c1 a2 n2 c2 x4 x5, v = .agg #[.bool x0, .slice ra rn rc, .slice a1 n1 c1, .slice a2 n2 c2, .int .i64 x4, .int .i64 x5] ∧
    Hid (d.set = x0 ∧ d.lo.length = n1 ∧ d.up.length = n2 ∧ d.least = x4 ∧ d.most = x5 ∧ d.rn = rn) ∧ Hid (Si w (.slice a1 n1 c1) d.lo) ∧ Hid (Si w (.slice a2 n2 c2) d.up) := by
  obtain ⟨ra, rc, slo, sup, e, h1, h2⟩ := h
  have h1' := h1
  have h2' := h2
  obtain ⟨a1, c1, rfl, _⟩ := h1'
  obtain ⟨a2, c2, rfl, _⟩ := h2'
  exact ⟨_, _, _, _, _, _, _, _, _, _, _, _, e, ⟨rfl, rfl, rfl, rfl, rfl, rfl⟩, h1, h2⟩
theorem si_look {w : World} {s : Value} {l : List Int} (h : Si w s l) : ∃ a n c, s = .slice a n c ∧ Hid (Si w (.slice a n c) l) ∧ Hid (l.length = n) := by
  have h' := h
  obtain ⟨a, c, rfl, _⟩ := h'
  exact ⟨_, _, _, rfl, h, rfl⟩
theorem own_si' {W : World} {base n : Nat} {s : Value} {l : List Int} (h : W.ownsRow base 2 1 s n (intv l)) (hn : l.length = n) : Si W s l := by subst hn; exact own_si h
end Go.Proofs.YthkliicmoandmaaGreatDoor.St


namespace Go.Proofs.YthkliicmoandmaaGreatDoor.St
open Go.RowKit Go.Shelf
set_option linter.unusedVariables false
set_option linter.unusedSimpArgs false

theorem one_si (w : World) (x : Int) : Si (w.alloc (Obj.cells #[.int .i64 x] 2)) (.slice (some ⟨w.heap.size, 0, none⟩) 1 1) [x] := by
  refine ⟨_, _, rfl, fun _ => ⟨_, _, rfl, by rw [World.size_alloc]; omega, fun i hi => ?_⟩⟩
  have hi0 : i = 0 := by simp at hi; omega
  subst hi0
  have := World.alloc_heap_new w (Obj.cells #[.int .i64 x] 2)
  show (w.alloc (Obj.cells #[.int .i64 x] 2)).cell? ⟨w.heap.size, 0 + 0, none⟩ = _
  rw [cell_row this]
  rfl
theorem take_next (l : List Int) (k : Nat) (h : k < l.length) : l.take (k + 1) = l.take k ++ [nth l k] := by
  rw [List.take_add_one, List.getElem?_eq_getElem h]; simp [nth, h]
theorem filt_yes (l : List Int) (f : Int → Bool) (k : Nat) (h : k < l.length) (hf : f (nth l k) = true) : (l.take (k + 1)).filter f = (l.take k).filter f ++ [nth l k] := by
  rw [take_next l k h, List.filter_append]; simp [hf]
theorem filt_no (l : List Int) (f : Int → Bool) (k : Nat) (h : k < l.length) (hf : f (nth l k) = false) : (l.take (k + 1)).filter f = (l.take k).filter f := by
  rw [take_next l k h, List.filter_append]; simp [hf]
theorem filt_len (l : List Int) (f : Int → Bool) (k : Nat) : ((l.take k).filter f).length ≤ k := Nat.le_trans (List.length_filter_le _ _) (by simp; omega)

set_option maxRecDepth 100000 in
set_option maxHeartbeats 4000000 in
theorem refmeet_any (s1 s2 : Value) (a b : List Int) (W : World) (h1 : Si W s1 a) (h2 : Si W s2 b) :
    Calls Tryz.prog 146 #[s1, s2] W fun e w' => ∃ v, e = .returned v ∧ w'.ownsRow W.heap.size 2 1 v (meetL (tkS a) (tkS b)).length (intv (meetL (tkS a) (tkS b))) ∧ Below W.heap.size W w' := by
  have hk := taken_any s1 a W h1
  have kin := fun v X (hX : Below W.heap.size W X) => refin_any v s2 b X (h2.below hX)
  have hspec : meetL (tkS a) (tkS b) = (tkS a).filter (fun x => (tkS b).contains x) := rfl
  rw [hspec]
  obtain ⟨f, hf⟩ : ∃ f : Int → Bool, (fun x => (tkS b).contains x) = f := ⟨_, rfl⟩
  have HF : Hid (∀ x, f x = (tkS b).contains x) := fun x => by rw [← hf]
  rw [hf]
  clear hspec hf
  have hset := (tkS_set a).1
  generalize tkS a = A at hk hset ⊢
  obtain ⟨a1, c1, rfl, _⟩ := h1
  obtain ⟨a2, c2, rfl, _⟩ := h2
  generalize a.length = n1 at *
  generalize b.length = n2 at *
  go_enter Tryz.func146, Tryz.ntmps146
  go_wp2_with fail
  refine hk.mono ?_
  rintro e w1 ⟨a3, n3, c3, rfl, HS, HN3, m1, hw1⟩
  have hb1 : Below W.heap.size W w1 := by rw [hw1]; exact below_drewN (Below.refl _ _) _
  have hS := HS.out
  obtain ⟨a3', c3', e3, hc⟩ := hS
  rw [← HN3.out] at e3 hc
  injection e3 with e4 _ e5
  subst e4 e5
  have HC : Hid _ := hc
  have HN : Hid (A.length = n3) := HN3.out.symm
  have hn3 : n3 ≤ 64 := by rw [HN3.out]; exact hset
  clear hk hc HS HN3 hw1 hset
  go_wp2
  go_loopw [5, 6] (fun o i wr => ∃ k : Nat, k ≤ n3 ∧ i = .int .i64 k ∧ wr.ownsRow W.heap.size 2 1 o ((A.take k).filter f).length (intv ((A.take k).filter f)) ∧ Below W.heap.size W wr) (fun _ i _ => n3 - (intOf i).toNat)
  case atStart => exact ⟨0, Nat.zero_le _, rfl, by simpa [intv] using World.ownsRow_nil _ _ _ _, hb1⟩
  case round =>
    obtain ⟨k, hk, rfl, hrow, hB⟩ := hrel
    have HROW : Hid _ := hrow
    clear hrow
    by_cases hlt2 : k < n3
    · obtain ⟨bb, off, rfl, hb, hcell⟩ := HC.out (by omega)
      have d0 := hcell k hlt2
      obtain ⟨x, hx⟩ : ∃ x, nth A k = x := ⟨_, rfl⟩
      have HX : Hid (nth A k = x) := hx
      rw [hx] at d0
      have hlt' : (k : Int) < (n3 : Int) := by omega
      have d1 := (hB.cell (p := ⟨bb, off + k, none⟩) hb).trans d0
      have ki := kin x wr hB
      clear hx hcell d0
      obtain ⟨bo, hbo⟩ : ∃ bo, (tkS b).contains x = bo := ⟨_, rfl⟩
      rw [hbo] at ki
      have HB : Hid (f x = bo) := by unfold Hid; rw [HF.out, hbo]
      clear hbo
      cases bo
      · go_wp2_with fail
        refine ki.mono ?_
        rintro e w3 ⟨rfl, q, hq⟩
        have hb3' : Below wr.heap.size wr w3 := by rw [hq]; exact below_drewN (Below.refl _ _) _
        have hB3 : Below W.heap.size W w3 := hB.trans (hb3'.mono hB.size)
        have HNX : Hid (((A.take (k + 1)).filter f) = (A.take k).filter f) := by unfold Hid; rw [filt_no A f k (by rw [HN.out]; exact hlt2) (by rw [HX.out]; exact HB.out)]
        have HR3 : Hid _ := own_keepB HROW.out hb3'
        clear hq hb3' ki d1 hB
        go_wp2
        go_roundw
        case rel => exact ⟨k + 1, by omega, by go_num, by rw [HNX.out]; exact HR3.out, hB3⟩
        case measure => simp [intOf]; omega
      · go_wp2_with fail
        refine ki.mono ?_
        rintro e w3 ⟨rfl, q, hq⟩
        have hb3' : Below wr.heap.size wr w3 := by rw [hq]; exact below_drewN (Below.refl _ _) _
        have d2 := (hb3'.cell (p := ⟨bb, off + k, none⟩) (Nat.lt_of_lt_of_le hb hB.size)).trans d1
        have hB3 : Below W.heap.size W w3 := hB.trans (hb3'.mono hB.size)
        have hrow3 := World.ownsRow.alloc (own_keepB HROW.out hb3') (Obj.cells #[.int .i64 x] 2)
        have hlen := filt_len A f k
        have HNX : Hid (((A.take (k + 1)).filter f) = (A.take k).filter f ++ [x]) := by unfold Hid; rw [filt_yes A f k (by rw [HN.out]; exact hlt2) (by rw [HX.out]; exact HB.out), HX.out]
        have HBA : Hid (Below W.heap.size W (w3.alloc (Obj.cells #[.int .i64 x] 2))) := hB3.alloc hB3.size _
        have hsz := HBA.out.size
        generalize (A.take k).filter f = L at *
        clear hq hb3' ki d1 hB
        go_wp2_with (at_builtin; refine wpList_app_sr _ rfl _ _ rfl W.heap.size _ _ L rfl hrow3 rfl _ [x] rfl (one_si w3 x) (by simp; omega) hsz ?_; intro v' w4 hown' hbel)
        go_roundw
        case rel => exact ⟨k + 1, by omega, by go_num, by rw [HNX.out, List.length_append]; exact hown', HBA.out.trans hbel⟩
        case measure => simp [intOf]; omega
    · have hlt' : ¬ (k : Int) < (n3 : Int) := by omega
      obtain rfl : k = n3 := by omega
      have HTK : Hid (A.take k = A) := by unfold Hid; rw [← HN.out]; exact List.take_length
      have HR4 := HROW.out
      rw [HTK.out] at HR4
      obtain ⟨p, c, rfl⟩ := own_slice HR4
      have HR5 : Hid _ := HR4
      clear HR4 HROW
      generalize hLL : (A.filter f).length = LL at HR5
      have HLL : Hid ((A.filter f).length = LL) := hLL
      clear hLL
      go_wp2
      go_ret
      exact ⟨_, rfl, by rw [HLL.out]; exact HR5.out, hB⟩

set_option maxRecDepth 100000 in
set_option maxHeartbeats 4000000 in
theorem refless_any (s1 s2 : Value) (a b : List Int) (W : World) (h1 : Si W s1 a) (h2 : Si W s2 b) :
    Calls Tryz.prog 104 #[s1, s2] W fun e w' => ∃ v, e = .returned v ∧ w'.ownsRow W.heap.size 2 1 v (lessL (tkS a) (tkS b)).length (intv (lessL (tkS a) (tkS b))) ∧ Below W.heap.size W w' := by
  have hk := taken_any s1 a W h1
  have kin := fun v X (hX : Below W.heap.size W X) => refin_any v s2 b X (h2.below hX)
  have hspec : lessL (tkS a) (tkS b) = (tkS a).filter (fun x => !(tkS b).contains x) := rfl
  rw [hspec]
  obtain ⟨f, hf⟩ : ∃ f : Int → Bool, (fun x => !(tkS b).contains x) = f := ⟨_, rfl⟩
  have HF : Hid (∀ x, f x = !(tkS b).contains x) := fun x => by rw [← hf]
  rw [hf]
  clear hspec hf
  have hset := (tkS_set a).1
  generalize tkS a = A at hk hset ⊢
  obtain ⟨a1, c1, rfl, _⟩ := h1
  obtain ⟨a2, c2, rfl, _⟩ := h2
  generalize a.length = n1 at *
  generalize b.length = n2 at *
  go_enter Tryz.func104, Tryz.ntmps104
  go_wp2_with fail
  refine hk.mono ?_
  rintro e w1 ⟨a3, n3, c3, rfl, HS, HN3, m1, hw1⟩
  have hb1 : Below W.heap.size W w1 := by rw [hw1]; exact below_drewN (Below.refl _ _) _
  have hS := HS.out
  obtain ⟨a3', c3', e3, hc⟩ := hS
  rw [← HN3.out] at e3 hc
  injection e3 with e4 _ e5
  subst e4 e5
  have HC : Hid _ := hc
  have HN : Hid (A.length = n3) := HN3.out.symm
  have hn3 : n3 ≤ 64 := by rw [HN3.out]; exact hset
  clear hk hc HS HN3 hw1 hset
  go_wp2
  go_loopw [5, 6] (fun o i wr => ∃ k : Nat, k ≤ n3 ∧ i = .int .i64 k ∧ wr.ownsRow W.heap.size 2 1 o ((A.take k).filter f).length (intv ((A.take k).filter f)) ∧ Below W.heap.size W wr) (fun _ i _ => n3 - (intOf i).toNat)
  case atStart => exact ⟨0, Nat.zero_le _, rfl, by simpa [intv] using World.ownsRow_nil _ _ _ _, hb1⟩
  case round =>
    obtain ⟨k, hk, rfl, hrow, hB⟩ := hrel
    have HROW : Hid _ := hrow
    clear hrow
    by_cases hlt2 : k < n3
    · obtain ⟨bb, off, rfl, hb, hcell⟩ := HC.out (by omega)
      have d0 := hcell k hlt2
      obtain ⟨x, hx⟩ : ∃ x, nth A k = x := ⟨_, rfl⟩
      have HX : Hid (nth A k = x) := hx
      rw [hx] at d0
      have hlt' : (k : Int) < (n3 : Int) := by omega
      have d1 := (hB.cell (p := ⟨bb, off + k, none⟩) hb).trans d0
      have ki := kin x wr hB
      clear hx hcell d0
      obtain ⟨bo, hbo⟩ : ∃ bo, (tkS b).contains x = bo := ⟨_, rfl⟩
      rw [hbo] at ki
      have HB : Hid (f x = !bo) := by unfold Hid; rw [HF.out, hbo]
      clear hbo
      cases bo
      · go_wp2_with fail
        refine ki.mono ?_
        rintro e w3 ⟨rfl, q, hq⟩
        have hb3' : Below wr.heap.size wr w3 := by rw [hq]; exact below_drewN (Below.refl _ _) _
        have d2 := (hb3'.cell (p := ⟨bb, off + k, none⟩) (Nat.lt_of_lt_of_le hb hB.size)).trans d1
        have hB3 : Below W.heap.size W w3 := hB.trans (hb3'.mono hB.size)
        have hrow3 := World.ownsRow.alloc (own_keepB HROW.out hb3') (Obj.cells #[.int .i64 x] 2)
        have hlen := filt_len A f k
        have HNX : Hid (((A.take (k + 1)).filter f) = (A.take k).filter f ++ [x]) := by unfold Hid; rw [filt_yes A f k (by rw [HN.out]; exact hlt2) (by rw [HX.out]; exact HB.out), HX.out]
        have HBA : Hid (Below W.heap.size W (w3.alloc (Obj.cells #[.int .i64 x] 2))) := hB3.alloc hB3.size _
        have hsz := HBA.out.size
        generalize (A.take k).filter f = L at *
        clear hq hb3' ki d1 hB
        go_wp2_with (at_builtin; refine wpList_app_sr _ rfl _ _ rfl W.heap.size _ _ L rfl hrow3 rfl _ [x] rfl (one_si w3 x) (by simp; omega) hsz ?_; intro v' w4 hown' hbel)
        go_roundw
        case rel => exact ⟨k + 1, by omega, by go_num, by rw [HNX.out, List.length_append]; exact hown', HBA.out.trans hbel⟩
        case measure => simp [intOf]; omega
      · go_wp2_with fail
        refine ki.mono ?_
        rintro e w3 ⟨rfl, q, hq⟩
        have hb3' : Below wr.heap.size wr w3 := by rw [hq]; exact below_drewN (Below.refl _ _) _
        have hB3 : Below W.heap.size W w3 := hB.trans (hb3'.mono hB.size)
        have HNX : Hid (((A.take (k + 1)).filter f) = (A.take k).filter f) := by unfold Hid; rw [filt_no A f k (by rw [HN.out]; exact hlt2) (by rw [HX.out]; exact HB.out)]
        have HR3 : Hid _ := own_keepB HROW.out hb3'
        clear hq hb3' ki d1 hB
        go_wp2
        go_roundw
        case rel => exact ⟨k + 1, by omega, by go_num, by rw [HNX.out]; exact HR3.out, hB3⟩
        case measure => simp [intOf]; omega
    · have hlt' : ¬ (k : Int) < (n3 : Int) := by omega
      obtain rfl : k = n3 := by omega
      have HTK : Hid (A.take k = A) := by unfold Hid; rw [← HN.out]; exact List.take_length
      have HR4 := HROW.out
      rw [HTK.out] at HR4
      obtain ⟨p, c, rfl⟩ := own_slice HR4
      have HR5 : Hid _ := HR4
      clear HR4 HROW
      generalize hLL : (A.filter f).length = LL at HR5
      have HLL : Hid ((A.filter f).length = LL) := hLL
      clear hLL
      go_wp2
      go_ret
      exact ⟨_, rfl, by rw [HLL.out]; exact HR5.out, hB⟩
end Go.Proofs.YthkliicmoandmaaGreatDoor.St

