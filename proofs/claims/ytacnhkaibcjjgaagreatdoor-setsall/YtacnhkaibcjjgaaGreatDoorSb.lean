/-
  What is proved here: what sets.shared tells of any two sets.
-/
import Derived.Test.YtacnhkaibcjjgaaGreatDoorSa
import Derived.Test.YtacnhkaibcjjgaaGreatDoorSh
import Derived.Deep.MidRow
import Derived.Laws.Rows
import Derived.Laws.Tables
import Derived.Laws.CopyOwn
namespace Go.Proofs.YtacnhkaibcjjgaaGreatDoor
open Go.RowKit Go.Shelf
set_option linter.unusedVariables false
set_option linter.unusedSimpArgs false

theorem Tryz.info62 : (Tryz.prog.info? 62).map (fun i => (i.zero, i.size)) = some (some (.agg (Array.replicate 64 (.bool false))), 64) := by kernel_rfl
theorem Tryz.size62 : (Tryz.prog.info? 62).map (·.size) = some 64 := by kernel_rfl
/-- 64 truths. -/
def bits64 (f : Nat → Bool) : Array Value := ((List.range 64).map fun j => Value.bool (f j)).toArray
theorem bits64_size (f : Nat → Bool) : (bits64 f).size = 64 := by simp [bits64]
theorem bits64_get (f : Nat → Bool) (k : Nat) (h : k < 64) : (bits64 f)[k]? = some (.bool (f k)) := by simp [bits64, h]
theorem bits64_set (f : Nat → Bool) (k : Nat) (c : Bool) : (bits64 f).setIfInBounds k (.bool c) = bits64 (fun j => if j = k then c else f j) := by
  apply Array.ext_getElem?
  intro j
  by_cases hj : j < 64
  · rw [bits64_get _ j hj, Array.getElem?_setIfInBounds]
    by_cases h : k = j
    · subst h; simp [bits64_size, hj]
    · rw [if_neg h, bits64_get _ j hj, if_neg (fun e => h e.symm)]
  · rw [Array.getElem?_eq_none (by simp [bits64_size]; omega), Array.getElem?_eq_none (by simp [bits64_size]; omega)]
theorem bits64_congr {f g : Nat → Bool} (h : ∀ j, j < 64 → f j = g j) : bits64 f = bits64 g := by
  unfold bits64
  congr 1
  exact List.map_congr_left fun j hj => by rw [h j (List.mem_range.1 hj)]
theorem bits64_zero : bits64 (fun _ => false) = Array.replicate 64 (.bool false) := by
  apply Array.ext_getElem?
  intro j
  by_cases hj : j < 64
  · rw [bits64_get _ j hj]; simp [hj]
  · rw [Array.getElem?_eq_none (by simp [bits64_size]; omega), Array.getElem?_eq_none (by simp; omega)]
theorem bits64_one (f : Nat → Bool) : (bits64 f).all (·.oneCell') = true := by
  rw [Array.all_eq_true_iff_forall_mem]
  intro v hv
  unfold bits64 at hv
  simp only [List.mem_toArray, List.mem_map] at hv
  obtain ⟨j, _, rfl⟩ := hv
  rfl
/-- Which elements of a are in b. -/
def sharedF (a b : List Int) (k : Nat) (j : Nat) : Bool := decide (j < k) && b.contains (nth a j)
theorem row_set {W : World} {A : Nat} {cur : Array Value} {t : TypeId} (h : W.heap[A]? = some (.cells cur t (0, 0))) (q : Nat) (v : Value) : (W.setCell ⟨A, q, none⟩ v).heap[A]? = some (.cells (cur.setIfInBounds q v) t (0, 0)) := by
  obtain ⟨hlt, hk⟩ := Array.getElem?_eq_some_iff.1 h
  show (W.heap.modify A _)[A]? = _
  rw [Array.getElem?_eq_getElem (by rw [Array.size_modify]; exact hlt), Array.getElem_modify_self, hk]
  rfl
theorem set_sorted {l : List Int} (h : IsSet l) : l.Pairwise (· ≤ ·) := by
  have key : ∀ i j, i < j → j < l.length → nth l i < nth l j := by
    intro i j hij
    induction j with
    | zero => omega
    | succ j ih =>
      intro hj
      have h1 := (h.2 (j + 1) hj).2.2 (by omega)
      simp only [Nat.add_sub_cancel] at h1
      by_cases e : i = j
      · subst e; exact h1
      · have := ih (by omega) (by omega); omega
  rw [List.pairwise_iff_getElem]
  intro i j hi hj hij
  have := key i j hij hj
  simp only [nth, List.getD_eq_getElem?_getD, List.getElem?_eq_getElem hi, List.getElem?_eq_getElem hj, Option.getD_some] at this
  omega

theorem search_none (a : Option Addr) (c : Nat) (x : Int) (w : World) :
    Calls Tryz.prog 73 #[.slice a 0 c, .int .i64 x] w fun e w' => e = .returned (.tuple #[.int .i64 0, .bool false]) ∧ ∃ q, w' = w.drewN q := by
  go_enter Tryz.func73, Tryz.ntmps73
  go_wp2
  go_loopw [7, 8] (fun i j wr => i = .int .i64 0 ∧ j = .int .i64 0 ∧ ∃ m, wr = w.drewN m) (fun _ _ _ => 0)
  case atStart => exact ⟨rfl, rfl, 0, rfl⟩
  case round =>
    obtain ⟨rfl, rfl, m, rfl⟩ := hrel
    go_wp2
    go_ret2
    exact ⟨rfl, _, rfl⟩

theorem nth_getD (l : List Int) (j : Nat) : l.getD j 0 = nth l j := rfl
theorem search_any (s : Value) (l : List Int) (x : Int) (w : World) (h : Si w s l) (hR : IsSet l) :
    Calls Tryz.prog 73 #[s, .int .i64 x] w fun e w' => ∃ i, e = .returned (.tuple #[.int .i64 i, .bool (l.contains x)]) ∧ ∃ q, w' = w.drewN q := by
  obtain ⟨a, cap, rfl, hc⟩ := h
  by_cases h0 : 0 < l.length
  · obtain ⟨b, off, rfl, hb, hcell⟩ := hc h0
    have := AnyG.slices_BinarySearch_int Tryz.laysSearch b off l.length cap l x w (Nat.le_refl _) (by have := hR.1; omega) (fun j hj => by rw [nth_getD]; exact hcell j hj) (by rw [List.take_length]; exact set_sorted hR)
    rw [List.take_length] at this
    exact this.mono fun e w' ⟨he, hw⟩ => ⟨_, he, hw⟩
  · have e0 : l.length = 0 := by omega
    have : l = [] := List.length_eq_zero_iff.1 e0
    subst this
    exact (search_none a cap x w).mono fun e w' ⟨he, hw⟩ => ⟨0, he, hw⟩

set_option maxRecDepth 100000 in
set_option maxHeartbeats 2000000 in
theorem shared_any (s1 s2 : Value) (a b : List Int) (W : World) (h1 : Si W s1 a) (h2 : Si W s2 b) (ha : IsSet a) (hb : IsSet b) :
    Calls Tryz.prog 63 #[s1, s2] W fun e w' => e = .returned (.agg (bits64 (sharedF a b a.length))) ∧ Below W.heap.size W w' := by
  have hsr := fun X (hX : Below W.heap.size W X) x => search_any s2 b x X (h2.below hX) hb
  have hlen := ha.1
  obtain ⟨a1, c1, rfl, hc1⟩ := h1
  obtain ⟨a2, c2, rfl, _⟩ := h2
  obtain ⟨n, hn⟩ : ∃ n, a.length = n := ⟨_, rfl⟩
  have HN : Hid (a.length = n) := hn
  rw [hn] at hc1 hlen ⊢
  have HC : Hid _ := hc1
  obtain ⟨hz, hzs⟩ := zero_of_info Tryz.info62
  rw [← bits64_zero] at hz
  obtain ⟨Z, hZ⟩ : ∃ Z : Array Value, bits64 (fun _ => false) = Z := ⟨_, rfl⟩
  rw [hZ] at hz
  have HZ : Hid (bits64 (fun _ => false) = Z) := hZ
  have hR1 : ((W.alloc (Obj.cells Z 62)).alloc (Obj.cells Z 62)).heap[W.heap.size]? = some (.cells Z 62 (0, 0)) := (Below.heap_alloc _ _ _ (by simp)).trans (World.alloc_heap_new W _)
  have hR2 : ((W.alloc (Obj.cells Z 62)).alloc (Obj.cells Z 62)).heap[W.heap.size + 1]? = some (.cells Z 62 (0, 0)) := by
    have := World.alloc_heap_new (W.alloc (Obj.cells Z 62)) (Obj.cells Z 62); rwa [World.size_alloc] at this
  have hB0 : Below W.heap.size W ((W.alloc (Obj.cells Z 62)).alloc (Obj.cells Z 62)) := ((Below.refl _ W).alloc (Nat.le_refl _) _).alloc (by simp) _
  have HR1 : Hid _ := hR1
  have HR2 : Hid _ := hR2
  clear hn hc1 hZ hzs ha hb hR1 hR2
  go_enter Tryz.func63, Tryz.ntmps63
  go_wp2
  go_loopw [10] (fun i wr => ∃ k : Nat, k ≤ n ∧ i = .int .i64 k ∧ Hid (wr.heap[W.heap.size]? = some (.cells Z 62 (0, 0))) ∧ Hid (wr.heap[W.heap.size + 1]? = some (.cells (bits64 (sharedF a b k)) 62 (0, 0))) ∧ Below W.heap.size W wr) (fun i _ => n - (intOf i).toNat)
  case atStart => exact ⟨0, Nat.zero_le _, rfl, HR1.out, by unfold Hid; rw [HR2.out, ← HZ.out, bits64_congr (f := fun _ => false) (g := sharedF a b 0) (fun j hj => by simp [sharedF])], hB0⟩
  case round =>
    obtain ⟨k, hk, rfl, H1, H2, hB⟩ := hrel
    clear HR1 HR2 hB0
    by_cases hlt : k < n
    · obtain ⟨b1, off, rfl, hb1, hcell⟩ := HC.out (by omega)
      have d1 := (hB.cell (p := ⟨b1, off + k, none⟩) hb1).trans (hcell k hlt)
      have hlt' : (k : Int) < (n : Int) := by omega
      obtain ⟨x, hx⟩ : ∃ x, nth a k = x := ⟨_, rfl⟩
      have HX : Hid (nth a k = x) := hx
      rw [hx] at d1
      clear hcell hx
      have hs := hsr wr hB x
      go_wp2_with fail
      refine hs.mono ?_
      rintro e w2 ⟨i, rfl, q, hw2⟩
      have hB2 : Below W.heap.size W w2 := by rw [hw2]; exact below_drewN hB q
      have H12 : Hid (w2.heap[W.heap.size]? = some (.cells Z 62 (0, 0))) := by rw [hw2]; exact H1.out
      have H22 : Hid (w2.heap[W.heap.size + 1]? = some (.cells (bits64 (sharedF a b k)) 62 (0, 0))) := by rw [hw2]; exact H2.out
      have hk64 : k < 64 := by omega
      have c1 : w2.cell? ⟨W.heap.size + 1, k, none⟩ = some (.bool (sharedF a b k k)) := by simp only [World.cell?, H22.out]; rw [if_neg (by simp)]; exact bits64_get _ k hk64
      have f1 : w2.frozen? ⟨W.heap.size + 1, k, none⟩ = false := by simp [World.frozen?, H22.out]
      have hk64' : (k : Int) < 64 := by omega
      clear hs hw2 H1 H2 hB
      go_wp2
      go_roundw
      case rel =>
        refine ⟨k + 1, by omega, by go_num, ?_, ?_, hB2.setCell (p := ⟨W.heap.size + 1, k, none⟩) (by show W.heap.size ≤ W.heap.size + 1; omega) _⟩
        · unfold Hid
          rw [heap_setCell_other _ _ _ _ (by simp)]
          exact H12.out
        · unfold Hid
          rw [row_set H22.out, bits64_set]
          congr 2
          refine bits64_congr fun j hj => ?_
          unfold sharedF
          by_cases e : j = k
          · subst e; simp [HX.out]
          · rw [if_neg e]
            congr 1
            simp only [decide_eq_decide]; omega
      case measure => simp [intOf]; omega
    · obtain rfl : k = n := by omega
      have hlt' : ¬ (k : Int) < (k : Int) := by omega
      have hsz := bits64_size (sharedF a b k)
      have hone := bits64_one (sharedF a b k)
      obtain ⟨T, hT⟩ : ∃ T, bits64 (sharedF a b k) = T := ⟨_, rfl⟩
      rw [hT] at H2 hsz hone
      have HT : Hid (bits64 (sharedF a b k) = T) := hT
      have hzz : Z.size = 64 := by rw [← HZ.out]; exact bits64_size _
      have hs62 : (Tryz.prog.info? 62).map (·.size) = some T.size := by rw [Tryz.size62, hsz]
      have HS62 : Hid ((Tryz.prog.info? 62).map (·.size) = some T.size) := hs62
      have HZT : Hid (Z.size = T.size ∧ T.all (·.oneCell') = true) := ⟨by rw [hzz, hsz], hone⟩
      have hB9 : Below W.heap.size W (wr.setRow W.heap.size T) := below_setRow hB (Nat.le_refl _) T
      have H9 : Hid ((wr.setRow W.heap.size T).heap[W.heap.size]? = some (.cells T 62 (0, 0))) := setRow_heap wr W.heap.size Z T 62 (0, 0) H1.out
      have HSZ : Hid (T.size = 64) := hsz
      clear hsz hone hzz hT hs62
      go_wp2_with (first | (with_reducible refine wpList_load_row rfl 62 (.tmp 5) rfl (W.heap.size + 1) (by with_unfolding_all rfl) 62 T (0, 0) _ H2.out Tryz.underlying62 rfl HS62.out ?_) | (with_reducible refine wpList_store_row rfl 62 (.tmp 4) (.tmp 24) rfl W.heap.size T (by with_unfolding_all rfl) (by with_unfolding_all rfl) 62 Z H1.out HS62.out HZT.out.1 HZT.out.2 ?_))
      refine ⟨rfl, .agg T, ?_, by rw [HT.out], hB9⟩
      exact results_cell_row (P := Tryz.prog) rfl _ _ W.heap.size 62 T (0, 0) _ rfl H9.out Tryz.underlying62 rfl HS62.out
end Go.Proofs.YtacnhkaibcjjgaaGreatDoor
