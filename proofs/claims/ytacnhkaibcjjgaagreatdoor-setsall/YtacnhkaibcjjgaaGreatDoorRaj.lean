/-
  What is proved here: the reference's has, In and Sub of any lists.
  What is proved here: the reference's Meet and Less of any lists.
-/
import Derived.Test.YtacnhkaibcjjgaaGreatDoorPrj
import Derived.Test.YtacnhkaibcjjgaaGreatDoorCbj
namespace Go.Proofs.YtacnhkaibcjjgaaGreatDoor
open Go.RowKit Go.Shelf
set_option linter.unusedVariables false
set_option linter.unusedSimpArgs false

theorem mem_nth {l : List Int} {v : Int} : l.contains v = true ↔ ∃ k, k < l.length ∧ nth l k = v := by
  rw [List.contains_iff_mem, List.mem_iff_getElem]
  constructor
  · rintro ⟨k, hk, e⟩; exact ⟨k, hk, by simp [nth, hk, e]⟩
  · rintro ⟨k, hk, e⟩; exact ⟨k, hk, by simpa [nth, hk] using e⟩
theorem mem_none {l : List Int} {v : Int} (h : ∀ k, k < l.length → nth l k ≠ v) : l.contains v = false := by
  cases hc : l.contains v
  · rfl
  · obtain ⟨k, hk, e⟩ := mem_nth.1 hc
    exact absurd e (h k hk)

set_option maxRecDepth 100000 in
set_option maxHeartbeats 4000000 in
theorem refhas_any (v : Int) (s : Value) (l : List Int) (W : World) (h : Si W s l) (hl : l.length ≤ 1000) :
    Calls Tryz.prog 74 #[.int .i64 v, s] W fun e w' => e = .returned (.bool (l.contains v)) ∧ w' = W := by
  obtain ⟨a, cap, rfl, hc⟩ := h
  obtain ⟨r, hr⟩ : ∃ r, l.contains v = r := ⟨_, rfl⟩
  have HRR : Hid (l.contains v = r) := hr
  rw [hr]
  obtain ⟨n, hn⟩ : ∃ n, l.length = n := ⟨_, rfl⟩
  have HN : Hid (l.length = n) := hn
  rw [hn] at hc hl ⊢
  have HC : Hid _ := hc
  clear hn hc hr
  go_enter Tryz.func74, Tryz.ntmps74
  go_wp2
  go_loopw [5] (fun i wr => ∃ k : Nat, k ≤ n ∧ i = .int .i64 k ∧ (∀ j, j < k → nth l j ≠ v) ∧ wr = W) (fun i _ => n - (intOf i).toNat)
  case atStart => exact ⟨0, Nat.zero_le _, rfl, fun j hj => absurd hj (by omega), rfl⟩
  case round =>
    obtain ⟨k, hk, rfl, hok, rfl⟩ := hrel
    have HOK : Hid (∀ j, j < k → nth l j ≠ v) := hok
    clear hok
    by_cases hlt2 : k < n
    · obtain ⟨b, off, rfl, hb, hcell⟩ := HC.out (by omega)
      have d1 := hcell k hlt2
      have hlt' : (k : Int) < (n : Int) := by omega
      obtain ⟨x, hx⟩ : ∃ x, nth l k = x := ⟨_, rfl⟩
      have HX : Hid (nth l k = x) := hx
      rw [hx] at d1
      clear hx hcell
      by_cases hv : x = v
      · subst hv
        have hv' : (x == x) = true := by simp
        go_wp2
        go_ret
        exact ⟨ret_bool (by rw [← HRR.out]; exact (mem_nth.2 ⟨k, by rw [HN.out]; exact hlt2, HX.out⟩).symm), rfl⟩
      · have hv' : (x == v) = false := by simpa using hv
        have HV : Hid (x ≠ v) := hv
        clear hv
        go_wp2
        go_roundw
        case rel => exact ⟨k + 1, by omega, by go_num, fun j hj => if h : j = k then by subst h; rw [HX.out]; exact HV.out else HOK.out j (by omega), trivial⟩
        case measure => simp [intOf]; omega
    · have hlt' : ¬ (k : Int) < (n : Int) := by omega
      go_wp2
      go_ret
      exact ⟨ret_bool (by rw [← HRR.out]; exact (mem_none fun j hj => HOK.out j (by rw [HN.out] at hj; omega)).symm), rfl⟩
theorem refin_any (v : Int) (s : Value) (l : List Int) (W : World) (h : Si W s l) :
    Calls Tryz.prog 26 #[.int .i64 v, s] W fun e w' => e = .returned (.bool ((tkS l).contains v)) ∧ ∃ q, w' = W.drewN q := by
  have hk := taken_any s l W h
  have kh := fun q X (hq : Si X q (tkS l)) => refhas_any v q (tkS l) X hq (by have := (tkS_set l).1; omega)
  generalize (tkS l).contains v = r at *
  obtain ⟨a, n, rfl, _⟩ := h
  go_enter Tryz.func26, Tryz.ntmps26
  go_wp2_with fail
  refine hk.mono ?_
  rintro e w1 ⟨a1, n1, c1, rfl, HS, HN1, m1, hw1⟩
  have hb1 : Below W.heap.size W w1 := by rw [hw1]; exact below_drewN (Below.refl _ _) _
  have k1 := kh _ w1 (HS.out.below hb1)
  have HW1 : Hid _ := hw1
  clear hk kh hw1
  go_wp2_with fail
  refine k1.mono ?_
  rintro e w2 ⟨rfl, rfl⟩
  go_wp2
  go_ret
  exact ⟨rfl, _, HW1.out⟩
theorem sub_all {a b : List Int} (h : ∀ k, k < a.length → b.contains (nth a k) = true) : subB a b = true := by
  unfold subB lessL
  rw [decide_eq_true_iff, List.length_eq_zero_iff, List.filter_eq_nil_iff]
  intro x hx
  obtain ⟨k, hk, e⟩ := List.getElem_of_mem hx
  have := h k hk
  rw [show nth a k = x by simp [nth, hk, e]] at this
  simpa using this
theorem sub_not {a b : List Int} {k : Nat} (hk : k < a.length) (h : b.contains (nth a k) = false) : subB a b = false := by
  unfold subB lessL
  rw [decide_eq_false_iff_not, List.length_eq_zero_iff, List.filter_eq_nil_iff]
  intro hc
  have := hc (nth a k) (by simp [nth, hk])
  rw [h] at this
  simp at this

set_option maxRecDepth 100000 in
set_option maxHeartbeats 4000000 in
theorem refsub_any (s1 s2 : Value) (a b : List Int) (W : World) (h1 : Si W s1 a) (h2 : Si W s2 b) :
    Calls Tryz.prog 28 #[s1, s2] W fun e w' => e = .returned (.bool (subB (tkS a) (tkS b))) ∧ ∃ q, w' = W.drewN q := by
  have hk := taken_any s1 a W h1
  have kin := fun v m => refin_any v s2 b (W.drewN m) (h2.below (below_drewN (Below.refl _ _) m))
  obtain ⟨a1, c1, rfl, _⟩ := h1
  obtain ⟨a2, c2, rfl, _⟩ := h2
  generalize a.length = n1 at *
  generalize b.length = n2 at *
  obtain ⟨r, hr⟩ : ∃ r, subB (tkS a) (tkS b) = r := ⟨_, rfl⟩
  have HRR : Hid (subB (tkS a) (tkS b) = r) := hr
  rw [hr]
  clear hr
  go_enter Tryz.func28, Tryz.ntmps28
  go_wp2_with fail
  refine hk.mono ?_
  rintro e w1 ⟨a3, n3, c3, rfl, HS, HN3, m1, rfl⟩
  have hS := HS.out
  obtain ⟨a3', c3', e3, hc⟩ := hS
  rw [← HN3.out] at e3 hc
  injection e3 with e4 _ e5
  subst e4 e5
  have HC : Hid _ := hc
  have HN : Hid ((tkS a).length = n3) := HN3.out.symm
  have hn3 : n3 ≤ 64 := by rw [HN3.out]; exact (tkS_set a).1
  clear hk hc HS HN3
  go_wp2
  go_loopw [5] (fun i wr => ∃ k : Nat, k ≤ n3 ∧ i = .int .i64 k ∧ (∀ j, j < k → (tkS b).contains (nth (tkS a) j) = true) ∧ ∃ m, wr = W.drewN m) (fun i _ => n3 - (intOf i).toNat)
  case atStart => exact ⟨0, Nat.zero_le _, rfl, fun j hj => absurd hj (by omega), m1, rfl⟩
  case round =>
    obtain ⟨k, hk, rfl, hok, m, rfl⟩ := hrel
    have HOK : Hid (∀ j, j < k → (tkS b).contains (nth (tkS a) j) = true) := hok
    clear hok
    by_cases hlt2 : k < n3
    · obtain ⟨bb, off, rfl, hb, hcell⟩ := HC.out (by omega)
      have d0 := hcell k hlt2
      obtain ⟨x, hx⟩ : ∃ x, nth (tkS a) k = x := ⟨_, rfl⟩
      have HX : Hid (nth (tkS a) k = x) := hx
      have ki := kin x m
      have hlt' : (k : Int) < (n3 : Int) := by omega
      rw [hx] at d0
      obtain ⟨W2, hW2⟩ : ∃ W2, W.drewN m = W2 := ⟨_, rfl⟩
      have HW2 : Hid (W.drewN m = W2) := hW2
      have d1 : W2.cell? ⟨bb, off + k, none⟩ = some (.int .i64 x) := by rw [← hW2]; exact d0
      rw [hW2] at ki ⊢
      clear hx hcell d0 hW2
      obtain ⟨bo, hbo⟩ : ∃ bo, (tkS b).contains x = bo := ⟨_, rfl⟩
      have HB : Hid ((tkS b).contains x = bo) := hbo
      rw [hbo] at ki
      clear hbo
      cases bo
      · go_wp2_with fail
        refine ki.mono ?_
        rintro e w3 ⟨rfl, q, rfl⟩
        go_wp2
        go_ret
        exact ⟨ret_bool (by rw [← HRR.out]; exact (sub_not (k := k) (by rw [HN.out]; exact hlt2) (by rw [HX.out]; exact HB.out)).symm), _, by rw [← HW2.out, World.drewN_drewN]⟩
      · go_wp2_with fail
        refine ki.mono ?_
        rintro e w3 ⟨rfl, q, rfl⟩
        go_wp2
        go_roundw
        case rel => exact ⟨k + 1, by omega, by go_num, fun j hj => if h : j = k then by subst h; rw [HX.out]; exact HB.out else HOK.out j (by omega), _, by rw [← HW2.out, World.drewN_drewN]⟩
        case measure => simp [intOf]; omega
    · have hlt' : ¬ (k : Int) < (n3 : Int) := by omega
      go_wp2
      go_ret
      exact ⟨ret_bool (by rw [← HRR.out]; exact (sub_all fun j hj => HOK.out j (by rw [HN.out] at hj; omega)).symm), _, rfl⟩
end Go.Proofs.YtacnhkaibcjjgaaGreatDoor

namespace Go.Proofs.YtacnhkaibcjjgaaGreatDoor
open Go.RowKit Go.Shelf
set_option linter.unusedVariables false
set_option linter.unusedSimpArgs false

theorem one_si (w : World) (x : Int) : Si (w.alloc (Obj.cells #[.int .i64 x] 2)) (.slice (some ⟨w.heap.size, 0, none⟩) 1 1) [x] := by
  refine ⟨_, _, rfl, fun _ => ⟨_, _, rfl, by rw [World.size_alloc]; omega, fun i hi => ?_⟩⟩
  have hi0 : i = 0 := by simp at hi; omega
  subst hi0
  have := World.alloc_heap_new w (Obj.cells #[.int .i64 x] 2)
  show (w.alloc (Obj.cells #[.int .i64 x] 2)).cell? ⟨w.heap.size, 0 + 0, none⟩ = _
  rw [cell_row this]
  rfl
theorem take_next (l : List Int) (k : Nat) (h : k < l.length) : l.take (k + 1) = l.take k ++ [nth l k] := by
  rw [List.take_add_one, List.getElem?_eq_getElem h]; simp [nth, h]
theorem filt_yes (l : List Int) (f : Int → Bool) (k : Nat) (h : k < l.length) (hf : f (nth l k) = true) : (l.take (k + 1)).filter f = (l.take k).filter f ++ [nth l k] := by
  rw [take_next l k h, List.filter_append]; simp [hf]
theorem filt_no (l : List Int) (f : Int → Bool) (k : Nat) (h : k < l.length) (hf : f (nth l k) = false) : (l.take (k + 1)).filter f = (l.take k).filter f := by
  rw [take_next l k h, List.filter_append]; simp [hf]
theorem filt_len (l : List Int) (f : Int → Bool) (k : Nat) : ((l.take k).filter f).length ≤ k := Nat.le_trans (List.length_filter_le _ _) (by simp; omega)

set_option maxRecDepth 100000 in
set_option maxHeartbeats 4000000 in
theorem refmeet_any (s1 s2 : Value) (a b : List Int) (W : World) (h1 : Si W s1 a) (h2 : Si W s2 b) :
    Calls Tryz.prog 16 #[s1, s2] W fun e w' => ∃ v, e = .returned v ∧ w'.ownsRow W.heap.size 2 1 v (meetL (tkS a) (tkS b)).length (intv (meetL (tkS a) (tkS b))) ∧ Below W.heap.size W w' := by
  have hk := taken_any s1 a W h1
  have kin := fun v X (hX : Below W.heap.size W X) => refin_any v s2 b X (h2.below hX)
  have hspec : meetL (tkS a) (tkS b) = (tkS a).filter (fun x => (tkS b).contains x) := rfl
  rw [hspec]
  obtain ⟨f, hf⟩ : ∃ f : Int → Bool, (fun x => (tkS b).contains x) = f := ⟨_, rfl⟩
  have HF : Hid (∀ x, f x = (tkS b).contains x) := fun x => by rw [← hf]
  rw [hf]
  clear hspec hf
  have hset := (tkS_set a).1
  generalize tkS a = A at hk hset ⊢
  obtain ⟨a1, c1, rfl, _⟩ := h1
  obtain ⟨a2, c2, rfl, _⟩ := h2
  generalize a.length = n1 at *
  generalize b.length = n2 at *
  go_enter Tryz.func16, Tryz.ntmps16
  go_wp2_with fail
  refine hk.mono ?_
  rintro e w1 ⟨a3, n3, c3, rfl, HS, HN3, m1, hw1⟩
  have hb1 : Below W.heap.size W w1 := by rw [hw1]; exact below_drewN (Below.refl _ _) _
  have hS := HS.out
  obtain ⟨a3', c3', e3, hc⟩ := hS
  rw [← HN3.out] at e3 hc
  injection e3 with e4 _ e5
  subst e4 e5
  have HC : Hid _ := hc
  have HN : Hid (A.length = n3) := HN3.out.symm
  have hn3 : n3 ≤ 64 := by rw [HN3.out]; exact hset
  clear hk hc HS HN3 hw1 hset
  go_wp2
  go_loopw [5, 6] (fun o i wr => ∃ k : Nat, k ≤ n3 ∧ i = .int .i64 k ∧ wr.ownsRow W.heap.size 2 1 o ((A.take k).filter f).length (intv ((A.take k).filter f)) ∧ Below W.heap.size W wr) (fun _ i _ => n3 - (intOf i).toNat)
  case atStart => exact ⟨0, Nat.zero_le _, rfl, by simpa [intv] using World.ownsRow_nil _ _ _ _, hb1⟩
  case round =>
    obtain ⟨k, hk, rfl, hrow, hB⟩ := hrel
    have HROW : Hid _ := hrow
    clear hrow
    by_cases hlt2 : k < n3
    · obtain ⟨bb, off, rfl, hb, hcell⟩ := HC.out (by omega)
      have d0 := hcell k hlt2
      obtain ⟨x, hx⟩ : ∃ x, nth A k = x := ⟨_, rfl⟩
      have HX : Hid (nth A k = x) := hx
      rw [hx] at d0
      have hlt' : (k : Int) < (n3 : Int) := by omega
      have d1 := (hB.cell (p := ⟨bb, off + k, none⟩) hb).trans d0
      have ki := kin x wr hB
      clear hx hcell d0
      obtain ⟨bo, hbo⟩ : ∃ bo, (tkS b).contains x = bo := ⟨_, rfl⟩
      rw [hbo] at ki
      have HB : Hid (f x = bo) := by unfold Hid; rw [HF.out, hbo]
      clear hbo
      cases bo
      · go_wp2_with fail
        refine ki.mono ?_
        rintro e w3 ⟨rfl, q, hq⟩
        have hb3' : Below wr.heap.size wr w3 := by rw [hq]; exact below_drewN (Below.refl _ _) _
        have hB3 : Below W.heap.size W w3 := hB.trans (hb3'.mono hB.size)
        have HNX : Hid (((A.take (k + 1)).filter f) = (A.take k).filter f) := by unfold Hid; rw [filt_no A f k (by rw [HN.out]; exact hlt2) (by rw [HX.out]; exact HB.out)]
        have HR3 : Hid _ := own_keepB HROW.out hb3'
        clear hq hb3' ki d1 hB
        go_wp2
        go_roundw
        case rel => exact ⟨k + 1, by omega, by go_num, by rw [HNX.out]; exact HR3.out, hB3⟩
        case measure => simp [intOf]; omega
      · go_wp2_with fail
        refine ki.mono ?_
        rintro e w3 ⟨rfl, q, hq⟩
        have hb3' : Below wr.heap.size wr w3 := by rw [hq]; exact below_drewN (Below.refl _ _) _
        have d2 := (hb3'.cell (p := ⟨bb, off + k, none⟩) (Nat.lt_of_lt_of_le hb hB.size)).trans d1
        have hB3 : Below W.heap.size W w3 := hB.trans (hb3'.mono hB.size)
        have hrow3 := World.ownsRow.alloc (own_keepB HROW.out hb3') (Obj.cells #[.int .i64 x] 2)
        have hlen := filt_len A f k
        have HNX : Hid (((A.take (k + 1)).filter f) = (A.take k).filter f ++ [x]) := by unfold Hid; rw [filt_yes A f k (by rw [HN.out]; exact hlt2) (by rw [HX.out]; exact HB.out), HX.out]
        have HBA : Hid (Below W.heap.size W (w3.alloc (Obj.cells #[.int .i64 x] 2))) := hB3.alloc hB3.size _
        have hsz := HBA.out.size
        generalize (A.take k).filter f = L at *
        clear hq hb3' ki d1 hB
        go_wp2_with (at_builtin; refine wpList_app_sr _ rfl _ _ rfl W.heap.size _ _ L rfl hrow3 rfl _ [x] rfl (one_si w3 x) (by simp; omega) hsz ?_; intro v' w4 hown' hbel)
        go_roundw
        case rel => exact ⟨k + 1, by omega, by go_num, by rw [HNX.out, List.length_append]; exact hown', HBA.out.trans hbel⟩
        case measure => simp [intOf]; omega
    · have hlt' : ¬ (k : Int) < (n3 : Int) := by omega
      obtain rfl : k = n3 := by omega
      have HTK : Hid (A.take k = A) := by unfold Hid; rw [← HN.out]; exact List.take_length
      have HR4 := HROW.out
      rw [HTK.out] at HR4
      obtain ⟨p, c, rfl⟩ := own_slice HR4
      have HR5 : Hid _ := HR4
      clear HR4 HROW
      generalize hLL : (A.filter f).length = LL at HR5
      have HLL : Hid ((A.filter f).length = LL) := hLL
      clear hLL
      go_wp2
      go_ret
      exact ⟨_, rfl, by rw [HLL.out]; exact HR5.out, hB⟩

set_option maxRecDepth 100000 in
set_option maxHeartbeats 4000000 in
theorem refless_any (s1 s2 : Value) (a b : List Int) (W : World) (h1 : Si W s1 a) (h2 : Si W s2 b) :
    Calls Tryz.prog 17 #[s1, s2] W fun e w' => ∃ v, e = .returned v ∧ w'.ownsRow W.heap.size 2 1 v (lessL (tkS a) (tkS b)).length (intv (lessL (tkS a) (tkS b))) ∧ Below W.heap.size W w' := by
  have hk := taken_any s1 a W h1
  have kin := fun v X (hX : Below W.heap.size W X) => refin_any v s2 b X (h2.below hX)
  have hspec : lessL (tkS a) (tkS b) = (tkS a).filter (fun x => !(tkS b).contains x) := rfl
  rw [hspec]
  obtain ⟨f, hf⟩ : ∃ f : Int → Bool, (fun x => !(tkS b).contains x) = f := ⟨_, rfl⟩
  have HF : Hid (∀ x, f x = !(tkS b).contains x) := fun x => by rw [← hf]
  rw [hf]
  clear hspec hf
  have hset := (tkS_set a).1
  generalize tkS a = A at hk hset ⊢
  obtain ⟨a1, c1, rfl, _⟩ := h1
  obtain ⟨a2, c2, rfl, _⟩ := h2
  generalize a.length = n1 at *
  generalize b.length = n2 at *
  go_enter Tryz.func17, Tryz.ntmps17
  go_wp2_with fail
  refine hk.mono ?_
  rintro e w1 ⟨a3, n3, c3, rfl, HS, HN3, m1, hw1⟩
  have hb1 : Below W.heap.size W w1 := by rw [hw1]; exact below_drewN (Below.refl _ _) _
  have hS := HS.out
  obtain ⟨a3', c3', e3, hc⟩ := hS
  rw [← HN3.out] at e3 hc
  injection e3 with e4 _ e5
  subst e4 e5
  have HC : Hid _ := hc
  have HN : Hid (A.length = n3) := HN3.out.symm
  have hn3 : n3 ≤ 64 := by rw [HN3.out]; exact hset
  clear hk hc HS HN3 hw1 hset
  go_wp2
  go_loopw [5, 6] (fun o i wr => ∃ k : Nat, k ≤ n3 ∧ i = .int .i64 k ∧ wr.ownsRow W.heap.size 2 1 o ((A.take k).filter f).length (intv ((A.take k).filter f)) ∧ Below W.heap.size W wr) (fun _ i _ => n3 - (intOf i).toNat)
  case atStart => exact ⟨0, Nat.zero_le _, rfl, by simpa [intv] using World.ownsRow_nil _ _ _ _, hb1⟩
  case round =>
    obtain ⟨k, hk, rfl, hrow, hB⟩ := hrel
    have HROW : Hid _ := hrow
    clear hrow
    by_cases hlt2 : k < n3
    · obtain ⟨bb, off, rfl, hb, hcell⟩ := HC.out (by omega)
      have d0 := hcell k hlt2
      obtain ⟨x, hx⟩ : ∃ x, nth A k = x := ⟨_, rfl⟩
      have HX : Hid (nth A k = x) := hx
      rw [hx] at d0
      have hlt' : (k : Int) < (n3 : Int) := by omega
      have d1 := (hB.cell (p := ⟨bb, off + k, none⟩) hb).trans d0
      have ki := kin x wr hB
      clear hx hcell d0
      obtain ⟨bo, hbo⟩ : ∃ bo, (tkS b).contains x = bo := ⟨_, rfl⟩
      rw [hbo] at ki
      have HB : Hid (f x = !bo) := by unfold Hid; rw [HF.out, hbo]
      clear hbo
      cases bo
      · go_wp2_with fail
        refine ki.mono ?_
        rintro e w3 ⟨rfl, q, hq⟩
        have hb3' : Below wr.heap.size wr w3 := by rw [hq]; exact below_drewN (Below.refl _ _) _
        have d2 := (hb3'.cell (p := ⟨bb, off + k, none⟩) (Nat.lt_of_lt_of_le hb hB.size)).trans d1
        have hB3 : Below W.heap.size W w3 := hB.trans (hb3'.mono hB.size)
        have hrow3 := World.ownsRow.alloc (own_keepB HROW.out hb3') (Obj.cells #[.int .i64 x] 2)
        have hlen := filt_len A f k
        have HNX : Hid (((A.take (k + 1)).filter f) = (A.take k).filter f ++ [x]) := by unfold Hid; rw [filt_yes A f k (by rw [HN.out]; exact hlt2) (by rw [HX.out]; exact HB.out), HX.out]
        have HBA : Hid (Below W.heap.size W (w3.alloc (Obj.cells #[.int .i64 x] 2))) := hB3.alloc hB3.size _
        have hsz := HBA.out.size
        generalize (A.take k).filter f = L at *
        clear hq hb3' ki d1 hB
        go_wp2_with (at_builtin; refine wpList_app_sr _ rfl _ _ rfl W.heap.size _ _ L rfl hrow3 rfl _ [x] rfl (one_si w3 x) (by simp; omega) hsz ?_; intro v' w4 hown' hbel)
        go_roundw
        case rel => exact ⟨k + 1, by omega, by go_num, by rw [HNX.out, List.length_append]; exact hown', HBA.out.trans hbel⟩
        case measure => simp [intOf]; omega
      · go_wp2_with fail
        refine ki.mono ?_
        rintro e w3 ⟨rfl, q, hq⟩
        have hb3' : Below wr.heap.size wr w3 := by rw [hq]; exact below_drewN (Below.refl _ _) _
        have hB3 : Below W.heap.size W w3 := hB.trans (hb3'.mono hB.size)
        have HNX : Hid (((A.take (k + 1)).filter f) = (A.take k).filter f) := by unfold Hid; rw [filt_no A f k (by rw [HN.out]; exact hlt2) (by rw [HX.out]; exact HB.out)]
        have HR3 : Hid _ := own_keepB HROW.out hb3'
        clear hq hb3' ki d1 hB
        go_wp2
        go_roundw
        case rel => exact ⟨k + 1, by omega, by go_num, by rw [HNX.out]; exact HR3.out, hB3⟩
        case measure => simp [intOf]; omega
    · have hlt' : ¬ (k : Int) < (n3 : Int) := by omega
      obtain rfl : k = n3 := by omega
      have HTK : Hid (A.take k = A) := by unfold Hid; rw [← HN.out]; exact List.take_length
      have HR4 := HROW.out
      rw [HTK.out] at HR4
      obtain ⟨p, c, rfl⟩ := own_slice HR4
      have HR5 : Hid _ := HR4
      clear HR4 HROW
      generalize hLL : (A.filter f).length = LL at HR5
      have HLL : Hid ((A.filter f).length = LL) := hLL
      clear hLL
      go_wp2
      go_ret
      exact ⟨_, rfl, by rw [HLL.out]; exact HR5.out, hB⟩
end Go.Proofs.YtacnhkaibcjjgaaGreatDoor
