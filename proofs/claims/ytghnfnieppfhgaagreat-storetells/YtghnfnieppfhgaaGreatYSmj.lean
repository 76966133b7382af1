/-
  What is proved here: sets.Empty, taken and Of of any domain.
  What is proved here: a row of six cells that holds a domain of sets: read, kept, written.
  What is proved here: the reference's Meet and Less of any lists.
-/
import Derived.Test.YtghnfnieppfhgaaGreatYSfj
import Derived.Test.YtghnfnieppfhgaaGreatYSdj
namespace Go.Proofs.YtghnfnieppfhgaaGreat.St
open Go.RowKit Go.Shelf
set_option linter.unusedVariables false
set_option linter.unusedSimpArgs false

def emptyD (d : SD) : Bool := !rightD d || decide (d.most < d.least)
def takenD (d : SD) : SD := if RightD d then tightD d.lo d.up d.least d.most else noneD

set_option maxRecDepth 100000 in
set_option maxHeartbeats 2000000 in
theorem empty_any (v : Value) (d : SD) (W : World) (h : Di W v d) :
    Calls Tryz.prog 112 #[v] W fun e w' => e = .returned (.bool (emptyD d)) ∧ Below W.heap.size W w' := by
  have hr := fun X (hX : Below W.heap.size W X) => right_any v d X (h.below hX)
  obtain ⟨ra, rc, slo, sup, rfl, h1, h2⟩ := h
  obtain ⟨a1, c1, rfl, _⟩ := h1
  obtain ⟨a2, c2, rfl, _⟩ := h2
  have he : emptyD d = (!rightD d || decide (d.most < d.least)) := rfl
  obtain ⟨st, rn, lo, up, least, most⟩ := d
  simp only at hr he ⊢
  obtain ⟨n1, hn1⟩ : ∃ n, lo.length = n := ⟨_, rfl⟩
  obtain ⟨n2, hn2⟩ : ∃ n, up.length = n := ⟨_, rfl⟩
  simp only [hn1, hn2] at hr ⊢
  obtain ⟨r, hrd⟩ : ∃ r, rightD ⟨st, rn, lo, up, least, most⟩ = r := ⟨_, rfl⟩
  rw [hrd] at he
  simp only [hrd] at hr
  have HE : Hid (emptyD ⟨st, rn, lo, up, least, most⟩ = (!r || decide (most < least))) := he
  have hb0 : Below W.heap.size W (W.alloc (Obj.cells #[.bool st, .slice ra rn rc, .slice a1 n1 c1, .slice a2 n2 c2, .int .i64 least, .int .i64 most] 37)) := (Below.refl _ W).alloc (Nat.le_refl _) _
  have hR0 := World.alloc_heap_new W (Obj.cells #[.bool st, .slice ra rn rc, .slice a1 n1 c1, .slice a2 n2 c2, .int .i64 least, .int .i64 most] 37)
  have hr0 := hr _ hb0
  clear he hrd hn1 hn2 hr
  by_cases hrr : r = true
  · subst hrr
    by_cases hlm : most < least
    · go_enter Tryz.func112, Tryz.ntmps112
      go_wp2_with fail
      refine hr0.mono ?_
      rintro e w1 ⟨rfl, hb1⟩
      obtain ⟨c0, c1', c2', c3, c4, c5⟩ := six_cells ((hb1.block W.heap.size (by simp)).trans hR0)
      have hB1 : Below W.heap.size W w1 := hb0.trans (hb1.mono hb0.size)
      clear hr0 hR0 hb1 hb0
      go_wp2
      go_ret
      exact ⟨ret_bool (by rw [HE.out]; simp [hlm]), hB1⟩
    · go_enter Tryz.func112, Tryz.ntmps112
      go_wp2_with fail
      refine hr0.mono ?_
      rintro e w1 ⟨rfl, hb1⟩
      obtain ⟨c0, c1', c2', c3, c4, c5⟩ := six_cells ((hb1.block W.heap.size (by simp)).trans hR0)
      have hB1 : Below W.heap.size W w1 := hb0.trans (hb1.mono hb0.size)
      clear hr0 hR0 hb1 hb0
      go_wp2
      go_ret
      exact ⟨ret_bool (by rw [HE.out]; simp [hlm]), hB1⟩
  · have hrr' : r = false := by simpa using hrr
    subst hrr'
    go_enter Tryz.func112, Tryz.ntmps112
    go_wp2_with fail
    refine hr0.mono ?_
    rintro e w1 ⟨rfl, hb1⟩
    have hB1 : Below W.heap.size W w1 := hb0.trans (hb1.mono hb0.size)
    clear hr0 hR0 hb1 hb0
    go_wp2
    go_ret
    exact ⟨ret_bool (by rw [HE.out]; simp), hB1⟩

set_option maxRecDepth 100000 in
set_option maxHeartbeats 2000000 in
theorem taken_dom (v : Value) (d : SD) (W : World) (h : Di W v d) :
    Calls Tryz.prog 101 #[v] W fun e w' => ∃ v', e = .returned v' ∧ Dv W.heap.size w' v' (takenD d) ∧ Below W.heap.size W w' := by
  have hr := fun X (hX : Below W.heap.size W X) => right_any v d X (h.below hX)
  obtain ⟨ra, rc, slo, sup, rfl, h1, h2⟩ := h
  have ht := fun (hR : RightD d) X (hX : Below W.heap.size W X) => tight_any slo sup d.lo d.up d.least d.most X (h1.below hX) (h2.below hX) (by have := hR.2.2.1.1; omega) (by have := hR.2.2.2.1.1; omega)
  obtain ⟨a1, c1, rfl, _⟩ := h1
  obtain ⟨a2, c2, rfl, _⟩ := h2
  have he : takenD d = if RightD d then tightD d.lo d.up d.least d.most else noneD := rfl
  obtain ⟨TD, hTD⟩ : ∃ X, takenD d = X := ⟨_, rfl⟩
  have HTD : Hid (takenD d = TD) := hTD
  obtain ⟨st, rn, lo, up, least, most⟩ := d
  simp only at hr he ht ⊢
  obtain ⟨n1, hn1⟩ : ∃ n, lo.length = n := ⟨_, rfl⟩
  obtain ⟨n2, hn2⟩ : ∃ n, up.length = n := ⟨_, rfl⟩
  simp only [hn1, hn2] at hr ht ⊢
  obtain ⟨W0, hW0⟩ : ∃ X, (W.alloc (Obj.cells #[.bool st, .slice ra rn rc, .slice a1 n1 c1, .slice a2 n2 c2, .int .i64 least, .int .i64 most] 37)).alloc (Obj.cells #[.bool false, .slice none 0 0, .slice none 0 0, .slice none 0 0, .int .i64 0, .int .i64 0] 37) = X := ⟨_, rfl⟩
  have HW0 : Hid _ := hW0
  have hb0 : Below W.heap.size W W0 := by rw [← hW0]; exact ((Below.refl _ W).alloc (Nat.le_refl _) _).alloc (by simp) _
  have hR0 : W0.heap[W.heap.size]? = some (.cells #[.bool st, .slice ra rn rc, .slice a1 n1 c1, .slice a2 n2 c2, .int .i64 least, .int .i64 most] 37 (0, 0)) := by
    rw [← hW0]; exact (Below.heap_alloc _ _ _ (by simp)).trans (World.alloc_heap_new W _)
  have hZ0 : W0.heap[W.heap.size + 1]? = some (.cells #[.bool false, .slice none 0 0, .slice none 0 0, .slice none 0 0, .int .i64 0, .int .i64 0] 37 (0, 0)) := by
    rw [← hW0]; have := World.alloc_heap_new (W.alloc (Obj.cells #[.bool st, .slice ra rn rc, .slice a1 n1 c1, .slice a2 n2 c2, .int .i64 least, .int .i64 most] 37)) (Obj.cells #[.bool false, .slice none 0 0, .slice none 0 0, .slice none 0 0, .int .i64 0, .int .i64 0] 37); rwa [World.size_alloc] at this
  have hlt0 : W.heap.size + 1 < W0.heap.size := (Array.getElem?_eq_some_iff.1 hZ0).1
  have hr0 := hr _ hb0
  obtain ⟨c0, c1', c2', c3, c4, c5⟩ := six_cells hR0
  clear hTD hn1 hn2 hr hW0
  by_cases hRD : RightD ⟨st, rn, lo, up, least, most⟩
  · have htt := ht hRD
    rw [if_pos hRD] at he
    have hrb : rightD ⟨st, rn, lo, up, least, most⟩ = true := decide_eq_true hRD
    rw [hrb] at hr0
    have HE : Hid (takenD ⟨st, rn, lo, up, least, most⟩ = tightD lo up least most) := he
    clear ht hRD hrb he
    go_enter Tryz.func101, Tryz.ntmps101
    go_upto_region 1 with (fail)
    rw [HW0.out]
    go_wp2_with fail
    refine hr0.mono ?_
    rintro e w1 ⟨rfl, hb1⟩
    have hB1 : Below W.heap.size W w1 := hb0.trans (hb1.mono hb0.size)
    have hZ1 := (hb1.block (W.heap.size + 1) hlt0).trans hZ0
    have hlt1 : W.heap.size + 1 < w1.heap.size := (Array.getElem?_eq_some_iff.1 hZ1).1
    have hR1 := (hb1.block W.heap.size (by omega)).trans hR0
    clear c0 c1' c2' c3 c4 c5
    obtain ⟨c0, c1', c2', c3, c4, c5⟩ := six_cells hR1
    have ht1 := htt w1 hB1
    clear hr0 hR0 hZ0 hb1 hb0 hR1
    go_wp2_with fail
    refine ht1.mono ?_
    rintro e w2 ⟨v2, rfl, hD2, hb2⟩
    have hB2 : Below W.heap.size W w2 := hB1.trans (hb2.mono hB1.size)
    have hZ2 := (hb2.block (W.heap.size + 1) hlt1).trans hZ1
    obtain ⟨slo, sup, rfl, e0, o1, o2⟩ := hD2
    obtain ⟨p1, k1, rfl⟩ := own_slice o1
    obtain ⟨p2, k2, rfl⟩ := own_slice o2
    obtain ⟨T, hT⟩ : ∃ T, tightD lo up least most = T := ⟨_, rfl⟩
    rw [hT] at e0 o1 o2 ⊢
    obtain ⟨m1, hm1⟩ : ∃ n, T.lo.length = n := ⟨_, rfl⟩
    obtain ⟨m2, hm2⟩ : ∃ n, T.up.length = n := ⟨_, rfl⟩
    obtain ⟨x0, hx0⟩ : ∃ x, T.set = x := ⟨_, rfl⟩
    obtain ⟨x4, hx4⟩ : ∃ x, T.least = x := ⟨_, rfl⟩
    obtain ⟨x5, hx5⟩ : ∃ x, T.most = x := ⟨_, rfl⟩
    have HX : Hid (takenD ⟨st, rn, lo, up, least, most⟩ = T ∧ T.lo.length = m1 ∧ T.up.length = m2 ∧ T.set = x0 ∧ T.least = x4 ∧ T.most = x5 ∧ T.rn = 0) := ⟨HE.out.trans hT, hm1, hm2, hx0, hx4, hx5, e0⟩
    rw [hm1] at o1 ⊢
    rw [hm2] at o2 ⊢
    rw [hx0, hx4, hx5]
    have HZ2 : Hid _ := hZ2
    have O1 := own_setRow (own_base o1 hB1.size) (W.heap.size + 1) #[.bool x0, .slice none 0 0, .slice p1 m1 k1, .slice p2 m2 k2, .int .i64 x4, .int .i64 x5] HZ2.out
    have O2 := own_setRow (own_base o2 hB1.size) (W.heap.size + 1) #[.bool x0, .slice none 0 0, .slice p1 m1 k1, .slice p2 m2 k2, .int .i64 x4, .int .i64 x5] HZ2.out
    have hBS := below_setRow hB2 (show W.heap.size ≤ W.heap.size + 1 by omega) #[.bool x0, .slice none 0 0, .slice p1 m1 k1, .slice p2 m2 k2, .int .i64 x4, .int .i64 x5]
    have HROW : Hid _ := setRow_heap w2 (W.heap.size + 1) _ #[.bool x0, .slice none 0 0, .slice p1 m1 k1, .slice p2 m2 k2, .int .i64 x4, .int .i64 x5] 37 (0, 0) HZ2.out
    have HSZ : Hid ((Tryz.prog.info? 37).map (·.size) = some (#[.bool x0, .slice none 0 0, .slice p1 m1 k1, .slice p2 m2 k2, .int .i64 x4, .int .i64 x5] : Array Value).size) := Tryz.size37
    have HSO : Hid ((#[.bool false, .slice none 0 0, .slice none 0 0, .slice none 0 0, .int .i64 0, .int .i64 0] : Array Value).size = (#[.bool x0, .slice none 0 0, .slice p1 m1 k1, .slice p2 m2 k2, .int .i64 x4, .int .i64 x5] : Array Value).size) := rfl
    have HSA : Hid ((#[.bool x0, .slice none 0 0, .slice p1 m1 k1, .slice p2 m2 k2, .int .i64 x4, .int .i64 x5] : Array Value).all (·.oneCell') = true) := by unfold Hid; simp [Value.oneCell']
    clear hZ1 hZ2 hb2 hB1 hB2 ht1 htt o1 o2 hT hm1 hm2 hx0 hx4 hx5 e0 c0 c1' c2' c3 c4 c5
    go_wp2_with (with_reducible refine wpList_store_row rfl 37 (.tmp 2) (.tmp 15) rfl (W.heap.size + 1) #[.bool x0, .slice none 0 0, .slice p1 m1 k1, .slice p2 m2 k2, .int .i64 x4, .int .i64 x5] (by with_unfolding_all rfl) (by with_unfolding_all rfl) 37 _ HZ2.out HSZ.out HSO.out HSA.out ?_)
    refine ⟨rfl, _, results_cell_row (P := Tryz.prog) rfl _ _ (W.heap.size + 1) 37 _ (0, 0) _ rfl HROW.out Tryz.underlying37 rfl HSZ.out, ⟨_, rfl, ?_, hBS⟩⟩
    obtain ⟨q0, q1, q2, q3, q4, q5, q6⟩ := HX.out
    rw [q0]
    exact ⟨_, _, by rw [q3, q4, q5], q6, by rw [q1]; exact O1, by rw [q2]; exact O2⟩
  · rw [if_neg hRD] at he
    have hrb : rightD ⟨st, rn, lo, up, least, most⟩ = false := decide_eq_false hRD
    rw [hrb] at hr0
    have HE : Hid (takenD ⟨st, rn, lo, up, least, most⟩ = noneD) := he
    clear ht hRD hrb he
    go_enter Tryz.func101, Tryz.ntmps101
    go_upto_region 1 with (fail)
    rw [HW0.out]
    go_wp2_with fail
    refine hr0.mono ?_
    rintro e w1 ⟨rfl, hb1⟩
    have hB1 : Below W.heap.size W w1 := hb0.trans (hb1.mono hb0.size)
    have hZ1 := (hb1.block (W.heap.size + 1) hlt0).trans hZ0
    have hlt1 : W.heap.size + 1 < w1.heap.size := (Array.getElem?_eq_some_iff.1 hZ1).1
    clear hr0 hR0 hZ0 hb1 hb0 c0 c1' c2' c3 c4 c5
    go_wp2_with fail
    refine (none_at _).mono ?_
    rintro e w2 ⟨rfl, hb2⟩
    have hB2 : Below W.heap.size W w2 := hB1.trans (hb2.mono hB1.size)
    have HZ2 : Hid _ := (hb2.block (W.heap.size + 1) hlt1).trans hZ1
    have hBS := below_setRow hB2 (show W.heap.size ≤ W.heap.size + 1 by omega) #[.bool true, .slice none 0 0, .slice none 0 0, .slice none 0 0, .int .i64 1, .int .i64 0]
    have HROW : Hid _ := setRow_heap w2 (W.heap.size + 1) _ #[.bool true, .slice none 0 0, .slice none 0 0, .slice none 0 0, .int .i64 1, .int .i64 0] 37 (0, 0) HZ2.out
    have HSZ : Hid ((Tryz.prog.info? 37).map (·.size) = some (#[.bool true, .slice none 0 0, .slice none 0 0, .slice none 0 0, .int .i64 1, .int .i64 0] : Array Value).size) := Tryz.size37
    have HSO : Hid ((#[.bool false, .slice none 0 0, .slice none 0 0, .slice none 0 0, .int .i64 0, .int .i64 0] : Array Value).size = (#[.bool true, .slice none 0 0, .slice none 0 0, .slice none 0 0, .int .i64 1, .int .i64 0] : Array Value).size) := rfl
    have HSA : Hid ((#[.bool true, .slice none 0 0, .slice none 0 0, .slice none 0 0, .int .i64 1, .int .i64 0] : Array Value).all (·.oneCell') = true) := by unfold Hid; simp [Value.oneCell']
    clear hZ1 hb2 hB1 hB2
    go_wp2_with (with_reducible refine wpList_store_row rfl 37 (.tmp 2) (.tmp 6) rfl (W.heap.size + 1) #[.bool true, .slice none 0 0, .slice none 0 0, .slice none 0 0, .int .i64 1, .int .i64 0] (by with_unfolding_all rfl) (by with_unfolding_all rfl) 37 _ HZ2.out HSZ.out HSO.out HSA.out ?_)
    refine ⟨rfl, _, results_cell_row (P := Tryz.prog) rfl _ _ (W.heap.size + 1) 37 _ (0, 0) _ rfl HROW.out Tryz.underlying37 rfl HSZ.out, ⟨_, rfl, ?_, hBS⟩⟩
    rw [HE.out]
    exact none_dv _ _
end Go.Proofs.YtghnfnieppfhgaaGreat.St


namespace Go.Proofs.YtghnfnieppfhgaaGreat.St
open Go.RowKit Go.Shelf
set_option linter.unusedVariables false
set_option linter.unusedSimpArgs false

theorem cell_row {W : World} {g : Nat} {cur : Array Value} {t : TypeId} (h : W.heap[g]? = some (.cells cur t (0, 0))) (j : Nat) : W.cell? ⟨g, j, none⟩ = cur[j]? := by simp [World.cell?, h]

/-- Block g holds a domain of sets. -/
structure R6 (w : World) (g : Nat) (x0 x1 x2 x3 x4 x5 : Value) : Prop where
  h : w.heap[g]? = some (.cells #[x0, x1, x2, x3, x4, x5] 37 (0, 0))
theorem R6.lt {w : World} {g : Nat} {x0 x1 x2 x3 x4 x5 : Value} (h : R6 w g x0 x1 x2 x3 x4 x5) : g < w.heap.size := (Array.getElem?_eq_some_iff.1 h.h).1
theorem R6.below {w w' : World} {g : Nat} {x0 x1 x2 x3 x4 x5 : Value} (h : R6 w g x0 x1 x2 x3 x4 x5) (hb : Below w.heap.size w w') : R6 w' g x0 x1 x2 x3 x4 x5 := ⟨(hb.block g h.lt).trans h.h⟩
theorem R6.cells {w : World} {g : Nat} {x0 x1 x2 x3 x4 x5 : Value} (h : R6 w g x0 x1 x2 x3 x4 x5) :
    w.cell? ⟨g, 0, none⟩ = some x0 ∧ w.cell? ⟨g, 1, none⟩ = some x1 ∧ w.cell? ⟨g, 2, none⟩ = some x2 ∧ w.cell? ⟨g, 3, none⟩ = some x3 ∧ w.cell? ⟨g, 4, none⟩ = some x4 ∧ w.cell? ⟨g, 5, none⟩ = some x5 := six_cells h.h
theorem R6.new (w : World) (x0 x1 x2 x3 x4 x5 : Value) : R6 (w.alloc (.cells #[x0, x1, x2, x3, x4, x5] 37)) w.heap.size x0 x1 x2 x3 x4 x5 := ⟨World.alloc_heap_new w _⟩
theorem R6.new1 (w : World) (o : Obj) (x0 x1 x2 x3 x4 x5 : Value) : R6 ((w.alloc o).alloc (.cells #[x0, x1, x2, x3, x4, x5] 37)) (w.heap.size + 1) x0 x1 x2 x3 x4 x5 := by
  have := World.alloc_heap_new (w.alloc o) (.cells #[x0, x1, x2, x3, x4, x5] 37)
  rw [World.size_alloc] at this
  exact ⟨this⟩
theorem R6.new2 (w : World) (o p : Obj) (x0 x1 x2 x3 x4 x5 : Value) : R6 (((w.alloc o).alloc p).alloc (.cells #[x0, x1, x2, x3, x4, x5] 37)) (w.heap.size + 2) x0 x1 x2 x3 x4 x5 := by
  have := World.alloc_heap_new ((w.alloc o).alloc p) (.cells #[x0, x1, x2, x3, x4, x5] 37)
  rw [World.size_alloc, World.size_alloc] at this
  exact ⟨this⟩
theorem R6.alloc {w : World} {g : Nat} {x0 x1 x2 x3 x4 x5 : Value} (h : R6 w g x0 x1 x2 x3 x4 x5) (o : Obj) : R6 (w.alloc o) g x0 x1 x2 x3 x4 x5 := ⟨(Below.heap_alloc _ _ _ h.lt).trans h.h⟩
theorem R6.set {w : World} {g : Nat} {y0 y1 y2 y3 y4 y5 : Value} (h : R6 w g y0 y1 y2 y3 y4 y5) (x0 x1 x2 x3 x4 x5 : Value) : R6 (w.setRow g #[x0, x1, x2, x3, x4, x5]) g x0 x1 x2 x3 x4 x5 := ⟨setRow_heap w g _ _ 37 (0, 0) h.h⟩
theorem R6.other {w : World} {g k : Nat} {x0 x1 x2 x3 x4 x5 : Value} (h : R6 w k x0 x1 x2 x3 x4 x5) (hk : k ≠ g) (cs : Array Value) : R6 (w.setRow g cs) k x0 x1 x2 x3 x4 x5 := ⟨(setRow_other w g k cs hk).trans h.h⟩
theorem R6.res {fn : Func} {p : Tmp} (hf : fn.results = #[.cell p 37]) (tmps : Array Value) {w : World} {g : Nat} {x0 x1 x2 x3 x4 x5 : Value} (h : R6 w g x0 x1 x2 x3 x4 x5) (hp : tmps.getD p undef = .pointer (some ⟨g, 0, none⟩)) :
    (results fn tmps).run Tryz.prog w = .ok (.agg #[x0, x1, x2, x3, x4, x5]) w := results_cell_row hf tmps w g 37 _ (0, 0) _ hp h.h Tryz.underlying37 rfl Tryz.size37
/-- The row of a domain: six values of one cell each. -/
def Six (x0 x1 x2 x3 x4 x5 : Value) : Prop := x0.oneCell' = true ∧ x1.oneCell' = true ∧ x2.oneCell' = true ∧ x3.oneCell' = true ∧ x4.oneCell' = true ∧ x5.oneCell' = true
theorem six_dom (b : Bool) (p0 p1 p2 : Option Addr) (m0 k0 m1 k1 m2 k2 : Nat) (i j : Int) : Six (.bool b) (.slice p0 m0 k0) (.slice p1 m1 k1) (.slice p2 m2 k2) (.int .i64 i) (.int .i64 j) := ⟨rfl, rfl, rfl, rfl, rfl, rfl⟩
theorem Six.all {x0 x1 x2 x3 x4 x5 : Value} (h : Six x0 x1 x2 x3 x4 x5) : (#[x0, x1, x2, x3, x4, x5] : Array Value).all (·.oneCell') = true := by
  obtain ⟨h0, h1, h2, h3, h4, h5⟩ := h
  simp [h0, h1, h2, h3, h4, h5]
theorem st37 {ops : Array Oper} {rest : List Oper} {o : Oper} {a : Act} {w : World} {Q : Exit → Act → World → Prop} {y0 y1 y2 y3 y4 y5 : Value} (hgd : o.guard = none) (x y : Operand) (ho : o.op = .store 37 x y)
    (g : Nat) (x0 x1 x2 x3 x4 x5 : Value) (hx : a.eval x = .pointer (some ⟨g, 0, none⟩)) (hy : a.eval y = .agg #[x0, x1, x2, x3, x4, x5]) (hg : R6 w g y0 y1 y2 y3 y4 y5) (hs : Six x0 x1 x2 x3 x4 x5)
    (h : wpList Tryz.prog ops Q rest (a.put o.dst undef) (w.setRow g #[x0, x1, x2, x3, x4, x5])) : wpList Tryz.prog ops Q (o :: rest) a w :=
  wpList_store_row hgd 37 x y ho g _ hx hy 37 _ hg.h Tryz.size37 rfl hs.all h
theorem store_row {P : Program} {op : Oper} {a : Act} {w : World} {K : Act → World → Prop} {Q : Exit → Act → World → Prop} (ty : TypeId) (x y : Operand) (ho : op.op = .store ty x y)
    (g : Nat) (cells : Array Value) (hx : a.eval x = .pointer (some ⟨g, 0, none⟩)) (hy : a.eval y = .agg cells)
    (t : TypeId) (old : Array Value) (hg : w.heap[g]? = some (.cells old t (0, 0))) (hi : (P.info? ty).map (·.size) = some cells.size)
    (hold : old.size = cells.size) (h1 : cells.all (·.oneCell') = true)
    (h : K (a.put op.dst undef) (w.setRow g cells)) : Oper.wp P op a w K Q := by
  unfold Oper.wp
  unfold execOp
  simp only [ho, hx, hy, Instr.storeAt, Instr.sureAddr, Sem.run_bind, Sem.run_pure, Result.andThen_ok, run_storeVar_row w g t ty old cells hg hi hold h1]
  exact h
/-- The same at a step of a region that draws its order. -/
theorem step37 {ops : Array Oper} {o : Oper} {a : Act} {w : World} {K : Act → World → Prop} {Q : Exit → Act → World → Prop} {E : Prop} {y0 y1 y2 y3 y4 y5 : Value} (hgd : o.guard = none) (x y : Operand) (ho : o.op = .store 37 x y)
    (g : Nat) (x0 x1 x2 x3 x4 x5 : Value) (hx : a.eval x = .pointer (some ⟨g, 0, none⟩)) (hy : a.eval y = .agg #[x0, x1, x2, x3, x4, x5]) (hg : R6 w g y0 y1 y2 y3 y4 y5) (hs : Six x0 x1 x2 x3 x4 x5)
    (h : K (a.put o.dst undef) (w.setRow g #[x0, x1, x2, x3, x4, x5])) : if Region.wanted o (yielded ops a.tmps) = true then Oper.wp Tryz.prog o a w K Q else E := by
  have hw : Region.wanted o (yielded ops a.tmps) = true := by simp [Region.wanted, hgd]
  rw [if_pos hw]
  exact store_row 37 x y ho g _ hx hy 37 _ hg.h Tryz.size37 rfl hs.all h
theorem Dv.set {B g : Nat} {w : World} {v : Value} {d : SD} {y0 y1 y2 y3 y4 y5 : Value} (h : Dv B w v d) (hg : R6 w g y0 y1 y2 y3 y4 y5) (cs : Array Value) : Dv B (w.setRow g cs) v d := by
  obtain ⟨slo, sup, e, e0, o1, o2⟩ := h
  exact ⟨slo, sup, e, e0, own_setRow o1 g cs hg.h, own_setRow o2 g cs hg.h⟩
theorem Dv.base {B B' : Nat} {w : World} {v : Value} {d : SD} (h : Dv B w v d) (hb : B' ≤ B) : Dv B' w v d := by
  obtain ⟨slo, sup, e, e0, o1, o2⟩ := h
  exact ⟨slo, sup, e, e0, own_base o1 hb, own_base o2 hb⟩
/-- What a domain in memory of its own looks like. -/
theorem Dv.look {B : Nat} {w : World} {v : Value} {d : SD} (h : Dv B w v d) : ∃ x0 p1 m1 k1 p2 m2 k2 x4 x5, v = .agg #[.bool x0, .slice none 0 0, .slice p1 m1 k1, .slice p2 m2 k2, .int .i64 x4, .int .i64 x5] ∧
    Hid (d.set = x0 ∧ d.lo.length = m1 ∧ d.up.length = m2 ∧ d.least = x4 ∧ d.most = x5 ∧ d.rn = 0) ∧ Hid (w.ownsRow B 2 1 (.slice p1 m1 k1) m1 (intv d.lo)) ∧ Hid (w.ownsRow B 2 1 (.slice p2 m2 k2) m2 (intv d.up)) := by
  obtain ⟨slo, sup, e, e0, o1, o2⟩ := h
  obtain ⟨p1, k1, rfl⟩ := own_slice o1
  obtain ⟨p2, k2, rfl⟩ := own_slice o2
  exact ⟨_, _, _, _, _, _, _, _, _, e, ⟨rfl, rfl, rfl, rfl, rfl, e0⟩, o1, o2⟩
/-- What a domain that is handed in looks like. -/
theorem Di.look {w : World} {v : Value} {d : SD} (h : Di w v d) : ∃ x0 ra rn rc a1 n1 c1 a2 n2 c2 x4 x5, v = .agg #[.bool x0, .slice ra rn rc, .slice a1 n1 c1, .slice a2 n2 c2, .int .i64 x4, .int .i64 x5] ∧
    Hid (d.set = x0 ∧ d.lo.length = n1 ∧ d.up.length = n2 ∧ d.least = x4 ∧ d.most = x5 ∧ d.rn = rn) ∧ Hid (Si w (.slice a1 n1 c1) d.lo) ∧ Hid (Si w (.slice a2 n2 c2) d.up) := by
  obtain ⟨ra, rc, slo, sup, e, h1, h2⟩ := h
  have h1' := h1
  have h2' := h2
  obtain ⟨a1, c1, rfl, _⟩ := h1'
  obtain ⟨a2, c2, rfl, _⟩ := h2'
  exact ⟨_, _, _, _, _, _, _, _, _, _, _, _, e, ⟨rfl, rfl, rfl, rfl, rfl, rfl⟩, h1, h2⟩
theorem si_look {w : World} {s : Value} {l : List Int} (h : Si w s l) : ∃ a n c, s = .slice a n c ∧ Hid (Si w (.slice a n c) l) ∧ Hid (l.length = n) := by
  have h' := h
  obtain ⟨a, c, rfl, _⟩ := h'
  exact ⟨_, _, _, rfl, h, rfl⟩
theorem own_si' {W : World} {base n : Nat} {s : Value} {l : List Int} (h : W.ownsRow base 2 1 s n (intv l)) (hn : l.length = n) : Si W s l := by subst hn; exact own_si h
end Go.Proofs.YtghnfnieppfhgaaGreat.St


namespace Go.Proofs.YtghnfnieppfhgaaGreat.St
open Go.RowKit Go.Shelf
set_option linter.unusedVariables false
set_option linter.unusedSimpArgs false

theorem one_si (w : World) (x : Int) : Si (w.alloc (Obj.cells #[.int .i64 x] 2)) (.slice (some ⟨w.heap.size, 0, none⟩) 1 1) [x] := by
  refine ⟨_, _, rfl, fun _ => ⟨_, _, rfl, by rw [World.size_alloc]; omega, fun i hi => ?_⟩⟩
  have hi0 : i = 0 := by simp at hi; omega
  subst hi0
  have := World.alloc_heap_new w (Obj.cells #[.int .i64 x] 2)
  show (w.alloc (Obj.cells #[.int .i64 x] 2)).cell? ⟨w.heap.size, 0 + 0, none⟩ = _
  rw [cell_row this]
  rfl
end Go.Proofs.YtghnfnieppfhgaaGreat.St

