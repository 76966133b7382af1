/-
  What is proved here: sets.Of of any two lists and numbers.
-/
import Derived.Test.YtacnhkaibcjjgaaGreatDoorSm
namespace Go.Proofs.YtacnhkaibcjjgaaGreatDoor
open Go.RowKit Go.Shelf
set_option linter.unusedVariables false
set_option linter.unusedSimpArgs false

/-- What sets.Of takes. -/
def OfOk (lo up : List Int) (least : Int) : Prop := IsSet lo ∧ IsSet up ∧ subB lo up = true ∧ 0 ≤ least
theorem Tryz.results33 : Tryz.f33.results = #[.cell 8 37, .tmp 9] := rfl

set_option maxRecDepth 100000 in
set_option maxHeartbeats 4000000 in
theorem of_ok (s1 s2 : Value) (lo up : List Int) (least most : Int) (W : World) (h1 : Si W s1 lo) (h2 : Si W s2 up) (hok0 : OfOk lo up least) :
    Calls Tryz.prog 33 #[s1, s2, .int .i64 least, .int .i64 most] W fun e w' => (∃ v, e = .returned (.tuple #[v, .int .i64 0]) ∧ Dv W.heap.size w' v (tightD lo up least most)) ∧ Below W.heap.size W w' := by
  obtain ⟨W0, hW0⟩ : ∃ X, W.alloc (Obj.cells #[.bool false, .slice none 0 0, .slice none 0 0, .slice none 0 0, .int .i64 0, .int .i64 0] 37) = X := ⟨_, rfl⟩
  have HW0 : Hid _ := hW0
  have hb0 : Below W.heap.size W W0 := by rw [← hW0]; exact (Below.refl _ W).alloc (Nat.le_refl _) _
  have hZ0 : W0.heap[W.heap.size]? = some (.cells #[.bool false, .slice none 0 0, .slice none 0 0, .slice none 0 0, .int .i64 0, .int .i64 0] 37 (0, 0)) := by rw [← hW0]; exact World.alloc_heap_new W _
  have hlt0 : W.heap.size < W0.heap.size := (Array.getElem?_eq_some_iff.1 hZ0).1
  have hs1 := setB_below s1 lo W0 (h1.below hb0)
  have hs2 := fun X (hX : Below W.heap.size W X) => setB_below s2 up X (h2.below hX)
  have hs3 := fun X (hX : Below W.heap.size W X) => sub_any s1 s2 lo up X (h1.below hX) (h2.below hX)
  have ht := fun (hR : OfOk lo up least) X (hX : Below W.heap.size W X) => tight_any s1 s2 lo up least most X (h1.below hX) (h2.below hX) (by have := hR.1.1; omega) (by have := hR.2.1.1; omega)
  obtain ⟨a1, c1, rfl, _⟩ := h1
  obtain ⟨a2, c2, rfl, _⟩ := h2
  obtain ⟨n1, hn1⟩ : ∃ n, lo.length = n := ⟨_, rfl⟩
  obtain ⟨n2, hn2⟩ : ∃ n, up.length = n := ⟨_, rfl⟩
  simp only [hn1, hn2] at hs1 hs2 hs3 ht ⊢
  clear hn1 hn2 hW0
  obtain ⟨hI1, hI2, hsu, hle⟩ := hok0
  rw [setB_yes hI1] at hs1
  simp only [setB_yes hI2] at hs2
  simp only [tkS_yes hI1, tkS_yes hI2] at hs3
  simp only [hsu] at hs3
  have hok : OfOk lo up least := ⟨hI1, hI2, hsu, hle⟩
  have hle' : decide (least < 0) = false := by simpa using hle
  have htt := ht hok
  clear ht hok hI1 hI2 hsu
  go_enter Tryz.func33, Tryz.ntmps33
  go_upto_region 1 with (fail)
  rw [HW0.out]
  go_wp2_with fail
  refine (hs1).mono ?_
  rintro e w1 ⟨rfl, hb1⟩
  have hB1 : Below W.heap.size W w1 := hb0.trans (hb1.mono hb0.size)
  have hZ1 := (hb1.block W.heap.size hlt0).trans hZ0
  have hlt1 : W.heap.size < w1.heap.size := (Array.getElem?_eq_some_iff.1 hZ1).1
  go_wp2_with fail
  refine (hs2 w1 hB1).mono ?_
  rintro e w2 ⟨rfl, hb2⟩
  have hB2 : Below W.heap.size W w2 := hB1.trans (hb2.mono hB1.size)
  have hZ2 := (hb2.block W.heap.size hlt1).trans hZ1
  have hlt2 : W.heap.size < w2.heap.size := (Array.getElem?_eq_some_iff.1 hZ2).1
  go_wp2_with fail
  refine (hs3 w2 hB2).mono ?_
  rintro e w3 ⟨rfl, hb3⟩
  have hB3 : Below W.heap.size W w3 := hB2.trans (hb3.mono hB2.size)
  have hZ3 := (hb3.block W.heap.size hlt2).trans hZ2
  have hlt3 : W.heap.size < w3.heap.size := (Array.getElem?_eq_some_iff.1 hZ3).1
  have ht3 := htt w3 hB3
  clear hs1 hs2 hs3 htt
  go_wp2_with fail
  refine ht3.mono ?_
  clear ht3
  rintro e w4 ⟨v4, rfl, hD, hb4⟩
  have hB4 : Below W.heap.size W w4 := hB3.trans (hb4.mono hB3.size)
  have HZ : Hid _ := (hb4.block W.heap.size hlt3).trans hZ3
  obtain ⟨slo, sup, rfl, e0, o1, o2⟩ := hD
  obtain ⟨p1, k1, rfl⟩ := own_slice o1
  obtain ⟨p2, k2, rfl⟩ := own_slice o2
  obtain ⟨T, hT⟩ : ∃ T, tightD lo up least most = T := ⟨_, rfl⟩
  rw [hT] at e0 o1 o2 ⊢
  obtain ⟨m1, hm1⟩ : ∃ n, T.lo.length = n := ⟨_, rfl⟩
  obtain ⟨m2, hm2⟩ : ∃ n, T.up.length = n := ⟨_, rfl⟩
  obtain ⟨x0, hx0⟩ : ∃ x, T.set = x := ⟨_, rfl⟩
  obtain ⟨x4, hx4⟩ : ∃ x, T.least = x := ⟨_, rfl⟩
  obtain ⟨x5, hx5⟩ : ∃ x, T.most = x := ⟨_, rfl⟩
  have HX : Hid (tightD lo up least most = T ∧ T.lo.length = m1 ∧ T.up.length = m2 ∧ T.set = x0 ∧ T.least = x4 ∧ T.most = x5 ∧ T.rn = 0) := ⟨hT, hm1, hm2, hx0, hx4, hx5, e0⟩
  rw [hm1] at o1 ⊢
  rw [hm2] at o2 ⊢
  rw [hx0, hx4, hx5]
  have O1 := own_setRow (own_base o1 hB3.size) W.heap.size #[.bool x0, .slice none 0 0, .slice p1 m1 k1, .slice p2 m2 k2, .int .i64 x4, .int .i64 x5] HZ.out
  have O2 := own_setRow (own_base o2 hB3.size) W.heap.size #[.bool x0, .slice none 0 0, .slice p1 m1 k1, .slice p2 m2 k2, .int .i64 x4, .int .i64 x5] HZ.out
  have hBS := below_setRow hB4 (Nat.le_refl W.heap.size) #[.bool x0, .slice none 0 0, .slice p1 m1 k1, .slice p2 m2 k2, .int .i64 x4, .int .i64 x5]
  have HROW : Hid _ := setRow_heap w4 W.heap.size _ #[.bool x0, .slice none 0 0, .slice p1 m1 k1, .slice p2 m2 k2, .int .i64 x4, .int .i64 x5] 37 (0, 0) HZ.out
  have HSZ : Hid ((Tryz.prog.info? 37).map (·.size) = some (#[.bool x0, .slice none 0 0, .slice p1 m1 k1, .slice p2 m2 k2, .int .i64 x4, .int .i64 x5] : Array Value).size) := Tryz.size37
  have HSO : Hid ((#[.bool false, .slice none 0 0, .slice none 0 0, .slice none 0 0, .int .i64 0, .int .i64 0] : Array Value).size = (#[.bool x0, .slice none 0 0, .slice p1 m1 k1, .slice p2 m2 k2, .int .i64 x4, .int .i64 x5] : Array Value).size) := rfl
  have HSA : Hid ((#[.bool x0, .slice none 0 0, .slice p1 m1 k1, .slice p2 m2 k2, .int .i64 x4, .int .i64 x5] : Array Value).all (·.oneCell') = true) := by unfold Hid; simp [Value.oneCell']
  clear hZ0 hZ1 hZ2 hZ3 hb1 hb2 hb3 hb4 hB1 hB2 hB3 hB4 o1 o2 hT hm1 hm2 hx0 hx4 hx5 e0
  go_wp2_with (with_reducible refine wpList_store_row rfl 37 (.tmp 8) (.tmp 33) rfl W.heap.size #[.bool x0, .slice none 0 0, .slice p1 m1 k1, .slice p2 m2 k2, .int .i64 x4, .int .i64 x5] (by with_unfolding_all rfl) (by with_unfolding_all rfl) 37 _ HZ.out HSZ.out HSO.out HSA.out ?_)
  obtain ⟨c0, c1', c2', c3, c4, c5⟩ := six_cells HROW.out
  refine ⟨rfl, .tuple #[.agg #[.bool x0, .slice none 0 0, .slice p1 m1 k1, .slice p2 m2 k2, .int .i64 x4, .int .i64 x5], .int .i64 0], ?_, ⟨_, rfl, ?_⟩, hBS⟩
  · simp [results, Tryz.results33, go_sem, c0, c1', c2', c3, c4, c5]
  · obtain ⟨q0, q1, q2, q3, q4, q5, q6⟩ := HX.out
    rw [q0]
    exact ⟨_, _, by rw [q3, q4, q5], q6, by rw [q1]; exact O1, by rw [q2]; exact O2⟩
end Go.Proofs.YtacnhkaibcjjgaaGreatDoor
