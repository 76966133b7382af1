/-
  What is proved here: the walk of SetsParts.
-/
import Derived.Test.YthpbgplbgnefcaaGreatDoorNc
import Derived.Test.YthpbgplbgnefcaaGreatDoorNd
import Derived.Test.YthpbgplbgnefcaaGreatDoorKn
namespace Go.Proofs.YthpbgplbgnefcaaGreatDoor
open Go.RowKit Go.Shelf
set_option linter.unusedVariables false
set_option linter.unusedSimpArgs false

theorem must_b (d : SD) (x : Int) (l : List Int) : hasD (mustD d x) l = (hasD d l && (tkS l).contains x) := by
  rw [Bool.eq_iff_iff, must_has]; simp
theorem not_b (d : SD) (x : Int) (l : List Int) : hasD (notD d x) l = (hasD d l && !(tkS l).contains x) := by
  rw [Bool.eq_iff_iff, not_has]; simp
theorem must_look (v : Value) (d : SD) (x : Int) (W : World) (h : Di W v d) :
    Calls Tryz.prog 50 #[v, .int .i64 x] W fun e w' => ∃ x0 p1 m1 k1 p2 m2 k2 x4 x5, e = .returned (.agg #[.bool x0, .slice none 0 0, .slice p1 m1 k1, .slice p2 m2 k2, .int .i64 x4, .int .i64 x5]) ∧ Hid (Di w' (.agg #[.bool x0, .slice none 0 0, .slice p1 m1 k1, .slice p2 m2 k2, .int .i64 x4, .int .i64 x5]) (mustD d x)) ∧ Below W.heap.size W w' :=
  (must_any v d x W h).mono fun e w' ⟨v, he, hD, hb⟩ => by
    obtain ⟨x0, p1, m1, k1, p2, m2, k2, x4, x5, rfl, _⟩ := hD.look
    exact ⟨_, _, _, _, _, _, _, _, _, he, hD.di, hb⟩
theorem not_look (v : Value) (d : SD) (x : Int) (W : World) (h : Di W v d) :
    Calls Tryz.prog 51 #[v, .int .i64 x] W fun e w' => ∃ x0 p1 m1 k1 p2 m2 k2 x4 x5, e = .returned (.agg #[.bool x0, .slice none 0 0, .slice p1 m1 k1, .slice p2 m2 k2, .int .i64 x4, .int .i64 x5]) ∧ Hid (Di w' (.agg #[.bool x0, .slice none 0 0, .slice p1 m1 k1, .slice p2 m2 k2, .int .i64 x4, .int .i64 x5]) (notD d x)) ∧ Below W.heap.size W w' :=
  (not_any v d x W h).mono fun e w' ⟨v, he, hD, hb⟩ => by
    obtain ⟨x0, p1, m1, k1, p2, m2, k2, x4, x5, rfl, _⟩ := hD.look
    exact ⟨_, _, _, _, _, _, _, _, _, he, hD.di, hb⟩

set_option maxRecDepth 100000 in
set_option maxHeartbeats 4000000 in
theorem parts_110 (v : Value) (d : SD) (x : Int) (s : Value) (l : List Int) (W : World) (h : Di W v d) (hl : Si W s l) (hM : MaxL W) (hE : ErrV W) (hT : Tens W.heap.size W) (hH : hasD d l = true) (hI : (tkS l).contains x = true) (hn : ¬ 2305843009213693952 ≤ countD d) :
    Calls Tryz.prog 7 #[v, .int .i64 x, s] W fun e w' => e = .returned (.bool true) ∧ Below W.heap.size W w' := by
  have hM0 := hM.1
  have HM : Hid (MaxL W) := hM
  have HE' : Hid (ErrV W) := hE
  have HT : Hid (Tens W.heap.size W) := hT
  have k32 := fun X (hX : Below W.heap.size W X) => known32 X (HM.out.below hX hM0) (HE'.out.below hX (by omega)) (Tens.here HT.out hX)
  have k50 := fun X (hX : Below W.heap.size W X) => must_look v d x X (h.below hX)
  have k51 := fun X (hX : Below W.heap.size W X) => not_look v d x X (h.below hX)
  have k44 := fun X (hX : Below W.heap.size W X) => has_any v s d l X (h.below hX) (hl.below hX)
  have k44a := fun u X (hX : Below W.heap.size W X) (hu : Di X u (mustD d x)) => has_any u s (mustD d x) l X hu (hl.below hX)
  have k44b := fun u X (hX : Below W.heap.size W X) (hu : Di X u (notD d x)) => has_any u s (notD d x) l X hu (hl.below hX)
  have k25 := fun X (hX : Below W.heap.size W X) => in_any x s l X (hl.below hX)
  have k46 := fun X (hX : Below W.heap.size W X) => count_any v d X (h.below hX)
  have k46a := fun u X (hu : Di X u (mustD d x)) => count_any u (mustD d x) X hu
  have k46b := fun u X (hu : Di X u (notD d x)) => count_any u (notD d x) X hu
  simp only [must_b, not_b, hH, hI, Bool.true_and, Bool.false_and, Bool.not_true, Bool.not_false] at k44 k44a k44b k25
  obtain ⟨hp1, hp2, hp3⟩ := parts_count d x (by omega)
  generalize countD (mustD d x) = ca at k46a hp1 hp2
  generalize countD (notD d x) = cb at k46b hp1 hp3
  generalize countD d = cn at *
  have hle : decide (2305843009213693952 ≤ cn) = false := by simp; omega
  have hsum : IntKind.i64.wrap (ca + cb) = cn := by rw [IntKind.wrap_i64]; omega
  clear hp1 hp2 hp3
  obtain ⟨x0, ra, rn, rc, a1, n1, c1, a2, n2, c2, x4, x5, rfl, HE, HLO, HUP⟩ := h.look
  obtain ⟨sa, ns, cs', rfl, HSL, HNL⟩ := si_look hl
  obtain ⟨W0, hW0⟩ : ∃ X, W.alloc (Obj.cells #[.bool x0, .slice ra rn rc, .slice a1 n1 c1, .slice a2 n2 c2, .int .i64 x4, .int .i64 x5] 37) = X := ⟨_, rfl⟩
  have HW0 : Hid _ := hW0
  have hb0 : Below W.heap.size W W0 := by rw [← hW0]; exact (Below.refl _ W).alloc (Nat.le_refl _) _
  have HR0 : Hid (R6 W0 W.heap.size (.bool x0) (.slice ra rn rc) (.slice a1 n1 c1) (.slice a2 n2 c2) (.int .i64 x4) (.int .i64 x5)) := by rw [← hW0]; exact R6.new _ _ _ _ _ _ _
  clear hW0 h hl HE HLO HUP HSL HNL hM hE hT hH hI
  go_enter Tryz.func7, Tryz.ntmps7
  go_upto_region 1 with (fail)
  rw [HW0.out]
  obtain ⟨z0, z1, z2, z3, z4, z5⟩ := HR0.out.cells
  go_wp2_with fail
  refine (k50 W0 hb0).mono ?_
  rintro e w0 ⟨y0a, p1a, m1a, k1a, p2a, m2a, k2a, y4a, y5a, rfl, HDa, hb⟩
  have hc0 : Below W.heap.size W w0 := hb0.trans (hb.mono hb0.size)
  have hz := below_setRow ((Below.refl w0.heap.size w0).alloc (Nat.le_refl _) (Obj.cells #[.bool false, .slice none 0 0, .slice none 0 0, .slice none 0 0, .int .i64 0, .int .i64 0] 37)) (Nat.le_refl w0.heap.size) #[.bool y0a, .slice none 0 0, .slice p1a m1a k1a, .slice p2a m2a k2a, .int .i64 y4a, .int .i64 y5a]
  have hb1 := hc0.trans (hz.mono hc0.size)
  have HGa : Hid _ := (R6.new w0 (.bool false) (.slice none 0 0) (.slice none 0 0) (.slice none 0 0) (.int .i64 0) (.int .i64 0)).set (.bool y0a) (.slice none 0 0) (.slice p1a m1a k1a) (.slice p2a m2a k2a) (.int .i64 y4a) (.int .i64 y5a)
  have HR1 : Hid _ := (HR0.out.below hb).below hz
  have HDia : Hid (Di ((w0.alloc (Obj.cells #[.bool false, .slice none 0 0, .slice none 0 0, .slice none 0 0, .int .i64 0, .int .i64 0] 37)).setRow w0.heap.size #[.bool y0a, .slice none 0 0, .slice p1a m1a k1a, .slice p2a m2a k2a, .int .i64 y4a, .int .i64 y5a]) (.agg #[.bool y0a, .slice none 0 0, .slice p1a m1a k1a, .slice p2a m2a k2a, .int .i64 y4a, .int .i64 y5a]) (mustD d x)) := HDa.out.below hz
  clear hb0 HR0 HDa hb hc0 hz z0 z1 z2 z3 z4 z5
  go_upto_region 2 with (with_reducible refine st37 rfl (.tmp 7) (.tmp 14) rfl w0.heap.size _ _ _ _ _ _ (by with_unfolding_all rfl) (by with_unfolding_all rfl) (R6.new w0 _ _ _ _ _ _) (six_dom _ _ _ _ _ _ _ _ _ _ _ _) ?_)
  simp only [Act.put]
  generalize (w0.alloc (Obj.cells #[.bool false, .slice none 0 0, .slice none 0 0, .slice none 0 0, .int .i64 0, .int .i64 0] 37)).setRow w0.heap.size #[.bool y0a, .slice none 0 0, .slice p1a m1a k1a, .slice p2a m2a k2a, .int .i64 y4a, .int .i64 y5a] = W1 at hb1 HGa HR1 HDia ⊢
  generalize w0.heap.size = Ga at HGa ⊢
  obtain ⟨z0, z1, z2, z3, z4, z5⟩ := HR1.out.cells
  go_wp2_with fail
  refine (k51 W1 hb1).mono ?_
  rintro e w1 ⟨y0b, p1b, m1b, k1b, p2b, m2b, k2b, y4b, y5b, rfl, HDb, hb⟩
  have hc1 : Below W.heap.size W w1 := hb1.trans (hb.mono hb1.size)
  have hz := below_setRow ((Below.refl w1.heap.size w1).alloc (Nat.le_refl _) (Obj.cells #[.bool false, .slice none 0 0, .slice none 0 0, .slice none 0 0, .int .i64 0, .int .i64 0] 37)) (Nat.le_refl w1.heap.size) #[.bool y0b, .slice none 0 0, .slice p1b m1b k1b, .slice p2b m2b k2b, .int .i64 y4b, .int .i64 y5b]
  have hb2 := hc1.trans (hz.mono hc1.size)
  have HGb : Hid _ := (R6.new w1 (.bool false) (.slice none 0 0) (.slice none 0 0) (.slice none 0 0) (.int .i64 0) (.int .i64 0)).set (.bool y0b) (.slice none 0 0) (.slice p1b m1b k1b) (.slice p2b m2b k2b) (.int .i64 y4b) (.int .i64 y5b)
  have HR2 : Hid _ := (HR1.out.below hb).below hz
  have HDib : Hid (Di ((w1.alloc (Obj.cells #[.bool false, .slice none 0 0, .slice none 0 0, .slice none 0 0, .int .i64 0, .int .i64 0] 37)).setRow w1.heap.size #[.bool y0b, .slice none 0 0, .slice p1b m1b k1b, .slice p2b m2b k2b, .int .i64 y4b, .int .i64 y5b]) (.agg #[.bool y0b, .slice none 0 0, .slice p1b m1b k1b, .slice p2b m2b k2b, .int .i64 y4b, .int .i64 y5b]) (notD d x)) := HDb.out.below hz
  have HGan : Hid _ := (HGa.out.below hb).below hz
  have HDian : Hid (Di ((w1.alloc (Obj.cells #[.bool false, .slice none 0 0, .slice none 0 0, .slice none 0 0, .int .i64 0, .int .i64 0] 37)).setRow w1.heap.size #[.bool y0b, .slice none 0 0, .slice p1b m1b k1b, .slice p2b m2b k2b, .int .i64 y4b, .int .i64 y5b]) (.agg #[.bool y0a, .slice none 0 0, .slice p1a m1a k1a, .slice p2a m2a k2a, .int .i64 y4a, .int .i64 y5a]) (mustD d x)) := (HDia.out.below hb).below hz
  clear hb1 HR1 HDb hb hc1 hz z0 z1 z2 z3 z4 z5 HGa HDia
  go_upto_region 3 with (with_reducible refine st37 rfl (.tmp 8) (.tmp 17) rfl w1.heap.size _ _ _ _ _ _ (by with_unfolding_all rfl) (by with_unfolding_all rfl) (R6.new w1 _ _ _ _ _ _) (six_dom _ _ _ _ _ _ _ _ _ _ _ _) ?_)
  simp only [Act.put]
  generalize (w1.alloc (Obj.cells #[.bool false, .slice none 0 0, .slice none 0 0, .slice none 0 0, .int .i64 0, .int .i64 0] 37)).setRow w1.heap.size #[.bool y0b, .slice none 0 0, .slice p1b m1b k1b, .slice p2b m2b k2b, .int .i64 y4b, .int .i64 y5b] = W2 at hb2 HGb HR2 HDib HGan HDian ⊢
  generalize w1.heap.size = Gb at HGb ⊢
  obtain ⟨z0, z1, z2, z3, z4, z5⟩ := HR2.out.cells
  obtain ⟨e0, e1, e2, e3, e4, e5⟩ := HGan.out.cells
  obtain ⟨f0, f1, f2, f3, f4, f5⟩ := HGb.out.cells
  go_wp2_with fail
  refine (k44a _ W2 hb2 HDian.out).mono ?_
  rintro e w3 ⟨rfl, hb⟩
  have hb3 : Below W.heap.size W w3 := hb2.trans (hb.mono hb2.size)
  have HRn3 : Hid _ := HR2.out.below hb
  have HGa3 : Hid _ := HGan.out.below hb
  have HGb3 : Hid _ := HGb.out.below hb
  have HDa3 : Hid (Di w3 (.agg #[.bool y0a, .slice none 0 0, .slice p1a m1a k1a, .slice p2a m2a k2a, .int .i64 y4a, .int .i64 y5a]) (mustD d x)) := HDian.out.below hb
  have HDb3 : Hid (Di w3 (.agg #[.bool y0b, .slice none 0 0, .slice p1b m1b k1b, .slice p2b m2b k2b, .int .i64 y4b, .int .i64 y5b]) (notD d x)) := HDib.out.below hb
  clear hb hb2 HR2 HGan HGb HDian HDib z0 z1 z2 z3 z4 z5 e0 e1 e2 e3 e4 e5 f0 f1 f2 f3 f4 f5
  obtain ⟨z0, z1, z2, z3, z4, z5⟩ := HRn3.out.cells
  obtain ⟨e0, e1, e2, e3, e4, e5⟩ := HGa3.out.cells
  obtain ⟨f0, f1, f2, f3, f4, f5⟩ := HGb3.out.cells
  go_wp2_with fail
  refine (k44b _ w3 hb3 HDb3.out).mono ?_
  rintro e w4 ⟨rfl, hb⟩
  have hb4 : Below W.heap.size W w4 := hb3.trans (hb.mono hb3.size)
  have HRn4 : Hid _ := HRn3.out.below hb
  have HGa4 : Hid _ := HGa3.out.below hb
  have HGb4 : Hid _ := HGb3.out.below hb
  have HDa4 : Hid (Di w4 (.agg #[.bool y0a, .slice none 0 0, .slice p1a m1a k1a, .slice p2a m2a k2a, .int .i64 y4a, .int .i64 y5a]) (mustD d x)) := HDa3.out.below hb
  have HDb4 : Hid (Di w4 (.agg #[.bool y0b, .slice none 0 0, .slice p1b m1b k1b, .slice p2b m2b k2b, .int .i64 y4b, .int .i64 y5b]) (notD d x)) := HDb3.out.below hb
  clear hb hb3 HRn3 HGa3 HGb3 HDa3 HDb3 z0 z1 z2 z3 z4 z5 e0 e1 e2 e3 e4 e5 f0 f1 f2 f3 f4 f5
  obtain ⟨z0, z1, z2, z3, z4, z5⟩ := HRn4.out.cells
  obtain ⟨e0, e1, e2, e3, e4, e5⟩ := HGa4.out.cells
  obtain ⟨f0, f1, f2, f3, f4, f5⟩ := HGb4.out.cells
  go_wp2_with fail
  refine (k44 w4 hb4).mono ?_
  rintro e w5 ⟨rfl, hb⟩
  have hb5 : Below W.heap.size W w5 := hb4.trans (hb.mono hb4.size)
  have HRn5 : Hid _ := HRn4.out.below hb
  have HGa5 : Hid _ := HGa4.out.below hb
  have HGb5 : Hid _ := HGb4.out.below hb
  have HDa5 : Hid (Di w5 (.agg #[.bool y0a, .slice none 0 0, .slice p1a m1a k1a, .slice p2a m2a k2a, .int .i64 y4a, .int .i64 y5a]) (mustD d x)) := HDa4.out.below hb
  have HDb5 : Hid (Di w5 (.agg #[.bool y0b, .slice none 0 0, .slice p1b m1b k1b, .slice p2b m2b k2b, .int .i64 y4b, .int .i64 y5b]) (notD d x)) := HDb4.out.below hb
  clear hb hb4 HRn4 HGa4 HGb4 HDa4 HDb4 z0 z1 z2 z3 z4 z5 e0 e1 e2 e3 e4 e5 f0 f1 f2 f3 f4 f5
  obtain ⟨z0, z1, z2, z3, z4, z5⟩ := HRn5.out.cells
  obtain ⟨e0, e1, e2, e3, e4, e5⟩ := HGa5.out.cells
  obtain ⟨f0, f1, f2, f3, f4, f5⟩ := HGb5.out.cells
  go_wp2_with fail
  refine (k25 w5 hb5).mono ?_
  rintro e w6 ⟨rfl, hb⟩
  have hb6 : Below W.heap.size W w6 := hb5.trans (hb.mono hb5.size)
  have HRn6 : Hid _ := HRn5.out.below hb
  have HGa6 : Hid _ := HGa5.out.below hb
  have HGb6 : Hid _ := HGb5.out.below hb
  have HDa6 : Hid (Di w6 (.agg #[.bool y0a, .slice none 0 0, .slice p1a m1a k1a, .slice p2a m2a k2a, .int .i64 y4a, .int .i64 y5a]) (mustD d x)) := HDa5.out.below hb
  have HDb6 : Hid (Di w6 (.agg #[.bool y0b, .slice none 0 0, .slice p1b m1b k1b, .slice p2b m2b k2b, .int .i64 y4b, .int .i64 y5b]) (notD d x)) := HDb5.out.below hb
  clear hb hb5 HRn5 HGa5 HGb5 HDa5 HDb5 z0 z1 z2 z3 z4 z5 e0 e1 e2 e3 e4 e5 f0 f1 f2 f3 f4 f5
  obtain ⟨z0, z1, z2, z3, z4, z5⟩ := HRn6.out.cells
  obtain ⟨e0, e1, e2, e3, e4, e5⟩ := HGa6.out.cells
  obtain ⟨f0, f1, f2, f3, f4, f5⟩ := HGb6.out.cells
  go_wp2_with fail
  refine (k46 w6 hb6).mono ?_
  rintro e w7 ⟨rfl, hb⟩
  have hb7 : Below W.heap.size W w7 := hb6.trans (hb.mono hb6.size)
  have HRn7 : Hid _ := HRn6.out.below hb
  have HGa7 : Hid _ := HGa6.out.below hb
  have HGb7 : Hid _ := HGb6.out.below hb
  have HDa7 : Hid (Di w7 (.agg #[.bool y0a, .slice none 0 0, .slice p1a m1a k1a, .slice p2a m2a k2a, .int .i64 y4a, .int .i64 y5a]) (mustD d x)) := HDa6.out.below hb
  have HDb7 : Hid (Di w7 (.agg #[.bool y0b, .slice none 0 0, .slice p1b m1b k1b, .slice p2b m2b k2b, .int .i64 y4b, .int .i64 y5b]) (notD d x)) := HDb6.out.below hb
  clear hb hb6 HRn6 HGa6 HGb6 HDa6 HDb6 z0 z1 z2 z3 z4 z5 e0 e1 e2 e3 e4 e5 f0 f1 f2 f3 f4 f5
  obtain ⟨z0, z1, z2, z3, z4, z5⟩ := HRn7.out.cells
  obtain ⟨e0, e1, e2, e3, e4, e5⟩ := HGa7.out.cells
  obtain ⟨f0, f1, f2, f3, f4, f5⟩ := HGb7.out.cells
  go_upto_region 8 with (fail)
  have HK : ∀ X, Below w7.heap.size w7 X → X.cell? ⟨Ga, 0, none⟩ = some (.bool y0a) ∧ X.cell? ⟨Ga, 1, none⟩ = some (.slice none 0 0) ∧ X.cell? ⟨Ga, 2, none⟩ = some (.slice p1a m1a k1a) ∧ X.cell? ⟨Ga, 3, none⟩ = some (.slice p2a m2a k2a) ∧ X.cell? ⟨Ga, 4, none⟩ = some (.int .i64 y4a) ∧ X.cell? ⟨Ga, 5, none⟩ = some (.int .i64 y5a) ∧ X.cell? ⟨Gb, 0, none⟩ = some (.bool y0b) ∧ X.cell? ⟨Gb, 1, none⟩ = some (.slice none 0 0) ∧ X.cell? ⟨Gb, 2, none⟩ = some (.slice p1b m1b k1b) ∧ X.cell? ⟨Gb, 3, none⟩ = some (.slice p2b m2b k2b) ∧ X.cell? ⟨Gb, 4, none⟩ = some (.int .i64 y4b) ∧ X.cell? ⟨Gb, 5, none⟩ = some (.int .i64 y5b) := fun X hX => by
    obtain ⟨c0, c1, c2, c3, c4, c5⟩ := (HGa7.out.below hX).cells
    obtain ⟨d0, d1, d2, d3, d4, d5⟩ := (HGb7.out.below hX).cells
    exact ⟨c0, c1, c2, c3, c4, c5, d0, d1, d2, d3, d4, d5⟩
  have HDA : Hid (∀ X, Below w7.heap.size w7 X → Di X (.agg #[.bool y0a, .slice none 0 0, .slice p1a m1a k1a, .slice p2a m2a k2a, .int .i64 y4a, .int .i64 y5a]) (mustD d x)) := fun X hX => HDa7.out.below hX
  have HDB : Hid (∀ X, Below w7.heap.size w7 X → Di X (.agg #[.bool y0b, .slice none 0 0, .slice p1b m1b k1b, .slice p2b m2b k2b, .int .i64 y4b, .int .i64 y5b]) (notD d x)) := fun X hX => HDb7.out.below hX
  have HBW : Hid (∀ X, Below w7.heap.size w7 X → Below W.heap.size W X) := fun X hX => hb7.trans (hX.mono hb7.size)
  have hB0 : Below w7.heap.size w7 w7.drew := Below.drew (Below.refl _ _)
  clear HRn7 HGa7 HGb7 HDa7 HDb7 z0 z1 z2 z3 z4 z5 e0 e1 e2 e3 e4 e5 f0 f1 f2 f3 f4 f5
  refine wp_region_held_drew (S := (fun X => X.cell? ⟨Ga, 0, none⟩ = some (.bool y0a) ∧ X.cell? ⟨Ga, 1, none⟩ = some (.slice none 0 0) ∧ X.cell? ⟨Ga, 2, none⟩ = some (.slice p1a m1a k1a) ∧ X.cell? ⟨Ga, 3, none⟩ = some (.slice p2a m2a k2a) ∧ X.cell? ⟨Ga, 4, none⟩ = some (.int .i64 y4a) ∧ X.cell? ⟨Ga, 5, none⟩ = some (.int .i64 y5a) ∧ X.cell? ⟨Gb, 0, none⟩ = some (.bool y0b) ∧ X.cell? ⟨Gb, 1, none⟩ = some (.slice none 0 0) ∧ X.cell? ⟨Gb, 2, none⟩ = some (.slice p1b m1b k1b) ∧ X.cell? ⟨Gb, 3, none⟩ = some (.slice p2b m2b k2b) ∧ X.cell? ⟨Gb, 4, none⟩ = some (.int .i64 y4b) ∧ X.cell? ⟨Gb, 5, none⟩ = some (.int .i64 y5b))) (by kernel_rfl) (HK _ hB0) (fun hHeld => ?_)
  refine wpAnyH_take (i := 0) (oi := { dst := some 57, op := Go.Op.move (Go.Operand.tmp 11), type := 2, pos := "law.go:128", after := #[], guard := none }) (v := ?_) rfl (by kernel_rfl) (by kernel_rfl) (by kernel_rfl) (fun _ _ _ h => h) (Or.inl ⟨by rfl, ?_⟩) hHeld ?_
  rotate_left
  · intro w hSw; (try dsimp only at hSw); go_simp <;> with_reducible rfl
  try simp only [Act.put, List.setIfInBounds_toArray, List.set_cons_zero, List.set_cons_succ]
  refine wpAnyH_take (i := 1) (oi := { dst := some 58, op := Go.Op.binOp Go.BinOp.geq 2 (Go.Operand.tmp 57) (Go.Operand.const (Go.Value.int Go.IntKind.i64 2305843009213693952)) 2, type := 4, pos := "law.go:128", after := #[{ on := 0, ground := Go.Ground.data }], guard := none }) (v := ?_) rfl (by kernel_rfl) (by kernel_rfl) (by kernel_rfl) (fun _ _ _ h => h) (Or.inl ⟨by rfl, ?_⟩) hHeld ?_
  rotate_left
  · intro w hSw; (try dsimp only at hSw); go_simp <;> with_reducible rfl
  try simp only [Act.put, List.setIfInBounds_toArray, List.set_cons_zero, List.set_cons_succ]
  refine wpAnyH_take (i := 2) (oi := { dst := some 59, op := Go.Op.move (Go.Operand.tmp 58), type := 4, pos := "law.go:128", after := #[{ on := 1, ground := Go.Ground.data }], guard := none }) (v := ?_) rfl (by kernel_rfl) (by kernel_rfl) (by kernel_rfl) (fun _ _ _ h => h) (Or.inl ⟨by rfl, ?_⟩) hHeld ?_
  rotate_left
  · intro w hSw; (try dsimp only at hSw); go_simp <;> with_reducible rfl
  try simp only [Act.put, List.setIfInBounds_toArray, List.set_cons_zero, List.set_cons_succ]
  refine wpAnyH_take (i := 3) (oi := { dst := some 60, op := Go.Op.load 37 (Go.Operand.tmp 7), type := 37, pos := "law.go:128", after := #[{ on := 2, ground := Go.Ground.guard }], guard := some (2, false) }) (v := ?_) rfl (by kernel_rfl) (by kernel_rfl) (by kernel_rfl) (fun _ _ _ h => h) (Or.inl ⟨by rfl, ?_⟩) hHeld ?_
  rotate_left
  · intro w hSw; (try dsimp only at hSw); go_simp <;> with_reducible rfl
  try simp only [Act.put, List.setIfInBounds_toArray, List.set_cons_zero, List.set_cons_succ]
  refine wpAnyH_take (i := 5) (oi := { dst := some 62, op := Go.Op.load 37 (Go.Operand.tmp 8), type := 37, pos := "law.go:128", after := #[{ on := 2, ground := Go.Ground.guard }], guard := some (2, false) }) (v := ?_) rfl (by kernel_rfl) (by kernel_rfl) (by kernel_rfl) (fun _ _ _ h => h) (Or.inl ⟨by rfl, ?_⟩) hHeld ?_
  rotate_left
  · intro w hSw; (try dsimp only at hSw); go_simp <;> with_reducible rfl
  try simp only [Act.put, List.setIfInBounds_toArray, List.set_cons_zero, List.set_cons_succ]
  refine wpAnyH_take (i := 8) (oi := { dst := some 65, op := Go.Op.move (Go.Operand.tmp 11), type := 2, pos := "law.go:128", after := #[{ on := 2, ground := Go.Ground.guard }], guard := some (2, false) }) (v := ?_) rfl (by kernel_rfl) (by kernel_rfl) (by kernel_rfl) (fun _ _ _ h => h) (Or.inl ⟨by rfl, ?_⟩) hHeld ?_
  rotate_left
  · intro w hSw; (try dsimp only at hSw); go_simp <;> with_reducible rfl
  try simp only [Act.put, List.setIfInBounds_toArray, List.set_cons_zero, List.set_cons_succ]
  refine wpAnyH_ready (rs := [4]) (by kernel_rfl) (by simp) ?_
  refine AllReadyH.cons rfl (fun K hK => ?_) AllReadyH.nil
  go_simp
  refine (k46a _ _ (HDA.out _ hB0)).mono ?_
  rintro e w17 ⟨rfl, hb7'⟩
  have hb7 : Below w7.heap.size w7 w17 := hB0.trans (hb7'.mono hB0.size)
  refine hK.out _ _ (HK _ hb7) (fun hHeld2 => ?_)
  clear hK K hHeld
  have hHeld := hHeld2
  clear hHeld2
  try simp only [Act.put, List.setIfInBounds_toArray, List.set_cons_zero, List.set_cons_succ]
  refine wpAnyH_ready (rs := [6]) (by kernel_rfl) (by simp) ?_
  refine AllReadyH.cons rfl (fun K hK => ?_) AllReadyH.nil
  go_simp
  refine (k46b _ _ (HDB.out _ hb7)).mono ?_
  rintro e w18 ⟨rfl, hb8'⟩
  have hb8 : Below w7.heap.size w7 w18 := hb7.trans (hb8'.mono hb7.size)
  refine hK.out _ _ (HK _ hb8) (fun hHeld2 => ?_)
  clear hK K hHeld
  have hHeld := hHeld2
  clear hHeld2
  try simp only [Act.put, List.setIfInBounds_toArray, List.set_cons_zero, List.set_cons_succ]
  refine wpAnyH_take (i := 7) (oi := { dst := some 64, op := Go.Op.binOp Go.BinOp.add 2 (Go.Operand.tmp 61) (Go.Operand.tmp 63) 2, type := 2, pos := "law.go:128", after := #[{ on := 4, ground := Go.Ground.data }, { on := 6, ground := Go.Ground.data }, { on := 2, ground := Go.Ground.guard }], guard := some (2, false) }) (v := ?_) rfl (by kernel_rfl) (by kernel_rfl) (by kernel_rfl) (fun _ _ _ h => h) (Or.inl ⟨by rfl, ?_⟩) hHeld ?_
  rotate_left
  · intro w hSw; (try dsimp only at hSw); go_simp <;> with_reducible rfl
  try simp only [Act.put, List.setIfInBounds_toArray, List.set_cons_zero, List.set_cons_succ]
  refine wpAnyH_take (i := 9) (oi := { dst := some 66, op := Go.Op.binOp Go.BinOp.eql 2 (Go.Operand.tmp 64) (Go.Operand.tmp 65) 2, type := 4, pos := "law.go:128", after := #[{ on := 7, ground := Go.Ground.data }, { on := 8, ground := Go.Ground.data }, { on := 2, ground := Go.Ground.guard }], guard := some (2, false) }) (v := ?_) rfl (by kernel_rfl) (by kernel_rfl) (by kernel_rfl) (fun _ _ _ h => h) (Or.inl ⟨by rfl, ?_⟩) hHeld ?_
  rotate_left
  · intro w hSw; (try dsimp only at hSw); go_simp <;> with_reducible rfl
  try simp only [Act.put, List.setIfInBounds_toArray, List.set_cons_zero, List.set_cons_succ]
  refine wpAnyH_take (i := 10) (oi := { dst := some 67, op := Go.Op.pick (Go.Operand.tmp 59) (Go.Operand.const (Go.Value.bool true)) (Go.Operand.tmp 66), type := 4, pos := "law.go:128", after := #[{ on := 2, ground := Go.Ground.data }, { on := 9, ground := Go.Ground.data }], guard := none }) (v := ?_) rfl (by kernel_rfl) (by kernel_rfl) (by kernel_rfl) (fun _ _ _ h => h) (Or.inl ⟨by rfl, ?_⟩) hHeld ?_
  rotate_left
  · intro w hSw; (try dsimp only at hSw); go_simp <;> with_reducible rfl
  try simp only [Act.put, List.setIfInBounds_toArray, List.set_cons_zero, List.set_cons_succ]
  refine wpAnyH_take (i := 11) (oi := { dst := some 68, op := Go.Op.move (Go.Operand.tmp 67), type := 4, pos := "law.go:128", after := #[{ on := 10, ground := Go.Ground.data }, { on := 6, ground := Go.Ground.chain }], guard := none }) (v := ?_) rfl (by kernel_rfl) (by kernel_rfl) (by kernel_rfl) (fun _ _ _ h => h) (Or.inl ⟨by rfl, ?_⟩) hHeld ?_
  rotate_left
  · intro w hSw; (try dsimp only at hSw); go_simp <;> with_reducible rfl
  try simp only [Act.put, List.setIfInBounds_toArray, List.set_cons_zero, List.set_cons_succ]
  refine wpAnyH_ready (rs := [12]) (by kernel_rfl) (by simp) ?_
  refine AllReadyH.cons rfl (fun K hK => ?_) AllReadyH.nil
  go_simp
  refine (k32 _ (HBW.out _ hb8)).mono ?_
  rintro e w19 ⟨rfl, hb9'⟩
  have hb9 : Below w7.heap.size w7 w19 := hb8.trans (hb9'.mono hb8.size)
  refine hK.out _ _ (HK _ hb9) (fun hHeld2 => ?_)
  clear hK K hHeld
  have hHeld := hHeld2
  clear hHeld2
  try simp only [Act.put, List.setIfInBounds_toArray, List.set_cons_zero, List.set_cons_succ]
  refine wpAnyH_take (i := 13) (oi := { dst := some 70, op := Go.Op.pick (Go.Operand.tmp 68) (Go.Operand.tmp 69) (Go.Operand.const (Go.Value.bool false)), type := 4, pos := "law.go:128", after := #[{ on := 11, ground := Go.Ground.data }, { on := 12, ground := Go.Ground.data }], guard := none }) (v := ?_) rfl (by kernel_rfl) (by kernel_rfl) (by kernel_rfl) (fun _ _ _ h => h) (Or.inl ⟨by rfl, ?_⟩) hHeld ?_
  rotate_left
  · intro w hSw; (try dsimp only at hSw); go_simp <;> with_reducible rfl
  try simp only [Act.put, List.setIfInBounds_toArray, List.set_cons_zero, List.set_cons_succ]
  refine wpAnyH_take (i := 14) (oi := { dst := some 6, op := Go.Op.assign (Go.Operand.tmp 70), type := 4, pos := "law.go:128", after := #[{ on := 13, ground := Go.Ground.data }, { on := 12, ground := Go.Ground.chain }, { on := 0, ground := Go.Ground.phase }, { on := 1, ground := Go.Ground.phase }, { on := 2, ground := Go.Ground.phase }, { on := 3, ground := Go.Ground.phase }, { on := 4, ground := Go.Ground.phase }, { on := 5, ground := Go.Ground.phase }, { on := 6, ground := Go.Ground.phase }, { on := 7, ground := Go.Ground.phase }, { on := 8, ground := Go.Ground.phase }, { on := 9, ground := Go.Ground.phase }, { on := 10, ground := Go.Ground.phase }, { on := 11, ground := Go.Ground.phase }, { on := 12, ground := Go.Ground.phase }, { on := 13, ground := Go.Ground.phase }], guard := none }) (v := ?_) rfl (by kernel_rfl) (by kernel_rfl) (by kernel_rfl) (fun _ _ _ h => h) (Or.inl ⟨by rfl, ?_⟩) hHeld ?_
  rotate_left
  · intro w hSw; (try dsimp only at hSw); go_simp <;> with_reducible rfl
  try simp only [Act.put, List.setIfInBounds_toArray, List.set_cons_zero, List.set_cons_succ]
  refine wpAnyH_done (by kernel_rfl) ?_ _
  go_wp2
  go_ret
  exact ⟨rfl, HBW.out _ hb9⟩

set_option maxRecDepth 100000 in
set_option maxHeartbeats 4000000 in
theorem parts_111 (v : Value) (d : SD) (x : Int) (s : Value) (l : List Int) (W : World) (h : Di W v d) (hl : Si W s l) (hM : MaxL W) (hE : ErrV W) (hT : Tens W.heap.size W) (hH : hasD d l = true) (hI : (tkS l).contains x = true) (hn : 2305843009213693952 ≤ countD d) :
    Calls Tryz.prog 7 #[v, .int .i64 x, s] W fun e w' => e = .returned (.bool true) ∧ Below W.heap.size W w' := by
  have hM0 := hM.1
  have HM : Hid (MaxL W) := hM
  have HE' : Hid (ErrV W) := hE
  have HT : Hid (Tens W.heap.size W) := hT
  have k32 := fun X (hX : Below W.heap.size W X) => known32 X (HM.out.below hX hM0) (HE'.out.below hX (by omega)) (Tens.here HT.out hX)
  have k50 := fun X (hX : Below W.heap.size W X) => must_look v d x X (h.below hX)
  have k51 := fun X (hX : Below W.heap.size W X) => not_look v d x X (h.below hX)
  have k44 := fun X (hX : Below W.heap.size W X) => has_any v s d l X (h.below hX) (hl.below hX)
  have k44a := fun u X (hX : Below W.heap.size W X) (hu : Di X u (mustD d x)) => has_any u s (mustD d x) l X hu (hl.below hX)
  have k44b := fun u X (hX : Below W.heap.size W X) (hu : Di X u (notD d x)) => has_any u s (notD d x) l X hu (hl.below hX)
  have k25 := fun X (hX : Below W.heap.size W X) => in_any x s l X (hl.below hX)
  have k46 := fun X (hX : Below W.heap.size W X) => count_any v d X (h.below hX)
  have k46a := fun u X (hu : Di X u (mustD d x)) => count_any u (mustD d x) X hu
  have k46b := fun u X (hu : Di X u (notD d x)) => count_any u (notD d x) X hu
  simp only [must_b, not_b, hH, hI, Bool.true_and, Bool.false_and, Bool.not_true, Bool.not_false] at k44 k44a k44b k25
  generalize countD d = cn at *
  have hle : decide (2305843009213693952 ≤ cn) = true := by simp; omega
  obtain ⟨x0, ra, rn, rc, a1, n1, c1, a2, n2, c2, x4, x5, rfl, HE, HLO, HUP⟩ := h.look
  obtain ⟨sa, ns, cs', rfl, HSL, HNL⟩ := si_look hl
  obtain ⟨W0, hW0⟩ : ∃ X, W.alloc (Obj.cells #[.bool x0, .slice ra rn rc, .slice a1 n1 c1, .slice a2 n2 c2, .int .i64 x4, .int .i64 x5] 37) = X := ⟨_, rfl⟩
  have HW0 : Hid _ := hW0
  have hb0 : Below W.heap.size W W0 := by rw [← hW0]; exact (Below.refl _ W).alloc (Nat.le_refl _) _
  have HR0 : Hid (R6 W0 W.heap.size (.bool x0) (.slice ra rn rc) (.slice a1 n1 c1) (.slice a2 n2 c2) (.int .i64 x4) (.int .i64 x5)) := by rw [← hW0]; exact R6.new _ _ _ _ _ _ _
  clear hW0 h hl HE HLO HUP HSL HNL hM hE hT hH hI
  go_enter Tryz.func7, Tryz.ntmps7
  go_upto_region 1 with (fail)
  rw [HW0.out]
  obtain ⟨z0, z1, z2, z3, z4, z5⟩ := HR0.out.cells
  go_wp2_with fail
  refine (k50 W0 hb0).mono ?_
  rintro e w0 ⟨y0a, p1a, m1a, k1a, p2a, m2a, k2a, y4a, y5a, rfl, HDa, hb⟩
  have hc0 : Below W.heap.size W w0 := hb0.trans (hb.mono hb0.size)
  have hz := below_setRow ((Below.refl w0.heap.size w0).alloc (Nat.le_refl _) (Obj.cells #[.bool false, .slice none 0 0, .slice none 0 0, .slice none 0 0, .int .i64 0, .int .i64 0] 37)) (Nat.le_refl w0.heap.size) #[.bool y0a, .slice none 0 0, .slice p1a m1a k1a, .slice p2a m2a k2a, .int .i64 y4a, .int .i64 y5a]
  have hb1 := hc0.trans (hz.mono hc0.size)
  have HGa : Hid _ := (R6.new w0 (.bool false) (.slice none 0 0) (.slice none 0 0) (.slice none 0 0) (.int .i64 0) (.int .i64 0)).set (.bool y0a) (.slice none 0 0) (.slice p1a m1a k1a) (.slice p2a m2a k2a) (.int .i64 y4a) (.int .i64 y5a)
  have HR1 : Hid _ := (HR0.out.below hb).below hz
  have HDia : Hid (Di ((w0.alloc (Obj.cells #[.bool false, .slice none 0 0, .slice none 0 0, .slice none 0 0, .int .i64 0, .int .i64 0] 37)).setRow w0.heap.size #[.bool y0a, .slice none 0 0, .slice p1a m1a k1a, .slice p2a m2a k2a, .int .i64 y4a, .int .i64 y5a]) (.agg #[.bool y0a, .slice none 0 0, .slice p1a m1a k1a, .slice p2a m2a k2a, .int .i64 y4a, .int .i64 y5a]) (mustD d x)) := HDa.out.below hz
  clear hb0 HR0 HDa hb hc0 hz z0 z1 z2 z3 z4 z5
  go_upto_region 2 with (with_reducible refine st37 rfl (.tmp 7) (.tmp 14) rfl w0.heap.size _ _ _ _ _ _ (by with_unfolding_all rfl) (by with_unfolding_all rfl) (R6.new w0 _ _ _ _ _ _) (six_dom _ _ _ _ _ _ _ _ _ _ _ _) ?_)
  simp only [Act.put]
  generalize (w0.alloc (Obj.cells #[.bool false, .slice none 0 0, .slice none 0 0, .slice none 0 0, .int .i64 0, .int .i64 0] 37)).setRow w0.heap.size #[.bool y0a, .slice none 0 0, .slice p1a m1a k1a, .slice p2a m2a k2a, .int .i64 y4a, .int .i64 y5a] = W1 at hb1 HGa HR1 HDia ⊢
  generalize w0.heap.size = Ga at HGa ⊢
  obtain ⟨z0, z1, z2, z3, z4, z5⟩ := HR1.out.cells
  go_wp2_with fail
  refine (k51 W1 hb1).mono ?_
  rintro e w1 ⟨y0b, p1b, m1b, k1b, p2b, m2b, k2b, y4b, y5b, rfl, HDb, hb⟩
  have hc1 : Below W.heap.size W w1 := hb1.trans (hb.mono hb1.size)
  have hz := below_setRow ((Below.refl w1.heap.size w1).alloc (Nat.le_refl _) (Obj.cells #[.bool false, .slice none 0 0, .slice none 0 0, .slice none 0 0, .int .i64 0, .int .i64 0] 37)) (Nat.le_refl w1.heap.size) #[.bool y0b, .slice none 0 0, .slice p1b m1b k1b, .slice p2b m2b k2b, .int .i64 y4b, .int .i64 y5b]
  have hb2 := hc1.trans (hz.mono hc1.size)
  have HGb : Hid _ := (R6.new w1 (.bool false) (.slice none 0 0) (.slice none 0 0) (.slice none 0 0) (.int .i64 0) (.int .i64 0)).set (.bool y0b) (.slice none 0 0) (.slice p1b m1b k1b) (.slice p2b m2b k2b) (.int .i64 y4b) (.int .i64 y5b)
  have HR2 : Hid _ := (HR1.out.below hb).below hz
  have HDib : Hid (Di ((w1.alloc (Obj.cells #[.bool false, .slice none 0 0, .slice none 0 0, .slice none 0 0, .int .i64 0, .int .i64 0] 37)).setRow w1.heap.size #[.bool y0b, .slice none 0 0, .slice p1b m1b k1b, .slice p2b m2b k2b, .int .i64 y4b, .int .i64 y5b]) (.agg #[.bool y0b, .slice none 0 0, .slice p1b m1b k1b, .slice p2b m2b k2b, .int .i64 y4b, .int .i64 y5b]) (notD d x)) := HDb.out.below hz
  have HGan : Hid _ := (HGa.out.below hb).below hz
  have HDian : Hid (Di ((w1.alloc (Obj.cells #[.bool false, .slice none 0 0, .slice none 0 0, .slice none 0 0, .int .i64 0, .int .i64 0] 37)).setRow w1.heap.size #[.bool y0b, .slice none 0 0, .slice p1b m1b k1b, .slice p2b m2b k2b, .int .i64 y4b, .int .i64 y5b]) (.agg #[.bool y0a, .slice none 0 0, .slice p1a m1a k1a, .slice p2a m2a k2a, .int .i64 y4a, .int .i64 y5a]) (mustD d x)) := (HDia.out.below hb).below hz
  clear hb1 HR1 HDb hb hc1 hz z0 z1 z2 z3 z4 z5 HGa HDia
  go_upto_region 3 with (with_reducible refine st37 rfl (.tmp 8) (.tmp 17) rfl w1.heap.size _ _ _ _ _ _ (by with_unfolding_all rfl) (by with_unfolding_all rfl) (R6.new w1 _ _ _ _ _ _) (six_dom _ _ _ _ _ _ _ _ _ _ _ _) ?_)
  simp only [Act.put]
  generalize (w1.alloc (Obj.cells #[.bool false, .slice none 0 0, .slice none 0 0, .slice none 0 0, .int .i64 0, .int .i64 0] 37)).setRow w1.heap.size #[.bool y0b, .slice none 0 0, .slice p1b m1b k1b, .slice p2b m2b k2b, .int .i64 y4b, .int .i64 y5b] = W2 at hb2 HGb HR2 HDib HGan HDian ⊢
  generalize w1.heap.size = Gb at HGb ⊢
  obtain ⟨z0, z1, z2, z3, z4, z5⟩ := HR2.out.cells
  obtain ⟨e0, e1, e2, e3, e4, e5⟩ := HGan.out.cells
  obtain ⟨f0, f1, f2, f3, f4, f5⟩ := HGb.out.cells
  go_wp2_with fail
  refine (k44a _ W2 hb2 HDian.out).mono ?_
  rintro e w3 ⟨rfl, hb⟩
  have hb3 : Below W.heap.size W w3 := hb2.trans (hb.mono hb2.size)
  have HRn3 : Hid _ := HR2.out.below hb
  have HGa3 : Hid _ := HGan.out.below hb
  have HGb3 : Hid _ := HGb.out.below hb
  have HDa3 : Hid (Di w3 (.agg #[.bool y0a, .slice none 0 0, .slice p1a m1a k1a, .slice p2a m2a k2a, .int .i64 y4a, .int .i64 y5a]) (mustD d x)) := HDian.out.below hb
  have HDb3 : Hid (Di w3 (.agg #[.bool y0b, .slice none 0 0, .slice p1b m1b k1b, .slice p2b m2b k2b, .int .i64 y4b, .int .i64 y5b]) (notD d x)) := HDib.out.below hb
  clear hb hb2 HR2 HGan HGb HDian HDib z0 z1 z2 z3 z4 z5 e0 e1 e2 e3 e4 e5 f0 f1 f2 f3 f4 f5
  obtain ⟨z0, z1, z2, z3, z4, z5⟩ := HRn3.out.cells
  obtain ⟨e0, e1, e2, e3, e4, e5⟩ := HGa3.out.cells
  obtain ⟨f0, f1, f2, f3, f4, f5⟩ := HGb3.out.cells
  go_wp2_with fail
  refine (k44b _ w3 hb3 HDb3.out).mono ?_
  rintro e w4 ⟨rfl, hb⟩
  have hb4 : Below W.heap.size W w4 := hb3.trans (hb.mono hb3.size)
  have HRn4 : Hid _ := HRn3.out.below hb
  have HGa4 : Hid _ := HGa3.out.below hb
  have HGb4 : Hid _ := HGb3.out.below hb
  have HDa4 : Hid (Di w4 (.agg #[.bool y0a, .slice none 0 0, .slice p1a m1a k1a, .slice p2a m2a k2a, .int .i64 y4a, .int .i64 y5a]) (mustD d x)) := HDa3.out.below hb
  have HDb4 : Hid (Di w4 (.agg #[.bool y0b, .slice none 0 0, .slice p1b m1b k1b, .slice p2b m2b k2b, .int .i64 y4b, .int .i64 y5b]) (notD d x)) := HDb3.out.below hb
  clear hb hb3 HRn3 HGa3 HGb3 HDa3 HDb3 z0 z1 z2 z3 z4 z5 e0 e1 e2 e3 e4 e5 f0 f1 f2 f3 f4 f5
  obtain ⟨z0, z1, z2, z3, z4, z5⟩ := HRn4.out.cells
  obtain ⟨e0, e1, e2, e3, e4, e5⟩ := HGa4.out.cells
  obtain ⟨f0, f1, f2, f3, f4, f5⟩ := HGb4.out.cells
  go_wp2_with fail
  refine (k44 w4 hb4).mono ?_
  rintro e w5 ⟨rfl, hb⟩
  have hb5 : Below W.heap.size W w5 := hb4.trans (hb.mono hb4.size)
  have HRn5 : Hid _ := HRn4.out.below hb
  have HGa5 : Hid _ := HGa4.out.below hb
  have HGb5 : Hid _ := HGb4.out.below hb
  have HDa5 : Hid (Di w5 (.agg #[.bool y0a, .slice none 0 0, .slice p1a m1a k1a, .slice p2a m2a k2a, .int .i64 y4a, .int .i64 y5a]) (mustD d x)) := HDa4.out.below hb
  have HDb5 : Hid (Di w5 (.agg #[.bool y0b, .slice none 0 0, .slice p1b m1b k1b, .slice p2b m2b k2b, .int .i64 y4b, .int .i64 y5b]) (notD d x)) := HDb4.out.below hb
  clear hb hb4 HRn4 HGa4 HGb4 HDa4 HDb4 z0 z1 z2 z3 z4 z5 e0 e1 e2 e3 e4 e5 f0 f1 f2 f3 f4 f5
  obtain ⟨z0, z1, z2, z3, z4, z5⟩ := HRn5.out.cells
  obtain ⟨e0, e1, e2, e3, e4, e5⟩ := HGa5.out.cells
  obtain ⟨f0, f1, f2, f3, f4, f5⟩ := HGb5.out.cells
  go_wp2_with fail
  refine (k25 w5 hb5).mono ?_
  rintro e w6 ⟨rfl, hb⟩
  have hb6 : Below W.heap.size W w6 := hb5.trans (hb.mono hb5.size)
  have HRn6 : Hid _ := HRn5.out.below hb
  have HGa6 : Hid _ := HGa5.out.below hb
  have HGb6 : Hid _ := HGb5.out.below hb
  have HDa6 : Hid (Di w6 (.agg #[.bool y0a, .slice none 0 0, .slice p1a m1a k1a, .slice p2a m2a k2a, .int .i64 y4a, .int .i64 y5a]) (mustD d x)) := HDa5.out.below hb
  have HDb6 : Hid (Di w6 (.agg #[.bool y0b, .slice none 0 0, .slice p1b m1b k1b, .slice p2b m2b k2b, .int .i64 y4b, .int .i64 y5b]) (notD d x)) := HDb5.out.below hb
  clear hb hb5 HRn5 HGa5 HGb5 HDa5 HDb5 z0 z1 z2 z3 z4 z5 e0 e1 e2 e3 e4 e5 f0 f1 f2 f3 f4 f5
  obtain ⟨z0, z1, z2, z3, z4, z5⟩ := HRn6.out.cells
  obtain ⟨e0, e1, e2, e3, e4, e5⟩ := HGa6.out.cells
  obtain ⟨f0, f1, f2, f3, f4, f5⟩ := HGb6.out.cells
  go_wp2_with fail
  refine (k46 w6 hb6).mono ?_
  rintro e w7 ⟨rfl, hb⟩
  have hb7 : Below W.heap.size W w7 := hb6.trans (hb.mono hb6.size)
  have HRn7 : Hid _ := HRn6.out.below hb
  have HGa7 : Hid _ := HGa6.out.below hb
  have HGb7 : Hid _ := HGb6.out.below hb
  have HDa7 : Hid (Di w7 (.agg #[.bool y0a, .slice none 0 0, .slice p1a m1a k1a, .slice p2a m2a k2a, .int .i64 y4a, .int .i64 y5a]) (mustD d x)) := HDa6.out.below hb
  have HDb7 : Hid (Di w7 (.agg #[.bool y0b, .slice none 0 0, .slice p1b m1b k1b, .slice p2b m2b k2b, .int .i64 y4b, .int .i64 y5b]) (notD d x)) := HDb6.out.below hb
  clear hb hb6 HRn6 HGa6 HGb6 HDa6 HDb6 z0 z1 z2 z3 z4 z5 e0 e1 e2 e3 e4 e5 f0 f1 f2 f3 f4 f5
  obtain ⟨z0, z1, z2, z3, z4, z5⟩ := HRn7.out.cells
  obtain ⟨e0, e1, e2, e3, e4, e5⟩ := HGa7.out.cells
  obtain ⟨f0, f1, f2, f3, f4, f5⟩ := HGb7.out.cells
  go_upto_region 8 with (fail)
  have HK : ∀ X, Below w7.heap.size w7 X → X.cell? ⟨Ga, 0, none⟩ = some (.bool y0a) ∧ X.cell? ⟨Ga, 1, none⟩ = some (.slice none 0 0) ∧ X.cell? ⟨Ga, 2, none⟩ = some (.slice p1a m1a k1a) ∧ X.cell? ⟨Ga, 3, none⟩ = some (.slice p2a m2a k2a) ∧ X.cell? ⟨Ga, 4, none⟩ = some (.int .i64 y4a) ∧ X.cell? ⟨Ga, 5, none⟩ = some (.int .i64 y5a) ∧ X.cell? ⟨Gb, 0, none⟩ = some (.bool y0b) ∧ X.cell? ⟨Gb, 1, none⟩ = some (.slice none 0 0) ∧ X.cell? ⟨Gb, 2, none⟩ = some (.slice p1b m1b k1b) ∧ X.cell? ⟨Gb, 3, none⟩ = some (.slice p2b m2b k2b) ∧ X.cell? ⟨Gb, 4, none⟩ = some (.int .i64 y4b) ∧ X.cell? ⟨Gb, 5, none⟩ = some (.int .i64 y5b) := fun X hX => by
    obtain ⟨c0, c1, c2, c3, c4, c5⟩ := (HGa7.out.below hX).cells
    obtain ⟨d0, d1, d2, d3, d4, d5⟩ := (HGb7.out.below hX).cells
    exact ⟨c0, c1, c2, c3, c4, c5, d0, d1, d2, d3, d4, d5⟩
  have HDA : Hid (∀ X, Below w7.heap.size w7 X → Di X (.agg #[.bool y0a, .slice none 0 0, .slice p1a m1a k1a, .slice p2a m2a k2a, .int .i64 y4a, .int .i64 y5a]) (mustD d x)) := fun X hX => HDa7.out.below hX
  have HDB : Hid (∀ X, Below w7.heap.size w7 X → Di X (.agg #[.bool y0b, .slice none 0 0, .slice p1b m1b k1b, .slice p2b m2b k2b, .int .i64 y4b, .int .i64 y5b]) (notD d x)) := fun X hX => HDb7.out.below hX
  have HBW : Hid (∀ X, Below w7.heap.size w7 X → Below W.heap.size W X) := fun X hX => hb7.trans (hX.mono hb7.size)
  have hB0 : Below w7.heap.size w7 w7.drew := Below.drew (Below.refl _ _)
  clear HRn7 HGa7 HGb7 HDa7 HDb7 z0 z1 z2 z3 z4 z5 e0 e1 e2 e3 e4 e5 f0 f1 f2 f3 f4 f5
  refine wp_region_held_drew (S := (fun X => X.cell? ⟨Ga, 0, none⟩ = some (.bool y0a) ∧ X.cell? ⟨Ga, 1, none⟩ = some (.slice none 0 0) ∧ X.cell? ⟨Ga, 2, none⟩ = some (.slice p1a m1a k1a) ∧ X.cell? ⟨Ga, 3, none⟩ = some (.slice p2a m2a k2a) ∧ X.cell? ⟨Ga, 4, none⟩ = some (.int .i64 y4a) ∧ X.cell? ⟨Ga, 5, none⟩ = some (.int .i64 y5a) ∧ X.cell? ⟨Gb, 0, none⟩ = some (.bool y0b) ∧ X.cell? ⟨Gb, 1, none⟩ = some (.slice none 0 0) ∧ X.cell? ⟨Gb, 2, none⟩ = some (.slice p1b m1b k1b) ∧ X.cell? ⟨Gb, 3, none⟩ = some (.slice p2b m2b k2b) ∧ X.cell? ⟨Gb, 4, none⟩ = some (.int .i64 y4b) ∧ X.cell? ⟨Gb, 5, none⟩ = some (.int .i64 y5b))) (by kernel_rfl) (HK _ hB0) (fun hHeld => ?_)
  refine wpAnyH_take (i := 0) (oi := { dst := some 57, op := Go.Op.move (Go.Operand.tmp 11), type := 2, pos := "law.go:128", after := #[], guard := none }) (v := ?_) rfl (by kernel_rfl) (by kernel_rfl) (by kernel_rfl) (fun _ _ _ h => h) (Or.inl ⟨by rfl, ?_⟩) hHeld ?_
  rotate_left
  · intro w hSw; (try dsimp only at hSw); go_simp <;> with_reducible rfl
  try simp only [Act.put, List.setIfInBounds_toArray, List.set_cons_zero, List.set_cons_succ]
  refine wpAnyH_take (i := 1) (oi := { dst := some 58, op := Go.Op.binOp Go.BinOp.geq 2 (Go.Operand.tmp 57) (Go.Operand.const (Go.Value.int Go.IntKind.i64 2305843009213693952)) 2, type := 4, pos := "law.go:128", after := #[{ on := 0, ground := Go.Ground.data }], guard := none }) (v := ?_) rfl (by kernel_rfl) (by kernel_rfl) (by kernel_rfl) (fun _ _ _ h => h) (Or.inl ⟨by rfl, ?_⟩) hHeld ?_
  rotate_left
  · intro w hSw; (try dsimp only at hSw); go_simp <;> with_reducible rfl
  try simp only [Act.put, List.setIfInBounds_toArray, List.set_cons_zero, List.set_cons_succ]
  refine wpAnyH_take (i := 2) (oi := { dst := some 59, op := Go.Op.move (Go.Operand.tmp 58), type := 4, pos := "law.go:128", after := #[{ on := 1, ground := Go.Ground.data }], guard := none }) (v := ?_) rfl (by kernel_rfl) (by kernel_rfl) (by kernel_rfl) (fun _ _ _ h => h) (Or.inl ⟨by rfl, ?_⟩) hHeld ?_
  rotate_left
  · intro w hSw; (try dsimp only at hSw); go_simp <;> with_reducible rfl
  try simp only [Act.put, List.setIfInBounds_toArray, List.set_cons_zero, List.set_cons_succ]
  refine wpAnyH_take (i := 3) (oi := { dst := some 60, op := Go.Op.load 37 (Go.Operand.tmp 7), type := 37, pos := "law.go:128", after := #[{ on := 2, ground := Go.Ground.guard }], guard := some (2, false) }) (v := undef) rfl (by kernel_rfl) (by kernel_rfl) (by kernel_rfl) (fun _ _ _ h => h) (Or.inr ⟨by rfl, rfl⟩) hHeld ?_
  try simp only [Act.put, List.setIfInBounds_toArray, List.set_cons_zero, List.set_cons_succ]
  refine wpAnyH_take (i := 4) (oi := { dst := some 61, op := Go.Op.call { callee := Go.Callee.value (Go.Operand.func 46), args := #[Go.Operand.tmp 60], argTypes := #[37] }, type := 2, pos := "law.go:128", after := #[{ on := 3, ground := Go.Ground.data }, { on := 2, ground := Go.Ground.chain }, { on := 2, ground := Go.Ground.guard }], guard := some (2, false) }) (v := undef) rfl (by kernel_rfl) (by kernel_rfl) (by kernel_rfl) (fun _ _ _ h => h) (Or.inr ⟨by rfl, rfl⟩) hHeld ?_
  try simp only [Act.put, List.setIfInBounds_toArray, List.set_cons_zero, List.set_cons_succ]
  refine wpAnyH_take (i := 5) (oi := { dst := some 62, op := Go.Op.load 37 (Go.Operand.tmp 8), type := 37, pos := "law.go:128", after := #[{ on := 2, ground := Go.Ground.guard }], guard := some (2, false) }) (v := undef) rfl (by kernel_rfl) (by kernel_rfl) (by kernel_rfl) (fun _ _ _ h => h) (Or.inr ⟨by rfl, rfl⟩) hHeld ?_
  try simp only [Act.put, List.setIfInBounds_toArray, List.set_cons_zero, List.set_cons_succ]
  refine wpAnyH_take (i := 6) (oi := { dst := some 63, op := Go.Op.call { callee := Go.Callee.value (Go.Operand.func 46), args := #[Go.Operand.tmp 62], argTypes := #[37] }, type := 2, pos := "law.go:128", after := #[{ on := 5, ground := Go.Ground.data }, { on := 4, ground := Go.Ground.chain }, { on := 2, ground := Go.Ground.guard }], guard := some (2, false) }) (v := undef) rfl (by kernel_rfl) (by kernel_rfl) (by kernel_rfl) (fun _ _ _ h => h) (Or.inr ⟨by rfl, rfl⟩) hHeld ?_
  try simp only [Act.put, List.setIfInBounds_toArray, List.set_cons_zero, List.set_cons_succ]
  refine wpAnyH_take (i := 7) (oi := { dst := some 64, op := Go.Op.binOp Go.BinOp.add 2 (Go.Operand.tmp 61) (Go.Operand.tmp 63) 2, type := 2, pos := "law.go:128", after := #[{ on := 4, ground := Go.Ground.data }, { on := 6, ground := Go.Ground.data }, { on := 2, ground := Go.Ground.guard }], guard := some (2, false) }) (v := undef) rfl (by kernel_rfl) (by kernel_rfl) (by kernel_rfl) (fun _ _ _ h => h) (Or.inr ⟨by rfl, rfl⟩) hHeld ?_
  try simp only [Act.put, List.setIfInBounds_toArray, List.set_cons_zero, List.set_cons_succ]
  refine wpAnyH_take (i := 8) (oi := { dst := some 65, op := Go.Op.move (Go.Operand.tmp 11), type := 2, pos := "law.go:128", after := #[{ on := 2, ground := Go.Ground.guard }], guard := some (2, false) }) (v := undef) rfl (by kernel_rfl) (by kernel_rfl) (by kernel_rfl) (fun _ _ _ h => h) (Or.inr ⟨by rfl, rfl⟩) hHeld ?_
  try simp only [Act.put, List.setIfInBounds_toArray, List.set_cons_zero, List.set_cons_succ]
  refine wpAnyH_take (i := 9) (oi := { dst := some 66, op := Go.Op.binOp Go.BinOp.eql 2 (Go.Operand.tmp 64) (Go.Operand.tmp 65) 2, type := 4, pos := "law.go:128", after := #[{ on := 7, ground := Go.Ground.data }, { on := 8, ground := Go.Ground.data }, { on := 2, ground := Go.Ground.guard }], guard := some (2, false) }) (v := undef) rfl (by kernel_rfl) (by kernel_rfl) (by kernel_rfl) (fun _ _ _ h => h) (Or.inr ⟨by rfl, rfl⟩) hHeld ?_
  try simp only [Act.put, List.setIfInBounds_toArray, List.set_cons_zero, List.set_cons_succ]
  refine wpAnyH_take (i := 10) (oi := { dst := some 67, op := Go.Op.pick (Go.Operand.tmp 59) (Go.Operand.const (Go.Value.bool true)) (Go.Operand.tmp 66), type := 4, pos := "law.go:128", after := #[{ on := 2, ground := Go.Ground.data }, { on := 9, ground := Go.Ground.data }], guard := none }) (v := ?_) rfl (by kernel_rfl) (by kernel_rfl) (by kernel_rfl) (fun _ _ _ h => h) (Or.inl ⟨by rfl, ?_⟩) hHeld ?_
  rotate_left
  · intro w hSw; (try dsimp only at hSw); go_simp <;> with_reducible rfl
  try simp only [Act.put, List.setIfInBounds_toArray, List.set_cons_zero, List.set_cons_succ]
  refine wpAnyH_take (i := 11) (oi := { dst := some 68, op := Go.Op.move (Go.Operand.tmp 67), type := 4, pos := "law.go:128", after := #[{ on := 10, ground := Go.Ground.data }, { on := 6, ground := Go.Ground.chain }], guard := none }) (v := ?_) rfl (by kernel_rfl) (by kernel_rfl) (by kernel_rfl) (fun _ _ _ h => h) (Or.inl ⟨by rfl, ?_⟩) hHeld ?_
  rotate_left
  · intro w hSw; (try dsimp only at hSw); go_simp <;> with_reducible rfl
  try simp only [Act.put, List.setIfInBounds_toArray, List.set_cons_zero, List.set_cons_succ]
  refine wpAnyH_ready (rs := [12]) (by kernel_rfl) (by simp) ?_
  refine AllReadyH.cons rfl (fun K hK => ?_) AllReadyH.nil
  go_simp
  refine (k32 _ (HBW.out _ hB0)).mono ?_
  rintro e w19 ⟨rfl, hb9'⟩
  have hb9 : Below w7.heap.size w7 w19 := hB0.trans (hb9'.mono hB0.size)
  refine hK.out _ _ (HK _ hb9) (fun hHeld2 => ?_)
  clear hK K hHeld
  have hHeld := hHeld2
  clear hHeld2
  try simp only [Act.put, List.setIfInBounds_toArray, List.set_cons_zero, List.set_cons_succ]
  refine wpAnyH_take (i := 13) (oi := { dst := some 70, op := Go.Op.pick (Go.Operand.tmp 68) (Go.Operand.tmp 69) (Go.Operand.const (Go.Value.bool false)), type := 4, pos := "law.go:128", after := #[{ on := 11, ground := Go.Ground.data }, { on := 12, ground := Go.Ground.data }], guard := none }) (v := ?_) rfl (by kernel_rfl) (by kernel_rfl) (by kernel_rfl) (fun _ _ _ h => h) (Or.inl ⟨by rfl, ?_⟩) hHeld ?_
  rotate_left
  · intro w hSw; (try dsimp only at hSw); go_simp <;> with_reducible rfl
  try simp only [Act.put, List.setIfInBounds_toArray, List.set_cons_zero, List.set_cons_succ]
  refine wpAnyH_take (i := 14) (oi := { dst := some 6, op := Go.Op.assign (Go.Operand.tmp 70), type := 4, pos := "law.go:128", after := #[{ on := 13, ground := Go.Ground.data }, { on := 12, ground := Go.Ground.chain }, { on := 0, ground := Go.Ground.phase }, { on := 1, ground := Go.Ground.phase }, { on := 2, ground := Go.Ground.phase }, { on := 3, ground := Go.Ground.phase }, { on := 4, ground := Go.Ground.phase }, { on := 5, ground := Go.Ground.phase }, { on := 6, ground := Go.Ground.phase }, { on := 7, ground := Go.Ground.phase }, { on := 8, ground := Go.Ground.phase }, { on := 9, ground := Go.Ground.phase }, { on := 10, ground := Go.Ground.phase }, { on := 11, ground := Go.Ground.phase }, { on := 12, ground := Go.Ground.phase }, { on := 13, ground := Go.Ground.phase }], guard := none }) (v := ?_) rfl (by kernel_rfl) (by kernel_rfl) (by kernel_rfl) (fun _ _ _ h => h) (Or.inl ⟨by rfl, ?_⟩) hHeld ?_
  rotate_left
  · intro w hSw; (try dsimp only at hSw); go_simp <;> with_reducible rfl
  try simp only [Act.put, List.setIfInBounds_toArray, List.set_cons_zero, List.set_cons_succ]
  refine wpAnyH_done (by kernel_rfl) ?_ _
  go_wp2
  go_ret
  exact ⟨rfl, HBW.out _ hb9⟩

set_option maxRecDepth 100000 in
set_option maxHeartbeats 4000000 in
theorem parts_100 (v : Value) (d : SD) (x : Int) (s : Value) (l : List Int) (W : World) (h : Di W v d) (hl : Si W s l) (hM : MaxL W) (hE : ErrV W) (hT : Tens W.heap.size W) (hH : hasD d l = true) (hI : (tkS l).contains x = false) (hn : ¬ 2305843009213693952 ≤ countD d) :
    Calls Tryz.prog 7 #[v, .int .i64 x, s] W fun e w' => e = .returned (.bool true) ∧ Below W.heap.size W w' := by
  have hM0 := hM.1
  have HM : Hid (MaxL W) := hM
  have HE' : Hid (ErrV W) := hE
  have HT : Hid (Tens W.heap.size W) := hT
  have k32 := fun X (hX : Below W.heap.size W X) => known32 X (HM.out.below hX hM0) (HE'.out.below hX (by omega)) (Tens.here HT.out hX)
  have k50 := fun X (hX : Below W.heap.size W X) => must_look v d x X (h.below hX)
  have k51 := fun X (hX : Below W.heap.size W X) => not_look v d x X (h.below hX)
  have k44 := fun X (hX : Below W.heap.size W X) => has_any v s d l X (h.below hX) (hl.below hX)
  have k44a := fun u X (hX : Below W.heap.size W X) (hu : Di X u (mustD d x)) => has_any u s (mustD d x) l X hu (hl.below hX)
  have k44b := fun u X (hX : Below W.heap.size W X) (hu : Di X u (notD d x)) => has_any u s (notD d x) l X hu (hl.below hX)
  have k25 := fun X (hX : Below W.heap.size W X) => in_any x s l X (hl.below hX)
  have k46 := fun X (hX : Below W.heap.size W X) => count_any v d X (h.below hX)
  have k46a := fun u X (hu : Di X u (mustD d x)) => count_any u (mustD d x) X hu
  have k46b := fun u X (hu : Di X u (notD d x)) => count_any u (notD d x) X hu
  simp only [must_b, not_b, hH, hI, Bool.true_and, Bool.false_and, Bool.not_true, Bool.not_false] at k44 k44a k44b k25
  obtain ⟨hp1, hp2, hp3⟩ := parts_count d x (by omega)
  generalize countD (mustD d x) = ca at k46a hp1 hp2
  generalize countD (notD d x) = cb at k46b hp1 hp3
  generalize countD d = cn at *
  have hle : decide (2305843009213693952 ≤ cn) = false := by simp; omega
  have hsum : IntKind.i64.wrap (ca + cb) = cn := by rw [IntKind.wrap_i64]; omega
  clear hp1 hp2 hp3
  obtain ⟨x0, ra, rn, rc, a1, n1, c1, a2, n2, c2, x4, x5, rfl, HE, HLO, HUP⟩ := h.look
  obtain ⟨sa, ns, cs', rfl, HSL, HNL⟩ := si_look hl
  obtain ⟨W0, hW0⟩ : ∃ X, W.alloc (Obj.cells #[.bool x0, .slice ra rn rc, .slice a1 n1 c1, .slice a2 n2 c2, .int .i64 x4, .int .i64 x5] 37) = X := ⟨_, rfl⟩
  have HW0 : Hid _ := hW0
  have hb0 : Below W.heap.size W W0 := by rw [← hW0]; exact (Below.refl _ W).alloc (Nat.le_refl _) _
  have HR0 : Hid (R6 W0 W.heap.size (.bool x0) (.slice ra rn rc) (.slice a1 n1 c1) (.slice a2 n2 c2) (.int .i64 x4) (.int .i64 x5)) := by rw [← hW0]; exact R6.new _ _ _ _ _ _ _
  clear hW0 h hl HE HLO HUP HSL HNL hM hE hT hH hI
  go_enter Tryz.func7, Tryz.ntmps7
  go_upto_region 1 with (fail)
  rw [HW0.out]
  obtain ⟨z0, z1, z2, z3, z4, z5⟩ := HR0.out.cells
  go_wp2_with fail
  refine (k50 W0 hb0).mono ?_
  rintro e w0 ⟨y0a, p1a, m1a, k1a, p2a, m2a, k2a, y4a, y5a, rfl, HDa, hb⟩
  have hc0 : Below W.heap.size W w0 := hb0.trans (hb.mono hb0.size)
  have hz := below_setRow ((Below.refl w0.heap.size w0).alloc (Nat.le_refl _) (Obj.cells #[.bool false, .slice none 0 0, .slice none 0 0, .slice none 0 0, .int .i64 0, .int .i64 0] 37)) (Nat.le_refl w0.heap.size) #[.bool y0a, .slice none 0 0, .slice p1a m1a k1a, .slice p2a m2a k2a, .int .i64 y4a, .int .i64 y5a]
  have hb1 := hc0.trans (hz.mono hc0.size)
  have HGa : Hid _ := (R6.new w0 (.bool false) (.slice none 0 0) (.slice none 0 0) (.slice none 0 0) (.int .i64 0) (.int .i64 0)).set (.bool y0a) (.slice none 0 0) (.slice p1a m1a k1a) (.slice p2a m2a k2a) (.int .i64 y4a) (.int .i64 y5a)
  have HR1 : Hid _ := (HR0.out.below hb).below hz
  have HDia : Hid (Di ((w0.alloc (Obj.cells #[.bool false, .slice none 0 0, .slice none 0 0, .slice none 0 0, .int .i64 0, .int .i64 0] 37)).setRow w0.heap.size #[.bool y0a, .slice none 0 0, .slice p1a m1a k1a, .slice p2a m2a k2a, .int .i64 y4a, .int .i64 y5a]) (.agg #[.bool y0a, .slice none 0 0, .slice p1a m1a k1a, .slice p2a m2a k2a, .int .i64 y4a, .int .i64 y5a]) (mustD d x)) := HDa.out.below hz
  clear hb0 HR0 HDa hb hc0 hz z0 z1 z2 z3 z4 z5
  go_upto_region 2 with (with_reducible refine st37 rfl (.tmp 7) (.tmp 14) rfl w0.heap.size _ _ _ _ _ _ (by with_unfolding_all rfl) (by with_unfolding_all rfl) (R6.new w0 _ _ _ _ _ _) (six_dom _ _ _ _ _ _ _ _ _ _ _ _) ?_)
  simp only [Act.put]
  generalize (w0.alloc (Obj.cells #[.bool false, .slice none 0 0, .slice none 0 0, .slice none 0 0, .int .i64 0, .int .i64 0] 37)).setRow w0.heap.size #[.bool y0a, .slice none 0 0, .slice p1a m1a k1a, .slice p2a m2a k2a, .int .i64 y4a, .int .i64 y5a] = W1 at hb1 HGa HR1 HDia ⊢
  generalize w0.heap.size = Ga at HGa ⊢
  obtain ⟨z0, z1, z2, z3, z4, z5⟩ := HR1.out.cells
  go_wp2_with fail
  refine (k51 W1 hb1).mono ?_
  rintro e w1 ⟨y0b, p1b, m1b, k1b, p2b, m2b, k2b, y4b, y5b, rfl, HDb, hb⟩
  have hc1 : Below W.heap.size W w1 := hb1.trans (hb.mono hb1.size)
  have hz := below_setRow ((Below.refl w1.heap.size w1).alloc (Nat.le_refl _) (Obj.cells #[.bool false, .slice none 0 0, .slice none 0 0, .slice none 0 0, .int .i64 0, .int .i64 0] 37)) (Nat.le_refl w1.heap.size) #[.bool y0b, .slice none 0 0, .slice p1b m1b k1b, .slice p2b m2b k2b, .int .i64 y4b, .int .i64 y5b]
  have hb2 := hc1.trans (hz.mono hc1.size)
  have HGb : Hid _ := (R6.new w1 (.bool false) (.slice none 0 0) (.slice none 0 0) (.slice none 0 0) (.int .i64 0) (.int .i64 0)).set (.bool y0b) (.slice none 0 0) (.slice p1b m1b k1b) (.slice p2b m2b k2b) (.int .i64 y4b) (.int .i64 y5b)
  have HR2 : Hid _ := (HR1.out.below hb).below hz
  have HDib : Hid (Di ((w1.alloc (Obj.cells #[.bool false, .slice none 0 0, .slice none 0 0, .slice none 0 0, .int .i64 0, .int .i64 0] 37)).setRow w1.heap.size #[.bool y0b, .slice none 0 0, .slice p1b m1b k1b, .slice p2b m2b k2b, .int .i64 y4b, .int .i64 y5b]) (.agg #[.bool y0b, .slice none 0 0, .slice p1b m1b k1b, .slice p2b m2b k2b, .int .i64 y4b, .int .i64 y5b]) (notD d x)) := HDb.out.below hz
  have HGan : Hid _ := (HGa.out.below hb).below hz
  have HDian : Hid (Di ((w1.alloc (Obj.cells #[.bool false, .slice none 0 0, .slice none 0 0, .slice none 0 0, .int .i64 0, .int .i64 0] 37)).setRow w1.heap.size #[.bool y0b, .slice none 0 0, .slice p1b m1b k1b, .slice p2b m2b k2b, .int .i64 y4b, .int .i64 y5b]) (.agg #[.bool y0a, .slice none 0 0, .slice p1a m1a k1a, .slice p2a m2a k2a, .int .i64 y4a, .int .i64 y5a]) (mustD d x)) := (HDia.out.below hb).below hz
  clear hb1 HR1 HDb hb hc1 hz z0 z1 z2 z3 z4 z5 HGa HDia
  go_upto_region 3 with (with_reducible refine st37 rfl (.tmp 8) (.tmp 17) rfl w1.heap.size _ _ _ _ _ _ (by with_unfolding_all rfl) (by with_unfolding_all rfl) (R6.new w1 _ _ _ _ _ _) (six_dom _ _ _ _ _ _ _ _ _ _ _ _) ?_)
  simp only [Act.put]
  generalize (w1.alloc (Obj.cells #[.bool false, .slice none 0 0, .slice none 0 0, .slice none 0 0, .int .i64 0, .int .i64 0] 37)).setRow w1.heap.size #[.bool y0b, .slice none 0 0, .slice p1b m1b k1b, .slice p2b m2b k2b, .int .i64 y4b, .int .i64 y5b] = W2 at hb2 HGb HR2 HDib HGan HDian ⊢
  generalize w1.heap.size = Gb at HGb ⊢
  obtain ⟨z0, z1, z2, z3, z4, z5⟩ := HR2.out.cells
  obtain ⟨e0, e1, e2, e3, e4, e5⟩ := HGan.out.cells
  obtain ⟨f0, f1, f2, f3, f4, f5⟩ := HGb.out.cells
  go_wp2_with fail
  refine (k44a _ W2 hb2 HDian.out).mono ?_
  rintro e w3 ⟨rfl, hb⟩
  have hb3 : Below W.heap.size W w3 := hb2.trans (hb.mono hb2.size)
  have HRn3 : Hid _ := HR2.out.below hb
  have HGa3 : Hid _ := HGan.out.below hb
  have HGb3 : Hid _ := HGb.out.below hb
  have HDa3 : Hid (Di w3 (.agg #[.bool y0a, .slice none 0 0, .slice p1a m1a k1a, .slice p2a m2a k2a, .int .i64 y4a, .int .i64 y5a]) (mustD d x)) := HDian.out.below hb
  have HDb3 : Hid (Di w3 (.agg #[.bool y0b, .slice none 0 0, .slice p1b m1b k1b, .slice p2b m2b k2b, .int .i64 y4b, .int .i64 y5b]) (notD d x)) := HDib.out.below hb
  clear hb hb2 HR2 HGan HGb HDian HDib z0 z1 z2 z3 z4 z5 e0 e1 e2 e3 e4 e5 f0 f1 f2 f3 f4 f5
  obtain ⟨z0, z1, z2, z3, z4, z5⟩ := HRn3.out.cells
  obtain ⟨e0, e1, e2, e3, e4, e5⟩ := HGa3.out.cells
  obtain ⟨f0, f1, f2, f3, f4, f5⟩ := HGb3.out.cells
  go_wp2_with fail
  refine (k44b _ w3 hb3 HDb3.out).mono ?_
  rintro e w4 ⟨rfl, hb⟩
  have hb4 : Below W.heap.size W w4 := hb3.trans (hb.mono hb3.size)
  have HRn4 : Hid _ := HRn3.out.below hb
  have HGa4 : Hid _ := HGa3.out.below hb
  have HGb4 : Hid _ := HGb3.out.below hb
  have HDa4 : Hid (Di w4 (.agg #[.bool y0a, .slice none 0 0, .slice p1a m1a k1a, .slice p2a m2a k2a, .int .i64 y4a, .int .i64 y5a]) (mustD d x)) := HDa3.out.below hb
  have HDb4 : Hid (Di w4 (.agg #[.bool y0b, .slice none 0 0, .slice p1b m1b k1b, .slice p2b m2b k2b, .int .i64 y4b, .int .i64 y5b]) (notD d x)) := HDb3.out.below hb
  clear hb hb3 HRn3 HGa3 HGb3 HDa3 HDb3 z0 z1 z2 z3 z4 z5 e0 e1 e2 e3 e4 e5 f0 f1 f2 f3 f4 f5
  obtain ⟨z0, z1, z2, z3, z4, z5⟩ := HRn4.out.cells
  obtain ⟨e0, e1, e2, e3, e4, e5⟩ := HGa4.out.cells
  obtain ⟨f0, f1, f2, f3, f4, f5⟩ := HGb4.out.cells
  go_wp2_with fail
  refine (k44 w4 hb4).mono ?_
  rintro e w5 ⟨rfl, hb⟩
  have hb5 : Below W.heap.size W w5 := hb4.trans (hb.mono hb4.size)
  have HRn5 : Hid _ := HRn4.out.below hb
  have HGa5 : Hid _ := HGa4.out.below hb
  have HGb5 : Hid _ := HGb4.out.below hb
  have HDa5 : Hid (Di w5 (.agg #[.bool y0a, .slice none 0 0, .slice p1a m1a k1a, .slice p2a m2a k2a, .int .i64 y4a, .int .i64 y5a]) (mustD d x)) := HDa4.out.below hb
  have HDb5 : Hid (Di w5 (.agg #[.bool y0b, .slice none 0 0, .slice p1b m1b k1b, .slice p2b m2b k2b, .int .i64 y4b, .int .i64 y5b]) (notD d x)) := HDb4.out.below hb
  clear hb hb4 HRn4 HGa4 HGb4 HDa4 HDb4 z0 z1 z2 z3 z4 z5 e0 e1 e2 e3 e4 e5 f0 f1 f2 f3 f4 f5
  obtain ⟨z0, z1, z2, z3, z4, z5⟩ := HRn5.out.cells
  obtain ⟨e0, e1, e2, e3, e4, e5⟩ := HGa5.out.cells
  obtain ⟨f0, f1, f2, f3, f4, f5⟩ := HGb5.out.cells
  go_wp2_with fail
  refine (k25 w5 hb5).mono ?_
  rintro e w6 ⟨rfl, hb⟩
  have hb6 : Below W.heap.size W w6 := hb5.trans (hb.mono hb5.size)
  have HRn6 : Hid _ := HRn5.out.below hb
  have HGa6 : Hid _ := HGa5.out.below hb
  have HGb6 : Hid _ := HGb5.out.below hb
  have HDa6 : Hid (Di w6 (.agg #[.bool y0a, .slice none 0 0, .slice p1a m1a k1a, .slice p2a m2a k2a, .int .i64 y4a, .int .i64 y5a]) (mustD d x)) := HDa5.out.below hb
  have HDb6 : Hid (Di w6 (.agg #[.bool y0b, .slice none 0 0, .slice p1b m1b k1b, .slice p2b m2b k2b, .int .i64 y4b, .int .i64 y5b]) (notD d x)) := HDb5.out.below hb
  clear hb hb5 HRn5 HGa5 HGb5 HDa5 HDb5 z0 z1 z2 z3 z4 z5 e0 e1 e2 e3 e4 e5 f0 f1 f2 f3 f4 f5
  obtain ⟨z0, z1, z2, z3, z4, z5⟩ := HRn6.out.cells
  obtain ⟨e0, e1, e2, e3, e4, e5⟩ := HGa6.out.cells
  obtain ⟨f0, f1, f2, f3, f4, f5⟩ := HGb6.out.cells
  go_wp2_with fail
  refine (k46 w6 hb6).mono ?_
  rintro e w7 ⟨rfl, hb⟩
  have hb7 : Below W.heap.size W w7 := hb6.trans (hb.mono hb6.size)
  have HRn7 : Hid _ := HRn6.out.below hb
  have HGa7 : Hid _ := HGa6.out.below hb
  have HGb7 : Hid _ := HGb6.out.below hb
  have HDa7 : Hid (Di w7 (.agg #[.bool y0a, .slice none 0 0, .slice p1a m1a k1a, .slice p2a m2a k2a, .int .i64 y4a, .int .i64 y5a]) (mustD d x)) := HDa6.out.below hb
  have HDb7 : Hid (Di w7 (.agg #[.bool y0b, .slice none 0 0, .slice p1b m1b k1b, .slice p2b m2b k2b, .int .i64 y4b, .int .i64 y5b]) (notD d x)) := HDb6.out.below hb
  clear hb hb6 HRn6 HGa6 HGb6 HDa6 HDb6 z0 z1 z2 z3 z4 z5 e0 e1 e2 e3 e4 e5 f0 f1 f2 f3 f4 f5
  obtain ⟨z0, z1, z2, z3, z4, z5⟩ := HRn7.out.cells
  obtain ⟨e0, e1, e2, e3, e4, e5⟩ := HGa7.out.cells
  obtain ⟨f0, f1, f2, f3, f4, f5⟩ := HGb7.out.cells
  go_upto_region 8 with (fail)
  have HK : ∀ X, Below w7.heap.size w7 X → X.cell? ⟨Ga, 0, none⟩ = some (.bool y0a) ∧ X.cell? ⟨Ga, 1, none⟩ = some (.slice none 0 0) ∧ X.cell? ⟨Ga, 2, none⟩ = some (.slice p1a m1a k1a) ∧ X.cell? ⟨Ga, 3, none⟩ = some (.slice p2a m2a k2a) ∧ X.cell? ⟨Ga, 4, none⟩ = some (.int .i64 y4a) ∧ X.cell? ⟨Ga, 5, none⟩ = some (.int .i64 y5a) ∧ X.cell? ⟨Gb, 0, none⟩ = some (.bool y0b) ∧ X.cell? ⟨Gb, 1, none⟩ = some (.slice none 0 0) ∧ X.cell? ⟨Gb, 2, none⟩ = some (.slice p1b m1b k1b) ∧ X.cell? ⟨Gb, 3, none⟩ = some (.slice p2b m2b k2b) ∧ X.cell? ⟨Gb, 4, none⟩ = some (.int .i64 y4b) ∧ X.cell? ⟨Gb, 5, none⟩ = some (.int .i64 y5b) := fun X hX => by
    obtain ⟨c0, c1, c2, c3, c4, c5⟩ := (HGa7.out.below hX).cells
    obtain ⟨d0, d1, d2, d3, d4, d5⟩ := (HGb7.out.below hX).cells
    exact ⟨c0, c1, c2, c3, c4, c5, d0, d1, d2, d3, d4, d5⟩
  have HDA : Hid (∀ X, Below w7.heap.size w7 X → Di X (.agg #[.bool y0a, .slice none 0 0, .slice p1a m1a k1a, .slice p2a m2a k2a, .int .i64 y4a, .int .i64 y5a]) (mustD d x)) := fun X hX => HDa7.out.below hX
  have HDB : Hid (∀ X, Below w7.heap.size w7 X → Di X (.agg #[.bool y0b, .slice none 0 0, .slice p1b m1b k1b, .slice p2b m2b k2b, .int .i64 y4b, .int .i64 y5b]) (notD d x)) := fun X hX => HDb7.out.below hX
  have HBW : Hid (∀ X, Below w7.heap.size w7 X → Below W.heap.size W X) := fun X hX => hb7.trans (hX.mono hb7.size)
  have hB0 : Below w7.heap.size w7 w7.drew := Below.drew (Below.refl _ _)
  clear HRn7 HGa7 HGb7 HDa7 HDb7 z0 z1 z2 z3 z4 z5 e0 e1 e2 e3 e4 e5 f0 f1 f2 f3 f4 f5
  refine wp_region_held_drew (S := (fun X => X.cell? ⟨Ga, 0, none⟩ = some (.bool y0a) ∧ X.cell? ⟨Ga, 1, none⟩ = some (.slice none 0 0) ∧ X.cell? ⟨Ga, 2, none⟩ = some (.slice p1a m1a k1a) ∧ X.cell? ⟨Ga, 3, none⟩ = some (.slice p2a m2a k2a) ∧ X.cell? ⟨Ga, 4, none⟩ = some (.int .i64 y4a) ∧ X.cell? ⟨Ga, 5, none⟩ = some (.int .i64 y5a) ∧ X.cell? ⟨Gb, 0, none⟩ = some (.bool y0b) ∧ X.cell? ⟨Gb, 1, none⟩ = some (.slice none 0 0) ∧ X.cell? ⟨Gb, 2, none⟩ = some (.slice p1b m1b k1b) ∧ X.cell? ⟨Gb, 3, none⟩ = some (.slice p2b m2b k2b) ∧ X.cell? ⟨Gb, 4, none⟩ = some (.int .i64 y4b) ∧ X.cell? ⟨Gb, 5, none⟩ = some (.int .i64 y5b))) (by kernel_rfl) (HK _ hB0) (fun hHeld => ?_)
  refine wpAnyH_take (i := 0) (oi := { dst := some 57, op := Go.Op.move (Go.Operand.tmp 11), type := 2, pos := "law.go:128", after := #[], guard := none }) (v := ?_) rfl (by kernel_rfl) (by kernel_rfl) (by kernel_rfl) (fun _ _ _ h => h) (Or.inl ⟨by rfl, ?_⟩) hHeld ?_
  rotate_left
  · intro w hSw; (try dsimp only at hSw); go_simp <;> with_reducible rfl
  try simp only [Act.put, List.setIfInBounds_toArray, List.set_cons_zero, List.set_cons_succ]
  refine wpAnyH_take (i := 1) (oi := { dst := some 58, op := Go.Op.binOp Go.BinOp.geq 2 (Go.Operand.tmp 57) (Go.Operand.const (Go.Value.int Go.IntKind.i64 2305843009213693952)) 2, type := 4, pos := "law.go:128", after := #[{ on := 0, ground := Go.Ground.data }], guard := none }) (v := ?_) rfl (by kernel_rfl) (by kernel_rfl) (by kernel_rfl) (fun _ _ _ h => h) (Or.inl ⟨by rfl, ?_⟩) hHeld ?_
  rotate_left
  · intro w hSw; (try dsimp only at hSw); go_simp <;> with_reducible rfl
  try simp only [Act.put, List.setIfInBounds_toArray, List.set_cons_zero, List.set_cons_succ]
  refine wpAnyH_take (i := 2) (oi := { dst := some 59, op := Go.Op.move (Go.Operand.tmp 58), type := 4, pos := "law.go:128", after := #[{ on := 1, ground := Go.Ground.data }], guard := none }) (v := ?_) rfl (by kernel_rfl) (by kernel_rfl) (by kernel_rfl) (fun _ _ _ h => h) (Or.inl ⟨by rfl, ?_⟩) hHeld ?_
  rotate_left
  · intro w hSw; (try dsimp only at hSw); go_simp <;> with_reducible rfl
  try simp only [Act.put, List.setIfInBounds_toArray, List.set_cons_zero, List.set_cons_succ]
  refine wpAnyH_take (i := 3) (oi := { dst := some 60, op := Go.Op.load 37 (Go.Operand.tmp 7), type := 37, pos := "law.go:128", after := #[{ on := 2, ground := Go.Ground.guard }], guard := some (2, false) }) (v := ?_) rfl (by kernel_rfl) (by kernel_rfl) (by kernel_rfl) (fun _ _ _ h => h) (Or.inl ⟨by rfl, ?_⟩) hHeld ?_
  rotate_left
  · intro w hSw; (try dsimp only at hSw); go_simp <;> with_reducible rfl
  try simp only [Act.put, List.setIfInBounds_toArray, List.set_cons_zero, List.set_cons_succ]
  refine wpAnyH_take (i := 5) (oi := { dst := some 62, op := Go.Op.load 37 (Go.Operand.tmp 8), type := 37, pos := "law.go:128", after := #[{ on := 2, ground := Go.Ground.guard }], guard := some (2, false) }) (v := ?_) rfl (by kernel_rfl) (by kernel_rfl) (by kernel_rfl) (fun _ _ _ h => h) (Or.inl ⟨by rfl, ?_⟩) hHeld ?_
  rotate_left
  · intro w hSw; (try dsimp only at hSw); go_simp <;> with_reducible rfl
  try simp only [Act.put, List.setIfInBounds_toArray, List.set_cons_zero, List.set_cons_succ]
  refine wpAnyH_take (i := 8) (oi := { dst := some 65, op := Go.Op.move (Go.Operand.tmp 11), type := 2, pos := "law.go:128", after := #[{ on := 2, ground := Go.Ground.guard }], guard := some (2, false) }) (v := ?_) rfl (by kernel_rfl) (by kernel_rfl) (by kernel_rfl) (fun _ _ _ h => h) (Or.inl ⟨by rfl, ?_⟩) hHeld ?_
  rotate_left
  · intro w hSw; (try dsimp only at hSw); go_simp <;> with_reducible rfl
  try simp only [Act.put, List.setIfInBounds_toArray, List.set_cons_zero, List.set_cons_succ]
  refine wpAnyH_ready (rs := [4]) (by kernel_rfl) (by simp) ?_
  refine AllReadyH.cons rfl (fun K hK => ?_) AllReadyH.nil
  go_simp
  refine (k46a _ _ (HDA.out _ hB0)).mono ?_
  rintro e w17 ⟨rfl, hb7'⟩
  have hb7 : Below w7.heap.size w7 w17 := hB0.trans (hb7'.mono hB0.size)
  refine hK.out _ _ (HK _ hb7) (fun hHeld2 => ?_)
  clear hK K hHeld
  have hHeld := hHeld2
  clear hHeld2
  try simp only [Act.put, List.setIfInBounds_toArray, List.set_cons_zero, List.set_cons_succ]
  refine wpAnyH_ready (rs := [6]) (by kernel_rfl) (by simp) ?_
  refine AllReadyH.cons rfl (fun K hK => ?_) AllReadyH.nil
  go_simp
  refine (k46b _ _ (HDB.out _ hb7)).mono ?_
  rintro e w18 ⟨rfl, hb8'⟩
  have hb8 : Below w7.heap.size w7 w18 := hb7.trans (hb8'.mono hb7.size)
  refine hK.out _ _ (HK _ hb8) (fun hHeld2 => ?_)
  clear hK K hHeld
  have hHeld := hHeld2
  clear hHeld2
  try simp only [Act.put, List.setIfInBounds_toArray, List.set_cons_zero, List.set_cons_succ]
  refine wpAnyH_take (i := 7) (oi := { dst := some 64, op := Go.Op.binOp Go.BinOp.add 2 (Go.Operand.tmp 61) (Go.Operand.tmp 63) 2, type := 2, pos := "law.go:128", after := #[{ on := 4, ground := Go.Ground.data }, { on := 6, ground := Go.Ground.data }, { on := 2, ground := Go.Ground.guard }], guard := some (2, false) }) (v := ?_) rfl (by kernel_rfl) (by kernel_rfl) (by kernel_rfl) (fun _ _ _ h => h) (Or.inl ⟨by rfl, ?_⟩) hHeld ?_
  rotate_left
  · intro w hSw; (try dsimp only at hSw); go_simp <;> with_reducible rfl
  try simp only [Act.put, List.setIfInBounds_toArray, List.set_cons_zero, List.set_cons_succ]
  refine wpAnyH_take (i := 9) (oi := { dst := some 66, op := Go.Op.binOp Go.BinOp.eql 2 (Go.Operand.tmp 64) (Go.Operand.tmp 65) 2, type := 4, pos := "law.go:128", after := #[{ on := 7, ground := Go.Ground.data }, { on := 8, ground := Go.Ground.data }, { on := 2, ground := Go.Ground.guard }], guard := some (2, false) }) (v := ?_) rfl (by kernel_rfl) (by kernel_rfl) (by kernel_rfl) (fun _ _ _ h => h) (Or.inl ⟨by rfl, ?_⟩) hHeld ?_
  rotate_left
  · intro w hSw; (try dsimp only at hSw); go_simp <;> with_reducible rfl
  try simp only [Act.put, List.setIfInBounds_toArray, List.set_cons_zero, List.set_cons_succ]
  refine wpAnyH_take (i := 10) (oi := { dst := some 67, op := Go.Op.pick (Go.Operand.tmp 59) (Go.Operand.const (Go.Value.bool true)) (Go.Operand.tmp 66), type := 4, pos := "law.go:128", after := #[{ on := 2, ground := Go.Ground.data }, { on := 9, ground := Go.Ground.data }], guard := none }) (v := ?_) rfl (by kernel_rfl) (by kernel_rfl) (by kernel_rfl) (fun _ _ _ h => h) (Or.inl ⟨by rfl, ?_⟩) hHeld ?_
  rotate_left
  · intro w hSw; (try dsimp only at hSw); go_simp <;> with_reducible rfl
  try simp only [Act.put, List.setIfInBounds_toArray, List.set_cons_zero, List.set_cons_succ]
  refine wpAnyH_take (i := 11) (oi := { dst := some 68, op := Go.Op.move (Go.Operand.tmp 67), type := 4, pos := "law.go:128", after := #[{ on := 10, ground := Go.Ground.data }, { on := 6, ground := Go.Ground.chain }], guard := none }) (v := ?_) rfl (by kernel_rfl) (by kernel_rfl) (by kernel_rfl) (fun _ _ _ h => h) (Or.inl ⟨by rfl, ?_⟩) hHeld ?_
  rotate_left
  · intro w hSw; (try dsimp only at hSw); go_simp <;> with_reducible rfl
  try simp only [Act.put, List.setIfInBounds_toArray, List.set_cons_zero, List.set_cons_succ]
  refine wpAnyH_ready (rs := [12]) (by kernel_rfl) (by simp) ?_
  refine AllReadyH.cons rfl (fun K hK => ?_) AllReadyH.nil
  go_simp
  refine (k32 _ (HBW.out _ hb8)).mono ?_
  rintro e w19 ⟨rfl, hb9'⟩
  have hb9 : Below w7.heap.size w7 w19 := hb8.trans (hb9'.mono hb8.size)
  refine hK.out _ _ (HK _ hb9) (fun hHeld2 => ?_)
  clear hK K hHeld
  have hHeld := hHeld2
  clear hHeld2
  try simp only [Act.put, List.setIfInBounds_toArray, List.set_cons_zero, List.set_cons_succ]
  refine wpAnyH_take (i := 13) (oi := { dst := some 70, op := Go.Op.pick (Go.Operand.tmp 68) (Go.Operand.tmp 69) (Go.Operand.const (Go.Value.bool false)), type := 4, pos := "law.go:128", after := #[{ on := 11, ground := Go.Ground.data }, { on := 12, ground := Go.Ground.data }], guard := none }) (v := ?_) rfl (by kernel_rfl) (by kernel_rfl) (by kernel_rfl) (fun _ _ _ h => h) (Or.inl ⟨by rfl, ?_⟩) hHeld ?_
  rotate_left
  · intro w hSw; (try dsimp only at hSw); go_simp <;> with_reducible rfl
  try simp only [Act.put, List.setIfInBounds_toArray, List.set_cons_zero, List.set_cons_succ]
  refine wpAnyH_take (i := 14) (oi := { dst := some 6, op := Go.Op.assign (Go.Operand.tmp 70), type := 4, pos := "law.go:128", after := #[{ on := 13, ground := Go.Ground.data }, { on := 12, ground := Go.Ground.chain }, { on := 0, ground := Go.Ground.phase }, { on := 1, ground := Go.Ground.phase }, { on := 2, ground := Go.Ground.phase }, { on := 3, ground := Go.Ground.phase }, { on := 4, ground := Go.Ground.phase }, { on := 5, ground := Go.Ground.phase }, { on := 6, ground := Go.Ground.phase }, { on := 7, ground := Go.Ground.phase }, { on := 8, ground := Go.Ground.phase }, { on := 9, ground := Go.Ground.phase }, { on := 10, ground := Go.Ground.phase }, { on := 11, ground := Go.Ground.phase }, { on := 12, ground := Go.Ground.phase }, { on := 13, ground := Go.Ground.phase }], guard := none }) (v := ?_) rfl (by kernel_rfl) (by kernel_rfl) (by kernel_rfl) (fun _ _ _ h => h) (Or.inl ⟨by rfl, ?_⟩) hHeld ?_
  rotate_left
  · intro w hSw; (try dsimp only at hSw); go_simp <;> with_reducible rfl
  try simp only [Act.put, List.setIfInBounds_toArray, List.set_cons_zero, List.set_cons_succ]
  refine wpAnyH_done (by kernel_rfl) ?_ _
  go_wp2
  go_ret
  exact ⟨rfl, HBW.out _ hb9⟩

set_option maxRecDepth 100000 in
set_option maxHeartbeats 4000000 in
theorem parts_101 (v : Value) (d : SD) (x : Int) (s : Value) (l : List Int) (W : World) (h : Di W v d) (hl : Si W s l) (hM : MaxL W) (hE : ErrV W) (hT : Tens W.heap.size W) (hH : hasD d l = true) (hI : (tkS l).contains x = false) (hn : 2305843009213693952 ≤ countD d) :
    Calls Tryz.prog 7 #[v, .int .i64 x, s] W fun e w' => e = .returned (.bool true) ∧ Below W.heap.size W w' := by
  have hM0 := hM.1
  have HM : Hid (MaxL W) := hM
  have HE' : Hid (ErrV W) := hE
  have HT : Hid (Tens W.heap.size W) := hT
  have k32 := fun X (hX : Below W.heap.size W X) => known32 X (HM.out.below hX hM0) (HE'.out.below hX (by omega)) (Tens.here HT.out hX)
  have k50 := fun X (hX : Below W.heap.size W X) => must_look v d x X (h.below hX)
  have k51 := fun X (hX : Below W.heap.size W X) => not_look v d x X (h.below hX)
  have k44 := fun X (hX : Below W.heap.size W X) => has_any v s d l X (h.below hX) (hl.below hX)
  have k44a := fun u X (hX : Below W.heap.size W X) (hu : Di X u (mustD d x)) => has_any u s (mustD d x) l X hu (hl.below hX)
  have k44b := fun u X (hX : Below W.heap.size W X) (hu : Di X u (notD d x)) => has_any u s (notD d x) l X hu (hl.below hX)
  have k25 := fun X (hX : Below W.heap.size W X) => in_any x s l X (hl.below hX)
  have k46 := fun X (hX : Below W.heap.size W X) => count_any v d X (h.below hX)
  have k46a := fun u X (hu : Di X u (mustD d x)) => count_any u (mustD d x) X hu
  have k46b := fun u X (hu : Di X u (notD d x)) => count_any u (notD d x) X hu
  simp only [must_b, not_b, hH, hI, Bool.true_and, Bool.false_and, Bool.not_true, Bool.not_false] at k44 k44a k44b k25
  generalize countD d = cn at *
  have hle : decide (2305843009213693952 ≤ cn) = true := by simp; omega
  obtain ⟨x0, ra, rn, rc, a1, n1, c1, a2, n2, c2, x4, x5, rfl, HE, HLO, HUP⟩ := h.look
  obtain ⟨sa, ns, cs', rfl, HSL, HNL⟩ := si_look hl
  obtain ⟨W0, hW0⟩ : ∃ X, W.alloc (Obj.cells #[.bool x0, .slice ra rn rc, .slice a1 n1 c1, .slice a2 n2 c2, .int .i64 x4, .int .i64 x5] 37) = X := ⟨_, rfl⟩
  have HW0 : Hid _ := hW0
  have hb0 : Below W.heap.size W W0 := by rw [← hW0]; exact (Below.refl _ W).alloc (Nat.le_refl _) _
  have HR0 : Hid (R6 W0 W.heap.size (.bool x0) (.slice ra rn rc) (.slice a1 n1 c1) (.slice a2 n2 c2) (.int .i64 x4) (.int .i64 x5)) := by rw [← hW0]; exact R6.new _ _ _ _ _ _ _
  clear hW0 h hl HE HLO HUP HSL HNL hM hE hT hH hI
  go_enter Tryz.func7, Tryz.ntmps7
  go_upto_region 1 with (fail)
  rw [HW0.out]
  obtain ⟨z0, z1, z2, z3, z4, z5⟩ := HR0.out.cells
  go_wp2_with fail
  refine (k50 W0 hb0).mono ?_
  rintro e w0 ⟨y0a, p1a, m1a, k1a, p2a, m2a, k2a, y4a, y5a, rfl, HDa, hb⟩
  have hc0 : Below W.heap.size W w0 := hb0.trans (hb.mono hb0.size)
  have hz := below_setRow ((Below.refl w0.heap.size w0).alloc (Nat.le_refl _) (Obj.cells #[.bool false, .slice none 0 0, .slice none 0 0, .slice none 0 0, .int .i64 0, .int .i64 0] 37)) (Nat.le_refl w0.heap.size) #[.bool y0a, .slice none 0 0, .slice p1a m1a k1a, .slice p2a m2a k2a, .int .i64 y4a, .int .i64 y5a]
  have hb1 := hc0.trans (hz.mono hc0.size)
  have HGa : Hid _ := (R6.new w0 (.bool false) (.slice none 0 0) (.slice none 0 0) (.slice none 0 0) (.int .i64 0) (.int .i64 0)).set (.bool y0a) (.slice none 0 0) (.slice p1a m1a k1a) (.slice p2a m2a k2a) (.int .i64 y4a) (.int .i64 y5a)
  have HR1 : Hid _ := (HR0.out.below hb).below hz
  have HDia : Hid (Di ((w0.alloc (Obj.cells #[.bool false, .slice none 0 0, .slice none 0 0, .slice none 0 0, .int .i64 0, .int .i64 0] 37)).setRow w0.heap.size #[.bool y0a, .slice none 0 0, .slice p1a m1a k1a, .slice p2a m2a k2a, .int .i64 y4a, .int .i64 y5a]) (.agg #[.bool y0a, .slice none 0 0, .slice p1a m1a k1a, .slice p2a m2a k2a, .int .i64 y4a, .int .i64 y5a]) (mustD d x)) := HDa.out.below hz
  clear hb0 HR0 HDa hb hc0 hz z0 z1 z2 z3 z4 z5
  go_upto_region 2 with (with_reducible refine st37 rfl (.tmp 7) (.tmp 14) rfl w0.heap.size _ _ _ _ _ _ (by with_unfolding_all rfl) (by with_unfolding_all rfl) (R6.new w0 _ _ _ _ _ _) (six_dom _ _ _ _ _ _ _ _ _ _ _ _) ?_)
  simp only [Act.put]
  generalize (w0.alloc (Obj.cells #[.bool false, .slice none 0 0, .slice none 0 0, .slice none 0 0, .int .i64 0, .int .i64 0] 37)).setRow w0.heap.size #[.bool y0a, .slice none 0 0, .slice p1a m1a k1a, .slice p2a m2a k2a, .int .i64 y4a, .int .i64 y5a] = W1 at hb1 HGa HR1 HDia ⊢
  generalize w0.heap.size = Ga at HGa ⊢
  obtain ⟨z0, z1, z2, z3, z4, z5⟩ := HR1.out.cells
  go_wp2_with fail
  refine (k51 W1 hb1).mono ?_
  rintro e w1 ⟨y0b, p1b, m1b, k1b, p2b, m2b, k2b, y4b, y5b, rfl, HDb, hb⟩
  have hc1 : Below W.heap.size W w1 := hb1.trans (hb.mono hb1.size)
  have hz := below_setRow ((Below.refl w1.heap.size w1).alloc (Nat.le_refl _) (Obj.cells #[.bool false, .slice none 0 0, .slice none 0 0, .slice none 0 0, .int .i64 0, .int .i64 0] 37)) (Nat.le_refl w1.heap.size) #[.bool y0b, .slice none 0 0, .slice p1b m1b k1b, .slice p2b m2b k2b, .int .i64 y4b, .int .i64 y5b]
  have hb2 := hc1.trans (hz.mono hc1.size)
  have HGb : Hid _ := (R6.new w1 (.bool false) (.slice none 0 0) (.slice none 0 0) (.slice none 0 0) (.int .i64 0) (.int .i64 0)).set (.bool y0b) (.slice none 0 0) (.slice p1b m1b k1b) (.slice p2b m2b k2b) (.int .i64 y4b) (.int .i64 y5b)
  have HR2 : Hid _ := (HR1.out.below hb).below hz
  have HDib : Hid (Di ((w1.alloc (Obj.cells #[.bool false, .slice none 0 0, .slice none 0 0, .slice none 0 0, .int .i64 0, .int .i64 0] 37)).setRow w1.heap.size #[.bool y0b, .slice none 0 0, .slice p1b m1b k1b, .slice p2b m2b k2b, .int .i64 y4b, .int .i64 y5b]) (.agg #[.bool y0b, .slice none 0 0, .slice p1b m1b k1b, .slice p2b m2b k2b, .int .i64 y4b, .int .i64 y5b]) (notD d x)) := HDb.out.below hz
  have HGan : Hid _ := (HGa.out.below hb).below hz
  have HDian : Hid (Di ((w1.alloc (Obj.cells #[.bool false, .slice none 0 0, .slice none 0 0, .slice none 0 0, .int .i64 0, .int .i64 0] 37)).setRow w1.heap.size #[.bool y0b, .slice none 0 0, .slice p1b m1b k1b, .slice p2b m2b k2b, .int .i64 y4b, .int .i64 y5b]) (.agg #[.bool y0a, .slice none 0 0, .slice p1a m1a k1a, .slice p2a m2a k2a, .int .i64 y4a, .int .i64 y5a]) (mustD d x)) := (HDia.out.below hb).below hz
  clear hb1 HR1 HDb hb hc1 hz z0 z1 z2 z3 z4 z5 HGa HDia
  go_upto_region 3 with (with_reducible refine st37 rfl (.tmp 8) (.tmp 17) rfl w1.heap.size _ _ _ _ _ _ (by with_unfolding_all rfl) (by with_unfolding_all rfl) (R6.new w1 _ _ _ _ _ _) (six_dom _ _ _ _ _ _ _ _ _ _ _ _) ?_)
  simp only [Act.put]
  generalize (w1.alloc (Obj.cells #[.bool false, .slice none 0 0, .slice none 0 0, .slice none 0 0, .int .i64 0, .int .i64 0] 37)).setRow w1.heap.size #[.bool y0b, .slice none 0 0, .slice p1b m1b k1b, .slice p2b m2b k2b, .int .i64 y4b, .int .i64 y5b] = W2 at hb2 HGb HR2 HDib HGan HDian ⊢
  generalize w1.heap.size = Gb at HGb ⊢
  obtain ⟨z0, z1, z2, z3, z4, z5⟩ := HR2.out.cells
  obtain ⟨e0, e1, e2, e3, e4, e5⟩ := HGan.out.cells
  obtain ⟨f0, f1, f2, f3, f4, f5⟩ := HGb.out.cells
  go_wp2_with fail
  refine (k44a _ W2 hb2 HDian.out).mono ?_
  rintro e w3 ⟨rfl, hb⟩
  have hb3 : Below W.heap.size W w3 := hb2.trans (hb.mono hb2.size)
  have HRn3 : Hid _ := HR2.out.below hb
  have HGa3 : Hid _ := HGan.out.below hb
  have HGb3 : Hid _ := HGb.out.below hb
  have HDa3 : Hid (Di w3 (.agg #[.bool y0a, .slice none 0 0, .slice p1a m1a k1a, .slice p2a m2a k2a, .int .i64 y4a, .int .i64 y5a]) (mustD d x)) := HDian.out.below hb
  have HDb3 : Hid (Di w3 (.agg #[.bool y0b, .slice none 0 0, .slice p1b m1b k1b, .slice p2b m2b k2b, .int .i64 y4b, .int .i64 y5b]) (notD d x)) := HDib.out.below hb
  clear hb hb2 HR2 HGan HGb HDian HDib z0 z1 z2 z3 z4 z5 e0 e1 e2 e3 e4 e5 f0 f1 f2 f3 f4 f5
  obtain ⟨z0, z1, z2, z3, z4, z5⟩ := HRn3.out.cells
  obtain ⟨e0, e1, e2, e3, e4, e5⟩ := HGa3.out.cells
  obtain ⟨f0, f1, f2, f3, f4, f5⟩ := HGb3.out.cells
  go_wp2_with fail
  refine (k44b _ w3 hb3 HDb3.out).mono ?_
  rintro e w4 ⟨rfl, hb⟩
  have hb4 : Below W.heap.size W w4 := hb3.trans (hb.mono hb3.size)
  have HRn4 : Hid _ := HRn3.out.below hb
  have HGa4 : Hid _ := HGa3.out.below hb
  have HGb4 : Hid _ := HGb3.out.below hb
  have HDa4 : Hid (Di w4 (.agg #[.bool y0a, .slice none 0 0, .slice p1a m1a k1a, .slice p2a m2a k2a, .int .i64 y4a, .int .i64 y5a]) (mustD d x)) := HDa3.out.below hb
  have HDb4 : Hid (Di w4 (.agg #[.bool y0b, .slice none 0 0, .slice p1b m1b k1b, .slice p2b m2b k2b, .int .i64 y4b, .int .i64 y5b]) (notD d x)) := HDb3.out.below hb
  clear hb hb3 HRn3 HGa3 HGb3 HDa3 HDb3 z0 z1 z2 z3 z4 z5 e0 e1 e2 e3 e4 e5 f0 f1 f2 f3 f4 f5
  obtain ⟨z0, z1, z2, z3, z4, z5⟩ := HRn4.out.cells
  obtain ⟨e0, e1, e2, e3, e4, e5⟩ := HGa4.out.cells
  obtain ⟨f0, f1, f2, f3, f4, f5⟩ := HGb4.out.cells
  go_wp2_with fail
  refine (k44 w4 hb4).mono ?_
  rintro e w5 ⟨rfl, hb⟩
  have hb5 : Below W.heap.size W w5 := hb4.trans (hb.mono hb4.size)
  have HRn5 : Hid _ := HRn4.out.below hb
  have HGa5 : Hid _ := HGa4.out.below hb
  have HGb5 : Hid _ := HGb4.out.below hb
  have HDa5 : Hid (Di w5 (.agg #[.bool y0a, .slice none 0 0, .slice p1a m1a k1a, .slice p2a m2a k2a, .int .i64 y4a, .int .i64 y5a]) (mustD d x)) := HDa4.out.below hb
  have HDb5 : Hid (Di w5 (.agg #[.bool y0b, .slice none 0 0, .slice p1b m1b k1b, .slice p2b m2b k2b, .int .i64 y4b, .int .i64 y5b]) (notD d x)) := HDb4.out.below hb
  clear hb hb4 HRn4 HGa4 HGb4 HDa4 HDb4 z0 z1 z2 z3 z4 z5 e0 e1 e2 e3 e4 e5 f0 f1 f2 f3 f4 f5
  obtain ⟨z0, z1, z2, z3, z4, z5⟩ := HRn5.out.cells
  obtain ⟨e0, e1, e2, e3, e4, e5⟩ := HGa5.out.cells
  obtain ⟨f0, f1, f2, f3, f4, f5⟩ := HGb5.out.cells
  go_wp2_with fail
  refine (k25 w5 hb5).mono ?_
  rintro e w6 ⟨rfl, hb⟩
  have hb6 : Below W.heap.size W w6 := hb5.trans (hb.mono hb5.size)
  have HRn6 : Hid _ := HRn5.out.below hb
  have HGa6 : Hid _ := HGa5.out.below hb
  have HGb6 : Hid _ := HGb5.out.below hb
  have HDa6 : Hid (Di w6 (.agg #[.bool y0a, .slice none 0 0, .slice p1a m1a k1a, .slice p2a m2a k2a, .int .i64 y4a, .int .i64 y5a]) (mustD d x)) := HDa5.out.below hb
  have HDb6 : Hid (Di w6 (.agg #[.bool y0b, .slice none 0 0, .slice p1b m1b k1b, .slice p2b m2b k2b, .int .i64 y4b, .int .i64 y5b]) (notD d x)) := HDb5.out.below hb
  clear hb hb5 HRn5 HGa5 HGb5 HDa5 HDb5 z0 z1 z2 z3 z4 z5 e0 e1 e2 e3 e4 e5 f0 f1 f2 f3 f4 f5
  obtain ⟨z0, z1, z2, z3, z4, z5⟩ := HRn6.out.cells
  obtain ⟨e0, e1, e2, e3, e4, e5⟩ := HGa6.out.cells
  obtain ⟨f0, f1, f2, f3, f4, f5⟩ := HGb6.out.cells
  go_wp2_with fail
  refine (k46 w6 hb6).mono ?_
  rintro e w7 ⟨rfl, hb⟩
  have hb7 : Below W.heap.size W w7 := hb6.trans (hb.mono hb6.size)
  have HRn7 : Hid _ := HRn6.out.below hb
  have HGa7 : Hid _ := HGa6.out.below hb
  have HGb7 : Hid _ := HGb6.out.below hb
  have HDa7 : Hid (Di w7 (.agg #[.bool y0a, .slice none 0 0, .slice p1a m1a k1a, .slice p2a m2a k2a, .int .i64 y4a, .int .i64 y5a]) (mustD d x)) := HDa6.out.below hb
  have HDb7 : Hid (Di w7 (.agg #[.bool y0b, .slice none 0 0, .slice p1b m1b k1b, .slice p2b m2b k2b, .int .i64 y4b, .int .i64 y5b]) (notD d x)) := HDb6.out.below hb
  clear hb hb6 HRn6 HGa6 HGb6 HDa6 HDb6 z0 z1 z2 z3 z4 z5 e0 e1 e2 e3 e4 e5 f0 f1 f2 f3 f4 f5
  obtain ⟨z0, z1, z2, z3, z4, z5⟩ := HRn7.out.cells
  obtain ⟨e0, e1, e2, e3, e4, e5⟩ := HGa7.out.cells
  obtain ⟨f0, f1, f2, f3, f4, f5⟩ := HGb7.out.cells
  go_upto_region 8 with (fail)
  have HK : ∀ X, Below w7.heap.size w7 X → X.cell? ⟨Ga, 0, none⟩ = some (.bool y0a) ∧ X.cell? ⟨Ga, 1, none⟩ = some (.slice none 0 0) ∧ X.cell? ⟨Ga, 2, none⟩ = some (.slice p1a m1a k1a) ∧ X.cell? ⟨Ga, 3, none⟩ = some (.slice p2a m2a k2a) ∧ X.cell? ⟨Ga, 4, none⟩ = some (.int .i64 y4a) ∧ X.cell? ⟨Ga, 5, none⟩ = some (.int .i64 y5a) ∧ X.cell? ⟨Gb, 0, none⟩ = some (.bool y0b) ∧ X.cell? ⟨Gb, 1, none⟩ = some (.slice none 0 0) ∧ X.cell? ⟨Gb, 2, none⟩ = some (.slice p1b m1b k1b) ∧ X.cell? ⟨Gb, 3, none⟩ = some (.slice p2b m2b k2b) ∧ X.cell? ⟨Gb, 4, none⟩ = some (.int .i64 y4b) ∧ X.cell? ⟨Gb, 5, none⟩ = some (.int .i64 y5b) := fun X hX => by
    obtain ⟨c0, c1, c2, c3, c4, c5⟩ := (HGa7.out.below hX).cells
    obtain ⟨d0, d1, d2, d3, d4, d5⟩ := (HGb7.out.below hX).cells
    exact ⟨c0, c1, c2, c3, c4, c5, d0, d1, d2, d3, d4, d5⟩
  have HDA : Hid (∀ X, Below w7.heap.size w7 X → Di X (.agg #[.bool y0a, .slice none 0 0, .slice p1a m1a k1a, .slice p2a m2a k2a, .int .i64 y4a, .int .i64 y5a]) (mustD d x)) := fun X hX => HDa7.out.below hX
  have HDB : Hid (∀ X, Below w7.heap.size w7 X → Di X (.agg #[.bool y0b, .slice none 0 0, .slice p1b m1b k1b, .slice p2b m2b k2b, .int .i64 y4b, .int .i64 y5b]) (notD d x)) := fun X hX => HDb7.out.below hX
  have HBW : Hid (∀ X, Below w7.heap.size w7 X → Below W.heap.size W X) := fun X hX => hb7.trans (hX.mono hb7.size)
  have hB0 : Below w7.heap.size w7 w7.drew := Below.drew (Below.refl _ _)
  clear HRn7 HGa7 HGb7 HDa7 HDb7 z0 z1 z2 z3 z4 z5 e0 e1 e2 e3 e4 e5 f0 f1 f2 f3 f4 f5
  refine wp_region_held_drew (S := (fun X => X.cell? ⟨Ga, 0, none⟩ = some (.bool y0a) ∧ X.cell? ⟨Ga, 1, none⟩ = some (.slice none 0 0) ∧ X.cell? ⟨Ga, 2, none⟩ = some (.slice p1a m1a k1a) ∧ X.cell? ⟨Ga, 3, none⟩ = some (.slice p2a m2a k2a) ∧ X.cell? ⟨Ga, 4, none⟩ = some (.int .i64 y4a) ∧ X.cell? ⟨Ga, 5, none⟩ = some (.int .i64 y5a) ∧ X.cell? ⟨Gb, 0, none⟩ = some (.bool y0b) ∧ X.cell? ⟨Gb, 1, none⟩ = some (.slice none 0 0) ∧ X.cell? ⟨Gb, 2, none⟩ = some (.slice p1b m1b k1b) ∧ X.cell? ⟨Gb, 3, none⟩ = some (.slice p2b m2b k2b) ∧ X.cell? ⟨Gb, 4, none⟩ = some (.int .i64 y4b) ∧ X.cell? ⟨Gb, 5, none⟩ = some (.int .i64 y5b))) (by kernel_rfl) (HK _ hB0) (fun hHeld => ?_)
  refine wpAnyH_take (i := 0) (oi := { dst := some 57, op := Go.Op.move (Go.Operand.tmp 11), type := 2, pos := "law.go:128", after := #[], guard := none }) (v := ?_) rfl (by kernel_rfl) (by kernel_rfl) (by kernel_rfl) (fun _ _ _ h => h) (Or.inl ⟨by rfl, ?_⟩) hHeld ?_
  rotate_left
  · intro w hSw; (try dsimp only at hSw); go_simp <;> with_reducible rfl
  try simp only [Act.put, List.setIfInBounds_toArray, List.set_cons_zero, List.set_cons_succ]
  refine wpAnyH_take (i := 1) (oi := { dst := some 58, op := Go.Op.binOp Go.BinOp.geq 2 (Go.Operand.tmp 57) (Go.Operand.const (Go.Value.int Go.IntKind.i64 2305843009213693952)) 2, type := 4, pos := "law.go:128", after := #[{ on := 0, ground := Go.Ground.data }], guard := none }) (v := ?_) rfl (by kernel_rfl) (by kernel_rfl) (by kernel_rfl) (fun _ _ _ h => h) (Or.inl ⟨by rfl, ?_⟩) hHeld ?_
  rotate_left
  · intro w hSw; (try dsimp only at hSw); go_simp <;> with_reducible rfl
  try simp only [Act.put, List.setIfInBounds_toArray, List.set_cons_zero, List.set_cons_succ]
  refine wpAnyH_take (i := 2) (oi := { dst := some 59, op := Go.Op.move (Go.Operand.tmp 58), type := 4, pos := "law.go:128", after := #[{ on := 1, ground := Go.Ground.data }], guard := none }) (v := ?_) rfl (by kernel_rfl) (by kernel_rfl) (by kernel_rfl) (fun _ _ _ h => h) (Or.inl ⟨by rfl, ?_⟩) hHeld ?_
  rotate_left
  · intro w hSw; (try dsimp only at hSw); go_simp <;> with_reducible rfl
  try simp only [Act.put, List.setIfInBounds_toArray, List.set_cons_zero, List.set_cons_succ]
  refine wpAnyH_take (i := 3) (oi := { dst := some 60, op := Go.Op.load 37 (Go.Operand.tmp 7), type := 37, pos := "law.go:128", after := #[{ on := 2, ground := Go.Ground.guard }], guard := some (2, false) }) (v := undef) rfl (by kernel_rfl) (by kernel_rfl) (by kernel_rfl) (fun _ _ _ h => h) (Or.inr ⟨by rfl, rfl⟩) hHeld ?_
  try simp only [Act.put, List.setIfInBounds_toArray, List.set_cons_zero, List.set_cons_succ]
  refine wpAnyH_take (i := 4) (oi := { dst := some 61, op := Go.Op.call { callee := Go.Callee.value (Go.Operand.func 46), args := #[Go.Operand.tmp 60], argTypes := #[37] }, type := 2, pos := "law.go:128", after := #[{ on := 3, ground := Go.Ground.data }, { on := 2, ground := Go.Ground.chain }, { on := 2, ground := Go.Ground.guard }], guard := some (2, false) }) (v := undef) rfl (by kernel_rfl) (by kernel_rfl) (by kernel_rfl) (fun _ _ _ h => h) (Or.inr ⟨by rfl, rfl⟩) hHeld ?_
  try simp only [Act.put, List.setIfInBounds_toArray, List.set_cons_zero, List.set_cons_succ]
  refine wpAnyH_take (i := 5) (oi := { dst := some 62, op := Go.Op.load 37 (Go.Operand.tmp 8), type := 37, pos := "law.go:128", after := #[{ on := 2, ground := Go.Ground.guard }], guard := some (2, false) }) (v := undef) rfl (by kernel_rfl) (by kernel_rfl) (by kernel_rfl) (fun _ _ _ h => h) (Or.inr ⟨by rfl, rfl⟩) hHeld ?_
  try simp only [Act.put, List.setIfInBounds_toArray, List.set_cons_zero, List.set_cons_succ]
  refine wpAnyH_take (i := 6) (oi := { dst := some 63, op := Go.Op.call { callee := Go.Callee.value (Go.Operand.func 46), args := #[Go.Operand.tmp 62], argTypes := #[37] }, type := 2, pos := "law.go:128", after := #[{ on := 5, ground := Go.Ground.data }, { on := 4, ground := Go.Ground.chain }, { on := 2, ground := Go.Ground.guard }], guard := some (2, false) }) (v := undef) rfl (by kernel_rfl) (by kernel_rfl) (by kernel_rfl) (fun _ _ _ h => h) (Or.inr ⟨by rfl, rfl⟩) hHeld ?_
  try simp only [Act.put, List.setIfInBounds_toArray, List.set_cons_zero, List.set_cons_succ]
  refine wpAnyH_take (i := 7) (oi := { dst := some 64, op := Go.Op.binOp Go.BinOp.add 2 (Go.Operand.tmp 61) (Go.Operand.tmp 63) 2, type := 2, pos := "law.go:128", after := #[{ on := 4, ground := Go.Ground.data }, { on := 6, ground := Go.Ground.data }, { on := 2, ground := Go.Ground.guard }], guard := some (2, false) }) (v := undef) rfl (by kernel_rfl) (by kernel_rfl) (by kernel_rfl) (fun _ _ _ h => h) (Or.inr ⟨by rfl, rfl⟩) hHeld ?_
  try simp only [Act.put, List.setIfInBounds_toArray, List.set_cons_zero, List.set_cons_succ]
  refine wpAnyH_take (i := 8) (oi := { dst := some 65, op := Go.Op.move (Go.Operand.tmp 11), type := 2, pos := "law.go:128", after := #[{ on := 2, ground := Go.Ground.guard }], guard := some (2, false) }) (v := undef) rfl (by kernel_rfl) (by kernel_rfl) (by kernel_rfl) (fun _ _ _ h => h) (Or.inr ⟨by rfl, rfl⟩) hHeld ?_
  try simp only [Act.put, List.setIfInBounds_toArray, List.set_cons_zero, List.set_cons_succ]
  refine wpAnyH_take (i := 9) (oi := { dst := some 66, op := Go.Op.binOp Go.BinOp.eql 2 (Go.Operand.tmp 64) (Go.Operand.tmp 65) 2, type := 4, pos := "law.go:128", after := #[{ on := 7, ground := Go.Ground.data }, { on := 8, ground := Go.Ground.data }, { on := 2, ground := Go.Ground.guard }], guard := some (2, false) }) (v := undef) rfl (by kernel_rfl) (by kernel_rfl) (by kernel_rfl) (fun _ _ _ h => h) (Or.inr ⟨by rfl, rfl⟩) hHeld ?_
  try simp only [Act.put, List.setIfInBounds_toArray, List.set_cons_zero, List.set_cons_succ]
  refine wpAnyH_take (i := 10) (oi := { dst := some 67, op := Go.Op.pick (Go.Operand.tmp 59) (Go.Operand.const (Go.Value.bool true)) (Go.Operand.tmp 66), type := 4, pos := "law.go:128", after := #[{ on := 2, ground := Go.Ground.data }, { on := 9, ground := Go.Ground.data }], guard := none }) (v := ?_) rfl (by kernel_rfl) (by kernel_rfl) (by kernel_rfl) (fun _ _ _ h => h) (Or.inl ⟨by rfl, ?_⟩) hHeld ?_
  rotate_left
  · intro w hSw; (try dsimp only at hSw); go_simp <;> with_reducible rfl
  try simp only [Act.put, List.setIfInBounds_toArray, List.set_cons_zero, List.set_cons_succ]
  refine wpAnyH_take (i := 11) (oi := { dst := some 68, op := Go.Op.move (Go.Operand.tmp 67), type := 4, pos := "law.go:128", after := #[{ on := 10, ground := Go.Ground.data }, { on := 6, ground := Go.Ground.chain }], guard := none }) (v := ?_) rfl (by kernel_rfl) (by kernel_rfl) (by kernel_rfl) (fun _ _ _ h => h) (Or.inl ⟨by rfl, ?_⟩) hHeld ?_
  rotate_left
  · intro w hSw; (try dsimp only at hSw); go_simp <;> with_reducible rfl
  try simp only [Act.put, List.setIfInBounds_toArray, List.set_cons_zero, List.set_cons_succ]
  refine wpAnyH_ready (rs := [12]) (by kernel_rfl) (by simp) ?_
  refine AllReadyH.cons rfl (fun K hK => ?_) AllReadyH.nil
  go_simp
  refine (k32 _ (HBW.out _ hB0)).mono ?_
  rintro e w19 ⟨rfl, hb9'⟩
  have hb9 : Below w7.heap.size w7 w19 := hB0.trans (hb9'.mono hB0.size)
  refine hK.out _ _ (HK _ hb9) (fun hHeld2 => ?_)
  clear hK K hHeld
  have hHeld := hHeld2
  clear hHeld2
  try simp only [Act.put, List.setIfInBounds_toArray, List.set_cons_zero, List.set_cons_succ]
  refine wpAnyH_take (i := 13) (oi := { dst := some 70, op := Go.Op.pick (Go.Operand.tmp 68) (Go.Operand.tmp 69) (Go.Operand.const (Go.Value.bool false)), type := 4, pos := "law.go:128", after := #[{ on := 11, ground := Go.Ground.data }, { on := 12, ground := Go.Ground.data }], guard := none }) (v := ?_) rfl (by kernel_rfl) (by kernel_rfl) (by kernel_rfl) (fun _ _ _ h => h) (Or.inl ⟨by rfl, ?_⟩) hHeld ?_
  rotate_left
  · intro w hSw; (try dsimp only at hSw); go_simp <;> with_reducible rfl
  try simp only [Act.put, List.setIfInBounds_toArray, List.set_cons_zero, List.set_cons_succ]
  refine wpAnyH_take (i := 14) (oi := { dst := some 6, op := Go.Op.assign (Go.Operand.tmp 70), type := 4, pos := "law.go:128", after := #[{ on := 13, ground := Go.Ground.data }, { on := 12, ground := Go.Ground.chain }, { on := 0, ground := Go.Ground.phase }, { on := 1, ground := Go.Ground.phase }, { on := 2, ground := Go.Ground.phase }, { on := 3, ground := Go.Ground.phase }, { on := 4, ground := Go.Ground.phase }, { on := 5, ground := Go.Ground.phase }, { on := 6, ground := Go.Ground.phase }, { on := 7, ground := Go.Ground.phase }, { on := 8, ground := Go.Ground.phase }, { on := 9, ground := Go.Ground.phase }, { on := 10, ground := Go.Ground.phase }, { on := 11, ground := Go.Ground.phase }, { on := 12, ground := Go.Ground.phase }, { on := 13, ground := Go.Ground.phase }], guard := none }) (v := ?_) rfl (by kernel_rfl) (by kernel_rfl) (by kernel_rfl) (fun _ _ _ h => h) (Or.inl ⟨by rfl, ?_⟩) hHeld ?_
  rotate_left
  · intro w hSw; (try dsimp only at hSw); go_simp <;> with_reducible rfl
  try simp only [Act.put, List.setIfInBounds_toArray, List.set_cons_zero, List.set_cons_succ]
  refine wpAnyH_done (by kernel_rfl) ?_ _
  go_wp2
  go_ret
  exact ⟨rfl, HBW.out _ hb9⟩

set_option maxRecDepth 100000 in
set_option maxHeartbeats 4000000 in
theorem parts_010 (v : Value) (d : SD) (x : Int) (s : Value) (l : List Int) (W : World) (h : Di W v d) (hl : Si W s l) (hM : MaxL W) (hE : ErrV W) (hT : Tens W.heap.size W) (hH : hasD d l = false) (hI : (tkS l).contains x = true) (hn : ¬ 2305843009213693952 ≤ countD d) :
    Calls Tryz.prog 7 #[v, .int .i64 x, s] W fun e w' => e = .returned (.bool true) ∧ Below W.heap.size W w' := by
  have hM0 := hM.1
  have HM : Hid (MaxL W) := hM
  have HE' : Hid (ErrV W) := hE
  have HT : Hid (Tens W.heap.size W) := hT
  have k32 := fun X (hX : Below W.heap.size W X) => known32 X (HM.out.below hX hM0) (HE'.out.below hX (by omega)) (Tens.here HT.out hX)
  have k50 := fun X (hX : Below W.heap.size W X) => must_look v d x X (h.below hX)
  have k51 := fun X (hX : Below W.heap.size W X) => not_look v d x X (h.below hX)
  have k44 := fun X (hX : Below W.heap.size W X) => has_any v s d l X (h.below hX) (hl.below hX)
  have k44a := fun u X (hX : Below W.heap.size W X) (hu : Di X u (mustD d x)) => has_any u s (mustD d x) l X hu (hl.below hX)
  have k44b := fun u X (hX : Below W.heap.size W X) (hu : Di X u (notD d x)) => has_any u s (notD d x) l X hu (hl.below hX)
  have k25 := fun X (hX : Below W.heap.size W X) => in_any x s l X (hl.below hX)
  have k46 := fun X (hX : Below W.heap.size W X) => count_any v d X (h.below hX)
  have k46a := fun u X (hu : Di X u (mustD d x)) => count_any u (mustD d x) X hu
  have k46b := fun u X (hu : Di X u (notD d x)) => count_any u (notD d x) X hu
  simp only [must_b, not_b, hH, hI, Bool.true_and, Bool.false_and, Bool.not_true, Bool.not_false] at k44 k44a k44b k25
  obtain ⟨hp1, hp2, hp3⟩ := parts_count d x (by omega)
  generalize countD (mustD d x) = ca at k46a hp1 hp2
  generalize countD (notD d x) = cb at k46b hp1 hp3
  generalize countD d = cn at *
  have hle : decide (2305843009213693952 ≤ cn) = false := by simp; omega
  have hsum : IntKind.i64.wrap (ca + cb) = cn := by rw [IntKind.wrap_i64]; omega
  clear hp1 hp2 hp3
  obtain ⟨x0, ra, rn, rc, a1, n1, c1, a2, n2, c2, x4, x5, rfl, HE, HLO, HUP⟩ := h.look
  obtain ⟨sa, ns, cs', rfl, HSL, HNL⟩ := si_look hl
  obtain ⟨W0, hW0⟩ : ∃ X, W.alloc (Obj.cells #[.bool x0, .slice ra rn rc, .slice a1 n1 c1, .slice a2 n2 c2, .int .i64 x4, .int .i64 x5] 37) = X := ⟨_, rfl⟩
  have HW0 : Hid _ := hW0
  have hb0 : Below W.heap.size W W0 := by rw [← hW0]; exact (Below.refl _ W).alloc (Nat.le_refl _) _
  have HR0 : Hid (R6 W0 W.heap.size (.bool x0) (.slice ra rn rc) (.slice a1 n1 c1) (.slice a2 n2 c2) (.int .i64 x4) (.int .i64 x5)) := by rw [← hW0]; exact R6.new _ _ _ _ _ _ _
  clear hW0 h hl HE HLO HUP HSL HNL hM hE hT hH hI
  go_enter Tryz.func7, Tryz.ntmps7
  go_upto_region 1 with (fail)
  rw [HW0.out]
  obtain ⟨z0, z1, z2, z3, z4, z5⟩ := HR0.out.cells
  go_wp2_with fail
  refine (k50 W0 hb0).mono ?_
  rintro e w0 ⟨y0a, p1a, m1a, k1a, p2a, m2a, k2a, y4a, y5a, rfl, HDa, hb⟩
  have hc0 : Below W.heap.size W w0 := hb0.trans (hb.mono hb0.size)
  have hz := below_setRow ((Below.refl w0.heap.size w0).alloc (Nat.le_refl _) (Obj.cells #[.bool false, .slice none 0 0, .slice none 0 0, .slice none 0 0, .int .i64 0, .int .i64 0] 37)) (Nat.le_refl w0.heap.size) #[.bool y0a, .slice none 0 0, .slice p1a m1a k1a, .slice p2a m2a k2a, .int .i64 y4a, .int .i64 y5a]
  have hb1 := hc0.trans (hz.mono hc0.size)
  have HGa : Hid _ := (R6.new w0 (.bool false) (.slice none 0 0) (.slice none 0 0) (.slice none 0 0) (.int .i64 0) (.int .i64 0)).set (.bool y0a) (.slice none 0 0) (.slice p1a m1a k1a) (.slice p2a m2a k2a) (.int .i64 y4a) (.int .i64 y5a)
  have HR1 : Hid _ := (HR0.out.below hb).below hz
  have HDia : Hid (Di ((w0.alloc (Obj.cells #[.bool false, .slice none 0 0, .slice none 0 0, .slice none 0 0, .int .i64 0, .int .i64 0] 37)).setRow w0.heap.size #[.bool y0a, .slice none 0 0, .slice p1a m1a k1a, .slice p2a m2a k2a, .int .i64 y4a, .int .i64 y5a]) (.agg #[.bool y0a, .slice none 0 0, .slice p1a m1a k1a, .slice p2a m2a k2a, .int .i64 y4a, .int .i64 y5a]) (mustD d x)) := HDa.out.below hz
  clear hb0 HR0 HDa hb hc0 hz z0 z1 z2 z3 z4 z5
  go_upto_region 2 with (with_reducible refine st37 rfl (.tmp 7) (.tmp 14) rfl w0.heap.size _ _ _ _ _ _ (by with_unfolding_all rfl) (by with_unfolding_all rfl) (R6.new w0 _ _ _ _ _ _) (six_dom _ _ _ _ _ _ _ _ _ _ _ _) ?_)
  simp only [Act.put]
  generalize (w0.alloc (Obj.cells #[.bool false, .slice none 0 0, .slice none 0 0, .slice none 0 0, .int .i64 0, .int .i64 0] 37)).setRow w0.heap.size #[.bool y0a, .slice none 0 0, .slice p1a m1a k1a, .slice p2a m2a k2a, .int .i64 y4a, .int .i64 y5a] = W1 at hb1 HGa HR1 HDia ⊢
  generalize w0.heap.size = Ga at HGa ⊢
  obtain ⟨z0, z1, z2, z3, z4, z5⟩ := HR1.out.cells
  go_wp2_with fail
  refine (k51 W1 hb1).mono ?_
  rintro e w1 ⟨y0b, p1b, m1b, k1b, p2b, m2b, k2b, y4b, y5b, rfl, HDb, hb⟩
  have hc1 : Below W.heap.size W w1 := hb1.trans (hb.mono hb1.size)
  have hz := below_setRow ((Below.refl w1.heap.size w1).alloc (Nat.le_refl _) (Obj.cells #[.bool false, .slice none 0 0, .slice none 0 0, .slice none 0 0, .int .i64 0, .int .i64 0] 37)) (Nat.le_refl w1.heap.size) #[.bool y0b, .slice none 0 0, .slice p1b m1b k1b, .slice p2b m2b k2b, .int .i64 y4b, .int .i64 y5b]
  have hb2 := hc1.trans (hz.mono hc1.size)
  have HGb : Hid _ := (R6.new w1 (.bool false) (.slice none 0 0) (.slice none 0 0) (.slice none 0 0) (.int .i64 0) (.int .i64 0)).set (.bool y0b) (.slice none 0 0) (.slice p1b m1b k1b) (.slice p2b m2b k2b) (.int .i64 y4b) (.int .i64 y5b)
  have HR2 : Hid _ := (HR1.out.below hb).below hz
  have HDib : Hid (Di ((w1.alloc (Obj.cells #[.bool false, .slice none 0 0, .slice none 0 0, .slice none 0 0, .int .i64 0, .int .i64 0] 37)).setRow w1.heap.size #[.bool y0b, .slice none 0 0, .slice p1b m1b k1b, .slice p2b m2b k2b, .int .i64 y4b, .int .i64 y5b]) (.agg #[.bool y0b, .slice none 0 0, .slice p1b m1b k1b, .slice p2b m2b k2b, .int .i64 y4b, .int .i64 y5b]) (notD d x)) := HDb.out.below hz
  have HGan : Hid _ := (HGa.out.below hb).below hz
  have HDian : Hid (Di ((w1.alloc (Obj.cells #[.bool false, .slice none 0 0, .slice none 0 0, .slice none 0 0, .int .i64 0, .int .i64 0] 37)).setRow w1.heap.size #[.bool y0b, .slice none 0 0, .slice p1b m1b k1b, .slice p2b m2b k2b, .int .i64 y4b, .int .i64 y5b]) (.agg #[.bool y0a, .slice none 0 0, .slice p1a m1a k1a, .slice p2a m2a k2a, .int .i64 y4a, .int .i64 y5a]) (mustD d x)) := (HDia.out.below hb).below hz
  clear hb1 HR1 HDb hb hc1 hz z0 z1 z2 z3 z4 z5 HGa HDia
  go_upto_region 3 with (with_reducible refine st37 rfl (.tmp 8) (.tmp 17) rfl w1.heap.size _ _ _ _ _ _ (by with_unfolding_all rfl) (by with_unfolding_all rfl) (R6.new w1 _ _ _ _ _ _) (six_dom _ _ _ _ _ _ _ _ _ _ _ _) ?_)
  simp only [Act.put]
  generalize (w1.alloc (Obj.cells #[.bool false, .slice none 0 0, .slice none 0 0, .slice none 0 0, .int .i64 0, .int .i64 0] 37)).setRow w1.heap.size #[.bool y0b, .slice none 0 0, .slice p1b m1b k1b, .slice p2b m2b k2b, .int .i64 y4b, .int .i64 y5b] = W2 at hb2 HGb HR2 HDib HGan HDian ⊢
  generalize w1.heap.size = Gb at HGb ⊢
  obtain ⟨z0, z1, z2, z3, z4, z5⟩ := HR2.out.cells
  obtain ⟨e0, e1, e2, e3, e4, e5⟩ := HGan.out.cells
  obtain ⟨f0, f1, f2, f3, f4, f5⟩ := HGb.out.cells
  go_wp2_with fail
  refine (k44a _ W2 hb2 HDian.out).mono ?_
  rintro e w3 ⟨rfl, hb⟩
  have hb3 : Below W.heap.size W w3 := hb2.trans (hb.mono hb2.size)
  have HRn3 : Hid _ := HR2.out.below hb
  have HGa3 : Hid _ := HGan.out.below hb
  have HGb3 : Hid _ := HGb.out.below hb
  have HDa3 : Hid (Di w3 (.agg #[.bool y0a, .slice none 0 0, .slice p1a m1a k1a, .slice p2a m2a k2a, .int .i64 y4a, .int .i64 y5a]) (mustD d x)) := HDian.out.below hb
  have HDb3 : Hid (Di w3 (.agg #[.bool y0b, .slice none 0 0, .slice p1b m1b k1b, .slice p2b m2b k2b, .int .i64 y4b, .int .i64 y5b]) (notD d x)) := HDib.out.below hb
  clear hb hb2 HR2 HGan HGb HDian HDib z0 z1 z2 z3 z4 z5 e0 e1 e2 e3 e4 e5 f0 f1 f2 f3 f4 f5
  obtain ⟨z0, z1, z2, z3, z4, z5⟩ := HRn3.out.cells
  obtain ⟨e0, e1, e2, e3, e4, e5⟩ := HGa3.out.cells
  obtain ⟨f0, f1, f2, f3, f4, f5⟩ := HGb3.out.cells
  go_wp2_with fail
  refine (k44b _ w3 hb3 HDb3.out).mono ?_
  rintro e w4 ⟨rfl, hb⟩
  have hb4 : Below W.heap.size W w4 := hb3.trans (hb.mono hb3.size)
  have HRn4 : Hid _ := HRn3.out.below hb
  have HGa4 : Hid _ := HGa3.out.below hb
  have HGb4 : Hid _ := HGb3.out.below hb
  have HDa4 : Hid (Di w4 (.agg #[.bool y0a, .slice none 0 0, .slice p1a m1a k1a, .slice p2a m2a k2a, .int .i64 y4a, .int .i64 y5a]) (mustD d x)) := HDa3.out.below hb
  have HDb4 : Hid (Di w4 (.agg #[.bool y0b, .slice none 0 0, .slice p1b m1b k1b, .slice p2b m2b k2b, .int .i64 y4b, .int .i64 y5b]) (notD d x)) := HDb3.out.below hb
  clear hb hb3 HRn3 HGa3 HGb3 HDa3 HDb3 z0 z1 z2 z3 z4 z5 e0 e1 e2 e3 e4 e5 f0 f1 f2 f3 f4 f5
  obtain ⟨z0, z1, z2, z3, z4, z5⟩ := HRn4.out.cells
  obtain ⟨e0, e1, e2, e3, e4, e5⟩ := HGa4.out.cells
  obtain ⟨f0, f1, f2, f3, f4, f5⟩ := HGb4.out.cells
  go_wp2_with fail
  refine (k44 w4 hb4).mono ?_
  rintro e w5 ⟨rfl, hb⟩
  have hb5 : Below W.heap.size W w5 := hb4.trans (hb.mono hb4.size)
  have HRn5 : Hid _ := HRn4.out.below hb
  have HGa5 : Hid _ := HGa4.out.below hb
  have HGb5 : Hid _ := HGb4.out.below hb
  have HDa5 : Hid (Di w5 (.agg #[.bool y0a, .slice none 0 0, .slice p1a m1a k1a, .slice p2a m2a k2a, .int .i64 y4a, .int .i64 y5a]) (mustD d x)) := HDa4.out.below hb
  have HDb5 : Hid (Di w5 (.agg #[.bool y0b, .slice none 0 0, .slice p1b m1b k1b, .slice p2b m2b k2b, .int .i64 y4b, .int .i64 y5b]) (notD d x)) := HDb4.out.below hb
  clear hb hb4 HRn4 HGa4 HGb4 HDa4 HDb4 z0 z1 z2 z3 z4 z5 e0 e1 e2 e3 e4 e5 f0 f1 f2 f3 f4 f5
  obtain ⟨z0, z1, z2, z3, z4, z5⟩ := HRn5.out.cells
  obtain ⟨e0, e1, e2, e3, e4, e5⟩ := HGa5.out.cells
  obtain ⟨f0, f1, f2, f3, f4, f5⟩ := HGb5.out.cells
  go_wp2_with fail
  refine (k46 w5 hb5).mono ?_
  rintro e w6 ⟨rfl, hb⟩
  have hb6 : Below W.heap.size W w6 := hb5.trans (hb.mono hb5.size)
  have HRn6 : Hid _ := HRn5.out.below hb
  have HGa6 : Hid _ := HGa5.out.below hb
  have HGb6 : Hid _ := HGb5.out.below hb
  have HDa6 : Hid (Di w6 (.agg #[.bool y0a, .slice none 0 0, .slice p1a m1a k1a, .slice p2a m2a k2a, .int .i64 y4a, .int .i64 y5a]) (mustD d x)) := HDa5.out.below hb
  have HDb6 : Hid (Di w6 (.agg #[.bool y0b, .slice none 0 0, .slice p1b m1b k1b, .slice p2b m2b k2b, .int .i64 y4b, .int .i64 y5b]) (notD d x)) := HDb5.out.below hb
  clear hb hb5 HRn5 HGa5 HGb5 HDa5 HDb5 z0 z1 z2 z3 z4 z5 e0 e1 e2 e3 e4 e5 f0 f1 f2 f3 f4 f5
  obtain ⟨z0, z1, z2, z3, z4, z5⟩ := HRn6.out.cells
  obtain ⟨e0, e1, e2, e3, e4, e5⟩ := HGa6.out.cells
  obtain ⟨f0, f1, f2, f3, f4, f5⟩ := HGb6.out.cells
  go_upto_region 8 with (fail)
  have HK : ∀ X, Below w6.heap.size w6 X → X.cell? ⟨Ga, 0, none⟩ = some (.bool y0a) ∧ X.cell? ⟨Ga, 1, none⟩ = some (.slice none 0 0) ∧ X.cell? ⟨Ga, 2, none⟩ = some (.slice p1a m1a k1a) ∧ X.cell? ⟨Ga, 3, none⟩ = some (.slice p2a m2a k2a) ∧ X.cell? ⟨Ga, 4, none⟩ = some (.int .i64 y4a) ∧ X.cell? ⟨Ga, 5, none⟩ = some (.int .i64 y5a) ∧ X.cell? ⟨Gb, 0, none⟩ = some (.bool y0b) ∧ X.cell? ⟨Gb, 1, none⟩ = some (.slice none 0 0) ∧ X.cell? ⟨Gb, 2, none⟩ = some (.slice p1b m1b k1b) ∧ X.cell? ⟨Gb, 3, none⟩ = some (.slice p2b m2b k2b) ∧ X.cell? ⟨Gb, 4, none⟩ = some (.int .i64 y4b) ∧ X.cell? ⟨Gb, 5, none⟩ = some (.int .i64 y5b) := fun X hX => by
    obtain ⟨c0, c1, c2, c3, c4, c5⟩ := (HGa6.out.below hX).cells
    obtain ⟨d0, d1, d2, d3, d4, d5⟩ := (HGb6.out.below hX).cells
    exact ⟨c0, c1, c2, c3, c4, c5, d0, d1, d2, d3, d4, d5⟩
  have HDA : Hid (∀ X, Below w6.heap.size w6 X → Di X (.agg #[.bool y0a, .slice none 0 0, .slice p1a m1a k1a, .slice p2a m2a k2a, .int .i64 y4a, .int .i64 y5a]) (mustD d x)) := fun X hX => HDa6.out.below hX
  have HDB : Hid (∀ X, Below w6.heap.size w6 X → Di X (.agg #[.bool y0b, .slice none 0 0, .slice p1b m1b k1b, .slice p2b m2b k2b, .int .i64 y4b, .int .i64 y5b]) (notD d x)) := fun X hX => HDb6.out.below hX
  have HBW : Hid (∀ X, Below w6.heap.size w6 X → Below W.heap.size W X) := fun X hX => hb6.trans (hX.mono hb6.size)
  have hB0 : Below w6.heap.size w6 w6.drew := Below.drew (Below.refl _ _)
  clear HRn6 HGa6 HGb6 HDa6 HDb6 z0 z1 z2 z3 z4 z5 e0 e1 e2 e3 e4 e5 f0 f1 f2 f3 f4 f5
  refine wp_region_held_drew (S := (fun X => X.cell? ⟨Ga, 0, none⟩ = some (.bool y0a) ∧ X.cell? ⟨Ga, 1, none⟩ = some (.slice none 0 0) ∧ X.cell? ⟨Ga, 2, none⟩ = some (.slice p1a m1a k1a) ∧ X.cell? ⟨Ga, 3, none⟩ = some (.slice p2a m2a k2a) ∧ X.cell? ⟨Ga, 4, none⟩ = some (.int .i64 y4a) ∧ X.cell? ⟨Ga, 5, none⟩ = some (.int .i64 y5a) ∧ X.cell? ⟨Gb, 0, none⟩ = some (.bool y0b) ∧ X.cell? ⟨Gb, 1, none⟩ = some (.slice none 0 0) ∧ X.cell? ⟨Gb, 2, none⟩ = some (.slice p1b m1b k1b) ∧ X.cell? ⟨Gb, 3, none⟩ = some (.slice p2b m2b k2b) ∧ X.cell? ⟨Gb, 4, none⟩ = some (.int .i64 y4b) ∧ X.cell? ⟨Gb, 5, none⟩ = some (.int .i64 y5b))) (by kernel_rfl) (HK _ hB0) (fun hHeld => ?_)
  refine wpAnyH_take (i := 0) (oi := { dst := some 57, op := Go.Op.move (Go.Operand.tmp 11), type := 2, pos := "law.go:128", after := #[], guard := none }) (v := ?_) rfl (by kernel_rfl) (by kernel_rfl) (by kernel_rfl) (fun _ _ _ h => h) (Or.inl ⟨by rfl, ?_⟩) hHeld ?_
  rotate_left
  · intro w hSw; (try dsimp only at hSw); go_simp <;> with_reducible rfl
  try simp only [Act.put, List.setIfInBounds_toArray, List.set_cons_zero, List.set_cons_succ]
  refine wpAnyH_take (i := 1) (oi := { dst := some 58, op := Go.Op.binOp Go.BinOp.geq 2 (Go.Operand.tmp 57) (Go.Operand.const (Go.Value.int Go.IntKind.i64 2305843009213693952)) 2, type := 4, pos := "law.go:128", after := #[{ on := 0, ground := Go.Ground.data }], guard := none }) (v := ?_) rfl (by kernel_rfl) (by kernel_rfl) (by kernel_rfl) (fun _ _ _ h => h) (Or.inl ⟨by rfl, ?_⟩) hHeld ?_
  rotate_left
  · intro w hSw; (try dsimp only at hSw); go_simp <;> with_reducible rfl
  try simp only [Act.put, List.setIfInBounds_toArray, List.set_cons_zero, List.set_cons_succ]
  refine wpAnyH_take (i := 2) (oi := { dst := some 59, op := Go.Op.move (Go.Operand.tmp 58), type := 4, pos := "law.go:128", after := #[{ on := 1, ground := Go.Ground.data }], guard := none }) (v := ?_) rfl (by kernel_rfl) (by kernel_rfl) (by kernel_rfl) (fun _ _ _ h => h) (Or.inl ⟨by rfl, ?_⟩) hHeld ?_
  rotate_left
  · intro w hSw; (try dsimp only at hSw); go_simp <;> with_reducible rfl
  try simp only [Act.put, List.setIfInBounds_toArray, List.set_cons_zero, List.set_cons_succ]
  refine wpAnyH_take (i := 3) (oi := { dst := some 60, op := Go.Op.load 37 (Go.Operand.tmp 7), type := 37, pos := "law.go:128", after := #[{ on := 2, ground := Go.Ground.guard }], guard := some (2, false) }) (v := ?_) rfl (by kernel_rfl) (by kernel_rfl) (by kernel_rfl) (fun _ _ _ h => h) (Or.inl ⟨by rfl, ?_⟩) hHeld ?_
  rotate_left
  · intro w hSw; (try dsimp only at hSw); go_simp <;> with_reducible rfl
  try simp only [Act.put, List.setIfInBounds_toArray, List.set_cons_zero, List.set_cons_succ]
  refine wpAnyH_take (i := 5) (oi := { dst := some 62, op := Go.Op.load 37 (Go.Operand.tmp 8), type := 37, pos := "law.go:128", after := #[{ on := 2, ground := Go.Ground.guard }], guard := some (2, false) }) (v := ?_) rfl (by kernel_rfl) (by kernel_rfl) (by kernel_rfl) (fun _ _ _ h => h) (Or.inl ⟨by rfl, ?_⟩) hHeld ?_
  rotate_left
  · intro w hSw; (try dsimp only at hSw); go_simp <;> with_reducible rfl
  try simp only [Act.put, List.setIfInBounds_toArray, List.set_cons_zero, List.set_cons_succ]
  refine wpAnyH_take (i := 8) (oi := { dst := some 65, op := Go.Op.move (Go.Operand.tmp 11), type := 2, pos := "law.go:128", after := #[{ on := 2, ground := Go.Ground.guard }], guard := some (2, false) }) (v := ?_) rfl (by kernel_rfl) (by kernel_rfl) (by kernel_rfl) (fun _ _ _ h => h) (Or.inl ⟨by rfl, ?_⟩) hHeld ?_
  rotate_left
  · intro w hSw; (try dsimp only at hSw); go_simp <;> with_reducible rfl
  try simp only [Act.put, List.setIfInBounds_toArray, List.set_cons_zero, List.set_cons_succ]
  refine wpAnyH_ready (rs := [4]) (by kernel_rfl) (by simp) ?_
  refine AllReadyH.cons rfl (fun K hK => ?_) AllReadyH.nil
  go_simp
  refine (k46a _ _ (HDA.out _ hB0)).mono ?_
  rintro e w17 ⟨rfl, hb7'⟩
  have hb7 : Below w6.heap.size w6 w17 := hB0.trans (hb7'.mono hB0.size)
  refine hK.out _ _ (HK _ hb7) (fun hHeld2 => ?_)
  clear hK K hHeld
  have hHeld := hHeld2
  clear hHeld2
  try simp only [Act.put, List.setIfInBounds_toArray, List.set_cons_zero, List.set_cons_succ]
  refine wpAnyH_ready (rs := [6]) (by kernel_rfl) (by simp) ?_
  refine AllReadyH.cons rfl (fun K hK => ?_) AllReadyH.nil
  go_simp
  refine (k46b _ _ (HDB.out _ hb7)).mono ?_
  rintro e w18 ⟨rfl, hb8'⟩
  have hb8 : Below w6.heap.size w6 w18 := hb7.trans (hb8'.mono hb7.size)
  refine hK.out _ _ (HK _ hb8) (fun hHeld2 => ?_)
  clear hK K hHeld
  have hHeld := hHeld2
  clear hHeld2
  try simp only [Act.put, List.setIfInBounds_toArray, List.set_cons_zero, List.set_cons_succ]
  refine wpAnyH_take (i := 7) (oi := { dst := some 64, op := Go.Op.binOp Go.BinOp.add 2 (Go.Operand.tmp 61) (Go.Operand.tmp 63) 2, type := 2, pos := "law.go:128", after := #[{ on := 4, ground := Go.Ground.data }, { on := 6, ground := Go.Ground.data }, { on := 2, ground := Go.Ground.guard }], guard := some (2, false) }) (v := ?_) rfl (by kernel_rfl) (by kernel_rfl) (by kernel_rfl) (fun _ _ _ h => h) (Or.inl ⟨by rfl, ?_⟩) hHeld ?_
  rotate_left
  · intro w hSw; (try dsimp only at hSw); go_simp <;> with_reducible rfl
  try simp only [Act.put, List.setIfInBounds_toArray, List.set_cons_zero, List.set_cons_succ]
  refine wpAnyH_take (i := 9) (oi := { dst := some 66, op := Go.Op.binOp Go.BinOp.eql 2 (Go.Operand.tmp 64) (Go.Operand.tmp 65) 2, type := 4, pos := "law.go:128", after := #[{ on := 7, ground := Go.Ground.data }, { on := 8, ground := Go.Ground.data }, { on := 2, ground := Go.Ground.guard }], guard := some (2, false) }) (v := ?_) rfl (by kernel_rfl) (by kernel_rfl) (by kernel_rfl) (fun _ _ _ h => h) (Or.inl ⟨by rfl, ?_⟩) hHeld ?_
  rotate_left
  · intro w hSw; (try dsimp only at hSw); go_simp <;> with_reducible rfl
  try simp only [Act.put, List.setIfInBounds_toArray, List.set_cons_zero, List.set_cons_succ]
  refine wpAnyH_take (i := 10) (oi := { dst := some 67, op := Go.Op.pick (Go.Operand.tmp 59) (Go.Operand.const (Go.Value.bool true)) (Go.Operand.tmp 66), type := 4, pos := "law.go:128", after := #[{ on := 2, ground := Go.Ground.data }, { on := 9, ground := Go.Ground.data }], guard := none }) (v := ?_) rfl (by kernel_rfl) (by kernel_rfl) (by kernel_rfl) (fun _ _ _ h => h) (Or.inl ⟨by rfl, ?_⟩) hHeld ?_
  rotate_left
  · intro w hSw; (try dsimp only at hSw); go_simp <;> with_reducible rfl
  try simp only [Act.put, List.setIfInBounds_toArray, List.set_cons_zero, List.set_cons_succ]
  refine wpAnyH_take (i := 11) (oi := { dst := some 68, op := Go.Op.move (Go.Operand.tmp 67), type := 4, pos := "law.go:128", after := #[{ on := 10, ground := Go.Ground.data }, { on := 6, ground := Go.Ground.chain }], guard := none }) (v := ?_) rfl (by kernel_rfl) (by kernel_rfl) (by kernel_rfl) (fun _ _ _ h => h) (Or.inl ⟨by rfl, ?_⟩) hHeld ?_
  rotate_left
  · intro w hSw; (try dsimp only at hSw); go_simp <;> with_reducible rfl
  try simp only [Act.put, List.setIfInBounds_toArray, List.set_cons_zero, List.set_cons_succ]
  refine wpAnyH_ready (rs := [12]) (by kernel_rfl) (by simp) ?_
  refine AllReadyH.cons rfl (fun K hK => ?_) AllReadyH.nil
  go_simp
  refine (k32 _ (HBW.out _ hb8)).mono ?_
  rintro e w19 ⟨rfl, hb9'⟩
  have hb9 : Below w6.heap.size w6 w19 := hb8.trans (hb9'.mono hb8.size)
  refine hK.out _ _ (HK _ hb9) (fun hHeld2 => ?_)
  clear hK K hHeld
  have hHeld := hHeld2
  clear hHeld2
  try simp only [Act.put, List.setIfInBounds_toArray, List.set_cons_zero, List.set_cons_succ]
  refine wpAnyH_take (i := 13) (oi := { dst := some 70, op := Go.Op.pick (Go.Operand.tmp 68) (Go.Operand.tmp 69) (Go.Operand.const (Go.Value.bool false)), type := 4, pos := "law.go:128", after := #[{ on := 11, ground := Go.Ground.data }, { on := 12, ground := Go.Ground.data }], guard := none }) (v := ?_) rfl (by kernel_rfl) (by kernel_rfl) (by kernel_rfl) (fun _ _ _ h => h) (Or.inl ⟨by rfl, ?_⟩) hHeld ?_
  rotate_left
  · intro w hSw; (try dsimp only at hSw); go_simp <;> with_reducible rfl
  try simp only [Act.put, List.setIfInBounds_toArray, List.set_cons_zero, List.set_cons_succ]
  refine wpAnyH_take (i := 14) (oi := { dst := some 6, op := Go.Op.assign (Go.Operand.tmp 70), type := 4, pos := "law.go:128", after := #[{ on := 13, ground := Go.Ground.data }, { on := 12, ground := Go.Ground.chain }, { on := 0, ground := Go.Ground.phase }, { on := 1, ground := Go.Ground.phase }, { on := 2, ground := Go.Ground.phase }, { on := 3, ground := Go.Ground.phase }, { on := 4, ground := Go.Ground.phase }, { on := 5, ground := Go.Ground.phase }, { on := 6, ground := Go.Ground.phase }, { on := 7, ground := Go.Ground.phase }, { on := 8, ground := Go.Ground.phase }, { on := 9, ground := Go.Ground.phase }, { on := 10, ground := Go.Ground.phase }, { on := 11, ground := Go.Ground.phase }, { on := 12, ground := Go.Ground.phase }, { on := 13, ground := Go.Ground.phase }], guard := none }) (v := ?_) rfl (by kernel_rfl) (by kernel_rfl) (by kernel_rfl) (fun _ _ _ h => h) (Or.inl ⟨by rfl, ?_⟩) hHeld ?_
  rotate_left
  · intro w hSw; (try dsimp only at hSw); go_simp <;> with_reducible rfl
  try simp only [Act.put, List.setIfInBounds_toArray, List.set_cons_zero, List.set_cons_succ]
  refine wpAnyH_done (by kernel_rfl) ?_ _
  go_wp2
  go_ret
  exact ⟨rfl, HBW.out _ hb9⟩

set_option maxRecDepth 100000 in
set_option maxHeartbeats 4000000 in
theorem parts_011 (v : Value) (d : SD) (x : Int) (s : Value) (l : List Int) (W : World) (h : Di W v d) (hl : Si W s l) (hM : MaxL W) (hE : ErrV W) (hT : Tens W.heap.size W) (hH : hasD d l = false) (hI : (tkS l).contains x = true) (hn : 2305843009213693952 ≤ countD d) :
    Calls Tryz.prog 7 #[v, .int .i64 x, s] W fun e w' => e = .returned (.bool true) ∧ Below W.heap.size W w' := by
  have hM0 := hM.1
  have HM : Hid (MaxL W) := hM
  have HE' : Hid (ErrV W) := hE
  have HT : Hid (Tens W.heap.size W) := hT
  have k32 := fun X (hX : Below W.heap.size W X) => known32 X (HM.out.below hX hM0) (HE'.out.below hX (by omega)) (Tens.here HT.out hX)
  have k50 := fun X (hX : Below W.heap.size W X) => must_look v d x X (h.below hX)
  have k51 := fun X (hX : Below W.heap.size W X) => not_look v d x X (h.below hX)
  have k44 := fun X (hX : Below W.heap.size W X) => has_any v s d l X (h.below hX) (hl.below hX)
  have k44a := fun u X (hX : Below W.heap.size W X) (hu : Di X u (mustD d x)) => has_any u s (mustD d x) l X hu (hl.below hX)
  have k44b := fun u X (hX : Below W.heap.size W X) (hu : Di X u (notD d x)) => has_any u s (notD d x) l X hu (hl.below hX)
  have k25 := fun X (hX : Below W.heap.size W X) => in_any x s l X (hl.below hX)
  have k46 := fun X (hX : Below W.heap.size W X) => count_any v d X (h.below hX)
  have k46a := fun u X (hu : Di X u (mustD d x)) => count_any u (mustD d x) X hu
  have k46b := fun u X (hu : Di X u (notD d x)) => count_any u (notD d x) X hu
  simp only [must_b, not_b, hH, hI, Bool.true_and, Bool.false_and, Bool.not_true, Bool.not_false] at k44 k44a k44b k25
  generalize countD d = cn at *
  have hle : decide (2305843009213693952 ≤ cn) = true := by simp; omega
  obtain ⟨x0, ra, rn, rc, a1, n1, c1, a2, n2, c2, x4, x5, rfl, HE, HLO, HUP⟩ := h.look
  obtain ⟨sa, ns, cs', rfl, HSL, HNL⟩ := si_look hl
  obtain ⟨W0, hW0⟩ : ∃ X, W.alloc (Obj.cells #[.bool x0, .slice ra rn rc, .slice a1 n1 c1, .slice a2 n2 c2, .int .i64 x4, .int .i64 x5] 37) = X := ⟨_, rfl⟩
  have HW0 : Hid _ := hW0
  have hb0 : Below W.heap.size W W0 := by rw [← hW0]; exact (Below.refl _ W).alloc (Nat.le_refl _) _
  have HR0 : Hid (R6 W0 W.heap.size (.bool x0) (.slice ra rn rc) (.slice a1 n1 c1) (.slice a2 n2 c2) (.int .i64 x4) (.int .i64 x5)) := by rw [← hW0]; exact R6.new _ _ _ _ _ _ _
  clear hW0 h hl HE HLO HUP HSL HNL hM hE hT hH hI
  go_enter Tryz.func7, Tryz.ntmps7
  go_upto_region 1 with (fail)
  rw [HW0.out]
  obtain ⟨z0, z1, z2, z3, z4, z5⟩ := HR0.out.cells
  go_wp2_with fail
  refine (k50 W0 hb0).mono ?_
  rintro e w0 ⟨y0a, p1a, m1a, k1a, p2a, m2a, k2a, y4a, y5a, rfl, HDa, hb⟩
  have hc0 : Below W.heap.size W w0 := hb0.trans (hb.mono hb0.size)
  have hz := below_setRow ((Below.refl w0.heap.size w0).alloc (Nat.le_refl _) (Obj.cells #[.bool false, .slice none 0 0, .slice none 0 0, .slice none 0 0, .int .i64 0, .int .i64 0] 37)) (Nat.le_refl w0.heap.size) #[.bool y0a, .slice none 0 0, .slice p1a m1a k1a, .slice p2a m2a k2a, .int .i64 y4a, .int .i64 y5a]
  have hb1 := hc0.trans (hz.mono hc0.size)
  have HGa : Hid _ := (R6.new w0 (.bool false) (.slice none 0 0) (.slice none 0 0) (.slice none 0 0) (.int .i64 0) (.int .i64 0)).set (.bool y0a) (.slice none 0 0) (.slice p1a m1a k1a) (.slice p2a m2a k2a) (.int .i64 y4a) (.int .i64 y5a)
  have HR1 : Hid _ := (HR0.out.below hb).below hz
  have HDia : Hid (Di ((w0.alloc (Obj.cells #[.bool false, .slice none 0 0, .slice none 0 0, .slice none 0 0, .int .i64 0, .int .i64 0] 37)).setRow w0.heap.size #[.bool y0a, .slice none 0 0, .slice p1a m1a k1a, .slice p2a m2a k2a, .int .i64 y4a, .int .i64 y5a]) (.agg #[.bool y0a, .slice none 0 0, .slice p1a m1a k1a, .slice p2a m2a k2a, .int .i64 y4a, .int .i64 y5a]) (mustD d x)) := HDa.out.below hz
  clear hb0 HR0 HDa hb hc0 hz z0 z1 z2 z3 z4 z5
  go_upto_region 2 with (with_reducible refine st37 rfl (.tmp 7) (.tmp 14) rfl w0.heap.size _ _ _ _ _ _ (by with_unfolding_all rfl) (by with_unfolding_all rfl) (R6.new w0 _ _ _ _ _ _) (six_dom _ _ _ _ _ _ _ _ _ _ _ _) ?_)
  simp only [Act.put]
  generalize (w0.alloc (Obj.cells #[.bool false, .slice none 0 0, .slice none 0 0, .slice none 0 0, .int .i64 0, .int .i64 0] 37)).setRow w0.heap.size #[.bool y0a, .slice none 0 0, .slice p1a m1a k1a, .slice p2a m2a k2a, .int .i64 y4a, .int .i64 y5a] = W1 at hb1 HGa HR1 HDia ⊢
  generalize w0.heap.size = Ga at HGa ⊢
  obtain ⟨z0, z1, z2, z3, z4, z5⟩ := HR1.out.cells
  go_wp2_with fail
  refine (k51 W1 hb1).mono ?_
  rintro e w1 ⟨y0b, p1b, m1b, k1b, p2b, m2b, k2b, y4b, y5b, rfl, HDb, hb⟩
  have hc1 : Below W.heap.size W w1 := hb1.trans (hb.mono hb1.size)
  have hz := below_setRow ((Below.refl w1.heap.size w1).alloc (Nat.le_refl _) (Obj.cells #[.bool false, .slice none 0 0, .slice none 0 0, .slice none 0 0, .int .i64 0, .int .i64 0] 37)) (Nat.le_refl w1.heap.size) #[.bool y0b, .slice none 0 0, .slice p1b m1b k1b, .slice p2b m2b k2b, .int .i64 y4b, .int .i64 y5b]
  have hb2 := hc1.trans (hz.mono hc1.size)
  have HGb : Hid _ := (R6.new w1 (.bool false) (.slice none 0 0) (.slice none 0 0) (.slice none 0 0) (.int .i64 0) (.int .i64 0)).set (.bool y0b) (.slice none 0 0) (.slice p1b m1b k1b) (.slice p2b m2b k2b) (.int .i64 y4b) (.int .i64 y5b)
  have HR2 : Hid _ := (HR1.out.below hb).below hz
  have HDib : Hid (Di ((w1.alloc (Obj.cells #[.bool false, .slice none 0 0, .slice none 0 0, .slice none 0 0, .int .i64 0, .int .i64 0] 37)).setRow w1.heap.size #[.bool y0b, .slice none 0 0, .slice p1b m1b k1b, .slice p2b m2b k2b, .int .i64 y4b, .int .i64 y5b]) (.agg #[.bool y0b, .slice none 0 0, .slice p1b m1b k1b, .slice p2b m2b k2b, .int .i64 y4b, .int .i64 y5b]) (notD d x)) := HDb.out.below hz
  have HGan : Hid _ := (HGa.out.below hb).below hz
  have HDian : Hid (Di ((w1.alloc (Obj.cells #[.bool false, .slice none 0 0, .slice none 0 0, .slice none 0 0, .int .i64 0, .int .i64 0] 37)).setRow w1.heap.size #[.bool y0b, .slice none 0 0, .slice p1b m1b k1b, .slice p2b m2b k2b, .int .i64 y4b, .int .i64 y5b]) (.agg #[.bool y0a, .slice none 0 0, .slice p1a m1a k1a, .slice p2a m2a k2a, .int .i64 y4a, .int .i64 y5a]) (mustD d x)) := (HDia.out.below hb).below hz
  clear hb1 HR1 HDb hb hc1 hz z0 z1 z2 z3 z4 z5 HGa HDia
  go_upto_region 3 with (with_reducible refine st37 rfl (.tmp 8) (.tmp 17) rfl w1.heap.size _ _ _ _ _ _ (by with_unfolding_all rfl) (by with_unfolding_all rfl) (R6.new w1 _ _ _ _ _ _) (six_dom _ _ _ _ _ _ _ _ _ _ _ _) ?_)
  simp only [Act.put]
  generalize (w1.alloc (Obj.cells #[.bool false, .slice none 0 0, .slice none 0 0, .slice none 0 0, .int .i64 0, .int .i64 0] 37)).setRow w1.heap.size #[.bool y0b, .slice none 0 0, .slice p1b m1b k1b, .slice p2b m2b k2b, .int .i64 y4b, .int .i64 y5b] = W2 at hb2 HGb HR2 HDib HGan HDian ⊢
  generalize w1.heap.size = Gb at HGb ⊢
  obtain ⟨z0, z1, z2, z3, z4, z5⟩ := HR2.out.cells
  obtain ⟨e0, e1, e2, e3, e4, e5⟩ := HGan.out.cells
  obtain ⟨f0, f1, f2, f3, f4, f5⟩ := HGb.out.cells
  go_wp2_with fail
  refine (k44a _ W2 hb2 HDian.out).mono ?_
  rintro e w3 ⟨rfl, hb⟩
  have hb3 : Below W.heap.size W w3 := hb2.trans (hb.mono hb2.size)
  have HRn3 : Hid _ := HR2.out.below hb
  have HGa3 : Hid _ := HGan.out.below hb
  have HGb3 : Hid _ := HGb.out.below hb
  have HDa3 : Hid (Di w3 (.agg #[.bool y0a, .slice none 0 0, .slice p1a m1a k1a, .slice p2a m2a k2a, .int .i64 y4a, .int .i64 y5a]) (mustD d x)) := HDian.out.below hb
  have HDb3 : Hid (Di w3 (.agg #[.bool y0b, .slice none 0 0, .slice p1b m1b k1b, .slice p2b m2b k2b, .int .i64 y4b, .int .i64 y5b]) (notD d x)) := HDib.out.below hb
  clear hb hb2 HR2 HGan HGb HDian HDib z0 z1 z2 z3 z4 z5 e0 e1 e2 e3 e4 e5 f0 f1 f2 f3 f4 f5
  obtain ⟨z0, z1, z2, z3, z4, z5⟩ := HRn3.out.cells
  obtain ⟨e0, e1, e2, e3, e4, e5⟩ := HGa3.out.cells
  obtain ⟨f0, f1, f2, f3, f4, f5⟩ := HGb3.out.cells
  go_wp2_with fail
  refine (k44b _ w3 hb3 HDb3.out).mono ?_
  rintro e w4 ⟨rfl, hb⟩
  have hb4 : Below W.heap.size W w4 := hb3.trans (hb.mono hb3.size)
  have HRn4 : Hid _ := HRn3.out.below hb
  have HGa4 : Hid _ := HGa3.out.below hb
  have HGb4 : Hid _ := HGb3.out.below hb
  have HDa4 : Hid (Di w4 (.agg #[.bool y0a, .slice none 0 0, .slice p1a m1a k1a, .slice p2a m2a k2a, .int .i64 y4a, .int .i64 y5a]) (mustD d x)) := HDa3.out.below hb
  have HDb4 : Hid (Di w4 (.agg #[.bool y0b, .slice none 0 0, .slice p1b m1b k1b, .slice p2b m2b k2b, .int .i64 y4b, .int .i64 y5b]) (notD d x)) := HDb3.out.below hb
  clear hb hb3 HRn3 HGa3 HGb3 HDa3 HDb3 z0 z1 z2 z3 z4 z5 e0 e1 e2 e3 e4 e5 f0 f1 f2 f3 f4 f5
  obtain ⟨z0, z1, z2, z3, z4, z5⟩ := HRn4.out.cells
  obtain ⟨e0, e1, e2, e3, e4, e5⟩ := HGa4.out.cells
  obtain ⟨f0, f1, f2, f3, f4, f5⟩ := HGb4.out.cells
  go_wp2_with fail
  refine (k44 w4 hb4).mono ?_
  rintro e w5 ⟨rfl, hb⟩
  have hb5 : Below W.heap.size W w5 := hb4.trans (hb.mono hb4.size)
  have HRn5 : Hid _ := HRn4.out.below hb
  have HGa5 : Hid _ := HGa4.out.below hb
  have HGb5 : Hid _ := HGb4.out.below hb
  have HDa5 : Hid (Di w5 (.agg #[.bool y0a, .slice none 0 0, .slice p1a m1a k1a, .slice p2a m2a k2a, .int .i64 y4a, .int .i64 y5a]) (mustD d x)) := HDa4.out.below hb
  have HDb5 : Hid (Di w5 (.agg #[.bool y0b, .slice none 0 0, .slice p1b m1b k1b, .slice p2b m2b k2b, .int .i64 y4b, .int .i64 y5b]) (notD d x)) := HDb4.out.below hb
  clear hb hb4 HRn4 HGa4 HGb4 HDa4 HDb4 z0 z1 z2 z3 z4 z5 e0 e1 e2 e3 e4 e5 f0 f1 f2 f3 f4 f5
  obtain ⟨z0, z1, z2, z3, z4, z5⟩ := HRn5.out.cells
  obtain ⟨e0, e1, e2, e3, e4, e5⟩ := HGa5.out.cells
  obtain ⟨f0, f1, f2, f3, f4, f5⟩ := HGb5.out.cells
  go_wp2_with fail
  refine (k46 w5 hb5).mono ?_
  rintro e w6 ⟨rfl, hb⟩
  have hb6 : Below W.heap.size W w6 := hb5.trans (hb.mono hb5.size)
  have HRn6 : Hid _ := HRn5.out.below hb
  have HGa6 : Hid _ := HGa5.out.below hb
  have HGb6 : Hid _ := HGb5.out.below hb
  have HDa6 : Hid (Di w6 (.agg #[.bool y0a, .slice none 0 0, .slice p1a m1a k1a, .slice p2a m2a k2a, .int .i64 y4a, .int .i64 y5a]) (mustD d x)) := HDa5.out.below hb
  have HDb6 : Hid (Di w6 (.agg #[.bool y0b, .slice none 0 0, .slice p1b m1b k1b, .slice p2b m2b k2b, .int .i64 y4b, .int .i64 y5b]) (notD d x)) := HDb5.out.below hb
  clear hb hb5 HRn5 HGa5 HGb5 HDa5 HDb5 z0 z1 z2 z3 z4 z5 e0 e1 e2 e3 e4 e5 f0 f1 f2 f3 f4 f5
  obtain ⟨z0, z1, z2, z3, z4, z5⟩ := HRn6.out.cells
  obtain ⟨e0, e1, e2, e3, e4, e5⟩ := HGa6.out.cells
  obtain ⟨f0, f1, f2, f3, f4, f5⟩ := HGb6.out.cells
  go_upto_region 8 with (fail)
  have HK : ∀ X, Below w6.heap.size w6 X → X.cell? ⟨Ga, 0, none⟩ = some (.bool y0a) ∧ X.cell? ⟨Ga, 1, none⟩ = some (.slice none 0 0) ∧ X.cell? ⟨Ga, 2, none⟩ = some (.slice p1a m1a k1a) ∧ X.cell? ⟨Ga, 3, none⟩ = some (.slice p2a m2a k2a) ∧ X.cell? ⟨Ga, 4, none⟩ = some (.int .i64 y4a) ∧ X.cell? ⟨Ga, 5, none⟩ = some (.int .i64 y5a) ∧ X.cell? ⟨Gb, 0, none⟩ = some (.bool y0b) ∧ X.cell? ⟨Gb, 1, none⟩ = some (.slice none 0 0) ∧ X.cell? ⟨Gb, 2, none⟩ = some (.slice p1b m1b k1b) ∧ X.cell? ⟨Gb, 3, none⟩ = some (.slice p2b m2b k2b) ∧ X.cell? ⟨Gb, 4, none⟩ = some (.int .i64 y4b) ∧ X.cell? ⟨Gb, 5, none⟩ = some (.int .i64 y5b) := fun X hX => by
    obtain ⟨c0, c1, c2, c3, c4, c5⟩ := (HGa6.out.below hX).cells
    obtain ⟨d0, d1, d2, d3, d4, d5⟩ := (HGb6.out.below hX).cells
    exact ⟨c0, c1, c2, c3, c4, c5, d0, d1, d2, d3, d4, d5⟩
  have HDA : Hid (∀ X, Below w6.heap.size w6 X → Di X (.agg #[.bool y0a, .slice none 0 0, .slice p1a m1a k1a, .slice p2a m2a k2a, .int .i64 y4a, .int .i64 y5a]) (mustD d x)) := fun X hX => HDa6.out.below hX
  have HDB : Hid (∀ X, Below w6.heap.size w6 X → Di X (.agg #[.bool y0b, .slice none 0 0, .slice p1b m1b k1b, .slice p2b m2b k2b, .int .i64 y4b, .int .i64 y5b]) (notD d x)) := fun X hX => HDb6.out.below hX
  have HBW : Hid (∀ X, Below w6.heap.size w6 X → Below W.heap.size W X) := fun X hX => hb6.trans (hX.mono hb6.size)
  have hB0 : Below w6.heap.size w6 w6.drew := Below.drew (Below.refl _ _)
  clear HRn6 HGa6 HGb6 HDa6 HDb6 z0 z1 z2 z3 z4 z5 e0 e1 e2 e3 e4 e5 f0 f1 f2 f3 f4 f5
  refine wp_region_held_drew (S := (fun X => X.cell? ⟨Ga, 0, none⟩ = some (.bool y0a) ∧ X.cell? ⟨Ga, 1, none⟩ = some (.slice none 0 0) ∧ X.cell? ⟨Ga, 2, none⟩ = some (.slice p1a m1a k1a) ∧ X.cell? ⟨Ga, 3, none⟩ = some (.slice p2a m2a k2a) ∧ X.cell? ⟨Ga, 4, none⟩ = some (.int .i64 y4a) ∧ X.cell? ⟨Ga, 5, none⟩ = some (.int .i64 y5a) ∧ X.cell? ⟨Gb, 0, none⟩ = some (.bool y0b) ∧ X.cell? ⟨Gb, 1, none⟩ = some (.slice none 0 0) ∧ X.cell? ⟨Gb, 2, none⟩ = some (.slice p1b m1b k1b) ∧ X.cell? ⟨Gb, 3, none⟩ = some (.slice p2b m2b k2b) ∧ X.cell? ⟨Gb, 4, none⟩ = some (.int .i64 y4b) ∧ X.cell? ⟨Gb, 5, none⟩ = some (.int .i64 y5b))) (by kernel_rfl) (HK _ hB0) (fun hHeld => ?_)
  refine wpAnyH_take (i := 0) (oi := { dst := some 57, op := Go.Op.move (Go.Operand.tmp 11), type := 2, pos := "law.go:128", after := #[], guard := none }) (v := ?_) rfl (by kernel_rfl) (by kernel_rfl) (by kernel_rfl) (fun _ _ _ h => h) (Or.inl ⟨by rfl, ?_⟩) hHeld ?_
  rotate_left
  · intro w hSw; (try dsimp only at hSw); go_simp <;> with_reducible rfl
  try simp only [Act.put, List.setIfInBounds_toArray, List.set_cons_zero, List.set_cons_succ]
  refine wpAnyH_take (i := 1) (oi := { dst := some 58, op := Go.Op.binOp Go.BinOp.geq 2 (Go.Operand.tmp 57) (Go.Operand.const (Go.Value.int Go.IntKind.i64 2305843009213693952)) 2, type := 4, pos := "law.go:128", after := #[{ on := 0, ground := Go.Ground.data }], guard := none }) (v := ?_) rfl (by kernel_rfl) (by kernel_rfl) (by kernel_rfl) (fun _ _ _ h => h) (Or.inl ⟨by rfl, ?_⟩) hHeld ?_
  rotate_left
  · intro w hSw; (try dsimp only at hSw); go_simp <;> with_reducible rfl
  try simp only [Act.put, List.setIfInBounds_toArray, List.set_cons_zero, List.set_cons_succ]
  refine wpAnyH_take (i := 2) (oi := { dst := some 59, op := Go.Op.move (Go.Operand.tmp 58), type := 4, pos := "law.go:128", after := #[{ on := 1, ground := Go.Ground.data }], guard := none }) (v := ?_) rfl (by kernel_rfl) (by kernel_rfl) (by kernel_rfl) (fun _ _ _ h => h) (Or.inl ⟨by rfl, ?_⟩) hHeld ?_
  rotate_left
  · intro w hSw; (try dsimp only at hSw); go_simp <;> with_reducible rfl
  try simp only [Act.put, List.setIfInBounds_toArray, List.set_cons_zero, List.set_cons_succ]
  refine wpAnyH_take (i := 3) (oi := { dst := some 60, op := Go.Op.load 37 (Go.Operand.tmp 7), type := 37, pos := "law.go:128", after := #[{ on := 2, ground := Go.Ground.guard }], guard := some (2, false) }) (v := undef) rfl (by kernel_rfl) (by kernel_rfl) (by kernel_rfl) (fun _ _ _ h => h) (Or.inr ⟨by rfl, rfl⟩) hHeld ?_
  try simp only [Act.put, List.setIfInBounds_toArray, List.set_cons_zero, List.set_cons_succ]
  refine wpAnyH_take (i := 4) (oi := { dst := some 61, op := Go.Op.call { callee := Go.Callee.value (Go.Operand.func 46), args := #[Go.Operand.tmp 60], argTypes := #[37] }, type := 2, pos := "law.go:128", after := #[{ on := 3, ground := Go.Ground.data }, { on := 2, ground := Go.Ground.chain }, { on := 2, ground := Go.Ground.guard }], guard := some (2, false) }) (v := undef) rfl (by kernel_rfl) (by kernel_rfl) (by kernel_rfl) (fun _ _ _ h => h) (Or.inr ⟨by rfl, rfl⟩) hHeld ?_
  try simp only [Act.put, List.setIfInBounds_toArray, List.set_cons_zero, List.set_cons_succ]
  refine wpAnyH_take (i := 5) (oi := { dst := some 62, op := Go.Op.load 37 (Go.Operand.tmp 8), type := 37, pos := "law.go:128", after := #[{ on := 2, ground := Go.Ground.guard }], guard := some (2, false) }) (v := undef) rfl (by kernel_rfl) (by kernel_rfl) (by kernel_rfl) (fun _ _ _ h => h) (Or.inr ⟨by rfl, rfl⟩) hHeld ?_
  try simp only [Act.put, List.setIfInBounds_toArray, List.set_cons_zero, List.set_cons_succ]
  refine wpAnyH_take (i := 6) (oi := { dst := some 63, op := Go.Op.call { callee := Go.Callee.value (Go.Operand.func 46), args := #[Go.Operand.tmp 62], argTypes := #[37] }, type := 2, pos := "law.go:128", after := #[{ on := 5, ground := Go.Ground.data }, { on := 4, ground := Go.Ground.chain }, { on := 2, ground := Go.Ground.guard }], guard := some (2, false) }) (v := undef) rfl (by kernel_rfl) (by kernel_rfl) (by kernel_rfl) (fun _ _ _ h => h) (Or.inr ⟨by rfl, rfl⟩) hHeld ?_
  try simp only [Act.put, List.setIfInBounds_toArray, List.set_cons_zero, List.set_cons_succ]
  refine wpAnyH_take (i := 7) (oi := { dst := some 64, op := Go.Op.binOp Go.BinOp.add 2 (Go.Operand.tmp 61) (Go.Operand.tmp 63) 2, type := 2, pos := "law.go:128", after := #[{ on := 4, ground := Go.Ground.data }, { on := 6, ground := Go.Ground.data }, { on := 2, ground := Go.Ground.guard }], guard := some (2, false) }) (v := undef) rfl (by kernel_rfl) (by kernel_rfl) (by kernel_rfl) (fun _ _ _ h => h) (Or.inr ⟨by rfl, rfl⟩) hHeld ?_
  try simp only [Act.put, List.setIfInBounds_toArray, List.set_cons_zero, List.set_cons_succ]
  refine wpAnyH_take (i := 8) (oi := { dst := some 65, op := Go.Op.move (Go.Operand.tmp 11), type := 2, pos := "law.go:128", after := #[{ on := 2, ground := Go.Ground.guard }], guard := some (2, false) }) (v := undef) rfl (by kernel_rfl) (by kernel_rfl) (by kernel_rfl) (fun _ _ _ h => h) (Or.inr ⟨by rfl, rfl⟩) hHeld ?_
  try simp only [Act.put, List.setIfInBounds_toArray, List.set_cons_zero, List.set_cons_succ]
  refine wpAnyH_take (i := 9) (oi := { dst := some 66, op := Go.Op.binOp Go.BinOp.eql 2 (Go.Operand.tmp 64) (Go.Operand.tmp 65) 2, type := 4, pos := "law.go:128", after := #[{ on := 7, ground := Go.Ground.data }, { on := 8, ground := Go.Ground.data }, { on := 2, ground := Go.Ground.guard }], guard := some (2, false) }) (v := undef) rfl (by kernel_rfl) (by kernel_rfl) (by kernel_rfl) (fun _ _ _ h => h) (Or.inr ⟨by rfl, rfl⟩) hHeld ?_
  try simp only [Act.put, List.setIfInBounds_toArray, List.set_cons_zero, List.set_cons_succ]
  refine wpAnyH_take (i := 10) (oi := { dst := some 67, op := Go.Op.pick (Go.Operand.tmp 59) (Go.Operand.const (Go.Value.bool true)) (Go.Operand.tmp 66), type := 4, pos := "law.go:128", after := #[{ on := 2, ground := Go.Ground.data }, { on := 9, ground := Go.Ground.data }], guard := none }) (v := ?_) rfl (by kernel_rfl) (by kernel_rfl) (by kernel_rfl) (fun _ _ _ h => h) (Or.inl ⟨by rfl, ?_⟩) hHeld ?_
  rotate_left
  · intro w hSw; (try dsimp only at hSw); go_simp <;> with_reducible rfl
  try simp only [Act.put, List.setIfInBounds_toArray, List.set_cons_zero, List.set_cons_succ]
  refine wpAnyH_take (i := 11) (oi := { dst := some 68, op := Go.Op.move (Go.Operand.tmp 67), type := 4, pos := "law.go:128", after := #[{ on := 10, ground := Go.Ground.data }, { on := 6, ground := Go.Ground.chain }], guard := none }) (v := ?_) rfl (by kernel_rfl) (by kernel_rfl) (by kernel_rfl) (fun _ _ _ h => h) (Or.inl ⟨by rfl, ?_⟩) hHeld ?_
  rotate_left
  · intro w hSw; (try dsimp only at hSw); go_simp <;> with_reducible rfl
  try simp only [Act.put, List.setIfInBounds_toArray, List.set_cons_zero, List.set_cons_succ]
  refine wpAnyH_ready (rs := [12]) (by kernel_rfl) (by simp) ?_
  refine AllReadyH.cons rfl (fun K hK => ?_) AllReadyH.nil
  go_simp
  refine (k32 _ (HBW.out _ hB0)).mono ?_
  rintro e w19 ⟨rfl, hb9'⟩
  have hb9 : Below w6.heap.size w6 w19 := hB0.trans (hb9'.mono hB0.size)
  refine hK.out _ _ (HK _ hb9) (fun hHeld2 => ?_)
  clear hK K hHeld
  have hHeld := hHeld2
  clear hHeld2
  try simp only [Act.put, List.setIfInBounds_toArray, List.set_cons_zero, List.set_cons_succ]
  refine wpAnyH_take (i := 13) (oi := { dst := some 70, op := Go.Op.pick (Go.Operand.tmp 68) (Go.Operand.tmp 69) (Go.Operand.const (Go.Value.bool false)), type := 4, pos := "law.go:128", after := #[{ on := 11, ground := Go.Ground.data }, { on := 12, ground := Go.Ground.data }], guard := none }) (v := ?_) rfl (by kernel_rfl) (by kernel_rfl) (by kernel_rfl) (fun _ _ _ h => h) (Or.inl ⟨by rfl, ?_⟩) hHeld ?_
  rotate_left
  · intro w hSw; (try dsimp only at hSw); go_simp <;> with_reducible rfl
  try simp only [Act.put, List.setIfInBounds_toArray, List.set_cons_zero, List.set_cons_succ]
  refine wpAnyH_take (i := 14) (oi := { dst := some 6, op := Go.Op.assign (Go.Operand.tmp 70), type := 4, pos := "law.go:128", after := #[{ on := 13, ground := Go.Ground.data }, { on := 12, ground := Go.Ground.chain }, { on := 0, ground := Go.Ground.phase }, { on := 1, ground := Go.Ground.phase }, { on := 2, ground := Go.Ground.phase }, { on := 3, ground := Go.Ground.phase }, { on := 4, ground := Go.Ground.phase }, { on := 5, ground := Go.Ground.phase }, { on := 6, ground := Go.Ground.phase }, { on := 7, ground := Go.Ground.phase }, { on := 8, ground := Go.Ground.phase }, { on := 9, ground := Go.Ground.phase }, { on := 10, ground := Go.Ground.phase }, { on := 11, ground := Go.Ground.phase }, { on := 12, ground := Go.Ground.phase }, { on := 13, ground := Go.Ground.phase }], guard := none }) (v := ?_) rfl (by kernel_rfl) (by kernel_rfl) (by kernel_rfl) (fun _ _ _ h => h) (Or.inl ⟨by rfl, ?_⟩) hHeld ?_
  rotate_left
  · intro w hSw; (try dsimp only at hSw); go_simp <;> with_reducible rfl
  try simp only [Act.put, List.setIfInBounds_toArray, List.set_cons_zero, List.set_cons_succ]
  refine wpAnyH_done (by kernel_rfl) ?_ _
  go_wp2
  go_ret
  exact ⟨rfl, HBW.out _ hb9⟩

set_option maxRecDepth 100000 in
set_option maxHeartbeats 4000000 in
theorem parts_000 (v : Value) (d : SD) (x : Int) (s : Value) (l : List Int) (W : World) (h : Di W v d) (hl : Si W s l) (hM : MaxL W) (hE : ErrV W) (hT : Tens W.heap.size W) (hH : hasD d l = false) (hI : (tkS l).contains x = false) (hn : ¬ 2305843009213693952 ≤ countD d) :
    Calls Tryz.prog 7 #[v, .int .i64 x, s] W fun e w' => e = .returned (.bool true) ∧ Below W.heap.size W w' := by
  have hM0 := hM.1
  have HM : Hid (MaxL W) := hM
  have HE' : Hid (ErrV W) := hE
  have HT : Hid (Tens W.heap.size W) := hT
  have k32 := fun X (hX : Below W.heap.size W X) => known32 X (HM.out.below hX hM0) (HE'.out.below hX (by omega)) (Tens.here HT.out hX)
  have k50 := fun X (hX : Below W.heap.size W X) => must_look v d x X (h.below hX)
  have k51 := fun X (hX : Below W.heap.size W X) => not_look v d x X (h.below hX)
  have k44 := fun X (hX : Below W.heap.size W X) => has_any v s d l X (h.below hX) (hl.below hX)
  have k44a := fun u X (hX : Below W.heap.size W X) (hu : Di X u (mustD d x)) => has_any u s (mustD d x) l X hu (hl.below hX)
  have k44b := fun u X (hX : Below W.heap.size W X) (hu : Di X u (notD d x)) => has_any u s (notD d x) l X hu (hl.below hX)
  have k25 := fun X (hX : Below W.heap.size W X) => in_any x s l X (hl.below hX)
  have k46 := fun X (hX : Below W.heap.size W X) => count_any v d X (h.below hX)
  have k46a := fun u X (hu : Di X u (mustD d x)) => count_any u (mustD d x) X hu
  have k46b := fun u X (hu : Di X u (notD d x)) => count_any u (notD d x) X hu
  simp only [must_b, not_b, hH, hI, Bool.true_and, Bool.false_and, Bool.not_true, Bool.not_false] at k44 k44a k44b k25
  obtain ⟨hp1, hp2, hp3⟩ := parts_count d x (by omega)
  generalize countD (mustD d x) = ca at k46a hp1 hp2
  generalize countD (notD d x) = cb at k46b hp1 hp3
  generalize countD d = cn at *
  have hle : decide (2305843009213693952 ≤ cn) = false := by simp; omega
  have hsum : IntKind.i64.wrap (ca + cb) = cn := by rw [IntKind.wrap_i64]; omega
  clear hp1 hp2 hp3
  obtain ⟨x0, ra, rn, rc, a1, n1, c1, a2, n2, c2, x4, x5, rfl, HE, HLO, HUP⟩ := h.look
  obtain ⟨sa, ns, cs', rfl, HSL, HNL⟩ := si_look hl
  obtain ⟨W0, hW0⟩ : ∃ X, W.alloc (Obj.cells #[.bool x0, .slice ra rn rc, .slice a1 n1 c1, .slice a2 n2 c2, .int .i64 x4, .int .i64 x5] 37) = X := ⟨_, rfl⟩
  have HW0 : Hid _ := hW0
  have hb0 : Below W.heap.size W W0 := by rw [← hW0]; exact (Below.refl _ W).alloc (Nat.le_refl _) _
  have HR0 : Hid (R6 W0 W.heap.size (.bool x0) (.slice ra rn rc) (.slice a1 n1 c1) (.slice a2 n2 c2) (.int .i64 x4) (.int .i64 x5)) := by rw [← hW0]; exact R6.new _ _ _ _ _ _ _
  clear hW0 h hl HE HLO HUP HSL HNL hM hE hT hH hI
  go_enter Tryz.func7, Tryz.ntmps7
  go_upto_region 1 with (fail)
  rw [HW0.out]
  obtain ⟨z0, z1, z2, z3, z4, z5⟩ := HR0.out.cells
  go_wp2_with fail
  refine (k50 W0 hb0).mono ?_
  rintro e w0 ⟨y0a, p1a, m1a, k1a, p2a, m2a, k2a, y4a, y5a, rfl, HDa, hb⟩
  have hc0 : Below W.heap.size W w0 := hb0.trans (hb.mono hb0.size)
  have hz := below_setRow ((Below.refl w0.heap.size w0).alloc (Nat.le_refl _) (Obj.cells #[.bool false, .slice none 0 0, .slice none 0 0, .slice none 0 0, .int .i64 0, .int .i64 0] 37)) (Nat.le_refl w0.heap.size) #[.bool y0a, .slice none 0 0, .slice p1a m1a k1a, .slice p2a m2a k2a, .int .i64 y4a, .int .i64 y5a]
  have hb1 := hc0.trans (hz.mono hc0.size)
  have HGa : Hid _ := (R6.new w0 (.bool false) (.slice none 0 0) (.slice none 0 0) (.slice none 0 0) (.int .i64 0) (.int .i64 0)).set (.bool y0a) (.slice none 0 0) (.slice p1a m1a k1a) (.slice p2a m2a k2a) (.int .i64 y4a) (.int .i64 y5a)
  have HR1 : Hid _ := (HR0.out.below hb).below hz
  have HDia : Hid (Di ((w0.alloc (Obj.cells #[.bool false, .slice none 0 0, .slice none 0 0, .slice none 0 0, .int .i64 0, .int .i64 0] 37)).setRow w0.heap.size #[.bool y0a, .slice none 0 0, .slice p1a m1a k1a, .slice p2a m2a k2a, .int .i64 y4a, .int .i64 y5a]) (.agg #[.bool y0a, .slice none 0 0, .slice p1a m1a k1a, .slice p2a m2a k2a, .int .i64 y4a, .int .i64 y5a]) (mustD d x)) := HDa.out.below hz
  clear hb0 HR0 HDa hb hc0 hz z0 z1 z2 z3 z4 z5
  go_upto_region 2 with (with_reducible refine st37 rfl (.tmp 7) (.tmp 14) rfl w0.heap.size _ _ _ _ _ _ (by with_unfolding_all rfl) (by with_unfolding_all rfl) (R6.new w0 _ _ _ _ _ _) (six_dom _ _ _ _ _ _ _ _ _ _ _ _) ?_)
  simp only [Act.put]
  generalize (w0.alloc (Obj.cells #[.bool false, .slice none 0 0, .slice none 0 0, .slice none 0 0, .int .i64 0, .int .i64 0] 37)).setRow w0.heap.size #[.bool y0a, .slice none 0 0, .slice p1a m1a k1a, .slice p2a m2a k2a, .int .i64 y4a, .int .i64 y5a] = W1 at hb1 HGa HR1 HDia ⊢
  generalize w0.heap.size = Ga at HGa ⊢
  obtain ⟨z0, z1, z2, z3, z4, z5⟩ := HR1.out.cells
  go_wp2_with fail
  refine (k51 W1 hb1).mono ?_
  rintro e w1 ⟨y0b, p1b, m1b, k1b, p2b, m2b, k2b, y4b, y5b, rfl, HDb, hb⟩
  have hc1 : Below W.heap.size W w1 := hb1.trans (hb.mono hb1.size)
  have hz := below_setRow ((Below.refl w1.heap.size w1).alloc (Nat.le_refl _) (Obj.cells #[.bool false, .slice none 0 0, .slice none 0 0, .slice none 0 0, .int .i64 0, .int .i64 0] 37)) (Nat.le_refl w1.heap.size) #[.bool y0b, .slice none 0 0, .slice p1b m1b k1b, .slice p2b m2b k2b, .int .i64 y4b, .int .i64 y5b]
  have hb2 := hc1.trans (hz.mono hc1.size)
  have HGb : Hid _ := (R6.new w1 (.bool false) (.slice none 0 0) (.slice none 0 0) (.slice none 0 0) (.int .i64 0) (.int .i64 0)).set (.bool y0b) (.slice none 0 0) (.slice p1b m1b k1b) (.slice p2b m2b k2b) (.int .i64 y4b) (.int .i64 y5b)
  have HR2 : Hid _ := (HR1.out.below hb).below hz
  have HDib : Hid (Di ((w1.alloc (Obj.cells #[.bool false, .slice none 0 0, .slice none 0 0, .slice none 0 0, .int .i64 0, .int .i64 0] 37)).setRow w1.heap.size #[.bool y0b, .slice none 0 0, .slice p1b m1b k1b, .slice p2b m2b k2b, .int .i64 y4b, .int .i64 y5b]) (.agg #[.bool y0b, .slice none 0 0, .slice p1b m1b k1b, .slice p2b m2b k2b, .int .i64 y4b, .int .i64 y5b]) (notD d x)) := HDb.out.below hz
  have HGan : Hid _ := (HGa.out.below hb).below hz
  have HDian : Hid (Di ((w1.alloc (Obj.cells #[.bool false, .slice none 0 0, .slice none 0 0, .slice none 0 0, .int .i64 0, .int .i64 0] 37)).setRow w1.heap.size #[.bool y0b, .slice none 0 0, .slice p1b m1b k1b, .slice p2b m2b k2b, .int .i64 y4b, .int .i64 y5b]) (.agg #[.bool y0a, .slice none 0 0, .slice p1a m1a k1a, .slice p2a m2a k2a, .int .i64 y4a, .int .i64 y5a]) (mustD d x)) := (HDia.out.below hb).below hz
  clear hb1 HR1 HDb hb hc1 hz z0 z1 z2 z3 z4 z5 HGa HDia
  go_upto_region 3 with (with_reducible refine st37 rfl (.tmp 8) (.tmp 17) rfl w1.heap.size _ _ _ _ _ _ (by with_unfolding_all rfl) (by with_unfolding_all rfl) (R6.new w1 _ _ _ _ _ _) (six_dom _ _ _ _ _ _ _ _ _ _ _ _) ?_)
  simp only [Act.put]
  generalize (w1.alloc (Obj.cells #[.bool false, .slice none 0 0, .slice none 0 0, .slice none 0 0, .int .i64 0, .int .i64 0] 37)).setRow w1.heap.size #[.bool y0b, .slice none 0 0, .slice p1b m1b k1b, .slice p2b m2b k2b, .int .i64 y4b, .int .i64 y5b] = W2 at hb2 HGb HR2 HDib HGan HDian ⊢
  generalize w1.heap.size = Gb at HGb ⊢
  obtain ⟨z0, z1, z2, z3, z4, z5⟩ := HR2.out.cells
  obtain ⟨e0, e1, e2, e3, e4, e5⟩ := HGan.out.cells
  obtain ⟨f0, f1, f2, f3, f4, f5⟩ := HGb.out.cells
  go_wp2_with fail
  refine (k44a _ W2 hb2 HDian.out).mono ?_
  rintro e w3 ⟨rfl, hb⟩
  have hb3 : Below W.heap.size W w3 := hb2.trans (hb.mono hb2.size)
  have HRn3 : Hid _ := HR2.out.below hb
  have HGa3 : Hid _ := HGan.out.below hb
  have HGb3 : Hid _ := HGb.out.below hb
  have HDa3 : Hid (Di w3 (.agg #[.bool y0a, .slice none 0 0, .slice p1a m1a k1a, .slice p2a m2a k2a, .int .i64 y4a, .int .i64 y5a]) (mustD d x)) := HDian.out.below hb
  have HDb3 : Hid (Di w3 (.agg #[.bool y0b, .slice none 0 0, .slice p1b m1b k1b, .slice p2b m2b k2b, .int .i64 y4b, .int .i64 y5b]) (notD d x)) := HDib.out.below hb
  clear hb hb2 HR2 HGan HGb HDian HDib z0 z1 z2 z3 z4 z5 e0 e1 e2 e3 e4 e5 f0 f1 f2 f3 f4 f5
  obtain ⟨z0, z1, z2, z3, z4, z5⟩ := HRn3.out.cells
  obtain ⟨e0, e1, e2, e3, e4, e5⟩ := HGa3.out.cells
  obtain ⟨f0, f1, f2, f3, f4, f5⟩ := HGb3.out.cells
  go_wp2_with fail
  refine (k44b _ w3 hb3 HDb3.out).mono ?_
  rintro e w4 ⟨rfl, hb⟩
  have hb4 : Below W.heap.size W w4 := hb3.trans (hb.mono hb3.size)
  have HRn4 : Hid _ := HRn3.out.below hb
  have HGa4 : Hid _ := HGa3.out.below hb
  have HGb4 : Hid _ := HGb3.out.below hb
  have HDa4 : Hid (Di w4 (.agg #[.bool y0a, .slice none 0 0, .slice p1a m1a k1a, .slice p2a m2a k2a, .int .i64 y4a, .int .i64 y5a]) (mustD d x)) := HDa3.out.below hb
  have HDb4 : Hid (Di w4 (.agg #[.bool y0b, .slice none 0 0, .slice p1b m1b k1b, .slice p2b m2b k2b, .int .i64 y4b, .int .i64 y5b]) (notD d x)) := HDb3.out.below hb
  clear hb hb3 HRn3 HGa3 HGb3 HDa3 HDb3 z0 z1 z2 z3 z4 z5 e0 e1 e2 e3 e4 e5 f0 f1 f2 f3 f4 f5
  obtain ⟨z0, z1, z2, z3, z4, z5⟩ := HRn4.out.cells
  obtain ⟨e0, e1, e2, e3, e4, e5⟩ := HGa4.out.cells
  obtain ⟨f0, f1, f2, f3, f4, f5⟩ := HGb4.out.cells
  go_wp2_with fail
  refine (k44 w4 hb4).mono ?_
  rintro e w5 ⟨rfl, hb⟩
  have hb5 : Below W.heap.size W w5 := hb4.trans (hb.mono hb4.size)
  have HRn5 : Hid _ := HRn4.out.below hb
  have HGa5 : Hid _ := HGa4.out.below hb
  have HGb5 : Hid _ := HGb4.out.below hb
  have HDa5 : Hid (Di w5 (.agg #[.bool y0a, .slice none 0 0, .slice p1a m1a k1a, .slice p2a m2a k2a, .int .i64 y4a, .int .i64 y5a]) (mustD d x)) := HDa4.out.below hb
  have HDb5 : Hid (Di w5 (.agg #[.bool y0b, .slice none 0 0, .slice p1b m1b k1b, .slice p2b m2b k2b, .int .i64 y4b, .int .i64 y5b]) (notD d x)) := HDb4.out.below hb
  clear hb hb4 HRn4 HGa4 HGb4 HDa4 HDb4 z0 z1 z2 z3 z4 z5 e0 e1 e2 e3 e4 e5 f0 f1 f2 f3 f4 f5
  obtain ⟨z0, z1, z2, z3, z4, z5⟩ := HRn5.out.cells
  obtain ⟨e0, e1, e2, e3, e4, e5⟩ := HGa5.out.cells
  obtain ⟨f0, f1, f2, f3, f4, f5⟩ := HGb5.out.cells
  go_wp2_with fail
  refine (k46 w5 hb5).mono ?_
  rintro e w6 ⟨rfl, hb⟩
  have hb6 : Below W.heap.size W w6 := hb5.trans (hb.mono hb5.size)
  have HRn6 : Hid _ := HRn5.out.below hb
  have HGa6 : Hid _ := HGa5.out.below hb
  have HGb6 : Hid _ := HGb5.out.below hb
  have HDa6 : Hid (Di w6 (.agg #[.bool y0a, .slice none 0 0, .slice p1a m1a k1a, .slice p2a m2a k2a, .int .i64 y4a, .int .i64 y5a]) (mustD d x)) := HDa5.out.below hb
  have HDb6 : Hid (Di w6 (.agg #[.bool y0b, .slice none 0 0, .slice p1b m1b k1b, .slice p2b m2b k2b, .int .i64 y4b, .int .i64 y5b]) (notD d x)) := HDb5.out.below hb
  clear hb hb5 HRn5 HGa5 HGb5 HDa5 HDb5 z0 z1 z2 z3 z4 z5 e0 e1 e2 e3 e4 e5 f0 f1 f2 f3 f4 f5
  obtain ⟨z0, z1, z2, z3, z4, z5⟩ := HRn6.out.cells
  obtain ⟨e0, e1, e2, e3, e4, e5⟩ := HGa6.out.cells
  obtain ⟨f0, f1, f2, f3, f4, f5⟩ := HGb6.out.cells
  go_upto_region 8 with (fail)
  have HK : ∀ X, Below w6.heap.size w6 X → X.cell? ⟨Ga, 0, none⟩ = some (.bool y0a) ∧ X.cell? ⟨Ga, 1, none⟩ = some (.slice none 0 0) ∧ X.cell? ⟨Ga, 2, none⟩ = some (.slice p1a m1a k1a) ∧ X.cell? ⟨Ga, 3, none⟩ = some (.slice p2a m2a k2a) ∧ X.cell? ⟨Ga, 4, none⟩ = some (.int .i64 y4a) ∧ X.cell? ⟨Ga, 5, none⟩ = some (.int .i64 y5a) ∧ X.cell? ⟨Gb, 0, none⟩ = some (.bool y0b) ∧ X.cell? ⟨Gb, 1, none⟩ = some (.slice none 0 0) ∧ X.cell? ⟨Gb, 2, none⟩ = some (.slice p1b m1b k1b) ∧ X.cell? ⟨Gb, 3, none⟩ = some (.slice p2b m2b k2b) ∧ X.cell? ⟨Gb, 4, none⟩ = some (.int .i64 y4b) ∧ X.cell? ⟨Gb, 5, none⟩ = some (.int .i64 y5b) := fun X hX => by
    obtain ⟨c0, c1, c2, c3, c4, c5⟩ := (HGa6.out.below hX).cells
    obtain ⟨d0, d1, d2, d3, d4, d5⟩ := (HGb6.out.below hX).cells
    exact ⟨c0, c1, c2, c3, c4, c5, d0, d1, d2, d3, d4, d5⟩
  have HDA : Hid (∀ X, Below w6.heap.size w6 X → Di X (.agg #[.bool y0a, .slice none 0 0, .slice p1a m1a k1a, .slice p2a m2a k2a, .int .i64 y4a, .int .i64 y5a]) (mustD d x)) := fun X hX => HDa6.out.below hX
  have HDB : Hid (∀ X, Below w6.heap.size w6 X → Di X (.agg #[.bool y0b, .slice none 0 0, .slice p1b m1b k1b, .slice p2b m2b k2b, .int .i64 y4b, .int .i64 y5b]) (notD d x)) := fun X hX => HDb6.out.below hX
  have HBW : Hid (∀ X, Below w6.heap.size w6 X → Below W.heap.size W X) := fun X hX => hb6.trans (hX.mono hb6.size)
  have hB0 : Below w6.heap.size w6 w6.drew := Below.drew (Below.refl _ _)
  clear HRn6 HGa6 HGb6 HDa6 HDb6 z0 z1 z2 z3 z4 z5 e0 e1 e2 e3 e4 e5 f0 f1 f2 f3 f4 f5
  refine wp_region_held_drew (S := (fun X => X.cell? ⟨Ga, 0, none⟩ = some (.bool y0a) ∧ X.cell? ⟨Ga, 1, none⟩ = some (.slice none 0 0) ∧ X.cell? ⟨Ga, 2, none⟩ = some (.slice p1a m1a k1a) ∧ X.cell? ⟨Ga, 3, none⟩ = some (.slice p2a m2a k2a) ∧ X.cell? ⟨Ga, 4, none⟩ = some (.int .i64 y4a) ∧ X.cell? ⟨Ga, 5, none⟩ = some (.int .i64 y5a) ∧ X.cell? ⟨Gb, 0, none⟩ = some (.bool y0b) ∧ X.cell? ⟨Gb, 1, none⟩ = some (.slice none 0 0) ∧ X.cell? ⟨Gb, 2, none⟩ = some (.slice p1b m1b k1b) ∧ X.cell? ⟨Gb, 3, none⟩ = some (.slice p2b m2b k2b) ∧ X.cell? ⟨Gb, 4, none⟩ = some (.int .i64 y4b) ∧ X.cell? ⟨Gb, 5, none⟩ = some (.int .i64 y5b))) (by kernel_rfl) (HK _ hB0) (fun hHeld => ?_)
  refine wpAnyH_take (i := 0) (oi := { dst := some 57, op := Go.Op.move (Go.Operand.tmp 11), type := 2, pos := "law.go:128", after := #[], guard := none }) (v := ?_) rfl (by kernel_rfl) (by kernel_rfl) (by kernel_rfl) (fun _ _ _ h => h) (Or.inl ⟨by rfl, ?_⟩) hHeld ?_
  rotate_left
  · intro w hSw; (try dsimp only at hSw); go_simp <;> with_reducible rfl
  try simp only [Act.put, List.setIfInBounds_toArray, List.set_cons_zero, List.set_cons_succ]
  refine wpAnyH_take (i := 1) (oi := { dst := some 58, op := Go.Op.binOp Go.BinOp.geq 2 (Go.Operand.tmp 57) (Go.Operand.const (Go.Value.int Go.IntKind.i64 2305843009213693952)) 2, type := 4, pos := "law.go:128", after := #[{ on := 0, ground := Go.Ground.data }], guard := none }) (v := ?_) rfl (by kernel_rfl) (by kernel_rfl) (by kernel_rfl) (fun _ _ _ h => h) (Or.inl ⟨by rfl, ?_⟩) hHeld ?_
  rotate_left
  · intro w hSw; (try dsimp only at hSw); go_simp <;> with_reducible rfl
  try simp only [Act.put, List.setIfInBounds_toArray, List.set_cons_zero, List.set_cons_succ]
  refine wpAnyH_take (i := 2) (oi := { dst := some 59, op := Go.Op.move (Go.Operand.tmp 58), type := 4, pos := "law.go:128", after := #[{ on := 1, ground := Go.Ground.data }], guard := none }) (v := ?_) rfl (by kernel_rfl) (by kernel_rfl) (by kernel_rfl) (fun _ _ _ h => h) (Or.inl ⟨by rfl, ?_⟩) hHeld ?_
  rotate_left
  · intro w hSw; (try dsimp only at hSw); go_simp <;> with_reducible rfl
  try simp only [Act.put, List.setIfInBounds_toArray, List.set_cons_zero, List.set_cons_succ]
  refine wpAnyH_take (i := 3) (oi := { dst := some 60, op := Go.Op.load 37 (Go.Operand.tmp 7), type := 37, pos := "law.go:128", after := #[{ on := 2, ground := Go.Ground.guard }], guard := some (2, false) }) (v := ?_) rfl (by kernel_rfl) (by kernel_rfl) (by kernel_rfl) (fun _ _ _ h => h) (Or.inl ⟨by rfl, ?_⟩) hHeld ?_
  rotate_left
  · intro w hSw; (try dsimp only at hSw); go_simp <;> with_reducible rfl
  try simp only [Act.put, List.setIfInBounds_toArray, List.set_cons_zero, List.set_cons_succ]
  refine wpAnyH_take (i := 5) (oi := { dst := some 62, op := Go.Op.load 37 (Go.Operand.tmp 8), type := 37, pos := "law.go:128", after := #[{ on := 2, ground := Go.Ground.guard }], guard := some (2, false) }) (v := ?_) rfl (by kernel_rfl) (by kernel_rfl) (by kernel_rfl) (fun _ _ _ h => h) (Or.inl ⟨by rfl, ?_⟩) hHeld ?_
  rotate_left
  · intro w hSw; (try dsimp only at hSw); go_simp <;> with_reducible rfl
  try simp only [Act.put, List.setIfInBounds_toArray, List.set_cons_zero, List.set_cons_succ]
  refine wpAnyH_take (i := 8) (oi := { dst := some 65, op := Go.Op.move (Go.Operand.tmp 11), type := 2, pos := "law.go:128", after := #[{ on := 2, ground := Go.Ground.guard }], guard := some (2, false) }) (v := ?_) rfl (by kernel_rfl) (by kernel_rfl) (by kernel_rfl) (fun _ _ _ h => h) (Or.inl ⟨by rfl, ?_⟩) hHeld ?_
  rotate_left
  · intro w hSw; (try dsimp only at hSw); go_simp <;> with_reducible rfl
  try simp only [Act.put, List.setIfInBounds_toArray, List.set_cons_zero, List.set_cons_succ]
  refine wpAnyH_ready (rs := [4]) (by kernel_rfl) (by simp) ?_
  refine AllReadyH.cons rfl (fun K hK => ?_) AllReadyH.nil
  go_simp
  refine (k46a _ _ (HDA.out _ hB0)).mono ?_
  rintro e w17 ⟨rfl, hb7'⟩
  have hb7 : Below w6.heap.size w6 w17 := hB0.trans (hb7'.mono hB0.size)
  refine hK.out _ _ (HK _ hb7) (fun hHeld2 => ?_)
  clear hK K hHeld
  have hHeld := hHeld2
  clear hHeld2
  try simp only [Act.put, List.setIfInBounds_toArray, List.set_cons_zero, List.set_cons_succ]
  refine wpAnyH_ready (rs := [6]) (by kernel_rfl) (by simp) ?_
  refine AllReadyH.cons rfl (fun K hK => ?_) AllReadyH.nil
  go_simp
  refine (k46b _ _ (HDB.out _ hb7)).mono ?_
  rintro e w18 ⟨rfl, hb8'⟩
  have hb8 : Below w6.heap.size w6 w18 := hb7.trans (hb8'.mono hb7.size)
  refine hK.out _ _ (HK _ hb8) (fun hHeld2 => ?_)
  clear hK K hHeld
  have hHeld := hHeld2
  clear hHeld2
  try simp only [Act.put, List.setIfInBounds_toArray, List.set_cons_zero, List.set_cons_succ]
  refine wpAnyH_take (i := 7) (oi := { dst := some 64, op := Go.Op.binOp Go.BinOp.add 2 (Go.Operand.tmp 61) (Go.Operand.tmp 63) 2, type := 2, pos := "law.go:128", after := #[{ on := 4, ground := Go.Ground.data }, { on := 6, ground := Go.Ground.data }, { on := 2, ground := Go.Ground.guard }], guard := some (2, false) }) (v := ?_) rfl (by kernel_rfl) (by kernel_rfl) (by kernel_rfl) (fun _ _ _ h => h) (Or.inl ⟨by rfl, ?_⟩) hHeld ?_
  rotate_left
  · intro w hSw; (try dsimp only at hSw); go_simp <;> with_reducible rfl
  try simp only [Act.put, List.setIfInBounds_toArray, List.set_cons_zero, List.set_cons_succ]
  refine wpAnyH_take (i := 9) (oi := { dst := some 66, op := Go.Op.binOp Go.BinOp.eql 2 (Go.Operand.tmp 64) (Go.Operand.tmp 65) 2, type := 4, pos := "law.go:128", after := #[{ on := 7, ground := Go.Ground.data }, { on := 8, ground := Go.Ground.data }, { on := 2, ground := Go.Ground.guard }], guard := some (2, false) }) (v := ?_) rfl (by kernel_rfl) (by kernel_rfl) (by kernel_rfl) (fun _ _ _ h => h) (Or.inl ⟨by rfl, ?_⟩) hHeld ?_
  rotate_left
  · intro w hSw; (try dsimp only at hSw); go_simp <;> with_reducible rfl
  try simp only [Act.put, List.setIfInBounds_toArray, List.set_cons_zero, List.set_cons_succ]
  refine wpAnyH_take (i := 10) (oi := { dst := some 67, op := Go.Op.pick (Go.Operand.tmp 59) (Go.Operand.const (Go.Value.bool true)) (Go.Operand.tmp 66), type := 4, pos := "law.go:128", after := #[{ on := 2, ground := Go.Ground.data }, { on := 9, ground := Go.Ground.data }], guard := none }) (v := ?_) rfl (by kernel_rfl) (by kernel_rfl) (by kernel_rfl) (fun _ _ _ h => h) (Or.inl ⟨by rfl, ?_⟩) hHeld ?_
  rotate_left
  · intro w hSw; (try dsimp only at hSw); go_simp <;> with_reducible rfl
  try simp only [Act.put, List.setIfInBounds_toArray, List.set_cons_zero, List.set_cons_succ]
  refine wpAnyH_take (i := 11) (oi := { dst := some 68, op := Go.Op.move (Go.Operand.tmp 67), type := 4, pos := "law.go:128", after := #[{ on := 10, ground := Go.Ground.data }, { on := 6, ground := Go.Ground.chain }], guard := none }) (v := ?_) rfl (by kernel_rfl) (by kernel_rfl) (by kernel_rfl) (fun _ _ _ h => h) (Or.inl ⟨by rfl, ?_⟩) hHeld ?_
  rotate_left
  · intro w hSw; (try dsimp only at hSw); go_simp <;> with_reducible rfl
  try simp only [Act.put, List.setIfInBounds_toArray, List.set_cons_zero, List.set_cons_succ]
  refine wpAnyH_ready (rs := [12]) (by kernel_rfl) (by simp) ?_
  refine AllReadyH.cons rfl (fun K hK => ?_) AllReadyH.nil
  go_simp
  refine (k32 _ (HBW.out _ hb8)).mono ?_
  rintro e w19 ⟨rfl, hb9'⟩
  have hb9 : Below w6.heap.size w6 w19 := hb8.trans (hb9'.mono hb8.size)
  refine hK.out _ _ (HK _ hb9) (fun hHeld2 => ?_)
  clear hK K hHeld
  have hHeld := hHeld2
  clear hHeld2
  try simp only [Act.put, List.setIfInBounds_toArray, List.set_cons_zero, List.set_cons_succ]
  refine wpAnyH_take (i := 13) (oi := { dst := some 70, op := Go.Op.pick (Go.Operand.tmp 68) (Go.Operand.tmp 69) (Go.Operand.const (Go.Value.bool false)), type := 4, pos := "law.go:128", after := #[{ on := 11, ground := Go.Ground.data }, { on := 12, ground := Go.Ground.data }], guard := none }) (v := ?_) rfl (by kernel_rfl) (by kernel_rfl) (by kernel_rfl) (fun _ _ _ h => h) (Or.inl ⟨by rfl, ?_⟩) hHeld ?_
  rotate_left
  · intro w hSw; (try dsimp only at hSw); go_simp <;> with_reducible rfl
  try simp only [Act.put, List.setIfInBounds_toArray, List.set_cons_zero, List.set_cons_succ]
  refine wpAnyH_take (i := 14) (oi := { dst := some 6, op := Go.Op.assign (Go.Operand.tmp 70), type := 4, pos := "law.go:128", after := #[{ on := 13, ground := Go.Ground.data }, { on := 12, ground := Go.Ground.chain }, { on := 0, ground := Go.Ground.phase }, { on := 1, ground := Go.Ground.phase }, { on := 2, ground := Go.Ground.phase }, { on := 3, ground := Go.Ground.phase }, { on := 4, ground := Go.Ground.phase }, { on := 5, ground := Go.Ground.phase }, { on := 6, ground := Go.Ground.phase }, { on := 7, ground := Go.Ground.phase }, { on := 8, ground := Go.Ground.phase }, { on := 9, ground := Go.Ground.phase }, { on := 10, ground := Go.Ground.phase }, { on := 11, ground := Go.Ground.phase }, { on := 12, ground := Go.Ground.phase }, { on := 13, ground := Go.Ground.phase }], guard := none }) (v := ?_) rfl (by kernel_rfl) (by kernel_rfl) (by kernel_rfl) (fun _ _ _ h => h) (Or.inl ⟨by rfl, ?_⟩) hHeld ?_
  rotate_left
  · intro w hSw; (try dsimp only at hSw); go_simp <;> with_reducible rfl
  try simp only [Act.put, List.setIfInBounds_toArray, List.set_cons_zero, List.set_cons_succ]
  refine wpAnyH_done (by kernel_rfl) ?_ _
  go_wp2
  go_ret
  exact ⟨rfl, HBW.out _ hb9⟩

set_option maxRecDepth 100000 in
set_option maxHeartbeats 4000000 in
theorem parts_001 (v : Value) (d : SD) (x : Int) (s : Value) (l : List Int) (W : World) (h : Di W v d) (hl : Si W s l) (hM : MaxL W) (hE : ErrV W) (hT : Tens W.heap.size W) (hH : hasD d l = false) (hI : (tkS l).contains x = false) (hn : 2305843009213693952 ≤ countD d) :
    Calls Tryz.prog 7 #[v, .int .i64 x, s] W fun e w' => e = .returned (.bool true) ∧ Below W.heap.size W w' := by
  have hM0 := hM.1
  have HM : Hid (MaxL W) := hM
  have HE' : Hid (ErrV W) := hE
  have HT : Hid (Tens W.heap.size W) := hT
  have k32 := fun X (hX : Below W.heap.size W X) => known32 X (HM.out.below hX hM0) (HE'.out.below hX (by omega)) (Tens.here HT.out hX)
  have k50 := fun X (hX : Below W.heap.size W X) => must_look v d x X (h.below hX)
  have k51 := fun X (hX : Below W.heap.size W X) => not_look v d x X (h.below hX)
  have k44 := fun X (hX : Below W.heap.size W X) => has_any v s d l X (h.below hX) (hl.below hX)
  have k44a := fun u X (hX : Below W.heap.size W X) (hu : Di X u (mustD d x)) => has_any u s (mustD d x) l X hu (hl.below hX)
  have k44b := fun u X (hX : Below W.heap.size W X) (hu : Di X u (notD d x)) => has_any u s (notD d x) l X hu (hl.below hX)
  have k25 := fun X (hX : Below W.heap.size W X) => in_any x s l X (hl.below hX)
  have k46 := fun X (hX : Below W.heap.size W X) => count_any v d X (h.below hX)
  have k46a := fun u X (hu : Di X u (mustD d x)) => count_any u (mustD d x) X hu
  have k46b := fun u X (hu : Di X u (notD d x)) => count_any u (notD d x) X hu
  simp only [must_b, not_b, hH, hI, Bool.true_and, Bool.false_and, Bool.not_true, Bool.not_false] at k44 k44a k44b k25
  generalize countD d = cn at *
  have hle : decide (2305843009213693952 ≤ cn) = true := by simp; omega
  obtain ⟨x0, ra, rn, rc, a1, n1, c1, a2, n2, c2, x4, x5, rfl, HE, HLO, HUP⟩ := h.look
  obtain ⟨sa, ns, cs', rfl, HSL, HNL⟩ := si_look hl
  obtain ⟨W0, hW0⟩ : ∃ X, W.alloc (Obj.cells #[.bool x0, .slice ra rn rc, .slice a1 n1 c1, .slice a2 n2 c2, .int .i64 x4, .int .i64 x5] 37) = X := ⟨_, rfl⟩
  have HW0 : Hid _ := hW0
  have hb0 : Below W.heap.size W W0 := by rw [← hW0]; exact (Below.refl _ W).alloc (Nat.le_refl _) _
  have HR0 : Hid (R6 W0 W.heap.size (.bool x0) (.slice ra rn rc) (.slice a1 n1 c1) (.slice a2 n2 c2) (.int .i64 x4) (.int .i64 x5)) := by rw [← hW0]; exact R6.new _ _ _ _ _ _ _
  clear hW0 h hl HE HLO HUP HSL HNL hM hE hT hH hI
  go_enter Tryz.func7, Tryz.ntmps7
  go_upto_region 1 with (fail)
  rw [HW0.out]
  obtain ⟨z0, z1, z2, z3, z4, z5⟩ := HR0.out.cells
  go_wp2_with fail
  refine (k50 W0 hb0).mono ?_
  rintro e w0 ⟨y0a, p1a, m1a, k1a, p2a, m2a, k2a, y4a, y5a, rfl, HDa, hb⟩
  have hc0 : Below W.heap.size W w0 := hb0.trans (hb.mono hb0.size)
  have hz := below_setRow ((Below.refl w0.heap.size w0).alloc (Nat.le_refl _) (Obj.cells #[.bool false, .slice none 0 0, .slice none 0 0, .slice none 0 0, .int .i64 0, .int .i64 0] 37)) (Nat.le_refl w0.heap.size) #[.bool y0a, .slice none 0 0, .slice p1a m1a k1a, .slice p2a m2a k2a, .int .i64 y4a, .int .i64 y5a]
  have hb1 := hc0.trans (hz.mono hc0.size)
  have HGa : Hid _ := (R6.new w0 (.bool false) (.slice none 0 0) (.slice none 0 0) (.slice none 0 0) (.int .i64 0) (.int .i64 0)).set (.bool y0a) (.slice none 0 0) (.slice p1a m1a k1a) (.slice p2a m2a k2a) (.int .i64 y4a) (.int .i64 y5a)
  have HR1 : Hid _ := (HR0.out.below hb).below hz
  have HDia : Hid (Di ((w0.alloc (Obj.cells #[.bool false, .slice none 0 0, .slice none 0 0, .slice none 0 0, .int .i64 0, .int .i64 0] 37)).setRow w0.heap.size #[.bool y0a, .slice none 0 0, .slice p1a m1a k1a, .slice p2a m2a k2a, .int .i64 y4a, .int .i64 y5a]) (.agg #[.bool y0a, .slice none 0 0, .slice p1a m1a k1a, .slice p2a m2a k2a, .int .i64 y4a, .int .i64 y5a]) (mustD d x)) := HDa.out.below hz
  clear hb0 HR0 HDa hb hc0 hz z0 z1 z2 z3 z4 z5
  go_upto_region 2 with (with_reducible refine st37 rfl (.tmp 7) (.tmp 14) rfl w0.heap.size _ _ _ _ _ _ (by with_unfolding_all rfl) (by with_unfolding_all rfl) (R6.new w0 _ _ _ _ _ _) (six_dom _ _ _ _ _ _ _ _ _ _ _ _) ?_)
  simp only [Act.put]
  generalize (w0.alloc (Obj.cells #[.bool false, .slice none 0 0, .slice none 0 0, .slice none 0 0, .int .i64 0, .int .i64 0] 37)).setRow w0.heap.size #[.bool y0a, .slice none 0 0, .slice p1a m1a k1a, .slice p2a m2a k2a, .int .i64 y4a, .int .i64 y5a] = W1 at hb1 HGa HR1 HDia ⊢
  generalize w0.heap.size = Ga at HGa ⊢
  obtain ⟨z0, z1, z2, z3, z4, z5⟩ := HR1.out.cells
  go_wp2_with fail
  refine (k51 W1 hb1).mono ?_
  rintro e w1 ⟨y0b, p1b, m1b, k1b, p2b, m2b, k2b, y4b, y5b, rfl, HDb, hb⟩
  have hc1 : Below W.heap.size W w1 := hb1.trans (hb.mono hb1.size)
  have hz := below_setRow ((Below.refl w1.heap.size w1).alloc (Nat.le_refl _) (Obj.cells #[.bool false, .slice none 0 0, .slice none 0 0, .slice none 0 0, .int .i64 0, .int .i64 0] 37)) (Nat.le_refl w1.heap.size) #[.bool y0b, .slice none 0 0, .slice p1b m1b k1b, .slice p2b m2b k2b, .int .i64 y4b, .int .i64 y5b]
  have hb2 := hc1.trans (hz.mono hc1.size)
  have HGb : Hid _ := (R6.new w1 (.bool false) (.slice none 0 0) (.slice none 0 0) (.slice none 0 0) (.int .i64 0) (.int .i64 0)).set (.bool y0b) (.slice none 0 0) (.slice p1b m1b k1b) (.slice p2b m2b k2b) (.int .i64 y4b) (.int .i64 y5b)
  have HR2 : Hid _ := (HR1.out.below hb).below hz
  have HDib : Hid (Di ((w1.alloc (Obj.cells #[.bool false, .slice none 0 0, .slice none 0 0, .slice none 0 0, .int .i64 0, .int .i64 0] 37)).setRow w1.heap.size #[.bool y0b, .slice none 0 0, .slice p1b m1b k1b, .slice p2b m2b k2b, .int .i64 y4b, .int .i64 y5b]) (.agg #[.bool y0b, .slice none 0 0, .slice p1b m1b k1b, .slice p2b m2b k2b, .int .i64 y4b, .int .i64 y5b]) (notD d x)) := HDb.out.below hz
  have HGan : Hid _ := (HGa.out.below hb).below hz
  have HDian : Hid (Di ((w1.alloc (Obj.cells #[.bool false, .slice none 0 0, .slice none 0 0, .slice none 0 0, .int .i64 0, .int .i64 0] 37)).setRow w1.heap.size #[.bool y0b, .slice none 0 0, .slice p1b m1b k1b, .slice p2b m2b k2b, .int .i64 y4b, .int .i64 y5b]) (.agg #[.bool y0a, .slice none 0 0, .slice p1a m1a k1a, .slice p2a m2a k2a, .int .i64 y4a, .int .i64 y5a]) (mustD d x)) := (HDia.out.below hb).below hz
  clear hb1 HR1 HDb hb hc1 hz z0 z1 z2 z3 z4 z5 HGa HDia
  go_upto_region 3 with (with_reducible refine st37 rfl (.tmp 8) (.tmp 17) rfl w1.heap.size _ _ _ _ _ _ (by with_unfolding_all rfl) (by with_unfolding_all rfl) (R6.new w1 _ _ _ _ _ _) (six_dom _ _ _ _ _ _ _ _ _ _ _ _) ?_)
  simp only [Act.put]
  generalize (w1.alloc (Obj.cells #[.bool false, .slice none 0 0, .slice none 0 0, .slice none 0 0, .int .i64 0, .int .i64 0] 37)).setRow w1.heap.size #[.bool y0b, .slice none 0 0, .slice p1b m1b k1b, .slice p2b m2b k2b, .int .i64 y4b, .int .i64 y5b] = W2 at hb2 HGb HR2 HDib HGan HDian ⊢
  generalize w1.heap.size = Gb at HGb ⊢
  obtain ⟨z0, z1, z2, z3, z4, z5⟩ := HR2.out.cells
  obtain ⟨e0, e1, e2, e3, e4, e5⟩ := HGan.out.cells
  obtain ⟨f0, f1, f2, f3, f4, f5⟩ := HGb.out.cells
  go_wp2_with fail
  refine (k44a _ W2 hb2 HDian.out).mono ?_
  rintro e w3 ⟨rfl, hb⟩
  have hb3 : Below W.heap.size W w3 := hb2.trans (hb.mono hb2.size)
  have HRn3 : Hid _ := HR2.out.below hb
  have HGa3 : Hid _ := HGan.out.below hb
  have HGb3 : Hid _ := HGb.out.below hb
  have HDa3 : Hid (Di w3 (.agg #[.bool y0a, .slice none 0 0, .slice p1a m1a k1a, .slice p2a m2a k2a, .int .i64 y4a, .int .i64 y5a]) (mustD d x)) := HDian.out.below hb
  have HDb3 : Hid (Di w3 (.agg #[.bool y0b, .slice none 0 0, .slice p1b m1b k1b, .slice p2b m2b k2b, .int .i64 y4b, .int .i64 y5b]) (notD d x)) := HDib.out.below hb
  clear hb hb2 HR2 HGan HGb HDian HDib z0 z1 z2 z3 z4 z5 e0 e1 e2 e3 e4 e5 f0 f1 f2 f3 f4 f5
  obtain ⟨z0, z1, z2, z3, z4, z5⟩ := HRn3.out.cells
  obtain ⟨e0, e1, e2, e3, e4, e5⟩ := HGa3.out.cells
  obtain ⟨f0, f1, f2, f3, f4, f5⟩ := HGb3.out.cells
  go_wp2_with fail
  refine (k44b _ w3 hb3 HDb3.out).mono ?_
  rintro e w4 ⟨rfl, hb⟩
  have hb4 : Below W.heap.size W w4 := hb3.trans (hb.mono hb3.size)
  have HRn4 : Hid _ := HRn3.out.below hb
  have HGa4 : Hid _ := HGa3.out.below hb
  have HGb4 : Hid _ := HGb3.out.below hb
  have HDa4 : Hid (Di w4 (.agg #[.bool y0a, .slice none 0 0, .slice p1a m1a k1a, .slice p2a m2a k2a, .int .i64 y4a, .int .i64 y5a]) (mustD d x)) := HDa3.out.below hb
  have HDb4 : Hid (Di w4 (.agg #[.bool y0b, .slice none 0 0, .slice p1b m1b k1b, .slice p2b m2b k2b, .int .i64 y4b, .int .i64 y5b]) (notD d x)) := HDb3.out.below hb
  clear hb hb3 HRn3 HGa3 HGb3 HDa3 HDb3 z0 z1 z2 z3 z4 z5 e0 e1 e2 e3 e4 e5 f0 f1 f2 f3 f4 f5
  obtain ⟨z0, z1, z2, z3, z4, z5⟩ := HRn4.out.cells
  obtain ⟨e0, e1, e2, e3, e4, e5⟩ := HGa4.out.cells
  obtain ⟨f0, f1, f2, f3, f4, f5⟩ := HGb4.out.cells
  go_wp2_with fail
  refine (k44 w4 hb4).mono ?_
  rintro e w5 ⟨rfl, hb⟩
  have hb5 : Below W.heap.size W w5 := hb4.trans (hb.mono hb4.size)
  have HRn5 : Hid _ := HRn4.out.below hb
  have HGa5 : Hid _ := HGa4.out.below hb
  have HGb5 : Hid _ := HGb4.out.below hb
  have HDa5 : Hid (Di w5 (.agg #[.bool y0a, .slice none 0 0, .slice p1a m1a k1a, .slice p2a m2a k2a, .int .i64 y4a, .int .i64 y5a]) (mustD d x)) := HDa4.out.below hb
  have HDb5 : Hid (Di w5 (.agg #[.bool y0b, .slice none 0 0, .slice p1b m1b k1b, .slice p2b m2b k2b, .int .i64 y4b, .int .i64 y5b]) (notD d x)) := HDb4.out.below hb
  clear hb hb4 HRn4 HGa4 HGb4 HDa4 HDb4 z0 z1 z2 z3 z4 z5 e0 e1 e2 e3 e4 e5 f0 f1 f2 f3 f4 f5
  obtain ⟨z0, z1, z2, z3, z4, z5⟩ := HRn5.out.cells
  obtain ⟨e0, e1, e2, e3, e4, e5⟩ := HGa5.out.cells
  obtain ⟨f0, f1, f2, f3, f4, f5⟩ := HGb5.out.cells
  go_wp2_with fail
  refine (k46 w5 hb5).mono ?_
  rintro e w6 ⟨rfl, hb⟩
  have hb6 : Below W.heap.size W w6 := hb5.trans (hb.mono hb5.size)
  have HRn6 : Hid _ := HRn5.out.below hb
  have HGa6 : Hid _ := HGa5.out.below hb
  have HGb6 : Hid _ := HGb5.out.below hb
  have HDa6 : Hid (Di w6 (.agg #[.bool y0a, .slice none 0 0, .slice p1a m1a k1a, .slice p2a m2a k2a, .int .i64 y4a, .int .i64 y5a]) (mustD d x)) := HDa5.out.below hb
  have HDb6 : Hid (Di w6 (.agg #[.bool y0b, .slice none 0 0, .slice p1b m1b k1b, .slice p2b m2b k2b, .int .i64 y4b, .int .i64 y5b]) (notD d x)) := HDb5.out.below hb
  clear hb hb5 HRn5 HGa5 HGb5 HDa5 HDb5 z0 z1 z2 z3 z4 z5 e0 e1 e2 e3 e4 e5 f0 f1 f2 f3 f4 f5
  obtain ⟨z0, z1, z2, z3, z4, z5⟩ := HRn6.out.cells
  obtain ⟨e0, e1, e2, e3, e4, e5⟩ := HGa6.out.cells
  obtain ⟨f0, f1, f2, f3, f4, f5⟩ := HGb6.out.cells
  go_upto_region 8 with (fail)
  have HK : ∀ X, Below w6.heap.size w6 X → X.cell? ⟨Ga, 0, none⟩ = some (.bool y0a) ∧ X.cell? ⟨Ga, 1, none⟩ = some (.slice none 0 0) ∧ X.cell? ⟨Ga, 2, none⟩ = some (.slice p1a m1a k1a) ∧ X.cell? ⟨Ga, 3, none⟩ = some (.slice p2a m2a k2a) ∧ X.cell? ⟨Ga, 4, none⟩ = some (.int .i64 y4a) ∧ X.cell? ⟨Ga, 5, none⟩ = some (.int .i64 y5a) ∧ X.cell? ⟨Gb, 0, none⟩ = some (.bool y0b) ∧ X.cell? ⟨Gb, 1, none⟩ = some (.slice none 0 0) ∧ X.cell? ⟨Gb, 2, none⟩ = some (.slice p1b m1b k1b) ∧ X.cell? ⟨Gb, 3, none⟩ = some (.slice p2b m2b k2b) ∧ X.cell? ⟨Gb, 4, none⟩ = some (.int .i64 y4b) ∧ X.cell? ⟨Gb, 5, none⟩ = some (.int .i64 y5b) := fun X hX => by
    obtain ⟨c0, c1, c2, c3, c4, c5⟩ := (HGa6.out.below hX).cells
    obtain ⟨d0, d1, d2, d3, d4, d5⟩ := (HGb6.out.below hX).cells
    exact ⟨c0, c1, c2, c3, c4, c5, d0, d1, d2, d3, d4, d5⟩
  have HDA : Hid (∀ X, Below w6.heap.size w6 X → Di X (.agg #[.bool y0a, .slice none 0 0, .slice p1a m1a k1a, .slice p2a m2a k2a, .int .i64 y4a, .int .i64 y5a]) (mustD d x)) := fun X hX => HDa6.out.below hX
  have HDB : Hid (∀ X, Below w6.heap.size w6 X → Di X (.agg #[.bool y0b, .slice none 0 0, .slice p1b m1b k1b, .slice p2b m2b k2b, .int .i64 y4b, .int .i64 y5b]) (notD d x)) := fun X hX => HDb6.out.below hX
  have HBW : Hid (∀ X, Below w6.heap.size w6 X → Below W.heap.size W X) := fun X hX => hb6.trans (hX.mono hb6.size)
  have hB0 : Below w6.heap.size w6 w6.drew := Below.drew (Below.refl _ _)
  clear HRn6 HGa6 HGb6 HDa6 HDb6 z0 z1 z2 z3 z4 z5 e0 e1 e2 e3 e4 e5 f0 f1 f2 f3 f4 f5
  refine wp_region_held_drew (S := (fun X => X.cell? ⟨Ga, 0, none⟩ = some (.bool y0a) ∧ X.cell? ⟨Ga, 1, none⟩ = some (.slice none 0 0) ∧ X.cell? ⟨Ga, 2, none⟩ = some (.slice p1a m1a k1a) ∧ X.cell? ⟨Ga, 3, none⟩ = some (.slice p2a m2a k2a) ∧ X.cell? ⟨Ga, 4, none⟩ = some (.int .i64 y4a) ∧ X.cell? ⟨Ga, 5, none⟩ = some (.int .i64 y5a) ∧ X.cell? ⟨Gb, 0, none⟩ = some (.bool y0b) ∧ X.cell? ⟨Gb, 1, none⟩ = some (.slice none 0 0) ∧ X.cell? ⟨Gb, 2, none⟩ = some (.slice p1b m1b k1b) ∧ X.cell? ⟨Gb, 3, none⟩ = some (.slice p2b m2b k2b) ∧ X.cell? ⟨Gb, 4, none⟩ = some (.int .i64 y4b) ∧ X.cell? ⟨Gb, 5, none⟩ = some (.int .i64 y5b))) (by kernel_rfl) (HK _ hB0) (fun hHeld => ?_)
  refine wpAnyH_take (i := 0) (oi := { dst := some 57, op := Go.Op.move (Go.Operand.tmp 11), type := 2, pos := "law.go:128", after := #[], guard := none }) (v := ?_) rfl (by kernel_rfl) (by kernel_rfl) (by kernel_rfl) (fun _ _ _ h => h) (Or.inl ⟨by rfl, ?_⟩) hHeld ?_
  rotate_left
  · intro w hSw; (try dsimp only at hSw); go_simp <;> with_reducible rfl
  try simp only [Act.put, List.setIfInBounds_toArray, List.set_cons_zero, List.set_cons_succ]
  refine wpAnyH_take (i := 1) (oi := { dst := some 58, op := Go.Op.binOp Go.BinOp.geq 2 (Go.Operand.tmp 57) (Go.Operand.const (Go.Value.int Go.IntKind.i64 2305843009213693952)) 2, type := 4, pos := "law.go:128", after := #[{ on := 0, ground := Go.Ground.data }], guard := none }) (v := ?_) rfl (by kernel_rfl) (by kernel_rfl) (by kernel_rfl) (fun _ _ _ h => h) (Or.inl ⟨by rfl, ?_⟩) hHeld ?_
  rotate_left
  · intro w hSw; (try dsimp only at hSw); go_simp <;> with_reducible rfl
  try simp only [Act.put, List.setIfInBounds_toArray, List.set_cons_zero, List.set_cons_succ]
  refine wpAnyH_take (i := 2) (oi := { dst := some 59, op := Go.Op.move (Go.Operand.tmp 58), type := 4, pos := "law.go:128", after := #[{ on := 1, ground := Go.Ground.data }], guard := none }) (v := ?_) rfl (by kernel_rfl) (by kernel_rfl) (by kernel_rfl) (fun _ _ _ h => h) (Or.inl ⟨by rfl, ?_⟩) hHeld ?_
  rotate_left
  · intro w hSw; (try dsimp only at hSw); go_simp <;> with_reducible rfl
  try simp only [Act.put, List.setIfInBounds_toArray, List.set_cons_zero, List.set_cons_succ]
  refine wpAnyH_take (i := 3) (oi := { dst := some 60, op := Go.Op.load 37 (Go.Operand.tmp 7), type := 37, pos := "law.go:128", after := #[{ on := 2, ground := Go.Ground.guard }], guard := some (2, false) }) (v := undef) rfl (by kernel_rfl) (by kernel_rfl) (by kernel_rfl) (fun _ _ _ h => h) (Or.inr ⟨by rfl, rfl⟩) hHeld ?_
  try simp only [Act.put, List.setIfInBounds_toArray, List.set_cons_zero, List.set_cons_succ]
  refine wpAnyH_take (i := 4) (oi := { dst := some 61, op := Go.Op.call { callee := Go.Callee.value (Go.Operand.func 46), args := #[Go.Operand.tmp 60], argTypes := #[37] }, type := 2, pos := "law.go:128", after := #[{ on := 3, ground := Go.Ground.data }, { on := 2, ground := Go.Ground.chain }, { on := 2, ground := Go.Ground.guard }], guard := some (2, false) }) (v := undef) rfl (by kernel_rfl) (by kernel_rfl) (by kernel_rfl) (fun _ _ _ h => h) (Or.inr ⟨by rfl, rfl⟩) hHeld ?_
  try simp only [Act.put, List.setIfInBounds_toArray, List.set_cons_zero, List.set_cons_succ]
  refine wpAnyH_take (i := 5) (oi := { dst := some 62, op := Go.Op.load 37 (Go.Operand.tmp 8), type := 37, pos := "law.go:128", after := #[{ on := 2, ground := Go.Ground.guard }], guard := some (2, false) }) (v := undef) rfl (by kernel_rfl) (by kernel_rfl) (by kernel_rfl) (fun _ _ _ h => h) (Or.inr ⟨by rfl, rfl⟩) hHeld ?_
  try simp only [Act.put, List.setIfInBounds_toArray, List.set_cons_zero, List.set_cons_succ]
  refine wpAnyH_take (i := 6) (oi := { dst := some 63, op := Go.Op.call { callee := Go.Callee.value (Go.Operand.func 46), args := #[Go.Operand.tmp 62], argTypes := #[37] }, type := 2, pos := "law.go:128", after := #[{ on := 5, ground := Go.Ground.data }, { on := 4, ground := Go.Ground.chain }, { on := 2, ground := Go.Ground.guard }], guard := some (2, false) }) (v := undef) rfl (by kernel_rfl) (by kernel_rfl) (by kernel_rfl) (fun _ _ _ h => h) (Or.inr ⟨by rfl, rfl⟩) hHeld ?_
  try simp only [Act.put, List.setIfInBounds_toArray, List.set_cons_zero, List.set_cons_succ]
  refine wpAnyH_take (i := 7) (oi := { dst := some 64, op := Go.Op.binOp Go.BinOp.add 2 (Go.Operand.tmp 61) (Go.Operand.tmp 63) 2, type := 2, pos := "law.go:128", after := #[{ on := 4, ground := Go.Ground.data }, { on := 6, ground := Go.Ground.data }, { on := 2, ground := Go.Ground.guard }], guard := some (2, false) }) (v := undef) rfl (by kernel_rfl) (by kernel_rfl) (by kernel_rfl) (fun _ _ _ h => h) (Or.inr ⟨by rfl, rfl⟩) hHeld ?_
  try simp only [Act.put, List.setIfInBounds_toArray, List.set_cons_zero, List.set_cons_succ]
  refine wpAnyH_take (i := 8) (oi := { dst := some 65, op := Go.Op.move (Go.Operand.tmp 11), type := 2, pos := "law.go:128", after := #[{ on := 2, ground := Go.Ground.guard }], guard := some (2, false) }) (v := undef) rfl (by kernel_rfl) (by kernel_rfl) (by kernel_rfl) (fun _ _ _ h => h) (Or.inr ⟨by rfl, rfl⟩) hHeld ?_
  try simp only [Act.put, List.setIfInBounds_toArray, List.set_cons_zero, List.set_cons_succ]
  refine wpAnyH_take (i := 9) (oi := { dst := some 66, op := Go.Op.binOp Go.BinOp.eql 2 (Go.Operand.tmp 64) (Go.Operand.tmp 65) 2, type := 4, pos := "law.go:128", after := #[{ on := 7, ground := Go.Ground.data }, { on := 8, ground := Go.Ground.data }, { on := 2, ground := Go.Ground.guard }], guard := some (2, false) }) (v := undef) rfl (by kernel_rfl) (by kernel_rfl) (by kernel_rfl) (fun _ _ _ h => h) (Or.inr ⟨by rfl, rfl⟩) hHeld ?_
  try simp only [Act.put, List.setIfInBounds_toArray, List.set_cons_zero, List.set_cons_succ]
  refine wpAnyH_take (i := 10) (oi := { dst := some 67, op := Go.Op.pick (Go.Operand.tmp 59) (Go.Operand.const (Go.Value.bool true)) (Go.Operand.tmp 66), type := 4, pos := "law.go:128", after := #[{ on := 2, ground := Go.Ground.data }, { on := 9, ground := Go.Ground.data }], guard := none }) (v := ?_) rfl (by kernel_rfl) (by kernel_rfl) (by kernel_rfl) (fun _ _ _ h => h) (Or.inl ⟨by rfl, ?_⟩) hHeld ?_
  rotate_left
  · intro w hSw; (try dsimp only at hSw); go_simp <;> with_reducible rfl
  try simp only [Act.put, List.setIfInBounds_toArray, List.set_cons_zero, List.set_cons_succ]
  refine wpAnyH_take (i := 11) (oi := { dst := some 68, op := Go.Op.move (Go.Operand.tmp 67), type := 4, pos := "law.go:128", after := #[{ on := 10, ground := Go.Ground.data }, { on := 6, ground := Go.Ground.chain }], guard := none }) (v := ?_) rfl (by kernel_rfl) (by kernel_rfl) (by kernel_rfl) (fun _ _ _ h => h) (Or.inl ⟨by rfl, ?_⟩) hHeld ?_
  rotate_left
  · intro w hSw; (try dsimp only at hSw); go_simp <;> with_reducible rfl
  try simp only [Act.put, List.setIfInBounds_toArray, List.set_cons_zero, List.set_cons_succ]
  refine wpAnyH_ready (rs := [12]) (by kernel_rfl) (by simp) ?_
  refine AllReadyH.cons rfl (fun K hK => ?_) AllReadyH.nil
  go_simp
  refine (k32 _ (HBW.out _ hB0)).mono ?_
  rintro e w19 ⟨rfl, hb9'⟩
  have hb9 : Below w6.heap.size w6 w19 := hB0.trans (hb9'.mono hB0.size)
  refine hK.out _ _ (HK _ hb9) (fun hHeld2 => ?_)
  clear hK K hHeld
  have hHeld := hHeld2
  clear hHeld2
  try simp only [Act.put, List.setIfInBounds_toArray, List.set_cons_zero, List.set_cons_succ]
  refine wpAnyH_take (i := 13) (oi := { dst := some 70, op := Go.Op.pick (Go.Operand.tmp 68) (Go.Operand.tmp 69) (Go.Operand.const (Go.Value.bool false)), type := 4, pos := "law.go:128", after := #[{ on := 11, ground := Go.Ground.data }, { on := 12, ground := Go.Ground.data }], guard := none }) (v := ?_) rfl (by kernel_rfl) (by kernel_rfl) (by kernel_rfl) (fun _ _ _ h => h) (Or.inl ⟨by rfl, ?_⟩) hHeld ?_
  rotate_left
  · intro w hSw; (try dsimp only at hSw); go_simp <;> with_reducible rfl
  try simp only [Act.put, List.setIfInBounds_toArray, List.set_cons_zero, List.set_cons_succ]
  refine wpAnyH_take (i := 14) (oi := { dst := some 6, op := Go.Op.assign (Go.Operand.tmp 70), type := 4, pos := "law.go:128", after := #[{ on := 13, ground := Go.Ground.data }, { on := 12, ground := Go.Ground.chain }, { on := 0, ground := Go.Ground.phase }, { on := 1, ground := Go.Ground.phase }, { on := 2, ground := Go.Ground.phase }, { on := 3, ground := Go.Ground.phase }, { on := 4, ground := Go.Ground.phase }, { on := 5, ground := Go.Ground.phase }, { on := 6, ground := Go.Ground.phase }, { on := 7, ground := Go.Ground.phase }, { on := 8, ground := Go.Ground.phase }, { on := 9, ground := Go.Ground.phase }, { on := 10, ground := Go.Ground.phase }, { on := 11, ground := Go.Ground.phase }, { on := 12, ground := Go.Ground.phase }, { on := 13, ground := Go.Ground.phase }], guard := none }) (v := ?_) rfl (by kernel_rfl) (by kernel_rfl) (by kernel_rfl) (fun _ _ _ h => h) (Or.inl ⟨by rfl, ?_⟩) hHeld ?_
  rotate_left
  · intro w hSw; (try dsimp only at hSw); go_simp <;> with_reducible rfl
  try simp only [Act.put, List.setIfInBounds_toArray, List.set_cons_zero, List.set_cons_succ]
  refine wpAnyH_done (by kernel_rfl) ?_ _
  go_wp2
  go_ret
  exact ⟨rfl, HBW.out _ hb9⟩

theorem parts_walk (v : Value) (d : SD) (x : Int) (s : Value) (l : List Int) (W : World) (h : Di W v d) (hl : Si W s l) (hM : MaxL W) (hE : ErrV W) (hT : Tens W.heap.size W) :
    Calls Tryz.prog 7 #[v, .int .i64 x, s] W fun e w' => e = .returned (.bool true) ∧ Below W.heap.size W w' := by
  by_cases hn : 2305843009213693952 ≤ countD d
  · rcases hH : hasD d l with _ | _ <;> rcases hI : (tkS l).contains x with _ | _
    · exact parts_001 v d x s l W h hl hM hE hT hH hI hn
    · exact parts_011 v d x s l W h hl hM hE hT hH hI hn
    · exact parts_101 v d x s l W h hl hM hE hT hH hI hn
    · exact parts_111 v d x s l W h hl hM hE hT hH hI hn
  · rcases hH : hasD d l with _ | _ <;> rcases hI : (tkS l).contains x with _ | _
    · exact parts_000 v d x s l W h hl hM hE hT hH hI hn
    · exact parts_010 v d x s l W h hl hM hE hT hH hI hn
    · exact parts_100 v d x s l W h hl hM hE hT hH hI hn
    · exact parts_110 v d x s l W h hl hM hE hT hH hI hn
end Go.Proofs.YthpbgplbgnefcaaGreatDoor
