/-
  What is proved here: what sets.Count returns of any domain.
  What is proved here: a row of six cells that holds a domain of sets: read, kept, written.
  What is proved here: the reference's Meet and Less of any lists.
-/
import Derived.Test.YthkliicmoandmaaGreatDoorYCa
import Derived.Test.YthkliicmoandmaaGreatDoorYSdj
namespace Go.Proofs.YthkliicmoandmaaGreatDoor.St
open Go.RowKit Go.Shelf
set_option linter.unusedVariables false
set_option linter.unusedSimpArgs false

theorem taken_facts (d : SD) : (takenD d).lo.length ≤ (takenD d).up.length ∧ (takenD d).up.length ≤ 64 ∧ ((takenD d).lo.length : Int) ≤ (takenD d).least ∧ (takenD d).most ≤ ((takenD d).up.length : Int) ∧ (takenD d).least ≤ 64 ∧ -64 ≤ (takenD d).most ∧ (takenD d).rn = 0 ∧ (takenD d).set = true ∧ IsSet (takenD d).lo ∧ IsSet (takenD d).up := by
  have hnone : noneD.lo.length ≤ noneD.up.length ∧ noneD.up.length ≤ 64 ∧ (noneD.lo.length : Int) ≤ noneD.least ∧ noneD.most ≤ (noneD.up.length : Int) ∧ noneD.least ≤ 64 ∧ -64 ≤ noneD.most ∧ noneD.rn = 0 ∧ noneD.set = true ∧ IsSet noneD.lo ∧ IsSet noneD.up := by
    refine ⟨by decide, by decide, by decide, by decide, by decide, by decide, rfl, rfl, ?_, ?_⟩ <;> exact ⟨by decide, fun i hi => by simp [noneD] at hi⟩
  unfold takenD
  split
  · rename_i hR
    obtain ⟨_, _, s1, s2, _, hh⟩ := hR
    have l1 := s1.1
    have l2 := s2.1
    unfold tightD
    dsimp only
    split
    · exact hnone
    · rename_i hML
      rcases hh with ⟨e1, e2, e3⟩ | ⟨e1, e2, e3⟩
      · exfalso; omega
      · by_cases q1 : max d.least (d.lo.length : Int) = (d.up.length : Int)
        · simp only [q1, if_true]
          by_cases q2 : min d.most (d.up.length : Int) = (d.up.length : Int)
          · simp only [q2, if_true]
            refine ⟨by omega, by omega, by omega, by omega, by omega, by omega, trivial, trivial, s2, s2⟩
          · simp only [q2, if_false]
            refine ⟨by omega, by omega, by omega, by omega, by omega, by omega, trivial, trivial, s2, s2⟩
        · simp only [q1, if_false]
          by_cases q2 : min d.most (d.up.length : Int) = (d.lo.length : Int)
          · simp only [q2, if_true]
            refine ⟨by omega, by omega, by omega, by omega, by omega, by omega, trivial, trivial, s1, s1⟩
          · simp only [q2, if_false]
            refine ⟨by omega, by omega, by omega, by omega, by omega, by omega, trivial, trivial, s1, s2⟩
  · exact hnone

/-- The sum of some numbers of a row, up to a limit. -/
def cs (r base : Nat) : Nat → Int
  | 0 => 0
  | j + 1 => min (cs r base j + ch r (base + j)) 4611686018427387904
theorem cs_bound (r base : Nat) (hr : r ≤ 64) : ∀ j, 0 ≤ cs r base j ∧ cs r base j ≤ 4611686018427387904
  | 0 => by unfold cs; omega
  | j + 1 => by
    have h1 := cs_bound r base hr j
    have h2 := ch_nonneg r (base + j)
    unfold cs; omega
def countT (T : SD) : Int := cs (T.up.length - T.lo.length) (T.least - (T.lo.length : Int)).toNat (T.most + 1 - T.least).toNat
def countD (d : SD) : Int := countT (takenD d)

set_option maxRecDepth 100000 in
set_option maxHeartbeats 4000000 in
theorem count_any (v : Value) (d : SD) (W : World) (h : Di W v d) :
    Calls Tryz.prog 149 #[v] W fun e w' => e = .returned (.int .i64 (countD d)) ∧ Below W.heap.size W w' := by
  have ht := fun X (hX : Below W.heap.size W X) => taken_dom v d X (h.below hX)
  obtain ⟨ra, rc, slo, sup, rfl, h1, h2⟩ := h
  obtain ⟨a1, c1, rfl, _⟩ := h1
  obtain ⟨a2, c2, rfl, _⟩ := h2
  have hf := taken_facts d
  have hcd : countD d = countT (takenD d) := rfl
  obtain ⟨T, hTD⟩ : ∃ X, takenD d = X := ⟨_, rfl⟩
  obtain ⟨CD, hCD⟩ : ∃ x, countD d = x := ⟨_, rfl⟩
  rw [hTD] at hf hcd
  rw [hCD] at hcd ⊢
  simp only [hTD] at ht
  obtain ⟨st, rn, lo, up, least, most⟩ := d
  simp only at ht ⊢
  obtain ⟨n1, hn1⟩ : ∃ n, lo.length = n := ⟨_, rfl⟩
  obtain ⟨n2, hn2⟩ : ∃ n, up.length = n := ⟨_, rfl⟩
  simp only [hn1, hn2] at ht ⊢
  obtain ⟨W0, hW0⟩ : ∃ X, W.alloc (Obj.cells #[.bool st, .slice ra rn rc, .slice a1 n1 c1, .slice a2 n2 c2, .int .i64 least, .int .i64 most] 50) = X := ⟨_, rfl⟩
  have HW0 : Hid _ := hW0
  have hb0 : Below W.heap.size W W0 := by rw [← hW0]; exact (Below.refl _ W).alloc (Nat.le_refl _) _
  have hR0 : W0.heap[W.heap.size]? = some (.cells #[.bool st, .slice ra rn rc, .slice a1 n1 c1, .slice a2 n2 c2, .int .i64 least, .int .i64 most] 50 (0, 0)) := by rw [← hW0]; exact World.alloc_heap_new W _
  have hlt0 : W.heap.size < W0.heap.size := (Array.getElem?_eq_some_iff.1 hR0).1
  have ht0 := ht _ hb0
  obtain ⟨z0, z1, z2, z3, z4, z5⟩ := six_cells hR0
  have HF : Hid (_ ∧ CD = countT T) := ⟨hf, hcd⟩
  clear hTD hn1 hn2 ht hW0 hf hcd hCD
  go_enter Tryz.func149, Tryz.ntmps149
  go_upto_region 1 with (fail)
  rw [HW0.out]
  go_wp2_with fail
  refine ht0.mono ?_
  rintro e w2 ⟨v2, rfl, hD2, hb2⟩
  have hB2 : Below W.heap.size W w2 := hb0.trans (hb2.mono hb0.size)
  have HZ2 : Hid _ := (hb2.block W.heap.size hlt0).trans hR0
  obtain ⟨slo, sup, rfl, e0, o1, o2⟩ := hD2
  obtain ⟨p1, k1, rfl⟩ := own_slice o1
  obtain ⟨p2, k2, rfl⟩ := own_slice o2
  clear o1 o2
  obtain ⟨m1, hm1⟩ : ∃ n, T.lo.length = n := ⟨_, rfl⟩
  obtain ⟨m2, hm2⟩ : ∃ n, T.up.length = n := ⟨_, rfl⟩
  obtain ⟨x0, hx0⟩ : ∃ x, T.set = x := ⟨_, rfl⟩
  obtain ⟨x4, hx4⟩ : ∃ x, T.least = x := ⟨_, rfl⟩
  obtain ⟨x5, hx5⟩ : ∃ x, T.most = x := ⟨_, rfl⟩
  obtain ⟨⟨f1, f2, f3, f4, f5, f6, _⟩, hCT⟩ := HF.out
  have hCT2 : CD = cs (m2 - m1) (x4 - (m1 : Int)).toNat (x5 + 1 - x4).toNat := by rw [hCT]; unfold countT; rw [hm1, hm2, hx4, hx5]
  simp only [hm1, hm2, hx0, hx4, hx5] at f1 f2 f3 f4 f5 f6 ⊢
  have hBS := below_setRow hB2 (Nat.le_refl W.heap.size) #[.bool x0, .slice none 0 0, .slice p1 m1 k1, .slice p2 m2 k2, .int .i64 x4, .int .i64 x5]
  have HROW : Hid _ := setRow_heap w2 W.heap.size _ #[.bool x0, .slice none 0 0, .slice p1 m1 k1, .slice p2 m2 k2, .int .i64 x4, .int .i64 x5] 50 (0, 0) HZ2.out
  have HSZ : Hid ((Tryz.prog.info? 50).map (·.size) = some (#[.bool x0, .slice none 0 0, .slice p1 m1 k1, .slice p2 m2 k2, .int .i64 x4, .int .i64 x5] : Array Value).size) := Tryz.size50
  have HSO : Hid ((#[.bool st, .slice ra rn rc, .slice a1 n1 c1, .slice a2 n2 c2, .int .i64 least, .int .i64 most] : Array Value).size = (#[.bool x0, .slice none 0 0, .slice p1 m1 k1, .slice p2 m2 k2, .int .i64 x4, .int .i64 x5] : Array Value).size) := rfl
  have HSA : Hid ((#[.bool x0, .slice none 0 0, .slice p1 m1 k1, .slice p2 m2 k2, .int .i64 x4, .int .i64 x5] : Array Value).all (·.oneCell') = true) := by unfold Hid; simp [Value.oneCell']
  have HCD : Hid (CD = cs (m2 - m1) (x4 - (m1 : Int)).toNat (x5 + 1 - x4).toNat) := hCT2
  clear hb2 hB2 ht0 z0 z1 z2 z3 z4 z5 hR0 hlt0 hb0 HF hCT hCT2 hm1 hm2 hx0 hx4 hx5 e0
  go_upto_region 2 with (with_reducible refine wpList_store_row rfl 50 (.tmp 1) (.tmp 7) rfl W.heap.size #[.bool x0, .slice none 0 0, .slice p1 m1 k1, .slice p2 m2 k2, .int .i64 x4, .int .i64 x5] (by with_unfolding_all rfl) (by with_unfolding_all rfl) 50 _ HZ2.out HSZ.out HSO.out HSA.out ?_)
  simp only [Act.put]
  generalize w2.setRow W.heap.size #[.bool x0, .slice none 0 0, .slice p1 m1 k1, .slice p2 m2 k2, .int .i64 x4, .int .i64 x5] = W3 at hBS HROW ⊢
  obtain ⟨z0, z1, z2, z3, z4, z5⟩ := six_cells HROW.out
  clear HZ2 HSZ HSO HSA
  have hsub : IntKind.i64.wrap ((m2 : Int) - (m1 : Int)) = ((m2 - m1 : Nat) : Int) := by rw [IntKind.wrap_i64]; omega
  obtain ⟨rr, hrr⟩ : ∃ q, m2 - m1 = q := ⟨_, rfl⟩
  rw [hrr] at hsub HCD
  have hc := choices_any rr (by omega) W3
  obtain ⟨hz, _⟩ := zero_of_info info82
  have hZs := row65_size (fun _ => 0)
  generalize row65 (fun _ => 0) = Z at hz hZs
  have hTs := row65_size (ch rr)
  have hTo := row65_one (ch rr)
  go_wp2_with fail
  refine hc.mono ?_
  rintro e w4 ⟨rfl, hb4⟩
  have hB4 : Below W.heap.size W w4 := hBS.trans (hb4.mono hBS.size)
  have hlt3 : W.heap.size < W3.heap.size := (Array.getElem?_eq_some_iff.1 HROW.out).1
  have HR4 : Hid _ := (hb4.block W.heap.size hlt3).trans HROW.out
  have hlt4 : W.heap.size < w4.heap.size := Nat.lt_of_lt_of_le hlt3 hb4.size
  have HG : Hid ((w4.alloc (Obj.cells Z 183)).heap[w4.heap.size]? = some (.cells Z 183 (0, 0))) := World.alloc_heap_new w4 _
  have HR5 : Hid ((w4.alloc (Obj.cells Z 183)).heap[W.heap.size]? = some (.cells #[.bool x0, .slice none 0 0, .slice p1 m1 k1, .slice p2 m2 k2, .int .i64 x4, .int .i64 x5] 50 (0, 0))) := (Below.heap_alloc _ _ _ hlt4).trans HR4.out
  have hB5 : Below W.heap.size W (w4.alloc (Obj.cells Z 183)) := hB4.alloc hB4.size _
  have hRR : W.heap.size ≠ w4.heap.size := by omega
  obtain ⟨TT, hTT⟩ : ∃ T, row65 (ch rr) = T := ⟨_, rfl⟩
  rw [hTT] at hTs hTo ⊢
  have HA : Hid ((Tryz.prog.info? 183).map (·.size) = some TT.size ∧ Z.size = TT.size ∧ TT.all (·.oneCell') = true) := ⟨by rw [hTs]; exact size82, by rw [hZs, hTs], hTo⟩
  have HW5 : Hid (Below W.heap.size W ((w4.alloc (Obj.cells Z 183)).setRow w4.heap.size TT) ∧ ((w4.alloc (Obj.cells Z 183)).setRow w4.heap.size TT).heap[W.heap.size]? = some (.cells #[.bool x0, .slice none 0 0, .slice p1 m1 k1, .slice p2 m2 k2, .int .i64 x4, .int .i64 x5] 50 (0, 0)) ∧ ((w4.alloc (Obj.cells Z 183)).setRow w4.heap.size TT).heap[w4.heap.size]? = some (.cells (row65 (ch rr)) 183 (0, 0))) :=
    ⟨below_setRow hB5 hB4.size TT, (setRow_other _ w4.heap.size W.heap.size TT hRR).trans HR5.out, by rw [hTT]; exact setRow_heap _ w4.heap.size Z TT 183 (0, 0) HG.out⟩
  have hge := hB4.size
  clear hTT hTs hTo hZs hb4 HROW hc z0 z1 z2 z3 z4 z5 HR4 HR5 hB5 hlt3
  generalize hR : w4.heap.size = R at HG HW5 hRR hge
  go_upto_region 3 with (with_reducible refine wpList_store_row rfl 183 (.tmp 3) (.tmp 15) rfl R TT (by rw [← hR]; with_unfolding_all rfl) (by with_unfolding_all rfl) 183 Z HG.out HA.out.1 HA.out.2.1 HA.out.2.2 ?_)
  simp only [Act.put]
  generalize (w4.alloc (Obj.cells Z 183)).setRow R TT = W5 at HW5 ⊢
  obtain ⟨hB5, hr5, hg5⟩ := HW5.out
  obtain ⟨z0, z1, z2, z3, z4, z5⟩ := six_cells hr5
  have HG5 : Hid (W5.heap[R]? = some (.cells (row65 (ch rr)) 183 (0, 0))) := hg5
  have HB5 : Hid (Below W.heap.size W W5) := hB5
  obtain ⟨base, hbase⟩ : ∃ q, (x4 - (m1 : Int)).toNat = q := ⟨_, rfl⟩
  rw [hbase] at HCD
  have HBI : Hid (x4 = (m1 : Int) + (base : Int)) := by unfold Hid; omega
  clear HG HA HW5 hr5 hg5 hB5 hz hB4 hlt4 hR hge hBS z0 z1 hbase
  go_wp2
  go_loopw [4, 5] (fun n sz wr => ∃ j : Nat, n = .int .i64 (cs rr base j) ∧ sz = .int .i64 (x4 + (j : Int)) ∧ (j : Int) ≤ max 0 (x5 + 1 - x4) ∧ wr = W5) (fun n sz _ => (x5 + 1 - intOf sz).toNat)
  case atStart => exact ⟨0, rfl, by simp, by omega, rfl⟩
  case round =>
    obtain ⟨j, rfl, rfl, hj, rfl⟩ := hrel
    by_cases hle : x4 + (j : Int) ≤ x5
    · have hbi := HBI.out
      have q1 : wr.cell? ⟨R, base + j, none⟩ = some (.int .i64 (ch rr (base + j))) := by rw [cell_row HG5.out, row65_get _ _ (by omega)]
      have q2 : IntKind.i64.wrap (x4 + (j : Int) - (m1 : Int)) = ((base + j : Nat) : Int) := by rw [IntKind.wrap_i64]; omega
      have q3 : ((base + j : Nat) : Int) < 65 := by omega
      have b1 := ch_lt rr (base + j) (by omega)
      have b2 := ch_nonneg rr (base + j)
      have b3 := cs_bound rr base (by omega) j
      have b4 : Hid (cs rr base (j + 1) = min (cs rr base j + ch rr (base + j)) 4611686018427387904) := rfl
      generalize ch rr (base + j) = x at q1 b1 b2 b4
      generalize cs rr base j = y at b3 b4 ⊢
      have q4 : IntKind.i64.wrap (y + x) = y + x := by rw [IntKind.wrap_i64]; omega
      have q5 : IntKind.i64.wrap (x4 + (j : Int) + 1) = x4 + (j : Int) + 1 := by rw [IntKind.wrap_i64]; omega
      clear hbi
      generalize hbj : base + j = bj at q1 q2 q3
      have HBJ : Hid (base + j = bj) := hbj
      clear hbj
      go_wp2
      refine ⟨⟨j + 1, by rw [b4.out], ?_, by omega, trivial⟩, ?_⟩
      · have : x4 + (j : Int) + 1 = x4 + ((j + 1 : Nat) : Int) := by omega
        rw [this]
      · simp only [intOf]; omega
    · have hjj : j = (x5 + 1 - x4).toNat := by omega
      subst hjj
      go_wp2
      go_ret
      exact ⟨by rw [HCD.out]; rfl, HB5.out⟩
end Go.Proofs.YthkliicmoandmaaGreatDoor.St


namespace Go.Proofs.YthkliicmoandmaaGreatDoor.St
open Go.RowKit Go.Shelf
set_option linter.unusedVariables false
set_option linter.unusedSimpArgs false

/-- Block g holds a domain of sets. -/
structure R6 (w : World) (g : Nat) (x0 x1 x2 x3 x4 x5 : Value) : Prop where
  h : w.heap[g]? = some (.cells #[x0, x1, x2, x3, x4, x5] 50 (0, 0))
theorem R6.lt {w : World} {g : Nat} {x0 x1 x2 x3 x4 x5 : Value} (h : R6 w g x0 x1 x2 x3 x4 x5) : g < w.heap.size := (Array.getElem?_eq_some_iff.1 h.h).1
theorem R6.below {w w' : World} {g : Nat} {x0 x1 x2 x3 x4 x5 : Value} (h : R6 w g x0 x1 x2 x3 x4 x5) (hb : Below w.heap.size w w') : R6 w' g x0 x1 x2 x3 x4 x5 := ⟨(hb.block g h.lt).trans h.h⟩
theorem R6.cells {w : World} {g : Nat} {x0 x1 x2 x3 x4 x5 : Value} (h : R6 w g x0 x1 x2 x3 x4 x5) :
    w.cell? ⟨g, 0, none⟩ = some x0 ∧ w.cell? ⟨g, 1, none⟩ = some x1 ∧ w.cell? ⟨g, 2, none⟩ = some x2 ∧ w.cell? ⟨g, 3, none⟩ = some x3 ∧ w.cell? ⟨g, 4, none⟩ = some x4 ∧ w.cell? ⟨g, 5, none⟩ = some x5 := six_cells h.h
theorem R6.new (w : World) (x0 x1 x2 x3 x4 x5 : Value) : R6 (w.alloc (.cells #[x0, x1, x2, x3, x4, x5] 50)) w.heap.size x0 x1 x2 x3 x4 x5 := ⟨World.alloc_heap_new w _⟩
theorem R6.new1 (w : World) (o : Obj) (x0 x1 x2 x3 x4 x5 : Value) : R6 ((w.alloc o).alloc (.cells #[x0, x1, x2, x3, x4, x5] 50)) (w.heap.size + 1) x0 x1 x2 x3 x4 x5 := by
  have := World.alloc_heap_new (w.alloc o) (.cells #[x0, x1, x2, x3, x4, x5] 50)
  rw [World.size_alloc] at this
  exact ⟨this⟩
theorem R6.alloc {w : World} {g : Nat} {x0 x1 x2 x3 x4 x5 : Value} (h : R6 w g x0 x1 x2 x3 x4 x5) (o : Obj) : R6 (w.alloc o) g x0 x1 x2 x3 x4 x5 := ⟨(Below.heap_alloc _ _ _ h.lt).trans h.h⟩
theorem R6.set {w : World} {g : Nat} {y0 y1 y2 y3 y4 y5 : Value} (h : R6 w g y0 y1 y2 y3 y4 y5) (x0 x1 x2 x3 x4 x5 : Value) : R6 (w.setRow g #[x0, x1, x2, x3, x4, x5]) g x0 x1 x2 x3 x4 x5 := ⟨setRow_heap w g _ _ 50 (0, 0) h.h⟩
theorem R6.other {w : World} {g k : Nat} {x0 x1 x2 x3 x4 x5 : Value} (h : R6 w k x0 x1 x2 x3 x4 x5) (hk : k ≠ g) (cs : Array Value) : R6 (w.setRow g cs) k x0 x1 x2 x3 x4 x5 := ⟨(setRow_other w g k cs hk).trans h.h⟩
theorem R6.res {fn : Func} {p : Tmp} (hf : fn.results = #[.cell p 50]) (tmps : Array Value) {w : World} {g : Nat} {x0 x1 x2 x3 x4 x5 : Value} (h : R6 w g x0 x1 x2 x3 x4 x5) (hp : tmps.getD p undef = .pointer (some ⟨g, 0, none⟩)) :
    (results fn tmps).run Tryz.prog w = .ok (.agg #[x0, x1, x2, x3, x4, x5]) w := results_cell_row hf tmps w g 50 _ (0, 0) _ hp h.h Tryz.underlying50 rfl Tryz.size50
/-- The row of a domain: six values of one cell each. -/
def Six (x0 x1 x2 x3 x4 x5 : Value) : Prop := x0.oneCell' = true ∧ x1.oneCell' = true ∧ x2.oneCell' = true ∧ x3.oneCell' = true ∧ x4.oneCell' = true ∧ x5.oneCell' = true
theorem six_dom (b : Bool) (p0 p1 p2 : Option Addr) (m0 k0 m1 k1 m2 k2 : Nat) (i j : Int) : Six (.bool b) (.slice p0 m0 k0) (.slice p1 m1 k1) (.slice p2 m2 k2) (.int .i64 i) (.int .i64 j) := ⟨rfl, rfl, rfl, rfl, rfl, rfl⟩
theorem Six.all {x0 x1 x2 x3 x4 x5 : Value} (h : Six x0 x1 x2 x3 x4 x5) : (#[x0, x1, x2, x3, x4, x5] : Array Value).all (·.oneCell') = true := by
  obtain ⟨h0, h1, h2, h3, h4, h5⟩ := h
  simp [h0, h1, h2, h3, h4, h5]
theorem st37 {ops : Array Oper} {rest : List Oper} {o : Oper} {a : Act} {w : World} {Q : Exit → Act → World → Prop} {y0 y1 y2 y3 y4 y5 : Value} (hgd : o.guard = none) (x y : Operand) (ho : o.op = .store 50 x y)
    (g : Nat) (x0 x1 x2 x3 x4 x5 : Value) (hx : a.eval x = .pointer (some ⟨g, 0, none⟩)) (hy : a.eval y = .agg #[x0, x1, x2, x3, x4, x5]) (hg : R6 w g y0 y1 y2 y3 y4 y5) (hs : Six x0 x1 x2 x3 x4 x5)
    (h : wpList Tryz.prog ops Q rest (a.put o.dst undef) (w.setRow g #[x0, x1, x2, x3, x4, x5])) : wpList Tryz.prog ops Q (o :: rest) a w :=
  wpList_store_row hgd 50 x y ho g _ hx hy 50 _ hg.h Tryz.size50 rfl hs.all h
theorem store_row {P : Program} {op : Oper} {a : Act} {w : World} {K : Act → World → Prop} {Q : Exit → Act → World → Prop} (ty : TypeId) (x y : Operand) (ho : op.op = .store ty x y)
    (g : Nat) (cells : Array Value) (hx : a.eval x = .pointer (some ⟨g, 0, none⟩)) (hy : a.eval y = .agg cells)
    (t : TypeId) (old : Array Value) (hg : w.heap[g]? = some (.cells old t (0, 0))) (hi : (P.info? ty).map (·.size) = some cells.size)
    (hold : old.size = cells.size) (h1 : cells.all (·.oneCell') = true)
    (h : K (a.put op.dst undef) (w.setRow g cells)) : Oper.wp P op a w K Q := by
  unfold Oper.wp
  unfold execOp
  simp only [ho, hx, hy, Instr.storeAt, Instr.sureAddr, Sem.run_bind, Sem.run_pure, Result.andThen_ok, run_storeVar_row w g t ty old cells hg hi hold h1]
  exact h
/-- The same at a step of a region that draws its order. -/
theorem step37 {ops : Array Oper} {o : Oper} {a : Act} {w : World} {K : Act → World → Prop} {Q : Exit → Act → World → Prop} {E : Prop} {y0 y1 y2 y3 y4 y5 : Value} (hgd : o.guard = none) (x y : Operand) (ho : o.op = .store 50 x y)
    (g : Nat) (x0 x1 x2 x3 x4 x5 : Value) (hx : a.eval x = .pointer (some ⟨g, 0, none⟩)) (hy : a.eval y = .agg #[x0, x1, x2, x3, x4, x5]) (hg : R6 w g y0 y1 y2 y3 y4 y5) (hs : Six x0 x1 x2 x3 x4 x5)
    (h : K (a.put o.dst undef) (w.setRow g #[x0, x1, x2, x3, x4, x5])) : if Region.wanted o (yielded ops a.tmps) = true then Oper.wp Tryz.prog o a w K Q else E := by
  have hw : Region.wanted o (yielded ops a.tmps) = true := by simp [Region.wanted, hgd]
  rw [if_pos hw]
  exact store_row 50 x y ho g _ hx hy 50 _ hg.h Tryz.size50 rfl hs.all h
theorem Dv.set {B g : Nat} {w : World} {v : Value} {d : SD} {y0 y1 y2 y3 y4 y5 : Value} (h : Dv B w v d) (hg : R6 w g y0 y1 y2 y3 y4 y5) (cs : Array Value) : Dv B (w.setRow g cs) v d := by
  obtain ⟨slo, sup, e, e0, o1, o2⟩ := h
  exact ⟨slo, sup, e, e0, own_setRow o1 g cs hg.h, own_setRow o2 g cs hg.h⟩
theorem Dv.base {B B' : Nat} {w : World} {v : Value} {d : SD} (h : Dv B w v d) (hb : B' ≤ B) : Dv B' w v d := by
  obtain ⟨slo, sup, e, e0, o1, o2⟩ := h
  exact ⟨slo, sup, e, e0, own_base o1 hb, own_base o2 hb⟩
/-- What a domain in memory of its own looks like. -/
theorem Dv.look {B : Nat} {w : World} {v : Value} {d : SD} (h : Dv B w v d) : ∃ x0 p1 m1 k1 p2 m2 k2 x4 x5, v = .agg #[.bool x0, .slice none 0 0, .slice p1 m1 k1, .slice p2 m2 k2, .int .i64 x4, .int .i64 x5] ∧
    Hid (d.set = x0 ∧ d.lo.length = m1 ∧ d.up.length = m2 ∧ d.least = x4 ∧ d.most = x5 ∧ d.rn = 0) ∧ Hid (w.ownsRow B 2 1 (.slice p1 m1 k1) m1 (intv d.lo)) ∧ Hid (w.ownsRow B 2 1 (.slice p2 m2 k2) m2 (intv d.up)) := by
  obtain ⟨slo, sup, e, e0, o1, o2⟩ := h
  obtain ⟨p1, k1, rfl⟩ := own_slice o1
  obtain ⟨p2, k2, rfl⟩ := own_slice o2
  exact ⟨_, _, _, _, _, _, _, _, _, e, ⟨rfl, rfl, rfl, rfl, rfl, e0⟩, o1, o2⟩
/-- What a domain that is handed in looks like. -/
theorem Di.look {w : World} {v : Value} {d : SD} (h : Di w v d) : ∃ x0 ra rn rc a1 n1 c1 a2 n2 c2 x4 x5, v = .agg #[.bool x0, .slice ra rn rc, .slice a1 n1 c1, .slice a2 n2 c2, .int .i64 x4, .int .i64 x5] ∧
    Hid (d.set = x0 ∧ d.lo.length = n1 ∧ d.up.length = n2 ∧ d.least = x4 ∧ d.most = x5 ∧ d.rn = rn) ∧ Hid (Si w (.slice a1 n1 c1) d.lo) ∧ Hid (Si w (.slice a2 n2 c2) d.up) := by
  obtain ⟨ra, rc, slo, sup, e, h1, h2⟩ := h
  have h1' := h1
  have h2' := h2
  obtain ⟨a1, c1, rfl, _⟩ := h1'
  obtain ⟨a2, c2, rfl, _⟩ := h2'
  exact ⟨_, _, _, _, _, _, _, _, _, _, _, _, e, ⟨rfl, rfl, rfl, rfl, rfl, rfl⟩, h1, h2⟩
theorem si_look {w : World} {s : Value} {l : List Int} (h : Si w s l) : ∃ a n c, s = .slice a n c ∧ Hid (Si w (.slice a n c) l) ∧ Hid (l.length = n) := by
  have h' := h
  obtain ⟨a, c, rfl, _⟩ := h'
  exact ⟨_, _, _, rfl, h, rfl⟩
theorem own_si' {W : World} {base n : Nat} {s : Value} {l : List Int} (h : W.ownsRow base 2 1 s n (intv l)) (hn : l.length = n) : Si W s l := by subst hn; exact own_si h
end Go.Proofs.YthkliicmoandmaaGreatDoor.St


namespace Go.Proofs.YthkliicmoandmaaGreatDoor.St
open Go.RowKit Go.Shelf
set_option linter.unusedVariables false
set_option linter.unusedSimpArgs false

theorem one_si (w : World) (x : Int) : Si (w.alloc (Obj.cells #[.int .i64 x] 2)) (.slice (some ⟨w.heap.size, 0, none⟩) 1 1) [x] := by
  refine ⟨_, _, rfl, fun _ => ⟨_, _, rfl, by rw [World.size_alloc]; omega, fun i hi => ?_⟩⟩
  have hi0 : i = 0 := by simp at hi; omega
  subst hi0
  have := World.alloc_heap_new w (Obj.cells #[.int .i64 x] 2)
  show (w.alloc (Obj.cells #[.int .i64 x] 2)).cell? ⟨w.heap.size, 0 + 0, none⟩ = _
  rw [cell_row this]
  rfl
end Go.Proofs.YthkliicmoandmaaGreatDoor.St

