/-
  What is proved here: the reference's None, bare, Right, Empty and taken of any domain. the reference's Tight of any two sets of which one is within the other.
-/
import Derived.Test.YthkliicmoandmaaGreatDoorYNbj
import Derived.Deep.RegionHeld3
import Derived.Test.YthkliicmoandmaaGreatDoorYSdj
import Derived.Test.YthkliicmoandmaaGreatDoorYSa
import Derived.Lib.ItoaLen
import Derived.Lib.ParseIntBTie
import Derived.Lib.SplitLaws
import Derived.Lib.SlTrimSet
import Derived.Lib.AppendStr
import Derived.Lib.AppendIntMem
import Derived.Lib.SmallJoins
import Derived.Laws.IdiomStrings
import Derived.Shelf.Strconv.Itoa4
import Derived.Laws.Concat
import Derived.Laws.Strings
import Derived.Maps.AppendAt
import Derived.Sort.Row
namespace Go.Proofs.YthkliicmoandmaaGreatDoor.St
open Go.RowKit Go.Shelf
set_option linter.unusedVariables false
set_option linter.unusedSimpArgs false

def bareB (d : SD) : Bool := d.set && decide (d.rn = 0) && decide (d.lo.length = 0) && decide (d.up.length = 0) && decide (d.least = 1) && decide (d.most = 0)
theorem right_eq (d : SD) : rightD d = (bareB d || (d.set && decide (d.rn = 0) && setB d.lo && setB d.up && subB (tkS d.lo) (tkS d.up) && decide ((d.lo.length : Int) ≤ d.least) && decide (d.least ≤ d.most) && decide (d.most ≤ (d.up.length : Int)))) := by
  rw [Bool.eq_iff_iff]
  unfold rightD bareB setB
  simp only [Bool.or_eq_true, Bool.and_eq_true, decide_eq_true_iff]
  constructor
  · rintro ⟨h1, h2, h3, h4, h5, h6⟩
    rcases h6 with ⟨e1, e2, e3⟩ | ⟨e1, e2, e3⟩
    · left
      have : d.lo.length ≤ d.up.length := set_sub_len h3 h4 ((subB_iff _ _).1 h5)
      exact ⟨⟨⟨⟨⟨h1, h2⟩, by omega⟩, e3⟩, e1⟩, e2⟩
    · right
      rw [tkS_yes h3, tkS_yes h4]
      exact ⟨⟨⟨⟨⟨⟨⟨h1, h2⟩, h3⟩, h4⟩, h5⟩, e1⟩, e2⟩, e3⟩
  · rintro (⟨⟨⟨⟨⟨h1, h2⟩, h3⟩, h4⟩, h5⟩, h6⟩ | ⟨⟨⟨⟨⟨⟨⟨h1, h2⟩, h3⟩, h4⟩, h5⟩, e1⟩, e2⟩, e3⟩)
    · have l1 := List.eq_nil_of_length_eq_zero h3
      have l2 := List.eq_nil_of_length_eq_zero h4
      exact ⟨h1, h2, by rw [l1]; exact isSet_nil, by rw [l2]; exact isSet_nil, by rw [l1, l2]; rfl, .inl ⟨h5, h6, h4⟩⟩
    · rw [tkS_yes h3, tkS_yes h4] at h5
      exact ⟨h1, h2, h3, h4, h5, .inr ⟨e1, e2, e3⟩⟩

set_option maxRecDepth 100000 in
set_option maxHeartbeats 4000000 in
theorem bare_any (v : Value) (d : SD) (W : World) (h : Di W v d) :
    Calls Tryz.prog 116 #[v] W fun e w' => e = .returned (.bool (bareB d)) ∧ Below W.heap.size W w' := by
  obtain ⟨x0a, raa, rna, rca, a1a, n1a, c1a, a2a, n2a, c2a, x4a, x5a, rfl, HEa, HLOa, HUPa⟩ := h.look
  have hH : bareB d = (d.set && decide (d.rn = 0) && decide (d.lo.length = 0) && decide (d.up.length = 0) && decide (d.least = 1) && decide (d.most = 0)) := rfl
  obtain ⟨e1, e2, e3, e4, e5, e6⟩ := HEa.out
  rw [e1, e2, e3, e4, e5, e6] at hH
  have HH : Hid _ := hH
  generalize bareB d = r at HH ⊢
  obtain ⟨w0, hW0⟩ : ∃ X, (W.alloc (Obj.cells #[.bool x0a, .slice raa rna rca, .slice a1a n1a c1a, .slice a2a n2a c2a, .int .i64 x4a, .int .i64 x5a] 50)) = X := ⟨_, rfl⟩
  have HW0 : Hid _ := hW0
  have hb0 : Below W.heap.size W w0 := by rw [← hW0]; exact ((Below.refl _ W).alloc (by simp <;> omega) _)
  have HA_0 : Hid (R6 w0 W.heap.size (.bool x0a) (.slice raa rna rca) (.slice a1a n1a c1a) (.slice a2a n2a c2a) (.int .i64 x4a) (.int .i64 x5a)) := by rw [← hW0]; exact (R6.new _ _ _ _ _ _ _)
  clear hW0
  clear h hH e1 e2 e3 e4 e5 e6 HEa HLOa HUPa
  cases x0a
  · go_enter Tryz.func116, Tryz.ntmps116
    go_upto_region 1 with (fail)
    rw [HW0.out]
    obtain ⟨z0, z1, z2, z3, z4, z5⟩ := HA_0.out.cells
    go_wp2
    go_ret
    exact ⟨ret_bool (by rw [HH.out]; first | (simp; done) | (simp [*]; done) | (simp; omega)), hb0⟩
  · by_cases q1 : rna = 0
    · subst q1
      by_cases q2 : n1a = 0
      · subst q2
        by_cases q3 : n2a = 0
        · subst q3
          by_cases q4 : x4a = 1
          · subst q4
            by_cases q5 : x5a = 0
            · subst q5
              go_enter Tryz.func116, Tryz.ntmps116
              go_upto_region 1 with (fail)
              rw [HW0.out]
              obtain ⟨z0, z1, z2, z3, z4, z5⟩ := HA_0.out.cells
              go_wp2
              go_ret
              exact ⟨ret_bool (by rw [HH.out]; first | (simp; done) | (simp [*]; done) | (simp; omega)), hb0⟩
            · have q5' : (x5a == 0) = false := by simpa using q5
              go_enter Tryz.func116, Tryz.ntmps116
              go_upto_region 1 with (fail)
              rw [HW0.out]
              obtain ⟨z0, z1, z2, z3, z4, z5⟩ := HA_0.out.cells
              go_wp2
              go_ret
              exact ⟨ret_bool (by rw [HH.out]; first | (simp; done) | (simp [*]; done) | (simp; omega)), hb0⟩
          · have q4' : (x4a == 1) = false := by simpa using q4
            go_enter Tryz.func116, Tryz.ntmps116
            go_upto_region 1 with (fail)
            rw [HW0.out]
            obtain ⟨z0, z1, z2, z3, z4, z5⟩ := HA_0.out.cells
            go_wp2
            go_ret
            exact ⟨ret_bool (by rw [HH.out]; first | (simp; done) | (simp [*]; done) | (simp; omega)), hb0⟩
        · have q3' : ((n2a : Int) == 0) = false := by simp; omega
          go_enter Tryz.func116, Tryz.ntmps116
          go_upto_region 1 with (fail)
          rw [HW0.out]
          obtain ⟨z0, z1, z2, z3, z4, z5⟩ := HA_0.out.cells
          go_wp2
          go_ret
          exact ⟨ret_bool (by rw [HH.out]; first | (simp; done) | (simp [*]; done) | (simp; omega)), hb0⟩
      · have q2' : ((n1a : Int) == 0) = false := by simp; omega
        go_enter Tryz.func116, Tryz.ntmps116
        go_upto_region 1 with (fail)
        rw [HW0.out]
        obtain ⟨z0, z1, z2, z3, z4, z5⟩ := HA_0.out.cells
        go_wp2
        go_ret
        exact ⟨ret_bool (by rw [HH.out]; first | (simp; done) | (simp [*]; done) | (simp; omega)), hb0⟩
    · have q1' : ((rna : Int) == 0) = false := by simp; omega
      go_enter Tryz.func116, Tryz.ntmps116
      go_upto_region 1 with (fail)
      rw [HW0.out]
      obtain ⟨z0, z1, z2, z3, z4, z5⟩ := HA_0.out.cells
      go_wp2
      go_ret
      exact ⟨ret_bool (by rw [HH.out]; first | (simp; done) | (simp [*]; done) | (simp; omega)), hb0⟩

set_option maxRecDepth 100000 in
set_option maxHeartbeats 4000000 in
theorem refright_any (v : Value) (d : SD) (W : World) (h : Di W v d) :
    Calls Tryz.prog 68 #[v] W fun e w' => e = .returned (.bool (rightD d)) ∧ Below W.heap.size W w' := by
  have k78 := fun X (hX : Below W.heap.size W X) => bare_any v d X (h.below hX)
  obtain ⟨x0a, raa, rna, rca, a1a, n1a, c1a, a2a, n2a, c2a, x4a, x5a, rfl, HEa, HLOa, HUPa⟩ := h.look
  have k30a := fun X (hX : Below W.heap.size W X) => refset_any (.slice a1a n1a c1a) d.lo X (HLOa.out.below hX)
  have k30b := fun X (hX : Below W.heap.size W X) => refset_any (.slice a2a n2a c2a) d.up X (HUPa.out.below hX)
  have k28 := fun X (hX : Below W.heap.size W X) => refsub_any (.slice a1a n1a c1a) (.slice a2a n2a c2a) d.lo d.up X (HLOa.out.below hX) (HUPa.out.below hX)
  have hH := right_eq d
  obtain ⟨e1, e2, e3, e4, e5, e6⟩ := HEa.out
  rw [e1, e2, e3, e4, e5, e6] at hH
  generalize rightD d = r at hH ⊢
  generalize bareB d = rb at hH k78
  generalize setB d.lo = s1 at hH k30a
  generalize setB d.up = s2 at hH k30b
  generalize subB (tkS d.lo) (tkS d.up) = s3 at hH k28
  have HH : Hid _ := hH
  obtain ⟨w0, hW0⟩ : ∃ X, (W.alloc (Obj.cells #[.bool x0a, .slice raa rna rca, .slice a1a n1a c1a, .slice a2a n2a c2a, .int .i64 x4a, .int .i64 x5a] 50)) = X := ⟨_, rfl⟩
  have HW0 : Hid _ := hW0
  have hb0 : Below W.heap.size W w0 := by rw [← hW0]; exact ((Below.refl _ W).alloc (by simp <;> omega) _)
  have HA_0 : Hid (R6 w0 W.heap.size (.bool x0a) (.slice raa rna rca) (.slice a1a n1a c1a) (.slice a2a n2a c2a) (.int .i64 x4a) (.int .i64 x5a)) := by rw [← hW0]; exact (R6.new _ _ _ _ _ _ _)
  clear hW0
  clear h hH e1 e2 e3 e4 e5 e6 HEa HLOa HUPa
  go_enter Tryz.func68, Tryz.ntmps68
  go_upto_region 1 with (fail)
  rw [HW0.out]
  obtain ⟨zA0, zA1, zA2, zA3, zA4, zA5⟩ := HA_0.out.cells
  go_wp2_with fail
  refine (k78 w0 hb0).mono ?_
  rintro e w1 ⟨rfl, hb⟩
  have hb1 : Below W.heap.size W w1 := hb0.trans (hb.mono hb0.size)
  have HA_1 : Hid _ := HA_0.out.below hb
  clear zA0 zA1 zA2 zA3 zA4 zA5
  clear hb hb0 HA_0
  obtain ⟨zA0, zA1, zA2, zA3, zA4, zA5⟩ := HA_1.out.cells
  cases rb
  · cases x0a
    · go_wp2
      go_ret
      exact ⟨ret_bool (by rw [HH.out]; first | (simp; done) | (simp [*]; done) | (simp; omega)), hb1⟩
    · by_cases q1 : rna = 0
      · subst q1
        cases s1
        · go_wp2_with fail
          refine (k30a w1 hb1).mono ?_
          rintro e w2 ⟨rfl, qd, hdw⟩
          have hb : Below w1.heap.size w1 w2 := by rw [hdw]; exact below_drewN (Below.refl _ _) _
          clear hdw
          have hb2 : Below W.heap.size W w2 := hb1.trans (hb.mono hb1.size)
          have HA_2 : Hid _ := HA_1.out.below hb
          clear zA0 zA1 zA2 zA3 zA4 zA5
          clear hb hb1 HA_1
          obtain ⟨zA0, zA1, zA2, zA3, zA4, zA5⟩ := HA_2.out.cells
          go_wp2
          go_ret
          exact ⟨ret_bool (by rw [HH.out]; first | (simp; done) | (simp [*]; done) | (simp; omega)), hb2⟩
        · go_wp2_with fail
          refine (k30a w1 hb1).mono ?_
          rintro e w2 ⟨rfl, qd, hdw⟩
          have hb : Below w1.heap.size w1 w2 := by rw [hdw]; exact below_drewN (Below.refl _ _) _
          clear hdw
          have hb2 : Below W.heap.size W w2 := hb1.trans (hb.mono hb1.size)
          have HA_2 : Hid _ := HA_1.out.below hb
          clear zA0 zA1 zA2 zA3 zA4 zA5
          clear hb hb1 HA_1
          obtain ⟨zA0, zA1, zA2, zA3, zA4, zA5⟩ := HA_2.out.cells
          cases s2
          · go_wp2_with fail
            refine (k30b w2 hb2).mono ?_
            rintro e w3 ⟨rfl, qd, hdw⟩
            have hb : Below w2.heap.size w2 w3 := by rw [hdw]; exact below_drewN (Below.refl _ _) _
            clear hdw
            have hb3 : Below W.heap.size W w3 := hb2.trans (hb.mono hb2.size)
            have HA_3 : Hid _ := HA_2.out.below hb
            clear zA0 zA1 zA2 zA3 zA4 zA5
            clear hb hb2 HA_2
            obtain ⟨zA0, zA1, zA2, zA3, zA4, zA5⟩ := HA_3.out.cells
            go_wp2
            go_ret
            exact ⟨ret_bool (by rw [HH.out]; first | (simp; done) | (simp [*]; done) | (simp; omega)), hb3⟩
          · go_wp2_with fail
            refine (k30b w2 hb2).mono ?_
            rintro e w3 ⟨rfl, qd, hdw⟩
            have hb : Below w2.heap.size w2 w3 := by rw [hdw]; exact below_drewN (Below.refl _ _) _
            clear hdw
            have hb3 : Below W.heap.size W w3 := hb2.trans (hb.mono hb2.size)
            have HA_3 : Hid _ := HA_2.out.below hb
            clear zA0 zA1 zA2 zA3 zA4 zA5
            clear hb hb2 HA_2
            obtain ⟨zA0, zA1, zA2, zA3, zA4, zA5⟩ := HA_3.out.cells
            cases s3
            · go_wp2_with fail
              refine (k28 w3 hb3).mono ?_
              rintro e w4 ⟨rfl, qd, hdw⟩
              have hb : Below w3.heap.size w3 w4 := by rw [hdw]; exact below_drewN (Below.refl _ _) _
              clear hdw
              have hb4 : Below W.heap.size W w4 := hb3.trans (hb.mono hb3.size)
              have HA_4 : Hid _ := HA_3.out.below hb
              clear zA0 zA1 zA2 zA3 zA4 zA5
              clear hb hb3 HA_3
              obtain ⟨zA0, zA1, zA2, zA3, zA4, zA5⟩ := HA_4.out.cells
              go_wp2
              go_ret
              exact ⟨ret_bool (by rw [HH.out]; first | (simp; done) | (simp [*]; done) | (simp; omega)), hb4⟩
            · go_wp2_with fail
              refine (k28 w3 hb3).mono ?_
              rintro e w4 ⟨rfl, qd, hdw⟩
              have hb : Below w3.heap.size w3 w4 := by rw [hdw]; exact below_drewN (Below.refl _ _) _
              clear hdw
              have hb4 : Below W.heap.size W w4 := hb3.trans (hb.mono hb3.size)
              have HA_4 : Hid _ := HA_3.out.below hb
              clear zA0 zA1 zA2 zA3 zA4 zA5
              clear hb hb3 HA_3
              obtain ⟨zA0, zA1, zA2, zA3, zA4, zA5⟩ := HA_4.out.cells
              by_cases q5 : (n1a : Int) ≤ x4a
              · by_cases q6 : x4a ≤ x5a
                · by_cases q7 : x5a ≤ (n2a : Int)
                  · go_wp2
                    go_ret
                    exact ⟨ret_bool (by rw [HH.out]; first | (simp; done) | (simp [*]; done) | (simp; omega)), hb4⟩
                  · go_wp2
                    go_ret
                    exact ⟨ret_bool (by rw [HH.out]; first | (simp; done) | (simp [*]; done) | (simp; omega)), hb4⟩
                · go_wp2
                  go_ret
                  exact ⟨ret_bool (by rw [HH.out]; first | (simp; done) | (simp [*]; done) | (simp; omega)), hb4⟩
              · go_wp2
                go_ret
                exact ⟨ret_bool (by rw [HH.out]; first | (simp; done) | (simp [*]; done) | (simp; omega)), hb4⟩
      · have q1' : ((rna : Int) == 0) = false := by simp; omega
        go_wp2
        go_ret
        exact ⟨ret_bool (by rw [HH.out]; first | (simp; done) | (simp [*]; done) | (simp; omega)), hb1⟩
  · go_wp2
    go_ret
    exact ⟨ret_bool (by rw [HH.out]; first | (simp; done) | (simp [*]; done) | (simp; omega)), hb1⟩

set_option maxRecDepth 100000 in
set_option maxHeartbeats 4000000 in
theorem refempty_any (v : Value) (d : SD) (W : World) (h : Di W v d) :
    Calls Tryz.prog 70 #[v] W fun e w' => e = .returned (.bool (emptyD d)) ∧ Below W.heap.size W w' := by
  have hr := fun X (hX : Below W.heap.size W X) => refright_any v d X (h.below hX)
  obtain ⟨ra, rc, slo, sup, rfl, h1, h2⟩ := h
  obtain ⟨a1, c1, rfl, _⟩ := h1
  obtain ⟨a2, c2, rfl, _⟩ := h2
  have he : emptyD d = (!rightD d || decide (d.most < d.least)) := rfl
  obtain ⟨st, rn, lo, up, least, most⟩ := d
  simp only at hr he ⊢
  obtain ⟨n1, hn1⟩ : ∃ n, lo.length = n := ⟨_, rfl⟩
  obtain ⟨n2, hn2⟩ : ∃ n, up.length = n := ⟨_, rfl⟩
  simp only [hn1, hn2] at hr ⊢
  obtain ⟨r, hrd⟩ : ∃ r, rightD ⟨st, rn, lo, up, least, most⟩ = r := ⟨_, rfl⟩
  rw [hrd] at he
  simp only [hrd] at hr
  have HE : Hid (emptyD ⟨st, rn, lo, up, least, most⟩ = (!r || decide (most < least))) := he
  have hb0 : Below W.heap.size W (W.alloc (Obj.cells #[.bool st, .slice ra rn rc, .slice a1 n1 c1, .slice a2 n2 c2, .int .i64 least, .int .i64 most] 50)) := (Below.refl _ W).alloc (Nat.le_refl _) _
  have hR0 := World.alloc_heap_new W (Obj.cells #[.bool st, .slice ra rn rc, .slice a1 n1 c1, .slice a2 n2 c2, .int .i64 least, .int .i64 most] 50)
  have hr0 := hr _ hb0
  clear he hrd hn1 hn2 hr
  by_cases hrr : r = true
  · subst hrr
    by_cases hlm : most < least
    · go_enter Tryz.func70, Tryz.ntmps70
      go_wp2_with fail
      refine hr0.mono ?_
      rintro e w1 ⟨rfl, hb1⟩
      obtain ⟨c0, c1', c2', c3, c4, c5⟩ := six_cells ((hb1.block W.heap.size (by simp)).trans hR0)
      have hB1 : Below W.heap.size W w1 := hb0.trans (hb1.mono hb0.size)
      clear hr0 hR0 hb1 hb0
      go_wp2
      go_ret
      exact ⟨ret_bool (by rw [HE.out]; simp [hlm]), hB1⟩
    · go_enter Tryz.func70, Tryz.ntmps70
      go_wp2_with fail
      refine hr0.mono ?_
      rintro e w1 ⟨rfl, hb1⟩
      obtain ⟨c0, c1', c2', c3, c4, c5⟩ := six_cells ((hb1.block W.heap.size (by simp)).trans hR0)
      have hB1 : Below W.heap.size W w1 := hb0.trans (hb1.mono hb0.size)
      clear hr0 hR0 hb1 hb0
      go_wp2
      go_ret
      exact ⟨ret_bool (by rw [HE.out]; simp [hlm]), hB1⟩
  · have hrr' : r = false := by simpa using hrr
    subst hrr'
    go_enter Tryz.func70, Tryz.ntmps70
    go_wp2_with fail
    refine hr0.mono ?_
    rintro e w1 ⟨rfl, hb1⟩
    have hB1 : Below W.heap.size W w1 := hb0.trans (hb1.mono hb0.size)
    clear hr0 hR0 hb1 hb0
    go_wp2
    go_ret
    exact ⟨ret_bool (by rw [HE.out]; simp), hB1⟩

def rtakenD (d : SD) : SD := if emptyD d then noneD else d

theorem R6.setc1 {w : World} {g : Nat} {x0 x1 x2 x3 x4 x5 : Value} (h : R6 w g x0 x1 x2 x3 x4 x5) (y : Value) : w.setCell ⟨g, 1, none⟩ y = w.setRow g #[x0, y, x2, x3, x4, x5] := by
  rw [Sort.setCell_eq]
  exact Sort.mapBlock_congr w g _ (fun _ => #[x0, y, x2, x3, x4, x5]) fun c e fr hc => by
    rw [h.h] at hc
    injection hc with hc
    injection hc with hc
    subst hc
    rfl
theorem R6.setc2 {w : World} {g : Nat} {x0 x1 x2 x3 x4 x5 : Value} (h : R6 w g x0 x1 x2 x3 x4 x5) (y : Value) : w.setCell ⟨g, 2, none⟩ y = w.setRow g #[x0, x1, y, x3, x4, x5] := by
  rw [Sort.setCell_eq]
  exact Sort.mapBlock_congr w g _ (fun _ => #[x0, x1, y, x3, x4, x5]) fun c e fr hc => by
    rw [h.h] at hc
    injection hc with hc
    injection hc with hc
    subst hc
    rfl
theorem R6.setc3 {w : World} {g : Nat} {x0 x1 x2 x3 x4 x5 : Value} (h : R6 w g x0 x1 x2 x3 x4 x5) (y : Value) : w.setCell ⟨g, 3, none⟩ y = w.setRow g #[x0, x1, x2, y, x4, x5] := by
  rw [Sort.setCell_eq]
  exact Sort.mapBlock_congr w g _ (fun _ => #[x0, x1, x2, y, x4, x5]) fun c e fr hc => by
    rw [h.h] at hc
    injection hc with hc
    injection hc with hc
    subst hc
    rfl
theorem R6.frozen {w : World} {g : Nat} {x0 x1 x2 x3 x4 x5 : Value} (h : R6 w g x0 x1 x2 x3 x4 x5) (i : Nat) : w.frozen? ⟨g, i, none⟩ = false := by simp [World.frozen?, h.h]
theorem tight_cases2 {lo up : List Int} (least most : Int) (h1 : IsSet lo) (h2 : IsSet up) (hs : ∀ x ∈ lo, x ∈ up) :
    (tightD lo up least most = noneD ∧ min most up.length < max least lo.length) ∨
    (tightD lo up least most = TD up up up.length up.length ∧ max least lo.length = up.length ∧ (up.length : Int) ≤ most) ∨
    (tightD lo up least most = TD lo lo lo.length lo.length ∧ min most up.length = lo.length ∧ least ≤ lo.length ∧ lo.length < up.length) ∨
    (tightD lo up least most = TD lo up (max least lo.length) (min most up.length) ∧ max least lo.length ≤ min most up.length ∧ lo.length < up.length ∧ ¬ max least lo.length = up.length ∧ ¬ min most up.length = lo.length) := by
  have hl := set_sub_len h1 h2 hs
  unfold tightD
  dsimp only
  by_cases a : min most (up.length : Int) < max least (lo.length : Int)
  · rw [if_pos a]; exact .inl ⟨rfl, a⟩
  · rw [if_neg a]
    by_cases b : max least (lo.length : Int) = (up.length : Int)
    · have c : min most (up.length : Int) = (up.length : Int) := by omega
      simp only [b, c, if_true]
      exact .inr (.inl ⟨by unfold TD; congr 1 <;> omega, trivial, by omega⟩)
    · simp only [if_neg b]
      by_cases c : min most (up.length : Int) = (lo.length : Int)
      · simp only [c, if_true]
        exact .inr (.inr (.inl ⟨by unfold TD; congr 1 <;> omega, trivial, by omega, by omega⟩))
      · simp only [if_neg c]
        exact .inr (.inr (.inr ⟨by unfold TD; congr 1 <;> omega, by omega, by omega, b, c⟩))
end Go.Proofs.YthkliicmoandmaaGreatDoor.St

