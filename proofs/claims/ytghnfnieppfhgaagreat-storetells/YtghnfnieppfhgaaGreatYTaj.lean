/-
  What is proved here: the reference's None, bare, Right, Empty and taken of any domain. the reference's Tight of any two sets of which one is within the other.
  What is proved here: the reference's Must, Not and Card of any domain. the reference's Card and Both of any domains.
  What is proved here: the cuts of the program and of the reference leave the same domains (mathematics only). slices.Equal and the reference's Same of any two slices of numbers. the reference's One of two domains in memory of their own.
-/
import Derived.Test.YtghnfnieppfhgaaGreatYNd
import Derived.Test.YtghnfnieppfhgaaGreatYSmj
import Derived.Test.YtghnfnieppfhgaaGreatYSdj
import Derived.Test.YtghnfnieppfhgaaGreatYSa
import Derived.Lib.ItoaLen
import Derived.Lib.ParseIntBTie
import Derived.Lib.SplitLaws
import Derived.Lib.SlTrimSet
import Derived.Lib.AppendStr
import Derived.Lib.AppendIntMem
import Derived.Lib.SmallJoins
import Derived.Laws.IdiomStrings
import Derived.Shelf.Strconv.Itoa4
import Derived.Laws.Concat
import Derived.Laws.Strings
import Derived.Maps.AppendAt
import Derived.Sort.Row
namespace Go.Proofs.YtghnfnieppfhgaaGreat.St
open Go.RowKit Go.Shelf
set_option linter.unusedVariables false
set_option linter.unusedSimpArgs false

def bareB (d : SD) : Bool := d.set && decide (d.rn = 0) && decide (d.lo.length = 0) && decide (d.up.length = 0) && decide (d.least = 1) && decide (d.most = 0)
theorem right_eq (d : SD) : rightD d = (bareB d || (d.set && decide (d.rn = 0) && setB d.lo && setB d.up && subB (tkS d.lo) (tkS d.up) && decide ((d.lo.length : Int) ≤ d.least) && decide (d.least ≤ d.most) && decide (d.most ≤ (d.up.length : Int)))) := by
  rw [Bool.eq_iff_iff]
  unfold rightD bareB setB
  simp only [Bool.or_eq_true, Bool.and_eq_true, decide_eq_true_iff]
  constructor
  · rintro ⟨h1, h2, h3, h4, h5, h6⟩
    rcases h6 with ⟨e1, e2, e3⟩ | ⟨e1, e2, e3⟩
    · left
      have : d.lo.length ≤ d.up.length := set_sub_len h3 h4 ((subB_iff _ _).1 h5)
      exact ⟨⟨⟨⟨⟨h1, h2⟩, by omega⟩, e3⟩, e1⟩, e2⟩
    · right
      rw [tkS_yes h3, tkS_yes h4]
      exact ⟨⟨⟨⟨⟨⟨⟨h1, h2⟩, h3⟩, h4⟩, h5⟩, e1⟩, e2⟩, e3⟩
  · rintro (⟨⟨⟨⟨⟨h1, h2⟩, h3⟩, h4⟩, h5⟩, h6⟩ | ⟨⟨⟨⟨⟨⟨⟨h1, h2⟩, h3⟩, h4⟩, h5⟩, e1⟩, e2⟩, e3⟩)
    · have l1 := List.eq_nil_of_length_eq_zero h3
      have l2 := List.eq_nil_of_length_eq_zero h4
      exact ⟨h1, h2, by rw [l1]; exact isSet_nil, by rw [l2]; exact isSet_nil, by rw [l1, l2]; rfl, .inl ⟨h5, h6, h4⟩⟩
    · rw [tkS_yes h3, tkS_yes h4] at h5
      exact ⟨h1, h2, h3, h4, h5, .inr ⟨e1, e2, e3⟩⟩

set_option maxRecDepth 100000 in
set_option maxHeartbeats 4000000 in
theorem bare_any (v : Value) (d : SD) (W : World) (h : Di W v d) :
    Calls Tryz.prog 80 #[v] W fun e w' => e = .returned (.bool (bareB d)) ∧ Below W.heap.size W w' := by
  obtain ⟨x0a, raa, rna, rca, a1a, n1a, c1a, a2a, n2a, c2a, x4a, x5a, rfl, HEa, HLOa, HUPa⟩ := h.look
  have hH : bareB d = (d.set && decide (d.rn = 0) && decide (d.lo.length = 0) && decide (d.up.length = 0) && decide (d.least = 1) && decide (d.most = 0)) := rfl
  obtain ⟨e1, e2, e3, e4, e5, e6⟩ := HEa.out
  rw [e1, e2, e3, e4, e5, e6] at hH
  have HH : Hid _ := hH
  generalize bareB d = r at HH ⊢
  obtain ⟨w0, hW0⟩ : ∃ X, (W.alloc (Obj.cells #[.bool x0a, .slice raa rna rca, .slice a1a n1a c1a, .slice a2a n2a c2a, .int .i64 x4a, .int .i64 x5a] 37)) = X := ⟨_, rfl⟩
  have HW0 : Hid _ := hW0
  have hb0 : Below W.heap.size W w0 := by rw [← hW0]; exact ((Below.refl _ W).alloc (by simp <;> omega) _)
  have HA_0 : Hid (R6 w0 W.heap.size (.bool x0a) (.slice raa rna rca) (.slice a1a n1a c1a) (.slice a2a n2a c2a) (.int .i64 x4a) (.int .i64 x5a)) := by rw [← hW0]; exact (R6.new _ _ _ _ _ _ _)
  clear hW0
  clear h hH e1 e2 e3 e4 e5 e6 HEa HLOa HUPa
  cases x0a
  · go_enter Tryz.func80, Tryz.ntmps80
    go_upto_region 1 with (fail)
    rw [HW0.out]
    obtain ⟨z0, z1, z2, z3, z4, z5⟩ := HA_0.out.cells
    go_wp2
    go_ret
    exact ⟨ret_bool (by rw [HH.out]; first | (simp; done) | (simp [*]; done) | (simp; omega)), hb0⟩
  · by_cases q1 : rna = 0
    · subst q1
      by_cases q2 : n1a = 0
      · subst q2
        by_cases q3 : n2a = 0
        · subst q3
          by_cases q4 : x4a = 1
          · subst q4
            by_cases q5 : x5a = 0
            · subst q5
              go_enter Tryz.func80, Tryz.ntmps80
              go_upto_region 1 with (fail)
              rw [HW0.out]
              obtain ⟨z0, z1, z2, z3, z4, z5⟩ := HA_0.out.cells
              go_wp2
              go_ret
              exact ⟨ret_bool (by rw [HH.out]; first | (simp; done) | (simp [*]; done) | (simp; omega)), hb0⟩
            · have q5' : (x5a == 0) = false := by simpa using q5
              go_enter Tryz.func80, Tryz.ntmps80
              go_upto_region 1 with (fail)
              rw [HW0.out]
              obtain ⟨z0, z1, z2, z3, z4, z5⟩ := HA_0.out.cells
              go_wp2
              go_ret
              exact ⟨ret_bool (by rw [HH.out]; first | (simp; done) | (simp [*]; done) | (simp; omega)), hb0⟩
          · have q4' : (x4a == 1) = false := by simpa using q4
            go_enter Tryz.func80, Tryz.ntmps80
            go_upto_region 1 with (fail)
            rw [HW0.out]
            obtain ⟨z0, z1, z2, z3, z4, z5⟩ := HA_0.out.cells
            go_wp2
            go_ret
            exact ⟨ret_bool (by rw [HH.out]; first | (simp; done) | (simp [*]; done) | (simp; omega)), hb0⟩
        · have q3' : ((n2a : Int) == 0) = false := by simp; omega
          go_enter Tryz.func80, Tryz.ntmps80
          go_upto_region 1 with (fail)
          rw [HW0.out]
          obtain ⟨z0, z1, z2, z3, z4, z5⟩ := HA_0.out.cells
          go_wp2
          go_ret
          exact ⟨ret_bool (by rw [HH.out]; first | (simp; done) | (simp [*]; done) | (simp; omega)), hb0⟩
      · have q2' : ((n1a : Int) == 0) = false := by simp; omega
        go_enter Tryz.func80, Tryz.ntmps80
        go_upto_region 1 with (fail)
        rw [HW0.out]
        obtain ⟨z0, z1, z2, z3, z4, z5⟩ := HA_0.out.cells
        go_wp2
        go_ret
        exact ⟨ret_bool (by rw [HH.out]; first | (simp; done) | (simp [*]; done) | (simp; omega)), hb0⟩
    · have q1' : ((rna : Int) == 0) = false := by simp; omega
      go_enter Tryz.func80, Tryz.ntmps80
      go_upto_region 1 with (fail)
      rw [HW0.out]
      obtain ⟨z0, z1, z2, z3, z4, z5⟩ := HA_0.out.cells
      go_wp2
      go_ret
      exact ⟨ret_bool (by rw [HH.out]; first | (simp; done) | (simp [*]; done) | (simp; omega)), hb0⟩

set_option maxRecDepth 100000 in
set_option maxHeartbeats 4000000 in
theorem refright_any (v : Value) (d : SD) (W : World) (h : Di W v d) :
    Calls Tryz.prog 59 #[v] W fun e w' => e = .returned (.bool (rightD d)) ∧ Below W.heap.size W w' := by
  have k78 := fun X (hX : Below W.heap.size W X) => bare_any v d X (h.below hX)
  obtain ⟨x0a, raa, rna, rca, a1a, n1a, c1a, a2a, n2a, c2a, x4a, x5a, rfl, HEa, HLOa, HUPa⟩ := h.look
  have k30a := fun X (hX : Below W.heap.size W X) => refset_any (.slice a1a n1a c1a) d.lo X (HLOa.out.below hX)
  have k30b := fun X (hX : Below W.heap.size W X) => refset_any (.slice a2a n2a c2a) d.up X (HUPa.out.below hX)
  have k28 := fun X (hX : Below W.heap.size W X) => refsub_any (.slice a1a n1a c1a) (.slice a2a n2a c2a) d.lo d.up X (HLOa.out.below hX) (HUPa.out.below hX)
  have hH := right_eq d
  obtain ⟨e1, e2, e3, e4, e5, e6⟩ := HEa.out
  rw [e1, e2, e3, e4, e5, e6] at hH
  generalize rightD d = r at hH ⊢
  generalize bareB d = rb at hH k78
  generalize setB d.lo = s1 at hH k30a
  generalize setB d.up = s2 at hH k30b
  generalize subB (tkS d.lo) (tkS d.up) = s3 at hH k28
  have HH : Hid _ := hH
  obtain ⟨w0, hW0⟩ : ∃ X, (W.alloc (Obj.cells #[.bool x0a, .slice raa rna rca, .slice a1a n1a c1a, .slice a2a n2a c2a, .int .i64 x4a, .int .i64 x5a] 37)) = X := ⟨_, rfl⟩
  have HW0 : Hid _ := hW0
  have hb0 : Below W.heap.size W w0 := by rw [← hW0]; exact ((Below.refl _ W).alloc (by simp <;> omega) _)
  have HA_0 : Hid (R6 w0 W.heap.size (.bool x0a) (.slice raa rna rca) (.slice a1a n1a c1a) (.slice a2a n2a c2a) (.int .i64 x4a) (.int .i64 x5a)) := by rw [← hW0]; exact (R6.new _ _ _ _ _ _ _)
  clear hW0
  clear h hH e1 e2 e3 e4 e5 e6 HEa HLOa HUPa
  go_enter Tryz.func59, Tryz.ntmps59
  go_upto_region 1 with (fail)
  rw [HW0.out]
  obtain ⟨zA0, zA1, zA2, zA3, zA4, zA5⟩ := HA_0.out.cells
  go_wp2_with fail
  refine (k78 w0 hb0).mono ?_
  rintro e w1 ⟨rfl, hb⟩
  have hb1 : Below W.heap.size W w1 := hb0.trans (hb.mono hb0.size)
  have HA_1 : Hid _ := HA_0.out.below hb
  clear zA0 zA1 zA2 zA3 zA4 zA5
  clear hb hb0 HA_0
  obtain ⟨zA0, zA1, zA2, zA3, zA4, zA5⟩ := HA_1.out.cells
  cases rb
  · cases x0a
    · go_wp2
      go_ret
      exact ⟨ret_bool (by rw [HH.out]; first | (simp; done) | (simp [*]; done) | (simp; omega)), hb1⟩
    · by_cases q1 : rna = 0
      · subst q1
        cases s1
        · go_wp2_with fail
          refine (k30a w1 hb1).mono ?_
          rintro e w2 ⟨rfl, qd, hdw⟩
          have hb : Below w1.heap.size w1 w2 := by rw [hdw]; exact below_drewN (Below.refl _ _) _
          clear hdw
          have hb2 : Below W.heap.size W w2 := hb1.trans (hb.mono hb1.size)
          have HA_2 : Hid _ := HA_1.out.below hb
          clear zA0 zA1 zA2 zA3 zA4 zA5
          clear hb hb1 HA_1
          obtain ⟨zA0, zA1, zA2, zA3, zA4, zA5⟩ := HA_2.out.cells
          go_wp2
          go_ret
          exact ⟨ret_bool (by rw [HH.out]; first | (simp; done) | (simp [*]; done) | (simp; omega)), hb2⟩
        · go_wp2_with fail
          refine (k30a w1 hb1).mono ?_
          rintro e w2 ⟨rfl, qd, hdw⟩
          have hb : Below w1.heap.size w1 w2 := by rw [hdw]; exact below_drewN (Below.refl _ _) _
          clear hdw
          have hb2 : Below W.heap.size W w2 := hb1.trans (hb.mono hb1.size)
          have HA_2 : Hid _ := HA_1.out.below hb
          clear zA0 zA1 zA2 zA3 zA4 zA5
          clear hb hb1 HA_1
          obtain ⟨zA0, zA1, zA2, zA3, zA4, zA5⟩ := HA_2.out.cells
          cases s2
          · go_wp2_with fail
            refine (k30b w2 hb2).mono ?_
            rintro e w3 ⟨rfl, qd, hdw⟩
            have hb : Below w2.heap.size w2 w3 := by rw [hdw]; exact below_drewN (Below.refl _ _) _
            clear hdw
            have hb3 : Below W.heap.size W w3 := hb2.trans (hb.mono hb2.size)
            have HA_3 : Hid _ := HA_2.out.below hb
            clear zA0 zA1 zA2 zA3 zA4 zA5
            clear hb hb2 HA_2
            obtain ⟨zA0, zA1, zA2, zA3, zA4, zA5⟩ := HA_3.out.cells
            go_wp2
            go_ret
            exact ⟨ret_bool (by rw [HH.out]; first | (simp; done) | (simp [*]; done) | (simp; omega)), hb3⟩
          · go_wp2_with fail
            refine (k30b w2 hb2).mono ?_
            rintro e w3 ⟨rfl, qd, hdw⟩
            have hb : Below w2.heap.size w2 w3 := by rw [hdw]; exact below_drewN (Below.refl _ _) _
            clear hdw
            have hb3 : Below W.heap.size W w3 := hb2.trans (hb.mono hb2.size)
            have HA_3 : Hid _ := HA_2.out.below hb
            clear zA0 zA1 zA2 zA3 zA4 zA5
            clear hb hb2 HA_2
            obtain ⟨zA0, zA1, zA2, zA3, zA4, zA5⟩ := HA_3.out.cells
            cases s3
            · go_wp2_with fail
              refine (k28 w3 hb3).mono ?_
              rintro e w4 ⟨rfl, qd, hdw⟩
              have hb : Below w3.heap.size w3 w4 := by rw [hdw]; exact below_drewN (Below.refl _ _) _
              clear hdw
              have hb4 : Below W.heap.size W w4 := hb3.trans (hb.mono hb3.size)
              have HA_4 : Hid _ := HA_3.out.below hb
              clear zA0 zA1 zA2 zA3 zA4 zA5
              clear hb hb3 HA_3
              obtain ⟨zA0, zA1, zA2, zA3, zA4, zA5⟩ := HA_4.out.cells
              go_wp2
              go_ret
              exact ⟨ret_bool (by rw [HH.out]; first | (simp; done) | (simp [*]; done) | (simp; omega)), hb4⟩
            · go_wp2_with fail
              refine (k28 w3 hb3).mono ?_
              rintro e w4 ⟨rfl, qd, hdw⟩
              have hb : Below w3.heap.size w3 w4 := by rw [hdw]; exact below_drewN (Below.refl _ _) _
              clear hdw
              have hb4 : Below W.heap.size W w4 := hb3.trans (hb.mono hb3.size)
              have HA_4 : Hid _ := HA_3.out.below hb
              clear zA0 zA1 zA2 zA3 zA4 zA5
              clear hb hb3 HA_3
              obtain ⟨zA0, zA1, zA2, zA3, zA4, zA5⟩ := HA_4.out.cells
              by_cases q5 : (n1a : Int) ≤ x4a
              · by_cases q6 : x4a ≤ x5a
                · by_cases q7 : x5a ≤ (n2a : Int)
                  · go_wp2
                    go_ret
                    exact ⟨ret_bool (by rw [HH.out]; first | (simp; done) | (simp [*]; done) | (simp; omega)), hb4⟩
                  · go_wp2
                    go_ret
                    exact ⟨ret_bool (by rw [HH.out]; first | (simp; done) | (simp [*]; done) | (simp; omega)), hb4⟩
                · go_wp2
                  go_ret
                  exact ⟨ret_bool (by rw [HH.out]; first | (simp; done) | (simp [*]; done) | (simp; omega)), hb4⟩
              · go_wp2
                go_ret
                exact ⟨ret_bool (by rw [HH.out]; first | (simp; done) | (simp [*]; done) | (simp; omega)), hb4⟩
      · have q1' : ((rna : Int) == 0) = false := by simp; omega
        go_wp2
        go_ret
        exact ⟨ret_bool (by rw [HH.out]; first | (simp; done) | (simp [*]; done) | (simp; omega)), hb1⟩
  · go_wp2
    go_ret
    exact ⟨ret_bool (by rw [HH.out]; first | (simp; done) | (simp [*]; done) | (simp; omega)), hb1⟩

set_option maxRecDepth 100000 in
set_option maxHeartbeats 4000000 in
theorem refempty_any (v : Value) (d : SD) (W : World) (h : Di W v d) :
    Calls Tryz.prog 64 #[v] W fun e w' => e = .returned (.bool (emptyD d)) ∧ Below W.heap.size W w' := by
  have hr := fun X (hX : Below W.heap.size W X) => refright_any v d X (h.below hX)
  obtain ⟨ra, rc, slo, sup, rfl, h1, h2⟩ := h
  obtain ⟨a1, c1, rfl, _⟩ := h1
  obtain ⟨a2, c2, rfl, _⟩ := h2
  have he : emptyD d = (!rightD d || decide (d.most < d.least)) := rfl
  obtain ⟨st, rn, lo, up, least, most⟩ := d
  simp only at hr he ⊢
  obtain ⟨n1, hn1⟩ : ∃ n, lo.length = n := ⟨_, rfl⟩
  obtain ⟨n2, hn2⟩ : ∃ n, up.length = n := ⟨_, rfl⟩
  simp only [hn1, hn2] at hr ⊢
  obtain ⟨r, hrd⟩ : ∃ r, rightD ⟨st, rn, lo, up, least, most⟩ = r := ⟨_, rfl⟩
  rw [hrd] at he
  simp only [hrd] at hr
  have HE : Hid (emptyD ⟨st, rn, lo, up, least, most⟩ = (!r || decide (most < least))) := he
  have hb0 : Below W.heap.size W (W.alloc (Obj.cells #[.bool st, .slice ra rn rc, .slice a1 n1 c1, .slice a2 n2 c2, .int .i64 least, .int .i64 most] 37)) := (Below.refl _ W).alloc (Nat.le_refl _) _
  have hR0 := World.alloc_heap_new W (Obj.cells #[.bool st, .slice ra rn rc, .slice a1 n1 c1, .slice a2 n2 c2, .int .i64 least, .int .i64 most] 37)
  have hr0 := hr _ hb0
  clear he hrd hn1 hn2 hr
  by_cases hrr : r = true
  · subst hrr
    by_cases hlm : most < least
    · go_enter Tryz.func64, Tryz.ntmps64
      go_wp2_with fail
      refine hr0.mono ?_
      rintro e w1 ⟨rfl, hb1⟩
      obtain ⟨c0, c1', c2', c3, c4, c5⟩ := six_cells ((hb1.block W.heap.size (by simp)).trans hR0)
      have hB1 : Below W.heap.size W w1 := hb0.trans (hb1.mono hb0.size)
      clear hr0 hR0 hb1 hb0
      go_wp2
      go_ret
      exact ⟨ret_bool (by rw [HE.out]; simp [hlm]), hB1⟩
    · go_enter Tryz.func64, Tryz.ntmps64
      go_wp2_with fail
      refine hr0.mono ?_
      rintro e w1 ⟨rfl, hb1⟩
      obtain ⟨c0, c1', c2', c3, c4, c5⟩ := six_cells ((hb1.block W.heap.size (by simp)).trans hR0)
      have hB1 : Below W.heap.size W w1 := hb0.trans (hb1.mono hb0.size)
      clear hr0 hR0 hb1 hb0
      go_wp2
      go_ret
      exact ⟨ret_bool (by rw [HE.out]; simp [hlm]), hB1⟩
  · have hrr' : r = false := by simpa using hrr
    subst hrr'
    go_enter Tryz.func64, Tryz.ntmps64
    go_wp2_with fail
    refine hr0.mono ?_
    rintro e w1 ⟨rfl, hb1⟩
    have hB1 : Below W.heap.size W w1 := hb0.trans (hb1.mono hb0.size)
    clear hr0 hR0 hb1 hb0
    go_wp2
    go_ret
    exact ⟨ret_bool (by rw [HE.out]; simp), hB1⟩

def rtakenD (d : SD) : SD := if emptyD d then noneD else d

theorem tight_cases2 {lo up : List Int} (least most : Int) (h1 : IsSet lo) (h2 : IsSet up) (hs : ∀ x ∈ lo, x ∈ up) :
    (tightD lo up least most = noneD ∧ min most up.length < max least lo.length) ∨
    (tightD lo up least most = TD up up up.length up.length ∧ max least lo.length = up.length ∧ (up.length : Int) ≤ most) ∨
    (tightD lo up least most = TD lo lo lo.length lo.length ∧ min most up.length = lo.length ∧ least ≤ lo.length ∧ lo.length < up.length) ∨
    (tightD lo up least most = TD lo up (max least lo.length) (min most up.length) ∧ max least lo.length ≤ min most up.length ∧ lo.length < up.length ∧ ¬ max least lo.length = up.length ∧ ¬ min most up.length = lo.length) := by
  have hl := set_sub_len h1 h2 hs
  unfold tightD
  dsimp only
  by_cases a : min most (up.length : Int) < max least (lo.length : Int)
  · rw [if_pos a]; exact .inl ⟨rfl, a⟩
  · rw [if_neg a]
    by_cases b : max least (lo.length : Int) = (up.length : Int)
    · have c : min most (up.length : Int) = (up.length : Int) := by omega
      simp only [b, c, if_true]
      exact .inr (.inl ⟨by unfold TD; congr 1 <;> omega, trivial, by omega⟩)
    · simp only [if_neg b]
      by_cases c : min most (up.length : Int) = (lo.length : Int)
      · simp only [c, if_true]
        exact .inr (.inr (.inl ⟨by unfold TD; congr 1 <;> omega, trivial, by omega, by omega⟩))
      · simp only [if_neg c]
        exact .inr (.inr (.inr ⟨by unfold TD; congr 1 <;> omega, by omega, by omega, b, c⟩))
end Go.Proofs.YtghnfnieppfhgaaGreat.St


namespace Go.Proofs.YtghnfnieppfhgaaGreat.St
open Go.RowKit Go.Shelf
set_option linter.unusedVariables false
set_option linter.unusedSimpArgs false

theorem refin_below (v : Int) (s : Value) (l : List Int) (W : World) (h : Si W s l) : Calls Tryz.prog 106 #[.int .i64 v, s] W fun e w' => e = .returned (.bool ((tkS l).contains v)) ∧ Below W.heap.size W w' :=
  (refin_any v s l W h).mono fun e w' ⟨he, n, hw⟩ => ⟨he, by rw [hw]; exact below_drewN (Below.refl _ _) _⟩
theorem di_si {W : World} {x0 : Bool} {ra a1 a2 : Option Addr} {rn rc n1 c1 n2 c2 : Nat} {x4 x5 : Int} {d : SD} (h : Di W (.agg #[.bool x0, .slice ra rn rc, .slice a1 n1 c1, .slice a2 n2 c2, .int .i64 x4, .int .i64 x5]) d) :
    Si W (.slice a1 n1 c1) d.lo ∧ Si W (.slice a2 n2 c2) d.up ∧ d.least = x4 ∧ d.most = x5 := by
  obtain ⟨ra', rc', slo, sup, e, o1, o2⟩ := h
  injection e with e
  injection e with e
  injection e with _ e
  injection e with _ e
  injection e with e2 e
  injection e with e3 e
  injection e with e4 e
  injection e with e5 e
  injection e4 with _ e4
  injection e5 with _ e5
  subst e2 e3 e4 e5
  exact ⟨o1, o2, rfl, rfl⟩
theorem sub_below (s1 s2 : Value) (a b : List Int) (W : World) (h1 : Si W s1 a) (h2 : Si W s2 b) : Calls Tryz.prog 82 #[s1, s2] W fun e w' => e = .returned (.bool (subB (tkS a) (tkS b))) ∧ Below W.heap.size W w' :=
  (refsub_any s1 s2 a b W h1 h2).mono fun e w' ⟨he, n, hw⟩ => ⟨he, by rw [hw]; exact below_drewN (Below.refl _ _) _⟩

end Go.Proofs.YtghnfnieppfhgaaGreat.St


namespace Go.Proofs.YtghnfnieppfhgaaGreat.St
open Go.RowKit Go.Shelf
set_option linter.unusedVariables false
set_option linter.unusedSimpArgs false

theorem tight_none {lo up : List Int} {least most : Int} (h : min most up.length < max least lo.length) : tightD lo up least most = noneD := by
  unfold tightD; dsimp only; rw [if_pos h]
theorem tight_top {lo up : List Int} {least most : Int} (h1 : IsSet lo) (h2 : IsSet up) (hs : ∀ x ∈ lo, x ∈ up) (ha : max least lo.length = up.length) (hb : (up.length : Int) ≤ most) : tightD lo up least most = TD up up up.length up.length := by
  rcases tight_cases2 least most h1 h2 hs with ⟨e, a⟩ | ⟨e, a, b⟩ | ⟨e, a, b, c⟩ | ⟨e, a, b, c, f⟩
  · omega
  · exact e
  · omega
  · exact absurd ha c
theorem tight_bot {lo up : List Int} {least most : Int} (h1 : IsSet lo) (h2 : IsSet up) (hs : ∀ x ∈ lo, x ∈ up) (ha : least ≤ lo.length) (hb : min most up.length = lo.length) : tightD lo up least most = TD lo lo lo.length lo.length := by
  rcases tight_cases2 least most h1 h2 hs with ⟨e, a⟩ | ⟨e, a, b⟩ | ⟨e, a, b, c⟩ | ⟨e, a, b, c, f⟩
  · omega
  · have : lo = up := set_sub_eq h1 h2 hs (by omega)
    rw [e, this]
  · exact e
  · exact absurd hb f
theorem empty_no {d : SD} (h : emptyD d = false) : RightD d ∧ d.least ≤ d.most ∧ (d.lo.length : Int) ≤ d.least ∧ d.most ≤ d.up.length := by
  unfold emptyD at h
  simp only [Bool.or_eq_false_iff, Bool.not_eq_false', decide_eq_false_iff_not, Int.not_lt] at h
  have hr : RightD d := of_decide_eq_true h.1
  have := hr.2.2.2.2.2
  refine ⟨hr, h.2, ?_, ?_⟩ <;> omega
theorem empty_yes {d : SD} (h : emptyD d = true) : takenD d = noneD ∧ rtakenD d = noneD := by
  refine ⟨?_, by unfold rtakenD; rw [h]; rfl⟩
  unfold takenD
  split
  · rename_i hr
    unfold emptyD at h
    have e1 : rightD d = true := decide_eq_true hr
    simp only [e1, Bool.not_true, Bool.false_or, decide_eq_true_eq] at h
    exact tight_none (by have := hr.2.2.2.2.2; omega)
  · rfl
theorem empty_none : emptyD noneD = true := by unfold emptyD; simp [noneD]
theorem taken_forms {d : SD} (h : emptyD d = false) :
    (takenD d = TD d.up d.up d.up.length d.up.length ∧ d.least = d.up.length ∧ d.most = d.up.length) ∨
    (takenD d = TD d.lo d.lo d.lo.length d.lo.length ∧ d.least = d.lo.length ∧ d.most = d.lo.length ∧ d.lo.length < d.up.length) ∨ takenD d = d := by
  obtain ⟨hr, h1, h2, h3⟩ := empty_no h
  have e : takenD d = tightD d.lo d.up d.least d.most := by unfold takenD; rw [if_pos hr]
  rw [e]
  rcases tight_cases2 d.least d.most hr.2.2.1 hr.2.2.2.1 (right_sub hr) with ⟨e, a⟩ | ⟨e, a, b⟩ | ⟨e, a, b, c⟩ | ⟨e, a, b, c, f⟩
  · omega
  · exact .inl ⟨e, by omega, by omega⟩
  · exact .inr (.inl ⟨e, by omega, by omega, c⟩)
  · refine .inr (.inr ?_)
    rw [e]
    have m1 : max d.least (d.lo.length : Int) = d.least := by omega
    have m2 : min d.most (d.up.length : Int) = d.most := by omega
    rw [m1, m2]
    obtain ⟨s, r, lo, up, le, mo⟩ := d
    obtain ⟨rfl, rfl, _⟩ := hr
    rfl
/-! ### Both -/
theorem meet_mem (a b : List Int) (x : Int) : x ∈ meetL a b ↔ x ∈ a ∧ x ∈ b := by unfold meetL; rw [List.mem_filter]; simp
theorem meet_set {a : List Int} (ha : IsSet a) (b : List Int) : IsSet (meetL a b) := set_filter ha _
theorem join_set {a b u : List Int} (ha : IsSet a) (hb : IsSet b) (hu : IsSet u) (h : ∀ x ∈ joinL a b, x ∈ u) : IsSet (joinL a b) := by
  have hp := join_pw ha hb
  exact set_of (Nat.le_trans (pw_sub u _ hp (set_pw hu) h).length_le hu.1) (fun x hx => set_mem hu x (h x hx)) hp
def bothG (a b : SD) : SD := if subB (joinL a.lo b.lo) (meetL a.up b.up) then tightD (joinL a.lo b.lo) (meetL a.up b.up) (max a.least b.least) (min a.most b.most) else noneD
/-- sets.Both. -/
def bothD (d o : SD) : SD := if !subB (takenD d).lo (meetL (takenD d).up (takenD o).up) || !subB (takenD o).lo (meetL (takenD d).up (takenD o).up) then noneD else tightD (joinL (takenD d).lo (takenD o).lo) (meetL (takenD d).up (takenD o).up) (max (takenD d).least (takenD o).least) (min (takenD d).most (takenD o).most)
theorem sub_join2 (a b m : List Int) : subB (joinL a b) m = (subB a m && subB b m) := by
  rw [Bool.eq_iff_iff]
  simp only [Bool.and_eq_true, subB_iff]
  exact ⟨fun h => ⟨fun x hx => h x ((join_mem _ _ _).2 (.inl hx)), fun x hx => h x ((join_mem _ _ _).2 (.inr hx))⟩, fun h x hx => by rcases (join_mem _ _ _).1 hx with g | g; exact h.1 x g; exact h.2 x g⟩
theorem bothD_G (d o : SD) : bothD d o = bothG (takenD d) (takenD o) := by
  unfold bothD bothG
  rw [sub_join2]
  cases subB (takenD d).lo (meetL (takenD d).up (takenD o).up) <;> cases subB (takenD o).lo (meetL (takenD d).up (takenD o).up) <;> rfl
/-- Same. -/
def eqD (d o : SD) : Bool := decide (d.lo = o.lo) && decide (d.up = o.up) && decide (d.least = o.least) && decide (d.most = o.most)
def sameD (d o : SD) : Bool := eqD (takenD d) (takenD o)
theorem eqD_refl (d : SD) : eqD d d = true := by unfold eqD; simp
theorem taken_le {d : SD} (h : emptyD d = false) : (takenD d).least ≤ (takenD d).most := by
  obtain ⟨_, a, _, _⟩ := empty_no h
  rcases taken_forms h with ⟨e, p, q⟩ | ⟨e, p, q, c⟩ | e <;> rw [e]
  · exact Int.le_refl _
  · exact Int.le_refl _
  · exact a
theorem same_taken (d : SD) : sameD d d = true := eqD_refl _

theorem nth_list {a b : List Int} (hl : a.length = b.length) (h : ∀ i, i < a.length → nth a i = nth b i) : a = b := by
  apply List.ext_getElem hl
  intro i h1 h2
  have := h i h1
  simpa [nth, List.getElem?_eq_getElem h1, List.getElem?_eq_getElem h2] using this

set_option maxRecDepth 100000 in
set_option maxHeartbeats 4000000 in
theorem equal_any (s1 s2 : Value) (a b : List Int) (W : World) (h1 : Si W s1 a) (h2 : Si W s2 b) (hr : a.length * 8 ≤ 140737488351232) :
    Calls Tryz.prog 102 #[s1, s2] W fun e w' => e = .returned (.bool (decide (a = b))) ∧ Below W.heap.size W w' := by
  obtain ⟨a1, c1, rfl, hc1⟩ := h1
  obtain ⟨a2, c2, rfl, hc2⟩ := h2
  obtain ⟨n, hn⟩ : ∃ n, a.length = n := ⟨_, rfl⟩
  obtain ⟨m, hm⟩ : ∃ m, b.length = m := ⟨_, rfl⟩
  have HN : Hid (a.length = n) := hn
  have HM : Hid (b.length = m) := hm
  rw [hn] at hc1 hr ⊢
  rw [hm] at hc2 ⊢
  have HC1 : Hid _ := hc1
  have HC2 : Hid _ := hc2
  clear hn hm hc1 hc2
  by_cases hl : n = m
  · subst hl
    go_enter Tryz.func102, Tryz.ntmps102
    go_wp2
    go_loopw [13] (fun i wr => ∃ k : Nat, k ≤ n ∧ i = .int .i64 (k : Int) ∧ Hid (∀ j, j < k → nth a j = nth b j) ∧ ∃ nq, wr = W.drewN nq) (fun i _ => n - (intOf i).toNat)
    case atStart => exact ⟨0, Nat.zero_le _, rfl, fun j hj => absurd hj (by omega), 0, rfl⟩
    case round =>
      obtain ⟨k, hk, rfl, HOK, nq0, rfl⟩ := hrel
      by_cases hlt : k < n
      · obtain ⟨b1, o1, rfl, _, hcell1⟩ := HC1.out (by omega)
        obtain ⟨b2, o2, rfl, _, hcell2⟩ := HC2.out (by omega)
        have x1 := hcell1 k hlt
        have x2 := hcell2 k hlt
        have kk : (k : Int) < (n : Int) := by omega
        clear hcell1 hcell2 HC1 HC2
        obtain ⟨x, hx⟩ : ∃ x, nth a k = x := ⟨_, rfl⟩
        obtain ⟨y, hy⟩ : ∃ x, nth b k = x := ⟨_, rfl⟩
        have HX : Hid (nth a k = x) := hx
        have HY : Hid (nth b k = y) := hy
        rw [hx] at x1
        rw [hy] at x2
        clear hx hy
        by_cases he : x = y
        · have HE : Hid (x = y) := he
          subst he
          go_wp2
          go_quiet (fail)
          go_wp2
          go_roundw
          case rel => exact ⟨k + 1, by omega, by go_num, fun j hj => if h : j = k then by subst h; rw [HX.out, HY.out] else HOK.out j (by omega), _, rfl⟩
          case measure => simp [intOf]; omega
        · have HE : Hid (¬ a = b) := fun h => he (by rw [← HX.out, ← HY.out, h])
          go_wp2
          go_quiet (fail)
          go_wp2
          go_ret
          exact ⟨ret_bool (by simpa using HE.out), below_drewN (below_drewN (Below.refl _ _) _) _⟩
      · have HE : Hid (a = b) := nth_list (by rw [HN.out, HM.out]) fun i hi => HOK.out i (by rw [HN.out] at hi; omega)
        go_wp2
        go_ret
        exact ⟨ret_bool (by simpa using HE.out), below_drewN (Below.refl _ _) _⟩
  · have HE : Hid (¬ a = b) := fun h => hl (by rw [← HN.out, ← HM.out, h])
    have hne : ¬ (n : Int) = (m : Int) := by omega
    go_enter Tryz.func102, Tryz.ntmps102
    go_wp2
    go_ret
    exact ⟨ret_bool (by simpa using HE.out), below_drewN (Below.refl _ _) 0⟩

set_option maxRecDepth 100000 in
set_option maxHeartbeats 4000000 in
theorem refsame_any (s1 s2 : Value) (a b : List Int) (W : World) (h1 : Si W s1 a) (h2 : Si W s2 b) (hr : a.length * 8 ≤ 140737488351232) :
    Calls Tryz.prog 63 #[s1, s2] W fun e w' => e = .returned (.bool (decide (a = b))) ∧ Below W.heap.size W w' := by
  obtain ⟨a1, c1, rfl, hc1⟩ := h1
  obtain ⟨a2, c2, rfl, hc2⟩ := h2
  obtain ⟨n, hn⟩ : ∃ n, a.length = n := ⟨_, rfl⟩
  obtain ⟨m, hm⟩ : ∃ m, b.length = m := ⟨_, rfl⟩
  have HN : Hid (a.length = n) := hn
  have HM : Hid (b.length = m) := hm
  rw [hn] at hc1 hr ⊢
  rw [hm] at hc2 ⊢
  have HC1 : Hid _ := hc1
  have HC2 : Hid _ := hc2
  clear hn hm hc1 hc2
  by_cases hl : n = m
  · subst hl
    go_enter Tryz.func63, Tryz.ntmps63
    go_wp2
    go_loopw [5] (fun i wr => ∃ k : Nat, k ≤ n ∧ i = .int .i64 (k : Int) ∧ Hid (∀ j, j < k → nth a j = nth b j) ∧ ∃ nq, wr = W.drewN nq) (fun i _ => n - (intOf i).toNat)
    case atStart => exact ⟨0, Nat.zero_le _, rfl, fun j hj => absurd hj (by omega), 0, rfl⟩
    case round =>
      obtain ⟨k, hk, rfl, HOK, nq0, rfl⟩ := hrel
      by_cases hlt : k < n
      · obtain ⟨b1, o1, rfl, _, hcell1⟩ := HC1.out (by omega)
        obtain ⟨b2, o2, rfl, _, hcell2⟩ := HC2.out (by omega)
        have x1 := hcell1 k hlt
        have x2 := hcell2 k hlt
        have kk : (k : Int) < (n : Int) := by omega
        clear hcell1 hcell2 HC1 HC2
        obtain ⟨x, hx⟩ : ∃ x, nth a k = x := ⟨_, rfl⟩
        obtain ⟨y, hy⟩ : ∃ x, nth b k = x := ⟨_, rfl⟩
        have HX : Hid (nth a k = x) := hx
        have HY : Hid (nth b k = y) := hy
        rw [hx] at x1
        rw [hy] at x2
        clear hx hy
        by_cases he : x = y
        · have HE : Hid (x = y) := he
          subst he
          go_wp2
          go_quiet (fail)
          go_wp2
          go_roundw
          case rel => exact ⟨k + 1, by omega, by go_num, fun j hj => if h : j = k then by subst h; rw [HX.out, HY.out] else HOK.out j (by omega), _, rfl⟩
          case measure => simp [intOf]; omega
        · have HE : Hid (¬ a = b) := fun h => he (by rw [← HX.out, ← HY.out, h])
          go_wp2
          go_quiet (fail)
          go_wp2
          go_ret
          exact ⟨ret_bool (by simpa using HE.out), below_drewN (below_drewN (Below.refl _ _) _) _⟩
      · have HE : Hid (a = b) := nth_list (by rw [HN.out, HM.out]) fun i hi => HOK.out i (by rw [HN.out] at hi; omega)
        go_wp2
        go_ret
        exact ⟨ret_bool (by simpa using HE.out), below_drewN (Below.refl _ _) _⟩
  · have HE : Hid (¬ a = b) := fun h => hl (by rw [← HN.out, ← HM.out, h])
    have hne : ¬ (n : Int) = (m : Int) := by omega
    go_enter Tryz.func63, Tryz.ntmps63
    go_wp2
    go_ret
    exact ⟨ret_bool (by simpa using HE.out), below_drewN (Below.refl _ _) 0⟩

end Go.Proofs.YtghnfnieppfhgaaGreat.St

