/-
  What is proved here: sets.Of and the reference's Of of any two slices and bounds; the reference's Has.
-/
import Derived.Test.YtacnhkaibcjjgaaGreatDoorTc
import Derived.Test.YtacnhkaibcjjgaaGreatDoorTej
import Derived.Test.YtacnhkaibcjjgaaGreatDoorEcj
import Derived.Laws.ResultCell
namespace Go.Proofs.YtacnhkaibcjjgaaGreatDoor
open Go.RowKit Go.Shelf
set_option linter.unusedVariables false
set_option linter.unusedSimpArgs false

theorem R6.res2 {fn : Func} {p u : Tmp} (hf : fn.results = #[.cell p 37, .tmp u]) (tmps : Array Value) {w : World} {g : Nat} {x0 x1 x2 x3 x4 x5 : Value} (h : R6 w g x0 x1 x2 x3 x4 x5) (hp : tmps.getD p undef = .pointer (some ⟨g, 0, none⟩)) :
    (results fn tmps).run Tryz.prog w = .ok (.tuple #[.agg #[x0, x1, x2, x3, x4, x5], tmps.getD u undef]) w := by
  obtain ⟨c0, c1, c2, c3, c4, c5⟩ := h.cells
  rw [results_cell_tmp hf, hp]
  simp [go_sem, c0, c1, c2, c3, c4, c5, Result.andThen]
def zeroD : SD := ⟨false, 0, [], [], 0, 0⟩
theorem zero_dv (B : Nat) (W : World) : Dv B W (.agg #[.bool false, .slice none 0 0, .slice none 0 0, .slice none 0 0, .int .i64 0, .int .i64 0]) zeroD :=
  ⟨_, _, rfl, rfl, World.ownsRow_nil _ _ _ _, World.ownsRow_nil _ _ _ _⟩
def ofB (lo up : List Int) (least : Int) : Bool := setB lo && setB up && subB (tkS lo) (tkS up) && decide (0 ≤ least)
def ofD (lo up : List Int) (least most : Int) : SD := if ofB lo up least then tightD lo up least most else zeroD
def ofC (lo up : List Int) (least : Int) : Int := if ofB lo up least then 0 else 20

set_option maxRecDepth 100000 in
set_option maxHeartbeats 4000000 in
theorem of_any (s1 s2 : Value) (lo up : List Int) (least most : Int) (W : World) (h1 : Si W s1 lo) (h2 : Si W s2 up) :
    Calls Tryz.prog 33 #[s1, s2, .int .i64 least, .int .i64 most] W fun e w' => ∃ v, e = .returned (.tuple #[v, .int .i64 (ofC lo up least)]) ∧ Dv W.heap.size w' v (ofD lo up least most) ∧ Below W.heap.size W w' := by
  have ka := fun X (hX : Below W.heap.size W X) => setB_below s1 lo X (h1.below hX)
  have kb := fun X (hX : Below W.heap.size W X) => setB_below s2 up X (h2.below hX)
  have kc := fun X (hX : Below W.heap.size W X) => sub_any s1 s2 lo up X (h1.below hX) (h2.below hX)
  have kd := fun (hq : setB lo = true ∧ setB up = true ∧ subB (tkS lo) (tkS up) = true) X (hX : Below W.heap.size W X) => tight_look s1 s2 lo up least most X (h1.below hX) (h2.below hX) (by have := (of_decide_eq_true hq.1 : IsSet lo).1; omega) (by have := (of_decide_eq_true hq.2.1 : IsSet up).1; omega)
  obtain ⟨a1, n1, c1, rfl, HS1, HN1⟩ := si_look h1
  obtain ⟨a2, n2, c2, rfl, HS2, HN2⟩ := si_look h2
  have HC : Hid (ofB lo up least = (setB lo && setB up && subB (tkS lo) (tkS up) && decide (0 ≤ least)) ∧ ofC lo up least = (if ofB lo up least then 0 else 20) ∧ ofD lo up least most = (if ofB lo up least then tightD lo up least most else zeroD)) := ⟨rfl, rfl, rfl⟩
  generalize ofC lo up least = C at HC ⊢
  generalize ofD lo up least most = D at HC ⊢
  generalize ofB lo up least = ob at HC
  generalize tightD lo up least most = T at kd HC
  generalize setB lo = b1 at *
  generalize setB up = b2 at *
  generalize subB (tkS lo) (tkS up) = b3 at *
  clear h1 h2 HS1 HS2 HN1 HN2
  obtain ⟨w0, hW0⟩ : ∃ X, W.alloc (Obj.cells #[.bool false, .slice none 0 0, .slice none 0 0, .slice none 0 0, .int .i64 0, .int .i64 0] 37) = X := ⟨_, rfl⟩
  have HW0 : Hid _ := hW0
  have hb0 : Below W.heap.size W w0 := by rw [← hW0]; exact (Below.refl _ W).alloc (Nat.le_refl _) _
  have HZ_0 : Hid (R6 w0 W.heap.size (.bool false) (.slice none 0 0) (.slice none 0 0) (.slice none 0 0) (.int .i64 0) (.int .i64 0)) := by rw [← hW0]; exact R6.new _ _ _ _ _ _ _
  clear hW0
  go_enter Tryz.func33, Tryz.ntmps33
  go_upto_region 1 with (fail)
  rw [HW0.out]
  clear HW0
  by_cases hle0 : 0 ≤ least
  · have hle : decide (0 ≤ least) = true := by simpa using hle0
    have hlt : decide (least < 0) = false := by simp <;> omega
    clear hle0
    cases b1
    · go_wp2_with fail
      refine (ka w0 hb0).mono ?_
      rintro e w1 ⟨rfl, hb⟩
      have hb1 : Below W.heap.size W w1 := hb0.trans (hb.mono hb0.size)
      have HZ_1 : Hid _ := HZ_0.out.below hb
      clear hb hb0 HZ_0
      obtain ⟨q1, q2, q3⟩ := HC.out
      simp only [Bool.false_and, Bool.true_and, Bool.and_false, hle] at q1
      subst q1
      simp only [Bool.false_eq_true, if_false] at q2 q3
      clear HC
      have HQ : Hid (C = 20 ∧ D = zeroD) := ⟨q2, q3⟩
      clear q2 q3
      go_wp2_with (with_reducible refine st37 rfl (.tmp 8) (.tmp 28) rfl W.heap.size _ _ _ _ _ _ (by with_unfolding_all rfl) (by with_unfolding_all rfl) HZ_1.out (six_dom _ _ _ _ _ _ _ _ _ _ _ _) ?_)
      refine ⟨rfl, _, R6.res2 rfl _ (HZ_1.out.set (.bool false) (.slice none 0 0) (.slice none 0 0) (.slice none 0 0) (.int .i64 0) (.int .i64 0)) rfl, ⟨_, by rw [HQ.out.1]; rfl, ?_, below_setRow hb1 (Nat.le_refl _) _⟩⟩
      rw [HQ.out.2]
      exact zero_dv _ _
    · cases b2
      · go_wp2_with fail
        refine (ka w0 hb0).mono ?_
        rintro e w1 ⟨rfl, hb⟩
        have hb1 : Below W.heap.size W w1 := hb0.trans (hb.mono hb0.size)
        have HZ_1 : Hid _ := HZ_0.out.below hb
        clear hb hb0 HZ_0
        go_wp2_with fail
        refine (kb w1 hb1).mono ?_
        rintro e w2 ⟨rfl, hb⟩
        have hb2 : Below W.heap.size W w2 := hb1.trans (hb.mono hb1.size)
        have HZ_2 : Hid _ := HZ_1.out.below hb
        clear hb hb1 HZ_1
        obtain ⟨q1, q2, q3⟩ := HC.out
        simp only [Bool.false_and, Bool.true_and, Bool.and_false, hle] at q1
        subst q1
        simp only [Bool.false_eq_true, if_false] at q2 q3
        clear HC
        have HQ : Hid (C = 20 ∧ D = zeroD) := ⟨q2, q3⟩
        clear q2 q3
        go_wp2_with (with_reducible refine st37 rfl (.tmp 8) (.tmp 28) rfl W.heap.size _ _ _ _ _ _ (by with_unfolding_all rfl) (by with_unfolding_all rfl) HZ_2.out (six_dom _ _ _ _ _ _ _ _ _ _ _ _) ?_)
        refine ⟨rfl, _, R6.res2 rfl _ (HZ_2.out.set (.bool false) (.slice none 0 0) (.slice none 0 0) (.slice none 0 0) (.int .i64 0) (.int .i64 0)) rfl, ⟨_, by rw [HQ.out.1]; rfl, ?_, below_setRow hb2 (Nat.le_refl _) _⟩⟩
        rw [HQ.out.2]
        exact zero_dv _ _
      · cases b3
        · go_wp2_with fail
          refine (ka w0 hb0).mono ?_
          rintro e w1 ⟨rfl, hb⟩
          have hb1 : Below W.heap.size W w1 := hb0.trans (hb.mono hb0.size)
          have HZ_1 : Hid _ := HZ_0.out.below hb
          clear hb hb0 HZ_0
          go_wp2_with fail
          refine (kb w1 hb1).mono ?_
          rintro e w2 ⟨rfl, hb⟩
          have hb2 : Below W.heap.size W w2 := hb1.trans (hb.mono hb1.size)
          have HZ_2 : Hid _ := HZ_1.out.below hb
          clear hb hb1 HZ_1
          go_wp2_with fail
          refine (kc w2 hb2).mono ?_
          rintro e w3 ⟨rfl, hb⟩
          have hb3 : Below W.heap.size W w3 := hb2.trans (hb.mono hb2.size)
          have HZ_3 : Hid _ := HZ_2.out.below hb
          clear hb hb2 HZ_2
          obtain ⟨q1, q2, q3⟩ := HC.out
          simp only [Bool.false_and, Bool.true_and, Bool.and_false, hle] at q1
          subst q1
          simp only [Bool.false_eq_true, if_false] at q2 q3
          clear HC
          have HQ : Hid (C = 20 ∧ D = zeroD) := ⟨q2, q3⟩
          clear q2 q3
          go_wp2_with (with_reducible refine st37 rfl (.tmp 8) (.tmp 28) rfl W.heap.size _ _ _ _ _ _ (by with_unfolding_all rfl) (by with_unfolding_all rfl) HZ_3.out (six_dom _ _ _ _ _ _ _ _ _ _ _ _) ?_)
          refine ⟨rfl, _, R6.res2 rfl _ (HZ_3.out.set (.bool false) (.slice none 0 0) (.slice none 0 0) (.slice none 0 0) (.int .i64 0) (.int .i64 0)) rfl, ⟨_, by rw [HQ.out.1]; rfl, ?_, below_setRow hb3 (Nat.le_refl _) _⟩⟩
          rw [HQ.out.2]
          exact zero_dv _ _
        · go_wp2_with fail
          refine (ka w0 hb0).mono ?_
          rintro e w1 ⟨rfl, hb⟩
          have hb1 : Below W.heap.size W w1 := hb0.trans (hb.mono hb0.size)
          have HZ_1 : Hid _ := HZ_0.out.below hb
          clear hb hb0 HZ_0
          go_wp2_with fail
          refine (kb w1 hb1).mono ?_
          rintro e w2 ⟨rfl, hb⟩
          have hb2 : Below W.heap.size W w2 := hb1.trans (hb.mono hb1.size)
          have HZ_2 : Hid _ := HZ_1.out.below hb
          clear hb hb1 HZ_1
          go_wp2_with fail
          refine (kc w2 hb2).mono ?_
          rintro e w3 ⟨rfl, hb⟩
          have hb3 : Below W.heap.size W w3 := hb2.trans (hb.mono hb2.size)
          have HZ_3 : Hid _ := HZ_2.out.below hb
          clear hb hb2 HZ_2
          go_wp2_with fail
          refine (kd (by simp) w3 hb3).mono ?_
          rintro e w4 ⟨g0, q1, h1, j1, q2, h2, j2, g4, g5, rfl, HV, hb⟩
          have hb4 : Below W.heap.size W w4 := hb3.trans (hb.mono hb3.size)
          have HZ_4 : Hid _ := HZ_3.out.below hb
          have hszz := hb3.size
          clear hb hb3 HZ_3
          obtain ⟨e1, e2, e3⟩ := HC.out
          simp only [Bool.and_self, hle] at e1
          subst e1
          simp only [if_true] at e2 e3
          clear HC
          have HQ : Hid (C = 0 ∧ D = T) := ⟨e2, e3⟩
          clear e2 e3
          go_wp2_with (with_reducible refine st37 rfl (.tmp 8) (.tmp 33) rfl W.heap.size _ _ _ _ _ _ (by with_unfolding_all rfl) (by with_unfolding_all rfl) HZ_4.out (six_dom _ _ _ _ _ _ _ _ _ _ _ _) ?_)
          refine ⟨rfl, _, R6.res2 rfl _ (HZ_4.out.set (.bool g0) (.slice none 0 0) (.slice q1 h1 j1) (.slice q2 h2 j2) (.int .i64 g4) (.int .i64 g5)) rfl, ⟨_, by rw [HQ.out.1]; rfl, ?_, below_setRow hb4 (Nat.le_refl _) _⟩⟩
          rw [HQ.out.2]
          exact (HV.out.base hszz).set HZ_4.out _
  · have hle : decide (0 ≤ least) = false := by simpa using hle0
    have hlt : decide (least < 0) = true := by simp <;> omega
    clear hle0
    cases b1
    · go_wp2_with fail
      refine (ka w0 hb0).mono ?_
      rintro e w1 ⟨rfl, hb⟩
      have hb1 : Below W.heap.size W w1 := hb0.trans (hb.mono hb0.size)
      have HZ_1 : Hid _ := HZ_0.out.below hb
      clear hb hb0 HZ_0
      obtain ⟨q1, q2, q3⟩ := HC.out
      simp only [Bool.false_and, Bool.true_and, Bool.and_false, hle] at q1
      subst q1
      simp only [Bool.false_eq_true, if_false] at q2 q3
      clear HC
      have HQ : Hid (C = 20 ∧ D = zeroD) := ⟨q2, q3⟩
      clear q2 q3
      go_wp2_with (with_reducible refine st37 rfl (.tmp 8) (.tmp 28) rfl W.heap.size _ _ _ _ _ _ (by with_unfolding_all rfl) (by with_unfolding_all rfl) HZ_1.out (six_dom _ _ _ _ _ _ _ _ _ _ _ _) ?_)
      refine ⟨rfl, _, R6.res2 rfl _ (HZ_1.out.set (.bool false) (.slice none 0 0) (.slice none 0 0) (.slice none 0 0) (.int .i64 0) (.int .i64 0)) rfl, ⟨_, by rw [HQ.out.1]; rfl, ?_, below_setRow hb1 (Nat.le_refl _) _⟩⟩
      rw [HQ.out.2]
      exact zero_dv _ _
    · cases b2
      · go_wp2_with fail
        refine (ka w0 hb0).mono ?_
        rintro e w1 ⟨rfl, hb⟩
        have hb1 : Below W.heap.size W w1 := hb0.trans (hb.mono hb0.size)
        have HZ_1 : Hid _ := HZ_0.out.below hb
        clear hb hb0 HZ_0
        go_wp2_with fail
        refine (kb w1 hb1).mono ?_
        rintro e w2 ⟨rfl, hb⟩
        have hb2 : Below W.heap.size W w2 := hb1.trans (hb.mono hb1.size)
        have HZ_2 : Hid _ := HZ_1.out.below hb
        clear hb hb1 HZ_1
        obtain ⟨q1, q2, q3⟩ := HC.out
        simp only [Bool.false_and, Bool.true_and, Bool.and_false, hle] at q1
        subst q1
        simp only [Bool.false_eq_true, if_false] at q2 q3
        clear HC
        have HQ : Hid (C = 20 ∧ D = zeroD) := ⟨q2, q3⟩
        clear q2 q3
        go_wp2_with (with_reducible refine st37 rfl (.tmp 8) (.tmp 28) rfl W.heap.size _ _ _ _ _ _ (by with_unfolding_all rfl) (by with_unfolding_all rfl) HZ_2.out (six_dom _ _ _ _ _ _ _ _ _ _ _ _) ?_)
        refine ⟨rfl, _, R6.res2 rfl _ (HZ_2.out.set (.bool false) (.slice none 0 0) (.slice none 0 0) (.slice none 0 0) (.int .i64 0) (.int .i64 0)) rfl, ⟨_, by rw [HQ.out.1]; rfl, ?_, below_setRow hb2 (Nat.le_refl _) _⟩⟩
        rw [HQ.out.2]
        exact zero_dv _ _
      · cases b3
        · go_wp2_with fail
          refine (ka w0 hb0).mono ?_
          rintro e w1 ⟨rfl, hb⟩
          have hb1 : Below W.heap.size W w1 := hb0.trans (hb.mono hb0.size)
          have HZ_1 : Hid _ := HZ_0.out.below hb
          clear hb hb0 HZ_0
          go_wp2_with fail
          refine (kb w1 hb1).mono ?_
          rintro e w2 ⟨rfl, hb⟩
          have hb2 : Below W.heap.size W w2 := hb1.trans (hb.mono hb1.size)
          have HZ_2 : Hid _ := HZ_1.out.below hb
          clear hb hb1 HZ_1
          go_wp2_with fail
          refine (kc w2 hb2).mono ?_
          rintro e w3 ⟨rfl, hb⟩
          have hb3 : Below W.heap.size W w3 := hb2.trans (hb.mono hb2.size)
          have HZ_3 : Hid _ := HZ_2.out.below hb
          clear hb hb2 HZ_2
          obtain ⟨q1, q2, q3⟩ := HC.out
          simp only [Bool.false_and, Bool.true_and, Bool.and_false, hle] at q1
          subst q1
          simp only [Bool.false_eq_true, if_false] at q2 q3
          clear HC
          have HQ : Hid (C = 20 ∧ D = zeroD) := ⟨q2, q3⟩
          clear q2 q3
          go_wp2_with (with_reducible refine st37 rfl (.tmp 8) (.tmp 28) rfl W.heap.size _ _ _ _ _ _ (by with_unfolding_all rfl) (by with_unfolding_all rfl) HZ_3.out (six_dom _ _ _ _ _ _ _ _ _ _ _ _) ?_)
          refine ⟨rfl, _, R6.res2 rfl _ (HZ_3.out.set (.bool false) (.slice none 0 0) (.slice none 0 0) (.slice none 0 0) (.int .i64 0) (.int .i64 0)) rfl, ⟨_, by rw [HQ.out.1]; rfl, ?_, below_setRow hb3 (Nat.le_refl _) _⟩⟩
          rw [HQ.out.2]
          exact zero_dv _ _
        · go_wp2_with fail
          refine (ka w0 hb0).mono ?_
          rintro e w1 ⟨rfl, hb⟩
          have hb1 : Below W.heap.size W w1 := hb0.trans (hb.mono hb0.size)
          have HZ_1 : Hid _ := HZ_0.out.below hb
          clear hb hb0 HZ_0
          go_wp2_with fail
          refine (kb w1 hb1).mono ?_
          rintro e w2 ⟨rfl, hb⟩
          have hb2 : Below W.heap.size W w2 := hb1.trans (hb.mono hb1.size)
          have HZ_2 : Hid _ := HZ_1.out.below hb
          clear hb hb1 HZ_1
          go_wp2_with fail
          refine (kc w2 hb2).mono ?_
          rintro e w3 ⟨rfl, hb⟩
          have hb3 : Below W.heap.size W w3 := hb2.trans (hb.mono hb2.size)
          have HZ_3 : Hid _ := HZ_2.out.below hb
          clear hb hb2 HZ_2
          obtain ⟨q1, q2, q3⟩ := HC.out
          simp only [Bool.false_and, Bool.true_and, Bool.and_false, hle] at q1
          subst q1
          simp only [Bool.false_eq_true, if_false] at q2 q3
          clear HC
          have HQ : Hid (C = 20 ∧ D = zeroD) := ⟨q2, q3⟩
          clear q2 q3
          go_wp2_with (with_reducible refine st37 rfl (.tmp 8) (.tmp 28) rfl W.heap.size _ _ _ _ _ _ (by with_unfolding_all rfl) (by with_unfolding_all rfl) HZ_3.out (six_dom _ _ _ _ _ _ _ _ _ _ _ _) ?_)
          refine ⟨rfl, _, R6.res2 rfl _ (HZ_3.out.set (.bool false) (.slice none 0 0) (.slice none 0 0) (.slice none 0 0) (.int .i64 0) (.int .i64 0)) rfl, ⟨_, by rw [HQ.out.1]; rfl, ?_, below_setRow hb3 (Nat.le_refl _) _⟩⟩
          rw [HQ.out.2]
          exact zero_dv _ _

set_option maxRecDepth 100000 in
set_option maxHeartbeats 4000000 in
theorem refof_any (s1 s2 : Value) (lo up : List Int) (least most : Int) (W : World) (h1 : Si W s1 lo) (h2 : Si W s2 up) :
    Calls Tryz.prog 34 #[s1, s2, .int .i64 least, .int .i64 most] W fun e w' => ∃ v, e = .returned (.tuple #[v, .int .i64 (ofC lo up least)]) ∧ Dv W.heap.size w' v (ofD lo up least most) ∧ Below W.heap.size W w' := by
  have ka := fun X (hX : Below W.heap.size W X) => set_below s1 lo X (h1.below hX)
  have kb := fun X (hX : Below W.heap.size W X) => set_below s2 up X (h2.below hX)
  have kc := fun X (hX : Below W.heap.size W X) => sub_below s1 s2 lo up X (h1.below hX) (h2.below hX)
  have kd := fun (hq : setB lo = true ∧ setB up = true ∧ subB (tkS lo) (tkS up) = true) X (hX : Below W.heap.size W X) => reftight_look s1 s2 lo up least most X (h1.below hX) (h2.below hX) (of_decide_eq_true hq.1) (of_decide_eq_true hq.2.1) ((subB_iff _ _).1 (by have := hq.2.2; rw [tkS_yes (of_decide_eq_true hq.1 : IsSet lo), tkS_yes (of_decide_eq_true hq.2.1 : IsSet up)] at this; exact this))
  obtain ⟨a1, n1, c1, rfl, HS1, HN1⟩ := si_look h1
  obtain ⟨a2, n2, c2, rfl, HS2, HN2⟩ := si_look h2
  have HC : Hid (ofB lo up least = (setB lo && setB up && subB (tkS lo) (tkS up) && decide (0 ≤ least)) ∧ ofC lo up least = (if ofB lo up least then 0 else 20) ∧ ofD lo up least most = (if ofB lo up least then tightD lo up least most else zeroD)) := ⟨rfl, rfl, rfl⟩
  generalize ofC lo up least = C at HC ⊢
  generalize ofD lo up least most = D at HC ⊢
  generalize ofB lo up least = ob at HC
  generalize tightD lo up least most = T at kd HC
  generalize setB lo = b1 at *
  generalize setB up = b2 at *
  generalize subB (tkS lo) (tkS up) = b3 at *
  clear h1 h2 HS1 HS2 HN1 HN2
  obtain ⟨w0, hW0⟩ : ∃ X, W.alloc (Obj.cells #[.bool false, .slice none 0 0, .slice none 0 0, .slice none 0 0, .int .i64 0, .int .i64 0] 37) = X := ⟨_, rfl⟩
  have HW0 : Hid _ := hW0
  have hb0 : Below W.heap.size W w0 := by rw [← hW0]; exact (Below.refl _ W).alloc (Nat.le_refl _) _
  have HZ_0 : Hid (R6 w0 W.heap.size (.bool false) (.slice none 0 0) (.slice none 0 0) (.slice none 0 0) (.int .i64 0) (.int .i64 0)) := by rw [← hW0]; exact R6.new _ _ _ _ _ _ _
  clear hW0
  go_enter Tryz.func34, Tryz.ntmps34
  go_upto_region 1 with (fail)
  rw [HW0.out]
  clear HW0
  by_cases hle0 : 0 ≤ least
  · have hle : decide (0 ≤ least) = true := by simpa using hle0
    have hlt : decide (least < 0) = false := by simp <;> omega
    clear hle0
    cases b1
    · go_wp2_with fail
      refine (ka w0 hb0).mono ?_
      rintro e w1 ⟨rfl, hb⟩
      have hb1 : Below W.heap.size W w1 := hb0.trans (hb.mono hb0.size)
      have HZ_1 : Hid _ := HZ_0.out.below hb
      clear hb hb0 HZ_0
      obtain ⟨q1, q2, q3⟩ := HC.out
      simp only [Bool.false_and, Bool.true_and, Bool.and_false, hle] at q1
      subst q1
      simp only [Bool.false_eq_true, if_false] at q2 q3
      clear HC
      have HQ : Hid (C = 20 ∧ D = zeroD) := ⟨q2, q3⟩
      clear q2 q3
      go_wp2_with (with_reducible refine st37 rfl (.tmp 8) (.tmp 28) rfl W.heap.size _ _ _ _ _ _ (by with_unfolding_all rfl) (by with_unfolding_all rfl) HZ_1.out (six_dom _ _ _ _ _ _ _ _ _ _ _ _) ?_)
      refine ⟨rfl, _, R6.res2 rfl _ (HZ_1.out.set (.bool false) (.slice none 0 0) (.slice none 0 0) (.slice none 0 0) (.int .i64 0) (.int .i64 0)) rfl, ⟨_, by rw [HQ.out.1]; rfl, ?_, below_setRow hb1 (Nat.le_refl _) _⟩⟩
      rw [HQ.out.2]
      exact zero_dv _ _
    · cases b2
      · go_wp2_with fail
        refine (ka w0 hb0).mono ?_
        rintro e w1 ⟨rfl, hb⟩
        have hb1 : Below W.heap.size W w1 := hb0.trans (hb.mono hb0.size)
        have HZ_1 : Hid _ := HZ_0.out.below hb
        clear hb hb0 HZ_0
        go_wp2_with fail
        refine (kb w1 hb1).mono ?_
        rintro e w2 ⟨rfl, hb⟩
        have hb2 : Below W.heap.size W w2 := hb1.trans (hb.mono hb1.size)
        have HZ_2 : Hid _ := HZ_1.out.below hb
        clear hb hb1 HZ_1
        obtain ⟨q1, q2, q3⟩ := HC.out
        simp only [Bool.false_and, Bool.true_and, Bool.and_false, hle] at q1
        subst q1
        simp only [Bool.false_eq_true, if_false] at q2 q3
        clear HC
        have HQ : Hid (C = 20 ∧ D = zeroD) := ⟨q2, q3⟩
        clear q2 q3
        go_wp2_with (with_reducible refine st37 rfl (.tmp 8) (.tmp 28) rfl W.heap.size _ _ _ _ _ _ (by with_unfolding_all rfl) (by with_unfolding_all rfl) HZ_2.out (six_dom _ _ _ _ _ _ _ _ _ _ _ _) ?_)
        refine ⟨rfl, _, R6.res2 rfl _ (HZ_2.out.set (.bool false) (.slice none 0 0) (.slice none 0 0) (.slice none 0 0) (.int .i64 0) (.int .i64 0)) rfl, ⟨_, by rw [HQ.out.1]; rfl, ?_, below_setRow hb2 (Nat.le_refl _) _⟩⟩
        rw [HQ.out.2]
        exact zero_dv _ _
      · cases b3
        · go_wp2_with fail
          refine (ka w0 hb0).mono ?_
          rintro e w1 ⟨rfl, hb⟩
          have hb1 : Below W.heap.size W w1 := hb0.trans (hb.mono hb0.size)
          have HZ_1 : Hid _ := HZ_0.out.below hb
          clear hb hb0 HZ_0
          go_wp2_with fail
          refine (kb w1 hb1).mono ?_
          rintro e w2 ⟨rfl, hb⟩
          have hb2 : Below W.heap.size W w2 := hb1.trans (hb.mono hb1.size)
          have HZ_2 : Hid _ := HZ_1.out.below hb
          clear hb hb1 HZ_1
          go_wp2_with fail
          refine (kc w2 hb2).mono ?_
          rintro e w3 ⟨rfl, hb⟩
          have hb3 : Below W.heap.size W w3 := hb2.trans (hb.mono hb2.size)
          have HZ_3 : Hid _ := HZ_2.out.below hb
          clear hb hb2 HZ_2
          obtain ⟨q1, q2, q3⟩ := HC.out
          simp only [Bool.false_and, Bool.true_and, Bool.and_false, hle] at q1
          subst q1
          simp only [Bool.false_eq_true, if_false] at q2 q3
          clear HC
          have HQ : Hid (C = 20 ∧ D = zeroD) := ⟨q2, q3⟩
          clear q2 q3
          go_wp2_with (with_reducible refine st37 rfl (.tmp 8) (.tmp 28) rfl W.heap.size _ _ _ _ _ _ (by with_unfolding_all rfl) (by with_unfolding_all rfl) HZ_3.out (six_dom _ _ _ _ _ _ _ _ _ _ _ _) ?_)
          refine ⟨rfl, _, R6.res2 rfl _ (HZ_3.out.set (.bool false) (.slice none 0 0) (.slice none 0 0) (.slice none 0 0) (.int .i64 0) (.int .i64 0)) rfl, ⟨_, by rw [HQ.out.1]; rfl, ?_, below_setRow hb3 (Nat.le_refl _) _⟩⟩
          rw [HQ.out.2]
          exact zero_dv _ _
        · go_wp2_with fail
          refine (ka w0 hb0).mono ?_
          rintro e w1 ⟨rfl, hb⟩
          have hb1 : Below W.heap.size W w1 := hb0.trans (hb.mono hb0.size)
          have HZ_1 : Hid _ := HZ_0.out.below hb
          clear hb hb0 HZ_0
          go_wp2_with fail
          refine (kb w1 hb1).mono ?_
          rintro e w2 ⟨rfl, hb⟩
          have hb2 : Below W.heap.size W w2 := hb1.trans (hb.mono hb1.size)
          have HZ_2 : Hid _ := HZ_1.out.below hb
          clear hb hb1 HZ_1
          go_wp2_with fail
          refine (kc w2 hb2).mono ?_
          rintro e w3 ⟨rfl, hb⟩
          have hb3 : Below W.heap.size W w3 := hb2.trans (hb.mono hb2.size)
          have HZ_3 : Hid _ := HZ_2.out.below hb
          clear hb hb2 HZ_2
          go_wp2_with fail
          refine (kd (by simp) w3 hb3).mono ?_
          rintro e w4 ⟨g0, q1, h1, j1, q2, h2, j2, g4, g5, rfl, HV, hb⟩
          have hb4 : Below W.heap.size W w4 := hb3.trans (hb.mono hb3.size)
          have HZ_4 : Hid _ := HZ_3.out.below hb
          have hszz := hb3.size
          clear hb hb3 HZ_3
          obtain ⟨e1, e2, e3⟩ := HC.out
          simp only [Bool.and_self, hle] at e1
          subst e1
          simp only [if_true] at e2 e3
          clear HC
          have HQ : Hid (C = 0 ∧ D = T) := ⟨e2, e3⟩
          clear e2 e3
          go_wp2_with (with_reducible refine st37 rfl (.tmp 8) (.tmp 33) rfl W.heap.size _ _ _ _ _ _ (by with_unfolding_all rfl) (by with_unfolding_all rfl) HZ_4.out (six_dom _ _ _ _ _ _ _ _ _ _ _ _) ?_)
          refine ⟨rfl, _, R6.res2 rfl _ (HZ_4.out.set (.bool g0) (.slice none 0 0) (.slice q1 h1 j1) (.slice q2 h2 j2) (.int .i64 g4) (.int .i64 g5)) rfl, ⟨_, by rw [HQ.out.1]; rfl, ?_, below_setRow hb4 (Nat.le_refl _) _⟩⟩
          rw [HQ.out.2]
          exact (HV.out.base hszz).set HZ_4.out _
  · have hle : decide (0 ≤ least) = false := by simpa using hle0
    have hlt : decide (least < 0) = true := by simp <;> omega
    clear hle0
    cases b1
    · go_wp2_with fail
      refine (ka w0 hb0).mono ?_
      rintro e w1 ⟨rfl, hb⟩
      have hb1 : Below W.heap.size W w1 := hb0.trans (hb.mono hb0.size)
      have HZ_1 : Hid _ := HZ_0.out.below hb
      clear hb hb0 HZ_0
      obtain ⟨q1, q2, q3⟩ := HC.out
      simp only [Bool.false_and, Bool.true_and, Bool.and_false, hle] at q1
      subst q1
      simp only [Bool.false_eq_true, if_false] at q2 q3
      clear HC
      have HQ : Hid (C = 20 ∧ D = zeroD) := ⟨q2, q3⟩
      clear q2 q3
      go_wp2_with (with_reducible refine st37 rfl (.tmp 8) (.tmp 28) rfl W.heap.size _ _ _ _ _ _ (by with_unfolding_all rfl) (by with_unfolding_all rfl) HZ_1.out (six_dom _ _ _ _ _ _ _ _ _ _ _ _) ?_)
      refine ⟨rfl, _, R6.res2 rfl _ (HZ_1.out.set (.bool false) (.slice none 0 0) (.slice none 0 0) (.slice none 0 0) (.int .i64 0) (.int .i64 0)) rfl, ⟨_, by rw [HQ.out.1]; rfl, ?_, below_setRow hb1 (Nat.le_refl _) _⟩⟩
      rw [HQ.out.2]
      exact zero_dv _ _
    · cases b2
      · go_wp2_with fail
        refine (ka w0 hb0).mono ?_
        rintro e w1 ⟨rfl, hb⟩
        have hb1 : Below W.heap.size W w1 := hb0.trans (hb.mono hb0.size)
        have HZ_1 : Hid _ := HZ_0.out.below hb
        clear hb hb0 HZ_0
        go_wp2_with fail
        refine (kb w1 hb1).mono ?_
        rintro e w2 ⟨rfl, hb⟩
        have hb2 : Below W.heap.size W w2 := hb1.trans (hb.mono hb1.size)
        have HZ_2 : Hid _ := HZ_1.out.below hb
        clear hb hb1 HZ_1
        obtain ⟨q1, q2, q3⟩ := HC.out
        simp only [Bool.false_and, Bool.true_and, Bool.and_false, hle] at q1
        subst q1
        simp only [Bool.false_eq_true, if_false] at q2 q3
        clear HC
        have HQ : Hid (C = 20 ∧ D = zeroD) := ⟨q2, q3⟩
        clear q2 q3
        go_wp2_with (with_reducible refine st37 rfl (.tmp 8) (.tmp 28) rfl W.heap.size _ _ _ _ _ _ (by with_unfolding_all rfl) (by with_unfolding_all rfl) HZ_2.out (six_dom _ _ _ _ _ _ _ _ _ _ _ _) ?_)
        refine ⟨rfl, _, R6.res2 rfl _ (HZ_2.out.set (.bool false) (.slice none 0 0) (.slice none 0 0) (.slice none 0 0) (.int .i64 0) (.int .i64 0)) rfl, ⟨_, by rw [HQ.out.1]; rfl, ?_, below_setRow hb2 (Nat.le_refl _) _⟩⟩
        rw [HQ.out.2]
        exact zero_dv _ _
      · cases b3
        · go_wp2_with fail
          refine (ka w0 hb0).mono ?_
          rintro e w1 ⟨rfl, hb⟩
          have hb1 : Below W.heap.size W w1 := hb0.trans (hb.mono hb0.size)
          have HZ_1 : Hid _ := HZ_0.out.below hb
          clear hb hb0 HZ_0
          go_wp2_with fail
          refine (kb w1 hb1).mono ?_
          rintro e w2 ⟨rfl, hb⟩
          have hb2 : Below W.heap.size W w2 := hb1.trans (hb.mono hb1.size)
          have HZ_2 : Hid _ := HZ_1.out.below hb
          clear hb hb1 HZ_1
          go_wp2_with fail
          refine (kc w2 hb2).mono ?_
          rintro e w3 ⟨rfl, hb⟩
          have hb3 : Below W.heap.size W w3 := hb2.trans (hb.mono hb2.size)
          have HZ_3 : Hid _ := HZ_2.out.below hb
          clear hb hb2 HZ_2
          obtain ⟨q1, q2, q3⟩ := HC.out
          simp only [Bool.false_and, Bool.true_and, Bool.and_false, hle] at q1
          subst q1
          simp only [Bool.false_eq_true, if_false] at q2 q3
          clear HC
          have HQ : Hid (C = 20 ∧ D = zeroD) := ⟨q2, q3⟩
          clear q2 q3
          go_wp2_with (with_reducible refine st37 rfl (.tmp 8) (.tmp 28) rfl W.heap.size _ _ _ _ _ _ (by with_unfolding_all rfl) (by with_unfolding_all rfl) HZ_3.out (six_dom _ _ _ _ _ _ _ _ _ _ _ _) ?_)
          refine ⟨rfl, _, R6.res2 rfl _ (HZ_3.out.set (.bool false) (.slice none 0 0) (.slice none 0 0) (.slice none 0 0) (.int .i64 0) (.int .i64 0)) rfl, ⟨_, by rw [HQ.out.1]; rfl, ?_, below_setRow hb3 (Nat.le_refl _) _⟩⟩
          rw [HQ.out.2]
          exact zero_dv _ _
        · go_wp2_with fail
          refine (ka w0 hb0).mono ?_
          rintro e w1 ⟨rfl, hb⟩
          have hb1 : Below W.heap.size W w1 := hb0.trans (hb.mono hb0.size)
          have HZ_1 : Hid _ := HZ_0.out.below hb
          clear hb hb0 HZ_0
          go_wp2_with fail
          refine (kb w1 hb1).mono ?_
          rintro e w2 ⟨rfl, hb⟩
          have hb2 : Below W.heap.size W w2 := hb1.trans (hb.mono hb1.size)
          have HZ_2 : Hid _ := HZ_1.out.below hb
          clear hb hb1 HZ_1
          go_wp2_with fail
          refine (kc w2 hb2).mono ?_
          rintro e w3 ⟨rfl, hb⟩
          have hb3 : Below W.heap.size W w3 := hb2.trans (hb.mono hb2.size)
          have HZ_3 : Hid _ := HZ_2.out.below hb
          clear hb hb2 HZ_2
          obtain ⟨q1, q2, q3⟩ := HC.out
          simp only [Bool.false_and, Bool.true_and, Bool.and_false, hle] at q1
          subst q1
          simp only [Bool.false_eq_true, if_false] at q2 q3
          clear HC
          have HQ : Hid (C = 20 ∧ D = zeroD) := ⟨q2, q3⟩
          clear q2 q3
          go_wp2_with (with_reducible refine st37 rfl (.tmp 8) (.tmp 28) rfl W.heap.size _ _ _ _ _ _ (by with_unfolding_all rfl) (by with_unfolding_all rfl) HZ_3.out (six_dom _ _ _ _ _ _ _ _ _ _ _ _) ?_)
          refine ⟨rfl, _, R6.res2 rfl _ (HZ_3.out.set (.bool false) (.slice none 0 0) (.slice none 0 0) (.slice none 0 0) (.int .i64 0) (.int .i64 0)) rfl, ⟨_, by rw [HQ.out.1]; rfl, ?_, below_setRow hb3 (Nat.le_refl _) _⟩⟩
          rw [HQ.out.2]
          exact zero_dv _ _
end Go.Proofs.YtacnhkaibcjjgaaGreatDoor
