/-
  What is proved here: what sets.Fixed tells of any domain.
-/
import Derived.Test.YtghnfnieppfhgaaGreatAa
import Derived.Test.YtghnfnieppfhgaaGreatYTbj
import Derived.Test.YtghnfnieppfhgaaGreatYNbj
import Derived.Test.YtghnfnieppfhgaaGreatYNa
import Derived.Test.YtghnfnieppfhgaaGreatYSfj
import Derived.Laws.ResultCell
namespace Go.Proofs.YtghnfnieppfhgaaGreat.St
open Go.RowKit Go.Shelf
set_option linter.unusedVariables false
set_option linter.unusedSimpArgs false

def fixB (d : SD) : Bool := !emptyD (takenD d) && !decide ((takenD d).lo.length < (takenD d).up.length)
def fixL (d : SD) : List Int := if fixB d then (takenD d).lo else []

set_option maxRecDepth 100000 in
set_option maxHeartbeats 4000000 in
theorem fixed_any (v : Value) (d : SD) (W : World) (h : Di W v d) :
    Calls Tryz.prog 97 #[v] W fun e w' => ∃ p n c, e = .returned (.tuple #[.slice p n c, .bool (fixB d)]) ∧ Hid (w'.ownsRow W.heap.size 2 1 (.slice p n c) n (intv (fixL d))) ∧ Hid ((fixL d).length = n) ∧ Below W.heap.size W w' := by
  have k77 := fun X (hX : Below W.heap.size W X) => (taken_dom v d X (h.below hX))
  obtain ⟨x0a, raa, rna, rca, a1a, n1a, c1a, a2a, n2a, c2a, x4a, x5a, rfl, HEa, HLOa, HUPa⟩ := h.look
  have HF : Hid (fixB d = (!emptyD (takenD d) && !decide ((takenD d).lo.length < (takenD d).up.length)) ∧ fixL d = if fixB d then (takenD d).lo else []) := ⟨rfl, rfl⟩
  generalize fixL d = FL at HF ⊢
  generalize fixB d = FB at HF ⊢
  generalize takenD d = T at *
  obtain ⟨w0, hW0⟩ : ∃ X, (W.alloc (Obj.cells #[.bool x0a, .slice raa rna rca, .slice a1a n1a c1a, .slice a2a n2a c2a, .int .i64 x4a, .int .i64 x5a] 37)) = X := ⟨_, rfl⟩
  have HW0 : Hid _ := hW0
  have hb0 : Below W.heap.size W w0 := by rw [← hW0]; exact ((Below.refl _ W).alloc (by simp <;> omega) _)
  have HA_0 : Hid (R6 w0 W.heap.size (.bool x0a) (.slice raa rna rca) (.slice a1a n1a c1a) (.slice a2a n2a c2a) (.int .i64 x4a) (.int .i64 x5a)) := by rw [← hW0]; exact (R6.new _ _ _ _ _ _ _)
  clear hW0
  clear h HEa HLOa HUPa
  go_enter Tryz.func97, Tryz.ntmps97
  go_upto_region 1 with (fail)
  rw [HW0.out]
  clear HW0
  obtain ⟨zA0, zA1, zA2, zA3, zA4, zA5⟩ := HA_0.out.cells
  go_wp2_with fail
  refine (k77 w0 hb0).mono ?_
  rintro e w1 ⟨v9, rfl, hD, hb⟩
  have hb1 : Below W.heap.size W w1 := hb0.trans (hb.mono hb0.size)
  have HA_1 : Hid _ := HA_0.out.below hb
  obtain ⟨y0t, p1t, m1t, k1t, p2t, m2t, k2t, y4t, y5t, rfl, HET, HO1, HO2⟩ := hD.look
  have DT_1 : Hid (Dv W.heap.size w1 (.agg #[.bool y0t, .slice none 0 0, .slice p1t m1t k1t, .slice p2t m2t k2t, .int .i64 y4t, .int .i64 y5t]) T) := hD.base hb0.size
  have OT_1 : Hid (w1.ownsRow W.heap.size 2 1 (.slice p1t m1t k1t) m1t (intv T.lo)) := own_base HO1.out hb0.size
  clear hD HO1 HO2
  clear zA0 zA1 zA2 zA3 zA4 zA5
  clear hb hb0 HA_0
  have hb2 := below_setRow hb1 (show W.heap.size ≤ W.heap.size by omega) #[.bool y0t, .slice none 0 0, .slice p1t m1t k1t, .slice p2t m2t k2t, .int .i64 y4t, .int .i64 y5t]
  have HA_2 : Hid _ := HA_1.out.set (.bool y0t) (.slice none 0 0) (.slice p1t m1t k1t) (.slice p2t m2t k2t) (.int .i64 y4t) (.int .i64 y5t)
  have DT_2 : Hid (Dv W.heap.size (w1.setRow W.heap.size #[.bool y0t, .slice none 0 0, .slice p1t m1t k1t, .slice p2t m2t k2t, .int .i64 y4t, .int .i64 y5t]) (.agg #[.bool y0t, .slice none 0 0, .slice p1t m1t k1t, .slice p2t m2t k2t, .int .i64 y4t, .int .i64 y5t]) T) := DT_1.out.set HA_1.out #[.bool y0t, .slice none 0 0, .slice p1t m1t k1t, .slice p2t m2t k2t, .int .i64 y4t, .int .i64 y5t]
  have OT_2 : Hid ((w1.setRow W.heap.size #[.bool y0t, .slice none 0 0, .slice p1t m1t k1t, .slice p2t m2t k2t, .int .i64 y4t, .int .i64 y5t]).ownsRow W.heap.size 2 1 (.slice p1t m1t k1t) m1t (intv T.lo)) := own_setRow OT_1.out W.heap.size #[.bool y0t, .slice none 0 0, .slice p1t m1t k1t, .slice p2t m2t k2t, .int .i64 y4t, .int .i64 y5t] HA_1.out.h
  go_upto_region 2 with (with_reducible refine st37 rfl (.tmp 1) (.tmp 5) rfl W.heap.size _ _ _ _ _ _ (by with_unfolding_all rfl) (by with_unfolding_all rfl) HA_1.out (six_dom _ _ _ _ _ _ _ _ _ _ _ _) ?_)
  simp only [Act.put]
  clear HA_1 DT_1 OT_1 hb1
  generalize w1.setRow W.heap.size #[.bool y0t, .slice none 0 0, .slice p1t m1t k1t, .slice p2t m2t k2t, .int .i64 y4t, .int .i64 y5t] = w2 at hb2 HA_2 DT_2 OT_2 ⊢
  obtain ⟨zA0, zA1, zA2, zA3, zA4, zA5⟩ := HA_2.out.cells
  have k42 := empty_any _ T _ DT_2.out.di
  obtain ⟨eb, heb⟩ : ∃ b, emptyD T = b := ⟨_, rfl⟩
  rw [heb] at k42
  have HEB : Hid (emptyD T = eb) := heb
  clear heb
  go_wp2_with fail
  refine (k42).mono ?_
  rintro e w3 ⟨rfl, hb⟩
  have hb3 : Below W.heap.size W w3 := hb2.trans (hb.mono hb2.size)
  have HA_3 : Hid _ := HA_2.out.below hb
  have DT_3 : Hid (Dv W.heap.size w3 (.agg #[.bool y0t, .slice none 0 0, .slice p1t m1t k1t, .slice p2t m2t k2t, .int .i64 y4t, .int .i64 y5t]) T) := DT_2.out.below hb
  have OT_3 : Hid (w3.ownsRow W.heap.size 2 1 (.slice p1t m1t k1t) m1t (intv T.lo)) := own_keepB OT_2.out hb
  clear zA0 zA1 zA2 zA3 zA4 zA5
  clear hb hb2 HA_2 DT_2 OT_2
  obtain ⟨zA0, zA1, zA2, zA3, zA4, zA5⟩ := HA_3.out.cells
  cases eb
  · by_cases hl : m1t < m2t
    · have hl2 : (m1t : Int) < (m2t : Int) := by omega
      go_wp2
      go_ret2
      obtain ⟨f1, f2⟩ := HF.out
      have e1 : FB = false := by rw [f1, HEB.out]; rw [HET.out.2.1, HET.out.2.2.1]; simp [hl]
      rw [e1] at f2
      simp only [Bool.false_eq_true, if_false] at f2
      subst f2
      exact ⟨none, 0, 0, by rw [e1]; rfl, World.ownsRow_nil _ _ _ _, rfl, hb3⟩
    · have hl2 : ¬ (m1t : Int) < (m2t : Int) := by omega
      go_wp2
      go_ret2
      obtain ⟨f1, f2⟩ := HF.out
      have e1 : FB = true := by rw [f1, HEB.out, HET.out.2.1, HET.out.2.2.1]; simp [hl]
      rw [e1] at f2
      simp only [if_true] at f2
      subst f2
      exact ⟨p1t, m1t, k1t, by rw [e1]; rfl, OT_3.out, HET.out.2.1, hb3⟩
  · go_wp2
    go_ret2
    obtain ⟨f1, f2⟩ := HF.out
    have e1 : FB = false := by rw [f1, HEB.out]; rfl
    rw [e1] at f2
    simp only [Bool.false_eq_true, if_false] at f2
    subst f2
    exact ⟨none, 0, 0, by rw [e1]; rfl, World.ownsRow_nil _ _ _ _, rfl, hb3⟩
end Go.Proofs.YtghnfnieppfhgaaGreat.St

