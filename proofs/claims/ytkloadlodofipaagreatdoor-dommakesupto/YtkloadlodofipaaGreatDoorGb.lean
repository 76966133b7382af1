/-
  What is proved here: dom.Either and dom.Not of any ranges.
-/
import Derived.Test.YtkloadlodofipaaGreatDoorGa
import Derived.Test.YtkloadlodofipaaGreatDoorEg
namespace Go.Proofs.YtkloadlodofipaaGreatDoor
open Go.RowKit Go.Shelf
set_option linter.unusedVariables false

theorem tk_len (l : List Rg) : (tk l).length ≤ 4096 := (tk_right l).1
theorem concat_at (B : Nat) (a1 a2 : Option Addr) (n1 n2 c1 c2 : Nat) (la lb : List Rg) (w : World) (eB : B = w.heap.size) (h1 : Sr w (.slice a1 n1 c1) la) (h2 : Sr w (.slice a2 n2 c2) lb) (hl1 : la.length ≤ 10000) (hl2 : lb.length ≤ 10000) :
    Calls Tryz.prog 67 #[.slice (some ⟨B, 0, none⟩) 2 2] (w.alloc (.cells #[.slice a1 n1 c1, .slice a2 n2 c2] 23)) fun e w' => ∃ s, e = .returned s ∧ w'.ownsRow w.heap.size 55 2 s (la ++ lb).length (flat (la ++ lb)) ∧ Below w.heap.size w w' := by
  subst eB
  have hb : Below w.heap.size w (w.alloc (.cells #[.slice a1 n1 c1, .slice a2 n2 c2] 23)) := (Below.refl _ _).alloc (Nat.le_refl _) _
  have hnw := World.alloc_heap_new w (Obj.cells #[.slice a1 n1 c1, .slice a2 n2 c2] 23)
  have k0 : (w.alloc (.cells #[.slice a1 n1 c1, .slice a2 n2 c2] 23)).cell? ⟨w.heap.size, 0, none⟩ = some (.slice a1 n1 c1) := by simp only [World.cell?, hnw]; rfl
  have k1 : (w.alloc (.cells #[.slice a1 n1 c1, .slice a2 n2 c2] 23)).cell? ⟨w.heap.size, 1, none⟩ = some (.slice a2 n2 c2) := by simp only [World.cell?, hnw]; rfl
  have hlt : w.heap.size < (w.alloc (.cells #[.slice a1 n1 c1, .slice a2 n2 c2] 23)).heap.size := by simp
  obtain ⟨W1, hW1⟩ : ∃ W1, (w.alloc (.cells #[.slice a1 n1 c1, .slice a2 n2 c2] 23)) = W1 := ⟨_, rfl⟩
  rw [hW1] at hb k0 k1 hlt ⊢
  refine (concat_two w.heap.size a1 a2 n1 n2 c1 c2 la lb W1 hlt k0 k1 (h1.below hb) (h2.below hb) hl1 hl2).mono ?_
  rintro e w' ⟨s, he, hrow, hb'⟩
  exact ⟨s, he, own_base hrow hb.size, hb.trans (hb'.mono hb.size)⟩
set_option maxHeartbeats 2000000 in
set_option maxRecDepth 100000 in
/-- Either, of any ranges. -/
theorem domeither_any (s1 s2 : Value) (la lb : List Rg) (w : World) (h1 : Sr w s1 la) (h2 : Sr w s2 lb) (hf1 : FitsR la) (hf2 : FitsR lb) :
    Calls Tryz.prog 36 #[s1, s2] w fun e w' => NormEnd (tk la ++ tk lb) w e w' := by
  have hk1 := known_tk s1 la w h1 hf1
  have hk2 := fun W (hW : Below w.heap.size w W) => known_tk s2 lb W (h2.below hW) hf2
  have hla := tk_len la
  have hlb := tk_len lb
  obtain ⟨a1, c1, rfl, _⟩ := h1
  obtain ⟨a2, c2, rfl, _⟩ := h2
  clear hf1 hf2
  go_enter Tryz.func36, Tryz.ntmps36
  go_wp2_with fail
  refine hk1.mono ?_
  clear hk1
  rintro e w1 ⟨a, n, c, rfl, hS1, hn1, hb1⟩
  have HS1 : Hid (Sr w (.slice a n c) (tk la)) := hS1
  clear hS1 hn1
  go_wp2_with fail
  refine (hk2 w1 hb1).mono ?_
  clear hk2
  rintro e w2 ⟨a', n', c', rfl, hS2, hn2, hb2⟩
  have HS2 : Hid (Sr w1 (.slice a' n' c') (tk lb)) := hS2
  have hb12 : Below w.heap.size w w2 := hb1.trans (hb2.mono hb1.size)
  clear hS2 hn2
  go_wp2_with fail
  have hcc := concat_at w2.heap.size a a' n n' c c' (tk la) (tk lb) w2 rfl (HS1.out.below hb12) (HS2.out.below hb2) (by omega) (by omega)
  refine hcc.mono ?_
  clear hcc
  rintro e w4 ⟨s4, rfl, hrow, hb4⟩
  have hb14 : Below w.heap.size w w4 := hb12.trans (hb4.mono hb12.size)
  obtain ⟨a4, n4, c4, rfl⟩ : ∃ a n c, s4 = .slice a n c := by
    rcases hrow.2 with ⟨e, _⟩ | ⟨q1, q2, q3, e, _⟩
    · exact ⟨_, _, _, e⟩
    · exact ⟨_, _, _, e⟩
  have HS4 : Hid (Sr w4 (.slice a4 n4 c4) (tk la ++ tk lb)) := own_srl hrow
  clear hrow
  go_wp2_with fail
  refine (norm_any _ (tk la ++ tk lb) w4 HS4.out (by rw [List.length_append]; omega)).mono ?_
  rintro e w5 ⟨s5, cc, rfl, hb5, hcase⟩
  have HC : Hid _ := hcase
  clear hcase
  go_wp2
  go_ret2
  refine ⟨s5, cc, rfl, hb14.trans (hb5.mono hb14.size), ?_⟩
  rcases HC.out with h | ⟨q1, q2, q3, q4, q5⟩ | h
  · exact .inl h
  · exact .inr (.inl ⟨q1, q2, q3, own_base q4 hb14.size, q5⟩)
  · exact .inr (.inr h)

/-- What Not returns. -/
def notR (l : List Rg) : List Rg := if (notL (tk l)).length ≤ 4096 then notL (tk l) else []
set_option maxHeartbeats 1000000 in
theorem domnot_any (s : Value) (l : List Rg) (w : World) (h : Sr w s l) (hf : FitsR l) :
    Calls Tryz.prog 42 #[s] w fun e w' => ∃ s', e = .returned s' ∧ w'.ownsRow w.heap.size 55 2 s' (notR l).length (flat (notR l)) ∧ Below w.heap.size w w' := by
  have hk := known_tk s l w h hf
  have hg := fun W (hW : Below w.heap.size w W) a n c (hS : Sr w (.slice a n c) (tk l)) => gaps_any (.slice a n c) (tk l) W (hS.below hW) (tk_right l)
  obtain ⟨a0, c0, rfl, _⟩ := h
  have HG : Hid _ := hg
  clear hf hg
  go_enter Tryz.func42, Tryz.ntmps42
  go_wp2_with fail
  refine hk.mono ?_
  clear hk
  rintro e w1 ⟨a, n, c, rfl, hS, hn, hb⟩
  have hgg := HG.out w1 hb a n c hS
  clear hS hn
  go_wp2_with fail
  refine hgg.mono ?_
  clear hgg
  rintro e w2 ⟨s2, rfl, hrow, _, hb2⟩
  have HROW : Hid (w2.ownsRow w1.heap.size 55 2 s2 (notL (tk l)).length (flat (notL (tk l)))) := hrow
  have hb12 : Below w.heap.size w w2 := hb.trans (hb2.mono hb.size)
  obtain ⟨sa, sn, sc, rfl, hsn⟩ : ∃ b n c, s2 = .slice b n c ∧ n = (notL (tk l)).length := by
    rcases hrow.2 with ⟨e, e2⟩ | ⟨q1, q2, q3, e, _⟩
    · exact ⟨_, _, _, e, e2.symm⟩
    · exact ⟨_, _, _, e, rfl⟩
  have HSN : Hid (sn = (notL (tk l)).length) := hsn
  clear hrow hsn
  by_cases hlt : sn ≤ 4096
  · have hd : decide (4096 < (sn : Int)) = false := by simp; omega
    go_wp2
    go_ret
    refine ⟨_, rfl, ?_, hb12⟩
    unfold notR
    rw [if_pos (by rw [← HSN.out]; exact hlt)]
    exact own_base HROW.out hb.size
  · have hd : decide (4096 < (sn : Int)) = true := by simp; omega
    go_wp2
    go_ret
    refine ⟨_, rfl, ?_, hb12⟩
    unfold notR
    rw [if_neg (by rw [← HSN.out]; exact hlt)]
    exact World.ownsRow_nil _ _ _ _
end Go.Proofs.YtkloadlodofipaaGreatDoor
