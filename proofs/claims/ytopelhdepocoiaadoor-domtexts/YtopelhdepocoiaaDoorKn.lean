/-
  What is proved here: what the law's fixed calls come to.
-/
import Derived.Test.YtopelhdepocoiaaDoorPa
import Derived.Test.YtopelhdepocoiaaDoorDe
import Derived.Test.YtopelhdepocoiaaDoorEg
namespace Go.Proofs.YtopelhdepocoiaaDoor
open Go.RowKit Go.Shelf
set_option linter.unusedVariables false

theorem right_a : Right [(1, 2), (5, 5)] := by decide
theorem right_b : Right [(1, 9)] := by decide
theorem right_c : Right [(1, 2), (6, 9)] := by decide
theorem right_d : Right [(3, 5)] := by decide
theorem right_e : Right [(1, 2), (7, 9)] := by decide
theorem nf_a : nf (singles [5, 1, 2, 2]) = [(1, 2), (5, 5)] := by
  have f := nf_facts (singles [5, 1, 2, 2])
  refine ord_ext f.1 (right_ord right_a).1 fun v => ?_
  rw [f.2]
  simp only [singles, List.map_cons, List.map_nil, vals_cons]
  simp only [vals, List.flatMap_nil, List.not_mem_nil, or_false]
  omega
theorem less_c : ov (tk [(1, 9)]) (notL (tk [(3, 5)])) = [(1, 2), (6, 9)] := by
  rw [tk_yes right_b, tk_yes right_d]
  have g := notL_facts right_d
  have f := ov_facts (right_ord right_b).1 g.1
  refine ord_ext f.1 (right_ord right_c).1 fun v => ?_
  rw [f.2, g.2]
  simp only [vals_cons]
  simp only [vals, List.flatMap_nil, List.not_mem_nil, or_false]
  omega
theorem text_a : txN [(1, 2), (5, 5)] 2 = [49, 46, 46, 50, 44, 53] := by
  simp [txN, tx1, lo, hi, Lib.itoa, Lib.decDigits_one]
theorem text_c : txN [(1, 2), (6, 9)] 2 = [49, 46, 46, 50, 44, 54, 46, 46, 57] := by
  simp [txN, tx1, lo, hi, Lib.itoa, Lib.decDigits_one]
theorem not_bad_a : ¬ bad (singles [5, 1, 2, 2]) := by
  rintro ⟨r, hr, h1, h2⟩
  simp [singles] at hr
  rcases hr with rfl | rfl | rfl | rfl <;> simp at h2
theorem Tens.here {W w1 : World} (hT : Tens W.heap.size W) (hb : Below W.heap.size W w1) : Tens w1.heap.size w1 := Lib.tabBelow_of_tabIs (hT.on hb).here
theorem fits_small {l : List Rg} (h : Right l) : FitsR l := fun i hi' => by
  have := h.2 i hi'; unfold OkAt at this; unfold Fits; omega
theorem some_a : Some' [(1, 2), (5, 5)] := ⟨right_a, by decide⟩
theorem some_c : Some' [(1, 2), (6, 9)] := ⟨right_c, by decide⟩
theorem next_e : nextR (tk [(1, 2), (7, 9)]) 3 = (7, true) := by rw [tk_yes right_e]; decide

theorem Sr.two (w : World) (x y x' y' : Int) : Sr (w.alloc (.cells #[.int .i64 x, .int .i64 y, .int .i64 x', .int .i64 y'] 34)) (.slice (some ⟨w.heap.size, 0, none⟩) 2 2) [(x, y), (x', y')] := by
  have hnw := World.alloc_heap_new w (Obj.cells #[.int .i64 x, .int .i64 y, .int .i64 x', .int .i64 y'] 34)
  refine ⟨_, 2, rfl, fun _ => ⟨w.heap.size, 0, rfl, by simp, fun i hi' => ?_⟩⟩
  have h9 : i = 0 ∨ i = 1 := by simp at hi'; omega
  rcases h9 with rfl | rfl
  · exact ⟨by simp only [World.cell?, hnw]; rfl, by simp only [World.cell?, hnw]; rfl⟩
  · exact ⟨by simp only [World.cell?, hnw]; rfl, by simp only [World.cell?, hnw]; rfl⟩
theorem Si.four (w : World) : Si (w.alloc (.cells #[.int .i64 5, .int .i64 1, .int .i64 2, .int .i64 2] 2)) (.slice (some ⟨w.heap.size, 0, none⟩) 4 4) [5, 1, 2, 2] := by
  have hnw := World.alloc_heap_new w (Obj.cells #[.int .i64 5, .int .i64 1, .int .i64 2, .int .i64 2] 2)
  refine ⟨_, 4, rfl, fun _ => ⟨w.heap.size, 0, rfl, by simp, fun i hi' => ?_⟩⟩
  have h9 : i = 0 ∨ i = 1 ∨ i = 2 ∨ i = 3 := by simp at hi'; omega
  rcases h9 with rfl | rfl | rfl | rfl <;> (simp only [World.cell?, hnw]; rfl)

set_option maxRecDepth 100000 in
set_option maxHeartbeats 4000000 in
theorem known22 (W : World) (hM : MaxL W) (hT : Tens W.heap.size W) :
    Calls Tryd.prog 10 #[] W fun e w' => e = .returned (.bool true) ∧ Below W.heap.size W w' := by
  have hM0 := hM.1
  have HM : Hid (MaxL W) := hM
  have HT : Hid (Tens W.heap.size W) := hT
  clear hM hT
  go_enter Tryd.func10, Tryd.ntmps10
  go_wp2_with fail
  refine (domof_any _ _ _ (Si.four W) (by simp)).mono ?_
  rintro e w1 ⟨sa, ca, rfl, hb1, hca⟩
  rw [nf_a] at hca
  have hB0 : Below W.heap.size W (W.alloc (.cells #[.int .i64 5, .int .i64 1, .int .i64 2, .int .i64 2] 2)) := (Below.refl _ W).alloc (Nat.le_refl _) _
  have hB1 : Below W.heap.size W w1 := hB0.trans (hb1.mono hB0.size)
  obtain ⟨rfl, hra⟩ : ca = 0 ∧ w1.ownsRow W.heap.size 34 2 sa 2 (flat [(1, 2), (5, 5)]) := by
    rcases hca with ⟨h, _⟩ | ⟨_, h1, _, h2, _⟩ | ⟨_, _, h, _⟩
    · exact absurd h not_bad_a
    · exact ⟨h1, own_base h2 hB0.size⟩
    · simp at h
  have hSa : Sr w1 sa [(1, 2), (5, 5)] := own_srl (l := [(1, 2), (5, 5)]) hra
  have HSa : Hid (Sr w1 sa [(1, 2), (5, 5)]) := hSa
  have h9 := hSa
  obtain ⟨aa, capa, rfl, _⟩ := h9
  clear hca hra hSa hb1 hB0
  go_wp2_with fail
  refine (domspan_any 1 9 _).mono ?_
  rintro e w2 ⟨sb, cb, rfl, hb2, hcb⟩
  have hB2 : Below W.heap.size W w2 := hB1.trans (hb2.mono hB1.size)
  obtain ⟨rfl, hrb⟩ : cb = 0 ∧ w2.ownsRow w1.heap.size 34 2 sb 1 (flat [(1, 9)]) := by
    rcases hcb with ⟨_, h1, h2⟩ | ⟨h, _⟩
    · exact ⟨h1, h2⟩
    · exact absurd h (by decide)
  have hSb : Sr w2 sb [(1, 9)] := own_srl (l := [(1, 9)]) hrb
  have HSb : Hid (Sr w2 sb [(1, 9)]) := hSb
  have HSa2 : Hid _ := HSa.out.below hb2
  have h9 := hSb
  obtain ⟨ab, capb, rfl, _⟩ := h9
  clear hcb hrb hSb hb2 HSa
  go_wp2_with fail
  have hB3 : Below W.heap.size W (w2.alloc (.cells #[.int .i64 3, .int .i64 5] 34)) := hB2.alloc hB2.size _
  have hb23 : Below w2.heap.size w2 (w2.alloc (.cells #[.int .i64 3, .int .i64 5] 34)) := (Below.refl _ _).alloc (Nat.le_refl _) _
  refine (domless_any _ _ [(1, 9)] [(3, 5)] _ (HSb.out.below hb23) (Sr.one w2 3 5) (fits_small right_b) (fits_small right_d)).mono ?_
  rintro e w3 ⟨sc, cc, rfl, hb3, hcc⟩
  rw [less_c] at hcc
  have hB4 : Below W.heap.size W w3 := hB3.trans (hb3.mono hB3.size)
  obtain ⟨rfl, hrc⟩ : cc = 0 ∧ w3.ownsRow (w2.alloc (.cells #[.int .i64 3, .int .i64 5] 34)).heap.size 34 2 sc 2 (flat [(1, 2), (6, 9)]) := by
    rcases hcc with ⟨h1, _, h2, _⟩ | ⟨_, h, _⟩
    · exact ⟨h1, h2⟩
    · simp at h
  have hSc : Sr w3 sc [(1, 2), (6, 9)] := own_srl (l := [(1, 2), (6, 9)]) hrc
  have HSc : Hid (Sr w3 sc [(1, 2), (6, 9)]) := hSc
  have HSa3 : Hid (Sr w3 (.slice aa 2 capa) [(1, 2), (5, 5)]) := (Sr.below HSa2.out hb23).below hb3
  have h9 := hSc
  obtain ⟨ac, capc, rfl, _⟩ := h9
  clear hcc hrc hSc hb3 HSa2 hb23 hB3
  go_wp2_with fail
  have hB5 : Below W.heap.size W (w3.alloc (.cells #[.int .i64 1, .int .i64 2, .int .i64 7, .int .i64 9] 34)) := hB4.alloc hB4.size _
  have hb35 : Below w3.heap.size w3 (w3.alloc (.cells #[.int .i64 1, .int .i64 2, .int .i64 7, .int .i64 9] 34)) := (Below.refl _ _).alloc (Nat.le_refl _) _
  have hnx := domnext_any _ [(1, 2), (7, 9)] 3 _ (Sr.two w3 1 2 7 9) (fits_small right_e)
  rw [next_e] at hnx
  refine hnx.mono ?_
  clear hnx
  rintro e w4 ⟨rfl, hb4⟩
  have hB6 : Below W.heap.size W w4 := hB5.trans (hb4.mono hB5.size)
  have hb36 : Below w3.heap.size w3 w4 := hb35.trans (hb4.mono hb35.size)
  have hM4 := HM.out.below hB6 hM0
  clear hb4 hb35 hB5
  go_wp2_with fail
  refine (parse12 w4 hM4).mono ?_
  rintro e w5 ⟨rfl, hb5⟩
  have hB7 : Below W.heap.size W w5 := hB6.trans (hb5.mono hB6.size)
  have hb37 : Below w3.heap.size w3 w5 := hb36.trans (hb5.mono hb36.size)
  have hSa5 := HSa3.out.below hb37
  have hT5 := Tens.here HT.out hB7
  have hta := domtext_yes _ _ w5 hSa5 (fits_small right_a) some_a hT5
  rw [show ([(1, 2), (5, 5)] : List Rg).length = 2 from rfl, text_a] at hta
  clear hb5 hM4 hSa5 hT5 hb36
  go_wp2_with fail
  refine hta.mono ?_
  clear hta
  rintro e w6 ⟨rfl, hb6⟩
  have hB8 : Below W.heap.size W w6 := hB7.trans (hb6.mono hB7.size)
  have hb38 : Below w3.heap.size w3 w6 := hb37.trans (hb6.mono hb37.size)
  have hSc6 := HSc.out.below hb38
  have hT6 := Tens.here HT.out hB8
  have htc := domtext_yes _ _ w6 hSc6 (fits_small right_c) some_c hT6
  rw [show ([(1, 2), (6, 9)] : List Rg).length = 2 from rfl, text_c] at htc
  clear hb6 hSc6 hT6 hb37
  go_wp2_with fail
  refine htc.mono ?_
  clear htc
  rintro e w7 ⟨rfl, hb7⟩
  have hB9 : Below W.heap.size W w7 := hB8.trans (hb7.mono hB8.size)
  clear hb7 hb38
  go_wp2
  go_ret
  exact ⟨rfl, hB9⟩
end Go.Proofs.YtopelhdepocoiaaDoor

