/-
  What is proved here: the walk of SetsAlgebra, part 3.
-/
import Derived.Test.YtcnipgdpefipdaaGreatDoorAc
namespace Go.Proofs.YtcnipgdpefipdaaGreatDoor
open Go.RowKit Go.Shelf
set_option linter.unusedVariables false
set_option linter.unusedSimpArgs false

set_option maxRecDepth 100000 in
set_option maxHeartbeats 4000000 in
theorem alg_01p (s1 s2 s3 : Value) (a b c : List Int) (W : World) (h1 : Si W s1 a) (h2 : Si W s2 b) (h3 : Si W s3 c) (hM : MaxL W) (hE : ErrV W) (hT : Tens W.heap.size W) (hA : ¬ IsSet a) (hJ : IsSet (joinL (tkS a) (tkS b))) (hx : cmpL (tkS a) (tkS b) = 1) :
    Calls Tryz.prog 8 #[s1, s2, s3] W fun e w' => e = .returned (.bool true) ∧ Below W.heap.size W w' := by
  have hM0 := hM.1
  have HM : Hid (MaxL W) := hM
  have HE : Hid (ErrV W) := hE
  have HT : Hid (Tens W.heap.size W) := hT
  have hy : cmpL (tkS b) (tkS a) = -1 := by have := cmp_neg (tkS b) (tkS a); omega
  have k29a := fun X (hX : Below W.heap.size W X) => setB_below s1 a X (h1.below hX)
  have k21a := fun X (hX : Below W.heap.size W X) => text_any s1 a X (h1.below hX) (Tens.here HT.out hX)
  have k21b := fun X (hX : Below W.heap.size W X) => text_any s2 b X (h2.below hX) (Tens.here HT.out hX)
  have k19 := fun s X (hX : Below W.heap.size W X) => parse_any s X (HM.out.below hX hM0) (HE.out.below hX (by omega)) (Tens.here HT.out hX)
  have k14 := fun v X (hX : Below W.heap.size W X) (hl : a.length ≤ 100000) (hv : Si X v a) => same_yes v s1 a X hv (h1.below hX) hl
  have k10 := fun X (hX : Below W.heap.size W X) => join_any s1 s2 a b X (h1.below hX) (h2.below hX)
  have k11 := fun X (hX : Below W.heap.size W X) => meet_any s1 s2 a b X (h1.below hX) (h2.below hX)
  have k13 := fun X (hX : Below W.heap.size W X) => sym_any s1 s2 a b X (h1.below hX) (h2.below hX)
  have kab := fun X (hX : Below W.heap.size W X) => cmp_any s1 s2 a b X (h1.below hX) (h2.below hX)
  have kba := fun X (hX : Below W.heap.size W X) => cmp_any s2 s1 b a X (h2.below hX) (h1.below hX)
  have kbc := fun X (hX : Below W.heap.size W X) => cmp_any s2 s3 b c X (h2.below hX) (h3.below hX)
  have kac := fun X (hX : Below W.heap.size W X) => cmp_any s1 s3 a c X (h1.below hX) (h3.below hX)
  have k27m := fun v X (hX : Below W.heap.size W X) (hv : Si X v (meetL (tkS a) (tkS b))) => sub_any v s1 _ a X hv (h1.below hX)
  have k27j := fun v X (hX : Below W.heap.size W X) (hv : Si X v (joinL (tkS a) (tkS b))) => sub_any s1 v a _ X (h1.below hX) hv
  have k29j := fun v X (hv : Si X v (joinL (tkS a) (tkS b))) => setB_below v _ X hv
  have k32 := fun X (hX : Below W.heap.size W X) => known32 X (HM.out.below hX hM0) (HE.out.below hX (by omega)) (Tens.here HT.out hX)
  have hms : IsSet (meetL (tkS a) (tkS b)) := set_filter (tkS_set a) _
  have hsm := sub_meet (tkS a) (tkS b)
  have hsj := sub_join (tkS a) (tkS b)
  simp only [hx, hy, setB_no hA, setB_yes hJ, tkS_yes hms, hsm, tkS_yes hJ, hsj] at k29a kab kba k27m k29j k27j
  have HA : Hid _ := hA
  have hJL : lessL (joinL (tkS a) (tkS b)) (meetL (tkS a) (tkS b)) = symL (tkS a) (tkS b) := join_less (tkS_set a) (tkS_set b) hJ
  have hJ64 := hJ.1
  have k12 := fun v v2 X (hv : Si X v (joinL (tkS a) (tkS b))) (hv2 : Si X v2 (meetL (tkS a) (tkS b))) => less_any v v2 _ _ X hv hv2
  simp only [tkS_yes hJ, tkS_yes hms, hJL] at k12
  have hsl : (symL (tkS a) (tkS b)).length ≤ 100000 := by rw [← hJL]; have := lessL_le (joinL (tkS a) (tkS b)) (meetL (tkS a) (tkS b)); omega
  have HSL : Hid _ := hsl
  clear hJL hJ64 hsl
  have HS1 : Hid (Si W s1 a) := h1
  generalize joinL (tkS a) (tkS b) = J at *
  generalize meetL (tkS a) (tkS b) = M at *
  generalize symL (tkS a) (tkS b) = S at *
  obtain ⟨a1, c1, rfl, _⟩ := h1
  obtain ⟨a2, c2, rfl, _⟩ := h2
  obtain ⟨a3, c3, rfl, _⟩ := h3
  have hb0 : Below W.heap.size W W := Below.refl _ W
  clear hM hE hT hJ hx hy hms hsm hsj hA
  go_enter Tryz.func8, Tryz.ntmps8
  go_wp2_with fail
  refine (k29a W hb0).mono ?_
  rintro e w1 ⟨rfl, hb⟩
  have hb1 : Below W.heap.size W w1 := hb0.trans (hb.mono hb0.size)
  go_wp2_with fail
  refine (k10 w1 hb1).mono ?_
  rintro e w2 ⟨vj, rfl, hrow, hb⟩
  have hb2 : Below W.heap.size W w2 := hb1.trans (hb.mono hb1.size)
  have HSJ := own_si hrow
  obtain ⟨pj, cj, rfl⟩ := own_slice hrow
  clear hrow
  have HJJ : Hid _ := HSJ
  clear HSJ
  have HJB : Hid (∀ X, Below w2.heap.size w2 X → Si X (.slice pj J.length cj) J) := fun X hX => Si.below (l := J) HJJ.out hX
  have hj2 : Below w2.heap.size w2 w2 := Below.refl _ _
  clear HJJ
  generalize hjl : J.length = nj at HJB
  clear hjl
  go_wp2_with fail
  refine (k29j _ w2 (HJB.out _ hj2)).mono ?_
  rintro e w3 ⟨rfl, hb⟩
  have hb3 : Below W.heap.size W w3 := hb2.trans (hb.mono hb2.size)
  have hj3 : Below w2.heap.size w2 w3 := hj2.trans (hb.mono hj2.size)
  clear hb hb2 hj2
  go_wp2_with fail
  refine (k11 w3 hb3).mono ?_
  rintro e w4 ⟨vm, rfl, hFm, hb⟩
  have hb4 : Below W.heap.size W w4 := hb3.trans (hb.mono hb3.size)
  have hSm := hFm.si
  have hSm' := hSm
  obtain ⟨pm, cm, rfl, _⟩ := hSm'
  have HSm : Hid _ := hSm
  clear hSm hFm
  have hj4 : Below w2.heap.size w2 w4 := hj3.trans (hb.mono hj3.size)
  clear hb hb3 hj3
  go_wp2_with fail
  refine (k12 _ _ w4 (HJB.out _ hj4) HSm.out).mono ?_
  rintro e w5 ⟨vl, rfl, hFl, hb⟩
  have hb5 : Below W.heap.size W w5 := hb4.trans (hb.mono hb4.size)
  have hSl := hFl.si
  have hSl' := hSl
  obtain ⟨pl, cl, rfl, _⟩ := hSl'
  have HSl : Hid _ := hSl
  clear hSl hFl HSm
  have hj5 : Below w2.heap.size w2 w5 := hj4.trans (hb.mono hj4.size)
  clear hb hb4 hj4
  go_wp2_with fail
  refine (k13 w5 hb5).mono ?_
  rintro e w6 ⟨vs, rfl, hrs, hb⟩
  have hb6 : Below W.heap.size W w6 := hb5.trans (hb.mono hb5.size)
  have hSs := own_si hrs
  obtain ⟨p9, c9, rfl⟩ := own_slice hrs
  have HSs : Hid _ := hSs
  have HSl2 : Hid _ := Si.below (l := S) HSl.out hb
  clear hrs hSs HSl
  have hj6 : Below w2.heap.size w2 w6 := hj5.trans (hb.mono hj5.size)
  clear hb hb5 hj5
  go_wp2_with fail
  refine (same_yes _ _ _ w6 HSl2.out HSs.out HSL.out).mono ?_
  rintro e w7 ⟨rfl, hb⟩
  have hb7 : Below W.heap.size W w7 := hb6.trans (hb.mono hb6.size)
  clear HSl2 HSs
  have hj7 : Below w2.heap.size w2 w7 := hj6.trans (hb.mono hj6.size)
  clear hb hb6 hj6
  go_wp2_with fail
  refine (kab w7 hb7).mono ?_
  rintro e w8 ⟨rfl, hb⟩
  have hb8 : Below W.heap.size W w8 := hb7.trans (hb.mono hb7.size)
  have hj8 : Below w2.heap.size w2 w8 := hj7.trans (hb.mono hj7.size)
  clear hb hb7 hj7
  go_wp2_with fail
  refine (kba w8 hb8).mono ?_
  rintro e w9 ⟨rfl, hb⟩
  have hb9 : Below W.heap.size W w9 := hb8.trans (hb.mono hb8.size)
  have hj9 : Below w2.heap.size w2 w9 := hj8.trans (hb.mono hj8.size)
  clear hb hb8 hj8
  go_wp2_with fail
  refine (kab w9 hb9).mono ?_
  rintro e w10 ⟨rfl, hb⟩
  have hb10 : Below W.heap.size W w10 := hb9.trans (hb.mono hb9.size)
  have hj10 : Below w2.heap.size w2 w10 := hj9.trans (hb.mono hj9.size)
  clear hb hb9 hj9
  go_wp2_with fail
  refine (kab w10 hb10).mono ?_
  rintro e w11 ⟨rfl, hb⟩
  have hb11 : Below W.heap.size W w11 := hb10.trans (hb.mono hb10.size)
  have hj11 : Below w2.heap.size w2 w11 := hj10.trans (hb.mono hj10.size)
  clear hb hb10 hj10
  go_wp2_with fail
  refine (k11 w11 hb11).mono ?_
  rintro e w12 ⟨vm, rfl, hFm, hb⟩
  have hb12 : Below W.heap.size W w12 := hb11.trans (hb.mono hb11.size)
  have hSm := hFm.si
  have hSm' := hSm
  obtain ⟨pm, cm, rfl, _⟩ := hSm'
  have HSm : Hid _ := hSm
  clear hSm hFm
  have hj12 : Below w2.heap.size w2 w12 := hj11.trans (hb.mono hj11.size)
  clear hb hb11 hj11
  go_wp2_with fail
  refine (k27m _ w12 hb12 HSm.out).mono ?_
  rintro e w13 ⟨rfl, hb⟩
  have hb13 : Below W.heap.size W w13 := hb12.trans (hb.mono hb12.size)
  have hj13 : Below w2.heap.size w2 w13 := hj12.trans (hb.mono hj12.size)
  clear hb hb12 hj12
  go_wp2_with fail
  refine (k29j _ w13 (HJB.out _ hj13)).mono ?_
  rintro e w14 ⟨rfl, hb⟩
  have hb14 : Below W.heap.size W w14 := hb13.trans (hb.mono hb13.size)
  have hj14 : Below w2.heap.size w2 w14 := hj13.trans (hb.mono hj13.size)
  clear hb hb13 hj13
  go_wp2_with fail
  refine (k27j _ w14 hb14 (HJB.out _ hj14)).mono ?_
  rintro e w15 ⟨rfl, hb⟩
  have hb15 : Below W.heap.size W w15 := hb14.trans (hb.mono hb14.size)
  have hj15 : Below w2.heap.size w2 w15 := hj14.trans (hb.mono hj14.size)
  clear hb hb14 hj14
  go_wp2_with fail
  refine (k32 w15 hb15).mono ?_
  rintro e w16 ⟨rfl, hb⟩
  have hb16 : Below W.heap.size W w16 := hb15.trans (hb.mono hb15.size)
  have hj16 : Below w2.heap.size w2 w16 := hj15.trans (hb.mono hj15.size)
  clear hb hb15 hj15
  go_wp2
  go_ret
  exact ⟨rfl, hb16⟩

set_option maxRecDepth 100000 in
set_option maxHeartbeats 4000000 in
theorem alg_01mp (s1 s2 s3 : Value) (a b c : List Int) (W : World) (h1 : Si W s1 a) (h2 : Si W s2 b) (h3 : Si W s3 c) (hM : MaxL W) (hE : ErrV W) (hT : Tens W.heap.size W) (hA : ¬ IsSet a) (hJ : IsSet (joinL (tkS a) (tkS b))) (hx : cmpL (tkS a) (tkS b) = -1) (hz : ¬ cmpL (tkS b) (tkS c) ≤ 0) :
    Calls Tryz.prog 8 #[s1, s2, s3] W fun e w' => e = .returned (.bool true) ∧ Below W.heap.size W w' := by
  have hM0 := hM.1
  have HM : Hid (MaxL W) := hM
  have HE : Hid (ErrV W) := hE
  have HT : Hid (Tens W.heap.size W) := hT
  have hy : cmpL (tkS b) (tkS a) = 1 := by have := cmp_neg (tkS b) (tkS a); omega
  have k29a := fun X (hX : Below W.heap.size W X) => setB_below s1 a X (h1.below hX)
  have k21a := fun X (hX : Below W.heap.size W X) => text_any s1 a X (h1.below hX) (Tens.here HT.out hX)
  have k21b := fun X (hX : Below W.heap.size W X) => text_any s2 b X (h2.below hX) (Tens.here HT.out hX)
  have k19 := fun s X (hX : Below W.heap.size W X) => parse_any s X (HM.out.below hX hM0) (HE.out.below hX (by omega)) (Tens.here HT.out hX)
  have k14 := fun v X (hX : Below W.heap.size W X) (hl : a.length ≤ 100000) (hv : Si X v a) => same_yes v s1 a X hv (h1.below hX) hl
  have k10 := fun X (hX : Below W.heap.size W X) => join_any s1 s2 a b X (h1.below hX) (h2.below hX)
  have k11 := fun X (hX : Below W.heap.size W X) => meet_any s1 s2 a b X (h1.below hX) (h2.below hX)
  have k13 := fun X (hX : Below W.heap.size W X) => sym_any s1 s2 a b X (h1.below hX) (h2.below hX)
  have kab := fun X (hX : Below W.heap.size W X) => cmp_any s1 s2 a b X (h1.below hX) (h2.below hX)
  have kba := fun X (hX : Below W.heap.size W X) => cmp_any s2 s1 b a X (h2.below hX) (h1.below hX)
  have kbc := fun X (hX : Below W.heap.size W X) => cmp_any s2 s3 b c X (h2.below hX) (h3.below hX)
  have kac := fun X (hX : Below W.heap.size W X) => cmp_any s1 s3 a c X (h1.below hX) (h3.below hX)
  have k27m := fun v X (hX : Below W.heap.size W X) (hv : Si X v (meetL (tkS a) (tkS b))) => sub_any v s1 _ a X hv (h1.below hX)
  have k27j := fun v X (hX : Below W.heap.size W X) (hv : Si X v (joinL (tkS a) (tkS b))) => sub_any s1 v a _ X (h1.below hX) hv
  have k29j := fun v X (hv : Si X v (joinL (tkS a) (tkS b))) => setB_below v _ X hv
  have k32 := fun X (hX : Below W.heap.size W X) => known32 X (HM.out.below hX hM0) (HE.out.below hX (by omega)) (Tens.here HT.out hX)
  have hms : IsSet (meetL (tkS a) (tkS b)) := set_filter (tkS_set a) _
  have hsm := sub_meet (tkS a) (tkS b)
  have hsj := sub_join (tkS a) (tkS b)
  simp only [hx, hy, setB_no hA, setB_yes hJ, tkS_yes hms, hsm, tkS_yes hJ, hsj] at k29a kab kba k27m k29j k27j
  generalize cmpL (tkS b) (tkS c) = z at kbc hz
  have HA : Hid _ := hA
  have hJL : lessL (joinL (tkS a) (tkS b)) (meetL (tkS a) (tkS b)) = symL (tkS a) (tkS b) := join_less (tkS_set a) (tkS_set b) hJ
  have hJ64 := hJ.1
  have k12 := fun v v2 X (hv : Si X v (joinL (tkS a) (tkS b))) (hv2 : Si X v2 (meetL (tkS a) (tkS b))) => less_any v v2 _ _ X hv hv2
  simp only [tkS_yes hJ, tkS_yes hms, hJL] at k12
  have hsl : (symL (tkS a) (tkS b)).length ≤ 100000 := by rw [← hJL]; have := lessL_le (joinL (tkS a) (tkS b)) (meetL (tkS a) (tkS b)); omega
  have HSL : Hid _ := hsl
  clear hJL hJ64 hsl
  have HS1 : Hid (Si W s1 a) := h1
  generalize joinL (tkS a) (tkS b) = J at *
  generalize meetL (tkS a) (tkS b) = M at *
  generalize symL (tkS a) (tkS b) = S at *
  obtain ⟨a1, c1, rfl, _⟩ := h1
  obtain ⟨a2, c2, rfl, _⟩ := h2
  obtain ⟨a3, c3, rfl, _⟩ := h3
  have hb0 : Below W.heap.size W W := Below.refl _ W
  clear hM hE hT hJ hx hy hms hsm hsj hA
  go_enter Tryz.func8, Tryz.ntmps8
  go_wp2_with fail
  refine (k29a W hb0).mono ?_
  rintro e w1 ⟨rfl, hb⟩
  have hb1 : Below W.heap.size W w1 := hb0.trans (hb.mono hb0.size)
  go_wp2_with fail
  refine (k10 w1 hb1).mono ?_
  rintro e w2 ⟨vj, rfl, hrow, hb⟩
  have hb2 : Below W.heap.size W w2 := hb1.trans (hb.mono hb1.size)
  have HSJ := own_si hrow
  obtain ⟨pj, cj, rfl⟩ := own_slice hrow
  clear hrow
  have HJJ : Hid _ := HSJ
  clear HSJ
  have HJB : Hid (∀ X, Below w2.heap.size w2 X → Si X (.slice pj J.length cj) J) := fun X hX => Si.below (l := J) HJJ.out hX
  have hj2 : Below w2.heap.size w2 w2 := Below.refl _ _
  clear HJJ
  generalize hjl : J.length = nj at HJB
  clear hjl
  go_wp2_with fail
  refine (k29j _ w2 (HJB.out _ hj2)).mono ?_
  rintro e w3 ⟨rfl, hb⟩
  have hb3 : Below W.heap.size W w3 := hb2.trans (hb.mono hb2.size)
  have hj3 : Below w2.heap.size w2 w3 := hj2.trans (hb.mono hj2.size)
  clear hb hb2 hj2
  go_wp2_with fail
  refine (k11 w3 hb3).mono ?_
  rintro e w4 ⟨vm, rfl, hFm, hb⟩
  have hb4 : Below W.heap.size W w4 := hb3.trans (hb.mono hb3.size)
  have hSm := hFm.si
  have hSm' := hSm
  obtain ⟨pm, cm, rfl, _⟩ := hSm'
  have HSm : Hid _ := hSm
  clear hSm hFm
  have hj4 : Below w2.heap.size w2 w4 := hj3.trans (hb.mono hj3.size)
  clear hb hb3 hj3
  go_wp2_with fail
  refine (k12 _ _ w4 (HJB.out _ hj4) HSm.out).mono ?_
  rintro e w5 ⟨vl, rfl, hFl, hb⟩
  have hb5 : Below W.heap.size W w5 := hb4.trans (hb.mono hb4.size)
  have hSl := hFl.si
  have hSl' := hSl
  obtain ⟨pl, cl, rfl, _⟩ := hSl'
  have HSl : Hid _ := hSl
  clear hSl hFl HSm
  have hj5 : Below w2.heap.size w2 w5 := hj4.trans (hb.mono hj4.size)
  clear hb hb4 hj4
  go_wp2_with fail
  refine (k13 w5 hb5).mono ?_
  rintro e w6 ⟨vs, rfl, hrs, hb⟩
  have hb6 : Below W.heap.size W w6 := hb5.trans (hb.mono hb5.size)
  have hSs := own_si hrs
  obtain ⟨p9, c9, rfl⟩ := own_slice hrs
  have HSs : Hid _ := hSs
  have HSl2 : Hid _ := Si.below (l := S) HSl.out hb
  clear hrs hSs HSl
  have hj6 : Below w2.heap.size w2 w6 := hj5.trans (hb.mono hj5.size)
  clear hb hb5 hj5
  go_wp2_with fail
  refine (same_yes _ _ _ w6 HSl2.out HSs.out HSL.out).mono ?_
  rintro e w7 ⟨rfl, hb⟩
  have hb7 : Below W.heap.size W w7 := hb6.trans (hb.mono hb6.size)
  clear HSl2 HSs
  have hj7 : Below w2.heap.size w2 w7 := hj6.trans (hb.mono hj6.size)
  clear hb hb6 hj6
  go_wp2_with fail
  refine (kab w7 hb7).mono ?_
  rintro e w8 ⟨rfl, hb⟩
  have hb8 : Below W.heap.size W w8 := hb7.trans (hb.mono hb7.size)
  have hj8 : Below w2.heap.size w2 w8 := hj7.trans (hb.mono hj7.size)
  clear hb hb7 hj7
  go_wp2_with fail
  refine (kba w8 hb8).mono ?_
  rintro e w9 ⟨rfl, hb⟩
  have hb9 : Below W.heap.size W w9 := hb8.trans (hb.mono hb8.size)
  have hj9 : Below w2.heap.size w2 w9 := hj8.trans (hb.mono hj8.size)
  clear hb hb8 hj8
  go_wp2_with fail
  refine (kab w9 hb9).mono ?_
  rintro e w10 ⟨rfl, hb⟩
  have hb10 : Below W.heap.size W w10 := hb9.trans (hb.mono hb9.size)
  have hj10 : Below w2.heap.size w2 w10 := hj9.trans (hb.mono hj9.size)
  clear hb hb9 hj9
  go_wp2_with fail
  refine (kbc w10 hb10).mono ?_
  rintro e w11 ⟨rfl, hb⟩
  have hb11 : Below W.heap.size W w11 := hb10.trans (hb.mono hb10.size)
  have hj11 : Below w2.heap.size w2 w11 := hj10.trans (hb.mono hj10.size)
  clear hb hb10 hj10
  go_wp2_with fail
  refine (kab w11 hb11).mono ?_
  rintro e w12 ⟨rfl, hb⟩
  have hb12 : Below W.heap.size W w12 := hb11.trans (hb.mono hb11.size)
  have hj12 : Below w2.heap.size w2 w12 := hj11.trans (hb.mono hj11.size)
  clear hb hb11 hj11
  go_wp2_with fail
  refine (k11 w12 hb12).mono ?_
  rintro e w13 ⟨vm, rfl, hFm, hb⟩
  have hb13 : Below W.heap.size W w13 := hb12.trans (hb.mono hb12.size)
  have hSm := hFm.si
  have hSm' := hSm
  obtain ⟨pm, cm, rfl, _⟩ := hSm'
  have HSm : Hid _ := hSm
  clear hSm hFm
  have hj13 : Below w2.heap.size w2 w13 := hj12.trans (hb.mono hj12.size)
  clear hb hb12 hj12
  go_wp2_with fail
  refine (k27m _ w13 hb13 HSm.out).mono ?_
  rintro e w14 ⟨rfl, hb⟩
  have hb14 : Below W.heap.size W w14 := hb13.trans (hb.mono hb13.size)
  have hj14 : Below w2.heap.size w2 w14 := hj13.trans (hb.mono hj13.size)
  clear hb hb13 hj13
  go_wp2_with fail
  refine (k29j _ w14 (HJB.out _ hj14)).mono ?_
  rintro e w15 ⟨rfl, hb⟩
  have hb15 : Below W.heap.size W w15 := hb14.trans (hb.mono hb14.size)
  have hj15 : Below w2.heap.size w2 w15 := hj14.trans (hb.mono hj14.size)
  clear hb hb14 hj14
  go_wp2_with fail
  refine (k27j _ w15 hb15 (HJB.out _ hj15)).mono ?_
  rintro e w16 ⟨rfl, hb⟩
  have hb16 : Below W.heap.size W w16 := hb15.trans (hb.mono hb15.size)
  have hj16 : Below w2.heap.size w2 w16 := hj15.trans (hb.mono hj15.size)
  clear hb hb15 hj15
  go_wp2_with fail
  refine (k32 w16 hb16).mono ?_
  rintro e w17 ⟨rfl, hb⟩
  have hb17 : Below W.heap.size W w17 := hb16.trans (hb.mono hb16.size)
  have hj17 : Below w2.heap.size w2 w17 := hj16.trans (hb.mono hj16.size)
  clear hb hb16 hj16
  go_wp2
  go_ret
  exact ⟨rfl, hb17⟩

set_option maxRecDepth 100000 in
set_option maxHeartbeats 4000000 in
theorem alg_01mn (s1 s2 s3 : Value) (a b c : List Int) (W : World) (h1 : Si W s1 a) (h2 : Si W s2 b) (h3 : Si W s3 c) (hM : MaxL W) (hE : ErrV W) (hT : Tens W.heap.size W) (hA : ¬ IsSet a) (hJ : IsSet (joinL (tkS a) (tkS b))) (hx : cmpL (tkS a) (tkS b) = -1) (hz : cmpL (tkS b) (tkS c) ≤ 0) :
    Calls Tryz.prog 8 #[s1, s2, s3] W fun e w' => e = .returned (.bool true) ∧ Below W.heap.size W w' := by
  have hM0 := hM.1
  have HM : Hid (MaxL W) := hM
  have HE : Hid (ErrV W) := hE
  have HT : Hid (Tens W.heap.size W) := hT
  have hy : cmpL (tkS b) (tkS a) = 1 := by have := cmp_neg (tkS b) (tkS a); omega
  have hq : ¬ 0 < cmpL (tkS a) (tkS c) := by have := cmp_trans _ _ _ (show cmpL (tkS a) (tkS b) ≤ 0 by rw [hx]; decide) hz; omega
  have k29a := fun X (hX : Below W.heap.size W X) => setB_below s1 a X (h1.below hX)
  have k21a := fun X (hX : Below W.heap.size W X) => text_any s1 a X (h1.below hX) (Tens.here HT.out hX)
  have k21b := fun X (hX : Below W.heap.size W X) => text_any s2 b X (h2.below hX) (Tens.here HT.out hX)
  have k19 := fun s X (hX : Below W.heap.size W X) => parse_any s X (HM.out.below hX hM0) (HE.out.below hX (by omega)) (Tens.here HT.out hX)
  have k14 := fun v X (hX : Below W.heap.size W X) (hl : a.length ≤ 100000) (hv : Si X v a) => same_yes v s1 a X hv (h1.below hX) hl
  have k10 := fun X (hX : Below W.heap.size W X) => join_any s1 s2 a b X (h1.below hX) (h2.below hX)
  have k11 := fun X (hX : Below W.heap.size W X) => meet_any s1 s2 a b X (h1.below hX) (h2.below hX)
  have k13 := fun X (hX : Below W.heap.size W X) => sym_any s1 s2 a b X (h1.below hX) (h2.below hX)
  have kab := fun X (hX : Below W.heap.size W X) => cmp_any s1 s2 a b X (h1.below hX) (h2.below hX)
  have kba := fun X (hX : Below W.heap.size W X) => cmp_any s2 s1 b a X (h2.below hX) (h1.below hX)
  have kbc := fun X (hX : Below W.heap.size W X) => cmp_any s2 s3 b c X (h2.below hX) (h3.below hX)
  have kac := fun X (hX : Below W.heap.size W X) => cmp_any s1 s3 a c X (h1.below hX) (h3.below hX)
  have k27m := fun v X (hX : Below W.heap.size W X) (hv : Si X v (meetL (tkS a) (tkS b))) => sub_any v s1 _ a X hv (h1.below hX)
  have k27j := fun v X (hX : Below W.heap.size W X) (hv : Si X v (joinL (tkS a) (tkS b))) => sub_any s1 v a _ X (h1.below hX) hv
  have k29j := fun v X (hv : Si X v (joinL (tkS a) (tkS b))) => setB_below v _ X hv
  have k32 := fun X (hX : Below W.heap.size W X) => known32 X (HM.out.below hX hM0) (HE.out.below hX (by omega)) (Tens.here HT.out hX)
  have hms : IsSet (meetL (tkS a) (tkS b)) := set_filter (tkS_set a) _
  have hsm := sub_meet (tkS a) (tkS b)
  have hsj := sub_join (tkS a) (tkS b)
  simp only [hx, hy, setB_no hA, setB_yes hJ, tkS_yes hms, hsm, tkS_yes hJ, hsj] at k29a kab kba k27m k29j k27j
  generalize cmpL (tkS b) (tkS c) = z at kbc hz
  generalize cmpL (tkS a) (tkS c) = q at kac hq
  have HA : Hid _ := hA
  have hJL : lessL (joinL (tkS a) (tkS b)) (meetL (tkS a) (tkS b)) = symL (tkS a) (tkS b) := join_less (tkS_set a) (tkS_set b) hJ
  have hJ64 := hJ.1
  have k12 := fun v v2 X (hv : Si X v (joinL (tkS a) (tkS b))) (hv2 : Si X v2 (meetL (tkS a) (tkS b))) => less_any v v2 _ _ X hv hv2
  simp only [tkS_yes hJ, tkS_yes hms, hJL] at k12
  have hsl : (symL (tkS a) (tkS b)).length ≤ 100000 := by rw [← hJL]; have := lessL_le (joinL (tkS a) (tkS b)) (meetL (tkS a) (tkS b)); omega
  have HSL : Hid _ := hsl
  clear hJL hJ64 hsl
  have HS1 : Hid (Si W s1 a) := h1
  generalize joinL (tkS a) (tkS b) = J at *
  generalize meetL (tkS a) (tkS b) = M at *
  generalize symL (tkS a) (tkS b) = S at *
  obtain ⟨a1, c1, rfl, _⟩ := h1
  obtain ⟨a2, c2, rfl, _⟩ := h2
  obtain ⟨a3, c3, rfl, _⟩ := h3
  have hb0 : Below W.heap.size W W := Below.refl _ W
  clear hM hE hT hJ hx hy hms hsm hsj hA
  go_enter Tryz.func8, Tryz.ntmps8
  go_wp2_with fail
  refine (k29a W hb0).mono ?_
  rintro e w1 ⟨rfl, hb⟩
  have hb1 : Below W.heap.size W w1 := hb0.trans (hb.mono hb0.size)
  go_wp2_with fail
  refine (k10 w1 hb1).mono ?_
  rintro e w2 ⟨vj, rfl, hrow, hb⟩
  have hb2 : Below W.heap.size W w2 := hb1.trans (hb.mono hb1.size)
  have HSJ := own_si hrow
  obtain ⟨pj, cj, rfl⟩ := own_slice hrow
  clear hrow
  have HJJ : Hid _ := HSJ
  clear HSJ
  have HJB : Hid (∀ X, Below w2.heap.size w2 X → Si X (.slice pj J.length cj) J) := fun X hX => Si.below (l := J) HJJ.out hX
  have hj2 : Below w2.heap.size w2 w2 := Below.refl _ _
  clear HJJ
  generalize hjl : J.length = nj at HJB
  clear hjl
  go_wp2_with fail
  refine (k29j _ w2 (HJB.out _ hj2)).mono ?_
  rintro e w3 ⟨rfl, hb⟩
  have hb3 : Below W.heap.size W w3 := hb2.trans (hb.mono hb2.size)
  have hj3 : Below w2.heap.size w2 w3 := hj2.trans (hb.mono hj2.size)
  clear hb hb2 hj2
  go_wp2_with fail
  refine (k11 w3 hb3).mono ?_
  rintro e w4 ⟨vm, rfl, hFm, hb⟩
  have hb4 : Below W.heap.size W w4 := hb3.trans (hb.mono hb3.size)
  have hSm := hFm.si
  have hSm' := hSm
  obtain ⟨pm, cm, rfl, _⟩ := hSm'
  have HSm : Hid _ := hSm
  clear hSm hFm
  have hj4 : Below w2.heap.size w2 w4 := hj3.trans (hb.mono hj3.size)
  clear hb hb3 hj3
  go_wp2_with fail
  refine (k12 _ _ w4 (HJB.out _ hj4) HSm.out).mono ?_
  rintro e w5 ⟨vl, rfl, hFl, hb⟩
  have hb5 : Below W.heap.size W w5 := hb4.trans (hb.mono hb4.size)
  have hSl := hFl.si
  have hSl' := hSl
  obtain ⟨pl, cl, rfl, _⟩ := hSl'
  have HSl : Hid _ := hSl
  clear hSl hFl HSm
  have hj5 : Below w2.heap.size w2 w5 := hj4.trans (hb.mono hj4.size)
  clear hb hb4 hj4
  go_wp2_with fail
  refine (k13 w5 hb5).mono ?_
  rintro e w6 ⟨vs, rfl, hrs, hb⟩
  have hb6 : Below W.heap.size W w6 := hb5.trans (hb.mono hb5.size)
  have hSs := own_si hrs
  obtain ⟨p9, c9, rfl⟩ := own_slice hrs
  have HSs : Hid _ := hSs
  have HSl2 : Hid _ := Si.below (l := S) HSl.out hb
  clear hrs hSs HSl
  have hj6 : Below w2.heap.size w2 w6 := hj5.trans (hb.mono hj5.size)
  clear hb hb5 hj5
  go_wp2_with fail
  refine (same_yes _ _ _ w6 HSl2.out HSs.out HSL.out).mono ?_
  rintro e w7 ⟨rfl, hb⟩
  have hb7 : Below W.heap.size W w7 := hb6.trans (hb.mono hb6.size)
  clear HSl2 HSs
  have hj7 : Below w2.heap.size w2 w7 := hj6.trans (hb.mono hj6.size)
  clear hb hb6 hj6
  go_wp2_with fail
  refine (kab w7 hb7).mono ?_
  rintro e w8 ⟨rfl, hb⟩
  have hb8 : Below W.heap.size W w8 := hb7.trans (hb.mono hb7.size)
  have hj8 : Below w2.heap.size w2 w8 := hj7.trans (hb.mono hj7.size)
  clear hb hb7 hj7
  go_wp2_with fail
  refine (kba w8 hb8).mono ?_
  rintro e w9 ⟨rfl, hb⟩
  have hb9 : Below W.heap.size W w9 := hb8.trans (hb.mono hb8.size)
  have hj9 : Below w2.heap.size w2 w9 := hj8.trans (hb.mono hj8.size)
  clear hb hb8 hj8
  go_wp2_with fail
  refine (kab w9 hb9).mono ?_
  rintro e w10 ⟨rfl, hb⟩
  have hb10 : Below W.heap.size W w10 := hb9.trans (hb.mono hb9.size)
  have hj10 : Below w2.heap.size w2 w10 := hj9.trans (hb.mono hj9.size)
  clear hb hb9 hj9
  go_wp2_with fail
  refine (kbc w10 hb10).mono ?_
  rintro e w11 ⟨rfl, hb⟩
  have hb11 : Below W.heap.size W w11 := hb10.trans (hb.mono hb10.size)
  have hj11 : Below w2.heap.size w2 w11 := hj10.trans (hb.mono hj10.size)
  clear hb hb10 hj10
  go_wp2_with fail
  refine (kac w11 hb11).mono ?_
  rintro e w12 ⟨rfl, hb⟩
  have hb12 : Below W.heap.size W w12 := hb11.trans (hb.mono hb11.size)
  have hj12 : Below w2.heap.size w2 w12 := hj11.trans (hb.mono hj11.size)
  clear hb hb11 hj11
  go_wp2_with fail
  refine (kab w12 hb12).mono ?_
  rintro e w13 ⟨rfl, hb⟩
  have hb13 : Below W.heap.size W w13 := hb12.trans (hb.mono hb12.size)
  have hj13 : Below w2.heap.size w2 w13 := hj12.trans (hb.mono hj12.size)
  clear hb hb12 hj12
  go_wp2_with fail
  refine (k11 w13 hb13).mono ?_
  rintro e w14 ⟨vm, rfl, hFm, hb⟩
  have hb14 : Below W.heap.size W w14 := hb13.trans (hb.mono hb13.size)
  have hSm := hFm.si
  have hSm' := hSm
  obtain ⟨pm, cm, rfl, _⟩ := hSm'
  have HSm : Hid _ := hSm
  clear hSm hFm
  have hj14 : Below w2.heap.size w2 w14 := hj13.trans (hb.mono hj13.size)
  clear hb hb13 hj13
  go_wp2_with fail
  refine (k27m _ w14 hb14 HSm.out).mono ?_
  rintro e w15 ⟨rfl, hb⟩
  have hb15 : Below W.heap.size W w15 := hb14.trans (hb.mono hb14.size)
  have hj15 : Below w2.heap.size w2 w15 := hj14.trans (hb.mono hj14.size)
  clear hb hb14 hj14
  go_wp2_with fail
  refine (k29j _ w15 (HJB.out _ hj15)).mono ?_
  rintro e w16 ⟨rfl, hb⟩
  have hb16 : Below W.heap.size W w16 := hb15.trans (hb.mono hb15.size)
  have hj16 : Below w2.heap.size w2 w16 := hj15.trans (hb.mono hj15.size)
  clear hb hb15 hj15
  go_wp2_with fail
  refine (k27j _ w16 hb16 (HJB.out _ hj16)).mono ?_
  rintro e w17 ⟨rfl, hb⟩
  have hb17 : Below W.heap.size W w17 := hb16.trans (hb.mono hb16.size)
  have hj17 : Below w2.heap.size w2 w17 := hj16.trans (hb.mono hj16.size)
  clear hb hb16 hj16
  go_wp2_with fail
  refine (k32 w17 hb17).mono ?_
  rintro e w18 ⟨rfl, hb⟩
  have hb18 : Below W.heap.size W w18 := hb17.trans (hb.mono hb17.size)
  have hj18 : Below w2.heap.size w2 w18 := hj17.trans (hb.mono hj17.size)
  clear hb hb17 hj17
  go_wp2
  go_ret
  exact ⟨rfl, hb18⟩

set_option maxRecDepth 100000 in
set_option maxHeartbeats 4000000 in
theorem alg_01zp (s1 s2 s3 : Value) (a b c : List Int) (W : World) (h1 : Si W s1 a) (h2 : Si W s2 b) (h3 : Si W s3 c) (hM : MaxL W) (hE : ErrV W) (hT : Tens W.heap.size W) (hA : ¬ IsSet a) (hJ : IsSet (joinL (tkS a) (tkS b))) (hx : cmpL (tkS a) (tkS b) = 0) (hz : ¬ cmpL (tkS b) (tkS c) ≤ 0) :
    Calls Tryz.prog 8 #[s1, s2, s3] W fun e w' => e = .returned (.bool true) ∧ Below W.heap.size W w' := by
  have hM0 := hM.1
  have HM : Hid (MaxL W) := hM
  have HE : Hid (ErrV W) := hE
  have HT : Hid (Tens W.heap.size W) := hT
  have hy : cmpL (tkS b) (tkS a) = 0 := by have := cmp_neg (tkS b) (tkS a); omega
  have k29a := fun X (hX : Below W.heap.size W X) => setB_below s1 a X (h1.below hX)
  have k21a := fun X (hX : Below W.heap.size W X) => text_any s1 a X (h1.below hX) (Tens.here HT.out hX)
  have k21b := fun X (hX : Below W.heap.size W X) => text_any s2 b X (h2.below hX) (Tens.here HT.out hX)
  have k19 := fun s X (hX : Below W.heap.size W X) => parse_any s X (HM.out.below hX hM0) (HE.out.below hX (by omega)) (Tens.here HT.out hX)
  have k14 := fun v X (hX : Below W.heap.size W X) (hl : a.length ≤ 100000) (hv : Si X v a) => same_yes v s1 a X hv (h1.below hX) hl
  have k10 := fun X (hX : Below W.heap.size W X) => join_any s1 s2 a b X (h1.below hX) (h2.below hX)
  have k11 := fun X (hX : Below W.heap.size W X) => meet_any s1 s2 a b X (h1.below hX) (h2.below hX)
  have k13 := fun X (hX : Below W.heap.size W X) => sym_any s1 s2 a b X (h1.below hX) (h2.below hX)
  have kab := fun X (hX : Below W.heap.size W X) => cmp_any s1 s2 a b X (h1.below hX) (h2.below hX)
  have kba := fun X (hX : Below W.heap.size W X) => cmp_any s2 s1 b a X (h2.below hX) (h1.below hX)
  have kbc := fun X (hX : Below W.heap.size W X) => cmp_any s2 s3 b c X (h2.below hX) (h3.below hX)
  have kac := fun X (hX : Below W.heap.size W X) => cmp_any s1 s3 a c X (h1.below hX) (h3.below hX)
  have k27m := fun v X (hX : Below W.heap.size W X) (hv : Si X v (meetL (tkS a) (tkS b))) => sub_any v s1 _ a X hv (h1.below hX)
  have k27j := fun v X (hX : Below W.heap.size W X) (hv : Si X v (joinL (tkS a) (tkS b))) => sub_any s1 v a _ X (h1.below hX) hv
  have k29j := fun v X (hv : Si X v (joinL (tkS a) (tkS b))) => setB_below v _ X hv
  have k32 := fun X (hX : Below W.heap.size W X) => known32 X (HM.out.below hX hM0) (HE.out.below hX (by omega)) (Tens.here HT.out hX)
  have hms : IsSet (meetL (tkS a) (tkS b)) := set_filter (tkS_set a) _
  have hsm := sub_meet (tkS a) (tkS b)
  have hsj := sub_join (tkS a) (tkS b)
  simp only [hx, hy, setB_no hA, setB_yes hJ, tkS_yes hms, hsm, tkS_yes hJ, hsj] at k29a kab kba k27m k29j k27j
  generalize cmpL (tkS b) (tkS c) = z at kbc hz
  have hab : tkS a = tkS b := cmp_zero _ _ hx
  rw [← hab] at k21b
  have HA : Hid _ := hA
  have hJL : lessL (joinL (tkS a) (tkS b)) (meetL (tkS a) (tkS b)) = symL (tkS a) (tkS b) := join_less (tkS_set a) (tkS_set b) hJ
  have hJ64 := hJ.1
  have k12 := fun v v2 X (hv : Si X v (joinL (tkS a) (tkS b))) (hv2 : Si X v2 (meetL (tkS a) (tkS b))) => less_any v v2 _ _ X hv hv2
  simp only [tkS_yes hJ, tkS_yes hms, hJL] at k12
  have hsl : (symL (tkS a) (tkS b)).length ≤ 100000 := by rw [← hJL]; have := lessL_le (joinL (tkS a) (tkS b)) (meetL (tkS a) (tkS b)); omega
  have HSL : Hid _ := hsl
  clear hJL hJ64 hsl
  have HS1 : Hid (Si W s1 a) := h1
  generalize joinL (tkS a) (tkS b) = J at *
  generalize meetL (tkS a) (tkS b) = M at *
  generalize symL (tkS a) (tkS b) = S at *
  obtain ⟨a1, c1, rfl, _⟩ := h1
  obtain ⟨a2, c2, rfl, _⟩ := h2
  obtain ⟨a3, c3, rfl, _⟩ := h3
  have hb0 : Below W.heap.size W W := Below.refl _ W
  clear hM hE hT hJ hx hy hms hsm hsj hA hab
  go_enter Tryz.func8, Tryz.ntmps8
  go_wp2_with fail
  refine (k29a W hb0).mono ?_
  rintro e w1 ⟨rfl, hb⟩
  have hb1 : Below W.heap.size W w1 := hb0.trans (hb.mono hb0.size)
  go_wp2_with fail
  refine (k10 w1 hb1).mono ?_
  rintro e w2 ⟨vj, rfl, hrow, hb⟩
  have hb2 : Below W.heap.size W w2 := hb1.trans (hb.mono hb1.size)
  have HSJ := own_si hrow
  obtain ⟨pj, cj, rfl⟩ := own_slice hrow
  clear hrow
  have HJJ : Hid _ := HSJ
  clear HSJ
  have HJB : Hid (∀ X, Below w2.heap.size w2 X → Si X (.slice pj J.length cj) J) := fun X hX => Si.below (l := J) HJJ.out hX
  have hj2 : Below w2.heap.size w2 w2 := Below.refl _ _
  clear HJJ
  generalize hjl : J.length = nj at HJB
  clear hjl
  go_wp2_with fail
  refine (k29j _ w2 (HJB.out _ hj2)).mono ?_
  rintro e w3 ⟨rfl, hb⟩
  have hb3 : Below W.heap.size W w3 := hb2.trans (hb.mono hb2.size)
  have hj3 : Below w2.heap.size w2 w3 := hj2.trans (hb.mono hj2.size)
  clear hb hb2 hj2
  go_wp2_with fail
  refine (k11 w3 hb3).mono ?_
  rintro e w4 ⟨vm, rfl, hFm, hb⟩
  have hb4 : Below W.heap.size W w4 := hb3.trans (hb.mono hb3.size)
  have hSm := hFm.si
  have hSm' := hSm
  obtain ⟨pm, cm, rfl, _⟩ := hSm'
  have HSm : Hid _ := hSm
  clear hSm hFm
  have hj4 : Below w2.heap.size w2 w4 := hj3.trans (hb.mono hj3.size)
  clear hb hb3 hj3
  go_wp2_with fail
  refine (k12 _ _ w4 (HJB.out _ hj4) HSm.out).mono ?_
  rintro e w5 ⟨vl, rfl, hFl, hb⟩
  have hb5 : Below W.heap.size W w5 := hb4.trans (hb.mono hb4.size)
  have hSl := hFl.si
  have hSl' := hSl
  obtain ⟨pl, cl, rfl, _⟩ := hSl'
  have HSl : Hid _ := hSl
  clear hSl hFl HSm
  have hj5 : Below w2.heap.size w2 w5 := hj4.trans (hb.mono hj4.size)
  clear hb hb4 hj4
  go_wp2_with fail
  refine (k13 w5 hb5).mono ?_
  rintro e w6 ⟨vs, rfl, hrs, hb⟩
  have hb6 : Below W.heap.size W w6 := hb5.trans (hb.mono hb5.size)
  have hSs := own_si hrs
  obtain ⟨p9, c9, rfl⟩ := own_slice hrs
  have HSs : Hid _ := hSs
  have HSl2 : Hid _ := Si.below (l := S) HSl.out hb
  clear hrs hSs HSl
  have hj6 : Below w2.heap.size w2 w6 := hj5.trans (hb.mono hj5.size)
  clear hb hb5 hj5
  go_wp2_with fail
  refine (same_yes _ _ _ w6 HSl2.out HSs.out HSL.out).mono ?_
  rintro e w7 ⟨rfl, hb⟩
  have hb7 : Below W.heap.size W w7 := hb6.trans (hb.mono hb6.size)
  clear HSl2 HSs
  have hj7 : Below w2.heap.size w2 w7 := hj6.trans (hb.mono hj6.size)
  clear hb hb6 hj6
  go_wp2_with fail
  refine (kab w7 hb7).mono ?_
  rintro e w8 ⟨rfl, hb⟩
  have hb8 : Below W.heap.size W w8 := hb7.trans (hb.mono hb7.size)
  have hj8 : Below w2.heap.size w2 w8 := hj7.trans (hb.mono hj7.size)
  clear hb hb7 hj7
  go_wp2_with fail
  refine (kba w8 hb8).mono ?_
  rintro e w9 ⟨rfl, hb⟩
  have hb9 : Below W.heap.size W w9 := hb8.trans (hb.mono hb8.size)
  have hj9 : Below w2.heap.size w2 w9 := hj8.trans (hb.mono hj8.size)
  clear hb hb8 hj8
  go_wp2_with fail
  refine (kab w9 hb9).mono ?_
  rintro e w10 ⟨rfl, hb⟩
  have hb10 : Below W.heap.size W w10 := hb9.trans (hb.mono hb9.size)
  have hj10 : Below w2.heap.size w2 w10 := hj9.trans (hb.mono hj9.size)
  clear hb hb9 hj9
  go_wp2_with fail
  refine (kbc w10 hb10).mono ?_
  rintro e w11 ⟨rfl, hb⟩
  have hb11 : Below W.heap.size W w11 := hb10.trans (hb.mono hb10.size)
  have hj11 : Below w2.heap.size w2 w11 := hj10.trans (hb.mono hj10.size)
  clear hb hb10 hj10
  go_wp2_with fail
  refine (kab w11 hb11).mono ?_
  rintro e w12 ⟨rfl, hb⟩
  have hb12 : Below W.heap.size W w12 := hb11.trans (hb.mono hb11.size)
  have hj12 : Below w2.heap.size w2 w12 := hj11.trans (hb.mono hj11.size)
  clear hb hb11 hj11
  go_wp2_with fail
  refine (k21a w12 hb12).mono ?_
  rintro e w13 ⟨rfl, hb⟩
  have hb13 : Below W.heap.size W w13 := hb12.trans (hb.mono hb12.size)
  have hj13 : Below w2.heap.size w2 w13 := hj12.trans (hb.mono hj12.size)
  clear hb hb12 hj12
  go_wp2_with fail
  refine (k21b w13 hb13).mono ?_
  rintro e w14 ⟨rfl, hb⟩
  have hb14 : Below W.heap.size W w14 := hb13.trans (hb.mono hb13.size)
  have hj14 : Below w2.heap.size w2 w14 := hj13.trans (hb.mono hj13.size)
  clear hb hb13 hj13
  go_wp2_with fail
  refine (k11 w14 hb14).mono ?_
  rintro e w15 ⟨vm, rfl, hFm, hb⟩
  have hb15 : Below W.heap.size W w15 := hb14.trans (hb.mono hb14.size)
  have hSm := hFm.si
  have hSm' := hSm
  obtain ⟨pm, cm, rfl, _⟩ := hSm'
  have HSm : Hid _ := hSm
  clear hSm hFm
  have hj15 : Below w2.heap.size w2 w15 := hj14.trans (hb.mono hj14.size)
  clear hb hb14 hj14
  go_wp2_with fail
  refine (k27m _ w15 hb15 HSm.out).mono ?_
  rintro e w16 ⟨rfl, hb⟩
  have hb16 : Below W.heap.size W w16 := hb15.trans (hb.mono hb15.size)
  have hj16 : Below w2.heap.size w2 w16 := hj15.trans (hb.mono hj15.size)
  clear hb hb15 hj15
  go_wp2_with fail
  refine (k29j _ w16 (HJB.out _ hj16)).mono ?_
  rintro e w17 ⟨rfl, hb⟩
  have hb17 : Below W.heap.size W w17 := hb16.trans (hb.mono hb16.size)
  have hj17 : Below w2.heap.size w2 w17 := hj16.trans (hb.mono hj16.size)
  clear hb hb16 hj16
  go_wp2_with fail
  refine (k27j _ w17 hb17 (HJB.out _ hj17)).mono ?_
  rintro e w18 ⟨rfl, hb⟩
  have hb18 : Below W.heap.size W w18 := hb17.trans (hb.mono hb17.size)
  have hj18 : Below w2.heap.size w2 w18 := hj17.trans (hb.mono hj17.size)
  clear hb hb17 hj17
  go_wp2_with fail
  refine (k32 w18 hb18).mono ?_
  rintro e w19 ⟨rfl, hb⟩
  have hb19 : Below W.heap.size W w19 := hb18.trans (hb.mono hb18.size)
  have hj19 : Below w2.heap.size w2 w19 := hj18.trans (hb.mono hj18.size)
  clear hb hb18 hj18
  go_wp2
  go_ret
  exact ⟨rfl, hb19⟩

set_option maxRecDepth 100000 in
set_option maxHeartbeats 4000000 in
theorem alg_01zn (s1 s2 s3 : Value) (a b c : List Int) (W : World) (h1 : Si W s1 a) (h2 : Si W s2 b) (h3 : Si W s3 c) (hM : MaxL W) (hE : ErrV W) (hT : Tens W.heap.size W) (hA : ¬ IsSet a) (hJ : IsSet (joinL (tkS a) (tkS b))) (hx : cmpL (tkS a) (tkS b) = 0) (hz : cmpL (tkS b) (tkS c) ≤ 0) :
    Calls Tryz.prog 8 #[s1, s2, s3] W fun e w' => e = .returned (.bool true) ∧ Below W.heap.size W w' := by
  have hM0 := hM.1
  have HM : Hid (MaxL W) := hM
  have HE : Hid (ErrV W) := hE
  have HT : Hid (Tens W.heap.size W) := hT
  have hy : cmpL (tkS b) (tkS a) = 0 := by have := cmp_neg (tkS b) (tkS a); omega
  have hq : ¬ 0 < cmpL (tkS a) (tkS c) := by have := cmp_trans _ _ _ (show cmpL (tkS a) (tkS b) ≤ 0 by rw [hx]; decide) hz; omega
  have k29a := fun X (hX : Below W.heap.size W X) => setB_below s1 a X (h1.below hX)
  have k21a := fun X (hX : Below W.heap.size W X) => text_any s1 a X (h1.below hX) (Tens.here HT.out hX)
  have k21b := fun X (hX : Below W.heap.size W X) => text_any s2 b X (h2.below hX) (Tens.here HT.out hX)
  have k19 := fun s X (hX : Below W.heap.size W X) => parse_any s X (HM.out.below hX hM0) (HE.out.below hX (by omega)) (Tens.here HT.out hX)
  have k14 := fun v X (hX : Below W.heap.size W X) (hl : a.length ≤ 100000) (hv : Si X v a) => same_yes v s1 a X hv (h1.below hX) hl
  have k10 := fun X (hX : Below W.heap.size W X) => join_any s1 s2 a b X (h1.below hX) (h2.below hX)
  have k11 := fun X (hX : Below W.heap.size W X) => meet_any s1 s2 a b X (h1.below hX) (h2.below hX)
  have k13 := fun X (hX : Below W.heap.size W X) => sym_any s1 s2 a b X (h1.below hX) (h2.below hX)
  have kab := fun X (hX : Below W.heap.size W X) => cmp_any s1 s2 a b X (h1.below hX) (h2.below hX)
  have kba := fun X (hX : Below W.heap.size W X) => cmp_any s2 s1 b a X (h2.below hX) (h1.below hX)
  have kbc := fun X (hX : Below W.heap.size W X) => cmp_any s2 s3 b c X (h2.below hX) (h3.below hX)
  have kac := fun X (hX : Below W.heap.size W X) => cmp_any s1 s3 a c X (h1.below hX) (h3.below hX)
  have k27m := fun v X (hX : Below W.heap.size W X) (hv : Si X v (meetL (tkS a) (tkS b))) => sub_any v s1 _ a X hv (h1.below hX)
  have k27j := fun v X (hX : Below W.heap.size W X) (hv : Si X v (joinL (tkS a) (tkS b))) => sub_any s1 v a _ X (h1.below hX) hv
  have k29j := fun v X (hv : Si X v (joinL (tkS a) (tkS b))) => setB_below v _ X hv
  have k32 := fun X (hX : Below W.heap.size W X) => known32 X (HM.out.below hX hM0) (HE.out.below hX (by omega)) (Tens.here HT.out hX)
  have hms : IsSet (meetL (tkS a) (tkS b)) := set_filter (tkS_set a) _
  have hsm := sub_meet (tkS a) (tkS b)
  have hsj := sub_join (tkS a) (tkS b)
  simp only [hx, hy, setB_no hA, setB_yes hJ, tkS_yes hms, hsm, tkS_yes hJ, hsj] at k29a kab kba k27m k29j k27j
  generalize cmpL (tkS b) (tkS c) = z at kbc hz
  generalize cmpL (tkS a) (tkS c) = q at kac hq
  have hab : tkS a = tkS b := cmp_zero _ _ hx
  rw [← hab] at k21b
  have HA : Hid _ := hA
  have hJL : lessL (joinL (tkS a) (tkS b)) (meetL (tkS a) (tkS b)) = symL (tkS a) (tkS b) := join_less (tkS_set a) (tkS_set b) hJ
  have hJ64 := hJ.1
  have k12 := fun v v2 X (hv : Si X v (joinL (tkS a) (tkS b))) (hv2 : Si X v2 (meetL (tkS a) (tkS b))) => less_any v v2 _ _ X hv hv2
  simp only [tkS_yes hJ, tkS_yes hms, hJL] at k12
  have hsl : (symL (tkS a) (tkS b)).length ≤ 100000 := by rw [← hJL]; have := lessL_le (joinL (tkS a) (tkS b)) (meetL (tkS a) (tkS b)); omega
  have HSL : Hid _ := hsl
  clear hJL hJ64 hsl
  have HS1 : Hid (Si W s1 a) := h1
  generalize joinL (tkS a) (tkS b) = J at *
  generalize meetL (tkS a) (tkS b) = M at *
  generalize symL (tkS a) (tkS b) = S at *
  obtain ⟨a1, c1, rfl, _⟩ := h1
  obtain ⟨a2, c2, rfl, _⟩ := h2
  obtain ⟨a3, c3, rfl, _⟩ := h3
  have hb0 : Below W.heap.size W W := Below.refl _ W
  clear hM hE hT hJ hx hy hms hsm hsj hA hab
  go_enter Tryz.func8, Tryz.ntmps8
  go_wp2_with fail
  refine (k29a W hb0).mono ?_
  rintro e w1 ⟨rfl, hb⟩
  have hb1 : Below W.heap.size W w1 := hb0.trans (hb.mono hb0.size)
  go_wp2_with fail
  refine (k10 w1 hb1).mono ?_
  rintro e w2 ⟨vj, rfl, hrow, hb⟩
  have hb2 : Below W.heap.size W w2 := hb1.trans (hb.mono hb1.size)
  have HSJ := own_si hrow
  obtain ⟨pj, cj, rfl⟩ := own_slice hrow
  clear hrow
  have HJJ : Hid _ := HSJ
  clear HSJ
  have HJB : Hid (∀ X, Below w2.heap.size w2 X → Si X (.slice pj J.length cj) J) := fun X hX => Si.below (l := J) HJJ.out hX
  have hj2 : Below w2.heap.size w2 w2 := Below.refl _ _
  clear HJJ
  generalize hjl : J.length = nj at HJB
  clear hjl
  go_wp2_with fail
  refine (k29j _ w2 (HJB.out _ hj2)).mono ?_
  rintro e w3 ⟨rfl, hb⟩
  have hb3 : Below W.heap.size W w3 := hb2.trans (hb.mono hb2.size)
  have hj3 : Below w2.heap.size w2 w3 := hj2.trans (hb.mono hj2.size)
  clear hb hb2 hj2
  go_wp2_with fail
  refine (k11 w3 hb3).mono ?_
  rintro e w4 ⟨vm, rfl, hFm, hb⟩
  have hb4 : Below W.heap.size W w4 := hb3.trans (hb.mono hb3.size)
  have hSm := hFm.si
  have hSm' := hSm
  obtain ⟨pm, cm, rfl, _⟩ := hSm'
  have HSm : Hid _ := hSm
  clear hSm hFm
  have hj4 : Below w2.heap.size w2 w4 := hj3.trans (hb.mono hj3.size)
  clear hb hb3 hj3
  go_wp2_with fail
  refine (k12 _ _ w4 (HJB.out _ hj4) HSm.out).mono ?_
  rintro e w5 ⟨vl, rfl, hFl, hb⟩
  have hb5 : Below W.heap.size W w5 := hb4.trans (hb.mono hb4.size)
  have hSl := hFl.si
  have hSl' := hSl
  obtain ⟨pl, cl, rfl, _⟩ := hSl'
  have HSl : Hid _ := hSl
  clear hSl hFl HSm
  have hj5 : Below w2.heap.size w2 w5 := hj4.trans (hb.mono hj4.size)
  clear hb hb4 hj4
  go_wp2_with fail
  refine (k13 w5 hb5).mono ?_
  rintro e w6 ⟨vs, rfl, hrs, hb⟩
  have hb6 : Below W.heap.size W w6 := hb5.trans (hb.mono hb5.size)
  have hSs := own_si hrs
  obtain ⟨p9, c9, rfl⟩ := own_slice hrs
  have HSs : Hid _ := hSs
  have HSl2 : Hid _ := Si.below (l := S) HSl.out hb
  clear hrs hSs HSl
  have hj6 : Below w2.heap.size w2 w6 := hj5.trans (hb.mono hj5.size)
  clear hb hb5 hj5
  go_wp2_with fail
  refine (same_yes _ _ _ w6 HSl2.out HSs.out HSL.out).mono ?_
  rintro e w7 ⟨rfl, hb⟩
  have hb7 : Below W.heap.size W w7 := hb6.trans (hb.mono hb6.size)
  clear HSl2 HSs
  have hj7 : Below w2.heap.size w2 w7 := hj6.trans (hb.mono hj6.size)
  clear hb hb6 hj6
  go_wp2_with fail
  refine (kab w7 hb7).mono ?_
  rintro e w8 ⟨rfl, hb⟩
  have hb8 : Below W.heap.size W w8 := hb7.trans (hb.mono hb7.size)
  have hj8 : Below w2.heap.size w2 w8 := hj7.trans (hb.mono hj7.size)
  clear hb hb7 hj7
  go_wp2_with fail
  refine (kba w8 hb8).mono ?_
  rintro e w9 ⟨rfl, hb⟩
  have hb9 : Below W.heap.size W w9 := hb8.trans (hb.mono hb8.size)
  have hj9 : Below w2.heap.size w2 w9 := hj8.trans (hb.mono hj8.size)
  clear hb hb8 hj8
  go_wp2_with fail
  refine (kab w9 hb9).mono ?_
  rintro e w10 ⟨rfl, hb⟩
  have hb10 : Below W.heap.size W w10 := hb9.trans (hb.mono hb9.size)
  have hj10 : Below w2.heap.size w2 w10 := hj9.trans (hb.mono hj9.size)
  clear hb hb9 hj9
  go_wp2_with fail
  refine (kbc w10 hb10).mono ?_
  rintro e w11 ⟨rfl, hb⟩
  have hb11 : Below W.heap.size W w11 := hb10.trans (hb.mono hb10.size)
  have hj11 : Below w2.heap.size w2 w11 := hj10.trans (hb.mono hj10.size)
  clear hb hb10 hj10
  go_wp2_with fail
  refine (kac w11 hb11).mono ?_
  rintro e w12 ⟨rfl, hb⟩
  have hb12 : Below W.heap.size W w12 := hb11.trans (hb.mono hb11.size)
  have hj12 : Below w2.heap.size w2 w12 := hj11.trans (hb.mono hj11.size)
  clear hb hb11 hj11
  go_wp2_with fail
  refine (kab w12 hb12).mono ?_
  rintro e w13 ⟨rfl, hb⟩
  have hb13 : Below W.heap.size W w13 := hb12.trans (hb.mono hb12.size)
  have hj13 : Below w2.heap.size w2 w13 := hj12.trans (hb.mono hj12.size)
  clear hb hb12 hj12
  go_wp2_with fail
  refine (k21a w13 hb13).mono ?_
  rintro e w14 ⟨rfl, hb⟩
  have hb14 : Below W.heap.size W w14 := hb13.trans (hb.mono hb13.size)
  have hj14 : Below w2.heap.size w2 w14 := hj13.trans (hb.mono hj13.size)
  clear hb hb13 hj13
  go_wp2_with fail
  refine (k21b w14 hb14).mono ?_
  rintro e w15 ⟨rfl, hb⟩
  have hb15 : Below W.heap.size W w15 := hb14.trans (hb.mono hb14.size)
  have hj15 : Below w2.heap.size w2 w15 := hj14.trans (hb.mono hj14.size)
  clear hb hb14 hj14
  go_wp2_with fail
  refine (k11 w15 hb15).mono ?_
  rintro e w16 ⟨vm, rfl, hFm, hb⟩
  have hb16 : Below W.heap.size W w16 := hb15.trans (hb.mono hb15.size)
  have hSm := hFm.si
  have hSm' := hSm
  obtain ⟨pm, cm, rfl, _⟩ := hSm'
  have HSm : Hid _ := hSm
  clear hSm hFm
  have hj16 : Below w2.heap.size w2 w16 := hj15.trans (hb.mono hj15.size)
  clear hb hb15 hj15
  go_wp2_with fail
  refine (k27m _ w16 hb16 HSm.out).mono ?_
  rintro e w17 ⟨rfl, hb⟩
  have hb17 : Below W.heap.size W w17 := hb16.trans (hb.mono hb16.size)
  have hj17 : Below w2.heap.size w2 w17 := hj16.trans (hb.mono hj16.size)
  clear hb hb16 hj16
  go_wp2_with fail
  refine (k29j _ w17 (HJB.out _ hj17)).mono ?_
  rintro e w18 ⟨rfl, hb⟩
  have hb18 : Below W.heap.size W w18 := hb17.trans (hb.mono hb17.size)
  have hj18 : Below w2.heap.size w2 w18 := hj17.trans (hb.mono hj17.size)
  clear hb hb17 hj17
  go_wp2_with fail
  refine (k27j _ w18 hb18 (HJB.out _ hj18)).mono ?_
  rintro e w19 ⟨rfl, hb⟩
  have hb19 : Below W.heap.size W w19 := hb18.trans (hb.mono hb18.size)
  have hj19 : Below w2.heap.size w2 w19 := hj18.trans (hb.mono hj18.size)
  clear hb hb18 hj18
  go_wp2_with fail
  refine (k32 w19 hb19).mono ?_
  rintro e w20 ⟨rfl, hb⟩
  have hb20 : Below W.heap.size W w20 := hb19.trans (hb.mono hb19.size)
  have hj20 : Below w2.heap.size w2 w20 := hj19.trans (hb.mono hj19.size)
  clear hb hb19 hj19
  go_wp2
  go_ret
  exact ⟨rfl, hb20⟩
end Go.Proofs.YtcnipgdpefipdaaGreatDoor
