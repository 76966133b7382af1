/-
  What is proved here: the walk of SetsReckons.
-/
import Derived.Test.YthpbgplbgnefcaaGreatDoorRj
import Derived.Test.YthpbgplbgnefcaaGreatDoorRe
import Derived.Test.YthpbgplbgnefcaaGreatDoorKn
namespace Go.Proofs.YthpbgplbgnefcaaGreatDoor
open Go.RowKit Go.Shelf
set_option linter.unusedVariables false
set_option linter.unusedSimpArgs false

theorem lent_look (s : Value) (l : List Int) (w : World) (h : Si w s l) (hr : l.length * 8 ≤ 140737488351232) :
    Calls Tryz.prog 9 #[s] w fun e w' => ∃ g n c, e = .returned (.slice (some ⟨g, 0, none⟩) n c) ∧ Hid (l.length = n ∧ n + 1 ≤ c ∧ c ≤ maxLen ∧ RowI w' w.heap.size (.slice (some ⟨g, 0, none⟩) (n + 1) c) (l ++ [7777])) ∧ Hid (Si w' (.slice (some ⟨g, 0, none⟩) n c) l) ∧ Below w.heap.size w w' :=
  (lentI_any s l w h hr).mono fun e w' ⟨g, c, he, h1, h2, h3, hb⟩ => by
    refine ⟨g, _, c, he, ⟨rfl, h1, h2, h3⟩, ?_, hb⟩
    obtain ⟨g', cap', e, _, hg, _, _, hcell⟩ := h3.at (j := l.length) (by simp)
    simp only [Value.slice.injEq, Option.some.injEq, Addr.mk.injEq] at e
    obtain ⟨⟨rfl, _⟩, _, rfl⟩ := e
    refine ⟨some ⟨g, 0, none⟩, c, rfl, fun _ => ⟨g, 0, rfl, hg, fun i hi => ?_⟩⟩
    have := hcell i (by simp; omega)
    rw [List.getElem?_append_left hi] at this
    rw [Nat.zero_add]; exact this
theorem rowi_below {w w' : World} {B : Nat} {s : Value} {l : List Int} (h : RowI w B s l) (hb : Below w.heap.size w w') : RowI w' B s l := own_keepB h hb
theorem rowi_zero {w : World} {B : Nat} {s : Value} {l : List Int} (h : RowI w B s l) : RowI w 0 s l := own_base h (Nat.zero_le _)
theorem same_below (s1 s2 : Value) (l : List Int) (w : World) (h1 : Si w s1 l) (h2 : Si w s2 l) (hl : l.length ≤ 100000) : Calls Tryz.prog 14 #[s1, s2] w fun e w' => e = .returned (.bool true) ∧ Below w.heap.size w w' :=
  (sameI_any s1 s2 l w h1 h2 (by omega)).mono fun e w' ⟨he, n, hw⟩ => ⟨he, by rw [hw]; exact below_drewN (Below.refl _ _) _⟩
theorem kept_below (g n c : Nat) (s2 : Value) (l : List Int) (w : World) (hn : l.length = n) (h1 : RowI w 0 (.slice (some ⟨g, 0, none⟩) (n + 1) c) (l ++ [7777])) (hc : n + 1 ≤ c) (hm : c ≤ maxLen) (h2 : Si w s2 l) (hr : l.length * 8 ≤ 140737488351232) :
    Calls Tryz.prog 31 #[.slice (some ⟨g, 0, none⟩) n c, s2] w fun e w' => e = .returned (.bool true) ∧ Below w.heap.size w w' := by
  subst hn
  exact (keptI_any g c s2 l w h1 hc hm h2 hr).mono fun e w' ⟨he, n, hw⟩ => ⟨he, by rw [hw]; exact below_drewN (Below.refl _ _) _⟩
theorem own_look {w : World} {B : Nat} {v : Value} {l : List Int} (h : w.ownsRow B 2 1 v l.length (intv l)) : ∃ p n c, v = .slice p n c ∧ Hid (l.length = n) ∧ Hid (Si w (.slice p n c) l) ∧ Hid (Wrt w B (.slice p n c)) := by
  have h1 := own_si h
  have h2 := own_wrt h
  obtain ⟨p, c, rfl⟩ := own_slice h
  exact ⟨_, _, _, rfl, rfl, h1, h2⟩
theorem fresh_look {w : World} {B : Nat} {v : Value} {l : List Int} (h : Fresh B w v l) : ∃ p n c, v = .slice p n c ∧ Hid (l.length = n) ∧ Hid (Si w (.slice p n c) l) ∧ Hid (Wrt w B (.slice p n c)) := by
  have h1 := h.si
  have h2 := fresh_wrt h
  obtain ⟨p, c, e, _⟩ := h.si
  subst e
  exact ⟨_, _, _, rfl, rfl, h1, h2⟩
theorem draw_below {P : Ending → Prop} {w w' : World} {n : Nat} (hw : w' = w.drewN n) : Below w.heap.size w w' := by rw [hw]; exact below_drewN (Below.refl _ _) _

set_option maxRecDepth 100000 in
set_option maxHeartbeats 4000000 in
theorem reckons_walk (s1 s2 : Value) (a b : List Int) (v : Int) (s : ByteArray) (W : World) (h1 : Si W s1 a) (h2 : Si W s2 b) (hra : a.length * 8 ≤ 140737488351232) (hrb : b.length * 8 ≤ 140737488351232) (hM : MaxL W) (hE : ErrV W) (hT : Tens W.heap.size W) :
    Calls Tryz.prog 3 #[s1, s2, .int .i64 v, .string s] W fun e w' => e = .returned (.bool true) ∧ Below W.heap.size W w' := by
  have hM0 := hM.1
  have HM : Hid (MaxL W) := hM
  have HE : Hid (ErrV W) := hE
  have HT : Hid (Tens W.heap.size W) := hT
  have HRA : Hid (a.length * 8 ≤ 140737488351232) := hra
  have HRB : Hid (b.length * 8 ≤ 140737488351232) := hrb
  have k9a := lent_look s1 a W h1 hra
  have k9b := fun X (hX : Below W.heap.size W X) => lent_look s2 b X (h2.below hX) hrb
  have k15 := fun X (hX : Below W.heap.size W X) => refjoin_any s1 s2 a b X (h1.below hX) (h2.below hX)
  have k16 := fun X (hX : Below W.heap.size W X) => refmeet_any s1 s2 a b X (h1.below hX) (h2.below hX)
  have k17 := fun X (hX : Below W.heap.size W X) => refless_any s1 s2 a b X (h1.below hX) (h2.below hX)
  have k18 := fun X (hX : Below W.heap.size W X) => refsym_any s1 s2 a b X (h1.below hX) (h2.below hX)
  have k19 := fun X (hX : Below W.heap.size W X) => parse_any s X (HM.out.below hX hM0) (HE.out.below hX (by omega)) (Tens.here HT.out hX)
  have k20 := fun X (hX : Below W.heap.size W X) => refparse_any s X (Tens.here HT.out hX)
  have k22 := fun X (hX : Below W.heap.size W X) => reftext_any s1 a X (h1.below hX) (Tens.here HT.out hX)
  have k24 := fun X (hX : Below W.heap.size W X) => refcmp_any s1 s2 a b X (h1.below hX) (h2.below hX)
  have k26 := fun X (hX : Below W.heap.size W X) => refin_any v s1 a X (h1.below hX)
  have k28 := fun X (hX : Below W.heap.size W X) => refsub_any s1 s2 a b X (h1.below hX) (h2.below hX)
  have k30 := fun X (hX : Below W.heap.size W X) => refset_any s1 a X (h1.below hX)
  have k32 := fun X (hX : Below W.heap.size W X) => known32 X (HM.out.below hX hM0) (HE.out.below hX (by omega)) (Tens.here HT.out hX)
  have c10 := fun x y X (hx : Si X x a) (hy : Si X y b) => join_any x y a b X hx hy
  have c11 := fun x y X (hx : Si X x a) (hy : Si X y b) => meet_any x y a b X hx hy
  have c12 := fun x y X (hx : Si X x a) (hy : Si X y b) => less_any x y a b X hx hy
  have c13 := fun x y X (hx : Si X x a) (hy : Si X y b) => sym_any x y a b X hx hy
  have c21 := fun x X (hX : Below W.heap.size W X) (hx : Si X x a) => text_any x a X hx (Tens.here HT.out hX)
  have c23 := fun x y X (hx : Si X x a) (hy : Si X y b) => cmp_any x y a b X hx hy
  have c25 := fun x X (hx : Si X x a) => in_any v x a X hx
  have c27 := fun x y X (hx : Si X x a) (hy : Si X y b) => sub_any x y a b X hx hy
  have c29 := fun x X (hx : Si X x a) => set_any x a X hx
  have c31a := fun g n c X (hn : a.length = n) (h : RowI X 0 (.slice (some ⟨g, 0, none⟩) (n + 1) c) (a ++ [7777])) (hc : n + 1 ≤ c) (hm : c ≤ maxLen) (hX : Below W.heap.size W X) => kept_below g n c s1 a X hn h hc hm (h1.below hX) HRA.out
  have c31b := fun g n c X (hn : b.length = n) (h : RowI X 0 (.slice (some ⟨g, 0, none⟩) (n + 1) c) (b ++ [7777])) (hc : n + 1 ≤ c) (hm : c ≤ maxLen) (hX : Below W.heap.size W X) => kept_below g n c s2 b X hn h hc hm (h2.below hX) HRB.out
  have lJ : (joinL (tkS a) (tkS b)).length ≤ 1000 := by rw [show joinL (tkS a) (tkS b) = sortL (tkS a ++ lessL (tkS b) (tkS a)) from rfl, sortL_len, List.length_append]; have := lessL_le (tkS b) (tkS a); have := (tkS_set a).1; have := (tkS_set b).1; omega
  have lM : (meetL (tkS a) (tkS b)).length ≤ 1000 := by have := (tkS_set a).1; exact Nat.le_trans (List.length_filter_le _ _) (by omega)
  have lL : (lessL (tkS a) (tkS b)).length ≤ 1000 := by have := (tkS_set a).1; exact Nat.le_trans (List.length_filter_le _ _) (by omega)
  have lS : (symL (tkS a) (tkS b)).length ≤ 1000 := by rw [show symL (tkS a) (tkS b) = sortL (lessL (tkS a) (tkS b) ++ lessL (tkS b) (tkS a)) from rfl, sortL_len, List.length_append]; have := lessL_le (tkS b) (tkS a); have := lessL_le (tkS a) (tkS b); have := (tkS_set a).1; have := (tkS_set b).1; omega
  generalize joinL (tkS a) (tkS b) = LJ at c10 k15 lJ
  generalize meetL (tkS a) (tkS b) = LM at c11 k16 lM
  generalize lessL (tkS a) (tkS b) = LL at c12 k17 lL
  generalize symL (tkS a) (tkS b) = LS at c13 k18 lS
  generalize stx (tkS a) = TX at c21 k22
  generalize cmpL (tkS a) (tkS b) = CM at c23 k24
  generalize (tkS a).contains v = CO at c25 k26
  generalize subB (tkS a) (tkS b) = SU at c27 k28
  generalize setB a = SE at c29 k30
  generalize s.data.toList = SB at k19 k20
  obtain ⟨a1, n1, d1, rfl, _, _⟩ := si_look h1
  obtain ⟨a2, n2, d2, rfl, _, _⟩ := si_look h2
  have hb0 : Below W.heap.size W W := Below.refl _ W
  have HLJ : Hid (LJ.length ≤ 1000) := lJ
  have HLM : Hid (LM.length ≤ 1000) := lM
  have HLL : Hid (LL.length ≤ 1000) := lL
  have HLS : Hid (LS.length ≤ 1000) := lS
  clear hM hE hT h1 h2 hra hrb lJ lM lL lS
  go_enter Tryz.func3, Tryz.ntmps3
  go_wp2_with fail
  refine (k9a).mono ?_
  rintro e w1 ⟨gx, nx, cx, rfl, HXr, HXs, hb⟩
  have hb1 : Below W.heap.size W w1 := hb0.trans (hb.mono hb0.size)
  have XR_1 : Hid (RowI w1 W.heap.size (.slice (some ⟨gx, 0, none⟩) (nx + 1) cx) (a ++ [7777])) := HXr.out.2.2.2
  have XS_1 : Hid (Si w1 (.slice (some ⟨gx, 0, none⟩) nx cx) a) := HXs.out
  have HXI : Hid (a.length = nx ∧ nx + 1 ≤ cx ∧ cx ≤ maxLen) := ⟨HXr.out.1, HXr.out.2.1, HXr.out.2.2.1⟩
  clear HXr HXs k9a
  clear hb hb0 
  go_wp2_with fail
  refine (k9b w1 hb1).mono ?_
  rintro e w2 ⟨gy, ny, cy, rfl, HYr, HYs, hb⟩
  have hb2 : Below W.heap.size W w2 := hb1.trans (hb.mono hb1.size)
  have XR_2 : Hid (RowI w2 W.heap.size (.slice (some ⟨gx, 0, none⟩) (nx + 1) cx) (a ++ [7777])) := rowi_below XR_1.out hb
  have XS_2 : Hid (Si w2 (.slice (some ⟨gx, 0, none⟩) nx cx) a) := XS_1.out.below hb
  have YR_2 : Hid (RowI w2 w1.heap.size (.slice (some ⟨gy, 0, none⟩) (ny + 1) cy) (b ++ [7777])) := HYr.out.2.2.2
  have YS_2 : Hid (Si w2 (.slice (some ⟨gy, 0, none⟩) ny cy) b) := HYs.out
  have HYI : Hid (b.length = ny ∧ ny + 1 ≤ cy ∧ cy ≤ maxLen) := ⟨HYr.out.1, HYr.out.2.1, HYr.out.2.2.1⟩
  clear HYr HYs k9b
  clear hb hb1 XR_1 XS_1
  have HX2 : Hid (RowI w2 W.heap.size (.slice (some ⟨gx, 0, none⟩) (nx + 1) cx) (a ++ [7777])) := XR_2.out
  have HY2 : Hid (RowI w2 w1.heap.size (.slice (some ⟨gy, 0, none⟩) (ny + 1) cy) (b ++ [7777])) := YR_2.out
  have HXS2 : Hid (Si w2 (.slice (some ⟨gx, 0, none⟩) nx cx) a) := XS_2.out
  have HYS2 : Hid (Si w2 (.slice (some ⟨gy, 0, none⟩) ny cy) b) := YS_2.out
  have HB2 : Hid (Below W.heap.size W w2) := hb2
  clear XR_2 YR_2
  have B2_2 : Hid (Below w2.heap.size w2 w2) := Below.refl _ _
  go_wp2_with fail
  refine (c10 _ _ w2 XS_2.out YS_2.out).mono ?_
  rintro e w3 ⟨vc, rfl, hr, hb⟩
  have hb3 : Below W.heap.size W w3 := hb2.trans (hb.mono hb2.size)
  have XS_3 : Hid (Si w3 (.slice (some ⟨gx, 0, none⟩) nx cx) a) := XS_2.out.below hb
  have YS_3 : Hid (Si w3 (.slice (some ⟨gy, 0, none⟩) ny cy) b) := YS_2.out.below hb
  have B2_3 : Hid (Below w2.heap.size w2 w3) := B2_2.out.trans (hb.mono B2_2.out.size)
  obtain ⟨pc, nc, cc, rfl, HNc, Sc_3, Tc0⟩ := own_look hr
  have Tc_3 : Hid (Wrt w3 w2.heap.size (.slice pc nc cc)) := by
    obtain ⟨q1, q2, q3, q4, q5⟩ := Tc0.out
    exact ⟨q1, q2, q3, q4, fun q0 => by obtain ⟨r1, r2, r3, r4, r5, r6, r7, r8⟩ := q5 q0; exact ⟨r1, r2, r3, r4, r5, Nat.le_trans B2_2.out.size r6, r7, r8⟩⟩
  clear hr Tc0
  clear B2_2
  clear hb hb2 XS_2 YS_2
  go_wp2_with fail
  refine (c11 _ _ w3 XS_3.out YS_3.out).mono ?_
  rintro e w4 ⟨vd, rfl, hr, hb⟩
  have hb4 : Below W.heap.size W w4 := hb3.trans (hb.mono hb3.size)
  have XS_4 : Hid (Si w4 (.slice (some ⟨gx, 0, none⟩) nx cx) a) := XS_3.out.below hb
  have YS_4 : Hid (Si w4 (.slice (some ⟨gy, 0, none⟩) ny cy) b) := YS_3.out.below hb
  have Sc_4 : Hid (Si w4 (.slice pc nc cc) LJ) := Sc_3.out.below hb
  have Tc_4 : Hid (Wrt w4 w2.heap.size (.slice pc nc cc)) := Tc_3.out.below hb
  have B2_4 : Hid (Below w2.heap.size w2 w4) := B2_3.out.trans (hb.mono B2_3.out.size)
  obtain ⟨pd, nd, cd, rfl, HNd, Sd_4, Td0⟩ := fresh_look hr
  have Td_4 : Hid (Wrt w4 w2.heap.size (.slice pd nd cd)) := by
    obtain ⟨q1, q2, q3, q4, q5⟩ := Td0.out
    exact ⟨q1, q2, q3, q4, fun q0 => by obtain ⟨r1, r2, r3, r4, r5, r6, r7, r8⟩ := q5 q0; exact ⟨r1, r2, r3, r4, r5, Nat.le_trans B2_3.out.size r6, r7, r8⟩⟩
  clear hr Td0
  clear B2_3
  clear hb hb3 XS_3 YS_3 Sc_3 Tc_3
  go_wp2_with fail
  refine (c12 _ _ w4 XS_4.out YS_4.out).mono ?_
  rintro e w5 ⟨ve, rfl, hr, hb⟩
  have hb5 : Below W.heap.size W w5 := hb4.trans (hb.mono hb4.size)
  have XS_5 : Hid (Si w5 (.slice (some ⟨gx, 0, none⟩) nx cx) a) := XS_4.out.below hb
  have YS_5 : Hid (Si w5 (.slice (some ⟨gy, 0, none⟩) ny cy) b) := YS_4.out.below hb
  have Sc_5 : Hid (Si w5 (.slice pc nc cc) LJ) := Sc_4.out.below hb
  have Tc_5 : Hid (Wrt w5 w2.heap.size (.slice pc nc cc)) := Tc_4.out.below hb
  have Sd_5 : Hid (Si w5 (.slice pd nd cd) LM) := Sd_4.out.below hb
  have Td_5 : Hid (Wrt w5 w2.heap.size (.slice pd nd cd)) := Td_4.out.below hb
  have B2_5 : Hid (Below w2.heap.size w2 w5) := B2_4.out.trans (hb.mono B2_4.out.size)
  obtain ⟨pe, ne, ce, rfl, HNe, Se_5, Te0⟩ := fresh_look hr
  have Te_5 : Hid (Wrt w5 w2.heap.size (.slice pe ne ce)) := by
    obtain ⟨q1, q2, q3, q4, q5⟩ := Te0.out
    exact ⟨q1, q2, q3, q4, fun q0 => by obtain ⟨r1, r2, r3, r4, r5, r6, r7, r8⟩ := q5 q0; exact ⟨r1, r2, r3, r4, r5, Nat.le_trans B2_4.out.size r6, r7, r8⟩⟩
  clear hr Te0
  clear B2_4
  clear hb hb4 XS_4 YS_4 Sc_4 Tc_4 Sd_4 Td_4
  go_wp2_with fail
  refine (c13 _ _ w5 XS_5.out YS_5.out).mono ?_
  rintro e w6 ⟨vf, rfl, hr, hb⟩
  have hb6 : Below W.heap.size W w6 := hb5.trans (hb.mono hb5.size)
  have XS_6 : Hid (Si w6 (.slice (some ⟨gx, 0, none⟩) nx cx) a) := XS_5.out.below hb
  have YS_6 : Hid (Si w6 (.slice (some ⟨gy, 0, none⟩) ny cy) b) := YS_5.out.below hb
  have Sc_6 : Hid (Si w6 (.slice pc nc cc) LJ) := Sc_5.out.below hb
  have Tc_6 : Hid (Wrt w6 w2.heap.size (.slice pc nc cc)) := Tc_5.out.below hb
  have Sd_6 : Hid (Si w6 (.slice pd nd cd) LM) := Sd_5.out.below hb
  have Td_6 : Hid (Wrt w6 w2.heap.size (.slice pd nd cd)) := Td_5.out.below hb
  have Se_6 : Hid (Si w6 (.slice pe ne ce) LL) := Se_5.out.below hb
  have Te_6 : Hid (Wrt w6 w2.heap.size (.slice pe ne ce)) := Te_5.out.below hb
  have B2_6 : Hid (Below w2.heap.size w2 w6) := B2_5.out.trans (hb.mono B2_5.out.size)
  obtain ⟨pf, nf, cf, rfl, HNf, Sf_6, Tf0⟩ := own_look hr
  have Tf_6 : Hid (Wrt w6 w2.heap.size (.slice pf nf cf)) := by
    obtain ⟨q1, q2, q3, q4, q5⟩ := Tf0.out
    exact ⟨q1, q2, q3, q4, fun q0 => by obtain ⟨r1, r2, r3, r4, r5, r6, r7, r8⟩ := q5 q0; exact ⟨r1, r2, r3, r4, r5, Nat.le_trans B2_5.out.size r6, r7, r8⟩⟩
  clear hr Tf0
  clear B2_5
  clear hb hb5 XS_5 YS_5 Sc_5 Tc_5 Sd_5 Td_5 Se_5 Te_5
  go_wp2_with fail
  refine (k15 w6 hb6).mono ?_
  rintro e w7 ⟨vr, rfl, hr, hb⟩
  have hb7 : Below W.heap.size W w7 := hb6.trans (hb.mono hb6.size)
  have XS_7 : Hid (Si w7 (.slice (some ⟨gx, 0, none⟩) nx cx) a) := XS_6.out.below hb
  have YS_7 : Hid (Si w7 (.slice (some ⟨gy, 0, none⟩) ny cy) b) := YS_6.out.below hb
  have Sc_7 : Hid (Si w7 (.slice pc nc cc) LJ) := Sc_6.out.below hb
  have Tc_7 : Hid (Wrt w7 w2.heap.size (.slice pc nc cc)) := Tc_6.out.below hb
  have Sd_7 : Hid (Si w7 (.slice pd nd cd) LM) := Sd_6.out.below hb
  have Td_7 : Hid (Wrt w7 w2.heap.size (.slice pd nd cd)) := Td_6.out.below hb
  have Se_7 : Hid (Si w7 (.slice pe ne ce) LL) := Se_6.out.below hb
  have Te_7 : Hid (Wrt w7 w2.heap.size (.slice pe ne ce)) := Te_6.out.below hb
  have Sf_7 : Hid (Si w7 (.slice pf nf cf) LS) := Sf_6.out.below hb
  have Tf_7 : Hid (Wrt w7 w2.heap.size (.slice pf nf cf)) := Tf_6.out.below hb
  have B2_7 : Hid (Below w2.heap.size w2 w7) := B2_6.out.trans (hb.mono B2_6.out.size)
  obtain ⟨pr, nr, cr, rfl, HNr, SR_7, _⟩ := own_look hr
  clear hr
  clear B2_6
  clear hb hb6 XS_6 YS_6 Sc_6 Tc_6 Sd_6 Td_6 Se_6 Te_6 Sf_6 Tf_6
  go_wp2_with fail
  refine (same_below _ _ _ w7 Sc_7.out SR_7.out (by have := HLJ.out; omega)).mono ?_
  rintro e w8 ⟨rfl, hb⟩
  have hb8 : Below W.heap.size W w8 := hb7.trans (hb.mono hb7.size)
  have XS_8 : Hid (Si w8 (.slice (some ⟨gx, 0, none⟩) nx cx) a) := XS_7.out.below hb
  have YS_8 : Hid (Si w8 (.slice (some ⟨gy, 0, none⟩) ny cy) b) := YS_7.out.below hb
  have Sc_8 : Hid (Si w8 (.slice pc nc cc) LJ) := Sc_7.out.below hb
  have Tc_8 : Hid (Wrt w8 w2.heap.size (.slice pc nc cc)) := Tc_7.out.below hb
  have Sd_8 : Hid (Si w8 (.slice pd nd cd) LM) := Sd_7.out.below hb
  have Td_8 : Hid (Wrt w8 w2.heap.size (.slice pd nd cd)) := Td_7.out.below hb
  have Se_8 : Hid (Si w8 (.slice pe ne ce) LL) := Se_7.out.below hb
  have Te_8 : Hid (Wrt w8 w2.heap.size (.slice pe ne ce)) := Te_7.out.below hb
  have Sf_8 : Hid (Si w8 (.slice pf nf cf) LS) := Sf_7.out.below hb
  have Tf_8 : Hid (Wrt w8 w2.heap.size (.slice pf nf cf)) := Tf_7.out.below hb
  have SR_8 : Hid (Si w8 (.slice pr nr cr) LJ) := SR_7.out.below hb
  have B2_8 : Hid (Below w2.heap.size w2 w8) := B2_7.out.trans (hb.mono B2_7.out.size)
  clear B2_7
  clear hb hb7 XS_7 YS_7 Sc_7 Tc_7 Sd_7 Td_7 Se_7 Te_7 Sf_7 Tf_7 SR_7
  clear SR_8 HNr
  clear Sc_8
  go_wp2_with fail
  refine (k16 w8 hb8).mono ?_
  rintro e w9 ⟨vr, rfl, hr, hb⟩
  have hb9 : Below W.heap.size W w9 := hb8.trans (hb.mono hb8.size)
  have XS_9 : Hid (Si w9 (.slice (some ⟨gx, 0, none⟩) nx cx) a) := XS_8.out.below hb
  have YS_9 : Hid (Si w9 (.slice (some ⟨gy, 0, none⟩) ny cy) b) := YS_8.out.below hb
  have Tc_9 : Hid (Wrt w9 w2.heap.size (.slice pc nc cc)) := Tc_8.out.below hb
  have Sd_9 : Hid (Si w9 (.slice pd nd cd) LM) := Sd_8.out.below hb
  have Td_9 : Hid (Wrt w9 w2.heap.size (.slice pd nd cd)) := Td_8.out.below hb
  have Se_9 : Hid (Si w9 (.slice pe ne ce) LL) := Se_8.out.below hb
  have Te_9 : Hid (Wrt w9 w2.heap.size (.slice pe ne ce)) := Te_8.out.below hb
  have Sf_9 : Hid (Si w9 (.slice pf nf cf) LS) := Sf_8.out.below hb
  have Tf_9 : Hid (Wrt w9 w2.heap.size (.slice pf nf cf)) := Tf_8.out.below hb
  have B2_9 : Hid (Below w2.heap.size w2 w9) := B2_8.out.trans (hb.mono B2_8.out.size)
  obtain ⟨pr, nr, cr, rfl, HNr, SR_9, _⟩ := own_look hr
  clear hr
  clear B2_8
  clear hb hb8 XS_8 YS_8 Tc_8 Sd_8 Td_8 Se_8 Te_8 Sf_8 Tf_8
  go_wp2_with fail
  refine (same_below _ _ _ w9 Sd_9.out SR_9.out (by have := HLM.out; omega)).mono ?_
  rintro e w10 ⟨rfl, hb⟩
  have hb10 : Below W.heap.size W w10 := hb9.trans (hb.mono hb9.size)
  have XS_10 : Hid (Si w10 (.slice (some ⟨gx, 0, none⟩) nx cx) a) := XS_9.out.below hb
  have YS_10 : Hid (Si w10 (.slice (some ⟨gy, 0, none⟩) ny cy) b) := YS_9.out.below hb
  have Tc_10 : Hid (Wrt w10 w2.heap.size (.slice pc nc cc)) := Tc_9.out.below hb
  have Sd_10 : Hid (Si w10 (.slice pd nd cd) LM) := Sd_9.out.below hb
  have Td_10 : Hid (Wrt w10 w2.heap.size (.slice pd nd cd)) := Td_9.out.below hb
  have Se_10 : Hid (Si w10 (.slice pe ne ce) LL) := Se_9.out.below hb
  have Te_10 : Hid (Wrt w10 w2.heap.size (.slice pe ne ce)) := Te_9.out.below hb
  have Sf_10 : Hid (Si w10 (.slice pf nf cf) LS) := Sf_9.out.below hb
  have Tf_10 : Hid (Wrt w10 w2.heap.size (.slice pf nf cf)) := Tf_9.out.below hb
  have SR_10 : Hid (Si w10 (.slice pr nr cr) LM) := SR_9.out.below hb
  have B2_10 : Hid (Below w2.heap.size w2 w10) := B2_9.out.trans (hb.mono B2_9.out.size)
  clear B2_9
  clear hb hb9 XS_9 YS_9 Tc_9 Sd_9 Td_9 Se_9 Te_9 Sf_9 Tf_9 SR_9
  clear SR_10 HNr
  clear Sd_10
  go_wp2_with fail
  refine (k17 w10 hb10).mono ?_
  rintro e w11 ⟨vr, rfl, hr, hb⟩
  have hb11 : Below W.heap.size W w11 := hb10.trans (hb.mono hb10.size)
  have XS_11 : Hid (Si w11 (.slice (some ⟨gx, 0, none⟩) nx cx) a) := XS_10.out.below hb
  have YS_11 : Hid (Si w11 (.slice (some ⟨gy, 0, none⟩) ny cy) b) := YS_10.out.below hb
  have Tc_11 : Hid (Wrt w11 w2.heap.size (.slice pc nc cc)) := Tc_10.out.below hb
  have Td_11 : Hid (Wrt w11 w2.heap.size (.slice pd nd cd)) := Td_10.out.below hb
  have Se_11 : Hid (Si w11 (.slice pe ne ce) LL) := Se_10.out.below hb
  have Te_11 : Hid (Wrt w11 w2.heap.size (.slice pe ne ce)) := Te_10.out.below hb
  have Sf_11 : Hid (Si w11 (.slice pf nf cf) LS) := Sf_10.out.below hb
  have Tf_11 : Hid (Wrt w11 w2.heap.size (.slice pf nf cf)) := Tf_10.out.below hb
  have B2_11 : Hid (Below w2.heap.size w2 w11) := B2_10.out.trans (hb.mono B2_10.out.size)
  obtain ⟨pr, nr, cr, rfl, HNr, SR_11, _⟩ := own_look hr
  clear hr
  clear B2_10
  clear hb hb10 XS_10 YS_10 Tc_10 Td_10 Se_10 Te_10 Sf_10 Tf_10
  go_wp2_with fail
  refine (same_below _ _ _ w11 Se_11.out SR_11.out (by have := HLL.out; omega)).mono ?_
  rintro e w12 ⟨rfl, hb⟩
  have hb12 : Below W.heap.size W w12 := hb11.trans (hb.mono hb11.size)
  have XS_12 : Hid (Si w12 (.slice (some ⟨gx, 0, none⟩) nx cx) a) := XS_11.out.below hb
  have YS_12 : Hid (Si w12 (.slice (some ⟨gy, 0, none⟩) ny cy) b) := YS_11.out.below hb
  have Tc_12 : Hid (Wrt w12 w2.heap.size (.slice pc nc cc)) := Tc_11.out.below hb
  have Td_12 : Hid (Wrt w12 w2.heap.size (.slice pd nd cd)) := Td_11.out.below hb
  have Se_12 : Hid (Si w12 (.slice pe ne ce) LL) := Se_11.out.below hb
  have Te_12 : Hid (Wrt w12 w2.heap.size (.slice pe ne ce)) := Te_11.out.below hb
  have Sf_12 : Hid (Si w12 (.slice pf nf cf) LS) := Sf_11.out.below hb
  have Tf_12 : Hid (Wrt w12 w2.heap.size (.slice pf nf cf)) := Tf_11.out.below hb
  have SR_12 : Hid (Si w12 (.slice pr nr cr) LL) := SR_11.out.below hb
  have B2_12 : Hid (Below w2.heap.size w2 w12) := B2_11.out.trans (hb.mono B2_11.out.size)
  clear B2_11
  clear hb hb11 XS_11 YS_11 Tc_11 Td_11 Se_11 Te_11 Sf_11 Tf_11 SR_11
  clear SR_12 HNr
  clear Se_12
  go_wp2_with fail
  refine (k18 w12 hb12).mono ?_
  rintro e w13 ⟨vr, rfl, hr, hb⟩
  have hb13 : Below W.heap.size W w13 := hb12.trans (hb.mono hb12.size)
  have XS_13 : Hid (Si w13 (.slice (some ⟨gx, 0, none⟩) nx cx) a) := XS_12.out.below hb
  have YS_13 : Hid (Si w13 (.slice (some ⟨gy, 0, none⟩) ny cy) b) := YS_12.out.below hb
  have Tc_13 : Hid (Wrt w13 w2.heap.size (.slice pc nc cc)) := Tc_12.out.below hb
  have Td_13 : Hid (Wrt w13 w2.heap.size (.slice pd nd cd)) := Td_12.out.below hb
  have Te_13 : Hid (Wrt w13 w2.heap.size (.slice pe ne ce)) := Te_12.out.below hb
  have Sf_13 : Hid (Si w13 (.slice pf nf cf) LS) := Sf_12.out.below hb
  have Tf_13 : Hid (Wrt w13 w2.heap.size (.slice pf nf cf)) := Tf_12.out.below hb
  have B2_13 : Hid (Below w2.heap.size w2 w13) := B2_12.out.trans (hb.mono B2_12.out.size)
  obtain ⟨pr, nr, cr, rfl, HNr, SR_13, _⟩ := own_look hr
  clear hr
  clear B2_12
  clear hb hb12 XS_12 YS_12 Tc_12 Td_12 Te_12 Sf_12 Tf_12
  go_wp2_with fail
  refine (same_below _ _ _ w13 Sf_13.out SR_13.out (by have := HLS.out; omega)).mono ?_
  rintro e w14 ⟨rfl, hb⟩
  have hb14 : Below W.heap.size W w14 := hb13.trans (hb.mono hb13.size)
  have XS_14 : Hid (Si w14 (.slice (some ⟨gx, 0, none⟩) nx cx) a) := XS_13.out.below hb
  have YS_14 : Hid (Si w14 (.slice (some ⟨gy, 0, none⟩) ny cy) b) := YS_13.out.below hb
  have Tc_14 : Hid (Wrt w14 w2.heap.size (.slice pc nc cc)) := Tc_13.out.below hb
  have Td_14 : Hid (Wrt w14 w2.heap.size (.slice pd nd cd)) := Td_13.out.below hb
  have Te_14 : Hid (Wrt w14 w2.heap.size (.slice pe ne ce)) := Te_13.out.below hb
  have Sf_14 : Hid (Si w14 (.slice pf nf cf) LS) := Sf_13.out.below hb
  have Tf_14 : Hid (Wrt w14 w2.heap.size (.slice pf nf cf)) := Tf_13.out.below hb
  have SR_14 : Hid (Si w14 (.slice pr nr cr) LS) := SR_13.out.below hb
  have B2_14 : Hid (Below w2.heap.size w2 w14) := B2_13.out.trans (hb.mono B2_13.out.size)
  clear B2_13
  clear hb hb13 XS_13 YS_13 Tc_13 Td_13 Te_13 Sf_13 Tf_13 SR_13
  clear SR_14 HNr
  clear Sf_14
  have hnc : nc ≤ 1000 := by rw [← HNc.out]; exact HLJ.out
  have hne : ne ≤ 1000 := by rw [← HNe.out]; exact HLL.out
  have HST : Hid (Below w2.heap.size w2 w14 ∧ Wrt w14 w2.heap.size (.slice pc nc cc) ∧ Wrt w14 w2.heap.size (.slice pe ne ce)) := ⟨B2_14.out, Tc_14.out, Te_14.out⟩
  clear XS_14 YS_14 Tc_14 Td_14 Te_14 Tf_14 hb14 B2_14
  go_wp2
  go_loopw [15] (fun i wr => ∃ k : Nat, k ≤ nc ∧ i = .int .i64 k ∧ Hid (Below w2.heap.size w2 wr ∧ Wrt wr w2.heap.size (.slice pc nc cc) ∧ Wrt wr w2.heap.size (.slice pe ne ce))) (fun i _ => nc - (intOf i).toNat)
  case atStart => exact ⟨0, Nat.zero_le _, rfl, HST.out⟩
  case round =>
    obtain ⟨k, hk, rfl, HP⟩ := hrel
    by_cases hlt : k < nc
    · obtain ⟨g, off, u, rfl, hg, q1, q2⟩ := HP.out.2.1.at k hlt
      have hlt' : (k : Int) < (nc : Int) := by omega
      have HNX : Hid (Below w2.heap.size w2 (wr.setCell ⟨g, off + k, none⟩ (.int .i64 99)) ∧ Wrt (wr.setCell ⟨g, off + k, none⟩ (.int .i64 99)) w2.heap.size (.slice (some ⟨g, off, none⟩) nc cc) ∧ Wrt (wr.setCell ⟨g, off + k, none⟩ (.int .i64 99)) w2.heap.size (.slice pe ne ce)) := ⟨below_set HP.out.1 g _ hg _, HP.out.2.1.set _ _ _, HP.out.2.2.set _ _ _⟩
      go_wp2
      refine ⟨⟨k + 1, by omega, by go_num, HNX.out⟩, ?_⟩
      simp [intOf]; omega
    · have hlt' : ¬ (k : Int) < (nc : Int) := by omega
      go_wp2
      go_loopw [16] (fun i wr => ∃ k : Nat, k ≤ ne ∧ i = .int .i64 k ∧ Hid (Below w2.heap.size w2 wr ∧ Wrt wr w2.heap.size (.slice pe ne ce))) (fun i _ => ne - (intOf i).toNat)
      case atStart => exact ⟨0, Nat.zero_le _, rfl, HP.out.1, HP.out.2.2⟩
      case round =>
        clear hk hlt hlt' HP HST
        rename_i ko wro
        obtain ⟨k, hk, rfl, HP⟩ := hrel
        by_cases hlt : k < ne
        · obtain ⟨g, off, u, rfl, hg, q1, q2⟩ := HP.out.2.at k hlt
          have hlt' : (k : Int) < (ne : Int) := by omega
          have HNX : Hid (Below w2.heap.size w2 (wr.setCell ⟨g, off + k, none⟩ (.int .i64 99)) ∧ Wrt (wr.setCell ⟨g, off + k, none⟩ (.int .i64 99)) w2.heap.size (.slice (some ⟨g, off, none⟩) ne ce)) := ⟨below_set HP.out.1 g _ hg _, HP.out.2.set _ _ _⟩
          go_wp2
          refine ⟨⟨k + 1, by omega, by go_num, HNX.out⟩, ?_⟩
          simp [intOf]; omega
        · have hlt' : ¬ (k : Int) < (ne : Int) := by omega
          have hb0 : Below W.heap.size W wr := HB2.out.trans (HP.out.1.mono HB2.out.size)
          have XR_0 : Hid (RowI wr W.heap.size (.slice (some ⟨gx, 0, none⟩) (nx + 1) cx) (a ++ [7777])) := rowi_below HX2.out HP.out.1
          have YR_0 : Hid (RowI wr w1.heap.size (.slice (some ⟨gy, 0, none⟩) (ny + 1) cy) (b ++ [7777])) := rowi_below HY2.out HP.out.1
          have XS_0 : Hid (Si wr (.slice (some ⟨gx, 0, none⟩) nx cx) a) := HXS2.out.below HP.out.1
          have YS_0 : Hid (Si wr (.slice (some ⟨gy, 0, none⟩) ny cy) b) := HYS2.out.below HP.out.1
          clear HP HX2 HY2 HXS2 HYS2
          go_wp2_with fail
          refine (k19 wr hb0).mono ?_
          rintro e x1 ⟨hPE, hb⟩
          have hb1 : Below W.heap.size W x1 := hb0.trans (hb.mono hb0.size)
          have XR_1 : Hid (RowI x1 W.heap.size (.slice (some ⟨gx, 0, none⟩) (nx + 1) cx) (a ++ [7777])) := rowi_below XR_0.out hb
          have XS_1 : Hid (Si x1 (.slice (some ⟨gx, 0, none⟩) nx cx) a) := XS_0.out.below hb
          have YR_1 : Hid (RowI x1 w1.heap.size (.slice (some ⟨gy, 0, none⟩) (ny + 1) cy) (b ++ [7777])) := rowi_below YR_0.out hb
          have YS_1 : Hid (Si x1 (.slice (some ⟨gy, 0, none⟩) ny cy) b) := YS_0.out.below hb
          obtain ⟨pg, mg, cg, ng, lg, rfl, SG_1, HPF⟩ := parsE_pf hPE
          clear hPE
          clear hb hb0 XR_0 XS_0 YR_0 YS_0
          go_wp2_with fail
          refine (k20 x1 hb1).mono ?_
          rintro e x2 ⟨hPE, hb⟩
          have hb2 : Below W.heap.size W x2 := hb1.trans (hb.mono hb1.size)
          have XR_2 : Hid (RowI x2 W.heap.size (.slice (some ⟨gx, 0, none⟩) (nx + 1) cx) (a ++ [7777])) := rowi_below XR_1.out hb
          have XS_2 : Hid (Si x2 (.slice (some ⟨gx, 0, none⟩) nx cx) a) := XS_1.out.below hb
          have YR_2 : Hid (RowI x2 w1.heap.size (.slice (some ⟨gy, 0, none⟩) (ny + 1) cy) (b ++ [7777])) := rowi_below YR_1.out hb
          have YS_2 : Hid (Si x2 (.slice (some ⟨gy, 0, none⟩) ny cy) b) := YS_1.out.below hb
          have SG_2 : Hid (Si x2 (.slice pg mg cg) lg) := SG_1.out.below hb
          obtain ⟨ph, mh, ch', nh, lh, rfl, SH_2, HPG⟩ := parsE_pf hPE
          obtain ⟨e1, e2⟩ := HPG.out.one HPF.out
          subst e1 e2
          clear hPE HPG
          clear hb hb1 XR_1 XS_1 YR_1 YS_1 SG_1
          go_wp2_with fail
          refine (same_below _ _ _ x2 SG_2.out SH_2.out (by have := HPF.out.len; omega)).mono ?_
          rintro e x3 ⟨rfl, hb⟩
          have hb3 : Below W.heap.size W x3 := hb2.trans (hb.mono hb2.size)
          have XR_3 : Hid (RowI x3 W.heap.size (.slice (some ⟨gx, 0, none⟩) (nx + 1) cx) (a ++ [7777])) := rowi_below XR_2.out hb
          have XS_3 : Hid (Si x3 (.slice (some ⟨gx, 0, none⟩) nx cx) a) := XS_2.out.below hb
          have YR_3 : Hid (RowI x3 w1.heap.size (.slice (some ⟨gy, 0, none⟩) (ny + 1) cy) (b ++ [7777])) := rowi_below YR_2.out hb
          have YS_3 : Hid (Si x3 (.slice (some ⟨gy, 0, none⟩) ny cy) b) := YS_2.out.below hb
          have SG_3 : Hid (Si x3 (.slice pg mg cg) lg) := SG_2.out.below hb
          have SH_3 : Hid (Si x3 (.slice ph mh ch') lg) := SH_2.out.below hb
          clear hb hb2 XR_2 XS_2 YR_2 YS_2 SG_2 SH_2
          clear SG_3 SH_3 HPF
          go_wp2_with fail
          refine (c21 _ x3 hb3 XS_3.out).mono ?_
          rintro e x4 ⟨rfl, hb⟩
          have hb4 : Below W.heap.size W x4 := hb3.trans (hb.mono hb3.size)
          have XR_4 : Hid (RowI x4 W.heap.size (.slice (some ⟨gx, 0, none⟩) (nx + 1) cx) (a ++ [7777])) := rowi_below XR_3.out hb
          have XS_4 : Hid (Si x4 (.slice (some ⟨gx, 0, none⟩) nx cx) a) := XS_3.out.below hb
          have YR_4 : Hid (RowI x4 w1.heap.size (.slice (some ⟨gy, 0, none⟩) (ny + 1) cy) (b ++ [7777])) := rowi_below YR_3.out hb
          have YS_4 : Hid (Si x4 (.slice (some ⟨gy, 0, none⟩) ny cy) b) := YS_3.out.below hb
          clear hb hb3 XR_3 XS_3 YR_3 YS_3
          go_wp2_with fail
          refine (k22 x4 hb4).mono ?_
          rintro e x5 ⟨rfl, hb⟩
          have hb5 : Below W.heap.size W x5 := hb4.trans (hb.mono hb4.size)
          have XR_5 : Hid (RowI x5 W.heap.size (.slice (some ⟨gx, 0, none⟩) (nx + 1) cx) (a ++ [7777])) := rowi_below XR_4.out hb
          have XS_5 : Hid (Si x5 (.slice (some ⟨gx, 0, none⟩) nx cx) a) := XS_4.out.below hb
          have YR_5 : Hid (RowI x5 w1.heap.size (.slice (some ⟨gy, 0, none⟩) (ny + 1) cy) (b ++ [7777])) := rowi_below YR_4.out hb
          have YS_5 : Hid (Si x5 (.slice (some ⟨gy, 0, none⟩) ny cy) b) := YS_4.out.below hb
          clear hb hb4 XR_4 XS_4 YR_4 YS_4
          go_wp2_with fail
          refine (c23 _ _ x5 XS_5.out YS_5.out).mono ?_
          rintro e x6 ⟨rfl, hb⟩
          have hb6 : Below W.heap.size W x6 := hb5.trans (hb.mono hb5.size)
          have XR_6 : Hid (RowI x6 W.heap.size (.slice (some ⟨gx, 0, none⟩) (nx + 1) cx) (a ++ [7777])) := rowi_below XR_5.out hb
          have XS_6 : Hid (Si x6 (.slice (some ⟨gx, 0, none⟩) nx cx) a) := XS_5.out.below hb
          have YR_6 : Hid (RowI x6 w1.heap.size (.slice (some ⟨gy, 0, none⟩) (ny + 1) cy) (b ++ [7777])) := rowi_below YR_5.out hb
          have YS_6 : Hid (Si x6 (.slice (some ⟨gy, 0, none⟩) ny cy) b) := YS_5.out.below hb
          clear hb hb5 XR_5 XS_5 YR_5 YS_5
          go_wp2_with fail
          refine (k24 x6 hb6).mono ?_
          rintro e x7 ⟨rfl, hb⟩
          have hb7 : Below W.heap.size W x7 := hb6.trans (hb.mono hb6.size)
          have XR_7 : Hid (RowI x7 W.heap.size (.slice (some ⟨gx, 0, none⟩) (nx + 1) cx) (a ++ [7777])) := rowi_below XR_6.out hb
          have XS_7 : Hid (Si x7 (.slice (some ⟨gx, 0, none⟩) nx cx) a) := XS_6.out.below hb
          have YR_7 : Hid (RowI x7 w1.heap.size (.slice (some ⟨gy, 0, none⟩) (ny + 1) cy) (b ++ [7777])) := rowi_below YR_6.out hb
          have YS_7 : Hid (Si x7 (.slice (some ⟨gy, 0, none⟩) ny cy) b) := YS_6.out.below hb
          clear hb hb6 XR_6 XS_6 YR_6 YS_6
          go_wp2_with fail
          refine (c25 _ x7 XS_7.out).mono ?_
          rintro e x8 ⟨rfl, hb⟩
          have hb8 : Below W.heap.size W x8 := hb7.trans (hb.mono hb7.size)
          have XR_8 : Hid (RowI x8 W.heap.size (.slice (some ⟨gx, 0, none⟩) (nx + 1) cx) (a ++ [7777])) := rowi_below XR_7.out hb
          have XS_8 : Hid (Si x8 (.slice (some ⟨gx, 0, none⟩) nx cx) a) := XS_7.out.below hb
          have YR_8 : Hid (RowI x8 w1.heap.size (.slice (some ⟨gy, 0, none⟩) (ny + 1) cy) (b ++ [7777])) := rowi_below YR_7.out hb
          have YS_8 : Hid (Si x8 (.slice (some ⟨gy, 0, none⟩) ny cy) b) := YS_7.out.below hb
          clear hb hb7 XR_7 XS_7 YR_7 YS_7
          go_wp2_with fail
          refine (k26 x8 hb8).mono ?_
          rintro e x9 ⟨rfl, qd, hdw⟩
          have hb : Below x8.heap.size x8 x9 := by rw [hdw]; exact below_drewN (Below.refl _ _) _
          clear hdw
          have hb9 : Below W.heap.size W x9 := hb8.trans (hb.mono hb8.size)
          have XR_9 : Hid (RowI x9 W.heap.size (.slice (some ⟨gx, 0, none⟩) (nx + 1) cx) (a ++ [7777])) := rowi_below XR_8.out hb
          have XS_9 : Hid (Si x9 (.slice (some ⟨gx, 0, none⟩) nx cx) a) := XS_8.out.below hb
          have YR_9 : Hid (RowI x9 w1.heap.size (.slice (some ⟨gy, 0, none⟩) (ny + 1) cy) (b ++ [7777])) := rowi_below YR_8.out hb
          have YS_9 : Hid (Si x9 (.slice (some ⟨gy, 0, none⟩) ny cy) b) := YS_8.out.below hb
          clear hb hb8 XR_8 XS_8 YR_8 YS_8
          go_wp2_with fail
          refine (c27 _ _ x9 XS_9.out YS_9.out).mono ?_
          rintro e x10 ⟨rfl, hb⟩
          have hb10 : Below W.heap.size W x10 := hb9.trans (hb.mono hb9.size)
          have XR_10 : Hid (RowI x10 W.heap.size (.slice (some ⟨gx, 0, none⟩) (nx + 1) cx) (a ++ [7777])) := rowi_below XR_9.out hb
          have XS_10 : Hid (Si x10 (.slice (some ⟨gx, 0, none⟩) nx cx) a) := XS_9.out.below hb
          have YR_10 : Hid (RowI x10 w1.heap.size (.slice (some ⟨gy, 0, none⟩) (ny + 1) cy) (b ++ [7777])) := rowi_below YR_9.out hb
          have YS_10 : Hid (Si x10 (.slice (some ⟨gy, 0, none⟩) ny cy) b) := YS_9.out.below hb
          clear hb hb9 XR_9 XS_9 YR_9 YS_9
          go_wp2_with fail
          refine (k28 x10 hb10).mono ?_
          rintro e x11 ⟨rfl, qd, hdw⟩
          have hb : Below x10.heap.size x10 x11 := by rw [hdw]; exact below_drewN (Below.refl _ _) _
          clear hdw
          have hb11 : Below W.heap.size W x11 := hb10.trans (hb.mono hb10.size)
          have XR_11 : Hid (RowI x11 W.heap.size (.slice (some ⟨gx, 0, none⟩) (nx + 1) cx) (a ++ [7777])) := rowi_below XR_10.out hb
          have XS_11 : Hid (Si x11 (.slice (some ⟨gx, 0, none⟩) nx cx) a) := XS_10.out.below hb
          have YR_11 : Hid (RowI x11 w1.heap.size (.slice (some ⟨gy, 0, none⟩) (ny + 1) cy) (b ++ [7777])) := rowi_below YR_10.out hb
          have YS_11 : Hid (Si x11 (.slice (some ⟨gy, 0, none⟩) ny cy) b) := YS_10.out.below hb
          clear hb hb10 XR_10 XS_10 YR_10 YS_10
          go_wp2_with fail
          refine (c29 _ x11 XS_11.out).mono ?_
          rintro e x12 ⟨rfl, qd, hdw⟩
          have hb : Below x11.heap.size x11 x12 := by rw [hdw]; exact below_drewN (Below.refl _ _) _
          clear hdw
          have hb12 : Below W.heap.size W x12 := hb11.trans (hb.mono hb11.size)
          have XR_12 : Hid (RowI x12 W.heap.size (.slice (some ⟨gx, 0, none⟩) (nx + 1) cx) (a ++ [7777])) := rowi_below XR_11.out hb
          have XS_12 : Hid (Si x12 (.slice (some ⟨gx, 0, none⟩) nx cx) a) := XS_11.out.below hb
          have YR_12 : Hid (RowI x12 w1.heap.size (.slice (some ⟨gy, 0, none⟩) (ny + 1) cy) (b ++ [7777])) := rowi_below YR_11.out hb
          have YS_12 : Hid (Si x12 (.slice (some ⟨gy, 0, none⟩) ny cy) b) := YS_11.out.below hb
          clear hb hb11 XR_11 XS_11 YR_11 YS_11
          go_wp2_with fail
          refine (k30 x12 hb12).mono ?_
          rintro e x13 ⟨rfl, qd, hdw⟩
          have hb : Below x12.heap.size x12 x13 := by rw [hdw]; exact below_drewN (Below.refl _ _) _
          clear hdw
          have hb13 : Below W.heap.size W x13 := hb12.trans (hb.mono hb12.size)
          have XR_13 : Hid (RowI x13 W.heap.size (.slice (some ⟨gx, 0, none⟩) (nx + 1) cx) (a ++ [7777])) := rowi_below XR_12.out hb
          have XS_13 : Hid (Si x13 (.slice (some ⟨gx, 0, none⟩) nx cx) a) := XS_12.out.below hb
          have YR_13 : Hid (RowI x13 w1.heap.size (.slice (some ⟨gy, 0, none⟩) (ny + 1) cy) (b ++ [7777])) := rowi_below YR_12.out hb
          have YS_13 : Hid (Si x13 (.slice (some ⟨gy, 0, none⟩) ny cy) b) := YS_12.out.below hb
          clear hb hb12 XR_12 XS_12 YR_12 YS_12
          go_wp2_with fail
          refine (c31a _ _ _ x13 HXI.out.1 (rowi_zero XR_13.out) HXI.out.2.1 HXI.out.2.2 hb13).mono ?_
          rintro e x14 ⟨rfl, hb⟩
          have hb14 : Below W.heap.size W x14 := hb13.trans (hb.mono hb13.size)
          have XR_14 : Hid (RowI x14 W.heap.size (.slice (some ⟨gx, 0, none⟩) (nx + 1) cx) (a ++ [7777])) := rowi_below XR_13.out hb
          have XS_14 : Hid (Si x14 (.slice (some ⟨gx, 0, none⟩) nx cx) a) := XS_13.out.below hb
          have YR_14 : Hid (RowI x14 w1.heap.size (.slice (some ⟨gy, 0, none⟩) (ny + 1) cy) (b ++ [7777])) := rowi_below YR_13.out hb
          have YS_14 : Hid (Si x14 (.slice (some ⟨gy, 0, none⟩) ny cy) b) := YS_13.out.below hb
          clear hb hb13 XR_13 XS_13 YR_13 YS_13
          go_wp2_with fail
          refine (c31b _ _ _ x14 HYI.out.1 (rowi_zero YR_14.out) HYI.out.2.1 HYI.out.2.2 hb14).mono ?_
          rintro e x15 ⟨rfl, hb⟩
          have hb15 : Below W.heap.size W x15 := hb14.trans (hb.mono hb14.size)
          have XR_15 : Hid (RowI x15 W.heap.size (.slice (some ⟨gx, 0, none⟩) (nx + 1) cx) (a ++ [7777])) := rowi_below XR_14.out hb
          have XS_15 : Hid (Si x15 (.slice (some ⟨gx, 0, none⟩) nx cx) a) := XS_14.out.below hb
          have YR_15 : Hid (RowI x15 w1.heap.size (.slice (some ⟨gy, 0, none⟩) (ny + 1) cy) (b ++ [7777])) := rowi_below YR_14.out hb
          have YS_15 : Hid (Si x15 (.slice (some ⟨gy, 0, none⟩) ny cy) b) := YS_14.out.below hb
          clear hb hb14 XR_14 XS_14 YR_14 YS_14
          go_wp2_with fail
          refine (k32 x15 hb15).mono ?_
          rintro e x16 ⟨rfl, hb⟩
          have hb16 : Below W.heap.size W x16 := hb15.trans (hb.mono hb15.size)
          have XR_16 : Hid (RowI x16 W.heap.size (.slice (some ⟨gx, 0, none⟩) (nx + 1) cx) (a ++ [7777])) := rowi_below XR_15.out hb
          have XS_16 : Hid (Si x16 (.slice (some ⟨gx, 0, none⟩) nx cx) a) := XS_15.out.below hb
          have YR_16 : Hid (RowI x16 w1.heap.size (.slice (some ⟨gy, 0, none⟩) (ny + 1) cy) (b ++ [7777])) := rowi_below YR_15.out hb
          have YS_16 : Hid (Si x16 (.slice (some ⟨gy, 0, none⟩) ny cy) b) := YS_15.out.below hb
          clear hb hb15 XR_15 XS_15 YR_15 YS_15
          go_wp2
          go_ret
          exact ⟨rfl, hb16⟩
end Go.Proofs.YthpbgplbgnefcaaGreatDoor
