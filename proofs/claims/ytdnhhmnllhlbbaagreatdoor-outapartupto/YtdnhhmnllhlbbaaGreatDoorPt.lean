/-
  What is proved here: Blocks of values that are not the same are not the same: the walk of OutApart.
-/
import Derived.Test.YtdnhhmnllhlbbaaGreatDoorPq
import Derived.Test.YtdnhhmnllhlbbaaGreatDoorPr
import Derived.Test.YtdnhhmnllhlbbaaGreatDoorOw
namespace Go.Proofs.YtdnhhmnllhlbbaaGreatDoor
open Go.RowKit Go.Shelf
set_option linter.unusedVariables false
set_option linter.unusedSimpArgs false
theorem lim_ous {l : List Ou} {vals : List Vl} {xs : List (List Vl)} (h : ousV l vals = some xs) (hn : l.length ≤ 1000000000) (hz : ∀ o ∈ l, OuZ o) : Lim xs := by
  have hl := ousV_len h
  refine ⟨by omega, fun x hx => ?_⟩
  obtain ⟨i, hi⟩ := List.getElem?_of_mem hx
  obtain ⟨o, ho⟩ : ∃ o, l[i]? = some o := ⟨_, List.getElem?_eq_getElem (by rw [← hl]; exact (List.getElem?_eq_some_iff.1 hi).1)⟩
  obtain ⟨y, hy, hov⟩ := ousV_get h ho
  rw [hi] at hy
  injection hy with hy
  subst hy
  obtain ⟨f1, f2⟩ := ouV_facts hov
  have := (hz o (List.mem_of_getElem? ho)).l
  refine ⟨by omega, fun v hv => ?_⟩
  rcases isVal_more (f2 v hv) with ⟨_, _, _, h⟩ | ⟨_, _, h, _⟩ | ⟨_, _, h, _⟩
  · have := (setOk_facts h).1; omega
  · rw [h]; simp
  · rw [h]; simp
/-- What is known of outputs that came in. -/
structure OuIn (W : World) (os : Value) (l : List Ou) : Prop where
  so : Sou W os l
  n : l.length ≤ 1048576
  z : ∀ o ∈ l, OuZ o
  nm : ∀ o ∈ l, o.nm.length ≤ 1048576
theorem OuIn.below {W w : World} {os : Value} {l : List Ou} (h : OuIn W os l) (hb : Below W.heap.size W w) : OuIn w os l := ⟨h.so.below hb, h.n, h.z, h.nm⟩
/-- What is known of values that came in. -/
structure VlIn (W : World) (vs : Value) (l : List Vl) : Prop where
  sv : Sv W vs l
  n : l.length ≤ 1048576
  z : ∀ v ∈ l, v.s.length ≤ 1048576
theorem VlIn.below {W w : World} {os : Value} {l : List Vl} (h : VlIn W os l) (hb : Below W.heap.size W w) : VlIn w os l := ⟨h.sv.below hb, h.n, h.z⟩
theorem blockI {W : World} {s vs : Value} {l : List Ou} {vals : List Vl} (h : OuIn W s l) (hv : VlIn W vs vals) (hT : Tens W) :
    Calls Tryz.prog 8 #[s, vs] W fun e w' => BlkE l vals e ∧ Below W.heap.size W w' :=
  block8 h.so (by have := h.n; omega) h.z (fun o ho => by have := h.nm o ho; omega) hv.sv (fun v q => by have := hv.z v q; omega) (by have := hv.n; omega) hT
theorem valuesI {W : World} {s vs : Value} {l : List Ou} {vals : List Vl} (h : OuIn W s l) (hv : VlIn W vs vals) :
    Calls Tryz.prog 10 #[s, vs] W fun e w' => ValE l vals W.heap.size e w' ∧ Below W.heap.size W w' :=
  values10 h.so (by have := h.n; omega) h.z hv.sv (fun v q => by have := hv.z v q; omega) (by have := hv.n; omega)
theorem valuesO {W : World} {s vs : Value} {l : List Ou} {vals : List Vl} {xs : List (List Vl)} (h : OuIn W s l) (hv : VlIn W vs vals) (hr : RightN l = 0) (hx : ousV l vals = some xs) :
    Calls Tryz.prog 10 #[s, vs] W fun e w' => ∃ sv, e = .returned (.tuple #[sv, .int .i64 0]) ∧ SvvX (fun b => b < W.heap.size) w' sv xs ∧ Below W.heap.size W w' := by
  refine (valuesI h hv).mono ?_
  rintro e w' ⟨⟨sv, er, rfl, hE⟩, hb⟩
  rcases hE with ⟨q, _⟩ | ⟨_, q, _⟩ | ⟨_, ys, q, rfl, hs⟩
  · exact absurd hr q
  · rw [hx] at q; cases q
  · rw [hx] at q
    injection q with q
    subst q
    exact ⟨sv, rfl, hs, hb⟩
theorem slice_of {W : World} {s : Value} {l : List Ou} (h : OuIn W s l) : ∃ a n c, s = .slice a n c := by obtain ⟨a, c, e, _⟩ := h.so; exact ⟨_, _, _, e⟩
theorem slice_ofv {W : World} {s : Value} {l : List Vl} (h : VlIn W s l) : ∃ a n c, s = .slice a n c := by obtain ⟨a, c, e, _⟩ := h.sv; exact ⟨_, _, _, e⟩
theorem svv_shape {X : Nat → Prop} {w : World} {s : Value} {l : List (List Vl)} (h : SvvX X w s l) : ∃ a n c, s = .slice a n c := by obtain ⟨a, c, e, _⟩ := h; exact ⟨_, _, _, e⟩
set_option maxRecDepth 100000 in
set_option maxHeartbeats 4000000 in
theorem apart_walk {W : World} {os vs us : Value} {l : List Ou} {v u : List Vl} (ho : OuIn W os l) (hv : VlIn W vs v) (hu : VlIn W us u) (hT : Tens W) (hM : MaxL W) :
    Calls Tryz.prog 5 #[os, vs, us] W fun e w' => e = .returned (.bool true) ∧ Below W.heap.size W w' := by
  obtain ⟨oa, on, oc, rfl⟩ := slice_of ho
  obtain ⟨va, vn, vc, rfl⟩ := slice_ofv hv
  obtain ⟨ua, un, uc, rfl⟩ := slice_ofv hu
  have HO : Hid (OuIn W (.slice oa on oc) l ∧ VlIn W (.slice va vn vc) v ∧ VlIn W (.slice ua un uc) u ∧ Tens W ∧ MaxL W) := ⟨ho, hv, hu, hT, hM⟩
  have HK : Hid (∀ X, Below W.heap.size W X → Calls Tryz.prog 20 #[] X fun e w' => e = .returned (.bool true) ∧ Below X.heap.size X w') := fun X hX => known20 (hT.self hX) (hM.self hX)
  clear ho hv hu hT hM
  go_enter Tryz.func5, Tryz.ntmps5
  go_wp2_with fail
  refine (blockI HO.out.1 HO.out.2.1 HO.out.2.2.2.1).mono ?_
  rintro e w1 ⟨⟨T1, er1, rfl, hE1⟩, hb1⟩
  have HB1 : Hid (Below W.heap.size W w1) := hb1
  have HE1 : Hid _ := hE1
  clear hE1 hb1
  go_wp2_with fail
  refine (blockI (HO.out.1.below HB1.out) (HO.out.2.2.1.below HB1.out) (HO.out.2.2.2.1.self HB1.out)).mono ?_
  rintro e w2 ⟨⟨T2, er2, rfl, hE2⟩, hb2⟩
  have HB2 : Hid (Below W.heap.size W w2) := HB1.out.trans (hb2.mono HB1.out.size)
  have HE2 : Hid _ := hE2
  clear hE2 hb2 HB1
  have kk := HK.out w2 HB2.out
  by_cases h1 : er1 = 0
  rotate_left 1
  · have q1 : (er1 == 0) = false := by simpa using h1
    have q2 : (er1 != 0) = true := by simpa using h1
    go_wp2_with fail
    refine kk.mono ?_
    rintro e w3 ⟨rfl, hb3⟩
    have HB3 : Hid (Below W.heap.size W w3) := HB2.out.trans (hb3.mono HB2.out.size)
    clear kk hb3
    go_wp2
    go_ret
    exact ⟨rfl, HB3.out⟩
  subst h1
  by_cases h2 : er2 = 0
  rotate_left 1
  · have q1 : (er2 == 0) = false := by simpa using h2
    have q2 : (er2 != 0) = true := by simpa using h2
    go_wp2_with fail
    refine kk.mono ?_
    rintro e w3 ⟨rfl, hb3⟩
    have HB3 : Hid (Below W.heap.size W w3) := HB2.out.trans (hb3.mono HB2.out.size)
    clear kk hb3
    go_wp2
    go_ret
    exact ⟨rfl, HB3.out⟩
  subst h2
  clear kk
  obtain ⟨hr, xs, hxs, hT1⟩ : RightN l = 0 ∧ ∃ xs, ousV l v = some xs ∧ T1 = blockT l xs := by
    rcases HE1.out with ⟨a, b, _⟩ | ⟨_, _, b, _⟩ | ⟨a, xs, b, _, c⟩
    · exact absurd b.symm a
    · cases b
    · exact ⟨a, xs, b, c⟩
  obtain ⟨ys, hys, hT2⟩ : ∃ xs, ousV l u = some xs ∧ T2 = blockT l xs := by
    rcases HE2.out with ⟨a, b, _⟩ | ⟨_, _, b, _⟩ | ⟨a, xs, b, _, c⟩
    · exact absurd b.symm a
    · cases b
    · exact ⟨xs, b, c⟩
  have HR : Hid (RightN l = 0 ∧ ousV l v = some xs ∧ ousV l u = some ys) := ⟨hr, hxs, hys⟩
  obtain ⟨b, hb⟩ : ∃ b, decide (xs = ys) = b := ⟨_, rfl⟩
  have hq : ((bs T1).toList == (bs T2).toList) = b := by
    rw [bs_toList, bs_toList, ← hb, hT1, hT2]
    by_cases q : xs = ys
    · rw [q]; simp
    · have : ¬ blockT l xs = blockT l ys := fun e => q ((block_inj hxs hys).1 e)
      simp [q, this]
  have HBB : Hid (decide (xs = ys) = b) := hb
  obtain ⟨S1, hS1⟩ : ∃ S, bs T1 = S := ⟨_, rfl⟩
  obtain ⟨S2, hS2⟩ : ∃ S, bs T2 = S := ⟨_, rfl⟩
  rw [hS1, hS2] at hq
  rw [hS1, hS2]
  clear hr hxs hT1 hys hT2 hb hS1 hS2 HE1 HE2
  go_wp2_with fail
  refine (valuesO (HO.out.1.below HB2.out) (HO.out.2.1.below HB2.out) HR.out.1 HR.out.2.1).mono ?_
  rintro e w3 ⟨s3, rfl, hs3, hb3⟩
  have HB3 : Hid (Below W.heap.size W w3) := HB2.out.trans (hb3.mono HB2.out.size)
  obtain ⟨xa, xn, xc, rfl⟩ := svv_shape hs3
  have HS3 : Hid (SvvX (fun b => b < w2.heap.size) w3 (.slice xa xn xc) xs) := hs3
  clear hs3 hb3
  go_wp2_with fail
  refine (valuesO (HO.out.1.below HB3.out) (HO.out.2.2.1.below HB3.out) HR.out.1 HR.out.2.2).mono ?_
  rintro e w4 ⟨s4, rfl, hs4, hb4⟩
  have HB4 : Hid (Below W.heap.size W w4) := HB3.out.trans (hb4.mono HB3.out.size)
  obtain ⟨ya, yn, yc, rfl⟩ := svv_shape hs4
  have HS4 : Hid (SvvX (fun b => b < w3.heap.size) w4 (.slice ya yn yc) ys) := hs4
  have HS34 : Hid (SvvX (fun b => b < w2.heap.size) w4 (.slice xa xn xc) xs) := HS3.out.below hb4
  have ks := same12 HS34.out HS4.out (lim_ous HR.out.2.1 (by have := HO.out.1.n; omega) HO.out.1.z) (lim_ous HR.out.2.2 (by have := HO.out.1.n; omega) HO.out.1.z)
  rw [HBB.out] at ks
  clear hs4 hb4 HS3 HS4 HS34 HBB
  go_wp2_with fail
  refine ks.mono ?_
  rintro e w5 ⟨rfl, hb5⟩
  have HB5 : Hid (Below W.heap.size W w5) := HB4.out.trans (hb5.mono HB4.out.size)
  have kk := HK.out w5 HB5.out
  clear ks hb5
  cases b <;>
  · go_wp2_with fail
    refine kk.mono ?_
    rintro e w6 ⟨rfl, hb6⟩
    have HB6 : Hid (Below W.heap.size W w6) := HB5.out.trans (hb6.mono HB5.out.size)
    clear kk hb6
    go_wp2
    go_ret
    exact ⟨rfl, HB6.out⟩
end Go.Proofs.YtdnhhmnllhlbbaaGreatDoor
