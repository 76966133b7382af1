/-
  What is proved here: What is written is read as it was: the walk of OutBack.
-/
import Derived.Test.YtdnhhmnllhlbbaaGreatDoorPtj
namespace Go.Proofs.YtdnhhmnllhlbbaaGreatDoor
open Go.RowKit Go.Shelf
set_option linter.unusedVariables false
set_option linter.unusedSimpArgs false
theorem gw_one {w : World} {F : Nat} {sx : Value} {x : List (List Vl)} (h : SvvX (fun b => b < F) w sx x) : Gw 0 (w.alloc (Obj.cells #[sx] 28)) (.slice (some ⟨w.heap.size, 0, none⟩) 1 1) [x] := by
  refine ⟨⟨[sx], rfl, ⟨by simp, ?_⟩, fun j y sj hj hs => ?_⟩, fun g e => Nat.zero_le _⟩
  · exact World.ownsRow_lit w #[sx] 1 (Nat.zero_le _) (by unfold maxLen; omega) rfl
  · match j, hj, hs with
    | 0, hj, hs =>
      injection hj with hj
      injection hs with hs
      subst hj hs
      exact h.move (by simp) (fun b hb _ => ((Below.refl w.heap.size w).alloc (Nat.le_refl _) _).block b hb) (fun b hb q => by
        rcases q with q | q
        · omega
        · injection q with q
          have q : w.heap.size = b := q
          omega)
theorem stat_1 : (statT 1 0 0 0).length = 11 := rfl
theorem stat_3 : (statT 3 0 0 0).length = 18 := rfl
theorem str_ok {l : List Ou} {xss : List (List (List Vl))} {h : Int} {W w : World} {e : Ending} (hs : saB (howN h) = false) (hh : howN h = h) (hE : StrE l xss h 0 0 0 [] W e w) : ∃ a n c, e = .returned (.tuple #[.slice a n c, .int .i64 h, .int .i64 0, .int .i64 0]) ∧ Sv3 (fun b => b < W.heap.size) w (.slice a n c) xss ∧ Below W.heap.size W w := by
  obtain ⟨hE, hb⟩ := hE
  rcases hE with ⟨q, _⟩ | ⟨_, q, _⟩ | ⟨_, _, sv, q, hsv⟩
  · rw [hs] at q; cases q.2
  · exact absurd rfl q
  · obtain ⟨a, n, c, rfl⟩ := sv3_shape hsv
    exact ⟨a, n, c, by rw [q, hh], hsv, hb⟩

set_option maxRecDepth 100000 in
set_option maxHeartbeats 4000000 in
theorem back_walk {W : World} {os vs us : Value} {l : List Ou} {v u : List Vl} (how : Int) (ho : OuIn W os l) (hv : VlIn W vs v) (hu : VlIn W us u) (hT : Tens W) (hM : MaxL W) :
    Calls Tryz.prog 4 #[os, vs, us, .int .i64 how] W fun e w' => e = .returned (.bool true) ∧ Below W.heap.size W w' := by
  obtain ⟨oa, on, oc, rfl⟩ := slice_of ho
  obtain ⟨va, vn, vc, rfl⟩ := slice_ofv hv
  obtain ⟨ua, un, uc, rfl⟩ := slice_ofv hu
  have HO : Hid (OuIn W (.slice oa on oc) l ∧ VlIn W (.slice va vn vc) v ∧ VlIn W (.slice ua un uc) u ∧ Tens W ∧ MaxL W) := ⟨ho, hv, hu, hT, hM⟩
  have HK : Hid (∀ X, Below W.heap.size W X → Calls Tryz.prog 20 #[] X fun e w' => e = .returned (.bool true) ∧ Below X.heap.size X w') := fun X hX => known20 (hT.self hX) (hM.self hX)
  clear ho hv hu hT hM
  go_enter Tryz.func4, Tryz.ntmps4
  go_wp2_with fail
  refine (blockI HO.out.1 HO.out.2.1 HO.out.2.2.2.1).mono ?_
  rintro e w1 ⟨⟨T1, er1, rfl, hE1⟩, hb1⟩
  have HB1 : Hid (Below W.heap.size W w1) := hb1
  have HE1 := hid hE1
  clear hE1 hb1
  by_cases h1 : er1 = 0
  rotate_left 1
  · have hT0 : T1 = [] := by
      rcases HE1.out with ⟨_, _, q⟩ | ⟨_, _, _, q⟩ | ⟨_, xs, _, q, _⟩
      · exact q
      · exact q
      · exact absurd q h1
    have q1 : (er1 == 0) = false := by simpa using h1
    have q2 : (er1 != 0) = true := by simpa using h1
    have hbs : bs T1 = ⟨#[]⟩ := by rw [hT0]; rfl
    have kk := HK.out w1 HB1.out
    rw [hbs]
    clear hT0 hbs h1
    go_wp2_with fail
    refine kk.mono ?_
    rintro e w3 ⟨rfl, hb3⟩
    have HB3 : Hid (Below W.heap.size W w3) := HB1.out.trans (hb3.mono HB1.out.size)
    clear kk hb3
    go_wp2
    go_ret
    exact ⟨rfl, HB3.out⟩
  subst h1
  obtain ⟨hr, xs, hxs, hT1⟩ : RightN l = 0 ∧ ∃ xs, ousV l v = some xs ∧ T1 = blockT l xs := by
    rcases HE1.out with ⟨a, b, _⟩ | ⟨_, _, b, _⟩ | ⟨a, xs, b, _, c⟩
    · exact absurd b.symm a
    · cases b
    · exact ⟨a, xs, b, c⟩
  subst hT1
  have HR : Hid (RightN l = 0 ∧ ousV l v = some xs) := ⟨hr, hxs⟩
  have HLX : Hid (Lim xs) := lim_ous hxs (by have := HO.out.1.n; omega) HO.out.1.z
  obtain ⟨ul, hul⟩ : ∃ q, (blockT l xs).length = q := ⟨_, rfl⟩
  have HUL : Hid ((blockT l xs).length = ul) := hul
  obtain ⟨U, hU⟩ : ∃ q, bs (blockT l xs) = q := ⟨_, rfl⟩
  have HUU : Hid (bs (blockT l xs) = U) := hU
  have huz : (U.size : Int) = ul := by rw [← hU, bs_size, hul]
  rw [hU]
  clear hr hxs hul hU HE1
  have kv := valuesO (HO.out.1.below HB1.out) (HO.out.2.1.below HB1.out) HR.out.1 HR.out.2
  go_wp2_with fail
  refine kv.mono ?_
  rintro e w2 ⟨s3, rfl, hs3, hb2⟩
  have HB2 : Hid (Below W.heap.size W w2) := HB1.out.trans (hb2.mono HB1.out.size)
  obtain ⟨xa, xn, xc, rfl⟩ := svv_shape hs3
  have HS2 : Hid (SvvX (fun b => b < w1.heap.size) w2 (.slice xa xn xc) xs) := hs3
  clear kv hs3 hb2 HB1
  by_cases h2 : 524188 < ul
  · have h2b : (524188 : Int) < (ul : Int) := by omega
    have kk := HK.out w2 HB2.out
    go_wp2_with fail
    refine kk.mono ?_
    rintro e w3 ⟨rfl, hb3⟩
    have HB3 : Hid (Below W.heap.size W w3) := HB2.out.trans (hb3.mono HB2.out.size)
    clear kk hb3
    go_wp2
    go_ret
    exact ⟨rfl, HB3.out⟩
  have h2b : ¬ (524188 : Int) < (ul : Int) := by omega
  have kr := read21 (HO.out.1.so.below HB2.out) HR.out.1 HO.out.1.z (fun o q => by have := HO.out.1.nm o q; omega) HR.out.2 (by have := HUL.out; omega) (HO.out.2.2.2.1.self HB2.out) (HO.out.2.2.2.2.self HB2.out)
  rw [HUU.out] at kr
  go_wp2_with fail
  refine kr.mono ?_
  rintro e w3 ⟨s4, rfl, hs4, hb3⟩
  have HB3 : Hid (Below W.heap.size W w3) := HB2.out.trans (hb3.mono HB2.out.size)
  obtain ⟨ya, yn, yc, rfl⟩ := svv_shape hs4
  have HS3 : Hid (SvvX (fun b => b < w1.heap.size) w3 (.slice xa xn xc) xs) := HS2.out.below hb3
  have ks := same12 HS3.out hs4 HLX.out HLX.out
  rw [decide_eq_true rfl] at ks
  clear kr hs4 hb3 HS2 HB2
  go_wp2_with fail
  refine ks.mono ?_
  rintro e w4 ⟨rfl, hb4⟩
  have HB4 : Hid (Below W.heap.size W w4) := HB3.out.trans (hb4.mono HB3.out.size)
  have HS4 : Hid (SvvX (fun b => b < w1.heap.size) w4 (.slice xa xn xc) xs) := HS3.out.below hb4
  clear ks hb4 HB3 HS3
  go_wp2_with fail
  refine (blockI (HO.out.1.below HB4.out) (HO.out.2.2.1.below HB4.out) (HO.out.2.2.2.1.self HB4.out)).mono ?_
  rintro e w5 ⟨⟨T2, er2, rfl, hE2⟩, hb5⟩
  have HB5 : Hid (Below W.heap.size W w5) := HB4.out.trans (hb5.mono HB4.out.size)
  have HS5 : Hid (SvvX (fun b => b < w1.heap.size) w5 (.slice xa xn xc) xs) := HS4.out.below hb5
  have HE2 := hid hE2
  have HSTR : Hid (∀ X xss (h : Int), Below W.heap.size W X → (∀ x ∈ xss, ∃ vals, ousV l vals = some x) → (blksT l xss ++ (statT h 0 0 0 ++ [])).length ≤ 1048576 → Calls Tryz.prog 22 #[.string (bs (blksT l xss ++ (statT h 0 0 0 ++ []))), .slice oa on oc] X fun e w' => StrE l xss h 0 0 0 [] X e w') := fun X xss h hX hx hl =>
    stream22 [] h 0 0 0 (HO.out.1.so.below hX) HR.out.1 HO.out.1.z (fun o q => by have := HO.out.1.nm o q; omega) hx (by decide) (by decide) (by decide) (by decide) (by decide) (by decide) hl (HO.out.2.2.2.1.self hX) (HO.out.2.2.2.2.self hX)
  have HST : Hid (∀ X (h : Int), Below W.heap.size W X → Calls Tryz.prog 15 #[.int .i64 h, .int .i64 0, .int .i64 0, .int .i64 0] X fun e w' => e = .returned (.string (bs (statT h 0 0 0))) ∧ Below X.heap.size X w') := fun X h hX => stat15 h 0 0 0 (by decide) (by decide) (by decide) (by decide) (by decide) (by decide) X (HO.out.2.2.2.1.self hX)
  clear hE2 hb5 HB4 HS4
  obtain ⟨V, hV⟩ : ∃ q, bs T2 = q := ⟨_, rfl⟩
  have HV : Hid (bs T2 = V) := hV
  rw [hV]
  clear hV
  by_cases hh : how = 1
  · subst hh
    go_upto_region 14 with (fail)
    obtain ⟨gw, hgw⟩ : ∃ q, w5.heap.size = q := ⟨_, rfl⟩
    have hg6 : Gw 0 (w5.alloc (Obj.cells #[.slice xa xn xc] 28)) (.slice (some ⟨w5.heap.size, 0, none⟩) 1 1) [xs] := gw_one HS5.out
    have hb6 : Below w5.heap.size w5 (w5.alloc (Obj.cells #[.slice xa xn xc] 28)) := (Below.refl _ _).alloc (Nat.le_refl _) _
    obtain ⟨w6, hw6⟩ : ∃ q, w5.alloc (Obj.cells #[.slice xa xn xc] 28) = q := ⟨_, rfl⟩
    rw [hw6, hgw] at hg6
    rw [hw6] at hb6
    rw [hw6, hgw]
    have HG6 := hid hg6
    have HB6 : Hid (Below W.heap.size W w6) := HB5.out.trans (hb6.mono HB5.out.size)
    have HGW : Hid (W.heap.size ≤ gw) := by rw [← hgw]; exact HB5.out.size
    clear hg6 hb6 hw6 hgw HS5 HB5
    by_cases h3 : er2 = 0
    rotate_left 1
    · have q1 : (er2 == 0) = false := by simpa using h3
      clear h3
      have HWN : Hid (Sv3 (fun _ => False) w6 (.slice (some ⟨gw, 0, none⟩) 1 1) [xs]) := HG6.out.done.mono (fun b q => q.elim)
      have HLL : Hid (∀ x ∈ [xs], Lim x) := fun x hx => by rw [List.mem_singleton.1 hx]; exact HLX.out
      clear HG6
      obtain ⟨S, hS⟩ : ∃ q, bs (statT 1 0 0 0) = q := ⟨_, rfl⟩
      have hsz : S.size = 11 := by rw [← hS]; rfl
      have HAP : Hid (U ++ S = bs (blockT l xs ++ statT 1 0 0 0)) := by unfold Hid; rw [← HUU.out, ← hS, bs_app]
      have ks := fun X hX => HSTR.out X [xs] 1 hX (fun x hx => by rw [List.mem_singleton.1 hx]; exact ⟨v, HR.out.2⟩) (by rw [blks_one, List.length_append, stat_1]; have := HUL.out; omega)
      simp only [blks_one] at ks
      rw [← HAP.out] at ks
      have hadd2 : U.size + S.size ≤ 9223372036854775807 := by omega
      have KS := hid ks
      have kst := HST.out w6 1 HB6.out
      rw [hS] at kst
      clear ks hS
      go_wp2_with fail
      refine kst.mono ?_
      rintro e w8 ⟨rfl, hb8⟩
      have HB8 : Hid (Below W.heap.size W w8) := HB6.out.trans (hb8.mono HB6.out.size)
      have HW8 : Hid (Sv3 (fun _ => False) w8 (.slice (some ⟨gw, 0, none⟩) 1 1) [xs]) := HWN.out.below hb8
      have ks := KS.out w8 HB8.out
      clear kst hb8 HWN
      go_wp2_with fail
      refine ks.mono ?_
      rintro e w9 hE
      obtain ⟨ra, rn, rc, rfl, hsr, hb9⟩ := str_ok (by decide) (by decide) hE
      have HB9 : Hid (Below W.heap.size W w9) := HB8.out.trans (hb9.mono HB8.out.size)
      have ksm := sameAll23 hsr (HW8.out.below hb9) (by simp) (by simp) HLL.out HLL.out
      rw [decide_eq_true rfl] at ksm
      clear ks hE hsr hb9 HW8 hadd2
      go_wp2_with fail
      refine ksm.mono ?_
      rintro e w10 ⟨rfl, hb10⟩
      have HB10 : Hid (Below W.heap.size W w10) := HB9.out.trans (hb10.mono HB9.out.size)
      have kk := HK.out w10 HB10.out
      clear ksm hb10
      go_wp2_with fail
      refine kk.mono ?_
      rintro e w11 ⟨rfl, hb11⟩
      have HB11 : Hid (Below W.heap.size W w11) := HB10.out.trans (hb11.mono HB10.out.size)
      clear kk hb11
      go_wp2
      go_ret
      exact ⟨rfl, HB11.out⟩
    subst h3
    obtain ⟨ys, hys, hT2⟩ : ∃ xs, ousV l u = some xs ∧ T2 = blockT l xs := by
      rcases HE2.out with ⟨p, q, _⟩ | ⟨_, _, q, _⟩ | ⟨_, xs, q, _, r⟩
      · exact absurd q.symm p
      · cases q
      · exact ⟨xs, q, r⟩
    have HYS : Hid (ousV l u = some ys) := hys
    have HVV : Hid (bs (blockT l ys) = V) := by rw [← hT2]; exact HV.out
    obtain ⟨vl, hvl⟩ : ∃ q, (blockT l ys).length = q := ⟨_, rfl⟩
    have HVL : Hid ((blockT l ys).length = vl) := hvl
    have hvz : (V.size : Int) = vl := by rw [← HVV.out, bs_size, hvl]
    clear hys hT2 hvl HE2
    by_cases h4 : vl < 458752
    rotate_left 1
    · have h4b : ¬ (vl : Int) < 458752 := by omega
      have HWN : Hid (Sv3 (fun _ => False) w6 (.slice (some ⟨gw, 0, none⟩) 1 1) [xs]) := HG6.out.done.mono (fun b q => q.elim)
      have HLL : Hid (∀ x ∈ [xs], Lim x) := fun x hx => by rw [List.mem_singleton.1 hx]; exact HLX.out
      clear HG6
      obtain ⟨S, hS⟩ : ∃ q, bs (statT 1 0 0 0) = q := ⟨_, rfl⟩
      have hsz : S.size = 11 := by rw [← hS]; rfl
      have HAP : Hid (U ++ S = bs (blockT l xs ++ statT 1 0 0 0)) := by unfold Hid; rw [← HUU.out, ← hS, bs_app]
      have ks := fun X hX => HSTR.out X [xs] 1 hX (fun x hx => by rw [List.mem_singleton.1 hx]; exact ⟨v, HR.out.2⟩) (by rw [blks_one, List.length_append, stat_1]; have := HUL.out; omega)
      simp only [blks_one] at ks
      rw [← HAP.out] at ks
      have hadd2 : U.size + S.size ≤ 9223372036854775807 := by omega
      have KS := hid ks
      have kst := HST.out w6 1 HB6.out
      rw [hS] at kst
      clear ks hS
      go_wp2_with fail
      refine kst.mono ?_
      rintro e w8 ⟨rfl, hb8⟩
      have HB8 : Hid (Below W.heap.size W w8) := HB6.out.trans (hb8.mono HB6.out.size)
      have HW8 : Hid (Sv3 (fun _ => False) w8 (.slice (some ⟨gw, 0, none⟩) 1 1) [xs]) := HWN.out.below hb8
      have ks := KS.out w8 HB8.out
      clear kst hb8 HWN
      go_wp2_with fail
      refine ks.mono ?_
      rintro e w9 hE
      obtain ⟨ra, rn, rc, rfl, hsr, hb9⟩ := str_ok (by decide) (by decide) hE
      have HB9 : Hid (Below W.heap.size W w9) := HB8.out.trans (hb9.mono HB8.out.size)
      have ksm := sameAll23 hsr (HW8.out.below hb9) (by simp) (by simp) HLL.out HLL.out
      rw [decide_eq_true rfl] at ksm
      clear ks hE hsr hb9 HW8 hadd2
      go_wp2_with fail
      refine ksm.mono ?_
      rintro e w10 ⟨rfl, hb10⟩
      have HB10 : Hid (Below W.heap.size W w10) := HB9.out.trans (hb10.mono HB9.out.size)
      have kk := HK.out w10 HB10.out
      clear ksm hb10
      go_wp2_with fail
      refine kk.mono ?_
      rintro e w11 ⟨rfl, hb11⟩
      have HB11 : Hid (Below W.heap.size W w11) := HB10.out.trans (hb11.mono HB10.out.size)
      clear kk hb11
      go_wp2
      go_ret
      exact ⟨rfl, HB11.out⟩
    have h4b : (vl : Int) < 458752 := by omega
    have kv := valuesO (HO.out.1.below HB6.out) (HO.out.2.2.1.below HB6.out) HR.out.1 HYS.out
    go_wp2_with fail
    refine kv.mono ?_
    rintro e w7 ⟨s7, rfl, hs7, hb7⟩
    have HB7 : Hid (Below W.heap.size W w7) := HB6.out.trans (hb7.mono HB6.out.size)
    obtain ⟨za, zn, zc, rfl⟩ := svv_shape hs7
    have HS7 : Hid (SvvX (fun b => b < w6.heap.size) w7 (.slice za zn zc) ys) := hs7
    have HG7 : Hid (Gw 0 w7 (.slice (some ⟨gw, 0, none⟩) 1 1) [xs]) := HG6.out.kept (Kept.of_below hb7)
    have HOB : Hid (∀ b, (Value.slice (some ⟨gw, 0, none⟩) 1 1).ownBlock = some b → b = gw ∧ b < w6.heap.size) := fun b e => ⟨by injection e with e; exact e.symm, by obtain ⟨ss, _, h9, _⟩ := HG6.out.o; exact h9.lt e⟩
    clear kv hs7 hb7 HB6 HG6
    have hb8 : Below w7.heap.size w7 (w7.alloc (Obj.cells #[.slice za zn zc] 28)) := (Below.refl _ _).alloc (Nat.le_refl _) _
    have HRW : Hid (Blk (w7.alloc (Obj.cells #[.slice za zn zc] 28)) w7.heap.size #[.slice za zn zc] 28) := Blk.new _ _ _
    have HG8 : Hid (Gw 0 (w7.alloc (Obj.cells #[.slice za zn zc] 28)) (.slice (some ⟨gw, 0, none⟩) 1 1) [xs]) := HG7.out.kept (Kept.of_below hb8)
    have HB8 : Hid (Below W.heap.size W (w7.alloc (Obj.cells #[.slice za zn zc] 28))) := HB7.out.trans (hb8.mono HB7.out.size)
    have HS8 : Hid (SvvX (fun b => b < w6.heap.size) (w7.alloc (Obj.cells #[.slice za zn zc] 28)) (.slice za zn zc) ys) := HS7.out.below hb8
    obtain ⟨ss, hs1, hs2, hs3⟩ := HG8.out.o
    have HS2 : Hid (Ow (w7.alloc (Obj.cells #[.slice za zn zc] 28)) 28 (.slice (some ⟨gw, 0, none⟩) 1 1) 1 (ss.map fun x => [x])) := hs2
    have HS13 : Hid (ss.length = [xs].length ∧ ∀ (j : Nat) (x : List (List Vl)) (sj : Value), [xs][j]? = some x → ss[j]? = some sj → SvvX (fun b => b < 0 ∨ (Value.slice (some ⟨gw, 0, none⟩) 1 1).ownBlock = some b) (w7.alloc (Obj.cells #[.slice za zn zc] 28)) sj x) := ⟨hs1, hs3⟩
    have hsl : (ss.map fun x => [x]).length ≤ 100000000 := by rw [List.length_map, hs1]; simp
    have hadd1 : U.size + V.size ≤ 9223372036854775807 := by omega
    clear hb8 hs1 hs2 hs3 HG7 HB7 HS7
    go_wp2_with (at_builtin; refine list_app HS2.out 43 Tryz.underlying43 Tryz.info28 rfl (by decide) rfl (.tmp 93) (.tmp 95) rfl rfl ⟨w7.heap.size, 0, none⟩ 1 rfl [.slice za zn zc] rfl (fun j u hu => by rw [Addr.add_lit, Nat.zero_add, HRW.out.cell j]; simpa using hu) (by intro u hu; rw [List.mem_singleton.1 hu]; rfl) hsl (by decide) ?_; intro d1 w9 hr1 hg1 hn1; refine Hid.out ?_)
    refine (show Hid _ from ?_)
    unfold Hid
    have HG9 : Gw 0 w9 d1 ([xs] ++ [ys]) := HG8.out.snoc (Nat.zero_le _) HS13.out.1 HS13.out.2 (HS8.out.mono (fun b q => by
      rcases q with q | q
      · omega
      · exact (HOB.out b q).2)) hr1 hg1 hn1
    have HB9 : Hid (Below W.heap.size W w9) := HB8.out.grown hg1 HB8.out.size (fun b e => by rw [(HOB.out b e).1]; exact HGW.out)
    obtain ⟨wa, wn, wc, rfl⟩ : ∃ a n c, d1 = .slice a n c := by obtain ⟨a9, c9, e9, _⟩ := hr1.shape; exact ⟨_, _, _, e9⟩
    have HWN : Hid (Sv3 (fun _ => False) w9 (.slice wa wn wc) [xs, ys]) := HG9.done.mono (fun b q => q.elim)
    have HLL : Hid (∀ x ∈ [xs, ys], Lim x) := fun x hx => by
      rcases List.mem_cons.1 hx with rfl | hx
      · exact HLX.out
      · rw [List.mem_singleton.1 hx]; exact lim_ous HYS.out (by have := HO.out.1.n; omega) HO.out.1.z
    clear hr1 hg1 hn1 hsl HS13 HS2 HG8 HB8 HS8 HRW HOB HGW HG9 hadd1
    obtain ⟨S, hS⟩ : ∃ q, bs (statT 1 0 0 0) = q := ⟨_, rfl⟩
    have hsz : S.size = 11 := by rw [← hS]; rfl
    have HAP : Hid (U ++ V ++ S = bs (blockT l xs ++ blockT l ys ++ statT 1 0 0 0)) := by unfold Hid; rw [← HUU.out, ← HVV.out, ← hS, bs_app, bs_app]
    have ks := fun X hX => HSTR.out X [xs, ys] 1 hX (fun x hx => by rcases List.mem_cons.1 hx with rfl | hx; exact ⟨v, HR.out.2⟩; rw [List.mem_singleton.1 hx]; exact ⟨u, HYS.out⟩) (by rw [blks_two, List.length_append, List.length_append, stat_1]; have := HUL.out; have := HVL.out; omega)
    simp only [blks_two] at ks
    rw [← HAP.out] at ks
    have hadd2 : U.size + V.size + S.size ≤ 9223372036854775807 := by omega
    have KS := hid ks
    have kst := HST.out w9 1 HB9.out
    rw [hS] at kst
    clear ks hS
    go_wp2_with fail
    refine kst.mono ?_
    rintro e w8 ⟨rfl, hb8⟩
    have HB8 : Hid (Below W.heap.size W w8) := HB9.out.trans (hb8.mono HB9.out.size)
    have HW8 : Hid (Sv3 (fun _ => False) w8 (.slice wa wn wc) [xs, ys]) := HWN.out.below hb8
    have ks := KS.out w8 HB8.out
    clear kst hb8 HWN
    go_wp2_with fail
    refine ks.mono ?_
    rintro e w9 hE
    obtain ⟨ra, rn, rc, rfl, hsr, hb9⟩ := str_ok (by decide) (by decide) hE
    have HB9 : Hid (Below W.heap.size W w9) := HB8.out.trans (hb9.mono HB8.out.size)
    have ksm := sameAll23 hsr (HW8.out.below hb9) (by simp) (by simp) HLL.out HLL.out
    rw [decide_eq_true rfl] at ksm
    clear ks hE hsr hb9 HW8 hadd2
    go_wp2_with fail
    refine ksm.mono ?_
    rintro e w10 ⟨rfl, hb10⟩
    have HB10 : Hid (Below W.heap.size W w10) := HB9.out.trans (hb10.mono HB9.out.size)
    have kk := HK.out w10 HB10.out
    clear ksm hb10
    go_wp2_with fail
    refine kk.mono ?_
    rintro e w11 ⟨rfl, hb11⟩
    have HB11 : Hid (Below W.heap.size W w11) := HB10.out.trans (hb11.mono HB10.out.size)
    clear kk hb11
    go_wp2
    go_ret
    exact ⟨rfl, HB11.out⟩
  · have q1 : (how == 1) = false := by simpa using hh
    have q2 : (how != 1) = true := by simpa using hh
    clear hh
    go_upto_region 14 with (fail)
    obtain ⟨gw, hgw⟩ : ∃ q, w5.heap.size = q := ⟨_, rfl⟩
    have hg6 : Gw 0 (w5.alloc (Obj.cells #[.slice xa xn xc] 28)) (.slice (some ⟨w5.heap.size, 0, none⟩) 1 1) [xs] := gw_one HS5.out
    have hb6 : Below w5.heap.size w5 (w5.alloc (Obj.cells #[.slice xa xn xc] 28)) := (Below.refl _ _).alloc (Nat.le_refl _) _
    obtain ⟨w6, hw6⟩ : ∃ q, w5.alloc (Obj.cells #[.slice xa xn xc] 28) = q := ⟨_, rfl⟩
    rw [hw6, hgw] at hg6
    rw [hw6] at hb6
    rw [hw6, hgw]
    have HG6 := hid hg6
    have HB6 : Hid (Below W.heap.size W w6) := HB5.out.trans (hb6.mono HB5.out.size)
    have HGW : Hid (W.heap.size ≤ gw) := by rw [← hgw]; exact HB5.out.size
    clear hg6 hb6 hw6 hgw HS5 HB5
    by_cases h3 : er2 = 0
    rotate_left 1
    · have q1 : (er2 == 0) = false := by simpa using h3
      clear h3
      have HWN : Hid (Sv3 (fun _ => False) w6 (.slice (some ⟨gw, 0, none⟩) 1 1) [xs]) := HG6.out.done.mono (fun b q => q.elim)
      have HLL : Hid (∀ x ∈ [xs], Lim x) := fun x hx => by rw [List.mem_singleton.1 hx]; exact HLX.out
      clear HG6
      obtain ⟨S, hS⟩ : ∃ q, bs (statT 3 0 0 0) = q := ⟨_, rfl⟩
      have hsz : S.size = 18 := by rw [← hS]; rfl
      have HAP : Hid (U ++ S = bs (blockT l xs ++ statT 3 0 0 0)) := by unfold Hid; rw [← HUU.out, ← hS, bs_app]
      have ks := fun X hX => HSTR.out X [xs] 3 hX (fun x hx => by rw [List.mem_singleton.1 hx]; exact ⟨v, HR.out.2⟩) (by rw [blks_one, List.length_append, stat_3]; have := HUL.out; omega)
      simp only [blks_one] at ks
      rw [← HAP.out] at ks
      have hadd2 : U.size + S.size ≤ 9223372036854775807 := by omega
      have KS := hid ks
      have kst := HST.out w6 3 HB6.out
      rw [hS] at kst
      clear ks hS
      go_wp2_with fail
      refine kst.mono ?_
      rintro e w8 ⟨rfl, hb8⟩
      have HB8 : Hid (Below W.heap.size W w8) := HB6.out.trans (hb8.mono HB6.out.size)
      have HW8 : Hid (Sv3 (fun _ => False) w8 (.slice (some ⟨gw, 0, none⟩) 1 1) [xs]) := HWN.out.below hb8
      have ks := KS.out w8 HB8.out
      clear kst hb8 HWN
      go_wp2_with fail
      refine ks.mono ?_
      rintro e w9 hE
      obtain ⟨ra, rn, rc, rfl, hsr, hb9⟩ := str_ok (by decide) (by decide) hE
      have HB9 : Hid (Below W.heap.size W w9) := HB8.out.trans (hb9.mono HB8.out.size)
      have ksm := sameAll23 hsr (HW8.out.below hb9) (by simp) (by simp) HLL.out HLL.out
      rw [decide_eq_true rfl] at ksm
      clear ks hE hsr hb9 HW8 hadd2
      go_wp2_with fail
      refine ksm.mono ?_
      rintro e w10 ⟨rfl, hb10⟩
      have HB10 : Hid (Below W.heap.size W w10) := HB9.out.trans (hb10.mono HB9.out.size)
      have kk := HK.out w10 HB10.out
      clear ksm hb10
      go_wp2_with fail
      refine kk.mono ?_
      rintro e w11 ⟨rfl, hb11⟩
      have HB11 : Hid (Below W.heap.size W w11) := HB10.out.trans (hb11.mono HB10.out.size)
      clear kk hb11
      go_wp2
      go_ret
      exact ⟨rfl, HB11.out⟩
    subst h3
    obtain ⟨ys, hys, hT2⟩ : ∃ xs, ousV l u = some xs ∧ T2 = blockT l xs := by
      rcases HE2.out with ⟨p, q, _⟩ | ⟨_, _, q, _⟩ | ⟨_, xs, q, _, r⟩
      · exact absurd q.symm p
      · cases q
      · exact ⟨xs, q, r⟩
    have HYS : Hid (ousV l u = some ys) := hys
    have HVV : Hid (bs (blockT l ys) = V) := by rw [← hT2]; exact HV.out
    obtain ⟨vl, hvl⟩ : ∃ q, (blockT l ys).length = q := ⟨_, rfl⟩
    have HVL : Hid ((blockT l ys).length = vl) := hvl
    have hvz : (V.size : Int) = vl := by rw [← HVV.out, bs_size, hvl]
    clear hys hT2 hvl HE2
    by_cases h4 : vl < 458752
    rotate_left 1
    · have h4b : ¬ (vl : Int) < 458752 := by omega
      have HWN : Hid (Sv3 (fun _ => False) w6 (.slice (some ⟨gw, 0, none⟩) 1 1) [xs]) := HG6.out.done.mono (fun b q => q.elim)
      have HLL : Hid (∀ x ∈ [xs], Lim x) := fun x hx => by rw [List.mem_singleton.1 hx]; exact HLX.out
      clear HG6
      obtain ⟨S, hS⟩ : ∃ q, bs (statT 3 0 0 0) = q := ⟨_, rfl⟩
      have hsz : S.size = 18 := by rw [← hS]; rfl
      have HAP : Hid (U ++ S = bs (blockT l xs ++ statT 3 0 0 0)) := by unfold Hid; rw [← HUU.out, ← hS, bs_app]
      have ks := fun X hX => HSTR.out X [xs] 3 hX (fun x hx => by rw [List.mem_singleton.1 hx]; exact ⟨v, HR.out.2⟩) (by rw [blks_one, List.length_append, stat_3]; have := HUL.out; omega)
      simp only [blks_one] at ks
      rw [← HAP.out] at ks
      have hadd2 : U.size + S.size ≤ 9223372036854775807 := by omega
      have KS := hid ks
      have kst := HST.out w6 3 HB6.out
      rw [hS] at kst
      clear ks hS
      go_wp2_with fail
      refine kst.mono ?_
      rintro e w8 ⟨rfl, hb8⟩
      have HB8 : Hid (Below W.heap.size W w8) := HB6.out.trans (hb8.mono HB6.out.size)
      have HW8 : Hid (Sv3 (fun _ => False) w8 (.slice (some ⟨gw, 0, none⟩) 1 1) [xs]) := HWN.out.below hb8
      have ks := KS.out w8 HB8.out
      clear kst hb8 HWN
      go_wp2_with fail
      refine ks.mono ?_
      rintro e w9 hE
      obtain ⟨ra, rn, rc, rfl, hsr, hb9⟩ := str_ok (by decide) (by decide) hE
      have HB9 : Hid (Below W.heap.size W w9) := HB8.out.trans (hb9.mono HB8.out.size)
      have ksm := sameAll23 hsr (HW8.out.below hb9) (by simp) (by simp) HLL.out HLL.out
      rw [decide_eq_true rfl] at ksm
      clear ks hE hsr hb9 HW8 hadd2
      go_wp2_with fail
      refine ksm.mono ?_
      rintro e w10 ⟨rfl, hb10⟩
      have HB10 : Hid (Below W.heap.size W w10) := HB9.out.trans (hb10.mono HB9.out.size)
      have kk := HK.out w10 HB10.out
      clear ksm hb10
      go_wp2_with fail
      refine kk.mono ?_
      rintro e w11 ⟨rfl, hb11⟩
      have HB11 : Hid (Below W.heap.size W w11) := HB10.out.trans (hb11.mono HB10.out.size)
      clear kk hb11
      go_wp2
      go_ret
      exact ⟨rfl, HB11.out⟩
    have h4b : (vl : Int) < 458752 := by omega
    have kv := valuesO (HO.out.1.below HB6.out) (HO.out.2.2.1.below HB6.out) HR.out.1 HYS.out
    go_wp2_with fail
    refine kv.mono ?_
    rintro e w7 ⟨s7, rfl, hs7, hb7⟩
    have HB7 : Hid (Below W.heap.size W w7) := HB6.out.trans (hb7.mono HB6.out.size)
    obtain ⟨za, zn, zc, rfl⟩ := svv_shape hs7
    have HS7 : Hid (SvvX (fun b => b < w6.heap.size) w7 (.slice za zn zc) ys) := hs7
    have HG7 : Hid (Gw 0 w7 (.slice (some ⟨gw, 0, none⟩) 1 1) [xs]) := HG6.out.kept (Kept.of_below hb7)
    have HOB : Hid (∀ b, (Value.slice (some ⟨gw, 0, none⟩) 1 1).ownBlock = some b → b = gw ∧ b < w6.heap.size) := fun b e => ⟨by injection e with e; exact e.symm, by obtain ⟨ss, _, h9, _⟩ := HG6.out.o; exact h9.lt e⟩
    clear kv hs7 hb7 HB6 HG6
    have hb8 : Below w7.heap.size w7 (w7.alloc (Obj.cells #[.slice za zn zc] 28)) := (Below.refl _ _).alloc (Nat.le_refl _) _
    have HRW : Hid (Blk (w7.alloc (Obj.cells #[.slice za zn zc] 28)) w7.heap.size #[.slice za zn zc] 28) := Blk.new _ _ _
    have HG8 : Hid (Gw 0 (w7.alloc (Obj.cells #[.slice za zn zc] 28)) (.slice (some ⟨gw, 0, none⟩) 1 1) [xs]) := HG7.out.kept (Kept.of_below hb8)
    have HB8 : Hid (Below W.heap.size W (w7.alloc (Obj.cells #[.slice za zn zc] 28))) := HB7.out.trans (hb8.mono HB7.out.size)
    have HS8 : Hid (SvvX (fun b => b < w6.heap.size) (w7.alloc (Obj.cells #[.slice za zn zc] 28)) (.slice za zn zc) ys) := HS7.out.below hb8
    obtain ⟨ss, hs1, hs2, hs3⟩ := HG8.out.o
    have HS2 : Hid (Ow (w7.alloc (Obj.cells #[.slice za zn zc] 28)) 28 (.slice (some ⟨gw, 0, none⟩) 1 1) 1 (ss.map fun x => [x])) := hs2
    have HS13 : Hid (ss.length = [xs].length ∧ ∀ (j : Nat) (x : List (List Vl)) (sj : Value), [xs][j]? = some x → ss[j]? = some sj → SvvX (fun b => b < 0 ∨ (Value.slice (some ⟨gw, 0, none⟩) 1 1).ownBlock = some b) (w7.alloc (Obj.cells #[.slice za zn zc] 28)) sj x) := ⟨hs1, hs3⟩
    have hsl : (ss.map fun x => [x]).length ≤ 100000000 := by rw [List.length_map, hs1]; simp
    have hadd1 : U.size + V.size ≤ 9223372036854775807 := by omega
    clear hb8 hs1 hs2 hs3 HG7 HB7 HS7
    go_wp2_with (at_builtin; refine list_app HS2.out 43 Tryz.underlying43 Tryz.info28 rfl (by decide) rfl (.tmp 93) (.tmp 95) rfl rfl ⟨w7.heap.size, 0, none⟩ 1 rfl [.slice za zn zc] rfl (fun j u hu => by rw [Addr.add_lit, Nat.zero_add, HRW.out.cell j]; simpa using hu) (by intro u hu; rw [List.mem_singleton.1 hu]; rfl) hsl (by decide) ?_; intro d1 w9 hr1 hg1 hn1; refine Hid.out ?_)
    refine (show Hid _ from ?_)
    unfold Hid
    have HG9 : Gw 0 w9 d1 ([xs] ++ [ys]) := HG8.out.snoc (Nat.zero_le _) HS13.out.1 HS13.out.2 (HS8.out.mono (fun b q => by
      rcases q with q | q
      · omega
      · exact (HOB.out b q).2)) hr1 hg1 hn1
    have HB9 : Hid (Below W.heap.size W w9) := HB8.out.grown hg1 HB8.out.size (fun b e => by rw [(HOB.out b e).1]; exact HGW.out)
    obtain ⟨wa, wn, wc, rfl⟩ : ∃ a n c, d1 = .slice a n c := by obtain ⟨a9, c9, e9, _⟩ := hr1.shape; exact ⟨_, _, _, e9⟩
    have HWN : Hid (Sv3 (fun _ => False) w9 (.slice wa wn wc) [xs, ys]) := HG9.done.mono (fun b q => q.elim)
    have HLL : Hid (∀ x ∈ [xs, ys], Lim x) := fun x hx => by
      rcases List.mem_cons.1 hx with rfl | hx
      · exact HLX.out
      · rw [List.mem_singleton.1 hx]; exact lim_ous HYS.out (by have := HO.out.1.n; omega) HO.out.1.z
    clear hr1 hg1 hn1 hsl HS13 HS2 HG8 HB8 HS8 HRW HOB HGW HG9 hadd1
    obtain ⟨S, hS⟩ : ∃ q, bs (statT 3 0 0 0) = q := ⟨_, rfl⟩
    have hsz : S.size = 18 := by rw [← hS]; rfl
    have HAP : Hid (U ++ V ++ S = bs (blockT l xs ++ blockT l ys ++ statT 3 0 0 0)) := by unfold Hid; rw [← HUU.out, ← HVV.out, ← hS, bs_app, bs_app]
    have ks := fun X hX => HSTR.out X [xs, ys] 3 hX (fun x hx => by rcases List.mem_cons.1 hx with rfl | hx; exact ⟨v, HR.out.2⟩; rw [List.mem_singleton.1 hx]; exact ⟨u, HYS.out⟩) (by rw [blks_two, List.length_append, List.length_append, stat_3]; have := HUL.out; have := HVL.out; omega)
    simp only [blks_two] at ks
    rw [← HAP.out] at ks
    have hadd2 : U.size + V.size + S.size ≤ 9223372036854775807 := by omega
    have KS := hid ks
    have kst := HST.out w9 3 HB9.out
    rw [hS] at kst
    clear ks hS
    go_wp2_with fail
    refine kst.mono ?_
    rintro e w8 ⟨rfl, hb8⟩
    have HB8 : Hid (Below W.heap.size W w8) := HB9.out.trans (hb8.mono HB9.out.size)
    have HW8 : Hid (Sv3 (fun _ => False) w8 (.slice wa wn wc) [xs, ys]) := HWN.out.below hb8
    have ks := KS.out w8 HB8.out
    clear kst hb8 HWN
    go_wp2_with fail
    refine ks.mono ?_
    rintro e w9 hE
    obtain ⟨ra, rn, rc, rfl, hsr, hb9⟩ := str_ok (by decide) (by decide) hE
    have HB9 : Hid (Below W.heap.size W w9) := HB8.out.trans (hb9.mono HB8.out.size)
    have ksm := sameAll23 hsr (HW8.out.below hb9) (by simp) (by simp) HLL.out HLL.out
    rw [decide_eq_true rfl] at ksm
    clear ks hE hsr hb9 HW8 hadd2
    go_wp2_with fail
    refine ksm.mono ?_
    rintro e w10 ⟨rfl, hb10⟩
    have HB10 : Hid (Below W.heap.size W w10) := HB9.out.trans (hb10.mono HB9.out.size)
    have kk := HK.out w10 HB10.out
    clear ksm hb10
    go_wp2_with fail
    refine kk.mono ?_
    rintro e w11 ⟨rfl, hb11⟩
    have HB11 : Hid (Below W.heap.size W w11) := HB10.out.trans (hb11.mono HB10.out.size)
    clear kk hb11
    go_wp2
    go_ret
    exact ⟨rfl, HB11.out⟩
end Go.Proofs.YtdnhhmnllhlbbaaGreatDoor
