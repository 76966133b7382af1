/-
  What is proved here: A last line alone, behind a block, ahead of more: the walk of OutEnds.
-/
import Derived.Test.YtdnhhmnllhlbbaaGreatDoorPrj
namespace Go.Proofs.YtdnhhmnllhlbbaaGreatDoor
open Go.RowKit Go.Shelf
set_option linter.unusedVariables false
set_option linter.unusedSimpArgs false
theorem howN_eq {h : Int} (h0 : 1 ≤ h) (h1 : h ≤ 4) : howN h = h := by
  unfold howN
  split
  · rfl
  · omega
theorem stat_len (how a b c : Int) (a0 : 0 ≤ a) (a1 : a ≤ 1000000) (b0 : 0 ≤ b) (b1 : b ≤ 1000000) (c0 : 0 ≤ c) (c1 : c ≤ 1000000) : (statT how a b c).length ≤ 100 := by
  have la := itoa_len9 a a0 a1
  have lb := itoa_len9 b b0 b1
  have lc := itoa_len9 c c0 c1
  unfold statT
  split
  · decide
  split
  · decide
  split
  · simp only [List.length_append, List.length_cons, List.length_nil]; omega
  · decide
theorem blks_nil (l : List Ou) (t : List UInt8) : blksT l [] ++ (t ++ []) = t := by simp [blksT]
theorem blks_nil2 (l : List Ou) (t r : List UInt8) : blksT l [] ++ (t ++ r) = t ++ r := by simp [blksT]
theorem blks_one (l : List Ou) (x : List (List Vl)) (t : List UInt8) : blksT l [x] ++ (t ++ []) = blockT l x ++ t := by simp [blksT]
set_option maxRecDepth 100000 in
set_option maxHeartbeats 4000000 in
theorem ends_walk {W : World} {os vs : Value} {l : List Ou} {v : List Vl} (how a b c : Int) (more : List UInt8) (ho : OuIn W os l) (hv : VlIn W vs v) (hml : more.length ≤ 1048576) (hT : Tens W) (hM : MaxL W) :
    Calls Tryz.prog 6 #[os, vs, .int .i64 how, .int .i64 a, .int .i64 b, .int .i64 c, .string (bs more)] W fun e w' => e = .returned (.bool true) ∧ Below W.heap.size W w' := by
  obtain ⟨oa, on, oc, rfl⟩ := slice_of ho
  obtain ⟨va, vn, vc, rfl⟩ := slice_ofv hv
  have HO : Hid (OuIn W (.slice oa on oc) l ∧ VlIn W (.slice va vn vc) v ∧ Tens W ∧ MaxL W) := ⟨ho, hv, hT, hM⟩
  have HK : Hid (∀ X, Below W.heap.size W X → Calls Tryz.prog 20 #[] X fun e w' => e = .returned (.bool true) ∧ Below X.heap.size X w') := fun X hX => known20 (hT.self hX) (hM.self hX)
  have kr := right13 ho.so (by have := ho.n; omega) ho.z
  have HML : Hid (more.length ≤ 1048576) := hml
  clear ho hv hT hM hml
  go_enter Tryz.func6, Tryz.ntmps6
  go_wp2_with fail
  refine kr.mono ?_
  rintro e w1 ⟨rfl, hb1⟩
  have HB1 : Hid (Below W.heap.size W w1) := hb1
  clear kr hb1
  have kk := HK.out w1 HB1.out
  by_cases hR : RightN l = 0
  rotate_left 1
  · obtain ⟨R, hRR⟩ : ∃ R, RightN l = R := ⟨_, rfl⟩
    rw [hRR] at hR ⊢
    have q1 : (R == 0) = false := by simpa using hR
    have q2 : (R != 0) = true := by simpa using hR
    clear hR hRR
    go_wp2_with fail
    refine kk.mono ?_
    rintro e wk ⟨rfl, hbk⟩
    have HBK : Hid (Below W.heap.size W wk) := HB1.out.trans (hbk.mono HB1.out.size)
    clear kk hbk
    go_wp2
    go_ret
    exact ⟨rfl, HBK.out⟩
  rw [hR]
  have HR : Hid (RightN l = 0) := hR
  clear hR
  by_cases hc : how < 1
  · skip
    go_wp2_with fail
    refine kk.mono ?_
    rintro e wk ⟨rfl, hbk⟩
    have HBK : Hid (Below W.heap.size W wk) := HB1.out.trans (hbk.mono HB1.out.size)
    clear kk hbk
    go_wp2
    go_ret
    exact ⟨rfl, HBK.out⟩
  have hC515 : ¬ how < 1 := hc
  clear hc
  by_cases hc : 4 < how
  · skip
    go_wp2_with fail
    refine kk.mono ?_
    rintro e wk ⟨rfl, hbk⟩
    have HBK : Hid (Below W.heap.size W wk) := HB1.out.trans (hbk.mono HB1.out.size)
    clear kk hbk
    go_wp2
    go_ret
    exact ⟨rfl, HBK.out⟩
  have hC809 : ¬ 4 < how := hc
  clear hc
  by_cases hc : a < 0
  · skip
    go_wp2_with fail
    refine kk.mono ?_
    rintro e wk ⟨rfl, hbk⟩
    have HBK : Hid (Below W.heap.size W wk) := HB1.out.trans (hbk.mono HB1.out.size)
    clear kk hbk
    go_wp2
    go_ret
    exact ⟨rfl, HBK.out⟩
  have hC1103 : ¬ a < 0 := hc
  clear hc
  by_cases hc : b < 0
  · skip
    go_wp2_with fail
    refine kk.mono ?_
    rintro e wk ⟨rfl, hbk⟩
    have HBK : Hid (Below W.heap.size W wk) := HB1.out.trans (hbk.mono HB1.out.size)
    clear kk hbk
    go_wp2
    go_ret
    exact ⟨rfl, HBK.out⟩
  have hC1394 : ¬ b < 0 := hc
  clear hc
  by_cases hc : c < 0
  · skip
    go_wp2_with fail
    refine kk.mono ?_
    rintro e wk ⟨rfl, hbk⟩
    have HBK : Hid (Below W.heap.size W wk) := HB1.out.trans (hbk.mono HB1.out.size)
    clear kk hbk
    go_wp2
    go_ret
    exact ⟨rfl, HBK.out⟩
  have hC1685 : ¬ c < 0 := hc
  clear hc
  by_cases hc : 1000000 < a
  · skip
    go_wp2_with fail
    refine kk.mono ?_
    rintro e wk ⟨rfl, hbk⟩
    have HBK : Hid (Below W.heap.size W wk) := HB1.out.trans (hbk.mono HB1.out.size)
    clear kk hbk
    go_wp2
    go_ret
    exact ⟨rfl, HBK.out⟩
  have hC1976 : ¬ 1000000 < a := hc
  clear hc
  by_cases hc : 1000000 < b
  · skip
    go_wp2_with fail
    refine kk.mono ?_
    rintro e wk ⟨rfl, hbk⟩
    have HBK : Hid (Below W.heap.size W wk) := HB1.out.trans (hbk.mono HB1.out.size)
    clear kk hbk
    go_wp2
    go_ret
    exact ⟨rfl, HBK.out⟩
  have hC2279 : ¬ 1000000 < b := hc
  clear hc
  by_cases hc : 1000000 < c
  · skip
    go_wp2_with fail
    refine kk.mono ?_
    rintro e wk ⟨rfl, hbk⟩
    have HBK : Hid (Below W.heap.size W wk) := HB1.out.trans (hbk.mono HB1.out.size)
    clear kk hbk
    go_wp2
    go_ret
    exact ⟨rfl, HBK.out⟩
  have hC2582 : ¬ 1000000 < c := hc
  clear hc
  clear kk
  have HC : Hid (1 ≤ how ∧ how ≤ 4 ∧ 0 ≤ a ∧ a ≤ 1000000 ∧ 0 ≤ b ∧ b ≤ 1000000 ∧ 0 ≤ c ∧ c ≤ 1000000) := by unfold Hid; omega
  have hh := howN_eq HC.out.1 HC.out.2.1
  have hsl := stat_len how a b c HC.out.2.2.1 HC.out.2.2.2.1 HC.out.2.2.2.2.1 HC.out.2.2.2.2.2.1 HC.out.2.2.2.2.2.2.1 HC.out.2.2.2.2.2.2.2
  have HSL : Hid ((statT how a b c).length ≤ 100 ∧ howN how = how) := ⟨hsl, hh⟩
  have kst := stat15 how a b c (by have := HC.out; omega) (by have := HC.out; omega) (by have := HC.out; omega) (by have := HC.out; omega) (by have := HC.out; omega) (by have := HC.out; omega) w1 (HO.out.2.2.1.self HB1.out)
  have HSTR : Hid (∀ X xss r, Below W.heap.size W X → (∀ x ∈ xss, ∃ vals, ousV l vals = some x) → (blksT l xss ++ (statT how a b c ++ r)).length ≤ 1048576 → Calls Tryz.prog 22 #[.string (bs (blksT l xss ++ (statT how a b c ++ r))), .slice oa on oc] X fun e w' => StrE l xss how a b c r X e w') := fun X xss r hX hx hl =>
    stream22 r how a b c (HO.out.1.so.below hX) HR.out HO.out.1.z (fun o q => by have := HO.out.1.nm o q; omega) hx HC.out.2.2.1 HC.out.2.2.2.1 HC.out.2.2.2.2.1 HC.out.2.2.2.2.2.1 HC.out.2.2.2.2.2.2.1 HC.out.2.2.2.2.2.2.2 hl (HO.out.2.2.1.self hX) (HO.out.2.2.2.self hX)
  clear hh hsl
  go_wp2_with fail
  refine kst.mono ?_
  rintro e w2 ⟨rfl, hb2⟩
  have HB2 : Hid (Below W.heap.size W w2) := HB1.out.trans (hb2.mono HB1.out.size)
  have ks := HSTR.out w2 [] [] HB2.out (by simp) (by rw [blks_nil]; have := HSL.out.1; omega)
  rw [blks_nil] at ks
  clear kst hb2 HB1
  go_wp2_with fail
  refine ks.mono ?_
  rintro e w3 ⟨hE, hb3⟩
  have HB3 : Hid (Below W.heap.size W w3) := HB2.out.trans (hb3.mono HB2.out.size)
  obtain ⟨sa, sc, rfl⟩ : ∃ sa sc, e = .returned (.tuple #[.slice sa 0 sc, .int .i64 how, .int .i64 0, .int .i64 0]) := by
    rcases hE with ⟨q, _⟩ | ⟨_, q, _⟩ | ⟨_, _, sv, q, sa, sc, q2, _⟩
    · exact absurd rfl q.1
    · exact absurd rfl q
    · exact ⟨sa, sc, by rw [q, q2, HSL.out.2]; rfl⟩
  clear ks hE hb3 HB2
  obtain ⟨m, hm⟩ : ∃ m, more.length = m := ⟨_, rfl⟩
  have HM : Hid (more.length = m) := hm
  obtain ⟨sl, hsl⟩ : ∃ q, (statT how a b c).length = q := ⟨_, rfl⟩
  have hsz : (bs (statT how a b c)).size = sl := hsl
  have HS : Hid ((statT how a b c).length = sl ∧ sl ≤ 100) := ⟨hsl, by have := HSL.out.1; omega⟩
  obtain ⟨T, hT⟩ : ∃ q, bs (statT how a b c) = q := ⟨_, rfl⟩
  have HTT : Hid (bs (statT how a b c) = T) := hT
  rw [hT] at hsz ⊢
  have htz : (T.size : Int) = sl := by omega
  clear hC515 hC809 hm hsl hT
  by_cases hm0 : m = 0
  · have hmn : more = [] := List.eq_nil_of_length_eq_zero (by rw [HM.out, hm0])
    have hms : bs more = ⟨#[]⟩ := by rw [hmn]; rfl
    rw [hms]
    clear hmn hms
    go_wp2_with fail
    refine (blockI (HO.out.1.below HB3.out) (HO.out.2.1.below HB3.out) (HO.out.2.2.1.self HB3.out)).mono ?_
    rintro e w5 ⟨⟨T3, er, rfl, hE⟩, hb5⟩
    have HB5 : Hid (Below W.heap.size W w5) := HB3.out.trans (hb5.mono HB3.out.size)
    have HE := hid hE
    clear hE hb5
    have kk := HK.out w5 HB5.out
    by_cases h1 : er = 0
    rotate_left 1
    · have q1 : (er == 0) = false := by simpa using h1
      have q2 : (er != 0) = true := by simpa using h1
      clear h1
      go_wp2_with fail
      refine kk.mono ?_
      rintro e wk ⟨rfl, hbk⟩
      have HBK : Hid (Below W.heap.size W wk) := HB5.out.trans (hbk.mono HB5.out.size)
      clear kk hbk
      go_wp2
      go_ret
      exact ⟨rfl, HBK.out⟩
    subst h1
    obtain ⟨xs, hxs, hT3⟩ : ∃ xs, ousV l v = some xs ∧ T3 = blockT l xs := by
      rcases HE.out with ⟨p, q, _⟩ | ⟨_, _, q, _⟩ | ⟨_, xs, q, _, r⟩
      · exact absurd q.symm p
      · cases q
      · exact ⟨xs, q, r⟩
    subst hT3
    have HXS : Hid (ousV l v = some xs) := hxs
    obtain ⟨ul, hul⟩ : ∃ q, (blockT l xs).length = q := ⟨_, rfl⟩
    have HUL : Hid ((blockT l xs).length = ul) := hul
    obtain ⟨U, hU⟩ : ∃ q, bs (blockT l xs) = q := ⟨_, rfl⟩
    have huz : (U.size : Int) = ul := by rw [← hU, bs_size, hul]
    have HAPP : Hid (U ++ T = bs (blockT l xs ++ statT how a b c)) := by unfold Hid; rw [← hU, ← HTT.out, bs_app]
    rw [hU]
    clear hxs hul hU HE
    by_cases h2 : 524288 < ul
    · have h2b : (524288 : Int) < (ul : Int) := by omega
      go_wp2_with fail
      refine kk.mono ?_
      rintro e wk ⟨rfl, hbk⟩
      have HBK : Hid (Below W.heap.size W wk) := HB5.out.trans (hbk.mono HB5.out.size)
      clear kk hbk
      go_wp2
      go_ret
      exact ⟨rfl, HBK.out⟩
    have h2b : ¬ (524288 : Int) < (ul : Int) := by omega
    have hadd : U.size + T.size ≤ 9223372036854775807 := by have := HS.out.2; omega
    have ks := HSTR.out w5 [xs] [] HB5.out (fun x hx => by rw [List.mem_singleton.1 hx]; exact ⟨v, HXS.out⟩) (by rw [blks_one, List.length_append]; have := HS.out; have := HUL.out; omega)
    rw [blks_one, ← HAPP.out] at ks
    clear kk
    go_wp2_with fail
    refine ks.mono ?_
    rintro e w6 ⟨hE, hb6⟩
    have HB6 : Hid (Below W.heap.size W w6) := HB5.out.trans (hb6.mono HB5.out.size)
    have HE := hid hE
    have kk := HK.out w6 HB6.out
    have hbl : (blksT l [xs]).length = ul := by have := HUL.out; simpa [blksT] using this
    have HBL := hid hbl
    clear ks hE hb6 hadd hbl
    by_cases h2h : how = 2
    · obtain rfl : e = .returned (.tuple #[.slice none 0 0, .int .i64 0, .int .i64 210, .int .i64 (ul : Int)]) := by
        rcases HE.out with ⟨_, q⟩ | ⟨q, _⟩ | ⟨q, _⟩
        · rw [q, HBL.out]
        · exact absurd ⟨by simp, by rw [HSL.out.2, h2h]; rfl⟩ q
        · exact absurd ⟨by simp, by rw [HSL.out.2, h2h]; rfl⟩ q
      subst h2h
      clear HE
      go_wp2_with fail
      refine kk.mono ?_
      rintro e wk ⟨rfl, hbk⟩
      have HBK : Hid (Below W.heap.size W wk) := HB6.out.trans (hbk.mono HB6.out.size)
      clear kk hbk
      go_wp2
      go_ret
      exact ⟨rfl, HBK.out⟩
    by_cases h4h : how = 4
    · obtain rfl : e = .returned (.tuple #[.slice none 0 0, .int .i64 0, .int .i64 210, .int .i64 (ul : Int)]) := by
        rcases HE.out with ⟨_, q⟩ | ⟨q, _⟩ | ⟨q, _⟩
        · rw [q, HBL.out]
        · exact absurd ⟨by simp, by rw [HSL.out.2, h4h]; rfl⟩ q
        · exact absurd ⟨by simp, by rw [HSL.out.2, h4h]; rfl⟩ q
      subst h4h
      clear HE
      go_wp2_with fail
      refine kk.mono ?_
      rintro e wk ⟨rfl, hbk⟩
      have HBK : Hid (Below W.heap.size W wk) := HB6.out.trans (hbk.mono HB6.out.size)
      clear kk hbk
      go_wp2
      go_ret
      exact ⟨rfl, HBK.out⟩
    obtain ⟨sa9, sc9, rfl⟩ : ∃ sa sc, e = .returned (.tuple #[.slice sa 1 sc, .int .i64 how, .int .i64 0, .int .i64 0]) := by
      rcases HE.out with ⟨q, _⟩ | ⟨_, q, _⟩ | ⟨_, _, sv, q, sa, sc, q2, _⟩
      · exact absurd q.2 (by rw [HSL.out.2]; unfold saB; simp [h2h, h4h])
      · exact absurd rfl q
      · exact ⟨sa, sc, by rw [q, q2, HSL.out.2]; rfl⟩
    have g2 : (how == 2) = false := by simpa using h2h
    have g4 : (how == 4) = false := by simpa using h4h
    clear HE h2h h4h
    go_wp2_with fail
    refine kk.mono ?_
    rintro e wk ⟨rfl, hbk⟩
    have HBK : Hid (Below W.heap.size W wk) := HB6.out.trans (hbk.mono HB6.out.size)
    clear kk hbk
    go_wp2
    go_ret
    exact ⟨rfl, HBK.out⟩
  have hne : more ≠ [] := fun q => hm0 (by rw [← HM.out, q]; rfl)
  have HNE := hid hne
  have hem := bs_nee more hne
  obtain ⟨S, hS⟩ : ∃ q, bs more = q := ⟨_, rfl⟩
  have hss : (S.size : Int) = m := by rw [← hS, bs_size, HM.out]
  have HAP2 : Hid (T ++ S = bs (statT how a b c ++ more)) := by unfold Hid; rw [← HTT.out, ← hS, bs_app]
  rw [hS] at hem ⊢
  clear hne hm0 hS
  by_cases hm1 : 65536 < m
  · have hm2 : ¬ (m : Int) ≤ 65536 := by omega
    go_wp2_with fail
    refine (blockI (HO.out.1.below HB3.out) (HO.out.2.1.below HB3.out) (HO.out.2.2.1.self HB3.out)).mono ?_
    rintro e w5 ⟨⟨T3, er, rfl, hE⟩, hb5⟩
    have HB5 : Hid (Below W.heap.size W w5) := HB3.out.trans (hb5.mono HB3.out.size)
    have HE := hid hE
    clear hE hb5
    have kk := HK.out w5 HB5.out
    by_cases h1 : er = 0
    rotate_left 1
    · have q1 : (er == 0) = false := by simpa using h1
      have q2 : (er != 0) = true := by simpa using h1
      clear h1
      go_wp2_with fail
      refine kk.mono ?_
      rintro e wk ⟨rfl, hbk⟩
      have HBK : Hid (Below W.heap.size W wk) := HB5.out.trans (hbk.mono HB5.out.size)
      clear kk hbk
      go_wp2
      go_ret
      exact ⟨rfl, HBK.out⟩
    subst h1
    obtain ⟨xs, hxs, hT3⟩ : ∃ xs, ousV l v = some xs ∧ T3 = blockT l xs := by
      rcases HE.out with ⟨p, q, _⟩ | ⟨_, _, q, _⟩ | ⟨_, xs, q, _, r⟩
      · exact absurd q.symm p
      · cases q
      · exact ⟨xs, q, r⟩
    subst hT3
    have HXS : Hid (ousV l v = some xs) := hxs
    obtain ⟨ul, hul⟩ : ∃ q, (blockT l xs).length = q := ⟨_, rfl⟩
    have HUL : Hid ((blockT l xs).length = ul) := hul
    obtain ⟨U, hU⟩ : ∃ q, bs (blockT l xs) = q := ⟨_, rfl⟩
    have huz : (U.size : Int) = ul := by rw [← hU, bs_size, hul]
    have HAPP : Hid (U ++ T = bs (blockT l xs ++ statT how a b c)) := by unfold Hid; rw [← hU, ← HTT.out, bs_app]
    rw [hU]
    clear hxs hul hU HE
    by_cases h2 : 524288 < ul
    · have h2b : (524288 : Int) < (ul : Int) := by omega
      go_wp2_with fail
      refine kk.mono ?_
      rintro e wk ⟨rfl, hbk⟩
      have HBK : Hid (Below W.heap.size W wk) := HB5.out.trans (hbk.mono HB5.out.size)
      clear kk hbk
      go_wp2
      go_ret
      exact ⟨rfl, HBK.out⟩
    have h2b : ¬ (524288 : Int) < (ul : Int) := by omega
    have hadd : U.size + T.size ≤ 9223372036854775807 := by have := HS.out.2; omega
    have ks := HSTR.out w5 [xs] [] HB5.out (fun x hx => by rw [List.mem_singleton.1 hx]; exact ⟨v, HXS.out⟩) (by rw [blks_one, List.length_append]; have := HS.out; have := HUL.out; omega)
    rw [blks_one, ← HAPP.out] at ks
    clear kk
    go_wp2_with fail
    refine ks.mono ?_
    rintro e w6 ⟨hE, hb6⟩
    have HB6 : Hid (Below W.heap.size W w6) := HB5.out.trans (hb6.mono HB5.out.size)
    have HE := hid hE
    have kk := HK.out w6 HB6.out
    have hbl : (blksT l [xs]).length = ul := by have := HUL.out; simpa [blksT] using this
    have HBL := hid hbl
    clear ks hE hb6 hadd hbl
    by_cases h2h : how = 2
    · obtain rfl : e = .returned (.tuple #[.slice none 0 0, .int .i64 0, .int .i64 210, .int .i64 (ul : Int)]) := by
        rcases HE.out with ⟨_, q⟩ | ⟨q, _⟩ | ⟨q, _⟩
        · rw [q, HBL.out]
        · exact absurd ⟨by simp, by rw [HSL.out.2, h2h]; rfl⟩ q
        · exact absurd ⟨by simp, by rw [HSL.out.2, h2h]; rfl⟩ q
      subst h2h
      clear HE
      go_wp2_with fail
      refine kk.mono ?_
      rintro e wk ⟨rfl, hbk⟩
      have HBK : Hid (Below W.heap.size W wk) := HB6.out.trans (hbk.mono HB6.out.size)
      clear kk hbk
      go_wp2
      go_ret
      exact ⟨rfl, HBK.out⟩
    by_cases h4h : how = 4
    · obtain rfl : e = .returned (.tuple #[.slice none 0 0, .int .i64 0, .int .i64 210, .int .i64 (ul : Int)]) := by
        rcases HE.out with ⟨_, q⟩ | ⟨q, _⟩ | ⟨q, _⟩
        · rw [q, HBL.out]
        · exact absurd ⟨by simp, by rw [HSL.out.2, h4h]; rfl⟩ q
        · exact absurd ⟨by simp, by rw [HSL.out.2, h4h]; rfl⟩ q
      subst h4h
      clear HE
      go_wp2_with fail
      refine kk.mono ?_
      rintro e wk ⟨rfl, hbk⟩
      have HBK : Hid (Below W.heap.size W wk) := HB6.out.trans (hbk.mono HB6.out.size)
      clear kk hbk
      go_wp2
      go_ret
      exact ⟨rfl, HBK.out⟩
    obtain ⟨sa9, sc9, rfl⟩ : ∃ sa sc, e = .returned (.tuple #[.slice sa 1 sc, .int .i64 how, .int .i64 0, .int .i64 0]) := by
      rcases HE.out with ⟨q, _⟩ | ⟨_, q, _⟩ | ⟨_, _, sv, q, sa, sc, q2, _⟩
      · exact absurd q.2 (by rw [HSL.out.2]; unfold saB; simp [h2h, h4h])
      · exact absurd rfl q
      · exact ⟨sa, sc, by rw [q, q2, HSL.out.2]; rfl⟩
    have g2 : (how == 2) = false := by simpa using h2h
    have g4 : (how == 4) = false := by simpa using h4h
    clear HE h2h h4h
    go_wp2_with fail
    refine kk.mono ?_
    rintro e wk ⟨rfl, hbk⟩
    have HBK : Hid (Below W.heap.size W wk) := HB6.out.trans (hbk.mono HB6.out.size)
    clear kk hbk
    go_wp2
    go_ret
    exact ⟨rfl, HBK.out⟩
  have hm2 : (m : Int) ≤ 65536 := by omega
  have hadd0 : T.size + S.size ≤ 9223372036854775807 := by have := HS.out.2; omega
  have ks2 := HSTR.out w3 [] more HB3.out (by simp) (by rw [blks_nil2, List.length_append]; have := HS.out; have := HM.out; omega)
  rw [blks_nil2, ← HAP2.out] at ks2
  go_wp2_with fail
  refine ks2.mono ?_
  rintro e w4 ⟨hE, hb4⟩
  have HB4 : Hid (Below W.heap.size W w4) := HB3.out.trans (hb4.mono HB3.out.size)
  obtain rfl : e = .returned (.tuple #[.slice none 0 0, .int .i64 0, .int .i64 210, .int .i64 (sl : Int)]) := by
    rcases hE with ⟨q, _⟩ | ⟨_, _, q⟩ | ⟨_, q, _⟩
    · exact absurd rfl q.1
    · rw [q, HS.out.1]; simp [blksT]
    · exact absurd q HNE.out
  clear ks2 hE hb4 hadd0
  go_wp2_with fail
  refine (blockI (HO.out.1.below HB4.out) (HO.out.2.1.below HB4.out) (HO.out.2.2.1.self HB4.out)).mono ?_
  rintro e w5 ⟨⟨T3, er, rfl, hE⟩, hb5⟩
  have HB5 : Hid (Below W.heap.size W w5) := HB4.out.trans (hb5.mono HB4.out.size)
  have HE := hid hE
  clear hE hb5
  have kk := HK.out w5 HB5.out
  by_cases h1 : er = 0
  rotate_left 1
  · have q1 : (er == 0) = false := by simpa using h1
    have q2 : (er != 0) = true := by simpa using h1
    clear h1
    go_wp2_with fail
    refine kk.mono ?_
    rintro e wk ⟨rfl, hbk⟩
    have HBK : Hid (Below W.heap.size W wk) := HB5.out.trans (hbk.mono HB5.out.size)
    clear kk hbk
    go_wp2
    go_ret
    exact ⟨rfl, HBK.out⟩
  subst h1
  obtain ⟨xs, hxs, hT3⟩ : ∃ xs, ousV l v = some xs ∧ T3 = blockT l xs := by
    rcases HE.out with ⟨p, q, _⟩ | ⟨_, _, q, _⟩ | ⟨_, xs, q, _, r⟩
    · exact absurd q.symm p
    · cases q
    · exact ⟨xs, q, r⟩
  subst hT3
  have HXS : Hid (ousV l v = some xs) := hxs
  obtain ⟨ul, hul⟩ : ∃ q, (blockT l xs).length = q := ⟨_, rfl⟩
  have HUL : Hid ((blockT l xs).length = ul) := hul
  obtain ⟨U, hU⟩ : ∃ q, bs (blockT l xs) = q := ⟨_, rfl⟩
  have huz : (U.size : Int) = ul := by rw [← hU, bs_size, hul]
  have HAPP : Hid (U ++ T = bs (blockT l xs ++ statT how a b c)) := by unfold Hid; rw [← hU, ← HTT.out, bs_app]
  rw [hU]
  clear hxs hul hU HE
  by_cases h2 : 524288 < ul
  · have h2b : (524288 : Int) < (ul : Int) := by omega
    go_wp2_with fail
    refine kk.mono ?_
    rintro e wk ⟨rfl, hbk⟩
    have HBK : Hid (Below W.heap.size W wk) := HB5.out.trans (hbk.mono HB5.out.size)
    clear kk hbk
    go_wp2
    go_ret
    exact ⟨rfl, HBK.out⟩
  have h2b : ¬ (524288 : Int) < (ul : Int) := by omega
  have hadd : U.size + T.size ≤ 9223372036854775807 := by have := HS.out.2; omega
  have ks := HSTR.out w5 [xs] [] HB5.out (fun x hx => by rw [List.mem_singleton.1 hx]; exact ⟨v, HXS.out⟩) (by rw [blks_one, List.length_append]; have := HS.out; have := HUL.out; omega)
  rw [blks_one, ← HAPP.out] at ks
  clear kk
  go_wp2_with fail
  refine ks.mono ?_
  rintro e w6 ⟨hE, hb6⟩
  have HB6 : Hid (Below W.heap.size W w6) := HB5.out.trans (hb6.mono HB5.out.size)
  have HE := hid hE
  have kk := HK.out w6 HB6.out
  have hbl : (blksT l [xs]).length = ul := by have := HUL.out; simpa [blksT] using this
  have HBL := hid hbl
  clear ks hE hb6 hadd hbl
  by_cases h2h : how = 2
  · obtain rfl : e = .returned (.tuple #[.slice none 0 0, .int .i64 0, .int .i64 210, .int .i64 (ul : Int)]) := by
      rcases HE.out with ⟨_, q⟩ | ⟨q, _⟩ | ⟨q, _⟩
      · rw [q, HBL.out]
      · exact absurd ⟨by simp, by rw [HSL.out.2, h2h]; rfl⟩ q
      · exact absurd ⟨by simp, by rw [HSL.out.2, h2h]; rfl⟩ q
    subst h2h
    clear HE
    go_wp2_with fail
    refine kk.mono ?_
    rintro e wk ⟨rfl, hbk⟩
    have HBK : Hid (Below W.heap.size W wk) := HB6.out.trans (hbk.mono HB6.out.size)
    clear kk hbk
    go_wp2
    go_ret
    exact ⟨rfl, HBK.out⟩
  by_cases h4h : how = 4
  · obtain rfl : e = .returned (.tuple #[.slice none 0 0, .int .i64 0, .int .i64 210, .int .i64 (ul : Int)]) := by
      rcases HE.out with ⟨_, q⟩ | ⟨q, _⟩ | ⟨q, _⟩
      · rw [q, HBL.out]
      · exact absurd ⟨by simp, by rw [HSL.out.2, h4h]; rfl⟩ q
      · exact absurd ⟨by simp, by rw [HSL.out.2, h4h]; rfl⟩ q
    subst h4h
    clear HE
    go_wp2_with fail
    refine kk.mono ?_
    rintro e wk ⟨rfl, hbk⟩
    have HBK : Hid (Below W.heap.size W wk) := HB6.out.trans (hbk.mono HB6.out.size)
    clear kk hbk
    go_wp2
    go_ret
    exact ⟨rfl, HBK.out⟩
  obtain ⟨sa9, sc9, rfl⟩ : ∃ sa sc, e = .returned (.tuple #[.slice sa 1 sc, .int .i64 how, .int .i64 0, .int .i64 0]) := by
    rcases HE.out with ⟨q, _⟩ | ⟨_, q, _⟩ | ⟨_, _, sv, q, sa, sc, q2, _⟩
    · exact absurd q.2 (by rw [HSL.out.2]; unfold saB; simp [h2h, h4h])
    · exact absurd rfl q
    · exact ⟨sa, sc, by rw [q, q2, HSL.out.2]; rfl⟩
  have g2 : (how == 2) = false := by simpa using h2h
  have g4 : (how == 4) = false := by simpa using h4h
  clear HE h2h h4h
  go_wp2_with fail
  refine kk.mono ?_
  rintro e wk ⟨rfl, hbk⟩
  have HBK : Hid (Below W.heap.size W wk) := HB6.out.trans (hbk.mono HB6.out.size)
  clear kk hbk
  go_wp2
  go_ret
  exact ⟨rfl, HBK.out⟩
end Go.Proofs.YtdnhhmnllhlbbaaGreatDoor
