/-
  What is proved here: the walk of DomTexts.
-/
import Derived.Test.YtopelhdepocoiaaDoorRh
import Derived.Test.YtopelhdepocoiaaDoorKn
namespace Go.Proofs.YtopelhdepocoiaaDoor
open Go.RowKit Go.Shelf
set_option linter.unusedVariables false

theorem rg_ext {a b : List Rg} (hl : a.length = b.length) (h : ∀ k, k < a.length → lo a k = lo b k ∧ hi a k = hi b k) : a = b := by
  refine List.ext_getElem hl fun i h1 h2 => ?_
  have := h i h1
  rw [lo_get a i h1, lo_get b i h2, hi_get a i h1, hi_get b i h2] at this
  exact Prod.ext this.1 this.2
set_option maxHeartbeats 2000000 in
theorem alikeR_any (s1 s2 : Value) (la lb : List Rg) (w : World) (h1 : Sr w s1 la) (h2 : Sr w s2 lb) (hr1 : la.length ≤ 100000) (hr2 : lb.length ≤ 100000) :
    Calls Tryd.prog 8 #[s1, s2] w fun e w' => ∃ t, e = .returned (.bool t) ∧ (t = true ↔ la = lb) ∧ ∃ nq, w' = w.drewN nq := by
  obtain ⟨a1, c1, rfl, hc1⟩ := h1
  obtain ⟨a2, c2, rfl, hc2⟩ := h2
  obtain ⟨n, hn⟩ : ∃ n, la.length = n := ⟨_, rfl⟩
  obtain ⟨n2, hn2⟩ : ∃ n, lb.length = n := ⟨_, rfl⟩
  have HN : Hid (la.length = n) := hn
  have HN2 : Hid (lb.length = n2) := hn2
  rw [hn] at hc1 hr1 ⊢
  rw [hn2] at hc2 hr2 ⊢
  have HC1 : Hid _ := hc1
  have HC2 : Hid _ := hc2
  clear hn hn2 hc1 hc2
  by_cases hnn : n = n2
  · subst hnn
    go_enter Tryd.func8, Tryd.ntmps8
    go_wp2
    go_loopw [5] (fun i wr => ∃ k : Nat, k ≤ n ∧ i = .int .i64 (k : Int) ∧ (∀ j, j < k → lo la j = lo lb j ∧ hi la j = hi lb j) ∧ ∃ nq, wr = w.drewN nq) (fun i _ => n - (intOf i).toNat)
    case atStart => exact ⟨0, Nat.zero_le _, rfl, fun j hj => by omega, 0, rfl⟩
    case round =>
      obtain ⟨k, hk, rfl, hall, nq0, rfl⟩ := hrel
      have HALL : Hid (∀ j, j < k → lo la j = lo lb j ∧ hi la j = hi lb j) := hall
      clear hall
      by_cases hlt : k < n
      · obtain ⟨b1, o1, rfl, _, hcell1⟩ := HC1.out (by omega)
        obtain ⟨b2, o2, rfl, _, hcell2⟩ := HC2.out (by omega)
        obtain ⟨x1, y1⟩ := hcell1 k hlt
        obtain ⟨x2, y2⟩ := hcell2 k hlt
        have kk : (k : Int) < (n : Int) := by omega
        obtain ⟨p, hp⟩ : ∃ p, lo la k = p := ⟨_, rfl⟩
        obtain ⟨q, hq⟩ : ∃ p, hi la k = p := ⟨_, rfl⟩
        obtain ⟨r, hr⟩ : ∃ p, lo lb k = p := ⟨_, rfl⟩
        obtain ⟨u, hu⟩ : ∃ p, hi lb k = p := ⟨_, rfl⟩
        rw [hp] at x1
        rw [hq] at y1
        rw [hr] at x2
        rw [hu] at y2
        have HP : Hid (lo la k = p ∧ hi la k = q ∧ lo lb k = r ∧ hi lb k = u) := ⟨hp, hq, hr, hu⟩
        clear hcell1 hcell2 hp hq hr hu
        by_cases e1 : p = r
        · subst e1
          by_cases e2 : q = u
          · subst e2
            go_wp2
            go_quiet (fail)
            go_wp2
            go_roundw
            case rel => exact ⟨k + 1, by omega, by go_num, fun j hj => if h : j = k then by obtain ⟨g1, g2, g3, g4⟩ := HP.out; rw [h, g1, g2, g3, g4]; exact ⟨rfl, rfl⟩ else HALL.out j (by omega), _, rfl⟩
            case measure => simp [intOf]; omega
          · have z1 : (q == u) = false := by simpa using e2
            have z2 : (q != u) = true := by simpa using e2
            have z3 : decide (q = u) = false := by simpa using e2
            go_wp2
            go_quiet (fail)
            go_wp2
            (try rw [Exit.noGoto_ret])
            go_ret
            exact ⟨false, rfl, ⟨fun h => by simp at h, fun h => by obtain ⟨g1, g2, g3, g4⟩ := HP.out; rw [h] at g2; exact absurd (g2.symm.trans g4) e2⟩, _, World.drewN_drewN _ _ _⟩
        · have z1 : (p == r) = false := by simpa using e1
          have z2 : (p != r) = true := by simpa using e1
          have z3 : decide (p = r) = false := by simpa using e1
          go_wp2
          go_quiet (fail)
          go_wp2
          (try rw [Exit.noGoto_ret])
          go_ret
          exact ⟨false, rfl, ⟨fun h => by simp at h, fun h => by obtain ⟨g1, g2, g3, g4⟩ := HP.out; rw [h] at g1; exact absurd (g1.symm.trans g3) e1⟩, _, World.drewN_drewN _ _ _⟩
      · obtain rfl : k = n := by omega
        go_wp2
        (try rw [Exit.noGoto_ret])
        go_ret
        exact ⟨true, rfl, ⟨fun _ => rg_ext (by rw [HN.out, HN2.out]) (fun j hj => HALL.out j (by rw [← HN.out]; exact hj)), fun _ => rfl⟩, _, rfl⟩
  · have z1 : ((n : Int) == (n2 : Int)) = false := by simpa using (fun h => hnn (by omega))
    have z2 : ((n : Int) != (n2 : Int)) = true := by simp; omega
    have z3 : decide ((n : Int) = (n2 : Int)) = false := by simp; omega
    go_enter Tryd.func8, Tryd.ntmps8
    go_wp2
    (try rw [Exit.noGoto_ret])
    go_ret
    exact ⟨false, rfl, ⟨fun h => by simp at h, fun h => absurd (by rw [← HN.out, ← HN2.out, h]) hnn⟩, 0, rfl⟩

theorem domtext_any (s : Value) (l : List Rg) (W : World) (h : Sr W s l) (hf : FitsR l) (hT : Tens W.heap.size W) :
    Calls Tryd.prog 4 #[s] W fun e w' => e = .returned (.string ⟨(txt (tk l)).toArray⟩) ∧ Below W.heap.size W w' := by
  by_cases hR : Some' l
  · have e : txt (tk l) = txN l l.length := by unfold txt; rw [tk_yes hR.1, if_neg (by have := hR.2; omega)]
    rw [e]; exact domtext_yes s l W h hf hR hT
  · have e : txt (tk l) = [123, 125] := by
      unfold txt
      rw [if_pos]
      unfold tk
      split
      · rename_i hr
        apply Classical.byContradiction; intro hn; exact hR ⟨hr, by omega⟩
      · rfl
    rw [e]; exact domtext_no s l W h hf hR
theorem reftext_any (s : Value) (l : List Rg) (W : World) (h : Sr W s l) (hT : Tens W.heap.size W) :
    Calls Tryd.prog 7 #[s] W fun e w' => e = .returned (.string ⟨(txt (tk l)).toArray⟩) ∧ Below W.heap.size W w' := by
  by_cases hR : Some' l
  · have e : txt (tk l) = txN l l.length := by unfold txt; rw [tk_yes hR.1, if_neg (by have := hR.2; omega)]
    rw [e]; exact reftext_yes s l W h hR hT
  · have e : txt (tk l) = [123, 125] := by
      unfold txt
      rw [if_pos]
      unfold tk
      split
      · rename_i hr
        apply Classical.byContradiction; intro hn; exact hR ⟨hr, by omega⟩
      · rfl
    rw [e]; exact reftext_no s l W h hR

open Classical in
/-- What a text is read as: the error's number, and the ranges. -/
noncomputable def pf (b : List UInt8) : Int × List Rg :=
  if 65536 < b.length then (3, []) else if b = [123, 125] then (0, []) else if h : ∃ l, Some' l ∧ txN l l.length = b then (0, h.choose) else (20, [])
theorem sr_nil (W : World) : Sr W (.slice none 0 0) [] := ⟨none, 0, rfl, fun h => absurd h (by decide)⟩
theorem parsE_pf {b : List UInt8} {x : Ending} {w' : World} (h : ParsE b x w') : ∃ v, x = .returned (.tuple #[v, .int .i64 (pf b).1]) ∧ Sr w' v (pf b).2 := by
  rcases h with ⟨h1, h2⟩ | ⟨h1, h2, h3⟩ | ⟨h1, h2, h3⟩
  · have e : pf b = (3, []) := by unfold pf; rw [if_pos h1]
    rw [e]; exact ⟨_, h2, sr_nil _⟩
  · have e : pf b = (0, []) := by unfold pf; rw [if_neg (by omega), if_pos h2]
    rw [e]; exact ⟨_, h3, sr_nil _⟩
  · rcases h3 with ⟨l, v, h4, h5, h6, h7⟩ | ⟨h4, h5⟩
    · have hex : ∃ l, Some' l ∧ txN l l.length = b := ⟨l, h4, h5⟩
      have hl : hex.choose = l := txN_inj hex.choose_spec.1.1 h4.1 hex.choose_spec.1.2 h4.2 (hex.choose_spec.2.trans h5.symm)
      have e : pf b = (0, l) := by unfold pf; rw [if_neg (by omega), if_neg h2, dif_pos hex, hl]
      rw [e]; exact ⟨v, h6, h7⟩
    · have e : pf b = (20, []) := by unfold pf; rw [if_neg (by omega), if_neg h2, dif_neg (fun ⟨l, h6, h7⟩ => h4 l h6 h7)]
      rw [e]; exact ⟨_, h5, sr_nil _⟩
theorem pf_small (b : List UInt8) : (pf b).2.length ≤ 100000 := by
  unfold pf
  split
  · simp
  · split
    · simp
    · split
      · rename_i h; have := h.choose_spec.1.1.1; simp only; omega
      · simp
theorem head_app {l r : List UInt8} (h : l ≠ []) : (l ++ r).head? = l.head? := by
  cases l with
  | nil => exact absurd rfl h
  | cons _ _ => rfl
theorem txN_head (l : List Rg) (k : Nat) (h : k < l.length) (h1 : 0 < k ∨ True) : ∀ b, (txN l (k + 1)).head? = some b → b = 45 ∨ Dig b := by
  induction k with
  | zero =>
    intro b hb
    simp only [txN, List.nil_append, if_false, Nat.lt_irrefl] at hb
    unfold tx1 at hb
    have hp := itoa_pos (lo l 0)
    rw [head_app (by intro e; rw [e] at hp; simp at hp)] at hb
    exact itoa_signs (lo l 0) b (List.mem_of_mem_head? hb)
  | succ k ih =>
    intro b hb
    have hne : txN l (k + 1) ≠ [] := by
      intro e
      have hp := itoa_pos (lo l k)
      have : (txN l (k + 1)).length = 0 := by rw [e]; rfl
      simp only [txN, tx1, List.length_append] at this
      omega
    rw [txN, List.append_assoc, head_app hne] at hb
    exact ih (by omega) (.inr trivial) b hb
theorem pf_txt {l : List Rg} (h : Right l) (hs : (txt l).length ≤ 65536) : pf (txt l) = (0, l) := by
  unfold pf
  rw [if_neg (by omega)]
  by_cases h0 : l.length = 0
  · have : l = [] := List.length_eq_zero_iff.1 h0
    subst this
    rw [if_pos (show txt [] = [123, 125] from rfl)]
  · have e : txt l = txN l l.length := by unfold txt; rw [if_neg h0]
    have hne : txN l l.length ≠ [123, 125] := by
      intro e9
      obtain ⟨k, hk⟩ : ∃ k, l.length = k + 1 := ⟨l.length - 1, by omega⟩
      have := txN_head l k (by omega) (.inr trivial) 123 (by rw [← hk, e9]; rfl)
      revert this; decide
    rw [e, if_neg hne]
    have hex : ∃ m, Some' m ∧ txN m m.length = txN l l.length := ⟨l, ⟨h, by omega⟩, rfl⟩
    rw [dif_pos hex, txN_inj hex.choose_spec.1.1 h hex.choose_spec.1.2 (by omega) hex.choose_spec.2]

set_option maxRecDepth 100000 in
set_option maxHeartbeats 4000000 in
theorem texts_walk (s : Value) (l : List Rg) (t : ByteArray) (W : World) (hS : Sr W s l) (hF : FitsR l) (hM : MaxL W) (hE : ErrV W) (hT : Tens W.heap.size W) :
    Calls Tryd.prog 3 #[s, .string t] W fun e w' => e = .returned (.bool true) ∧ Below W.heap.size W w' := by
  have HS : Hid (Sr W s l) := hS
  have HF : Hid (FitsR l) := hF
  have HM : Hid (MaxL W) := hM
  have HE : Hid (ErrV W) := hE
  have HT : Hid (Tens W.heap.size W) := hT
  have hM0 := hM.1
  have hE0 := hE.1
  have h1 := domtext_any s l W hS hF hT
  obtain ⟨T, hTT⟩ : ∃ T : ByteArray, (⟨(txt (tk l)).toArray⟩ : ByteArray) = T := ⟨_, rfl⟩
  have HTT : Hid (T.data.toList = txt (tk l)) := by unfold Hid; rw [← hTT]
  have h4 := fun X (hX : Below W.heap.size W X) => reftext_any s l X (HS.out.below hX) (tens_here HT.out hX)
  rw [hTT] at h1
  simp only [hTT] at h4
  have h2 := fun X (hX : Below W.heap.size W X) => parse_any t X (HM.out.below hX hM0) (HE.out.below hX hE0) (tens_here HT.out hX)
  have h3 := fun X (hX : Below W.heap.size W X) => refparse_any t X (tens_here HT.out hX)
  have h6 := fun X (hX : Below W.heap.size W X) => parse_any T X (HM.out.below hX hM0) (HE.out.below hX hE0) (tens_here HT.out hX)
  have hk := fun X (hX : Below W.heap.size W X) => known22 X (HM.out.below hX hM0) (tens_here HT.out hX)
  have hr := fun X (hX : Below W.heap.size W X) => refright_any s l X (HS.out.below hX)
  obtain ⟨b, hb⟩ : ∃ b, t.data.toList = b := ⟨_, rfl⟩
  simp only [hb] at h2 h3
  obtain ⟨c, hc⟩ : ∃ c, (pf b).1 = c := ⟨_, rfl⟩
  obtain ⟨la, hla⟩ : ∃ la, (pf b).2 = la := ⟨_, rfl⟩
  have hsm := pf_small b
  rw [hla] at hsm
  have HSM : Hid (la.length ≤ 100000) := hsm
  have HP : Hid (∀ x w', ParsE b x w' → ∃ v, x = .returned (.tuple #[v, .int .i64 c]) ∧ Sr w' v la) := by
    unfold Hid; intro x w' h; have := parsE_pf h; rw [hc, hla] at this; exact this
  clear hS hF hM hE hT hTT hb hc hla hsm
  go_enter Tryd.func3, Tryd.ntmps3
  go_wp2_with fail
  refine h1.mono ?_
  rintro e w1 ⟨rfl, hb1⟩
  clear h1
  go_wp2_with fail
  refine (h2 _ hb1).mono ?_
  rintro e w2 ⟨hp2, hb2⟩
  obtain ⟨va, rfl, hSa⟩ := HP.out _ _ hp2
  have hB2 : Below W.heap.size W w2 := hb1.trans (hb2.mono hb1.size)
  have HSa : Hid (Sr w2 va la) := hSa
  clear hp2 hb2 hb1 h2 hSa
  go_wp2_with fail
  refine (h3 _ hB2).mono ?_
  rintro e w3 ⟨hp3, hb3⟩
  obtain ⟨vb, rfl, hSb⟩ := HP.out _ _ hp3
  have hB3 : Below W.heap.size W w3 := hB2.trans (hb3.mono hB2.size)
  have HSa3 : Hid (Sr w3 va la) := HSa.out.below hb3
  have HSb : Hid (Sr w3 vb la) := hSb
  clear hp3 hb3 hB2 h3 hSb HSa HP
  go_wp2_with fail
  refine (h4 _ hB3).mono ?_
  rintro e w4 ⟨rfl, hb4⟩
  have hB4 : Below W.heap.size W w4 := hB3.trans (hb4.mono hB3.size)
  have hal := alikeR_any va vb la la w4 (HSa3.out.below hb4) (HSb.out.below hb4) HSM.out HSM.out
  clear hb4 hB3 h4 HSa3 HSb
  go_wp2_with fail
  refine hal.mono ?_
  rintro e w5 ⟨tt, rfl, htt, n5, rfl⟩
  obtain rfl : tt = true := htt.2 (by first | trivial | rfl)
  have hB5 : Below W.heap.size W (w4.drewN n5) := below_drewN hB4 _
  clear hal htt hB4
  go_wp2_with fail
  refine (hr _ hB5).mono ?_
  rintro e w6 ⟨rfl, n6, rfl⟩
  have hB6 : Below W.heap.size W ((w4.drewN n5).drewN n6) := below_drewN hB5 _
  obtain ⟨X6, hX6⟩ : ∃ X, (w4.drewN n5).drewN n6 = X := ⟨_, rfl⟩
  rw [hX6] at hB6 ⊢
  clear hB5 hX6 hr
  by_cases hR : Right l
  · have hrb := rightB_yes hR
    have HTL : Hid (T.data.toList = txt l) := by unfold Hid; rw [HTT.out, tk_yes hR]
    have HR : Hid (Right l) := hR
    clear hR
    rw [hrb]
    by_cases hbig : 65536 < T.size
    · have hbig' : (65536 : Int) < (T.size : Int) := by omega
      clear h6
      go_wp2_with fail
      refine (hk _ hB6).mono ?_
      rintro e w7 ⟨rfl, hb7⟩
      have hB7 : Below W.heap.size W w7 := hB6.trans (hb7.mono hB6.size)
      go_wp2
      go_ret
      exact ⟨rfl, hB7⟩
    · have hbig' : ¬ (65536 : Int) < (T.size : Int) := by omega
      have hpf : pf T.data.toList = (0, l) := by
        rw [HTL.out]; refine pf_txt HR.out ?_
        rw [← HTL.out]; simp; omega
      have HPF : Hid _ := hpf
      clear hpf
      go_wp2_with fail
      refine (h6 _ hB6).mono ?_
      rintro e w7 ⟨hp7, hb7⟩
      have hp8 := parsE_pf hp7
      rw [HPF.out] at hp8
      obtain ⟨vc, rfl, hSc⟩ := hp8
      have hB7 : Below W.heap.size W w7 := hB6.trans (hb7.mono hB6.size)
      have hal := alikeR_any vc s l l w7 hSc (HS.out.below hB7) (by have := HR.out.1; omega) (by have := HR.out.1; omega)
      clear hp7 hb7 hB6 h6 hSc
      go_wp2_with fail
      refine hal.mono ?_
      rintro e w8 ⟨tt, rfl, htt, n8, rfl⟩
      obtain rfl : tt = true := htt.2 (by first | trivial | rfl)
      have hB8 : Below W.heap.size W (w7.drewN n8) := below_drewN hB7 _
      clear hal htt hB7
      go_wp2_with fail
      refine (hk _ hB8).mono ?_
      rintro e w9 ⟨rfl, hb9⟩
      have hB9 : Below W.heap.size W w9 := hB8.trans (hb9.mono hB8.size)
      go_wp2
      go_ret
      exact ⟨rfl, hB9⟩
  · rw [rightB_no hR]
    clear h6 hR
    go_wp2_with fail
    refine (hk _ hB6).mono ?_
    rintro e w7 ⟨rfl, hb7⟩
    have hB7 : Below W.heap.size W w7 := hB6.trans (hb7.mono hB6.size)
    go_wp2
    go_ret
    exact ⟨rfl, hB7⟩
end Go.Proofs.YtopelhdepocoiaaDoor
