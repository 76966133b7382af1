/-
  What is proved here: A block alone is read: Read; a run's text is read: Stream.
-/
import Derived.Test.YtdnhhmnllhlbbaaGreatDoorPo
namespace Go.Proofs.YtdnhhmnllhlbbaaGreatDoor
open Go.RowKit Go.Shelf
set_option linter.unusedVariables false
set_option linter.unusedSimpArgs false
theorem results_tmp4 {fn : Func} {t u v x : Tmp} (h : fn.results = #[.tmp t, .tmp u, .tmp v, .tmp x]) (tmps : Array Value) (P : Program) (w : World) :
    (results fn tmps).run P w = .ok (.tuple #[tmps.getD t undef, tmps.getD u undef, tmps.getD v undef, tmps.getD x undef]) w := by
  simp [results, h]
def saB (h : Int) : Bool := decide (h = 2) || decide (h = 4)

set_option maxRecDepth 100000 in
set_option maxHeartbeats 4000000 in
theorem alone49 (h : Int) (W : World) : Calls Tryz.prog 49 #[.int .i64 h] W fun e w' => e = .returned (.bool (saB h)) ∧ w' = W := by
  by_cases h2 : h = 2
  · subst h2
    go_enter Tryz.func49, Tryz.ntmps49
    go_wp2
    go_ret
    exact ⟨rfl, rfl⟩
  by_cases h4 : h = 4
  · subst h4
    go_enter Tryz.func49, Tryz.ntmps49
    go_wp2
    go_ret
    exact ⟨rfl, rfl⟩
  · have q2 : (h == 2) = false := by simpa using h2
    have q4 : (h == 4) = false := by simpa using h4
    have e : saB h = false := by unfold saB; simp [h2, h4]
    rw [e]
    go_enter Tryz.func49, Tryz.ntmps49
    go_wp2
    go_ret
    exact ⟨rfl, rfl⟩
theorem refT_ok {s : List UInt8} {l : List Ou} (hr : RightN l = 0) (hs : s.length ≤ 1048576) : refT s l = 0 := by
  unfold refT
  rw [if_neg (by rw [hr]; simp), if_neg (by omega)]
/-- What Read does of a block alone. -/
def ReadE (xs : List (List Vl)) (W : World) (e : Ending) (w : World) : Prop := ∃ sv, e = .returned (.tuple #[sv, .int .i64 0, .int .i64 0]) ∧ SvvX (fun b => b < W.heap.size) w sv xs ∧ Below W.heap.size W w

set_option maxRecDepth 100000 in
set_option maxHeartbeats 4000000 in
theorem read21 {W : World} {os : Value} {l : List Ou} {vals : List Vl} {xs : List (List Vl)} (h : Sou W os l) (hr : RightN l = 0) (hz : ∀ o ∈ l, OuZ o) (hnm : ∀ o ∈ l, o.nm.length ≤ 10000000000) (hxs : ousV l vals = some xs)
    (hs : (blockT l xs).length ≤ 1048576) (hT : Tens W) (hM : MaxL W) :
    Calls Tryz.prog 21 #[.string (bs (blockT l xs)), os] W fun e w' => ReadE xs W e w' := by
  obtain ⟨hn1, hwr⟩ := right_ok hr
  have k1 := refused45 (blockT l xs) h (by omega) hz (by omega)
  rw [refT_ok hr hs] at k1
  have K2 : Hid (∀ X, Below W.heap.size W X → Calls Tryz.prog 46 #[.string (bs (blockT l xs)), .int .i64 ((0 : Nat) : Int), os] X fun e w' => ReadB (0 + (blockT l xs).length) xs X e w') := fun X hX => block46 (p := 0) (blockT l xs) [] (h.below hX) hr hz hnm hxs (by simp) (Nat.zero_le _) (by omega) (hT.self hX) (hM.self hX)
  obtain ⟨oa, on, oc, rfl⟩ : ∃ a n c, os = .slice a n c := by obtain ⟨a, c, e, _⟩ := h; exact ⟨_, _, _, e⟩
  obtain ⟨T, hT'⟩ : ∃ T, blockT l xs = T := ⟨_, rfl⟩
  obtain ⟨m, hm⟩ : ∃ m, T.length = m := ⟨_, rfl⟩
  rw [hT'] at k1 K2 ⊢
  have hz1 : (bs T).size = m := hm
  rw [hm, Nat.zero_add] at K2
  obtain ⟨S, hS⟩ : ∃ S, bs T = S := ⟨_, rfl⟩
  rw [hS] at k1 K2 hz1 ⊢
  have hzz : (S.size : Int) = m := by omega
  have hlt : ¬ (m : Int) < (m : Int) := by omega
  clear h hr hz hnm hxs hs hT hM hn1 hwr hT' hm hS hz1
  go_enter Tryz.func21, Tryz.ntmps21
  go_wp2_with fail
  refine k1.mono ?_
  rintro e w1 ⟨rfl, hb1⟩
  have HB1 : Hid (Below W.heap.size W w1) := hb1
  have k2 := K2.out w1 hb1
  clear k1 hb1
  go_wp2_with fail
  refine k2.mono ?_
  rintro e w2 ⟨sv, rfl, hsv, hb2⟩
  have HSV : Hid (SvvX (fun b => b < W.heap.size) w2 sv xs) := hsv.mono (fun b q => by have := HB1.out.size; omega)
  have HB2 : Hid (Below W.heap.size W w2) := HB1.out.trans (hb2.mono HB1.out.size)
  obtain ⟨sa, sc, rfl, _⟩ := id hsv
  obtain ⟨sn, hsn⟩ : ∃ n, xs.length = n := ⟨_, rfl⟩
  rw [hsn] at HSV ⊢
  clear k2 hsv hb2 hsn
  go_wp2
  go_ret3
  exact ⟨_, rfl, HSV.out, HB2.out⟩
/-- What Stream does of blocks, a last line, and more. -/
def StrE (l : List Ou) (xss : List (List (List Vl))) (how a b c : Int) (r : List UInt8) (W : World) (e : Ending) (w : World) : Prop :=
  (((xss ≠ [] ∧ saB (howN how) = true) ∧ e = .returned (.tuple #[.slice none 0 0, .int .i64 0, .int .i64 210, .int .i64 (((blksT l xss).length : Nat) : Int)])) ∨
  (¬ (xss ≠ [] ∧ saB (howN how) = true) ∧ r ≠ [] ∧ e = .returned (.tuple #[.slice none 0 0, .int .i64 0, .int .i64 210, .int .i64 (((blksT l xss).length + (statT how a b c).length : Nat) : Int)])) ∨
  (¬ (xss ≠ [] ∧ saB (howN how) = true) ∧ r = [] ∧ ∃ sv, e = .returned (.tuple #[sv, .int .i64 (howN how), .int .i64 0, .int .i64 0]) ∧ Sv3 (fun b => b < W.heap.size) w sv xss)) ∧ Below W.heap.size W w

set_option maxRecDepth 100000 in
set_option maxHeartbeats 4000000 in
theorem stream22 {W : World} {os : Value} {l : List Ou} {xss : List (List (List Vl))} (r : List UInt8) (how a b c : Int) (h : Sou W os l) (hr : RightN l = 0) (hz : ∀ o ∈ l, OuZ o) (hnm : ∀ o ∈ l, o.nm.length ≤ 10000000000) (hxs : ∀ x ∈ xss, ∃ vals, ousV l vals = some x)
    (a0 : 0 ≤ a) (a1 : a ≤ 1000000) (b0 : 0 ≤ b) (b1 : b ≤ 1000000) (c0 : 0 ≤ c) (c1 : c ≤ 1000000) (hs : (blksT l xss ++ (statT how a b c ++ r)).length ≤ 1048576) (hT : Tens W) (hM : MaxL W) :
    Calls Tryz.prog 22 #[.string (bs (blksT l xss ++ (statT how a b c ++ r))), os] W fun e w' => StrE l xss how a b c r W e w' := by
  obtain ⟨hn1, hwr⟩ := right_ok hr
  have k1 := refused45 (blksT l xss ++ (statT how a b c ++ r)) h (by omega) hz (by omega)
  rw [refT_ok hr hs] at k1
  obtain ⟨q, hq⟩ := stat_61 how a b c
  have K2 : Hid (∀ X, Below W.heap.size W X → Calls Tryz.prog 47 #[.string (bs (blksT l xss ++ (statT how a b c ++ r))), os] X fun e w' => ReadBs (blksT l xss).length xss X e w') := fun X hX => blocks47 (blksT l xss ++ (statT how a b c ++ r)) (q ++ r) (h.below hX) hr hz hnm hxs (by rw [hq]; rfl) (by omega) (hT.self hX) (hM.self hX)
  have K3 : Hid (∀ X, Below W.heap.size W X → Calls Tryz.prog 48 #[.string (bs (blksT l xss ++ (statT how a b c ++ r))), .int .i64 (((blksT l xss).length : Nat) : Int)] X fun e w' => e = .returned (.tuple #[.int .i64 (howN how), .int .i64 (((blksT l xss).length + (statT how a b c).length : Nat) : Int)]) ∧ Below X.heap.size X w') := fun X hX => ending48 (p := (blksT l xss).length) (blksT l xss ++ (statT how a b c ++ r)) r how a b c a0 a1 b0 b1 c0 c1 List.drop_left (by simp) (by omega) (hT.self hX) (hM.self hX)
  obtain ⟨oa, on, oc, rfl⟩ : ∃ a n c, os = .slice a n c := by obtain ⟨a, c, e, _⟩ := h; exact ⟨_, _, _, e⟩
  have hm : (blksT l xss ++ (statT how a b c ++ r)).length = (blksT l xss).length + (statT how a b c).length + r.length := by simp only [List.length_append]; omega
  obtain ⟨T, hT'⟩ : ∃ T, blksT l xss ++ (statT how a b c ++ r) = T := ⟨_, rfl⟩
  rw [hT'] at k1 K2 K3 hm hs ⊢
  have hz1 : (bs T).size = T.length := rfl
  obtain ⟨S, hS⟩ : ∃ S, bs T = S := ⟨_, rfl⟩
  rw [hS] at k1 K2 K3 hz1 ⊢
  obtain ⟨q1, hq1⟩ : ∃ q, (blksT l xss).length = q := ⟨_, rfl⟩
  obtain ⟨q2, hq2⟩ : ∃ q, q1 + (statT how a b c).length = q := ⟨_, rfl⟩
  obtain ⟨h9, hh9⟩ : ∃ h, howN how = h := ⟨_, rfl⟩
  rw [hq1, hq2, hh9] at K3
  rw [hq1] at K2
  have HQ : Hid ((blksT l xss).length = q1 ∧ q1 + (statT how a b c).length = q2 ∧ howN how = h9) := ⟨hq1, hq2, hh9⟩
  have h90 : (h9 == 0) = false := by rw [← hh9]; unfold howN; split <;> simp <;> omega
  have hzz : (S.size : Int) = ((q2 + r.length : Nat) : Int) := by rw [← hq2, ← hq1]; omega
  obtain ⟨n, hn⟩ : ∃ n, xss.length = n := ⟨_, rfl⟩
  have HN : Hid (xss.length = n) := hn
  obtain ⟨rn, hrn⟩ : ∃ n, r.length = n := ⟨_, rfl⟩
  rw [hrn] at hzz
  have HRN : Hid (r.length = rn) := hrn
  clear h hr hz hnm hxs hs hT hM hn1 hwr hT' hm hS hz1 hq hq1 hq2 hh9 a0 a1 b0 b1 c0 c1 hn hrn
  go_enter Tryz.func22, Tryz.ntmps22
  go_wp2_with fail
  refine k1.mono ?_
  rintro e w1 ⟨rfl, hb1⟩
  have HB1 : Hid (Below W.heap.size W w1) := hb1
  have k2 := K2.out w1 hb1
  clear k1 hb1
  go_wp2_with fail
  refine k2.mono ?_
  rintro e w2 ⟨sv, rfl, hsv, hb2⟩
  have HSV : Hid (Sv3 (fun b => b < W.heap.size) w2 sv xss) := hsv.mono (fun b q => by have := HB1.out.size; omega)
  have HB2 : Hid (Below W.heap.size W w2) := HB1.out.trans (hb2.mono HB1.out.size)
  obtain ⟨sa, sc, rfl, _⟩ := id hsv
  rw [HN.out] at HSV ⊢
  have k3 := K3.out w2 HB2.out
  clear k2 hsv hb2
  go_wp2_with fail
  refine k3.mono ?_
  rintro e w3 ⟨rfl, hb3⟩
  have HB3 : Hid (Below W.heap.size W w3) := HB2.out.trans (hb3.mono HB2.out.size)
  have HSV3 : Hid (Sv3 (fun b => b < W.heap.size) w3 (.slice sa n sc) xss) := HSV.out.below hb3
  have k4 := alone49 h9 w3
  have hw2 : ¬ xss ≠ [] ↔ n = 0 := by rw [← HN.out]; simp
  have hw3 : r = [] ↔ rn = 0 := by rw [← HRN.out]; simp
  have HW2 : Hid _ := hw2
  have HW3 : Hid _ := hw3
  clear k3 hb3 HB2 HSV hw2 hw3
  have fin2 : ∀ (hno : ¬ (xss ≠ [] ∧ saB (howN how) = true)) (hr : 0 < rn), StrE l xss how a b c r W (.returned (.tuple #[.slice none 0 0, .int .i64 0, .int .i64 210, .int .i64 (q2 : Int)])) w3 := fun hno hr => ⟨.inr (.inl ⟨hno, fun e => by have := HW3.out.1 e; omega, by rw [HQ.out.1, HQ.out.2.1]⟩), HB3.out⟩
  have fin3 : ∀ (hno : ¬ (xss ≠ [] ∧ saB (howN how) = true)) (hr : rn = 0), StrE l xss how a b c r W (.returned (.tuple #[.slice sa n sc, .int .i64 h9, .int .i64 0, .int .i64 0])) w3 := fun hno hr => ⟨.inr (.inr ⟨hno, HW3.out.2 hr, _, by rw [HQ.out.2.2], HSV3.out⟩), HB3.out⟩
  have FIN2 : Hid _ := fin2
  have FIN3 : Hid _ := fin3
  clear fin2 fin3
  by_cases hn0 : 0 < n
  · have hn0' : (0 : Int) < (n : Int) := by omega
    by_cases hsa : saB h9 = true
    · rw [hsa] at k4
      have HF : Hid (StrE l xss how a b c r W (.returned (.tuple #[.slice none 0 0, .int .i64 0, .int .i64 210, .int .i64 (q1 : Int)])) w3) := ⟨.inl ⟨⟨fun e => by have := HW2.out.1 (not_not_intro e); omega, by rw [HQ.out.2.2]; exact hsa⟩, by rw [HQ.out.1]⟩, HB3.out⟩
      clear hsa
      go_wp2_with fail
      refine k4.mono ?_
      rintro e w4 ⟨rfl, rfl⟩
      clear k4
      go_wp2
      (try simp only [Exit.inBlock, Exit.then])
      refine bodyPost_ret (results_tmp4 rfl _ _ _) rfl ?_
      exact HF.out
    · have hsa' : saB h9 = false := by simpa using hsa
      have HNO : Hid (¬ (xss ≠ [] ∧ saB (howN how) = true)) := fun h => hsa (by rw [← HQ.out.2.2]; exact h.2)
      rw [hsa'] at k4
      clear hsa hsa'
      by_cases hr0 : 0 < rn
      · have HF : Hid _ := FIN2.out HNO.out hr0
        have hlt : (q2 : Int) < ((q2 + rn : Nat) : Int) := by omega
        go_wp2_with fail
        refine k4.mono ?_
        rintro e w4 ⟨rfl, rfl⟩
        clear k4
        go_wp2
        (try simp only [Exit.inBlock, Exit.then])
        refine bodyPost_ret (results_tmp4 rfl _ _ _) rfl ?_
        exact HF.out
      · have HF : Hid _ := FIN3.out HNO.out (by omega)
        have hlt : ¬ (q2 : Int) < ((q2 + rn : Nat) : Int) := by omega
        go_wp2_with fail
        refine k4.mono ?_
        rintro e w4 ⟨rfl, rfl⟩
        clear k4
        go_wp2
        (try simp only [Exit.inBlock, Exit.then])
        refine bodyPost_ret (results_tmp4 rfl _ _ _) rfl ?_
        exact HF.out
  · have hn0' : ¬ (0 : Int) < (n : Int) := by omega
    have HNO : Hid (¬ (xss ≠ [] ∧ saB (howN how) = true)) := fun h => HW2.out.2 (by omega) h.1
    clear k4
    by_cases hr0 : 0 < rn
    · have HF : Hid _ := FIN2.out HNO.out hr0
      have hlt : (q2 : Int) < ((q2 + rn : Nat) : Int) := by omega
      go_wp2
      (try simp only [Exit.inBlock, Exit.then])
      refine bodyPost_ret (results_tmp4 rfl _ _ _) rfl ?_
      exact HF.out
    · have HF : Hid _ := FIN3.out HNO.out (by omega)
      have hlt : ¬ (q2 : Int) < ((q2 + rn : Nat) : Int) := by omega
      go_wp2
      (try simp only [Exit.inBlock, Exit.then])
      refine bodyPost_ret (results_tmp4 rfl _ _ _) rfl ?_
      exact HF.out
end Go.Proofs.YtdnhhmnllhlbbaaGreatDoor
