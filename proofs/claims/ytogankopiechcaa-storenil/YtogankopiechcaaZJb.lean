/-
  What is proved here: whether any two lists of ranges are the same.
-/
import Derived.Test.YtogankopiechcaaZEf
namespace Go.Proofs.Ytogankopiechcaa.Dm
set_option linter.unusedSimpArgs false
set_option linter.unusedVariables false
open Go.RowKit
theorem tk_len (l : List Rg) : (tk l).length ≤ 4096 := (tk_right l).1
theorem rg_ext {a b : List Rg} (hl : a.length = b.length) (h : ∀ k, k < a.length → lo a k = lo b k ∧ hi a k = hi b k) : a = b := by
  refine List.ext_getElem hl fun i h1 h2 => ?_
  have := h i h1
  rw [lo_get a i h1, lo_get b i h2, hi_get a i h1, hi_get b i h2] at this
  exact Prod.ext this.1 this.2
set_option maxHeartbeats 2000000 in
theorem equalR_any (s1 s2 : Value) (la lb : List Rg) (w : World) (h1 : Sr w s1 la) (h2 : Sr w s2 lb) (hr1 : la.length ≤ 100000) (hr2 : lb.length ≤ 100000) :
    Calls Try.prog 58 #[s1, s2] w fun e w' => ∃ t, e = .returned (.bool t) ∧ (t = true ↔ la = lb) ∧ ∃ nq, w' = w.drewN nq := by
  obtain ⟨a1, c1, rfl, hc1⟩ := h1
  obtain ⟨a2, c2, rfl, hc2⟩ := h2
  obtain ⟨n, hn⟩ : ∃ n, la.length = n := ⟨_, rfl⟩
  obtain ⟨n2, hn2⟩ : ∃ n, lb.length = n := ⟨_, rfl⟩
  have HN : Hid (la.length = n) := hn
  have HN2 : Hid (lb.length = n2) := hn2
  rw [hn] at hc1 hr1 ⊢
  rw [hn2] at hc2 hr2 ⊢
  have HC1 : Hid _ := hc1
  have HC2 : Hid _ := hc2
  clear hn hn2 hc1 hc2
  by_cases hnn : n = n2
  · subst hnn
    go_enter Try.func58, Try.ntmps58
    go_wp2
    go_loopw [13] (fun i wr => ∃ k : Nat, k ≤ n ∧ i = .int .i64 (k : Int) ∧ (∀ j, j < k → lo la j = lo lb j ∧ hi la j = hi lb j) ∧ ∃ nq, wr = w.drewN nq) (fun i _ => n - (intOf i).toNat)
    case atStart => exact ⟨0, Nat.zero_le _, rfl, fun j hj => by omega, 0, rfl⟩
    case round =>
      obtain ⟨k, hk, rfl, hall, nq0, rfl⟩ := hrel
      have HALL : Hid (∀ j, j < k → lo la j = lo lb j ∧ hi la j = hi lb j) := hall
      clear hall
      by_cases hlt : k < n
      · obtain ⟨b1, o1, rfl, _, hcell1⟩ := HC1.out (by omega)
        obtain ⟨b2, o2, rfl, _, hcell2⟩ := HC2.out (by omega)
        obtain ⟨x1, y1⟩ := hcell1 k hlt
        obtain ⟨x2, y2⟩ := hcell2 k hlt
        have kk : (k : Int) < (n : Int) := by omega
        obtain ⟨p, hp⟩ : ∃ p, lo la k = p := ⟨_, rfl⟩
        obtain ⟨q, hq⟩ : ∃ p, hi la k = p := ⟨_, rfl⟩
        obtain ⟨r, hr⟩ : ∃ p, lo lb k = p := ⟨_, rfl⟩
        obtain ⟨u, hu⟩ : ∃ p, hi lb k = p := ⟨_, rfl⟩
        rw [hp] at x1
        rw [hq] at y1
        rw [hr] at x2
        rw [hu] at y2
        have HP : Hid (lo la k = p ∧ hi la k = q ∧ lo lb k = r ∧ hi lb k = u) := ⟨hp, hq, hr, hu⟩
        clear hcell1 hcell2 hp hq hr hu
        by_cases e1 : p = r
        · subst e1
          by_cases e2 : q = u
          · subst e2
            go_wp2
            go_quiet (fail)
            go_wp2
            go_roundw
            case rel => exact ⟨k + 1, by omega, by go_num, fun j hj => if h : j = k then by obtain ⟨g1, g2, g3, g4⟩ := HP.out; rw [h, g1, g2, g3, g4]; exact ⟨rfl, rfl⟩ else HALL.out j (by omega), _, rfl⟩
            case measure => simp [intOf]; omega
          · have z1 : (q == u) = false := by simpa using e2
            have z2 : (q != u) = true := by simpa using e2
            have z3 : decide (q = u) = false := by simpa using e2
            go_wp2
            go_quiet (fail)
            go_wp2
            (try rw [Exit.noGoto_ret])
            go_ret
            exact ⟨false, rfl, ⟨fun h => by simp at h, fun h => by obtain ⟨g1, g2, g3, g4⟩ := HP.out; rw [h] at g2; exact absurd (g2.symm.trans g4) e2⟩, _, World.drewN_drewN _ _ _⟩
        · have z1 : (p == r) = false := by simpa using e1
          have z2 : (p != r) = true := by simpa using e1
          have z3 : decide (p = r) = false := by simpa using e1
          go_wp2
          go_quiet (fail)
          go_wp2
          (try rw [Exit.noGoto_ret])
          go_ret
          exact ⟨false, rfl, ⟨fun h => by simp at h, fun h => by obtain ⟨g1, g2, g3, g4⟩ := HP.out; rw [h] at g1; exact absurd (g1.symm.trans g3) e1⟩, _, World.drewN_drewN _ _ _⟩
      · obtain rfl : k = n := by omega
        go_wp2
        (try rw [Exit.noGoto_ret])
        go_ret
        exact ⟨true, rfl, ⟨fun _ => rg_ext (by rw [HN.out, HN2.out]) (fun j hj => HALL.out j (by rw [← HN.out]; exact hj)), fun _ => rfl⟩, _, rfl⟩
  · have z1 : ((n : Int) == (n2 : Int)) = false := by simpa using (fun h => hnn (by omega))
    have z2 : ((n : Int) != (n2 : Int)) = true := by simp; omega
    have z3 : decide ((n : Int) = (n2 : Int)) = false := by simp; omega
    go_enter Try.func58, Try.ntmps58
    go_wp2
    (try rw [Exit.noGoto_ret])
    go_ret
    exact ⟨false, rfl, ⟨fun h => by simp at h, fun h => absurd (by rw [← HN.out, ← HN2.out, h]) hnn⟩, 0, rfl⟩
set_option maxHeartbeats 1000000 in
theorem domsame_any (s1 s2 : Value) (la lb : List Rg) (w : World) (h1 : Sr w s1 la) (h2 : Sr w s2 lb) (hf1 : FitsR la) (hf2 : FitsR lb) :
    Calls Try.prog 44 #[s1, s2] w fun e w' => ∃ t, e = .returned (.bool t) ∧ (t = true ↔ tk la = tk lb) ∧ Below w.heap.size w w' := by
  have hk1 := known_tk s1 la w h1 hf1
  have hk2 := fun W (hW : Below w.heap.size w W) => known_tk s2 lb W (h2.below hW) hf2
  obtain ⟨a1, c1, rfl, _⟩ := h1
  obtain ⟨a2, c2, rfl, _⟩ := h2
  clear hf1 hf2
  go_enter Try.func44, Try.ntmps44
  go_wp2_with fail
  refine hk1.mono ?_
  clear hk1
  rintro e w1 ⟨a, n, c, rfl, hS1, hn1, hb1⟩
  have HS1 : Hid (Sr w (.slice a n c) (tk la)) := hS1
  clear hS1 hn1
  go_wp2_with fail
  refine (hk2 _ hb1).mono ?_
  clear hk2
  rintro e w2 ⟨a', n', c', rfl, hS2, hn2, hb2⟩
  have hb12 : Below w.heap.size w w2 := hb1.trans (hb2.mono hb1.size)
  have HS2 : Hid (Sr w2 (.slice a' n' c') (tk lb)) := hS2.below hb2
  clear hS2 hn2 hb2
  go_wp2_with fail
  refine (equalR_any _ _ (tk la) (tk lb) _ (HS1.out.below hb12) HS2.out (by have := tk_len la; omega) (by have := tk_len lb; omega)).mono ?_
  rintro e w3 ⟨t, rfl, ht, nq, rfl⟩
  have HT : Hid _ := ht
  clear ht
  go_wp2
  go_ret
  exact ⟨t, rfl, HT.out, below_drewN hb12 _⟩
end Go.Proofs.Ytogankopiechcaa.Dm
