/-
  What is proved here: what the reference's float and number answer.
-/
import Derived.Test.YtokcbiafajpmoaaDoorTa
namespace Go.Proofs.YtokcbiafajpmoaaDoor
open Go.RowKit
set_option linter.unusedVariables false
set_option linter.unusedSimpArgs false
theorem goes_at (l : List UInt8) (a : Nat) (c : UInt8) (hc : l[a]? = some c) : l.drop a = c :: l.drop (a + 1) := by
  obtain ⟨h1, h2⟩ := List.getElem?_eq_some_iff.1 hc
  rw [List.drop_eq_getElem_cons h1, h2]
theorem goesB_c (c : UInt8) (r : List UInt8) : goesB (c :: r) = if c.toNat = 46 then bdig r else if c.toNat = 101 ∨ c.toNat = 69 then bdig r || bsgn r else false := rfl

set_option maxRecDepth 100000 in
set_option maxHeartbeats 4000000 in
theorem float41 (l : List UInt8) (a : Nat) (ha : a ≤ l.length) (hl : l.length ≤ 140737488355328) (W : World) :
    Calls Tryd.prog 41 #[.string (bs l), .int .i64 (a : Int)] W fun e w' => e = .returned (.bool (goesB (l.drop a))) ∧ w' = W := by
  have hsz : (bs l).size = l.length := bs_size l
  obtain ⟨n, hn⟩ : ∃ n, l.length = n := ⟨_, rfl⟩
  rw [hn] at hsz ha hl
  obtain ⟨a1, ha1⟩ : ∃ a1, a + 1 = a1 := ⟨_, rfl⟩
  obtain ⟨a2, ha2⟩ : ∃ a2, a1 + 1 = a2 := ⟨_, rfl⟩
  have hw1 : IntKind.i64.wrap ((a : Int) + 1) = (a1 : Int) := by rw [IntKind.wrap_i64]; omega
  have hw2 : IntKind.i64.wrap ((a1 : Int) + 1) = (a2 : Int) := by rw [IntKind.wrap_i64]; omega
  by_cases h0 : a < n
  · obtain ⟨c, hc⟩ : ∃ c, l[a]? = some c := ⟨_, List.getElem?_eq_getElem (by rw [hn]; exact h0)⟩
    have hd := goes_at l a c hc
    obtain ⟨hx0, hx⟩ := bs_get l a c hc
    have hc2 : c.toNat < 256 := c.toNat_lt
    have g0 : ¬ (n : Int) ≤ (a : Int) := by omega
    rw [hd, goesB_c, ha1]
    by_cases h1 : a1 < n
    · obtain ⟨d, hdd⟩ : ∃ d, l[a1]? = some d := ⟨_, List.getElem?_eq_getElem (by rw [hn]; exact h1)⟩
      have hd1 := goes_at l a1 d hdd
      obtain ⟨hy0, hy⟩ := bs_get l a1 d hdd
      have hc3 : d.toNat < 256 := d.toNat_lt
      have g1 : (a1 : Int) < (n : Int) := by omega
      rw [hd1, ha2]
      by_cases h46 : c = 46
      · subst h46
        have hv : (if (46 : UInt8).toNat = 46 then bdig (d :: l.drop a2) else if (46 : UInt8).toNat = 101 ∨ (46 : UInt8).toNat = 69 then bdig (d :: l.drop a2) || bsgn (d :: l.drop a2) else false) = digB d := rfl
        rw [hv]
        clear hv hd hd1 hc hdd
        cases hdg : digB d <;>
        · go_enter Tryd.func41, Tryd.ntmps41
          go_wp2_with (go_at_call 23; refine (digit23 _ _).mono ?_; rw [hdg]; rintro e w' ⟨rfl, rfl⟩)
          go_ret
          refine ⟨?_, rfl⟩
          rfl
      · have h46' : ¬ c.toNat = 46 := fun h => h46 (UInt8.toNat_inj.1 h)
        have e1 : ((c.toNat : Int) == 46) = false := by simp; omega
        rw [if_neg h46']
        by_cases he : c = 101 ∨ c = 69
        · rw [if_pos (by rcases he with rfl | rfl <;> simp)]
          by_cases hsg : d = 45 ∨ d = 43
          · have hv : (bdig (d :: l.drop a2) || bsgn (d :: l.drop a2)) = bdig (l.drop a2) := by
              rcases hsg with rfl | rfl <;> rfl
            rw [hv]
            clear hv hd hd1 hc hdd h46 h46'
            by_cases h2 : a2 < n
            · obtain ⟨q, hq⟩ : ∃ q, l[a2]? = some q := ⟨_, List.getElem?_eq_getElem (by rw [hn]; exact h2)⟩
              obtain ⟨hz0, hz⟩ := bs_get l a2 q hq
              have g2 : (a2 : Int) < (n : Int) := by omega
              rw [goes_at l a2 q hq]
              have hv : bdig (q :: l.drop (a2 + 1)) = digB q := rfl
              rw [hv]
              clear hv hq
              rcases he with rfl | rfl <;> rcases hsg with rfl | rfl <;>
              · go_enter Tryd.func41, Tryd.ntmps41
                go_wp2_with (go_at_call 23; refine (digit23 _ _).mono ?_; rintro e w' ⟨rfl, rfl⟩)
                go_ret
                refine ⟨?_, rfl⟩
                rfl
            · have g2 : ¬ (a2 : Int) < (n : Int) := by omega
              rw [List.drop_eq_nil_of_le (by omega)]
              rcases he with rfl | rfl <;> rcases hsg with rfl | rfl <;>
              · go_enter Tryd.func41, Tryd.ntmps41
                go_wp2
                go_ret
                refine ⟨?_, rfl⟩
                rfl
          · have q1 : ¬ d.toNat = 45 := fun h => hsg (.inl (UInt8.toNat_inj.1 h))
            have q2 : ¬ d.toNat = 43 := fun h => hsg (.inr (UInt8.toNat_inj.1 h))
            have e2 : ((d.toNat : Int) == 45) = false := by simp; omega
            have e3 : ((d.toNat : Int) == 43) = false := by simp; omega
            have hv : (bdig (d :: l.drop a2) || bsgn (d :: l.drop a2)) = digB d := by
              have : sgnB d = false := by simp [sgnB, q1, q2]
              simp [bdig, bsgn, this]
            rw [hv]
            clear hv hd hd1 hc hdd h46 h46' hsg q1 q2
            rcases he with rfl | rfl <;>
            · go_enter Tryd.func41, Tryd.ntmps41
              go_wp2_with (go_at_call 23; refine (digit23 _ _).mono ?_; rintro e w' ⟨rfl, rfl⟩)
              go_ret
              refine ⟨?_, rfl⟩
              rfl
        · have q1 : ¬ c.toNat = 101 := fun h => he (.inl (UInt8.toNat_inj.1 h))
          have q2 : ¬ c.toNat = 69 := fun h => he (.inr (UInt8.toNat_inj.1 h))
          have e2 : ((c.toNat : Int) != 101) = true := by simp; omega
          have e3 : ((c.toNat : Int) != 69) = true := by simp; omega
          have e4 : ((c.toNat : Int) == 101) = false := by simp; omega
          have e5 : ((c.toNat : Int) == 69) = false := by simp; omega
          rw [if_neg (by omega)]
          clear hd hd1 hc hdd h46 h46' he q1 q2
          go_enter Tryd.func41, Tryd.ntmps41
          go_wp2
          go_ret
          refine ⟨?_, rfl⟩
          rfl
    · have g1 : ¬ (a1 : Int) < (n : Int) := by omega
      rw [List.drop_eq_nil_of_le (by omega)]
      have hv : (if c.toNat = 46 then bdig [] else if c.toNat = 101 ∨ c.toNat = 69 then bdig [] || bsgn [] else false) = false := by
        split
        · rfl
        · split <;> rfl
      rw [hv]
      by_cases he : c = 101 ∨ c = 69
      · clear hv hd hc
        rcases he with rfl | rfl <;>
        · go_enter Tryd.func41, Tryd.ntmps41
          go_wp2
          go_ret
          refine ⟨?_, rfl⟩
          rfl
      · have q1 : ¬ c.toNat = 101 := fun h => he (.inl (UInt8.toNat_inj.1 h))
        have q2 : ¬ c.toNat = 69 := fun h => he (.inr (UInt8.toNat_inj.1 h))
        have e2 : ((c.toNat : Int) != 101) = true := by simp; omega
        have e3 : ((c.toNat : Int) != 69) = true := by simp; omega
        have e4 : ((c.toNat : Int) == 101) = false := by simp; omega
        have e5 : ((c.toNat : Int) == 69) = false := by simp; omega
        clear hv hd hc he q1 q2
        go_enter Tryd.func41, Tryd.ntmps41
        go_wp2
        go_ret
        refine ⟨?_, rfl⟩
        rfl
  · have g0 : (n : Int) ≤ (a : Int) := by omega
    have g1 : ¬ (a1 : Int) < (n : Int) := by omega
    rw [List.drop_eq_nil_of_le (by omega)]
    go_enter Tryd.func41, Tryd.ntmps41
    go_wp2
    go_ret
    refine ⟨?_, rfl⟩
    rfl
/-- The number that digits spell, not beyond a bound. -/
def capS (acc : Nat) (c : UInt8) : Nat := if 1000000000 < 10 * acc + (c.toNat - 48) then 1000000001 else 10 * acc + (c.toNat - 48)
def capV (l : List UInt8) : Nat := l.foldl capS 0
theorem capV_app (l : List UInt8) (c : UInt8) : capV (l ++ [c]) = capS (capV l) c := by unfold capV; rw [List.foldl_append]; rfl
theorem cap_fold : ∀ (l : List UInt8) (acc acc' : Nat), acc = min acc' 1000000001 → l.foldl capS acc = min (numV l acc') 1000000001
  | [], acc, acc', h => h
  | c :: r, acc, acc', h => by
    rw [List.foldl_cons]
    refine cap_fold r _ (acc' * 10 + (c.toNat - 48)) ?_
    unfold capS
    generalize c.toNat - 48 = d
    split <;> omega
theorem capV_min (l : List UInt8) : capV l = min (numV l 0) 1000000001 := cap_fold l 0 0 rfl
theorem pu_any : ∀ (l : List UInt8) (acc : Nat), (∀ b ∈ l, Dig b) → Lib.parseUint10 acc l = .ok (numV l acc) ∨ (Lib.parseUint10 acc l = .range ∧ 1000000000 < numV l acc)
  | [], acc, _ => .inl rfl
  | c :: r, acc, h => by
    have hb := h c (by simp)
    unfold Dig at hb
    have hge := numV_ge r (acc * 10 + (c.toNat - 48))
    rw [Lib.parseUint10, if_pos hb]
    simp only [numV]
    split
    · right; exact ⟨rfl, by omega⟩
    · split
      · right; exact ⟨rfl, by omega⟩
      · exact pu_any r _ (fun e he => h e (by simp [he]))
theorem atoi_neg (ds : List UInt8) (h : ∀ b ∈ ds, Dig b) (hn : ds ≠ []) : okv (Lib.parseIntB 64 (45 :: ds)) = some (-(numV ds 0 : Int)) ∨ (okv (Lib.parseIntB 64 (45 :: ds)) = none ∧ 1000000000 < numV ds 0) := by
  rw [Lib.parseIntB_64]
  simp only [Lib.atoiAll]
  rw [if_pos (by decide)]
  unfold Lib.parseMag
  rw [if_neg hn]
  rcases pu_any ds 0 h with h1 | ⟨h1, h2⟩
  · rw [h1]
    simp only [show ((45 : UInt8).toNat = 45) = True by simp, not_true_eq_false, false_and, if_false, true_and, if_true]
    split
    · right; exact ⟨rfl, by omega⟩
    · left; rfl
  · rw [h1]; right; exact ⟨rfl, h2⟩
theorem atoi_pos (c : UInt8) (ds : List UInt8) (h : ∀ b ∈ c :: ds, Dig b) : okv (Lib.parseIntB 64 (c :: ds)) = some (numV (c :: ds) 0 : Int) ∨ (okv (Lib.parseIntB 64 (c :: ds)) = none ∧ 1000000000 < numV (c :: ds) 0) := by
  have hc := h c (by simp)
  unfold Dig at hc
  rw [Lib.parseIntB_64]
  simp only [Lib.atoiAll]
  rw [if_neg (by omega)]
  unfold Lib.parseMag
  rw [if_neg (by simp)]
  have h45 : ¬ c.toNat = 45 := by omega
  rcases pu_any (c :: ds) 0 h with h1 | ⟨h1, h2⟩
  · rw [h1]
    simp only [h45, not_false_eq_true, true_and, false_and, if_false]
    split
    · right; exact ⟨rfl, by omega⟩
    · left; rfl
  · rw [h1]; right; exact ⟨rfl, h2⟩
theorem digs (l : List UInt8) : ∀ b ∈ l.take (spn digB l), Dig b := by
  intro b hb
  have := spn_all digB l _ (Nat.le_refl _) b hb
  unfold digB at this
  unfold Dig
  simpa using this
theorem num_neg (r : List UInt8) : numR (45 :: r) = if spn digB r = 0 ∨ 1000000000 < capV (r.take (spn digB r)) then .bad 150 else if goesB (r.drop (spn digB r)) then .bad 173 else .ok 2 (spn digB r + 1) (-(capV (r.take (spn digB r)) : Int)) := by
  have hl : numLen (45 :: r) = spn digB r + 1 := rfl
  have ht : (45 :: r).take (numLen (45 :: r)) = 45 :: r.take (spn digB r) := by rw [hl]; rfl
  have hcap := capV_min (r.take (spn digB r))
  by_cases h0 : spn digB r = 0
  · rw [if_pos (.inl h0)]
    refine numR_none _ ?_
    rw [ht, h0]
    rfl
  · have hne : r.take (spn digB r) ≠ [] := by
      intro he
      have h3 := congrArg List.length he
      rw [List.length_take, List.length_nil] at h3
      have h4 := spn_le digB r
      omega
    rcases atoi_neg _ (digs r) hne with h1 | ⟨h1, h2⟩
    · rw [numR_some _ _ (by rw [ht]; exact h1)]
      by_cases hb : 1000000000 < numV (r.take (spn digB r)) 0
      · have hR : spn digB r = 0 ∨ 1000000000 < capV (r.take (spn digB r)) := by omega
        have hL : (-(numV (r.take (spn digB r)) 0 : Int)) < -1000000000 ∨ 1000000000 < (-(numV (r.take (spn digB r)) 0 : Int)) := by omega
        rw [if_pos hL, if_pos hR]
      · have hR : ¬ (spn digB r = 0 ∨ 1000000000 < capV (r.take (spn digB r))) := by omega
        have hL : ¬ ((-(numV (r.take (spn digB r)) 0 : Int)) < -1000000000 ∨ 1000000000 < (-(numV (r.take (spn digB r)) 0 : Int))) := by omega
        rw [if_neg hL, if_neg hR, hl, List.drop_succ_cons, show capV (r.take (spn digB r)) = numV (r.take (spn digB r)) 0 by omega]
    · rw [numR_none _ (by rw [ht]; exact h1), if_pos (by omega)]
theorem num_pos (c : UInt8) (r : List UInt8) (hc : digB c = true) : numR (c :: r) = if spn digB (c :: r) = 0 ∨ 1000000000 < capV ((c :: r).take (spn digB (c :: r))) then .bad 150 else if goesB ((c :: r).drop (spn digB (c :: r))) then .bad 173 else .ok 2 (spn digB (c :: r)) (capV ((c :: r).take (spn digB (c :: r))) : Int) := by
  have hs : spn digB (c :: r) = spn digB r + 1 := by rw [spn_cons, if_pos hc]
  have hl : numLen (c :: r) = spn digB (c :: r) := by rw [hs]; rfl
  have hcap := capV_min ((c :: r).take (spn digB (c :: r)))
  have hdg := digs (c :: r)
  have ht : (c :: r).take (spn digB (c :: r)) = c :: r.take (spn digB r) := by rw [hs]; rfl
  have hp := atoi_pos c (r.take (spn digB r)) (by rw [← ht]; exact hdg)
  rw [← ht] at hp
  rcases hp with h1 | ⟨h1, h2⟩
  · rw [numR_some _ _ (by rw [hl]; exact h1)]
    by_cases hb : 1000000000 < numV ((c :: r).take (spn digB (c :: r))) 0
    · have hR : spn digB (c :: r) = 0 ∨ 1000000000 < capV ((c :: r).take (spn digB (c :: r))) := by omega
      have hL : ((numV ((c :: r).take (spn digB (c :: r))) 0 : Int)) < -1000000000 ∨ 1000000000 < (numV ((c :: r).take (spn digB (c :: r))) 0 : Int) := by omega
      rw [if_pos hL, if_pos hR]
    · have hR : ¬ (spn digB (c :: r) = 0 ∨ 1000000000 < capV ((c :: r).take (spn digB (c :: r)))) := by omega
      have hL : ¬ (((numV ((c :: r).take (spn digB (c :: r))) 0 : Int)) < -1000000000 ∨ 1000000000 < (numV ((c :: r).take (spn digB (c :: r))) 0 : Int)) := by omega
      rw [if_neg hL, if_neg hR, hl, show capV ((c :: r).take (spn digB (c :: r))) = numV ((c :: r).take (spn digB (c :: r))) 0 by omega]
  · rw [numR_none _ (by rw [hl]; exact h1), if_pos (by omega)]
end Go.Proofs.YtokcbiafajpmoaaDoor
