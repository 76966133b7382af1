/-
  What is proved here: what package lex's goesOn answers.
-/
import Derived.Test.YtokcbiafajpmoaaDoorLd
namespace Go.Proofs.YtokcbiafajpmoaaDoor
open Go.RowKit
set_option linter.unusedVariables false
set_option linter.unusedSimpArgs false

set_option maxRecDepth 100000 in
set_option maxHeartbeats 4000000 in
theorem goesOn_any (l : List UInt8) (hl : l.length ≤ 140737488355328) (W : World) : Calls Tryd.prog 43 #[.string (bs l)] W fun e w' => e = .returned (.bool (goesB l)) ∧ w' = W := by
  cases l with
  | nil =>
    have h0 := bs_e0
    go_enter Tryd.func43, Tryd.ntmps43
    go_wp2
    go_ret
    exact ⟨rfl, rfl⟩
  | cons c r =>
    obtain ⟨hx0, hx⟩ := bs_get (c :: r) 0 c rfl
    have h0 := bs_ne (c :: r) (by simp)
    have h1 := bs_nee (c :: r) (by simp)
    have hsz : (bs (c :: r)).size = r.length + 1 := bs_size _
    have hs1 : ∀ X, (Instr.slice 9 (.string (bs (c :: r))) (some (.int .i64 1)) none none).run Tryd.prog X = .ok (.string (bs r)) X := fun X => bs_from (c :: r) 1 (by simp) X
    have hb := fun X => bdig_any r X
    have hc2 : c.toNat < 256 := c.toNat_lt
    by_cases h46 : c = 46
    · subst h46
      go_enter Tryd.func43, Tryd.ntmps43
      go_wp2_with (go_at_call 54; refine (hb _).mono ?_; rintro e w' ⟨rfl, rfl⟩)
      go_ret
      exact ⟨rfl, rfl⟩
    · have h46' : ¬ c.toNat = 46 := fun h => h46 (UInt8.toNat_inj.1 h)
      have e1 : ((c.toNat : Int) == 46) = false := by simp; omega
      by_cases he : c = 101 ∨ c = 69
      · have hgo : goesB (c :: r) = (bdig r || bsgn r) := by
          show (if c.toNat = 46 then bdig r else if c.toNat = 101 ∨ c.toNat = 69 then bdig r || bsgn r else false) = _
          rw [if_neg h46', if_pos]
          rcases he with rfl | rfl
          · exact .inl rfl
          · exact .inr rfl
        rw [hgo]
        clear hgo
        by_cases hbd : bdig r = true
        · rw [hbd] at hb ⊢
          clear h46 h46'
          rcases he with rfl | rfl <;>
          · go_enter Tryd.func43, Tryd.ntmps43
            go_wp2_with (go_at_call 54; refine (hb _).mono ?_; rintro e w' ⟨rfl, rfl⟩)
            go_ret
            exact ⟨rfl, rfl⟩
        · have hbd2 : bdig r = false := by simpa using hbd
          rw [hbd2]
          clear hb
          cases r with
          | nil =>
            clear h46 h46'
            rcases he with rfl | rfl <;>
            · go_enter Tryd.func43, Tryd.ntmps43
              go_wp2_with (go_at_call 54; refine (bdig_any _ _).mono ?_; (try rw [hbd2]); rintro e w' ⟨rfl, rfl⟩)
              go_ret
              exact ⟨rfl, rfl⟩
          | cons d q =>
            have hs2 : ∀ X, (Instr.slice 9 (.string (bs (c :: d :: q))) (some (.int .i64 2)) none none).run Tryd.prog X = .ok (.string (bs q)) X := fun X => bs_from (c :: d :: q) 2 (by simp) X
            obtain ⟨hy0, hy⟩ := bs_get (c :: d :: q) 1 d rfl
            have hd2 : d.toNat < 256 := d.toNat_lt
            have hn1 : (1 : Int) < ((bs (c :: d :: q)).size : Int) := by omega
            have hQ : (false || bsgn (d :: q)) = (sgnB d && bdig q) := rfl
            rw [hQ]
            clear h46 h46' hQ hsz
            by_cases hd : d = 45 ∨ d = 43
            · have hsd : sgnB d = true := by rcases hd with rfl | rfl <;> rfl
              rw [hsd]
              rcases he with rfl | rfl <;> rcases hd with rfl | rfl <;>
              · go_enter Tryd.func43, Tryd.ntmps43
                go_wp2_with (go_at_call 54; refine (bdig_any _ _).mono ?_; (try rw [hbd2]); rintro e w' ⟨rfl, rfl⟩)
                go_ret
                exact ⟨rfl, rfl⟩
            · have q1 : ¬ d.toNat = 45 := fun h => hd (.inl (UInt8.toNat_inj.1 h))
              have q2 : ¬ d.toNat = 43 := fun h => hd (.inr (UInt8.toNat_inj.1 h))
              have hsd : sgnB d = false := by simp [sgnB, q1, q2]
              have e2 : ((d.toNat : Int) == 45) = false := by simp; omega
              have e3 : ((d.toNat : Int) == 43) = false := by simp; omega
              rw [hsd]
              rcases he with rfl | rfl <;>
              · go_enter Tryd.func43, Tryd.ntmps43
                go_wp2_with (go_at_call 54; refine (bdig_any _ _).mono ?_; (try rw [hbd2]); rintro e w' ⟨rfl, rfl⟩)
                go_ret
                exact ⟨rfl, rfl⟩
      · have q1 : ¬ c.toNat = 101 := fun h => he (.inl (UInt8.toNat_inj.1 h))
        have q2 : ¬ c.toNat = 69 := fun h => he (.inr (UInt8.toNat_inj.1 h))
        have e2 : ((c.toNat : Int) == 101) = false := by simp; omega
        have e3 : ((c.toNat : Int) == 69) = false := by simp; omega
        have hgo : goesB (c :: r) = false := by
          show (if c.toNat = 46 then bdig r else if c.toNat = 101 ∨ c.toNat = 69 then bdig r || bsgn r else false) = _
          rw [if_neg h46', if_neg (by omega)]
        rw [hgo]
        go_enter Tryd.func43, Tryd.ntmps43
        go_wp2
        go_ret
        exact ⟨rfl, rfl⟩
end Go.Proofs.YtokcbiafajpmoaaDoor
