/-
  What is proved here: what package lex's lineEnd and afterBlanks answer.
-/
import Derived.Test.YtokcbiafajpmoaaDoorLc
import Derived.Test.YtokcbiafajpmoaaDoorSh
namespace Go.Proofs.YtokcbiafajpmoaaDoor
open Go.RowKit
set_option linter.unusedVariables false
set_option linter.unusedSimpArgs false
theorem index_line (l : List UInt8) : Lib.indexByte l 10 = if spn lnB l < l.length then (spn lnB l : Int) else -1 := by
  induction l with
  | nil => rfl
  | cons c r ih =>
    rw [spn_cons]
    unfold Lib.indexByte
    by_cases h : c = 10
    · subst h
      rfl
    · have hb : (c == 10) = false := by simpa using h
      have hl : lnB c = true := by
        simp only [lnB, decide_eq_true_eq]
        intro h2
        exact h (UInt8.toNat_inj.1 h2)
      by_cases h3 : spn lnB r < r.length
      · rw [if_pos h3] at ih
        rw [hb, hl, ih]
        simp only [Bool.false_eq_true, if_false, if_true, List.length_cons]
        have : ¬ ((spn lnB r : Int) == -1) = true := by simp
        rw [if_neg this, if_pos (by omega)]
        rfl
      · rw [if_neg h3] at ih
        rw [hb, hl, ih]
        simp only [Bool.false_eq_true, if_false, if_true, List.length_cons]
        have h4 : ¬ (spn lnB r + 1 < r.length + 1) := by omega
        rw [if_neg h4]
        rfl

set_option maxRecDepth 100000 in
set_option maxHeartbeats 4000000 in
theorem lineEnd_any (l : List UInt8) (a : Nat) (ha : a ≤ l.length) (hl : l.length ≤ 140737488355328) (W : World) :
    Calls Tryd.prog 36 #[.string (bs l), .int .i64 (a : Int)] W fun e w' => e = .returned (.int .i64 ((a + spn lnB (l.drop a) : Nat) : Int)) ∧ w' = W := by
  have hsl := fun X => bs_from l a ha X
  have hi := fun X => Any.strings_IndexByte Tryd.laysIndexByte (bs (l.drop a)) 10 X
  have he : Lib.indexByte (bs (l.drop a)).data.toList (10 : Int).toNat.toUInt8 = if spn lnB (l.drop a) < (l.drop a).length then (spn lnB (l.drop a) : Int) else -1 := by
    rw [bs_data]; exact index_line _
  simp only [he] at hi
  have hgl := spn_le lnB (l.drop a)
  obtain ⟨g, hg⟩ : ∃ g, spn lnB (l.drop a) = g := ⟨_, rfl⟩
  have hdl : (l.drop a).length = l.length - a := List.length_drop ..
  rw [hg, hdl] at hgl
  simp only [hg, hdl] at hi
  rw [hg]
  have hsz : (bs l).size = l.length := bs_size l
  obtain ⟨n, hn⟩ : ∃ n, l.length = n := ⟨_, rfl⟩
  rw [hn] at hsz hgl ha hl
  simp only [hn] at hi
  clear he hg hdl hn
  by_cases hlt : g < n - a
  · rw [if_pos hlt] at hi
    have h0 : ¬ (g : Int) < 0 := by omega
    have hw : IntKind.i64.wrap ((a : Int) + (g : Int)) = (a : Int) + (g : Int) := by rw [IntKind.wrap_i64]; omega
    go_enter Tryd.func36, Tryd.ntmps36
    go_wp2_with (go_at_call 46; refine (hi _).mono ?_; rintro e w' ⟨rfl, rfl⟩)
    go_ret
    exact ⟨by first | rfl | (show Ending.returned (Value.int _ _) = _; congr 2; omega), rfl⟩
  · rw [if_neg hlt] at hi
    go_enter Tryd.func36, Tryd.ntmps36
    go_wp2_with (go_at_call 46; refine (hi _).mono ?_; rintro e w' ⟨rfl, rfl⟩)
    go_ret
    refine ⟨?_, rfl⟩
    show Ending.returned (Value.int _ (n : Int)) = _
    congr 2; omega

set_option maxRecDepth 100000 in
set_option maxHeartbeats 4000000 in
theorem blanks_any (l : List UInt8) (a : Nat) (ha : a ≤ l.length) (hl : l.length ≤ 140737488355328) (W : World) :
    Calls Tryd.prog 29 #[.string (bs l), .int .i64 (a : Int)] W fun e w' => e = .returned (.int .i64 ((a + skp false (l.drop a) : Nat) : Int)) ∧ w' = W := by
  have hat := fun (i : Nat) (c : UInt8) (h : l[i]? = some c) => bs_get l i c h
  have HL := fun (i : Nat) (h : i ≤ l.length) X => lineEnd_any l i h hl X
  have hsz : (bs l).size = l.length := bs_size l
  obtain ⟨n, hn⟩ : ∃ n, l.length = n := ⟨_, rfl⟩
  have HN : Hid (l.length = n) := hn
  rw [hn] at hsz ha hl
  simp only [hn] at HL
  obtain ⟨g, hg⟩ : ∃ g, skp false (l.drop a) = g := ⟨_, rfl⟩
  have HG : Hid (skp false (l.drop a) = g) := hg
  have hgl : a + g ≤ n := by
    have h1 := skp_le false (l.drop a)
    rw [List.length_drop, HN.out, hg] at h1
    omega
  rw [hg]
  clear hg hn
  go_enter Tryd.func29, Tryd.ntmps29
  go_wp2
  go_step3
  go_wp2
  go_step3
  go_wp2
  go_loopw [1] (fun i wr => ∃ k : Nat, a + k ≤ n ∧ i = .int .i64 ((a + k : Nat) : Int) ∧ Hid (k + skp false (l.drop (a + k)) = g) ∧ wr = W) (fun i _ => n - (intOf i).toNat)
  case atStart => exact ⟨0, by omega, rfl, by unfold Hid; rw [Nat.zero_add]; exact HG.out, rfl⟩
  case round =>
    obtain ⟨k, hk, rfl, HS, rfl⟩ := hrel
    obtain ⟨i, hi⟩ : ∃ i, a + k = i := ⟨_, rfl⟩
    rw [hi] at hk HS ⊢
    have HI : Hid (a + k = i) := hi
    by_cases hlt : i < n
    · have hlt' : (i : Int) < (n : Int) := by omega
      obtain ⟨c, hc⟩ : ∃ c, l[i]? = some c := ⟨_, List.getElem?_eq_getElem (by rw [HN.out]; exact hlt)⟩
      obtain ⟨hx0, hx⟩ := hat i c hc
      have hd : l.drop i = c :: l.drop (i + 1) := by
        obtain ⟨h1, h2⟩ := List.getElem?_eq_some_iff.1 hc
        rw [List.drop_eq_getElem_cons h1, h2]
      have hc2 : c.toNat < 256 := c.toNat_lt
      have hle := HL i (by omega) wr
      rw [hd] at HS hle
      have hw1 : IntKind.i64.wrap ((i : Int) + 1) = (i : Int) + 1 := by rw [IntKind.wrap_i64]; omega
      by_cases hb : blkB c = true
      · have HS2 : Hid (k + 1 + skp false (l.drop (a + (k + 1))) = g) := by
          have := HS.out; rw [skp_blank c _ hb] at this
          unfold Hid
          rw [← Nat.add_assoc, hi]; omega
        have hcs : c = 32 ∨ c = 9 ∨ c = 10 ∨ c = 13 := by
          simp only [blkB, Bool.or_eq_true, decide_eq_true_eq] at hb
          rcases hb with ((h | h) | h) | h
          · exact .inl (UInt8.toNat_inj.1 h)
          · exact .inr (.inl (UInt8.toNat_inj.1 h))
          · exact .inr (.inr (.inl (UInt8.toNat_inj.1 h)))
          · exact .inr (.inr (.inr (UInt8.toNat_inj.1 h)))
        clear hc hi hd HS hle hb
        rcases hcs with rfl | rfl | rfl | rfl <;>
        · go_wp2
          go_roundw
          case rel => exact ⟨k + 1, by have := HI.out; omega, by have := HI.out; go_num, HS2, by first | rfl | trivial⟩
          case measure => simp [intOf]; omega
      · have hb2 : blkB c = false := by simpa using hb
        have hcs : ¬ c.toNat = 32 ∧ ¬ c.toNat = 9 ∧ ¬ c.toNat = 10 ∧ ¬ c.toNat = 13 := by
          simp [blkB] at hb2; omega
        obtain ⟨q1, q2, q3, q4⟩ := hcs
        have e1 : ((c.toNat : Int) == 32) = false := by simp; omega
        have e2 : ((c.toNat : Int) == 9) = false := by simp; omega
        have e3 : ((c.toNat : Int) == 10) = false := by simp; omega
        have e4 : ((c.toNat : Int) == 13) = false := by simp; omega
        have r1 : ¬ (c.toNat : Int) = 32 := by omega
        have r2 : ¬ (c.toNat : Int) = 9 := by omega
        have r3 : ¬ (c.toNat : Int) = 10 := by omega
        have r4 : ¬ (c.toNat : Int) = 13 := by omega
        by_cases h37 : c = 37
        · subst h37
          have hcom := skp_com 37 (l.drop (i + 1)) rfl
          obtain ⟨m, hm⟩ : ∃ m, spn lnB ((37 : UInt8) :: l.drop (i + 1)) = m := ⟨_, rfl⟩
          have hmn : i + m ≤ n := by
            have h1 := spn_le lnB ((37 : UInt8) :: l.drop (i + 1))
            rw [← hd, List.length_drop, HN.out, hd, hm] at h1
            omega
          have hm1 : 1 ≤ m := by rw [← hm, spn_cons]; simp [lnB]
          rw [hm] at hle hcom
          have HS2 : Hid (k + m + skp false (l.drop (a + (k + m))) = g) := by
            have := HS.out; rw [hcom, ← hd, List.drop_drop] at this
            unfold Hid
            rw [← Nat.add_assoc, hi]; omega
          clear hc hi hd HS hb hm hcom q1 q2 q3 q4 e1 e2 e3 e4 r1 r2 r3 r4 hb2
          go_wp2_with (go_at_call 36; refine hle.mono ?_; rintro e w' ⟨rfl, rfl⟩)
          go_roundw
          case rel => exact ⟨k + m, by have := HI.out; omega, by have := HI.out; go_num, HS2, by first | rfl | trivial⟩
          case measure => simp [intOf]; omega
        · have h37' : ¬ c.toNat = 37 := fun h => h37 (UInt8.toNat_inj.1 h)
          have e5 : ((c.toNat : Int) == 37) = false := by simp; omega
          have r5 : ¬ (c.toNat : Int) = 37 := by omega
          have hkg : k = g := by have := HS.out; rw [skp_none c _ hb2 h37'] at this; omega
          clear hc hi hd HS hb hle q1 q2 q3 q4 hb2 h37 h37'
          go_wp2
          (try rw [Exit.noGoto_ret])
          go_ret
          exact ⟨by rw [← hkg, HI.out]; rfl, rfl⟩
    · have hlt' : ¬ (i : Int) < (n : Int) := by omega
      have hkg : k = g := by
        have := HS.out
        rw [List.drop_eq_nil_of_le (by rw [HN.out]; omega)] at this
        exact this
      clear hi
      go_wp2
      (try rw [Exit.noGoto_ret])
      go_ret
      exact ⟨by rw [← hkg, HI.out]; rfl, rfl⟩
end Go.Proofs.YtokcbiafajpmoaaDoor
