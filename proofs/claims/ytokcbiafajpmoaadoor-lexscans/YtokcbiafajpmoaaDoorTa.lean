/-
  What is proved here: what the reference's letter, digit, Word, Text, skip and float answer.
-/
import Derived.Test.YtokcbiafajpmoaaDoorJb
import Derived.Test.YtokcbiafajpmoaaDoorLu
namespace Go.Proofs.YtokcbiafajpmoaaDoor
open Go.RowKit
set_option linter.unusedVariables false
set_option linter.unusedSimpArgs false
set_option maxRecDepth 100000 in
set_option maxHeartbeats 4000000 in
/-- The reference's Text. -/
theorem text11 (k n : Int) (tx : List UInt8) (p : Int) (h0 : -9223372036854775808 ≤ n) (h1 : n ≤ 9223372036854775807) (W : World) (hT : Tens W) :
    Calls Tryd.prog 11 #[.agg #[.int .i64 k, .string (bs tx), .int .i64 n, .int .i64 p]] W fun e w' => e = .returned (.string (bs (txtR k n tx))) ∧ Below W.heap.size W w' := by
  obtain ⟨w1, hw1⟩ : ∃ X, W.alloc (Obj.cells #[.int .i64 k, .string (bs tx), .int .i64 n, .int .i64 p] 23) = X := ⟨_, rfl⟩
  have hb1 : Below W.heap.size W w1 := by rw [← hw1]; exact (Below.refl _ W).alloc (Nat.le_refl _) _
  have hR1 : Rw w1 W.heap.size 23 #[.int .i64 k, .string (bs tx), .int .i64 n, .int .i64 p] := by rw [← hw1]; exact Rw.new _ _ _
  have hT1 : Tens w1 := hT.self hb1
  have d0 : w1.cell? ⟨W.heap.size, 0, none⟩ = some (.int .i64 k) := hR1.cell 0 _ rfl
  have d1 : w1.cell? ⟨W.heap.size, 1, none⟩ = some (.string (bs tx)) := hR1.cell 1 _ rfl
  have d2 : w1.cell? ⟨W.heap.size, 2, none⟩ = some (.int .i64 n) := hR1.cell 2 _ rfl
  by_cases hk : k = 2
  · subst hk
    have ht : txtR 2 n tx = Lib.itoa n := rfl
    rw [ht]
    have hf := Any.strconv_FormatInt_10 Tryd.laysFint n h0 h1 w1 hT1
    clear hR1 ht
    go_enter Tryd.func11, Tryd.ntmps11
    go_upto_region 1 with (fail)
    go_wp2_with fail
    refine hf.mono ?_
    rintro e w2 ⟨rfl, q, os, rfl⟩
    go_wp2
    go_ret
    exact ⟨rfl, hb1.trans (Lib.below_grow _ _ hb1.size _ _)⟩
  · have hkb : (k == 2) = false := by simpa using hk
    have ht : txtR k n tx = tx := by unfold txtR; rw [if_neg hk]
    rw [ht]
    clear hR1 ht
    go_enter Tryd.func11, Tryd.ntmps11
    go_upto_region 1 with (fail)
    go_wp2
    go_ret
    exact ⟨rfl, hb1⟩

set_option maxRecDepth 100000 in
set_option maxHeartbeats 4000000 in
theorem letter22 (c : UInt8) (W : World) : Calls Tryd.prog 22 #[.int .u8 (c.toNat : Int)] W fun e w' => e = .returned (.bool (letB c)) ∧ w' = W := by
  go_enter Tryd.func22, Tryd.ntmps22
  go_wp2
  all_goals (go_ret; refine ⟨?_, rfl⟩; show Ending.returned (Value.bool _) = _; congr 2; rw [Bool.eq_iff_iff]; simp [letB]; try omega)
set_option maxRecDepth 100000 in
set_option maxHeartbeats 4000000 in
theorem digit23 (c : UInt8) (W : World) : Calls Tryd.prog 23 #[.int .u8 (c.toNat : Int)] W fun e w' => e = .returned (.bool (digB c)) ∧ w' = W := by
  go_enter Tryd.func23, Tryd.ntmps23
  go_wp2
  all_goals (go_ret; refine ⟨?_, rfl⟩; show Ending.returned (Value.bool _) = _; congr 2; rw [Bool.eq_iff_iff]; simp [digB]; try omega)

set_option maxRecDepth 100000 in
set_option maxHeartbeats 4000000 in
theorem word13 (l : List UInt8) (hl : l.length ≤ 140737488355328) (W : World) : Calls Tryd.prog 13 #[.string (bs l)] W fun e w' => e = .returned (.bool (wordB l)) ∧ w' = W := by
  cases hll : l with
  | nil =>
    have h0 := bs_e0
    go_enter Tryd.func13, Tryd.ntmps13
    go_wp2
    go_ret
    exact ⟨rfl, rfl⟩
  | cons c r =>
    have HW : Hid (wordB (c :: r) = (letB c && decide (spn wrdB (c :: r) = (c :: r).length))) := rfl
    rw [← hll] at HW ⊢
    obtain ⟨hx0, hx⟩ := bs_get l 0 c (by rw [hll]; rfl)
    have h0 := bs_ne l (by rw [hll]; simp)
    have h1 := bs_nee l (by rw [hll]; simp)
    have hat := fun (i : Nat) (c : UInt8) (h : l[i]? = some c) => bs_get l i c h
    have hsz : (bs l).size = l.length := bs_size _
    have hsl := spn_le wrdB l
    obtain ⟨g, hg⟩ : ∃ g, spn wrdB l = g := ⟨_, rfl⟩
    obtain ⟨n, hn⟩ : ∃ n, l.length = n := ⟨_, rfl⟩
    have HG : Hid (spn wrdB l = g) := hg
    have HN : Hid (l.length = n) := hn
    rw [hg, hn] at HW hsl
    rw [hn] at hsz hl
    clear hg hn hll
    cases hl1 : letB c with
    | true =>
      rw [hl1] at HW
      go_enter Tryd.func13, Tryd.ntmps13
      go_wp2_with (go_at_call 22; refine (letter22 _ _).mono ?_; rw [hl1]; rintro e w' ⟨rfl, hw'⟩; have hw2 := hw'.symm; clear hw'; subst hw2)
      clear hl1 hx hx0
      go_loopw [3] (fun i wr => ∃ k : Nat, k ≤ g ∧ i = .int .i64 (k : Int) ∧ wr = W) (fun i _ => n - (intOf i).toNat)
      case atStart => exact ⟨0, Nat.zero_le _, rfl, rfl⟩
      case round =>
        obtain ⟨k, hk, rfl, rfl⟩ := hrel
        by_cases hlt : k < n
        · have hlt' : (k : Int) < (n : Int) := by omega
          obtain ⟨c, hc⟩ : ∃ c, l[k]? = some c := ⟨_, List.getElem?_eq_getElem (by rw [HN.out]; exact hlt)⟩
          obtain ⟨hx0, hx⟩ := hat k c hc
          have hsp := spn_at wrdB l k c (by rw [HG.out]; exact hk) hc
          rw [HG.out] at hsp
          have hw1 : IntKind.i64.wrap ((k : Int) + 1) = (k : Int) + 1 := by rw [IntKind.wrap_i64]; omega
          have HSP : Hid (k < g ↔ wrdB c = true) := hsp
          clear hsp hc
          by_cases hl1 : letB c = true
          · have hkg : k < g := HSP.out.2 (by simp [wrdB, hl1])
            go_wp2_with (first | (go_at_call 22; refine (letter22 _ _).mono ?_; rw [hl1]; rintro e w' ⟨rfl, rfl⟩) | (go_at_call 23; refine (digit23 _ _).mono ?_; rintro e w' ⟨rfl, rfl⟩))
            go_roundw
            case rel => exact ⟨k + 1, by omega, by go_num, by first | rfl | trivial⟩
            case measure => simp [intOf]; omega
          · have hl2 : letB c = false := by simpa using hl1
            by_cases hd1 : digB c = true
            · have hkg : k < g := HSP.out.2 (by simp [wrdB, hd1])
              go_wp2_with (first | (go_at_call 22; refine (letter22 _ _).mono ?_; rw [hl2]; rintro e w' ⟨rfl, rfl⟩) | (go_at_call 23; refine (digit23 _ _).mono ?_; rw [hd1]; rintro e w' ⟨rfl, rfl⟩))
              go_roundw
              case rel => exact ⟨k + 1, by omega, by go_num, by first | rfl | trivial⟩
              case measure => simp [intOf]; omega
            · have hd2 : digB c = false := by simpa using hd1
              have hkg : k = g := by
                have : ¬ k < g := fun h => by have := HSP.out.1 h; simp [wrdB, hl2, hd2] at this
                omega
              have HV : Hid (wordB l = false) := by unfold Hid; rw [HW.out]; simp; omega
              clear hkg
              go_wp2_with (first | (go_at_call 22; refine (letter22 _ _).mono ?_; rw [hl2]; rintro e w' ⟨rfl, rfl⟩) | (go_at_call 23; refine (digit23 _ _).mono ?_; rw [hd2]; rintro e w' ⟨rfl, rfl⟩))
              (try rw [Exit.noGoto_ret])
              go_ret
              refine ⟨?_, rfl⟩; rw [HV.out]; rfl
        · have hlt' : ¬ (k : Int) < (n : Int) := by omega
          have HV : Hid (wordB l = true) := by unfold Hid; rw [HW.out]; simp; omega
          go_wp2
          (try rw [Exit.noGoto_ret])
          go_ret
          refine ⟨?_, rfl⟩; rw [HV.out]; rfl
    | false =>
      rw [hl1] at HW
      go_enter Tryd.func13, Tryd.ntmps13
      go_wp2_with (go_at_call 22; refine (letter22 _ _).mono ?_; rw [hl1]; rintro e w' ⟨rfl, rfl⟩)
      go_ret
      refine ⟨?_, rfl⟩
      rw [HW.out]
      first | rfl | (show Ending.returned (Value.bool _) = _; simp)

set_option maxRecDepth 100000 in
set_option maxHeartbeats 4000000 in
theorem skip24 (l : List UInt8) (a : Nat) (ha : a ≤ l.length) (hl : l.length ≤ 140737488355328) (W : World) :
    Calls Tryd.prog 24 #[.string (bs l), .int .i64 (a : Int)] W fun e w' => e = .returned (.int .i64 ((a + skp false (l.drop a) : Nat) : Int)) ∧ w' = W := by
  have hat := fun (i : Nat) (c : UInt8) (h : l[i]? = some c) => bs_get l i c h
  have hsz : (bs l).size = l.length := bs_size l
  obtain ⟨n, hn⟩ : ∃ n, l.length = n := ⟨_, rfl⟩
  have HN : Hid (l.length = n) := hn
  rw [hn] at hsz ha hl
  obtain ⟨g, hg⟩ : ∃ g, skp false (l.drop a) = g := ⟨_, rfl⟩
  have HG : Hid (skp false (l.drop a) = g) := hg
  have hgl : a + g ≤ n := by
    have h1 := skp_le false (l.drop a)
    rw [List.length_drop, HN.out, hg] at h1
    omega
  rw [hg]
  clear hg hn
  go_enter Tryd.func24, Tryd.ntmps24
  go_wp2
  go_loopw [1] (fun i wr => ∃ k : Nat, a + k ≤ n ∧ i = .int .i64 ((a + k : Nat) : Int) ∧ Hid (k + skp false (l.drop (a + k)) = g) ∧ wr = W) (fun i _ => n - (intOf i).toNat)
  case atStart => exact ⟨0, by omega, rfl, by unfold Hid; rw [Nat.zero_add]; exact HG.out, rfl⟩
  case round =>
    obtain ⟨k, hk, rfl, HS, rfl⟩ := hrel
    obtain ⟨i, hi⟩ : ∃ i, a + k = i := ⟨_, rfl⟩
    rw [hi] at hk HS ⊢
    have HI : Hid (a + k = i) := hi
    by_cases hlt : i < n
    · have hlt' : (i : Int) < (n : Int) := by omega
      obtain ⟨c, hc⟩ : ∃ c, l[i]? = some c := ⟨_, List.getElem?_eq_getElem (by rw [HN.out]; exact hlt)⟩
      obtain ⟨hx0, hx⟩ := hat i c hc
      have hd : l.drop i = c :: l.drop (i + 1) := by
        obtain ⟨h1, h2⟩ := List.getElem?_eq_some_iff.1 hc
        rw [List.drop_eq_getElem_cons h1, h2]
      have hc2 : c.toNat < 256 := c.toNat_lt
      rw [hd] at HS
      have hw1 : IntKind.i64.wrap ((i : Int) + 1) = (i : Int) + 1 := by rw [IntKind.wrap_i64]; omega
      by_cases hb : blkB c = true
      · have HS2 : Hid (k + 1 + skp false (l.drop (a + (k + 1))) = g) := by
          have := HS.out; rw [skp_blank c _ hb] at this
          unfold Hid
          rw [← Nat.add_assoc, hi]; omega
        have hcs : c = 32 ∨ c = 9 ∨ c = 10 ∨ c = 13 := by
          simp only [blkB, Bool.or_eq_true, decide_eq_true_eq] at hb
          rcases hb with ((h | h) | h) | h
          · exact .inl (UInt8.toNat_inj.1 h)
          · exact .inr (.inl (UInt8.toNat_inj.1 h))
          · exact .inr (.inr (.inl (UInt8.toNat_inj.1 h)))
          · exact .inr (.inr (.inr (UInt8.toNat_inj.1 h)))
        clear hc hi hd HS hb
        rcases hcs with rfl | rfl | rfl | rfl <;>
        · go_wp2
          go_roundw
          case rel => exact ⟨k + 1, by have := HI.out; omega, by have := HI.out; go_num, HS2, by first | rfl | trivial⟩
          case measure => simp [intOf]; omega
      · have hb2 : blkB c = false := by simpa using hb
        have hcs : ¬ c.toNat = 32 ∧ ¬ c.toNat = 9 ∧ ¬ c.toNat = 10 ∧ ¬ c.toNat = 13 := by
          simp [blkB] at hb2; omega
        obtain ⟨q1, q2, q3, q4⟩ := hcs
        have e1 : ((c.toNat : Int) == 32) = false := by simp; omega
        have e2 : ((c.toNat : Int) == 9) = false := by simp; omega
        have e3 : ((c.toNat : Int) == 10) = false := by simp; omega
        have e4 : ((c.toNat : Int) == 13) = false := by simp; omega
        by_cases h37 : c = 37
        · subst h37
          have hcom := skp_com 37 (l.drop (i + 1)) rfl
          obtain ⟨m, hm⟩ : ∃ m, spn lnB ((37 : UInt8) :: l.drop (i + 1)) = m := ⟨_, rfl⟩
          have hmn : i + m ≤ n := by
            have h1 := spn_le lnB ((37 : UInt8) :: l.drop (i + 1))
            rw [← hd, List.length_drop, HN.out, hd, hm] at h1
            omega
          have hm1 : 1 ≤ m := by rw [← hm, spn_cons]; simp [lnB]
          rw [← hd] at hm
          have HM : Hid (spn lnB (l.drop i) = m) := hm
          rw [← hd, hm] at hcom
          have HS2 : Hid (k + m + skp false (l.drop (a + (k + m))) = g) := by
            have := HS.out; rw [← hd, hcom, List.drop_drop] at this
            unfold Hid
            rw [← Nat.add_assoc, hi]; omega
          clear hc hi hd HS hb hm hcom q1 q2 q3 q4 e1 e2 e3 e4 hb2
          go_wp2
          clear hx hx0
          go_loopw [1] (fun x wr2 => ∃ j : Nat, j ≤ m ∧ x = .int .i64 ((i + j : Nat) : Int) ∧ wr2 = wr) (fun x _ => n - (intOf x).toNat)
          case atStart => exact ⟨0, Nat.zero_le _, rfl, rfl⟩
          case round =>
            obtain ⟨j, hj, rfl, rfl⟩ := hrel
            obtain ⟨q, hq⟩ : ∃ q, i + j = q := ⟨_, rfl⟩
            rw [hq]
            have HQ : Hid (i + j = q) := hq
            by_cases hlt2 : q < n
            · have hlt3 : (q : Int) < (n : Int) := by omega
              obtain ⟨d, hdd⟩ : ∃ d, l[q]? = some d := ⟨_, List.getElem?_eq_getElem (by rw [HN.out]; exact hlt2)⟩
              obtain ⟨hy0, hy⟩ := hat q d hdd
              have hsp := spn_at lnB (l.drop i) j d (by rw [HM.out]; exact hj) (by rw [List.getElem?_drop, hq]; exact hdd)
              rw [HM.out] at hsp
              have HSP : Hid (j < m ↔ lnB d = true) := hsp
              have hw2 : IntKind.i64.wrap ((q : Int) + 1) = (q : Int) + 1 := by rw [IntKind.wrap_i64]; omega
              clear hsp hdd hq
              by_cases h10 : d = 10
              · have hjm : j = m := by
                  have : ¬ j < m := fun h => by have := HSP.out.1 h; rw [h10] at this; simp [lnB] at this
                  omega
                subst h10
                go_wp2
                go_roundw
                case rel => exact ⟨k + m, by have := HI.out; omega, by have := HI.out; have := HQ.out; go_num, HS2, by first | rfl | trivial⟩
                case measure => have := HQ.out; simp [intOf]; omega
              · have h10' : ¬ d.toNat = 10 := fun h => h10 (UInt8.toNat_inj.1 h)
                have hjm : j < m := HSP.out.2 (by simp [lnB, h10'])
                have e5 : ((d.toNat : Int) != 10) = true := by simp; omega
                have e6 : ((d.toNat : Int) == 10) = false := by simp; omega
                clear h10 h10'
                go_wp2
                go_roundw
                case rel => exact ⟨j + 1, by omega, by have := HQ.out; go_num, by first | rfl | trivial⟩
                case measure => simp [intOf]; omega
            · have hlt3 : ¬ (q : Int) < (n : Int) := by omega
              have hjm : j = m := by omega
              clear hq
              go_wp2
              go_roundw
              case rel => exact ⟨k + m, by have := HI.out; omega, by have := HI.out; have := HQ.out; go_num, HS2, by first | rfl | trivial⟩
              case measure => have := HQ.out; simp [intOf]; omega
        · have h37' : ¬ c.toNat = 37 := fun h => h37 (UInt8.toNat_inj.1 h)
          have e5 : ((c.toNat : Int) == 37) = false := by simp; omega
          have hkg : k = g := by have := HS.out; rw [skp_none c _ hb2 h37'] at this; omega
          clear hc hi hd HS hb q1 q2 q3 q4 hb2 h37 h37'
          go_wp2
          (try rw [Exit.noGoto_ret])
          go_ret
          exact ⟨by show Ending.returned (Value.int .i64 (i : Int)) = _; have := HI.out; congr 2; omega, rfl⟩
    · have hlt' : ¬ (i : Int) < (n : Int) := by omega
      have hkg : k = g := by
        have := HS.out
        rw [List.drop_eq_nil_of_le (by rw [HN.out]; omega)] at this
        exact this
      clear hi
      go_wp2
      (try rw [Exit.noGoto_ret])
      go_ret
      exact ⟨by show Ending.returned (Value.int .i64 (i : Int)) = _; have := HI.out; congr 2; omega, rfl⟩
end Go.Proofs.YtokcbiafajpmoaaDoor
