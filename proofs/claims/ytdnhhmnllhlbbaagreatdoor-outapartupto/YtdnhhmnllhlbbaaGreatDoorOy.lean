/-
  What is proved here: Where a number and a set end: numberEnd, setEnd.
-/
import Derived.Test.YtdnhhmnllhlbbaaGreatDoorOv
import Derived.Test.YtdnhhmnllhlbbaaGreatDoorXSh
namespace Go.Proofs.YtdnhhmnllhlbbaaGreatDoor
open Go.RowKit Go.Shelf
set_option linter.unusedVariables false
set_option linter.unusedSimpArgs false

theorem setLen_at : ∀ (l : List UInt8) (k : Nat) (c : UInt8), k ≤ setLen l → l[k]? = some c → (k < setLen l ↔ (setB c && !stp (l.drop k)) = true)
  | [], k, c, _, h => by simp at h
  | d :: r, 0, c, _, h => by
    simp only [List.getElem?_cons_zero, Option.some.injEq] at h
    subst h
    rw [setLen_cons, List.drop_zero]
    split
    · rename_i h; simp only [h]; simp
    · rename_i h; simp [h]
  | d :: r, k + 1, c, hk, h => by
    rw [setLen_cons] at hk ⊢
    split at hk
    · rename_i h1
      rw [if_pos h1]
      have := setLen_at r k c (by omega) (by simpa using h)
      rw [List.drop_succ_cons, ← this]
      omega
    · omega
theorem hpre90 (l t : List UInt8) (W : World) : Calls Tryz.prog 90 #[.string (bs l), .string (bs t)] W fun e w' => e = .returned (.bool (Lib.hasPrefix l t)) ∧ w' = W := by
  have := Any.strings_HasPrefix Tryz.laysHasPrefix (bs l) (bs t) W
  rw [bs_data, bs_data] at this
  exact this

set_option maxRecDepth 100000 in
set_option maxHeartbeats 4000000 in
theorem set138 (c : UInt8) (W : World) : Calls Tryz.prog 138 #[.int .u8 c.toNat] W fun e w' => e = .returned (.bool (setB c)) ∧ w' = W := by
  have k := num140 c W
  unfold setB
  obtain ⟨b, hb⟩ : ∃ b, numB c = b := ⟨_, rfl⟩
  rw [hb] at k ⊢
  obtain ⟨n, hn⟩ : ∃ n, c.toNat = n := ⟨_, rfl⟩
  rw [hn] at k ⊢
  clear hn hb
  go_enter Tryz.func138, Tryz.ntmps138
  go_wp2_with fail
  refine k.mono ?_
  rintro e w1 ⟨rfl, rfl⟩
  clear k
  cases b with
  | true =>
    go_wp2
    go_ret
    exact ⟨rfl, rfl⟩
  | false =>
    go_wp2
    all_goals (go_ret; refine ⟨?_, rfl⟩; show Ending.returned (Value.bool _) = _; congr 2; rw [Bool.eq_iff_iff]; simp; try omega)

set_option maxRecDepth 100000 in
set_option maxHeartbeats 4000000 in
theorem numEnd125 {W : World} {g p : Nat} (s : List UInt8) (hX : Blk W g #[.string (bs s), .int .i64 (p : Int)] 115) (hp : p ≤ s.length) (hs : s.length ≤ 1000000000000) :
    Calls Tryz.prog 125 #[.pointer (some ⟨g, 0, none⟩)] W fun e w' => e = .returned (.int .i64 ((p + spn numB (s.drop p) : Nat) : Int)) ∧ w' = W := by
  have x0 := hX.cell 0
  have x1 := hX.cell 1
  obtain ⟨m, hm⟩ : ∃ m, s.length = m := ⟨_, rfl⟩
  have HM : Hid (s.length = m) := hm
  have hbs : (bs s).size = m := by rw [bs_size, hm]
  have HL : Hid (p + spn numB (s.drop p) ≤ m) := by unfold Hid; have := spn_le numB (s.drop p); rw [List.length_drop] at this; omega
  obtain ⟨u, hu⟩ : ∃ u, spn numB (s.drop p) = u := ⟨_, rfl⟩
  have HU : Hid (spn numB (s.drop p) = u) := hu
  rw [hu] at HL ⊢
  have kc : Hid (∀ c : UInt8, Calls Tryz.prog 140 #[.int .u8 c.toNat] W fun e w' => e = .returned (.bool (numB c)) ∧ w' = W) := fun c => num140 c W
  rw [hm] at hs hp
  clear hm hX hu
  go_enter Tryz.func125, Tryz.ntmps125
  go_wp2
  go_loopw [3] (fun i wr => ∃ (k : Nat), k ≤ u ∧ i = .int .i64 ((p + k : Nat) : Int) ∧ wr = W) (fun i _ => m - (intOf i).toNat)
  case atStart => exact ⟨0, Nat.zero_le _, rfl, rfl⟩
  case round =>
    obtain ⟨k, hk, rfl, rfl⟩ := hrel
    have hL := HL.out
    obtain ⟨q, hq⟩ : ∃ q, p + k = q := ⟨_, rfl⟩
    have HQ : Hid (p + k = q) := hq
    rw [hq]
    clear hq
    by_cases hlt : q < m
    · have hlt' : (q : Int) < m := by omega
      obtain ⟨c, hc⟩ : ∃ c, s[q]? = some c := ⟨_, List.getElem?_eq_getElem (by rw [HM.out]; exact hlt)⟩
      obtain ⟨hql, hcg⟩ := bs_get s q c hc
      have hsp := spn_at numB (s.drop p) k c (by rw [HU.out]; exact hk) (by rw [List.getElem?_drop, HQ.out]; exact hc)
      rw [HU.out] at hsp
      have HSP : Hid (k < u ↔ numB c = true) := hsp
      have kk := kc.out c
      have hw1 : IntKind.i64.wrap ((q : Int) + 1) = (q : Int) + 1 := by rw [IntKind.wrap_i64]; omega
      clear hsp hc
      cases hb : numB c with
      | true =>
        have hku := HSP.out.2 hb
        rw [hb] at kk
        clear hb
        go_wp2_with fail
        refine kk.mono ?_
        rintro e w1 ⟨rfl, rfl⟩
        clear kk
        go_wp2
        go_roundw
        case rel => exact ⟨k + 1, hku, by have := HQ.out; go_num, by first | rfl | trivial⟩
        case measure => simp [intOf]; omega
      | false =>
        have hku : k = u := by
          have h1 : ¬ k < u := fun h => by have := HSP.out.1 h; rw [hb] at this; cases this
          omega
        have HR : Hid (p + u = q) := by rw [← hku]; exact HQ
        rw [hb] at kk
        clear hb hku
        go_wp2_with fail
        refine kk.mono ?_
        rintro e w1 ⟨rfl, rfl⟩
        clear kk
        go_wp2
        go_ret
        refine ⟨?_, rfl⟩
        have hz := HR.out
        show Ending.returned (Value.int .i64 (q : Int)) = Ending.returned (Value.int .i64 _)
        first | rfl | (congr 2; omega)
    · have hlt' : ¬ (q : Int) < m := by omega
      have HR : Hid (p + u = q) := by unfold Hid; have := HQ.out; omega
      go_wp2
      go_ret
      refine ⟨?_, rfl⟩
      have hz := HR.out
      show Ending.returned (Value.int .i64 (q : Int)) = Ending.returned (Value.int .i64 _)
      first | rfl | (congr 2; omega)

set_option maxRecDepth 100000 in
set_option maxHeartbeats 4000000 in
theorem setEnd123 {W : World} {g p : Nat} (s : List UInt8) (hX : Blk W g #[.string (bs s), .int .i64 (p : Int)] 115) (hp : p ≤ s.length) (hs : s.length ≤ 1000000000000) :
    Calls Tryz.prog 123 #[.pointer (some ⟨g, 0, none⟩)] W fun e w' => e = .returned (.int .i64 ((p + setLen (s.drop p) : Nat) : Int)) ∧ w' = W := by
  have x0 := hX.cell 0
  have x1 := hX.cell 1
  obtain ⟨m, hm⟩ : ∃ m, s.length = m := ⟨_, rfl⟩
  have HM : Hid (s.length = m) := hm
  have hbs : (bs s).size = m := by rw [bs_size, hm]
  have HL : Hid (p + setLen (s.drop p) ≤ m) := by unfold Hid; have := setLen_le (s.drop p); rw [List.length_drop] at this; omega
  obtain ⟨u, hu⟩ : ∃ u, setLen (s.drop p) = u := ⟨_, rfl⟩
  have HU : Hid (setLen (s.drop p) = u) := hu
  rw [hu] at HL ⊢
  have kc : Hid (∀ c : UInt8, Calls Tryz.prog 138 #[.int .u8 c.toNat] W fun e w' => e = .returned (.bool (setB c)) ∧ w' = W) := fun c => set138 c W
  have kp : Hid (∀ q, Calls Tryz.prog 90 #[.string (bs (s.drop q)), .string ⟨#[44, 32]⟩] W fun e w' => e = .returned (.bool (stp (s.drop q))) ∧ w' = W) := fun q => hpre90 (s.drop q) [44, 32] W
  rw [hm] at hs hp
  clear hm hX hu
  go_enter Tryz.func123, Tryz.ntmps123
  go_wp2
  go_loopw [3] (fun i wr => ∃ (k : Nat), k ≤ u ∧ i = .int .i64 ((p + k : Nat) : Int) ∧ wr = W) (fun i _ => m - (intOf i).toNat)
  case atStart => exact ⟨0, Nat.zero_le _, rfl, rfl⟩
  case round =>
    obtain ⟨k, hk, rfl, rfl⟩ := hrel
    have hL := HL.out
    obtain ⟨q, hq⟩ : ∃ q, p + k = q := ⟨_, rfl⟩
    have HQ : Hid (p + k = q) := hq
    rw [hq]
    clear hq
    by_cases hlt : q < m
    · have hlt' : (q : Int) < m := by omega
      obtain ⟨c, hc⟩ : ∃ c, s[q]? = some c := ⟨_, List.getElem?_eq_getElem (by rw [HM.out]; exact hlt)⟩
      obtain ⟨hql, hcg⟩ := bs_get s q c hc
      have hsp := setLen_at (s.drop p) k c (by rw [HU.out]; exact hk) (by rw [List.getElem?_drop, HQ.out]; exact hc)
      rw [HU.out, List.drop_drop, HQ.out] at hsp
      have HSP : Hid (k < u ↔ (setB c && !stp (s.drop q)) = true) := hsp
      have kk := kc.out c
      have kq := kp.out q
      have hfr := bs_from s q (by rw [HM.out]; omega)
      have hw1 : IntKind.i64.wrap ((q : Int) + 1) = (q : Int) + 1 := by rw [IntKind.wrap_i64]; omega
      obtain ⟨T, hT⟩ : ∃ T, s.drop q = T := ⟨_, rfl⟩
      rw [hT] at kq HSP hfr
      clear hsp hc hT
      cases hb : setB c with
      | true =>
        rw [hb] at kk HSP
        clear hb
        cases hd : stp T with
        | false =>
          have hku := HSP.out.2 (by rw [hd]; rfl)
          rw [hd] at kq
          clear hd
          go_wp2_with fail
          refine kk.mono ?_
          rintro e w1 ⟨rfl, rfl⟩
          clear kk
          go_wp2_with fail
          refine kq.mono ?_
          rintro e w1 ⟨rfl, rfl⟩
          clear kq
          go_wp2
          go_roundw
          case rel => exact ⟨k + 1, hku, by have := HQ.out; go_num, by first | rfl | trivial⟩
          case measure => simp [intOf]; omega
        | true =>
          have hku : k = u := by
            have h1 : ¬ k < u := fun h => by have := HSP.out.1 h; rw [hd] at this; cases this
            omega
          have HR : Hid (p + u = q) := by rw [← hku]; exact HQ
          rw [hd] at kq
          clear hd hku
          go_wp2_with fail
          refine kk.mono ?_
          rintro e w1 ⟨rfl, rfl⟩
          clear kk
          go_wp2_with fail
          refine kq.mono ?_
          rintro e w1 ⟨rfl, rfl⟩
          clear kq
          go_wp2
          go_ret
          refine ⟨?_, rfl⟩
          have hz := HR.out
          show Ending.returned (Value.int .i64 (q : Int)) = Ending.returned (Value.int .i64 _)
          first | rfl | (congr 2; omega)
      | false =>
        have hku : k = u := by
          have h1 : ¬ k < u := fun h => by have := HSP.out.1 h; rw [hb] at this; cases this
          omega
        have HR : Hid (p + u = q) := by rw [← hku]; exact HQ
        rw [hb] at kk
        clear hb hku kq hfr
        go_wp2_with fail
        refine kk.mono ?_
        rintro e w1 ⟨rfl, rfl⟩
        clear kk
        go_wp2
        go_ret
        refine ⟨?_, rfl⟩
        have hz := HR.out
        show Ending.returned (Value.int .i64 (q : Int)) = Ending.returned (Value.int .i64 _)
        first | rfl | (congr 2; omega)
    · have hlt' : ¬ (q : Int) < m := by omega
      have HR : Hid (p + u = q) := by unfold Hid; have := HQ.out; omega
      go_wp2
      go_ret
      refine ⟨?_, rfl⟩
      have hz := HR.out
      show Ending.returned (Value.int .i64 (q : Int)) = Ending.returned (Value.int .i64 _)
      first | rfl | (congr 2; omega)
end Go.Proofs.YtdnhhmnllhlbbaaGreatDoor
