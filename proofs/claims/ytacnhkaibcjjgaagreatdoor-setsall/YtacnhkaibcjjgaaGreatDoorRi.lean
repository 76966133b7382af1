/-
  What is proved here: what the reference's Parse reads of any text.
-/
import Derived.Test.YtacnhkaibcjjgaaGreatDoorRgj
namespace Go.Proofs.YtacnhkaibcjjgaaGreatDoor
open Go.RowKit Go.Shelf
set_option linter.unusedVariables false
set_option linter.unusedSimpArgs false

set_option maxRecDepth 100000 in
set_option maxHeartbeats 4000000 in
theorem refparse_long (s : ByteArray) (h : 65536 < s.size) (W : World) :
    Calls Tryz.prog 20 #[.string s] W fun e w' => e = .returned (.tuple #[.slice none 0 0, .int .i64 3]) ∧ w' = W := by
  have h' : (65536 : Int) < (s.size : Int) := by omega
  go_enter Tryz.func20, Tryz.ntmps20
  go_wp2
  go_ret2
  exact ⟨rfl, rfl⟩
theorem ext_bytes (s : ByteArray) (q k : Nat) (h1 : q ≤ k) (h2 : k ≤ s.size) : (s.extract q k).data.toList = (s.data.toList.drop q).take (k - q) := by
  rw [Lib.extract_data]

set_option maxRecDepth 100000 in
set_option maxHeartbeats 4000000 in
theorem refparse_some (s : ByteArray) (hs : s.size ≤ 65536) (hne : s.data.toList ≠ [123, 125]) (W : World) (hT : Tens W.heap.size W) :
    Calls Tryz.prog 20 #[.string s] W fun e w' => ParsE s.data.toList e W.heap.size w' ∧ Below W.heap.size W w' := by
  have HT : Hid (Tens W.heap.size W) := hT
  have HNE : Hid (s.data.toList ≠ [123, 125]) := hne
  have hs' : ¬ (65536 : Int) < (s.size : Int) := by omega
  have HL : Hid (s.data.toList.length ≤ 65536) := by unfold Hid; simpa using hs
  have hat := fun (i : Nat) (c : UInt8) (h : s.data.toList[i]? = some c) => str_get s i c h
  have hext := fun (q k : Nat) (h1 : q ≤ k) (h2 : k ≤ s.size) => ext_bytes s q k h1 h2
  have hslc : ∀ (q k : Nat), q ≤ k → k ≤ s.size → ∀ X, (Instr.slice 9 (.string s) (some (.int .i64 (q : Int))) (some (.int .i64 (k : Int))) none).run Tryz.prog X = .ok (.string (s.extract q k)) X := fun q k h1 h2 X => by
    rw [run_slice_string X 9 s .i64 .i64 q k Tryz.underlying9 (by omega) (by omega) (by omega)]
    rfl
  have hcmpb := fun (tx : List UInt8) (bo : Bool) (h : decide (tx = s.data.toList) = bo) => beq_str tx s bo h
  obtain ⟨n, hn⟩ : ∃ n, s.size = n := ⟨_, rfl⟩
  obtain ⟨b, hb⟩ : ∃ b, s.data.toList = b := ⟨_, rfl⟩
  have hbl : b.length = n := by rw [← hb, ← hn]; simp
  have HB : Hid (b.length = n) := hbl
  have HN : Hid (s.size = n) := hn
  rw [hb] at HNE HL hat hext hcmpb ⊢
  rw [hn] at hs hs' hext hslc
  clear hb hbl hT hne
  by_cases h2 : 2 ≤ n
  · have h2' : ¬ (n : Int) < 2 := by omega
    obtain ⟨c0, hc0⟩ : ∃ c, b[0]? = some c := ⟨_, List.getElem?_eq_getElem (by rw [HB.out]; omega)⟩
    obtain ⟨hx00, hx01⟩ := hat 0 c0 hc0
    have hc0l : c0.toNat < 256 := c0.toNat_lt
    obtain ⟨c1, hc1⟩ : ∃ c, b[n - 1]? = some c := ⟨_, List.getElem?_eq_getElem (by rw [HB.out]; omega)⟩
    obtain ⟨hx10, hx11⟩ := hat (n - 1) c1 hc1
    have hn1 : (n : Int) - 1 = ((n - 1 : Nat) : Int) := by omega
    have hn1l : ((n - 1 : Nat) : Int) < (n : Int) := by omega
    by_cases h123 : c0 = 123
    · subst h123
      by_cases h125 : c1 = 125
      · subst h125
        have h3 : 2 < n := by
          apply Classical.byContradiction; intro h3
          have e : n = 2 := by omega
          subst e
          apply HNE.out
          have := HB.out
          match b, this, hc0, hc1 with
          | [x, y], _, h0, h1 => simp at h0 h1; rw [h0, h1]
        have h3' : (2 : Int) < (n : Int) := by omega
        have HLAST : Hid (b[n - 1]? = some 125) := hc1
        clear hc0 hc1 h2
        go_enter Tryz.func20, Tryz.ntmps20
        go_wp2
        go_loopw [4, 5, 6] (fun l f i wr => ∃ (L : List Int) (k q : Nat), wr.ownsRow W.heap.size 2 1 l L.length (intv L) ∧ f = .int .i64 q ∧ i = .int .i64 k ∧ 1 ≤ q ∧ q ≤ k ∧ k ≤ n ∧ L.length ≤ k ∧ Hid ((k < n ∧ Inv1 b L q k) ∨ (k = n ∧ InvE b L)) ∧ Below W.heap.size W wr) (fun _ _ i _ => n - (intOf i).toNat)
        case atStart => exact ⟨[], 1, 1, by simpa [intv] using World.ownsRow_nil _ _ _ _, rfl, rfl, by omega, by omega, by omega, by simp, .inl ⟨by omega, inv_start b⟩, Below.refl _ _⟩
        case round =>
          obtain ⟨L, k, q, hrow, rfl, rfl, hq1, hqk, hkn, hLk, HI, hB⟩ := hrel
          have HROW : Hid _ := hrow
          have hsl := own_si hrow
          obtain ⟨pl, cl, rfl⟩ := own_slice hrow
          obtain ⟨ll, hll⟩ : ∃ m, L.length = m := ⟨_, rfl⟩
          have HLL : Hid (L.length = ll) := hll
          rw [hll] at HROW hsl hLk ⊢
          have HSL : Hid (Si wr (.slice pl ll cl) L) := hsl
          clear hrow hsl hll
          by_cases hlt : k < n
          · have hlt' : (k : Int) < (n : Int) := by omega
            have HI1 : Hid (Inv1 b L q k) := by
              rcases HI.out with h | h
              · exact h.2
              · omega
            obtain ⟨c, hc⟩ : ∃ c, b[k]? = some c := ⟨_, List.getElem?_eq_getElem (by rw [HB.out]; exact hlt)⟩
            obtain ⟨hxk, hxc⟩ := hat k c hc
            have HC : Hid (b[k]? = some c) := hc
            have hptd := hext q k hqk (by omega)
            have hpts : (s.extract q k).size ≤ 65536 := by
              have h1 := congrArg List.length hptd
              rw [List.length_take, List.length_drop, HB.out] at h1
              have h2 : (s.extract q k).data.toList.length = (s.extract q k).size := by rw [Array.length_toList]; rfl
              omega
            have hnum := number_any (s.extract q k) hpts wr
            rw [hptd] at hnum
            clear hc hptd hpts
            by_cases h44 : c = 44
            · subst h44
              have hkl : ¬ k = n - 1 := fun e => by
                have := HLAST.out; rw [← e, HC.out] at this; exact absurd this (by decide)
              have hkl' : ¬ (k : Int) = ((n - 1 : Nat) : Int) := by omega
              go_wp2_with fail
              refine hnum.mono ?_
              rintro e w2 ⟨⟨v, ok, rfl, hv⟩, rfl⟩
              have HV : Hid _ := hv
              clear hnum hv
              cases ok
              · have HNO : Hid (∀ M, IsSet M → 0 < M.length → stx M ≠ b) := inv_no1 HI1.out hqk HC.out (fun x a1 a2 e => absurd (HV.out x a1 a2 e).2 (by simp))
                go_wp2
                go_ret2
                exact ⟨.inr (.inr ⟨HL.out, HNE.out, .inr ⟨HNO.out, rfl⟩⟩), hB⟩
              · have HNEW := inv_comma HI1.out hqk HC.out (fun x a1 a2 e => (HV.out x a1 a2 e).1)
                have HBA : Hid (Below W.heap.size W (w2.alloc (Obj.cells #[.int .i64 v] 2))) := hB.alloc hB.size _
                have hrowA := World.ownsRow.alloc HROW.out (Obj.cells #[.int .i64 v] 2)
                have hszA := HBA.out.size
                have HINV : Hid _ := HNEW
                clear HNEW
                go_wp2_with (at_builtin; refine wpList_app_sr _ rfl _ _ rfl W.heap.size _ ll L rfl hrowA HLL.out.symm _ [v] rfl (one_si w2 v) (by rw [HLL.out]; simp <;> omega) hszA ?_; intro v4 w4 hr4 hbel4)
                go_roundw
                case rel => exact ⟨L ++ [v], k + 1, k + 1, by rw [List.length_append]; exact hr4, by go_num, by go_num, by omega, by omega, by omega, by rw [List.length_append, HLL.out]; simp; omega, .inl ⟨by omega, HINV.out⟩, HBA.out.trans hbel4⟩
                case measure => simp [intOf]; omega
            · have hne44 : ¬ (c.toNat : Int) = 44 := fun h => h44 (UInt8.toNat_inj.1 (by simpa using (by omega : c.toNat = 44)))
              have hne44' : ((c.toNat : Int) == 44) = false := by simp; omega
              have hne44b : ((c.toNat : Int) != 44) = true := by simp; omega
              by_cases hkl : k = n - 1
              · have hk1 : ((k : Int) == ((n - 1 : Nat) : Int)) = true := by simp; omega
                have hk2 : ((k : Int) != ((n - 1 : Nat) : Int)) = false := by simp; omega
                have HK : Hid (k + 1 = b.length) := by unfold Hid; rw [HB.out]; omega
                have HCL : Hid (b[k]? = some 125) := by unfold Hid; rw [hkl]; exact HLAST.out
                have hkl2 : (k == n - 1) = true := by simpa using hkl
                have hkl3 : (k != n - 1) = false := by simpa using hkl
                have HKL : Hid (k = n - 1) := hkl
                clear hkl
                go_wp2_with fail
                refine hnum.mono ?_
                rintro e w2 ⟨⟨v, ok, rfl, hv⟩, rfl⟩
                have HV : Hid _ := hv
                clear hnum hv
                cases ok
                · have HNO : Hid (∀ M, IsSet M → 0 < M.length → stx M ≠ b) := inv_no2 HI1.out hqk HK.out HCL.out (fun x a1 a2 e => absurd (HV.out x a1 a2 e).2 (by simp))
                  go_wp2
                  go_ret2
                  exact ⟨.inr (.inr ⟨HL.out, HNE.out, .inr ⟨HNO.out, rfl⟩⟩), hB⟩
                · have HNEW := inv_end HI1.out hqk HK.out HCL.out (fun x a1 a2 e => (HV.out x a1 a2 e).1)
                  have HBA : Hid (Below W.heap.size W (w2.alloc (Obj.cells #[.int .i64 v] 2))) := hB.alloc hB.size _
                  have hrowA := World.ownsRow.alloc HROW.out (Obj.cells #[.int .i64 v] 2)
                  have hszA := HBA.out.size
                  have HINV : Hid _ := HNEW
                  clear HNEW
                  go_wp2_with (at_builtin; refine wpList_app_sr _ rfl _ _ rfl W.heap.size _ ll L rfl hrowA HLL.out.symm _ [v] rfl (one_si w2 v) (by rw [HLL.out]; simp <;> omega) hszA ?_; intro v4 w4 hr4 hbel4)
                  go_roundw
                  case rel => exact ⟨L ++ [v], k + 1, k + 1, by rw [List.length_append]; exact hr4, by go_num, by go_num, by omega, by omega, by omega, by rw [List.length_append, HLL.out]; simp; omega, .inr ⟨by have := HKL.out; omega, HINV.out⟩, HBA.out.trans hbel4⟩
                  case measure => simp [intOf]; omega
              · have hkl' : ¬ (k : Int) = ((n - 1 : Nat) : Int) := by omega
                have hk1 : ((k : Int) == ((n - 1 : Nat) : Int)) = false := by simp; omega
                have hk2 : ((k : Int) != ((n - 1 : Nat) : Int)) = true := by simp; omega
                have hkl2 : (k == n - 1) = false := by simpa using hkl
                have hkl3 : (k != n - 1) = true := by simpa using hkl
                have HIN : Hid (Inv1 b L q (k + 1)) := inv_on HI1.out (by rw [HC.out]; intro e; exact h44 (Option.some.inj e))
                clear hnum
                go_wp2
                go_roundw
                case rel => exact ⟨L, k + 1, q, by rw [HLL.out]; exact HROW.out, rfl, by go_num, hq1, by omega, by omega, by rw [HLL.out]; omega, .inl ⟨by omega, HIN.out⟩, hB⟩
                case measure => simp [intOf]; omega
          · obtain rfl : k = n := by omega
            have hlt' : ¬ (k : Int) < (k : Int) := by omega
            have HIE : Hid (InvE b L) := by
              rcases HI.out with h | h
              · omega
              · exact h.2
            have hset := refset_any _ L wr HSL.out
            have htx := fun X (hX : Below W.heap.size W X) (hs : Si X (.slice pl ll cl) L) => reftext_any _ L X hs (tens_here HT.out hX)
            by_cases hS : IsSet L
            · rw [setB_yes hS] at hset
              simp only [tkS_yes hS] at htx
              obtain ⟨tx, hx⟩ : ∃ tx, stx L = tx := ⟨_, rfl⟩
              simp only [hx] at htx
              have HX : Hid (stx L = tx) := hx
              have HS : Hid (IsSet L) := hS
              clear hx hS
              go_wp2_with fail
              refine hset.mono ?_
              rintro e w2 ⟨rfl, m2, hw2⟩
              have hb2 : Below wr.heap.size wr w2 := by rw [hw2]; exact below_drewN (Below.refl _ _) _
              have hB2 : Below W.heap.size W w2 := hB.trans (hb2.mono hB.size)
              have ktx := htx w2 hB2 (HSL.out.below hb2)
              have HR2 : Hid _ := own_keepB HROW.out hb2
              clear hset htx hw2
              by_cases heq : tx = b
              · have hcmp := hcmpb tx true (decide_eq_true heq)
                clear hcmpb
                have HEQ : Hid (tx = b) := heq
                have HL0 : Hid (0 < L.length) := by
                  unfold Hid
                  rcases Nat.eq_zero_or_pos L.length with h | h
                  · exfalso
                    have := List.eq_nil_of_length_eq_zero h
                    subst this
                    exact HNE.out (HEQ.out.symm.trans HX.out.symm)
                  · exact h
                clear heq
                go_wp2_with fail
                refine ktx.mono ?_
                rintro e w3 ⟨rfl, hb3⟩
                go_wp2
                go_ret2
                exact ⟨.inr (.inr ⟨HL.out, HNE.out, .inl ⟨L, _, HS.out, HL0.out, HX.out.trans HEQ.out, rfl, by rw [HLL.out]; exact own_keepB HR2.out hb3⟩⟩), hB2.trans (hb3.mono hB2.size)⟩
              · have hcmp := hcmpb tx false (decide_eq_false heq)
                clear hcmpb
                have HEQ : Hid (¬ tx = b) := heq
                clear heq
                go_wp2_with fail
                refine ktx.mono ?_
                rintro e w3 ⟨rfl, hb3⟩
                go_wp2
                go_ret2
                refine ⟨.inr (.inr ⟨HL.out, HNE.out, .inr ⟨fun M hM h0 hb => ?_, rfl⟩⟩), hB2.trans (hb3.mono hB2.size)⟩
                have h9 := HIE.out M hM h0 hb
                subst h9
                exact HEQ.out (HX.out.symm.trans hb)
            · rw [setB_no hS] at hset
              have HS : Hid (¬ IsSet L) := hS
              clear hS htx
              go_wp2_with fail
              refine hset.mono ?_
              rintro e w2 ⟨rfl, m2, hw2⟩
              have hB2 : Below W.heap.size W w2 := by rw [hw2]; exact below_drewN hB _
              clear hset hw2
              go_wp2
              go_ret2
              refine ⟨.inr (.inr ⟨HL.out, HNE.out, .inr ⟨fun M hM h0 hb => ?_, rfl⟩⟩), hB2⟩
              have h9 := HIE.out M hM h0 hb
              subst h9
              exact HS.out hM
      · have hq : ¬ c1.toNat = 125 := fun h => h125 (UInt8.toNat_inj.1 h)
        have hq' : ¬ (c1.toNat : Int) = 125 := by omega
        have hq2 : ((c1.toNat : Int) == 125) = false := by simp; omega
        have HNO : Hid (∀ M, IsSet M → 0 < M.length → stx M ≠ b) := fun M hM h0 hb => by
          have := stx_last M
          rw [hb, HB.out, hc1] at this
          exact h125 (Option.some.inj this)
        clear hc0 hc1
        go_enter Tryz.func20, Tryz.ntmps20
        go_wp2
        go_ret2
        exact ⟨.inr (.inr ⟨HL.out, HNE.out, .inr ⟨HNO.out, rfl⟩⟩), Below.refl _ _⟩
    · have hq : ¬ c0.toNat = 123 := fun h => h123 (UInt8.toNat_inj.1 h)
      have hq' : ¬ (c0.toNat : Int) = 123 := by omega
      have hq2 : ((c0.toNat : Int) == 123) = false := by simp; omega
      have HNO : Hid (∀ M, IsSet M → 0 < M.length → stx M ≠ b) := fun M hM h0 hb => by
        have := stx_first M
        rw [hb, hc0] at this
        exact h123 (Option.some.inj this)
      clear hc0 hc1
      go_enter Tryz.func20, Tryz.ntmps20
      go_wp2
      go_ret2
      exact ⟨.inr (.inr ⟨HL.out, HNE.out, .inr ⟨HNO.out, rfl⟩⟩), Below.refl _ _⟩
  · have h2' : (n : Int) < 2 := by omega
    have HNO : Hid (∀ M, IsSet M → 0 < M.length → stx M ≠ b) := fun M hM h0 hb => by
      have := stx_two M
      rw [hb, HB.out] at this
      omega
    go_enter Tryz.func20, Tryz.ntmps20
    go_wp2
    go_ret2
    exact ⟨.inr (.inr ⟨HL.out, HNE.out, .inr ⟨HNO.out, rfl⟩⟩), Below.refl _ _⟩

set_option maxRecDepth 100000 in
set_option maxHeartbeats 4000000 in
theorem refparse_none (W : World) (hT : Tens W.heap.size W) :
    Calls Tryz.prog 20 #[.string ⟨#[123, 125]⟩] W fun e w' => e = .returned (.tuple #[.slice none 0 0, .int .i64 0]) ∧ Below W.heap.size W w' := by
  have hset := refset_any (.slice none 0 0) [] W (Si.nil W)
  rw [setB_yes isSet_nil] at hset
  have htx := fun X (hX : Below W.heap.size W X) => reftext_any (.slice none 0 0) [] X (Si.nil X) (tens_here hT hX)
  simp only [tkS_yes isSet_nil] at htx
  have e0 : stx [] = [123, 125] := rfl
  simp only [e0] at htx
  have hcmp := beq_str [123, 125] ⟨#[123, 125]⟩ true (by simp)
  go_enter Tryz.func20, Tryz.ntmps20
  go_wp2
  go_loopw [4, 5, 6] (fun l f i wr => l = .slice none 0 0 ∧ i = .int .i64 1 ∧ wr = W) (fun _ _ i _ => 0)
  case atStart => exact ⟨rfl, rfl, rfl⟩
  case round =>
    obtain ⟨rfl, rfl, rfl⟩ := hrel
    go_wp2_with fail
    refine hset.mono ?_
    rintro e w2 ⟨rfl, m2, hw2⟩
    have hb2 : Below wr.heap.size wr w2 := by rw [hw2]; exact below_drewN (Below.refl _ _) _
    have ktx := htx w2 hb2
    clear hset htx hw2
    go_wp2_with fail
    refine ktx.mono ?_
    rintro e w3 ⟨rfl, hb3⟩
    go_wp2
    go_ret2
    exact ⟨rfl, hb2.trans (hb3.mono hb2.size)⟩
theorem refparse_any (s : ByteArray) (W : World) (hT : Tens W.heap.size W) :
    Calls Tryz.prog 20 #[.string s] W fun e w' => ParsE s.data.toList e W.heap.size w' ∧ Below W.heap.size W w' := by
  have hl : s.data.toList.length = s.size := by simp
  by_cases h : 65536 < s.size
  · exact (refparse_long s h W).mono fun e w' ⟨he, hw⟩ => ⟨.inl ⟨by rw [hl]; exact h, he⟩, by rw [hw]; exact Below.refl _ _⟩
  · by_cases hn : s.data.toList = [123, 125]
    · have hs : s = ⟨#[123, 125]⟩ := by rw [show s = ⟨s.data.toList.toArray⟩ by simp, hn]
      subst hs
      exact (refparse_none W hT).mono fun e w' ⟨he, hw⟩ => ⟨.inr (.inl ⟨by decide, hn, he⟩), hw⟩
    · exact refparse_some s (by omega) hn W hT
end Go.Proofs.YtacnhkaibcjjgaaGreatDoor
