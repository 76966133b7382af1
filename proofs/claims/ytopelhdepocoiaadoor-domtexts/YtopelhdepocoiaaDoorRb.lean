/-
  What is proved here: what the reference's dec and Text write of any number and of any ranges.
-/
import Derived.Test.YtopelhdepocoiaaDoorTe
import Derived.Test.YtopelhdepocoiaaDoorYh
import Derived.Shelf.Strconv.Itoa4
import Derived.Laws.Concat
namespace Go.Proofs.YtopelhdepocoiaaDoor
open Go.RowKit Go.Shelf
set_option linter.unusedVariables false

theorem fmt_in (x : Int) (h0 : -9223372036854775808 ≤ x) (h1 : x ≤ 9223372036854775807) (w : World) (htab : Lib.TabIs Tryd.prog w "internal/strconv.uint64pow10" .u64 Lib.pow10Tab) :
    Calls Tryd.prog 41 #[.int .i64 x, .int .i64 10] w fun e w' => e = .returned (.string ⟨(Lib.itoa x).toArray⟩) ∧ ∃ k os, w' = Sort.grow (w.drewN k) os :=
  Any.internal_strconv_FormatInt_10 { Tryd.laysPint with } x h0 h1 w htab
theorem fmt_at (x : Int) (h0 : -9223372036854775808 ≤ x) (h1 : x ≤ 9223372036854775807) (w : World) (hT : Tens w.heap.size w) :
    Calls Tryd.prog 28 #[.int .i64 x, .int .i64 10] w fun e w' => e = .returned (.string ⟨(Lib.itoa x).toArray⟩) ∧ Below w.heap.size w w' := by
  have hc := fmt_in x h0 h1 w hT.here
  go_enter Tryd.func28, Tryd.ntmps28
  go_wp2_with (go_at_call 41; refine hc.mono ?_; rintro e w1 ⟨rfl, k, os, rfl⟩)
  go_ret
  exact ⟨rfl, Lib.below_grow _ _ (Nat.le_refl _) _ _⟩
/-- A string whose bytes are these. -/
def Bs (s : ByteArray) (l : List UInt8) : Prop := s.data.toList = l
theorem Bs.eq {s : ByteArray} {l : List UInt8} (h : Bs s l) : s = ⟨l.toArray⟩ := by unfold Bs at h; rw [← h]
theorem dec_any (x : Int) (h0 : -9223372036854775808 ≤ x) (h1 : x ≤ 9223372036854775807) (w : World) (hT : Tens w.heap.size w) :
    Calls Tryd.prog 17 #[.int .i64 x] w fun e w' => ∃ s, e = .returned (.string s) ∧ Hid (Bs s (Lib.itoa x)) ∧ Below w.heap.size w w' := by
  have hc := fmt_at x h0 h1 w hT
  go_enter Tryd.func17, Tryd.ntmps17
  go_wp2_with (go_at_call 28; refine hc.mono ?_; rintro e w1 ⟨rfl, hb⟩)
  go_ret
  exact ⟨_, rfl, by unfold Hid Bs; simp, hb⟩
theorem add_at {a b : ByteArray} {p q : List UInt8} (ha : Bs a p) (hb : Bs b q) (h : p.length + q.length ≤ 1000000000) : ∃ c, Bs c (p ++ q) ∧ ∀ X, (Op.stringOp .add a b).run Tryd.prog X = .ok (.string c) X := by
  refine ⟨a ++ b, ?_, fun X => run_string_add_sum X a b ?_⟩
  · unfold Bs at *; rw [← ha, ← hb]; simp
  · unfold Bs at *; rw [← ha, ← hb] at h; simp at h; omega

theorem tens_here {W w1 : World} (hT : Tens W.heap.size W) (hb : Below W.heap.size W w1) : Tens w1.heap.size w1 := Lib.tabBelow_of_tabIs (hT.on hb).here

set_option maxRecDepth 100000 in
set_option maxHeartbeats 2000000 in
theorem reftext_yes (s : Value) (l : List Rg) (W : World) (h : Sr W s l) (hR : Some' l) (hT : Tens W.heap.size W) :
    Calls Tryd.prog 7 #[s] W fun e w' => e = .returned (.string ⟨(txN l l.length).toArray⟩) ∧ Below W.heap.size W w' := by
  have hc := taken_yes s l W h hR.1
  have hlen := hR.1.1
  have hpos := hR.2
  have hok := hR.1.2
  obtain ⟨a, cap, rfl, hcell⟩ := h
  obtain ⟨b, off, rfl, hb, hcells⟩ := hcell hpos
  obtain ⟨n, hn⟩ : ∃ n, l.length = n := ⟨_, rfl⟩
  have HN : Hid (l.length = n) := hn
  have HC : Hid _ := hcells
  have HOK : Hid _ := hok
  have HT : Hid (Tens W.heap.size W) := hT
  rw [hn] at hc hlen hpos ⊢
  have hn0 : ((n : Int) == 0) = false := by simp; omega
  clear hn hcells hok hcell hR hT
  go_enter Tryd.func7, Tryd.ntmps7
  go_wp2_with (go_at_call 16; refine hc.mono ?_; rintro e w1 ⟨rfl, n1, rfl⟩)
  have hb1 : Below W.heap.size W (W.drewN n1) := below_drewN (Below.refl _ _) _
  go_loopw [3, 4] (fun o i wr => ∃ (k : Nat) (sk : ByteArray), k ≤ n ∧ i = .int .i64 k ∧ o = .string sk ∧ Hid (Bs sk (txN l k)) ∧ (txN l k).length ≤ 50 * k ∧ Below W.heap.size W wr) (fun _ i _ => n - (intOf i).toNat)
  case atStart => exact ⟨0, ⟨#[]⟩, by omega, rfl, rfl, by unfold Hid Bs; rfl, by simp [txN], hb1⟩
  case round =>
    clear hb1 hc
    obtain ⟨k, sk, hk, rfl, rfl, HS, htl, hB⟩ := hrel
    have hsz := hB.size
    by_cases hlt : k < n
    · have hkl : k < l.length := by rw [HN.out]; exact hlt
      obtain ⟨c1, c2⟩ := HC.out k hkl
      have d1 := (hB.cell (p := ⟨b, off + k * 2, none⟩) hb).trans c1
      have d2 := (hB.cell (p := ⟨b, off + k * 2 + 1, none⟩) hb).trans c2
      obtain ⟨o1, o2, o3, _⟩ := HOK.out k hkl
      have htx : txN l (k + 1) = txN l k ++ (if 0 < k then [44] else []) ++ tx1 (lo l k) (hi l k) := rfl
      obtain ⟨x, hx⟩ : ∃ x, lo l k = x := ⟨_, rfl⟩
      obtain ⟨y, hy⟩ : ∃ y, hi l k = y := ⟨_, rfl⟩
      rw [hx] at d1 o1 o2 htx; rw [hy] at d2 o1 o3 htx
      have lx := Lib.itoa_length_le x (by omega) (by omega)
      have ly := Lib.itoa_length_le y (by omega) (by omega)
      have hlt' : (k : Int) < (n : Int) := by omega
      have HTX : Hid (txN l (k + 1) = txN l k ++ (if 0 < k then [44] else []) ++ tx1 x y) := htx
      obtain ⟨p, hp⟩ : ∃ p, txN l k = p := ⟨_, rfl⟩
      have HP : Hid (txN l k = p) := hp
      rw [hp] at HS htl
      have hbw : b < wr.heap.size := Nat.lt_of_lt_of_le hb hsz
      clear c1 c2 hkl htx hx hy hp
      by_cases hk0 : 0 < k
      · skip
        have hd0 : decide (0 < (k : Int)) = true := by simp; omega
        obtain ⟨s1, hs1, ha1⟩ := add_at HS.out (show Bs ⟨#[44]⟩ [44] from rfl) (by simp only [List.length_cons, List.length_nil]; omega)
        go_wp2_with fail
        refine (dec_any x (by omega) (by omega) _ (tens_here HT.out hB)).mono ?_
        rintro e w2 ⟨q1, rfl, HQ1, hb2⟩
        have hB2 : Below W.heap.size W w2 := hB.trans (hb2.mono hB.size)
        have e1 := (hb2.cell (p := ⟨b, off + k * 2, none⟩) hbw).trans d1
        have e2 := (hb2.cell (p := ⟨b, off + k * 2 + 1, none⟩) hbw).trans d2
        obtain ⟨s2, hs2, ha2⟩ := add_at hs1 HQ1.out (by (try simp only [List.length_append, List.length_cons, List.length_nil]); omega)
        have HS2 : Hid (Bs s2 ((p ++ [44]) ++ Lib.itoa x)) := hs2
        clear hs2 hb2 d1 d2
        by_cases hxy : x < y
        · have hd : decide (x < y) = true := by simpa using hxy
          have HNEW : Hid (txN l (k + 1) = (p ++ [44]) ++ Lib.itoa x ++ [46, 46] ++ Lib.itoa y) := by unfold Hid tx1 at *; rw [HTX, HP, if_pos hk0, if_pos hxy]; simp
          obtain ⟨s3, hs3, ha3⟩ := add_at HS2.out (show Bs ⟨#[46, 46]⟩ [46, 46] from rfl) (by (try simp only [List.length_append, List.length_cons, List.length_nil]); omega)
          have HS3 : Hid _ := hs3
          clear hs3
          go_wp2
          go_region
          go_wp2_with fail
          refine (dec_any y (by omega) (by omega) _ (tens_here HT.out (by first | exact hB2 | exact hB2.drew | exact below_drewN hB2 _))).mono ?_
          rintro e w3 ⟨q2, rfl, HQ2, hb3⟩
          have hB3 : Below W.heap.size W w3 := (show Below W.heap.size W _ from by first | exact hB2 | exact hB2.drew | exact below_drewN hB2 _).trans (hb3.mono hB2.size)
          obtain ⟨s4, hs4, ha4⟩ := add_at HS3.out HQ2.out (by (try simp only [List.length_append, List.length_cons, List.length_nil]); omega)
          have HS4 : Hid _ := hs4
          clear hs4 hb3
          go_wp2
          go_roundw
          case rel => exact ⟨k + 1, s4, by omega, by go_num, rfl, by rw [HNEW.out]; exact HS4.out, by rw [HNEW.out]; simp; omega, hB3⟩
          case measure => simp [intOf]; omega
        · have hd : decide (x < y) = false := by simpa using hxy
          have HNEW : Hid (txN l (k + 1) = (p ++ [44]) ++ Lib.itoa x) := by unfold Hid tx1 at *; rw [HTX, HP, if_pos hk0, if_neg hxy]; simp
          go_wp2
          go_region
          go_wp2
          go_roundw
          case rel => exact ⟨k + 1, s2, by omega, by go_num, rfl, by rw [HNEW.out]; exact HS2.out, by rw [HNEW.out]; simp; omega, by first | exact hB2 | exact hB2.drew | exact below_drewN hB2 _⟩
          case measure => simp [intOf]; omega
      · skip
        have hd0 : decide (0 < (k : Int)) = false := by simp; omega
        go_wp2_with fail
        refine (dec_any x (by omega) (by omega) _ (tens_here HT.out hB)).mono ?_
        rintro e w2 ⟨q1, rfl, HQ1, hb2⟩
        have hB2 : Below W.heap.size W w2 := hB.trans (hb2.mono hB.size)
        have e1 := (hb2.cell (p := ⟨b, off + k * 2, none⟩) hbw).trans d1
        have e2 := (hb2.cell (p := ⟨b, off + k * 2 + 1, none⟩) hbw).trans d2
        obtain ⟨s2, hs2, ha2⟩ := add_at HS.out HQ1.out (by (try simp only [List.length_append, List.length_cons, List.length_nil]); omega)
        have HS2 : Hid (Bs s2 (p ++ Lib.itoa x)) := hs2
        clear hs2 hb2 d1 d2
        by_cases hxy : x < y
        · have hd : decide (x < y) = true := by simpa using hxy
          have HNEW : Hid (txN l (k + 1) = p ++ Lib.itoa x ++ [46, 46] ++ Lib.itoa y) := by unfold Hid tx1 at *; rw [HTX, HP, if_neg hk0, if_pos hxy]; simp
          obtain ⟨s3, hs3, ha3⟩ := add_at HS2.out (show Bs ⟨#[46, 46]⟩ [46, 46] from rfl) (by (try simp only [List.length_append, List.length_cons, List.length_nil]); omega)
          have HS3 : Hid _ := hs3
          clear hs3
          go_wp2
          go_region
          go_wp2_with fail
          refine (dec_any y (by omega) (by omega) _ (tens_here HT.out (by first | exact hB2 | exact hB2.drew | exact below_drewN hB2 _))).mono ?_
          rintro e w3 ⟨q2, rfl, HQ2, hb3⟩
          have hB3 : Below W.heap.size W w3 := (show Below W.heap.size W _ from by first | exact hB2 | exact hB2.drew | exact below_drewN hB2 _).trans (hb3.mono hB2.size)
          obtain ⟨s4, hs4, ha4⟩ := add_at HS3.out HQ2.out (by (try simp only [List.length_append, List.length_cons, List.length_nil]); omega)
          have HS4 : Hid _ := hs4
          clear hs4 hb3
          go_wp2
          go_roundw
          case rel => exact ⟨k + 1, s4, by omega, by go_num, rfl, by rw [HNEW.out]; exact HS4.out, by rw [HNEW.out]; simp; omega, hB3⟩
          case measure => simp [intOf]; omega
        · have hd : decide (x < y) = false := by simpa using hxy
          have HNEW : Hid (txN l (k + 1) = p ++ Lib.itoa x) := by unfold Hid tx1 at *; rw [HTX, HP, if_neg hk0, if_neg hxy]; simp
          go_wp2
          go_region
          go_wp2
          go_roundw
          case rel => exact ⟨k + 1, s2, by omega, by go_num, rfl, by rw [HNEW.out]; exact HS2.out, by rw [HNEW.out]; simp; omega, by first | exact hB2 | exact hB2.drew | exact below_drewN hB2 _⟩
          case measure => simp [intOf]; omega
    · have hkn : k = n := by omega
      subst hkn
      go_wp2
      go_ret
      exact ⟨by rw [HS.out.eq]; rfl, hB⟩

set_option maxHeartbeats 1000000 in
theorem reftext_no (s : Value) (l : List Rg) (W : World) (h : Sr W s l) (hR : ¬ Some' l) :
    Calls Tryd.prog 7 #[s] W fun e w' => e = .returned (.string ⟨#[123, 125]⟩) ∧ Below W.heap.size W w' := by
  by_cases hr : Right l
  · have h0 : l.length = 0 := by
      apply Classical.byContradiction; intro hn; exact hR ⟨hr, by omega⟩
    have hc := taken_yes s l W h hr
    obtain ⟨a, cap, rfl, _⟩ := h
    rw [h0] at hc ⊢
    clear hR h0 hr
    go_enter Tryd.func7, Tryd.ntmps7
    go_wp2_with (go_at_call 16; refine hc.mono ?_; rintro e w1 ⟨rfl, n1, rfl⟩)
    go_ret
    exact ⟨rfl, below_drewN (Below.refl _ _) _⟩
  · have hc := taken_no s l W h hr
    obtain ⟨a, cap, rfl, _⟩ := h
    clear hR hr
    go_enter Tryd.func7, Tryd.ntmps7
    go_wp2_with (go_at_call 16; refine hc.mono ?_; rintro e w1 ⟨rfl, n1, rfl⟩)
    go_ret
    exact ⟨rfl, below_drewN (Below.refl _ _) _⟩
end Go.Proofs.YtopelhdepocoiaaDoor
