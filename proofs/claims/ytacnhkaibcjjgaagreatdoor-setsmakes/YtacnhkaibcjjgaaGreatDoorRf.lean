/-
  What is proved here: strconv.FormatInt at base 10, and the reference's Text of any list.
-/
import Derived.Test.YtacnhkaibcjjgaaGreatDoorRd
import Derived.Test.YtacnhkaibcjjgaaGreatDoorSo
import Derived.Shelf.Strconv.Itoa4
import Derived.Laws.Concat
namespace Go.Proofs.YtacnhkaibcjjgaaGreatDoor
open Go.RowKit Go.Shelf
set_option linter.unusedVariables false
set_option linter.unusedSimpArgs false

theorem fmt_in (x : Int) (h0 : -9223372036854775808 ≤ x) (h1 : x ≤ 9223372036854775807) (w : World) (htab : Lib.TabIs Tryz.prog w "internal/strconv.uint64pow10" .u64 Lib.pow10Tab) :
    Calls Tryz.prog 101 #[.int .i64 x, .int .i64 10] w fun e w' => e = .returned (.string ⟨(Lib.itoa x).toArray⟩) ∧ ∃ k os, w' = Sort.grow (w.drewN k) os :=
  Any.internal_strconv_FormatInt_10 { Tryz.laysPint with } x h0 h1 w htab
/-- A string whose bytes are these. -/
def Bs (s : ByteArray) (l : List UInt8) : Prop := s.data.toList = l
theorem Bs.eq {s : ByteArray} {l : List UInt8} (h : Bs s l) : s = ⟨l.toArray⟩ := by unfold Bs at h; rw [← h]
theorem fmt_any (x : Int) (h0 : -9223372036854775808 ≤ x) (h1 : x ≤ 9223372036854775807) (w : World) (hT : Tens w.heap.size w) :
    Calls Tryz.prog 71 #[.int .i64 x, .int .i64 10] w fun e w' => ∃ s, e = .returned (.string s) ∧ Hid (Bs s (Lib.itoa x)) ∧ Below w.heap.size w w' := by
  have hc := fmt_in x h0 h1 w hT.here
  go_enter Tryz.func71, Tryz.ntmps71
  go_wp2_with (go_at_call 101; refine hc.mono ?_; rintro e w1 ⟨rfl, k, os, rfl⟩)
  go_ret
  exact ⟨_, rfl, by unfold Hid Bs; simp, Lib.below_grow _ _ (Nat.le_refl _) _ _⟩
theorem add_at {a b : ByteArray} {p q : List UInt8} (ha : Bs a p) (hb : Bs b q) (h : p.length + q.length ≤ 1000000000) : ∃ c, Bs c (p ++ q) ∧ ∀ X, (Op.stringOp .add a b).run Tryz.prog X = .ok (.string c) X := by
  refine ⟨a ++ b, ?_, fun X => run_string_add_sum X a b ?_⟩
  · unfold Bs at *; rw [← ha, ← hb]; simp
  · unfold Bs at *; rw [← ha, ← hb] at h; simp at h; omega

set_option maxRecDepth 100000 in
set_option maxHeartbeats 4000000 in
theorem reftext_any (s : Value) (l : List Int) (W : World) (h : Si W s l) (hT : Tens W.heap.size W) :
    Calls Tryz.prog 22 #[s] W fun e w' => e = .returned (.string ⟨(stx (tkS l)).toArray⟩) ∧ Below W.heap.size W w' := by
  have hk := taken_any s l W h
  have hset := tkS_set l
  have HIS : Hid (IsSet (tkS l)) := hset
  have hlen := hset.1
  have HT : Hid (Tens W.heap.size W) := hT
  generalize tkS l = A at hk HIS hlen ⊢
  obtain ⟨a1, c1, rfl, _⟩ := h
  generalize l.length = l1 at *
  clear hT hset
  go_enter Tryz.func22, Tryz.ntmps22
  go_wp2_with fail
  refine hk.mono ?_
  rintro e w1 ⟨a3, n, c3, rfl, HS1, HN1, m1, hw1⟩
  have hb1 : Below W.heap.size W w1 := by rw [hw1]; exact below_drewN (Below.refl _ _) _
  have q1 := HS1.out
  obtain ⟨_, _, e3, hc1⟩ := q1
  rw [← HN1.out] at e3 hc1
  injection e3 with e4 _ e5
  subst e4 e5
  have HC : Hid _ := hc1
  have HN : Hid (A.length = n) := HN1.out.symm
  have hn : n ≤ 64 := by rw [HN1.out]; exact hlen
  clear hk hw1 HS1 hc1 HN1 hlen
  go_wp2
  go_loopw [3, 4] (fun o i wr => ∃ (k : Nat) (sk : ByteArray), k ≤ n ∧ i = .int .i64 k ∧ o = .string sk ∧ Hid (Bs sk (txS A k)) ∧ (txS A k).length ≤ 50 * k + 1 ∧ Below W.heap.size W wr) (fun _ i _ => n - (intOf i).toNat)
  case atStart => exact ⟨0, ⟨#[123]⟩, by omega, rfl, rfl, by unfold Hid Bs; rfl, by simp [txS], hb1⟩
  case round =>
    clear hb1
    obtain ⟨k, sk, hk, rfl, rfl, HS, htl, hB⟩ := hrel
    have hsz := hB.size
    by_cases hlt : k < n
    · have hkl : k < A.length := by rw [HN.out]; exact hlt
      obtain ⟨b, off, rfl, hb, hcell⟩ := HC.out (by omega)
      have d1 := (hB.cell (p := ⟨b, off + k, none⟩) hb).trans (hcell k hlt)
      have hok := HIS.out.2 k hkl
      obtain ⟨x, hx⟩ : ∃ x, nth A k = x := ⟨_, rfl⟩
      have htx : txS A (k + 1) = txS A k ++ (if 0 < k then [44] else []) ++ Lib.itoa (nth A k) := rfl
      unfold SetAt at hok
      rw [hx] at d1 hok htx
      have o1 := hok.1
      have o2 := hok.2.1
      have lx := Lib.itoa_length_le x (by omega) (by omega)
      have hlt' : (k : Int) < (n : Int) := by omega
      have HTX : Hid (txS A (k + 1) = txS A k ++ (if 0 < k then [44] else []) ++ Lib.itoa x) := htx
      obtain ⟨p, hp⟩ : ∃ p, txS A k = p := ⟨_, rfl⟩
      have HP : Hid (txS A k = p) := hp
      rw [hp] at HS htl
      clear hkl htx hx hp hcell hok
      by_cases hk0 : 0 < k
      · have hd0 : decide (0 < (k : Int)) = true := by simp; omega
        obtain ⟨s1, hs1, ha1⟩ := add_at HS.out (show Bs ⟨#[44]⟩ [44] from rfl) (by simp only [List.length_cons, List.length_nil]; omega)
        go_wp2_with fail
        refine (fmt_any x (by omega) (by omega) _ (tens_here HT.out hB)).mono ?_
        rintro e w2 ⟨q1, rfl, HQ1, hb2⟩
        have hB2 : Below W.heap.size W w2 := hB.trans (hb2.mono hB.size)
        obtain ⟨s2, hs2, ha2⟩ := add_at hs1 HQ1.out (by simp only [List.length_append, List.length_cons, List.length_nil]; omega)
        have HNEW : Hid (Bs s2 (txS A (k + 1)) ∧ (txS A (k + 1)).length ≤ 50 * (k + 1) + 1) := by
          unfold Hid; rw [HTX.out, HP.out, if_pos hk0]; exact ⟨hs2, by simp only [List.length_append, List.length_cons, List.length_nil]; omega⟩
        clear hs1 hs2 hb2
        go_wp2
        go_roundw
        case rel => exact ⟨k + 1, s2, by omega, by go_num, rfl, HNEW.out.1, HNEW.out.2, hB2⟩
        case measure => simp [intOf]; omega
      · have hd0 : decide (0 < (k : Int)) = false := by simp; omega
        go_wp2_with fail
        refine (fmt_any x (by omega) (by omega) _ (tens_here HT.out hB)).mono ?_
        rintro e w2 ⟨q1, rfl, HQ1, hb2⟩
        have hB2 : Below W.heap.size W w2 := hB.trans (hb2.mono hB.size)
        obtain ⟨s2, hs2, ha2⟩ := add_at HS.out HQ1.out (by omega)
        have HNEW : Hid (Bs s2 (txS A (k + 1)) ∧ (txS A (k + 1)).length ≤ 50 * (k + 1) + 1) := by
          unfold Hid; rw [HTX.out, HP.out, if_neg hk0, List.append_nil]; exact ⟨hs2, by simp only [List.length_append]; omega⟩
        clear hs2 hb2
        go_wp2
        go_roundw
        case rel => exact ⟨k + 1, s2, by omega, by go_num, rfl, HNEW.out.1, HNEW.out.2, hB2⟩
        case measure => simp [intOf]; omega
    · have hlt' : ¬ (k : Int) < (n : Int) := by omega
      obtain rfl : k = n := by omega
      obtain ⟨s2, hs2, ha2⟩ := add_at HS.out (show Bs ⟨#[125]⟩ [125] from rfl) (by simp only [List.length_cons, List.length_nil]; omega)
      have HF : Hid (s2 = ⟨(stx A).toArray⟩) := by unfold Hid stx; rw [HN.out]; exact hs2.eq
      clear hs2
      go_wp2
      go_ret
      exact ⟨by rw [HF.out]; rfl, hB⟩
end Go.Proofs.YtacnhkaibcjjgaaGreatDoor
