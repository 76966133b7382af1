/-
  What is proved here: what package lex's sign answers, or throws.
-/
import Derived.Test.YtokcbiafajpmoaaDoorLp
namespace Go.Proofs.YtokcbiafajpmoaaDoor
open Go.RowKit
set_option linter.unusedVariables false
set_option linter.unusedSimpArgs false
theorem bs_upto (l : List UInt8) (b : Nat) (h : b ≤ l.length) (X : World) :
    (Instr.slice 9 (.string (bs l)) none (some (.int .i64 (b : Int))) none).run Tryd.prog X = .ok (.string (bs (l.take b))) X := by
  rw [run_slice_string_to_if X 9 (bs l) .i64 b Tryd.underlying9, if_pos ⟨by omega, by rw [bs_size]; omega⟩]
  congr 2
  rw [← bs_of (ByteArray.extract _ _ _), Lib.extract_data, bs_data]
  simp
def endL (r : Res) (t : List UInt8) (a : Nat) : Ending :=
  match r with
  | .ok k m n => .returned (tokV k (t.take m) n a)
  | .bad x => .panicked (thrown x a)
theorem endOf_eq (r : Res) (l : List UInt8) (a : Nat) : endOf r l a = endL r (l.drop a) a := by cases r <;> rfl
def two1 (x y : UInt8) : List UInt8 → Bool
  | c :: d :: _ => c == x && d == y
  | _ => false
theorem pre_two (l : List UInt8) (x y : UInt8) : Lib.hasPrefix l [x, y] = two1 x y l := by
  unfold Lib.hasPrefix
  match l with
  | [] => rfl
  | [c] => simp [two1, List.isPrefixOf]
  | c :: d :: r => simp [two1, List.isPrefixOf, Bool.beq_comm (a := x), BEq.comm (a := x), BEq.comm (a := y)]
theorem two_or (l : List UInt8) : twoB l = (two1 46 46 l || two1 58 58 l) := by
  match l with
  | [] => rfl
  | [c] => rfl
  | c :: d :: r => rfl
theorem two_len (x y : UInt8) (l : List UInt8) (h : two1 x y l = true) : 2 ≤ l.length := by
  match l, h with
  | [], h => simp [two1] at h
  | [c], h => simp [two1] at h
  | c :: d :: r, h => simp

set_option maxRecDepth 100000 in
set_option maxHeartbeats 4000000 in
theorem sign_any (l : List UInt8) (a : Nat) (c : UInt8) (r : List UInt8) (hd : l.drop a = c :: r) (hl : l.length ≤ 65536) (W : World) :
    Calls Tryd.prog 35 #[.string (bs l), .int .i64 (a : Int)] W fun e w' => e = endOf (sgnR (l.drop a)) l a ∧ Below W.heap.size W w' := by
  have hal : a < l.length := by
    apply Classical.byContradiction; intro h
    rw [List.drop_eq_nil_of_le (by omega)] at hd
    exact absurd hd (by simp)
  have hsl := fun X => bs_from l a (by omega) X
  rw [endOf_eq, hd]
  rw [hd] at hsl
  have hp1 := fun X => Any.strings_HasPrefix Tryd.laysHasPrefix (bs (c :: r)) ⟨#[46, 46]⟩ X
  have hp2 := fun X => Any.strings_HasPrefix Tryd.laysHasPrefix (bs (c :: r)) ⟨#[58, 58]⟩ X
  have hib := fun X => Any.strings_IndexByte Tryd.laysIndexByte ⟨#[59, 58, 44, 40, 41, 91, 93, 123, 125, 61]⟩ (c.toNat : Int) X
  have hback : ((c.toNat : Int)).toNat.toUInt8 = c := by simp
  rw [hback] at hib
  have hcon := Lib.contains_iff_indexByte signs c
  have e1 : Lib.hasPrefix (bs (c :: r)).data.toList (ByteArray.mk #[46, 46]).data.toList = two1 46 46 (c :: r) := by rw [bs_data]; exact pre_two _ _ _
  have e2 : Lib.hasPrefix (bs (c :: r)).data.toList (ByteArray.mk #[58, 58]).data.toList = two1 58 58 (c :: r) := by rw [bs_data]; exact pre_two _ _ _
  have e3 : Lib.indexByte (ByteArray.mk #[59, 58, 44, 40, 41, 91, 93, 123, 125, 61]).data.toList c = Lib.indexByte signs c := rfl
  rw [e1] at hp1
  rw [e2] at hp2
  rw [e3] at hib
  obtain ⟨ix, hix⟩ : ∃ ix, Lib.indexByte signs c = ix := ⟨_, rfl⟩
  rw [hix] at hib hcon
  have hsz : (bs (c :: r)).size = r.length + 1 := bs_size _
  obtain ⟨hx0, hx⟩ := bs_get (c :: r) 0 c rfl
  obtain ⟨w1, hW1⟩ : ∃ X, W.alloc (Obj.cells #[.int .i64 0, .string ⟨#[]⟩, .int .i64 0, .int .i64 0] 23) = X := ⟨_, rfl⟩
  have hb1 : Below W.heap.size W w1 := by rw [← hW1]; exact (Below.refl _ W).alloc (Nat.le_refl _) _
  have HROW : Hid (Rw w1 W.heap.size 23 #[.int .i64 0, .string ⟨#[]⟩, .int .i64 0, .int .i64 0]) := by unfold Hid; rw [← hW1]; exact Rw.new _ _ _
  have HW1 : Hid _ := hW1
  have HB1 : Hid _ := hb1
  have HT := two_or (c :: r)
  clear hW1 hb1 e1 e2 e3 hix hback
  cases ht1 : two1 46 46 (c :: r) with
  | true =>
    rw [ht1] at hp1 HT
    have HR : Hid (sgnR (c :: r) = .ok 4 2 0) := by unfold Hid sgnR; rw [HT]; rfl
    have hup : ∀ X, (Instr.slice 9 (.string (bs (c :: r))) none (some (.int .i64 2)) none).run Tryd.prog X = .ok (.string (bs ((c :: r).take 2))) X := fun X => bs_upto (c :: r) 2 (two_len _ _ _ ht1) X
    clear hp2 HT hcon hib ht1
    go_enter Tryd.func35, Tryd.ntmps35
    go_upto_region 1 with (fail)
    rw [HW1.out]
    clear HW1
    go_wp2_with (first | (go_at_call 45; refine (hp1 _).mono ?_; rintro e w' ⟨rfl, rfl⟩) | (with_reducible refine st23 rfl (.tmp 4) (.tmp 17) rfl W.heap.size _ _ _ _ (by with_unfolding_all rfl) (by with_unfolding_all rfl) HROW.out rfl ⟨rfl, rfl, rfl, rfl⟩ ?_))
    refine ⟨rfl, _, Rw.res23 rfl _ (HROW.out.set #[.int .i64 4, .string (bs ((c :: r).take 2)), .int .i64 0, .int .i64 (a : Int)]) rfl, ?_, below_setRow HB1.out (Nat.le_refl _) _⟩
    rw [HR.out]; rfl
  | false =>
    rw [ht1] at hp1 HT
    cases ht2 : two1 58 58 (c :: r) with
    | true =>
      rw [ht2] at hp2 HT
      have HR : Hid (sgnR (c :: r) = .ok 4 2 0) := by unfold Hid sgnR; rw [HT]; rfl
      have hup : ∀ X, (Instr.slice 9 (.string (bs (c :: r))) none (some (.int .i64 2)) none).run Tryd.prog X = .ok (.string (bs ((c :: r).take 2))) X := fun X => bs_upto (c :: r) 2 (two_len _ _ _ ht2) X
      clear HT hcon hib ht1 ht2
      go_enter Tryd.func35, Tryd.ntmps35
      go_upto_region 1 with (fail)
      rw [HW1.out]
      clear HW1
      go_upto_region 3 with (go_at_call 45; refine (hp1 _).mono ?_; rintro e w' ⟨rfl, rfl⟩)
      clear hp1
      go_wp2_with (first | (go_at_call 45; refine (hp2 _).mono ?_; rintro e w' ⟨rfl, rfl⟩) | (with_reducible refine st23 rfl (.tmp 4) (.tmp 17) rfl W.heap.size _ _ _ _ (by with_unfolding_all rfl) (by with_unfolding_all rfl) HROW.out rfl ⟨rfl, rfl, rfl, rfl⟩ ?_))
      refine ⟨rfl, _, Rw.res23 rfl _ (HROW.out.set #[.int .i64 4, .string (bs ((c :: r).take 2)), .int .i64 0, .int .i64 (a : Int)]) rfl, ?_, below_setRow HB1.out (Nat.le_refl _) _⟩
      rw [HR.out]; rfl
    | false =>
      rw [ht2] at hp2 HT
      cases hc : signs.contains c with
      | true =>
        rw [hc] at hcon
        have hge : (0 : Int) ≤ ix := of_decide_eq_true hcon.symm
        have HR : Hid (sgnR (c :: r) = .ok 4 1 0) := by unfold Hid sgnR; rw [HT]; show (if signs.contains c = true then _ else _) = _; rw [hc]; rfl
        have hup : ∀ X, (Instr.slice 9 (.string (bs (c :: r))) none (some (.int .i64 1)) none).run Tryd.prog X = .ok (.string (bs ((c :: r).take 1))) X := fun X => bs_upto (c :: r) 1 (by simp) X
        clear HT hcon ht1 ht2 hc
        go_enter Tryd.func35, Tryd.ntmps35
        go_upto_region 1 with (fail)
        rw [HW1.out]
        clear HW1
        go_upto_region 3 with (go_at_call 45; refine (hp1 _).mono ?_; rintro e w' ⟨rfl, rfl⟩)
        clear hp1
        go_wp2_with (first | (go_at_call 45; refine (hp2 _).mono ?_; rintro e w' ⟨rfl, rfl⟩) | (go_at_call 46; refine (hib _).mono ?_; rintro e w' ⟨rfl, rfl⟩) | (with_reducible refine st23 rfl (.tmp 4) (.tmp 26) rfl W.heap.size _ _ _ _ (by with_unfolding_all rfl) (by with_unfolding_all rfl) HROW.out rfl ⟨rfl, rfl, rfl, rfl⟩ ?_))
        refine ⟨rfl, _, Rw.res23 rfl _ (HROW.out.set #[.int .i64 4, .string (bs ((c :: r).take 1)), .int .i64 0, .int .i64 (a : Int)]) rfl, ?_, below_setRow HB1.out (Nat.le_refl _) _⟩
        rw [HR.out]; rfl
      | false =>
        rw [hc] at hcon
        have hge : ¬ (0 : Int) ≤ ix := of_decide_eq_false hcon.symm
        have HR : Hid (sgnR (c :: r) = .bad 150) := by unfold Hid sgnR; rw [HT]; show (if signs.contains c = true then _ else _) = _; rw [hc]; rfl
        clear HT hcon ht1 ht2 hc
        go_enter Tryd.func35, Tryd.ntmps35
        go_upto_region 1 with (fail)
        rw [HW1.out]
        clear HW1
        go_upto_region 3 with (go_at_call 45; refine (hp1 _).mono ?_; rintro e w' ⟨rfl, rfl⟩)
        clear hp1
        go_wp2_with (first | (go_at_call 45; refine (hp2 _).mono ?_; rintro e w' ⟨rfl, rfl⟩) | (go_at_call 46; refine (hib _).mono ?_; rintro e w' ⟨rfl, rfl⟩))
        exact ⟨rfl, by rw [HR.out]; rfl, HB1.out⟩
end Go.Proofs.YtokcbiafajpmoaaDoor
