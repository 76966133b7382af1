/-
  What is proved here: Numbers by strconv.Itoa; last lines; what stands round an output's values.
-/
import Derived.Test.YtdnhhmnllhlbbaaGreatDoorOn
namespace Go.Proofs.YtdnhhmnllhlbbaaGreatDoor
open Go.RowKit Go.Shelf
set_option linter.unusedVariables false
set_option linter.unusedSimpArgs false

theorem fint88 (n : Int) (h0 : -9223372036854775808 ≤ n) (h1 : n ≤ 9223372036854775807) (W : World) (hT : Tens W) : Calls Tryz.prog 88 #[.int .i64 n, .int .i64 10] W fun e w' => e = .returned (.string (bs (Lib.itoa n))) ∧ Below W.heap.size W w' :=
  (Any.internal_strconv_FormatInt_10 { Tryz.laysFint with } n h0 h1 W hT).mono fun e w' h => by
    obtain ⟨he, k, os, rfl⟩ := h
    exact ⟨he, below_growP (⟨rfl, rfl, rfl, Nat.le_refl _, fun _ _ => rfl⟩ : Below W.heap.size W (W.drewN k)) os (Nat.le_refl _)⟩

set_option maxRecDepth 100000 in
set_option maxHeartbeats 4000000 in
theorem itoa67 (n : Int) (h0 : -9223372036854775808 ≤ n) (h1 : n ≤ 9223372036854775807) (W : World) (hT : Tens W) : Calls Tryz.prog 67 #[.int .i64 n] W fun e w' => e = .returned (.string (bs (Lib.itoa n))) ∧ Below W.heap.size W w' := by
  have hX := fint88 n h0 h1 W hT
  go_enter Tryz.func67, Tryz.ntmps67
  go_wp2_with fail
  refine hX.mono ?_
  rintro e w2 ⟨rfl, hb2⟩
  clear hX
  go_wp2_with fail
  go_ret
  exact ⟨rfl, hb2⟩

set_option maxRecDepth 100000 in
set_option maxHeartbeats 4000000 in
theorem itoa40 (n : Int) (h0 : -9223372036854775808 ≤ n) (h1 : n ≤ 9223372036854775807) (W : World) (hT : Tens W) : Calls Tryz.prog 40 #[.int .i64 n] W fun e w' => e = .returned (.string (bs (Lib.itoa n))) ∧ Below W.heap.size W w' := by
  have hX := itoa67 n h0 h1 W hT
  go_enter Tryz.func40, Tryz.ntmps40
  go_wp2_with fail
  refine hX.mono ?_
  rintro e w2 ⟨rfl, hb2⟩
  clear hX
  go_wp2_with fail
  go_ret
  exact ⟨rfl, hb2⟩
/-- A run's last line. -/
def statT (how why part at_ : Int) : List UInt8 :=
  if how = 1 then [61, 61, 61, 61, 61, 61, 61, 61, 61, 61, 10]
  else if how = 2 then [61, 61, 61, 61, 61, 85, 78, 83, 65, 84, 73, 83, 70, 73, 65, 66, 76, 69, 61, 61, 61, 61, 61, 10]
  else if how = 4 then [61, 61, 61, 61, 61, 69, 82, 82, 79, 82, 61, 61, 61, 61, 61, 32] ++ Lib.itoa why ++ [32] ++ Lib.itoa part ++ [32] ++ Lib.itoa at_ ++ [10]
  else [61, 61, 61, 61, 61, 85, 78, 75, 78, 79, 87, 78, 61, 61, 61, 61, 61, 10]
theorem bs_app (a b : List UInt8) : bs a ++ bs b = bs (a ++ b) := by
  apply ByteArray.ext
  simp [bs, ByteArray.data_append]

set_option maxRecDepth 100000 in
set_option maxHeartbeats 4000000 in
theorem stat15 (how why part at_ : Int) (w0 : -9223372036854775808 ≤ why) (w1 : why ≤ 9223372036854775807) (p0 : -9223372036854775808 ≤ part) (p1 : part ≤ 9223372036854775807) (a0 : -9223372036854775808 ≤ at_) (a1 : at_ ≤ 9223372036854775807) (W : World) (hT : Tens W) :
    Calls Tryz.prog 15 #[.int .i64 how, .int .i64 why, .int .i64 part, .int .i64 at_] W fun e w' => e = .returned (.string (bs (statT how why part at_))) ∧ Below W.heap.size W w' := by
  by_cases h1 : how = 1
  · subst h1
    go_enter Tryz.func15, Tryz.ntmps15
    go_wp2
    go_ret
    exact ⟨rfl, Below.refl _ _⟩
  by_cases h2 : how = 2
  · subst h2
    go_enter Tryz.func15, Tryz.ntmps15
    go_wp2
    go_ret
    exact ⟨rfl, Below.refl _ _⟩
  by_cases h4 : how = 4
  · subst h4
    go_enter Tryz.func15, Tryz.ntmps15
    have HT : Hid (Tens W) := hT
    have lw := Lib.itoa_length_le why w0 w1
    have lp := Lib.itoa_length_le part p0 p1
    have la := Lib.itoa_length_le at_ a0 a1
    clear hT
    go_wp2_with fail
    refine (itoa40 why w0 w1 _ HT.out).mono ?_
    rintro e w2 ⟨rfl, hb2⟩
    have HB2 : Hid _ := hb2
    clear hb2
    have hz1 : 16 + (bs (Lib.itoa why)).size ≤ 9223372036854775807 := by rw [bs_size]; omega
    have hz2 : 16 + (bs (Lib.itoa why)).size + 1 ≤ 9223372036854775807 := by rw [bs_size]; omega
    go_wp2_with fail
    refine (itoa40 part p0 p1 _ (HT.out.self HB2.out)).mono ?_
    rintro e w3 ⟨rfl, hb3⟩
    have HB3 : Hid (Below W.heap.size W w3) := HB2.out.trans (hb3.mono HB2.out.size)
    clear hb3 HB2 hz1 hz2
    have hz1 : 16 + (bs (Lib.itoa why)).size + 1 + (bs (Lib.itoa part)).size ≤ 9223372036854775807 := by rw [bs_size, bs_size]; omega
    have hz2 : 16 + (bs (Lib.itoa why)).size + 1 + (bs (Lib.itoa part)).size + 1 ≤ 9223372036854775807 := by rw [bs_size, bs_size]; omega
    go_wp2_with fail
    refine (itoa40 at_ a0 a1 _ (HT.out.self HB3.out)).mono ?_
    rintro e w4 ⟨rfl, hb4⟩
    have HB4 : Hid (Below W.heap.size W w4) := HB3.out.trans (hb4.mono HB3.out.size)
    clear hb4 HB3 hz1 hz2
    have hz1 : 16 + (bs (Lib.itoa why)).size + 1 + (bs (Lib.itoa part)).size + 1 + (bs (Lib.itoa at_)).size ≤ 9223372036854775807 := by rw [bs_size, bs_size, bs_size]; omega
    have hz2 : 16 + (bs (Lib.itoa why)).size + 1 + (bs (Lib.itoa part)).size + 1 + (bs (Lib.itoa at_)).size + 1 ≤ 9223372036854775807 := by rw [bs_size, bs_size, bs_size]; omega
    go_wp2_with fail
    go_ret
    exact ⟨by show Ending.returned (Value.string (bs [61, 61, 61, 61, 61, 69, 82, 82, 79, 82, 61, 61, 61, 61, 61, 32] ++ bs (Lib.itoa why) ++ bs [32] ++ bs (Lib.itoa part) ++ bs [32] ++ bs (Lib.itoa at_) ++ bs [10])) = _; simp only [bs_app]; rfl, HB4⟩
  · go_enter Tryz.func15, Tryz.ntmps15
    go_wp2
    go_ret
    exact ⟨by unfold statT; rw [if_neg h1, if_neg h2, if_neg h4]; rfl, Below.refl _ _⟩
end Go.Proofs.YtdnhhmnllhlbbaaGreatDoor
