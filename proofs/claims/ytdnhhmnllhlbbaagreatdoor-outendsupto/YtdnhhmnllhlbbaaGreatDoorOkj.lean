/-
  What is proved here: Texts of numbers and of truths, and expressions of three kinds as a writer writes them.
  What is proved here: parse.Expr of three kinds, and what package out writes with it: numbers and spans.
-/
import Derived.Test.YtdnhhmnllhlbbaaGreatDoorOj
import Derived.Test.YtdnhhmnllhlbbaaGreatDoorXSh
import Derived.Lib.ItoaLen
namespace Go.Proofs.YtdnhhmnllhlbbaaGreatDoor
open Go.RowKit Go.Shelf
set_option linter.unusedVariables false
set_option linter.unusedSimpArgs false

/-- A truth as text. -/
def truT (x : Int) : List UInt8 := if x = 1 then [116, 114, 117, 101] else [102, 97, 108, 115, 101]

set_option maxRecDepth 100000 in
set_option maxHeartbeats 4000000 in
theorem truth98 (x : Int) (W : World) : Calls Tryz.prog 98 #[.int .i64 x] W fun e w' => e = .returned (.string (bs (truT x))) ∧ w' = W := by
  unfold truT
  by_cases h : x = 1
  · subst h
    go_enter Tryz.func98, Tryz.ntmps98
    go_wp2
    go_ret
    exact ⟨rfl, rfl⟩
  · rw [if_neg h]
    go_enter Tryz.func98, Tryz.ntmps98
    go_wp2
    go_ret
    exact ⟨rfl, rfl⟩
theorem below_growP {B : Nat} {W w : World} (h : Below B W w) (os : Array Obj) (hB : B ≤ w.heap.size) : Below B W (Sort.grow w os) :=
  ⟨h.os, h.tape, h.output, by show W.heap.size ≤ (w.heap ++ os).size; rw [Array.size_append]; have := h.size; omega, fun k hk => by
    rw [← h.block k hk]
    show (w.heap ++ os)[k]? = w.heap[k]?
    rw [Array.getElem?_append_left (by omega)]⟩
theorem fint68 (n : Int) (h0 : -9223372036854775808 ≤ n) (h1 : n ≤ 9223372036854775807) (W : World) (hT : Tens W) : Calls Tryz.prog 68 #[.int .i64 n, .int .i64 10] W fun e w' => e = .returned (.string (bs (Lib.itoa n))) ∧ Below W.heap.size W w' :=
  (Any.strconv_FormatInt_10 Tryz.laysFint n h0 h1 W hT).mono fun e w' h => by
    obtain ⟨he, k, os, rfl⟩ := h
    exact ⟨he, below_growP (⟨rfl, rfl, rfl, Nat.le_refl _, fun _ _ => rfl⟩ : Below W.heap.size W (W.drewN k)) os (Nat.le_refl _)⟩

set_option maxRecDepth 100000 in
set_option maxHeartbeats 4000000 in
theorem digits99 (n : Int) (h0 : -9223372036854775808 ≤ n) (h1 : n ≤ 9223372036854775807) (W : World) (hT : Tens W) : Calls Tryz.prog 99 #[.int .i64 n] W fun e w' => e = .returned (.string (bs (Lib.itoa n))) ∧ Below W.heap.size W w' := by
  have hF := fint68 n h0 h1 W hT
  go_enter Tryz.func99, Tryz.ntmps99
  go_wp2_with fail
  refine hF.mono ?_
  rintro e w' ⟨rfl, hb⟩
  clear hF
  go_wp2
  go_ret
  exact ⟨rfl, hb⟩

/-- An expression of a kind below four. -/
def exV (k n m : Int) : Value := .agg #[.int .i64 k, .int .i64 n, .int .i64 m, .string ⟨#[]⟩, .slice none 0 0]
theorem Txs.new (w : World) (P : List (List UInt8)) (cs : Array Value) (h : cs = (P.map fun p => Value.string (bs p)).toArray) : Txs (w.alloc (Obj.cells cs 9)) (.slice (some ⟨w.heap.size, 0, none⟩) P.length P.length) P := by
  have hb : (w.alloc (Obj.cells cs 9)).heap[w.heap.size]? = some (.cells cs 9 (0, 0)) := (Blk.new w cs 9).h
  refine ⟨w.heap.size, _, rfl, (Array.getElem?_eq_some_iff.1 hb).1, ⟨_, hb⟩, fun i p hp => ?_⟩
  rw [(⟨hb⟩ : Blk _ _ _ _).cell i, h]
  simp [hp]

set_option maxRecDepth 100000 in
set_option maxHeartbeats 4000000 in
theorem expr_1 {B g : Nat} {W : World} {v : Value} {D : List UInt8} (x : Int) (h : Wr W B g v D) (hsz : D.length ≤ 900000000) :
    Calls Tryz.prog 76 #[.pointer (some ⟨g, 0, none⟩), exV 1 x 0] W fun e w' => e = .returned (.tuple #[]) ∧ ∃ v', Wr w' B g v' (D ++ truT x) ∧ Below B W w' := by
  have HW : Hid (Wr W B g v D) := h
  clear h
  unfold exV
  go_enter Tryz.func76, Tryz.ntmps76
  go_wp2_with fail
  have HG0 : Hid (B ≤ W.heap.size) := Nat.le_trans HW.out.ge (Nat.le_of_lt HW.out.lt)
  obtain ⟨cx, hcx⟩ : ∃ q, Obj.cells #[Value.int .i64 1, .int .i64 x, .int .i64 0, .string ⟨#[]⟩, .slice none 0 0] 97 = q := ⟨_, rfl⟩
  rw [hcx]
  obtain ⟨w0, hw0⟩ : ∃ q, W.alloc cx = q := ⟨_, rfl⟩
  rw [hw0]
  have hb0 : Below W.heap.size W w0 := by rw [← hw0]; exact (Below.refl _ _).alloc (Nat.le_refl _) _
  have HW0 : Hid (Wr w0 B g v D) := HW.out.below hb0
  have HB0 : Hid (Below B W w0) := hb0.mono HG0.out
  clear hw0 hcx hb0
  refine (truth98 x _).mono ?_
  rintro e w' ⟨rfl, hw'⟩
  rw [hw']
  clear hw'
  go_wp2_with fail
  obtain ⟨w1, hw1⟩ : ∃ q, w0.alloc (Obj.cells #[Value.string (bs (truT x))] 9) = q := ⟨_, rfl⟩
  have HT1 : Hid (Txs w1 (.slice (some ⟨w0.heap.size, 0, none⟩) 1 1) [truT x]) := by rw [← hw1]; exact Txs.new w0 [truT x] _ rfl
  have HB1 : Hid (Below w0.heap.size w0 w1) := by rw [← hw1]; exact (Below.refl _ _).alloc (Nat.le_refl _) _
  rw [hw1]
  clear hw1
  have HG1 : Hid (B ≤ w0.heap.size) := Nat.le_trans HW0.out.ge (Nat.le_of_lt HW0.out.lt)
  have htl : (truT x).length ≤ 5 := by unfold truT; split <;> simp
  have hp := put97 (n := 1) (c := 1) [truT x] (HW0.out.below HB1.out) HT1.out rfl (by omega) (by simp; omega)
  refine hp.mono ?_
  rintro e w2 ⟨rfl, v2, hv2, hb2, hf2⟩
  clear hp
  go_wp2
  exact ⟨rfl, _, results_none rfl _ _ _, rfl, v2, by simpa using hv2, HB0.out.trans ((HB1.out.mono HG1.out).trans hb2)⟩

set_option maxRecDepth 100000 in
set_option maxHeartbeats 4000000 in
theorem expr_2 {B g : Nat} {W : World} {v : Value} {D : List UInt8} (n : Int) (h0 : -9223372036854775808 ≤ n) (h1 : n ≤ 9223372036854775807) (hT : Tens W) (h : Wr W B g v D) (hsz : D.length ≤ 900000000) :
    Calls Tryz.prog 76 #[.pointer (some ⟨g, 0, none⟩), exV 2 n 0] W fun e w' => e = .returned (.tuple #[]) ∧ ∃ v', Wr w' B g v' (D ++ Lib.itoa n) ∧ Below B W w' := by
  have HW : Hid (Wr W B g v D) := h
  have HT : Hid (Tens W) := hT
  clear h hT
  unfold exV
  go_enter Tryz.func76, Tryz.ntmps76
  go_upto_region 5 with (fail)
  have HG0 : Hid (B ≤ W.heap.size) := Nat.le_trans HW.out.ge (Nat.le_of_lt HW.out.lt)
  obtain ⟨A, hA⟩ : ∃ A, W.heap.size = A := ⟨_, rfl⟩
  rw [hA]
  obtain ⟨w0, hw0⟩ : ∃ q, W.alloc (Obj.cells #[Value.int .i64 2, .int .i64 n, .int .i64 0, .string ⟨#[]⟩, .slice none 0 0] 97) = q := ⟨_, rfl⟩
  rw [hw0]
  have hb0 : Below W.heap.size W w0 := by rw [← hw0]; exact (Below.refl _ _).alloc (Nat.le_refl _) _
  have HX0 : Hid (Blk w0 A #[Value.int .i64 2, .int .i64 n, .int .i64 0, .string ⟨#[]⟩, .slice none 0 0] 97) := by rw [← hw0, ← hA]; exact Blk.new _ _ _
  have HW0 : Hid (Wr w0 B g v D) := HW.out.below hb0
  have HT0 : Hid (Tens w0) := HT.out.self hb0
  have HB0 : Hid (Below B W w0) := hb0.mono HG0.out
  have HG1 : Hid (B ≤ w0.heap.size) := Nat.le_trans HW0.out.ge (Nat.le_of_lt HW0.out.lt)
  clear hw0 hb0 hA HW HT
  have x1 : w0.cell? ⟨A, 1, none⟩ = some (.int .i64 n) := HX0.out.cell 1
  have hF := digits99 n h0 h1 w0 HT0.out
  go_wp2_with fail
  refine hF.mono ?_
  rintro e w1 ⟨rfl, hb1⟩
  clear hF x1
  have HW1 : Hid (Wr w1 B g v D) := HW0.out.below hb1
  have HG2 : Hid (B ≤ w1.heap.size) := Nat.le_trans HW1.out.ge (Nat.le_of_lt HW1.out.lt)
  have HB1 : Hid (Below B W w1) := HB0.out.trans (hb1.mono HG1.out)
  clear hb1
  go_wp2_with fail
  obtain ⟨w2, hw2⟩ : ∃ q, w1.alloc (Obj.cells #[Value.string (bs (Lib.itoa n))] 9) = q := ⟨_, rfl⟩
  have HT2 : Hid (Txs w2 (.slice (some ⟨w1.heap.size, 0, none⟩) 1 1) [Lib.itoa n]) := by rw [← hw2]; exact Txs.new w1 [Lib.itoa n] _ rfl
  have HB2 : Hid (Below w1.heap.size w1 w2) := by rw [← hw2]; exact (Below.refl _ _).alloc (Nat.le_refl _) _
  rw [hw2]
  clear hw2
  have htl : (Lib.itoa n).length ≤ 21 := Lib.itoa_length_le n h0 h1
  have hp := put97 (n := 1) (c := 1) [Lib.itoa n] (HW1.out.below HB2.out) HT2.out rfl (by omega) (by simp; omega)
  refine hp.mono ?_
  rintro e w3 ⟨rfl, v2, hv2, hb2, hf2⟩
  clear hp
  go_wp2
  exact ⟨rfl, _, results_none rfl _ _ _, rfl, v2, by simpa using hv2, HB1.out.trans ((HB2.out.mono HG2.out).trans hb2)⟩

set_option maxRecDepth 100000 in
set_option maxHeartbeats 4000000 in
theorem expr_3 {B g : Nat} {W : World} {v : Value} {D : List UInt8} (n m : Int) (h0 : -9223372036854775808 ≤ n) (h1 : n ≤ 9223372036854775807) (m0 : -9223372036854775808 ≤ m) (m1 : m ≤ 9223372036854775807) (hT : Tens W) (h : Wr W B g v D) (hsz : D.length ≤ 900000000) :
    Calls Tryz.prog 76 #[.pointer (some ⟨g, 0, none⟩), exV 3 n m] W fun e w' => e = .returned (.tuple #[]) ∧ ∃ v', Wr w' B g v' (D ++ (Lib.itoa n ++ [46, 46] ++ Lib.itoa m)) ∧ Below B W w' := by
  have HW : Hid (Wr W B g v D) := h
  have HT : Hid (Tens W) := hT
  clear h hT
  unfold exV
  go_enter Tryz.func76, Tryz.ntmps76
  go_upto_region 7 with (fail)
  have HG0 : Hid (B ≤ W.heap.size) := Nat.le_trans HW.out.ge (Nat.le_of_lt HW.out.lt)
  obtain ⟨A, hA⟩ : ∃ A, W.heap.size = A := ⟨_, rfl⟩
  rw [hA]
  obtain ⟨w0, hw0⟩ : ∃ q, W.alloc (Obj.cells #[Value.int .i64 3, .int .i64 n, .int .i64 m, .string ⟨#[]⟩, .slice none 0 0] 97) = q := ⟨_, rfl⟩
  rw [hw0]
  have hb0 : Below W.heap.size W w0 := by rw [← hw0]; exact (Below.refl _ _).alloc (Nat.le_refl _) _
  have HX0 : Hid (Blk w0 A #[Value.int .i64 3, .int .i64 n, .int .i64 m, .string ⟨#[]⟩, .slice none 0 0] 97) := by rw [← hw0, ← hA]; exact Blk.new _ _ _
  have HW0 : Hid (Wr w0 B g v D) := HW.out.below hb0
  have HT0 : Hid (Tens w0) := HT.out.self hb0
  have HB0 : Hid (Below B W w0) := hb0.mono HG0.out
  have HG1 : Hid (B ≤ w0.heap.size) := Nat.le_trans HW0.out.ge (Nat.le_of_lt HW0.out.lt)
  clear hw0 hb0 hA HW HT
  have KF : Hid (∀ X (n : Int), -9223372036854775808 ≤ n → n ≤ 9223372036854775807 → Below w0.heap.size w0 X → Calls Tryz.prog 99 #[.int .i64 n] X fun e w' => e = .returned (.string (bs (Lib.itoa n))) ∧ Below X.heap.size X w') := fun X n h0 h1 hb => digits99 n h0 h1 X (HT0.out.self hb)
  have HP0 : Hid (Below w0.heap.size w0 w0.drew) := (Below.refl _ _).drew
  refine wp_region_held_drew (S := fun X : World => Blk X A #[Value.int .i64 3, .int .i64 n, .int .i64 m, .string ⟨#[]⟩, .slice none 0 0] 97) (by kernel_rfl) (HX0.out.below HP0.out) (fun hHeld => ?_)
  refine tkI 0 rfl hHeld ?_
  try simp only [Act.put, zS, eZ, eS]
  refine tkI 1 rfl hHeld ?_
  try simp only [Act.put, zS, eZ, eS]
  refine tkI 2 rfl hHeld ?_ (hy := by intro w hSw; have x1 := hSw.cell 1; have x2 := hSw.cell 2; go_simp <;> with_reducible rfl)
  try simp only [Act.put, zS, eZ, eS]
  refine tkI 4 rfl hHeld ?_
  try simp only [Act.put, zS, eZ, eS]
  refine tkI 5 rfl hHeld ?_ (hy := by intro w hSw; have x1 := hSw.cell 1; have x2 := hSw.cell 2; go_simp <;> with_reducible rfl)
  try simp only [Act.put, zS, eZ, eS]
  refine rdy 3 rfl fun K hK => ?_
  go_simp
  refine (KF.out _ n h0 h1 HP0.out).mono ?_
  rintro e w1 ⟨rfl, hb⟩
  have HP1 : Hid (Below w0.heap.size w0 w1) := HP0.out.trans (hb.mono HP0.out.size)
  clear hb
  clear hHeld; refine hK.out _ _ (HX0.out.below HP1.out) fun hHeld => ?_
  clear hK K
  try simp only [Act.put, zS, eZ, eS]
  refine rdy 6 rfl fun K hK => ?_
  go_simp
  refine (KF.out _ m m0 m1 HP1.out).mono ?_
  rintro e w2 ⟨rfl, hb⟩
  have HP2 : Hid (Below w0.heap.size w0 w2) := HP1.out.trans (hb.mono HP1.out.size)
  clear hb
  clear hHeld; refine hK.out _ _ (HX0.out.below HP2.out) fun hHeld => ?_
  clear hK K
  try simp only [Act.put, zS, eZ, eS]
  refine rdy 7 rfl fun K hK => ?_
  obtain ⟨b2, hbs⟩ : ∃ q, w2.heap.size = q := ⟨_, rfl⟩
  go_simp
  (try rw [hbs])
  obtain ⟨w3, hw3⟩ : ∃ q, w2.alloc (Obj.cells #[Value.string (bs (Lib.itoa n)), .string ⟨#[46, 46]⟩, .string (bs (Lib.itoa m))] 9) = q := ⟨_, rfl⟩
  have HT3 : Hid (Txs w3 (.slice (some ⟨b2, 0, none⟩) 3 3) [Lib.itoa n, [46, 46], Lib.itoa m]) := by rw [← hw3, ← hbs]; exact Txs.new w2 [Lib.itoa n, [46, 46], Lib.itoa m] _ rfl
  have HP3 : Hid (Below w0.heap.size w0 w3) := by rw [← hw3]; exact HP2.out.alloc HP2.out.size _
  rw [hw3]
  clear hw3 hbs
  clear hHeld; refine hK.out _ _ (HX0.out.below HP3.out) fun hHeld => ?_
  clear hK K
  try simp only [Act.put, zS, eZ, eS]
  refine rdy 8 rfl fun K hK => ?_
  have ln := Lib.itoa_length_le n h0 h1
  have lm := Lib.itoa_length_le m m0 m1
  have hp := put97 (n := 3) (c := 3) [Lib.itoa n, [46, 46], Lib.itoa m] (HW0.out.below HP3.out) HT3.out rfl (by omega) (by simp; omega)
  go_simp
  refine hp.mono ?_
  rintro e w4 ⟨rfl, v2, hv2, hb2, hf2⟩
  have HX4 : Hid (Blk w4 A #[Value.int .i64 3, .int .i64 n, .int .i64 m, .string ⟨#[]⟩, .slice none 0 0] 97) := (Fr.of_below HP3.out).trans hf2 |>.blk HX0.out (by decide) (by decide)
  have HV : Hid _ := hv2
  have HB4 : Hid (Below B W w4) := (HB0.out.trans (HP3.out.mono HG1.out)).trans hb2
  clear hp hv2 hb2 hf2 ln lm
  clear hHeld; refine hK.out _ _ (HX4.out) fun hHeld => ?_
  clear hK K
  try simp only [Act.put, zS, eZ, eS]
  refine wpAnyH_done (by kernel_rfl) ?_ _
  go_wp2
  exact ⟨rfl, _, results_none rfl _ _ _, rfl, v2, by have := HV.out; simpa using this, HB4.out⟩
end Go.Proofs.YtdnhhmnllhlbbaaGreatDoor

namespace Go.Proofs.YtdnhhmnllhlbbaaGreatDoor
open Go.RowKit Go.Shelf
set_option linter.unusedVariables false
set_option linter.unusedSimpArgs false

theorem itoa_pos (x : Int) : 0 < (Lib.itoa x).length := by
  obtain ⟨c, r, h, _⟩ := itoa_form x
  rw [h]; simp
/-- What an expression's text is. -/
structure Exs (k n m : Int) (T : List UInt8) : Prop where
  calls : ∀ {B g : Nat} {W : World} {v : Value} {D : List UInt8}, Tens W → Wr W B g v D → D.length ≤ 900000000 → Calls Tryz.prog 76 #[.pointer (some ⟨g, 0, none⟩), exV k n m] W fun e w' => e = .returned (.tuple #[]) ∧ ∃ v', Wr w' B g v' (D ++ T) ∧ Below B W w'
  len : T.length ≤ 1000
  pos : 0 < T.length
theorem exs_1 (x : Int) : Exs 1 x 0 (truT x) := ⟨fun _ h hD => expr_1 x h hD, by unfold truT; split <;> simp, by unfold truT; split <;> simp⟩
theorem exs_2 (n : Int) (h0 : -9223372036854775808 ≤ n) (h1 : n ≤ 9223372036854775807) : Exs 2 n 0 (Lib.itoa n) := ⟨fun hT h hD => expr_2 n h0 h1 hT h hD, Nat.le_trans (Lib.itoa_length_le n h0 h1) (by decide), itoa_pos n⟩
theorem exs_3 (n m : Int) (h0 : -9223372036854775808 ≤ n) (h1 : n ≤ 9223372036854775807) (m0 : -9223372036854775808 ≤ m) (m1 : m ≤ 9223372036854775807) : Exs 3 n m (Lib.itoa n ++ [46, 46] ++ Lib.itoa m) := ⟨fun hT h hD => expr_3 n m h0 h1 m0 m1 hT h hD, by have := Lib.itoa_length_le n h0 h1; have := Lib.itoa_length_le m m0 m1; simp; omega, by have := itoa_pos n; simp; omega⟩

set_option maxRecDepth 100000 in
set_option maxHeartbeats 4000000 in
theorem pexpr51 {k n m : Int} {T : List UInt8} {W : World} (h : Exs k n m T) (hT : Tens W) : Calls Tryz.prog 51 #[exV k n m] W fun e w' => e = .returned (.string (bs T)) ∧ Below W.heap.size W w' := by
  have HE : Hid (Exs k n m T) := h
  have HT : Hid (Tens W) := hT
  clear h hT
  obtain ⟨E, hE⟩ : ∃ E, exV k n m = E := ⟨_, rfl⟩
  have hE2 : ∃ a b c d e, E = .agg #[a, b, c, d, e] := ⟨_, _, _, _, _, hE.symm⟩
  obtain ⟨a, b, c, d, e, rfl⟩ := hE2
  have HEE : Hid _ := hE
  rw [hE]
  clear hE
  go_enter Tryz.func51, Tryz.ntmps51
  go_wp2_with fail
  obtain ⟨A, hA⟩ : ∃ A, W.heap.size + 1 = A := ⟨_, rfl⟩
  obtain ⟨w0, hw0⟩ : ∃ q, W.alloc (Obj.cells #[a, b, c, d, e] 97) = q := ⟨_, rfl⟩
  obtain ⟨w1, hw1⟩ : ∃ q, w0.alloc (Obj.cells #[Value.slice none 0 0, .int .i64 9223372036854775807] 123) = q := ⟨_, rfl⟩
  have hs0 : w0.heap.size = A := by rw [← hw0, ← hA, World.size_alloc]
  have hb1 : Below W.heap.size W w1 := by rw [← hw1, ← hw0]; exact ((Below.refl _ _).alloc (Nat.le_refl _) _).alloc (by rw [World.size_alloc]; omega) _
  have HW1 : Hid (Wr w1 W.heap.size A (.slice none 0 0) []) := ⟨⟨by rw [← hw1, ← hs0]; exact (Blk.new w0 _ _).h⟩, World.ownsRow_nil _ _ _ _, by omega, rfl⟩
  have HT1 : Hid (Tens w1) := HT.out.self hb1
  have HB1 : Hid (Below W.heap.size W w1) := hb1
  have hX := HE.out.calls HT1.out HW1.out (by simp)
  rw [HEE.out] at hX
  rw [hw0, hw1, hA]
  clear hw0 hw1 hs0 hb1 hA
  refine hX.mono ?_
  rintro e' w2 ⟨rfl, v2, hv2, hb2⟩
  clear hX
  rw [List.nil_append] at hv2
  obtain ⟨g2, cap2, rfl, hg2, hg2l, hcv⟩ := conv_back _ _ _ T HE.out.pos hv2.own
  have z0 : w2.cell? ⟨A, 0, none⟩ = some (.slice (some ⟨g2, 0, none⟩) T.length cap2) := hv2.box.cell 0 _ rfl
  have HCV := hcv w2 (Below.refl _ _)
  have HB2 : Hid (Below W.heap.size W w2) := HB1.out.trans hb2
  have hle := HE.out.len
  obtain ⟨l, hl⟩ : ∃ l, T.length = l := ⟨_, rfl⟩
  rw [hl] at z0 HCV hle
  clear hv2 hb2 hcv hg2 hg2l hl
  go_wp2_with fail
  go_ret
  exact ⟨rfl, HB2.out⟩

set_option maxRecDepth 100000 in
set_option maxHeartbeats 4000000 in
theorem digits52 (n : Int) (h0 : -9223372036854775808 ≤ n) (h1 : n ≤ 9223372036854775807) (W : World) (hT : Tens W) : Calls Tryz.prog 52 #[.int .i64 n] W fun e w' => e = .returned (.string (bs (Lib.itoa n))) ∧ Below W.heap.size W w' := by
  have hX : Calls Tryz.prog 51 #[.agg #[.int .i64 2, .int .i64 n, .int .i64 0, .string ⟨#[]⟩, .slice none 0 0]] W fun e w' => e = .returned (.string (bs (Lib.itoa n))) ∧ Below W.heap.size W w' := pexpr51 (exs_2 n h0 h1) hT
  go_enter Tryz.func52, Tryz.ntmps52
  go_wp2_with fail
  refine hX.mono ?_
  rintro e w2 ⟨rfl, hb2⟩
  clear hX
  go_wp2_with fail
  go_ret
  exact ⟨rfl, hb2⟩
/-- A span as text. -/
def spanT (n m : Int) : List UInt8 := Lib.itoa n ++ [46, 46] ++ Lib.itoa m

set_option maxRecDepth 100000 in
set_option maxHeartbeats 4000000 in
theorem span50 (n m : Int) (h0 : -9223372036854775808 ≤ n) (h1 : n ≤ 9223372036854775807) (m0 : -9223372036854775808 ≤ m) (m1 : m ≤ 9223372036854775807) (W : World) (hT : Tens W) : Calls Tryz.prog 50 #[.int .i64 n, .int .i64 m] W fun e w' => e = .returned (.string (bs (spanT n m))) ∧ Below W.heap.size W w' := by
  have hX : Calls Tryz.prog 51 #[.agg #[.int .i64 3, .int .i64 n, .int .i64 m, .string ⟨#[]⟩, .slice none 0 0]] W fun e w' => e = .returned (.string (bs (spanT n m))) ∧ Below W.heap.size W w' := pexpr51 (exs_3 n m h0 h1 m0 m1) hT
  go_enter Tryz.func50, Tryz.ntmps50
  go_wp2_with fail
  refine hX.mono ?_
  rintro e w2 ⟨rfl, hb2⟩
  clear hX
  go_wp2_with fail
  go_ret
  exact ⟨rfl, hb2⟩
end Go.Proofs.YtdnhhmnllhlbbaaGreatDoor
