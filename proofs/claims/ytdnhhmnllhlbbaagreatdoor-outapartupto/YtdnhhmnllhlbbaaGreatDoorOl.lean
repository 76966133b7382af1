/-
  What is proved here: parse.Expr of three kinds, and what package out writes with it: numbers and spans.
-/
import Derived.Test.YtdnhhmnllhlbbaaGreatDoorOk
namespace Go.Proofs.YtdnhhmnllhlbbaaGreatDoor
open Go.RowKit Go.Shelf
set_option linter.unusedVariables false
set_option linter.unusedSimpArgs false

theorem itoa_pos (x : Int) : 0 < (Lib.itoa x).length := by
  obtain ⟨c, r, h, _⟩ := itoa_form x
  rw [h]; simp
/-- What an expression's text is. -/
structure Exs (k n m : Int) (T : List UInt8) : Prop where
  calls : ∀ {B g : Nat} {W : World} {v : Value} {D : List UInt8}, Tens W → Wr W B g v D → D.length ≤ 900000000 → Calls Tryz.prog 76 #[.pointer (some ⟨g, 0, none⟩), exV k n m] W fun e w' => e = .returned (.tuple #[]) ∧ ∃ v', Wr w' B g v' (D ++ T) ∧ Below B W w'
  len : T.length ≤ 1000
  pos : 0 < T.length
theorem exs_1 (x : Int) : Exs 1 x 0 (truT x) := ⟨fun _ h hD => expr_1 x h hD, by unfold truT; split <;> simp, by unfold truT; split <;> simp⟩
theorem exs_2 (n : Int) (h0 : -9223372036854775808 ≤ n) (h1 : n ≤ 9223372036854775807) : Exs 2 n 0 (Lib.itoa n) := ⟨fun hT h hD => expr_2 n h0 h1 hT h hD, Nat.le_trans (Lib.itoa_length_le n h0 h1) (by decide), itoa_pos n⟩
theorem exs_3 (n m : Int) (h0 : -9223372036854775808 ≤ n) (h1 : n ≤ 9223372036854775807) (m0 : -9223372036854775808 ≤ m) (m1 : m ≤ 9223372036854775807) : Exs 3 n m (Lib.itoa n ++ [46, 46] ++ Lib.itoa m) := ⟨fun hT h hD => expr_3 n m h0 h1 m0 m1 hT h hD, by have := Lib.itoa_length_le n h0 h1; have := Lib.itoa_length_le m m0 m1; simp; omega, by have := itoa_pos n; simp; omega⟩

set_option maxRecDepth 100000 in
set_option maxHeartbeats 4000000 in
theorem pexpr51 {k n m : Int} {T : List UInt8} {W : World} (h : Exs k n m T) (hT : Tens W) : Calls Tryz.prog 51 #[exV k n m] W fun e w' => e = .returned (.string (bs T)) ∧ Below W.heap.size W w' := by
  have HE : Hid (Exs k n m T) := h
  have HT : Hid (Tens W) := hT
  clear h hT
  obtain ⟨E, hE⟩ : ∃ E, exV k n m = E := ⟨_, rfl⟩
  have hE2 : ∃ a b c d e, E = .agg #[a, b, c, d, e] := ⟨_, _, _, _, _, hE.symm⟩
  obtain ⟨a, b, c, d, e, rfl⟩ := hE2
  have HEE : Hid _ := hE
  rw [hE]
  clear hE
  go_enter Tryz.func51, Tryz.ntmps51
  go_wp2_with fail
  obtain ⟨A, hA⟩ : ∃ A, W.heap.size + 1 = A := ⟨_, rfl⟩
  obtain ⟨w0, hw0⟩ : ∃ q, W.alloc (Obj.cells #[a, b, c, d, e] 97) = q := ⟨_, rfl⟩
  obtain ⟨w1, hw1⟩ : ∃ q, w0.alloc (Obj.cells #[Value.slice none 0 0, .int .i64 9223372036854775807] 123) = q := ⟨_, rfl⟩
  have hs0 : w0.heap.size = A := by rw [← hw0, ← hA, World.size_alloc]
  have hb1 : Below W.heap.size W w1 := by rw [← hw1, ← hw0]; exact ((Below.refl _ _).alloc (Nat.le_refl _) _).alloc (by rw [World.size_alloc]; omega) _
  have HW1 : Hid (Wr w1 W.heap.size A (.slice none 0 0) []) := ⟨⟨by rw [← hw1, ← hs0]; exact (Blk.new w0 _ _).h⟩, World.ownsRow_nil _ _ _ _, by omega, rfl⟩
  have HT1 : Hid (Tens w1) := HT.out.self hb1
  have HB1 : Hid (Below W.heap.size W w1) := hb1
  have hX := HE.out.calls HT1.out HW1.out (by simp)
  rw [HEE.out] at hX
  rw [hw0, hw1, hA]
  clear hw0 hw1 hs0 hb1 hA
  refine hX.mono ?_
  rintro e' w2 ⟨rfl, v2, hv2, hb2⟩
  clear hX
  rw [List.nil_append] at hv2
  obtain ⟨g2, cap2, rfl, hg2, hg2l, hcv⟩ := conv_back _ _ _ T HE.out.pos hv2.own
  have z0 : w2.cell? ⟨A, 0, none⟩ = some (.slice (some ⟨g2, 0, none⟩) T.length cap2) := hv2.box.cell 0 _ rfl
  have HCV := hcv w2 (Below.refl _ _)
  have HB2 : Hid (Below W.heap.size W w2) := HB1.out.trans hb2
  have hle := HE.out.len
  obtain ⟨l, hl⟩ : ∃ l, T.length = l := ⟨_, rfl⟩
  rw [hl] at z0 HCV hle
  clear hv2 hb2 hcv hg2 hg2l hl
  go_wp2_with fail
  go_ret
  exact ⟨rfl, HB2.out⟩

set_option maxRecDepth 100000 in
set_option maxHeartbeats 4000000 in
theorem digits52 (n : Int) (h0 : -9223372036854775808 ≤ n) (h1 : n ≤ 9223372036854775807) (W : World) (hT : Tens W) : Calls Tryz.prog 52 #[.int .i64 n] W fun e w' => e = .returned (.string (bs (Lib.itoa n))) ∧ Below W.heap.size W w' := by
  have hX : Calls Tryz.prog 51 #[.agg #[.int .i64 2, .int .i64 n, .int .i64 0, .string ⟨#[]⟩, .slice none 0 0]] W fun e w' => e = .returned (.string (bs (Lib.itoa n))) ∧ Below W.heap.size W w' := pexpr51 (exs_2 n h0 h1) hT
  go_enter Tryz.func52, Tryz.ntmps52
  go_wp2_with fail
  refine hX.mono ?_
  rintro e w2 ⟨rfl, hb2⟩
  clear hX
  go_wp2_with fail
  go_ret
  exact ⟨rfl, hb2⟩
/-- A span as text. -/
def spanT (n m : Int) : List UInt8 := Lib.itoa n ++ [46, 46] ++ Lib.itoa m

set_option maxRecDepth 100000 in
set_option maxHeartbeats 4000000 in
theorem span50 (n m : Int) (h0 : -9223372036854775808 ≤ n) (h1 : n ≤ 9223372036854775807) (m0 : -9223372036854775808 ≤ m) (m1 : m ≤ 9223372036854775807) (W : World) (hT : Tens W) : Calls Tryz.prog 50 #[.int .i64 n, .int .i64 m] W fun e w' => e = .returned (.string (bs (spanT n m))) ∧ Below W.heap.size W w' := by
  have hX : Calls Tryz.prog 51 #[.agg #[.int .i64 3, .int .i64 n, .int .i64 m, .string ⟨#[]⟩, .slice none 0 0]] W fun e w' => e = .returned (.string (bs (spanT n m))) ∧ Below W.heap.size W w' := pexpr51 (exs_3 n m h0 h1 m0 m1) hT
  go_enter Tryz.func50, Tryz.ntmps50
  go_wp2_with fail
  refine hX.mono ?_
  rintro e w2 ⟨rfl, hb2⟩
  clear hX
  go_wp2_with fail
  go_ret
  exact ⟨rfl, hb2⟩
end Go.Proofs.YtdnhhmnllhlbbaaGreatDoor
