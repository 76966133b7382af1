/-
  What is proved here: the table of constraints as package cons has it: what its iterator tells.
  What is proved here: the names of a row of the table, gone through.
-/
import Derived.Test.YtaeobgajhieajaaGreatDoorCa
namespace Go.Proofs.YtaeobgajhieajaaGreatDoor
open Go.RowKit Go.Shelf
set_option linter.unusedVariables false
set_option linter.unusedSimpArgs false
/-- The walk stops here. -/
structure Stopped (p : Prop) : Prop where
  out : p
theorem stop_block2 {F : Fence} {n : Nat} {P : Program} {i : Nat} {c : Code} {Q : Exit → Act → World → Prop} {a : Act} {w : World} (h : Stopped ((Code.block i c).wpIn F n P Q a w)) : (Code.block i c).wpIn F n P Q a w := h.out
theorem rows_of {Bg : Array Value} (h : (List.range 48).map (fun k => Bg.extract (k * 3) (k * 3 + 3)) = (List.range 48).map rowA) : ∀ k, k < 48 → Bg.extract (k * 3) (k * 3 + 3) = rowA k := fun k hk => by
  have := congrArg (fun l => l[k]?) h
  simpa [hk] using this

set_option maxRecDepth 100000 in
set_option maxHeartbeats 4000000 in
theorem rows_any (n lr : Nat) (W : World) (J : Nat → World → Prop) (Jx : World → Prop) (hJb : ∀ k w w', J k w → Below w.heap.size w w' → J k w')
    (hY : ∀ m k w, k < 48 → J k w → ∃ fn tmps assign body, (Instr.yield lr #[.agg (rowA k)]).run Tryz.prog w = .ok (.round lr fn tmps assign body) w ∧
      RoundIn Fence.wide m Tryz.prog lr fn tmps assign body w fun e w' => (e = .returned (.bool true) ∧ J (k + 1) w') ∨ (e = .returned (.bool false) ∧ Jx w')) (h0 : J 0 W) :
    CallsIn Fence.wide n Tryz.prog 38 #[.func (.yield lr) #[] #[]] W fun e w' => (∃ v, e = .returned v) ∧ (J 48 w' ∨ Jx w') := by
  refine callsIn_of_wp Tryz.func38 rfl trivial ?_ rfl
  simp only [Tryz.ntmps38, List.size_toArray, List.length_cons, List.length_nil, Nat.reduceAdd, Nat.reduceSub, Array.replicate_succ, Array.replicate_zero, List.push_toArray, List.append_toArray, List.nil_append, List.cons_append]
  have HJ : Hid _ := hJb
  have HY : Hid _ := hY
  clear hJb hY
  gi_upto_region 1 with (with_reducible refine stop_block2 ?_)
  refine Stopped.mk ?_
  exact loop38 n lr _ rfl (rows_of (by kernel_rfl)) J Jx HJ.out HY.out W h0
end Go.Proofs.YtaeobgajhieajaaGreatDoor

namespace Go.Proofs.YtaeobgajhieajaaGreatDoor
open Go.RowKit Go.Shelf
set_option linter.unusedVariables false
set_option linter.unusedSimpArgs false

attribute [local go_sem] Oper.semAt_some
/-- The cell of the library's greatest length is a number. -/
def MaxL (W : World) : Prop := 0 < W.heap.size ∧ ∃ m, W.cell? ⟨0, 0, none⟩ = some (.int .i64 m)
theorem MaxL.below {W w : World} {B : Nat} (h : MaxL W) (hb : Below B W w) (hB : 0 < B) : MaxL w := by
  obtain ⟨h1, m, h2⟩ := h
  exact ⟨Nat.lt_of_lt_of_le h1 hb.size, m, (hb.cell (p := ⟨0, 0, none⟩) hB).trans h2⟩
/-- The names of a text, parted at blanks. -/
def nmF : Nat → List UInt8 → List (List UInt8)
  | 0, _ => []
  | f + 1, s => if s = [] then [] else (Lib.cut s [32]).1 :: nmF f (Lib.cut s [32]).2.1
theorem cut_less (s : List UInt8) (h : s ≠ []) : (Lib.cut s [32]).2.1.length < s.length := by
  have h0 : 0 < s.length := List.length_pos_iff.2 h
  unfold Lib.cut
  split
  · simp only [List.length_drop, List.length_cons, List.length_nil]; omega
  · simpa using h0
theorem nmF_more : ∀ (f g : Nat) (s : List UInt8), s.length < f → s.length < g → nmF f s = nmF g s
  | 0, _, s, h, _ => absurd h (Nat.not_lt_zero _)
  | _ + 1, 0, s, _, h => absurd h (Nat.not_lt_zero _)
  | f + 1, g + 1, s, h1, h2 => by
    unfold nmF
    by_cases hs : s = []
    · rw [if_pos hs, if_pos hs]
    · rw [if_neg hs, if_neg hs]
      have := cut_less s hs
      rw [nmF_more f g _ (by omega) (by omega)]
def nmL (s : List UInt8) : List (List UInt8) := nmF (s.length + 1) s
theorem nmL_nil : nmL [] = [] := rfl
theorem nmL_cons (s : List UInt8) (h : s ≠ []) : nmL s = (Lib.cut s [32]).1 :: nmL (Lib.cut s [32]).2.1 := by
  have := cut_less s h
  unfold nmL
  rw [show nmF (s.length + 1) s = if s = [] then [] else (Lib.cut s [32]).1 :: nmF s.length (Lib.cut s [32]).2.1 from rfl, if_neg h, nmF_more s.length ((Lib.cut s [32]).2.1.length + 1) _ (by omega) (by omega)]
def strLen : Value → Nat
  | .string b => b.size
  | _ => 0

set_option maxRecDepth 100000 in
set_option maxHeartbeats 4000000 in
theorem each62 (n lr B : Nat) (s : List UInt8) (W : World) (hB : W.cell? ⟨B, 2, none⟩ = some (.string ⟨s.toArray⟩)) (hlen : s.length < 4000)
    (J : List (List UInt8) → World → Prop) (Jx : World → Prop) (hJM : ∀ p w, J p w → MaxL w) (hJb : ∀ p w w', J p w → Below w.heap.size w w' → J p w')
    (hY : ∀ m p l w, (∃ r, p ++ [l] ++ r = nmL s) → J p w → ∃ fn tmps assign body, (Instr.yield lr #[.string ⟨l.toArray⟩]).run Tryz.prog w = .ok (.round lr fn tmps assign body) w ∧
      RoundIn Fence.wide m Tryz.prog lr fn tmps assign body w fun e w' => (e = .returned (.bool true) ∧ J (p ++ [l]) w') ∨ (e = .returned (.bool false) ∧ Jx w')) (h0 : J [] W) :
    CallsIn Fence.wide n Tryz.prog 62 #[.func (.yield lr) #[] #[], .pointer (some ⟨B, 0, none⟩)] W fun e w' => (∃ v, e = .returned v) ∧ (J (nmL s) w' ∨ Jx w') := by
  have HJ : Hid _ := hJb
  have HY : Hid _ := hY
  have HM : Hid _ := hJM
  clear hJb hY hJM
  refine callsIn_of_wp Tryz.func62 rfl trivial ?_ rfl
  simp only [Tryz.ntmps62, List.size_toArray, List.length_cons, List.length_nil, Nat.reduceAdd, Nat.reduceSub, Array.replicate_succ, Array.replicate_zero, List.push_toArray, List.append_toArray, List.nil_append, List.cons_append]
  gi_wp2
  gi_loopw [3] (fun s3 wr => ∃ (p : List (List UInt8)) (rest : List UInt8), s3 = .string ⟨rest.toArray⟩ ∧ rest.length < 4000 ∧ Hid (p ++ nmL rest = nmL s) ∧ Hid (J p wr)) (fun s3 _ => strLen s3)
  case atStart => exact ⟨[], s, rfl, hlen, rfl, h0⟩
  case round =>
    obtain ⟨p, rest, rfl, hl, HP, HJ0⟩ := hrel
    by_cases hr : rest = []
    · subst hr
      have hfin : (∃ v, Ending.returned (Value.tuple #[]) = .returned v) ∧ (J (nmL s) wr ∨ Jx wr) := ⟨⟨_, rfl⟩, .inl (by have := HP.out; rw [nmL_nil, List.append_nil] at this; rw [← this]; exact HJ0.out)⟩
      gi_wp2
      go_end0
      exact hfin
    · have hie : rest.isEmpty = false := by cases rest with
        | nil => exact absurd rfl hr
        | cons => rfl
      have hcl := cut_less rest hr
      have HC : Hid (nmL rest = (Lib.cut rest [32]).1 :: nmL (Lib.cut rest [32]).2.1) := nmL_cons rest hr
      obtain ⟨hM0, mm, hm⟩ := HM.out _ _ HJ0.out
      have hcut := Tryz.strings_Cut ⟨rest.toArray⟩ ⟨#[32]⟩ mm wr (by simpa [ByteArray.size] using (show rest.length < 4294967281 by omega)) hm
      simp only [List.toList_toArray] at hcut
      obtain ⟨c1, hc1⟩ : ∃ x, (Lib.cut rest [32]).1 = x := ⟨_, rfl⟩
      obtain ⟨c2, hc2⟩ : ∃ x, (Lib.cut rest [32]).2.1 = x := ⟨_, rfl⟩
      obtain ⟨c3, hc3⟩ : ∃ x, (Lib.cut rest [32]).2.2 = x := ⟨_, rfl⟩
      rw [hc1, hc2] at HC
      rw [hc2] at hcl
      rw [hc1, hc2, hc3] at hcut
      clear hc1 hc2 hc3 hm
      gi_wp2
      refine ⟨trivial, (fun h => nomatch h), (callsIn_wide.2 hcut).mono ?_⟩
      rintro e w1 ⟨rfl, nd, hdw⟩
      have hb1 : Below wr.heap.size wr w1 := by rw [hdw]; exact (Below.refl _ _).trans ⟨rfl, rfl, rfl, Nat.le_refl _, fun _ _ => rfl⟩
      clear hcut hdw
      obtain ⟨fn, tmps, assign, body, hy, hRd⟩ := HY.out (n - 1) p c1 w1 ⟨nmL c2, by rw [← HP.out, HC.out]; simp⟩ (HJ.out _ _ _ HJ0.out hb1)
      have HRD : Hid _ := hRd
      clear hRd hb1 hie
      gi_wp2
      refine ⟨(fun h => nomatch h), RoundIn.mono HRD.out ?_⟩
      rintro e w' (⟨rfl, hJ'⟩ | ⟨rfl, hJ'⟩)
      · gi_wp2
        go_roundw
        case rel => exact ⟨p ++ [c1], c2, rfl, by omega, by unfold Hid; rw [← HP.out, HC.out]; simp, hJ'⟩
        case measure => simpa [strLen, ByteArray.size] using hcl
      · gi_wp2
        exact ⟨rfl, _, results_none rfl _ _ _, ⟨_, rfl⟩, .inr hJ'⟩
end Go.Proofs.YtaeobgajhieajaaGreatDoor
