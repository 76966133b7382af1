/-
  What is proved here: the table of constraints as package cons has it: what its iterator tells.
-/
import Derived.Test.YtaeobgajhieajaaGreatDoorCa
namespace Go.Proofs.YtaeobgajhieajaaGreatDoor
open Go.RowKit Go.Shelf
set_option linter.unusedVariables false
set_option linter.unusedSimpArgs false
/-- The walk stops here. -/
structure Stopped (p : Prop) : Prop where
  out : p
theorem stop_block2 {F : Fence} {n : Nat} {P : Program} {i : Nat} {c : Code} {Q : Exit → Act → World → Prop} {a : Act} {w : World} (h : Stopped ((Code.block i c).wpIn F n P Q a w)) : (Code.block i c).wpIn F n P Q a w := h.out
theorem rows_of {Bg : Array Value} (h : (List.range 48).map (fun k => Bg.extract (k * 3) (k * 3 + 3)) = (List.range 48).map rowA) : ∀ k, k < 48 → Bg.extract (k * 3) (k * 3 + 3) = rowA k := fun k hk => by
  have := congrArg (fun l => l[k]?) h
  simpa [hk] using this

set_option maxRecDepth 100000 in
set_option maxHeartbeats 4000000 in
theorem rows_any (n lr : Nat) (W : World) (J : Nat → World → Prop) (Jx : World → Prop) (hJb : ∀ k w w', J k w → Below w.heap.size w w' → J k w')
    (hY : ∀ m k w, k < 48 → J k w → ∃ fn tmps assign body, (Instr.yield lr #[.agg (rowA k)]).run Tryz.prog w = .ok (.round lr fn tmps assign body) w ∧
      RoundIn Fence.wide m Tryz.prog lr fn tmps assign body w fun e w' => (e = .returned (.bool true) ∧ J (k + 1) w') ∨ (e = .returned (.bool false) ∧ Jx w')) (h0 : J 0 W) :
    CallsIn Fence.wide n Tryz.prog 38 #[.func (.yield lr) #[] #[]] W fun e w' => (∃ v, e = .returned v) ∧ (J 48 w' ∨ Jx w') := by
  refine callsIn_of_wp Tryz.func38 rfl trivial ?_ rfl
  simp only [Tryz.ntmps38, List.size_toArray, List.length_cons, List.length_nil, Nat.reduceAdd, Nat.reduceSub, Array.replicate_succ, Array.replicate_zero, List.push_toArray, List.append_toArray, List.nil_append, List.cons_append]
  have HJ : Hid _ := hJb
  have HY : Hid _ := hY
  clear hJb hY
  gi_upto_region 1 with (with_reducible refine stop_block2 ?_)
  refine Stopped.mk ?_
  exact loop38 n lr _ rfl (rows_of (by kernel_rfl)) J Jx HJ.out HY.out W h0
end Go.Proofs.YtaeobgajhieajaaGreatDoor
