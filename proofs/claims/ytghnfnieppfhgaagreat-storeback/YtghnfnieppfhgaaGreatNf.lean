/-
  What is proved here: how calls that came in are opened, with their kinds.
-/
import Derived.Test.YtghnfnieppfhgaaGreatNe
import Derived.Test.YtghnfnieppfhgaaGreatMt
import Derived.Deep.Slices
import Derived.DataReads
import Derived.ChangeArms
import Derived.SizedLaws
import Derived.WalkKit
import Derived.ProofKit
import Derived.OpenShut
import Derived.Stop.Joined
import Derived.Below
import Derived.Lay
import Derived.Deep.SlicePairs
import Derived.LaidMore
import Derived.ChangeSlices
import Derived.ChangeOld
import Derived.ChangeMaps5
import Derived.Carry
namespace Go.Proofs.YtghnfnieppfhgaaGreat
open Go.RowKit Go.Shelf
set_option linter.unusedVariables false
set_option linter.unusedSimpArgs false
open Go.ChangeShapes Go.WideShapes Go.ChangeAt Go.Deep
set_option maxRecDepth 100000
section
variable {H : Type} {enc : TypeId × Value → H} {W : World}
/-- A slice that came in, element by element. -/
theorem op_ops2 {fuel : Nat} {v : Value} {x : DataW H × List MemPlace} (h : DataW.trod enc Tryz.prog W 0 (fun _ => true) true fuel 23 [v] = some x) (lt0 : ∀ z ∈ x.2, z.block < W.heap.size) :
    ∃ (a : Option Addr) (c : Nat) (S : List (Int × Int × MD)), v = .slice a S.length c ∧ Scr2 W v S ∧ ∀ q ∈ S, Dm.FitsR q.2.2.r := by
  obtain ⟨a, c, S, rfl, hc⟩ := op_slice (α := Int × Int × MD) (R := fun cs q => ∃ ds : List Value, cs = .int .i64 q.1 :: .int .i64 q.2.1 :: ds ∧ Dc (fun _ => False) W ds q.2.2 ∧ Dm.FitsR q.2.2.r) (k := 8) Tryz.underlying23 (by kernel_rfl) (by omega)
    (fun fuel cs y hy hlt => by obtain ⟨q, k, ds, e, h1, h2⟩ := op_op hy hlt; exact ⟨(k, q.1, q.2), ds, e, h1, h2⟩) h lt0
  refine ⟨a, c, S, rfl, ⟨a, c, rfl, fun h0 => ?_⟩, fun d hd => ?_⟩
  · obtain ⟨b, off, rfl, hb, hcell⟩ := hc h0
    refine ⟨b, off, rfl, hb, fun i kd v d hd => ?_⟩
    obtain ⟨cs, ⟨ds, rfl, h1, _⟩, h2⟩ := hcell i (kd, v, d) hd
    match ds, h1.len with
    | [c0, c1, c2, c3, c4, c5], _ => exact ⟨c0, c1, c2, c3, c4, c5, h1, h2 0 (by omega), h2 1 (by omega), h2 2 (by omega), h2 3 (by omega), h2 4 (by omega), h2 5 (by omega), h2 6 (by omega), h2 7 (by omega)⟩
  · obtain ⟨i, hi⟩ := List.mem_iff_getElem?.1 hd
    obtain ⟨b, off, rfl, hb, hcell⟩ := hc (by have := (List.getElem?_eq_some_iff.1 hi).1; omega)
    obtain ⟨cs, ⟨_, _, _, h1⟩, _⟩ := hcell i d hi
    exact h1
end
end Go.Proofs.YtghnfnieppfhgaaGreat
