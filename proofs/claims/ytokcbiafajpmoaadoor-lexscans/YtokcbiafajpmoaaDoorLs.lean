/-
  What is proved here: what the function that catches what was thrown does.
-/
import Derived.Test.YtokcbiafajpmoaaDoorLr
import Derived.Defers
import Derived.Recover
namespace Go.Proofs.YtokcbiafajpmoaaDoor
open Go.RowKit
set_option linter.unusedVariables false
set_option linter.unusedSimpArgs false
theorem st40 {ops : Array Oper} {rest : List Oper} {o : Oper} {a : Act} {w : World} {Q : Exit → Act → World → Prop} {old : Array Value} (hgd : o.guard = none) (x y : Operand) (ho : o.op = .store 40 x y)
    (g : Nat) (x0 x1 : Value) (hx : a.eval x = .pointer (some ⟨g, 0, none⟩)) (hy : a.eval y = .agg #[x0, x1]) (hg : Rw w g 40 old) (ho4 : old.size = 2) (hs : x0.oneCell' = true ∧ x1.oneCell' = true)
    (h : wpList Tryd.prog ops Q rest (a.put o.dst undef) (w.setRow g #[x0, x1])) : wpList Tryd.prog ops Q (o :: rest) a w :=
  wpList_store_row hgd 40 x y ho g _ hx hy 40 _ hg.h Tryd.size40 ho4 (by obtain ⟨h0, h1⟩ := hs; simp [h0, h1]) h

set_option maxRecDepth 100000 in
set_option maxHeartbeats 4000000 in
theorem catch_panicking (g : Nat) (x : Int) (a : Nat) (u v : Value) (older : List PanicEntry) (w : World) (hR : Rw w g 40 #[u, v]) :
    CallsD Tryd.prog 27 #[.pointer (some ⟨g, 0, none⟩)] (.panicking ({ v := .iface 40 (.agg #[.int .i64 x, .int .i64 (a : Int)]), recovered := false } :: older)) w fun e u' w' =>
      e = .returned (.tuple #[]) ∧ u' = .panicking ({ v := .iface 40 (.agg #[.int .i64 x, .int .i64 (a : Int)]), recovered := true } :: older) ∧ w' = w.setRow g #[.int .i64 x, .int .i64 (a : Int)] := by
  refine callsD_of_wpS Tryd.func27 rfl fun c₀ cs hu => ?_
  apply wpS_seq
  apply wpS_region
  simp [wpOpsS, go_sem, recoverD, hu, Tryd.ntmps27, Exit.thenS]
  refine wpS_of_wp ?_
  simp only [Array.replicate_succ, Array.replicate_zero, List.push_toArray, List.append_toArray, List.nil_append, List.cons_append, List.setIfInBounds_toArray, List.set_cons_zero, List.set_cons_succ]
  have hta : ∀ X, (Instr.typeAssert (.iface 40 (.agg #[.int .i64 x, .int .i64 (a : Int)])) 20 40 false).run Tryd.prog X = .ok (.agg #[.int .i64 x, .int .i64 (a : Int)]) X := fun X => by kernel_rfl
  go_wp2_with (with_reducible refine st40 rfl (.tmp 0) (.tmp 6) rfl g _ _ (by with_unfolding_all rfl) (by with_unfolding_all rfl) hR rfl ⟨rfl, rfl⟩ ?_)
  simp [bodyPostS, results, Tryd.results27, go_sem]

theorem catch_idle (p : Addr) (w : World) :
    CallsD Tryd.prog 27 #[.pointer (some p)] .returning w fun e u' w' => e = .returned (.tuple #[]) ∧ u' = .returning ∧ w' = w := by
  refine callsD_of_wpS Tryd.func27 rfl fun c₀ cs hu => ?_
  apply wpS_seq
  apply wpS_region
  simp [wpOpsS, go_sem, recoverD, hu, Tryd.ntmps27, Exit.thenS]
  refine wpS_of_wp ?_
  simp only [Array.replicate_succ, Array.replicate_zero, List.push_toArray, List.append_toArray, List.nil_append, List.cons_append, List.setIfInBounds_toArray, List.set_cons_zero, List.set_cons_succ]
  go_wp2
  cases c₀
  simp_all [bodyPostS, results, Tryd.results27]
end Go.Proofs.YtokcbiafajpmoaaDoor
