/-
  What is proved here: joined of the reference hands back ranges that rise and do not touch as they are.
-/
import Derived.Test.YtogankopiechcaaZVc
import Derived.Deep.AppendLies
import Derived.Test.YtogankopiechcaaZYm
import Derived.Deep.Cut
namespace Go.Proofs.Ytogankopiechcaa.Dm
set_option linter.unusedSimpArgs false
set_option linter.unusedVariables false
open Go.RowKit Go.Shelf
set_option linter.unusedVariables false

theorem run_app_nil (w : World) (ty : TypeId) (base : Option Addr) (n c : Nat) (hle : n ≤ c) : (Builtin.append_ #[22, 22] ty #[.slice base n c, .slice none 0 0]).run Try.prog w = .ok (.slice base n c) w := by
  obtain ⟨i0, hi0, hz0, hz1, hz2⟩ := info_parts Try.info65
  have hf : (Builtin.firstCells i0.size 0 (.slice none 0 0)).run Try.prog w = .ok #[] w := by simp [Builtin.firstCells]
  cases base <;> simp [Builtin.append_, run_underlying Try.underlying22, sizeOf, typeInfo, hi0, Builtin.lenOf, hle, hf, storeCells]
theorem wp_app_nil (w : World) {o : Oper} {a : Act} {K : Act → World → Prop} {Q : Exit → Act → World → Prop} (s x : Operand) (ho : o.op = .call { callee := .builtin .append, args := #[s, x], argTypes := #[22, 22] })
    (base : Option Addr) (n c : Nat) (hle : n ≤ c) (hs : a.eval s = .slice base n c) (hx : a.eval x = .slice none 0 0) (h : K (a.put o.dst (.slice base n c)) w) : o.wp Try.prog a w K Q := by
  have hr := run_app_nil w o.type base n c hle
  unfold Oper.wp execOp
  simp only [ho, resolve, invoke, builtin, Sem.run_bind, Sem.run_pure, Result.andThen_ok, List.map_toArray, List.map_cons, List.map_nil, hs, hx, hr]
  exact h
theorem wpList_app_nil (w : World) {ops : Array Oper} {rest : List Oper} {o : Oper} {a : Act} {Q : Exit → Act → World → Prop} (hgd : o.guard = none) (s x : Operand) (ho : o.op = .call { callee := .builtin .append, args := #[s, x], argTypes := #[22, 22] })
    (base : Option Addr) (n c : Nat) (hle : n ≤ c) (hs : a.eval s = .slice base n c) (hx : a.eval x = .slice none 0 0) (h : wpList Try.prog ops Q rest (a.put o.dst (.slice base n c)) w) : wpList Try.prog ops Q (o :: rest) a w :=
  wpList_plain hgd fun _ hK => wp_app_nil w s x ho base n c hle hs hx (hK _ _ h)
theorem step_app_nil (w : World) {ops : Array Oper} {o : Oper} {a : Act} {K : Act → World → Prop} {Q : Exit → Act → World → Prop} {E : Prop} (hgd : o.guard = none) (s x : Operand) (ho : o.op = .call { callee := .builtin .append, args := #[s, x], argTypes := #[22, 22] })
    (base : Option Addr) (n c : Nat) (hle : n ≤ c) (hs : a.eval s = .slice base n c) (hx : a.eval x = .slice none 0 0) (h : K (a.put o.dst (.slice base n c)) w) : if Region.wanted o (yielded ops a.tmps) = true then Oper.wp Try.prog o a w K Q else E := by
  have hw : Region.wanted o (yielded ops a.tmps) = true := by simp [Region.wanted, hgd]
  rw [if_pos hw]
  exact wp_app_nil w s x ho base n c hle hs hx h

theorem flat_one {l : List Rg} : ∀ u ∈ flat l, u.oneCell' = true := by
  intro u hu
  unfold flat at hu
  rw [List.mem_flatMap] at hu
  obtain ⟨r, _, hu⟩ := hu
  simp at hu
  rcases hu with rfl | rfl <;> rfl
theorem take_two (l : List Rg) (k : Nat) (hk : k < l.length) : l.take (k + 1) = l.take k ++ [(lo l k, hi l k)] := by
  rw [List.take_add_one, List.getElem?_eq_getElem hk, lo_get l k hk, hi_get l k hk]; rfl
theorem ord_step {l : List Rg} (h : Ord l) (k : Nat) (hk : k < l.length) (h0 : 0 < k) : hi l (k - 1) + 1 < lo l k ∧ lo l (k - 1) ≤ hi l (k - 1) := by
  have h1 := (List.pairwise_iff_getElem.1 h.2) (k - 1) k (by omega) hk (by omega)
  have h2 := h.1 l[k - 1] (List.getElem_mem _)
  rw [lo_get l k hk, hi_get l (k - 1) (by omega), lo_get l (k - 1) (by omega)]
  exact ⟨h1, h2⟩
theorem flat_last (l : List Rg) (k : Nat) (hk : k < l.length) (h0 : 0 < k) : (flat (l.take k))[(k - 1) * 2]? = some (.int .i64 (lo l (k - 1))) ∧ (flat (l.take k))[(k - 1) * 2 + 1]? = some (.int .i64 (hi l (k - 1))) := by
  have h1 := flat_even (l.take k) (k - 1) (by rw [List.length_take]; omega)
  have e1 : lo (l.take k) (k - 1) = lo l (k - 1) := by unfold lo; rw [List.getElem?_take_of_lt (by omega)]
  have e2 : hi (l.take k) (k - 1) = hi l (k - 1) := by unfold hi; rw [List.getElem?_take_of_lt (by omega)]
  rw [e1, e2] at h1
  exact h1

end Go.Proofs.Ytogankopiechcaa.Dm

