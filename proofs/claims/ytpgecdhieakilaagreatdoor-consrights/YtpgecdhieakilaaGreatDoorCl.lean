/-
  What is proved here: all names, as the reference tells them.
-/
import Derived.Test.YtpgecdhieakilaaGreatDoorCjj
import Derived.Lib.OwnBridge
namespace Go.Proofs.YtpgecdhieakilaaGreatDoor
open Go.RowKit Go.Shelf
set_option linter.unusedVariables false
set_option linter.unusedSimpArgs false

def strv (l : List (List UInt8)) : List Value := l.map fun x => Value.string ⟨x.toArray⟩
/-- A slice of texts. -/
def Ss (w : World) (s : Value) (L : List (List UInt8)) : Prop := ∃ a c, s = .slice a L.length c ∧ (0 < L.length → ∃ b, a = some ⟨b, 0, none⟩ ∧ b < w.heap.size ∧ ∀ i x, L[i]? = some x → w.cell? ⟨b, i, none⟩ = some (.string ⟨x.toArray⟩))
theorem Ss.below {w w' : World} {s : Value} {L : List (List UInt8)} (h : Ss w s L) (hb : Below w.heap.size w w') : Ss w' s L := by
  obtain ⟨a, c, e, h⟩ := h
  exact ⟨a, c, e, fun h0 => by obtain ⟨b, e1, e2, e3⟩ := h h0; exact ⟨b, e1, Nat.lt_of_lt_of_le e2 hb.size, fun i x hx => (hb.cell (p := ⟨b, i, none⟩) e2).trans (e3 i x hx)⟩⟩
theorem own_ss {w : World} {B n : Nat} {s : Value} {L : List (List UInt8)} (h : w.ownsRow B 9 1 s n (strv L)) : Ss w s L := by
  have hl : n = L.length := by have := h.1; simp [strv] at this; omega
  subst hl
  rcases h.2 with ⟨e1, e2⟩ | ⟨g, cap, cur, e1, hg, hgb, hn, hm, hs, ht⟩
  · exact ⟨none, 0, by rw [e1, e2], fun h0 => by omega⟩
  · refine ⟨_, cap, e1, fun _ => ⟨g, rfl, (Array.getElem?_eq_some_iff.1 hgb).1, fun i x hx => ?_⟩⟩
    have hi : i < L.length := (List.getElem?_eq_some_iff.1 hx).1
    rw [cell_row hgb]
    have : (strv L)[i]? = some (.string ⟨x.toArray⟩) := by simp [strv, hx]
    rw [← ht, List.getElem?_take, if_pos (by omega), Array.getElem?_toList] at this
    exact this
theorem own_shape {W : World} {B e size n : Nat} {v : Value} {xs : List Value} (h : W.ownsRow B e size v n xs) : ∃ p c, v = .slice p n c := by
  rcases h.2 with ⟨e1, e2⟩ | ⟨g, cap, cur, e1, _⟩
  · exact ⟨none, 0, by rw [e1, e2]⟩
  · exact ⟨_, _, e1⟩
theorem Tryz.info9 : (Tryz.prog.info? 9).map (fun i => (i.zero, i.size, i.bytes)) = some (some (.string ⟨#[]⟩), 1, 16) := by kernel_rfl
theorem wpList_app_s (w : World) {ops : Array Oper} {rest : List Oper} {o : Oper} {a : Act} {Q : Exit → Act → World → Prop} (hgd : o.guard = none) (s x : Operand) (ho : o.op = .call { callee := .builtin .append, args := #[s, x], argTypes := #[22, 22] })
    (B : Nat) (vo : Value) (n : Nat) (L : List (List UInt8)) (hs : a.eval s = vo) (hown : w.ownsRow B 9 1 vo n (strv L)) (g : Nat) (y : List UInt8) (hx : a.eval x = .slice (some ⟨g, 0, none⟩) 1 1) (hc : w.cell? ⟨g, 0, none⟩ = some (.string ⟨y.toArray⟩)) (hB : B ≤ w.heap.size) (hn : n ≤ 1000)
    (h : ∀ v' w', w'.ownsRow B 9 1 v' (n + 1) (strv (L ++ [y])) → Below B w w' → wpList Tryz.prog ops Q rest (a.put o.dst v') w') : wpList Tryz.prog ops Q (o :: rest) a w := by
  obtain ⟨i0, hi0, hz0, hz1, hz2⟩ := info_parts Tryz.info9
  refine wpList_append_own _ hgd s x 22 ho B 9 i0 (.string ⟨#[]⟩) 1 16 Tryz.underlying22 hi0 hz0 hz1 hz2 rfl (by decide) _ _ _ hs hown ⟨g, 0, none⟩ 1 1 [.string ⟨y.toArray⟩] hx rfl (fun j u hj => ?_) (fun u hu => ?_) (by unfold maxLen; omega) (by omega) hB ?_
  · match j, hj with
    | 0, hj => simp at hj; subst hj; simpa [Addr.add] using hc
  · simp at hu; subst hu; rfl
  · intro v' w' g1 g2 _
    refine h v' w' (by unfold strv at *; rw [List.map_append]; exact g1) ((Below.refl _ w).grown g2 hB (fun k e => ?_))
    rcases hown.2 with ⟨e1, _⟩ | ⟨g', cap, cur, e1, hg, hgb, _⟩
    · rw [e1] at e; cases e
    · rw [e1] at e
      injection e with e
      subst e
      exact hg

end Go.Proofs.YtpgecdhieakilaaGreatDoor
