/-
  What is proved here: dom.Each, and what its iterator tells: all values, rising.
-/
import Derived.Test.YtogankopiechcaaZXd
namespace Go.Proofs.Ytogankopiechcaa.Dm
set_option linter.unusedSimpArgs false
set_option linter.unusedVariables false
open Go.RowKit Go.Shelf

attribute [local go_sem] Oper.semAt_some

/-- What a round keeps: all cells but those of block A. -/
def Kp (A : Nat) (W W' : World) : Prop := W.heap.size ≤ W'.heap.size ∧ ∀ b o v, b ≠ A → W.cell? ⟨b, o, none⟩ = some v → W'.cell? ⟨b, o, none⟩ = some v
theorem Kp.refl (A : Nat) (W : World) : Kp A W W := ⟨Nat.le_refl _, fun _ _ _ _ h => h⟩
theorem Kp.trans {A : Nat} {X Y Z : World} (h : Kp A X Y) (k : Kp A Y Z) : Kp A X Z := ⟨Nat.le_trans h.1 k.1, fun b o v hb hc => k.2 b o v hb (h.2 b o v hb hc)⟩
theorem Kp.alloc (A : Nat) (W : World) (o : Obj) : Kp A W (W.alloc o) := ⟨by simp, fun b q v _ hc => Lib.cell?_alloc_some _ hc⟩
theorem Kp.below {A : Nat} {W W' : World} (h : Below W.heap.size W W') : Kp A W W' :=
  ⟨h.size, fun b o v _ hc => (h.cell (p := ⟨b, o, none⟩) (by
    apply Classical.byContradiction; intro hn
    have : W.heap[b]? = none := Array.getElem?_eq_none (by simpa using hn)
    simp [World.cell?, this] at hc)).trans hc⟩
theorem Kp.put (A : Nat) (W : World) (l : Nat) (o o' : Obj) (h : W.heap[l]? = some o) (hc : o.isCells = false) : Kp A W (W.putObj l o') := by
  have hg := grownBy_putObj' W l o'
  refine ⟨hg.size, fun b q v _ hv => ?_⟩
  exact cell_kept hv hg (fun r e => by cases e; exact ⟨_, h, hc⟩)

theorem cell_pair1 (w : World) (u v : Value) (t : TypeId) : (w.alloc (.cells #[u, v] t)).cell? ⟨w.heap.size, 1, none⟩ = some v := by
  have h := World.alloc_heap_new w (.cells #[u, v] t)
  simp only [World.cell?, h]; rfl

end Go.Proofs.Ytogankopiechcaa.Dm

