/-
  What is proved here: dom.Each, and what its iterator tells: all values, rising.
-/
import Derived.Test.YtfcaemfledlnnaaDoorZXc
import Derived.Lib.SliceRun
import Derived.Lib.Walk
namespace Go.Proofs.YtfcaemfledlnnaaDoor.Dm
set_option linter.unusedSimpArgs false
set_option linter.unusedVariables false
open Go.RowKit Go.Shelf

attribute [local go_sem] Oper.semAt_some

/-- What a round keeps: all cells but those of block A. -/
def Kp (A : Nat) (W W' : World) : Prop := W.heap.size ≤ W'.heap.size ∧ ∀ b o v, b ≠ A → W.cell? ⟨b, o, none⟩ = some v → W'.cell? ⟨b, o, none⟩ = some v
theorem Kp.refl (A : Nat) (W : World) : Kp A W W := ⟨Nat.le_refl _, fun _ _ _ _ h => h⟩
theorem Kp.trans {A : Nat} {X Y Z : World} (h : Kp A X Y) (k : Kp A Y Z) : Kp A X Z := ⟨Nat.le_trans h.1 k.1, fun b o v hb hc => k.2 b o v hb (h.2 b o v hb hc)⟩
theorem Kp.alloc (A : Nat) (W : World) (o : Obj) : Kp A W (W.alloc o) := ⟨by simp, fun b q v _ hc => Lib.cell?_alloc_some _ hc⟩
end Go.Proofs.YtfcaemfledlnnaaDoor.Dm


