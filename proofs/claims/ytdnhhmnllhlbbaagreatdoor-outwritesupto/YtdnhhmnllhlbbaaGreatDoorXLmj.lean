/-
  What is proved here: a block that holds a struct: read, kept, written.
  What is proved here: the tokens of any text, as package lex reads them.
-/
import Derived.Test.YtdnhhmnllhlbbaaGreatDoorXLbj
import Derived.RangeFuncRecord
import Derived.Laws.Tables
import Derived.Laws.Rows
import Derived.WalkSmall
namespace Go.Proofs.YtdnhhmnllhlbbaaGreatDoor
open Go.RowKit
set_option linter.unusedVariables false
set_option linter.unusedSimpArgs false
/-- Block g holds these cells. -/
structure Rw (w : World) (g : Nat) (t : TypeId) (cs : Array Value) : Prop where
  h : w.heap[g]? = some (.cells cs t (0, 0))
theorem Rw.lt {w : World} {g : Nat} {t : TypeId} {cs : Array Value} (h : Rw w g t cs) : g < w.heap.size := (Array.getElem?_eq_some_iff.1 h.h).1
theorem Rw.below {w w' : World} {g : Nat} {t : TypeId} {cs : Array Value} (h : Rw w g t cs) (hb : Below w.heap.size w w') : Rw w' g t cs := ⟨(hb.block g h.lt).trans h.h⟩
theorem Rw.cell {w : World} {g : Nat} {t : TypeId} {cs : Array Value} (h : Rw w g t cs) (i : Nat) (v : Value) (hv : cs[i]? = some v) : w.cell? ⟨g, i, none⟩ = some v := by
  simp [World.cell?, h.h, hv]
end Go.Proofs.YtdnhhmnllhlbbaaGreatDoor


namespace Go.Proofs.YtdnhhmnllhlbbaaGreatDoor
open Go.RowKit
set_option linter.unusedVariables false
set_option linter.unusedSimpArgs false
theorem own_below {w w' : World} {B : Nat} {e : TypeId} {s : Nat} {v : Value} {n : Nat} {xs : List Value} (h : w.ownsRow B e s v n xs) (hb : Below w.heap.size w w') : w'.ownsRow B e s v n xs :=
  ⟨h.1, by
    rcases h.2 with h2 | ⟨g, cap, cur, e1, hB, hg, r⟩
    · exact .inl h2
    · exact .inr ⟨g, cap, cur, e1, hB, (hb.block g (Array.getElem?_eq_some_iff.1 hg).1).trans hg, r⟩⟩
end Go.Proofs.YtdnhhmnllhlbbaaGreatDoor

