/-
  What is proved here: arguments in memory; Vars.
-/
import Derived.Deep.Cut
import Derived.WalkKit
import Derived.OwnWalkIn
import Derived.TacticsInMore
import Derived.RegionIn
import Derived.LoopNIn
import Derived.LoopIn
import Derived.Sort.LoopGhostIn
import Derived.Sort.CutIn
import Derived.Sort.QuietIn
import Derived.Shelf.RegionOpen
import Derived.Shelf.AbstractIn
import Derived.Test.YtdnhhmnllhlbbaaGreatDoorCClj
import Derived.Lib.OwnBridge
namespace Go.Proofs.YtdnhhmnllhlbbaaGreatDoor
open Go.RowKit Go.Shelf
set_option linter.unusedVariables false
set_option linter.unusedSimpArgs false
/-- An argument. -/
structure Ag where
  arr : Bool
  l : List Tm
/-- Arguments in memory. -/
def Sa (B : Nat) (W : World) (s : Value) (ags : List Ag) : Prop := ∃ a c, s = .slice a ags.length c ∧ (0 < ags.length → ∃ b off svl, a = some ⟨b, off, none⟩ ∧ B ≤ b ∧ b < W.heap.size ∧ (svl : List Value).length = ags.length ∧ ∀ (i : Nat) (g : Ag) (sv : Value), ags[i]? = some g → svl[i]? = some sv → St B W sv g.l ∧ W.cell? ⟨b, off + i * 2, none⟩ = some (.bool g.arr) ∧ W.cell? ⟨b, off + i * 2 + 1, none⟩ = some sv)
theorem Sa.at {B : Nat} {W : World} {a : Option Addr} {n c : Nat} {ags : List Ag} (h : Sa B W (.slice a n c) ags) {i : Nat} {g : Ag} (hg : ags[i]? = some g) : ∃ b off a' c', a = some ⟨b, off, none⟩ ∧ b < W.heap.size ∧ St B W (.slice a' g.l.length c') g.l ∧ W.cell? ⟨b, off + i * 2, none⟩ = some (.bool g.arr) ∧ W.cell? ⟨b, off + i * 2 + 1, none⟩ = some (.slice a' g.l.length c') := by
  obtain ⟨a0, c0, e, h⟩ := h
  injection e with ea en ec
  subst ea
  have hi : i < ags.length := (List.getElem?_eq_some_iff.1 hg).1
  obtain ⟨b, off, svl, e1, e0, e2, e3, e4⟩ := h (by omega)
  obtain ⟨h1, h2, h3⟩ := e4 i g (svl[i]'(by omega)) hg (List.getElem?_eq_getElem (by omega))
  obtain ⟨a', c', e', h'⟩ := h1
  rw [e'] at h3
  exact ⟨b, off, a', c', e1, e2, ⟨a', c', rfl, h'⟩, h2, h3⟩
theorem St.at {B : Nat} {W : World} {a : Option Addr} {n c : Nat} {l : List Tm} (h : St B W (.slice a n c) l) {i : Nat} {t : Tm} (ht : l[i]? = some t) : ∃ b off a' c', a = some ⟨b, off, none⟩ ∧ b < W.heap.size ∧ Si B W (.slice a' t.s.length c') t.s ∧ W.cell? ⟨b, off + i * 4, none⟩ = some (.int .i64 t.v) ∧ W.cell? ⟨b, off + i * 4 + 1, none⟩ = some (.bool t.set) ∧ W.cell? ⟨b, off + i * 4 + 2, none⟩ = some (.int .i64 t.n) ∧ W.cell? ⟨b, off + i * 4 + 3, none⟩ = some (.slice a' t.s.length c') := by
  obtain ⟨a0, c0, e, h⟩ := h
  injection e with ea en ec
  subst ea
  have hi : i < l.length := (List.getElem?_eq_some_iff.1 ht).1
  obtain ⟨b, off, svl, e1, e0, e2, e3, e4⟩ := h (by omega)
  obtain ⟨h1, h2⟩ := e4 i t (svl[i]'(by omega)) ht (List.getElem?_eq_getElem (by omega))
  obtain ⟨a', c', e', h'⟩ := h1
  rw [e'] at h2
  exact ⟨b, off, a', c', e1, e2, ⟨a', c', rfl, h'⟩, h2 0 _ rfl, h2 1 _ rfl, h2 2 _ rfl, h2 3 _ rfl⟩
end Go.Proofs.YtdnhhmnllhlbbaaGreatDoor

