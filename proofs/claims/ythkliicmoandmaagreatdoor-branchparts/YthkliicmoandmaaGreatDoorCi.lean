/-
  What is proved here: domains held against each other, and lent.
-/
import Derived.Test.YthkliicmoandmaaGreatDoorCc
import Derived.Test.YthkliicmoandmaaGreatDoorCf
import Derived.Test.YthkliicmoandmaaGreatDoorCe
import Derived.Test.YthkliicmoandmaaGreatDoorSi
import Derived.Lib.LaidTab
import Derived.Lib.ItoaLen
import Derived.Deep.RegionHeld3
import Derived.Test.YthkliicmoandmaaGreatDoorYTaj
namespace Go.Proofs.YthkliicmoandmaaGreatDoor
open Go.RowKit Go.Shelf
set_option linter.unusedVariables false
set_option linter.unusedSimpArgs false

def rgs (n : Nat) (fr : List Int) : List Dm.Rg := (List.range n).map fun i => (St.nth fr (i * 2), St.nth fr (i * 2 + 1))
theorem rgs_len (n : Nat) (fr : List Int) : (rgs n fr).length = n := by simp [rgs]
theorem rgs_lo (n : Nat) (fr : List Int) (i : Nat) (h : i < n) : Dm.lo (rgs n fr) i = St.nth fr (i * 2) := by
  unfold Dm.lo rgs
  rw [List.getElem?_map, List.getElem?_range h]; rfl
theorem rgs_hi (n : Nat) (fr : List Int) (i : Nat) (h : i < n) : Dm.hi (rgs n fr) i = St.nth fr (i * 2 + 1) := by
  unfold Dm.hi rgs
  rw [List.getElem?_map, List.getElem?_range h]; rfl
/-- The sizes of a domain. -/
def SzD (d : MD) : Prop := d.lo.length * 8 ≤ 140737488351232 ∧ d.up.length * 8 ≤ 140737488351232 ∧ d.r.length * 16 ≤ 140737488351232
theorem si_nm {w : World} {s : Value} {l : List Int} (h : St.Si w s l) : Nm (fun _ => False) w s l := by
  obtain ⟨a, c, e, h⟩ := h
  refine ⟨a, c, e, fun h0 => ?_⟩
  obtain ⟨b, off, e1, e2, e4⟩ := h h0
  refine ⟨b, off, e1, e2, fun q => q, fun i x hx => ?_⟩
  have hi := (List.getElem?_eq_some_iff.1 hx).1
  rw [e4 i hi]
  unfold St.nth
  rw [List.getD_eq_getElem?_getD, hx]; rfl
def mdS (s : St.SD) (fr : List Int) : MD := ⟨s.set, rgs s.rn fr, s.lo, s.up, s.least, s.most⟩
theorem dr_dc {w : World} {v : Value} {s : St.SD} {fr : List Int} (h : St.Dr w v s fr) : ∃ c : List Value, v = .agg c.toArray ∧ Dc (fun _ => False) w c (mdS s fr) ∧ SzD (mdS s fr) := by
  obtain ⟨ra, rc, slo, sup, rfl, h1, h2, h3, h4, h5, h6⟩ := h
  obtain ⟨a1, c1, rfl, _⟩ := id h1
  obtain ⟨a2, c2, rfl, _⟩ := id h2
  have hl : (mdS s fr).r.length = s.rn := rgs_len _ _
  refine ⟨[_, _, _, _, _, _], rfl, ?_, ⟨h4, h5, by rw [hl]; exact h6⟩⟩
  refine ⟨ra, rc, a1, c1, a2, c2, by rw [hl]; rfl, ?_, si_nm h1, si_nm h2⟩
  rw [hl]
  obtain ⟨a, n, cc, e, _, hc⟩ := h3
  injection e with e1 e2 e3
  subst e1 e2 e3
  refine ⟨_, _, by rw [hl], fun h0 => ?_⟩
  rw [hl] at h0
  obtain ⟨b, off, q1, q2, q4⟩ := hc h0
  refine ⟨b, off, q1, q2, fun q => q, fun i hi => ?_⟩
  rw [hl] at hi
  have e1 : Dm.lo (mdS s fr).r i = St.nth fr (i * 2) := rgs_lo _ _ _ hi
  have e2 : Dm.hi (mdS s fr).r i = St.nth fr (i * 2 + 1) := rgs_hi _ _ _ hi
  rw [e1, e2]
  exact ⟨q4 _ (by omega), by have := q4 (i * 2 + 1) (by omega); rwa [← Nat.add_assoc] at this⟩
end Go.Proofs.YthkliicmoandmaaGreatDoor
