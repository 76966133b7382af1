/-
  What is proved here: of what is chosen both sides have values.
-/
import Derived.Test.YthkliicmoandmaaGreatDoorDhj
import Derived.Test.YthkliicmoandmaaGreatDoorCij
import Derived.Test.YthkliicmoandmaaGreatDoorBk
import Derived.OwnWalk
import Derived.Lib.AppendZerosOnto
import Derived.Lib.OwnBridge
import Derived.Test.YthkliicmoandmaaGreatDoorYTcj
import Derived.Test.YthkliicmoandmaaGreatDoorYNbj
import Derived.Test.YthkliicmoandmaaGreatDoorYSgj
import Derived.Laws.ResultCell
namespace Go.Proofs.YthkliicmoandmaaGreatDoor
open Go.RowKit Go.Shelf
set_option linter.unusedVariables false
set_option linter.unusedSimpArgs false

theorem num_facts {d : MD} (h : sevB d = true) (hs : d.set = false) : Dm.Right d.r ∧ 0 < d.r.length ∧ 2 ≤ Dm.sizeR d.r ∧ loM d ∈ Dm.vals d.r ∧ hiM d ∈ Dm.vals d.r ∧ loM d < hiM d ∧ ∀ x ∈ Dm.vals d.r, -1000000 ≤ x ∧ x ≤ 1000000 := by
  obtain ⟨hl, hr⟩ := sev_num h hs
  obtain ⟨ho, hi⟩ := Dm.right_ord hr
  have hz := sev_size d
  rw [h] at hz
  simp only [Bool.true_eq, Bool.and_eq_true, decide_eq_true_eq] at hz
  have hsz : 1 < Dm.sizeR d.r := by have := hz.2; unfold sizA at this; rw [if_neg (by rw [hs]; decide), Dm.tk_yes hr] at this; exact this
  have hl1 : d.r.length - 1 < d.r.length := by omega
  have m1 : loM d ∈ Dm.vals d.r := (Dm.mem_vals' _ _).2 ⟨d.r[0], List.getElem_mem hl, by unfold loM Dm.lo; rw [List.getElem?_eq_getElem hl]; exact Int.le_refl _, by have := ho.1 _ (List.getElem_mem hl); unfold loM Dm.lo; rw [List.getElem?_eq_getElem hl]; exact this⟩
  have m2 : hiM d ∈ Dm.vals d.r := (Dm.mem_vals' _ _).2 ⟨d.r[d.r.length - 1], List.getElem_mem hl1, by have := ho.1 _ (List.getElem_mem hl1); unfold hiM Dm.hi; rw [List.getElem?_eq_getElem hl1]; exact this, by unfold hiM Dm.hi; rw [List.getElem?_eq_getElem hl1]; exact Int.le_refl _⟩
  have hb : ∀ x ∈ Dm.vals d.r, -1000000 ≤ x ∧ x ≤ 1000000 := fun x hx => by
    obtain ⟨r, q1, q2⟩ := (Dm.mem_vals' _ _).1 hx
    have := hi r q1
    omega
  refine ⟨hr, hl, by omega, m1, m2, ?_, hb⟩
  rcases Int.lt_or_le (loM d) (hiM d) with q | q
  · exact q
  · exfalso
    have hall : ∀ x ∈ Dm.vals d.r, loM d ≤ x ∧ x ≤ hiM d := fun x hx => by
      obtain ⟨r, q1, q2⟩ := (Dm.mem_vals' _ _).1 hx
      obtain ⟨i, hi', rfl⟩ := List.mem_iff_getElem.1 q1
      have c1 : loM d ≤ d.r[i].1 := by
        unfold loM Dm.lo
        rw [List.getElem?_eq_getElem hl]
        show d.r[0].1 ≤ _
        rcases Nat.eq_zero_or_pos i with e | e
        · subst e; exact Int.le_refl _
        · have := (List.pairwise_iff_getElem.1 ho.2) 0 i hl hi' e
          have := ho.1 _ (List.getElem_mem hl)
          omega
      have c2 : d.r[i].2 ≤ hiM d := by
        unfold hiM Dm.hi
        rw [List.getElem?_eq_getElem hl1]
        show _ ≤ d.r[d.r.length - 1].2
        rcases Nat.lt_or_ge i (d.r.length - 1) with e | e
        · have := (List.pairwise_iff_getElem.1 ho.2) i (d.r.length - 1) hi' hl1 e
          have := ho.1 _ (List.getElem_mem hl1)
          omega
        · obtain rfl : i = d.r.length - 1 := by omega
          exact Int.le_refl _
      omega
    have hpw := vals_pw ho
    rw [Dm.sizeR_vals ho.1] at hsz
    have hlen : 1 < (Dm.vals d.r).length := by omega
    have p := (List.pairwise_iff_getElem.1 hpw) 0 1 (by omega) hlen (by omega)
    have q1 := hall _ (List.getElem_mem (show 0 < (Dm.vals d.r).length by omega))
    have q2 := hall _ (List.getElem_mem hlen)
    omega
end Go.Proofs.YthkliicmoandmaaGreatDoor
