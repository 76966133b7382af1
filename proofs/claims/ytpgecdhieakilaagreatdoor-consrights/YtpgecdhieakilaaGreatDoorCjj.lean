/-
  What is proved here: what the reference finds of a name, its form and its family.
  What is proved here: package cons and the reference have the same names, in the same order, with the same forms and families.
-/
import Derived.Test.YtpgecdhieakilaaGreatDoorCg
import Derived.Test.YtpgecdhieakilaaGreatDoorCej
namespace Go.Proofs.YtpgecdhieakilaaGreatDoor
open Go.RowKit Go.Shelf
set_option linter.unusedVariables false
set_option linter.unusedSimpArgs false

/-- Three values in memory. -/
structure H3 (w : World) (g : Nat) (x y z : Value) : Prop where
  h : w.heap[g]? = some (.cells #[x, y, z] 69 (0, 0))
theorem H3.below {w w' : World} {g : Nat} {x y z : Value} (h : H3 w g x y z) (hb : Below w.heap.size w w') : H3 w' g x y z := ⟨(hb.block _ (Array.getElem?_eq_some_iff.1 h.h).1).trans h.h⟩
theorem H3.cells {w : World} {g : Nat} {x y z : Value} (h : H3 w g x y z) : w.cell? ⟨g, 0, none⟩ = some x ∧ w.cell? ⟨g, 1, none⟩ = some y ∧ w.cell? ⟨g, 2, none⟩ = some z ∧ w.frozen? ⟨g, 0, none⟩ = false ∧ w.frozen? ⟨g, 1, none⟩ = false ∧ w.frozen? ⟨g, 2, none⟩ = false :=
  ⟨(cell_row h.h 0).trans rfl, (cell_row h.h 1).trans rfl, (cell_row h.h 2).trans rfl, by simp [World.frozen?, h.h], by simp [World.frozen?, h.h], by simp [World.frozen?, h.h]⟩
theorem H3.set {w : World} {g : Nat} {x y z u v t : Value} (h : H3 w g x y z) : H3 (((w.setCell ⟨g, 0, none⟩ u).setCell ⟨g, 1, none⟩ v).setCell ⟨g, 2, none⟩ t) g u v t := ⟨by rw [row_set (row_set (row_set h.h 0 u) 1 v) 2 t]; rfl⟩
theorem H3.res {fn : Func} {p : Tmp} (hf : fn.results = #[.cell p 69]) (tmps : Array Value) {w : World} {g : Nat} {x y z : Value} (h : H3 w g x y z) (hp : tmps.getD p undef = .pointer (some ⟨g, 0, none⟩)) : (results fn tmps).run Tryz.prog w = .ok (.agg #[x, y, z]) w :=
  results_cell_row hf tmps w g 69 _ (0, 0) _ hp h.h Tryz.underlying69 rfl (by kernel_rfl)
def rhit (nm : List UInt8) (k : Nat) : Bool := (rtK k).1 == nm
def rfind (nm : List UInt8) : List UInt8 × List UInt8 × List UInt8 := match (List.range 105).find? (rhit nm) with
  | some k => rtK k
  | none => ([], [], [])
theorem rfind_none {nm : List UInt8} (h : ∀ k, k < 105 → rhit nm k = false) : rfind nm = ([], [], []) := by
  have : (List.range 105).find? (rhit nm) = none := by
    rw [List.find?_eq_none]
    intro k hk
    rw [h k (List.mem_range.1 hk)]; simp
  unfold rfind; rw [this]
theorem rfind_some {nm : List UInt8} {k : Nat} (hk : k < 105) (h1 : rhit nm k = true) (h2 : ∀ j, j < k → rhit nm j = false) : rfind nm = rtK k := by
  have : (List.range 105).find? (rhit nm) = some k := by
    rw [List.find?_range_eq_some]
    exact ⟨h1, List.mem_range.2 hk, fun j hj => by rw [h2 j hj]; rfl⟩
  unfold rfind; rw [this]

set_option maxRecDepth 100000 in
set_option maxHeartbeats 4000000 in
theorem refind_any (nm : List UInt8) (W : World) :
    Calls Tryz.prog 41 #[.string ⟨nm.toArray⟩] W fun e w' => e = .returned (.agg #[.string ⟨(rfind nm).1.toArray⟩, .string ⟨(rfind nm).2.1.toArray⟩, .string ⟨(rfind nm).2.2.toArray⟩]) ∧ Below W.heap.size W w' := by
  obtain ⟨w0, hW0⟩ : ∃ X, W.alloc (Obj.cells #[.string ⟨#[]⟩, .string ⟨#[]⟩, .string ⟨#[]⟩] 69) = X := ⟨_, rfl⟩
  have hb0 : Below W.heap.size W w0 := by rw [← hW0]; exact (Below.refl _ W).alloc (Nat.le_refl _) _
  have HR0 : Hid (H3 w0 W.heap.size (.string ⟨#[]⟩) (.string ⟨#[]⟩) (.string ⟨#[]⟩)) := by rw [← hW0]; exact ⟨World.alloc_heap_new _ _⟩
  have HW0 : Hid _ := hW0
  clear hW0
  go_enter Tryz.func41, Tryz.ntmps41
  go_upto_region 1 with (fail)
  rw [HW0.out]
  clear HW0
  go_wp2_with fail
  refine (refrows_any w0).mono ?_
  rintro e w1 ⟨s1, rfl, hrt, hb⟩
  have hb1 : Below W.heap.size W w1 := hb0.trans (hb.mono hb0.size)
  have HR1 : Hid (H3 w1 W.heap.size (.string ⟨#[]⟩) (.string ⟨#[]⟩) (.string ⟨#[]⟩)) := HR0.out.below hb
  obtain ⟨g, rfl, hg, hc⟩ := hrt
  have HC : Hid _ := hc
  have hne : g ≠ W.heap.size := fun e => by
    have h1 := (hc 0 (by omega)).1
    have h2 := HR1.out.cells.1
    rw [e] at h1
    rw [show (0 : Nat) * 3 = 0 from rfl, h2] at h1
    injection h1 with h1
    injection h1 with h1
    injection h1 with h1
    exact absurd h1 (by decide)
  clear hc hb HR0
  go_wp2
  go_loopw [4] (fun i wr => ∃ k : Nat, k ≤ 105 ∧ i = .int .i64 (k : Int) ∧ w1 = wr ∧ Hid (∀ j, j < k → rhit nm j = false)) (fun i _ => 105 - (intOf i).toNat)
  case atStart => exact ⟨0, Nat.zero_le _, rfl, rfl, fun j hj => absurd hj (Nat.not_lt_zero _)⟩
  case round =>
    obtain ⟨k, hk, rfl, hwr, HP⟩ := hrel
    subst hwr
    by_cases hlt : k < 105
    · have hlt' : (k : Int) < 105 := by omega
      obtain ⟨c0, c1, c2⟩ := HC.out k hlt
      obtain ⟨x0, hx0⟩ : ∃ x, (rtK k).1 = x := ⟨_, rfl⟩
      obtain ⟨x1, hx1⟩ : ∃ x, (rtK k).2.1 = x := ⟨_, rfl⟩
      obtain ⟨x2, hx2⟩ : ∃ x, (rtK k).2.2 = x := ⟨_, rfl⟩
      rw [hx0] at c0
      rw [hx1] at c1
      rw [hx2] at c2
      by_cases hx : x0 = nm
      · have HF : Hid (rfind nm = (x0, x1, x2)) := by unfold Hid; rw [rfind_some hlt (by unfold rhit; rw [hx0]; simpa using hx) HP.out, ← hx0, ← hx1, ← hx2]
        obtain ⟨f0, f1, f2, f3, f4, f5⟩ := HR1.out.cells
        have HRS : Hid _ := HR1.out.set (u := .string ⟨x0.toArray⟩) (v := .string ⟨x1.toArray⟩) (t := .string ⟨x2.toArray⟩)
        have HBW : Hid _ := ((hb1.setCell (p := ⟨W.heap.size, 0, none⟩) (Nat.le_refl _) (.string ⟨x0.toArray⟩)).setCell (p := ⟨W.heap.size, 1, none⟩) (Nat.le_refl _) (.string ⟨x1.toArray⟩)).setCell (p := ⟨W.heap.size, 2, none⟩) (Nat.le_refl _) (.string ⟨x2.toArray⟩)
        clear hx0 hx1 hx2
        subst hx
        go_wp2
        refine ⟨rfl, _, H3.res (p := 2) rfl _ HRS.out rfl, by rw [HF.out], HBW.out⟩
      · have hxe : (x0 == nm) = false := by simpa using hx
        have HN : Hid (rhit nm k = false) := by unfold Hid rhit; rw [hx0]; exact hxe
        clear hx0 hx1 hx2
        go_wp2
        go_roundw
        case rel =>
          refine ⟨k + 1, by omega, by go_num, by trivial, fun j hj => ?_⟩
          by_cases h : j = k
          · rw [h]; exact HN.out
          · exact HP.out j (by omega)
        case measure => simp [intOf]; omega
    · have hlt' : ¬ (k : Int) < 105 := by omega
      have HF : Hid (rfind nm = ([], [], [])) := rfind_none fun j hj => HP.out j (by omega)
      obtain ⟨f0, f1, f2, f3, f4, f5⟩ := HR1.out.cells
      have HRS : Hid _ := HR1.out.set (u := .string ⟨#[]⟩) (v := .string ⟨#[]⟩) (t := .string ⟨#[]⟩)
      have HBW : Hid _ := ((hb1.setCell (p := ⟨W.heap.size, 0, none⟩) (Nat.le_refl _) (.string ⟨#[]⟩)).setCell (p := ⟨W.heap.size, 1, none⟩) (Nat.le_refl _) (.string ⟨#[]⟩)).setCell (p := ⟨W.heap.size, 2, none⟩) (Nat.le_refl _) (.string ⟨#[]⟩)
      go_wp2
      refine ⟨rfl, _, H3.res (p := 2) rfl _ HRS.out rfl, by rw [HF.out], HBW.out⟩

set_option maxRecDepth 100000 in
set_option maxHeartbeats 4000000 in
theorem refform_any (nm : List UInt8) (W : World) :
    Calls Tryz.prog 11 #[.string ⟨nm.toArray⟩] W fun e w' => e = .returned (.string ⟨(rfind nm).2.1.toArray⟩) ∧ Below W.heap.size W w' := by
  have k41 := refind_any nm W
  generalize (rfind nm).1 = x at k41 ⊢
  generalize (rfind nm).2.1 = y at k41 ⊢
  generalize (rfind nm).2.2 = z at k41 ⊢
  go_enter Tryz.func11, Tryz.ntmps11
  go_wp2_with fail
  refine k41.mono ?_
  rintro e w1 ⟨rfl, hb⟩
  have hfd : ∀ w : World, (Instr.field 69 (.agg #[.string ⟨x.toArray⟩, .string ⟨y.toArray⟩, .string ⟨z.toArray⟩]) 1).run Tryz.prog w = .ok (.string ⟨y.toArray⟩) w := fun _ => by first | rfl | with_unfolding_all rfl
  go_wp2
  go_ret
  exact ⟨rfl, hb⟩

end Go.Proofs.YtpgecdhieakilaaGreatDoor

namespace Go.Proofs.YtpgecdhieakilaaGreatDoor
open Go.RowKit Go.Shelf
set_option linter.unusedVariables false
set_option linter.unusedSimpArgs false

def rowF (k : Nat) : List (List UInt8 × List UInt8 × List UInt8) := (nmL (rowK k).2.2).map fun n => (n, (rowK k).2.1, (rowK k).1)
theorem tbl_same : (List.range 48).flatMap rowF = (List.range 105).map rtK := by kernel_rfl
theorem row_find (nm : List UInt8) (k : Nat) : (rowF k).find? (fun r => r.1 == nm) = if hit nm k = true then some (nm, (rowK k).2.1, (rowK k).1) else none := by
  unfold rowF hit
  generalize nmL (rowK k).2.2 = l
  induction l with
  | nil => rfl
  | cons x l ih =>
    rw [List.map_cons, List.find?_cons, List.contains_cons]
    by_cases hx : x = nm
    · subst hx; simp
    · have h1 : (x == nm) = false := by simpa using hx
      have h2 : (nm == x) = false := by simpa using fun e => hx e.symm
      simp only [h1, h2, Bool.false_or]
      exact ih
theorem flat_find (nm : List UInt8) : ∀ ks : List Nat, (ks.flatMap rowF).find? (fun r => r.1 == nm) = (ks.find? (hit nm)).map fun k => (nm, (rowK k).2.1, (rowK k).1)
  | [] => rfl
  | k :: ks => by
    rw [List.flatMap_cons, List.find?_append, row_find, List.find?_cons, flat_find nm ks]
    cases hit nm k <;> simp
theorem find_same (nm : List UInt8) : (findT nm).1 = (rfind nm).2.2 ∧ (findT nm).2 = (rfind nm).2.1 := by
  have h := flat_find nm (List.range 48)
  rw [tbl_same, List.find?_map] at h
  have e : ((fun r : List UInt8 × List UInt8 × List UInt8 => r.1 == nm) ∘ rtK) = rhit nm := rfl
  rw [e] at h
  unfold findT rfind
  cases h1 : (List.range 105).find? (rhit nm) with
  | none =>
    rw [h1] at h
    cases h2 : (List.range 48).find? (hit nm) with
    | none => exact ⟨rfl, rfl⟩
    | some k => rw [h2] at h; cases h
  | some j =>
    rw [h1] at h
    cases h2 : (List.range 48).find? (hit nm) with
    | none => rw [h2] at h; cases h
    | some k =>
      rw [h2] at h
      simp only [Option.map_some, Option.some.injEq] at h
      dsimp only
      rw [h]
      exact ⟨rfl, rfl⟩
end Go.Proofs.YtpgecdhieakilaaGreatDoor
