/-
  What is proved here: how a domain of sets that came in is opened.
-/
import Derived.Test.YthpbgplbgnefcaaGreatDoorNb
import Derived.Test.YthpbgplbgnefcaaGreatDoorPr
namespace Go.Proofs.YthpbgplbgnefcaaGreatDoor
open Go.ChangeShapes Go.WideShapes Go.ChangeAt Go.RowKit Go.Deep
set_option linter.unusedVariables false
set_option linter.unusedSimpArgs false

theorem array6 {α : Type} {cs : Array α} (h : cs.size = 6) : ∃ c0 c1 c2 c3 c4 c5, cs = #[c0, c1, c2, c3, c4, c5] := by
  obtain ⟨l⟩ := cs
  match l, h with
  | [c0, c1, c2, c3, c4, c5], _ => exact ⟨c0, c1, c2, c3, c4, c5, rfl⟩
theorem trod_struct6 {H : Type} {enc : TypeId × Value → H} {P : Program} {w : World} {base : Nat} {spare : Nat → Bool} {held : Bool} {t : TypeId} {f0 f1 f2 f3 f4 f5 : Field} {fuel : Nat} {cs : List Value} {x : DataW H × List MemPlace} (ht : P.underlying t = some (.struct #[f0, f1, f2, f3, f4, f5])) (h : DataW.trod enc P w base spare held fuel t cs = some x) :
    ∃ y0 y1 y2 y3 y4 y5 n, x = (.agg [y0.1, y1.1, y2.1, y3.1, y4.1, y5.1], y0.2 ++ (y1.2 ++ (y2.2 ++ (y3.2 ++ (y4.2 ++ y5.2))))) ∧ DataW.trod enc P w base spare held n f0.type ((cs.drop f0.offset).take (P.cellsOf f0.type)) = some y0 ∧
      DataW.trod enc P w base spare held n f1.type ((cs.drop f1.offset).take (P.cellsOf f1.type)) = some y1 ∧ DataW.trod enc P w base spare held n f2.type ((cs.drop f2.offset).take (P.cellsOf f2.type)) = some y2 ∧
      DataW.trod enc P w base spare held n f3.type ((cs.drop f3.offset).take (P.cellsOf f3.type)) = some y3 ∧ DataW.trod enc P w base spare held n f4.type ((cs.drop f4.offset).take (P.cellsOf f4.type)) = some y4 ∧ DataW.trod enc P w base spare held n f5.type ((cs.drop f5.offset).take (P.cellsOf f5.type)) = some y5 := by
  obtain ⟨xs, n, _, rfl, hl, hlen, hf⟩ := DataW.trod_struct ht h
  match xs, hlen with
  | [y0, y1, y2, y3, y4, y5], _ => exact ⟨y0, y1, y2, y3, y4, y5, n, by simp, by simpa using hf 0 f0 rfl, by simpa using hf 1 f1 rfl, by simpa using hf 2 f2 rfl, by simpa using hf 3 f3 rfl, by simpa using hf 4 f4 rfl, by simpa using hf 5 f5 rfl⟩
set_option maxRecDepth 100000
theorem cells37 : Tryz.prog.cellsOf 37 = 6 := by kernel_rfl
theorem dom_in {H : Type} {enc : TypeId × Value → H} {W : World} {v : Value} {d : DataW H} {p : List MemPlace} {r : Reach} {b0 : Nat} (hv : Value.okWide Tryz.prog W r b0 37 v)
    (h : ∃ fuel, DataW.trod enc Tryz.prog W 0 (fun _ => true) true fuel 37 v.cells.toList = some (d, p)) (lt0 : ∀ y ∈ p, y.block < W.heap.size) : ∃ D, Di W v D := by
  obtain ⟨cs, rfl, hcs⟩ := okWide_struct Tryz.underlying37 hv
  rw [cells37] at hcs
  obtain ⟨c0, c1, c2, c3, c4, c5, rfl⟩ := array6 hcs
  obtain ⟨fuel, hf⟩ := h
  obtain ⟨y0, y1, y2, y3, y4, y5, n, hx, g0, g1, g2, g3, g4, g5⟩ := trod_struct6 Tryz.underlying37 hf
  have e4 : Tryz.prog.cellsOf 4 = 1 := by kernel_rfl
  have e35 : Tryz.prog.cellsOf 35 = 1 := by kernel_rfl
  have e22 : Tryz.prog.cellsOf 22 = 1 := by kernel_rfl
  have e3 : Tryz.prog.cellsOf 3 = 1 := by kernel_rfl
  simp only [e4, e35, e22, e3, Value.cells, List.drop_zero, List.drop_succ_cons, List.take_succ_cons, List.take_zero] at g0 g1 g2 g3 g4 g5
  have hp : p = y0.2 ++ (y1.2 ++ (y2.2 ++ (y3.2 ++ (y4.2 ++ y5.2)))) := (Prod.mk.inj hx).2
  obtain ⟨b, hb, _⟩ := DataW.trod_bool Tryz.underlying4 g0
  obtain ⟨i, hi, _, _⟩ := DataW.trod_int Tryz.underlying3 g4
  obtain ⟨j, hj, _, _⟩ := DataW.trod_int Tryz.underlying3 g5
  have hs1 : ∃ a l c, c1 = .slice a l c := by
    rcases DataW.trod_slice Tryz.underlying35 g1 with ⟨e, _⟩ | ⟨a, len, cap, _, _, _, _, e, _⟩
    · exact ⟨_, _, _, by simpa using e⟩
    · exact ⟨_, _, _, by simpa using e⟩
  have hs2 : ∃ a l c, c2 = .slice a l c := by
    rcases DataW.trod_slice Tryz.underlying22 g2 with ⟨e, _⟩ | ⟨a, len, cap, _, _, _, _, e, _⟩
    · exact ⟨_, _, _, by simpa using e⟩
    · exact ⟨_, _, _, by simpa using e⟩
  have hs3 : ∃ a l c, c3 = .slice a l c := by
    rcases DataW.trod_slice Tryz.underlying22 g3 with ⟨e, _⟩ | ⟨a, len, cap, _, _, _, _, e, _⟩
    · exact ⟨_, _, _, by simpa using e⟩
    · exact ⟨_, _, _, by simpa using e⟩
  obtain ⟨a1, l1, k1, rfl⟩ := hs1
  obtain ⟨a2, l2, k2, rfl⟩ := hs2
  obtain ⟨a3, l3, k3, rfl⟩ := hs3
  obtain ⟨lo, hlo⟩ := ints_in (d := y2.1) (p := y2.2) ⟨n, g2⟩ (fun y hy => lt0 y (by rw [hp]; simp [hy]))
  obtain ⟨up, hup⟩ := ints_in (d := y3.1) (p := y3.2) ⟨n, g3⟩ (fun y hy => lt0 y (by rw [hp]; simp [hy]))
  simp only [List.cons.injEq, and_true] at hb hi hj
  subst hb hi hj
  exact ⟨⟨b, l1, lo, up, i, j⟩, a1, k1, _, _, rfl, hlo, hup⟩
end Go.Proofs.YthpbgplbgnefcaaGreatDoor
