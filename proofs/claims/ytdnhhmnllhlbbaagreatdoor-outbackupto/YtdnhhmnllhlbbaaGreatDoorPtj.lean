/-
  What is proved here: Blocks of values that are not the same are not the same: the walk of OutApart.
  What is proved here: A last line alone, behind a block, ahead of more: the walk of OutEnds.
-/
import Derived.Test.YtdnhhmnllhlbbaaGreatDoorPqj
import Derived.Test.YtdnhhmnllhlbbaaGreatDoorPr
import Derived.Test.YtdnhhmnllhlbbaaGreatDoorOwj
namespace Go.Proofs.YtdnhhmnllhlbbaaGreatDoor
open Go.RowKit Go.Shelf
set_option linter.unusedVariables false
set_option linter.unusedSimpArgs false
theorem lim_ous {l : List Ou} {vals : List Vl} {xs : List (List Vl)} (h : ousV l vals = some xs) (hn : l.length ≤ 1000000000) (hz : ∀ o ∈ l, OuZ o) : Lim xs := by
  have hl := ousV_len h
  refine ⟨by omega, fun x hx => ?_⟩
  obtain ⟨i, hi⟩ := List.getElem?_of_mem hx
  obtain ⟨o, ho⟩ : ∃ o, l[i]? = some o := ⟨_, List.getElem?_eq_getElem (by rw [← hl]; exact (List.getElem?_eq_some_iff.1 hi).1)⟩
  obtain ⟨y, hy, hov⟩ := ousV_get h ho
  rw [hi] at hy
  injection hy with hy
  subst hy
  obtain ⟨f1, f2⟩ := ouV_facts hov
  have := (hz o (List.mem_of_getElem? ho)).l
  refine ⟨by omega, fun v hv => ?_⟩
  rcases isVal_more (f2 v hv) with ⟨_, _, _, h⟩ | ⟨_, _, h, _⟩ | ⟨_, _, h, _⟩
  · have := (setOk_facts h).1; omega
  · rw [h]; simp
  · rw [h]; simp
/-- What is known of outputs that came in. -/
structure OuIn (W : World) (os : Value) (l : List Ou) : Prop where
  so : Sou W os l
  n : l.length ≤ 1048576
  z : ∀ o ∈ l, OuZ o
  nm : ∀ o ∈ l, o.nm.length ≤ 1048576
theorem OuIn.below {W w : World} {os : Value} {l : List Ou} (h : OuIn W os l) (hb : Below W.heap.size W w) : OuIn w os l := ⟨h.so.below hb, h.n, h.z, h.nm⟩
/-- What is known of values that came in. -/
structure VlIn (W : World) (vs : Value) (l : List Vl) : Prop where
  sv : Sv W vs l
  n : l.length ≤ 1048576
  z : ∀ v ∈ l, v.s.length ≤ 1048576
theorem VlIn.below {W w : World} {os : Value} {l : List Vl} (h : VlIn W os l) (hb : Below W.heap.size W w) : VlIn w os l := ⟨h.sv.below hb, h.n, h.z⟩
theorem blockI {W : World} {s vs : Value} {l : List Ou} {vals : List Vl} (h : OuIn W s l) (hv : VlIn W vs vals) (hT : Tens W) :
    Calls Tryz.prog 8 #[s, vs] W fun e w' => BlkE l vals e ∧ Below W.heap.size W w' :=
  block8 h.so (by have := h.n; omega) h.z (fun o ho => by have := h.nm o ho; omega) hv.sv (fun v q => by have := hv.z v q; omega) (by have := hv.n; omega) hT
theorem valuesI {W : World} {s vs : Value} {l : List Ou} {vals : List Vl} (h : OuIn W s l) (hv : VlIn W vs vals) :
    Calls Tryz.prog 10 #[s, vs] W fun e w' => ValE l vals W.heap.size e w' ∧ Below W.heap.size W w' :=
  values10 h.so (by have := h.n; omega) h.z hv.sv (fun v q => by have := hv.z v q; omega) (by have := hv.n; omega)
theorem valuesO {W : World} {s vs : Value} {l : List Ou} {vals : List Vl} {xs : List (List Vl)} (h : OuIn W s l) (hv : VlIn W vs vals) (hr : RightN l = 0) (hx : ousV l vals = some xs) :
    Calls Tryz.prog 10 #[s, vs] W fun e w' => ∃ sv, e = .returned (.tuple #[sv, .int .i64 0]) ∧ SvvX (fun b => b < W.heap.size) w' sv xs ∧ Below W.heap.size W w' := by
  refine (valuesI h hv).mono ?_
  rintro e w' ⟨⟨sv, er, rfl, hE⟩, hb⟩
  rcases hE with ⟨q, _⟩ | ⟨_, q, _⟩ | ⟨_, ys, q, rfl, hs⟩
  · exact absurd hr q
  · rw [hx] at q; cases q
  · rw [hx] at q
    injection q with q
    subst q
    exact ⟨sv, rfl, hs, hb⟩
theorem slice_of {W : World} {s : Value} {l : List Ou} (h : OuIn W s l) : ∃ a n c, s = .slice a n c := by obtain ⟨a, c, e, _⟩ := h.so; exact ⟨_, _, _, e⟩
theorem slice_ofv {W : World} {s : Value} {l : List Vl} (h : VlIn W s l) : ∃ a n c, s = .slice a n c := by obtain ⟨a, c, e, _⟩ := h.sv; exact ⟨_, _, _, e⟩
theorem svv_shape {X : Nat → Prop} {w : World} {s : Value} {l : List (List Vl)} (h : SvvX X w s l) : ∃ a n c, s = .slice a n c := by obtain ⟨a, c, e, _⟩ := h; exact ⟨_, _, _, e⟩
theorem sv3_shape {X : Nat → Prop} {w : World} {s : Value} {l : List (List (List Vl))} (h : Sv3 X w s l) : ∃ a n c, s = .slice a n c := by obtain ⟨a, c, e, _⟩ := h; exact ⟨_, _, _, e⟩

end Go.Proofs.YtdnhhmnllhlbbaaGreatDoor

namespace Go.Proofs.YtdnhhmnllhlbbaaGreatDoor
open Go.RowKit Go.Shelf
set_option linter.unusedVariables false
set_option linter.unusedSimpArgs false
theorem blks_one (l : List Ou) (x : List (List Vl)) (t : List UInt8) : blksT l [x] ++ (t ++ []) = blockT l x ++ t := by simp [blksT]
theorem blks_two (l : List Ou) (x y : List (List Vl)) (t : List UInt8) : blksT l [x, y] ++ (t ++ []) = blockT l x ++ blockT l y ++ t := by simp [blksT]

end Go.Proofs.YtdnhhmnllhlbbaaGreatDoor
