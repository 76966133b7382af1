/-
  What is proved here: What the function does that catches what is thrown.
  What is proved here: A row of lists of values while it grows.
-/
import Derived.Test.YtdnhhmnllhlbbaaGreatDoorPf
import Derived.Defers
import Derived.Recover
namespace Go.Proofs.YtdnhhmnllhlbbaaGreatDoor
open Go.RowKit Go.Shelf
set_option linter.unusedVariables false
set_option linter.unusedSimpArgs false
/-- The three results of blockAt in memory. -/
structure Res3 (w : World) (a : Nat) (u v x : Value) : Prop where
  h1 : Blk w a #[u] 28
  h2 : Blk w (a + 1) #[v] 3
  h3 : Blk w (a + 2) #[x] 4
theorem Res3.below {w w' : World} {a : Nat} {u v x : Value} (h : Res3 w a u v x) (hb : Below w.heap.size w w') : Res3 w' a u v x := ⟨h.h1.below hb, h.h2.below hb, h.h3.below hb⟩
theorem Res3.set {w : World} {a : Nat} {u v x : Value} (h : Res3 w a u v x) (u' v' x' : Value) : Res3 (((w.setCell ⟨a, 0, none⟩ u').setCell ⟨a + 1, 0, none⟩ v').setCell ⟨a + 2, 0, none⟩ x') a u' v' x' :=
  ⟨((h.h1.set 0 u').other (by omega) 0 v').other (by omega) 0 x', ((h.h2.other (by omega) 0 u').set 0 v').other (by omega) 0 x', ((h.h3.other (by omega) 0 u').other (by omega) 0 v').set 0 x'⟩
set_option maxRecDepth 100000 in
set_option maxHeartbeats 4000000 in
theorem idle70 (a b c : Addr) (w : World) :
    CallsD Tryz.prog 70 #[.pointer (some a), .pointer (some b), .pointer (some c)] .returning w fun e u' w' => e = .returned (.tuple #[]) ∧ u' = .returning ∧ w' = w := by
  refine callsD_of_wpS Tryz.func70 rfl fun c₀ cs hu => ?_
  apply wpS_seq
  apply wpS_region
  simp [wpOpsS, go_sem, recoverD, hu, Tryz.ntmps70, Exit.thenS]
  refine wpS_of_wp ?_
  simp only [Array.replicate_succ, Array.replicate_zero, List.push_toArray, List.append_toArray, List.nil_append, List.cons_append, List.setIfInBounds_toArray, List.set_cons_zero, List.set_cons_succ]
  go_wp2
  cases c₀
  simp_all [bodyPostS, results, Tryz.results70]
end Go.Proofs.YtdnhhmnllhlbbaaGreatDoor

namespace Go.Proofs.YtdnhhmnllhlbbaaGreatDoor
open Go.RowKit Go.Shelf
set_option linter.unusedVariables false
set_option linter.unusedSimpArgs false
/-- A row of lists of values while it grows: its own block, and those of the lists, lie at F or above. -/
structure Gv (F : Nat) (w : World) (s : Value) (xs : List (List Vl)) : Prop where
  o : ∃ ss : List Value, ss.length = xs.length ∧ Ow w 23 s 1 (ss.map fun x => [x]) ∧ ∀ (j : Nat) (x : List Vl) (sj : Value), xs[j]? = some x → ss[j]? = some sj → SvX (fun b => b < F ∨ s.ownBlock = some b) w sj x
  b : ∀ g, s.ownBlock = some g → F ≤ g
theorem Gv.nil (F : Nat) (w : World) : Gv F w (.slice none 0 0) [] := ⟨⟨[], rfl, ⟨by simp, World.ownsRow_nil _ _ _ _⟩, fun j x sj h => by simp at h⟩, fun g e => by cases e⟩
theorem SvX.move {X Y : Nat → Prop} {w w' : World} {s : Value} {l : List Vl} (h : SvX X w s l) (hs : w.heap.size ≤ w'.heap.size) (hb : ∀ b, b < w.heap.size → ¬ X b → w'.heap[b]? = w.heap[b]?) (hXY : ∀ b, b < w.heap.size → Y b → X b) : SvX Y w' s l := by
  have hc : ∀ b o, b < w.heap.size → ¬ X b → w'.cell? ⟨b, o, none⟩ = w.cell? ⟨b, o, none⟩ := fun b o h1 h2 => World.cell?_of_block (a := ⟨b, o, none⟩) (hb b h1 h2)
  obtain ⟨a, c, e, h⟩ := h
  refine ⟨a, c, e, fun h0 => ?_⟩
  obtain ⟨b, off, e1, e2, e3, e4⟩ := h h0
  refine ⟨b, off, e1, Nat.lt_of_lt_of_le e2 hs, fun q => e3 (hXY b e2 q), fun i v hv => ?_⟩
  obtain ⟨sv, ⟨a', c', f0, f1⟩, f2, f3, f4⟩ := e4 i v hv
  refine ⟨sv, ⟨a', c', f0, fun h0 => ?_⟩, (hc b _ e2 e3).trans f2, (hc b _ e2 e3).trans f3, (hc b _ e2 e3).trans f4⟩
  obtain ⟨b2, off2, g1, g2, g3, g4⟩ := f1 h0
  exact ⟨b2, off2, g1, Nat.lt_of_lt_of_le g2 hs, fun q => g3 (hXY b2 g2 q), fun i x hx => (hc b2 _ g2 g3).trans (g4 i x hx)⟩
theorem Gv.kept {F : Nat} {w w' : World} {s : Value} {xs : List (List Vl)} (g : Gv F w s xs) (k : Kept (fun b => b < F) w w') : Gv F w' s xs := by
  obtain ⟨ss, h1, h2, h3⟩ := g.o
  refine ⟨⟨ss, h1, h2.keep (fun b e => k.block b (h2.lt e) (by have := g.b b e; omega)), fun j x sj hx hs => ?_⟩, g.b⟩
  exact (h3 j x sj hx hs).move k.size (fun b hb hX => k.block b hb (fun q => hX (.inl q))) (fun b _ q => q)
theorem Gv.snoc {F : Nat} {w w' : World} {s s' sj : Value} {xs : List (List Vl)} {x : List Vl} (g : Gv F w s xs) (hF : F ≤ w.heap.size) {ss : List Value} (h1 : ss.length = xs.length) (h3 : ∀ (j : Nat) (x : List Vl) (sj : Value), xs[j]? = some x → ss[j]? = some sj → SvX (fun b => b < F ∨ s.ownBlock = some b) w sj x)
    (hj : SvX (fun b => b < F ∨ s.ownBlock = some b) w sj x) (k1 : Ow w' 23 s' 1 (ss.map (fun x => [x]) ++ [[sj]])) (k2 : w.grownBy w' s.ownBlock) (k3 : ∀ b, s'.ownBlock = some b → s.ownBlock = some b ∨ w.heap.size ≤ b) : Gv F w' s' (xs ++ [x]) := by
  have conv : ∀ sj x, SvX (fun b => b < F ∨ s.ownBlock = some b) w sj x → SvX (fun b => b < F ∨ s'.ownBlock = some b) w' sj x := fun sj x q =>
    q.move k2.size (fun b hb hX => k2.block b hb (fun e => hX (.inr e.symm))) (fun b hb q => by
      rcases q with q | q
      · exact .inl q
      · rcases k3 b q with q | q
        · exact .inr q
        · omega)
  refine ⟨⟨ss ++ [sj], by simp [h1], by rw [List.map_append]; exact k1, fun j y sy hy hs => ?_⟩, fun b e => ?_⟩
  · rcases Nat.lt_trichotomy j xs.length with q | q | q
    · rw [List.getElem?_append_left q] at hy
      rw [List.getElem?_append_left (by omega)] at hs
      exact conv _ _ (h3 j y sy hy hs)
    · subst q
      rw [List.getElem?_append_right (Nat.le_refl _), Nat.sub_self] at hy
      rw [List.getElem?_append_right (by omega), h1, Nat.sub_self] at hs
      simp at hy hs
      subst hy hs
      exact conv _ _ hj
    · rw [List.getElem?_eq_none (by simp; omega)] at hy
      cases hy
  · rcases k3 b e with q | q
    · exact g.b b q
    · omega
theorem Gv.done {F : Nat} {w : World} {s : Value} {xs : List (List Vl)} (g : Gv F w s xs) : SvvX (fun b => b < F) w s xs := by
  obtain ⟨ss, h1, h2, h3⟩ := g.o
  obtain ⟨a, c, rfl, _, _⟩ := h2.shape
  refine ⟨a, c, by rw [List.length_map, h1], fun h0 => ?_⟩
  obtain ⟨c0, hc0⟩ : ∃ c0, ss[0]? = some c0 := ⟨_, List.getElem?_eq_getElem (by omega)⟩
  obtain ⟨b, cap, e1, hb, _, _, _, _⟩ := h2.at (i := 0) (c := [c0]) (by rw [List.getElem?_map, hc0]; rfl)
  injection e1 with e1 _ _
  subst e1
  refine ⟨b, 0, rfl, hb, fun q => by have := g.b b rfl; omega, fun i x hx => ?_⟩
  obtain ⟨ci, hci⟩ : ∃ c0, ss[i]? = some c0 := ⟨_, List.getElem?_eq_getElem (by rw [h1]; exact (List.getElem?_eq_some_iff.1 hx).1)⟩
  obtain ⟨b', cap', e2, _, _, _, hr, _⟩ := h2.at (i := i) (c := [ci]) (by rw [List.getElem?_map, hci]; rfl)
  injection e2 with e2 _ _
  injection e2 with e2
  injection e2 with e2 _ _
  subst e2
  have r0 := hr 0 ci rfl
  exact ⟨ci, (h3 i x ci hx hci).mono (fun b q => .inl q), by simpa using r0⟩
theorem SvvX.mono {X Y : Nat → Prop} {w : World} {s : Value} {ls : List (List Vl)} (h : SvvX X w s ls) (hXY : ∀ b, Y b → X b) : SvvX Y w s ls := by
  obtain ⟨a, c, e, h⟩ := h
  refine ⟨a, c, e, fun h0 => ?_⟩
  obtain ⟨b, off, e1, e2, e3, e4⟩ := h h0
  exact ⟨b, off, e1, e2, fun q => e3 (hXY b q), fun i l hl => by obtain ⟨sv, f1, f2⟩ := e4 i l hl; exact ⟨sv, f1.mono hXY, f2⟩⟩
end Go.Proofs.YtdnhhmnllhlbbaaGreatDoor
