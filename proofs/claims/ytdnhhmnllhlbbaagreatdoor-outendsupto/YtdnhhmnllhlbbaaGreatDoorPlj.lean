/-
  What is proved here: A row of blocks while it grows; the text of several blocks.
  What is proved here: The reference tells whether blocks are alike: SameVal, Same, SameAll.
-/
import Derived.Test.YtdnhhmnllhlbbaaGreatDoorPhj
import Derived.Test.YtdnhhmnllhlbbaaGreatDoorOwj
import Derived.Test.YtdnhhmnllhlbbaaGreatDoorCEa
import Derived.Test.YtdnhhmnllhlbbaaGreatDoorCEb
namespace Go.Proofs.YtdnhhmnllhlbbaaGreatDoor
open Go.RowKit Go.Shelf
set_option linter.unusedVariables false
set_option linter.unusedSimpArgs false
theorem SvvX.move {X Y : Nat → Prop} {w w' : World} {s : Value} {l : List (List Vl)} (h : SvvX X w s l) (hs : w.heap.size ≤ w'.heap.size) (hb : ∀ b, b < w.heap.size → ¬ X b → w'.heap[b]? = w.heap[b]?) (hXY : ∀ b, b < w.heap.size → Y b → X b) : SvvX Y w' s l := by
  have hc : ∀ b o, b < w.heap.size → ¬ X b → w'.cell? ⟨b, o, none⟩ = w.cell? ⟨b, o, none⟩ := fun b o h1 h2 => World.cell?_of_block (a := ⟨b, o, none⟩) (hb b h1 h2)
  obtain ⟨a, c, e, h⟩ := h
  refine ⟨a, c, e, fun h0 => ?_⟩
  obtain ⟨b, off, e1, e2, e3, e4⟩ := h h0
  refine ⟨b, off, e1, Nat.lt_of_lt_of_le e2 hs, fun q => e3 (hXY b e2 q), fun i v hv => ?_⟩
  obtain ⟨sv, f1, f2⟩ := e4 i v hv
  exact ⟨sv, f1.move hs hb hXY, (hc b _ e2 e3).trans f2⟩
/-- Lists of lists of values in memory. -/
def Sv3 (X : Nat → Prop) (w : World) (s : Value) (ls : List (List (List Vl))) : Prop := ∃ a c, s = .slice a ls.length c ∧ (0 < ls.length → ∃ b off, a = some ⟨b, off, none⟩ ∧ b < w.heap.size ∧ ¬ X b ∧ ∀ i l, ls[i]? = some l → ∃ sv, SvvX X w sv l ∧ w.cell? ⟨b, off + i, none⟩ = some sv)
theorem Sv3.kept {X : Nat → Prop} {w w' : World} {s : Value} {l : List (List (List Vl))} (h : Sv3 X w s l) (k : Kept X w w') : Sv3 X w' s l := by
  obtain ⟨a, c, e, h⟩ := h
  refine ⟨a, c, e, fun h0 => ?_⟩
  obtain ⟨b, off, e1, e2, e3, e4⟩ := h h0
  refine ⟨b, off, e1, Nat.lt_of_lt_of_le e2 k.size, e3, fun i v hv => ?_⟩
  obtain ⟨sv, f1, f2⟩ := e4 i v hv
  exact ⟨sv, f1.kept k, (k.cell e2 e3 _).trans f2⟩
theorem Sv3.below {X : Nat → Prop} {w w' : World} {s : Value} {l : List (List (List Vl))} (h : Sv3 X w s l) (k : Below w.heap.size w w') : Sv3 X w' s l := h.kept (Kept.of_below k)
theorem Sv3.mono {X Y : Nat → Prop} {w : World} {s : Value} {ls : List (List (List Vl))} (h : Sv3 X w s ls) (hXY : ∀ b, Y b → X b) : Sv3 Y w s ls := by
  obtain ⟨a, c, e, h⟩ := h
  refine ⟨a, c, e, fun h0 => ?_⟩
  obtain ⟨b, off, e1, e2, e3, e4⟩ := h h0
  exact ⟨b, off, e1, e2, fun q => e3 (hXY b q), fun i l hl => by obtain ⟨sv, f1, f2⟩ := e4 i l hl; exact ⟨sv, f1.mono hXY, f2⟩⟩
/-- A row of blocks while it grows: its own block, and those of the blocks, lie at F or above. -/
structure Gw (F : Nat) (w : World) (s : Value) (xs : List (List (List Vl))) : Prop where
  o : ∃ ss : List Value, ss.length = xs.length ∧ Ow w 28 s 1 (ss.map fun x => [x]) ∧ ∀ (j : Nat) (x : List (List Vl)) (sj : Value), xs[j]? = some x → ss[j]? = some sj → SvvX (fun b => b < F ∨ s.ownBlock = some b) w sj x
  b : ∀ g, s.ownBlock = some g → F ≤ g
theorem Gw.nil (F : Nat) (w : World) : Gw F w (.slice none 0 0) [] := ⟨⟨[], rfl, ⟨by simp, World.ownsRow_nil _ _ _ _⟩, fun j x sj h => by simp at h⟩, fun g e => by cases e⟩
theorem Gw.kept {F : Nat} {w w' : World} {s : Value} {xs : List (List (List Vl))} (g : Gw F w s xs) (k : Kept (fun b => b < F) w w') : Gw F w' s xs := by
  obtain ⟨ss, h1, h2, h3⟩ := g.o
  refine ⟨⟨ss, h1, h2.keep (fun b e => k.block b (h2.lt e) (by have := g.b b e; omega)), fun j x sj hx hs => ?_⟩, g.b⟩
  exact (h3 j x sj hx hs).move k.size (fun b hb hX => k.block b hb (fun q => hX (.inl q))) (fun b _ q => q)
theorem Gw.snoc {F : Nat} {w w' : World} {s s' sj : Value} {xs : List (List (List Vl))} {x : List (List Vl)} (g : Gw F w s xs) (hF : F ≤ w.heap.size) {ss : List Value} (h1 : ss.length = xs.length) (h3 : ∀ (j : Nat) (x : List (List Vl)) (sj : Value), xs[j]? = some x → ss[j]? = some sj → SvvX (fun b => b < F ∨ s.ownBlock = some b) w sj x)
    (hj : SvvX (fun b => b < F ∨ s.ownBlock = some b) w sj x) (k1 : Ow w' 28 s' 1 (ss.map (fun x => [x]) ++ [[sj]])) (k2 : w.grownBy w' s.ownBlock) (k3 : ∀ b, s'.ownBlock = some b → s.ownBlock = some b ∨ w.heap.size ≤ b) : Gw F w' s' (xs ++ [x]) := by
  have conv : ∀ sj x, SvvX (fun b => b < F ∨ s.ownBlock = some b) w sj x → SvvX (fun b => b < F ∨ s'.ownBlock = some b) w' sj x := fun sj x q =>
    q.move k2.size (fun b hb hX => k2.block b hb (fun e => hX (.inr e.symm))) (fun b hb q => by
      rcases q with q | q
      · exact .inl q
      · rcases k3 b q with q | q
        · exact .inr q
        · omega)
  refine ⟨⟨ss ++ [sj], by simp [h1], by rw [List.map_append]; exact k1, fun j y sy hy hs => ?_⟩, fun b e => ?_⟩
  · rcases Nat.lt_trichotomy j xs.length with q | q | q
    · rw [List.getElem?_append_left q] at hy
      rw [List.getElem?_append_left (by omega)] at hs
      exact conv _ _ (h3 j y sy hy hs)
    · subst q
      rw [List.getElem?_append_right (Nat.le_refl _), Nat.sub_self] at hy
      rw [List.getElem?_append_right (by omega), h1, Nat.sub_self] at hs
      simp at hy hs
      subst hy hs
      exact conv _ _ hj
    · rw [List.getElem?_eq_none (by simp; omega)] at hy
      cases hy
  · rcases k3 b e with q | q
    · exact g.b b q
    · omega
theorem Gw.done {F : Nat} {w : World} {s : Value} {xs : List (List (List Vl))} (g : Gw F w s xs) : Sv3 (fun b => b < F) w s xs := by
  obtain ⟨ss, h1, h2, h3⟩ := g.o
  obtain ⟨a, c, rfl, _, _⟩ := h2.shape
  refine ⟨a, c, by rw [List.length_map, h1], fun h0 => ?_⟩
  obtain ⟨c0, hc0⟩ : ∃ c0, ss[0]? = some c0 := ⟨_, List.getElem?_eq_getElem (by omega)⟩
  obtain ⟨b, cap, e1, hb, _, _, _, _⟩ := h2.at (i := 0) (c := [c0]) (by rw [List.getElem?_map, hc0]; rfl)
  injection e1 with e1 _ _
  subst e1
  refine ⟨b, 0, rfl, hb, fun q => by have := g.b b rfl; omega, fun i x hx => ?_⟩
  obtain ⟨ci, hci⟩ : ∃ c0, ss[i]? = some c0 := ⟨_, List.getElem?_eq_getElem (by rw [h1]; exact (List.getElem?_eq_some_iff.1 hx).1)⟩
  obtain ⟨b', cap', e2, _, _, _, hr, _⟩ := h2.at (i := i) (c := [ci]) (by rw [List.getElem?_map, hci]; rfl)
  injection e2 with e2 _ _
  injection e2 with e2
  injection e2 with e2 _ _
  subst e2
  have r0 := hr 0 ci rfl
  exact ⟨ci, (h3 i x ci hx hci).mono (fun b q => .inl q), by simpa using r0⟩
/-- The text of several blocks. -/
def blksT (l : List Ou) (xss : List (List (List Vl))) : List UInt8 := (xss.map (blockT l)).flatten
theorem blks_at {l : List Ou} : ∀ {xss : List (List (List Vl))} {k : Nat} {x : List (List Vl)}, xss[k]? = some x → ∃ R, blksT l xss = blksT l (xss.take k) ++ (blockT l x ++ R) ∧ blksT l (xss.take (k + 1)) = blksT l (xss.take k) ++ blockT l x
  | [], k, x, h => by simp at h
  | y :: xss, 0, x, h => by
    simp at h
    subst h
    exact ⟨blksT l xss, by simp [blksT], by simp [blksT]⟩
  | y :: xss, k + 1, x, h => by
    obtain ⟨R, e1, e2⟩ := blks_at (l := l) (xss := xss) (k := k) (by simpa using h)
    refine ⟨R, ?_, ?_⟩
    · show blockT l y ++ blksT l xss = blockT l y ++ blksT l (xss.take k) ++ (blockT l x ++ R)
      rw [e1, List.append_assoc]
    · show blockT l y ++ blksT l (xss.take (k + 1)) = blockT l y ++ blksT l (xss.take k) ++ blockT l x
      rw [e2, List.append_assoc]
theorem block_pos (l : List Ou) (x : List (List Vl)) : 11 ≤ (blockT l x).length := by unfold blockT; rw [List.length_append]; have : dashT.length = 11 := rfl; omega
theorem blks_len (l : List Ou) : ∀ xss : List (List (List Vl)), 11 * xss.length ≤ (blksT l xss).length
  | [] => Nat.zero_le _
  | y :: r => by
    have h1 := blks_len l r
    have h2 := block_pos l y
    have h3 : blksT l (y :: r) = blockT l y ++ blksT l r := rfl
    rw [h3, List.length_append, List.length_cons]
    omega
end Go.Proofs.YtdnhhmnllhlbbaaGreatDoor

namespace Go.Proofs.YtdnhhmnllhlbbaaGreatDoor
open Go.RowKit Go.Shelf
set_option linter.unusedVariables false
set_option linter.unusedSimpArgs false
instance : DecidableEq Vl := fun a b => by cases a; cases b; simp only [Vl.mk.injEq]; infer_instance
end Go.Proofs.YtdnhhmnllhlbbaaGreatDoor
