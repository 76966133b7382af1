/-
  What is proved here: what the walks of StoreTells and StoreBack share.
  What is proved here: several stores side by side.
-/
import Derived.Test.YtghnfnieppfhgaaGreatMjj
import Derived.Test.YtghnfnieppfhgaaGreatMgj
import Derived.Test.YtghnfnieppfhgaaGreatMe
import Derived.Test.YtghnfnieppfhgaaGreatAa
import Derived.Test.YtghnfnieppfhgaaGreatBsj
import Derived.Test.YtghnfnieppfhgaaGreatFaj
import Derived.Test.YtghnfnieppfhgaaGreatYTd
import Derived.Test.YtghnfnieppfhgaaGreatYTbj
import Derived.Test.YtghnfnieppfhgaaGreatMm
import Derived.Test.YtghnfnieppfhgaaGreatMh
namespace Go.Proofs.YtghnfnieppfhgaaGreat
open Go.RowKit Go.Shelf
set_option linter.unusedVariables false
set_option linter.unusedSimpArgs false

theorem ld_of {W : World} {s : Value} {l : List MD} (h : Ds W s l) : Ld W s l := by
  obtain ⟨a, c, e, h⟩ := h
  refine ⟨a, c, e, fun h0 => ?_⟩
  obtain ⟨b, off, e1, e2, e3⟩ := h h0
  have hex : ∀ i : Nat, ∃ ci : List Value, ∀ d, l[i]? = some d → W.rangeAt b (off + i * 6) ci ∧ Dc (fun _ => False) W ci d := fun i => by
    cases hi : l[i]? with
    | none => exact ⟨[], fun d hd => by cases hd⟩
    | some d0 =>
      obtain ⟨c0, c1, c2, c3, c4, c5, hD, k0, k1, k2, k3, k4, k5⟩ := e3 i d0 hi
      refine ⟨[c0, c1, c2, c3, c4, c5], fun d hd => ?_⟩
      injection hd with hd
      subst hd
      refine ⟨fun j u hu => ?_, hD⟩
      match j, hu with
      | 0, hu => simp at hu; subst hu; exact k0
      | 1, hu => simp at hu; subst hu; exact k1
      | 2, hu => simp at hu; subst hu; exact k2
      | 3, hu => simp at hu; subst hu; exact k3
      | 4, hu => simp at hu; subst hu; exact k4
      | 5, hu => simp at hu; subst hu; exact k5
      | j + 6, hu => simp at hu
  obtain ⟨f, hf⟩ := Classical.axiomOfChoice hex
  refine ⟨b, off, (List.range l.length).map f, e1, e2, by simp, fun i ci di hci hdi => ?_⟩
  have hi := (List.getElem?_eq_some_iff.1 hdi).1
  rw [List.getElem?_map, List.getElem?_range hi] at hci
  simp at hci
  subst hci
  exact hf i di hdi
end Go.Proofs.YtghnfnieppfhgaaGreat

namespace Go.Proofs.YtghnfnieppfhgaaGreat
open Go.RowKit Go.Shelf
set_option linter.unusedVariables false
set_option linter.unusedSimpArgs false

/-- The foreign blocks Y, as they are in w. -/
abbrev gh (Y : Nat → Prop) (w : World) : Gh := ⟨Y, fun b => w.heap[b]?⟩
/-- A store whose lists are in no block of Y. -/
def Sid (w : World) (p : Nat) (st : StM) (sl : Sl) (Y : Nat → Prop) : Prop := @Sto (gh Y w) w p st sl
theorem xs_ox {G : Gh} {p : Nat} {sl : Sl} {b : Nat} (h : @XS G p sl b) : OX p sl b ∨ G.Y b := by
  rcases h with q | q | q | q | q | q | q
  · exact .inl (.inl q)
  · exact .inl (.inr (.inl q))
  · exact .inl (.inr (.inr (.inl q)))
  · exact .inl (.inr (.inr (.inr (.inl q))))
  · exact .inl (.inr (.inr (.inr (.inr (.inl q)))))
  · exact .inl (.inr (.inr (.inr (.inr (.inr q)))))
  · exact .inr q
theorem ox_xs {G : Gh} {p : Nat} {sl : Sl} {b : Nat} (h : OX p sl b) : @XS G p sl b := by
  rcases h with q | q | q | q | q | q
  · exact .inl q
  · exact .inr (.inl q)
  · exact .inr (.inr (.inl q))
  · exact .inr (.inr (.inr (.inl q)))
  · exact .inr (.inr (.inr (.inr (.inl q))))
  · exact .inr (.inr (.inr (.inr (.inr (.inl q)))))
theorem y_xs {G : Gh} {p : Nat} {sl : Sl} {b : Nat} (h : G.Y b) : @XS G p sl b := .inr (.inr (.inr (.inr (.inr (.inr h)))))
/-- The same store, of other ghosts. -/
theorem Sto.ghost {G : Gh} {Y' : Nat → Prop} {H' : Nat → Option Obj} {w w' : World} {p : Nat} {st : StM} {sl : Sl} (h : @Sto G w p st sl) (k : Kept (@XS G p sl) w w') (hk : ∀ b, OX p sl b → w'.heap[b]? = w.heap[b]?) (hY : ∀ b, Y' b → G.Y b ∨ w.heap.size ≤ b) (hl : ∀ b, Y' b → b < w'.heap.size ∧ w'.heap[b]? = H' b) : @Sto ⟨Y', H'⟩ w' p st sl := by
  obtain ⟨cs, hd, hdr⟩ := h.doms
  obtain ⟨ks, hs, hkr⟩ := h.saved
  have u : Up (@XS G p sl) (@XS ⟨Y', H'⟩ p sl) w := fun b hb => by
    rcases xs_ox hb with q | q
    · exact .inl (ox_xs q)
    · rcases hY b q with q | q
      · exact .inl (y_xs q)
      · exact .inr q
  exact @Sto.mk ⟨Y', H'⟩ w' p st sl ((hk p (.inl rfl)).trans h.blk) ⟨cs, hd.keep fun g hg => hk g (.inr (.inr (.inr (.inr (.inl hg))))), hdr.go k u⟩ (h.why.keep fun g hg => hk g (.inr (.inr (.inr (.inr (.inr hg)))))) (h.since.keep fun g hg => hk g (.inr (.inr (.inr (.inl hg)))))
    ⟨ks, hs.keep fun g hg => hk g (.inr (.inl hg)), hkr.go k u⟩ (h.marks.keep fun g hg => hk g (.inr (.inr (.inl hg)))) h.wi h.wm h.im h.lw h.ls hl fun b hb hy => by
      rcases hY b hy with q | q
      · exact h.yo b hb q
      · have := h.x_lt b (ox_xs hb); omega
/-- Another one's blocks may turn, and there may be more of them. -/
theorem Sid.frame {w w' : World} {p : Nat} {st : StM} {sl : Sl} {X Y Y' : Nat → Prop} (h : Sid w p st sl Y) (k : Kept X w w') (hX : ∀ b, X b → Y b) (hY : ∀ b, Y' b → Y b ∨ w.heap.size ≤ b) (hl : ∀ b, Y' b → b < w'.heap.size) : Sid w' p st sl Y' :=
  Sto.ghost (G := gh Y w) h (k.mono fun b hb => y_xs (hX b hb)) (fun b hb => k.block b (@Sto.x_lt (gh Y w) w p st sl h b (ox_xs hb)) (fun q => @Sto.yo (gh Y w) w p st sl h b hb (hX b q))) hY (fun b hb => ⟨hl b hb, rfl⟩)
theorem Sid.ox_lt {w : World} {p : Nat} {st : StM} {sl : Sl} {Y : Nat → Prop} (h : Sid w p st sl Y) : ∀ b, OX p sl b → b < w.heap.size := fun b hb => @Sto.x_lt (gh Y w) w p st sl h b (ox_xs hb)
/-- What a call leaves, in terms of the store's own blocks. -/
theorem Sid.after {W w' : World} {p : Nat} {st st' : StM} {sl sl' : Sl} {Y : Nat → Prop} (h : Sid W p st sl Y) (h' : @Sto (gh Y W) w' p st' sl') (u : Up (@XS (gh Y W) p sl) (@XS (gh Y W) p sl') W) (k : Kept (@XS (gh Y W) p sl) W w') :
    Sid w' p st' sl' Y ∧ Up (OX p sl) (OX p sl') W ∧ Kept (OX p sl) W w' := by
  refine ⟨?_, fun b hb => ?_, k.os, k.tape, k.output, k.size, fun b hb hx => ?_⟩
  · exact Sto.ghost (G := gh Y W) h' (Kept.refl _ _) (fun b _ => rfl) (fun b q => .inl q) (fun b q => ⟨(@Sto.yl (gh Y W) w' p st' sl' h' b q).1, rfl⟩)
  · rcases u b (ox_xs hb) with q | q
    · rcases xs_ox q with q | q
      · exact .inl q
      · exact absurd q (@Sto.yo (gh Y W) w' p st' sl' h' b hb)
    · exact .inr q
  · by_cases hy : Y b
    · exact (@Sto.yl (gh Y W) w' p st' sl' h' b hy).2
    · exact k.block b hb (fun q => (xs_ox q).elim hx hy)
theorem narrow_s {W : World} {p : Nat} {st : StM} {sl : Sl} {Y : Nat → Prop} {c : List Value} {d : MD} (h : Sid W p st sl Y) (hc : Dc (fun b => OX p sl b ∨ Y b) W c d) (v : Int) (hO : Ok st) (hf : Dm.FitsR d.r) :
    Calls Tryz.prog 14 #[ptr p, .int .i64 v, .agg c.toArray] W fun e w' => (∃ x y : Int, e = .returned (.tuple #[.int .i64 x, .int .i64 y])) ∧ ∃ sl', Sid w' p (narM st v d) sl' Y ∧ Up (OX p sl) (OX p sl') W ∧ Kept (OX p sl) W w' :=
  (@narrow_any (gh Y W) W p st sl c d h (hc.up fun b hb => .inl (xs_ox hb)) v hO.sz hO.flat hf hO.held hO.e0 hO.ne).mono fun e w' ⟨h1, sl', h2, h3, h4⟩ => ⟨h1, sl', h.after h2 h3 h4⟩
theorem new_s {W : World} {s : Value} {l : List MD} (Y : Nat → Prop) (hY : ∀ b, Y b → b < W.heap.size) (hl : Ld W s l) (hn : l.length ≤ 1000) (hf : ∀ d ∈ l, Dm.FitsR d.r) (hr : ∀ d ∈ l, rightM d = true) :
    Calls Tryz.prog 8 #[s] W fun e w' => ∃ p sl, e = .returned (.tuple #[ptr p, .int .i64 0]) ∧ Sid w' p (newA l) sl Y ∧ (∀ b, OX p sl b → W.heap.size ≤ b) ∧ Below W.heap.size W w' :=
  (@new_ok (gh Y W) W s l hl (fun b q => ⟨hY b q, rfl⟩) hn (fun d hd => ⟨hf d hd, hr d hd⟩)).mono fun e w' ⟨p, sl, h1, h2, h3, h4⟩ => ⟨p, sl, h1, Sto.ghost (G := gh Y W) h2 (Kept.refl _ _) (fun b _ => rfl) (fun b q => .inl q) (fun b q => ⟨(@Sto.yl (gh Y W) w' p _ sl h2 b q).1, rfl⟩), h3, h4⟩
/-- Three stores, none of which has a list in another one's blocks; all of them newer than W. -/
structure Tri (W w : World) (s t u : Nat) (S T U : StM) (sl tl ul : Sl) : Prop where
  a : Sid w s S sl (fun b => OX t tl b ∨ OX u ul b)
  b : Sid w t T tl (fun b => OX u ul b ∨ OX s sl b)
  c : Sid w u U ul (fun b => OX s sl b ∨ OX t tl b)
  ls : ∀ b, OX s sl b → W.heap.size ≤ b
  lt : ∀ b, OX t tl b → W.heap.size ≤ b
  lu : ∀ b, OX u ul b → W.heap.size ≤ b
  bel : Below W.heap.size W w
theorem Tri.rot {W w : World} {s t u : Nat} {S T U : StM} {sl tl ul : Sl} (h : Tri W w s t u S T U sl tl ul) : Tri W w t u s T U S tl ul sl := ⟨h.b, h.c, h.a, h.lt, h.lu, h.ls, h.bel⟩
theorem Tri.below {W w w' : World} {s t u : Nat} {S T U : StM} {sl tl ul : Sl} (h : Tri W w s t u S T U sl tl ul) (hb : Below w.heap.size w w') : Tri W w' s t u S T U sl tl ul := by
  have k : Kept (fun _ => False) w w' := ⟨hb.os, hb.tape, hb.output, hb.size, fun b q _ => hb.block b q⟩
  have go : ∀ {p : Nat} {st : StM} {sl : Sl} {Y : Nat → Prop}, Sid w p st sl Y → (∀ b, Y b → b < w.heap.size) → Sid w' p st sl Y := fun h hy => h.frame k (fun _ q => q.elim) (fun b q => .inl q) (fun b q => Nat.lt_of_lt_of_le (hy b q) hb.size)
  have la := h.a.ox_lt
  have lb := h.b.ox_lt
  have lc := h.c.ox_lt
  exact ⟨go h.a (fun b q => q.elim (lb b) (lc b)), go h.b (fun b q => q.elim (lc b) (la b)), go h.c (fun b q => q.elim (la b) (lb b)), h.ls, h.lt, h.lu, h.bel.trans (hb.mono h.bel.size)⟩
/-- What came in with W is in no store's block. -/
theorem Tri.dc {W w : World} {s t u : Nat} {S T U : StM} {sl tl ul : Sl} (h : Tri W w s t u S T U sl tl ul) {c : List Value} {d : MD} (hc : Dc (fun _ => False) W c d) : Dc (fun b => OX s sl b ∨ OX t tl b ∨ OX u ul b) w c d :=
  (hc.up (X' := fun b => OX s sl b ∨ OX t tl b ∨ OX u ul b) (fun b q => .inr (by rcases q with q | q | q; exact h.ls b q; exact h.lt b q; exact h.lu b q))).below h.bel
theorem Tri.narrow {W w : World} {s t u : Nat} {S T U : StM} {sl tl ul : Sl} (h : Tri W w s t u S T U sl tl ul) {c : List Value} {d : MD} (hc : Dc (fun b => OX s sl b ∨ OX t tl b ∨ OX u ul b) w c d) (v : Int) (hO : Ok S) (hf : Dm.FitsR d.r) :
    Calls Tryz.prog 14 #[ptr s, .int .i64 v, .agg c.toArray] w fun e w' => (∃ x y : Int, e = .returned (.tuple #[.int .i64 x, .int .i64 y])) ∧ ∃ sl', Tri W w' s t u (narM S v d) T U sl' tl ul := by
  refine (narrow_s h.a hc v hO hf).mono fun e w' ⟨h1, sl', h2, hu, hk⟩ => ⟨h1, sl', ?_⟩
  have la := h2.ox_lt
  have lb := h.b.ox_lt
  have lc := h.c.ox_lt
  have hs := hk.size
  refine ⟨h2, h.b.frame hk (fun b q => .inr q) (fun b q => ?_) (fun b q => ?_), h.c.frame hk (fun b q => .inl q) (fun b q => ?_) (fun b q => ?_), fun b q => ?_, h.lt, h.lu, ?_⟩
  · rcases q with q | q
    · exact .inl (.inl q)
    · exact (hu b q).imp .inr id
  · rcases q with q | q
    · exact Nat.lt_of_lt_of_le (lc b q) hs
    · exact la b q
  · rcases q with q | q
    · exact (hu b q).imp .inl id
    · exact .inl (.inr q)
  · rcases q with q | q
    · exact la b q
    · exact Nat.lt_of_lt_of_le (lb b q) hs
  · rcases hu b q with q | q
    · exact h.ls b q
    · exact Nat.le_trans h.bel.size q
  · exact h.bel.trans (hk.below h.bel.size h.ls)
end Go.Proofs.YtghnfnieppfhgaaGreat
