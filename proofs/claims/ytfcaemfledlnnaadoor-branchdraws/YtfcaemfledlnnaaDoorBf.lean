/-
  What is proved here: which variable a selector takes: offer, rank, ends.
-/
import Derived.Test.YtfcaemfledlnnaaDoorBe
import Derived.Deep.RegionHeld3
namespace Go.Proofs.YtfcaemfledlnnaaDoor
open Go.RowKit Go.Shelf
set_option linter.unusedVariables false
set_option linter.unusedSimpArgs false

attribute [local go_sem] Oper.semAt_some
/-- The first of those offered whose rank is the least. -/
def offM (b : Int × Int × Bool) (x r : Int) : Int × Int × Bool := if b.2.2 = false ∨ r < b.2.1 then (x, r, true) else b
theorem offM_new {b : Int × Int × Bool} {x r : Int} (h : b.2.2 = false ∨ r < b.2.1) : offM b x r = (x, r, true) := if_pos h
theorem offM_old {b : Int × Int × Bool} {x r : Int} (h : ¬ (b.2.2 = false ∨ r < b.2.1)) : offM b x r = b := if_neg h

set_option maxRecDepth 100000 in
set_option maxHeartbeats 4000000 in
theorem offer_any {W : World} {p : Nat} {i k : Int} {th : Bool} (h : Bx W p #[.int .i64 i, .int .i64 k, .bool th] 65) (x r : Int) : Calls Tryd.prog 24 #[ptr p, .int .i64 x, .int .i64 r] W fun e w' => e = .returned (.tuple #[]) ∧
    Bx w' p #[.int .i64 (offM (i, k, th) x r).1, .int .i64 (offM (i, k, th) x r).2.1, .bool (offM (i, k, th) x r).2.2] 65 ∧ Kept (fun b => b = p) W w' := by
  obtain ⟨z0, z1, z2⟩ := h.three
  have f0 := h.fr 0
  have f1 := h.fr 1
  have f2 := h.fr 2
  have hk : ∀ a b c, Kept (fun b => b = p) W (((W.setCell ⟨p, 0, none⟩ a).setCell ⟨p, 1, none⟩ b).setCell ⟨p, 2, none⟩ c) := fun a b c => Kept.setCell (X := fun b => b = p) (Kept.setCell (X := fun b => b = p) (Kept.set p 0 a) rfl 1 b) rfl 2 c
  have HK : Hid _ := hk
  have H : Hid _ := h
  clear hk h
  cases th
  · rw [offM_new (.inl rfl)]
    go_enter Tryd.func24, Tryd.ntmps24
    go_wp2
    exact ⟨rfl, _, results_none rfl _ _ _, rfl, H.out.set3 _ _ _, HK.out _ _ _⟩
  · by_cases hr : r < k
    · rw [offM_new (.inr hr)]
      have hd : decide (r < k) = true := by simpa using hr
      go_enter Tryd.func24, Tryd.ntmps24
      go_wp2
      exact ⟨rfl, _, results_none rfl _ _ _, rfl, H.out.set3 _ _ _, HK.out _ _ _⟩
    · rw [offM_old (by simpa using hr)]
      have hd : decide (r < k) = false := by simpa using hr
      go_enter Tryd.func24, Tryd.ntmps24
      go_wp2
      exact ⟨rfl, _, results_none rfl _ _ _, rfl, H.out, Kept.refl _ _⟩
/-- What a rank asks. -/
def RankC (how : Int) (f : MD → Int) : Prop := ∀ (X : Nat → Prop) (W : World) (c : List Value) (d : MD), Dc X W c d → Good d → sevB d = true → Calls Tryd.prog 25 #[.int .i64 how, .agg c.toArray] W fun e w' => e = .returned (.int .i64 (f d)) ∧ Below W.heap.size W w'

set_option maxRecDepth 100000 in
set_option maxHeartbeats 4000000 in
theorem rank_none (how : Int) (h1 : how ≠ 1) (h2 : how ≠ 2) (h3 : how ≠ 3) (h4 : how ≠ 4) : RankC how (fun _ => 0) := by
  intro X W c d h hg hs
  obtain ⟨b, ra, n0, rc, a1, n1, c1, a2, n2, c2, x, y, rfl, HE, H1, H2, H3⟩ := h.look
  obtain ⟨W0, hW0⟩ : ∃ Q, W.alloc (Obj.cells #[.bool b, .slice ra n0 rc, .slice a1 n1 c1, .slice a2 n2 c2, .int .i64 x, .int .i64 y] 40) = Q := ⟨_, rfl⟩
  have hb0 : Below W.heap.size W W0 := by rw [← hW0]; exact (Below.refl _ W).alloc (Nat.le_refl _) _
  have HB0 : Hid (Bx W0 W.heap.size #[.bool b, .slice ra n0 rc, .slice a1 n1 c1, .slice a2 n2 c2, .int .i64 x, .int .i64 y] 40) := by rw [← hW0]; exact Bx.new _ _ _
  clear H1 H2 H3 HE hs hg h
  have e1 : (how == 1) = false := by simpa using h1
  have e2 : (how == 2) = false := by simpa using h2
  have e3 : (how == 3) = false := by simpa using h3
  have e4 : (how == 4) = false := by simpa using h4
  have HBB : Hid _ := hb0
  have HWW : Hid _ := hW0
  clear hb0 hW0
  go_enter Tryd.func25, Tryd.ntmps25
  go_wp2
  go_ret
  exact ⟨rfl, by rw [HWW.out]; exact HBB.out⟩

set_option maxRecDepth 100000 in
set_option maxHeartbeats 4000000 in
theorem rank_first : RankC 1 sizM := by
  intro X W c d h hg hs
  obtain ⟨b, ra, n0, rc, a1, n1, c1, a2, n2, c2, x, y, rfl, HE, H1, H2, H3⟩ := h.look
  obtain ⟨W0, hW0⟩ : ∃ Q, W.alloc (Obj.cells #[.bool b, .slice ra n0 rc, .slice a1 n1 c1, .slice a2 n2 c2, .int .i64 x, .int .i64 y] 40) = Q := ⟨_, rfl⟩
  have hb0 : Below W.heap.size W W0 := by rw [← hW0]; exact (Below.refl _ W).alloc (Nat.le_refl _) _
  have HB0 : Hid (Bx W0 W.heap.size #[.bool b, .slice ra n0 rc, .slice a1 n1 c1, .slice a2 n2 c2, .int .i64 x, .int .i64 y] 40) := by rw [← hW0]; exact Bx.new _ _ _
  have ks := ksize_any (h.below hb0) hg
  have HBB : Hid _ := hb0
  have HWW : Hid _ := hW0
  obtain ⟨z0, z1, z2, z3, z4, z5⟩ := HB0.out.six
  clear hb0 hW0 H1 H2 H3 HE hs hg h
  generalize sizM d = q at *
  go_enter Tryd.func25, Tryd.ntmps25
  go_wp2_with fail
  rw [HWW.out]
  go_wp2_with fail
  refine ks.mono ?_
  rintro e w1 ⟨rfl, hb1⟩
  go_wp2
  go_ret
  exact ⟨rfl, HBB.out.trans (hb1.mono HBB.out.size)⟩
/-- Which one is taken of some. -/
def whichM (f : Int → Int) (l : List Int) : Int × Int × Bool := l.foldl (fun b v => offM b v (f v)) (0, 0, false)
theorem whichM_snoc (f : Int → Int) (l : List Int) (k : Nat) (v : Int) (h : l[k]? = some v) : whichM f (l.take (k + 1)) = offM (whichM f (l.take k)) v (f v) := by
  unfold whichM
  rw [List.take_add_one, h]
  simp
theorem Oi.at {B : Nat} {w : World} {v : Value} {l : List Int} (h : Oi B w v l) (h0 : 0 < l.length) : ∃ g c, v = .slice (some ⟨g, 0, none⟩) l.length c ∧ B ≤ g ∧ g < w.heap.size ∧ l.length ≤ c ∧ ∀ i x, l[i]? = some x → w.cell? ⟨g, i, none⟩ = some (.int .i64 x) := by
  rcases h.2 with ⟨e1, e2⟩ | ⟨g, cap, cur, e1, hB, hg, hn, hm, hs, ht⟩
  · omega
  · refine ⟨g, cap, e1, hB, (Array.getElem?_eq_some_iff.1 hg).1, hn, fun i x hx => ?_⟩
    have hi := (List.getElem?_eq_some_iff.1 hx).1
    have hc : w.cell? ⟨g, i, none⟩ = cur[i]? := by simp [World.cell?, hg]
    have h1 : (ivl l)[i]? = some (.int .i64 x) := by simp [ivl, hx]
    rw [← ht, List.getElem?_take, if_pos (by omega), Array.getElem?_toList] at h1
    rw [hc]; exact h1
end Go.Proofs.YtfcaemfledlnnaaDoor
