/-
  What is proved here: What the function does that catches what is thrown.
  What is proved here: A row of lists of values while it grows.
  What is proved here: The reference tells whether blocks are alike: SameVal, Same, SameAll.
-/
import Derived.Test.YtdnhhmnllhlbbaaGreatDoorPf
import Derived.Defers
import Derived.Recover
import Derived.Test.YtdnhhmnllhlbbaaGreatDoorOvj
import Derived.Test.YtdnhhmnllhlbbaaGreatDoorOsj
import Derived.Test.YtdnhhmnllhlbbaaGreatDoorOnj
import Derived.Test.YtdnhhmnllhlbbaaGreatDoorOh
import Derived.Test.YtdnhhmnllhlbbaaGreatDoorCEa
import Derived.Test.YtdnhhmnllhlbbaaGreatDoorCEb
namespace Go.Proofs.YtdnhhmnllhlbbaaGreatDoor
open Go.RowKit Go.Shelf
set_option linter.unusedVariables false
set_option linter.unusedSimpArgs false
/-- The three results of blockAt in memory. -/
structure Res3 (w : World) (a : Nat) (u v x : Value) : Prop where
  h1 : Blk w a #[u] 28
  h2 : Blk w (a + 1) #[v] 3
  h3 : Blk w (a + 2) #[x] 4
theorem Res3.below {w w' : World} {a : Nat} {u v x : Value} (h : Res3 w a u v x) (hb : Below w.heap.size w w') : Res3 w' a u v x := ⟨h.h1.below hb, h.h2.below hb, h.h3.below hb⟩
theorem Res3.set {w : World} {a : Nat} {u v x : Value} (h : Res3 w a u v x) (u' v' x' : Value) : Res3 (((w.setCell ⟨a, 0, none⟩ u').setCell ⟨a + 1, 0, none⟩ v').setCell ⟨a + 2, 0, none⟩ x') a u' v' x' :=
  ⟨((h.h1.set 0 u').other (by omega) 0 v').other (by omega) 0 x', ((h.h2.other (by omega) 0 u').set 0 v').other (by omega) 0 x', ((h.h3.other (by omega) 0 u').other (by omega) 0 v').set 0 x'⟩
set_option maxRecDepth 100000 in
set_option maxHeartbeats 4000000 in
theorem idle70 (a b c : Addr) (w : World) :
    CallsD Tryz.prog 70 #[.pointer (some a), .pointer (some b), .pointer (some c)] .returning w fun e u' w' => e = .returned (.tuple #[]) ∧ u' = .returning ∧ w' = w := by
  refine callsD_of_wpS Tryz.func70 rfl fun c₀ cs hu => ?_
  apply wpS_seq
  apply wpS_region
  simp [wpOpsS, go_sem, recoverD, hu, Tryz.ntmps70, Exit.thenS]
  refine wpS_of_wp ?_
  simp only [Array.replicate_succ, Array.replicate_zero, List.push_toArray, List.append_toArray, List.nil_append, List.cons_append, List.setIfInBounds_toArray, List.set_cons_zero, List.set_cons_succ]
  go_wp2
  cases c₀
  simp_all [bodyPostS, results, Tryz.results70]
end Go.Proofs.YtdnhhmnllhlbbaaGreatDoor

namespace Go.Proofs.YtdnhhmnllhlbbaaGreatDoor
open Go.RowKit Go.Shelf
set_option linter.unusedVariables false
set_option linter.unusedSimpArgs false
/-- A row of lists of values while it grows: its own block, and those of the lists, lie at F or above. -/
structure Gv (F : Nat) (w : World) (s : Value) (xs : List (List Vl)) : Prop where
  o : ∃ ss : List Value, ss.length = xs.length ∧ Ow w 23 s 1 (ss.map fun x => [x]) ∧ ∀ (j : Nat) (x : List Vl) (sj : Value), xs[j]? = some x → ss[j]? = some sj → SvX (fun b => b < F ∨ s.ownBlock = some b) w sj x
  b : ∀ g, s.ownBlock = some g → F ≤ g
theorem Gv.nil (F : Nat) (w : World) : Gv F w (.slice none 0 0) [] := ⟨⟨[], rfl, ⟨by simp, World.ownsRow_nil _ _ _ _⟩, fun j x sj h => by simp at h⟩, fun g e => by cases e⟩
theorem SvX.move {X Y : Nat → Prop} {w w' : World} {s : Value} {l : List Vl} (h : SvX X w s l) (hs : w.heap.size ≤ w'.heap.size) (hb : ∀ b, b < w.heap.size → ¬ X b → w'.heap[b]? = w.heap[b]?) (hXY : ∀ b, b < w.heap.size → Y b → X b) : SvX Y w' s l := by
  have hc : ∀ b o, b < w.heap.size → ¬ X b → w'.cell? ⟨b, o, none⟩ = w.cell? ⟨b, o, none⟩ := fun b o h1 h2 => World.cell?_of_block (a := ⟨b, o, none⟩) (hb b h1 h2)
  obtain ⟨a, c, e, h⟩ := h
  refine ⟨a, c, e, fun h0 => ?_⟩
  obtain ⟨b, off, e1, e2, e3, e4⟩ := h h0
  refine ⟨b, off, e1, Nat.lt_of_lt_of_le e2 hs, fun q => e3 (hXY b e2 q), fun i v hv => ?_⟩
  obtain ⟨sv, ⟨a', c', f0, f1⟩, f2, f3, f4⟩ := e4 i v hv
  refine ⟨sv, ⟨a', c', f0, fun h0 => ?_⟩, (hc b _ e2 e3).trans f2, (hc b _ e2 e3).trans f3, (hc b _ e2 e3).trans f4⟩
  obtain ⟨b2, off2, g1, g2, g3, g4⟩ := f1 h0
  exact ⟨b2, off2, g1, Nat.lt_of_lt_of_le g2 hs, fun q => g3 (hXY b2 g2 q), fun i x hx => (hc b2 _ g2 g3).trans (g4 i x hx)⟩
theorem Gv.kept {F : Nat} {w w' : World} {s : Value} {xs : List (List Vl)} (g : Gv F w s xs) (k : Kept (fun b => b < F) w w') : Gv F w' s xs := by
  obtain ⟨ss, h1, h2, h3⟩ := g.o
  refine ⟨⟨ss, h1, h2.keep (fun b e => k.block b (h2.lt e) (by have := g.b b e; omega)), fun j x sj hx hs => ?_⟩, g.b⟩
  exact (h3 j x sj hx hs).move k.size (fun b hb hX => k.block b hb (fun q => hX (.inl q))) (fun b _ q => q)
theorem Gv.snoc {F : Nat} {w w' : World} {s s' sj : Value} {xs : List (List Vl)} {x : List Vl} (g : Gv F w s xs) (hF : F ≤ w.heap.size) {ss : List Value} (h1 : ss.length = xs.length) (h3 : ∀ (j : Nat) (x : List Vl) (sj : Value), xs[j]? = some x → ss[j]? = some sj → SvX (fun b => b < F ∨ s.ownBlock = some b) w sj x)
    (hj : SvX (fun b => b < F ∨ s.ownBlock = some b) w sj x) (k1 : Ow w' 23 s' 1 (ss.map (fun x => [x]) ++ [[sj]])) (k2 : w.grownBy w' s.ownBlock) (k3 : ∀ b, s'.ownBlock = some b → s.ownBlock = some b ∨ w.heap.size ≤ b) : Gv F w' s' (xs ++ [x]) := by
  have conv : ∀ sj x, SvX (fun b => b < F ∨ s.ownBlock = some b) w sj x → SvX (fun b => b < F ∨ s'.ownBlock = some b) w' sj x := fun sj x q =>
    q.move k2.size (fun b hb hX => k2.block b hb (fun e => hX (.inr e.symm))) (fun b hb q => by
      rcases q with q | q
      · exact .inl q
      · rcases k3 b q with q | q
        · exact .inr q
        · omega)
  refine ⟨⟨ss ++ [sj], by simp [h1], by rw [List.map_append]; exact k1, fun j y sy hy hs => ?_⟩, fun b e => ?_⟩
  · rcases Nat.lt_trichotomy j xs.length with q | q | q
    · rw [List.getElem?_append_left q] at hy
      rw [List.getElem?_append_left (by omega)] at hs
      exact conv _ _ (h3 j y sy hy hs)
    · subst q
      rw [List.getElem?_append_right (Nat.le_refl _), Nat.sub_self] at hy
      rw [List.getElem?_append_right (by omega), h1, Nat.sub_self] at hs
      simp at hy hs
      subst hy hs
      exact conv _ _ hj
    · rw [List.getElem?_eq_none (by simp; omega)] at hy
      cases hy
  · rcases k3 b e with q | q
    · exact g.b b q
    · omega
theorem Gv.done {F : Nat} {w : World} {s : Value} {xs : List (List Vl)} (g : Gv F w s xs) : SvvX (fun b => b < F) w s xs := by
  obtain ⟨ss, h1, h2, h3⟩ := g.o
  obtain ⟨a, c, rfl, _, _⟩ := h2.shape
  refine ⟨a, c, by rw [List.length_map, h1], fun h0 => ?_⟩
  obtain ⟨c0, hc0⟩ : ∃ c0, ss[0]? = some c0 := ⟨_, List.getElem?_eq_getElem (by omega)⟩
  obtain ⟨b, cap, e1, hb, _, _, _, _⟩ := h2.at (i := 0) (c := [c0]) (by rw [List.getElem?_map, hc0]; rfl)
  injection e1 with e1 _ _
  subst e1
  refine ⟨b, 0, rfl, hb, fun q => by have := g.b b rfl; omega, fun i x hx => ?_⟩
  obtain ⟨ci, hci⟩ : ∃ c0, ss[i]? = some c0 := ⟨_, List.getElem?_eq_getElem (by rw [h1]; exact (List.getElem?_eq_some_iff.1 hx).1)⟩
  obtain ⟨b', cap', e2, _, _, _, hr, _⟩ := h2.at (i := i) (c := [ci]) (by rw [List.getElem?_map, hci]; rfl)
  injection e2 with e2 _ _
  injection e2 with e2
  injection e2 with e2 _ _
  subst e2
  have r0 := hr 0 ci rfl
  exact ⟨ci, (h3 i x ci hx hci).mono (fun b q => .inl q), by simpa using r0⟩
theorem SvvX.mono {X Y : Nat → Prop} {w : World} {s : Value} {ls : List (List Vl)} (h : SvvX X w s ls) (hXY : ∀ b, Y b → X b) : SvvX Y w s ls := by
  obtain ⟨a, c, e, h⟩ := h
  refine ⟨a, c, e, fun h0 => ?_⟩
  obtain ⟨b, off, e1, e2, e3, e4⟩ := h h0
  exact ⟨b, off, e1, e2, fun q => e3 (hXY b q), fun i l hl => by obtain ⟨sv, f1, f2⟩ := e4 i l hl; exact ⟨sv, f1.mono hXY, f2⟩⟩
end Go.Proofs.YtdnhhmnllhlbbaaGreatDoor

namespace Go.Proofs.YtdnhhmnllhlbbaaGreatDoor
open Go.RowKit Go.Shelf
set_option linter.unusedVariables false
set_option linter.unusedSimpArgs false
instance : DecidableEq Vl := fun a b => by cases a; cases b; simp only [Vl.mk.injEq]; infer_instance
theorem vl_eq (x y : Vl) : (x.set = y.set ∧ x.n = y.n ∧ x.s = y.s) ↔ x = y := by cases x; cases y; simp

set_option maxRecDepth 100000 in
set_option maxHeartbeats 4000000 in
theorem sameVal35 {B1 B2 : Nat} {W : World} {s1 s2 : Value} {l1 l2 : List Int} (b1 b2 : Bool) (n1 n2 : Int) (h1 : Si B1 W s1 l1) (h2 : Si B2 W s2 l2) (hz1 : l1.length ≤ 17592186043904) (hz2 : l2.length ≤ 17592186043904) :
    Calls Tryz.prog 35 #[.agg #[.bool b1, .int .i64 n1, s1], .agg #[.bool b2, .int .i64 n2, s2]] W fun e w' => e = .returned (.bool (decide (b1 = b2 ∧ n1 = n2 ∧ l1 = l2))) ∧ Below W.heap.size W w' := by
  obtain ⟨a1, c1, rfl, h1'⟩ := h1
  obtain ⟨a2, c2, rfl, h2'⟩ := h2
  have hbA : Below W.heap.size W ((W.alloc (Obj.cells #[.bool b1, .int .i64 n1, .slice a1 l1.length c1] 36)).alloc (Obj.cells #[.bool b2, .int .i64 n2, .slice a2 l2.length c2] 36)) := ((Below.refl _ W).alloc (Nat.le_refl _) _).alloc (by simp) _
  have k := same61 ((show Si B1 W (.slice a1 l1.length c1) l1 from ⟨_, _, rfl, h1'⟩).below hbA) ((show Si B2 W (.slice a2 l2.length c2) l2 from ⟨_, _, rfl, h2'⟩).below hbA) hz1 hz2
  have HBA : Hid _ := hbA
  clear h1' h2' hbA
  obtain ⟨m1, hm1⟩ : ∃ n, l1.length = n := ⟨_, rfl⟩
  obtain ⟨m2, hm2⟩ : ∃ n, l2.length = n := ⟨_, rfl⟩
  obtain ⟨r, hr⟩ : ∃ r, decide (l1 = l2) = r := ⟨_, rfl⟩
  rw [hm1, hm2, hr] at k
  rw [hm1, hm2] at HBA ⊢
  have HR : Hid (decide (l1 = l2) = r) := hr
  clear hm1 hm2 hr hz1 hz2
  by_cases hb : b1 = b2
  · subst hb
    by_cases hn : n1 = n2
    · subst hn
      go_enter Tryz.func35, Tryz.ntmps35
      cases b1 <;>
      · go_wp2_with fail
        refine k.mono ?_
        rintro e w1 ⟨rfl, hb1⟩
        have HB1 : Hid (Below W.heap.size W w1) := HBA.out.trans (hb1.mono (by simp; omega))
        clear hb1
        go_wp2
        go_ret
        exact ⟨by rw [← HR.out]; simp, HB1.out⟩
    · have hd : (n1 == n2) = false := by simpa using hn
      clear k
      go_enter Tryz.func35, Tryz.ntmps35
      cases b1 <;>
      · go_wp2
        go_ret
        exact ⟨by simp [hn], HBA.out⟩
  · clear k
    go_enter Tryz.func35, Tryz.ntmps35
    cases b1 <;> cases b2 <;> first
    | exact absurd rfl hb
    | (go_wp2
       go_ret
       exact ⟨rfl, HBA.out⟩)
theorem SvX.at {X : Nat → Prop} {W : World} {a : Option Addr} {n c : Nat} {l : List Vl} (h : SvX X W (.slice a n c) l) {i : Nat} {v : Vl} (hv : l[i]? = some v) : ∃ b off a' c', a = some ⟨b, off, none⟩ ∧ b < W.heap.size ∧ Si 0 W (.slice a' v.s.length c') v.s ∧ W.cell? ⟨b, off + i * 3, none⟩ = some (.bool v.set) ∧ W.cell? ⟨b, off + i * 3 + 1, none⟩ = some (.int .i64 v.n) ∧ W.cell? ⟨b, off + i * 3 + 2, none⟩ = some (.slice a' v.s.length c') := by
  obtain ⟨a', c', e, h⟩ := h
  injection e with e1 e2 e3
  obtain ⟨b, off, f1, f2, _, f3⟩ := h (Nat.lt_of_le_of_lt (Nat.zero_le _) (List.getElem?_eq_some_iff.1 hv).1)
  obtain ⟨sv, g1, g2, g3, g4⟩ := f3 i v hv
  obtain ⟨a2, c2, rfl, _⟩ := id g1
  exact ⟨b, off, a2, c2, e1.trans f1, f2, nm_si g1, g2, g3, g4⟩
theorem SvvX.at {X : Nat → Prop} {W : World} {a : Option Addr} {n c : Nat} {l : List (List Vl)} (h : SvvX X W (.slice a n c) l) {i : Nat} {v : List Vl} (hv : l[i]? = some v) : ∃ b off a' c', a = some ⟨b, off, none⟩ ∧ b < W.heap.size ∧ SvX X W (.slice a' v.length c') v ∧ W.cell? ⟨b, off + i, none⟩ = some (.slice a' v.length c') := by
  obtain ⟨a', c', e, h⟩ := h
  injection e with e1 e2 e3
  obtain ⟨b, off, f1, f2, _, f3⟩ := h (Nat.lt_of_le_of_lt (Nat.zero_le _) (List.getElem?_eq_some_iff.1 hv).1)
  obtain ⟨sv, g1, g2⟩ := f3 i v hv
  obtain ⟨a2, c2, rfl, _⟩ := id g1
  exact ⟨b, off, a2, c2, e1.trans f1, f2, g1, g2⟩
/-- What values a list may have. -/
def Lim (xs : List (List Vl)) : Prop := xs.length ≤ 1000000000 ∧ ∀ x ∈ xs, x.length ≤ 1000000000 ∧ ∀ v ∈ x, v.s.length ≤ 17592186043904

set_option maxRecDepth 100000 in
set_option maxHeartbeats 4000000 in
theorem same12 {X Y : Nat → Prop} {W : World} {s1 s2 : Value} {l1 l2 : List (List Vl)} (h1 : SvvX X W s1 l1) (h2 : SvvX Y W s2 l2) (z1 : Lim l1) (z2 : Lim l2) :
    Calls Tryz.prog 12 #[s1, s2] W fun e w' => e = .returned (.bool (decide (l1 = l2))) ∧ Below W.heap.size W w' := by
  obtain ⟨a1, c1, rfl, h1'⟩ := h1
  obtain ⟨a2, c2, rfl, h2'⟩ := h2
  have H1 : Hid (SvvX X W (.slice a1 l1.length c1) l1) := ⟨_, _, rfl, h1'⟩
  have H2 : Hid (SvvX Y W (.slice a2 l2.length c2) l2) := ⟨_, _, rfl, h2'⟩
  have hz1 := z1.1
  have hz2 := z2.1
  have Z1 : Hid (Lim l1) := z1
  have Z2 : Hid (Lim l2) := z2
  clear h1' h2' z1 z2
  obtain ⟨n1, hn1⟩ : ∃ n, l1.length = n := ⟨_, rfl⟩
  obtain ⟨n2, hn2⟩ : ∃ n, l2.length = n := ⟨_, rfl⟩
  rw [hn1] at hz1 H1 ⊢
  rw [hn2] at hz2 H2 ⊢
  have HN : Hid (l1.length = n1 ∧ l2.length = n2) := ⟨hn1, hn2⟩
  clear hn1 hn2
  by_cases hne : n1 = n2
  rotate_left 1
  · have HF : Hid (l1 ≠ l2) := fun e => hne (by rw [← HN.out.1, ← HN.out.2, e])
    have hd : ((n1 : Int) != n2) = true := by simp; omega
    have hd2 : ((n1 : Int) == n2) = false := by simp; omega
    go_enter Tryz.func12, Tryz.ntmps12
    go_wp2
    go_ret
    exact ⟨by simp [HF.out], Below.refl _ _⟩
  subst hne
  go_enter Tryz.func12, Tryz.ntmps12
  go_wp2
  go_loopw [5, 6] (fun i t6 wr => ∃ k : Nat, k ≤ n1 ∧ i = .int .i64 (k : Int) ∧ Hid (l1.take k = l2.take k) ∧ Hid (Below W.heap.size W wr)) (fun i _ _ => n1 - (intOf i).toNat)
  case atStart => exact ⟨0, Nat.zero_le _, rfl, by simp [Hid], Below.refl _ _⟩
  case round =>
    obtain ⟨k, hk, rfl, HQ, HB⟩ := hrel
    by_cases hlt : k < n1
    rotate_left 1
    · have hlt' : ¬ (k : Int) < n1 := by omega
      obtain rfl : k = n1 := by omega
      have HT : Hid (l1 = l2) := take_eq_all HN.out.1 HN.out.2 HQ.out
      go_wp2
      go_ret
      exact ⟨by simp [HT.out], HB.out⟩
    have hlt' : (k : Int) < n1 := by omega
    obtain ⟨x, hx⟩ : ∃ x, l1[k]? = some x := ⟨_, List.getElem?_eq_getElem (by rw [HN.out.1]; exact hlt)⟩
    obtain ⟨y, hy⟩ : ∃ x, l2[k]? = some x := ⟨_, List.getElem?_eq_getElem (by rw [HN.out.2]; exact hlt)⟩
    obtain ⟨b1, o1, xa, xc, rfl, hb1, f1, d1⟩ := H1.out.at hx
    obtain ⟨b2, o2, ya, yc, rfl, hb2, f2, d2⟩ := H2.out.at hy
    have y1 := (HB.out.cell (p := ⟨b1, o1 + k, none⟩) hb1).trans d1
    have y2 := (HB.out.cell (p := ⟨b2, o2 + k, none⟩) hb2).trans d2
    have HS : Hid (l1.take (k + 1) = l2.take (k + 1) ↔ x = y) := take_eq_succ hx hy HQ.out
    have zx := Z1.out.2 x (List.mem_of_getElem? hx)
    have zy := Z2.out.2 y (List.mem_of_getElem? hy)
    obtain ⟨m1, hm1⟩ : ∃ m, x.length = m := ⟨_, rfl⟩
    obtain ⟨m2, hm2⟩ : ∃ m, y.length = m := ⟨_, rfl⟩
    rw [hm1] at f1 d1 y1 zx
    rw [hm2] at f2 d2 y2 zy
    have HF1 : Hid (SvX X W (.slice xa m1 xc) x) := f1
    have HF2 : Hid (SvX Y W (.slice ya m2 yc) y) := f2
    have HZ : Hid ((∀ v ∈ x, v.s.length ≤ 17592186043904) ∧ ∀ v ∈ y, v.s.length ≤ 17592186043904) := ⟨zx.2, zy.2⟩
    have hmz1 := zx.1
    have hmz2 := zy.1
    have HM : Hid (x.length = m1 ∧ y.length = m2) := ⟨hm1, hm2⟩
    have HD1 : Hid (b1 < W.heap.size ∧ W.cell? ⟨b1, o1 + k, none⟩ = some (.slice xa m1 xc)) := ⟨hb1, d1⟩
    have HD2 : Hid (b2 < W.heap.size ∧ W.cell? ⟨b2, o2 + k, none⟩ = some (.slice ya m2 yc)) := ⟨hb2, d2⟩
    have hw2 : IntKind.i64.wrap ((k : Int) + 1) = (k : Int) + 1 := by rw [IntKind.wrap_i64]; omega
    clear f1 f2 d1 d2 hx hy zx zy hm1 hm2 hb1 hb2
    by_cases hme : m1 = m2
    rotate_left 1
    · have HF : Hid (l1 ≠ l2) := fun e => hme (by rw [← HM.out.1, ← HM.out.2, HS.out.1 (by rw [e])])
      have hd : ((m1 : Int) != m2) = true := by simp; omega
      have hd2 : ((m1 : Int) == m2) = false := by simp; omega
      go_wp2
      go_quiet (fail)
      go_wp2
      go_ret
      exact ⟨by simp [HF.out], below_drewN HB.out _⟩
    subst hme
    go_wp2
    go_quiet (fail)
    go_wp2
    obtain ⟨wo, hwo⟩ : ∃ q, wr.drewN nq = q := ⟨_, rfl⟩
    have HBO : Hid (Below W.heap.size W wo) := by rw [← hwo]; exact below_drewN HB.out _
    rw [hwo]
    clear hwo HB y1 y2
    go_loopw [6] (fun t6 wi => ∃ j : Nat, j ≤ m1 ∧ t6 = .int .i64 (j : Int) ∧ Hid (x.take j = y.take j) ∧ Hid (Below W.heap.size W wi)) (fun t6 _ => m1 - (intOf t6).toNat)
    case atStart => exact ⟨0, Nat.zero_le _, rfl, by simp [Hid], HBO.out⟩
    case round =>
      obtain ⟨j, hj, rfl, HR, HBI⟩ := hrel
      have y1 := (HBI.out.cell (p := ⟨b1, o1 + k, none⟩) HD1.out.1).trans HD1.out.2
      have y2 := (HBI.out.cell (p := ⟨b2, o2 + k, none⟩) HD2.out.1).trans HD2.out.2
      by_cases hjl : j < m1
      rotate_left 1
      · have hlt3 : ¬ (j : Int) < m1 := by omega
        obtain rfl : j = m1 := by omega
        have HT : Hid (l1.take (k + 1) = l2.take (k + 1)) := HS.out.2 (take_eq_all HM.out.1 HM.out.2 HR.out)
        go_wp2
        go_roundw
        case rel => exact ⟨k + 1, by omega, by go_num, HT, HBI.out⟩
        case measure => simp [intOf]; omega
      have hlt3 : (j : Int) < m1 := by omega
      obtain ⟨v, hv⟩ : ∃ v, x[j]? = some v := ⟨_, List.getElem?_eq_getElem (by rw [HM.out.1]; exact hjl)⟩
      obtain ⟨u, hu⟩ : ∃ v, y[j]? = some v := ⟨_, List.getElem?_eq_getElem (by rw [HM.out.2]; exact hjl)⟩
      obtain ⟨b3, o3, va, vc, rfl, hb3, g1, p0, p1, p2⟩ := HF1.out.at hv
      obtain ⟨b4, o4, ua, uc, rfl, hb4, g2, r0, r1, r2⟩ := HF2.out.at hu
      have HE : Hid (x.take (j + 1) = y.take (j + 1) ↔ v = u) := take_eq_succ hv hu HR.out
      have KV : Hid (∀ X, Below W.heap.size W X → Calls Tryz.prog 35 #[.agg #[.bool v.set, .int .i64 v.n, .slice va v.s.length vc], .agg #[.bool u.set, .int .i64 u.n, .slice ua u.s.length uc]] X fun e w' => e = .returned (.bool (decide (v.set = u.set ∧ v.n = u.n ∧ v.s = u.s))) ∧ Below X.heap.size X w') := fun X hX => sameVal35 v.set u.set v.n u.n (g1.below hX) (g2.below hX) (HZ.out.1 v (List.mem_of_getElem? hv)) (HZ.out.2 u (List.mem_of_getElem? hu))
      obtain ⟨e, he⟩ : ∃ e, decide (v.set = u.set ∧ v.n = u.n ∧ v.s = u.s) = e := ⟨_, rfl⟩
      rw [he] at KV
      have HEE : Hid (e = true ↔ v = u) := by unfold Hid; rw [← he, decide_eq_true_iff, vl_eq]
      have HP : Hid (b3 < W.heap.size ∧ W.cell? ⟨b3, o3 + j * 3, none⟩ = some (.bool v.set) ∧ W.cell? ⟨b3, o3 + j * 3 + 1, none⟩ = some (.int .i64 v.n) ∧ W.cell? ⟨b3, o3 + j * 3 + 2, none⟩ = some (.slice va v.s.length vc)) := ⟨hb3, p0, p1, p2⟩
      have HRR : Hid (b4 < W.heap.size ∧ W.cell? ⟨b4, o4 + j * 3, none⟩ = some (.bool u.set) ∧ W.cell? ⟨b4, o4 + j * 3 + 1, none⟩ = some (.int .i64 u.n) ∧ W.cell? ⟨b4, o4 + j * 3 + 2, none⟩ = some (.slice ua u.s.length uc)) := ⟨hb4, r0, r1, r2⟩
      have hw3 : IntKind.i64.wrap ((j : Int) + 1) = (j : Int) + 1 := by rw [IntKind.wrap_i64]; omega
      clear hv hu g1 g2 p0 p1 p2 r0 r1 r2 hb3 hb4 he
      go_upto_region 11 with (fail)
      have HP0 : Hid (Below W.heap.size W wr.drew) := HBI.out.drew
      refine wp_region_held_drew (S := (fun X : World => Below W.heap.size W X)) (by kernel_rfl) (HP0.out) (fun hHeld => ?_)
      refine tkI 0 rfl hHeld ?_
      try simp only [Act.put, zS, eZ, eS]
      refine tkI 1 rfl hHeld ?_
      try simp only [Act.put, zS, eZ, eS]
      refine tkI 2 rfl hHeld ?_
      try simp only [Act.put, zS, eZ, eS]
      refine tkI 3 rfl hHeld ?_ (hy := by intro w hSw; have z1 := (hSw.cell (p := ⟨b1, o1 + k, none⟩) HD1.out.1).trans HD1.out.2; go_simp <;> with_reducible rfl)
      try simp only [Act.put, zS, eZ, eS]
      refine tkI 4 rfl hHeld ?_
      try simp only [Act.put, zS, eZ, eS]
      refine tkI 5 rfl hHeld ?_
      try simp only [Act.put, zS, eZ, eS]
      refine tkI 6 rfl hHeld ?_ (hy := by intro w hSw; have q0 := (hSw.cell (p := ⟨b3, o3 + j * 3, none⟩) HP.out.1).trans HP.out.2.1; have q1 := (hSw.cell (p := ⟨b3, o3 + j * 3 + 1, none⟩) HP.out.1).trans HP.out.2.2.1; have q2 := (hSw.cell (p := ⟨b3, o3 + j * 3 + 2, none⟩) HP.out.1).trans HP.out.2.2.2; go_simp <;> with_reducible rfl)
      try simp only [Act.put, zS, eZ, eS]
      refine tkI 7 rfl hHeld ?_
      try simp only [Act.put, zS, eZ, eS]
      refine tkI 8 rfl hHeld ?_
      try simp only [Act.put, zS, eZ, eS]
      refine tkI 9 rfl hHeld ?_
      try simp only [Act.put, zS, eZ, eS]
      refine tkI 10 rfl hHeld ?_ (hy := by intro w hSw; have z2 := (hSw.cell (p := ⟨b2, o2 + k, none⟩) HD2.out.1).trans HD2.out.2; go_simp <;> with_reducible rfl)
      try simp only [Act.put, zS, eZ, eS]
      refine tkI 11 rfl hHeld ?_
      try simp only [Act.put, zS, eZ, eS]
      refine tkI 12 rfl hHeld ?_
      try simp only [Act.put, zS, eZ, eS]
      refine tkI 13 rfl hHeld ?_ (hy := by intro w hSw; have q0 := (hSw.cell (p := ⟨b4, o4 + j * 3, none⟩) HRR.out.1).trans HRR.out.2.1; have q1 := (hSw.cell (p := ⟨b4, o4 + j * 3 + 1, none⟩) HRR.out.1).trans HRR.out.2.2.1; have q2 := (hSw.cell (p := ⟨b4, o4 + j * 3 + 2, none⟩) HRR.out.1).trans HRR.out.2.2.2; go_simp <;> with_reducible rfl)
      try simp only [Act.put, zS, eZ, eS]
      refine rdy 14 rfl fun K hK => ?_
      go_simp
      refine (KV.out _ HP0.out).mono ?_
      rintro e9 w4 ⟨rfl, hb4⟩
      have HB4 : Hid (Below W.heap.size W w4) := HP0.out.trans (hb4.mono HP0.out.size)
      clear hb4
      clear hHeld; refine hK.out _ _ (HB4.out) fun hHeld => ?_
      clear hK K
      try simp only [Act.put, zS, eZ, eS]
      refine tkI 15 rfl hHeld ?_
      try simp only [Act.put, zS, eZ, eS]
      refine wpAnyH_done (by kernel_rfl) ?_ _
      clear hHeld
      cases e
      · have HF : Hid (l1 ≠ l2) := fun q => by
          have h1 := HS.out.1 (by rw [q])
          have h2 := HEE.out.2 (HE.out.1 (by rw [h1]))
          cases h2
        go_wp2
        go_ret
        exact ⟨by simp [HF.out], HB4.out⟩
      · have HT : Hid (x.take (j + 1) = y.take (j + 1)) := HE.out.2 (HEE.out.1 rfl)
        go_wp2
        go_roundw
        case rel => exact ⟨j + 1, by omega, by go_num, HT, HB4.out⟩
        case measure => simp [intOf]; omega
end Go.Proofs.YtdnhhmnllhlbbaaGreatDoor
