/-
  What is proved here: what package kinds and store answer of domains of whole numbers: empty, what is in both.
  What is proved here: cells of a box that are read and written.
  What is proved here: what package store makes of domains of whole numbers: narrower, tight, Same, Only.
-/
import Derived.Test.YthkliicmoandmaaGreatDoorKaj
namespace Go.Proofs.YthkliicmoandmaaGreatDoor
open Go.RowKit Go.Shelf
set_option linter.unusedVariables false
set_option linter.unusedSimpArgs false

theorem Tryz.sizeDom : (Tryz.prog.info? 50).map (·.size) = some 6 := by kernel_rfl
theorem Bx.setRow {w : World} {g : Nat} {old : Array Value} {t : TypeId} (h : Bx w g old t) (cs : Array Value) : Bx (w.setRow g cs) g cs t := ⟨setRow_heap w g _ _ t (0, 0) h.h⟩
theorem stD {ops : Array Oper} {rest : List Oper} {o : Oper} {a : Act} {w : World} {Q : Exit → Act → World → Prop} {old : Array Value} (hgd : o.guard = none) (x y : Operand) (ho : o.op = .store 50 x y)
    (g : Nat) (c : List Value) (hx : a.eval x = .pointer (some ⟨g, 0, none⟩)) (hy : a.eval y = .agg c.toArray) (hg : Bx w g old 50) (hold : old.size = 6) (hc : c.length = 6) (h1 : ∀ v ∈ c, v.oneCell' = true)
    (h : wpList Tryz.prog ops Q rest (a.put o.dst undef) (w.setRow g c.toArray)) : wpList Tryz.prog ops Q (o :: rest) a w :=
  wpList_store_row hgd 50 x y ho g _ hx hy 50 _ hg.h (by rw [Tryz.sizeDom]; simp [hc]) (by simp [hold, hc]) (all_oneCell_toArray h1) h
theorem below_row {B g : Nat} {a w : World} (h : Below B a w) (hg : B ≤ g) (cs : Array Value) : Below B a (w.setRow g cs) :=
  h.trans ⟨rfl, rfl, rfl, by simp [World.setRow], fun k hk => setRow_other w g k cs (by omega)⟩
def emptyW (d : MD) : Bool := decide (d.r.length = 0)

set_option maxRecDepth 100000 in
set_option maxHeartbeats 4000000 in
theorem empty_w {X : Nat → Prop} {W : World} {c : List Value} {d : MD} (h : Dc X W c d) (hs : d.set = false) :
    Calls Tryz.prog 128 #[.agg c.toArray] W fun e w' => e = .returned (.bool (emptyW d)) ∧ Below W.heap.size W w' := by
  obtain ⟨b, ra, n0, rc, a1, n1, c1, a2, n2, c2, x, y, rfl, HE, H1, H2, H3⟩ := h.look
  clear h
  obtain rfl : b = false := by rw [← HE.out.1, hs]
  have hM : emptyW d = decide (n0 = 0) := by obtain ⟨_, rfl, _⟩ := HE.out; rfl
  rw [hM]
  clear hM H1 H2 H3 hs HE
  have hb0 : Below W.heap.size W (W.alloc (Obj.cells #[.bool false, .slice ra n0 rc, .slice a1 n1 c1, .slice a2 n2 c2, .int .i64 x, .int .i64 y] 50)) := (Below.refl _ W).alloc (Nat.le_refl _) _
  rcases Nat.eq_zero_or_pos n0 with e1 | e1
  · subst e1
    go_enter Tryz.func128, Tryz.ntmps128
    go_wp2
    go_ret
    exact ⟨ret_bool (by first | rfl | simp), hb0⟩
  · have e1' : ¬ (n0 : Int) = 0 := by omega
    go_enter Tryz.func128, Tryz.ntmps128
    go_wp2
    go_ret
    exact ⟨ret_bool (by rw [Bool.eq_iff_iff]; simp only [beq_iff_eq, decide_eq_true_eq]; omega), hb0⟩
theorem rm_own {X : Nat → Prop} {w : World} {B : Nat} {s : Value} {l : List Dm.Rg} (h : w.ownsRow B 92 2 s l.length (Dm.flat l)) (hX : ∀ b, X b → b < B) : Rm X w s l := by
  rcases h.2 with ⟨e1, e2⟩ | ⟨g, cap, cur, e1, hB, hg, hn, hm, hs, ht⟩
  · exact ⟨none, 0, by rw [e2]; exact e1, fun h0 => by omega⟩
  · refine ⟨_, cap, e1, fun h0 => ⟨g, 0, rfl, (Array.getElem?_eq_some_iff.1 hg).1, fun q => by have := hX g q; omega, fun i hi => ?_⟩⟩
    have hcap : l.length * 2 ≤ cap * 2 := Nat.mul_le_mul_right _ hn
    have key : ∀ j v, (Dm.flat l)[j]? = some v → w.cell? ⟨g, j, none⟩ = some v := fun j v hv => by
      have hj := (List.getElem?_eq_some_iff.1 hv).1
      rw [h.1] at hj
      rw [cell_of_row w g _ cur _ _ hg]
      rw [← ht, List.getElem?_take, if_pos hj, Array.getElem?_toList] at hv
      exact hv
    rw [Nat.zero_add]
    exact ⟨key _ _ ((Dm.flat_even l i hi).1), key _ _ ((Dm.flat_even l i hi).2)⟩
theorem Nm.empty (X : Nat → Prop) (w : World) : Nm X w (.slice none 0 0) [] := ⟨none, 0, rfl, fun h => absurd h (by simp)⟩
end Go.Proofs.YthkliicmoandmaaGreatDoor

namespace Go.Proofs.YthkliicmoandmaaGreatDoor
open Go.RowKit Go.Shelf
set_option linter.unusedVariables false
set_option linter.unusedSimpArgs false

theorem Bx.other {w : World} {g p : Nat} {cs : Array Value} {t : TypeId} (h : Bx w g cs t) (hp : g ≠ p) (o : Nat) (v : Value) : Bx (w.setCell ⟨p, o, none⟩ v) g cs t := ⟨(Below.heap_setCell w ⟨p, o, none⟩ v g hp).trans h.h⟩
theorem Bx.setc {w : World} {g : Nat} {cs : Array Value} {t : TypeId} (h : Bx w g cs t) {o : Nat} (ho : o < cs.size) (v : Value) : Bx (w.setCell ⟨g, o, none⟩ v) g (cs.setIfInBounds o v) t := ⟨heap_setCell_in h.h ho⟩
theorem Bx.set3 {w : World} {g : Nat} {x0 x1 x2 : Value} {t : TypeId} (h : Bx w g #[x0, x1, x2] t) (a b c : Value) : Bx (((w.setCell ⟨g, 0, none⟩ a).setCell ⟨g, 1, none⟩ b).setCell ⟨g, 2, none⟩ c) g #[a, b, c] t := by
  have h1 := ((h.setc (o := 0) (by simp) a).setc (o := 1) (by simp) b).setc (o := 2) (by simp) c
  simpa using h1
theorem Bx.three {w : World} {g : Nat} {x0 x1 x2 : Value} {t : TypeId} (h : Bx w g #[x0, x1, x2] t) : w.cell? ⟨g, 0, none⟩ = some x0 ∧ w.cell? ⟨g, 1, none⟩ = some x1 ∧ w.cell? ⟨g, 2, none⟩ = some x2 := ⟨h.cell 0, h.cell 1, h.cell 2⟩
end Go.Proofs.YthkliicmoandmaaGreatDoor

namespace Go.Proofs.YthkliicmoandmaaGreatDoor
open Go.RowKit Go.Shelf
set_option linter.unusedVariables false
set_option linter.unusedSimpArgs false

theorem Tryz.sizeVal : (Tryz.prog.info? 52).map (·.size) = some 3 := by kernel_rfl
theorem res_ct {fn : Func} {p q : Tmp} {ty : TypeId} (h : fn.results = #[.cell p ty, .tmp q]) (tmps : Array Value) {w : World} {g : Nat} {cs : Array Value} {d : TypeDesc} {t : TypeId} (hg : Bx w g cs t) (hp : tmps.getD p undef = .pointer (some ⟨g, 0, none⟩))
    (hd : d.isRow = true) (hu : Tryz.prog.underlying ty = some d) (hi : (Tryz.prog.info? ty).map (·.size) = some cs.size) {v : Value} (hv : tmps.getD q undef = v) :
    (results fn tmps).run Tryz.prog w = .ok (.tuple #[.agg cs, v]) w := by
  have hp' : tmps[p]?.getD undef = .pointer (some ⟨g, 0, none⟩) := by simpa using hp
  have hv' : tmps[q]?.getD undef = v := by simpa using hv
  have hl := run_loadVar_mid (P := Tryz.prog) w g 0 ty cs.toList d (fun j v hv => by rw [Nat.zero_add, hg.cell j]; simpa using hv) hu hd (by simpa using hi)
  simp [results, h, hp', hv', asAddr, hl]
theorem stV {ops : Array Oper} {rest : List Oper} {o : Oper} {a : Act} {w : World} {Q : Exit → Act → World → Prop} {old : Array Value} (hgd : o.guard = none) (x y : Operand) (ho : o.op = .store 52 x y)
    (g : Nat) (b : Bool) (n : Int) (sp : Option Addr) (sn sc : Nat) (hx : a.eval x = .pointer (some ⟨g, 0, none⟩)) (hy : a.eval y = .agg #[.bool b, .int .i64 n, .slice sp sn sc]) (hg : Bx w g old 52) (hold : old.size = 3)
    (h : wpList Tryz.prog ops Q rest (a.put o.dst undef) (w.setRow g #[.bool b, .int .i64 n, .slice sp sn sc])) : wpList Tryz.prog ops Q (o :: rest) a w :=
  wpList_store_row hgd 52 x y ho g _ hx hy 52 _ hg.h (by rw [Tryz.sizeVal]; rfl) (by simp [hold]) (all_oneCell_toArray (cs := [.bool b, .int .i64 n, .slice sp sn sc]) (by intro v hv; simp only [List.mem_cons, List.not_mem_nil, or_false] at hv; rcases hv with rfl | rfl | rfl <;> rfl)) h
/-- The only value. -/
def onlyW (d : MD) : Int × Bool := if Dm.sizeR (Dm.tk d.r) = 1 then (Dm.lo d.r 0, true) else (0, false)

set_option maxRecDepth 100000 in
set_option maxHeartbeats 4000000 in
theorem only_w {X : Nat → Prop} {W : World} {c : List Value} {d : MD} (h : Dc X W c d) (hs : d.set = false) (hf : Dm.FitsR d.r) :
    Calls Tryz.prog 129 #[.agg c.toArray] W fun e w' => e = .returned (.tuple #[.agg #[.bool false, .int .i64 (onlyW d).1, .slice none 0 0], .bool (onlyW d).2]) ∧ Below W.heap.size W w' := by
  obtain ⟨b, ra, n0, rc, a1, n1, c1, a2, n2, c2, x, y, rfl, HE, H1, H2, H3⟩ := h.look
  clear h
  obtain rfl : b = false := by rw [← HE.out.1, hs]
  obtain ⟨W0, hW0⟩ : ∃ Q, (W.alloc (Obj.cells #[.bool false, .slice ra n0 rc, .slice a1 n1 c1, .slice a2 n2 c2, .int .i64 x, .int .i64 y] 50)).alloc (Obj.cells #[.bool false, .int .i64 0, .slice none 0 0] 52) = Q := ⟨_, rfl⟩
  have hb0 : Below W.heap.size W W0 := by rw [← hW0]; exact (((Below.refl _ W).alloc (Nat.le_refl _) _).alloc (by simp) _)
  have HB0 : Hid (Bx W0 W.heap.size #[.bool false, .slice ra n0 rc, .slice a1 n1 c1, .slice a2 n2 c2, .int .i64 x, .int .i64 y] 50) := by rw [← hW0]; exact (Bx.new _ _ _).alloc _
  have HV0 : Hid (Bx W0 (W.heap.size + 1) #[.bool false, .int .i64 0, .slice none 0 0] 52) := by rw [← hW0]; exact Bx.new' (by simp) _ _
  have kb := Dm.domsize_any _ _ _ (H1.out.kept (Kept.of_below hb0)).sr hf
  have HW0 : Hid _ := hW0
  obtain ⟨sz, hsz⟩ : ∃ z, Dm.sizeR (Dm.tk d.r) = z := ⟨_, rfl⟩
  have HO : Hid (onlyW d = if sz = 1 then (Dm.lo d.r 0, true) else (0, false)) := by rw [← hsz]; exact rfl
  rw [hsz] at kb
  by_cases h1 : sz = 1
  · subst h1
    have hR : 0 < d.r.length := by
      rcases Nat.eq_zero_or_pos d.r.length with e | e
      · have e0 : d.r = [] := List.length_eq_zero_iff.1 e
        rw [e0] at hsz
        have : Dm.sizeR (Dm.tk []) = 0 := by rw [Dm.tk_yes Dm.right_nil]; rfl
        omega
      · exact e
    obtain ⟨a, cp, he, hcell⟩ := (H1.out.kept (Kept.of_below hb0)).sr
    injection he with he1 he2 he3
    subst he1 he3
    obtain ⟨bb, off, rfl, hlt, hc⟩ := hcell hR
    have hc0 := (hc 0 hR).1
    have hc1 : W0.cell? ⟨bb, off, none⟩ = some (.int .i64 (Dm.lo d.r 0)) := by simpa using hc0
    have HC0 : Hid (W0.cell? ⟨bb, off, none⟩ = some (.int .i64 (Dm.lo d.r 0))) := hc1
    clear hc1
    have hn0 : 0 < n0 := by omega
    have hcp : True := trivial
    clear hW0 hc hc0 hcell he2 hsz H2 H3 hs hf
    go_enter Tryz.func129, Tryz.ntmps129
    go_wp2_with fail
    rw [HW0.out]
    refine kb.mono ?_
    clear kb
    rintro e w1 ⟨rfl, hb1⟩
    have HB1 : Hid (Bx w1 W.heap.size _ _) := HB0.out.below hb1
    have HV1 : Hid (Bx w1 (W.heap.size + 1) _ _) := HV0.out.below hb1
    have hcc : w1.cell? ⟨bb, off, none⟩ = some (.int .i64 (Dm.lo d.r 0)) := (hb1.cell (p := ⟨bb, off, none⟩) hlt).trans HC0.out
    obtain ⟨z0, z1, z2, z3, z4, z5⟩ := HB1.out.six
    have hb2 : Below W.heap.size W w1 := hb0.trans (hb1.mono hb0.size)
    go_wp2_with (with_reducible refine stV rfl (.tmp 2) (.tmp 27) rfl (W.heap.size + 1) false (Dm.lo d.r 0) none 0 0 (by with_unfolding_all rfl) (by with_unfolding_all rfl) HV1.out rfl ?_)
    refine ⟨rfl, _, res_ct rfl _ (HV1.out.setRow _) (by with_unfolding_all rfl) rfl Tryz.underlying52 (by rw [Tryz.sizeVal]; rfl) (v := .bool true) (by with_unfolding_all rfl), ?_, below_row hb2 (by omega) _⟩
    rw [HO.out]; rfl
  · have HN1 : Hid (sz ≠ 1) := h1
    have hne : (sz != 1) = true := by simpa using h1
    clear hW0 hsz H1 H2 H3 hs hf HE
    go_enter Tryz.func129, Tryz.ntmps129
    go_wp2_with fail
    rw [HW0.out]
    refine kb.mono ?_
    clear kb
    rintro e w1 ⟨rfl, hb1⟩
    have HV1 : Hid (Bx w1 (W.heap.size + 1) _ _) := HV0.out.below hb1
    have hb2 : Below W.heap.size W w1 := hb0.trans (hb1.mono hb0.size)
    go_wp2_with (with_reducible refine stV rfl (.tmp 2) (.tmp 21) rfl (W.heap.size + 1) false 0 none 0 0 (by with_unfolding_all rfl) (by with_unfolding_all rfl) HV1.out rfl ?_)
    refine ⟨rfl, _, res_ct rfl _ (HV1.out.setRow _) (by with_unfolding_all rfl) rfl Tryz.underlying52 (by rw [Tryz.sizeVal]; rfl) (v := .bool false) (by with_unfolding_all rfl), ?_, below_row hb2 (by omega) _⟩
    rw [HO.out, if_neg HN1.out]
end Go.Proofs.YthkliicmoandmaaGreatDoor
