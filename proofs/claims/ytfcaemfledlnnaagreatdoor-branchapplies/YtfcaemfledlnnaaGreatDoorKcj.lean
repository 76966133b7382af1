/-
  What is proved here: what package kinds answers of domains of whole numbers.
  What is proved here: what package kinds and store answer of domains of whole numbers: empty, what is in both.
  What is proved here: what package store makes of domains of whole numbers: narrower, tight, Same, Only.
  What is proved here: whether a domain of whole numbers has several values; how many it has.
  What is proved here: numbers that come one after another: Left and Next, of package branch and of the reference.
-/
import Derived.Test.YtfcaemfledlnnaaGreatDoorKa
namespace Go.Proofs.YtfcaemfledlnnaaGreatDoor
open Go.RowKit Go.Shelf
set_option linter.unusedVariables false
set_option linter.unusedSimpArgs false

theorem ret_bool {a b : Bool} (h : a = b) : Ending.returned (.bool a) = .returned (.bool b) := by rw [h]
theorem ret_int {a b : Int} (h : a = b) : Ending.returned (.int .i64 a) = .returned (.int .i64 b) := by rw [h]
theorem bcell {W w1 : World} (hb : Below W.heap.size W w1) : (∀ b o, b < W.heap.size → w1.cell? ⟨b, o, none⟩ = W.cell? ⟨b, o, none⟩) ∧ (∀ b o, b < W.heap.size → w1.frozen? ⟨b, o, none⟩ = W.frozen? ⟨b, o, none⟩) :=
  ⟨fun b o h => hb.cell (p := ⟨b, o, none⟩) h, fun b o h => hb.frozen (p := ⟨b, o, none⟩) h⟩
/-- A block with its cells. -/
structure Bx (w : World) (g : Nat) (cs : Array Value) (t : TypeId) : Prop where
  h : w.heap[g]? = some (.cells cs t (0, 0))
theorem Bx.lt {w : World} {g : Nat} {cs : Array Value} {t : TypeId} (h : Bx w g cs t) : g < w.heap.size := (Array.getElem?_eq_some_iff.1 h.h).1
theorem Bx.below {w w' : World} {g : Nat} {cs : Array Value} {t : TypeId} (h : Bx w g cs t) (hb : Below w.heap.size w w') : Bx w' g cs t := ⟨(hb.block g h.lt).trans h.h⟩
theorem Bx.kept {X : Nat → Prop} {w w' : World} {g : Nat} {cs : Array Value} {t : TypeId} (h : Bx w g cs t) (hb : Kept X w w') (hX : ¬ X g) : Bx w' g cs t := ⟨(hb.block g h.lt hX).trans h.h⟩
theorem Bx.new (w : World) (cs : Array Value) (t : TypeId) : Bx (w.alloc (.cells cs t)) w.heap.size cs t := ⟨World.alloc_heap_new w _⟩
theorem Bx.new' {w : World} {n : Nat} (hn : w.heap.size = n) (cs : Array Value) (t : TypeId) : Bx (w.alloc (.cells cs t)) n cs t := by subst hn; exact ⟨World.alloc_heap_new w _⟩
theorem Bx.alloc {w : World} {g : Nat} {cs : Array Value} {t : TypeId} (h : Bx w g cs t) (o : Obj) : Bx (w.alloc o) g cs t := ⟨(Below.heap_alloc _ _ _ h.lt).trans h.h⟩
theorem Bx.drew {w : World} {g : Nat} {cs : Array Value} {t : TypeId} (h : Bx w g cs t) (n : Nat) : Bx (w.drewN n) g cs t := ⟨h.h⟩
theorem Bx.cell {w : World} {g : Nat} {cs : Array Value} {t : TypeId} (h : Bx w g cs t) (j : Nat) : w.cell? ⟨g, j, none⟩ = cs[j]? := cell_of_row w g j cs t (0, 0) h.h
theorem Bx.fr {w : World} {g : Nat} {cs : Array Value} {t : TypeId} (h : Bx w g cs t) (j : Nat) : w.frozen? ⟨g, j, none⟩ = false := by simp [World.frozen?, h.h]
theorem Bx.six {w : World} {g : Nat} {x0 x1 x2 x3 x4 x5 : Value} {t : TypeId} (h : Bx w g #[x0, x1, x2, x3, x4, x5] t) :
    w.cell? ⟨g, 0, none⟩ = some x0 ∧ w.cell? ⟨g, 1, none⟩ = some x1 ∧ w.cell? ⟨g, 2, none⟩ = some x2 ∧ w.cell? ⟨g, 3, none⟩ = some x3 ∧ w.cell? ⟨g, 4, none⟩ = some x4 ∧ w.cell? ⟨g, 5, none⟩ = some x5 := ⟨h.cell 0, h.cell 1, h.cell 2, h.cell 3, h.cell 4, h.cell 5⟩
/-- What the cells of a domain look like. -/
theorem Dc.look {X : Nat → Prop} {w : World} {c : List Value} {d : MD} (h : Dc X w c d) : ∃ b ra n0 rc a1 n1 c1 a2 n2 c2 x y, c = [.bool b, .slice ra n0 rc, .slice a1 n1 c1, .slice a2 n2 c2, .int .i64 x, .int .i64 y] ∧
    Hid (d.set = b ∧ d.r.length = n0 ∧ d.lo.length = n1 ∧ d.up.length = n2 ∧ d.least = x ∧ d.most = y) ∧ Hid (Rm X w (.slice ra n0 rc) d.r) ∧ Hid (Nm X w (.slice a1 n1 c1) d.lo) ∧ Hid (Nm X w (.slice a2 n2 c2) d.up) := by
  obtain ⟨ra, rc, a1, c1, a2, c2, e, h1, h2, h3⟩ := h
  exact ⟨_, _, _, _, _, _, _, _, _, _, _, _, e, ⟨rfl, rfl, rfl, rfl, rfl, rfl⟩, h1, h2, h3⟩
def rightW (d : MD) : Bool := Dm.rightB d.r && decide (d.lo.length = 0) && decide (d.up.length = 0) && decide (d.least = 0) && decide (d.most = 0)

set_option maxRecDepth 100000 in
set_option maxHeartbeats 4000000 in
theorem right_w {X : Nat → Prop} {W : World} {c : List Value} {d : MD} (h : Dc X W c d) (hs : d.set = false) (hf : Dm.FitsR d.r) :
    Calls Tryz.prog 48 #[.agg c.toArray] W fun e w' => e = .returned (.bool (rightW d)) ∧ Below W.heap.size W w' := by
  obtain ⟨b, ra, n0, rc, a1, n1, c1, a2, n2, c2, x, y, rfl, HE, H1, H2, H3⟩ := h.look
  clear h
  obtain rfl : b = false := by rw [← HE.out.1, hs]
  obtain ⟨W0, hW0⟩ : ∃ Q, W.alloc (Obj.cells #[.bool false, .slice ra n0 rc, .slice a1 n1 c1, .slice a2 n2 c2, .int .i64 x, .int .i64 y] 50) = Q := ⟨_, rfl⟩
  have hb0 : Below W.heap.size W W0 := by rw [← hW0]; exact (Below.refl _ W).alloc (Nat.le_refl _) _
  have HB0 : Hid (Bx W0 W.heap.size #[.bool false, .slice ra n0 rc, .slice a1 n1 c1, .slice a2 n2 c2, .int .i64 x, .int .i64 y] 50) := by rw [← hW0]; exact Bx.new _ _ _
  have kr := Dm.right_any _ _ _ (H1.out.kept (Kept.of_below hb0)).sr hf
  have hM : rightW d = (Dm.rightB d.r && decide (n1 = 0) && decide (n2 = 0) && decide (x = 0) && decide (y = 0)) := by
    obtain ⟨_, _, rfl, rfl, rfl, rfl⟩ := HE.out; rfl
  rw [hM]
  clear hM H1 H2 H3 hf hs HE
  have HW0 : Hid _ := hW0
  clear hW0
  cases hR : Dm.rightB d.r
  · rw [hR] at kr
    go_enter Tryz.func48, Tryz.ntmps48
    go_wp2_with fail
    rw [HW0.out]
    refine kr.mono ?_
    rintro e w1 ⟨rfl, hb1⟩
    go_wp2
    go_ret
    exact ⟨ret_bool (by simp), hb0.trans (hb1.mono hb0.size)⟩
  · rw [hR] at kr
    rcases Nat.eq_zero_or_pos n1 with e1 | e1
    · rcases Nat.eq_zero_or_pos n2 with e2 | e2
      · by_cases e3 : x = 0
        · subst e1 e2 e3
          by_cases e4 : y = 0
          · subst e4
            go_enter Tryz.func48, Tryz.ntmps48
            go_wp2_with fail
            rw [HW0.out]
            refine kr.mono ?_
            rintro e w1 ⟨rfl, hb1⟩
            obtain ⟨z0, z1, z2, z3, z4, z5⟩ := (HB0.out.below hb1).six
            go_wp2
            go_ret
            exact ⟨ret_bool (by simp), hb0.trans (hb1.mono hb0.size)⟩
          · go_enter Tryz.func48, Tryz.ntmps48
            go_wp2_with fail
            rw [HW0.out]
            refine kr.mono ?_
            rintro e w1 ⟨rfl, hb1⟩
            obtain ⟨z0, z1, z2, z3, z4, z5⟩ := (HB0.out.below hb1).six
            go_wp2
            go_ret
            exact ⟨ret_bool (by simp [e4]), hb0.trans (hb1.mono hb0.size)⟩
        · subst e1 e2
          go_enter Tryz.func48, Tryz.ntmps48
          go_wp2_with fail
          rw [HW0.out]
          refine kr.mono ?_
          rintro e w1 ⟨rfl, hb1⟩
          obtain ⟨z0, z1, z2, z3, z4, z5⟩ := (HB0.out.below hb1).six
          go_wp2
          go_ret
          exact ⟨ret_bool (by simp [e3]), hb0.trans (hb1.mono hb0.size)⟩
      · have e2' : ¬ (n2 : Int) = 0 := by omega
        subst e1
        go_enter Tryz.func48, Tryz.ntmps48
        go_wp2_with fail
        rw [HW0.out]
        refine kr.mono ?_
        rintro e w1 ⟨rfl, hb1⟩
        obtain ⟨z0, z1, z2, z3, z4, z5⟩ := (HB0.out.below hb1).six
        go_wp2
        go_ret
        exact ⟨ret_bool (by simp; omega), hb0.trans (hb1.mono hb0.size)⟩
    · have e1' : ¬ (n1 : Int) = 0 := by omega
      go_enter Tryz.func48, Tryz.ntmps48
      go_wp2_with fail
      rw [HW0.out]
      refine kr.mono ?_
      rintro e w1 ⟨rfl, hb1⟩
      obtain ⟨z0, z1, z2, z3, z4, z5⟩ := (HB0.out.below hb1).six
      go_wp2
      go_ret
      exact ⟨ret_bool (by simp; omega), hb0.trans (hb1.mono hb0.size)⟩
end Go.Proofs.YtfcaemfledlnnaaGreatDoor

namespace Go.Proofs.YtfcaemfledlnnaaGreatDoor
open Go.RowKit Go.Shelf
set_option linter.unusedVariables false
set_option linter.unusedSimpArgs false

theorem Tryz.sizeDom : (Tryz.prog.info? 50).map (·.size) = some 6 := by kernel_rfl
theorem Bx.setRow {w : World} {g : Nat} {old : Array Value} {t : TypeId} (h : Bx w g old t) (cs : Array Value) : Bx (w.setRow g cs) g cs t := ⟨setRow_heap w g _ _ t (0, 0) h.h⟩
theorem Bx.setRow_ne {w : World} {g k : Nat} {cs : Array Value} {t : TypeId} (h : Bx w k cs t) (hk : k ≠ g) (c : Array Value) : Bx (w.setRow g c) k cs t := ⟨(setRow_other w g k c hk).trans h.h⟩
theorem six_one (b : Bool) (p0 : Option Addr) (m0 k0 : Nat) (p1 : Option Addr) (m1 k1 : Nat) (p2 : Option Addr) (m2 k2 : Nat) (i j : Int) : ∀ v ∈ [Value.bool b, .slice p0 m0 k0, .slice p1 m1 k1, .slice p2 m2 k2, .int .i64 i, .int .i64 j], v.oneCell' = true := by
  intro v hv
  simp only [List.mem_cons, List.not_mem_nil, or_false] at hv
  rcases hv with rfl | rfl | rfl | rfl | rfl | rfl <;> rfl
theorem stD {ops : Array Oper} {rest : List Oper} {o : Oper} {a : Act} {w : World} {Q : Exit → Act → World → Prop} {old : Array Value} (hgd : o.guard = none) (x y : Operand) (ho : o.op = .store 50 x y)
    (g : Nat) (c : List Value) (hx : a.eval x = .pointer (some ⟨g, 0, none⟩)) (hy : a.eval y = .agg c.toArray) (hg : Bx w g old 50) (hold : old.size = 6) (hc : c.length = 6) (h1 : ∀ v ∈ c, v.oneCell' = true)
    (h : wpList Tryz.prog ops Q rest (a.put o.dst undef) (w.setRow g c.toArray)) : wpList Tryz.prog ops Q (o :: rest) a w :=
  wpList_store_row hgd 50 x y ho g _ hx hy 50 _ hg.h (by rw [Tryz.sizeDom]; simp [hc]) (by simp [hold, hc]) (all_oneCell_toArray h1) h
theorem resD {fn : Func} {p : Tmp} (hf : fn.results = #[.cell p 50]) (tmps : Array Value) {w : World} {g : Nat} {c : List Value} (h : Bx w g c.toArray 50) (hc : c.length = 6) (hp : tmps.getD p undef = .pointer (some ⟨g, 0, none⟩)) :
    (results fn tmps).run Tryz.prog w = .ok (.agg c.toArray) w := results_cell_row hf tmps w g 50 _ (0, 0) _ hp h.h Tryz.underlying50 rfl (by rw [Tryz.sizeDom]; simp [hc])
theorem below_row {B g : Nat} {a w : World} (h : Below B a w) (hg : B ≤ g) (cs : Array Value) : Below B a (w.setRow g cs) :=
  h.trans ⟨rfl, rfl, rfl, by simp [World.setRow], fun k hk => setRow_other w g k cs (by omega)⟩
def emptyW (d : MD) : Bool := decide (d.r.length = 0)

set_option maxRecDepth 100000 in
set_option maxHeartbeats 4000000 in
theorem empty_w {X : Nat → Prop} {W : World} {c : List Value} {d : MD} (h : Dc X W c d) (hs : d.set = false) :
    Calls Tryz.prog 128 #[.agg c.toArray] W fun e w' => e = .returned (.bool (emptyW d)) ∧ Below W.heap.size W w' := by
  obtain ⟨b, ra, n0, rc, a1, n1, c1, a2, n2, c2, x, y, rfl, HE, H1, H2, H3⟩ := h.look
  clear h
  obtain rfl : b = false := by rw [← HE.out.1, hs]
  have hM : emptyW d = decide (n0 = 0) := by obtain ⟨_, rfl, _⟩ := HE.out; rfl
  rw [hM]
  clear hM H1 H2 H3 hs HE
  have hb0 : Below W.heap.size W (W.alloc (Obj.cells #[.bool false, .slice ra n0 rc, .slice a1 n1 c1, .slice a2 n2 c2, .int .i64 x, .int .i64 y] 50)) := (Below.refl _ W).alloc (Nat.le_refl _) _
  rcases Nat.eq_zero_or_pos n0 with e1 | e1
  · subst e1
    go_enter Tryz.func128, Tryz.ntmps128
    go_wp2
    go_ret
    exact ⟨ret_bool (by first | rfl | simp), hb0⟩
  · have e1' : ¬ (n0 : Int) = 0 := by omega
    go_enter Tryz.func128, Tryz.ntmps128
    go_wp2
    go_ret
    exact ⟨ret_bool (by rw [Bool.eq_iff_iff]; simp only [beq_iff_eq, decide_eq_true_eq]; omega), hb0⟩
theorem rm_own {X : Nat → Prop} {w : World} {B : Nat} {s : Value} {l : List Dm.Rg} (h : w.ownsRow B 92 2 s l.length (Dm.flat l)) (hX : ∀ b, X b → b < B) : Rm X w s l := by
  rcases h.2 with ⟨e1, e2⟩ | ⟨g, cap, cur, e1, hB, hg, hn, hm, hs, ht⟩
  · exact ⟨none, 0, by rw [e2]; exact e1, fun h0 => by omega⟩
  · refine ⟨_, cap, e1, fun h0 => ⟨g, 0, rfl, (Array.getElem?_eq_some_iff.1 hg).1, fun q => by have := hX g q; omega, fun i hi => ?_⟩⟩
    have hcap : l.length * 2 ≤ cap * 2 := Nat.mul_le_mul_right _ hn
    have key : ∀ j v, (Dm.flat l)[j]? = some v → w.cell? ⟨g, j, none⟩ = some v := fun j v hv => by
      have hj := (List.getElem?_eq_some_iff.1 hv).1
      rw [h.1] at hj
      rw [cell_of_row w g _ cur _ _ hg]
      rw [← ht, List.getElem?_take, if_pos hj, Array.getElem?_toList] at hv
      exact hv
    rw [Nat.zero_add]
    exact ⟨key _ _ ((Dm.flat_even l i hi).1), key _ _ ((Dm.flat_even l i hi).2)⟩
theorem Nm.empty (X : Nat → Prop) (w : World) : Nm X w (.slice none 0 0) [] := ⟨none, 0, rfl, fun h => absurd h (by simp)⟩
end Go.Proofs.YtfcaemfledlnnaaGreatDoor

namespace Go.Proofs.YtfcaemfledlnnaaGreatDoor
open Go.RowKit Go.Shelf
set_option linter.unusedVariables false
set_option linter.unusedSimpArgs false

theorem Tryz.sizeVal : (Tryz.prog.info? 52).map (·.size) = some 3 := by kernel_rfl
theorem res_ct {fn : Func} {p q : Tmp} {ty : TypeId} (h : fn.results = #[.cell p ty, .tmp q]) (tmps : Array Value) {w : World} {g : Nat} {cs : Array Value} {d : TypeDesc} {t : TypeId} (hg : Bx w g cs t) (hp : tmps.getD p undef = .pointer (some ⟨g, 0, none⟩))
    (hd : d.isRow = true) (hu : Tryz.prog.underlying ty = some d) (hi : (Tryz.prog.info? ty).map (·.size) = some cs.size) {v : Value} (hv : tmps.getD q undef = v) :
    (results fn tmps).run Tryz.prog w = .ok (.tuple #[.agg cs, v]) w := by
  have hp' : tmps[p]?.getD undef = .pointer (some ⟨g, 0, none⟩) := by simpa using hp
  have hv' : tmps[q]?.getD undef = v := by simpa using hv
  have hl := run_loadVar_mid (P := Tryz.prog) w g 0 ty cs.toList d (fun j v hv => by rw [Nat.zero_add, hg.cell j]; simpa using hv) hu hd (by simpa using hi)
  simp [results, h, hp', hv', asAddr, hl]
theorem stV {ops : Array Oper} {rest : List Oper} {o : Oper} {a : Act} {w : World} {Q : Exit → Act → World → Prop} {old : Array Value} (hgd : o.guard = none) (x y : Operand) (ho : o.op = .store 52 x y)
    (g : Nat) (b : Bool) (n : Int) (sp : Option Addr) (sn sc : Nat) (hx : a.eval x = .pointer (some ⟨g, 0, none⟩)) (hy : a.eval y = .agg #[.bool b, .int .i64 n, .slice sp sn sc]) (hg : Bx w g old 52) (hold : old.size = 3)
    (h : wpList Tryz.prog ops Q rest (a.put o.dst undef) (w.setRow g #[.bool b, .int .i64 n, .slice sp sn sc])) : wpList Tryz.prog ops Q (o :: rest) a w :=
  wpList_store_row hgd 52 x y ho g _ hx hy 52 _ hg.h (by rw [Tryz.sizeVal]; rfl) (by simp [hold]) (all_oneCell_toArray (cs := [.bool b, .int .i64 n, .slice sp sn sc]) (by intro v hv; simp only [List.mem_cons, List.not_mem_nil, or_false] at hv; rcases hv with rfl | rfl | rfl <;> rfl)) h
/-- The only value. -/
def onlyW (d : MD) : Int × Bool := if Dm.sizeR (Dm.tk d.r) = 1 then (Dm.lo d.r 0, true) else (0, false)

set_option maxRecDepth 100000 in
set_option maxHeartbeats 4000000 in
theorem only_w {X : Nat → Prop} {W : World} {c : List Value} {d : MD} (h : Dc X W c d) (hs : d.set = false) (hf : Dm.FitsR d.r) :
    Calls Tryz.prog 129 #[.agg c.toArray] W fun e w' => e = .returned (.tuple #[.agg #[.bool false, .int .i64 (onlyW d).1, .slice none 0 0], .bool (onlyW d).2]) ∧ Below W.heap.size W w' := by
  obtain ⟨b, ra, n0, rc, a1, n1, c1, a2, n2, c2, x, y, rfl, HE, H1, H2, H3⟩ := h.look
  clear h
  obtain rfl : b = false := by rw [← HE.out.1, hs]
  obtain ⟨W0, hW0⟩ : ∃ Q, (W.alloc (Obj.cells #[.bool false, .slice ra n0 rc, .slice a1 n1 c1, .slice a2 n2 c2, .int .i64 x, .int .i64 y] 50)).alloc (Obj.cells #[.bool false, .int .i64 0, .slice none 0 0] 52) = Q := ⟨_, rfl⟩
  have hb0 : Below W.heap.size W W0 := by rw [← hW0]; exact (((Below.refl _ W).alloc (Nat.le_refl _) _).alloc (by simp) _)
  have HB0 : Hid (Bx W0 W.heap.size #[.bool false, .slice ra n0 rc, .slice a1 n1 c1, .slice a2 n2 c2, .int .i64 x, .int .i64 y] 50) := by rw [← hW0]; exact (Bx.new _ _ _).alloc _
  have HV0 : Hid (Bx W0 (W.heap.size + 1) #[.bool false, .int .i64 0, .slice none 0 0] 52) := by rw [← hW0]; exact Bx.new' (by simp) _ _
  have kb := Dm.domsize_any _ _ _ (H1.out.kept (Kept.of_below hb0)).sr hf
  have HW0 : Hid _ := hW0
  obtain ⟨sz, hsz⟩ : ∃ z, Dm.sizeR (Dm.tk d.r) = z := ⟨_, rfl⟩
  have HO : Hid (onlyW d = if sz = 1 then (Dm.lo d.r 0, true) else (0, false)) := by rw [← hsz]; exact rfl
  rw [hsz] at kb
  by_cases h1 : sz = 1
  · subst h1
    have hR : 0 < d.r.length := by
      rcases Nat.eq_zero_or_pos d.r.length with e | e
      · have e0 : d.r = [] := List.length_eq_zero_iff.1 e
        rw [e0] at hsz
        have : Dm.sizeR (Dm.tk []) = 0 := by rw [Dm.tk_yes Dm.right_nil]; rfl
        omega
      · exact e
    obtain ⟨a, cp, he, hcell⟩ := (H1.out.kept (Kept.of_below hb0)).sr
    injection he with he1 he2 he3
    subst he1 he3
    obtain ⟨bb, off, rfl, hlt, hc⟩ := hcell hR
    have hc0 := (hc 0 hR).1
    have hc1 : W0.cell? ⟨bb, off, none⟩ = some (.int .i64 (Dm.lo d.r 0)) := by simpa using hc0
    have HC0 : Hid (W0.cell? ⟨bb, off, none⟩ = some (.int .i64 (Dm.lo d.r 0))) := hc1
    clear hc1
    have hn0 : 0 < n0 := by omega
    have hcp : True := trivial
    clear hW0 hc hc0 hcell he2 hsz H2 H3 hs hf
    go_enter Tryz.func129, Tryz.ntmps129
    go_wp2_with fail
    rw [HW0.out]
    refine kb.mono ?_
    clear kb
    rintro e w1 ⟨rfl, hb1⟩
    have HB1 : Hid (Bx w1 W.heap.size _ _) := HB0.out.below hb1
    have HV1 : Hid (Bx w1 (W.heap.size + 1) _ _) := HV0.out.below hb1
    have hcc : w1.cell? ⟨bb, off, none⟩ = some (.int .i64 (Dm.lo d.r 0)) := (hb1.cell (p := ⟨bb, off, none⟩) hlt).trans HC0.out
    obtain ⟨z0, z1, z2, z3, z4, z5⟩ := HB1.out.six
    have hb2 : Below W.heap.size W w1 := hb0.trans (hb1.mono hb0.size)
    go_wp2_with (with_reducible refine stV rfl (.tmp 2) (.tmp 27) rfl (W.heap.size + 1) false (Dm.lo d.r 0) none 0 0 (by with_unfolding_all rfl) (by with_unfolding_all rfl) HV1.out rfl ?_)
    refine ⟨rfl, _, res_ct rfl _ (HV1.out.setRow _) (by with_unfolding_all rfl) rfl Tryz.underlying52 (by rw [Tryz.sizeVal]; rfl) (v := .bool true) (by with_unfolding_all rfl), ?_, below_row hb2 (by omega) _⟩
    rw [HO.out]; rfl
  · have HN1 : Hid (sz ≠ 1) := h1
    have hne : (sz != 1) = true := by simpa using h1
    clear hW0 hsz H1 H2 H3 hs hf HE
    go_enter Tryz.func129, Tryz.ntmps129
    go_wp2_with fail
    rw [HW0.out]
    refine kb.mono ?_
    clear kb
    rintro e w1 ⟨rfl, hb1⟩
    have HV1 : Hid (Bx w1 (W.heap.size + 1) _ _) := HV0.out.below hb1
    have hb2 : Below W.heap.size W w1 := hb0.trans (hb1.mono hb0.size)
    go_wp2_with (with_reducible refine stV rfl (.tmp 2) (.tmp 21) rfl (W.heap.size + 1) false 0 none 0 0 (by with_unfolding_all rfl) (by with_unfolding_all rfl) HV1.out rfl ?_)
    refine ⟨rfl, _, res_ct rfl _ (HV1.out.setRow _) (by with_unfolding_all rfl) rfl Tryz.underlying52 (by rw [Tryz.sizeVal]; rfl) (v := .bool false) (by with_unfolding_all rfl), ?_, below_row hb2 (by omega) _⟩
    rw [HO.out, if_neg HN1.out]
end Go.Proofs.YtfcaemfledlnnaaGreatDoor

namespace Go.Proofs.YtfcaemfledlnnaaGreatDoor
open Go.RowKit Go.Shelf
set_option linter.unusedVariables false
set_option linter.unusedSimpArgs false

/-- Of what is spoken here. -/
def Good (d : MD) : Prop := d.set = false ∧ Dm.FitsR d.r
def sevB (d : MD) : Bool := rightW d && !emptyW d && !(onlyW d).2
def sizM (d : MD) : Int := Dm.sizeR (Dm.tk d.r)
theorem Bx.val {w : World} {g : Nat} {x0 x1 x2 : Value} {t : TypeId} (h : Bx w g #[x0, x1, x2] t) : w.cell? ⟨g, 0, none⟩ = some x0 ∧ w.cell? ⟨g, 1, none⟩ = some x1 ∧ w.cell? ⟨g, 2, none⟩ = some x2 := ⟨h.cell 0, h.cell 1, h.cell 2⟩

set_option maxRecDepth 100000 in
set_option maxHeartbeats 4000000 in
theorem several_any {X : Nat → Prop} {W : World} {c : List Value} {d : MD} (h : Dc X W c d) (hg : Good d) :
    Calls Tryz.prog 90 #[.agg c.toArray] W fun e w' => e = .returned (.bool (sevB d)) ∧ Below W.heap.size W w' := by
  have h00 := h
  obtain ⟨b, ra, n0, rc, a1, n1, c1, a2, n2, c2, x, y, rfl, HE, H1, H2, H3⟩ := h.look
  obtain rfl : b = false := by rw [← HE.out.1, hg.1]
  obtain ⟨W0, hW0⟩ : ∃ Q, W.alloc (Obj.cells #[.bool false, .slice ra n0 rc, .slice a1 n1 c1, .slice a2 n2 c2, .int .i64 x, .int .i64 y] 50) = Q := ⟨_, rfl⟩
  have hb0 : Below W.heap.size W W0 := by rw [← hW0]; exact (Below.refl _ W).alloc (Nat.le_refl _) _
  have HB0 : Hid (Bx W0 W.heap.size #[.bool false, .slice ra n0 rc, .slice a1 n1 c1, .slice a2 n2 c2, .int .i64 x, .int .i64 y] 50) := by rw [← hW0]; exact Bx.new _ _ _
  have kr := right_w (h00.below hb0) hg.1 hg.2
  have ke := fun (w : World) (hb : Below W0.heap.size W0 w) => empty_w ((h00.below hb0).below hb) hg.1
  have ko := fun (w : World) (hb : Below W0.heap.size W0 w) => only_w ((h00.below hb0).below hb) hg.1 hg.2
  have HS : Hid (sevB d = (rightW d && !emptyW d && !(onlyW d).2)) := rfl
  rw [HS.out]
  have HKE : Hid _ := ke
  have HKO : Hid _ := ko
  have HW0 : Hid _ := hW0
  clear hW0 h h00 H1 H2 H3 HE HS ke ko hg
  obtain ⟨z0, z1, z2, z3, z4, z5⟩ := HB0.out.six
  cases hR : rightW d
  · rw [hR] at kr
    go_enter Tryz.func90, Tryz.ntmps90
    go_wp2_with fail
    rw [HW0.out]
    go_wp2_with fail
    refine kr.mono ?_
    rintro e w1 ⟨rfl, hb1⟩
    go_wp2
    go_ret
    exact ⟨ret_bool (by simp), hb0.trans (hb1.mono hb0.size)⟩
  · rw [hR] at kr
    cases hE : emptyW d
    · obtain ⟨ov, ob, hO⟩ : ∃ a b, onlyW d = (a, b) := ⟨_, _, rfl⟩
      cases ob <;>
      · go_enter Tryz.func90, Tryz.ntmps90
        go_wp2_with fail
        rw [HW0.out]
        go_wp2_with fail
        refine kr.mono ?_
        rintro e w1 ⟨rfl, hb1⟩
        have HB1 : Hid (Bx w1 W.heap.size _ _) := HB0.out.below hb1
        have ke1 := HKE.out w1 hb1
        rw [hE] at ke1
        clear z0 z1 z2 z3 z4 z5
        obtain ⟨z0, z1, z2, z3, z4, z5⟩ := HB1.out.six
        go_wp2_with fail
        refine ke1.mono ?_
        clear ke1
        rintro e w2 ⟨rfl, hb2⟩
        have HB2 : Hid (Bx w2 W.heap.size _ _) := HB1.out.below hb2
        have hb3 : Below W0.heap.size W0 w2 := hb1.trans (hb2.mono hb1.size)
        have ko2 := HKO.out w2 hb3
        rw [hO] at ko2
        clear z0 z1 z2 z3 z4 z5
        obtain ⟨z0, z1, z2, z3, z4, z5⟩ := HB2.out.six
        go_wp2_with fail
        refine ko2.mono ?_
        clear ko2
        rintro e w4 ⟨rfl, hb4⟩
        have HV : Hid (Bx (w4.alloc (Obj.cells #[.bool false, .int .i64 0, .slice none 0 0] 52)) w4.heap.size #[.bool false, .int .i64 0, .slice none 0 0] 52) := Bx.new _ _ _
        go_wp2_with (with_reducible refine stV rfl (.tmp 3) (.tmp 15) rfl w4.heap.size false ov none 0 0 (by with_unfolding_all rfl) (by with_unfolding_all rfl) HV.out rfl ?_)
        go_ret
        have hbl : Below W.heap.size W w4 := hb0.trans ((hb3.trans (hb4.mono hb3.size)).mono hb0.size)
        exact ⟨ret_bool (by simp [hO]), by first | exact below_row (hbl.alloc hbl.size _) hbl.size _ | exact hbl.alloc hbl.size _⟩
    · go_enter Tryz.func90, Tryz.ntmps90
      go_wp2_with fail
      rw [HW0.out]
      go_wp2_with fail
      refine kr.mono ?_
      rintro e w1 ⟨rfl, hb1⟩
      have HB1 : Hid (Bx w1 W.heap.size _ _) := HB0.out.below hb1
      have ke1 := HKE.out w1 hb1
      rw [hE] at ke1
      clear z0 z1 z2 z3 z4 z5
      obtain ⟨z0, z1, z2, z3, z4, z5⟩ := HB1.out.six
      go_wp2_with fail
      refine ke1.mono ?_
      rintro e w2 ⟨rfl, hb2⟩
      go_wp2
      go_ret
      exact ⟨ret_bool (by simp), hb0.trans ((hb1.trans (hb2.mono hb1.size)).mono hb0.size)⟩

set_option maxRecDepth 100000 in
set_option maxHeartbeats 4000000 in
theorem ksize_any {X : Nat → Prop} {W : World} {c : List Value} {d : MD} (h : Dc X W c d) (hg : Good d) :
    Calls Tryz.prog 122 #[.agg c.toArray] W fun e w' => e = .returned (.int .i64 (sizM d)) ∧ Below W.heap.size W w' := by
  obtain ⟨b, ra, n0, rc, a1, n1, c1, a2, n2, c2, x, y, rfl, HE, H1, H2, H3⟩ := h.look
  obtain rfl : b = false := by rw [← HE.out.1, hg.1]
  obtain ⟨W0, hW0⟩ : ∃ Q, W.alloc (Obj.cells #[.bool false, .slice ra n0 rc, .slice a1 n1 c1, .slice a2 n2 c2, .int .i64 x, .int .i64 y] 50) = Q := ⟨_, rfl⟩
  have hb0 : Below W.heap.size W W0 := by rw [← hW0]; exact (Below.refl _ W).alloc (Nat.le_refl _) _
  have HB0 : Hid (Bx W0 W.heap.size #[.bool false, .slice ra n0 rc, .slice a1 n1 c1, .slice a2 n2 c2, .int .i64 x, .int .i64 y] 50) := by rw [← hW0]; exact Bx.new _ _ _
  have kb := Dm.domsize_any _ _ _ (H1.out.kept (Kept.of_below hb0)).sr hg.2
  have HS : Hid (sizM d = Dm.sizeR (Dm.tk d.r)) := rfl
  rw [HS.out]
  have HW0 : Hid _ := hW0
  clear hW0 h H1 H2 H3 HE HS hg
  generalize Dm.sizeR (Dm.tk d.r) = q at *
  go_enter Tryz.func122, Tryz.ntmps122
  go_wp2_with fail
  rw [HW0.out]
  refine kb.mono ?_
  rintro e w1 ⟨rfl, hb1⟩
  go_wp2
  go_ret
  exact ⟨rfl, hb0.trans (hb1.mono hb0.size)⟩
end Go.Proofs.YtfcaemfledlnnaaGreatDoor

namespace Go.Proofs.YtfcaemfledlnnaaGreatDoor
open Go.RowKit Go.Shelf
set_option linter.unusedVariables false
set_option linter.unusedSimpArgs false

abbrev ptr (p : Nat) : Value := .pointer (some ⟨p, 0, none⟩)
/-- The numbers that are left, in an object of package branch. -/
def Dr (X : Nat → Prop) (w : World) (p : Nat) (l : List Int) : Prop :=
  ∃ a c, Bx w p #[.slice a l.length c] 79 ∧ l.length ≤ c ∧ c ≤ 9223372036854775807 ∧ (0 < l.length → ∃ b off, a = some ⟨b, off, none⟩ ∧ b < w.heap.size ∧ b ≠ p ∧ ¬ X b ∧ ∀ i x, l[i]? = some x → w.cell? ⟨b, off + i, none⟩ = some (.int .i64 x))
/-- An object of the reference: a list, and how many numbers have been taken. -/
def Rr (X : Nat → Prop) (w : World) (p : Nat) (l : List Int) (k : Nat) : Prop :=
  ∃ a c, Bx w p #[.slice a l.length c, .int .i64 (k : Int)] 30 ∧ l.length ≤ 9223372036854775806 ∧ k ≤ l.length ∧ (0 < l.length → ∃ b off, a = some ⟨b, off, none⟩ ∧ b < w.heap.size ∧ b ≠ p ∧ ¬ X b ∧ ∀ i x, l[i]? = some x → w.cell? ⟨b, off + i, none⟩ = some (.int .i64 x))
/-- The rest of the division, 0 or above. -/
def modV (x m : Int) : Int := if x.tmod m < 0 then x.tmod m + m else x.tmod m
/-- What is told, and what is left. -/
def nextM (l : List Int) (m : Int) : Int × List Int := if m < 1 then (0, l) else match l with
  | [] => (0, [])
  | x :: r => (modV x m, r)
theorem mod_lt {x m : Int} (hm : 1 ≤ m) : -m < x.tmod m ∧ x.tmod m < m := by
  rcases Int.le_total 0 x with h | h
  · have h1 := Int.tmod_nonneg m h
    have h2 := Int.tmod_lt_of_pos x (show 0 < m by omega)
    omega
  · have h1 := Int.tmod_nonneg m (show 0 ≤ -x by omega)
    have h2 := Int.tmod_lt_of_pos (-x) (show 0 < m by omega)
    rw [Int.neg_tmod] at h1 h2
    omega
theorem Bx.set0 {w : World} {g : Nat} {x v : Value} {t : TypeId} (h : Bx w g #[x] t) : Bx (w.setCell ⟨g, 0, none⟩ v) g #[v] t := ⟨by rw [heap_setCell_in h.h (by simp)]; rfl⟩
theorem Bx.set1 {w : World} {g : Nat} {x y v : Value} {t : TypeId} (h : Bx w g #[x, y] t) : Bx (w.setCell ⟨g, 1, none⟩ v) g #[x, v] t := ⟨by rw [heap_setCell_in h.h (by simp)]; rfl⟩
theorem Kept.set {w : World} (p o : Nat) (v : Value) : Kept (fun b => b = p) w (w.setCell ⟨p, o, none⟩ v) := Kept.setCell (X := fun b => b = p) (Kept.refl _ w) rfl o v
theorem Dr.kept {X : Nat → Prop} {w w' : World} {p q : Nat} {l : List Int} (h : Dr X w p l) (k : Kept (fun b => b = q) w w') (hq : p ≠ q) (hX : X q) : Dr X w' p l := by
  obtain ⟨a, c, h1, h2, h3, h4⟩ := h
  refine ⟨a, c, h1.kept k hq, h2, h3, fun h0 => ?_⟩
  obtain ⟨b, off, rfl, e2, e3, e5, e4⟩ := h4 h0
  exact ⟨b, off, rfl, Nat.lt_of_lt_of_le e2 k.size, e3, e5, fun i x hx => (k.cell e2 (fun e => e5 (by rw [e]; exact hX)) _).trans (e4 i x hx)⟩
theorem Rr.kept {X : Nat → Prop} {w w' : World} {p q k0 : Nat} {l : List Int} (h : Rr X w p l k0) (k : Kept (fun b => b = q) w w') (hq : p ≠ q) (hX : X q) : Rr X w' p l k0 := by
  obtain ⟨a, c, h1, h2, h3, h4⟩ := h
  refine ⟨a, c, h1.kept k hq, h2, h3, fun h0 => ?_⟩
  obtain ⟨b, off, rfl, e2, e3, e5, e4⟩ := h4 h0
  exact ⟨b, off, rfl, Nat.lt_of_lt_of_le e2 k.size, e3, e5, fun i x hx => (k.cell e2 (fun e => e5 (by rw [e]; exact hX)) _).trans (e4 i x hx)⟩
theorem Dr.drew {X : Nat → Prop} {w : World} {p : Nat} {l : List Int} (h : Dr X w p l) (n : Nat) : Dr X (w.drewN n) p l := by
  obtain ⟨a, c, h1, h2, h3, h4⟩ := h
  refine ⟨a, c, h1.drew n, h2, h3, fun h0 => ?_⟩
  obtain ⟨b, off, e1, e2, e3, e5, e4⟩ := h4 h0
  exact ⟨b, off, e1, e2, e3, e5, fun i x hx => e4 i x hx⟩
theorem Rr.drew {X : Nat → Prop} {w : World} {p k : Nat} {l : List Int} (h : Rr X w p l k) (n : Nat) : Rr X (w.drewN n) p l k := by
  obtain ⟨a, c, h1, h2, h3, h4⟩ := h
  refine ⟨a, c, h1.drew n, h2, h3, fun h0 => ?_⟩
  obtain ⟨b, off, e1, e2, e3, e5, e4⟩ := h4 h0
  exact ⟨b, off, e1, e2, e3, e5, fun i x hx => e4 i x hx⟩
theorem Kept.drew {X : Nat → Prop} (w : World) (n : Nat) : Kept X w (w.drewN n) := ⟨rfl, rfl, rfl, Nat.le_refl _, fun _ _ _ => rfl⟩

set_option maxRecDepth 100000 in
set_option maxHeartbeats 4000000 in
theorem left_nil (W : World) : Calls Tryz.prog 15 #[.pointer none] W fun e w' => e = .returned (.int .i64 0) ∧ w' = W := by
  go_enter Tryz.func15, Tryz.ntmps15
  go_wp2
  go_ret
  exact ⟨rfl, rfl⟩

set_option maxRecDepth 100000 in
set_option maxHeartbeats 4000000 in
theorem left_any {X : Nat → Prop} {W : World} {p : Nat} {l : List Int} (h : Dr X W p l) : Calls Tryz.prog 15 #[ptr p] W fun e w' => e = .returned (.int .i64 l.length) ∧ w' = W := by
  obtain ⟨a, c, h1, h2, h3, h4⟩ := h
  have z0 := h1.cell 0
  simp only [List.getElem?_toArray, List.getElem?_cons_zero] at z0
  clear h4 h1 h3 h2
  generalize l.length = n at *
  go_enter Tryz.func15, Tryz.ntmps15
  go_wp2
  go_ret
  exact ⟨rfl, rfl⟩

set_option maxRecDepth 100000 in
set_option maxHeartbeats 4000000 in
theorem next_nil (W : World) (m : Int) (hm : 1 ≤ m) : Calls Tryz.prog 74 #[.pointer none, .int .i64 m] W fun e w' => e = .returned (.int .i64 0) ∧ w' = W := by
  have hm' : decide (m < 1) = false := by simp; omega
  go_enter Tryz.func74, Tryz.ntmps74
  go_wp2_with (go_at_call 15; refine (left_nil _).mono ?_; rintro e w1 ⟨rfl, rfl⟩)
  go_ret
  exact ⟨rfl, rfl⟩

set_option maxRecDepth 100000 in
set_option maxHeartbeats 4000000 in
theorem next_small {W : World} {p : Nat} (m : Int) (hm : m < 1) : Calls Tryz.prog 74 #[ptr p, .int .i64 m] W fun e w' => e = .returned (.int .i64 0) ∧ w' = W := by
  have hm' : decide (m < 1) = true := by simpa using hm
  go_enter Tryz.func74, Tryz.ntmps74
  go_wp2
  go_ret
  exact ⟨rfl, rfl⟩

set_option maxRecDepth 100000 in
set_option maxHeartbeats 4000000 in
theorem next_none {X : Nat → Prop} {W : World} {p : Nat} (h : Dr X W p []) (m : Int) (hm : 1 ≤ m) : Calls Tryz.prog 74 #[ptr p, .int .i64 m] W fun e w' => e = .returned (.int .i64 0) ∧ w' = W := by
  have hm' : decide (m < 1) = false := by simp; omega
  have kl := left_any h
  go_enter Tryz.func74, Tryz.ntmps74
  go_wp2_with (go_at_call 15; refine kl.mono ?_; rintro e w1 ⟨rfl, rfl⟩)
  go_ret
  exact ⟨rfl, rfl⟩

set_option maxRecDepth 100000 in
set_option maxHeartbeats 4000000 in
theorem next_some {X : Nat → Prop} {W : World} {p : Nat} {x : Int} {r : List Int} (h : Dr X W p (x :: r)) (m : Int) (hm : 1 ≤ m) (hM : m ≤ 9223372036854775807) :
    Calls Tryz.prog 74 #[ptr p, .int .i64 m] W fun e w' => e = .returned (.int .i64 (modV x m)) ∧ Dr X w' p r ∧ Kept (fun b => b = p) W w' := by
  have hm' : decide (m < 1) = false := by simp; omega
  have kl := left_any h
  obtain ⟨a, c, h1, h2, h3, h4⟩ := h
  obtain ⟨b, off, rfl, hb, hbp, hbX, hc⟩ := h4 (by simp)
  have c0 : W.cell? ⟨b, off, none⟩ = some (.int .i64 x) := by simpa using hc 0 x rfl
  have z0 := h1.cell 0
  have zf := h1.fr 0
  simp only [List.getElem?_toArray, List.getElem?_cons_zero] at z0
  obtain ⟨hl1, hl2⟩ := mod_lt (x := x) hm
  have hn : (x :: r).length = r.length + 1 := rfl
  obtain ⟨n, hn2⟩ : ∃ n, (x :: r).length = n := ⟨_, rfl⟩
  rw [hn2] at z0 kl h2 h1
  have hn0 : 0 < n := by omega
  have hn1 : ((n : Int) == 0) = false := by simp; omega
  have HN : Hid (n = r.length + 1) := by rw [← hn2]; exact hn
  have hm0 : ¬ m = 0 := by omega
  have HC : Hid _ := hc
  have H1 : Hid (Bx W p #[.slice (some ⟨b, off, none⟩) n c] 79) := h1
  clear h4 hc hn hn2 h1
  have key : ∀ a', Dr X (W.setCell ⟨p, 0, none⟩ (.slice a' (n - 1) (c - 1))) p r ∨ ¬ (0 < r.length → a' = some ⟨b, off + 1, none⟩) := by
    intro a'
    by_cases hq : 0 < r.length → a' = some ⟨b, off + 1, none⟩
    · left
      refine ⟨a', c - 1, ?_, ?_, ?_, fun h0 => ⟨b, off + 1, hq h0, by simpa [World.setCell] using hb, hbp, hbX, fun i y hy => ?_⟩⟩
      · rw [show r.length = n - 1 by have := HN.out; omega]; exact H1.out.set0
      · have := HN.out; omega
      · omega
      · have h5 := HC.out (i + 1) y (by simpa using hy)
        rw [show off + 1 + i = off + (i + 1) by omega]
        exact ((Kept.set p 0 _).cell hb hbp _).trans h5
    · exact .inr hq
  have HK : Hid _ := key
  clear key
  have hw : wrap64 (x.tmod m + m) = x.tmod m + m ∨ ¬ x.tmod m < 0 := by
    by_cases h : x.tmod m < 0
    · left; unfold wrap64; omega
    · exact .inr h
  have HW : Hid _ := hw
  clear hw
  by_cases hneg : x.tmod m < 0
  · have HM : Hid (modV x m = x.tmod m + m) := by unfold Hid modV; rw [if_pos hneg]
    rcases Nat.lt_or_eq_of_le (show 1 ≤ c by omega) with hc1 | hc1
    · have hc2 : ¬ c = 1 := by omega
      go_enter Tryz.func74, Tryz.ntmps74
      go_wp2_with (go_at_call 15; refine kl.mono ?_; rintro e w1 ⟨rfl, rfl⟩)
      go_ret
      exact ⟨ret_int (by first | (rw [HM.out]; done) | (rw [HM.out]; exact HW.out.resolve_right (fun h => h hneg))), (HK.out _).resolve_right (fun h => h fun _ => rfl), Kept.set _ _ _⟩
    · have hr : ¬ 0 < r.length := by have := HN.out; omega
      subst hc1
      obtain rfl : n = 1 := by omega
      go_enter Tryz.func74, Tryz.ntmps74
      go_wp2_with (go_at_call 15; refine kl.mono ?_; rintro e w1 ⟨rfl, rfl⟩)
      go_ret
      exact ⟨ret_int (by first | (rw [HM.out]; done) | (rw [HM.out]; exact HW.out.resolve_right (fun h => h hneg))), by simpa using (HK.out _).resolve_right (fun h => h fun q => absurd q hr), Kept.set _ _ _⟩
  · have HM : Hid (modV x m = x.tmod m) := by unfold Hid modV; rw [if_neg hneg]
    rcases Nat.lt_or_eq_of_le (show 1 ≤ c by omega) with hc1 | hc1
    · have hc2 : ¬ c = 1 := by omega
      go_enter Tryz.func74, Tryz.ntmps74
      go_wp2_with (go_at_call 15; refine kl.mono ?_; rintro e w1 ⟨rfl, rfl⟩)
      go_ret
      exact ⟨ret_int (by rw [HM.out]), (HK.out _).resolve_right (fun h => h fun _ => rfl), Kept.set _ _ _⟩
    · have hr : ¬ 0 < r.length := by have := HN.out; omega
      subst hc1
      obtain rfl : n = 1 := by omega
      go_enter Tryz.func74, Tryz.ntmps74
      go_wp2_with (go_at_call 15; refine kl.mono ?_; rintro e w1 ⟨rfl, rfl⟩)
      go_ret
      exact ⟨ret_int (by rw [HM.out]), by simpa using (HK.out _).resolve_right (fun h => h fun q => absurd q hr), Kept.set _ _ _⟩

set_option maxRecDepth 100000 in
set_option maxHeartbeats 4000000 in
theorem next_any {X : Nat → Prop} {W : World} {p : Nat} {l : List Int} (h : Dr X W p l) (m : Int) (hM : m ≤ 9223372036854775807) :
    Calls Tryz.prog 74 #[ptr p, .int .i64 m] W fun e w' => e = .returned (.int .i64 (nextM l m).1) ∧ Dr X w' p (nextM l m).2 ∧ Kept (fun b => b = p) W w' := by
  unfold nextM
  by_cases hm : m < 1
  · rw [if_pos hm]
    exact (next_small m hm).mono fun e w' ⟨he, hw⟩ => ⟨he, by rw [hw]; exact h, by rw [hw]; exact Kept.refl _ _⟩
  · rw [if_neg hm]
    cases l with
    | nil => exact (next_none h m (by omega)).mono fun e w' ⟨he, hw⟩ => ⟨he, by rw [hw]; exact h, by rw [hw]; exact Kept.refl _ _⟩
    | cons x r => exact next_some h m (by omega) hM

set_option maxRecDepth 100000 in
set_option maxHeartbeats 4000000 in
theorem rnext_small {W : World} {p : Nat} (m : Int) (hm : m < 1) : Calls Tryz.prog 81 #[ptr p, .int .i64 m] W fun e w' => e = .returned (.int .i64 0) ∧ ∃ q, w' = W.drewN q := by
  have hm' : decide (m < 1) = true := by simpa using hm
  go_enter Tryz.func81, Tryz.ntmps81
  go_upto_region 1 with (fail)
  go_quiet (fail)
  go_wp2
  go_ret
  exact ⟨rfl, _, rfl⟩

set_option maxRecDepth 100000 in
set_option maxHeartbeats 4000000 in
theorem rnext_none {X : Nat → Prop} {W : World} {p k : Nat} {l : List Int} (h : Rr X W p l k) (hk : l.length ≤ k) (m : Int) (hm : 1 ≤ m) : Calls Tryz.prog 81 #[ptr p, .int .i64 m] W fun e w' => e = .returned (.int .i64 0) ∧ ∃ q, w' = W.drewN q := by
  have hm' : decide (m < 1) = false := by simp; omega
  obtain ⟨a, c, h1, h2, h3, h4⟩ := h
  have z0 := h1.cell 0
  have z1 := h1.cell 1
  simp only [List.getElem?_toArray, List.getElem?_cons_zero, List.getElem?_cons_succ] at z0 z1
  clear h4 h1
  generalize l.length = n at *
  have hd : decide ((n : Int) ≤ (k : Int)) = true := by simp; omega
  go_enter Tryz.func81, Tryz.ntmps81
  go_upto_region 1 with (fail)
  go_quiet (fail)
  go_wp2
  go_ret
  exact ⟨rfl, _, rfl⟩

set_option maxRecDepth 100000 in
set_option maxHeartbeats 4000000 in
theorem rnext_some {X : Nat → Prop} {W : World} {p k : Nat} {l : List Int} {x : Int} (h : Rr X W p l k) (hx : l[k]? = some x) (m : Int) (hm : 1 ≤ m) (hM : m ≤ 9223372036854775807) :
    Calls Tryz.prog 81 #[ptr p, .int .i64 m] W fun e w' => e = .returned (.int .i64 (modV x m)) ∧ Rr X w' p l (k + 1) ∧ Kept (fun b => b = p) W w' := by
  have hm' : decide (m < 1) = false := by simp; omega
  have hk : k < l.length := (List.getElem?_eq_some_iff.1 hx).1
  obtain ⟨a, c, h1, h2, h3, h4⟩ := h
  obtain ⟨b, off, rfl, hb, hbp, hbX, hc⟩ := h4 (by omega)
  have c0 := hc k x hx
  have z0 := h1.cell 0
  have z1 := h1.cell 1
  have zf := h1.fr 1
  simp only [List.getElem?_toArray, List.getElem?_cons_zero, List.getElem?_cons_succ] at z0 z1
  obtain ⟨hl1, hl2⟩ := mod_lt (x := x) hm
  have hm0 : ¬ m = 0 := by omega
  have key : ∀ W' : World, (∃ q, W' = W.drewN q) → Rr X (W'.setCell ⟨p, 1, none⟩ (.int .i64 ((k : Int) + 1))) p l (k + 1) ∧ Kept (fun b => b = p) W (W'.setCell ⟨p, 1, none⟩ (.int .i64 ((k : Int) + 1))) := by
    rintro W' ⟨q, rfl⟩
    have hkp : Kept (fun b => b = p) W ((W.drewN q).setCell ⟨p, 1, none⟩ (.int .i64 ((k : Int) + 1))) := Kept.setCell (X := fun b => b = p) (show Kept (fun b => b = p) W (W.drewN q) from ⟨rfl, rfl, rfl, Nat.le_refl _, fun _ _ _ => rfl⟩) rfl 1 _
    refine ⟨⟨_, c, ?_, h2, hk, fun h0 => ⟨b, off, rfl, Nat.lt_of_lt_of_le hb hkp.size, hbp, hbX, fun i y hy => (hkp.cell hb hbp _).trans (hc i y hy)⟩⟩, hkp⟩
    have := (h1.drew q).set1 (v := .int .i64 ((k : Int) + 1))
    simpa using this
  have HK : Hid _ := key
  generalize l.length = n at *
  have hd : decide ((n : Int) ≤ (k : Int)) = false := by simp; omega
  have hwk : wrap64 ((k : Int) + 1) = (k : Int) + 1 := by unfold wrap64; omega
  have hkn : (k : Int) < (n : Int) := by omega
  clear key h4 hc h1 hx
  have hw : wrap64 (x.tmod m + m) = x.tmod m + m ∨ ¬ x.tmod m < 0 := by
    by_cases h : x.tmod m < 0
    · left; unfold wrap64; omega
    · exact .inr h
  have HW : Hid _ := hw
  clear hw
  by_cases hneg : x.tmod m < 0
  · have HM : Hid (modV x m = x.tmod m + m) := by unfold Hid modV; rw [if_pos hneg]
    go_enter Tryz.func81, Tryz.ntmps81
    go_upto_region 1 with (fail)
    go_quiet (fail)
    go_upto_region 3 with (fail)
    go_quiet (fail)
    go_wp2
    go_ret
    exact ⟨ret_int (by first | (rw [HM.out]; done) | (rw [HM.out]; exact HW.out.resolve_right (fun h => h hneg))), HK.out _ ⟨_, rfl⟩⟩
  · have HM : Hid (modV x m = x.tmod m) := by unfold Hid modV; rw [if_neg hneg]
    go_enter Tryz.func81, Tryz.ntmps81
    go_upto_region 1 with (fail)
    go_quiet (fail)
    go_upto_region 3 with (fail)
    go_quiet (fail)
    go_wp2
    go_ret
    exact ⟨ret_int (by rw [HM.out]), HK.out _ ⟨_, rfl⟩⟩
theorem rnext_any {X : Nat → Prop} {W : World} {p k : Nat} {l : List Int} (h : Rr X W p l k) (m : Int) (hM : m ≤ 9223372036854775807) :
    Calls Tryz.prog 81 #[ptr p, .int .i64 m] W fun e w' => e = .returned (.int .i64 (nextM (l.drop k) m).1) ∧ (∃ k', Rr X w' p l k' ∧ l.drop k' = (nextM (l.drop k) m).2) ∧ Kept (fun b => b = p) W w' := by
  unfold nextM
  by_cases hm : m < 1
  · rw [if_pos hm]
    exact (rnext_small m hm).mono fun e w' ⟨he, q, hw⟩ => ⟨he, ⟨k, by rw [hw]; exact h.drew q, rfl⟩, by rw [hw]; exact Kept.drew _ _⟩
  · rw [if_neg hm]
    by_cases hk : k < l.length
    · obtain ⟨x, hx⟩ : ∃ x, l[k]? = some x := ⟨_, List.getElem?_eq_getElem hk⟩
      have hd : l.drop k = x :: l.drop (k + 1) := by rw [List.drop_eq_getElem_cons hk]; congr 1; rw [List.getElem?_eq_getElem hk] at hx; injection hx
      rw [hd]
      exact (rnext_some h hx m (by omega) hM).mono fun e w' ⟨he, h1, h2⟩ => ⟨he, ⟨k + 1, h1, rfl⟩, h2⟩
    · have hd : l.drop k = [] := List.drop_eq_nil_of_le (by omega)
      rw [hd]
      exact (rnext_none h (by omega) m (by omega)).mono fun e w' ⟨he, q, hw⟩ => ⟨he, ⟨k, by rw [hw]; exact h.drew q, hd⟩, by rw [hw]; exact Kept.drew _ _⟩
end Go.Proofs.YtfcaemfledlnnaaGreatDoor
