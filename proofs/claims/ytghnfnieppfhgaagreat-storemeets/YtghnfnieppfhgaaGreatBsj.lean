/-
  What is proved here: whether a domain of any kind has several values; how many it has.
  What is proved here: what a decision leaves of a domain, by package branch.
  What is proved here: domains held against each other, and lent.
  What is proved here: numbers and lists of domains in memory.
  What is proved here: lists of domains that are lent, and held against each other.
  What is proved here: a list of domains that is lent.
-/
import Derived.Test.YtghnfnieppfhgaaGreatKaj
import Derived.Test.YtghnfnieppfhgaaGreatCa
import Derived.Test.YtghnfnieppfhgaaGreatYTd
import Derived.Test.YtghnfnieppfhgaaGreatAa
import Derived.OwnWalk
namespace Go.Proofs.YtghnfnieppfhgaaGreat
open Go.RowKit Go.Shelf
set_option linter.unusedVariables false
set_option linter.unusedSimpArgs false

def emptyA (d : MD) : Bool := if d.set then decide (d.most < d.least) else emptyW d
def onlyA (d : MD) : Bool := if d.set then St.fixB (sdM d) else (onlyW d).2
set_option maxRecDepth 100000 in
set_option maxHeartbeats 4000000 in
theorem own_keepX {w w' : World} {B : Nat} {e : TypeId} {s : Nat} {v : Value} {n : Nat} {xs : List Value} (h : w.ownsRow B e s v n xs) (hb : ∀ g, v.ownBlock = some g → w'.heap[g]? = w.heap[g]?) : w'.ownsRow B e s v n xs := by
  refine ⟨h.1, ?_⟩
  rcases h.2 with e | ⟨g, cap, cur, e1, e2, hg, r⟩
  · exact .inl e
  · exact .inr ⟨g, cap, cur, e1, e2, (hb g (by rw [e1]; rfl)).trans hg, r⟩
theorem own_typX {w : World} {B : Nat} {e : TypeId} {s : Nat} {v : Value} {n : Nat} {xs : List Value} (h : w.ownsRow B e s v n xs) {g : Nat} (hg : v.ownBlock = some g) : B ≤ g := by
  rcases h.2 with ⟨e1, _⟩ | ⟨g', cap, cur, e1, e2, hg', r⟩
  · rw [e1] at hg; simp [Value.ownBlock] at hg
  · rw [e1] at hg
    obtain rfl : g' = g := by simpa [Value.ownBlock] using hg
    exact e2
theorem own_baseX {w : World} {B B' : Nat} {e : TypeId} {s : Nat} {v : Value} {n : Nat} {xs : List Value} (h : w.ownsRow B e s v n xs) (hB : B' ≤ B) : w.ownsRow B' e s v n xs :=
  ⟨h.1, by
    rcases h.2 with h2 | ⟨g, cap, cur, e1, hb, r⟩
    · exact .inl h2
    · exact .inr ⟨g, cap, cur, e1, Nat.le_trans hB hb, r⟩⟩
theorem empty_s {X : Nat → Prop} {W : World} {c : List Value} {d : MD} (h : Dc X W c d) (hs : d.set = true) :
    Calls Tryz.prog 69 #[.agg c.toArray] W fun e w' => e = .returned (.bool (decide (d.most < d.least))) ∧ Below W.heap.size W w' := by
  obtain ⟨b, ra, n0, rc, a1, n1, c1, a2, n2, c2, x, y, rfl, HE, H1, H2, H3⟩ := h.look
  clear h
  obtain rfl : b = true := by rw [← HE.out.1, hs]
  have hM : decide (d.most < d.least) = decide (y < x) := by obtain ⟨_, _, _, _, rfl, rfl⟩ := HE.out; rfl
  rw [hM]
  clear hM H1 H2 H3 hs HE
  have hb0 : Below W.heap.size W (W.alloc (Obj.cells #[.bool true, .slice ra n0 rc, .slice a1 n1 c1, .slice a2 n2 c2, .int .i64 x, .int .i64 y] 37)) := (Below.refl _ W).alloc (Nat.le_refl _) _
  by_cases e1 : y < x
  · go_enter Tryz.func69, Tryz.ntmps69
    go_wp2
    go_ret
    exact ⟨ret_bool (by first | rfl | simp [e1]), hb0⟩
  · have e2 : ¬ x > y := by omega
    have e3 : x ≤ y := by omega
    go_enter Tryz.func69, Tryz.ntmps69
    go_wp2
    go_ret
    exact ⟨ret_bool (by first | rfl | simp [e1]), hb0⟩
theorem empty_d {X : Nat → Prop} {W : World} {c : List Value} {d : MD} (h : Dc X W c d) :
    Calls Tryz.prog 69 #[.agg c.toArray] W fun e w' => e = .returned (.bool (emptyA d)) ∧ Below W.heap.size W w' := by
  unfold emptyA
  cases hs : d.set
  · simp only [Bool.false_eq_true, if_false]; exact empty_w h hs
  · simp only [if_true]; exact empty_s h hs

set_option maxRecDepth 100000 in
set_option maxHeartbeats 4000000 in
theorem only_s {X : Nat → Prop} {W : World} {c : List Value} {d : MD} (h : Dc X W c d) (hs : d.set = true) :
    Calls Tryz.prog 70 #[.agg c.toArray] W fun e w' => ∃ sp sn sc, e = .returned (.tuple #[.agg #[.bool (St.fixB (sdM d)), .int .i64 0, .slice sp sn sc], .bool (St.fixB (sdM d))]) ∧ w'.ownsRow W.heap.size 2 1 (.slice sp sn sc) sn (St.intv (St.fixL (sdM d))) ∧ (St.fixL (sdM d)).length = sn ∧ Below W.heap.size W w' := by
  have h00 := h
  obtain ⟨b, ra, n0, rc, a1, n1, c1, a2, n2, c2, x, y, rfl, HE, H1, H2, H3⟩ := h.look
  obtain rfl : b = true := by rw [← HE.out.1, hs]
  obtain ⟨N, hN⟩ : ∃ N, W.heap.size = N := ⟨_, rfl⟩
  obtain ⟨W0, hW0⟩ : ∃ Q, (W.alloc (Obj.cells #[.bool true, .slice ra n0 rc, .slice a1 n1 c1, .slice a2 n2 c2, .int .i64 x, .int .i64 y] 37)).alloc (Obj.cells #[.bool false, .int .i64 0, .slice none 0 0] 57) = Q := ⟨_, rfl⟩
  have hb0 : Below W.heap.size W W0 := by rw [← hW0]; exact (((Below.refl _ W).alloc (Nat.le_refl _) _).alloc (by simp) _)
  have HB0 : Hid (Bx W0 N #[.bool true, .slice ra n0 rc, .slice a1 n1 c1, .slice a2 n2 c2, .int .i64 x, .int .i64 y] 37) := by rw [← hW0]; exact (Bx.new' hN _ _).alloc _
  have HV0 : Hid (Bx W0 (N + 1) #[.bool false, .int .i64 0, .slice none 0 0] 57) := by rw [← hW0]; exact Bx.new' (by simp [hN]) _ _
  have kf := St.fixed_any _ _ W0 (h00.below hb0).di
  have HW0 : Hid _ := hW0
  have HBB : Hid (Below W.heap.size W W0) := hb0
  have HN : Hid (W.heap.size = N) := hN
  clear hW0 h h00 H1 H2 H3 HE hs hb0
  generalize St.fixB (sdM d) = fb at *
  generalize St.fixL (sdM d) = fl at *
  obtain ⟨z0, z1, z2, z3, z4, z5⟩ := HB0.out.six
  go_enter Tryz.func70, Tryz.ntmps70
  go_wp2_with fail
  rw [HW0.out]
  clear hN
  go_wp2_with fail
  refine kf.mono ?_
  clear kf z0 z1 z2 z3 z4 z5
  rintro e w1 ⟨sp, sn, sc, rfl, ho, hl, hb1⟩
  have HV1 : Hid (Bx w1 (N + 1) _ _) := HV0.out.below hb1
  have hb2 : Below W.heap.size W w1 := HBB.out.trans (hb1.mono HBB.out.size)
  have hrow : W0.heap.size > N + 1 := (Array.getElem?_eq_some_iff.1 HV0.out.h).1
  go_wp2_with (with_reducible refine stV rfl (.tmp 2) (.tmp 15) rfl (N + 1) fb 0 sp sn sc (by with_unfolding_all rfl) (by with_unfolding_all rfl) HV1.out rfl ?_)
  refine ⟨rfl, _, res_ct rfl _ (HV1.out.setRow _) (by with_unfolding_all rfl) rfl Tryz.underlying57 (by rw [Tryz.sizeVal]; rfl) (v := .bool fb) (by with_unfolding_all rfl), ?_⟩
  refine ⟨sp, sn, sc, rfl, ?_, hl.out, below_row hb2 (by rw [HN.out]; omega) _⟩
  have hown := ho.out
  refine own_baseX (own_keepX hown (fun g hg => setRow_other _ _ _ _ ?_)) HBB.out.size
  have := own_typX hown hg
  omega
theorem only_d {X : Nat → Prop} {W : World} {c : List Value} {d : MD} (h : Dc X W c d) (hf : Dm.FitsR d.r) :
    Calls Tryz.prog 70 #[.agg c.toArray] W fun e w' => ∃ b1 x1 sp sn sc, e = .returned (.tuple #[.agg #[.bool b1, .int .i64 x1, .slice sp sn sc], .bool (onlyA d)]) ∧ Below W.heap.size W w' := by
  unfold onlyA
  cases hs : d.set
  · simp only [Bool.false_eq_true, if_false]
    refine (only_w h hs hf).mono ?_
    rintro e w' ⟨he, hb⟩
    exact ⟨_, _, _, _, _, he, hb⟩
  · simp only [if_true]
    refine (only_s h hs).mono ?_
    rintro e w' ⟨sp, sn, sc, he, _, _, hb⟩
    exact ⟨_, _, _, _, _, he, hb⟩
end Go.Proofs.YtghnfnieppfhgaaGreat


namespace Go.Proofs.YtghnfnieppfhgaaGreat
open Go.RowKit Go.Shelf
set_option linter.unusedVariables false
set_option linter.unusedSimpArgs false

def ofSD (s : St.SD) : MD := ⟨s.set, [], s.lo, s.up, s.least, s.most⟩
/-- A row of which no slice of numbers or ranges is a part is written. -/
theorem WrS.row {B k g : Nat} {w : World} {s : Value} (h : WrS B k w s) (hB : g < B) (c : Array Value) : WrS B k (w.setRow g c) s := by
  obtain ⟨a, n, cc, e, hmx, h⟩ := h
  refine ⟨a, n, cc, e, hmx, fun h0 => ?_⟩
  obtain ⟨g', cur, t, e1, e2, e3, e4⟩ := h h0
  exact ⟨g', cur, t, e1, e2, (setRow_other w g g' c (by omega)).trans e3, e4⟩
theorem OwnD.setRow {B g : Nat} {w : World} {q : List Value} (h : OwnD B w q) (hB : g < B) (c : Array Value) : OwnD B (w.setRow g c) q := by
  obtain ⟨b, p0, n0, k0, p1, n1, k1, p2, n2, k2, x, y, e, h0, h1, h2⟩ := h
  exact ⟨b, p0, n0, k0, p1, n1, k1, p2, n2, k2, x, y, e, h0.row hB c, h1.row hB c, h2.row hB c⟩
theorem OwnD.less {B B' : Nat} {w : World} {q : List Value} (h : OwnD B w q) (hB : B' ≤ B) : OwnD B' w q := by
  obtain ⟨b, p0, n0, k0, p1, n1, k1, p2, n2, k2, x, y, e, h0, h1, h2⟩ := h
  have f : ∀ k s, WrS B k w s → WrS B' k w s := fun k s h => by
    obtain ⟨a, n, cc, e, hmx, h⟩ := h
    refine ⟨a, n, cc, e, hmx, fun h0 => ?_⟩
    obtain ⟨g', cur, t, e1, e2, e3, e4⟩ := h h0
    exact ⟨g', cur, t, e1, by omega, e3, e4⟩
  exact ⟨b, p0, n0, k0, p1, n1, k1, p2, n2, k2, x, y, e, f _ _ h0, f _ _ h1, f _ _ h2⟩
/-- What is asked of a domain that is answered. -/
structure Ans (B : Nat) (w : World) (q : List Value) (d : MD) : Prop where
  own : OwnD B w q
  dc : ∀ Z : Nat → Prop, (∀ b, Z b → b < B) → Dc Z w q d
theorem Ans.one {B : Nat} {w : World} {q : List Value} {d : MD} (h : Ans B w q d) : q.length = 6 ∧ (∀ v ∈ q, v.oneCell' = true) := ⟨(h.dc (fun _ => False) (fun _ h => h.elim)).len, (h.dc (fun _ => False) (fun _ h => h.elim)).one⟩
theorem Ans.setRow {B g : Nat} {w : World} {q : List Value} {d : MD} (h : Ans B w q d) (hB : g < B) (c : Array Value) : Ans B (w.setRow g c) q d :=
  ⟨h.own.setRow hB c, fun Z hZ => (h.dc (fun b => Z b ∨ b = g) (fun b hb => by rcases hb with hb | hb; exact hZ b hb; omega)).go (X' := Z) (Kept.mono (X := fun b => b = g) ⟨rfl, rfl, rfl, by simp [World.setRow], fun b _ hb => setRow_other w g b c hb⟩ (fun b hb => .inr hb)) (fun b hb => .inl (.inl hb))⟩
theorem Ans.less {B B' : Nat} {w : World} {q : List Value} {d : MD} (h : Ans B w q d) (hB : B' ≤ B) : Ans B' w q d := ⟨h.own.less hB, fun Z hZ => h.dc Z (fun b hb => Nat.lt_of_lt_of_le (hZ b hb) hB)⟩
theorem dv_ans {B : Nat} {w : World} {v : Value} {s : St.SD} (h : St.Dv B w v s) : ∃ q : List Value, v = .agg q.toArray ∧ Ans B w q (ofSD s) := by
  obtain ⟨q, e, h1, h2⟩ := dv_own h
  exact ⟨q, e, h1, h2⟩
theorem rng_ans {B : Nat} {w : World} {p : Option Addr} {c : Nat} {r : List Dm.Rg} (h : w.ownsRow B 80 2 (.slice p r.length c) r.length (Dm.flat r)) : Ans B w [.bool false, .slice p r.length c, .slice none 0 0, .slice none 0 0, .int .i64 0, .int .i64 0] ⟨false, r, [], [], 0, 0⟩ :=
  ⟨⟨_, _, _, _, _, _, _, _, _, _, _, _, rfl, WrS.own h, WrS.nil _ _ _, WrS.nil _ _ _⟩, fun Z hZ => ⟨p, c, none, 0, none, 0, rfl, rm_own h hZ, Nm.empty _ _, Nm.empty _ _⟩⟩
theorem list6 {q : List Value} (h : q.length = 6) : ∃ c0 c1 c2 c3 c4 c5, q = [c0, c1, c2, c3, c4, c5] := by
  match q, h with
  | [c0, c1, c2, c3, c4, c5], _ => exact ⟨c0, c1, c2, c3, c4, c5, rfl⟩
end Go.Proofs.YtghnfnieppfhgaaGreat


namespace Go.Proofs.YtghnfnieppfhgaaGreat
open Go.RowKit Go.Shelf
set_option linter.unusedVariables false
set_option linter.unusedSimpArgs false

def flI (r : List Dm.Rg) : List Int := (List.range (r.length * 2)).map fun i => if i % 2 = 0 then Dm.lo r (i / 2) else Dm.hi r (i / 2)
theorem flI_len (r : List Dm.Rg) : (flI r).length = r.length * 2 := by simp [flI]
theorem flI_nth (r : List Dm.Rg) (i : Nat) (h : i < r.length * 2) : St.nth (flI r) i = if i % 2 = 0 then Dm.lo r (i / 2) else Dm.hi r (i / 2) := by
  unfold St.nth flI
  rw [List.getD_eq_getElem?_getD, List.getElem?_map, List.getElem?_range h]; rfl
/-- The sizes of a domain. -/
def SzD (d : MD) : Prop := d.lo.length * 8 ≤ 140737488351232 ∧ d.up.length * 8 ≤ 140737488351232 ∧ d.r.length * 16 ≤ 140737488351232
theorem Dc.dr {X : Nat → Prop} {w : World} {c : List Value} {d : MD} (h : Dc X w c d) (hz : SzD d) : St.Dr w (.agg c.toArray) (sdM d) (flI d.r) := by
  obtain ⟨ra, rc, a1, c1, a2, c2, rfl, h1, h2, h3⟩ := h
  refine ⟨ra, rc, _, _, rfl, h2.si, h3.si, ?_, hz⟩
  obtain ⟨a, cc, e, h1⟩ := h1
  injection e with e1 _ e3
  subst e1 e3
  refine ⟨_, _, _, rfl, flI_len _, fun h0 => ?_⟩
  obtain ⟨b, off, q1, q2, _, q4⟩ := h1 h0
  refine ⟨b, off, q1, q2, fun i hi => ?_⟩
  rw [flI_nth _ _ hi]
  have hi' : i < d.r.length * 2 := hi
  have hq := q4 (i / 2) (by omega)
  by_cases hp : i % 2 = 0
  · rw [if_pos hp, show off + i = off + i / 2 * 2 by omega]; exact hq.1
  · rw [if_neg hp, show off + i = off + i / 2 * 2 + 1 by omega]; exact hq.2
theorem one_d {X Y : Nat → Prop} {W : World} {c k : List Value} {d : MD} (h : Dc X W c d) (h' : Dc Y W k d) (hz : SzD d) : Calls Tryz.prog 25 #[.agg c.toArray, .agg k.toArray] W fun e w' => e = .returned (.bool true) ∧ Below W.heap.size W w' :=
  St.one_same _ _ (sdM d) (flI d.r) W (h.dr hz) (h'.dr hz)
end Go.Proofs.YtghnfnieppfhgaaGreat


namespace Go.Proofs.YtghnfnieppfhgaaGreat
open Go.RowKit Go.Shelf
set_option linter.unusedVariables false
set_option linter.unusedSimpArgs false

def Ds (w : World) (s : Value) (D : List MD) : Prop :=
  ∃ a c, s = .slice a D.length c ∧ (0 < D.length → ∃ b off, a = some ⟨b, off, none⟩ ∧ b < w.heap.size ∧ ∀ i d, D[i]? = some d → ∃ c0 c1 c2 c3 c4 c5, Dc (fun _ => False) w [c0, c1, c2, c3, c4, c5] d ∧
    w.cell? ⟨b, off + i * 6, none⟩ = some c0 ∧ w.cell? ⟨b, off + i * 6 + 1, none⟩ = some c1 ∧ w.cell? ⟨b, off + i * 6 + 2, none⟩ = some c2 ∧ w.cell? ⟨b, off + i * 6 + 3, none⟩ = some c3 ∧ w.cell? ⟨b, off + i * 6 + 4, none⟩ = some c4 ∧ w.cell? ⟨b, off + i * 6 + 5, none⟩ = some c5)
theorem Ds.below {w w' : World} {s : Value} {D : List MD} (h : Ds w s D) (hb : Below w.heap.size w w') : Ds w' s D := by
  obtain ⟨a, c, e, h⟩ := h
  refine ⟨a, c, e, fun h0 => ?_⟩
  obtain ⟨b, off, e1, e2, e3⟩ := h h0
  refine ⟨b, off, e1, Nat.lt_of_lt_of_le e2 hb.size, fun i d hd => ?_⟩
  obtain ⟨c0, c1, c2, c3, c4, c5, h1, k0, k1, k2, k3, k4, k5⟩ := e3 i d hd
  exact ⟨c0, c1, c2, c3, c4, c5, h1.below hb, (hb.cell (p := ⟨b, _, none⟩) e2).trans k0, (hb.cell (p := ⟨b, _, none⟩) e2).trans k1, (hb.cell (p := ⟨b, _, none⟩) e2).trans k2, (hb.cell (p := ⟨b, _, none⟩) e2).trans k3, (hb.cell (p := ⟨b, _, none⟩) e2).trans k4, (hb.cell (p := ⟨b, _, none⟩) e2).trans k5⟩
theorem Ds.at {w : World} {p : Option Addr} {n k : Nat} {D : List MD} (h : Ds w (.slice p n k) D) {i : Nat} {d : MD} (hd : D[i]? = some d) : ∃ b off, p = some ⟨b, off, none⟩ ∧ b < w.heap.size ∧ D.length = n ∧ ∃ c0 c1 c2 c3 c4 c5, Dc (fun _ => False) w [c0, c1, c2, c3, c4, c5] d ∧
    w.cell? ⟨b, off + i * 6, none⟩ = some c0 ∧ w.cell? ⟨b, off + i * 6 + 1, none⟩ = some c1 ∧ w.cell? ⟨b, off + i * 6 + 2, none⟩ = some c2 ∧ w.cell? ⟨b, off + i * 6 + 3, none⟩ = some c3 ∧ w.cell? ⟨b, off + i * 6 + 4, none⟩ = some c4 ∧ w.cell? ⟨b, off + i * 6 + 5, none⟩ = some c5 := by
  obtain ⟨a, c, e, h⟩ := h
  injection e with e1 e2 e3
  obtain ⟨b, off, h1, h2, h3⟩ := h (by have := (List.getElem?_eq_some_iff.1 hd).1; omega)
  exact ⟨b, off, e1.trans h1, h2, e2.symm, h3 i d hd⟩
end Go.Proofs.YtghnfnieppfhgaaGreat

namespace Go.Proofs.YtghnfnieppfhgaaGreat
open Go.RowKit Go.Shelf
set_option linter.unusedVariables false
set_option linter.unusedSimpArgs false
namespace St

end St

set_option maxRecDepth 100000 in
set_option maxHeartbeats 4000000 in
theorem same_doms {W : World} {p1 : Option Addr} {n1 k1 : Nat} {p2 : Option Addr} {n2 k2 : Nat} {D : List MD} (h : Ds W (.slice p1 n1 k1) D) (h' : Ds W (.slice p2 n2 k2) D) (hz : ∀ d ∈ D, SzD d) (hl : D.length ≤ 9223372036854775806) :
    Calls Tryz.prog 21 #[.slice p1 n1 k1, .slice p2 n2 k2] W fun e w' => e = .returned (.bool true) ∧ Below W.heap.size W w' := by
  have e1 : D.length = n1 := by obtain ⟨a, c, e, _⟩ := h; injection e with _ e2 _; exact e2.symm
  have e2 : D.length = n2 := by obtain ⟨a, c, e, _⟩ := h'; injection e with _ e2 _; exact e2.symm
  obtain rfl : n1 = n2 := e1.symm.trans e2
  have HA : Hid (∀ w, Below W.heap.size W w → Ds w (.slice p1 n1 k1) D) := fun w hb => h.below hb
  have HB : Hid (∀ w, Below W.heap.size W w → Ds w (.slice p2 n1 k2) D) := fun w hb => h'.below hb
  have HZ : Hid (∀ d ∈ D, SzD d) := hz
  have HN : Hid (D.length = n1) := e1
  rw [e1] at hl
  clear h h' hz e1 e2
  go_enter Tryz.func21, Tryz.ntmps21
  go_wp2
  go_loopw [5] (fun i wr => ∃ k : Nat, i = .int .i64 (k : Int) ∧ k ≤ n1 ∧ Hid (Below W.heap.size W wr)) (fun i _ => n1 - (intOf i).toNat)
  case atStart => exact ⟨0, rfl, Nat.zero_le _, Below.refl _ _⟩
  case round =>
    obtain ⟨k, rfl, hk, HBr⟩ := hrel
    by_cases hlt : k < n1
    · have hlt' : (k : Int) < (n1 : Int) := by omega
      have hwk : IntKind.i64.wrap ((k : Int) + 1) = (k : Int) + 1 := by rw [IntKind.wrap_i64]; omega
      obtain ⟨d, hd⟩ : ∃ d, D[k]? = some d := ⟨_, List.getElem?_eq_getElem (by rw [HN.out]; exact hlt)⟩
      obtain ⟨b1, off1, rfl, hb1, _, c0, c1, c2, c3, c4, c5, hDc1, i0, i1, i2, i3, i4, i5⟩ := (HA.out wr HBr.out).at hd
      obtain ⟨b2, off2, rfl, hb2, _, e0, e1, e2, e3, e4, e5, hDc2, j0, j1, j2, j3, j4, j5⟩ := (HB.out wr HBr.out).at hd
      have HON : Hid _ := one_d (hDc1.below (Below.refl _ wr).drew) (hDc2.below (Below.refl _ wr).drew) (HZ.out d (List.mem_of_getElem? hd))
      have FS : Hid (∀ w, Below wr.heap.size wr w → (w.cell? ⟨b1, off1 + k * 6, none⟩ = some c0 ∧ w.cell? ⟨b1, off1 + k * 6 + 1, none⟩ = some c1 ∧ w.cell? ⟨b1, off1 + k * 6 + 2, none⟩ = some c2 ∧ w.cell? ⟨b1, off1 + k * 6 + 3, none⟩ = some c3 ∧ w.cell? ⟨b1, off1 + k * 6 + 4, none⟩ = some c4 ∧ w.cell? ⟨b1, off1 + k * 6 + 5, none⟩ = some c5) ∧ (w.cell? ⟨b2, off2 + k * 6, none⟩ = some e0 ∧ w.cell? ⟨b2, off2 + k * 6 + 1, none⟩ = some e1 ∧ w.cell? ⟨b2, off2 + k * 6 + 2, none⟩ = some e2 ∧ w.cell? ⟨b2, off2 + k * 6 + 3, none⟩ = some e3 ∧ w.cell? ⟨b2, off2 + k * 6 + 4, none⟩ = some e4 ∧ w.cell? ⟨b2, off2 + k * 6 + 5, none⟩ = some e5)) := fun w hb => ⟨⟨(hb.cell (p := ⟨b1, _, none⟩) hb1).trans i0, (hb.cell (p := ⟨b1, _, none⟩) hb1).trans i1, (hb.cell (p := ⟨b1, _, none⟩) hb1).trans i2, (hb.cell (p := ⟨b1, _, none⟩) hb1).trans i3, (hb.cell (p := ⟨b1, _, none⟩) hb1).trans i4, (hb.cell (p := ⟨b1, _, none⟩) hb1).trans i5⟩, ⟨(hb.cell (p := ⟨b2, _, none⟩) hb2).trans j0, (hb.cell (p := ⟨b2, _, none⟩) hb2).trans j1, (hb.cell (p := ⟨b2, _, none⟩) hb2).trans j2, (hb.cell (p := ⟨b2, _, none⟩) hb2).trans j3, (hb.cell (p := ⟨b2, _, none⟩) hb2).trans j4, (hb.cell (p := ⟨b2, _, none⟩) hb2).trans j5⟩⟩
      have HP0 : Hid (Below wr.heap.size wr wr.drew) := (Below.refl _ _).drew
      clear hd hb1 hb2 i0 i1 i2 i3 i4 i5 j0 j1 j2 j3 j4 j5 hDc1 hDc2
      go_upto_region 6 with (fail)
      refine wp_region_held_drew (S := fun w : World => (w.cell? ⟨b1, off1 + k * 6, none⟩ = some c0 ∧ w.cell? ⟨b1, off1 + k * 6 + 1, none⟩ = some c1 ∧ w.cell? ⟨b1, off1 + k * 6 + 2, none⟩ = some c2 ∧ w.cell? ⟨b1, off1 + k * 6 + 3, none⟩ = some c3 ∧ w.cell? ⟨b1, off1 + k * 6 + 4, none⟩ = some c4 ∧ w.cell? ⟨b1, off1 + k * 6 + 5, none⟩ = some c5) ∧ (w.cell? ⟨b2, off2 + k * 6, none⟩ = some e0 ∧ w.cell? ⟨b2, off2 + k * 6 + 1, none⟩ = some e1 ∧ w.cell? ⟨b2, off2 + k * 6 + 2, none⟩ = some e2 ∧ w.cell? ⟨b2, off2 + k * 6 + 3, none⟩ = some e3 ∧ w.cell? ⟨b2, off2 + k * 6 + 4, none⟩ = some e4 ∧ w.cell? ⟨b2, off2 + k * 6 + 5, none⟩ = some e5)) (by kernel_rfl) ((FS.out _ HP0.out)) (fun hHeld => ?_)
      refine tkA 0 ⟨some 17, .move (.tmp 0), 22, "ref.go:216", #[], none⟩ hHeld ?_
      try simp only [Act.put, zS, z0, z1]
      refine tkA 1 ⟨some 18, .move (.tmp 5), 3, "ref.go:216", #[], none⟩ hHeld ?_
      try simp only [Act.put, zS, z0, z1]
      refine tkA 2 ⟨some 19, .indexAddr 22 (.tmp 17) (.tmp 18), 0, "ref.go:216", #[⟨0, .data⟩, ⟨1, .data⟩], none⟩ hHeld ?_
      try simp only [Act.put, zS, z0, z1]
      refine tkH 3 ⟨some 20, .load 37 (.tmp 19), 37, "ref.go:216", #[⟨2, .data⟩], none⟩ (v := ?_) hHeld ?_ ?_; rotate_left
      · intro w hSw; obtain ⟨⟨y0, y1, y2, y3, y4, y5⟩, ⟨x0, x1, x2, x3, x4, x5⟩⟩ := hSw; go_simp <;> with_reducible rfl
      try simp only [Act.put, zS, z0, z1]
      refine tkA 4 ⟨some 21, .move (.tmp 1), 22, "ref.go:216", #[], none⟩ hHeld ?_
      try simp only [Act.put, zS, z0, z1]
      refine tkA 5 ⟨some 22, .move (.tmp 5), 3, "ref.go:216", #[], none⟩ hHeld ?_
      try simp only [Act.put, zS, z0, z1]
      refine tkA 6 ⟨some 23, .indexAddr 22 (.tmp 21) (.tmp 22), 0, "ref.go:216", #[⟨4, .data⟩, ⟨5, .data⟩], none⟩ hHeld ?_
      try simp only [Act.put, zS, z0, z1]
      refine tkH 7 ⟨some 24, .load 37 (.tmp 23), 37, "ref.go:216", #[⟨6, .data⟩], none⟩ (v := ?_) hHeld ?_ ?_; rotate_left
      · intro w hSw; obtain ⟨⟨y0, y1, y2, y3, y4, y5⟩, ⟨x0, x1, x2, x3, x4, x5⟩⟩ := hSw; go_simp <;> with_reducible rfl
      try simp only [Act.put, zS, z0, z1]
      refine rdy 8 rfl fun K hK => ?_
      go_simp
      refine Calls.mono HON.out ?_
      rintro e u1 ⟨rfl, hbu⟩
      have HP1 := hid (HP0.out.trans (hbu.mono HP0.out.size))
      clear hbu
      refine hK.out _ _ ((FS.out _ HP1.out)) (fun hHeld2 => ?_)
      clear hK K hHeld; have hHeld := hHeld2; clear hHeld2
      try simp only [Act.put, zS, z0, z1]
      refine tkA 9 ⟨some 26, .unOp .not 4 (.tmp 25), 4, "ref.go:216", #[⟨8, .data⟩], none⟩ hHeld ?_
      try simp only [Act.put, zS, z0, z1]
      refine wpAnyH_done (by kernel_rfl) ?_ _
      have HBU := hid (HBr.out.trans (HP1.out.mono HBr.out.size))
      go_wp2
      go_roundw
      case rel => exact ⟨k + 1, by go_num, by omega, HBU.out⟩
      case measure => simp [intOf]; omega
    · have hlt' : ¬ (k : Int) < (n1 : Int) := by omega
      go_wp2
      go_ret
      exact ⟨rfl, HBr.out⟩

theorem app_dom {w : World} {s : Value} {vs : List (List Value)} {n : Nat} (hn : vs.length = n) (hv : ∀ c ∈ vs, c.length = 6) (h : w.ownsRow 0 37 6 s n vs.flatten) (ad : Addr) (cp : Nat) (c : List Value) (hc : c.length = 6) (hcells : ∀ j u, c[j]? = some u → w.cell? (ad.add j) = some u) (h1 : ∀ u ∈ c, u.oneCell' = true) (hlen : (n + 1) * 96 ≤ 140737488355328) (ty : TypeId) :
    ∃ v' w', (Builtin.append_ #[22, 22] ty #[s, .slice (some ad) 1 cp]).run Tryz.prog w = .ok v' w' ∧ w'.ownsRow 0 37 6 v' (n + 1) (vs ++ [c]).flatten ∧ w.grownBy w' s.ownBlock ∧ (∀ b, v'.ownBlock = some b → s.ownBlock = some b ∨ w.heap.size ≤ b) := by
  obtain ⟨i0, hi0, hz0, hz1, hz2⟩ := info_parts (show (Tryz.prog.info? 37).map (fun i => (i.zero, i.size, i.bytes)) = some (some (.agg #[.bool false, .slice none 0 0, .slice none 0 0, .slice none 0 0, .int .i64 0, .int .i64 0]), 6, 96) by kernel_rfl)
  obtain ⟨v', w', hr, ho, hg, _⟩ := run_append_own (P := Tryz.prog) w 0 22 ty 37 i0 _ 6 96 Tryz.underlying22 hi0 hz0 hz1 hz2 rfl (by decide) s n vs.flatten h ad 1 cp c (by omega) hcells h1 (by unfold maxLen; omega) (by omega) (Nat.zero_le _)
  refine ⟨v', w', hr, ?_, hg, ?_⟩
  · rw [List.flatten_append, List.flatten_singleton]; exact ho
  · intro b hb
    rcases h.2 with ⟨rfl, hn0⟩ | ⟨g, cap, cur, rfl, hbg, hgg, hnc, hcm, hcs, htake⟩
    · have hr2 := run_append_nil (P := Tryz.prog) w 22 ty 37 i0 _ Tryz.underlying22 hi0 hz0 ad 1 cp c (by rw [hz1]; omega) hcells (by omega) (by omega) (by rw [hz2]; omega)
      rw [hr] at hr2
      injection hr2 with e1 e2
      subst e1
      injection hb with hb
      subst hb
      exact .inr (Nat.le_refl _)
    · by_cases hroom : n + 1 ≤ cap
      · have hfit : n * i0.size + c.length ≤ cur.size := by
          rw [hz1, hc, hcs]
          have : (n + 1) * 6 ≤ cap * 6 := Nat.mul_le_mul_right _ hroom
          omega
        have hr2 := run_append_room (P := Tryz.prog) w 22 ty 37 i0 Tryz.underlying22 hi0 g n cap cur hgg ad 1 cp c (by rw [hz1]; omega) hcells h1 hroom hfit
        rw [hr] at hr2
        injection hr2 with e1 e2
        subst e1
        exact .inl hb
      · have hr2 := run_append_grow (P := Tryz.prog) w 22 ty 37 i0 _ Tryz.underlying22 hi0 hz0 ⟨g, 0, none⟩ n cap vs.flatten (by rw [hz1]; exact h.1) (h.cells (g := g) rfl) ad 1 cp c (by rw [hz1]; omega) hcells (by omega) (by omega) (growslice_fits (by omega) (by rw [hz2]; omega))
        rw [hr] at hr2
        injection hr2 with e1 e2
        subst e1
        injection hb with hb
        subst hb
        exact .inr (Nat.le_refl _)
theorem list_dom {w : World} {s : Value} {vs : List (List Value)} {n : Nat} (hn : vs.length = n) (hv : ∀ c ∈ vs, c.length = 6) (h : w.ownsRow 0 37 6 s n vs.flatten) {ops : Array Oper} {rest : List Oper} {o : Oper} {a : Act} {Q : Exit → Act → World → Prop} (hgd : o.guard = none) (so xo : Operand) (ho : o.op = .call { callee := .builtin .append, args := #[so, xo], argTypes := #[22, 22] })
    (hs : a.eval so = s) (ad : Addr) (cp : Nat) (hx : a.eval xo = .slice (some ad) 1 cp) (c : List Value) (hc : c.length = 6) (hcells : ∀ j u, c[j]? = some u → w.cell? (ad.add j) = some u) (h1 : ∀ u ∈ c, u.oneCell' = true) (hlen : (n + 1) * 96 ≤ 140737488355328)
    (hK : ∀ v' w', w'.ownsRow 0 37 6 v' (n + 1) (vs ++ [c]).flatten → w.grownBy w' s.ownBlock → (∀ b, v'.ownBlock = some b → s.ownBlock = some b ∨ w.heap.size ≤ b) → wpList Tryz.prog ops Q rest (a.put o.dst v') w') : wpList Tryz.prog ops Q (o :: rest) a w :=
  wpList_plain hgd fun _ hK' => by
    obtain ⟨v', w', hr, h2, h3, h4⟩ := app_dom hn hv h ad cp c hc hcells h1 hlen o.type
    unfold Oper.wp execOp
    simp only [ho, resolve, invoke, builtin, Sem.run_bind, Sem.run_pure, Result.andThen_ok, List.map_toArray, List.map_cons, List.map_nil, hs, hx, hr]
    exact hK' _ _ (hK v' w' h2 h3 h4)
end Go.Proofs.YtghnfnieppfhgaaGreat


namespace Go.Proofs.YtghnfnieppfhgaaGreat
open Go.RowKit Go.Shelf
set_option linter.unusedVariables false
set_option linter.unusedSimpArgs false

theorem Dc.weak {X : Nat → Prop} {w : World} {c : List Value} {d : MD} (h : Dc X w c d) : Dc (fun _ => False) w c d := h.up (fun b hb => hb.elim)
/-- A list of domains in memory of its own. -/
structure LD (N : Nat) (w : World) (v : Value) (D : List MD) (vs : List (List Value)) : Prop where
  n : vs.length = D.length
  r : Rw w 37 v 6 vs
  d : ∀ (i : Nat) (c : List Value) (d : MD), vs[i]? = some c → D[i]? = some d → Dc (fun b => v.ownBlock = some b) w c d
  b : ∀ g, v.ownBlock = some g → N ≤ g
theorem LD.ds {N : Nat} {w : World} {v : Value} {D : List MD} {vs : List (List Value)} (h : LD N w v D vs) : Ds w v D := by
  obtain ⟨a, c, e, hcc, hm⟩ := h.r.shape
  refine ⟨a, c, by rw [e, h.n], fun h0 => ?_⟩
  have hv0 : 0 < vs.length := by rw [h.n]; exact h0
  obtain ⟨g, cap, e2, hgl, hat⟩ : ∃ g cap, v = .slice (some ⟨g, 0, none⟩) vs.length cap ∧ g < w.heap.size ∧ True := by
    rcases h.r.2.2 with ⟨q1, q2⟩ | ⟨g, cap, cur, q1, _, q3, _⟩
    · omega
    · exact ⟨g, cap, q1, (Array.getElem?_eq_some_iff.1 q3).1, trivial⟩
  rw [e] at e2
  injection e2 with e3 _ _
  refine ⟨g, 0, e3, hgl, fun i d hd => ?_⟩
  have hi : i < vs.length := by rw [h.n]; exact (List.getElem?_eq_some_iff.1 hd).1
  have hc : vs[i]? = some vs[i] := List.getElem?_eq_getElem hi
  have hdc := h.d i _ d hc hd
  have hl6 := hdc.len
  obtain ⟨g2, cap2, e4, _, _, _, hra, _⟩ := h.r.at hc
  rw [e] at e4
  injection e4 with e5 _ _
  obtain rfl : g = g2 := by
    rw [e3] at e5
    injection e5 with e5
    injection e5
  obtain ⟨c0, c1, c2, c3, c4, c5, hv6⟩ := list6 hl6
  rw [hv6] at hdc hra
  have cell : ∀ j u, [c0, c1, c2, c3, c4, c5][j]? = some u → w.cell? ⟨g, 0 + i * 6 + j, none⟩ = some u := fun j u hu => by rw [Nat.zero_add]; exact hra j u hu
  exact ⟨c0, c1, c2, c3, c4, c5, hdc.weak, cell 0 _ rfl, cell 1 _ rfl, cell 2 _ rfl, cell 3 _ rfl, cell 4 _ rfl, cell 5 _ rfl⟩

end Go.Proofs.YtghnfnieppfhgaaGreat

