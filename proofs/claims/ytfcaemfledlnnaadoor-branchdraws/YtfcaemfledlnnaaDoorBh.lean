/-
  What is proved here: the ends of a domain of whole numbers; what is tried of one, where nothing is drawn.
-/
import Derived.Test.YtfcaemfledlnnaaDoorBg
namespace Go.Proofs.YtfcaemfledlnnaaDoor
open Go.RowKit Go.Shelf
set_option linter.unusedVariables false
set_option linter.unusedSimpArgs false

def loM (d : MD) : Int := Dm.lo d.r 0
def hiM (d : MD) : Int := Dm.hi d.r (d.r.length - 1)
theorem Rm.at {X : Nat → Prop} {w : World} {p : Option Addr} {n k : Nat} {l : List Dm.Rg} (h : Rm X w (.slice p n k) l) (h0 : 0 < n) : l.length = n ∧ ∃ b off, p = some ⟨b, off, none⟩ ∧ b < w.heap.size ∧ w.cell? ⟨b, off, none⟩ = some (.int .i64 (Dm.lo l 0)) ∧ w.cell? ⟨b, off + (n - 1) * 2 + 1, none⟩ = some (.int .i64 (Dm.hi l (n - 1))) := by
  obtain ⟨a, c, e, h⟩ := h
  injection e with e1 e2 e3
  obtain ⟨b, off, h1, h2, _, h3⟩ := h (by omega)
  exact ⟨e2.symm, b, off, e1.trans h1, h2, by simpa using (h3 0 (by omega)).1, (h3 (n - 1) (by omega)).2⟩

set_option maxRecDepth 100000 in
set_option maxHeartbeats 4000000 in
theorem ends_w {X : Nat → Prop} {W : World} {c : List Value} {d : MD} (h : Dc X W c d) (hs : d.set = false) (hr : 0 < d.r.length) (hr2 : d.r.length ≤ 4611686018427387903) :
    Calls Tryd.prog 27 #[.agg c.toArray] W fun e w' => e = .returned (.tuple #[.int .i64 (loM d), .int .i64 (hiM d)]) ∧ Below W.heap.size W w' := by
  obtain ⟨b, ra, n0, rc, a1, n1, c1, a2, n2, c2, x, y, rfl, HE, H1, H2, H3⟩ := h.look
  obtain rfl : b = false := by rw [← HE.out.1, hs]
  obtain ⟨W0, hW0⟩ : ∃ Q, W.alloc (Obj.cells #[.bool false, .slice ra n0 rc, .slice a1 n1 c1, .slice a2 n2 c2, .int .i64 x, .int .i64 y] 40) = Q := ⟨_, rfl⟩
  have hb0 : Below W.heap.size W W0 := by rw [← hW0]; exact (Below.refl _ W).alloc (Nat.le_refl _) _
  have HB0 : Hid (Bx W0 W.heap.size #[.bool false, .slice ra n0 rc, .slice a1 n1 c1, .slice a2 n2 c2, .int .i64 x, .int .i64 y] 40) := by rw [← hW0]; exact Bx.new _ _ _
  have hn : d.r.length = n0 := HE.out.2.1
  obtain ⟨_, b1, off1, rfl, hlt, g0, g1⟩ := (H1.out.kept (Kept.of_below hb0)).at (by omega)
  have HM : Hid (hiM d = Dm.hi d.r (n0 - 1) ∧ loM d = Dm.lo d.r 0) := by unfold Hid hiM loM; rw [hn]; exact ⟨rfl, rfl⟩
  rw [HM.out.1, HM.out.2]
  obtain ⟨z0, z1, z2, z3, z4, z5⟩ := HB0.out.six
  have HBB : Hid (Below W.heap.size W W0) := hb0
  have HWW : Hid _ := hW0
  have hn0 : 0 < n0 := by omega
  have hcast : ((n0 : Int) - 1) = ((n0 - 1 : Nat) : Int) := by omega
  have hw1 : wrap64 ((n0 : Int) - 1) = ((n0 - 1 : Nat) : Int) := by unfold wrap64; omega
  have hlt1 : n0 - 1 < n0 := by omega
  generalize Dm.lo d.r 0 = q0 at *
  generalize Dm.hi d.r (n0 - 1) = q1 at *
  generalize n0 - 1 = m at *
  clear hb0 hW0 H1 H2 H3 HE hs h HM hn hr
  go_enter Tryd.func27, Tryd.ntmps27
  go_upto_region 1 with (fail)
  rw [HWW.out]
  go_upto_region 4 with (fail)
  go_quiet (fail)
  go_wp2
  go_ret2
  exact ⟨rfl, below_drewN HBB.out _⟩
/-- What is tried of a whole number, where nothing is drawn. -/
def numM (how lo hi : Int) : Int × Int := if how = 1 then (0, hi) else if how = 3 then (2, (lo + hi) / 2) else if how = 4 then (3, (lo + hi) / 2) else (0, lo)

set_option maxRecDepth 100000 in
set_option maxHeartbeats 4000000 in
theorem number_few {X : Nat → Prop} {W : World} {ra : Option Addr} {n0 rc : Nat} {r : List Dm.Rg} (h : Rm X W (.slice ra n0 rc) r) (hr : 0 < r.length) (hr2 : r.length ≤ 4611686018427387903) (how : Int) (h2 : how ≠ 2) (h5 : how ≠ 5) (rv : Value) (hrv : rv.oneCell' = true)
    (hb : -1000000 ≤ Dm.lo r 0 ∧ Dm.lo r 0 ≤ 1000000 ∧ -1000000 ≤ Dm.hi r (r.length - 1) ∧ Dm.hi r (r.length - 1) ≤ 1000000) :
    Calls Tryd.prog 16 #[.int .i64 how, .slice ra n0 rc, rv] W fun e w' => e = .returned (.tuple #[.int .i64 (numM how (Dm.lo r 0) (Dm.hi r (r.length - 1))).1, .int .i64 (numM how (Dm.lo r 0) (Dm.hi r (r.length - 1))).2]) ∧ Below W.heap.size W w' := by
  have hn : r.length = n0 := by obtain ⟨_, _, e, _⟩ := h; injection e with _ e2 _; exact e2.symm
  have hD : Dc X W [.bool false, .slice ra n0 rc, .slice none 0 0, .slice none 0 0, .int .i64 0, .int .i64 0] ⟨false, r, [], [], 0, 0⟩ := by
    subst hn
    exact ⟨ra, rc, none, 0, none, 0, rfl, h, Nm.empty _ _, Nm.empty _ _⟩
  have ke := ends_w hD rfl hr hr2
  have HE : Hid (loM ⟨false, r, [], [], 0, 0⟩ = Dm.lo r 0 ∧ hiM ⟨false, r, [], [], 0, 0⟩ = Dm.hi r (r.length - 1)) := ⟨rfl, rfl⟩
  rw [HE.out.1, HE.out.2] at ke
  clear hD h hr hr2 HE hn
  generalize Dm.lo r 0 = lo at *
  generalize Dm.hi r (r.length - 1) = hi at *
  have hw : wrap64 (lo + hi) = lo + hi := by unfold wrap64; omega
  have e2 : (how == 2) = false := by simpa using h2
  have e5 : (how == 5) = false := by simpa using h5
  by_cases h1 : how = 1
  · subst h1
    have HM : Hid (numM 1 lo hi = ((0 : Int), hi)) := rfl
    rw [HM.out]
    go_enter Tryd.func16, Tryd.ntmps16
    go_wp2_with (go_at_call 27; refine ke.mono ?_; rintro e w1 ⟨rfl, hb1⟩)
    go_ret2
    exact ⟨rfl, hb1⟩
  · have e1 : (how == 1) = false := by simpa using h1
    by_cases h3 : how = 3
    · subst h3
      have HM : Hid (numM 3 lo hi = ((2 : Int), (lo + hi) / 2)) := rfl
      rw [HM.out]
      go_enter Tryd.func16, Tryd.ntmps16
      go_wp2_with (go_at_call 27; refine ke.mono ?_; rintro e w1 ⟨rfl, hb1⟩)
      go_ret2
      exact ⟨rfl, hb1⟩
    · have e3 : (how == 3) = false := by simpa using h3
      by_cases h4 : how = 4
      · subst h4
        have HM : Hid (numM 4 lo hi = ((3 : Int), (lo + hi) / 2)) := rfl
        rw [HM.out]
        go_enter Tryd.func16, Tryd.ntmps16
        go_wp2_with (go_at_call 27; refine ke.mono ?_; rintro e w1 ⟨rfl, hb1⟩)
        go_ret2
        exact ⟨rfl, hb1⟩
      · have e4 : (how == 4) = false := by simpa using h4
        have HM : Hid (numM how lo hi = ((0 : Int), lo)) := by unfold Hid numM; rw [if_neg h1, if_neg h3, if_neg h4]
        rw [HM.out]
        go_enter Tryd.func16, Tryd.ntmps16
        go_wp2_with (go_at_call 27; refine ke.mono ?_; rintro e w1 ⟨rfl, hb1⟩)
        go_ret2
        exact ⟨rfl, hb1⟩
end Go.Proofs.YtfcaemfledlnnaaDoor
