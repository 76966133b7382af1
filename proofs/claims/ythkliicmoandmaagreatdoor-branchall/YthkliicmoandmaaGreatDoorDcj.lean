/-
  What is proved here: the ends of a domain that has several values; the ranks of all selectors.
  What is proved here: draws, there or not; what is drawn of a list; the value of a number.
-/
import Derived.Test.YthkliicmoandmaaGreatDoorBgj
import Derived.Test.YthkliicmoandmaaGreatDoorDb
import Derived.Test.YthkliicmoandmaaGreatDoorYUbj
import Derived.Deep.RegionHeld3
namespace Go.Proofs.YthkliicmoandmaaGreatDoor
open Go.RowKit Go.Shelf
set_option linter.unusedVariables false
set_option linter.unusedSimpArgs false

/-- The elements that may be there or not. -/
def freeL (d : MD) : List Int := St.lessL (St.tkS d.up) (St.tkS d.lo)
def endsD (d : MD) : Int × Int := if d.set then (St.nth (freeL d) 0, St.nth (freeL d) ((freeL d).length - 1)) else (loM d, hiM d)
theorem sev_right {d : MD} (h : sevB d = true) : rightM d = true ∧ emptyA d = false ∧ onlyA d = false := by
  unfold sevB at h
  simp only [Bool.and_eq_true, Bool.not_eq_true'] at h
  exact ⟨h.1.1, h.1.2, h.2⟩
theorem sev_num {d : MD} (h : sevB d = true) (hs : d.set = false) : 0 < d.r.length ∧ Dm.Right d.r := by
  obtain ⟨h1, h2, _⟩ := sev_right h
  unfold rightM at h1
  rw [hs] at h1
  simp only [Bool.false_eq_true, if_false] at h1
  unfold rightW at h1
  simp only [Bool.and_eq_true] at h1
  unfold emptyA emptyW at h2
  rw [hs] at h2
  simp only [Bool.false_eq_true, if_false, decide_eq_false_iff_not] at h2
  refine ⟨by omega, ?_⟩
  have := h1.1.1.1.1
  unfold Dm.rightB at this
  simpa using this
theorem sev_set {d : MD} (h : sevB d = true) (hs : d.set = true) : St.RightD (sdM d) ∧ d.lo.length < d.up.length ∧ d.least ≤ d.most := by
  obtain ⟨h1, h2, h3⟩ := sev_right h
  unfold rightM at h1
  rw [if_pos hs] at h1
  have hR : St.RightD (sdM d) := by unfold St.rightD at h1; simpa using h1
  unfold emptyA at h2
  rw [if_pos hs] at h2
  have hle : d.least ≤ d.most := by have := of_decide_eq_false h2; omega
  refine ⟨hR, ?_, hle⟩
  unfold onlyA at h3
  rw [if_pos hs] at h3
  have hc := St.fixed_one (sdM d)
  have hcnt : St.countD (sdM d) ≠ 1 := by
    rcases hc with ⟨_, q, _⟩ | ⟨q, _⟩
    · rw [q] at h3; exact absurd h3 (by decide)
    · exact q
  obtain ⟨_, _, s1, s2, s3, s4⟩ := id hR
  have hlen := St.set_sub_len s1 s2 (St.right_sub hR)
  rcases Nat.lt_or_ge (sdM d).lo.length (sdM d).up.length with q | q
  · exact q
  · exfalso
    have e : (sdM d).lo = (sdM d).up := St.set_sub_eq s1 s2 (St.right_sub hR) q
    apply hcnt
    rw [St.count_right hR]
    rcases s4 with ⟨q1, q2, _⟩ | ⟨q1, q2, q3⟩
    · have e1 : d.least = 1 := q1
      have e2 : d.most = 0 := q2
      omega
    · unfold St.NSd
      rw [e, Nat.sub_self]
      have hl2 : (sdM d).least = (sdM d).up.length := by rw [← e]; rw [← e] at q3; omega
      have hm2 : (sdM d).most = (sdM d).up.length := by rw [← e]; rw [← e] at q3; omega
      rw [hl2, hm2]
      simp [St.NS, St.sm, St.nsf, St.ch]
      decide
theorem free_pos {d : MD} (h : sevB d = true) (hs : d.set = true) : 0 < (freeL d).length ∧ (freeL d).length ≤ 64 := by
  obtain ⟨hR, hl, _⟩ := sev_set h hs
  obtain ⟨_, _, s1, s2, s3, s4⟩ := id hR
  have e1 : St.tkS d.up = d.up := St.tkS_yes s2
  have e2 : St.tkS d.lo = d.lo := St.tkS_yes s1
  unfold freeL
  rw [e1, e2]
  constructor
  · rcases Nat.eq_zero_or_pos (St.lessL d.up d.lo).length with q | q
    · exfalso
      have hem : St.lessL d.up d.lo = [] := List.eq_nil_of_length_eq_zero q
      have hsub : ∀ x ∈ d.up, x ∈ d.lo := fun x hx => by
        by_cases hm : x ∈ d.lo
        · exact hm
        · exact absurd ((St.less_mem _ _ _).2 ⟨hx, hm⟩) (by rw [hem]; simp)
      have := St.set_sub_len s2 s1 hsub
      have a1 : (sdM d).lo = d.lo := rfl
      have a2 : (sdM d).up = d.up := rfl
      rw [a1, a2] at this
      omega
    · exact q
  · exact Nat.le_trans (List.length_filter_le _ _) s2.1
theorem Si.at {w : World} {p : Option Addr} {n k : Nat} {l : List Int} (h : St.Si w (.slice p n k) l) (h0 : 0 < n) : l.length = n ∧ ∃ b off, p = some ⟨b, off, none⟩ ∧ b < w.heap.size ∧ ∀ i, i < n → w.cell? ⟨b, off + i, none⟩ = some (.int .i64 (St.nth l i)) := by
  obtain ⟨a, c, e, h⟩ := h
  injection e with e1 e2 e3
  obtain ⟨b, off, h1, h2, h3⟩ := h (by omega)
  exact ⟨e2.symm, b, off, e1.trans h1, h2, fun i hi => h3 i (by omega)⟩

set_option maxRecDepth 100000 in
set_option maxHeartbeats 4000000 in
theorem ends_s {X : Nat → Prop} {W : World} {c : List Value} {d : MD} (h : Dc X W c d) (hs : d.set = true) (hp : 0 < (freeL d).length) (hq : (freeL d).length ≤ 64) :
    Calls Tryz.prog 78 #[.agg c.toArray] W fun e w' => e = .returned (.tuple #[.int .i64 (St.nth (freeL d) 0), .int .i64 (St.nth (freeL d) ((freeL d).length - 1))]) ∧ Below W.heap.size W w' := by
  obtain ⟨b, ra, n0, rc, a1, n1, c1, a2, n2, c2, x, y, rfl, HE, H1, H2, H3⟩ := h.look
  obtain rfl : b = true := by rw [← HE.out.1, hs]
  obtain ⟨W0, hW0⟩ : ∃ Q, W.alloc (Obj.cells #[.bool true, .slice ra n0 rc, .slice a1 n1 c1, .slice a2 n2 c2, .int .i64 x, .int .i64 y] 50) = Q := ⟨_, rfl⟩
  have hb0 : Below W.heap.size W W0 := by rw [← hW0]; exact (Below.refl _ W).alloc (Nat.le_refl _) _
  have HB0 : Hid (Bx W0 W.heap.size #[.bool true, .slice ra n0 rc, .slice a1 n1 c1, .slice a2 n2 c2, .int .i64 x, .int .i64 y] 50) := by rw [← hW0]; exact Bx.new _ _ _
  have kl := St.less_any (.slice a2 n2 c2) (.slice a1 n1 c1) d.up d.lo W0 (H3.out.si.below hb0) (H2.out.si.below hb0)
  have HF : Hid (St.lessL (St.tkS d.up) (St.tkS d.lo) = freeL d) := rfl
  rw [HF.out] at kl
  generalize freeL d = fl at *
  obtain ⟨nf, hnf⟩ : ∃ q, fl.length = q := ⟨_, rfl⟩
  rw [hnf] at hp hq ⊢
  have HBB : Hid (Below W.heap.size W W0) := hb0
  have HWW : Hid _ := hW0
  have HNF : Hid (fl.length = nf) := hnf
  obtain ⟨z0, z1, z2, z3, z4, z5⟩ := HB0.out.six
  obtain ⟨q0, hq0⟩ : ∃ q, St.nth fl 0 = q := ⟨_, rfl⟩
  obtain ⟨q1, hq1⟩ : ∃ q, St.nth fl (nf - 1) = q := ⟨_, rfl⟩
  rw [hq0, hq1]
  have HQ0 : Hid _ := hq0
  have HQ1 : Hid _ := hq1
  clear hb0 hW0 H1 H2 H3 HE hs h HF hnf hq0 hq1
  go_enter Tryz.func78, Tryz.ntmps78
  go_upto_region 1 with (fail)
  rw [HWW.out]
  go_wp2_with fail
  refine kl.mono ?_
  clear kl z0 z1 z2 z3 z4 z5
  rintro e w1 ⟨v, rfl, hfr, hb1⟩
  have hsi := hfr.si
  obtain ⟨fa, fc, rfl⟩ : ∃ a c, v = .slice a nf c := by obtain ⟨a, c, e, _⟩ := hsi; exact ⟨a, c, by rw [e, HNF.out]⟩
  obtain ⟨_, b1, off1, rfl, hlt, hcell⟩ := Si.at hsi hp
  have g0 : w1.cell? ⟨b1, off1, none⟩ = some (.int .i64 (St.nth fl 0)) := by have := hcell 0 hp; rwa [Nat.add_zero] at this
  have g1 := hcell (nf - 1) (by omega)
  have hb2 : Below W.heap.size W w1 := HBB.out.trans (hb1.mono HBB.out.size)
  have HB2 : Hid (Below W.heap.size W w1) := hb2
  have hcast : ((nf : Int) - 1) = ((nf - 1 : Nat) : Int) := by omega
  have hw1 : wrap64 ((nf : Int) - 1) = ((nf - 1 : Nat) : Int) := by unfold wrap64; omega
  have hlt1 : nf - 1 < nf := by omega
  rw [HQ0.out] at g0
  rw [HQ1.out] at g1
  clear HQ0 HQ1
  generalize nf - 1 = m at *
  clear hfr hsi hcell hb1 hb2 HNF
  go_upto_region 3 with (fail)
  go_quiet (fail)
  go_wp2
  go_ret2
  exact ⟨rfl, below_drewN HB2.out _⟩

theorem right_len {l : List Dm.Rg} (h : Dm.Right l) : l.length ≤ 4611686018427387903 := Nat.le_trans h.1 (by decide)
theorem ends_d {X : Nat → Prop} {W : World} {c : List Value} {d : MD} (h : Dc X W c d) (hv : sevB d = true) :
    Calls Tryz.prog 78 #[.agg c.toArray] W fun e w' => e = .returned (.tuple #[.int .i64 (endsD d).1, .int .i64 (endsD d).2]) ∧ Below W.heap.size W w' := by
  unfold endsD
  cases hs : d.set
  · simp only [Bool.false_eq_true, if_false]
    exact ends_w h hs (sev_num hv hs).1 (right_len (sev_num hv hs).2)
  · simp only [if_true]
    exact ends_s h hs (free_pos hv hs).1 (free_pos hv hs).2
theorem siz_bounds (d : MD) : 0 ≤ sizA d ∧ sizA d ≤ 4611686018427387904 := by
  unfold sizA
  split
  · rw [St.count_NS]; have := St.NS_nonneg ((St.takenD (sdM d)).up.length - (St.takenD (sdM d)).lo.length) (St.takenD (sdM d)).lo.length (St.takenD (sdM d)).least (St.takenD (sdM d)).most; unfold St.NSd; omega
  · have hR := Dm.tk_right d.r
    obtain ⟨ho, hi⟩ := Dm.right_ord hR
    constructor
    · rw [Dm.sizeR_vals ho.1]; omega
    · have : Dm.sizeR (Dm.tk d.r) ≤ 2000001 * (Dm.tk d.r).length := by
        unfold Dm.sizeR
        clear hR
        have h1 := ho.1
        have h2 := hi
        clear ho hi
        generalize Dm.tk d.r = l at *
        induction l with
        | nil => simp
        | cons r t ih =>
          have := ih (fun q hq => h1 q (by simp [hq])) (fun q hq => h2 q (by simp [hq]))
          have q1 := h1 r (by simp)
          have q2 := h2 r (by simp)
          simp only [List.map_cons, List.sum_cons, List.length_cons]
          omega
      have := hR.1
      omega
theorem ends_bounds {d : MD} (h : sevB d = true) : -1000000 ≤ (endsD d).1 ∧ (endsD d).1 ≤ 1000000 ∧ -1000000 ≤ (endsD d).2 ∧ (endsD d).2 ≤ 1000000 := by
  unfold endsD
  cases hs : d.set
  · simp only [Bool.false_eq_true, if_false]
    obtain ⟨h1, h2⟩ := sev_num h hs
    have a1 := h2.2 0 h1
    have a2 := h2.2 (d.r.length - 1) (by omega)
    unfold Dm.OkAt at a1 a2
    unfold loM hiM
    omega
  · simp only [if_true]
    obtain ⟨hR, _, _⟩ := sev_set h hs
    obtain ⟨h1, h2⟩ := free_pos h hs
    have e1 : St.tkS d.up = d.up := St.tkS_yes hR.2.2.2.1
    have hm : ∀ i, i < (freeL d).length → St.nth (freeL d) i ∈ d.up := fun i hi => by
      have : St.nth (freeL d) i ∈ freeL d := by unfold St.nth; rw [List.getD_eq_getElem?_getD, List.getElem?_eq_getElem hi]; exact List.getElem_mem hi
      unfold freeL at this ⊢
      rw [e1] at this ⊢
      exact ((St.less_mem _ _ _).1 this).1
    have b1 := St.set_mem hR.2.2.2.1 _ (hm 0 h1)
    have b2 := St.set_mem hR.2.2.2.1 _ (hm _ (show (freeL d).length - 1 < (freeL d).length by omega))
    omega
/-- The rank that a selector gives. -/
def rankF (how : Int) (d : MD) : Int := if how = 1 then sizA d else if how = 2 then -sizA d else if how = 3 then (endsD d).1 else if how = 4 then -(endsD d).2 else 0

set_option maxRecDepth 100000 in
set_option maxHeartbeats 4000000 in
theorem rank_anti : RankC 2 (fun d => -sizA d) := by
  intro X W c d h hg hs
  dsimp only
  obtain ⟨b, ra, n0, rc, a1, n1, c1, a2, n2, c2, x, y, rfl, HE, H1, H2, H3⟩ := h.look
  obtain ⟨W0, hW0⟩ : ∃ Q, W.alloc (Obj.cells #[.bool b, .slice ra n0 rc, .slice a1 n1 c1, .slice a2 n2 c2, .int .i64 x, .int .i64 y] 50) = Q := ⟨_, rfl⟩
  have hb0 : Below W.heap.size W W0 := by rw [← hW0]; exact (Below.refl _ W).alloc (Nat.le_refl _) _
  have HB0 : Hid (Bx W0 W.heap.size #[.bool b, .slice ra n0 rc, .slice a1 n1 c1, .slice a2 n2 c2, .int .i64 x, .int .i64 y] 50) := by rw [← hW0]; exact Bx.new _ _ _
  have ks := ksize_any (h.below hb0) hg
  have HBB : Hid (Below W.heap.size W W0) := hb0
  have HWW : Hid _ := hW0
  obtain ⟨z0, z1, z2, z3, z4, z5⟩ := HB0.out.six
  have hsz := siz_bounds d
  clear hb0 hW0 H1 H2 H3 HE hs hg h
  generalize sizA d = q at *
  go_enter Tryz.func76, Tryz.ntmps76
  go_wp2_with fail
  rw [HWW.out]
  go_wp2_with fail
  refine ks.mono ?_
  rintro e w1 ⟨rfl, hb1⟩
  have hw : IntKind.i64.wrap (-q) = -q := by rw [IntKind.wrap_i64]; omega
  go_wp2
  go_ret
  exact ⟨rfl, HBB.out.trans (hb1.mono HBB.out.size)⟩

set_option maxRecDepth 100000 in
set_option maxHeartbeats 4000000 in
theorem rank_least : RankC 3 (fun d => (endsD d).1) := by
  intro X W c d h hg hs
  dsimp only
  obtain ⟨b, ra, n0, rc, a1, n1, c1, a2, n2, c2, x, y, rfl, HE, H1, H2, H3⟩ := h.look
  obtain ⟨W0, hW0⟩ : ∃ Q, W.alloc (Obj.cells #[.bool b, .slice ra n0 rc, .slice a1 n1 c1, .slice a2 n2 c2, .int .i64 x, .int .i64 y] 50) = Q := ⟨_, rfl⟩
  have hb0 : Below W.heap.size W W0 := by rw [← hW0]; exact (Below.refl _ W).alloc (Nat.le_refl _) _
  have HB0 : Hid (Bx W0 W.heap.size #[.bool b, .slice ra n0 rc, .slice a1 n1 c1, .slice a2 n2 c2, .int .i64 x, .int .i64 y] 50) := by rw [← hW0]; exact Bx.new _ _ _
  have ks := ends_d (h.below hb0) hs
  have HBB : Hid (Below W.heap.size W W0) := hb0
  have HWW : Hid _ := hW0
  obtain ⟨z0, z1, z2, z3, z4, z5⟩ := HB0.out.six
  have hsz := ends_bounds hs
  clear hb0 hW0 H1 H2 H3 HE hs hg h
  generalize (endsD d).1 = q at *
  generalize (endsD d).2 = q2 at *
  go_enter Tryz.func76, Tryz.ntmps76
  go_wp2_with fail
  rw [HWW.out]
  go_wp2_with fail
  refine ks.mono ?_
  rintro e w1 ⟨rfl, hb1⟩
  skip
  go_wp2
  go_ret
  exact ⟨rfl, HBB.out.trans (hb1.mono HBB.out.size)⟩

set_option maxRecDepth 100000 in
set_option maxHeartbeats 4000000 in
theorem rank_most : RankC 4 (fun d => -(endsD d).2) := by
  intro X W c d h hg hs
  dsimp only
  obtain ⟨b, ra, n0, rc, a1, n1, c1, a2, n2, c2, x, y, rfl, HE, H1, H2, H3⟩ := h.look
  obtain ⟨W0, hW0⟩ : ∃ Q, W.alloc (Obj.cells #[.bool b, .slice ra n0 rc, .slice a1 n1 c1, .slice a2 n2 c2, .int .i64 x, .int .i64 y] 50) = Q := ⟨_, rfl⟩
  have hb0 : Below W.heap.size W W0 := by rw [← hW0]; exact (Below.refl _ W).alloc (Nat.le_refl _) _
  have HB0 : Hid (Bx W0 W.heap.size #[.bool b, .slice ra n0 rc, .slice a1 n1 c1, .slice a2 n2 c2, .int .i64 x, .int .i64 y] 50) := by rw [← hW0]; exact Bx.new _ _ _
  have ks := ends_d (h.below hb0) hs
  have HBB : Hid (Below W.heap.size W W0) := hb0
  have HWW : Hid _ := hW0
  obtain ⟨z0, z1, z2, z3, z4, z5⟩ := HB0.out.six
  have hsz := ends_bounds hs
  clear hb0 hW0 H1 H2 H3 HE hs hg h
  generalize (endsD d).1 = q2 at *
  generalize (endsD d).2 = q at *
  go_enter Tryz.func76, Tryz.ntmps76
  go_wp2_with fail
  rw [HWW.out]
  go_wp2_with fail
  refine ks.mono ?_
  rintro e w1 ⟨rfl, hb1⟩
  have hw : IntKind.i64.wrap (-q) = -q := by rw [IntKind.wrap_i64]; omega
  go_wp2
  go_ret
  exact ⟨rfl, HBB.out.trans (hb1.mono HBB.out.size)⟩

theorem rank_all (how : Int) : RankC how (rankF how) := by
  by_cases h1 : how = 1
  · subst h1; exact fun X W c d h hg hs => by have := rank_first X W c d h hg hs; simpa [rankF] using this
  by_cases h2 : how = 2
  · subst h2; exact fun X W c d h hg hs => by have := rank_anti X W c d h hg hs; simpa [rankF] using this
  by_cases h3 : how = 3
  · subst h3; exact fun X W c d h hg hs => by have := rank_least X W c d h hg hs; simpa [rankF] using this
  by_cases h4 : how = 4
  · subst h4; exact fun X W c d h hg hs => by have := rank_most X W c d h hg hs; simpa [rankF] using this
  exact fun X W c d h hg hs => by have := rank_none how h1 h2 h3 h4 X W c d h hg hs; simpa [rankF, h1, h2, h3, h4] using this
end Go.Proofs.YthkliicmoandmaaGreatDoor

namespace Go.Proofs.YthkliicmoandmaaGreatDoor
open Go.RowKit Go.Shelf
set_option linter.unusedVariables false
set_option linter.unusedSimpArgs false

/-- Draws, or none. -/
def Dw (X : Nat → Prop) (w : World) (rv : Value) (l : List Int) : Prop := (rv = .pointer none ∧ l = []) ∨ ∃ p, rv = ptr p ∧ Dr X w p l
/-- The block of draws. -/
def DrB (rv : Value) (b : Nat) : Prop := rv = ptr b
theorem Dw.one {X : Nat → Prop} {w : World} {rv : Value} {l : List Int} (h : Dw X w rv l) : rv.oneCell' = true := by
  rcases h with ⟨rfl, _⟩ | ⟨p, rfl, _⟩ <;> rfl
theorem Dw.ptr {X : Nat → Prop} {w : World} {rv : Value} {l : List Int} (h : Dw X w rv l) : ∃ a, rv = .pointer a := by
  rcases h with ⟨rfl, _⟩ | ⟨p, rfl, _⟩
  · exact ⟨_, rfl⟩
  · exact ⟨_, rfl⟩
theorem Dw.lt {X : Nat → Prop} {w : World} {rv : Value} {l : List Int} (h : Dw X w rv l) {b : Nat} (hb : DrB rv b) : b < w.heap.size := by
  rcases h with ⟨rfl, _⟩ | ⟨p, rfl, h⟩
  · cases hb
  · obtain ⟨a, c, h1, _⟩ := h
    have : p = b := by cases hb; rfl
    subst this
    exact h1.lt
theorem Dr.below {X : Nat → Prop} {w w' : World} {p : Nat} {l : List Int} (h : Dr X w p l) (hb : Below w.heap.size w w') : Dr X w' p l := by
  obtain ⟨a, c, h1, h2, h3, h4⟩ := h
  refine ⟨a, c, h1.below hb, h2, h3, fun h0 => ?_⟩
  obtain ⟨b, off, e1, e2, e3, e5, e4⟩ := h4 h0
  exact ⟨b, off, e1, Nat.lt_of_lt_of_le e2 hb.size, e3, e5, fun i x hx => (hb.cell (p := ⟨b, _, none⟩) e2).trans (e4 i x hx)⟩
theorem Dw.below {X : Nat → Prop} {w w' : World} {rv : Value} {l : List Int} (h : Dw X w rv l) (hb : Below w.heap.size w w') : Dw X w' rv l := by
  rcases h with h | ⟨p, e, h⟩
  · exact .inl h
  · exact .inr ⟨p, e, h.below hb⟩

set_option maxRecDepth 100000 in
set_option maxHeartbeats 4000000 in
theorem next_nil0 (W : World) (m : Int) (hm : m < 1) : Calls Tryz.prog 74 #[.pointer none, .int .i64 m] W fun e w' => e = .returned (.int .i64 0) ∧ w' = W := by
  have hm' : decide (m < 1) = true := by simpa using hm
  go_enter Tryz.func74, Tryz.ntmps74
  go_wp2
  go_ret
  exact ⟨rfl, rfl⟩
theorem next_w {X : Nat → Prop} {W : World} {rv : Value} {R : List Int} (h : Dw X W rv R) (m : Int) (hM : m ≤ 9223372036854775807) :
    Calls Tryz.prog 74 #[rv, .int .i64 m] W fun e w' => e = .returned (.int .i64 (nextM R m).1) ∧ Dw X w' rv (nextM R m).2 ∧ Kept (DrB rv) W w' := by
  rcases h with ⟨rfl, rfl⟩ | ⟨p, rfl, h⟩
  · have e0 : nextM [] m = (0, []) := by unfold nextM; split <;> rfl
    rw [e0]
    by_cases hm : m < 1
    · exact (next_nil0 W m hm).mono fun e w' ⟨he, hw⟩ => ⟨he, .inl ⟨rfl, rfl⟩, by rw [hw]; exact Kept.refl _ _⟩
    · exact (next_nil W m (by omega)).mono fun e w' ⟨he, hw⟩ => ⟨he, .inl ⟨rfl, rfl⟩, by rw [hw]; exact Kept.refl _ _⟩
  · exact (next_any h m hM).mono fun e w' ⟨he, hd, hk⟩ => ⟨he, .inr ⟨p, rfl, hd⟩, ⟨hk.os, hk.tape, hk.output, hk.size, fun b hb hn => hk.block b hb (fun e => hn (by rw [e]; rfl))⟩⟩
theorem next_in (R : List Int) {m : Int} (hm : 1 ≤ m) : 0 ≤ (nextM R m).1 ∧ (nextM R m).1 < m := by
  unfold nextM
  rw [if_neg (by omega)]
  cases R with
  | nil => exact ⟨Int.le_refl _, by show (0 : Int) < m; omega⟩
  | cons x r =>
    have := mod_lt (x := x) hm
    show 0 ≤ modV x m ∧ modV x m < m
    unfold modV
    split <;> omega
theorem nth_get {l : List Int} {i : Nat} (h : i < l.length) : l[i]? = some (St.nth l i) := by
  unfold St.nth; rw [List.getD_eq_getElem?_getD, List.getElem?_eq_getElem h]; rfl

set_option maxRecDepth 100000 in
set_option maxHeartbeats 4000000 in
theorem which_rand {X : Nat → Prop} {W : World} {pv : Option Addr} {nl kv : Nat} {val : Int} {p2 : Option Addr} {nd k2 : Nat} {l R : List Int} {rv : Value} (hv : Nm (DrB rv) W (.slice pv nl kv) l) (h0 : 0 < l.length) (hl : l.length ≤ 9223372036854775806) (hr : Dw X W rv R) :
    Calls Tryz.prog 39 #[.agg #[.slice pv nl kv, .int .i64 5, .int .i64 val], .slice p2 nd k2, rv] W fun e w' => e = .returned (.int .i64 (St.nth l (nextM R l.length).1.toNat)) ∧ Dw X w' rv (nextM R l.length).2 ∧ Kept (DrB rv) W w' := by
  obtain ⟨N, hN⟩ : ∃ N, W.heap.size = N := ⟨_, rfl⟩
  obtain ⟨W0, hW0⟩ : ∃ Q, W.alloc (Obj.cells #[.slice pv nl kv, .int .i64 5, .int .i64 val] 71) = Q := ⟨_, rfl⟩
  have hb0 : Below W.heap.size W W0 := by rw [← hW0]; exact (Below.refl _ W).alloc (Nat.le_refl _) _
  have hp0 : Bx W0 N #[.slice pv nl kv, .int .i64 5, .int .i64 val] 71 := by rw [← hW0]; exact Bx.new' hN _ _
  have hln : l.length = nl := by obtain ⟨_, _, e, _⟩ := hv; injection e with _ e2 _; exact e2.symm
  obtain ⟨ra, hra⟩ := hr.ptr
  have hne : ¬ DrB rv N := fun h => by have := hr.lt h; omega
  obtain ⟨a, c, e, hc⟩ := hv
  obtain ⟨b1, off1, e1, hb1, hx1, hcell⟩ := hc h0
  injection e with q1 q2 q3
  obtain rfl : pv = some ⟨b1, off1, none⟩ := q1.trans e1
  have hnx := next_in R (m := (l.length : Int)) (by omega)
  obtain ⟨kk, hkk⟩ : ∃ k : Nat, (nextM R (l.length : Int)).1 = (k : Int) := ⟨(nextM R (l.length : Int)).1.toNat, by omega⟩
  have hkl : kk < l.length := by omega
  have KN : Hid (∀ w, Kept (DrB rv) W0 w → Calls Tryz.prog 74 #[rv, .int .i64 (nl : Int)] w fun e w' => e = .returned (.int .i64 (kk : Int)) ∧ Dw X w' rv (nextM R l.length).2 ∧ Kept (DrB rv) w w') → True := fun _ => trivial
  have KN : Hid (Calls Tryz.prog 74 #[rv, .int .i64 (nl : Int)] W0.drew fun e w' => e = .returned (.int .i64 (kk : Int)) ∧ Dw X w' rv (nextM R l.length).2 ∧ Kept (DrB rv) W0.drew w') := by
    have := next_w ((hr.below hb0).below (Below.refl _ _).drew) (l.length : Int) (by omega)
    rw [hkk, hln] at this
    rw [hln]
    exact this
  have hq : St.nth l (nextM R (l.length : Int)).1.toNat = St.nth l kk := by rw [hkk]; rfl
  rw [hq]
  have FS : Hid (∀ w, Kept (DrB rv) W0 w → Bx w N #[.slice (some ⟨b1, off1, none⟩) nl kv, .int .i64 5, .int .i64 val] 71 ∧ w.cell? ⟨b1, off1 + kk, none⟩ = some (.int .i64 (St.nth l kk))) := fun w hk => ⟨⟨(hk.block N hp0.lt hne).trans hp0.h⟩, (hk.cell (Nat.lt_of_lt_of_le hb1 hb0.size) hx1 _).trans ((hb0.cell (p := ⟨b1, off1 + kk, none⟩) hb1).trans (hcell kk _ (nth_get hkl)))⟩
  obtain ⟨x0, x1, x2⟩ := hp0.three
  have HB0 : Hid (Below W.heap.size W W0) := hb0
  have HN : Hid (W.heap.size = N) := hN
  have HW0 : Hid _ := hW0
  have HK0 : Hid (Kept (DrB rv) W0 W0.drew) := Kept.of_below (Below.refl _ _).drew
  rw [hln] at hkl h0 hl
  have hkl' : (kk : Int) < (nl : Int) := by omega
  subst hra
  generalize St.nth l kk = q at *
  generalize (nextM R (l.length : Int)).2 = R' at *
  clear hW0 hb0 hp0 hln hr hne hc hcell e1 q1 q2 q3 hnx hkk hq hb1 hx1
  go_enter Tryz.func39, Tryz.ntmps39
  go_upto_region 1 with (fail)
  rw [HW0.out]
  clear hN
  go_upto_region 2 with (fail)
  clear x0 x1 x2
  refine wp_region_held_drew (S := fun X : World => Bx X N #[.slice (some ⟨b1, off1, none⟩) nl kv, .int .i64 5, .int .i64 val] 71 ∧ X.cell? ⟨b1, off1 + kk, none⟩ = some (.int .i64 q)) (by kernel_rfl) (FS.out _ HK0.out) (fun hHeld => ?_)
  refine wpAnyH_take (i := 0) (oi := { dst := some 13, op := Go.Op.fieldAddr 71 (Go.Operand.tmp 3) 0, type := 0, pos := "choose.go:90", after := #[], guard := none }) (v := ?_) rfl (by kernel_rfl) (by kernel_rfl) (by kernel_rfl) (fun _ _ _ h => h) (Or.inl ⟨by rfl, ?_⟩) hHeld ?_
  rotate_left
  · intro w hSw; (try dsimp only at hSw); go_simp <;> with_reducible rfl
  try simp only [Act.put, List.setIfInBounds_toArray, List.set_cons_zero, List.set_cons_succ]
  refine wpAnyH_take (i := 1) (oi := { dst := some 14, op := Go.Op.load 24 (Go.Operand.tmp 13), type := 24, pos := "choose.go:90", after := #[{ on := 0, ground := Go.Ground.data }], guard := none }) (v := ?_) rfl (by kernel_rfl) (by kernel_rfl) (by kernel_rfl) (fun _ _ _ h => h) (Or.inl ⟨by rfl, ?_⟩) hHeld ?_
  rotate_left
  · intro w hSw; obtain ⟨hO, hC⟩ := hSw; obtain ⟨y0, y1, y2⟩ := hO.three; go_simp <;> with_reducible rfl
  try simp only [Act.put, List.setIfInBounds_toArray, List.set_cons_zero, List.set_cons_succ]
  refine wpAnyH_take (i := 2) (oi := { dst := some 15, op := Go.Op.move (Go.Operand.tmp 2), type := 26, pos := "choose.go:90", after := #[], guard := none }) (v := ?_) rfl (by kernel_rfl) (by kernel_rfl) (by kernel_rfl) (fun _ _ _ h => h) (Or.inl ⟨by rfl, ?_⟩) hHeld ?_
  rotate_left
  · intro w hSw; (try dsimp only at hSw); go_simp <;> with_reducible rfl
  try simp only [Act.put, List.setIfInBounds_toArray, List.set_cons_zero, List.set_cons_succ]
  refine wpAnyH_take (i := 3) (oi := { dst := some 16, op := Go.Op.fieldAddr 71 (Go.Operand.tmp 3) 0, type := 0, pos := "choose.go:90", after := #[], guard := none }) (v := ?_) rfl (by kernel_rfl) (by kernel_rfl) (by kernel_rfl) (fun _ _ _ h => h) (Or.inl ⟨by rfl, ?_⟩) hHeld ?_
  rotate_left
  · intro w hSw; (try dsimp only at hSw); go_simp <;> with_reducible rfl
  try simp only [Act.put, List.setIfInBounds_toArray, List.set_cons_zero, List.set_cons_succ]
  refine wpAnyH_take (i := 4) (oi := { dst := some 17, op := Go.Op.load 24 (Go.Operand.tmp 16), type := 24, pos := "choose.go:90", after := #[{ on := 3, ground := Go.Ground.data }], guard := none }) (v := ?_) rfl (by kernel_rfl) (by kernel_rfl) (by kernel_rfl) (fun _ _ _ h => h) (Or.inl ⟨by rfl, ?_⟩) hHeld ?_
  rotate_left
  · intro w hSw; obtain ⟨hO, hC⟩ := hSw; obtain ⟨y0, y1, y2⟩ := hO.three; go_simp <;> with_reducible rfl
  try simp only [Act.put, List.setIfInBounds_toArray, List.set_cons_zero, List.set_cons_succ]
  refine wpAnyH_take (i := 5) (oi := { dst := some 18, op := Go.Op.call { callee := Go.Callee.builtin Go.Builtin.len, args := #[Go.Operand.tmp 17], argTypes := #[24] }, type := 3, pos := "choose.go:90", after := #[{ on := 4, ground := Go.Ground.data }], guard := none }) (v := ?_) rfl (by kernel_rfl) (by kernel_rfl) (by kernel_rfl) (fun _ _ _ h => h) (Or.inl ⟨by rfl, ?_⟩) hHeld ?_
  rotate_left
  · intro w hSw; (try dsimp only at hSw); go_simp <;> with_reducible rfl
  try simp only [Act.put, List.setIfInBounds_toArray, List.set_cons_zero, List.set_cons_succ]
  refine wpAnyH_ready (rs := [6]) (by kernel_rfl) (by simp) ?_
  refine AllReadyH.cons rfl (fun K hK => ?_) AllReadyH.nil
  go_simp
  refine KN.out.mono ?_
  rintro e u1 ⟨rfl, hdw, hk1⟩
  have HDW : Hid (Dw X u1 _ R') := hdw
  have HK1 : Hid (Kept _ W0 u1) := HK0.out.trans hk1 (Up.refl _ _)
  clear hdw hk1
  refine hK.out _ _ (FS.out _ HK1.out) (fun hHeld2 => ?_)
  clear hK K hHeld
  have hHeld := hHeld2
  clear hHeld2
  try simp only [Act.put, List.setIfInBounds_toArray, List.set_cons_zero, List.set_cons_succ]
  refine wpAnyH_take (i := 7) (oi := { dst := some 20, op := Go.Op.indexAddr 24 (Go.Operand.tmp 14) (Go.Operand.tmp 19), type := 0, pos := "choose.go:90", after := #[{ on := 1, ground := Go.Ground.data }, { on := 6, ground := Go.Ground.data }], guard := none }) (v := ?_) rfl (by kernel_rfl) (by kernel_rfl) (by kernel_rfl) (fun _ _ _ h => h) (Or.inl ⟨by rfl, ?_⟩) hHeld ?_
  rotate_left
  · intro w hSw; (try dsimp only at hSw); go_simp <;> with_reducible rfl
  try simp only [Act.put, List.setIfInBounds_toArray, List.set_cons_zero, List.set_cons_succ]
  refine wpAnyH_take (i := 8) (oi := { dst := some 21, op := Go.Op.load 3 (Go.Operand.tmp 20), type := 3, pos := "choose.go:90", after := #[{ on := 7, ground := Go.Ground.data }], guard := none }) (v := ?_) rfl (by kernel_rfl) (by kernel_rfl) (by kernel_rfl) (fun _ _ _ h => h) (Or.inl ⟨by rfl, ?_⟩) hHeld ?_
  rotate_left
  · intro w hSw; obtain ⟨hO, hC⟩ := hSw; obtain ⟨y0, y1, y2⟩ := hO.three; go_simp <;> with_reducible rfl
  try simp only [Act.put, List.setIfInBounds_toArray, List.set_cons_zero, List.set_cons_succ]
  refine wpAnyH_take (i := 9) (oi := { dst := some 6, op := Go.Op.assign (Go.Operand.tmp 21), type := 3, pos := "choose.go:90", after := #[{ on := 8, ground := Go.Ground.data }, { on := 6, ground := Go.Ground.chain }, { on := 0, ground := Go.Ground.phase }, { on := 1, ground := Go.Ground.phase }, { on := 2, ground := Go.Ground.phase }, { on := 3, ground := Go.Ground.phase }, { on := 4, ground := Go.Ground.phase }, { on := 5, ground := Go.Ground.phase }, { on := 6, ground := Go.Ground.phase }, { on := 7, ground := Go.Ground.phase }, { on := 8, ground := Go.Ground.phase }], guard := none }) (v := ?_) rfl (by kernel_rfl) (by kernel_rfl) (by kernel_rfl) (fun _ _ _ h => h) (Or.inl ⟨by rfl, ?_⟩) hHeld ?_
  rotate_left
  · intro w hSw; (try dsimp only at hSw); go_simp <;> with_reducible rfl
  try simp only [Act.put, List.setIfInBounds_toArray, List.set_cons_zero, List.set_cons_succ]
  refine wpAnyH_done (by kernel_rfl) ?_ _
  go_wp2
  go_ret
  exact ⟨rfl, HDW.out, (Kept.of_below HB0.out).trans HK1.out (Up.refl _ _)⟩
end Go.Proofs.YthkliicmoandmaaGreatDoor
