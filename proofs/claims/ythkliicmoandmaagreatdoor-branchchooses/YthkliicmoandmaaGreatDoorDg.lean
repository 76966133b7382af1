/-
  What is proved here: the next decision, of any phases, domains and draws.
-/
import Derived.Test.YthkliicmoandmaaGreatDoorDf
import Derived.Deep.RegionHeld3
namespace Go.Proofs.YthkliicmoandmaaGreatDoor
open Go.RowKit Go.Shelf
set_option linter.unusedVariables false
set_option linter.unusedSimpArgs false

/-- Which variable is taken, and what is left of the draws. -/
def selM (p : Ph) (D : List MD) (R : List Int) : Int × List Int :=
  if p.sel = 5 then (St.nth p.vars (nextM R p.vars.length).1.toNat, (nextM R p.vars.length).2) else ((whichM (rkV (rankF p.sel) D) p.vars).1, R)
theorem which_mem (f : Int → Int) : ∀ (l : List Int) (b : Int × Int × Bool), (l.foldl (fun b v => offM b v (f v)) b).1 ∈ l ∨ (l.foldl (fun b v => offM b v (f v)) b) = b
  | [], b => .inr rfl
  | v :: t, b => by
    rw [List.foldl_cons]
    rcases which_mem f t (offM b v (f v)) with h | h
    · exact .inl (List.mem_cons_of_mem _ h)
    · rw [h]
      unfold offM
      split
      · exact .inl (by simp)
      · exact .inr rfl
theorem which_in (f : Int → Int) {l : List Int} (h : l ≠ []) : (whichM f l).1 ∈ l := by
  cases l with
  | nil => exact absurd rfl h
  | cons v t =>
    unfold whichM
    rw [List.foldl_cons]
    rcases which_mem f t (offM (0, 0, false) v (f v)) with q | q
    · exact List.mem_cons_of_mem _ q
    · rw [q]; unfold offM; rw [if_pos (.inl rfl)]; simp
theorem sel_in {p : Ph} (D : List MD) (R : List Int) (h : p.vars ≠ []) : (selM p D R).1 ∈ p.vars := by
  unfold selM
  split
  · have hl : 0 < p.vars.length := List.length_pos_iff.2 h
    have hn := next_in R (m := (p.vars.length : Int)) (by omega)
    have hk : (nextM R (p.vars.length : Int)).1.toNat < p.vars.length := by omega
    exact List.mem_of_getElem? (nth_get hk)
  · exact which_in _ h
theorem phase_open (D : List MD) : ∀ (L : List Ph), ∀ v ∈ (phaseM D L).vars, openB D v = true
  | [], v, hv => (List.mem_filter.1 hv).2
  | p :: L, v, hv => by
    unfold phaseM at hv
    split at hv
    · exact phase_open D L v hv
    · exact (List.mem_filter.1 hv).2
theorem phase_len (D : List MD) : ∀ (L : List Ph), SzP L D → (phaseM D L).vars.length * 8 ≤ 140737488355328
  | [], h => by
    have := openL_le (rangeI D.length) D
    rw [rangeI_len] at this
    have := h.d
    show (openAll D).length * 8 ≤ _
    unfold openAll
    omega
  | p :: L, h => by
    unfold phaseM
    split
    · exact phase_len D L ⟨fun q hq => h.v q (by simp [hq]), h.d, by have := h.l; simp at this; omega⟩
    · have := openL_le p.vars D
      have := h.v p (by simp)
      simp only
      omega
/-- The variable's number, how, the value; whether there is a decision; and what is left of the draws. -/
def chooseM (L : List Ph) (D : List MD) (R : List Int) : (Int × Int × Int × Bool) × List Int :=
  if (phaseM D L).vars = [] then ((0, 0, 0, false), R) else
    let s := selM (phaseM D L) D R
    let d := (D[s.1.toNat]?).getD ⟨false, [], [], [], 0, 0⟩
    let t := if d.set then elemA (phaseM D L).val (freeL d) s.2 else numA (phaseM D L).val d.r s.2
    ((s.1, t.1.1, t.1.2, true), t.2)
theorem oi_nm {B : Nat} {w : World} {v : Value} {l : List Int} {Z : Nat → Prop} (h : Oi B w v l) (hZ : ∀ b, Z b → b < B) : Nm Z w v l := by
  rcases h.2 with ⟨e1, e2⟩ | ⟨g, cap, cur, e1, hB, hg, hn, hm, hs, ht⟩
  · exact ⟨none, 0, by rw [e1, e2], fun h0 => by omega⟩
  · refine ⟨some ⟨g, 0, none⟩, cap, e1, fun h0 => ⟨g, 0, rfl, (Array.getElem?_eq_some_iff.1 hg).1, fun q => by have := hZ g q; omega, fun i x hx => ?_⟩⟩
    have hi := (List.getElem?_eq_some_iff.1 hx).1
    have hc : w.cell? ⟨g, 0 + i, none⟩ = cur[i]? := by simp [World.cell?, hg]
    have h1 : (ivl l)[i]? = some (.int .i64 x) := by simp [ivl, hx]
    rw [← ht, List.getElem?_take, if_pos (by omega), Array.getElem?_toList] at h1
    rw [hc]; exact h1
theorem Dw.set3 {X : Nat → Prop} {w : World} {rv : Value} {l : List Int} {N : Nat} {u0 u1 u2 : Value} (h : Dw X w rv l) (hX : X N) (hn : ¬ DrB rv N) : Dw X (((w.setCell ⟨N, 0, none⟩ u0).setCell ⟨N, 1, none⟩ u1).setCell ⟨N, 2, none⟩ u2) rv l := by
  rcases h with h | ⟨p, rfl, h⟩
  · exact .inl h
  · have hp : p ≠ N := fun e => hn (by rw [e]; rfl)
    exact .inr ⟨p, rfl, ((h.kept (Kept.set N 0 u0) hp hX).kept (Kept.set N 1 u1) hp hX).kept (Kept.set N 2 u2) hp hX⟩
theorem Dw.more {X : Nat → Prop} {w : World} {rv : Value} {l : List Int} (h : Dw X w rv l) : Dw (fun b => X b ∨ w.heap.size ≤ b) w rv l := by
  rcases h with h | ⟨p, e, a, c, h1, h2, h3, h4⟩
  · exact .inl h
  · exact .inr ⟨p, e, a, c, h1, h2, h3, fun h0 => by obtain ⟨b, off, q1, q2, q3, q4, q5⟩ := h4 h0; exact ⟨b, off, q1, q2, q3, fun q => q.elim q4 (fun q => by omega), q5⟩⟩
theorem Dw.less {X X' : Nat → Prop} {w : World} {rv : Value} {l : List Int} (h : Dw X' w rv l) (hX : ∀ b, X b → X' b) : Dw X w rv l := by
  rcases h with h | ⟨p, e, a, c, h1, h2, h3, h4⟩
  · exact .inl h
  · exact .inr ⟨p, e, a, c, h1, h2, h3, fun h0 => by obtain ⟨b, off, q1, q2, q3, q4, q5⟩ := h4 h0; exact ⟨b, off, q1, q2, q3, fun q => q4 (hX b q), q5⟩⟩
theorem which_all {X : Nat → Prop} {W : World} {pv : Option Addr} {nl kv : Nat} {p2 : Option Addr} {nd k2 : Nat} {p : Ph} {D : List MD} {R : List Int} {rv : Value} (hv : Nm (DrB rv) W (.slice pv nl kv) p.vars) (hd : Ds W (.slice p2 nd k2) D) (hD : ∀ d ∈ D, Good d) (ho : ∀ v ∈ p.vars, openB D v = true) (h0 : p.vars ≠ []) (hl : p.vars.length ≤ 9223372036854775806) (hDl : D.length ≤ 9223372036854775806) (hr : Dw X W rv R) :
    Calls Tryz.prog 39 #[.agg #[.slice pv nl kv, .int .i64 p.sel, .int .i64 p.val], .slice p2 nd k2, rv] W fun e w' => e = .returned (.int .i64 (selM p D R).1) ∧ Dw X w' rv (selM p D R).2 ∧ Kept (DrB rv) W w' := by
  unfold selM
  by_cases h5 : p.sel = 5
  · rw [if_pos h5, h5]
    exact which_rand hv (List.length_pos_iff.2 h0) hl hr
  · rw [if_neg h5]
    have hns : Ns W (.slice pv nl kv) p.vars := by
      obtain ⟨a, c, e, hc⟩ := hv
      exact ⟨a, c, e, fun q => by obtain ⟨b, off, e1, e2, _, e4⟩ := hc q; exact ⟨b, off, e1, e2, fun h => h, e4⟩⟩
    exact (which_any rv h5 (rank_all p.sel) hns hd hD ho hl hDl hr.one).mono fun e w' ⟨he, hb⟩ => ⟨he, hr.below hb, Kept.of_below hb⟩

set_option maxRecDepth 100000 in
set_option maxHeartbeats 4000000 in
theorem choose_any0 {X : Nat → Prop} {B0 W : World} {p1 : Option Addr} {n k1 : Nat} {p2 : Option Addr} {nd k2 : Nat} {L : List Ph} {D : List MD} {rv : Value} {R : List Int} (hP : Ps B0 (.slice p1 n k1) L) (hd : Ds B0 (.slice p2 nd k2) D) (hB : Below B0.heap.size B0 W) (hD : ∀ d ∈ D, Good d) (hz : SzP L D) (hr : Dw X W rv R) (hpos : ∀ b, DrB rv b → B0.heap.size ≤ b) (hX : X W.heap.size) :
    Calls Tryz.prog 10 #[.slice p1 n k1, .slice p2 nd k2, rv] W fun e w' => e = .returned (.tuple #[.agg #[.int .i64 (chooseM L D R).1.1, .int .i64 (chooseM L D R).1.2.1, .int .i64 (chooseM L D R).1.2.2.1], .bool (chooseM L D R).1.2.2.2]) ∧ Dw X w' rv (chooseM L D R).2 ∧ Kept (DrB rv) W w' := by
  obtain ⟨N, hN⟩ : ∃ N, W.heap.size = N := ⟨_, rfl⟩
  obtain ⟨W0, hW0⟩ : ∃ Q, W.alloc (Obj.cells #[.int .i64 0, .int .i64 0, .int .i64 0] 32) = Q := ⟨_, rfl⟩
  have hb0 : Below W.heap.size W W0 := by rw [← hW0]; exact (Below.refl _ W).alloc (Nat.le_refl _) _
  have hz0 : Bx W0 N #[.int .i64 0, .int .i64 0, .int .i64 0] 32 := by rw [← hW0]; exact Bx.new' hN _ _
  have hBW0 : Below B0.heap.size B0 W0 := hB.trans (hb0.mono hB.size)
  have kn := phase_any (hP.below hBW0) (hd.below hBW0) hD hz
  have HDR : Hid (∀ w, Below W.heap.size W w → Dw X w rv R) := fun w hb => hr.below hb
  have HDB : Hid (∀ b, DrB rv b → b < N) := fun b hb => by rw [← hN]; exact hr.lt hb
  have HZ0 : Hid (Bx W0 N #[.int .i64 0, .int .i64 0, .int .i64 0] 32) := hz0
  have HB0 : Hid (Below W.heap.size W W0) := hb0
  have HBW0 : Hid (Below B0.heap.size B0 W0) := hBW0
  have HD : Hid (Ds B0 (.slice p2 nd k2) D) := hd
  have HG : Hid _ := hD
  have HOP : Hid (∀ v ∈ (phaseM D L).vars, openB D v = true) := phase_open D L
  have HPL : Hid ((phaseM D L).vars.length * 8 ≤ 140737488355328) := phase_len D L hz
  have HDL : Hid (D.length ≤ 9223372036854775806) := by have := hz.d; unfold Hid; omega
  have HPO : Hid (∀ b, DrB rv b → B0.heap.size ≤ b) := hpos
  have HW0 : Hid _ := hW0
  have HN : Hid (W.heap.size = N) := hN
  have HXN : Hid (X N) := by rw [← hN]; exact hX
  have HCM : Hid (chooseM L D R = if (phaseM D L).vars = [] then ((0, 0, 0, false), R) else ((((selM (phaseM D L) D R).1, (if ((D[(selM (phaseM D L) D R).1.toNat]?).getD ⟨false, [], [], [], 0, 0⟩).set then elemA (phaseM D L).val (freeL ((D[(selM (phaseM D L) D R).1.toNat]?).getD ⟨false, [], [], [], 0, 0⟩)) (selM (phaseM D L) D R).2 else numA (phaseM D L).val ((D[(selM (phaseM D L) D R).1.toNat]?).getD ⟨false, [], [], [], 0, 0⟩).r (selM (phaseM D L) D R).2).1.1, (if ((D[(selM (phaseM D L) D R).1.toNat]?).getD ⟨false, [], [], [], 0, 0⟩).set then elemA (phaseM D L).val (freeL ((D[(selM (phaseM D L) D R).1.toNat]?).getD ⟨false, [], [], [], 0, 0⟩)) (selM (phaseM D L) D R).2 else numA (phaseM D L).val ((D[(selM (phaseM D L) D R).1.toNat]?).getD ⟨false, [], [], [], 0, 0⟩).r (selM (phaseM D L) D R).2).1.2, true)), (if ((D[(selM (phaseM D L) D R).1.toNat]?).getD ⟨false, [], [], [], 0, 0⟩).set then elemA (phaseM D L).val (freeL ((D[(selM (phaseM D L) D R).1.toNat]?).getD ⟨false, [], [], [], 0, 0⟩)) (selM (phaseM D L) D R).2 else numA (phaseM D L).val ((D[(selM (phaseM D L) D R).1.toNat]?).getD ⟨false, [], [], [], 0, 0⟩).r (selM (phaseM D L) D R).2).2)) := rfl
  generalize chooseM L D R = CM at *
  obtain ⟨ra', hra⟩ := hr.ptr
  generalize phaseM D L = P at *
  obtain ⟨l, sel, val⟩ := P
  dsimp only at kn HOP HPL HCM
  have HWA : Hid (∀ (w : World) (pv : Option Addr) (nl kv : Nat), l ≠ [] → Below B0.heap.size B0 w → Dw X w rv R → Nm (DrB rv) w (.slice pv nl kv) l → Calls Tryz.prog 39 #[.agg #[.slice pv nl kv, .int .i64 sel, .int .i64 val], .slice p2 nd k2, rv] w fun e w' => e = .returned (.int .i64 (selM ⟨l, sel, val⟩ D R).1) ∧ Dw X w' rv (selM ⟨l, sel, val⟩ D R).2 ∧ Kept (DrB rv) w w') := fun w pv nl kv hne hb hdw hnm => which_all (p := ⟨l, sel, val⟩) hnm (HD.out.below hb) HG.out HOP.out hne (by have := HPL.out; show l.length ≤ _; omega) HDL.out hdw
  have HSI : Hid (l ≠ [] → ∃ (vn : Nat) (d : MD), (selM ⟨l, sel, val⟩ D R).1 = (vn : Int) ∧ D[vn]? = some d ∧ sevB d = true ∧ vn < D.length) := fun hne => openB_dom (HOP.out _ (sel_in (p := ⟨l, sel, val⟩) D R hne))
  clear hW0 hb0 hz0 hBW0 hP hd hB hD hz hr hpos hX
  subst hra
  go_enter Tryz.func10, Tryz.ntmps10
  go_upto_region 1 with (fail)
  rw [HW0.out]
  clear hN
  go_wp2_with fail
  refine kn.mono ?_
  clear kn
  rintro e w1 ⟨v, rfl, hoi, hb1⟩
  obtain ⟨va, vc, rfl⟩ := hoi.shape
  obtain ⟨on, hon⟩ : ∃ q, l.length = q := ⟨_, rfl⟩
  rw [hon] at hoi ⊢
  obtain ⟨M, hM⟩ : ∃ q, w1.heap.size = q := ⟨_, rfl⟩
  obtain ⟨w1a, hw1a⟩ : ∃ Q, w1.alloc (Obj.cells #[.slice va on vc, .int .i64 sel, .int .i64 val] 71) = Q := ⟨_, rfl⟩
  have hp1 : Bx w1a M #[.slice va on vc, .int .i64 sel, .int .i64 val] 71 := by rw [← hw1a]; exact Bx.new' hM _ _
  have hba : Below w1.heap.size w1 w1a := by rw [← hw1a]; exact (Below.refl _ _).alloc (Nat.le_refl _) _
  have h1a : Below W0.heap.size W0 w1a := hb1.trans (hba.mono hb1.size)
  have HBA : Hid (Below W.heap.size W w1a) := HB0.out.trans (h1a.mono HB0.out.size)
  have HBB : Hid (Below B0.heap.size B0 w1a) := HBW0.out.trans (h1a.mono HBW0.out.size)
  have HNM : Hid (Nm (DrB (.pointer ra')) w1a (.slice va on vc) l) := (oi_nm hoi (fun b hb => by have := HDB.out b hb; have := HB0.out.size; have := HN.out; omega)).kept (Kept.of_below hba)
  have HZ1 : Hid (Bx w1a N #[.int .i64 0, .int .i64 0, .int .i64 0] 32) := HZ0.out.below h1a
  have HP1 : Hid (Bx w1a M #[.slice va on vc, .int .i64 sel, .int .i64 val] 71) := hp1
  have HMN : Hid (N < M) := by have := (HZ0.out.below hb1).lt; unfold Hid; omega
  have HW1 : Hid _ := hw1a
  have HON : Hid (l.length = on) := hon
  obtain ⟨y0, y1, y2⟩ := hp1.three
  clear hw1a hba h1a hp1 hoi hb1 hon
  by_cases hne : l = []
  · have hon0 : on = 0 := by rw [← HON.out, hne]; rfl
    subst hon0
    have HC2 : Hid (CM = ((0, 0, 0, false), R)) := by unfold Hid; rw [HCM.out, if_pos hne]
    have f0 := HZ1.out.fr 0
    have f1 := HZ1.out.fr 1
    have f2 := HZ1.out.fr 2
    obtain ⟨x0, x1, x2⟩ := HZ1.out.three
    have HZX := HZ1.out.set3 (.int .i64 0) (.int .i64 0) (.int .i64 0)
    go_upto_region 2 with (fail)
    rw [HW1.out]
    clear hM
    go_wp2
    have hbN : Below W.heap.size W (((w1a.setCell ⟨N, 0, none⟩ (.int .i64 0)).setCell ⟨N, 1, none⟩ (.int .i64 0)).setCell ⟨N, 2, none⟩ (.int .i64 0)) := by rw [HN.out]; have := HBA.out; rw [HN.out] at this; exact ((this.setCell (p := ⟨N, 0, none⟩) (Nat.le_refl _) _).setCell (p := ⟨N, 1, none⟩) (Nat.le_refl _) _).setCell (p := ⟨N, 2, none⟩) (Nat.le_refl _) _
    refine ⟨rfl, _, res_ct rfl _ HZX (by with_unfolding_all rfl) rfl Tryz.underlying32 (by kernel_rfl) (v := .bool false) (by with_unfolding_all rfl), ?_, ?_, ?_⟩
    · rw [HC2.out]
    · rw [HC2.out]; exact HDR.out _ hbN
    · exact Kept.of_below hbN
  · have hon0 : ((on : Int) == 0) = false := by
      have : 0 < l.length := List.length_pos_iff.2 hne
      rw [HON.out] at this
      simp; omega
    have hon1 : ¬ (on : Int) = 0 := by simpa using hon0
    obtain ⟨vn, d, hvn, hdd, hsev, hvl⟩ := HSI.out hne
    have kw := HWA.out w1a va on vc hne HBB.out (HDR.out _ HBA.out) HNM.out
    rw [hvn] at kw
    have HCC : Hid (CM = ((((vn : Int), (if d.set then elemA val (freeL d) (selM ⟨l, sel, val⟩ D R).2 else numA val d.r (selM ⟨l, sel, val⟩ D R).2).1.1, (if d.set then elemA val (freeL d) (selM ⟨l, sel, val⟩ D R).2 else numA val d.r (selM ⟨l, sel, val⟩ D R).2).1.2, true)), (if d.set then elemA val (freeL d) (selM ⟨l, sel, val⟩ D R).2 else numA val d.r (selM ⟨l, sel, val⟩ D R).2).2)) := by
      unfold Hid
      rw [HCM.out, if_neg hne, hvn]
      simp only [Int.toNat_natCast, hdd, Option.getD_some]
    generalize (selM ⟨l, sel, val⟩ D R).2 = R1 at *
    have HSV : Hid (sevB d = true) := hsev
    have HDD : Hid (D[vn]? = some d) := hdd
    have hDn : D.length = nd := by obtain ⟨a, c, e, _⟩ := HD.out; injection e with _ e2 _; exact e2.symm
    have hvl' : vn < nd := by omega
    have hvi : (vn : Int) < (nd : Int) := by omega
    clear hvn hdd hsev hvl HCM HWA HSI hDn
    go_upto_region 2 with (fail)
    rw [HW1.out]
    clear hM
    go_wp2_with fail
    refine kw.mono ?_
    clear kw y0 y1 y2
    rintro e w2 ⟨rfl, hd2, hk2⟩
    have HK2 : Hid (Kept (DrB (.pointer ra')) w1a w2) := hk2
    have HD2 : Hid (Dw X w2 (.pointer ra') R1) := hd2
    have HNX : Hid (¬ DrB (.pointer ra') N ∧ ¬ DrB (.pointer ra') M) := ⟨fun h => by have := HDB.out N h; omega, fun h => by have := HDB.out M h; have := HMN.out; omega⟩
    have HZ2 : Hid (Bx w2 N #[.int .i64 0, .int .i64 0, .int .i64 0] 32) := HZ1.out.kept hk2 (fun e => HNX.out.1 e) |> fun h => h
    have HP2 : Hid (Bx w2 M #[.slice va on vc, .int .i64 sel, .int .i64 val] 71) := HP1.out.kept hk2 (fun e => HNX.out.2 e) |> fun h => h
    have HB2 : Hid (Below B0.heap.size B0 w2) := HBB.out.trans (hk2.below HBB.out.size HPO.out)
    obtain ⟨b2, off2, hp2, hb2l, _, c0, c1, c2, c3, c4, c5, hDc0, i0, i1, i2, i3, i4, i5⟩ := HD.out.at HDD.out
    have hDcB : Dc (DrB (.pointer ra')) B0 [c0, c1, c2, c3, c4, c5] d := hDc0.up (fun b hb => .inr (HPO.out b hb))
    obtain ⟨bo, ra, n0, rc, a1, n1, cc1, a2, n2, cc2, x, y, hcs, HE, H1, _, _⟩ := hDcB.look
    injection hcs with e0 hcs
    injection hcs with e1 hcs
    injection hcs with e2 hcs
    injection hcs with e3 hcs
    injection hcs with e4 hcs
    injection hcs with e5 hcs
    subst e0 e1 e2 e3 e4 e5 hp2
    have hset : d.set = bo := HE.out.1
    have HCE : Hid (∀ w, Below B0.heap.size B0 w → w.cell? ⟨b2, off2 + vn * 6, none⟩ = some (.bool bo) ∧ w.cell? ⟨b2, off2 + vn * 6 + 1, none⟩ = some (.slice ra n0 rc) ∧ w.cell? ⟨b2, off2 + vn * 6 + 2, none⟩ = some (.slice a1 n1 cc1) ∧ w.cell? ⟨b2, off2 + vn * 6 + 3, none⟩ = some (.slice a2 n2 cc2) ∧ w.cell? ⟨b2, off2 + vn * 6 + 4, none⟩ = some (.int .i64 x) ∧ w.cell? ⟨b2, off2 + vn * 6 + 5, none⟩ = some (.int .i64 y)) := fun w hb => ⟨(hb.cell (p := ⟨b2, _, none⟩) hb2l).trans i0, (hb.cell (p := ⟨b2, _, none⟩) hb2l).trans i1, (hb.cell (p := ⟨b2, _, none⟩) hb2l).trans i2, (hb.cell (p := ⟨b2, _, none⟩) hb2l).trans i3, (hb.cell (p := ⟨b2, _, none⟩) hb2l).trans i4, (hb.cell (p := ⟨b2, _, none⟩) hb2l).trans i5⟩
    have HDCB : Hid (∀ w, Below B0.heap.size B0 w → Dc (DrB (.pointer ra')) w [.bool bo, .slice ra n0 rc, .slice a1 n1 cc1, .slice a2 n2 cc2, .int .i64 x, .int .i64 y] d) := fun w hb => hDcB.below hb
    obtain ⟨g0, g1, g2, g3, g4, g5⟩ := HCE.out w2 HB2.out
    have HRM : Hid (∀ w, Below B0.heap.size B0 w → Rm (DrB (.pointer ra')) w (.slice ra n0 rc) d.r) := fun w hb => H1.out.kept (Kept.of_below hb)
    have HBd : Hid (Below B0.heap.size B0 w2.drew) := HB2.out.drew
    have HDd : Hid (Dw X w2.drew (.pointer ra') R1) := HD2.out.below (Below.refl _ _).drew
    have HFS : Hid (∀ w, Kept (DrB (.pointer ra')) w2.drew w → w.cell? ⟨M, 2, none⟩ = some (.int .i64 val) ∧ Bx w N #[.int .i64 0, .int .i64 0, .int .i64 0] 32 ∧ Below B0.heap.size B0 w) := fun w hk => ⟨(hk.cell HP2.out.lt HNX.out.2 2).trans (HP2.out.cell 2), ⟨(hk.block N HZ2.out.lt HNX.out.1).trans HZ2.out.h⟩, HBd.out.trans (hk.below HBd.out.size HPO.out)⟩
    have HKW : Hid (Kept (DrB (.pointer ra')) W w2.drew) := ((Kept.of_below HBA.out).trans HK2.out (Up.refl _ _)).then_below (Below.refl _ _).drew
    have HKd : Hid (Kept (DrB (.pointer ra')) w2.drew w2.drew) := Kept.refl _ _
    have HF0 := HFS.out _ HKd.out
    have HSS : Hid (d.set = bo) := hset
    have HFIN : Hid (∀ (w3 : World) (q1 q2 : Int), Kept (DrB (.pointer ra')) w2.drew w3 → Bx w3 N #[.int .i64 0, .int .i64 0, .int .i64 0] 32 → Kept (DrB (.pointer ra')) W (((w3.setCell ⟨N, 0, none⟩ (.int .i64 (vn : Int))).setCell ⟨N, 1, none⟩ (.int .i64 q1)).setCell ⟨N, 2, none⟩ (.int .i64 q2)) ∧ ∀ R' : List Int, Dw X w3 (.pointer ra') R' → Dw X (((w3.setCell ⟨N, 0, none⟩ (.int .i64 (vn : Int))).setCell ⟨N, 1, none⟩ (.int .i64 q1)).setCell ⟨N, 2, none⟩ (.int .i64 q2)) (.pointer ra') R') := by
      intro w3 q1 q2 hk hz
      have hkW := HKW.out.trans hk (Up.refl _ _)
      have hNN : W.heap.size ≤ N := by rw [HN.out]; exact Nat.le_refl _
      refine ⟨⟨hkW.os, hkW.tape, hkW.output, ?_, fun b hb hX => ?_⟩, fun R' hdw => ?_⟩
      · simp only [World.size_setCell]; exact hkW.size
      · have hbN : b ≠ N := by omega
        exact (Below.heap_setCell _ _ _ b hbN).trans ((Below.heap_setCell _ _ _ b hbN).trans ((Below.heap_setCell _ _ _ b hbN).trans (hkW.block b hb hX)))
      · exact hdw.set3 HXN.out HNX.out.1
    clear hDcB hDc0 i0 i1 i2 i3 i4 i5 hk2 hd2 hset HF0 hon0
    have FS : Hid (∀ w, Kept (DrB (.pointer ra')) w2.drew w → w.cell? ⟨M, 2, none⟩ = some (.int .i64 val) ∧ Below B0.heap.size B0 w) := fun w hk => ⟨(HFS.out w hk).1, (HFS.out w hk).2.2⟩
    cases bo
    · obtain ⟨hr1, hr2⟩ := sev_num HSV.out HSS.out
      have hsb : 1 ≤ Dm.sizeR (Dm.tk d.r) ∧ Dm.sizeR (Dm.tk d.r) ≤ 4611686018427387904 := by
        have q := siz_bounds d
        unfold sizA at q
        rw [if_neg (by rw [HSS.out]; decide)] at q
        refine ⟨?_, q.2⟩
        rw [Dm.tk_yes hr2]
        have ho := (Dm.right_ord hr2).1
        rw [Dm.sizeR_vals ho.1]
        have hm : Dm.lo d.r 0 ∈ Dm.vals d.r := (Dm.mem_vals' _ _).2 ⟨d.r[0], List.getElem_mem hr1, by unfold Dm.lo; rw [List.getElem?_eq_getElem hr1]; exact Int.le_refl _, by have := ho.1 _ (List.getElem_mem hr1); unfold Dm.lo; rw [List.getElem?_eq_getElem hr1]; exact this⟩
        have := List.length_pos_of_mem hm
        omega
      have HCF : Hid (CM = (((vn : Int), (numA val d.r R1).1.1, (numA val d.r R1).1.2, true), (numA val d.r R1).2)) := by unfold Hid; rw [HCC.out]; simp only [HSS.out, Bool.false_eq_true, if_false]
      have HKN : Hid (Calls Tryz.prog 41 #[.int .i64 val, .slice ra n0 rc, .pointer ra'] w2.drew fun e w' => e = .returned (.tuple #[.int .i64 (numA val d.r R1).1.1, .int .i64 (numA val d.r R1).1.2]) ∧ Dw X w' (.pointer ra') (numA val d.r R1).2 ∧ Kept (DrB (.pointer ra')) w2.drew w') := number_all val (HRM.out _ HBd.out) hr2 hr1 HDd.out hsb.1 hsb.2
      generalize (numA val d.r R1).1.1 = q1 at *
      generalize (numA val d.r R1).1.2 = q2 at *
      generalize (numA val d.r R1).2 = R2 at *
      clear hsb hr1 hr2 HCC
      go_upto_region 8 with (fail)
      refine wp_region_held_drew (S := fun X : World => X.cell? ⟨M, 2, none⟩ = some (.int .i64 val) ∧ Below B0.heap.size B0 X) (by kernel_rfl) (FS.out _ HKd.out) (fun hHeld => ?_)
      refine wpAnyH_take (i := 0) (oi := { dst := some 47, op := Go.Op.fieldAddr 71 (Go.Operand.tmp 8) 2, type := 0, pos := "choose.go:66", after := #[], guard := none }) (v := ?_) rfl (by kernel_rfl) (by kernel_rfl) (by kernel_rfl) (fun _ _ _ h => h) (Or.inl ⟨by rfl, ?_⟩) hHeld ?_
      rotate_left
      · intro w hSw; (try dsimp only at hSw); go_simp <;> with_reducible rfl
      try simp only [Act.put, List.setIfInBounds_toArray, List.set_cons_zero, List.set_cons_succ]
      refine wpAnyH_take (i := 1) (oi := { dst := some 48, op := Go.Op.load 3 (Go.Operand.tmp 47), type := 3, pos := "choose.go:66", after := #[{ on := 0, ground := Go.Ground.data }], guard := none }) (v := ?_) rfl (by kernel_rfl) (by kernel_rfl) (by kernel_rfl) (fun _ _ _ h => h) (Or.inl ⟨by rfl, ?_⟩) hHeld ?_
      rotate_left
      · intro w hSw; obtain ⟨hC, hBB⟩ := hSw; go_simp <;> with_reducible rfl
      try simp only [Act.put, List.setIfInBounds_toArray, List.set_cons_zero, List.set_cons_succ]
      refine wpAnyH_take (i := 2) (oi := { dst := some 49, op := Go.Op.move (Go.Operand.tmp 1), type := 23, pos := "choose.go:66", after := #[], guard := none }) (v := ?_) rfl (by kernel_rfl) (by kernel_rfl) (by kernel_rfl) (fun _ _ _ h => h) (Or.inl ⟨by rfl, ?_⟩) hHeld ?_
      rotate_left
      · intro w hSw; (try dsimp only at hSw); go_simp <;> with_reducible rfl
      try simp only [Act.put, List.setIfInBounds_toArray, List.set_cons_zero, List.set_cons_succ]
      refine wpAnyH_take (i := 3) (oi := { dst := some 50, op := Go.Op.move (Go.Operand.tmp 9), type := 3, pos := "choose.go:66", after := #[], guard := none }) (v := ?_) rfl (by kernel_rfl) (by kernel_rfl) (by kernel_rfl) (fun _ _ _ h => h) (Or.inl ⟨by rfl, ?_⟩) hHeld ?_
      rotate_left
      · intro w hSw; (try dsimp only at hSw); go_simp <;> with_reducible rfl
      try simp only [Act.put, List.setIfInBounds_toArray, List.set_cons_zero, List.set_cons_succ]
      refine wpAnyH_take (i := 4) (oi := { dst := some 51, op := Go.Op.indexAddr 23 (Go.Operand.tmp 49) (Go.Operand.tmp 50), type := 0, pos := "choose.go:66", after := #[{ on := 2, ground := Go.Ground.data }, { on := 3, ground := Go.Ground.data }], guard := none }) (v := ?_) rfl (by kernel_rfl) (by kernel_rfl) (by kernel_rfl) (fun _ _ _ h => h) (Or.inl ⟨by rfl, ?_⟩) hHeld ?_
      rotate_left
      · intro w hSw; (try dsimp only at hSw); go_simp <;> with_reducible rfl
      try simp only [Act.put, List.setIfInBounds_toArray, List.set_cons_zero, List.set_cons_succ]
      refine wpAnyH_take (i := 5) (oi := { dst := some 52, op := Go.Op.fieldAddr 50 (Go.Operand.tmp 51) 1, type := 0, pos := "choose.go:66", after := #[{ on := 4, ground := Go.Ground.data }], guard := none }) (v := ?_) rfl (by kernel_rfl) (by kernel_rfl) (by kernel_rfl) (fun _ _ _ h => h) (Or.inl ⟨by rfl, ?_⟩) hHeld ?_
      rotate_left
      · intro w hSw; (try dsimp only at hSw); go_simp <;> with_reducible rfl
      try simp only [Act.put, List.setIfInBounds_toArray, List.set_cons_zero, List.set_cons_succ]
      refine wpAnyH_take (i := 6) (oi := { dst := some 53, op := Go.Op.load 47 (Go.Operand.tmp 52), type := 47, pos := "choose.go:66", after := #[{ on := 5, ground := Go.Ground.data }], guard := none }) (v := ?_) rfl (by kernel_rfl) (by kernel_rfl) (by kernel_rfl) (fun _ _ _ h => h) (Or.inl ⟨by rfl, ?_⟩) hHeld ?_
      rotate_left
      · intro w hSw; obtain ⟨hC, hBB⟩ := hSw; obtain ⟨y0, y1, y2, y3, y4, y5⟩ := HCE.out _ hBB; go_simp <;> with_reducible rfl
      try simp only [Act.put, List.setIfInBounds_toArray, List.set_cons_zero, List.set_cons_succ]
      refine wpAnyH_take (i := 7) (oi := { dst := some 54, op := Go.Op.move (Go.Operand.tmp 2), type := 26, pos := "choose.go:66", after := #[], guard := none }) (v := ?_) rfl (by kernel_rfl) (by kernel_rfl) (by kernel_rfl) (fun _ _ _ h => h) (Or.inl ⟨by rfl, ?_⟩) hHeld ?_
      rotate_left
      · intro w hSw; (try dsimp only at hSw); go_simp <;> with_reducible rfl
      try simp only [Act.put, List.setIfInBounds_toArray, List.set_cons_zero, List.set_cons_succ]
      refine wpAnyH_ready (rs := [8]) (by kernel_rfl) (by simp) ?_
      refine AllReadyH.cons rfl (fun K hK => ?_) AllReadyH.nil
      go_simp
      refine Calls.mono HKN.out ?_
      rintro e w3 ⟨rfl, hd3, hk3⟩
      have HD3 : Hid (Dw X w3 (.pointer ra') R2) := hd3
      have HK3 : Hid (Kept (DrB (.pointer ra')) w2.drew w3) := hk3
      clear hd3 hk3
      refine hK.out _ _ (FS.out _ HK3.out) (fun hHeld2 => ?_)
      clear hK K hHeld
      have hHeld := hHeld2
      clear hHeld2
      try simp only [Act.put, List.setIfInBounds_toArray, List.set_cons_zero, List.set_cons_succ]
      refine wpAnyH_take (i := 9) (oi := { dst := some 46, op := Go.Op.move (Go.Operand.tmp 55), type := 82, pos := "choose.go:66", after := #[{ on := 8, ground := Go.Ground.data }], guard := none }) (v := ?_) rfl (by kernel_rfl) (by kernel_rfl) (by kernel_rfl) (fun _ _ _ h => h) (Or.inl ⟨by rfl, ?_⟩) hHeld ?_
      rotate_left
      · intro w hSw; (try dsimp only at hSw); go_simp <;> with_reducible rfl
      try simp only [Act.put, List.setIfInBounds_toArray, List.set_cons_zero, List.set_cons_succ]
      refine wpAnyH_take (i := 10) (oi := { dst := some 56, op := Go.Op.extract (Go.Operand.tmp 46) 0, type := 3, pos := "choose.go:66", after := #[{ on := 9, ground := Go.Ground.data }], guard := none }) (v := ?_) rfl (by kernel_rfl) (by kernel_rfl) (by kernel_rfl) (fun _ _ _ h => h) (Or.inl ⟨by rfl, ?_⟩) hHeld ?_
      rotate_left
      · intro w hSw; (try dsimp only at hSw); go_simp <;> with_reducible rfl
      try simp only [Act.put, List.setIfInBounds_toArray, List.set_cons_zero, List.set_cons_succ]
      refine wpAnyH_take (i := 11) (oi := { dst := some 57, op := Go.Op.extract (Go.Operand.tmp 46) 1, type := 2, pos := "choose.go:66", after := #[{ on := 9, ground := Go.Ground.data }, { on := 12, ground := Go.Ground.gcOnly Go.Departure.lateStores }], guard := none }) (v := ?_) rfl (by kernel_rfl) (by kernel_rfl) (by kernel_rfl) (fun _ _ _ h => h) (Or.inl ⟨by rfl, ?_⟩) hHeld ?_
      rotate_left
      · intro w hSw; (try dsimp only at hSw); go_simp <;> with_reducible rfl
      try simp only [Act.put, List.setIfInBounds_toArray, List.set_cons_zero, List.set_cons_succ]
      refine wpAnyH_take (i := 12) (oi := { dst := some 12, op := Go.Op.assign (Go.Operand.tmp 56), type := 3, pos := "choose.go:66", after := #[{ on := 10, ground := Go.Ground.data }, { on := 8, ground := Go.Ground.chain }, { on := 0, ground := Go.Ground.phase }, { on := 1, ground := Go.Ground.phase }, { on := 2, ground := Go.Ground.phase }, { on := 3, ground := Go.Ground.phase }, { on := 4, ground := Go.Ground.phase }, { on := 5, ground := Go.Ground.phase }, { on := 6, ground := Go.Ground.phase }, { on := 7, ground := Go.Ground.phase }, { on := 8, ground := Go.Ground.phase }, { on := 9, ground := Go.Ground.phase }, { on := 10, ground := Go.Ground.phase }, { on := 11, ground := Go.Ground.textOnly Go.Departure.lateStores }], guard := none }) (v := ?_) rfl (by kernel_rfl) (by kernel_rfl) (by kernel_rfl) (fun _ _ _ h => h) (Or.inl ⟨by rfl, ?_⟩) hHeld ?_
      rotate_left
      · intro w hSw; (try dsimp only at hSw); go_simp <;> with_reducible rfl
      try simp only [Act.put, List.setIfInBounds_toArray, List.set_cons_zero, List.set_cons_succ]
      refine wpAnyH_take (i := 13) (oi := { dst := some 13, op := Go.Op.assign (Go.Operand.tmp 57), type := 2, pos := "choose.go:66", after := #[{ on := 11, ground := Go.Ground.data }, { on := 12, ground := Go.Ground.chain }, { on := 0, ground := Go.Ground.phase }, { on := 1, ground := Go.Ground.phase }, { on := 2, ground := Go.Ground.phase }, { on := 3, ground := Go.Ground.phase }, { on := 4, ground := Go.Ground.phase }, { on := 5, ground := Go.Ground.phase }, { on := 6, ground := Go.Ground.phase }, { on := 7, ground := Go.Ground.phase }, { on := 8, ground := Go.Ground.phase }, { on := 9, ground := Go.Ground.phase }, { on := 10, ground := Go.Ground.phase }, { on := 11, ground := Go.Ground.phase }, { on := 12, ground := Go.Ground.phase }], guard := none }) (v := ?_) rfl (by kernel_rfl) (by kernel_rfl) (by kernel_rfl) (fun _ _ _ h => h) (Or.inl ⟨by rfl, ?_⟩) hHeld ?_
      rotate_left
      · intro w hSw; (try dsimp only at hSw); go_simp <;> with_reducible rfl
      try simp only [Act.put, List.setIfInBounds_toArray, List.set_cons_zero, List.set_cons_succ]
      refine wpAnyH_done (by kernel_rfl) ?_ _
      have HZ3 : Hid (Bx w3 N #[.int .i64 0, .int .i64 0, .int .i64 0] 32) := (HFS.out _ HK3.out).2.1
      obtain ⟨x0, x1, x2⟩ := HZ3.out.three
      have f0 := HZ3.out.fr 0
      have f1 := HZ3.out.fr 1
      have f2 := HZ3.out.fr 2
      have HZX := HZ3.out.set3 (.int .i64 (vn : Int)) (.int .i64 q1) (.int .i64 q2)
      have HFF := HFIN.out w3 q1 q2 HK3.out HZ3.out
      have HFF2 : Hid _ := HFF
      clear HFF
      go_wp2
      refine ⟨rfl, _, res_ct rfl _ HZX (by with_unfolding_all rfl) rfl Tryz.underlying32 (by kernel_rfl) (v := .bool true) (by with_unfolding_all rfl), ?_, ?_, ?_⟩
      · rw [HCF.out]
      · rw [HCF.out]; exact HFF2.out.2 _ HD3.out
      · exact HFF2.out.1
    · obtain ⟨hf1, hf2⟩ := free_pos HSV.out HSS.out
      have HCF : Hid (CM = (((vn : Int), (elemA val (freeL d) R1).1.1, (elemA val (freeL d) R1).1.2, true), (elemA val (freeL d) R1).2)) := by unfold Hid; rw [HCC.out]; simp only [HSS.out, if_true]
      have HKN : Hid (Calls Tryz.prog 40 #[.int .i64 val, .agg #[.bool true, .slice ra n0 rc, .slice a1 n1 cc1, .slice a2 n2 cc2, .int .i64 x, .int .i64 y], .pointer ra'] w2.drew fun e w' => e = .returned (.tuple #[.int .i64 (elemA val (freeL d) R1).1.1, .int .i64 (elemA val (freeL d) R1).1.2]) ∧ Dw X w' (.pointer ra') (elemA val (freeL d) R1).2 ∧ Kept (DrB (.pointer ra')) w2.drew w') := element_any val (HDCB.out _ HBd.out) HSS.out hf1 hf2 HDd.out
      generalize (elemA val (freeL d) R1).1.1 = q1 at *
      generalize (elemA val (freeL d) R1).1.2 = q2 at *
      generalize (elemA val (freeL d) R1).2 = R2 at *
      clear hf1 hf2 HCC
      go_upto_region 6 with (fail)
      refine wp_region_held_drew (S := fun X : World => X.cell? ⟨M, 2, none⟩ = some (.int .i64 val) ∧ Below B0.heap.size B0 X) (by kernel_rfl) (FS.out _ HKd.out) (fun hHeld => ?_)
      refine wpAnyH_take (i := 0) (oi := { dst := some 32, op := Go.Op.fieldAddr 71 (Go.Operand.tmp 8) 2, type := 0, pos := "choose.go:63", after := #[], guard := none }) (v := ?_) rfl (by kernel_rfl) (by kernel_rfl) (by kernel_rfl) (fun _ _ _ h => h) (Or.inl ⟨by rfl, ?_⟩) hHeld ?_
      rotate_left
      · intro w hSw; (try dsimp only at hSw); go_simp <;> with_reducible rfl
      try simp only [Act.put, List.setIfInBounds_toArray, List.set_cons_zero, List.set_cons_succ]
      refine wpAnyH_take (i := 1) (oi := { dst := some 33, op := Go.Op.load 3 (Go.Operand.tmp 32), type := 3, pos := "choose.go:63", after := #[{ on := 0, ground := Go.Ground.data }], guard := none }) (v := ?_) rfl (by kernel_rfl) (by kernel_rfl) (by kernel_rfl) (fun _ _ _ h => h) (Or.inl ⟨by rfl, ?_⟩) hHeld ?_
      rotate_left
      · intro w hSw; obtain ⟨hC, hBB⟩ := hSw; go_simp <;> with_reducible rfl
      try simp only [Act.put, List.setIfInBounds_toArray, List.set_cons_zero, List.set_cons_succ]
      refine wpAnyH_take (i := 2) (oi := { dst := some 34, op := Go.Op.move (Go.Operand.tmp 1), type := 23, pos := "choose.go:63", after := #[], guard := none }) (v := ?_) rfl (by kernel_rfl) (by kernel_rfl) (by kernel_rfl) (fun _ _ _ h => h) (Or.inl ⟨by rfl, ?_⟩) hHeld ?_
      rotate_left
      · intro w hSw; (try dsimp only at hSw); go_simp <;> with_reducible rfl
      try simp only [Act.put, List.setIfInBounds_toArray, List.set_cons_zero, List.set_cons_succ]
      refine wpAnyH_take (i := 3) (oi := { dst := some 35, op := Go.Op.move (Go.Operand.tmp 9), type := 3, pos := "choose.go:63", after := #[], guard := none }) (v := ?_) rfl (by kernel_rfl) (by kernel_rfl) (by kernel_rfl) (fun _ _ _ h => h) (Or.inl ⟨by rfl, ?_⟩) hHeld ?_
      rotate_left
      · intro w hSw; (try dsimp only at hSw); go_simp <;> with_reducible rfl
      try simp only [Act.put, List.setIfInBounds_toArray, List.set_cons_zero, List.set_cons_succ]
      refine wpAnyH_take (i := 4) (oi := { dst := some 36, op := Go.Op.indexAddr 23 (Go.Operand.tmp 34) (Go.Operand.tmp 35), type := 0, pos := "choose.go:63", after := #[{ on := 2, ground := Go.Ground.data }, { on := 3, ground := Go.Ground.data }], guard := none }) (v := ?_) rfl (by kernel_rfl) (by kernel_rfl) (by kernel_rfl) (fun _ _ _ h => h) (Or.inl ⟨by rfl, ?_⟩) hHeld ?_
      rotate_left
      · intro w hSw; (try dsimp only at hSw); go_simp <;> with_reducible rfl
      try simp only [Act.put, List.setIfInBounds_toArray, List.set_cons_zero, List.set_cons_succ]
      refine wpAnyH_take (i := 5) (oi := { dst := some 37, op := Go.Op.load 50 (Go.Operand.tmp 36), type := 50, pos := "choose.go:63", after := #[{ on := 4, ground := Go.Ground.data }], guard := none }) (v := ?_) rfl (by kernel_rfl) (by kernel_rfl) (by kernel_rfl) (fun _ _ _ h => h) (Or.inl ⟨by rfl, ?_⟩) hHeld ?_
      rotate_left
      · intro w hSw; obtain ⟨hC, hBB⟩ := hSw; obtain ⟨y0, y1, y2, y3, y4, y5⟩ := HCE.out _ hBB; go_simp <;> with_reducible rfl
      try simp only [Act.put, List.setIfInBounds_toArray, List.set_cons_zero, List.set_cons_succ]
      refine wpAnyH_take (i := 6) (oi := { dst := some 38, op := Go.Op.move (Go.Operand.tmp 2), type := 26, pos := "choose.go:63", after := #[], guard := none }) (v := ?_) rfl (by kernel_rfl) (by kernel_rfl) (by kernel_rfl) (fun _ _ _ h => h) (Or.inl ⟨by rfl, ?_⟩) hHeld ?_
      rotate_left
      · intro w hSw; (try dsimp only at hSw); go_simp <;> with_reducible rfl
      try simp only [Act.put, List.setIfInBounds_toArray, List.set_cons_zero, List.set_cons_succ]
      refine wpAnyH_ready (rs := [7]) (by kernel_rfl) (by simp) ?_
      refine AllReadyH.cons rfl (fun K hK => ?_) AllReadyH.nil
      go_simp
      refine Calls.mono HKN.out ?_
      rintro e w3 ⟨rfl, hd3, hk3⟩
      have HD3 : Hid (Dw X w3 (.pointer ra') R2) := hd3
      have HK3 : Hid (Kept (DrB (.pointer ra')) w2.drew w3) := hk3
      clear hd3 hk3
      refine hK.out _ _ (FS.out _ HK3.out) (fun hHeld2 => ?_)
      clear hK K hHeld
      have hHeld := hHeld2
      clear hHeld2
      try simp only [Act.put, List.setIfInBounds_toArray, List.set_cons_zero, List.set_cons_succ]
      refine wpAnyH_take (i := 8) (oi := { dst := some 31, op := Go.Op.move (Go.Operand.tmp 39), type := 82, pos := "choose.go:63", after := #[{ on := 7, ground := Go.Ground.data }], guard := none }) (v := ?_) rfl (by kernel_rfl) (by kernel_rfl) (by kernel_rfl) (fun _ _ _ h => h) (Or.inl ⟨by rfl, ?_⟩) hHeld ?_
      rotate_left
      · intro w hSw; (try dsimp only at hSw); go_simp <;> with_reducible rfl
      try simp only [Act.put, List.setIfInBounds_toArray, List.set_cons_zero, List.set_cons_succ]
      refine wpAnyH_take (i := 9) (oi := { dst := some 40, op := Go.Op.extract (Go.Operand.tmp 31) 0, type := 3, pos := "choose.go:63", after := #[{ on := 8, ground := Go.Ground.data }], guard := none }) (v := ?_) rfl (by kernel_rfl) (by kernel_rfl) (by kernel_rfl) (fun _ _ _ h => h) (Or.inl ⟨by rfl, ?_⟩) hHeld ?_
      rotate_left
      · intro w hSw; (try dsimp only at hSw); go_simp <;> with_reducible rfl
      try simp only [Act.put, List.setIfInBounds_toArray, List.set_cons_zero, List.set_cons_succ]
      refine wpAnyH_take (i := 10) (oi := { dst := some 41, op := Go.Op.extract (Go.Operand.tmp 31) 1, type := 2, pos := "choose.go:63", after := #[{ on := 8, ground := Go.Ground.data }, { on := 11, ground := Go.Ground.gcOnly Go.Departure.lateStores }], guard := none }) (v := ?_) rfl (by kernel_rfl) (by kernel_rfl) (by kernel_rfl) (fun _ _ _ h => h) (Or.inl ⟨by rfl, ?_⟩) hHeld ?_
      rotate_left
      · intro w hSw; (try dsimp only at hSw); go_simp <;> with_reducible rfl
      try simp only [Act.put, List.setIfInBounds_toArray, List.set_cons_zero, List.set_cons_succ]
      refine wpAnyH_take (i := 11) (oi := { dst := some 10, op := Go.Op.assign (Go.Operand.tmp 40), type := 3, pos := "choose.go:63", after := #[{ on := 9, ground := Go.Ground.data }, { on := 7, ground := Go.Ground.chain }, { on := 0, ground := Go.Ground.phase }, { on := 1, ground := Go.Ground.phase }, { on := 2, ground := Go.Ground.phase }, { on := 3, ground := Go.Ground.phase }, { on := 4, ground := Go.Ground.phase }, { on := 5, ground := Go.Ground.phase }, { on := 6, ground := Go.Ground.phase }, { on := 7, ground := Go.Ground.phase }, { on := 8, ground := Go.Ground.phase }, { on := 9, ground := Go.Ground.phase }, { on := 10, ground := Go.Ground.textOnly Go.Departure.lateStores }], guard := none }) (v := ?_) rfl (by kernel_rfl) (by kernel_rfl) (by kernel_rfl) (fun _ _ _ h => h) (Or.inl ⟨by rfl, ?_⟩) hHeld ?_
      rotate_left
      · intro w hSw; (try dsimp only at hSw); go_simp <;> with_reducible rfl
      try simp only [Act.put, List.setIfInBounds_toArray, List.set_cons_zero, List.set_cons_succ]
      refine wpAnyH_take (i := 12) (oi := { dst := some 11, op := Go.Op.assign (Go.Operand.tmp 41), type := 2, pos := "choose.go:63", after := #[{ on := 10, ground := Go.Ground.data }, { on := 11, ground := Go.Ground.chain }, { on := 0, ground := Go.Ground.phase }, { on := 1, ground := Go.Ground.phase }, { on := 2, ground := Go.Ground.phase }, { on := 3, ground := Go.Ground.phase }, { on := 4, ground := Go.Ground.phase }, { on := 5, ground := Go.Ground.phase }, { on := 6, ground := Go.Ground.phase }, { on := 7, ground := Go.Ground.phase }, { on := 8, ground := Go.Ground.phase }, { on := 9, ground := Go.Ground.phase }, { on := 10, ground := Go.Ground.phase }, { on := 11, ground := Go.Ground.phase }], guard := none }) (v := ?_) rfl (by kernel_rfl) (by kernel_rfl) (by kernel_rfl) (fun _ _ _ h => h) (Or.inl ⟨by rfl, ?_⟩) hHeld ?_
      rotate_left
      · intro w hSw; (try dsimp only at hSw); go_simp <;> with_reducible rfl
      try simp only [Act.put, List.setIfInBounds_toArray, List.set_cons_zero, List.set_cons_succ]
      refine wpAnyH_done (by kernel_rfl) ?_ _
      have HZ3 : Hid (Bx w3 N #[.int .i64 0, .int .i64 0, .int .i64 0] 32) := (HFS.out _ HK3.out).2.1
      obtain ⟨x0, x1, x2⟩ := HZ3.out.three
      have f0 := HZ3.out.fr 0
      have f1 := HZ3.out.fr 1
      have f2 := HZ3.out.fr 2
      have HZX := HZ3.out.set3 (.int .i64 (vn : Int)) (.int .i64 q1) (.int .i64 q2)
      have HFF := HFIN.out w3 q1 q2 HK3.out HZ3.out
      have HFF2 : Hid _ := HFF
      clear HFF
      go_wp2
      refine ⟨rfl, _, res_ct rfl _ HZX (by with_unfolding_all rfl) rfl Tryz.underlying32 (by kernel_rfl) (v := .bool true) (by with_unfolding_all rfl), ?_, ?_, ?_⟩
      · rw [HCF.out]
      · rw [HCF.out]; exact HFF2.out.2 _ HD3.out
      · exact HFF2.out.1
theorem choose_any {X : Nat → Prop} {B0 W : World} {p1 : Option Addr} {n k1 : Nat} {p2 : Option Addr} {nd k2 : Nat} {L : List Ph} {D : List MD} {rv : Value} {R : List Int} (hP : Ps B0 (.slice p1 n k1) L) (hd : Ds B0 (.slice p2 nd k2) D) (hB : Below B0.heap.size B0 W) (hD : ∀ d ∈ D, Good d) (hz : SzP L D) (hr : Dw X W rv R) (hpos : ∀ b, DrB rv b → B0.heap.size ≤ b) :
    Calls Tryz.prog 10 #[.slice p1 n k1, .slice p2 nd k2, rv] W fun e w' => e = .returned (.tuple #[.agg #[.int .i64 (chooseM L D R).1.1, .int .i64 (chooseM L D R).1.2.1, .int .i64 (chooseM L D R).1.2.2.1], .bool (chooseM L D R).1.2.2.2]) ∧ Dw X w' rv (chooseM L D R).2 ∧ Kept (DrB rv) W w' :=
  (choose_any0 hP hd hB hD hz hr.more hpos (.inr (Nat.le_refl _))).mono fun e w' ⟨he, h1, h2⟩ => ⟨he, h1.less (fun b hb => .inl hb), h2⟩
end Go.Proofs.YthkliicmoandmaaGreatDoor
