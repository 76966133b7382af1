/-
  What is proved here: the reference's draws; which variable it takes.
-/
import Derived.Test.YthkliicmoandmaaGreatDoorEb
import Derived.Test.YthkliicmoandmaaGreatDoorDg
import Derived.Deep.RegionHeld3
namespace Go.Proofs.YthkliicmoandmaaGreatDoor
open Go.RowKit Go.Shelf
set_option linter.unusedVariables false
set_option linter.unusedSimpArgs false

/-- The reference's draws: the list, and what is left of it. -/
def Rq (X : Nat → Prop) (w : World) (p : Nat) (l R : List Int) : Prop := ∃ k, Rr X w p l k ∧ l.drop k = R
theorem Rr.below {X : Nat → Prop} {w w' : World} {p k : Nat} {l : List Int} (h : Rr X w p l k) (hb : Below w.heap.size w w') : Rr X w' p l k := by
  obtain ⟨a, c, h1, h2, h3, h4⟩ := h
  refine ⟨a, c, h1.below hb, h2, h3, fun h0 => ?_⟩
  obtain ⟨b, off, e1, e2, e3, e5, e4⟩ := h4 h0
  exact ⟨b, off, e1, Nat.lt_of_lt_of_le e2 hb.size, e3, e5, fun i x hx => (hb.cell (p := ⟨b, _, none⟩) e2).trans (e4 i x hx)⟩
theorem Rq.below {X : Nat → Prop} {w w' : World} {p : Nat} {l R : List Int} (h : Rq X w p l R) (hb : Below w.heap.size w w') : Rq X w' p l R := by
  obtain ⟨k, h1, h2⟩ := h
  exact ⟨k, h1.below hb, h2⟩
theorem Rq.lt {X : Nat → Prop} {w : World} {p : Nat} {l R : List Int} (h : Rq X w p l R) : p < w.heap.size := by
  obtain ⟨k, ⟨a, c, h1, _⟩, _⟩ := h
  exact h1.lt
theorem rnext_q {X : Nat → Prop} {W : World} {p : Nat} {l R : List Int} (h : Rq X W p l R) (m : Int) (hM : m ≤ 9223372036854775807) :
    Calls Tryz.prog 81 #[ptr p, .int .i64 m] W fun e w' => e = .returned (.int .i64 (nextM R m).1) ∧ Rq X w' p l (nextM R m).2 ∧ Kept (fun b => b = p) W w' := by
  obtain ⟨k, h1, h2⟩ := h
  have := rnext_any h1 m hM
  rw [h2] at this
  exact this.mono fun e w' ⟨he, ⟨k', q1, q2⟩, hk⟩ => ⟨he, ⟨k', q1, q2⟩, hk⟩
theorem which_full (f : Int → Int) : ∀ (l : List Int) (k : Nat), 0 < k → k ≤ l.length → (whichM f (l.take k)).2.2 = true ∧ (whichM f (l.take k)).2.1 = f (whichM f (l.take k)).1 ∧ (whichM f (l.take k)).1 ∈ l.take k := by
  intro l k hk hl
  induction k with
  | zero => omega
  | succ k ih =>
    have hx : l[k]? = some l[k] := List.getElem?_eq_getElem (by omega)
    rw [whichM_snoc f l k _ hx]
    have hmem : l[k] ∈ l.take (k + 1) := List.mem_of_getElem? (i := k) (by rw [List.getElem?_take, if_pos (by omega)]; exact hx)
    rcases Nat.eq_zero_or_pos k with e | e
    · subst e
      rw [show l.take 0 = [] from rfl]
      have : offM (whichM f []) l[0] (f l[0]) = (l[0], f l[0], true) := offM_new (.inl rfl)
      rw [this]
      exact ⟨rfl, rfl, hmem⟩
    · obtain ⟨h1, h2, h3⟩ := ih e (by omega)
      unfold offM
      split
      · exact ⟨rfl, rfl, hmem⟩
      · exact ⟨h1, h2, by rw [List.take_add_one]; exact List.mem_append_left _ h3⟩
theorem which_next (f : Int → Int) {l : List Int} {k : Nat} {v : Int} (hk : 0 < k) (hx : l[k]? = some v) : (whichM f (l.take (k + 1))).1 = if f v < f (whichM f (l.take k)).1 then v else (whichM f (l.take k)).1 := by
  have hl := (List.getElem?_eq_some_iff.1 hx).1
  obtain ⟨h1, h2, _⟩ := which_full f l k hk (by omega)
  rw [whichM_snoc f l k v hx]
  unfold offM
  rw [h1, h2]
  by_cases hc : f v < f (whichM f (l.take k)).1
  · rw [if_pos (.inr hc), if_pos hc]
  · rw [if_neg (fun q => q.elim (by simp) hc), if_neg hc]

set_option maxRecDepth 100000 in
set_option maxHeartbeats 4000000 in
theorem rvar_rand {X : Nat → Prop} {W : World} {p : Nat} {pv : Option Addr} {nl kv : Nat} {p2 : Option Addr} {nd k2 : Nat} {l L R : List Int} (hv : Nm (fun b => b = p) W (.slice pv nl kv) l) (h0 : 0 < l.length) (hl : l.length ≤ 9223372036854775806) (hr : Rq X W p L R) :
    Calls Tryz.prog 43 #[.int .i64 5, .slice pv nl kv, .slice p2 nd k2, ptr p] W fun e w' => e = .returned (.int .i64 (St.nth l (nextM R l.length).1.toNat)) ∧ Rq X w' p L (nextM R l.length).2 ∧ Kept (fun b => b = p) W w' := by
  have hln : l.length = nl := by obtain ⟨_, _, e, _⟩ := hv; injection e with _ e2 _; exact e2.symm
  obtain ⟨a, c, e, hc⟩ := hv
  obtain ⟨b1, off1, e1, hb1, hx1, hcell⟩ := hc h0
  injection e with q1 q2 q3
  obtain rfl : pv = some ⟨b1, off1, none⟩ := q1.trans e1
  have hnx := next_in R (m := (l.length : Int)) (by omega)
  obtain ⟨kk, hkk⟩ : ∃ k : Nat, (nextM R (l.length : Int)).1 = (k : Int) := ⟨(nextM R (l.length : Int)).1.toNat, by omega⟩
  have hkl : kk < l.length := by omega
  have kn := rnext_q hr (l.length : Int) (by omega)
  rw [hkk, hln] at kn
  have hq : St.nth l (nextM R (l.length : Int)).1.toNat = St.nth l kk := by rw [hkk]; rfl
  rw [hq]
  have HCE : Hid (∀ w, Kept (fun b => b = p) W w → w.cell? ⟨b1, off1 + kk, none⟩ = some (.int .i64 (St.nth l kk))) := fun w hk => (hk.cell hb1 hx1 _).trans (hcell kk _ (nth_get hkl))
  rw [hln] at hkl h0 hl ⊢
  have hkl' : (kk : Int) < (nl : Int) := by omega
  generalize St.nth l kk = q at *
  generalize (nextM R (nl : Int)).2 = R' at *
  clear hln hr hc hcell e1 q1 q2 q3 hnx hkk hq hb1 hx1
  go_enter Tryz.func43, Tryz.ntmps43
  go_wp2_with fail
  refine kn.mono ?_
  clear kn
  rintro e w1 ⟨rfl, hd1, hk1⟩
  have g0 := HCE.out w1 hk1
  have HD1 : Hid (Rq X w1 p L R') := hd1
  have HK1 : Hid (Kept (fun b => b = p) W w1) := hk1
  clear hd1 hk1
  go_wp2
  go_ret
  exact ⟨rfl, HD1.out, HK1.out⟩

set_option maxRecDepth 100000 in
set_option maxHeartbeats 4000000 in
theorem rvar_which {W : World} {rv : Value} (hrv : rv.oneCell' = true) {pv : Option Addr} {nl kv : Nat} {p2 : Option Addr} {nd k2 : Nat} {l : List Int} {D : List MD} (how : Int) (h5 : how ≠ 5) (hv : Ns W (.slice pv nl kv) l) (hd : Ds W (.slice p2 nd k2) D) (ho : ∀ v ∈ l, openB D v = true) (h0 : 0 < l.length) (hl : l.length ≤ 9223372036854775806) :
    Calls Tryz.prog 43 #[.int .i64 how, .slice pv nl kv, .slice p2 nd k2, rv] W fun e w' => e = .returned (.int .i64 (whichM (rkV (rankF how) D) l).1) ∧ Below W.heap.size W w' := by
  have hln : l.length = nl := by obtain ⟨_, _, e, _⟩ := hv; injection e with _ e2 _; exact e2.symm
  have hnd : D.length = nd := by obtain ⟨_, _, e, _⟩ := hd; injection e with _ e2 _; exact e2.symm
  obtain ⟨a, c, e, hc⟩ := hv
  obtain ⟨b1, off1, e1, hb1, _, hcell⟩ := hc h0
  injection e with q1 q2 q3
  obtain rfl : pv = some ⟨b1, off1, none⟩ := q1.trans e1
  have HCE : Hid (∀ w, Below W.heap.size W w → ∀ i x, l[i]? = some x → w.cell? ⟨b1, off1 + i, none⟩ = some (.int .i64 x)) := fun w hb i x hx => (hb.cell (p := ⟨b1, _, none⟩) hb1).trans (hcell i x hx)
  have HD : Hid (Ds W (.slice p2 nd k2) D) := hd
  have HO : Hid (∀ v ∈ l, openB D v = true) := ho
  have HLN : Hid (l.length = nl) := hln
  have HND : Hid (D.length = nd) := hnd
  have e5 : (how == 5) = false := by simpa using h5
  have hx0 : l[0]? = some l[0] := List.getElem?_eq_getElem h0
  obtain ⟨v0, hv0⟩ : ∃ q, l[0] = q := ⟨_, rfl⟩
  rw [hv0] at hx0
  have g0 : W.cell? ⟨b1, off1, none⟩ = some (.int .i64 v0) := by have := hcell 0 v0 hx0; rwa [Nat.add_zero] at this
  have HW1 : Hid (v0 = (whichM (rkV (rankF how) D) (l.take 1)).1) := by
    unfold Hid
    rw [whichM_snoc (rkV (rankF how) D) l 0 v0 hx0, show l.take 0 = [] from rfl]
    rw [offM_new (.inl rfl)]
  have HFU : Hid (∀ k, 0 < k → k ≤ l.length → (whichM (rkV (rankF how) D) (l.take k)).1 ∈ l.take k) := fun k h1 h2 => (which_full _ l k h1 h2).2.2
  have HNX : Hid (∀ k v, 0 < k → l[k]? = some v → (whichM (rkV (rankF how) D) (l.take (k + 1))).1 = if rkV (rankF how) D v < rkV (rankF how) D (whichM (rkV (rankF how) D) (l.take k)).1 then v else (whichM (rkV (rankF how) D) (l.take k)).1) := fun k v h1 h2 => which_next _ h1 h2
  have HRK : Hid (∀ (n : Nat) (d : MD), D[n]? = some d → rkV (rankF how) D (n : Int) = rankF how d) := fun n d h => by unfold rkV; simp [h]
  generalize rkV (rankF how) D = f at *
  have HFL : Hid (whichM f l = whichM f (l.take nl)) := by unfold Hid; rw [List.take_of_length_le (by rw [hln]; exact Nat.le_refl _)]
  rw [HFL.out]
  rw [hln] at h0 hl
  clear hc hcell e1 q1 q2 q3 hd ho hln hnd hx0 hv0 hb1
  go_enter Tryz.func43, Tryz.ntmps43
  go_wp2
  go_loopw [9, 10] (fun bvv i wr => ∃ (k : Nat) (bv : Int), bvv = .int .i64 bv ∧ i = .int .i64 (k : Int) ∧ 0 < k ∧ k ≤ nl ∧ Hid (bv = (whichM f (l.take k)).1) ∧ Hid (Below W.heap.size W wr)) (fun _ i _ => nl - (intOf i).toNat)
  case atStart => exact ⟨1, v0, rfl, rfl, by omega, by omega, HW1.out, Below.refl _ _⟩
  case round =>
    obtain ⟨k, bv, rfl, rfl, hk0, hk, HBV, HB⟩ := hrel
    clear g0
    by_cases hlt : k < nl
    · have hlt' : (k : Int) < (nl : Int) := by omega
      have hwk : IntKind.i64.wrap ((k : Int) + 1) = (k : Int) + 1 := by rw [IntKind.wrap_i64]; omega
      obtain ⟨v, hv⟩ : ∃ v, l[k]? = some v := ⟨_, List.getElem?_eq_getElem (by rw [HLN.out]; exact hlt)⟩
      obtain ⟨m1, d1, rfl, hd1, hs1, hm1⟩ := openB_dom (HO.out v (List.mem_of_getElem? hv))
      obtain ⟨m2, d2, hbv, hd2, hs2, hm2⟩ := openB_dom (HO.out bv (by rw [HBV.out]; exact List.mem_of_mem_take (HFU.out k hk0 (by rw [HLN.out]; exact hk))))
      subst hbv
      have HST := HNX.out k (m1 : Int) hk0 hv
      rw [← HBV.out, HRK.out m1 d1 hd1, HRK.out m2 d2 hd2] at HST
      have HS : Hid ((whichM f (l.take (k + 1))).1 = if rankF how d1 < rankF how d2 then (m1 : Int) else (m2 : Int)) := HST
      obtain ⟨b2, off2, rfl, hb2l, _, c0, c1, c2, c3, c4, c5, hDc1, i0, i1, i2, i3, i4, i5⟩ := (HD.out.below HB.out).at hd1
      obtain ⟨b2', off2', hpp, _, _, e0, e1, e2, e3, e4, e5', hDc2, j0, j1, j2, j3, j4, j5⟩ := (HD.out.below HB.out).at hd2
      injection hpp with hpp
      injection hpp with hp1 hp2
      subst hp1 hp2
      have kb := rbetter_any how (hDc1.below (Below.refl _ wr).drew) (hDc2.below (Below.refl _ wr).drew) hs1 hs2
      have HKB : Hid _ := kb
      have g1 := HCE.out wr HB.out k (m1 : Int) hv
      have HG1 : Hid (wr.cell? ⟨b1, off1 + k, none⟩ = some (.int .i64 (m1 : Int))) := g1
      have FS : Hid (∀ w, Below wr.heap.size wr w → w.cell? ⟨b1, off1 + k, none⟩ = some (.int .i64 (m1 : Int)) ∧ (w.cell? ⟨b2, off2 + m1 * 6, none⟩ = some c0 ∧ w.cell? ⟨b2, off2 + m1 * 6 + 1, none⟩ = some c1 ∧ w.cell? ⟨b2, off2 + m1 * 6 + 2, none⟩ = some c2 ∧ w.cell? ⟨b2, off2 + m1 * 6 + 3, none⟩ = some c3 ∧ w.cell? ⟨b2, off2 + m1 * 6 + 4, none⟩ = some c4 ∧ w.cell? ⟨b2, off2 + m1 * 6 + 5, none⟩ = some c5) ∧ (w.cell? ⟨b2, off2 + m2 * 6, none⟩ = some e0 ∧ w.cell? ⟨b2, off2 + m2 * 6 + 1, none⟩ = some e1 ∧ w.cell? ⟨b2, off2 + m2 * 6 + 2, none⟩ = some e2 ∧ w.cell? ⟨b2, off2 + m2 * 6 + 3, none⟩ = some e3 ∧ w.cell? ⟨b2, off2 + m2 * 6 + 4, none⟩ = some e4 ∧ w.cell? ⟨b2, off2 + m2 * 6 + 5, none⟩ = some e5')) := fun w hb => ⟨(hb.cell (p := ⟨b1, _, none⟩) (World.block_lt_of_cell? wr ⟨b1, off1 + k, none⟩ HG1.out)).trans HG1.out, ⟨(hb.cell (p := ⟨b2, _, none⟩) hb2l).trans i0, (hb.cell (p := ⟨b2, _, none⟩) hb2l).trans i1, (hb.cell (p := ⟨b2, _, none⟩) hb2l).trans i2, (hb.cell (p := ⟨b2, _, none⟩) hb2l).trans i3, (hb.cell (p := ⟨b2, _, none⟩) hb2l).trans i4, (hb.cell (p := ⟨b2, _, none⟩) hb2l).trans i5⟩, ⟨(hb.cell (p := ⟨b2, _, none⟩) hb2l).trans j0, (hb.cell (p := ⟨b2, _, none⟩) hb2l).trans j1, (hb.cell (p := ⟨b2, _, none⟩) hb2l).trans j2, (hb.cell (p := ⟨b2, _, none⟩) hb2l).trans j3, (hb.cell (p := ⟨b2, _, none⟩) hb2l).trans j4, (hb.cell (p := ⟨b2, _, none⟩) hb2l).trans j5⟩⟩
      have hm1' : m1 < nd := by rw [← HND.out]; exact hm1
      have hm2' : m2 < nd := by rw [← HND.out]; exact hm2
      have hm1i : (m1 : Int) < (nd : Int) := by omega
      have hm2i : (m2 : Int) < (nd : Int) := by omega
      have HP0 : Hid (Below wr.heap.size wr wr.drew) := (Below.refl _ _).drew
      have HBWr : Hid (Below W.heap.size W wr) := HB.out
      have HVV : Hid (l[k]? = some (m1 : Int)) := hv
      have hone1 := hDc1.one
      have hone2 := hDc2.one
      clear kb hv hd1 hd2 hs1 hs2 hm1 hm2 HST i0 i1 i2 i3 i4 i5 j0 j1 j2 j3 j4 j5 hDc1 hDc2 hb2l hone1 hone2
      by_cases hr : rankF how d1 < rankF how d2
      · have hdr : decide (rankF how d1 < rankF how d2) = true := by simpa using hr
        have HE : Hid ((whichM f (l.take (k + 1))).1 = (m1 : Int)) := by unfold Hid; rw [HS.out, if_pos hr]
        rw [hdr] at HKB
        clear g1
        go_upto_region 7 with (fail)
        refine wp_region_held_drew (S := fun w : World => w.cell? ⟨b1, off1 + k, none⟩ = some (.int .i64 (m1 : Int)) ∧ (w.cell? ⟨b2, off2 + m1 * 6, none⟩ = some c0 ∧ w.cell? ⟨b2, off2 + m1 * 6 + 1, none⟩ = some c1 ∧ w.cell? ⟨b2, off2 + m1 * 6 + 2, none⟩ = some c2 ∧ w.cell? ⟨b2, off2 + m1 * 6 + 3, none⟩ = some c3 ∧ w.cell? ⟨b2, off2 + m1 * 6 + 4, none⟩ = some c4 ∧ w.cell? ⟨b2, off2 + m1 * 6 + 5, none⟩ = some c5) ∧ (w.cell? ⟨b2, off2 + m2 * 6, none⟩ = some e0 ∧ w.cell? ⟨b2, off2 + m2 * 6 + 1, none⟩ = some e1 ∧ w.cell? ⟨b2, off2 + m2 * 6 + 2, none⟩ = some e2 ∧ w.cell? ⟨b2, off2 + m2 * 6 + 3, none⟩ = some e3 ∧ w.cell? ⟨b2, off2 + m2 * 6 + 4, none⟩ = some e4 ∧ w.cell? ⟨b2, off2 + m2 * 6 + 5, none⟩ = some e5')) (by kernel_rfl) ((FS.out _ HP0.out)) (fun hHeld => ?_)
        refine wpAnyH_take (i := 0) (oi := { dst := some 29, op := Go.Op.move (Go.Operand.tmp 0), type := 3, pos := "ref.go:99", after := #[], guard := none }) (v := ?_) rfl (by kernel_rfl) (by kernel_rfl) (by kernel_rfl) (fun _ _ _ h => h) (Or.inl ⟨by rfl, ?_⟩) hHeld ?_
        rotate_left
        · intro w hSw; (try dsimp only at hSw); go_simp <;> with_reducible rfl
        try simp only [Act.put, List.setIfInBounds_toArray, List.set_cons_zero, List.set_cons_succ]
        refine wpAnyH_take (i := 1) (oi := { dst := some 30, op := Go.Op.move (Go.Operand.tmp 2), type := 23, pos := "ref.go:99", after := #[], guard := none }) (v := ?_) rfl (by kernel_rfl) (by kernel_rfl) (by kernel_rfl) (fun _ _ _ h => h) (Or.inl ⟨by rfl, ?_⟩) hHeld ?_
        rotate_left
        · intro w hSw; (try dsimp only at hSw); go_simp <;> with_reducible rfl
        try simp only [Act.put, List.setIfInBounds_toArray, List.set_cons_zero, List.set_cons_succ]
        refine wpAnyH_take (i := 2) (oi := { dst := some 31, op := Go.Op.move (Go.Operand.tmp 1), type := 24, pos := "ref.go:99", after := #[], guard := none }) (v := ?_) rfl (by kernel_rfl) (by kernel_rfl) (by kernel_rfl) (fun _ _ _ h => h) (Or.inl ⟨by rfl, ?_⟩) hHeld ?_
        rotate_left
        · intro w hSw; (try dsimp only at hSw); go_simp <;> with_reducible rfl
        try simp only [Act.put, List.setIfInBounds_toArray, List.set_cons_zero, List.set_cons_succ]
        refine wpAnyH_take (i := 3) (oi := { dst := some 32, op := Go.Op.move (Go.Operand.tmp 10), type := 3, pos := "ref.go:99", after := #[], guard := none }) (v := ?_) rfl (by kernel_rfl) (by kernel_rfl) (by kernel_rfl) (fun _ _ _ h => h) (Or.inl ⟨by rfl, ?_⟩) hHeld ?_
        rotate_left
        · intro w hSw; (try dsimp only at hSw); go_simp <;> with_reducible rfl
        try simp only [Act.put, List.setIfInBounds_toArray, List.set_cons_zero, List.set_cons_succ]
        refine wpAnyH_take (i := 4) (oi := { dst := some 33, op := Go.Op.indexAddr 24 (Go.Operand.tmp 31) (Go.Operand.tmp 32), type := 0, pos := "ref.go:99", after := #[{ on := 2, ground := Go.Ground.data }, { on := 3, ground := Go.Ground.data }], guard := none }) (v := ?_) rfl (by kernel_rfl) (by kernel_rfl) (by kernel_rfl) (fun _ _ _ h => h) (Or.inl ⟨by rfl, ?_⟩) hHeld ?_
        rotate_left
        · intro w hSw; (try dsimp only at hSw); go_simp <;> with_reducible rfl
        try simp only [Act.put, List.setIfInBounds_toArray, List.set_cons_zero, List.set_cons_succ]
        refine wpAnyH_take (i := 5) (oi := { dst := some 34, op := Go.Op.load 3 (Go.Operand.tmp 33), type := 3, pos := "ref.go:99", after := #[{ on := 4, ground := Go.Ground.data }], guard := none }) (v := ?_) rfl (by kernel_rfl) (by kernel_rfl) (by kernel_rfl) (fun _ _ _ h => h) (Or.inl ⟨by rfl, ?_⟩) hHeld ?_
        rotate_left
        · intro w hSw; obtain ⟨hC, ⟨y0, y1, y2, y3, y4, y5⟩, ⟨x0, x1, x2, x3, x4, x5⟩⟩ := hSw; go_simp <;> with_reducible rfl
        try simp only [Act.put, List.setIfInBounds_toArray, List.set_cons_zero, List.set_cons_succ]
        refine wpAnyH_take (i := 6) (oi := { dst := some 35, op := Go.Op.indexAddr 23 (Go.Operand.tmp 30) (Go.Operand.tmp 34), type := 0, pos := "ref.go:99", after := #[{ on := 1, ground := Go.Ground.data }, { on := 5, ground := Go.Ground.data }], guard := none }) (v := ?_) rfl (by kernel_rfl) (by kernel_rfl) (by kernel_rfl) (fun _ _ _ h => h) (Or.inl ⟨by rfl, ?_⟩) hHeld ?_
        rotate_left
        · intro w hSw; (try dsimp only at hSw); go_simp <;> with_reducible rfl
        try simp only [Act.put, List.setIfInBounds_toArray, List.set_cons_zero, List.set_cons_succ]
        refine wpAnyH_take (i := 7) (oi := { dst := some 36, op := Go.Op.load 50 (Go.Operand.tmp 35), type := 50, pos := "ref.go:99", after := #[{ on := 6, ground := Go.Ground.data }], guard := none }) (v := ?_) rfl (by kernel_rfl) (by kernel_rfl) (by kernel_rfl) (fun _ _ _ h => h) (Or.inl ⟨by rfl, ?_⟩) hHeld ?_
        rotate_left
        · intro w hSw; obtain ⟨hC, ⟨y0, y1, y2, y3, y4, y5⟩, ⟨x0, x1, x2, x3, x4, x5⟩⟩ := hSw; go_simp <;> with_reducible rfl
        try simp only [Act.put, List.setIfInBounds_toArray, List.set_cons_zero, List.set_cons_succ]
        refine wpAnyH_take (i := 8) (oi := { dst := some 37, op := Go.Op.move (Go.Operand.tmp 2), type := 23, pos := "ref.go:99", after := #[], guard := none }) (v := ?_) rfl (by kernel_rfl) (by kernel_rfl) (by kernel_rfl) (fun _ _ _ h => h) (Or.inl ⟨by rfl, ?_⟩) hHeld ?_
        rotate_left
        · intro w hSw; (try dsimp only at hSw); go_simp <;> with_reducible rfl
        try simp only [Act.put, List.setIfInBounds_toArray, List.set_cons_zero, List.set_cons_succ]
        refine wpAnyH_take (i := 9) (oi := { dst := some 38, op := Go.Op.move (Go.Operand.tmp 9), type := 3, pos := "ref.go:99", after := #[], guard := none }) (v := ?_) rfl (by kernel_rfl) (by kernel_rfl) (by kernel_rfl) (fun _ _ _ h => h) (Or.inl ⟨by rfl, ?_⟩) hHeld ?_
        rotate_left
        · intro w hSw; (try dsimp only at hSw); go_simp <;> with_reducible rfl
        try simp only [Act.put, List.setIfInBounds_toArray, List.set_cons_zero, List.set_cons_succ]
        refine wpAnyH_take (i := 10) (oi := { dst := some 39, op := Go.Op.indexAddr 23 (Go.Operand.tmp 37) (Go.Operand.tmp 38), type := 0, pos := "ref.go:99", after := #[{ on := 8, ground := Go.Ground.data }, { on := 9, ground := Go.Ground.data }], guard := none }) (v := ?_) rfl (by kernel_rfl) (by kernel_rfl) (by kernel_rfl) (fun _ _ _ h => h) (Or.inl ⟨by rfl, ?_⟩) hHeld ?_
        rotate_left
        · intro w hSw; (try dsimp only at hSw); go_simp <;> with_reducible rfl
        try simp only [Act.put, List.setIfInBounds_toArray, List.set_cons_zero, List.set_cons_succ]
        refine wpAnyH_take (i := 11) (oi := { dst := some 40, op := Go.Op.load 50 (Go.Operand.tmp 39), type := 50, pos := "ref.go:99", after := #[{ on := 10, ground := Go.Ground.data }], guard := none }) (v := ?_) rfl (by kernel_rfl) (by kernel_rfl) (by kernel_rfl) (fun _ _ _ h => h) (Or.inl ⟨by rfl, ?_⟩) hHeld ?_
        rotate_left
        · intro w hSw; obtain ⟨hC, ⟨y0, y1, y2, y3, y4, y5⟩, ⟨x0, x1, x2, x3, x4, x5⟩⟩ := hSw; go_simp <;> with_reducible rfl
        try simp only [Act.put, List.setIfInBounds_toArray, List.set_cons_zero, List.set_cons_succ]
        refine wpAnyH_ready (rs := [12]) (by kernel_rfl) (by simp) ?_
        refine AllReadyH.cons rfl (fun K hK => ?_) AllReadyH.nil
        go_simp
        refine Calls.mono HKB.out ?_
        rintro e u1 ⟨rfl, hbu⟩
        have HP1 : Hid (Below wr.heap.size wr u1) := HP0.out.trans (hbu.mono HP0.out.size)
        clear hbu
        refine hK.out _ _ ((FS.out _ HP1.out)) (fun hHeld2 => ?_)
        clear hK K hHeld
        have hHeld := hHeld2
        clear hHeld2
        try simp only [Act.put, List.setIfInBounds_toArray, List.set_cons_zero, List.set_cons_succ]
        refine wpAnyH_done (by kernel_rfl) ?_ _
        have g1 := (FS.out _ HP1.out).1
        have HBU : Hid (Below W.heap.size W u1) := HBWr.out.trans (HP1.out.mono HBWr.out.size)
        go_wp2
        go_roundw
        case rel => exact ⟨k + 1, _, rfl, by go_num, by omega, by omega, HE.out.symm, HBU.out⟩
        case measure => simp [intOf]; omega
      · have hdr : decide (rankF how d1 < rankF how d2) = false := by simpa using hr
        have HE : Hid ((whichM f (l.take (k + 1))).1 = (m2 : Int)) := by unfold Hid; rw [HS.out, if_neg hr]
        rw [hdr] at HKB
        clear g1
        go_upto_region 7 with (fail)
        refine wp_region_held_drew (S := fun w : World => w.cell? ⟨b1, off1 + k, none⟩ = some (.int .i64 (m1 : Int)) ∧ (w.cell? ⟨b2, off2 + m1 * 6, none⟩ = some c0 ∧ w.cell? ⟨b2, off2 + m1 * 6 + 1, none⟩ = some c1 ∧ w.cell? ⟨b2, off2 + m1 * 6 + 2, none⟩ = some c2 ∧ w.cell? ⟨b2, off2 + m1 * 6 + 3, none⟩ = some c3 ∧ w.cell? ⟨b2, off2 + m1 * 6 + 4, none⟩ = some c4 ∧ w.cell? ⟨b2, off2 + m1 * 6 + 5, none⟩ = some c5) ∧ (w.cell? ⟨b2, off2 + m2 * 6, none⟩ = some e0 ∧ w.cell? ⟨b2, off2 + m2 * 6 + 1, none⟩ = some e1 ∧ w.cell? ⟨b2, off2 + m2 * 6 + 2, none⟩ = some e2 ∧ w.cell? ⟨b2, off2 + m2 * 6 + 3, none⟩ = some e3 ∧ w.cell? ⟨b2, off2 + m2 * 6 + 4, none⟩ = some e4 ∧ w.cell? ⟨b2, off2 + m2 * 6 + 5, none⟩ = some e5')) (by kernel_rfl) ((FS.out _ HP0.out)) (fun hHeld => ?_)
        refine wpAnyH_take (i := 0) (oi := { dst := some 29, op := Go.Op.move (Go.Operand.tmp 0), type := 3, pos := "ref.go:99", after := #[], guard := none }) (v := ?_) rfl (by kernel_rfl) (by kernel_rfl) (by kernel_rfl) (fun _ _ _ h => h) (Or.inl ⟨by rfl, ?_⟩) hHeld ?_
        rotate_left
        · intro w hSw; (try dsimp only at hSw); go_simp <;> with_reducible rfl
        try simp only [Act.put, List.setIfInBounds_toArray, List.set_cons_zero, List.set_cons_succ]
        refine wpAnyH_take (i := 1) (oi := { dst := some 30, op := Go.Op.move (Go.Operand.tmp 2), type := 23, pos := "ref.go:99", after := #[], guard := none }) (v := ?_) rfl (by kernel_rfl) (by kernel_rfl) (by kernel_rfl) (fun _ _ _ h => h) (Or.inl ⟨by rfl, ?_⟩) hHeld ?_
        rotate_left
        · intro w hSw; (try dsimp only at hSw); go_simp <;> with_reducible rfl
        try simp only [Act.put, List.setIfInBounds_toArray, List.set_cons_zero, List.set_cons_succ]
        refine wpAnyH_take (i := 2) (oi := { dst := some 31, op := Go.Op.move (Go.Operand.tmp 1), type := 24, pos := "ref.go:99", after := #[], guard := none }) (v := ?_) rfl (by kernel_rfl) (by kernel_rfl) (by kernel_rfl) (fun _ _ _ h => h) (Or.inl ⟨by rfl, ?_⟩) hHeld ?_
        rotate_left
        · intro w hSw; (try dsimp only at hSw); go_simp <;> with_reducible rfl
        try simp only [Act.put, List.setIfInBounds_toArray, List.set_cons_zero, List.set_cons_succ]
        refine wpAnyH_take (i := 3) (oi := { dst := some 32, op := Go.Op.move (Go.Operand.tmp 10), type := 3, pos := "ref.go:99", after := #[], guard := none }) (v := ?_) rfl (by kernel_rfl) (by kernel_rfl) (by kernel_rfl) (fun _ _ _ h => h) (Or.inl ⟨by rfl, ?_⟩) hHeld ?_
        rotate_left
        · intro w hSw; (try dsimp only at hSw); go_simp <;> with_reducible rfl
        try simp only [Act.put, List.setIfInBounds_toArray, List.set_cons_zero, List.set_cons_succ]
        refine wpAnyH_take (i := 4) (oi := { dst := some 33, op := Go.Op.indexAddr 24 (Go.Operand.tmp 31) (Go.Operand.tmp 32), type := 0, pos := "ref.go:99", after := #[{ on := 2, ground := Go.Ground.data }, { on := 3, ground := Go.Ground.data }], guard := none }) (v := ?_) rfl (by kernel_rfl) (by kernel_rfl) (by kernel_rfl) (fun _ _ _ h => h) (Or.inl ⟨by rfl, ?_⟩) hHeld ?_
        rotate_left
        · intro w hSw; (try dsimp only at hSw); go_simp <;> with_reducible rfl
        try simp only [Act.put, List.setIfInBounds_toArray, List.set_cons_zero, List.set_cons_succ]
        refine wpAnyH_take (i := 5) (oi := { dst := some 34, op := Go.Op.load 3 (Go.Operand.tmp 33), type := 3, pos := "ref.go:99", after := #[{ on := 4, ground := Go.Ground.data }], guard := none }) (v := ?_) rfl (by kernel_rfl) (by kernel_rfl) (by kernel_rfl) (fun _ _ _ h => h) (Or.inl ⟨by rfl, ?_⟩) hHeld ?_
        rotate_left
        · intro w hSw; obtain ⟨hC, ⟨y0, y1, y2, y3, y4, y5⟩, ⟨x0, x1, x2, x3, x4, x5⟩⟩ := hSw; go_simp <;> with_reducible rfl
        try simp only [Act.put, List.setIfInBounds_toArray, List.set_cons_zero, List.set_cons_succ]
        refine wpAnyH_take (i := 6) (oi := { dst := some 35, op := Go.Op.indexAddr 23 (Go.Operand.tmp 30) (Go.Operand.tmp 34), type := 0, pos := "ref.go:99", after := #[{ on := 1, ground := Go.Ground.data }, { on := 5, ground := Go.Ground.data }], guard := none }) (v := ?_) rfl (by kernel_rfl) (by kernel_rfl) (by kernel_rfl) (fun _ _ _ h => h) (Or.inl ⟨by rfl, ?_⟩) hHeld ?_
        rotate_left
        · intro w hSw; (try dsimp only at hSw); go_simp <;> with_reducible rfl
        try simp only [Act.put, List.setIfInBounds_toArray, List.set_cons_zero, List.set_cons_succ]
        refine wpAnyH_take (i := 7) (oi := { dst := some 36, op := Go.Op.load 50 (Go.Operand.tmp 35), type := 50, pos := "ref.go:99", after := #[{ on := 6, ground := Go.Ground.data }], guard := none }) (v := ?_) rfl (by kernel_rfl) (by kernel_rfl) (by kernel_rfl) (fun _ _ _ h => h) (Or.inl ⟨by rfl, ?_⟩) hHeld ?_
        rotate_left
        · intro w hSw; obtain ⟨hC, ⟨y0, y1, y2, y3, y4, y5⟩, ⟨x0, x1, x2, x3, x4, x5⟩⟩ := hSw; go_simp <;> with_reducible rfl
        try simp only [Act.put, List.setIfInBounds_toArray, List.set_cons_zero, List.set_cons_succ]
        refine wpAnyH_take (i := 8) (oi := { dst := some 37, op := Go.Op.move (Go.Operand.tmp 2), type := 23, pos := "ref.go:99", after := #[], guard := none }) (v := ?_) rfl (by kernel_rfl) (by kernel_rfl) (by kernel_rfl) (fun _ _ _ h => h) (Or.inl ⟨by rfl, ?_⟩) hHeld ?_
        rotate_left
        · intro w hSw; (try dsimp only at hSw); go_simp <;> with_reducible rfl
        try simp only [Act.put, List.setIfInBounds_toArray, List.set_cons_zero, List.set_cons_succ]
        refine wpAnyH_take (i := 9) (oi := { dst := some 38, op := Go.Op.move (Go.Operand.tmp 9), type := 3, pos := "ref.go:99", after := #[], guard := none }) (v := ?_) rfl (by kernel_rfl) (by kernel_rfl) (by kernel_rfl) (fun _ _ _ h => h) (Or.inl ⟨by rfl, ?_⟩) hHeld ?_
        rotate_left
        · intro w hSw; (try dsimp only at hSw); go_simp <;> with_reducible rfl
        try simp only [Act.put, List.setIfInBounds_toArray, List.set_cons_zero, List.set_cons_succ]
        refine wpAnyH_take (i := 10) (oi := { dst := some 39, op := Go.Op.indexAddr 23 (Go.Operand.tmp 37) (Go.Operand.tmp 38), type := 0, pos := "ref.go:99", after := #[{ on := 8, ground := Go.Ground.data }, { on := 9, ground := Go.Ground.data }], guard := none }) (v := ?_) rfl (by kernel_rfl) (by kernel_rfl) (by kernel_rfl) (fun _ _ _ h => h) (Or.inl ⟨by rfl, ?_⟩) hHeld ?_
        rotate_left
        · intro w hSw; (try dsimp only at hSw); go_simp <;> with_reducible rfl
        try simp only [Act.put, List.setIfInBounds_toArray, List.set_cons_zero, List.set_cons_succ]
        refine wpAnyH_take (i := 11) (oi := { dst := some 40, op := Go.Op.load 50 (Go.Operand.tmp 39), type := 50, pos := "ref.go:99", after := #[{ on := 10, ground := Go.Ground.data }], guard := none }) (v := ?_) rfl (by kernel_rfl) (by kernel_rfl) (by kernel_rfl) (fun _ _ _ h => h) (Or.inl ⟨by rfl, ?_⟩) hHeld ?_
        rotate_left
        · intro w hSw; obtain ⟨hC, ⟨y0, y1, y2, y3, y4, y5⟩, ⟨x0, x1, x2, x3, x4, x5⟩⟩ := hSw; go_simp <;> with_reducible rfl
        try simp only [Act.put, List.setIfInBounds_toArray, List.set_cons_zero, List.set_cons_succ]
        refine wpAnyH_ready (rs := [12]) (by kernel_rfl) (by simp) ?_
        refine AllReadyH.cons rfl (fun K hK => ?_) AllReadyH.nil
        go_simp
        refine Calls.mono HKB.out ?_
        rintro e u1 ⟨rfl, hbu⟩
        have HP1 : Hid (Below wr.heap.size wr u1) := HP0.out.trans (hbu.mono HP0.out.size)
        clear hbu
        refine hK.out _ _ ((FS.out _ HP1.out)) (fun hHeld2 => ?_)
        clear hK K hHeld
        have hHeld := hHeld2
        clear hHeld2
        try simp only [Act.put, List.setIfInBounds_toArray, List.set_cons_zero, List.set_cons_succ]
        refine wpAnyH_done (by kernel_rfl) ?_ _
        have HBU : Hid (Below W.heap.size W u1) := HBWr.out.trans (HP1.out.mono HBWr.out.size)
        go_wp2
        go_roundw
        case rel => exact ⟨k + 1, _, rfl, by go_num, by omega, by omega, HE.out.symm, HBU.out⟩
        case measure => simp [intOf]; omega
    · have hlt' : ¬ (k : Int) < (nl : Int) := by omega
      obtain rfl : k = nl := by omega
      go_wp2
      go_ret
      exact ⟨by rw [← HBV.out]; rfl, HB.out⟩

theorem rvar_all {X : Nat → Prop} {W : World} {p : Nat} {pv : Option Addr} {nl kv : Nat} {p2 : Option Addr} {nd k2 : Nat} {P : Ph} {D : List MD} {L R : List Int} (hv : Nm (fun b => b = p) W (.slice pv nl kv) P.vars) (hd : Ds W (.slice p2 nd k2) D) (ho : ∀ v ∈ P.vars, openB D v = true) (h0 : P.vars ≠ []) (hl : P.vars.length ≤ 9223372036854775806) (hr : Rq X W p L R) :
    Calls Tryz.prog 43 #[.int .i64 P.sel, .slice pv nl kv, .slice p2 nd k2, ptr p] W fun e w' => e = .returned (.int .i64 (selM P D R).1) ∧ Rq X w' p L (selM P D R).2 ∧ Kept (fun b => b = p) W w' := by
  unfold selM
  by_cases h5 : P.sel = 5
  · rw [if_pos h5, h5]
    exact rvar_rand hv (List.length_pos_iff.2 h0) hl hr
  · rw [if_neg h5]
    have hns : Ns W (.slice pv nl kv) P.vars := by
      obtain ⟨a, c, e, hc⟩ := hv
      exact ⟨a, c, e, fun q => by obtain ⟨b, off, e1, e2, _, e4⟩ := hc q; exact ⟨b, off, e1, e2, fun h => h, e4⟩⟩
    exact (rvar_which (rv := ptr p) rfl P.sel h5 hns hd ho (List.length_pos_iff.2 h0) hl).mono fun e w' ⟨he, hb⟩ => ⟨he, hr.below hb, Kept.of_below hb⟩
end Go.Proofs.YthkliicmoandmaaGreatDoor
