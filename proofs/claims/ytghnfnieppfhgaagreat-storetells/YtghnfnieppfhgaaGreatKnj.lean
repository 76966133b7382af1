/-
  What is proved here: back: the domains that were saved are put back.
  What is proved here: Pop, Value.
-/
import Derived.Test.YtghnfnieppfhgaaGreatAa
import Derived.Test.YtghnfnieppfhgaaGreatKij
import Derived.Lib.SliceRun
namespace Go.Proofs.YtghnfnieppfhgaaGreat
open Go.RowKit Go.Shelf
set_option linter.unusedVariables false
set_option linter.unusedSimpArgs false

/-- One of what was saved is put back. -/
def stepB (st : StM) (t : Int × MD × Int) : StM := { st with e := st.e + (emptI (emptyW t.2.1) - emptI (emptyW (st.D.getD t.1.toNat ⟨false, [], [], [], 0, 0⟩))), D := st.D.set t.1.toNat t.2.1, since := st.since.set t.1.toNat t.2.2 }
def foldB (st : StM) (l : List (Int × MD × Int)) : StM := l.foldl stepB st
theorem foldB_snoc (st : StM) (l : List (Int × MD × Int)) (t : Int × MD × Int) : foldB st (l ++ [t]) = stepB (foldB st l) t := by simp [foldB]
/-- Clearing a slice of elements of several cells. -/
theorem run_clear_many {P : Program} (w : World) (t e ty : TypeId) (z : Value) (ht : P.underlying t = some (.slice e)) (hv : ∀ w, (zeroValue e).run P w = .ok z w) (h1 : ∀ v ∈ z.cells.toList, v.oneCell' = true) (b o n c : Nat) (hn : 0 < n)
    (hc : ∀ j, j < n * z.cells.size → (w.cell? ⟨b, o + j, none⟩).isSome = true) (hf : ∀ j, j < n * z.cells.size → w.frozen? ⟨b, o + j, none⟩ = false) :
    (Builtin.clear_ #[t] ty #[.slice (some ⟨b, o, none⟩) n c]).run P w = .ok (.tuple #[]) (w.setCells b o (Builtin.zeroCells z.cells n).toList) := by
  have hl : (Builtin.zeroCells z.cells n).toList.length = n * z.cells.size := by rw [Array.length_toList, size_zeroCells]
  have hst := run_storeCells_cells (P := P) b o (Builtin.zeroCells z.cells n).toList 0 w (by rw [hl]; simpa using hc) (by rw [hl]; simpa using hf) (by
    intro v hv'
    simp [Builtin.zeroCells] at hv'
    obtain ⟨a, ha, rfl⟩ := hv'
    rcases Nat.eq_zero_or_pos z.cells.size with e | e
    · rw [e] at ha; simp at ha
    · have hlt : a % z.cells.size < z.cells.size := Nat.mod_lt _ e
      have hm : z.cells[a % z.cells.size] ∈ z.cells.toList := by simp
      simpa [hlt] using h1 _ hm)
  simp only [Nat.add_zero] at hst
  obtain ⟨m, rfl⟩ : ∃ m, n = m + 1 := ⟨n - 1, by omega⟩
  simp [Builtin.clear_, run_underlying ht, hv, hst]
theorem zero_kept (w : World) : (zeroValue 105).run Tryz.prog w = .ok (.agg #[.int .i64 0, .bool false, .slice none 0 0, .slice none 0 0, .slice none 0 0, .int .i64 0, .int .i64 0, .int .i64 0]) w := Tryz.zeroValue105 w
theorem foldB_len (st : StM) : ∀ (l : List (Int × MD × Int)), (foldB st l).D.length = st.D.length ∧ (foldB st l).saved = st.saved ∧ (foldB st l).marks = st.marks ∧ (foldB st l).why = st.why ∧ st.e - l.length ≤ (foldB st l).e ∧ (foldB st l).e ≤ st.e + l.length := by
  intro l
  induction l using Dm.snoc_induct with
  | h0 => simp [foldB]
  | h1 l t ih =>
    obtain ⟨i1, i2, i3, i4, i5, i6⟩ := ih
    rw [foldB_snoc]
    have q1 := emptI_01 (emptyW t.2.1)
    have q2 := emptI_01 (emptyW ((foldB st l).D.getD t.1.toNat ⟨false, [], [], [], 0, 0⟩))
    refine ⟨by simp [stepB, i1], i2, i3, i4, ?_, ?_⟩ <;> (simp only [stepB, List.length_append, List.length_singleton]; omega)
theorem foldB_set (st : StM) (hD : ∀ d ∈ st.D, d.set = false) : ∀ (l : List (Int × MD × Int)), (∀ t ∈ l, t.2.1.set = false) → ∀ d ∈ (foldB st l).D, d.set = false := by
  intro l
  induction l using Dm.snoc_induct with
  | h0 => exact fun _ => hD
  | h1 l t ih =>
    intro hl d hd
    rw [foldB_snoc] at hd
    rcases List.mem_or_eq_of_mem_set hd with hd | rfl
    · exact ih (fun x hx => hl x (by simp [hx])) d hd
    · exact hl t (by simp)

theorem rng8 {w : World} {g o : Nat} {x0 x1 x2 x3 x4 x5 x6 x7 : Value} (h : w.rangeAt g o [x0, x1, x2, x3, x4, x5, x6, x7]) :
    w.cell? ⟨g, o, none⟩ = some x0 ∧ w.cell? ⟨g, o + 1, none⟩ = some x1 ∧ w.cell? ⟨g, o + 2, none⟩ = some x2 ∧ w.cell? ⟨g, o + 3, none⟩ = some x3 ∧ w.cell? ⟨g, o + 4, none⟩ = some x4 ∧ w.cell? ⟨g, o + 5, none⟩ = some x5 ∧ w.cell? ⟨g, o + 6, none⟩ = some x6 ∧ w.cell? ⟨g, o + 7, none⟩ = some x7 :=
  ⟨by simpa using h 0 x0 rfl, h 1 x1 rfl, h 2 x2 rfl, h 3 x3 rfl, h 4 x4 rfl, h 5 x5 rfl, h 6 x6 rfl, h 7 x7 rfl⟩
theorem Sto.saved_at {w : World} {p : Nat} {st : StM} {sl : Sl} (h : Sto w p st sl) {i : Nat} {q : Int × MD × Int} (hd : st.saved[i]? = some q) : ∃ g cap c, sl.sv = .slice (some ⟨g, 0, none⟩) st.saved.length cap ∧ g < w.heap.size ∧ st.saved.length ≤ cap ∧ cap ≤ 9223372036854775807 ∧ w.rangeAt g (i * 8) (kcell q.1 c q.2.2) ∧ Dc (XS p sl) w c q.2.1 := by
  obtain ⟨ks, hr, hkr⟩ := h.saved
  have hv : i < ks.length := by rw [hkr.1]; exact (List.getElem?_eq_some_iff.1 hd).1
  obtain ⟨g, cap, e1, e2, e3, e4, e5, e6⟩ := hr.at (List.getElem?_eq_getElem hv)
  unfold maxLen at e4
  rw [hkr.1] at e1 e3
  obtain ⟨c, ec, hc⟩ := hkr.2 i _ q (List.getElem?_eq_getElem hv) hd
  rw [ec] at e5
  exact ⟨g, cap, c, e1, e2, e3, by omega, e5, hc⟩
theorem Rw.tail {w : World} {t : TypeId} {k m cap g : Nat} {vs : List (List Value)} (h : Rw w t (.slice (some ⟨g, 0, none⟩) m cap) k vs) (o : Nat) (l : List Value) (ho : vs.length * k ≤ o) (hl : o + l.length ≤ cap * k) : Rw (w.setCells g o l) t (.slice (some ⟨g, 0, none⟩) m cap) k vs := by
  rcases h.2.2 with ⟨e1, e2⟩ | ⟨g', cap', cur, e1, e0, hg, hn, hm, hsz, ht⟩
  · cases e1
  · injection e1 with e1 e2 e3
    injection e1 with e1
    injection e1 with e1 _ _
    subst e1 e3
    refine ⟨h.1, h.2.1, .inr ⟨g, cap, wr cur o l, by rw [e2], e0, heap_setCells l o hg (by omega), hn, hm, by rw [wr_size]; exact hsz, ?_⟩⟩
    rw [← ht]
    apply List.ext_getElem?
    intro j
    rw [List.getElem?_take, List.getElem?_take]
    by_cases hj : j < vs.length * k
    · rw [if_pos hj, if_pos hj, wr_get l cur o j (by omega), if_neg (by omega)]
    · rw [if_neg hj, if_neg hj]
theorem grown_cells (w : World) (g o : Nat) (vs : List Value) : w.grownBy (w.setCells g o vs) (some g) := by
  have k : Kept (fun b => b = g) w (w.setCells g o vs) := Kept.many rfl
  exact ⟨k.os, k.tape, k.output, k.size, fun b hb hx => k.block b hb (fun e => hx (by rw [e]))⟩
theorem grown_refl (w : World) (r : Option Nat) : w.grownBy w r := ⟨rfl, rfl, rfl, Nat.le_refl _, fun _ _ _ => rfl⟩
theorem Kr.take {X : Nat → Prop} {w : World} {ks : List (List Value)} {S : List (Int × MD × Int)} (h : Kr X w ks S) (f : Nat) : Kr X w (ks.take f) (S.take f) := by
  refine ⟨by simp [h.1], fun i kc t h1 h2 => ?_⟩
  rw [List.getElem?_take] at h1 h2
  split at h1
  · rename_i hi
    rw [if_pos hi] at h2
    exact h.2 i kc t h1 h2
  · cases h1
/-- What was saved at the end is struck. -/
theorem Sto.cut {w : World} {p gk gm f kf mn sc mc : Nat} {st : StM} {sl : Sl} (h : Sto w p st sl) (hsv : sl.sv = .slice (some ⟨gk, 0, none⟩) (f + kf) sc) (hmv : sl.mv = .slice (some ⟨gm, 0, none⟩) (mn + 1) mc) (hk : f + kf = st.saved.length) (ms : List Int) (x : Int) (hms : st.marks = ms ++ [x]) (hmn : ms.length = mn) (Z : List Value) (hZ : Z.length = kf * 8) (hsc : f + kf ≤ sc) :
    Sto (((w.setCells gk (f * 8) Z).setCell ⟨p, 0, none⟩ (.slice (some ⟨gk, 0, none⟩) f sc)).setCell ⟨p, 1, none⟩ (.slice (some ⟨gm, 0, none⟩) mn mc)) p { st with saved := st.saved.take f, marks := ms } { sl with sv := .slice (some ⟨gk, 0, none⟩) f sc, mv := .slice (some ⟨gm, 0, none⟩) mn mc } ∧
    Up (XS p sl) (XS p { sl with sv := .slice (some ⟨gk, 0, none⟩) f sc, mv := .slice (some ⟨gm, 0, none⟩) mn mc }) w ∧ Kept (XS p sl) w (((w.setCells gk (f * 8) Z).setCell ⟨p, 0, none⟩ (.slice (some ⟨gk, 0, none⟩) f sc)).setCell ⟨p, 1, none⟩ (.slice (some ⟨gm, 0, none⟩) mn mc)) := by
  obtain ⟨ks, hs, hkr⟩ := h.saved
  have hsg : sl.sv.ownBlock = some gk := by rw [hsv]; rfl
  have hlt : (ks.take f).length = f := by rw [List.length_take, hkr.1]; omega
  rw [hsv] at hs
  have r1 := (hs.cut (m := f) (by rw [hkr.1]; omega)).tail (f * 8) Z (by rw [hlt]; exact Nat.le_refl _) (by rw [hZ]; have := Nat.mul_le_mul_right 8 hsc; rw [Nat.add_mul] at this; exact this)
  have g1 : w.grownBy (w.setCells gk (f * 8) Z) sl.sv.ownBlock := by rw [hsg]; exact grown_cells _ _ _ _
  have hn1 : ∀ b, (Value.slice (some ⟨gk, 0, none⟩) f sc).ownBlock = some b → sl.sv.ownBlock = some b ∨ w.heap.size ≤ b := fun b hb => .inl (by rw [hsg]; exact hb)
  have u1 := up_saved (p := p) hn1
  have k1 : Kept (XS p sl) w (w.setCells gk (f * 8) Z) := kept_saved g1
  obtain ⟨f1, f2, f3⟩ := h.set_saved g1 r1 hn1 ((hkr.take f).go k1 u1)
  have r2 := f1.marks
  simp only at r2
  rw [hmv] at r2
  have hlm : (ivs st.marks).length = mn + 1 := by rw [ivs_len, hms]; simp [hmn]
  have r3 := r2.cut (m := mn) (by omega)
  have e3 : (ivs st.marks).take mn = ivs ms := by rw [hms, ivs_snoc, ← hmn]; simp [ivs_len, ivs]
  rw [e3] at r3
  have hmg : sl.mv.ownBlock = some gm := by rw [hmv]; rfl
  obtain ⟨q1, q2, q3⟩ := f1.set_marks (mv' := .slice (some ⟨gm, 0, none⟩) mn mc) (M' := ms) (grown_refl _ _) r3 (fun b hb => .inl (by show sl.mv.ownBlock = _; rw [hmg]; exact hb))
  refine ⟨q1, fun b hb => ?_, f3.trans q3 f2⟩
  rcases q2 b hb with q | q
  · exact f2 b q
  · exact .inr (Nat.le_trans f3.size q)

set_option maxRecDepth 100000 in
set_option maxHeartbeats 4000000 in
theorem back_any {W : World} {p : Nat} {st : StM} {sl : Sl} (h : Sto W p st sl) (hz : Sz st) (ms : List Int) (f : Nat) (hm : st.marks = ms ++ [(f : Int)]) (hf : f < st.saved.length) (hs : st.saved.length ≤ 100000) (hval : ∀ t ∈ st.saved.drop f, 0 ≤ t.1 ∧ t.1 < st.D.length ∧ t.2.1.set = false) (hD : ∀ d ∈ st.D, d.set = false) (he : -500000 ≤ st.e) (he' : st.e ≤ 500000) :
    Calls Tryz.prog 58 #[ptr p, .func (.func 52) #[ptr p] #[]] W fun e w' => e = .returned (.tuple #[]) ∧ ∃ sl', Sto w' p { foldB st (st.saved.drop f) with saved := st.saved.take f, marks := ms } sl' ∧ Up (XS p sl) (XS p sl') W ∧ Kept (XS p sl) W w' := by
  obtain ⟨n, k, m, sa, sc, ma, mc, ia, ic, da, dc, wa, wc, rfl, HL⟩ := h.look
  have hml : m = ms.length + 1 := by rw [← HL.out.2.2, hm]; simp
  obtain ⟨gm, cap, e1, hgm, hle, hcm, hr, hth⟩ := h.marks.at (i := ms.length) (c := [.int .i64 (f : Int)]) (by rw [ivs_get, hm]; simp)
  rw [Nat.mul_one] at hr hth
  have hcf := rng_one hr
  injection e1 with e1 e2 e3
  subst e1 e3
  clear e2 hr hth
  rw [ivs_len, HL.out.2.2] at hle
  unfold maxLen at hcm
  obtain ⟨gk, cap2, c9, e1, hgk, hle2, hcm2, _, _⟩ := h.saved_at (List.getElem?_eq_getElem hf)
  injection e1 with e1 e2 e3
  subst e1 e3
  clear e2
  rw [HL.out.2.1] at hf hs hle2
  obtain ⟨gi, hgi⟩ : ∃ gi, ia = some ⟨gi, 0, none⟩ := by
    have hq := hval _ (List.mem_iff_getElem?.2 ⟨0, by rw [List.getElem?_drop]; exact List.getElem?_eq_getElem (by rw [HL.out.2.1]; exact hf)⟩)
    obtain ⟨g, cp, e1, _⟩ := h.since.at (i := 0) (c := [.int .i64 (st.since.getD 0 0)]) (by rw [ivs_get, List.getElem?_eq_getElem (by rw [h.ls]; omega)]; simp [List.getD, show 0 < st.since.length by rw [h.ls]; omega])
    injection e1 with e1 _ _
    exact ⟨g, e1⟩
  subst hgi
  have HVAL : Hid _ := hval
  have HDS : Hid _ := hD
  have HEB : Hid (-500000 ≤ st.e ∧ st.e ≤ 500000) := ⟨he, he'⟩
  have HZ : Hid (Sz st) := hz
  have HMS : Hid (st.marks = ms ++ [(f : Int)]) := hm
  obtain ⟨z0, z1, z2, z3, z4, z5, zf⟩ := h.cells
  simp only at z0 z1 z2
  have hmb : m ≤ 1000000 := by rw [← HL.out.2.2]; exact hz.2.1
  have hfs : f < sc := by omega
  have hfne : ¬ sc = f := by omega
  have HH : Hid (Sto W p st _) := h
  have hml' : (m : Int) - 1 = (ms.length : Int) := by omega
  obtain ⟨mn, hmn⟩ : ∃ q, ms.length = q := ⟨_, rfl⟩
  have HMN : Hid (ms.length = mn) := hmn
  rw [hmn] at hml hml' hcf
  obtain ⟨kf, hkf⟩ : ∃ q, k - f = q := ⟨_, rfl⟩
  have hkf0 : 0 < kf := by omega
  have hkfb : kf ≤ 100000 := by omega
  have HKF0 : Hid (k = f + kf) := by rw [Hid]; omega
  clear hmn
  clear hm hval hD he he' z2 z3 z4 z5 zf h hz
  go_enter Tryz.func58, Tryz.ntmps58
  go_wp2
  go_loopw [28, 7] (fun i _ wr => ∃ j : Nat, j ≤ kf ∧ i = .int .i64 (j : Int) ∧ Hid (Sto wr p (foldB st ((st.saved.drop f).take j)) ⟨.slice (some ⟨gk, 0, none⟩) k sc, .slice (some ⟨gm, 0, none⟩) m mc, .slice (some ⟨gi, 0, none⟩) n ic, .slice da n dc, .slice wa n wc⟩) ∧ Hid (Kept (XS p ⟨.slice (some ⟨gk, 0, none⟩) k sc, .slice (some ⟨gm, 0, none⟩) m mc, .slice (some ⟨gi, 0, none⟩) n ic, .slice da n dc, .slice wa n wc⟩) W wr)) (fun i _ _ => kf - (intOf i).toNat)
  case atStart => exact ⟨0, Nat.zero_le _, rfl, HH, Kept.refl _ _⟩
  case round =>
    obtain ⟨j, hj, rfl, HS, HK⟩ := hrel
    by_cases hlt : j < kf
    · have hlt' : (j : Int) < kf := by omega
      obtain ⟨q, hq⟩ : ∃ q, st.saved[f + j]? = some q := ⟨_, List.getElem?_eq_getElem (by rw [HL.out.2.1]; omega)⟩
      have hqm : q ∈ st.saved.drop f := by rw [List.mem_iff_getElem?]; exact ⟨j, by rw [List.getElem?_drop]; exact hq⟩
      obtain ⟨hv0, hvn, hset⟩ := HVAL.out q hqm
      have hFS := foldB_len st ((st.saved.drop f).take j)
      obtain ⟨g9, cap9, c, e1, _, _, _, hrg, hdc⟩ := HS.out.saved_at (i := f + j) (q := q) (by rw [hFS.2.1]; exact hq)
      injection e1 with e1 e2 e3
      clear e2 e3
      injection e1 with e1
      injection e1 with e1 e2 e3
      clear e2 e3
      subst e1
      obtain ⟨vI, d, sq⟩ := q
      simp only at hv0 hvn hset hrg hdc
      obtain ⟨v, rfl⟩ : ∃ v : Nat, vI = (v : Int) := ⟨vI.toNat, by omega⟩
      obtain ⟨b0, ra, n0, rc, a1, n1, c1, a2, n2, c2, x, y, rfl, HE, _, _, _⟩ := hdc.look
      obtain rfl : b0 = false := by rw [← HE.out.1, hset]
      rw [Nat.add_mul] at hrg
      obtain ⟨u0, u1, u2, u3, u4, u5, u6, u7⟩ := rng8 hrg
      have hvl : v < (foldB st ((st.saved.drop f).take j)).D.length := by rw [hFS.1]; omega
      obtain ⟨o, ho⟩ : ∃ o, (foldB st ((st.saved.drop f).take j)).D[v]? = some o := ⟨_, List.getElem?_eq_getElem hvl⟩
      have hos : o.set = false := foldB_set st HDS.out _ (fun t ht => (HVAL.out t (List.mem_of_mem_take ht)).2.2) o (List.mem_of_getElem? ho)
      have hlj : ((st.saved.drop f).take j).length ≤ 100000 := by have := List.length_take_le j (st.saved.drop f); omega
      have hzj : Sz (foldB st ((st.saved.drop f).take j)) := ⟨by rw [hFS.1]; exact HZ.out.1, by rw [hFS.2.2.1]; exact HZ.out.2.1, by rw [hFS.2.1]; exact HZ.out.2.2⟩
      obtain ⟨bx, hbx⟩ : ∃ q, wr.heap.size = q := ⟨_, rfl⟩
      obtain ⟨Y0, hY0⟩ : ∃ q, wr.alloc (Obj.cells #[.int .i64 v, .bool false, .slice ra n0 rc, .slice a1 n1 c1, .slice a2 n2 c2, .int .i64 x, .int .i64 y, .int .i64 sq] 105) = q := ⟨_, rfl⟩
      have hbY : Below wr.heap.size wr Y0 := by rw [← hY0]; exact (Below.refl _ _).alloc (Nat.le_refl _) _
      have HBX0 : Hid (Bx Y0 bx #[.int .i64 v, .bool false, .slice ra n0 rc, .slice a1 n1 c1, .slice a2 n2 c2, .int .i64 x, .int .i64 y, .int .i64 sq] 105) := by rw [← hY0]; exact Bx.new' hbx _ _
      have kp := put_any (HS.out.below hbY) (hdc.below hbY) v ho hset hos (by have := hFS.2.2.2.2.1; have := HEB.out; omega) (by have := hFS.2.2.2.2.2; have := HEB.out; omega) hzj
      have HXB : Hid (¬ XS p ⟨.slice (some ⟨gk, 0, none⟩) k sc, .slice (some ⟨gm, 0, none⟩) m mc, .slice (some ⟨gi, 0, none⟩) n ic, .slice da n dc, .slice wa n wc⟩ bx) := fun q => by have := HS.out.x_lt bx q; omega
      have HKY := hid (HK.out.then_below hbY)
      have HTK : Hid ((st.saved.drop f).take (j + 1) = (st.saved.drop f).take j ++ [((v : Int), d, sq)]) := by rw [Hid, List.take_add_one, List.getElem?_drop, hq]; rfl
      have HPM : Hid ({ foldB st ((st.saved.drop f).take j) with e := (foldB st ((st.saved.drop f).take j)).e + (emptI (emptyW d) - emptI (emptyW o)), D := (foldB st ((st.saved.drop f).take j)).D.set v d, since := (foldB st ((st.saved.drop f).take j)).since.set v sq } = stepB (foldB st ((st.saved.drop f).take j)) ((v : Int), d, sq)) := by
        have hg : (foldB st ((st.saved.drop f).take j)).D.getD v ⟨false, [], [], [], 0, 0⟩ = o := by rw [List.getD, ho]; rfl
        simp only [Hid, stepB, Int.toNat_natCast, hg]
      have HVS0 : Hid (v < (foldB st ((st.saved.drop f).take j)).since.length) := by rw [Hid, HS.out.ls]; exact hvl
      have HY0 : Hid (wr.alloc (Obj.cells #[.int .i64 v, .bool false, .slice ra n0 rc, .slice a1 n1 c1, .slice a2 n2 c2, .int .i64 x, .int .i64 y, .int .i64 sq] 105) = Y0) := hY0
      have HBX9 : Hid (bx = wr.heap.size) := hbx.symm
      have hvi : (v : Int) < n := by have := HL.out.1; omega
      clear hY0 hbx hbY hqm hvn hv0 hset hrg hdc hos hlj hzj ho hq hFS hvl HK HS
      go_wp2_with fail
      (try rw [HY0.out])
      (try rw [← HBX9.out])
      refine kp.mono ?_
      clear kp u0 u1 u2 u3 u4 u5 u6 u7
      rintro e w1 ⟨rfl, hs1, hk1⟩
      have HS2 : Hid (Sto w1.drew p _ ⟨.slice (some ⟨gk, 0, none⟩) k sc, .slice (some ⟨gm, 0, none⟩) m mc, .slice (some ⟨gi, 0, none⟩) n ic, .slice da n dc, .slice wa n wc⟩) := hs1.below (Below.refl _ _).drew
      have HK2 : Hid (Kept (XS p ⟨.slice (some ⟨gk, 0, none⟩) k sc, .slice (some ⟨gm, 0, none⟩) m mc, .slice (some ⟨gi, 0, none⟩) n ic, .slice da n dc, .slice wa n wc⟩) W w1.drew) := (HKY.out.trans hk1 (Up.refl _ _)).then_below (Below.refl _ _).drew
      have HBX2 : Hid (Bx w1.drew bx #[.int .i64 v, .bool false, .slice ra n0 rc, .slice a1 n1 c1, .slice a2 n2 c2, .int .i64 x, .int .i64 y, .int .i64 sq] 105) := (HBX0.out.kept hk1 HXB.out).drew 1
      have HXI : Hid (XS p ⟨.slice (some ⟨gk, 0, none⟩) k sc, .slice (some ⟨gm, 0, none⟩) m mc, .slice (some ⟨gi, 0, none⟩) n ic, .slice da n dc, .slice wa n wc⟩ gi) := .inr (.inr (.inr (.inl rfl)))
      have HBG : Hid (bx ≠ gi) := fun e => HXB.out (e ▸ HXI.out)
      have hp2 : w1.drew.cell? ⟨p, 2, none⟩ = some (.slice (some ⟨gi, 0, none⟩) n ic) := HS2.out.cells.2.2.1
      have HPG : Hid (p ≠ gi) := fun e => HS2.out.since.nep HS2.out.blk (by decide) (by rw [e]; rfl)
      have HP2 : Hid ((w1.drew.setCell ⟨gi, v, none⟩ (.int .i64 sq)).cell? ⟨p, 2, none⟩ = some (.slice (some ⟨gi, 0, none⟩) n ic)) := (World.cell?_setCell_other _ _ _ _ (by intro e; injection e with e _ _; exact HPG.out e.symm)).trans hp2
      have HVS : Hid (v < (foldB st ((st.saved.drop f).take j)).since.length) := HVS0.out
      have HTI : Hid ((∃ old, w1.drew.cell? ⟨gi, v, none⟩ = some old) ∧ w1.drew.frozen? ⟨gi, v, none⟩ = false) := by
        obtain ⟨g, cp, e1, _, _, _, e5, e6⟩ := HS2.out.since.at (i := v) (c := [.int .i64 ((foldB st ((st.saved.drop f).take j)).since.getD v 0)]) (by rw [ivs_get]; show ((foldB st ((st.saved.drop f).take j)).since[v]?).map _ = _; rw [List.getElem?_eq_getElem HVS0.out]; simp [List.getD, HVS0.out])
        injection e1 with e1 _ _
        injection e1 with e1
        injection e1 with e1 _ _
        subst e1
        rw [Nat.mul_one] at e5 e6
        exact ⟨⟨_, rng_one e5⟩, there_one e6 (by decide)⟩
      obtain ⟨⟨old, hold⟩, hfrz⟩ := HTI.out
      have HTI : Hid (w1.drew.cell? ⟨gi, v, none⟩ = some old ∧ w1.drew.frozen? ⟨gi, v, none⟩ = false) := ⟨hold, hfrz⟩
      clear hold hfrz hs1 hk1 HKY HBX0 HBX9 HY0 HVS0
      go_upto_region 6 with (fail)
      refine wp_region_held_drew (S := fun X : World => X.cell? ⟨p, 2, none⟩ = some (.slice (some ⟨gi, 0, none⟩) n ic) ∧ Bx X bx #[.int .i64 v, .bool false, .slice ra n0 rc, .slice a1 n1 c1, .slice a2 n2 c2, .int .i64 x, .int .i64 y, .int .i64 sq] 105) (by kernel_rfl) (⟨hp2, HBX2.out⟩) (fun hHeld => ?_)
      refine tkA 0 ⟨some 38, .move (.tmp 0), 103, "trail.go:47", #[], none⟩ hHeld ?_
      try simp only [Act.put, zS, z0, z1]
      refine tkA 1 ⟨some 39, .nilCheck (.tmp 38), 0, "trail.go:47", #[⟨0, .data⟩], none⟩ hHeld ?_
      try simp only [Act.put, zS, z0, z1]
      refine tkA 2 ⟨some 40, .fieldAddr 65 (.tmp 39) 2, 0, "trail.go:47", #[⟨1, .data⟩], none⟩ hHeld ?_
      try simp only [Act.put, zS, z0, z1]
      refine tkH 3 ⟨some 41, .load 63 (.tmp 40), 63, "trail.go:47", #[⟨2, .data⟩], none⟩ (v := ?_) hHeld ?_ ?_; rotate_left
      · intro w hSw; obtain ⟨y2, yb⟩ := hSw; have q0 := yb.cell 0; have q7 := yb.cell 7; simp at q0 q7; go_simp <;> with_reducible rfl
      try simp only [Act.put, zS, z0, z1]
      refine tkA 4 ⟨some 42, .fieldAddr 105 (.tmp 7) 0, 0, "trail.go:47", #[], none⟩ hHeld ?_
      try simp only [Act.put, zS, z0, z1]
      refine tkH 5 ⟨some 43, .load 3 (.tmp 42), 3, "trail.go:47", #[⟨4, .data⟩], none⟩ (v := ?_) hHeld ?_ ?_; rotate_left
      · intro w hSw; obtain ⟨y2, yb⟩ := hSw; have q0 := yb.cell 0; have q7 := yb.cell 7; simp at q0 q7; go_simp <;> with_reducible rfl
      try simp only [Act.put, zS, z0, z1]
      refine tkA 6 ⟨some 44, .fieldAddr 105 (.tmp 7) 2, 0, "trail.go:47", #[], none⟩ hHeld ?_
      try simp only [Act.put, zS, z0, z1]
      refine tkH 7 ⟨some 45, .load 3 (.tmp 44), 3, "trail.go:47", #[⟨6, .data⟩], none⟩ (v := ?_) hHeld ?_ ?_; rotate_left
      · intro w hSw; obtain ⟨y2, yb⟩ := hSw; have q0 := yb.cell 0; have q7 := yb.cell 7; simp at q0 q7; go_simp <;> with_reducible rfl
      try simp only [Act.put, zS, z0, z1]
      refine tkA 8 ⟨some 46, .indexAddr 63 (.tmp 41) (.tmp 43), 0, "trail.go:47", #[⟨3, .data⟩, ⟨5, .data⟩, ⟨0, .phase⟩, ⟨1, .phase⟩, ⟨2, .phase⟩, ⟨3, .phase⟩, ⟨4, .phase⟩, ⟨5, .phase⟩, ⟨6, .phase⟩, ⟨7, .phase⟩], none⟩ hHeld ?_
      try simp only [Act.put, zS, z0, z1]
      refine rdy 9 rfl fun K hK => ?_
      have zq := HTI.out.1
      have zf := HTI.out.2
      go_simp
      clear zq zf
      refine hK.out _ _ (⟨HP2.out, HBX2.out.setc HBG.out _ _⟩) (fun hHeld2 => ?_)
      clear hK K hHeld; have hHeld := hHeld2; clear hHeld2
      try simp only [Act.put, zS, z0, z1]
      refine wpAnyH_done (by kernel_rfl) ?_ _
      have HFIN : Hid (Sto (w1.drew.setCell ⟨gi, v, none⟩ (.int .i64 sq)) p (foldB st ((st.saved.drop f).take (j + 1))) ⟨.slice (some ⟨gk, 0, none⟩) k sc, .slice (some ⟨gm, 0, none⟩) m mc, .slice (some ⟨gi, 0, none⟩) n ic, .slice da n dc, .slice wa n wc⟩) := by
        have := HS2.out.set_since HVS.out rfl sq
        rw [Hid, HTK.out, foldB_snoc, ← HPM.out]
        exact this
      have HKF : Hid (Kept (XS p ⟨.slice (some ⟨gk, 0, none⟩) k sc, .slice (some ⟨gm, 0, none⟩) m mc, .slice (some ⟨gi, 0, none⟩) n ic, .slice da n dc, .slice wa n wc⟩) W (w1.drew.setCell ⟨gi, v, none⟩ (.int .i64 sq))) := HK2.out.setCell HXI.out _ _
      clear HS2 HK2 HP2 HTI HBX2 hHeld HVS HTK HBG HPM hp2
      go_wp2
      go_roundw
      case rel => first | exact ⟨j + 1, by omega, by go_num, HFIN, HKF⟩ | exact ⟨_, _, _, _, _, _, _, _, _, _, _, _, _, _, _, _, _, _, _, _, _, ⟨j + 1, by omega, by go_num, HFIN, HKF⟩, rfl⟩
      case measure => simp [intOf]; omega
    · obtain rfl : j = kf := by omega
      have hlt' : ¬ (j : Int) < j := by omega
      have hFS := foldB_len st ((st.saved.drop f).take j)
      have e0 : (st.saved.drop f).take j = st.saved.drop f := by apply List.take_of_length_le; rw [List.length_drop, HL.out.2.1]; omega
      rw [e0] at HS hFS
      have hksz : j * 8 ≤ (sc - f) * 8 := Nat.mul_le_mul_right _ (by omega)
      have hthr : ∀ i, i < j * (Value.agg #[.int .i64 0, .bool false, .slice none 0 0, .slice none 0 0, .slice none 0 0, .int .i64 0, .int .i64 0, .int .i64 0]).cells.size → (wr.cell? ⟨gk, f * 8 + i, none⟩).isSome = true ∧ wr.frozen? ⟨gk, f * 8 + i, none⟩ = false := by
        intro i hi
        have hi' : i < j * 8 := hi
        obtain ⟨ks, hr, hkr⟩ := HS.out.saved
        rcases hr.2.2 with ⟨e1, _⟩ | ⟨g, cap, cur, e1, _, hg, hn, _, hsz, _⟩
        · cases e1
        · injection e1 with e1 _ e3
          injection e1 with e1
          injection e1 with e1 _ _
          subst e1 e3
          have hk9 : k ≤ sc := by have := HKF0.out; omega
          have : k * 8 ≤ sc * 8 := Nat.mul_le_mul_right _ hk9
          have := HKF0.out
          constructor
          · rw [cell_of_row wr gk _ cur _ _ hg, Array.getElem?_eq_getElem (by omega)]; rfl
          · simp [World.frozen?, hg]
      have hclr : ∀ ty, (Builtin.clear_ #[62] ty #[.slice (some ⟨gk, f * 8, none⟩) j (sc - f)]).run Tryz.prog wr = .ok (.tuple #[]) (wr.setCells gk (f * 8) (Builtin.zeroCells (Value.agg #[.int .i64 0, .bool false, .slice none 0 0, .slice none 0 0, .slice none 0 0, .int .i64 0, .int .i64 0, .int .i64 0]).cells j).toList) := fun ty => run_clear_many wr 62 105 ty _ Tryz.underlying62 (fun w => zero_kept w) (by intro v hv; simp [Value.cells] at hv; rcases hv with rfl | rfl | rfl | rfl <;> rfl) gk (f * 8) j (sc - f) hkf0 (fun i hi => (hthr i hi).1) (fun i hi => (hthr i hi).2)
      obtain ⟨ZZ, hZZ⟩ : ∃ q, (Builtin.zeroCells (Value.agg #[.int .i64 0, .bool false, .slice none 0 0, .slice none 0 0, .slice none 0 0, .int .i64 0, .int .i64 0, .int .i64 0]).cells j).toList = q := ⟨_, rfl⟩
      have hZl : ZZ.length = j * 8 := by rw [← hZZ, Array.length_toList, size_zeroCells]; rfl
      simp only [hZZ] at hclr
      obtain ⟨f1, f2, f3⟩ := HS.out.cut (gk := gk) (gm := gm) (f := f) (kf := j) (mn := mn) (sc := sc) (mc := mc) (by rw [HKF0.out]) (by rw [hml]) (by rw [hFS.2.1, HL.out.2.1, HKF0.out]) ms (f : Int) (by rw [hFS.2.2.1]; exact HMS.out) HMN.out ZZ hZl (by have := HKF0.out; omega)
      rw [hFS.2.1] at f1
      have HF1 : Hid _ := f1
      have HF2 : Hid _ := f2
      have HF3 : Hid _ := f3
      have HPK : Hid (p ≠ gk) := fun e => by obtain ⟨ks, hr, _⟩ := HS.out.saved; exact hr.nep HS.out.blk (by decide) (by rw [e]; rfl)
      have hbp : (wr.setCells gk (f * 8) ZZ).heap[p]? = _ := ((Kept.many (w := wr) rfl).block p HS.out.p_lt HPK.out).trans HS.out.blk
      have y0 := cell_of_row _ p 0 _ _ _ hbp
      have y1 := cell_of_row _ p 1 _ _ _ hbp
      have yf : ∀ o, (wr.setCells gk (f * 8) ZZ).frozen? ⟨p, o, none⟩ = false := fun o => by simp [World.frozen?, hbp]
      have x0 := HS.out.cells.1
      simp only [List.getElem?_toArray, List.getElem?_cons_zero, List.getElem?_cons_succ] at y0 y1 x0
      clear f1 f2 f3 hZZ hthr hbp e0 hFS hZl
      go_wp2
      exact ⟨rfl, _, results_none rfl _ _ _, rfl, _, HF1.out, (fun b hb => (HF2.out b hb).elim .inl (fun q => .inr (Nat.le_trans HK.out.size q))), HK.out.trans HF3.out (Up.refl _ _)⟩
end Go.Proofs.YtghnfnieppfhgaaGreat

namespace Go.Proofs.YtghnfnieppfhgaaGreat
open Go.RowKit Go.Shelf
set_option linter.unusedVariables false
set_option linter.unusedSimpArgs false

def popM (st : StM) (ms : List Int) (f : Nat) : StM := { foldB st (st.saved.drop f) with saved := st.saved.take f, marks := ms, why := List.replicate st.D.length 0 }

set_option maxRecDepth 100000 in
set_option maxHeartbeats 4000000 in
theorem pop_any {W : World} {p : Nat} {st : StM} {sl : Sl} (h : Sto W p st sl) (hz : Sz st) (ms : List Int) (f : Nat) (hm : st.marks = ms ++ [(f : Int)]) (hf : f < st.saved.length) (hs : st.saved.length ≤ 100000) (hval : ∀ t ∈ st.saved.drop f, 0 ≤ t.1 ∧ t.1 < st.D.length ∧ t.2.1.set = false) (hD : ∀ d ∈ st.D, d.set = false) (he : -500000 ≤ st.e) (he' : st.e ≤ 500000) :
    Calls Tryz.prog 18 #[ptr p] W fun e w' => e = .returned (.int .i64 0) ∧ ∃ sl', Sto w' p (popM st ms f) sl' ∧ Up (XS p sl) (XS p sl') W ∧ Kept (XS p sl) W w' := by
  have kd := depth_any h hz
  have kb := back_any h hz ms f hm hf hs hval hD he he'
  have hn0 : 0 < st.D.length := by
    have hq := hval _ (List.mem_iff_getElem?.2 ⟨0, by rw [List.getElem?_drop]; exact List.getElem?_eq_getElem hf⟩)
    omega
  have hml : st.marks.length ≠ 0 := by rw [hm]; simp
  have HFL : Hid _ := foldB_len st (st.saved.drop f)
  have hlw : (foldB st (st.saved.drop f)).why.length = st.D.length := by rw [HFL.out.2.2.2.1]; exact h.lw
  clear h hm hf hs hval hD he he'
  generalize hmm : st.marks.length = m at *
  have hne : ((m : Int) == 0) = false := by simp; omega
  clear hml hmm
  go_enter Tryz.func18, Tryz.ntmps18
  go_wp2_with fail
  refine kd.mono ?_
  clear kd
  rintro e wt ⟨rfl, hwt⟩
  rw [hwt]
  clear hwt wt
  go_wp2_with fail
  refine kb.mono ?_
  clear kb
  rintro e w1 ⟨rfl, sl1, hs1, hu1, hk1⟩
  obtain ⟨n, k, mm, sa, sc, ma, mc, ia, ic, da, dc, wa, wc, rfl, HL⟩ := hs1.look
  have hwl : 0 < ({ foldB st (st.saved.drop f) with saved := st.saved.take f, marks := ms } : StM).why.length := by show 0 < (foldB st (st.saved.drop f)).why.length; omega
  obtain ⟨gw, cap, e1, hgw, hle, hcm, _, _⟩ := hs1.why.at (i := 0) (c := [.int .i64 ((foldB st (st.saved.drop f)).why.getD 0 0)]) (by rw [ivs_get]; show ((foldB st (st.saved.drop f)).why[0]?).map _ = _; rw [List.getElem?_eq_getElem hwl]; simp [List.getD, hwl])
  injection e1 with e1 e2 e3
  subst e1 e3
  rw [ivs_len] at e2
  have hnn : n = (foldB st (st.saved.drop f)).why.length := e2
  clear e2
  have hcl := hs1.clear_why (g := gw) (cap := wc) (n := n) rfl
  have hX : XS p ⟨.slice sa k sc, .slice ma mm mc, .slice ia n ic, .slice da n dc, .slice (some ⟨gw, 0, none⟩) n wc⟩ gw := .inr (.inr (.inr (.inr (.inr rfl))))
  have hthr : ∀ i, i < n → (w1.cell? ⟨gw, 0 + i, none⟩).isSome = true ∧ w1.frozen? ⟨gw, 0 + i, none⟩ = false := by
    intro i hi
    rw [Nat.zero_add]
    have hi' : i < (foldB st (st.saved.drop f)).why.length := by omega
    obtain ⟨g, cp, q1, _, _, _, q5, q6⟩ := hs1.why.at (i := i) (c := [.int .i64 ((foldB st (st.saved.drop f)).why.getD i 0)]) (by rw [ivs_get]; show ((foldB st (st.saved.drop f)).why[i]?).map _ = _; rw [List.getElem?_eq_getElem hi']; simp [List.getD, hi'])
    injection q1 with q1 _ _
    injection q1 with q1
    injection q1 with q1 _ _
    subst q1
    rw [Nat.mul_one] at q5 q6
    exact ⟨by rw [rng_one q5]; rfl, there_one q6 (by decide)⟩
  have hclr : ∀ ty, (Builtin.clear_ #[63] ty #[.slice (some ⟨gw, 0, none⟩) n wc]).run Tryz.prog w1 = .ok (.tuple #[]) (w1.setCells gw 0 (List.replicate n (.int .i64 0))) := fun ty => Lib.run_clear_slice w1 63 3 ty (.int .i64 0) Tryz.underlying63 (fun w => Tryz.zeroValue3 w) rfl rfl gw 0 n wc (by omega) (fun i hi => (hthr i hi).1) (fun i hi => (hthr i hi).2)
  have HC : Hid (Sto (w1.setCells gw 0 (List.replicate n (.int .i64 0))) p (popM st ms f) ⟨.slice sa k sc, .slice ma mm mc, .slice ia n ic, .slice da n dc, .slice (some ⟨gw, 0, none⟩) n wc⟩) := by
    have e9 : ({ foldB st (st.saved.drop f) with saved := st.saved.take f, marks := ms } : StM).why.length = n := hnn.symm
    rw [e9] at hcl
    have e8 : n = st.D.length := by rw [hnn, hlw]
    rw [Hid, popM, ← e8]
    exact hcl
  have HU : Hid _ := hu1
  have HK : Hid (Kept (XS p sl) W (w1.setCells gw 0 (List.replicate n (.int .i64 0)))) := hk1.trans (Kept.setCells hX _ 0 (Kept.refl _ w1)) hu1
  obtain ⟨z0, z1, z2, z3, z4, z5, zf⟩ := hs1.cells
  simp only at z5
  obtain ⟨RR, hRR⟩ : ∃ q, List.replicate n (Value.int .i64 0) = q := ⟨_, rfl⟩
  rw [hRR] at HC HK
  simp only [hRR] at hclr
  clear hcl hthr hX hs1 hu1 hk1 hnn hlw hRR z0 z1 z2 z3 z4 zf hwl hgw hle hcm
  go_wp2
  go_ret
  exact ⟨rfl, _, HC.out, HU.out, HK.out⟩

set_option maxRecDepth 100000 in
set_option maxHeartbeats 4000000 in
theorem value_any {W : World} {p : Nat} {st : StM} {sl : Sl} (h : Sto W p st sl) (hz : Sz st) (v : Nat) {o : MD} (hv : st.D[v]? = some o) (hs : o.set = false) (hf : Dm.FitsR o.r) :
    Calls Tryz.prog 35 #[ptr p, .int .i64 v] W fun e w' => e = .returned (.tuple #[.agg #[.bool false, .int .i64 (onlyW o).1, .slice none 0 0], .bool (onlyW o).2]) ∧ Below W.heap.size W w' := by
  have hvl : v < st.D.length := (List.getElem?_eq_some_iff.1 hv).1
  obtain ⟨W0, hW0⟩ : ∃ Q, W.alloc (Obj.cells #[.bool false, .int .i64 0, .slice none 0 0] 57) = Q := ⟨_, rfl⟩
  have hb0 : Below W.heap.size W W0 := by rw [← hW0]; exact (Below.refl _ W).alloc (Nat.le_refl _) _
  obtain ⟨bv, hbv⟩ : ∃ q, W.heap.size = q := ⟨_, rfl⟩
  have HBV : Hid (Bx W0 bv #[.bool false, .int .i64 0, .slice none 0 0] 57) := by rw [← hW0]; exact Bx.new' hbv _ _
  have h0 := h.below hb0
  obtain ⟨n, k, m, sa, sc, ma, mc, ia, ic, da, dc, wa, wc, rfl, HL⟩ := h.look
  obtain ⟨gd, cap, c', e1, hgd, hcap, hcm, hr, hth, hco⟩ := h0.dom_at hv
  injection e1 with e1 e2 e3
  subst e1 e3
  clear e2
  have hvn : v < n := by rw [← HL.out.1]; exact hvl
  obtain ⟨b', ra', n0', rc', a1', n1', c1', a2', n2', c2', x', y', rfl, HE', H1', H2', H3'⟩ := hco.look
  obtain rfl : b' = false := by rw [← HE'.out.1, hs]
  have kt := there_any h0 hz v
  have htb : thereB st v = true := by unfold thereB; simp; exact hvl
  rw [htb] at kt
  have ko := only_w hco hs hf
  obtain ⟨z0, z1, z2, z3, z4, z5, zf⟩ := h0.cells
  simp only at z3
  obtain ⟨u0, u1, u2, u3, u4, u5⟩ := rng6 hr
  have hcapn : n ≤ dc := by rw [← HL.out.1]; exact hcap
  have hvi : (v : Int) < n := by omega
  have HW0 : Hid _ := hW0
  have HBW : Hid (W.heap.size = bv) := hbv
  have HB0 : Hid (Below W.heap.size W W0) := hb0
  clear hW0 hbv hb0 h h0 hv hs hf hr hth hco htb z0 z1 z2 z4 z5 zf hgd hcap hvl H1' H2' H3' HE' hz
  generalize onlyW o = ow at *
  obtain ⟨o1, o2⟩ := ow
  go_enter Tryz.func35, Tryz.ntmps35
  go_wp2_with fail
  rw [HW0.out]
  refine kt.mono ?_
  clear kt
  rintro e wt ⟨rfl, hwt⟩
  rw [hwt]
  clear hwt wt
  go_wp2_with fail
  (try rw [HW0.out])
  (try rw [HBW.out])
  refine ko.mono ?_
  clear ko
  rintro e w1 ⟨rfl, hb1⟩
  have HB1 : Hid (Bx w1 bv #[.bool false, .int .i64 0, .slice none 0 0] 57) := HBV.out.below hb1
  have HBb : Hid (Below W.heap.size W w1) := HB0.out.trans (hb1.mono HB0.out.size)
  clear hb1 z3 u0 u1 u2 u3 u4 u5
  go_wp2_with (with_reducible refine stV rfl (.tmp 4) (.tmp 19) rfl bv false o1 none 0 0 (by with_unfolding_all rfl) (by with_unfolding_all rfl) HB1.out rfl ?_)
  exact ⟨rfl, _, res_ct rfl _ (HB1.out.setRow _) (by with_unfolding_all rfl) rfl Tryz.underlying57 (by rw [Tryz.sizeVal]; rfl) (v := .bool o2) (by with_unfolding_all rfl), rfl, below_row HBb.out (by have := HBW.out; omega) _⟩
end Go.Proofs.YtghnfnieppfhgaaGreat
