/-
  What is proved here: store.All: all domains of a store, in memory of their own that is none of what was there.
-/
import Derived.Test.YtghnfnieppfhgaaGreatMgj
import Derived.Test.YtghnfnieppfhgaaGreatMd
import Derived.Test.YtghnfnieppfhgaaGreatBsj
import Derived.Test.YtghnfnieppfhgaaGreatKgj
import Derived.Test.YtghnfnieppfhgaaGreatKlj
import Derived.OwnWalk
import Derived.Laws.MakeOwn
namespace Go.Proofs.YtghnfnieppfhgaaGreat
open Go.RowKit Go.Shelf
set_option linter.unusedVariables false
set_option linter.unusedSimpArgs false

/-- A list of domains in memory of its own, their numbers in no block of Z. -/
structure LX (Z : Nat → Prop) (N : Nat) (w : World) (v : Value) (D : List MD) (vs : List (List Value)) : Prop where
  n : vs.length = D.length
  r : Rw w 37 v 6 vs
  d : ∀ (i : Nat) (c : List Value) (d : MD), vs[i]? = some c → D[i]? = some d → Dc (fun b => v.ownBlock = some b ∨ Z b) w c d
  b : ∀ g, v.ownBlock = some g → N ≤ g
theorem LX.below {Z : Nat → Prop} {N : Nat} {w w' : World} {v : Value} {D : List MD} {vs : List (List Value)} (h : LX Z N w v D vs) (hb : Below w.heap.size w w') : LX Z N w' v D vs :=
  ⟨h.n, h.r.keep (fun g hg => hb.block g (h.r.lt hg)), fun i c d h1 h2 => (h.d i c d h1 h2).below hb, h.b⟩
theorem LX.ds {Z : Nat → Prop} {N : Nat} {w : World} {v : Value} {D : List MD} {vs : List (List Value)} (h : LX Z N w v D vs) : Ds w v D :=
  LD.ds (N := N) (vs := vs) ⟨h.n, h.r, fun i c d h1 h2 => (h.d i c d h1 h2).up (fun b hb => .inl (.inl hb)), h.b⟩

set_option maxRecDepth 100000 in
set_option maxHeartbeats 4000000 in
theorem all_x [Gh] {W : World} {p : Nat} {st : StM} {sl : Sl} (h : Sto W p st sl) (hz : Sz st) (hH : ∀ o ∈ st.D, Held o) :
    Calls Tryz.prog 15 #[ptr p] W fun e w' => ∃ v vs, e = .returned v ∧ LX (fun b => b < W.heap.size) W.heap.size w' v st.D vs ∧ Below W.heap.size W w' := by
  have HS : Hid (∀ w, Below W.heap.size W w → Sto w p st sl) := fun w hb => h.below hb
  obtain ⟨n, k0, m, sa, sc, ma, mc, ia, ic, da, dc, wa, wc, rfl, HL⟩ := h.look
  obtain ⟨z0, z1, z2, z3, z4, z5, zf⟩ := h.cells
  simp only at z3
  have HND : Hid (st.D.length = n) := HL.out.1
  have hn1 : n ≤ 1000 := by rw [← HL.out.1]; exact hz.1
  obtain ⟨N, hN⟩ : ∃ N, W.heap.size = N := ⟨_, rfl⟩
  have HN : Hid (W.heap.size = N) := hN
  obtain ⟨i0, hi0, hz0, hz1, hz2⟩ := info_parts Tryz.infoDom
  obtain ⟨w1, hmk, how, hgr⟩ := run_makeSlice_owned (P := Tryz.prog) (w := W) W.heap.size 22 37 i0 _ 6 Tryz.underlying22 hi0 hz0 hz1 .i64 .i64 n (by omega) (by rw [hz2]; omega) (by unfold maxLen; omega) (Nat.le_refl _)
  have hb1 : Below W.heap.size W w1 := growB hgr (fun b hb => by cases hb) (Nat.le_refl _)
  have HLD1 : Hid (LX (fun b => b < N) N w1 (.slice (some ⟨N, 0, none⟩) 0 n) (st.D.take 0) []) := by
    rw [hN] at how
    refine ⟨rfl, ⟨fun c hc => by simp at hc, ?_⟩, fun i c d hc => by simp at hc, fun g hg => ?_⟩
    · have h1 := how
      refine ⟨h1.1, ?_⟩
      rcases h1.2 with e | ⟨g, cap, cur, e1, hB, r⟩
      · exact .inl e
      · exact .inr ⟨g, cap, cur, e1, Nat.zero_le _, r⟩
    · have : N = g := by simpa [Value.ownBlock] using hg
      omega
  have HB1 : Hid (Below W.heap.size W w1) := hb1
  have HH : Hid (∀ o ∈ st.D, Held o) := hH
  have z9 := (HS.out w1 hb1).cells.2.2.2.1
  simp only at z9
  rw [hN] at hmk
  clear h hz hH z0 z1 z2 z4 z5 zf hi0 hz0 hz1 hz2 how hgr hb1 HL hN
  go_enter Tryz.func15, Tryz.ntmps15
  go_wp2
  go_loopw [3, 19] (fun v i wr => ∃ (k : Nat) (vs : List (List Value)), i = .int .i64 (k : Int) ∧ k ≤ n ∧ Hid (LX (fun b => b < N) N wr v (st.D.take k) vs) ∧ Hid (Below W.heap.size W wr)) (fun _ i _ => n - (intOf i).toNat)
  case atStart => exact ⟨0, [], rfl, Nat.zero_le _, HLD1, HB1⟩
  case round =>
    obtain ⟨k, vs, rfl, hk, HLD, HB⟩ := hrel
    obtain ⟨sa', sc', rfl, _, _⟩ := HLD.out.r.shape
    have hvl : vs.length = k := by rw [HLD.out.n, List.length_take, HND.out]; omega
    rw [hvl] at HLD ⊢
    have HVL : Hid (vs.length = k) := hvl
    by_cases hlt : k < n
    · have hlt' : (k : Int) < (n : Int) := by omega
      have hwk : IntKind.i64.wrap ((k : Int) + 1) = (k : Int) + 1 := by rw [IntKind.wrap_i64]; omega
      obtain ⟨d, hd⟩ : ∃ d, st.D[k]? = some d := ⟨_, List.getElem?_eq_getElem (by rw [HND.out]; exact hlt)⟩
      obtain ⟨g, cap, c, e1, hgl, hcap, hcm, hr, hth, hdc⟩ := (HS.out wr HB.out).dom_at hd
      injection e1 with e1 e2 e3
      subst e1 e3
      have hO := HH.out d (List.mem_of_getElem? hd)
      have HDD : Hid (st.D[k]? = some d) := hd
      obtain ⟨b, ra, n0, rc, a1, n1, c1, a2, n2, c2, x, y, rfl, HE, _, _, _⟩ := hdc.look
      clear HE
      obtain ⟨i0, i1, i2, i3, i4, i5⟩ := rng6 hr
      have hone := hdc.one
      obtain ⟨bx, hbx⟩ : ∃ q, wr.heap.size = q := ⟨_, rfl⟩
      obtain ⟨Y0, hY0⟩ : ∃ q, wr.alloc (Obj.cells #[.bool b, .slice ra n0 rc, .slice a1 n1 c1, .slice a2 n2 c2, .int .i64 x, .int .i64 y] 37) = q := ⟨_, rfl⟩
      have hbY : Below wr.heap.size wr Y0 := by rw [← hY0]; exact (Below.refl _ _).alloc (Nat.le_refl _) _
      have HBX0 : Hid (Bx Y0 bx #[.bool b, .slice ra n0 rc, .slice a1 n1 c1, .slice a2 n2 c2, .int .i64 x, .int .i64 y] 37) := by rw [← hY0]; exact Bx.new' hbx _ _
      have kl := copy_d (hdc.below hbY) hO.n (by have := hO.lo; omega) (by have := hO.up; omega)
      have HBY : Hid (Below W.heap.size W Y0) := HB.out.trans (hbY.mono HB.out.size)
      have HLDY : Hid (LX (fun b => b < N) N Y0 (.slice sa' k sc') (st.D.take k) vs) := HLD.out.below hbY
      have HY0 : Hid _ := hY0
      obtain ⟨x0, x1, x2, x3, x4, x5⟩ := HBX0.out.six
      clear hd hgl hcap hcm hr hth hdc hO hY0 hbY hvl e2
      go_upto_region 7 with (fail)
      rw [HY0.out]
      clear hbx i0 i1 i2 i3 i4 i5
      go_wp2_with fail
      refine kl.mono ?_
      clear kl x0 x1 x2 x3 x4 x5 hone
      rintro e w1' ⟨q, rfl, hq, hb1⟩
      have hDq := hq (fun b => (Value.slice sa' k sc').ownBlock = some b ∨ b < N) (fun b hb => hb.elim (fun hb => HLDY.out.r.lt (by rw [HVL.out] at *; exact hb)) (fun hb => by have := HBY.out.size; rw [HN.out] at this; omega))
      obtain ⟨f0, f1, f2, f3, f4, f5, rfl⟩ := list6 hDq.len
      have HB1' : Hid (Below W.heap.size W w1') := HBY.out.trans (hb1.mono HBY.out.size)
      have HLD1' : Hid (LX (fun b => b < N) N w1' (.slice sa' k sc') (st.D.take k) vs) := HLDY.out.below hb1
      have hq1 := hDq.one
      obtain ⟨M, hM⟩ : ∃ x, w1'.heap.size = x := ⟨_, rfl⟩
      obtain ⟨w2, hw2⟩ : ∃ x, w1'.alloc (Obj.cells #[f0, f1, f2, f3, f4, f5] 37) = x := ⟨_, rfl⟩
      have hb2 : Below w1'.heap.size w1' w2 := by rw [← hw2]; exact (Below.refl _ _).alloc (Nat.le_refl _) _
      have HBX : Hid (Bx w2 M #[f0, f1, f2, f3, f4, f5] 37) := by rw [← hw2]; exact Bx.new' hM _ _
      have HLD2 : Hid (LX (fun b => b < N) N w2 (.slice sa' k sc') (st.D.take k) vs) := HLD1'.out.below hb2
      have HDq : Hid (Dc (fun b => (Value.slice sa' k sc').ownBlock = some b ∨ b < N) w2 [f0, f1, f2, f3, f4, f5] d) := hDq.below hb2
      have HB2 : Hid (Below W.heap.size W w2) := HB1'.out.trans (hb2.mono HB1'.out.size)
      have HW2 : Hid _ := hw2
      have HOW : Hid (w2.ownsRow 0 37 6 (.slice sa' k sc') k vs.flatten) := by have := HLD2.out.r.2; rw [HVL.out] at this; exact this
      have HQ1 : Hid _ := hq1
      clear hw2 hb2 hDq hq hb1 hq1
      go_wp2_with (at_builtin; rw [HW2.out]; refine list_dom HVL.out HLD2.out.r.1 HOW.out rfl _ _ rfl rfl ⟨M, 0, none⟩ 1 (by first | rfl | (rw [← hM]; rfl)) [f0, f1, f2, f3, f4, f5] rfl (fun j u hu => by rw [Addr.add_lit, Nat.zero_add]; exact (HBX.out.cell j).trans (by simpa using hu)) HQ1.out (by omega) ?_; intro v' w3 hown' hgrow hnew; obtain ⟨gn, capn, rfl⟩ := ownsRow_succ hown')
      go_roundw
      case rel =>
        have key : ∀ c' d', Dc (fun b => (Value.slice sa' k sc').ownBlock = some b ∨ b < N) w2 c' d' → Dc (fun b => (Value.slice (some ⟨gn, 0, none⟩) (k + 1) capn).ownBlock = some b ∨ b < N) w3 c' d' := fun c' d' hdc =>
          hdc.go ⟨hgrow.os, hgrow.tape, hgrow.output, hgrow.size, fun b hb hn => hgrow.block b hb (fun e => hn (.inl e.symm))⟩ (fun b hb => hb.elim (fun hb => (hnew b hb).imp .inl id) (fun hb => .inl (.inr hb)))
        refine ⟨k + 1, vs ++ [[f0, f1, f2, f3, f4, f5]], by go_num, by omega, ⟨?_, ⟨?_, ?_⟩, ?_, ?_⟩, ?_⟩
        · rw [List.length_append, HVL.out, List.length_take, HND.out]; simp; omega
        · intro c' hc'
          rcases List.mem_append.1 hc' with h | h
          · exact HLD2.out.r.1 c' h
          · rw [List.mem_singleton.1 h]; rfl
        · have : (vs ++ [[f0, f1, f2, f3, f4, f5]]).length = k + 1 := by rw [List.length_append, HVL.out]; rfl
          rw [this]; exact hown'
        · intro i c' d' hc' hd'
          rcases Nat.lt_or_ge i k with q1 | q1
          · rw [List.getElem?_append_left (by rw [HVL.out]; exact q1)] at hc'
            rw [List.getElem?_take, if_pos (by omega)] at hd'
            exact key _ _ (HLD2.out.d i c' d' hc' (by rw [List.getElem?_take, if_pos q1]; exact hd'))
          · have hi : i < k + 1 := by have := (List.getElem?_eq_some_iff.1 hc').1; rw [List.length_append, HVL.out] at this; simpa using this
            obtain rfl : i = k := by omega
            rw [List.getElem?_append_right (by rw [HVL.out]; exact Nat.le_refl _), HVL.out, Nat.sub_self] at hc'
            rw [List.getElem?_take, if_pos (by omega), HDD.out] at hd'
            injection hc' with hc'
            injection hd' with hd'
            subst hc' hd'
            exact key _ _ HDq.out
        · intro g hg
          rcases hnew g hg with q1 | q1
          · exact HLD2.out.b g q1
          · have := HB2.out.size; rw [HN.out] at this; omega
        · exact HB2.out.grown hgrow HB2.out.size (fun g hg => by rw [HN.out]; exact HLD2.out.b g hg)
      case measure => simp [intOf]; omega
    · have hlt' : ¬ (k : Int) < (n : Int) := by omega
      obtain rfl : k = n := by omega
      have hfull : st.D.take k = st.D := List.take_of_length_le (by rw [HND.out]; exact Nat.le_refl _)
      rw [hfull] at HLD
      clear hfull hvl
      go_wp2
      go_ret
      exact ⟨_, rfl, ⟨vs, by rw [HN.out]; exact HLD.out⟩, HB.out⟩
end Go.Proofs.YtghnfnieppfhgaaGreat
