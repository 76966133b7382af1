/-
  What is proved here: store.Events of any store that has variables.
-/
import Derived.Test.YtghnfnieppfhgaaGreatMg
import Derived.Test.YtghnfnieppfhgaaGreatKij
namespace Go.Proofs.YtghnfnieppfhgaaGreat
open Go.RowKit Go.Shelf
set_option linter.unusedVariables false
set_option linter.unusedSimpArgs false

def evA (st : StM) (v : Nat) : Option (List Value) := if st.why.getD v 0 ≠ 0 ∧ emptyA (st.D.getD v ⟨false, [], [], [], 0, 0⟩) = false then some [.int .i64 v, .int .i64 (st.why.getD v 0)] else none
def evsA (st : StM) (k : Nat) : List (List Value) := (List.range k).filterMap (evA st)
theorem evsA_succ (st : StM) (k : Nat) : evsA st (k + 1) = evsA st k ++ (evA st k).toList := by
  unfold evsA
  rw [List.range_succ, List.filterMap_append]
  cases h : evA st k <;> simp [h]
theorem evsA_len (st : StM) (k : Nat) : (evsA st k).length ≤ k := by
  unfold evsA
  have := List.length_filterMap_le (evA st) (List.range k)
  simpa using this

set_option maxRecDepth 100000 in
set_option maxHeartbeats 4000000 in
theorem events_d {W : World} {p : Nat} {st : StM} {sl : Sl} (h : Sto W p st sl) (hz : Sz st) (hn0 : 0 < st.D.length) :
    Calls Tryz.prog 19 #[ptr p] W fun e w' => ∃ s, e = .returned s ∧ Rw w' 61 s 2 (evsA st st.D.length) ∧ (∀ b, s.ownBlock = some b → W.heap.size ≤ b) ∧ Sto w' p { st with why := List.replicate st.D.length 0 } sl ∧ Kept (XS p sl) W w' := by
  obtain ⟨n, k, m, sa, sc, ma, mc, ia, ic, da, dc, wa, wc, rfl, HL⟩ := h.look
  have hlw := h.lw
  obtain ⟨gw, hgw⟩ : ∃ g, wa = some ⟨g, 0, none⟩ := by
    obtain ⟨g, cp, e1, _⟩ := h.why.at (i := 0) (c := [.int .i64 (st.why.getD 0 0)]) (by rw [ivs_get, List.getElem?_eq_getElem (by omega)]; simp [List.getD, show 0 < st.why.length by omega])
    injection e1 with e1 _ _
    exact ⟨g, e1⟩
  subst hgw
  have HWAT : Hid (∀ X, Sto X p st ⟨.slice sa k sc, .slice ma m mc, .slice ia n ic, .slice da n dc, .slice (some ⟨gw, 0, none⟩) n wc⟩ → ∀ i, i < n → X.cell? ⟨gw, i, none⟩ = some (.int .i64 (st.why.getD i 0)) ∧ X.frozen? ⟨gw, i, none⟩ = false) := by
    intro X hX i hi
    have hi' : i < st.why.length := by rw [hlw, HL.out.1]; exact hi
    obtain ⟨g, cp, q1, _, _, _, q5, q6⟩ := hX.why.at (i := i) (c := [.int .i64 (st.why.getD i 0)]) (by rw [ivs_get, List.getElem?_eq_getElem hi']; simp [List.getD, hi'])
    injection q1 with q1 _ _
    injection q1 with q1
    injection q1 with q1 _ _
    subst q1
    rw [Nat.mul_one] at q5 q6
    exact ⟨rng_one q5, there_one q6 (by decide)⟩
  have HH : Hid (Sto W p st ⟨.slice sa k sc, .slice ma m mc, .slice ia n ic, .slice da n dc, .slice (some ⟨gw, 0, none⟩) n wc⟩) := h
  have hn1 : n ≤ 1000 := by rw [← HL.out.1]; exact hz.1
  have hnp : 0 < n := by rw [← HL.out.1]; exact hn0
  have HGW : Hid (gw < W.heap.size) := h.why.lt rfl
  have hcw : n ≤ wc ∧ wc ≤ 9223372036854775807 := by
    obtain ⟨a, q, c, e1, hq, h1, h2⟩ := h.why.look
    injection e1 with _ e2 e3
    subst e2 e3
    exact ⟨h1, h2⟩
  obtain ⟨hcw1, hcw2⟩ := hcw
  obtain ⟨z0, z1, z2, z3, z4, z5, zf⟩ := h.cells
  simp only at z5
  have HLW : Hid (st.why.length = st.D.length) := hlw
  rw [HL.out.1]
  clear z0 z1 z2 z3 z4 zf h hz hn0 hlw
  go_enter Tryz.func19, Tryz.ntmps19
  go_wp2
  go_loopw [3, 4, 5, 13] (fun out _ _ i wr => ∃ j : Nat, j ≤ n ∧ i = .int .i64 (j : Int) ∧ Hid (Rw wr 61 out 2 (evsA st j)) ∧ Hid (∀ b, out.ownBlock = some b → W.heap.size ≤ b) ∧ Hid (Below W.heap.size W wr)) (fun _ _ _ i _ => n - (intOf i).toNat)
  case atStart => exact ⟨0, Nat.zero_le _, rfl, ⟨(fun c hc => by simp [evsA] at hc), World.ownsRow_nil _ _ _ _⟩, (fun b hb => by cases hb), Below.refl _ _⟩
  case round =>
    obtain ⟨j, hj, rfl, HR, HF, HB⟩ := hrel
    have HS := HH.out.below HB.out
    by_cases hlt : j < n
    · have hlt' : (j : Int) < n := by omega
      have hcj := (HWAT.out _ HS j hlt).1
      obtain ⟨o, ho⟩ : ∃ o, st.D[j]? = some o := ⟨_, List.getElem?_eq_getElem (by rw [HL.out.1]; exact hlt)⟩
      have hgo : st.D.getD j ⟨false, [], [], [], 0, 0⟩ = o := by rw [List.getD, ho]; rfl
      obtain ⟨oa, oq, oc, eo, HQ, hoc1, hoc2⟩ := HR.out.look
      subst eo
      obtain ⟨gd, cap, c', e1, hgd, hcap, hcm, hr, hth, hco⟩ := HS.dom_at ho
      injection e1 with e1 e2 e3
      subst e1 e3
      clear e2
      rw [HL.out.1] at hcap
      obtain ⟨b', ra', n0', rc', a1', n1', c1', a2', n2', c2', x', y', rfl, HE', _, _, _⟩ := hco.look
      have ke := emptiness_d hco
      obtain ⟨u0, u1, u2, u3, u4, u5⟩ := rng6 hr
      obtain ⟨z0, z1, z2, z3, z4, z9, zf⟩ := HS.cells
      simp only at z3
      obtain ⟨y, hy⟩ : ∃ q, st.why.getD j 0 = q := ⟨_, rfl⟩
      rw [hy] at hcj
      have hEV : evA st j = if y ≠ 0 ∧ emptyA o = false then some [.int .i64 j, .int .i64 y] else none := by unfold evA; rw [hy, hgo]
      have HEV : Hid _ := hEV
      have HSS : Hid _ := HS
      clear hEV hy ho hgo hr hth hco hgd HS z0 z1 z2 z4 z9 zf
      by_cases hy0 : y = 0
      · subst hy0
        go_wp2
        go_roundw
        case rel => exact ⟨j + 1, by omega, by go_num, (by rw [Hid, evsA_succ, HEV.out, if_neg (by simp)]; simpa using HR.out), HF, HB⟩
        case measure => simp [intOf]; omega
      · have hyb : (y != 0) = true := by simpa using hy0
        cases hE : emptyA o
        · rw [hE] at ke
          have he0 : emptI false = 0 := rfl
          rw [he0] at ke
          clear he0
          go_wp2_with fail
          refine ke.mono ?_
          clear ke u0 u1 u2 u3 u4 u5 z3
          rintro e w1 ⟨rfl, hb1⟩
          have HB1 : Hid (Below W.heap.size W w1) := HB.out.trans (hb1.mono HB.out.size)
          have HR1 : Hid (Rw w1 61 (.slice oa oq oc) 2 (evsA st j)) := HR.out.keep fun g hg => hb1.block g (HR.out.lt hg)
          clear hb1
          obtain ⟨bs, hbs⟩ : ∃ q, w1.heap.size = q := ⟨_, rfl⟩
          obtain ⟨w2, hw2⟩ : ∃ q, w1.alloc (Obj.cells #[.int .i64 j, .int .i64 y] 61) = q := ⟨_, rfl⟩
          have hb12 : Below w1.heap.size w1 w2 := by rw [← hw2]; exact (Below.refl _ _).alloc (Nat.le_refl _) _
          have HR2 : Hid (Rw w2 61 (.slice oa oq oc) 2 (evsA st j)) := HR1.out.keep fun g hg => hb12.block g (HR1.out.lt hg)
          have HBS : Hid (Bx w2 bs #[.int .i64 j, .int .i64 y] 61) := by rw [← hw2]; exact Bx.new' hbs _ _
          have HB2 : Hid (Below W.heap.size W w2) := HB1.out.trans (hb12.mono HB1.out.size)
          have HW2 : Hid (w1.alloc (Obj.cells #[.int .i64 j, .int .i64 y] 61) = w2) := hw2
          have HEL : Hid ((evsA st j).length ≤ 100000000) := by have := evsA_len st j; rw [Hid]; omega
          clear hw2 hb12
          go_wp2_with (at_builtin; (try rw [HW2.out]); refine list_app HR2.out 47 Tryz.underlying47 Tryz.infoEvent rfl (by decide) rfl _ _ rfl rfl ⟨bs, 0, none⟩ 1 (by with_unfolding_all rfl) [.int .i64 j, .int .i64 y] rfl (fun j u hu => by rw [Addr.add_mid, Nat.zero_add, HBS.out.cell j]; simpa using hu) (by intro u hu; simp only [List.mem_cons, List.not_mem_nil, or_false] at hu; rcases hu with rfl | rfl <;> rfl) HEL.out (by decide) ?_; intro s3 w3 hr3 hg3 hn3; refine Hid.out ?_)
          refine (show Hid _ from ?_)
          unfold Hid
          obtain ⟨pa, qa, ca, rfl, _, _, _⟩ := hr3.look
          have HR3 : Hid (Rw w3 61 (.slice pa qa ca) 2 (evsA st (j + 1))) := by rw [Hid, evsA_succ, HEV.out, if_pos ⟨hy0, hE⟩]; exact hr3
          have HF3 : Hid (∀ b, (Value.slice pa qa ca).ownBlock = some b → W.heap.size ≤ b) := fun b hb => (hn3 b hb).elim (HF.out b) (fun q => Nat.le_trans HB2.out.size q)
          have HB3 : Hid (Below W.heap.size W w3) := HB2.out.trans (growB hg3 (fun b hb => HF.out b hb) HB2.out.size)
          clear hr3 hg3 hn3 HR2 HB2 HBS HW2 hbs
          go_wp2
          go_roundw
          case rel => exact ⟨j + 1, by omega, by go_num, HR3, HF3, HB3⟩
          case measure => simp [intOf]; omega
        · rw [hE] at ke
          have he0 : emptI true = 1 := rfl
          rw [he0] at ke
          clear he0
          go_wp2_with fail
          refine ke.mono ?_
          clear ke u0 u1 u2 u3 u4 u5 z3
          rintro e w1 ⟨rfl, hb1⟩
          have HB1 : Hid (Below W.heap.size W w1) := HB.out.trans (hb1.mono HB.out.size)
          have HR1 : Hid (Rw w1 61 (.slice oa oq oc) 2 (evsA st j)) := HR.out.keep fun g hg => hb1.block g (HR.out.lt hg)
          clear hb1
          go_wp2
          go_roundw
          case rel => exact ⟨j + 1, by omega, by go_num, (by rw [Hid, evsA_succ, HEV.out, if_neg (by simp [hE])]; simpa using HR1.out), HF, HB1⟩
          case measure => simp [intOf]; omega
    · obtain rfl : j = n := by omega
      have hlt' : ¬ (j : Int) < j := by omega
      obtain ⟨oa, oq, oc, eo, HQ, hoc1, hoc2⟩ := HR.out.look
      subst eo
      have hcl := HS.clear_why (g := gw) (cap := wc) (n := j) rfl
      have e9 : st.why.length = j := by rw [HLW.out, HL.out.1]
      rw [e9] at hcl
      have hclr : ∀ ty, (Builtin.clear_ #[63] ty #[.slice (some ⟨gw, 0, none⟩) j wc]).run Tryz.prog wr = .ok (.tuple #[]) (wr.setCells gw 0 (List.replicate j (.int .i64 0))) := fun ty => Lib.run_clear_slice wr 63 3 ty (.int .i64 0) Tryz.underlying63 (fun w => Tryz.zeroValue3 w) rfl rfl gw 0 j wc hnp (fun i hi => by rw [Nat.zero_add, (HWAT.out _ HS i hi).1]; rfl) (fun i hi => by rw [Nat.zero_add]; exact (HWAT.out _ HS i hi).2)
      obtain ⟨RR, hRR⟩ : ∃ q, List.replicate j (Value.int .i64 0) = q := ⟨_, rfl⟩
      rw [hRR] at hcl
      simp only [hRR] at hclr
      have HCL : Hid _ := hcl
      have HK : Hid (Kept (XS p ⟨.slice sa k sc, .slice ma m mc, .slice ia j ic, .slice da j dc, .slice (some ⟨gw, 0, none⟩) j wc⟩) W (wr.setCells gw 0 RR)) := Kept.setCells (.inr (.inr (.inr (.inr (.inr rfl))))) _ 0 (Kept.mono (Below.kept0 HB.out) (fun _ q => q.elim))
      have HRF : Hid (Rw (wr.setCells gw 0 RR) 61 (.slice oa oq oc) 2 (evsA st j)) := HR.out.keep fun g hg => (Kept.many (w := wr) rfl).block g (HR.out.lt hg) (by have := HF.out g hg; have := HGW.out; omega)
      obtain ⟨z0, z1, z2, z3, z4, z9, zf⟩ := HS.cells
      simp only at z9
      clear hcl hRR HS z0 z1 z2 z3 z4 zf e9
      go_wp2
      go_ret
      exact ⟨_, rfl, HRF.out, HF.out, HCL.out, HK.out⟩

set_option maxRecDepth 100000 in
set_option maxHeartbeats 4000000 in
theorem events_0 {W : World} {p : Nat} {st : StM} {sl : Sl} (h : Sto W p st sl) (h0 : st.D.length = 0) :
    Calls Tryz.prog 19 #[ptr p] W fun e w' => e = .returned (.slice none 0 0) ∧ w' = W := by
  obtain ⟨n, k, m, sa, sc, ma, mc, ia, ic, da, dc, wa, wc, rfl, HL⟩ := h.look
  obtain rfl : n = 0 := by rw [← HL.out.1]; exact h0
  obtain ⟨z0, z1, z2, z3, z4, z5, zf⟩ := h.cells
  simp only at z5
  have hclr : ∀ ty, (Builtin.clear_ #[63] ty #[.slice wa 0 wc]).run Tryz.prog W = .ok (.tuple #[]) W := fun ty => by
    cases wa <;> simp [Builtin.clear_, run_underlying Tryz.underlying63]
  clear h h0 HL z0 z1 z2 z3 z4 zf
  go_enter Tryz.func19, Tryz.ntmps19
  go_wp2
  go_loopw [3, 13] (fun o i wr => o = .slice none 0 0 ∧ i = .int .i64 0 ∧ wr = W) (fun _ _ _ => 0)
  case atStart => exact ⟨rfl, rfl, rfl⟩
  case round =>
    obtain ⟨rfl, rfl, rfl⟩ := hrel
    go_wp2
    go_ret
    exact ⟨rfl, rfl⟩
end Go.Proofs.YtghnfnieppfhgaaGreat
