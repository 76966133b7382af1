/-
  What is proved here: the walk of BitsPlays where both sets are made, and small.
-/
import Derived.Test.YtgcgomofmicchaaDoorZh
import Derived.Test.YtgcgomofmicchaaDoorYt
import Derived.Deep.LoopGhost
import Derived.Deep.CutBlock
import Derived.Deep.CutRange
namespace Go.Proofs.YtgcgomofmicchaaDoor
open Go.RowKit Go.Shelf
set_option linter.unusedVariables false

/-- A call of the script: which, with which number, of which set. -/
structure Sop where
  kind : Int
  v : Int
  on : Bool
def sat (l : List Sop) (i : Nat) : Sop := l[i]?.getD ⟨0, 0, false⟩
/-- The slice value s has the calls l. -/
def So (W : World) (s : Value) (l : List Sop) : Prop :=
  ∃ a cap, s = .slice a l.length cap ∧ (0 < l.length → ∃ b off, a = some ⟨b, off, none⟩ ∧ b < W.heap.size ∧ ∀ i, i < l.length → W.cell? ⟨b, off + i * 3, none⟩ = some (.int .i64 (sat l i).kind) ∧ W.cell? ⟨b, off + i * 3 + 1, none⟩ = some (.int .i64 (sat l i).v) ∧ W.cell? ⟨b, off + i * 3 + 2, none⟩ = some (.bool (sat l i).on))

theorem of_cases2 (l : List Rg) (hf : FitsR l) :
    (∃ e : Int, e ≠ 0 ∧ ∀ s w, Sr w s l → (Calls Tryd.prog 9 #[s] w fun r w' => r = .returned (.tuple #[.pointer none, .int .i64 e]) ∧ Below w.heap.size w w') ∧ (Calls Tryd.prog 10 #[s] w fun r w' => r = .returned (.tuple #[.pointer none, .int .i64 e]) ∧ Below w.heap.size w w')) ∨
    (∃ f room ws L, Match f room ws L ∧ ∀ s w, Sr w s l → (Calls Tryd.prog 9 #[s] w fun r w' => ∃ b g c : Nat, r = .returned (.tuple #[.pointer (some ⟨b, 0, none⟩), .int .i64 0]) ∧ w.heap.size ≤ g ∧ Bits w' b g c f room ws ∧ Below w.heap.size w w') ∧
      (Calls Tryd.prog 10 #[s] w fun r w' => ∃ rb rg rc : Nat, r = .returned (.tuple #[.pointer (some ⟨rb, 0, none⟩), .int .i64 0]) ∧ w.heap.size ≤ rb ∧ w.heap.size ≤ rg ∧ Ref w' rb rg rc f L ∧ Below w.heap.size w w')) := by
  by_cases hR : Some' l
  · by_cases hl : room l ≤ 65536
    · refine .inr ⟨_, _, _, _, match_of l hR hl, fun s w h => ⟨(of_yes s l w h hf hR hl).mono (fun e w' ⟨b, he, hib, hb⟩ => by
        obtain ⟨g, c, _, hg, hB⟩ := hib.open
        exact ⟨b, g, c, he, hg, hB, hb⟩), (refof_yes s l w h hR hl).mono fun e w' ⟨b, g, n, p, he, hb0, hg0, hn, hb, hrow, hp, hbel⟩ => ⟨b, g, n, he, hb0, hg0, ?_, hbel⟩⟩⟩
      have e1 : ofL l = (List.range n).map p := by
        unfold ofL
        rw [hn, Int.toNat_natCast]
        refine List.map_congr_left fun j hj => ?_
        have hj' : j < n := by simpa using hj
        have h9 := hp j hj'
        cases hpj : p j
        · rw [hpj] at h9
          have : ¬ (lo l 0 + (j : Int) ∈ vals l) := fun q => by simpa using h9.2 q
          simp [this]
        · have := h9.1 hpj
          simp [this]
      rw [e1]
      exact ref_of (by omega) hb hrow
    · exact .inl ⟨4, by decide, fun s w h => ⟨of_long s l w h hf hR (by omega), refof_full s l w h hR (by omega)⟩⟩
  · exact .inl ⟨20, by decide, fun s w h => ⟨of_no s l w h hf hR, refof_no s l w h hR⟩⟩

set_option maxRecDepth 100000 in
set_option maxHeartbeats 8000000 in
theorem plays_loop (s1 s2 : Value) (sa : Option Addr) (sc : Nat) (l1 l2 : List Rg) (ops : List Sop) (w : World) (h1 : Sr w s1 l1) (h2 : Sr w s2 l2) (hs : So w (.slice sa ops.length sc) ops) (hT : Tab w)
    (f1 room1 : Int) (ws1 : List Nat) (L1 : List Bool) (m1 : Match f1 room1 ws1 L1)
    (k1 : ∀ s w, Sr w s l1 → (Calls Tryd.prog 9 #[s] w fun r w' => ∃ b g c : Nat, r = .returned (.tuple #[.pointer (some ⟨b, 0, none⟩), .int .i64 0]) ∧ w.heap.size ≤ g ∧ Bits w' b g c f1 room1 ws1 ∧ Below w.heap.size w w') ∧
      (Calls Tryd.prog 10 #[s] w fun r w' => ∃ rb rg rc : Nat, r = .returned (.tuple #[.pointer (some ⟨rb, 0, none⟩), .int .i64 0]) ∧ w.heap.size ≤ rb ∧ w.heap.size ≤ rg ∧ Ref w' rb rg rc f1 L1 ∧ Below w.heap.size w w'))
    (f2 room2 : Int) (ws2 : List Nat) (L2 : List Bool) (m2 : Match f2 room2 ws2 L2)
    (k2 : ∀ s w, Sr w s l2 → (Calls Tryd.prog 9 #[s] w fun r w' => ∃ b g c : Nat, r = .returned (.tuple #[.pointer (some ⟨b, 0, none⟩), .int .i64 0]) ∧ w.heap.size ≤ g ∧ Bits w' b g c f2 room2 ws2 ∧ Below w.heap.size w w') ∧
      (Calls Tryd.prog 10 #[s] w fun r w' => ∃ rb rg rc : Nat, r = .returned (.tuple #[.pointer (some ⟨rb, 0, none⟩), .int .i64 0]) ∧ w.heap.size ≤ rb ∧ w.heap.size ≤ rg ∧ Ref w' rb rg rc f2 L2 ∧ Below w.heap.size w w'))
    (hL1 : L1.length ≤ 3000) (hL2 : L2.length ≤ 3000) :
    Calls Tryd.prog 4 #[s1, s2, .slice sa ops.length sc] w fun e w' => e = .returned (.bool true) ∧ Below w.heap.size w w' := by
  have hT0 := hT.1
  have HS1 : Hid (Sr w s1 l1) := h1
  have HS2 : Hid (Sr w s2 l2) := h2
  have HSO : Hid (So w (.slice sa ops.length sc) ops) := hs
  have HT : Hid (Tab w) := hT
  have K1 : Hid _ := k1
  have K2 : Hid _ := k2
  have M1 : Hid (Match f1 room1 ws1 L1) := m1
  have M2 : Hid (Match f2 room2 ws2 L2) := m2
  obtain ⟨a1, c1, rfl, _⟩ := h1
  obtain ⟨a2, c2, rfl, _⟩ := h2
  obtain ⟨n, hn⟩ : ∃ n, ops.length = n := ⟨_, rfl⟩
  have HN : Hid (ops.length = n) := hn
  rw [hn] at HSO ⊢
  clear hs hT k1 k2 m1 m2 hn
  go_enter Tryd.func4, Tryd.ntmps4
  go_wp2_with fail
  refine (K1.out _ w HS1.out).1.mono ?_
  rintro e w1 ⟨b1, g1, cc1, rfl, hg1, hB1, hb1⟩
  have HB1 : Hid (Bits w1 b1 g1 cc1 f1 room1 ws1) := hB1
  clear hB1
  go_wp2_with fail
  refine (K2.out _ w1 (HS2.out.below hb1)).1.mono ?_
  rintro e w2 ⟨b2, g2, cc2, rfl, hg2, hB2, hb2⟩
  have HB2 : Hid (Bits w2 b2 g2 cc2 f2 room2 ws2) := hB2
  have hw2 : Below w.heap.size w w2 := hb1.trans (hb2.mono hb1.size)
  clear hB2
  go_wp2_with fail
  refine (K1.out _ w2 (HS1.out.below hw2)).2.mono ?_
  rintro e w3 ⟨rb1, rg1, rc1, rfl, hrb1, hrg1, hR1, hb3⟩
  have HR1 : Hid (Ref w3 rb1 rg1 rc1 f1 L1) := hR1
  have hw3 : Below w.heap.size w w3 := hw2.trans (hb3.mono hw2.size)
  clear hR1
  go_wp2_with fail
  refine (K2.out _ w3 (HS2.out.below hw3)).2.mono ?_
  rintro e w4 ⟨rb2, rg2, rc2, rfl, hrb2, hrg2, hR2, hb4⟩
  have hw4 : Below w.heap.size w w4 := hw3.trans (hb4.mono hw3.size)
  have hz1 := hb1.size; have hz2 := hb2.size; have hz3 := hb3.size; have hz4 := hb4.size
  have q1 := HB1.out.g_lt; have q2 := HB1.out.b_lt; have q3 := HB2.out.g_lt; have q4 := HB2.out.b_lt; have q5 := HR1.out.g_lt; have q6 := HR1.out.b_lt
  have hP1 : Bits w4 b1 g1 cc1 f1 room1 ws1 := ((HB1.out.below hb2 q2 q1).below hb3 (by omega) (by omega)).below hb4 (by omega) (by omega)
  have hP2 : Bits w4 b2 g2 cc2 f2 room2 ws2 := (HB2.out.below hb3 q4 q3).below hb4 (by omega) (by omega)
  have hQ1 : Ref w4 rb1 rg1 rc1 f1 L1 := HR1.out.below hb4 q6 q5
  have hMem : Mem w4 w.heap.size ⟨b1, g1, cc1, rb1, rg1, rc1, f1, room1, ws1, L1⟩ ⟨b2, g2, cc2, rb2, rg2, rc2, f2, room2, ws2, L2⟩ :=
    ⟨hP1, hQ1, hP2, hR2, by show g1 ≠ g2; omega, by show rg1 ≠ rg2; omega, by show rb1 ≠ rb2; omega, ⟨by show w.heap.size ≤ g1; omega, by show w.heap.size ≤ rg1; omega, by show w.heap.size ≤ rb1; omega⟩, ⟨by show w.heap.size ≤ g2; omega, by show w.heap.size ≤ rg2; omega, by show w.heap.size ≤ rb2; omega⟩⟩
  have hF1 : Fit ⟨b1, g1, cc1, rb1, rg1, rc1, f1, room1, ws1, L1⟩ := ⟨M1.out.sz, M1.out.cl, M1.out.rz, M1.out.ag, hL1⟩
  have hF2 : Fit ⟨b2, g2, cc2, rb2, rg2, rc2, f2, room2, ws2, L2⟩ := ⟨M2.out.sz, M2.out.cl, M2.out.rz, M2.out.ag, hL2⟩
  have HMEM : Hid _ := hMem
  have HF1 : Hid _ := hF1
  have HF2 : Hid _ := hF2
  have HW4 : Hid (Below w.heap.size w w4) := hw4
  have d1 := hQ1.c1
  have d2 := hR2.c1
  have hd1 : decide (3000 < (L1.length : Int)) = false := by simp; omega
  have hd2 : decide (3000 < (L2.length : Int)) = false := by simp; omega
  obtain ⟨x1, hx1⟩ : ∃ x1, L1.length = x1 := ⟨_, rfl⟩
  obtain ⟨x2, hx2⟩ : ∃ x2, L2.length = x2 := ⟨_, rfl⟩
  rw [hx1] at d1 hd1
  rw [hx2] at d2 hd2
  clear hP1 hP2 hQ1 hR2 hMem hF1 hF2 hb1 hb2 hb3 hb4 hw2 hw3 hw4 q1 q2 q3 q4 q5 q6 hz1 hz2 hz3 hz4 hg1 hg2 hrb1 hrb2 hrg1 hrg2 hx1 hx2 hL1 hL2
  go_wp2_with fail
  go_loopg [7, 9, 11, 13, 15] 100 (fun gk s t q r i wr => ∃ (p p' : PS) (k : Nat), k ≤ 100 ∧ k ≤ n ∧ gk = 100 - k ∧ s = .pointer (some ⟨p.b, 0, none⟩) ∧ t = .pointer (some ⟨p'.b, 0, none⟩) ∧ q = .pointer (some ⟨p.rb, 0, none⟩) ∧ r = .pointer (some ⟨p'.rb, 0, none⟩) ∧ i = .int .i64 k ∧ Mem wr w.heap.size p p' ∧ Fit p ∧ Fit p' ∧ Below w.heap.size w wr)
  case atStart => exact ⟨_, _, 0, by omega, by omega, rfl, rfl, rfl, rfl, rfl, rfl, HMEM.out, HF1.out, HF2.out, HW4.out⟩
  case round =>
    clear d1 d2 hd1 hd2
    obtain ⟨p, p', k, hk1, hk2, rfl, rfl, rfl, rfl, rfl, rfl, hM, hFp, hFq, hB⟩ := hrel
    by_cases hkn : k < n
    · have hkn' : (k : Int) < (n : Int) := by omega
      by_cases hk100 : k < 100
      · have hk100' : (k : Int) < 100 := by omega
        obtain ⟨sa', cap', e1, hcs⟩ := HSO.out
        have e1' : sa = sa' := by injection e1
        clear e1
        subst e1'
        obtain ⟨b0, off, rfl, hb0, hcells⟩ := hcs (by rw [HN.out]; omega)
        obtain ⟨y1, y2, y3⟩ := hcells k (by rw [HN.out]; exact hkn)
        obtain ⟨op, hop⟩ : ∃ op, sat ops k = op := ⟨_, rfl⟩
        rw [hop] at y1 y2 y3
        obtain ⟨kind, v, on⟩ := op
        have y1' := (hB.cell (p := ⟨b0, off + k * 3, none⟩) hb0).trans y1
        have y2' := (hB.cell (p := ⟨b0, off + k * 3 + 1, none⟩) hb0).trans y2
        have y3' := (hB.cell (p := ⟨b0, off + k * 3 + 2, none⟩) hb0).trans y3
        have hsz := hB.size
        have hMa := hM.below ((Below.refl wr.heap.size wr).alloc (Nat.le_refl _) (Obj.cells #[.int .i64 kind, .int .i64 v, .bool on] 42))
        have HMA : Hid (Mem (wr.alloc (Obj.cells #[.int .i64 kind, .int .i64 v, .bool on] 42)) w.heap.size p p') := hMa
        have HFP : Hid (Fit p) := hFp
        have HFQ : Hid (Fit p') := hFq
        clear hcells hcs y1 y2 y3 hop hMa hFp hFq hM
        go_upto_if 92 with fail
        go_cut [7, 9, 11, 13] from 77 to 190 (fun s t q r wc => ∃ p2 q2 : PS, s = .pointer (some ⟨p2.b, 0, none⟩) ∧ t = .pointer (some ⟨q2.b, 0, none⟩) ∧ q = .pointer (some ⟨p2.rb, 0, none⟩) ∧ r = .pointer (some ⟨q2.rb, 0, none⟩) ∧ Mem wc w.heap.size p2 q2 ∧ Fit p2 ∧ Fit q2 ∧ wc = wr.alloc (Obj.cells #[.int .i64 kind, .int .i64 v, .bool on] 42))
        case first =>
          cases on
          · go_wp2
            go_meet
            case rel => exact ⟨p, p', rfl, rfl, rfl, rfl, HMA.out, HFP.out, HFQ.out, rfl⟩
          · go_wp2
            go_meet
            case rel => exact ⟨p', p, rfl, rfl, rfl, rfl, HMA.out.swap, HFQ.out, HFP.out, rfl⟩
        case rest =>
          obtain ⟨p2, q2, rfl, rfl, rfl, rfl, hM2, hF2, hG2, rfl⟩ := hcut
          obtain ⟨No, hNo⟩ : ∃ No, wr.heap.size = No := ⟨_, rfl⟩
          obtain ⟨wo, hwo⟩ : ∃ wo, wr.alloc (Obj.cells #[.int .i64 kind, .int .i64 v, .bool on] 42) = wo := ⟨_, rfl⟩
          have hO : wo.heap[No]? = some (.cells #[.int .i64 kind, .int .i64 v, .bool on] 42 (0, 0)) := by rw [← hwo, ← hNo]; exact World.alloc_heap_new wr _
          have hBo : Below w.heap.size w wo := by rw [← hwo]; exact hB.alloc hsz _
          rw [hwo] at hM2 ⊢
          simp only [hNo]
          have HO : Hid (wo.heap[No]? = some (.cells #[.int .i64 kind, .int .i64 v, .bool on] 42 (0, 0))) := hO
          have HBO : Hid (Below w.heap.size w wo) := hBo
          have HM2 : Hid (Mem wo w.heap.size p2 q2) := hM2
          have HF2' : Hid (Fit p2) := hF2
          have HG2 : Hid (Fit q2) := hG2
          have cK : wo.cell? ⟨No, 0, none⟩ = some (.int .i64 kind) := by rw [cell_row hO]; rfl
          have cV : wo.cell? ⟨No, 1, none⟩ = some (.int .i64 v) := by rw [cell_row hO]; rfl
          clear hO hBo hM2 hF2 hG2 hwo HMA HFP HFQ y1' y2' y3' hB
          go_upto_block 2 with fail
          go_cut [17] from 77 to 190 (fun a17 wc => a17 = .bool true ∧ ∃ p3 : PS, p3.b = p2.b ∧ p3.rb = p2.rb ∧ Mem wc w.heap.size p3 q2 ∧ Fit p3 ∧ Below w.heap.size w wc ∧ wc.heap[No]? = some (.cells #[.int .i64 kind, .int .i64 v, .bool on] 42 (0, 0)))
          case first =>
            have hNe : No ≠ p2.g ∧ No ≠ p2.rg ∧ No ≠ p2.rb := by
              obtain ⟨cu, g1', _⟩ := HM2.out.pb.row
              obtain ⟨cu', g2', _⟩ := HM2.out.pr.row
              exact ⟨cells_ne HO.out g1' (by decide), cells_ne HO.out g2' (by decide), cells_ne HO.out HM2.out.pr.1 (by decide)⟩
            have hNol : No < wo.heap.size := (Array.getElem?_eq_some_iff.1 HO.out).1
            have keepO : ∀ X, Out w.heap.size p2 wo X → X.heap[No]? = some (.cells #[.int .i64 kind, .int .i64 v, .bool on] 42 (0, 0)) := fun X hX => (hX.2 No hNol hNe.1 hNe.2.1 hNe.2.2).trans HO.out
            have HKO : Hid (∀ X, Out w.heap.size p2 wo X → X.heap[No]? = some (.cells #[.int .i64 kind, .int .i64 v, .bool on] 42 (0, 0))) := keepO
            have hTo : Tab wo := HT.out.below HBO.out hT0
            have HTO : Hid (Tab wo) := hTo
            clear keepO hNe hTo
            by_cases hk0 : kind = 0
            · subst hk0
              obtain ⟨t, er, ws', L', hfit, ka, kb⟩ := add_pair HM2.out HF2'.out v
              have HFIT : Hid _ := hfit
              have KB : Hid _ := kb
              clear hfit kb
              go_wp2_with fail
              refine ka.mono ?_
              rintro e wj ⟨rfl, hm, hout⟩
              have kb := KB.out wj hm
              have cVj : wj.cell? ⟨No, 1, none⟩ = some (.int .i64 v) := by rw [cell_row (HKO.out _ hout)]; rfl
              clear ka hm
              go_wp2_with fail
              refine kb.mono ?_
              rintro e wj2 ⟨rfl, hm, hout2⟩
              have HMJ : Hid _ := hm
              clear kb hm
              cases t <;> (go_wp2; go_meet; case rel => exact ⟨rfl, { p2 with ws := ws', L := L' }, rfl, rfl, HMJ.out, ⟨HFIT.out.sz, HFIT.out.cl, HFIT.out.rz, HFIT.out.ag, HFIT.out.small⟩, HBO.out.trans (hout.trans hout2).1, HKO.out _ (hout.trans hout2)⟩)
            · skip
              by_cases hk1 : kind = 1
              · subst hk1
                obtain ⟨t, er, ws', L', hfit, ka, kb⟩ := add_pair HM2.out HF2'.out v
                have HFIT : Hid _ := hfit
                have KB : Hid _ := kb
                clear hfit kb
                go_wp2_with fail
                refine ka.mono ?_
                rintro e wj ⟨rfl, hm, hout⟩
                have kb := KB.out wj hm
                have cVj : wj.cell? ⟨No, 1, none⟩ = some (.int .i64 v) := by rw [cell_row (HKO.out _ hout)]; rfl
                clear ka hm
                go_wp2_with fail
                refine kb.mono ?_
                rintro e wj2 ⟨rfl, hm, hout2⟩
                have HMJ : Hid _ := hm
                clear kb hm
                cases t <;> (go_wp2; go_meet; case rel => exact ⟨rfl, { p2 with ws := ws', L := L' }, rfl, rfl, HMJ.out, ⟨HFIT.out.sz, HFIT.out.cl, HFIT.out.rz, HFIT.out.ag, HFIT.out.small⟩, HBO.out.trans (hout.trans hout2).1, HKO.out _ (hout.trans hout2)⟩)
              · skip
                by_cases hk2 : kind = 2
                · subst hk2
                  obtain ⟨t, er, ws', L', hfit, ka, kb⟩ := del_pair HM2.out HF2'.out v
                  have HFIT : Hid _ := hfit
                  have KB : Hid _ := kb
                  clear hfit kb
                  go_wp2_with fail
                  refine ka.mono ?_
                  rintro e wj ⟨rfl, hm, hout⟩
                  have kb := KB.out wj hm
                  have cVj : wj.cell? ⟨No, 1, none⟩ = some (.int .i64 v) := by rw [cell_row (HKO.out _ hout)]; rfl
                  clear ka hm
                  go_wp2_with fail
                  refine kb.mono ?_
                  rintro e wj2 ⟨rfl, hm, hout2⟩
                  have HMJ : Hid _ := hm
                  clear kb hm
                  cases t <;> (go_wp2; go_meet; case rel => exact ⟨rfl, { p2 with ws := ws', L := L' }, rfl, rfl, HMJ.out, ⟨HFIT.out.sz, HFIT.out.cl, HFIT.out.rz, HFIT.out.ag, HFIT.out.small⟩, HBO.out.trans (hout.trans hout2).1, HKO.out _ (hout.trans hout2)⟩)
                · skip
                  by_cases hk3 : kind = 3
                  · subst hk3
                    obtain ⟨ws', L', hfit, kj⟩ := join_any (o := q2) 0 HM2.out HTO.out HF2'.out HG2.out (.inl rfl)
                    have HFIT : Hid _ := hfit
                    clear hfit
                    go_wp2_with fail
                    refine kj.mono ?_
                    rintro e wj ⟨rfl, ⟨rg', rc', hm⟩, hout⟩
                    have HMJ : Hid _ := hm
                    clear kj hm
                    go_wp2
                    go_meet
                    case rel => exact ⟨rfl, { p2 with ws := ws', rg := rg', rc := rc', L := L' }, rfl, rfl, HMJ.out, ⟨HFIT.out.sz, HFIT.out.cl, HFIT.out.rz, HFIT.out.ag, HFIT.out.small⟩, HBO.out.trans hout.1, HKO.out _ hout⟩
                  · skip
                    by_cases hk4 : kind = 4
                    · subst hk4
                      obtain ⟨ws', L', hfit, kj⟩ := join_any (o := q2) 1 HM2.out HTO.out HF2'.out HG2.out (.inl rfl)
                      have HFIT : Hid _ := hfit
                      clear hfit
                      go_wp2_with fail
                      refine kj.mono ?_
                      rintro e wj ⟨rfl, ⟨rg', rc', hm⟩, hout⟩
                      have HMJ : Hid _ := hm
                      clear kj hm
                      go_wp2
                      go_meet
                      case rel => exact ⟨rfl, { p2 with ws := ws', rg := rg', rc := rc', L := L' }, rfl, rfl, HMJ.out, ⟨HFIT.out.sz, HFIT.out.cl, HFIT.out.rz, HFIT.out.ag, HFIT.out.small⟩, HBO.out.trans hout.1, HKO.out _ hout⟩
                    · skip
                      by_cases hk5 : kind = 5
                      · subst hk5
                        obtain ⟨ws', L', hfit, kj⟩ := join_any (o := q2) 2 HM2.out HTO.out HF2'.out HG2.out (.inl rfl)
                        have HFIT : Hid _ := hfit
                        clear hfit
                        go_wp2_with fail
                        refine kj.mono ?_
                        rintro e wj ⟨rfl, ⟨rg', rc', hm⟩, hout⟩
                        have HMJ : Hid _ := hm
                        clear kj hm
                        go_wp2
                        go_meet
                        case rel => exact ⟨rfl, { p2 with ws := ws', rg := rg', rc := rc', L := L' }, rfl, rfl, HMJ.out, ⟨HFIT.out.sz, HFIT.out.cl, HFIT.out.rz, HFIT.out.ag, HFIT.out.small⟩, HBO.out.trans hout.1, HKO.out _ hout⟩
                      · skip
                        by_cases hk6 : kind = 6
                        · subst hk6
                          obtain ⟨ws', L', hfit, kj⟩ := join_any (o := p2) (v.tmod 3) HM2.out HTO.out HF2'.out HF2'.out (.inr rfl)
                          have HFIT : Hid _ := hfit
                          clear hfit
                          go_wp2_with fail
                          refine kj.mono ?_
                          rintro e wj ⟨rfl, ⟨rg', rc', hm⟩, hout⟩
                          have HMJ : Hid _ := hm
                          clear kj hm
                          go_wp2
                          go_meet
                          case rel => exact ⟨rfl, { p2 with ws := ws', rg := rg', rc := rc', L := L' }, rfl, rfl, HMJ.out, ⟨HFIT.out.sz, HFIT.out.cl, HFIT.out.rz, HFIT.out.ag, HFIT.out.small⟩, HBO.out.trans hout.1, HKO.out _ hout⟩
                        · skip
                          have d0 : (kind == 0) = false := by simpa using hk0
                          have d1 : (kind == 1) = false := by simpa using hk1
                          have d2 : (kind == 2) = false := by simpa using hk2
                          have d3 : (kind == 3) = false := by simpa using hk3
                          have d4 : (kind == 4) = false := by simpa using hk4
                          have d5 : (kind == 5) = false := by simpa using hk5
                          have d6 : (kind == 6) = false := by simpa using hk6
                          clear hk0 hk1 hk2 hk3 hk4 hk5 hk6
                          go_wp2
                          go_meet
                          case rel => exact ⟨rfl, p2, rfl, rfl, HM2.out, HF2'.out, HBO.out, HO.out⟩
          case rest =>
            obtain ⟨rfl, p3, e1, e2, hM3, hF3, hB3, hO3⟩ := hcut
            have cV3 : wc.cell? ⟨No, 1, none⟩ = some (.int .i64 v) := by rw [cell_row hO3]; rfl
            have k14 := alike_of p3.b p3.g p3.c p3.rb p3.rg p3.rc p3.f p3.room v p3.ws p3.L wc hM3.pb hM3.pr ⟨hF3.sz, hF3.cl, hF3.rz, hF3.ag, hF3.le⟩ (HT.out.below hB3 hT0)
            rw [e1, e2] at k14
            have HM3 : Hid (Mem wc w.heap.size p3 q2) := hM3
            have HF3 : Hid (Fit p3) := hF3
            have HB3 : Hid (Below w.heap.size w wc) := hB3
            have E1 : Hid (p3.b = p2.b) := e1
            have E2 : Hid (p3.rb = p2.rb) := e2
            clear hM3 hF3 hB3 hO3 e1 e2 HM2 HF2' HO HBO cK cV
            go_wp2_with fail
            refine k14.mono ?_
            rintro e z1 ⟨rfl, hz1⟩
            have HM4 : Hid (Mem z1 w.heap.size p3 q2) := HM3.out.below hz1
            have HB4 : Hid (Below w.heap.size w z1) := HB3.out.trans (hz1.mono HB3.out.size)
            have k21 := same_two p3.b p3.g p3.c p3.f p3.room p3.ws q2.b q2.g q2.c q2.f q2.room q2.ws z1 HM4.out.pb HF3.out.sz HF3.out.cl HM4.out.qb HG2.out.sz HG2.out.cl
            rw [E1.out] at k21
            obtain ⟨tt, htt⟩ : ∃ tt, decide (bvs p3.f p3.room p3.ws = bvs q2.f q2.room q2.ws) = tt := ⟨_, rfl⟩
            have HTT : Hid (decide (bvs p3.f p3.room p3.ws = bvs q2.f q2.room q2.ws) = tt) := htt
            rw [htt] at k21
            clear htt k14 hz1 cV3
            go_wp2_with fail
            refine k21.mono ?_
            rintro e z2 ⟨rfl, mz, rfl⟩
            have HM5 : Hid (Mem (z1.drewN mz) w.heap.size p3 q2) := HM4.out.drawn mz
            have HB5 : Hid (Below w.heap.size w (z1.drewN mz)) := below_drewN HB4.out mz
            obtain ⟨z2, hz2⟩ : ∃ z2, z1.drewN mz = z2 := ⟨_, rfl⟩
            rw [hz2] at HM5 HB5 ⊢
            have k23 := refvalues_any p3.rb p3.rg p3.rc p3.f p3.L z2 HM5.out.pr HF3.out.rz
            rw [E2.out, ← agree_bvs HF3.out.ag] at k23
            clear hz2 k21
            go_wp2_with fail
            refine k23.mono ?_
            rintro e z3 ⟨s3, rfl, hown3, hb3⟩
            obtain ⟨a3, c3, rfl⟩ := own_form hown3
            have N3 := own_nums hown3
            have HM6 : Hid (Mem z3 w.heap.size p3 q2) := HM5.out.below hb3
            have HB6 : Hid (Below w.heap.size w z3) := HB5.out.trans (hb3.mono HB5.out.size)
            have k23 := refvalues_any q2.rb q2.rg q2.rc q2.f q2.L z3 HM6.out.qr HG2.out.rz
            rw [← agree_bvs HG2.out.ag] at k23
            have HN3 : Hid (Nums z3 z3.heap.size a3 (bvs p3.f p3.room p3.ws)) := N3
            clear hown3 hb3 N3
            go_wp2_with fail
            refine k23.mono ?_
            rintro e z4 ⟨s4, rfl, hown4, hb4⟩
            obtain ⟨a4, c4, rfl⟩ := own_form hown4
            have N4 := own_nums hown4
            have HM7 : Hid (Mem z4 w.heap.size p3 q2) := HM6.out.below hb4
            have HB7 : Hid (Below w.heap.size w z4) := HB6.out.trans (hb4.mono HB6.out.size)
            have N3' := HN3.out.keep (fun B hB => hb4.block B hB)
            have hle1 : (bvs p3.f p3.room p3.ws).length ≤ 65536 := by
              have h1 := bv_length p3.f (pb p3.ws) p3.room.toNat
              have h2 := HF3.out.sz.most
              unfold bvs; omega
            have hle2 : (bvs q2.f q2.room q2.ws).length ≤ 65536 := by
              have h1 := bv_length q2.f (pb q2.ws) q2.room.toNat
              have h2 := HG2.out.sz.most
              unfold bvs; omega
            have k22 := isame_any a3 a4 c3 c4 _ _ z4 (fun h0 => by obtain ⟨gv, h1, _, h2⟩ := N3' h0; exact ⟨gv, h1, h2⟩) (fun h0 => by obtain ⟨gv, h1, _, h2⟩ := N4 h0; exact ⟨gv, h1, h2⟩) hle1 hle2
            rw [HTT.out] at k22
            clear hown4 hb4 N4 N3' k23 hle1 hle2
            go_wp2_with fail
            refine k22.mono ?_
            rintro e z5 ⟨rfl, m5, rfl⟩
            clear k22
            cases tt <;> (
              go_wp2
              go_roundg (100 - (k + 1))
              case measure => omega
              case rel => exact ⟨p3, q2, k + 1, by omega, by omega, rfl, by rw [E1.out], rfl, by rw [E2.out], rfl, by go_num, HM7.out.drawn m5, HF3.out, HG2.out, below_drewN HB7.out m5⟩)
      · have hd : decide ((k : Int) < 100) = false := by simp; omega
        go_wp2_with fail
        refine (alike_of p.b p.g p.c p.rb p.rg p.rc p.f p.room 0 p.ws p.L wr hM.pb hM.pr ⟨hFp.sz, hFp.cl, hFp.rz, hFp.ag, hFp.le⟩ (HT.out.below hB hT0)).mono ?_
        rintro e z1 ⟨rfl, hz1⟩
        have hM1 := hM.below hz1
        have hB1 := hB.trans (hz1.mono hB.size)
        go_wp2_with fail
        refine (alike_of p'.b p'.g p'.c p'.rb p'.rg p'.rc p'.f p'.room 0 p'.ws p'.L z1 hM1.qb hM1.qr ⟨hFq.sz, hFq.cl, hFq.rz, hFq.ag, hFq.le⟩ (HT.out.below hB1 hT0)).mono ?_
        rintro e z2 ⟨rfl, hz2⟩
        have hB2 := hB1.trans (hz2.mono hB1.size)
        clear hM1 hM
        go_wp2_with fail
        refine (known_any z2 (HT.out.below hB2 hT0)).mono ?_
        rintro e z3 ⟨rfl, hz3⟩
        go_wp2
        go_ret
        exact ⟨rfl, hB2.trans (hz3.mono hB2.size)⟩
    · have hd : decide ((k : Int) < (n : Int)) = false := by simp; omega
      go_wp2_with fail
      refine (alike_of p.b p.g p.c p.rb p.rg p.rc p.f p.room 0 p.ws p.L wr hM.pb hM.pr ⟨hFp.sz, hFp.cl, hFp.rz, hFp.ag, hFp.le⟩ (HT.out.below hB hT0)).mono ?_
      rintro e z1 ⟨rfl, hz1⟩
      have hM1 := hM.below hz1
      have hB1 := hB.trans (hz1.mono hB.size)
      go_wp2_with fail
      refine (alike_of p'.b p'.g p'.c p'.rb p'.rg p'.rc p'.f p'.room 0 p'.ws p'.L z1 hM1.qb hM1.qr ⟨hFq.sz, hFq.cl, hFq.rz, hFq.ag, hFq.le⟩ (HT.out.below hB1 hT0)).mono ?_
      rintro e z2 ⟨rfl, hz2⟩
      have hB2 := hB1.trans (hz2.mono hB1.size)
      clear hM1 hM
      go_wp2_with fail
      refine (known_any z2 (HT.out.below hB2 hT0)).mono ?_
      rintro e z3 ⟨rfl, hz3⟩
      go_wp2
      go_ret
      exact ⟨rfl, hB2.trans (hz3.mono hB2.size)⟩
end Go.Proofs.YtgcgomofmicchaaDoor
