/-
  What is proved here: the walk of LexPlaces.
-/
import Derived.Test.YtokcbiafajpmoaaDoorNb
import Derived.Test.YtokcbiafajpmoaaDoorNa
import Derived.Test.YtokcbiafajpmoaaDoorLy
import Derived.Test.YtokcbiafajpmoaaDoorLq
import Derived.Deep.RegionHeld3
namespace Go.Proofs.YtokcbiafajpmoaaDoor
open Go.RowKit
set_option linter.unusedVariables false
set_option linter.unusedSimpArgs false
theorem Tr.cells {w : World} {a : Option Addr} {n cap : Nat} {T : List Tok} (h : Tr w (.slice a n cap) T) (h0 : 0 < n) : T.length = n ∧ ∃ g, a = some ⟨g, 0, none⟩ ∧ g < w.heap.size ∧ ∀ (i : Nat) t, T[i]? = some t →
    w.cell? ⟨g, i * 4, none⟩ = some (.int .i64 t.k) ∧ w.cell? ⟨g, i * 4 + 1, none⟩ = some (.string (bs t.tx)) ∧ w.cell? ⟨g, i * 4 + 2, none⟩ = some (.int .i64 t.n) ∧ w.cell? ⟨g, i * 4 + 3, none⟩ = some (.int .i64 (t.p : Int)) := by
  obtain ⟨a', cap', e, hc⟩ := h.h
  injection e with e1 e2 e3
  subst e1
  exact ⟨e2.symm, hc (by omega)⟩
theorem Tr.take {w : World} {a : Option Addr} {n cap : Nat} {T : List Tok} (h : Tr w (.slice a n cap) T) (k : Nat) (hk : k ≤ n) : Tr w (.slice a k cap) (T.take k) := by
  obtain ⟨a', cap', e, hc⟩ := h.h
  injection e with e1 e2 e3
  subst e1
  refine ⟨a, cap, by rw [List.length_take, ← e2, Nat.min_eq_left hk], fun h0 => ?_⟩
  rw [List.length_take] at h0
  obtain ⟨g, e4, hg, hcc⟩ := hc (by omega)
  refine ⟨g, e4, hg, fun i t ht => hcc i t ?_⟩
  rw [List.getElem?_take] at ht
  split at ht
  · exact ht
  · simp at ht
/-- What is known of a token of a text. -/
structure Pl (b : List UInt8) (t : Tok) : Prop where
  le : t.p + t.tx.length ≤ b.length
  tx : (b.drop t.p).take t.tx.length = t.tx
theorem all_place (b : List UInt8) (i : Nat) (t : Tok) (h : (allT b).1[i]? = some t) : Pl b t ∧ ∀ u, 0 < i → (allT b).1[i - 1]? = some u → u.p + u.tx.length ≤ t.p := by
  unfold allT at h ⊢
  split at h
  · simp at h
  · rename_i hb
    obtain ⟨i1, i2, i3, i4⟩ := toks_place b.length b 0 (Nat.le_refl _) i t h
    rw [if_neg hb]
    exact ⟨⟨by omega, by simpa using i3⟩, i4⟩
theorem all_pre (b : List UInt8) (he : (allT b).2.1 = 0) (i : Nat) (t : Tok) (h : (allT b).1[i]? = some t) : (allT (b.take (t.p + t.tx.length))).2.1 = 0 ∧ (allT (b.take (t.p + t.tx.length))).1.take (i + 1) = (allT b).1.take (i + 1) := by
  have hb : ¬ 65536 < b.length := by
    intro hb; unfold allT at h; rw [if_pos hb] at h; simp at h
  have e1 : allT b = toks b 0 := by unfold allT; rw [if_neg hb]
  have e2 : allT (b.take (t.p + t.tx.length)) = toks (b.take (t.p + t.tx.length)) 0 := by unfold allT; rw [if_neg (by rw [List.length_take]; omega)]
  rw [e1] at he h ⊢
  rw [e2]
  exact toks_pre b.length b 0 (Nat.le_refl _) he i t h _ (by omega)
theorem all_some (b : List UInt8) (he : (allT b).2.1 = 0) : (allT b).1 ≠ [] := by
  unfold allT at he ⊢
  split at he
  · simp at he
  · rename_i hb
    rw [if_neg hb]
    exact (toks_last b.length b 0 (Nat.le_refl _)).2 he
theorem slice_to (g n cap k : Nat) (hk : k ≤ cap) (X : World) : (Instr.slice 24 (.slice (some ⟨g, 0, none⟩) n cap) none (some (.int .i64 (k : Int))) none).run Tryd.prog X = .ok (.slice (some ⟨g, 0, none⟩) k cap) X := by
  rw [run_slice_h (ht := Tryd.underlying24) (h0 := by omega) (h2 := by omega)]
  have hz : (sizeOf (Tryd.prog.elem 24)).run Tryd.prog X = .ok 4 X := by kernel_rfl
  rw [hz]
  simp [sliced, Result.andThen, Addr.add]
theorem below_drewN {B : Nat} {a w : World} (h : Below B a w) (q : Nat) : Below B a (w.drewN q) := ⟨h.os, h.tape, h.output, h.size, h.block⟩
theorem Tr.belowB {w w' : World} {v : Value} {T : List Tok} (h : Tr w v T) (hb : Below w.heap.size w w') : Tr w' v T := h.below hb
theorem Tr.drew {w : World} {v : Value} {T : List Tok} (h : Tr w v T) (q : Nat) : Tr (w.drewN q) v T := h.below ⟨rfl, rfl, rfl, Nat.le_refl _, fun _ _ => rfl⟩

set_option maxRecDepth 100000 in
set_option maxHeartbeats 4000000 in
theorem places_walk (b : List UInt8) (which : Int) (hwf : (Lit.int .i64 which).wf = true) (hbl : b.length ≤ 140737488355328) (W : World) (hE : ErrV W) :
    Calls Tryd.prog 5 #[.string (bs b), .int .i64 which] W fun e w' => e = .returned (.bool true) ∧ Below W.heap.size W w' := by
  have hsc := scan_any b W hE
  have hkn := fun X (hX : ErrV X) => known16 X hX
  have hal := scan_all b
  have her := scan_err b
  have hpl := all_place b
  have hpr := all_pre b
  have hso := all_some b
  have hcn := all_count b
  have hsz : (bs b).size = b.length := bs_size b
  obtain ⟨⟨T, x, p⟩, hall⟩ : ∃ y, allT b = y := ⟨_, rfl⟩
  rw [hall] at hal her hpl hpr hso hcn
  simp only at hal her hpl hpr hso hcn
  obtain ⟨n, hn⟩ : ∃ n, b.length = n := ⟨_, rfl⟩
  have HNb : Hid (b.length = n) := hn
  rw [hn] at hsz hbl
  have HE : Hid (ErrV W) := hE
  have HKN : Hid _ := hkn
  clear hE hall hkn hn
  by_cases hx : x = 0
  · rw [hal hx] at hsc
    subst hx
    have hT := hso rfl
    have HPL : Hid _ := hpl
    have HPR : Hid _ := hpr rfl
    simp only at hsc
    clear hal her hpl hpr hso
    go_enter Tryd.func5, Tryd.ntmps5
    go_wp2_with fail
    refine hsc.mono ?_
    rintro e w1 ⟨v, rfl, hown, hb1⟩
    have HT1 : Hid (Tr w1 v T) := own_tr hown
    obtain ⟨a0, cap, rfl, _⟩ := HT1.out.h
    have hcap : T.length ≤ cap := by
      rcases hown.2 with ⟨e1, e2⟩ | ⟨g, cap', cur, e1, _, _, hc, _⟩
      · omega
      · injection e1 with _ _ e3; omega
    obtain ⟨nT, hnT⟩ : ∃ m, T.length = m := ⟨_, rfl⟩
    have HNT : Hid (T.length = nT) := hnT
    have hn0 : 0 < nT := by rw [← hnT]; exact List.length_pos_iff.2 hT
    rw [hnT] at HT1 hcn hcap ⊢
    have HTa : Hid (Tr w1 (.slice a0 nT cap) T) := HT1
    obtain ⟨_, g, rfl, hg, hcc⟩ := HTa.out.cells hn0
    have HCC : Hid _ := hcc
    have HBW : Hid (Below W.heap.size W w1) := hb1
    clear hsc hown hT hnT HT1 hcc hb1
    go_wp2
    go_loopw [8] (fun i wr => ∃ k : Nat, k ≤ nT ∧ i = .int .i64 (k : Int) ∧ Hid (Below w1.heap.size w1 wr)) (fun i _ => nT - (intOf i).toNat)
    case atStart => exact ⟨0, by omega, rfl, Below.refl _ _⟩
    case round =>
      obtain ⟨k, hk, rfl, HB⟩ := hrel
      by_cases hlt : k < nT
      · have hlt' : (k : Int) < (nT : Int) := by omega
        obtain ⟨t, ht⟩ : ∃ t, T[k]? = some t := ⟨_, List.getElem?_eq_getElem (by rw [HNT.out]; exact hlt)⟩
        obtain ⟨hP, hpv⟩ := HPL.out k t ht
        obtain ⟨p0, p1, p2, p3⟩ := HCC.out k t ht
        have q0 := (HB.out.cell (p := ⟨g, k * 4, none⟩) hg).trans p0
        have q1 := (HB.out.cell (p := ⟨g, k * 4 + 1, none⟩) hg).trans p1
        have q2 := (HB.out.cell (p := ⟨g, k * 4 + 2, none⟩) hg).trans p2
        have q3 := (HB.out.cell (p := ⟨g, k * 4 + 3, none⟩) hg).trans p3
        have hPle := hP.le
        rw [HNb.out] at hPle
        obtain ⟨tm, htm⟩ : ∃ m, t.tx.length = m := ⟨_, rfl⟩
        rw [htm] at hPle
        obtain ⟨pm, hpm⟩ : ∃ m, t.p + tm = m := ⟨_, rfl⟩
        have hcut := fun X => bs_cut b t.p pm (by omega) (by rw [HNb.out]; omega) X
        have htxe : (b.drop t.p).take (pm - t.p) = t.tx := by rw [show pm - t.p = t.tx.length by omega]; exact hP.tx
        simp only [htxe] at hcut
        have hbsz : (bs t.tx).size = tm := htm
        obtain ⟨tp, htp⟩ : ∃ m, t.p = m := ⟨_, rfl⟩
        rw [htp] at q3 hpm
        simp only [htp] at hcut hpv
        have hw1 : IntKind.i64.wrap ((tp : Int) + (tm : Int)) = (pm : Int) := by rw [IntKind.wrap_i64]; omega
        have hwk : IntKind.i64.wrap ((k : Int) + 1) = (k : Int) + 1 := by rw [IntKind.wrap_i64]; omega
        have z1 : ¬ (tp : Int) < 0 := by omega
        have z2 : ¬ (n : Int) < (pm : Int) := by omega
        generalize t.k = x0 at q0
        generalize t.n = x2 at q2
        obtain ⟨tx, htx⟩ : ∃ m, bs t.tx = m := ⟨_, rfl⟩
        rw [htx] at q1 hbsz
        simp only [htx] at hcut
        by_cases hk0 : k = 0
        · have hkz : decide ((0 : Int) < (k : Int)) = false := by simp; omega
          have hkz2 : decide (0 < k) = false := by simp; omega
          clear hpv hP htxe htx ht p0 p1 p2 p3 htm hpm htp hPle hk0
          go_upto_region 8 with (fail)
          obtain ⟨w3, hw3⟩ : ∃ X, wr.alloc (Obj.cells #[.int .i64 x0, .string tx, .int .i64 x2, .int .i64 (tp : Int)] 23) = X := ⟨_, rfl⟩
          have hb3 : Below wr.heap.size wr w3 := by rw [← hw3]; exact (Below.refl _ wr).alloc (Nat.le_refl _) _
          have hR3 : Rw w3 wr.heap.size 23 #[.int .i64 x0, .string tx, .int .i64 x2, .int .i64 (tp : Int)] := by rw [← hw3]; exact Rw.new _ _ _
          rw [hw3]
          have d1 : w3.cell? ⟨wr.heap.size, 1, none⟩ = some (.string tx) := hR3.cell 1 _ rfl
          have d3 : w3.cell? ⟨wr.heap.size, 3, none⟩ = some (.int .i64 (tp : Int)) := hR3.cell 3 _ rfl
          have HB3 : Hid (Below w1.heap.size w1 w3) := HB.out.trans (hb3.mono HB.out.size)
          clear hw3 hb3 hR3 q0 q1 q2 q3
          go_quiet (fail)
          go_wp2
          go_roundw
          case rel => exact ⟨k + 1, by omega, by go_num, below_drewN HB3.out _⟩
          case measure => simp [intOf]; omega
        · have hkz : decide ((0 : Int) < (k : Int)) = true := by simp; omega
          have hkz2 : decide (0 < k) = true := by simp; omega
          have hkz3 : 0 < k := by omega
          obtain ⟨k1, hk1⟩ : ∃ k1, k - 1 = k1 := ⟨_, rfl⟩
          obtain ⟨u, hu⟩ : ∃ u, T[k1]? = some u := ⟨_, List.getElem?_eq_getElem (by rw [HNT.out]; omega)⟩
          have hup := hpv u (by omega) (by rw [hk1]; exact hu)
          obtain ⟨_, r1, _, r3⟩ := HCC.out k1 u hu
          obtain ⟨um, hum⟩ : ∃ m, u.tx.length = m := ⟨_, rfl⟩
          obtain ⟨up, hupp⟩ : ∃ m, u.p = m := ⟨_, rfl⟩
          rw [hum, hupp] at hup
          have s1 := (HB.out.cell (p := ⟨g, k1 * 4 + 1, none⟩) hg).trans r1
          have s3 := (HB.out.cell (p := ⟨g, k1 * 4 + 3, none⟩) hg).trans r3
          rw [hupp] at s3
          have hubs : (bs u.tx).size = um := hum
          generalize bs u.tx = ux at s1 hubs
          have hwk1 : IntKind.i64.wrap ((k : Int) - 1) = (k1 : Int) := by rw [IntKind.wrap_i64]; omega
          obtain ⟨ue, hue⟩ : ∃ m, up + um = m := ⟨_, rfl⟩
          have hwu : IntKind.i64.wrap ((up : Int) + (um : Int)) = (ue : Int) := by rw [IntKind.wrap_i64]; omega
          have z3 : ¬ (tp : Int) < (ue : Int) := by omega
          have hk1l : (k1 : Int) < (nT : Int) := by omega
          have hgw : g < wr.heap.size := Nat.lt_of_lt_of_le hg HB.out.size
          clear hpv hP htxe htx ht p0 p1 p2 p3 htm hpm htp hPle hk0 hk1 hu hum hupp hup r1 r3 hue
          go_upto_region 8 with (fail)
          obtain ⟨w3, hw3⟩ : ∃ X, wr.alloc (Obj.cells #[.int .i64 x0, .string tx, .int .i64 x2, .int .i64 (tp : Int)] 23) = X := ⟨_, rfl⟩
          have hb3 : Below wr.heap.size wr w3 := by rw [← hw3]; exact (Below.refl _ wr).alloc (Nat.le_refl _) _
          have hR3 : Rw w3 wr.heap.size 23 #[.int .i64 x0, .string tx, .int .i64 x2, .int .i64 (tp : Int)] := by rw [← hw3]; exact Rw.new _ _ _
          rw [hw3]
          have d1 : w3.cell? ⟨wr.heap.size, 1, none⟩ = some (.string tx) := hR3.cell 1 _ rfl
          have d3 : w3.cell? ⟨wr.heap.size, 3, none⟩ = some (.int .i64 (tp : Int)) := hR3.cell 3 _ rfl
          have e1 := (hb3.cell (p := ⟨g, k1 * 4 + 1, none⟩) hgw).trans s1
          have e3 := (hb3.cell (p := ⟨g, k1 * 4 + 3, none⟩) hgw).trans s3
          clear s1 s3
          have HB3 : Hid (Below w1.heap.size w1 w3) := HB.out.trans (hb3.mono HB.out.size)
          clear hw3 hb3 hR3 q0 q1 q2 q3
          go_quiet (fail)
          go_wp2
          go_roundw
          case rel => exact ⟨k + 1, by omega, by go_num, below_drewN HB3.out _⟩
          case measure => simp [intOf]; omega
      · have hlt' : ¬ (k : Int) < (nT : Int) := by omega
        have hnz : ((nT : Int) == 0) = false := by simp; omega
        have hnz2 : (nT == 0) = false := by simp; omega
        have hcnt := count_any which nT (by omega) hwf (by omega) wr
        clear hk hlt
        go_wp2_with fail
        refine hcnt.mono ?_
        rintro e w2 ⟨kk, hkk, rfl, rfl⟩
        obtain ⟨t, ht⟩ : ∃ t, T[kk]? = some t := ⟨_, List.getElem?_eq_getElem (by rw [HNT.out]; exact hkk)⟩
        obtain ⟨hP, _⟩ := HPL.out kk t ht
        obtain ⟨hp0, hp1⟩ := HPR.out kk t ht
        obtain ⟨_, p1, _, p3⟩ := HCC.out kk t ht
        have q1 := (HB.out.cell (p := ⟨g, kk * 4 + 1, none⟩) hg).trans p1
        have q3 := (HB.out.cell (p := ⟨g, kk * 4 + 3, none⟩) hg).trans p3
        have hPle := hP.le
        rw [HNb.out] at hPle
        obtain ⟨tm, htm⟩ : ∃ m, t.tx.length = m := ⟨_, rfl⟩
        obtain ⟨tp, htp⟩ : ∃ m, t.p = m := ⟨_, rfl⟩
        rw [htm, htp] at hPle hp0 hp1
        rw [htp] at q3
        obtain ⟨pm, hpm⟩ : ∃ m, tp + tm = m := ⟨_, rfl⟩
        rw [hpm] at hp0 hp1
        have hup := fun X => bs_upto b pm (by rw [HNb.out]; omega) X
        have hw1 : IntKind.i64.wrap ((tp : Int) + (tm : Int)) = (pm : Int) := by rw [IntKind.wrap_i64]; omega
        have hbsz : (bs t.tx).size = tm := htm
        generalize bs t.tx = tx at q1 hbsz
        have hkkl : (kk : Int) < (nT : Int) := by omega
        have hsc2 := fun X (hX : ErrV X) => scan_any (b.take pm) X hX
        rw [scan_all _ hp0] at hsc2
        simp only at hsc2
        obtain ⟨T2, hT2⟩ : ∃ y, (allT (b.take pm)).1 = y := ⟨_, rfl⟩
        rw [hT2] at hp1
        simp only [hT2] at hsc2
        have hc2 := all_count (b.take pm)
        rw [hT2] at hc2
        have HP1 : Hid _ := hp1
        have HSC : Hid _ := hsc2
        have HEB : ∀ X, Below w1.heap.size w1 X → ErrV X := fun X hX => HE.out.self (HBW.out.trans (hX.mono HBW.out.size))
        have HEB2 : Hid _ := HEB
        clear hp0 hp1 hsc2 hT2 hP ht p1 p3 htm htp hpm hPle HEB hcnt
        go_upto_region 13 with (fail)
        have hgw : g < w2.heap.size := Nat.lt_of_lt_of_le hg HB.out.size
        have k7 : ∀ X, Below w2.heap.size w2 X → Calls Tryd.prog 7 #[.string (bs (b.take pm))] X fun e w' => ∃ v, e = .returned (.tuple #[v, .int .i64 0, .int .i64 0]) ∧ w'.ownsRow X.heap.size 23 4 v T2.length (flatT T2) ∧ Below w2.heap.size w2 w' :=
          fun X hX => (HSC.out X (HEB2.out X (HB.out.trans (hX.mono HB.out.size)))).mono fun e w' ⟨v, h1, h2, h3⟩ => ⟨v, h1, h2, hX.trans (h3.mono hX.size)⟩
        have hB : Below w2.heap.size w2 w2.drew := Below.drew (Below.refl _ _)
        clear HSC
        refine wp_region_held_drew (S := (fun X => Below w2.heap.size w2 X)) (by kernel_rfl) (hB) (fun hHeld => ?_)
        refine wpAnyH_take (i := 0) (oi := { dst := some 93, op := Go.Op.move (Go.Operand.tmp 0), type := 9, pos := "law.go:89", after := #[], guard := none }) (v := ?_) rfl (by kernel_rfl) (by kernel_rfl) (by kernel_rfl) (fun _ _ _ h => h) (Or.inl ⟨by rfl, ?_⟩) hHeld ?_
        rotate_left
        · intro w hSw; (try dsimp only at hSw); go_simp <;> with_reducible rfl
        try simp only [Act.put, List.setIfInBounds_toArray, List.set_cons_zero, List.set_cons_succ]
        refine wpAnyH_take (i := 1) (oi := { dst := some 94, op := Go.Op.move (Go.Operand.tmp 5), type := 24, pos := "law.go:89", after := #[], guard := none }) (v := ?_) rfl (by kernel_rfl) (by kernel_rfl) (by kernel_rfl) (fun _ _ _ h => h) (Or.inl ⟨by rfl, ?_⟩) hHeld ?_
        rotate_left
        · intro w hSw; (try dsimp only at hSw); go_simp <;> with_reducible rfl
        try simp only [Act.put, List.setIfInBounds_toArray, List.set_cons_zero, List.set_cons_succ]
        refine wpAnyH_take (i := 2) (oi := { dst := some 95, op := Go.Op.move (Go.Operand.tmp 10), type := 3, pos := "law.go:89", after := #[], guard := none }) (v := ?_) rfl (by kernel_rfl) (by kernel_rfl) (by kernel_rfl) (fun _ _ _ h => h) (Or.inl ⟨by rfl, ?_⟩) hHeld ?_
        rotate_left
        · intro w hSw; (try dsimp only at hSw); go_simp <;> with_reducible rfl
        try simp only [Act.put, List.setIfInBounds_toArray, List.set_cons_zero, List.set_cons_succ]
        refine wpAnyH_take (i := 3) (oi := { dst := some 96, op := Go.Op.indexAddr 24 (Go.Operand.tmp 94) (Go.Operand.tmp 95), type := 0, pos := "law.go:89", after := #[{ on := 1, ground := Go.Ground.data }, { on := 2, ground := Go.Ground.data }], guard := none }) (v := ?_) rfl (by kernel_rfl) (by kernel_rfl) (by kernel_rfl) (fun _ _ _ h => h) (Or.inl ⟨by rfl, ?_⟩) hHeld ?_
        rotate_left
        · intro w hSw; (try dsimp only at hSw); go_simp <;> with_reducible rfl
        try simp only [Act.put, List.setIfInBounds_toArray, List.set_cons_zero, List.set_cons_succ]
        refine wpAnyH_take (i := 4) (oi := { dst := some 97, op := Go.Op.fieldAddr 23 (Go.Operand.tmp 96) 3, type := 0, pos := "law.go:89", after := #[{ on := 3, ground := Go.Ground.data }], guard := none }) (v := ?_) rfl (by kernel_rfl) (by kernel_rfl) (by kernel_rfl) (fun _ _ _ h => h) (Or.inl ⟨by rfl, ?_⟩) hHeld ?_
        rotate_left
        · intro w hSw; (try dsimp only at hSw); go_simp <;> with_reducible rfl
        try simp only [Act.put, List.setIfInBounds_toArray, List.set_cons_zero, List.set_cons_succ]
        refine wpAnyH_take (i := 5) (oi := { dst := some 98, op := Go.Op.load 3 (Go.Operand.tmp 97), type := 3, pos := "law.go:89", after := #[{ on := 4, ground := Go.Ground.data }], guard := none }) (v := ?_) rfl (by kernel_rfl) (by kernel_rfl) (by kernel_rfl) (fun _ _ _ h => h) (Or.inl ⟨by rfl, ?_⟩) hHeld ?_
        rotate_left
        · intro w hSw; have y := (hSw.cell (p := ⟨g, kk * 4 + 3, none⟩) hgw).trans q3; clear hSw; go_simp <;> with_reducible rfl
        try simp only [Act.put, List.setIfInBounds_toArray, List.set_cons_zero, List.set_cons_succ]
        refine wpAnyH_take (i := 6) (oi := { dst := some 99, op := Go.Op.move (Go.Operand.tmp 5), type := 24, pos := "law.go:89", after := #[], guard := none }) (v := ?_) rfl (by kernel_rfl) (by kernel_rfl) (by kernel_rfl) (fun _ _ _ h => h) (Or.inl ⟨by rfl, ?_⟩) hHeld ?_
        rotate_left
        · intro w hSw; (try dsimp only at hSw); go_simp <;> with_reducible rfl
        try simp only [Act.put, List.setIfInBounds_toArray, List.set_cons_zero, List.set_cons_succ]
        refine wpAnyH_take (i := 7) (oi := { dst := some 100, op := Go.Op.move (Go.Operand.tmp 10), type := 3, pos := "law.go:89", after := #[], guard := none }) (v := ?_) rfl (by kernel_rfl) (by kernel_rfl) (by kernel_rfl) (fun _ _ _ h => h) (Or.inl ⟨by rfl, ?_⟩) hHeld ?_
        rotate_left
        · intro w hSw; (try dsimp only at hSw); go_simp <;> with_reducible rfl
        try simp only [Act.put, List.setIfInBounds_toArray, List.set_cons_zero, List.set_cons_succ]
        refine wpAnyH_take (i := 8) (oi := { dst := some 101, op := Go.Op.indexAddr 24 (Go.Operand.tmp 99) (Go.Operand.tmp 100), type := 0, pos := "law.go:89", after := #[{ on := 6, ground := Go.Ground.data }, { on := 7, ground := Go.Ground.data }], guard := none }) (v := ?_) rfl (by kernel_rfl) (by kernel_rfl) (by kernel_rfl) (fun _ _ _ h => h) (Or.inl ⟨by rfl, ?_⟩) hHeld ?_
        rotate_left
        · intro w hSw; (try dsimp only at hSw); go_simp <;> with_reducible rfl
        try simp only [Act.put, List.setIfInBounds_toArray, List.set_cons_zero, List.set_cons_succ]
        refine wpAnyH_take (i := 9) (oi := { dst := some 102, op := Go.Op.fieldAddr 23 (Go.Operand.tmp 101) 1, type := 0, pos := "law.go:89", after := #[{ on := 8, ground := Go.Ground.data }], guard := none }) (v := ?_) rfl (by kernel_rfl) (by kernel_rfl) (by kernel_rfl) (fun _ _ _ h => h) (Or.inl ⟨by rfl, ?_⟩) hHeld ?_
        rotate_left
        · intro w hSw; (try dsimp only at hSw); go_simp <;> with_reducible rfl
        try simp only [Act.put, List.setIfInBounds_toArray, List.set_cons_zero, List.set_cons_succ]
        refine wpAnyH_take (i := 10) (oi := { dst := some 103, op := Go.Op.load 9 (Go.Operand.tmp 102), type := 9, pos := "law.go:89", after := #[{ on := 9, ground := Go.Ground.data }], guard := none }) (v := ?_) rfl (by kernel_rfl) (by kernel_rfl) (by kernel_rfl) (fun _ _ _ h => h) (Or.inl ⟨by rfl, ?_⟩) hHeld ?_
        rotate_left
        · intro w hSw; have y := (hSw.cell (p := ⟨g, kk * 4 + 1, none⟩) hgw).trans q1; clear hSw; go_simp <;> with_reducible rfl
        try simp only [Act.put, List.setIfInBounds_toArray, List.set_cons_zero, List.set_cons_succ]
        refine wpAnyH_take (i := 11) (oi := { dst := some 104, op := Go.Op.call { callee := Go.Callee.builtin Go.Builtin.len, args := #[Go.Operand.tmp 103], argTypes := #[9] }, type := 3, pos := "law.go:89", after := #[{ on := 10, ground := Go.Ground.data }], guard := none }) (v := ?_) rfl (by kernel_rfl) (by kernel_rfl) (by kernel_rfl) (fun _ _ _ h => h) (Or.inl ⟨by rfl, ?_⟩) hHeld ?_
        rotate_left
        · intro w hSw; (try dsimp only at hSw); go_simp <;> with_reducible rfl
        try simp only [Act.put, List.setIfInBounds_toArray, List.set_cons_zero, List.set_cons_succ]
        refine wpAnyH_take (i := 12) (oi := { dst := some 105, op := Go.Op.binOp Go.BinOp.add 3 (Go.Operand.tmp 98) (Go.Operand.tmp 104) 3, type := 3, pos := "law.go:89", after := #[{ on := 5, ground := Go.Ground.data }, { on := 11, ground := Go.Ground.data }], guard := none }) (v := ?_) rfl (by kernel_rfl) (by kernel_rfl) (by kernel_rfl) (fun _ _ _ h => h) (Or.inl ⟨by rfl, ?_⟩) hHeld ?_
        rotate_left
        · intro w hSw; (try dsimp only at hSw); go_simp <;> with_reducible rfl
        try simp only [Act.put, List.setIfInBounds_toArray, List.set_cons_zero, List.set_cons_succ]
        refine wpAnyH_take (i := 13) (oi := { dst := some 106, op := Go.Op.slice 9 (Go.Operand.tmp 93) none (some (Go.Operand.tmp 105)) none, type := 9, pos := "law.go:89", after := #[{ on := 0, ground := Go.Ground.data }, { on := 12, ground := Go.Ground.data }], guard := none }) (v := ?_) rfl (by kernel_rfl) (by kernel_rfl) (by kernel_rfl) (fun _ _ _ h => h) (Or.inl ⟨by rfl, ?_⟩) hHeld ?_
        rotate_left
        · intro w hSw; (try dsimp only at hSw); go_simp <;> with_reducible rfl
        try simp only [Act.put, List.setIfInBounds_toArray, List.set_cons_zero, List.set_cons_succ]
        refine wpAnyH_ready (rs := [14]) (by kernel_rfl) (by simp) ?_
        refine AllReadyH.cons rfl (fun K hK => ?_) AllReadyH.nil
        go_simp
        refine (k7 _ hB).mono ?_
        rintro e w4 ⟨v2, rfl, hown2, hb2⟩
        have hB := hb2
        refine hK.out _ _ (hB) (fun hHeld2 => ?_)
        clear hK K hHeld
        have hHeld := hHeld2
        clear hHeld2
        try simp only [Act.put, List.setIfInBounds_toArray, List.set_cons_zero, List.set_cons_succ]
        refine wpAnyH_take (i := 15) (oi := { dst := some 92, op := Go.Op.move (Go.Operand.tmp 107), type := 26, pos := "law.go:89", after := #[{ on := 14, ground := Go.Ground.data }], guard := none }) (v := ?_) rfl (by kernel_rfl) (by kernel_rfl) (by kernel_rfl) (fun _ _ _ h => h) (Or.inl ⟨by rfl, ?_⟩) hHeld ?_
        rotate_left
        · intro w hSw; (try dsimp only at hSw); go_simp <;> with_reducible rfl
        try simp only [Act.put, List.setIfInBounds_toArray, List.set_cons_zero, List.set_cons_succ]
        refine wpAnyH_take (i := 16) (oi := { dst := some 108, op := Go.Op.extract (Go.Operand.tmp 92) 0, type := 24, pos := "law.go:89", after := #[{ on := 15, ground := Go.Ground.data }], guard := none }) (v := ?_) rfl (by kernel_rfl) (by kernel_rfl) (by kernel_rfl) (fun _ _ _ h => h) (Or.inl ⟨by rfl, ?_⟩) hHeld ?_
        rotate_left
        · intro w hSw; (try dsimp only at hSw); go_simp <;> with_reducible rfl
        try simp only [Act.put, List.setIfInBounds_toArray, List.set_cons_zero, List.set_cons_succ]
        refine wpAnyH_take (i := 17) (oi := { dst := some 109, op := Go.Op.extract (Go.Operand.tmp 92) 1, type := 25, pos := "law.go:89", after := #[{ on := 15, ground := Go.Ground.data }, { on := 19, ground := Go.Ground.gcOnly Go.Departure.lateStores }], guard := none }) (v := ?_) rfl (by kernel_rfl) (by kernel_rfl) (by kernel_rfl) (fun _ _ _ h => h) (Or.inl ⟨by rfl, ?_⟩) hHeld ?_
        rotate_left
        · intro w hSw; (try dsimp only at hSw); go_simp <;> with_reducible rfl
        try simp only [Act.put, List.setIfInBounds_toArray, List.set_cons_zero, List.set_cons_succ]
        refine wpAnyH_take (i := 18) (oi := { dst := some 110, op := Go.Op.extract (Go.Operand.tmp 92) 2, type := 3, pos := "law.go:89", after := #[{ on := 15, ground := Go.Ground.data }, { on := 20, ground := Go.Ground.gcOnly Go.Departure.lateStores }], guard := none }) (v := ?_) rfl (by kernel_rfl) (by kernel_rfl) (by kernel_rfl) (fun _ _ _ h => h) (Or.inl ⟨by rfl, ?_⟩) hHeld ?_
        rotate_left
        · intro w hSw; (try dsimp only at hSw); go_simp <;> with_reducible rfl
        try simp only [Act.put, List.setIfInBounds_toArray, List.set_cons_zero, List.set_cons_succ]
        refine wpAnyH_take (i := 19) (oi := { dst := some 11, op := Go.Op.assign (Go.Operand.tmp 108), type := 24, pos := "law.go:89", after := #[{ on := 16, ground := Go.Ground.data }, { on := 14, ground := Go.Ground.chain }, { on := 0, ground := Go.Ground.phase }, { on := 1, ground := Go.Ground.phase }, { on := 2, ground := Go.Ground.phase }, { on := 3, ground := Go.Ground.phase }, { on := 4, ground := Go.Ground.phase }, { on := 5, ground := Go.Ground.phase }, { on := 6, ground := Go.Ground.phase }, { on := 7, ground := Go.Ground.phase }, { on := 8, ground := Go.Ground.phase }, { on := 9, ground := Go.Ground.phase }, { on := 10, ground := Go.Ground.phase }, { on := 11, ground := Go.Ground.phase }, { on := 12, ground := Go.Ground.phase }, { on := 13, ground := Go.Ground.phase }, { on := 14, ground := Go.Ground.phase }, { on := 15, ground := Go.Ground.phase }, { on := 16, ground := Go.Ground.phase }, { on := 17, ground := Go.Ground.textOnly Go.Departure.lateStores }, { on := 18, ground := Go.Ground.textOnly Go.Departure.lateStores }], guard := none }) (v := ?_) rfl (by kernel_rfl) (by kernel_rfl) (by kernel_rfl) (fun _ _ _ h => h) (Or.inl ⟨by rfl, ?_⟩) hHeld ?_
        rotate_left
        · intro w hSw; (try dsimp only at hSw); go_simp <;> with_reducible rfl
        try simp only [Act.put, List.setIfInBounds_toArray, List.set_cons_zero, List.set_cons_succ]
        refine wpAnyH_take (i := 20) (oi := { dst := some 12, op := Go.Op.assign (Go.Operand.tmp 109), type := 25, pos := "law.go:89", after := #[{ on := 17, ground := Go.Ground.data }, { on := 19, ground := Go.Ground.chain }, { on := 0, ground := Go.Ground.phase }, { on := 1, ground := Go.Ground.phase }, { on := 2, ground := Go.Ground.phase }, { on := 3, ground := Go.Ground.phase }, { on := 4, ground := Go.Ground.phase }, { on := 5, ground := Go.Ground.phase }, { on := 6, ground := Go.Ground.phase }, { on := 7, ground := Go.Ground.phase }, { on := 8, ground := Go.Ground.phase }, { on := 9, ground := Go.Ground.phase }, { on := 10, ground := Go.Ground.phase }, { on := 11, ground := Go.Ground.phase }, { on := 12, ground := Go.Ground.phase }, { on := 13, ground := Go.Ground.phase }, { on := 14, ground := Go.Ground.phase }, { on := 15, ground := Go.Ground.phase }, { on := 16, ground := Go.Ground.phase }, { on := 17, ground := Go.Ground.phase }, { on := 18, ground := Go.Ground.textOnly Go.Departure.lateStores }, { on := 19, ground := Go.Ground.phase }], guard := none }) (v := ?_) rfl (by kernel_rfl) (by kernel_rfl) (by kernel_rfl) (fun _ _ _ h => h) (Or.inl ⟨by rfl, ?_⟩) hHeld ?_
        rotate_left
        · intro w hSw; (try dsimp only at hSw); go_simp <;> with_reducible rfl
        try simp only [Act.put, List.setIfInBounds_toArray, List.set_cons_zero, List.set_cons_succ]
        refine wpAnyH_take (i := 21) (oi := { dst := some 13, op := Go.Op.assign (Go.Operand.tmp 110), type := 3, pos := "law.go:89", after := #[{ on := 18, ground := Go.Ground.data }, { on := 20, ground := Go.Ground.chain }, { on := 0, ground := Go.Ground.phase }, { on := 1, ground := Go.Ground.phase }, { on := 2, ground := Go.Ground.phase }, { on := 3, ground := Go.Ground.phase }, { on := 4, ground := Go.Ground.phase }, { on := 5, ground := Go.Ground.phase }, { on := 6, ground := Go.Ground.phase }, { on := 7, ground := Go.Ground.phase }, { on := 8, ground := Go.Ground.phase }, { on := 9, ground := Go.Ground.phase }, { on := 10, ground := Go.Ground.phase }, { on := 11, ground := Go.Ground.phase }, { on := 12, ground := Go.Ground.phase }, { on := 13, ground := Go.Ground.phase }, { on := 14, ground := Go.Ground.phase }, { on := 15, ground := Go.Ground.phase }, { on := 16, ground := Go.Ground.phase }, { on := 17, ground := Go.Ground.phase }, { on := 18, ground := Go.Ground.phase }, { on := 19, ground := Go.Ground.phase }, { on := 20, ground := Go.Ground.phase }], guard := none }) (v := ?_) rfl (by kernel_rfl) (by kernel_rfl) (by kernel_rfl) (fun _ _ _ h => h) (Or.inl ⟨by rfl, ?_⟩) hHeld ?_
        rotate_left
        · intro w hSw; (try dsimp only at hSw); go_simp <;> with_reducible rfl
        try simp only [Act.put, List.setIfInBounds_toArray, List.set_cons_zero, List.set_cons_succ]
        refine wpAnyH_done (by kernel_rfl) ?_ _
        clear hB hHeld k7
        have hTr2 := own_tr hown2
        have hl2 : kk + 1 ≤ T2.length := by
          have := congrArg List.length HP1.out
          rw [List.length_take, List.length_take, HNT.out] at this
          omega
        have hcap2 : ∀ a' n' c', v2 = .slice a' n' c' → T2.length ≤ c' := by
          intro a' n' c' e
          rcases hown2.2 with ⟨e1, e2⟩ | ⟨g', cap', cur, e1, _, _, hc, _⟩
          · omega
          · rw [e] at e1; injection e1 with _ _ e3; omega
        obtain ⟨a2, cap2, rfl, hcc2⟩ := hTr2.h
        obtain ⟨g2, rfl, _, _⟩ := hcc2 (by omega)
        have hcap3 := hcap2 _ _ _ rfl
        obtain ⟨n2, hn2⟩ : ∃ m, T2.length = m := ⟨_, rfl⟩
        rw [hn2] at hTr2 hl2 hcap3 ⊢
        obtain ⟨k1, hk1⟩ : ∃ m, kk + 1 = m := ⟨_, rfl⟩
        rw [hk1] at hl2 HP1
        have hwk : IntKind.i64.wrap ((kk : Int) + 1) = (k1 : Int) := by rw [IntKind.wrap_i64]; omega
        have hsa := fun X => slice_to g nT cap k1 (by omega) X
        have hsb := fun X => slice_to g2 n2 cap2 k1 (by omega) X
        have hge : (k1 : Int) ≤ (n2 : Int) := by omega
        have hb24 : Below w1.heap.size w1 w4 := HB.out.trans ((show Below w2.heap.size w2 w4 from ⟨hb2.os, hb2.tape, hb2.output, hb2.size, hb2.block⟩).mono HB.out.size)
        have ht1 : Tr w4 (.slice (some ⟨g, 0, none⟩) k1 cap) (T.take k1) := (Tr.belowB HTa.out hb24).take k1 (by omega)
        have ht2 : Tr w4 (.slice (some ⟨g2, 0, none⟩) k1 cap2) (T.take k1) := by rw [← HP1.out]; exact hTr2.take k1 hl2
        have hsm := fun X (h1 : Tr X (.slice (some ⟨g2, 0, none⟩) k1 cap2) (T.take k1)) (h2 : Tr X (.slice (some ⟨g, 0, none⟩) k1 cap) (T.take k1)) => same_yes _ _ (T.take k1) X h1 h2 (by rw [List.length_take]; omega)
        have HSM : Hid _ := hsm
        have HT1 : Hid _ := ht1
        have HT2 : Hid _ := ht2
        have HB24 : Hid _ := hb24
        clear hsm ht1 ht2 hb24 hTr2 hcap2 hcc2 hown2 hb2 hn2 hk1
        go_upto_region 14 with (fail)
        have k9 : ∀ X, Below w4.heap.size w4 X → Calls Tryd.prog 9 #[.slice (some ⟨g2, 0, none⟩) k1 cap2, .slice (some ⟨g, 0, none⟩) k1 cap] X fun e w' => e = .returned (.bool true) ∧ Below w4.heap.size w4 w' :=
          fun X hX => (HSM.out X (HT2.out.below hX) (HT1.out.below hX)).mono fun e w' ⟨he, q, hw⟩ => ⟨he, by rw [hw]; exact below_drewN hX q⟩
        have k16 : ∀ X, Below w4.heap.size w4 X → Calls Tryd.prog 16 #[] X fun e w' => e = .returned (.bool true) ∧ Below w4.heap.size w4 w' :=
          fun X hX => (HKN.out X (HEB2.out X (HB24.out.trans (hX.mono HB24.out.size)))).mono fun e w' ⟨he, hb⟩ => ⟨he, hX.trans (hb.mono hX.size)⟩
        have HK : ∀ w', Below w4.heap.size w4 w' → Below w4.heap.size w4 w' := fun _ h => h
        have BD : Below w4.heap.size w4 w4.drew := (Below.refl _ _).drew
        have BR : Below w4.heap.size w4 w4 := Below.refl _ _
        have HFIN : Hid (∀ X, Below w4.heap.size w4 X → Below W.heap.size W X) := fun X hX => HBW.out.trans ((HB24.out.trans (hX.mono HB24.out.size)).mono HBW.out.size)
        clear HSM HT1 HT2 HKN HEB2 HP1 HCC HTa HPL HPR hup hw1 hkkl hg HB HBW HE
        have hB : Below w4.heap.size w4 w4.drew := Below.drew (Below.refl _ _)
        refine wp_region_held_drew (S := (fun X => Below w4.heap.size w4 X)) (by kernel_rfl) (hB) (fun hHeld => ?_)
        refine wpAnyH_take (i := 0) (oi := { dst := some 111, op := Go.Op.move (Go.Operand.tmp 12), type := 25, pos := "law.go:90", after := #[], guard := none }) (v := ?_) rfl (by kernel_rfl) (by kernel_rfl) (by kernel_rfl) (fun _ _ _ h => h) (Or.inl ⟨by rfl, ?_⟩) hHeld ?_
        rotate_left
        · intro w hSw; (try dsimp only at hSw); go_simp <;> with_reducible rfl
        try simp only [Act.put, List.setIfInBounds_toArray, List.set_cons_zero, List.set_cons_succ]
        refine wpAnyH_take (i := 1) (oi := { dst := some 112, op := Go.Op.binOp Go.BinOp.eql 25 (Go.Operand.tmp 111) (Go.Operand.const (Go.Value.int Go.IntKind.i64 0)) 25, type := 4, pos := "law.go:90", after := #[{ on := 0, ground := Go.Ground.data }], guard := none }) (v := .bool true) rfl (by kernel_rfl) (by kernel_rfl) (by kernel_rfl) (fun _ _ _ h => h) (Or.inl ⟨by rfl, ?_⟩) hHeld ?_
        skip
        · intro w hSw; (try dsimp only at hSw); go_simp <;> with_reducible rfl
        try simp only [Act.put, List.setIfInBounds_toArray, List.set_cons_zero, List.set_cons_succ]
        refine wpAnyH_take (i := 2) (oi := { dst := some 113, op := Go.Op.move (Go.Operand.tmp 112), type := 4, pos := "law.go:90", after := #[{ on := 1, ground := Go.Ground.data }], guard := none }) (v := .bool true) rfl (by kernel_rfl) (by kernel_rfl) (by kernel_rfl) (fun _ _ _ h => h) (Or.inl ⟨by rfl, ?_⟩) hHeld ?_
        skip
        · intro w hSw; (try dsimp only at hSw); go_simp <;> with_reducible rfl
        try simp only [Act.put, List.setIfInBounds_toArray, List.set_cons_zero, List.set_cons_succ]
        refine wpAnyH_take (i := 3) (oi := { dst := some 114, op := Go.Op.move (Go.Operand.tmp 11), type := 24, pos := "law.go:90", after := #[{ on := 2, ground := Go.Ground.guard }], guard := some (2, true) }) (v := ?_) rfl (by kernel_rfl) (by kernel_rfl) (by kernel_rfl) (fun _ _ _ h => h) (Or.inl ⟨by rfl, ?_⟩) hHeld ?_
        rotate_left
        · intro w hSw; (try dsimp only at hSw); go_simp <;> with_reducible rfl
        try simp only [Act.put, List.setIfInBounds_toArray, List.set_cons_zero, List.set_cons_succ]
        refine wpAnyH_take (i := 4) (oi := { dst := some 115, op := Go.Op.call { callee := Go.Callee.builtin Go.Builtin.len, args := #[Go.Operand.tmp 114], argTypes := #[24] }, type := 3, pos := "law.go:90", after := #[{ on := 3, ground := Go.Ground.data }, { on := 2, ground := Go.Ground.guard }], guard := some (2, true) }) (v := ?_) rfl (by kernel_rfl) (by kernel_rfl) (by kernel_rfl) (fun _ _ _ h => h) (Or.inl ⟨by rfl, ?_⟩) hHeld ?_
        rotate_left
        · intro w hSw; (try dsimp only at hSw); go_simp <;> with_reducible rfl
        try simp only [Act.put, List.setIfInBounds_toArray, List.set_cons_zero, List.set_cons_succ]
        refine wpAnyH_take (i := 5) (oi := { dst := some 116, op := Go.Op.move (Go.Operand.tmp 10), type := 3, pos := "law.go:90", after := #[{ on := 2, ground := Go.Ground.guard }], guard := some (2, true) }) (v := ?_) rfl (by kernel_rfl) (by kernel_rfl) (by kernel_rfl) (fun _ _ _ h => h) (Or.inl ⟨by rfl, ?_⟩) hHeld ?_
        rotate_left
        · intro w hSw; (try dsimp only at hSw); go_simp <;> with_reducible rfl
        try simp only [Act.put, List.setIfInBounds_toArray, List.set_cons_zero, List.set_cons_succ]
        refine wpAnyH_take (i := 6) (oi := { dst := some 117, op := Go.Op.binOp Go.BinOp.add 3 (Go.Operand.tmp 116) (Go.Operand.const (Go.Value.int Go.IntKind.i64 1)) 3, type := 3, pos := "law.go:90", after := #[{ on := 5, ground := Go.Ground.data }, { on := 2, ground := Go.Ground.guard }], guard := some (2, true) }) (v := ?_) rfl (by kernel_rfl) (by kernel_rfl) (by kernel_rfl) (fun _ _ _ h => h) (Or.inl ⟨by rfl, ?_⟩) hHeld ?_
        rotate_left
        · intro w hSw; (try dsimp only at hSw); go_simp <;> with_reducible rfl
        try simp only [Act.put, List.setIfInBounds_toArray, List.set_cons_zero, List.set_cons_succ]
        refine wpAnyH_take (i := 7) (oi := { dst := some 118, op := Go.Op.binOp Go.BinOp.geq 3 (Go.Operand.tmp 115) (Go.Operand.tmp 117) 3, type := 4, pos := "law.go:90", after := #[{ on := 4, ground := Go.Ground.data }, { on := 6, ground := Go.Ground.data }, { on := 2, ground := Go.Ground.guard }], guard := some (2, true) }) (v := .bool true) rfl (by kernel_rfl) (by kernel_rfl) (by kernel_rfl) (fun _ _ _ h => h) (Or.inl ⟨by rfl, ?_⟩) hHeld ?_
        skip
        · intro w hSw; (try dsimp only at hSw); go_simp <;> with_reducible rfl
        try simp only [Act.put, List.setIfInBounds_toArray, List.set_cons_zero, List.set_cons_succ]
        refine wpAnyH_take (i := 8) (oi := { dst := some 119, op := Go.Op.pick (Go.Operand.tmp 113) (Go.Operand.tmp 118) (Go.Operand.const (Go.Value.bool false)), type := 4, pos := "law.go:90", after := #[{ on := 2, ground := Go.Ground.data }, { on := 7, ground := Go.Ground.data }], guard := none }) (v := .bool true) rfl (by kernel_rfl) (by kernel_rfl) (by kernel_rfl) (fun _ _ _ h => h) (Or.inl ⟨by rfl, ?_⟩) hHeld ?_
        skip
        · intro w hSw; (try dsimp only at hSw); go_simp <;> with_reducible rfl
        try simp only [Act.put, List.setIfInBounds_toArray, List.set_cons_zero, List.set_cons_succ]
        refine wpAnyH_take (i := 9) (oi := { dst := some 120, op := Go.Op.move (Go.Operand.tmp 119), type := 4, pos := "law.go:90", after := #[{ on := 8, ground := Go.Ground.data }, { on := 2, ground := Go.Ground.chain }], guard := none }) (v := .bool true) rfl (by kernel_rfl) (by kernel_rfl) (by kernel_rfl) (fun _ _ _ h => h) (Or.inl ⟨by rfl, ?_⟩) hHeld ?_
        skip
        · intro w hSw; (try dsimp only at hSw); go_simp <;> with_reducible rfl
        try simp only [Act.put, List.setIfInBounds_toArray, List.set_cons_zero, List.set_cons_succ]
        refine wpAnyH_take (i := 10) (oi := { dst := some 121, op := Go.Op.move (Go.Operand.tmp 11), type := 24, pos := "law.go:90", after := #[{ on := 9, ground := Go.Ground.guard }], guard := some (9, true) }) (v := ?_) rfl (by kernel_rfl) (by kernel_rfl) (by kernel_rfl) (fun _ _ _ h => h) (Or.inl ⟨by rfl, ?_⟩) hHeld ?_
        rotate_left
        · intro w hSw; (try dsimp only at hSw); go_simp <;> with_reducible rfl
        try simp only [Act.put, List.setIfInBounds_toArray, List.set_cons_zero, List.set_cons_succ]
        refine wpAnyH_take (i := 11) (oi := { dst := some 122, op := Go.Op.move (Go.Operand.tmp 10), type := 3, pos := "law.go:90", after := #[{ on := 9, ground := Go.Ground.guard }], guard := some (9, true) }) (v := ?_) rfl (by kernel_rfl) (by kernel_rfl) (by kernel_rfl) (fun _ _ _ h => h) (Or.inl ⟨by rfl, ?_⟩) hHeld ?_
        rotate_left
        · intro w hSw; (try dsimp only at hSw); go_simp <;> with_reducible rfl
        try simp only [Act.put, List.setIfInBounds_toArray, List.set_cons_zero, List.set_cons_succ]
        refine wpAnyH_take (i := 12) (oi := { dst := some 123, op := Go.Op.binOp Go.BinOp.add 3 (Go.Operand.tmp 122) (Go.Operand.const (Go.Value.int Go.IntKind.i64 1)) 3, type := 3, pos := "law.go:90", after := #[{ on := 11, ground := Go.Ground.data }, { on := 9, ground := Go.Ground.guard }], guard := some (9, true) }) (v := ?_) rfl (by kernel_rfl) (by kernel_rfl) (by kernel_rfl) (fun _ _ _ h => h) (Or.inl ⟨by rfl, ?_⟩) hHeld ?_
        rotate_left
        · intro w hSw; (try dsimp only at hSw); go_simp <;> with_reducible rfl
        try simp only [Act.put, List.setIfInBounds_toArray, List.set_cons_zero, List.set_cons_succ]
        refine wpAnyH_take (i := 13) (oi := { dst := some 124, op := Go.Op.slice 24 (Go.Operand.tmp 121) none (some (Go.Operand.tmp 123)) none, type := 24, pos := "law.go:90", after := #[{ on := 10, ground := Go.Ground.data }, { on := 12, ground := Go.Ground.data }, { on := 9, ground := Go.Ground.guard }], guard := some (9, true) }) (v := ?_) rfl (by kernel_rfl) (by kernel_rfl) (by kernel_rfl) (fun _ _ _ h => h) (Or.inl ⟨by rfl, ?_⟩) hHeld ?_
        rotate_left
        · intro w hSw; (try dsimp only at hSw); go_simp <;> with_reducible rfl
        try simp only [Act.put, List.setIfInBounds_toArray, List.set_cons_zero, List.set_cons_succ]
        refine wpAnyH_take (i := 14) (oi := { dst := some 125, op := Go.Op.move (Go.Operand.tmp 5), type := 24, pos := "law.go:90", after := #[{ on := 9, ground := Go.Ground.guard }], guard := some (9, true) }) (v := ?_) rfl (by kernel_rfl) (by kernel_rfl) (by kernel_rfl) (fun _ _ _ h => h) (Or.inl ⟨by rfl, ?_⟩) hHeld ?_
        rotate_left
        · intro w hSw; (try dsimp only at hSw); go_simp <;> with_reducible rfl
        try simp only [Act.put, List.setIfInBounds_toArray, List.set_cons_zero, List.set_cons_succ]
        refine wpAnyH_take (i := 15) (oi := { dst := some 126, op := Go.Op.move (Go.Operand.tmp 10), type := 3, pos := "law.go:90", after := #[{ on := 9, ground := Go.Ground.guard }], guard := some (9, true) }) (v := ?_) rfl (by kernel_rfl) (by kernel_rfl) (by kernel_rfl) (fun _ _ _ h => h) (Or.inl ⟨by rfl, ?_⟩) hHeld ?_
        rotate_left
        · intro w hSw; (try dsimp only at hSw); go_simp <;> with_reducible rfl
        try simp only [Act.put, List.setIfInBounds_toArray, List.set_cons_zero, List.set_cons_succ]
        refine wpAnyH_take (i := 16) (oi := { dst := some 127, op := Go.Op.binOp Go.BinOp.add 3 (Go.Operand.tmp 126) (Go.Operand.const (Go.Value.int Go.IntKind.i64 1)) 3, type := 3, pos := "law.go:90", after := #[{ on := 15, ground := Go.Ground.data }, { on := 9, ground := Go.Ground.guard }], guard := some (9, true) }) (v := ?_) rfl (by kernel_rfl) (by kernel_rfl) (by kernel_rfl) (fun _ _ _ h => h) (Or.inl ⟨by rfl, ?_⟩) hHeld ?_
        rotate_left
        · intro w hSw; (try dsimp only at hSw); go_simp <;> with_reducible rfl
        try simp only [Act.put, List.setIfInBounds_toArray, List.set_cons_zero, List.set_cons_succ]
        refine wpAnyH_take (i := 17) (oi := { dst := some 128, op := Go.Op.slice 24 (Go.Operand.tmp 125) none (some (Go.Operand.tmp 127)) none, type := 24, pos := "law.go:90", after := #[{ on := 14, ground := Go.Ground.data }, { on := 16, ground := Go.Ground.data }, { on := 9, ground := Go.Ground.guard }], guard := some (9, true) }) (v := ?_) rfl (by kernel_rfl) (by kernel_rfl) (by kernel_rfl) (fun _ _ _ h => h) (Or.inl ⟨by rfl, ?_⟩) hHeld ?_
        rotate_left
        · intro w hSw; (try dsimp only at hSw); go_simp <;> with_reducible rfl
        try simp only [Act.put, List.setIfInBounds_toArray, List.set_cons_zero, List.set_cons_succ]
        refine wpAnyH_ready (rs := [18]) (by kernel_rfl) (by simp) ?_
        refine AllReadyH.cons rfl (fun K hK => ?_) AllReadyH.nil
        go_simp
        refine (k9 _ hB).mono ?_
        rintro e w5 ⟨rfl, hb5⟩
        have hB := hb5
        clear hb5
        refine hK.out _ _ (hB) (fun hHeld2 => ?_)
        clear hK K hHeld
        have hHeld := hHeld2
        clear hHeld2
        try simp only [Act.put, List.setIfInBounds_toArray, List.set_cons_zero, List.set_cons_succ]
        refine wpAnyH_take (i := 19) (oi := { dst := some 130, op := Go.Op.pick (Go.Operand.tmp 120) (Go.Operand.tmp 129) (Go.Operand.const (Go.Value.bool false)), type := 4, pos := "law.go:90", after := #[{ on := 9, ground := Go.Ground.data }, { on := 18, ground := Go.Ground.data }], guard := none }) (v := .bool true) rfl (by kernel_rfl) (by kernel_rfl) (by kernel_rfl) (fun _ _ _ h => h) (Or.inl ⟨by rfl, ?_⟩) hHeld ?_
        skip
        · intro w hSw; (try dsimp only at hSw); go_simp <;> with_reducible rfl
        try simp only [Act.put, List.setIfInBounds_toArray, List.set_cons_zero, List.set_cons_succ]
        refine wpAnyH_take (i := 20) (oi := { dst := some 131, op := Go.Op.move (Go.Operand.tmp 130), type := 4, pos := "law.go:90", after := #[{ on := 19, ground := Go.Ground.data }, { on := 18, ground := Go.Ground.chain }], guard := none }) (v := .bool true) rfl (by kernel_rfl) (by kernel_rfl) (by kernel_rfl) (fun _ _ _ h => h) (Or.inl ⟨by rfl, ?_⟩) hHeld ?_
        skip
        · intro w hSw; (try dsimp only at hSw); go_simp <;> with_reducible rfl
        try simp only [Act.put, List.setIfInBounds_toArray, List.set_cons_zero, List.set_cons_succ]
        refine wpAnyH_ready (rs := [21]) (by kernel_rfl) (by simp) ?_
        refine AllReadyH.cons rfl (fun K hK => ?_) AllReadyH.nil
        go_simp
        refine (k16 _ hB).mono ?_
        rintro e w6 ⟨rfl, hb6⟩
        have hB := hb6
        clear hb6
        refine hK.out _ _ (hB) (fun hHeld2 => ?_)
        clear hK K hHeld
        have hHeld := hHeld2
        clear hHeld2
        try simp only [Act.put, List.setIfInBounds_toArray, List.set_cons_zero, List.set_cons_succ]
        refine wpAnyH_take (i := 22) (oi := { dst := some 133, op := Go.Op.pick (Go.Operand.tmp 131) (Go.Operand.tmp 132) (Go.Operand.const (Go.Value.bool false)), type := 4, pos := "law.go:90", after := #[{ on := 20, ground := Go.Ground.data }, { on := 21, ground := Go.Ground.data }], guard := none }) (v := ?_) rfl (by kernel_rfl) (by kernel_rfl) (by kernel_rfl) (fun _ _ _ h => h) (Or.inl ⟨by rfl, ?_⟩) hHeld ?_
        rotate_left
        · intro w hSw; (try dsimp only at hSw); go_simp <;> with_reducible rfl
        try simp only [Act.put, List.setIfInBounds_toArray, List.set_cons_zero, List.set_cons_succ]
        refine wpAnyH_take (i := 23) (oi := { dst := some 4, op := Go.Op.assign (Go.Operand.tmp 133), type := 4, pos := "law.go:90", after := #[{ on := 22, ground := Go.Ground.data }, { on := 21, ground := Go.Ground.chain }, { on := 0, ground := Go.Ground.phase }, { on := 1, ground := Go.Ground.phase }, { on := 2, ground := Go.Ground.phase }, { on := 3, ground := Go.Ground.phase }, { on := 4, ground := Go.Ground.phase }, { on := 5, ground := Go.Ground.phase }, { on := 6, ground := Go.Ground.phase }, { on := 7, ground := Go.Ground.phase }, { on := 8, ground := Go.Ground.phase }, { on := 9, ground := Go.Ground.phase }, { on := 10, ground := Go.Ground.phase }, { on := 11, ground := Go.Ground.phase }, { on := 12, ground := Go.Ground.phase }, { on := 13, ground := Go.Ground.phase }, { on := 14, ground := Go.Ground.phase }, { on := 15, ground := Go.Ground.phase }, { on := 16, ground := Go.Ground.phase }, { on := 17, ground := Go.Ground.phase }, { on := 18, ground := Go.Ground.phase }, { on := 19, ground := Go.Ground.phase }, { on := 20, ground := Go.Ground.phase }, { on := 21, ground := Go.Ground.phase }, { on := 22, ground := Go.Ground.phase }], guard := none }) (v := ?_) rfl (by kernel_rfl) (by kernel_rfl) (by kernel_rfl) (fun _ _ _ h => h) (Or.inl ⟨by rfl, ?_⟩) hHeld ?_
        rotate_left
        · intro w hSw; (try dsimp only at hSw); go_simp <;> with_reducible rfl
        try simp only [Act.put, List.setIfInBounds_toArray, List.set_cons_zero, List.set_cons_succ]
        refine wpAnyH_done (by kernel_rfl) ?_ _
        skip
        go_wp2
        go_ret
        exact ⟨rfl, HFIN.out _ hB⟩
  · rw [her hx] at hsc
    have hxn : (x != 0) = true := by simpa using hx
    have hxb : (x == 0) = false := by simpa using hx
    simp only at hsc
    clear hal her hpl hpr hso
    go_enter Tryd.func5, Tryd.ntmps5
    go_wp2_with fail
    refine hsc.mono ?_
    rintro e w1 ⟨v, rfl, _, hb1⟩
    clear hsc
    go_wp2_with fail
    refine (HKN.out w1 (HE.out.self hb1)).mono ?_
    rintro e w2 ⟨rfl, hb2⟩
    go_wp2
    go_ret
    exact ⟨rfl, hb1.trans (hb2.mono hb1.size)⟩
end Go.Proofs.YtokcbiafajpmoaaDoor
