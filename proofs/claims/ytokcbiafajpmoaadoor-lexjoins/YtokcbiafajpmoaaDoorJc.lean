/-
  What is proved here: the walk of LexJoins.
-/
import Derived.Test.YtokcbiafajpmoaaDoorJb
import Derived.Test.YtokcbiafajpmoaaDoorJa
import Derived.Test.YtokcbiafajpmoaaDoorPb
import Derived.Test.YtokcbiafajpmoaaDoorLy
import Derived.Deep.RegionHeld3
namespace Go.Proofs.YtokcbiafajpmoaaDoor
open Go.RowKit
set_option linter.unusedVariables false
set_option linter.unusedSimpArgs false
theorem sig_at {T T2 : List Tok} (h : T2.map Tok.sig = T.map Tok.sig) (i : Nat) (t : Tok) (ht : T[i]? = some t) : ∃ u, T2[i]? = some u ∧ u.k = t.k ∧ u.n = t.n ∧ u.txt = t.txt := by
  have h2 := congrArg (fun l => l[i]?) h
  simp only [List.getElem?_map, ht, Option.map_some] at h2
  cases hu : T2[i]? with
  | none => rw [hu] at h2; simp at h2
  | some u =>
    rw [hu] at h2
    simp only [Option.map_some, Option.some.injEq, Tok.sig, Prod.mk.injEq] at h2
    exact ⟨u, rfl, h2.1, h2.2.1, h2.2.2⟩
theorem joinT_step (T : List Tok) (k : Nat) (t : Tok) (h : T[k]? = some t) : joinT (T.take (k + 1)) = joinT (T.take k) ++ t.txt ++ [32] := by
  rw [List.take_add_one, h]
  unfold joinT
  rw [List.flatMap_append]
  simp
theorem joinT_pos (T : List Tok) (h : 0 < T.length) : 0 < (joinT T).length := by
  cases T with
  | nil => simp at h
  | cons t T => rw [joinT_cons, List.length_append, List.length_cons]; omega
theorem all_short (b : List UInt8) (he : (allT b).2.1 = 0) : b.length ≤ 65536 := by
  apply Classical.byContradiction
  intro hn
  unfold allT at he
  rw [if_pos (by omega)] at he
  simp at he
theorem txt_len (b : List UInt8) (he : (allT b).2.1 = 0) (i : Nat) (t : Tok) (h : (allT b).1[i]? = some t) : t.txt.length ≤ 70000 := by
  have h1 := (all_place b i t h).1.le
  have h2 := all_short b he
  have h3 := all_numbers b t (List.mem_of_getElem? h)
  unfold Tok.txt txtR
  split
  · have := Lib.itoa_length_le t.n (by omega) (by omega); omega
  · omega

set_option maxRecDepth 100000 in
set_option maxHeartbeats 4000000 in
theorem joins_walk (b : List UInt8) (hbl : b.length ≤ 140737488355328) (W : World) (hE : ErrV W) (hTn : Tens W) :
    Calls Tryd.prog 4 #[.string (bs b)] W fun e w' => e = .returned (.bool true) ∧ Below W.heap.size W w' := by
  have hsc := scan_any b W hE
  have hkn := fun X (hX : ErrV X) => known16 X hX
  have hal := scan_all b
  have her := scan_err b
  have hso := all_some b
  have hcn := all_count b
  have htl := txt_len b
  have hnu := all_numbers b
  have hjn := all_join b
  obtain ⟨⟨T, x, p⟩, hall⟩ : ∃ y, allT b = y := ⟨_, rfl⟩
  rw [hall] at hal her hso hcn htl hnu hjn
  simp only at hal her hso hcn htl hnu hjn
  have HE : Hid (ErrV W) := hE
  have HTN : Hid (Tens W) := hTn
  have HKN : Hid _ := hkn
  clear hE hTn hall hkn
  by_cases hx : x = 0
  · rw [hal hx] at hsc
    subst hx
    have hT := hso rfl
    have HTL : Hid _ := htl rfl
    have HNU : Hid _ := hnu
    have HJN : Hid _ := hjn rfl
    simp only at hsc
    clear hal her hso htl hnu hjn
    go_enter Tryd.func4, Tryd.ntmps4
    go_wp2_with fail
    refine hsc.mono ?_
    rintro e w1 ⟨v, rfl, hown, hb1⟩
    have HT1 : Hid (Tr w1 v T) := own_tr hown
    obtain ⟨a0, cap, rfl, _⟩ := HT1.out.h
    obtain ⟨nT, hnT⟩ : ∃ m, T.length = m := ⟨_, rfl⟩
    have HNT : Hid (T.length = nT) := hnT
    have hn0 : 0 < nT := by rw [← hnT]; exact List.length_pos_iff.2 hT
    rw [hnT] at HT1 hcn ⊢
    have HTa : Hid (Tr w1 (.slice a0 nT cap) T) := HT1
    obtain ⟨_, g, rfl, hg, hcc⟩ := HTa.out.cells hn0
    have HCC : Hid _ := hcc
    have HBW : Hid (Below W.heap.size W w1) := hb1
    have HEB : Hid (∀ X, Below w1.heap.size w1 X → ErrV X) := fun X hX => HE.out.self (HBW.out.trans (hX.mono HBW.out.size))
    have HTB : Hid (∀ X, Below w1.heap.size w1 X → Tens X) := fun X hX => HTN.out.self (HBW.out.trans (hX.mono HBW.out.size))
    clear hsc hown hT hnT HT1 hcc hb1
    go_wp2
    go_loopw [6, 7] (fun o i wr => ∃ k : Nat, k ≤ nT ∧ i = .int .i64 (k : Int) ∧ (joinT (T.take k)).length ≤ 70001 * k ∧ Hid (wr.ownsRow w1.heap.size 5 1 o (joinT (T.take k)).length (Lib.byteCells (joinT (T.take k)))) ∧ Hid (Below w1.heap.size w1 wr)) (fun _ i _ => nT - (intOf i).toNat)
    case atStart => exact ⟨0, by omega, rfl, by simp [joinT], by unfold Hid; simpa [joinT, Lib.byteCells] using World.ownsRow_nil _ _ _ _, Below.refl _ _⟩
    case round =>
      obtain ⟨k, hk, rfl, hjl, HO, HB⟩ := hrel
      by_cases hlt : k < nT
      · have hlt' : (k : Int) < (nT : Int) := by omega
        obtain ⟨t, ht⟩ : ∃ t, T[k]? = some t := ⟨_, List.getElem?_eq_getElem (by rw [HNT.out]; exact hlt)⟩
        have n1 := HNU.out t (List.mem_of_getElem? ht)
        have l1 := HTL.out k t ht
        have hst := joinT_step T k t ht
        obtain ⟨p0, p1, p2, p3⟩ := HCC.out k t ht
        have q0 := (HB.out.cell (p := ⟨g, k * 4, none⟩) hg).trans p0
        have q1 := (HB.out.cell (p := ⟨g, k * 4 + 1, none⟩) hg).trans p1
        have q2 := (HB.out.cell (p := ⟨g, k * 4 + 2, none⟩) hg).trans p2
        have q3 := (HB.out.cell (p := ⟨g, k * 4 + 3, none⟩) hg).trans p3
        have hTX := text10 t.k t.n t.tx t.p (by omega) (by omega) wr (HTB.out wr HB.out)
        have e1 : txtR t.k t.n t.tx = t.txt := rfl
        rw [e1] at hTX
        generalize t.k = x0 at q0 hTX
        generalize t.n = x2 at q2 hTX
        generalize bs t.tx = tx1 at q1 hTX
        generalize (t.p : Int) = x3 at q3 hTX
        generalize t.txt = l at hTX hst l1
        obtain ⟨D, hD⟩ : ∃ D, joinT (T.take k) = D := ⟨_, rfl⟩
        rw [hD] at HO hst hjl
        have HST : Hid _ := hst
        have hwk : IntKind.i64.wrap ((k : Int) + 1) = (k : Int) + 1 := by rw [IntKind.wrap_i64]; omega
        clear p0 p1 p2 p3 ht n1 e1 hD hst
        go_wp2_with fail
        refine hTX.mono ?_
        rintro e w2 ⟨rfl, hb2⟩
        have HB2 : Hid (Below w1.heap.size w1 w2) := HB.out.trans (hb2.mono HB.out.size)
        have HO2 : Hid _ := own_below HO.out hb2
        have hs2 := HB2.out.size
        clear hTX hb2 HO HB q0 q1 q2 q3
        go_wp2_with (at_builtin; refine wpList_app_s rfl (.tmp 32) (.tmp 37) rfl w1.heap.size _ D l rfl HO2.out rfl (by omega) hs2 ?_; intro v3 w3 hown3 hb3 _; refine Hid.out ?_)
        refine (show Hid _ from ?_)
        unfold Hid
        have HB3 : Hid (Below w1.heap.size w1 w3) := HB2.out.trans hb3
        have hs3 := HB3.out.size
        have hlen3 : (D ++ l).length ≤ 1000000000000 := by rw [List.length_append]; omega
        have hl4 : (D ++ l).length ≤ 70001 * k + 70000 := by rw [List.length_append]; omega
        have HR3 : Hid (Rw (w3.alloc (Obj.cells #[.int .u8 32] 5)) w3.heap.size 5 #[.int .u8 (32 : UInt8).toNat]) := Rw.new _ _ _
        have HO3 : Hid ((w3.alloc (Obj.cells #[.int .u8 32] 5)).ownsRow w1.heap.size 5 1 v3 (D ++ l).length (Lib.byteCells (D ++ l))) := own_below hown3 ((Below.refl _ w3).alloc (Nat.le_refl _) _)
        have hsA : w1.heap.size ≤ (w3.alloc (Obj.cells #[.int .u8 32] 5)).heap.size := by rw [World.size_alloc]; omega
        have HBA : Hid (Below w1.heap.size w1 (w3.alloc (Obj.cells #[.int .u8 32] 5))) := HB3.out.alloc hs3 _
        clear hown3 hb3 HO2 HB2 hs2
        go_wp2_with (at_builtin; refine wpList_app_1 rfl (.tmp 39) (.tmp 40) rfl w1.heap.size _ (D ++ l) 32 rfl HO3.out w3.heap.size rfl HR3.out hlen3 hsA ?_; intro v4 w4 hown4 hb4; refine Hid.out ?_)
        refine (show Hid _ from ?_)
        unfold Hid
        have HB4 : Hid (Below w1.heap.size w1 w4) := HBA.out.trans hb4
        have HO4 : Hid _ := hown4
        clear hown4 hb4 HO3 HR3 HB3 HBA hsA hs3
        go_wp2
        go_roundw
        case rel =>
          refine ⟨k + 1, by omega, by go_num, ?_, ?_, HB4⟩
          · rw [HST.out, List.length_append]; simp only [List.length_cons, List.length_nil]; omega
          · unfold Hid; rw [HST.out]; exact HO4.out
        case measure => simp [intOf]; omega
      · have hlt' : ¬ (k : Int) < (nT : Int) := by omega
        obtain rfl : k = nT := by omega
        have htk : T.take k = T := by rw [← HNT.out]; exact List.take_length
        rw [htk] at HO hjl
        have hJ := HJN.out
        have hJ0 : 0 < (joinT T).length := joinT_pos T (by rw [HNT.out]; exact hn0)
        obtain ⟨D, hD⟩ : ∃ D, joinT T = D := ⟨_, rfl⟩
        rw [hD] at HO hJ hJ0 hjl
        obtain ⟨g2, cap2, rfl, hg2, hg2l, hcv⟩ := conv_back _ _ _ D hJ0 HO.out
        obtain ⟨m, hm⟩ : ∃ m, D.length = m := ⟨_, rfl⟩
        have HCV : Hid _ := hcv wr (Below.refl _ _)
        rw [hm] at hJ hjl HCV ⊢
        have HJ : Hid _ := hJ
        clear hcv hJ HO hJ0 hD htk hlt hk
        by_cases hbig : 65536 < m
        · have hbig' : (65536 : Int) < (m : Int) := by omega
          go_wp2_with fail
          refine (HKN.out wr (HEB.out wr HB.out)).mono ?_
          rintro e w2 ⟨rfl, hb2⟩
          go_wp2
          go_ret
          exact ⟨rfl, HBW.out.trans ((HB.out.trans (hb2.mono HB.out.size)).mono HBW.out.size)⟩
        · have hbig' : ¬ (65536 : Int) < (m : Int) := by omega
          obtain ⟨j1, j2⟩ := HJ.out (by omega)
          have hsc2 := scan_any D wr (HEB.out wr HB.out)
          rw [scan_all D j1] at hsc2
          simp only at hsc2
          have hnu2 := all_numbers D
          obtain ⟨T2, hT2⟩ : ∃ y, (allT D).1 = y := ⟨_, rfl⟩
          rw [hT2] at j2 hsc2 hnu2
          have hl2 : T2.length = k := by have := congrArg List.length j2; rw [List.length_map, List.length_map, HNT.out] at this; exact this
          have HSG : Hid _ := j2
          have HN2 : Hid _ := hnu2
          have hcv2 := HCV.out
          clear hT2 j1 j2 hnu2 hm HJ hbig
          go_wp2_with fail
          refine hsc2.mono ?_
          rintro e w2 ⟨v2, rfl, hown2, hb2⟩
          have HT2 : Hid (Tr w2 v2 T2) := own_tr hown2
          obtain ⟨a2, cap3, rfl, _⟩ := HT2.out.h
          rw [hl2] at HT2 ⊢
          obtain ⟨_, g3, rfl, hg3, hcc3⟩ := HT2.out.cells hn0
          have HCC3 : Hid _ := hcc3
          have HB2 : Hid (Below w1.heap.size w1 w2) := HB.out.trans (hb2.mono HB.out.size)
          have hg12 : g < w2.heap.size := Nat.lt_of_lt_of_le hg HB2.out.size
          clear hsc2 hown2 hcc3 hb2 hcv2 HCV HB hl2 HT2 hlt' hbig'
          have hkk0 : ¬ (¬ (k : Int) = (k : Int)) := by simp
          go_wp2
          go_loopw [11] (fun i wr => ∃ j : Nat, j ≤ k ∧ i = .int .i64 (j : Int) ∧ Hid (Below w2.heap.size w2 wr)) (fun i _ => k - (intOf i).toNat)
          case atStart => exact ⟨0, by omega, rfl, Below.refl _ _⟩
          case round =>
            obtain ⟨j, hj, rfl, HBj⟩ := hrel
            by_cases hlt : j < k
            · have hlt' : (j : Int) < (k : Int) := by omega
              obtain ⟨t, ht⟩ : ∃ t, T[j]? = some t := ⟨_, List.getElem?_eq_getElem (by rw [HNT.out]; exact hlt)⟩
              obtain ⟨u, hu, u1, u2, u3⟩ := sig_at HSG.out j t ht
              have n1 := HNU.out t (List.mem_of_getElem? ht)
              obtain ⟨p0, p1, p2, p3⟩ := HCC.out j t ht
              obtain ⟨r0, r1, r2, r3⟩ := HCC3.out j u hu
              rw [u1] at r0
              rw [u2] at r2
              have hBx := HB2.out.trans (HBj.out.mono HB2.out.size)
              have hgw : g < wr.heap.size := Nat.lt_of_lt_of_le hg hBx.size
              have hgw3 : g3 < wr.heap.size := Nat.lt_of_lt_of_le hg3 HBj.out.size
              have q0 := (hBx.cell (p := ⟨g, j * 4, none⟩) hg).trans p0
              have q1 := (hBx.cell (p := ⟨g, j * 4 + 1, none⟩) hg).trans p1
              have q2 := (hBx.cell (p := ⟨g, j * 4 + 2, none⟩) hg).trans p2
              have q3 := (hBx.cell (p := ⟨g, j * 4 + 3, none⟩) hg).trans p3
              have s0 := (HBj.out.cell (p := ⟨g3, j * 4, none⟩) hg3).trans r0
              have s1 := (HBj.out.cell (p := ⟨g3, j * 4 + 1, none⟩) hg3).trans r1
              have s2 := (HBj.out.cell (p := ⟨g3, j * 4 + 2, none⟩) hg3).trans r2
              have s3 := (HBj.out.cell (p := ⟨g3, j * 4 + 3, none⟩) hg3).trans r3
              have hTX := fun X (hX : Tens X) => text10 t.k t.n t.tx t.p (by omega) (by omega) X hX
              have hUX := fun X (hX : Tens X) => text10 t.k t.n u.tx u.p (by omega) (by omega) X hX
              have e1 : txtR t.k t.n u.tx = txtR t.k t.n t.tx := by have := u3; unfold Tok.txt at this; rw [u1, u2] at this; exact this
              rw [e1] at hUX
              generalize t.k = x0 at q0 s0 hTX hUX e1
              generalize t.n = x2 at q2 s2 hTX hUX e1
              generalize txtR x0 x2 t.tx = tt at hTX hUX e1
              generalize bs t.tx = tx1 at q1 hTX
              generalize bs u.tx = tx2 at s1 hUX
              generalize (t.p : Int) = x3 at q3 hTX
              generalize (u.p : Int) = x4 at s3 hUX
              have hwk : IntKind.i64.wrap ((j : Int) + 1) = (j : Int) + 1 := by rw [IntKind.wrap_i64]; omega
              have k1 : ∀ X, Below wr.heap.size wr X → Calls Tryd.prog 10 #[.agg #[.int .i64 x0, .string tx1, .int .i64 x2, .int .i64 x3]] X fun e w' => e = .returned (.string (bs tt)) ∧ Below wr.heap.size wr w' :=
                fun X hX => (hTX X (HTB.out X (hBx.trans (hX.mono hBx.size)))).mono fun e w' ⟨he, hb⟩ => ⟨he, hX.trans (hb.mono hX.size)⟩
              have k2 : ∀ X, Below wr.heap.size wr X → Calls Tryd.prog 10 #[.agg #[.int .i64 x0, .string tx2, .int .i64 x2, .int .i64 x4]] X fun e w' => e = .returned (.string (bs tt)) ∧ Below wr.heap.size wr w' :=
                fun X hX => (hUX X (HTB.out X (hBx.trans (hX.mono hBx.size)))).mono fun e w' ⟨he, hb⟩ => ⟨he, hX.trans (hb.mono hX.size)⟩
              generalize bs tt = ts at k1 k2
              clear hTX hUX p0 p1 p2 p3 r0 r1 r2 r3 hBx ht hu u1 u2 u3 n1 e1
              go_upto_region 18 with (fail)
              have hB : Below wr.heap.size wr wr.drew := Below.drew (Below.refl _ _)
              refine wp_region_held_drew (S := (fun X => Below wr.heap.size wr X)) (by kernel_rfl) (hB) (fun hHeld => ?_)
              refine wpAnyH_take (i := 0) (oi := { dst := some 68, op := Go.Op.move (Go.Operand.tmp 3), type := 24, pos := "law.go:66", after := #[], guard := none }) (v := ?_) rfl (by kernel_rfl) (by kernel_rfl) (by kernel_rfl) (fun _ _ _ h => h) (Or.inl ⟨by rfl, ?_⟩) hHeld ?_
              rotate_left
              · intro w hSw; (try dsimp only at hSw); go_simp <;> with_reducible rfl
              try simp only [Act.put, List.setIfInBounds_toArray, List.set_cons_zero, List.set_cons_succ]
              refine wpAnyH_take (i := 1) (oi := { dst := some 69, op := Go.Op.move (Go.Operand.tmp 11), type := 3, pos := "law.go:66", after := #[], guard := none }) (v := ?_) rfl (by kernel_rfl) (by kernel_rfl) (by kernel_rfl) (fun _ _ _ h => h) (Or.inl ⟨by rfl, ?_⟩) hHeld ?_
              rotate_left
              · intro w hSw; (try dsimp only at hSw); go_simp <;> with_reducible rfl
              try simp only [Act.put, List.setIfInBounds_toArray, List.set_cons_zero, List.set_cons_succ]
              refine wpAnyH_take (i := 2) (oi := { dst := some 70, op := Go.Op.indexAddr 24 (Go.Operand.tmp 68) (Go.Operand.tmp 69), type := 0, pos := "law.go:66", after := #[{ on := 0, ground := Go.Ground.data }, { on := 1, ground := Go.Ground.data }], guard := none }) (v := ?_) rfl (by kernel_rfl) (by kernel_rfl) (by kernel_rfl) (fun _ _ _ h => h) (Or.inl ⟨by rfl, ?_⟩) hHeld ?_
              rotate_left
              · intro w hSw; (try dsimp only at hSw); go_simp <;> with_reducible rfl
              try simp only [Act.put, List.setIfInBounds_toArray, List.set_cons_zero, List.set_cons_succ]
              refine wpAnyH_take (i := 3) (oi := { dst := some 71, op := Go.Op.fieldAddr 23 (Go.Operand.tmp 70) 0, type := 0, pos := "law.go:66", after := #[{ on := 2, ground := Go.Ground.data }], guard := none }) (v := ?_) rfl (by kernel_rfl) (by kernel_rfl) (by kernel_rfl) (fun _ _ _ h => h) (Or.inl ⟨by rfl, ?_⟩) hHeld ?_
              rotate_left
              · intro w hSw; (try dsimp only at hSw); go_simp <;> with_reducible rfl
              try simp only [Act.put, List.setIfInBounds_toArray, List.set_cons_zero, List.set_cons_succ]
              refine wpAnyH_take (i := 4) (oi := { dst := some 72, op := Go.Op.load 3 (Go.Operand.tmp 71), type := 3, pos := "law.go:66", after := #[{ on := 3, ground := Go.Ground.data }], guard := none }) (v := ?_) rfl (by kernel_rfl) (by kernel_rfl) (by kernel_rfl) (fun _ _ _ h => h) (Or.inl ⟨by rfl, ?_⟩) hHeld ?_
              rotate_left
              · intro w hSw; have y0 := (hSw.cell (p := ⟨g, j * 4, none⟩) hgw).trans q0; clear hSw; go_simp <;> with_reducible rfl
              try simp only [Act.put, List.setIfInBounds_toArray, List.set_cons_zero, List.set_cons_succ]
              refine wpAnyH_take (i := 5) (oi := { dst := some 73, op := Go.Op.move (Go.Operand.tmp 8), type := 24, pos := "law.go:66", after := #[], guard := none }) (v := ?_) rfl (by kernel_rfl) (by kernel_rfl) (by kernel_rfl) (fun _ _ _ h => h) (Or.inl ⟨by rfl, ?_⟩) hHeld ?_
              rotate_left
              · intro w hSw; (try dsimp only at hSw); go_simp <;> with_reducible rfl
              try simp only [Act.put, List.setIfInBounds_toArray, List.set_cons_zero, List.set_cons_succ]
              refine wpAnyH_take (i := 6) (oi := { dst := some 74, op := Go.Op.move (Go.Operand.tmp 11), type := 3, pos := "law.go:66", after := #[], guard := none }) (v := ?_) rfl (by kernel_rfl) (by kernel_rfl) (by kernel_rfl) (fun _ _ _ h => h) (Or.inl ⟨by rfl, ?_⟩) hHeld ?_
              rotate_left
              · intro w hSw; (try dsimp only at hSw); go_simp <;> with_reducible rfl
              try simp only [Act.put, List.setIfInBounds_toArray, List.set_cons_zero, List.set_cons_succ]
              refine wpAnyH_take (i := 7) (oi := { dst := some 75, op := Go.Op.indexAddr 24 (Go.Operand.tmp 73) (Go.Operand.tmp 74), type := 0, pos := "law.go:66", after := #[{ on := 5, ground := Go.Ground.data }, { on := 6, ground := Go.Ground.data }], guard := none }) (v := ?_) rfl (by kernel_rfl) (by kernel_rfl) (by kernel_rfl) (fun _ _ _ h => h) (Or.inl ⟨by rfl, ?_⟩) hHeld ?_
              rotate_left
              · intro w hSw; (try dsimp only at hSw); go_simp <;> with_reducible rfl
              try simp only [Act.put, List.setIfInBounds_toArray, List.set_cons_zero, List.set_cons_succ]
              refine wpAnyH_take (i := 8) (oi := { dst := some 76, op := Go.Op.fieldAddr 23 (Go.Operand.tmp 75) 0, type := 0, pos := "law.go:66", after := #[{ on := 7, ground := Go.Ground.data }], guard := none }) (v := ?_) rfl (by kernel_rfl) (by kernel_rfl) (by kernel_rfl) (fun _ _ _ h => h) (Or.inl ⟨by rfl, ?_⟩) hHeld ?_
              rotate_left
              · intro w hSw; (try dsimp only at hSw); go_simp <;> with_reducible rfl
              try simp only [Act.put, List.setIfInBounds_toArray, List.set_cons_zero, List.set_cons_succ]
              refine wpAnyH_take (i := 9) (oi := { dst := some 77, op := Go.Op.load 3 (Go.Operand.tmp 76), type := 3, pos := "law.go:66", after := #[{ on := 8, ground := Go.Ground.data }], guard := none }) (v := ?_) rfl (by kernel_rfl) (by kernel_rfl) (by kernel_rfl) (fun _ _ _ h => h) (Or.inl ⟨by rfl, ?_⟩) hHeld ?_
              rotate_left
              · intro w hSw; have y0 := (hSw.cell (p := ⟨g3, j * 4, none⟩) hgw3).trans s0; clear hSw; go_simp <;> with_reducible rfl
              try simp only [Act.put, List.setIfInBounds_toArray, List.set_cons_zero, List.set_cons_succ]
              refine wpAnyH_take (i := 10) (oi := { dst := some 78, op := Go.Op.binOp Go.BinOp.neq 3 (Go.Operand.tmp 72) (Go.Operand.tmp 77) 3, type := 4, pos := "law.go:66", after := #[{ on := 4, ground := Go.Ground.data }, { on := 9, ground := Go.Ground.data }], guard := none }) (v := .bool false) rfl (by kernel_rfl) (by kernel_rfl) (by kernel_rfl) (fun _ _ _ h => h) (Or.inl ⟨by rfl, ?_⟩) hHeld ?_
              skip
              · intro w hSw; (try dsimp only at hSw); go_simp <;> with_reducible rfl
              try simp only [Act.put, List.setIfInBounds_toArray, List.set_cons_zero, List.set_cons_succ]
              refine wpAnyH_take (i := 11) (oi := { dst := some 79, op := Go.Op.move (Go.Operand.tmp 78), type := 4, pos := "law.go:66", after := #[{ on := 10, ground := Go.Ground.data }], guard := none }) (v := .bool false) rfl (by kernel_rfl) (by kernel_rfl) (by kernel_rfl) (fun _ _ _ h => h) (Or.inl ⟨by rfl, ?_⟩) hHeld ?_
              skip
              · intro w hSw; (try dsimp only at hSw); go_simp <;> with_reducible rfl
              try simp only [Act.put, List.setIfInBounds_toArray, List.set_cons_zero, List.set_cons_succ]
              refine wpAnyH_take (i := 12) (oi := { dst := some 80, op := Go.Op.move (Go.Operand.tmp 3), type := 24, pos := "law.go:66", after := #[{ on := 11, ground := Go.Ground.guard }], guard := some (11, false) }) (v := ?_) rfl (by kernel_rfl) (by kernel_rfl) (by kernel_rfl) (fun _ _ _ h => h) (Or.inl ⟨by rfl, ?_⟩) hHeld ?_
              rotate_left
              · intro w hSw; (try dsimp only at hSw); go_simp <;> with_reducible rfl
              try simp only [Act.put, List.setIfInBounds_toArray, List.set_cons_zero, List.set_cons_succ]
              refine wpAnyH_take (i := 13) (oi := { dst := some 81, op := Go.Op.move (Go.Operand.tmp 11), type := 3, pos := "law.go:66", after := #[{ on := 11, ground := Go.Ground.guard }], guard := some (11, false) }) (v := ?_) rfl (by kernel_rfl) (by kernel_rfl) (by kernel_rfl) (fun _ _ _ h => h) (Or.inl ⟨by rfl, ?_⟩) hHeld ?_
              rotate_left
              · intro w hSw; (try dsimp only at hSw); go_simp <;> with_reducible rfl
              try simp only [Act.put, List.setIfInBounds_toArray, List.set_cons_zero, List.set_cons_succ]
              refine wpAnyH_take (i := 14) (oi := { dst := some 82, op := Go.Op.indexAddr 24 (Go.Operand.tmp 80) (Go.Operand.tmp 81), type := 0, pos := "law.go:66", after := #[{ on := 12, ground := Go.Ground.data }, { on := 13, ground := Go.Ground.data }, { on := 11, ground := Go.Ground.guard }], guard := some (11, false) }) (v := ?_) rfl (by kernel_rfl) (by kernel_rfl) (by kernel_rfl) (fun _ _ _ h => h) (Or.inl ⟨by rfl, ?_⟩) hHeld ?_
              rotate_left
              · intro w hSw; (try dsimp only at hSw); go_simp <;> with_reducible rfl
              try simp only [Act.put, List.setIfInBounds_toArray, List.set_cons_zero, List.set_cons_succ]
              refine wpAnyH_take (i := 15) (oi := { dst := some 83, op := Go.Op.fieldAddr 23 (Go.Operand.tmp 82) 2, type := 0, pos := "law.go:66", after := #[{ on := 14, ground := Go.Ground.data }, { on := 11, ground := Go.Ground.guard }], guard := some (11, false) }) (v := ?_) rfl (by kernel_rfl) (by kernel_rfl) (by kernel_rfl) (fun _ _ _ h => h) (Or.inl ⟨by rfl, ?_⟩) hHeld ?_
              rotate_left
              · intro w hSw; (try dsimp only at hSw); go_simp <;> with_reducible rfl
              try simp only [Act.put, List.setIfInBounds_toArray, List.set_cons_zero, List.set_cons_succ]
              refine wpAnyH_take (i := 16) (oi := { dst := some 84, op := Go.Op.load 2 (Go.Operand.tmp 83), type := 2, pos := "law.go:66", after := #[{ on := 15, ground := Go.Ground.data }, { on := 11, ground := Go.Ground.guard }], guard := some (11, false) }) (v := ?_) rfl (by kernel_rfl) (by kernel_rfl) (by kernel_rfl) (fun _ _ _ h => h) (Or.inl ⟨by rfl, ?_⟩) hHeld ?_
              rotate_left
              · intro w hSw; have y2 := (hSw.cell (p := ⟨g, j * 4 + 2, none⟩) hgw).trans q2; clear hSw; go_simp <;> with_reducible rfl
              try simp only [Act.put, List.setIfInBounds_toArray, List.set_cons_zero, List.set_cons_succ]
              refine wpAnyH_take (i := 17) (oi := { dst := some 85, op := Go.Op.move (Go.Operand.tmp 8), type := 24, pos := "law.go:66", after := #[{ on := 11, ground := Go.Ground.guard }], guard := some (11, false) }) (v := ?_) rfl (by kernel_rfl) (by kernel_rfl) (by kernel_rfl) (fun _ _ _ h => h) (Or.inl ⟨by rfl, ?_⟩) hHeld ?_
              rotate_left
              · intro w hSw; (try dsimp only at hSw); go_simp <;> with_reducible rfl
              try simp only [Act.put, List.setIfInBounds_toArray, List.set_cons_zero, List.set_cons_succ]
              refine wpAnyH_take (i := 18) (oi := { dst := some 86, op := Go.Op.move (Go.Operand.tmp 11), type := 3, pos := "law.go:66", after := #[{ on := 11, ground := Go.Ground.guard }], guard := some (11, false) }) (v := ?_) rfl (by kernel_rfl) (by kernel_rfl) (by kernel_rfl) (fun _ _ _ h => h) (Or.inl ⟨by rfl, ?_⟩) hHeld ?_
              rotate_left
              · intro w hSw; (try dsimp only at hSw); go_simp <;> with_reducible rfl
              try simp only [Act.put, List.setIfInBounds_toArray, List.set_cons_zero, List.set_cons_succ]
              refine wpAnyH_take (i := 19) (oi := { dst := some 87, op := Go.Op.indexAddr 24 (Go.Operand.tmp 85) (Go.Operand.tmp 86), type := 0, pos := "law.go:66", after := #[{ on := 17, ground := Go.Ground.data }, { on := 18, ground := Go.Ground.data }, { on := 11, ground := Go.Ground.guard }], guard := some (11, false) }) (v := ?_) rfl (by kernel_rfl) (by kernel_rfl) (by kernel_rfl) (fun _ _ _ h => h) (Or.inl ⟨by rfl, ?_⟩) hHeld ?_
              rotate_left
              · intro w hSw; (try dsimp only at hSw); go_simp <;> with_reducible rfl
              try simp only [Act.put, List.setIfInBounds_toArray, List.set_cons_zero, List.set_cons_succ]
              refine wpAnyH_take (i := 20) (oi := { dst := some 88, op := Go.Op.fieldAddr 23 (Go.Operand.tmp 87) 2, type := 0, pos := "law.go:66", after := #[{ on := 19, ground := Go.Ground.data }, { on := 11, ground := Go.Ground.guard }], guard := some (11, false) }) (v := ?_) rfl (by kernel_rfl) (by kernel_rfl) (by kernel_rfl) (fun _ _ _ h => h) (Or.inl ⟨by rfl, ?_⟩) hHeld ?_
              rotate_left
              · intro w hSw; (try dsimp only at hSw); go_simp <;> with_reducible rfl
              try simp only [Act.put, List.setIfInBounds_toArray, List.set_cons_zero, List.set_cons_succ]
              refine wpAnyH_take (i := 21) (oi := { dst := some 89, op := Go.Op.load 2 (Go.Operand.tmp 88), type := 2, pos := "law.go:66", after := #[{ on := 20, ground := Go.Ground.data }, { on := 11, ground := Go.Ground.guard }], guard := some (11, false) }) (v := ?_) rfl (by kernel_rfl) (by kernel_rfl) (by kernel_rfl) (fun _ _ _ h => h) (Or.inl ⟨by rfl, ?_⟩) hHeld ?_
              rotate_left
              · intro w hSw; have y2 := (hSw.cell (p := ⟨g3, j * 4 + 2, none⟩) hgw3).trans s2; clear hSw; go_simp <;> with_reducible rfl
              try simp only [Act.put, List.setIfInBounds_toArray, List.set_cons_zero, List.set_cons_succ]
              refine wpAnyH_take (i := 22) (oi := { dst := some 90, op := Go.Op.binOp Go.BinOp.neq 2 (Go.Operand.tmp 84) (Go.Operand.tmp 89) 2, type := 4, pos := "law.go:66", after := #[{ on := 16, ground := Go.Ground.data }, { on := 21, ground := Go.Ground.data }, { on := 11, ground := Go.Ground.guard }], guard := some (11, false) }) (v := .bool false) rfl (by kernel_rfl) (by kernel_rfl) (by kernel_rfl) (fun _ _ _ h => h) (Or.inl ⟨by rfl, ?_⟩) hHeld ?_
              skip
              · intro w hSw; (try dsimp only at hSw); go_simp <;> with_reducible rfl
              try simp only [Act.put, List.setIfInBounds_toArray, List.set_cons_zero, List.set_cons_succ]
              refine wpAnyH_take (i := 23) (oi := { dst := some 91, op := Go.Op.pick (Go.Operand.tmp 79) (Go.Operand.const (Go.Value.bool true)) (Go.Operand.tmp 90), type := 4, pos := "law.go:66", after := #[{ on := 11, ground := Go.Ground.data }, { on := 22, ground := Go.Ground.data }], guard := none }) (v := .bool false) rfl (by kernel_rfl) (by kernel_rfl) (by kernel_rfl) (fun _ _ _ h => h) (Or.inl ⟨by rfl, ?_⟩) hHeld ?_
              skip
              · intro w hSw; (try dsimp only at hSw); go_simp <;> with_reducible rfl
              try simp only [Act.put, List.setIfInBounds_toArray, List.set_cons_zero, List.set_cons_succ]
              refine wpAnyH_take (i := 24) (oi := { dst := some 92, op := Go.Op.move (Go.Operand.tmp 91), type := 4, pos := "law.go:66", after := #[{ on := 23, ground := Go.Ground.data }, { on := 11, ground := Go.Ground.chain }], guard := none }) (v := .bool false) rfl (by kernel_rfl) (by kernel_rfl) (by kernel_rfl) (fun _ _ _ h => h) (Or.inl ⟨by rfl, ?_⟩) hHeld ?_
              skip
              · intro w hSw; (try dsimp only at hSw); go_simp <;> with_reducible rfl
              try simp only [Act.put, List.setIfInBounds_toArray, List.set_cons_zero, List.set_cons_succ]
              refine wpAnyH_take (i := 25) (oi := { dst := some 93, op := Go.Op.move (Go.Operand.tmp 3), type := 24, pos := "law.go:66", after := #[{ on := 24, ground := Go.Ground.guard }], guard := some (24, false) }) (v := ?_) rfl (by kernel_rfl) (by kernel_rfl) (by kernel_rfl) (fun _ _ _ h => h) (Or.inl ⟨by rfl, ?_⟩) hHeld ?_
              rotate_left
              · intro w hSw; (try dsimp only at hSw); go_simp <;> with_reducible rfl
              try simp only [Act.put, List.setIfInBounds_toArray, List.set_cons_zero, List.set_cons_succ]
              refine wpAnyH_take (i := 26) (oi := { dst := some 94, op := Go.Op.move (Go.Operand.tmp 11), type := 3, pos := "law.go:66", after := #[{ on := 24, ground := Go.Ground.guard }], guard := some (24, false) }) (v := ?_) rfl (by kernel_rfl) (by kernel_rfl) (by kernel_rfl) (fun _ _ _ h => h) (Or.inl ⟨by rfl, ?_⟩) hHeld ?_
              rotate_left
              · intro w hSw; (try dsimp only at hSw); go_simp <;> with_reducible rfl
              try simp only [Act.put, List.setIfInBounds_toArray, List.set_cons_zero, List.set_cons_succ]
              refine wpAnyH_take (i := 27) (oi := { dst := some 95, op := Go.Op.indexAddr 24 (Go.Operand.tmp 93) (Go.Operand.tmp 94), type := 0, pos := "law.go:66", after := #[{ on := 25, ground := Go.Ground.data }, { on := 26, ground := Go.Ground.data }, { on := 24, ground := Go.Ground.guard }], guard := some (24, false) }) (v := ?_) rfl (by kernel_rfl) (by kernel_rfl) (by kernel_rfl) (fun _ _ _ h => h) (Or.inl ⟨by rfl, ?_⟩) hHeld ?_
              rotate_left
              · intro w hSw; (try dsimp only at hSw); go_simp <;> with_reducible rfl
              try simp only [Act.put, List.setIfInBounds_toArray, List.set_cons_zero, List.set_cons_succ]
              refine wpAnyH_take (i := 28) (oi := { dst := some 96, op := Go.Op.load 23 (Go.Operand.tmp 95), type := 23, pos := "law.go:66", after := #[{ on := 27, ground := Go.Ground.data }, { on := 24, ground := Go.Ground.guard }], guard := some (24, false) }) (v := ?_) rfl (by kernel_rfl) (by kernel_rfl) (by kernel_rfl) (fun _ _ _ h => h) (Or.inl ⟨by rfl, ?_⟩) hHeld ?_
              rotate_left
              · intro w hSw; have y0 := (hSw.cell (p := ⟨g, j * 4, none⟩) hgw).trans q0; have y1 := (hSw.cell (p := ⟨g, j * 4 + 1, none⟩) hgw).trans q1; have y2 := (hSw.cell (p := ⟨g, j * 4 + 2, none⟩) hgw).trans q2; have y3 := (hSw.cell (p := ⟨g, j * 4 + 3, none⟩) hgw).trans q3; clear hSw; go_simp <;> with_reducible rfl
              try simp only [Act.put, List.setIfInBounds_toArray, List.set_cons_zero, List.set_cons_succ]
              refine wpAnyH_take (i := 30) (oi := { dst := some 98, op := Go.Op.move (Go.Operand.tmp 8), type := 24, pos := "law.go:66", after := #[{ on := 24, ground := Go.Ground.guard }], guard := some (24, false) }) (v := ?_) rfl (by kernel_rfl) (by kernel_rfl) (by kernel_rfl) (fun _ _ _ h => h) (Or.inl ⟨by rfl, ?_⟩) hHeld ?_
              rotate_left
              · intro w hSw; (try dsimp only at hSw); go_simp <;> with_reducible rfl
              try simp only [Act.put, List.setIfInBounds_toArray, List.set_cons_zero, List.set_cons_succ]
              refine wpAnyH_take (i := 31) (oi := { dst := some 99, op := Go.Op.move (Go.Operand.tmp 11), type := 3, pos := "law.go:66", after := #[{ on := 24, ground := Go.Ground.guard }], guard := some (24, false) }) (v := ?_) rfl (by kernel_rfl) (by kernel_rfl) (by kernel_rfl) (fun _ _ _ h => h) (Or.inl ⟨by rfl, ?_⟩) hHeld ?_
              rotate_left
              · intro w hSw; (try dsimp only at hSw); go_simp <;> with_reducible rfl
              try simp only [Act.put, List.setIfInBounds_toArray, List.set_cons_zero, List.set_cons_succ]
              refine wpAnyH_take (i := 32) (oi := { dst := some 100, op := Go.Op.indexAddr 24 (Go.Operand.tmp 98) (Go.Operand.tmp 99), type := 0, pos := "law.go:66", after := #[{ on := 30, ground := Go.Ground.data }, { on := 31, ground := Go.Ground.data }, { on := 24, ground := Go.Ground.guard }], guard := some (24, false) }) (v := ?_) rfl (by kernel_rfl) (by kernel_rfl) (by kernel_rfl) (fun _ _ _ h => h) (Or.inl ⟨by rfl, ?_⟩) hHeld ?_
              rotate_left
              · intro w hSw; (try dsimp only at hSw); go_simp <;> with_reducible rfl
              try simp only [Act.put, List.setIfInBounds_toArray, List.set_cons_zero, List.set_cons_succ]
              refine wpAnyH_take (i := 33) (oi := { dst := some 101, op := Go.Op.load 23 (Go.Operand.tmp 100), type := 23, pos := "law.go:66", after := #[{ on := 32, ground := Go.Ground.data }, { on := 24, ground := Go.Ground.guard }], guard := some (24, false) }) (v := ?_) rfl (by kernel_rfl) (by kernel_rfl) (by kernel_rfl) (fun _ _ _ h => h) (Or.inl ⟨by rfl, ?_⟩) hHeld ?_
              rotate_left
              · intro w hSw; have y0 := (hSw.cell (p := ⟨g3, j * 4, none⟩) hgw3).trans s0; have y1 := (hSw.cell (p := ⟨g3, j * 4 + 1, none⟩) hgw3).trans s1; have y2 := (hSw.cell (p := ⟨g3, j * 4 + 2, none⟩) hgw3).trans s2; have y3 := (hSw.cell (p := ⟨g3, j * 4 + 3, none⟩) hgw3).trans s3; clear hSw; go_simp <;> with_reducible rfl
              try simp only [Act.put, List.setIfInBounds_toArray, List.set_cons_zero, List.set_cons_succ]
              refine wpAnyH_ready (rs := [29]) (by kernel_rfl) (by simp) ?_
              refine AllReadyH.cons rfl (fun K hK => ?_) AllReadyH.nil
              go_simp
              refine (k1 _ hB).mono ?_
              rintro e w5 ⟨rfl, hb5⟩
              have hB := hb5
              clear hb5
              refine hK.out _ _ (hB) (fun hHeld2 => ?_)
              clear hK K hHeld
              have hHeld := hHeld2
              clear hHeld2
              try simp only [Act.put, List.setIfInBounds_toArray, List.set_cons_zero, List.set_cons_succ]
              refine wpAnyH_ready (rs := [34]) (by kernel_rfl) (by simp) ?_
              refine AllReadyH.cons rfl (fun K hK => ?_) AllReadyH.nil
              go_simp
              refine (k2 _ hB).mono ?_
              rintro e w6 ⟨rfl, hb6⟩
              have hB := hb6
              clear hb6
              refine hK.out _ _ (hB) (fun hHeld2 => ?_)
              clear hK K hHeld
              have hHeld := hHeld2
              clear hHeld2
              try simp only [Act.put, List.setIfInBounds_toArray, List.set_cons_zero, List.set_cons_succ]
              refine wpAnyH_take (i := 35) (oi := { dst := some 103, op := Go.Op.binOp Go.BinOp.neq 9 (Go.Operand.tmp 97) (Go.Operand.tmp 102) 9, type := 4, pos := "law.go:66", after := #[{ on := 29, ground := Go.Ground.data }, { on := 34, ground := Go.Ground.data }, { on := 24, ground := Go.Ground.guard }], guard := some (24, false) }) (v := .bool false) rfl (by kernel_rfl) (by kernel_rfl) (by kernel_rfl) (fun _ _ _ h => h) (Or.inl ⟨by rfl, ?_⟩) hHeld ?_
              skip
              · intro w hSw; (try dsimp only at hSw); go_simp <;> with_reducible rfl
              try simp only [Act.put, List.setIfInBounds_toArray, List.set_cons_zero, List.set_cons_succ]
              refine wpAnyH_take (i := 36) (oi := { dst := some 104, op := Go.Op.pick (Go.Operand.tmp 92) (Go.Operand.const (Go.Value.bool true)) (Go.Operand.tmp 103), type := 4, pos := "law.go:66", after := #[{ on := 24, ground := Go.Ground.data }, { on := 35, ground := Go.Ground.data }], guard := none }) (v := .bool false) rfl (by kernel_rfl) (by kernel_rfl) (by kernel_rfl) (fun _ _ _ h => h) (Or.inl ⟨by rfl, ?_⟩) hHeld ?_
              skip
              · intro w hSw; (try dsimp only at hSw); go_simp <;> with_reducible rfl
              try simp only [Act.put, List.setIfInBounds_toArray, List.set_cons_zero, List.set_cons_succ]
              refine wpAnyH_done (by kernel_rfl) ?_ _
              go_wp2
              go_roundw
              case rel => exact ⟨j + 1, by omega, by go_num, HBj.out.trans (hB.mono HBj.out.size)⟩
              case measure => simp [intOf]; omega
            · have hlt' : ¬ (j : Int) < (k : Int) := by omega
              go_wp2_with fail
              refine (HKN.out wr (HEB.out wr (HB2.out.trans (HBj.out.mono HB2.out.size)))).mono ?_
              rintro e w3 ⟨rfl, hb3⟩
              go_wp2
              go_ret
              exact ⟨rfl, HBW.out.trans ((HB2.out.trans ((HBj.out.trans (hb3.mono HBj.out.size)).mono HB2.out.size)).mono HBW.out.size)⟩
  · rw [her hx] at hsc
    have hxn : (x != 0) = true := by simpa using hx
    have hxb : (x == 0) = false := by simpa using hx
    simp only at hsc
    clear hal her hso htl hnu hjn
    go_enter Tryd.func4, Tryd.ntmps4
    go_wp2_with fail
    refine hsc.mono ?_
    rintro e w1 ⟨v, rfl, hown, hb1⟩
    obtain ⟨a0, cap, rfl, _⟩ := (own_tr hown).h
    rw [List.length_nil]
    have hE1 := HE.out.self hb1
    have HB1 : Hid _ := hb1
    clear hsc hown hb1
    go_wp2_with fail
    refine (HKN.out w1 hE1).mono ?_
    rintro e w2 ⟨rfl, hb2⟩
    go_wp2
    go_ret
    exact ⟨rfl, HB1.out.trans (hb2.mono HB1.out.size)⟩
end Go.Proofs.YtokcbiafajpmoaaDoor
