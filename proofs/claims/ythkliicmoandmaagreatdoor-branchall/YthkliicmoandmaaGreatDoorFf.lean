/-
  What is proved here: the walk of BranchAll.
-/
import Derived.Test.YthkliicmoandmaaGreatDoorFe
import Derived.Test.YthkliicmoandmaaGreatDoorBjj
import Derived.Deep.MidRow
namespace Go.Proofs.YthkliicmoandmaaGreatDoor
open Go.RowKit Go.Shelf
set_option linter.unusedVariables false
set_option linter.unusedSimpArgs false

/-- Truth values in memory. -/
def Bls (w : World) (s : Value) (l : List Bool) : Prop :=
  ∃ a c, s = .slice a l.length c ∧ (0 < l.length → ∃ b off, a = some ⟨b, off, none⟩ ∧ b < w.heap.size ∧ ∀ i x, l[i]? = some x → w.cell? ⟨b, off + i, none⟩ = some (.bool x))
theorem Dw.setc {X : Nat → Prop} {w w' : World} {rv : Value} {l : List Int} {g : Nat} (h : Dw X w rv l) (hk : Kept (fun b => b = g) w w') (hX : X g) (hn : ¬ DrB rv g) : Dw X w' rv l := by
  rcases h with h | ⟨p, rfl, h⟩
  · exact .inl h
  · exact .inr ⟨p, rfl, h.kept hk (fun e => hn (by rw [e]; rfl)) hX⟩
/-- A domain is written into the middle of a row. -/
theorem stM {ops : Array Oper} {rest : List Oper} {o : Oper} {a : Act} {w : World} {Q : Exit → Act → World → Prop} (hgd : o.guard = none) (x y : Operand) (ho : o.op = .store 50 x y)
    (g off : Nat) (c : List Value) (hx : a.eval x = .pointer (some ⟨g, off, none⟩)) (hy : a.eval y = .agg c.toArray) (ht : w.there g off 6) (hc : c.length = 6) (h1 : ∀ v ∈ c, v.oneCell' = true)
    (h : wpList Tryz.prog ops Q rest (a.put o.dst undef) (w.setCells g off c)) : wpList Tryz.prog ops Q (o :: rest) a w :=
  wpList_store_mid hgd 50 x y ho g off c.toArray hx hy (by simpa [hc] using ht) (by rw [Tryz.sizeDom]; simp [hc]) (all_oneCell_toArray h1) (by simpa using h)

abbrev q7_18_0 : Oper := { dst := some 103, op := Go.Op.move (Go.Operand.tmp 10), type := 23, pos := "law.go:163", after := #[], guard := none }
abbrev q7_18_1 : Oper := { dst := some 104, op := Go.Op.fieldAddr 32 (Go.Operand.tmp 14) 0, type := 0, pos := "law.go:163", after := #[], guard := none }
abbrev q7_18_2 : Oper := { dst := some 105, op := Go.Op.load 3 (Go.Operand.tmp 104), type := 3, pos := "law.go:163", after := #[{ on := 1, ground := Go.Ground.data }], guard := none }
abbrev q7_18_3 : Oper := { dst := some 106, op := Go.Op.indexAddr 23 (Go.Operand.tmp 103) (Go.Operand.tmp 105), type := 0, pos := "law.go:163", after := #[{ on := 0, ground := Go.Ground.data }, { on := 2, ground := Go.Ground.data }], guard := none }
abbrev q7_18_4 : Oper := { dst := some 107, op := Go.Op.load 50 (Go.Operand.tmp 106), type := 50, pos := "law.go:163", after := #[{ on := 3, ground := Go.Ground.data }], guard := none }
abbrev q7_18_5 : Oper := { dst := some 108, op := Go.Op.load 32 (Go.Operand.tmp 14), type := 32, pos := "law.go:163", after := #[], guard := none }
abbrev q7_18_7 : Oper := { dst := some 102, op := Go.Op.move (Go.Operand.tmp 109), type := 56, pos := "law.go:163", after := #[{ on := 6, ground := Go.Ground.data }], guard := none }
abbrev q7_18_8 : Oper := { dst := some 110, op := Go.Op.extract (Go.Operand.tmp 102) 0, type := 50, pos := "law.go:163", after := #[{ on := 7, ground := Go.Ground.data }], guard := none }
abbrev q7_18_9 : Oper := { dst := some 111, op := Go.Op.extract (Go.Operand.tmp 102) 1, type := 55, pos := "law.go:163", after := #[{ on := 7, ground := Go.Ground.data }, { on := 11, ground := Go.Ground.gcOnly Go.Departure.lateStores }], guard := none }
abbrev q7_18_12 : Oper := { dst := some 17, op := Go.Op.assign (Go.Operand.tmp 111), type := 55, pos := "law.go:163", after := #[{ on := 9, ground := Go.Ground.data }, { on := 11, ground := Go.Ground.chain }, { on := 0, ground := Go.Ground.phase }, { on := 1, ground := Go.Ground.phase }, { on := 2, ground := Go.Ground.phase }, { on := 3, ground := Go.Ground.phase }, { on := 4, ground := Go.Ground.phase }, { on := 5, ground := Go.Ground.phase }, { on := 6, ground := Go.Ground.phase }, { on := 7, ground := Go.Ground.phase }, { on := 8, ground := Go.Ground.phase }, { on := 9, ground := Go.Ground.phase }, { on := 10, ground := Go.Ground.phase }, { on := 11, ground := Go.Ground.phase }], guard := none }
abbrev q7_19_0 : Oper := { dst := some 112, op := Go.Op.move (Go.Operand.tmp 17), type := 55, pos := "law.go:164", after := #[], guard := none }
abbrev q7_19_1 : Oper := { dst := some 113, op := Go.Op.binOp Go.BinOp.neq 55 (Go.Operand.tmp 112) (Go.Operand.const (Go.Value.int Go.IntKind.i64 0)) 55, type := 4, pos := "law.go:164", after := #[{ on := 0, ground := Go.Ground.data }], guard := none }
abbrev q7_19_2 : Oper := { dst := some 114, op := Go.Op.move (Go.Operand.tmp 113), type := 4, pos := "law.go:164", after := #[{ on := 1, ground := Go.Ground.data }], guard := none }
abbrev q7_19_3 : Oper := { dst := some 115, op := Go.Op.load 50 (Go.Operand.tmp 16), type := 50, pos := "law.go:164", after := #[{ on := 2, ground := Go.Ground.guard }], guard := some (2, false) }
abbrev q7_19_5 : Oper := { dst := some 117, op := Go.Op.pick (Go.Operand.tmp 114) (Go.Operand.const (Go.Value.bool true)) (Go.Operand.tmp 116), type := 4, pos := "law.go:164", after := #[{ on := 2, ground := Go.Ground.data }, { on := 4, ground := Go.Ground.data }], guard := none }
abbrev q7_19_6 : Oper := { dst := some 118, op := Go.Op.move (Go.Operand.tmp 117), type := 4, pos := "law.go:164", after := #[{ on := 5, ground := Go.Ground.data }, { on := 4, ground := Go.Ground.chain }], guard := none }
abbrev q7_19_7 : Oper := { dst := some 119, op := Go.Op.load 50 (Go.Operand.tmp 16), type := 50, pos := "law.go:164", after := #[{ on := 6, ground := Go.Ground.guard }], guard := some (6, false) }
abbrev q7_19_8 : Oper := { dst := some 120, op := Go.Op.move (Go.Operand.tmp 10), type := 23, pos := "law.go:164", after := #[{ on := 6, ground := Go.Ground.guard }], guard := some (6, false) }
abbrev q7_19_9 : Oper := { dst := some 121, op := Go.Op.fieldAddr 32 (Go.Operand.tmp 14) 0, type := 0, pos := "law.go:164", after := #[{ on := 6, ground := Go.Ground.guard }], guard := some (6, false) }
abbrev q7_19_10 : Oper := { dst := some 122, op := Go.Op.load 3 (Go.Operand.tmp 121), type := 3, pos := "law.go:164", after := #[{ on := 9, ground := Go.Ground.data }, { on := 6, ground := Go.Ground.guard }], guard := some (6, false) }
abbrev q7_19_11 : Oper := { dst := some 123, op := Go.Op.indexAddr 23 (Go.Operand.tmp 120) (Go.Operand.tmp 122), type := 0, pos := "law.go:164", after := #[{ on := 8, ground := Go.Ground.data }, { on := 10, ground := Go.Ground.data }, { on := 6, ground := Go.Ground.guard }], guard := some (6, false) }
abbrev q7_19_12 : Oper := { dst := some 124, op := Go.Op.load 50 (Go.Operand.tmp 123), type := 50, pos := "law.go:164", after := #[{ on := 11, ground := Go.Ground.data }, { on := 6, ground := Go.Ground.guard }], guard := some (6, false) }
abbrev q7_19_14 : Oper := { dst := some 126, op := Go.Op.unOp Go.UnOp.not 4 (Go.Operand.tmp 125), type := 4, pos := "law.go:164", after := #[{ on := 13, ground := Go.Ground.data }, { on := 6, ground := Go.Ground.guard }], guard := some (6, false) }
abbrev q7_19_15 : Oper := { dst := some 127, op := Go.Op.pick (Go.Operand.tmp 118) (Go.Operand.const (Go.Value.bool true)) (Go.Operand.tmp 126), type := 4, pos := "law.go:164", after := #[{ on := 6, ground := Go.Ground.data }, { on := 14, ground := Go.Ground.data }], guard := none }
set_option maxRecDepth 100000 in
set_option maxHeartbeats 16000000 in
theorem all_walk {W : World} {p1 : Option Addr} {n k1 : Nat} {p2 : Option Addr} {nd k2 : Nat} {p4 : Option Addr} {ns k4 : Nat} {p3 : Option Addr} {nr k3 : Nat} {L : List Ph} {D : List MD} {R : List Int} {B : List Bool} (hP : Ps W (.slice p1 n k1) L) (hd : Ds W (.slice p2 nd k2) D) (hS : Bls W (.slice p4 ns k4) B) (hR : Ns W (.slice p3 nr k3) R) (hD : ∀ d ∈ D, Good d) (hzd : ∀ d ∈ D, SzD d) (hz : SzP L D) (hl : D.length * 96 ≤ 140737488351232) (hR8 : R.length * 8 ≤ 140737488355328) :
    Calls Tryz.prog 7 #[.slice p1 n k1, .slice p2 nd k2, .slice p4 ns k4, .slice p3 nr k3] W fun e w' => e = .returned (.bool true) ∧ Below W.heap.size W w' := by
  obtain ⟨N, hN⟩ : ∃ N, W.heap.size = N := ⟨_, rfl⟩
  have hnD : D.length = nd := by obtain ⟨a, c, e, _⟩ := hd; injection e with _ e2 _; exact e2.symm
  have hnB : B.length = ns := by obtain ⟨a, c, e, _⟩ := hS; injection e with _ e2 _; exact e2.symm
  have kn := new_any hR hR8
  have HP : Hid (Ps W (.slice p1 n k1) L) := hP
  have HD : Hid (Ds W (.slice p2 nd k2) D) := hd
  have HS : Hid (Bls W (.slice p4 ns k4) B) := hS
  have HG : Hid (∀ d ∈ D, Good d) := hD
  have HZD : Hid (∀ d ∈ D, SzD d) := hzd
  have HZ : Hid (SzP L D) := hz
  have HL : Hid (D.length * 96 ≤ 140737488351232) := hl
  have HND : Hid (D.length = nd) := hnD
  have HNB : Hid (B.length = ns) := hnB
  have HN : Hid (W.heap.size = N) := hN
  have hndlt : nd * 96 ≤ 140737488351232 := by rw [← hnD]; exact hl
  have HKN : Hid (∀ w, Below W.heap.size W w → Calls Tryz.prog 17 #[] w fun e w' => e = .returned (.bool true) ∧ Below W.heap.size W w') := fun w hb => (known_true w).mono fun e w' ⟨he, hb'⟩ => ⟨he, hb.trans (hb'.mono hb.size)⟩
  clear hP hd hR hS hD hzd hz hR8 hnD hnB hl hN
  go_enter Tryz.func7, Tryz.ntmps7
  go_wp2_with fail
  refine kn.mono ?_
  clear kn
  rintro e w1 ⟨q, rfl, hqW, hq1, hdr, hb1⟩
  have kl := lentxl_any (HD.out.below hb1) HZD.out HL.out
  have HB1 : Hid (Below W.heap.size W w1) := hb1
  have HDR : Hid (∀ X : Nat → Prop, (∀ b, X b → b < W.heap.size ∨ w1.heap.size ≤ b) → Dr X w1 q R) := hdr
  have HQ : Hid (W.heap.size ≤ q ∧ q < w1.heap.size) := ⟨hqW, hq1⟩
  clear hdr hqW hq1 hb1
  go_wp2_with fail
  refine kl.mono ?_
  clear kl
  rintro e w2 ⟨px, kx, vs0, rfl, hlx, hb2⟩
  have HB2 : Hid (Below W.heap.size W w2) := HB1.out.trans (hb2.mono HB1.out.size)
  have HOX : Hid (∀ g, (Value.slice px nd kx).ownBlock = some g → ¬ DrB (ptr q) g ∧ W.heap.size ≤ g) := fun g hg => by
    have h1 := hlx.b g hg
    have h2 := HB1.out.size
    refine ⟨fun h => ?_, by omega⟩
    have h3 := HQ.out.2
    cases h
    omega
  have HLX : Hid (LX (DrB (ptr q)) W.heap.size w2 (.slice px nd kx) D vs0) := by
    have h1 : LX (DrB (ptr q)) w1.heap.size w2 (.slice px nd kx) D vs0 := hlx.less (fun b hb => by cases hb; exact HQ.out.2)
    exact ⟨h1.n, h1.r, h1.d, fun g hg => Nat.le_trans HB1.out.size (h1.b g hg)⟩
  have HDW : Hid (Dw (fun b => (Value.slice px nd kx).ownBlock = some b) w2 (ptr q) R) := by
    refine .inr ⟨q, rfl, (HDR.out _ (fun b hb => .inr (hlx.b b hb))).below hb2⟩
  have HQ2 : Hid (W.heap.size ≤ q) := HQ.out.1
  clear hlx hb2 HB1 HDR HQ
  go_wp2
  go_loopw [12, 13] (fun m i wr => ∃ k : Nat, i = .int .i64 (k : Int) ∧ m = .int .i64 (sumS (D.take k)) ∧ k ≤ nd ∧ Hid (Below w2.heap.size w2 wr) ∧ Hid (∀ d ∈ D.take k, rightM d = true ∧ 1 ≤ sizA d ∧ sizA d ≤ 100) ∧ Hid (0 < k → nd ≤ 50)) (fun _ i _ => nd - (intOf i).toNat)
  case atStart => exact ⟨0, rfl, rfl, Nat.zero_le _, Below.refl _ _, fun d hd => by simp at hd, fun h => absurd h (Nat.lt_irrefl _)⟩
  case round =>
    obtain ⟨k, rfl, rfl, hk, HBR, HAK, H50⟩ := hrel
    have HBX : Hid (Below W.heap.size W wr) := HB2.out.trans (HBR.out.mono HB2.out.size)
    by_cases hlt : k < nd
    · have hlt' : (k : Int) < (nd : Int) := by omega
      have hwk : IntKind.i64.wrap ((k : Int) + 1) = (k : Int) + 1 := by rw [IntKind.wrap_i64]; omega
      obtain ⟨d, hdd⟩ : ∃ d, D[k]? = some d := ⟨_, List.getElem?_eq_getElem (by rw [HND.out]; exact hlt)⟩
      obtain ⟨b2, off2, hp2, hb2l, _, c0, c1, c2, c3, c4, c5, hDc0, i0, i1, i2, i3, i4, i5⟩ := HD.out.at hdd
      have HCE : Hid (∀ w, Below W.heap.size W w → w.cell? ⟨b2, off2 + k * 6, none⟩ = some c0 ∧ w.cell? ⟨b2, off2 + k * 6 + 1, none⟩ = some c1 ∧ w.cell? ⟨b2, off2 + k * 6 + 2, none⟩ = some c2 ∧ w.cell? ⟨b2, off2 + k * 6 + 3, none⟩ = some c3 ∧ w.cell? ⟨b2, off2 + k * 6 + 4, none⟩ = some c4 ∧ w.cell? ⟨b2, off2 + k * 6 + 5, none⟩ = some c5) := fun w hb => ⟨(hb.cell (p := ⟨b2, _, none⟩) hb2l).trans i0, (hb.cell (p := ⟨b2, _, none⟩) hb2l).trans i1, (hb.cell (p := ⟨b2, _, none⟩) hb2l).trans i2, (hb.cell (p := ⟨b2, _, none⟩) hb2l).trans i3, (hb.cell (p := ⟨b2, _, none⟩) hb2l).trans i4, (hb.cell (p := ⟨b2, _, none⟩) hb2l).trans i5⟩
      have HDC : Hid (∀ w, Below W.heap.size W w → Dc (fun _ => False) w [c0, c1, c2, c3, c4, c5] d) := fun w hb => hDc0.below hb
      have hone := hDc0.one
      subst hp2
      have HGD : Hid (Good d) := HG.out d (List.mem_of_getElem? hdd)
      have HDD : Hid (D[k]? = some d) := hdd
      have kr := rright_d (HDC.out wr HBX.out) HGD.out
      obtain ⟨i0, i1, i2, i3, i4, i5⟩ := HCE.out wr HBX.out
      clear hdd hDc0 hb2l
      go_wp2_with fail
      refine kr.mono ?_
      clear kr i0 i1 i2 i3 i4 i5
      rintro e u1 ⟨rfl, hu1⟩
      have HBU1 : Hid (Below W.heap.size W u1) := HBX.out.trans (hu1.mono HBX.out.size)
      have HBY1 : Hid (Below w2.heap.size w2 u1) := HBR.out.trans (hu1.mono HBR.out.size)
      clear hu1
      cases hr : rightM d
      ·
        go_wp2_with fail
        refine (HKN.out _ HBU1.out).mono ?_
        rintro e wz ⟨rfl, hbz⟩
        go_wp2
        go_ret
        exact ⟨rfl, hbz⟩
      · have ke := rempty_d (HDC.out u1 HBU1.out)
        obtain ⟨i0, i1, i2, i3, i4, i5⟩ := HCE.out u1 HBU1.out
        go_wp2_with fail
        refine ke.mono ?_
        clear ke i0 i1 i2 i3 i4 i5
        rintro e u2 ⟨rfl, hu2⟩
        have HBU2 : Hid (Below W.heap.size W u2) := HBU1.out.trans (hu2.mono HBU1.out.size)
        have HBY2 : Hid (Below w2.heap.size w2 u2) := HBY1.out.trans (hu2.mono HBY1.out.size)
        clear hu2
        cases he : reM d
        · have kz := rsize_d (HDC.out u2 HBU2.out)
          have hsz := siz_bounds d
          have hne : sizA d ≠ 0 := fun h0 => by rw [re_siz hr h0] at he; cases he
          obtain ⟨i0, i1, i2, i3, i4, i5⟩ := HCE.out u2 HBU2.out
          have HSI : Hid (sumS (D.take (k + 1)) = sumS (D.take k) + sizA d - 1) := sumS_take HDD.out
          have HSB : Hid (0 ≤ sumS (D.take k) ∧ sumS (D.take k) ≤ 99 * ((D.take k).length : Int)) := sumS_le (fun d hd => (HAK.out d hd).2)
          have HDT : Hid (∀ x ∈ D.take (k + 1), x ∈ D.take k ∨ x = d) := fun x hx => by
            rw [List.take_add_one, HDD.out] at hx
            rcases List.mem_append.1 hx with h | h
            · exact .inl h
            · exact .inr (by simpa using h)
          go_wp2_with fail
          refine kz.mono ?_
          clear kz i0 i1 i2 i3 i4 i5
          rintro e u3 ⟨rfl, hu3⟩
          have HBU3 : Hid (Below W.heap.size W u3) := HBU2.out.trans (hu3.mono HBU2.out.size)
          have HBY3 : Hid (Below w2.heap.size w2 u3) := HBY2.out.trans (hu3.mono HBY2.out.size)
          clear hu3
          by_cases h100 : (100 : Int) < sizA d
          · have h100' : decide (sizA d > 100) = true := by simpa using h100
            generalize sizA d = zz at *
            go_wp2_with fail
            refine (HKN.out _ HBU3.out).mono ?_
            rintro e wz ⟨rfl, hbz⟩
            go_wp2
            go_ret
            exact ⟨rfl, hbz⟩
          · have h100' : ¬ (100 : Int) < sizA d := h100
            by_cases h50 : (50 : Int) < (nd : Int)
            ·
              go_wp2_with fail
              refine (HKN.out _ HBU3.out).mono ?_
              rintro e wz ⟨rfl, hbz⟩
              go_wp2
              go_ret
              exact ⟨rfl, hbz⟩
            · have kz := rsize_d (HDC.out u3 HBU3.out)
              obtain ⟨i0, i1, i2, i3, i4, i5⟩ := HCE.out u3 HBU3.out
              have hsl : ((D.take k).length : Int) = k := by rw [List.length_take, HND.out]; omega
              obtain ⟨sb1, sb2⟩ := HSB.out
              rw [hsl] at sb2
              have HZV : Hid (1 ≤ sizA d ∧ sizA d ≤ 100) := ⟨by omega, by omega⟩
              have hz1 := HZV.out.1
              have hz2 := HZV.out.2
              obtain ⟨sk, hsk⟩ : ∃ q, sumS (D.take k) = q := ⟨_, rfl⟩
              have HSI2 : Hid (sumS (D.take (k + 1)) = sk + sizA d - 1) := by unfold Hid; rw [HSI.out, hsk]
              rw [hsk] at sb1 sb2 ⊢
              clear hsk HSI HSB hsl
              have HZZ : Hid (1 ≤ sizA d ∧ sizA d ≤ 100) := HZV.out
              generalize sizA d = zz at kz hz1 hz2 HSI2 ⊢
              have hw1 : IntKind.i64.wrap (sk + zz) = sk + zz := by rw [IntKind.wrap_i64]; omega
              have hw2 : IntKind.i64.wrap (sk + zz - 1) = sk + zz - 1 := by rw [IntKind.wrap_i64]; omega
              go_wp2_with fail
              refine kz.mono ?_
              clear kz i0 i1 i2 i3 i4 i5
              rintro e u4 ⟨rfl, hu4⟩
              have HBU4 : Hid (Below w2.heap.size w2 u4) := HBY3.out.trans (hu4.mono HBY3.out.size)
              clear hu4
              go_wp2
              go_roundw
              case rel =>
                refine ⟨k + 1, by go_num, ?_, by omega, HBU4.out, fun x hx => ?_, fun _ => by omega⟩
                · rw [HSI2.out]
                · rcases HDT.out x hx with h | h
                  · exact HAK.out x h
                  · rw [h]; exact ⟨hr, HZZ.out⟩
              case measure => simp [intOf]; omega
        ·
          go_wp2_with fail
          refine (HKN.out _ HBU2.out).mono ?_
          rintro e wz ⟨rfl, hbz⟩
          go_wp2
          go_ret
          exact ⟨rfl, hbz⟩
    · have hlt' : ¬ (k : Int) < (nd : Int) := by omega
      obtain rfl : k = nd := by omega
      go_wp2
      have HBW3 : Hid (Below W.heap.size W wr) := HBX.out
      have htk : D.take k = D := List.take_of_length_le (by rw [HND.out]; exact Nat.le_refl _)
      rw [htk] at HAK ⊢
      have HLF : Hid (Lft D D) := Lft.refl HAK.out
      have HMB : Hid (0 ≤ sumS D ∧ sumS D ≤ 5000) := by
        have h1 := sumS_le (fun d hd => (HAK.out d hd).2)
        refine ⟨h1.1, ?_⟩
        by_cases h0 : 0 < k
        · have := H50.out h0; have := HND.out; omega
        · have := HND.out; omega
      obtain ⟨M, hM⟩ : ∃ q, sumS D = q := ⟨_, rfl⟩
      have HMM : Hid (sumS D = M) := hM
      rw [hM] at HMB ⊢
      have hM1 := HMB.out.1
      have hM2 := HMB.out.2
      have HLX3 : Hid (LX (DrB (ptr q)) W.heap.size wr (.slice px k kx) D vs0) := HLX.out.below HBR.out
      have HDW3 : Hid (Dw (fun b => (Value.slice px k kx).ownBlock = some b) wr (ptr q) R) := HDW.out.below HBR.out
      clear hlt hlt' hk htk hM HAK H50 HBX HLX HDW HMB
      go_loopw [11] (fun st wl => ∃ (s : Nat) (D' : List MD) (R' : List Int) (vs : List (List Value)), st = .int .i64 (s : Int) ∧ Hid (Lft D D' ∧ (s : Int) + sumS D' ≤ M) ∧ Hid (LX (DrB (ptr q)) W.heap.size wl (.slice px k kx) D' vs) ∧ Hid (Dw (fun b => (Value.slice px k kx).ownBlock = some b) wl (ptr q) R') ∧ Hid (Below W.heap.size W wl)) (fun st _ => (M + 1 - intOf st).toNat)
      case atStart => exact ⟨0, D, R, vs0, rfl, ⟨HLF.out, by rw [HMM.out]; simp⟩, HLX3.out, HDW3.out, HBW3.out⟩
      case round =>
        clear HBW3 HLX3 HDW3 HLF HMM HBR
        obtain ⟨s, D', R', vs, rfl, HI, HLX, HDW, HBL⟩ := hrel
        have hsM : (s : Int) ≤ M := by have := HI.out.1.pos; have := HI.out.2; omega
        have kc := choose_gen (HP.out.below HBL.out) (HLX.out.dsk (fun g hg => (HOX.out g hg).1)) HI.out.1.good ⟨HZ.out.v, by rw [HI.out.1.n]; exact HZ.out.d, HZ.out.l⟩ HDW.out
        have hcy : Hid ((chooseM L D' R').1.2.2.2 = true → ∃ (vn : Nat) (d : MD) (op n : Int), (chooseM L D' R').1 = ((vn : Int), op, n, true) ∧ D'[vn]? = some d ∧ sevB d = true ∧ Tried d op n) := choose_yes
        have hcn : Hid ((chooseM L D' R').1.2.2.2 = false → openAll D' = []) := choose_no
        obtain ⟨R2, hR2⟩ : ∃ q, (chooseM L D' R').2 = q := ⟨_, rfl⟩
        obtain ⟨⟨cv, op, nn, cb⟩, hC⟩ : ∃ q, (chooseM L D' R').1 = q := ⟨_, rfl⟩
        rw [hC] at kc hcy hcn
        rw [hR2] at kc
        dsimp only at kc hcy hcn
        clear hC hR2
        go_wp2_with fail
        refine kc.mono ?_
        clear kc
        rintro e w3 ⟨rfl, hd3, hk3⟩
        have HLX3 : Hid (LX (DrB (ptr q)) W.heap.size w3 (.slice px k kx) D' vs) := HLX.out.kept hk3 (fun g hg => (HOX.out g hg).1)
        have HB3 : Hid (Below W.heap.size W w3) := HBL.out.trans (hk3.below HBL.out.size (fun b hb => by cases hb; exact HQ2.out))
        have HDW3 : Hid (Dw (fun b => (Value.slice px k kx).ownBlock = some b) w3 (ptr q) R2) := hd3
        clear hd3 hk3 HLX HDW HBL
        cases cb
        · have hoa : Hid (openAll D' = []) := hcn.out rfl
          clear hcy hcn
          have HB4 : Hid (Below W.heap.size W (w3.alloc (Obj.cells #[.int .i64 cv, .int .i64 op, .int .i64 nn] 32))) := HB3.out.alloc HB3.out.size _
          have HLX4 : Hid (LX (DrB (ptr q)) W.heap.size (w3.alloc (Obj.cells #[.int .i64 cv, .int .i64 op, .int .i64 nn] 32)) (.slice px k kx) D' vs) := HLX3.out.below ((Below.refl _ _).alloc (Nat.le_refl _) _)
          obtain ⟨w4, hw4⟩ : ∃ Q, w3.alloc (Obj.cells #[.int .i64 cv, .int .i64 op, .int .i64 nn] 32) = Q := ⟨_, rfl⟩
          rw [hw4] at HB4 HLX4
          have HW4 : Hid _ := hw4
          clear hw4
          go_upto_region 13 with (fail)
          rw [HW4.out]
          clear HLX3 HB3 HDW3 HW4
          go_wp2
          go_loopw [18] (fun i wj => ∃ j : Nat, i = .int .i64 (j : Int) ∧ j ≤ k ∧ Hid (Below w4.heap.size w4 wj)) (fun i _ => k - (intOf i).toNat)
          case atStart => exact ⟨0, rfl, Nat.zero_le _, Below.refl _ _⟩
          case round =>
            obtain ⟨j, rfl, hj, HBJ⟩ := hrel
            have HBWJ : Hid (Below W.heap.size W wr) := HB4.out.trans (HBJ.out.mono HB4.out.size)
            by_cases hlt : j < k
            · have hlt' : (j : Int) < (k : Int) := by omega
              have hwk : IntKind.i64.wrap ((j : Int) + 1) = (j : Int) + 1 := by rw [IntKind.wrap_i64]; omega
              obtain ⟨d', hd'⟩ : ∃ d, D'[j]? = some d := ⟨_, List.getElem?_eq_getElem (by rw [HI.out.1.n, HND.out]; exact hlt)⟩
              obtain ⟨d, hdd, hr, hz1, hz2, hle⟩ := HI.out.1.a j d' hd'
              have h1 := HI.out.1.stop hoa.out hd'
              obtain ⟨b1, off1, hp1, hb1l, _, _, x0, x1, x2, x3, x4, x5, hDx, j0, j1, j2, j3, j4, j5⟩ := (HLX4.out.dsk (fun g hg => (HOX.out g hg).1)).at hd'
              obtain ⟨b2, off2, hp2, hb2l, _, c0, c1, c2, c3, c4, c5, hDc, i0, i1, i2, i3, i4, i5⟩ := HD.out.at hdd
              have HCX : Hid (∀ w, Below w4.heap.size w4 w → w.cell? ⟨b1, off1 + j * 6, none⟩ = some x0 ∧ w.cell? ⟨b1, off1 + j * 6 + 1, none⟩ = some x1 ∧ w.cell? ⟨b1, off1 + j * 6 + 2, none⟩ = some x2 ∧ w.cell? ⟨b1, off1 + j * 6 + 3, none⟩ = some x3 ∧ w.cell? ⟨b1, off1 + j * 6 + 4, none⟩ = some x4 ∧ w.cell? ⟨b1, off1 + j * 6 + 5, none⟩ = some x5) := fun w hb => ⟨(hb.cell (p := ⟨b1, _, none⟩) hb1l).trans j0, (hb.cell (p := ⟨b1, _, none⟩) hb1l).trans j1, (hb.cell (p := ⟨b1, _, none⟩) hb1l).trans j2, (hb.cell (p := ⟨b1, _, none⟩) hb1l).trans j3, (hb.cell (p := ⟨b1, _, none⟩) hb1l).trans j4, (hb.cell (p := ⟨b1, _, none⟩) hb1l).trans j5⟩
              have HCD : Hid (∀ w, Below W.heap.size W w → w.cell? ⟨b2, off2 + j * 6, none⟩ = some c0 ∧ w.cell? ⟨b2, off2 + j * 6 + 1, none⟩ = some c1 ∧ w.cell? ⟨b2, off2 + j * 6 + 2, none⟩ = some c2 ∧ w.cell? ⟨b2, off2 + j * 6 + 3, none⟩ = some c3 ∧ w.cell? ⟨b2, off2 + j * 6 + 4, none⟩ = some c4 ∧ w.cell? ⟨b2, off2 + j * 6 + 5, none⟩ = some c5) := fun w hb => ⟨(hb.cell (p := ⟨b2, _, none⟩) hb2l).trans i0, (hb.cell (p := ⟨b2, _, none⟩) hb2l).trans i1, (hb.cell (p := ⟨b2, _, none⟩) hb2l).trans i2, (hb.cell (p := ⟨b2, _, none⟩) hb2l).trans i3, (hb.cell (p := ⟨b2, _, none⟩) hb2l).trans i4, (hb.cell (p := ⟨b2, _, none⟩) hb2l).trans i5⟩
              have HDX : Hid (∀ w, Below w4.heap.size w4 w → Dc (DrB (ptr q)) w [x0, x1, x2, x3, x4, x5] d') := fun w hb => hDx.below hb
              have HDD : Hid (∀ w, Below W.heap.size W w → Dc (fun _ => False) w [c0, c1, c2, c3, c4, c5] d) := fun w hb => hDc.below hb
              have KW0 : Hid (∀ w, Below w4.heap.size w4 w → Calls Tryz.prog 34 #[.agg #[x0, x1, x2, x3, x4, x5], .agg #[c0, c1, c2, c3, c4, c5]] w fun e w' => e = .returned (.bool true) ∧ Below w.heap.size w w') := fun w hb => within_yes (HDX.out w hb) (HDD.out w (HB4.out.trans (hb.mono HB4.out.size))) (right_sz hr).1 hr hle
              have kv := value_yes (HDX.out wr HBJ.out) hr h1
              have hone := hDx.one
              have hone2 := hDc.one
              obtain ⟨j0, j1, j2, j3, j4, j5⟩ := HCX.out wr HBJ.out
              subst hp1 hp2
              clear hd' hdd hr hz1 hz2 hle h1 hDx hDc hb1l hb2l i0 i1 i2 i3 i4 i5
              go_wp2_with fail
              refine kv.mono ?_
              clear kv j0 j1 j2 j3 j4 j5
              rintro e u1 ⟨vb, vn, vp, vl, vk, rfl, hu1⟩
              obtain ⟨u2, hu2⟩ : ∃ Q, u1.alloc (Obj.cells #[.bool vb, .int .i64 vn, .slice vp vl vk] 52) = Q := ⟨_, rfl⟩
              have HBU : Hid (Below w4.heap.size w4 u2) := by rw [← hu2]; exact (HBJ.out.trans (hu1.mono HBJ.out.size)).alloc (HBJ.out.trans (hu1.mono HBJ.out.size)).size _
              have HU2 : Hid _ := hu2
              clear hu2 hu1
              go_upto_region 27 with (fail)
              rw [HU2.out]
              have HP0 : Hid (Below u2.heap.size u2 u2.drew) := (Below.refl _ _).drew
              have KW : Hid (∀ w, Below u2.heap.size u2 w → Calls Tryz.prog 34 #[.agg #[x0, x1, x2, x3, x4, x5], .agg #[c0, c1, c2, c3, c4, c5]] w fun e w' => e = .returned (.bool true) ∧ Below w.heap.size w w') := fun w hb => KW0.out w (HBU.out.trans (hb.mono HBU.out.size))
              have HCX2 : Hid (∀ w, Below u2.heap.size u2 w → w.cell? ⟨b1, off1 + j * 6, none⟩ = some x0 ∧ w.cell? ⟨b1, off1 + j * 6 + 1, none⟩ = some x1 ∧ w.cell? ⟨b1, off1 + j * 6 + 2, none⟩ = some x2 ∧ w.cell? ⟨b1, off1 + j * 6 + 3, none⟩ = some x3 ∧ w.cell? ⟨b1, off1 + j * 6 + 4, none⟩ = some x4 ∧ w.cell? ⟨b1, off1 + j * 6 + 5, none⟩ = some x5) := fun w hb => HCX.out w (HBU.out.trans (hb.mono HBU.out.size))
              have HCD2 : Hid (∀ w, Below u2.heap.size u2 w → w.cell? ⟨b2, off2 + j * 6, none⟩ = some c0 ∧ w.cell? ⟨b2, off2 + j * 6 + 1, none⟩ = some c1 ∧ w.cell? ⟨b2, off2 + j * 6 + 2, none⟩ = some c2 ∧ w.cell? ⟨b2, off2 + j * 6 + 3, none⟩ = some c3 ∧ w.cell? ⟨b2, off2 + j * 6 + 4, none⟩ = some c4 ∧ w.cell? ⟨b2, off2 + j * 6 + 5, none⟩ = some c5) := fun w hb => HCD.out w (HB4.out.trans ((HBU.out.trans (hb.mono HBU.out.size)).mono HB4.out.size))
              clear HU2 HCX HCD HDX HDD KW0
              refine wp_region_held_drew (S := fun X : World => Below u2.heap.size u2 X) (by kernel_rfl) (HP0.out) (fun hHeld => ?_)
              refine wpAnyH_take (i := 0) (oi := { dst := some 149, op := Go.Op.move (Go.Operand.tmp 20), type := 4, pos := "law.go:172", after := #[], guard := none }) (v := ?_) rfl (by kernel_rfl) (by kernel_rfl) (by kernel_rfl) (fun _ _ _ h => h) (Or.inl ⟨by rfl, ?_⟩) hHeld ?_
              rotate_left
              · intro w hSw; (try dsimp only at hSw); go_simp <;> with_reducible rfl
              try simp only [Act.put, List.setIfInBounds_toArray, List.set_cons_zero, List.set_cons_succ]
              refine wpAnyH_take (i := 1) (oi := { dst := some 150, op := Go.Op.unOp Go.UnOp.not 4 (Go.Operand.tmp 149), type := 4, pos := "law.go:172", after := #[{ on := 0, ground := Go.Ground.data }], guard := none }) (v := ?_) rfl (by kernel_rfl) (by kernel_rfl) (by kernel_rfl) (fun _ _ _ h => h) (Or.inl ⟨by rfl, ?_⟩) hHeld ?_
              rotate_left
              · intro w hSw; (try dsimp only at hSw); go_simp <;> with_reducible rfl
              try simp only [Act.put, List.setIfInBounds_toArray, List.set_cons_zero, List.set_cons_succ]
              refine wpAnyH_take (i := 2) (oi := { dst := some 151, op := Go.Op.move (Go.Operand.tmp 150), type := 4, pos := "law.go:172", after := #[{ on := 1, ground := Go.Ground.data }], guard := none }) (v := ?_) rfl (by kernel_rfl) (by kernel_rfl) (by kernel_rfl) (fun _ _ _ h => h) (Or.inl ⟨by rfl, ?_⟩) hHeld ?_
              rotate_left
              · intro w hSw; (try dsimp only at hSw); go_simp <;> with_reducible rfl
              try simp only [Act.put, List.setIfInBounds_toArray, List.set_cons_zero, List.set_cons_succ]
              refine wpAnyH_take (i := 3) (oi := { dst := some 152, op := Go.Op.move (Go.Operand.tmp 10), type := 23, pos := "law.go:172", after := #[{ on := 2, ground := Go.Ground.guard }], guard := some (2, false) }) (v := ?_) rfl (by kernel_rfl) (by kernel_rfl) (by kernel_rfl) (fun _ _ _ h => h) (Or.inl ⟨by rfl, ?_⟩) hHeld ?_
              rotate_left
              · intro w hSw; (try dsimp only at hSw); go_simp <;> with_reducible rfl
              try simp only [Act.put, List.setIfInBounds_toArray, List.set_cons_zero, List.set_cons_succ]
              refine wpAnyH_take (i := 4) (oi := { dst := some 153, op := Go.Op.move (Go.Operand.tmp 18), type := 3, pos := "law.go:172", after := #[{ on := 2, ground := Go.Ground.guard }], guard := some (2, false) }) (v := ?_) rfl (by kernel_rfl) (by kernel_rfl) (by kernel_rfl) (fun _ _ _ h => h) (Or.inl ⟨by rfl, ?_⟩) hHeld ?_
              rotate_left
              · intro w hSw; (try dsimp only at hSw); go_simp <;> with_reducible rfl
              try simp only [Act.put, List.setIfInBounds_toArray, List.set_cons_zero, List.set_cons_succ]
              refine wpAnyH_take (i := 5) (oi := { dst := some 154, op := Go.Op.indexAddr 23 (Go.Operand.tmp 152) (Go.Operand.tmp 153), type := 0, pos := "law.go:172", after := #[{ on := 3, ground := Go.Ground.data }, { on := 4, ground := Go.Ground.data }, { on := 2, ground := Go.Ground.guard }], guard := some (2, false) }) (v := ?_) rfl (by kernel_rfl) (by kernel_rfl) (by kernel_rfl) (fun _ _ _ h => h) (Or.inl ⟨by rfl, ?_⟩) hHeld ?_
              rotate_left
              · intro w hSw; (try dsimp only at hSw); go_simp <;> with_reducible rfl
              try simp only [Act.put, List.setIfInBounds_toArray, List.set_cons_zero, List.set_cons_succ]
              refine wpAnyH_take (i := 6) (oi := { dst := some 155, op := Go.Op.load 50 (Go.Operand.tmp 154), type := 50, pos := "law.go:172", after := #[{ on := 5, ground := Go.Ground.data }, { on := 2, ground := Go.Ground.guard }], guard := some (2, false) }) (v := ?_) rfl (by kernel_rfl) (by kernel_rfl) (by kernel_rfl) (fun _ _ _ h => h) (Or.inl ⟨by rfl, ?_⟩) hHeld ?_
              rotate_left
              · intro w hSw; obtain ⟨y0, y1, y2, y3, y4, y5⟩ := HCX2.out _ hSw; go_simp <;> with_reducible rfl
              try simp only [Act.put, List.setIfInBounds_toArray, List.set_cons_zero, List.set_cons_succ]
              refine wpAnyH_take (i := 7) (oi := { dst := some 156, op := Go.Op.move (Go.Operand.tmp 1), type := 23, pos := "law.go:172", after := #[{ on := 2, ground := Go.Ground.guard }], guard := some (2, false) }) (v := ?_) rfl (by kernel_rfl) (by kernel_rfl) (by kernel_rfl) (fun _ _ _ h => h) (Or.inl ⟨by rfl, ?_⟩) hHeld ?_
              rotate_left
              · intro w hSw; (try dsimp only at hSw); go_simp <;> with_reducible rfl
              try simp only [Act.put, List.setIfInBounds_toArray, List.set_cons_zero, List.set_cons_succ]
              refine wpAnyH_take (i := 8) (oi := { dst := some 157, op := Go.Op.move (Go.Operand.tmp 18), type := 3, pos := "law.go:172", after := #[{ on := 2, ground := Go.Ground.guard }], guard := some (2, false) }) (v := ?_) rfl (by kernel_rfl) (by kernel_rfl) (by kernel_rfl) (fun _ _ _ h => h) (Or.inl ⟨by rfl, ?_⟩) hHeld ?_
              rotate_left
              · intro w hSw; (try dsimp only at hSw); go_simp <;> with_reducible rfl
              try simp only [Act.put, List.setIfInBounds_toArray, List.set_cons_zero, List.set_cons_succ]
              refine wpAnyH_take (i := 9) (oi := { dst := some 158, op := Go.Op.indexAddr 23 (Go.Operand.tmp 156) (Go.Operand.tmp 157), type := 0, pos := "law.go:172", after := #[{ on := 7, ground := Go.Ground.data }, { on := 8, ground := Go.Ground.data }, { on := 2, ground := Go.Ground.guard }], guard := some (2, false) }) (v := ?_) rfl (by kernel_rfl) (by kernel_rfl) (by kernel_rfl) (fun _ _ _ h => h) (Or.inl ⟨by rfl, ?_⟩) hHeld ?_
              rotate_left
              · intro w hSw; (try dsimp only at hSw); go_simp <;> with_reducible rfl
              try simp only [Act.put, List.setIfInBounds_toArray, List.set_cons_zero, List.set_cons_succ]
              refine wpAnyH_take (i := 10) (oi := { dst := some 159, op := Go.Op.load 50 (Go.Operand.tmp 158), type := 50, pos := "law.go:172", after := #[{ on := 9, ground := Go.Ground.data }, { on := 2, ground := Go.Ground.guard }], guard := some (2, false) }) (v := ?_) rfl (by kernel_rfl) (by kernel_rfl) (by kernel_rfl) (fun _ _ _ h => h) (Or.inl ⟨by rfl, ?_⟩) hHeld ?_
              rotate_left
              · intro w hSw; obtain ⟨y0, y1, y2, y3, y4, y5⟩ := HCD2.out _ hSw; go_simp <;> with_reducible rfl
              try simp only [Act.put, List.setIfInBounds_toArray, List.set_cons_zero, List.set_cons_succ]
              refine wpAnyH_ready (rs := [11]) (by kernel_rfl) (by simp) ?_
              refine AllReadyH.cons rfl (fun K hK => ?_) AllReadyH.nil
              go_simp
              refine (KW.out _ HP0.out).mono ?_
              rintro e u3 ⟨rfl, hbu⟩
              have HP1 : Hid (Below u2.heap.size u2 u3) := HP0.out.trans (hbu.mono HP0.out.size)
              clear hbu
              refine hK.out _ _ (HP1.out) (fun hHeld2 => ?_)
              clear hK K hHeld
              have hHeld := hHeld2
              clear hHeld2
              try simp only [Act.put, List.setIfInBounds_toArray, List.set_cons_zero, List.set_cons_succ]
              refine wpAnyH_take (i := 12) (oi := { dst := some 161, op := Go.Op.unOp Go.UnOp.not 4 (Go.Operand.tmp 160), type := 4, pos := "law.go:172", after := #[{ on := 11, ground := Go.Ground.data }, { on := 2, ground := Go.Ground.guard }], guard := some (2, false) }) (v := ?_) rfl (by kernel_rfl) (by kernel_rfl) (by kernel_rfl) (fun _ _ _ h => h) (Or.inl ⟨by rfl, ?_⟩) hHeld ?_
              rotate_left
              · intro w hSw; (try dsimp only at hSw); go_simp <;> with_reducible rfl
              try simp only [Act.put, List.setIfInBounds_toArray, List.set_cons_zero, List.set_cons_succ]
              refine wpAnyH_take (i := 13) (oi := { dst := some 162, op := Go.Op.pick (Go.Operand.tmp 151) (Go.Operand.const (Go.Value.bool true)) (Go.Operand.tmp 161), type := 4, pos := "law.go:172", after := #[{ on := 2, ground := Go.Ground.data }, { on := 12, ground := Go.Ground.data }], guard := none }) (v := ?_) rfl (by kernel_rfl) (by kernel_rfl) (by kernel_rfl) (fun _ _ _ h => h) (Or.inl ⟨by rfl, ?_⟩) hHeld ?_
              rotate_left
              · intro w hSw; (try dsimp only at hSw); go_simp <;> with_reducible rfl
              try simp only [Act.put, List.setIfInBounds_toArray, List.set_cons_zero, List.set_cons_succ]
              refine wpAnyH_done (by kernel_rfl) ?_ _
              have HBE : Hid (Below w4.heap.size w4 u3) := HBU.out.trans (HP1.out.mono HBU.out.size)
              go_wp2
              go_roundw
              case rel => exact ⟨j + 1, by go_num, by omega, HBE.out⟩
              case measure => simp [intOf]; omega
            · have hlt' : ¬ (j : Int) < (k : Int) := by omega
              have hsM' : (s : Int) ≤ M := hsM
              go_wp2_with fail
              refine (HKN.out _ HBWJ.out).mono ?_
              rintro e wz ⟨rfl, hbz⟩
              go_wp2
              go_ret
              exact ⟨rfl, hbz⟩
        · obtain ⟨vn, d, op', nn', hE, hdd, hsev, htr⟩ := hcy.out rfl
          injection hE with e1 hE
          injection hE with e2 hE
          injection hE with e3 _
          subst e1 e2 e3
          clear hcy hcn
          have hvl : vn < k := by rw [← HND.out, ← HI.out.1.n]; exact (List.getElem?_eq_some_iff.1 hdd).1
          have hvi : (vn : Int) < (k : Int) := by omega
          have hvi2 : ¬ (k : Int) ≤ (vn : Int) := by omega
          have HFN : Hid (Dm.Fits nn) := tried_fits hsev htr
          have HST : Hid (∀ op', op' = op ∨ op' = otM op → (resM d op' nn).2 = 0 ∧ reM (resM d op' nn).1 = false ∧ LeA (resM d op' nn).1 d ∧ rightM (resM d op' nn).1 = true ∧ Lft D (D'.set vn (resM d op' nn).1) ∧ sumS (D'.set vn (resM d op' nn).1) + 1 ≤ sumS D') := fun op' ho => HI.out.1.step hdd hsev htr ho
          have HGD : Hid (Good d) := HI.out.1.good d (List.mem_of_getElem? hdd)
          have HDD : Hid (D'[vn]? = some d) := hdd
          obtain ⟨P, hP⟩ : ∃ q, w3.heap.size = q := ⟨_, rfl⟩
          obtain ⟨W3, hW3⟩ : ∃ Q, w3.alloc (Obj.cells #[.int .i64 (vn : Int), .int .i64 op, .int .i64 nn] 32) = Q := ⟨_, rfl⟩
          have HXc : Hid (Bx W3 P #[.int .i64 (vn : Int), .int .i64 op, .int .i64 nn] 32) := by rw [← hW3]; exact Bx.new' hP _ _
          have hbw : Below w3.heap.size w3 W3 := by rw [← hW3]; exact (Below.refl _ _).alloc (Nat.le_refl _) _
          have HBc : Hid (Below W.heap.size W W3) := HB3.out.trans (hbw.mono HB3.out.size)
          have HLXp : Hid (LX (fun b => DrB (ptr q) b ∨ b = P) W.heap.size W3 (.slice px k kx) D' vs) := by
            refine LX.below (w := w3) ⟨HLX3.out.n, HLX3.out.r, fun i c d h1 h2 => (HLX3.out.d i c d h1 h2).up (fun b hb => ?_), HLX3.out.b⟩ hbw
            rcases hb with hb | hb | hb
            · exact .inl (.inl hb)
            · exact .inl (.inr hb)
            · exact .inr (by omega)
          have HDWp : Hid (Dw (fun b => (Value.slice px k kx).ownBlock = some b ∨ b = P) W3 (ptr q) R2) := (HDW3.out.more.less (fun b hb => hb.elim .inl (fun hb => .inr (by omega)))).below hbw
          have HLXc : Hid (LX (DrB (ptr q)) W.heap.size W3 (.slice px k kx) D' vs) := HLXp.out.less (fun b hb => .inl hb)
          have HDWc : Hid (Dw (fun b => (Value.slice px k kx).ownBlock = some b) W3 (ptr q) R2) := HDWp.out.less (fun b hb => .inl hb)
          have HPW : Hid (W.heap.size ≤ P ∧ (∀ b, (Value.slice px k kx).ownBlock = some b ∨ DrB (ptr q) b → b < P)) := ⟨by have := HB3.out.size; omega, fun b hb => by rw [← hP]; exact hb.elim (fun hb => HLX3.out.r.lt hb) (fun hb => HDW3.out.lt hb)⟩
          have HW3 : Hid _ := hW3
          clear hW3 hbw HLX3 HDW3 HB3 hdd hsev htr
          go_upto_region 13 with (fail)
          rw [HW3.out]
          clear hP HW3
          by_cases hns : ns = 0
          · have hns0 : ¬ (0 : Int) < (ns : Int) := by omega
            clear HLXp HDWp
            have hst := HST.out op (.inl rfl)
            obtain ⟨hs0, hs1, hs2, hs3, hs4, hs5⟩ := hst
            obtain ⟨c, hvc⟩ : ∃ c, vs[vn]? = some c := ⟨_, List.getElem?_eq_getElem (by rw [HLXc.out.n, HI.out.1.n, HND.out]; exact hvl)⟩
            obtain ⟨g, cap, hpx, hgl, hcap1, hcap2, hra, hth⟩ := HLXc.out.r.at hvc
            have hDx := HLXc.out.d vn c d hvc HDD.out
            obtain ⟨o0, ho0⟩ : ∃ o : Nat, o = 0 := ⟨_, rfl⟩
            obtain rfl : px = some ⟨g, o0, none⟩ := by injection hpx with hp1 _ _; rw [ho0]; exact hp1
            have HO0 : Hid (o0 = 0) := ho0
            obtain ⟨x0, x1, x2, x3, x4, x5, rfl⟩ := list6 hDx.len
            have HVC : Hid (vs[vn]? = some [x0, x1, x2, x3, x4, x5]) := hvc
            have HCX : Hid (∀ w, Below W3.heap.size W3 w → w.cell? ⟨g, o0 + vn * 6, none⟩ = some x0 ∧ w.cell? ⟨g, o0 + vn * 6 + 1, none⟩ = some x1 ∧ w.cell? ⟨g, o0 + vn * 6 + 2, none⟩ = some x2 ∧ w.cell? ⟨g, o0 + vn * 6 + 3, none⟩ = some x3 ∧ w.cell? ⟨g, o0 + vn * 6 + 4, none⟩ = some x4 ∧ w.cell? ⟨g, o0 + vn * 6 + 5, none⟩ = some x5) := fun w hb => by
              have hc : ∀ m u, [x0, x1, x2, x3, x4, x5][m]? = some u → w.cell? ⟨g, o0 + vn * 6 + m, none⟩ = some u := fun m u hu => (hb.cell (p := ⟨g, _, none⟩) hgl).trans (by rw [ho0, Nat.zero_add]; exact hra m u hu)
              exact ⟨hc 0 _ rfl, hc 1 _ rfl, hc 2 _ rfl, hc 3 _ rfl, hc 4 _ rfl, hc 5 _ rfl⟩
            have HDX : Hid (Dc (fun b => (Value.slice (some ⟨g, o0, none⟩) k kx).ownBlock = some b ∨ DrB (ptr q) b) W3 [x0, x1, x2, x3, x4, x5] d) := hDx
            have KA0 := fun w (hb : Below W3.heap.size W3 w) => apply_any (vn : Int) op nn (HDX.out.below hb) HGD.out HFN.out
            rw [hs0] at KA0
            obtain ⟨rr, hrr⟩ : ∃ q, (resM d op nn).1 = q := ⟨_, rfl⟩
            rw [hrr] at KA0 hs1 hs2 hs3 hs4 hs5
            have KA : Hid (∀ w, Below W3.heap.size W3 w → Calls Tryz.prog 20 #[.agg #[x0, x1, x2, x3, x4, x5], .agg #[.int .i64 (vn : Int), .int .i64 op, .int .i64 nn]] w fun e w' => ∃ q : List Value, e = .returned (.tuple #[.agg q.toArray, .int .i64 0]) ∧ Ans w.heap.size w' q rr ∧ Below w.heap.size w w') := KA0
            have HRE : Hid (reM rr = false ∧ LeA rr d ∧ rightM rr = true ∧ Lft D (D'.set vn rr) ∧ sumS (D'.set vn rr) + 1 ≤ sumS D') := ⟨hs1, hs2, hs3, hs4, hs5⟩
            have hone := hDx.one
            have HOXX : Hid _ := HOX.out
            clear KA0 hrr hs0 hs1 hs2 hs3 hs4 hs5 hvc hpx hgl hcap1 hcap2 hra hth hDx ho0
            obtain ⟨x0', x1', x2'⟩ := HXc.out.three
            go_upto_region 18 with (fail)
            have FS : Hid (∀ w, Below W3.heap.size W3 w → Bx w P #[.int .i64 (vn : Int), .int .i64 op, .int .i64 nn] 32) := fun w hb => HXc.out.below hb
            have HC0 : Hid (Below W3.heap.size W3 W3.drew) := (Below.refl _ _).drew
            clear x0' x1' x2'
            apply wp_ways2 (R := fun bn qy w' => Below W3.heap.size W3 w' ∧ W3.heap.size ≤ bn ∧ Bx w' bn qy.toArray 50 ∧ Dc (fun b => b = bn ∨ b < W3.heap.size) w' qy rr)
            case h =>
              refine wp_region_held_drew (S := fun X : World => Below W3.heap.size W3 X) (by kernel_rfl) (HC0.out) (fun hHeld => ?_)
              refine wpAnyH_take (i := 0) (oi := q7_18_0) (v := ?_) rfl (by kernel_rfl) (by kernel_rfl) (by kernel_rfl) (fun _ _ _ h => h) (Or.inl ⟨by rfl, ?_⟩) hHeld ?_
              rotate_left
              · intro w hSw; dsimp only [q7_18_0]; (try dsimp only at hSw); go_simp <;> with_reducible rfl
              try simp only [q7_18_0, Act.put, List.setIfInBounds_toArray, List.set_cons_zero, List.set_cons_succ]
              refine wpAnyH_take (i := 1) (oi := q7_18_1) (v := ?_) rfl (by kernel_rfl) (by kernel_rfl) (by kernel_rfl) (fun _ _ _ h => h) (Or.inl ⟨by rfl, ?_⟩) hHeld ?_
              rotate_left
              · intro w hSw; dsimp only [q7_18_1]; (try dsimp only at hSw); go_simp <;> with_reducible rfl
              try simp only [q7_18_1, Act.put, List.setIfInBounds_toArray, List.set_cons_zero, List.set_cons_succ]
              refine wpAnyH_take (i := 2) (oi := q7_18_2) (v := ?_) rfl (by kernel_rfl) (by kernel_rfl) (by kernel_rfl) (fun _ _ _ h => h) (Or.inl ⟨by rfl, ?_⟩) hHeld ?_
              rotate_left
              · intro w hSw; dsimp only [q7_18_2]; obtain ⟨y0, y1, y2⟩ := (FS.out _ hSw).three; go_simp <;> with_reducible rfl
              try simp only [q7_18_2, Act.put, List.setIfInBounds_toArray, List.set_cons_zero, List.set_cons_succ]
              refine wpAnyH_take (i := 3) (oi := q7_18_3) (v := ?_) rfl (by kernel_rfl) (by kernel_rfl) (by kernel_rfl) (fun _ _ _ h => h) (Or.inl ⟨by rfl, ?_⟩) hHeld ?_
              rotate_left
              · intro w hSw; dsimp only [q7_18_3]; (try dsimp only at hSw); go_simp <;> with_reducible rfl
              try simp only [q7_18_3, Act.put, List.setIfInBounds_toArray, List.set_cons_zero, List.set_cons_succ]
              refine wpAnyH_take (i := 4) (oi := q7_18_4) (v := ?_) rfl (by kernel_rfl) (by kernel_rfl) (by kernel_rfl) (fun _ _ _ h => h) (Or.inl ⟨by rfl, ?_⟩) hHeld ?_
              rotate_left
              · intro w hSw; dsimp only [q7_18_4]; obtain ⟨y0, y1, y2, y3, y4, y5⟩ := HCX.out _ hSw; go_simp <;> with_reducible rfl
              try simp only [q7_18_4, Act.put, List.setIfInBounds_toArray, List.set_cons_zero, List.set_cons_succ]
              refine wpAnyH_take (i := 5) (oi := q7_18_5) (v := ?_) rfl (by kernel_rfl) (by kernel_rfl) (by kernel_rfl) (fun _ _ _ h => h) (Or.inl ⟨by rfl, ?_⟩) hHeld ?_
              rotate_left
              · intro w hSw; dsimp only [q7_18_5]; obtain ⟨y0, y1, y2⟩ := (FS.out _ hSw).three; go_simp <;> with_reducible rfl
              try simp only [q7_18_5, Act.put, List.setIfInBounds_toArray, List.set_cons_zero, List.set_cons_succ]
              refine wpAnyH_ready (rs := [6, 10]) (by kernel_rfl) (by simp) ?_
              refine AllReadyH.cons rfl (fun K hK => ?_) ?_
              · go_simp
                refine (KA.out _ HC0.out).mono ?_
                rintro e v1 ⟨q, rfl, hq, hb⟩
                have HC1 : Hid (Below W3.heap.size W3 v1) := HC0.out.trans (hb.mono HC0.out.size)
                have HDq1 : Hid (Dc (fun b => b < W3.heap.size) v1 q rr) := hq.dc _ (fun b hb => Nat.lt_of_lt_of_le hb HC0.out.size)
                clear hb hq
                refine hK.out _ _ (HC1.out) (fun hHeld2 => ?_)
                clear hK K hHeld
                have hHeld := hHeld2
                clear hHeld2
                try simp only [Act.put, List.setIfInBounds_toArray, List.set_cons_zero, List.set_cons_succ]
                refine wpAnyH_take (i := 7) (oi := q7_18_7) (v := ?_) rfl (by kernel_rfl) (by kernel_rfl) (by kernel_rfl) (fun _ _ _ h => h) (Or.inl ⟨by rfl, ?_⟩) hHeld ?_
                rotate_left
                · intro w hSw; dsimp only [q7_18_7]; (try dsimp only at hSw); go_simp <;> with_reducible rfl
                try simp only [q7_18_7, Act.put, List.setIfInBounds_toArray, List.set_cons_zero, List.set_cons_succ]
                refine wpAnyH_take (i := 8) (oi := q7_18_8) (v := ?_) rfl (by kernel_rfl) (by kernel_rfl) (by kernel_rfl) (fun _ _ _ h => h) (Or.inl ⟨by rfl, ?_⟩) hHeld ?_
                rotate_left
                · intro w hSw; dsimp only [q7_18_8]; (try dsimp only at hSw); go_simp <;> with_reducible rfl
                try simp only [q7_18_8, Act.put, List.setIfInBounds_toArray, List.set_cons_zero, List.set_cons_succ]
                refine wpAnyH_take (i := 9) (oi := q7_18_9) (v := ?_) rfl (by kernel_rfl) (by kernel_rfl) (by kernel_rfl) (fun _ _ _ h => h) (Or.inl ⟨by rfl, ?_⟩) hHeld ?_
                rotate_left
                · intro w hSw; dsimp only [q7_18_9]; (try dsimp only at hSw); go_simp <;> with_reducible rfl
                try simp only [q7_18_9, Act.put, List.setIfInBounds_toArray, List.set_cons_zero, List.set_cons_succ]
                refine wpAnyH_ready (rs := [10]) (by kernel_rfl) (by simp) ?_
                refine AllReadyH.cons rfl (fun K hK => ?_) AllReadyH.nil
                obtain ⟨bn, hbn⟩ : ∃ q, v1.heap.size = q := ⟨_, rfl⟩
                go_simp
                (try rw [hbn])
                obtain ⟨v2, hv2⟩ : ∃ q, v1.alloc (Obj.cells #[.bool false, .slice none 0 0, .slice none 0 0, .slice none 0 0, .int .i64 0, .int .i64 0] 50) = q := ⟨_, rfl⟩
                (try rw [hv2])
                (try rw [show (v1.alloc (Obj.cells #[.bool false, .slice none 0 0, .slice none 0 0, .slice none 0 0, .int .i64 0, .int .i64 0] 50)).drew = v2 from hv2])
                have HC2 : Hid (Below W3.heap.size W3 v2) := by rw [← hv2]; exact HC1.out.alloc (HC1.out.size) _
                have HNW2 : Hid (Bx v2 bn #[.bool false, .slice none 0 0, .slice none 0 0, .slice none 0 0, .int .i64 0, .int .i64 0] 50) := by rw [← hv2]; exact Bx.new' (w := v1) hbn _ _
                have HBN : Hid (W3.heap.size ≤ bn) := by rw [Hid, ← hbn]; exact HC1.out.size
                have HDq2 : Hid (Dc (fun b => b = bn ∨ b < W3.heap.size) v2 q rr) := by
                  rw [← hv2]
                  exact HDq1.out.go (Kept.of_below ((Below.refl _ _).alloc (Nat.le_refl _) _)) (fun b hb => hb.elim (fun hb => .inr (by omega)) .inl)
                clear hv2 hbn
                refine hK.out _ _ (HC2.out) (fun hHeld2 => ?_)
                clear hK K hHeld
                have hHeld := hHeld2
                clear hHeld2
                try simp only [Act.put, List.setIfInBounds_toArray, List.set_cons_zero, List.set_cons_succ]
                refine wpAnyH_ready (rs := [11]) (by kernel_rfl) (by simp) ?_
                refine AllReadyH.cons rfl (fun K hK => ?_) AllReadyH.nil
                refine stepR rfl 50 (.tmp 16) (.tmp 110) rfl bn q (by with_unfolding_all rfl) (by with_unfolding_all rfl) HNW2.out (by rfl) HDq2.out.len Tryz.sizeDom HDq2.out.one ?_
                refine hK.out _ _ ((below_row HC2.out HBN.out _)) (fun hHeld2 => ?_)
                clear hK K hHeld
                have hHeld := hHeld2
                clear hHeld2
                try simp only [Act.put, List.setIfInBounds_toArray, List.set_cons_zero, List.set_cons_succ]
                refine wpAnyH_take (i := 12) (oi := q7_18_12) (v := ?_) rfl (by kernel_rfl) (by kernel_rfl) (by kernel_rfl) (fun _ _ _ h => h) (Or.inl ⟨by rfl, ?_⟩) hHeld ?_
                rotate_left
                · intro w hSw; dsimp only [q7_18_12]; (try dsimp only at hSw); go_simp <;> with_reducible rfl
                try simp only [q7_18_12, Act.put, List.setIfInBounds_toArray, List.set_cons_zero, List.set_cons_succ]
                refine wpAnyH_done (by kernel_rfl) ?_ _
                exact ⟨bn, q, rfl, below_row HC2.out HBN.out _, HBN.out, HNW2.out.setRow _, HDq2.out.kept ⟨rfl, rfl, rfl, by simp [World.setRow], fun b _ hb => setRow_other _ _ b _ (fun e => hb (.inl e))⟩⟩
              refine AllReadyH.cons rfl (fun K hK => ?_) ?_
              · obtain ⟨bn, hbn⟩ : ∃ q, W3.heap.size = q := ⟨_, rfl⟩
                go_simp
                (try rw [hbn])
                obtain ⟨v1, hv1⟩ : ∃ q, W3.drew.alloc (Obj.cells #[.bool false, .slice none 0 0, .slice none 0 0, .slice none 0 0, .int .i64 0, .int .i64 0] 50) = q := ⟨_, rfl⟩
                (try rw [hv1])
                (try rw [show (W3.alloc (Obj.cells #[.bool false, .slice none 0 0, .slice none 0 0, .slice none 0 0, .int .i64 0, .int .i64 0] 50)).drew = v1 from hv1])
                have HC1 : Hid (Below W3.heap.size W3 v1) := by rw [← hv1]; exact HC0.out.alloc (HC0.out.size) _
                have HNW1 : Hid (Bx v1 bn #[.bool false, .slice none 0 0, .slice none 0 0, .slice none 0 0, .int .i64 0, .int .i64 0] 50) := by rw [← hv1]; exact Bx.new' (w := W3.drew) hbn _ _
                have HBN : Hid (W3.heap.size ≤ bn) := by rw [Hid, ← hbn]; exact Nat.le_refl _
                clear hv1 hbn
                refine hK.out _ _ (HC1.out) (fun hHeld2 => ?_)
                clear hK K hHeld
                have hHeld := hHeld2
                clear hHeld2
                try simp only [Act.put, List.setIfInBounds_toArray, List.set_cons_zero, List.set_cons_succ]
                refine wpAnyH_ready (rs := [6]) (by kernel_rfl) (by simp) ?_
                refine AllReadyH.cons rfl (fun K hK => ?_) AllReadyH.nil
                have HLT : Hid (bn < v1.heap.size) := Array.getElem?_eq_some_iff.1 HNW1.out.h |>.1
                go_simp
                refine (KA.out _ HC1.out).mono ?_
                rintro e v2 ⟨q, rfl, hq, hb⟩
                have HC2 : Hid (Below W3.heap.size W3 v2) := HC1.out.trans (hb.mono HC1.out.size)
                have HNW2 : Hid (Bx v2 bn #[.bool false, .slice none 0 0, .slice none 0 0, .slice none 0 0, .int .i64 0, .int .i64 0] 50) := HNW1.out.below hb
                have HDq2 : Hid (Dc (fun b => b = bn ∨ b < W3.heap.size) v2 q rr) := hq.dc _ (fun b hb => hb.elim (fun hb => by rw [hb]; exact HLT.out) (fun hb => Nat.lt_of_lt_of_le hb HC1.out.size))
                clear hb hq
                refine hK.out _ _ (HC2.out) (fun hHeld2 => ?_)
                clear hK K hHeld
                have hHeld := hHeld2
                clear hHeld2
                try simp only [Act.put, List.setIfInBounds_toArray, List.set_cons_zero, List.set_cons_succ]
                refine wpAnyH_take (i := 7) (oi := q7_18_7) (v := ?_) rfl (by kernel_rfl) (by kernel_rfl) (by kernel_rfl) (fun _ _ _ h => h) (Or.inl ⟨by rfl, ?_⟩) hHeld ?_
                rotate_left
                · intro w hSw; dsimp only [q7_18_7]; (try dsimp only at hSw); go_simp <;> with_reducible rfl
                try simp only [q7_18_7, Act.put, List.setIfInBounds_toArray, List.set_cons_zero, List.set_cons_succ]
                refine wpAnyH_take (i := 8) (oi := q7_18_8) (v := ?_) rfl (by kernel_rfl) (by kernel_rfl) (by kernel_rfl) (fun _ _ _ h => h) (Or.inl ⟨by rfl, ?_⟩) hHeld ?_
                rotate_left
                · intro w hSw; dsimp only [q7_18_8]; (try dsimp only at hSw); go_simp <;> with_reducible rfl
                try simp only [q7_18_8, Act.put, List.setIfInBounds_toArray, List.set_cons_zero, List.set_cons_succ]
                refine wpAnyH_take (i := 9) (oi := q7_18_9) (v := ?_) rfl (by kernel_rfl) (by kernel_rfl) (by kernel_rfl) (fun _ _ _ h => h) (Or.inl ⟨by rfl, ?_⟩) hHeld ?_
                rotate_left
                · intro w hSw; dsimp only [q7_18_9]; (try dsimp only at hSw); go_simp <;> with_reducible rfl
                try simp only [q7_18_9, Act.put, List.setIfInBounds_toArray, List.set_cons_zero, List.set_cons_succ]
                refine wpAnyH_ready (rs := [11]) (by kernel_rfl) (by simp) ?_
                refine AllReadyH.cons rfl (fun K hK => ?_) AllReadyH.nil
                refine stepR rfl 50 (.tmp 16) (.tmp 110) rfl bn q (by with_unfolding_all rfl) (by with_unfolding_all rfl) HNW2.out (by rfl) HDq2.out.len Tryz.sizeDom HDq2.out.one ?_
                refine hK.out _ _ ((below_row HC2.out HBN.out _)) (fun hHeld2 => ?_)
                clear hK K hHeld
                have hHeld := hHeld2
                clear hHeld2
                try simp only [Act.put, List.setIfInBounds_toArray, List.set_cons_zero, List.set_cons_succ]
                refine wpAnyH_take (i := 12) (oi := q7_18_12) (v := ?_) rfl (by kernel_rfl) (by kernel_rfl) (by kernel_rfl) (fun _ _ _ h => h) (Or.inl ⟨by rfl, ?_⟩) hHeld ?_
                rotate_left
                · intro w hSw; dsimp only [q7_18_12]; (try dsimp only at hSw); go_simp <;> with_reducible rfl
                try simp only [q7_18_12, Act.put, List.setIfInBounds_toArray, List.set_cons_zero, List.set_cons_succ]
                refine wpAnyH_done (by kernel_rfl) ?_ _
                exact ⟨bn, q, rfl, below_row HC2.out HBN.out _, HBN.out, HNW2.out.setRow _, HDq2.out.kept ⟨rfl, rfl, rfl, by simp [World.setRow], fun b _ hb => setRow_other _ _ b _ (fun e => hb (.inl e))⟩⟩
              exact AllReadyH.nil
            case hK =>
              rintro bn qy W5 ⟨hb5, hbn, hbx, hdq⟩
              obtain ⟨g0, s1, s2, s3, g4, g5, rfl⟩ := six_of2 hdq
              have HYB : Hid (Bx W5 bn #[.bool g0, .slice s1.1 s1.2.1 s1.2.2, .slice s2.1 s2.2.1 s2.2.2, .slice s3.1 s3.2.1 s3.2.2, .int .i64 g4, .int .i64 g5] 50) := hbx
              have HB45 : Hid (Below W3.heap.size W3 W5) := hb5
              have HB5 : Hid (Below W.heap.size W W5) := HBc.out.trans (hb5.mono HBc.out.size)
              have HX5 : Hid (Bx W5 P #[.int .i64 (vn : Int), .int .i64 op, .int .i64 nn] 32) := HXc.out.below hb5
              have HLX5 : Hid (LX (DrB (ptr q)) W.heap.size W5 (.slice (some ⟨g, o0, none⟩) k kx) D' vs) := HLXc.out.below hb5
              have HDW5 : Hid (Dw (fun b => (Value.slice (some ⟨g, o0, none⟩) k kx).ownBlock = some b) W5 (ptr q) R2) := HDWc.out.below hb5
              have HDY : Hid (Dc (fun b => b = bn ∨ b < W3.heap.size) W5 [.bool g0, .slice s1.1 s1.2.1 s1.2.2, .slice s2.1 s2.2.1 s2.2.2, .slice s3.1 s3.2.1 s3.2.2, .int .i64 g4, .int .i64 g5] rr) := hdq
              have KE : Hid (∀ w, Below W5.heap.size W5 w → Calls Tryz.prog 33 #[.agg #[.bool g0, .slice s1.1 s1.2.1 s1.2.2, .slice s2.1 s2.2.1 s2.2.2, .slice s3.1 s3.2.1 s3.2.2, .int .i64 g4, .int .i64 g5]] w fun e w' => e = .returned (.bool false) ∧ Below w.heap.size w w') := fun w hb => by
                have := rempty_d (HDY.out.below hb)
                rw [HRE.out.1] at this
                exact this
              have KW : Hid (∀ w, Below W5.heap.size W5 w → Calls Tryz.prog 34 #[.agg #[.bool g0, .slice s1.1 s1.2.1 s1.2.2, .slice s2.1 s2.2.1 s2.2.2, .slice s3.1 s3.2.1 s3.2.2, .int .i64 g4, .int .i64 g5], .agg #[x0, x1, x2, x3, x4, x5]] w fun e w' => e = .returned (.bool true) ∧ Below w.heap.size w w') := fun w hb => within_yes (HDY.out.below hb) ((HDX.out.below HB45.out).below hb) (right_sz HRE.out.2.2.1).1 HRE.out.2.2.1 HRE.out.2.1
              have HP0 : Hid (Below W5.heap.size W5 W5.drew) := (Below.refl _ _).drew
              have HCX5 : Hid (∀ w, Below W5.heap.size W5 w → w.cell? ⟨g, o0 + vn * 6, none⟩ = some x0 ∧ w.cell? ⟨g, o0 + vn * 6 + 1, none⟩ = some x1 ∧ w.cell? ⟨g, o0 + vn * 6 + 2, none⟩ = some x2 ∧ w.cell? ⟨g, o0 + vn * 6 + 3, none⟩ = some x3 ∧ w.cell? ⟨g, o0 + vn * 6 + 4, none⟩ = some x4 ∧ w.cell? ⟨g, o0 + vn * 6 + 5, none⟩ = some x5) := fun w hb => HCX.out w (HB45.out.trans (hb.mono HB45.out.size))
              have HSZW : Hid (∀ b, (Value.slice (some ⟨g, o0, none⟩) k kx).ownBlock = some b ∨ DrB (ptr q) b → b < W3.heap.size) := fun b hb => hb.elim (fun hb => HLXc.out.r.lt hb) (fun hb => HDWc.out.lt hb)
              clear hb5 hbx hdq hbn HCX KA FS HC0 HB45 HDX HLXc HDWc HXc HBc
              go_upto_region 19 with (fail)
              refine wp_region_held_drew (S := fun X : World => Below W5.heap.size W5 X) (by kernel_rfl) (HP0.out) (fun hHeld => ?_)
              refine wpAnyH_take (i := 0) (oi := q7_19_0) (v := ?_) rfl (by kernel_rfl) (by kernel_rfl) (by kernel_rfl) (fun _ _ _ h => h) (Or.inl ⟨by rfl, ?_⟩) hHeld ?_
              rotate_left
              · intro w hSw; dsimp only [q7_19_0]; (try dsimp only at hSw); go_simp <;> with_reducible rfl
              try simp only [q7_19_0, Act.put, List.setIfInBounds_toArray, List.set_cons_zero, List.set_cons_succ]
              refine wpAnyH_take (i := 1) (oi := q7_19_1) (v := ?_) rfl (by kernel_rfl) (by kernel_rfl) (by kernel_rfl) (fun _ _ _ h => h) (Or.inl ⟨by rfl, ?_⟩) hHeld ?_
              rotate_left
              · intro w hSw; dsimp only [q7_19_1]; (try dsimp only at hSw); go_simp <;> with_reducible rfl
              try simp only [q7_19_1, Act.put, List.setIfInBounds_toArray, List.set_cons_zero, List.set_cons_succ]
              refine wpAnyH_take (i := 2) (oi := q7_19_2) (v := ?_) rfl (by kernel_rfl) (by kernel_rfl) (by kernel_rfl) (fun _ _ _ h => h) (Or.inl ⟨by rfl, ?_⟩) hHeld ?_
              rotate_left
              · intro w hSw; dsimp only [q7_19_2]; (try dsimp only at hSw); go_simp <;> with_reducible rfl
              try simp only [q7_19_2, Act.put, List.setIfInBounds_toArray, List.set_cons_zero, List.set_cons_succ]
              refine wpAnyH_take (i := 3) (oi := q7_19_3) (v := ?_) rfl (by kernel_rfl) (by kernel_rfl) (by kernel_rfl) (fun _ _ _ h => h) (Or.inl ⟨by rfl, ?_⟩) hHeld ?_
              rotate_left
              · intro w hSw; dsimp only [q7_19_3]; obtain ⟨y0, y1, y2, y3, y4, y5⟩ := (HYB.out.below hSw).six; go_simp <;> with_reducible rfl
              try simp only [q7_19_3, Act.put, List.setIfInBounds_toArray, List.set_cons_zero, List.set_cons_succ]
              refine wpAnyH_ready (rs := [4]) (by kernel_rfl) (by simp) ?_
              refine AllReadyH.cons rfl (fun K hK => ?_) AllReadyH.nil
              go_simp
              refine (KE.out _ HP0.out).mono ?_
              rintro e u1 ⟨rfl, hbu⟩
              have HP1 : Hid (Below W5.heap.size W5 u1) := HP0.out.trans (hbu.mono HP0.out.size)
              clear hbu
              refine hK.out _ _ (HP1.out) (fun hHeld2 => ?_)
              clear hK K hHeld
              have hHeld := hHeld2
              clear hHeld2
              try simp only [Act.put, List.setIfInBounds_toArray, List.set_cons_zero, List.set_cons_succ]
              refine wpAnyH_take (i := 5) (oi := q7_19_5) (v := ?_) rfl (by kernel_rfl) (by kernel_rfl) (by kernel_rfl) (fun _ _ _ h => h) (Or.inl ⟨by rfl, ?_⟩) hHeld ?_
              rotate_left
              · intro w hSw; dsimp only [q7_19_5]; (try dsimp only at hSw); go_simp <;> with_reducible rfl
              try simp only [q7_19_5, Act.put, List.setIfInBounds_toArray, List.set_cons_zero, List.set_cons_succ]
              refine wpAnyH_take (i := 6) (oi := q7_19_6) (v := ?_) rfl (by kernel_rfl) (by kernel_rfl) (by kernel_rfl) (fun _ _ _ h => h) (Or.inl ⟨by rfl, ?_⟩) hHeld ?_
              rotate_left
              · intro w hSw; dsimp only [q7_19_6]; (try dsimp only at hSw); go_simp <;> with_reducible rfl
              try simp only [q7_19_6, Act.put, List.setIfInBounds_toArray, List.set_cons_zero, List.set_cons_succ]
              refine wpAnyH_take (i := 7) (oi := q7_19_7) (v := ?_) rfl (by kernel_rfl) (by kernel_rfl) (by kernel_rfl) (fun _ _ _ h => h) (Or.inl ⟨by rfl, ?_⟩) hHeld ?_
              rotate_left
              · intro w hSw; dsimp only [q7_19_7]; obtain ⟨y0, y1, y2, y3, y4, y5⟩ := (HYB.out.below hSw).six; go_simp <;> with_reducible rfl
              try simp only [q7_19_7, Act.put, List.setIfInBounds_toArray, List.set_cons_zero, List.set_cons_succ]
              refine wpAnyH_take (i := 8) (oi := q7_19_8) (v := ?_) rfl (by kernel_rfl) (by kernel_rfl) (by kernel_rfl) (fun _ _ _ h => h) (Or.inl ⟨by rfl, ?_⟩) hHeld ?_
              rotate_left
              · intro w hSw; dsimp only [q7_19_8]; (try dsimp only at hSw); go_simp <;> with_reducible rfl
              try simp only [q7_19_8, Act.put, List.setIfInBounds_toArray, List.set_cons_zero, List.set_cons_succ]
              refine wpAnyH_take (i := 9) (oi := q7_19_9) (v := ?_) rfl (by kernel_rfl) (by kernel_rfl) (by kernel_rfl) (fun _ _ _ h => h) (Or.inl ⟨by rfl, ?_⟩) hHeld ?_
              rotate_left
              · intro w hSw; dsimp only [q7_19_9]; (try dsimp only at hSw); go_simp <;> with_reducible rfl
              try simp only [q7_19_9, Act.put, List.setIfInBounds_toArray, List.set_cons_zero, List.set_cons_succ]
              refine wpAnyH_take (i := 10) (oi := q7_19_10) (v := ?_) rfl (by kernel_rfl) (by kernel_rfl) (by kernel_rfl) (fun _ _ _ h => h) (Or.inl ⟨by rfl, ?_⟩) hHeld ?_
              rotate_left
              · intro w hSw; dsimp only [q7_19_10]; obtain ⟨y0, y1, y2⟩ := (HX5.out.below hSw).three; go_simp <;> with_reducible rfl
              try simp only [q7_19_10, Act.put, List.setIfInBounds_toArray, List.set_cons_zero, List.set_cons_succ]
              refine wpAnyH_take (i := 11) (oi := q7_19_11) (v := ?_) rfl (by kernel_rfl) (by kernel_rfl) (by kernel_rfl) (fun _ _ _ h => h) (Or.inl ⟨by rfl, ?_⟩) hHeld ?_
              rotate_left
              · intro w hSw; dsimp only [q7_19_11]; (try dsimp only at hSw); go_simp <;> with_reducible rfl
              try simp only [q7_19_11, Act.put, List.setIfInBounds_toArray, List.set_cons_zero, List.set_cons_succ]
              refine wpAnyH_take (i := 12) (oi := q7_19_12) (v := ?_) rfl (by kernel_rfl) (by kernel_rfl) (by kernel_rfl) (fun _ _ _ h => h) (Or.inl ⟨by rfl, ?_⟩) hHeld ?_
              rotate_left
              · intro w hSw; dsimp only [q7_19_12]; obtain ⟨y0, y1, y2, y3, y4, y5⟩ := HCX5.out _ hSw; go_simp <;> with_reducible rfl
              try simp only [q7_19_12, Act.put, List.setIfInBounds_toArray, List.set_cons_zero, List.set_cons_succ]
              refine wpAnyH_ready (rs := [13]) (by kernel_rfl) (by simp) ?_
              refine AllReadyH.cons rfl (fun K hK => ?_) AllReadyH.nil
              go_simp
              refine (KW.out _ HP1.out).mono ?_
              rintro e u2 ⟨rfl, hbu⟩
              have HP2 : Hid (Below W5.heap.size W5 u2) := HP1.out.trans (hbu.mono HP1.out.size)
              clear hbu
              refine hK.out _ _ (HP2.out) (fun hHeld2 => ?_)
              clear hK K hHeld
              have hHeld := hHeld2
              clear hHeld2
              try simp only [Act.put, List.setIfInBounds_toArray, List.set_cons_zero, List.set_cons_succ]
              refine wpAnyH_take (i := 14) (oi := q7_19_14) (v := ?_) rfl (by kernel_rfl) (by kernel_rfl) (by kernel_rfl) (fun _ _ _ h => h) (Or.inl ⟨by rfl, ?_⟩) hHeld ?_
              rotate_left
              · intro w hSw; dsimp only [q7_19_14]; (try dsimp only at hSw); go_simp <;> with_reducible rfl
              try simp only [q7_19_14, Act.put, List.setIfInBounds_toArray, List.set_cons_zero, List.set_cons_succ]
              refine wpAnyH_take (i := 15) (oi := q7_19_15) (v := ?_) rfl (by kernel_rfl) (by kernel_rfl) (by kernel_rfl) (fun _ _ _ h => h) (Or.inl ⟨by rfl, ?_⟩) hHeld ?_
              rotate_left
              · intro w hSw; dsimp only [q7_19_15]; (try dsimp only at hSw); go_simp <;> with_reducible rfl
              try simp only [q7_19_15, Act.put, List.setIfInBounds_toArray, List.set_cons_zero, List.set_cons_succ]
              refine wpAnyH_done (by kernel_rfl) ?_ _
              obtain ⟨x0', x1', x2'⟩ := (HX5.out.below HP2.out).three
              obtain ⟨y0, y1, y2, y3, y4, y5⟩ := (HYB.out.below HP2.out).six
              have HLXu : Hid (LX (DrB (ptr q)) W.heap.size u2 (.slice (some ⟨g, o0, none⟩) k kx) D' vs) := HLX5.out.below HP2.out
              have HDWu : Hid (Dw (fun b => (Value.slice (some ⟨g, o0, none⟩) k kx).ownBlock = some b) u2 (ptr q) R2) := HDW5.out.below HP2.out
              have HBu : Hid (Below W.heap.size W u2) := HB5.out.trans (HP2.out.mono HB5.out.size)
              have HDYu : Hid (Dc (fun b => b = bn ∨ b < W3.heap.size) u2 [.bool g0, .slice s1.1 s1.2.1 s1.2.2, .slice s2.1 s2.2.1 s2.2.2, .slice s3.1 s3.2.1 s3.2.2, .int .i64 g4, .int .i64 g5] rr) := HDY.out.below HP2.out
              have hwk : IntKind.i64.wrap ((s : Int) + 1) = (s : Int) + 1 := by rw [IntKind.wrap_i64]; omega
              have HTH : Hid (u2.there g (o0 + vn * 6) 6) := by
                obtain ⟨g', cap', e', _, _, _, _, hth⟩ := HLXu.out.r.at HVC.out
                injection e' with e1 _ _
                injection e1 with e1
                injection e1 with e1 e2 _
                subst e1
                unfold Hid
                rw [HO0.out, Nat.zero_add]
                exact hth
              have hone3 := HDYu.out.one
              go_wp2_with (with_reducible refine stM rfl (.tmp 132) (.tmp 131) rfl g (o0 + vn * 6) [.bool g0, .slice s1.1 s1.2.1 s1.2.2, .slice s2.1 s2.2.1 s2.2.2, .slice s3.1 s3.2.1 s3.2.2, .int .i64 g4, .int .i64 g5] (by with_unfolding_all rfl) (by with_unfolding_all rfl) HTH.out HDYu.out.len hone3 ?_)
              go_roundw
              case rel =>
                have e0 : o0 + vn * 6 = vn * 6 := by rw [HO0.out]; omega
                have hown : (Value.slice (some ⟨g, o0, none⟩) k kx).ownBlock = some g := by rw [HO0.out]; rfl
                have hvsl : vs.length = k := by rw [HLXu.out.n, HI.out.1.n, HND.out]
                have hkk : Kept (fun b => b = g) u2 (u2.setCells g (vn * 6) [.bool g0, .slice s1.1 s1.2.1 s1.2.2, .slice s2.1 s2.2.1 s2.2.2, .slice s3.1 s3.2.1 s3.2.2, .int .i64 g4, .int .i64 g5]) := Kept.setCells (X := fun b => b = g) rfl _ _ (Kept.refl _ _)
                have h1 := HLXu.out.put (g := g) (cap := kx) (i := vn) (by rw [HO0.out, hvsl]) (by omega) (HDYu.out.up (fun b hb => .inl (.inr (HSZW.out b hb))))
                have h2 := HDWu.out.setc hkk hown (HOXX.out g hown).1
                have h3 := HBu.out.trans (hkk.below HBu.out.size (fun b hb => by rw [hb]; exact (HOXX.out g hown).2))
                rw [e0]
                have h4 : Lft D (D'.set vn rr) ∧ ((s + 1 : Nat) : Int) + sumS (D'.set vn rr) ≤ M := ⟨HRE.out.2.2.2.1, by have := HRE.out.2.2.2.2; have := HI.out.2; omega⟩
                first | exact ⟨s + 1, by omega, D'.set vn rr, h4, ⟨vs.set vn [.bool g0, .slice s1.1 s1.2.1 s1.2.2, .slice s2.1 s2.2.1 s2.2.2, .slice s3.1 s3.2.1 s3.2.2, .int .i64 g4, .int .i64 g5], h1⟩, ⟨R2, h2⟩, h3⟩ | exact ⟨s + 1, D'.set vn rr, R2, vs.set vn [.bool g0, .slice s1.1 s1.2.1 s1.2.2, .slice s2.1 s2.2.1 s2.2.2, .slice s3.1 s3.2.1 s3.2.2, .int .i64 g4, .int .i64 g5], by go_num, h4, h1, h2, h3⟩
              case measure => simp [intOf]; omega
          · have hns0 : (0 : Int) < (ns : Int) := by omega
            have hnsz : ¬ (ns : Int) = 0 := by omega
            obtain ⟨m4, hm4⟩ : ∃ m : Nat, s % ns = m := ⟨_, rfl⟩
            have hm4l : m4 < ns := by rw [← hm4]; exact Nat.mod_lt _ (by omega)
            have hmod : Int.tmod (s : Int) (ns : Int) = (m4 : Int) := by rw [← hm4]; rfl
            have hm4i : (m4 : Int) < (ns : Int) := by omega
            obtain ⟨b4, off4, hp4, hb4l, hc4⟩ : ∃ b4 off4, p4 = some ⟨b4, off4, none⟩ ∧ b4 < W.heap.size ∧ ∀ i x, B[i]? = some x → W.cell? ⟨b4, off4 + i, none⟩ = some (.bool x) := by
              obtain ⟨a', c', e', hh⟩ := HS.out
              injection e' with e1 _ _
              obtain ⟨b, off, q1, q2, q3⟩ := hh (by rw [HNB.out]; omega)
              exact ⟨b, off, by rw [e1, q1], q2, q3⟩
            subst hp4
            obtain ⟨bb, hbb⟩ : ∃ x, B[m4]? = some x := ⟨_, List.getElem?_eq_getElem (by rw [HNB.out]; exact hm4l)⟩
            have hcb : W3.cell? ⟨b4, off4 + m4, none⟩ = some (.bool bb) := (HBc.out.cell (p := ⟨b4, _, none⟩) hb4l).trans (hc4 _ _ hbb)
            clear hm4 hm4l hb4l hc4 hbb
            cases bb
            · clear HLXp HDWp
              have hst := HST.out op (.inl rfl)
              obtain ⟨hs0, hs1, hs2, hs3, hs4, hs5⟩ := hst
              obtain ⟨c, hvc⟩ : ∃ c, vs[vn]? = some c := ⟨_, List.getElem?_eq_getElem (by rw [HLXc.out.n, HI.out.1.n, HND.out]; exact hvl)⟩
              obtain ⟨g, cap, hpx, hgl, hcap1, hcap2, hra, hth⟩ := HLXc.out.r.at hvc
              have hDx := HLXc.out.d vn c d hvc HDD.out
              obtain ⟨o0, ho0⟩ : ∃ o : Nat, o = 0 := ⟨_, rfl⟩
              obtain rfl : px = some ⟨g, o0, none⟩ := by injection hpx with hp1 _ _; rw [ho0]; exact hp1
              have HO0 : Hid (o0 = 0) := ho0
              obtain ⟨x0, x1, x2, x3, x4, x5, rfl⟩ := list6 hDx.len
              have HVC : Hid (vs[vn]? = some [x0, x1, x2, x3, x4, x5]) := hvc
              have HCX : Hid (∀ w, Below W3.heap.size W3 w → w.cell? ⟨g, o0 + vn * 6, none⟩ = some x0 ∧ w.cell? ⟨g, o0 + vn * 6 + 1, none⟩ = some x1 ∧ w.cell? ⟨g, o0 + vn * 6 + 2, none⟩ = some x2 ∧ w.cell? ⟨g, o0 + vn * 6 + 3, none⟩ = some x3 ∧ w.cell? ⟨g, o0 + vn * 6 + 4, none⟩ = some x4 ∧ w.cell? ⟨g, o0 + vn * 6 + 5, none⟩ = some x5) := fun w hb => by
                have hc : ∀ m u, [x0, x1, x2, x3, x4, x5][m]? = some u → w.cell? ⟨g, o0 + vn * 6 + m, none⟩ = some u := fun m u hu => (hb.cell (p := ⟨g, _, none⟩) hgl).trans (by rw [ho0, Nat.zero_add]; exact hra m u hu)
                exact ⟨hc 0 _ rfl, hc 1 _ rfl, hc 2 _ rfl, hc 3 _ rfl, hc 4 _ rfl, hc 5 _ rfl⟩
              have HDX : Hid (Dc (fun b => (Value.slice (some ⟨g, o0, none⟩) k kx).ownBlock = some b ∨ DrB (ptr q) b) W3 [x0, x1, x2, x3, x4, x5] d) := hDx
              have KA0 := fun w (hb : Below W3.heap.size W3 w) => apply_any (vn : Int) op nn (HDX.out.below hb) HGD.out HFN.out
              rw [hs0] at KA0
              obtain ⟨rr, hrr⟩ : ∃ q, (resM d op nn).1 = q := ⟨_, rfl⟩
              rw [hrr] at KA0 hs1 hs2 hs3 hs4 hs5
              have KA : Hid (∀ w, Below W3.heap.size W3 w → Calls Tryz.prog 20 #[.agg #[x0, x1, x2, x3, x4, x5], .agg #[.int .i64 (vn : Int), .int .i64 op, .int .i64 nn]] w fun e w' => ∃ q : List Value, e = .returned (.tuple #[.agg q.toArray, .int .i64 0]) ∧ Ans w.heap.size w' q rr ∧ Below w.heap.size w w') := KA0
              have HRE : Hid (reM rr = false ∧ LeA rr d ∧ rightM rr = true ∧ Lft D (D'.set vn rr) ∧ sumS (D'.set vn rr) + 1 ≤ sumS D') := ⟨hs1, hs2, hs3, hs4, hs5⟩
              have hone := hDx.one
              have HOXX : Hid _ := HOX.out
              clear KA0 hrr hs0 hs1 hs2 hs3 hs4 hs5 hvc hpx hgl hcap1 hcap2 hra hth hDx ho0
              obtain ⟨x0', x1', x2'⟩ := HXc.out.three
              go_upto_region 18 with (fail)
              have FS : Hid (∀ w, Below W3.heap.size W3 w → Bx w P #[.int .i64 (vn : Int), .int .i64 op, .int .i64 nn] 32) := fun w hb => HXc.out.below hb
              have HC0 : Hid (Below W3.heap.size W3 W3.drew) := (Below.refl _ _).drew
              clear x0' x1' x2'
              apply wp_ways2 (R := fun bn qy w' => Below W3.heap.size W3 w' ∧ W3.heap.size ≤ bn ∧ Bx w' bn qy.toArray 50 ∧ Dc (fun b => b = bn ∨ b < W3.heap.size) w' qy rr)
              case h =>
                refine wp_region_held_drew (S := fun X : World => Below W3.heap.size W3 X) (by kernel_rfl) (HC0.out) (fun hHeld => ?_)
                refine wpAnyH_take (i := 0) (oi := q7_18_0) (v := ?_) rfl (by kernel_rfl) (by kernel_rfl) (by kernel_rfl) (fun _ _ _ h => h) (Or.inl ⟨by rfl, ?_⟩) hHeld ?_
                rotate_left
                · intro w hSw; dsimp only [q7_18_0]; (try dsimp only at hSw); go_simp <;> with_reducible rfl
                try simp only [q7_18_0, Act.put, List.setIfInBounds_toArray, List.set_cons_zero, List.set_cons_succ]
                refine wpAnyH_take (i := 1) (oi := q7_18_1) (v := ?_) rfl (by kernel_rfl) (by kernel_rfl) (by kernel_rfl) (fun _ _ _ h => h) (Or.inl ⟨by rfl, ?_⟩) hHeld ?_
                rotate_left
                · intro w hSw; dsimp only [q7_18_1]; (try dsimp only at hSw); go_simp <;> with_reducible rfl
                try simp only [q7_18_1, Act.put, List.setIfInBounds_toArray, List.set_cons_zero, List.set_cons_succ]
                refine wpAnyH_take (i := 2) (oi := q7_18_2) (v := ?_) rfl (by kernel_rfl) (by kernel_rfl) (by kernel_rfl) (fun _ _ _ h => h) (Or.inl ⟨by rfl, ?_⟩) hHeld ?_
                rotate_left
                · intro w hSw; dsimp only [q7_18_2]; obtain ⟨y0, y1, y2⟩ := (FS.out _ hSw).three; go_simp <;> with_reducible rfl
                try simp only [q7_18_2, Act.put, List.setIfInBounds_toArray, List.set_cons_zero, List.set_cons_succ]
                refine wpAnyH_take (i := 3) (oi := q7_18_3) (v := ?_) rfl (by kernel_rfl) (by kernel_rfl) (by kernel_rfl) (fun _ _ _ h => h) (Or.inl ⟨by rfl, ?_⟩) hHeld ?_
                rotate_left
                · intro w hSw; dsimp only [q7_18_3]; (try dsimp only at hSw); go_simp <;> with_reducible rfl
                try simp only [q7_18_3, Act.put, List.setIfInBounds_toArray, List.set_cons_zero, List.set_cons_succ]
                refine wpAnyH_take (i := 4) (oi := q7_18_4) (v := ?_) rfl (by kernel_rfl) (by kernel_rfl) (by kernel_rfl) (fun _ _ _ h => h) (Or.inl ⟨by rfl, ?_⟩) hHeld ?_
                rotate_left
                · intro w hSw; dsimp only [q7_18_4]; obtain ⟨y0, y1, y2, y3, y4, y5⟩ := HCX.out _ hSw; go_simp <;> with_reducible rfl
                try simp only [q7_18_4, Act.put, List.setIfInBounds_toArray, List.set_cons_zero, List.set_cons_succ]
                refine wpAnyH_take (i := 5) (oi := q7_18_5) (v := ?_) rfl (by kernel_rfl) (by kernel_rfl) (by kernel_rfl) (fun _ _ _ h => h) (Or.inl ⟨by rfl, ?_⟩) hHeld ?_
                rotate_left
                · intro w hSw; dsimp only [q7_18_5]; obtain ⟨y0, y1, y2⟩ := (FS.out _ hSw).three; go_simp <;> with_reducible rfl
                try simp only [q7_18_5, Act.put, List.setIfInBounds_toArray, List.set_cons_zero, List.set_cons_succ]
                refine wpAnyH_ready (rs := [6, 10]) (by kernel_rfl) (by simp) ?_
                refine AllReadyH.cons rfl (fun K hK => ?_) ?_
                · go_simp
                  refine (KA.out _ HC0.out).mono ?_
                  rintro e v1 ⟨q, rfl, hq, hb⟩
                  have HC1 : Hid (Below W3.heap.size W3 v1) := HC0.out.trans (hb.mono HC0.out.size)
                  have HDq1 : Hid (Dc (fun b => b < W3.heap.size) v1 q rr) := hq.dc _ (fun b hb => Nat.lt_of_lt_of_le hb HC0.out.size)
                  clear hb hq
                  refine hK.out _ _ (HC1.out) (fun hHeld2 => ?_)
                  clear hK K hHeld
                  have hHeld := hHeld2
                  clear hHeld2
                  try simp only [Act.put, List.setIfInBounds_toArray, List.set_cons_zero, List.set_cons_succ]
                  refine wpAnyH_take (i := 7) (oi := q7_18_7) (v := ?_) rfl (by kernel_rfl) (by kernel_rfl) (by kernel_rfl) (fun _ _ _ h => h) (Or.inl ⟨by rfl, ?_⟩) hHeld ?_
                  rotate_left
                  · intro w hSw; dsimp only [q7_18_7]; (try dsimp only at hSw); go_simp <;> with_reducible rfl
                  try simp only [q7_18_7, Act.put, List.setIfInBounds_toArray, List.set_cons_zero, List.set_cons_succ]
                  refine wpAnyH_take (i := 8) (oi := q7_18_8) (v := ?_) rfl (by kernel_rfl) (by kernel_rfl) (by kernel_rfl) (fun _ _ _ h => h) (Or.inl ⟨by rfl, ?_⟩) hHeld ?_
                  rotate_left
                  · intro w hSw; dsimp only [q7_18_8]; (try dsimp only at hSw); go_simp <;> with_reducible rfl
                  try simp only [q7_18_8, Act.put, List.setIfInBounds_toArray, List.set_cons_zero, List.set_cons_succ]
                  refine wpAnyH_take (i := 9) (oi := q7_18_9) (v := ?_) rfl (by kernel_rfl) (by kernel_rfl) (by kernel_rfl) (fun _ _ _ h => h) (Or.inl ⟨by rfl, ?_⟩) hHeld ?_
                  rotate_left
                  · intro w hSw; dsimp only [q7_18_9]; (try dsimp only at hSw); go_simp <;> with_reducible rfl
                  try simp only [q7_18_9, Act.put, List.setIfInBounds_toArray, List.set_cons_zero, List.set_cons_succ]
                  refine wpAnyH_ready (rs := [10]) (by kernel_rfl) (by simp) ?_
                  refine AllReadyH.cons rfl (fun K hK => ?_) AllReadyH.nil
                  obtain ⟨bn, hbn⟩ : ∃ q, v1.heap.size = q := ⟨_, rfl⟩
                  go_simp
                  (try rw [hbn])
                  obtain ⟨v2, hv2⟩ : ∃ q, v1.alloc (Obj.cells #[.bool false, .slice none 0 0, .slice none 0 0, .slice none 0 0, .int .i64 0, .int .i64 0] 50) = q := ⟨_, rfl⟩
                  (try rw [hv2])
                  (try rw [show (v1.alloc (Obj.cells #[.bool false, .slice none 0 0, .slice none 0 0, .slice none 0 0, .int .i64 0, .int .i64 0] 50)).drew = v2 from hv2])
                  have HC2 : Hid (Below W3.heap.size W3 v2) := by rw [← hv2]; exact HC1.out.alloc (HC1.out.size) _
                  have HNW2 : Hid (Bx v2 bn #[.bool false, .slice none 0 0, .slice none 0 0, .slice none 0 0, .int .i64 0, .int .i64 0] 50) := by rw [← hv2]; exact Bx.new' (w := v1) hbn _ _
                  have HBN : Hid (W3.heap.size ≤ bn) := by rw [Hid, ← hbn]; exact HC1.out.size
                  have HDq2 : Hid (Dc (fun b => b = bn ∨ b < W3.heap.size) v2 q rr) := by
                    rw [← hv2]
                    exact HDq1.out.go (Kept.of_below ((Below.refl _ _).alloc (Nat.le_refl _) _)) (fun b hb => hb.elim (fun hb => .inr (by omega)) .inl)
                  clear hv2 hbn
                  refine hK.out _ _ (HC2.out) (fun hHeld2 => ?_)
                  clear hK K hHeld
                  have hHeld := hHeld2
                  clear hHeld2
                  try simp only [Act.put, List.setIfInBounds_toArray, List.set_cons_zero, List.set_cons_succ]
                  refine wpAnyH_ready (rs := [11]) (by kernel_rfl) (by simp) ?_
                  refine AllReadyH.cons rfl (fun K hK => ?_) AllReadyH.nil
                  refine stepR rfl 50 (.tmp 16) (.tmp 110) rfl bn q (by with_unfolding_all rfl) (by with_unfolding_all rfl) HNW2.out (by rfl) HDq2.out.len Tryz.sizeDom HDq2.out.one ?_
                  refine hK.out _ _ ((below_row HC2.out HBN.out _)) (fun hHeld2 => ?_)
                  clear hK K hHeld
                  have hHeld := hHeld2
                  clear hHeld2
                  try simp only [Act.put, List.setIfInBounds_toArray, List.set_cons_zero, List.set_cons_succ]
                  refine wpAnyH_take (i := 12) (oi := q7_18_12) (v := ?_) rfl (by kernel_rfl) (by kernel_rfl) (by kernel_rfl) (fun _ _ _ h => h) (Or.inl ⟨by rfl, ?_⟩) hHeld ?_
                  rotate_left
                  · intro w hSw; dsimp only [q7_18_12]; (try dsimp only at hSw); go_simp <;> with_reducible rfl
                  try simp only [q7_18_12, Act.put, List.setIfInBounds_toArray, List.set_cons_zero, List.set_cons_succ]
                  refine wpAnyH_done (by kernel_rfl) ?_ _
                  exact ⟨bn, q, rfl, below_row HC2.out HBN.out _, HBN.out, HNW2.out.setRow _, HDq2.out.kept ⟨rfl, rfl, rfl, by simp [World.setRow], fun b _ hb => setRow_other _ _ b _ (fun e => hb (.inl e))⟩⟩
                refine AllReadyH.cons rfl (fun K hK => ?_) ?_
                · obtain ⟨bn, hbn⟩ : ∃ q, W3.heap.size = q := ⟨_, rfl⟩
                  go_simp
                  (try rw [hbn])
                  obtain ⟨v1, hv1⟩ : ∃ q, W3.drew.alloc (Obj.cells #[.bool false, .slice none 0 0, .slice none 0 0, .slice none 0 0, .int .i64 0, .int .i64 0] 50) = q := ⟨_, rfl⟩
                  (try rw [hv1])
                  (try rw [show (W3.alloc (Obj.cells #[.bool false, .slice none 0 0, .slice none 0 0, .slice none 0 0, .int .i64 0, .int .i64 0] 50)).drew = v1 from hv1])
                  have HC1 : Hid (Below W3.heap.size W3 v1) := by rw [← hv1]; exact HC0.out.alloc (HC0.out.size) _
                  have HNW1 : Hid (Bx v1 bn #[.bool false, .slice none 0 0, .slice none 0 0, .slice none 0 0, .int .i64 0, .int .i64 0] 50) := by rw [← hv1]; exact Bx.new' (w := W3.drew) hbn _ _
                  have HBN : Hid (W3.heap.size ≤ bn) := by rw [Hid, ← hbn]; exact Nat.le_refl _
                  clear hv1 hbn
                  refine hK.out _ _ (HC1.out) (fun hHeld2 => ?_)
                  clear hK K hHeld
                  have hHeld := hHeld2
                  clear hHeld2
                  try simp only [Act.put, List.setIfInBounds_toArray, List.set_cons_zero, List.set_cons_succ]
                  refine wpAnyH_ready (rs := [6]) (by kernel_rfl) (by simp) ?_
                  refine AllReadyH.cons rfl (fun K hK => ?_) AllReadyH.nil
                  have HLT : Hid (bn < v1.heap.size) := Array.getElem?_eq_some_iff.1 HNW1.out.h |>.1
                  go_simp
                  refine (KA.out _ HC1.out).mono ?_
                  rintro e v2 ⟨q, rfl, hq, hb⟩
                  have HC2 : Hid (Below W3.heap.size W3 v2) := HC1.out.trans (hb.mono HC1.out.size)
                  have HNW2 : Hid (Bx v2 bn #[.bool false, .slice none 0 0, .slice none 0 0, .slice none 0 0, .int .i64 0, .int .i64 0] 50) := HNW1.out.below hb
                  have HDq2 : Hid (Dc (fun b => b = bn ∨ b < W3.heap.size) v2 q rr) := hq.dc _ (fun b hb => hb.elim (fun hb => by rw [hb]; exact HLT.out) (fun hb => Nat.lt_of_lt_of_le hb HC1.out.size))
                  clear hb hq
                  refine hK.out _ _ (HC2.out) (fun hHeld2 => ?_)
                  clear hK K hHeld
                  have hHeld := hHeld2
                  clear hHeld2
                  try simp only [Act.put, List.setIfInBounds_toArray, List.set_cons_zero, List.set_cons_succ]
                  refine wpAnyH_take (i := 7) (oi := q7_18_7) (v := ?_) rfl (by kernel_rfl) (by kernel_rfl) (by kernel_rfl) (fun _ _ _ h => h) (Or.inl ⟨by rfl, ?_⟩) hHeld ?_
                  rotate_left
                  · intro w hSw; dsimp only [q7_18_7]; (try dsimp only at hSw); go_simp <;> with_reducible rfl
                  try simp only [q7_18_7, Act.put, List.setIfInBounds_toArray, List.set_cons_zero, List.set_cons_succ]
                  refine wpAnyH_take (i := 8) (oi := q7_18_8) (v := ?_) rfl (by kernel_rfl) (by kernel_rfl) (by kernel_rfl) (fun _ _ _ h => h) (Or.inl ⟨by rfl, ?_⟩) hHeld ?_
                  rotate_left
                  · intro w hSw; dsimp only [q7_18_8]; (try dsimp only at hSw); go_simp <;> with_reducible rfl
                  try simp only [q7_18_8, Act.put, List.setIfInBounds_toArray, List.set_cons_zero, List.set_cons_succ]
                  refine wpAnyH_take (i := 9) (oi := q7_18_9) (v := ?_) rfl (by kernel_rfl) (by kernel_rfl) (by kernel_rfl) (fun _ _ _ h => h) (Or.inl ⟨by rfl, ?_⟩) hHeld ?_
                  rotate_left
                  · intro w hSw; dsimp only [q7_18_9]; (try dsimp only at hSw); go_simp <;> with_reducible rfl
                  try simp only [q7_18_9, Act.put, List.setIfInBounds_toArray, List.set_cons_zero, List.set_cons_succ]
                  refine wpAnyH_ready (rs := [11]) (by kernel_rfl) (by simp) ?_
                  refine AllReadyH.cons rfl (fun K hK => ?_) AllReadyH.nil
                  refine stepR rfl 50 (.tmp 16) (.tmp 110) rfl bn q (by with_unfolding_all rfl) (by with_unfolding_all rfl) HNW2.out (by rfl) HDq2.out.len Tryz.sizeDom HDq2.out.one ?_
                  refine hK.out _ _ ((below_row HC2.out HBN.out _)) (fun hHeld2 => ?_)
                  clear hK K hHeld
                  have hHeld := hHeld2
                  clear hHeld2
                  try simp only [Act.put, List.setIfInBounds_toArray, List.set_cons_zero, List.set_cons_succ]
                  refine wpAnyH_take (i := 12) (oi := q7_18_12) (v := ?_) rfl (by kernel_rfl) (by kernel_rfl) (by kernel_rfl) (fun _ _ _ h => h) (Or.inl ⟨by rfl, ?_⟩) hHeld ?_
                  rotate_left
                  · intro w hSw; dsimp only [q7_18_12]; (try dsimp only at hSw); go_simp <;> with_reducible rfl
                  try simp only [q7_18_12, Act.put, List.setIfInBounds_toArray, List.set_cons_zero, List.set_cons_succ]
                  refine wpAnyH_done (by kernel_rfl) ?_ _
                  exact ⟨bn, q, rfl, below_row HC2.out HBN.out _, HBN.out, HNW2.out.setRow _, HDq2.out.kept ⟨rfl, rfl, rfl, by simp [World.setRow], fun b _ hb => setRow_other _ _ b _ (fun e => hb (.inl e))⟩⟩
                exact AllReadyH.nil
              case hK =>
                rintro bn qy W5 ⟨hb5, hbn, hbx, hdq⟩
                obtain ⟨g0, s1, s2, s3, g4, g5, rfl⟩ := six_of2 hdq
                have HYB : Hid (Bx W5 bn #[.bool g0, .slice s1.1 s1.2.1 s1.2.2, .slice s2.1 s2.2.1 s2.2.2, .slice s3.1 s3.2.1 s3.2.2, .int .i64 g4, .int .i64 g5] 50) := hbx
                have HB45 : Hid (Below W3.heap.size W3 W5) := hb5
                have HB5 : Hid (Below W.heap.size W W5) := HBc.out.trans (hb5.mono HBc.out.size)
                have HX5 : Hid (Bx W5 P #[.int .i64 (vn : Int), .int .i64 op, .int .i64 nn] 32) := HXc.out.below hb5
                have HLX5 : Hid (LX (DrB (ptr q)) W.heap.size W5 (.slice (some ⟨g, o0, none⟩) k kx) D' vs) := HLXc.out.below hb5
                have HDW5 : Hid (Dw (fun b => (Value.slice (some ⟨g, o0, none⟩) k kx).ownBlock = some b) W5 (ptr q) R2) := HDWc.out.below hb5
                have HDY : Hid (Dc (fun b => b = bn ∨ b < W3.heap.size) W5 [.bool g0, .slice s1.1 s1.2.1 s1.2.2, .slice s2.1 s2.2.1 s2.2.2, .slice s3.1 s3.2.1 s3.2.2, .int .i64 g4, .int .i64 g5] rr) := hdq
                have KE : Hid (∀ w, Below W5.heap.size W5 w → Calls Tryz.prog 33 #[.agg #[.bool g0, .slice s1.1 s1.2.1 s1.2.2, .slice s2.1 s2.2.1 s2.2.2, .slice s3.1 s3.2.1 s3.2.2, .int .i64 g4, .int .i64 g5]] w fun e w' => e = .returned (.bool false) ∧ Below w.heap.size w w') := fun w hb => by
                  have := rempty_d (HDY.out.below hb)
                  rw [HRE.out.1] at this
                  exact this
                have KW : Hid (∀ w, Below W5.heap.size W5 w → Calls Tryz.prog 34 #[.agg #[.bool g0, .slice s1.1 s1.2.1 s1.2.2, .slice s2.1 s2.2.1 s2.2.2, .slice s3.1 s3.2.1 s3.2.2, .int .i64 g4, .int .i64 g5], .agg #[x0, x1, x2, x3, x4, x5]] w fun e w' => e = .returned (.bool true) ∧ Below w.heap.size w w') := fun w hb => within_yes (HDY.out.below hb) ((HDX.out.below HB45.out).below hb) (right_sz HRE.out.2.2.1).1 HRE.out.2.2.1 HRE.out.2.1
                have HP0 : Hid (Below W5.heap.size W5 W5.drew) := (Below.refl _ _).drew
                have HCX5 : Hid (∀ w, Below W5.heap.size W5 w → w.cell? ⟨g, o0 + vn * 6, none⟩ = some x0 ∧ w.cell? ⟨g, o0 + vn * 6 + 1, none⟩ = some x1 ∧ w.cell? ⟨g, o0 + vn * 6 + 2, none⟩ = some x2 ∧ w.cell? ⟨g, o0 + vn * 6 + 3, none⟩ = some x3 ∧ w.cell? ⟨g, o0 + vn * 6 + 4, none⟩ = some x4 ∧ w.cell? ⟨g, o0 + vn * 6 + 5, none⟩ = some x5) := fun w hb => HCX.out w (HB45.out.trans (hb.mono HB45.out.size))
                have HSZW : Hid (∀ b, (Value.slice (some ⟨g, o0, none⟩) k kx).ownBlock = some b ∨ DrB (ptr q) b → b < W3.heap.size) := fun b hb => hb.elim (fun hb => HLXc.out.r.lt hb) (fun hb => HDWc.out.lt hb)
                clear hb5 hbx hdq hbn HCX KA FS HC0 HB45 HDX HLXc HDWc HXc HBc
                go_upto_region 19 with (fail)
                refine wp_region_held_drew (S := fun X : World => Below W5.heap.size W5 X) (by kernel_rfl) (HP0.out) (fun hHeld => ?_)
                refine wpAnyH_take (i := 0) (oi := q7_19_0) (v := ?_) rfl (by kernel_rfl) (by kernel_rfl) (by kernel_rfl) (fun _ _ _ h => h) (Or.inl ⟨by rfl, ?_⟩) hHeld ?_
                rotate_left
                · intro w hSw; dsimp only [q7_19_0]; (try dsimp only at hSw); go_simp <;> with_reducible rfl
                try simp only [q7_19_0, Act.put, List.setIfInBounds_toArray, List.set_cons_zero, List.set_cons_succ]
                refine wpAnyH_take (i := 1) (oi := q7_19_1) (v := ?_) rfl (by kernel_rfl) (by kernel_rfl) (by kernel_rfl) (fun _ _ _ h => h) (Or.inl ⟨by rfl, ?_⟩) hHeld ?_
                rotate_left
                · intro w hSw; dsimp only [q7_19_1]; (try dsimp only at hSw); go_simp <;> with_reducible rfl
                try simp only [q7_19_1, Act.put, List.setIfInBounds_toArray, List.set_cons_zero, List.set_cons_succ]
                refine wpAnyH_take (i := 2) (oi := q7_19_2) (v := ?_) rfl (by kernel_rfl) (by kernel_rfl) (by kernel_rfl) (fun _ _ _ h => h) (Or.inl ⟨by rfl, ?_⟩) hHeld ?_
                rotate_left
                · intro w hSw; dsimp only [q7_19_2]; (try dsimp only at hSw); go_simp <;> with_reducible rfl
                try simp only [q7_19_2, Act.put, List.setIfInBounds_toArray, List.set_cons_zero, List.set_cons_succ]
                refine wpAnyH_take (i := 3) (oi := q7_19_3) (v := ?_) rfl (by kernel_rfl) (by kernel_rfl) (by kernel_rfl) (fun _ _ _ h => h) (Or.inl ⟨by rfl, ?_⟩) hHeld ?_
                rotate_left
                · intro w hSw; dsimp only [q7_19_3]; obtain ⟨y0, y1, y2, y3, y4, y5⟩ := (HYB.out.below hSw).six; go_simp <;> with_reducible rfl
                try simp only [q7_19_3, Act.put, List.setIfInBounds_toArray, List.set_cons_zero, List.set_cons_succ]
                refine wpAnyH_ready (rs := [4]) (by kernel_rfl) (by simp) ?_
                refine AllReadyH.cons rfl (fun K hK => ?_) AllReadyH.nil
                go_simp
                refine (KE.out _ HP0.out).mono ?_
                rintro e u1 ⟨rfl, hbu⟩
                have HP1 : Hid (Below W5.heap.size W5 u1) := HP0.out.trans (hbu.mono HP0.out.size)
                clear hbu
                refine hK.out _ _ (HP1.out) (fun hHeld2 => ?_)
                clear hK K hHeld
                have hHeld := hHeld2
                clear hHeld2
                try simp only [Act.put, List.setIfInBounds_toArray, List.set_cons_zero, List.set_cons_succ]
                refine wpAnyH_take (i := 5) (oi := q7_19_5) (v := ?_) rfl (by kernel_rfl) (by kernel_rfl) (by kernel_rfl) (fun _ _ _ h => h) (Or.inl ⟨by rfl, ?_⟩) hHeld ?_
                rotate_left
                · intro w hSw; dsimp only [q7_19_5]; (try dsimp only at hSw); go_simp <;> with_reducible rfl
                try simp only [q7_19_5, Act.put, List.setIfInBounds_toArray, List.set_cons_zero, List.set_cons_succ]
                refine wpAnyH_take (i := 6) (oi := q7_19_6) (v := ?_) rfl (by kernel_rfl) (by kernel_rfl) (by kernel_rfl) (fun _ _ _ h => h) (Or.inl ⟨by rfl, ?_⟩) hHeld ?_
                rotate_left
                · intro w hSw; dsimp only [q7_19_6]; (try dsimp only at hSw); go_simp <;> with_reducible rfl
                try simp only [q7_19_6, Act.put, List.setIfInBounds_toArray, List.set_cons_zero, List.set_cons_succ]
                refine wpAnyH_take (i := 7) (oi := q7_19_7) (v := ?_) rfl (by kernel_rfl) (by kernel_rfl) (by kernel_rfl) (fun _ _ _ h => h) (Or.inl ⟨by rfl, ?_⟩) hHeld ?_
                rotate_left
                · intro w hSw; dsimp only [q7_19_7]; obtain ⟨y0, y1, y2, y3, y4, y5⟩ := (HYB.out.below hSw).six; go_simp <;> with_reducible rfl
                try simp only [q7_19_7, Act.put, List.setIfInBounds_toArray, List.set_cons_zero, List.set_cons_succ]
                refine wpAnyH_take (i := 8) (oi := q7_19_8) (v := ?_) rfl (by kernel_rfl) (by kernel_rfl) (by kernel_rfl) (fun _ _ _ h => h) (Or.inl ⟨by rfl, ?_⟩) hHeld ?_
                rotate_left
                · intro w hSw; dsimp only [q7_19_8]; (try dsimp only at hSw); go_simp <;> with_reducible rfl
                try simp only [q7_19_8, Act.put, List.setIfInBounds_toArray, List.set_cons_zero, List.set_cons_succ]
                refine wpAnyH_take (i := 9) (oi := q7_19_9) (v := ?_) rfl (by kernel_rfl) (by kernel_rfl) (by kernel_rfl) (fun _ _ _ h => h) (Or.inl ⟨by rfl, ?_⟩) hHeld ?_
                rotate_left
                · intro w hSw; dsimp only [q7_19_9]; (try dsimp only at hSw); go_simp <;> with_reducible rfl
                try simp only [q7_19_9, Act.put, List.setIfInBounds_toArray, List.set_cons_zero, List.set_cons_succ]
                refine wpAnyH_take (i := 10) (oi := q7_19_10) (v := ?_) rfl (by kernel_rfl) (by kernel_rfl) (by kernel_rfl) (fun _ _ _ h => h) (Or.inl ⟨by rfl, ?_⟩) hHeld ?_
                rotate_left
                · intro w hSw; dsimp only [q7_19_10]; obtain ⟨y0, y1, y2⟩ := (HX5.out.below hSw).three; go_simp <;> with_reducible rfl
                try simp only [q7_19_10, Act.put, List.setIfInBounds_toArray, List.set_cons_zero, List.set_cons_succ]
                refine wpAnyH_take (i := 11) (oi := q7_19_11) (v := ?_) rfl (by kernel_rfl) (by kernel_rfl) (by kernel_rfl) (fun _ _ _ h => h) (Or.inl ⟨by rfl, ?_⟩) hHeld ?_
                rotate_left
                · intro w hSw; dsimp only [q7_19_11]; (try dsimp only at hSw); go_simp <;> with_reducible rfl
                try simp only [q7_19_11, Act.put, List.setIfInBounds_toArray, List.set_cons_zero, List.set_cons_succ]
                refine wpAnyH_take (i := 12) (oi := q7_19_12) (v := ?_) rfl (by kernel_rfl) (by kernel_rfl) (by kernel_rfl) (fun _ _ _ h => h) (Or.inl ⟨by rfl, ?_⟩) hHeld ?_
                rotate_left
                · intro w hSw; dsimp only [q7_19_12]; obtain ⟨y0, y1, y2, y3, y4, y5⟩ := HCX5.out _ hSw; go_simp <;> with_reducible rfl
                try simp only [q7_19_12, Act.put, List.setIfInBounds_toArray, List.set_cons_zero, List.set_cons_succ]
                refine wpAnyH_ready (rs := [13]) (by kernel_rfl) (by simp) ?_
                refine AllReadyH.cons rfl (fun K hK => ?_) AllReadyH.nil
                go_simp
                refine (KW.out _ HP1.out).mono ?_
                rintro e u2 ⟨rfl, hbu⟩
                have HP2 : Hid (Below W5.heap.size W5 u2) := HP1.out.trans (hbu.mono HP1.out.size)
                clear hbu
                refine hK.out _ _ (HP2.out) (fun hHeld2 => ?_)
                clear hK K hHeld
                have hHeld := hHeld2
                clear hHeld2
                try simp only [Act.put, List.setIfInBounds_toArray, List.set_cons_zero, List.set_cons_succ]
                refine wpAnyH_take (i := 14) (oi := q7_19_14) (v := ?_) rfl (by kernel_rfl) (by kernel_rfl) (by kernel_rfl) (fun _ _ _ h => h) (Or.inl ⟨by rfl, ?_⟩) hHeld ?_
                rotate_left
                · intro w hSw; dsimp only [q7_19_14]; (try dsimp only at hSw); go_simp <;> with_reducible rfl
                try simp only [q7_19_14, Act.put, List.setIfInBounds_toArray, List.set_cons_zero, List.set_cons_succ]
                refine wpAnyH_take (i := 15) (oi := q7_19_15) (v := ?_) rfl (by kernel_rfl) (by kernel_rfl) (by kernel_rfl) (fun _ _ _ h => h) (Or.inl ⟨by rfl, ?_⟩) hHeld ?_
                rotate_left
                · intro w hSw; dsimp only [q7_19_15]; (try dsimp only at hSw); go_simp <;> with_reducible rfl
                try simp only [q7_19_15, Act.put, List.setIfInBounds_toArray, List.set_cons_zero, List.set_cons_succ]
                refine wpAnyH_done (by kernel_rfl) ?_ _
                obtain ⟨x0', x1', x2'⟩ := (HX5.out.below HP2.out).three
                obtain ⟨y0, y1, y2, y3, y4, y5⟩ := (HYB.out.below HP2.out).six
                have HLXu : Hid (LX (DrB (ptr q)) W.heap.size u2 (.slice (some ⟨g, o0, none⟩) k kx) D' vs) := HLX5.out.below HP2.out
                have HDWu : Hid (Dw (fun b => (Value.slice (some ⟨g, o0, none⟩) k kx).ownBlock = some b) u2 (ptr q) R2) := HDW5.out.below HP2.out
                have HBu : Hid (Below W.heap.size W u2) := HB5.out.trans (HP2.out.mono HB5.out.size)
                have HDYu : Hid (Dc (fun b => b = bn ∨ b < W3.heap.size) u2 [.bool g0, .slice s1.1 s1.2.1 s1.2.2, .slice s2.1 s2.2.1 s2.2.2, .slice s3.1 s3.2.1 s3.2.2, .int .i64 g4, .int .i64 g5] rr) := HDY.out.below HP2.out
                have hwk : IntKind.i64.wrap ((s : Int) + 1) = (s : Int) + 1 := by rw [IntKind.wrap_i64]; omega
                have HTH : Hid (u2.there g (o0 + vn * 6) 6) := by
                  obtain ⟨g', cap', e', _, _, _, _, hth⟩ := HLXu.out.r.at HVC.out
                  injection e' with e1 _ _
                  injection e1 with e1
                  injection e1 with e1 e2 _
                  subst e1
                  unfold Hid
                  rw [HO0.out, Nat.zero_add]
                  exact hth
                have hone3 := HDYu.out.one
                go_wp2_with (with_reducible refine stM rfl (.tmp 132) (.tmp 131) rfl g (o0 + vn * 6) [.bool g0, .slice s1.1 s1.2.1 s1.2.2, .slice s2.1 s2.2.1 s2.2.2, .slice s3.1 s3.2.1 s3.2.2, .int .i64 g4, .int .i64 g5] (by with_unfolding_all rfl) (by with_unfolding_all rfl) HTH.out HDYu.out.len hone3 ?_)
                go_roundw
                case rel =>
                  have e0 : o0 + vn * 6 = vn * 6 := by rw [HO0.out]; omega
                  have hown : (Value.slice (some ⟨g, o0, none⟩) k kx).ownBlock = some g := by rw [HO0.out]; rfl
                  have hvsl : vs.length = k := by rw [HLXu.out.n, HI.out.1.n, HND.out]
                  have hkk : Kept (fun b => b = g) u2 (u2.setCells g (vn * 6) [.bool g0, .slice s1.1 s1.2.1 s1.2.2, .slice s2.1 s2.2.1 s2.2.2, .slice s3.1 s3.2.1 s3.2.2, .int .i64 g4, .int .i64 g5]) := Kept.setCells (X := fun b => b = g) rfl _ _ (Kept.refl _ _)
                  have h1 := HLXu.out.put (g := g) (cap := kx) (i := vn) (by rw [HO0.out, hvsl]) (by omega) (HDYu.out.up (fun b hb => .inl (.inr (HSZW.out b hb))))
                  have h2 := HDWu.out.setc hkk hown (HOXX.out g hown).1
                  have h3 := HBu.out.trans (hkk.below HBu.out.size (fun b hb => by rw [hb]; exact (HOXX.out g hown).2))
                  rw [e0]
                  have h4 : Lft D (D'.set vn rr) ∧ ((s + 1 : Nat) : Int) + sumS (D'.set vn rr) ≤ M := ⟨HRE.out.2.2.2.1, by have := HRE.out.2.2.2.2; have := HI.out.2; omega⟩
                  first | exact ⟨s + 1, by omega, D'.set vn rr, h4, ⟨vs.set vn [.bool g0, .slice s1.1 s1.2.1 s1.2.2, .slice s2.1 s2.2.1 s2.2.2, .slice s3.1 s3.2.1 s3.2.2, .int .i64 g4, .int .i64 g5], h1⟩, ⟨R2, h2⟩, h3⟩ | exact ⟨s + 1, D'.set vn rr, R2, vs.set vn [.bool g0, .slice s1.1 s1.2.1 s1.2.2, .slice s2.1 s2.2.1 s2.2.2, .slice s3.1 s3.2.1 s3.2.2, .int .i64 g4, .int .i64 g5], by go_num, h4, h1, h2, h3⟩
                case measure => simp [intOf]; omega
            · obtain ⟨x0', x1', x2'⟩ := HXc.out.three
              have f0 := HXc.out.fr 0
              have f1 := HXc.out.fr 1
              have f2 := HXc.out.fr 2
              have kno := not_dec (vn : Int) op nn W3
              go_wp2_with fail
              refine kno.mono ?_
              clear kno x0' x1' x2' f0 f1 f2 hcb
              rintro e w4 ⟨rfl, hb4⟩
              have HX4 : Hid (Bx w4 P #[.int .i64 (vn : Int), .int .i64 op, .int .i64 nn] 32) := HXc.out.below hb4
              obtain ⟨x0', x1', x2'⟩ := HX4.out.three
              have f0 := HX4.out.fr 0
              have f1 := HX4.out.fr 1
              have f2 := HX4.out.fr 2
              have hk4 : Kept (fun b => b = P) w4 (((w4.setCell ⟨P, 0, none⟩ (.int .i64 (vn : Int))).setCell ⟨P, 1, none⟩ (.int .i64 (otM op))).setCell ⟨P, 2, none⟩ (.int .i64 nn)) := ((Kept.setCell (X := fun b => b = P) (Kept.refl _ w4) rfl 0 _).setCell rfl 1 _).setCell rfl 2 _
              obtain ⟨W4, hW4⟩ : ∃ Q, (((w4.setCell ⟨P, 0, none⟩ (.int .i64 (vn : Int))).setCell ⟨P, 1, none⟩ (.int .i64 (otM op))).setCell ⟨P, 2, none⟩ (.int .i64 nn)) = Q := ⟨_, rfl⟩
              have HXd : Hid (Bx W4 P #[.int .i64 (vn : Int), .int .i64 (otM op), .int .i64 nn] 32) := by rw [← hW4]; exact HX4.out.set3 _ _ _
              rw [hW4] at hk4
              have HBd : Hid (Below W.heap.size W W4) := (HBc.out.trans (hb4.mono HBc.out.size)).trans (hk4.below (HBc.out.trans (hb4.mono HBc.out.size)).size (fun b hb => by rw [hb]; exact HPW.out.1))
              have hnP : ¬ DrB (ptr q) P := fun h => by have := HPW.out.2 P (.inr h); omega
              have HLXd : Hid (LX (DrB (ptr q)) W.heap.size W4 (.slice px k kx) D' vs) := ((HLXp.out.below hb4).kept (hk4.mono fun b hb => .inr hb) (fun g hg h => h.elim (HOX.out g hg).1 (fun h => by have := HPW.out.2 g (.inl hg); omega))).less (fun b hb => .inl hb)
              have HDWd : Hid (Dw (fun b => (Value.slice px k kx).ownBlock = some b) W4 (ptr q) R2) := by rw [← hW4]; exact ((HDWp.out.below hb4).set3 (.inr rfl) hnP).less (fun b hb => .inl hb)
              have HW4 : Hid _ := hW4
              clear HLXp HDWp HLXc HDWc HBc HXc HX4 hk4 hb4
              have HBc := HBd
              have HXc := HXd
              have HLXc := HLXd
              have HDWc := HDWd
              clear HBd HXd HLXd HDWd hW4
              go_upto_region 16 with (fail)
              rw [HW4.out]
              clear HW4 x0' x1' x2' f0 f1 f2
              have hst := HST.out (otM op) (.inr rfl)
              obtain ⟨hs0, hs1, hs2, hs3, hs4, hs5⟩ := hst
              obtain ⟨c, hvc⟩ : ∃ c, vs[vn]? = some c := ⟨_, List.getElem?_eq_getElem (by rw [HLXc.out.n, HI.out.1.n, HND.out]; exact hvl)⟩
              obtain ⟨g, cap, hpx, hgl, hcap1, hcap2, hra, hth⟩ := HLXc.out.r.at hvc
              have hDx := HLXc.out.d vn c d hvc HDD.out
              obtain ⟨o0, ho0⟩ : ∃ o : Nat, o = 0 := ⟨_, rfl⟩
              obtain rfl : px = some ⟨g, o0, none⟩ := by injection hpx with hp1 _ _; rw [ho0]; exact hp1
              have HO0 : Hid (o0 = 0) := ho0
              obtain ⟨x0, x1, x2, x3, x4, x5, rfl⟩ := list6 hDx.len
              have HVC : Hid (vs[vn]? = some [x0, x1, x2, x3, x4, x5]) := hvc
              have HCX : Hid (∀ w, Below W4.heap.size W4 w → w.cell? ⟨g, o0 + vn * 6, none⟩ = some x0 ∧ w.cell? ⟨g, o0 + vn * 6 + 1, none⟩ = some x1 ∧ w.cell? ⟨g, o0 + vn * 6 + 2, none⟩ = some x2 ∧ w.cell? ⟨g, o0 + vn * 6 + 3, none⟩ = some x3 ∧ w.cell? ⟨g, o0 + vn * 6 + 4, none⟩ = some x4 ∧ w.cell? ⟨g, o0 + vn * 6 + 5, none⟩ = some x5) := fun w hb => by
                have hc : ∀ m u, [x0, x1, x2, x3, x4, x5][m]? = some u → w.cell? ⟨g, o0 + vn * 6 + m, none⟩ = some u := fun m u hu => (hb.cell (p := ⟨g, _, none⟩) hgl).trans (by rw [ho0, Nat.zero_add]; exact hra m u hu)
                exact ⟨hc 0 _ rfl, hc 1 _ rfl, hc 2 _ rfl, hc 3 _ rfl, hc 4 _ rfl, hc 5 _ rfl⟩
              have HDX : Hid (Dc (fun b => (Value.slice (some ⟨g, o0, none⟩) k kx).ownBlock = some b ∨ DrB (ptr q) b) W4 [x0, x1, x2, x3, x4, x5] d) := hDx
              have KA0 := fun w (hb : Below W4.heap.size W4 w) => apply_any (vn : Int) (otM op) nn (HDX.out.below hb) HGD.out HFN.out
              rw [hs0] at KA0
              obtain ⟨rr, hrr⟩ : ∃ q, (resM d (otM op) nn).1 = q := ⟨_, rfl⟩
              rw [hrr] at KA0 hs1 hs2 hs3 hs4 hs5
              have KA : Hid (∀ w, Below W4.heap.size W4 w → Calls Tryz.prog 20 #[.agg #[x0, x1, x2, x3, x4, x5], .agg #[.int .i64 (vn : Int), .int .i64 (otM op), .int .i64 nn]] w fun e w' => ∃ q : List Value, e = .returned (.tuple #[.agg q.toArray, .int .i64 0]) ∧ Ans w.heap.size w' q rr ∧ Below w.heap.size w w') := KA0
              have HRE : Hid (reM rr = false ∧ LeA rr d ∧ rightM rr = true ∧ Lft D (D'.set vn rr) ∧ sumS (D'.set vn rr) + 1 ≤ sumS D') := ⟨hs1, hs2, hs3, hs4, hs5⟩
              have hone := hDx.one
              have HOXX : Hid _ := HOX.out
              clear KA0 hrr hs0 hs1 hs2 hs3 hs4 hs5 hvc hpx hgl hcap1 hcap2 hra hth hDx ho0
              obtain ⟨x0', x1', x2'⟩ := HXc.out.three
              go_upto_region 18 with (fail)
              have FS : Hid (∀ w, Below W4.heap.size W4 w → Bx w P #[.int .i64 (vn : Int), .int .i64 (otM op), .int .i64 nn] 32) := fun w hb => HXc.out.below hb
              have HC0 : Hid (Below W4.heap.size W4 W4.drew) := (Below.refl _ _).drew
              clear x0' x1' x2'
              apply wp_ways2 (R := fun bn qy w' => Below W4.heap.size W4 w' ∧ W4.heap.size ≤ bn ∧ Bx w' bn qy.toArray 50 ∧ Dc (fun b => b = bn ∨ b < W4.heap.size) w' qy rr)
              case h =>
                refine wp_region_held_drew (S := fun X : World => Below W4.heap.size W4 X) (by kernel_rfl) (HC0.out) (fun hHeld => ?_)
                refine wpAnyH_take (i := 0) (oi := q7_18_0) (v := ?_) rfl (by kernel_rfl) (by kernel_rfl) (by kernel_rfl) (fun _ _ _ h => h) (Or.inl ⟨by rfl, ?_⟩) hHeld ?_
                rotate_left
                · intro w hSw; dsimp only [q7_18_0]; (try dsimp only at hSw); go_simp <;> with_reducible rfl
                try simp only [q7_18_0, Act.put, List.setIfInBounds_toArray, List.set_cons_zero, List.set_cons_succ]
                refine wpAnyH_take (i := 1) (oi := q7_18_1) (v := ?_) rfl (by kernel_rfl) (by kernel_rfl) (by kernel_rfl) (fun _ _ _ h => h) (Or.inl ⟨by rfl, ?_⟩) hHeld ?_
                rotate_left
                · intro w hSw; dsimp only [q7_18_1]; (try dsimp only at hSw); go_simp <;> with_reducible rfl
                try simp only [q7_18_1, Act.put, List.setIfInBounds_toArray, List.set_cons_zero, List.set_cons_succ]
                refine wpAnyH_take (i := 2) (oi := q7_18_2) (v := ?_) rfl (by kernel_rfl) (by kernel_rfl) (by kernel_rfl) (fun _ _ _ h => h) (Or.inl ⟨by rfl, ?_⟩) hHeld ?_
                rotate_left
                · intro w hSw; dsimp only [q7_18_2]; obtain ⟨y0, y1, y2⟩ := (FS.out _ hSw).three; go_simp <;> with_reducible rfl
                try simp only [q7_18_2, Act.put, List.setIfInBounds_toArray, List.set_cons_zero, List.set_cons_succ]
                refine wpAnyH_take (i := 3) (oi := q7_18_3) (v := ?_) rfl (by kernel_rfl) (by kernel_rfl) (by kernel_rfl) (fun _ _ _ h => h) (Or.inl ⟨by rfl, ?_⟩) hHeld ?_
                rotate_left
                · intro w hSw; dsimp only [q7_18_3]; (try dsimp only at hSw); go_simp <;> with_reducible rfl
                try simp only [q7_18_3, Act.put, List.setIfInBounds_toArray, List.set_cons_zero, List.set_cons_succ]
                refine wpAnyH_take (i := 4) (oi := q7_18_4) (v := ?_) rfl (by kernel_rfl) (by kernel_rfl) (by kernel_rfl) (fun _ _ _ h => h) (Or.inl ⟨by rfl, ?_⟩) hHeld ?_
                rotate_left
                · intro w hSw; dsimp only [q7_18_4]; obtain ⟨y0, y1, y2, y3, y4, y5⟩ := HCX.out _ hSw; go_simp <;> with_reducible rfl
                try simp only [q7_18_4, Act.put, List.setIfInBounds_toArray, List.set_cons_zero, List.set_cons_succ]
                refine wpAnyH_take (i := 5) (oi := q7_18_5) (v := ?_) rfl (by kernel_rfl) (by kernel_rfl) (by kernel_rfl) (fun _ _ _ h => h) (Or.inl ⟨by rfl, ?_⟩) hHeld ?_
                rotate_left
                · intro w hSw; dsimp only [q7_18_5]; obtain ⟨y0, y1, y2⟩ := (FS.out _ hSw).three; go_simp <;> with_reducible rfl
                try simp only [q7_18_5, Act.put, List.setIfInBounds_toArray, List.set_cons_zero, List.set_cons_succ]
                refine wpAnyH_ready (rs := [6, 10]) (by kernel_rfl) (by simp) ?_
                refine AllReadyH.cons rfl (fun K hK => ?_) ?_
                · go_simp
                  refine (KA.out _ HC0.out).mono ?_
                  rintro e v1 ⟨q, rfl, hq, hb⟩
                  have HC1 : Hid (Below W4.heap.size W4 v1) := HC0.out.trans (hb.mono HC0.out.size)
                  have HDq1 : Hid (Dc (fun b => b < W4.heap.size) v1 q rr) := hq.dc _ (fun b hb => Nat.lt_of_lt_of_le hb HC0.out.size)
                  clear hb hq
                  refine hK.out _ _ (HC1.out) (fun hHeld2 => ?_)
                  clear hK K hHeld
                  have hHeld := hHeld2
                  clear hHeld2
                  try simp only [Act.put, List.setIfInBounds_toArray, List.set_cons_zero, List.set_cons_succ]
                  refine wpAnyH_take (i := 7) (oi := q7_18_7) (v := ?_) rfl (by kernel_rfl) (by kernel_rfl) (by kernel_rfl) (fun _ _ _ h => h) (Or.inl ⟨by rfl, ?_⟩) hHeld ?_
                  rotate_left
                  · intro w hSw; dsimp only [q7_18_7]; (try dsimp only at hSw); go_simp <;> with_reducible rfl
                  try simp only [q7_18_7, Act.put, List.setIfInBounds_toArray, List.set_cons_zero, List.set_cons_succ]
                  refine wpAnyH_take (i := 8) (oi := q7_18_8) (v := ?_) rfl (by kernel_rfl) (by kernel_rfl) (by kernel_rfl) (fun _ _ _ h => h) (Or.inl ⟨by rfl, ?_⟩) hHeld ?_
                  rotate_left
                  · intro w hSw; dsimp only [q7_18_8]; (try dsimp only at hSw); go_simp <;> with_reducible rfl
                  try simp only [q7_18_8, Act.put, List.setIfInBounds_toArray, List.set_cons_zero, List.set_cons_succ]
                  refine wpAnyH_take (i := 9) (oi := q7_18_9) (v := ?_) rfl (by kernel_rfl) (by kernel_rfl) (by kernel_rfl) (fun _ _ _ h => h) (Or.inl ⟨by rfl, ?_⟩) hHeld ?_
                  rotate_left
                  · intro w hSw; dsimp only [q7_18_9]; (try dsimp only at hSw); go_simp <;> with_reducible rfl
                  try simp only [q7_18_9, Act.put, List.setIfInBounds_toArray, List.set_cons_zero, List.set_cons_succ]
                  refine wpAnyH_ready (rs := [10]) (by kernel_rfl) (by simp) ?_
                  refine AllReadyH.cons rfl (fun K hK => ?_) AllReadyH.nil
                  obtain ⟨bn, hbn⟩ : ∃ q, v1.heap.size = q := ⟨_, rfl⟩
                  go_simp
                  (try rw [hbn])
                  obtain ⟨v2, hv2⟩ : ∃ q, v1.alloc (Obj.cells #[.bool false, .slice none 0 0, .slice none 0 0, .slice none 0 0, .int .i64 0, .int .i64 0] 50) = q := ⟨_, rfl⟩
                  (try rw [hv2])
                  (try rw [show (v1.alloc (Obj.cells #[.bool false, .slice none 0 0, .slice none 0 0, .slice none 0 0, .int .i64 0, .int .i64 0] 50)).drew = v2 from hv2])
                  have HC2 : Hid (Below W4.heap.size W4 v2) := by rw [← hv2]; exact HC1.out.alloc (HC1.out.size) _
                  have HNW2 : Hid (Bx v2 bn #[.bool false, .slice none 0 0, .slice none 0 0, .slice none 0 0, .int .i64 0, .int .i64 0] 50) := by rw [← hv2]; exact Bx.new' (w := v1) hbn _ _
                  have HBN : Hid (W4.heap.size ≤ bn) := by rw [Hid, ← hbn]; exact HC1.out.size
                  have HDq2 : Hid (Dc (fun b => b = bn ∨ b < W4.heap.size) v2 q rr) := by
                    rw [← hv2]
                    exact HDq1.out.go (Kept.of_below ((Below.refl _ _).alloc (Nat.le_refl _) _)) (fun b hb => hb.elim (fun hb => .inr (by omega)) .inl)
                  clear hv2 hbn
                  refine hK.out _ _ (HC2.out) (fun hHeld2 => ?_)
                  clear hK K hHeld
                  have hHeld := hHeld2
                  clear hHeld2
                  try simp only [Act.put, List.setIfInBounds_toArray, List.set_cons_zero, List.set_cons_succ]
                  refine wpAnyH_ready (rs := [11]) (by kernel_rfl) (by simp) ?_
                  refine AllReadyH.cons rfl (fun K hK => ?_) AllReadyH.nil
                  refine stepR rfl 50 (.tmp 16) (.tmp 110) rfl bn q (by with_unfolding_all rfl) (by with_unfolding_all rfl) HNW2.out (by rfl) HDq2.out.len Tryz.sizeDom HDq2.out.one ?_
                  refine hK.out _ _ ((below_row HC2.out HBN.out _)) (fun hHeld2 => ?_)
                  clear hK K hHeld
                  have hHeld := hHeld2
                  clear hHeld2
                  try simp only [Act.put, List.setIfInBounds_toArray, List.set_cons_zero, List.set_cons_succ]
                  refine wpAnyH_take (i := 12) (oi := q7_18_12) (v := ?_) rfl (by kernel_rfl) (by kernel_rfl) (by kernel_rfl) (fun _ _ _ h => h) (Or.inl ⟨by rfl, ?_⟩) hHeld ?_
                  rotate_left
                  · intro w hSw; dsimp only [q7_18_12]; (try dsimp only at hSw); go_simp <;> with_reducible rfl
                  try simp only [q7_18_12, Act.put, List.setIfInBounds_toArray, List.set_cons_zero, List.set_cons_succ]
                  refine wpAnyH_done (by kernel_rfl) ?_ _
                  exact ⟨bn, q, rfl, below_row HC2.out HBN.out _, HBN.out, HNW2.out.setRow _, HDq2.out.kept ⟨rfl, rfl, rfl, by simp [World.setRow], fun b _ hb => setRow_other _ _ b _ (fun e => hb (.inl e))⟩⟩
                refine AllReadyH.cons rfl (fun K hK => ?_) ?_
                · obtain ⟨bn, hbn⟩ : ∃ q, W4.heap.size = q := ⟨_, rfl⟩
                  go_simp
                  (try rw [hbn])
                  obtain ⟨v1, hv1⟩ : ∃ q, W4.drew.alloc (Obj.cells #[.bool false, .slice none 0 0, .slice none 0 0, .slice none 0 0, .int .i64 0, .int .i64 0] 50) = q := ⟨_, rfl⟩
                  (try rw [hv1])
                  (try rw [show (W4.alloc (Obj.cells #[.bool false, .slice none 0 0, .slice none 0 0, .slice none 0 0, .int .i64 0, .int .i64 0] 50)).drew = v1 from hv1])
                  have HC1 : Hid (Below W4.heap.size W4 v1) := by rw [← hv1]; exact HC0.out.alloc (HC0.out.size) _
                  have HNW1 : Hid (Bx v1 bn #[.bool false, .slice none 0 0, .slice none 0 0, .slice none 0 0, .int .i64 0, .int .i64 0] 50) := by rw [← hv1]; exact Bx.new' (w := W4.drew) hbn _ _
                  have HBN : Hid (W4.heap.size ≤ bn) := by rw [Hid, ← hbn]; exact Nat.le_refl _
                  clear hv1 hbn
                  refine hK.out _ _ (HC1.out) (fun hHeld2 => ?_)
                  clear hK K hHeld
                  have hHeld := hHeld2
                  clear hHeld2
                  try simp only [Act.put, List.setIfInBounds_toArray, List.set_cons_zero, List.set_cons_succ]
                  refine wpAnyH_ready (rs := [6]) (by kernel_rfl) (by simp) ?_
                  refine AllReadyH.cons rfl (fun K hK => ?_) AllReadyH.nil
                  have HLT : Hid (bn < v1.heap.size) := Array.getElem?_eq_some_iff.1 HNW1.out.h |>.1
                  go_simp
                  refine (KA.out _ HC1.out).mono ?_
                  rintro e v2 ⟨q, rfl, hq, hb⟩
                  have HC2 : Hid (Below W4.heap.size W4 v2) := HC1.out.trans (hb.mono HC1.out.size)
                  have HNW2 : Hid (Bx v2 bn #[.bool false, .slice none 0 0, .slice none 0 0, .slice none 0 0, .int .i64 0, .int .i64 0] 50) := HNW1.out.below hb
                  have HDq2 : Hid (Dc (fun b => b = bn ∨ b < W4.heap.size) v2 q rr) := hq.dc _ (fun b hb => hb.elim (fun hb => by rw [hb]; exact HLT.out) (fun hb => Nat.lt_of_lt_of_le hb HC1.out.size))
                  clear hb hq
                  refine hK.out _ _ (HC2.out) (fun hHeld2 => ?_)
                  clear hK K hHeld
                  have hHeld := hHeld2
                  clear hHeld2
                  try simp only [Act.put, List.setIfInBounds_toArray, List.set_cons_zero, List.set_cons_succ]
                  refine wpAnyH_take (i := 7) (oi := q7_18_7) (v := ?_) rfl (by kernel_rfl) (by kernel_rfl) (by kernel_rfl) (fun _ _ _ h => h) (Or.inl ⟨by rfl, ?_⟩) hHeld ?_
                  rotate_left
                  · intro w hSw; dsimp only [q7_18_7]; (try dsimp only at hSw); go_simp <;> with_reducible rfl
                  try simp only [q7_18_7, Act.put, List.setIfInBounds_toArray, List.set_cons_zero, List.set_cons_succ]
                  refine wpAnyH_take (i := 8) (oi := q7_18_8) (v := ?_) rfl (by kernel_rfl) (by kernel_rfl) (by kernel_rfl) (fun _ _ _ h => h) (Or.inl ⟨by rfl, ?_⟩) hHeld ?_
                  rotate_left
                  · intro w hSw; dsimp only [q7_18_8]; (try dsimp only at hSw); go_simp <;> with_reducible rfl
                  try simp only [q7_18_8, Act.put, List.setIfInBounds_toArray, List.set_cons_zero, List.set_cons_succ]
                  refine wpAnyH_take (i := 9) (oi := q7_18_9) (v := ?_) rfl (by kernel_rfl) (by kernel_rfl) (by kernel_rfl) (fun _ _ _ h => h) (Or.inl ⟨by rfl, ?_⟩) hHeld ?_
                  rotate_left
                  · intro w hSw; dsimp only [q7_18_9]; (try dsimp only at hSw); go_simp <;> with_reducible rfl
                  try simp only [q7_18_9, Act.put, List.setIfInBounds_toArray, List.set_cons_zero, List.set_cons_succ]
                  refine wpAnyH_ready (rs := [11]) (by kernel_rfl) (by simp) ?_
                  refine AllReadyH.cons rfl (fun K hK => ?_) AllReadyH.nil
                  refine stepR rfl 50 (.tmp 16) (.tmp 110) rfl bn q (by with_unfolding_all rfl) (by with_unfolding_all rfl) HNW2.out (by rfl) HDq2.out.len Tryz.sizeDom HDq2.out.one ?_
                  refine hK.out _ _ ((below_row HC2.out HBN.out _)) (fun hHeld2 => ?_)
                  clear hK K hHeld
                  have hHeld := hHeld2
                  clear hHeld2
                  try simp only [Act.put, List.setIfInBounds_toArray, List.set_cons_zero, List.set_cons_succ]
                  refine wpAnyH_take (i := 12) (oi := q7_18_12) (v := ?_) rfl (by kernel_rfl) (by kernel_rfl) (by kernel_rfl) (fun _ _ _ h => h) (Or.inl ⟨by rfl, ?_⟩) hHeld ?_
                  rotate_left
                  · intro w hSw; dsimp only [q7_18_12]; (try dsimp only at hSw); go_simp <;> with_reducible rfl
                  try simp only [q7_18_12, Act.put, List.setIfInBounds_toArray, List.set_cons_zero, List.set_cons_succ]
                  refine wpAnyH_done (by kernel_rfl) ?_ _
                  exact ⟨bn, q, rfl, below_row HC2.out HBN.out _, HBN.out, HNW2.out.setRow _, HDq2.out.kept ⟨rfl, rfl, rfl, by simp [World.setRow], fun b _ hb => setRow_other _ _ b _ (fun e => hb (.inl e))⟩⟩
                exact AllReadyH.nil
              case hK =>
                rintro bn qy W5 ⟨hb5, hbn, hbx, hdq⟩
                obtain ⟨g0, s1, s2, s3, g4, g5, rfl⟩ := six_of2 hdq
                have HYB : Hid (Bx W5 bn #[.bool g0, .slice s1.1 s1.2.1 s1.2.2, .slice s2.1 s2.2.1 s2.2.2, .slice s3.1 s3.2.1 s3.2.2, .int .i64 g4, .int .i64 g5] 50) := hbx
                have HB45 : Hid (Below W4.heap.size W4 W5) := hb5
                have HB5 : Hid (Below W.heap.size W W5) := HBc.out.trans (hb5.mono HBc.out.size)
                have HX5 : Hid (Bx W5 P #[.int .i64 (vn : Int), .int .i64 (otM op), .int .i64 nn] 32) := HXc.out.below hb5
                have HLX5 : Hid (LX (DrB (ptr q)) W.heap.size W5 (.slice (some ⟨g, o0, none⟩) k kx) D' vs) := HLXc.out.below hb5
                have HDW5 : Hid (Dw (fun b => (Value.slice (some ⟨g, o0, none⟩) k kx).ownBlock = some b) W5 (ptr q) R2) := HDWc.out.below hb5
                have HDY : Hid (Dc (fun b => b = bn ∨ b < W4.heap.size) W5 [.bool g0, .slice s1.1 s1.2.1 s1.2.2, .slice s2.1 s2.2.1 s2.2.2, .slice s3.1 s3.2.1 s3.2.2, .int .i64 g4, .int .i64 g5] rr) := hdq
                have KE : Hid (∀ w, Below W5.heap.size W5 w → Calls Tryz.prog 33 #[.agg #[.bool g0, .slice s1.1 s1.2.1 s1.2.2, .slice s2.1 s2.2.1 s2.2.2, .slice s3.1 s3.2.1 s3.2.2, .int .i64 g4, .int .i64 g5]] w fun e w' => e = .returned (.bool false) ∧ Below w.heap.size w w') := fun w hb => by
                  have := rempty_d (HDY.out.below hb)
                  rw [HRE.out.1] at this
                  exact this
                have KW : Hid (∀ w, Below W5.heap.size W5 w → Calls Tryz.prog 34 #[.agg #[.bool g0, .slice s1.1 s1.2.1 s1.2.2, .slice s2.1 s2.2.1 s2.2.2, .slice s3.1 s3.2.1 s3.2.2, .int .i64 g4, .int .i64 g5], .agg #[x0, x1, x2, x3, x4, x5]] w fun e w' => e = .returned (.bool true) ∧ Below w.heap.size w w') := fun w hb => within_yes (HDY.out.below hb) ((HDX.out.below HB45.out).below hb) (right_sz HRE.out.2.2.1).1 HRE.out.2.2.1 HRE.out.2.1
                have HP0 : Hid (Below W5.heap.size W5 W5.drew) := (Below.refl _ _).drew
                have HCX5 : Hid (∀ w, Below W5.heap.size W5 w → w.cell? ⟨g, o0 + vn * 6, none⟩ = some x0 ∧ w.cell? ⟨g, o0 + vn * 6 + 1, none⟩ = some x1 ∧ w.cell? ⟨g, o0 + vn * 6 + 2, none⟩ = some x2 ∧ w.cell? ⟨g, o0 + vn * 6 + 3, none⟩ = some x3 ∧ w.cell? ⟨g, o0 + vn * 6 + 4, none⟩ = some x4 ∧ w.cell? ⟨g, o0 + vn * 6 + 5, none⟩ = some x5) := fun w hb => HCX.out w (HB45.out.trans (hb.mono HB45.out.size))
                have HSZW : Hid (∀ b, (Value.slice (some ⟨g, o0, none⟩) k kx).ownBlock = some b ∨ DrB (ptr q) b → b < W4.heap.size) := fun b hb => hb.elim (fun hb => HLXc.out.r.lt hb) (fun hb => HDWc.out.lt hb)
                clear hb5 hbx hdq hbn HCX KA FS HC0 HB45 HDX HLXc HDWc HXc HBc
                go_upto_region 19 with (fail)
                refine wp_region_held_drew (S := fun X : World => Below W5.heap.size W5 X) (by kernel_rfl) (HP0.out) (fun hHeld => ?_)
                refine wpAnyH_take (i := 0) (oi := q7_19_0) (v := ?_) rfl (by kernel_rfl) (by kernel_rfl) (by kernel_rfl) (fun _ _ _ h => h) (Or.inl ⟨by rfl, ?_⟩) hHeld ?_
                rotate_left
                · intro w hSw; dsimp only [q7_19_0]; (try dsimp only at hSw); go_simp <;> with_reducible rfl
                try simp only [q7_19_0, Act.put, List.setIfInBounds_toArray, List.set_cons_zero, List.set_cons_succ]
                refine wpAnyH_take (i := 1) (oi := q7_19_1) (v := ?_) rfl (by kernel_rfl) (by kernel_rfl) (by kernel_rfl) (fun _ _ _ h => h) (Or.inl ⟨by rfl, ?_⟩) hHeld ?_
                rotate_left
                · intro w hSw; dsimp only [q7_19_1]; (try dsimp only at hSw); go_simp <;> with_reducible rfl
                try simp only [q7_19_1, Act.put, List.setIfInBounds_toArray, List.set_cons_zero, List.set_cons_succ]
                refine wpAnyH_take (i := 2) (oi := q7_19_2) (v := ?_) rfl (by kernel_rfl) (by kernel_rfl) (by kernel_rfl) (fun _ _ _ h => h) (Or.inl ⟨by rfl, ?_⟩) hHeld ?_
                rotate_left
                · intro w hSw; dsimp only [q7_19_2]; (try dsimp only at hSw); go_simp <;> with_reducible rfl
                try simp only [q7_19_2, Act.put, List.setIfInBounds_toArray, List.set_cons_zero, List.set_cons_succ]
                refine wpAnyH_take (i := 3) (oi := q7_19_3) (v := ?_) rfl (by kernel_rfl) (by kernel_rfl) (by kernel_rfl) (fun _ _ _ h => h) (Or.inl ⟨by rfl, ?_⟩) hHeld ?_
                rotate_left
                · intro w hSw; dsimp only [q7_19_3]; obtain ⟨y0, y1, y2, y3, y4, y5⟩ := (HYB.out.below hSw).six; go_simp <;> with_reducible rfl
                try simp only [q7_19_3, Act.put, List.setIfInBounds_toArray, List.set_cons_zero, List.set_cons_succ]
                refine wpAnyH_ready (rs := [4]) (by kernel_rfl) (by simp) ?_
                refine AllReadyH.cons rfl (fun K hK => ?_) AllReadyH.nil
                go_simp
                refine (KE.out _ HP0.out).mono ?_
                rintro e u1 ⟨rfl, hbu⟩
                have HP1 : Hid (Below W5.heap.size W5 u1) := HP0.out.trans (hbu.mono HP0.out.size)
                clear hbu
                refine hK.out _ _ (HP1.out) (fun hHeld2 => ?_)
                clear hK K hHeld
                have hHeld := hHeld2
                clear hHeld2
                try simp only [Act.put, List.setIfInBounds_toArray, List.set_cons_zero, List.set_cons_succ]
                refine wpAnyH_take (i := 5) (oi := q7_19_5) (v := ?_) rfl (by kernel_rfl) (by kernel_rfl) (by kernel_rfl) (fun _ _ _ h => h) (Or.inl ⟨by rfl, ?_⟩) hHeld ?_
                rotate_left
                · intro w hSw; dsimp only [q7_19_5]; (try dsimp only at hSw); go_simp <;> with_reducible rfl
                try simp only [q7_19_5, Act.put, List.setIfInBounds_toArray, List.set_cons_zero, List.set_cons_succ]
                refine wpAnyH_take (i := 6) (oi := q7_19_6) (v := ?_) rfl (by kernel_rfl) (by kernel_rfl) (by kernel_rfl) (fun _ _ _ h => h) (Or.inl ⟨by rfl, ?_⟩) hHeld ?_
                rotate_left
                · intro w hSw; dsimp only [q7_19_6]; (try dsimp only at hSw); go_simp <;> with_reducible rfl
                try simp only [q7_19_6, Act.put, List.setIfInBounds_toArray, List.set_cons_zero, List.set_cons_succ]
                refine wpAnyH_take (i := 7) (oi := q7_19_7) (v := ?_) rfl (by kernel_rfl) (by kernel_rfl) (by kernel_rfl) (fun _ _ _ h => h) (Or.inl ⟨by rfl, ?_⟩) hHeld ?_
                rotate_left
                · intro w hSw; dsimp only [q7_19_7]; obtain ⟨y0, y1, y2, y3, y4, y5⟩ := (HYB.out.below hSw).six; go_simp <;> with_reducible rfl
                try simp only [q7_19_7, Act.put, List.setIfInBounds_toArray, List.set_cons_zero, List.set_cons_succ]
                refine wpAnyH_take (i := 8) (oi := q7_19_8) (v := ?_) rfl (by kernel_rfl) (by kernel_rfl) (by kernel_rfl) (fun _ _ _ h => h) (Or.inl ⟨by rfl, ?_⟩) hHeld ?_
                rotate_left
                · intro w hSw; dsimp only [q7_19_8]; (try dsimp only at hSw); go_simp <;> with_reducible rfl
                try simp only [q7_19_8, Act.put, List.setIfInBounds_toArray, List.set_cons_zero, List.set_cons_succ]
                refine wpAnyH_take (i := 9) (oi := q7_19_9) (v := ?_) rfl (by kernel_rfl) (by kernel_rfl) (by kernel_rfl) (fun _ _ _ h => h) (Or.inl ⟨by rfl, ?_⟩) hHeld ?_
                rotate_left
                · intro w hSw; dsimp only [q7_19_9]; (try dsimp only at hSw); go_simp <;> with_reducible rfl
                try simp only [q7_19_9, Act.put, List.setIfInBounds_toArray, List.set_cons_zero, List.set_cons_succ]
                refine wpAnyH_take (i := 10) (oi := q7_19_10) (v := ?_) rfl (by kernel_rfl) (by kernel_rfl) (by kernel_rfl) (fun _ _ _ h => h) (Or.inl ⟨by rfl, ?_⟩) hHeld ?_
                rotate_left
                · intro w hSw; dsimp only [q7_19_10]; obtain ⟨y0, y1, y2⟩ := (HX5.out.below hSw).three; go_simp <;> with_reducible rfl
                try simp only [q7_19_10, Act.put, List.setIfInBounds_toArray, List.set_cons_zero, List.set_cons_succ]
                refine wpAnyH_take (i := 11) (oi := q7_19_11) (v := ?_) rfl (by kernel_rfl) (by kernel_rfl) (by kernel_rfl) (fun _ _ _ h => h) (Or.inl ⟨by rfl, ?_⟩) hHeld ?_
                rotate_left
                · intro w hSw; dsimp only [q7_19_11]; (try dsimp only at hSw); go_simp <;> with_reducible rfl
                try simp only [q7_19_11, Act.put, List.setIfInBounds_toArray, List.set_cons_zero, List.set_cons_succ]
                refine wpAnyH_take (i := 12) (oi := q7_19_12) (v := ?_) rfl (by kernel_rfl) (by kernel_rfl) (by kernel_rfl) (fun _ _ _ h => h) (Or.inl ⟨by rfl, ?_⟩) hHeld ?_
                rotate_left
                · intro w hSw; dsimp only [q7_19_12]; obtain ⟨y0, y1, y2, y3, y4, y5⟩ := HCX5.out _ hSw; go_simp <;> with_reducible rfl
                try simp only [q7_19_12, Act.put, List.setIfInBounds_toArray, List.set_cons_zero, List.set_cons_succ]
                refine wpAnyH_ready (rs := [13]) (by kernel_rfl) (by simp) ?_
                refine AllReadyH.cons rfl (fun K hK => ?_) AllReadyH.nil
                go_simp
                refine (KW.out _ HP1.out).mono ?_
                rintro e u2 ⟨rfl, hbu⟩
                have HP2 : Hid (Below W5.heap.size W5 u2) := HP1.out.trans (hbu.mono HP1.out.size)
                clear hbu
                refine hK.out _ _ (HP2.out) (fun hHeld2 => ?_)
                clear hK K hHeld
                have hHeld := hHeld2
                clear hHeld2
                try simp only [Act.put, List.setIfInBounds_toArray, List.set_cons_zero, List.set_cons_succ]
                refine wpAnyH_take (i := 14) (oi := q7_19_14) (v := ?_) rfl (by kernel_rfl) (by kernel_rfl) (by kernel_rfl) (fun _ _ _ h => h) (Or.inl ⟨by rfl, ?_⟩) hHeld ?_
                rotate_left
                · intro w hSw; dsimp only [q7_19_14]; (try dsimp only at hSw); go_simp <;> with_reducible rfl
                try simp only [q7_19_14, Act.put, List.setIfInBounds_toArray, List.set_cons_zero, List.set_cons_succ]
                refine wpAnyH_take (i := 15) (oi := q7_19_15) (v := ?_) rfl (by kernel_rfl) (by kernel_rfl) (by kernel_rfl) (fun _ _ _ h => h) (Or.inl ⟨by rfl, ?_⟩) hHeld ?_
                rotate_left
                · intro w hSw; dsimp only [q7_19_15]; (try dsimp only at hSw); go_simp <;> with_reducible rfl
                try simp only [q7_19_15, Act.put, List.setIfInBounds_toArray, List.set_cons_zero, List.set_cons_succ]
                refine wpAnyH_done (by kernel_rfl) ?_ _
                obtain ⟨x0', x1', x2'⟩ := (HX5.out.below HP2.out).three
                obtain ⟨y0, y1, y2, y3, y4, y5⟩ := (HYB.out.below HP2.out).six
                have HLXu : Hid (LX (DrB (ptr q)) W.heap.size u2 (.slice (some ⟨g, o0, none⟩) k kx) D' vs) := HLX5.out.below HP2.out
                have HDWu : Hid (Dw (fun b => (Value.slice (some ⟨g, o0, none⟩) k kx).ownBlock = some b) u2 (ptr q) R2) := HDW5.out.below HP2.out
                have HBu : Hid (Below W.heap.size W u2) := HB5.out.trans (HP2.out.mono HB5.out.size)
                have HDYu : Hid (Dc (fun b => b = bn ∨ b < W4.heap.size) u2 [.bool g0, .slice s1.1 s1.2.1 s1.2.2, .slice s2.1 s2.2.1 s2.2.2, .slice s3.1 s3.2.1 s3.2.2, .int .i64 g4, .int .i64 g5] rr) := HDY.out.below HP2.out
                have hwk : IntKind.i64.wrap ((s : Int) + 1) = (s : Int) + 1 := by rw [IntKind.wrap_i64]; omega
                have HTH : Hid (u2.there g (o0 + vn * 6) 6) := by
                  obtain ⟨g', cap', e', _, _, _, _, hth⟩ := HLXu.out.r.at HVC.out
                  injection e' with e1 _ _
                  injection e1 with e1
                  injection e1 with e1 e2 _
                  subst e1
                  unfold Hid
                  rw [HO0.out, Nat.zero_add]
                  exact hth
                have hone3 := HDYu.out.one
                go_wp2_with (with_reducible refine stM rfl (.tmp 132) (.tmp 131) rfl g (o0 + vn * 6) [.bool g0, .slice s1.1 s1.2.1 s1.2.2, .slice s2.1 s2.2.1 s2.2.2, .slice s3.1 s3.2.1 s3.2.2, .int .i64 g4, .int .i64 g5] (by with_unfolding_all rfl) (by with_unfolding_all rfl) HTH.out HDYu.out.len hone3 ?_)
                go_roundw
                case rel =>
                  have e0 : o0 + vn * 6 = vn * 6 := by rw [HO0.out]; omega
                  have hown : (Value.slice (some ⟨g, o0, none⟩) k kx).ownBlock = some g := by rw [HO0.out]; rfl
                  have hvsl : vs.length = k := by rw [HLXu.out.n, HI.out.1.n, HND.out]
                  have hkk : Kept (fun b => b = g) u2 (u2.setCells g (vn * 6) [.bool g0, .slice s1.1 s1.2.1 s1.2.2, .slice s2.1 s2.2.1 s2.2.2, .slice s3.1 s3.2.1 s3.2.2, .int .i64 g4, .int .i64 g5]) := Kept.setCells (X := fun b => b = g) rfl _ _ (Kept.refl _ _)
                  have h1 := HLXu.out.put (g := g) (cap := kx) (i := vn) (by rw [HO0.out, hvsl]) (by omega) (HDYu.out.up (fun b hb => .inl (.inr (HSZW.out b hb))))
                  have h2 := HDWu.out.setc hkk hown (HOXX.out g hown).1
                  have h3 := HBu.out.trans (hkk.below HBu.out.size (fun b hb => by rw [hb]; exact (HOXX.out g hown).2))
                  rw [e0]
                  have h4 : Lft D (D'.set vn rr) ∧ ((s + 1 : Nat) : Int) + sumS (D'.set vn rr) ≤ M := ⟨HRE.out.2.2.2.1, by have := HRE.out.2.2.2.2; have := HI.out.2; omega⟩
                  first | exact ⟨s + 1, by omega, D'.set vn rr, h4, ⟨vs.set vn [.bool g0, .slice s1.1 s1.2.1 s1.2.2, .slice s2.1 s2.2.1 s2.2.2, .slice s3.1 s3.2.1 s3.2.2, .int .i64 g4, .int .i64 g5], h1⟩, ⟨R2, h2⟩, h3⟩ | exact ⟨s + 1, D'.set vn rr, R2, vs.set vn [.bool g0, .slice s1.1 s1.2.1 s1.2.2, .slice s2.1 s2.2.1 s2.2.2, .slice s3.1 s3.2.1 s3.2.2, .int .i64 g4, .int .i64 g5], by go_num, h4, h1, h2, h3⟩
                case measure => simp [intOf]; omega
end Go.Proofs.YthkliicmoandmaaGreatDoor
