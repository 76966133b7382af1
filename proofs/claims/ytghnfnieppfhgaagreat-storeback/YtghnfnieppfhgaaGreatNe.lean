/-
  What is proved here: the walk of StoreBack.
-/
import Derived.Test.YtghnfnieppfhgaaGreatNd
import Derived.Test.YtghnfnieppfhgaaGreatMs
import Derived.Test.YtghnfnieppfhgaaGreatKu
import Derived.Deep.CutRange
namespace Go.Proofs.YtghnfnieppfhgaaGreat
open Go.RowKit Go.Shelf
set_option linter.unusedVariables false
set_option linter.unusedSimpArgs false

theorem Bk.le {D0 : List MD} {st : StM} {Ls : List (List MD)} {q q' : Nat} (h : Bk D0 st Ls q) (hq : q ≤ q') : Bk D0 st Ls q' := ⟨h.fr, h.w, h.ws, Nat.le_trans h.sv hq⟩
/-- When the last depth has ended all is as it was. -/
def Ends (E0 : List MD) (L : List (List MD)) (st : StM) : Prop := (L = [] → st.D = E0) ∧ ∀ A X, L = A ++ [X] → X = E0
theorem ends_0 (E0 : List MD) (L : List (List MD)) (st : StM) : Ends E0 (L ++ [E0]) st := ⟨fun h => by simp at h, fun A X h => by have := List.append_inj_right' h rfl; injection this with this _; exact this.symm⟩
theorem ends_1 {E0 X : List MD} {L : List (List MD)} {st st' : StM} (h : Ends E0 (X :: L) st) (hX : st'.D = X) : Ends E0 L st' := ⟨fun e => by rw [hX]; exact h.2 [] X (by rw [e]; rfl), fun A Y e => h.2 (X :: A) Y (by rw [e]; rfl)⟩
abbrev q4_33_0 : Oper := { dst := some 121, op := Go.Op.move (Go.Operand.tmp 17), type := 3, pos := "law.go:156", after := #[], guard := none }
abbrev q4_33_1 : Oper := { dst := some 122, op := Go.Op.move (Go.Operand.tmp 11), type := 22, pos := "law.go:156", after := #[], guard := none }
abbrev q4_33_2 : Oper := { dst := some 123, op := Go.Op.call { callee := Go.Callee.builtin Go.Builtin.len, args := #[Go.Operand.tmp 122], argTypes := #[22] }, type := 3, pos := "law.go:156", after := #[{ on := 1, ground := Go.Ground.data }], guard := none }
abbrev q4_33_3 : Oper := { dst := some 124, op := Go.Op.binOp Go.BinOp.geq 3 (Go.Operand.tmp 121) (Go.Operand.tmp 123) 3, type := 4, pos := "law.go:156", after := #[{ on := 0, ground := Go.Ground.data }, { on := 2, ground := Go.Ground.data }], guard := none }
abbrev q4_33_4 : Oper := { dst := some 125, op := Go.Op.move (Go.Operand.tmp 124), type := 4, pos := "law.go:156", after := #[{ on := 3, ground := Go.Ground.data }], guard := none }
abbrev q4_33_5 : Oper := { dst := some 126, op := Go.Op.move (Go.Operand.tmp 16), type := 22, pos := "law.go:156", after := #[{ on := 4, ground := Go.Ground.guard }], guard := some (4, false) }
abbrev q4_33_6 : Oper := { dst := some 127, op := Go.Op.move (Go.Operand.tmp 17), type := 3, pos := "law.go:156", after := #[{ on := 4, ground := Go.Ground.guard }], guard := some (4, false) }
abbrev q4_33_7 : Oper := { dst := some 128, op := Go.Op.indexAddr 22 (Go.Operand.tmp 126) (Go.Operand.tmp 127), type := 0, pos := "law.go:156", after := #[{ on := 5, ground := Go.Ground.data }, { on := 6, ground := Go.Ground.data }, { on := 4, ground := Go.Ground.guard }], guard := some (4, false) }
abbrev q4_33_8 : Oper := { dst := some 129, op := Go.Op.load 37 (Go.Operand.tmp 128), type := 37, pos := "law.go:156", after := #[{ on := 7, ground := Go.Ground.data }, { on := 4, ground := Go.Ground.guard }], guard := some (4, false) }
abbrev q4_33_9 : Oper := { dst := some 130, op := Go.Op.move (Go.Operand.tmp 11), type := 22, pos := "law.go:156", after := #[{ on := 4, ground := Go.Ground.guard }], guard := some (4, false) }
abbrev q4_33_10 : Oper := { dst := some 131, op := Go.Op.move (Go.Operand.tmp 17), type := 3, pos := "law.go:156", after := #[{ on := 4, ground := Go.Ground.guard }], guard := some (4, false) }
abbrev q4_33_11 : Oper := { dst := some 132, op := Go.Op.indexAddr 22 (Go.Operand.tmp 130) (Go.Operand.tmp 131), type := 0, pos := "law.go:156", after := #[{ on := 9, ground := Go.Ground.data }, { on := 10, ground := Go.Ground.data }, { on := 4, ground := Go.Ground.guard }], guard := some (4, false) }
abbrev q4_33_12 : Oper := { dst := some 133, op := Go.Op.load 37 (Go.Operand.tmp 132), type := 37, pos := "law.go:156", after := #[{ on := 11, ground := Go.Ground.data }, { on := 4, ground := Go.Ground.guard }], guard := some (4, false) }
abbrev q4_33_14 : Oper := { dst := some 135, op := Go.Op.unOp Go.UnOp.not 4 (Go.Operand.tmp 134), type := 4, pos := "law.go:156", after := #[{ on := 13, ground := Go.Ground.data }, { on := 4, ground := Go.Ground.guard }], guard := some (4, false) }
abbrev q4_33_15 : Oper := { dst := some 136, op := Go.Op.pick (Go.Operand.tmp 125) (Go.Operand.const (Go.Value.bool true)) (Go.Operand.tmp 135), type := 4, pos := "law.go:156", after := #[{ on := 4, ground := Go.Ground.data }, { on := 14, ground := Go.Ground.data }], guard := none }
set_option maxRecDepth 100000 in
set_option maxHeartbeats 16000000 in
theorem back_walk {W : World} {p1 : Option Addr} {n k1 : Nat} {p2 : Option Addr} {nb k2 : Nat} {p3 : Option Addr} {nw k3 : Nat} {l : List MD} {S T : List (Int × Int × MD)} (hl : Ds W (.slice p1 n k1) l) (hf : ∀ d ∈ l, Dm.FitsR d.r) (hS : Scr2 W (.slice p2 nb k2) S) (hfS : ∀ q ∈ S, Dm.FitsR q.2.2.r) (hT : Scr2 W (.slice p3 nw k3) T) (hfT : ∀ q ∈ T, Dm.FitsR q.2.2.r) :
    Calls Tryz.prog 4 #[.slice p1 n k1, .slice p2 nb k2, .slice p3 nw k3] W fun e w' => e = .returned (.bool true) ∧ Below W.heap.size W w' := by
  have hnl : l.length = n := by obtain ⟨a, c, e, _⟩ := hl; injection e with _ e2 _; exact e2.symm
  have hns : S.length = nb := by obtain ⟨a, c, e, _⟩ := hS; injection e with _ e2 _; exact e2.symm
  have hnt : T.length = nw := by obtain ⟨a, c, e, _⟩ := hT; injection e with _ e2 _; exact e2.symm
  have HKN : Hid (∀ w, Below W.heap.size W w → Calls Tryz.prog 10 #[] w fun e w' => e = .returned (.bool true) ∧ Below W.heap.size W w') := fun w hb => (known_true w).mono fun e w' ⟨he, hb'⟩ => ⟨he, hb.trans (hb'.mono hb.size)⟩
  have HSS : Hid (Scr2 W (.slice p2 nb k2) S) := hS
  have HFS : Hid (∀ q ∈ S, Dm.FitsR q.2.2.r) := hfS
  have HNS : Hid (S.length = nb) := hns
  have HTT : Hid (Scr2 W (.slice p3 nw k3) T) := hT
  have HFT : Hid (∀ q ∈ T, Dm.FitsR q.2.2.r) := hfT
  have HNT : Hid (T.length = nw) := hnt
  have HNL : Hid (l.length = n) := hnl
  have hnew := new_ways (ld_of hl) hf
  clear hl hf hS hfS hT hfT hnl hns hnt
  rcases hnew with ⟨x, hx, kn⟩ | ⟨hr, hl1, kn⟩
  · have hx' : (x != 0) = true := by simpa using hx
    go_enter Tryz.func4, Tryz.ntmps4
    go_wp2_with fail
    refine kn.mono ?_
    clear kn
    rintro e w1 ⟨rfl, hb1⟩
    have HBX : Hid (Below W.heap.size W w1) := hb1
    go_wp2_with fail
    refine (HKN.out _ HBX.out).mono ?_
    rintro e wz ⟨rfl, hbz⟩
    go_wp2
    go_ret
    exact ⟨rfl, hbz⟩
  · go_enter Tryz.func4, Tryz.ntmps4
    go_wp2_with fail
    refine kn.mono ?_
    clear kn
    rintro e w1 ⟨p, sl0, rfl, hst, hxs, hb1⟩
    have HBX : Hid (Below W.heap.size W w1) := hb1
    by_cases h60 : (60 : Int) < (n : Int)
    ·
      go_wp2_with fail
      refine (HKN.out _ HBX.out).mono ?_
      rintro e wz ⟨rfl, hbz⟩
      go_wp2
      go_ret
      exact ⟨rfl, hbz⟩
    · have HK0 : Hid (Bk (newA l).D (newA l) [] 0) := bk_new hl1 hr
      have HN0 : Hid ((newA l).D.length = n) := by rw [Hid, ← HNL.out]; show (l.map _).length = l.length; simp
      have HN6 : Hid (n ≤ 60) := by rw [Hid]; omega
      obtain ⟨D0, hD0⟩ : ∃ q, (newA l).D = q := ⟨_, rfl⟩
      obtain ⟨s0, hs0⟩ : ∃ q, newA l = q := ⟨_, rfl⟩
      rw [hD0] at HK0 HN0
      rw [hs0] at HK0 hst
      have HA0 : Hid (Sa W w1 p s0 sl0) := ⟨hst, hxs, hb1⟩
      clear hst hxs hb1 hl1 hr hD0 hs0 HBX
      go_wp2
      go_loopw [9] (fun i wr => ∃ (k : Nat) (st : StM) (sl : Sl), i = .int .i64 (k : Int) ∧ k ≤ nb ∧ k ≤ 50 ∧ Hid (Bk D0 st [] k) ∧ Hid (Sa W wr p st sl)) (fun i _ => nb - (intOf i).toNat)
      case atStart => exact ⟨0, s0, sl0, rfl, Nat.zero_le _, Nat.zero_le _, HK0, HA0⟩
      case round =>
        clear HK0 HA0
        obtain ⟨k, st, sl, rfl, hk, hk50, HK, HA⟩ := hrel
        go_upto_region 7 with (fail)
        go_cut [40] from 33 to 60 (fun s wc => s = .bool (decide (k < nb ∧ k < 50)) ∧ wr = wc)
        case first =>
          by_cases hlt : k < nb
          · have hlt' : (k : Int) < (nb : Int) := by omega
            by_cases h5 : k < 50
            · have h5' : (k : Int) < 50 := by omega
              have hdd : decide (k < nb ∧ k < 50) = true := decide_eq_true ⟨hlt, h5⟩
              go_wp2
              go_meet
              case rel => exact ⟨by rw [hdd], rfl⟩
            · have h5' : ¬ (k : Int) < 50 := by omega
              have hdd : decide (k < nb ∧ k < 50) = false := decide_eq_false (fun q => h5 q.2)
              go_wp2
              go_meet
              case rel => exact ⟨by rw [hdd], rfl⟩
          · have hlt' : ¬ (k : Int) < (nb : Int) := by omega
            have hdd : decide (k < nb ∧ k < 50) = false := decide_eq_false (fun q => hlt q.1)
            go_wp2
            go_meet
            case rel => exact ⟨by rw [hdd], rfl⟩
        case rest =>
          obtain ⟨rfl, rfl⟩ := hcut
          by_cases hgo : k < nb ∧ k < 50
          · rw [decide_eq_true hgo]
            obtain ⟨hlt, h5⟩ := hgo
            have hwk : IntKind.i64.wrap ((k : Int) + 1) = (k : Int) + 1 := by rw [IntKind.wrap_i64]; omega
            have hlt' : (k : Int) < (nb : Int) := by omega
            obtain ⟨⟨kd, v, d⟩, hq⟩ : ∃ q, S[k]? = some q := ⟨_, List.getElem?_eq_getElem (by rw [HNS.out]; exact hlt)⟩
            obtain ⟨b2, off2, hp2, hb2l, c0, c1, c2, c3, c4, c5, hD, hkd, hcv, k0, k1', k2', k3', k4, k5⟩ : ∃ b2 off2, p2 = some ⟨b2, off2, none⟩ ∧ b2 < W.heap.size ∧ ∃ c0 c1 c2 c3 c4 c5, Dc (fun _ => False) W [c0, c1, c2, c3, c4, c5] d ∧ W.cell? ⟨b2, off2 + k * 8, none⟩ = some (.int .i64 kd) ∧ W.cell? ⟨b2, off2 + k * 8 + 1, none⟩ = some (.int .i64 v) ∧ W.cell? ⟨b2, off2 + k * 8 + 2, none⟩ = some c0 ∧ W.cell? ⟨b2, off2 + k * 8 + 2 + 1, none⟩ = some c1 ∧ W.cell? ⟨b2, off2 + k * 8 + 2 + 2, none⟩ = some c2 ∧ W.cell? ⟨b2, off2 + k * 8 + 2 + 3, none⟩ = some c3 ∧ W.cell? ⟨b2, off2 + k * 8 + 2 + 4, none⟩ = some c4 ∧ W.cell? ⟨b2, off2 + k * 8 + 2 + 5, none⟩ = some c5 := by
              obtain ⟨a', c', e', hh⟩ := HSS.out
              obtain ⟨b, off, q1, q2, q3⟩ := hh (by rw [HNS.out]; omega)
              injection e' with e1 _ _
              exact ⟨b, off, e1.trans q1, q2, q3 k kd v d hq⟩
            have hcl : ∀ (o : Nat) x, W.cell? ⟨b2, o, none⟩ = some x → wr.cell? ⟨b2, o, none⟩ = some x := fun o x hx => (HA.out.b.cell (p := ⟨b2, o, none⟩) hb2l).trans hx
            replace hkd := hcl _ _ hkd
            replace hcv := hcl _ _ hcv
            replace k0 := hcl _ _ k0
            replace k1' := hcl _ _ k1'
            replace k2' := hcl _ _ k2'
            replace k3' := hcl _ _ k3'
            replace k4 := hcl _ _ k4
            replace k5 := hcl _ _ k5
            obtain ⟨zb, ra, n0, rc, a1, n1, e1, a2, n2, e2, zx, zy, hcs, _, _, _, _⟩ := hD.look
            simp only [List.cons.injEq, and_true] at hcs
            obtain ⟨rfl, rfl, rfl, rfl, rfl, rfl⟩ := hcs
            have HDW : Hid (Dc (fun _ => False) W [.bool zb, .slice ra n0 rc, .slice a1 n1 e1, .slice a2 n2 e2, .int .i64 zx, .int .i64 zy] d) := hD
            have HFD : Hid (Dm.FitsR d.r) := HFS.out _ (List.mem_of_getElem? hq)
            obtain ⟨bx, hbx⟩ : ∃ q, wr.heap.size = q := ⟨_, rfl⟩
            obtain ⟨Y0, hY0⟩ : ∃ q, wr.alloc (Obj.cells #[.int .i64 kd, .int .i64 v, .bool zb, .slice ra n0 rc, .slice a1 n1 e1, .slice a2 n2 e2, .int .i64 zx, .int .i64 zy] 40) = q := ⟨_, rfl⟩
            have hbY : Below wr.heap.size wr Y0 := by rw [← hY0]; exact (Below.refl _ _).alloc (Nat.le_refl _) _
            have HBY : Hid (Below wr.heap.size wr Y0) := hbY
            have HY0 : Hid (wr.alloc (Obj.cells #[.int .i64 kd, .int .i64 v, .bool zb, .slice ra n0 rc, .slice a1 n1 e1, .slice a2 n2 e2, .int .i64 zx, .int .i64 zy] 40) = Y0) := hY0
            have HBX9 : Hid (bx = wr.heap.size) := hbx.symm
            have HBB : Hid (Bx Y0 bx #[.int .i64 kd, .int .i64 v, .bool zb, .slice ra n0 rc, .slice a1 n1 e1, .slice a2 n2 e2, .int .i64 zx, .int .i64 zy] 40) := by rw [← hY0]; exact Bx.new' hbx _ _
            subst hp2
            clear hq hD hY0 hbY hbx hcl hb2l
            have HK1 : Hid (Bk D0 (narM st v d) [] (k + 1)) := HK.out.nar v d
            have HKM : Hid (Bk D0 st [] (k + 1)) := HK.out.more
            have HAY : Hid (Sa W Y0 p st sl) := HA.out.below HBY.out
            have KNA : Hid _ := narrow_all HAY.out.s ((HDW.out.up (fun b hb => .inr (HAY.out.x b hb))).below HAY.out.b) v (HK.out.sz (by rw [HN0.out]; exact HN6.out) (by omega) (by simp)) (by have := HK.out.sv; omega) HFD.out HK.out.held HK.out.e0 HK.out.ne
            by_cases q1 : (2 : Int) < kd
            ·
              go_wp2_with fail
              (try rw [HY0.out])
              (try rw [← HBX9.out])
              refine Calls.mono KNA.out ?_
              rintro e u1 ⟨⟨rx, ry, rfl⟩, sl', hs', hu', hk'⟩
              have HA1 : Hid (Sa W u1 p (narM st v d) sl') := HAY.out.step hs' hu' hk'
              clear hs' hu' hk' KNA
              go_wp2
              go_roundw
              case rel => first | exact ⟨k + 1, narM st v d, sl', by go_num, by omega, by omega, HK1, HA1⟩ | ((repeat apply Exists.intro); exact ⟨⟨k + 1, narM st v d, sl', by go_num, by omega, by omega, HK1, HA1⟩, rfl⟩)
              case measure => simp [intOf]; omega
            · by_cases q2 : kd < 0
              ·
                go_wp2_with fail
                (try rw [HY0.out])
                (try rw [← HBX9.out])
                refine Calls.mono KNA.out ?_
                rintro e u1 ⟨⟨rx, ry, rfl⟩, sl', hs', hu', hk'⟩
                have HA1 : Hid (Sa W u1 p (narM st v d) sl') := HAY.out.step hs' hu' hk'
                clear hs' hu' hk' KNA
                go_wp2
                go_roundw
                case rel => first | exact ⟨k + 1, narM st v d, sl', by go_num, by omega, by omega, HK1, HA1⟩ | ((repeat apply Exists.intro); exact ⟨⟨k + 1, narM st v d, sl', by go_num, by omega, by omega, HK1, HA1⟩, rfl⟩)
                case measure => simp [intOf]; omega
              · go_wp2_with fail
                (try rw [HY0.out])
                go_roundw
                case rel => first | exact ⟨k + 1, st, sl, by go_num, by omega, by omega, HKM, HAY⟩ | ((repeat apply Exists.intro); exact ⟨⟨k + 1, st, sl, by go_num, by omega, by omega, HKM, HAY⟩, rfl⟩)
                case measure => simp [intOf]; omega
          · rw [decide_eq_false hgo]
            have HKB : Hid (Bk st.D st [] 50) := HK.out.base.le hk50
            have HEN : Hid (st.D.length = n) := by rw [Hid, HK.out.w.l, HN0.out]
            have HEE : Hid (st.e = emS st.D) := HK.out.em
            have hsz : Sz st := HK.out.sz (by rw [HN0.out]; exact HN6.out) (by omega) (by simp)
            have ka := all_x HA.out.s hsz HK.out.held
            obtain ⟨N0, hN0⟩ : ∃ q, wr.heap.size = q := ⟨_, rfl⟩
            obtain ⟨wa, hwa⟩ : ∃ q, wr = q := ⟨_, rfl⟩
            rw [hwa] at HA ka hN0 ⊢
            clear HK hwa wr
            clear hk hk50 hgo
            obtain ⟨E0, hE0⟩ : ∃ q, st.D = q := ⟨_, rfl⟩
            rw [hE0] at HKB HEN HEE ka
            go_wp2_with fail
            refine ka.mono ?_
            clear ka
            rintro e w2 ⟨v0, vs0, rfl, hlx, hb2⟩
            obtain ⟨va, vc, rfl, _, _⟩ := hlx.r.shape
            have hvn : vs0.length = n := by rw [hlx.n, HEN.out]
            rw [hvn] at hlx ⊢
            have HS2 : Hid (Sb W w2 p st sl N0 (.slice va n vc) E0 vs0) := Sb.of HA.out (hN0 ▸ hlx) hN0.symm hb2
            clear hlx hb2 hvn HA hN0
            have kf := failed_any HS2.out.a.s
            obtain ⟨bd, hbd⟩ : ∃ q, decide (0 < st.e) = q := ⟨_, rfl⟩
            rw [hbd] at kf
            have HBD : Hid (decide (0 < emS E0) = bd) := by rw [Hid, ← hbd, HEE.out]
            clear hbd
            go_wp2_with fail
            refine kf.mono ?_
            clear kf
            rintro e w2' ⟨rfl, rfl⟩
            have kp := push_any HS2.out.a.s hsz (by rw [HKB.out.ml]; decide)
            have HK3 : Hid (Bk E0 { st with marks := st.marks ++ [(st.saved.length : Int)] } [E0] 50) := by
              have q := HKB.out.push
              have e : (st.D :: ([] : List (List MD))) = [E0] := by rw [hE0]
              rw [e] at q
              exact q
            generalize { st with marks := st.marks ++ [(st.saved.length : Int)] } = st3 at kp HK3
            go_wp2_with fail
            refine kp.mono ?_
            clear kp
            rintro e w3 ⟨rfl, sl3, hs3, hu3, hk3⟩
            have HS3 : Hid (Sb W w3 p st3 sl3 N0 (.slice va n vc) E0 vs0) := HS2.out.step hs3 hu3 hk3
            have HE6 : Hid (E0.length ≤ 60) := by rw [Hid, HEN.out]; exact HN6.out
            clear hs3 hu3 hk3 HS2 HKB hsz hE0 HEE HN0
            go_wp2
            go_loopw [13, 14] (fun dp i wr => ∃ (k j : Nat) (st : StM) (sl : Sl) (Ls : List (List MD)), i = .int .i64 (k : Int) ∧ dp = .int .i64 (j : Int) ∧ k ≤ nw ∧ k ≤ 50 ∧ j ≤ k ∧ Ls.length = j ∧ Hid (Bk E0 st (Ls ++ [E0]) (50 + k)) ∧ Hid (Sb W wr p st sl N0 (.slice va n vc) E0 vs0)) (fun _ i _ => nw - (intOf i).toNat)
            case atStart => exact ⟨0, 0, st3, sl3, [], rfl, rfl, Nat.zero_le _, Nat.zero_le _, Nat.le_refl _, rfl, HK3, HS3⟩
            case round =>
              clear HK3 HS3
              obtain ⟨k, j, st, sl, Ls, rfl, rfl, hk, hk50, hjk, hLs, HK, HS⟩ := hrel
              go_upto_region 17 with (fail)
              go_cut [74] from 67 to 136 (fun s wc => s = .bool (decide (k < nw ∧ k < 50)) ∧ wr = wc)
              case first =>
                by_cases hlt : k < nw
                · have hlt' : (k : Int) < (nw : Int) := by omega
                  by_cases h5 : k < 50
                  · have h5' : (k : Int) < 50 := by omega
                    have hdd : decide (k < nw ∧ k < 50) = true := decide_eq_true ⟨hlt, h5⟩
                    go_wp2
                    go_meet
                    case rel => exact ⟨by rw [hdd], rfl⟩
                  · have h5' : ¬ (k : Int) < 50 := by omega
                    have hdd : decide (k < nw ∧ k < 50) = false := decide_eq_false (fun q => h5 q.2)
                    go_wp2
                    go_meet
                    case rel => exact ⟨by rw [hdd], rfl⟩
                · have hlt' : ¬ (k : Int) < (nw : Int) := by omega
                  have hdd : decide (k < nw ∧ k < 50) = false := decide_eq_false (fun q => hlt q.1)
                  go_wp2
                  go_meet
                  case rel => exact ⟨by rw [hdd], rfl⟩
              case rest =>
                obtain ⟨rfl, rfl⟩ := hcut
                by_cases hgo : k < nw ∧ k < 50
                · rw [decide_eq_true hgo]
                  obtain ⟨hlt, h5⟩ := hgo
                  have hlt' : (k : Int) < (nw : Int) := by omega
                  obtain ⟨⟨kd, v, d⟩, hq⟩ : ∃ q, T[k]? = some q := ⟨_, List.getElem?_eq_getElem (by rw [HNT.out]; exact hlt)⟩
                  obtain ⟨b2, off2, hp2, hb2l, c0, c1, c2, c3, c4, c5, hD, hkd, hcv, k0, k1', k2', k3', k4, k5⟩ : ∃ b2 off2, p3 = some ⟨b2, off2, none⟩ ∧ b2 < W.heap.size ∧ ∃ c0 c1 c2 c3 c4 c5, Dc (fun _ => False) W [c0, c1, c2, c3, c4, c5] d ∧ W.cell? ⟨b2, off2 + k * 8, none⟩ = some (.int .i64 kd) ∧ W.cell? ⟨b2, off2 + k * 8 + 1, none⟩ = some (.int .i64 v) ∧ W.cell? ⟨b2, off2 + k * 8 + 2, none⟩ = some c0 ∧ W.cell? ⟨b2, off2 + k * 8 + 2 + 1, none⟩ = some c1 ∧ W.cell? ⟨b2, off2 + k * 8 + 2 + 2, none⟩ = some c2 ∧ W.cell? ⟨b2, off2 + k * 8 + 2 + 3, none⟩ = some c3 ∧ W.cell? ⟨b2, off2 + k * 8 + 2 + 4, none⟩ = some c4 ∧ W.cell? ⟨b2, off2 + k * 8 + 2 + 5, none⟩ = some c5 := by
                    obtain ⟨a', c', e', hh⟩ := HTT.out
                    obtain ⟨b, off, q1, q2, q3⟩ := hh (by rw [HNT.out]; omega)
                    injection e' with e1 _ _
                    exact ⟨b, off, e1.trans q1, q2, q3 k kd v d hq⟩
                  have hcl : ∀ (o : Nat) x, W.cell? ⟨b2, o, none⟩ = some x → wr.cell? ⟨b2, o, none⟩ = some x := fun o x hx => (HS.out.a.b.cell (p := ⟨b2, o, none⟩) hb2l).trans hx
                  replace hkd := hcl _ _ hkd
                  replace hcv := hcl _ _ hcv
                  replace k0 := hcl _ _ k0
                  replace k1' := hcl _ _ k1'
                  replace k2' := hcl _ _ k2'
                  replace k3' := hcl _ _ k3'
                  replace k4 := hcl _ _ k4
                  replace k5 := hcl _ _ k5
                  obtain ⟨zb, ra, n0, rc, a1, n1, e1, a2, n2, e2, zx, zy, hcs, _, _, _, _⟩ := hD.look
                  simp only [List.cons.injEq, and_true] at hcs
                  obtain ⟨rfl, rfl, rfl, rfl, rfl, rfl⟩ := hcs
                  have HDW : Hid (Dc (fun _ => False) W [.bool zb, .slice ra n0 rc, .slice a1 n1 e1, .slice a2 n2 e2, .int .i64 zx, .int .i64 zy] d) := hD
                  have HFD : Hid (Dm.FitsR d.r) := HFT.out _ (List.mem_of_getElem? hq)
                  obtain ⟨bx, hbx⟩ : ∃ q, wr.heap.size = q := ⟨_, rfl⟩
                  obtain ⟨Y0, hY0⟩ : ∃ q, wr.alloc (Obj.cells #[.int .i64 kd, .int .i64 v, .bool zb, .slice ra n0 rc, .slice a1 n1 e1, .slice a2 n2 e2, .int .i64 zx, .int .i64 zy] 40) = q := ⟨_, rfl⟩
                  have hbY : Below wr.heap.size wr Y0 := by rw [← hY0]; exact (Below.refl _ _).alloc (Nat.le_refl _) _
                  have HBY : Hid (Below wr.heap.size wr Y0) := hbY
                  have HY0 : Hid (wr.alloc (Obj.cells #[.int .i64 kd, .int .i64 v, .bool zb, .slice ra n0 rc, .slice a1 n1 e1, .slice a2 n2 e2, .int .i64 zx, .int .i64 zy] 40) = Y0) := hY0
                  have HBX9 : Hid (bx = wr.heap.size) := hbx.symm
                  have HBB : Hid (Bx Y0 bx #[.int .i64 kd, .int .i64 v, .bool zb, .slice ra n0 rc, .slice a1 n1 e1, .slice a2 n2 e2, .int .i64 zx, .int .i64 zy] 40) := by rw [← hY0]; exact Bx.new' hbx _ _
                  subst hp2
                  clear hq hD hY0 hbY hbx hcl hb2l
                  have HSY : Hid (Sb W Y0 p st sl N0 (.slice va n vc) E0 vs0) := HS.out.below HBY.out
                  have hsz : Sz st := HK.out.sz HE6.out (by omega) (by simp [hLs]; omega)
                  have HSZ : Hid (Sz st) := hsz
                  clear HS hsz
                  go_upto_block 4 with fail
                  (try rw [HY0.out])
                  (try rw [← HBX9.out])
                  go_cut [13] from 67 to 136 (fun dp wc => ∃ (j' : Nat) (st' : StM) (sl' : Sl) (Ls' : List (List MD)), dp = .int .i64 (j' : Int) ∧ j' ≤ k + 1 ∧ Ls'.length = j' ∧ Hid (Bk E0 st' (Ls' ++ [E0]) (50 + (k + 1))) ∧ Hid (Sb W wc p st' sl' N0 (.slice va n vc) E0 vs0))
                  case first =>
                    clear hkd hcv k0 k1' k2' k3' k4 k5
                    have y0 := HBB.out.cell 0
                    have y1 := HBB.out.cell 1
                    have y2 := HBB.out.cell 2
                    have y3 := HBB.out.cell 3
                    have y4 := HBB.out.cell 4
                    have y5 := HBB.out.cell 5
                    have y6 := HBB.out.cell 6
                    have y7 := HBB.out.cell 7
                    simp at y0 y1 y2 y3 y4 y5 y6 y7
                    have hwj : IntKind.i64.wrap ((j : Int) + 1) = (j : Int) + 1 := by rw [IntKind.wrap_i64]; omega
                    have KNA : Hid _ := narrow_all HSY.out.a.s ((HDW.out.up (fun b hb => .inr (HSY.out.a.x b hb))).below HSY.out.a.b) v HSZ.out (by have := HK.out.sv; omega) HFD.out HK.out.held HK.out.e0 HK.out.ne
                    have HK1 : Hid (Bk E0 (narM st v d) (Ls ++ [E0]) (50 + (k + 1))) := HK.out.nar v d
                    by_cases q0 : kd = 0
                    · subst q0
                      have kp := push_any HSY.out.a.s HSZ.out (by rw [HK.out.ml]; simp [hLs]; omega)
                      have HKP : Hid (Bk E0 { st with marks := st.marks ++ [(st.saved.length : Int)] } ((st.D :: Ls) ++ [E0]) (50 + (k + 1))) := HK.out.push.more
                      go_wp2_with fail
                      refine kp.mono ?_
                      clear kp
                      rintro e u1 ⟨rfl, sl', hs', hu', hk'⟩
                      have HS1 : Hid (Sb W u1 p _ sl' N0 (.slice va n vc) E0 vs0) := HSY.out.step hs' hu' hk'
                      clear hs' hu' hk' KNA
                      go_wp2
                      go_meet
                      case rel => exact ⟨j + 1, _, sl', st.D :: Ls, by go_num, by omega, by simp [hLs], HKP, HS1⟩
                    · by_cases q1 : kd = 1
                      · by_cases hj0 : 0 < j
                        · subst q1
                          have hj0' : (0 : Int) < (j : Int) := by omega
                          obtain ⟨X, Ls1, rfl⟩ : ∃ X Ls1, Ls = X :: Ls1 := by
                            cases Ls with
                            | nil => simp at hLs; omega
                            | cons X Ls1 => exact ⟨X, Ls1, rfl⟩
                          obtain ⟨ms, f, hm, hf, hval, hK', hD'⟩ := Bk.pop (Ls := Ls1 ++ [E0]) (X := X) HK.out
                          have kp := pop_d HSY.out.a.s HSZ.out ms f hm hf (by have := HK.out.sv; omega) hval (by have := HK.out.e0; omega) (by have := HK.out.eb HE6.out; omega)
                          have HKP : Hid (Bk E0 (popA st ms f) (Ls1 ++ [E0]) (50 + (k + 1))) := hK'.more
                          clear hm hf hval hK' hD'
                          generalize popA st ms f = st' at kp HKP
                          have hjp : (j : Int) - 1 = ((j - 1 : Nat) : Int) := by omega
                          have hwm : IntKind.i64.wrap ((j : Int) - 1) = ((j - 1 : Nat) : Int) := by rw [IntKind.wrap_i64]; omega
                          go_wp2_with fail
                          refine kp.mono ?_
                          clear kp
                          rintro e u1 ⟨rfl, sl', hs', hu', hk'⟩
                          have HS1 : Hid (Sb W u1 p _ sl' N0 (.slice va n vc) E0 vs0) := HSY.out.step hs' hu' hk'
                          clear hs' hu' hk' KNA
                          go_wp2
                          go_meet
                          case rel => exact ⟨j - 1, _, sl', Ls1, by first | rfl | go_num, by omega, by simp at hLs; omega, HKP, HS1⟩
                        · subst q1
                          have hj0' : ¬ (0 : Int) < (j : Int) := by omega
                          go_wp2_with fail
                          refine Calls.mono KNA.out ?_
                          rintro e u1 ⟨⟨rx, ry, rfl⟩, sl', hs', hu', hk'⟩
                          have HS1 : Hid (Sb W u1 p (narM st v d) sl' N0 (.slice va n vc) E0 vs0) := HSY.out.step hs' hu' hk'
                          clear hs' hu' hk' KNA
                          go_wp2
                          go_meet
                          case rel => exact ⟨j, _, sl', Ls, rfl, by omega, hLs, HK1, HS1⟩
                      · by_cases q2 : kd = 2
                        · subst q2
                          have ke := events_u HSY.out.a.s HSZ.out
                          have HKP : Hid (Bk E0 { st with why := List.replicate st.D.length 0 } (Ls ++ [E0]) (50 + (k + 1))) := (HK.out.why _).more
                          go_wp2_with fail
                          refine ke.mono ?_
                          clear ke
                          rintro e u1 ⟨es, rfl, _, _, hs', hk'⟩
                          have HS1 : Hid (Sb W u1 p _ sl N0 (.slice va n vc) E0 vs0) := HSY.out.step hs' (Up.refl _ _) hk'
                          clear hs' hk' KNA
                          go_wp2
                          go_meet
                          case rel => exact ⟨j, _, sl, Ls, rfl, by omega, hLs, HKP, HS1⟩
                        ·
                          go_wp2_with fail
                          refine Calls.mono KNA.out ?_
                          rintro e u1 ⟨⟨rx, ry, rfl⟩, sl', hs', hu', hk'⟩
                          have HS1 : Hid (Sb W u1 p (narM st v d) sl' N0 (.slice va n vc) E0 vs0) := HSY.out.step hs' hu' hk'
                          clear hs' hu' hk' KNA
                          go_wp2
                          go_meet
                          case rel => exact ⟨j, _, sl', Ls, rfl, by omega, hLs, HK1, HS1⟩
                  case rest =>
                    obtain ⟨j', st', sl', Ls', rfl, hj', hLs', HK', HS'⟩ := hcut
                    have ka := all_x HS'.out.a.s (HK'.out.sz HE6.out (by omega) (by simp [hLs']; omega)) HK'.out.held
                    have hwk : IntKind.i64.wrap ((k : Int) + 1) = (k : Int) + 1 := by rw [IntKind.wrap_i64]; omega
                    clear hkd hcv k0 k1' k2' k3' k4 k5 HSY HSZ HK HY0 HBY HBB HBX9 HDW HFD
                    go_wp2_with fail
                    refine ka.mono ?_
                    clear ka
                    rintro e w5 ⟨v1, vs1, rfl, hlx1, hb5⟩
                    obtain ⟨xa, xc, rfl, _, _⟩ := hlx1.r.shape
                    have hn1 : vs1.length = n := by rw [hlx1.n, HK'.out.w.l, HEN.out]
                    rw [hn1] at hlx1 ⊢
                    have HS5 : Hid (Sb W w5 p st' sl' N0 (.slice va n vc) E0 vs0) := HS'.out.below hb5
                    have HLY : Hid (Ds w5 (.slice xa n xc) st'.D) := hlx1.ds
                    have HDN : Hid (st'.D.length = n) := by rw [Hid, HK'.out.w.l, HEN.out]
                    clear hlx1 hb5 hn1 HS'
                    go_wp2
                    go_loopw [17] (fun i wr => ∃ m : Nat, i = .int .i64 (m : Int) ∧ m ≤ n ∧ Hid (Below w5.heap.size w5 wr)) (fun i _ => n - (intOf i).toNat)
                    case atStart => exact ⟨0, rfl, Nat.zero_le _, Below.refl _ _⟩
                    case round =>
                      obtain ⟨m, rfl, hm, HBJ⟩ := hrel
                      by_cases hml : m < n
                      · have hml' : (m : Int) < (n : Int) := by omega
                        have hml2 : ¬ (n : Int) ≤ (m : Int) := by omega
                        have hwm : IntKind.i64.wrap ((m : Int) + 1) = (m : Int) + 1 := by rw [IntKind.wrap_i64]; have := HN6.out; omega
                        obtain ⟨x, hx⟩ : ∃ q, st'.D[m]? = some q := ⟨_, List.getElem?_eq_getElem (by rw [HDN.out]; exact hml)⟩
                        obtain ⟨y, hy⟩ : ∃ q, E0[m]? = some q := ⟨_, List.getElem?_eq_getElem (by rw [HEN.out]; exact hml)⟩
                        obtain ⟨hxT, hxs, hxl⟩ := HK'.out.w.h m x y hx hy
                        obtain ⟨bx, ox, hpx, hbx, _, x0, x1, x2, x3, x4, x5, hDx, g0, g1, g2, g3, g4, g5⟩ := (HLY.out.below HBJ.out).at hx
                        obtain ⟨bY, oY, hpy, hby, _, y0, y1, y2, y3, y4, y5, hDy, e0, e1, e2, e3, e4, e5⟩ := (HS5.out.l.ds.below HBJ.out).at hy
                        have HCX : Hid (∀ w, Below wr.heap.size wr w → w.cell? ⟨bx, ox + m * 6, none⟩ = some x0 ∧ w.cell? ⟨bx, ox + m * 6 + 1, none⟩ = some x1 ∧ w.cell? ⟨bx, ox + m * 6 + 2, none⟩ = some x2 ∧ w.cell? ⟨bx, ox + m * 6 + 3, none⟩ = some x3 ∧ w.cell? ⟨bx, ox + m * 6 + 4, none⟩ = some x4 ∧ w.cell? ⟨bx, ox + m * 6 + 5, none⟩ = some x5) := fun w hb => ⟨(hb.cell (p := ⟨bx, _, none⟩) hbx).trans g0, (hb.cell (p := ⟨bx, _, none⟩) hbx).trans g1, (hb.cell (p := ⟨bx, _, none⟩) hbx).trans g2, (hb.cell (p := ⟨bx, _, none⟩) hbx).trans g3, (hb.cell (p := ⟨bx, _, none⟩) hbx).trans g4, (hb.cell (p := ⟨bx, _, none⟩) hbx).trans g5⟩
                        have HCY : Hid (∀ w, Below wr.heap.size wr w → w.cell? ⟨bY, oY + m * 6, none⟩ = some y0 ∧ w.cell? ⟨bY, oY + m * 6 + 1, none⟩ = some y1 ∧ w.cell? ⟨bY, oY + m * 6 + 2, none⟩ = some y2 ∧ w.cell? ⟨bY, oY + m * 6 + 3, none⟩ = some y3 ∧ w.cell? ⟨bY, oY + m * 6 + 4, none⟩ = some y4 ∧ w.cell? ⟨bY, oY + m * 6 + 5, none⟩ = some y5) := fun w hb => ⟨(hb.cell (p := ⟨bY, _, none⟩) hby).trans e0, (hb.cell (p := ⟨bY, _, none⟩) hby).trans e1, (hb.cell (p := ⟨bY, _, none⟩) hby).trans e2, (hb.cell (p := ⟨bY, _, none⟩) hby).trans e3, (hb.cell (p := ⟨bY, _, none⟩) hby).trans e4, (hb.cell (p := ⟨bY, _, none⟩) hby).trans e5⟩
                        have KW : Hid (∀ w, Below wr.heap.size wr w → Calls Tryz.prog 20 #[.agg #[x0, x1, x2, x3, x4, x5], .agg #[y0, y1, y2, y3, y4, y5]] w fun e w' => e = .returned (.bool true) ∧ Below w.heap.size w w') := fun w hb => within_wb (hDx.below hb) (hDy.below hb) hxT hxs hxl
                        have hone1 := hDx.one
                        have hone2 := hDy.one
                        have HP0 : Hid (Below wr.heap.size wr wr.drew) := (Below.refl _ _).drew
                        subst hpx hpy
                        clear hx hy hxT hxs hxl hbx hby g0 g1 g2 g3 g4 g5 e0 e1 e2 e3 e4 e5 hDx hDy
                        go_upto_region 33 with (fail)
                        refine wp_region_held_drew (S := fun X : World => Below wr.heap.size wr X) (by kernel_rfl) (HP0.out) (fun hHeld => ?_)
                        refine wpAnyH_take (i := 0) (oi := q4_33_0) (v := ?_) rfl (by kernel_rfl) (by kernel_rfl) (by kernel_rfl) (fun _ _ _ h => h) (Or.inl ⟨by rfl, ?_⟩) hHeld ?_
                        rotate_left
                        · intro w hSw; dsimp only [q4_33_0]; (try dsimp only at hSw); go_simp <;> with_reducible rfl
                        try simp only [q4_33_0, Act.put, List.setIfInBounds_toArray, List.set_cons_zero, List.set_cons_succ]
                        refine wpAnyH_take (i := 1) (oi := q4_33_1) (v := ?_) rfl (by kernel_rfl) (by kernel_rfl) (by kernel_rfl) (fun _ _ _ h => h) (Or.inl ⟨by rfl, ?_⟩) hHeld ?_
                        rotate_left
                        · intro w hSw; dsimp only [q4_33_1]; (try dsimp only at hSw); go_simp <;> with_reducible rfl
                        try simp only [q4_33_1, Act.put, List.setIfInBounds_toArray, List.set_cons_zero, List.set_cons_succ]
                        refine wpAnyH_take (i := 2) (oi := q4_33_2) (v := ?_) rfl (by kernel_rfl) (by kernel_rfl) (by kernel_rfl) (fun _ _ _ h => h) (Or.inl ⟨by rfl, ?_⟩) hHeld ?_
                        rotate_left
                        · intro w hSw; dsimp only [q4_33_2]; (try dsimp only at hSw); go_simp <;> with_reducible rfl
                        try simp only [q4_33_2, Act.put, List.setIfInBounds_toArray, List.set_cons_zero, List.set_cons_succ]
                        refine wpAnyH_take (i := 3) (oi := q4_33_3) (v := .bool false) rfl (by kernel_rfl) (by kernel_rfl) (by kernel_rfl) (fun _ _ _ h => h) (Or.inl ⟨by rfl, ?_⟩) hHeld ?_
                        skip
                        · intro w hSw; dsimp only [q4_33_3]; go_simp <;> first | done | with_reducible rfl | simp; omega
                        try simp only [q4_33_3, Act.put, List.setIfInBounds_toArray, List.set_cons_zero, List.set_cons_succ]
                        refine wpAnyH_take (i := 4) (oi := q4_33_4) (v := ?_) rfl (by kernel_rfl) (by kernel_rfl) (by kernel_rfl) (fun _ _ _ h => h) (Or.inl ⟨by rfl, ?_⟩) hHeld ?_
                        rotate_left
                        · intro w hSw; dsimp only [q4_33_4]; (try dsimp only at hSw); go_simp <;> with_reducible rfl
                        try simp only [q4_33_4, Act.put, List.setIfInBounds_toArray, List.set_cons_zero, List.set_cons_succ]
                        refine wpAnyH_take (i := 5) (oi := q4_33_5) (v := ?_) rfl (by kernel_rfl) (by kernel_rfl) (by kernel_rfl) (fun _ _ _ h => h) (Or.inl ⟨by rfl, ?_⟩) hHeld ?_
                        rotate_left
                        · intro w hSw; dsimp only [q4_33_5]; (try dsimp only at hSw); go_simp <;> with_reducible rfl
                        try simp only [q4_33_5, Act.put, List.setIfInBounds_toArray, List.set_cons_zero, List.set_cons_succ]
                        refine wpAnyH_take (i := 6) (oi := q4_33_6) (v := ?_) rfl (by kernel_rfl) (by kernel_rfl) (by kernel_rfl) (fun _ _ _ h => h) (Or.inl ⟨by rfl, ?_⟩) hHeld ?_
                        rotate_left
                        · intro w hSw; dsimp only [q4_33_6]; (try dsimp only at hSw); go_simp <;> with_reducible rfl
                        try simp only [q4_33_6, Act.put, List.setIfInBounds_toArray, List.set_cons_zero, List.set_cons_succ]
                        refine wpAnyH_take (i := 7) (oi := q4_33_7) (v := ?_) rfl (by kernel_rfl) (by kernel_rfl) (by kernel_rfl) (fun _ _ _ h => h) (Or.inl ⟨by rfl, ?_⟩) hHeld ?_
                        rotate_left
                        · intro w hSw; dsimp only [q4_33_7]; (try dsimp only at hSw); go_simp <;> with_reducible rfl
                        try simp only [q4_33_7, Act.put, List.setIfInBounds_toArray, List.set_cons_zero, List.set_cons_succ]
                        refine wpAnyH_take (i := 8) (oi := q4_33_8) (v := ?_) rfl (by kernel_rfl) (by kernel_rfl) (by kernel_rfl) (fun _ _ _ h => h) (Or.inl ⟨by rfl, ?_⟩) hHeld ?_
                        rotate_left
                        · intro w hSw; dsimp only [q4_33_8]; obtain ⟨y0, y1, y2, y3, y4, y5⟩ := HCX.out _ hSw; go_simp <;> with_reducible rfl
                        try simp only [q4_33_8, Act.put, List.setIfInBounds_toArray, List.set_cons_zero, List.set_cons_succ]
                        refine wpAnyH_take (i := 9) (oi := q4_33_9) (v := ?_) rfl (by kernel_rfl) (by kernel_rfl) (by kernel_rfl) (fun _ _ _ h => h) (Or.inl ⟨by rfl, ?_⟩) hHeld ?_
                        rotate_left
                        · intro w hSw; dsimp only [q4_33_9]; (try dsimp only at hSw); go_simp <;> with_reducible rfl
                        try simp only [q4_33_9, Act.put, List.setIfInBounds_toArray, List.set_cons_zero, List.set_cons_succ]
                        refine wpAnyH_take (i := 10) (oi := q4_33_10) (v := ?_) rfl (by kernel_rfl) (by kernel_rfl) (by kernel_rfl) (fun _ _ _ h => h) (Or.inl ⟨by rfl, ?_⟩) hHeld ?_
                        rotate_left
                        · intro w hSw; dsimp only [q4_33_10]; (try dsimp only at hSw); go_simp <;> with_reducible rfl
                        try simp only [q4_33_10, Act.put, List.setIfInBounds_toArray, List.set_cons_zero, List.set_cons_succ]
                        refine wpAnyH_take (i := 11) (oi := q4_33_11) (v := ?_) rfl (by kernel_rfl) (by kernel_rfl) (by kernel_rfl) (fun _ _ _ h => h) (Or.inl ⟨by rfl, ?_⟩) hHeld ?_
                        rotate_left
                        · intro w hSw; dsimp only [q4_33_11]; (try dsimp only at hSw); go_simp <;> with_reducible rfl
                        try simp only [q4_33_11, Act.put, List.setIfInBounds_toArray, List.set_cons_zero, List.set_cons_succ]
                        refine wpAnyH_take (i := 12) (oi := q4_33_12) (v := ?_) rfl (by kernel_rfl) (by kernel_rfl) (by kernel_rfl) (fun _ _ _ h => h) (Or.inl ⟨by rfl, ?_⟩) hHeld ?_
                        rotate_left
                        · intro w hSw; dsimp only [q4_33_12]; obtain ⟨y0, y1, y2, y3, y4, y5⟩ := HCY.out _ hSw; go_simp <;> with_reducible rfl
                        try simp only [q4_33_12, Act.put, List.setIfInBounds_toArray, List.set_cons_zero, List.set_cons_succ]
                        refine wpAnyH_ready (rs := [13]) (by kernel_rfl) (by simp) ?_
                        refine AllReadyH.cons rfl (fun K hK => ?_) AllReadyH.nil
                        go_simp
                        refine (KW.out _ HP0.out).mono ?_
                        rintro e v1 ⟨rfl, hbu⟩
                        have HP1 : Hid (Below wr.heap.size wr v1) := HP0.out.trans (hbu.mono HP0.out.size)
                        clear hbu
                        refine hK.out _ _ (HP1.out) (fun hHeld2 => ?_)
                        clear hK K hHeld
                        have hHeld := hHeld2
                        clear hHeld2
                        try simp only [Act.put, List.setIfInBounds_toArray, List.set_cons_zero, List.set_cons_succ]
                        refine wpAnyH_take (i := 14) (oi := q4_33_14) (v := ?_) rfl (by kernel_rfl) (by kernel_rfl) (by kernel_rfl) (fun _ _ _ h => h) (Or.inl ⟨by rfl, ?_⟩) hHeld ?_
                        rotate_left
                        · intro w hSw; dsimp only [q4_33_14]; (try dsimp only at hSw); go_simp <;> with_reducible rfl
                        try simp only [q4_33_14, Act.put, List.setIfInBounds_toArray, List.set_cons_zero, List.set_cons_succ]
                        refine wpAnyH_take (i := 15) (oi := q4_33_15) (v := .bool false) rfl (by kernel_rfl) (by kernel_rfl) (by kernel_rfl) (fun _ _ _ h => h) (Or.inl ⟨by rfl, ?_⟩) hHeld ?_
                        skip
                        · intro w hSw; dsimp only [q4_33_15]; go_simp <;> first | done | with_reducible rfl | simp
                        try simp only [q4_33_15, Act.put, List.setIfInBounds_toArray, List.set_cons_zero, List.set_cons_succ]
                        refine wpAnyH_done (by kernel_rfl) ?_ _
                        have HBE : Hid (Below w5.heap.size w5 v1) := HBJ.out.trans (HP1.out.mono HBJ.out.size)
                        go_wp2
                        go_roundw
                        case rel => first | exact ⟨m + 1, by go_num, by omega, HBE⟩ | ((repeat apply Exists.intro); exact ⟨⟨m + 1, by go_num, by omega, HBE⟩, rfl⟩)
                        case measure => simp [intOf]; omega
                      · have hml' : ¬ (m : Int) < (n : Int) := by omega
                        have HS6 : Hid (Sb W wr p st' sl' N0 (.slice va n vc) E0 vs0) := HS5.out.below HBJ.out
                        clear HBJ HS5 HLY
                        go_wp2
                        go_roundw
                        case rel => first | exact ⟨k + 1, j', st', sl', Ls', by go_num, rfl, by omega, by omega, hj', hLs', HK', HS6⟩ | ((repeat apply Exists.intro); exact ⟨⟨k + 1, j', st', sl', Ls', by go_num, rfl, by omega, by omega, hj', hLs', HK', HS6⟩, rfl⟩)
                        case measure => simp [intOf]; omega
                · rw [decide_eq_false hgo]
                  have HK9 : Hid (Bk E0 st (Ls ++ [E0]) 100) := HK.out.le (by omega)
                  have HE9 : Hid (Ends E0 (Ls ++ [E0]) st) := ends_0 _ _ _
                  have hl9 : (Ls ++ [E0]).length = j + 1 := by simp [hLs]
                  obtain ⟨L9, hL9⟩ : ∃ q, Ls ++ [E0] = q := ⟨_, rfl⟩
                  rw [hL9] at HK9 HE9 hl9
                  obtain ⟨j9, hj9⟩ : ∃ q : Nat, j + 1 = q := ⟨_, rfl⟩
                  have hji : (j : Int) = (j9 : Int) - 1 := by omega
                  have hj51 : j9 ≤ 51 := by omega
                  rw [hji]
                  rw [hj9] at hl9
                  clear HK hL9 hji hj9 hgo hk hk50 hjk hLs Ls
                  go_wp2
                  go_loopw [13] (fun dp wr => ∃ (i : Nat) (st : StM) (sl : Sl) (L : List (List MD)), dp = .int .i64 ((i : Int) - 1) ∧ i ≤ 51 ∧ L.length = i ∧ Hid (Bk E0 st L 100) ∧ Hid (Ends E0 L st) ∧ Hid (Sb W wr p st sl N0 (.slice va n vc) E0 vs0)) (fun dp _ => (intOf dp + 1).toNat)
                  case atStart => exact ⟨j9, st, sl, L9, rfl, hj51, hl9, HK9, HE9, HS⟩
                  case round =>
                    clear HK9 HE9 HS hj51 hl9
                    obtain ⟨i, st, sl, L, rfl, hi51, hLi, HK, HE, HS⟩ := hrel
                    have hsz : Sz st := HK.out.sz HE6.out (by omega) (by omega)
                    cases L with
                    | nil =>
                      obtain rfl : i = 0 := by simpa using hLi.symm
                      have hD : st.D = E0 := HE.out.1 rfl
                      have ka := all_x HS.out.a.s hsz HK.out.held
                      rw [hD] at ka
                      have hbe : decide (0 < st.e) = bd := by rw [HK.out.em, hD]; exact HBD.out
                      have hm0 : st.marks.length = 0 := by rw [HK.out.ml]; rfl
                      have HME : Hid (∀ w, Below wr.heap.size wr w → Calls Tryz.prog 22 #[ptr p] w fun e w' => e = .returned (.int .i64 0) ∧ w' = w) := fun w hb => by
                        have := depthp_any (HS.out.below hb).a.s hsz
                        rw [hm0] at this
                        exact this
                      have HMF : Hid (∀ w, Below wr.heap.size wr w → Calls Tryz.prog 16 #[ptr p] w fun e w' => e = .returned (.bool bd) ∧ w' = w) := fun w hb => by
                        have := failed_any (HS.out.below hb).a.s
                        rw [hbe] at this
                        exact this
                      have HTT0 : Hid (∀ d ∈ E0, SzD d) := fun d hd => tt_szd (HK.out.w.tt d (by rw [hD]; exact hd))
                      clear hD hbe hm0 hsz HE
                      go_wp2_with fail
                      refine ka.mono ?_
                      clear ka
                      rintro e w6 ⟨v1, vs1, rfl, hlx1, hb6⟩
                      obtain ⟨xa, xc, rfl, _, _⟩ := hlx1.r.shape
                      have hn1 : vs1.length = n := by rw [hlx1.n, HEN.out]
                      rw [hn1] at hlx1 ⊢
                      have ks := same_doms hlx1.ds (HS.out.below hb6).l.ds HTT0.out (by rw [HEN.out]; have := HN6.out; omega)
                      have HB6 : Hid (Below wr.heap.size wr w6) := hb6
                      clear hlx1 hb6 hn1
                      go_wp2_with fail
                      refine ks.mono ?_
                      clear ks
                      rintro e w7 ⟨rfl, hb7⟩
                      have HB7 : Hid (Below wr.heap.size wr w7) := HB6.out.trans (hb7.mono HB6.out.size)
                      clear hb7
                      go_wp2_with fail
                      refine (HMF.out _ HB7.out).mono ?_
                      rintro e w8 ⟨rfl, rfl⟩
                      go_wp2_with fail
                      refine (HME.out _ HB7.out).mono ?_
                      rintro e w9 ⟨rfl, rfl⟩
                      go_wp2_with fail
                      refine (HKN.out _ (HS.out.a.b.trans (HB7.out.mono HS.out.a.b.size))).mono ?_
                      rintro e wz ⟨rfl, hbz⟩
                      go_wp2
                      go_ret
                      exact ⟨rfl, hbz⟩
                    | cons X L =>
                      obtain ⟨i', rfl⟩ : ∃ i', i = i' + 1 := ⟨L.length, by simpa using hLi.symm⟩
                      obtain ⟨ms, f, hm, hf, hval, hK', hD'⟩ := HK.out.pop
                      have kp := pop_d HS.out.a.s hsz ms f hm hf (by have := HK.out.sv; omega) hval (by have := HK.out.e0; omega) (by have := HK.out.eb HE6.out; omega)
                      have HKP : Hid (Bk E0 (popA st ms f) L 100) := hK'
                      have HEP : Hid (Ends E0 L (popA st ms f)) := ends_1 HE.out hD'
                      have hL' : L.length = i' := by simpa using hLi
                      clear hm hf hval hK' hD' hsz HE HK
                      generalize popA st ms f = st' at kp HKP HEP
                      have hge : (0 : Int) ≤ ((i' + 1 : Nat) : Int) - 1 := by omega
                      have hwm : IntKind.i64.wrap (((i' + 1 : Nat) : Int) - 1 - 1) = (i' : Int) - 1 := by rw [IntKind.wrap_i64]; omega
                      go_wp2_with fail
                      refine kp.mono ?_
                      clear kp
                      rintro e u1 ⟨rfl, sl', hs', hu', hk'⟩
                      have HS1 : Hid (Sb W u1 p st' sl' N0 (.slice va n vc) E0 vs0) := HS.out.step hs' hu' hk'
                      clear hs' hu' hk'
                      go_wp2
                      go_roundw
                      case rel => first | exact ⟨i', st', sl', L, by go_num, by omega, hL', HKP, HEP, HS1⟩ | ((repeat apply Exists.intro); exact ⟨⟨i', st', sl', L, by go_num, by omega, hL', HKP, HEP, HS1⟩, rfl⟩)
                      case measure => simp [intOf] <;> omega
end Go.Proofs.YtghnfnieppfhgaaGreat
