/-
  What is proved here: the walk of StoreTells.
-/
import Derived.Test.YtghnfnieppfhgaaGreatAa
import Derived.Test.YtghnfnieppfhgaaGreatMs
import Derived.Test.YtghnfnieppfhgaaGreatFdj
import Derived.Test.YtghnfnieppfhgaaGreatMm
import Derived.Test.YtghnfnieppfhgaaGreatMh
import Derived.Test.YtghnfnieppfhgaaGreatKu
namespace Go.Proofs.YtghnfnieppfhgaaGreat
open Go.RowKit Go.Shelf
set_option linter.unusedVariables false
set_option linter.unusedSimpArgs false

/-- Calls in memory. -/
def Scr (w : World) (s : Value) (S : List (Int × MD)) : Prop :=
  ∃ a c, s = .slice a S.length c ∧ (0 < S.length → ∃ b off, a = some ⟨b, off, none⟩ ∧ b < w.heap.size ∧ ∀ i v d, S[i]? = some (v, d) → ∃ c0 c1 c2 c3 c4 c5, Dc (fun _ => False) w [c0, c1, c2, c3, c4, c5] d ∧ w.cell? ⟨b, off + i * 8 + 1, none⟩ = some (.int .i64 v) ∧ w.cell? ⟨b, off + i * 8 + 2, none⟩ = some c0 ∧ w.cell? ⟨b, off + i * 8 + 2 + 1, none⟩ = some c1 ∧ w.cell? ⟨b, off + i * 8 + 2 + 2, none⟩ = some c2 ∧ w.cell? ⟨b, off + i * 8 + 2 + 3, none⟩ = some c3 ∧ w.cell? ⟨b, off + i * 8 + 2 + 4, none⟩ = some c4 ∧ w.cell? ⟨b, off + i * 8 + 2 + 5, none⟩ = some c5)
abbrev q6_10_0 : Oper := ⟨some 42, .move (.tmp 5), 25, "law.go:219", #[], none⟩
abbrev q6_10_1 : Oper := ⟨some 43, .move (.tmp 1), 23, "law.go:219", #[], none⟩
abbrev q6_10_2 : Oper := ⟨some 44, .move (.tmp 8), 3, "law.go:219", #[], none⟩
abbrev q6_10_3 : Oper := ⟨some 45, .indexAddr 23 (.tmp 43) (.tmp 44), 0, "law.go:219", #[⟨1, .data⟩, ⟨2, .data⟩], none⟩
abbrev q6_10_4 : Oper := ⟨some 46, .fieldAddr 40 (.tmp 45) 1, 0, "law.go:219", #[⟨3, .data⟩], none⟩
abbrev q6_10_5 : Oper := ⟨some 47, .load 3 (.tmp 46), 3, "law.go:219", #[⟨4, .data⟩], none⟩
abbrev q6_10_6 : Oper := ⟨some 48, .move (.tmp 1), 23, "law.go:219", #[], none⟩
abbrev q6_10_7 : Oper := ⟨some 49, .move (.tmp 8), 3, "law.go:219", #[], none⟩
abbrev q6_10_8 : Oper := ⟨some 50, .indexAddr 23 (.tmp 48) (.tmp 49), 0, "law.go:219", #[⟨6, .data⟩, ⟨7, .data⟩], none⟩
abbrev q6_10_9 : Oper := ⟨some 51, .fieldAddr 40 (.tmp 50) 2, 0, "law.go:219", #[⟨8, .data⟩], none⟩
abbrev q6_10_10 : Oper := ⟨some 52, .load 37 (.tmp 51), 37, "law.go:219", #[⟨9, .data⟩], none⟩
abbrev q6_17_0 : Oper := ⟨some 64, .move (.tmp 7), 22, "law.go:225", #[], none⟩
abbrev q6_17_1 : Oper := ⟨some 65, .move (.tmp 12), 3, "law.go:225", #[], none⟩
abbrev q6_17_2 : Oper := ⟨some 66, .indexAddr 22 (.tmp 64) (.tmp 65), 0, "law.go:225", #[⟨0, .data⟩, ⟨1, .data⟩], none⟩
abbrev q6_17_3 : Oper := ⟨some 67, .load 37 (.tmp 66), 37, "law.go:225", #[⟨2, .data⟩], none⟩
abbrev q6_17_4 : Oper := ⟨some 68, .move (.tmp 9), 22, "law.go:225", #[], none⟩
abbrev q6_17_5 : Oper := ⟨some 69, .move (.tmp 12), 3, "law.go:225", #[], none⟩
abbrev q6_17_6 : Oper := ⟨some 70, .indexAddr 22 (.tmp 68) (.tmp 69), 0, "law.go:225", #[⟨4, .data⟩, ⟨5, .data⟩], none⟩
abbrev q6_17_7 : Oper := ⟨some 71, .load 37 (.tmp 70), 37, "law.go:225", #[⟨6, .data⟩], none⟩
abbrev q6_17_9 : Oper := ⟨some 73, .move (.tmp 72), 4, "law.go:225", #[⟨8, .data⟩, ⟨8, .chain⟩], none⟩
abbrev q6_17_10 : Oper := ⟨some 74, .move (.tmp 9), 22, "law.go:225", #[⟨9, .guard⟩], some (9, false)⟩
abbrev q6_17_11 : Oper := ⟨some 75, .move (.tmp 12), 3, "law.go:225", #[⟨9, .guard⟩], some (9, false)⟩
abbrev q6_17_12 : Oper := ⟨some 76, .indexAddr 22 (.tmp 74) (.tmp 75), 0, "law.go:225", #[⟨10, .data⟩, ⟨11, .data⟩, ⟨9, .guard⟩], some (9, false)⟩
abbrev q6_17_13 : Oper := ⟨some 77, .load 37 (.tmp 76), 37, "law.go:225", #[⟨12, .data⟩, ⟨9, .guard⟩], some (9, false)⟩
abbrev q6_17_14 : Oper := ⟨some 78, .call { callee := .value (.func 26), args := #[.tmp 77], argTypes := #[37] }, 4, "law.go:225", #[⟨13, .data⟩, ⟨9, .chain⟩, ⟨9, .guard⟩], some (9, false)⟩
abbrev q6_17_15 : Oper := ⟨some 79, .pick (.tmp 73) (.const (.bool true)) (.tmp 78), 4, "law.go:225", #[⟨9, .data⟩, ⟨14, .data⟩], none⟩
set_option maxRecDepth 100000 in
set_option maxHeartbeats 16000000 in
theorem tells_walk {W : World} {p1 : Option Addr} {n k1 : Nat} {p2 : Option Addr} {ns k2 : Nat} {l : List MD} {S : List (Int × MD)} (hl : Ds W (.slice p1 n k1) l) (hf : ∀ d ∈ l, Dm.FitsR d.r) (hS : Scr W (.slice p2 ns k2) S) (hfS : ∀ q ∈ S, Dm.FitsR q.2.r) :
    Calls Tryz.prog 6 #[.slice p1 n k1, .slice p2 ns k2] W fun e w' => e = .returned (.bool true) ∧ Below W.heap.size W w' := by
  have hnl : l.length = n := by obtain ⟨a, c, e, _⟩ := hl; injection e with _ e2 _; exact e2.symm
  have hns : S.length = ns := by obtain ⟨a, c, e, _⟩ := hS; injection e with _ e2 _; exact e2.symm
  have HKN : Hid (∀ w, Below W.heap.size W w → Calls Tryz.prog 10 #[] w fun e w' => e = .returned (.bool true) ∧ Below W.heap.size W w') := fun w hb => (known_true w).mono fun e w' ⟨he, hb'⟩ => ⟨he, hb.trans (hb'.mono hb.size)⟩
  have HSS : Hid (Scr W (.slice p2 ns k2) S) := hS
  have HFS : Hid (∀ q ∈ S, Dm.FitsR q.2.r) := hfS
  have HNS : Hid (S.length = ns) := hns
  have HNL : Hid (l.length = n) := hnl
  have hnew := new_ways (ld_of hl) hf
  clear hl hf hS hfS hnl hns
  rcases hnew with ⟨x, hx, kn⟩ | ⟨hr, hl1, kn⟩
  · have hx' : (x != 0) = true := by simpa using hx
    go_enter Tryz.func6, Tryz.ntmps6
    go_wp2_with fail
    refine kn.mono ?_
    clear kn
    rintro e w1 ⟨rfl, hb1⟩
    have HBX : Hid (Below W.heap.size W w1) := hb1
    go_wp2_with fail
    refine (HKN.out _ HBX.out).mono ?_
    rintro e wz ⟨rfl, hbz⟩
    go_wp2
    go_ret
    exact ⟨rfl, hbz⟩
  · go_enter Tryz.func6, Tryz.ntmps6
    go_wp2_with fail
    refine kn.mono ?_
    clear kn
    rintro e w1 ⟨p, sl0, rfl, hst, hxs, hb1⟩
    have HBX : Hid (Below W.heap.size W w1) := hb1
    by_cases h60 : (60 : Int) < (n : Int)
    ·
      go_wp2_with fail
      refine (HKN.out _ HBX.out).mono ?_
      rintro e wz ⟨rfl, hbz⟩
      go_wp2
      go_ret
      exact ⟨rfl, hbz⟩
    · have HT0 : Hid (Tol (newA l).D (newA l)) := tol_new hl1 hr
      have HN0 : Hid ((newA l).D.length = n) := by rw [Hid, ← HNL.out]; show (l.map _).length = l.length; simp
      obtain ⟨D0, hD0⟩ : ∃ q, (newA l).D = q := ⟨_, rfl⟩
      obtain ⟨s0, hs0⟩ : ∃ q, newA l = q := ⟨_, rfl⟩
      have hDs : s0.D = D0 := by rw [← hs0]; exact hD0
      rw [hD0] at HT0 HN0
      rw [hs0] at HT0 hst
      have ka := all_x hst HT0.out.ok.sz HT0.out.ok.held
      rw [hDs] at ka
      have HST1 : Hid (Sto w1 p s0 sl0) := hst
      have HXS : Hid (∀ b, XS p sl0 b → W.heap.size ≤ b) := hxs
      clear hst hxs hb1 hl1 hr hD0 hs0 hDs
      go_wp2_with fail
      refine ka.mono ?_
      clear ka
      rintro e w2 ⟨v0, vs0, rfl, hlx, hb2⟩
      obtain ⟨va, vc, rfl, _, _⟩ := hlx.r.shape
      have hvn : vs0.length = n := by rw [hlx.n, HN0.out]
      rw [hvn] at hlx ⊢
      have HXL : Hid (∀ b, XS p sl0 b → b < w1.heap.size) := HST1.out.x_lt
      have HLX : Hid (LX (XS p sl0) w1.heap.size w2 (.slice va n vc) D0 vs0) := hlx.up (fun b hb => .inl (HXL.out b hb))
      have HOX : Hid (∀ g, (Value.slice va n vc).ownBlock = some g → ¬ XS p sl0 g) := fun g hg hx => by
        have h1 := hlx.b g hg
        have h2 := HXL.out g hx
        omega
      have HST2 := hid (HST1.out.below hb2)
      have HB2 := hid (HBX.out.trans (hb2.mono HBX.out.size))
      clear hlx hb2 hvn HXL HST1 HBX
      go_wp2
      go_loopw [8] (fun i wr => ∃ (k : Nat) (st : StM) (sl : Sl), i = .int .i64 (k : Int) ∧ k ≤ ns ∧ k ≤ 60 ∧ Hid (Tol D0 st) ∧ Hid (Sto wr p st sl) ∧ Hid (LX (XS p sl) w1.heap.size wr (.slice va n vc) D0 vs0) ∧ Hid (∀ b, XS p sl b → W.heap.size ≤ b) ∧ Hid (∀ g, (Value.slice va n vc).ownBlock = some g → ¬ XS p sl g) ∧ Hid (Below W.heap.size W wr)) (fun i _ => ns - (intOf i).toNat)
      case atStart => exact ⟨0, s0, sl0, rfl, Nat.zero_le _, Nat.zero_le _, HT0, HST2, HLX, HXS, HOX, HB2⟩
      case round =>
        clear HST2 HLX HXS HOX HB2 HT0
        obtain ⟨k, st, sl, rfl, hk, hk60, HT, HST, HLX, HXS, HOX, HB⟩ := hrel
        by_cases hlt : k < ns
        · have hlt' : (k : Int) < (ns : Int) := by omega
          by_cases h6 : k < 60
          · have h6' : (k : Int) < 60 := by omega
            have hwk : IntKind.i64.wrap ((k : Int) + 1) = (k : Int) + 1 := by rw [IntKind.wrap_i64]; omega
            obtain ⟨⟨v, d⟩, hq⟩ : ∃ q, S[k]? = some q := ⟨_, List.getElem?_eq_getElem (by rw [HNS.out]; exact hlt)⟩
            obtain ⟨b2, off2, hp2, hb2l, c0, c1, c2, c3, c4, c5, hD, hcv, k0, k1', k2', k3, k4, k5⟩ : ∃ b2 off2, p2 = some ⟨b2, off2, none⟩ ∧ b2 < W.heap.size ∧ ∃ c0 c1 c2 c3 c4 c5, Dc (fun _ => False) W [c0, c1, c2, c3, c4, c5] d ∧ W.cell? ⟨b2, off2 + k * 8 + 1, none⟩ = some (.int .i64 v) ∧ W.cell? ⟨b2, off2 + k * 8 + 2, none⟩ = some c0 ∧ W.cell? ⟨b2, off2 + k * 8 + 2 + 1, none⟩ = some c1 ∧ W.cell? ⟨b2, off2 + k * 8 + 2 + 2, none⟩ = some c2 ∧ W.cell? ⟨b2, off2 + k * 8 + 2 + 3, none⟩ = some c3 ∧ W.cell? ⟨b2, off2 + k * 8 + 2 + 4, none⟩ = some c4 ∧ W.cell? ⟨b2, off2 + k * 8 + 2 + 5, none⟩ = some c5 := by
              obtain ⟨a', c', e', hh⟩ := HSS.out
              obtain ⟨b, off, q1, q2, q3⟩ := hh (by rw [HNS.out]; omega)
              injection e' with e1 _ _
              exact ⟨b, off, e1.trans q1, q2, q3 k v d hq⟩
            have HCS : Hid (∀ w, Below W.heap.size W w → w.cell? ⟨b2, off2 + k * 8 + 1, none⟩ = some (.int .i64 v) ∧ w.cell? ⟨b2, off2 + k * 8 + 2, none⟩ = some c0 ∧ w.cell? ⟨b2, off2 + k * 8 + 2 + 1, none⟩ = some c1 ∧ w.cell? ⟨b2, off2 + k * 8 + 2 + 2, none⟩ = some c2 ∧ w.cell? ⟨b2, off2 + k * 8 + 2 + 3, none⟩ = some c3 ∧ w.cell? ⟨b2, off2 + k * 8 + 2 + 4, none⟩ = some c4 ∧ w.cell? ⟨b2, off2 + k * 8 + 2 + 5, none⟩ = some c5) := fun w hb => ⟨(hb.cell (p := ⟨b2, _, none⟩) hb2l).trans hcv, (hb.cell (p := ⟨b2, _, none⟩) hb2l).trans k0, (hb.cell (p := ⟨b2, _, none⟩) hb2l).trans k1', (hb.cell (p := ⟨b2, _, none⟩) hb2l).trans k2', (hb.cell (p := ⟨b2, _, none⟩) hb2l).trans k3, (hb.cell (p := ⟨b2, _, none⟩) hb2l).trans k4, (hb.cell (p := ⟨b2, _, none⟩) hb2l).trans k5⟩
            have hDx : Dc (XS p sl) W [c0, c1, c2, c3, c4, c5] d := hD.up (fun b hb => .inr (HXS.out b hb))
            have HBD : Hid (Below W.heap.size W wr.drew) := HB.out.drew
            have KNA : Hid _ := narrow_any (HST.out.below (Below.refl _ _).drew) (hDx.below HBD.out) v HT.out.ok.sz HT.out.ok.flat (HFS.out _ (List.mem_of_getElem? hq)) HT.out.ok.held HT.out.ok.e0 HT.out.ok.ne
            have hone := hD.one
            have HT1 := hid (HT.out.step v d)
            subst hp2
            clear hq hb2l hD hcv k0 k1' k2' k3 k4 k5 hDx
            go_upto_region 10 with (fail)
            refine wp_region_held_drew (S := fun X : World => Below W.heap.size W X) (by kernel_rfl) (HBD.out) (fun hHeld => ?_)
            refine tkA 0 q6_10_0 hHeld ?_
            try simp only [q6_10_0, Act.put, zS, z0, z1]
            refine tkA 1 q6_10_1 hHeld ?_
            try simp only [q6_10_1, Act.put, zS, z0, z1]
            refine tkA 2 q6_10_2 hHeld ?_
            try simp only [q6_10_2, Act.put, zS, z0, z1]
            refine tkA 3 q6_10_3 hHeld ?_
            try simp only [q6_10_3, Act.put, zS, z0, z1]
            refine tkA 4 q6_10_4 hHeld ?_
            try simp only [q6_10_4, Act.put, zS, z0, z1]
            refine tkH 5 q6_10_5 (v := ?_) hHeld ?_ ?_; rotate_left
            · intro w hSw; dsimp only [q6_10_5]; obtain ⟨y9, y0, y1, y2, y3, y4, y5⟩ := HCS.out _ hSw; go_simp <;> with_reducible rfl
            try simp only [q6_10_5, Act.put, zS, z0, z1]
            refine tkA 6 q6_10_6 hHeld ?_
            try simp only [q6_10_6, Act.put, zS, z0, z1]
            refine tkA 7 q6_10_7 hHeld ?_
            try simp only [q6_10_7, Act.put, zS, z0, z1]
            refine tkA 8 q6_10_8 hHeld ?_
            try simp only [q6_10_8, Act.put, zS, z0, z1]
            refine tkA 9 q6_10_9 hHeld ?_
            try simp only [q6_10_9, Act.put, zS, z0, z1]
            refine tkH 10 q6_10_10 (v := ?_) hHeld ?_ ?_; rotate_left
            · intro w hSw; dsimp only [q6_10_10]; obtain ⟨y9, y0, y1, y2, y3, y4, y5⟩ := HCS.out _ hSw; go_simp <;> with_reducible rfl
            try simp only [q6_10_10, Act.put, zS, z0, z1]
            refine rdy 11 rfl fun K hK => ?_
            go_simp
            refine Calls.mono KNA.out ?_
            rintro e u1 ⟨⟨rx, ry, rfl⟩, sl', hs', hu', hk'⟩
            have HS1 : Hid (Sto u1 p (narM st v d) sl') := hs'
            have HLD : Hid (LX (XS p sl) w1.heap.size wr.drew (.slice va n vc) D0 vs0) := HLX.out.below (Below.refl _ _).drew
            have HL1 : Hid (LX (XS p sl') w1.heap.size u1 (.slice va n vc) D0 vs0) := by
              have q1 := HLD.out.kept hk' HOX.out
              refine ⟨q1.n, q1.r, fun i c d h1 h2 => ?_, q1.b⟩
              have q2 := HLD.out.d i c d h1 h2
              refine q2.go (hk'.mono fun b hb => .inr hb) (fun b hb => hb.elim (fun q => .inl (.inl q)) (fun q => (hu' b q).imp .inr id))
            have HX1 : Hid (∀ b, XS p sl' b → W.heap.size ≤ b) := fun b hb => (hu' b hb).elim (HXS.out b) (fun q => Nat.le_trans HBD.out.size q)
            have HO1 : Hid (∀ g, (Value.slice va n vc).ownBlock = some g → ¬ XS p sl' g) := fun g hg hx => (hu' g hx).elim (HOX.out g hg) (fun q => by have := HLD.out.r.lt hg; omega)
            have HB1 := hid (HBD.out.trans (hk'.below HBD.out.size HXS.out))
            clear hs' hu' hk'
            refine hK.out _ _ (HB1.out) (fun hHeld2 => ?_)
            clear hK K hHeld; have hHeld := hHeld2; clear hHeld2
            try simp only [Act.put, zS, z0, z1]
            refine wpAnyH_done (by kernel_rfl) ?_ _
            go_wp2
            go_roundw
            case rel => exact ⟨k + 1, narM st v d, sl', by go_num, by omega, by omega, HT1, HS1, HL1, HX1, HO1, HB1⟩
            case measure => simp [intOf]; omega
          · have h6' : ¬ (k : Int) < 60 := by omega
            have ka := all_x HST.out HT.out.ok.sz HT.out.ok.held
            go_wp2_with fail
            refine ka.mono ?_
            clear ka
            rintro e w3 ⟨v1, vs1, rfl, hlx1, hb3⟩
            obtain ⟨xa, xc, rfl, _, _⟩ := hlx1.r.shape
            have hn1 : vs1.length = n := by rw [hlx1.n, HT.out.n, HN0.out]
            rw [hn1] at hlx1 ⊢
            have HXLT : Hid (∀ b, XS p sl b → b < wr.heap.size) := HST.out.x_lt
            have HLY3 : Hid (LX (XS p sl) wr.heap.size w3 (.slice xa n xc) st.D vs1) := hlx1.up (fun b hb => .inl (HXLT.out b hb))
            have HOY : Hid (∀ g, (Value.slice xa n xc).ownBlock = some g → ¬ XS p sl g) := fun g hg hx => by
              have h1 := hlx1.b g hg
              have h2 := HXLT.out g hx
              omega
            have HST3 := hid (HST.out.below hb3)
            have HLX3 := hid (HLX.out.below hb3)
            have HB3 := hid (HB.out.trans (hb3.mono HB.out.size))
            have HDN : Hid (st.D.length = n) := by rw [Hid, HT.out.n, HN0.out]
            clear hlx1 hb3 hn1 HST HLX HB HXLT
            have ke := events_u HST3.out HT.out.ok.sz
            rw [HDN.out] at ke
            go_wp2_with fail
            refine ke.mono ?_
            clear ke
            rintro e w4 ⟨ts, rfl, hr4, ho4, hs4, hk4⟩
            obtain ⟨ta, tn, tc, rfl, HTN, _, _⟩ := hr4.look
            have HR4 : Hid (Rw w4 61 (.slice ta tn tc) 2 (evsA st n)) := hr4
            have HS4 : Hid (Sto w4 p { st with why := List.replicate n 0 } sl) := hs4
            have HLX4 := hid (HLX3.out.kept hk4 HOX.out)
            have HLY4 := hid (HLY3.out.kept hk4 HOY.out)
            have HB4 := hid (HB3.out.trans (hk4.below HB3.out.size HXS.out))
            clear hr4 ho4 hs4 hk4 HLX3 HLY3 HST3 HB3
            go_wp2
            go_loopw [11, 12] (fun kk i wr => ∃ j : Nat, i = .int .i64 (j : Int) ∧ j ≤ n ∧ kk = .int .i64 ((evsA st j).length : Int) ∧ Hid (Below w4.heap.size w4 wr)) (fun _ i _ => n - (intOf i).toNat)
            case atStart => exact ⟨0, rfl, Nat.zero_le _, rfl, Below.refl _ _⟩
            case round =>
              obtain ⟨j, rfl, hj, rfl, HBJ⟩ := hrel
              have HBWJ := hid (HB4.out.trans (HBJ.out.mono HB4.out.size))
              have hel := evsA_len st j
              by_cases hjl : j < n
              · have hjl' : (j : Int) < (n : Int) := by omega
                have hwk2 : IntKind.i64.wrap ((j : Int) + 1) = (j : Int) + 1 := by rw [IntKind.wrap_i64]; omega
                obtain ⟨x, hx⟩ : ∃ q, D0[j]? = some q := ⟨_, List.getElem?_eq_getElem (by rw [HN0.out]; exact hjl)⟩
                obtain ⟨y, hy⟩ : ∃ q, st.D[j]? = some q := ⟨_, List.getElem?_eq_getElem (by rw [HDN.out]; exact hjl)⟩
                have hxT := HT.out.t x (List.mem_of_getElem? hx)
                have hyT := HT.out.ok.tt y (List.mem_of_getElem? hy)
                obtain ⟨ht1, ht2⟩ := HT.out.told hx hy
                obtain ⟨bx, ox, hpx, hbx, _, x0, x1, x2, x3, x4, x5, hDx, g0, g1, g2, g3, g4, g5⟩ := (HLX4.out.ds.below HBJ.out).at hx
                obtain ⟨bY, oY, hpy, hby, _, y0, y1, y2, y3, y4, y5, hDy, e0, e1, e2, e3, e4, e5⟩ := (HLY4.out.ds.below HBJ.out).at hy
                have HCX : Hid (∀ w, Below wr.heap.size wr w → w.cell? ⟨bx, ox + j * 6, none⟩ = some x0 ∧ w.cell? ⟨bx, ox + j * 6 + 1, none⟩ = some x1 ∧ w.cell? ⟨bx, ox + j * 6 + 2, none⟩ = some x2 ∧ w.cell? ⟨bx, ox + j * 6 + 3, none⟩ = some x3 ∧ w.cell? ⟨bx, ox + j * 6 + 4, none⟩ = some x4 ∧ w.cell? ⟨bx, ox + j * 6 + 5, none⟩ = some x5) := fun w hb => ⟨(hb.cell (p := ⟨bx, _, none⟩) hbx).trans g0, (hb.cell (p := ⟨bx, _, none⟩) hbx).trans g1, (hb.cell (p := ⟨bx, _, none⟩) hbx).trans g2, (hb.cell (p := ⟨bx, _, none⟩) hbx).trans g3, (hb.cell (p := ⟨bx, _, none⟩) hbx).trans g4, (hb.cell (p := ⟨bx, _, none⟩) hbx).trans g5⟩
                have HCY : Hid (∀ w, Below wr.heap.size wr w → w.cell? ⟨bY, oY + j * 6, none⟩ = some y0 ∧ w.cell? ⟨bY, oY + j * 6 + 1, none⟩ = some y1 ∧ w.cell? ⟨bY, oY + j * 6 + 2, none⟩ = some y2 ∧ w.cell? ⟨bY, oY + j * 6 + 3, none⟩ = some y3 ∧ w.cell? ⟨bY, oY + j * 6 + 4, none⟩ = some y4 ∧ w.cell? ⟨bY, oY + j * 6 + 5, none⟩ = some y5) := fun w hb => ⟨(hb.cell (p := ⟨bY, _, none⟩) hby).trans e0, (hb.cell (p := ⟨bY, _, none⟩) hby).trans e1, (hb.cell (p := ⟨bY, _, none⟩) hby).trans e2, (hb.cell (p := ⟨bY, _, none⟩) hby).trans e3, (hb.cell (p := ⟨bY, _, none⟩) hby).trans e4, (hb.cell (p := ⟨bY, _, none⟩) hby).trans e5⟩
                have hszx : SzD x := by have q := right_held hxT.r; exact ⟨by have := q.lo; omega, by have := q.up; omega, by have := q.n; omega⟩
                have KO0 : Hid (∀ w, Below wr.heap.size wr w → Calls Tryz.prog 25 #[.agg #[x0, x1, x2, x3, x4, x5], .agg #[y0, y1, y2, y3, y4, y5]] w fun e w' => (x = y → e = .returned (.bool true)) ∧ (x ≠ y → e = .returned (.bool false)) ∧ Below w.heap.size w w') := fun w hb => by
                  by_cases q : x = y
                  · subst q
                    exact (one_d (hDx.below hb) (hDy.below hb) hszx).mono fun e w' ⟨h1, h2⟩ => ⟨fun _ => h1, fun h => absurd rfl h, h2⟩
                  · exact (one_no (hDx.below hb) (hDy.below hb) hszx q).mono fun e w' ⟨h1, h2⟩ => ⟨fun h => absurd h q, fun _ => h1, h2⟩
                have KE0 : Hid (∀ w, Below wr.heap.size wr w → Calls Tryz.prog 26 #[.agg #[y0, y1, y2, y3, y4, y5]] w fun e w' => e = .returned (.bool (emptyA y)) ∧ Below w.heap.size w w') := fun w hb => by
                  have := rempty_d (hDy.below hb)
                  rw [re_empty hyT.r] at this
                  exact this
                have KV : Hid (∀ w, Below wr.heap.size wr w → Calls Tryz.prog 27 #[.agg #[y0, y1, y2, y3, y4, y5]] w fun e w' => ∃ (b : Bool) (n : Int) (p : Option Addr) (l k : Nat), e = .returned (.tuple #[.agg #[.bool b, .int .i64 n, .slice p l k], .bool (onlyA y)]) ∧ Below w.heap.size w w') := fun w hb => rvalue_d (hDy.below hb) (right_held hyT.r).f
                have hone1 := hDx.one
                have hone2 := hDy.one
                have HP0 : Hid (Below wr.heap.size wr wr.drew) := (Below.refl _ _).drew
                have HSC := hid (evsA_succ st j)
                subst hpx hpy
                clear hx hy hxT hyT hbx hby g0 g1 g2 g3 g4 g5 e0 e1 e2 e3 e4 e5 hDx hDy hszx
                by_cases hq : x = y
                · have KO : Hid (∀ w, Below wr.heap.size wr w → Calls Tryz.prog 25 #[.agg #[x0, x1, x2, x3, x4, x5], .agg #[y0, y1, y2, y3, y4, y5]] w fun e w' => e = .returned (.bool true) ∧ Below w.heap.size w w') := fun w hb => (KO0.out w hb).mono fun e w' ⟨h1, h2, h3⟩ => ⟨h1 hq, h3⟩
                  have HNX : Hid (evsA st (j + 1) = evsA st j) := by rw [Hid, HSC.out, ht1.2 (.inl hq)]; simp
                  clear KO0 KE0 KV ht1 ht2 hq
                  go_upto_region 17 with (fail)
                  refine wp_region_held_drew (S := fun X : World => Below wr.heap.size wr X) (by kernel_rfl) (HP0.out) (fun hHeld => ?_)
                  refine tkA 0 q6_17_0 hHeld ?_
                  try simp only [q6_17_0, Act.put, zS, z0, z1]
                  refine tkA 1 q6_17_1 hHeld ?_
                  try simp only [q6_17_1, Act.put, zS, z0, z1]
                  refine tkA 2 q6_17_2 hHeld ?_
                  try simp only [q6_17_2, Act.put, zS, z0, z1]
                  refine tkH 3 q6_17_3 (v := ?_) hHeld ?_ ?_; rotate_left
                  · intro w hSw; dsimp only [q6_17_3]; obtain ⟨y0, y1, y2, y3, y4, y5⟩ := HCX.out _ hSw; go_simp <;> with_reducible rfl
                  try simp only [q6_17_3, Act.put, zS, z0, z1]
                  refine tkA 4 q6_17_4 hHeld ?_
                  try simp only [q6_17_4, Act.put, zS, z0, z1]
                  refine tkA 5 q6_17_5 hHeld ?_
                  try simp only [q6_17_5, Act.put, zS, z0, z1]
                  refine tkA 6 q6_17_6 hHeld ?_
                  try simp only [q6_17_6, Act.put, zS, z0, z1]
                  refine tkH 7 q6_17_7 (v := ?_) hHeld ?_ ?_; rotate_left
                  · intro w hSw; dsimp only [q6_17_7]; obtain ⟨y0, y1, y2, y3, y4, y5⟩ := HCY.out _ hSw; go_simp <;> with_reducible rfl
                  try simp only [q6_17_7, Act.put, zS, z0, z1]
                  refine rdy 8 rfl fun K hK => ?_
                  go_simp
                  refine (KO.out _ HP0.out).mono ?_
                  rintro e v1 ⟨rfl, hbu⟩
                  have HP1 := hid (HP0.out.trans (hbu.mono HP0.out.size))
                  clear hbu
                  refine hK.out _ _ (HP1.out) (fun hHeld2 => ?_)
                  clear hK K hHeld; have hHeld := hHeld2; clear hHeld2
                  try simp only [Act.put, zS, z0, z1]
                  refine tkA 9 q6_17_9 hHeld ?_
                  try simp only [q6_17_9, Act.put, zS, z0, z1]
                  refine wpAnyH_take (i := 10) (oi := q6_17_10) (v := undef) rfl (by kernel_rfl) (by kernel_rfl) (by kernel_rfl) (fun _ _ _ h => h) (Or.inr ⟨by rfl, rfl⟩) hHeld ?_
                  try simp only [q6_17_10, Act.put, zS, z0, z1]
                  refine wpAnyH_take (i := 11) (oi := q6_17_11) (v := undef) rfl (by kernel_rfl) (by kernel_rfl) (by kernel_rfl) (fun _ _ _ h => h) (Or.inr ⟨by rfl, rfl⟩) hHeld ?_
                  try simp only [q6_17_11, Act.put, zS, z0, z1]
                  refine wpAnyH_take (i := 12) (oi := q6_17_12) (v := undef) rfl (by kernel_rfl) (by kernel_rfl) (by kernel_rfl) (fun _ _ _ h => h) (Or.inr ⟨by rfl, rfl⟩) hHeld ?_
                  try simp only [q6_17_12, Act.put, zS, z0, z1]
                  refine wpAnyH_take (i := 13) (oi := q6_17_13) (v := undef) rfl (by kernel_rfl) (by kernel_rfl) (by kernel_rfl) (fun _ _ _ h => h) (Or.inr ⟨by rfl, rfl⟩) hHeld ?_
                  try simp only [q6_17_13, Act.put, zS, z0, z1]
                  refine wpAnyH_take (i := 14) (oi := q6_17_14) (v := undef) rfl (by kernel_rfl) (by kernel_rfl) (by kernel_rfl) (fun _ _ _ h => h) (Or.inr ⟨by rfl, rfl⟩) hHeld ?_
                  try simp only [q6_17_14, Act.put, zS, z0, z1]
                  refine tkH 15 q6_17_15 (v := .bool true) hHeld ?_ ?_
                  skip
                  · intro w hSw; dsimp only [q6_17_15]; go_simp <;> first | done | with_reducible rfl | simp
                  try simp only [q6_17_15, Act.put, zS, z0, z1]
                  refine wpAnyH_done (by kernel_rfl) ?_ _
                  have HBE := hid (HBJ.out.trans (HP1.out.mono HBJ.out.size))
                  go_wp2
                  go_roundw
                  case rel => exact ⟨j + 1, by go_num, by omega, by rw [HNX.out], HBE⟩
                  case measure => simp [intOf]; omega
                · have KO : Hid (∀ w, Below wr.heap.size wr w → Calls Tryz.prog 25 #[.agg #[x0, x1, x2, x3, x4, x5], .agg #[y0, y1, y2, y3, y4, y5]] w fun e w' => e = .returned (.bool false) ∧ Below w.heap.size w w') := fun w hb => (KO0.out w hb).mono fun e w' ⟨h1, h2, h3⟩ => ⟨h2 hq, h3⟩
                  cases hE : emptyA y
                  · obtain ⟨hev, hwhy⟩ := ht2 hE hq
                    have KE : Hid (∀ w, Below wr.heap.size wr w → Calls Tryz.prog 26 #[.agg #[y0, y1, y2, y3, y4, y5]] w fun e w' => e = .returned (.bool false) ∧ Below w.heap.size w w') := fun w hb => by have := KE0.out w hb; rw [hE] at this; exact this
                    have HNX : Hid (evsA st (j + 1) = evsA st j ++ [[.int .i64 (j : Int), .int .i64 (st.why.getD j 0)]]) := by rw [Hid, HSC.out, hev]; rfl
                    have hat := evs_at hjl hev
                    have hklt : (evsA st j).length < tn := by rw [← HTN.out]; exact (List.getElem?_eq_some_iff.1 hat).1
                    obtain ⟨gt, capt, et, hgt, _, _, hrt, _⟩ := HR4.out.at hat
                    injection et with et1 et2 et3
                    obtain ⟨KQ, hKQ⟩ : ∃ q, (evsA st j).length = q := ⟨_, rfl⟩
                    obtain ⟨wy, hwy⟩ : ∃ q, st.why.getD j 0 = q := ⟨_, rfl⟩
                    rw [hKQ] at hrt hklt
                    rw [hwy] at hrt hwhy HNX
                    have HKQ : Hid ((evsA st j).length = KQ) := hKQ
                    have tc0 := hrt 0 _ rfl
                    have tc1 := hrt 1 _ rfl
                    have HCT : Hid (∀ w, Below wr.heap.size wr w → w.cell? ⟨gt, KQ * 2, none⟩ = some (.int .i64 (j : Int)) ∧ w.cell? ⟨gt, KQ * 2 + 1, none⟩ = some (.int .i64 wy)) := fun w hb => by
                      have b4 := HBJ.out.trans (hb.mono HBJ.out.size)
                      exact ⟨(b4.cell (p := ⟨gt, _, none⟩) hgt).trans (by simpa using tc0), (b4.cell (p := ⟨gt, _, none⟩) hgt).trans tc1⟩
                    have hkl1 : (KQ : Int) < (tn : Int) := by omega
                    have hkl2 : ¬ (tn : Int) ≤ (KQ : Int) := by omega
                    have hwk3 : IntKind.i64.wrap ((KQ : Int) + 1) = (KQ : Int) + 1 := by rw [IntKind.wrap_i64]; rw [hKQ] at hel; omega
                    have HWY : Hid (wy = 1 ↔ onlyA y = true) := hwhy
                    rw [hKQ]
                    subst et1
                    clear KO0 KE0 ht1 ht2 hq hE hev hwhy hat hgt hrt tc0 tc1 hKQ hwy et2 et3
                    go_upto_region 17 with (fail)
                    refine wp_region_held_drew (S := fun X : World => Below wr.heap.size wr X) (by kernel_rfl) (HP0.out) (fun hHeld => ?_)
                    refine tkA 0 q6_17_0 hHeld ?_
                    try simp only [q6_17_0, Act.put, zS, z0, z1]
                    refine tkA 1 q6_17_1 hHeld ?_
                    try simp only [q6_17_1, Act.put, zS, z0, z1]
                    refine tkA 2 q6_17_2 hHeld ?_
                    try simp only [q6_17_2, Act.put, zS, z0, z1]
                    refine tkH 3 q6_17_3 (v := ?_) hHeld ?_ ?_; rotate_left
                    · intro w hSw; dsimp only [q6_17_3]; obtain ⟨y0, y1, y2, y3, y4, y5⟩ := HCX.out _ hSw; go_simp <;> with_reducible rfl
                    try simp only [q6_17_3, Act.put, zS, z0, z1]
                    refine tkA 4 q6_17_4 hHeld ?_
                    try simp only [q6_17_4, Act.put, zS, z0, z1]
                    refine tkA 5 q6_17_5 hHeld ?_
                    try simp only [q6_17_5, Act.put, zS, z0, z1]
                    refine tkA 6 q6_17_6 hHeld ?_
                    try simp only [q6_17_6, Act.put, zS, z0, z1]
                    refine tkH 7 q6_17_7 (v := ?_) hHeld ?_ ?_; rotate_left
                    · intro w hSw; dsimp only [q6_17_7]; obtain ⟨y0, y1, y2, y3, y4, y5⟩ := HCY.out _ hSw; go_simp <;> with_reducible rfl
                    try simp only [q6_17_7, Act.put, zS, z0, z1]
                    refine rdy 8 rfl fun K hK => ?_
                    go_simp
                    refine (KO.out _ HP0.out).mono ?_
                    rintro e v1 ⟨rfl, hbu⟩
                    have HP1 := hid (HP0.out.trans (hbu.mono HP0.out.size))
                    clear hbu
                    refine hK.out _ _ (HP1.out) (fun hHeld2 => ?_)
                    clear hK K hHeld; have hHeld := hHeld2; clear hHeld2
                    try simp only [Act.put, zS, z0, z1]
                    refine tkA 9 q6_17_9 hHeld ?_
                    try simp only [q6_17_9, Act.put, zS, z0, z1]
                    refine tkA 10 q6_17_10 hHeld ?_
                    try simp only [q6_17_10, Act.put, zS, z0, z1]
                    refine tkA 11 q6_17_11 hHeld ?_
                    try simp only [q6_17_11, Act.put, zS, z0, z1]
                    refine tkA 12 q6_17_12 hHeld ?_
                    try simp only [q6_17_12, Act.put, zS, z0, z1]
                    refine tkH 13 q6_17_13 (v := ?_) hHeld ?_ ?_; rotate_left
                    · intro w hSw; dsimp only [q6_17_13]; obtain ⟨y0, y1, y2, y3, y4, y5⟩ := HCY.out _ hSw; go_simp <;> with_reducible rfl
                    try simp only [q6_17_13, Act.put, zS, z0, z1]
                    refine rdy 14 rfl fun K hK => ?_
                    go_simp
                    refine (KE.out _ HP1.out).mono ?_
                    rintro e v2 ⟨rfl, hbu⟩
                    have HP2 := hid (HP1.out.trans (hbu.mono HP1.out.size))
                    clear hbu
                    refine hK.out _ _ (HP2.out) (fun hHeld2 => ?_)
                    clear hK K hHeld; have hHeld := hHeld2; clear hHeld2
                    try simp only [Act.put, zS, z0, z1]
                    refine tkH 15 q6_17_15 (v := .bool false) hHeld ?_ ?_
                    skip
                    · intro w hSw; dsimp only [q6_17_15]; go_simp <;> first | done | with_reducible rfl | simp
                    try simp only [q6_17_15, Act.put, zS, z0, z1]
                    refine wpAnyH_done (by kernel_rfl) ?_ _
                    obtain ⟨y0', y1', y2', y3', y4', y5'⟩ := HCY.out _ HP2.out
                    go_wp2_with fail
                    refine (KV.out _ HP2.out).mono ?_
                    rintro e v3 ⟨fb, fn, fp, fl, fk, rfl, hb3⟩
                    obtain ⟨v4, hv4⟩ : ∃ Q, v3.alloc (Obj.cells #[.bool fb, .int .i64 fn, .slice fp fl fk] 57) = Q := ⟨_, rfl⟩
                    have hb4' : Below wr.heap.size wr v4 := by rw [← hv4]; exact (HP2.out.trans (hb3.mono HP2.out.size)).alloc (HP2.out.trans (hb3.mono HP2.out.size)).size _
                    have HP4 : Hid (Below wr.heap.size wr v4) := hb4'
                    have HV4 : Hid _ := hv4
                    clear hv4 hb3 hb4'
                    go_upto_region 19 with (fail)
                    rw [HV4.out]
                    obtain ⟨tq0, tq1⟩ := HCT.out _ HP4.out
                    have HBE := hid (HBJ.out.trans (HP4.out.mono HBJ.out.size))
                    cases hO : onlyA y
                    · have hw1 : (wy == 1) = false := by
                        have : ¬ wy = 1 := fun q => by rw [HWY.out.1 q] at hO; cases hO
                        simpa using this
                      go_wp2
                      go_roundw
                      case rel => exact ⟨j + 1, by go_num, by omega, by rw [HNX.out, List.length_append, HKQ.out]; go_num, HBE⟩
                      case measure => simp [intOf]; omega
                    · have hw1 : wy = 1 := HWY.out.2 hO
                      subst hw1
                      go_wp2
                      go_roundw
                      case rel => exact ⟨j + 1, by go_num, by omega, by rw [HNX.out, List.length_append, HKQ.out]; go_num, HBE⟩
                      case measure => simp [intOf]; omega
                  · have KE : Hid (∀ w, Below wr.heap.size wr w → Calls Tryz.prog 26 #[.agg #[y0, y1, y2, y3, y4, y5]] w fun e w' => e = .returned (.bool true) ∧ Below w.heap.size w w') := fun w hb => by have := KE0.out w hb; rw [hE] at this; exact this
                    have HNX : Hid (evsA st (j + 1) = evsA st j) := by rw [Hid, HSC.out, ht1.2 (.inr hE)]; simp
                    clear KO0 KE0 KV ht1 ht2 hq hE
                    go_upto_region 17 with (fail)
                    refine wp_region_held_drew (S := fun X : World => Below wr.heap.size wr X) (by kernel_rfl) (HP0.out) (fun hHeld => ?_)
                    refine tkA 0 q6_17_0 hHeld ?_
                    try simp only [q6_17_0, Act.put, zS, z0, z1]
                    refine tkA 1 q6_17_1 hHeld ?_
                    try simp only [q6_17_1, Act.put, zS, z0, z1]
                    refine tkA 2 q6_17_2 hHeld ?_
                    try simp only [q6_17_2, Act.put, zS, z0, z1]
                    refine tkH 3 q6_17_3 (v := ?_) hHeld ?_ ?_; rotate_left
                    · intro w hSw; dsimp only [q6_17_3]; obtain ⟨y0, y1, y2, y3, y4, y5⟩ := HCX.out _ hSw; go_simp <;> with_reducible rfl
                    try simp only [q6_17_3, Act.put, zS, z0, z1]
                    refine tkA 4 q6_17_4 hHeld ?_
                    try simp only [q6_17_4, Act.put, zS, z0, z1]
                    refine tkA 5 q6_17_5 hHeld ?_
                    try simp only [q6_17_5, Act.put, zS, z0, z1]
                    refine tkA 6 q6_17_6 hHeld ?_
                    try simp only [q6_17_6, Act.put, zS, z0, z1]
                    refine tkH 7 q6_17_7 (v := ?_) hHeld ?_ ?_; rotate_left
                    · intro w hSw; dsimp only [q6_17_7]; obtain ⟨y0, y1, y2, y3, y4, y5⟩ := HCY.out _ hSw; go_simp <;> with_reducible rfl
                    try simp only [q6_17_7, Act.put, zS, z0, z1]
                    refine rdy 8 rfl fun K hK => ?_
                    go_simp
                    refine (KO.out _ HP0.out).mono ?_
                    rintro e v1 ⟨rfl, hbu⟩
                    have HP1 := hid (HP0.out.trans (hbu.mono HP0.out.size))
                    clear hbu
                    refine hK.out _ _ (HP1.out) (fun hHeld2 => ?_)
                    clear hK K hHeld; have hHeld := hHeld2; clear hHeld2
                    try simp only [Act.put, zS, z0, z1]
                    refine tkA 9 q6_17_9 hHeld ?_
                    try simp only [q6_17_9, Act.put, zS, z0, z1]
                    refine tkA 10 q6_17_10 hHeld ?_
                    try simp only [q6_17_10, Act.put, zS, z0, z1]
                    refine tkA 11 q6_17_11 hHeld ?_
                    try simp only [q6_17_11, Act.put, zS, z0, z1]
                    refine tkA 12 q6_17_12 hHeld ?_
                    try simp only [q6_17_12, Act.put, zS, z0, z1]
                    refine tkH 13 q6_17_13 (v := ?_) hHeld ?_ ?_; rotate_left
                    · intro w hSw; dsimp only [q6_17_13]; obtain ⟨y0, y1, y2, y3, y4, y5⟩ := HCY.out _ hSw; go_simp <;> with_reducible rfl
                    try simp only [q6_17_13, Act.put, zS, z0, z1]
                    refine rdy 14 rfl fun K hK => ?_
                    go_simp
                    refine (KE.out _ HP1.out).mono ?_
                    rintro e v2 ⟨rfl, hbu⟩
                    have HP2 := hid (HP1.out.trans (hbu.mono HP1.out.size))
                    clear hbu
                    refine hK.out _ _ (HP2.out) (fun hHeld2 => ?_)
                    clear hK K hHeld; have hHeld := hHeld2; clear hHeld2
                    try simp only [Act.put, zS, z0, z1]
                    refine tkH 15 q6_17_15 (v := .bool true) hHeld ?_ ?_
                    skip
                    · intro w hSw; dsimp only [q6_17_15]; go_simp <;> first | done | with_reducible rfl | simp
                    try simp only [q6_17_15, Act.put, zS, z0, z1]
                    refine wpAnyH_done (by kernel_rfl) ?_ _
                    have HBE := hid (HBJ.out.trans (HP2.out.mono HBJ.out.size))
                    go_wp2
                    go_roundw
                    case rel => exact ⟨j + 1, by go_num, by omega, by rw [HNX.out], HBE⟩
                    case measure => simp [intOf]; omega
              · have hjl' : ¬ (j : Int) < (n : Int) := by omega
                obtain rfl : j = n := by omega
                have hkt : (evsA st j).length = tn := HTN.out
                have ke := events_u (HS4.out.below HBJ.out) ⟨HT.out.ok.sz.1, HT.out.ok.sz.2.1, HT.out.ok.sz.2.2⟩
                have hz0 : evsA { st with why := List.replicate j 0 } ({ st with why := List.replicate j 0 } : StM).D.length = [] := evs_zero (fun i => by show (List.replicate j (0 : Int)).getD i 0 = 0; rw [List.getD_eq_getElem?_getD, List.getElem?_replicate]; split <;> rfl) _
                rw [hz0] at ke
                rw [hkt]
                clear hz0 hkt
                go_wp2_with fail
                refine ke.mono ?_
                clear ke
                rintro e w5 ⟨s5, rfl, hr5, _, _, hk5⟩
                obtain ⟨a5, c5, rfl, _, _⟩ := hr5.shape
                have HB5 := hid (HBWJ.out.trans (hk5.below HBWJ.out.size HXS.out))
                clear hr5 hk5
                go_wp2_with fail
                refine (HKN.out _ HB5.out).mono ?_
                rintro e wz ⟨rfl, hbz⟩
                go_wp2
                go_ret
                exact ⟨rfl, hbz⟩
        · have hlt' : ¬ (k : Int) < (ns : Int) := by omega
          have ka := all_x HST.out HT.out.ok.sz HT.out.ok.held
          go_wp2_with fail
          refine ka.mono ?_
          clear ka
          rintro e w3 ⟨v1, vs1, rfl, hlx1, hb3⟩
          obtain ⟨xa, xc, rfl, _, _⟩ := hlx1.r.shape
          have hn1 : vs1.length = n := by rw [hlx1.n, HT.out.n, HN0.out]
          rw [hn1] at hlx1 ⊢
          have HXLT : Hid (∀ b, XS p sl b → b < wr.heap.size) := HST.out.x_lt
          have HLY3 : Hid (LX (XS p sl) wr.heap.size w3 (.slice xa n xc) st.D vs1) := hlx1.up (fun b hb => .inl (HXLT.out b hb))
          have HOY : Hid (∀ g, (Value.slice xa n xc).ownBlock = some g → ¬ XS p sl g) := fun g hg hx => by
            have h1 := hlx1.b g hg
            have h2 := HXLT.out g hx
            omega
          have HST3 := hid (HST.out.below hb3)
          have HLX3 := hid (HLX.out.below hb3)
          have HB3 := hid (HB.out.trans (hb3.mono HB.out.size))
          have HDN : Hid (st.D.length = n) := by rw [Hid, HT.out.n, HN0.out]
          clear hlx1 hb3 hn1 HST HLX HB HXLT
          have ke := events_u HST3.out HT.out.ok.sz
          rw [HDN.out] at ke
          go_wp2_with fail
          refine ke.mono ?_
          clear ke
          rintro e w4 ⟨ts, rfl, hr4, ho4, hs4, hk4⟩
          obtain ⟨ta, tn, tc, rfl, HTN, _, _⟩ := hr4.look
          have HR4 : Hid (Rw w4 61 (.slice ta tn tc) 2 (evsA st n)) := hr4
          have HS4 : Hid (Sto w4 p { st with why := List.replicate n 0 } sl) := hs4
          have HLX4 := hid (HLX3.out.kept hk4 HOX.out)
          have HLY4 := hid (HLY3.out.kept hk4 HOY.out)
          have HB4 := hid (HB3.out.trans (hk4.below HB3.out.size HXS.out))
          clear hr4 ho4 hs4 hk4 HLX3 HLY3 HST3 HB3
          go_wp2
          go_loopw [11, 12] (fun kk i wr => ∃ j : Nat, i = .int .i64 (j : Int) ∧ j ≤ n ∧ kk = .int .i64 ((evsA st j).length : Int) ∧ Hid (Below w4.heap.size w4 wr)) (fun _ i _ => n - (intOf i).toNat)
          case atStart => exact ⟨0, rfl, Nat.zero_le _, rfl, Below.refl _ _⟩
          case round =>
            obtain ⟨j, rfl, hj, rfl, HBJ⟩ := hrel
            have HBWJ := hid (HB4.out.trans (HBJ.out.mono HB4.out.size))
            have hel := evsA_len st j
            by_cases hjl : j < n
            · have hjl' : (j : Int) < (n : Int) := by omega
              have hwk2 : IntKind.i64.wrap ((j : Int) + 1) = (j : Int) + 1 := by rw [IntKind.wrap_i64]; omega
              obtain ⟨x, hx⟩ : ∃ q, D0[j]? = some q := ⟨_, List.getElem?_eq_getElem (by rw [HN0.out]; exact hjl)⟩
              obtain ⟨y, hy⟩ : ∃ q, st.D[j]? = some q := ⟨_, List.getElem?_eq_getElem (by rw [HDN.out]; exact hjl)⟩
              have hxT := HT.out.t x (List.mem_of_getElem? hx)
              have hyT := HT.out.ok.tt y (List.mem_of_getElem? hy)
              obtain ⟨ht1, ht2⟩ := HT.out.told hx hy
              obtain ⟨bx, ox, hpx, hbx, _, x0, x1, x2, x3, x4, x5, hDx, g0, g1, g2, g3, g4, g5⟩ := (HLX4.out.ds.below HBJ.out).at hx
              obtain ⟨bY, oY, hpy, hby, _, y0, y1, y2, y3, y4, y5, hDy, e0, e1, e2, e3, e4, e5⟩ := (HLY4.out.ds.below HBJ.out).at hy
              have HCX : Hid (∀ w, Below wr.heap.size wr w → w.cell? ⟨bx, ox + j * 6, none⟩ = some x0 ∧ w.cell? ⟨bx, ox + j * 6 + 1, none⟩ = some x1 ∧ w.cell? ⟨bx, ox + j * 6 + 2, none⟩ = some x2 ∧ w.cell? ⟨bx, ox + j * 6 + 3, none⟩ = some x3 ∧ w.cell? ⟨bx, ox + j * 6 + 4, none⟩ = some x4 ∧ w.cell? ⟨bx, ox + j * 6 + 5, none⟩ = some x5) := fun w hb => ⟨(hb.cell (p := ⟨bx, _, none⟩) hbx).trans g0, (hb.cell (p := ⟨bx, _, none⟩) hbx).trans g1, (hb.cell (p := ⟨bx, _, none⟩) hbx).trans g2, (hb.cell (p := ⟨bx, _, none⟩) hbx).trans g3, (hb.cell (p := ⟨bx, _, none⟩) hbx).trans g4, (hb.cell (p := ⟨bx, _, none⟩) hbx).trans g5⟩
              have HCY : Hid (∀ w, Below wr.heap.size wr w → w.cell? ⟨bY, oY + j * 6, none⟩ = some y0 ∧ w.cell? ⟨bY, oY + j * 6 + 1, none⟩ = some y1 ∧ w.cell? ⟨bY, oY + j * 6 + 2, none⟩ = some y2 ∧ w.cell? ⟨bY, oY + j * 6 + 3, none⟩ = some y3 ∧ w.cell? ⟨bY, oY + j * 6 + 4, none⟩ = some y4 ∧ w.cell? ⟨bY, oY + j * 6 + 5, none⟩ = some y5) := fun w hb => ⟨(hb.cell (p := ⟨bY, _, none⟩) hby).trans e0, (hb.cell (p := ⟨bY, _, none⟩) hby).trans e1, (hb.cell (p := ⟨bY, _, none⟩) hby).trans e2, (hb.cell (p := ⟨bY, _, none⟩) hby).trans e3, (hb.cell (p := ⟨bY, _, none⟩) hby).trans e4, (hb.cell (p := ⟨bY, _, none⟩) hby).trans e5⟩
              have hszx : SzD x := by have q := right_held hxT.r; exact ⟨by have := q.lo; omega, by have := q.up; omega, by have := q.n; omega⟩
              have KO0 : Hid (∀ w, Below wr.heap.size wr w → Calls Tryz.prog 25 #[.agg #[x0, x1, x2, x3, x4, x5], .agg #[y0, y1, y2, y3, y4, y5]] w fun e w' => (x = y → e = .returned (.bool true)) ∧ (x ≠ y → e = .returned (.bool false)) ∧ Below w.heap.size w w') := fun w hb => by
                by_cases q : x = y
                · subst q
                  exact (one_d (hDx.below hb) (hDy.below hb) hszx).mono fun e w' ⟨h1, h2⟩ => ⟨fun _ => h1, fun h => absurd rfl h, h2⟩
                · exact (one_no (hDx.below hb) (hDy.below hb) hszx q).mono fun e w' ⟨h1, h2⟩ => ⟨fun h => absurd h q, fun _ => h1, h2⟩
              have KE0 : Hid (∀ w, Below wr.heap.size wr w → Calls Tryz.prog 26 #[.agg #[y0, y1, y2, y3, y4, y5]] w fun e w' => e = .returned (.bool (emptyA y)) ∧ Below w.heap.size w w') := fun w hb => by
                have := rempty_d (hDy.below hb)
                rw [re_empty hyT.r] at this
                exact this
              have KV : Hid (∀ w, Below wr.heap.size wr w → Calls Tryz.prog 27 #[.agg #[y0, y1, y2, y3, y4, y5]] w fun e w' => ∃ (b : Bool) (n : Int) (p : Option Addr) (l k : Nat), e = .returned (.tuple #[.agg #[.bool b, .int .i64 n, .slice p l k], .bool (onlyA y)]) ∧ Below w.heap.size w w') := fun w hb => rvalue_d (hDy.below hb) (right_held hyT.r).f
              have hone1 := hDx.one
              have hone2 := hDy.one
              have HP0 : Hid (Below wr.heap.size wr wr.drew) := (Below.refl _ _).drew
              have HSC := hid (evsA_succ st j)
              subst hpx hpy
              clear hx hy hxT hyT hbx hby g0 g1 g2 g3 g4 g5 e0 e1 e2 e3 e4 e5 hDx hDy hszx
              by_cases hq : x = y
              · have KO : Hid (∀ w, Below wr.heap.size wr w → Calls Tryz.prog 25 #[.agg #[x0, x1, x2, x3, x4, x5], .agg #[y0, y1, y2, y3, y4, y5]] w fun e w' => e = .returned (.bool true) ∧ Below w.heap.size w w') := fun w hb => (KO0.out w hb).mono fun e w' ⟨h1, h2, h3⟩ => ⟨h1 hq, h3⟩
                have HNX : Hid (evsA st (j + 1) = evsA st j) := by rw [Hid, HSC.out, ht1.2 (.inl hq)]; simp
                clear KO0 KE0 KV ht1 ht2 hq
                go_upto_region 17 with (fail)
                refine wp_region_held_drew (S := fun X : World => Below wr.heap.size wr X) (by kernel_rfl) (HP0.out) (fun hHeld => ?_)
                refine tkA 0 q6_17_0 hHeld ?_
                try simp only [q6_17_0, Act.put, zS, z0, z1]
                refine tkA 1 q6_17_1 hHeld ?_
                try simp only [q6_17_1, Act.put, zS, z0, z1]
                refine tkA 2 q6_17_2 hHeld ?_
                try simp only [q6_17_2, Act.put, zS, z0, z1]
                refine tkH 3 q6_17_3 (v := ?_) hHeld ?_ ?_; rotate_left
                · intro w hSw; dsimp only [q6_17_3]; obtain ⟨y0, y1, y2, y3, y4, y5⟩ := HCX.out _ hSw; go_simp <;> with_reducible rfl
                try simp only [q6_17_3, Act.put, zS, z0, z1]
                refine tkA 4 q6_17_4 hHeld ?_
                try simp only [q6_17_4, Act.put, zS, z0, z1]
                refine tkA 5 q6_17_5 hHeld ?_
                try simp only [q6_17_5, Act.put, zS, z0, z1]
                refine tkA 6 q6_17_6 hHeld ?_
                try simp only [q6_17_6, Act.put, zS, z0, z1]
                refine tkH 7 q6_17_7 (v := ?_) hHeld ?_ ?_; rotate_left
                · intro w hSw; dsimp only [q6_17_7]; obtain ⟨y0, y1, y2, y3, y4, y5⟩ := HCY.out _ hSw; go_simp <;> with_reducible rfl
                try simp only [q6_17_7, Act.put, zS, z0, z1]
                refine rdy 8 rfl fun K hK => ?_
                go_simp
                refine (KO.out _ HP0.out).mono ?_
                rintro e v1 ⟨rfl, hbu⟩
                have HP1 := hid (HP0.out.trans (hbu.mono HP0.out.size))
                clear hbu
                refine hK.out _ _ (HP1.out) (fun hHeld2 => ?_)
                clear hK K hHeld; have hHeld := hHeld2; clear hHeld2
                try simp only [Act.put, zS, z0, z1]
                refine tkA 9 q6_17_9 hHeld ?_
                try simp only [q6_17_9, Act.put, zS, z0, z1]
                refine wpAnyH_take (i := 10) (oi := q6_17_10) (v := undef) rfl (by kernel_rfl) (by kernel_rfl) (by kernel_rfl) (fun _ _ _ h => h) (Or.inr ⟨by rfl, rfl⟩) hHeld ?_
                try simp only [q6_17_10, Act.put, zS, z0, z1]
                refine wpAnyH_take (i := 11) (oi := q6_17_11) (v := undef) rfl (by kernel_rfl) (by kernel_rfl) (by kernel_rfl) (fun _ _ _ h => h) (Or.inr ⟨by rfl, rfl⟩) hHeld ?_
                try simp only [q6_17_11, Act.put, zS, z0, z1]
                refine wpAnyH_take (i := 12) (oi := q6_17_12) (v := undef) rfl (by kernel_rfl) (by kernel_rfl) (by kernel_rfl) (fun _ _ _ h => h) (Or.inr ⟨by rfl, rfl⟩) hHeld ?_
                try simp only [q6_17_12, Act.put, zS, z0, z1]
                refine wpAnyH_take (i := 13) (oi := q6_17_13) (v := undef) rfl (by kernel_rfl) (by kernel_rfl) (by kernel_rfl) (fun _ _ _ h => h) (Or.inr ⟨by rfl, rfl⟩) hHeld ?_
                try simp only [q6_17_13, Act.put, zS, z0, z1]
                refine wpAnyH_take (i := 14) (oi := q6_17_14) (v := undef) rfl (by kernel_rfl) (by kernel_rfl) (by kernel_rfl) (fun _ _ _ h => h) (Or.inr ⟨by rfl, rfl⟩) hHeld ?_
                try simp only [q6_17_14, Act.put, zS, z0, z1]
                refine tkH 15 q6_17_15 (v := .bool true) hHeld ?_ ?_
                skip
                · intro w hSw; dsimp only [q6_17_15]; go_simp <;> first | done | with_reducible rfl | simp
                try simp only [q6_17_15, Act.put, zS, z0, z1]
                refine wpAnyH_done (by kernel_rfl) ?_ _
                have HBE := hid (HBJ.out.trans (HP1.out.mono HBJ.out.size))
                go_wp2
                go_roundw
                case rel => exact ⟨j + 1, by go_num, by omega, by rw [HNX.out], HBE⟩
                case measure => simp [intOf]; omega
              · have KO : Hid (∀ w, Below wr.heap.size wr w → Calls Tryz.prog 25 #[.agg #[x0, x1, x2, x3, x4, x5], .agg #[y0, y1, y2, y3, y4, y5]] w fun e w' => e = .returned (.bool false) ∧ Below w.heap.size w w') := fun w hb => (KO0.out w hb).mono fun e w' ⟨h1, h2, h3⟩ => ⟨h2 hq, h3⟩
                cases hE : emptyA y
                · obtain ⟨hev, hwhy⟩ := ht2 hE hq
                  have KE : Hid (∀ w, Below wr.heap.size wr w → Calls Tryz.prog 26 #[.agg #[y0, y1, y2, y3, y4, y5]] w fun e w' => e = .returned (.bool false) ∧ Below w.heap.size w w') := fun w hb => by have := KE0.out w hb; rw [hE] at this; exact this
                  have HNX : Hid (evsA st (j + 1) = evsA st j ++ [[.int .i64 (j : Int), .int .i64 (st.why.getD j 0)]]) := by rw [Hid, HSC.out, hev]; rfl
                  have hat := evs_at hjl hev
                  have hklt : (evsA st j).length < tn := by rw [← HTN.out]; exact (List.getElem?_eq_some_iff.1 hat).1
                  obtain ⟨gt, capt, et, hgt, _, _, hrt, _⟩ := HR4.out.at hat
                  injection et with et1 et2 et3
                  obtain ⟨KQ, hKQ⟩ : ∃ q, (evsA st j).length = q := ⟨_, rfl⟩
                  obtain ⟨wy, hwy⟩ : ∃ q, st.why.getD j 0 = q := ⟨_, rfl⟩
                  rw [hKQ] at hrt hklt
                  rw [hwy] at hrt hwhy HNX
                  have HKQ : Hid ((evsA st j).length = KQ) := hKQ
                  have tc0 := hrt 0 _ rfl
                  have tc1 := hrt 1 _ rfl
                  have HCT : Hid (∀ w, Below wr.heap.size wr w → w.cell? ⟨gt, KQ * 2, none⟩ = some (.int .i64 (j : Int)) ∧ w.cell? ⟨gt, KQ * 2 + 1, none⟩ = some (.int .i64 wy)) := fun w hb => by
                    have b4 := HBJ.out.trans (hb.mono HBJ.out.size)
                    exact ⟨(b4.cell (p := ⟨gt, _, none⟩) hgt).trans (by simpa using tc0), (b4.cell (p := ⟨gt, _, none⟩) hgt).trans tc1⟩
                  have hkl1 : (KQ : Int) < (tn : Int) := by omega
                  have hkl2 : ¬ (tn : Int) ≤ (KQ : Int) := by omega
                  have hwk3 : IntKind.i64.wrap ((KQ : Int) + 1) = (KQ : Int) + 1 := by rw [IntKind.wrap_i64]; rw [hKQ] at hel; omega
                  have HWY : Hid (wy = 1 ↔ onlyA y = true) := hwhy
                  rw [hKQ]
                  subst et1
                  clear KO0 KE0 ht1 ht2 hq hE hev hwhy hat hgt hrt tc0 tc1 hKQ hwy et2 et3
                  go_upto_region 17 with (fail)
                  refine wp_region_held_drew (S := fun X : World => Below wr.heap.size wr X) (by kernel_rfl) (HP0.out) (fun hHeld => ?_)
                  refine tkA 0 q6_17_0 hHeld ?_
                  try simp only [q6_17_0, Act.put, zS, z0, z1]
                  refine tkA 1 q6_17_1 hHeld ?_
                  try simp only [q6_17_1, Act.put, zS, z0, z1]
                  refine tkA 2 q6_17_2 hHeld ?_
                  try simp only [q6_17_2, Act.put, zS, z0, z1]
                  refine tkH 3 q6_17_3 (v := ?_) hHeld ?_ ?_; rotate_left
                  · intro w hSw; dsimp only [q6_17_3]; obtain ⟨y0, y1, y2, y3, y4, y5⟩ := HCX.out _ hSw; go_simp <;> with_reducible rfl
                  try simp only [q6_17_3, Act.put, zS, z0, z1]
                  refine tkA 4 q6_17_4 hHeld ?_
                  try simp only [q6_17_4, Act.put, zS, z0, z1]
                  refine tkA 5 q6_17_5 hHeld ?_
                  try simp only [q6_17_5, Act.put, zS, z0, z1]
                  refine tkA 6 q6_17_6 hHeld ?_
                  try simp only [q6_17_6, Act.put, zS, z0, z1]
                  refine tkH 7 q6_17_7 (v := ?_) hHeld ?_ ?_; rotate_left
                  · intro w hSw; dsimp only [q6_17_7]; obtain ⟨y0, y1, y2, y3, y4, y5⟩ := HCY.out _ hSw; go_simp <;> with_reducible rfl
                  try simp only [q6_17_7, Act.put, zS, z0, z1]
                  refine rdy 8 rfl fun K hK => ?_
                  go_simp
                  refine (KO.out _ HP0.out).mono ?_
                  rintro e v1 ⟨rfl, hbu⟩
                  have HP1 := hid (HP0.out.trans (hbu.mono HP0.out.size))
                  clear hbu
                  refine hK.out _ _ (HP1.out) (fun hHeld2 => ?_)
                  clear hK K hHeld; have hHeld := hHeld2; clear hHeld2
                  try simp only [Act.put, zS, z0, z1]
                  refine tkA 9 q6_17_9 hHeld ?_
                  try simp only [q6_17_9, Act.put, zS, z0, z1]
                  refine tkA 10 q6_17_10 hHeld ?_
                  try simp only [q6_17_10, Act.put, zS, z0, z1]
                  refine tkA 11 q6_17_11 hHeld ?_
                  try simp only [q6_17_11, Act.put, zS, z0, z1]
                  refine tkA 12 q6_17_12 hHeld ?_
                  try simp only [q6_17_12, Act.put, zS, z0, z1]
                  refine tkH 13 q6_17_13 (v := ?_) hHeld ?_ ?_; rotate_left
                  · intro w hSw; dsimp only [q6_17_13]; obtain ⟨y0, y1, y2, y3, y4, y5⟩ := HCY.out _ hSw; go_simp <;> with_reducible rfl
                  try simp only [q6_17_13, Act.put, zS, z0, z1]
                  refine rdy 14 rfl fun K hK => ?_
                  go_simp
                  refine (KE.out _ HP1.out).mono ?_
                  rintro e v2 ⟨rfl, hbu⟩
                  have HP2 := hid (HP1.out.trans (hbu.mono HP1.out.size))
                  clear hbu
                  refine hK.out _ _ (HP2.out) (fun hHeld2 => ?_)
                  clear hK K hHeld; have hHeld := hHeld2; clear hHeld2
                  try simp only [Act.put, zS, z0, z1]
                  refine tkH 15 q6_17_15 (v := .bool false) hHeld ?_ ?_
                  skip
                  · intro w hSw; dsimp only [q6_17_15]; go_simp <;> first | done | with_reducible rfl | simp
                  try simp only [q6_17_15, Act.put, zS, z0, z1]
                  refine wpAnyH_done (by kernel_rfl) ?_ _
                  obtain ⟨y0', y1', y2', y3', y4', y5'⟩ := HCY.out _ HP2.out
                  go_wp2_with fail
                  refine (KV.out _ HP2.out).mono ?_
                  rintro e v3 ⟨fb, fn, fp, fl, fk, rfl, hb3⟩
                  obtain ⟨v4, hv4⟩ : ∃ Q, v3.alloc (Obj.cells #[.bool fb, .int .i64 fn, .slice fp fl fk] 57) = Q := ⟨_, rfl⟩
                  have hb4' : Below wr.heap.size wr v4 := by rw [← hv4]; exact (HP2.out.trans (hb3.mono HP2.out.size)).alloc (HP2.out.trans (hb3.mono HP2.out.size)).size _
                  have HP4 : Hid (Below wr.heap.size wr v4) := hb4'
                  have HV4 : Hid _ := hv4
                  clear hv4 hb3 hb4'
                  go_upto_region 19 with (fail)
                  rw [HV4.out]
                  obtain ⟨tq0, tq1⟩ := HCT.out _ HP4.out
                  have HBE := hid (HBJ.out.trans (HP4.out.mono HBJ.out.size))
                  cases hO : onlyA y
                  · have hw1 : (wy == 1) = false := by
                      have : ¬ wy = 1 := fun q => by rw [HWY.out.1 q] at hO; cases hO
                      simpa using this
                    go_wp2
                    go_roundw
                    case rel => exact ⟨j + 1, by go_num, by omega, by rw [HNX.out, List.length_append, HKQ.out]; go_num, HBE⟩
                    case measure => simp [intOf]; omega
                  · have hw1 : wy = 1 := HWY.out.2 hO
                    subst hw1
                    go_wp2
                    go_roundw
                    case rel => exact ⟨j + 1, by go_num, by omega, by rw [HNX.out, List.length_append, HKQ.out]; go_num, HBE⟩
                    case measure => simp [intOf]; omega
                · have KE : Hid (∀ w, Below wr.heap.size wr w → Calls Tryz.prog 26 #[.agg #[y0, y1, y2, y3, y4, y5]] w fun e w' => e = .returned (.bool true) ∧ Below w.heap.size w w') := fun w hb => by have := KE0.out w hb; rw [hE] at this; exact this
                  have HNX : Hid (evsA st (j + 1) = evsA st j) := by rw [Hid, HSC.out, ht1.2 (.inr hE)]; simp
                  clear KO0 KE0 KV ht1 ht2 hq hE
                  go_upto_region 17 with (fail)
                  refine wp_region_held_drew (S := fun X : World => Below wr.heap.size wr X) (by kernel_rfl) (HP0.out) (fun hHeld => ?_)
                  refine tkA 0 q6_17_0 hHeld ?_
                  try simp only [q6_17_0, Act.put, zS, z0, z1]
                  refine tkA 1 q6_17_1 hHeld ?_
                  try simp only [q6_17_1, Act.put, zS, z0, z1]
                  refine tkA 2 q6_17_2 hHeld ?_
                  try simp only [q6_17_2, Act.put, zS, z0, z1]
                  refine tkH 3 q6_17_3 (v := ?_) hHeld ?_ ?_; rotate_left
                  · intro w hSw; dsimp only [q6_17_3]; obtain ⟨y0, y1, y2, y3, y4, y5⟩ := HCX.out _ hSw; go_simp <;> with_reducible rfl
                  try simp only [q6_17_3, Act.put, zS, z0, z1]
                  refine tkA 4 q6_17_4 hHeld ?_
                  try simp only [q6_17_4, Act.put, zS, z0, z1]
                  refine tkA 5 q6_17_5 hHeld ?_
                  try simp only [q6_17_5, Act.put, zS, z0, z1]
                  refine tkA 6 q6_17_6 hHeld ?_
                  try simp only [q6_17_6, Act.put, zS, z0, z1]
                  refine tkH 7 q6_17_7 (v := ?_) hHeld ?_ ?_; rotate_left
                  · intro w hSw; dsimp only [q6_17_7]; obtain ⟨y0, y1, y2, y3, y4, y5⟩ := HCY.out _ hSw; go_simp <;> with_reducible rfl
                  try simp only [q6_17_7, Act.put, zS, z0, z1]
                  refine rdy 8 rfl fun K hK => ?_
                  go_simp
                  refine (KO.out _ HP0.out).mono ?_
                  rintro e v1 ⟨rfl, hbu⟩
                  have HP1 := hid (HP0.out.trans (hbu.mono HP0.out.size))
                  clear hbu
                  refine hK.out _ _ (HP1.out) (fun hHeld2 => ?_)
                  clear hK K hHeld; have hHeld := hHeld2; clear hHeld2
                  try simp only [Act.put, zS, z0, z1]
                  refine tkA 9 q6_17_9 hHeld ?_
                  try simp only [q6_17_9, Act.put, zS, z0, z1]
                  refine tkA 10 q6_17_10 hHeld ?_
                  try simp only [q6_17_10, Act.put, zS, z0, z1]
                  refine tkA 11 q6_17_11 hHeld ?_
                  try simp only [q6_17_11, Act.put, zS, z0, z1]
                  refine tkA 12 q6_17_12 hHeld ?_
                  try simp only [q6_17_12, Act.put, zS, z0, z1]
                  refine tkH 13 q6_17_13 (v := ?_) hHeld ?_ ?_; rotate_left
                  · intro w hSw; dsimp only [q6_17_13]; obtain ⟨y0, y1, y2, y3, y4, y5⟩ := HCY.out _ hSw; go_simp <;> with_reducible rfl
                  try simp only [q6_17_13, Act.put, zS, z0, z1]
                  refine rdy 14 rfl fun K hK => ?_
                  go_simp
                  refine (KE.out _ HP1.out).mono ?_
                  rintro e v2 ⟨rfl, hbu⟩
                  have HP2 := hid (HP1.out.trans (hbu.mono HP1.out.size))
                  clear hbu
                  refine hK.out _ _ (HP2.out) (fun hHeld2 => ?_)
                  clear hK K hHeld; have hHeld := hHeld2; clear hHeld2
                  try simp only [Act.put, zS, z0, z1]
                  refine tkH 15 q6_17_15 (v := .bool true) hHeld ?_ ?_
                  skip
                  · intro w hSw; dsimp only [q6_17_15]; go_simp <;> first | done | with_reducible rfl | simp
                  try simp only [q6_17_15, Act.put, zS, z0, z1]
                  refine wpAnyH_done (by kernel_rfl) ?_ _
                  have HBE := hid (HBJ.out.trans (HP2.out.mono HBJ.out.size))
                  go_wp2
                  go_roundw
                  case rel => exact ⟨j + 1, by go_num, by omega, by rw [HNX.out], HBE⟩
                  case measure => simp [intOf]; omega
            · have hjl' : ¬ (j : Int) < (n : Int) := by omega
              obtain rfl : j = n := by omega
              have hkt : (evsA st j).length = tn := HTN.out
              have ke := events_u (HS4.out.below HBJ.out) ⟨HT.out.ok.sz.1, HT.out.ok.sz.2.1, HT.out.ok.sz.2.2⟩
              have hz0 : evsA { st with why := List.replicate j 0 } ({ st with why := List.replicate j 0 } : StM).D.length = [] := evs_zero (fun i => by show (List.replicate j (0 : Int)).getD i 0 = 0; rw [List.getD_eq_getElem?_getD, List.getElem?_replicate]; split <;> rfl) _
              rw [hz0] at ke
              rw [hkt]
              clear hz0 hkt
              go_wp2_with fail
              refine ke.mono ?_
              clear ke
              rintro e w5 ⟨s5, rfl, hr5, _, _, hk5⟩
              obtain ⟨a5, c5, rfl, _, _⟩ := hr5.shape
              have HB5 := hid (HBWJ.out.trans (hk5.below HBWJ.out.size HXS.out))
              clear hr5 hk5
              go_wp2_with fail
              refine (HKN.out _ HB5.out).mono ?_
              rintro e wz ⟨rfl, hbz⟩
              go_wp2
              go_ret
              exact ⟨rfl, hbz⟩
end Go.Proofs.YtghnfnieppfhgaaGreat
