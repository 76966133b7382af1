/-
  What is proved here: what Same of two sets of bits, and Same of two lists of numbers, return.
-/
import Derived.Test.YtgcgomofmicchaaDoorZc
import Derived.Test.YtgcgomofmicchaaDoorYf
import Derived.Test.YtgcgomofmicchaaDoorYj
namespace Go.Proofs.YtgcgomofmicchaaDoor
open Go.RowKit Go.Shelf
set_option linter.unusedVariables false

theorem up_sub : ∀ {a b : List Int}, a.Pairwise (· < ·) → b.Pairwise (· < ·) → (∀ v, v ∈ a → v ∈ b) → a.length ≤ b.length ∧ (a.length = b.length → a = b)
  | [], b, _, _, _ => ⟨Nat.zero_le _, fun h => by cases b with | nil => rfl | cons => simp at h⟩
  | x :: a, [], _, _, h => absurd (h x (by simp)) (by simp)
  | x :: a, y :: b, ha, hb, h => by
    rw [List.pairwise_cons] at ha hb
    by_cases e : x = y
    · subst e
      have hs : ∀ v, v ∈ a → v ∈ b := fun v hv => by
        have h1 := ha.1 v hv
        have h2 := h v (by simp [hv])
        rcases List.mem_cons.1 h2 with rfl | h3
        · omega
        · exact h3
      obtain ⟨i1, i2⟩ := up_sub ha.2 hb.2 hs
      exact ⟨by simp; exact i1, fun hl => by rw [i2 (by simpa using hl)]⟩
    · have hx : x ∈ b := by
        rcases List.mem_cons.1 (h x (by simp)) with h1 | h1
        · exact absurd h1 e
        · exact h1
      have hxy := hb.1 x hx
      have hs : ∀ v, v ∈ x :: a → v ∈ b := fun v hv => by
        have h2 := h v hv
        rcases List.mem_cons.1 h2 with rfl | h3
        · rcases List.mem_cons.1 hv with h4 | h4
          · exact absurd h4.symm e
          · have := ha.1 v h4; omega
        · exact h3
      obtain ⟨i1, _⟩ := up_sub (List.pairwise_cons.2 ha) hb.2 hs
      simp at i1
      exact ⟨by simp; omega, fun hl => by simp at hl; omega⟩

theorem same_iff {f room of oroom : Int} {ws ows : List Nat} (hz : Sz f room ws) (hc : Cl room ws) (hzo : Sz of oroom ows) (hco : Cl oroom ows) :
    bvs f room ws = bvs of oroom ows ↔ (bvs f room ws).length = (bvs of oroom ows).length ∧ ∀ k, k < ws.length → wat ws k = frm ows (f + (k : Int) * 64 - of) := by
  have hm : ∀ v, v ∈ bvs f room ws ↔ bt ws (v - f) = true := fun v => by rw [mem_bvs hz hc, hasB_eq hc]
  have hmo : ∀ v, v ∈ bvs of oroom ows ↔ bt ows (v - of) = true := fun v => by rw [mem_bvs hzo hco, hasB_eq hco]
  constructor
  · intro h
    refine ⟨by rw [h], fun k hk => ?_⟩
    refine Nat.eq_of_testBit_eq fun j => ?_
    by_cases hj : j < 64
    · rw [frm_bit hzo.word _ j hj, ← pb_at ws k j hj]
      unfold pb
      have h1 := hm (f + (64 * k + j : Nat))
      have h2 := hmo (f + (64 * k + j : Nat))
      rw [h] at h1
      have h3 := h1.symm.trans h2
      rw [show f + ((64 * k + j : Nat) : Int) - f = ((64 * k + j : Nat) : Int) by omega, show f + ((64 * k + j : Nat) : Int) - of = f + (k : Int) * 64 - of + (j : Int) by omega] at h3
      exact Bool.eq_iff_iff.2 h3
    · have hp : 2 ^ 64 ≤ 2 ^ j := Nat.pow_le_pow_right (by decide) (by omega)
      rw [Nat.testBit_lt_two_pow (Nat.lt_of_lt_of_le (show wat ws k < 2 ^ 64 from hz.word k) hp), Nat.testBit_lt_two_pow (Nat.lt_of_lt_of_le (frm_lt hzo.word _) hp)]
  · rintro ⟨hl, hw⟩
    refine (up_sub (bv_up _ _ _) (bv_up _ _ _) (fun v hv => ?_)).2 hl
    have h1 := (hm v).1 hv
    have h2 := (mem_bvs hz hc v).1 hv
    obtain ⟨h3, h4⟩ := has_fits h2
    have hzl := hz.len
    obtain ⟨i, hi⟩ : ∃ i : Nat, v - f = (i : Int) := ⟨(v - f).toNat, by omega⟩
    rw [hi] at h1
    have e : i = 64 * (i / 64) + i % 64 := by omega
    have h5 : pb ws i = true := h1
    rw [e, pb_at ws _ _ (by omega), hw (i / 64) (by omega), frm_bit hzo.word _ _ (by omega)] at h5
    refine (hmo v).2 ?_
    rw [← h5]
    congr 1
    omega

set_option maxRecDepth 100000 in
set_option maxHeartbeats 2000000 in
theorem same_two (b g c : Nat) (f room : Int) (ws : List Nat) (ob og oc : Nat) (of oroom : Int) (ows : List Nat) (W : World) (h : Bits W b g c f room ws) (hz : Sz f room ws) (hc : Cl room ws) (hO : Bits W ob og oc of oroom ows) (hzo : Sz of oroom ows) (hco : Cl oroom ows) :
    Calls Tryd.prog 21 #[.pointer (some ⟨b, 0, none⟩), .pointer (some ⟨ob, 0, none⟩)] W fun e w' => e = .returned (.bool (decide (bvs f room ws = bvs of oroom ows))) ∧ ∃ m, w' = W.drewN m := by
  have k1 := size_any b g c f room ws W h hz
  have k2 := size_any ob og oc of oroom ows W hO hzo
  rw [size_bvs hz hc] at k1
  rw [size_bvs hzo hco] at k2
  have hiff := same_iff hz hc hzo hco
  have z1 := hz.lo; have z2 := hz.one; have z3 := hz.most; have z4 := hz.hi; have zl := hz.len
  have k3 := fun (m k : Nat) (hk : k < ws.length) => from_any ob og oc of oroom (f + (k : Int) * 64) ows (W.drewN m) (hO.drawn m) hzo (by omega) (by omega)
  have c0 := h.c0; have c2 := h.c2
  have hcw : ∀ k, k < ws.length → W.cell? ⟨g, k, none⟩ = some (.int .u64 (wat ws k : Nat)) := fun k hk => (h.cw k hk).1
  obtain ⟨la, hla⟩ : ∃ la, (bvs f room ws).length = la := ⟨_, rfl⟩
  obtain ⟨lb, hlb⟩ : ∃ lb, (bvs of oroom ows).length = lb := ⟨_, rfl⟩
  rw [hla, hlb] at hiff
  rw [hla] at k1
  rw [hlb] at k2
  have HIFF : Hid _ := hiff
  have K3 : Hid _ := k3
  have HCW : Hid _ := hcw
  obtain ⟨n, hn⟩ : ∃ n, ws.length = n := ⟨_, rfl⟩
  have HN : Hid (ws.length = n) := hn
  rw [hn] at c2 zl
  have hn2 : (n : Int) ≤ 1024 := by omega
  clear hla hlb hiff k3 hcw hn h hz hc hO hzo hco zl
  by_cases hl : la = lb
  · subst hl
    go_enter Tryd.func21, Tryd.ntmps21
    go_wp2_with fail
    refine k1.mono ?_
    rintro e W ⟨rfl, rfl⟩
    go_wp2_with fail
    refine k2.mono ?_
    rintro e W ⟨rfl, rfl⟩
    clear k1 k2
    go_wp2
    go_loopw [5, 6, 25] (fun _ _ i wr => ∃ k m : Nat, k ≤ n ∧ i = .int .i64 k ∧ wr = W.drewN m ∧ ∀ j, j < k → wat ws j = frm ows (f + (j : Int) * 64 - of)) (fun _ _ i _ => n - (intOf i).toNat)
    case atStart => exact ⟨0, 0, Nat.zero_le _, rfl, rfl, fun j hj => absurd hj (Nat.not_lt_zero _)⟩
    case round =>
      obtain ⟨k, m, hk, rfl, rfl, hbef⟩ := hrel
      have HBEF : Hid (∀ j, j < k → wat ws j = frm ows (f + (j : Int) * 64 - of)) := hbef
      clear hbef
      by_cases hlt : k < n
      · have hkw : k < ws.length := by rw [HN.out]; exact hlt
        have dc := HCW.out k hkw
        have k4 := K3.out m k hkw
        obtain ⟨x, hx⟩ : ∃ x, wat ws k = x := ⟨_, rfl⟩
        obtain ⟨y, hy⟩ : ∃ y, frm ows (f + (k : Int) * 64 - of) = y := ⟨_, rfl⟩
        have HX : Hid (wat ws k = x) := hx
        have HY : Hid (frm ows (f + (k : Int) * 64 - of) = y) := hy
        rw [hx] at dc
        rw [hy] at k4
        have hlt' : (k : Int) < (n : Int) := by omega
        have hkb : (k : Int) * 64 < 65537 := by omega
        clear hx hy
        by_cases hxy : x = y
        · have hd : ((x : Int) == (y : Int)) = true := by simp [hxy]
          have hd2 : ((x : Int) != (y : Int)) = false := by simp [hxy]
          have HXY : Hid (x = y) := hxy
          clear hxy
          go_wp2_with (go_at_call 58; refine k4.mono ?_; clear k4; rintro e w1 ⟨rfl, m1, rfl⟩)
          go_roundw
          case rel =>
            refine ⟨k + 1, _, by omega, by go_num, rfl, fun j hj => ?_⟩
            by_cases e : j = k
            · subst e; rw [HX.out, HY.out, HXY.out]
            · exact HBEF.out j (by omega)
          case measure => simp [intOf]; omega
        · have hd : ((x : Int) == (y : Int)) = false := by simp; omega
          have hd2 : ((x : Int) != (y : Int)) = true := by simp; omega
          have HXY : Hid (¬ x = y) := hxy
          clear hxy
          go_wp2_with (go_at_call 58; refine k4.mono ?_; clear k4; rintro e w1 ⟨rfl, m1, rfl⟩)
          go_ret
          refine ⟨?_, _, rfl⟩
          exact congrArg (fun t => Ending.returned (.bool t)) (decide_eq_false (fun q => HXY.out (by have := (HIFF.out.1 q).2 k hkw; rw [HX.out, HY.out] at this; exact this))).symm
      · obtain rfl : k = n := by omega
        go_wp2
        go_ret
        refine ⟨?_, _, rfl⟩
        exact congrArg (fun t => Ending.returned (.bool t)) (decide_eq_true (HIFF.out.2 ⟨by first | rfl | trivial, fun j hj => HBEF.out j (by rw [HN.out] at hj; exact hj)⟩)).symm
  · have hd : ((la : Int) == (lb : Int)) = false := by simp; omega
    have hd2 : ((la : Int) != (lb : Int)) = true := by simp; omega
    have HL : Hid (¬ la = lb) := hl
    clear hl
    go_enter Tryd.func21, Tryd.ntmps21
    go_wp2_with fail
    refine k1.mono ?_
    rintro e W ⟨rfl, rfl⟩
    go_wp2_with fail
    refine k2.mono ?_
    rintro e W ⟨rfl, rfl⟩
    clear k1 k2
    go_wp2
    go_ret
    refine ⟨?_, 0, rfl⟩
    exact congrArg (fun t => Ending.returned (.bool t)) (decide_eq_false (fun q => HL.out (HIFF.out.1 q).1)).symm

/-- The slice with the address a has the numbers vs. -/
def Row (X : World) (a : Option Addr) (vs : List Int) : Prop := 0 < vs.length → ∃ gv, a = some ⟨gv, 0, none⟩ ∧ ∀ i, i < vs.length → X.cell? ⟨gv, i, none⟩ = some (.int .i64 (vs[i]?.getD 0))
theorem list_eq {a b : List Int} (hl : a.length = b.length) (h : ∀ i, i < a.length → a[i]?.getD 0 = b[i]?.getD 0) : a = b := by
  apply List.ext_getElem?
  intro i
  by_cases hi : i < a.length
  · have := h i hi
    rw [List.getElem?_eq_getElem hi, List.getElem?_eq_getElem (by omega)] at this ⊢
    simpa using this
  · rw [List.getElem?_eq_none (by omega), List.getElem?_eq_none (by omega)]
set_option maxRecDepth 100000 in
set_option maxHeartbeats 2000000 in
theorem isame_any (a1 a2 : Option Addr) (c1 c2 : Nat) (v1 v2 : List Int) (W : World) (h1 : Row W a1 v1) (h2 : Row W a2 v2) (hm1 : v1.length ≤ 65536) (hm2 : v2.length ≤ 65536) :
    Calls Tryd.prog 22 #[.slice a1 v1.length c1, .slice a2 v2.length c2] W fun e w' => e = .returned (.bool (decide (v1 = v2))) ∧ ∃ m, w' = W.drewN m := by
  have H1 : Hid (Row W a1 v1) := h1
  have H2 : Hid (Row W a2 v2) := h2
  obtain ⟨la, hla⟩ : ∃ la, v1.length = la := ⟨_, rfl⟩
  obtain ⟨lb, hlb⟩ : ∃ lb, v2.length = lb := ⟨_, rfl⟩
  have HA : Hid (v1.length = la) := hla
  have HB : Hid (v2.length = lb) := hlb
  rw [hla] at hm1 ⊢
  rw [hlb] at hm2 ⊢
  clear h1 h2 hla hlb
  by_cases hl : la = lb
  · subst hl
    go_enter Tryd.func22, Tryd.ntmps22
    go_wp2
    go_loopw [5] (fun i wr => ∃ k m : Nat, k ≤ la ∧ i = .int .i64 k ∧ wr = W.drewN m ∧ ∀ j, j < k → v1[j]?.getD 0 = v2[j]?.getD 0) (fun i _ => la - (intOf i).toNat)
    case atStart => exact ⟨0, 0, Nat.zero_le _, rfl, rfl, fun j hj => absurd hj (Nat.not_lt_zero _)⟩
    case round =>
      obtain ⟨k, m, hk, rfl, rfl, hbef⟩ := hrel
      have HBEF : Hid (∀ j, j < k → v1[j]?.getD 0 = v2[j]?.getD 0) := hbef
      clear hbef
      by_cases hlt : k < la
      · obtain ⟨g1, rfl, hc1⟩ := H1.out (by rw [HA.out]; omega)
        obtain ⟨g2, rfl, hc2⟩ := H2.out (by rw [HB.out]; omega)
        have d1 := hc1 k (by rw [HA.out]; exact hlt)
        have d2 := hc2 k (by rw [HB.out]; exact hlt)
        obtain ⟨x, hx⟩ : ∃ x, v1[k]?.getD 0 = x := ⟨_, rfl⟩
        obtain ⟨y, hy⟩ : ∃ y, v2[k]?.getD 0 = y := ⟨_, rfl⟩
        have HX : Hid (v1[k]?.getD 0 = x) := hx
        have HY : Hid (v2[k]?.getD 0 = y) := hy
        rw [hx] at d1
        rw [hy] at d2
        have hlt' : (k : Int) < (la : Int) := by omega
        clear hc1 hc2 hx hy
        by_cases hxy : x = y
        · subst hxy
          go_wp2
          go_quiet (fail)
          go_wp2
          go_roundw
          case rel =>
            refine ⟨k + 1, _, by omega, by go_num, rfl, fun j hj => ?_⟩
            by_cases e : j = k
            · subst e; rw [HX.out, HY.out]
            · exact HBEF.out j (by omega)
          case measure => simp [intOf]; omega
        · have hd : (x == y) = false := by simpa using hxy
          have hd2 : (x != y) = true := by simpa using hxy
          have HXY : Hid (¬ x = y) := hxy
          clear hxy
          go_wp2
          go_quiet (fail)
          go_wp2
          go_ret
          refine ⟨?_, m + nq, by rw [World.drewN_drewN]⟩
          exact congrArg (fun t => Ending.returned (.bool t)) (decide_eq_false (fun q => HXY.out (by rw [← HX.out, ← HY.out, q]))).symm
      · obtain rfl : k = la := by omega
        go_wp2
        go_ret
        refine ⟨?_, _, rfl⟩
        exact congrArg (fun t => Ending.returned (.bool t)) (decide_eq_true (list_eq (by rw [HA.out, HB.out]) (fun i hi => HBEF.out i (by rw [HA.out] at hi; exact hi)))).symm
  · have hd : ((la : Int) == (lb : Int)) = false := by simp; omega
    have hd2 : ((la : Int) != (lb : Int)) = true := by simp; omega
    have HL : Hid (¬ la = lb) := hl
    clear hl
    go_enter Tryd.func22, Tryd.ntmps22
    go_wp2
    go_ret
    refine ⟨?_, 0, rfl⟩
    exact congrArg (fun t => Ending.returned (.bool t)) (decide_eq_false (fun q => HL.out (by rw [← HA.out, ← HB.out, q]))).symm
end Go.Proofs.YtgcgomofmicchaaDoor
