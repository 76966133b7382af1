/-
  What is proved here: And, Or and Minus of both kinds, and join.
-/
import Derived.Test.YtgcgomofmicchaaDoorZh
namespace Go.Proofs.YtgcgomofmicchaaDoor
open Go.RowKit Go.Shelf
set_option linter.unusedVariables false

theorem Mem.oth {W : World} {n₀ : Nat} {p q o : PS} (h : Mem W n₀ p q) (ho : o = q ∨ o = p) : Oth W p.b p.g p.c p.f p.room p.ws o.b o.g o.c o.f o.room o.ws := by
  rcases ho with rfl | rfl
  · exact .inl ⟨h.qb, bits_b_g h.pb h.qb, h.gg.symm⟩
  · exact .inr ⟨rfl, rfl, rfl, rfl, rfl, rfl⟩
theorem joinL_len (op : Bool → Bool → Bool) (f of oroom : Int) (L : List Bool) (ows : List Nat) : (joinL op f of oroom L ows).length = L.length := opL_len _ _
theorem fit_join {op2 : Nat → Nat → Nat} {op : Bool → Bool → Bool} (hj : Joins op2 op) {p o : PS} (hF : Fit p) (hO : Fit o) (hop : ∀ k : Int, p.room ≤ k → op false (bt o.ws (p.f + k - o.f)) = false) :
    Fit { p with ws := joinW op2 p.f o.f p.ws o.ws, L := joinL op p.f o.f o.room p.L o.ws } :=
  ⟨join_sz hj hF.sz hO.sz, join_cl hj hF.sz hO.sz hF.cl hop, ⟨hF.rz.lo, by show 1 ≤ (joinL _ _ _ _ _ _).length; rw [joinL_len]; exact hF.rz.one, by show (joinL _ _ _ _ _ _).length ≤ _; rw [joinL_len]; exact hF.rz.most, by show p.f + ((joinL _ _ _ _ _ _).length : Int) ≤ _; rw [joinL_len]; exact hF.rz.hi⟩, join_agree hj hF.sz hO.sz hO.cl hF.ag, by show (joinL _ _ _ _ _ _).length ≤ _; rw [joinL_len]; exact hF.small⟩
theorem self_has {p : PS} (hF : Fit p) (i : Nat) (hi : i < p.L.length) : hasB p.f p.room p.ws (p.f + (i : Int)) = lat p.L i := fit_in hF (by omega) hi
theorem joinL_self {p : PS} (hF : Fit p) (op : Bool → Bool → Bool) : joinL op p.f p.f p.room p.L p.ws = opL (fun i => op (lat p.L i) (lat p.L i)) p.L.length :=
  lat_ext (by rw [joinL_len, opL_len]) (fun i hi => by
    rw [joinL_len] at hi
    unfold joinL
    rw [opL_lat _ _ _ hi, opL_lat _ _ _ hi, self_has hF i hi])
theorem opL_id (L : List Bool) : opL (fun i => lat L i && lat L i) L.length = L := lat_ext (opL_len _ _) (fun i hi => by rw [opL_len] at hi; rw [opL_lat _ _ _ hi]; simp)

theorem and_pair {W : World} {n₀ : Nat} {p q o : PS} (hM : Mem W n₀ p q) (hF : Fit p) (hO : Fit o) (ho : o = q ∨ o = p) :
    ∃ (t : Bool) (ws' : List Nat) (L' : List Bool), Fit { p with ws := ws', L := L' } ∧
      (Calls Tryd.prog 25 #[.pointer (some ⟨p.b, 0, none⟩), .pointer (some ⟨o.b, 0, none⟩)] W fun r w' => r = .returned (.tuple #[.bool t, .int .i64 0]) ∧ Mem w' n₀ { p with ws := ws' } q ∧ Out n₀ p W w') ∧
      (∀ W1, Mem W1 n₀ { p with ws := ws' } q → Calls Tryd.prog 55 #[.pointer (some ⟨p.rb, 0, none⟩), .pointer (some ⟨o.rb, 0, none⟩)] W1 fun r w' => r = .returned (.bool t) ∧ (∃ rg rc, Mem w' n₀ { p with ws := ws', rg := rg, rc := rc, L := L' } q) ∧ Out n₀ p W1 w') := by
  have hch := join_chg joins_and (L := p.L) hF.sz hO.sz hF.cl hO.cl hF.ag (fun k _ => rfl)
  refine ⟨_, _, _, fit_join joins_and hF hO (fun k _ => rfl), (and_two p.b p.g p.c p.f p.room p.ws o.b o.g o.c o.f o.room o.ws W hM.pb hF.sz hO.sz (hM.oth ho) n₀ hM.p0.1 _ hch).mono fun r w' ⟨he, hB, hb, hoff⟩ => ⟨he, hM.bits_op hB hoff, hb, fun B _ h1 _ _ => hoff B h1⟩, fun W1 hM1 => ?_⟩
  rcases ho with rfl | rfl
  · refine (refand_other p.rb p.rg p.rc o.rb o.rg o.rc p.f o.f p.L o.L (hasB o.f o.room o.ws) W1 hM1.pr hF.rz hM1.qr hO.rz ⟨ref_b_g hM1.pr hM1.qr, hM1.rr.symm⟩ (fun v => (fit_has hO v).symm) n₀ hM.p0.2.1).mono fun r w' ⟨he, hB, hb, hoff⟩ => ⟨he, ⟨p.rg, p.rc, hM1.ref_op hB (.inl rfl) hM1.n₀_le (fun B _ h1 _ => hoff B h1)⟩, hb, fun B _ _ h2 _ => hoff B h2⟩
  · have hid : joinL (fun a b => a && b) o.f o.f o.room o.L o.ws = o.L := by rw [joinL_self hF, opL_id]
    rw [hid]
    refine (refand_self o.rb o.rg o.rc o.f o.L W1 hM1.pr hF.rz).mono fun r w' ⟨he, m, hw⟩ => ⟨by rw [he]; simp, ⟨o.rg, o.rc, by rw [hw]; exact hM1.drawn m⟩, by rw [hw]; exact out_drawn n₀ _ W1 m⟩
theorem minus_pair {W : World} {n₀ : Nat} {p q o : PS} (hM : Mem W n₀ p q) (hF : Fit p) (hO : Fit o) (ho : o = q ∨ o = p) :
    ∃ (t : Bool) (ws' : List Nat) (L' : List Bool), Fit { p with ws := ws', L := L' } ∧
      (Calls Tryd.prog 26 #[.pointer (some ⟨p.b, 0, none⟩), .pointer (some ⟨o.b, 0, none⟩)] W fun r w' => r = .returned (.tuple #[.bool t, .int .i64 0]) ∧ Mem w' n₀ { p with ws := ws' } q ∧ Out n₀ p W w') ∧
      (∀ W1, Mem W1 n₀ { p with ws := ws' } q → Calls Tryd.prog 57 #[.pointer (some ⟨p.rb, 0, none⟩), .pointer (some ⟨o.rb, 0, none⟩)] W1 fun r w' => r = .returned (.bool t) ∧ (∃ rg rc, Mem w' n₀ { p with ws := ws', rg := rg, rc := rc, L := L' } q) ∧ Out n₀ p W1 w') := by
  have hch := join_chg joins_anot (L := p.L) hF.sz hO.sz hF.cl hO.cl hF.ag (fun k _ => rfl)
  refine ⟨_, _, _, fit_join joins_anot hF hO (fun k _ => rfl), (minus_two p.b p.g p.c p.f p.room p.ws o.b o.g o.c o.f o.room o.ws W hM.pb hF.sz hO.sz (hM.oth ho) n₀ hM.p0.1 _ hch).mono fun r w' ⟨he, hB, hb, hoff⟩ => ⟨he, hM.bits_op hB hoff, hb, fun B _ h1 _ _ => hoff B h1⟩, fun W1 hM1 => ?_⟩
  rcases ho with rfl | rfl
  · refine (refminus_other p.rb p.rg p.rc o.rb o.rg o.rc p.f o.f p.L o.L (hasB o.f o.room o.ws) W1 hM1.pr hF.rz hM1.qr hO.rz ⟨ref_b_g hM1.pr hM1.qr, hM1.rr.symm⟩ hM1.bb.symm (fun v => (fit_has hO v).symm) n₀ hM.p0.2.1).mono fun r w' ⟨he, hB, hb, hoff⟩ => ⟨he, ⟨p.rg, p.rc, hM1.ref_op hB (.inl rfl) hM1.n₀_le (fun B _ h1 _ => hoff B h1)⟩, hb, fun B _ _ h2 _ => hoff B h2⟩
  · have hid := joinL_self hF (fun a b => a && !b)
    rw [hid]
    refine (refminus_self o.rb o.rg o.rc o.f o.L W1 hM1.pr hF.rz n₀ hM.p0.2.2).mono fun r w' ⟨he, ⟨g', c', hg, hB⟩, hb, hoff⟩ => ⟨he, ⟨g', c', hM1.ref_op hB (.inr hg) hM1.n₀_le (fun B h0 _ h2 => hoff B h0 h2)⟩, hb, fun B h0 _ _ h3 => hoff B h0 h3⟩
theorem joinL_or {p o : PS} (hO : Fit o) : joinL (fun a b => a || b) p.f o.f o.room p.L o.ws = orL p.f p.L (bv o.f (lat o.L) o.L.length) := by
  rw [← agree_bvs hO.ag]
  refine lat_ext (by rw [joinL_len, orL_len]) (fun i hi => ?_)
  rw [joinL_len] at hi
  unfold joinL
  rw [opL_lat _ _ _ hi, orL_lat _ _ _ _ hi]
  congr 1
  have := mem_bvs hO.sz hO.cl (p.f + (i : Int))
  cases e : hasB o.f o.room o.ws (p.f + (i : Int))
  · rw [e] at this
    rw [decide_eq_false (fun h => by simpa using this.1 h)]
  · rw [decide_eq_true (this.2 e)]
theorem or_pair {W : World} {n₀ : Nat} {p q o : PS} (hM : Mem W n₀ p q) (hT : Tab W) (hF : Fit p) (hO : Fit o) (ho : o = q ∨ o = p) :
    ∃ (t : Bool) (e : Int) (ws' : List Nat) (L' : List Bool), Fit { p with ws := ws', L := L' } ∧
      (Calls Tryd.prog 34 #[.pointer (some ⟨p.b, 0, none⟩), .pointer (some ⟨o.b, 0, none⟩)] W fun r w' => r = .returned (.tuple #[.bool t, .int .i64 e]) ∧ Mem w' n₀ { p with ws := ws' } q ∧ Out n₀ p W w') ∧
      (∀ W1, Mem W1 n₀ { p with ws := ws' } q → Calls Tryd.prog 56 #[.pointer (some ⟨p.rb, 0, none⟩), .pointer (some ⟨o.rb, 0, none⟩)] W1 fun r w' => r = .returned (.tuple #[.bool t, .int .i64 e]) ∧ (∃ rg rc, Mem w' n₀ { p with ws := ws', rg := rg, rc := rc, L := L' } q) ∧ Out n₀ p W1 w') := by
  have hroom := hF.ag.1
  have hvs := agree_bvs (f := o.f) hO.ag
  by_cases hall : ∀ v ∈ bvs o.f o.room o.ws, fitB p.f p.room v = true
  · have hop : ∀ k : Int, p.room ≤ k → (false || bt o.ws (p.f + k - o.f)) = false := fun k hk => by
      cases e : bt o.ws (p.f + k - o.f)
      · rfl
      · have h1 := hall (p.f + k) ((mem_bvs hO.sz hO.cl _).2 (by rw [hasB_eq hO.cl]; exact e))
        unfold fitB at h1
        have := of_decide_eq_true h1
        omega
    have hch := join_chg joins_or (L := p.L) hF.sz hO.sz hF.cl hO.cl hF.ag hop
    refine ⟨_, 0, _, _, fit_join joins_or hF hO hop, (or_two p.b p.g p.c p.f p.room p.ws o.b o.g o.c o.f o.room o.ws W hM.pb hF.sz hO.sz hO.cl (hM.oth ho) hT hall n₀ hM.p0.1 _ hch).mono fun r w' ⟨he, hB, hb, hoff⟩ => ⟨he, hM.bits_op hB hoff, hb, fun B _ h1 _ _ => hoff B h1⟩, fun W1 hM1 => ?_⟩
    have hR : Ref W1 o.rb o.rg o.rc o.f o.L := by
      rcases ho with rfl | rfl
      · exact hM1.qr
      · exact hM1.pr
    rw [joinL_or hO]
    refine (refor_yes p.rb p.rg p.rc o.rb o.rg o.rc p.f o.f p.L o.L W1 hM1.pr hF.rz hR hO.rz (fun v hv => ?_) n₀ hM.p0.2.1).mono fun r w' ⟨he, hB, hb, hoff⟩ => ⟨he, ⟨p.rg, p.rc, hM1.ref_op hB (.inl rfl) hM1.n₀_le (fun B h0 h1 _ => hoff B h0 h1)⟩, hb, fun B h0 _ h2 _ => hoff B h0 h2⟩
    have h1 := hall v (by rw [hvs]; exact hv)
    unfold fitB at h1
    have := of_decide_eq_true h1
    omega
  · refine ⟨false, 20, p.ws, p.L, hF, (or_no p.b p.g p.c p.f p.room p.ws o.b o.g o.c o.f o.room o.ws W hM.pb hF.sz hO.sz hO.cl ((hM.oth ho).bits hM.pb) hT hall).mono fun r w' ⟨he, m, hw⟩ => ⟨he, by rw [hw]; exact hM.drawn m, by rw [hw]; exact out_drawn n₀ _ W m⟩, fun W1 hM1 => ?_⟩
    have hR : Ref W1 o.rb o.rg o.rc o.f o.L := by
      rcases ho with rfl | rfl
      · exact hM1.qr
      · exact hM1.pr
    refine (refor_no p.rb p.rg p.rc o.rb o.rg o.rc p.f o.f p.L o.L W1 hM1.pr hF.rz hR hO.rz (by rw [← hvs, ← hroom]; exact hall)).mono fun r w' ⟨he, hb⟩ => ⟨he, ⟨p.rg, p.rc, hM1.below hb⟩, hb.mono hM1.n₀_le, fun B h0 _ _ _ => hb.block B h0⟩

set_option maxHeartbeats 2000000 in
theorem join_any {W : World} {n₀ : Nat} {p q o : PS} (kind : Int) (hM : Mem W n₀ p q) (hT : Tab W) (hF : Fit p) (hO : Fit o) (ho : o = q ∨ o = p) :
    ∃ (ws' : List Nat) (L' : List Bool), Fit { p with ws := ws', L := L' } ∧
      (Calls Tryd.prog 20 #[.int .i64 kind, .pointer (some ⟨p.b, 0, none⟩), .pointer (some ⟨o.b, 0, none⟩), .pointer (some ⟨p.rb, 0, none⟩), .pointer (some ⟨o.rb, 0, none⟩)] W fun r w' => r = .returned (.bool true) ∧ (∃ rg rc, Mem w' n₀ { p with ws := ws', rg := rg, rc := rc, L := L' } q) ∧ Out n₀ p W w') := by
  by_cases hk0 : kind = 0
  · subst hk0
    obtain ⟨t, ws', L', hfit, k1, k2⟩ := and_pair hM hF hO ho
    refine ⟨ws', L', hfit, ?_⟩
    have K2 : Hid _ := k2
    clear hM hT hF hO ho hfit k2
    go_enter Tryd.func20, Tryd.ntmps20
    go_wp2_with fail
    refine k1.mono ?_
    rintro e w1 ⟨rfl, hm1, hb1⟩
    have k3 := K2.out w1 hm1
    clear k1
    go_wp2_with fail
    refine k3.mono ?_
    rintro e w2 ⟨rfl, hm2, hb2⟩
    have HM2 : Hid _ := hm2
    clear k3 hm2 hm1
    go_wp2
    go_ret
    exact ⟨rfl, HM2.out, hb1.trans hb2⟩
  · by_cases hk1 : kind = 1
    · subst hk1
      obtain ⟨t, e, ws', L', hfit, k1, k2⟩ := or_pair hM hT hF hO ho
      refine ⟨ws', L', hfit, ?_⟩
      have K2 : Hid _ := k2
      clear hM hT hF hO ho hfit k2
      go_enter Tryd.func20, Tryd.ntmps20
      go_wp2_with fail
      refine k1.mono ?_
      rintro e w1 ⟨rfl, hm1, hb1⟩
      have k3 := K2.out w1 hm1
      clear k1
      go_wp2_with fail
      refine k3.mono ?_
      rintro e w2 ⟨rfl, hm2, hb2⟩
      have HM2 : Hid _ := hm2
      clear k3 hm2 hm1
      go_wp2
      go_ret
      exact ⟨rfl, HM2.out, hb1.trans hb2⟩
    · obtain ⟨t, ws', L', hfit, k1, k2⟩ := minus_pair hM hF hO ho
      refine ⟨ws', L', hfit, ?_⟩
      have K2 : Hid _ := k2
      have d0 : (kind == 0) = false := by simpa using hk0
      have d1 : (kind == 1) = false := by simpa using hk1
      clear hM hT hF hO ho hfit k2 hk0 hk1
      go_enter Tryd.func20, Tryd.ntmps20
      go_wp2_with fail
      refine k1.mono ?_
      rintro e w1 ⟨rfl, hm1, hb1⟩
      have k3 := K2.out w1 hm1
      clear k1
      go_wp2_with fail
      refine k3.mono ?_
      rintro e w2 ⟨rfl, hm2, hb2⟩
      have HM2 : Hid _ := hm2
      clear k3 hm2 hm1
      go_wp2
      go_ret
      exact ⟨rfl, HM2.out, hb1.trans hb2⟩
end Go.Proofs.YtgcgomofmicchaaDoor
