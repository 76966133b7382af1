/-
  What is proved here: And, Or and Minus of a set of bits with another one, or with itself.
-/
import Derived.Test.YtgcgomofmicchaaDoorZb
import Derived.Test.YtgcgomofmicchaaDoorYv
namespace Go.Proofs.YtgcgomofmicchaaDoor
open Go.RowKit Go.Shelf
set_option linter.unusedVariables false

/-- The other set: another one in memory, or the same. -/
def Oth (W : World) (b g c : Nat) (f room : Int) (ws : List Nat) (ob og oc : Nat) (of oroom : Int) (ows : List Nat) : Prop :=
  (Bits W ob og oc of oroom ows ∧ ob ≠ g ∧ og ≠ g) ∨ (ob = b ∧ og = g ∧ oc = c ∧ of = f ∧ oroom = room ∧ ows = ws)
theorem Oth.bits {W : World} {b g c : Nat} {f room : Int} {ws : List Nat} {ob og oc : Nat} {of oroom : Int} {ows : List Nat} (h : Oth W b g c f room ws ob og oc of oroom ows) (hB : Bits W b g c f room ws) : Bits W ob og oc of oroom ows := by
  rcases h with ⟨h, _⟩ | ⟨rfl, rfl, rfl, rfl, rfl, rfl⟩
  · exact h
  · exact hB
theorem Oth.drawn {W : World} {b g c : Nat} {f room : Int} {ws : List Nat} {ob og oc : Nat} {of oroom : Int} {ows : List Nat} (h : Oth W b g c f room ws ob og oc of oroom ows) (m : Nat) : Oth (W.drewN m) b g c f room ws ob og oc of oroom ows := h
theorem frm_whole (ws : List Nat) (k : Nat) : frm ws ((k : Int) * 64) = wat ws k := by
  unfold frm wai
  rw [show (k : Int) * 64 / 64 = (k : Int) by omega, show (k : Int) * 64 % 64 = 0 by omega, if_neg (by omega)]
  simp
theorem from_oth (G : Nat → Nat) {W : World} {b g c : Nat} {f room : Int} {ws : List Nat} {ob og oc : Nat} {of oroom : Int} {ows : List Nat} (hz : Sz f room ws) (hzo : Sz of oroom ows) (ho : Oth W b g c f room ws ob og oc of oroom ows)
    (hG : ∀ i, i < ws.length → G i < 18446744073709551616) (k : Nat) (W' : World) (hk : k < ws.length) (hB : Bits W' b g c f room (upd G ws k)) (hoff : ∀ B, B ≠ g → W'.heap[B]? = W.heap[B]?) :
    Calls Tryd.prog 58 #[.pointer (some ⟨ob, 0, none⟩), .int .i64 (f + (k : Int) * 64)] W' fun e w' => e = .returned (.int .u64 (frm ows (f + (k : Int) * 64 - of) : Nat)) ∧ ∃ n, w' = W'.drewN n := by
  have h1 := hz.len; have h2 := hz.lo; have h3 := hz.hi; have h4 := hz.most; have h5 := hz.one
  rcases ho with ⟨h, hb, hg⟩ | ⟨rfl, rfl, rfl, rfl, rfl, rfl⟩
  · exact from_any ob og oc of oroom _ ows W' (h.keep (hoff ob hb) (hoff og hg)) hzo (by omega) (by omega)
  · have k9 := from_any ob og oc of oroom (of + (k : Int) * 64) (upd G ows k) W' hB (hz.upd G hG k) (by omega) (by omega)
    have e : frm (upd G ows k) (of + (k : Int) * 64 - of) = frm ows (of + (k : Int) * 64 - of) := by
      rw [show of + (k : Int) * 64 - of = (k : Int) * 64 by omega, frm_whole, upd_at G ows k hk, frm_whole]
    rw [e] at k9
    exact k9
theorem change_op (fn : Nat) {op2 : Nat → Nat → Nat} {op : Bool → Bool → Bool} (hj : Joins op2 op)
    (hfn : ∀ (x y : Nat), x < 18446744073709551616 → y < 18446744073709551616 → ∀ W : World, Calls Tryd.prog fn #[.int .u64 (x : Int), .int .u64 (y : Int)] W fun e w' => e = .returned (.int .u64 (op2 x y : Nat)) ∧ w' = W)
    (hen : ∀ args w, (callFunc fn args).run Tryd.prog w = .ok (.enter fn args) w)
    (b g c : Nat) (f room : Int) (ws : List Nat) (ob og oc : Nat) (of oroom : Int) (ows : List Nat) (W : World) (h : Bits W b g c f room ws) (hz : Sz f room ws) (hzo : Sz of oroom ows) (ho : Oth W b g c f room ws ob og oc of oroom ows) (n₀ : Nat) (hn₀ : n₀ ≤ g) :
    Calls Tryd.prog 60 #[.pointer (some ⟨b, 0, none⟩), .pointer (some ⟨ob, 0, none⟩), .func (.func fn) #[] #[]] W fun e w' => e = .returned (.bool (chg (joinG op2 f of ws ows) ws ws.length)) ∧ Bits w' b g c f room (joinW op2 f of ws ows) ∧ Below n₀ W w' ∧ (∀ B, B ≠ g → w'.heap[B]? = W.heap[B]?) :=
  change_any fn _ (fun k => frm ows (f + (k : Int) * 64 - of)) (joinG op2 f of ws ows) b g c f room ws W h hz (fun i _ => joinG_lt hj hz hzo i) (fun k W' _ => hfn _ _ (hz.word k) (frm_lt hzo.word _) W') hen
    (fun k W' hk hB hoff => from_oth (joinG op2 f of ws ows) hz hzo ho (fun i _ => joinG_lt hj hz hzo i) k W' hk hB hoff) n₀ hn₀

set_option maxHeartbeats 400000 in
theorem and_two (b g c : Nat) (f room : Int) (ws : List Nat) (ob og oc : Nat) (of oroom : Int) (ows : List Nat) (W : World) (h : Bits W b g c f room ws) (hz : Sz f room ws) (hzo : Sz of oroom ows) (ho : Oth W b g c f room ws ob og oc of oroom ows) (n₀ : Nat) (hn₀ : n₀ ≤ g) (t : Bool) (ht : chg (joinG (fun x y => x &&& y) f of ws ows) ws ws.length = t) :
    Calls Tryd.prog 25 #[.pointer (some ⟨b, 0, none⟩), .pointer (some ⟨ob, 0, none⟩)] W fun e w' => e = .returned (.tuple #[.bool t, .int .i64 0]) ∧ Bits w' b g c f room (joinW (fun x y => x &&& y) f of ws ows) ∧ Below n₀ W w' ∧ (∀ B, B ≠ g → w'.heap[B]? = W.heap[B]?) := by
  have k := change_op 61 joins_and (fun x y hx hy W => fand x y hx hy W) (enters_of Tryd.func61 (by kernel_rfl) rfl) b g c f room ws ob og oc of oroom ows W h hz hzo ho n₀ hn₀
  rw [ht] at k
  clear ht h hz hzo ho
  go_enter Tryd.func25, Tryd.ntmps25
  go_wp2_with (go_at_call 60; refine k.mono ?_; clear k; rintro e w1 ⟨rfl, hB, hb, hoff⟩)
  go_ret2
  exact ⟨rfl, hB, hb, hoff⟩
set_option maxHeartbeats 400000 in
theorem minus_two (b g c : Nat) (f room : Int) (ws : List Nat) (ob og oc : Nat) (of oroom : Int) (ows : List Nat) (W : World) (h : Bits W b g c f room ws) (hz : Sz f room ws) (hzo : Sz of oroom ows) (ho : Oth W b g c f room ws ob og oc of oroom ows) (n₀ : Nat) (hn₀ : n₀ ≤ g) (t : Bool) (ht : chg (joinG anot f of ws ows) ws ws.length = t) :
    Calls Tryd.prog 26 #[.pointer (some ⟨b, 0, none⟩), .pointer (some ⟨ob, 0, none⟩)] W fun e w' => e = .returned (.tuple #[.bool t, .int .i64 0]) ∧ Bits w' b g c f room (joinW anot f of ws ows) ∧ Below n₀ W w' ∧ (∀ B, B ≠ g → w'.heap[B]? = W.heap[B]?) := by
  have k := change_op 62 joins_anot (fun x y hx hy W => fminus x y hx hy W) (enters_of Tryd.func62 (by kernel_rfl) rfl) b g c f room ws ob og oc of oroom ows W h hz hzo ho n₀ hn₀
  rw [ht] at k
  clear ht h hz hzo ho
  go_enter Tryd.func26, Tryd.ntmps26
  go_wp2_with (go_at_call 60; refine k.mono ?_; clear k; rintro e w1 ⟨rfl, hB, hb, hoff⟩)
  go_ret2
  exact ⟨rfl, hB, hb, hoff⟩

theorem bvs_fit {f room : Int} {l : List Int} (hs : l.Pairwise (· < ·)) (h0 : 0 < l.length) (h1 : f ≤ l[0]?.getD 0) (h2 : l[l.length - 1]?.getD 0 < f + room) (v : Int) (hv : v ∈ l) : f ≤ v ∧ v < f + room := by
  obtain ⟨i, hi, rfl⟩ := List.mem_iff_getElem.1 hv
  rw [List.getElem?_eq_getElem h0] at h1
  rw [List.getElem?_eq_getElem (by omega)] at h2
  simp at h1 h2
  rw [List.pairwise_iff_getElem] at hs
  constructor
  · by_cases e : i = 0
    · subst e; exact h1
    · have := hs 0 i h0 hi (by omega); omega
  · by_cases e : i = l.length - 1
    · subst e; exact h2
    · have := hs i (l.length - 1) hi (by omega) (by omega); omega

set_option maxRecDepth 100000 in
set_option maxHeartbeats 1000000 in
theorem or_no (b g c : Nat) (f room : Int) (ws : List Nat) (ob og oc : Nat) (of oroom : Int) (ows : List Nat) (W : World) (h : Bits W b g c f room ws) (hz : Sz f room ws) (hzo : Sz of oroom ows) (hco : Cl oroom ows) (hO : Bits W ob og oc of oroom ows) (hT : Tab W) (hno : ¬ ∀ v ∈ bvs of oroom ows, fitB f room v = true) :
    Calls Tryd.prog 34 #[.pointer (some ⟨b, 0, none⟩), .pointer (some ⟨ob, 0, none⟩)] W fun e w' => e = .returned (.tuple #[.bool false, .int .i64 20]) ∧ ∃ m, w' = W.drewN m := by
  have k1 := minV ob og oc of oroom ows W hO hzo hco hT
  have k2 := fun m => maxV ob og oc of oroom ows (W.drewN m) (hO.drawn m) hzo hco
  have k3 := fun m v => fits_any b g c f room v ws (W.drewN m) (h.drawn m) hz
  have hup : (bvs of oroom ows).Pairwise (· < ·) := bv_up _ _ _
  obtain ⟨vs, hvs⟩ : ∃ vs, bvs of oroom ows = vs := ⟨_, rfl⟩
  rw [hvs] at k1 hup hno
  simp only [hvs] at k2
  have hpos : 0 < vs.length := by
    rcases Nat.eq_zero_or_pos vs.length with h0 | h0
    · exfalso; apply hno; intro v hv; rw [List.eq_nil_of_length_eq_zero h0] at hv; cases hv
    · exact h0
  have hd : decide (0 < vs.length) = true := by simpa using hpos
  rw [hd] at k1
  simp only [hd] at k2
  have hor : fitB f room (vs[0]?.getD 0) = false ∨ (fitB f room (vs[0]?.getD 0) = true ∧ fitB f room (vs[vs.length - 1]?.getD 0) = false) := by
    cases e1 : fitB f room (vs[0]?.getD 0)
    · exact .inl rfl
    · refine .inr ⟨rfl, ?_⟩
      cases e2 : fitB f room (vs[vs.length - 1]?.getD 0)
      · rfl
      · exfalso; apply hno
        intro v hv
        unfold fitB at e1 e2
        have e1' := of_decide_eq_true e1
        have e2' := of_decide_eq_true e2
        exact fitB_yes (bvs_fit hup hpos e1'.1 e2'.2 v hv)
  obtain ⟨lo', hlo⟩ : ∃ lo', vs[0]?.getD 0 = lo' := ⟨_, rfl⟩
  obtain ⟨hi', hhi⟩ : ∃ hi', vs[vs.length - 1]?.getD 0 = hi' := ⟨_, rfl⟩
  rw [hlo] at k1 hor
  rw [hhi] at hor
  simp only [hhi] at k2
  clear hlo hhi hd hno hup hvs h hz hzo hco hO hT hpos
  rcases hor with e1 | ⟨e1, e2⟩
  · go_enter Tryd.func34, Tryd.ntmps34
    go_wp2_with fail
    refine k1.mono ?_
    rintro e w1 ⟨rfl, m1, rfl⟩
    go_wp2_with fail
    refine (k2 _).mono ?_
    rintro e w1 ⟨rfl, m2, rfl⟩
    simp only [World.drewN_drewN]
    have k4 := k3 (m1 + m2) lo'
    rw [e1] at k4
    clear k1 k2 k3 e1
    go_wp2_with fail
    refine k4.mono ?_
    rintro e w1 ⟨rfl, m3, rfl⟩
    go_wp2
    go_ret2
    exact ⟨rfl, _, rfl⟩
  · go_enter Tryd.func34, Tryd.ntmps34
    go_wp2_with fail
    refine k1.mono ?_
    rintro e w1 ⟨rfl, m1, rfl⟩
    go_wp2_with fail
    refine (k2 _).mono ?_
    rintro e w1 ⟨rfl, m2, rfl⟩
    simp only [World.drewN_drewN]
    have k4 := k3 (m1 + m2) lo'
    rw [e1] at k4
    clear k1 k2 e1
    go_wp2_with fail
    refine k4.mono ?_
    rintro e w1 ⟨rfl, m3, rfl⟩
    simp only [World.drewN_drewN]
    have k5 := k3 (m1 + m2 + m3) hi'
    rw [e2] at k5
    clear k4 k3 e2
    go_wp2_with fail
    refine k5.mono ?_
    rintro e w1 ⟨rfl, m4, rfl⟩
    go_wp2
    go_ret2
    exact ⟨rfl, _, rfl⟩

set_option maxRecDepth 100000 in
set_option maxHeartbeats 1000000 in
theorem or_two (b g c : Nat) (f room : Int) (ws : List Nat) (ob og oc : Nat) (of oroom : Int) (ows : List Nat) (W : World) (h : Bits W b g c f room ws) (hz : Sz f room ws) (hzo : Sz of oroom ows) (hco : Cl oroom ows) (ho : Oth W b g c f room ws ob og oc of oroom ows) (hT : Tab W) (hall : ∀ v ∈ bvs of oroom ows, fitB f room v = true) (n₀ : Nat) (hn₀ : n₀ ≤ g) (t : Bool) (ht : chg (joinG (fun x y => x ||| y) f of ws ows) ws ws.length = t) :
    Calls Tryd.prog 34 #[.pointer (some ⟨b, 0, none⟩), .pointer (some ⟨ob, 0, none⟩)] W fun e w' => e = .returned (.tuple #[.bool t, .int .i64 0]) ∧ Bits w' b g c f room (joinW (fun x y => x ||| y) f of ws ows) ∧ Below n₀ W w' ∧ (∀ B, B ≠ g → w'.heap[B]? = W.heap[B]?) := by
  have hO := ho.bits h
  have k1 := minV ob og oc of oroom ows W hO hzo hco hT
  have k2 := fun m => maxV ob og oc of oroom ows (W.drewN m) (hO.drawn m) hzo hco
  have k3 := fun m v => fits_any b g c f room v ws (W.drewN m) (h.drawn m) hz
  have k := fun m => change_op 69 joins_or (fun x y hx hy W => for_ x y hx hy W) (enters_of Tryd.func69 (by kernel_rfl) rfl) b g c f room ws ob og oc of oroom ows (W.drewN m) (h.drawn m) hz hzo (ho.drawn m) n₀ hn₀
  simp only [ht] at k
  obtain ⟨vs, hvs⟩ : ∃ vs, bvs of oroom ows = vs := ⟨_, rfl⟩
  rw [hvs] at k1 hall
  simp only [hvs] at k2
  have hb9 : ∀ m w', Below n₀ (W.drewN m) w' → Below n₀ W w' := fun m w' hb => (below_drewN (Below.refl n₀ W) m).trans hb
  rcases Nat.eq_zero_or_pos vs.length with h0 | hpos
  · have hd : decide (0 < vs.length) = false := by rw [h0]; rfl
    rw [hd] at k1
    simp only [hd] at k2
    obtain ⟨lo', hlo⟩ : ∃ lo', vs[0]?.getD 0 = lo' := ⟨_, rfl⟩
    obtain ⟨hi', hhi⟩ : ∃ hi', vs[vs.length - 1]?.getD 0 = hi' := ⟨_, rfl⟩
    rw [hlo] at k1
    simp only [hhi] at k2
    clear hlo hhi hd hvs h hz hzo hco hO hT h0 hall k3 ho ht
    go_enter Tryd.func34, Tryd.ntmps34
    go_wp2_with fail
    refine k1.mono ?_
    rintro e w1 ⟨rfl, m1, rfl⟩
    go_wp2_with fail
    refine (k2 _).mono ?_
    rintro e w1 ⟨rfl, m2, rfl⟩
    simp only [World.drewN_drewN]
    go_wp2_with fail
    refine (k _).mono ?_
    rintro e w1 ⟨rfl, hB, hb, hoff⟩
    have hb' := hb9 _ _ hb
    clear k hb9 k1 k2
    go_wp2
    go_ret2
    exact ⟨rfl, hB, hb', hoff⟩
  · have hd : decide (0 < vs.length) = true := by simpa using hpos
    rw [hd] at k1
    simp only [hd] at k2
    have e1 : fitB f room (vs[0]?.getD 0) = true := hall _ (by rw [List.getElem?_eq_getElem hpos]; exact List.getElem_mem _)
    have e2 : fitB f room (vs[vs.length - 1]?.getD 0) = true := hall _ (by rw [List.getElem?_eq_getElem (by omega)]; exact List.getElem_mem _)
    obtain ⟨lo', hlo⟩ : ∃ lo', vs[0]?.getD 0 = lo' := ⟨_, rfl⟩
    obtain ⟨hi', hhi⟩ : ∃ hi', vs[vs.length - 1]?.getD 0 = hi' := ⟨_, rfl⟩
    rw [hlo] at k1 e1
    rw [hhi] at e2
    simp only [hhi] at k2
    clear hlo hhi hd hvs h hz hzo hco hO hT hpos hall ho ht
    go_enter Tryd.func34, Tryd.ntmps34
    go_wp2_with fail
    refine k1.mono ?_
    rintro e w1 ⟨rfl, m1, rfl⟩
    go_wp2_with fail
    refine (k2 _).mono ?_
    rintro e w1 ⟨rfl, m2, rfl⟩
    simp only [World.drewN_drewN]
    have k4 := k3 (m1 + m2) lo'
    rw [e1] at k4
    clear k1 k2 e1
    go_wp2_with fail
    refine k4.mono ?_
    rintro e w1 ⟨rfl, m3, rfl⟩
    simp only [World.drewN_drewN]
    have k5 := k3 (m1 + m2 + m3) hi'
    rw [e2] at k5
    clear k4 k3 e2
    go_wp2_with fail
    refine k5.mono ?_
    rintro e w1 ⟨rfl, m4, rfl⟩
    simp only [World.drewN_drewN]
    go_wp2_with fail
    refine (k _).mono ?_
    rintro e w1 ⟨rfl, hB, hb, hoff⟩
    have hb' := hb9 _ _ hb
    clear k hb9 k5
    go_wp2
    go_ret2
    exact ⟨rfl, hB, hb', hoff⟩
end Go.Proofs.YtgcgomofmicchaaDoor
