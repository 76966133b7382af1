/-
  What is proved here: And of a set of the reference with itself; Minus with another one.
-/
import Derived.Test.YtgcgomofmicchaaDoorZd
import Derived.LaidEqlPtr
namespace Go.Proofs.YtgcgomofmicchaaDoor
open Go.RowKit Go.Shelf
set_option linter.unusedVariables false

theorem Tryd.info40 : ∃ j, Tryd.prog.info? 40 = some j ∧ j.size ≠ 0 := by
  have h : (Tryd.prog.info? 40).map (·.size) = some 2 := by kernel_rfl
  cases hi : Tryd.prog.info? 40 with
  | none => rw [hi] at h; cases h
  | some j => rw [hi] at h; exact ⟨j, rfl, by injection h with h; have h2 : j.size = 2 := h; rw [h2]; decide⟩
theorem neq_ptr_same (a : Addr) (w : World) : (binOp .neq 28 (.pointer (some a)) (.pointer (some a))).run Tryd.prog w = .ok (.bool false) w := by
  obtain ⟨j, hte, _⟩ := Tryd.info40
  have h : ∀ d : Nat, (Op.equalIn (d + 1) 28 (.pointer (some a)) (.pointer (some a))).run Tryd.prog w = .ok true w := fun d => by
    simp [Op.equalIn, run_underlying Tryd.underlying28, sizeOf, typeInfo, hte, run_sameAddr_same]
  simp only [binOp]
  simp [Op.equal, Op.maxDepth, h 9999]
theorem eql_ptr_same (a : Addr) (w : World) : (binOp .eql 28 (.pointer (some a)) (.pointer (some a))).run Tryd.prog w = .ok (.bool true) w := by
  obtain ⟨j, hte, _⟩ := Tryd.info40
  exact run_eql_ptr_same w a Tryd.underlying28 hte
theorem ptr_other {W : World} {b ob g og c oc : Nat} {f of : Int} {L oL : List Bool} (hR : Ref W b g c f L) (hO : Ref W ob og oc of oL) (hne : ob ≠ b) :
    (binOp .neq 28 (.pointer (some ⟨ob, 0, none⟩)) (.pointer (some ⟨b, 0, none⟩))).run Tryd.prog W = .ok (.bool true) W ∧ (binOp .eql 28 (.pointer (some ⟨ob, 0, none⟩)) (.pointer (some ⟨b, 0, none⟩))).run Tryd.prog W = .ok (.bool false) W := by
  obtain ⟨j, hte, hsz⟩ := Tryd.info40
  have hn : (⟨ob, 0, none⟩ : Addr) ≠ ⟨b, 0, none⟩ := fun e => hne (by injection e)
  refine ⟨?_, run_eql_ptr_other W Tryd.underlying28 hte hsz hn hO.1 hR.1⟩
  have h : ∀ d : Nat, (Op.equalIn (d + 1) 28 (.pointer (some ⟨ob, 0, none⟩)) (.pointer (some ⟨b, 0, none⟩))).run Tryd.prog W = .ok false W := fun d => by
    simp [Op.equalIn, run_underlying Tryd.underlying28, sizeOf, typeInfo, hte, hsz, run_sameAddr_other W hn hO.1 hR.1]
  simp only [binOp]
  simp [Op.equal, Op.maxDepth, h 9999]

theorem has_self {f : Int} {L : List Bool} {k : Nat} (hk : k < L.length) : (fitB f L.length (f + (k : Int)) && lat L (f + (k : Int) - f).toNat) = lat L k := by
  rw [fitB_yes ⟨by omega, by omega⟩, lat_of L (f + (k : Int)) f k (by omega)]; rfl

set_option maxRecDepth 100000 in
set_option maxHeartbeats 2000000 in
theorem refand_self (b g c : Nat) (f : Int) (L : List Bool) (W : World) (hR : Ref W b g c f L) (hz : Rz f L) :
    Calls Tryd.prog 55 #[.pointer (some ⟨b, 0, none⟩), .pointer (some ⟨b, 0, none⟩)] W fun e w' => e = .returned (.bool false) ∧ ∃ m, w' = W.drewN m := by
  have z1 := hz.lo; have z2 := hz.one; have z3 := hz.most; have z4 := hz.hi
  have kh := fun m k (hk : k < L.length) => by have q := refhas_any b g c f (f + (k : Nat)) L (W.drewN m) (hR.drawn m) hz; rw [has_self hk] at q; exact q
  have d0 := hR.c0
  have d1 := hR.c1
  have hcw : ∀ k, k < L.length → W.cell? ⟨g, k, none⟩ = some (.bool (lat L k)) := fun k hk => (hR.cw k hk).1
  obtain ⟨n, hn⟩ : ∃ n, L.length = n := ⟨_, rfl⟩
  rw [hn] at z2 z3 z4 d1 hcw kh
  have HCW : Hid (∀ k, k < n → W.cell? ⟨g, k, none⟩ = some (.bool (lat L k))) := hcw
  have KH : Hid _ := kh
  clear hn hR hz hcw kh
  go_enter Tryd.func55, Tryd.ntmps55
  go_wp2
  go_loopw [5, 6, 7] (fun a i _ wr => ∃ k m : Nat, k ≤ n ∧ i = .int .i64 k ∧ a = .bool false ∧ wr = W.drewN m) (fun _ i _ _ => n - (intOf i).toNat)
  case atStart => exact ⟨0, 0, Nat.zero_le _, rfl, rfl, rfl⟩
  case round =>
    obtain ⟨k, m, hk, rfl, rfl, rfl⟩ := hrel
    by_cases hlt : k < n
    · have dw := HCW.out k hlt
      have k1 := KH.out m k hlt
      have hlt' : (k : Int) < (n : Int) := by omega
      cases e1 : lat L k
      · rw [e1] at dw
        clear k1 e1
        go_wp2
        go_roundw
        case rel => exact ⟨k + 1, _, by omega, by go_num, rfl, rfl⟩
        case measure => simp [intOf]; omega
      · rw [e1] at dw k1
        clear e1
        go_wp2_with (go_at_call 50; refine k1.mono ?_; clear k1; rintro e w1 ⟨rfl, m1, rfl⟩)
        go_roundw
        case rel => exact ⟨k + 1, _, by omega, by go_num, rfl, rfl⟩
        case measure => simp [intOf]; omega
    · obtain rfl : k = n := by omega
      go_wp2
      go_ret
      exact ⟨rfl, _, rfl⟩

set_option maxRecDepth 100000 in
set_option maxHeartbeats 4000000 in
theorem refminus_other (b g c ob og oc : Nat) (f of : Int) (L oL : List Bool) (h : Int → Bool) (W : World) (hR : Ref W b g c f L) (hz : Rz f L) (hO : Ref W ob og oc of oL) (hzo : Rz of oL) (hne : ob ≠ g ∧ og ≠ g) (hob : ob ≠ b) (hh : ∀ v, (fitB of oL.length v && lat oL (v - of).toNat) = h v) (n₀ : Nat) (hn₀ : n₀ ≤ g) :
    Calls Tryd.prog 57 #[.pointer (some ⟨b, 0, none⟩), .pointer (some ⟨ob, 0, none⟩)] W fun e w' => e = .returned (.bool (decide (opL (fun i => lat L i && !h (f + (i : Int))) L.length ≠ L))) ∧ Ref w' b g c f (opL (fun i => lat L i && !h (f + (i : Int))) L.length) ∧ Below n₀ W w' ∧ (∀ B, B ≠ g → w'.heap[B]? = W.heap[B]?) := by
  have z1 := hz.lo; have z2 := hz.one; have z3 := hz.most; have z4 := hz.hi
  have kh := fun wr (hoff : ∀ B, B ≠ g → wr.heap[B]? = W.heap[B]?) v => refhas_any ob og oc of v oL wr (hO.keep (hoff ob hne.1) (hoff og hne.2)) hzo
  simp only [hh] at kh
  have kp := fun wr (hoff : ∀ B, B ≠ g → wr.heap[B]? = W.heap[B]?) (L' : List Bool) (hB : Ref wr b g c f L') => ptr_other hB (hO.keep (hoff ob hne.1) (hoff og hne.2)) hob
  obtain ⟨p, hp⟩ : ∃ p : Nat → Bool, (fun i : Nat => !h (f + (i : Int))) = p := ⟨_, rfl⟩
  have hpk : ∀ k : Nat, h (f + (k : Int)) = !p k := fun k => by rw [← hp]; simp
  have he := dif_end p L
  have he2 := prt_end p L
  have hL' : opL (fun i => lat L i && !h (f + (i : Int))) L.length = opL (fun i => lat L i && p i) L.length := by simp only [hpk, Bool.not_not]
  rw [hL', ← he, ← he2]
  have h0 : Ref W b g c f (prt p L 0) := by rw [prt_zero]; exact hR
  obtain ⟨n, hn⟩ : ∃ n, L.length = n := ⟨_, rfl⟩
  have HN : Hid (L.length = n) := hn
  have HPK : Hid (∀ k : Nat, h (f + (k : Int)) = !p k) := hpk
  have KH : Hid _ := kh
  have KP : Hid _ := kp
  rw [hn] at z2 z3 z4 ⊢
  clear hn he he2 hp hL' hpk hR hz hO hzo hh kh hne kp
  go_enter Tryd.func57, Tryd.ntmps57
  go_wp2
  go_loopw [5, 6, 7] (fun a i _ wr => ∃ k : Nat, k ≤ n ∧ i = .int .i64 k ∧ a = .bool (dif p L k) ∧ Ref wr b g c f (prt p L k) ∧ Below n₀ W wr ∧ (∀ B, B ≠ g → wr.heap[B]? = W.heap[B]?)) (fun _ i _ _ => n - (intOf i).toNat)
  case atStart => exact ⟨0, Nat.zero_le _, rfl, rfl, h0, Below.refl _ _, fun _ _ => rfl⟩
  case round =>
    obtain ⟨k, hk, rfl, rfl, hB, hbl, hoff⟩ := hrel
    have hpn : ∀ m, (binOp .neq 28 (.pointer (some ⟨ob, 0, none⟩)) (.pointer (some ⟨b, 0, none⟩))).run Tryd.prog (wr.drewN m) = .ok (.bool true) (wr.drewN m) := fun m => (KP.out (wr.drewN m) hoff _ (hB.drawn m)).1
    have hpe := (KP.out wr hoff _ hB).2
    have d0 := hB.c0
    have d1 := hB.c1
    rw [prt_len, HN.out] at d1
    by_cases hlt : k < n
    · have hkl : k < L.length := by rw [HN.out]; exact hlt
      obtain ⟨dw, fw⟩ := hB.cw k (by rw [prt_len]; exact hkl)
      rw [prt_at p L k hkl] at dw
      have k1 := KH.out wr hoff (f + (k : Int))
      rw [HPK.out k] at k1
      have hlt' : (k : Int) < (n : Int) := by omega
      have HD := dif_succ p L k
      obtain ⟨t, ht⟩ : ∃ t, dif p L k = t := ⟨_, rfl⟩
      rw [ht] at HD ⊢
      cases e1 : lat L k
      · have hkp := prt_keep p L k (by rw [e1]; rfl)
        rw [e1] at dw HD
        have HKP : Hid (prt p L (k + 1) = prt p L k) := hkp
        have HD' : Hid (dif p L (k + 1) = t) := by unfold Hid; rw [HD]; simp
        have HB : Hid (Ref wr b g c f (prt p L k)) := hB
        clear hkp HD ht k1 hkl e1 hB
        go_wp2
        all_goals
          go_roundw
          case rel => exact ⟨k + 1, by omega, by go_num, by rw [HD'.out], by rw [HKP.out]; exact HB.out, hbl, hoff⟩
          case measure => simp [intOf]; omega
      · rw [e1] at dw HD
        cases e2 : p k
        · have hst := hB.set k false
          rw [prt_set p L k hkl e2] at hst
          rw [e2] at k1 HD
          have HST : Hid (Ref (wr.setCell ⟨g, k, none⟩ (.bool false)) b g c f (prt p L (k + 1))) := hst
          have HD' : Hid (dif p L (k + 1) = true) := by unfold Hid; rw [HD]; simp
          clear hst HD ht hkl e1 e2 hB
          go_wp2_with (go_at_call 50; refine k1.mono ?_; clear k1; rintro e w1 ⟨rfl, m1, rfl⟩)
          go_roundw
          case rel => exact ⟨k + 1, by omega, by go_num, by rw [HD'.out], HST.out, (below_drewN hbl m1).setCell (p := ⟨g, k, none⟩) hn₀ _, fun B hB' => (Below.heap_setCell _ _ _ B hB').trans (hoff B hB')⟩
          case measure => simp [intOf]; omega
        · have hkp := prt_keep p L k (by rw [e1, e2]; rfl)
          rw [e2] at k1 HD
          have HKP : Hid (prt p L (k + 1) = prt p L k) := hkp
          have HD' : Hid (dif p L (k + 1) = t) := by unfold Hid; rw [HD]; simp
          have HB : Hid (Ref wr b g c f (prt p L k)) := hB
          clear hkp HD ht hkl e1 e2 hB
          go_wp2_with (go_at_call 50; refine k1.mono ?_; clear k1; rintro e w1 ⟨rfl, m1, rfl⟩)
          all_goals
            go_roundw
            case rel => exact ⟨k + 1, by omega, by go_num, by rw [HD'.out], by rw [HKP.out]; exact HB.out, below_drewN hbl m1, hoff⟩
            case measure => simp [intOf]; omega
    · obtain rfl : k = n := by omega
      have HB : Hid (Ref wr b g c f (prt p L k)) := hB
      clear hB
      go_wp2
      go_ret
      exact ⟨rfl, HB.out, hbl, hoff⟩
end Go.Proofs.YtgcgomofmicchaaDoor
