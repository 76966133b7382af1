/-
  What is proved here: what put, Add, Del, And and Minus of the reference do.
-/
import Derived.Test.YtgcgomofmicchaaDoorZb
import Derived.Test.YtgcgomofmicchaaDoorYj
namespace Go.Proofs.YtgcgomofmicchaaDoor
open Go.RowKit Go.Shelf
set_option linter.unusedVariables false

set_option maxHeartbeats 2000000 in
theorem refput_any (b g c n : Nat) (f v : Int) (x : Bool) (L : List Bool) (W : World) (h : Ref W b g c f L) (hz : Rz f L) (hn : v - f = (n : Int)) (hn2 : n < L.length) :
    Calls Tryd.prog 54 #[.pointer (some ⟨b, 0, none⟩), .int .i64 v, .bool x] W fun e w' => e = .returned (.bool (lat L n != x)) ∧ ∃ m, w' = (W.setCell ⟨g, n, none⟩ (.bool x)).drewN m := by
  have c0 := h.c0; have c1 := h.c1
  obtain ⟨cw, fw⟩ := h.cw n hn2
  have z1 := hz.lo; have z2 := hz.one; have z3 := hz.most; have z4 := hz.hi
  obtain ⟨N, hN⟩ : ∃ N, L.length = N := ⟨_, rfl⟩
  rw [hN] at hn2 c1 z2 z3 z4
  obtain ⟨t, ht⟩ : ∃ t, lat L n = t := ⟨_, rfl⟩
  rw [ht] at cw ⊢
  have hn3 : (n : Int) < (N : Int) := by omega
  have hvf : wrap64 (v - f) = (n : Int) := by rw [hn]; unfold wrap64; omega
  clear hN ht h hz
  go_enter Tryd.func54, Tryd.ntmps54
  go_wp2
  go_quiet (fail)
  go_wp2
  go_region
  all_goals go_wp2
  all_goals
    go_ret
    refine ⟨by cases t <;> cases x <;> rfl, nq + 1, rfl⟩

theorem set_same (W : World) (g n m : Nat) (v : Value) (B : Nat) (hB : B ≠ g) : ((W.setCell ⟨g, n, none⟩ v).drewN m).heap[B]? = W.heap[B]? := Below.heap_setCell _ _ _ B hB

set_option maxHeartbeats 1000000 in
theorem refadd_dom (b g c : Nat) (f v : Int) (L : List Bool) (W : World) (h : Ref W b g c f L) (hz : Rz f L) (hf : ¬ (f ≤ v ∧ v < f + L.length)) :
    Calls Tryd.prog 17 #[.pointer (some ⟨b, 0, none⟩), .int .i64 v] W fun e w' => e = .returned (.tuple #[.bool false, .int .i64 20]) ∧ ∃ m, w' = W.drewN m := by
  have k := reffits_any b g c f v L W h hz
  rw [fitB_no hf] at k
  clear h hz hf
  go_enter Tryd.func17, Tryd.ntmps17
  go_wp2_with (go_at_call 53; refine k.mono ?_; clear k; rintro e w1 ⟨rfl, m, rfl⟩)
  go_ret2
  exact ⟨rfl, _, rfl⟩
set_option maxHeartbeats 1000000 in
theorem refadd_yes (b g c n : Nat) (f v : Int) (L : List Bool) (W : World) (h : Ref W b g c f L) (hz : Rz f L) (hn : v - f = (n : Int)) (hn2 : n < L.length) (t : Bool) (ht : (lat L n != true) = t) :
    Calls Tryd.prog 17 #[.pointer (some ⟨b, 0, none⟩), .int .i64 v] W fun e w' => e = .returned (.tuple #[.bool t, .int .i64 0]) ∧ ∃ m, w' = (W.setCell ⟨g, n, none⟩ (.bool true)).drewN m := by
  have k := reffits_any b g c f v L W h hz
  rw [fitB_yes ⟨by omega, by omega⟩] at k
  have k2 := fun m => refput_any b g c n f v true L (W.drewN m) (h.drawn m) hz hn hn2
  simp only [ht] at k2
  clear h hz ht
  go_enter Tryd.func17, Tryd.ntmps17
  go_wp2_with fail
  refine k.mono ?_
  rintro e w1 ⟨rfl, m, rfl⟩
  go_wp2_with fail
  refine (k2 m).mono ?_
  rintro e w1 ⟨rfl, m2, rfl⟩
  clear k k2
  go_wp2
  go_ret2
  exact ⟨rfl, m + m2, turned W _ _ m m2⟩
set_option maxHeartbeats 1000000 in
theorem refdel_no (b g c : Nat) (f v : Int) (L : List Bool) (W : World) (h : Ref W b g c f L) (hz : Rz f L) (hf : ¬ (f ≤ v ∧ v < f + L.length)) :
    Calls Tryd.prog 19 #[.pointer (some ⟨b, 0, none⟩), .int .i64 v] W fun e w' => e = .returned (.tuple #[.bool false, .int .i64 0]) ∧ ∃ m, w' = W.drewN m := by
  have k := reffits_any b g c f v L W h hz
  rw [fitB_no hf] at k
  clear h hz hf
  go_enter Tryd.func19, Tryd.ntmps19
  go_wp2_with (go_at_call 53; refine k.mono ?_; clear k; rintro e w1 ⟨rfl, m, rfl⟩)
  go_ret2
  exact ⟨rfl, _, rfl⟩
set_option maxHeartbeats 1000000 in
theorem refdel_yes (b g c n : Nat) (f v : Int) (L : List Bool) (W : World) (h : Ref W b g c f L) (hz : Rz f L) (hn : v - f = (n : Int)) (hn2 : n < L.length) (t : Bool) (ht : (lat L n != false) = t) :
    Calls Tryd.prog 19 #[.pointer (some ⟨b, 0, none⟩), .int .i64 v] W fun e w' => e = .returned (.tuple #[.bool t, .int .i64 0]) ∧ ∃ m, w' = (W.setCell ⟨g, n, none⟩ (.bool false)).drewN m := by
  have k := reffits_any b g c f v L W h hz
  rw [fitB_yes ⟨by omega, by omega⟩] at k
  have k2 := fun m => refput_any b g c n f v false L (W.drewN m) (h.drawn m) hz hn hn2
  simp only [ht] at k2
  clear h hz ht
  go_enter Tryd.func19, Tryd.ntmps19
  go_wp2_with fail
  refine k.mono ?_
  rintro e w1 ⟨rfl, m, rfl⟩
  go_wp2_with fail
  refine (k2 m).mono ?_
  rintro e w1 ⟨rfl, m2, rfl⟩
  clear k k2
  go_wp2
  go_ret2
  exact ⟨rfl, m + m2, turned W _ _ m m2⟩

/-- The first k places gone through: those that p does not keep are taken away. -/
def prt (p : Nat → Bool) (L : List Bool) (k : Nat) : List Bool := opL (fun i => if i < k then lat L i && p i else lat L i) L.length
def dif (p : Nat → Bool) (L : List Bool) (k : Nat) : Bool := (List.range k).any fun i => lat L i && !p i
theorem prt_len (p : Nat → Bool) (L : List Bool) (k : Nat) : (prt p L k).length = L.length := opL_len _ _
theorem prt_lat (p : Nat → Bool) (L : List Bool) (k i : Nat) (hi : i < L.length) : lat (prt p L k) i = if i < k then lat L i && p i else lat L i := opL_lat _ _ _ hi
theorem prt_zero (p : Nat → Bool) (L : List Bool) : prt p L 0 = L := lat_ext (prt_len _ _ _) (fun i hi => by rw [prt_len] at hi; rw [prt_lat _ _ _ _ hi, if_neg (by omega)])
theorem prt_at (p : Nat → Bool) (L : List Bool) (k : Nat) (hk : k < L.length) : lat (prt p L k) k = lat L k := by rw [prt_lat _ _ _ _ hk, if_neg (by omega)]
theorem prt_keep (p : Nat → Bool) (L : List Bool) (k : Nat) (h : (lat L k && p k) = lat L k) : prt p L (k + 1) = prt p L k := lat_ext (by rw [prt_len, prt_len]) (fun i hi => by
  rw [prt_len] at hi
  rw [prt_lat _ _ _ _ hi, prt_lat _ _ _ _ hi]
  by_cases e : i = k
  · subst e; rw [if_pos (by omega), if_neg (by omega)]; exact h
  · by_cases e2 : i < k
    · rw [if_pos (by omega), if_pos e2]
    · rw [if_neg (by omega), if_neg e2])
theorem prt_set (p : Nat → Bool) (L : List Bool) (k : Nat) (hk : k < L.length) (h : p k = false) : (prt p L k).set k false = prt p L (k + 1) := lat_ext (by rw [List.length_set, prt_len, prt_len]) (fun i hi => by
  rw [List.length_set, prt_len] at hi
  rw [lat_set _ _ _ _ (by rw [prt_len]; exact hk), prt_lat _ _ _ _ hi, prt_lat _ _ _ _ hi]
  by_cases e : k = i
  · subst e; rw [if_pos rfl, if_pos (by omega), h]; simp
  · rw [if_neg e]
    by_cases e2 : i < k
    · rw [if_pos e2, if_pos (by omega)]
    · rw [if_neg e2, if_neg (by omega)])
theorem prt_end (p : Nat → Bool) (L : List Bool) : prt p L L.length = opL (fun i => lat L i && p i) L.length := lat_ext (by rw [prt_len, opL_len]) (fun i hi => by
  rw [prt_len] at hi
  rw [prt_lat _ _ _ _ hi, opL_lat _ _ _ hi, if_pos hi])
theorem dif_succ (p : Nat → Bool) (L : List Bool) (k : Nat) : dif p L (k + 1) = (dif p L k || (lat L k && !p k)) := by unfold dif; rw [List.range_succ, List.any_append]; simp
theorem dif_end (p : Nat → Bool) (L : List Bool) : dif p L L.length = decide (opL (fun i => lat L i && p i) L.length ≠ L) := by
  by_cases h : opL (fun i => lat L i && p i) L.length = L
  · have : dif p L L.length = false := by
      unfold dif
      rw [List.any_eq_false]
      intro i hi
      rw [List.mem_range] at hi
      have h2 : lat (opL (fun i => lat L i && p i) L.length) i = lat L i := by rw [h]
      rw [opL_lat _ _ _ hi] at h2
      cases e1 : lat L i <;> cases e2 : p i <;> simp_all
    rw [this]; simp [h]
  · have : dif p L L.length = true := by
      apply Classical.byContradiction
      intro hno
      have hno' : dif p L L.length = false := by simpa using hno
      unfold dif at hno'
      rw [List.any_eq_false] at hno'
      apply h
      refine lat_ext (opL_len _ _) (fun i hi => ?_)
      rw [opL_len] at hi
      rw [opL_lat _ _ _ hi]
      have := hno' i (List.mem_range.2 hi)
      cases e1 : lat L i <;> cases e2 : p i <;> simp_all
    rw [this]; simp [h]

set_option maxRecDepth 100000 in
set_option maxHeartbeats 4000000 in
theorem refand_other (b g c ob og oc : Nat) (f of : Int) (L oL : List Bool) (h : Int → Bool) (W : World) (hR : Ref W b g c f L) (hz : Rz f L) (hO : Ref W ob og oc of oL) (hzo : Rz of oL) (hne : ob ≠ g ∧ og ≠ g) (hh : ∀ v, (fitB of oL.length v && lat oL (v - of).toNat) = h v) (n₀ : Nat) (hn₀ : n₀ ≤ g) :
    Calls Tryd.prog 55 #[.pointer (some ⟨b, 0, none⟩), .pointer (some ⟨ob, 0, none⟩)] W fun e w' => e = .returned (.bool (decide (opL (fun i => lat L i && h (f + (i : Int))) L.length ≠ L))) ∧ Ref w' b g c f (opL (fun i => lat L i && h (f + (i : Int))) L.length) ∧ Below n₀ W w' ∧ (∀ B, B ≠ g → w'.heap[B]? = W.heap[B]?) := by
  have z1 := hz.lo; have z2 := hz.one; have z3 := hz.most; have z4 := hz.hi
  have kh := fun wr (hoff : ∀ B, B ≠ g → wr.heap[B]? = W.heap[B]?) v => refhas_any ob og oc of v oL wr (hO.keep (hoff ob hne.1) (hoff og hne.2)) hzo
  simp only [hh] at kh
  obtain ⟨p, hp⟩ : ∃ p : Nat → Bool, (fun i : Nat => h (f + (i : Int))) = p := ⟨_, rfl⟩
  have hpk : ∀ k : Nat, h (f + (k : Int)) = p k := fun k => by rw [← hp]
  have he := dif_end p L
  have he2 := prt_end p L
  have hL' : opL (fun i => lat L i && h (f + (i : Int))) L.length = opL (fun i => lat L i && p i) L.length := by simp only [hpk]
  rw [hL', ← he, ← he2]
  have h0 : Ref W b g c f (prt p L 0) := by rw [prt_zero]; exact hR
  obtain ⟨n, hn⟩ : ∃ n, L.length = n := ⟨_, rfl⟩
  have HN : Hid (L.length = n) := hn
  have HPK : Hid (∀ k : Nat, h (f + (k : Int)) = p k) := hpk
  have KH : Hid _ := kh
  rw [hn] at z2 z3 z4 ⊢
  clear hn he he2 hp hL' hpk hR hz hO hzo hh kh hne
  go_enter Tryd.func55, Tryd.ntmps55
  go_wp2
  go_loopw [5, 6, 7] (fun a i _ wr => ∃ k : Nat, k ≤ n ∧ i = .int .i64 k ∧ a = .bool (dif p L k) ∧ Ref wr b g c f (prt p L k) ∧ Below n₀ W wr ∧ (∀ B, B ≠ g → wr.heap[B]? = W.heap[B]?)) (fun _ i _ _ => n - (intOf i).toNat)
  case atStart => exact ⟨0, Nat.zero_le _, rfl, rfl, h0, Below.refl _ _, fun _ _ => rfl⟩
  case round =>
    obtain ⟨k, hk, rfl, rfl, hB, hbl, hoff⟩ := hrel
    have d0 := hB.c0
    have d1 := hB.c1
    rw [prt_len, HN.out] at d1
    by_cases hlt : k < n
    · have hkl : k < L.length := by rw [HN.out]; exact hlt
      obtain ⟨dw, fw⟩ := hB.cw k (by rw [prt_len]; exact hkl)
      rw [prt_at p L k hkl] at dw
      have k1 := KH.out wr hoff (f + (k : Int))
      rw [HPK.out k] at k1
      have hlt' : (k : Int) < (n : Int) := by omega
      have HD := dif_succ p L k
      obtain ⟨t, ht⟩ : ∃ t, dif p L k = t := ⟨_, rfl⟩
      rw [ht] at HD ⊢
      cases e1 : lat L k
      · have hkp := prt_keep p L k (by rw [e1]; rfl)
        rw [e1] at dw HD
        have HKP : Hid (prt p L (k + 1) = prt p L k) := hkp
        have HD' : Hid (dif p L (k + 1) = t) := by unfold Hid; rw [HD]; simp
        have HB : Hid (Ref wr b g c f (prt p L k)) := hB
        clear hkp HD ht k1 hkl e1 hB
        go_wp2
        go_roundw
        case rel => exact ⟨k + 1, by omega, by go_num, by rw [HD'.out], by rw [HKP.out]; exact HB.out, hbl, hoff⟩
        case measure => simp [intOf]; omega
      · rw [e1] at dw HD
        cases e2 : p k
        · have hst := hB.set k false
          rw [prt_set p L k hkl e2] at hst
          rw [e2] at k1 HD
          have HST : Hid (Ref (wr.setCell ⟨g, k, none⟩ (.bool false)) b g c f (prt p L (k + 1))) := hst
          have HD' : Hid (dif p L (k + 1) = true) := by unfold Hid; rw [HD]; simp
          clear hst HD ht hkl e1 e2 hB
          go_wp2_with (go_at_call 50; refine k1.mono ?_; clear k1; rintro e w1 ⟨rfl, m1, rfl⟩)
          go_roundw
          case rel => exact ⟨k + 1, by omega, by go_num, by rw [HD'.out], HST.out, (below_drewN hbl m1).setCell (p := ⟨g, k, none⟩) hn₀ _, fun B hB' => (Below.heap_setCell _ _ _ B hB').trans (hoff B hB')⟩
          case measure => simp [intOf]; omega
        · have hkp := prt_keep p L k (by rw [e1, e2]; rfl)
          rw [e2] at k1 HD
          have HKP : Hid (prt p L (k + 1) = prt p L k) := hkp
          have HD' : Hid (dif p L (k + 1) = t) := by unfold Hid; rw [HD]; simp
          have HB : Hid (Ref wr b g c f (prt p L k)) := hB
          clear hkp HD ht hkl e1 e2 hB
          go_wp2_with (go_at_call 50; refine k1.mono ?_; clear k1; rintro e w1 ⟨rfl, m1, rfl⟩)
          go_roundw
          case rel => exact ⟨k + 1, by omega, by go_num, by rw [HD'.out], by rw [HKP.out]; exact HB.out, below_drewN hbl m1, hoff⟩
          case measure => simp [intOf]; omega
    · obtain rfl : k = n := by omega
      go_wp2
      go_ret
      exact ⟨rfl, hB, hbl, hoff⟩
end Go.Proofs.YtgcgomofmicchaaDoor
