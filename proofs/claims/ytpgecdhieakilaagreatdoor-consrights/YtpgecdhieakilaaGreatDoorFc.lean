/-
  What is proved here: slices.IsSorted of numbers; isSet.
-/
import Derived.Test.YtpgecdhieakilaaGreatDoorDvj
import Derived.Test.YtpgecdhieakilaaGreatDoorZNaj
import Derived.Test.YtpgecdhieakilaaGreatDoorZXfj
namespace Go.Proofs.YtpgecdhieakilaaGreatDoor
open Go.RowKit Go.Shelf
set_option linter.unusedVariables false
set_option linter.unusedSimpArgs false

set_option maxRecDepth 100000 in
set_option maxHeartbeats 4000000 in
theorem nan155 (x : Int) (W : World) : Calls Tryz.prog 155 #[.int .i64 x] W fun e w' => e = .returned (.bool false) ∧ w' = W := by
  go_enter Tryz.func155, Tryz.ntmps155
  go_wp2
  go_ret
  exact ⟨by simp, rfl⟩

set_option maxRecDepth 100000 in
set_option maxHeartbeats 4000000 in
theorem less136 (x y : Int) (W : World) : Calls Tryz.prog 136 #[.int .i64 x, .int .i64 y] W fun e w' => e = .returned (.bool (decide (x < y))) ∧ w' = W := by
  by_cases h : x < y <;>
  · go_enter Tryz.func136, Tryz.ntmps136
    go_wp2_with fail
    refine (nan155 x _).mono ?_
    rintro e w1 ⟨rfl, rfl⟩
    go_wp2
    go_ret
    exact ⟨by simp [h], rfl⟩
/-- Does each number follow the one before it? -/
def stepB (l : List Int) (j : Nat) : Bool := match l[j]?, l[j - 1]? with | some x, some y => decide (j = 0) || !decide (x < y) | _, _ => true
def srtB (l : List Int) (i : Nat) : Bool := (List.range (l.length - i)).all fun q => stepB l (i + q)
theorem srtB_step {l : List Int} {i : Nat} (hi : i < l.length) : srtB l i = (stepB l i && srtB l (i + 1)) := by
  unfold srtB
  obtain ⟨m, hm⟩ : ∃ m, l.length - i = m + 1 := ⟨l.length - i - 1, by omega⟩
  rw [hm, show l.length - (i + 1) = m by omega, List.range_succ_eq_map, List.all_cons, List.all_map]
  congr 1
  congr 1
  funext q
  simp only [Function.comp]
  rw [show i + q.succ = i + 1 + q by omega]

set_option maxRecDepth 100000 in
set_option maxHeartbeats 4000000 in
theorem sorted123 {B : Nat} {W : World} {s : Value} {l : List Int} (h : Si B W s l) (hz : l.length ≤ 64) :
    Calls Tryz.prog 123 #[s] W fun e w' => e = .returned (.bool (srtB l 0)) ∧ Below W.heap.size W w' := by
  obtain ⟨a1, c1, rfl, h1'⟩ := h
  have H1 : Hid (Si B W (.slice a1 l.length c1) l) := ⟨_, _, rfl, h1'⟩
  clear h1'
  obtain ⟨n, hn⟩ : ∃ n, l.length = n := ⟨_, rfl⟩
  rw [hn] at hz H1 ⊢
  have HN : Hid (l.length = n) := hn
  have HS0 : Hid (0 < n → srtB l 0 = srtB l 1) := fun h0 => by
    rw [srtB_step (by omega)]
    have : stepB l 0 = true := by unfold stepB; rw [List.getElem?_eq_getElem (by omega)]; simp
    rw [this]; rfl
  have HSN : Hid (srtB l n = true) := (by unfold srtB; rw [hn]; simp : srtB l n = true)
  clear hn
  by_cases hn0 : n = 0
  · subst hn0
    have HE : Hid (srtB l 0 = true) := HSN
    go_enter Tryz.func123, Tryz.ntmps123
    go_wp2
    go_loopw [3] (fun i wr => i = .int .i64 (-1) ∧ wr = W) (fun i _ => 0)
    case atStart => exact ⟨by go_num, rfl⟩
    case round =>
      obtain ⟨rfl, rfl⟩ := hrel
      go_wp2
      go_ret
      exact ⟨by rw [HE.out]; rfl, Below.refl _ _⟩
  · have hw0 : IntKind.i64.wrap ((n : Int) - 1) = (n : Int) - 1 := by rw [IntKind.wrap_i64]; omega
    go_enter Tryz.func123, Tryz.ntmps123
    go_wp2
    go_loopw [3] (fun i wr => ∃ k : Nat, k < n ∧ i = .int .i64 (k : Int) ∧ Hid (srtB l (k + 1) = true) ∧ Hid (Below W.heap.size W wr)) (fun i _ => (intOf i).toNat)
    case atStart => exact ⟨n - 1, by omega, by rw [show ((n - 1 : Nat) : Int) = (n : Int) - 1 by omega], by rw [show n - 1 + 1 = n by omega]; exact HSN, Below.refl _ _⟩
    case round =>
      obtain ⟨kp, hk, rfl, HQ, HB⟩ := hrel
      rcases Nat.eq_zero_or_pos kp with rfl | hpos
      · have HE : Hid (srtB l 0 = true) := by rw [Hid, HS0.out (by omega)]; exact HQ.out
        go_wp2
        go_ret
        exact ⟨by rw [HE.out]; rfl, HB.out⟩
      · obtain ⟨k, hk1⟩ : ∃ k, kp = k + 1 := ⟨kp - 1, by omega⟩
        have HK1 : Hid (kp = k + 1) := hk1
        have hlt' : (0 : Int) < (kp : Int) := by omega
        have hkn : (kp : Int) < n := by omega
        have hkn2 : (k : Int) < n := by omega
        have hw2 : IntKind.i64.wrap ((kp : Int) - 1) = (k : Int) := by rw [IntKind.wrap_i64]; omega
        obtain ⟨x, hx⟩ : ∃ x, l[kp]? = some x := ⟨_, List.getElem?_eq_getElem (by rw [HN.out]; exact hk)⟩
        obtain ⟨y, hy⟩ : ∃ x, l[k]? = some x := ⟨_, List.getElem?_eq_getElem (by rw [HN.out]; omega)⟩
        have HST : Hid (stepB l kp = !decide (x < y)) := by rw [Hid]; unfold stepB; rw [hx, hk1, Nat.add_sub_cancel, hy]; simp
        have HKL : Hid (kp < l.length) := by rw [Hid, HN.out]; exact hk
        have HSF : Hid (stepB l kp = false → srtB l 0 = false) := fun e => by
          unfold srtB
          rw [List.all_eq_false]
          exact ⟨kp, by rw [HN.out]; simp; omega, by rw [Nat.zero_add, e]; simp⟩
        have hkk : k < n := by omega
        obtain ⟨b1, o1, rfl, hb1, d1⟩ := H1.out.at hx
        obtain ⟨b2, o2, e2, hb2, d2⟩ := H1.out.at hy
        injection e2 with e2
        injection e2 with e3 e4
        subst e3; subst e4
        clear hx hy hb2 hk1
        go_upto_region 4 with (fail)
        have hB : Below W.heap.size W wr.drew := Below.drew HB.out
        refine wp_region_held_drew (S := (fun w' => w'.cell? ⟨b1, o1 + kp, none⟩ = some (.int .i64 x) ∧ w'.cell? ⟨b1, o1 + k, none⟩ = some (.int .i64 y))) (by kernel_rfl) (⟨(hB.cell (p := ⟨b1, o1 + kp, none⟩) hb1).trans d1, (hB.cell (p := ⟨b1, o1 + k, none⟩) hb1).trans d2⟩) (fun hHeld => ?_)
        refine wpAnyH_take (i := 0) (oi := { dst := some 11, op := Go.Op.move (Go.Operand.tmp 0), type := 42, pos := "sort.go:44", after := #[], guard := none }) (v := ?_) rfl (by kernel_rfl) (by kernel_rfl) (by kernel_rfl) (fun _ _ _ h => h) (Or.inl ⟨by rfl, ?_⟩) hHeld ?_
        rotate_left
        · intro w hSw; (try dsimp only at hSw); go_simp <;> with_reducible rfl
        try simp only [Act.put, List.setIfInBounds_toArray, List.set_cons_zero, List.set_cons_succ]
        refine wpAnyH_take (i := 1) (oi := { dst := some 12, op := Go.Op.move (Go.Operand.tmp 3), type := 3, pos := "sort.go:44", after := #[], guard := none }) (v := ?_) rfl (by kernel_rfl) (by kernel_rfl) (by kernel_rfl) (fun _ _ _ h => h) (Or.inl ⟨by rfl, ?_⟩) hHeld ?_
        rotate_left
        · intro w hSw; (try dsimp only at hSw); go_simp <;> with_reducible rfl
        try simp only [Act.put, List.setIfInBounds_toArray, List.set_cons_zero, List.set_cons_succ]
        refine wpAnyH_take (i := 2) (oi := { dst := some 13, op := Go.Op.indexAddr 42 (Go.Operand.tmp 11) (Go.Operand.tmp 12), type := 0, pos := "sort.go:44", after := #[{ on := 0, ground := Go.Ground.data }, { on := 1, ground := Go.Ground.data }], guard := none }) (v := ?_) rfl (by kernel_rfl) (by kernel_rfl) (by kernel_rfl) (fun _ _ _ h => h) (Or.inl ⟨by rfl, ?_⟩) hHeld ?_
        rotate_left
        · intro w hSw; (try dsimp only at hSw); go_simp <;> with_reducible rfl
        try simp only [Act.put, List.setIfInBounds_toArray, List.set_cons_zero, List.set_cons_succ]
        refine wpAnyH_take (i := 3) (oi := { dst := some 14, op := Go.Op.load 2 (Go.Operand.tmp 13), type := 2, pos := "sort.go:44", after := #[{ on := 2, ground := Go.Ground.data }], guard := none }) (v := ?_) rfl (by kernel_rfl) (by kernel_rfl) (by kernel_rfl) (fun _ _ _ h => h) (Or.inl ⟨by rfl, ?_⟩) hHeld ?_
        rotate_left
        · intro w hSw; obtain ⟨y0, y1⟩ := hSw; go_simp <;> with_reducible rfl
        try simp only [Act.put, List.setIfInBounds_toArray, List.set_cons_zero, List.set_cons_succ]
        refine wpAnyH_take (i := 4) (oi := { dst := some 15, op := Go.Op.move (Go.Operand.tmp 0), type := 42, pos := "sort.go:44", after := #[], guard := none }) (v := ?_) rfl (by kernel_rfl) (by kernel_rfl) (by kernel_rfl) (fun _ _ _ h => h) (Or.inl ⟨by rfl, ?_⟩) hHeld ?_
        rotate_left
        · intro w hSw; (try dsimp only at hSw); go_simp <;> with_reducible rfl
        try simp only [Act.put, List.setIfInBounds_toArray, List.set_cons_zero, List.set_cons_succ]
        refine wpAnyH_take (i := 5) (oi := { dst := some 16, op := Go.Op.move (Go.Operand.tmp 3), type := 3, pos := "sort.go:44", after := #[], guard := none }) (v := ?_) rfl (by kernel_rfl) (by kernel_rfl) (by kernel_rfl) (fun _ _ _ h => h) (Or.inl ⟨by rfl, ?_⟩) hHeld ?_
        rotate_left
        · intro w hSw; (try dsimp only at hSw); go_simp <;> with_reducible rfl
        try simp only [Act.put, List.setIfInBounds_toArray, List.set_cons_zero, List.set_cons_succ]
        refine wpAnyH_take (i := 6) (oi := { dst := some 17, op := Go.Op.binOp Go.BinOp.sub 3 (Go.Operand.tmp 16) (Go.Operand.const (Go.Value.int Go.IntKind.i64 1)) 3, type := 3, pos := "sort.go:44", after := #[{ on := 5, ground := Go.Ground.data }], guard := none }) (v := ?_) rfl (by kernel_rfl) (by kernel_rfl) (by kernel_rfl) (fun _ _ _ h => h) (Or.inl ⟨by rfl, ?_⟩) hHeld ?_
        rotate_left
        · intro w hSw; (try dsimp only at hSw); go_simp <;> with_reducible rfl
        try simp only [Act.put, List.setIfInBounds_toArray, List.set_cons_zero, List.set_cons_succ]
        refine wpAnyH_take (i := 7) (oi := { dst := some 18, op := Go.Op.indexAddr 42 (Go.Operand.tmp 15) (Go.Operand.tmp 17), type := 0, pos := "sort.go:44", after := #[{ on := 4, ground := Go.Ground.data }, { on := 6, ground := Go.Ground.data }], guard := none }) (v := ?_) rfl (by kernel_rfl) (by kernel_rfl) (by kernel_rfl) (fun _ _ _ h => h) (Or.inl ⟨by rfl, ?_⟩) hHeld ?_
        rotate_left
        · intro w hSw; (try dsimp only at hSw); go_simp <;> with_reducible rfl
        try simp only [Act.put, List.setIfInBounds_toArray, List.set_cons_zero, List.set_cons_succ]
        refine wpAnyH_take (i := 8) (oi := { dst := some 19, op := Go.Op.load 2 (Go.Operand.tmp 18), type := 2, pos := "sort.go:44", after := #[{ on := 7, ground := Go.Ground.data }], guard := none }) (v := ?_) rfl (by kernel_rfl) (by kernel_rfl) (by kernel_rfl) (fun _ _ _ h => h) (Or.inl ⟨by rfl, ?_⟩) hHeld ?_
        rotate_left
        · intro w hSw; obtain ⟨y0, y1⟩ := hSw; go_simp <;> with_reducible rfl
        try simp only [Act.put, List.setIfInBounds_toArray, List.set_cons_zero, List.set_cons_succ]
        refine wpAnyH_ready (rs := [9]) (by kernel_rfl) (by simp) ?_
        refine AllReadyH.cons rfl (fun K hK => ?_) AllReadyH.nil
        go_simp
        refine (less136 x y _).mono ?_
        rintro e w4 ⟨rfl, rfl⟩
        refine hK.out _ _ (⟨(hB.cell (p := ⟨b1, o1 + kp, none⟩) hb1).trans d1, (hB.cell (p := ⟨b1, o1 + k, none⟩) hb1).trans d2⟩) (fun hHeld2 => ?_)
        clear hK K hHeld
        have hHeld := hHeld2
        clear hHeld2
        try simp only [Act.put, List.setIfInBounds_toArray, List.set_cons_zero, List.set_cons_succ]
        refine wpAnyH_done (by kernel_rfl) ?_ _
        have HB9 : Hid _ := hB
        clear hB
        by_cases hxy : x < y
        · have HF : Hid (srtB l 0 = false) := HSF.out (by rw [HST.out]; simp [hxy])
          go_wp2
          go_ret
          exact ⟨by rw [HF.out]; simp [hxy], HB9.out⟩
        · have HT : Hid (srtB l (k + 1) = true) := by have h8 := srtB_step HKL.out; rw [HST.out, HQ.out] at h8; rw [Hid, ← HK1.out, h8]; simp [hxy]
          go_wp2
          go_roundw
          case rel => exact ⟨k, hkk, by go_num, HT, HB9⟩
          case measure => have := HK1.out; simp [intOf]; omega
/-- Are all of them from -1000000 to 1000000? -/
def inbL (l : List Int) : Bool := l.all fun x => decide (-1000000 ≤ x) && decide (x ≤ 1000000)
theorem bad_singles (l : List Int) : Dm.bad (Dm.singles l) ↔ inbL l = false := by
  unfold Dm.bad Dm.singles inbL
  rw [List.all_eq_false]
  constructor
  · rintro ⟨r, hr, _, h⟩
    obtain ⟨x, hx, rfl⟩ := List.mem_map.1 hr
    exact ⟨x, hx, by simp at h ⊢; omega⟩
  · rintro ⟨x, hx, h⟩
    exact ⟨(x, x), List.mem_map.2 ⟨x, hx, rfl⟩, Int.le_refl _, by simp at h ⊢; omega⟩
theorem nf_right {l : List Int} (h : inbL l = true) (hl : (Dm.nf (Dm.singles l)).length ≤ 4096) : Dm.Right (Dm.nf (Dm.singles l)) := by
  obtain ⟨ho, hv⟩ := Dm.nf_facts (Dm.singles l)
  have hb : ∀ v ∈ Dm.vals (Dm.nf (Dm.singles l)), -1000000 ≤ v ∧ v ≤ 1000000 := by
    intro v hv1
    have h2 := (hv v).1 hv1
    unfold Dm.vals Dm.singles at h2
    rw [List.mem_flatMap] at h2
    obtain ⟨r, hr, h3⟩ := h2
    obtain ⟨x, hx, rfl⟩ := List.mem_map.1 hr
    have h4 := List.all_eq_true.1 h x hx
    have h5 := (Dm.vals_cons (x, x) [] v).1 (by unfold Dm.vals; simpa using h3)
    simp [Dm.vals] at h5 h4
    omega
  refine Dm.ord_right ho (fun r hr => ?_) hl
  have h1 := ho.1 r hr
  have m1 : r.1 ∈ Dm.vals (Dm.nf (Dm.singles l)) := by
    rw [Dm.mem_vals]
    obtain ⟨i, hi, rfl⟩ := List.mem_iff_getElem.1 hr
    exact ⟨i, hi, by rw [Dm.lo_get _ _ hi]; exact Int.le_refl _, by rw [Dm.hi_get _ _ hi]; exact h1⟩
  have m2 : r.2 ∈ Dm.vals (Dm.nf (Dm.singles l)) := by
    rw [Dm.mem_vals]
    obtain ⟨i, hi, rfl⟩ := List.mem_iff_getElem.1 hr
    exact ⟨i, hi, by rw [Dm.lo_get _ _ hi]; exact h1, by rw [Dm.hi_get _ _ hi]; exact Int.le_refl _⟩
  exact ⟨(hb _ m1).1, (hb _ m2).2⟩
theorem nf_few (l : List Int) : (Dm.nf (Dm.singles l)).length ≤ l.length := by
  unfold Dm.nf
  refine Nat.le_trans (Dm.joinF_len _) ?_
  rw [List.length_mergeSort]
  exact Nat.le_trans (List.length_filter_le _ _) (by rw [Dm.singles_length]; exact Nat.le_refl _)
/-- Is it a set? -/
def isSB (l : List Int) : Bool := decide (l.length ≤ 64) && (inbL l && (srtB l 0 && decide (Dm.sizeR (Dm.nf (Dm.singles l)) = (l.length : Int))))
theorem si_dm {B : Nat} {W : World} {s : Value} {l : List Int} (h : Si B W s l) : Dm.Si W s l := by
  obtain ⟨a, c, e, h⟩ := h
  exact ⟨a, c, e, fun h0 => by obtain ⟨b, off, e1, _, e2, e3⟩ := h h0; exact ⟨b, off, e1, e2, fun i hi => by rw [List.getElem?_eq_getElem hi]; exact e3 i _ (List.getElem?_eq_getElem hi)⟩⟩

set_option maxRecDepth 100000 in
set_option maxHeartbeats 4000000 in
theorem isSet103 {B : Nat} {W : World} {s : Value} {l : List Int} (h : Si B W s l) (hz : l.length ≤ 17592186043904) :
    Calls Tryz.prog 103 #[s] W fun e w' => e = .returned (.bool (isSB l)) ∧ Below W.heap.size W w' := by
  obtain ⟨a1, c1, rfl, h1'⟩ := h
  have H1 : Hid (Si B W (.slice a1 l.length c1) l) := ⟨_, _, rfl, h1'⟩
  clear h1'
  have HE : Hid (isSB l = (decide (l.length ≤ 64) && (inbL l && (srtB l 0 && decide (Dm.sizeR (Dm.nf (Dm.singles l)) = (l.length : Int)))))) := rfl
  obtain ⟨r, hr⟩ : ∃ r, isSB l = r := ⟨_, rfl⟩
  rw [hr] at HE ⊢
  clear hr
  have kD : l.length ≤ 64 → Calls Tryz.prog 122 #[.slice a1 l.length c1] W fun e w' => Dm.NormEnd (Dm.singles l) W e w' := fun h => Dm.domof_any _ l W (si_dm H1.out) (by omega)
  have kS : l.length ≤ 64 → ∀ X, Below W.heap.size W X → Calls Tryz.prog 123 #[.slice a1 l.length c1] X fun e w' => e = .returned (.bool (srtB l 0)) ∧ Below X.heap.size X w' := fun h X hX => sorted123 (H1.out.below hX) h
  have HFW : Hid ((Dm.nf (Dm.singles l)).length ≤ l.length) := nf_few l
  obtain ⟨n, hn⟩ : ∃ n, l.length = n := ⟨_, rfl⟩
  obtain ⟨sr, hsr⟩ : ∃ x, srtB l 0 = x := ⟨_, rfl⟩
  rw [hn, hsr] at HE kS
  rw [hn] at kD HFW hz ⊢
  clear hn hsr H1
  by_cases h64 : n ≤ 64
  · have h64' : ¬ (64 : Int) < n := by omega
    have kD := kD h64
    have KS : Hid _ := kS h64
    rw [decide_eq_true h64, Bool.true_and] at HE
    clear kS
    go_enter Tryz.func103, Tryz.ntmps103
    go_wp2_with fail
    refine kD.mono ?_
    clear kD
    rintro e w1 ⟨v1, c, rfl, hb1, hcase⟩
    have HB1 : Hid (Below W.heap.size W w1) := hb1
    clear hb1
    have hc : (inbL l = false ∧ c = 20 ∧ v1 = .slice none 0 0) ∨ (inbL l = true ∧ c = 0 ∧ Dm.Sr w1 v1 (Dm.nf (Dm.singles l)) ∧ Dm.Right (Dm.nf (Dm.singles l))) := by
      rcases hcase with ⟨q1, q2, q3⟩ | ⟨q1, q2, q3, q4, _⟩ | ⟨q1, q2, q3, q4⟩
      · exact .inl ⟨(bad_singles l).1 q1, q2, q3⟩
      · have hi : inbL l = true := by
          cases hh : inbL l with
          | true => rfl
          | false => exact absurd ((bad_singles l).2 hh) q1
        exact .inr ⟨hi, q2, Dm.own_srl q4, nf_right hi q3⟩
      · have := HFW.out; omega
    clear hcase
    rcases hc with ⟨hi, rfl, rfl⟩ | ⟨hi, rfl, hsr, hR⟩
    · rw [hi] at HE
      go_wp2
      go_ret
      exact ⟨by rw [HE.out]; rfl, HB1.out⟩
    · rw [hi, Bool.true_and] at HE
      have HSR : Hid (Dm.Sr w1 v1 (Dm.nf (Dm.singles l)) ∧ Dm.Right (Dm.nf (Dm.singles l))) := ⟨hsr, hR⟩
      obtain ⟨a9, c9, rfl, _⟩ := hsr
      obtain ⟨m9, hm9⟩ : ∃ x, (Dm.nf (Dm.singles l)).length = x := ⟨_, rfl⟩
      rw [hm9] at HSR ⊢
      clear hR hm9 hi
      go_wp2_with fail
      refine (KS.out w1 HB1.out).mono ?_
      rintro e w2 ⟨rfl, hb2⟩
      have HB2 : Hid (Below W.heap.size W w2) := HB1.out.trans (hb2.mono HB1.out.size)
      have HSR2 : Hid (Dm.Sr w2 (.slice a9 m9 c9) (Dm.nf (Dm.singles l)) ∧ Dm.Right (Dm.nf (Dm.singles l))) := ⟨HSR.out.1.below hb2, HSR.out.2⟩
      clear hb2 HSR
      cases sr with
      | false =>
        go_wp2
        go_ret
        exact ⟨by rw [HE.out]; rfl, HB2.out⟩
      | true =>
        rw [Bool.true_and] at HE
        have kZ := Dm.domsize_yes _ _ w2 HSR2.out.1 (fun i hi => by have := Dm.right_bounds HSR2.out.2 i hi; have h9 := (HSR2.out.2.2 i hi).1; constructor <;> (unfold Dm.Fits; omega)) HSR2.out.2
        obtain ⟨z, hz9⟩ : ∃ z, Dm.sizeR (Dm.nf (Dm.singles l)) = z := ⟨_, rfl⟩
        rw [hz9] at kZ HE
        clear hz9
        go_wp2_with fail
        refine kZ.mono ?_
        clear kZ
        rintro e w3 ⟨rfl, hb3⟩
        have HB3 : Hid (Below W.heap.size W w3) := HB2.out.trans (hb3.mono HB2.out.size)
        clear hb3
        by_cases hzn : z = (n : Int)
        · subst hzn
          go_wp2
          go_ret
          exact ⟨by rw [HE.out]; simp, HB3.out⟩
        · have hq : (z == (n : Int)) = false := by simpa using hzn
          go_wp2
          go_ret
          exact ⟨by rw [HE.out]; simp [hzn], HB3.out⟩
  · have h64' : (64 : Int) < n := by omega
    rw [decide_eq_false h64, Bool.false_and] at HE
    clear kD kS
    go_enter Tryz.func103, Tryz.ntmps103
    go_wp2
    go_ret
    exact ⟨by rw [HE.out]; rfl, Below.refl _ _⟩
end Go.Proofs.YtpgecdhieakilaaGreatDoor
