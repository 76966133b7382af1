/-
  What is proved here: how many elements from a place on must be in (the reference's must).
  What is proved here: what is known of a domain with just one set (mathematics only).
  What is proved here: a domain has one set just where it is fixed (mathematics only).
-/
import Derived.Test.YtghnfnieppfhgaaGreatAa
import Derived.Test.YtghnfnieppfhgaaGreatYUbj
namespace Go.Proofs.YtghnfnieppfhgaaGreat.St
open Go.RowKit Go.Shelf
set_option linter.unusedVariables false
set_option linter.unusedSimpArgs false

/-- How many of up's elements from a place on are in lo. -/
def mn (lo up : List Int) (i : Nat) : Nat := ((up.drop i).filter fun x => lo.contains x).length
theorem mn_end (lo up : List Int) (i : Nat) (h : up.length ≤ i) : mn lo up i = 0 := by unfold mn; rw [List.drop_eq_nil_of_le h]; rfl
theorem mn_step (lo up : List Int) (i : Nat) (h : i < up.length) : mn lo up i = (if lo.contains (nth up i) then 1 else 0) + mn lo up (i + 1) := by
  unfold mn
  rw [List.drop_eq_getElem_cons h]
  have e : nth up i = up[i] := by simp [nth, h]
  rw [e, List.filter_cons]
  cases lo.contains up[i]
  · simp
  · simp; omega
theorem mn_le (lo up : List Int) (i : Nat) : mn lo up i ≤ up.length := by
  unfold mn
  have := List.length_filter_le (fun x => lo.contains x) (up.drop i)
  rw [List.length_drop] at this
  omega

set_option maxRecDepth 100000 in
set_option maxHeartbeats 4000000 in
theorem mustn_any (v : Value) (d : SD) (at0 : Nat) (W : World) (h : Di W v d) (hlo : IsSet d.lo) (hup : d.up.length ≤ 1000) (hat : at0 ≤ 1000) :
    Calls Tryz.prog 121 #[v, .int .i64 (at0 : Int)] W fun e w' => e = .returned (.int .i64 (mn d.lo d.up at0 : Nat)) ∧ Below W.heap.size W w' := by
  obtain ⟨x0a, raa, rna, rca, a1a, n1a, c1a, a2a, n2a, c2a, x4a, x5a, rfl, HEa, HLOa, HUPa⟩ := h.look
  have k26 := fun x X (hX : Below W.heap.size W X) => refin_below x (.slice a1a n1a c1a) d.lo X (HLOa.out.below hX)
  rw [tkS_yes hlo] at k26
  have HN2 : Hid (d.up.length = n2a) := HEa.out.2.2.1
  rw [HN2.out] at hup
  obtain ⟨w0, hW0⟩ : ∃ X, (W.alloc (Obj.cells #[.bool x0a, .slice raa rna rca, .slice a1a n1a c1a, .slice a2a n2a c2a, .int .i64 x4a, .int .i64 x5a] 37)) = X := ⟨_, rfl⟩
  have HW0 : Hid _ := hW0
  have hb0 : Below W.heap.size W w0 := by rw [← hW0]; exact ((Below.refl _ W).alloc (by simp <;> omega) _)
  have HA_0 : Hid (R6 w0 W.heap.size (.bool x0a) (.slice raa rna rca) (.slice a1a n1a c1a) (.slice a2a n2a c2a) (.int .i64 x4a) (.int .i64 x5a)) := by rw [← hW0]; exact (R6.new _ _ _ _ _ _ _)
  clear hW0
  clear h HLOa HEa hlo
  go_enter Tryz.func121, Tryz.ntmps121
  go_upto_region 1 with (fail)
  rw [HW0.out]
  clear HW0
  go_wp2
  go_loopw [5, 6] (fun nn i wr => ∃ k m : Nat, at0 ≤ k ∧ (k ≤ n2a ∨ k = at0) ∧ i = .int .i64 (k : Int) ∧ nn = .int .i64 (m : Int) ∧ Hid (m + mn d.lo d.up k = mn d.lo d.up at0 ∧ Below w0.heap.size w0 wr)) (fun _ i _ => n2a - (intOf i).toNat)
  case atStart => exact ⟨at0, 0, Nat.le_refl _, .inr rfl, rfl, rfl, by simp, Below.refl _ _⟩
  case round =>
    obtain ⟨k, m, hk1, hk2, rfl, rfl, HP⟩ := hrel
    have hR := HA_0.out.below HP.out.2
    obtain ⟨z0, z1, z2, z3, z4, z5⟩ := hR.cells
    by_cases hlt : k < n2a
    · have hlt' : (k : Int) < (n2a : Int) := by omega
      have hup' := HUPa.out
      obtain ⟨p', c', e, hc⟩ := hup'
      rw [HN2.out] at e hc
      injection e with e1 _ e3
      subst e1 e3
      obtain ⟨b, off, rfl, hbl, hcell⟩ := hc (by omega)
      obtain ⟨x, hx⟩ : ∃ x, nth d.up k = x := ⟨_, rfl⟩
      have hst := mn_step d.lo d.up k (by rw [HN2.out]; exact hlt)
      rw [hx] at hst
      have hml := mn_le d.lo d.up at0
      rw [HN2.out] at hml
      have HST : Hid (m + mn d.lo d.up k = mn d.lo d.up at0 ∧ mn d.lo d.up k = (if d.lo.contains x then 1 else 0) + mn d.lo d.up (k + 1) ∧ mn d.lo d.up at0 ≤ n2a) := ⟨HP.out.1, hst, hml⟩
      have hm1 : m ≤ 1000 := by have := HP.out.1; omega
      have hcx : W.cell? ⟨b, off + k, none⟩ = some (.int .i64 x) := by rw [hcell k hlt, hx]
      have hBW : ∀ X, Below wr.heap.size wr X → Below W.heap.size W X := fun X hX => (hb0.trans (HP.out.2.mono hb0.size)).trans (hX.mono ((hb0.trans (HP.out.2.mono hb0.size))).size)
      have HK : ∀ X, Below wr.heap.size wr X → X.cell? ⟨W.heap.size, 2, none⟩ = some (.slice a1a n1a c1a) ∧ X.cell? ⟨W.heap.size, 3, none⟩ = some (.slice (some ⟨b, off, none⟩) n2a c2a) ∧ X.cell? ⟨b, off + k, none⟩ = some (.int .i64 x) := fun X hX => by
        obtain ⟨_, _, c2, c3, _, _⟩ := (hR.below hX).cells
        exact ⟨c2, c3, ((hBW X hX).cell (p := ⟨b, off + k, none⟩) hbl).trans hcx⟩
      have hB0 : Below wr.heap.size wr wr.drew := Below.drew (Below.refl _ _)
      have HB9 : Hid _ := HP.out.2
      clear hx hst hml hcell hc hcx HP hR
      obtain ⟨bb, hbb⟩ : ∃ bo, d.lo.contains x = bo := ⟨_, rfl⟩
      have HBB : Hid (d.lo.contains x = bb) := hbb
      have k26 := k26 x
      rw [hbb] at k26
      clear hbb
      go_upto_region 5 with (fail)
      clear z0 z1 z2 z3 z4 z5
      refine wp_region_held_drew (S := (fun w' => w'.cell? ⟨W.heap.size, 2, none⟩ = some (.slice a1a n1a c1a) ∧ w'.cell? ⟨W.heap.size, 3, none⟩ = some (.slice (some ⟨b, off, none⟩) n2a c2a) ∧ w'.cell? ⟨b, off + k, none⟩ = some (.int .i64 x))) (by kernel_rfl) (HK _ hB0) (fun hHeld => ?_)
      refine tkH 0 ⟨some 15, .fieldAddr 37 (.tmp 2) 3, 0, "ref.go:328", #[], none⟩ (v := ?_) hHeld ?_ ?_
      rotate_left
      · intro w hSw; (try dsimp only at hSw); go_simp <;> with_reducible rfl
      try simp only [Act.put, zS, z0, z1]
      refine tkH 1 ⟨some 16, .load 35 (.tmp 15), 35, "ref.go:328", #[⟨0, .data⟩], none⟩ (v := ?_) hHeld ?_ ?_
      rotate_left
      · intro w hSw; (try dsimp only at hSw); go_simp <;> with_reducible rfl
      try simp only [Act.put, zS, z0, z1]
      refine tkH 2 ⟨some 17, .move (.tmp 6), 3, "ref.go:328", #[], none⟩ (v := ?_) hHeld ?_ ?_
      rotate_left
      · intro w hSw; (try dsimp only at hSw); go_simp <;> with_reducible rfl
      try simp only [Act.put, zS, z0, z1]
      refine tkH 5 ⟨some 20, .fieldAddr 37 (.tmp 2) 2, 0, "ref.go:328", #[], none⟩ (v := ?_) hHeld ?_ ?_
      rotate_left
      · intro w hSw; (try dsimp only at hSw); go_simp <;> with_reducible rfl
      try simp only [Act.put, zS, z0, z1]
      refine tkH 6 ⟨some 21, .load 35 (.tmp 20), 35, "ref.go:328", #[⟨5, .data⟩], none⟩ (v := ?_) hHeld ?_ ?_
      rotate_left
      · intro w hSw; (try dsimp only at hSw); go_simp <;> with_reducible rfl
      try simp only [Act.put, zS, z0, z1]
      refine wpAnyH_ready (rs := [3]) (by kernel_rfl) (by simp) ?_
      refine AllReadyH.cons rfl (fun K hK => ?_) AllReadyH.nil
      go_simp
      refine hK.out _ _ (HK _ hB0) (fun hHeld2 => ?_)
      clear hK K hHeld
      have hHeld := hHeld2
      clear hHeld2
      try simp only [Act.put, zS, z0, z1]
      refine tkH 4 ⟨some 19, .load 2 (.tmp 18), 2, "ref.go:328", #[⟨3, .data⟩], none⟩ (v := ?_) hHeld ?_ ?_
      rotate_left
      · intro w hSw; (try dsimp only at hSw); go_simp <;> with_reducible rfl
      try simp only [Act.put, zS, z0, z1]
      refine wpAnyH_ready (rs := [7]) (by kernel_rfl) (by simp) ?_
      refine AllReadyH.cons rfl (fun K hK => ?_) AllReadyH.nil
      go_simp
      refine (k26 _ (hBW _ hB0)).mono ?_
      rintro e w3 ⟨rfl, hb3⟩
      have hB3 : Below wr.heap.size wr w3 := hB0.trans (hb3.mono hB0.size)
      refine hK.out _ _ (HK _ hB3) (fun hHeld2 => ?_)
      clear hK K hHeld
      have hHeld := hHeld2
      clear hHeld2
      try simp only [Act.put, zS, z0, z1]
      refine wpAnyH_done (by kernel_rfl) ?_ _
      cases bb
      · go_wp2
        go_roundw
        case rel => exact ⟨k + 1, m, by omega, .inl (by omega), by go_num, rfl, by have h9 := HST.out; rw [HBB.out] at h9; simp only [Bool.false_eq_true, if_false] at h9; omega, HB9.out.trans (hB3.mono HB9.out.size)⟩
        case measure => simp [intOf]; omega
      · go_wp2
        go_roundw
        case rel => exact ⟨k + 1, m + 1, by omega, .inl (by omega), by go_num, by go_num, by have h9 := HST.out; rw [HBB.out] at h9; simp only [if_true] at h9; omega, HB9.out.trans (hB3.mono HB9.out.size)⟩
        case measure => simp [intOf]; omega
    · have hlt' : ¬ (k : Int) < (n2a : Int) := by omega
      have HE9 : Hid (m = mn d.lo d.up at0) := by
        have h9 := HP.out.1
        rw [mn_end d.lo d.up k (by rw [HN2.out]; omega)] at h9
        unfold Hid; omega
      go_wp2
      go_ret
      exact ⟨by first | (rw [HE9.out]; done) | (rw [HE9.out]; rfl), hb0.trans (HP.out.2.mono hb0.size)⟩
end Go.Proofs.YtghnfnieppfhgaaGreat.St


namespace Go.Proofs.YtghnfnieppfhgaaGreat.St
open Go.RowKit Go.Shelf
set_option linter.unusedVariables false
set_option linter.unusedSimpArgs false

/-- The domain's only set. -/
structure Uq (d : SD) (S : List Int) : Prop where
  right : RightD d
  least : d.least = S.length
  most : d.most = S.length
  set : IsSet S
  los : ∀ x ∈ d.lo, x ∈ S
  sup : ∀ x ∈ S, x ∈ d.up
  alt : S = d.up ∨ S = d.lo
/-- What of it lies ahead of a place. -/
def hd (S up : List Int) (i : Nat) : List Int := (up.take i).filter fun x => S.contains x
theorem hd_zero (S up : List Int) : hd S up 0 = [] := by simp [hd]
theorem hd_step (S up : List Int) (i : Nat) (h : i < up.length) : hd S up (i + 1) = if S.contains (nth up i) then hd S up i ++ [nth up i] else hd S up i := by
  unfold hd
  rw [List.take_succ_eq_append_getElem h, List.filter_append]
  have e : nth up i = up[i] := by simp [nth, h]
  rw [e, List.filter_cons]
  cases S.contains up[i] <;> simp
theorem filter_set {S up : List Int} (hS : IsSet S) (hu : IsSet up) (h : ∀ x ∈ S, x ∈ up) : (up.filter fun x => S.contains x) = S :=
  set_ext (set_filter hu _) hS fun x => by
    rw [List.mem_filter]
    simp only [List.contains_iff_mem]
    exact ⟨fun g => g.2, fun g => ⟨h x g, g⟩⟩
theorem hd_rest {S up : List Int} (hS : IsSet S) (hu : IsSet up) (h : ∀ x ∈ S, x ∈ up) (i : Nat) : (hd S up i).length + mn S up i = S.length := by
  unfold hd mn
  rw [← List.length_append, ← List.filter_append, List.take_append_drop, filter_set hS hu h]
theorem hd_set {S up : List Int} (hu : IsSet up) (i : Nat) : IsSet (hd S up i) := by
  have hp : (up.take i).Pairwise (· < ·) := (set_pw hu).sublist (List.take_sublist i up)
  have hl := List.length_filter_le (fun x => S.contains x) (up.take i)
  have hl2 := List.length_take_le i up
  have h64 := hu.1
  have hl3 : (up.take i).length ≤ up.length := by rw [List.length_take]; omega
  exact set_of (by unfold hd; omega) (fun x hx => set_mem hu x (List.mem_of_mem_take (List.mem_filter.1 hx).1)) (hp.filter _)
theorem hd_in {S up : List Int} (i : Nat) : ∀ x ∈ hd S up i, x ∈ S := fun x hx => by
  have := (List.mem_filter.1 hx).2
  simpa using this
theorem mn_mono {lo S : List Int} (up : List Int) (h : ∀ x ∈ lo, x ∈ S) (i : Nat) : mn lo up i ≤ mn S up i := by
  unfold mn
  generalize up.drop i = l
  induction l with
  | nil => simp
  | cons x l ih =>
    rw [List.filter_cons, List.filter_cons]
    by_cases hx : x ∈ lo
    · have e1 : lo.contains x = true := by simpa using hx
      have e2 : S.contains x = true := by simpa using h x hx
      simp only [e1, e2, if_true, List.length_cons]; omega
    · have e1 : lo.contains x = false := by simpa using hx
      simp only [e1, Bool.false_eq_true, if_false]
      split
      · simp only [List.length_cons]; omega
      · exact ih
theorem mn_drop (S up : List Int) (i : Nat) : mn S up i ≤ up.length - i := by
  unfold mn
  have := List.length_filter_le (fun x => S.contains x) (up.drop i)
  rw [List.length_drop] at this
  exact this
theorem Uq.len {d : SD} {S : List Int} (h : Uq d S) (i : Nat) : (hd S d.up i).length + mn S d.up i = S.length := hd_rest h.set h.right.2.2.2.1 h.sup i
theorem Uq.found {d : SD} {S : List Int} (h : Uq d S) {i : Nat} (e : (hd S d.up i).length = S.length) : hd S d.up i = S := set_sub_eq (hd_set h.right.2.2.2.1 i) h.set (hd_in i) (by omega)
theorem Uq.has {d : SD} {S : List Int} (h : Uq d S) (i : Nat) : hasD d (hd S d.up i) = decide ((hd S d.up i).length = S.length) := by
  rw [Bool.eq_iff_iff, has_iff, tkS_yes (hd_set h.right.2.2.2.1 i), decide_eq_true_eq]
  have hl := h.len i
  constructor
  · rintro ⟨_, _, _, h3, _⟩
    rw [h.least] at h3
    omega
  · intro e
    rw [h.found e]
    exact ⟨h.right, h.los, h.sup, by rw [h.least]; omega, by rw [h.most]; omega⟩
theorem Uq.goes {d : SD} {S : List Int} (h : Uq d S) {i : Nat} (e : ¬ (hd S d.up i).length = S.length) :
    i < d.up.length ∧ (hd S d.up i).length < S.length ∧ S.length ≤ (hd S d.up i).length + (d.up.length - i) ∧
    (S.contains (nth d.up i) = true → (hd S d.up i).length + 1 + mn d.lo d.up (i + 1) ≤ S.length) ∧
    (S.contains (nth d.up i) = false → S.length < (hd S d.up i).length + 1 + mn d.lo d.up (i + 1) ∧ d.lo.contains (nth d.up i) = false) := by
  have hl := h.len i
  have h1 : i < d.up.length := by
    apply Classical.byContradiction
    intro hn
    rw [mn_end S d.up i (by omega)] at hl
    omega
  have h2 := mn_drop S d.up i
  have h3 := mn_step S d.up i h1
  have h4 := mn_mono d.up h.los (i + 1)
  refine ⟨h1, by omega, by omega, fun hc => ?_, fun hc => ?_⟩
  · rw [hc] at h3
    simp only [if_true] at h3
    omega
  · rw [hc] at h3
    simp only [Bool.false_eq_true, if_false] at h3
    have hn : ¬ nth d.up i ∈ S := by simpa using hc
    have hlo : S = d.lo := by
      rcases h.alt with e | e
      · exact absurd (by rw [e]; simp [nth, h1]) hn
      · exact e
    refine ⟨by rw [← hlo]; omega, by rw [← hlo]; exact hc⟩
theorem Uq.grow {d : SD} {S : List Int} (h : Uq d S) {i : Nat} (e : i < d.up.length) : (S.contains (nth d.up i) = true → hd S d.up (i + 1) = hd S d.up i ++ [nth d.up i]) ∧ (S.contains (nth d.up i) = false → hd S d.up (i + 1) = hd S d.up i) := by
  rw [hd_step S d.up i e]
  exact ⟨fun g => by rw [g]; rfl, fun g => by rw [g]; rfl⟩
end Go.Proofs.YtghnfnieppfhgaaGreat.St


namespace Go.Proofs.YtghnfnieppfhgaaGreat.St
open Go.RowKit Go.Shelf
set_option linter.unusedVariables false
set_option linter.unusedSimpArgs false

theorem ch_pos : ∀ r i, i ≤ r → 1 ≤ ch r i
  | 0, i, h => by
    obtain rfl : i = 0 := by omega
    decide
  | r + 1, i, h => by
    rw [ch]
    split
    · exact ch_pos r 0 (Nat.zero_le _)
    · have h1 := ch_pos r (i - 1) (by omega)
      have h2 := ch_nonneg r i
      omega
theorem ch_two {r i : Nat} (h0 : 0 < i) (h : i < r) : 2 ≤ ch r i := by
  match r, h with
  | r + 1, h =>
    rw [ch, if_neg (by omega)]
    have h1 := ch_pos r (i - 1) (by omega)
    have h2 := ch_pos r i (by omega)
    omega
theorem sm_ge1 {f : Nat → Int} (hf : ∀ i, 0 ≤ f i) {i n : Nat} (h : i < n) : f i ≤ sm f n := by
  have h1 := sm_mono hf (i + 1) (n - (i + 1))
  rw [show i + 1 + (n - (i + 1)) = n by omega] at h1
  have h2 : sm f (i + 1) = sm f i + f i := rfl
  have h3 := sm_nonneg (f := f) i fun j _ => hf j
  omega
theorem sm_ge2 {f : Nat → Int} (hf : ∀ i, 0 ≤ f i) {i j n : Nat} (hij : i < j) (h : j < n) : f i + f j ≤ sm f n := by
  have h1 := sm_mono hf (j + 1) (n - (j + 1))
  rw [show j + 1 + (n - (j + 1)) = n by omega] at h1
  have h2 : sm f (j + 1) = sm f j + f j := rfl
  have h3 := sm_ge1 hf hij
  omega
theorem NS_two {r n : Nat} {least most : Int} (h1 : (n : Int) ≤ least) (h2 : least ≤ most) (h3 : most ≤ (n : Int) + r) (h4 : least < (n : Int) + r) (h5 : (n : Int) < most) : 2 ≤ NS r n least most := by
  unfold NS
  obtain ⟨a, ha⟩ : ∃ a : Nat, least = (n : Int) + a := ⟨(least - n).toNat, by omega⟩
  obtain ⟨b, hb⟩ : ∃ b : Nat, most = (n : Int) + b := ⟨(most - n).toNat, by omega⟩
  subst ha hb
  have hf := nsf_nonneg r n ((n : Int) + a) ((n : Int) + b)
  have ea : nsf r n ((n : Int) + a) ((n : Int) + b) a = ch r a := by unfold nsf; rw [if_pos (by omega)]
  have eb : nsf r n ((n : Int) + a) ((n : Int) + b) b = ch r b := by unfold nsf; rw [if_pos (by omega)]
  by_cases hab : a = b
  · subst hab
    have := sm_ge1 hf (i := a) (n := r + 1) (by omega)
    have h2 := ch_two (r := r) (i := a) (by omega) (by omega)
    omega
  · have := sm_ge2 hf (i := a) (j := b) (n := r + 1) (by omega) (by omega)
    have p1 := ch_pos r a (by omega)
    have p2 := ch_pos r b (by omega)
    omega
theorem NS_one (L : List Int) : NSd (TD L L L.length L.length) = 1 := by
  unfold NSd NS
  simp only [TD, Nat.sub_self]
  show sm (nsf 0 L.length L.length L.length) 1 = 1
  have : sm (nsf 0 L.length L.length L.length) 1 = 0 + nsf 0 L.length L.length L.length 0 := rfl
  rw [this]
  unfold nsf
  rw [if_pos (by omega)]
  rfl
theorem td_empty {L : List Int} (h : IsSet L) : emptyD (TD L L L.length L.length) = false := by
  have hr : RightD (TD L L L.length L.length) := ⟨rfl, rfl, h, h, sub_refl _, .inr ⟨Int.le_refl _, Int.le_refl _, Int.le_refl _⟩⟩
  unfold emptyD
  rw [show rightD (TD L L L.length L.length) = true from decide_eq_true hr]
  simp [TD]
/-- Where Count tells 1, and only there, Fixed tells the set. -/
theorem fixed_one (d : SD) : (countD d = 1 ∧ fixB d = true ∧ Uq d (takenD d).lo) ∨ (countD d ≠ 1 ∧ fixB d = false) := by
  cases he : emptyD d
  · obtain ⟨hr, h1, h2, h3⟩ := empty_no he
    have hs := right_sub hr
    have l1 := hr.2.2.1
    have l2 := hr.2.2.2.1
    have e : takenD d = tightD d.lo d.up d.least d.most := by unfold takenD; rw [if_pos hr]
    rcases tight_cases2 d.least d.most l1 l2 hs with ⟨e', a⟩ | ⟨e', a, b⟩ | ⟨e', a, b, c⟩ | ⟨e', a, b, c, f⟩
    · omega
    · rw [e'] at e
      refine .inl ⟨by rw [count_NS, e, NS_one]; rfl, ?_, ?_⟩
      · unfold fixB; rw [e, td_empty l2]; simp [TD]
      · rw [e]; exact ⟨hr, by show d.least = d.up.length; omega, by show d.most = d.up.length; omega, l2, hs, fun _ h => h, .inl rfl⟩
    · rw [e'] at e
      refine .inl ⟨by rw [count_NS, e, NS_one]; rfl, ?_, ?_⟩
      · unfold fixB; rw [e, td_empty l1]; simp [TD]
      · rw [e]; exact ⟨hr, by show d.least = d.lo.length; omega, by show d.most = d.lo.length; omega, l1, fun _ h => h, hs, .inr rfl⟩
    · refine .inr ⟨?_, ?_⟩
      · rw [count_right hr]
        have h9 : 2 ≤ NSd d := by
          unfold NSd
          exact NS_two h2 h1 (by omega) (by omega) (by omega)
        omega
      · unfold fixB
        have hlo : (takenD d).lo = d.lo := by rw [e, e']; rfl
        have hup : (takenD d).up = d.up := by rw [e, e']; rfl
        have : decide (d.lo.length < d.up.length) = true := by simpa using b
        rw [hlo, hup, this]; simp
  · refine .inr ⟨by rw [count_empty he]; decide, ?_⟩
    unfold fixB
    rw [(empty_yes he).1, empty_none]; rfl
end Go.Proofs.YtghnfnieppfhgaaGreat.St

