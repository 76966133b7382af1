/-
  What is proved here: a domain has one set just where it is fixed (mathematics only).
  What is proved here: the reference's All with the limit 1, where there is one set, and its Fixed.
  What is proved here: the reference's Same of two lists that are alike.
-/
import Derived.Test.YtacnhkaibcjjgaaGreatDoorUfj
import Derived.Test.YtacnhkaibcjjgaaGreatDoorUh
import Derived.Test.YtacnhkaibcjjgaaGreatDoorKmj
namespace Go.Proofs.YtacnhkaibcjjgaaGreatDoor
open Go.RowKit Go.Shelf
set_option linter.unusedVariables false
set_option linter.unusedSimpArgs false

theorem ch_pos : ∀ r i, i ≤ r → 1 ≤ ch r i
  | 0, i, h => by
    obtain rfl : i = 0 := by omega
    decide
  | r + 1, i, h => by
    rw [ch]
    split
    · exact ch_pos r 0 (Nat.zero_le _)
    · have h1 := ch_pos r (i - 1) (by omega)
      have h2 := ch_nonneg r i
      omega
theorem ch_two {r i : Nat} (h0 : 0 < i) (h : i < r) : 2 ≤ ch r i := by
  match r, h with
  | r + 1, h =>
    rw [ch, if_neg (by omega)]
    have h1 := ch_pos r (i - 1) (by omega)
    have h2 := ch_pos r i (by omega)
    omega
theorem sm_ge1 {f : Nat → Int} (hf : ∀ i, 0 ≤ f i) {i n : Nat} (h : i < n) : f i ≤ sm f n := by
  have h1 := sm_mono hf (i + 1) (n - (i + 1))
  rw [show i + 1 + (n - (i + 1)) = n by omega] at h1
  have h2 : sm f (i + 1) = sm f i + f i := rfl
  have h3 := sm_nonneg (f := f) i fun j _ => hf j
  omega
theorem sm_ge2 {f : Nat → Int} (hf : ∀ i, 0 ≤ f i) {i j n : Nat} (hij : i < j) (h : j < n) : f i + f j ≤ sm f n := by
  have h1 := sm_mono hf (j + 1) (n - (j + 1))
  rw [show j + 1 + (n - (j + 1)) = n by omega] at h1
  have h2 : sm f (j + 1) = sm f j + f j := rfl
  have h3 := sm_ge1 hf hij
  omega
theorem NS_two {r n : Nat} {least most : Int} (h1 : (n : Int) ≤ least) (h2 : least ≤ most) (h3 : most ≤ (n : Int) + r) (h4 : least < (n : Int) + r) (h5 : (n : Int) < most) : 2 ≤ NS r n least most := by
  unfold NS
  obtain ⟨a, ha⟩ : ∃ a : Nat, least = (n : Int) + a := ⟨(least - n).toNat, by omega⟩
  obtain ⟨b, hb⟩ : ∃ b : Nat, most = (n : Int) + b := ⟨(most - n).toNat, by omega⟩
  subst ha hb
  have hf := nsf_nonneg r n ((n : Int) + a) ((n : Int) + b)
  have ea : nsf r n ((n : Int) + a) ((n : Int) + b) a = ch r a := by unfold nsf; rw [if_pos (by omega)]
  have eb : nsf r n ((n : Int) + a) ((n : Int) + b) b = ch r b := by unfold nsf; rw [if_pos (by omega)]
  by_cases hab : a = b
  · subst hab
    have := sm_ge1 hf (i := a) (n := r + 1) (by omega)
    have h2 := ch_two (r := r) (i := a) (by omega) (by omega)
    omega
  · have := sm_ge2 hf (i := a) (j := b) (n := r + 1) (by omega) (by omega)
    have p1 := ch_pos r a (by omega)
    have p2 := ch_pos r b (by omega)
    omega
theorem NS_one (L : List Int) : NSd (TD L L L.length L.length) = 1 := by
  unfold NSd NS
  simp only [TD, Nat.sub_self]
  show sm (nsf 0 L.length L.length L.length) 1 = 1
  have : sm (nsf 0 L.length L.length L.length) 1 = 0 + nsf 0 L.length L.length L.length 0 := rfl
  rw [this]
  unfold nsf
  rw [if_pos (by omega)]
  rfl
theorem td_empty {L : List Int} (h : IsSet L) : emptyD (TD L L L.length L.length) = false := by
  have hr : RightD (TD L L L.length L.length) := ⟨rfl, rfl, h, h, sub_refl _, .inr ⟨Int.le_refl _, Int.le_refl _, Int.le_refl _⟩⟩
  unfold emptyD
  rw [show rightD (TD L L L.length L.length) = true from decide_eq_true hr]
  simp [TD]
/-- Where Count tells 1, and only there, Fixed tells the set. -/
theorem fixed_one (d : SD) : (countD d = 1 ∧ fixB d = true ∧ Uq d (takenD d).lo) ∨ (countD d ≠ 1 ∧ fixB d = false) := by
  cases he : emptyD d
  · obtain ⟨hr, h1, h2, h3⟩ := empty_no he
    have hs := right_sub hr
    have l1 := hr.2.2.1
    have l2 := hr.2.2.2.1
    have e : takenD d = tightD d.lo d.up d.least d.most := by unfold takenD; rw [if_pos hr]
    rcases tight_cases2 d.least d.most l1 l2 hs with ⟨e', a⟩ | ⟨e', a, b⟩ | ⟨e', a, b, c⟩ | ⟨e', a, b, c, f⟩
    · omega
    · rw [e'] at e
      refine .inl ⟨by rw [count_NS, e, NS_one]; rfl, ?_, ?_⟩
      · unfold fixB; rw [e, td_empty l2]; simp [TD]
      · rw [e]; exact ⟨hr, by show d.least = d.up.length; omega, by show d.most = d.up.length; omega, l2, hs, fun _ h => h, .inl rfl⟩
    · rw [e'] at e
      refine .inl ⟨by rw [count_NS, e, NS_one]; rfl, ?_, ?_⟩
      · unfold fixB; rw [e, td_empty l1]; simp [TD]
      · rw [e]; exact ⟨hr, by show d.least = d.lo.length; omega, by show d.most = d.lo.length; omega, l1, fun _ h => h, hs, .inr rfl⟩
    · refine .inr ⟨?_, ?_⟩
      · rw [count_right hr]
        have h9 : 2 ≤ NSd d := by
          unfold NSd
          exact NS_two h2 h1 (by omega) (by omega) (by omega)
        omega
      · unfold fixB
        have hlo : (takenD d).lo = d.lo := by rw [e, e']; rfl
        have hup : (takenD d).up = d.up := by rw [e, e']; rfl
        have : decide (d.lo.length < d.up.length) = true := by simpa using b
        rw [hlo, hup, this]; simp
  · refine .inr ⟨by rw [count_empty he]; decide, ?_⟩
    unfold fixB
    rw [(empty_yes he).1, empty_none]; rfl
end Go.Proofs.YtacnhkaibcjjgaaGreatDoor

namespace Go.Proofs.YtacnhkaibcjjgaaGreatDoor
open Go.RowKit Go.Shelf
set_option linter.unusedVariables false
set_option linter.unusedSimpArgs false

theorem Uq.some {d : SD} {S : List Int} (h : Uq d S) : emptyD d = false := by
  unfold emptyD
  rw [show rightD d = true from decide_eq_true h.right, h.least, h.most]
  simp

set_option maxRecDepth 100000 in
set_option maxHeartbeats 4000000 in
theorem all1 (v : Value) (d : SD) (S : List Int) (W : World) (h : Di W v d) (hq : Uq d S) :
    Calls Tryz.prog 48 #[v, .int .i64 1] W fun e w' => ∃ s, e = .returned s ∧ Out1 w' s S ∧ Below W.heap.size W w' := by
  have k43 := fun X (hX : Below W.heap.size W X) => eqc hq.some (refempty_any v d X (h.below hX))
  have k81 := fun X (hX : Below W.heap.size W X) => walk1 (d.up.length - 0) v (.slice none 0 0) d S 0 X (Nat.le_refl _) (h.below hX) (by rw [hd_zero]; exact ⟨none, 0, rfl, fun h0 => absurd h0 (by decide)⟩) hq (Nat.zero_le _)
  rw [show ((0 : Nat) : Int) = 0 from rfl] at k81
  obtain ⟨x0a, raa, rna, rca, a1a, n1a, c1a, a2a, n2a, c2a, x4a, x5a, rfl, HEa, HLOa, HUPa⟩ := h.look
  obtain ⟨w0, hW0⟩ : ∃ X, (W.alloc (Obj.cells #[.bool x0a, .slice raa rna rca, .slice a1a n1a c1a, .slice a2a n2a c2a, .int .i64 x4a, .int .i64 x5a] 37)) = X := ⟨_, rfl⟩
  have HW0 : Hid _ := hW0
  have hb0 : Below W.heap.size W w0 := by rw [← hW0]; exact ((Below.refl _ W).alloc (by simp <;> omega) _)
  have HA_0 : Hid (R6 w0 W.heap.size (.bool x0a) (.slice raa rna rca) (.slice a1a n1a c1a) (.slice a2a n2a c2a) (.int .i64 x4a) (.int .i64 x5a)) := by rw [← hW0]; exact (R6.new _ _ _ _ _ _ _)
  clear hW0
  clear h hq HEa HLOa HUPa
  go_enter Tryz.func48, Tryz.ntmps48
  go_upto_region 1 with (fail)
  rw [HW0.out]
  clear HW0
  obtain ⟨zA0, zA1, zA2, zA3, zA4, zA5⟩ := HA_0.out.cells
  go_wp2_with fail
  refine (k43 w0 hb0).mono ?_
  rintro e w1 ⟨rfl, hb⟩
  have hb1 : Below W.heap.size W w1 := hb0.trans (hb.mono hb0.size)
  have HA_1 : Hid _ := HA_0.out.below hb
  clear zA0 zA1 zA2 zA3 zA4 zA5
  clear hb hb0 HA_0
  obtain ⟨zA0, zA1, zA2, zA3, zA4, zA5⟩ := HA_1.out.cells
  go_wp2_with fail
  refine (k81 w1 hb1).mono ?_
  rintro e w9 ⟨s9, rfl, hO, hb⟩
  have HO : Hid (Out1 w9 s9 S) := hO
  obtain ⟨g8, c8, a8, n8, k8, rfl, _⟩ := hO
  have hb9 : Below W.heap.size W w9 := hb1.trans (hb.mono hb1.size)
  go_wp2
  go_ret
  exact ⟨_, rfl, HO.out, hb9⟩

set_option maxRecDepth 100000 in
set_option maxHeartbeats 4000000 in
theorem reffixed_any (v : Value) (d : SD) (W : World) (h : Di W v d) :
    Calls Tryz.prog 39 #[v] W fun e w' => ∃ p n c, e = .returned (.tuple #[.slice p n c, .bool (fixB d)]) ∧ Hid (Si w' (.slice p n c) (fixL d)) ∧ Below W.heap.size W w' := by
  have k47 := fun X (hX : Below W.heap.size W X) => refcount_any v d X (h.below hX)
  have HL : Hid (fixL d = if fixB d then (takenD d).lo else []) := rfl
  rcases fixed_one d with ⟨e1, e2, hq⟩ | ⟨e1, e2⟩
  · have k48 := fun X (hX : Below W.heap.size W X) => all1 v d _ X (h.below hX) hq
    simp only [e1] at k47
    rw [e2] at HL ⊢
    simp only [if_true] at HL
    generalize fixL d = FL at HL ⊢
    generalize (takenD d).lo = S at *
    obtain ⟨x0a, raa, rna, rca, a1a, n1a, c1a, a2a, n2a, c2a, x4a, x5a, rfl, HEa, HLOa, HUPa⟩ := h.look
    obtain ⟨w0, hW0⟩ : ∃ X, (W.alloc (Obj.cells #[.bool x0a, .slice raa rna rca, .slice a1a n1a c1a, .slice a2a n2a c2a, .int .i64 x4a, .int .i64 x5a] 37)) = X := ⟨_, rfl⟩
    have HW0 : Hid _ := hW0
    have hb0 : Below W.heap.size W w0 := by rw [← hW0]; exact ((Below.refl _ W).alloc (by simp <;> omega) _)
    have HA_0 : Hid (R6 w0 W.heap.size (.bool x0a) (.slice raa rna rca) (.slice a1a n1a c1a) (.slice a2a n2a c2a) (.int .i64 x4a) (.int .i64 x5a)) := by rw [← hW0]; exact (R6.new _ _ _ _ _ _ _)
    clear hW0
    clear h hq HEa HLOa HUPa e1 e2
    go_enter Tryz.func39, Tryz.ntmps39
    go_upto_region 1 with (fail)
    rw [HW0.out]
    clear HW0
    obtain ⟨zA0, zA1, zA2, zA3, zA4, zA5⟩ := HA_0.out.cells
    go_wp2_with fail
    refine (k47 w0 hb0).mono ?_
    rintro e w1 ⟨rfl, hb⟩
    have hb1 : Below W.heap.size W w1 := hb0.trans (hb.mono hb0.size)
    have HA_1 : Hid _ := HA_0.out.below hb
    clear zA0 zA1 zA2 zA3 zA4 zA5
    clear hb hb0 HA_0
    obtain ⟨zA0, zA1, zA2, zA3, zA4, zA5⟩ := HA_1.out.cells
    go_wp2_with fail
    refine (k48 w1 hb1).mono ?_
    rintro e w9 ⟨s9, rfl, hO, hb⟩
    obtain ⟨g8, c8, a8, n8, k8, rfl, hg8, hc8, hs8⟩ := hO
    have HS8 : Hid (Si w9 (.slice a8 n8 k8) S) := hs8
    have hb9 : Below W.heap.size W w9 := hb1.trans (hb.mono hb1.size)
    go_wp2
    go_ret2
    exact ⟨a8, n8, k8, rfl, by rw [HL.out]; exact HS8.out, hb9⟩
  · rw [e2] at HL ⊢
    simp only [Bool.false_eq_true, if_false] at HL
    generalize fixL d = FL at HL ⊢
    have e3 : (countD d == 1) = false := by simpa using e1
    generalize countD d = C at *
    obtain ⟨x0a, raa, rna, rca, a1a, n1a, c1a, a2a, n2a, c2a, x4a, x5a, rfl, HEa, HLOa, HUPa⟩ := h.look
    obtain ⟨w0, hW0⟩ : ∃ X, (W.alloc (Obj.cells #[.bool x0a, .slice raa rna rca, .slice a1a n1a c1a, .slice a2a n2a c2a, .int .i64 x4a, .int .i64 x5a] 37)) = X := ⟨_, rfl⟩
    have HW0 : Hid _ := hW0
    have hb0 : Below W.heap.size W w0 := by rw [← hW0]; exact ((Below.refl _ W).alloc (by simp <;> omega) _)
    have HA_0 : Hid (R6 w0 W.heap.size (.bool x0a) (.slice raa rna rca) (.slice a1a n1a c1a) (.slice a2a n2a c2a) (.int .i64 x4a) (.int .i64 x5a)) := by rw [← hW0]; exact (R6.new _ _ _ _ _ _ _)
    clear hW0
    clear h HEa HLOa HUPa e2
    go_enter Tryz.func39, Tryz.ntmps39
    go_upto_region 1 with (fail)
    rw [HW0.out]
    clear HW0
    obtain ⟨zA0, zA1, zA2, zA3, zA4, zA5⟩ := HA_0.out.cells
    go_wp2_with fail
    refine (k47 w0 hb0).mono ?_
    rintro e w1 ⟨rfl, hb⟩
    have hb1 : Below W.heap.size W w1 := hb0.trans (hb.mono hb0.size)
    have HA_1 : Hid _ := HA_0.out.below hb
    clear zA0 zA1 zA2 zA3 zA4 zA5
    clear hb hb0 HA_0
    obtain ⟨zA0, zA1, zA2, zA3, zA4, zA5⟩ := HA_1.out.cells
    go_wp2
    go_ret2
    exact ⟨none, 0, 0, rfl, by rw [HL.out]; exact ⟨none, 0, rfl, fun h0 => absurd h0 (by decide)⟩, hb1⟩
end Go.Proofs.YtacnhkaibcjjgaaGreatDoor

namespace Go.Proofs.YtacnhkaibcjjgaaGreatDoor
open Go.RowKit Go.Shelf
set_option linter.unusedVariables false
set_option linter.unusedSimpArgs false

set_option maxRecDepth 100000 in
set_option maxHeartbeats 2000000 in
theorem same_yes (s1 s2 : Value) (l : List Int) (W : World) (h1 : Si W s1 l) (h2 : Si W s2 l) (hl : l.length ≤ 100000) :
    Calls Tryz.prog 14 #[s1, s2] W fun e w' => e = .returned (.bool true) ∧ Below W.heap.size W w' := by
  obtain ⟨a1, c1, rfl, q1⟩ := h1
  obtain ⟨a2, c2, rfl, q2⟩ := h2
  obtain ⟨n, hn⟩ : ∃ n, l.length = n := ⟨_, rfl⟩
  rw [hn] at q1 q2 hl ⊢
  have H1 : Hid _ := q1
  have H2 : Hid _ := q2
  clear hn q1 q2
  go_enter Tryz.func14, Tryz.ntmps14
  go_wp2
  go_loopw [5] (fun i wr => ∃ k : Nat, k ≤ n ∧ i = .int .i64 k ∧ ∃ m, wr = W.drewN m) (fun i _ => n - (intOf i).toNat)
  case atStart => exact ⟨0, Nat.zero_le _, rfl, 0, rfl⟩
  case round =>
    obtain ⟨k, hk, rfl, m, rfl⟩ := hrel
    by_cases hlt : k < n
    · obtain ⟨b1, o1, rfl, _, hc1⟩ := H1.out (by omega)
      obtain ⟨b2, o2, rfl, _, hc2⟩ := H2.out (by omega)
      have d1 := hc1 k hlt
      have d2 := hc2 k hlt
      have hlt' : (k : Int) < (n : Int) := by omega
      generalize nth l k = x at d1 d2
      clear hc1 hc2
      have HLT : Hid (k < n) := hlt
      have hw1 : IntKind.i64.wrap ((k : Int) + 1) = (k : Int) + 1 := wrap_small (by omega) (by omega)
      clear hlt
      go_wp2
      go_quiet (fail)
      go_wp2
      go_roundw
      case rel => exact ⟨k + 1, HLT.out, by go_num, _, rfl⟩
      case measure => have := HLT.out; simp [intOf]; omega
    · obtain rfl : k = n := by omega
      have hlt' : ¬ (k : Int) < (k : Int) := by omega
      go_wp2
      go_ret
      exact ⟨rfl, below_drewN (Below.refl _ W) m⟩
end Go.Proofs.YtacnhkaibcjjgaaGreatDoor
