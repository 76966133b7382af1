/-
  What is proved here: numbers that come one after another: Left and Next, of package branch and of the reference.
-/
import Derived.Test.YthkliicmoandmaaGreatDoorKaj
namespace Go.Proofs.YthkliicmoandmaaGreatDoor
open Go.RowKit Go.Shelf
set_option linter.unusedVariables false
set_option linter.unusedSimpArgs false

abbrev ptr (p : Nat) : Value := .pointer (some ⟨p, 0, none⟩)
/-- The numbers that are left, in an object of package branch. -/
def Dr (X : Nat → Prop) (w : World) (p : Nat) (l : List Int) : Prop :=
  ∃ a c, Bx w p #[.slice a l.length c] 79 ∧ l.length ≤ c ∧ c ≤ 9223372036854775807 ∧ (0 < l.length → ∃ b off, a = some ⟨b, off, none⟩ ∧ b < w.heap.size ∧ b ≠ p ∧ ¬ X b ∧ ∀ i x, l[i]? = some x → w.cell? ⟨b, off + i, none⟩ = some (.int .i64 x))
/-- An object of the reference: a list, and how many numbers have been taken. -/
def Rr (X : Nat → Prop) (w : World) (p : Nat) (l : List Int) (k : Nat) : Prop :=
  ∃ a c, Bx w p #[.slice a l.length c, .int .i64 (k : Int)] 30 ∧ l.length ≤ 9223372036854775806 ∧ k ≤ l.length ∧ (0 < l.length → ∃ b off, a = some ⟨b, off, none⟩ ∧ b < w.heap.size ∧ b ≠ p ∧ ¬ X b ∧ ∀ i x, l[i]? = some x → w.cell? ⟨b, off + i, none⟩ = some (.int .i64 x))
/-- The rest of the division, 0 or above. -/
def modV (x m : Int) : Int := if x.tmod m < 0 then x.tmod m + m else x.tmod m
/-- What is told, and what is left. -/
def nextM (l : List Int) (m : Int) : Int × List Int := if m < 1 then (0, l) else match l with
  | [] => (0, [])
  | x :: r => (modV x m, r)
theorem mod_lt {x m : Int} (hm : 1 ≤ m) : -m < x.tmod m ∧ x.tmod m < m := by
  rcases Int.le_total 0 x with h | h
  · have h1 := Int.tmod_nonneg m h
    have h2 := Int.tmod_lt_of_pos x (show 0 < m by omega)
    omega
  · have h1 := Int.tmod_nonneg m (show 0 ≤ -x by omega)
    have h2 := Int.tmod_lt_of_pos (-x) (show 0 < m by omega)
    rw [Int.neg_tmod] at h1 h2
    omega
theorem Bx.set0 {w : World} {g : Nat} {x v : Value} {t : TypeId} (h : Bx w g #[x] t) : Bx (w.setCell ⟨g, 0, none⟩ v) g #[v] t := ⟨by rw [heap_setCell_in h.h (by simp)]; rfl⟩
theorem Bx.set1 {w : World} {g : Nat} {x y v : Value} {t : TypeId} (h : Bx w g #[x, y] t) : Bx (w.setCell ⟨g, 1, none⟩ v) g #[x, v] t := ⟨by rw [heap_setCell_in h.h (by simp)]; rfl⟩
theorem Kept.set {w : World} (p o : Nat) (v : Value) : Kept (fun b => b = p) w (w.setCell ⟨p, o, none⟩ v) := Kept.setCell (X := fun b => b = p) (Kept.refl _ w) rfl o v
theorem Dr.kept {X : Nat → Prop} {w w' : World} {p q : Nat} {l : List Int} (h : Dr X w p l) (k : Kept (fun b => b = q) w w') (hq : p ≠ q) (hX : X q) : Dr X w' p l := by
  obtain ⟨a, c, h1, h2, h3, h4⟩ := h
  refine ⟨a, c, h1.kept k hq, h2, h3, fun h0 => ?_⟩
  obtain ⟨b, off, rfl, e2, e3, e5, e4⟩ := h4 h0
  exact ⟨b, off, rfl, Nat.lt_of_lt_of_le e2 k.size, e3, e5, fun i x hx => (k.cell e2 (fun e => e5 (by rw [e]; exact hX)) _).trans (e4 i x hx)⟩
theorem Rr.kept {X : Nat → Prop} {w w' : World} {p q k0 : Nat} {l : List Int} (h : Rr X w p l k0) (k : Kept (fun b => b = q) w w') (hq : p ≠ q) (hX : X q) : Rr X w' p l k0 := by
  obtain ⟨a, c, h1, h2, h3, h4⟩ := h
  refine ⟨a, c, h1.kept k hq, h2, h3, fun h0 => ?_⟩
  obtain ⟨b, off, rfl, e2, e3, e5, e4⟩ := h4 h0
  exact ⟨b, off, rfl, Nat.lt_of_lt_of_le e2 k.size, e3, e5, fun i x hx => (k.cell e2 (fun e => e5 (by rw [e]; exact hX)) _).trans (e4 i x hx)⟩
theorem Rr.drew {X : Nat → Prop} {w : World} {p k : Nat} {l : List Int} (h : Rr X w p l k) (n : Nat) : Rr X (w.drewN n) p l k := by
  obtain ⟨a, c, h1, h2, h3, h4⟩ := h
  refine ⟨a, c, h1.drew n, h2, h3, fun h0 => ?_⟩
  obtain ⟨b, off, e1, e2, e3, e5, e4⟩ := h4 h0
  exact ⟨b, off, e1, e2, e3, e5, fun i x hx => e4 i x hx⟩
theorem Kept.drew {X : Nat → Prop} (w : World) (n : Nat) : Kept X w (w.drewN n) := ⟨rfl, rfl, rfl, Nat.le_refl _, fun _ _ _ => rfl⟩

set_option maxRecDepth 100000 in
set_option maxHeartbeats 4000000 in
theorem left_nil (W : World) : Calls Tryz.prog 15 #[.pointer none] W fun e w' => e = .returned (.int .i64 0) ∧ w' = W := by
  go_enter Tryz.func15, Tryz.ntmps15
  go_wp2
  go_ret
  exact ⟨rfl, rfl⟩

set_option maxRecDepth 100000 in
set_option maxHeartbeats 4000000 in
theorem left_any {X : Nat → Prop} {W : World} {p : Nat} {l : List Int} (h : Dr X W p l) : Calls Tryz.prog 15 #[ptr p] W fun e w' => e = .returned (.int .i64 l.length) ∧ w' = W := by
  obtain ⟨a, c, h1, h2, h3, h4⟩ := h
  have z0 := h1.cell 0
  simp only [List.getElem?_toArray, List.getElem?_cons_zero] at z0
  clear h4 h1 h3 h2
  generalize l.length = n at *
  go_enter Tryz.func15, Tryz.ntmps15
  go_wp2
  go_ret
  exact ⟨rfl, rfl⟩

set_option maxRecDepth 100000 in
set_option maxHeartbeats 4000000 in
theorem next_nil (W : World) (m : Int) (hm : 1 ≤ m) : Calls Tryz.prog 74 #[.pointer none, .int .i64 m] W fun e w' => e = .returned (.int .i64 0) ∧ w' = W := by
  have hm' : decide (m < 1) = false := by simp; omega
  go_enter Tryz.func74, Tryz.ntmps74
  go_wp2_with (go_at_call 15; refine (left_nil _).mono ?_; rintro e w1 ⟨rfl, rfl⟩)
  go_ret
  exact ⟨rfl, rfl⟩

set_option maxRecDepth 100000 in
set_option maxHeartbeats 4000000 in
theorem next_small {W : World} {p : Nat} (m : Int) (hm : m < 1) : Calls Tryz.prog 74 #[ptr p, .int .i64 m] W fun e w' => e = .returned (.int .i64 0) ∧ w' = W := by
  have hm' : decide (m < 1) = true := by simpa using hm
  go_enter Tryz.func74, Tryz.ntmps74
  go_wp2
  go_ret
  exact ⟨rfl, rfl⟩

set_option maxRecDepth 100000 in
set_option maxHeartbeats 4000000 in
theorem next_none {X : Nat → Prop} {W : World} {p : Nat} (h : Dr X W p []) (m : Int) (hm : 1 ≤ m) : Calls Tryz.prog 74 #[ptr p, .int .i64 m] W fun e w' => e = .returned (.int .i64 0) ∧ w' = W := by
  have hm' : decide (m < 1) = false := by simp; omega
  have kl := left_any h
  go_enter Tryz.func74, Tryz.ntmps74
  go_wp2_with (go_at_call 15; refine kl.mono ?_; rintro e w1 ⟨rfl, rfl⟩)
  go_ret
  exact ⟨rfl, rfl⟩

set_option maxRecDepth 100000 in
set_option maxHeartbeats 4000000 in
theorem next_some {X : Nat → Prop} {W : World} {p : Nat} {x : Int} {r : List Int} (h : Dr X W p (x :: r)) (m : Int) (hm : 1 ≤ m) (hM : m ≤ 9223372036854775807) :
    Calls Tryz.prog 74 #[ptr p, .int .i64 m] W fun e w' => e = .returned (.int .i64 (modV x m)) ∧ Dr X w' p r ∧ Kept (fun b => b = p) W w' := by
  have hm' : decide (m < 1) = false := by simp; omega
  have kl := left_any h
  obtain ⟨a, c, h1, h2, h3, h4⟩ := h
  obtain ⟨b, off, rfl, hb, hbp, hbX, hc⟩ := h4 (by simp)
  have c0 : W.cell? ⟨b, off, none⟩ = some (.int .i64 x) := by simpa using hc 0 x rfl
  have z0 := h1.cell 0
  have zf := h1.fr 0
  simp only [List.getElem?_toArray, List.getElem?_cons_zero] at z0
  obtain ⟨hl1, hl2⟩ := mod_lt (x := x) hm
  have hn : (x :: r).length = r.length + 1 := rfl
  obtain ⟨n, hn2⟩ : ∃ n, (x :: r).length = n := ⟨_, rfl⟩
  rw [hn2] at z0 kl h2 h1
  have hn0 : 0 < n := by omega
  have hn1 : ((n : Int) == 0) = false := by simp; omega
  have HN : Hid (n = r.length + 1) := by rw [← hn2]; exact hn
  have hm0 : ¬ m = 0 := by omega
  have HC : Hid _ := hc
  have H1 : Hid (Bx W p #[.slice (some ⟨b, off, none⟩) n c] 79) := h1
  clear h4 hc hn hn2 h1
  have key : ∀ a', Dr X (W.setCell ⟨p, 0, none⟩ (.slice a' (n - 1) (c - 1))) p r ∨ ¬ (0 < r.length → a' = some ⟨b, off + 1, none⟩) := by
    intro a'
    by_cases hq : 0 < r.length → a' = some ⟨b, off + 1, none⟩
    · left
      refine ⟨a', c - 1, ?_, ?_, ?_, fun h0 => ⟨b, off + 1, hq h0, by simpa [World.setCell] using hb, hbp, hbX, fun i y hy => ?_⟩⟩
      · rw [show r.length = n - 1 by have := HN.out; omega]; exact H1.out.set0
      · have := HN.out; omega
      · omega
      · have h5 := HC.out (i + 1) y (by simpa using hy)
        rw [show off + 1 + i = off + (i + 1) by omega]
        exact ((Kept.set p 0 _).cell hb hbp _).trans h5
    · exact .inr hq
  have HK : Hid _ := key
  clear key
  have hw : wrap64 (x.tmod m + m) = x.tmod m + m ∨ ¬ x.tmod m < 0 := by
    by_cases h : x.tmod m < 0
    · left; unfold wrap64; omega
    · exact .inr h
  have HW : Hid _ := hw
  clear hw
  by_cases hneg : x.tmod m < 0
  · have HM : Hid (modV x m = x.tmod m + m) := by unfold Hid modV; rw [if_pos hneg]
    rcases Nat.lt_or_eq_of_le (show 1 ≤ c by omega) with hc1 | hc1
    · have hc2 : ¬ c = 1 := by omega
      go_enter Tryz.func74, Tryz.ntmps74
      go_wp2_with (go_at_call 15; refine kl.mono ?_; rintro e w1 ⟨rfl, rfl⟩)
      go_ret
      exact ⟨ret_int (by first | (rw [HM.out]; done) | (rw [HM.out]; exact HW.out.resolve_right (fun h => h hneg))), (HK.out _).resolve_right (fun h => h fun _ => rfl), Kept.set _ _ _⟩
    · have hr : ¬ 0 < r.length := by have := HN.out; omega
      subst hc1
      obtain rfl : n = 1 := by omega
      go_enter Tryz.func74, Tryz.ntmps74
      go_wp2_with (go_at_call 15; refine kl.mono ?_; rintro e w1 ⟨rfl, rfl⟩)
      go_ret
      exact ⟨ret_int (by first | (rw [HM.out]; done) | (rw [HM.out]; exact HW.out.resolve_right (fun h => h hneg))), by simpa using (HK.out _).resolve_right (fun h => h fun q => absurd q hr), Kept.set _ _ _⟩
  · have HM : Hid (modV x m = x.tmod m) := by unfold Hid modV; rw [if_neg hneg]
    rcases Nat.lt_or_eq_of_le (show 1 ≤ c by omega) with hc1 | hc1
    · have hc2 : ¬ c = 1 := by omega
      go_enter Tryz.func74, Tryz.ntmps74
      go_wp2_with (go_at_call 15; refine kl.mono ?_; rintro e w1 ⟨rfl, rfl⟩)
      go_ret
      exact ⟨ret_int (by rw [HM.out]), (HK.out _).resolve_right (fun h => h fun _ => rfl), Kept.set _ _ _⟩
    · have hr : ¬ 0 < r.length := by have := HN.out; omega
      subst hc1
      obtain rfl : n = 1 := by omega
      go_enter Tryz.func74, Tryz.ntmps74
      go_wp2_with (go_at_call 15; refine kl.mono ?_; rintro e w1 ⟨rfl, rfl⟩)
      go_ret
      exact ⟨ret_int (by rw [HM.out]), by simpa using (HK.out _).resolve_right (fun h => h fun q => absurd q hr), Kept.set _ _ _⟩

set_option maxRecDepth 100000 in
set_option maxHeartbeats 4000000 in
theorem next_any {X : Nat → Prop} {W : World} {p : Nat} {l : List Int} (h : Dr X W p l) (m : Int) (hM : m ≤ 9223372036854775807) :
    Calls Tryz.prog 74 #[ptr p, .int .i64 m] W fun e w' => e = .returned (.int .i64 (nextM l m).1) ∧ Dr X w' p (nextM l m).2 ∧ Kept (fun b => b = p) W w' := by
  unfold nextM
  by_cases hm : m < 1
  · rw [if_pos hm]
    exact (next_small m hm).mono fun e w' ⟨he, hw⟩ => ⟨he, by rw [hw]; exact h, by rw [hw]; exact Kept.refl _ _⟩
  · rw [if_neg hm]
    cases l with
    | nil => exact (next_none h m (by omega)).mono fun e w' ⟨he, hw⟩ => ⟨he, by rw [hw]; exact h, by rw [hw]; exact Kept.refl _ _⟩
    | cons x r => exact next_some h m (by omega) hM

set_option maxRecDepth 100000 in
set_option maxHeartbeats 4000000 in
theorem rnext_small {W : World} {p : Nat} (m : Int) (hm : m < 1) : Calls Tryz.prog 81 #[ptr p, .int .i64 m] W fun e w' => e = .returned (.int .i64 0) ∧ ∃ q, w' = W.drewN q := by
  have hm' : decide (m < 1) = true := by simpa using hm
  go_enter Tryz.func81, Tryz.ntmps81
  go_upto_region 1 with (fail)
  go_quiet (fail)
  go_wp2
  go_ret
  exact ⟨rfl, _, rfl⟩

set_option maxRecDepth 100000 in
set_option maxHeartbeats 4000000 in
theorem rnext_none {X : Nat → Prop} {W : World} {p k : Nat} {l : List Int} (h : Rr X W p l k) (hk : l.length ≤ k) (m : Int) (hm : 1 ≤ m) : Calls Tryz.prog 81 #[ptr p, .int .i64 m] W fun e w' => e = .returned (.int .i64 0) ∧ ∃ q, w' = W.drewN q := by
  have hm' : decide (m < 1) = false := by simp; omega
  obtain ⟨a, c, h1, h2, h3, h4⟩ := h
  have z0 := h1.cell 0
  have z1 := h1.cell 1
  simp only [List.getElem?_toArray, List.getElem?_cons_zero, List.getElem?_cons_succ] at z0 z1
  clear h4 h1
  generalize l.length = n at *
  have hd : decide ((n : Int) ≤ (k : Int)) = true := by simp; omega
  go_enter Tryz.func81, Tryz.ntmps81
  go_upto_region 1 with (fail)
  go_quiet (fail)
  go_wp2
  go_ret
  exact ⟨rfl, _, rfl⟩

set_option maxRecDepth 100000 in
set_option maxHeartbeats 4000000 in
theorem rnext_some {X : Nat → Prop} {W : World} {p k : Nat} {l : List Int} {x : Int} (h : Rr X W p l k) (hx : l[k]? = some x) (m : Int) (hm : 1 ≤ m) (hM : m ≤ 9223372036854775807) :
    Calls Tryz.prog 81 #[ptr p, .int .i64 m] W fun e w' => e = .returned (.int .i64 (modV x m)) ∧ Rr X w' p l (k + 1) ∧ Kept (fun b => b = p) W w' := by
  have hm' : decide (m < 1) = false := by simp; omega
  have hk : k < l.length := (List.getElem?_eq_some_iff.1 hx).1
  obtain ⟨a, c, h1, h2, h3, h4⟩ := h
  obtain ⟨b, off, rfl, hb, hbp, hbX, hc⟩ := h4 (by omega)
  have c0 := hc k x hx
  have z0 := h1.cell 0
  have z1 := h1.cell 1
  have zf := h1.fr 1
  simp only [List.getElem?_toArray, List.getElem?_cons_zero, List.getElem?_cons_succ] at z0 z1
  obtain ⟨hl1, hl2⟩ := mod_lt (x := x) hm
  have hm0 : ¬ m = 0 := by omega
  have key : ∀ W' : World, (∃ q, W' = W.drewN q) → Rr X (W'.setCell ⟨p, 1, none⟩ (.int .i64 ((k : Int) + 1))) p l (k + 1) ∧ Kept (fun b => b = p) W (W'.setCell ⟨p, 1, none⟩ (.int .i64 ((k : Int) + 1))) := by
    rintro W' ⟨q, rfl⟩
    have hkp : Kept (fun b => b = p) W ((W.drewN q).setCell ⟨p, 1, none⟩ (.int .i64 ((k : Int) + 1))) := Kept.setCell (X := fun b => b = p) (show Kept (fun b => b = p) W (W.drewN q) from ⟨rfl, rfl, rfl, Nat.le_refl _, fun _ _ _ => rfl⟩) rfl 1 _
    refine ⟨⟨_, c, ?_, h2, hk, fun h0 => ⟨b, off, rfl, Nat.lt_of_lt_of_le hb hkp.size, hbp, hbX, fun i y hy => (hkp.cell hb hbp _).trans (hc i y hy)⟩⟩, hkp⟩
    have := (h1.drew q).set1 (v := .int .i64 ((k : Int) + 1))
    simpa using this
  have HK : Hid _ := key
  generalize l.length = n at *
  have hd : decide ((n : Int) ≤ (k : Int)) = false := by simp; omega
  have hwk : wrap64 ((k : Int) + 1) = (k : Int) + 1 := by unfold wrap64; omega
  have hkn : (k : Int) < (n : Int) := by omega
  clear key h4 hc h1 hx
  have hw : wrap64 (x.tmod m + m) = x.tmod m + m ∨ ¬ x.tmod m < 0 := by
    by_cases h : x.tmod m < 0
    · left; unfold wrap64; omega
    · exact .inr h
  have HW : Hid _ := hw
  clear hw
  by_cases hneg : x.tmod m < 0
  · have HM : Hid (modV x m = x.tmod m + m) := by unfold Hid modV; rw [if_pos hneg]
    go_enter Tryz.func81, Tryz.ntmps81
    go_upto_region 1 with (fail)
    go_quiet (fail)
    go_upto_region 3 with (fail)
    go_quiet (fail)
    go_wp2
    go_ret
    exact ⟨ret_int (by first | (rw [HM.out]; done) | (rw [HM.out]; exact HW.out.resolve_right (fun h => h hneg))), HK.out _ ⟨_, rfl⟩⟩
  · have HM : Hid (modV x m = x.tmod m) := by unfold Hid modV; rw [if_neg hneg]
    go_enter Tryz.func81, Tryz.ntmps81
    go_upto_region 1 with (fail)
    go_quiet (fail)
    go_upto_region 3 with (fail)
    go_quiet (fail)
    go_wp2
    go_ret
    exact ⟨ret_int (by rw [HM.out]), HK.out _ ⟨_, rfl⟩⟩
theorem rnext_any {X : Nat → Prop} {W : World} {p k : Nat} {l : List Int} (h : Rr X W p l k) (m : Int) (hM : m ≤ 9223372036854775807) :
    Calls Tryz.prog 81 #[ptr p, .int .i64 m] W fun e w' => e = .returned (.int .i64 (nextM (l.drop k) m).1) ∧ (∃ k', Rr X w' p l k' ∧ l.drop k' = (nextM (l.drop k) m).2) ∧ Kept (fun b => b = p) W w' := by
  unfold nextM
  by_cases hm : m < 1
  · rw [if_pos hm]
    exact (rnext_small m hm).mono fun e w' ⟨he, q, hw⟩ => ⟨he, ⟨k, by rw [hw]; exact h.drew q, rfl⟩, by rw [hw]; exact Kept.drew _ _⟩
  · rw [if_neg hm]
    by_cases hk : k < l.length
    · obtain ⟨x, hx⟩ : ∃ x, l[k]? = some x := ⟨_, List.getElem?_eq_getElem hk⟩
      have hd : l.drop k = x :: l.drop (k + 1) := by rw [List.drop_eq_getElem_cons hk]; congr 1; rw [List.getElem?_eq_getElem hk] at hx; injection hx
      rw [hd]
      exact (rnext_some h hx m (by omega) hM).mono fun e w' ⟨he, h1, h2⟩ => ⟨he, ⟨k + 1, h1, rfl⟩, h2⟩
    · have hd : l.drop k = [] := List.drop_eq_nil_of_le (by omega)
      rw [hd]
      exact (rnext_none h (by omega) m (by omega)).mono fun e w' ⟨he, q, hw⟩ => ⟨he, ⟨k, by rw [hw]; exact h.drew q, hd⟩, by rw [hw]; exact Kept.drew _ _⟩
end Go.Proofs.YthkliicmoandmaaGreatDoor
