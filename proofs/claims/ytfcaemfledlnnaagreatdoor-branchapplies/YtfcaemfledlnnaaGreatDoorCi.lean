/-
  What is proved here: domains held against each other, and lent.
-/
import Derived.Test.YtfcaemfledlnnaaGreatDoorCbj
import Derived.Test.YtfcaemfledlnnaaGreatDoorCej
import Derived.Test.YtfcaemfledlnnaaGreatDoorCg
import Derived.Test.YtfcaemfledlnnaaGreatDoorYOkj
namespace Go.Proofs.YtfcaemfledlnnaaGreatDoor
open Go.RowKit Go.Shelf
set_option linter.unusedVariables false
set_option linter.unusedSimpArgs false

def flI (r : List Dm.Rg) : List Int := (List.range (r.length * 2)).map fun i => if i % 2 = 0 then Dm.lo r (i / 2) else Dm.hi r (i / 2)
def rgs (n : Nat) (fr : List Int) : List Dm.Rg := (List.range n).map fun i => (St.nth fr (i * 2), St.nth fr (i * 2 + 1))
theorem flI_len (r : List Dm.Rg) : (flI r).length = r.length * 2 := by simp [flI]
theorem flI_nth (r : List Dm.Rg) (i : Nat) (h : i < r.length * 2) : St.nth (flI r) i = if i % 2 = 0 then Dm.lo r (i / 2) else Dm.hi r (i / 2) := by
  unfold St.nth flI
  rw [List.getD_eq_getElem?_getD, List.getElem?_map, List.getElem?_range h]; rfl
theorem rgs_len (n : Nat) (fr : List Int) : (rgs n fr).length = n := by simp [rgs]
theorem rgs_lo (n : Nat) (fr : List Int) (i : Nat) (h : i < n) : Dm.lo (rgs n fr) i = St.nth fr (i * 2) := by
  unfold Dm.lo rgs
  rw [List.getElem?_map, List.getElem?_range h]; rfl
theorem rgs_hi (n : Nat) (fr : List Int) (i : Nat) (h : i < n) : Dm.hi (rgs n fr) i = St.nth fr (i * 2 + 1) := by
  unfold Dm.hi rgs
  rw [List.getElem?_map, List.getElem?_range h]; rfl
theorem rgs_fl (r : List Dm.Rg) : rgs r.length (flI r) = r := by
  apply List.ext_getElem?
  intro i
  by_cases h : i < r.length
  · unfold rgs
    rw [List.getElem?_map, List.getElem?_range h, List.getElem?_eq_getElem h]
    simp only [Option.map_some]
    rw [flI_nth r (i * 2) (by omega), flI_nth r (i * 2 + 1) (by omega), if_pos (by omega), if_neg (by omega), show i * 2 / 2 = i by omega, show (i * 2 + 1) / 2 = i by omega]
    unfold Dm.lo Dm.hi
    rw [List.getElem?_eq_getElem h]; rfl
  · rw [List.getElem?_eq_none (by rw [rgs_len]; omega), List.getElem?_eq_none (by omega)]
/-- The sizes of a domain. -/
def SzD (d : MD) : Prop := d.lo.length * 8 ≤ 140737488351232 ∧ d.up.length * 8 ≤ 140737488351232 ∧ d.r.length * 16 ≤ 140737488351232
theorem Dc.dr {X : Nat → Prop} {w : World} {c : List Value} {d : MD} (h : Dc X w c d) (hz : SzD d) : St.Dr w (.agg c.toArray) (sdM d) (flI d.r) := by
  obtain ⟨ra, rc, a1, c1, a2, c2, rfl, h1, h2, h3⟩ := h
  refine ⟨ra, rc, _, _, rfl, h2.si, h3.si, ?_, hz⟩
  obtain ⟨a, cc, e, h1⟩ := h1
  injection e with e1 _ e3
  subst e1 e3
  refine ⟨_, _, _, rfl, flI_len _, fun h0 => ?_⟩
  obtain ⟨b, off, q1, q2, _, q4⟩ := h1 h0
  refine ⟨b, off, q1, q2, fun i hi => ?_⟩
  rw [flI_nth _ _ hi]
  have hi' : i < d.r.length * 2 := hi
  have hq := q4 (i / 2) (by omega)
  by_cases hp : i % 2 = 0
  · rw [if_pos hp, show off + i = off + i / 2 * 2 by omega]; exact hq.1
  · rw [if_neg hp, show off + i = off + i / 2 * 2 + 1 by omega]; exact hq.2
theorem si_nm {w : World} {s : Value} {l : List Int} (h : St.Si w s l) : Nm (fun _ => False) w s l := by
  obtain ⟨a, c, e, h⟩ := h
  refine ⟨a, c, e, fun h0 => ?_⟩
  obtain ⟨b, off, e1, e2, e4⟩ := h h0
  refine ⟨b, off, e1, e2, fun q => q, fun i x hx => ?_⟩
  have hi := (List.getElem?_eq_some_iff.1 hx).1
  rw [e4 i hi]
  unfold St.nth
  rw [List.getD_eq_getElem?_getD, hx]; rfl
def mdS (s : St.SD) (fr : List Int) : MD := ⟨s.set, rgs s.rn fr, s.lo, s.up, s.least, s.most⟩
theorem dr_dc {w : World} {v : Value} {s : St.SD} {fr : List Int} (h : St.Dr w v s fr) : ∃ c : List Value, v = .agg c.toArray ∧ Dc (fun _ => False) w c (mdS s fr) ∧ SzD (mdS s fr) := by
  obtain ⟨ra, rc, slo, sup, rfl, h1, h2, h3, h4, h5, h6⟩ := h
  obtain ⟨a1, c1, rfl, _⟩ := id h1
  obtain ⟨a2, c2, rfl, _⟩ := id h2
  have hl : (mdS s fr).r.length = s.rn := rgs_len _ _
  refine ⟨[_, _, _, _, _, _], rfl, ?_, ⟨h4, h5, by rw [hl]; exact h6⟩⟩
  refine ⟨ra, rc, a1, c1, a2, c2, by rw [hl]; rfl, ?_, si_nm h1, si_nm h2⟩
  rw [hl]
  obtain ⟨a, n, cc, e, _, hc⟩ := h3
  injection e with e1 e2 e3
  subst e1 e2 e3
  refine ⟨_, _, by rw [hl], fun h0 => ?_⟩
  rw [hl] at h0
  obtain ⟨b, off, q1, q2, q4⟩ := hc h0
  refine ⟨b, off, q1, q2, fun q => q, fun i hi => ?_⟩
  rw [hl] at hi
  have e1 : Dm.lo (mdS s fr).r i = St.nth fr (i * 2) := rgs_lo _ _ _ hi
  have e2 : Dm.hi (mdS s fr).r i = St.nth fr (i * 2 + 1) := rgs_hi _ _ _ hi
  rw [e1, e2]
  exact ⟨q4 _ (by omega), by have := q4 (i * 2 + 1) (by omega); rwa [← Nat.add_assoc] at this⟩
theorem mdS_back (d : MD) : mdS (sdM d) (flI d.r) = d := by
  obtain ⟨a, r, c, d, e, f⟩ := d
  show (⟨a, rgs r.length (flI r), c, d, e, f⟩ : MD) = _
  rw [rgs_fl]
theorem one_d {X Y : Nat → Prop} {W : World} {c k : List Value} {d : MD} (h : Dc X W c d) (h' : Dc Y W k d) (hz : SzD d) : Calls Tryz.prog 22 #[.agg c.toArray, .agg k.toArray] W fun e w' => e = .returned (.bool true) ∧ Below W.heap.size W w' :=
  St.one_same _ _ (sdM d) (flI d.r) W (h.dr hz) (h'.dr hz)
theorem lent_d {X : Nat → Prop} {W : World} {c : List Value} {d : MD} (h : Dc X W c d) (hz : SzD d) : Calls Tryz.prog 18 #[.agg c.toArray] W fun e w' => ∃ q : List Value, e = .returned (.agg q.toArray) ∧ Dc (fun _ => False) w' q d ∧ Below W.heap.size W w' :=
  (St.lent_dom _ (sdM d) (flI d.r) W (h.dr hz)).mono fun e w' ⟨v', he, hd, hb⟩ => by
    obtain ⟨q, e1, e2, _⟩ := dr_dc hd
    rw [mdS_back] at e2
    exact ⟨q, by rw [he, e1], e2, hb⟩
/-- What a decision leaves is no longer than can be. -/
theorem res_sz {d : MD} {op n : Int} : SzD (resM d op n).1 := by
  unfold resM
  split
  · exact ⟨by decide, by decide, by decide⟩
  split
  · exact ⟨by decide, by decide, by decide⟩
  split
  · obtain ⟨_, _, h1, h2, _⟩ := St.must_right (sdM d) n
    have := h1.1
    have := h2.1
    exact ⟨by show _ * 8 ≤ _; simp only [ofSD]; omega, by show _ * 8 ≤ _; simp only [ofSD]; omega, by show 0 * 16 ≤ _; decide⟩
  split
  · obtain ⟨_, _, h1, h2, _⟩ := St.not_right (sdM d) n
    have := h1.1
    have := h2.1
    exact ⟨by show _ * 8 ≤ _; simp only [ofSD]; omega, by show _ * 8 ≤ _; simp only [ofSD]; omega, by show 0 * 16 ≤ _; decide⟩
  · have ht := (Dm.tk_right d.r).1
    have hc : ∀ a b, (Dm.cutL (Dm.tk d.r) a b).length ≤ 4096 := fun a b => Nat.le_trans (List.length_filterMap_le _ _) ht
    have hr : (numR d.r op n).length ≤ 4096 := by
      unfold numR
      split
      · exact hc _ _
      split
      · unfold Dm.woR; split <;> assumption
      split
      · exact hc _ _
      · exact hc _ _
    exact ⟨by show 0 * 8 ≤ _; decide, by show 0 * 8 ≤ _; decide, by show (numR d.r op n).length * 16 ≤ _; omega⟩
end Go.Proofs.YtfcaemfledlnnaaGreatDoor
