/-
  What is proved here: jigsawlaw01.IntsDots returns true at all slices of 64-bit numbers and all numbers, and writes nothing that was there, given what the reference's Dot returns (a premise of this text's theorem).
-/
import Derived.Test.YtfgpedleiajgeaaDe
namespace Go.Proofs.Ytfgpedleiajgeaa
open Go.RowKit

theorem root_unique {a r s : Nat} (h1 : r * r ≤ a) (h2 : a < (r + 1) * (r + 1)) (h3 : s * s ≤ a) (h4 : a < (s + 1) * (s + 1)) : r = s := by
  have a1 : r ≤ s := by
    apply Classical.byContradiction; intro hx
    have : (s + 1) * (s + 1) ≤ r * r := Nat.mul_le_mul (by omega) (by omega)
    omega
  have a2 : s ≤ r := by
    apply Classical.byContradiction; intro hx
    have : (r + 1) * (r + 1) ≤ s * s := Nat.mul_le_mul (by omega) (by omega)
    omega
  omega
theorem sl_of_row {W : World} {base g c : Nat} {ds : List Int} (h1 : Row W base (.slice (some ⟨g, 0, none⟩) (ds.length + 1) c) (ds ++ [7777])) : Sl W (.slice (some ⟨g, 0, none⟩) ds.length c) ds := by
  have hl : (ds ++ [7777]).length = ds.length + 1 := by simp
  obtain ⟨g', cap', e, _, hg, _, _, hcell⟩ := h1.at (j := ds.length) (by omega)
  simp only [Value.slice.injEq, Option.some.injEq, Addr.mk.injEq] at e
  obtain ⟨⟨rfl, _⟩, _, rfl⟩ := e
  exact ⟨some ⟨g, 0, none⟩, c, rfl, fun _ => ⟨g, 0, rfl, hg, fun i hi => by
    have := hcell i (by omega)
    rw [List.getElem?_append_left hi] at this
    rw [Nat.zero_add]; exact this⟩⟩
theorem rowN {W : World} {base : Nat} {s : Value} {ds : List Int} (h : Row W base s ds) (n : Nat) : Row (W.drewN n) base s ds := h
theorem slN {W : World} {s : Value} {ds : List Int} (h : Sl W s ds) (n : Nat) : Sl (W.drewN n) s ds := h
theorem below_undrewN {W W' : World} {n : Nat} (k : Below (W.drewN n).heap.size (W.drewN n) W') : Below W.heap.size W W' := ⟨k.os, k.tape, k.output, k.size, k.block⟩

/-- What is asked of the reference's Dot. -/
def RDot : Prop := ∀ (s1 s2 : Value) (da db : List Int) (w : World), Sl w s1 da → Sl w s2 db → FitsAll da → FitsAll db → da.length * 8 ≤ 140737488351232 → da.length = db.length →
    Calls Try.prog 32 #[s1, s2] w fun e w' => e = .returned (.tuple #[.int .i64 (ov (dotS da db)), .int .i64 (oe (dotS da db))]) ∧ Below w.heap.size w w'

set_option maxRecDepth 100000 in
set_option maxHeartbeats 2000000 in
theorem dots_walk (hrd : RDot) (s1 s2 : Value) (da db : List Int) (n : Int) (w : World) (h1 : Sl w s1 da) (h2 : Sl w s2 db) (hda : FitsAll da) (hdb : FitsAll db) (hr1 : da.length * 8 ≤ 140737488351232) (hr2 : db.length * 8 ≤ 140737488351232) (fn : Fits n) :
    Calls Try.prog 5 #[s1, s2, .int .i64 n] w fun e w' => e = .returned (.bool true) ∧ Below w.heap.size w w' := by
  by_cases hl : da.length = db.length
  · have HL : Hid (da.length = db.length) := hl
    clear hl
    by_cases hn : n < 0
    · go_enter Try.func5, Try.ntmps5
      go_wp2_with fail
      refine (lent_any s1 da _ h1 hr1).mono ?_
      rintro e w1 ⟨g1, c1, rfl, q1, m1, row1, k1⟩
      have h1' := h1.below k1; have h2' := h2.below k1
      go_wp2_with fail
      refine (lent_any s2 db _ h2' hr2).mono ?_
      rintro e w2 ⟨g2, c2, rfl, q2, m2, row2, k2⟩
      have row1' := row1.below' k2
      have h1'' := h1'.below k2; have h2'' := h2'.below k2
      have L1 := sl_of_row row1'
      have L2 := sl_of_row row2
      go_wp2_with fail
      refine (dot_any _ _ da db _ L1 L2 hda hdb hr1 hr2 HL.out).mono ?_
      rintro e w3 ⟨rfl, k3⟩
      have r1a := row1'.below' k3; have r2a := row2.below' k3
      have i1 := h1''.below k3; have i2 := h2''.below k3
      go_wp2_with fail
      refine (hrd s1 s2 da db _ i1 i2 hda hdb hr1 HL.out).mono ?_
      rintro e w4 ⟨rfl, k4⟩
      have r1b := (r1a.below' k4).mono (Nat.zero_le _); have r2b := (r2a.below' k4).mono (Nat.zero_le _)
      have j1 := i1.below k4; have j2 := i2.below k4
      have KT1 : Hid (∀ nq, Calls _ _ _ (w4.drewN nq) _) := fun nq => kept_any g1 c1 s1 da (w4.drewN nq) (rowN r1b nq) q1 m1 (slN j1 nq) hr1
      have KT2 : Hid (∀ nq, Calls _ _ _ (w4.drewN nq) _) := fun nq => kept_any g2 c2 s2 db (w4.drewN nq) (rowN r2b nq) q2 m2 (slN j2 nq) hr2
      obtain ⟨x1, y1, f1, _⟩ := h1
      obtain ⟨x2, y2, f2, _⟩ := h2
      subst f1 f2
      clear row1 row1' row2 h1' h2' h1'' h2'' L1 L2 r1a r2a i1 i2 r1b r2b j1 j2
      go_wp2_with fail
      refine (root_neg n _ hn).mono ?_
      rintro e w' ⟨rfl, rfl⟩
      go_wp2_with fail
      refine (rroot_neg n _ hn).mono ?_
      rintro e w' ⟨rfl, rfl⟩
      go_wp2_with fail
      refine (KT1.out 0).mono ?_
      rintro e w' ⟨rfl, nq1, rfl⟩
      go_wp2_with fail
      refine (KT2.out _).mono ?_
      rintro e w' ⟨rfl, nq2, rfl⟩
      go_wp2_with fail
      refine (known_any _).mono ?_
      rintro e w7 ⟨rfl, k7⟩
      go_wp2
      go_ret
      exact ⟨rfl, below2 (below3 k1 k2 k3) (below2 k4 (below_undrewN k7))⟩

    · obtain ⟨m, rfl⟩ := Int.eq_ofNat_of_zero_le (show 0 ≤ n by omega)
      have R1 : Hid (∀ w, _) := fun w => root_any m w (by unfold Fits at fn; omega)
      have R2 : Hid (∀ w, _) := fun w => rroot_any m w (by unfold Fits at fn; omega)
      go_enter Try.func5, Try.ntmps5
      go_wp2_with fail
      refine (lent_any s1 da _ h1 hr1).mono ?_
      rintro e w1 ⟨g1, c1, rfl, q1, m1, row1, k1⟩
      have h1' := h1.below k1; have h2' := h2.below k1
      go_wp2_with fail
      refine (lent_any s2 db _ h2' hr2).mono ?_
      rintro e w2 ⟨g2, c2, rfl, q2, m2, row2, k2⟩
      have row1' := row1.below' k2
      have h1'' := h1'.below k2; have h2'' := h2'.below k2
      have L1 := sl_of_row row1'
      have L2 := sl_of_row row2
      go_wp2_with fail
      refine (dot_any _ _ da db _ L1 L2 hda hdb hr1 hr2 HL.out).mono ?_
      rintro e w3 ⟨rfl, k3⟩
      have r1a := row1'.below' k3; have r2a := row2.below' k3
      have i1 := h1''.below k3; have i2 := h2''.below k3
      go_wp2_with fail
      refine (hrd s1 s2 da db _ i1 i2 hda hdb hr1 HL.out).mono ?_
      rintro e w4 ⟨rfl, k4⟩
      have r1b := (r1a.below' k4).mono (Nat.zero_le _); have r2b := (r2a.below' k4).mono (Nat.zero_le _)
      have j1 := i1.below k4; have j2 := i2.below k4
      have KT1 : Hid (∀ nq, Calls _ _ _ (w4.drewN nq) _) := fun nq => kept_any g1 c1 s1 da (w4.drewN nq) (rowN r1b nq) q1 m1 (slN j1 nq) hr1
      have KT2 : Hid (∀ nq, Calls _ _ _ (w4.drewN nq) _) := fun nq => kept_any g2 c2 s2 db (w4.drewN nq) (rowN r2b nq) q2 m2 (slN j2 nq) hr2
      obtain ⟨x1, y1, f1, _⟩ := h1
      obtain ⟨x2, y2, f2, _⟩ := h2
      subst f1 f2
      clear row1 row1' row2 h1' h2' h1'' h2'' L1 L2 r1a r2a i1 i2 r1b r2b j1 j2
      go_wp2_with fail
      refine (R1.out _).mono ?_
      rintro e w' ⟨⟨r1, rfl, p1, p2⟩, rfl⟩
      go_wp2_with fail
      refine (R2.out _).mono ?_
      rintro e w' ⟨⟨r2, rfl, p3, p4⟩, rfl⟩
      have hrr := root_unique p1 p2 p3 p4
      subst hrr
      clear p1 p2 p3 p4
      go_wp2_with fail
      refine (KT1.out 0).mono ?_
      rintro e w' ⟨rfl, nq1, rfl⟩
      go_wp2_with fail
      refine (KT2.out _).mono ?_
      rintro e w' ⟨rfl, nq2, rfl⟩
      go_wp2_with fail
      refine (known_any _).mono ?_
      rintro e w7 ⟨rfl, k7⟩
      go_wp2
      go_ret
      exact ⟨rfl, below2 (below3 k1 k2 k3) (below2 k4 (below_undrewN k7))⟩

  · by_cases hn : n < 0
    · go_enter Try.func5, Try.ntmps5
      go_wp2_with fail
      refine (lent_any s1 da _ h1 hr1).mono ?_
      rintro e w1 ⟨g1, c1, rfl, q1, m1, row1, k1⟩
      have h1' := h1.below k1; have h2' := h2.below k1
      go_wp2_with fail
      refine (lent_any s2 db _ h2' hr2).mono ?_
      rintro e w2 ⟨g2, c2, rfl, q2, m2, row2, k2⟩
      have row1' := row1.below' k2
      have h1'' := h1'.below k2; have h2'' := h2'.below k2
      have L1 := sl_of_row row1'
      have L2 := sl_of_row row2
      go_wp2_with fail
      refine (dot_len _ _ da db _ L1 L2 hl).mono ?_
      rintro e w3 ⟨rfl, k3⟩
      have r1a := row1'.below' k3; have r2a := row2.below' k3
      have i1 := h1''.below k3; have i2 := h2''.below k3
      go_wp2_with fail
      refine (rdot_len s1 s2 da db _ i1 i2 hl).mono ?_
      rintro e w4 ⟨rfl, k4⟩
      have r1b := (r1a.below' k4).mono (Nat.zero_le _); have r2b := (r2a.below' k4).mono (Nat.zero_le _)
      have j1 := i1.below k4; have j2 := i2.below k4
      have KT1 : Hid (∀ nq, Calls _ _ _ (w4.drewN nq) _) := fun nq => kept_any g1 c1 s1 da (w4.drewN nq) (rowN r1b nq) q1 m1 (slN j1 nq) hr1
      have KT2 : Hid (∀ nq, Calls _ _ _ (w4.drewN nq) _) := fun nq => kept_any g2 c2 s2 db (w4.drewN nq) (rowN r2b nq) q2 m2 (slN j2 nq) hr2
      obtain ⟨x1, y1, f1, _⟩ := h1
      obtain ⟨x2, y2, f2, _⟩ := h2
      subst f1 f2
      clear row1 row1' row2 h1' h2' h1'' h2'' L1 L2 r1a r2a i1 i2 r1b r2b j1 j2
      go_wp2_with fail
      refine (root_neg n _ hn).mono ?_
      rintro e w' ⟨rfl, rfl⟩
      go_wp2_with fail
      refine (rroot_neg n _ hn).mono ?_
      rintro e w' ⟨rfl, rfl⟩
      go_wp2_with fail
      refine (KT1.out 0).mono ?_
      rintro e w' ⟨rfl, nq1, rfl⟩
      go_wp2_with fail
      refine (KT2.out _).mono ?_
      rintro e w' ⟨rfl, nq2, rfl⟩
      go_wp2_with fail
      refine (known_any _).mono ?_
      rintro e w7 ⟨rfl, k7⟩
      go_wp2
      go_ret
      exact ⟨rfl, below2 (below3 k1 k2 k3) (below2 k4 (below_undrewN k7))⟩

    · obtain ⟨m, rfl⟩ := Int.eq_ofNat_of_zero_le (show 0 ≤ n by omega)
      have R1 : Hid (∀ w, _) := fun w => root_any m w (by unfold Fits at fn; omega)
      have R2 : Hid (∀ w, _) := fun w => rroot_any m w (by unfold Fits at fn; omega)
      go_enter Try.func5, Try.ntmps5
      go_wp2_with fail
      refine (lent_any s1 da _ h1 hr1).mono ?_
      rintro e w1 ⟨g1, c1, rfl, q1, m1, row1, k1⟩
      have h1' := h1.below k1; have h2' := h2.below k1
      go_wp2_with fail
      refine (lent_any s2 db _ h2' hr2).mono ?_
      rintro e w2 ⟨g2, c2, rfl, q2, m2, row2, k2⟩
      have row1' := row1.below' k2
      have h1'' := h1'.below k2; have h2'' := h2'.below k2
      have L1 := sl_of_row row1'
      have L2 := sl_of_row row2
      go_wp2_with fail
      refine (dot_len _ _ da db _ L1 L2 hl).mono ?_
      rintro e w3 ⟨rfl, k3⟩
      have r1a := row1'.below' k3; have r2a := row2.below' k3
      have i1 := h1''.below k3; have i2 := h2''.below k3
      go_wp2_with fail
      refine (rdot_len s1 s2 da db _ i1 i2 hl).mono ?_
      rintro e w4 ⟨rfl, k4⟩
      have r1b := (r1a.below' k4).mono (Nat.zero_le _); have r2b := (r2a.below' k4).mono (Nat.zero_le _)
      have j1 := i1.below k4; have j2 := i2.below k4
      have KT1 : Hid (∀ nq, Calls _ _ _ (w4.drewN nq) _) := fun nq => kept_any g1 c1 s1 da (w4.drewN nq) (rowN r1b nq) q1 m1 (slN j1 nq) hr1
      have KT2 : Hid (∀ nq, Calls _ _ _ (w4.drewN nq) _) := fun nq => kept_any g2 c2 s2 db (w4.drewN nq) (rowN r2b nq) q2 m2 (slN j2 nq) hr2
      obtain ⟨x1, y1, f1, _⟩ := h1
      obtain ⟨x2, y2, f2, _⟩ := h2
      subst f1 f2
      clear row1 row1' row2 h1' h2' h1'' h2'' L1 L2 r1a r2a i1 i2 r1b r2b j1 j2
      go_wp2_with fail
      refine (R1.out _).mono ?_
      rintro e w' ⟨⟨r1, rfl, p1, p2⟩, rfl⟩
      go_wp2_with fail
      refine (R2.out _).mono ?_
      rintro e w' ⟨⟨r2, rfl, p3, p4⟩, rfl⟩
      have hrr := root_unique p1 p2 p3 p4
      subst hrr
      clear p1 p2 p3 p4
      go_wp2_with fail
      refine (KT1.out 0).mono ?_
      rintro e w' ⟨rfl, nq1, rfl⟩
      go_wp2_with fail
      refine (KT2.out _).mono ?_
      rintro e w' ⟨rfl, nq2, rfl⟩
      go_wp2_with fail
      refine (known_any _).mono ?_
      rintro e w7 ⟨rfl, k7⟩
      go_wp2
      go_ret
      exact ⟨rfl, below2 (below3 k1 k2 k3) (below2 k4 (below_undrewN k7))⟩

end Go.Proofs.Ytfgpedleiajgeaa
