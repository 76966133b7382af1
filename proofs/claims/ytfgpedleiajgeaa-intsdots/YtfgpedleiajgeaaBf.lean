/-
  What is proved here: what the reference's size tells of two rows of digits: which number is less.
-/
import Derived.Test.YtfgpedleiajgeaaBe
import Derived.Deep.QuietTactic
import Derived.BigQuiet
namespace Go.Proofs.Ytfgpedleiajgeaa
open Go.RowKit

theorem dval_split (ds : List Int) (k : Nat) (hk : k < ds.length) : dval ds = dval (ds.take k) + rp k * (ds[k]?.getD 0 + 1073741824 * dval (ds.drop (k + 1))) := by
  rw [← dval_drop ds k hk]
  have h : (ds.take k).length = k := by rw [List.length_take]; omega
  have e : dval (ds.take k ++ ds.drop k) = dval (ds.take k) + rp (ds.take k).length * dval (ds.drop k) := dval_append _ _
  rw [List.take_append_drop, h] at e; exact e
/-- The highest digit that differs decides. -/
theorem dval_lt {da db : List Int} {k : Nat} (ha : Digs da) (hka : k < da.length) (hkb : k < db.length) (hb : Digs db) (he : dval (da.drop (k + 1)) = dval (db.drop (k + 1))) (hl : da[k]?.getD 0 < db[k]?.getD 0) : dval da < dval db := by
  rw [dval_split da k hka, dval_split db k hkb, he]
  have h1 := (dval_bound (digs_take ha k)).2
  have h2 := (dval_bound (digs_take hb k)).1
  have h3 : (da.take k).length = k := by rw [List.length_take]; omega
  rw [h3] at h1
  have h4 : rp k * (da[k]?.getD 0 + 1073741824 * dval (db.drop (k + 1)) + 1) ≤ rp k * (db[k]?.getD 0 + 1073741824 * dval (db.drop (k + 1))) := Int.mul_le_mul_of_nonneg_left (by omega) (Int.le_of_lt (rp_pos k))
  rw [Int.mul_add _ _ 1, Int.mul_one] at h4
  omega
theorem dval_len {da db : List Int} (ha : Digs da) (hb : Digs db) (ht : Top db) (hl : da.length < db.length) : dval da < dval db := by
  obtain ⟨n, hn⟩ : ∃ n, db.length = n + 1 := ⟨db.length - 1, by omega⟩
  have h1 := dval_top hb ht hn
  have h2 := (dval_bound ha).2
  have h3 := rp_mono (show da.length ≤ n by omega)
  omega

set_option maxHeartbeats 1000000 in
theorem size_any (s1 s2 : Value) (da db : List Int) (w : World) (h1 : Row w 0 s1 da) (h2 : Row w 0 s2 db) (hda : Digs da) (hdb : Digs db) (ta : Top da) (tb : Top db) (la : da.length ≤ 10000) (_lb : db.length ≤ 10000) :
    Calls Try.prog 46 #[s1, s2] w fun e w' => (∃ c : Int, e = .returned (.int .i64 c) ∧ (c < 0 ↔ dval da < dval db)) ∧ ∃ nq, w' = w.drewN nq := by
  obtain ⟨a1, c1, e1⟩ := h1.form
  obtain ⟨a2, c2, e2⟩ := h2.form
  subst e1 e2
  by_cases hl : da.length = db.length
  · have g0 : ((da.length : Int) != (db.length : Int)) = false := by rw [hl]; simp
    have l1 : da.length ≤ db.length := by omega
    have l2 : db.length ≤ da.length := by omega
    clear hl
    go_enter Try.func46, Try.ntmps46
    go_wp2
    go_loopw [5] (fun i wr => ∃ k : Nat, k ≤ da.length ∧ i = .int .i64 ((k : Int) - 1) ∧ dval (da.drop k) = dval (db.drop k) ∧ ∃ nq, wr = w.drewN nq) (fun i _ => (intOf i + 1).toNat)
    case atStart => exact ⟨da.length, Nat.le_refl _, rfl, by rw [List.drop_length, List.drop_of_length_le (by omega)], 0, rfl⟩
    case round =>
      obtain ⟨k, hk, rfl, he, nq0, rfl⟩ := hrel
      cases k with
      | zero =>
        have HE : Hid (dval da = dval db) := he
        clear he
        go_wp2
        go_ret
        exact ⟨⟨0, rfl, by have := HE.out; omega⟩, _, rfl⟩
      | succ k =>
        have ek : ((k + 1 : Nat) : Int) - 1 = (k : Int) := by omega
        rw [ek]
        have ka : k < da.length := by omega
        have kb : k < db.length := by omega
        obtain ⟨g1, q1, e1, _, hg1, _, _, hcell1⟩ := h1.at ka
        simp only [Value.slice.injEq, true_and] at e1
        obtain ⟨rfl, rfl⟩ := e1
        obtain ⟨g2, q2, e2, _, hg2, _, _, hcell2⟩ := h2.at kb
        simp only [Value.slice.injEq, true_and] at e2
        obtain ⟨rfl, rfl⟩ := e2
        have x1 := hcell1 k ka
        have x2 := hcell2 k kb
        have hlt := dval_lt (k := k) hda ka kb hdb he
        have hgt := dval_lt (k := k) hdb kb ka hda he.symm
        have hdr1 := dval_drop da k ka
        have hdr2 := dval_drop db k kb
        have HLT : Hid (da[k]?.getD 0 < db[k]?.getD 0 → _) := hlt
        have HGT : Hid (db[k]?.getD 0 < da[k]?.getD 0 → _) := hgt
        have HEQ : Hid (da[k]?.getD 0 = db[k]?.getD 0 → dval (da.drop k) = dval (db.drop k)) := fun h => by rw [hdr1, hdr2, h, he]
        clear hlt hgt hdr1 hdr2 hcell1 hcell2 he
        generalize da[k]?.getD 0 = x at *
        generalize db[k]?.getD 0 = y at *
        have kk : (k : Int) < (da.length : Int) := by omega
        have kk' : (k : Int) < (db.length : Int) := by omega
        by_cases hxy : x < y
        · have hv := HLT.out hxy
          have HV : Hid (dval da < dval db) := hv
          clear hv
          go_wp2
          go_quiet (fail)
          go_wp2
          go_ret
          exact ⟨⟨-1, rfl, by simp [HV.out]⟩, _, World.drewN_drewN _ _ _⟩
        · by_cases hyx : y < x
          · have hv := HGT.out hyx
            have HV : Hid (dval db < dval da) := hv
            clear hv
            go_wp2
            go_quiet (fail)
            go_wp2
            go_quiet (fail)
            go_wp2
            go_ret
            exact ⟨⟨1, rfl, by have := HV.out; omega⟩, _, (congrArg (World.drewN · _) (World.drewN_drewN _ _ _)).trans (World.drewN_drewN _ _ _)⟩
          · have hv := HEQ.out (by omega)
            have HV : Hid (dval (da.drop k) = dval (db.drop k)) := hv
            clear hv
            go_wp2
            go_quiet (fail)
            go_wp2
            go_quiet (fail)
            go_wp2
            go_roundw
            case rel => exact ⟨k, by omega, by go_num, HV.out, _, rfl⟩
            case measure => simp [intOf]
  · have g0 : ((da.length : Int) != (db.length : Int)) = true := by simp; omega
    by_cases hlt : da.length < db.length
    · have hv := dval_len hda hdb tb hlt
      have HV : Hid (dval da < dval db) := hv
      clear hv
      go_enter Try.func46, Try.ntmps46
      go_wp2
      go_ret
      exact ⟨⟨-1, rfl, by simp [HV.out]⟩, 0, rfl⟩
    · have hv := dval_len hdb hda ta (by omega)
      have HV : Hid (dval db < dval da) := hv
      clear hv
      go_enter Try.func46, Try.ntmps46
      go_wp2
      go_ret
      exact ⟨⟨1, rfl, by have := HV.out; omega⟩, 0, rfl⟩
end Go.Proofs.Ytfgpedleiajgeaa
