/-
  What is proved here: One and List.
-/
import Derived.Test.YtaeobgajhieajaaGreatDoorDd
namespace Go.Proofs.YtaeobgajhieajaaGreatDoor
open Go.RowKit Go.Shelf
set_option linter.unusedVariables false
set_option linter.unusedSimpArgs false
theorem St.set {B : Nat} {W : World} {s : Value} {l : List Tm} (h : St B W s l) {g : Nat} (hg : g < B) (i : Nat) (v : Value) : St B (W.setCell ⟨g, i, none⟩ v) s l := by
  obtain ⟨a, c, e, h⟩ := h
  refine ⟨a, c, e, fun h0 => ?_⟩
  obtain ⟨b, off, svl, e1, e0, e2, e3⟩ := h h0
  have hne : b ≠ g := by omega
  exact ⟨b, off, svl, e1, e0, by rw [World.size_setCell]; exact e2, e3.1, fun j t sv h1 h2 => ⟨(e3.2 j t sv h1 h2).1.set hg _ _, fun r u hu => (World.cell?_of_block (w := W) (a := ⟨b, off + j * 4 + r, none⟩) (Below.heap_setCell W ⟨g, i, none⟩ v b hne)).trans ((e3.2 j t sv h1 h2).2 r u hu)⟩⟩

set_option maxRecDepth 100000 in
set_option maxHeartbeats 4000000 in
theorem list_any {B : Nat} {W : World} {s : Value} {l : List Tm} (h : St B W s l) (hl : l.length ≤ 2932031007317) (hL : ∀ t ∈ l, t.s.length ≤ 17592186043904) : Calls Tryz.prog 29 #[s] W fun e w' => ∃ v, e = .returned (.agg #[.bool true, v]) ∧ St W.heap.size w' v l ∧ Below W.heap.size W w' := by
  obtain ⟨a8, c8, rfl, h⟩ := h
  have H : Hid (St B W (.slice a8 l.length c8) l) := ⟨a8, c8, rfl, h⟩
  have HL : Hid (∀ t ∈ l, t.s.length ≤ 17592186043904) := hL
  clear h hL
  go_enter Tryz.func29, Tryz.ntmps29
  go_wp2_with fail
  have hbA : Below W.heap.size W (W.alloc (Obj.cells #[.bool false, .slice none 0 0] 54)) := (Below.refl _ W).alloc (Nat.le_refl _) _
  refine (copyTerms_any (H.out.below hbA) hl HL.out).mono ?_
  rintro e w1 ⟨v, rfl, ⟨a9, c9, rfl, hv⟩, hb⟩
  have HV : Hid (St (W.heap.size + 1) w1 (.slice a9 l.length c9) l) := ⟨a9, c9, rfl, by simpa using hv⟩
  clear hv
  have k1 : Hid (Blk w1 W.heap.size #[.bool false, .slice none 0 0] 54) := (Blk.new W _ _).below hb
  have c0 : w1.cell? ⟨W.heap.size, 0, none⟩ = some (.bool false) := k1.out.cell 0
  have c1 : w1.cell? ⟨W.heap.size, 1, none⟩ = some (.slice none 0 0) := k1.out.cell 1
  have f0 := k1.out.frozen
  have hbW : Hid (Below W.heap.size W w1) := hbA.trans (hb.mono (by simp))
  clear hbA hb
  go_wp2
  exact ⟨rfl, _, results_cell_row (P := Tryz.prog) rfl _ _ W.heap.size 54 _ (0, 0) _ rfl ((k1.out.set 0 _).set 1 _).h Tryz.underlying54 rfl (by kernel_rfl), _, rfl, ((HV.out.set (by omega) _ _).set (by omega) _ _).lower (by omega), hbW.out.trans (((Below.refl _ w1).setCell (by simp) _).setCell (by simp) _)⟩

set_option maxRecDepth 100000 in
set_option maxHeartbeats 4000000 in
theorem one_any {B : Nat} {W : World} {sv : Value} (t : Tm) (h : Si B W sv t.s) (hl : t.s.length ≤ 17592186043904) : Calls Tryz.prog 28 #[.agg #[.int .i64 t.v, .bool t.set, .int .i64 t.n, sv]] W fun e w' => ∃ v, e = .returned (.agg #[.bool false, v]) ∧ St W.heap.size w' v [t] ∧ Below W.heap.size W w' := by
  obtain ⟨a8, c8, rfl, h⟩ := h
  have H : Hid (Si 0 W (.slice a8 t.s.length c8) t.s) := Si.lower ⟨a8, c8, rfl, h⟩ (Nat.zero_le _)
  clear h
  obtain ⟨tv, htv⟩ : ∃ x, t.v = x := ⟨_, rfl⟩
  obtain ⟨ts, hts⟩ : ∃ x, t.set = x := ⟨_, rfl⟩
  obtain ⟨tn, htn⟩ : ∃ x, t.n = x := ⟨_, rfl⟩
  obtain ⟨sn, hsn⟩ : ∃ x, t.s.length = x := ⟨_, rfl⟩
  have HT : Hid (t.v = tv ∧ t.set = ts ∧ t.n = tn ∧ t.s.length = sn) := ⟨htv, hts, htn, hsn⟩
  rw [htv, hts, htn, hsn]
  clear htv hts htn hsn
  go_enter Tryz.func28, Tryz.ntmps28
  go_wp2_with fail
  have hbA : Below W.heap.size W (((W.alloc (Obj.cells #[.int .i64 tv, .bool ts, .int .i64 tn, .slice a8 sn c8] 46)).alloc (Obj.cells #[.bool false, .slice none 0 0] 54)).alloc (Obj.cells #[.int .i64 tv, .bool ts, .int .i64 tn, .slice a8 sn c8] 46)) := (((Below.refl _ W).alloc (Nat.le_refl _) _).alloc (by simp) _).alloc (by simp; omega) _
  have hst : St 0 (((W.alloc (Obj.cells #[.int .i64 tv, .bool ts, .int .i64 tn, .slice a8 sn c8] 46)).alloc (Obj.cells #[.bool false, .slice none 0 0] 54)).alloc (Obj.cells #[.int .i64 tv, .bool ts, .int .i64 tn, .slice a8 sn c8] 46)) (.slice (some ⟨W.heap.size + 2, 0, none⟩) 1 1) [t] := by
    obtain ⟨e1, e2, e3, e4⟩ := HT.out
    refine ⟨_, _, rfl, fun _ => ⟨_, 0, [.slice a8 sn c8], rfl, Nat.zero_le _, by simp, rfl, fun i t' sv h1 h2 => ?_⟩⟩
    have hk := Blk.new ((W.alloc (Obj.cells #[.int .i64 tv, .bool ts, .int .i64 tn, .slice a8 sn c8] 46)).alloc (Obj.cells #[.bool false, .slice none 0 0] 54)) #[.int .i64 tv, .bool ts, .int .i64 tn, .slice a8 sn c8] 46
    rw [World.size_alloc, World.size_alloc] at hk
    match i, h1, h2 with
    | 0, h1, h2 =>
      simp at h1 h2
      subst h1; subst h2
      refine ⟨by have h9 := H.out.below hbA; rw [e4] at h9; exact h9, fun r u hu => ?_⟩
      rw [hk.cell, show 0 + 0 * 4 + r = r by omega, ← hu, Tm.cells, e1, e2, e3]
      simp only [List.getElem?_toArray]
  refine (copyTerms_any hst (by simp) (by intro t' h; simp at h; subst h; exact hl)).mono ?_
  rintro e w1 ⟨v, rfl, ⟨a9, c9, rfl, hv⟩, hb⟩
  have HV : Hid (St (W.heap.size + 3) w1 (.slice a9 [t].length c9) [t]) := ⟨a9, c9, rfl, by simpa using hv⟩
  clear hv hst
  have k1 : Hid (Blk w1 (W.heap.size + 1) #[.bool false, .slice none 0 0] 54) := by
    have := ((Blk.new (W.alloc (Obj.cells #[.int .i64 tv, .bool ts, .int .i64 tn, .slice a8 sn c8] 46)) #[.bool false, .slice none 0 0] 54).alloc _).below hb
    rw [World.size_alloc] at this
    exact this
  have c0 : w1.cell? ⟨W.heap.size + 1, 0, none⟩ = some (.bool false) := k1.out.cell 0
  have c1 : w1.cell? ⟨W.heap.size + 1, 1, none⟩ = some (.slice none 0 0) := k1.out.cell 1
  have f0 := k1.out.frozen
  have hbW : Hid (Below W.heap.size W w1) := hbA.trans (hb.mono (by simp; omega))
  clear hbA hb
  go_wp2
  exact ⟨rfl, _, results_cell_row (P := Tryz.prog) rfl _ _ (W.heap.size + 1) 54 _ (0, 0) _ rfl ((k1.out.set 0 _).set 1 _).h Tryz.underlying54 rfl (by kernel_rfl), _, rfl, ((HV.out.set (by omega) _ _).set (by omega) _ _).lower (by omega), hbW.out.trans (((Below.refl _ w1).setCell (by simp) _).setCell (by simp) _)⟩
end Go.Proofs.YtaeobgajhieajaaGreatDoor
