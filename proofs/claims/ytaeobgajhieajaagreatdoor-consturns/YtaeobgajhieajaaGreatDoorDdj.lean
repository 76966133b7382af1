/-
  What is proved here: copyTerms.
  What is proved here: One and List.
-/
import Derived.Test.YtaeobgajhieajaaGreatDoorDaj
namespace Go.Proofs.YtaeobgajhieajaaGreatDoor
open Go.RowKit Go.Shelf
set_option linter.unusedVariables false
set_option linter.unusedSimpArgs false
/-- How far the terms are copied. -/
structure Cp (B : Nat) (W w : World) (g : Nat) (l : List Tm) (svl : List Value) (k : Nat) : Prop where
  len : svl.length = l.length
  ge : W.heap.size ≤ g
  row : ∃ cur, Blk w g cur 46 ∧ ∀ i t sv, l[i]? = some t → svl[i]? = some sv → ∀ r, r < 4 → cur[i * 4 + r]? = (t.cells sv)[r]?
  old : ∀ (i : Nat) (t : Tm) sv, k ≤ i → l[i]? = some t → svl[i]? = some sv → Si B W sv t.s
  new : ∀ (i : Nat) (t : Tm) sv, i < k → l[i]? = some t → svl[i]? = some sv → Si (g + 1) w sv t.s
  bel : Below W.heap.size W w
theorem Cp.lt {B : Nat} {W w : World} {g : Nat} {l : List Tm} {svl : List Value} {k : Nat} (h : Cp B W w g l svl k) : g < w.heap.size := by
  obtain ⟨cur, hc, _⟩ := h.row; exact hc.lt
theorem Cp.below {B : Nat} {W w w' : World} {g : Nat} {l : List Tm} {svl : List Value} {k : Nat} (h : Cp B W w g l svl k) (hb : Below w.heap.size w w') : Cp B W w' g l svl k := by
  obtain ⟨cur, hc, hr⟩ := h.row
  exact ⟨h.len, h.ge, ⟨cur, hc.below hb, hr⟩, h.old, fun i t sv h1 h2 h3 => (h.new i t sv h1 h2 h3).below hb, h.bel.trans (hb.mono h.bel.size)⟩
theorem Cp.cells {B : Nat} {W w : World} {g : Nat} {l : List Tm} {svl : List Value} {k i : Nat} {t : Tm} {sv : Value} (h : Cp B W w g l svl k) (h1 : l[i]? = some t) (h2 : svl[i]? = some sv) : w.cell? ⟨g, i * 4, none⟩ = some (.int .i64 t.v) ∧ w.cell? ⟨g, i * 4 + 1, none⟩ = some (.bool t.set) ∧ w.cell? ⟨g, i * 4 + 2, none⟩ = some (.int .i64 t.n) ∧ w.cell? ⟨g, i * 4 + 3, none⟩ = some sv ∧ ∀ j, w.frozen? ⟨g, j, none⟩ = false := by
  obtain ⟨cur, hc, hr⟩ := h.row
  have := hr i t sv h1 h2
  exact ⟨(hc.cell _).trans (this 0 (by omega)), (hc.cell _).trans (this 1 (by omega)), (hc.cell _).trans (this 2 (by omega)), (hc.cell _).trans (this 3 (by omega)), hc.frozen⟩
theorem Cp.step {B : Nat} {W w : World} {g : Nat} {l : List Tm} {svl : List Value} {k : Nat} {t : Tm} {v : Value} (h : Cp B W w g l svl k) (h1 : l[k]? = some t) (hv : Si (g + 1) w v t.s) :
    Cp B W (((w.setCell ⟨g, k * 4 + 1, none⟩ (.bool t.set)).setCell ⟨g, k * 4 + 2, none⟩ (.int .i64 t.n)).setCell ⟨g, k * 4 + 3, none⟩ v) g l (svl.set k v) (k + 1) := by
  have hk : k < l.length := (List.getElem?_eq_some_iff.1 h1).1
  obtain ⟨sv0, h20⟩ : ∃ sv, svl[k]? = some sv := ⟨_, List.getElem?_eq_getElem (by rw [h.len]; exact hk)⟩
  obtain ⟨cur, hc, hr⟩ := h.row
  have hsz : k * 4 + 3 < cur.size := by
    have := hr k t sv0 h1 h20 3 (by omega)
    exact (Array.getElem?_eq_some_iff.1 (this.trans rfl : cur[k * 4 + 3]? = some sv0)).1
  have keep : ∀ {s' : Value} {li : List Int}, Si (g + 1) w s' li → Si (g + 1) (((w.setCell ⟨g, k * 4 + 1, none⟩ (.bool t.set)).setCell ⟨g, k * 4 + 2, none⟩ (.int .i64 t.n)).setCell ⟨g, k * 4 + 3, none⟩ v) s' li := fun h => ((h.set (by omega) _ _).set (by omega) _ _).set (by omega) _ _
  refine ⟨by simp [h.len], h.ge, ⟨_, ((hc.set _ _).set _ _).set _ _, fun i t' sv h3 h4 r hr4 => ?_⟩, fun i t' sv h5 h3 h4 => ?_, fun i t' sv h5 h3 h4 => ?_, h.bel.trans ((((Below.refl _ w).setCell h.ge _).setCell h.ge _).setCell h.ge _)⟩
  · rw [List.getElem?_set] at h4
    by_cases e : k = i
    · subst e
      rw [h1] at h3; cases h3
      rw [if_pos rfl, if_pos (by rw [h.len]; exact hk)] at h4
      cases h4
      have h0 := hr k t sv0 h1 h20 0 (by omega)
      match r, hr4 with
      | 0, _ => rw [Array.getElem?_setIfInBounds_ne (by omega), Array.getElem?_setIfInBounds_ne (by omega), Array.getElem?_setIfInBounds_ne (by omega)]; exact h0
      | 1, _ => rw [Array.getElem?_setIfInBounds_ne (by omega), Array.getElem?_setIfInBounds_ne (by omega), Array.getElem?_setIfInBounds_self_of_lt (by omega)]; rfl
      | 2, _ => rw [Array.getElem?_setIfInBounds_ne (by omega), Array.getElem?_setIfInBounds_self_of_lt (by simp; omega)]; rfl
      | 3, _ => rw [Array.getElem?_setIfInBounds_self_of_lt (by simp; omega)]; rfl
    · rw [if_neg e] at h4
      rw [Array.getElem?_setIfInBounds_ne (by omega), Array.getElem?_setIfInBounds_ne (by omega), Array.getElem?_setIfInBounds_ne (by omega)]
      exact hr i t' sv h3 h4 r hr4
  · rw [List.getElem?_set, if_neg (by omega)] at h4
    exact h.old i t' sv (by omega) h3 h4
  · rw [List.getElem?_set] at h4
    by_cases e : k = i
    · subst e
      rw [h1] at h3; cases h3
      rw [if_pos rfl, if_pos (by rw [h.len]; exact hk)] at h4
      cases h4
      exact keep hv
    · rw [if_neg e] at h4
      exact keep (h.new i t' sv (by omega) h3 h4)
theorem Cp.done {B : Nat} {W w : World} {g : Nat} {l : List Tm} {svl : List Value} (h : Cp B W w g l svl l.length) (c : Nat) : St W.heap.size w (.slice (some ⟨g, 0, none⟩) l.length c) l := by
  refine ⟨_, c, rfl, fun _ => ⟨g, 0, svl, rfl, h.ge, h.lt, h.len, fun i t sv h1 h2 => ⟨(h.new i t sv (List.getElem?_eq_some_iff.1 h1).1 h1 h2).lower (by have := h.ge; omega), fun r u hu => ?_⟩⟩⟩
  obtain ⟨cur, hc, hr⟩ := h.row
  have hr4 : r < 4 := (List.getElem?_eq_some_iff.1 hu).1
  rw [hc.cell, show 0 + i * 4 + r = i * 4 + r by omega, hr i t sv h1 h2 r hr4, hu]

set_option maxRecDepth 100000 in
set_option maxHeartbeats 4000000 in
theorem copyTerms_any {B : Nat} {W : World} {s : Value} {l : List Tm} (h : St B W s l) (hl : l.length ≤ 2932031007317) (hL : ∀ t ∈ l, t.s.length ≤ 17592186043904) : Calls Tryz.prog 58 #[s] W fun e w' => ∃ v, e = .returned v ∧ St W.heap.size w' v l ∧ Below W.heap.size W w' := by
  obtain ⟨a8, c8, rfl, h⟩ := h
  have H : Hid (St B W (.slice a8 l.length c8) l) := ⟨a8, c8, rfl, h⟩
  have HL : Hid (∀ t ∈ l, t.s.length ≤ 17592186043904) := hL
  clear h hL
  go_enter Tryz.func58, Tryz.ntmps58
  go_wp2_with fail
  refine (clone84 H.out hl).mono ?_
  rintro e w1 ⟨v, rfl, ⟨svl, hs, ho, hown⟩, hb⟩
  obtain ⟨n, hn⟩ : ∃ n, l.length = n := ⟨_, rfl⟩
  have HN : Hid (l.length = n) := hn
  have HO : Hid (w1.ownsRow W.heap.size 46 4 v n (tcells l svl)) := hn ▸ hown
  have HS : Hid (∀ (i : Nat) (t : Tm) sv, l[i]? = some t → svl[i]? = some sv → Si B W sv t.s) := ho
  have HB : Hid (Below W.heap.size W w1) := hb
  rw [hn] at hl
  clear hown ho hb hn
  rcases HO.out.2 with ⟨rfl, e2⟩ | ⟨g, cap, cur, rfl, hg, hgb, hn, hm, hs2, ht⟩
  · obtain rfl : n = 0 := by have := HO.out.1; rw [e2] at this; simp at this; omega
    clear e2
    have hl0 : l = [] := List.length_eq_zero_iff.1 HN.out
    go_wp2
    go_loopw [10] (fun i wr => i = .int .i64 0 ∧ w1 = wr) (fun i _ => 0)
    case atStart => exact ⟨rfl, rfl⟩
    case round =>
      obtain ⟨rfl, rfl⟩ := hrel
      go_wp2
      go_ret
      exact ⟨_, rfl, ⟨none, 0, by rw [hl0]; rfl, fun h => by rw [hl0] at h; simp at h⟩, HB.out⟩
  · have HC : Hid (Cp B W w1 g l svl 0) := ⟨hs, hg, ⟨cur, ⟨hgb⟩, fun i t sv h1 h2 r hr => by
      have hi : i < n := by rw [← HN.out]; exact (List.getElem?_eq_some_iff.1 h1).1
      rw [← tcells_get l svl hs i t sv h1 h2 r hr, ← ht, List.getElem?_take, if_pos (by omega), Array.getElem?_toList]⟩, fun i t sv _ h1 h2 => HS.out i t sv h1 h2, fun i t sv h0 => by omega, HB.out⟩
    clear hgb ht hs hg
    go_wp2
    go_loopw [10, 4, 5] (fun i _ _ wr => ∃ k : Nat, k ≤ n ∧ i = .int .i64 (k : Int) ∧ ∃ sl, Hid (Cp B W wr g l sl k)) (fun i _ _ _ => n - (intOf i).toNat)
    case atStart => exact ⟨0, Nat.zero_le _, rfl, svl, HC⟩
    case round =>
      obtain ⟨k, hk, rfl, sl, HK⟩ := hrel
      by_cases hlt : k < n
      · have hlt' : (k : Int) < n := by omega
        obtain ⟨t, h1⟩ : ∃ t, l[k]? = some t := ⟨_, List.getElem?_eq_getElem (by rw [HN.out]; exact hlt)⟩
        obtain ⟨sv, h2⟩ : ∃ sv, sl[k]? = some sv := ⟨_, List.getElem?_eq_getElem (by rw [HK.out.len, HN.out]; exact hlt)⟩
        obtain ⟨av, cv, rfl, hsv⟩ := HK.out.old k t sv (Nat.le_refl _) h1 h2
        have HSV : Hid (Si B W (.slice av t.s.length cv) t.s) := ⟨av, cv, rfl, hsv⟩
        obtain ⟨d0, d1, d2, d3, df⟩ := HK.out.cells h1 h2
        have ht9 := HL.out t (List.mem_of_getElem? h1)
        obtain ⟨tv, htv⟩ : ∃ x, t.v = x := ⟨_, rfl⟩
        obtain ⟨ts, hts⟩ : ∃ x, t.set = x := ⟨_, rfl⟩
        obtain ⟨tn, htn⟩ : ∃ x, t.n = x := ⟨_, rfl⟩
        obtain ⟨sn, hsn⟩ : ∃ x, t.s.length = x := ⟨_, rfl⟩
        have HT : Hid (t.v = tv ∧ t.set = ts ∧ t.n = tn ∧ t.s.length = sn) := ⟨htv, hts, htn, hsn⟩
        rw [htv] at d0; rw [hts] at d1; rw [htn] at d2; rw [hsn] at d3
        have H1 : Hid (l[k]? = some t) := h1
        clear htv hts htn hsn h1 h2 hsv
        have hw2 : IntKind.i64.wrap ((k : Int) + 1) = (k : Int) + 1 := by rw [IntKind.wrap_i64]; omega
        have hbA : Below wr.heap.size wr (wr.alloc (Obj.cells #[.int .i64 tv, .bool ts, .int .i64 tn, .slice av sn cv] 46)) := (Below.refl _ wr).alloc (Nat.le_refl _) _
        have hbW : Hid (Below W.heap.size W (wr.alloc (Obj.cells #[.int .i64 tv, .bool ts, .int .i64 tn, .slice av sn cv] 46))) := HK.out.bel.trans (hbA.mono HK.out.bel.size)
        have HK2 : Hid (Cp B W (wr.alloc (Obj.cells #[.int .i64 tv, .bool ts, .int .i64 tn, .slice av sn cv] 46)) g l sl k) := HK.out.below hbA
        go_wp2_with fail
        obtain ⟨e1, e2, e3, e4⟩ := HT.out
        rw [e4] at HSV ht9
        have hcp := copyVal_any (l := t.s) ts tn (HSV.out.below hbW.out) (by rw [e4]; exact ht9)
        clear e1 e2 e3 e4
        refine hcp.mono ?_
        clear hcp
        rintro e w2 ⟨v2, rfl, ⟨a9, c9, rfl, hv⟩, hb⟩
        have HK3 : Hid (Cp B W w2 g l sl k) := HK2.out.below hb
        have HV : Hid (Si (g + 1) w2 (.slice a9 t.s.length c9) t.s) := Si.lower ⟨a9, c9, rfl, hv⟩ (by have := HK2.out.lt; omega)
        obtain ⟨_, h2⟩ : ∃ sv, sl[k]? = some sv := ⟨_, List.getElem?_eq_getElem (by rw [HK.out.len, HN.out]; exact hlt)⟩
        obtain ⟨x0, x1, x2, x3, xf⟩ := HK3.out.cells H1.out h2
        obtain ⟨e1, e2, e3, e4⟩ := HT.out
        have HS9 : Hid (Cp B W (((w2.setCell ⟨g, k * 4 + 1, none⟩ (.bool ts)).setCell ⟨g, k * 4 + 2, none⟩ (.int .i64 tn)).setCell ⟨g, k * 4 + 3, none⟩ (.slice a9 sn c9)) g l (sl.set k (.slice a9 sn c9)) (k + 1)) := by
          have := HK3.out.step H1.out HV.out
          rw [e2, e3, e4] at this
          exact this
        rw [e4]
        clear e1 e2 e3 e4 h2 hv hb hbA d0 d1 d2 d3 df x0
        go_wp2
        go_roundw
        case rel => exact ⟨k + 1, by omega, by go_num, _, HS9⟩
        case measure => simp [intOf]; omega
      · have hlt' : ¬ (k : Int) < n := by omega
        obtain rfl : k = n := by omega
        go_wp2
        go_ret
        exact ⟨_, rfl, by have := HN.out; subst this; exact HK.out.done _, HK.out.bel⟩
end Go.Proofs.YtaeobgajhieajaaGreatDoor

namespace Go.Proofs.YtaeobgajhieajaaGreatDoor
open Go.RowKit Go.Shelf
set_option linter.unusedVariables false
set_option linter.unusedSimpArgs false
theorem St.set {B : Nat} {W : World} {s : Value} {l : List Tm} (h : St B W s l) {g : Nat} (hg : g < B) (i : Nat) (v : Value) : St B (W.setCell ⟨g, i, none⟩ v) s l := by
  obtain ⟨a, c, e, h⟩ := h
  refine ⟨a, c, e, fun h0 => ?_⟩
  obtain ⟨b, off, svl, e1, e0, e2, e3⟩ := h h0
  have hne : b ≠ g := by omega
  exact ⟨b, off, svl, e1, e0, by rw [World.size_setCell]; exact e2, e3.1, fun j t sv h1 h2 => ⟨(e3.2 j t sv h1 h2).1.set hg _ _, fun r u hu => (World.cell?_of_block (w := W) (a := ⟨b, off + j * 4 + r, none⟩) (Below.heap_setCell W ⟨g, i, none⟩ v b hne)).trans ((e3.2 j t sv h1 h2).2 r u hu)⟩⟩

set_option maxRecDepth 100000 in
set_option maxHeartbeats 4000000 in
theorem list_any {B : Nat} {W : World} {s : Value} {l : List Tm} (h : St B W s l) (hl : l.length ≤ 2932031007317) (hL : ∀ t ∈ l, t.s.length ≤ 17592186043904) : Calls Tryz.prog 29 #[s] W fun e w' => ∃ v, e = .returned (.agg #[.bool true, v]) ∧ St W.heap.size w' v l ∧ Below W.heap.size W w' := by
  obtain ⟨a8, c8, rfl, h⟩ := h
  have H : Hid (St B W (.slice a8 l.length c8) l) := ⟨a8, c8, rfl, h⟩
  have HL : Hid (∀ t ∈ l, t.s.length ≤ 17592186043904) := hL
  clear h hL
  go_enter Tryz.func29, Tryz.ntmps29
  go_wp2_with fail
  have hbA : Below W.heap.size W (W.alloc (Obj.cells #[.bool false, .slice none 0 0] 54)) := (Below.refl _ W).alloc (Nat.le_refl _) _
  refine (copyTerms_any (H.out.below hbA) hl HL.out).mono ?_
  rintro e w1 ⟨v, rfl, ⟨a9, c9, rfl, hv⟩, hb⟩
  have HV : Hid (St (W.heap.size + 1) w1 (.slice a9 l.length c9) l) := ⟨a9, c9, rfl, by simpa using hv⟩
  clear hv
  have k1 : Hid (Blk w1 W.heap.size #[.bool false, .slice none 0 0] 54) := (Blk.new W _ _).below hb
  have c0 : w1.cell? ⟨W.heap.size, 0, none⟩ = some (.bool false) := k1.out.cell 0
  have c1 : w1.cell? ⟨W.heap.size, 1, none⟩ = some (.slice none 0 0) := k1.out.cell 1
  have f0 := k1.out.frozen
  have hbW : Hid (Below W.heap.size W w1) := hbA.trans (hb.mono (by simp))
  clear hbA hb
  go_wp2
  exact ⟨rfl, _, results_cell_row (P := Tryz.prog) rfl _ _ W.heap.size 54 _ (0, 0) _ rfl ((k1.out.set 0 _).set 1 _).h Tryz.underlying54 rfl (by kernel_rfl), _, rfl, ((HV.out.set (by omega) _ _).set (by omega) _ _).lower (by omega), hbW.out.trans (((Below.refl _ w1).setCell (by simp) _).setCell (by simp) _)⟩

set_option maxRecDepth 100000 in
set_option maxHeartbeats 4000000 in
theorem one_any {B : Nat} {W : World} {sv : Value} (t : Tm) (h : Si B W sv t.s) (hl : t.s.length ≤ 17592186043904) : Calls Tryz.prog 28 #[.agg #[.int .i64 t.v, .bool t.set, .int .i64 t.n, sv]] W fun e w' => ∃ v, e = .returned (.agg #[.bool false, v]) ∧ St W.heap.size w' v [t] ∧ Below W.heap.size W w' := by
  obtain ⟨a8, c8, rfl, h⟩ := h
  have H : Hid (Si 0 W (.slice a8 t.s.length c8) t.s) := Si.lower ⟨a8, c8, rfl, h⟩ (Nat.zero_le _)
  clear h
  obtain ⟨tv, htv⟩ : ∃ x, t.v = x := ⟨_, rfl⟩
  obtain ⟨ts, hts⟩ : ∃ x, t.set = x := ⟨_, rfl⟩
  obtain ⟨tn, htn⟩ : ∃ x, t.n = x := ⟨_, rfl⟩
  obtain ⟨sn, hsn⟩ : ∃ x, t.s.length = x := ⟨_, rfl⟩
  have HT : Hid (t.v = tv ∧ t.set = ts ∧ t.n = tn ∧ t.s.length = sn) := ⟨htv, hts, htn, hsn⟩
  rw [htv, hts, htn, hsn]
  clear htv hts htn hsn
  go_enter Tryz.func28, Tryz.ntmps28
  go_wp2_with fail
  have hbA : Below W.heap.size W (((W.alloc (Obj.cells #[.int .i64 tv, .bool ts, .int .i64 tn, .slice a8 sn c8] 46)).alloc (Obj.cells #[.bool false, .slice none 0 0] 54)).alloc (Obj.cells #[.int .i64 tv, .bool ts, .int .i64 tn, .slice a8 sn c8] 46)) := (((Below.refl _ W).alloc (Nat.le_refl _) _).alloc (by simp) _).alloc (by simp; omega) _
  have hst : St 0 (((W.alloc (Obj.cells #[.int .i64 tv, .bool ts, .int .i64 tn, .slice a8 sn c8] 46)).alloc (Obj.cells #[.bool false, .slice none 0 0] 54)).alloc (Obj.cells #[.int .i64 tv, .bool ts, .int .i64 tn, .slice a8 sn c8] 46)) (.slice (some ⟨W.heap.size + 2, 0, none⟩) 1 1) [t] := by
    obtain ⟨e1, e2, e3, e4⟩ := HT.out
    refine ⟨_, _, rfl, fun _ => ⟨_, 0, [.slice a8 sn c8], rfl, Nat.zero_le _, by simp, rfl, fun i t' sv h1 h2 => ?_⟩⟩
    have hk := Blk.new ((W.alloc (Obj.cells #[.int .i64 tv, .bool ts, .int .i64 tn, .slice a8 sn c8] 46)).alloc (Obj.cells #[.bool false, .slice none 0 0] 54)) #[.int .i64 tv, .bool ts, .int .i64 tn, .slice a8 sn c8] 46
    rw [World.size_alloc, World.size_alloc] at hk
    match i, h1, h2 with
    | 0, h1, h2 =>
      simp at h1 h2
      subst h1; subst h2
      refine ⟨by have h9 := H.out.below hbA; rw [e4] at h9; exact h9, fun r u hu => ?_⟩
      rw [hk.cell, show 0 + 0 * 4 + r = r by omega, ← hu, Tm.cells, e1, e2, e3]
      simp only [List.getElem?_toArray]
  refine (copyTerms_any hst (by simp) (by intro t' h; simp at h; subst h; exact hl)).mono ?_
  rintro e w1 ⟨v, rfl, ⟨a9, c9, rfl, hv⟩, hb⟩
  have HV : Hid (St (W.heap.size + 3) w1 (.slice a9 [t].length c9) [t]) := ⟨a9, c9, rfl, by simpa using hv⟩
  clear hv hst
  have k1 : Hid (Blk w1 (W.heap.size + 1) #[.bool false, .slice none 0 0] 54) := by
    have := ((Blk.new (W.alloc (Obj.cells #[.int .i64 tv, .bool ts, .int .i64 tn, .slice a8 sn c8] 46)) #[.bool false, .slice none 0 0] 54).alloc _).below hb
    rw [World.size_alloc] at this
    exact this
  have c0 : w1.cell? ⟨W.heap.size + 1, 0, none⟩ = some (.bool false) := k1.out.cell 0
  have c1 : w1.cell? ⟨W.heap.size + 1, 1, none⟩ = some (.slice none 0 0) := k1.out.cell 1
  have f0 := k1.out.frozen
  have hbW : Hid (Below W.heap.size W w1) := hbA.trans (hb.mono (by simp; omega))
  clear hbA hb
  go_wp2
  exact ⟨rfl, _, results_cell_row (P := Tryz.prog) rfl _ _ (W.heap.size + 1) 54 _ (0, 0) _ rfl ((k1.out.set 0 _).set 1 _).h Tryz.underlying54 rfl (by kernel_rfl), _, rfl, ((HV.out.set (by omega) _ _).set (by omega) _ _).lower (by omega), hbW.out.trans (((Below.refl _ w1).setCell (by simp) _).setCell (by simp) _)⟩
end Go.Proofs.YtaeobgajhieajaaGreatDoor
