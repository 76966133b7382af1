/-
  What is proved here: constraints in own memory: how they read, and what a store leaves.
-/
import Derived.Test.YtaeobgajhieajaaGreatDoorJb
namespace Go.Proofs.YtaeobgajhieajaaGreatDoor
open Go.RowKit Go.Shelf
set_option linter.unusedVariables false
set_option linter.unusedSimpArgs false

theorem own_cell {w : World} {B e size n : Nat} {v : Value} {xs : List Value} (h : w.ownsRow B e size v n xs) {j : Nat} {u : Value} (hu : xs[j]? = some u) : ∃ g cap cur, v = .slice (some ⟨g, 0, none⟩) n cap ∧ B ≤ g ∧ Blk w g cur e ∧ n ≤ cap ∧ cap ≤ maxLen ∧ w.cell? ⟨g, j, none⟩ = some u := by
  have hj := (List.getElem?_eq_some_iff.1 hu).1
  rcases h.2 with ⟨e1, e2⟩ | ⟨g, cap, cur, e1, hg, hgb, hn, hm, hs, ht⟩
  · rw [h.1, e2] at hj; simp at hj
  · refine ⟨g, cap, cur, e1, hg, ⟨hgb⟩, hn, hm, ?_⟩
    rw [cell_row hgb]
    rw [← ht, List.getElem?_take] at hu
    split at hu
    · rwa [Array.getElem?_toList] at hu
    · cases hu
theorem own_caps {w : World} {B e size n : Nat} {p : Option Addr} {c : Nat} {xs : List Value} (h : w.ownsRow B e size (.slice p n c) n xs) : n ≤ c ∧ c ≤ 9223372036854775807 := by
  rcases h.2 with ⟨e1, e2⟩ | ⟨g, cap, cur, e1, hg, hgb, hn, hm, hs, ht⟩
  · injection e1 with _ _ e3
    omega
  · injection e1 with _ _ e3
    subst e3
    unfold maxLen at hm
    exact ⟨hn, by omega⟩
theorem lo_st {B H : Nat} {w : World} {s : Value} {l : List Tm} (h : Lo B H w s l) : St B w s l := by
  obtain ⟨tvl, h1, h2, h3, h4⟩ := h
  obtain ⟨p, c, rfl⟩ := own_shape h3
  refine ⟨p, c, rfl, fun h0 => ?_⟩
  rcases h3.2 with ⟨e1, e2⟩ | ⟨g, cap, cur, e1, hg, hgb, _⟩
  · omega
  · injection e1 with e1 _ _
    refine ⟨g, 0, tvl, e1, hg, (Array.getElem?_eq_some_iff.1 hgb).1, h1, fun i t sv a b => ⟨own_si (h2 i t sv a b), fun r u hu => ?_⟩⟩
    have hr : r < 4 := by have := (List.getElem?_eq_some_iff.1 hu).1; simpa [Tm.cells] using this
    obtain ⟨g', cap', cur', e2, _, _, _, _, hc⟩ := own_cell h3 ((tcells_get l tvl h1 i t sv a b r hr).trans hu)
    rw [e1] at e2
    injection e2 with e2 _ _
    injection e2 with e2
    injection e2 with e2 _ _
    subst e2
    rw [Nat.zero_add]
    exact hc
theorem acells_get : ∀ (l : List Ag) (svl : List Value), svl.length = l.length → ∀ i g sv, l[i]? = some g → svl[i]? = some sv → (acells l svl)[i * 2]? = some (.bool g.arr) ∧ (acells l svl)[i * 2 + 1]? = some sv
  | [], _, _, i, t, sv, h1, _ => by simp at h1
  | t' :: l, [], h, _, _, _, _, _ => by simp at h
  | t' :: l, sv' :: svl, h, 0, t, sv, h1, h2 => by
    simp at h1 h2; subst h1; subst h2
    exact ⟨rfl, rfl⟩
  | t' :: l, sv' :: svl, h, i + 1, t, sv, h1, h2 => by
    have e : (i + 1) * 2 = i * 2 + 1 + 1 := by omega
    have := acells_get l svl (by simpa using h) i t sv (by simpa using h1) (by simpa using h2)
    rw [acells, e]
    simpa using this
theorem ao_sa {B : Nat} {w : World} {s : Value} {l : List Ag} (h : Ao B w s l) : Sa B w s l ∧ ∃ p c, s = .slice p l.length c ∧ l.length ≤ c ∧ c ≤ 9223372036854775807 := by
  obtain ⟨svl, bnd, h1, h2, h3, h4, h5⟩ := h
  obtain ⟨p, c, rfl⟩ := own_shape h5
  refine ⟨⟨p, c, rfl, fun h0 => ?_⟩, p, c, rfl, own_caps h5⟩
  rcases h5.2 with ⟨e1, e2⟩ | ⟨g, cap, cur, e1, hg, hgb, _⟩
  · omega
  · injection e1 with e1 _ _
    subst e1
    refine ⟨g, 0, svl, rfl, hg, (Array.getElem?_eq_some_iff.1 hgb).1, h1, fun i t sv a b => ?_⟩
    obtain ⟨a1, a2⟩ := acells_get l svl h1 i t sv a b
    obtain ⟨g1, _, _, e2, _, _, _, _, hc1⟩ := own_cell h5 a1
    obtain ⟨g2, _, _, e3, _, _, _, _, hc2⟩ := own_cell h5 a2
    injection e2 with e2 _ _
    injection e2 with e2
    injection e2 with e2 _ _
    injection e3 with e3 _ _
    injection e3 with e3
    injection e3 with e3 _ _
    subst e2
    subst e3
    rw [Nat.zero_add]
    exact ⟨(lo_st (h4 i t sv a b)).lower (h2 i).1, hc1, hc2⟩
theorem tcells_set : ∀ (l : List Tm) (svl : List Value), svl.length = l.length → ∀ i t x, l[i]? = some t → tcells (l.set i ⟨x, t.set, t.n, t.s⟩) svl = (tcells l svl).set (i * 4) (.int .i64 x)
  | [], _, _, i, t, x, h1 => by simp at h1
  | t' :: l, [], h, _, _, _, _ => by simp at h
  | t' :: l, sv' :: svl, h, 0, t, x, h1 => by
    simp at h1; subst h1
    rfl
  | t' :: l, sv' :: svl, h, i + 1, t, x, h1 => by
    have e : (i + 1) * 4 = i * 4 + 1 + 1 + 1 + 1 := by omega
    have := tcells_set l svl (by simpa using h) i t x (by simpa using h1)
    rw [List.set_cons_succ, tcells, tcells, e, this]
    rfl
theorem Lo.other {B H k : Nat} {w : World} {s : Value} {l : List Tm} {cs : Array Value} (h : Lo B H w s l) (hk : Blk w k cs 46) (ho : k < B ∨ H ≤ k) (i : Nat) (v : Value) : Lo B H (w.setCell ⟨k, i, none⟩ v) s l := by
  obtain ⟨tvl, h1, h2, h3, h4⟩ := h
  refine ⟨tvl, h1, fun i t tv a b => own_keepT (h2 i t tv a b) (keep_set hk _ _) (by decide), ⟨h3.1, ?_⟩, h4⟩
  rcases h3.2 with e | ⟨g, cap, cur, e1, hg, hgb, r⟩
  · exact .inl e
  · refine .inr ⟨g, cap, cur, e1, hg, ?_, r⟩
    have hgH : g < H := h4 g (by rw [e1]; rfl)
    rw [Below.heap_setCell w ⟨k, i, none⟩ v g (by show g ≠ k; omega)]
    exact hgb
theorem lo_set {B H : Nat} {w : World} {s : Value} {l : List Tm} (h : Lo B H w s l) {i : Nat} {t : Tm} (ht : l[i]? = some t) : ∃ g cap cur, s = .slice (some ⟨g, 0, none⟩) l.length cap ∧ B ≤ g ∧ g < H ∧ Blk w g cur 46 ∧ w.cell? ⟨g, i * 4, none⟩ = some (.int .i64 t.v) ∧ ∀ x, Lo B H (w.setCell ⟨g, i * 4, none⟩ (.int .i64 x)) s (l.set i ⟨x, t.set, t.n, t.s⟩) := by
  obtain ⟨tvl, h1, h2, h3, h4⟩ := h
  have hi : i < l.length := (List.getElem?_eq_some_iff.1 ht).1
  rcases h3.2 with ⟨e1, e2⟩ | ⟨g, cap, cur, e1, hg, hgb, hn, hm, hs, hk⟩
  · omega
  · have KB : Blk w g cur 46 := ⟨hgb⟩
    have hc : (tcells l tvl)[i * 4]? = some (.int .i64 t.v) := by
      have := tcells_get l tvl h1 i t (tvl[i]'(by omega)) ht (List.getElem?_eq_getElem (by omega)) 0 (by omega)
      rw [Nat.add_zero] at this
      rw [this]
      rfl
    refine ⟨g, cap, cur, e1, hg, h4 g (by rw [e1]; rfl), KB, ?_, fun x => ?_⟩
    · obtain ⟨g', _, _, e2, _, _, _, _, hc2⟩ := own_cell h3 hc
      rw [e1] at e2
      injection e2 with e2 _ _
      injection e2 with e2
      injection e2 with e2 _ _
      subst e2
      exact hc2
    · refine ⟨tvl, by rw [List.length_set]; exact h1, fun j t' tv a b => ?_, ⟨?_, ?_⟩, h4⟩
      · refine own_keepT ?_ (keep_set KB _ _) (by decide)
        by_cases e : j = i
        · subst e
          rw [List.getElem?_set_self hi] at a
          injection a with a
          subst a
          exact h2 j t tv ht b
        · rw [List.getElem?_set_ne (fun q => e q.symm)] at a
          exact h2 j t' tv a b
      · rw [tcells_length _ _ (by rw [List.length_set]; exact h1)]
      · refine .inr ⟨g, cap, cur.setIfInBounds (i * 4) (.int .i64 x), by rw [List.length_set]; exact e1, hg, (KB.set _ _).h, by rw [List.length_set]; exact hn, hm, by rw [Array.size_setIfInBounds]; exact hs, ?_⟩
        rw [tcells_set l tvl h1 i t x ht, List.length_set, Array.toList_setIfInBounds, List.take_set, hk]
theorem blk_ne {w : World} {a b : Nat} {cs ds : Array Value} {s t : TypeId} (h : Blk w a cs s) (k : Blk w b ds t) (hst : s ≠ t) : a ≠ b := fun e => by
  subst e
  have h1 := h.h
  rw [k.h] at h1
  injection h1 with h1
  injection h1 with _ h2 _
  exact hst h2.symm
theorem bnd_mono {bnd : Nat → Nat} (h : ∀ j, bnd j ≤ bnd (j + 1)) (a : Nat) : ∀ d, bnd a ≤ bnd (a + d)
  | 0 => Nat.le_refl _
  | d + 1 => Nat.le_trans (bnd_mono h a d) (h (a + d))
theorem acells_set : ∀ (l : List Ag) (svl : List Value) (i : Nat) (g : Ag) (L : List Tm), l[i]? = some g → acells (l.set i ⟨g.arr, L⟩) svl = acells l svl
  | [], _, i, t, x, h1 => by simp at h1
  | t' :: l, [], 0, t, x, h1 => rfl
  | t' :: l, [], i + 1, t, x, h1 => rfl
  | t' :: l, sv' :: svl, 0, t, x, h1 => by
    simp at h1; subst h1
    rfl
  | t' :: l, sv' :: svl, i + 1, t, x, h1 => by
    rw [List.set_cons_succ, acells, acells, acells_set l svl i t x (by simpa using h1)]
theorem ao_set {B : Nat} {w : World} {s : Value} {ags : List Ag} (h : Ao B w s ags) {j : Nat} {g : Ag} (hg : ags[j]? = some g) : ∃ bA cA sv, s = .slice (some ⟨bA, 0, none⟩) ags.length cA ∧ B ≤ bA ∧ (∃ curA, Blk w bA curA 54) ∧ w.cell? ⟨bA, j * 2 + 1, none⟩ = some sv ∧ (∃ p c, sv = .slice p g.l.length c) ∧ ∀ (i : Nat) (t : Tm), g.l[i]? = some t → ∃ b cb cur, sv = .slice (some ⟨b, 0, none⟩) g.l.length cb ∧ B ≤ b ∧ Blk w b cur 46 ∧ w.cell? ⟨b, i * 4, none⟩ = some (.int .i64 t.v) ∧ ∀ x, Ao B (w.setCell ⟨b, i * 4, none⟩ (.int .i64 x)) s (ags.set j ⟨g.arr, g.l.set i ⟨x, t.set, t.n, t.s⟩⟩) := by
  obtain ⟨svl, bnd, h1, h2, h3, h4, h5⟩ := h
  have hj : j < ags.length := (List.getElem?_eq_some_iff.1 hg).1
  have hsv : svl[j]? = some (svl[j]'(by omega)) := List.getElem?_eq_getElem (by omega)
  obtain ⟨sv, hsv2⟩ : ∃ sv, svl[j]'(by omega) = sv := ⟨_, rfl⟩
  rw [hsv2] at hsv
  obtain ⟨bA, cA, curA, e1, hb1, hb2, _, _, hc⟩ := own_cell h5 (acells_get ags svl h1 j g sv hg hsv).2
  have hlo := h4 j g sv hg hsv
  refine ⟨bA, cA, sv, e1, hb1, ⟨curA, hb2⟩, hc, own_shape hlo.choose_spec.2.2.1, fun i t ht => ?_⟩
  obtain ⟨b, cb, cur, e2, hB, hH, KB, hcell, hset⟩ := lo_set hlo ht
  refine ⟨b, cb, cur, e2, Nat.le_trans (h2 j).1 hB, KB, hcell, fun x => ?_⟩
  refine ⟨svl, bnd, by rw [List.length_set]; exact h1, h2, by rw [List.length_set, World.size_setCell]; exact h3, fun j' g' sv' a c => ?_, ?_⟩
  · by_cases e : j' = j
    · subst e
      rw [List.getElem?_set_self hj] at a
      injection a with a
      subst a
      rw [hsv] at c
      injection c with c
      subst c
      exact hset x
    · rw [List.getElem?_set_ne (fun q => e q.symm)] at a
      refine (h4 j' g' sv' a c).other KB ?_ _ _
      rcases Nat.lt_or_gt_of_ne e with q | q
      · right
        have := bnd_mono (fun k => (h2 k).2) (j' + 1) (j - (j' + 1))
        rw [show j' + 1 + (j - (j' + 1)) = j by omega] at this
        omega
      · left
        have := bnd_mono (fun k => (h2 k).2) (j + 1) (j' - (j + 1))
        rw [show j + 1 + (j' - (j + 1)) = j' by omega] at this
        omega
  · rw [acells_set ags svl j g _ hg, List.length_set]
    exact own_keepT h5 (keep_set KB _ _) (by decide)
/-- A list whose first elements are turned. -/
def half {α : Type} (f : α → α) (k : Nat) (l : List α) : List α := (l.take k).map f ++ l.drop k
theorem half_get {α : Type} {f : α → α} {k : Nat} {l : List α} {t : α} (h : l[k]? = some t) : (half f k l)[k]? = some t := by
  have hk := (List.getElem?_eq_some_iff.1 h).1
  unfold half
  rw [List.getElem?_append_right (by simp; omega)]
  simp only [List.length_map, List.length_take, List.getElem?_drop]
  rw [show k + (k - min k l.length) = k by omega]
  exact h
theorem half_set {α : Type} {f : α → α} {k : Nat} {l : List α} {t : α} (h : l[k]? = some t) : (half f k l).set k (f t) = half f (k + 1) l := by
  obtain ⟨hk, rfl⟩ := List.getElem?_eq_some_iff.1 h
  unfold half
  rw [List.set_append_right _ _ (by simp; omega), List.take_succ_eq_append_getElem hk, List.map_append, List.append_assoc, List.drop_eq_getElem_cons hk]
  simp only [List.length_map, List.length_take]
  rw [show k - min k l.length = 0 by omega]
  rfl
theorem half_len {α : Type} (f : α → α) (k : Nat) (l : List α) : (half f k l).length = l.length := by
  unfold half
  simp
  omega
theorem half_all {α : Type} (f : α → α) (l : List α) : half f l.length l = l.map f := by unfold half; simp
theorem half_zero {α : Type} (f : α → α) (l : List α) : half f 0 l = l := by unfold half; simp
end Go.Proofs.YtaeobgajhieajaaGreatDoor
