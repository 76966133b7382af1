/-
  What is proved here: terms in memory; copyTerms.
-/
import Derived.Test.YtaeobgajhieajaaGreatDoorDb
namespace Go.Proofs.YtaeobgajhieajaaGreatDoor
open Go.RowKit Go.Shelf
set_option linter.unusedVariables false
set_option linter.unusedSimpArgs false
/-- A term. -/
structure Tm where
  v : Int
  set : Bool
  n : Int
  s : List Int
/-- The cells of a term, whose set lies in sv. -/
def Tm.cells (t : Tm) (sv : Value) : List Value := [.int .i64 t.v, .bool t.set, .int .i64 t.n, sv]
/-- Terms in a block from off on, whose sets lie from B on. -/
def Tr (B : Nat) (W : World) (b off : Nat) (l : List Tm) (svl : List Value) : Prop := svl.length = l.length ∧ ∀ i t sv, l[i]? = some t → svl[i]? = some sv → Si B W sv t.s ∧ ∀ r u, (t.cells sv)[r]? = some u → W.cell? ⟨b, off + i * 4 + r, none⟩ = some u
/-- A slice of terms in memory. -/
def St (B : Nat) (W : World) (s : Value) (l : List Tm) : Prop := ∃ a c, s = .slice a l.length c ∧ (0 < l.length → ∃ b off svl, a = some ⟨b, off, none⟩ ∧ B ≤ b ∧ b < W.heap.size ∧ Tr B W b off l svl)
theorem Tr.below {B : Nat} {W W' : World} {b off : Nat} {l : List Tm} {svl : List Value} (h : Tr B W b off l svl) (hlt : b < W.heap.size) (hb : Below W.heap.size W W') : Tr B W' b off l svl :=
  ⟨h.1, fun i t sv h1 h2 => ⟨(h.2 i t sv h1 h2).1.below hb, fun r u hu => (hb.cell (p := ⟨b, off + i * 4 + r, none⟩) hlt).trans ((h.2 i t sv h1 h2).2 r u hu)⟩⟩
theorem Tr.lower {B B' : Nat} {W : World} {b off : Nat} {l : List Tm} {svl : List Value} (h : Tr B W b off l svl) (hb : B' ≤ B) : Tr B' W b off l svl :=
  ⟨h.1, fun i t sv h1 h2 => ⟨(h.2 i t sv h1 h2).1.lower hb, (h.2 i t sv h1 h2).2⟩⟩
theorem St.below {B : Nat} {W W' : World} {s : Value} {l : List Tm} (h : St B W s l) (hb : Below W.heap.size W W') : St B W' s l := by
  obtain ⟨a, c, e, h⟩ := h
  exact ⟨a, c, e, fun h0 => by obtain ⟨b, off, svl, e1, e0, e2, e3⟩ := h h0; exact ⟨b, off, svl, e1, e0, Nat.lt_of_lt_of_le e2 hb.size, e3.below e2 hb⟩⟩
theorem St.lower {B B' : Nat} {W : World} {s : Value} {l : List Tm} (h : St B W s l) (hb : B' ≤ B) : St B' W s l := by
  obtain ⟨a, c, e, h⟩ := h
  exact ⟨a, c, e, fun h0 => by obtain ⟨b, off, svl, e1, e0, e2, e3⟩ := h h0; exact ⟨b, off, svl, e1, Nat.le_trans hb e0, e2, e3.lower hb⟩⟩
/-- All cells of some terms. -/
def tcells : List Tm → List Value → List Value
  | t :: l, sv :: svl => t.cells sv ++ tcells l svl
  | _, _ => []
theorem tcells_length : ∀ (l : List Tm) (svl : List Value), svl.length = l.length → (tcells l svl).length = l.length * 4
  | [], _, _ => by simp [tcells]
  | t :: l, [], h => by simp at h
  | t :: l, sv :: svl, h => by simp [tcells, Tm.cells, tcells_length l svl (by simpa using h)]; omega
theorem tcells_get : ∀ (l : List Tm) (svl : List Value), svl.length = l.length → ∀ i t sv, l[i]? = some t → svl[i]? = some sv → ∀ r, r < 4 → (tcells l svl)[i * 4 + r]? = (t.cells sv)[r]?
  | [], _, _, i, t, sv, h1, _, r, _ => by simp at h1
  | t' :: l, [], h, _, _, _, _, _, _, _ => by simp at h
  | t' :: l, sv' :: svl, h, 0, t, sv, h1, h2, r, hr => by
    simp at h1 h2; subst h1; subst h2
    rw [tcells, List.getElem?_append_left (by simp [Tm.cells]; omega)]; simp
  | t' :: l, sv' :: svl, h, i + 1, t, sv, h1, h2, r, hr => by
    have e : (i + 1) * 4 + r = i * 4 + r + 4 := by omega
    rw [tcells, e, List.getElem?_append_right (by simp [Tm.cells]), show (t'.cells sv').length = 4 from rfl, Nat.add_sub_cancel]
    exact tcells_get l svl (by simpa using h) i t sv (by simpa using h1) (by simpa using h2) r hr
theorem tcells_all {l : List Tm} {svl : List Value} (h : svl.length = l.length) {j : Nat} {u : Value} (hu : (tcells l svl)[j]? = some u) : ∃ i r t sv, j = i * 4 + r ∧ r < 4 ∧ l[i]? = some t ∧ svl[i]? = some sv ∧ (t.cells sv)[r]? = some u := by
  have hj := (List.getElem?_eq_some_iff.1 hu).1
  rw [tcells_length _ _ h] at hj
  have hi : j / 4 < l.length := by omega
  refine ⟨j / 4, j % 4, l[j / 4], svl[j / 4]'(by omega), by omega, by omega, List.getElem?_eq_getElem hi, List.getElem?_eq_getElem (by omega), ?_⟩
  rw [← tcells_get l svl h (j / 4) _ _ (List.getElem?_eq_getElem hi) (List.getElem?_eq_getElem (by omega)) (j % 4) (by omega), show j / 4 * 4 + j % 4 = j by omega, hu]

set_option maxRecDepth 100000 in
set_option maxHeartbeats 4000000 in
theorem clone84 {B : Nat} {W : World} {s : Value} {l : List Tm} (h : St B W s l) (hl : l.length ≤ 2932031007317) : Calls Tryz.prog 84 #[s] W fun e w' => ∃ v, e = .returned v ∧ (∃ svl : List Value, svl.length = l.length ∧ (∀ (i : Nat) (t : Tm) sv, l[i]? = some t → svl[i]? = some sv → Si B W sv t.s) ∧ w'.ownsRow W.heap.size 46 4 v l.length (tcells l svl)) ∧ Below W.heap.size W w' := by
  obtain ⟨a, c, rfl, h⟩ := h
  rcases Nat.eq_zero_or_pos l.length with h0 | h0
  · have : l = [] := List.length_eq_zero_iff.1 h0
    subst this
    exact (clone0_84 a c W).mono fun e w' ⟨v, e1, e2, e3⟩ => ⟨v, e1, ⟨[], rfl, by intro i t sv h1 _; simp at h1, e2⟩, e3⟩
  · obtain ⟨b, off, svl, rfl, hB, hb, hs, hc⟩ := h h0
    obtain ⟨i0, hi0, hz0, hz1, hz2⟩ := info_parts Tryz.info46
    refine (AnyE.slices_Clone Tryz.laysClone84 i0 _ 4 48 hi0 hz0 hz1 hz2 rfl (by omega) Tryz.sizeOf46 b off l.length c (tcells l svl) W (tcells_length _ _ hs) (by unfold maxLen; omega) (by omega) ?_ ?_).mono fun e w' ⟨v, e1, e2, _, e3⟩ => ⟨v, e1, ⟨svl, hs, fun i t sv h1 h2 => (hc i t sv h1 h2).1, e2⟩, e3⟩
    · intro j u hu
      obtain ⟨i, r, t, sv, rfl, hr, h1, h2, h3⟩ := tcells_all hs hu
      have := (hc i t sv h1 h2).2 r u h3
      rwa [Nat.add_assoc] at this
    · intro u hu
      obtain ⟨j, hj⟩ := List.mem_iff_getElem?.1 hu
      obtain ⟨i, r, t, sv, _, hr, h1, h2, h3⟩ := tcells_all hs hj
      obtain ⟨⟨a', c', rfl, _⟩, _⟩ := hc i t sv h1 h2
      match r, hr with
      | 0, _ => simp [Tm.cells] at h3; subst h3; rfl
      | 1, _ => simp [Tm.cells] at h3; subst h3; rfl
      | 2, _ => simp [Tm.cells] at h3; subst h3; rfl
      | 3, _ => simp [Tm.cells] at h3; subst h3; rfl
end Go.Proofs.YtaeobgajhieajaaGreatDoor
