/-
  What is proved here: more variables behind: what can be can be still.
-/
import Derived.Test.YtaeobgajhieajaaGreatDoorFi
import Derived.Test.YtaeobgajhieajaaGreatDoorDx
import Derived.Test.YtaeobgajhieajaaGreatDoorDg
import Derived.Lib.AppendZeros
namespace Go.Proofs.YtaeobgajhieajaaGreatDoor
open Go.RowKit Go.Shelf
set_option linter.unusedVariables false
set_option linter.unusedSimpArgs false

def boolv (l : List Bool) : List Value := l.map Value.bool
theorem Tryz.info4 : (Tryz.prog.info? 4).map (fun i => (i.zero, i.size, i.bytes)) = some (some (.bool false), 1, 1) := by kernel_rfl
theorem run_appB_none (w : World) (ty : TypeId) (base : Option Addr) (n c c' : Nat) (hle : n ≤ c) : (Builtin.append_ #[33, 33] ty #[.slice base n c, .slice none 0 c']).run Tryz.prog w = .ok (.slice base n c) w := by
  obtain ⟨i0, hi0, hz0, hz1, hz2⟩ := info_parts Tryz.info4
  have hf : (Builtin.firstCells i0.size 0 (.slice none 0 c')).run Tryz.prog w = .ok #[] w := by simp [Builtin.firstCells]
  cases base <;> simp [Builtin.append_, run_underlying Tryz.underlying33, sizeOf, typeInfo, hi0, Builtin.lenOf, hle, hf, storeCells]
theorem boolv_one {l : List Bool} : ∀ u ∈ boolv l, u.oneCell' = true := by
  intro u hu
  simp only [boolv, List.mem_map] at hu
  obtain ⟨x, _, rfl⟩ := hu
  rfl
theorem own_sb {W : World} {base n : Nat} {s : Value} {l : List Bool} (h : W.ownsRow base 4 1 s n (boolv l)) : Sb W s l ∧ n = l.length := by
  have hl : n = l.length := by have := h.1; simp [boolv] at this; omega
  subst hl
  refine ⟨?_, rfl⟩
  rcases h.2 with ⟨e1, e2⟩ | ⟨g, cap, cur, e1, hg, hgb, hn, hm, hs, ht⟩
  · exact ⟨none, 0, by rw [e1, e2], fun h0 => by omega⟩
  · refine ⟨_, cap, e1, fun _ => ⟨g, 0, rfl, (Array.getElem?_eq_some_iff.1 hgb).1, fun i x hx => ?_⟩⟩
    have hi : i < l.length := (List.getElem?_eq_some_iff.1 hx).1
    rw [cell_row hgb, Nat.zero_add]
    have : (boolv l)[i]? = some (.bool x) := by simp [boolv, hx]
    rw [← ht, List.getElem?_take, if_pos (by omega), Array.getElem?_toList] at this
    exact this
/-- Appending truths to truths in own memory. -/
theorem wpList_app_bs (w : World) {ops : Array Oper} {rest : List Oper} {o : Oper} {a : Act} {Q : Exit → Act → World → Prop} (hgd : o.guard = none) (s x : Operand) (ho : o.op = .call { callee := .builtin .append, args := #[s, x], argTypes := #[33, 33] })
    (B : Nat) (vo : Value) (n : Nat) (L : List Bool) (hs : a.eval s = vo) (hown : w.ownsRow B 4 1 vo n (boolv L)) (sx : Value) (M : List Bool) (hx : a.eval x = sx) (hsx : Sb w sx M) (hB : B ≤ w.heap.size) (hn : n + M.length ≤ 1000000000000)
    (h : ∀ v' w', w'.ownsRow B 4 1 v' (n + M.length) (boolv (L ++ M)) → Below B w w' → wpList Tryz.prog ops Q rest (a.put o.dst v') w') : wpList Tryz.prog ops Q (o :: rest) a w := by
  obtain ⟨i0, hi0, hz0, hz1, hz2⟩ := info_parts Tryz.info4
  obtain ⟨ax, cx, rfl, hcx⟩ := hsx
  have hbel : ∀ w', w.grownBy w' vo.ownBlock → Below B w w' := fun w' hg => (Below.refl _ w).grown hg hB (fun k e => by
    rcases hown.2 with ⟨e1, _⟩ | ⟨g', cap, cur, e1, hg', hgb, _⟩
    · rw [e1] at e; cases e
    · rw [e1] at e
      injection e with e
      subst e
      exact hg')
  cases ax with
  | none =>
    have h0 : M.length = 0 := by
      apply Classical.byContradiction; intro hn
      obtain ⟨_, _, e, _⟩ := hcx (by omega)
      cases e
    obtain rfl := List.eq_nil_of_length_eq_zero h0
    have hsh : ∃ p c, vo = .slice p n c ∧ n ≤ c := by
      rcases hown.2 with ⟨e1, e2⟩ | ⟨g', cap, cur, e1, _, _, hnc, _⟩
      · exact ⟨none, 0, by rw [e1, e2], by omega⟩
      · exact ⟨_, cap, e1, hnc⟩
    obtain ⟨p, c, rfl, hpc⟩ := hsh
    refine Lib.wpList_append_run w hgd s x 33 33 ho _ _ hs hx _ _ (run_appB_none w _ p n c cx hpc) (h _ _ ?_ (Below.refl _ _))
    rw [List.append_nil]
    exact hown
  | some ad =>
    rcases Nat.eq_zero_or_pos M.length with h0 | h0
    · obtain rfl := List.eq_nil_of_length_eq_zero h0
      refine wpList_append_own _ hgd s x 33 ho B 4 i0 (.bool false) 1 1 Tryz.underlying33 hi0 hz0 hz1 hz2 rfl (by decide) _ _ _ hs hown ad 0 cx [] hx rfl (fun j u h => by simp at h) (fun u h => by simp at h) (by unfold maxLen; simp at hn; omega) (by simp at hn; omega) hB ?_
      intro v' w' h1 h2 _
      exact h v' w' (by simpa [boolv] using h1) (hbel w' h2)
    · obtain ⟨b, off, e, hlt, hcell⟩ := hcx h0
      injection e with e
      subst e
      refine wpList_append_own _ hgd s x 33 ho B 4 i0 (.bool false) 1 1 Tryz.underlying33 hi0 hz0 hz1 hz2 rfl (by decide) _ _ _ hs hown ⟨b, off, none⟩ M.length cx (boolv M) hx (by simp [boolv]) (fun j u hj => ?_) boolv_one (by unfold maxLen; omega) (by omega) hB ?_
      · simp only [boolv, List.getElem?_map, Option.map_eq_some_iff] at hj
        obtain ⟨y, hy, rfl⟩ := hj
        rw [Addr.add_lit]
        exact hcell j y hy
      · intro v' w' h1 h2 _
        exact h v' w' (by simpa [boolv] using h1) (hbel w' h2)
theorem right_ok {nm : List UInt8} {ags : List Ag} {bs : List Bool} (h : rightB nm ags bs = 0) : (findT nm).2 ≠ [] ∧ eqB ags (partsF (findT nm).2) = true ∧ ags.any longB = false ∧ tkL (partTk bs (partsF (findT nm).2)) ags ags.length = true ∧ fitsB nm ags = true := by
  unfold rightB at h
  by_cases hF : (findT nm).2 = []
  · rw [if_pos hF] at h; omega
  · rw [if_neg hF] at h
    unfold rightV at h
    refine ⟨hF, ?_⟩
    cases h1 : eqB ags (partsF (findT nm).2) <;> cases h2 : ags.any longB <;> cases h3 : tkL (partTk bs (partsF (findT nm).2)) ags ags.length <;> cases h4 : fitsB nm ags <;> simp [h1, h2, h3, h4] at h ⊢
theorem right_yes {nm : List UInt8} {ags : List Ag} {bs : List Bool} (h0 : (findT nm).2 ≠ []) (h1 : eqB ags (partsF (findT nm).2) = true) (h2 : ags.any longB = false) (h3 : tkL (partTk bs (partsF (findT nm).2)) ags ags.length = true) (h4 : fitsB nm ags = true) : rightB nm ags bs = 0 := by
  unfold rightB
  rw [if_neg h0, h1, h2, h3, h4]
  rfl
theorem tkL_all {tk : Nat → Tm → Bool} {ags : List Ag} : ∀ n, tkL tk ags n = true ↔ ∀ (k : Nat) (g : Ag), k < n → ags[k]? = some g → ∀ t ∈ g.l, tk k t = true
  | 0 => by simp [tkL]
  | n + 1 => by
    rw [tkL, Bool.and_eq_true, tkL_all n]
    constructor
    · rintro ⟨h1, h2⟩ k g hk hg t ht
      by_cases hkn : k = n
      · subst hkn; rw [hg] at h2; exact List.all_eq_true.1 h2 t ht
      · exact h1 k g (by omega) hg t ht
    · intro h
      refine ⟨fun k g hk hg t ht => h k g (by omega) hg t ht, ?_⟩
      cases hg : ags[n]? with
      | none => rfl
      | some g => exact List.all_eq_true.2 fun t ht => h n g (by omega) hg t ht
theorem varB_more {bs ms : List Bool} {st : Bool} {v : Int} (h : varB bs st v = true) : varB (bs ++ ms) st v = true ∧ 0 ≤ v ∧ v < bs.length := by
  unfold varB at h ⊢
  rw [Bool.and_eq_true] at h
  cases hx : bs[v.toNat]? with
  | none => rw [hx] at h; simp at h
  | some x =>
    have hi : v.toNat < bs.length := (List.getElem?_eq_some_iff.1 hx).1
    have h0 : 0 ≤ v := by simpa using h.1
    rw [hx] at h
    rw [List.getElem?_append_left hi, hx, Bool.and_eq_true]
    exact ⟨h, h0, by omega⟩
theorem takesB_more {bs ms : List Bool} {st : Bool} {lo hi : Int} {t : Tm} (h : takesB isSB bs st lo hi t = true) : takesB isSB (bs ++ ms) st lo hi t = true ∧ (0 ≤ t.v → t.v < bs.length) := by
  unfold takesB at h ⊢
  by_cases hv : t.v = -1
  · rw [if_pos hv] at h ⊢; exact ⟨h, fun h0 => by omega⟩
  · rw [if_neg hv, Bool.and_eq_true] at h
    rw [if_neg hv, Bool.and_eq_true]
    obtain ⟨h1, h2, h3⟩ := varB_more (ms := ms) h.1
    exact ⟨⟨h1, h.2⟩, fun _ => h3⟩
theorem takesP_more {bs ms : List Bool} {l : List UInt8} {t : Tm} (h : takesP bs l t = true) : takesP (bs ++ ms) l t = true ∧ (0 ≤ t.v → t.v < bs.length) := by
  unfold takesP at h ⊢
  have e0 : ∀ {st lo hi}, takesB isSB [] st lo hi t = true → takesB isSB [] st lo hi t = true ∧ (0 ≤ t.v → t.v < bs.length) := fun h => ⟨h, fun h0 => by have := (takesB_more (ms := []) h).2 h0; simp at this; omega⟩
  by_cases q1 : l = [105]
  · rw [if_pos q1] at h ⊢; exact e0 h
  · rw [if_neg q1] at h ⊢
    by_cases q2 : l = [98]
    · rw [if_pos q2] at h ⊢; exact e0 h
    · rw [if_neg q2] at h ⊢
      by_cases q3 : l = [115]
      · rw [if_pos q3] at h ⊢; exact e0 h
      · rw [if_neg q3] at h ⊢
        by_cases q4 : l = [73]
        · rw [if_pos q4] at h ⊢; exact takesB_more h
        · rw [if_neg q4] at h ⊢
          by_cases q5 : l = [66]
          · rw [if_pos q5] at h ⊢; exact takesB_more h
          · rw [if_neg q5] at h ⊢; exact takesB_more h
theorem right_more {nm : List UInt8} {ags : List Ag} {bs ms : List Bool} (h : rightB nm ags bs = 0) : rightB nm ags (bs ++ ms) = 0 := by
  obtain ⟨h0, h1, h2, h3, h4⟩ := right_ok h
  refine right_yes h0 h1 h2 ?_ h4
  rw [tkL_all] at h3 ⊢
  intro k g hk hg t ht
  have := h3 k g hk hg t ht
  unfold partTk at this ⊢
  cases hp : (partsF (findT nm).2)[k]? with
  | none => rfl
  | some p => rw [hp] at this; exact (takesP_more this).1
theorem right_vars {nm : List UInt8} {ags : List Ag} {bs : List Bool} (h : rightB nm ags bs = 0) : ∀ x ∈ varsA ags, 0 ≤ x ∧ x < bs.length := by
  obtain ⟨h0, h1, h2, h3, h4⟩ := right_ok h
  obtain ⟨hl, _⟩ := eq_len h1
  rw [tkL_all] at h3
  intro x hx
  simp only [varsA, varsL, List.mem_flatMap, List.mem_map, List.mem_filter, decide_eq_true_eq] at hx
  obtain ⟨g, hg, t, ⟨ht, h5⟩, rfl⟩ := hx
  obtain ⟨k, hk⟩ := List.mem_iff_getElem?.1 hg
  have hkl := (List.getElem?_eq_some_iff.1 hk).1
  have := h3 k g hkl hk t ht
  unfold partTk at this
  rw [List.getElem?_eq_getElem (show k < (partsF (findT nm).2).length by omega)] at this
  exact ⟨h5, (takesP_more (ms := []) this).2 h5⟩
theorem vars_few {ags : List Ag} (hl : ∀ g ∈ ags, g.l.length ≤ 1000) : (varsA ags).length ≤ 1000 * ags.length := by
  induction ags with
  | nil => simp [varsA]
  | cons g r ih =>
    have h1 := ih (fun x hx => hl x (List.mem_cons_of_mem _ hx))
    have h2 : (varsL g.l).length ≤ 1000 := by
      refine Nat.le_trans ?_ (hl g List.mem_cons_self)
      unfold varsL
      rw [List.length_map]
      exact List.length_filter_le _ _
    have : varsA (g :: r) = varsL g.l ++ varsA r := by simp [varsA]
    rw [this, List.length_append, List.length_cons]
    omega
end Go.Proofs.YtaeobgajhieajaaGreatDoor
