/-
  What is proved here: more variables behind: what can be can be still.
  What is proved here: the walk of ConsMore.
-/
import Derived.Test.YtaeobgajhieajaaGreatDoorFi
import Derived.Test.YtaeobgajhieajaaGreatDoorDvj
import Derived.Test.YtaeobgajhieajaaGreatDoorDfj
import Derived.Lib.AppendZeros
namespace Go.Proofs.YtaeobgajhieajaaGreatDoor
open Go.RowKit Go.Shelf
set_option linter.unusedVariables false
set_option linter.unusedSimpArgs false

def boolv (l : List Bool) : List Value := l.map Value.bool
theorem Tryz.info4 : (Tryz.prog.info? 4).map (fun i => (i.zero, i.size, i.bytes)) = some (some (.bool false), 1, 1) := by kernel_rfl
theorem run_appB_none (w : World) (ty : TypeId) (base : Option Addr) (n c c' : Nat) (hle : n ≤ c) : (Builtin.append_ #[33, 33] ty #[.slice base n c, .slice none 0 c']).run Tryz.prog w = .ok (.slice base n c) w := by
  obtain ⟨i0, hi0, hz0, hz1, hz2⟩ := info_parts Tryz.info4
  have hf : (Builtin.firstCells i0.size 0 (.slice none 0 c')).run Tryz.prog w = .ok #[] w := by simp [Builtin.firstCells]
  cases base <;> simp [Builtin.append_, run_underlying Tryz.underlying33, sizeOf, typeInfo, hi0, Builtin.lenOf, hle, hf, storeCells]
theorem boolv_one {l : List Bool} : ∀ u ∈ boolv l, u.oneCell' = true := by
  intro u hu
  simp only [boolv, List.mem_map] at hu
  obtain ⟨x, _, rfl⟩ := hu
  rfl
theorem own_sb {W : World} {base n : Nat} {s : Value} {l : List Bool} (h : W.ownsRow base 4 1 s n (boolv l)) : Sb W s l ∧ n = l.length := by
  have hl : n = l.length := by have := h.1; simp [boolv] at this; omega
  subst hl
  refine ⟨?_, rfl⟩
  rcases h.2 with ⟨e1, e2⟩ | ⟨g, cap, cur, e1, hg, hgb, hn, hm, hs, ht⟩
  · exact ⟨none, 0, by rw [e1, e2], fun h0 => by omega⟩
  · refine ⟨_, cap, e1, fun _ => ⟨g, 0, rfl, (Array.getElem?_eq_some_iff.1 hgb).1, fun i x hx => ?_⟩⟩
    have hi : i < l.length := (List.getElem?_eq_some_iff.1 hx).1
    rw [cell_row hgb, Nat.zero_add]
    have : (boolv l)[i]? = some (.bool x) := by simp [boolv, hx]
    rw [← ht, List.getElem?_take, if_pos (by omega), Array.getElem?_toList] at this
    exact this
/-- Appending truths to truths in own memory. -/
theorem wpList_app_bs (w : World) {ops : Array Oper} {rest : List Oper} {o : Oper} {a : Act} {Q : Exit → Act → World → Prop} (hgd : o.guard = none) (s x : Operand) (ho : o.op = .call { callee := .builtin .append, args := #[s, x], argTypes := #[33, 33] })
    (B : Nat) (vo : Value) (n : Nat) (L : List Bool) (hs : a.eval s = vo) (hown : w.ownsRow B 4 1 vo n (boolv L)) (sx : Value) (M : List Bool) (hx : a.eval x = sx) (hsx : Sb w sx M) (hB : B ≤ w.heap.size) (hn : n + M.length ≤ 1000000000000)
    (h : ∀ v' w', w'.ownsRow B 4 1 v' (n + M.length) (boolv (L ++ M)) → Below B w w' → wpList Tryz.prog ops Q rest (a.put o.dst v') w') : wpList Tryz.prog ops Q (o :: rest) a w := by
  obtain ⟨i0, hi0, hz0, hz1, hz2⟩ := info_parts Tryz.info4
  obtain ⟨ax, cx, rfl, hcx⟩ := hsx
  have hbel : ∀ w', w.grownBy w' vo.ownBlock → Below B w w' := fun w' hg => (Below.refl _ w).grown hg hB (fun k e => by
    rcases hown.2 with ⟨e1, _⟩ | ⟨g', cap, cur, e1, hg', hgb, _⟩
    · rw [e1] at e; cases e
    · rw [e1] at e
      injection e with e
      subst e
      exact hg')
  cases ax with
  | none =>
    have h0 : M.length = 0 := by
      apply Classical.byContradiction; intro hn
      obtain ⟨_, _, e, _⟩ := hcx (by omega)
      cases e
    obtain rfl := List.eq_nil_of_length_eq_zero h0
    have hsh : ∃ p c, vo = .slice p n c ∧ n ≤ c := by
      rcases hown.2 with ⟨e1, e2⟩ | ⟨g', cap, cur, e1, _, _, hnc, _⟩
      · exact ⟨none, 0, by rw [e1, e2], by omega⟩
      · exact ⟨_, cap, e1, hnc⟩
    obtain ⟨p, c, rfl, hpc⟩ := hsh
    refine Lib.wpList_append_run w hgd s x 33 33 ho _ _ hs hx _ _ (run_appB_none w _ p n c cx hpc) (h _ _ ?_ (Below.refl _ _))
    rw [List.append_nil]
    exact hown
  | some ad =>
    rcases Nat.eq_zero_or_pos M.length with h0 | h0
    · obtain rfl := List.eq_nil_of_length_eq_zero h0
      refine wpList_append_own _ hgd s x 33 ho B 4 i0 (.bool false) 1 1 Tryz.underlying33 hi0 hz0 hz1 hz2 rfl (by decide) _ _ _ hs hown ad 0 cx [] hx rfl (fun j u h => by simp at h) (fun u h => by simp at h) (by unfold maxLen; simp at hn; omega) (by simp at hn; omega) hB ?_
      intro v' w' h1 h2 _
      exact h v' w' (by simpa [boolv] using h1) (hbel w' h2)
    · obtain ⟨b, off, e, hlt, hcell⟩ := hcx h0
      injection e with e
      subst e
      refine wpList_append_own _ hgd s x 33 ho B 4 i0 (.bool false) 1 1 Tryz.underlying33 hi0 hz0 hz1 hz2 rfl (by decide) _ _ _ hs hown ⟨b, off, none⟩ M.length cx (boolv M) hx (by simp [boolv]) (fun j u hj => ?_) boolv_one (by unfold maxLen; omega) (by omega) hB ?_
      · simp only [boolv, List.getElem?_map, Option.map_eq_some_iff] at hj
        obtain ⟨y, hy, rfl⟩ := hj
        rw [Addr.add_lit]
        exact hcell j y hy
      · intro v' w' h1 h2 _
        exact h v' w' (by simpa [boolv] using h1) (hbel w' h2)
theorem right_ok {nm : List UInt8} {ags : List Ag} {bs : List Bool} (h : rightB nm ags bs = 0) : (findT nm).2 ≠ [] ∧ eqB ags (partsF (findT nm).2) = true ∧ ags.any longB = false ∧ tkL (partTk bs (partsF (findT nm).2)) ags ags.length = true ∧ fitsB nm ags = true := by
  unfold rightB at h
  by_cases hF : (findT nm).2 = []
  · rw [if_pos hF] at h; omega
  · rw [if_neg hF] at h
    unfold rightV at h
    refine ⟨hF, ?_⟩
    cases h1 : eqB ags (partsF (findT nm).2) <;> cases h2 : ags.any longB <;> cases h3 : tkL (partTk bs (partsF (findT nm).2)) ags ags.length <;> cases h4 : fitsB nm ags <;> simp [h1, h2, h3, h4] at h ⊢
theorem right_yes {nm : List UInt8} {ags : List Ag} {bs : List Bool} (h0 : (findT nm).2 ≠ []) (h1 : eqB ags (partsF (findT nm).2) = true) (h2 : ags.any longB = false) (h3 : tkL (partTk bs (partsF (findT nm).2)) ags ags.length = true) (h4 : fitsB nm ags = true) : rightB nm ags bs = 0 := by
  unfold rightB
  rw [if_neg h0, h1, h2, h3, h4]
  rfl
theorem tkL_all {tk : Nat → Tm → Bool} {ags : List Ag} : ∀ n, tkL tk ags n = true ↔ ∀ (k : Nat) (g : Ag), k < n → ags[k]? = some g → ∀ t ∈ g.l, tk k t = true
  | 0 => by simp [tkL]
  | n + 1 => by
    rw [tkL, Bool.and_eq_true, tkL_all n]
    constructor
    · rintro ⟨h1, h2⟩ k g hk hg t ht
      by_cases hkn : k = n
      · subst hkn; rw [hg] at h2; exact List.all_eq_true.1 h2 t ht
      · exact h1 k g (by omega) hg t ht
    · intro h
      refine ⟨fun k g hk hg t ht => h k g (by omega) hg t ht, ?_⟩
      cases hg : ags[n]? with
      | none => rfl
      | some g => exact List.all_eq_true.2 fun t ht => h n g (by omega) hg t ht
theorem varB_more {bs ms : List Bool} {st : Bool} {v : Int} (h : varB bs st v = true) : varB (bs ++ ms) st v = true ∧ 0 ≤ v ∧ v < bs.length := by
  unfold varB at h ⊢
  rw [Bool.and_eq_true] at h
  cases hx : bs[v.toNat]? with
  | none => rw [hx] at h; simp at h
  | some x =>
    have hi : v.toNat < bs.length := (List.getElem?_eq_some_iff.1 hx).1
    have h0 : 0 ≤ v := by simpa using h.1
    rw [hx] at h
    rw [List.getElem?_append_left hi, hx, Bool.and_eq_true]
    exact ⟨h, h0, by omega⟩
theorem takesB_more {bs ms : List Bool} {st : Bool} {lo hi : Int} {t : Tm} (h : takesB isSB bs st lo hi t = true) : takesB isSB (bs ++ ms) st lo hi t = true ∧ (0 ≤ t.v → t.v < bs.length) := by
  unfold takesB at h ⊢
  by_cases hv : t.v = -1
  · rw [if_pos hv] at h ⊢; exact ⟨h, fun h0 => by omega⟩
  · rw [if_neg hv, Bool.and_eq_true] at h
    rw [if_neg hv, Bool.and_eq_true]
    obtain ⟨h1, h2, h3⟩ := varB_more (ms := ms) h.1
    exact ⟨⟨h1, h.2⟩, fun _ => h3⟩
theorem takesP_more {bs ms : List Bool} {l : List UInt8} {t : Tm} (h : takesP bs l t = true) : takesP (bs ++ ms) l t = true ∧ (0 ≤ t.v → t.v < bs.length) := by
  unfold takesP at h ⊢
  have e0 : ∀ {st lo hi}, takesB isSB [] st lo hi t = true → takesB isSB [] st lo hi t = true ∧ (0 ≤ t.v → t.v < bs.length) := fun h => ⟨h, fun h0 => by have := (takesB_more (ms := []) h).2 h0; simp at this; omega⟩
  by_cases q1 : l = [105]
  · rw [if_pos q1] at h ⊢; exact e0 h
  · rw [if_neg q1] at h ⊢
    by_cases q2 : l = [98]
    · rw [if_pos q2] at h ⊢; exact e0 h
    · rw [if_neg q2] at h ⊢
      by_cases q3 : l = [115]
      · rw [if_pos q3] at h ⊢; exact e0 h
      · rw [if_neg q3] at h ⊢
        by_cases q4 : l = [73]
        · rw [if_pos q4] at h ⊢; exact takesB_more h
        · rw [if_neg q4] at h ⊢
          by_cases q5 : l = [66]
          · rw [if_pos q5] at h ⊢; exact takesB_more h
          · rw [if_neg q5] at h ⊢; exact takesB_more h
theorem right_more {nm : List UInt8} {ags : List Ag} {bs ms : List Bool} (h : rightB nm ags bs = 0) : rightB nm ags (bs ++ ms) = 0 := by
  obtain ⟨h0, h1, h2, h3, h4⟩ := right_ok h
  refine right_yes h0 h1 h2 ?_ h4
  rw [tkL_all] at h3 ⊢
  intro k g hk hg t ht
  have := h3 k g hk hg t ht
  unfold partTk at this ⊢
  cases hp : (partsF (findT nm).2)[k]? with
  | none => rfl
  | some p => rw [hp] at this; exact (takesP_more this).1
theorem right_vars {nm : List UInt8} {ags : List Ag} {bs : List Bool} (h : rightB nm ags bs = 0) : ∀ x ∈ varsA ags, 0 ≤ x ∧ x < bs.length := by
  obtain ⟨h0, h1, h2, h3, h4⟩ := right_ok h
  obtain ⟨hl, _⟩ := eq_len h1
  rw [tkL_all] at h3
  intro x hx
  simp only [varsA, varsL, List.mem_flatMap, List.mem_map, List.mem_filter, decide_eq_true_eq] at hx
  obtain ⟨g, hg, t, ⟨ht, h5⟩, rfl⟩ := hx
  obtain ⟨k, hk⟩ := List.mem_iff_getElem?.1 hg
  have hkl := (List.getElem?_eq_some_iff.1 hk).1
  have := h3 k g hkl hk t ht
  unfold partTk at this
  rw [List.getElem?_eq_getElem (show k < (partsF (findT nm).2).length by omega)] at this
  exact ⟨h5, (takesP_more (ms := []) this).2 h5⟩
theorem vars_few {ags : List Ag} (hl : ∀ g ∈ ags, g.l.length ≤ 1000) : (varsA ags).length ≤ 1000 * ags.length := by
  induction ags with
  | nil => simp [varsA]
  | cons g r ih =>
    have h1 := ih (fun x hx => hl x (List.mem_cons_of_mem _ hx))
    have h2 : (varsL g.l).length ≤ 1000 := by
      refine Nat.le_trans ?_ (hl g List.mem_cons_self)
      unfold varsL
      rw [List.length_map]
      exact List.length_filter_le _ _
    have : varsA (g :: r) = varsL g.l ++ varsA r := by simp [varsA]
    rw [this, List.length_append, List.length_cons]
    omega
end Go.Proofs.YtaeobgajhieajaaGreatDoor

namespace Go.Proofs.YtaeobgajhieajaaGreatDoor
open Go.RowKit Go.Shelf
set_option linter.unusedVariables false
set_option linter.unusedSimpArgs false

theorem compact_mem (L : List Int) : ∀ x ∈ Lib.compact L, x ∈ L := by
  intro x hx
  unfold Lib.compact Lib.compactUpTo at hx
  obtain ⟨j, hj, rfl⟩ := List.mem_map.1 hx
  have hj2 := (List.mem_filter.1 hj).1
  have hlt : j < L.length := List.mem_range.1 hj2
  rw [getElem!_pos L.toArray j (by simpa using hlt)]
  simp
theorem own_at3 {X : World} {B n : Nat} {v : Value} {L : List Int} (h : X.ownsRow B 3 1 v n (intv L)) : ∃ p c, v = .slice p n c ∧ n = L.length ∧ ∀ (i : Nat) (x : Int), L[i]? = some x → ∃ g, p = some ⟨g, 0, none⟩ ∧ g < X.heap.size ∧ X.cell? ⟨g, i, none⟩ = some (.int .i64 x) := by
  have hl : n = L.length := by have := h.1; simp [intv] at this; omega
  rcases h.2 with ⟨e1, e2⟩ | ⟨g, cap, cur, e1, hg, hgb, hn, hm, hs, ht⟩
  · exact ⟨none, 0, by rw [e1, e2], hl, fun i x hx => by have := (List.getElem?_eq_some_iff.1 hx).1; omega⟩
  · refine ⟨_, cap, e1, hl, fun i x hx => ⟨g, rfl, (Array.getElem?_eq_some_iff.1 hgb).1, ?_⟩⟩
    have hi : i < L.length := (List.getElem?_eq_some_iff.1 hx).1
    rw [cell_row hgb]
    have : (intv L)[i]? = some (.int .i64 x) := by simp [intv, hx]
    rw [← ht, List.getElem?_take, if_pos (by omega), Array.getElem?_toList] at this
    exact this

set_option maxRecDepth 100000 in
set_option maxHeartbeats 4000000 in
theorem more_walk (nm : List UInt8) (ags : List Ag) (bs ms : List Bool) {a0 : Option Addr} {n0 c0 : Nat} {a1 : Option Addr} {n1 c1 : Nat} {a2 : Option Addr} {n2 c2 : Nat} (W : World) (hM : MaxL W) (h : Sa 0 W (.slice a0 n0 c0) ags) (hlen : ags.length = n0) (hc : n0 ≤ c0) (hc9 : c0 ≤ 9223372036854775807)
    (hb : Sb W (.slice a1 n1 c1) bs) (hbn : bs.length = n1) (hm : Sb W (.slice a2 n2 c2) ms) (hmn : ms.length = n2) (hn1 : n1 ≤ 100000000000) (hn2 : n2 ≤ 100000000000) (hn : n0 ≤ 4398046510976) (hl : ∀ g ∈ ags, g.l.length ≤ 4398046510976) (hs : ∀ g ∈ ags, ∀ t ∈ g.l, t.s.length ≤ 17592186043904) :
    Calls Tryz.prog 6 #[.agg #[.string ⟨nm.toArray⟩, .slice a0 n0 c0], .slice a1 n1 c1, .slice a2 n2 c2] W fun e w' => e = .returned (.bool true) ∧ Below W.heap.size W w' := by
  have HQ : Hid (n0 ≤ c0 ∧ c0 ≤ 9223372036854775807 ∧ n0 ≤ 4398046510976 ∧ (∀ g ∈ ags, g.l.length ≤ 4398046510976) ∧ ∀ g ∈ ags, ∀ t ∈ g.l, t.s.length ≤ 17592186043904) := ⟨hc, hc9, hn, hl, hs⟩
  have HN : Hid (ags.length = n0 ∧ bs.length = n1 ∧ ms.length = n2) := ⟨hlen, hbn, hmn⟩
  have HA : Hid (Sa 0 W (.slice a0 n0 c0) ags) := h
  have HBS : Hid (Sb W (.slice a1 n1 c1) bs) := hb
  have HMS : Hid (Sb W (.slice a2 n2 c2) ms) := hm
  have HM : Hid (MaxL W) := hM
  have KR : Hid (∀ X, Below W.heap.size W X → Calls Tryz.prog 18 #[.agg #[.string ⟨nm.toArray⟩, .slice a0 n0 c0], .slice a1 n1 c1] X fun e w' => e = .returned (.int .i64 (rightB nm ags bs)) ∧ Below X.heap.size X w') := fun X hX => right_any nm (hM.below hX hM.1) (h.below hX) hlen hc hc9 (hb.below hX) hbn hn hl hs
  have KN : Hid (∀ X, Below W.heap.size W X → Calls Tryz.prog 14 #[] X fun e w' => e = .returned (.bool true) ∧ Below X.heap.size X w') := fun X hX => known14 X (hM.below hX hM.1)
  clear hlen hc hc9 hbn hmn hn hl hs h hb hm hM
  obtain ⟨WA, hWA⟩ : ∃ X, W.alloc (Obj.cells #[.string ⟨nm.toArray⟩, .slice a0 n0 c0] 32) = X := ⟨_, rfl⟩
  have HB : Hid (Below W.heap.size W WA) := by rw [Hid, ← hWA]; exact (Below.refl _ W).alloc (Nat.le_refl _) _
  have KC : Hid (Blk WA W.heap.size #[.string ⟨nm.toArray⟩, .slice a0 n0 c0] 32) := by rw [Hid, ← hWA]; exact Blk.new W _ _
  have HWA : Hid (W.alloc (Obj.cells #[.string ⟨nm.toArray⟩, .slice a0 n0 c0] 32) = WA) := hWA
  obtain ⟨bC, hbC⟩ : ∃ x, W.heap.size = x := ⟨_, rfl⟩
  have HBC : Hid (W.heap.size = bC) := hbC
  rw [hbC] at KC
  clear hWA hbC
  have x0 : WA.cell? ⟨bC, 0, none⟩ = some (.string ⟨nm.toArray⟩) := KC.out.cell 0
  have x1 : WA.cell? ⟨bC, 1, none⟩ = some (.slice a0 n0 c0) := KC.out.cell 1
  have kR := KR.out WA HB.out
  obtain ⟨r, hr⟩ : ∃ r, rightB nm ags bs = r := ⟨_, rfl⟩
  rw [hr] at kR
  have HR : Hid (rightB nm ags bs = r) := hr
  clear hr
  go_enter Tryz.func6, Tryz.ntmps6
  go_upto_region 1 with (fail)
  rw [HWA.out, HBC.out]
  clear HWA
  go_wp2_with fail
  refine kR.mono ?_
  clear kR x0 x1
  rintro e w1 ⟨rfl, hb⟩
  replace HB : Hid (Below W.heap.size W w1) := HB.out.trans (hb.mono HB.out.size)
  replace KC : Hid (Blk w1 bC #[.string ⟨nm.toArray⟩, .slice a0 n0 c0] 32) := Blk.below KC.out hb
  clear hb
  by_cases hr0 : r = 0
  · subst hr0
    have HV : Hid (∀ x ∈ varsA ags, 0 ≤ x ∧ x < bs.length) := right_vars HR.out
    have HMO : Hid (rightB nm ags (bs ++ ms) = 0) := right_more HR.out
    have HFEW : Hid ((varsA ags).length ≤ 100000) := by
      obtain ⟨h0, h1, h2, _⟩ := right_ok HR.out
      have h3 := (eq_len h1).1
      have h4 := (find_ok nm h0).2.1
      have h5 := vars_few (ags := ags) (fun g hg => by
        have := List.any_eq_false.1 h2 g hg
        simp [longB] at this
        omega)
      rw [Hid]
      omega
    have HLQ : Hid (ags.length ≤ 1000000000000 ∧ ∀ g ∈ ags, g.l.length ≤ 1000000000000) := by
      obtain ⟨h0, h1, h2, _⟩ := right_ok HR.out
      have h3 := (eq_len h1).1
      have h4 := (find_ok nm h0).2.1
      refine ⟨by omega, fun g hg => ?_⟩
      have := List.any_eq_false.1 h2 g hg
      simp [longB] at this
      omega
    have hq1 := HBS.out.below HB.out
    have HBW1 : Hid (Below W.heap.size W w1) := HB
    have KC1 : Hid (Blk w1 bC #[.string ⟨nm.toArray⟩, .slice a0 n0 c0] 32) := KC
    have HBC1 : Hid (bC < w1.heap.size) := KC.out.lt
    go_wp2_with (at_builtin; refine wpList_app_bs _ rfl _ _ rfl w1.heap.size _ 0 [] rfl (World.ownsRow_nil _ _ _ _) _ bs rfl hq1 (Nat.le_refl _) (by have := HN.out.2.1; omega) ?_; intro v2 w2 hown2 hb2; refine Hid.out ?_)
    refine (show Hid _ from ?_)
    unfold Hid
    rw [List.nil_append, Nat.zero_add] at hown2
    replace HB : Hid (Below W.heap.size W w2) := HB.out.trans (hb2.mono HB.out.size)
    replace KC : Hid (Blk w2 bC #[.string ⟨nm.toArray⟩, .slice a0 n0 c0] 32) := Blk.below KC.out hb2
    obtain ⟨p2, q2, rfl⟩ := own_shape hown2
    have HO2 : Hid (w2.ownsRow w1.heap.size 4 1 (.slice p2 bs.length q2) bs.length (boolv bs)) := hown2
    have hq2 := HMS.out.below HB.out
    have HS1 : Hid (w1.heap.size ≤ w2.heap.size) := hb2.size
    have HW1 : Hid (Below w1.heap.size w1 w2) := hb2
    have HBL : Hid (bC < w1.heap.size) := HBC1.out
    clear hown2 hb2 hq1
    go_wp2_with (at_builtin; refine wpList_app_bs _ rfl _ _ rfl w1.heap.size _ bs.length bs rfl HO2.out _ ms rfl hq2 HS1.out (by have := HN.out; omega) ?_; intro v3 w3 hown3 hb3; refine Hid.out ?_)
    refine (show Hid _ from ?_)
    unfold Hid
    replace HB : Hid (Below W.heap.size W w3) := HBW1.out.trans ((HW1.out.trans hb3).mono HBW1.out.size)
    replace KC : Hid (Blk w3 bC #[.string ⟨nm.toArray⟩, .slice a0 n0 c0] 32) := Blk.below KC1.out (HW1.out.trans hb3)
    obtain ⟨p3, q3, rfl⟩ := own_shape hown3
    have HSB : Hid (Sb w3 (.slice p3 (bs.length + ms.length) q3) (bs ++ ms)) := (own_sb hown3).1
    clear hown3 hb3 hq2 HO2 HS1
    have x0 : w3.cell? ⟨bC, 0, none⟩ = some (.string ⟨nm.toArray⟩) := KC.out.cell 0
    have x1 : w3.cell? ⟨bC, 1, none⟩ = some (.slice a0 n0 c0) := KC.out.cell 1
    have kV := vars_any ⟨nm.toArray⟩ (HA.out.below HB.out) HLQ.out.1 HLQ.out.2 (by have := HFEW.out; omega) (by have := Lib.compact_length_le (sortL (varsA ags)); rwa [sortL_len] at this)
    go_wp2_with fail
    refine kV.mono ?_
    clear kV x0 x1
    rintro e w4 ⟨v, rfl, hown, hb4⟩
    replace HB : Hid (Below W.heap.size W w4) := HB.out.trans (hb4.mono HB.out.size)
    replace KC : Hid (Blk w4 bC #[.string ⟨nm.toArray⟩, .slice a0 n0 c0] 32) := Blk.below KC.out hb4
    replace HSB : Hid (Sb w4 (.slice p3 (bs.length + ms.length) q3) (bs ++ ms)) := Sb.below HSB.out hb4
    obtain ⟨pv, cv, rfl, _, hcv⟩ := own_at3 hown
    obtain ⟨L, hL⟩ : ∃ L, Lib.compact (sortL (varsA ags)) = L := ⟨_, rfl⟩
    have HLV : Hid (∀ x ∈ L, 0 ≤ x ∧ x < bs.length) := fun x hx => by
      rw [← hL] at hx
      exact HV.out x (by have := compact_mem _ x hx; unfold sortL at this; exact (List.mem_mergeSort).1 this)
    rw [hL] at hcv ⊢
    have HLL : Hid (L.length ≤ 100000) := by have h1 := Lib.compact_length_le (sortL (varsA ags)); rw [sortL_len, hL] at h1; exact Nat.le_trans h1 HFEW.out
    obtain ⟨ln, hln⟩ : ∃ x, L.length = x := ⟨_, rfl⟩
    have HLN : Hid (L.length = ln) := hln
    have HCV : Hid (∀ (i : Nat) (x : Int), L[i]? = some x → ∃ g, pv = some ⟨g, 0, none⟩ ∧ g < w4.heap.size ∧ w4.cell? ⟨g, i, none⟩ = some (.int .i64 x)) := hcv
    rw [hln]
    obtain ⟨bn, hbn⟩ : ∃ x, bs.length = x := ⟨_, rfl⟩
    rw [hbn] at HLV
    have hb1 : bn = n1 := by rw [← hbn]; exact HN.out.2.1
    subst hb1
    have HBN : Hid (bs.length = bn) := hbn
    rw [hbn] at HSB ⊢
    clear hown hb4 hcv hL hln hbn
    have hln9 : ln ≤ 100000 := by rw [← HLN.out]; exact HLL.out
    go_wp2
    go_loopw [9] (fun i wr => ∃ k : Nat, k ≤ ln ∧ i = .int .i64 (k : Int) ∧ wr = w4) (fun i _ => ln - (intOf i).toNat)
    case atStart => exact ⟨0, Nat.zero_le _, rfl, rfl⟩
    case round =>
      obtain ⟨k, hk, rfl, rfl⟩ := hrel
      by_cases hlt : k < ln
      · have hlt' : (k : Int) < ln := by omega
        obtain ⟨x, hx⟩ : ∃ x, L[k]? = some x := ⟨_, List.getElem?_eq_getElem (by rw [HLN.out]; exact hlt)⟩
        obtain ⟨g, rfl, hg, y0⟩ := HCV.out k x hx
        obtain ⟨z1, z2⟩ := HLV.out x (List.mem_of_getElem? hx)
        have z1' : ¬ x < 0 := by omega
        have z2' : ¬ (bn : Int) ≤ x := by omega
        have hw2 : IntKind.i64.wrap ((k : Int) + 1) = (k : Int) + 1 := by rw [IntKind.wrap_i64]; omega
        clear hx
        go_wp2
        go_roundw
        case rel => exact ⟨k + 1, by omega, by go_num, trivial⟩
        case measure => simp [intOf]; omega
      · have hlt' : ¬ (k : Int) < ln := by omega
        have x0 : wr.cell? ⟨bC, 0, none⟩ = some (.string ⟨nm.toArray⟩) := KC.out.cell 0
        have x1 : wr.cell? ⟨bC, 1, none⟩ = some (.slice a0 n0 c0) := KC.out.cell 1
        have kR := right_any nm (HM.out.below HB.out HM.out.1) (HA.out.below HB.out) HN.out.1 HQ.out.1 HQ.out.2.1 HSB.out (by rw [List.length_append, HBN.out]) HQ.out.2.2.1 HQ.out.2.2.2.1 HQ.out.2.2.2.2
        rw [HMO.out] at kR
        go_wp2_with fail
        refine kR.mono ?_
        clear kR x0 x1
        rintro e w5 ⟨rfl, hb5⟩
        have HB5 : Hid (Below W.heap.size W w5) := HB.out.trans (hb5.mono HB.out.size)
        clear hb5
        go_wp2_with fail
        refine (KN.out w5 HB5.out).mono ?_
        rintro e w6 ⟨rfl, hb6⟩
        have HB6 : Hid (Below W.heap.size W w6) := HB5.out.trans (hb6.mono HB5.out.size)
        clear hb6
        go_wp2
        go_ret
        exact ⟨rfl, HB6.out⟩
  · have hrq : (r != 0) = true := by simpa using hr0
    have hrq2 : (r == 0) = false := by simpa using hr0
    go_wp2_with fail
    refine (KN.out w1 HB.out).mono ?_
    rintro e w2 ⟨rfl, hb2⟩
    have HB2 : Hid (Below W.heap.size W w2) := HB.out.trans (hb2.mono HB.out.size)
    clear hb2
    go_wp2
    go_ret
    exact ⟨rfl, HB2.out⟩
end Go.Proofs.YtaeobgajhieajaaGreatDoor
