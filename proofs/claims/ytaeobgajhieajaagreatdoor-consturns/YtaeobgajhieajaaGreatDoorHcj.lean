/-
  What is proved here: a constraint with its variables turned can be just as before: the mathematics.
  What is proved here: how many variables there are, turned or not; what a set is: the mathematics.
  What is proved here: constraints in own memory, as deep as they go; the reference's Lent.
-/
import Derived.Test.YtaeobgajhieajaaGreatDoorHaj
namespace Go.Proofs.YtaeobgajhieajaaGreatDoor
open Go.RowKit Go.Shelf
set_option linter.unusedVariables false
set_option linter.unusedSimpArgs false

/-- A variable's number, turned by some places. -/
def tvN (n r : Nat) (v : Int) : Int := if 0 ≤ v ∧ v < n then (v + r) % n else v
def turnT (n r : Nat) (t : Tm) : Tm := ⟨tvN n r t.v, t.set, t.n, t.s⟩
def turnA (n r : Nat) (g : Ag) : Ag := ⟨g.arr, g.l.map (turnT n r)⟩
theorem tvN_in {n r : Nat} {v : Int} (h : 0 ≤ v ∧ v < n) : 0 ≤ tvN n r v ∧ tvN n r v < n := by
  unfold tvN
  rw [if_pos h]
  exact ⟨Int.emod_nonneg _ (by omega), Int.emod_lt_of_pos _ (by omega)⟩
theorem tvN_neg {n r : Nat} {v : Int} : tvN n r v = -1 ↔ v = -1 := by
  by_cases h : 0 ≤ v ∧ v < n
  · have := tvN_in (r := r) h; omega
  · unfold tvN; rw [if_neg h]
/-- The truths turned. -/
def Turned (r : Nat) (bs ks : List Bool) : Prop := ks.length = bs.length ∧ ∀ (i : Nat) (x : Bool), bs[i]? = some x → ks[(i + r) % bs.length]? = some x
theorem varB_turn {r : Nat} {bs ks : List Bool} (h : Turned r bs ks) (st : Bool) (v : Int) : varB ks st (tvN bs.length r v) = varB bs st v := by
  by_cases hv : 0 ≤ v ∧ v < bs.length
  · have hi : v.toNat < bs.length := by omega
    have h1 := h.2 v.toNat bs[v.toNat] (List.getElem?_eq_getElem hi)
    have h2 := tvN_in (r := r) hv
    have h3 : (tvN bs.length r v).toNat = (v.toNat + r) % bs.length := by
      unfold tvN
      rw [if_pos hv]
      have : (v + r) % (bs.length : Int) = (((v.toNat + r) % bs.length : Nat) : Int) := by
        rw [Int.natCast_emod, Int.natCast_add, Int.toNat_of_nonneg hv.1]
      rw [this]
      exact Int.toNat_natCast _
    unfold varB
    rw [h3, h1, List.getElem?_eq_getElem hi, decide_eq_true h2.1, decide_eq_true hv.1]
  · have e : tvN bs.length r v = v := by unfold tvN; rw [if_neg hv]
    rw [e]
    unfold varB
    by_cases h0 : 0 ≤ v
    · rw [List.getElem?_eq_none (by have := h.1; omega), List.getElem?_eq_none (by omega)]
    · rw [decide_eq_false h0]; rfl
theorem takesB_turn {r : Nat} {bs ks : List Bool} (h : Turned r bs ks) (st : Bool) (lo hi : Int) (t : Tm) : takesB isSB ks st lo hi (turnT bs.length r t) = takesB isSB bs st lo hi t := by
  unfold takesB
  by_cases hv : t.v = -1
  · rw [if_pos hv, if_pos (show (turnT bs.length r t).v = -1 from tvN_neg.2 hv)]
    rfl
  · rw [if_neg hv, if_neg (show ¬ (turnT bs.length r t).v = -1 from fun e => hv (tvN_neg.1 e))]
    rw [show (turnT bs.length r t).v = tvN bs.length r t.v from rfl, varB_turn h]
    rfl
theorem takesB_turn0 (n r : Nat) (st : Bool) (lo hi : Int) (t : Tm) : takesB isSB [] st lo hi (turnT n r t) = takesB isSB [] st lo hi t := by
  unfold takesB
  by_cases hv : t.v = -1
  · rw [if_pos hv, if_pos (show (turnT n r t).v = -1 from tvN_neg.2 hv)]
    rfl
  · rw [if_neg hv, if_neg (show ¬ (turnT n r t).v = -1 from fun e => hv (tvN_neg.1 e))]
    simp [varB]
theorem takesP_turn {r : Nat} {bs ks : List Bool} (h : Turned r bs ks) (l : List UInt8) (t : Tm) : takesP ks l (turnT bs.length r t) = takesP bs l t := by
  unfold takesP
  rw [takesB_turn0, takesB_turn0, takesB_turn0, takesB_turn h, takesB_turn h, takesB_turn h]
theorem turn_len (n r : Nat) (g : Ag) : (turnA n r g).l.length = g.l.length := by simp [turnA]
theorem turn_num (n r : Nat) (g : Ag) : numL (turnA n r g) = numL g := by
  unfold numL turnA
  rw [List.map_map]
  rfl
theorem shaped_turn (n r : Nat) (g : Ag) (p : List UInt8) : shapedB (turnA n r g) p = shapedB g p := by
  unfold shapedB
  rw [turn_len]
  rfl
theorem eqF_turn (n r : Nat) (ags : List Ag) (parts : List (List UInt8)) (m : Nat) : eqF (ags.map (turnA n r)) parts m = eqF ags parts m := by
  unfold eqF
  congr 1
  funext k
  rw [List.getElem?_map]
  cases h1 : ags[k]? with
  | none => rfl
  | some g =>
    cases h2 : parts[k]? with
    | none => rfl
    | some p => simp [shaped_turn]
theorem eqB_turn (n r : Nat) (ags : List Ag) (parts : List (List UInt8)) : eqB (ags.map (turnA n r)) parts = eqB ags parts := by
  unfold eqB
  rw [List.length_map, eqF_turn]
theorem long_turn (n r : Nat) (ags : List Ag) : (ags.map (turnA n r)).any longB = ags.any longB := by
  rw [List.any_map]
  congr 1
  funext g
  simp [longB, turn_len]
theorem many_turn (n r : Nat) (ags : List Ag) : manyB (ags.map (turnA n r)) = manyB ags := by
  cases ags with
  | nil => rfl
  | cons g0 l =>
    show (((g0 :: l).map (turnA n r)).all fun g => decide (g.l.length = (turnA n r g0).l.length)) = ((g0 :: l).all fun g => decide (g.l.length = g0.l.length))
    rw [List.all_map]
    congr 1
    funext g
    simp [turn_len]
theorem agAt_turn (n r : Nat) (ags : List Ag) (i : Nat) : agAt (ags.map (turnA n r)) i = turnA n r (agAt ags i) := by
  unfold agAt
  rw [List.getElem?_map]
  cases ags[i]? <;> rfl
theorem fst_turn (n r : Nat) (g : Ag) : fstN (turnA n r g) = fstN g := by
  unfold fstN turnA
  rw [List.getElem?_map]
  cases g.l[0]? <;> rfl
theorem twice_turn (n r : Nat) (g : Ag) : twiceB (turnA n r g) = twiceB g := by unfold twiceB; rw [turn_num, turn_len]
theorem auto_turn (n r : Nat) (x y z : Int) (g : Ag) : autoB x y z (turnA n r g) = autoB x y z g := by unfold autoB; rw [turn_num, turn_len]
theorem fits_turn (nm : List UInt8) (n r : Nat) (ags : List Ag) : fitsB nm (ags.map (turnA n r)) = fitsB nm ags := by
  unfold fitsB
  split <;> simp only [← List.map_drop, ← List.map_take, many_turn, agAt_turn, turn_num, turn_len, twice_turn, auto_turn, fst_turn]
theorem tkL_turn {tk tk' : Nat → Tm → Bool} (n r : Nat) (h : ∀ k t, tk' k (turnT n r t) = tk k t) (ags : List Ag) : ∀ m, tkL tk' (ags.map (turnA n r)) m = tkL tk ags m
  | 0 => rfl
  | m + 1 => by
    rw [tkL, tkL, tkL_turn n r h ags m, List.getElem?_map]
    cases ags[m]? with
    | none => rfl
    | some g =>
      show (_ && ((turnA n r g).l.all (tk' m))) = _
      unfold turnA
      simp only
      rw [List.all_map]
      congr 1
      congr 1
      funext t
      exact h m t
theorem right_turn {r : Nat} {bs ks : List Bool} (h : Turned r bs ks) (nm : List UInt8) (ags : List Ag) : rightB nm (ags.map (turnA bs.length r)) ks = rightB nm ags bs := by
  unfold rightB
  rw [eqB_turn, long_turn, fits_turn, List.length_map, tkL_turn (tk := partTk bs (partsF (findT nm).2)) bs.length r (fun k t => ?_) ags]
  unfold partTk
  cases (partsF (findT nm).2)[k]? with
  | none => rfl
  | some p => exact takesP_turn h _ t
end Go.Proofs.YtaeobgajhieajaaGreatDoor

namespace Go.Proofs.YtaeobgajhieajaaGreatDoor
open Go.RowKit Go.Shelf
set_option linter.unusedVariables false
set_option linter.unusedSimpArgs false

theorem cu_facts (d : Array Int) (n : Nat) (hs : ∀ i j, i ≤ j → j < n → d[i]! ≤ d[j]!) : ∀ m, m ≤ n → (Lib.compactUpTo d m).Pairwise (fun a b => a < b) ∧ ∀ x, x ∈ Lib.compactUpTo d m ↔ ∃ j, j < m ∧ d[j]! = x
  | 0, _ => ⟨by simp [Lib.compactUpTo], fun x => by simp [Lib.compactUpTo]⟩
  | m + 1, h => by
    obtain ⟨h1, h2⟩ := cu_facts d n hs m (by omega)
    rw [Lib.compactUpTo_succ]
    by_cases hk : Lib.keeps d m = true
    · rw [if_pos hk]
      refine ⟨?_, fun x => ?_⟩
      · rw [List.pairwise_append]
        refine ⟨h1, by simp, fun a ha b hb => ?_⟩
        obtain ⟨j, hj, rfl⟩ := (h2 a).1 ha
        simp at hb
        subst hb
        have hk2 : m = 0 ∨ d[m]! ≠ d[m - 1]! := by simpa [Lib.keeps] using hk
        have h3 := hs j (m - 1) (by omega) (by omega)
        have h4 := hs (m - 1) m (by omega) (by omega)
        rcases hk2 with h5 | h5 <;> omega
      · rw [List.mem_append, h2]
        constructor
        · rintro (⟨j, hj, e⟩ | hx)
          · exact ⟨j, by omega, e⟩
          · simp at hx; exact ⟨m, by omega, hx.symm⟩
        · rintro ⟨j, hj, e⟩
          by_cases hjm : j = m
          · subst hjm; exact .inr (by simp [e])
          · exact .inl ⟨j, by omega, e⟩
    · rw [if_neg hk, List.append_nil]
      refine ⟨h1, fun x => ?_⟩
      rw [h2]
      have hk2 : ¬ (m = 0 ∨ d[m]! ≠ d[m - 1]!) := by simpa [Lib.keeps] using hk
      constructor
      · rintro ⟨j, hj, e⟩; exact ⟨j, by omega, e⟩
      · rintro ⟨j, hj, e⟩
        by_cases hjm : j = m
        · subst hjm
          refine ⟨j - 1, ?_, ?_⟩
          · apply Classical.byContradiction; intro hh; exact hk2 (.inl (by omega))
          · rw [← e]; apply Classical.byContradiction; intro hh; exact hk2 (.inr (fun q => hh q.symm))
        · exact ⟨j, by omega, e⟩
theorem compact_facts {L : List Int} (hs : L.Pairwise (fun a b => a ≤ b)) : (Lib.compact L).Pairwise (fun a b => a < b) ∧ ∀ x, x ∈ Lib.compact L ↔ x ∈ L := by
  have hg : ∀ i, (hi : i < L.length) → L.toArray[i]! = L[i] := fun i hi => by rw [getElem!_pos L.toArray i (by simpa using hi)]; simp
  have h0 : ∀ i j, i ≤ j → j < L.length → L.toArray[i]! ≤ L.toArray[j]! := fun i j hij hj => by
    rw [hg i (by omega), hg j hj]
    by_cases e : i = j
    · subst e; exact Int.le_refl _
    · exact List.pairwise_iff_getElem.1 hs i j (by omega) hj (by omega)
  obtain ⟨h1, h2⟩ := cu_facts L.toArray L.length h0 L.length (Nat.le_refl _)
  refine ⟨h1, fun x => ?_⟩
  unfold Lib.compact
  rw [h2]
  constructor
  · rintro ⟨j, hj, rfl⟩; rw [hg j hj]; exact List.getElem_mem hj
  · intro hx
    obtain ⟨i, hi, rfl⟩ := List.mem_iff_getElem.1 hx
    exact ⟨i, hi, hg i hi⟩
theorem sortL_facts (L : List Int) : (sortL L).Pairwise (fun a b => a ≤ b) ∧ ∀ x, x ∈ sortL L ↔ x ∈ L := by
  unfold sortL
  refine ⟨?_, fun x => List.mem_mergeSort⟩
  have := List.pairwise_mergeSort (le := fun x y : Int => decide (x ≤ y)) (fun a b c h1 h2 => by simp at *; omega) (fun a b => by simp; omega) L
  exact this.imp (fun h => by simpa using h)
theorem cs_facts (L : List Int) : (Lib.compact (sortL L)).Nodup ∧ ∀ x, x ∈ Lib.compact (sortL L) ↔ x ∈ L := by
  obtain ⟨h1, h2⟩ := sortL_facts L
  obtain ⟨h3, h4⟩ := compact_facts h1
  exact ⟨h3.imp (fun h => by omega), fun x => by rw [h4, h2]⟩
theorem tvN_inj {n r : Nat} {u v : Int} (hu : 0 ≤ u ∧ u < n) (hv : 0 ≤ v ∧ v < n) (h : tvN n r u = tvN n r v) : u = v := by
  unfold tvN at h
  rw [if_pos hu, if_pos hv] at h
  have h1 := Int.emod_emod_of_dvd
  have h2 : ((u + r) - (v + r)) % (n : Int) = 0 := Int.emod_eq_emod_iff_emod_sub_eq_zero.1 h
  have h3 : (n : Int) ∣ (u - v) := by
    have := Int.dvd_of_emod_eq_zero h2
    rwa [show (u + (r : Int)) - (v + r) = u - v by omega] at this
  have h4 := Int.eq_zero_of_dvd_of_natAbs_lt_natAbs h3 (by omega)
  omega
theorem varsL_turn (n r : Nat) (l : List Tm) : varsL (l.map (turnT n r)) = (varsL l).map (tvN n r) := by
  unfold varsL
  induction l with
  | nil => rfl
  | cons t l ih =>
    rw [List.map_cons, List.filter_cons, List.filter_cons]
    have e : decide (0 ≤ (turnT n r t).v) = decide (0 ≤ t.v) := by
      by_cases h : 0 ≤ t.v ∧ t.v < n
      · have := tvN_in (r := r) h
        rw [decide_eq_true h.1]
        exact decide_eq_true this.1
      · show decide (0 ≤ tvN n r t.v) = _
        unfold tvN
        rw [if_neg h]
    rw [e]
    split
    · rw [List.map_cons, List.map_cons, List.map_cons, ih]; rfl
    · exact ih
theorem varsA_turn (n r : Nat) (ags : List Ag) : varsA (ags.map (turnA n r)) = (varsA ags).map (tvN n r) := by
  unfold varsA
  induction ags with
  | nil => rfl
  | cons g l ih =>
    rw [List.map_cons, List.flatMap_cons, List.flatMap_cons, List.map_append, ih]
    congr 1
    exact varsL_turn n r g.l
/-- There are as many variables, turned or not. -/
theorem count_turn {n r : Nat} {ags : List Ag} (h : ∀ x ∈ varsA ags, 0 ≤ x ∧ x < n) : (Lib.compact (sortL (varsA (ags.map (turnA n r))))).length = (Lib.compact (sortL (varsA ags))).length := by
  obtain ⟨a1, a2⟩ := cs_facts (varsA ags)
  obtain ⟨b1, b2⟩ := cs_facts (varsA (ags.map (turnA n r)))
  have hm : ((Lib.compact (sortL (varsA ags))).map (tvN n r)).Nodup := by
    rw [List.Nodup, List.pairwise_map]
    refine List.Pairwise.imp_of_mem (fun {a b} ha hb hne e => ?_) a1
    exact hne (tvN_inj (h a ((a2 a).1 ha)) (h b ((a2 b).1 hb)) e)
  have hp := (List.perm_ext_iff_of_nodup b1 hm).2 (fun x => by
    rw [b2, varsA_turn, List.mem_map, List.mem_map]
    constructor
    · rintro ⟨y, hy, e⟩; exact ⟨y, (a2 y).2 hy, e⟩
    · rintro ⟨y, hy, e⟩; exact ⟨y, (a2 y).1 hy, e⟩)
  rw [hp.length_eq, List.length_map]
end Go.Proofs.YtaeobgajhieajaaGreatDoor

namespace Go.Proofs.YtaeobgajhieajaaGreatDoor
open Go.RowKit Go.Shelf
set_option linter.unusedVariables false
set_option linter.unusedSimpArgs false

/-- All blocks but those of one type are kept. -/
structure Keep (T : TypeId) (w w' : World) : Prop where
  size : w.heap.size ≤ w'.heap.size
  block : ∀ (g : Nat) (cs : Array Value) (t : TypeId) (fr : Nat × Nat), t ≠ T → w.heap[g]? = some (Obj.cells cs t fr) → w'.heap[g]? = some (Obj.cells cs t fr)
theorem Keep.trans {T : TypeId} {a b c : World} (h1 : Keep T a b) (h2 : Keep T b c) : Keep T a c := ⟨Nat.le_trans h1.size h2.size, fun g cs t fr ht h => h2.block g cs t fr ht (h1.block g cs t fr ht h)⟩
theorem keep_below {T : TypeId} {w w' : World} (h : Below w.heap.size w w') : Keep T w w' := ⟨h.size, fun g cs t fr _ hg => (h.block g (Array.getElem?_eq_some_iff.1 hg).1).trans hg⟩
theorem keep_grown {T : TypeId} {w w' : World} {B size n : Nat} {v : Value} {xs : List Value} (hown : w.ownsRow B T size v n xs) (hg : w.grownBy w' v.ownBlock) : Keep T w w' := by
  refine ⟨hg.size, fun g cs t fr ht h => (hg.block g (Array.getElem?_eq_some_iff.1 h).1 (fun e => ?_)).trans h⟩
  rcases hown.2 with ⟨e1, _⟩ | ⟨g', cap, cur, e1, _, hgb, _⟩
  · rw [e1] at e; cases e
  · rw [e1] at e
    injection e with e
    subst e
    rw [hgb] at h
    injection h with h
    injection h with _ h2 _
    exact ht h2.symm
theorem keep_set {w : World} {k : Nat} {cs : Array Value} {T : TypeId} (h : Blk w k cs T) (i : Nat) (v : Value) : Keep T w (w.setCell ⟨k, i, none⟩ v) := by
  refine ⟨by rw [World.size_setCell]; exact Nat.le_refl _, fun g cs' t fr ht hg => ?_⟩
  by_cases e : g = k
  · subst e
    rw [h.h] at hg
    injection hg with hg
    injection hg with _ h2 _
    exact absurd h2.symm ht
  · rw [Below.heap_setCell w ⟨k, i, none⟩ v g e]; exact hg
theorem own_keepT {T : TypeId} {w w' : World} {B e size n : Nat} {s : Value} {xs : List Value} (h : w.ownsRow B e size s n xs) (hk : Keep T w w') (he : e ≠ T) : w'.ownsRow B e size s n xs :=
  ⟨h.1, by
    rcases h.2 with h2 | ⟨g, cap, cur, e1, hg, hgb, r⟩
    · exact .inl h2
    · exact .inr ⟨g, cap, cur, e1, hg, hk.block _ _ _ _ he hgb, r⟩⟩
theorem blk_keepT {T : TypeId} {w w' : World} {g : Nat} {cs : Array Value} {ty : TypeId} (h : Blk w g cs ty) (hk : Keep T w w') (he : ty ≠ T) : Blk w' g cs ty := ⟨hk.block _ _ _ _ he h.h⟩
/-- Terms in own memory, with their sets. -/
def Lo (B H : Nat) (w : World) (s : Value) (l : List Tm) : Prop := ∃ tvl : List Value, tvl.length = l.length ∧ (∀ (i : Nat) (t : Tm) tv, l[i]? = some t → tvl[i]? = some tv → w.ownsRow B 2 1 tv t.s.length (intv t.s)) ∧ w.ownsRow B 46 4 s l.length (tcells l tvl) ∧ ∀ g, s.ownBlock = some g → g < H
theorem Lo.below {B H : Nat} {w w' : World} {s : Value} {l : List Tm} (h : Lo B H w s l) (hb : Below w.heap.size w w') : Lo B H w' s l := by
  obtain ⟨tvl, h1, h2, h3, h4⟩ := h
  exact ⟨tvl, h1, fun i t tv a b => own_keepB (h2 i t tv a b) hb, own_keepB h3 hb, h4⟩
theorem Lo.keep {T : TypeId} {B H : Nat} {w w' : World} {s : Value} {l : List Tm} (h : Lo B H w s l) (hk : Keep T w w') (h1 : 2 ≠ T) (h2 : 46 ≠ T) : Lo B H w' s l := by
  obtain ⟨tvl, a1, a2, a3, a4⟩ := h
  exact ⟨tvl, a1, fun i t tv a b => own_keepT (a2 i t tv a b) hk h1, own_keepT a3 hk h2, a4⟩
/-- All cells of some arguments. -/
def acells : List Ag → List Value → List Value
  | g :: l, sv :: svl => [.bool g.arr, sv] ++ acells l svl
  | _, _ => []
theorem acells_snoc : ∀ (l : List Ag) (svl : List Value), svl.length = l.length → ∀ g sv, acells (l ++ [g]) (svl ++ [sv]) = acells l svl ++ [.bool g.arr, sv]
  | [], [], _, g, sv => rfl
  | a :: l, [], h, _, _ => by simp at h
  | [], a :: l, h, _, _ => by simp at h
  | a :: l, b :: svl, h, g, sv => by
    simp only [List.cons_append, acells, acells_snoc l svl (by simpa using h) g sv, List.append_assoc]
theorem tcells_snoc : ∀ (l : List Tm) (svl : List Value), svl.length = l.length → ∀ t sv, tcells (l ++ [t]) (svl ++ [sv]) = tcells l svl ++ t.cells sv
  | [], [], _, t, sv => by simp [tcells]
  | a :: l, [], h, _, _ => by simp at h
  | [], a :: l, h, _, _ => by simp at h
  | a :: l, b :: svl, h, t, sv => by
    simp only [List.cons_append, tcells, tcells_snoc l svl (by simpa using h) t sv, List.append_assoc]
/-- Arguments in own memory, as deep as they go. -/
def Ao (B : Nat) (w : World) (s : Value) (ags : List Ag) : Prop := ∃ (svl : List Value) (bnd : Nat → Nat), svl.length = ags.length ∧ (∀ j, B ≤ bnd j ∧ bnd j ≤ bnd (j + 1)) ∧ bnd ags.length ≤ w.heap.size ∧ (∀ (j : Nat) (g : Ag) sv, ags[j]? = some g → svl[j]? = some sv → Lo (bnd j) (bnd (j + 1)) w sv g.l) ∧ w.ownsRow B 54 2 s ags.length (acells ags svl)
theorem Ao.below {B : Nat} {w w' : World} {s : Value} {l : List Ag} (h : Ao B w s l) (hb : Below w.heap.size w w') : Ao B w' s l := by
  obtain ⟨svl, bnd, h1, h2, h3, h4, h5⟩ := h
  exact ⟨svl, bnd, h1, h2, Nat.le_trans h3 hb.size, fun j g sv a b => (h4 j g sv a b).below hb, own_keepB h5 hb⟩
theorem Ao.keep {T : TypeId} {B : Nat} {w w' : World} {s : Value} {l : List Ag} (h : Ao B w s l) (hk : Keep T w w') (h1 : 2 ≠ T) (h2 : 46 ≠ T) (h3 : 54 ≠ T) : Ao B w' s l := by
  obtain ⟨svl, bnd, a1, a2, a3, a4, a5⟩ := h
  exact ⟨svl, bnd, a1, a2, Nat.le_trans a3 hk.size, fun j g sv a b => (a4 j g sv a b).keep hk h1 h2, own_keepT a5 hk h3⟩
theorem run_app_none42 (w : World) (ty : TypeId) (c' : Nat) : (Builtin.append_ #[42, 42] ty #[.slice none 0 0, .slice none 0 c']).run Tryz.prog w = .ok (.slice none 0 0) w := by
  obtain ⟨i0, hi0, hz0, hz1, hz2⟩ := info_parts Tryz.info2
  have hf : (Builtin.firstCells i0.size 0 (.slice none 0 c')).run Tryz.prog w = .ok #[] w := by simp [Builtin.firstCells]
  simp [Builtin.append_, run_underlying Tryz.underlying42, sizeOf, typeInfo, hi0, Builtin.lenOf, hf, storeCells]
/-- Appending a slice of numbers to none, as one step of a region. -/
theorem step_app_i (w : World) {ops : Array Oper} {o : Oper} {a : Act} {K : Act → World → Prop} {Q : Exit → Act → World → Prop} {E : Prop} (hgd : o.guard = none) (s x : Operand) (ho : o.op = .call { callee := .builtin .append, args := #[s, x], argTypes := #[42, 42] })
    (hs : a.eval s = .slice none 0 0) (sx : Value) (B : Nat) (l : List Int) (hx : a.eval x = sx) (hsx : Si B w sx l) (hb : l.length * 8 ≤ 140737488351232)
    (h : ∀ v' w', w'.ownsRow w.heap.size 2 1 v' l.length (intv l) → Below w.heap.size w w' → K (a.put o.dst v') w') : if Region.wanted o (yielded ops a.tmps) = true then Oper.wp Tryz.prog o a w K Q else E := by
  have hw : Region.wanted o (yielded ops a.tmps) = true := by simp [Region.wanted, hgd]
  rw [if_pos hw]
  obtain ⟨i0, hi0, hz0, hz1, hz2⟩ := info_parts Tryz.info2
  obtain ⟨ax, cx, rfl, hcx⟩ := hsx
  have hown : w.ownsRow w.heap.size 2 1 (.slice none 0 0) 0 [] := World.ownsRow_nil _ _ _ _
  have hbel : ∀ w', w.grownBy w' (Value.slice none 0 0).ownBlock → Below w.heap.size w w' := fun w' hg => (Below.refl _ w).grown hg (Nat.le_refl _) (fun k e => by cases e)
  cases ax with
  | none =>
    have h0 : l.length = 0 := by
      apply Classical.byContradiction; intro hn
      obtain ⟨_, _, e, _⟩ := hcx (by omega)
      cases e
    obtain rfl := List.eq_nil_of_length_eq_zero h0
    have hr := run_app_none42 w o.type cx
    unfold Oper.wp execOp
    simp only [ho, resolve, invoke, builtin, Sem.run_bind, Sem.run_pure, Result.andThen_ok, List.map_toArray, List.map_cons, List.map_nil, hs, hx, hr, List.length_nil]
    exact h _ _ hown (Below.refl _ _)
  | some ad =>
    rcases Nat.eq_zero_or_pos l.length with h0 | h0
    · obtain rfl := List.eq_nil_of_length_eq_zero h0
      refine wp_append_own w s x 42 ho w.heap.size 2 i0 (.int .i64 0) 1 8 Tryz.underlying42 hi0 hz0 hz1 hz2 rfl (by decide) _ _ _ hs hown ad 0 cx [] hx rfl (fun j u h => by simp at h) (fun u h => by simp at h) (by unfold maxLen; omega) (by omega) (Nat.le_refl _) ?_
      intro v' w' h1 h2 _
      exact h v' w' (by simpa [intv] using h1) (hbel w' h2)
    · obtain ⟨b, off, e, _, hlt, hcell⟩ := hcx h0
      injection e with e
      subst e
      refine wp_append_own w s x 42 ho w.heap.size 2 i0 (.int .i64 0) 1 8 Tryz.underlying42 hi0 hz0 hz1 hz2 rfl (by decide) _ _ _ hs hown ⟨b, off, none⟩ l.length cx (intv l) hx (by simp [intv]) (fun j u hj => ?_) (fun u hu => ?_) (by unfold maxLen; omega) (by omega) (Nat.le_refl _) ?_
      · simp only [intv, List.getElem?_map, Option.map_eq_some_iff] at hj
        obtain ⟨y, hy, rfl⟩ := hj
        rw [Addr.add_lit]
        exact hcell j y hy
      · simp only [intv, List.mem_map] at hu
        obtain ⟨y, _, rfl⟩ := hu
        rfl
      · intro v' w' h1 h2 _
        exact h v' w' (by simpa [intv] using h1) (hbel w' h2)
end Go.Proofs.YtaeobgajhieajaaGreatDoor
