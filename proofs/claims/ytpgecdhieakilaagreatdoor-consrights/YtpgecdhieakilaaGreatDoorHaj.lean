/-
  What is proved here: more variables behind: what can be can be still.
  What is proved here: how many variables there are, turned or not; what a set is: the mathematics.
  What is proved here: the reference's Vars.
  What is proved here: constraints in own memory, as deep as they go; the reference's Lent.
  What is proved here: begins, low of the reference; sets of the reference.
  What is proved here: the reference's automaton of a constraint.
  What is proved here: which numbers are a set: the reference's Set, and what cons asks.
-/
import Derived.Test.YtpgecdhieakilaaGreatDoorFhj
import Derived.Test.YtpgecdhieakilaaGreatDoorDvj
import Derived.Test.YtpgecdhieakilaaGreatDoorDfj
import Derived.Lib.AppendZeros
import Derived.Test.YtpgecdhieakilaaGreatDoorFf
import Derived.RangeFuncNested
import Derived.WalkKit
import Derived.OwnWalk
import Derived.OwnWalkIn
import Derived.TacticsInMore
import Derived.LoopNIn
import Derived.LoopIn
import Derived.Laws.Externs
import Derived.Deep.QuietTactic
import Derived.BigQuiet
namespace Go.Proofs.YtpgecdhieakilaaGreatDoor
open Go.RowKit Go.Shelf
set_option linter.unusedVariables false
set_option linter.unusedSimpArgs false

def boolv (l : List Bool) : List Value := l.map Value.bool
theorem Tryz.info4 : (Tryz.prog.info? 4).map (fun i => (i.zero, i.size, i.bytes)) = some (some (.bool false), 1, 1) := by kernel_rfl
end Go.Proofs.YtpgecdhieakilaaGreatDoor

namespace Go.Proofs.YtpgecdhieakilaaGreatDoor
open Go.RowKit Go.Shelf
set_option linter.unusedVariables false
set_option linter.unusedSimpArgs false

theorem cu_facts (d : Array Int) (n : Nat) (hs : ∀ i j, i ≤ j → j < n → d[i]! ≤ d[j]!) : ∀ m, m ≤ n → (Lib.compactUpTo d m).Pairwise (fun a b => a < b) ∧ ∀ x, x ∈ Lib.compactUpTo d m ↔ ∃ j, j < m ∧ d[j]! = x
  | 0, _ => ⟨by simp [Lib.compactUpTo], fun x => by simp [Lib.compactUpTo]⟩
  | m + 1, h => by
    obtain ⟨h1, h2⟩ := cu_facts d n hs m (by omega)
    rw [Lib.compactUpTo_succ]
    by_cases hk : Lib.keeps d m = true
    · rw [if_pos hk]
      refine ⟨?_, fun x => ?_⟩
      · rw [List.pairwise_append]
        refine ⟨h1, by simp, fun a ha b hb => ?_⟩
        obtain ⟨j, hj, rfl⟩ := (h2 a).1 ha
        simp at hb
        subst hb
        have hk2 : m = 0 ∨ d[m]! ≠ d[m - 1]! := by simpa [Lib.keeps] using hk
        have h3 := hs j (m - 1) (by omega) (by omega)
        have h4 := hs (m - 1) m (by omega) (by omega)
        rcases hk2 with h5 | h5 <;> omega
      · rw [List.mem_append, h2]
        constructor
        · rintro (⟨j, hj, e⟩ | hx)
          · exact ⟨j, by omega, e⟩
          · simp at hx; exact ⟨m, by omega, hx.symm⟩
        · rintro ⟨j, hj, e⟩
          by_cases hjm : j = m
          · subst hjm; exact .inr (by simp [e])
          · exact .inl ⟨j, by omega, e⟩
    · rw [if_neg hk, List.append_nil]
      refine ⟨h1, fun x => ?_⟩
      rw [h2]
      have hk2 : ¬ (m = 0 ∨ d[m]! ≠ d[m - 1]!) := by simpa [Lib.keeps] using hk
      constructor
      · rintro ⟨j, hj, e⟩; exact ⟨j, by omega, e⟩
      · rintro ⟨j, hj, e⟩
        by_cases hjm : j = m
        · subst hjm
          refine ⟨j - 1, ?_, ?_⟩
          · apply Classical.byContradiction; intro hh; exact hk2 (.inl (by omega))
          · rw [← e]; apply Classical.byContradiction; intro hh; exact hk2 (.inr (fun q => hh q.symm))
        · exact ⟨j, by omega, e⟩
theorem compact_facts {L : List Int} (hs : L.Pairwise (fun a b => a ≤ b)) : (Lib.compact L).Pairwise (fun a b => a < b) ∧ ∀ x, x ∈ Lib.compact L ↔ x ∈ L := by
  have hg : ∀ i, (hi : i < L.length) → L.toArray[i]! = L[i] := fun i hi => by rw [getElem!_pos L.toArray i (by simpa using hi)]; simp
  have h0 : ∀ i j, i ≤ j → j < L.length → L.toArray[i]! ≤ L.toArray[j]! := fun i j hij hj => by
    rw [hg i (by omega), hg j hj]
    by_cases e : i = j
    · subst e; exact Int.le_refl _
    · exact List.pairwise_iff_getElem.1 hs i j (by omega) hj (by omega)
  obtain ⟨h1, h2⟩ := cu_facts L.toArray L.length h0 L.length (Nat.le_refl _)
  refine ⟨h1, fun x => ?_⟩
  unfold Lib.compact
  rw [h2]
  constructor
  · rintro ⟨j, hj, rfl⟩; rw [hg j hj]; exact List.getElem_mem hj
  · intro hx
    obtain ⟨i, hi, rfl⟩ := List.mem_iff_getElem.1 hx
    exact ⟨i, hi, hg i hi⟩
theorem sortL_facts (L : List Int) : (sortL L).Pairwise (fun a b => a ≤ b) ∧ ∀ x, x ∈ sortL L ↔ x ∈ L := by
  unfold sortL
  refine ⟨?_, fun x => List.mem_mergeSort⟩
  have := List.pairwise_mergeSort (le := fun x y : Int => decide (x ≤ y)) (fun a b c h1 h2 => by simp at *; omega) (fun a b => by simp; omega) L
  exact this.imp (fun h => by simpa using h)
theorem cs_facts (L : List Int) : (Lib.compact (sortL L)).Nodup ∧ ∀ x, x ∈ Lib.compact (sortL L) ↔ x ∈ L := by
  obtain ⟨h1, h2⟩ := sortL_facts L
  obtain ⟨h3, h4⟩ := compact_facts h1
  exact ⟨h3.imp (fun h => by omega), fun x => by rw [h4, h2]⟩
end Go.Proofs.YtpgecdhieakilaaGreatDoor

namespace Go.Proofs.YtpgecdhieakilaaGreatDoor
open Go.RowKit Go.Shelf
set_option linter.unusedVariables false
set_option linter.unusedSimpArgs false

theorem hid {p : Prop} (h : p) : Hid p := h
theorem strict_eq : ∀ {A B : List Int}, A.Pairwise (fun a b => a < b) → B.Pairwise (fun a b => a < b) → (∀ x, x ∈ A ↔ x ∈ B) → A = B
  | [], [], _, _, _ => rfl
  | [], b :: B, _, _, h => by have := (h b).2 (by simp); simp at this
  | a :: A, [], _, _, h => by have := (h a).1 (by simp); simp at this
  | a :: A, b :: B, hA, hB, h => by
    obtain ⟨a1, a2⟩ := List.pairwise_cons.1 hA
    obtain ⟨b1, b2⟩ := List.pairwise_cons.1 hB
    have e : a = b := by
      have h1 := (h a).1 (by simp)
      have h2 := (h b).2 (by simp)
      rcases List.mem_cons.1 h1 with q | q
      · exact q
      · rcases List.mem_cons.1 h2 with q2 | q2
        · exact q2.symm
        · have := a1 b q2
          have := b1 a q
          omega
    subst e
    congr 1
    refine strict_eq a2 b2 fun x => ⟨fun hx => ?_, fun hx => ?_⟩
    · have h1 := a1 x hx
      rcases List.mem_cons.1 ((h x).1 (List.mem_cons_of_mem _ hx)) with q | q
      · omega
      · exact q
    · have h1 := b1 x hx
      rcases List.mem_cons.1 ((h x).2 (List.mem_cons_of_mem _ hx)) with q | q
      · omega
      · exact q
def csL (L : List Int) : List Int := Lib.compact (sortL L)
theorem sortL_pw (L : List Int) : (sortL L).Pairwise (fun a b => a ≤ b) := (sortL_facts L).1
theorem csL_nil : csL [] = [] := by
  have := fun x => (cs_facts []).2 x
  exact List.eq_nil_iff_forall_not_mem.2 fun x hx => by simpa using (this x).1 hx
theorem cs_st (L : List Int) : (csL L).Pairwise (fun a b => a < b) := (compact_facts (sortL_pw L)).1
theorem cs_mem (L : List Int) (x : Int) : x ∈ csL L ↔ x ∈ L := (cs_facts L).2 x
theorem cs_old {L : List Int} {v : Int} (h : v ∈ csL L) : csL (L ++ [v]) = csL L :=
  strict_eq (cs_st _) (cs_st _) fun x => by
    rw [cs_mem, cs_mem, List.mem_append, List.mem_singleton]
    exact ⟨fun q => q.elim id (fun q => by rw [q]; exact (cs_mem _ _).1 h), .inl⟩
theorem cs_new {L : List Int} {v : Int} {k : Nat} (h1 : ∀ x ∈ (csL L).take k, x < v) (h2 : ∀ x ∈ (csL L).drop k, v < x) : csL (L ++ [v]) = (csL L).take k ++ [v] ++ (csL L).drop k := by
  refine strict_eq (cs_st _) ?_ fun x => ?_
  · rw [List.append_assoc, List.pairwise_append]
    refine ⟨(cs_st L).sublist (List.take_sublist _ _), ?_, fun a ha b hb => ?_⟩
    · rw [List.singleton_append, List.pairwise_cons]
      exact ⟨h2, (cs_st L).sublist (List.drop_sublist _ _)⟩
    · rcases List.mem_append.1 hb with q | q
      · rw [List.mem_singleton.1 q]; exact h1 a ha
      · have := h1 a ha
        have := h2 b q
        omega
  · rw [cs_mem, List.mem_append, List.mem_singleton, ← cs_mem L]
    conv => lhs; rw [← List.take_append_drop k (csL L)]
    simp only [List.mem_append, List.mem_singleton]
    constructor
    · rintro ((q | q) | q)
      · exact .inl (.inl q)
      · exact .inr q
      · exact .inl (.inr q)
    · rintro ((q | q) | q)
      · exact .inl (.inl q)
      · exact .inr q
      · exact .inl (.inr q)
theorem cs_len (L : List Int) : (csL L).length ≤ L.length := by
  unfold csL
  rw [← sortL_len L]
  exact Lib.compact_length_le _
/-- Where the loop over what is there stops. -/
theorem cs_cut {L : List Int} {v : Int} {k : Nat} (hk : k ≤ (csL L).length) (h : ∀ (j : Nat) x, k ≤ j → (csL L)[j]? = some x → v < x) (h0 : ∀ x, 0 < k → (csL L)[k - 1]? = some x → x < v) : csL (L ++ [v]) = (csL L).take k ++ [v] ++ (csL L).drop k := by
  refine cs_new (fun x hx => ?_) (fun x hx => ?_)
  · obtain ⟨j, hj⟩ := List.mem_iff_getElem?.1 hx
    rw [List.getElem?_take] at hj
    split at hj
    · rename_i hjk
      have hl : k - 1 < (csL L).length := by omega
      have hy := h0 _ (by omega) (List.getElem?_eq_getElem hl)
      obtain ⟨hjl, rfl⟩ := List.getElem?_eq_some_iff.1 hj
      rcases Nat.lt_or_ge j (k - 1) with q | q
      · have := List.pairwise_iff_getElem.1 (cs_st L) j (k - 1) hjl hl q
        omega
      · have e : j = k - 1 := by omega
        subst e
        exact hy
    · cases hj
  · obtain ⟨j, hj⟩ := List.mem_iff_getElem?.1 hx
    rw [List.getElem?_drop] at hj
    exact h (k + j) x (by omega) hj
/-- A row of ints grows by cells that lie anywhere. -/
theorem wpList_app_m (w : World) {ops : Array Oper} {rest : List Oper} {o : Oper} {a : Act} {Q : Exit → Act → World → Prop} (hgd : o.guard = none) (so xo : Operand) (ho : o.op = .call { callee := .builtin .append, args := #[so, xo], argTypes := #[35, 35] })
    (N : Nat) (s : Value) (n : Nat) (L : List Int) (hs : a.eval so = s) (h : w.ownsRow N 3 1 s n (intv L)) (x : Value) (hx : a.eval xo = x) (m : Nat) (M : List Int) (hM : M.length = m)
    (hsrc : (x = .slice none 0 0 ∧ m = 0 ∧ M = []) ∨ ∃ ad c, x = .slice (some ad) m c ∧ ∀ (j : Nat) y, M[j]? = some y → w.cell? (ad.add j) = some (.int .i64 y)) (hb : n + m ≤ 2000000000000) (hN : N ≤ w.heap.size)
    (hK : ∀ v' w', w'.ownsRow N 3 1 v' (n + m) (intv (L ++ M)) → Below N w w' → wpList Tryz.prog ops Q rest (a.put o.dst v') w') : wpList Tryz.prog ops Q (o :: rest) a w :=
  wpList_plain hgd fun _ hK' => by
    obtain ⟨i0, hi0, hz0, hz1, hz2⟩ := info_parts Tryz.info3
    have hgb : ∀ w', w.grownBy w' s.ownBlock → Below N w w' := fun w' g => (Below.refl _ w).grown g hN (fun k e => by
      rcases h.2 with ⟨e1, _⟩ | ⟨g', cap, cur, e1, hg, hgb, _⟩
      · rw [e1] at e; cases e
      · rw [e1] at e; injection e with e; subst e; exact hg)
    rcases hsrc with ⟨rfl, rfl, rfl⟩ | ⟨ad, c, rfl, hc⟩
    · have hr := run_append_owned_none (P := Tryz.prog) (w := w) N 35 o.type 3 i0 1 Tryz.underlying35 hi0 s n _ h
      unfold Oper.wp execOp
      simp only [ho, resolve, invoke, builtin, Sem.run_bind, Sem.run_pure, Result.andThen_ok, List.map_toArray, List.map_cons, List.map_nil, hs, hx, hr]
      exact hK' _ _ (hK s w (by simpa using h) (Below.refl _ w))
    · obtain ⟨v', w', hr, h2, h3, _⟩ := run_append_own (P := Tryz.prog) w N 35 o.type 3 i0 _ 1 8 Tryz.underlying35 hi0 hz0 hz1 hz2 rfl (by decide) s n _ h ad m c (intv M) (by simp [intv, hM]) (fun j u hu => by
          simp only [intv, List.getElem?_map, Option.map_eq_some_iff] at hu
          obtain ⟨y, hy, rfl⟩ := hu
          exact hc j y hy) (fun u hu => by
          simp only [intv, List.mem_map] at hu
          obtain ⟨y, _, rfl⟩ := hu
          rfl) (by unfold maxLen; omega) (by omega) hN
      unfold Oper.wp execOp
      simp only [ho, resolve, invoke, builtin, Sem.run_bind, Sem.run_pure, Result.andThen_ok, List.map_toArray, List.map_cons, List.map_nil, hs, hx, hr]
      exact hK' _ _ (hK v' w' (by unfold intv at *; rw [List.map_append]; exact h2) (hgb _ h3))
end Go.Proofs.YtpgecdhieakilaaGreatDoor

namespace Go.Proofs.YtpgecdhieakilaaGreatDoor
open Go.RowKit Go.Shelf
set_option linter.unusedVariables false
set_option linter.unusedSimpArgs false

/-- All blocks but those of one type are kept. -/
structure Keep (T : TypeId) (w w' : World) : Prop where
  size : w.heap.size ≤ w'.heap.size
  block : ∀ (g : Nat) (cs : Array Value) (t : TypeId) (fr : Nat × Nat), t ≠ T → w.heap[g]? = some (Obj.cells cs t fr) → w'.heap[g]? = some (Obj.cells cs t fr)
theorem keep_grown {T : TypeId} {w w' : World} {B size n : Nat} {v : Value} {xs : List Value} (hown : w.ownsRow B T size v n xs) (hg : w.grownBy w' v.ownBlock) : Keep T w w' := by
  refine ⟨hg.size, fun g cs t fr ht h => (hg.block g (Array.getElem?_eq_some_iff.1 h).1 (fun e => ?_)).trans h⟩
  rcases hown.2 with ⟨e1, _⟩ | ⟨g', cap, cur, e1, _, hgb, _⟩
  · rw [e1] at e; cases e
  · rw [e1] at e
    injection e with e
    subst e
    rw [hgb] at h
    injection h with h
    injection h with _ h2 _
    exact ht h2.symm
theorem keep_set {w : World} {k : Nat} {cs : Array Value} {T : TypeId} (h : Blk w k cs T) (i : Nat) (v : Value) : Keep T w (w.setCell ⟨k, i, none⟩ v) := by
  refine ⟨by rw [World.size_setCell]; exact Nat.le_refl _, fun g cs' t fr ht hg => ?_⟩
  by_cases e : g = k
  · subst e
    rw [h.h] at hg
    injection hg with hg
    injection hg with _ h2 _
    exact absurd h2.symm ht
  · rw [Below.heap_setCell w ⟨k, i, none⟩ v g e]; exact hg
theorem own_keepT {T : TypeId} {w w' : World} {B e size n : Nat} {s : Value} {xs : List Value} (h : w.ownsRow B e size s n xs) (hk : Keep T w w') (he : e ≠ T) : w'.ownsRow B e size s n xs :=
  ⟨h.1, by
    rcases h.2 with h2 | ⟨g, cap, cur, e1, hg, hgb, r⟩
    · exact .inl h2
    · exact .inr ⟨g, cap, cur, e1, hg, hk.block _ _ _ _ he hgb, r⟩⟩
theorem blk_keepT {T : TypeId} {w w' : World} {g : Nat} {cs : Array Value} {ty : TypeId} (h : Blk w g cs ty) (hk : Keep T w w') (he : ty ≠ T) : Blk w' g cs ty := ⟨hk.block _ _ _ _ he h.h⟩
/-- Terms in own memory, with their sets. -/
def Lo (B H : Nat) (w : World) (s : Value) (l : List Tm) : Prop := ∃ tvl : List Value, tvl.length = l.length ∧ (∀ (i : Nat) (t : Tm) tv, l[i]? = some t → tvl[i]? = some tv → w.ownsRow B 2 1 tv t.s.length (intv t.s)) ∧ w.ownsRow B 46 4 s l.length (tcells l tvl) ∧ ∀ g, s.ownBlock = some g → g < H
theorem Lo.below {B H : Nat} {w w' : World} {s : Value} {l : List Tm} (h : Lo B H w s l) (hb : Below w.heap.size w w') : Lo B H w' s l := by
  obtain ⟨tvl, h1, h2, h3, h4⟩ := h
  exact ⟨tvl, h1, fun i t tv a b => own_keepB (h2 i t tv a b) hb, own_keepB h3 hb, h4⟩
theorem Lo.keep {T : TypeId} {B H : Nat} {w w' : World} {s : Value} {l : List Tm} (h : Lo B H w s l) (hk : Keep T w w') (h1 : 2 ≠ T) (h2 : 46 ≠ T) : Lo B H w' s l := by
  obtain ⟨tvl, a1, a2, a3, a4⟩ := h
  exact ⟨tvl, a1, fun i t tv a b => own_keepT (a2 i t tv a b) hk h1, own_keepT a3 hk h2, a4⟩
/-- All cells of some arguments. -/
def acells : List Ag → List Value → List Value
  | g :: l, sv :: svl => [.bool g.arr, sv] ++ acells l svl
  | _, _ => []
theorem acells_snoc : ∀ (l : List Ag) (svl : List Value), svl.length = l.length → ∀ g sv, acells (l ++ [g]) (svl ++ [sv]) = acells l svl ++ [.bool g.arr, sv]
  | [], [], _, g, sv => rfl
  | a :: l, [], h, _, _ => by simp at h
  | [], a :: l, h, _, _ => by simp at h
  | a :: l, b :: svl, h, g, sv => by
    simp only [List.cons_append, acells, acells_snoc l svl (by simpa using h) g sv, List.append_assoc]
theorem tcells_snoc : ∀ (l : List Tm) (svl : List Value), svl.length = l.length → ∀ t sv, tcells (l ++ [t]) (svl ++ [sv]) = tcells l svl ++ t.cells sv
  | [], [], _, t, sv => by simp [tcells]
  | a :: l, [], h, _, _ => by simp at h
  | [], a :: l, h, _, _ => by simp at h
  | a :: l, b :: svl, h, t, sv => by
    simp only [List.cons_append, tcells, tcells_snoc l svl (by simpa using h) t sv, List.append_assoc]
/-- Arguments in own memory, as deep as they go. -/
def Ao (B : Nat) (w : World) (s : Value) (ags : List Ag) : Prop := ∃ (svl : List Value) (bnd : Nat → Nat), svl.length = ags.length ∧ (∀ j, B ≤ bnd j ∧ bnd j ≤ bnd (j + 1)) ∧ bnd ags.length ≤ w.heap.size ∧ (∀ (j : Nat) (g : Ag) sv, ags[j]? = some g → svl[j]? = some sv → Lo (bnd j) (bnd (j + 1)) w sv g.l) ∧ w.ownsRow B 54 2 s ags.length (acells ags svl)
theorem Ao.below {B : Nat} {w w' : World} {s : Value} {l : List Ag} (h : Ao B w s l) (hb : Below w.heap.size w w') : Ao B w' s l := by
  obtain ⟨svl, bnd, h1, h2, h3, h4, h5⟩ := h
  exact ⟨svl, bnd, h1, h2, Nat.le_trans h3 hb.size, fun j g sv a b => (h4 j g sv a b).below hb, own_keepB h5 hb⟩
theorem Ao.keep {T : TypeId} {B : Nat} {w w' : World} {s : Value} {l : List Ag} (h : Ao B w s l) (hk : Keep T w w') (h1 : 2 ≠ T) (h2 : 46 ≠ T) (h3 : 54 ≠ T) : Ao B w' s l := by
  obtain ⟨svl, bnd, a1, a2, a3, a4, a5⟩ := h
  exact ⟨svl, bnd, a1, a2, Nat.le_trans a3 hk.size, fun j g sv a b => (a4 j g sv a b).keep hk h1 h2, own_keepT a5 hk h3⟩
theorem run_app_none42 (w : World) (ty : TypeId) (c' : Nat) : (Builtin.append_ #[42, 42] ty #[.slice none 0 0, .slice none 0 c']).run Tryz.prog w = .ok (.slice none 0 0) w := by
  obtain ⟨i0, hi0, hz0, hz1, hz2⟩ := info_parts Tryz.info2
  have hf : (Builtin.firstCells i0.size 0 (.slice none 0 c')).run Tryz.prog w = .ok #[] w := by simp [Builtin.firstCells]
  simp [Builtin.append_, run_underlying Tryz.underlying42, sizeOf, typeInfo, hi0, Builtin.lenOf, hf, storeCells]
/-- Appending a slice of numbers to none, as one step of a region. -/
theorem step_app_i (w : World) {ops : Array Oper} {o : Oper} {a : Act} {K : Act → World → Prop} {Q : Exit → Act → World → Prop} {E : Prop} (hgd : o.guard = none) (s x : Operand) (ho : o.op = .call { callee := .builtin .append, args := #[s, x], argTypes := #[42, 42] })
    (hs : a.eval s = .slice none 0 0) (sx : Value) (B : Nat) (l : List Int) (hx : a.eval x = sx) (hsx : Si B w sx l) (hb : l.length * 8 ≤ 140737488351232)
    (h : ∀ v' w', w'.ownsRow w.heap.size 2 1 v' l.length (intv l) → Below w.heap.size w w' → K (a.put o.dst v') w') : if Region.wanted o (yielded ops a.tmps) = true then Oper.wp Tryz.prog o a w K Q else E := by
  have hw : Region.wanted o (yielded ops a.tmps) = true := by simp [Region.wanted, hgd]
  rw [if_pos hw]
  obtain ⟨i0, hi0, hz0, hz1, hz2⟩ := info_parts Tryz.info2
  obtain ⟨ax, cx, rfl, hcx⟩ := hsx
  have hown : w.ownsRow w.heap.size 2 1 (.slice none 0 0) 0 [] := World.ownsRow_nil _ _ _ _
  have hbel : ∀ w', w.grownBy w' (Value.slice none 0 0).ownBlock → Below w.heap.size w w' := fun w' hg => (Below.refl _ w).grown hg (Nat.le_refl _) (fun k e => by cases e)
  cases ax with
  | none =>
    have h0 : l.length = 0 := by
      apply Classical.byContradiction; intro hn
      obtain ⟨_, _, e, _⟩ := hcx (by omega)
      cases e
    obtain rfl := List.eq_nil_of_length_eq_zero h0
    have hr := run_app_none42 w o.type cx
    unfold Oper.wp execOp
    simp only [ho, resolve, invoke, builtin, Sem.run_bind, Sem.run_pure, Result.andThen_ok, List.map_toArray, List.map_cons, List.map_nil, hs, hx, hr, List.length_nil]
    exact h _ _ hown (Below.refl _ _)
  | some ad =>
    rcases Nat.eq_zero_or_pos l.length with h0 | h0
    · obtain rfl := List.eq_nil_of_length_eq_zero h0
      refine wp_append_own w s x 42 ho w.heap.size 2 i0 (.int .i64 0) 1 8 Tryz.underlying42 hi0 hz0 hz1 hz2 rfl (by decide) _ _ _ hs hown ad 0 cx [] hx rfl (fun j u h => by simp at h) (fun u h => by simp at h) (by unfold maxLen; omega) (by omega) (Nat.le_refl _) ?_
      intro v' w' h1 h2 _
      exact h v' w' (by simpa [intv] using h1) (hbel w' h2)
    · obtain ⟨b, off, e, _, hlt, hcell⟩ := hcx h0
      injection e with e
      subst e
      refine wp_append_own w s x 42 ho w.heap.size 2 i0 (.int .i64 0) 1 8 Tryz.underlying42 hi0 hz0 hz1 hz2 rfl (by decide) _ _ _ hs hown ⟨b, off, none⟩ l.length cx (intv l) hx (by simp [intv]) (fun j u hj => ?_) (fun u hu => ?_) (by unfold maxLen; omega) (by omega) (Nat.le_refl _) ?_
      · simp only [intv, List.getElem?_map, Option.map_eq_some_iff] at hj
        obtain ⟨y, hy, rfl⟩ := hj
        rw [Addr.add_lit]
        exact hcell j y hy
      · simp only [intv, List.mem_map] at hu
        obtain ⟨y, _, rfl⟩ := hu
        rfl
      · intro v' w' h1 h2 _
        exact h v' w' (by simpa [intv] using h1) (hbel w' h2)
end Go.Proofs.YtpgecdhieakilaaGreatDoor

namespace Go.Proofs.YtpgecdhieakilaaGreatDoor
open Go.RowKit Go.Shelf
set_option linter.unusedVariables false
set_option linter.unusedSimpArgs false

set_option maxRecDepth 100000 in
set_option maxHeartbeats 4000000 in
theorem begins_any (s p : ByteArray) (W : World) : Calls Tryz.prog 79 #[.string s, .string p] W fun e w' => e = .returned (.bool (Lib.hasPrefix s.data.toList p.data.toList)) ∧ w' = W := by
  have HP := hid (Lib.hasPrefix_raw s p)
  by_cases hl : p.size ≤ s.size
  · have hl' : (p.size : Int) ≤ (s.size : Int) := by omega
    have hx : ∀ X, (Instr.slice 9 (.string s) none (some (.int .i64 (p.size : Int))) none).run Tryz.prog X = .ok (.string (s.extract 0 p.size)) X := fun X => by
      rw [run_slice_string_to_if X 9 s .i64 p.size Tryz.underlying9, if_pos ⟨by omega, by omega⟩, Int.toNat_natCast]
    obtain ⟨q, hq⟩ : ∃ q, s.extract 0 p.size = q := ⟨_, rfl⟩
    rw [hq] at hx HP
    rw [decide_eq_true hl, Bool.true_and] at HP
    have HP2 : Hid (Lib.hasPrefix s.data.toList p.data.toList = (q.toList == p.toList)) := HP.out.symm
    rw [HP2.out]
    clear hq HP HP2
    go_enter Tryz.func79, Tryz.ntmps79
    go_wp2
    go_ret
    exact ⟨rfl, rfl⟩
  · have hl' : ¬ (p.size : Int) ≤ (s.size : Int) := by omega
    have e : Lib.hasPrefix s.data.toList p.data.toList = false := by rw [← HP.out, decide_eq_false hl, Bool.false_and]
    rw [e]
    clear HP e
    go_enter Tryz.func79, Tryz.ntmps79
    go_wp2
    go_ret
    exact ⟨rfl, rfl⟩

def lowB (g : Ag) : Bool := g.l.any fun t => decide (t.n < 0)
set_option maxRecDepth 100000 in
set_option maxHeartbeats 4000000 in
theorem low_any {B : Nat} {W : World} {a : Option Addr} {c : Nat} (g : Ag) (h : St B W (.slice a g.l.length c) g.l) (hl : g.l.length ≤ 1000000000000) (ar : Bool) :
    Calls Tryz.prog 81 #[.agg #[.bool ar, .slice a g.l.length c]] W fun e w' => e = .returned (.bool (lowB g)) ∧ Below W.heap.size W w' := by
  obtain ⟨m, hm⟩ : ∃ m, g.l.length = m := ⟨_, rfl⟩
  have HM : Hid (g.l.length = m) := hm
  rw [hm] at h hl ⊢
  have HST : Hid (St B W (.slice a m c) g.l) := h
  obtain ⟨B0, hB0⟩ : ∃ x, W.heap.size = x := ⟨_, rfl⟩
  obtain ⟨W1, hW1⟩ : ∃ X, W.alloc (Obj.cells #[.bool ar, .slice a m c] 54) = X := ⟨_, rfl⟩
  have HB1 : Hid (Below B0 W W1) := by rw [Hid, ← hW1, ← hB0]; exact (Below.refl _ W).alloc (Nat.le_refl _) _
  have KC : Hid (Blk W1 B0 #[.bool ar, .slice a m c] 54) := by rw [Hid, ← hW1, ← hB0]; exact Blk.new W _ _
  have HW1 : Hid _ := hW1
  have HB0 : Hid (W.heap.size = B0) := hB0
  have xc := KC.out.cell 1
  simp only [List.getElem?_toArray, List.getElem?_cons_succ, List.getElem?_cons_zero] at xc
  clear h hB0 hW1 hm
  go_enter Tryz.func81, Tryz.ntmps81
  go_upto_region 1 with (fail)
  rw [HW1.out, HB0.out]
  go_wp2
  go_loopw [3] (fun i wr => ∃ k : Nat, k ≤ m ∧ i = .int .i64 (k : Int) ∧ Hid (∀ (j : Nat) t, j < k → g.l[j]? = some t → ¬ t.n < 0) ∧ W1 = wr) (fun i _ => m - (intOf i).toNat)
  case atStart => exact ⟨0, Nat.zero_le _, rfl, (fun j t hj _ => by omega), rfl⟩
  case round =>
    obtain ⟨k, hk, rfl, HNO, rfl⟩ := hrel
    by_cases hlt : k < m
    · have hlt' : (k : Int) < m := by omega
      have hwk : IntKind.i64.wrap ((k : Int) + 1) = (k : Int) + 1 := by rw [IntKind.wrap_i64]; omega
      obtain ⟨t, ht⟩ : ∃ t, g.l[k]? = some t := ⟨_, List.getElem?_eq_getElem (by rw [HM.out]; exact hlt)⟩
      have HT : Hid (g.l[k]? = some t) := ht
      obtain ⟨b3, off3, a4, c4, rfl, hb3, _, d0, d1, d2, d3⟩ := HST.out.at ht
      have y2 := (HB1.out.cell (p := ⟨b3, off3 + k * 4 + 2, none⟩) (show b3 < B0 by have := HB0.out; omega)).trans d2
      obtain ⟨tn, htn⟩ : ∃ x, t.n = x := ⟨_, rfl⟩
      rw [htn] at y2
      have HTN : Hid (t.n = tn) := htn
      clear htn d0 d1 d2 d3 ht hb3
      by_cases hneg : tn < 0
      · have HV : Hid (lowB g = true) := List.any_eq_true.2 ⟨t, List.mem_of_getElem? HT.out, by rw [HTN.out]; exact decide_eq_true hneg⟩
        go_wp2
        go_ret
        exact ⟨by rw [HV.out]; rfl, by rw [HB0.out]; exact HB1.out⟩
      · go_wp2
        go_roundw
        case rel => exact ⟨k + 1, by omega, by go_num, (fun j t' hj ht' => by
          rcases Nat.lt_succ_iff_lt_or_eq.1 hj with q1 | q1
          · exact HNO.out j t' q1 ht'
          · subst q1; rw [HT.out] at ht'; injection ht' with ht'; rw [← ht', HTN.out]; exact hneg), by first | trivial | rfl⟩
        case measure => simp [intOf]; omega
    · have hlt' : ¬ (k : Int) < m := by omega
      obtain rfl : k = m := by omega
      have HV : Hid (lowB g = false) := List.any_eq_false.2 fun t ht => by
        obtain ⟨j, hj⟩ := List.mem_iff_getElem?.1 ht
        have := HNO.out j t (by have := (List.getElem?_eq_some_iff.1 hj).1; have := HM.out; omega) hj
        simpa using this
      go_wp2
      go_ret
      exact ⟨by rw [HV.out]; rfl, by rw [HB0.out]; exact HB1.out⟩
end Go.Proofs.YtpgecdhieakilaaGreatDoor

namespace Go.Proofs.YtpgecdhieakilaaGreatDoor
open Go.RowKit Go.Shelf
set_option linter.unusedVariables false
set_option linter.unusedSimpArgs false

theorem auto_out {n1 n2 n4 : Int} {g3 : Ag} {k : Nat} {t : Tm} (h : g3.l[k]? = some t) (ho : t.n < 0 ∨ n1 < t.n) : autoB n1 n2 n4 g3 = false := by
  have : (numL g3).any (outB n1) = true := List.any_eq_true.2 ⟨t.n, List.mem_map.2 ⟨t, List.mem_of_getElem? h, rfl⟩, by unfold outB; simpa using ho⟩
  simp [autoB, this]
theorem auto_in {n1 n2 n4 : Int} {g3 : Ag} (h1 : 1 ≤ n1) (h2 : n1 ≤ 1000) (h3 : 1 ≤ n2) (h4 : n2 ≤ 1000) (h5 : 1 ≤ n4) (h6 : n4 ≤ n1) (h7 : (g3.l.length : Int) = n1 * n2) (h : ∀ (j : Nat) t, j < g3.l.length → g3.l[j]? = some t → ¬ (t.n < 0 ∨ n1 < t.n)) : autoB n1 n2 n4 g3 = true := by
  have : (numL g3).any (outB n1) = false := List.any_eq_false.2 fun x hx => by
    obtain ⟨t, ht, rfl⟩ := List.mem_map.1 hx
    obtain ⟨j, hj⟩ := List.mem_iff_getElem?.1 ht
    have := h j t (List.getElem?_eq_some_iff.1 hj).1 hj
    unfold outB
    simpa using this
  simp [autoB, this, h1, h2, h3, h4, h5, h6, h7]

set_option maxRecDepth 100000 in
set_option maxHeartbeats 4000000 in
theorem refauto_any {B : Nat} {W : World} {a : Option Addr} {n c : Nat} {ags : List Ag} {x1 x2 x4 : Bool} {t1 t2 t4 : Tm} {g3 : Ag} (nm : ByteArray) (h : Sa B W (.slice a n c) ags) (hlen : ags.length = n) (hn : 5 ≤ n) (hn9 : n ≤ 1000) (h1 : ags[1]? = some ⟨x1, [t1]⟩) (h2 : ags[2]? = some ⟨x2, [t2]⟩) (h3 : ags[3]? = some g3) (h4 : ags[4]? = some ⟨x4, [t4]⟩) (hl3 : g3.l.length ≤ 1000) :
    Calls Tryz.prog 80 #[.agg #[.string nm, .slice a n c]] W fun e w' => e = .returned (.bool (autoB t1.n t2.n t4.n g3)) ∧ Below W.heap.size W w' := by
  obtain ⟨b, off, a1, c1, rfl, hb, s1, _, d1⟩ := h.at h1
  obtain ⟨b', off', a2, c2, e', _, s2, _, d2⟩ := h.at h2
  injection e' with e'; injection e' with q1 q2; subst q1; subst q2
  obtain ⟨b', off', a3, c3, e', _, s3, d30, d3⟩ := h.at h3
  injection e' with e'; injection e' with q1 q2; subst q1; subst q2
  obtain ⟨b', off', a4, c4, e', _, s4, _, d4⟩ := h.at h4
  injection e' with e'; injection e' with q1 q2; subst q1; subst q2
  obtain ⟨b1, o1, _, _, rfl, hb1, _, _, _, e1, _⟩ := s1.at (i := 0) rfl
  obtain ⟨b2, o2, _, _, rfl, hb2, _, _, _, e2, _⟩ := s2.at (i := 0) rfl
  obtain ⟨b4, o4, _, _, rfl, hb4, _, _, _, e4, _⟩ := s4.at (i := 0) rfl
  obtain ⟨n1, hn1⟩ : ∃ x, t1.n = x := ⟨_, rfl⟩
  obtain ⟨n2, hn2⟩ : ∃ x, t2.n = x := ⟨_, rfl⟩
  obtain ⟨n4, hn4⟩ : ∃ x, t4.n = x := ⟨_, rfl⟩
  rw [hn1] at e1; rw [hn2] at e2; rw [hn4] at e4
  rw [hn1, hn2, hn4]
  obtain ⟨m, hm⟩ : ∃ m, g3.l.length = m := ⟨_, rfl⟩
  have HM : Hid (g3.l.length = m) := hm
  rw [hm] at d3 s3 hl3
  have HST : Hid (St B W (.slice a3 m c3) g3.l) := s3
  simp only [Nat.zero_mul, Nat.add_zero, List.length_cons, List.length_nil, Nat.zero_add, Nat.one_mul, Nat.reduceMul, Nat.reduceAdd, Nat.add_assoc] at d1 d2 d3 d4 d30 e1 e2 e4
  obtain ⟨B0, hB0⟩ : ∃ x, W.heap.size = x := ⟨_, rfl⟩
  obtain ⟨W1, hW1⟩ : ∃ X, W.alloc (Obj.cells #[.string nm, .slice (some ⟨b, off, none⟩) n c] 32) = X := ⟨_, rfl⟩
  have HB1 : Hid (Below B0 W W1) := by rw [Hid, ← hW1, ← hB0]; exact (Below.refl _ W).alloc (Nat.le_refl _) _
  have KC : Hid (Blk W1 B0 #[.string nm, .slice (some ⟨b, off, none⟩) n c] 32) := by rw [Hid, ← hW1, ← hB0]; exact Blk.new W _ _
  have HW1 : Hid _ := hW1
  have HB0 : Hid (W.heap.size = B0) := hB0
  have xc := KC.out.cell 1
  simp only [List.getElem?_toArray, List.getElem?_cons_succ, List.getElem?_cons_zero] at xc
  have y1 := (HB1.out.cell (p := ⟨b, off + 3, none⟩) (show b < B0 by omega)).trans d1
  have y2 := (HB1.out.cell (p := ⟨b, off + 5, none⟩) (show b < B0 by omega)).trans d2
  have y3 := (HB1.out.cell (p := ⟨b, off + 7, none⟩) (show b < B0 by omega)).trans d3
  have y4 := (HB1.out.cell (p := ⟨b, off + 9, none⟩) (show b < B0 by omega)).trans d4
  have z1 := (HB1.out.cell (p := ⟨b1, o1 + 2, none⟩) (show b1 < B0 by omega)).trans e1
  have z2 := (HB1.out.cell (p := ⟨b2, o2 + 2, none⟩) (show b2 < B0 by omega)).trans e2
  have z4 := (HB1.out.cell (p := ⟨b4, o4 + 2, none⟩) (show b4 < B0 by omega)).trans e4
  have hn1' : (1 : Int) < n := by omega
  have hn2' : (2 : Int) < n := by omega
  have hn3' : (3 : Int) < n := by omega
  have hn4' : (4 : Int) < n := by omega
  clear hn1 hn2 hn4 h h1 h2 h3 h4 s1 s2 s3 s4 d1 d2 d3 d4 d30 e1 e2 e4 hb hb1 hb2 hb4 hB0 hW1 hm
  obtain ⟨r, hr⟩ : ∃ r, autoB n1 n2 n4 g3 = r := ⟨_, rfl⟩
  have HR : Hid (autoB n1 n2 n4 g3 = r) := hr
  rw [hr]
  clear hr
  go_enter Tryz.func80, Tryz.ntmps80
  go_upto_region 1 with (fail)
  rw [HW1.out, HB0.out]
  by_cases c0 : 1 ≤ n1
  rotate_left
  · obtain rfl : false = r := by rw [← HR.out]; simp [autoB, c0]
    have hz : n1 < 1 := by omega
    go_wp2
    go_ret
    exact ⟨rfl, by rw [HB0.out]; exact HB1.out⟩
  have hz0 : ¬ n1 < 1 := by omega
  by_cases c1 : n1 ≤ 1000
  rotate_left
  · obtain rfl : false = r := by rw [← HR.out]; simp [autoB, c1]
    have hz : 1000 < n1 := by omega
    go_wp2
    go_ret
    exact ⟨rfl, by rw [HB0.out]; exact HB1.out⟩
  have hz1 : ¬ 1000 < n1 := by omega
  by_cases c2 : 1 ≤ n2
  rotate_left
  · obtain rfl : false = r := by rw [← HR.out]; simp [autoB, c2]
    have hz : n2 < 1 := by omega
    go_wp2
    go_ret
    exact ⟨rfl, by rw [HB0.out]; exact HB1.out⟩
  have hz2 : ¬ n2 < 1 := by omega
  by_cases c3 : n2 ≤ 1000
  rotate_left
  · obtain rfl : false = r := by rw [← HR.out]; simp [autoB, c3]
    have hz : 1000 < n2 := by omega
    go_wp2
    go_ret
    exact ⟨rfl, by rw [HB0.out]; exact HB1.out⟩
  have hz3 : ¬ 1000 < n2 := by omega
  have hmul : 1 ≤ n1 * n2 ∧ n1 * n2 ≤ 1000000 := ⟨by have := Int.mul_le_mul c0 c2 (by omega) (by omega); omega, by have := Int.mul_le_mul c1 c3 (by omega) (by omega); omega⟩
  have hwm : IntKind.i64.wrap (n1 * n2) = n1 * n2 := by rw [IntKind.wrap_i64]; omega
  by_cases c6 : (m : Int) = n1 * n2
  rotate_left
  · obtain rfl : false = r := by rw [← HR.out]; simp [autoB, HM.out, c6]
    have hbe : ((m : Int) == n1 * n2) = false := by simpa using c6
    go_wp2
    go_ret
    exact ⟨rfl, by rw [HB0.out]; exact HB1.out⟩
  have hbe : ((m : Int) == n1 * n2) = true := by simpa using c6
  by_cases c4 : 1 ≤ n4
  rotate_left
  · obtain rfl : false = r := by rw [← HR.out]; simp [autoB, c4]
    have hz : n4 < 1 := by omega
    go_wp2
    go_ret
    exact ⟨rfl, by rw [HB0.out]; exact HB1.out⟩
  have hz4 : ¬ n4 < 1 := by omega
  by_cases c5 : n4 ≤ n1
  rotate_left
  · obtain rfl : false = r := by rw [← HR.out]; simp [autoB, c5]
    have hz : n1 < n4 := by omega
    go_wp2
    go_ret
    exact ⟨rfl, by rw [HB0.out]; exact HB1.out⟩
  have hz5 : ¬ n1 < n4 := by omega
  have HC6 : Hid ((m : Int) = n1 * n2) := c6
  clear hmul c6
  go_wp2
  clear hwm hbe z1 z2 z4 y1 y2 y4
  go_loopw [6] (fun i wr => ∃ k : Nat, k ≤ m ∧ i = .int .i64 (k : Int) ∧ Hid (∀ (j : Nat) t, j < k → g3.l[j]? = some t → ¬ (t.n < 0 ∨ n1 < t.n)) ∧ W1 = wr) (fun i _ => m - (intOf i).toNat)
  case atStart => exact ⟨0, Nat.zero_le _, rfl, (fun j t hj _ => by omega), rfl⟩
  case round =>
    obtain ⟨k, hk, rfl, HNO, rfl⟩ := hrel
    by_cases hlt : k < m
    · have hlt' : (k : Int) < m := by omega
      have hwk : IntKind.i64.wrap ((k : Int) + 1) = (k : Int) + 1 := by rw [IntKind.wrap_i64]; omega
      obtain ⟨t, ht⟩ : ∃ t, g3.l[k]? = some t := ⟨_, List.getElem?_eq_getElem (by rw [HM.out]; exact hlt)⟩
      have HT : Hid (g3.l[k]? = some t) := ht
      obtain ⟨b3, off3, a4', c4', rfl, hb3, _, d0, d1, d2, d3⟩ := HST.out.at ht
      have y9 := (HB1.out.cell (p := ⟨b3, off3 + k * 4 + 2, none⟩) (show b3 < B0 by have := HB0.out; omega)).trans d2
      obtain ⟨tn, htn⟩ : ∃ x, t.n = x := ⟨_, rfl⟩
      rw [htn] at y9
      have HTN : Hid (t.n = tn) := htn
      clear htn d0 d1 d2 d3 ht hb3
      by_cases hneg : tn < 0
      · obtain rfl : false = r := by rw [← HR.out]; exact (auto_out HT.out (.inl (by rw [HTN.out]; exact hneg))).symm
        go_wp2
        go_ret
        exact ⟨rfl, by rw [HB0.out]; exact HB1.out⟩
      by_cases hbig : n1 < tn
      · obtain rfl : false = r := by rw [← HR.out]; exact (auto_out HT.out (.inr (by rw [HTN.out]; exact hbig))).symm
        go_wp2
        go_ret
        exact ⟨rfl, by rw [HB0.out]; exact HB1.out⟩
      · go_wp2
        go_roundw
        case rel => exact ⟨k + 1, by omega, by go_num, (fun j t' hj ht' => by
          rcases Nat.lt_succ_iff_lt_or_eq.1 hj with q1 | q1
          · exact HNO.out j t' q1 ht'
          · subst q1; rw [HT.out] at ht'; injection ht' with ht'; rw [← ht', HTN.out]; omega), by first | trivial | rfl⟩
        case measure => simp [intOf]; omega
    · have hlt' : ¬ (k : Int) < m := by omega
      obtain rfl : k = m := by omega
      obtain rfl : true = r := by rw [← HR.out]; exact (auto_in c0 c1 c2 c3 c4 c5 (by rw [HM.out]; exact HC6.out) (by rw [HM.out]; exact HNO.out)).symm
      go_wp2
      go_ret
      exact ⟨rfl, by rw [HB0.out]; exact HB1.out⟩
end Go.Proofs.YtpgecdhieakilaaGreatDoor

namespace Go.Proofs.YtpgecdhieakilaaGreatDoor
open Go.RowKit Go.Shelf
set_option linter.unusedVariables false
set_option linter.unusedSimpArgs false

namespace Dm
theorem sizeR_vals {l : List Rg} (h : ∀ r ∈ l, r.1 ≤ r.2) : sizeR l = ((vals l).length : Int) := by
  induction l with
  | nil => rfl
  | cons r t ih =>
    have e : vals (r :: t) = span r.1 r.2 ++ vals t := by unfold vals; rw [List.flatMap_cons]
    have hr := h r (by simp)
    have it := ih fun q hq => h q (by simp [hq])
    rw [e, List.length_append, span_length]
    unfold sizeR at it ⊢
    rw [List.map_cons, List.sum_cons, it]
    omega
theorem span_pw (a b : Int) : (span a b).Pairwise (fun x y => x < y) := by
  unfold span
  rw [List.pairwise_map]
  exact List.pairwise_lt_range.imp (fun h => by omega)
theorem vals_pw : ∀ {l : List Rg}, Ord l → (vals l).Pairwise (fun x y => x < y)
  | [], _ => by simp [vals]
  | r :: t, h => by
    obtain ⟨h1, h2, h3⟩ := ord_cons h
    have e : vals (r :: t) = span r.1 r.2 ++ vals t := by unfold vals; rw [List.flatMap_cons]
    rw [e, List.pairwise_append]
    refine ⟨span_pw _ _, vals_pw h2, fun x hx y hy => ?_⟩
    have := (mem_span _ _ _).1 hx
    have := h3 y hy
    omega
theorem mem_singles (l : List Int) (v : Int) : v ∈ vals (singles l) ↔ v ∈ l := by
  rw [mem_vals']
  unfold singles
  constructor
  · rintro ⟨r, hr, h1, h2⟩
    obtain ⟨x, hx, rfl⟩ := List.mem_map.1 hr
    have : v = x := by simp only at h1 h2; omega
    rw [this]; exact hx
  · intro h
    exact ⟨(v, v), List.mem_map.2 ⟨v, h, rfl⟩, Int.le_refl _, Int.le_refl _⟩
end Dm
/-- Something stands twice, side by side. -/
theorem dup_of : ∀ l : List Int, l.Pairwise (fun a b => a ≤ b) → ¬ l.Pairwise (fun a b => a < b) → ∃ A x B, l = A ++ x :: x :: B
  | [], _, h => absurd List.Pairwise.nil h
  | a :: t, h1, h2 => by
    obtain ⟨g1, g2⟩ := List.pairwise_cons.1 h1
    by_cases ht : t.Pairwise (fun a b => a < b)
    · have : ∃ b ∈ t, ¬ a < b := Classical.byContradiction fun hc => h2 (List.pairwise_cons.2 ⟨fun b hb => Classical.byContradiction fun q => hc ⟨b, hb, q⟩, ht⟩)
      obtain ⟨b, hb, hab⟩ := this
      cases t with
      | nil => cases hb
      | cons c t' =>
        have e : c = a := by
          have q1 := g1 c (by simp)
          rcases List.mem_cons.1 hb with q | q
          · omega
          · have := (List.pairwise_cons.1 g2).1 b q
            omega
        exact ⟨[], a, t', by rw [e]; rfl⟩
    · obtain ⟨A, x, B, e⟩ := dup_of t g2 ht
      exact ⟨a :: A, x, B, by rw [e]; rfl⟩
theorem srt_pw {l : List Int} (h : srtB l 0 = true) : l.Pairwise (fun a b => a ≤ b) := by
  unfold srtB at h
  rw [List.all_eq_true] at h
  have hs : ∀ j (h1 : j + 1 < l.length), l[j] ≤ l[j + 1] := fun j h1 => by
    have := h (j + 1) (List.mem_range.2 (by omega))
    unfold stepB at this
    rw [show 0 + (j + 1) = j + 1 by omega, List.getElem?_eq_getElem h1, show j + 1 - 1 = j by omega, List.getElem?_eq_getElem (by omega : j < l.length)] at this
    simp at this
    omega
  rw [List.pairwise_iff_getElem]
  intro i j hi hj hij
  induction j with
  | zero => omega
  | succ j ih =>
    rcases Nat.lt_or_ge i j with q | q
    · have q1 := ih (by omega) q
      have q2 := hs j hj
      omega
    · have : i = j := by omega
      subst this
      exact hs i hj
theorem srt_of {l : List Int} (h : l.Pairwise (fun a b => a < b)) : srtB l 0 = true := by
  unfold srtB
  rw [List.all_eq_true]
  intro q hq
  have hl := List.mem_range.1 hq
  unfold stepB
  rw [show 0 + q = q by omega, List.getElem?_eq_getElem (by omega : q < l.length), List.getElem?_eq_getElem (by omega : q - 1 < l.length)]
  by_cases h0 : q = 0
  · simp [h0]
  · have := List.pairwise_iff_getElem.1 h (q - 1) q (by omega) (by omega) (by omega)
    simp
    omega
theorem size_set {l : List Int} (h : l.Pairwise (fun a b => a ≤ b)) : Dm.sizeR (Dm.nf (Dm.singles l)) = (l.length : Int) ↔ l.Pairwise (fun a b => a < b) := by
  obtain ⟨h1, h2⟩ := Dm.nf_facts (Dm.singles l)
  have hV := Dm.vals_pw h1
  have hm : ∀ x, x ∈ Dm.vals (Dm.nf (Dm.singles l)) ↔ x ∈ l := fun x => (h2 x).trans (Dm.mem_singles l x)
  rw [Dm.sizeR_vals h1.1]
  constructor
  · intro e
    refine Classical.byContradiction fun hn => ?_
    obtain ⟨A, x, B, el⟩ := dup_of l h hn
    have e2 : Dm.vals (Dm.nf (Dm.singles l)) = csL (A ++ x :: B) := strict_eq hV (cs_st _) fun y => by
      rw [hm, cs_mem, el]
      simp
    have := cs_len (A ++ x :: B)
    rw [e2] at e
    rw [el] at e
    simp at this e
    omega
  · intro hp
    rw [strict_eq hV hp hm]
/-- The i-th number of a list. -/
def nth (l : List Int) (i : Nat) : Int := l.getD i 0
def SetAt (l : List Int) (i : Nat) : Prop := -1000000 ≤ nth l i ∧ nth l i ≤ 1000000 ∧ (0 < i → nth l (i - 1) < nth l i)
instance (l : List Int) (i : Nat) : Decidable (SetAt l i) := by unfold SetAt; infer_instance
/-- Numbers are a set. -/
def IsSet (l : List Int) : Prop := l.length ≤ 64 ∧ ∀ i, i < l.length → SetAt l i
instance (l : List Int) : Decidable (IsSet l) := by unfold IsSet; infer_instance
def setB (l : List Int) : Bool := decide (IsSet l)
theorem setB_yes {l : List Int} (h : IsSet l) : setB l = true := by unfold setB; simpa using h
theorem setB_no {l : List Int} (h : ¬ IsSet l) : setB l = false := by unfold setB; simpa using h
theorem nth_get {l : List Int} {i : Nat} (h : i < l.length) : nth l i = l[i] := by unfold nth; simp [List.getD, List.getElem?_eq_getElem h]
theorem isSet_iff (l : List Int) : IsSet l ↔ isSB l = true := by
  unfold isSB
  simp only [Bool.and_eq_true, decide_eq_true_eq]
  constructor
  · rintro ⟨h1, h2⟩
    have hp : l.Pairwise (fun a b => a < b) := by
      rw [List.pairwise_iff_getElem]
      intro i j hi hj hij
      induction j with
      | zero => omega
      | succ j ih =>
        have q2 := (h2 (j + 1) hj).2.2 (by omega)
        rw [show j + 1 - 1 = j by omega, nth_get hj, nth_get (by omega : j < l.length)] at q2
        rcases Nat.lt_or_ge i j with q | q
        · have q1 := ih (by omega) q
          omega
        · have : i = j := by omega
          subst this
          exact q2
    refine ⟨h1, ?_, srt_of hp, (size_set (hp.imp (fun h => by omega))).2 hp⟩
    unfold inbL
    rw [List.all_eq_true]
    intro x hx
    obtain ⟨i, hi, rfl⟩ := List.mem_iff_getElem.1 hx
    have q := h2 i hi
    unfold SetAt at q
    rw [nth_get hi] at q
    simp
    omega
  · rintro ⟨h1, h2, h3, h4⟩
    have hp := (size_set (srt_pw h3)).1 h4
    refine ⟨h1, fun i hi => ?_⟩
    unfold inbL at h2
    rw [List.all_eq_true] at h2
    have q := h2 l[i] (List.getElem_mem hi)
    simp at q
    refine ⟨by rw [nth_get hi]; omega, by rw [nth_get hi]; omega, fun h0 => ?_⟩
    rw [nth_get hi, nth_get (by omega : i - 1 < l.length)]
    exact List.pairwise_iff_getElem.1 hp (i - 1) i (by omega) hi (by omega)
theorem setB_is (l : List Int) : setB l = isSB l := by
  cases h : isSB l
  · exact setB_no fun q => by rw [(isSet_iff l).1 q] at h; cases h
  · exact setB_yes ((isSet_iff l).2 h)
def Zi (W : World) (s : Value) (l : List Int) : Prop :=
  ∃ a cap, s = .slice a l.length cap ∧ (0 < l.length → ∃ b off, a = some ⟨b, off, none⟩ ∧ b < W.heap.size ∧ ∀ i, i < l.length → W.cell? ⟨b, off + i, none⟩ = some (.int .i64 (nth l i)))
theorem Si.zi {B : Nat} {W : World} {s : Value} {l : List Int} (h : Si B W s l) : Zi W s l := by
  obtain ⟨a, c, e, h⟩ := h
  refine ⟨a, c, e, fun h0 => ?_⟩
  obtain ⟨b, off, e1, _, e2, e3⟩ := h h0
  exact ⟨b, off, e1, e2, fun i hi => by rw [nth_get hi]; exact e3 i _ (List.getElem?_eq_getElem hi)⟩
theorem ret_bool {a b : Bool} (h : a = b) : Ending.returned (.bool a) = Ending.returned (.bool b) := by rw [h]

set_option maxRecDepth 100000 in
set_option maxHeartbeats 2000000 in
theorem refset_any (s : Value) (l : List Int) (w : World) (h : Zi w s l) :
    Calls Tryz.prog 77 #[s] w fun e w' => e = .returned (.bool (setB l)) ∧ ∃ n, w' = w.drewN n := by
  obtain ⟨a, cap, rfl, hc⟩ := h
  obtain ⟨n, hn⟩ : ∃ n, l.length = n := ⟨_, rfl⟩
  have HN : Hid (l.length = n) := hn
  rw [hn] at hc ⊢
  have HC : Hid _ := hc
  clear hn hc
  by_cases hlen : n ≤ 64
  · have hn' : ¬ (64 < (n : Int)) := by omega
    go_enter Tryz.func77, Tryz.ntmps77
    go_wp2
    go_loopw [3] (fun i wr => ∃ k : Nat, k ≤ n ∧ i = .int .i64 k ∧ (∀ j, j < k → SetAt l j) ∧ ∃ m, wr = w.drewN m) (fun i _ => n - (intOf i).toNat)
    case atStart => exact ⟨0, Nat.zero_le _, rfl, fun j hj => absurd hj (by omega), 0, rfl⟩
    case round =>
      obtain ⟨k, hk, rfl, hok, m, rfl⟩ := hrel
      have HOK : Hid (∀ j, j < k → SetAt l j) := hok
      clear hok
      by_cases hlt2 : k < n
      · obtain ⟨b, off, rfl, hb, hcell⟩ := HC.out (by omega)
        obtain ⟨W2, hW2⟩ : ∃ W2, w.drewN m = W2 := ⟨_, rfl⟩
        have HW2 : Hid (w.drewN m = W2) := hW2
        have HC2 : Hid (∀ i, i < n → W2.cell? ⟨b, off + i, none⟩ = some (.int .i64 (nth l i))) := by rw [← hW2]; exact hcell
        rw [hW2]
        clear hW2 hcell
        have d1 := HC2.out k hlt2
        have hlt' : (k : Int) < (n : Int) := by omega
        obtain ⟨x, hx⟩ : ∃ x, nth l k = x := ⟨_, rfl⟩
        have HX : Hid (nth l k = x) := hx
        rw [hx] at d1
        have hnot : ¬ SetAt l k → setB l = false := fun h => setB_no fun hR => h (hR.2 k (by rw [HN.out]; exact hlt2))
        have HNOT : Hid (¬ SetAt l k → setB l = false) := hnot
        clear hx hnot
        by_cases hA1 : -1000000 ≤ x
        · have hA1' : decide (x < -1000000) = false := by simp; omega
          by_cases hA2 : x ≤ 1000000
          · have hA2' : decide (1000000 < x) = false := by simp; omega
            by_cases hk0 : 0 < k
            · have d3 := HC2.out (k - 1) (by omega)
              obtain ⟨z, hz⟩ : ∃ z, nth l (k - 1) = z := ⟨_, rfl⟩
              have HZ : Hid (nth l (k - 1) = z) := hz
              rw [hz] at d3
              have hd0 : decide (0 < k) = true := by simpa using hk0
              have hk1 : (k : Int) - 1 = ((k - 1 : Nat) : Int) := by omega
              clear hz
              by_cases hD : x ≤ z
              · have hd2 : decide (x ≤ z) = true := by simpa using hD
                go_wp2
                go_quiet (fail)
                go_wp2
                go_ret
                exact ⟨ret_bool (HNOT.out (fun h => by have := h.2.2 hk0; rw [HX.out, HZ.out] at this; omega)).symm, _, by rw [← HW2.out, World.drewN_drewN]⟩
              · have hd2 : decide (x ≤ z) = false := by simp; omega
                have HOK2 : Hid (SetAt l k) := ⟨by rw [HX.out]; exact hA1, by rw [HX.out]; exact hA2, fun _ => by rw [HX.out, HZ.out]; omega⟩
                go_wp2
                go_quiet (fail)
                go_wp2
                go_roundw
                case rel => exact ⟨k + 1, by omega, by go_num, fun j hj => if h : j = k then by subst h; exact HOK2.out else HOK.out j (by omega), _, by rw [← HW2.out, World.drewN_drewN]⟩
                case measure => simp [intOf]; omega
            · have hd0 : decide (0 < k) = false := by simp; omega
              have HOK2 : Hid (SetAt l k) := ⟨by rw [HX.out]; exact hA1, by rw [HX.out]; exact hA2, fun h => absurd h hk0⟩
              go_wp2
              go_quiet (fail)
              go_wp2
              go_roundw
              case rel => exact ⟨k + 1, by omega, by go_num, fun j hj => if h : j = k then by subst h; exact HOK2.out else HOK.out j (by omega), _, by rw [← HW2.out, World.drewN_drewN]⟩
              case measure => simp [intOf]; omega
          · have hA2' : decide (1000000 < x) = true := by simp; omega
            go_wp2
            go_quiet (fail)
            go_wp2
            go_ret
            exact ⟨ret_bool (HNOT.out (fun h => by have := h.2.1; rw [HX.out] at this; omega)).symm, _, by rw [← HW2.out, World.drewN_drewN]⟩
        · have hA1' : decide (x < -1000000) = true := by simp; omega
          go_wp2
          go_quiet (fail)
          go_wp2
          go_ret
          exact ⟨ret_bool (HNOT.out (fun h => by have := h.1; rw [HX.out] at this; omega)).symm, _, by rw [← HW2.out, World.drewN_drewN]⟩
      · have hlt' : ¬ (k : Int) < (n : Int) := by omega
        go_wp2
        go_ret
        exact ⟨ret_bool (setB_yes ⟨by rw [HN.out]; exact hlen, fun i hi => HOK.out i (by rw [HN.out] at hi; omega)⟩).symm, _, rfl⟩
  · have hn' : 64 < (n : Int) := by omega
    go_enter Tryz.func77, Tryz.ntmps77
    go_wp2
    go_ret
    exact ⟨ret_bool (setB_no fun h => hlen (by rw [← HN.out]; exact h.1)).symm, 0, rfl⟩
theorem refset77 {B : Nat} {W : World} {s : Value} {l : List Int} (h : Si B W s l) : Calls Tryz.prog 77 #[s] W fun e w' => e = .returned (.bool (isSB l)) ∧ Below W.heap.size W w' :=
  (refset_any s l W h.zi).mono fun e w' ⟨h1, n, h2⟩ => ⟨by rw [h1, setB_is], by rw [h2]; exact ⟨rfl, rfl, rfl, Nat.le_refl _, fun _ _ => rfl⟩⟩
end Go.Proofs.YtpgecdhieakilaaGreatDoor
