/-
  What is proved here: the mathematics of SetsAlgebra.
-/
import Derived.Test.YtacnhkaibcjjgaaGreatDoorSe
namespace Go.Proofs.YtacnhkaibcjjgaaGreatDoor
open Go.RowKit Go.Shelf
set_option linter.unusedVariables false
set_option linter.unusedSimpArgs false

theorem cmp_neg : ∀ a b, cmpL a b = -cmpL b a
  | [], [] => rfl
  | [], _ :: _ => rfl
  | _ :: _, [] => rfl
  | x :: a, y :: b => by
    unfold cmpL
    have := cmp_neg a b
    split <;> split <;> first | omega | (split <;> omega) | skip
    all_goals (first | omega | rfl | (rw [if_neg (by omega)]; first | rfl | omega))
theorem cmp_zero : ∀ a b, cmpL a b = 0 → a = b
  | [], [], _ => rfl
  | [], _ :: _, h => by simp [cmpL] at h
  | _ :: _, [], h => by simp [cmpL] at h
  | x :: a, y :: b, h => by
    unfold cmpL at h
    split at h
    · omega
    · split at h
      · omega
      · have := cmp_zero a b h
        rw [this, show x = y by omega]
theorem cmp_trans : ∀ a b c, cmpL a b ≤ 0 → cmpL b c ≤ 0 → cmpL a c ≤ 0
  | [], _, [], _, _ => by simp [cmpL]
  | [], _, _ :: _, _, _ => by simp [cmpL]
  | _ :: _, [], _, h, _ => by simp [cmpL] at h
  | _ :: _, _ :: _, [], _, h => by simp [cmpL] at h
  | x :: a, y :: b, z :: c, h1, h2 => by
    have ih := cmp_trans a b c
    unfold cmpL at h1 h2 ⊢
    split at h1 <;> split at h2 <;> (try split at h1) <;> (try split at h2) <;> (try omega)
    all_goals (split <;> first | omega | (split <;> first | omega | (apply ih <;> omega)) | skip)
theorem cmp_range : ∀ a b, -1 ≤ cmpL a b ∧ cmpL a b ≤ 1
  | [], [] => by simp [cmpL]
  | [], _ :: _ => by simp [cmpL]
  | _ :: _, [] => by simp [cmpL]
  | x :: a, y :: b => by
    unfold cmpL
    have := cmp_range a b
    split
    · omega
    · split <;> omega

theorem set_pw {l : List Int} (h : IsSet l) : l.Pairwise (· < ·) := by
  rw [List.pairwise_iff_getElem]
  have step : ∀ d i, i + d + 1 < l.length → nth l i < nth l (i + d + 1) := by
    intro d
    induction d with
    | zero => intro i hi; have := (h.2 (i + 1) hi).2.2 (by omega); simpa using this
    | succ d ih => intro i hi; have h1 := ih i (by omega); have h2 := (h.2 (i + (d + 1) + 1) hi).2.2 (by omega); simp only [Nat.add_sub_cancel] at h2; exact Int.lt_trans (by simpa [Nat.add_assoc] using h1) h2
  intro i j hi hj hij
  have := step (j - i - 1) i (by omega)
  rw [show i + (j - i - 1) + 1 = j by omega] at this
  simpa [nth, hi, hj] using this
theorem set_of {l : List Int} (hl : l.length ≤ 64) (hb : ∀ x ∈ l, -1000000 ≤ x ∧ x ≤ 1000000) (hp : l.Pairwise (· < ·)) : IsSet l := by
  refine ⟨hl, fun i hi => ?_⟩
  have e : ∀ k (hk : k < l.length), nth l k = l[k] := fun k hk => by simp [nth, hk]
  have hm := hb l[i] (List.getElem_mem hi)
  refine ⟨by rw [e i hi]; exact hm.1, by rw [e i hi]; exact hm.2, fun h0 => ?_⟩
  rw [e i hi, e (i - 1) (by omega)]
  exact List.pairwise_iff_getElem.1 hp (i - 1) i (by omega) hi (by omega)
theorem set_mem {l : List Int} (h : IsSet l) : ∀ x ∈ l, -1000000 ≤ x ∧ x ≤ 1000000 := by
  intro x hx
  obtain ⟨i, hi, rfl⟩ := List.getElem_of_mem hx
  have := h.2 i hi
  unfold SetAt at this
  simp only [nth, List.getD_eq_getElem?_getD, List.getElem?_eq_getElem hi, Option.getD_some] at this
  exact ⟨this.1, this.2.1⟩
theorem set_filter {l : List Int} (h : IsSet l) (f : Int → Bool) : IsSet (l.filter f) :=
  set_of (Nat.le_trans (List.length_filter_le _ _) h.1) (fun x hx => set_mem h x (List.mem_filter.1 hx).1) ((set_pw h).filter _)
theorem sort_pw (l : List Int) : (sortL l).Pairwise (· ≤ ·) := by
  have := List.pairwise_mergeSort (le := fun x y : Int => decide (x ≤ y)) (by simp; omega) (by simp; omega) l
  exact this.imp (by simp)
theorem join_less {a b : List Int} (ha : IsSet a) (hb : IsSet b) (hj : IsSet (joinL a b)) : lessL (joinL a b) (meetL a b) = symL a b := by
  refine List.Perm.eq_of_pairwise (le := (· ≤ ·)) (fun x y _ _ h1 h2 => by omega) (((set_pw hj).filter _).imp (by omega)) (sort_pw _) ?_
  have p1 : (lessL (joinL a b) (meetL a b)).Perm ((a ++ lessL b a).filter fun x => !(meetL a b).contains x) := (List.mergeSort_perm _ _).filter _
  have p2 : (symL a b).Perm (lessL a b ++ lessL b a) := List.mergeSort_perm _ _
  refine p1.trans (List.Perm.trans ?_ p2.symm)
  rw [List.filter_append]
  have e1 : (a.filter fun x => !(meetL a b).contains x) = lessL a b := by
    unfold lessL
    apply List.filter_congr
    intro x hx
    simp [meetL, hx]
  have e2 : ((lessL b a).filter fun x => !(meetL a b).contains x) = lessL b a := by
    rw [List.filter_eq_self]
    intro x hx
    have := (List.mem_filter.1 hx).2
    simp at this
    simp [meetL, this]
  rw [e1, e2]
theorem sub_meet (a b : List Int) : subB (meetL a b) a = true := by
  have : lessL (meetL a b) a = [] := by
    unfold lessL
    rw [List.filter_eq_nil_iff]
    intro x hx
    have := (List.mem_filter.1 hx).1
    simp [this]
  unfold subB; rw [this]; rfl
theorem sub_join (a b : List Int) : subB a (joinL a b) = true := by
  have : lessL a (joinL a b) = [] := by
    unfold lessL
    rw [List.filter_eq_nil_iff]
    intro x hx
    have h : x ∈ joinL a b := (List.mergeSort_perm _ _).mem_iff.2 (List.mem_append_left _ hx)
    simp [h]
  unfold subB; rw [this]; rfl
end Go.Proofs.YtacnhkaibcjjgaaGreatDoor
