/-
  What is proved here: what is known of a domain with just one set (mathematics only).
-/
import Derived.Test.YtacnhkaibcjjgaaGreatDoorUf
namespace Go.Proofs.YtacnhkaibcjjgaaGreatDoor
open Go.RowKit Go.Shelf
set_option linter.unusedVariables false
set_option linter.unusedSimpArgs false

/-- The domain's only set. -/
structure Uq (d : SD) (S : List Int) : Prop where
  right : RightD d
  least : d.least = S.length
  most : d.most = S.length
  set : IsSet S
  los : ∀ x ∈ d.lo, x ∈ S
  sup : ∀ x ∈ S, x ∈ d.up
  alt : S = d.up ∨ S = d.lo
/-- What of it lies ahead of a place. -/
def hd (S up : List Int) (i : Nat) : List Int := (up.take i).filter fun x => S.contains x
theorem hd_zero (S up : List Int) : hd S up 0 = [] := by simp [hd]
theorem hd_step (S up : List Int) (i : Nat) (h : i < up.length) : hd S up (i + 1) = if S.contains (nth up i) then hd S up i ++ [nth up i] else hd S up i := by
  unfold hd
  rw [List.take_succ_eq_append_getElem h, List.filter_append]
  have e : nth up i = up[i] := by simp [nth, h]
  rw [e, List.filter_cons]
  cases S.contains up[i] <;> simp
theorem filter_set {S up : List Int} (hS : IsSet S) (hu : IsSet up) (h : ∀ x ∈ S, x ∈ up) : (up.filter fun x => S.contains x) = S :=
  set_ext (set_filter hu _) hS fun x => by
    rw [List.mem_filter]
    simp only [List.contains_iff_mem]
    exact ⟨fun g => g.2, fun g => ⟨h x g, g⟩⟩
theorem hd_rest {S up : List Int} (hS : IsSet S) (hu : IsSet up) (h : ∀ x ∈ S, x ∈ up) (i : Nat) : (hd S up i).length + mn S up i = S.length := by
  unfold hd mn
  rw [← List.length_append, ← List.filter_append, List.take_append_drop, filter_set hS hu h]
theorem hd_set {S up : List Int} (hu : IsSet up) (i : Nat) : IsSet (hd S up i) := by
  have hp : (up.take i).Pairwise (· < ·) := (set_pw hu).sublist (List.take_sublist i up)
  have hl := List.length_filter_le (fun x => S.contains x) (up.take i)
  have hl2 := List.length_take_le i up
  have h64 := hu.1
  have hl3 : (up.take i).length ≤ up.length := by rw [List.length_take]; omega
  exact set_of (by unfold hd; omega) (fun x hx => set_mem hu x (List.mem_of_mem_take (List.mem_filter.1 hx).1)) (hp.filter _)
theorem hd_in {S up : List Int} (i : Nat) : ∀ x ∈ hd S up i, x ∈ S := fun x hx => by
  have := (List.mem_filter.1 hx).2
  simpa using this
theorem mn_mono {lo S : List Int} (up : List Int) (h : ∀ x ∈ lo, x ∈ S) (i : Nat) : mn lo up i ≤ mn S up i := by
  unfold mn
  generalize up.drop i = l
  induction l with
  | nil => simp
  | cons x l ih =>
    rw [List.filter_cons, List.filter_cons]
    by_cases hx : x ∈ lo
    · have e1 : lo.contains x = true := by simpa using hx
      have e2 : S.contains x = true := by simpa using h x hx
      simp only [e1, e2, if_true, List.length_cons]; omega
    · have e1 : lo.contains x = false := by simpa using hx
      simp only [e1, Bool.false_eq_true, if_false]
      split
      · simp only [List.length_cons]; omega
      · exact ih
theorem mn_drop (S up : List Int) (i : Nat) : mn S up i ≤ up.length - i := by
  unfold mn
  have := List.length_filter_le (fun x => S.contains x) (up.drop i)
  rw [List.length_drop] at this
  exact this
theorem Uq.len {d : SD} {S : List Int} (h : Uq d S) (i : Nat) : (hd S d.up i).length + mn S d.up i = S.length := hd_rest h.set h.right.2.2.2.1 h.sup i
theorem Uq.found {d : SD} {S : List Int} (h : Uq d S) {i : Nat} (e : (hd S d.up i).length = S.length) : hd S d.up i = S := set_sub_eq (hd_set h.right.2.2.2.1 i) h.set (hd_in i) (by omega)
theorem Uq.has {d : SD} {S : List Int} (h : Uq d S) (i : Nat) : hasD d (hd S d.up i) = decide ((hd S d.up i).length = S.length) := by
  rw [Bool.eq_iff_iff, has_iff, tkS_yes (hd_set h.right.2.2.2.1 i), decide_eq_true_eq]
  have hl := h.len i
  constructor
  · rintro ⟨_, _, _, h3, _⟩
    rw [h.least] at h3
    omega
  · intro e
    rw [h.found e]
    exact ⟨h.right, h.los, h.sup, by rw [h.least]; omega, by rw [h.most]; omega⟩
theorem Uq.goes {d : SD} {S : List Int} (h : Uq d S) {i : Nat} (e : ¬ (hd S d.up i).length = S.length) :
    i < d.up.length ∧ (hd S d.up i).length < S.length ∧ S.length ≤ (hd S d.up i).length + (d.up.length - i) ∧
    (S.contains (nth d.up i) = true → (hd S d.up i).length + 1 + mn d.lo d.up (i + 1) ≤ S.length) ∧
    (S.contains (nth d.up i) = false → S.length < (hd S d.up i).length + 1 + mn d.lo d.up (i + 1) ∧ d.lo.contains (nth d.up i) = false) := by
  have hl := h.len i
  have h1 : i < d.up.length := by
    apply Classical.byContradiction
    intro hn
    rw [mn_end S d.up i (by omega)] at hl
    omega
  have h2 := mn_drop S d.up i
  have h3 := mn_step S d.up i h1
  have h4 := mn_mono d.up h.los (i + 1)
  refine ⟨h1, by omega, by omega, fun hc => ?_, fun hc => ?_⟩
  · rw [hc] at h3
    simp only [if_true] at h3
    omega
  · rw [hc] at h3
    simp only [Bool.false_eq_true, if_false] at h3
    have hn : ¬ nth d.up i ∈ S := by simpa using hc
    have hlo : S = d.lo := by
      rcases h.alt with e | e
      · exact absurd (by rw [e]; simp [nth, h1]) hn
      · exact e
    refine ⟨by rw [← hlo]; omega, by rw [← hlo]; exact hc⟩
theorem Uq.grow {d : SD} {S : List Int} (h : Uq d S) {i : Nat} (e : i < d.up.length) : (S.contains (nth d.up i) = true → hd S d.up (i + 1) = hd S d.up i ++ [nth d.up i]) ∧ (S.contains (nth d.up i) = false → hd S d.up (i + 1) = hd S d.up i) := by
  rw [hd_step S d.up i e]
  exact ⟨fun g => by rw [g]; rfl, fun g => by rw [g]; rfl⟩
end Go.Proofs.YtacnhkaibcjjgaaGreatDoor
