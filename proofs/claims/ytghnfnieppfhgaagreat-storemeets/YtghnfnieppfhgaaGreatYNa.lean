/-
  What is proved here: the mathematics of domains of sets: which sets are in them, and how many.
-/
import Derived.Test.YtghnfnieppfhgaaGreatYNbj
import Derived.Test.YtghnfnieppfhgaaGreatYSdj
import Derived.OrdersHeld
import Derived.OrdersIn
import Derived.Test.YtghnfnieppfhgaaGreatYSfj
import Derived.Deep.MidRow
import Derived.Great.BuildSlice
namespace Go.Proofs.YtghnfnieppfhgaaGreat.St
open Go.RowKit Go.Shelf
set_option linter.unusedVariables false
set_option linter.unusedSimpArgs false

theorem subB_iff (a b : List Int) : subB a b = true ↔ ∀ x ∈ a, x ∈ b := by
  unfold subB lessL
  rw [decide_eq_true_iff, List.length_eq_zero_iff, List.filter_eq_nil_iff]
  simp
theorem pw_sub : ∀ (b a : List Int), a.Pairwise (· < ·) → b.Pairwise (· < ·) → (∀ x ∈ a, x ∈ b) → a.Sublist b
  | [], a, _, _, h => by
    cases a with
    | nil => exact List.Sublist.slnil
    | cons x a => exact absurd (h x List.mem_cons_self) (by simp)
  | y :: b, [], _, _, _ => List.nil_sublist _
  | y :: b, x :: a, ha, hb, h => by
    rw [List.pairwise_cons] at ha hb
    rcases List.mem_cons.1 (h x List.mem_cons_self) with e | e
    · subst e
      refine (pw_sub b a ha.2 hb.2 fun z hz => ?_).cons_cons x
      rcases List.mem_cons.1 (h z (List.mem_cons_of_mem _ hz)) with e2 | e2
      · have := ha.1 z hz; omega
      · exact e2
    · refine (pw_sub b (x :: a) (List.pairwise_cons.2 ha) hb.2 fun z hz => ?_).cons y
      have hxy := hb.1 x e
      rcases List.mem_cons.1 (h z hz) with e2 | e2
      · rcases List.mem_cons.1 hz with e3 | e3
        · omega
        · have := ha.1 z e3; omega
      · exact e2
theorem set_sub {a b : List Int} (ha : IsSet a) (hb : IsSet b) (h : ∀ x ∈ a, x ∈ b) : a.Sublist b := pw_sub b a (set_pw ha) (set_pw hb) h
theorem set_sub_len {a b : List Int} (ha : IsSet a) (hb : IsSet b) (h : ∀ x ∈ a, x ∈ b) : a.length ≤ b.length := (set_sub ha hb h).length_le
theorem set_sub_eq {a b : List Int} (ha : IsSet a) (hb : IsSet b) (h : ∀ x ∈ a, x ∈ b) (hl : b.length ≤ a.length) : a = b := (set_sub ha hb h).eq_of_length_le hl
theorem set_ext {a b : List Int} (ha : IsSet a) (hb : IsSet b) (h : ∀ x, x ∈ a ↔ x ∈ b) : a = b :=
  set_sub_eq ha hb (fun x hx => (h x).1 hx) (set_sub_len hb ha fun x hx => (h x).2 hx)

def TD (lo up : List Int) (least most : Int) : SD := ⟨true, 0, lo, up, least, most⟩
theorem none_right : RightD noneD := ⟨rfl, rfl, isSet_nil, isSet_nil, rfl, .inl ⟨rfl, rfl, rfl⟩⟩
theorem tight_cases {lo up : List Int} (least most : Int) (h1 : IsSet lo) (h2 : IsSet up) (hs : ∀ x ∈ lo, x ∈ up) :
    (tightD lo up least most = noneD ∧ min most up.length < max least lo.length) ∨
    (tightD lo up least most = TD up up up.length up.length ∧ max least lo.length = up.length ∧ (up.length : Int) ≤ most) ∨
    (tightD lo up least most = TD lo lo lo.length lo.length ∧ min most up.length = lo.length ∧ least ≤ lo.length ∧ lo.length < up.length) ∨
    (tightD lo up least most = TD lo up (max least lo.length) (min most up.length) ∧ max least lo.length ≤ min most up.length ∧ lo.length < up.length) := by
  have hl := set_sub_len h1 h2 hs
  unfold tightD
  dsimp only
  by_cases a : min most (up.length : Int) < max least (lo.length : Int)
  · rw [if_pos a]; exact .inl ⟨rfl, a⟩
  · rw [if_neg a]
    by_cases b : max least (lo.length : Int) = (up.length : Int)
    · have c : min most (up.length : Int) = (up.length : Int) := by omega
      simp only [b, c, if_true]
      exact .inr (.inl ⟨by unfold TD; congr 1 <;> omega, trivial, by omega⟩)
    · simp only [if_neg b]
      by_cases c : min most (up.length : Int) = (lo.length : Int)
      · simp only [c, if_true]
        exact .inr (.inr (.inl ⟨by unfold TD; congr 1 <;> omega, trivial, by omega, by omega⟩))
      · simp only [if_neg c]
        exact .inr (.inr (.inr ⟨by unfold TD; congr 1 <;> omega, by omega, by omega⟩))
theorem sub_refl (a : List Int) : subB a a = true := (subB_iff a a).2 fun _ h => h
theorem tight_right {lo up : List Int} (least most : Int) (h1 : IsSet lo) (h2 : IsSet up) (hs : ∀ x ∈ lo, x ∈ up) : RightD (tightD lo up least most) := by
  rcases tight_cases least most h1 h2 hs with ⟨e, a⟩ | ⟨e, a, b⟩ | ⟨e, a, b, c⟩ | ⟨e, a, b⟩ <;> rw [e]
  · exact none_right
  · exact ⟨rfl, rfl, h2, h2, sub_refl _, .inr ⟨Int.le_refl _, Int.le_refl _, Int.le_refl _⟩⟩
  · exact ⟨rfl, rfl, h1, h1, sub_refl _, .inr ⟨Int.le_refl _, Int.le_refl _, Int.le_refl _⟩⟩
  · exact ⟨rfl, rfl, h1, h2, (subB_iff _ _).2 hs, .inr ⟨by simp only [TD]; omega, by simp only [TD]; omega, by simp only [TD]; omega⟩⟩
theorem right_sub {d : SD} (h : RightD d) : ∀ x ∈ d.lo, x ∈ d.up := (subB_iff _ _).1 h.2.2.2.2.1
/-- What is known of a domain as it is taken. -/
theorem taken_right (d : SD) : RightD (takenD d) := by
  unfold takenD
  split
  · rename_i h; exact tight_right _ _ h.2.2.1 h.2.2.2.1 (right_sub h)
  · exact none_right
theorem join_mem (a b : List Int) (x : Int) : x ∈ joinL a b ↔ x ∈ a ∨ x ∈ b := by
  unfold joinL sortL
  rw [(List.mergeSort_perm _ _).mem_iff, List.mem_append]
  unfold lessL
  rw [List.mem_filter]
  by_cases h : x ∈ a <;> simp [h]
theorem less_mem (a b : List Int) (x : Int) : x ∈ lessL a b ↔ x ∈ a ∧ ¬ x ∈ b := by
  unfold lessL; rw [List.mem_filter]; simp
theorem join_pw {a b : List Int} (ha : IsSet a) (hb : IsSet b) : (joinL a b).Pairwise (· < ·) := by
  have hp : (joinL a b).Perm (a ++ lessL b a) := List.mergeSort_perm _ _
  have nd : (joinL a b).Nodup := by
    rw [hp.nodup_iff, List.nodup_append]
    refine ⟨(set_pw ha).imp (by omega), ((set_pw hb).filter _).imp (by omega), fun x hx y hy => ?_⟩
    have := ((less_mem b a y).1 hy).2
    intro e; subst e; exact this hx
  have h2 := (sort_pw (a ++ lessL b a)).and nd
  exact h2.imp (by omega)
end Go.Proofs.YtghnfnieppfhgaaGreat.St

