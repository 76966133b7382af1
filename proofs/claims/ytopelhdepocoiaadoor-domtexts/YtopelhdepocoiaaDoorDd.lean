/-
  What is proved here: the least value of ranges from a number on (mathematics alone).
-/
import Derived.Test.YtopelhdepocoiaaDoorDc
namespace Go.Proofs.YtopelhdepocoiaaDoor
open Go.RowKit Go.Shelf

/-- The least value from v on, and whether there is one. -/
def nextR : List Rg → Int → Int × Bool
  | [], _ => (0, false)
  | r :: t, v => if v ≤ r.2 then (if v ≤ r.1 then r.1 else v, true) else nextR t v
theorem next_none (l : List Rg) (v : Int) (h : ∀ i, i < l.length → hi l i < v) : nextR l v = (0, false) := by
  induction l with
  | nil => rfl
  | cons r t ih =>
    have h0 := h 0 (by simp)
    have e0 : hi (r :: t) 0 = r.2 := by simp [hi]
    rw [e0] at h0
    unfold nextR
    rw [if_neg (by omega)]
    refine ih fun i hi' => ?_
    have := h (i + 1) (by simpa using hi')
    simpa [hi] using this
theorem next_at (l : List Rg) (v : Int) (k : Nat) (hk : k < l.length) (h : ∀ i, i < k → hi l i < v) (hv : v ≤ hi l k) : nextR l v = (if v ≤ lo l k then lo l k else v, true) := by
  induction l generalizing k with
  | nil => simp at hk
  | cons r t ih =>
    unfold nextR
    cases k with
    | zero =>
      have e0 : hi (r :: t) 0 = r.2 := by simp [hi]
      have e1 : lo (r :: t) 0 = r.1 := by simp [lo]
      rw [e0] at hv
      rw [if_pos hv, e1]
    | succ k =>
      have h0 := h 0 (by omega)
      have e0 : hi (r :: t) 0 = r.2 := by simp [hi]
      rw [e0] at h0
      rw [if_neg (by omega)]
      have e1 : lo (r :: t) (k + 1) = lo t k := by simp [lo]
      have e2 : hi (r :: t) (k + 1) = hi t k := by simp [hi]
      rw [e1]
      rw [e2] at hv
      exact ih k (by simpa using hk) (fun i hi' => by have := h (i + 1) (by omega); simpa [hi] using this) hv
end Go.Proofs.YtopelhdepocoiaaDoor

