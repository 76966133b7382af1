/-
  What is proved here: what Min, Max and Next return, told by the list of the values.
-/
import Derived.Test.YtgcgomofmicchaaDoorYr
namespace Go.Proofs.YtgcgomofmicchaaDoor
open Go.RowKit Go.Shelf

theorem first_all (v : Int) (l : List Int) (h : ∀ x ∈ l, v ≤ x) : firstFrom v l = l[0]?.getD 0 ∧ anyFrom v l = decide (0 < l.length) := by
  cases l with
  | nil => exact ⟨rfl, rfl⟩
  | cons a l =>
    have := h a (by simp)
    constructor
    · unfold firstFrom; rw [List.find?_cons]; simp [this]
    · unfold anyFrom; simp [this]
theorem nextV (b g c : Nat) (f room v : Int) (ws : List Nat) (W : World) (h : Bits W b g c f room ws) (hz : Sz f room ws) (hc : Cl room ws) (hT : Tab W) :
    Calls Tryd.prog 37 #[.pointer (some ⟨b, 0, none⟩), .int .i64 v] W fun e w' => e = .returned (.tuple #[.int .i64 (firstFrom v (bvs f room ws)), .bool (anyFrom v (bvs f room ws))]) ∧ ∃ n, w' = W.drewN n :=
  (next_any b g c f room v ws W h hz hc hT).mono (fun e w' ⟨⟨r, t, he, hn⟩, hm⟩ => by
    obtain ⟨e1, e2⟩ := next_bvs hz hc hn
    exact ⟨by rw [he, e1, e2], hm⟩)
theorem minV (b g c : Nat) (f room : Int) (ws : List Nat) (W : World) (h : Bits W b g c f room ws) (hz : Sz f room ws) (hc : Cl room ws) (hT : Tab W) :
    Calls Tryd.prog 35 #[.pointer (some ⟨b, 0, none⟩)] W fun e w' => e = .returned (.tuple #[.int .i64 ((bvs f room ws)[0]?.getD 0), .bool (decide (0 < (bvs f room ws).length))]) ∧ ∃ n, w' = W.drewN n :=
  (min_any b g c f room ws W h hz hc hT).mono (fun e w' ⟨⟨r, t, he, hn⟩, hm⟩ => by
    obtain ⟨e1, e2⟩ := next_bvs hz hc hn
    obtain ⟨e3, e4⟩ := first_all (-9223372036854775808) (bvs f room ws) (fun x hx => by
      have := has_fits ((mem_bvs hz hc x).1 hx)
      have := hz.lo
      omega)
    exact ⟨by rw [he, e1, e2, e3, e4], hm⟩)
theorem maxV (b g c : Nat) (f room : Int) (ws : List Nat) (W : World) (h : Bits W b g c f room ws) (hz : Sz f room ws) (hc : Cl room ws) :
    Calls Tryd.prog 36 #[.pointer (some ⟨b, 0, none⟩)] W fun e w' => e = .returned (.tuple #[.int .i64 ((bvs f room ws)[(bvs f room ws).length - 1]?.getD 0), .bool (decide (0 < (bvs f room ws).length))]) ∧ ∃ n, w' = W.drewN n :=
  (max_any b g c f room ws W h hz).mono (fun e w' ⟨he, hm⟩ => by
    refine ⟨?_, hm⟩
    rcases max_bvs hz hc he with ⟨e1, e2⟩ | ⟨ys, y, e1, e2⟩
    · rw [e1, e2]; rfl
    · rw [e1, e2]; simp)
/-- One step of the search for the first value from v on. -/
theorem first_hit (v : Int) (l : List Int) (k : Nat) (hk : k < l.length) (h : ∀ j, j < k → l[j]?.getD 0 < v) (hv : v ≤ l[k]?.getD 0) : firstFrom v l = l[k]?.getD 0 ∧ anyFrom v l = true := by
  have hs : l = l.take k ++ (l[k] :: l.drop (k + 1)) := by rw [List.getElem_cons_drop, List.take_append_drop]
  have hv' : v ≤ l[k] := by simpa [hk] using hv
  have hn : ∀ x ∈ l.take k, ¬ v ≤ x := fun x hx => by
    obtain ⟨j, hj, rfl⟩ := List.mem_iff_getElem.1 hx
    have hj' : j < k := by simp at hj; omega
    have := h j hj'
    rw [List.getElem_take]
    rw [List.getElem?_eq_getElem (by omega)] at this
    simp at this; omega
  constructor
  · unfold firstFrom
    rw [hs, List.find?_append, List.find?_eq_none.2 (fun x hx => by simpa using hn x hx), List.find?_cons]
    simp [hv', hk]
  · unfold anyFrom
    rw [List.any_eq_true]
    exact ⟨l[k], List.getElem_mem hk, by simpa using hv'⟩
theorem first_none (v : Int) (l : List Int) (h : ∀ j, j < l.length → l[j]?.getD 0 < v) : firstFrom v l = 0 ∧ anyFrom v l = false := by
  have hn : ∀ x ∈ l, ¬ v ≤ x := fun x hx => by
    obtain ⟨j, hj, rfl⟩ := List.mem_iff_getElem.1 hx
    have := h j hj
    rw [List.getElem?_eq_getElem hj] at this
    simp at this; omega
  constructor
  · unfold firstFrom; rw [List.find?_eq_none.2 (fun x hx => by simpa using hn x hx)]; rfl
  · unfold anyFrom; rw [List.any_eq_false]; exact fun x hx => by simpa using hn x hx
end Go.Proofs.YtgcgomofmicchaaDoor
