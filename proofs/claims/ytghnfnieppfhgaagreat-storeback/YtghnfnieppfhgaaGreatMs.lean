/-
  What is proved here: what the walks of StoreTells and StoreBack share.
-/
import Derived.Test.YtghnfnieppfhgaaGreatMjj
import Derived.Test.YtghnfnieppfhgaaGreatAa
import Derived.Test.YtghnfnieppfhgaaGreatCaj
import Derived.Test.YtghnfnieppfhgaaGreatFaj
import Derived.Test.YtghnfnieppfhgaaGreatYTd
import Derived.Test.YtghnfnieppfhgaaGreatYTbj
import Derived.Test.YtghnfnieppfhgaaGreatMm
import Derived.Test.YtghnfnieppfhgaaGreatMh
namespace Go.Proofs.YtghnfnieppfhgaaGreat
open Go.RowKit Go.Shelf
set_option linter.unusedVariables false
set_option linter.unusedSimpArgs false

theorem ld_of {W : World} {s : Value} {l : List MD} (h : Ds W s l) : Ld W s l := by
  obtain ⟨a, c, e, h⟩ := h
  refine ⟨a, c, e, fun h0 => ?_⟩
  obtain ⟨b, off, e1, e2, e3⟩ := h h0
  have hex : ∀ i : Nat, ∃ ci : List Value, ∀ d, l[i]? = some d → W.rangeAt b (off + i * 6) ci ∧ Dc (fun _ => False) W ci d := fun i => by
    cases hi : l[i]? with
    | none => exact ⟨[], fun d hd => by cases hd⟩
    | some d0 =>
      obtain ⟨c0, c1, c2, c3, c4, c5, hD, k0, k1, k2, k3, k4, k5⟩ := e3 i d0 hi
      refine ⟨[c0, c1, c2, c3, c4, c5], fun d hd => ?_⟩
      injection hd with hd
      subst hd
      refine ⟨fun j u hu => ?_, hD⟩
      match j, hu with
      | 0, hu => simp at hu; subst hu; exact k0
      | 1, hu => simp at hu; subst hu; exact k1
      | 2, hu => simp at hu; subst hu; exact k2
      | 3, hu => simp at hu; subst hu; exact k3
      | 4, hu => simp at hu; subst hu; exact k4
      | 5, hu => simp at hu; subst hu; exact k5
      | j + 6, hu => simp at hu
  obtain ⟨f, hf⟩ := Classical.axiomOfChoice hex
  refine ⟨b, off, (List.range l.length).map f, e1, e2, by simp, fun i ci di hci hdi => ?_⟩
  have hi := (List.getElem?_eq_some_iff.1 hdi).1
  rw [List.getElem?_map, List.getElem?_range hi] at hci
  simp at hci
  subst hci
  exact hf i di hdi
theorem events_u {W : World} {p : Nat} {st : StM} {sl : Sl} (h : Sto W p st sl) (hz : Sz st) :
    Calls Tryz.prog 19 #[ptr p] W fun e w' => ∃ s, e = .returned s ∧ Rw w' 61 s 2 (evsA st st.D.length) ∧ (∀ b, s.ownBlock = some b → W.heap.size ≤ b) ∧ Sto w' p { st with why := List.replicate st.D.length 0 } sl ∧ Kept (XS p sl) W w' := by
  rcases Nat.eq_zero_or_pos st.D.length with h0 | h0
  · refine (events_0 h h0).mono ?_
    rintro e w' ⟨rfl, rfl⟩
    have hw : st.why = [] := List.length_eq_zero_iff.1 (by rw [h.lw]; exact h0)
    have hst : ({ st with why := List.replicate st.D.length 0 } : StM) = st := by
      rw [h0]
      cases st
      simp only at hw
      subst hw
      rfl
    refine ⟨_, rfl, ?_, (fun b hb => by cases hb), (by rw [hst]; exact h), Kept.refl _ _⟩
    rw [h0]
    exact ⟨fun c hc => by simp [evsA] at hc, World.ownsRow_nil _ _ _ _⟩
  · exact events_d h hz h0

theorem new_ways {W : World} {s : Value} {l : List MD} (hl : Ld W s l) (hf : ∀ d ∈ l, Dm.FitsR d.r) :
    (∃ x : Int, x ≠ 0 ∧ Calls Tryz.prog 8 #[s] W fun e w' => e = .returned (.tuple #[.pointer none, .int .i64 x]) ∧ Below W.heap.size W w') ∨ ((∀ d ∈ l, rightM d = true) ∧ l.length ≤ 1000 ∧ Calls Tryz.prog 8 #[s] W fun e w' => ∃ p sl, e = .returned (.tuple #[ptr p, .int .i64 0]) ∧ Sto w' p (newA l) sl ∧ (∀ b, XS p sl b → W.heap.size ≤ b) ∧ Below W.heap.size W w') := by
    by_cases hb : 1000 < l.length
    · exact .inl ⟨4, by decide, new_big hl hb⟩
    · by_cases hr : ∀ d ∈ l, rightM d = true
      · exact .inr ⟨hr, by omega, new_ok hl (by omega) (fun d hd => ⟨hf d hd, hr d hd⟩)⟩
      · refine .inl ⟨20, by decide, new_no hl (by omega) hf ?_⟩
        exact Classical.byContradiction fun hc => hr fun d hd => by
          cases q : rightM d
          · exact absurd ⟨d, hd, q⟩ hc
          · rfl

end Go.Proofs.YtghnfnieppfhgaaGreat
