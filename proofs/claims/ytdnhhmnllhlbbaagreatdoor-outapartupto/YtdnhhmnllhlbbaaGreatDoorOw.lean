/-
  What is proved here: That a block is of one list of values alone.
-/
import Derived.Test.YtdnhhmnllhlbbaaGreatDoorOv
namespace Go.Proofs.YtdnhhmnllhlbbaaGreatDoor
open Go.RowKit Go.Shelf
set_option linter.unusedVariables false
set_option linter.unusedSimpArgs false

theorem aft_tail (o : Ou) (r : List UInt8) : Aft (tailT o ++ r) := by
  unfold tailT
  split
  · exact ⟨59, _, rfl, .inl rfl⟩
  · exact ⟨93, _, rfl, .inr (.inl rfl)⟩
theorem aft_sep (r : List UInt8) : Aft ([44, 32] ++ r) := ⟨44, _, rfl, .inr (.inr ⟨rfl, _, rfl⟩)⟩
theorem vals_inj {k : Int} : ∀ {x y : List Vl} {r q : List UInt8}, x.length = y.length → (∀ v ∈ x, isVal v.set v.n v.s k = true) → (∀ v ∈ y, isVal v.set v.n v.s k = true) → Aft r → Aft q → valsT k x ++ r = valsT k y ++ q → x = y ∧ r = q
  | [], [], r, q, _, _, _, _, _, e => ⟨rfl, e⟩
  | [], w :: y, r, q, h, _, _, _, _, e => by simp at h
  | v :: x, [], r, q, h, _, _, _, _, e => by simp at h
  | v :: x, w :: y, r, q, h, hx, hy, hr, hq, e => by
    have hv := hx v (by simp)
    have hw := hy w (by simp)
    cases x with
    | nil =>
      cases y with
      | nil => obtain ⟨e1, e2⟩ := val_inj hv hw hr hq e; exact ⟨by rw [e1], e2⟩
      | cons _ _ => simp at h
    | cons v2 x =>
      cases y with
      | nil => simp at h
      | cons w2 y =>
        have e' : valT k v ++ ([44, 32] ++ (valsT k (v2 :: x) ++ r)) = valT k w ++ ([44, 32] ++ (valsT k (w2 :: y) ++ q)) := by
          simpa only [valsT, List.map_cons, sepT, List.append_assoc] using e
        obtain ⟨e1, e2⟩ := val_inj hv hw (aft_sep _) (aft_sep _) e'
        obtain ⟨e3, e4⟩ := vals_inj (by simpa using h) (fun z hz => hx z (by simp [hz])) (fun z hz => hy z (by simp [hz])) hr hq (List.append_cancel_left e2)
        exact ⟨by rw [e1, e3], e4⟩
theorem out_inj {o : Ou} {vals vals' : List Vl} {x y : List Vl} {r q : List UInt8} (hx : ouV o vals = some x) (hy : ouV o vals' = some y) (e : outT o x ++ r = outT o y ++ q) : x = y ∧ r = q := by
  obtain ⟨a1, a2⟩ := ouV_facts hx
  obtain ⟨b1, b2⟩ := ouV_facts hy
  unfold outT at e
  simp only [List.append_assoc] at e
  obtain ⟨e1, e2⟩ := vals_inj (a1.trans b1.symm) a2 b2 (aft_tail o _) (aft_tail o _) (List.append_cancel_left e)
  exact ⟨e1, List.append_cancel_left e2⟩
theorem outs_inj : ∀ {l : List Ou} {vals vals' : List Vl} {xs ys : List (List Vl)} {r q : List UInt8}, ousV l vals = some xs → ousV l vals' = some ys → outsT l xs ++ r = outsT l ys ++ q → xs = ys ∧ r = q
  | [], _, _, xs, ys, r, q, hx, hy, e => by
    unfold ousV at hx hy
    injection hx with hx
    injection hy with hy
    subst hx hy
    exact ⟨rfl, e⟩
  | o :: l, vals, vals', xs, ys, r, q, hx, hy, e => by
    unfold ousV at hx hy
    cases h1 : ouV o vals with
    | none => rw [h1] at hx; cases hx
    | some x =>
      cases h2 : ousV l vals with
      | none => rw [h1, h2] at hx; cases hx
      | some x' =>
        rw [h1, h2] at hx
        injection hx with hx
        subst hx
        cases h3 : ouV o vals' with
        | none => rw [h3] at hy; cases hy
        | some y =>
          cases h4 : ousV l vals' with
          | none => rw [h3, h4] at hy; cases hy
          | some y' =>
            rw [h3, h4] at hy
            injection hy with hy
            subst hy
            have e' : outT o x ++ (outsT l x' ++ r) = outT o y ++ (outsT l y' ++ q) := by simpa only [outsT, List.append_assoc] using e
            obtain ⟨e1, e2⟩ := out_inj h1 h3 e'
            obtain ⟨e3, e4⟩ := outs_inj h2 h4 e2
            exact ⟨by rw [e1, e3], e4⟩
theorem block_inj {l : List Ou} {vals vals' : List Vl} {xs ys : List (List Vl)} (hx : ousV l vals = some xs) (hy : ousV l vals' = some ys) : blockT l xs = blockT l ys ↔ xs = ys :=
  ⟨fun e => (outs_inj hx hy e).1, fun e => by rw [e]⟩
end Go.Proofs.YtdnhhmnllhlbbaaGreatDoor
