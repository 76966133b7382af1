/-
  What is proved here: what the reference's number reads of any text.
  What is proved here: plain mathematics of how far a set's text has been read.
  What is proved here: what the reference's Parse reads of any text.
-/
import Derived.Test.YtfcaemfledlnnaaGreatDoorYRf
import Derived.Laws.Strings
import Derived.Test.YtfcaemfledlnnaaGreatDoorYSoj
namespace Go.Proofs.YtfcaemfledlnnaaGreatDoor.St
open Go.RowKit Go.Shelf
set_option linter.unusedVariables false
set_option linter.unusedSimpArgs false
theorem numV_lt (l : List UInt8) (acc : Nat) (h : ∀ b ∈ l, Dig b) : numV l acc < (acc + 1) * 10 ^ l.length := by
  induction l generalizing acc with
  | nil => simp [numV]
  | cons b r ih =>
    have hb := h b (by simp)
    unfold Dig at hb
    have := ih (acc * 10 + (b.toNat - 48)) (fun c hc => h c (by simp [hc]))
    simp only [numV, List.length_cons]
    refine Nat.lt_of_lt_of_le this ?_
    rw [Nat.pow_succ, Nat.mul_comm (10 ^ r.length) 10, ← Nat.mul_assoc]
    exact Nat.mul_le_mul_right _ (by omega)
theorem dec_len7 (u : Nat) (h : u ≤ 1000000) : (Lib.decDigits u).length ≤ 7 := by
  rw [Lib.decDigits_length]
  apply Classical.byContradiction
  intro hn
  have key : ∀ k u, u < 10 ^ (k + 1) → Lib.nDigits u ≤ k + 1 := by
    intro k
    induction k with
    | zero => intro u hu; rw [Lib.nDigits_small (by simpa using hu)]; omega
    | succ k ih =>
      intro u hu
      by_cases h10 : u < 10
      · rw [Lib.nDigits_small h10]; omega
      · rw [Lib.nDigits_big h10]
        have := ih (u / 10) (by rw [Nat.pow_succ] at hu; omega)
        omega
  exact hn (key 6 u (by omega))
theorem str_get (s : ByteArray) (i : Nat) (c : UInt8) (h : s.data.toList[i]? = some c) : ∃ h' : i < s.size, s[i] = c := by
  have hlt : i < s.size := by
    have := (List.getElem?_eq_some_iff.1 h).1
    simpa using this
  refine ⟨hlt, ?_⟩
  have e : s.data[i]'(by simpa using hlt) = c := by have := (List.getElem?_eq_some_iff.1 h).2; simpa using this
  exact e
theorem take_dig (ds : List UInt8) (k : Nat) (h : ∀ j, j < k → ∃ c, ds[j]? = some c ∧ Dig c) : ∀ c ∈ ds.take k, Dig c := by
  intro c hc
  obtain ⟨j, hj, rfl⟩ := List.getElem_of_mem hc
  have hj' : j < k := by rw [List.length_take] at hj; omega
  obtain ⟨c, h1, h2⟩ := h j hj'
  have : (ds.take k)[j]? = some c := by rw [List.getElem?_take, if_pos hj', h1]
  rw [List.getElem?_eq_getElem hj] at this
  rw [Option.some.inj this]; exact h2
theorem numV_small (ds : List UInt8) (k : Nat) (hk : k ≤ 9) (h : ∀ j, j < k → ∃ c, ds[j]? = some c ∧ Dig c) : numV (ds.take k) 0 < 1000000000 := by
  refine Nat.lt_of_lt_of_le (numV_lt _ 0 (take_dig ds k h)) ?_
  have : (ds.take k).length ≤ 9 := by rw [List.length_take]; omega
  have h2 : (10 : Nat) ^ (ds.take k).length ≤ 10 ^ 9 := Nat.pow_le_pow_right (by omega) this
  have h3 : (10 : Nat) ^ 9 = 1000000000 := by decide
  omega
theorem numV_next (ds : List UInt8) (k : Nat) (c : UInt8) (h : ds[k]? = some c) : numV (ds.take (k + 1)) 0 = numV (ds.take k) 0 * 10 + (c.toNat - 48) := by
  rw [List.take_add_one, h, numV_app]
  rfl
/-- What the reference's number answers of a text: of a number that is written just that. -/
def NumN (b : List UInt8) (e : Ending) : Prop := ∃ v ok, e = .returned (.tuple #[.int .i64 v, .bool ok]) ∧ ∀ x, -1000000 ≤ x → x ≤ 1000000 → b = Lib.itoa x → v = x ∧ ok = true
/-- The digits of a text: those behind a sign. -/
def DigsOf (b ds : List UInt8) (minus : Bool) : Prop := ∀ x, -1000000 ≤ x → x ≤ 1000000 → b = Lib.itoa x → ds = Lib.decDigits x.natAbs ∧ x = if minus then -(x.natAbs : Int) else (x.natAbs : Int)
theorem digs_minus (ds : List UInt8) : DigsOf (45 :: ds) ds true := by
  intro x h0 h1 hb
  unfold Lib.itoa at hb
  by_cases hx : x < 0
  · rw [if_pos hx] at hb
    injection hb with _ hb
    exact ⟨hb, by simp; omega⟩
  · rw [if_neg hx] at hb
    have := dec_digit x.toNat 45 (by rw [← hb]; simp)
    exact absurd this (by decide)
theorem digs_plain {b : List UInt8} (h : b.head? ≠ some 45) : DigsOf b b false := by
  intro x h0 h1 hb
  unfold Lib.itoa at hb
  by_cases hx : x < 0
  · rw [if_pos hx] at hb
    rw [hb] at h
    simp at h
  · rw [if_neg hx] at hb
    have : x.natAbs = x.toNat := by omega
    rw [this]
    exact ⟨hb, by simp; omega⟩
theorem NumN.no {b ds : List UInt8} {m : Bool} (hd : DigsOf b ds m) (h : 9 < ds.length ∨ ∃ c ∈ ds, ¬ Dig c) : NumN b (.returned (.tuple #[.int .i64 0, .bool false])) := by
  refine ⟨0, false, rfl, fun x h0 h1 hb => ?_⟩
  obtain ⟨e, _⟩ := hd x h0 h1 hb
  have h7 := dec_len7 x.natAbs (by omega)
  rcases h with h | ⟨c, hc, hn⟩
  · rw [e] at h; omega
  · rw [e] at hc; exact absurd (dec_digit _ c hc) hn
theorem NumN.yes {b ds : List UInt8} {m : Bool} (hd : DigsOf b ds m) {v : Int} {ok : Bool} (hv : v = if m then -(numV ds 0 : Int) else (numV ds 0 : Int)) (hok : ok = decide (0 < ds.length)) : NumN b (.returned (.tuple #[.int .i64 v, .bool ok])) := by
  refine ⟨v, ok, rfl, fun x h0 h1 hb => ?_⟩
  obtain ⟨e, e2⟩ := hd x h0 h1 hb
  rw [e, numV_dec] at hv
  refine ⟨by rw [hv]; exact e2.symm, ?_⟩
  rw [hok, e, decide_eq_true_iff, Lib.decDigits_length]
  exact Lib.nDigits_pos _

end Go.Proofs.YtfcaemfledlnnaaGreatDoor.St


namespace Go.Proofs.YtfcaemfledlnnaaGreatDoor.St
open Go.RowKit Go.Shelf
set_option linter.unusedVariables false
set_option linter.unusedSimpArgs false

/-- Of each set that is written so: these are its first elements, and what is left is the text of the others. -/
def Inv1 (b : List UInt8) (L : List Int) (f i : Nat) : Prop := ∀ M, IsSet M → 0 < M.length → stx M = b → L.length < M.length ∧ M.take L.length = L ∧ b.drop f = joinT (sparts (M.drop L.length)) ++ [125] ∧ ∀ j, f ≤ j → j < i → b[j]? ≠ some 44
def InvE (b : List UInt8) (L : List Int) : Prop := ∀ M, IsSet M → 0 < M.length → stx M = b → M = L
theorem inv_start (b : List UInt8) : Inv1 b [] 1 1 := fun M hM h0 hb => ⟨h0, rfl, by rw [← hb, stx_is]; rfl, fun j h1 h2 => by omega⟩
theorem inv_on {b : List UInt8} {L : List Int} {f i : Nat} (h : Inv1 b L f i) (hne : b[i]? ≠ some 44) : Inv1 b L f (i + 1) := fun M hM h0 hb => by
  obtain ⟨h1, h2, h3, h4⟩ := h M hM h0 hb
  refine ⟨h1, h2, h3, fun j hj1 hj2 => ?_⟩
  by_cases e : j = i
  · subst e; exact hne
  · exact h4 j hj1 (by omega)
theorem drop_next {M : List Int} {n : Nat} (h : n < M.length) : M.drop n = nth M n :: M.drop (n + 1) := drop_nth M n h
/-- What stands at the place: the next number, and what comes behind it. -/
theorem head_text {M : List Int} {n : Nat} (h : n < M.length) : joinT (sparts (M.drop n)) ++ [125] = Lib.itoa (nth M n) ++ (if n + 1 < M.length then 44 :: (joinT (sparts (M.drop (n + 1))) ++ [125]) else [125]) := by
  rw [drop_next h]
  by_cases h2 : n + 1 < M.length
  · rw [if_pos h2]
    have hne : sparts (M.drop (n + 1)) ≠ [] := by
      intro e
      have := congrArg List.length e
      simp [sparts] at this
      omega
    show joinT (Lib.itoa (nth M n) :: sparts (M.drop (n + 1))) ++ [125] = _
    rw [joinT_cons _ _ hne]
    simp
  · rw [if_neg h2]
    have : M.drop (n + 1) = [] := List.drop_eq_nil_iff.2 (by omega)
    rw [this]
    rfl
theorem no_comma (x : Int) (j : Nat) : (Lib.itoa x)[j]? ≠ some 44 := fun h => itoa_no x 44 (.inl rfl) (List.mem_of_getElem? h)
/-- At a comma: the number ahead of it. -/
theorem part_comma {b : List UInt8} {L : List Int} {f i : Nat} (h : Inv1 b L f i) (hfi : f ≤ i) (hc : b[i]? = some 44) (M : List Int) (hM : IsSet M) (h0 : 0 < M.length) (hb : stx M = b) :
    (b.drop f).take (i - f) = Lib.itoa (nth M L.length) ∧ L.length + 1 < M.length ∧ b.drop (i + 1) = joinT (sparts (M.drop (L.length + 1))) ++ [125] := by
  obtain ⟨h1, h2, h3, h4⟩ := h M hM h0 hb
  rw [head_text h1] at h3
  generalize hp : Lib.itoa (nth M L.length) = p at h3 ⊢
  have hg : ∀ j, b[f + j]? = (p ++ (if L.length + 1 < M.length then 44 :: (joinT (sparts (M.drop (L.length + 1))) ++ [125]) else [125]))[j]? := fun j => by rw [← h3, List.getElem?_drop]
  have hpn : ∀ j : Nat, p[j]? ≠ some (44 : UInt8) := fun j => by rw [← hp]; exact no_comma _ j
  have hge : p.length ≤ i - f := by
    apply Classical.byContradiction; intro hn
    have := hg (i - f)
    rw [show f + (i - f) = i by omega, hc, List.getElem?_append_left (by omega)] at this
    exact hpn _ this.symm
  by_cases hlast : L.length + 1 < M.length
  · simp only [if_pos hlast] at hg h3
    have hle : i - f ≤ p.length := by
      apply Classical.byContradiction; intro hn
      have := hg p.length
      rw [List.getElem?_append_right (Nat.le_refl _), Nat.sub_self] at this
      exact h4 (f + p.length) (by omega) (by omega) this
    have he : i - f = p.length := by omega
    refine ⟨by rw [h3, he, List.take_left], hlast, ?_⟩
    have : b.drop (i + 1) = (b.drop f).drop (p.length + 1) := by rw [List.drop_drop]; congr 1; omega
    rw [this, h3, ← List.drop_drop, List.drop_left]
    rfl
  · simp only [if_neg hlast] at hg
    have := hg (i - f)
    rw [show f + (i - f) = i by omega, hc, List.getElem?_append_right hge] at this
    have h5 : i - f - p.length < 1 := by
      have := (List.getElem?_eq_some_iff.1 this.symm).1
      simpa using this
    rw [show i - f - p.length = 0 by omega] at this
    simp at this
/-- At the end: the last number. -/
theorem part_end {b : List UInt8} {L : List Int} {f i : Nat} (h : Inv1 b L f i) (hfi : f ≤ i) (hi : i + 1 = b.length) (hl : b[i]? = some 125) (M : List Int) (hM : IsSet M) (h0 : 0 < M.length) (hb : stx M = b) :
    (b.drop f).take (i - f) = Lib.itoa (nth M L.length) ∧ L.length + 1 = M.length := by
  obtain ⟨h1, h2, h3, h4⟩ := h M hM h0 hb
  rw [head_text h1] at h3
  generalize hp : Lib.itoa (nth M L.length) = p at h3 ⊢
  have hlen := congrArg List.length h3
  rw [List.length_drop, List.length_append] at hlen
  by_cases hlast : L.length + 1 < M.length
  · exfalso
    simp only [if_pos hlast, List.length_cons, List.length_append, List.length_nil] at hlen h3
    have hg : b[f + p.length]? = some 44 := by
      have : b[f + p.length]? = (b.drop f)[p.length]? := by rw [List.getElem?_drop]
      rw [this, h3, List.getElem?_append_right (Nat.le_refl _), Nat.sub_self]
      rfl
    exact h4 (f + p.length) (by omega) (by omega) hg
  · simp only [if_neg hlast, List.length_cons, List.length_nil] at hlen h3
    refine ⟨?_, by omega⟩
    rw [h3, show i - f = p.length by omega, List.take_left]
theorem take_more {M L : List Int} (h1 : L.length < M.length) (h2 : M.take L.length = L) : M.take (L.length + 1) = L ++ [nth M L.length] := by
  rw [take_next M _ h1, h2]
theorem inv_comma {b : List UInt8} {L : List Int} {f i : Nat} {v : Int} (h : Inv1 b L f i) (hfi : f ≤ i) (hc : b[i]? = some 44) (hv : ∀ x, -1000000 ≤ x → x ≤ 1000000 → (b.drop f).take (i - f) = Lib.itoa x → v = x) : Inv1 b (L ++ [v]) (i + 1) (i + 1) := fun M hM h0 hb => by
  obtain ⟨p1, p2, p3⟩ := part_comma h hfi hc M hM h0 hb
  obtain ⟨h1, h2, _, _⟩ := h M hM h0 hb
  have hm := set_mem hM (nth M L.length) (by simp [nth, h1])
  have e := hv _ hm.1 hm.2 p1
  subst e
  rw [List.length_append, List.length_singleton]
  exact ⟨p2, take_more h1 h2, p3, fun j a c => by omega⟩
theorem inv_end {b : List UInt8} {L : List Int} {f i : Nat} {v : Int} (h : Inv1 b L f i) (hfi : f ≤ i) (hi : i + 1 = b.length) (hl : b[i]? = some 125) (hv : ∀ x, -1000000 ≤ x → x ≤ 1000000 → (b.drop f).take (i - f) = Lib.itoa x → v = x) : InvE b (L ++ [v]) := fun M hM h0 hb => by
  obtain ⟨p1, p2⟩ := part_end h hfi hi hl M hM h0 hb
  obtain ⟨h1, h2, _, _⟩ := h M hM h0 hb
  have hm := set_mem hM (nth M L.length) (by simp [nth, h1])
  have e := hv _ hm.1 hm.2 p1
  subst e
  rw [← take_more h1 h2, p2, List.take_length]
theorem inv_no1 {b : List UInt8} {L : List Int} {f i : Nat} (h : Inv1 b L f i) (hfi : f ≤ i) (hc : b[i]? = some 44) (hv : ∀ x, -1000000 ≤ x → x ≤ 1000000 → (b.drop f).take (i - f) ≠ Lib.itoa x) : ∀ M, IsSet M → 0 < M.length → stx M ≠ b := fun M hM h0 hb => by
  obtain ⟨p1, _⟩ := part_comma h hfi hc M hM h0 hb
  obtain ⟨h1, _⟩ := h M hM h0 hb
  have hm := set_mem hM (nth M L.length) (by simp [nth, h1])
  exact hv _ hm.1 hm.2 p1
theorem inv_no2 {b : List UInt8} {L : List Int} {f i : Nat} (h : Inv1 b L f i) (hfi : f ≤ i) (hi : i + 1 = b.length) (hl : b[i]? = some 125) (hv : ∀ x, -1000000 ≤ x → x ≤ 1000000 → (b.drop f).take (i - f) ≠ Lib.itoa x) : ∀ M, IsSet M → 0 < M.length → stx M ≠ b := fun M hM h0 hb => by
  obtain ⟨p1, _⟩ := part_end h hfi hi hl M hM h0 hb
  obtain ⟨h1, _⟩ := h M hM h0 hb
  have hm := set_mem hM (nth M L.length) (by simp [nth, h1])
  exact hv _ hm.1 hm.2 p1
theorem stx_first (M : List Int) : (stx M)[0]? = some 123 := by rw [stx_is]; rfl
theorem stx_last (M : List Int) : (stx M)[(stx M).length - 1]? = some 125 := by
  rw [stx_is]
  simp
theorem stx_two (M : List Int) : 2 ≤ (stx M).length := by rw [stx_is]; simp
end Go.Proofs.YtfcaemfledlnnaaGreatDoor.St


namespace Go.Proofs.YtfcaemfledlnnaaGreatDoor.St
open Go.RowKit Go.Shelf
set_option linter.unusedVariables false
set_option linter.unusedSimpArgs false

theorem ext_bytes (s : ByteArray) (q k : Nat) (h1 : q ≤ k) (h2 : k ≤ s.size) : (s.extract q k).data.toList = (s.data.toList.drop q).take (k - q) := by
  rw [Lib.extract_data]

end Go.Proofs.YtfcaemfledlnnaaGreatDoor.St

