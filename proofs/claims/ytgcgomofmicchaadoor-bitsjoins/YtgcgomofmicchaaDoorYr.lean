/-
  What is proved here: how many values a set has, which is its greatest one, and what the first one from a number on is, told by the list of its values.
-/
import Derived.Test.YtgcgomofmicchaaDoorYg
import Derived.Test.YtgcgomofmicchaaDoorYj
namespace Go.Proofs.YtgcgomofmicchaaDoor
open Go.RowKit Go.Shelf

theorem cnt_top (k x : Nat) : cnt (k + 1) x = cnt k x + (if x.testBit k then 1 else 0) := by
  induction k generalizing x with
  | zero =>
    show x % 2 + 0 = 0 + _
    rw [Nat.testBit_zero]
    rcases Nat.mod_two_eq_zero_or_one x with h | h <;> simp [h]
  | succ k ih =>
    have e : cnt (k + 1 + 1) x = x % 2 + cnt (k + 1) (x / 2) := rfl
    have e2 : cnt (k + 1) x = x % 2 + cnt k (x / 2) := rfl
    rw [e, ih, e2, Nat.testBit_succ]
    omega
theorem pb_at (ws : List Nat) (m j : Nat) (hj : j < 64) : pb ws (64 * m + j) = (wat ws m).testBit j := by
  unfold pb bt
  rw [if_neg (by omega)]
  have e : ((64 * m + j : Nat) : Int).toNat = 64 * m + j := Int.toNat_natCast _
  rw [e, show (64 * m + j) / 64 = m by omega, show (64 * m + j) % 64 = j by omega]
theorem bv_count (f : Int) (ws : List Nat) (m : Nat) : ∀ j, j ≤ 64 → (bv f (pb ws) (64 * m + j)).length = (bv f (pb ws) (64 * m)).length + cnt j (wat ws m) := by
  intro j
  induction j with
  | zero => intro _; rfl
  | succ j ih =>
    intro h
    have ih' := ih (by omega)
    rw [cnt_top]
    show (bv f (pb ws) (64 * m + j + 1)).length = _
    by_cases hb : (wat ws m).testBit j = true
    · rw [bv_yes _ _ _ (by rw [pb_at ws m j (by omega)]; exact hb), List.length_append, ih', hb]; simp; omega
    · have hb' : (wat ws m).testBit j = false := by simpa using hb
      rw [bv_no _ _ _ (by rw [pb_at ws m j (by omega)]; exact hb'), ih', hb']; simp
theorem size_bv (f : Int) (ws : List Nat) (n : Nat) : (bv f (pb ws) (64 * n)).length = sizeOf' ws n := by
  induction n with
  | zero => simp [bv, sizeOf']
  | succ n ih => rw [sizeOf'_succ, ← ih, show 64 * (n + 1) = 64 * n + 64 by omega]; exact bv_count f ws n 64 (by omega)
theorem bv_all {f room : Int} {ws : List Nat} (hz : Sz f room ws) (hc : Cl room ws) : bv f (pb ws) (64 * ws.length) = bvs f room ws := by
  have h1 := hz.len; have h2 := hz.one
  unfold bvs
  exact bv_gap f _ _ _ (by omega) (fun i a _ => hc _ (by omega))
/-- Size is the number of values. -/
theorem size_bvs {f room : Int} {ws : List Nat} (hz : Sz f room ws) (hc : Cl room ws) : sizeOf' ws ws.length = (bvs f room ws).length := by
  rw [← bv_all hz hc, size_bv]

theorem bitLen_top (x : Nat) (h0 : x ≠ 0) (h : x < 2 ^ 64) : 1 ≤ Lib.bitLen x ∧ x.testBit (Lib.bitLen x - 1) = true ∧ ∀ j, Lib.bitLen x ≤ j → x.testBit j = false := by
  induction x using Nat.strongRecOn with
  | ind x ih =>
    have e := Lib.bitLen_half x h0 h
    by_cases h1 : x / 2 = 0
    · have hx : x = 1 := by omega
      subst hx
      have e1 : Lib.bitLen 1 = 1 := by decide
      rw [e1]
      refine ⟨by decide, by decide, fun j hj => ?_⟩
      exact Nat.testBit_lt_two_pow (Nat.lt_of_lt_of_le (by decide : 1 < 2 ^ 1) (Nat.pow_le_pow_right (by decide) hj))
    · obtain ⟨i1, i2, i3⟩ := ih (x / 2) (by omega) h1 (by omega)
      rw [e]
      refine ⟨by omega, ?_, fun j hj => ?_⟩
      · rw [show 1 + Lib.bitLen (x / 2) - 1 = Lib.bitLen (x / 2) - 1 + 1 by omega, Nat.testBit_succ]; exact i2
      · obtain ⟨j', rfl⟩ : ∃ j', j = j' + 1 := ⟨j - 1, by omega⟩
        rw [Nat.testBit_succ]; exact i3 j' (by omega)
/-- What Max tells, by the list of the values. -/
theorem max_bvs {f room : Int} {ws : List Nat} (hz : Sz f room ws) (hc : Cl room ws) {e : Ending} (h : MaxEnd f ws ws.length e) :
    (bvs f room ws = [] ∧ e = .returned (.tuple #[.int .i64 0, .bool false])) ∨ ∃ ys y, bvs f room ws = ys ++ [y] ∧ e = .returned (.tuple #[.int .i64 y, .bool true]) := by
  rw [← bv_all hz hc]
  rcases h with ⟨h1, rfl⟩ | ⟨k, hk, h1, h2, rfl⟩
  · refine .inl ⟨?_, rfl⟩
    have : bv f (pb ws) (64 * ws.length) = bv f (pb ws) 0 := bv_gap f _ 0 _ (by omega) (fun i _ hi => by
      have := pb_at ws (i / 64) (i % 64) (by omega)
      rw [show 64 * (i / 64) + i % 64 = i by omega, h1 _ (by omega)] at this
      rw [this]; simp)
    rw [this]; rfl
  · obtain ⟨t1, t2, t3⟩ := bitLen_top (wat ws k) h1 (hz.word k)
    have hb64 := Lib.bitLen_le (wat ws k) 64 (by omega) (hz.word k)
    generalize Lib.bitLen (wat ws k) = y at t1 t2 t3 hb64 ⊢
    have hg : bv f (pb ws) (64 * ws.length) = bv f (pb ws) (64 * k + (y - 1) + 1) := bv_gap f _ _ _ (by omega) (fun i a b => by
      have := pb_at ws (i / 64) (i % 64) (by omega)
      rw [show 64 * (i / 64) + i % 64 = i by omega] at this
      rw [this]
      by_cases e : i / 64 = k
      · rw [e]; exact t3 _ (by omega)
      · rw [h2 _ (by omega) (by omega)]; simp)
    refine .inr ⟨bv f (pb ws) (64 * k + (y - 1)), f + ((64 * k + (y - 1) : Nat) : Int), ?_, ?_⟩
    · rw [hg]; exact bv_yes _ _ _ (by rw [pb_at ws k (y - 1) (by omega)]; exact t2)
    · have h9 : f + ((k * 64 + y : Nat) : Int) - 1 = f + ((64 * k + (y - 1) : Nat) : Int) := by omega
      rw [h9]

/-- A set of bits and one of the reference have the same values. -/
def Agree (room : Int) (ws : List Nat) (L : List Bool) : Prop := room = (L.length : Int) ∧ ∀ i, i < L.length → pb ws i = lat L i
theorem bv_congr (f : Int) (p q : Nat → Bool) (n : Nat) (h : ∀ i, i < n → p i = q i) : bv f p n = bv f q n := by
  induction n with
  | zero => rfl
  | succ n ih =>
    show bv f p n ++ _ = bv f q n ++ _
    rw [ih (fun i hi => h i (by omega)), h n (by omega)]
theorem agree_bvs {f room : Int} {ws : List Nat} {L : List Bool} (h : Agree room ws L) : bvs f room ws = bv f (lat L) L.length := by
  unfold bvs
  rw [h.1, Int.toNat_natCast]
  exact bv_congr f _ _ _ h.2
theorem mem_bvs {f room : Int} {ws : List Nat} (_hz : Sz f room ws) (hc : Cl room ws) (v : Int) : v ∈ bvs f room ws ↔ hasB f room ws v = true := by
  unfold bvs
  rw [mem_bv]
  constructor
  · rintro ⟨i, hi, hp, rfl⟩
    rw [hasB_pb hc]; exact hp
  · intro h
    have hf := has_fits h
    refine ⟨(v - f).toNat, by omega, ?_, by omega⟩
    rw [← hasB_pb (f := f) hc, show f + (((v - f).toNat : Nat) : Int) = v by omega]; exact h
theorem agree_has {f room : Int} {ws : List Nat} {L : List Bool} (h : Agree room ws L) (_hc : Cl room ws) (v : Int) : hasB f room ws v = (fitB f L.length v && lat L (v - f).toNat) := by
  unfold hasB
  rw [h.1]
  by_cases hf : f ≤ v ∧ v < f + (L.length : Int)
  · rw [fitB_yes hf]
    simp only [Bool.true_and]
    have := h.2 (v - f).toNat (by omega)
    unfold pb at this
    rw [show (((v - f).toNat : Nat) : Int) = v - f by omega] at this
    exact this
  · rw [fitB_no hf]; rfl

/-- The first of the values from v on, 0 if there is none. -/
def firstFrom (v : Int) (l : List Int) : Int := (l.find? (fun x => decide (v ≤ x))).getD 0
def anyFrom (v : Int) (l : List Int) : Bool := l.any (fun x => decide (v ≤ x))
theorem next_bvs {f room : Int} {ws : List Nat} (hz : Sz f room ws) (hc : Cl room ws) {v r : Int} {t : Bool} (h : NextIs f room ws v r t) : r = firstFrom v (bvs f room ws) ∧ t = anyFrom v (bvs f room ws) := by
  rcases h with ⟨rfl, h1, h2, h3⟩ | ⟨rfl, rfl, h3⟩
  · have hm := (mem_bvs hz hc r).2 h1
    have hup : (bvs f room ws).Pairwise (· < ·) := bv_up f _ _
    have hlow : ∀ x ∈ bvs f room ws, v ≤ x → r ≤ x := fun x hx hv => Classical.byContradiction fun hn => by
      have := (mem_bvs hz hc x).1 hx
      rw [h3 x hv (by omega)] at this
      cases this
    generalize bvs f room ws = l at hm hup hlow
    constructor
    · unfold firstFrom
      induction l with
      | nil => cases hm
      | cons a l ih =>
        rw [List.find?_cons]
        by_cases ha : v ≤ a
        · simp only [ha, decide_true]
          have h5 := hlow a (by simp) ha
          rcases List.mem_cons.1 hm with e | e
          · rw [e]; rfl
          · have h6 := (List.pairwise_cons.1 hup).1 r e
            omega
        · simp only [ha, decide_false]
          refine ih ?_ (List.pairwise_cons.1 hup).2 (fun x hx => hlow x (by simp [hx]))
          rcases List.mem_cons.1 hm with e | e
          · subst e; exact absurd h2 ha
          · exact e
    · unfold anyFrom
      symm
      rw [List.any_eq_true]
      exact ⟨r, hm, by simpa using h2⟩
  · have hn : ∀ x ∈ bvs f room ws, ¬ v ≤ x := fun x hx hv => by
      have := (mem_bvs hz hc x).1 hx
      rw [h3 x hv] at this
      cases this
    generalize bvs f room ws = l at hn
    constructor
    · unfold firstFrom
      rw [List.find?_eq_none.2 (fun x hx => by simpa using hn x hx)]; rfl
    · unfold anyFrom
      symm
      rw [List.any_eq_false]
      exact fun x hx => by simpa using hn x hx
end Go.Proofs.YtgcgomofmicchaaDoor
