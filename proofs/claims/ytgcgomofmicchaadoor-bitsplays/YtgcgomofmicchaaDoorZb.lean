/-
  What is proved here: what changing words bit by bit, and turning one bit, make of the places of a set.
-/
import Derived.Test.YtgcgomofmicchaaDoorYr
import Derived.Test.YtgcgomofmicchaaDoorXp
import Derived.Test.YtgcgomofmicchaaDoorYk
namespace Go.Proofs.YtgcgomofmicchaaDoor
open Go.RowKit Go.Shelf
set_option linter.unusedVariables false

theorem lat_ext {L L' : List Bool} (h : L.length = L'.length) (h2 : ∀ i, i < L.length → lat L i = lat L' i) : L = L' := by
  apply List.ext_getElem?
  intro i
  by_cases hi : i < L.length
  · have := h2 i hi
    unfold lat at this
    rw [List.getElem?_eq_getElem hi, List.getElem?_eq_getElem (by omega)] at this ⊢
    simpa using this
  · rw [List.getElem?_eq_none (by omega), List.getElem?_eq_none (by omega)]
def opL (q : Nat → Bool) (n : Nat) : List Bool := (List.range n).map q
theorem opL_len (q : Nat → Bool) (n : Nat) : (opL q n).length = n := by simp [opL]
theorem opL_lat (q : Nat → Bool) (n k : Nat) (hk : k < n) : lat (opL q n) k = q k := lat_range q n k hk
theorem lat_set (L : List Bool) (n : Nat) (x : Bool) (k : Nat) (hn : n < L.length) : lat (L.set n x) k = if n = k then x else lat L k := by
  unfold lat
  rw [List.getElem?_set]
  split
  · rename_i h; subst h; simp
  · rfl

theorem anot_bit (x y j : Nat) (hy : y < 18446744073709551616) (hj : j < 64) : (anot x y).testBit j = (x.testBit j && !y.testBit j) := by
  unfold anot
  rw [Nat.testBit_and, show 18446744073709551615 - y = 2 ^ 64 - (y + 1) by omega, Nat.testBit_two_pow_sub_succ (show y < 2 ^ 64 from hy)]
  simp [hj]
theorem anot_lt (x y : Nat) (hx : x < 18446744073709551616) : anot x y < 18446744073709551616 := Nat.lt_of_le_of_lt Nat.and_le_left hx

/-- A way to join two words bit by bit. -/
structure Joins (op2 : Nat → Nat → Nat) (op : Bool → Bool → Bool) : Prop where
  bit : ∀ x y j, x < 18446744073709551616 → y < 18446744073709551616 → j < 64 → (op2 x y).testBit j = op (x.testBit j) (y.testBit j)
  lt : ∀ x y, x < 18446744073709551616 → y < 18446744073709551616 → op2 x y < 18446744073709551616
theorem joins_and : Joins (fun x y => x &&& y) (fun a b => a && b) := ⟨fun x y j _ _ _ => Nat.testBit_and x y j, fun _ _ hx _ => Nat.lt_of_le_of_lt Nat.and_le_left hx⟩
theorem joins_or : Joins (fun x y => x ||| y) (fun a b => a || b) := ⟨fun x y j _ _ _ => Nat.testBit_or x y j, fun x y hx hy => Nat.or_lt_two_pow (n := 64) hx hy⟩
theorem joins_anot : Joins anot (fun a b => a && !b) := ⟨fun x y j _ hy hj => anot_bit x y j hy hj, fun x y hx _ => anot_lt x y hx⟩

/-- The words that become of a set joined with another one. -/
def joinG (op2 : Nat → Nat → Nat) (f of : Int) (ws ows : List Nat) (k : Nat) : Nat := op2 (wat ws k) (frm ows (f + (k : Int) * 64 - of))
def joinW (op2 : Nat → Nat → Nat) (f of : Int) (ws ows : List Nat) : List Nat := upd (joinG op2 f of ws ows) ws ws.length
def joinL (op : Bool → Bool → Bool) (f of oroom : Int) (L : List Bool) (ows : List Nat) : List Bool := opL (fun i => op (lat L i) (hasB of oroom ows (f + (i : Int)))) L.length
theorem wat_upd (G : Nat → Nat) (ws : List Nat) (m : Nat) : wat (upd G ws ws.length) m = if m < ws.length then G m else 0 := by
  unfold wat
  by_cases hm : m < ws.length
  · rw [upd_get G ws ws.length m hm, if_pos hm, if_pos hm]; rfl
  · rw [List.getElem?_eq_none (by rw [upd_length]; omega), if_neg hm]; rfl
theorem wat_out (ws : List Nat) (m : Nat) (h : ¬ m < ws.length) : wat ws m = 0 := by unfold wat; rw [List.getElem?_eq_none (by omega)]; rfl
theorem joinG_lt {op2 : Nat → Nat → Nat} {op : Bool → Bool → Bool} (hj : Joins op2 op) {f of oroom room : Int} {ws ows : List Nat} (hz : Sz f room ws) (hzo : Sz of oroom ows) (k : Nat) : joinG op2 f of ws ows k < 18446744073709551616 :=
  hj.lt _ _ (hz.word k) (frm_lt hzo.word _)
theorem join_pb {op2 : Nat → Nat → Nat} {op : Bool → Bool → Bool} (hj : Joins op2 op) {f of oroom room : Int} {ws ows : List Nat} (hz : Sz f room ws) (hzo : Sz of oroom ows) (i : Nat) (hi : i < 64 * ws.length) :
    pb (joinW op2 f of ws ows) i = op (pb ws i) (bt ows (f + (i : Int) - of)) := by
  have e : i = 64 * (i / 64) + i % 64 := by omega
  have h1 : i / 64 < ws.length := by omega
  have h2 : i % 64 < 64 := by omega
  obtain ⟨m, hm⟩ : ∃ m, i / 64 = m := ⟨_, rfl⟩
  obtain ⟨j, hj'⟩ : ∃ j, i % 64 = j := ⟨_, rfl⟩
  rw [hm, hj'] at e; rw [hm] at h1; rw [hj'] at h2
  subst e
  rw [pb_at _ m j h2, pb_at _ m j h2]
  unfold joinW
  rw [wat_upd, if_pos h1]
  unfold joinG
  rw [hj.bit _ _ j (hz.word m) (frm_lt hzo.word _) h2, frm_bit hzo.word _ j h2]
  congr 2
  omega
theorem join_sz {op2 : Nat → Nat → Nat} {op : Bool → Bool → Bool} (hj : Joins op2 op) {f of oroom room : Int} {ws ows : List Nat} (hz : Sz f room ws) (hzo : Sz of oroom ows) : Sz f room (joinW op2 f of ws ows) :=
  hz.upd _ (fun i _ => joinG_lt hj hz hzo i) _
theorem join_agree {op2 : Nat → Nat → Nat} {op : Bool → Bool → Bool} (hj : Joins op2 op) {f of oroom room : Int} {ws ows : List Nat} {L : List Bool} (hz : Sz f room ws) (hzo : Sz of oroom ows) (hco : Cl oroom ows) (hA : Agree room ws L) :
    Agree room (joinW op2 f of ws ows) (joinL op f of oroom L ows) := by
  unfold joinL
  refine ⟨by rw [opL_len]; exact hA.1, fun i hi => ?_⟩
  rw [opL_len] at hi
  have h1 := hz.len; have h2 := hA.1
  rw [join_pb hj hz hzo i (by omega), opL_lat _ _ _ hi, hA.2 i hi, hasB_eq hco]
theorem bt_pb (ws : List Nat) (k : Int) (h : 0 ≤ k) : bt ws k = pb ws k.toNat := by unfold pb; rw [Int.toNat_of_nonneg h]
theorem pb_out (ws : List Nat) (i : Nat) (h : ¬ i < 64 * ws.length) : pb ws i = false := by
  have e : i = 64 * (i / 64) + i % 64 := by omega
  rw [e, pb_at ws (i / 64) (i % 64) (by omega), wat_out ws _ (by omega)]
  exact Nat.zero_testBit _
theorem join_cl {op2 : Nat → Nat → Nat} {op : Bool → Bool → Bool} (hj : Joins op2 op) {f of oroom room : Int} {ws ows : List Nat} (hz : Sz f room ws) (hzo : Sz of oroom ows) (hc : Cl room ws) (hop : ∀ k : Int, room ≤ k → op false (bt ows (f + k - of)) = false) : Cl room (joinW op2 f of ws ows) := fun k hk => by
  have h1 := hz.one
  rw [bt_pb _ k (by omega)]
  by_cases hi : k.toNat < 64 * ws.length
  · rw [join_pb hj hz hzo _ hi]
    have h3 := hc k hk
    rw [bt_pb _ k (by omega)] at h3
    rw [h3, Int.toNat_of_nonneg (by omega)]
    exact hop k hk
  · exact pb_out _ _ (by unfold joinW; rw [upd_length]; exact hi)
theorem words_eq {ws ws' : List Nat} (h1 : ∀ k, wat ws k < 18446744073709551616) (h2 : ∀ k, wat ws' k < 18446744073709551616) (h : ∀ i, pb ws i = pb ws' i) (k : Nat) : wat ws k = wat ws' k := by
  refine Nat.eq_of_testBit_eq fun j => ?_
  by_cases hj : j < 64
  · rw [← pb_at ws k j hj, ← pb_at ws' k j hj, h]
  · have hp : 2 ^ 64 ≤ 2 ^ j := Nat.pow_le_pow_right (by decide) (by omega)
    rw [Nat.testBit_lt_two_pow (Nat.lt_of_lt_of_le (show wat ws k < 2 ^ 64 from h1 k) hp), Nat.testBit_lt_two_pow (Nat.lt_of_lt_of_le (show wat ws' k < 2 ^ 64 from h2 k) hp)]
theorem pb_all {room : Int} {ws ws' : List Nat} {L : List Bool} (hc : Cl room ws) (hc' : Cl room ws') (hA : Agree room ws L) (hA' : Agree room ws' L) (i : Nat) : pb ws i = pb ws' i := by
  by_cases hi : i < L.length
  · rw [hA.2 i hi, hA'.2 i hi]
  · have h1 := hA.1
    have e1 := hc (i : Int) (by omega)
    have e2 := hc' (i : Int) (by omega)
    exact e1.trans e2.symm
theorem join_chg {op2 : Nat → Nat → Nat} {op : Bool → Bool → Bool} (hj : Joins op2 op) {f of oroom room : Int} {ws ows : List Nat} {L : List Bool} (hz : Sz f room ws) (hzo : Sz of oroom ows) (hc : Cl room ws) (hco : Cl oroom ows) (hA : Agree room ws L) (hop : ∀ k : Int, room ≤ k → op false (bt ows (f + k - of)) = false) :
    chg (joinG op2 f of ws ows) ws ws.length = decide (joinL op f of oroom L ows ≠ L) := by
  have hA' := join_agree hj hz hzo hco hA
  have hc' := join_cl hj hz hzo hc hop
  have hz' := join_sz hj hz hzo
  by_cases hL : joinL op f of oroom L ows = L
  · rw [hL] at hA'
    have hw : ∀ i, i < ws.length → joinG op2 f of ws ows i = wat ws i := fun i hi => by
      have := words_eq hz'.word hz.word (fun j => pb_all hc' hc hA' hA j) i
      unfold joinW at this
      rw [wat_upd, if_pos hi] at this
      exact this
    rw [chg_none _ ws _ (Nat.le_refl _) hw]
    simp [hL]
  · have : ∃ i, i < ws.length ∧ joinG op2 f of ws ows i ≠ wat ws i := by
      apply Classical.byContradiction
      intro hno
      apply hL
      have hs : joinW op2 f of ws ows = ws := upd_same _ ws _ (fun i hi => Classical.byContradiction fun h => hno ⟨i, hi, h⟩)
      rw [hs] at hA'
      refine lat_ext (by unfold joinL; rw [opL_len]) (fun i hi => ?_)
      have hi' : i < L.length := by unfold joinL at hi; rw [opL_len] at hi; exact hi
      rw [← hA'.2 i hi, hA.2 i hi']
    obtain ⟨i, hi, hne⟩ := this
    rw [chg_some _ ws _ i hi hne]
    simp [hL]

theorem flip_pb (ws : List Nat) (n k : Nat) (hn : n / 64 < ws.length) : pb (flip ws n) k = if n = k then !pb ws n else pb ws k := by
  have e : k = 64 * (k / 64) + k % 64 := by omega
  have e' : n = 64 * (n / 64) + n % 64 := by omega
  have p1 : pb (flip ws n) k = (wat (flip ws n) (k / 64)).testBit (k % 64) := by rw [← pb_at _ _ _ (by omega : k % 64 < 64), ← e]
  have p2 : pb ws k = (wat ws (k / 64)).testBit (k % 64) := by rw [← pb_at _ _ _ (by omega : k % 64 < 64), ← e]
  have p3 : pb ws n = (wat ws (n / 64)).testBit (n % 64) := by rw [← pb_at _ _ _ (by omega : n % 64 < 64), ← e']
  rw [p1, p2, p3]
  unfold flip
  rw [wat_set _ _ _ _ hn]
  by_cases hq : n / 64 = k / 64
  · rw [if_pos hq, Nat.testBit_xor, Nat.testBit_two_pow, ← hq]
    by_cases hr : n % 64 = k % 64
    · rw [if_pos (by omega), ← hr]; simp
    · rw [if_neg (by omega)]; simp [hr]
  · rw [if_neg hq, if_neg (fun h => hq (by rw [h]))]
theorem flip_sz {f room : Int} {ws : List Nat} (hz : Sz f room ws) (n : Nat) (hn : n / 64 < ws.length) : Sz f room (flip ws n) :=
  hz.set _ _ hn (Nat.xor_lt_two_pow (n := 64) (hz.word _) (Nat.pow_lt_pow_right (by decide) (by omega)))
theorem flip_agree {room : Int} {ws : List Nat} {L : List Bool} (hA : Agree room ws L) (n : Nat) (hn : n / 64 < ws.length) (hL : n < L.length) (x : Bool) (hx : (!lat L n) = x) : Agree room (flip ws n) (L.set n x) := by
  refine ⟨by rw [List.length_set]; exact hA.1, fun i hi => ?_⟩
  rw [List.length_set] at hi
  rw [flip_pb ws n i hn, lat_set L n x i hL, hA.2 n hL, hx, hA.2 i hi]
theorem flip_cl {room : Int} {ws : List Nat} (hc : Cl room ws) (n : Nat) (hn : n / 64 < ws.length) (h : (n : Int) < room) : Cl room (flip ws n) := fun k hk => by
  rw [bt_pb _ k (by omega), flip_pb ws n _ hn, if_neg (by omega), ← bt_pb _ k (by omega)]
  exact hc k hk
end Go.Proofs.YtgcgomofmicchaaDoor
