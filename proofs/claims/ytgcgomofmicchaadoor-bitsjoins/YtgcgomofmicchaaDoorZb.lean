/-
  What is proved here: what changing words bit by bit, and turning one bit, make of the places of a set; And, Or and Minus of a set of bits with another one, or with itself; what put, Add, Del, And and Minus of the reference do; And of a set of the reference with itself; Minus with another one; Minus of a set of the reference with itself; Or; what Same of two sets of bits, and Same of two lists of numbers, return.
-/
import Derived.Test.YtgcgomofmicchaaDoorYr
import Derived.Test.YtgcgomofmicchaaDoorXp
import Derived.Test.YtgcgomofmicchaaDoorYk
import Derived.Test.YtgcgomofmicchaaDoorYv
import Derived.Test.YtgcgomofmicchaaDoorYj
import Derived.LaidEqlPtr
import Derived.Test.YtgcgomofmicchaaDoorYo
import Derived.Test.YtgcgomofmicchaaDoorYf
namespace Go.Proofs.YtgcgomofmicchaaDoor
open Go.RowKit Go.Shelf
set_option linter.unusedVariables false

theorem lat_ext {L L' : List Bool} (h : L.length = L'.length) (h2 : ∀ i, i < L.length → lat L i = lat L' i) : L = L' := by
  apply List.ext_getElem?
  intro i
  by_cases hi : i < L.length
  · have := h2 i hi
    unfold lat at this
    rw [List.getElem?_eq_getElem hi, List.getElem?_eq_getElem (by omega)] at this ⊢
    simpa using this
  · rw [List.getElem?_eq_none (by omega), List.getElem?_eq_none (by omega)]
def opL (q : Nat → Bool) (n : Nat) : List Bool := (List.range n).map q
theorem opL_len (q : Nat → Bool) (n : Nat) : (opL q n).length = n := by simp [opL]
theorem opL_lat (q : Nat → Bool) (n k : Nat) (hk : k < n) : lat (opL q n) k = q k := lat_range q n k hk
theorem lat_set (L : List Bool) (n : Nat) (x : Bool) (k : Nat) (hn : n < L.length) : lat (L.set n x) k = if n = k then x else lat L k := by
  unfold lat
  rw [List.getElem?_set]
  split
  · rename_i h; subst h; simp
  · rfl

theorem anot_bit (x y j : Nat) (hy : y < 18446744073709551616) (hj : j < 64) : (anot x y).testBit j = (x.testBit j && !y.testBit j) := by
  unfold anot
  rw [Nat.testBit_and, show 18446744073709551615 - y = 2 ^ 64 - (y + 1) by omega, Nat.testBit_two_pow_sub_succ (show y < 2 ^ 64 from hy)]
  simp [hj]
theorem anot_lt (x y : Nat) (hx : x < 18446744073709551616) : anot x y < 18446744073709551616 := Nat.lt_of_le_of_lt Nat.and_le_left hx

/-- A way to join two words bit by bit. -/
structure Joins (op2 : Nat → Nat → Nat) (op : Bool → Bool → Bool) : Prop where
  bit : ∀ x y j, x < 18446744073709551616 → y < 18446744073709551616 → j < 64 → (op2 x y).testBit j = op (x.testBit j) (y.testBit j)
  lt : ∀ x y, x < 18446744073709551616 → y < 18446744073709551616 → op2 x y < 18446744073709551616
theorem joins_and : Joins (fun x y => x &&& y) (fun a b => a && b) := ⟨fun x y j _ _ _ => Nat.testBit_and x y j, fun _ _ hx _ => Nat.lt_of_le_of_lt Nat.and_le_left hx⟩
theorem joins_or : Joins (fun x y => x ||| y) (fun a b => a || b) := ⟨fun x y j _ _ _ => Nat.testBit_or x y j, fun x y hx hy => Nat.or_lt_two_pow (n := 64) hx hy⟩
theorem joins_anot : Joins anot (fun a b => a && !b) := ⟨fun x y j _ hy hj => anot_bit x y j hy hj, fun x y hx _ => anot_lt x y hx⟩

/-- The words that become of a set joined with another one. -/
def joinG (op2 : Nat → Nat → Nat) (f of : Int) (ws ows : List Nat) (k : Nat) : Nat := op2 (wat ws k) (frm ows (f + (k : Int) * 64 - of))
def joinW (op2 : Nat → Nat → Nat) (f of : Int) (ws ows : List Nat) : List Nat := upd (joinG op2 f of ws ows) ws ws.length
def joinL (op : Bool → Bool → Bool) (f of oroom : Int) (L : List Bool) (ows : List Nat) : List Bool := opL (fun i => op (lat L i) (hasB of oroom ows (f + (i : Int)))) L.length
theorem wat_upd (G : Nat → Nat) (ws : List Nat) (m : Nat) : wat (upd G ws ws.length) m = if m < ws.length then G m else 0 := by
  unfold wat
  by_cases hm : m < ws.length
  · rw [upd_get G ws ws.length m hm, if_pos hm, if_pos hm]; rfl
  · rw [List.getElem?_eq_none (by rw [upd_length]; omega), if_neg hm]; rfl
theorem wat_out (ws : List Nat) (m : Nat) (h : ¬ m < ws.length) : wat ws m = 0 := by unfold wat; rw [List.getElem?_eq_none (by omega)]; rfl
theorem joinG_lt {op2 : Nat → Nat → Nat} {op : Bool → Bool → Bool} (hj : Joins op2 op) {f of oroom room : Int} {ws ows : List Nat} (hz : Sz f room ws) (hzo : Sz of oroom ows) (k : Nat) : joinG op2 f of ws ows k < 18446744073709551616 :=
  hj.lt _ _ (hz.word k) (frm_lt hzo.word _)
theorem join_pb {op2 : Nat → Nat → Nat} {op : Bool → Bool → Bool} (hj : Joins op2 op) {f of oroom room : Int} {ws ows : List Nat} (hz : Sz f room ws) (hzo : Sz of oroom ows) (i : Nat) (hi : i < 64 * ws.length) :
    pb (joinW op2 f of ws ows) i = op (pb ws i) (bt ows (f + (i : Int) - of)) := by
  have e : i = 64 * (i / 64) + i % 64 := by omega
  have h1 : i / 64 < ws.length := by omega
  have h2 : i % 64 < 64 := by omega
  obtain ⟨m, hm⟩ : ∃ m, i / 64 = m := ⟨_, rfl⟩
  obtain ⟨j, hj'⟩ : ∃ j, i % 64 = j := ⟨_, rfl⟩
  rw [hm, hj'] at e; rw [hm] at h1; rw [hj'] at h2
  subst e
  rw [pb_at _ m j h2, pb_at _ m j h2]
  unfold joinW
  rw [wat_upd, if_pos h1]
  unfold joinG
  rw [hj.bit _ _ j (hz.word m) (frm_lt hzo.word _) h2, frm_bit hzo.word _ j h2]
  congr 2
  omega
theorem join_sz {op2 : Nat → Nat → Nat} {op : Bool → Bool → Bool} (hj : Joins op2 op) {f of oroom room : Int} {ws ows : List Nat} (hz : Sz f room ws) (hzo : Sz of oroom ows) : Sz f room (joinW op2 f of ws ows) :=
  hz.upd _ (fun i _ => joinG_lt hj hz hzo i) _
theorem join_agree {op2 : Nat → Nat → Nat} {op : Bool → Bool → Bool} (hj : Joins op2 op) {f of oroom room : Int} {ws ows : List Nat} {L : List Bool} (hz : Sz f room ws) (hzo : Sz of oroom ows) (hco : Cl oroom ows) (hA : Agree room ws L) :
    Agree room (joinW op2 f of ws ows) (joinL op f of oroom L ows) := by
  unfold joinL
  refine ⟨by rw [opL_len]; exact hA.1, fun i hi => ?_⟩
  rw [opL_len] at hi
  have h1 := hz.len; have h2 := hA.1
  rw [join_pb hj hz hzo i (by omega), opL_lat _ _ _ hi, hA.2 i hi, hasB_eq hco]
theorem bt_pb (ws : List Nat) (k : Int) (h : 0 ≤ k) : bt ws k = pb ws k.toNat := by unfold pb; rw [Int.toNat_of_nonneg h]
theorem pb_out (ws : List Nat) (i : Nat) (h : ¬ i < 64 * ws.length) : pb ws i = false := by
  have e : i = 64 * (i / 64) + i % 64 := by omega
  rw [e, pb_at ws (i / 64) (i % 64) (by omega), wat_out ws _ (by omega)]
  exact Nat.zero_testBit _
theorem join_cl {op2 : Nat → Nat → Nat} {op : Bool → Bool → Bool} (hj : Joins op2 op) {f of oroom room : Int} {ws ows : List Nat} (hz : Sz f room ws) (hzo : Sz of oroom ows) (hc : Cl room ws) (hop : ∀ k : Int, room ≤ k → op false (bt ows (f + k - of)) = false) : Cl room (joinW op2 f of ws ows) := fun k hk => by
  have h1 := hz.one
  rw [bt_pb _ k (by omega)]
  by_cases hi : k.toNat < 64 * ws.length
  · rw [join_pb hj hz hzo _ hi]
    have h3 := hc k hk
    rw [bt_pb _ k (by omega)] at h3
    rw [h3, Int.toNat_of_nonneg (by omega)]
    exact hop k hk
  · exact pb_out _ _ (by unfold joinW; rw [upd_length]; exact hi)
theorem words_eq {ws ws' : List Nat} (h1 : ∀ k, wat ws k < 18446744073709551616) (h2 : ∀ k, wat ws' k < 18446744073709551616) (h : ∀ i, pb ws i = pb ws' i) (k : Nat) : wat ws k = wat ws' k := by
  refine Nat.eq_of_testBit_eq fun j => ?_
  by_cases hj : j < 64
  · rw [← pb_at ws k j hj, ← pb_at ws' k j hj, h]
  · have hp : 2 ^ 64 ≤ 2 ^ j := Nat.pow_le_pow_right (by decide) (by omega)
    rw [Nat.testBit_lt_two_pow (Nat.lt_of_lt_of_le (show wat ws k < 2 ^ 64 from h1 k) hp), Nat.testBit_lt_two_pow (Nat.lt_of_lt_of_le (show wat ws' k < 2 ^ 64 from h2 k) hp)]
theorem pb_all {room : Int} {ws ws' : List Nat} {L : List Bool} (hc : Cl room ws) (hc' : Cl room ws') (hA : Agree room ws L) (hA' : Agree room ws' L) (i : Nat) : pb ws i = pb ws' i := by
  by_cases hi : i < L.length
  · rw [hA.2 i hi, hA'.2 i hi]
  · have h1 := hA.1
    have e1 := hc (i : Int) (by omega)
    have e2 := hc' (i : Int) (by omega)
    exact e1.trans e2.symm
theorem join_chg {op2 : Nat → Nat → Nat} {op : Bool → Bool → Bool} (hj : Joins op2 op) {f of oroom room : Int} {ws ows : List Nat} {L : List Bool} (hz : Sz f room ws) (hzo : Sz of oroom ows) (hc : Cl room ws) (hco : Cl oroom ows) (hA : Agree room ws L) (hop : ∀ k : Int, room ≤ k → op false (bt ows (f + k - of)) = false) :
    chg (joinG op2 f of ws ows) ws ws.length = decide (joinL op f of oroom L ows ≠ L) := by
  have hA' := join_agree hj hz hzo hco hA
  have hc' := join_cl hj hz hzo hc hop
  have hz' := join_sz hj hz hzo
  by_cases hL : joinL op f of oroom L ows = L
  · rw [hL] at hA'
    have hw : ∀ i, i < ws.length → joinG op2 f of ws ows i = wat ws i := fun i hi => by
      have := words_eq hz'.word hz.word (fun j => pb_all hc' hc hA' hA j) i
      unfold joinW at this
      rw [wat_upd, if_pos hi] at this
      exact this
    rw [chg_none _ ws _ (Nat.le_refl _) hw]
    simp [hL]
  · have : ∃ i, i < ws.length ∧ joinG op2 f of ws ows i ≠ wat ws i := by
      apply Classical.byContradiction
      intro hno
      apply hL
      have hs : joinW op2 f of ws ows = ws := upd_same _ ws _ (fun i hi => Classical.byContradiction fun h => hno ⟨i, hi, h⟩)
      rw [hs] at hA'
      refine lat_ext (by unfold joinL; rw [opL_len]) (fun i hi => ?_)
      have hi' : i < L.length := by unfold joinL at hi; rw [opL_len] at hi; exact hi
      rw [← hA'.2 i hi, hA.2 i hi']
    obtain ⟨i, hi, hne⟩ := this
    rw [chg_some _ ws _ i hi hne]
    simp [hL]

theorem flip_pb (ws : List Nat) (n k : Nat) (hn : n / 64 < ws.length) : pb (flip ws n) k = if n = k then !pb ws n else pb ws k := by
  have e : k = 64 * (k / 64) + k % 64 := by omega
  have e' : n = 64 * (n / 64) + n % 64 := by omega
  have p1 : pb (flip ws n) k = (wat (flip ws n) (k / 64)).testBit (k % 64) := by rw [← pb_at _ _ _ (by omega : k % 64 < 64), ← e]
  have p2 : pb ws k = (wat ws (k / 64)).testBit (k % 64) := by rw [← pb_at _ _ _ (by omega : k % 64 < 64), ← e]
  have p3 : pb ws n = (wat ws (n / 64)).testBit (n % 64) := by rw [← pb_at _ _ _ (by omega : n % 64 < 64), ← e']
  rw [p1, p2, p3]
  unfold flip
  rw [wat_set _ _ _ _ hn]
  by_cases hq : n / 64 = k / 64
  · rw [if_pos hq, Nat.testBit_xor, Nat.testBit_two_pow, ← hq]
    by_cases hr : n % 64 = k % 64
    · rw [if_pos (by omega), ← hr]; simp
    · rw [if_neg (by omega)]; simp [hr]
  · rw [if_neg hq, if_neg (fun h => hq (by rw [h]))]
theorem flip_sz {f room : Int} {ws : List Nat} (hz : Sz f room ws) (n : Nat) (hn : n / 64 < ws.length) : Sz f room (flip ws n) :=
  hz.set _ _ hn (Nat.xor_lt_two_pow (n := 64) (hz.word _) (Nat.pow_lt_pow_right (by decide) (by omega)))
theorem flip_agree {room : Int} {ws : List Nat} {L : List Bool} (hA : Agree room ws L) (n : Nat) (hn : n / 64 < ws.length) (hL : n < L.length) (x : Bool) (hx : (!lat L n) = x) : Agree room (flip ws n) (L.set n x) := by
  refine ⟨by rw [List.length_set]; exact hA.1, fun i hi => ?_⟩
  rw [List.length_set] at hi
  rw [flip_pb ws n i hn, lat_set L n x i hL, hA.2 n hL, hx, hA.2 i hi]
theorem flip_cl {room : Int} {ws : List Nat} (hc : Cl room ws) (n : Nat) (hn : n / 64 < ws.length) (h : (n : Int) < room) : Cl room (flip ws n) := fun k hk => by
  rw [bt_pb _ k (by omega), flip_pb ws n _ hn, if_neg (by omega), ← bt_pb _ k (by omega)]
  exact hc k hk

/-- The other set: another one in memory, or the same. -/
def Oth (W : World) (b g c : Nat) (f room : Int) (ws : List Nat) (ob og oc : Nat) (of oroom : Int) (ows : List Nat) : Prop :=
  (Bits W ob og oc of oroom ows ∧ ob ≠ g ∧ og ≠ g) ∨ (ob = b ∧ og = g ∧ oc = c ∧ of = f ∧ oroom = room ∧ ows = ws)
theorem Oth.bits {W : World} {b g c : Nat} {f room : Int} {ws : List Nat} {ob og oc : Nat} {of oroom : Int} {ows : List Nat} (h : Oth W b g c f room ws ob og oc of oroom ows) (hB : Bits W b g c f room ws) : Bits W ob og oc of oroom ows := by
  rcases h with ⟨h, _⟩ | ⟨rfl, rfl, rfl, rfl, rfl, rfl⟩
  · exact h
  · exact hB
theorem Oth.drawn {W : World} {b g c : Nat} {f room : Int} {ws : List Nat} {ob og oc : Nat} {of oroom : Int} {ows : List Nat} (h : Oth W b g c f room ws ob og oc of oroom ows) (m : Nat) : Oth (W.drewN m) b g c f room ws ob og oc of oroom ows := h
theorem frm_whole (ws : List Nat) (k : Nat) : frm ws ((k : Int) * 64) = wat ws k := by
  unfold frm wai
  rw [show (k : Int) * 64 / 64 = (k : Int) by omega, show (k : Int) * 64 % 64 = 0 by omega, if_neg (by omega)]
  simp
theorem from_oth (G : Nat → Nat) {W : World} {b g c : Nat} {f room : Int} {ws : List Nat} {ob og oc : Nat} {of oroom : Int} {ows : List Nat} (hz : Sz f room ws) (hzo : Sz of oroom ows) (ho : Oth W b g c f room ws ob og oc of oroom ows)
    (hG : ∀ i, i < ws.length → G i < 18446744073709551616) (k : Nat) (W' : World) (hk : k < ws.length) (hB : Bits W' b g c f room (upd G ws k)) (hoff : ∀ B, B ≠ g → W'.heap[B]? = W.heap[B]?) :
    Calls Tryd.prog 58 #[.pointer (some ⟨ob, 0, none⟩), .int .i64 (f + (k : Int) * 64)] W' fun e w' => e = .returned (.int .u64 (frm ows (f + (k : Int) * 64 - of) : Nat)) ∧ ∃ n, w' = W'.drewN n := by
  have h1 := hz.len; have h2 := hz.lo; have h3 := hz.hi; have h4 := hz.most; have h5 := hz.one
  rcases ho with ⟨h, hb, hg⟩ | ⟨rfl, rfl, rfl, rfl, rfl, rfl⟩
  · exact from_any ob og oc of oroom _ ows W' (h.keep (hoff ob hb) (hoff og hg)) hzo (by omega) (by omega)
  · have k9 := from_any ob og oc of oroom (of + (k : Int) * 64) (upd G ows k) W' hB (hz.upd G hG k) (by omega) (by omega)
    have e : frm (upd G ows k) (of + (k : Int) * 64 - of) = frm ows (of + (k : Int) * 64 - of) := by
      rw [show of + (k : Int) * 64 - of = (k : Int) * 64 by omega, frm_whole, upd_at G ows k hk, frm_whole]
    rw [e] at k9
    exact k9
theorem change_op (fn : Nat) {op2 : Nat → Nat → Nat} {op : Bool → Bool → Bool} (hj : Joins op2 op)
    (hfn : ∀ (x y : Nat), x < 18446744073709551616 → y < 18446744073709551616 → ∀ W : World, Calls Tryd.prog fn #[.int .u64 (x : Int), .int .u64 (y : Int)] W fun e w' => e = .returned (.int .u64 (op2 x y : Nat)) ∧ w' = W)
    (hen : ∀ args w, (callFunc fn args).run Tryd.prog w = .ok (.enter fn args) w)
    (b g c : Nat) (f room : Int) (ws : List Nat) (ob og oc : Nat) (of oroom : Int) (ows : List Nat) (W : World) (h : Bits W b g c f room ws) (hz : Sz f room ws) (hzo : Sz of oroom ows) (ho : Oth W b g c f room ws ob og oc of oroom ows) (n₀ : Nat) (hn₀ : n₀ ≤ g) :
    Calls Tryd.prog 60 #[.pointer (some ⟨b, 0, none⟩), .pointer (some ⟨ob, 0, none⟩), .func (.func fn) #[] #[]] W fun e w' => e = .returned (.bool (chg (joinG op2 f of ws ows) ws ws.length)) ∧ Bits w' b g c f room (joinW op2 f of ws ows) ∧ Below n₀ W w' ∧ (∀ B, B ≠ g → w'.heap[B]? = W.heap[B]?) :=
  change_any fn _ (fun k => frm ows (f + (k : Int) * 64 - of)) (joinG op2 f of ws ows) b g c f room ws W h hz (fun i _ => joinG_lt hj hz hzo i) (fun k W' _ => hfn _ _ (hz.word k) (frm_lt hzo.word _) W') hen
    (fun k W' hk hB hoff => from_oth (joinG op2 f of ws ows) hz hzo ho (fun i _ => joinG_lt hj hz hzo i) k W' hk hB hoff) n₀ hn₀

set_option maxHeartbeats 400000 in
theorem and_two (b g c : Nat) (f room : Int) (ws : List Nat) (ob og oc : Nat) (of oroom : Int) (ows : List Nat) (W : World) (h : Bits W b g c f room ws) (hz : Sz f room ws) (hzo : Sz of oroom ows) (ho : Oth W b g c f room ws ob og oc of oroom ows) (n₀ : Nat) (hn₀ : n₀ ≤ g) (t : Bool) (ht : chg (joinG (fun x y => x &&& y) f of ws ows) ws ws.length = t) :
    Calls Tryd.prog 25 #[.pointer (some ⟨b, 0, none⟩), .pointer (some ⟨ob, 0, none⟩)] W fun e w' => e = .returned (.tuple #[.bool t, .int .i64 0]) ∧ Bits w' b g c f room (joinW (fun x y => x &&& y) f of ws ows) ∧ Below n₀ W w' ∧ (∀ B, B ≠ g → w'.heap[B]? = W.heap[B]?) := by
  have k := change_op 61 joins_and (fun x y hx hy W => fand x y hx hy W) (enters_of Tryd.func61 (by kernel_rfl) rfl) b g c f room ws ob og oc of oroom ows W h hz hzo ho n₀ hn₀
  rw [ht] at k
  clear ht h hz hzo ho
  go_enter Tryd.func25, Tryd.ntmps25
  go_wp2_with (go_at_call 60; refine k.mono ?_; clear k; rintro e w1 ⟨rfl, hB, hb, hoff⟩)
  go_ret2
  exact ⟨rfl, hB, hb, hoff⟩
set_option maxHeartbeats 400000 in
theorem minus_two (b g c : Nat) (f room : Int) (ws : List Nat) (ob og oc : Nat) (of oroom : Int) (ows : List Nat) (W : World) (h : Bits W b g c f room ws) (hz : Sz f room ws) (hzo : Sz of oroom ows) (ho : Oth W b g c f room ws ob og oc of oroom ows) (n₀ : Nat) (hn₀ : n₀ ≤ g) (t : Bool) (ht : chg (joinG anot f of ws ows) ws ws.length = t) :
    Calls Tryd.prog 26 #[.pointer (some ⟨b, 0, none⟩), .pointer (some ⟨ob, 0, none⟩)] W fun e w' => e = .returned (.tuple #[.bool t, .int .i64 0]) ∧ Bits w' b g c f room (joinW anot f of ws ows) ∧ Below n₀ W w' ∧ (∀ B, B ≠ g → w'.heap[B]? = W.heap[B]?) := by
  have k := change_op 62 joins_anot (fun x y hx hy W => fminus x y hx hy W) (enters_of Tryd.func62 (by kernel_rfl) rfl) b g c f room ws ob og oc of oroom ows W h hz hzo ho n₀ hn₀
  rw [ht] at k
  clear ht h hz hzo ho
  go_enter Tryd.func26, Tryd.ntmps26
  go_wp2_with (go_at_call 60; refine k.mono ?_; clear k; rintro e w1 ⟨rfl, hB, hb, hoff⟩)
  go_ret2
  exact ⟨rfl, hB, hb, hoff⟩

theorem bvs_fit {f room : Int} {l : List Int} (hs : l.Pairwise (· < ·)) (h0 : 0 < l.length) (h1 : f ≤ l[0]?.getD 0) (h2 : l[l.length - 1]?.getD 0 < f + room) (v : Int) (hv : v ∈ l) : f ≤ v ∧ v < f + room := by
  obtain ⟨i, hi, rfl⟩ := List.mem_iff_getElem.1 hv
  rw [List.getElem?_eq_getElem h0] at h1
  rw [List.getElem?_eq_getElem (by omega)] at h2
  simp at h1 h2
  rw [List.pairwise_iff_getElem] at hs
  constructor
  · by_cases e : i = 0
    · subst e; exact h1
    · have := hs 0 i h0 hi (by omega); omega
  · by_cases e : i = l.length - 1
    · subst e; exact h2
    · have := hs i (l.length - 1) hi (by omega) (by omega); omega

set_option maxRecDepth 100000 in
set_option maxHeartbeats 1000000 in
theorem or_no (b g c : Nat) (f room : Int) (ws : List Nat) (ob og oc : Nat) (of oroom : Int) (ows : List Nat) (W : World) (h : Bits W b g c f room ws) (hz : Sz f room ws) (hzo : Sz of oroom ows) (hco : Cl oroom ows) (hO : Bits W ob og oc of oroom ows) (hT : Tab W) (hno : ¬ ∀ v ∈ bvs of oroom ows, fitB f room v = true) :
    Calls Tryd.prog 34 #[.pointer (some ⟨b, 0, none⟩), .pointer (some ⟨ob, 0, none⟩)] W fun e w' => e = .returned (.tuple #[.bool false, .int .i64 20]) ∧ ∃ m, w' = W.drewN m := by
  have k1 := minV ob og oc of oroom ows W hO hzo hco hT
  have k2 := fun m => maxV ob og oc of oroom ows (W.drewN m) (hO.drawn m) hzo hco
  have k3 := fun m v => fits_any b g c f room v ws (W.drewN m) (h.drawn m) hz
  have hup : (bvs of oroom ows).Pairwise (· < ·) := bv_up _ _ _
  obtain ⟨vs, hvs⟩ : ∃ vs, bvs of oroom ows = vs := ⟨_, rfl⟩
  rw [hvs] at k1 hup hno
  simp only [hvs] at k2
  have hpos : 0 < vs.length := by
    rcases Nat.eq_zero_or_pos vs.length with h0 | h0
    · exfalso; apply hno; intro v hv; rw [List.eq_nil_of_length_eq_zero h0] at hv; cases hv
    · exact h0
  have hd : decide (0 < vs.length) = true := by simpa using hpos
  rw [hd] at k1
  simp only [hd] at k2
  have hor : fitB f room (vs[0]?.getD 0) = false ∨ (fitB f room (vs[0]?.getD 0) = true ∧ fitB f room (vs[vs.length - 1]?.getD 0) = false) := by
    cases e1 : fitB f room (vs[0]?.getD 0)
    · exact .inl rfl
    · refine .inr ⟨rfl, ?_⟩
      cases e2 : fitB f room (vs[vs.length - 1]?.getD 0)
      · rfl
      · exfalso; apply hno
        intro v hv
        unfold fitB at e1 e2
        have e1' := of_decide_eq_true e1
        have e2' := of_decide_eq_true e2
        exact fitB_yes (bvs_fit hup hpos e1'.1 e2'.2 v hv)
  obtain ⟨lo', hlo⟩ : ∃ lo', vs[0]?.getD 0 = lo' := ⟨_, rfl⟩
  obtain ⟨hi', hhi⟩ : ∃ hi', vs[vs.length - 1]?.getD 0 = hi' := ⟨_, rfl⟩
  rw [hlo] at k1 hor
  rw [hhi] at hor
  simp only [hhi] at k2
  clear hlo hhi hd hno hup hvs h hz hzo hco hO hT hpos
  rcases hor with e1 | ⟨e1, e2⟩
  · go_enter Tryd.func34, Tryd.ntmps34
    go_wp2_with fail
    refine k1.mono ?_
    rintro e w1 ⟨rfl, m1, rfl⟩
    go_wp2_with fail
    refine (k2 _).mono ?_
    rintro e w1 ⟨rfl, m2, rfl⟩
    simp only [World.drewN_drewN]
    have k4 := k3 (m1 + m2) lo'
    rw [e1] at k4
    clear k1 k2 k3 e1
    go_wp2_with fail
    refine k4.mono ?_
    rintro e w1 ⟨rfl, m3, rfl⟩
    go_wp2
    go_ret2
    exact ⟨rfl, _, rfl⟩
  · go_enter Tryd.func34, Tryd.ntmps34
    go_wp2_with fail
    refine k1.mono ?_
    rintro e w1 ⟨rfl, m1, rfl⟩
    go_wp2_with fail
    refine (k2 _).mono ?_
    rintro e w1 ⟨rfl, m2, rfl⟩
    simp only [World.drewN_drewN]
    have k4 := k3 (m1 + m2) lo'
    rw [e1] at k4
    clear k1 k2 e1
    go_wp2_with fail
    refine k4.mono ?_
    rintro e w1 ⟨rfl, m3, rfl⟩
    simp only [World.drewN_drewN]
    have k5 := k3 (m1 + m2 + m3) hi'
    rw [e2] at k5
    clear k4 k3 e2
    go_wp2_with fail
    refine k5.mono ?_
    rintro e w1 ⟨rfl, m4, rfl⟩
    go_wp2
    go_ret2
    exact ⟨rfl, _, rfl⟩

set_option maxRecDepth 100000 in
set_option maxHeartbeats 1000000 in
theorem or_two (b g c : Nat) (f room : Int) (ws : List Nat) (ob og oc : Nat) (of oroom : Int) (ows : List Nat) (W : World) (h : Bits W b g c f room ws) (hz : Sz f room ws) (hzo : Sz of oroom ows) (hco : Cl oroom ows) (ho : Oth W b g c f room ws ob og oc of oroom ows) (hT : Tab W) (hall : ∀ v ∈ bvs of oroom ows, fitB f room v = true) (n₀ : Nat) (hn₀ : n₀ ≤ g) (t : Bool) (ht : chg (joinG (fun x y => x ||| y) f of ws ows) ws ws.length = t) :
    Calls Tryd.prog 34 #[.pointer (some ⟨b, 0, none⟩), .pointer (some ⟨ob, 0, none⟩)] W fun e w' => e = .returned (.tuple #[.bool t, .int .i64 0]) ∧ Bits w' b g c f room (joinW (fun x y => x ||| y) f of ws ows) ∧ Below n₀ W w' ∧ (∀ B, B ≠ g → w'.heap[B]? = W.heap[B]?) := by
  have hO := ho.bits h
  have k1 := minV ob og oc of oroom ows W hO hzo hco hT
  have k2 := fun m => maxV ob og oc of oroom ows (W.drewN m) (hO.drawn m) hzo hco
  have k3 := fun m v => fits_any b g c f room v ws (W.drewN m) (h.drawn m) hz
  have k := fun m => change_op 69 joins_or (fun x y hx hy W => for_ x y hx hy W) (enters_of Tryd.func69 (by kernel_rfl) rfl) b g c f room ws ob og oc of oroom ows (W.drewN m) (h.drawn m) hz hzo (ho.drawn m) n₀ hn₀
  simp only [ht] at k
  obtain ⟨vs, hvs⟩ : ∃ vs, bvs of oroom ows = vs := ⟨_, rfl⟩
  rw [hvs] at k1 hall
  simp only [hvs] at k2
  have hb9 : ∀ m w', Below n₀ (W.drewN m) w' → Below n₀ W w' := fun m w' hb => (below_drewN (Below.refl n₀ W) m).trans hb
  rcases Nat.eq_zero_or_pos vs.length with h0 | hpos
  · have hd : decide (0 < vs.length) = false := by rw [h0]; rfl
    rw [hd] at k1
    simp only [hd] at k2
    obtain ⟨lo', hlo⟩ : ∃ lo', vs[0]?.getD 0 = lo' := ⟨_, rfl⟩
    obtain ⟨hi', hhi⟩ : ∃ hi', vs[vs.length - 1]?.getD 0 = hi' := ⟨_, rfl⟩
    rw [hlo] at k1
    simp only [hhi] at k2
    clear hlo hhi hd hvs h hz hzo hco hO hT h0 hall k3 ho ht
    go_enter Tryd.func34, Tryd.ntmps34
    go_wp2_with fail
    refine k1.mono ?_
    rintro e w1 ⟨rfl, m1, rfl⟩
    go_wp2_with fail
    refine (k2 _).mono ?_
    rintro e w1 ⟨rfl, m2, rfl⟩
    simp only [World.drewN_drewN]
    go_wp2_with fail
    refine (k _).mono ?_
    rintro e w1 ⟨rfl, hB, hb, hoff⟩
    have hb' := hb9 _ _ hb
    clear k hb9 k1 k2
    go_wp2
    go_ret2
    exact ⟨rfl, hB, hb', hoff⟩
  · have hd : decide (0 < vs.length) = true := by simpa using hpos
    rw [hd] at k1
    simp only [hd] at k2
    have e1 : fitB f room (vs[0]?.getD 0) = true := hall _ (by rw [List.getElem?_eq_getElem hpos]; exact List.getElem_mem _)
    have e2 : fitB f room (vs[vs.length - 1]?.getD 0) = true := hall _ (by rw [List.getElem?_eq_getElem (by omega)]; exact List.getElem_mem _)
    obtain ⟨lo', hlo⟩ : ∃ lo', vs[0]?.getD 0 = lo' := ⟨_, rfl⟩
    obtain ⟨hi', hhi⟩ : ∃ hi', vs[vs.length - 1]?.getD 0 = hi' := ⟨_, rfl⟩
    rw [hlo] at k1 e1
    rw [hhi] at e2
    simp only [hhi] at k2
    clear hlo hhi hd hvs h hz hzo hco hO hT hpos hall ho ht
    go_enter Tryd.func34, Tryd.ntmps34
    go_wp2_with fail
    refine k1.mono ?_
    rintro e w1 ⟨rfl, m1, rfl⟩
    go_wp2_with fail
    refine (k2 _).mono ?_
    rintro e w1 ⟨rfl, m2, rfl⟩
    simp only [World.drewN_drewN]
    have k4 := k3 (m1 + m2) lo'
    rw [e1] at k4
    clear k1 k2 e1
    go_wp2_with fail
    refine k4.mono ?_
    rintro e w1 ⟨rfl, m3, rfl⟩
    simp only [World.drewN_drewN]
    have k5 := k3 (m1 + m2 + m3) hi'
    rw [e2] at k5
    clear k4 k3 e2
    go_wp2_with fail
    refine k5.mono ?_
    rintro e w1 ⟨rfl, m4, rfl⟩
    simp only [World.drewN_drewN]
    go_wp2_with fail
    refine (k _).mono ?_
    rintro e w1 ⟨rfl, hB, hb, hoff⟩
    have hb' := hb9 _ _ hb
    clear k hb9 k5
    go_wp2
    go_ret2
    exact ⟨rfl, hB, hb', hoff⟩

set_option maxHeartbeats 2000000 in
theorem refput_any (b g c n : Nat) (f v : Int) (x : Bool) (L : List Bool) (W : World) (h : Ref W b g c f L) (hz : Rz f L) (hn : v - f = (n : Int)) (hn2 : n < L.length) :
    Calls Tryd.prog 54 #[.pointer (some ⟨b, 0, none⟩), .int .i64 v, .bool x] W fun e w' => e = .returned (.bool (lat L n != x)) ∧ ∃ m, w' = (W.setCell ⟨g, n, none⟩ (.bool x)).drewN m := by
  have c0 := h.c0; have c1 := h.c1
  obtain ⟨cw, fw⟩ := h.cw n hn2
  have z1 := hz.lo; have z2 := hz.one; have z3 := hz.most; have z4 := hz.hi
  obtain ⟨N, hN⟩ : ∃ N, L.length = N := ⟨_, rfl⟩
  rw [hN] at hn2 c1 z2 z3 z4
  obtain ⟨t, ht⟩ : ∃ t, lat L n = t := ⟨_, rfl⟩
  rw [ht] at cw ⊢
  have hn3 : (n : Int) < (N : Int) := by omega
  have hvf : wrap64 (v - f) = (n : Int) := by rw [hn]; unfold wrap64; omega
  clear hN ht h hz
  go_enter Tryd.func54, Tryd.ntmps54
  go_wp2
  go_quiet (fail)
  go_wp2
  go_region
  all_goals go_wp2
  all_goals
    go_ret
    refine ⟨by cases t <;> cases x <;> rfl, nq + 1, rfl⟩

theorem set_same (W : World) (g n m : Nat) (v : Value) (B : Nat) (hB : B ≠ g) : ((W.setCell ⟨g, n, none⟩ v).drewN m).heap[B]? = W.heap[B]? := Below.heap_setCell _ _ _ B hB

set_option maxHeartbeats 1000000 in
theorem refadd_dom (b g c : Nat) (f v : Int) (L : List Bool) (W : World) (h : Ref W b g c f L) (hz : Rz f L) (hf : ¬ (f ≤ v ∧ v < f + L.length)) :
    Calls Tryd.prog 17 #[.pointer (some ⟨b, 0, none⟩), .int .i64 v] W fun e w' => e = .returned (.tuple #[.bool false, .int .i64 20]) ∧ ∃ m, w' = W.drewN m := by
  have k := reffits_any b g c f v L W h hz
  rw [fitB_no hf] at k
  clear h hz hf
  go_enter Tryd.func17, Tryd.ntmps17
  go_wp2_with (go_at_call 53; refine k.mono ?_; clear k; rintro e w1 ⟨rfl, m, rfl⟩)
  go_ret2
  exact ⟨rfl, _, rfl⟩
set_option maxHeartbeats 1000000 in
theorem refadd_yes (b g c n : Nat) (f v : Int) (L : List Bool) (W : World) (h : Ref W b g c f L) (hz : Rz f L) (hn : v - f = (n : Int)) (hn2 : n < L.length) (t : Bool) (ht : (lat L n != true) = t) :
    Calls Tryd.prog 17 #[.pointer (some ⟨b, 0, none⟩), .int .i64 v] W fun e w' => e = .returned (.tuple #[.bool t, .int .i64 0]) ∧ ∃ m, w' = (W.setCell ⟨g, n, none⟩ (.bool true)).drewN m := by
  have k := reffits_any b g c f v L W h hz
  rw [fitB_yes ⟨by omega, by omega⟩] at k
  have k2 := fun m => refput_any b g c n f v true L (W.drewN m) (h.drawn m) hz hn hn2
  simp only [ht] at k2
  clear h hz ht
  go_enter Tryd.func17, Tryd.ntmps17
  go_wp2_with fail
  refine k.mono ?_
  rintro e w1 ⟨rfl, m, rfl⟩
  go_wp2_with fail
  refine (k2 m).mono ?_
  rintro e w1 ⟨rfl, m2, rfl⟩
  clear k k2
  go_wp2
  go_ret2
  exact ⟨rfl, m + m2, turned W _ _ m m2⟩
set_option maxHeartbeats 1000000 in
theorem refdel_no (b g c : Nat) (f v : Int) (L : List Bool) (W : World) (h : Ref W b g c f L) (hz : Rz f L) (hf : ¬ (f ≤ v ∧ v < f + L.length)) :
    Calls Tryd.prog 19 #[.pointer (some ⟨b, 0, none⟩), .int .i64 v] W fun e w' => e = .returned (.tuple #[.bool false, .int .i64 0]) ∧ ∃ m, w' = W.drewN m := by
  have k := reffits_any b g c f v L W h hz
  rw [fitB_no hf] at k
  clear h hz hf
  go_enter Tryd.func19, Tryd.ntmps19
  go_wp2_with (go_at_call 53; refine k.mono ?_; clear k; rintro e w1 ⟨rfl, m, rfl⟩)
  go_ret2
  exact ⟨rfl, _, rfl⟩
set_option maxHeartbeats 1000000 in
theorem refdel_yes (b g c n : Nat) (f v : Int) (L : List Bool) (W : World) (h : Ref W b g c f L) (hz : Rz f L) (hn : v - f = (n : Int)) (hn2 : n < L.length) (t : Bool) (ht : (lat L n != false) = t) :
    Calls Tryd.prog 19 #[.pointer (some ⟨b, 0, none⟩), .int .i64 v] W fun e w' => e = .returned (.tuple #[.bool t, .int .i64 0]) ∧ ∃ m, w' = (W.setCell ⟨g, n, none⟩ (.bool false)).drewN m := by
  have k := reffits_any b g c f v L W h hz
  rw [fitB_yes ⟨by omega, by omega⟩] at k
  have k2 := fun m => refput_any b g c n f v false L (W.drewN m) (h.drawn m) hz hn hn2
  simp only [ht] at k2
  clear h hz ht
  go_enter Tryd.func19, Tryd.ntmps19
  go_wp2_with fail
  refine k.mono ?_
  rintro e w1 ⟨rfl, m, rfl⟩
  go_wp2_with fail
  refine (k2 m).mono ?_
  rintro e w1 ⟨rfl, m2, rfl⟩
  clear k k2
  go_wp2
  go_ret2
  exact ⟨rfl, m + m2, turned W _ _ m m2⟩

/-- The first k places gone through: those that p does not keep are taken away. -/
def prt (p : Nat → Bool) (L : List Bool) (k : Nat) : List Bool := opL (fun i => if i < k then lat L i && p i else lat L i) L.length
def dif (p : Nat → Bool) (L : List Bool) (k : Nat) : Bool := (List.range k).any fun i => lat L i && !p i
theorem prt_len (p : Nat → Bool) (L : List Bool) (k : Nat) : (prt p L k).length = L.length := opL_len _ _
theorem prt_lat (p : Nat → Bool) (L : List Bool) (k i : Nat) (hi : i < L.length) : lat (prt p L k) i = if i < k then lat L i && p i else lat L i := opL_lat _ _ _ hi
theorem prt_zero (p : Nat → Bool) (L : List Bool) : prt p L 0 = L := lat_ext (prt_len _ _ _) (fun i hi => by rw [prt_len] at hi; rw [prt_lat _ _ _ _ hi, if_neg (by omega)])
theorem prt_at (p : Nat → Bool) (L : List Bool) (k : Nat) (hk : k < L.length) : lat (prt p L k) k = lat L k := by rw [prt_lat _ _ _ _ hk, if_neg (by omega)]
theorem prt_keep (p : Nat → Bool) (L : List Bool) (k : Nat) (h : (lat L k && p k) = lat L k) : prt p L (k + 1) = prt p L k := lat_ext (by rw [prt_len, prt_len]) (fun i hi => by
  rw [prt_len] at hi
  rw [prt_lat _ _ _ _ hi, prt_lat _ _ _ _ hi]
  by_cases e : i = k
  · subst e; rw [if_pos (by omega), if_neg (by omega)]; exact h
  · by_cases e2 : i < k
    · rw [if_pos (by omega), if_pos e2]
    · rw [if_neg (by omega), if_neg e2])
theorem prt_set (p : Nat → Bool) (L : List Bool) (k : Nat) (hk : k < L.length) (h : p k = false) : (prt p L k).set k false = prt p L (k + 1) := lat_ext (by rw [List.length_set, prt_len, prt_len]) (fun i hi => by
  rw [List.length_set, prt_len] at hi
  rw [lat_set _ _ _ _ (by rw [prt_len]; exact hk), prt_lat _ _ _ _ hi, prt_lat _ _ _ _ hi]
  by_cases e : k = i
  · subst e; rw [if_pos rfl, if_pos (by omega), h]; simp
  · rw [if_neg e]
    by_cases e2 : i < k
    · rw [if_pos e2, if_pos (by omega)]
    · rw [if_neg e2, if_neg (by omega)])
theorem prt_end (p : Nat → Bool) (L : List Bool) : prt p L L.length = opL (fun i => lat L i && p i) L.length := lat_ext (by rw [prt_len, opL_len]) (fun i hi => by
  rw [prt_len] at hi
  rw [prt_lat _ _ _ _ hi, opL_lat _ _ _ hi, if_pos hi])
theorem dif_succ (p : Nat → Bool) (L : List Bool) (k : Nat) : dif p L (k + 1) = (dif p L k || (lat L k && !p k)) := by unfold dif; rw [List.range_succ, List.any_append]; simp
theorem dif_end (p : Nat → Bool) (L : List Bool) : dif p L L.length = decide (opL (fun i => lat L i && p i) L.length ≠ L) := by
  by_cases h : opL (fun i => lat L i && p i) L.length = L
  · have : dif p L L.length = false := by
      unfold dif
      rw [List.any_eq_false]
      intro i hi
      rw [List.mem_range] at hi
      have h2 : lat (opL (fun i => lat L i && p i) L.length) i = lat L i := by rw [h]
      rw [opL_lat _ _ _ hi] at h2
      cases e1 : lat L i <;> cases e2 : p i <;> simp_all
    rw [this]; simp [h]
  · have : dif p L L.length = true := by
      apply Classical.byContradiction
      intro hno
      have hno' : dif p L L.length = false := by simpa using hno
      unfold dif at hno'
      rw [List.any_eq_false] at hno'
      apply h
      refine lat_ext (opL_len _ _) (fun i hi => ?_)
      rw [opL_len] at hi
      rw [opL_lat _ _ _ hi]
      have := hno' i (List.mem_range.2 hi)
      cases e1 : lat L i <;> cases e2 : p i <;> simp_all
    rw [this]; simp [h]

set_option maxRecDepth 100000 in
set_option maxHeartbeats 4000000 in
theorem refand_other (b g c ob og oc : Nat) (f of : Int) (L oL : List Bool) (h : Int → Bool) (W : World) (hR : Ref W b g c f L) (hz : Rz f L) (hO : Ref W ob og oc of oL) (hzo : Rz of oL) (hne : ob ≠ g ∧ og ≠ g) (hh : ∀ v, (fitB of oL.length v && lat oL (v - of).toNat) = h v) (n₀ : Nat) (hn₀ : n₀ ≤ g) :
    Calls Tryd.prog 55 #[.pointer (some ⟨b, 0, none⟩), .pointer (some ⟨ob, 0, none⟩)] W fun e w' => e = .returned (.bool (decide (opL (fun i => lat L i && h (f + (i : Int))) L.length ≠ L))) ∧ Ref w' b g c f (opL (fun i => lat L i && h (f + (i : Int))) L.length) ∧ Below n₀ W w' ∧ (∀ B, B ≠ g → w'.heap[B]? = W.heap[B]?) := by
  have z1 := hz.lo; have z2 := hz.one; have z3 := hz.most; have z4 := hz.hi
  have kh := fun wr (hoff : ∀ B, B ≠ g → wr.heap[B]? = W.heap[B]?) v => refhas_any ob og oc of v oL wr (hO.keep (hoff ob hne.1) (hoff og hne.2)) hzo
  simp only [hh] at kh
  obtain ⟨p, hp⟩ : ∃ p : Nat → Bool, (fun i : Nat => h (f + (i : Int))) = p := ⟨_, rfl⟩
  have hpk : ∀ k : Nat, h (f + (k : Int)) = p k := fun k => by rw [← hp]
  have he := dif_end p L
  have he2 := prt_end p L
  have hL' : opL (fun i => lat L i && h (f + (i : Int))) L.length = opL (fun i => lat L i && p i) L.length := by simp only [hpk]
  rw [hL', ← he, ← he2]
  have h0 : Ref W b g c f (prt p L 0) := by rw [prt_zero]; exact hR
  obtain ⟨n, hn⟩ : ∃ n, L.length = n := ⟨_, rfl⟩
  have HN : Hid (L.length = n) := hn
  have HPK : Hid (∀ k : Nat, h (f + (k : Int)) = p k) := hpk
  have KH : Hid _ := kh
  rw [hn] at z2 z3 z4 ⊢
  clear hn he he2 hp hL' hpk hR hz hO hzo hh kh hne
  go_enter Tryd.func55, Tryd.ntmps55
  go_wp2
  go_loopw [5, 6, 7] (fun a i _ wr => ∃ k : Nat, k ≤ n ∧ i = .int .i64 k ∧ a = .bool (dif p L k) ∧ Ref wr b g c f (prt p L k) ∧ Below n₀ W wr ∧ (∀ B, B ≠ g → wr.heap[B]? = W.heap[B]?)) (fun _ i _ _ => n - (intOf i).toNat)
  case atStart => exact ⟨0, Nat.zero_le _, rfl, rfl, h0, Below.refl _ _, fun _ _ => rfl⟩
  case round =>
    obtain ⟨k, hk, rfl, rfl, hB, hbl, hoff⟩ := hrel
    have d0 := hB.c0
    have d1 := hB.c1
    rw [prt_len, HN.out] at d1
    by_cases hlt : k < n
    · have hkl : k < L.length := by rw [HN.out]; exact hlt
      obtain ⟨dw, fw⟩ := hB.cw k (by rw [prt_len]; exact hkl)
      rw [prt_at p L k hkl] at dw
      have k1 := KH.out wr hoff (f + (k : Int))
      rw [HPK.out k] at k1
      have hlt' : (k : Int) < (n : Int) := by omega
      have HD := dif_succ p L k
      obtain ⟨t, ht⟩ : ∃ t, dif p L k = t := ⟨_, rfl⟩
      rw [ht] at HD ⊢
      cases e1 : lat L k
      · have hkp := prt_keep p L k (by rw [e1]; rfl)
        rw [e1] at dw HD
        have HKP : Hid (prt p L (k + 1) = prt p L k) := hkp
        have HD' : Hid (dif p L (k + 1) = t) := by unfold Hid; rw [HD]; simp
        have HB : Hid (Ref wr b g c f (prt p L k)) := hB
        clear hkp HD ht k1 hkl e1 hB
        go_wp2
        go_roundw
        case rel => exact ⟨k + 1, by omega, by go_num, by rw [HD'.out], by rw [HKP.out]; exact HB.out, hbl, hoff⟩
        case measure => simp [intOf]; omega
      · rw [e1] at dw HD
        cases e2 : p k
        · have hst := hB.set k false
          rw [prt_set p L k hkl e2] at hst
          rw [e2] at k1 HD
          have HST : Hid (Ref (wr.setCell ⟨g, k, none⟩ (.bool false)) b g c f (prt p L (k + 1))) := hst
          have HD' : Hid (dif p L (k + 1) = true) := by unfold Hid; rw [HD]; simp
          clear hst HD ht hkl e1 e2 hB
          go_wp2_with (go_at_call 50; refine k1.mono ?_; clear k1; rintro e w1 ⟨rfl, m1, rfl⟩)
          go_roundw
          case rel => exact ⟨k + 1, by omega, by go_num, by rw [HD'.out], HST.out, (below_drewN hbl m1).setCell (p := ⟨g, k, none⟩) hn₀ _, fun B hB' => (Below.heap_setCell _ _ _ B hB').trans (hoff B hB')⟩
          case measure => simp [intOf]; omega
        · have hkp := prt_keep p L k (by rw [e1, e2]; rfl)
          rw [e2] at k1 HD
          have HKP : Hid (prt p L (k + 1) = prt p L k) := hkp
          have HD' : Hid (dif p L (k + 1) = t) := by unfold Hid; rw [HD]; simp
          have HB : Hid (Ref wr b g c f (prt p L k)) := hB
          clear hkp HD ht hkl e1 e2 hB
          go_wp2_with (go_at_call 50; refine k1.mono ?_; clear k1; rintro e w1 ⟨rfl, m1, rfl⟩)
          go_roundw
          case rel => exact ⟨k + 1, by omega, by go_num, by rw [HD'.out], by rw [HKP.out]; exact HB.out, below_drewN hbl m1, hoff⟩
          case measure => simp [intOf]; omega
    · obtain rfl : k = n := by omega
      go_wp2
      go_ret
      exact ⟨rfl, hB, hbl, hoff⟩

theorem Tryd.info40 : ∃ j, Tryd.prog.info? 40 = some j ∧ j.size ≠ 0 := by
  have h : (Tryd.prog.info? 40).map (·.size) = some 2 := by kernel_rfl
  cases hi : Tryd.prog.info? 40 with
  | none => rw [hi] at h; cases h
  | some j => rw [hi] at h; exact ⟨j, rfl, by injection h with h; have h2 : j.size = 2 := h; rw [h2]; decide⟩
theorem neq_ptr_same (a : Addr) (w : World) : (binOp .neq 28 (.pointer (some a)) (.pointer (some a))).run Tryd.prog w = .ok (.bool false) w := by
  obtain ⟨j, hte, _⟩ := Tryd.info40
  have h : ∀ d : Nat, (Op.equalIn (d + 1) 28 (.pointer (some a)) (.pointer (some a))).run Tryd.prog w = .ok true w := fun d => by
    simp [Op.equalIn, run_underlying Tryd.underlying28, sizeOf, typeInfo, hte, run_sameAddr_same]
  simp only [binOp]
  simp [Op.equal, Op.maxDepth, h 9999]
theorem eql_ptr_same (a : Addr) (w : World) : (binOp .eql 28 (.pointer (some a)) (.pointer (some a))).run Tryd.prog w = .ok (.bool true) w := by
  obtain ⟨j, hte, _⟩ := Tryd.info40
  exact run_eql_ptr_same w a Tryd.underlying28 hte
theorem ptr_other {W : World} {b ob g og c oc : Nat} {f of : Int} {L oL : List Bool} (hR : Ref W b g c f L) (hO : Ref W ob og oc of oL) (hne : ob ≠ b) :
    (binOp .neq 28 (.pointer (some ⟨ob, 0, none⟩)) (.pointer (some ⟨b, 0, none⟩))).run Tryd.prog W = .ok (.bool true) W ∧ (binOp .eql 28 (.pointer (some ⟨ob, 0, none⟩)) (.pointer (some ⟨b, 0, none⟩))).run Tryd.prog W = .ok (.bool false) W := by
  obtain ⟨j, hte, hsz⟩ := Tryd.info40
  have hn : (⟨ob, 0, none⟩ : Addr) ≠ ⟨b, 0, none⟩ := fun e => hne (by injection e)
  refine ⟨?_, run_eql_ptr_other W Tryd.underlying28 hte hsz hn hO.1 hR.1⟩
  have h : ∀ d : Nat, (Op.equalIn (d + 1) 28 (.pointer (some ⟨ob, 0, none⟩)) (.pointer (some ⟨b, 0, none⟩))).run Tryd.prog W = .ok false W := fun d => by
    simp [Op.equalIn, run_underlying Tryd.underlying28, sizeOf, typeInfo, hte, hsz, run_sameAddr_other W hn hO.1 hR.1]
  simp only [binOp]
  simp [Op.equal, Op.maxDepth, h 9999]

theorem has_self {f : Int} {L : List Bool} {k : Nat} (hk : k < L.length) : (fitB f L.length (f + (k : Int)) && lat L (f + (k : Int) - f).toNat) = lat L k := by
  rw [fitB_yes ⟨by omega, by omega⟩, lat_of L (f + (k : Int)) f k (by omega)]; rfl

set_option maxRecDepth 100000 in
set_option maxHeartbeats 2000000 in
theorem refand_self (b g c : Nat) (f : Int) (L : List Bool) (W : World) (hR : Ref W b g c f L) (hz : Rz f L) :
    Calls Tryd.prog 55 #[.pointer (some ⟨b, 0, none⟩), .pointer (some ⟨b, 0, none⟩)] W fun e w' => e = .returned (.bool false) ∧ ∃ m, w' = W.drewN m := by
  have z1 := hz.lo; have z2 := hz.one; have z3 := hz.most; have z4 := hz.hi
  have kh := fun m k (hk : k < L.length) => by have q := refhas_any b g c f (f + (k : Nat)) L (W.drewN m) (hR.drawn m) hz; rw [has_self hk] at q; exact q
  have d0 := hR.c0
  have d1 := hR.c1
  have hcw : ∀ k, k < L.length → W.cell? ⟨g, k, none⟩ = some (.bool (lat L k)) := fun k hk => (hR.cw k hk).1
  obtain ⟨n, hn⟩ : ∃ n, L.length = n := ⟨_, rfl⟩
  rw [hn] at z2 z3 z4 d1 hcw kh
  have HCW : Hid (∀ k, k < n → W.cell? ⟨g, k, none⟩ = some (.bool (lat L k))) := hcw
  have KH : Hid _ := kh
  clear hn hR hz hcw kh
  go_enter Tryd.func55, Tryd.ntmps55
  go_wp2
  go_loopw [5, 6, 7] (fun a i _ wr => ∃ k m : Nat, k ≤ n ∧ i = .int .i64 k ∧ a = .bool false ∧ wr = W.drewN m) (fun _ i _ _ => n - (intOf i).toNat)
  case atStart => exact ⟨0, 0, Nat.zero_le _, rfl, rfl, rfl⟩
  case round =>
    obtain ⟨k, m, hk, rfl, rfl, rfl⟩ := hrel
    by_cases hlt : k < n
    · have dw := HCW.out k hlt
      have k1 := KH.out m k hlt
      have hlt' : (k : Int) < (n : Int) := by omega
      cases e1 : lat L k
      · rw [e1] at dw
        clear k1 e1
        go_wp2
        go_roundw
        case rel => exact ⟨k + 1, _, by omega, by go_num, rfl, rfl⟩
        case measure => simp [intOf]; omega
      · rw [e1] at dw k1
        clear e1
        go_wp2_with (go_at_call 50; refine k1.mono ?_; clear k1; rintro e w1 ⟨rfl, m1, rfl⟩)
        go_roundw
        case rel => exact ⟨k + 1, _, by omega, by go_num, rfl, rfl⟩
        case measure => simp [intOf]; omega
    · obtain rfl : k = n := by omega
      go_wp2
      go_ret
      exact ⟨rfl, _, rfl⟩

set_option maxRecDepth 100000 in
set_option maxHeartbeats 4000000 in
theorem refminus_other (b g c ob og oc : Nat) (f of : Int) (L oL : List Bool) (h : Int → Bool) (W : World) (hR : Ref W b g c f L) (hz : Rz f L) (hO : Ref W ob og oc of oL) (hzo : Rz of oL) (hne : ob ≠ g ∧ og ≠ g) (hob : ob ≠ b) (hh : ∀ v, (fitB of oL.length v && lat oL (v - of).toNat) = h v) (n₀ : Nat) (hn₀ : n₀ ≤ g) :
    Calls Tryd.prog 57 #[.pointer (some ⟨b, 0, none⟩), .pointer (some ⟨ob, 0, none⟩)] W fun e w' => e = .returned (.bool (decide (opL (fun i => lat L i && !h (f + (i : Int))) L.length ≠ L))) ∧ Ref w' b g c f (opL (fun i => lat L i && !h (f + (i : Int))) L.length) ∧ Below n₀ W w' ∧ (∀ B, B ≠ g → w'.heap[B]? = W.heap[B]?) := by
  have z1 := hz.lo; have z2 := hz.one; have z3 := hz.most; have z4 := hz.hi
  have kh := fun wr (hoff : ∀ B, B ≠ g → wr.heap[B]? = W.heap[B]?) v => refhas_any ob og oc of v oL wr (hO.keep (hoff ob hne.1) (hoff og hne.2)) hzo
  simp only [hh] at kh
  have kp := fun wr (hoff : ∀ B, B ≠ g → wr.heap[B]? = W.heap[B]?) (L' : List Bool) (hB : Ref wr b g c f L') => ptr_other hB (hO.keep (hoff ob hne.1) (hoff og hne.2)) hob
  obtain ⟨p, hp⟩ : ∃ p : Nat → Bool, (fun i : Nat => !h (f + (i : Int))) = p := ⟨_, rfl⟩
  have hpk : ∀ k : Nat, h (f + (k : Int)) = !p k := fun k => by rw [← hp]; simp
  have he := dif_end p L
  have he2 := prt_end p L
  have hL' : opL (fun i => lat L i && !h (f + (i : Int))) L.length = opL (fun i => lat L i && p i) L.length := by simp only [hpk, Bool.not_not]
  rw [hL', ← he, ← he2]
  have h0 : Ref W b g c f (prt p L 0) := by rw [prt_zero]; exact hR
  obtain ⟨n, hn⟩ : ∃ n, L.length = n := ⟨_, rfl⟩
  have HN : Hid (L.length = n) := hn
  have HPK : Hid (∀ k : Nat, h (f + (k : Int)) = !p k) := hpk
  have KH : Hid _ := kh
  have KP : Hid _ := kp
  rw [hn] at z2 z3 z4 ⊢
  clear hn he he2 hp hL' hpk hR hz hO hzo hh kh hne kp
  go_enter Tryd.func57, Tryd.ntmps57
  go_wp2
  go_loopw [5, 6, 7] (fun a i _ wr => ∃ k : Nat, k ≤ n ∧ i = .int .i64 k ∧ a = .bool (dif p L k) ∧ Ref wr b g c f (prt p L k) ∧ Below n₀ W wr ∧ (∀ B, B ≠ g → wr.heap[B]? = W.heap[B]?)) (fun _ i _ _ => n - (intOf i).toNat)
  case atStart => exact ⟨0, Nat.zero_le _, rfl, rfl, h0, Below.refl _ _, fun _ _ => rfl⟩
  case round =>
    obtain ⟨k, hk, rfl, rfl, hB, hbl, hoff⟩ := hrel
    have hpn : ∀ m, (binOp .neq 28 (.pointer (some ⟨ob, 0, none⟩)) (.pointer (some ⟨b, 0, none⟩))).run Tryd.prog (wr.drewN m) = .ok (.bool true) (wr.drewN m) := fun m => (KP.out (wr.drewN m) hoff _ (hB.drawn m)).1
    have hpe := (KP.out wr hoff _ hB).2
    have d0 := hB.c0
    have d1 := hB.c1
    rw [prt_len, HN.out] at d1
    by_cases hlt : k < n
    · have hkl : k < L.length := by rw [HN.out]; exact hlt
      obtain ⟨dw, fw⟩ := hB.cw k (by rw [prt_len]; exact hkl)
      rw [prt_at p L k hkl] at dw
      have k1 := KH.out wr hoff (f + (k : Int))
      rw [HPK.out k] at k1
      have hlt' : (k : Int) < (n : Int) := by omega
      have HD := dif_succ p L k
      obtain ⟨t, ht⟩ : ∃ t, dif p L k = t := ⟨_, rfl⟩
      rw [ht] at HD ⊢
      cases e1 : lat L k
      · have hkp := prt_keep p L k (by rw [e1]; rfl)
        rw [e1] at dw HD
        have HKP : Hid (prt p L (k + 1) = prt p L k) := hkp
        have HD' : Hid (dif p L (k + 1) = t) := by unfold Hid; rw [HD]; simp
        have HB : Hid (Ref wr b g c f (prt p L k)) := hB
        clear hkp HD ht k1 hkl e1 hB
        go_wp2
        all_goals
          go_roundw
          case rel => exact ⟨k + 1, by omega, by go_num, by rw [HD'.out], by rw [HKP.out]; exact HB.out, hbl, hoff⟩
          case measure => simp [intOf]; omega
      · rw [e1] at dw HD
        cases e2 : p k
        · have hst := hB.set k false
          rw [prt_set p L k hkl e2] at hst
          rw [e2] at k1 HD
          have HST : Hid (Ref (wr.setCell ⟨g, k, none⟩ (.bool false)) b g c f (prt p L (k + 1))) := hst
          have HD' : Hid (dif p L (k + 1) = true) := by unfold Hid; rw [HD]; simp
          clear hst HD ht hkl e1 e2 hB
          go_wp2_with (go_at_call 50; refine k1.mono ?_; clear k1; rintro e w1 ⟨rfl, m1, rfl⟩)
          go_roundw
          case rel => exact ⟨k + 1, by omega, by go_num, by rw [HD'.out], HST.out, (below_drewN hbl m1).setCell (p := ⟨g, k, none⟩) hn₀ _, fun B hB' => (Below.heap_setCell _ _ _ B hB').trans (hoff B hB')⟩
          case measure => simp [intOf]; omega
        · have hkp := prt_keep p L k (by rw [e1, e2]; rfl)
          rw [e2] at k1 HD
          have HKP : Hid (prt p L (k + 1) = prt p L k) := hkp
          have HD' : Hid (dif p L (k + 1) = t) := by unfold Hid; rw [HD]; simp
          have HB : Hid (Ref wr b g c f (prt p L k)) := hB
          clear hkp HD ht hkl e1 e2 hB
          go_wp2_with (go_at_call 50; refine k1.mono ?_; clear k1; rintro e w1 ⟨rfl, m1, rfl⟩)
          all_goals
            go_roundw
            case rel => exact ⟨k + 1, by omega, by go_num, by rw [HD'.out], by rw [HKP.out]; exact HB.out, below_drewN hbl m1, hoff⟩
            case measure => simp [intOf]; omega
    · obtain rfl : k = n := by omega
      have HB : Hid (Ref wr b g c f (prt p L k)) := hB
      clear hB
      go_wp2
      go_ret
      exact ⟨rfl, HB.out, hbl, hoff⟩

theorem no_bits (f : Int) (L : List Bool) : decide (0 < (bv f (lat L) L.length).length) = decide (opL (fun i => lat L i && !lat L i) L.length ≠ L) := by
  by_cases h : opL (fun i => lat L i && !lat L i) L.length = L
  · have : bv f (lat L) L.length = [] := by
      have := bv_gap f (lat L) 0 L.length (Nat.zero_le _) (fun i _ hi => by
        have h2 : lat (opL (fun i => lat L i && !lat L i) L.length) i = lat L i := by rw [h]
        rw [opL_lat _ _ _ hi] at h2
        rw [← h2]; simp)
      rw [this]; rfl
    rw [this, decide_eq_false (show ¬ (opL (fun i => lat L i && !lat L i) L.length ≠ L) from fun q => q h)]; rfl
  · have : 0 < (bv f (lat L) L.length).length := by
      apply Classical.byContradiction
      intro hno
      apply h
      have h0 : bv f (lat L) L.length = [] := List.eq_nil_of_length_eq_zero (by omega)
      refine lat_ext (opL_len _ _) (fun i hi => ?_)
      rw [opL_len] at hi
      rw [opL_lat _ _ _ hi]
      cases e : lat L i
      · rfl
      · have : f + (i : Int) ∈ bv f (lat L) L.length := (mem_bv f (lat L) L.length _).2 ⟨i, hi, e, rfl⟩
        rw [h0] at this; cases this
    rw [decide_eq_true this, decide_eq_true h]

set_option maxRecDepth 100000 in
set_option maxHeartbeats 4000000 in
theorem refminus_self (b g c : Nat) (f : Int) (L : List Bool) (W : World) (hR : Ref W b g c f L) (hz : Rz f L) (n₀ : Nat) (hn₀ : n₀ ≤ b) :
    Calls Tryd.prog 57 #[.pointer (some ⟨b, 0, none⟩), .pointer (some ⟨b, 0, none⟩)] W fun e w' => e = .returned (.bool (decide (opL (fun i => lat L i && !lat L i) L.length ≠ L))) ∧ (∃ g' c', W.heap.size ≤ g' ∧ Ref w' b g' c' f (opL (fun i => lat L i && !lat L i) L.length)) ∧ Below n₀ W w' ∧ (∀ B, B < W.heap.size → B ≠ b → w'.heap[B]? = W.heap[B]?) := by
  have z1 := hz.lo; have z2 := hz.one; have z3 := hz.most; have z4 := hz.hi
  have kh := fun m k (hk : k < L.length) => by have q := refhas_any b g c f (f + (k : Nat)) L (W.drewN m) (hR.drawn m) hz; rw [has_self hk] at q; exact q
  have kv := fun m => refvalues_any b g c f L (W.drewN m) (hR.drawn m) hz
  rw [← no_bits f L]
  have d0 := hR.c0
  have d1 := hR.c1
  have hbl := hR.b_lt
  have hcw : ∀ k, k < L.length → W.cell? ⟨g, k, none⟩ = some (.bool (lat L k)) := fun k hk => (hR.cw k hk).1
  have hbr := hR.1
  obtain ⟨n, hn⟩ : ∃ n, L.length = n := ⟨_, rfl⟩
  rw [hn] at z2 z3 z4 d1 hcw kh
  have HCW : Hid (∀ k, k < n → W.cell? ⟨g, k, none⟩ = some (.bool (lat L k))) := hcw
  have KH : Hid _ := kh
  have KV : Hid _ := kv
  have HN : Hid (L.length = n) := hn
  have HBR : Hid _ := hbr
  have hp1 := neq_ptr_same ⟨b, 0, none⟩
  have hp2 := eql_ptr_same ⟨b, 0, none⟩
  clear hn hR hz hcw kh kv hbr
  go_enter Tryd.func57, Tryd.ntmps57
  go_wp2
  go_loopw [5, 6, 7] (fun a i _ wr => ∃ k m : Nat, k ≤ n ∧ i = .int .i64 k ∧ a = .bool false ∧ wr = W.drewN m) (fun _ i _ _ => n - (intOf i).toNat)
  case atStart => exact ⟨0, 0, Nat.zero_le _, rfl, rfl, rfl⟩
  case round =>
    obtain ⟨k, m, hk, rfl, rfl, rfl⟩ := hrel
    by_cases hlt : k < n
    · have dw := HCW.out k hlt
      have k1 := KH.out m k hlt
      have hlt' : (k : Int) < (n : Int) := by omega
      cases e1 : lat L k
      · rw [e1] at dw
        clear k1 e1
        go_wp2
        all_goals
          go_roundw
          case rel => exact ⟨k + 1, _, by omega, by go_num, rfl, rfl⟩
          case measure => simp [intOf]; omega
      · rw [e1] at dw k1
        clear e1
        go_wp2_with (go_at_call 50; refine k1.mono ?_; clear k1; rintro e w1 ⟨rfl, m1, rfl⟩)
        all_goals
          go_roundw
          case rel => exact ⟨k + 1, _, by omega, by go_num, rfl, rfl⟩
          case measure => simp [intOf]; omega
    · obtain rfl : k = n := by omega
      go_wp2_with fail
      refine (KV.out m).mono ?_
      rintro e w1 ⟨s, rfl, hown, hb1⟩
      obtain ⟨sa, sc, rfl⟩ : ∃ a c, s = .slice a (bv f (lat L) L.length).length c := by
        rcases hown.2 with ⟨e1, e2⟩ | ⟨g', cap', cur, e1, _⟩
        · exact ⟨none, 0, by rw [e1, e2]⟩
        · exact ⟨_, _, e1⟩
      have hcnt := bv_len f (lat L) L.length
      rw [HN.out] at hcnt ⊢
      obtain ⟨q, hq⟩ : ∃ q, (bv f (lat L) k).length = q := ⟨_, rfl⟩
      rw [hq] at hcnt ⊢
      have HQ : Hid ((bv f (lat L) k).length = q) := hq
      have hs1 : W.heap.size ≤ w1.heap.size := hb1.size
      have e0 := (hb1.cell (p := ⟨b, 0, none⟩) hbl).trans d0
      have e1 := (hb1.cell (p := ⟨b, 1, none⟩) hbl).trans d1
      have hrow : w1.heap[b]? = some (.cells #[.int .i64 f, .slice (some ⟨g, 0, none⟩) L.length c] 40 (0, 0)) := (hb1.block b hbl).trans HBR.out
      have fb : w1.frozen? ⟨b, 1, none⟩ = false := by simp [World.frozen?, hrow]
      have HB1 : Hid (Below W.heap.size W w1) := (below_drewN (Below.refl W.heap.size W) m).trans hb1
      have HRW : Hid (w1.heap[b]? = some (.cells #[.int .i64 f, .slice (some ⟨g, 0, none⟩) L.length c] 40 (0, 0))) := hrow
      clear hown hb1 hq hrow
      have hmk := run_make_row' (P := Tryd.prog) 38 4 (.bool false) 1 Tryd.underlying38 Tryd.info4 rfl .i64 .i64 k (by omega) (by omega)
      have hra : (w1.alloc (Obj.cells (madeCells #[Value.bool false] k) 4)).heap[b]? = w1.heap[b]? := Below.heap_alloc w1 _ b (by omega)
      have ea := Lib.cell?_alloc_some (Obj.cells (madeCells #[Value.bool false] k) 4) e1
      have fa : (w1.alloc (Obj.cells (madeCells #[Value.bool false] k) 4)).frozen? ⟨b, 1, none⟩ = false := by
        have := HRW.out; rw [← hra] at this; simp [World.frozen?, this]
      have HRA : Hid ((w1.alloc (Obj.cells (madeCells #[Value.bool false] k) 4)).heap[b]? = w1.heap[b]?) := hra
      clear hra hp1 hp2
      go_wp2
      go_ret
      refine ⟨by rw [HN.out, HQ.out]; rfl, ⟨w1.heap.size, k, hs1, ?_⟩, ?_, fun B hB1 hB2 => ?_⟩
      · rw [HN.out]
        refine ref_of (p := fun i => lat L i && !lat L i) (by omega) ?_ ?_
        · have h9 := row_set (HRA.out.trans HRW.out) 1 (.slice (some ⟨w1.heap.size, 0, none⟩) k k)
          exact h9
        · exact ((World.rowIs_made w1 (.bool false) k 4).setOther (a := ⟨b, 1, none⟩) (by show w1.heap.size ≠ b; omega) _).congr (fun i _ => by simp)
      · exact ((HB1.out.mono (show n₀ ≤ W.heap.size by omega)).alloc (by omega) _).setCell (p := ⟨b, 1, none⟩) hn₀ _
      · exact (Below.heap_setCell _ _ _ B hB2).trans ((Below.heap_alloc w1 _ B (by omega)).trans (HB1.out.block B hB1))

/-- The places with some values put in. -/
def orL (f : Int) (L : List Bool) (vs : List Int) : List Bool := opL (fun i => lat L i || decide (f + (i : Int) ∈ vs)) L.length
theorem orL_len (f : Int) (L : List Bool) (vs : List Int) : (orL f L vs).length = L.length := opL_len _ _
theorem orL_lat (f : Int) (L : List Bool) (vs : List Int) (i : Nat) (hi : i < L.length) : lat (orL f L vs) i = (lat L i || decide (f + (i : Int) ∈ vs)) := opL_lat _ _ _ hi
theorem orL_nil (f : Int) (L : List Bool) : orL f L [] = L := lat_ext (orL_len _ _ _) (fun i hi => by rw [orL_len] at hi; rw [orL_lat _ _ _ _ hi]; simp)
theorem orL_snoc (f : Int) (L : List Bool) (vs : List Int) (v : Int) (n : Nat) (hn : v - f = (n : Int)) (hL : n < L.length) : (orL f L vs).set n true = orL f L (vs ++ [v]) := lat_ext (by rw [List.length_set, orL_len, orL_len]) (fun i hi => by
  rw [List.length_set, orL_len] at hi
  rw [lat_set _ _ _ _ (by rw [orL_len]; exact hL), orL_lat _ _ _ _ hi, orL_lat _ _ _ _ hi]
  by_cases e : n = i
  · subst e
    have : f + (n : Int) ∈ vs ++ [v] := by simp; right; omega
    simp [this]
  · rw [if_neg e]
    have : (f + (i : Int) ∈ vs ++ [v]) ↔ (f + (i : Int) ∈ vs) := by
      simp; omega
    simp [this])
theorem orL_dif (f : Int) (L : List Bool) (vs : List Int) (v : Int) (n : Nat) (hn : v - f = (n : Int)) (hL : n < L.length) : decide (orL f L (vs ++ [v]) ≠ L) = (decide (orL f L vs ≠ L) || (lat (orL f L vs) n != true)) := by
  rw [← orL_snoc f L vs v n hn hL]
  cases e : lat (orL f L vs) n
  · have : (orL f L vs).set n true ≠ L := fun q => by
      have h1 : lat ((orL f L vs).set n true) n = true := by rw [lat_set _ _ _ _ (by rw [orL_len]; exact hL), if_pos rfl]
      rw [q] at h1
      rw [orL_lat _ _ _ _ hL, h1] at e
      simp at e
    rw [decide_eq_true this]; simp
  · have : (orL f L vs).set n true = orL f L vs := lat_ext (List.length_set) (fun i hi => by
      rw [lat_set _ _ _ _ (by rw [orL_len]; exact hL)]
      split
      · rename_i h; subst h; exact e.symm
      · rfl)
    rw [this]; simp

set_option maxRecDepth 100000 in
set_option maxHeartbeats 4000000 in
theorem refor_yes (b g c ob og oc : Nat) (f of : Int) (L oL : List Bool) (W : World) (hR : Ref W b g c f L) (hz : Rz f L) (hO : Ref W ob og oc of oL) (hzo : Rz of oL) (hall : ∀ v ∈ bv of (lat oL) oL.length, f ≤ v ∧ v < f + L.length) (n₀ : Nat) (hn₀ : n₀ ≤ g) :
    Calls Tryd.prog 56 #[.pointer (some ⟨b, 0, none⟩), .pointer (some ⟨ob, 0, none⟩)] W fun e w' => e = .returned (.tuple #[.bool (decide (orL f L (bv of (lat oL) oL.length) ≠ L)), .int .i64 0]) ∧ Ref w' b g c f (orL f L (bv of (lat oL) oL.length)) ∧ Below n₀ W w' ∧ (∀ B, B < W.heap.size → B ≠ g → w'.heap[B]? = W.heap[B]?) := by
  have k1 := refvalues_any ob og oc of oL W hO hzo
  have hcnt := bv_len of (lat oL) oL.length
  have hcn := hzo.most
  have hgl := hR.g_lt; have hbl := hR.b_lt
  obtain ⟨vs, hvs⟩ : ∃ vs, bv of (lat oL) oL.length = vs := ⟨_, rfl⟩
  rw [hvs] at k1 hcnt hall ⊢
  have HALL : Hid (∀ v ∈ vs, f ≤ v ∧ v < f + L.length) := hall
  have HR : Hid (Ref W b g c f L) := hR
  have HZ : Hid (Rz f L) := hz
  clear hvs hall hR hz hO hzo
  go_enter Tryd.func56, Tryd.ntmps56
  go_wp2_with fail
  refine k1.mono ?_
  rintro e w1 ⟨s, rfl, hown, hb1⟩
  obtain ⟨sa, sc, rfl⟩ : ∃ a c, s = .slice a vs.length c := by
    rcases hown.2 with ⟨e1, e2⟩ | ⟨g', cap', cur, e1, _⟩
    · exact ⟨none, 0, by rw [e1, e2]⟩
    · exact ⟨_, _, e1⟩
  have hrow : 0 < vs.length → ∃ gv, sa = some ⟨gv, 0, none⟩ ∧ W.heap.size ≤ gv ∧ ∀ i, i < vs.length → w1.cell? ⟨gv, i, none⟩ = some (.int .i64 (vs[i]?.getD 0)) := fun h0 => by
    obtain ⟨gv, cap, e, hg1, h2, h3⟩ := own_some hown h0
    injection e with e1 _ _
    exact ⟨gv, e1, hg1, fun i hi => h3 i _ (by unfold nums; simp [hi])⟩
  have HROW : Hid (0 < vs.length → ∃ gv, sa = some ⟨gv, 0, none⟩ ∧ W.heap.size ≤ gv ∧ ∀ i, i < vs.length → w1.cell? ⟨gv, i, none⟩ = some (.int .i64 (vs[i]?.getD 0))) := hrow
  have HB1 : Hid (Below W.heap.size W w1) := hb1
  have HR1 : Hid (Ref w1 b g c f L) := HR.out.below hb1 hbl hgl
  obtain ⟨n, hn⟩ : ∃ n, vs.length = n := ⟨_, rfl⟩
  have HN : Hid (vs.length = n) := hn
  rw [hn] at hcnt ⊢
  have hn4 : (n : Int) ≤ 65536 := by omega
  clear hown hrow hb1 hn k1
  go_wp2
  go_loopw [7] (fun i wr => ∃ k m : Nat, k ≤ n ∧ i = .int .i64 k ∧ wr = w1.drewN m) (fun i _ => n - (intOf i).toNat)
  case atStart => exact ⟨0, 0, Nat.zero_le _, rfl, rfl⟩
  case round =>
    obtain ⟨k, m, hk, rfl, rfl⟩ := hrel
    by_cases hlt : k < n
    · obtain ⟨gv, rfl, hgv, hcells⟩ := HROW.out (by rw [HN.out]; omega)
      have dc := hcells k (by rw [HN.out]; exact hlt)
      have hkv : k < vs.length := by rw [HN.out]; exact hlt
      obtain ⟨x, hx⟩ : ∃ x, vs[k]?.getD 0 = x := ⟨_, rfl⟩
      have hfx := HALL.out x (by rw [← hx, List.getElem?_eq_getElem hkv]; exact List.getElem_mem _)
      rw [hx] at dc
      have k2 := reffits_any b g c f x L (w1.drewN m) (HR1.out.drawn m) HZ.out
      rw [fitB_yes hfx] at k2
      have hlt' : (k : Int) < (n : Int) := by omega
      clear hcells hx hfx hkv
      go_wp2_with (go_at_call 53; refine k2.mono ?_; clear k2; rintro e w2 ⟨rfl, m2, rfl⟩)
      go_roundw
      case rel => exact ⟨k + 1, _, by omega, by go_num, rfl⟩
      case measure => simp [intOf]; omega
    · obtain rfl : k = n := by omega
      have h0 : Ref (w1.drewN m) b g c f (orL f L (vs.take 0)) := by rw [List.take_zero, orL_nil]; exact HR1.out
      have hd0 : decide (orL f L (vs.take 0) ≠ L) = false := by rw [List.take_zero, orL_nil]; simp
      have H0 : Hid (Ref (w1.drewN m) b g c f (orL f L (vs.take 0))) := h0
      have HD0 : Hid (decide (orL f L (vs.take 0) ≠ L) = false) := hd0
      clear h0 hd0
      go_wp2
      go_loopw [8, 9] (fun a i wr => ∃ j : Nat, j ≤ k ∧ i = .int .i64 j ∧ a = .bool (decide (orL f L (vs.take j) ≠ L)) ∧ Ref wr b g c f (orL f L (vs.take j)) ∧ Below n₀ w1 wr ∧ (∀ B, B ≠ g → wr.heap[B]? = w1.heap[B]?)) (fun _ i _ => k - (intOf i).toNat)
      case atStart => exact ⟨0, Nat.zero_le _, rfl, by rw [HD0.out], H0.out, below_drewN (Below.refl _ _) m, fun _ _ => rfl⟩
      case round =>
        obtain ⟨j, hj, rfl, rfl, hB, hbw, hoff⟩ := hrel
        by_cases hlt2 : j < k
        · obtain ⟨gv, rfl, hgv, hcells⟩ := HROW.out (by rw [HN.out]; omega)
          have hjv : j < vs.length := by rw [HN.out]; exact hlt2
          have dc : wr.cell? ⟨gv, j, none⟩ = some (.int .i64 (vs[j]?.getD 0)) := by
            rw [← hcells j hjv]
            simp only [World.cell?, hoff gv (by omega)]
          obtain ⟨x, hx⟩ : ∃ x, vs[j]?.getD 0 = x := ⟨_, rfl⟩
          have hfx := HALL.out x (by rw [← hx, List.getElem?_eq_getElem hjv]; exact List.getElem_mem _)
          obtain ⟨q, hq⟩ : ∃ q : Nat, x - f = (q : Int) := ⟨(x - f).toNat, by omega⟩
          have hqL : q < L.length := by omega
          have htk : vs.take (j + 1) = vs.take j ++ [x] := by
            rw [List.take_add_one, List.getElem?_eq_getElem hjv]
            rw [List.getElem?_eq_getElem hjv] at hx
            simp at hx; simp [hx]
          have hrz : Rz f (orL f L (vs.take j)) := ⟨HZ.out.lo, by rw [orL_len]; exact HZ.out.one, by rw [orL_len]; exact HZ.out.most, by rw [orL_len]; exact HZ.out.hi⟩
          have k2 := refput_any b g c q f x true _ wr hB hrz hq (by rw [orL_len]; exact hqL)
          have hset := hB.set q true
          rw [orL_snoc f L (vs.take j) x q hq hqL, ← htk] at hset
          have hdd := orL_dif f L (vs.take j) x q hq hqL
          rw [← htk] at hdd
          have HSET : Hid (Ref (wr.setCell ⟨g, q, none⟩ (.bool true)) b g c f (orL f L (vs.take (j + 1)))) := hset
          rw [hx] at dc
          obtain ⟨t, ht⟩ : ∃ t, decide (orL f L (vs.take j) ≠ L) = t := ⟨_, rfl⟩
          obtain ⟨t2, ht2⟩ : ∃ t2, (lat (orL f L (vs.take j)) q != true) = t2 := ⟨_, rfl⟩
          rw [ht, ht2] at hdd
          rw [ht2] at k2
          rw [ht]
          have HDD : Hid (decide (orL f L (vs.take (j + 1)) ≠ L) = (t || t2)) := hdd
          have hlt2' : (j : Int) < (k : Int) := by omega
          clear hcells hx hfx hjv htk hrz hset hdd ht ht2 hB hq hqL
          cases t2
          · go_wp2_with (go_at_call 54; refine k2.mono ?_; clear k2; rintro e w2 ⟨rfl, m2, rfl⟩)
            go_roundw
            case rel => exact ⟨j + 1, by omega, by go_num, by rw [HDD.out]; simp, HSET.out.drawn m2, below_drewN (hbw.setCell (p := ⟨g, q, none⟩) hn₀ _) m2, fun B hB' => (set_same wr g q m2 _ B hB').trans (hoff B hB')⟩
            case measure => simp [intOf]; omega
          · go_wp2_with (go_at_call 54; refine k2.mono ?_; clear k2; rintro e w2 ⟨rfl, m2, rfl⟩)
            go_roundw
            case rel => exact ⟨j + 1, by omega, by go_num, by rw [HDD.out]; simp, HSET.out.drawn m2, below_drewN (hbw.setCell (p := ⟨g, q, none⟩) hn₀ _) m2, fun B hB' => (set_same wr g q m2 _ B hB').trans (hoff B hB')⟩
            case measure => simp [intOf]; omega
        · obtain rfl : j = k := by omega
          have htk : vs.take j = vs := by rw [← HN.out]; exact List.take_length
          rw [htk] at hB ⊢
          have HB : Hid (Ref wr b g c f (orL f L vs)) := hB
          obtain ⟨t, ht⟩ : ∃ t, decide (orL f L vs ≠ L) = t := ⟨_, rfl⟩
          have HTT : Hid (decide (orL f L vs ≠ L) = t) := ht
          rw [ht]
          clear hB htk ht
          go_wp2
          go_ret2
          exact ⟨by rw [HTT.out]; rfl, HB.out, (HB1.out.mono (show n₀ ≤ W.heap.size by omega)).trans hbw, fun B hB1 hB2 => (hoff B hB2).trans (HB1.out.block B hB1)⟩

set_option maxRecDepth 100000 in
set_option maxHeartbeats 4000000 in
theorem refor_no (b g c ob og oc : Nat) (f of : Int) (L oL : List Bool) (W : World) (hR : Ref W b g c f L) (hz : Rz f L) (hO : Ref W ob og oc of oL) (hzo : Rz of oL) (hno : ¬ ∀ v ∈ bv of (lat oL) oL.length, fitB f L.length v = true) :
    Calls Tryd.prog 56 #[.pointer (some ⟨b, 0, none⟩), .pointer (some ⟨ob, 0, none⟩)] W fun e w' => e = .returned (.tuple #[.bool false, .int .i64 20]) ∧ Below W.heap.size W w' := by
  have k1 := refvalues_any ob og oc of oL W hO hzo
  have hcnt := bv_len of (lat oL) oL.length
  have hcn := hzo.most
  have hgl := hR.g_lt; have hbl := hR.b_lt
  obtain ⟨vs, hvs⟩ : ∃ vs, bv of (lat oL) oL.length = vs := ⟨_, rfl⟩
  rw [hvs] at k1 hcnt hno
  have HNO : Hid (¬ ∀ v ∈ vs, fitB f L.length v = true) := hno
  have HR : Hid (Ref W b g c f L) := hR
  have HZ : Hid (Rz f L) := hz
  clear hvs hno hR hz hO hzo
  go_enter Tryd.func56, Tryd.ntmps56
  go_wp2_with fail
  refine k1.mono ?_
  rintro e w1 ⟨s, rfl, hown, hb1⟩
  obtain ⟨sa, sc, rfl⟩ : ∃ a c, s = .slice a vs.length c := by
    rcases hown.2 with ⟨e1, e2⟩ | ⟨g', cap', cur, e1, _⟩
    · exact ⟨none, 0, by rw [e1, e2]⟩
    · exact ⟨_, _, e1⟩
  have hrow : 0 < vs.length → ∃ gv, sa = some ⟨gv, 0, none⟩ ∧ W.heap.size ≤ gv ∧ ∀ i, i < vs.length → w1.cell? ⟨gv, i, none⟩ = some (.int .i64 (vs[i]?.getD 0)) := fun h0 => by
    obtain ⟨gv, cap, e, hg1, h2, h3⟩ := own_some hown h0
    injection e with e1 _ _
    exact ⟨gv, e1, hg1, fun i hi => h3 i _ (by unfold nums; simp [hi])⟩
  have HROW : Hid (0 < vs.length → ∃ gv, sa = some ⟨gv, 0, none⟩ ∧ W.heap.size ≤ gv ∧ ∀ i, i < vs.length → w1.cell? ⟨gv, i, none⟩ = some (.int .i64 (vs[i]?.getD 0))) := hrow
  have HB1 : Hid (Below W.heap.size W w1) := hb1
  have HR1 : Hid (Ref w1 b g c f L) := HR.out.below hb1 hbl hgl
  obtain ⟨n, hn⟩ : ∃ n, vs.length = n := ⟨_, rfl⟩
  have HN : Hid (vs.length = n) := hn
  rw [hn] at hcnt ⊢
  have hn4 : (n : Int) ≤ 65536 := by omega
  clear hown hrow hb1 hn k1
  go_wp2
  go_loopw [7] (fun i wr => ∃ k m : Nat, k ≤ n ∧ i = .int .i64 k ∧ wr = w1.drewN m ∧ ∀ j, j < k → fitB f L.length (vs[j]?.getD 0) = true) (fun i _ => n - (intOf i).toNat)
  case atStart => exact ⟨0, 0, Nat.zero_le _, rfl, rfl, fun j hj => absurd hj (Nat.not_lt_zero _)⟩
  case round =>
    obtain ⟨k, m, hk, rfl, rfl, hbef⟩ := hrel
    have HBEF : Hid (∀ j, j < k → fitB f L.length (vs[j]?.getD 0) = true) := hbef
    clear hbef
    by_cases hlt : k < n
    · obtain ⟨gv, rfl, hgv, hcells⟩ := HROW.out (by rw [HN.out]; omega)
      have dc := hcells k (by rw [HN.out]; exact hlt)
      obtain ⟨x, hx⟩ : ∃ x, vs[k]?.getD 0 = x := ⟨_, rfl⟩
      have HX : Hid (vs[k]?.getD 0 = x) := hx
      rw [hx] at dc
      have k2 := reffits_any b g c f x L (w1.drewN m) (HR1.out.drawn m) HZ.out
      have hlt' : (k : Int) < (n : Int) := by omega
      obtain ⟨t, ht⟩ : ∃ t, fitB f L.length x = t := ⟨_, rfl⟩
      have HTT : Hid (fitB f L.length x = t) := ht
      rw [ht] at k2
      clear hcells hx ht
      cases t
      · go_wp2_with (go_at_call 53; refine k2.mono ?_; clear k2; rintro e w2 ⟨rfl, m2, rfl⟩)
        go_ret2
        exact ⟨rfl, below_drewN HB1.out _⟩
      · go_wp2_with (go_at_call 53; refine k2.mono ?_; clear k2; rintro e w2 ⟨rfl, m2, rfl⟩)
        go_roundw
        case rel =>
          refine ⟨k + 1, _, by omega, by go_num, rfl, fun j hj => ?_⟩
          by_cases e : j = k
          · subst e; rw [HX.out]; exact HTT.out
          · exact HBEF.out j (by omega)
        case measure => simp [intOf]; omega
    · exfalso
      apply HNO.out
      intro v hv
      obtain ⟨i, hi, rfl⟩ := List.mem_iff_getElem.1 hv
      have := HBEF.out i (by rw [HN.out] at hi; omega)
      rw [List.getElem?_eq_getElem hi] at this
      exact this

theorem up_sub : ∀ {a b : List Int}, a.Pairwise (· < ·) → b.Pairwise (· < ·) → (∀ v, v ∈ a → v ∈ b) → a.length ≤ b.length ∧ (a.length = b.length → a = b)
  | [], b, _, _, _ => ⟨Nat.zero_le _, fun h => by cases b with | nil => rfl | cons => simp at h⟩
  | x :: a, [], _, _, h => absurd (h x (by simp)) (by simp)
  | x :: a, y :: b, ha, hb, h => by
    rw [List.pairwise_cons] at ha hb
    by_cases e : x = y
    · subst e
      have hs : ∀ v, v ∈ a → v ∈ b := fun v hv => by
        have h1 := ha.1 v hv
        have h2 := h v (by simp [hv])
        rcases List.mem_cons.1 h2 with rfl | h3
        · omega
        · exact h3
      obtain ⟨i1, i2⟩ := up_sub ha.2 hb.2 hs
      exact ⟨by simp; exact i1, fun hl => by rw [i2 (by simpa using hl)]⟩
    · have hx : x ∈ b := by
        rcases List.mem_cons.1 (h x (by simp)) with h1 | h1
        · exact absurd h1 e
        · exact h1
      have hxy := hb.1 x hx
      have hs : ∀ v, v ∈ x :: a → v ∈ b := fun v hv => by
        have h2 := h v hv
        rcases List.mem_cons.1 h2 with rfl | h3
        · rcases List.mem_cons.1 hv with h4 | h4
          · exact absurd h4.symm e
          · have := ha.1 v h4; omega
        · exact h3
      obtain ⟨i1, _⟩ := up_sub (List.pairwise_cons.2 ha) hb.2 hs
      simp at i1
      exact ⟨by simp; omega, fun hl => by simp at hl; omega⟩

theorem same_iff {f room of oroom : Int} {ws ows : List Nat} (hz : Sz f room ws) (hc : Cl room ws) (hzo : Sz of oroom ows) (hco : Cl oroom ows) :
    bvs f room ws = bvs of oroom ows ↔ (bvs f room ws).length = (bvs of oroom ows).length ∧ ∀ k, k < ws.length → wat ws k = frm ows (f + (k : Int) * 64 - of) := by
  have hm : ∀ v, v ∈ bvs f room ws ↔ bt ws (v - f) = true := fun v => by rw [mem_bvs hz hc, hasB_eq hc]
  have hmo : ∀ v, v ∈ bvs of oroom ows ↔ bt ows (v - of) = true := fun v => by rw [mem_bvs hzo hco, hasB_eq hco]
  constructor
  · intro h
    refine ⟨by rw [h], fun k hk => ?_⟩
    refine Nat.eq_of_testBit_eq fun j => ?_
    by_cases hj : j < 64
    · rw [frm_bit hzo.word _ j hj, ← pb_at ws k j hj]
      unfold pb
      have h1 := hm (f + (64 * k + j : Nat))
      have h2 := hmo (f + (64 * k + j : Nat))
      rw [h] at h1
      have h3 := h1.symm.trans h2
      rw [show f + ((64 * k + j : Nat) : Int) - f = ((64 * k + j : Nat) : Int) by omega, show f + ((64 * k + j : Nat) : Int) - of = f + (k : Int) * 64 - of + (j : Int) by omega] at h3
      exact Bool.eq_iff_iff.2 h3
    · have hp : 2 ^ 64 ≤ 2 ^ j := Nat.pow_le_pow_right (by decide) (by omega)
      rw [Nat.testBit_lt_two_pow (Nat.lt_of_lt_of_le (show wat ws k < 2 ^ 64 from hz.word k) hp), Nat.testBit_lt_two_pow (Nat.lt_of_lt_of_le (frm_lt hzo.word _) hp)]
  · rintro ⟨hl, hw⟩
    refine (up_sub (bv_up _ _ _) (bv_up _ _ _) (fun v hv => ?_)).2 hl
    have h1 := (hm v).1 hv
    have h2 := (mem_bvs hz hc v).1 hv
    obtain ⟨h3, h4⟩ := has_fits h2
    have hzl := hz.len
    obtain ⟨i, hi⟩ : ∃ i : Nat, v - f = (i : Int) := ⟨(v - f).toNat, by omega⟩
    rw [hi] at h1
    have e : i = 64 * (i / 64) + i % 64 := by omega
    have h5 : pb ws i = true := h1
    rw [e, pb_at ws _ _ (by omega), hw (i / 64) (by omega), frm_bit hzo.word _ _ (by omega)] at h5
    refine (hmo v).2 ?_
    rw [← h5]
    congr 1
    omega

set_option maxRecDepth 100000 in
set_option maxHeartbeats 2000000 in
theorem same_two (b g c : Nat) (f room : Int) (ws : List Nat) (ob og oc : Nat) (of oroom : Int) (ows : List Nat) (W : World) (h : Bits W b g c f room ws) (hz : Sz f room ws) (hc : Cl room ws) (hO : Bits W ob og oc of oroom ows) (hzo : Sz of oroom ows) (hco : Cl oroom ows) :
    Calls Tryd.prog 21 #[.pointer (some ⟨b, 0, none⟩), .pointer (some ⟨ob, 0, none⟩)] W fun e w' => e = .returned (.bool (decide (bvs f room ws = bvs of oroom ows))) ∧ ∃ m, w' = W.drewN m := by
  have k1 := size_any b g c f room ws W h hz
  have k2 := size_any ob og oc of oroom ows W hO hzo
  rw [size_bvs hz hc] at k1
  rw [size_bvs hzo hco] at k2
  have hiff := same_iff hz hc hzo hco
  have z1 := hz.lo; have z2 := hz.one; have z3 := hz.most; have z4 := hz.hi; have zl := hz.len
  have k3 := fun (m k : Nat) (hk : k < ws.length) => from_any ob og oc of oroom (f + (k : Int) * 64) ows (W.drewN m) (hO.drawn m) hzo (by omega) (by omega)
  have c0 := h.c0; have c2 := h.c2
  have hcw : ∀ k, k < ws.length → W.cell? ⟨g, k, none⟩ = some (.int .u64 (wat ws k : Nat)) := fun k hk => (h.cw k hk).1
  obtain ⟨la, hla⟩ : ∃ la, (bvs f room ws).length = la := ⟨_, rfl⟩
  obtain ⟨lb, hlb⟩ : ∃ lb, (bvs of oroom ows).length = lb := ⟨_, rfl⟩
  rw [hla, hlb] at hiff
  rw [hla] at k1
  rw [hlb] at k2
  have HIFF : Hid _ := hiff
  have K3 : Hid _ := k3
  have HCW : Hid _ := hcw
  obtain ⟨n, hn⟩ : ∃ n, ws.length = n := ⟨_, rfl⟩
  have HN : Hid (ws.length = n) := hn
  rw [hn] at c2 zl
  have hn2 : (n : Int) ≤ 1024 := by omega
  clear hla hlb hiff k3 hcw hn h hz hc hO hzo hco zl
  by_cases hl : la = lb
  · subst hl
    go_enter Tryd.func21, Tryd.ntmps21
    go_wp2_with fail
    refine k1.mono ?_
    rintro e W ⟨rfl, rfl⟩
    go_wp2_with fail
    refine k2.mono ?_
    rintro e W ⟨rfl, rfl⟩
    clear k1 k2
    go_wp2
    go_loopw [5, 6, 25] (fun _ _ i wr => ∃ k m : Nat, k ≤ n ∧ i = .int .i64 k ∧ wr = W.drewN m ∧ ∀ j, j < k → wat ws j = frm ows (f + (j : Int) * 64 - of)) (fun _ _ i _ => n - (intOf i).toNat)
    case atStart => exact ⟨0, 0, Nat.zero_le _, rfl, rfl, fun j hj => absurd hj (Nat.not_lt_zero _)⟩
    case round =>
      obtain ⟨k, m, hk, rfl, rfl, hbef⟩ := hrel
      have HBEF : Hid (∀ j, j < k → wat ws j = frm ows (f + (j : Int) * 64 - of)) := hbef
      clear hbef
      by_cases hlt : k < n
      · have hkw : k < ws.length := by rw [HN.out]; exact hlt
        have dc := HCW.out k hkw
        have k4 := K3.out m k hkw
        obtain ⟨x, hx⟩ : ∃ x, wat ws k = x := ⟨_, rfl⟩
        obtain ⟨y, hy⟩ : ∃ y, frm ows (f + (k : Int) * 64 - of) = y := ⟨_, rfl⟩
        have HX : Hid (wat ws k = x) := hx
        have HY : Hid (frm ows (f + (k : Int) * 64 - of) = y) := hy
        rw [hx] at dc
        rw [hy] at k4
        have hlt' : (k : Int) < (n : Int) := by omega
        have hkb : (k : Int) * 64 < 65537 := by omega
        clear hx hy
        by_cases hxy : x = y
        · have hd : ((x : Int) == (y : Int)) = true := by simp [hxy]
          have hd2 : ((x : Int) != (y : Int)) = false := by simp [hxy]
          have HXY : Hid (x = y) := hxy
          clear hxy
          go_wp2_with (go_at_call 58; refine k4.mono ?_; clear k4; rintro e w1 ⟨rfl, m1, rfl⟩)
          go_roundw
          case rel =>
            refine ⟨k + 1, _, by omega, by go_num, rfl, fun j hj => ?_⟩
            by_cases e : j = k
            · subst e; rw [HX.out, HY.out, HXY.out]
            · exact HBEF.out j (by omega)
          case measure => simp [intOf]; omega
        · have hd : ((x : Int) == (y : Int)) = false := by simp; omega
          have hd2 : ((x : Int) != (y : Int)) = true := by simp; omega
          have HXY : Hid (¬ x = y) := hxy
          clear hxy
          go_wp2_with (go_at_call 58; refine k4.mono ?_; clear k4; rintro e w1 ⟨rfl, m1, rfl⟩)
          go_ret
          refine ⟨?_, _, rfl⟩
          exact congrArg (fun t => Ending.returned (.bool t)) (decide_eq_false (fun q => HXY.out (by have := (HIFF.out.1 q).2 k hkw; rw [HX.out, HY.out] at this; exact this))).symm
      · obtain rfl : k = n := by omega
        go_wp2
        go_ret
        refine ⟨?_, _, rfl⟩
        exact congrArg (fun t => Ending.returned (.bool t)) (decide_eq_true (HIFF.out.2 ⟨by first | rfl | trivial, fun j hj => HBEF.out j (by rw [HN.out] at hj; exact hj)⟩)).symm
  · have hd : ((la : Int) == (lb : Int)) = false := by simp; omega
    have hd2 : ((la : Int) != (lb : Int)) = true := by simp; omega
    have HL : Hid (¬ la = lb) := hl
    clear hl
    go_enter Tryd.func21, Tryd.ntmps21
    go_wp2_with fail
    refine k1.mono ?_
    rintro e W ⟨rfl, rfl⟩
    go_wp2_with fail
    refine k2.mono ?_
    rintro e W ⟨rfl, rfl⟩
    clear k1 k2
    go_wp2
    go_ret
    refine ⟨?_, 0, rfl⟩
    exact congrArg (fun t => Ending.returned (.bool t)) (decide_eq_false (fun q => HL.out (HIFF.out.1 q).1)).symm

/-- The slice with the address a has the numbers vs. -/
def Row (X : World) (a : Option Addr) (vs : List Int) : Prop := 0 < vs.length → ∃ gv, a = some ⟨gv, 0, none⟩ ∧ ∀ i, i < vs.length → X.cell? ⟨gv, i, none⟩ = some (.int .i64 (vs[i]?.getD 0))
theorem list_eq {a b : List Int} (hl : a.length = b.length) (h : ∀ i, i < a.length → a[i]?.getD 0 = b[i]?.getD 0) : a = b := by
  apply List.ext_getElem?
  intro i
  by_cases hi : i < a.length
  · have := h i hi
    rw [List.getElem?_eq_getElem hi, List.getElem?_eq_getElem (by omega)] at this ⊢
    simpa using this
  · rw [List.getElem?_eq_none (by omega), List.getElem?_eq_none (by omega)]
set_option maxRecDepth 100000 in
set_option maxHeartbeats 2000000 in
theorem isame_any (a1 a2 : Option Addr) (c1 c2 : Nat) (v1 v2 : List Int) (W : World) (h1 : Row W a1 v1) (h2 : Row W a2 v2) (hm1 : v1.length ≤ 65536) (hm2 : v2.length ≤ 65536) :
    Calls Tryd.prog 22 #[.slice a1 v1.length c1, .slice a2 v2.length c2] W fun e w' => e = .returned (.bool (decide (v1 = v2))) ∧ ∃ m, w' = W.drewN m := by
  have H1 : Hid (Row W a1 v1) := h1
  have H2 : Hid (Row W a2 v2) := h2
  obtain ⟨la, hla⟩ : ∃ la, v1.length = la := ⟨_, rfl⟩
  obtain ⟨lb, hlb⟩ : ∃ lb, v2.length = lb := ⟨_, rfl⟩
  have HA : Hid (v1.length = la) := hla
  have HB : Hid (v2.length = lb) := hlb
  rw [hla] at hm1 ⊢
  rw [hlb] at hm2 ⊢
  clear h1 h2 hla hlb
  by_cases hl : la = lb
  · subst hl
    go_enter Tryd.func22, Tryd.ntmps22
    go_wp2
    go_loopw [5] (fun i wr => ∃ k m : Nat, k ≤ la ∧ i = .int .i64 k ∧ wr = W.drewN m ∧ ∀ j, j < k → v1[j]?.getD 0 = v2[j]?.getD 0) (fun i _ => la - (intOf i).toNat)
    case atStart => exact ⟨0, 0, Nat.zero_le _, rfl, rfl, fun j hj => absurd hj (Nat.not_lt_zero _)⟩
    case round =>
      obtain ⟨k, m, hk, rfl, rfl, hbef⟩ := hrel
      have HBEF : Hid (∀ j, j < k → v1[j]?.getD 0 = v2[j]?.getD 0) := hbef
      clear hbef
      by_cases hlt : k < la
      · obtain ⟨g1, rfl, hc1⟩ := H1.out (by rw [HA.out]; omega)
        obtain ⟨g2, rfl, hc2⟩ := H2.out (by rw [HB.out]; omega)
        have d1 := hc1 k (by rw [HA.out]; exact hlt)
        have d2 := hc2 k (by rw [HB.out]; exact hlt)
        obtain ⟨x, hx⟩ : ∃ x, v1[k]?.getD 0 = x := ⟨_, rfl⟩
        obtain ⟨y, hy⟩ : ∃ y, v2[k]?.getD 0 = y := ⟨_, rfl⟩
        have HX : Hid (v1[k]?.getD 0 = x) := hx
        have HY : Hid (v2[k]?.getD 0 = y) := hy
        rw [hx] at d1
        rw [hy] at d2
        have hlt' : (k : Int) < (la : Int) := by omega
        clear hc1 hc2 hx hy
        by_cases hxy : x = y
        · subst hxy
          go_wp2
          go_quiet (fail)
          go_wp2
          go_roundw
          case rel =>
            refine ⟨k + 1, _, by omega, by go_num, rfl, fun j hj => ?_⟩
            by_cases e : j = k
            · subst e; rw [HX.out, HY.out]
            · exact HBEF.out j (by omega)
          case measure => simp [intOf]; omega
        · have hd : (x == y) = false := by simpa using hxy
          have hd2 : (x != y) = true := by simpa using hxy
          have HXY : Hid (¬ x = y) := hxy
          clear hxy
          go_wp2
          go_quiet (fail)
          go_wp2
          go_ret
          refine ⟨?_, m + nq, by rw [World.drewN_drewN]⟩
          exact congrArg (fun t => Ending.returned (.bool t)) (decide_eq_false (fun q => HXY.out (by rw [← HX.out, ← HY.out, q]))).symm
      · obtain rfl : k = la := by omega
        go_wp2
        go_ret
        refine ⟨?_, _, rfl⟩
        exact congrArg (fun t => Ending.returned (.bool t)) (decide_eq_true (list_eq (by rw [HA.out, HB.out]) (fun i hi => HBEF.out i (by rw [HA.out] at hi; exact hi)))).symm
  · have hd : ((la : Int) == (lb : Int)) = false := by simp; omega
    have hd2 : ((la : Int) != (lb : Int)) = true := by simp; omega
    have HL : Hid (¬ la = lb) := hl
    clear hl
    go_enter Tryd.func22, Tryd.ntmps22
    go_wp2
    go_ret
    refine ⟨?_, 0, rfl⟩
    exact congrArg (fun t => Ending.returned (.bool t)) (decide_eq_false (fun q => HL.out (by rw [← HA.out, ← HB.out, q]))).symm
end Go.Proofs.YtgcgomofmicchaaDoor
