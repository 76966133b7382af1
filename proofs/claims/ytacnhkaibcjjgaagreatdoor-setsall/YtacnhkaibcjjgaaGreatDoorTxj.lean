/-
  What is proved here: plain mathematics of sets as text: digits, numbers, parts between commas, and that they are read again.
  What is proved here: what sets.Text writes of any list.
-/
import Derived.Test.YtacnhkaibcjjgaaGreatDoorSa
import Derived.Lib.ItoaLen
import Derived.Lib.ParseIntBTie
import Derived.Lib.SplitLaws
import Derived.Lib.SlTrimSet
import Derived.Test.YtacnhkaibcjjgaaGreatDoorSd
import Derived.Lib.AppendStr
import Derived.Lib.AppendIntMem
import Derived.Lib.SmallJoins
import Derived.Laws.IdiomStrings
namespace Go.Proofs.YtacnhkaibcjjgaaGreatDoor
set_option linter.unusedVariables false
set_option linter.unusedSimpArgs false

/-- A byte that is a digit. -/
def Dig (b : UInt8) : Prop := 48 ≤ b.toNat ∧ b.toNat ≤ 57
instance (b : UInt8) : Decidable (Dig b) := by unfold Dig; infer_instance

theorem digit_byte {d : Nat} (h : d < 10) : (UInt8.ofNat (48 + d)).toNat = 48 + d := by
  rw [UInt8.toNat_ofNat']; omega
theorem dec_digit (u : Nat) : ∀ b ∈ Lib.decDigits u, Dig b := by
  induction u using Nat.strongRecOn with
  | _ u ih =>
    intro b hb
    rw [Lib.decDigits] at hb
    split at hb
    · rename_i h
      simp only [List.mem_singleton] at hb
      subst hb; unfold Dig; rw [digit_byte h]; omega
    · rename_i h
      rw [List.mem_append] at hb
      rcases hb with hb | hb
      · exact ih (u / 10) (by omega) b hb
      · simp only [List.mem_singleton] at hb
        subst hb; unfold Dig; rw [digit_byte (Nat.mod_lt _ (by omega))]; omega
theorem dec_ne (u : Nat) : Lib.decDigits u ≠ [] := by
  intro h
  have := congrArg List.length h
  rw [Lib.decDigits_length] at this
  have := Lib.nDigits_pos u
  simp at *; omega

/-- The number that digits spell. -/
def numV : List UInt8 → Nat → Nat
  | [], acc => acc
  | b :: r, acc => numV r (acc * 10 + (b.toNat - 48))
theorem numV_app (l r : List UInt8) (acc : Nat) : numV (l ++ r) acc = numV r (numV l acc) := by
  induction l generalizing acc with
  | nil => rfl
  | cons b l ih => exact ih _
theorem numV_dec (u : Nat) : numV (Lib.decDigits u) 0 = u := by
  induction u using Nat.strongRecOn with
  | _ u ih =>
    rw [Lib.decDigits]
    split
    · rename_i h
      simp only [numV, digit_byte h]; omega
    · rename_i h
      rw [numV_app, ih (u / 10) (by omega)]
      simp only [numV, digit_byte (Nat.mod_lt u (show 10 > 0 by omega))]; omega
theorem numV_ge (l : List UInt8) (acc : Nat) : acc ≤ numV l acc := by
  induction l generalizing acc with
  | nil => exact Nat.le_refl _
  | cons b r ih => exact Nat.le_trans (by omega) (ih _)
theorem pu_digits (l : List UInt8) (acc : Nat) (h : ∀ b ∈ l, Dig b) (hs : numV l acc ≤ 1000000000) : Lib.parseUint10 acc l = .ok (numV l acc) := by
  induction l generalizing acc with
  | nil => rfl
  | cons b r ih =>
    have hb := h b (by simp)
    unfold Dig at hb
    have hge := numV_ge r (acc * 10 + (b.toNat - 48))
    simp only [numV] at hs ⊢
    rw [Lib.parseUint10, if_pos hb, if_neg (by omega), if_neg (by omega)]
    exact ih _ (fun c hc => h c (by simp [hc])) hs
theorem pm_dec (u : Nat) (hu : u ≤ 1000000000) : Lib.parseMag (Lib.decDigits u) = .ok u := by
  unfold Lib.parseMag
  rw [if_neg (dec_ne u), pu_digits _ _ (dec_digit u) (by rw [numV_dec]; exact hu), numV_dec]
/-- A number that is written is read as it was. -/
theorem atoi_itoa (x : Int) (h0 : -1000000 ≤ x) (h1 : x ≤ 1000000) : Lib.parseIntB 64 (Lib.itoa x) = .ok x := by
  rw [Lib.parseIntB_64]
  unfold Lib.itoa
  split
  · rename_i hx
    simp only [Lib.atoiAll]
    rw [if_pos (by decide), pm_dec _ (by omega)]
    simp only [show ((45 : UInt8).toNat = 45) = True by simp, not_true_eq_false, false_and, if_false, true_and, if_true]
    rw [if_neg (by omega)]
    congr 1; omega
  · rename_i hx
    obtain ⟨b, r, hbr⟩ : ∃ b r, Lib.decDigits x.toNat = b :: r := by
      cases h : Lib.decDigits x.toNat with
      | nil => exact absurd h (dec_ne _)
      | cons b r => exact ⟨b, r, rfl⟩
    have hd : Dig b := dec_digit x.toNat b (by rw [hbr]; simp)
    unfold Dig at hd
    have hp := pm_dec x.toNat (by omega)
    rw [hbr] at hp ⊢
    simp only [Lib.atoiAll]
    rw [if_neg (by omega), hp]
    simp only
    rw [if_neg (by omega), if_neg (by omega), if_neg (by omega)]
    congr 1; omega

theorem itoa_signs (x : Int) : ∀ b ∈ Lib.itoa x, b = 45 ∨ Dig b := by
  intro b hb
  unfold Lib.itoa at hb
  split at hb
  · rw [List.mem_cons] at hb
    rcases hb with hb | hb
    · exact Or.inl hb
    · exact Or.inr (dec_digit _ b hb)
  · exact Or.inr (dec_digit _ b hb)
theorem itoa_no (x : Int) (c : UInt8) (h : c.toNat = 44 ∨ c.toNat = 46 ∨ c.toNat = 123 ∨ c.toNat = 125) : c ∉ Lib.itoa x := by
  intro hc
  rcases itoa_signs x c hc with rfl | hd
  · revert h; decide
  · unfold Dig at hd; omega

/-! ### The first place of a sign -/

theorem index_cons (b : UInt8) (l sub : List UInt8) : Lib.index (b :: l) sub = if sub.isPrefixOf (b :: l) then 0 else if Lib.index l sub == -1 then -1 else Lib.index l sub + 1 := by rw [Lib.index]
theorem index_no (l : List UInt8) (c : UInt8) (t : List UInt8) (h : c ∉ l) : Lib.index l (c :: t) = -1 := by
  induction l with
  | nil => rfl
  | cons b l ih =>
    have hb : c ≠ b := fun e => h (by simp [e])
    rw [index_cons, ih (fun e => h (by simp [e]))]
    simp [List.isPrefixOf, hb]
theorem index_at (l : List UInt8) (c : UInt8) (t r : List UInt8) (h : c ∉ l) : Lib.index (l ++ (c :: t ++ r)) (c :: t) = (l.length : Int) := by
  induction l with
  | nil =>
    have : (c :: t).isPrefixOf (c :: t ++ r) = true := List.isPrefixOf_iff_prefix.2 (List.prefix_append _ _)
    rw [List.nil_append, List.cons_append] at *
    rw [index_cons, if_pos this]; rfl
  | cons b l ih =>
    have hb : c ≠ b := fun e => h (by simp [e])
    rw [List.cons_append, index_cons, ih (fun e => h (by simp [e]))]
    have h1 : ((l.length : Int) == -1) = false := by rw [beq_eq_false_iff_ne]; omega
    simp [List.isPrefixOf, hb, h1]

/-! ### Parts between commas -/

def joinT : List (List UInt8) → List UInt8
  | [] => []
  | [p] => p
  | p :: q :: r => p ++ 44 :: joinT (q :: r)
theorem joinT_cons (p : List UInt8) (ps : List (List UInt8)) (h : ps ≠ []) : joinT (p :: ps) = p ++ 44 :: joinT ps := by
  cases ps with
  | nil => exact absurd rfl h
  | cons q r => rfl
theorem joinT_snoc (ps : List (List UInt8)) (p : List UInt8) : joinT (ps ++ [p]) = joinT ps ++ (if ps = [] then [] else [44]) ++ p := by
  induction ps with
  | nil => simp [joinT]
  | cons q r ih =>
    cases r with
    | nil => simp [joinT]
    | cons s t =>
      rw [List.cons_append, joinT_cons _ _ (by simp), ih, joinT_cons q (s :: t) (by simp)]
      simp
theorem count_none (l : List UInt8) (h : (44 : UInt8) ∉ l) : Lib.count l [44] = 0 := by
  rw [Lib.count_one]; exact List.count_eq_zero.2 h
theorem split_join (ps : List (List UInt8)) (h0 : ps ≠ []) (h : ∀ p ∈ ps, (44 : UInt8) ∉ p) : Lib.split (joinT ps) [44] = ps := by
  unfold Lib.split
  induction ps with
  | nil => exact absurd rfl h0
  | cons p r ih =>
    cases r with
    | nil =>
      rw [show joinT [p] = p from rfl, count_none p (h p (by simp))]; rfl
    | cons q t =>
      have hp := h p (by simp)
      have hc : Lib.count (joinT (p :: q :: t)) [44] = Lib.count (joinT (q :: t)) [44] + 1 := by
        rw [Lib.count_one, Lib.count_one, joinT_cons p (q :: t) (by simp), List.count_append, List.count_cons_self, List.count_eq_zero.2 hp]; omega
      have hi := index_at p 44 [] (joinT (q :: t)) hp
      rw [hc, Lib.splitK]
      have e : joinT (p :: q :: t) = p ++ ([44] ++ joinT (q :: t)) := by rw [joinT_cons p (q :: t) (by simp)]; rfl
      rw [e]
      have hi' : Lib.index (p ++ ([44] ++ joinT (q :: t))) [44] = (p.length : Int) := hi
      rw [hi', if_neg (by simp)]
      have ih' := ih (by simp) (fun p' hp' => h p' (by simp [hp']))
      have e2 : List.drop (p.length + 1) (p ++ ([44] ++ joinT (q :: t))) = joinT (q :: t) := by rw [← List.drop_drop, List.drop_left]; rfl
      have e1 : List.take p.length (p ++ ([44] ++ joinT (q :: t))) = p := List.take_left
      simp only [Int.toNat_natCast, Nat.add_zero, List.length_singleton]
      rw [e1, e2, ih']


/-! ### Sets as text -/

def txS (l : List Int) : Nat → List UInt8
  | 0 => [123]
  | k + 1 => txS l k ++ (if 0 < k then [44] else []) ++ Lib.itoa (nth l k)
/-- A set as text. -/
def stx (l : List Int) : List UInt8 := txS l l.length ++ [125]
def sparts (l : List Int) : List (List UInt8) := l.map Lib.itoa
theorem txS_join (l : List Int) (k : Nat) (h : k ≤ l.length) : txS l k = 123 :: joinT (sparts (l.take k)) := by
  induction k with
  | zero => rfl
  | succ k ih =>
    have hk : k < l.length := h
    rw [txS, ih (by omega), List.take_succ_eq_append_getElem hk]
    unfold sparts
    rw [List.map_append, List.map_singleton, joinT_snoc]
    have e : (List.map Lib.itoa (l.take k) = []) ↔ ¬ 0 < k := by
      rw [List.map_eq_nil_iff, List.take_eq_nil_iff]
      constructor
      · rintro (h | h)
        · omega
        · subst h; simp at hk
      · intro h; left; omega
    by_cases h0 : 0 < k
    · rw [if_pos h0, if_neg (fun h => e.1 h h0)]
      simp [nth, hk]
    · rw [if_neg h0, if_pos (e.2 h0)]
      simp [nth, hk]
theorem stx_is (l : List Int) : stx l = 123 :: (joinT (sparts l) ++ [125]) := by unfold stx; rw [txS_join l _ (Nat.le_refl _), List.take_length]; rfl
theorem joinT_mem (ps : List (List UInt8)) (c : UInt8) (h : ∀ p ∈ ps, c ∉ p) (h44 : c ≠ 44) : c ∉ joinT ps := by
  induction ps with
  | nil => simp [joinT]
  | cons p r ih =>
    cases r with
    | nil => exact h p (by simp)
    | cons q t =>
      rw [joinT_cons p (q :: t) (by simp), List.mem_append, List.mem_cons]
      rintro (h1 | h1 | h1)
      · exact h p (by simp) h1
      · exact h44 h1
      · exact ih (fun p' hp' => h p' (by simp [hp'])) h1
theorem sparts_no (l : List Int) (c : UInt8) (h : c.toNat = 123 ∨ c.toNat = 125) : c ∉ joinT (sparts l) := by
  refine joinT_mem _ c (fun p hp => ?_) (fun e => by subst e; revert h; decide)
  unfold sparts at hp
  obtain ⟨x, _, rfl⟩ := List.mem_map.1 hp
  exact itoa_no x c (by omega)
theorem itoa_ne (x : Int) : Lib.itoa x ≠ [] := by
  unfold Lib.itoa
  split
  · simp
  · exact dec_ne _
theorem joinT_ne (l : List Int) (h : 0 < l.length) : joinT (sparts l) ≠ [] := by
  cases l with
  | nil => simp at h
  | cons x r =>
    cases r with
    | nil => exact itoa_ne x
    | cons y t =>
      show joinT (Lib.itoa x :: sparts (y :: t)) ≠ []
      rw [joinT_cons _ _ (by simp [sparts])]
      intro e
      have := congrArg List.length e
      simp at this
/-- What stands between the braces. -/
theorem trim_stx (l : List Int) (h : 0 < l.length) : Lib.trimS (stx l) [123, 125] = joinT (sparts l) := by
  rw [stx_is]
  have h1 := sparts_no l 123 (.inl rfl)
  have h2 := sparts_no l 125 (.inr rfl)
  have hne := joinT_ne l h
  obtain ⟨m, hm⟩ : ∃ m, joinT (sparts l) = m := ⟨_, rfl⟩
  rw [hm] at h1 h2 hne ⊢
  have hc : ∀ b ∈ m, ([123, 125] : List UInt8).contains b = false := by
    intro b hb
    simp only [List.contains_cons, List.contains_nil, Bool.or_false, Bool.or_eq_false_iff, beq_eq_false_iff_ne]
    exact ⟨fun e => h1 (e ▸ hb), fun e => h2 (e ▸ hb)⟩
  have hlen : 0 < m.length := List.length_pos_iff.2 hne
  unfold Lib.trimS
  have e1 : Lib.trimRightS (123 :: (m ++ [125])) [123, 125] = 123 :: m := by
    rw [Lib.trimRightS_take _ _ (m.length + 1) (by simp) (fun j b hj hb => ?_) (fun b _ hb => ?_)]
    · simp
    · have hj' : j = m.length + 1 := by
        have := (List.getElem?_eq_some_iff.1 hb).1
        simp at this; omega
      subst hj'
      simp at hb
      subst hb; rfl
    · have : (123 :: (m ++ [125]))[m.length + 1 - 1]? = some (m[m.length - 1]'(by omega)) := by
        rw [show m.length + 1 - 1 = (m.length - 1) + 1 by omega, List.getElem?_cons_succ, List.getElem?_append_left (by omega), List.getElem?_eq_getElem (by omega)]
      rw [this] at hb
      rw [← Option.some.inj hb]
      exact hc _ (List.getElem_mem _)
  rw [e1, Lib.trimLeftS_drop _ _ 1 (by simp) (fun j b hj hb => ?_) (fun b hb => ?_)]
  · rfl
  · have : j = 0 := by omega
    subst this
    simp at hb; subst hb; rfl
  · rw [List.getElem?_cons_succ, List.getElem?_eq_getElem hlen] at hb
    rw [← Option.some.inj hb]
    exact hc _ (List.getElem_mem _)
theorem split_stx (l : List Int) (h : 0 < l.length) : Lib.split (joinT (sparts l)) [44] = sparts l := by
  refine split_join _ ?_ ?_
  · unfold sparts; intro e; have := congrArg List.length e; simp at this; subst this; simp at h
  · intro p hp
    unfold sparts at hp
    obtain ⟨x, _, rfl⟩ := List.mem_map.1 hp
    exact itoa_no x 44 (by decide)
def okv : Lib.NumEnd Int → Option Int
  | .ok v => some v
  | _ => none
/-- The number of a part. -/
def prn (p : List UInt8) : Option Int := okv (Lib.parseIntB 64 p)
theorem prn_parts (l : List Int) (hR : IsSet l) : ∀ i (h : i < (sparts l).length), prn ((sparts l)[i]) = l[i]? := by
  intro i h
  have hi' : i < l.length := by simpa [sparts] using h
  have ho := hR.2 i hi'
  unfold SetAt at ho
  simp only [sparts, List.getElem_map]
  rw [List.getElem?_eq_getElem hi']
  have e1 : nth l i = l[i] := by simp [nth, hi']
  rw [e1] at ho
  unfold prn
  rw [atoi_itoa _ ho.1 ho.2.1]; rfl
theorem stx_inj {l m : List Int} (hl : IsSet l) (hm : IsSet m) (h0 : 0 < l.length) (h1 : 0 < m.length) (h : stx l = stx m) : l = m := by
  have e1 := split_stx l h0
  have e2 := split_stx m h1
  rw [← trim_stx l h0, h, trim_stx m h1, e2] at e1
  have hlen : m.length = l.length := by have := congrArg List.length e1; simpa [sparts] using this
  refine List.ext_getElem? fun i => ?_
  by_cases hi' : i < l.length
  · rw [← prn_parts l hl i (by simpa [sparts] using hi'), ← prn_parts m hm i (by simp [sparts]; omega)]
    congr 1
    simp only [e1]
  · rw [List.getElem?_eq_none (by omega), List.getElem?_eq_none (by omega)]
theorem stx_head (l : List Int) (h : 0 < l.length) : stx l ≠ [123, 125] := by
  rw [stx_is]
  intro e
  have hne := joinT_ne l h
  have hlen : 0 < (joinT (sparts l)).length := List.length_pos_iff.2 hne
  have := congrArg List.length e
  simp only [List.length_cons, List.length_append, List.length_nil] at this
  omega
end Go.Proofs.YtacnhkaibcjjgaaGreatDoor

namespace Go.Proofs.YtacnhkaibcjjgaaGreatDoor
open Go.RowKit Go.Shelf
set_option linter.unusedVariables false
set_option linter.unusedSimpArgs false

/-- The library's powers of ten lie as its text lays them, and stay so while what lies below B stays. -/
abbrev Tens (B : Nat) (w : World) : Prop := Lib.TabBelow Tryz.prog B w "internal/strconv.uint64pow10" .u64 Lib.pow10Tab
theorem tens_here {W w1 : World} (hT : Tens W.heap.size W) (hb : Below W.heap.size W w1) : Tens w1.heap.size w1 := Lib.tabBelow_of_tabIs (hT.on hb).here
theorem Tryz.info5 : (Tryz.prog.info? 5).map (fun i => (i.zero, i.size, i.bytes)) = some (some (.int .u8 0), 1, 1) := by kernel_rfl
theorem app_int (B n : Nat) (i : Int) (h0 : -9223372036854775808 ≤ i) (h1 : i ≤ 9223372036854775807) (sv : Value) (xs : List Value) (w : World) (hown : w.ownsRow B 5 1 sv n xs) (hBw : B ≤ w.heap.size) (hlim : n + 21 ≤ 140737488355328) (htab : Tens B w) :
    Calls Tryz.prog 70 #[sv, .int .i64 i, .int .i64 10] w fun e w' => ∃ v', e = .returned v' ∧ w'.ownsRow B 5 1 v' (n + (Lib.itoa i).length) (xs ++ Lib.byteCells (Lib.itoa i)) ∧ Below B w w' ∧ Lib.OthersKept 5 none w w' :=
  Any.strconv_AppendInt_10 Tryz.laysApp B n i h0 h1 sv xs w hown hBw hlim htab
theorem own_one (w : World) (v : Value) (hv : v.oneCell' = true) : (w.alloc (.cells #[v] 5)).ownsRow w.heap.size 5 1 (.slice (some ⟨w.heap.size, 0, none⟩) 1 1) 1 [v] :=
  ⟨rfl, .inr ⟨w.heap.size, 1, #[v], rfl, Nat.le_refl _, World.alloc_heap_new w _, Nat.le_refl _, by unfold maxLen; omega, rfl, rfl⟩⟩
theorem cell_one_new (w : World) (v : Value) : ∀ j u, ([v] : List Value)[j]? = some u → (w.alloc (.cells #[v] 5)).cell? ((⟨w.heap.size, 0, none⟩ : Addr).add j) = some u := by
  intro j u hj
  rw [Addr.add_lit]
  have hnw := World.alloc_heap_new w (Obj.cells #[v] 5)
  have : j = 0 := by have := (List.getElem?_eq_some_iff.1 hj).1; simp at this; exact this
  subst this
  simp at hj; subst hj
  simp only [World.cell?, hnw]; rfl

theorem known_at (s : Value) (l : List Int) (W X : World) (h : Si W s l) (hX : Below W.heap.size W X) :
    Calls Tryz.prog 61 #[s] X fun e w' => ∃ a n c, e = .returned (.slice a n c) ∧ Hid (Si W (.slice a n c) (tkS l)) ∧ Hid (n = (tkS l).length) ∧ Below X.heap.size X w' := by
  by_cases hR : IsSet l
  · have h2 := h
    obtain ⟨a, cap, rfl, _⟩ := h2
    exact (known_yes _ l X (h.below hX) hR).mono fun e w' ⟨he, n, hw⟩ => ⟨a, _, cap, he, by rw [tkS_yes hR]; exact h, by rw [tkS_yes hR]; exact rfl, by rw [hw]; exact below_drewN (Below.refl _ _) _⟩
  · exact (known_no _ l X (h.below hX) hR).mono fun e w' ⟨he, n, hw⟩ => ⟨none, 0, 0, he, by rw [tkS_no hR]; exact Si.nil _, by rw [tkS_no hR]; exact rfl, by rw [hw]; exact below_drewN (Below.refl _ _) _⟩

set_option maxRecDepth 100000 in
set_option maxHeartbeats 4000000 in
theorem text_any (s : Value) (l : List Int) (W : World) (h : Si W s l) (hT : Tens W.heap.size W) :
    Calls Tryz.prog 21 #[s] W fun e w' => e = .returned (.string ⟨(stx (tkS l)).toArray⟩) ∧ Below W.heap.size W w' := by
  obtain ⟨i0, hi0, hz0, hz1, hz2⟩ := info_parts Tryz.info5
  obtain ⟨W0, hW0⟩ : ∃ X, W.alloc (Obj.cells #[Value.int .u8 123] 5) = X := ⟨_, rfl⟩
  have HW0 : Hid _ := hW0
  have hb0 : Below W.heap.size W W0 := by rw [← hW0]; exact (Below.refl _ W).alloc (Nat.le_refl _) _
  have hrow0 : W0.ownsRow W.heap.size 5 1 (.slice (some ⟨W.heap.size, 0, none⟩) 1 1) 1 [.int .u8 123] := by rw [← hW0]; exact own_one W _ rfl
  have hk := known_at s l W W0 h hb0
  obtain ⟨a0, c0, rfl, _⟩ := h
  have HT : Hid (Tens W.heap.size W) := hT
  have HSET : Hid (IsSet (tkS l)) := tkS_set l
  obtain ⟨L, hL⟩ : ∃ L, tkS l = L := ⟨_, rfl⟩
  rw [hL] at hk HSET
  have HL : Hid (tkS l = L) := hL
  clear hT hW0 hL
  go_enter Tryz.func21, Tryz.ntmps21
  go_upto_region 2 with (fail)
  rw [HW0.out]
  go_wp2_with fail
  refine hk.mono ?_
  clear hk
  rintro e w1 ⟨a, n, cap, rfl, HS1, HN, hb1⟩
  have hB1 : Below W.heap.size W w1 := hb0.trans (hb1.mono hb0.size)
  have hrow1 := own_keepB hrow0 hb1
  have hn64 : n ≤ 64 := by rw [HN.out]; exact HSET.out.1
  clear hrow0 hb0 hb1
  go_wp2
  go_loopw [3, 10] (fun o i wr => ∃ (k : Nat), k ≤ n ∧ i = .int .i64 k ∧ (txS L k).length ≤ 50 * k + 1 ∧ wr.ownsRow W.heap.size 5 1 o (txS L k).length (Lib.byteCells (txS L k)) ∧ Below W.heap.size W wr) (fun _ i _ => n - (intOf i).toNat)
  case atStart => exact ⟨0, by omega, rfl, by simp [txS], hrow1, hB1⟩
  case round =>
    clear hrow1 hB1
    obtain ⟨k, hk, rfl, htl, hrow, hB⟩ := hrel
    have hsz := hB.size
    by_cases hlt : k < n
    · have hS := HS1.out.below hB
      obtain ⟨a', cap', e, hc⟩ := hS
      injection e with e1 e2 e3
      subst e1; subst e3
      obtain ⟨b, off, rfl, hb, hcell⟩ := hc (by rw [← HN.out]; omega)
      have d1 := hcell k (by rw [← HN.out]; exact hlt)
      have ho := HSET.out.2 k (by rw [← HN.out]; exact hlt)
      unfold SetAt at ho
      have htx : txS L (k + 1) = txS L k ++ (if 0 < k then [44] else []) ++ Lib.itoa (nth L k) := rfl
      obtain ⟨x, hx⟩ : ∃ x, nth L k = x := ⟨_, rfl⟩
      rw [hx] at d1 ho htx
      have hx0 := ho.1
      have hx1 := ho.2.1
      have lx := Lib.itoa_length_le x (by omega) (by omega)
      have hlt' : (k : Int) < (n : Int) := by omega
      have HTX : Hid (txS L (k + 1) = txS L k ++ (if 0 < k then [44] else []) ++ Lib.itoa x) := htx
      have HE2 : Hid _ := e2
      clear hcell hc ho hx htx e2
      by_cases hk0 : 0 < k
      · have hd0 : decide (0 < (k : Int)) = true := by simp; omega
        go_wp2_with (at_builtin; refine wpList_append_own _ rfl _ _ 74 rfl W.heap.size 5 i0 (.int .u8 0) 1 1 Tryz.underlying74 hi0 hz0 hz1 hz2 rfl (by decide) _ _ _ rfl (World.ownsRow.alloc hrow _) ⟨wr.heap.size, 0, none⟩ 1 1 [Value.int .u8 44] rfl rfl (cell_one_new wr (.int .u8 44)) (by simp [Value.oneCell']) (by unfold maxLen; omega) (by omega) (by simp; omega) ?_; intro v3 w3 hown3 hgrow3 _; refine Hid.out ?_)
        refine (show Hid _ from ?_)
        unfold Hid
        have hB3 : Below W.heap.size W w3 := (hB.alloc hsz _).grown hgrow3 (by simp; omega) (fun j e => (World.ownsRow.lt hrow j e).1)
        clear hgrow3 hrow
        go_wp2_with fail
        refine (app_int W.heap.size _ x (by omega) (by omega) _ _ _ hown3 hB3.size (by omega) (HT.out.on hB3)).mono ?_
        rintro e w4 ⟨v4, rfl, hown4, hb4, hk4⟩
        have hB4 : Below W.heap.size W w4 := hB3.trans hb4
        have HNEW : Hid (txS L (k + 1) = (txS L k ++ [44]) ++ Lib.itoa x) := by unfold Hid at *; rw [HTX, if_pos hk0]
        go_wp2
        go_roundw
        case rel =>
          refine ⟨k + 1, by omega, by go_num, by rw [HNEW.out]; simp; omega, ?_, hB4⟩
          rw [HNEW.out]
          have e1 : Lib.byteCells ((txS L k ++ [44]) ++ Lib.itoa x) = (Lib.byteCells (txS L k) ++ [Value.int .u8 44]) ++ Lib.byteCells (Lib.itoa x) := by simp [Lib.byteCells]
          have e2 : ((txS L k ++ [44]) ++ Lib.itoa x).length = ((txS L k).length + 1) + (Lib.itoa x).length := by simp only [List.length_append, List.length_cons, List.length_nil]
          rw [e1, e2]
          exact hown4
        case measure => simp [intOf]; omega
      · have hd0 : decide (0 < (k : Int)) = false := by simp; omega
        go_wp2_with fail
        refine (app_int W.heap.size _ x (by omega) (by omega) _ _ _ hrow hsz (by omega) (HT.out.on hB)).mono ?_
        rintro e w4 ⟨v4, rfl, hown4, hb4, hk4⟩
        have hB4 : Below W.heap.size W w4 := hB.trans hb4
        have HNEW : Hid (txS L (k + 1) = txS L k ++ Lib.itoa x) := by unfold Hid at *; rw [HTX, if_neg hk0, List.append_nil]
        go_wp2
        go_roundw
        case rel =>
          refine ⟨k + 1, by omega, by go_num, by rw [HNEW.out]; simp; omega, ?_, hB4⟩
          rw [HNEW.out]
          have e1 : Lib.byteCells (txS L k ++ Lib.itoa x) = Lib.byteCells (txS L k) ++ Lib.byteCells (Lib.itoa x) := by simp [Lib.byteCells]
          have e2 : (txS L k ++ Lib.itoa x).length = (txS L k).length + (Lib.itoa x).length := by simp only [List.length_append]
          rw [e1, e2]
          exact hown4
        case measure => simp [intOf]; omega
    · obtain rfl : k = n := by omega
      have hlt' : ¬ (k : Int) < (k : Int) := by omega
      go_wp2_with (at_builtin; refine wpList_append_own _ rfl _ _ 74 rfl W.heap.size 5 i0 (.int .u8 0) 1 1 Tryz.underlying74 hi0 hz0 hz1 hz2 rfl (by decide) _ _ _ rfl (World.ownsRow.alloc hrow _) ⟨wr.heap.size, 0, none⟩ 1 1 [Value.int .u8 125] rfl rfl (cell_one_new wr (.int .u8 125)) (by simp [Value.oneCell']) (by unfold maxLen; omega) (by omega) (by simp; omega) ?_; intro v3 w3 hown3 hgrow3 _; refine Hid.out ?_)
      refine (show Hid _ from ?_)
      unfold Hid
      have hB3 : Below W.heap.size W w3 := (hB.alloc hsz _).grown hgrow3 (by simp; omega) (fun j e => (World.ownsRow.lt hrow j e).1)
      have HST : Hid (stx (tkS l) = txS L k ++ [125]) := by unfold Hid; rw [HL.out]; unfold stx; rw [← HN.out]
      obtain ⟨tl, htl'⟩ : ∃ tl, txS L k ++ [125] = tl := ⟨_, rfl⟩
      have hcl : Lib.byteCells (txS L k) ++ [Value.int .u8 125] = Lib.byteCells tl := by rw [← htl']; simp [Lib.byteCells]
      have hll : (txS L k).length + 1 = tl.length := by rw [← htl']; simp
      rw [hcl, hll] at hown3
      have hpos : 0 < tl.length := by omega
      rw [htl'] at HST
      clear hgrow3 hrow htl' hcl hll htl
      rcases hown3.2 with ⟨_, h0⟩ | ⟨g, cg, cur, rfl, _, _, _, _, _, _⟩
      · omega
      · have hcv := run_convert_bytes_back (P := Tryz.prog) w3 74 9 5 ⟨g, 0, none⟩ cg tl Tryz.underlying74 Tryz.underlying5 Tryz.underlying9 (fun j hj => hown3.cells (g := g) rfl j _ (by simp [Lib.byteCells, hj]))
        go_wp2
        go_ret
        exact ⟨by rw [HST.out]; rfl, hB3⟩
end Go.Proofs.YtacnhkaibcjjgaaGreatDoor
