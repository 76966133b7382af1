/-
  What is proved here: The mathematics of reading: where a value that is written ends, and that it is read as it was.
  What is proved here: The number of a text: numberOf.
  What is proved here: That a block is of one list of values alone.
  What is proved here: Where a number and a set end: numberEnd, setEnd.
-/
import Derived.Test.YtdnhhmnllhlbbaaGreatDoorOsj
import Derived.Test.YtdnhhmnllhlbbaaGreatDoorXJa
import Derived.Lib.SplitLaws
import Derived.Test.YtdnhhmnllhlbbaaGreatDoorXSh
import Derived.WalkSmall
import Derived.Lib.SmallJoins
namespace Go.Proofs.YtdnhhmnllhlbbaaGreatDoor
open Go.RowKit Go.Shelf
set_option linter.unusedVariables false
set_option linter.unusedSimpArgs false

/-- The bytes of sets. -/
def setB (c : UInt8) : Bool := numB c || (decide (c.toNat = 46) || (decide (c.toNat = 123) || (decide (c.toNat = 125) || decide (c.toNat = 44))))
def stp (l : List UInt8) : Bool := Lib.hasPrefix l [44, 32]
def setLen : List UInt8 → Nat
  | [] => 0
  | c :: r => if setB c && !stp (c :: r) then setLen r + 1 else 0
theorem setLen_cons (c : UInt8) (r : List UInt8) : setLen (c :: r) = if setB c && !stp (c :: r) then setLen r + 1 else 0 := rfl
theorem setLen_le : ∀ l, setLen l ≤ l.length
  | [] => Nat.le_refl _
  | c :: r => by rw [setLen_cons]; have := setLen_le r; split <;> simp <;> omega
/-- What may stand behind a value. -/
def Aft (r : List UInt8) : Prop := ∃ d q, r = d :: q ∧ (d = 59 ∨ d = 93 ∨ (d = 44 ∧ ∃ q', q = 32 :: q'))
theorem stp_cons (c : UInt8) (r : List UInt8) : stp (c :: r) = (decide (c = 44) && decide (r.head? = some 32)) := by
  unfold stp Lib.hasPrefix
  cases r with
  | nil => simp [List.isPrefixOf]
  | cons d q =>
    have a : ((44 : UInt8) == c) = decide (c = 44) := by rw [Bool.eq_iff_iff]; simp only [beq_iff_eq, decide_eq_true_eq]; exact ⟨Eq.symm, Eq.symm⟩
    have b : ((32 : UInt8) == d) = decide (d = 32) := by rw [Bool.eq_iff_iff]; simp only [beq_iff_eq, decide_eq_true_eq]; exact ⟨Eq.symm, Eq.symm⟩
    simp only [List.isPrefixOf, List.head?_cons, Option.some.injEq, Bool.and_true, a, b]
theorem setLen_app : ∀ (x r : List UInt8), (∀ c ∈ x, setB c = true) → Aft r → x.getLast? ≠ some 44 → setLen (x ++ r) = x.length
  | [], r, _, hr, _ => by
    obtain ⟨d, q, rfl, h⟩ := hr
    rw [List.nil_append, setLen_cons]
    rcases h with rfl | rfl | ⟨rfl, q', rfl⟩
    · rw [show setB 59 = false by decide]; rfl
    · rw [show setB 93 = false by decide]; rfl
    · rw [stp_cons]; simp
  | c :: x, r, h, hr, hl => by
    rw [List.cons_append, setLen_cons, h c (by simp)]
    have hs : stp (c :: (x ++ r)) = false := by
      rw [stp_cons]
      cases x with
      | nil =>
        have : c ≠ 44 := fun e => hl (by rw [e]; rfl)
        simp [this]
      | cons d q =>
        have h1 := h d (by simp)
        have : d ≠ 32 := fun e => by rw [e] at h1; revert h1; decide
        simp [this]
    rw [hs, setLen_app x r (fun e he => h e (by simp [he])) hr (by
      cases x with
      | nil => simp
      | cons d q => rw [List.getLast?_cons_cons] at hl; exact hl)]
    rfl
theorem itoa_num (x : Int) : ∀ c ∈ Lib.itoa x, numB c = true := fun c hc => by
  rcases itoa_signs x c hc with rfl | hd
  · decide
  · unfold Dig at hd; simp [numB, hd.1, hd.2]
theorem num_set {c : UInt8} (h : numB c = true) : setB c = true := by rw [setB, h]; rfl
theorem itoa_no (x : Int) (c : UInt8) (h : numB c = false) : c ∉ Lib.itoa x := fun hc => by rw [itoa_num x c hc] at h; cases h
theorem spn_num (x : Int) (r : List UInt8) (hr : Aft r) : spn numB (Lib.itoa x ++ r) = (Lib.itoa x).length := by
  obtain ⟨d, q, rfl, h⟩ := hr
  exact spn_app numB d q (by rcases h with rfl | rfl | ⟨rfl, _⟩ <;> decide) _ (itoa_num x)
/-! ### Signs -/

theorem index_cons (b : UInt8) (l sub : List UInt8) : Lib.index (b :: l) sub = if sub.isPrefixOf (b :: l) then 0 else if Lib.index l sub == -1 then -1 else Lib.index l sub + 1 := by rw [Lib.index]
theorem index_no (l : List UInt8) (c : UInt8) (t : List UInt8) (h : c ∉ l) : Lib.index l (c :: t) = -1 := by
  induction l with
  | nil => rfl
  | cons b l ih =>
    have hb : c ≠ b := fun e => h (by simp [e])
    rw [index_cons, ih (fun e => h (by simp [e]))]
    simp [List.isPrefixOf, hb]
theorem index_at (l : List UInt8) (c : UInt8) (t r : List UInt8) (h : c ∉ l) : Lib.index (l ++ (c :: t ++ r)) (c :: t) = (l.length : Int) := by
  induction l with
  | nil =>
    have : (c :: t).isPrefixOf (c :: t ++ r) = true := List.isPrefixOf_iff_prefix.2 (List.prefix_append _ _)
    rw [List.nil_append, List.cons_append] at *
    rw [index_cons, if_pos this]; rfl
  | cons b l ih =>
    have hb : c ≠ b := fun e => h (by simp [e])
    rw [List.cons_append, index_cons, ih (fun e => h (by simp [e]))]
    have h1 : ((l.length : Int) == -1) = false := by rw [beq_eq_false_iff_ne]; omega
    simp [List.isPrefixOf, hb, h1]
theorem cut_at (l : List UInt8) (c : UInt8) (t r : List UInt8) (h : c ∉ l) : Lib.cut (l ++ (c :: t ++ r)) (c :: t) = (l, r, true) := by
  unfold Lib.cut
  rw [index_at l c t r h, if_pos (by omega)]
  simp
theorem cut_no (l : List UInt8) (c : UInt8) (t : List UInt8) (h : c ∉ l) : Lib.cut l (c :: t) = (l, [], false) := by
  unfold Lib.cut
  rw [index_no l c t h, if_neg (by omega)]

/-! ### Parts between signs -/

theorem sepT_cons (s p : List UInt8) (ps : List (List UInt8)) (h : ps ≠ []) : sepT s (p :: ps) = p ++ s ++ sepT s ps := by
  cases ps with
  | nil => exact absurd rfl h
  | cons q r => rfl
theorem count_none (d : UInt8) (l : List UInt8) (h : d ∉ l) : Lib.count l [d] = 0 := by
  rw [Lib.count_one]; exact List.count_eq_zero.2 h
theorem split_join (d : UInt8) (ps : List (List UInt8)) (h0 : ps ≠ []) (h : ∀ p ∈ ps, d ∉ p) : Lib.split (sepT [d] ps) [d] = ps := by
  unfold Lib.split
  induction ps with
  | nil => exact absurd rfl h0
  | cons p r ih =>
    cases r with
    | nil =>
      rw [show sepT [d] [p] = p from rfl, count_none d p (h p (by simp))]; rfl
    | cons q t =>
      have hp := h p (by simp)
      have e : sepT [d] (p :: q :: t) = p ++ ([d] ++ sepT [d] (q :: t)) := by rw [sepT_cons _ p (q :: t) (by simp), List.append_assoc]
      have hc : Lib.count (sepT [d] (p :: q :: t)) [d] = Lib.count (sepT [d] (q :: t)) [d] + 1 := by
        rw [Lib.count_one, Lib.count_one, e, List.count_append, List.singleton_append, List.count_cons_self, List.count_eq_zero.2 hp]; omega
      have hi : Lib.index (p ++ ([d] ++ sepT [d] (q :: t))) [d] = (p.length : Int) := index_at p d [] (sepT [d] (q :: t)) hp
      rw [hc, Lib.splitK, e, hi, if_neg (by simp)]
      have ih' := ih (by simp) (fun p' hp' => h p' (by simp [hp']))
      have e2 : List.drop (p.length + 1) (p ++ ([d] ++ sepT [d] (q :: t))) = sepT [d] (q :: t) := by rw [← List.drop_drop, List.drop_left]; rfl
      have e1 : List.take p.length (p ++ ([d] ++ sepT [d] (q :: t))) = p := List.take_left
      simp only [Int.toNat_natCast, Nat.add_zero, List.length_singleton]
      rw [e1, e2, ih']
theorem sepT_mem {s : List UInt8} {c : UInt8} : ∀ {ps : List (List UInt8)}, c ∈ sepT s ps → c ∈ s ∨ ∃ p ∈ ps, c ∈ p
  | [], h => by simp [sepT] at h
  | [p], h => .inr ⟨p, by simp, h⟩
  | p :: q :: r, h => by
    rw [sepT_cons s p (q :: r) (by simp), List.mem_append, List.mem_append] at h
    rcases h with (h | h) | h
    · exact .inr ⟨p, by simp, h⟩
    · exact .inl h
    · rcases sepT_mem h with h | ⟨x, hx, h⟩
      · exact .inl h
      · exact .inr ⟨x, by simp [hx], h⟩

/-! ### Sets -/

/-- All from one number to another one. -/
def rangeI (a b : Int) : List Int := (List.range (b - a + 1).toNat).map fun (i : Nat) => a + (i : Int)
theorem setOk_lt {l : List Int} (h : setOk l = true) {i : Nat} {x y : Int} (hx : l[i]? = some x) (hy : l[i + 1]? = some y) : x < y := by
  unfold setOk at h
  rw [Bool.and_eq_true, List.all_eq_true] at h
  have h1 := h.1 (i + 1) (List.mem_range.2 (List.getElem?_eq_some_iff.1 hy).1)
  unfold badAt at h1
  rw [hy] at h1
  simp only [Nat.add_sub_cancel, hx] at h1
  simp at h1
  omega
theorem setOk_far {l : List Int} (h : setOk l = true) (i d : Nat) {x y : Int} (hx : l[i]? = some x) (hy : l[i + d]? = some y) : x + (d : Int) ≤ y := by
  induction d generalizing y with
  | zero => rw [Nat.add_zero, hx] at hy; injection hy with e; omega
  | succ d ih =>
    have hd := (List.getElem?_eq_some_iff.1 hy).1
    have hz : l[i + d]? = some l[i + d] := List.getElem?_eq_getElem (by omega)
    have h1 := ih hz
    have h2 := setOk_lt h hz (by rw [show i + d + 1 = i + (d + 1) by omega]; exact hy)
    omega
theorem span_range {l : List Int} (h : setOk l = true) (hs : spanB l = true) : l = rangeI (l.getD 0 0) (l.getD (l.length - 1) 0) ∧ l.getD 0 0 < l.getD (l.length - 1) 0 := by
  unfold spanB at hs
  simp only [Bool.and_eq_true, decide_eq_true_eq] at hs
  obtain ⟨h1, h2⟩ := hs
  obtain ⟨n, hn⟩ : ∃ n, l.length = n := ⟨_, rfl⟩
  have h0 : l[0]? = some (l.getD 0 0) := by rw [List.getD_eq_getElem?_getD, List.getElem?_eq_getElem (by omega)]; rfl
  have hl : l[n - 1]? = some (l.getD (l.length - 1) 0) := by rw [List.getD_eq_getElem?_getD, hn, List.getElem?_eq_getElem (by omega)]; rfl
  have hlen : (rangeI (l.getD 0 0) (l.getD (l.length - 1) 0)).length = n := by rw [rangeI, List.length_map, List.length_range]; omega
  refine ⟨List.ext_getElem? fun i => ?_, by omega⟩
  by_cases hi : i < n
  · have hg : l[i]? = some l[i] := List.getElem?_eq_getElem (by omega)
    have a := setOk_far h 0 i h0 (by rw [Nat.zero_add]; exact hg)
    have b := setOk_far h i (n - 1 - i) hg (by rw [show i + (n - 1 - i) = n - 1 by omega]; exact hl)
    rw [hg]
    unfold rangeI
    rw [List.getElem?_map, List.getElem?_range (by omega)]
    simp only [Option.map_some, Option.some.injEq]
    omega
  · rw [List.getElem?_eq_none (by omega), List.getElem?_eq_none (by omega)]
/-- What stands between the braces. -/
def bodyT (l : List Int) : List UInt8 := sepT [44] (l.map Lib.itoa)
theorem body_mem {l : List Int} {c : UInt8} (h : c ∈ bodyT l) : c = 44 ∨ numB c = true := by
  rcases sepT_mem h with h | ⟨p, hp, h⟩
  · exact .inl (by simpa using h)
  · obtain ⟨x, _, rfl⟩ := List.mem_map.1 hp
    exact .inr (itoa_num x c h)
theorem setT_span {l : List Int} (hs : spanB l = true) : setT l = Lib.itoa (l.getD 0 0) ++ (46 :: [46] ++ Lib.itoa (l.getD (l.length - 1) 0)) := by
  rw [setT, if_pos hs, spanT, List.append_assoc]
theorem setT_body {l : List Int} (hs : spanB l = false) : setT l = 123 :: (bodyT l ++ [125]) := by
  rw [setT, if_neg (by rw [hs]; simp)]; rfl
theorem cut_span {l : List Int} (hs : spanB l = true) : Lib.cut (setT l) [46, 46] = (Lib.itoa (l.getD 0 0), Lib.itoa (l.getD (l.length - 1) 0), true) := by
  rw [setT_span hs]; exact cut_at _ 46 [46] _ (itoa_no _ _ (by decide))
theorem cut_body {l : List Int} (hs : spanB l = false) : Lib.cut (setT l) [46, 46] = (setT l, [], false) := by
  refine cut_no _ 46 [46] fun h => ?_
  rw [setT_body hs, List.mem_cons, List.mem_append] at h
  rcases h with h | h | h
  · exact absurd h (by decide)
  · rcases body_mem h with h | h
    · exact absurd h (by decide)
    · exact absurd h (by decide)
  · exact absurd h (by decide)
theorem body_split {l : List Int} (h : l ≠ []) : Lib.split (bodyT l) [44] = l.map Lib.itoa := by
  refine split_join 44 _ (by simpa using h) fun p hp => ?_
  obtain ⟨x, _, rfl⟩ := List.mem_map.1 hp
  exact itoa_no x 44 (by decide)
theorem setOk_bd {l : List Int} (h : setOk l = true) (i : Nat) : -1000000 ≤ l.getD i 0 ∧ l.getD i 0 ≤ 1000000 := by
  rw [List.getD_eq_getElem?_getD]
  cases e : l[i]? with
  | none => simp
  | some x => exact (setOk_facts h).2 x (List.mem_of_getElem? e)
theorem body_pos {l : List Int} (h : l ≠ []) : 0 < (bodyT l).length := by
  cases l with
  | nil => exact absurd rfl h
  | cons x r =>
    have hx := itoa_pos x
    cases r with
    | nil => exact hx
    | cons y q => unfold bodyT; rw [List.map_cons, List.map_cons, sepT_cons _ _ _ (by simp), List.length_append, List.length_append]; omega
theorem setT_bytes {l : List Int} : (∀ c ∈ setT l, setB c = true) ∧ (setT l).getLast? ≠ some 44 := by
  cases h1 : spanB l with
  | true =>
    rw [setT_span h1]
    refine ⟨fun c hc => ?_, ?_⟩
    · simp only [List.cons_append, List.nil_append, List.mem_append, List.mem_cons] at hc
      rcases hc with h | h | h | h
      · exact num_set (itoa_num _ c h)
      · rw [h]; decide
      · rw [h]; decide
      · exact num_set (itoa_num _ c h)
    · obtain ⟨x, r, e, _⟩ := itoa_form (l.getD (l.length - 1) 0)
      have hn : Lib.itoa (l.getD (l.length - 1) 0) ≠ [] := by rw [e]; simp
      have hnn := itoa_num (l.getD (l.length - 1) 0)
      clear e
      rw [List.getLast?_append, List.getLast?_append]
      intro h
      generalize Lib.itoa (l.getD (l.length - 1) 0) = T at hn h hnn
      rw [List.getLast?_eq_some_getLast hn] at h
      simp at h
      have := hnn _ (List.getLast_mem hn)
      rw [h] at this
      exact absurd this (by decide)
  | false =>
    rw [setT_body h1]
    refine ⟨fun c hc => ?_, by rw [← List.cons_append, List.getLast?_append]; simp⟩
    rw [List.mem_cons, List.mem_append] at hc
    rcases hc with h | h | h
    · rw [h]; decide
    · rcases body_mem h with h | h
      · rw [h]; decide
      · exact num_set h
    · rw [List.mem_singleton.1 h]; decide

/-! ### Values -/

/-- How far a value's text goes. -/
def tokLen (k : Int) (l : List UInt8) : Nat := if k = 3 then setLen l else spn numB l
theorem tok_val {v : Vl} {k : Int} {r : List UInt8} (h : isVal v.set v.n v.s k = true) (hk : k ≠ 1) (hr : Aft r) : tokLen k (valT k v ++ r) = (valT k v).length := by
  rcases isVal_facts h with ⟨rfl, _⟩ | ⟨rfl, h1, h2⟩ | ⟨rfl, h1⟩
  · exact absurd rfl hk
  · exact spn_num v.n r hr
  · exact setLen_app _ r setT_bytes.1 hr setT_bytes.2
theorem isVal_more {v : Vl} {k : Int} (h : isVal v.set v.n v.s k = true) : (k = 3 ∧ v.set = true ∧ v.n = 0 ∧ setOk v.s = true) ∨ (k = 1 ∧ v.set = false ∧ v.s = [] ∧ 0 ≤ v.n ∧ v.n ≤ 1) ∨ (k = 2 ∧ v.set = false ∧ v.s = [] ∧ -1000000 ≤ v.n ∧ v.n ≤ 1000000) := by
  unfold isVal isNum at h
  split at h
  · rename_i e
    simp at h
    exact .inr (.inl ⟨e, h.1, h.2.1, by omega, by omega⟩)
  · split at h
    · rename_i e
      simp at h
      exact .inr (.inr ⟨e, h.1, h.2.1, by omega, by omega⟩)
    · split at h
      · rename_i e
        simp at h
        exact .inl ⟨e, h.1, h.2.1, h.2.2⟩
      · cases h
end Go.Proofs.YtdnhhmnllhlbbaaGreatDoor

namespace Go.Proofs.YtdnhhmnllhlbbaaGreatDoor
open Go.RowKit Go.Shelf
set_option linter.unusedVariables false
set_option linter.unusedSimpArgs false

theorem pint_ok (l : List UInt8) (hs : l.length ≤ 65536) (v : Int) (h : Lib.parseIntB 64 l = .ok v) (w : World) :
    Calls Tryz.prog 115 #[.string (bs l), .int .i64 10, .int .i64 64] w fun e w' => e = .returned (.tuple #[.int .i64 v, .nilIface]) ∧ Below w.heap.size w w' := by
  have hsz : (bs l).size ≤ 65536 := hs
  refine (Any.strconv_ParseInt_10_at64_ok Tryz.laysPint (bs l) (by omega) v (by rw [bs_data]; exact h) w).mono fun e w' ⟨he, hw⟩ => ⟨he, ?_⟩
  rcases hw with rfl | ⟨t, rfl⟩
  · exact Below.refl _ _
  · exact Joins.below_bytesWorld _ _ _ _ (Nat.le_refl _)
theorem res_36 {fn : Func} {p : Tmp} (hf : fn.results = #[.cell p 36]) (tmps : Array Value) {w : World} {g : Nat} {x0 x1 x2 : Value} (h : Blk w g #[x0, x1, x2] 36) (hp : tmps.getD p undef = .pointer (some ⟨g, 0, none⟩)) :
    (results fn tmps).run Tryz.prog w = .ok (.agg #[x0, x1, x2]) w := results_cell_row hf tmps w g 36 _ (0, 0) _ hp h.h Tryz.underlying36 rfl (by kernel_rfl)

set_option maxRecDepth 100000 in
set_option maxHeartbeats 4000000 in
theorem number96 (x : Int) (h0 : -1000000000 ≤ x) (h1 : x ≤ 1000000000) (W : World) :
    Calls Tryz.prog 96 #[.string (bs (Lib.itoa x))] W fun e w' => e = .returned (.agg #[.bool false, .int .i64 x, .slice none 0 0]) ∧ Below W.heap.size W w' := by
  have hl := Lib.itoa_length_le x (by omega) (by omega)
  obtain ⟨w0, hw0⟩ : ∃ q, W.alloc (Obj.cells #[.bool false, .int .i64 0, .slice none 0 0] 36) = q := ⟨_, rfl⟩
  have hb0 : Below W.heap.size W w0 := by rw [← hw0]; exact (Below.refl _ _).alloc (Nat.le_refl _) _
  have HX0 : Hid (Blk w0 W.heap.size #[.bool false, .int .i64 0, .slice none 0 0] 36) := by rw [← hw0]; exact Blk.new _ _ _
  have HB0 : Hid (Below W.heap.size W w0) := hb0
  have kp := pint_ok (Lib.itoa x) (by omega) x (atoi_itoa x h0 h1) w0
  obtain ⟨T, hT⟩ : ∃ T, Lib.itoa x = T := ⟨_, rfl⟩
  rw [hT] at kp ⊢
  clear hl hT hb0
  go_enter Tryz.func96, Tryz.ntmps96
  go_wp2_with fail
  refine kp.mono ?_
  rintro e w1 ⟨rfl, hb1⟩
  have HX1 : Hid (Blk w1 W.heap.size #[.bool false, .int .i64 0, .slice none 0 0] 36) := HX0.out.below hb1
  have HB1 : Hid (Below W.heap.size W w1) := HB0.out.trans (hb1.mono HB0.out.size)
  clear kp hw0 hb1 HX0 HB0
  have x0 := HX1.out.cell 0
  have x1 := HX1.out.cell 1
  have x2 := HX1.out.cell 2
  have f0 := HX1.out.frozen 0
  have f1 := HX1.out.frozen 1
  have f2 := HX1.out.frozen 2
  go_wp2
  have HF : Blk (((w1.setCell ⟨W.heap.size, 0, none⟩ (.bool false)).setCell ⟨W.heap.size, 1, none⟩ (.int .i64 x)).setCell ⟨W.heap.size, 2, none⟩ (.slice none 0 0)) W.heap.size #[.bool false, .int .i64 x, .slice none 0 0] 36 := ((HX1.out.set 0 _).set 1 _).set 2 _
  exact ⟨rfl, _, res_36 rfl _ HF rfl, rfl, ((HB1.out.setCell (Nat.le_refl _) _).setCell (Nat.le_refl _) _).setCell (Nat.le_refl _) _⟩
end Go.Proofs.YtdnhhmnllhlbbaaGreatDoor

namespace Go.Proofs.YtdnhhmnllhlbbaaGreatDoor
open Go.RowKit Go.Shelf
set_option linter.unusedVariables false
set_option linter.unusedSimpArgs false

theorem aft_tail (o : Ou) (r : List UInt8) : Aft (tailT o ++ r) := by
  unfold tailT
  split
  · exact ⟨59, _, rfl, .inl rfl⟩
  · exact ⟨93, _, rfl, .inr (.inl rfl)⟩
theorem aft_sep (r : List UInt8) : Aft ([44, 32] ++ r) := ⟨44, _, rfl, .inr (.inr ⟨rfl, _, rfl⟩)⟩
end Go.Proofs.YtdnhhmnllhlbbaaGreatDoor

namespace Go.Proofs.YtdnhhmnllhlbbaaGreatDoor
open Go.RowKit Go.Shelf
set_option linter.unusedVariables false
set_option linter.unusedSimpArgs false

theorem setLen_at : ∀ (l : List UInt8) (k : Nat) (c : UInt8), k ≤ setLen l → l[k]? = some c → (k < setLen l ↔ (setB c && !stp (l.drop k)) = true)
  | [], k, c, _, h => by simp at h
  | d :: r, 0, c, _, h => by
    simp only [List.getElem?_cons_zero, Option.some.injEq] at h
    subst h
    rw [setLen_cons, List.drop_zero]
    split
    · rename_i h; simp only [h]; simp
    · rename_i h; simp [h]
  | d :: r, k + 1, c, hk, h => by
    rw [setLen_cons] at hk ⊢
    split at hk
    · rename_i h1
      rw [if_pos h1]
      have := setLen_at r k c (by omega) (by simpa using h)
      rw [List.drop_succ_cons, ← this]
      omega
    · omega
theorem hpre90 (l t : List UInt8) (W : World) : Calls Tryz.prog 90 #[.string (bs l), .string (bs t)] W fun e w' => e = .returned (.bool (Lib.hasPrefix l t)) ∧ w' = W := by
  have := Any.strings_HasPrefix Tryz.laysHasPrefix (bs l) (bs t) W
  rw [bs_data, bs_data] at this
  exact this

set_option maxRecDepth 100000 in
set_option maxHeartbeats 4000000 in
theorem set138 (c : UInt8) (W : World) : Calls Tryz.prog 138 #[.int .u8 c.toNat] W fun e w' => e = .returned (.bool (setB c)) ∧ w' = W := by
  have k := num140 c W
  unfold setB
  obtain ⟨b, hb⟩ : ∃ b, numB c = b := ⟨_, rfl⟩
  rw [hb] at k ⊢
  obtain ⟨n, hn⟩ : ∃ n, c.toNat = n := ⟨_, rfl⟩
  rw [hn] at k ⊢
  clear hn hb
  go_enter Tryz.func138, Tryz.ntmps138
  go_wp2_with fail
  refine k.mono ?_
  rintro e w1 ⟨rfl, rfl⟩
  clear k
  cases b with
  | true =>
    go_wp2
    go_ret
    exact ⟨rfl, rfl⟩
  | false =>
    go_wp2
    all_goals (go_ret; refine ⟨?_, rfl⟩; show Ending.returned (Value.bool _) = _; congr 2; rw [Bool.eq_iff_iff]; simp; try omega)

set_option maxRecDepth 100000 in
set_option maxHeartbeats 4000000 in
theorem numEnd125 {W : World} {g p : Nat} (s : List UInt8) (hX : Blk W g #[.string (bs s), .int .i64 (p : Int)] 115) (hp : p ≤ s.length) (hs : s.length ≤ 1000000000000) :
    Calls Tryz.prog 125 #[.pointer (some ⟨g, 0, none⟩)] W fun e w' => e = .returned (.int .i64 ((p + spn numB (s.drop p) : Nat) : Int)) ∧ w' = W := by
  have x0 := hX.cell 0
  have x1 := hX.cell 1
  obtain ⟨m, hm⟩ : ∃ m, s.length = m := ⟨_, rfl⟩
  have HM : Hid (s.length = m) := hm
  have hbs : (bs s).size = m := by rw [bs_size, hm]
  have HL : Hid (p + spn numB (s.drop p) ≤ m) := by unfold Hid; have := spn_le numB (s.drop p); rw [List.length_drop] at this; omega
  obtain ⟨u, hu⟩ : ∃ u, spn numB (s.drop p) = u := ⟨_, rfl⟩
  have HU : Hid (spn numB (s.drop p) = u) := hu
  rw [hu] at HL ⊢
  have kc : Hid (∀ c : UInt8, Calls Tryz.prog 140 #[.int .u8 c.toNat] W fun e w' => e = .returned (.bool (numB c)) ∧ w' = W) := fun c => num140 c W
  rw [hm] at hs hp
  clear hm hX hu
  go_enter Tryz.func125, Tryz.ntmps125
  go_wp2
  go_loopw [3] (fun i wr => ∃ (k : Nat), k ≤ u ∧ i = .int .i64 ((p + k : Nat) : Int) ∧ wr = W) (fun i _ => m - (intOf i).toNat)
  case atStart => exact ⟨0, Nat.zero_le _, rfl, rfl⟩
  case round =>
    obtain ⟨k, hk, rfl, rfl⟩ := hrel
    have hL := HL.out
    obtain ⟨q, hq⟩ : ∃ q, p + k = q := ⟨_, rfl⟩
    have HQ : Hid (p + k = q) := hq
    rw [hq]
    clear hq
    by_cases hlt : q < m
    · have hlt' : (q : Int) < m := by omega
      obtain ⟨c, hc⟩ : ∃ c, s[q]? = some c := ⟨_, List.getElem?_eq_getElem (by rw [HM.out]; exact hlt)⟩
      obtain ⟨hql, hcg⟩ := bs_get s q c hc
      have hsp := spn_at numB (s.drop p) k c (by rw [HU.out]; exact hk) (by rw [List.getElem?_drop, HQ.out]; exact hc)
      rw [HU.out] at hsp
      have HSP : Hid (k < u ↔ numB c = true) := hsp
      have kk := kc.out c
      have hw1 : IntKind.i64.wrap ((q : Int) + 1) = (q : Int) + 1 := by rw [IntKind.wrap_i64]; omega
      clear hsp hc
      cases hb : numB c with
      | true =>
        have hku := HSP.out.2 hb
        rw [hb] at kk
        clear hb
        go_wp2_with fail
        refine kk.mono ?_
        rintro e w1 ⟨rfl, rfl⟩
        clear kk
        go_wp2
        go_roundw
        case rel => exact ⟨k + 1, hku, by have := HQ.out; go_num, by first | rfl | trivial⟩
        case measure => simp [intOf]; omega
      | false =>
        have hku : k = u := by
          have h1 : ¬ k < u := fun h => by have := HSP.out.1 h; rw [hb] at this; cases this
          omega
        have HR : Hid (p + u = q) := by rw [← hku]; exact HQ
        rw [hb] at kk
        clear hb hku
        go_wp2_with fail
        refine kk.mono ?_
        rintro e w1 ⟨rfl, rfl⟩
        clear kk
        go_wp2
        go_ret
        refine ⟨?_, rfl⟩
        have hz := HR.out
        show Ending.returned (Value.int .i64 (q : Int)) = Ending.returned (Value.int .i64 _)
        first | rfl | (congr 2; omega)
    · have hlt' : ¬ (q : Int) < m := by omega
      have HR : Hid (p + u = q) := by unfold Hid; have := HQ.out; omega
      go_wp2
      go_ret
      refine ⟨?_, rfl⟩
      have hz := HR.out
      show Ending.returned (Value.int .i64 (q : Int)) = Ending.returned (Value.int .i64 _)
      first | rfl | (congr 2; omega)

set_option maxRecDepth 100000 in
set_option maxHeartbeats 4000000 in
theorem setEnd123 {W : World} {g p : Nat} (s : List UInt8) (hX : Blk W g #[.string (bs s), .int .i64 (p : Int)] 115) (hp : p ≤ s.length) (hs : s.length ≤ 1000000000000) :
    Calls Tryz.prog 123 #[.pointer (some ⟨g, 0, none⟩)] W fun e w' => e = .returned (.int .i64 ((p + setLen (s.drop p) : Nat) : Int)) ∧ w' = W := by
  have x0 := hX.cell 0
  have x1 := hX.cell 1
  obtain ⟨m, hm⟩ : ∃ m, s.length = m := ⟨_, rfl⟩
  have HM : Hid (s.length = m) := hm
  have hbs : (bs s).size = m := by rw [bs_size, hm]
  have HL : Hid (p + setLen (s.drop p) ≤ m) := by unfold Hid; have := setLen_le (s.drop p); rw [List.length_drop] at this; omega
  obtain ⟨u, hu⟩ : ∃ u, setLen (s.drop p) = u := ⟨_, rfl⟩
  have HU : Hid (setLen (s.drop p) = u) := hu
  rw [hu] at HL ⊢
  have kc : Hid (∀ c : UInt8, Calls Tryz.prog 138 #[.int .u8 c.toNat] W fun e w' => e = .returned (.bool (setB c)) ∧ w' = W) := fun c => set138 c W
  have kp : Hid (∀ q, Calls Tryz.prog 90 #[.string (bs (s.drop q)), .string ⟨#[44, 32]⟩] W fun e w' => e = .returned (.bool (stp (s.drop q))) ∧ w' = W) := fun q => hpre90 (s.drop q) [44, 32] W
  rw [hm] at hs hp
  clear hm hX hu
  go_enter Tryz.func123, Tryz.ntmps123
  go_wp2
  go_loopw [3] (fun i wr => ∃ (k : Nat), k ≤ u ∧ i = .int .i64 ((p + k : Nat) : Int) ∧ wr = W) (fun i _ => m - (intOf i).toNat)
  case atStart => exact ⟨0, Nat.zero_le _, rfl, rfl⟩
  case round =>
    obtain ⟨k, hk, rfl, rfl⟩ := hrel
    have hL := HL.out
    obtain ⟨q, hq⟩ : ∃ q, p + k = q := ⟨_, rfl⟩
    have HQ : Hid (p + k = q) := hq
    rw [hq]
    clear hq
    by_cases hlt : q < m
    · have hlt' : (q : Int) < m := by omega
      obtain ⟨c, hc⟩ : ∃ c, s[q]? = some c := ⟨_, List.getElem?_eq_getElem (by rw [HM.out]; exact hlt)⟩
      obtain ⟨hql, hcg⟩ := bs_get s q c hc
      have hsp := setLen_at (s.drop p) k c (by rw [HU.out]; exact hk) (by rw [List.getElem?_drop, HQ.out]; exact hc)
      rw [HU.out, List.drop_drop, HQ.out] at hsp
      have HSP : Hid (k < u ↔ (setB c && !stp (s.drop q)) = true) := hsp
      have kk := kc.out c
      have kq := kp.out q
      have hfr := bs_from s q (by rw [HM.out]; omega)
      have hw1 : IntKind.i64.wrap ((q : Int) + 1) = (q : Int) + 1 := by rw [IntKind.wrap_i64]; omega
      obtain ⟨T, hT⟩ : ∃ T, s.drop q = T := ⟨_, rfl⟩
      rw [hT] at kq HSP hfr
      clear hsp hc hT
      cases hb : setB c with
      | true =>
        rw [hb] at kk HSP
        clear hb
        cases hd : stp T with
        | false =>
          have hku := HSP.out.2 (by rw [hd]; rfl)
          rw [hd] at kq
          clear hd
          go_wp2_with fail
          refine kk.mono ?_
          rintro e w1 ⟨rfl, rfl⟩
          clear kk
          go_wp2_with fail
          refine kq.mono ?_
          rintro e w1 ⟨rfl, rfl⟩
          clear kq
          go_wp2
          go_roundw
          case rel => exact ⟨k + 1, hku, by have := HQ.out; go_num, by first | rfl | trivial⟩
          case measure => simp [intOf]; omega
        | true =>
          have hku : k = u := by
            have h1 : ¬ k < u := fun h => by have := HSP.out.1 h; rw [hd] at this; cases this
            omega
          have HR : Hid (p + u = q) := by rw [← hku]; exact HQ
          rw [hd] at kq
          clear hd hku
          go_wp2_with fail
          refine kk.mono ?_
          rintro e w1 ⟨rfl, rfl⟩
          clear kk
          go_wp2_with fail
          refine kq.mono ?_
          rintro e w1 ⟨rfl, rfl⟩
          clear kq
          go_wp2
          go_ret
          refine ⟨?_, rfl⟩
          have hz := HR.out
          show Ending.returned (Value.int .i64 (q : Int)) = Ending.returned (Value.int .i64 _)
          first | rfl | (congr 2; omega)
      | false =>
        have hku : k = u := by
          have h1 : ¬ k < u := fun h => by have := HSP.out.1 h; rw [hb] at this; cases this
          omega
        have HR : Hid (p + u = q) := by rw [← hku]; exact HQ
        rw [hb] at kk
        clear hb hku kq hfr
        go_wp2_with fail
        refine kk.mono ?_
        rintro e w1 ⟨rfl, rfl⟩
        clear kk
        go_wp2
        go_ret
        refine ⟨?_, rfl⟩
        have hz := HR.out
        show Ending.returned (Value.int .i64 (q : Int)) = Ending.returned (Value.int .i64 _)
        first | rfl | (congr 2; omega)
    · have hlt' : ¬ (q : Int) < m := by omega
      have HR : Hid (p + u = q) := by unfold Hid; have := HQ.out; omega
      go_wp2
      go_ret
      refine ⟨?_, rfl⟩
      have hz := HR.out
      show Ending.returned (Value.int .i64 (q : Int)) = Ending.returned (Value.int .i64 _)
      first | rfl | (congr 2; omega)
end Go.Proofs.YtdnhhmnllhlbbaaGreatDoor
