/-
  What is proved here: of what is chosen both sides have values.
-/
import Derived.Test.YthkliicmoandmaaGreatDoorDh
import Derived.Test.YthkliicmoandmaaGreatDoorCq
namespace Go.Proofs.YthkliicmoandmaaGreatDoor
open Go.RowKit Go.Shelf
set_option linter.unusedVariables false
set_option linter.unusedSimpArgs false

theorem ch_zero1 : ∀ r, St.ch r 0 = 1
  | 0 => by decide
  | r + 1 => by unfold St.ch; rw [if_pos rfl]; exact ch_zero1 r
/-- What several sets say of their numbers. -/
theorem sev_gap {d : MD} (h : sevB d = true) (hs : d.set = true) : St.RightD (sdM d) ∧ d.lo.length < d.up.length ∧ (d.lo.length : Int) ≤ d.least ∧ d.least ≤ d.most ∧ d.most ≤ d.up.length ∧ d.least < d.up.length ∧ (d.lo.length : Int) < d.most := by
  obtain ⟨hR, hl, hle⟩ := sev_set h hs
  have hz := sev_size d
  rw [h] at hz
  simp only [Bool.true_eq, Bool.and_eq_true, decide_eq_true_eq] at hz
  have hc : 1 < St.countD (sdM d) := by have := hz.2; unfold sizA at this; rwa [if_pos hs] at this
  rw [St.count_right hR] at hc
  have hn : 1 < St.NSd (sdM d) := by omega
  obtain ⟨_, _, s1, s2, s3, s4⟩ := id hR
  rcases s4 with ⟨e1, e2, _⟩ | ⟨e1, e2, e3⟩
  · have q1 : d.least = 1 := e1
    have q2 : d.most = 0 := e2
    omega
  have a1 : (d.lo.length : Int) ≤ d.least := e1
  have a3 : d.most ≤ d.up.length := e3
  refine ⟨hR, hl, a1, hle, a3, ?_, ?_⟩
  · rcases Int.lt_or_le d.least d.up.length with q | q
    · exact q
    · exfalso
      have hone : St.NSd (sdM d) = 1 := by
        show St.NS (d.up.length - d.lo.length) d.lo.length d.least d.most = 1
        unfold St.NS
        rw [St.sm_one (d.up.length - d.lo.length) _ (by omega) (fun i hi hne => by unfold St.nsf; rw [if_neg (by omega)])]
        unfold St.nsf
        rw [if_pos (by omega), St.ch_last]
      omega
  · rcases Int.lt_or_le (d.lo.length : Int) d.most with q | q
    · exact q
    · exfalso
      have hone : St.NSd (sdM d) = 1 := by
        show St.NS (d.up.length - d.lo.length) d.lo.length d.least d.most = 1
        unfold St.NS
        rw [St.sm_one 0 _ (by omega) (fun i hi hne => by unfold St.nsf; rw [if_neg (by omega)])]
        unfold St.nsf
        rw [if_pos (by omega), ch_zero1]
      omega
theorem taken_sev {d : MD} (h : sevB d = true) (hs : d.set = true) : St.takenD (sdM d) = St.TD d.lo d.up d.least d.most := by
  obtain ⟨hR, g1, g2, g3, g4, g5, g6⟩ := sev_gap h hs
  obtain ⟨_, _, s1, s2, s3, s4⟩ := id hR
  unfold St.takenD
  rw [if_pos hR]
  have b1 : (sdM d).lo = d.lo := rfl
  have b2 : (sdM d).up = d.up := rfl
  have b3 : (sdM d).least = d.least := rfl
  have b4 : (sdM d).most = d.most := rfl
  have hsub := St.right_sub hR
  rw [b1, b2] at hsub
  rw [b1] at s1
  rw [b2] at s2
  rw [b1, b2, b3, b4]
  rcases St.tight_cases d.least d.most s1 s2 hsub with ⟨e, a⟩ | ⟨e, a, b⟩ | ⟨e, a, b, c⟩ | ⟨e, a, b⟩
  · omega
  · omega
  · omega
  · rw [e]
    have m1 : max d.least (d.lo.length : Int) = d.least := by omega
    have m2 : min d.most (d.up.length : Int) = d.most := by omega
    rw [m1, m2]
theorem siz_of {s : St.SD} (h : St.RightD s) : sizA (ofSD s) = min (St.NSd s) 4611686018427387904 := by
  unfold sizA
  rw [sdM_of h.2.1, if_pos (show (ofSD s).set = true from h.1), St.count_right h]
theorem set_both {d : MD} (h : sevB d = true) (hs : d.set = true) {n : Int} (hn : n ∈ freeL d) : 0 < sizA (ofSD (St.mustD (sdM d) n)) ∧ 0 < sizA (ofSD (St.notD (sdM d) n)) := by
  obtain ⟨hR, g1, g2, g3, g4, g5, g6⟩ := sev_gap h hs
  have hT := taken_sev h hs
  obtain ⟨_, _, s1, s2, s3, s4⟩ := id hR
  have b1 : (sdM d).lo = d.lo := rfl
  have b2 : (sdM d).up = d.up := rfl
  have hsub := St.right_sub hR
  rw [b1, b2] at hsub
  rw [b1] at s1
  rw [b2] at s2
  have hm : n ∈ d.up ∧ ¬ n ∈ d.lo := by
    unfold freeL at hn
    rw [St.tkS_yes s1, St.tkS_yes s2] at hn
    exact (St.less_mem _ _ _).1 hn
  have ht1 : St.tkS [n] = [n] := St.tkS_one s2 hm.1
  rw [siz_of (St.must_right _ _), siz_of (St.not_right _ _)]
  constructor
  · have e : St.mustD (sdM d) n = St.tightD (St.joinL d.lo [n]) d.up d.least d.most := by
      unfold St.mustD
      rw [hT, ht1]
      show (if d.up.contains n = true then _ else _) = _
      rw [if_pos (by simpa using hm.1)]
      rfl
    obtain ⟨j1, j2⟩ := St.join_one_set s1 s2 hsub hm.1
    have hjl : (St.joinL d.lo [n]).length = d.lo.length + 1 := by
      rw [St.join_len]
      have : St.lessL [n] d.lo = [n] := by unfold St.lessL; simp [hm.2]
      rw [this]; rfl
    rw [e, St.NS_tight _ _ j1 s2 j2]
    have hpos : 1 ≤ St.NS (d.up.length - (d.lo.length + 1)) (d.lo.length + 1) d.least d.most := by
      rcases Int.le_total d.least (d.lo.length + 1) with q | q
      · exact ns_pos _ _ _ _ 0 (by omega) (by omega)
      · exact ns_pos _ _ _ _ (d.least - (d.lo.length + 1)).toNat (by omega) (by omega)
    have e2 : St.NSd (St.TD (St.joinL d.lo [n]) d.up d.least d.most) = St.NS (d.up.length - (d.lo.length + 1)) (d.lo.length + 1) d.least d.most := by
      show St.NS (d.up.length - (St.joinL d.lo [n]).length) (St.joinL d.lo [n]).length d.least d.most = _
      rw [hjl]
    rw [e2]
    omega
  · have e : St.notD (sdM d) n = St.tightD d.lo (St.lessL d.up [n]) d.least d.most := by
      unfold St.notD
      rw [hT, ht1]
      show (if d.lo.contains n = true then _ else _) = _
      rw [if_neg (by simpa using hm.2)]
      rfl
    have l1 : St.IsSet (St.lessL d.up [n]) := St.less_one_set s2 _
    have l2 : ∀ x ∈ d.lo, x ∈ St.lessL d.up [n] := fun x hx => (St.less_mem _ _ _).2 ⟨hsub x hx, fun q => hm.2 (by rw [← List.mem_singleton.1 q]; exact hx)⟩
    have hll : (St.lessL d.up [n]).length + 1 = d.up.length := St.less_len (St.set_pw s2) hm.1
    rw [e, St.NS_tight _ _ s1 l1 l2]
    have hpos : 1 ≤ St.NS ((St.lessL d.up [n]).length - d.lo.length) d.lo.length d.least d.most := ns_pos _ _ _ _ (d.least - d.lo.length).toNat (by omega) (by omega)
    have e2 : St.NSd (St.TD d.lo (St.lessL d.up [n]) d.least d.most) = St.NS ((St.lessL d.up [n]).length - d.lo.length) d.lo.length d.least d.most := rfl
    rw [e2]
    omega
/-- A decision that can have been chosen. -/
def Tried (d : MD) (op n : Int) : Prop := if d.set then op = 4 ∧ n ∈ freeL d else (op = 0 ∧ n ∈ Dm.vals d.r) ∨ ((op = 2 ∨ op = 3) ∧ loM d ≤ n ∧ n < hiM d)
theorem nthR_mem : ∀ {l : List Dm.Rg} {n : Int}, (∀ r ∈ l, r.1 ≤ r.2) → 0 ≤ n → n < Dm.sizeR l → nthR l n ∈ Dm.vals l
  | [], n, _, h0, h1 => by unfold Dm.sizeR at h1; simp at h1; omega
  | r :: t, n, ho, h0, h1 => by
    have e : Dm.vals (r :: t) = Dm.span r.1 r.2 ++ Dm.vals t := by unfold Dm.vals; rw [List.flatMap_cons]
    rw [e]
    unfold nthR
    split
    · rename_i hl
      exact List.mem_append.2 (.inl ((Dm.mem_span _ _ _).2 (by omega)))
    · rename_i hl
      refine List.mem_append.2 (.inr (nthR_mem (fun q hq => ho q (by simp [hq])) (by omega) ?_))
      unfold Dm.sizeR at h1 ⊢
      simp only [List.map_cons, List.sum_cons] at h1
      omega
theorem num_facts {d : MD} (h : sevB d = true) (hs : d.set = false) : Dm.Right d.r ∧ 0 < d.r.length ∧ 2 ≤ Dm.sizeR d.r ∧ loM d ∈ Dm.vals d.r ∧ hiM d ∈ Dm.vals d.r ∧ loM d < hiM d ∧ ∀ x ∈ Dm.vals d.r, -1000000 ≤ x ∧ x ≤ 1000000 := by
  obtain ⟨hl, hr⟩ := sev_num h hs
  obtain ⟨ho, hi⟩ := Dm.right_ord hr
  have hz := sev_size d
  rw [h] at hz
  simp only [Bool.true_eq, Bool.and_eq_true, decide_eq_true_eq] at hz
  have hsz : 1 < Dm.sizeR d.r := by have := hz.2; unfold sizA at this; rw [if_neg (by rw [hs]; decide), Dm.tk_yes hr] at this; exact this
  have hl1 : d.r.length - 1 < d.r.length := by omega
  have m1 : loM d ∈ Dm.vals d.r := (Dm.mem_vals' _ _).2 ⟨d.r[0], List.getElem_mem hl, by unfold loM Dm.lo; rw [List.getElem?_eq_getElem hl]; exact Int.le_refl _, by have := ho.1 _ (List.getElem_mem hl); unfold loM Dm.lo; rw [List.getElem?_eq_getElem hl]; exact this⟩
  have m2 : hiM d ∈ Dm.vals d.r := (Dm.mem_vals' _ _).2 ⟨d.r[d.r.length - 1], List.getElem_mem hl1, by have := ho.1 _ (List.getElem_mem hl1); unfold hiM Dm.hi; rw [List.getElem?_eq_getElem hl1]; exact this, by unfold hiM Dm.hi; rw [List.getElem?_eq_getElem hl1]; exact Int.le_refl _⟩
  have hb : ∀ x ∈ Dm.vals d.r, -1000000 ≤ x ∧ x ≤ 1000000 := fun x hx => by
    obtain ⟨r, q1, q2⟩ := (Dm.mem_vals' _ _).1 hx
    have := hi r q1
    omega
  refine ⟨hr, hl, by omega, m1, m2, ?_, hb⟩
  rcases Int.lt_or_le (loM d) (hiM d) with q | q
  · exact q
  · exfalso
    have hall : ∀ x ∈ Dm.vals d.r, loM d ≤ x ∧ x ≤ hiM d := fun x hx => by
      obtain ⟨r, q1, q2⟩ := (Dm.mem_vals' _ _).1 hx
      obtain ⟨i, hi', rfl⟩ := List.mem_iff_getElem.1 q1
      have c1 : loM d ≤ d.r[i].1 := by
        unfold loM Dm.lo
        rw [List.getElem?_eq_getElem hl]
        show d.r[0].1 ≤ _
        rcases Nat.eq_zero_or_pos i with e | e
        · subst e; exact Int.le_refl _
        · have := (List.pairwise_iff_getElem.1 ho.2) 0 i hl hi' e
          have := ho.1 _ (List.getElem_mem hl)
          omega
      have c2 : d.r[i].2 ≤ hiM d := by
        unfold hiM Dm.hi
        rw [List.getElem?_eq_getElem hl1]
        show _ ≤ d.r[d.r.length - 1].2
        rcases Nat.lt_or_ge i (d.r.length - 1) with e | e
        · have := (List.pairwise_iff_getElem.1 ho.2) i (d.r.length - 1) hi' hl1 e
          have := ho.1 _ (List.getElem_mem hl1)
          omega
        · obtain rfl : i = d.r.length - 1 := by omega
          exact Int.le_refl _
      omega
    have hpw := vals_pw ho
    rw [Dm.sizeR_vals ho.1] at hsz
    have hlen : 1 < (Dm.vals d.r).length := by omega
    have p := (List.pairwise_iff_getElem.1 hpw) 0 1 (by omega) hlen (by omega)
    have q1 := hall _ (List.getElem_mem (show 0 < (Dm.vals d.r).length by omega))
    have q2 := hall _ (List.getElem_mem hlen)
    omega
theorem tried_num {d : MD} (h : sevB d = true) (hs : d.set = false) (how : Int) (R : List Int) : Tried d (numA how d.r R).1.1 (numA how d.r R).1.2 := by
  obtain ⟨hr, hl, hsz, m1, m2, hlt, hb⟩ := num_facts h hs
  have ho := (Dm.right_ord hr).1
  unfold Tried
  rw [hs]
  simp only [Bool.false_eq_true, if_false]
  unfold numA
  rw [Dm.tk_yes hr]
  split
  · exact .inl ⟨rfl, nthR_mem ho.1 (by omega) (by omega)⟩
  split
  · have := next_in R (m := Dm.sizeR d.r) (by omega)
    exact .inl ⟨rfl, nthR_mem ho.1 this.1 this.2⟩
  have l1 := hb _ m1
  have l2 := hb _ m2
  unfold numM
  split
  · exact .inl ⟨rfl, m2⟩
  split
  · refine .inr ⟨.inl rfl, ?_, ?_⟩
    · show loM d ≤ (loM d + hiM d) / 2; omega
    · show (loM d + hiM d) / 2 < hiM d; omega
  split
  · refine .inr ⟨.inr rfl, ?_, ?_⟩
    · show loM d ≤ (loM d + hiM d) / 2; omega
    · show (loM d + hiM d) / 2 < hiM d; omega
  · exact .inl ⟨rfl, m1⟩
theorem tried_set {d : MD} (h : sevB d = true) (hs : d.set = true) (how : Int) (R : List Int) : Tried d (elemA how (freeL d) R).1.1 (elemA how (freeL d) R).1.2 := by
  obtain ⟨f1, f2⟩ := free_pos h hs
  unfold Tried
  rw [if_pos hs]
  have hmem : ∀ i, i < (freeL d).length → St.nth (freeL d) i ∈ freeL d := fun i hi => List.mem_of_getElem? (nth_get hi)
  unfold elemA
  split
  · exact ⟨rfl, hmem _ (by omega)⟩
  split
  · have := next_in R (m := ((freeL d).length : Int)) (by omega)
    exact ⟨rfl, hmem _ (by omega)⟩
  · exact ⟨rfl, hmem 0 f1⟩
theorem num_size_pos {d : MD} {op n x : Int} (hr : Dm.Right (numR d.r op n)) (hx : x ∈ Dm.vals (numR d.r op n)) : 0 < sizA ⟨false, numR d.r op n, [], [], 0, 0⟩ := by
  unfold sizA
  simp only [Bool.false_eq_true, if_false]
  rw [Dm.tk_yes hr, Dm.sizeR_vals (Dm.right_ord hr).1.1]
  have := List.length_pos_of_mem hx
  omega
theorem num_mem3 {l : List Dm.Rg} {op n x : Int} (h1 : op ≠ 1) (hb : ∀ x ∈ Dm.vals (Dm.tk l), -1000000 ≤ x ∧ x ≤ 1000000) : x ∈ Dm.vals (numR l op n) ↔ x ∈ Dm.vals (Dm.tk l) ∧ keB op n x = true := by
  unfold numR keB
  split
  · rw [Dm.mem_cutL]; simp; intro _; omega
  (try rw [if_neg h1, if_neg h1])
  split
  · rw [Dm.mem_cutL]; simp; intro hx; have := hb x hx; omega
  · rw [Dm.mem_cutL]; simp; intro hx; have := hb x hx; omega
theorem num_right3 {l : List Dm.Rg} {op n : Int} (hl : Dm.Right l) (h1 : op ≠ 1) : Dm.Right (numR l op n) := by
  obtain ⟨ho, hi⟩ := Dm.right_ord hl
  have hb : ∀ x ∈ Dm.vals (Dm.tk l), -1000000 ≤ x ∧ x ≤ 1000000 := fun x hx => by
    rw [Dm.tk_yes hl] at hx
    obtain ⟨r, q1, q2⟩ := (Dm.mem_vals' _ _).1 hx
    have := hi r q1
    omega
  have hno := num_ord (l := l) (op := op) (n := n)
  refine Dm.ord_right hno ?_ ?_
  · intro r hr
    have h2 := hno.1 r hr
    have m1 : r.1 ∈ Dm.vals (numR l op n) := (Dm.mem_vals' _ _).2 ⟨r, hr, Int.le_refl _, h2⟩
    have m2 : r.2 ∈ Dm.vals (numR l op n) := (Dm.mem_vals' _ _).2 ⟨r, hr, h2, Int.le_refl _⟩
    have b1 := hb _ ((num_mem3 h1 hb).1 m1).1
    have b2 := hb _ ((num_mem3 h1 hb).1 m2).1
    constructor <;> omega
  · have hc : ∀ a b, (Dm.cutL (Dm.tk l) a b).length ≤ 4096 := fun a b => Nat.le_trans (List.length_filterMap_le _ _) (Dm.tk_right l).1
    unfold numR
    split
    · exact hc _ _
    (try rw [if_neg h1])
    split <;> exact hc _ _
/-- Both sides of what is tried. -/
theorem tried_both {d : MD} {op n : Int} (h : sevB d = true) (ht : Tried d op n) : (resM d op n).2 = 0 ∧ sizA (resM d op n).1 ≠ 0 ∧ (d.r.length < 4095 → sizA (resM d (otM op) n).1 ≠ 0) := by
  have hr := (sev_right h).1
  unfold Tried at ht
  cases hs : d.set
  · rw [hs] at ht
    simp only [Bool.false_eq_true, if_false] at ht
    obtain ⟨hR, hl, hsz, m1, m2, hlt, hb⟩ := num_facts h hs
    have hf : fitM op d.set = true := by rw [hs]; rcases ht with ⟨rfl, _⟩ | ⟨rfl | rfl, _⟩ <;> decide
    have h1 : op ≠ 1 := by rcases ht with ⟨rfl, _⟩ | ⟨rfl | rfl, _⟩ <;> decide
    have e1 := res_num (n := n) hr hf hs
    have e2 := res_num (n := n) hr (by rw [fit_other]; exact hf) hs
    have hbT : ∀ x ∈ Dm.vals (Dm.tk d.r), -1000000 ≤ x ∧ x ≤ 1000000 := by rw [Dm.tk_yes hR]; exact hb
    have h4 : ¬ op = 4 := by rcases ht with ⟨rfl, _⟩ | ⟨rfl | rfl, _⟩ <;> decide
    have h5 : ¬ op = 5 := by rcases ht with ⟨rfl, _⟩ | ⟨rfl | rfl, _⟩ <;> decide
    refine ⟨?_, ?_, ?_⟩
    · unfold resM
      rw [if_neg (by simp [hr]), if_neg (by simp [hf]), if_neg h4, if_neg h5]
    · rw [e1]
      have key : ∃ x, x ∈ Dm.vals (numR d.r op n) := by
        rcases ht with ⟨rfl, hm⟩ | ⟨rfl | rfl, q1, q2⟩
        · exact ⟨n, (num_mem3 (by decide) hbT).2 ⟨by rw [Dm.tk_yes hR]; exact hm, by simp [keB]⟩⟩
        · exact ⟨loM d, (num_mem3 (by decide) hbT).2 ⟨by rw [Dm.tk_yes hR]; exact m1, by simp [keB]; omega⟩⟩
        · exact ⟨hiM d, (num_mem3 (by decide) hbT).2 ⟨by rw [Dm.tk_yes hR]; exact m2, by simp [keB]; omega⟩⟩
      obtain ⟨x, hx⟩ := key
      have := num_size_pos (num_right3 hR h1) hx
      omega
    · intro hl4
      rw [e2]
      have key : ∃ x, x ∈ Dm.vals (numR d.r (otM op) n) := by
        have hno : ∀ x, keB (otM op) n x = !keB op n x := fun x => ke_other (by rw [← hs]; exact hf)
        rcases ht with ⟨rfl, hm⟩ | ⟨rfl | rfl, q1, q2⟩
        · by_cases hq : n = loM d
          · exact ⟨hiM d, (num_mem hl4).2 ⟨by rw [Dm.tk_yes hR]; exact m2, by rw [hno]; simp [keB]; omega⟩⟩
          · exact ⟨loM d, (num_mem hl4).2 ⟨by rw [Dm.tk_yes hR]; exact m1, by rw [hno]; simp [keB]; omega⟩⟩
        · exact ⟨hiM d, (num_mem hl4).2 ⟨by rw [Dm.tk_yes hR]; exact m2, by rw [hno]; simp [keB]; omega⟩⟩
        · exact ⟨loM d, (num_mem hl4).2 ⟨by rw [Dm.tk_yes hR]; exact m1, by rw [hno]; simp [keB]; omega⟩⟩
      obtain ⟨x, hx⟩ := key
      have := num_size_pos (num_right hl4) hx
      omega
  · rw [if_pos hs] at ht
    obtain ⟨rfl, hm⟩ := ht
    obtain ⟨p1, p2⟩ := set_both h hs hm
    have hf : fitM 4 d.set = true := by rw [hs]; decide
    rcases res_set (n := n) hr hf hs with ⟨_, a1, a2⟩ | ⟨q, _⟩
    · rw [a1, a2]
      exact ⟨rfl, by simp only; omega, fun _ => by simp only; omega⟩
    · exact absurd q (by decide)
end Go.Proofs.YthkliicmoandmaaGreatDoor
