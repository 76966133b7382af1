/-
  What is proved here: the reference tells the same open variables.
  What is proved here: of what is chosen both sides have values.
  What is proved here: lists of domains that are lent, and held against each other.
  What is proved here: a list of domains that is lent.
-/
import Derived.Test.YthkliicmoandmaaGreatDoorDej
import Derived.Test.YthkliicmoandmaaGreatDoorCij
import Derived.Test.YthkliicmoandmaaGreatDoorYCaj
import Derived.Test.YthkliicmoandmaaGreatDoorZStj
import Derived.Deep.RegionHeld3
import Derived.Test.YthkliicmoandmaaGreatDoorYTcj
import Derived.OwnWalk
namespace Go.Proofs.YthkliicmoandmaaGreatDoor
open Go.RowKit Go.Shelf
set_option linter.unusedVariables false
set_option linter.unusedSimpArgs false

theorem ch_pos : ∀ (r i : Nat), i ≤ r → 1 ≤ St.ch r i
  | 0, i, h => by
    obtain rfl : i = 0 := by omega
    decide
  | r + 1, i, h => by
    unfold St.ch
    split
    · exact ch_pos r 0 (Nat.zero_le _)
    · have a1 := St.ch_nonneg r i
      have a2 := ch_pos r (i - 1) (by omega)
      omega
theorem sm_ge {f : Nat → Int} (hf : ∀ i, 0 ≤ f i) : ∀ (n i : Nat), i < n → f i ≤ St.sm f n
  | 0, i, h => absurd h (by omega)
  | n + 1, i, h => by
    unfold St.sm
    have h0 := St.sm_nonneg (f := f) n (fun j _ => hf j)
    rcases Nat.lt_or_ge i n with q | q
    · have := sm_ge hf n i q
      have := hf n
      omega
    · obtain rfl : i = n := by omega
      omega
theorem ns_pos (r n : Nat) (least most : Int) (i : Nat) (hi : i < r + 1) (h : least ≤ (n : Int) + i ∧ (n : Int) + i ≤ most) : 1 ≤ St.NS r n least most := by
  have h1 := sm_ge (fun j => St.nsf_nonneg r n least most j) (r + 1) i hi
  have h2 : St.nsf r n least most i = St.ch r i := by unfold St.nsf; rw [if_pos h]
  have h3 := ch_pos r i (by omega)
  unfold St.NS
  omega
theorem sev_size (d : MD) : sevB d = (rightM d && decide (1 < sizA d)) := by
  unfold sevB
  cases hR : rightM d
  · rfl
  · simp only [Bool.true_and]
    unfold emptyA onlyA sizA
    unfold rightM at hR
    cases hs : d.set
    · simp only [Bool.false_eq_true, if_false]
      rw [hs] at hR
      simp only [Bool.false_eq_true, if_false] at hR
      unfold rightW at hR
      simp only [Bool.and_eq_true] at hR
      have hr : Dm.Right d.r := by have := hR.1.1.1.1; unfold Dm.rightB at this; simpa using this
      have ho := (Dm.right_ord hr).1
      unfold emptyW onlyW
      rw [Dm.tk_yes hr, Dm.sizeR_vals ho.1]
      rcases Nat.eq_zero_or_pos d.r.length with q | q
      · have e : d.r = [] := List.eq_nil_of_length_eq_zero q
        rw [e]; decide
      · have hm : Dm.lo d.r 0 ∈ Dm.vals d.r := (Dm.mem_vals' _ _).2 ⟨d.r[0], List.getElem_mem q, by unfold Dm.lo; rw [List.getElem?_eq_getElem q]; exact Int.le_refl _, by have := ho.1 _ (List.getElem_mem q); unfold Dm.lo; rw [List.getElem?_eq_getElem q]; exact this⟩
        have hl := List.length_pos_of_mem hm
        have q2 : ¬ d.r.length = 0 := by omega
        by_cases h1 : ((Dm.vals d.r).length : Int) = 1
        · rw [if_pos h1]; simp [q2, h1]
        · rw [if_neg h1]
          have h3 : (1 : Int) < ((Dm.vals d.r).length : Int) := by omega
          simp only [q2, decide_false, Bool.not_false, Bool.true_and, h3, decide_true]
    · simp only [if_true]
      rw [if_pos hs] at hR
      have hr : St.RightD (sdM d) := by unfold St.rightD at hR; simpa using hR
      have hc := St.fixed_one (sdM d)
      have hcr := St.count_right hr
      obtain ⟨_, _, s1, s2, s3, s4⟩ := id hr
      rcases s4 with ⟨e1, e2, e3⟩ | ⟨e1, e2, e3⟩
      · have q1 : d.least = 1 := e1
        have q2 : d.most = 0 := e2
        have hz : St.NSd (sdM d) = 0 := by
          unfold St.NSd
          rw [e1, e2]
          exact St.NS_empty _ _ _ _ (fun i _ h => by omega)
        rw [hz] at hcr
        rw [hcr, q1, q2]; simp; omega
      · have q : ¬ d.most < d.least := by have : d.least ≤ d.most := e2; omega
        have hn : 0 < St.countD (sdM d) := by
          rw [hcr]
          have hlen := St.set_sub_len s1 s2 (St.right_sub hr)
          have hk : ∃ i : Nat, i < (sdM d).up.length - (sdM d).lo.length + 1 ∧ ((sdM d).least : Int) = ((sdM d).lo.length : Int) + i := ⟨((sdM d).least - (sdM d).lo.length).toNat, by omega, by omega⟩
          obtain ⟨i, hi, hle⟩ := hk
          have := ns_pos ((sdM d).up.length - (sdM d).lo.length) (sdM d).lo.length (sdM d).least (sdM d).most i hi (by omega)
          unfold St.NSd
          omega
        rcases hc with ⟨c1, c2, _⟩ | ⟨c1, c2⟩
        · rw [c2, c1]; simp
        · rw [c2]
          have : 1 < St.countD (sdM d) := by omega
          simp [q, this]

end Go.Proofs.YthkliicmoandmaaGreatDoor

namespace Go.Proofs.YthkliicmoandmaaGreatDoor
open Go.RowKit Go.Shelf
set_option linter.unusedVariables false
set_option linter.unusedSimpArgs false

theorem ch_zero1 : ∀ r, St.ch r 0 = 1
  | 0 => by decide
  | r + 1 => by unfold St.ch; rw [if_pos rfl]; exact ch_zero1 r
/-- What several sets say of their numbers. -/
theorem sev_gap {d : MD} (h : sevB d = true) (hs : d.set = true) : St.RightD (sdM d) ∧ d.lo.length < d.up.length ∧ (d.lo.length : Int) ≤ d.least ∧ d.least ≤ d.most ∧ d.most ≤ d.up.length ∧ d.least < d.up.length ∧ (d.lo.length : Int) < d.most := by
  obtain ⟨hR, hl, hle⟩ := sev_set h hs
  have hz := sev_size d
  rw [h] at hz
  simp only [Bool.true_eq, Bool.and_eq_true, decide_eq_true_eq] at hz
  have hc : 1 < St.countD (sdM d) := by have := hz.2; unfold sizA at this; rwa [if_pos hs] at this
  rw [St.count_right hR] at hc
  have hn : 1 < St.NSd (sdM d) := by omega
  obtain ⟨_, _, s1, s2, s3, s4⟩ := id hR
  rcases s4 with ⟨e1, e2, _⟩ | ⟨e1, e2, e3⟩
  · have q1 : d.least = 1 := e1
    have q2 : d.most = 0 := e2
    omega
  have a1 : (d.lo.length : Int) ≤ d.least := e1
  have a3 : d.most ≤ d.up.length := e3
  refine ⟨hR, hl, a1, hle, a3, ?_, ?_⟩
  · rcases Int.lt_or_le d.least d.up.length with q | q
    · exact q
    · exfalso
      have hone : St.NSd (sdM d) = 1 := by
        show St.NS (d.up.length - d.lo.length) d.lo.length d.least d.most = 1
        unfold St.NS
        rw [St.sm_one (d.up.length - d.lo.length) _ (by omega) (fun i hi hne => by unfold St.nsf; rw [if_neg (by omega)])]
        unfold St.nsf
        rw [if_pos (by omega), St.ch_last]
      omega
  · rcases Int.lt_or_le (d.lo.length : Int) d.most with q | q
    · exact q
    · exfalso
      have hone : St.NSd (sdM d) = 1 := by
        show St.NS (d.up.length - d.lo.length) d.lo.length d.least d.most = 1
        unfold St.NS
        rw [St.sm_one 0 _ (by omega) (fun i hi hne => by unfold St.nsf; rw [if_neg (by omega)])]
        unfold St.nsf
        rw [if_pos (by omega), ch_zero1]
      omega
theorem taken_sev {d : MD} (h : sevB d = true) (hs : d.set = true) : St.takenD (sdM d) = St.TD d.lo d.up d.least d.most := by
  obtain ⟨hR, g1, g2, g3, g4, g5, g6⟩ := sev_gap h hs
  obtain ⟨_, _, s1, s2, s3, s4⟩ := id hR
  unfold St.takenD
  rw [if_pos hR]
  have b1 : (sdM d).lo = d.lo := rfl
  have b2 : (sdM d).up = d.up := rfl
  have b3 : (sdM d).least = d.least := rfl
  have b4 : (sdM d).most = d.most := rfl
  have hsub := St.right_sub hR
  rw [b1, b2] at hsub
  rw [b1] at s1
  rw [b2] at s2
  rw [b1, b2, b3, b4]
  rcases St.tight_cases d.least d.most s1 s2 hsub with ⟨e, a⟩ | ⟨e, a, b⟩ | ⟨e, a, b, c⟩ | ⟨e, a, b⟩
  · omega
  · omega
  · omega
  · rw [e]
    have m1 : max d.least (d.lo.length : Int) = d.least := by omega
    have m2 : min d.most (d.up.length : Int) = d.most := by omega
    rw [m1, m2]
theorem siz_of {s : St.SD} (h : St.RightD s) : sizA (ofSD s) = min (St.NSd s) 4611686018427387904 := by
  unfold sizA
  rw [sdM_of h.2.1, if_pos (show (ofSD s).set = true from h.1), St.count_right h]
theorem set_both {d : MD} (h : sevB d = true) (hs : d.set = true) {n : Int} (hn : n ∈ freeL d) : 0 < sizA (ofSD (St.mustD (sdM d) n)) ∧ 0 < sizA (ofSD (St.notD (sdM d) n)) := by
  obtain ⟨hR, g1, g2, g3, g4, g5, g6⟩ := sev_gap h hs
  have hT := taken_sev h hs
  obtain ⟨_, _, s1, s2, s3, s4⟩ := id hR
  have b1 : (sdM d).lo = d.lo := rfl
  have b2 : (sdM d).up = d.up := rfl
  have hsub := St.right_sub hR
  rw [b1, b2] at hsub
  rw [b1] at s1
  rw [b2] at s2
  have hm : n ∈ d.up ∧ ¬ n ∈ d.lo := by
    unfold freeL at hn
    rw [St.tkS_yes s1, St.tkS_yes s2] at hn
    exact (St.less_mem _ _ _).1 hn
  have ht1 : St.tkS [n] = [n] := St.tkS_one s2 hm.1
  rw [siz_of (St.must_right _ _), siz_of (St.not_right _ _)]
  constructor
  · have e : St.mustD (sdM d) n = St.tightD (St.joinL d.lo [n]) d.up d.least d.most := by
      unfold St.mustD
      rw [hT, ht1]
      show (if d.up.contains n = true then _ else _) = _
      rw [if_pos (by simpa using hm.1)]
      rfl
    obtain ⟨j1, j2⟩ := St.join_one_set s1 s2 hsub hm.1
    have hjl : (St.joinL d.lo [n]).length = d.lo.length + 1 := by
      rw [St.join_len]
      have : St.lessL [n] d.lo = [n] := by unfold St.lessL; simp [hm.2]
      rw [this]; rfl
    rw [e, St.NS_tight _ _ j1 s2 j2]
    have hpos : 1 ≤ St.NS (d.up.length - (d.lo.length + 1)) (d.lo.length + 1) d.least d.most := by
      rcases Int.le_total d.least (d.lo.length + 1) with q | q
      · exact ns_pos _ _ _ _ 0 (by omega) (by omega)
      · exact ns_pos _ _ _ _ (d.least - (d.lo.length + 1)).toNat (by omega) (by omega)
    have e2 : St.NSd (St.TD (St.joinL d.lo [n]) d.up d.least d.most) = St.NS (d.up.length - (d.lo.length + 1)) (d.lo.length + 1) d.least d.most := by
      show St.NS (d.up.length - (St.joinL d.lo [n]).length) (St.joinL d.lo [n]).length d.least d.most = _
      rw [hjl]
    rw [e2]
    omega
  · have e : St.notD (sdM d) n = St.tightD d.lo (St.lessL d.up [n]) d.least d.most := by
      unfold St.notD
      rw [hT, ht1]
      show (if d.lo.contains n = true then _ else _) = _
      rw [if_neg (by simpa using hm.2)]
      rfl
    have l1 : St.IsSet (St.lessL d.up [n]) := St.less_one_set s2 _
    have l2 : ∀ x ∈ d.lo, x ∈ St.lessL d.up [n] := fun x hx => (St.less_mem _ _ _).2 ⟨hsub x hx, fun q => hm.2 (by rw [← List.mem_singleton.1 q]; exact hx)⟩
    have hll : (St.lessL d.up [n]).length + 1 = d.up.length := St.less_len (St.set_pw s2) hm.1
    rw [e, St.NS_tight _ _ s1 l1 l2]
    have hpos : 1 ≤ St.NS ((St.lessL d.up [n]).length - d.lo.length) d.lo.length d.least d.most := ns_pos _ _ _ _ (d.least - d.lo.length).toNat (by omega) (by omega)
    have e2 : St.NSd (St.TD d.lo (St.lessL d.up [n]) d.least d.most) = St.NS ((St.lessL d.up [n]).length - d.lo.length) d.lo.length d.least d.most := rfl
    rw [e2]
    omega
/-- A decision that can have been chosen. -/
def Tried (d : MD) (op n : Int) : Prop := if d.set then op = 4 ∧ n ∈ freeL d else (op = 0 ∧ n ∈ Dm.vals d.r) ∨ ((op = 2 ∨ op = 3) ∧ loM d ≤ n ∧ n < hiM d)
theorem nthR_mem : ∀ {l : List Dm.Rg} {n : Int}, (∀ r ∈ l, r.1 ≤ r.2) → 0 ≤ n → n < Dm.sizeR l → nthR l n ∈ Dm.vals l
  | [], n, _, h0, h1 => by unfold Dm.sizeR at h1; simp at h1; omega
  | r :: t, n, ho, h0, h1 => by
    have e : Dm.vals (r :: t) = Dm.span r.1 r.2 ++ Dm.vals t := by unfold Dm.vals; rw [List.flatMap_cons]
    rw [e]
    unfold nthR
    split
    · rename_i hl
      exact List.mem_append.2 (.inl ((Dm.mem_span _ _ _).2 (by omega)))
    · rename_i hl
      refine List.mem_append.2 (.inr (nthR_mem (fun q hq => ho q (by simp [hq])) (by omega) ?_))
      unfold Dm.sizeR at h1 ⊢
      simp only [List.map_cons, List.sum_cons] at h1
      omega
theorem num_facts {d : MD} (h : sevB d = true) (hs : d.set = false) : Dm.Right d.r ∧ 0 < d.r.length ∧ 2 ≤ Dm.sizeR d.r ∧ loM d ∈ Dm.vals d.r ∧ hiM d ∈ Dm.vals d.r ∧ loM d < hiM d ∧ ∀ x ∈ Dm.vals d.r, -1000000 ≤ x ∧ x ≤ 1000000 := by
  obtain ⟨hl, hr⟩ := sev_num h hs
  obtain ⟨ho, hi⟩ := Dm.right_ord hr
  have hz := sev_size d
  rw [h] at hz
  simp only [Bool.true_eq, Bool.and_eq_true, decide_eq_true_eq] at hz
  have hsz : 1 < Dm.sizeR d.r := by have := hz.2; unfold sizA at this; rw [if_neg (by rw [hs]; decide), Dm.tk_yes hr] at this; exact this
  have hl1 : d.r.length - 1 < d.r.length := by omega
  have m1 : loM d ∈ Dm.vals d.r := (Dm.mem_vals' _ _).2 ⟨d.r[0], List.getElem_mem hl, by unfold loM Dm.lo; rw [List.getElem?_eq_getElem hl]; exact Int.le_refl _, by have := ho.1 _ (List.getElem_mem hl); unfold loM Dm.lo; rw [List.getElem?_eq_getElem hl]; exact this⟩
  have m2 : hiM d ∈ Dm.vals d.r := (Dm.mem_vals' _ _).2 ⟨d.r[d.r.length - 1], List.getElem_mem hl1, by have := ho.1 _ (List.getElem_mem hl1); unfold hiM Dm.hi; rw [List.getElem?_eq_getElem hl1]; exact this, by unfold hiM Dm.hi; rw [List.getElem?_eq_getElem hl1]; exact Int.le_refl _⟩
  have hb : ∀ x ∈ Dm.vals d.r, -1000000 ≤ x ∧ x ≤ 1000000 := fun x hx => by
    obtain ⟨r, q1, q2⟩ := (Dm.mem_vals' _ _).1 hx
    have := hi r q1
    omega
  refine ⟨hr, hl, by omega, m1, m2, ?_, hb⟩
  rcases Int.lt_or_le (loM d) (hiM d) with q | q
  · exact q
  · exfalso
    have hall : ∀ x ∈ Dm.vals d.r, loM d ≤ x ∧ x ≤ hiM d := fun x hx => by
      obtain ⟨r, q1, q2⟩ := (Dm.mem_vals' _ _).1 hx
      obtain ⟨i, hi', rfl⟩ := List.mem_iff_getElem.1 q1
      have c1 : loM d ≤ d.r[i].1 := by
        unfold loM Dm.lo
        rw [List.getElem?_eq_getElem hl]
        show d.r[0].1 ≤ _
        rcases Nat.eq_zero_or_pos i with e | e
        · subst e; exact Int.le_refl _
        · have := (List.pairwise_iff_getElem.1 ho.2) 0 i hl hi' e
          have := ho.1 _ (List.getElem_mem hl)
          omega
      have c2 : d.r[i].2 ≤ hiM d := by
        unfold hiM Dm.hi
        rw [List.getElem?_eq_getElem hl1]
        show _ ≤ d.r[d.r.length - 1].2
        rcases Nat.lt_or_ge i (d.r.length - 1) with e | e
        · have := (List.pairwise_iff_getElem.1 ho.2) i (d.r.length - 1) hi' hl1 e
          have := ho.1 _ (List.getElem_mem hl1)
          omega
        · obtain rfl : i = d.r.length - 1 := by omega
          exact Int.le_refl _
      omega
    have hpw := vals_pw ho
    rw [Dm.sizeR_vals ho.1] at hsz
    have hlen : 1 < (Dm.vals d.r).length := by omega
    have p := (List.pairwise_iff_getElem.1 hpw) 0 1 (by omega) hlen (by omega)
    have q1 := hall _ (List.getElem_mem (show 0 < (Dm.vals d.r).length by omega))
    have q2 := hall _ (List.getElem_mem hlen)
    omega
theorem tried_num {d : MD} (h : sevB d = true) (hs : d.set = false) (how : Int) (R : List Int) : Tried d (numA how d.r R).1.1 (numA how d.r R).1.2 := by
  obtain ⟨hr, hl, hsz, m1, m2, hlt, hb⟩ := num_facts h hs
  have ho := (Dm.right_ord hr).1
  unfold Tried
  rw [hs]
  simp only [Bool.false_eq_true, if_false]
  unfold numA
  rw [Dm.tk_yes hr]
  split
  · exact .inl ⟨rfl, nthR_mem ho.1 (by omega) (by omega)⟩
  split
  · have := next_in R (m := Dm.sizeR d.r) (by omega)
    exact .inl ⟨rfl, nthR_mem ho.1 this.1 this.2⟩
  have l1 := hb _ m1
  have l2 := hb _ m2
  unfold numM
  split
  · exact .inl ⟨rfl, m2⟩
  split
  · refine .inr ⟨.inl rfl, ?_, ?_⟩
    · show loM d ≤ (loM d + hiM d) / 2; omega
    · show (loM d + hiM d) / 2 < hiM d; omega
  split
  · refine .inr ⟨.inr rfl, ?_, ?_⟩
    · show loM d ≤ (loM d + hiM d) / 2; omega
    · show (loM d + hiM d) / 2 < hiM d; omega
  · exact .inl ⟨rfl, m1⟩
theorem tried_set {d : MD} (h : sevB d = true) (hs : d.set = true) (how : Int) (R : List Int) : Tried d (elemA how (freeL d) R).1.1 (elemA how (freeL d) R).1.2 := by
  obtain ⟨f1, f2⟩ := free_pos h hs
  unfold Tried
  rw [if_pos hs]
  have hmem : ∀ i, i < (freeL d).length → St.nth (freeL d) i ∈ freeL d := fun i hi => List.mem_of_getElem? (nth_get hi)
  unfold elemA
  split
  · exact ⟨rfl, hmem _ (by omega)⟩
  split
  · have := next_in R (m := ((freeL d).length : Int)) (by omega)
    exact ⟨rfl, hmem _ (by omega)⟩
  · exact ⟨rfl, hmem 0 f1⟩
theorem num_size_pos {d : MD} {op n x : Int} (hr : Dm.Right (numR d.r op n)) (hx : x ∈ Dm.vals (numR d.r op n)) : 0 < sizA ⟨false, numR d.r op n, [], [], 0, 0⟩ := by
  unfold sizA
  simp only [Bool.false_eq_true, if_false]
  rw [Dm.tk_yes hr, Dm.sizeR_vals (Dm.right_ord hr).1.1]
  have := List.length_pos_of_mem hx
  omega
theorem num_mem3 {l : List Dm.Rg} {op n x : Int} (h1 : op ≠ 1) (hb : ∀ x ∈ Dm.vals (Dm.tk l), -1000000 ≤ x ∧ x ≤ 1000000) : x ∈ Dm.vals (numR l op n) ↔ x ∈ Dm.vals (Dm.tk l) ∧ keB op n x = true := by
  unfold numR keB
  split
  · rw [Dm.mem_cutL]; simp; intro _; omega
  (try rw [if_neg h1, if_neg h1])
  split
  · rw [Dm.mem_cutL]; simp; intro hx; have := hb x hx; omega
  · rw [Dm.mem_cutL]; simp; intro hx; have := hb x hx; omega
theorem num_right3 {l : List Dm.Rg} {op n : Int} (hl : Dm.Right l) (h1 : op ≠ 1) : Dm.Right (numR l op n) := by
  obtain ⟨ho, hi⟩ := Dm.right_ord hl
  have hb : ∀ x ∈ Dm.vals (Dm.tk l), -1000000 ≤ x ∧ x ≤ 1000000 := fun x hx => by
    rw [Dm.tk_yes hl] at hx
    obtain ⟨r, q1, q2⟩ := (Dm.mem_vals' _ _).1 hx
    have := hi r q1
    omega
  have hno := num_ord (l := l) (op := op) (n := n)
  refine Dm.ord_right hno ?_ ?_
  · intro r hr
    have h2 := hno.1 r hr
    have m1 : r.1 ∈ Dm.vals (numR l op n) := (Dm.mem_vals' _ _).2 ⟨r, hr, Int.le_refl _, h2⟩
    have m2 : r.2 ∈ Dm.vals (numR l op n) := (Dm.mem_vals' _ _).2 ⟨r, hr, h2, Int.le_refl _⟩
    have b1 := hb _ ((num_mem3 h1 hb).1 m1).1
    have b2 := hb _ ((num_mem3 h1 hb).1 m2).1
    constructor <;> omega
  · have hc : ∀ a b, (Dm.cutL (Dm.tk l) a b).length ≤ 4096 := fun a b => Nat.le_trans (List.length_filterMap_le _ _) (Dm.tk_right l).1
    unfold numR
    split
    · exact hc _ _
    (try rw [if_neg h1])
    split <;> exact hc _ _
/-- Both sides of what is tried. -/
theorem tried_both {d : MD} {op n : Int} (h : sevB d = true) (ht : Tried d op n) : (resM d op n).2 = 0 ∧ sizA (resM d op n).1 ≠ 0 ∧ (d.r.length < 4095 → sizA (resM d (otM op) n).1 ≠ 0) := by
  have hr := (sev_right h).1
  unfold Tried at ht
  cases hs : d.set
  · rw [hs] at ht
    simp only [Bool.false_eq_true, if_false] at ht
    obtain ⟨hR, hl, hsz, m1, m2, hlt, hb⟩ := num_facts h hs
    have hf : fitM op d.set = true := by rw [hs]; rcases ht with ⟨rfl, _⟩ | ⟨rfl | rfl, _⟩ <;> decide
    have h1 : op ≠ 1 := by rcases ht with ⟨rfl, _⟩ | ⟨rfl | rfl, _⟩ <;> decide
    have e1 := res_num (n := n) hr hf hs
    have e2 := res_num (n := n) hr (by rw [fit_other]; exact hf) hs
    have hbT : ∀ x ∈ Dm.vals (Dm.tk d.r), -1000000 ≤ x ∧ x ≤ 1000000 := by rw [Dm.tk_yes hR]; exact hb
    have h4 : ¬ op = 4 := by rcases ht with ⟨rfl, _⟩ | ⟨rfl | rfl, _⟩ <;> decide
    have h5 : ¬ op = 5 := by rcases ht with ⟨rfl, _⟩ | ⟨rfl | rfl, _⟩ <;> decide
    refine ⟨?_, ?_, ?_⟩
    · unfold resM
      rw [if_neg (by simp [hr]), if_neg (by simp [hf]), if_neg h4, if_neg h5]
    · rw [e1]
      have key : ∃ x, x ∈ Dm.vals (numR d.r op n) := by
        rcases ht with ⟨rfl, hm⟩ | ⟨rfl | rfl, q1, q2⟩
        · exact ⟨n, (num_mem3 (by decide) hbT).2 ⟨by rw [Dm.tk_yes hR]; exact hm, by simp [keB]⟩⟩
        · exact ⟨loM d, (num_mem3 (by decide) hbT).2 ⟨by rw [Dm.tk_yes hR]; exact m1, by simp [keB]; omega⟩⟩
        · exact ⟨hiM d, (num_mem3 (by decide) hbT).2 ⟨by rw [Dm.tk_yes hR]; exact m2, by simp [keB]; omega⟩⟩
      obtain ⟨x, hx⟩ := key
      have := num_size_pos (num_right3 hR h1) hx
      omega
    · intro hl4
      rw [e2]
      have key : ∃ x, x ∈ Dm.vals (numR d.r (otM op) n) := by
        have hno : ∀ x, keB (otM op) n x = !keB op n x := fun x => ke_other (by rw [← hs]; exact hf)
        rcases ht with ⟨rfl, hm⟩ | ⟨rfl | rfl, q1, q2⟩
        · by_cases hq : n = loM d
          · exact ⟨hiM d, (num_mem hl4).2 ⟨by rw [Dm.tk_yes hR]; exact m2, by rw [hno]; simp [keB]; omega⟩⟩
          · exact ⟨loM d, (num_mem hl4).2 ⟨by rw [Dm.tk_yes hR]; exact m1, by rw [hno]; simp [keB]; omega⟩⟩
        · exact ⟨hiM d, (num_mem hl4).2 ⟨by rw [Dm.tk_yes hR]; exact m2, by rw [hno]; simp [keB]; omega⟩⟩
        · exact ⟨loM d, (num_mem hl4).2 ⟨by rw [Dm.tk_yes hR]; exact m1, by rw [hno]; simp [keB]; omega⟩⟩
      obtain ⟨x, hx⟩ := key
      have := num_size_pos (num_right hl4) hx
      omega
  · rw [if_pos hs] at ht
    obtain ⟨rfl, hm⟩ := ht
    obtain ⟨p1, p2⟩ := set_both h hs hm
    have hf : fitM 4 d.set = true := by rw [hs]; decide
    rcases res_set (n := n) hr hf hs with ⟨_, a1, a2⟩ | ⟨q, _⟩
    · rw [a1, a2]
      exact ⟨rfl, by simp only; omega, fun _ => by simp only; omega⟩
    · exact absurd q (by decide)
end Go.Proofs.YthkliicmoandmaaGreatDoor

namespace Go.Proofs.YthkliicmoandmaaGreatDoor
open Go.RowKit Go.Shelf
set_option linter.unusedVariables false
set_option linter.unusedSimpArgs false
namespace St

set_option maxRecDepth 100000 in
set_option maxHeartbeats 4000000 in
theorem lent_own (v : Value) (d : SD) (fr : List Int) (W : World) (h : Dr W v d fr) :
    Calls Tryz.prog 18 #[v] W fun e w' => ∃ s1 s2 s3, e = .returned (.agg #[.bool d.set, s1, s2, s3, .int .i64 d.least, .int .i64 d.most]) ∧ w'.ownsRow W.heap.size 92 2 s1 d.rn (intv fr) ∧ w'.ownsRow W.heap.size 2 1 s2 d.lo.length (intv d.lo) ∧ w'.ownsRow W.heap.size 2 1 s3 d.up.length (intv d.up) ∧ Below W.heap.size W w' := by
  obtain ⟨x0a, raa, rna, rca, a1a, n1a, c1a, a2a, n2a, c2a, x4a, x5a, rfl, HEa, HLOa, HUPa, HRa, hz1a, hz2a, hz3a⟩ := h.look
  have HFL : Hid (fr.length = rna * 2) := by
    obtain ⟨a, n, c, e, hl, _⟩ := HRa.out
    injection e with _ e2 _
    subst e2
    exact hl
  have hz3 : rna * 16 ≤ 140737488351232 := by rw [← HEa.out.2.2.2.2.2]; exact hz3a
  have HZZ : Hid (d.lo.length * 8 ≤ 140737488351232 ∧ d.up.length * 8 ≤ 140737488351232 ∧ d.rn * 16 ≤ 140737488351232) := ⟨hz1a, hz2a, hz3a⟩
  have HQ1 : Hid (d.lo.length * 8 ≤ 140737488351232) := hz1a
  have HQ2 : Hid (d.up.length * 8 ≤ 140737488351232) := hz2a
  have HQ3 : Hid (rna * 16 ≤ 140737488351232) := hz3
  clear h hz1a hz2a hz3a hz3
  obtain ⟨w0, hW0⟩ : ∃ X, ((W.alloc (Obj.cells #[.bool x0a, .slice raa rna rca, .slice a1a n1a c1a, .slice a2a n2a c2a, .int .i64 x4a, .int .i64 x5a] 50)).alloc (Obj.cells #[.bool false, .slice none 0 0, .slice none 0 0, .slice none 0 0, .int .i64 0, .int .i64 0] 50)) = X := ⟨_, rfl⟩
  have HW0 : Hid _ := hW0
  have hb0 : Below W.heap.size W w0 := by rw [← hW0]; exact (((Below.refl _ W).alloc (by simp <;> omega) _).alloc (by simp <;> omega) _)
  have HA_0 : Hid (R6 w0 W.heap.size (.bool x0a) (.slice raa rna rca) (.slice a1a n1a c1a) (.slice a2a n2a c2a) (.int .i64 x4a) (.int .i64 x5a)) := by rw [← hW0]; exact ((R6.new _ _ _ _ _ _ _).alloc _)
  have HZ_0 : Hid (R6 w0 (W.heap.size + 1) (.bool false) (.slice none 0 0) (.slice none 0 0) (.slice none 0 0) (.int .i64 0) (.int .i64 0)) := by rw [← hW0]; exact (R6.new1 _ _ _ _ _ _ _ _)
  have HSZ0 : Hid (w0.heap.size = W.heap.size + 2) := by unfold Hid; rw [← hW0]; simp
  clear hW0
  go_enter Tryz.func18, Tryz.ntmps18
  go_upto_region 1 with (fail)
  rw [HW0.out]
  obtain ⟨y0, y1, y2, y3, y4, y5⟩ := HA_0.out.cells
  have hzb := (Below.refl w0.heap.size w0).alloc (Nat.le_refl _) (Obj.cells #[.bool x0a, .slice none 0 0, .slice none 0 0, .slice none 0 0, .int .i64 x4a, .int .i64 x5a] 50)
  have hb1 := hb0.trans (hzb.mono hb0.size)
  have HG_1 : Hid _ := R6.new w0 (.bool x0a) (.slice none 0 0) (.slice none 0 0) (.slice none 0 0) (.int .i64 x4a) (.int .i64 x5a)
  have HZ_1 : Hid _ := HZ_0.out.below hzb
  have HA_1 : Hid _ := HA_0.out.below hzb
  go_upto_region 2 with (fail)
  clear hb0 HZ_0 HA_0 hzb HW0 y0 y1 y2 y3 y4 y5
  generalize w0.alloc (Obj.cells #[.bool x0a, .slice none 0 0, .slice none 0 0, .slice none 0 0, .int .i64 x4a, .int .i64 x5a] 50) = w1 at hb1 HG_1 HZ_1 HA_1 ⊢
  have hGW : W.heap.size + 1 < w0.heap.size := by rw [HSZ0.out]; omega
  generalize w0.heap.size = G at HG_1 hGW ⊢
  clear HSZ0
  obtain ⟨z0, z1, z2, z3, z4, z5⟩ := HG_1.out.cells
  obtain ⟨y0, y1, y2, y3, y4, y5⟩ := HA_1.out.cells
  go_upto_region 3 with (at_builtin; refine wpList_app_r _ rfl _ _ rfl rfl _ _ _ fr rfl (HRa.out.below hb1) HQ3.out ?_; intro v9 w2 hrow hbel; obtain ⟨p1, e1, rfl⟩ := own_sliceR hrow; have HG_2 : Hid _ := HG_1.out.below hbel; have HZ_2 : Hid _ := HZ_1.out.below hbel; have HA_2 : Hid _ := HA_1.out.below hbel; have O1_2 : Hid _ := own_base hrow hb1.size; have hb2 := hb1.trans (hbel.mono hb1.size); clear z0 z1 z2 z3 z4 z5 y0 y1 y2 y3 y4 y5 hrow hbel; obtain ⟨z0, z1, z2, z3, z4, z5⟩ := HG_2.out.cells; have fz := HG_2.out.frozen 1)
  rw [HG_2.out.setc1]
  clear z0 z1 z2 z3 z4 z5 fz
  clear HG_1 HZ_1 HA_1 hb1
  have HG_3 : Hid _ := HG_2.out.set (.bool x0a) (.slice p1 rna e1) (.slice none 0 0) (.slice none 0 0) (.int .i64 x4a) (.int .i64 x5a)
  have HZ_3 : Hid _ := HZ_2.out.other (show W.heap.size + 1 ≠ G by omega) #[.bool x0a, .slice p1 rna e1, .slice none 0 0, .slice none 0 0, .int .i64 x4a, .int .i64 x5a]
  have HA_3 : Hid _ := HA_2.out.other (show W.heap.size ≠ G by omega) #[.bool x0a, .slice p1 rna e1, .slice none 0 0, .slice none 0 0, .int .i64 x4a, .int .i64 x5a]
  have hb3 := below_setRow hb2 (show W.heap.size ≤ G by omega) #[.bool x0a, .slice p1 rna e1, .slice none 0 0, .slice none 0 0, .int .i64 x4a, .int .i64 x5a]
  have O1_3 : Hid _ := own_setRowR O1_2.out G #[.bool x0a, .slice p1 rna e1, .slice none 0 0, .slice none 0 0, .int .i64 x4a, .int .i64 x5a] HG_2.out.h
  clear HG_2 HZ_2 HA_2 hb2 O1_2
  generalize w2.setRow G #[.bool x0a, .slice p1 rna e1, .slice none 0 0, .slice none 0 0, .int .i64 x4a, .int .i64 x5a] = w3 at HG_3 HZ_3 HA_3 hb3 O1_3 ⊢
  obtain ⟨z0, z1, z2, z3, z4, z5⟩ := HG_3.out.cells
  obtain ⟨y0, y1, y2, y3, y4, y5⟩ := HA_3.out.cells
  go_upto_region 4 with (at_builtin; refine wpList_app_i _ rfl _ _ rfl rfl _ d.lo rfl (HLOa.out.below hb3) HQ1.out ?_; intro v9 w4 hrow hbel; obtain ⟨p3, e3, rfl⟩ := own_slice hrow; have HG_4 : Hid _ := HG_3.out.below hbel; have HZ_4 : Hid _ := HZ_3.out.below hbel; have HA_4 : Hid _ := HA_3.out.below hbel; have O3_4 : Hid _ := own_base hrow hb3.size; have hb4 := hb3.trans (hbel.mono hb3.size); have O1_4 : Hid _ := own_keepB O1_3.out hbel; clear z0 z1 z2 z3 z4 z5 y0 y1 y2 y3 y4 y5 hrow hbel; obtain ⟨z0, z1, z2, z3, z4, z5⟩ := HG_4.out.cells; have fz := HG_4.out.frozen 2)
  rw [HG_4.out.setc2]
  clear z0 z1 z2 z3 z4 z5 fz
  clear HG_3 HZ_3 HA_3 hb3 O1_3
  have HG_5 : Hid _ := HG_4.out.set (.bool x0a) (.slice p1 rna e1) (.slice p3 d.lo.length e3) (.slice none 0 0) (.int .i64 x4a) (.int .i64 x5a)
  have HZ_5 : Hid _ := HZ_4.out.other (show W.heap.size + 1 ≠ G by omega) #[.bool x0a, .slice p1 rna e1, .slice p3 d.lo.length e3, .slice none 0 0, .int .i64 x4a, .int .i64 x5a]
  have HA_5 : Hid _ := HA_4.out.other (show W.heap.size ≠ G by omega) #[.bool x0a, .slice p1 rna e1, .slice p3 d.lo.length e3, .slice none 0 0, .int .i64 x4a, .int .i64 x5a]
  have hb5 := below_setRow hb4 (show W.heap.size ≤ G by omega) #[.bool x0a, .slice p1 rna e1, .slice p3 d.lo.length e3, .slice none 0 0, .int .i64 x4a, .int .i64 x5a]
  have O1_5 : Hid _ := own_setRowR O1_4.out G #[.bool x0a, .slice p1 rna e1, .slice p3 d.lo.length e3, .slice none 0 0, .int .i64 x4a, .int .i64 x5a] HG_4.out.h
  have O3_5 : Hid _ := own_setRow O3_4.out G #[.bool x0a, .slice p1 rna e1, .slice p3 d.lo.length e3, .slice none 0 0, .int .i64 x4a, .int .i64 x5a] HG_4.out.h
  clear HG_4 HZ_4 HA_4 hb4 O1_4 O3_4
  generalize w4.setRow G #[.bool x0a, .slice p1 rna e1, .slice p3 d.lo.length e3, .slice none 0 0, .int .i64 x4a, .int .i64 x5a] = w5 at HG_5 HZ_5 HA_5 hb5 O1_5 O3_5 ⊢
  obtain ⟨z0, z1, z2, z3, z4, z5⟩ := HG_5.out.cells
  obtain ⟨y0, y1, y2, y3, y4, y5⟩ := HA_5.out.cells
  go_upto_region 5 with (at_builtin; refine wpList_app_i _ rfl _ _ rfl rfl _ d.up rfl (HUPa.out.below hb5) HQ2.out ?_; intro v9 w6 hrow hbel; obtain ⟨p5, e5, rfl⟩ := own_slice hrow; have HG_6 : Hid _ := HG_5.out.below hbel; have HZ_6 : Hid _ := HZ_5.out.below hbel; have HA_6 : Hid _ := HA_5.out.below hbel; have O5_6 : Hid _ := own_base hrow hb5.size; have hb6 := hb5.trans (hbel.mono hb5.size); have O1_6 : Hid _ := own_keepB O1_5.out hbel; have O3_6 : Hid _ := own_keepB O3_5.out hbel; clear z0 z1 z2 z3 z4 z5 y0 y1 y2 y3 y4 y5 hrow hbel; obtain ⟨z0, z1, z2, z3, z4, z5⟩ := HG_6.out.cells; have fz := HG_6.out.frozen 3)
  rw [HG_6.out.setc3]
  clear z0 z1 z2 z3 z4 z5 fz
  clear HG_5 HZ_5 HA_5 hb5 O1_5 O3_5
  have HG_7 : Hid _ := HG_6.out.set (.bool x0a) (.slice p1 rna e1) (.slice p3 d.lo.length e3) (.slice p5 d.up.length e5) (.int .i64 x4a) (.int .i64 x5a)
  have HZ_7 : Hid _ := HZ_6.out.other (show W.heap.size + 1 ≠ G by omega) #[.bool x0a, .slice p1 rna e1, .slice p3 d.lo.length e3, .slice p5 d.up.length e5, .int .i64 x4a, .int .i64 x5a]
  have HA_7 : Hid _ := HA_6.out.other (show W.heap.size ≠ G by omega) #[.bool x0a, .slice p1 rna e1, .slice p3 d.lo.length e3, .slice p5 d.up.length e5, .int .i64 x4a, .int .i64 x5a]
  have hb7 := below_setRow hb6 (show W.heap.size ≤ G by omega) #[.bool x0a, .slice p1 rna e1, .slice p3 d.lo.length e3, .slice p5 d.up.length e5, .int .i64 x4a, .int .i64 x5a]
  have O1_7 : Hid _ := own_setRowR O1_6.out G #[.bool x0a, .slice p1 rna e1, .slice p3 d.lo.length e3, .slice p5 d.up.length e5, .int .i64 x4a, .int .i64 x5a] HG_6.out.h
  have O3_7 : Hid _ := own_setRow O3_6.out G #[.bool x0a, .slice p1 rna e1, .slice p3 d.lo.length e3, .slice p5 d.up.length e5, .int .i64 x4a, .int .i64 x5a] HG_6.out.h
  have O5_7 : Hid _ := own_setRow O5_6.out G #[.bool x0a, .slice p1 rna e1, .slice p3 d.lo.length e3, .slice p5 d.up.length e5, .int .i64 x4a, .int .i64 x5a] HG_6.out.h
  clear HG_6 HZ_6 HA_6 hb6 O1_6 O3_6 O5_6
  generalize w6.setRow G #[.bool x0a, .slice p1 rna e1, .slice p3 d.lo.length e3, .slice p5 d.up.length e5, .int .i64 x4a, .int .i64 x5a] = w7 at HG_7 HZ_7 HA_7 hb7 O1_7 O3_7 O5_7 ⊢
  obtain ⟨z0, z1, z2, z3, z4, z5⟩ := HG_7.out.cells
  go_wp2_with (with_reducible refine st37 rfl (.tmp 2) (.tmp 29) rfl (W.heap.size + 1) _ _ _ _ _ _ (by with_unfolding_all rfl) (by with_unfolding_all rfl) HZ_7.out (six_dom _ _ _ _ _ _ _ _ _ _ _ _) ?_)
  obtain ⟨he0, he1, he2, he4, he5, hen⟩ := HEa.out
  refine ⟨rfl, _, R6.res rfl _ (HZ_7.out.set (.bool x0a) (.slice p1 rna e1) (.slice p3 d.lo.length e3) (.slice p5 d.up.length e5) (.int .i64 x4a) (.int .i64 x5a)) rfl, ⟨.slice p1 rna e1, .slice p3 d.lo.length e3, .slice p5 d.up.length e5, by rw [he0, he4, he5], ?_, ?_, ?_, below_setRow hb7 (by omega) _⟩⟩
  · rw [hen]; exact own_setRowR O1_7.out _ _ HZ_7.out.h
  · exact own_setRow O3_7.out _ _ HZ_7.out.h
  · exact own_setRow O5_7.out _ _ HZ_7.out.h
end St

theorem app_dom {w : World} {s : Value} {vs : List (List Value)} {n : Nat} (hn : vs.length = n) (hv : ∀ c ∈ vs, c.length = 6) (h : w.ownsRow 0 50 6 s n vs.flatten) (ad : Addr) (cp : Nat) (c : List Value) (hc : c.length = 6) (hcells : ∀ j u, c[j]? = some u → w.cell? (ad.add j) = some u) (h1 : ∀ u ∈ c, u.oneCell' = true) (hlen : (n + 1) * 96 ≤ 140737488355328) (ty : TypeId) :
    ∃ v' w', (Builtin.append_ #[23, 23] ty #[s, .slice (some ad) 1 cp]).run Tryz.prog w = .ok v' w' ∧ w'.ownsRow 0 50 6 v' (n + 1) (vs ++ [c]).flatten ∧ w.grownBy w' s.ownBlock ∧ (∀ b, v'.ownBlock = some b → s.ownBlock = some b ∨ w.heap.size ≤ b) := by
  obtain ⟨i0, hi0, hz0, hz1, hz2⟩ := info_parts (show (Tryz.prog.info? 50).map (fun i => (i.zero, i.size, i.bytes)) = some (some (.agg #[.bool false, .slice none 0 0, .slice none 0 0, .slice none 0 0, .int .i64 0, .int .i64 0]), 6, 96) by kernel_rfl)
  obtain ⟨v', w', hr, ho, hg, _⟩ := run_append_own (P := Tryz.prog) w 0 23 ty 50 i0 _ 6 96 Tryz.underlying23 hi0 hz0 hz1 hz2 rfl (by decide) s n vs.flatten h ad 1 cp c (by omega) hcells h1 (by unfold maxLen; omega) (by omega) (Nat.zero_le _)
  refine ⟨v', w', hr, ?_, hg, ?_⟩
  · rw [List.flatten_append, List.flatten_singleton]; exact ho
  · intro b hb
    rcases h.2 with ⟨rfl, hn0⟩ | ⟨g, cap, cur, rfl, hbg, hgg, hnc, hcm, hcs, htake⟩
    · have hr2 := run_append_nil (P := Tryz.prog) w 23 ty 50 i0 _ Tryz.underlying23 hi0 hz0 ad 1 cp c (by rw [hz1]; omega) hcells (by omega) (by omega) (by rw [hz2]; omega)
      rw [hr] at hr2
      injection hr2 with e1 e2
      subst e1
      injection hb with hb
      subst hb
      exact .inr (Nat.le_refl _)
    · by_cases hroom : n + 1 ≤ cap
      · have hfit : n * i0.size + c.length ≤ cur.size := by
          rw [hz1, hc, hcs]
          have : (n + 1) * 6 ≤ cap * 6 := Nat.mul_le_mul_right _ hroom
          omega
        have hr2 := run_append_room (P := Tryz.prog) w 23 ty 50 i0 Tryz.underlying23 hi0 g n cap cur hgg ad 1 cp c (by rw [hz1]; omega) hcells h1 hroom hfit
        rw [hr] at hr2
        injection hr2 with e1 e2
        subst e1
        exact .inl hb
      · have hr2 := run_append_grow (P := Tryz.prog) w 23 ty 50 i0 _ Tryz.underlying23 hi0 hz0 ⟨g, 0, none⟩ n cap vs.flatten (by rw [hz1]; exact h.1) (h.cells (g := g) rfl) ad 1 cp c (by rw [hz1]; omega) hcells (by omega) (by omega) (growslice_fits (by omega) (by rw [hz2]; omega))
        rw [hr] at hr2
        injection hr2 with e1 e2
        subst e1
        injection hb with hb
        subst hb
        exact .inr (Nat.le_refl _)
theorem list_dom {w : World} {s : Value} {vs : List (List Value)} {n : Nat} (hn : vs.length = n) (hv : ∀ c ∈ vs, c.length = 6) (h : w.ownsRow 0 50 6 s n vs.flatten) {ops : Array Oper} {rest : List Oper} {o : Oper} {a : Act} {Q : Exit → Act → World → Prop} (hgd : o.guard = none) (so xo : Operand) (ho : o.op = .call { callee := .builtin .append, args := #[so, xo], argTypes := #[23, 23] })
    (hs : a.eval so = s) (ad : Addr) (cp : Nat) (hx : a.eval xo = .slice (some ad) 1 cp) (c : List Value) (hc : c.length = 6) (hcells : ∀ j u, c[j]? = some u → w.cell? (ad.add j) = some u) (h1 : ∀ u ∈ c, u.oneCell' = true) (hlen : (n + 1) * 96 ≤ 140737488355328)
    (hK : ∀ v' w', w'.ownsRow 0 50 6 v' (n + 1) (vs ++ [c]).flatten → w.grownBy w' s.ownBlock → (∀ b, v'.ownBlock = some b → s.ownBlock = some b ∨ w.heap.size ≤ b) → wpList Tryz.prog ops Q rest (a.put o.dst v') w') : wpList Tryz.prog ops Q (o :: rest) a w :=
  wpList_plain hgd fun _ hK' => by
    obtain ⟨v', w', hr, h2, h3, h4⟩ := app_dom hn hv h ad cp c hc hcells h1 hlen o.type
    unfold Oper.wp execOp
    simp only [ho, resolve, invoke, builtin, Sem.run_bind, Sem.run_pure, Result.andThen_ok, List.map_toArray, List.map_cons, List.map_nil, hs, hx, hr]
    exact hK' _ _ (hK v' w' h2 h3 h4)
end Go.Proofs.YthkliicmoandmaaGreatDoor

namespace Go.Proofs.YthkliicmoandmaaGreatDoor
open Go.RowKit Go.Shelf
set_option linter.unusedVariables false
set_option linter.unusedSimpArgs false

theorem intv_flat (r : List Dm.Rg) : St.intv (flI r) = Dm.flat r := by
  have e : Dm.flat r = (r.map fun q => [Value.int .i64 q.1, Value.int .i64 q.2]).flatten := by unfold Dm.flat; rw [List.flatMap_def]
  have hk : ∀ c ∈ (r.map fun q => [Value.int .i64 q.1, Value.int .i64 q.2]), c.length = 2 := fun c hc => by
    obtain ⟨q, _, rfl⟩ := List.mem_map.1 hc
    rfl
  apply List.ext_getElem?
  intro i
  by_cases hi : i < r.length * 2
  · have h1 : (St.intv (flI r))[i]? = some (.int .i64 (if i % 2 = 0 then Dm.lo r (i / 2) else Dm.hi r (i / 2))) := by
      unfold St.intv
      rw [List.getElem?_map, nth_get (by rw [flI_len]; exact hi), flI_nth r i hi]
      rfl
    have hd : i / 2 < r.length := by omega
    have h2 := flat_get hk (i / 2) (i % 2) (by omega)
    rw [← e, show i / 2 * 2 + i % 2 = i by omega] at h2
    rw [h1, h2, List.getElem?_map, List.getElem?_eq_getElem hd]
    unfold Dm.lo Dm.hi
    rw [List.getElem?_eq_getElem hd]
    rcases Nat.mod_two_eq_zero_or_one i with q | q
    · rw [q]; rfl
    · rw [q]; rfl
  · rw [List.getElem?_eq_none (by unfold St.intv; rw [List.length_map, flI_len]; omega), List.getElem?_eq_none (by rw [Dm.flat_length]; omega)]
theorem lent_z {X : Nat → Prop} {W : World} {c : List Value} {d : MD} (h : Dc X W c d) (hz : SzD d) : Calls Tryz.prog 18 #[.agg c.toArray] W fun e w' => ∃ q : List Value, e = .returned (.agg q.toArray) ∧ (∀ Z : Nat → Prop, (∀ b, Z b → b < W.heap.size) → Dc Z w' q d) ∧ Below W.heap.size W w' :=
  (St.lent_own _ (sdM d) (flI d.r) W (h.dr hz)).mono fun e w' ⟨s1, s2, s3, he, h1, h2, h3, hb⟩ => by
    have o1 : w'.ownsRow W.heap.size 92 2 s1 d.r.length (Dm.flat d.r) := by
      have e1 : St.intv (flI d.r) = Dm.flat d.r := by
        exact intv_flat d.r
      rw [← e1]; exact h1
    obtain ⟨p1, c1, rfl⟩ : ∃ p c, s1 = .slice p d.r.length c := by
      rcases o1.2 with ⟨q1, q2⟩ | ⟨g, cap, cur, q1, _⟩
      · exact ⟨none, 0, by rw [q2]; exact q1⟩
      · exact ⟨_, cap, q1⟩
    obtain ⟨p2, c2, rfl⟩ : ∃ p c, s2 = .slice p d.lo.length c := by
      rcases h2.2 with ⟨q1, q2⟩ | ⟨g, cap, cur, q1, _⟩
      · have q2' : d.lo.length = 0 := q2
        exact ⟨none, 0, by rw [q2']; exact q1⟩
      · exact ⟨_, cap, q1⟩
    obtain ⟨p3, c3, rfl⟩ : ∃ p c, s3 = .slice p d.up.length c := by
      rcases h3.2 with ⟨q1, q2⟩ | ⟨g, cap, cur, q1, _⟩
      · have q2' : d.up.length = 0 := q2
        exact ⟨none, 0, by rw [q2']; exact q1⟩
      · exact ⟨_, cap, q1⟩
    exact ⟨_, he, fun Z hZ => ⟨p1, c1, p2, c2, p3, c3, rfl, rm_own o1 hZ, nm_own h2 hZ, nm_own h3 hZ⟩, hb⟩
theorem Dc.weak {X : Nat → Prop} {w : World} {c : List Value} {d : MD} (h : Dc X w c d) : Dc (fun _ => False) w c d := h.up (fun b hb => hb.elim)
end Go.Proofs.YthkliicmoandmaaGreatDoor
