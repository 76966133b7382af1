/-
  What is proved here: the algebra of ranges: both, either, less and not, as sets of values, and how many values they have (mathematics alone).
-/
import Derived.Test.YtkloadlodofipaaGreatDoorGc
import Derived.Test.YtkloadlodofipaaGreatDoorSt
namespace Go.Proofs.YtkloadlodofipaaGreatDoor
set_option linter.unusedVariables false

/-- Rising ranges of few values within the bounds are right. -/
theorem right_of {l : List Rg} (ho : Ord l) (hv : ∀ v ∈ vals l, -1000000 ≤ v ∧ v ≤ 1000000) (hl : l.length ≤ 4096) : Right l := by
  refine ord_right ho (fun r hr => ?_) hl
  have h := ho.1 r hr
  exact ⟨(hv r.1 ((mem_vals' _ _).2 ⟨r, hr, Int.le_refl _, h⟩)).1, (hv r.2 ((mem_vals' _ _).2 ⟨r, hr, h, Int.le_refl _⟩)).2⟩
theorem tk_le (l : List Rg) : (tk l).length ≤ l.length := by unfold tk; split <;> simp
theorem ov_right {a b : List Rg} (ha : Right a) (hb : Right b) (hl : a.length + b.length ≤ 4096) : Right (ov a b) := by
  have f := ov_facts (right_ord ha).1 (right_ord hb).1
  exact right_of f.1 (fun v hv => vals_bounds ha v ((f.2 v).1 hv).1) (Nat.le_trans (ov_len a b) hl)
theorem ov_comm {a b : List Rg} (ha : Right a) (hb : Right b) : ov a b = ov b a := by
  have f := ov_facts (right_ord ha).1 (right_ord hb).1
  have g := ov_facts (right_ord hb).1 (right_ord ha).1
  exact ord_ext f.1 g.1 fun v => by rw [f.2, g.2]; exact And.comm
theorem not_bad {a b : List Rg} (ha : Right a) (hb : Right b) : ¬ bad (a ++ b) := by
  rintro ⟨r, hr, _, h⟩
  rcases List.mem_append.1 hr with h1 | h1
  · exact h ((right_ord ha).2 r h1)
  · exact h ((right_ord hb).2 r h1)
theorem mem_either (a b : List Rg) (v : Int) : v ∈ vals (nf (a ++ b)) ↔ v ∈ vals a ∨ v ∈ vals b := by
  rw [(nf_facts (a ++ b)).2, vals_append, List.mem_append]
theorem nf_len (l : List Rg) : (nf l).length ≤ l.length := by
  unfold nf
  refine Nat.le_trans (joinF_len _) ?_
  rw [List.length_mergeSort]
  exact List.length_filter_le _ _
theorem nf_right {a b : List Rg} (ha : Right a) (hb : Right b) (hl : (nf (a ++ b)).length ≤ 4096) : Right (nf (a ++ b)) := by
  refine right_of (nf_facts _).1 (fun v hv => ?_) hl
  rcases (mem_either a b v).1 hv with h | h
  · exact vals_bounds ha v h
  · exact vals_bounds hb v h
theorem mem_less {a b : List Rg} (ha : Right a) (hb : Right b) (v : Int) : v ∈ vals (ov a (notL b)) ↔ v ∈ vals a ∧ v ∉ vals b := by
  rw [(ov_facts (right_ord ha).1 (notL_facts hb).1).2, (notL_facts hb).2]
  constructor
  · rintro ⟨h1, _, _, h2⟩; exact ⟨h1, h2⟩
  · rintro ⟨h1, h2⟩; have := vals_bounds ha v h1; exact ⟨h1, this.1, this.2, h2⟩
theorem less_right {a b : List Rg} (ha : Right a) (hb : Right b) (hl : (ov a (notL b)).length ≤ 4096) : Right (ov a (notL b)) :=
  right_of (ov_facts (right_ord ha).1 (notL_facts hb).1).1 (fun v hv => vals_bounds ha v ((mem_less ha hb v).1 hv).1) hl
theorem less_le {a b : List Rg} (ha : Right a) (hb : Right b) (hl : a.length + b.length ≤ 4096) : (ov a (notL b)).length ≤ 4096 := by
  rw [ov_pieces (right_ord ha).1 (notL_facts hb).1]
  exact Nat.le_trans (less_len (right_ord ha).1 (right_ord ha).2 (right_ord hb).1 (right_ord hb).2) hl
theorem again_is {a b : List Rg} (ha : Right a) (hb : Right b) : nf (ov a (notL b) ++ b) = nf (a ++ b) := by
  refine ord_ext (nf_facts _).1 (nf_facts _).1 fun v => ?_
  rw [mem_either, mem_either, mem_less ha hb]
  constructor
  · rintro (h | h)
    · exact .inl h.1
    · exact .inr h
  · rintro (h | h)
    · by_cases hv : v ∈ vals b
      · exact .inr hv
      · exact .inl ⟨h, hv⟩
    · exact .inr h
theorem win_both {a b : List Rg} (ha : Right a) (hb : Right b) : win (ov a b) a ∧ win (ov a b) b := by
  have e := ov_pieces (right_ord ha).1 (right_ord hb).1
  have key : ∀ i, i < (ov a b).length → ∃ r ∈ b, ∃ s ∈ a, r.1 ≤ lo (ov a b) i ∧ hi (ov a b) i ≤ r.2 ∧ s.1 ≤ lo (ov a b) i ∧ hi (ov a b) i ≤ s.2 := fun i hi' => by
    have hm : (ov a b)[i] ∈ pieces b a := by rw [← e]; exact List.getElem_mem hi'
    obtain ⟨r, hr, s, hs, hc⟩ := piece_of hm
    have h1 := cut1_some hc
    rw [lo_get _ i hi', hi_get _ i hi']
    exact ⟨r, hr, s, hs, h1.2.2.1, h1.2.2.2.2.1, h1.2.1, h1.2.2.2.1⟩
  refine ⟨fun i hi' => ?_, fun i hi' => ?_⟩
  · obtain ⟨r, _, s, hs, _, _, h1, h2⟩ := key i hi'
    obtain ⟨j, hj, rfl⟩ := List.getElem_of_mem hs
    exact ⟨j, hj, by unfold holdsIn; rw [lo_get a j hj, hi_get a j hj]; exact ⟨h1, h2⟩⟩
  · obtain ⟨r, hr, s, _, h1, h2, _, _⟩ := key i hi'
    obtain ⟨j, hj, rfl⟩ := List.getElem_of_mem hr
    exact ⟨j, hj, by unfold holdsIn; rw [lo_get b j hj, hi_get b j hj]; exact ⟨h1, h2⟩⟩
theorem not_right {a : List Rg} (ha : Right a) (hl : (notL a).length ≤ 4096) : Right (notL a) :=
  right_of (notL_facts ha).1 (fun v hv => by have := ((notL_facts ha).2 v).1 hv; omega) hl
theorem not_not {a : List Rg} (ha : Right a) (hl : (notL a).length ≤ 4096) : notL (notL a) = a := by
  have hn := not_right ha hl
  refine ord_ext (notL_facts hn).1 (right_ord ha).1 fun v => ?_
  rw [(notL_facts hn).2, (notL_facts ha).2]
  constructor
  · rintro ⟨h1, h2, h3⟩
    apply Classical.byContradiction; intro hv; exact h3 ⟨h1, h2, hv⟩
  · intro hv
    have := vals_bounds ha v hv
    exact ⟨this.1, this.2, fun h => h.2.2 hv⟩
theorem notR_is {l : List Rg} (h : l.length < 4096) : notR l = notL (tk l) ∧ Right (notR l) := by
  have hl : (notL (tk l)).length ≤ 4096 := Nat.le_trans (notF_len (tk l) _) (by have := tk_le l; omega)
  have e : notR l = notL (tk l) := if_pos hl
  exact ⟨e, by rw [e]; exact not_right (tk_right l) hl⟩
theorem notR_notR {l : List Rg} (h : l.length < 4096) : notR (notR l) = tk l := by
  have hl : (notL (tk l)).length ≤ 4096 := Nat.le_trans (notF_len (tk l) _) (by have := tk_le l; omega)
  obtain ⟨e, hR⟩ := notR_is h
  have e2 : tk (notR l) = notL (tk l) := by rw [tk_yes hR, e]
  unfold notR
  rw [show (if (notL (tk l)).length ≤ 4096 then notL (tk l) else []) = notR l from rfl, e2, not_not (tk_right l) hl, if_pos (tk_right l).1]
theorem sizeR_vals {l : List Rg} (h : ∀ r ∈ l, r.1 ≤ r.2) : sizeR l = ((vals l).length : Int) := by
  induction l with
  | nil => rfl
  | cons r t ih =>
    have e : vals (r :: t) = span r.1 r.2 ++ vals t := by unfold vals; rw [List.flatMap_cons]
    have hr := h r (by simp)
    have it := ih fun q hq => h q (by simp [hq])
    rw [e, List.length_append, span_length]
    unfold sizeR at it ⊢
    rw [List.map_cons, List.sum_cons, it]
    omega
theorem incl_excl (p q : Int → Bool) : ∀ E : List Int, (∀ v ∈ E, p v = true ∨ q v = true) → (E.filter fun v => p v && q v).length + E.length = (E.filter p).length + (E.filter q).length := by
  intro E
  induction E with
  | nil => intro _; rfl
  | cons x t ih =>
    intro h
    have i := ih fun v hv => h v (by simp [hv])
    have hx := h x (by simp)
    simp only [List.filter_cons, List.length_cons]
    rcases hp : p x <;> rcases hq : q x <;> simp_all <;> omega
theorem size_both {a b : List Rg} (ha : Right a) (hb : Right b) (hl : a.length + b.length ≤ 4096) : sizeR (ov a b) + sizeR (nf (a ++ b)) = sizeR a + sizeR b := by
  have ho := ov_right ha hb hl
  have hn := nf_right ha hb (Nat.le_trans (nf_len _) (by rw [List.length_append]; exact hl))
  have f := ov_facts (right_ord ha).1 (right_ord hb).1
  rw [sizeR_vals (right_ord ho).1.1, sizeR_vals (right_ord hn).1.1, sizeR_vals (right_ord ha).1.1, sizeR_vals (right_ord hb).1.1]
  have hE := vals_lt hn
  have e1 : vals a = (vals (nf (a ++ b))).filter fun v => decide (v ∈ vals a) := up_ext (vals_lt ha) (hE.filter _) fun v => by
    rw [List.mem_filter, mem_either, decide_eq_true_eq]; exact ⟨fun h => ⟨.inl h, h⟩, fun h => h.2⟩
  have e2 : vals b = (vals (nf (a ++ b))).filter fun v => decide (v ∈ vals b) := up_ext (vals_lt hb) (hE.filter _) fun v => by
    rw [List.mem_filter, mem_either, decide_eq_true_eq]; exact ⟨fun h => ⟨.inr h, h⟩, fun h => h.2⟩
  have e3 : vals (ov a b) = (vals (nf (a ++ b))).filter fun v => decide (v ∈ vals a) && decide (v ∈ vals b) := up_ext (vals_lt ho) (hE.filter _) fun v => by
    rw [List.mem_filter, mem_either, f.2, Bool.and_eq_true, decide_eq_true_eq, decide_eq_true_eq]; exact ⟨fun h => ⟨.inl h.1, h⟩, fun h => h.2⟩
  have k := incl_excl (fun v => decide (v ∈ vals a)) (fun v => decide (v ∈ vals b)) (vals (nf (a ++ b))) fun v hv => by
    rw [decide_eq_true_eq, decide_eq_true_eq]; exact (mem_either a b v).1 hv
  rw [← e1, ← e2, ← e3] at k
  omega
theorem size_bounds {l : List Rg} (h : Right l) : 0 ≤ sizeR l ∧ sizeR l ≤ 10000000 := by
  rw [sizeR_vals (right_ord h).1.1]
  have := vals_short l h
  omega
end Go.Proofs.YtkloadlodofipaaGreatDoor
