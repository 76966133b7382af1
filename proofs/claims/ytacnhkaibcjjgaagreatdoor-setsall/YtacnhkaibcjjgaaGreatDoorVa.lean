/-
  What is proved here: all sets of a domain: what the iterator tells, and how many there are.
-/
import Derived.Test.YtacnhkaibcjjgaaGreatDoorUfj
import Derived.Test.YtacnhkaibcjjgaaGreatDoorEc
namespace Go.Proofs.YtacnhkaibcjjgaaGreatDoor
open Go.RowKit Go.Shelf
set_option linter.unusedVariables false
set_option linter.unusedSimpArgs false

/-- The sublists that are not empty, in order. -/
def subsL : List Int → List (List Int)
  | [] => []
  | x :: u => ([x] :: (subsL u).map (x :: ·)) ++ subsL u
/-- Whether a set is wanted. -/
def Qd (lo : List Int) (least most : Int) (l : List Int) : Bool := decide (∀ x ∈ lo, x ∈ l) && decide (least ≤ (l.length : Int)) && decide ((l.length : Int) ≤ most)
/-- The wanted sets that go on from a set with elements of a list. -/
def RS (lo : List Int) (least most : Int) (head u : List Int) : List (List Int) := ((subsL u).map (head ++ ·)).filter (Qd lo least most)
def RO (lo : List Int) (least most : Int) (head u : List Int) : List (List Int) := (if Qd lo least most head = true then [head] else []) ++ RS lo least most head u
theorem subs_sub : ∀ (u s : List Int), s ∈ subsL u → s.Sublist u ∧ 0 < s.length
  | [], s, h => by simp [subsL] at h
  | x :: u, s, h => by
    simp only [subsL, List.cons_append, List.mem_cons, List.mem_append, List.mem_map] at h
    rcases h with rfl | ⟨t, ht, rfl⟩ | h
    · exact ⟨by simp, by simp⟩
    · exact ⟨(subs_sub u t ht).1.cons_cons x, by simp⟩
    · exact ⟨(subs_sub u s h).1.cons x, (subs_sub u s h).2⟩
theorem Qd_iff (lo : List Int) (least most : Int) (l : List Int) : Qd lo least most l = true ↔ (∀ x ∈ lo, x ∈ l) ∧ least ≤ (l.length : Int) ∧ (l.length : Int) ≤ most := by
  simp only [Qd, Bool.and_eq_true, decide_eq_true_eq, and_assoc]
theorem RS_cons (lo : List Int) (least most : Int) (head : List Int) (x : Int) (u : List Int) : RS lo least most head (x :: u) = RO lo least most (head ++ [x]) u ++ RS lo least most head u := by
  have e : ((subsL u).map (x :: ·)).map (head ++ ·) = (subsL u).map ((head ++ [x]) ++ ·) := by
    rw [List.map_map]; refine List.map_congr_left fun s _ => ?_; simp
  unfold RO RS
  rw [subsL, List.map_append, List.map_cons, e, List.filter_append, List.filter_cons]
  split <;> simp
theorem RS_empty {lo : List Int} {least most : Int} {head u : List Int} (h : ∀ s, s.Sublist u → 0 < s.length → Qd lo least most (head ++ s) = false) : RS lo least most head u = [] := by
  unfold RS
  rw [List.filter_eq_nil_iff]
  intro a ha
  obtain ⟨s, hs, rfl⟩ := List.mem_map.1 ha
  have := subs_sub u s hs
  rw [h s this.1 this.2]; simp
theorem RO_empty {lo : List Int} {least most : Int} {head u : List Int} (h : ∀ s, s.Sublist u → Qd lo least most (head ++ s) = false) : RO lo least most head u = [] := by
  unfold RO
  have h0 := h [] (List.nil_sublist u)
  rw [List.append_nil] at h0
  rw [h0, RS_empty fun s hs _ => h s hs]; rfl
theorem Qd_no {lo : List Int} {least most : Int} {l : List Int} (h : ¬ ((∀ x ∈ lo, x ∈ l) ∧ least ≤ (l.length : Int) ∧ (l.length : Int) ≤ most)) : Qd lo least most l = false := by
  cases e : Qd lo least most l
  · rfl
  · exact absurd ((Qd_iff _ _ _ _).1 e) h
theorem RS_few {lo : List Int} {least most : Int} {head u : List Int} (h : (head.length : Int) + u.length < least) : RS lo least most head u = [] :=
  RS_empty fun s hs _ => Qd_no fun ⟨_, h2, _⟩ => by have := hs.length_le; rw [List.length_append] at h2; omega
theorem RS_full {lo : List Int} {least most : Int} {head u : List Int} (h : most ≤ (head.length : Int)) : RS lo least most head u = [] :=
  RS_empty fun s hs h0 => Qd_no fun ⟨_, _, h3⟩ => by rw [List.length_append] at h3; omega
theorem RS_gone {lo : List Int} {least most : Int} {head u : List Int} {x : Int} (hx : x ∈ lo) (h1 : ¬ x ∈ head) (h2 : ¬ x ∈ u) : RO lo least most head u = [] :=
  RO_empty fun s hs => Qd_no fun ⟨g, _, _⟩ => by
    rcases List.mem_append.1 (g x hx) with e | e
    · exact h1 e
    · exact h2 (hs.subset e)
theorem RS_of_RO {lo : List Int} {least most : Int} {head u : List Int} (h : RO lo least most head u = []) : RS lo least most head u = [] := by
  unfold RO at h
  exact (List.append_eq_nil_iff.1 h).2
theorem RO_many {lo : List Int} {least most : Int} {head u : List Int} (hu : u.Pairwise (· < ·)) (hd : ∀ x ∈ u, ¬ x ∈ head) (h : most < (head.length : Int) + ((u.filter fun x => lo.contains x).length : Nat)) : RO lo least most head u = [] :=
  RO_empty fun s hs => Qd_no fun ⟨g, _, h3⟩ => by
    have hsub : (u.filter fun x => lo.contains x).Sublist s := pw_sub _ _ (hu.filter _) (hu.sublist hs) fun x hx => by
      obtain ⟨m1, m2⟩ := List.mem_filter.1 hx
      have : x ∈ lo := by simpa using m2
      rcases List.mem_append.1 (g x this) with e | e
      · exact absurd e (hd x m1)
      · exact e
    have := hsub.length_le
    rw [List.length_append] at h3
    omega

/-- What was picked ahead of a place. -/
def hdF (up : List Int) (f : Nat → Bool) (i : Nat) : List Int := ((List.range i).filter f).map (nth up)
theorem pick_hd (up : List Int) (f : Nat → Bool) (i m : Nat) (hi : i ≤ m) (hf : ∀ j, i ≤ j → f j = false) : pickL up f true m = hdF up f i := by
  obtain ⟨k, rfl⟩ : ∃ k, m = i + k := ⟨m - i, by omega⟩
  unfold pickL hdF
  have e : (fun j => f j == true) = f := by funext j; cases f j <;> rfl
  rw [e, List.range_add, List.filter_append]
  have : ((List.range k).map (fun x => i + x)).filter f = [] := by
    rw [List.filter_eq_nil_iff]
    intro a ha
    obtain ⟨j, _, rfl⟩ := List.mem_map.1 ha
    rw [hf (i + j) (by omega)]; simp
  rw [this, List.append_nil]
theorem hdF_set (up : List Int) (f : Nat → Bool) (i : Nat) : hdF up (setF f i) (i + 1) = hdF up f i ++ [nth up i] := by
  unfold hdF
  rw [List.range_succ, List.filter_append]
  have h1 : (List.range i).filter (setF f i) = (List.range i).filter f := List.filter_congr fun j hj => by
    have := List.mem_range.1 hj
    unfold setF; rw [if_neg (by omega)]
  have h2 : [i].filter (setF f i) = [i] := by simp [setF]
  rw [h1, h2]; simp
theorem hdF_skip (up : List Int) (f : Nat → Bool) (i : Nat) (h : f i = false) : hdF up f (i + 1) = hdF up f i := by
  unfold hdF
  rw [List.range_succ, List.filter_append]
  have h2 : [i].filter f = [] := by simp [h]
  rw [h2, List.append_nil]
theorem pw_notin {x : Int} {u : List Int} (h : (x :: u).Pairwise (· < ·)) : ¬ x ∈ u := fun hx => Int.lt_irrefl _ (List.rel_of_pairwise_cons h hx)
theorem drop_cons {up : List Int} {i : Nat} (h : i < up.length) : up.drop i = nth up i :: up.drop (i + 1) := by
  rw [List.drop_eq_getElem_cons h]
  have e : nth up i = up[i] := by simp [nth, h]
  rw [e]
theorem lp_RS (up lo : List Int) (hup : up.Pairwise (· < ·)) (least most : Int) :
    ∀ (k : Nat) (f : Nat → Bool) (i : Nat) (h n : Int) (head : List Int), up.length - i = k → i ≤ up.length → hdF up f i = head → h = head.length → n = (mn lo up i : Nat) → (∀ j, i ≤ j → f j = false) → (∀ x ∈ up.drop i, ¬ x ∈ head) → (∀ x ∈ lo, x ∈ head ∨ x ∈ up.drop i) →
      lp up (sharedF up lo up.length) least most k f i h n = RS lo least most head (up.drop i) := by
  intro k
  induction k with
  | zero =>
    intro f i h n head hk hi _ _ _ _ _ _
    rw [List.drop_eq_nil_of_le (by omega)]; rfl
  | succ k ih =>
    intro f i h n head hk hi hh hl hn hf hd hlo
    have hlt : i < up.length := by omega
    have hdc := drop_cons hlt
    have hpw : (nth up i :: up.drop (i + 1)).Pairwise (· < ·) := by rw [← hdc]; exact hup.sublist (List.drop_sublist i up)
    have hni := pw_notin hpw
    have hst := mn_step lo up i hlt
    rw [lp]
    by_cases hc : least ≤ h + (up.length : Int) - (i : Int)
    · rw [if_pos ⟨hlt, hc⟩, hdc, RS_cons]
      have hsh : sharedF up lo up.length i = lo.contains (nth up i) := by unfold sharedF; rw [decide_eq_true hlt]; rfl
      rw [hsh]
      have hn' : decN n (lo.contains (nth up i)) = (mn lo up (i + 1) : Nat) := by
        unfold decN
        cases hb : lo.contains (nth up i) <;> rw [hb] at hst <;> simp at hst ⊢ <;> omega
      rw [hn']
      have hA : (if h + 1 + ((mn lo up (i + 1) : Nat) : Int) ≤ most then ownS up least (setF f i) (h + 1) ((mn lo up (i + 1) : Nat) : Int) ++ lp up (sharedF up lo up.length) least most k (setF f i) (i + 1) (h + 1) ((mn lo up (i + 1) : Nat) : Int) else []) = RO lo least most (head ++ [nth up i]) (up.drop (i + 1)) := by
        have hd' : ∀ x ∈ up.drop (i + 1), ¬ x ∈ head ++ [nth up i] := fun x hx hm => by
          rcases List.mem_append.1 hm with e | e
          · exact hd x (by rw [hdc]; exact List.mem_cons_of_mem _ hx) e
          · rw [List.mem_singleton.1 e] at hx; exact hni hx
        have hlo' : ∀ x ∈ lo, x ∈ head ++ [nth up i] ∨ x ∈ up.drop (i + 1) := fun x hx => by
          rcases hlo x hx with e | e
          · exact .inl (List.mem_append_left _ e)
          · rw [hdc] at e
            rcases List.mem_cons.1 e with e | e
            · exact .inl (by rw [e]; simp)
            · exact .inr e
        by_cases hm : h + 1 + ((mn lo up (i + 1) : Nat) : Int) ≤ most
        · rw [if_pos hm, ih (setF f i) (i + 1) (h + 1) _ (head ++ [nth up i]) (by omega) (by omega) (by rw [hdF_set, hh]) (by rw [hl]; simp) rfl (fun j hj => by unfold setF; rw [if_neg (by omega)]; exact hf j (by omega)) hd' hlo']
          unfold RO ownS
          rw [pick_hd up (setF f i) (i + 1) up.length (by omega) (fun j hj => by unfold setF; rw [if_neg (by omega)]; exact hf j (by omega)), hdF_set, hh]
          congr 1
          have hiff : ((mn lo up (i + 1) : Nat) : Int) = 0 ∧ least ≤ h + 1 ↔ Qd lo least most (head ++ [nth up i]) = true := by
            rw [Qd_iff]
            constructor
            · rintro ⟨e, hle⟩
              have e0 : mn lo up (i + 1) = 0 := by omega
              unfold mn at e0
              rw [List.length_eq_zero_iff, List.filter_eq_nil_iff] at e0
              refine ⟨fun x hx => ?_, by simp; omega, by simp; omega⟩
              rcases hlo' x hx with e | e
              · exact e
              · exact absurd (by simpa using hx) (e0 x e)
            · rintro ⟨g, g1, g2⟩
              refine ⟨?_, by simp at g1; omega⟩
              have : mn lo up (i + 1) = 0 := by
                unfold mn
                rw [List.length_eq_zero_iff, List.filter_eq_nil_iff]
                intro x hx hb
                exact hd' x hx (g x (by simpa using hb))
              omega
          by_cases hq : ((mn lo up (i + 1) : Nat) : Int) = 0 ∧ least ≤ h + 1
          · rw [if_pos hq, if_pos (hiff.1 hq)]
          · rw [if_neg hq, if_neg (fun e => hq (hiff.2 e))]
        · rw [if_neg hm]
          refine (RO_many (List.Pairwise.sublist (List.drop_sublist _ _) hup) hd' ?_).symm
          have : ((up.drop (i + 1)).filter fun x => lo.contains x).length = mn lo up (i + 1) := rfl
          rw [this, List.length_append]; simp; omega
      rw [hA]
      congr 1
      cases hb : lo.contains (nth up i)
      · rw [if_neg (by simp)]
        rw [hb] at hst
        simp only [Bool.false_eq_true, if_false, Nat.zero_add] at hst
        exact ih f (i + 1) h n head (by omega) (by omega) (by rw [hdF_skip _ _ _ (hf i (Nat.le_refl _)), hh]) hl (by rw [hn, hst]) (fun j hj => hf j (by omega)) (fun x hx => hd x (by rw [hdc]; exact List.mem_cons_of_mem _ hx)) (fun x hx => by
          rcases hlo x hx with e | e
          · exact .inl e
          · rw [hdc] at e
            rcases List.mem_cons.1 e with e | e
            · exact absurd (show lo.contains (nth up i) = true by rw [← e]; simpa using hx) (by rw [hb]; simp)
            · exact .inr e)
      · rw [if_pos rfl]
        exact (RS_of_RO (RS_gone (x := nth up i) (by simpa using hb) (hd _ (by rw [hdc]; exact List.mem_cons_self)) hni)).symm
    · rw [if_neg (fun g => hc g.2)]
      refine (RS_few ?_).symm
      rw [List.length_drop]; omega
/-- All sets of a domain, in order. -/
def allD (d : SD) : List (List Int) := RO d.lo d.least d.most [] d.up
theorem allT_D (T : SD) (hup : T.up.Pairwise (· < ·)) (hlo : T.lo.Pairwise (· < ·)) (hs : ∀ x ∈ T.lo, x ∈ T.up) (hm : 0 ≤ T.most) : allT T = allD T := by
  have hmn : mn T.lo T.up 0 = T.lo.length := by
    have h1 := (pw_sub _ _ hlo (hup.filter fun x => T.lo.contains x) fun x hx => List.mem_filter.2 ⟨hs x hx, by simpa using hx⟩).length_le
    have h2 := (pw_sub T.lo (T.up.filter fun x => T.lo.contains x) (hup.filter _) hlo fun x hx => by simpa using (List.mem_filter.1 hx).2).length_le
    unfold mn; rw [List.drop_zero]; omega
  unfold allT allD RO
  rw [lp_RS T.up T.lo hup T.least T.most T.up.length (fun _ => false) 0 0 _ [] (by omega) (by omega) rfl rfl (by rw [hmn]) (fun _ _ => rfl) (by simp) (fun x hx => .inr (by simpa using hs x hx)), List.drop_zero]
  congr 1
  unfold ownS
  have hp : pickL T.up (fun _ => false) true T.up.length = [] := pick_hd T.up (fun _ => false) 0 _ (by omega) (fun _ _ => rfl)
  rw [hp]
  have hiff : ((T.lo.length : Int) = 0 ∧ T.least ≤ 0) ↔ Qd T.lo T.least T.most [] = true := by
    rw [Qd_iff]
    constructor
    · rintro ⟨e, h⟩
      have : T.lo = [] := List.length_eq_zero_iff.1 (by omega)
      rw [this]; exact ⟨by simp, by simpa using h, by simpa using hm⟩
    · rintro ⟨g, h, _⟩
      have : T.lo = [] := List.eq_nil_iff_forall_not_mem.2 fun x hx => by simpa using g x hx
      rw [this]; exact ⟨rfl, by simpa using h⟩
  by_cases hq : (T.lo.length : Int) = 0 ∧ T.least ≤ 0
  · rw [if_pos hq, if_pos (hiff.1 hq)]
  · rw [if_neg hq, if_neg (fun e => hq (hiff.2 e))]
theorem RO_len (lo : List Int) (least most : Int) : ∀ (u head : List Int), u.Pairwise (· < ·) → (∀ x ∈ u, ¬ x ∈ head) → (∀ x ∈ lo, x ∈ head ∨ x ∈ u) →
    ((RO lo least most head u).length : Int) = NS ((u.filter fun x => !lo.contains x).length) (head.length + (u.filter fun x => lo.contains x).length) least most
  | [], head, _, _, hlo => by
    have : ∀ x ∈ lo, x ∈ head := fun x hx => (hlo x hx).elim id (fun h => by simp at h)
    unfold RO RS
    simp only [subsL, List.map_nil, List.filter_nil, List.append_nil, List.length_nil, Nat.add_zero]
    by_cases hq : Qd lo least most head = true
    · rw [if_pos hq]
      have := (Qd_iff _ _ _ _).1 hq
      simp [NS, sm, nsf, ch, this.2.1, this.2.2]
    · rw [if_neg hq]
      have hn : ¬ (least ≤ (head.length : Int) ∧ (head.length : Int) ≤ most) := fun h => hq ((Qd_iff _ _ _ _).2 ⟨this, h⟩)
      simp only [NS, sm, nsf, ch, List.length_nil, Int.natCast_zero, Int.add_zero, Int.zero_add]
      rw [if_neg (by simpa using hn)]
  | x :: u, head, hu, hd, hlo => by
    have hni := pw_notin hu
    have hu' : u.Pairwise (· < ·) := (List.pairwise_cons.1 hu).2
    have hd' : ∀ y ∈ u, ¬ y ∈ head ++ [x] := fun y hy hm => by
      rcases List.mem_append.1 hm with e | e
      · exact hd y (List.mem_cons_of_mem _ hy) e
      · rw [List.mem_singleton.1 e] at hy; exact hni hy
    have hlo' : ∀ y ∈ lo, y ∈ head ++ [x] ∨ y ∈ u := fun y hy => by
      rcases hlo y hy with e | e
      · exact .inl (List.mem_append_left _ e)
      · rcases List.mem_cons.1 e with e | e
        · exact .inl (by rw [e]; simp)
        · exact .inr e
    have h1 := RO_len lo least most u (head ++ [x]) hu' hd' hlo'
    have hsum : ((RO lo least most head (x :: u)).length : Int) = (RO lo least most (head ++ [x]) u).length + (RO lo least most head u).length := by
      have e1 : RO lo least most head (x :: u) = (if Qd lo least most head = true then [head] else []) ++ (RO lo least most (head ++ [x]) u ++ RS lo least most head u) := by
        rw [← RS_cons]; rfl
      have e2 : RO lo least most head u = (if Qd lo least most head = true then [head] else []) ++ RS lo least most head u := rfl
      rw [e1, e2]; simp only [List.length_append]; omega
    rw [hsum, h1]
    by_cases hx : x ∈ lo
    · have hc : lo.contains x = true := by simpa using hx
      rw [RS_gone hx (hd x List.mem_cons_self) hni, List.filter_cons, List.filter_cons]
      simp only [hc, Bool.not_true, Bool.false_eq_true, if_false, if_true, List.length_nil, List.length_cons, List.length_append]
      rw [show head.length + (0 + 1) + (u.filter fun x => lo.contains x).length = head.length + ((u.filter fun x => lo.contains x).length + 1) by omega]
      simp
    · have hc : lo.contains x = false := by simpa using hx
      have h2 := RO_len lo least most u head hu' (fun y hy => hd y (List.mem_cons_of_mem _ hy)) (fun y hy => by
        rcases hlo y hy with e | e
        · exact .inl e
        · rcases List.mem_cons.1 e with e | e
          · exact absurd (e ▸ hy) hx
          · exact .inr e)
      rw [h2, List.filter_cons, List.filter_cons]
      simp only [hc, Bool.not_false, Bool.false_eq_true, if_false, if_true, List.length_cons, List.length_append, List.length_nil]
      rw [NS_pascal, show head.length + (0 + 1) + (u.filter fun x => lo.contains x).length = head.length + (u.filter fun x => lo.contains x).length + 1 by omega]
theorem nonempty_facts {d : SD} (h : emptyD d = false) : RightD d ∧ (d.lo.length : Int) ≤ d.least ∧ d.least ≤ d.most ∧ d.most ≤ d.up.length := by
  unfold emptyD at h
  simp only [Bool.or_eq_false_iff, Bool.not_eq_false', decide_eq_false_iff_not] at h
  have hr : RightD d := of_decide_eq_true h.1
  rcases hr.2.2.2.2.2 with ⟨e1, e2, _⟩ | e
  · omega
  · exact ⟨hr, e⟩
theorem all_mem {d : SD} {l : List Int} (h : l ∈ allD d) : (∀ x ∈ d.lo, x ∈ l) ∧ d.least ≤ (l.length : Int) ∧ (l.length : Int) ≤ d.most ∧ l.Sublist d.up := by
  unfold allD RO RS at h
  rcases List.mem_append.1 h with h | h
  · by_cases hq : Qd d.lo d.least d.most [] = true
    · rw [if_pos hq] at h
      rw [List.mem_singleton.1 h]
      have := (Qd_iff _ _ _ _).1 hq
      exact ⟨this.1, this.2.1, this.2.2, List.nil_sublist _⟩
    · rw [if_neg hq] at h; simp at h
  · obtain ⟨h1, h2⟩ := List.mem_filter.1 h
    obtain ⟨s, hs, rfl⟩ := List.mem_map.1 h1
    have := (Qd_iff _ _ _ _).1 h2
    exact ⟨this.1, this.2.1, this.2.2, (subs_sub _ _ hs).1⟩
theorem sub_set {l u : List Int} (hu : IsSet u) (h : l.Sublist u) : IsSet l :=
  set_of (Nat.le_trans h.length_le hu.1) (fun x hx => set_mem hu x (h.subset hx)) ((set_pw hu).sublist h)
theorem all_has {d : SD} (hr : RightD d) {l : List Int} (h : l ∈ allD d) : hasD d l = true ∧ IsSet l := by
  obtain ⟨h1, h2, h3, h4⟩ := all_mem h
  have hs := sub_set hr.2.2.2.1 h4
  refine ⟨(has_iff d l).2 ⟨hr, ?_⟩, hs⟩
  rw [tkS_yes hs]
  exact ⟨h1, fun x hx => h4.subset hx, h2, h3⟩
theorem filter_parts (p : Int → Bool) : ∀ u : List Int, (u.filter p).length + (u.filter fun x => !p x).length = u.length
  | [] => rfl
  | x :: u => by
    have := filter_parts p u
    rw [List.filter_cons, List.filter_cons]
    cases p x <;> simp <;> omega
theorem lo_filter {lo up : List Int} (hup : up.Pairwise (· < ·)) (hlo : lo.Pairwise (· < ·)) (hs : ∀ x ∈ lo, x ∈ up) : (up.filter fun x => lo.contains x).length = lo.length := by
  have h1 := (pw_sub _ _ hlo (hup.filter fun x => lo.contains x) fun x hx => List.mem_filter.2 ⟨hs x hx, by simpa using hx⟩).length_le
  have h2 := (pw_sub lo (up.filter fun x => lo.contains x) (hup.filter _) hlo fun x hx => by simpa using (List.mem_filter.1 hx).2).length_le
  omega
theorem all_len {d : SD} (hr : RightD d) : ((allD d).length : Int) = NSd d := by
  have hup := set_pw hr.2.2.2.1
  have hlo := set_pw hr.2.2.1
  have hs := right_sub hr
  have h1 := lo_filter hup hlo hs
  have h2 := filter_parts (fun x => d.lo.contains x) d.up
  unfold allD NSd
  rw [RO_len d.lo d.least d.most d.up [] hup (by simp) (fun x hx => .inr (hs x hx)), h1]
  have h3 : (d.up.filter fun x => !d.lo.contains x).length = d.up.length - d.lo.length := by
    have : (d.up.filter fun x => !d.lo.contains x).length = (d.up.filter fun x => !(fun y => d.lo.contains y) x).length := rfl
    omega
  rw [h3]; simp
theorem one_list {L : List (List Int)} {S : List Int} (h : L.length = 1) (hS : ∀ l ∈ L, l = S) : L = [S] := by
  match L, h with
  | [a], _ => rw [hS a (by simp)]
theorem td_right {L : List Int} (h : IsSet L) : RightD (TD L L L.length L.length) := ⟨rfl, rfl, h, h, (subB_iff _ _).2 fun _ h => h, .inr ⟨Int.le_refl _, Int.le_refl _, Int.le_refl _⟩⟩
theorem all_taken {d : SD} (h : emptyD d = false) : allD (takenD d) = allD d := by
  obtain ⟨hr, q1, q2, q3⟩ := nonempty_facts h
  have hl := all_len hr
  have hlt := all_len (taken_right d)
  have hN := NS_taken hr
  have e : takenD d = tightD d.lo d.up d.least d.most := by unfold takenD; rw [if_pos hr]
  rw [e] at hlt hN ⊢
  have hlo := hr.2.2.1
  have hup := hr.2.2.2.1
  rcases tight_cases d.least d.most hlo hup (right_sub hr) with ⟨e1, e2⟩ | ⟨e1, e2, e3⟩ | ⟨e1, e2, e3, e4⟩ | ⟨e1, e2, e3⟩
  · omega
  · rw [e1] at hlt hN ⊢
    rw [NS_one] at hN hlt
    rw [one_list (L := allD (TD d.up d.up d.up.length d.up.length)) (S := d.up) (by omega) (fun l hl => ?_), one_list (L := allD d) (S := d.up) (by omega) (fun l hl => ?_)]
    · obtain ⟨_, g2, _, g4⟩ := all_mem hl
      exact g4.eq_of_length_le (by omega)
    · obtain ⟨_, g2, _, g4⟩ := all_mem hl
      exact g4.eq_of_length_le (by simp only [TD] at g2; simp only [TD]; omega)
  · rw [e1] at hlt hN ⊢
    rw [NS_one] at hN hlt
    rw [one_list (L := allD (TD d.lo d.lo d.lo.length d.lo.length)) (S := d.lo) (by omega) (fun l hl => ?_), one_list (L := allD d) (S := d.lo) (by omega) (fun l hl => ?_)]
    · obtain ⟨g1, _, g3, g4⟩ := all_mem hl
      exact ((pw_sub l d.lo (set_pw hlo) ((set_pw hup).sublist g4) g1).eq_of_length_le (by omega)).symm
    · obtain ⟨_, g2, _, g4⟩ := all_mem hl
      exact g4.eq_of_length_le (by simp only [TD] at g2; simp only [TD]; omega)
  · rw [e1]
    rw [show max d.least d.lo.length = d.least by omega, show min d.most d.up.length = d.most by omega]
    rfl
theorem all_count {d : SD} (hr : RightD d) (h : (allD d).length < 1000) : countD d = (allD d).length := by
  rw [count_right hr, ← all_len hr]; omega
end Go.Proofs.YtacnhkaibcjjgaaGreatDoor
