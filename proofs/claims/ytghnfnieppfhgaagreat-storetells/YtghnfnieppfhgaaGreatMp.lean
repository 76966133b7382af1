/-
  What is proved here: the mathematics of StoreTells: what is told of a variable.
-/
import Derived.Test.YtghnfnieppfhgaaGreatMjj
import Derived.Test.YtghnfnieppfhgaaGreatMn
import Derived.Test.YtghnfnieppfhgaaGreatMe
namespace Go.Proofs.YtghnfnieppfhgaaGreat
open Go.RowKit Go.Shelf
set_option linter.unusedVariables false
set_option linter.unusedSimpArgs false

theorem both_left {o d : MD} (ho : rightM o = true) (he : emptyA (bothA o d) = false) : LeA (bothA o d) o := by
  cases hs : o.set
  · have no := num_of hs ho
    have e : bothA o d = bothW o d := by unfold bothA; rw [if_neg (by rw [hs]; decide)]
    have hRb := bothR_right o.r d.r
    rw [e]
    refine ⟨hs.symm, ?_⟩
    show ∀ x ∈ Dm.vals (Dm.tk (Dm.bothR o.r d.r)), x ∈ Dm.vals (Dm.tk o.r)
    intro x hx
    rw [Dm.tk_yes hRb] at hx
    unfold Dm.bothR at hx
    split at hx
    · exact ((Dm.ov_facts (Dm.right_ord (Dm.tk_right o.r)).1 (Dm.right_ord (Dm.tk_right d.r)).1).2 x |>.1 hx).1
    · exact hx
  · have e : bothA o d = ofSD (St.bothD (sdM o) (sdM d)) := by unfold bothA; rw [if_pos hs]
    have hB := bothD_right (sdM o) (sdM d)
    have eb := sd_of hB
    have hs' : (ofSD (St.bothD (sdM o) (sdM d))).set = true := hB.1
    have hr' : rightM (ofSD (St.bothD (sdM o) (sdM d))) = true := (ofSD_held hB).r
    rw [e] at he ⊢
    rw [empty_sd hs' hr', eb, St.bothD_G] at he
    have q := both_below (St.taken_right _) (St.taken_right _) he
    rw [← St.bothD_G] at q
    refine ⟨hs'.trans hs.symm, ?_⟩
    rw [if_pos hs', eb, bothD_idem]; exact q.1
theorem same_refl {x : MD} : sameA x x = true := by
  unfold sameA
  split
  · exact St.same_taken _
  · simp
/-- What has one value becomes no smaller without becoming empty. -/
theorem only_le {x y : MD} (hx : Tt x) (hy : Tt y) (h : LeA x y) (he : emptyA x = false) (ho : onlyA y = true) : x = y := by
  cases hs : y.set
  · have hxs : x.set = false := by rw [h.1]; exact hs
    have nx := num_of hxs hx.r
    have ny := num_of hs hy.r
    have g := h.2
    rw [if_neg (by rw [hxs]; decide), Dm.tk_yes nx.1, Dm.tk_yes ny.1] at g
    have h1 : Dm.sizeR y.r = 1 := by
      unfold onlyA onlyW at ho
      rw [if_neg (by rw [hs]; decide), Dm.tk_yes ny.1] at ho
      by_cases q : Dm.sizeR y.r = 1
      · exact q
      · rw [if_neg q] at ho; cases ho
    rw [Dm.sizeR_vals (Dm.right_ord ny.1).1.1] at h1
    obtain ⟨v, hv⟩ : ∃ v, Dm.vals y.r = [v] := List.length_eq_one_iff.1 (by omega)
    obtain ⟨u, hu⟩ := vals_ne nx.1 (num_pos he hxs)
    have huv : u = v := by have := g u hu; rw [hv] at this; simpa using this
    refine leA_eq hx hy h ⟨h.1.symm, ?_⟩
    rw [if_neg (by rw [hs]; decide), Dm.tk_yes nx.1, Dm.tk_yes ny.1]
    intro z hz
    rw [hv] at hz
    have : z = v := by simpa using hz
    rw [this, ← huv]
    exact hu
  · have hxs : x.set = true := by rw [h.1]; exact hs
    have g := h.2
    rw [if_pos hxs, hx.t hxs, hy.t hs] at g
    have hex := he
    rw [empty_sd hxs hx.r] at hex
    obtain ⟨hRx, c1, c2, c3, c4⟩ := tight_look (hx.t hxs) hex
    have hey := le_ne hx hy h he
    rw [empty_sd hs hy.r] at hey
    obtain ⟨hRy, d1, d2, d3, d4⟩ := tight_look (hy.t hs) hey
    have hf : ¬ (sdM y).lo.length < (sdM y).up.length := by
      unfold onlyA at ho
      rw [if_pos hs] at ho
      unfold St.fixB at ho
      rw [hy.t hs] at ho
      simp only [Bool.and_eq_true, Bool.not_eq_true', decide_eq_false_iff_not] at ho
      exact ho.2
    have elo : (sdM y).lo = (sdM y).up := St.set_sub_eq hRy.2.2.1 hRy.2.2.2.1 (St.right_sub hRy) (by omega)
    have l1 := St.set_sub_len hRy.2.2.1 hRx.2.2.1 g.lo
    have l2 := St.set_sub_len hRx.2.2.2.1 hRy.2.2.2.1 g.up
    have l3 := St.set_sub_len hRx.2.2.1 hRx.2.2.2.1 (St.right_sub hRx)
    refine leA_eq hx hy h ⟨h.1.symm, ?_⟩
    rw [if_pos hs, hx.t hxs, hy.t hs]
    refine ⟨fun z hz => ?_, fun z hz => ?_, ?_, ?_⟩
    · rw [elo]; exact g.up z (St.right_sub hRx z hz)
    · rw [← elo] at hz; exact St.right_sub hRx z (g.lo z hz)
    · omega
    · omega
/-- What is kept of a variable that had x and has y now. -/
def Rv (x y : MD) (w : Int) : Prop := 0 ≤ w ∧ w ≤ 3 ∧ (emptyA y = false → LeA y x ∧ (w = 0 ↔ y = x) ∧ (w ≠ 0 → (w = 1 ↔ onlyA y = true)))
structure Tol (D0 : List MD) (st : StM) : Prop where
  ok : Ok st
  n : st.D.length = D0.length
  w : st.why.length = D0.length
  t : ∀ x ∈ D0, Tt x
  v : ∀ (i : Nat) (x y : MD), D0[i]? = some x → st.D[i]? = some y → Rv x y (st.why.getD i 0)
theorem ch_vals (a b : MD) : (chM a b = 1 ↔ onlyA b = true) ∧ 1 ≤ chM a b ∧ chM a b ≤ 3 := by
  unfold chM
  cases onlyA b
  · simp only [Bool.false_eq_true, if_false]
    split <;> simp
  · simp
theorem Tol.step {D0 : List MD} {st : StM} (h : Tol D0 st) (v : Int) (d : MD) : Tol D0 (narM st v d) := by
  by_cases hr : rightM d = true
  · by_cases hg : ∃ (n : Nat) (o : MD), v = (n : Int) ∧ st.D[n]? = some o ∧ d.set = o.set ∧ st.e = 0
    · obtain ⟨n, o, rfl, hv, hk, h0⟩ := hg
      have hO := nar_ok h.ok (n : Int) d hr
      obtain ⟨e1, e2, _⟩ := nar_go h.ok hv hr hk h0
      have hol := (List.getElem?_eq_some_iff.1 hv).1
      have hm := List.mem_of_getElem? hv
      have hoT := h.ok.tt o hm
      have hnT : Tt (bothA o d) := both_tt hoT.r
      have hth : thereB st (n : Int) = true := by unfold thereB; simp; exact hol
      have en : narM st (n : Int) d = if sameA o (bothA o d) = true then st else narrowA st n o (bothA o d) (chM o (bothA o d)) := by
        unfold narM
        rw [if_neg (by rw [hth]; decide), Int.toNat_natCast, hv]
        simp only [hr, hk, h0]
        rw [if_neg (by decide), if_neg (by simp), if_neg (by decide)]
      cases hS : sameA o (bothA o d)
      · have ew : (narM st (n : Int) d).why = if emptyA (bothA o d) = true then st.why else tellM st.why n (chM o (bothA o d)) := by
          rw [en, if_neg (by rw [hS]; decide)]
          unfold narrowA
          rw [flat_save h.ok.flat]
          split <;> rfl
        refine ⟨hO, by rw [e1, List.length_set]; exact h.n, ?_, h.t, fun i x y hx hy => ?_⟩
        · rw [ew]
          split
          · exact h.w
          · unfold tellM
            split
            · rw [List.length_set]; exact h.w
            · exact h.w
        · rw [e1] at hy
          by_cases hi : n = i
          · subst hi
            rw [List.getElem?_set_self hol] at hy
            injection hy with hy
            subst hy
            obtain ⟨q1, q2, q3⟩ := h.v n x o hx hv
            cases hE : emptyA (bothA o d)
            · obtain ⟨q4, q5, q6⟩ := q3 (h.ok.ne h0 o hm)
              obtain ⟨c1, c2, c3⟩ := ch_vals o (bothA o d)
              have hle := both_left hoT.r hE
              have hno : o ≠ bothA o d := fun e => by rw [← e, same_refl] at hS; cases hS
              have hnx : bothA o d ≠ x := fun e => hno (leA_eq hoT hnT (by rw [e]; exact q4) hle)
              have hfo : onlyA o = false := by
                cases q : onlyA o
                · rfl
                · exact absurd (only_le hnT hoT hle hE q).symm hno
              have hwn : n < st.why.length := by rw [h.w, ← h.n]; exact hol
              rw [ew, if_neg (by rw [hE]; decide)]
              unfold tellM
              split
              · rename_i hc
                have eg : (st.why.set n (chM o (bothA o d))).getD n 0 = chM o (bothA o d) := by rw [List.getD_eq_getElem?_getD, List.getElem?_set_self hwn]; rfl
                rw [eg]
                exact ⟨by omega, by omega, fun _ => ⟨hle.trans q4, ⟨fun q => by omega, fun q => absurd q hnx⟩, fun _ => c1⟩⟩
              · rename_i hc
                have hw0 : st.why.getD n 0 ≠ 0 := fun q => hc (.inl q)
                have hw1 : ¬ chM o (bothA o d) < st.why.getD n 0 := fun q => hc (.inr q)
                have hw2 : st.why.getD n 0 ≠ 1 := fun q => by rw [(q6 hw0).1 q] at hfo; cases hfo
                refine ⟨q1, q2, fun _ => ⟨hle.trans q4, ⟨fun q => absurd q hw0, fun q => absurd q hnx⟩, fun _ => ⟨fun q => absurd q hw2, fun q => ?_⟩⟩⟩
                have := c1.2 q
                omega
            · rw [ew, if_pos hE]
              exact ⟨q1, q2, fun q => by rw [hE] at q; cases q⟩
          · rw [List.getElem?_set_ne hi] at hy
            have hrv := h.v i x y hx hy
            rw [ew]
            split
            · exact hrv
            · unfold tellM
              split
              · have eg : (st.why.set n (chM o (bothA o d))).getD i 0 = st.why.getD i 0 := by rw [List.getD_eq_getElem?_getD, List.getD_eq_getElem?_getD, List.getElem?_set_ne hi]
                rw [eg]; exact hrv
              · exact hrv
      · rw [en, if_pos hS]; exact h
    · rw [nar_stay (fun n o q1 q2 q3 q4 => hg ⟨n, o, q1, q2, q3, q4⟩) h.ok.e0]
      exact h
  · have e : narM st v d = st := by
      have hr' : rightM d = false := by simpa using hr
      unfold narM
      split
      · rfl
      · split
        · rfl
        · first | rfl | rw [if_pos hr']
    rw [e]; exact h
theorem tol_new {l : List MD} (hl : l.length ≤ 1000) (hr : ∀ d ∈ l, rightM d = true) : Tol (newA l).D (newA l) := by
  have hO := new_okk hl hr
  refine ⟨hO, rfl, ?_, hO.tt, fun i x y hx hy => ?_⟩
  · show (List.replicate l.length (0 : Int)).length = (l.map _).length
    simp
  · rw [hx] at hy
    injection hy with hy
    subst hy
    have e : (newA l).why.getD i 0 = 0 := by
      show (List.replicate l.length (0 : Int)).getD i 0 = 0
      rw [List.getD_eq_getElem?_getD, List.getElem?_replicate]
      split <;> rfl
    rw [e]
    exact ⟨Int.le_refl _, by decide, fun _ => ⟨LeA.refl x, ⟨fun _ => rfl, fun _ => rfl⟩, fun q => absurd rfl q⟩⟩
theorem re_empty {x : MD} (h : rightM x = true) : reM x = emptyA x := by
  cases hs : x.set
  · unfold reM emptyA emptyW
    rw [if_neg (by rw [hs]; decide), if_neg (by rw [hs]; decide)]
  · rw [empty_sd hs h]
    unfold reM
    rw [if_pos hs]
/-- What is told of a variable. -/
theorem Tol.told {D0 : List MD} {st : StM} (h : Tol D0 st) {i : Nat} {x y : MD} (hx : D0[i]? = some x) (hy : st.D[i]? = some y) :
    (evA st i = none ↔ (x = y ∨ emptyA y = true)) ∧ (emptyA y = false → x ≠ y → evA st i = some [.int .i64 i, .int .i64 (st.why.getD i 0)] ∧ (st.why.getD i 0 = 1 ↔ onlyA y = true)) := by
  obtain ⟨q1, q2, q3⟩ := h.v i x y hx hy
  have hg : st.D.getD i ⟨false, [], [], [], 0, 0⟩ = y := by rw [List.getD_eq_getElem?_getD, hy]; rfl
  have e : evA st i = if st.why.getD i 0 ≠ 0 ∧ emptyA y = false then some [.int .i64 i, .int .i64 (st.why.getD i 0)] else none := by unfold evA; rw [hg]
  rw [e]
  cases hE : emptyA y
  · obtain ⟨q4, q5, q6⟩ := q3 hE
    by_cases hw : st.why.getD i 0 = 0
    · have hxy := q5.1 hw
      rw [if_neg (fun q => q.1 hw)]
      exact ⟨⟨fun _ => .inl hxy.symm, fun _ => rfl⟩, fun _ q => absurd hxy.symm q⟩
    · have hxy : x ≠ y := fun q => hw (q5.2 q.symm)
      rw [if_pos ⟨hw, rfl⟩]
      exact ⟨⟨(fun q => by cases q), (fun q => q.elim (fun q => absurd q hxy) (fun q => by cases q))⟩, fun _ _ => ⟨rfl, q6 hw⟩⟩
  · rw [if_neg (fun q => by cases q.2)]
    exact ⟨⟨fun _ => .inr rfl, fun _ => rfl⟩, fun q => by cases q⟩
theorem evs_zero {st : StM} (h : ∀ i : Nat, st.why.getD i 0 = 0) : ∀ k, evsA st k = []
  | 0 => rfl
  | k + 1 => by
    rw [evsA_succ, evs_zero h k]
    have : evA st k = none := by unfold evA; rw [if_neg (fun q => q.1 (h k))]
    rw [this]; rfl
theorem evs_at {st : StM} {i n : Nat} {e : List Value} (hi : i < n) (he : evA st i = some e) : (evsA st n)[(evsA st i).length]? = some e := by
  induction n with
  | zero => omega
  | succ m ih =>
    rw [evsA_succ]
    rcases Nat.lt_or_ge i m with q | q
    · have h1 := ih q
      rw [List.getElem?_append_left (List.getElem?_eq_some_iff.1 h1).1]
      exact h1
    · obtain rfl : i = m := by omega
      rw [List.getElem?_append_right (Nat.le_refl _), Nat.sub_self, he]
      rfl
end Go.Proofs.YtghnfnieppfhgaaGreat
