/-
  What is proved here: The reference: can outputs be?
  What is proved here: The reference of ranges: alike.
-/
import Derived.Test.YtdnhhmnllhlbbaaGreatDoorQe
namespace Go.Proofs.YtdnhhmnllhlbbaaGreatDoor
open Go.RowKit Go.Shelf
set_option linter.unusedVariables false
set_option linter.unusedSimpArgs false
theorem snoc_ind {α : Type} {p : List α → Prop} (h0 : p []) (hs : ∀ l a, p l → p (l ++ [a])) : ∀ l, p l := by
  intro l
  have h : ∀ r : List α, p r.reverse := by
    intro r
    induction r with
    | nil => exact h0
    | cons a t ih => rw [List.reverse_cons]; exact hs _ _ ih
  have := h l.reverse
  rwa [List.reverse_reverse] at this
theorem nmD_tidy : ∀ l : List Ou, Go.Maps.Tidy (nmD l) := snoc_ind Go.Maps.tidy_empty (fun l o h => by rw [nmD_snoc]; exact h.put (by trivial) _)
theorem nmD_has (s : List UInt8) : ∀ l : List Ou, (Go.Maps.has (nmD l) (.string s) = true ↔ s ∈ l.map (·.nm)) := by
  refine snoc_ind ?_ ?_
  · simp [nmD, Go.Maps.has]
  · intro l o ih
    rw [nmD_snoc, List.map_append, List.mem_append]
    by_cases h : s = o.nm
    · subst h
      rw [Go.Maps.has_put_same (nmD_tidy l).isMap (by trivial)]
      simp
    · rw [Go.Maps.has_put_other (by intro e; injection e with e; exact h e), ih]
      simp [h]
theorem nmD_size : ∀ l : List Ou, Go.Maps.size (nmD l) ≤ l.length ∧ (Go.Maps.size (nmD l) = l.length ↔ (l.map (·.nm)).Nodup) := by
  refine snoc_ind ?_ ?_
  · simp [nmD, Go.Maps.size]
  · intro l o ih
    rw [nmD_snoc, Go.Maps.size_put (nmD_tidy l), List.map_append, List.length_append]
    have hh := nmD_has o.nm l
    by_cases h : Go.Maps.has (nmD l) (.string o.nm) = true
    · rw [if_pos h]
      have hm := hh.1 h
      refine ⟨by have := ih.1; omega, ?_⟩
      constructor
      · intro e
        have := ih.1
        simp at e
        omega
      · intro hn
        rw [List.nodup_append] at hn
        exact absurd rfl (hn.2.2 o.nm hm o.nm (by simp))
    · rw [if_neg h]
      have hm : o.nm ∉ l.map (·.nm) := fun q => h (hh.2 q)
      refine ⟨by have := ih.1; simp; omega, ?_⟩
      rw [List.nodup_append]
      constructor
      · intro e
        refine ⟨ih.2.1 (by simp at e; omega), by simp, fun a ha b hb => ?_⟩
        intro q
        simp at hb
        rw [q, hb] at ha
        exact hm ha
      · intro hn
        have := ih.2.2 hn.1
        simp
        omega
theorem tw_nodup (l : List Ou) : twB l = true ↔ ¬ (l.map (·.nm)).Nodup := by
  unfold twB
  have h := nmD_size l
  rw [decide_eq_true_iff]
  constructor
  · intro h1 h2
    have := h.2.2 h2
    omega
  · intro h1
    rcases Nat.lt_or_ge (Go.Maps.size (nmD l)) l.length with q | q
    · omega
    · exact absurd (h.2.1 (by have := h.1; omega)) h1
theorem nodup_of {l : List Ou} (h : ∀ (i k : Nat) (o p : Ou), k < i → l[i]? = some o → l[k]? = some p → p.nm ≠ o.nm) : twB l = false := by
  cases e : twB l with
  | false => rfl
  | true =>
    refine absurd ?_ ((tw_nodup l).1 e)
    rw [List.Nodup, List.pairwise_iff_getElem]
    intro i j hi hj hij
    rw [List.length_map] at hi hj
    rw [List.getElem_map, List.getElem_map]
    exact h j i l[j] l[i] hij (List.getElem?_eq_getElem hj) (List.getElem?_eq_getElem hi)
theorem dup_of2 {l : List Ou} {i k : Nat} {o p : Ou} (h : k < i) (ho : l[i]? = some o) (hp : l[k]? = some p) (e : p.nm = o.nm) : twB l = true := by
  refine (tw_nodup l).2 fun hn => ?_
  obtain ⟨hi, rfl⟩ := List.getElem?_eq_some_iff.1 ho
  obtain ⟨hk, rfl⟩ := List.getElem?_eq_some_iff.1 hp
  rw [List.Nodup, List.pairwise_iff_getElem] at hn
  have := hn k i (by rw [List.length_map]; exact hk) (by rw [List.length_map]; exact hi) h
  rw [List.getElem_map, List.getElem_map] at this
  exact this e

set_option maxRecDepth 100000 in
set_option maxHeartbeats 4000000 in
theorem rright14 {W : World} {s : Value} {l : List Ou} (h : Sou W s l) (hn : l.length ≤ 1000000000) (hz : ∀ o ∈ l, OuZ o) :
    Calls Tryz.prog 14 #[s] W fun e w' => e = .returned (.int .i64 (RightN l)) ∧ Below W.heap.size W w' := by
  obtain ⟨a, c, rfl, h'⟩ := h
  have HA : Hid (Sou W (.slice a l.length c) l) := ⟨_, _, rfl, h'⟩
  have HZ := hid hz
  obtain ⟨n, hln⟩ : ∃ n, l.length = n := ⟨_, rfl⟩
  have HN := hid hln
  obtain ⟨r, hr⟩ : ∃ r, RightN l = r := ⟨_, rfl⟩
  have HR : Hid (r = if 1000 < n then 4 else if anyB (wrA l) n then 210 else if twB l then 172 else 0) := by rw [Hid, ← hr, ← hln]; rfl
  rw [hln] at HA hn ⊢
  rw [hr]
  clear h' hz hln hr
  by_cases h1000 : 1000 < n
  · have h1i : (1000 : Int) < n := by omega
    have HF : Hid (r = 4) := by rw [Hid, HR.out, if_pos h1000]
    go_enter Tryz.func14, Tryz.ntmps14
    go_wp2
    go_ret
    exact ⟨by show Ending.returned (Value.int .i64 4) = _; rw [HF.out], Below.refl _ _⟩
  have h1i : ¬ (1000 : Int) < n := by omega
  have HR2 : Hid (r = if anyB (wrA l) n then 210 else if twB l then 172 else 0) := by rw [Hid, HR.out, if_neg h1000]
  go_enter Tryz.func14, Tryz.ntmps14
  go_wp2
  go_loopw [3] (fun i wr => ∃ (k : Nat), i = .int .i64 (k : Int) ∧ k ≤ n ∧ Hid (∀ j, j < k → wrA l j = false) ∧ Hid (Below W.heap.size W wr)) (fun i _ => n - (intOf i).toNat)
  case atStart => exact ⟨0, rfl, Nat.zero_le _, fun j hj => absurd hj (by omega), Below.refl _ _⟩
  case round =>
    obtain ⟨k, rfl, hk, HAL, HBB⟩ := hrel
    by_cases hlt : k < n
    · have hlt9 : (k : Int) < n := by omega
      obtain ⟨o, ho⟩ : ∃ x, l[k]? = some x := ⟨_, List.getElem?_eq_getElem (by rw [HN.out]; exact hlt)⟩
      obtain ⟨b, off, dv, lv, rfl, hb, hdv, hlv, d0, d1, d2, d3, d4⟩ := HA.out.at ho
      have kr := rright39 (W := wr) o (hdv.below HBB.out) (hlv.below HBB.out) (HZ.out o (List.mem_of_getElem? ho))
      have HWA : Hid (wrA l k = wrB o) := by unfold Hid wrA; rw [ho]
      obtain ⟨da, dc, rfl, _⟩ := hdv
      obtain ⟨la, lc, rfl, _⟩ := hlv
      have y0 := (HBB.out.cell (p := ⟨b, off + k * 5, none⟩) hb).trans d0
      have y1 := (HBB.out.cell (p := ⟨b, off + k * 5 + 1, none⟩) hb).trans d1
      have y2 := (HBB.out.cell (p := ⟨b, off + k * 5 + 2, none⟩) hb).trans d2
      have y3 := (HBB.out.cell (p := ⟨b, off + k * 5 + 3, none⟩) hb).trans d3
      have y4 := (HBB.out.cell (p := ⟨b, off + k * 5 + 4, none⟩) hb).trans d4
      have hwk : IntKind.i64.wrap ((k : Int) + 1) = (k : Int) + 1 := by rw [IntKind.wrap_i64]; omega
      obtain ⟨v, hv⟩ : ∃ v, wrB o = v := ⟨_, rfl⟩
      obtain ⟨dn, hdn⟩ : ∃ q, o.dims.length = q := ⟨_, rfl⟩
      obtain ⟨m, hm⟩ : ∃ q, o.l.length = q := ⟨_, rfl⟩
      rw [hdn] at y1 kr
      rw [hm] at y2 kr
      rw [hv] at kr HWA
      clear ho d0 d1 d2 d3 d4 hb hv hdn hm
      go_wp2_with fail
      refine kr.mono ?_
      rintro e w2 ⟨rfl, hb2⟩
      have HB2 : Hid (Below W.heap.size W w2) := HBB.out.trans (hb2.mono HBB.out.size)
      clear kr hb2 y0 y1 y2 y3 y4
      cases v
      · have HAL2 : Hid (∀ j, j < k + 1 → wrA l j = false) := succ_all HAL.out HWA.out
        go_wp2
        go_roundw
        case rel => exact ⟨k + 1, by go_num, by omega, HAL2, HB2.out⟩
        case measure => simp [intOf]; omega
      · have HF : Hid (r = 210) := by
          have e : anyB (wrA l) n = true := any_yes hlt HWA.out
          rw [Hid, HR2.out, e, if_pos rfl]
        go_wp2
        go_ret
        exact ⟨by show Ending.returned (Value.int .i64 210) = _; rw [HF.out], HB2.out⟩
    · have hlt9 : ¬ (k : Int) < n := by omega
      have HR3 : Hid (r = if twB l then 172 else 0) := by
        have e : anyB (wrA l) n = false := any_no (fun j hj => HAL.out j (by omega))
        rw [Hid, HR2.out, e]
        rfl
      obtain ⟨wo, hwo⟩ : ∃ q, wr = q := ⟨_, rfl⟩
      subst hwo
      go_wp2
      go_loopw [4, 5] (fun i t5 wr => ∃ (i9 : Nat), i = .int .i64 (i9 : Int) ∧ i9 ≤ n ∧ Hid (∀ (i k : Nat) (o p : Ou), i < i9 → k < i → l[i]? = some o → l[k]? = some p → p.nm ≠ o.nm) ∧ Hid (Below W.heap.size W wr)) (fun i _ _ => n - (intOf i).toNat)
      case atStart => exact ⟨0, rfl, Nat.zero_le _, fun i k o p hi => absurd hi (by omega), HBB⟩
      case round =>
        obtain ⟨i9, rfl, hi9, HAI, HBI⟩ := hrel
        by_cases hil : i9 < n
        · have hil9 : (i9 : Int) < n := by omega
          obtain ⟨o, ho⟩ : ∃ x, l[i9]? = some x := ⟨_, List.getElem?_eq_getElem (by rw [HN.out]; exact hil)⟩
          have HOI := hid ho
          have hwk : IntKind.i64.wrap ((i9 : Int) + 1) = (i9 : Int) + 1 := by rw [IntKind.wrap_i64]; omega
          obtain ⟨wi, hwi⟩ : ∃ q, wr = q := ⟨_, rfl⟩
          subst hwi
          clear ho
          go_wp2
          go_loopw [5] (fun t5 wr => ∃ (k9 : Nat), t5 = .int .i64 (k9 : Int) ∧ k9 ≤ i9 ∧ Hid (∀ (k : Nat) (p : Ou), k < k9 → l[k]? = some p → p.nm ≠ o.nm) ∧ Hid (Below W.heap.size W wr)) (fun t5 _ => i9 - (intOf t5).toNat)
          case atStart => exact ⟨0, rfl, Nat.zero_le _, fun k p hk => absurd hk (by omega), HBI⟩
          case round =>
            obtain ⟨k9, rfl, hk9, HAK, HBK⟩ := hrel
            by_cases hkl : k9 < i9
            · have hkl9 : (k9 : Int) < i9 := by omega
              obtain ⟨p, hp⟩ : ∃ x, l[k9]? = some x := ⟨_, List.getElem?_eq_getElem (by rw [HN.out]; omega)⟩
              have HPI := hid hp
              obtain ⟨b, off, dv, lv, rfl, hb, _, _, d0, _⟩ := HA.out.at hp
              obtain ⟨b2, off2, dv2, lv2, e2, hb2, _, _, f0, _⟩ := HA.out.at HOI.out
              injection e2 with e2
              injection e2 with e3 e4
              subst e3 e4
              have y0 := (HBK.out.cell (p := ⟨b, off + k9 * 5, none⟩) hb).trans d0
              have y1 := (HBK.out.cell (p := ⟨b, off + i9 * 5, none⟩) hb).trans f0
              have hwk9 : IntKind.i64.wrap ((k9 : Int) + 1) = (k9 : Int) + 1 := by rw [IntKind.wrap_i64]; omega
              have hk9n : (k9 : Int) < n := by omega
              obtain ⟨X, hX⟩ : ∃ X, bs p.nm = X := ⟨_, rfl⟩
              obtain ⟨Y, hY⟩ : ∃ X, bs o.nm = X := ⟨_, rfl⟩
              obtain ⟨v, hv⟩ : ∃ v, decide (p.nm = o.nm) = v := ⟨_, rfl⟩
              have heq : (X.toList == Y.toList) = v := by rw [← hX, ← hY, bs_toList, bs_toList, ← hv]; by_cases h : p.nm = o.nm <;> simp [h]
              rw [hX] at y0
              rw [hY] at y1
              have HVV := hid hv
              clear hp d0 f0 hb hb2 hX hY hv
              cases v
              · have HAK2 : Hid (∀ (k : Nat) (p : Ou), k < k9 + 1 → l[k]? = some p → p.nm ≠ o.nm) := fun k q hk hq => by
                  rcases Nat.lt_or_ge k k9 with h | h
                  · exact HAK.out k q h hq
                  · obtain rfl : k = k9 := by omega
                    rw [HPI.out] at hq
                    injection hq with hq
                    subst hq
                    exact of_decide_eq_false HVV.out
                go_wp2
                go_quiet (fail)
                go_wp2
                go_roundw
                case rel => exact ⟨k9 + 1, by go_num, by omega, HAK2, below_drewN HBK.out _⟩
                case measure => simp [intOf]; omega
              · have HF : Hid (r = 172) := by
                  rw [Hid, HR3.out, dup_of2 hkl HOI.out HPI.out (of_decide_eq_true HVV.out)]
                  rfl
                go_wp2
                go_quiet (fail)
                go_wp2
                go_ret
                exact ⟨by show Ending.returned (Value.int .i64 172) = _; rw [HF.out], below_drewN HBK.out _⟩
            · have hkl9 : ¬ (k9 : Int) < i9 := by omega
              have HAI2 : Hid (∀ (i k : Nat) (o p : Ou), i < i9 + 1 → k < i → l[i]? = some o → l[k]? = some p → p.nm ≠ o.nm) := fun i k o' p hi hk ho' hp => by
                rcases Nat.lt_or_ge i i9 with h | h
                · exact HAI.out i k o' p h hk ho' hp
                · obtain rfl : i = i9 := by omega
                  rw [HOI.out] at ho'
                  injection ho' with ho'
                  subst ho'
                  exact HAK.out k p (by omega) hp
              go_wp2
              go_roundw
              case rel => exact ⟨i9 + 1, by go_num, by omega, HAI2, HBK.out⟩
              case measure => simp [intOf]; omega
        · have hil9 : ¬ (i9 : Int) < n := by omega
          have HF : Hid (r = 0) := by
            have e : twB l = false := nodup_of (fun i k o p hk ho hp => HAI.out i k o p (by have := (List.getElem?_eq_some_iff.1 ho).1; rw [HN.out] at this; omega) hk ho hp)
            rw [Hid, HR3.out, e]
            rfl
          go_wp2
          go_ret
          exact ⟨by show Ending.returned (Value.int .i64 0) = _; rw [HF.out], HBI.out⟩
end Go.Proofs.YtdnhhmnllhlbbaaGreatDoor

namespace Go.Proofs.YtdnhhmnllhlbbaaGreatDoor
open Go.RowKit Go.Shelf
set_option linter.unusedVariables false
set_option linter.unusedSimpArgs false

set_option maxRecDepth 100000 in
set_option maxHeartbeats 4000000 in
theorem alike42 {W : World} {s1 s2 : Value} {l1 l2 : List (Int × Int)} (h1 : Rgs W s1 l1) (h2 : Rgs W s2 l2) (hz1 : l1.length ≤ 17592186043904) (hz2 : l2.length ≤ 17592186043904) :
    Calls Tryz.prog 42 #[s1, s2] W fun e w' => e = .returned (.bool (decide (l1 = l2))) ∧ Below W.heap.size W w' := by
  obtain ⟨a1, c1, rfl, h1'⟩ := h1
  obtain ⟨a2, c2, rfl, h2'⟩ := h2
  have H1 : Hid (Rgs W (.slice a1 l1.length c1) l1) := ⟨_, _, rfl, h1'⟩
  have H2 : Hid (Rgs W (.slice a2 l2.length c2) l2) := ⟨_, _, rfl, h2'⟩
  clear h1' h2'
  obtain ⟨n1, hn1⟩ : ∃ n, l1.length = n := ⟨_, rfl⟩
  obtain ⟨n2, hn2⟩ : ∃ n, l2.length = n := ⟨_, rfl⟩
  rw [hn1] at hz1 H1 ⊢
  rw [hn2] at hz2 H2 ⊢
  have HN : Hid (l1.length = n1 ∧ l2.length = n2) := ⟨hn1, hn2⟩
  clear hn1 hn2
  by_cases hne : n1 = n2
  · subst hne
    go_enter Tryz.func42, Tryz.ntmps42
    go_wp2
    go_loopw [5] (fun i wr => ∃ k : Nat, k ≤ n1 ∧ i = .int .i64 (k : Int) ∧ Hid (l1.take k = l2.take k) ∧ Hid (Below W.heap.size W wr)) (fun i _ => n1 - (intOf i).toNat)
    case atStart => exact ⟨0, Nat.zero_le _, rfl, by simp [Hid], Below.refl _ _⟩
    case round =>
      obtain ⟨k, hk, rfl, HQ, HB⟩ := hrel
      by_cases hlt : k < n1
      · have hlt' : (k : Int) < n1 := by omega
        obtain ⟨⟨p, q⟩, hx⟩ : ∃ x, l1[k]? = some x := ⟨_, List.getElem?_eq_getElem (by rw [HN.out.1]; exact hlt)⟩
        obtain ⟨⟨r, u⟩, hy⟩ : ∃ x, l2[k]? = some x := ⟨_, List.getElem?_eq_getElem (by rw [HN.out.2]; exact hlt)⟩
        obtain ⟨b1, o1, rfl, hb1, d0, d1⟩ := H1.out.at hx
        obtain ⟨b2, o2, rfl, hb2, e0, e1⟩ := H2.out.at hy
        have HS : Hid (l1.take (k + 1) = l2.take (k + 1) ↔ (p, q) = (r, u)) := take_eq_succ hx hy HQ.out
        have x1 := (HB.out.cell (p := ⟨b1, o1 + k * 2, none⟩) hb1).trans d0
        have y1 := (HB.out.cell (p := ⟨b1, o1 + k * 2 + 1, none⟩) hb1).trans d1
        have x2 := (HB.out.cell (p := ⟨b2, o2 + k * 2, none⟩) hb2).trans e0
        have y2 := (HB.out.cell (p := ⟨b2, o2 + k * 2 + 1, none⟩) hb2).trans e1
        clear hx hy hb1 hb2 d0 d1 e0 e1
        simp only at x1 y1 x2 y2
        by_cases e1 : p = r
        · subst e1
          by_cases e2 : q = u
          · subst e2
            have HT : Hid _ := HS.out.2 rfl
            go_wp2
            go_quiet (fail)
            have HB9 : Hid (Below W.heap.size W (wr.drewN nq)) := below_drewN HB.out _
            go_wp2
            go_roundw
            case rel => exact ⟨k + 1, by omega, by go_num, HT, HB9.out⟩
            case measure => simp [intOf]; omega
          · have HF : Hid (l1 ≠ l2) := fun e => e2 (Prod.ext_iff.1 (HS.out.1 (by rw [e]))).2
            have z1 : (q == u) = false := by simpa using e2
            have z2 : (q != u) = true := by simpa using e2
            have z3 : decide (q = u) = false := by simpa using e2
            go_wp2
            go_quiet (fail)
            have HB9 : Hid (Below W.heap.size W (wr.drewN nq)) := below_drewN HB.out _
            go_wp2
            go_ret
            exact ⟨by simp [HF.out], HB9.out⟩
        · have HF : Hid (l1 ≠ l2) := fun e => e1 (Prod.ext_iff.1 (HS.out.1 (by rw [e]))).1
          have z1 : (p == r) = false := by simpa using e1
          have z2 : (p != r) = true := by simpa using e1
          have z3 : decide (p = r) = false := by simpa using e1
          go_wp2
          go_quiet (fail)
          have HB9 : Hid (Below W.heap.size W (wr.drewN nq)) := below_drewN HB.out _
          go_wp2
          go_ret
          exact ⟨by simp [HF.out], HB9.out⟩
      · have hlt' : ¬ (k : Int) < n1 := by omega
        obtain rfl : k = n1 := by omega
        have HT : Hid (l1 = l2) := take_eq_all HN.out.1 HN.out.2 HQ.out
        go_wp2
        go_ret
        exact ⟨by simp [HT.out], HB.out⟩
  · have HF : Hid (l1 ≠ l2) := fun e => hne (by rw [← HN.out.1, ← HN.out.2, e])
    have hd : ((n1 : Int) != n2) = true := by simp; omega
    have hd2 : ((n1 : Int) == n2) = false := by simp; omega
    go_enter Tryz.func42, Tryz.ntmps42
    go_wp2
    go_ret
    exact ⟨by simp [HF.out], Below.refl _ _⟩
end Go.Proofs.YtdnhhmnllhlbbaaGreatDoor
