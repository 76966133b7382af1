/-
  What is proved here: The reference: letters, words, sets, values of kinds, numbers as text, terms.
-/
import Derived.Test.YtdnhhmnllhlbbaaGreatDoorPhj
import Derived.Test.YtdnhhmnllhlbbaaGreatDoorOnj
import Derived.Test.YtdnhhmnllhlbbaaGreatDoorOf
import Derived.Test.YtdnhhmnllhlbbaaGreatDoorPpj
namespace Go.Proofs.YtdnhhmnllhlbbaaGreatDoor
open Go.RowKit Go.Shelf
set_option linter.unusedVariables false
set_option linter.unusedSimpArgs false
set_option maxRecDepth 100000 in
set_option maxHeartbeats 4000000 in
theorem rletter86 (c : UInt8) (W : World) : Calls Tryz.prog 86 #[.int .u8 (c.toNat : Int)] W fun e w' => e = .returned (.bool (letB c)) ∧ w' = W := by
  go_enter Tryz.func86, Tryz.ntmps86
  go_wp2
  all_goals (go_ret; refine ⟨?_, rfl⟩; show Ending.returned (Value.bool _) = _; congr 2; rw [Bool.eq_iff_iff]; simp [letB]; try omega)
set_option maxRecDepth 100000 in
set_option maxHeartbeats 4000000 in
theorem rdigit87 (c : UInt8) (W : World) : Calls Tryz.prog 87 #[.int .u8 (c.toNat : Int)] W fun e w' => e = .returned (.bool (digB c)) ∧ w' = W := by
  go_enter Tryz.func87, Tryz.ntmps87
  go_wp2
  all_goals (go_ret; refine ⟨?_, rfl⟩; show Ending.returned (Value.bool _) = _; congr 2; rw [Bool.eq_iff_iff]; simp [digB]; try omega)
set_option maxRecDepth 100000 in
set_option maxHeartbeats 4000000 in
theorem rword65 (l : List UInt8) (hl : l.length ≤ 140737488355328) (W : World) : Calls Tryz.prog 65 #[.string (bs l)] W fun e w' => e = .returned (.bool (wordB l)) ∧ w' = W := by
  cases hll : l with
  | nil =>
    have h0 := bs_e0
    go_enter Tryz.func65, Tryz.ntmps65
    go_wp2
    go_ret
    exact ⟨rfl, rfl⟩
  | cons c r =>
    have HW : Hid (wordB (c :: r) = (letB c && decide (spn wrdB (c :: r) = (c :: r).length))) := rfl
    rw [← hll] at HW ⊢
    obtain ⟨hx0, hx⟩ := bs_get l 0 c (by rw [hll]; rfl)
    have h0 := bs_ne l (by rw [hll]; simp)
    have h1 := bs_nee l (by rw [hll]; simp)
    have hat := fun (i : Nat) (c : UInt8) (h : l[i]? = some c) => bs_get l i c h
    have hsz : (bs l).size = l.length := bs_size _
    have hsl := spn_le wrdB l
    obtain ⟨g, hg⟩ : ∃ g, spn wrdB l = g := ⟨_, rfl⟩
    obtain ⟨n, hn⟩ : ∃ n, l.length = n := ⟨_, rfl⟩
    have HG : Hid (spn wrdB l = g) := hg
    have HN : Hid (l.length = n) := hn
    rw [hg, hn] at HW hsl
    rw [hn] at hsz hl
    clear hg hn hll
    cases hl1 : letB c with
    | true =>
      rw [hl1] at HW
      go_enter Tryz.func65, Tryz.ntmps65
      go_wp2_with (go_at_call 86; refine (rletter86 _ _).mono ?_; rw [hl1]; rintro e w' ⟨rfl, hw'⟩; have hw2 := hw'.symm; clear hw'; subst hw2)
      clear hl1 hx hx0
      go_loopw [3] (fun i wr => ∃ k : Nat, k ≤ g ∧ i = .int .i64 (k : Int) ∧ wr = W) (fun i _ => n - (intOf i).toNat)
      case atStart => exact ⟨0, Nat.zero_le _, rfl, rfl⟩
      case round =>
        obtain ⟨k, hk, rfl, rfl⟩ := hrel
        by_cases hlt : k < n
        · have hlt' : (k : Int) < (n : Int) := by omega
          obtain ⟨c, hc⟩ : ∃ c, l[k]? = some c := ⟨_, List.getElem?_eq_getElem (by rw [HN.out]; exact hlt)⟩
          obtain ⟨hx0, hx⟩ := hat k c hc
          have hsp := spn_at wrdB l k c (by rw [HG.out]; exact hk) hc
          rw [HG.out] at hsp
          have hw1 : IntKind.i64.wrap ((k : Int) + 1) = (k : Int) + 1 := by rw [IntKind.wrap_i64]; omega
          have HSP : Hid (k < g ↔ wrdB c = true) := hsp
          clear hsp hc
          by_cases hl1 : letB c = true
          · have hkg : k < g := HSP.out.2 (by simp [wrdB, hl1])
            go_wp2_with (first | (go_at_call 86; refine (rletter86 _ _).mono ?_; rw [hl1]; rintro e w' ⟨rfl, rfl⟩) | (go_at_call 87; refine (rdigit87 _ _).mono ?_; rintro e w' ⟨rfl, rfl⟩))
            go_roundw
            case rel => exact ⟨k + 1, by omega, by go_num, by first | rfl | trivial⟩
            case measure => simp [intOf]; omega
          · have hl2 : letB c = false := by simpa using hl1
            by_cases hd1 : digB c = true
            · have hkg : k < g := HSP.out.2 (by simp [wrdB, hd1])
              go_wp2_with (first | (go_at_call 86; refine (rletter86 _ _).mono ?_; rw [hl2]; rintro e w' ⟨rfl, rfl⟩) | (go_at_call 87; refine (rdigit87 _ _).mono ?_; rw [hd1]; rintro e w' ⟨rfl, rfl⟩))
              go_roundw
              case rel => exact ⟨k + 1, by omega, by go_num, by first | rfl | trivial⟩
              case measure => simp [intOf]; omega
            · have hd2 : digB c = false := by simpa using hd1
              have hkg : k = g := by
                have : ¬ k < g := fun h => by have := HSP.out.1 h; simp [wrdB, hl2, hd2] at this
                omega
              have HV : Hid (wordB l = false) := by unfold Hid; rw [HW.out]; simp; omega
              clear hkg
              go_wp2_with (first | (go_at_call 86; refine (rletter86 _ _).mono ?_; rw [hl2]; rintro e w' ⟨rfl, rfl⟩) | (go_at_call 87; refine (rdigit87 _ _).mono ?_; rw [hd2]; rintro e w' ⟨rfl, rfl⟩))
              (try rw [Exit.noGoto_ret])
              go_ret
              refine ⟨?_, rfl⟩; rw [HV.out]; rfl
        · have hlt' : ¬ (k : Int) < (n : Int) := by omega
          have HV : Hid (wordB l = true) := by unfold Hid; rw [HW.out]; simp; omega
          go_wp2
          (try rw [Exit.noGoto_ret])
          go_ret
          refine ⟨?_, rfl⟩; rw [HV.out]; rfl
    | false =>
      rw [hl1] at HW
      go_enter Tryz.func65, Tryz.ntmps65
      go_wp2_with (go_at_call 86; refine (rletter86 _ _).mono ?_; rw [hl1]; rintro e w' ⟨rfl, rfl⟩)
      go_ret
      refine ⟨?_, rfl⟩
      rw [HW.out]
      first | rfl | (show Ending.returned (Value.bool _) = _; simp)
/-- The i-th number of a list. -/
def nthQ (l : List Int) (i : Nat) : Int := l.getD i 0
def SetAtQ (l : List Int) (i : Nat) : Prop := -1000000 ≤ nthQ l i ∧ nthQ l i ≤ 1000000 ∧ (0 < i → nthQ l (i - 1) < nthQ l i)
instance (l : List Int) (i : Nat) : Decidable (SetAtQ l i) := by unfold SetAtQ; infer_instance
/-- Numbers are a set. -/
def IsSetQ (l : List Int) : Prop := l.length ≤ 64 ∧ ∀ i, i < l.length → SetAtQ l i
instance (l : List Int) : Decidable (IsSetQ l) := by unfold IsSetQ; infer_instance
def setQ (l : List Int) : Bool := decide (IsSetQ l)
theorem setQ_yes {l : List Int} (h : IsSetQ l) : setQ l = true := by unfold setQ; simpa using h
theorem setQ_no {l : List Int} (h : ¬ IsSetQ l) : setQ l = false := by unfold setQ; simpa using h
theorem nthQ_get {l : List Int} {i : Nat} (h : i < l.length) : nthQ l i = l[i] := by unfold nthQ; simp [List.getD, List.getElem?_eq_getElem h]
def ZiQ (W : World) (s : Value) (l : List Int) : Prop :=
  ∃ a cap, s = .slice a l.length cap ∧ (0 < l.length → ∃ b off, a = some ⟨b, off, none⟩ ∧ b < W.heap.size ∧ ∀ i, i < l.length → W.cell? ⟨b, off + i, none⟩ = some (.int .i64 (nthQ l i)))
theorem Si.ziq {B : Nat} {W : World} {s : Value} {l : List Int} (h : Si B W s l) : ZiQ W s l := by
  obtain ⟨a, c, e, h⟩ := h
  refine ⟨a, c, e, fun h0 => ?_⟩
  obtain ⟨b, off, e1, _, e2, e3⟩ := h h0
  exact ⟨b, off, e1, e2, fun i hi => by rw [nthQ_get hi]; exact e3 i _ (List.getElem?_eq_getElem hi)⟩
theorem ret_boolQ {a b : Bool} (h : a = b) : Ending.returned (.bool a) = Ending.returned (.bool b) := by rw [h]
set_option maxRecDepth 100000 in
set_option maxHeartbeats 2000000 in
theorem refset_any (s : Value) (l : List Int) (w : World) (h : ZiQ w s l) :
    Calls Tryz.prog 57 #[s] w fun e w' => e = .returned (.bool (setQ l)) ∧ ∃ n, w' = w.drewN n := by
  obtain ⟨a, cap, rfl, hc⟩ := h
  obtain ⟨n, hn⟩ : ∃ n, l.length = n := ⟨_, rfl⟩
  have HN : Hid (l.length = n) := hn
  rw [hn] at hc ⊢
  have HC : Hid _ := hc
  clear hn hc
  by_cases hlen : n ≤ 64
  · have hn' : ¬ (64 < (n : Int)) := by omega
    go_enter Tryz.func57, Tryz.ntmps57
    go_wp2
    go_loopw [3] (fun i wr => ∃ k : Nat, k ≤ n ∧ i = .int .i64 k ∧ (∀ j, j < k → SetAtQ l j) ∧ ∃ m, wr = w.drewN m) (fun i _ => n - (intOf i).toNat)
    case atStart => exact ⟨0, Nat.zero_le _, rfl, fun j hj => absurd hj (by omega), 0, rfl⟩
    case round =>
      obtain ⟨k, hk, rfl, hok, m, rfl⟩ := hrel
      have HOK : Hid (∀ j, j < k → SetAtQ l j) := hok
      clear hok
      by_cases hlt2 : k < n
      · obtain ⟨b, off, rfl, hb, hcell⟩ := HC.out (by omega)
        obtain ⟨W2, hW2⟩ : ∃ W2, w.drewN m = W2 := ⟨_, rfl⟩
        have HW2 : Hid (w.drewN m = W2) := hW2
        have HC2 : Hid (∀ i, i < n → W2.cell? ⟨b, off + i, none⟩ = some (.int .i64 (nthQ l i))) := by rw [← hW2]; exact hcell
        rw [hW2]
        clear hW2 hcell
        have d1 := HC2.out k hlt2
        have hlt' : (k : Int) < (n : Int) := by omega
        obtain ⟨x, hx⟩ : ∃ x, nthQ l k = x := ⟨_, rfl⟩
        have HX : Hid (nthQ l k = x) := hx
        rw [hx] at d1
        have hnot : ¬ SetAtQ l k → setQ l = false := fun h => setQ_no fun hR => h (hR.2 k (by rw [HN.out]; exact hlt2))
        have HNOT : Hid (¬ SetAtQ l k → setQ l = false) := hnot
        clear hx hnot
        by_cases hA1 : -1000000 ≤ x
        · have hA1' : decide (x < -1000000) = false := by simp; omega
          by_cases hA2 : x ≤ 1000000
          · have hA2' : decide (1000000 < x) = false := by simp; omega
            by_cases hk0 : 0 < k
            · have d3 := HC2.out (k - 1) (by omega)
              obtain ⟨z, hz⟩ : ∃ z, nthQ l (k - 1) = z := ⟨_, rfl⟩
              have HZ : Hid (nthQ l (k - 1) = z) := hz
              rw [hz] at d3
              have hd0 : decide (0 < k) = true := by simpa using hk0
              have hk1 : (k : Int) - 1 = ((k - 1 : Nat) : Int) := by omega
              clear hz
              by_cases hD : x ≤ z
              · have hd2 : decide (x ≤ z) = true := by simpa using hD
                go_wp2
                go_quiet (fail)
                go_wp2
                go_ret
                exact ⟨ret_boolQ (HNOT.out (fun h => by have := h.2.2 hk0; rw [HX.out, HZ.out] at this; omega)).symm, _, by rw [← HW2.out, World.drewN_drewN]⟩
              · have hd2 : decide (x ≤ z) = false := by simp; omega
                have HOK2 : Hid (SetAtQ l k) := ⟨by rw [HX.out]; exact hA1, by rw [HX.out]; exact hA2, fun _ => by rw [HX.out, HZ.out]; omega⟩
                go_wp2
                go_quiet (fail)
                go_wp2
                go_roundw
                case rel => exact ⟨k + 1, by omega, by go_num, fun j hj => if h : j = k then by subst h; exact HOK2.out else HOK.out j (by omega), _, by rw [← HW2.out, World.drewN_drewN]⟩
                case measure => simp [intOf]; omega
            · have hd0 : decide (0 < k) = false := by simp; omega
              have HOK2 : Hid (SetAtQ l k) := ⟨by rw [HX.out]; exact hA1, by rw [HX.out]; exact hA2, fun h => absurd h hk0⟩
              go_wp2
              go_quiet (fail)
              go_wp2
              go_roundw
              case rel => exact ⟨k + 1, by omega, by go_num, fun j hj => if h : j = k then by subst h; exact HOK2.out else HOK.out j (by omega), _, by rw [← HW2.out, World.drewN_drewN]⟩
              case measure => simp [intOf]; omega
          · have hA2' : decide (1000000 < x) = true := by simp; omega
            go_wp2
            go_quiet (fail)
            go_wp2
            go_ret
            exact ⟨ret_boolQ (HNOT.out (fun h => by have := h.2.1; rw [HX.out] at this; omega)).symm, _, by rw [← HW2.out, World.drewN_drewN]⟩
        · have hA1' : decide (x < -1000000) = true := by simp; omega
          go_wp2
          go_quiet (fail)
          go_wp2
          go_ret
          exact ⟨ret_boolQ (HNOT.out (fun h => by have := h.1; rw [HX.out] at this; omega)).symm, _, by rw [← HW2.out, World.drewN_drewN]⟩
      · have hlt' : ¬ (k : Int) < (n : Int) := by omega
        go_wp2
        go_ret
        exact ⟨ret_boolQ (setQ_yes ⟨by rw [HN.out]; exact hlen, fun i hi => HOK.out i (by rw [HN.out] at hi; omega)⟩).symm, _, rfl⟩
  · have hn' : 64 < (n : Int) := by omega
    go_enter Tryz.func57, Tryz.ntmps57
    go_wp2
    go_ret
    exact ⟨ret_boolQ (setQ_no fun h => hlen (by rw [← HN.out]; exact h.1)).symm, 0, rfl⟩
theorem setQ_is (l : List Int) : setQ l = setOk l := by
  have hb : ∀ i, i < l.length → (badAt l i = false ↔ SetAtQ l i) := by
    intro i hi
    unfold badAt SetAtQ
    rw [List.getElem?_eq_getElem hi, nthQ_get hi]
    by_cases h0 : 0 < i
    · rw [List.getElem?_eq_getElem (by omega : i - 1 < l.length), nthQ_get (by omega : i - 1 < l.length)]
      simp [bndB, h0, and_assoc]
    · simp [bndB, h0]
  by_cases h : IsSetQ l
  · rw [setQ_yes h, setOk_all (fun i hi => (hb i hi).2 (h.2 i hi))]
    simpa using h.1
  · rw [setQ_no h]
    by_cases hl : l.length ≤ 64
    · have : ∃ i, i < l.length ∧ ¬ SetAtQ l i := Classical.byContradiction fun q => h ⟨hl, fun i hi => Classical.byContradiction fun r => q ⟨i, hi, r⟩⟩
      obtain ⟨i, hi, hn⟩ := this
      rw [setOk_bad (i := i) (by cases hq : badAt l i with | true => rfl | false => exact absurd ((hb i hi).1 hq) hn) hi]
    · unfold setOk
      simp [hl]
theorem rset57 {B : Nat} {W : World} {s : Value} {l : List Int} (h : Si B W s l) : Calls Tryz.prog 57 #[s] W fun e w' => e = .returned (.bool (setOk l)) ∧ Below W.heap.size W w' :=
  (refset_any s l W h.ziq).mono fun e w' ⟨h1, n, h2⟩ => ⟨by rw [h1, setQ_is], by rw [h2]; exact ⟨rfl, rfl, rfl, Nat.le_refl _, fun _ _ => rfl⟩⟩

set_option maxRecDepth 100000 in
set_option maxHeartbeats 4000000 in
theorem taken77 {B : Nat} {W : World} {s : Value} {l : List Int} (h : Si B W s l) (hs : setOk l = true) : Calls Tryz.prog 77 #[s] W fun e w' => e = .returned s ∧ Below W.heap.size W w' := by
  have k := rset57 h
  obtain ⟨a, c, rfl, _⟩ := h
  rw [hs] at k
  clear hs
  go_enter Tryz.func77, Tryz.ntmps77
  go_wp2_with fail
  refine k.mono ?_
  rintro e w1 ⟨rfl, hb⟩
  have HB := hid hb
  clear hb k
  go_wp2
  go_ret
  exact ⟨rfl, HB.out⟩

set_option maxRecDepth 100000 in
set_option maxHeartbeats 4000000 in
theorem fits34 {B : Nat} {W : World} {sv : Value} {l : List Int} (s : Bool) (n k : Int) (h : Si B W sv l) (hz : l.length ≤ 17592186043904) :
    Calls Tryz.prog 34 #[.agg #[.bool s, .int .i64 n, sv], .int .i64 k] W fun e w' => e = .returned (.bool (isVal s n l k)) ∧ Below W.heap.size W w' := by
  obtain ⟨a1, c1, rfl, h1'⟩ := h
  have hb1 : Below W.heap.size W (W.alloc (Obj.cells #[.bool s, .int .i64 n, .slice a1 l.length c1] 36)) := (Below.refl _ _).alloc (Nat.le_refl _) _
  have kset := rset57 (W := W.alloc (Obj.cells #[.bool s, .int .i64 n, .slice a1 l.length c1] 36)) ((show Si B W (.slice a1 l.length c1) l from ⟨_, _, rfl, h1'⟩).below hb1)
  have HB1 := hid hb1
  have HW : Hid (isVal s n l k = (if k = 1 then isNum s l.length n 0 1 else if k = 2 then isNum s l.length n (-1000000) 1000000 else if k = 3 then s && (decide (n = 0) && setOk l) else false)) := rfl
  obtain ⟨m, hm⟩ : ∃ m, l.length = m := ⟨_, rfl⟩
  obtain ⟨o, ho⟩ : ∃ o, setOk l = o := ⟨_, rfl⟩
  obtain ⟨r, hr⟩ : ∃ r, isVal s n l k = r := ⟨_, rfl⟩
  rw [hm, ho] at HW
  rw [hm] at kset HB1 hz ⊢
  rw [ho] at kset
  rw [hr] at HW ⊢
  clear h1' hm ho hr hb1
  by_cases k1 : k = 1
  · subst k1
    rw [if_pos rfl] at HW
    clear kset
    by_cases hm0 : m = 0
    · subst hm0
      by_cases n0 : n = 0
      · subst n0
        go_enter Tryz.func34, Tryz.ntmps34
        cases s <;>
        · go_wp2
          go_ret
          exact ⟨ret_boolQ HW.out.symm, HB1.out⟩
      · by_cases n1 : n = 1
        · subst n1
          go_enter Tryz.func34, Tryz.ntmps34
          cases s <;>
          · go_wp2
            go_ret
            exact ⟨ret_boolQ HW.out.symm, HB1.out⟩
        · have q0 : (n == 0) = false := by simpa using n0
          have q1 : (n == 1) = false := by simpa using n1
          have HN : Hid (isNum s 0 n 0 1 = false) := by unfold Hid isNum; have : ¬ (0 ≤ n ∧ n ≤ 1) := by omega
                                                        cases s <;> simp <;> omega
          go_enter Tryz.func34, Tryz.ntmps34
          cases s <;>
          · go_wp2
            go_ret
            exact ⟨ret_boolQ (HW.out.trans HN.out).symm, HB1.out⟩
    · have q0 : ((m : Int) == 0) = false := by simp; omega
      have HN : Hid (isNum s m n 0 1 = false) := by unfold Hid isNum; simp [hm0]
      go_enter Tryz.func34, Tryz.ntmps34
      cases s <;>
      · go_wp2
        go_ret
        exact ⟨ret_boolQ (HW.out.trans HN.out).symm, HB1.out⟩
  rw [if_neg k1] at HW
  have g1 : (k == 1) = false := by simpa using k1
  by_cases k2 : k = 2
  · subst k2
    rw [if_pos rfl] at HW
    clear kset
    by_cases hm0 : m = 0
    · subst hm0
      by_cases n0 : -1000000 ≤ n
      · by_cases n1 : n ≤ 1000000
        · have HN : Hid (isNum s 0 n (-1000000) 1000000 = !s) := by unfold Hid isNum; cases s <;> simp <;> omega
          go_enter Tryz.func34, Tryz.ntmps34
          cases s <;>
          · go_wp2
            go_ret
            exact ⟨ret_boolQ (HW.out.trans HN.out).symm, HB1.out⟩
        · have HN : Hid (isNum s 0 n (-1000000) 1000000 = false) := by unfold Hid isNum; cases s <;> simp <;> omega
          go_enter Tryz.func34, Tryz.ntmps34
          cases s <;>
          · go_wp2
            go_ret
            exact ⟨ret_boolQ (HW.out.trans HN.out).symm, HB1.out⟩
      · have HN : Hid (isNum s 0 n (-1000000) 1000000 = false) := by unfold Hid isNum; cases s <;> simp <;> omega
        go_enter Tryz.func34, Tryz.ntmps34
        cases s <;>
        · go_wp2
          go_ret
          exact ⟨ret_boolQ (HW.out.trans HN.out).symm, HB1.out⟩
    · have q0 : ((m : Int) == 0) = false := by simp; omega
      have HN : Hid (isNum s m n (-1000000) 1000000 = false) := by unfold Hid isNum; simp [hm0]
      go_enter Tryz.func34, Tryz.ntmps34
      cases s <;>
      · go_wp2
        go_ret
        exact ⟨ret_boolQ (HW.out.trans HN.out).symm, HB1.out⟩
  rw [if_neg k2] at HW
  have g2 : (k == 2) = false := by simpa using k2
  by_cases k3 : k = 3
  · subst k3
    rw [if_pos rfl] at HW
    cases s
    · clear kset
      go_enter Tryz.func34, Tryz.ntmps34
      go_wp2
      go_ret
      exact ⟨ret_boolQ HW.out.symm, HB1.out⟩
    · by_cases n0 : n = 0
      · subst n0
        go_enter Tryz.func34, Tryz.ntmps34
        go_wp2_with fail
        refine kset.mono ?_
        rintro e w2 ⟨rfl, hb2⟩
        have HB2 : Hid (Below W.heap.size W w2) := HB1.out.trans (hb2.mono HB1.out.size)
        clear kset hb2
        go_wp2
        go_ret
        exact ⟨ret_boolQ (HW.out.trans (by simp)).symm, HB2.out⟩
      · have q0 : (n == 0) = false := by simpa using n0
        clear kset
        go_enter Tryz.func34, Tryz.ntmps34
        go_wp2
        go_ret
        exact ⟨ret_boolQ (HW.out.trans (by simp [n0])).symm, HB1.out⟩
  · rw [if_neg k3] at HW
    have g3 : (k == 3) = false := by simpa using k3
    clear kset
    go_enter Tryz.func34, Tryz.ntmps34
    go_wp2
    go_ret
    exact ⟨ret_boolQ HW.out.symm, HB1.out⟩

set_option maxRecDepth 100000 in
set_option maxHeartbeats 4000000 in
theorem dec41 (n : Int) (h0 : -9223372036854775808 ≤ n) (h1 : n ≤ 9223372036854775807) (W : World) (hT : Tens W) : Calls Tryz.prog 41 #[.int .i64 n] W fun e w' => e = .returned (.string (bs (Lib.itoa n))) ∧ Below W.heap.size W w' := by
  go_enter Tryz.func41, Tryz.ntmps41
  go_wp2_with fail
  refine (fint68 n h0 h1 W hT).mono ?_
  rintro e w' ⟨rfl, hb⟩
  have HB := hid hb
  clear hb
  go_wp2
  go_ret
  exact ⟨rfl, HB.out⟩
set_option maxRecDepth 100000 in
set_option maxHeartbeats 4000000 in
theorem rstat16 (how why part at_ : Int) (w0 : -9223372036854775808 ≤ why) (w1 : why ≤ 9223372036854775807) (p0 : -9223372036854775808 ≤ part) (p1 : part ≤ 9223372036854775807) (a0 : -9223372036854775808 ≤ at_) (a1 : at_ ≤ 9223372036854775807) (W : World) (hT : Tens W) :
    Calls Tryz.prog 16 #[.int .i64 how, .int .i64 why, .int .i64 part, .int .i64 at_] W fun e w' => e = .returned (.string (bs (statT how why part at_))) ∧ Below W.heap.size W w' := by
  by_cases h1 : how = 1
  · subst h1
    go_enter Tryz.func16, Tryz.ntmps16
    go_wp2
    go_ret
    exact ⟨rfl, Below.refl _ _⟩
  by_cases h2 : how = 2
  · subst h2
    go_enter Tryz.func16, Tryz.ntmps16
    go_wp2
    go_ret
    exact ⟨rfl, Below.refl _ _⟩
  by_cases h4 : how = 4
  · subst h4
    go_enter Tryz.func16, Tryz.ntmps16
    have HT : Hid (Tens W) := hT
    have lw := Lib.itoa_length_le why w0 w1
    have lp := Lib.itoa_length_le part p0 p1
    have la := Lib.itoa_length_le at_ a0 a1
    clear hT
    go_wp2_with fail
    refine (dec41 why w0 w1 _ HT.out).mono ?_
    rintro e w2 ⟨rfl, hb2⟩
    have HB2 : Hid _ := hb2
    clear hb2
    have hz1 : 16 + (bs (Lib.itoa why)).size ≤ 9223372036854775807 := by rw [bs_size]; omega
    have hz2 : 16 + (bs (Lib.itoa why)).size + 1 ≤ 9223372036854775807 := by rw [bs_size]; omega
    go_wp2_with fail
    refine (dec41 part p0 p1 _ (HT.out.self HB2.out)).mono ?_
    rintro e w3 ⟨rfl, hb3⟩
    have HB3 : Hid (Below W.heap.size W w3) := HB2.out.trans (hb3.mono HB2.out.size)
    clear hb3 HB2 hz1 hz2
    have hz1 : 16 + (bs (Lib.itoa why)).size + 1 + (bs (Lib.itoa part)).size ≤ 9223372036854775807 := by rw [bs_size, bs_size]; omega
    have hz2 : 16 + (bs (Lib.itoa why)).size + 1 + (bs (Lib.itoa part)).size + 1 ≤ 9223372036854775807 := by rw [bs_size, bs_size]; omega
    go_wp2_with fail
    refine (dec41 at_ a0 a1 _ (HT.out.self HB3.out)).mono ?_
    rintro e w4 ⟨rfl, hb4⟩
    have HB4 : Hid (Below W.heap.size W w4) := HB3.out.trans (hb4.mono HB3.out.size)
    clear hb4 HB3 hz1 hz2
    have hz1 : 16 + (bs (Lib.itoa why)).size + 1 + (bs (Lib.itoa part)).size + 1 + (bs (Lib.itoa at_)).size ≤ 9223372036854775807 := by rw [bs_size, bs_size, bs_size]; omega
    have hz2 : 16 + (bs (Lib.itoa why)).size + 1 + (bs (Lib.itoa part)).size + 1 + (bs (Lib.itoa at_)).size + 1 ≤ 9223372036854775807 := by rw [bs_size, bs_size, bs_size]; omega
    go_wp2_with fail
    go_ret
    exact ⟨by show Ending.returned (Value.string (bs [61, 61, 61, 61, 61, 69, 82, 82, 79, 82, 61, 61, 61, 61, 61, 32] ++ bs (Lib.itoa why) ++ bs [32] ++ bs (Lib.itoa part) ++ bs [32] ++ bs (Lib.itoa at_) ++ bs [10])) = _; simp only [bs_app]; rfl, HB4⟩
  · go_enter Tryz.func16, Tryz.ntmps16
    go_wp2
    go_ret
    exact ⟨by unfold statT; rw [if_neg h1, if_neg h2, if_neg h4]; rfl, Below.refl _ _⟩
set_option maxRecDepth 100000 in
set_option maxHeartbeats 4000000 in
theorem rsameTerm69 {B1 B2 : Nat} {W : World} {s1 s2 : Value} {l1 l2 : List Int} (v1 v2 : Int) (b1 b2 : Bool) (n1 n2 : Int) (h1 : Si B1 W s1 l1) (h2 : Si B2 W s2 l2) (hz1 : l1.length ≤ 17592186043904) (hz2 : l2.length ≤ 17592186043904) :
    Calls Tryz.prog 69 #[.agg #[.int .i64 v1, .bool b1, .int .i64 n1, s1], .agg #[.int .i64 v2, .bool b2, .int .i64 n2, s2]] W fun e w' => e = .returned (.bool (decide (v1 = v2 ∧ b1 = b2 ∧ n1 = n2 ∧ l1 = l2))) ∧ Below W.heap.size W w' := by
  obtain ⟨a1, c1, rfl, h1'⟩ := h1
  obtain ⟨a2, c2, rfl, h2'⟩ := h2
  have hbA : Below W.heap.size W ((W.alloc (Obj.cells #[.int .i64 v1, .bool b1, .int .i64 n1, .slice a1 l1.length c1] 67)).alloc (Obj.cells #[.int .i64 v2, .bool b2, .int .i64 n2, .slice a2 l2.length c2] 67)) := ((Below.refl _ W).alloc (Nat.le_refl _) _).alloc (by simp) _
  have k := sameVal35 b1 b2 n1 n2 ((show Si B1 W (.slice a1 l1.length c1) l1 from ⟨_, _, rfl, h1'⟩).below hbA) ((show Si B2 W (.slice a2 l2.length c2) l2 from ⟨_, _, rfl, h2'⟩).below hbA) hz1 hz2
  have HBA : Hid _ := hbA
  clear h1' h2' hbA
  obtain ⟨m1, hm1⟩ : ∃ n, l1.length = n := ⟨_, rfl⟩
  obtain ⟨m2, hm2⟩ : ∃ n, l2.length = n := ⟨_, rfl⟩
  obtain ⟨r, hr⟩ : ∃ r, decide (b1 = b2 ∧ n1 = n2 ∧ l1 = l2) = r := ⟨_, rfl⟩
  rw [hm1, hm2, hr] at k
  rw [hm1, hm2] at HBA ⊢
  have HR : Hid (decide (b1 = b2 ∧ n1 = n2 ∧ l1 = l2) = r) := hr
  clear hm1 hm2 hr hz1 hz2
  by_cases hv : v1 = v2
  · subst hv
    go_enter Tryz.func69, Tryz.ntmps69
    go_wp2_with fail
    refine k.mono ?_
    rintro e w1 ⟨rfl, hb1⟩
    have HB1 : Hid (Below W.heap.size W w1) := HBA.out.trans (hb1.mono (by simp; omega))
    clear hb1
    go_wp2
    go_ret
    exact ⟨by rw [← HR.out]; simp, HB1.out⟩
  · have hd : (v1 == v2) = false := by simpa using hv
    clear k
    go_enter Tryz.func69, Tryz.ntmps69
    go_wp2
    go_ret
    exact ⟨by simp [hv], HBA.out⟩
instance : DecidableEq Tm := fun a b => by cases a; cases b; simp only [Tm.mk.injEq]; infer_instance
theorem tm_eq (x y : Tm) : (x.v = y.v ∧ x.set = y.set ∧ x.n = y.n ∧ x.s = y.s) ↔ x = y := by cases x; cases y; simp
set_option maxRecDepth 100000 in
set_option maxHeartbeats 4000000 in
theorem rsameTerms43 {B1 B2 : Nat} {W : World} {s1 s2 : Value} {l1 l2 : List Tm} (h1 : St B1 W s1 l1) (h2 : St B2 W s2 l2) (hz1 : l1.length ≤ 17592186043904) (hz2 : l2.length ≤ 17592186043904) (hL1 : ∀ t ∈ l1, t.s.length ≤ 17592186043904) (hL2 : ∀ t ∈ l2, t.s.length ≤ 17592186043904) :
    Calls Tryz.prog 43 #[s1, s2] W fun e w' => e = .returned (.bool (decide (l1 = l2))) ∧ Below W.heap.size W w' := by
  obtain ⟨a1, c1, rfl, h1'⟩ := h1
  obtain ⟨a2, c2, rfl, h2'⟩ := h2
  have H1 : Hid (St B1 W (.slice a1 l1.length c1) l1) := ⟨_, _, rfl, h1'⟩
  have H2 : Hid (St B2 W (.slice a2 l2.length c2) l2) := ⟨_, _, rfl, h2'⟩
  have HL1 : Hid (∀ t ∈ l1, t.s.length ≤ 17592186043904) := hL1
  have HL2 : Hid (∀ t ∈ l2, t.s.length ≤ 17592186043904) := hL2
  clear h1' h2' hL1 hL2
  obtain ⟨n1, hn1⟩ : ∃ n, l1.length = n := ⟨_, rfl⟩
  obtain ⟨n2, hn2⟩ : ∃ n, l2.length = n := ⟨_, rfl⟩
  rw [hn1] at hz1 H1 ⊢
  rw [hn2] at hz2 H2 ⊢
  have HN : Hid (l1.length = n1 ∧ l2.length = n2) := ⟨hn1, hn2⟩
  clear hn1 hn2
  by_cases hne : n1 = n2
  · subst hne
    go_enter Tryz.func43, Tryz.ntmps43
    go_wp2
    go_loopw [5] (fun i wr => ∃ k : Nat, k ≤ n1 ∧ i = .int .i64 (k : Int) ∧ Hid (l1.take k = l2.take k) ∧ Hid (Below W.heap.size W wr)) (fun i _ => n1 - (intOf i).toNat)
    case atStart => exact ⟨0, Nat.zero_le _, rfl, by simp [Hid], Below.refl _ _⟩
    case round =>
      obtain ⟨k, hk, rfl, HQ, HB⟩ := hrel
      by_cases hlt : k < n1
      · have hlt' : (k : Int) < n1 := by omega
        obtain ⟨x, hx⟩ : ∃ x, l1[k]? = some x := ⟨_, List.getElem?_eq_getElem (by rw [HN.out.1]; exact hlt)⟩
        obtain ⟨y, hy⟩ : ∃ x, l2[k]? = some x := ⟨_, List.getElem?_eq_getElem (by rw [HN.out.2]; exact hlt)⟩
        obtain ⟨b1, o1, a3, c3, rfl, hb1, g1, d0, d1, d2, d3⟩ := H1.out.at hx
        obtain ⟨b2, o2, a4, c4, rfl, hb2, g2, e0, e1, e2, e3⟩ := H2.out.at hy
        have HS : Hid (l1.take (k + 1) = l2.take (k + 1) ↔ x = y) := take_eq_succ hx hy HQ.out
        have kT : ∀ X, Below W.heap.size W X → Calls Tryz.prog 69 #[.agg #[.int .i64 x.v, .bool x.set, .int .i64 x.n, .slice a3 x.s.length c3], .agg #[.int .i64 y.v, .bool y.set, .int .i64 y.n, .slice a4 y.s.length c4]] X fun e w' => e = .returned (.bool (decide (x.v = y.v ∧ x.set = y.set ∧ x.n = y.n ∧ x.s = y.s))) ∧ Below X.heap.size X w' := fun X hX => rsameTerm69 x.v y.v x.set y.set x.n y.n (g1.below hX) (g2.below hX) (HL1.out x (List.mem_of_getElem? hx)) (HL2.out y (List.mem_of_getElem? hy))
        obtain ⟨r, hr⟩ : ∃ r, decide (x.v = y.v ∧ x.set = y.set ∧ x.n = y.n ∧ x.s = y.s) = r := ⟨_, rfl⟩
        rw [hr] at kT
        have HR : Hid (decide (x.v = y.v ∧ x.set = y.set ∧ x.n = y.n ∧ x.s = y.s) = r) := hr
        clear g1 g2 hx hy hr
        have hw2 : IntKind.i64.wrap ((k : Int) + 1) = (k : Int) + 1 := by rw [IntKind.wrap_i64]; omega
        go_upto_region 6 with (fail)
        have hB : Below W.heap.size W wr.drew := Below.drew HB.out
        refine wp_region_held_drew (S := (fun w' => w'.cell? ⟨b1, o1 + k * 4, none⟩ = some (.int .i64 x.v) ∧ w'.cell? ⟨b1, o1 + k * 4 + 1, none⟩ = some (.bool x.set) ∧ w'.cell? ⟨b1, o1 + k * 4 + 2, none⟩ = some (.int .i64 x.n) ∧ w'.cell? ⟨b1, o1 + k * 4 + 3, none⟩ = some (.slice a3 x.s.length c3) ∧ w'.cell? ⟨b2, o2 + k * 4, none⟩ = some (.int .i64 y.v) ∧ w'.cell? ⟨b2, o2 + k * 4 + 1, none⟩ = some (.bool y.set) ∧ w'.cell? ⟨b2, o2 + k * 4 + 2, none⟩ = some (.int .i64 y.n) ∧ w'.cell? ⟨b2, o2 + k * 4 + 3, none⟩ = some (.slice a4 y.s.length c4))) (by kernel_rfl) (⟨(hB.cell (p := ⟨b1, o1 + k * 4, none⟩) hb1).trans d0, (hB.cell (p := ⟨b1, o1 + k * 4 + 1, none⟩) hb1).trans d1, (hB.cell (p := ⟨b1, o1 + k * 4 + 2, none⟩) hb1).trans d2, (hB.cell (p := ⟨b1, o1 + k * 4 + 3, none⟩) hb1).trans d3, (hB.cell (p := ⟨b2, o2 + k * 4, none⟩) hb2).trans e0, (hB.cell (p := ⟨b2, o2 + k * 4 + 1, none⟩) hb2).trans e1, (hB.cell (p := ⟨b2, o2 + k * 4 + 2, none⟩) hb2).trans e2, (hB.cell (p := ⟨b2, o2 + k * 4 + 3, none⟩) hb2).trans e3⟩) (fun hHeld => ?_)
        refine wpAnyH_take (i := 0) (oi := { dst := some 17, op := Go.Op.move (Go.Operand.tmp 0), type := 51, pos := "ref.go:339", after := #[], guard := none }) (v := ?_) rfl (by kernel_rfl) (by kernel_rfl) (by kernel_rfl) (fun _ _ _ h => h) (Or.inl ⟨by rfl, ?_⟩) hHeld ?_
        rotate_left
        · intro w hSw; (try dsimp only at hSw); go_simp <;> with_reducible rfl
        try simp only [Act.put, List.setIfInBounds_toArray, List.set_cons_zero, List.set_cons_succ]
        refine wpAnyH_take (i := 1) (oi := { dst := some 18, op := Go.Op.move (Go.Operand.tmp 5), type := 3, pos := "ref.go:339", after := #[], guard := none }) (v := ?_) rfl (by kernel_rfl) (by kernel_rfl) (by kernel_rfl) (fun _ _ _ h => h) (Or.inl ⟨by rfl, ?_⟩) hHeld ?_
        rotate_left
        · intro w hSw; (try dsimp only at hSw); go_simp <;> with_reducible rfl
        try simp only [Act.put, List.setIfInBounds_toArray, List.set_cons_zero, List.set_cons_succ]
        refine wpAnyH_take (i := 2) (oi := { dst := some 19, op := Go.Op.indexAddr 51 (Go.Operand.tmp 17) (Go.Operand.tmp 18), type := 0, pos := "ref.go:339", after := #[{ on := 0, ground := Go.Ground.data }, { on := 1, ground := Go.Ground.data }], guard := none }) (v := ?_) rfl (by kernel_rfl) (by kernel_rfl) (by kernel_rfl) (fun _ _ _ h => h) (Or.inl ⟨by rfl, ?_⟩) hHeld ?_
        rotate_left
        · intro w hSw; (try dsimp only at hSw); go_simp <;> with_reducible rfl
        try simp only [Act.put, List.setIfInBounds_toArray, List.set_cons_zero, List.set_cons_succ]
        refine wpAnyH_take (i := 3) (oi := { dst := some 20, op := Go.Op.load 67 (Go.Operand.tmp 19), type := 67, pos := "ref.go:339", after := #[{ on := 2, ground := Go.Ground.data }], guard := none }) (v := ?_) rfl (by kernel_rfl) (by kernel_rfl) (by kernel_rfl) (fun _ _ _ h => h) (Or.inl ⟨by rfl, ?_⟩) hHeld ?_
        rotate_left
        · intro w hSw; obtain ⟨y0, y1, y2, y3, _⟩ := hSw; go_simp <;> with_reducible rfl
        try simp only [Act.put, List.setIfInBounds_toArray, List.set_cons_zero, List.set_cons_succ]
        refine wpAnyH_take (i := 4) (oi := { dst := some 21, op := Go.Op.move (Go.Operand.tmp 1), type := 51, pos := "ref.go:339", after := #[], guard := none }) (v := ?_) rfl (by kernel_rfl) (by kernel_rfl) (by kernel_rfl) (fun _ _ _ h => h) (Or.inl ⟨by rfl, ?_⟩) hHeld ?_
        rotate_left
        · intro w hSw; (try dsimp only at hSw); go_simp <;> with_reducible rfl
        try simp only [Act.put, List.setIfInBounds_toArray, List.set_cons_zero, List.set_cons_succ]
        refine wpAnyH_take (i := 5) (oi := { dst := some 22, op := Go.Op.move (Go.Operand.tmp 5), type := 3, pos := "ref.go:339", after := #[], guard := none }) (v := ?_) rfl (by kernel_rfl) (by kernel_rfl) (by kernel_rfl) (fun _ _ _ h => h) (Or.inl ⟨by rfl, ?_⟩) hHeld ?_
        rotate_left
        · intro w hSw; (try dsimp only at hSw); go_simp <;> with_reducible rfl
        try simp only [Act.put, List.setIfInBounds_toArray, List.set_cons_zero, List.set_cons_succ]
        refine wpAnyH_take (i := 6) (oi := { dst := some 23, op := Go.Op.indexAddr 51 (Go.Operand.tmp 21) (Go.Operand.tmp 22), type := 0, pos := "ref.go:339", after := #[{ on := 4, ground := Go.Ground.data }, { on := 5, ground := Go.Ground.data }], guard := none }) (v := ?_) rfl (by kernel_rfl) (by kernel_rfl) (by kernel_rfl) (fun _ _ _ h => h) (Or.inl ⟨by rfl, ?_⟩) hHeld ?_
        rotate_left
        · intro w hSw; (try dsimp only at hSw); go_simp <;> with_reducible rfl
        try simp only [Act.put, List.setIfInBounds_toArray, List.set_cons_zero, List.set_cons_succ]
        refine wpAnyH_take (i := 7) (oi := { dst := some 24, op := Go.Op.load 67 (Go.Operand.tmp 23), type := 67, pos := "ref.go:339", after := #[{ on := 6, ground := Go.Ground.data }], guard := none }) (v := ?_) rfl (by kernel_rfl) (by kernel_rfl) (by kernel_rfl) (fun _ _ _ h => h) (Or.inl ⟨by rfl, ?_⟩) hHeld ?_
        rotate_left
        · intro w hSw; obtain ⟨_, _, _, _, y0, y1, y2, y3⟩ := hSw; go_simp <;> with_reducible rfl
        try simp only [Act.put, List.setIfInBounds_toArray, List.set_cons_zero, List.set_cons_succ]
        refine wpAnyH_ready (rs := [8]) (by kernel_rfl) (by simp) ?_
        refine AllReadyH.cons rfl (fun K hK => ?_) AllReadyH.nil
        go_simp
        refine (kT _ hB).mono ?_
        rintro e w4 ⟨rfl, hb4⟩
        have hB := hB.trans (hb4.mono hB.size)
        clear hb4
        refine hK.out _ _ (⟨(hB.cell (p := ⟨b1, o1 + k * 4, none⟩) hb1).trans d0, (hB.cell (p := ⟨b1, o1 + k * 4 + 1, none⟩) hb1).trans d1, (hB.cell (p := ⟨b1, o1 + k * 4 + 2, none⟩) hb1).trans d2, (hB.cell (p := ⟨b1, o1 + k * 4 + 3, none⟩) hb1).trans d3, (hB.cell (p := ⟨b2, o2 + k * 4, none⟩) hb2).trans e0, (hB.cell (p := ⟨b2, o2 + k * 4 + 1, none⟩) hb2).trans e1, (hB.cell (p := ⟨b2, o2 + k * 4 + 2, none⟩) hb2).trans e2, (hB.cell (p := ⟨b2, o2 + k * 4 + 3, none⟩) hb2).trans e3⟩) (fun hHeld2 => ?_)
        clear hK K hHeld
        have hHeld := hHeld2
        clear hHeld2
        try simp only [Act.put, List.setIfInBounds_toArray, List.set_cons_zero, List.set_cons_succ]
        refine wpAnyH_take (i := 9) (oi := { dst := some 26, op := Go.Op.unOp Go.UnOp.not 4 (Go.Operand.tmp 25), type := 4, pos := "ref.go:339", after := #[{ on := 8, ground := Go.Ground.data }], guard := none }) (v := ?_) rfl (by kernel_rfl) (by kernel_rfl) (by kernel_rfl) (fun _ _ _ h => h) (Or.inl ⟨by rfl, ?_⟩) hHeld ?_
        rotate_left
        · intro w hSw; (try dsimp only at hSw); go_simp <;> with_reducible rfl
        try simp only [Act.put, List.setIfInBounds_toArray, List.set_cons_zero, List.set_cons_succ]
        refine wpAnyH_done (by kernel_rfl) ?_ _
        have HB9 : Hid _ := hB
        clear hB
        cases r with
        | true =>
          have HT : Hid _ := HS.out.2 ((tm_eq x y).1 (decide_eq_true_iff.1 HR.out))
          go_wp2
          go_roundw
          case rel => exact ⟨k + 1, by omega, by go_num, HT, HB9⟩
          case measure => simp [intOf]; omega
        | false =>
          have HF : Hid (l1 ≠ l2) := fun e => (decide_eq_false_iff_not.1 HR.out) ((tm_eq x y).2 (HS.out.1 (by rw [e])))
          go_wp2
          go_ret
          exact ⟨by simp [HF.out], HB9.out⟩
      · have hlt' : ¬ (k : Int) < n1 := by omega
        obtain rfl : k = n1 := by omega
        have HT : Hid (l1 = l2) := take_eq_all HN.out.1 HN.out.2 HQ.out
        go_wp2
        go_ret
        exact ⟨by simp [HT.out], HB.out⟩
  · have HF : Hid (l1 ≠ l2) := fun e => hne (by rw [← HN.out.1, ← HN.out.2, e])
    have hd : ((n1 : Int) != n2) = true := by simp; omega
    have hd2 : ((n1 : Int) == n2) = false := by simp; omega
    go_enter Tryz.func43, Tryz.ntmps43
    go_wp2
    go_ret
    exact ⟨by simp [HF.out], Below.refl _ _⟩
/-- A term's value, and whether there is one. -/
def ofV (t : Tm) (vals : List Vl) : Vl × Int := if t.v = -1 then (⟨t.set, t.n, t.s⟩, 0) else if t.v < 0 then (⟨false, 0, []⟩, 1) else match vals[t.v.toNat]? with
  | some v => (v, 0)
  | none => (⟨false, 0, []⟩, 1)
end Go.Proofs.YtdnhhmnllhlbbaaGreatDoor
