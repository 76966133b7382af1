/-
  What is proved here: the measure of BranchAll: each decision makes a domain smaller, and it stays within (mathematics); a list of domains that is lent.
-/
import Derived.Test.YthkliicmoandmaaGreatDoorFbj
import Derived.Test.YthkliicmoandmaaGreatDoorFd
namespace Go.Proofs.YthkliicmoandmaaGreatDoor
open Go.RowKit Go.Shelf
set_option linter.unusedVariables false
set_option linter.unusedSimpArgs false

theorem rng_few {l : List Dm.Rg} (h : Dm.Right l) : (l.length : Int) ≤ Dm.sizeR l := by
  have ho := (Dm.right_ord h).1.1
  clear h
  induction l with
  | nil => simp [Dm.sizeR]
  | cons r t ih =>
    have h1 := ho r (by simp)
    have h2 := ih fun q hq => ho q (by simp [hq])
    unfold Dm.sizeR at h2 ⊢
    rw [List.map_cons, List.sum_cons, List.length_cons]
    omega
theorem re_siz {d : MD} (hr : rightM d = true) (h : sizA d = 0) : reM d = true := by
  unfold sizA at h
  unfold reM
  cases hs : d.set
  · have hw : rightW d = true := by unfold rightM at hr; rwa [if_neg (by rw [hs]; decide)] at hr
    unfold rightW at hw
    simp only [Bool.and_eq_true, decide_eq_true_eq] at hw
    have hR : Dm.Right d.r := by have := hw.1.1.1.1; unfold Dm.rightB at this; simpa using this
    rw [if_neg (by rw [hs]; decide), Dm.tk_yes hR] at h
    have := rng_few hR
    simp only [Bool.false_eq_true, if_false]
    exact decide_eq_true (by omega)
  · have hw : St.rightD (sdM d) = true := by unfold rightM at hr; rwa [if_pos hs] at hr
    have hR : St.RightD (sdM d) := by unfold St.rightD at hw; simpa using hw
    rw [if_pos hs, St.count_right hR] at h
    simp only [if_true]
    cases he : St.emptyD (sdM d)
    · obtain ⟨_, h1, h2, h3⟩ := St.empty_no he
      have hl := St.set_sub_len hR.2.2.1 hR.2.2.2.1 (St.right_sub hR)
      have := ns_pos ((sdM d).up.length - (sdM d).lo.length) (sdM d).lo.length (sdM d).least (sdM d).most ((sdM d).least.toNat - (sdM d).lo.length) (by omega) (by omega)
      unfold St.NSd at h
      omega
    · rfl
/-- What a right domain's parts are like. -/
theorem right_sz {d : MD} (h : rightM d = true) : SzD d ∧ Good d ∧ (sizA d ≤ 100 → d.r.length < 4095) := by
  cases hs : d.set
  · have hw : rightW d = true := by unfold rightM at h; rwa [if_neg (by rw [hs]; decide)] at h
    unfold rightW at hw
    simp only [Bool.and_eq_true, decide_eq_true_eq] at hw
    obtain ⟨⟨⟨⟨w1, w2⟩, w3⟩, w4⟩, w5⟩ := hw
    have hR : Dm.Right d.r := by unfold Dm.rightB at w1; simpa using w1
    have hl : d.r.length ≤ 4096 := hR.1
    refine ⟨⟨by rw [w2]; decide, by rw [w3]; decide, by omega⟩, fits_right hR, fun hz => ?_⟩
    unfold sizA at hz
    rw [if_neg (by rw [hs]; decide), Dm.tk_yes hR] at hz
    have := rng_few hR
    omega
  · have hw : St.rightD (sdM d) = true := by unfold rightM at h; rwa [if_pos hs] at h
    have hR : St.RightD (sdM d) := by unfold St.rightD at hw; simpa using hw
    have h0 : d.r.length = 0 := hR.2.1
    have h1 : d.lo.length ≤ 64 := hR.2.2.1.1
    have h2 : d.up.length ≤ 64 := hR.2.2.2.1.1
    refine ⟨⟨by omega, by omega, by omega⟩, ?_, fun _ => by omega⟩
    intro i hi
    omega
/-- How many values there are beyond one each. -/
def sumS (D : List MD) : Int := (D.map fun d => sizA d - 1).sum
theorem sumS_set : ∀ {D : List MD} {i : Nat} {d : MD} (d' : MD), D[i]? = some d → sumS (D.set i d') = sumS D - sizA d + sizA d'
  | [], i, d, d', h => by simp at h
  | a :: t, 0, d, d', h => by
    simp at h
    subst h
    unfold sumS
    simp only [List.set_cons_zero, List.map_cons, List.sum_cons]
    omega
  | a :: t, i + 1, d, d', h => by
    have := sumS_set (D := t) (i := i) d' (by simpa using h)
    unfold sumS at this ⊢
    simp only [List.set_cons_succ, List.map_cons, List.sum_cons]
    omega
theorem sumS_pos : ∀ {D : List MD}, (∀ d ∈ D, 1 ≤ sizA d) → 0 ≤ sumS D
  | [], _ => by simp [sumS]
  | a :: t, h => by
    have h1 := h a (by simp)
    have h2 := sumS_pos (D := t) fun d hd => h d (by simp [hd])
    unfold sumS at h2 ⊢
    rw [List.map_cons, List.sum_cons]
    omega
theorem sumS_take {D : List MD} {k : Nat} {d : MD} (h : D[k]? = some d) : sumS (D.take (k + 1)) = sumS (D.take k) + sizA d - 1 := by
  unfold sumS
  rw [List.take_add_one, h]
  simp
  omega
theorem sumS_le : ∀ {D : List MD}, (∀ d ∈ D, 1 ≤ sizA d ∧ sizA d ≤ 100) → 0 ≤ sumS D ∧ sumS D ≤ 99 * (D.length : Int)
  | [], _ => by simp [sumS]
  | a :: t, h => by
    have h1 := h a (by simp)
    have h2 := sumS_le (D := t) fun d hd => h d (by simp [hd])
    unfold sumS at h2 ⊢
    rw [List.map_cons, List.sum_cons, List.length_cons]
    omega
/-- What holds of the domains that are left. -/
structure Lft (D D' : List MD) : Prop where
  n : D'.length = D.length
  a : ∀ (i : Nat) (d' : MD), D'[i]? = some d' → ∃ d, D[i]? = some d ∧ rightM d' = true ∧ 1 ≤ sizA d' ∧ sizA d' ≤ 100 ∧ LeA d' d
theorem Lft.refl {D : List MD} (h : ∀ d ∈ D, rightM d = true ∧ 1 ≤ sizA d ∧ sizA d ≤ 100) : Lft D D :=
  ⟨rfl, fun i d' hd => by obtain ⟨h1, h2, h3⟩ := h d' (List.mem_of_getElem? hd); exact ⟨d', hd, h1, h2, h3, LeA.refl _⟩⟩
theorem Lft.good {D D' : List MD} (h : Lft D D') : ∀ d ∈ D', Good d := fun d hd => by
  obtain ⟨i, hi⟩ := List.getElem?_of_mem hd
  obtain ⟨_, _, h1, _⟩ := h.a i d hi
  exact (right_sz h1).2.1
theorem Lft.pos {D D' : List MD} (h : Lft D D') : 0 ≤ sumS D' := sumS_pos fun d hd => by
  obtain ⟨i, hi⟩ := List.getElem?_of_mem hd
  obtain ⟨_, _, _, h1, _⟩ := h.a i d hi
  exact h1
/-- A decision of either side. -/
theorem Lft.step {D D' : List MD} (h : Lft D D') {vn : Nat} {d : MD} {op n op' : Int} (hd : D'[vn]? = some d) (hv : sevB d = true) (ht : Tried d op n) (ho : op' = op ∨ op' = otM op) :
    (resM d op' n).2 = 0 ∧ reM (resM d op' n).1 = false ∧ LeA (resM d op' n).1 d ∧ rightM (resM d op' n).1 = true ∧ Lft D (D'.set vn (resM d op' n).1) ∧ sumS (D'.set vn (resM d op' n).1) + 1 ≤ sumS D' := by
  obtain ⟨d0, hd0, hr, hz1, hz2, hle⟩ := h.a vn d hd
  obtain ⟨_, _, hlen⟩ := right_sz hr
  have hl := hlen hz2
  obtain ⟨e0, e1, e2⟩ := tried_both hv ht
  have e2 := e2 hl
  have hoo : otM (otM op) = op := by
    by_cases hk : knB op = true
    · rcases knB_cases hk with rfl | rfl | rfl | rfl | rfl | rfl <;> decide
    · have hk' := knB_no (Bool.eq_false_iff.2 hk)
      have : otM op = op := by unfold otM; simp [hk']
      rw [this, this]
  have hpt : Pt d op n false 0 [] := by
    cases hs : d.set
    · exact parts_n e0 hs hl
    · exact parts_s e0 hs
  have e4 := hpt.e4 (by omega)
  have b1 := siz_bounds (resM d op n).1
  have b2 := siz_bounds (resM d (otM op) n).1
  have key : (resM d op' n).2 = 0 ∧ sizA (resM d op' n).1 ≠ 0 ∧ sizA (resM d op' n).1 + 1 ≤ sizA d := by
    rcases ho with rfl | rfl
    · exact ⟨e0, e1, by omega⟩
    · exact ⟨by rw [res_err]; exact e0, e2, by omega⟩
  obtain ⟨k0, k1, k2⟩ := key
  obtain ⟨r1, r2⟩ := res_le k0 hl k1
  have b3 := siz_bounds (resM d op' n).1
  refine ⟨k0, siz_re k1, r1, r2, ⟨by rw [List.length_set]; exact h.n, fun i d' hi => ?_⟩, ?_⟩
  · by_cases hj : vn = i
    · subst hj
      rw [List.getElem?_set_self (List.getElem?_eq_some_iff.1 hd).1] at hi
      injection hi with hi
      subst hi
      exact ⟨d0, hd0, r2, by omega, by omega, r1.trans hle⟩
    · rw [List.getElem?_set_ne hj] at hi
      exact h.a i d' hi
  · rw [sumS_set _ hd]
    omega
/-- Where none has several values, each has one. -/
theorem Lft.stop {D D' : List MD} (h : Lft D D') (ho : openAll D' = []) {i : Nat} {d' : MD} (hd : D'[i]? = some d') : sizA d' = 1 := by
  obtain ⟨_, _, hr, hz1, _⟩ := h.a i d' hd
  have hi := (List.getElem?_eq_some_iff.1 hd).1
  have hn : openB D' (i : Int) = false := by
    cases hb : openB D' (i : Int)
    · rfl
    · have : (i : Int) ∈ openAll D' := List.mem_filter.2 ⟨List.mem_map.2 ⟨i, List.mem_range.2 hi, rfl⟩, hb⟩
      rw [ho] at this
      simp at this
  unfold openB at hn
  have e1 : decide ((0 : Int) ≤ (i : Int)) = true := by simp
  have e2 : decide ((i : Int) < (D'.length : Int)) = true := by simp; exact hi
  rw [e1, e2, Int.toNat_natCast, hd] at hn
  simp only [Bool.and_self, Bool.true_and, Option.map_some, Option.getD_some] at hn
  rw [sev_size, hr] at hn
  simp at hn
  omega
theorem lentxl_any {W : World} {p1 : Option Addr} {n1 k1 : Nat} {D : List MD} (h : Ds W (.slice p1 n1 k1) D) (hz : ∀ d ∈ D, SzD d) (hl : D.length * 96 ≤ 140737488351232) :
    Calls Tryz.prog 8 #[.slice p1 n1 k1] W fun e w' => ∃ p2 k2 vs, e = .returned (.slice p2 n1 k2) ∧ LX (fun b => b < W.heap.size) W.heap.size w' (.slice p2 n1 k2) D vs ∧ Below W.heap.size W w' := by
  have e1 : D.length = n1 := by obtain ⟨a, c, e, _⟩ := h; injection e with _ e2 _; exact e2.symm
  have kc := lentx_any h hz hl
  clear h hz hl
  go_enter Tryz.func8, Tryz.ntmps8
  go_wp2_with fail
  refine kc.mono ?_
  clear kc
  rintro e w1 ⟨v, vs, rfl, hv, hb⟩
  obtain ⟨p2, k2, rfl, _⟩ := id hv.r.shape
  rw [hv.n, e1] at hv ⊢
  go_wp2
  go_ret
  exact ⟨p2, k2, vs, rfl, hv, hb⟩
end Go.Proofs.YthkliicmoandmaaGreatDoor
