/-
  What is proved here: whether a value is within a domain, as the law asks.
  What is proved here: the mathematics of parts: of any domain and value.
-/
import Derived.Test.YthkliicmoandmaaGreatDoorCo
import Derived.Test.YthkliicmoandmaaGreatDoorClj
import Derived.Test.YthkliicmoandmaaGreatDoorCi
namespace Go.Proofs.YthkliicmoandmaaGreatDoor
open Go.RowKit Go.Shelf
set_option linter.unusedVariables false
set_option linter.unusedSimpArgs false

def inA (d : MD) (st : Bool) (vn : Int) (vs : List Int) : Bool := rvM st vn vs && (st == d.set) && (rightM d && hsA d vn vs)

set_option maxRecDepth 100000 in
set_option maxHeartbeats 4000000 in
theorem within_any {X : Nat → Prop} {W : World} {d : MD} {c k : List Value} {st : Bool} {vn : Int} {vs : List Int} (hd : Dc X W c d) (hf : Dm.FitsR d.r) (hv : Vc W k st vn vs) :
    Calls Tryz.prog 30 #[.agg c.toArray, .agg k.toArray] W fun e w' => e = .returned (.bool (inA d st vn vs)) ∧ Below W.heap.size W w' := by
  obtain ⟨N, hN⟩ : ∃ N, W.heap.size = N := ⟨_, rfl⟩
  have hd0 := hd
  obtain ⟨b, ra, n0, rc, a1, n1, c1, a2, n2, c2, y4, y5, rfl, HE, H1, H2, H3⟩ := hd.look
  have hs : d.set = b := HE.out.1
  have hv0 := hv
  obtain ⟨pv, kv, rfl, hsi⟩ := hv
  obtain ⟨nv, hnv⟩ : ∃ q, vs.length = q := ⟨_, rfl⟩
  rw [hnv] at hv0 hsi ⊢
  obtain ⟨W0, hW0⟩ : ∃ Q, (W.alloc (Obj.cells #[.bool b, .slice ra n0 rc, .slice a1 n1 c1, .slice a2 n2 c2, .int .i64 y4, .int .i64 y5] 50)).alloc (Obj.cells #[.bool st, .int .i64 vn, .slice pv nv kv] 52) = Q := ⟨_, rfl⟩
  have hb0 : Below W.heap.size W W0 := by rw [← hW0]; exact ((Below.refl _ W).alloc (Nat.le_refl _) _).alloc (by simp) _
  have HD : Hid (Bx W0 N #[.bool b, .slice ra n0 rc, .slice a1 n1 c1, .slice a2 n2 c2, .int .i64 y4, .int .i64 y5] 50) := by rw [← hW0]; exact (Bx.new' hN _ _).alloc _
  have HV : Hid (Bx W0 (N + 1) #[.bool st, .int .i64 vn, .slice pv nv kv] 52) := by rw [← hW0]; exact Bx.new' (by simp [hN]) _ _
  have kr := rightval_any (hv0.below hb0)
  have HM : Hid (inA d st vn vs = (rvM st vn vs && (st == b) && (rightM d && hsA d vn vs))) := by unfold Hid inA; rw [hs]
  have HW0 : Hid _ := hW0
  have HB0 : Hid (Below W.heap.size W W0) := hb0
  have HIN : Hid (∀ w bA bT bV bD x sn tl, st = b → Below W0.heap.size W0 w → Bx w bA #[x, .slice (some ⟨bT, 0, none⟩) 1 1] 109 → Bx w bT (.int .i64 0 :: tl).toArray 106 → Bx w bD #[.bool b, .slice ra n0 rc, .slice a1 n1 c1, .slice a2 n2 c2, .int .i64 y4, .int .i64 y5] 50 → Bx w bV #[.bool st, .int .i64 vn, .slice pv nv kv] 52 →
      Calls Tryz.prog 65 #[.agg #[.string sn, .slice (some ⟨bA, 0, none⟩) 1 1], .slice (some ⟨bV, 0, none⟩) 1 1, .slice (some ⟨bD, 0, none⟩) 1 1] w fun e w' => e = .returned (.bool (rightM d && hsA d vn vs)) ∧ Below w.heap.size w w') := by
    intro w bA bT bV bD x sn tl hst hb g1 g2 g3 g4
    subst hst
    cases st
    · exact in_n g1 g2 g3 ((hd0.below hb0).below hb) hf g4 ((hv0.below hb0).below hb) hs
    · exact in_s g1 g2 g3 ((hd0.below hb0).below hb) hf g4 ((hv0.below hb0).below hb) hs
  rw [HM.out]
  clear hd hd0 hv0 hsi hW0 hb0 H1 H2 H3 HE hf HM hs hnv
  generalize (rightM d && hsA d vn vs) = ib at *
  generalize rvM st vn vs = rv at *
  obtain ⟨y0, y1, y2⟩ := HV.out.three
  cases rv
  · go_enter Tryz.func30, Tryz.ntmps30
    go_upto_region 1 with (fail)
    rw [HW0.out]
    clear hN
    go_wp2_with fail
    refine kr.mono ?_
    rintro e w1 ⟨rfl, hb1⟩
    go_wp2
    go_ret
    exact ⟨ret_bool (by simp), HB0.out.trans (hb1.mono HB0.out.size)⟩
  · by_cases hst : st = b
    · subst hst
      go_enter Tryz.func30, Tryz.ntmps30
      go_upto_region 1 with (fail)
      rw [HW0.out]
      clear hN
      go_wp2_with fail
      refine kr.mono ?_
      clear kr y0 y1 y2
      rintro e w1 ⟨rfl, hb1⟩
      have HB1 : Hid (Below W0.heap.size W0 w1) := hb1
      clear hb1
      obtain ⟨z0, z1, z2, z3, z4, z5⟩ := (HD.out.below HB1.out).six
      obtain ⟨y0, y1, y2⟩ := (HV.out.below HB1.out).three
      obtain ⟨P, hP⟩ : ∃ q, w1.heap.size = q := ⟨_, rfl⟩
      obtain ⟨W2, hW2⟩ : ∃ Q, (((w1.alloc (Obj.cells #[.bool st, .slice ra n0 rc, .slice a1 n1 c1, .slice a2 n2 c2, .int .i64 y4, .int .i64 y5] 50)).alloc (Obj.cells #[.int .i64 0, .bool false, .int .i64 0, .slice none 0 0] 106)).alloc (Obj.cells #[.bool false, .slice (some ⟨P + 1, 0, none⟩) 1 1] 109)).alloc (Obj.cells #[.string ⟨#[]⟩, .slice (some ⟨P + 1 + 1, 0, none⟩) 1 1] 112) = Q := ⟨_, rfl⟩
      have hb2 : Below w1.heap.size w1 W2 := by rw [← hW2]; exact ((((Below.refl _ w1).alloc (Nat.le_refl _) _).alloc (by simp) _).alloc (by simp; omega) _).alloc (by simp; omega) _
      have HD2 : Hid (Bx W2 P #[.bool st, .slice ra n0 rc, .slice a1 n1 c1, .slice a2 n2 c2, .int .i64 y4, .int .i64 y5] 50) := by rw [← hW2]; exact (((Bx.new' hP _ _).alloc _).alloc _).alloc _
      have HT2 : Hid (Bx W2 (P + 1) #[.int .i64 0, .bool false, .int .i64 0, .slice none 0 0] 106) := by rw [← hW2]; exact ((Bx.new' (by simp [hP]) _ _).alloc _).alloc _
      have HA2 : Hid (Bx W2 (P + 1 + 1) #[.bool false, .slice (some ⟨P + 1, 0, none⟩) 1 1] 109) := by rw [← hW2]; exact (Bx.new' (by simp [hP]) _ _).alloc _
      have HC2 : Hid (Bx W2 (P + 1 + 1 + 1) #[.string ⟨#[]⟩, .slice (some ⟨P + 1 + 1, 0, none⟩) 1 1] 112) := by rw [← hW2]; exact Bx.new' (by simp [hP]) _ _
      have HB2 : Hid (Below W0.heap.size W0 W2) := HB1.out.trans (hb2.mono HB1.out.size)
      have HW2 : Hid _ := hW2
      clear hW2 hb2
      go_upto_region 5 with (fail)
      rw [HW2.out]
      clear hP z0 z1 z2 z3 z4 z5 y0 y1 y2
      obtain ⟨y0, y1, y2⟩ := (HV.out.below HB2.out).three
      have q0 : W2.cell? ⟨P + 1 + 1 + 1, 0, none⟩ = some (.string ⟨#[]⟩) := HC2.out.cell 0
      have q1 : W2.cell? ⟨P + 1 + 1 + 1, 1, none⟩ = some (.slice (some ⟨P + 1 + 1, 0, none⟩) 1 1) := HC2.out.cell 1
      obtain ⟨M, hM⟩ : ∃ q, W2.heap.size = q := ⟨_, rfl⟩
      have hb3 : Below W2.heap.size W2 (W2.alloc (Obj.cells #[.bool st, .int .i64 vn, .slice pv nv kv] 52)) := (Below.refl _ _).alloc (Nat.le_refl _) _
      have kin := HIN.out (W2.alloc (Obj.cells #[.bool st, .int .i64 vn, .slice pv nv kv] 52)) (P + 1 + 1) (P + 1) M P (.bool false) ⟨#[]⟩ [.bool false, .int .i64 0, .slice none 0 0] (by first | trivial | rfl) (HB2.out.trans (hb3.mono HB2.out.size)) (HA2.out.below hb3) (HT2.out.below hb3) (HD2.out.below hb3) (Bx.new' hM _ _)
      have HB3 : Hid (Below W0.heap.size W0 (W2.alloc (Obj.cells #[.bool st, .int .i64 vn, .slice pv nv kv] 52))) := HB2.out.trans (hb3.mono HB2.out.size)
      clear hb3
      go_wp2_with fail
      refine kin.mono ?_
      rintro e w4 ⟨rfl, hb4⟩
      go_wp2
      go_ret
      exact ⟨ret_bool (by simp), HB0.out.trans ((HB3.out.trans (hb4.mono HB3.out.size)).mono HB0.out.size)⟩
    · go_enter Tryz.func30, Tryz.ntmps30
      go_upto_region 1 with (fail)
      rw [HW0.out]
      clear hN
      go_wp2_with fail
      refine kr.mono ?_
      rintro e w1 ⟨rfl, hb1⟩
      clear y0 y1 y2
      obtain ⟨z0, z1, z2, z3, z4, z5⟩ := (HD.out.below hb1).six
      obtain ⟨y0, y1, y2⟩ := (HV.out.below hb1).three
      cases st <;> cases b <;> first | exact absurd rfl hst | skip
      all_goals (go_wp2; go_ret; exact ⟨ret_bool (by simp), HB0.out.trans (hb1.mono HB0.out.size)⟩)
end Go.Proofs.YthkliicmoandmaaGreatDoor

namespace Go.Proofs.YthkliicmoandmaaGreatDoor
open Go.RowKit Go.Shelf
set_option linter.unusedVariables false
set_option linter.unusedSimpArgs false

theorem num_right {l : List Dm.Rg} {op n : Int} (hl : l.length < 4095) : Dm.Right (numR l op n) := by
  have ho := num_ord (l := l) (op := op) (n := n)
  have ht := (Dm.tk_right l).1
  obtain ⟨hto, hti⟩ := Dm.right_ord (Dm.tk_right l)
  have htl : (Dm.tk l).length ≤ l.length := by unfold Dm.tk; split <;> simp
  refine Dm.ord_right ho ?_ ?_
  · intro r hr
    have h1 := ho.1 r hr
    have m1 : r.1 ∈ Dm.vals (numR l op n) := (Dm.mem_vals' _ _).2 ⟨r, hr, Int.le_refl _, h1⟩
    have m2 : r.2 ∈ Dm.vals (numR l op n) := (Dm.mem_vals' _ _).2 ⟨r, hr, h1, Int.le_refl _⟩
    obtain ⟨s1, hs1, q1⟩ := (Dm.mem_vals' _ _).1 ((num_mem hl).1 m1).1
    obtain ⟨s2, hs2, q2⟩ := (Dm.mem_vals' _ _).1 ((num_mem hl).1 m2).1
    have b1 := hti s1 hs1
    have b2 := hti s2 hs2
    constructor <;> omega
  · have hc : ∀ a b, (Dm.cutL (Dm.tk l) a b).length ≤ 4096 := fun a b => Nat.le_trans (List.length_filterMap_le _ _) ht
    unfold numR
    split
    · exact hc _ _
    split
    · unfold Dm.woR; split <;> assumption
    split
    · exact hc _ _
    · exact hc _ _
theorem fits_right {l : List Dm.Rg} (h : Dm.Right l) : Dm.FitsR l := fun i hi => by
  have := h.2 i hi
  unfold Dm.OkAt at this
  unfold Dm.Fits
  omega
theorem fit_other {op : Int} {s : Bool} : fitM (otM op) s = fitM op s := by
  by_cases hk : knB op = true
  · rcases knB_cases hk with rfl | rfl | rfl | rfl | rfl | rfl <;> cases s <;> decide
  · have h := knB_no (Bool.eq_false_iff.2 hk)
    have : otM op = op := by unfold otM; simp [h]
    rw [this]
theorem res_err {d : MD} {op n : Int} : (resM d (otM op) n).2 = (resM d op n).2 := by
  unfold resM
  rw [fit_other]
  split
  · rfl
  split
  · rfl
  split <;> split <;> (try split) <;> (try split) <;> rfl
theorem res_ok {d : MD} {op n : Int} (h : (resM d op n).2 = 0) : rightM d = true ∧ fitM op d.set = true := by
  unfold resM at h
  split at h
  · simp at h
  split at h
  · simp at h
  · rename_i h1 h2
    simp at h1 h2
    exact ⟨h1, h2⟩
theorem res_num {d : MD} {op n : Int} (hr : rightM d = true) (hf : fitM op d.set = true) (hs : d.set = false) : (resM d op n).1 = ⟨false, numR d.r op n, [], [], 0, 0⟩ := by
  have h4 : ¬ op = 4 := by intro h; subst h; rw [hs] at hf; simp [fitM] at hf
  have h5 : ¬ op = 5 := by intro h; subst h; rw [hs] at hf; simp [fitM] at hf
  unfold resM
  rw [if_neg (by simp [hr]), if_neg (by simp [hf]), if_neg h4, if_neg h5]
theorem right_num {d : MD} {op n : Int} (hl : d.r.length < 4095) : rightM ⟨false, numR d.r op n, [], [], 0, 0⟩ = true := by
  unfold rightM rightW
  simp [Dm.rightB_yes (num_right hl)]
theorem sdM_of {s : St.SD} (h : s.rn = 0) : sdM (ofSD s) = s := by
  cases s
  simp only [sdM, ofSD, List.length_nil] at h ⊢
  simp [h]
theorem ho_num {op n vn : Int} {vs : List Int} (h : fitM op false = true) : hoM op n false vn vs = keB op n vn := by
  have hk : op = 0 ∨ op = 1 ∨ op = 2 ∨ op = 3 := by
    unfold fitM knB at h
    simp at h
    omega
  rcases hk with rfl | rfl | rfl | rfl <;> simp [hoM, keB]
  · by_cases hx : vn = n <;> simp [hx]
  · by_cases hx : vn = n <;> simp [hx]
structure Pt (d : MD) (op n : Int) (st : Bool) (vn : Int) (vs : List Int) : Prop where
  e1 : (inA (resM d op n).1 st vn vs && inA (resM d (otM op) n).1 st vn vs) = false
  e2 : (inA (resM d op n).1 st vn vs || inA (resM d (otM op) n).1 st vn vs) = inA d st vn vs
  e3 : inA d st vn vs = true → inA (resM d op n).1 st vn vs = hoM op n st vn vs
  e4 : sizA d < 2305843009213693952 → sizA (resM d op n).1 + sizA (resM d (otM op) n).1 = sizA d
  f1 : Dm.FitsR (resM d op n).1.r
  f2 : Dm.FitsR (resM d (otM op) n).1.r
theorem parts_n {d : MD} {op n : Int} {st : Bool} {vn : Int} {vs : List Int} (h : (resM d op n).2 = 0) (hs : d.set = false) (hl : d.r.length < 4095) : Pt d op n st vn vs := by
  obtain ⟨hr, hf⟩ := res_ok h
  have hf' : fitM (otM op) d.set = true := by rw [fit_other]; exact hf
  have a1 := res_num (n := n) hr hf hs
  have a2 := res_num (n := n) hr hf' hs
  have q1 := right_num (op := op) (n := n) hl
  have q2 := right_num (op := otM op) (n := n) hl
  have hF : fitM op false = true := by rw [← hs]; exact hf
  have k := ke_other (n := n) (x := vn) hF
  have i1 : inA (resM d op n).1 st vn vs = (rvM st vn vs && (st == false) && (Dm.hasV d.r vn && keB op n vn)) := by
    rw [a1]; unfold inA hsA; rw [q1]; simp [num_has hl]
  have i2 : inA (resM d (otM op) n).1 st vn vs = (rvM st vn vs && (st == false) && (Dm.hasV d.r vn && !keB op n vn)) := by
    rw [a2]; unfold inA hsA; rw [q2]; simp [num_has hl, k]
  have i3 : inA d st vn vs = (rvM st vn vs && (st == false) && Dm.hasV d.r vn) := by
    unfold inA hsA; rw [hr, hs]; simp
  refine ⟨?_, ?_, ?_, ?_, ?_, ?_⟩
  · rw [i1, i2]; cases rvM st vn vs <;> cases st <;> cases Dm.hasV d.r vn <;> cases keB op n vn <;> rfl
  · rw [i1, i2, i3]; cases rvM st vn vs <;> cases st <;> cases Dm.hasV d.r vn <;> cases keB op n vn <;> rfl
  · intro hi
    rw [i3] at hi
    simp only [Bool.and_eq_true, beq_iff_eq] at hi
    obtain ⟨⟨e1, e2⟩, e3⟩ := hi
    rw [i1, e1, e2, e3, ho_num hF]; simp
  · intro _
    rw [a1, a2]
    unfold sizA
    rw [hs]
    simp only [Bool.false_eq_true, if_false]
    rw [Dm.tk_yes (num_right hl), Dm.tk_yes (num_right hl)]
    exact num_size hl hF
  · rw [a1]; exact fits_right (num_right hl)
  · rw [a2]; exact fits_right (num_right hl)
theorem in_set {s : St.SD} (h : St.RightD s) (st : Bool) (vn : Int) (vs : List Int) : inA (ofSD s) st vn vs = (rvM st vn vs && (st == true) && St.hasD s vs) := by
  have e : sdM (ofSD s) = s := sdM_of h.2.1
  have e0 : (ofSD s).set = true := h.1
  unfold inA hsA rightM
  rw [e0, e, if_pos rfl, if_pos rfl]
  have : St.rightD s = true := by unfold St.rightD; simpa using h
  rw [this]; simp
theorem res_set {d : MD} {op n : Int} (hr : rightM d = true) (hf : fitM op d.set = true) (hs : d.set = true) : (op = 4 ∧ resM d op n = (ofSD (St.mustD (sdM d) n), 0) ∧ resM d (otM op) n = (ofSD (St.notD (sdM d) n), 0)) ∨ (op = 5 ∧ resM d op n = (ofSD (St.notD (sdM d) n), 0) ∧ resM d (otM op) n = (ofSD (St.mustD (sdM d) n), 0)) := by
  have h45 : op = 4 ∨ op = 5 := by
    rw [hs] at hf
    unfold fitM knB at hf
    simp at hf
    omega
  rcases h45 with rfl | rfl
  · refine .inl ⟨rfl, ?_, ?_⟩
    · unfold resM; rw [if_neg (by simp [hr]), if_neg (by simp [hf]), if_pos rfl]
    · unfold resM; rw [if_neg (by simp [hr]), fit_other, if_neg (by simp [hf]), if_neg (by decide), if_pos (by decide)]
  · refine .inr ⟨rfl, ?_, ?_⟩
    · unfold resM; rw [if_neg (by simp [hr]), if_neg (by simp [hf]), if_neg (by decide), if_pos rfl]
    · unfold resM; rw [if_neg (by simp [hr]), fit_other, if_neg (by simp [hf]), if_pos (by decide)]
theorem parts_s {d : MD} {op n : Int} {st : Bool} {vn : Int} {vs : List Int} (h : (resM d op n).2 = 0) (hs : d.set = true) : Pt d op n st vn vs := by
  obtain ⟨hr, hf⟩ := res_ok h
  have hrd : St.rightD (sdM d) = true := by unfold rightM at hr; rwa [if_pos hs] at hr
  have m1 := in_set (St.must_right (sdM d) n) st vn vs
  have m2 := in_set (St.not_right (sdM d) n) st vn vs
  have i3 : inA d st vn vs = (rvM st vn vs && (st == true) && St.hasD (sdM d) vs) := by
    unfold inA hsA; rw [hr, hs]; simp
  have hm := St.must_has (sdM d) n vs
  have hn := St.not_has (sdM d) n vs
  have c1 : St.hasD (St.mustD (sdM d) n) vs = (St.hasD (sdM d) vs && (St.tkS vs).contains n) := by
    by_cases hv : n ∈ St.tkS vs
    · cases hh : St.hasD (sdM d) vs <;> simp [hv, hh] at hm ⊢ <;> exact hm
    · cases hh : St.hasD (sdM d) vs <;> simp [hv, hh] at hm ⊢ <;> exact hm
  have c2 : St.hasD (St.notD (sdM d) n) vs = (St.hasD (sdM d) vs && !(St.tkS vs).contains n) := by
    by_cases hv : n ∈ St.tkS vs
    · cases hh : St.hasD (sdM d) vs <;> simp [hv, hh] at hn ⊢ <;> exact hn
    · cases hh : St.hasD (sdM d) vs <;> simp [hv, hh] at hn ⊢ <;> exact hn
  rw [c1] at m1
  rw [c2] at m2
  have s0 : sizA d = St.countD (sdM d) := by unfold sizA; rw [if_pos hs]
  have s1 : sizA (ofSD (St.mustD (sdM d) n)) = St.countD (St.mustD (sdM d) n) := by
    have hR := St.must_right (sdM d) n
    unfold sizA
    rw [sdM_of hR.2.1, if_pos (show (ofSD _).set = true from hR.1)]
  have s2 : sizA (ofSD (St.notD (sdM d) n)) = St.countD (St.notD (sdM d) n) := by
    have hR := St.not_right (sdM d) n
    unfold sizA
    rw [sdM_of hR.2.1, if_pos (show (ofSD _).set = true from hR.1)]
  have hfr : ∀ s : St.SD, Dm.FitsR (ofSD s).r := fun s i hi => by simp [ofSD] at hi
  rcases res_set (n := n) hr hf hs with ⟨rfl, a1, a2⟩ | ⟨rfl, a1, a2⟩
  · refine ⟨?_, ?_, ?_, ?_, by rw [a1]; exact hfr _, by rw [a2]; exact hfr _⟩
    · rw [a1, a2, m1, m2]; cases rvM st vn vs <;> cases st <;> cases St.hasD (sdM d) vs <;> cases (St.tkS vs).contains n <;> rfl
    · rw [a1, a2, m1, m2, i3]; cases rvM st vn vs <;> cases st <;> cases St.hasD (sdM d) vs <;> cases (St.tkS vs).contains n <;> rfl
    · intro hi
      rw [i3] at hi
      simp only [Bool.and_eq_true, beq_iff_eq] at hi
      obtain ⟨⟨e1, e2⟩, e3⟩ := hi
      rw [a1, m1, e1, e2, e3]; simp [hoM]
    · intro hlt
      rw [a1, a2, s1, s2, s0]
      exact (St.parts_count _ _ (by rw [← s0]; exact hlt)).1
  · refine ⟨?_, ?_, ?_, ?_, by rw [a1]; exact hfr _, by rw [a2]; exact hfr _⟩
    · rw [a1, a2, m1, m2]; cases rvM st vn vs <;> cases st <;> cases St.hasD (sdM d) vs <;> cases (St.tkS vs).contains n <;> rfl
    · rw [a1, a2, m1, m2, i3]; cases rvM st vn vs <;> cases st <;> cases St.hasD (sdM d) vs <;> cases (St.tkS vs).contains n <;> rfl
    · intro hi
      rw [i3] at hi
      simp only [Bool.and_eq_true, beq_iff_eq] at hi
      obtain ⟨⟨e1, e2⟩, e3⟩ := hi
      rw [a1, m2, e1, e2, e3]; simp [hoM]
    · intro hlt
      rw [a1, a2, s1, s2, s0]
      have := (St.parts_count _ n (by rw [← s0]; exact hlt)).1
      omega
end Go.Proofs.YthkliicmoandmaaGreatDoor
