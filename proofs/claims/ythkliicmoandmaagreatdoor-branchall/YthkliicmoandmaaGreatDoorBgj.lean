/-
  What is proved here: which variable a phase takes.
  What is proved here: the ends of a domain of whole numbers; what is tried of one, where nothing is drawn.
  What is proved here: the next decision, where the first phase has open variables, the variable that is taken is one of whole numbers, and nothing is drawn.
-/
import Derived.Test.YthkliicmoandmaaGreatDoorBej
import Derived.Deep.RegionHeld3
namespace Go.Proofs.YthkliicmoandmaaGreatDoor
open Go.RowKit Go.Shelf
set_option linter.unusedVariables false
set_option linter.unusedSimpArgs false

/-- The rank of a variable. -/
def rkV (f : MD → Int) (D : List MD) (v : Int) : Int := (D[v.toNat]?.map f).getD 0
theorem openB_dom {D : List MD} {v : Int} (h : openB D v = true) : ∃ (n : Nat) (d : MD), v = (n : Int) ∧ D[n]? = some d ∧ sevB d = true ∧ n < D.length := by
  unfold openB at h
  simp only [Bool.and_eq_true, decide_eq_true_eq] at h
  obtain ⟨⟨h1, h2⟩, h3⟩ := h
  have hn : v.toNat < D.length := by omega
  obtain ⟨d, hd⟩ : ∃ d, D[v.toNat]? = some d := ⟨_, List.getElem?_eq_getElem hn⟩
  refine ⟨v.toNat, d, by omega, hd, ?_, hn⟩
  rw [hd] at h3
  simpa using h3
theorem Ds.at {w : World} {p : Option Addr} {n k : Nat} {D : List MD} (h : Ds w (.slice p n k) D) {i : Nat} {d : MD} (hd : D[i]? = some d) : ∃ b off, p = some ⟨b, off, none⟩ ∧ b < w.heap.size ∧ D.length = n ∧ ∃ c0 c1 c2 c3 c4 c5, Dc (fun _ => False) w [c0, c1, c2, c3, c4, c5] d ∧
    w.cell? ⟨b, off + i * 6, none⟩ = some c0 ∧ w.cell? ⟨b, off + i * 6 + 1, none⟩ = some c1 ∧ w.cell? ⟨b, off + i * 6 + 2, none⟩ = some c2 ∧ w.cell? ⟨b, off + i * 6 + 3, none⟩ = some c3 ∧ w.cell? ⟨b, off + i * 6 + 4, none⟩ = some c4 ∧ w.cell? ⟨b, off + i * 6 + 5, none⟩ = some c5 := by
  obtain ⟨a, c, e, h⟩ := h
  injection e with e1 e2 e3
  obtain ⟨b, off, h1, h2, h3⟩ := h (by have := (List.getElem?_eq_some_iff.1 hd).1; omega)
  exact ⟨b, off, e1.trans h1, h2, e2.symm, h3 i d hd⟩

set_option maxRecDepth 100000 in
set_option maxHeartbeats 4000000 in
theorem which_any {W : World} {pv : Option Addr} {nl kv : Nat} {sel val : Int} {p2 : Option Addr} {nd k2 : Nat} {l : List Int} {D : List MD} {f : MD → Int} (rv : Value) (hsel : sel ≠ 5) (hr : RankC sel f)
    (hv : Ns W (.slice pv nl kv) l) (hd : Ds W (.slice p2 nd k2) D) (hD : ∀ d ∈ D, Good d) (ho : ∀ v ∈ l, openB D v = true) (hl : l.length ≤ 9223372036854775806) (hDl : D.length ≤ 9223372036854775806) (hrv : rv.oneCell' = true) :
    Calls Tryz.prog 39 #[.agg #[.slice pv nl kv, .int .i64 sel, .int .i64 val], .slice p2 nd k2, rv] W fun e w' => e = .returned (.int .i64 (whichM (rkV f D) l).1) ∧ Below W.heap.size W w' := by
  obtain ⟨N, hN⟩ : ∃ N, W.heap.size = N := ⟨_, rfl⟩
  obtain ⟨W0, hW0⟩ : ∃ Q, W.alloc (Obj.cells #[.slice pv nl kv, .int .i64 sel, .int .i64 val] 71) = Q := ⟨_, rfl⟩
  obtain ⟨W1, hW1⟩ : ∃ Q, W0.alloc (Obj.cells #[.int .i64 0, .int .i64 0, .bool false] 122) = Q := ⟨_, rfl⟩
  have hs0 : W0.heap.size = N + 1 := by rw [← hW0]; simp [hN]
  have hb0 : Below N W W1 := by rw [← hW1, ← hW0, ← hN]; exact ((Below.refl _ W).alloc (Nat.le_refl _) _).alloc (by simp) _
  have hp0 : Bx W0 N #[.slice pv nl kv, .int .i64 sel, .int .i64 val] 71 := by rw [← hW0]; exact Bx.new' hN _ _
  have hp1 : Bx W1 N #[.slice pv nl kv, .int .i64 sel, .int .i64 val] 71 := by rw [← hW1]; exact hp0.alloc _
  have hq1 : Bx W1 (N + 1) #[.int .i64 0, .int .i64 0, .bool false] 122 := by rw [← hW1]; exact Bx.new' hs0 _ _
  have hln : l.length = nl := by obtain ⟨_, _, e, _⟩ := hv; injection e with _ e2 _; exact e2.symm
  obtain ⟨x0, x1, x2⟩ := hp0.three
  obtain ⟨y0, y1, y2⟩ := hp1.three
  have HP1 : Hid _ := hp1
  have HQ1 : Hid _ := hq1
  have HB0 : Hid (Below N W W1) := hb0
  have HW0 : Hid _ := hW0
  have HW1 : Hid _ := hW1
  have HN : Hid (W.heap.size = N) := hN
  have HV : Hid (Ns W (.slice pv nl kv) l) := hv
  have HD : Hid (Ds W (.slice p2 nd k2) D) := hd
  have HG : Hid _ := hD
  have HO : Hid _ := ho
  have HR : Hid (RankC sel f) := hr
  have HLN : Hid (l.length = nl) := hln
  have hse : (sel == 5) = false := by simpa using hsel
  have hl' : nl ≤ 9223372036854775806 := by omega
  rw [hN]
  clear hp0 hp1 hq1 hb0 hW1 hW0 hs0 hv hd hD ho hr hln hl
  go_enter Tryz.func39, Tryz.ntmps39
  go_wp2
  rw [HW0.out, HW1.out]
  clear x0 x1 x2 hN
  go_loopw [25] (fun i wr => ∃ k : Nat, i = .int .i64 (k : Int) ∧ k ≤ nl ∧ Hid (Bx wr N #[.slice pv nl kv, .int .i64 sel, .int .i64 val] 71) ∧ Hid (Bx wr (N + 1) #[.int .i64 (whichM (rkV f D) (l.take k)).1, .int .i64 (whichM (rkV f D) (l.take k)).2.1, .bool (whichM (rkV f D) (l.take k)).2.2] 122) ∧ Hid (Below N W wr)) (fun i _ => nl - (intOf i).toNat)
  case atStart => exact ⟨0, rfl, Nat.zero_le _, HP1, HQ1, HB0⟩
  case round =>
    obtain ⟨k, rfl, hk, HPB, HBB, HBW⟩ := hrel
    by_cases hlt : k < nl
    · have hlt' : (k : Int) < (nl : Int) := by omega
      have hwk : IntKind.i64.wrap ((k : Int) + 1) = (k : Int) + 1 := by rw [IntKind.wrap_i64]; omega
      obtain ⟨v, hv⟩ : ∃ v, l[k]? = some v := ⟨_, List.getElem?_eq_getElem (by rw [HLN.out]; exact hlt)⟩
      obtain ⟨vn, d, rfl, hdd, hsv, hvn⟩ := openB_dom (HO.out v (List.mem_of_getElem? hv))
      have hbW : Below W.heap.size W wr := by rw [HN.out]; exact HBW.out
      obtain ⟨b2, off2, rfl, hb2, hDn, c0, c1, c2, c3, c4, c5, hDc, g0, g1, g2, g3, g4, g5⟩ := (HD.out.below hbW).at hdd
      obtain ⟨b1, off1, rfl, m1⟩ : ∃ b off, pv = some ⟨b, off, none⟩ ∧ wr.cell? ⟨b, off + k, none⟩ = some (.int .i64 (vn : Int)) := by
        obtain ⟨a, c, e, hc⟩ := HV.out.below hbW
        injection e with e1 _ _
        obtain ⟨b, off, h1, _, _, h2⟩ := hc (by rw [HLN.out]; omega)
        exact ⟨b, off, e1.trans h1, h2 k _ hv⟩
      have HSN : Hid (whichM (rkV f D) (l.take (k + 1)) = offM (whichM (rkV f D) (l.take k)) (vn : Int) (f d)) := by
        unfold Hid; rw [whichM_snoc _ l k _ hv]; simp [rkV, hdd]
      have KR : Hid (Calls Tryz.prog 76 #[.int .i64 sel, .agg #[c0, c1, c2, c3, c4, c5]] wr.drew fun e w' => e = .returned (.int .i64 (f d)) ∧ Below wr.drew.heap.size wr.drew w') := HR.out _ _ _ d (hDc.below ((Below.refl _ _).drew)) (HG.out d (List.mem_of_getElem? hdd)) hsv
      have s1 := HPB.out.three.2.1
      have HSK : Hid (∀ w1, Below wr.drew.heap.size wr.drew w1 → (w1.cell? ⟨N, 1, none⟩ = some (.int .i64 sel) ∧ w1.cell? ⟨b2, off2 + vn * 6, none⟩ = some c0 ∧ w1.cell? ⟨b2, off2 + vn * 6 + 1, none⟩ = some c1 ∧ w1.cell? ⟨b2, off2 + vn * 6 + 2, none⟩ = some c2 ∧ w1.cell? ⟨b2, off2 + vn * 6 + 3, none⟩ = some c3 ∧ w1.cell? ⟨b2, off2 + vn * 6 + 4, none⟩ = some c4 ∧ w1.cell? ⟨b2, off2 + vn * 6 + 5, none⟩ = some c5)) := by
        intro w1 hb
        exact ⟨(hb.cell (p := ⟨N, 1, none⟩) HPB.out.lt).trans s1, (hb.cell (p := ⟨b2, _, none⟩) hb2).trans g0, (hb.cell (p := ⟨b2, _, none⟩) hb2).trans g1, (hb.cell (p := ⟨b2, _, none⟩) hb2).trans g2, (hb.cell (p := ⟨b2, _, none⟩) hb2).trans g3, (hb.cell (p := ⟨b2, _, none⟩) hb2).trans g4, (hb.cell (p := ⟨b2, _, none⟩) hb2).trans g5⟩
      have hb2N : b2 ≠ N + 1 := by
        obtain ⟨b', off', e', hb', _⟩ := HD.out.at hdd
        injection e' with e'
        injection e' with e1 _
        have := HN.out
        omega
      have HSO : Hid (∀ w1 w2, Below wr.drew.heap.size wr.drew w1 → Kept (fun b => b = N + 1) w1 w2 → (w2.cell? ⟨N, 1, none⟩ = some (.int .i64 sel) ∧ w2.cell? ⟨b2, off2 + vn * 6, none⟩ = some c0 ∧ w2.cell? ⟨b2, off2 + vn * 6 + 1, none⟩ = some c1 ∧ w2.cell? ⟨b2, off2 + vn * 6 + 2, none⟩ = some c2 ∧ w2.cell? ⟨b2, off2 + vn * 6 + 3, none⟩ = some c3 ∧ w2.cell? ⟨b2, off2 + vn * 6 + 4, none⟩ = some c4 ∧ w2.cell? ⟨b2, off2 + vn * 6 + 5, none⟩ = some c5)) := by
        intro w1 w2 hb hk
        obtain ⟨q0, q1, q2, q3, q4, q5, q6⟩ := HSK.out w1 hb
        have hl1 : b2 < w1.heap.size := Nat.lt_of_lt_of_le hb2 hb.size
        exact ⟨(hk.cell (Nat.lt_of_lt_of_le HPB.out.lt hb.size) (by omega) _).trans q0, (hk.cell hl1 hb2N _).trans q1, (hk.cell hl1 hb2N _).trans q2, (hk.cell hl1 hb2N _).trans q3, (hk.cell hl1 hb2N _).trans q4, (hk.cell hl1 hb2N _).trans q5, (hk.cell hl1 hb2N _).trans q6⟩
      have hvn2 : vn < nd := by omega
      have hone := hDc.one
      have HS0 : Hid (wr.drew.cell? ⟨N, 1, none⟩ = some (.int .i64 sel) ∧ wr.drew.cell? ⟨b2, off2 + vn * 6, none⟩ = some c0 ∧ wr.drew.cell? ⟨b2, off2 + vn * 6 + 1, none⟩ = some c1 ∧ wr.drew.cell? ⟨b2, off2 + vn * 6 + 2, none⟩ = some c2 ∧ wr.drew.cell? ⟨b2, off2 + vn * 6 + 3, none⟩ = some c3 ∧ wr.drew.cell? ⟨b2, off2 + vn * 6 + 4, none⟩ = some c4 ∧ wr.drew.cell? ⟨b2, off2 + vn * 6 + 5, none⟩ = some c5) := HSK.out _ (Below.refl _ _)
      clear hbW hDc hdd hsv hv hDn
      go_upto_region 7 with (fail)
      refine wp_region_held_drew (S := fun X : World => X.cell? ⟨N, 1, none⟩ = some (.int .i64 sel) ∧ X.cell? ⟨b2, off2 + vn * 6, none⟩ = some c0 ∧ X.cell? ⟨b2, off2 + vn * 6 + 1, none⟩ = some c1 ∧ X.cell? ⟨b2, off2 + vn * 6 + 2, none⟩ = some c2 ∧ X.cell? ⟨b2, off2 + vn * 6 + 3, none⟩ = some c3 ∧ X.cell? ⟨b2, off2 + vn * 6 + 4, none⟩ = some c4 ∧ X.cell? ⟨b2, off2 + vn * 6 + 5, none⟩ = some c5) (by kernel_rfl) (HS0.out) (fun hHeld => ?_)
      refine wpAnyH_take (i := 0) (oi := { dst := some 29, op := Go.Op.move (Go.Operand.tmp 9), type := 3, pos := "choose.go:94", after := #[], guard := none }) (v := ?_) rfl (by kernel_rfl) (by kernel_rfl) (by kernel_rfl) (fun _ _ _ h => h) (Or.inl ⟨by rfl, ?_⟩) hHeld ?_
      rotate_left
      · intro w hSw; (try dsimp only at hSw); go_simp <;> with_reducible rfl
      try simp only [Act.put, List.setIfInBounds_toArray, List.set_cons_zero, List.set_cons_succ]
      refine wpAnyH_take (i := 1) (oi := { dst := some 30, op := Go.Op.fieldAddr 71 (Go.Operand.tmp 3) 1, type := 0, pos := "choose.go:94", after := #[], guard := none }) (v := ?_) rfl (by kernel_rfl) (by kernel_rfl) (by kernel_rfl) (fun _ _ _ h => h) (Or.inl ⟨by rfl, ?_⟩) hHeld ?_
      rotate_left
      · intro w hSw; (try dsimp only at hSw); go_simp <;> with_reducible rfl
      try simp only [Act.put, List.setIfInBounds_toArray, List.set_cons_zero, List.set_cons_succ]
      refine wpAnyH_take (i := 2) (oi := { dst := some 31, op := Go.Op.load 3 (Go.Operand.tmp 30), type := 3, pos := "choose.go:94", after := #[{ on := 1, ground := Go.Ground.data }], guard := none }) (v := ?_) rfl (by kernel_rfl) (by kernel_rfl) (by kernel_rfl) (fun _ _ _ h => h) (Or.inl ⟨by rfl, ?_⟩) hHeld ?_
      rotate_left
      · intro w hSw; obtain ⟨q0, q1, q2, q3, q4, q5, q6⟩ := hSw; go_simp <;> with_reducible rfl
      try simp only [Act.put, List.setIfInBounds_toArray, List.set_cons_zero, List.set_cons_succ]
      refine wpAnyH_take (i := 3) (oi := { dst := some 32, op := Go.Op.move (Go.Operand.tmp 1), type := 23, pos := "choose.go:94", after := #[], guard := none }) (v := ?_) rfl (by kernel_rfl) (by kernel_rfl) (by kernel_rfl) (fun _ _ _ h => h) (Or.inl ⟨by rfl, ?_⟩) hHeld ?_
      rotate_left
      · intro w hSw; (try dsimp only at hSw); go_simp <;> with_reducible rfl
      try simp only [Act.put, List.setIfInBounds_toArray, List.set_cons_zero, List.set_cons_succ]
      refine wpAnyH_take (i := 4) (oi := { dst := some 33, op := Go.Op.move (Go.Operand.tmp 9), type := 3, pos := "choose.go:94", after := #[], guard := none }) (v := ?_) rfl (by kernel_rfl) (by kernel_rfl) (by kernel_rfl) (fun _ _ _ h => h) (Or.inl ⟨by rfl, ?_⟩) hHeld ?_
      rotate_left
      · intro w hSw; (try dsimp only at hSw); go_simp <;> with_reducible rfl
      try simp only [Act.put, List.setIfInBounds_toArray, List.set_cons_zero, List.set_cons_succ]
      refine wpAnyH_take (i := 5) (oi := { dst := some 34, op := Go.Op.indexAddr 23 (Go.Operand.tmp 32) (Go.Operand.tmp 33), type := 0, pos := "choose.go:94", after := #[{ on := 3, ground := Go.Ground.data }, { on := 4, ground := Go.Ground.data }], guard := none }) (v := ?_) rfl (by kernel_rfl) (by kernel_rfl) (by kernel_rfl) (fun _ _ _ h => h) (Or.inl ⟨by rfl, ?_⟩) hHeld ?_
      rotate_left
      · intro w hSw; (try dsimp only at hSw); go_simp <;> with_reducible rfl
      try simp only [Act.put, List.setIfInBounds_toArray, List.set_cons_zero, List.set_cons_succ]
      refine wpAnyH_take (i := 6) (oi := { dst := some 35, op := Go.Op.load 50 (Go.Operand.tmp 34), type := 50, pos := "choose.go:94", after := #[{ on := 5, ground := Go.Ground.data }], guard := none }) (v := ?_) rfl (by kernel_rfl) (by kernel_rfl) (by kernel_rfl) (fun _ _ _ h => h) (Or.inl ⟨by rfl, ?_⟩) hHeld ?_
      rotate_left
      · intro w hSw; obtain ⟨q0, q1, q2, q3, q4, q5, q6⟩ := hSw; go_simp <;> with_reducible rfl
      try simp only [Act.put, List.setIfInBounds_toArray, List.set_cons_zero, List.set_cons_succ]
      refine wpAnyH_ready (rs := [7]) (by kernel_rfl) (by simp) ?_
      refine AllReadyH.cons rfl (fun K hK => ?_) AllReadyH.nil
      go_simp
      refine KR.out.mono ?_
      rintro e w1 ⟨rfl, hb1⟩
      have HB1 : Hid (Below wr.drew.heap.size wr.drew w1) := hb1
      have HX1 : Hid (Bx w1 (N + 1) _ _) := (HBB.out.drew 1).below hb1
      clear hb1
      refine hK.out _ _ (HSK.out _ HB1.out) (fun hHeld2 => ?_)
      clear hK K hHeld
      have hHeld := hHeld2
      clear hHeld2
      try simp only [Act.put, List.setIfInBounds_toArray, List.set_cons_zero, List.set_cons_succ]
      refine wpAnyH_ready (rs := [8]) (by kernel_rfl) (by simp) ?_
      refine AllReadyH.cons rfl (fun K hK => ?_) AllReadyH.nil
      go_simp
      refine (offer_any HX1.out _ _).mono ?_
      rintro e w2 ⟨rfl, hx2, hk2⟩
      have HX2 : Hid _ := hx2
      have HK2 : Hid (Kept (fun b => b = N + 1) w1 w2) := hk2
      clear hx2 hk2
      refine hK.out _ _ (HSO.out _ _ HB1.out HK2.out) (fun hHeld2 => ?_)
      clear hK K hHeld
      have hHeld := hHeld2
      clear hHeld2
      try simp only [Act.put, List.setIfInBounds_toArray, List.set_cons_zero, List.set_cons_succ]
      refine wpAnyH_done (by kernel_rfl) ?_ _
      have hP2 : Bx w2 N #[.slice (some ⟨b1, off1, none⟩) nl kv, .int .i64 sel, .int .i64 val] 71 := ((HPB.out.drew 1).below HB1.out).kept HK2.out (by omega)
      have hB2 : Below N W w2 := (below_drewN HBW.out 1).trans ((HB1.out.mono (by have := HBW.out.size; have := HN.out; show N ≤ wr.heap.size; omega)).trans (HK2.out.below (by have := HBW.out.size; have := HB1.out.size; have := HN.out; show N ≤ w1.heap.size; have : wr.drew.heap.size = wr.heap.size := rfl; omega) (fun b hb => by omega)))
      have HP2 : Hid _ := hP2
      have HBW2 : Hid (Below N W w2) := hB2
      clear hP2 hB2
      go_wp2
      go_roundw
      case rel => exact ⟨k + 1, by go_num, by omega, HP2, by unfold Hid; rw [HSN.out]; exact HX2.out, HBW2⟩
      case measure => simp [intOf]; omega
    · have hlt' : ¬ (k : Int) < (nl : Int) := by omega
      have HFIN : Hid (l.take k = l) := List.take_of_length_le (by rw [HLN.out]; omega)
      rw [HFIN.out] at HBB
      obtain ⟨Bv, hBv⟩ : ∃ q, whichM (rkV f D) l = q := ⟨_, rfl⟩
      rw [hBv] at HBB
      have HBv : Hid _ := hBv
      clear hBv
      obtain ⟨q0, q1, q2⟩ := HBB.out.three
      go_wp2
      go_ret
      exact ⟨by rw [HBv.out]; rfl, HBW.out⟩
end Go.Proofs.YthkliicmoandmaaGreatDoor

namespace Go.Proofs.YthkliicmoandmaaGreatDoor
open Go.RowKit Go.Shelf
set_option linter.unusedVariables false
set_option linter.unusedSimpArgs false

def loM (d : MD) : Int := Dm.lo d.r 0
def hiM (d : MD) : Int := Dm.hi d.r (d.r.length - 1)
theorem Rm.at {X : Nat → Prop} {w : World} {p : Option Addr} {n k : Nat} {l : List Dm.Rg} (h : Rm X w (.slice p n k) l) (h0 : 0 < n) : l.length = n ∧ ∃ b off, p = some ⟨b, off, none⟩ ∧ b < w.heap.size ∧ w.cell? ⟨b, off, none⟩ = some (.int .i64 (Dm.lo l 0)) ∧ w.cell? ⟨b, off + (n - 1) * 2 + 1, none⟩ = some (.int .i64 (Dm.hi l (n - 1))) := by
  obtain ⟨a, c, e, h⟩ := h
  injection e with e1 e2 e3
  obtain ⟨b, off, h1, h2, _, h3⟩ := h (by omega)
  exact ⟨e2.symm, b, off, e1.trans h1, h2, by simpa using (h3 0 (by omega)).1, (h3 (n - 1) (by omega)).2⟩

set_option maxRecDepth 100000 in
set_option maxHeartbeats 4000000 in
theorem ends_w {X : Nat → Prop} {W : World} {c : List Value} {d : MD} (h : Dc X W c d) (hs : d.set = false) (hr : 0 < d.r.length) (hr2 : d.r.length ≤ 4611686018427387903) :
    Calls Tryz.prog 78 #[.agg c.toArray] W fun e w' => e = .returned (.tuple #[.int .i64 (loM d), .int .i64 (hiM d)]) ∧ Below W.heap.size W w' := by
  obtain ⟨b, ra, n0, rc, a1, n1, c1, a2, n2, c2, x, y, rfl, HE, H1, H2, H3⟩ := h.look
  obtain rfl : b = false := by rw [← HE.out.1, hs]
  obtain ⟨W0, hW0⟩ : ∃ Q, W.alloc (Obj.cells #[.bool false, .slice ra n0 rc, .slice a1 n1 c1, .slice a2 n2 c2, .int .i64 x, .int .i64 y] 50) = Q := ⟨_, rfl⟩
  have hb0 : Below W.heap.size W W0 := by rw [← hW0]; exact (Below.refl _ W).alloc (Nat.le_refl _) _
  have HB0 : Hid (Bx W0 W.heap.size #[.bool false, .slice ra n0 rc, .slice a1 n1 c1, .slice a2 n2 c2, .int .i64 x, .int .i64 y] 50) := by rw [← hW0]; exact Bx.new _ _ _
  have hn : d.r.length = n0 := HE.out.2.1
  obtain ⟨_, b1, off1, rfl, hlt, g0, g1⟩ := (H1.out.kept (Kept.of_below hb0)).at (by omega)
  have HM : Hid (hiM d = Dm.hi d.r (n0 - 1) ∧ loM d = Dm.lo d.r 0) := by unfold Hid hiM loM; rw [hn]; exact ⟨rfl, rfl⟩
  rw [HM.out.1, HM.out.2]
  obtain ⟨z0, z1, z2, z3, z4, z5⟩ := HB0.out.six
  have HBB : Hid (Below W.heap.size W W0) := hb0
  have HWW : Hid _ := hW0
  have hn0 : 0 < n0 := by omega
  have hcast : ((n0 : Int) - 1) = ((n0 - 1 : Nat) : Int) := by omega
  have hw1 : wrap64 ((n0 : Int) - 1) = ((n0 - 1 : Nat) : Int) := by unfold wrap64; omega
  have hlt1 : n0 - 1 < n0 := by omega
  generalize Dm.lo d.r 0 = q0 at *
  generalize Dm.hi d.r (n0 - 1) = q1 at *
  generalize n0 - 1 = m at *
  clear hb0 hW0 H1 H2 H3 HE hs h HM hn hr
  go_enter Tryz.func78, Tryz.ntmps78
  go_upto_region 1 with (fail)
  rw [HWW.out]
  go_upto_region 4 with (fail)
  go_quiet (fail)
  go_wp2
  go_ret2
  exact ⟨rfl, below_drewN HBB.out _⟩
/-- What is tried of a whole number, where nothing is drawn. -/
def numM (how lo hi : Int) : Int × Int := if how = 1 then (0, hi) else if how = 3 then (2, (lo + hi) / 2) else if how = 4 then (3, (lo + hi) / 2) else (0, lo)

set_option maxRecDepth 100000 in
set_option maxHeartbeats 4000000 in
theorem number_few {X : Nat → Prop} {W : World} {ra : Option Addr} {n0 rc : Nat} {r : List Dm.Rg} (h : Rm X W (.slice ra n0 rc) r) (hr : 0 < r.length) (hr2 : r.length ≤ 4611686018427387903) (how : Int) (h2 : how ≠ 2) (h5 : how ≠ 5) (rv : Value) (hrv : rv.oneCell' = true)
    (hb : -1000000 ≤ Dm.lo r 0 ∧ Dm.lo r 0 ≤ 1000000 ∧ -1000000 ≤ Dm.hi r (r.length - 1) ∧ Dm.hi r (r.length - 1) ≤ 1000000) :
    Calls Tryz.prog 41 #[.int .i64 how, .slice ra n0 rc, rv] W fun e w' => e = .returned (.tuple #[.int .i64 (numM how (Dm.lo r 0) (Dm.hi r (r.length - 1))).1, .int .i64 (numM how (Dm.lo r 0) (Dm.hi r (r.length - 1))).2]) ∧ Below W.heap.size W w' := by
  have hn : r.length = n0 := by obtain ⟨_, _, e, _⟩ := h; injection e with _ e2 _; exact e2.symm
  have hD : Dc X W [.bool false, .slice ra n0 rc, .slice none 0 0, .slice none 0 0, .int .i64 0, .int .i64 0] ⟨false, r, [], [], 0, 0⟩ := by
    subst hn
    exact ⟨ra, rc, none, 0, none, 0, rfl, h, Nm.empty _ _, Nm.empty _ _⟩
  have ke := ends_w hD rfl hr hr2
  have HE : Hid (loM ⟨false, r, [], [], 0, 0⟩ = Dm.lo r 0 ∧ hiM ⟨false, r, [], [], 0, 0⟩ = Dm.hi r (r.length - 1)) := ⟨rfl, rfl⟩
  rw [HE.out.1, HE.out.2] at ke
  clear hD h hr hr2 HE hn
  generalize Dm.lo r 0 = lo at *
  generalize Dm.hi r (r.length - 1) = hi at *
  have hw : wrap64 (lo + hi) = lo + hi := by unfold wrap64; omega
  have e2 : (how == 2) = false := by simpa using h2
  have e5 : (how == 5) = false := by simpa using h5
  by_cases h1 : how = 1
  · subst h1
    have HM : Hid (numM 1 lo hi = ((0 : Int), hi)) := rfl
    rw [HM.out]
    go_enter Tryz.func41, Tryz.ntmps41
    go_wp2_with (go_at_call 78; refine ke.mono ?_; rintro e w1 ⟨rfl, hb1⟩)
    go_ret2
    exact ⟨rfl, hb1⟩
  · have e1 : (how == 1) = false := by simpa using h1
    by_cases h3 : how = 3
    · subst h3
      have HM : Hid (numM 3 lo hi = ((2 : Int), (lo + hi) / 2)) := rfl
      rw [HM.out]
      go_enter Tryz.func41, Tryz.ntmps41
      go_wp2_with (go_at_call 78; refine ke.mono ?_; rintro e w1 ⟨rfl, hb1⟩)
      go_ret2
      exact ⟨rfl, hb1⟩
    · have e3 : (how == 3) = false := by simpa using h3
      by_cases h4 : how = 4
      · subst h4
        have HM : Hid (numM 4 lo hi = ((3 : Int), (lo + hi) / 2)) := rfl
        rw [HM.out]
        go_enter Tryz.func41, Tryz.ntmps41
        go_wp2_with (go_at_call 78; refine ke.mono ?_; rintro e w1 ⟨rfl, hb1⟩)
        go_ret2
        exact ⟨rfl, hb1⟩
      · have e4 : (how == 4) = false := by simpa using h4
        have HM : Hid (numM how lo hi = ((0 : Int), lo)) := by unfold Hid numM; rw [if_neg h1, if_neg h3, if_neg h4]
        rw [HM.out]
        go_enter Tryz.func41, Tryz.ntmps41
        go_wp2_with (go_at_call 78; refine ke.mono ?_; rintro e w1 ⟨rfl, hb1⟩)
        go_ret2
        exact ⟨rfl, hb1⟩
end Go.Proofs.YthkliicmoandmaaGreatDoor

namespace Go.Proofs.YthkliicmoandmaaGreatDoor
open Go.RowKit Go.Shelf
set_option linter.unusedVariables false
set_option linter.unusedSimpArgs false

set_option maxRecDepth 100000 in
set_option maxHeartbeats 4000000 in
theorem choose_first {W : World} {b off n c : Nat} {pv : Option Addr} {nv kv : Nat} {sel val : Int} {p2 : Option Addr} {nd k2 : Nat} {l : List Int} {D : List MD} {f : MD → Int} (rv : Value) (hrv : rv.oneCell' = true) (hn : 0 < n) (h0 : W.cell? ⟨b, off, none⟩ = some (.slice pv nv kv)) (h1 : W.cell? ⟨b, off + 1, none⟩ = some (.int .i64 sel)) (h2 : W.cell? ⟨b, off + 2, none⟩ = some (.int .i64 val))
    (hv : Ns W (.slice pv nv kv) l) (hd : Ds W (.slice p2 nd k2) D) (hD : ∀ d ∈ D, Good d) (hl : l.length * 8 ≤ 140737488355328) (hDl : D.length ≤ 9223372036854775806) (ho : openL l D ≠ []) (hsel : sel ≠ 5) (hr : RankC sel f) (hv2 : val ≠ 2) (hv5 : val ≠ 5)
    (vn : Nat) (d : MD) (hw : (whichM (rkV f D) (openL l D)).1 = (vn : Int)) (hdd : D[vn]? = some d) (hset : d.set = false) (hrl : 0 < d.r.length) (hrl2 : d.r.length ≤ 4611686018427387903)
    (hbd : -1000000 ≤ Dm.lo d.r 0 ∧ Dm.lo d.r 0 ≤ 1000000 ∧ -1000000 ≤ Dm.hi d.r (d.r.length - 1) ∧ Dm.hi d.r (d.r.length - 1) ≤ 1000000) :
    Calls Tryz.prog 10 #[.slice (some ⟨b, off, none⟩) n c, .slice p2 nd k2, rv] W fun e w' => e = .returned (.tuple #[.agg #[.int .i64 (vn : Int), .int .i64 (numM val (Dm.lo d.r 0) (Dm.hi d.r (d.r.length - 1))).1, .int .i64 (numM val (Dm.lo d.r 0) (Dm.hi d.r (d.r.length - 1))).2], .bool true]) ∧ Below W.heap.size W w' := by
  obtain ⟨N, hN⟩ : ∃ N, W.heap.size = N := ⟨_, rfl⟩
  obtain ⟨W0, hW0⟩ : ∃ Q, W.alloc (Obj.cells #[.int .i64 0, .int .i64 0, .int .i64 0] 32) = Q := ⟨_, rfl⟩
  have hb0 : Below W.heap.size W W0 := by rw [← hW0]; exact (Below.refl _ W).alloc (Nat.le_refl _) _
  have hz0 : Bx W0 N #[.int .i64 0, .int .i64 0, .int .i64 0] 32 := by rw [← hW0]; exact Bx.new' hN _ _
  have hbl : b < W.heap.size := World.block_lt_of_cell? W ⟨b, off, none⟩ h0
  have kn := next_first (c := c) hn ((hb0.cell (p := ⟨b, off, none⟩) hbl).trans h0) ((hb0.cell (p := ⟨b, off + 1, none⟩) hbl).trans h1) ((hb0.cell (p := ⟨b, off + 2, none⟩) hbl).trans h2) (hv.below hb0) (hd.below hb0) hD hl hDl ho
  obtain ⟨numq, hnumq⟩ : ∃ q, numM val (Dm.lo d.r 0) (Dm.hi d.r (d.r.length - 1)) = q := ⟨_, rfl⟩
  have HNQ : Hid _ := hnumq
  rw [hnumq]
  have HW0 : Hid _ := hW0
  have HZ0 : Hid _ := hz0
  have HB0 : Hid (Below W.heap.size W W0) := hb0
  have HN : Hid (W.heap.size = N) := hN
  have HD : Hid (Ds W (.slice p2 nd k2) D) := hd
  have HG : Hid _ := hD
  have HR : Hid (RankC sel f) := hr
  have HWH : Hid _ := hw
  have HDD : Hid _ := hdd
  have HOL : Hid (0 < (openL l D).length) := List.length_pos_iff.2 ho
  have HLB : Hid ((openL l D).length ≤ 9223372036854775806) := by have := openL_le l D; unfold Hid; omega
  have HRest : Hid _ := And.intro hset (And.intro hrl (And.intro hrl2 (And.intro hbd (And.intro hDl (And.intro hv2 (And.intro hv5 hsel))))))
  clear hW0 hz0 hb0 h0 h1 h2 hv hd hD hl ho hr hw hdd hset hrl hrl2 hbd hDl hv2 hv5 hsel hnumq
  rw [hN]
  go_enter Tryz.func10, Tryz.ntmps10
  go_wp2_with fail
  rw [HW0.out]
  clear hN
  refine kn.mono ?_
  clear kn
  rintro e w1 ⟨v, rfl, hoi, hb1⟩
  obtain ⟨va, vc, rfl⟩ := hoi.shape
  obtain ⟨ov, hov⟩ : ∃ q, openL l D = q := ⟨_, rfl⟩
  rw [hov] at hoi HWH HLB HOL ⊢
  have hoO : ∀ x ∈ ov, openB D x = true := by rw [← hov]; intro x hx; exact (List.mem_filter.1 hx).2
  obtain ⟨on, hon⟩ : ∃ q, ov.length = q := ⟨_, rfl⟩
  rw [hon] at HLB HOL ⊢
  have hoi' := hoi.ns
  rw [hon] at hoi'
  have hon0 : 0 < on := HOL.out
  have hone : ((on : Int) == 0) = false := by simp; omega
  have hone2 : ¬ (on : Int) = 0 := by omega
  obtain ⟨M, hM⟩ : ∃ q, w1.heap.size = q := ⟨_, rfl⟩
  obtain ⟨w1a, hw1a⟩ : ∃ Q, w1.alloc (Obj.cells #[.slice va on vc, .int .i64 sel, .int .i64 val] 71) = Q := ⟨_, rfl⟩
  have hp1 : Bx w1a M #[.slice va on vc, .int .i64 sel, .int .i64 val] 71 := by rw [← hw1a]; exact Bx.new' hM _ _
  have hba : Below w1.heap.size w1 w1a := by rw [← hw1a]; exact (Below.refl _ _).alloc (Nat.le_refl _) _
  have hbW : Below W.heap.size W w1a := HB0.out.trans ((hb1.trans (hba.mono hb1.size)).mono HB0.out.size)
  have hDs := HD.out.below hbW
  have kw := which_any (val := val) rv HRest.out.2.2.2.2.2.2.2 HR.out (hoi'.below hba) hDs HG.out hoO (by rw [hon]; exact HLB.out) HRest.out.2.2.2.2.1 hrv
  rw [HWH.out] at kw
  have HP1 : Hid _ := hp1
  have HBA : Hid (Below W.heap.size W w1a) := hbW
  have HZ1 : Hid (Bx w1a N _ _) := (HZ0.out.below hb1).below hba
  have HM : Hid (N < M) := by have := (HZ0.out.below hb1).lt; unfold Hid; omega
  have HW1 : Hid _ := hw1a
  clear hw1a hba hbW hDs hp1 hoi hoi' hb1 hoO
  go_wp2_with fail
  rw [HW1.out]
  clear hM
  refine kw.mono ?_
  clear kw
  rintro e w2 ⟨rfl, hb2⟩
  have hbW2 : Below W.heap.size W w2 := HBA.out.trans (hb2.mono HBA.out.size)
  obtain ⟨b2, off2, rfl, hb2l, hDn, c0, c1, c2, c3, c4, c5, hDc, g0, g1, g2, g3, g4, g5⟩ := (HD.out.below hbW2).at HDD.out
  obtain ⟨bo, ra, n0, rc, a1, n1, cc1, a2, n2, cc2, x, y, hcs, HE, H1, H2, H3⟩ := hDc.look
  have hbo : bo = false := by rw [← HE.out.1]; exact HRest.out.1
  injection hcs with e0 hcs
  injection hcs with e1 hcs
  rw [e0, hbo] at g0
  rw [e1] at g1
  clear hcs e0 e1 hDc g2 g3 g4 g5 H2 H3 hbo
  have hln : d.r.length = n0 := HE.out.2.1
  have KN : Hid (Calls Tryz.prog 41 #[.int .i64 val, .slice ra n0 rc, rv] w2.drew fun e w' => e = .returned (.tuple #[.int .i64 numq.1, .int .i64 numq.2]) ∧ Below w2.drew.heap.size w2.drew w') := by
    have := number_few (H1.out.kept (Kept.of_below ((Below.refl _ _).drew))) HRest.out.2.1 HRest.out.2.2.1 val HRest.out.2.2.2.2.2.1 HRest.out.2.2.2.2.2.2.1 rv hrv HRest.out.2.2.2.1
    rw [HNQ.out] at this
    exact this
  have HZ2 : Hid (Bx w2 N #[.int .i64 0, .int .i64 0, .int .i64 0] 32) := Bx.below HZ1.out hb2
  have hp2 := HP1.out.below hb2
  have z2 := hp2.three.2.2
  have HBW2 : Hid (Below N W w2) := by rw [← HN.out]; exact hbW2
  have hvn : vn < nd := by have := (List.getElem?_eq_some_iff.1 HDD.out).1; omega
  have HSK : Hid (∀ w3, Below w2.drew.heap.size w2.drew w3 → (w3.cell? ⟨M, 2, none⟩ = some (.int .i64 val) ∧ w3.cell? ⟨b2, off2 + vn * 6 + 1, none⟩ = some (.slice ra n0 rc))) := fun w3 hb => ⟨(hb.cell (p := ⟨M, 2, none⟩) hp2.lt).trans z2, (hb.cell (p := ⟨b2, _, none⟩) hb2l).trans g1⟩
  have HS0 : Hid (w2.drew.cell? ⟨M, 2, none⟩ = some (.int .i64 val) ∧ w2.drew.cell? ⟨b2, off2 + vn * 6 + 1, none⟩ = some (.slice ra n0 rc)) := HSK.out _ (Below.refl _ _)
  have hmN : M ≠ N := by have := HM.out; omega
  clear hbW2 hb2 hp2 H1 HE hln hDn HRest
  go_upto_region 8 with (fail)
  refine wp_region_held_drew (S := fun X : World => X.cell? ⟨M, 2, none⟩ = some (.int .i64 val) ∧ X.cell? ⟨b2, off2 + vn * 6 + 1, none⟩ = some (.slice ra n0 rc)) (by kernel_rfl) (HS0.out) (fun hHeld => ?_)
  refine wpAnyH_take (i := 0) (oi := { dst := some 47, op := Go.Op.fieldAddr 71 (Go.Operand.tmp 8) 2, type := 0, pos := "choose.go:66", after := #[], guard := none }) (v := ?_) rfl (by kernel_rfl) (by kernel_rfl) (by kernel_rfl) (fun _ _ _ h => h) (Or.inl ⟨by rfl, ?_⟩) hHeld ?_
  rotate_left
  · intro w hSw; (try dsimp only at hSw); go_simp <;> with_reducible rfl
  try simp only [Act.put, List.setIfInBounds_toArray, List.set_cons_zero, List.set_cons_succ]
  refine wpAnyH_take (i := 1) (oi := { dst := some 48, op := Go.Op.load 3 (Go.Operand.tmp 47), type := 3, pos := "choose.go:66", after := #[{ on := 0, ground := Go.Ground.data }], guard := none }) (v := ?_) rfl (by kernel_rfl) (by kernel_rfl) (by kernel_rfl) (fun _ _ _ h => h) (Or.inl ⟨by rfl, ?_⟩) hHeld ?_
  rotate_left
  · intro w hSw; obtain ⟨q0, q1⟩ := hSw; go_simp <;> with_reducible rfl
  try simp only [Act.put, List.setIfInBounds_toArray, List.set_cons_zero, List.set_cons_succ]
  refine wpAnyH_take (i := 2) (oi := { dst := some 49, op := Go.Op.move (Go.Operand.tmp 1), type := 23, pos := "choose.go:66", after := #[], guard := none }) (v := ?_) rfl (by kernel_rfl) (by kernel_rfl) (by kernel_rfl) (fun _ _ _ h => h) (Or.inl ⟨by rfl, ?_⟩) hHeld ?_
  rotate_left
  · intro w hSw; (try dsimp only at hSw); go_simp <;> with_reducible rfl
  try simp only [Act.put, List.setIfInBounds_toArray, List.set_cons_zero, List.set_cons_succ]
  refine wpAnyH_take (i := 3) (oi := { dst := some 50, op := Go.Op.move (Go.Operand.tmp 9), type := 3, pos := "choose.go:66", after := #[], guard := none }) (v := ?_) rfl (by kernel_rfl) (by kernel_rfl) (by kernel_rfl) (fun _ _ _ h => h) (Or.inl ⟨by rfl, ?_⟩) hHeld ?_
  rotate_left
  · intro w hSw; (try dsimp only at hSw); go_simp <;> with_reducible rfl
  try simp only [Act.put, List.setIfInBounds_toArray, List.set_cons_zero, List.set_cons_succ]
  refine wpAnyH_take (i := 4) (oi := { dst := some 51, op := Go.Op.indexAddr 23 (Go.Operand.tmp 49) (Go.Operand.tmp 50), type := 0, pos := "choose.go:66", after := #[{ on := 2, ground := Go.Ground.data }, { on := 3, ground := Go.Ground.data }], guard := none }) (v := ?_) rfl (by kernel_rfl) (by kernel_rfl) (by kernel_rfl) (fun _ _ _ h => h) (Or.inl ⟨by rfl, ?_⟩) hHeld ?_
  rotate_left
  · intro w hSw; (try dsimp only at hSw); go_simp <;> with_reducible rfl
  try simp only [Act.put, List.setIfInBounds_toArray, List.set_cons_zero, List.set_cons_succ]
  refine wpAnyH_take (i := 5) (oi := { dst := some 52, op := Go.Op.fieldAddr 50 (Go.Operand.tmp 51) 1, type := 0, pos := "choose.go:66", after := #[{ on := 4, ground := Go.Ground.data }], guard := none }) (v := ?_) rfl (by kernel_rfl) (by kernel_rfl) (by kernel_rfl) (fun _ _ _ h => h) (Or.inl ⟨by rfl, ?_⟩) hHeld ?_
  rotate_left
  · intro w hSw; (try dsimp only at hSw); go_simp <;> with_reducible rfl
  try simp only [Act.put, List.setIfInBounds_toArray, List.set_cons_zero, List.set_cons_succ]
  refine wpAnyH_take (i := 6) (oi := { dst := some 53, op := Go.Op.load 47 (Go.Operand.tmp 52), type := 47, pos := "choose.go:66", after := #[{ on := 5, ground := Go.Ground.data }], guard := none }) (v := ?_) rfl (by kernel_rfl) (by kernel_rfl) (by kernel_rfl) (fun _ _ _ h => h) (Or.inl ⟨by rfl, ?_⟩) hHeld ?_
  rotate_left
  · intro w hSw; obtain ⟨q0, q1⟩ := hSw; go_simp <;> with_reducible rfl
  try simp only [Act.put, List.setIfInBounds_toArray, List.set_cons_zero, List.set_cons_succ]
  refine wpAnyH_take (i := 7) (oi := { dst := some 54, op := Go.Op.move (Go.Operand.tmp 2), type := 26, pos := "choose.go:66", after := #[], guard := none }) (v := ?_) rfl (by kernel_rfl) (by kernel_rfl) (by kernel_rfl) (fun _ _ _ h => h) (Or.inl ⟨by rfl, ?_⟩) hHeld ?_
  rotate_left
  · intro w hSw; (try dsimp only at hSw); go_simp <;> with_reducible rfl
  try simp only [Act.put, List.setIfInBounds_toArray, List.set_cons_zero, List.set_cons_succ]
  refine wpAnyH_ready (rs := [8]) (by kernel_rfl) (by simp) ?_
  refine AllReadyH.cons rfl (fun K hK => ?_) AllReadyH.nil
  go_simp
  refine KN.out.mono ?_
  rintro e w3 ⟨rfl, hb3⟩
  have HB3 : Hid (Below w2.drew.heap.size w2.drew w3) := hb3
  clear hb3
  refine hK.out _ _ (HSK.out _ HB3.out) (fun hHeld2 => ?_)
  clear hK K hHeld
  have hHeld := hHeld2
  clear hHeld2
  try simp only [Act.put, List.setIfInBounds_toArray, List.set_cons_zero, List.set_cons_succ]
  refine wpAnyH_take (i := 9) (oi := { dst := some 46, op := Go.Op.move (Go.Operand.tmp 55), type := 82, pos := "choose.go:66", after := #[{ on := 8, ground := Go.Ground.data }], guard := none }) (v := ?_) rfl (by kernel_rfl) (by kernel_rfl) (by kernel_rfl) (fun _ _ _ h => h) (Or.inl ⟨by rfl, ?_⟩) hHeld ?_
  rotate_left
  · intro w hSw; (try dsimp only at hSw); go_simp <;> with_reducible rfl
  try simp only [Act.put, List.setIfInBounds_toArray, List.set_cons_zero, List.set_cons_succ]
  refine wpAnyH_take (i := 10) (oi := { dst := some 56, op := Go.Op.extract (Go.Operand.tmp 46) 0, type := 3, pos := "choose.go:66", after := #[{ on := 9, ground := Go.Ground.data }], guard := none }) (v := ?_) rfl (by kernel_rfl) (by kernel_rfl) (by kernel_rfl) (fun _ _ _ h => h) (Or.inl ⟨by rfl, ?_⟩) hHeld ?_
  rotate_left
  · intro w hSw; (try dsimp only at hSw); go_simp <;> with_reducible rfl
  try simp only [Act.put, List.setIfInBounds_toArray, List.set_cons_zero, List.set_cons_succ]
  refine wpAnyH_take (i := 11) (oi := { dst := some 57, op := Go.Op.extract (Go.Operand.tmp 46) 1, type := 2, pos := "choose.go:66", after := #[{ on := 9, ground := Go.Ground.data }, { on := 12, ground := Go.Ground.gcOnly Go.Departure.lateStores }], guard := none }) (v := ?_) rfl (by kernel_rfl) (by kernel_rfl) (by kernel_rfl) (fun _ _ _ h => h) (Or.inl ⟨by rfl, ?_⟩) hHeld ?_
  rotate_left
  · intro w hSw; (try dsimp only at hSw); go_simp <;> with_reducible rfl
  try simp only [Act.put, List.setIfInBounds_toArray, List.set_cons_zero, List.set_cons_succ]
  refine wpAnyH_take (i := 12) (oi := { dst := some 12, op := Go.Op.assign (Go.Operand.tmp 56), type := 3, pos := "choose.go:66", after := #[{ on := 10, ground := Go.Ground.data }, { on := 8, ground := Go.Ground.chain }, { on := 0, ground := Go.Ground.phase }, { on := 1, ground := Go.Ground.phase }, { on := 2, ground := Go.Ground.phase }, { on := 3, ground := Go.Ground.phase }, { on := 4, ground := Go.Ground.phase }, { on := 5, ground := Go.Ground.phase }, { on := 6, ground := Go.Ground.phase }, { on := 7, ground := Go.Ground.phase }, { on := 8, ground := Go.Ground.phase }, { on := 9, ground := Go.Ground.phase }, { on := 10, ground := Go.Ground.phase }, { on := 11, ground := Go.Ground.textOnly Go.Departure.lateStores }], guard := none }) (v := ?_) rfl (by kernel_rfl) (by kernel_rfl) (by kernel_rfl) (fun _ _ _ h => h) (Or.inl ⟨by rfl, ?_⟩) hHeld ?_
  rotate_left
  · intro w hSw; (try dsimp only at hSw); go_simp <;> with_reducible rfl
  try simp only [Act.put, List.setIfInBounds_toArray, List.set_cons_zero, List.set_cons_succ]
  refine wpAnyH_take (i := 13) (oi := { dst := some 13, op := Go.Op.assign (Go.Operand.tmp 57), type := 2, pos := "choose.go:66", after := #[{ on := 11, ground := Go.Ground.data }, { on := 12, ground := Go.Ground.chain }, { on := 0, ground := Go.Ground.phase }, { on := 1, ground := Go.Ground.phase }, { on := 2, ground := Go.Ground.phase }, { on := 3, ground := Go.Ground.phase }, { on := 4, ground := Go.Ground.phase }, { on := 5, ground := Go.Ground.phase }, { on := 6, ground := Go.Ground.phase }, { on := 7, ground := Go.Ground.phase }, { on := 8, ground := Go.Ground.phase }, { on := 9, ground := Go.Ground.phase }, { on := 10, ground := Go.Ground.phase }, { on := 11, ground := Go.Ground.phase }, { on := 12, ground := Go.Ground.phase }], guard := none }) (v := ?_) rfl (by kernel_rfl) (by kernel_rfl) (by kernel_rfl) (fun _ _ _ h => h) (Or.inl ⟨by rfl, ?_⟩) hHeld ?_
  rotate_left
  · intro w hSw; (try dsimp only at hSw); go_simp <;> with_reducible rfl
  try simp only [Act.put, List.setIfInBounds_toArray, List.set_cons_zero, List.set_cons_succ]
  refine wpAnyH_done (by kernel_rfl) ?_ _
  have hz3 : Bx w3 N #[.int .i64 0, .int .i64 0, .int .i64 0] 32 := (HZ2.out.drew 1).below HB3.out
  have f0 := hz3.fr 0
  have f1 := hz3.fr 1
  have f2 := hz3.fr 2
  obtain ⟨y0, y1, y2⟩ := hz3.three
  have HB : Hid (Below N W w3) := (below_drewN HBW2.out 1).trans (HB3.out.mono (by have := HBW2.out.size; have := HN.out; show N ≤ w2.heap.size; omega))
  have HZ3 : Hid _ := hz3
  clear hz3
  go_wp2
  refine ⟨rfl, _, res_ct rfl _ (HZ3.out.set3 _ _ _) (by with_unfolding_all rfl) rfl Tryz.underlying32 (by kernel_rfl) (v := .bool true) (by with_unfolding_all rfl), rfl, ?_⟩
  exact ((HB.out.setCell (p := ⟨N, 0, none⟩) (Nat.le_refl _) _).setCell (p := ⟨N, 1, none⟩) (Nat.le_refl _) _).setCell (p := ⟨N, 2, none⟩) (Nat.le_refl _) _
end Go.Proofs.YthkliicmoandmaaGreatDoor
