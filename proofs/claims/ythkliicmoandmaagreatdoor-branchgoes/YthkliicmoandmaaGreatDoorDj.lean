/-
  What is proved here: the walk of BranchGoes.
-/
import Derived.Test.YthkliicmoandmaaGreatDoorDi
import Derived.Test.YthkliicmoandmaaGreatDoorBk
import Derived.Test.YthkliicmoandmaaGreatDoorSn
import Derived.Test.YthkliicmoandmaaGreatDoorCij
import Derived.Test.YthkliicmoandmaaGreatDoorCcj
import Derived.OwnWalk
import Derived.Lib.AppendZerosOnto
import Derived.Lib.OwnBridge
import Derived.Laws.StructEq
namespace Go.Proofs.YthkliicmoandmaaGreatDoor
open Go.RowKit Go.Shelf
set_option linter.unusedVariables false
set_option linter.unusedSimpArgs false
theorem wp_ways2 {P : Program} {c : Code} {K : Act → World → Prop} {Q : Exit → Act → World → Prop} {a : Act} {w : World} {act : Nat → List Value → Act} (R : Nat → List Value → World → Prop) (h : c.wp P (Exit.then (fun a' w' => ∃ n q, a' = act n q ∧ R n q w') (fun _ _ _ => False)) a w) (hK : ∀ n q w', R n q w' → K (act n q) w') : c.wp P (Exit.then K Q) a w :=
  Code.wp_mono (fun e b x q => by
    cases e with
    | normal =>
      have q' : ∃ n q, b = act n q ∧ R n q x := q
      obtain ⟨n, q, e1, q2⟩ := q'
      rw [e1]
      exact hK _ _ _ q2
    | _ => exact (q : False).elim) h
theorem stepR {ops : Array Oper} {o : Oper} {a : Act} {w : World} {K : Act → World → Prop} {Q : Exit → Act → World → Prop} {E : Prop} {old : Array Value} {t : TypeId} (hgd : o.guard = none) (ty : TypeId) (x y : Operand) (ho : o.op = .store ty x y) (g : Nat) (c : List Value) (hx : a.eval x = .pointer (some ⟨g, 0, none⟩)) (hy : a.eval y = .agg c.toArray)
    (hg : Bx w g old t) (hold : old.size = 6) (hc : c.length = 6) (hi : (Tryz.prog.info? ty).map (·.size) = some 6) (h1 : ∀ v ∈ c, v.oneCell' = true) (h : K (a.put o.dst undef) (w.setRow g c.toArray)) : if Region.wanted o (yielded ops a.tmps) = true then Oper.wp Tryz.prog o a w K Q else E := by
  have hw : Region.wanted o (yielded ops a.tmps) = true := by simp [Region.wanted, hgd]
  rw [if_pos hw]
  unfold Oper.wp execOp
  simp only [ho, hx, hy, Instr.storeAt, Instr.sureAddr, Sem.run_bind, Sem.run_pure, Result.andThen_ok, run_storeVar_row w g t ty old c.toArray hg.h (by rw [hi]; simp [hc]) (by simp [hold, hc]) (all_oneCell_toArray h1)]
  exact h
theorem six_of2 {X : Nat → Prop} {w : World} {q : List Value} {d : MD} (h : Dc X w q d) : ∃ (b : Bool) (s1 s2 s3 : Option Addr × Nat × Nat) (x y : Int), q = [.bool b, .slice s1.1 s1.2.1 s1.2.2, .slice s2.1 s2.2.1 s2.2.2, .slice s3.1 s3.2.1 s3.2.2, .int .i64 x, .int .i64 y] := by
  obtain ⟨ra, rc, a1, c1, a2, c2, e, _⟩ := h
  exact ⟨_, (ra, _, rc), (a1, _, c1), (a2, _, c2), _, _, e⟩
theorem clone_any {W : World} {s : Value} {l : List Int} (h : Ns W s l) (hl : l.length * 8 ≤ 140737488355328) : Calls Tryz.prog 37 #[s] W fun e w' => ∃ v, e = .returned v ∧ Oi W.heap.size w' v l ∧ Below W.heap.size W w' := by
  obtain ⟨a, cap, rfl, hc⟩ := h
  cases a with
  | none =>
    have h0 : l.length = 0 := by
      apply Classical.byContradiction; intro hn
      obtain ⟨_, _, e, _⟩ := hc (by omega)
      cases e
    obtain rfl := List.eq_nil_of_length_eq_zero h0
    exact (AnyG.slices_Clone_int_nil Tryz.laysCloneN 0 cap W).mono fun e w' ⟨he, hw⟩ => ⟨_, he, by simpa [Oi, ivl] using World.ownsRow_nil _ _ _ _, by rw [hw]; exact Below.refl _ _⟩
  | some ad =>
    rcases Nat.eq_zero_or_pos l.length with h0 | h0
    · obtain rfl := List.eq_nil_of_length_eq_zero h0
      exact (AnyG.slices_Clone_int_zero Tryz.laysCloneN ad cap W).mono fun e w' ⟨v, he, hr, _, hb⟩ => ⟨v, he, hr, hb⟩
    · obtain ⟨b, off, e, hlt, _, hcell⟩ := hc h0
      injection e with e
      subst e
      have := AnyG.slices_Clone_int Tryz.laysCloneN b off l.length cap l W (Nat.le_refl _) hl (fun j hj => hcell j _ (by rw [List.getD_eq_getElem?_getD, List.getElem?_eq_getElem hj]; rfl))
      rw [List.take_length] at this
      exact this.mono fun e w' ⟨v, he, hr, _, hb⟩ => ⟨v, he, hr, hb⟩

set_option maxRecDepth 100000 in
set_option maxHeartbeats 4000000 in
theorem new_any {W : World} {p : Option Addr} {n c : Nat} {l : List Int} (h : Ns W (.slice p n c) l) (hl : l.length * 8 ≤ 140737488355328) : Calls Tryz.prog 9 #[.slice p n c] W fun e w' => ∃ q, e = .returned (ptr q) ∧ W.heap.size ≤ q ∧ q < w'.heap.size ∧ (∀ X : Nat → Prop, (∀ b, X b → b < W.heap.size ∨ w'.heap.size ≤ b) → Dr X w' q l) ∧ Below W.heap.size W w' := by
  have kc := clone_any h hl
  clear h
  go_enter Tryz.func9, Tryz.ntmps9
  go_wp2_with (go_at_call 37; refine kc.mono ?_; rintro e w1 ⟨v, rfl, ho, hb⟩; obtain ⟨a, cc, rfl⟩ := ho.shape)
  go_ret
  refine ⟨w1.heap.size, rfl, hb.size, by simp, fun X hX => ⟨a, cc, Bx.new _ _ _, ?_, ?_, fun h0 => ?_⟩, hb.alloc hb.size _⟩
  · rcases ho.2 with ⟨e1, e2⟩ | ⟨g, cap, cur, e1, _, _, hn, _⟩
    · omega
    · injection e1 with _ _ e3; omega
  · rcases ho.2 with ⟨e1, e2⟩ | ⟨g, cap, cur, e1, _, _, hn, hm, _⟩
    · injection e1 with _ _ e3; omega
    · injection e1 with _ _ e3; unfold maxLen at hm; omega
  · obtain ⟨g, c2, e1, hB, hg, _, hcells⟩ := ho.at h0
    injection e1 with e1 _ _
    refine ⟨g, 0, e1, by simp; omega, by omega, fun q => ?_, fun i x hx => ?_⟩
    · rcases hX g q with h1 | h1
      · omega
      · simp at h1; omega
    · have := (((Below.refl w1.heap.size w1).alloc (Nat.le_refl _) (Obj.cells #[.slice a l.length cc] 79)).cell (p := ⟨g, i, none⟩) hg).trans (hcells i x hx)
      simpa using this

theorem eqDecB (x0 x1 x2 : Int) (w : World) : (Op.equal 32 (.agg #[.int .i64 x0, .int .i64 x1, .int .i64 x2]) (.agg #[.int .i64 x0, .int .i64 x1, .int .i64 x2])).run Tryz.prog w = .ok true w := by
  have u2 := Tryz.underlying2
  have a2 := Tryz.isAgg2
  have z2 := Tryz.sizeOf2
  have u3 := Tryz.underlying3
  have a3 := Tryz.isAgg3
  have z3 := Tryz.sizeOf3
  have hS : Tryz.prog.underlying 32 = some (.struct (Tryz.prog.fieldsOf 32)) := by kernel_rfl
  have hp : Tryz.prog.stoodInHeld 32 = false := by kernel_rfl
  unfold Op.equal Op.maxDepth
  rw [show (10000 : Nat) = 9999 + 1 from rfl, run_equalIn_agg w 9999 32 _ _ hS hp]
  simp only [Program.fieldsOf, Tryz.underlying32]
  go_simp
theorem eqlDecB (x0 x1 x2 : Int) (w : World) :
    (binOp .eql 32 (.agg #[.int .i64 x0, .int .i64 x1, .int .i64 x2]) (.agg #[.int .i64 x0, .int .i64 x1, .int .i64 x2])).run Tryz.prog w = .ok (.bool true) w := by
  have he := eqDecB x0 x1 x2 w
  simp [binOp, run_underlying Tryz.underlying32, he, go_sem]
theorem tried_fits {d : MD} {op n : Int} (h : sevB d = true) (ht : Tried d op n) : Dm.Fits n := by
  unfold Tried at ht
  cases hs : d.set
  · rw [hs] at ht
    simp only [Bool.false_eq_true, if_false] at ht
    obtain ⟨hR, hl, hsz, m1, m2, hlt, hb⟩ := num_facts h hs
    have b1 := hb _ m1
    have b2 := hb _ m2
    unfold Dm.Fits
    rcases ht with ⟨_, hm⟩ | ⟨_, q1, q2⟩
    · have := hb _ hm; omega
    · omega
  · rw [if_pos hs] at ht
    obtain ⟨hR, _⟩ := sev_set h hs
    have hu : n ∈ d.up := by
      have := ht.2
      unfold freeL at this
      have e1 : St.tkS d.up = d.up := St.tkS_yes hR.2.2.2.1
      rw [e1] at this
      exact ((St.less_mem _ _ _).1 this).1
    have := St.set_mem hR.2.2.2.1 n hu
    unfold Dm.Fits
    omega
/-- Without random selectors nothing is drawn. -/
theorem phase_plain (D : List MD) : ∀ (L : List Ph), (∀ p ∈ L, p.sel ≠ 5 ∧ p.val ≠ 5) → (phaseM D L).sel ≠ 5 ∧ (phaseM D L).val ≠ 5
  | [], _ => ⟨fun h => absurd h (by show ¬ (0 : Int) = 5; decide), fun h => absurd h (by show ¬ (0 : Int) = 5; decide)⟩
  | p :: L, h => by
    unfold phaseM
    split
    · exact phase_plain D L fun q hq => h q (by simp [hq])
    · exact h p (by simp)
theorem choose_plain {L : List Ph} {D : List MD} (h : ∀ p ∈ L, p.sel ≠ 5 ∧ p.val ≠ 5) (R : List Int) : (chooseM L D R).2 = R ∧ (chooseM L D R).1 = (chooseM L D []).1 := by
  obtain ⟨h1, h2⟩ := phase_plain D L h
  have hs : ∀ R, selM (phaseM D L) D R = ((whichM (rkV (rankF (phaseM D L).sel) D) (phaseM D L).vars).1, R) := fun R => by unfold selM; rw [if_neg h1]
  have he : ∀ fl R, elemA (phaseM D L).val fl R = ((elemA (phaseM D L).val fl []).1, R) := fun fl R => by
    unfold elemA
    split
    · rfl
    first | rfl | rw [if_neg h2, if_neg h2]
  have hn : ∀ r R, numA (phaseM D L).val r R = ((numA (phaseM D L).val r []).1, R) := fun r R => by
    unfold numA
    split
    · rfl
    first | rfl | rw [if_neg h2, if_neg h2]
  unfold chooseM
  split
  · exact ⟨rfl, rfl⟩
  · dsimp only
    rw [hs R, hs []]
    dsimp only
    split
    · rw [he _ R]; exact ⟨rfl, rfl⟩
    · rw [hn _ R]; exact ⟨rfl, rfl⟩
theorem phase_nil (D : List MD) : ∀ (L : List Ph), (phaseM D L).vars = [] → openAll D = []
  | [], h => h
  | p :: L, h => by
    unfold phaseM at h
    split at h
    · exact phase_nil D L h
    · rename_i hne; exact absurd h hne
theorem choose_no {L : List Ph} {D : List MD} {R : List Int} (h : (chooseM L D R).1.2.2.2 = false) : openAll D = [] := by
  unfold chooseM at h
  split at h
  · rename_i hp; exact phase_nil D L hp
  · simp at h
theorem choose_yes {L : List Ph} {D : List MD} {R : List Int} (h : (chooseM L D R).1.2.2.2 = true) : ∃ (vn : Nat) (d : MD) (op n : Int), (chooseM L D R).1 = ((vn : Int), op, n, true) ∧ D[vn]? = some d ∧ sevB d = true ∧ Tried d op n := by
  unfold chooseM at h ⊢
  split at h
  · simp at h
  · rename_i hp
    rw [if_neg hp]
    obtain ⟨vn, d, e1, e2, e3, e4⟩ := openB_dom (phase_open D L _ (sel_in D R hp))
    dsimp only
    rw [e1]
    simp only [Int.toNat_natCast, e2, Option.getD_some]
    refine ⟨vn, d, _, _, rfl, e2, e3, ?_⟩
    cases hs : d.set
    · simp only [Bool.false_eq_true, if_false]
      exact tried_num e3 hs _ _
    · simp only [if_true]
      exact tried_set e3 hs _ _

set_option maxRecDepth 100000 in
set_option maxHeartbeats 4000000 in
theorem goes_walk {W : World} {p1 : Option Addr} {n k1 : Nat} {p2 : Option Addr} {nd k2 : Nat} {p3 : Option Addr} {nr k3 : Nat} {L : List Ph} {D : List MD} {R : List Int} (hP : Ps W (.slice p1 n k1) L) (hd : Ds W (.slice p2 nd k2) D) (hR : Ns W (.slice p3 nr k3) R) (hD : ∀ d ∈ D, Good d) (hz : SzP L D) (hR8 : R.length * 8 ≤ 140737488355328) :
    Calls Tryz.prog 6 #[.slice p1 n k1, .slice p2 nd k2, .slice p3 nr k3] W fun e w' => e = .returned (.bool true) ∧ Below W.heap.size W w' := by
  have kn := new_any hR hR8
  have hnR : R.length = nr := by obtain ⟨a, c, e, _⟩ := hR; injection e with _ e2 _; exact e2.symm
  have hnL : L.length = n := by obtain ⟨a, c, e, _⟩ := hP; injection e with _ e2 _; exact e2.symm
  have hnD : D.length = nd := by obtain ⟨a, c, e, _⟩ := hd; injection e with _ e2 _; exact e2.symm
  have HP : Hid (Ps W (.slice p1 n k1) L) := hP
  have HD : Hid (Ds W (.slice p2 nd k2) D) := hd
  have HG : Hid (∀ d ∈ D, Good d) := hD
  have HZ : Hid (SzP L D) := hz
  have HNR : Hid (R.length = nr) := hnR
  have HNL : Hid (L.length = n) := hnL
  have HND : Hid (D.length = nd) := hnD
  have hnlt : n ≤ 9223372036854775806 := by rw [← hnL]; exact hz.l
  have HKN : Hid (∀ w, Below W.heap.size W w → Calls Tryz.prog 17 #[] w fun e w' => e = .returned (.bool true) ∧ Below W.heap.size W w') := fun w hb => (known_true w).mono fun e w' ⟨he, hb'⟩ => ⟨he, hb.trans (hb'.mono hb.size)⟩
  clear hP hd hR hD hz hR8 hnR hnL hnD
  go_enter Tryz.func6, Tryz.ntmps6
  go_wp2_with fail
  refine kn.mono ?_
  clear kn
  rintro e w1 ⟨q, rfl, hqW, hq1, hdr, hb1⟩
  have HDR : Hid (Dw (fun _ => False) w1 (ptr q) R) := .inr ⟨q, rfl, hdr _ (fun _ h => h.elim)⟩
  have HPO : Hid (∀ b, DrB (ptr q) b → W.heap.size ≤ b) := fun b hb => by cases hb; exact hqW
  have HB1 : Hid (Below W.heap.size W w1) := hb1
  have kc := choose_any HP.out HD.out hb1 HG.out HZ.out HDR.out HPO.out
  clear hdr hqW hq1 hb1
  have hcy : Hid ((chooseM L D R).1.2.2.2 = true → ∃ (vn : Nat) (d : MD) (op n : Int), (chooseM L D R).1 = ((vn : Int), op, n, true) ∧ D[vn]? = some d ∧ sevB d = true ∧ Tried d op n) := choose_yes
  have hcn : Hid ((chooseM L D R).1.2.2.2 = false → openAll D = []) := choose_no
  have hcp : Hid ((∀ p ∈ L, p.sel ≠ 5 ∧ p.val ≠ 5) → (chooseM L D R).2 = R ∧ (chooseM L D R).1 = (chooseM L D []).1) := fun h => choose_plain h R
  obtain ⟨R2, hR2⟩ : ∃ q, (chooseM L D R).2 = q := ⟨_, rfl⟩
  obtain ⟨⟨cv, op, nn, cb⟩, hC⟩ : ∃ q, (chooseM L D R).1 = q := ⟨_, rfl⟩
  rw [hC] at kc hcy hcn hcp
  rw [hR2] at kc hcp
  dsimp only at kc hcy hcn
  clear hC hR2
  go_wp2_with fail
  refine kc.mono ?_
  clear kc
  rintro e w2 ⟨rfl, hd2, hk2⟩
  have HD2 : Hid (Dw (fun _ => False) w2 (ptr q) R2) := hd2
  have HBW2 : Hid (Below W.heap.size W w2) := HB1.out.trans (hk2.below HB1.out.size HPO.out)
  clear hd2 hk2
  cases cb
  · have hoa := hcn.out rfl
    have ko := ropen_any (HD.out.below (HBW2.out.alloc HBW2.out.size (Obj.cells #[.int .i64 cv, .int .i64 op, .int .i64 nn] 32))) HG.out HZ.out.d
    rw [hoa] at ko
    have HBA : Hid (Below W.heap.size W (w2.alloc (Obj.cells #[.int .i64 cv, .int .i64 op, .int .i64 nn] 32))) := HBW2.out.alloc HBW2.out.size _
    clear hoa hcy hcp
    obtain ⟨w2a, hw2a⟩ : ∃ Q, w2.alloc (Obj.cells #[.int .i64 cv, .int .i64 op, .int .i64 nn] 32) = Q := ⟨_, rfl⟩
    rw [hw2a] at ko HBA
    have HW2 : Hid _ := hw2a
    clear hw2a
    go_upto_region 6 with (fail)
    rw [HW2.out]
    go_wp2_with fail
    refine ko.mono ?_
    clear ko
    rintro e w3 ⟨v, rfl, ho3, hb3⟩
    obtain ⟨va, vc, rfl⟩ := ho3.shape
    have HB3 : Hid (Below W.heap.size W w3) := HBA.out.trans (hb3.mono HBA.out.size)
    clear ho3 hb3
    go_wp2_with fail
    refine (HKN.out _ HB3.out).mono ?_
    rintro e w4 ⟨rfl, hb4⟩
    go_wp2
    go_ret
    exact ⟨rfl, hb4⟩
  · obtain ⟨vn, d, op', nn', hE, hdd, hsev, htr⟩ := hcy.out rfl
    injection hE with e1 hE
    injection hE with e2 hE
    injection hE with e3 _
    subst e1 e2 e3
    obtain ⟨hE0, hSA, hSB⟩ := tried_both hsev htr
    have hfn := tried_fits hsev htr
    have hvl : vn < nd := by rw [← HND.out]; exact (List.getElem?_eq_some_iff.1 hdd).1
    have hvi : (vn : Int) < (nd : Int) := by omega
    have hvi2 : ¬ (nd : Int) ≤ (vn : Int) := by omega
    obtain ⟨b2, off2, hp2, hb2l, _, c0, c1, c2, c3, c4, c5, hDc0, i0, i1, i2, i3, i4, i5⟩ := HD.out.at hdd
    obtain ⟨bo, ra, n0, rc, a1, n1, cc1, a2, n2, cc2, x, y, hcs, HE, _, _, _⟩ := hDc0.look
    injection hcs with f0 hcs
    injection hcs with f1 hcs
    injection hcs with f2 hcs
    injection hcs with f3 hcs
    injection hcs with f4 hcs
    injection hcs with f5 _
    subst f0 f1 f2 f3 f4 f5 hp2
    have hrn : d.r.length = n0 := HE.out.2.1
    rw [hrn] at hSB
    have HGD : Hid (Good d) := HG.out d (List.mem_of_getElem? hdd)
    have HDC : Hid (∀ w, Below W.heap.size W w → Dc (fun _ => False) w [.bool bo, .slice ra n0 rc, .slice a1 n1 cc1, .slice a2 n2 cc2, .int .i64 x, .int .i64 y] d) := fun w hb => hDc0.below hb
    obtain ⟨P, hP⟩ : ∃ q, w2.heap.size = q := ⟨_, rfl⟩
    obtain ⟨W2, hW2⟩ : ∃ Q, w2.alloc (Obj.cells #[.int .i64 (vn : Int), .int .i64 op, .int .i64 nn] 32) = Q := ⟨_, rfl⟩
    have HX2 : Hid (Bx W2 P #[.int .i64 (vn : Int), .int .i64 op, .int .i64 nn] 32) := by rw [← hW2]; exact Bx.new' hP _ _
    have hbw2 : Below w2.heap.size w2 W2 := by rw [← hW2]; exact (Below.refl _ _).alloc (Nat.le_refl _) _
    have HB2 : Hid (Below W.heap.size W W2) := HBW2.out.trans (hbw2.mono HBW2.out.size)
    have HDW2 : Hid (Dw (fun _ => False) W2 (ptr q) R2) := HD2.out.below hbw2
    have HW2 : Hid _ := hW2
    have g0 := (HB2.out.cell (p := ⟨b2, off2 + vn * 6, none⟩) hb2l).trans i0
    have g1 := (HB2.out.cell (p := ⟨b2, off2 + vn * 6 + 1, none⟩) hb2l).trans i1
    have g2 := (HB2.out.cell (p := ⟨b2, off2 + vn * 6 + 2, none⟩) hb2l).trans i2
    have g3 := (HB2.out.cell (p := ⟨b2, off2 + vn * 6 + 3, none⟩) hb2l).trans i3
    have g4 := (HB2.out.cell (p := ⟨b2, off2 + vn * 6 + 4, none⟩) hb2l).trans i4
    have g5 := (HB2.out.cell (p := ⟨b2, off2 + vn * 6 + 5, none⟩) hb2l).trans i5
    obtain ⟨x0, x1, x2⟩ := HX2.out.three
    clear hW2 hbw2 i0 i1 i2 i3 i4 i5 hDc0 hcy hcn HE hrn
    have HSA : Hid (sizA (resM d op nn).1 ≠ 0) := hSA
    have HSB : Hid (n0 < 4095 → sizA (resM d (otM op) nn).1 ≠ 0) := hSB
    have HE0 : Hid ((resM d op nn).2 = 0 ∧ (resM d (otM op) nn).2 = 0) := ⟨hE0, by rw [res_err]; exact hE0⟩
    have HFN : Hid (Dm.Fits nn) := hfn
    clear hSA hSB hE0 hfn hsev htr hdd
    go_upto_region 5 with (fail)
    rw [HW2.out]
    clear hP
    obtain ⟨P3, hP3⟩ : ∃ q, W2.heap.size = q := ⟨_, rfl⟩
    obtain ⟨W3, hW3⟩ : ∃ Q, W2.alloc (Obj.cells #[.bool bo, .slice ra n0 rc, .slice a1 n1 cc1, .slice a2 n2 cc2, .int .i64 x, .int .i64 y] 50) = Q := ⟨_, rfl⟩
    have HO3 : Hid (Bx W3 P3 #[.bool bo, .slice ra n0 rc, .slice a1 n1 cc1, .slice a2 n2 cc2, .int .i64 x, .int .i64 y] 50) := by rw [← hW3]; exact Bx.new' hP3 _ _
    have hbw3 : Below W2.heap.size W2 W3 := by rw [← hW3]; exact (Below.refl _ _).alloc (Nat.le_refl _) _
    have HX3 : Hid (Bx W3 P #[.int .i64 (vn : Int), .int .i64 op, .int .i64 nn] 32) := HX2.out.below hbw3
    have HB3 : Hid (Below W.heap.size W W3) := HB2.out.trans (hbw3.mono HB2.out.size)
    have HDW3 : Hid (Dw (fun _ => False) W3 (ptr q) R2) := HDW2.out.below hbw3
    have HW3 : Hid _ := hW3
    clear hW3 hbw3
    go_upto_region 10 with (fail)
    rw [HW3.out]
    clear hP3 g0 g1 g2 g3 g4 g5 x0 x1 x2
    have ka := apply_any (vn : Int) op nn (HDC.out W3 HB3.out) HGD.out HFN.out
    rw [HE0.out.1] at ka
    obtain ⟨rA, hrA⟩ : ∃ q, (resM d op nn).1 = q := ⟨_, rfl⟩
    obtain ⟨rb, hrb⟩ : ∃ q, (resM d (otM op) nn).1 = q := ⟨_, rfl⟩
    rw [hrA] at ka HSA
    rw [hrb] at HSB
    have HRB : Hid ((resM d (otM op) nn).1 = rb) := hrb
    clear hrA hrb
    obtain ⟨z0, z1, z2, z3, z4, z5⟩ := HO3.out.six
    obtain ⟨x0, x1, x2⟩ := HX3.out.three
    go_wp2_with fail
    refine ka.mono ?_
    clear ka z0 z1 z2 z3 z4 z5 x0 x1 x2
    rintro e w4 ⟨qa, rfl, hans, hb4⟩
    obtain ⟨a0, t1, t2, t3, a4, a5, rfl⟩ := six_of2 (hans.dc (fun _ => False) (fun _ h => h.elim))
    obtain ⟨P4, hP4⟩ : ∃ q, w4.heap.size = q := ⟨_, rfl⟩
    obtain ⟨W4, hW4⟩ : ∃ Q, w4.alloc (Obj.cells #[.bool a0, .slice t1.1 t1.2.1 t1.2.2, .slice t2.1 t2.2.1 t2.2.2, .slice t3.1 t3.2.1 t3.2.2, .int .i64 a4, .int .i64 a5] 50) = Q := ⟨_, rfl⟩
    have hbw4 : Below w4.heap.size w4 W4 := by rw [← hW4]; exact (Below.refl _ _).alloc (Nat.le_refl _) _
    have HA4 : Hid (Bx W4 P4 #[.bool a0, .slice t1.1 t1.2.1 t1.2.2, .slice t2.1 t2.2.1 t2.2.2, .slice t3.1 t3.2.1 t3.2.2, .int .i64 a4, .int .i64 a5] 50) := by rw [← hW4]; exact Bx.new' hP4 _ _
    have hb34 : Below W3.heap.size W3 W4 := hb4.trans (hbw4.mono hb4.size)
    have HDA : Hid (Dc (fun _ => False) W4 [.bool a0, .slice t1.1 t1.2.1 t1.2.2, .slice t2.1 t2.2.1 t2.2.2, .slice t3.1 t3.2.1 t3.2.2, .int .i64 a4, .int .i64 a5] rA) := (hans.dc (fun _ => False) (fun _ h => h.elim)).below hbw4
    have HB4 : Hid (Below W.heap.size W W4) := HB3.out.trans (hb34.mono HB3.out.size)
    have HO4 : Hid (Bx W4 P3 #[.bool bo, .slice ra n0 rc, .slice a1 n1 cc1, .slice a2 n2 cc2, .int .i64 x, .int .i64 y] 50) := HO3.out.below hb34
    have HX4 : Hid (Bx W4 P #[.int .i64 (vn : Int), .int .i64 op, .int .i64 nn] 32) := HX3.out.below hb34
    have HDW4 : Hid (Dw (fun _ => False) W4 (ptr q) R2) := HDW3.out.below hb34
    have HW4 : Hid _ := hW4
    clear hW4 hbw4 hb34 hb4 hans
    go_upto_region 11 with (fail)
    rw [HW4.out]
    clear hP4
    have KN : Hid (∀ w, Below W4.heap.size W4 w → Calls Tryz.prog 23 #[.agg #[.int .i64 (vn : Int), .int .i64 op, .int .i64 nn]] w fun e w' => e = .returned (.agg #[.int .i64 (vn : Int), .int .i64 (otM op), .int .i64 nn]) ∧ Below w.heap.size w w') := fun w _ => not_dec (vn : Int) op nn w
    have KA : Hid (∀ w, Below W4.heap.size W4 w → Calls Tryz.prog 20 #[.agg #[.bool bo, .slice ra n0 rc, .slice a1 n1 cc1, .slice a2 n2 cc2, .int .i64 x, .int .i64 y], .agg #[.int .i64 (vn : Int), .int .i64 (otM op), .int .i64 nn]] w fun e w' => ∃ q : List Value, e = .returned (.tuple #[.agg q.toArray, .int .i64 0]) ∧ Ans w.heap.size w' q rb ∧ Below w.heap.size w w') := fun w hb => by
      have := apply_any (vn : Int) (otM op) nn (HDC.out w (HB4.out.trans (hb.mono HB4.out.size))) HGD.out HFN.out
      rw [HE0.out.2, HRB.out] at this
      exact this
    have FS : Hid (∀ w, Below W4.heap.size W4 w → Bx w P3 #[.bool bo, .slice ra n0 rc, .slice a1 n1 cc1, .slice a2 n2 cc2, .int .i64 x, .int .i64 y] 50 ∧ Bx w P #[.int .i64 (vn : Int), .int .i64 op, .int .i64 nn] 32) := fun w hb => ⟨HO4.out.below hb, HX4.out.below hb⟩
    have HC0 : Hid (Below W4.heap.size W4 W4.drew) := (Below.refl _ _).drew
    apply wp_ways2 (R := fun bn q w' => Below W4.heap.size W4 w' ∧ Bx w' bn q.toArray 50 ∧ Dc (fun b => b = bn) w' q rb)
    case h =>
      refine wp_region_held_drew (S := fun X : World => Bx X P3 #[.bool bo, .slice ra n0 rc, .slice a1 n1 cc1, .slice a2 n2 cc2, .int .i64 x, .int .i64 y] 50 ∧ Bx X P #[.int .i64 (vn : Int), .int .i64 op, .int .i64 nn] 32) (by kernel_rfl) ((FS.out _ HC0.out)) (fun hHeld => ?_)
      refine wpAnyH_take (i := 0) (oi := { dst := some 60, op := Go.Op.load 50 (Go.Operand.tmp 10), type := 50, pos := "law.go:127", after := #[], guard := none }) (v := ?_) rfl (by kernel_rfl) (by kernel_rfl) (by kernel_rfl) (fun _ _ _ h => h) (Or.inl ⟨by rfl, ?_⟩) hHeld ?_
      rotate_left
      · intro w hSw; obtain ⟨hO, hN⟩ := hSw; obtain ⟨y0, y1, y2, y3, y4, y5⟩ := hO.six; go_simp <;> with_reducible rfl
      try simp only [Act.put, List.setIfInBounds_toArray, List.set_cons_zero, List.set_cons_succ]
      refine wpAnyH_take (i := 1) (oi := { dst := some 61, op := Go.Op.load 32 (Go.Operand.tmp 8), type := 32, pos := "law.go:127", after := #[], guard := none }) (v := ?_) rfl (by kernel_rfl) (by kernel_rfl) (by kernel_rfl) (fun _ _ _ h => h) (Or.inl ⟨by rfl, ?_⟩) hHeld ?_
      rotate_left
      · intro w hSw; obtain ⟨hO, hN⟩ := hSw; obtain ⟨y0, y1, y2⟩ := hN.three; go_simp <;> with_reducible rfl
      try simp only [Act.put, List.setIfInBounds_toArray, List.set_cons_zero, List.set_cons_succ]
      refine wpAnyH_ready (rs := [2, 7]) (by kernel_rfl) (by simp) ?_
      refine AllReadyH.cons rfl (fun K hK => ?_) ?_
      · go_simp
        refine (KN.out _ HC0.out).mono ?_
        rintro e v1 ⟨rfl, hb⟩
        have HC1 : Hid (Below W4.heap.size W4 v1) := HC0.out.trans (hb.mono HC0.out.size)
        clear hb
        refine hK.out _ _ ((FS.out _ HC1.out)) (fun hHeld2 => ?_)
        clear hK K hHeld
        have hHeld := hHeld2
        clear hHeld2
        try simp only [Act.put, List.setIfInBounds_toArray, List.set_cons_zero, List.set_cons_succ]
        refine wpAnyH_ready (rs := [3, 7]) (by kernel_rfl) (by simp) ?_
        refine AllReadyH.cons rfl (fun K hK => ?_) ?_
        · go_simp
          refine (KA.out _ HC1.out).mono ?_
          rintro e v2 ⟨q, rfl, hq, hb⟩
          have HC2 : Hid (Below W4.heap.size W4 v2) := HC1.out.trans (hb.mono HC1.out.size)
          have HDq2 : Hid (Dc (fun _ => False) v2 q rb) := hq.dc _ (fun b hb => hb.elim)
          clear hb hq
          refine hK.out _ _ ((FS.out _ HC2.out)) (fun hHeld2 => ?_)
          clear hK K hHeld
          have hHeld := hHeld2
          clear hHeld2
          try simp only [Act.put, List.setIfInBounds_toArray, List.set_cons_zero, List.set_cons_succ]
          refine wpAnyH_take (i := 4) (oi := { dst := some 59, op := Go.Op.move (Go.Operand.tmp 63), type := 56, pos := "law.go:127", after := #[{ on := 3, ground := Go.Ground.data }], guard := none }) (v := ?_) rfl (by kernel_rfl) (by kernel_rfl) (by kernel_rfl) (fun _ _ _ h => h) (Or.inl ⟨by rfl, ?_⟩) hHeld ?_
          rotate_left
          · intro w hSw; (try dsimp only at hSw); go_simp <;> with_reducible rfl
          try simp only [Act.put, List.setIfInBounds_toArray, List.set_cons_zero, List.set_cons_succ]
          refine wpAnyH_take (i := 5) (oi := { dst := some 64, op := Go.Op.extract (Go.Operand.tmp 59) 0, type := 50, pos := "law.go:127", after := #[{ on := 4, ground := Go.Ground.data }], guard := none }) (v := ?_) rfl (by kernel_rfl) (by kernel_rfl) (by kernel_rfl) (fun _ _ _ h => h) (Or.inl ⟨by rfl, ?_⟩) hHeld ?_
          rotate_left
          · intro w hSw; (try dsimp only at hSw); go_simp <;> with_reducible rfl
          try simp only [Act.put, List.setIfInBounds_toArray, List.set_cons_zero, List.set_cons_succ]
          refine wpAnyH_take (i := 6) (oi := { dst := some 65, op := Go.Op.extract (Go.Operand.tmp 59) 1, type := 55, pos := "law.go:127", after := #[{ on := 4, ground := Go.Ground.data }, { on := 8, ground := Go.Ground.gcOnly Go.Departure.lateStores }], guard := none }) (v := ?_) rfl (by kernel_rfl) (by kernel_rfl) (by kernel_rfl) (fun _ _ _ h => h) (Or.inl ⟨by rfl, ?_⟩) hHeld ?_
          rotate_left
          · intro w hSw; (try dsimp only at hSw); go_simp <;> with_reducible rfl
          try simp only [Act.put, List.setIfInBounds_toArray, List.set_cons_zero, List.set_cons_succ]
          refine wpAnyH_ready (rs := [7]) (by kernel_rfl) (by simp) ?_
          refine AllReadyH.cons rfl (fun K hK => ?_) AllReadyH.nil
          obtain ⟨bn, hbn⟩ : ∃ q, v2.heap.size = q := ⟨_, rfl⟩
          go_simp
          (try rw [hbn])
          obtain ⟨v3, hv3⟩ : ∃ q, v2.alloc (Obj.cells #[.bool false, .slice none 0 0, .slice none 0 0, .slice none 0 0, .int .i64 0, .int .i64 0] 50) = q := ⟨_, rfl⟩
          (try rw [hv3])
          (try rw [show (v2.alloc (Obj.cells #[.bool false, .slice none 0 0, .slice none 0 0, .slice none 0 0, .int .i64 0, .int .i64 0] 50)).drew = v3 from hv3])
          have HC3 : Hid (Below W4.heap.size W4 v3) := by rw [← hv3]; exact HC2.out.alloc (HC2.out.size) _
          have HNW3 : Hid (Bx v3 bn #[.bool false, .slice none 0 0, .slice none 0 0, .slice none 0 0, .int .i64 0, .int .i64 0] 50) := by rw [← hv3]; exact Bx.new' (w := v2) hbn _ _
          have HBN : Hid (W4.heap.size ≤ bn) := by rw [Hid, ← hbn]; exact HC2.out.size
          have HDq3 : Hid (Dc (fun b => b = bn) v3 q rb) := by
            rw [← hv3]
            exact HDq2.out.go (Kept.of_below ((Below.refl _ _).alloc (Nat.le_refl _) _)) (fun b hb => .inr (by omega))
          clear hv3 hbn
          refine hK.out _ _ ((FS.out _ HC3.out)) (fun hHeld2 => ?_)
          clear hK K hHeld
          have hHeld := hHeld2
          clear hHeld2
          try simp only [Act.put, List.setIfInBounds_toArray, List.set_cons_zero, List.set_cons_succ]
          refine wpAnyH_ready (rs := [8]) (by kernel_rfl) (by simp) ?_
          refine AllReadyH.cons rfl (fun K hK => ?_) AllReadyH.nil
          refine stepR rfl 50 (.tmp 13) (.tmp 64) rfl bn q (by with_unfolding_all rfl) (by with_unfolding_all rfl) HNW3.out (by rfl) HDq3.out.len Tryz.sizeDom HDq3.out.one ?_
          refine hK.out _ _ ((FS.out _ (below_row HC3.out HBN.out _))) (fun hHeld2 => ?_)
          clear hK K hHeld
          have hHeld := hHeld2
          clear hHeld2
          try simp only [Act.put, List.setIfInBounds_toArray, List.set_cons_zero, List.set_cons_succ]
          refine wpAnyH_take (i := 9) (oi := { dst := some 14, op := Go.Op.assign (Go.Operand.tmp 65), type := 55, pos := "law.go:127", after := #[{ on := 6, ground := Go.Ground.data }, { on := 8, ground := Go.Ground.chain }, { on := 0, ground := Go.Ground.phase }, { on := 1, ground := Go.Ground.phase }, { on := 2, ground := Go.Ground.phase }, { on := 3, ground := Go.Ground.phase }, { on := 4, ground := Go.Ground.phase }, { on := 5, ground := Go.Ground.phase }, { on := 6, ground := Go.Ground.phase }, { on := 7, ground := Go.Ground.phase }, { on := 8, ground := Go.Ground.phase }], guard := none }) (v := ?_) rfl (by kernel_rfl) (by kernel_rfl) (by kernel_rfl) (fun _ _ _ h => h) (Or.inl ⟨by rfl, ?_⟩) hHeld ?_
          rotate_left
          · intro w hSw; (try dsimp only at hSw); go_simp <;> with_reducible rfl
          try simp only [Act.put, List.setIfInBounds_toArray, List.set_cons_zero, List.set_cons_succ]
          refine wpAnyH_done (by kernel_rfl) ?_ _
          exact ⟨bn, q, rfl, below_row HC3.out HBN.out _, HNW3.out.setRow _, HDq3.out.kept ⟨rfl, rfl, rfl, by simp [World.setRow], fun b _ hb => setRow_other _ _ b _ hb⟩⟩
        refine AllReadyH.cons rfl (fun K hK => ?_) ?_
        · obtain ⟨bn, hbn⟩ : ∃ q, v1.heap.size = q := ⟨_, rfl⟩
          go_simp
          (try rw [hbn])
          obtain ⟨v2, hv2⟩ : ∃ q, v1.alloc (Obj.cells #[.bool false, .slice none 0 0, .slice none 0 0, .slice none 0 0, .int .i64 0, .int .i64 0] 50) = q := ⟨_, rfl⟩
          (try rw [hv2])
          (try rw [show (v1.alloc (Obj.cells #[.bool false, .slice none 0 0, .slice none 0 0, .slice none 0 0, .int .i64 0, .int .i64 0] 50)).drew = v2 from hv2])
          have HC2 : Hid (Below W4.heap.size W4 v2) := by rw [← hv2]; exact HC1.out.alloc (HC1.out.size) _
          have HNW2 : Hid (Bx v2 bn #[.bool false, .slice none 0 0, .slice none 0 0, .slice none 0 0, .int .i64 0, .int .i64 0] 50) := by rw [← hv2]; exact Bx.new' (w := v1) hbn _ _
          have HBN : Hid (W4.heap.size ≤ bn) := by rw [Hid, ← hbn]; exact HC1.out.size
          clear hv2 hbn
          refine hK.out _ _ ((FS.out _ HC2.out)) (fun hHeld2 => ?_)
          clear hK K hHeld
          have hHeld := hHeld2
          clear hHeld2
          try simp only [Act.put, List.setIfInBounds_toArray, List.set_cons_zero, List.set_cons_succ]
          refine wpAnyH_ready (rs := [3]) (by kernel_rfl) (by simp) ?_
          refine AllReadyH.cons rfl (fun K hK => ?_) AllReadyH.nil
          have HLT : Hid (bn < v2.heap.size) := Array.getElem?_eq_some_iff.1 HNW2.out.h |>.1
          go_simp
          refine (KA.out _ HC2.out).mono ?_
          rintro e v3 ⟨q, rfl, hq, hb⟩
          have HC3 : Hid (Below W4.heap.size W4 v3) := HC2.out.trans (hb.mono HC2.out.size)
          have HNW3 : Hid (Bx v3 bn #[.bool false, .slice none 0 0, .slice none 0 0, .slice none 0 0, .int .i64 0, .int .i64 0] 50) := HNW2.out.below hb
          have HDq3 : Hid (Dc (fun b => b = bn) v3 q rb) := hq.dc _ (fun b hb => by rw [hb]; exact HLT.out)
          clear hb hq
          refine hK.out _ _ ((FS.out _ HC3.out)) (fun hHeld2 => ?_)
          clear hK K hHeld
          have hHeld := hHeld2
          clear hHeld2
          try simp only [Act.put, List.setIfInBounds_toArray, List.set_cons_zero, List.set_cons_succ]
          refine wpAnyH_take (i := 4) (oi := { dst := some 59, op := Go.Op.move (Go.Operand.tmp 63), type := 56, pos := "law.go:127", after := #[{ on := 3, ground := Go.Ground.data }], guard := none }) (v := ?_) rfl (by kernel_rfl) (by kernel_rfl) (by kernel_rfl) (fun _ _ _ h => h) (Or.inl ⟨by rfl, ?_⟩) hHeld ?_
          rotate_left
          · intro w hSw; (try dsimp only at hSw); go_simp <;> with_reducible rfl
          try simp only [Act.put, List.setIfInBounds_toArray, List.set_cons_zero, List.set_cons_succ]
          refine wpAnyH_take (i := 5) (oi := { dst := some 64, op := Go.Op.extract (Go.Operand.tmp 59) 0, type := 50, pos := "law.go:127", after := #[{ on := 4, ground := Go.Ground.data }], guard := none }) (v := ?_) rfl (by kernel_rfl) (by kernel_rfl) (by kernel_rfl) (fun _ _ _ h => h) (Or.inl ⟨by rfl, ?_⟩) hHeld ?_
          rotate_left
          · intro w hSw; (try dsimp only at hSw); go_simp <;> with_reducible rfl
          try simp only [Act.put, List.setIfInBounds_toArray, List.set_cons_zero, List.set_cons_succ]
          refine wpAnyH_take (i := 6) (oi := { dst := some 65, op := Go.Op.extract (Go.Operand.tmp 59) 1, type := 55, pos := "law.go:127", after := #[{ on := 4, ground := Go.Ground.data }, { on := 8, ground := Go.Ground.gcOnly Go.Departure.lateStores }], guard := none }) (v := ?_) rfl (by kernel_rfl) (by kernel_rfl) (by kernel_rfl) (fun _ _ _ h => h) (Or.inl ⟨by rfl, ?_⟩) hHeld ?_
          rotate_left
          · intro w hSw; (try dsimp only at hSw); go_simp <;> with_reducible rfl
          try simp only [Act.put, List.setIfInBounds_toArray, List.set_cons_zero, List.set_cons_succ]
          refine wpAnyH_ready (rs := [8]) (by kernel_rfl) (by simp) ?_
          refine AllReadyH.cons rfl (fun K hK => ?_) AllReadyH.nil
          refine stepR rfl 50 (.tmp 13) (.tmp 64) rfl bn q (by with_unfolding_all rfl) (by with_unfolding_all rfl) HNW3.out (by rfl) HDq3.out.len Tryz.sizeDom HDq3.out.one ?_
          refine hK.out _ _ ((FS.out _ (below_row HC3.out HBN.out _))) (fun hHeld2 => ?_)
          clear hK K hHeld
          have hHeld := hHeld2
          clear hHeld2
          try simp only [Act.put, List.setIfInBounds_toArray, List.set_cons_zero, List.set_cons_succ]
          refine wpAnyH_take (i := 9) (oi := { dst := some 14, op := Go.Op.assign (Go.Operand.tmp 65), type := 55, pos := "law.go:127", after := #[{ on := 6, ground := Go.Ground.data }, { on := 8, ground := Go.Ground.chain }, { on := 0, ground := Go.Ground.phase }, { on := 1, ground := Go.Ground.phase }, { on := 2, ground := Go.Ground.phase }, { on := 3, ground := Go.Ground.phase }, { on := 4, ground := Go.Ground.phase }, { on := 5, ground := Go.Ground.phase }, { on := 6, ground := Go.Ground.phase }, { on := 7, ground := Go.Ground.phase }, { on := 8, ground := Go.Ground.phase }], guard := none }) (v := ?_) rfl (by kernel_rfl) (by kernel_rfl) (by kernel_rfl) (fun _ _ _ h => h) (Or.inl ⟨by rfl, ?_⟩) hHeld ?_
          rotate_left
          · intro w hSw; (try dsimp only at hSw); go_simp <;> with_reducible rfl
          try simp only [Act.put, List.setIfInBounds_toArray, List.set_cons_zero, List.set_cons_succ]
          refine wpAnyH_done (by kernel_rfl) ?_ _
          exact ⟨bn, q, rfl, below_row HC3.out HBN.out _, HNW3.out.setRow _, HDq3.out.kept ⟨rfl, rfl, rfl, by simp [World.setRow], fun b _ hb => setRow_other _ _ b _ hb⟩⟩
        exact AllReadyH.nil
      refine AllReadyH.cons rfl (fun K hK => ?_) ?_
      · obtain ⟨bn, hbn⟩ : ∃ q, W4.heap.size = q := ⟨_, rfl⟩
        go_simp
        (try rw [hbn])
        obtain ⟨v1, hv1⟩ : ∃ q, W4.drew.alloc (Obj.cells #[.bool false, .slice none 0 0, .slice none 0 0, .slice none 0 0, .int .i64 0, .int .i64 0] 50) = q := ⟨_, rfl⟩
        (try rw [hv1])
        (try rw [show (W4.alloc (Obj.cells #[.bool false, .slice none 0 0, .slice none 0 0, .slice none 0 0, .int .i64 0, .int .i64 0] 50)).drew = v1 from hv1])
        have HC1 : Hid (Below W4.heap.size W4 v1) := by rw [← hv1]; exact HC0.out.alloc (HC0.out.size) _
        have HNW1 : Hid (Bx v1 bn #[.bool false, .slice none 0 0, .slice none 0 0, .slice none 0 0, .int .i64 0, .int .i64 0] 50) := by rw [← hv1]; exact Bx.new' (w := W4.drew) hbn _ _
        have HBN : Hid (W4.heap.size ≤ bn) := by rw [Hid, ← hbn]; exact Nat.le_refl _
        clear hv1 hbn
        refine hK.out _ _ ((FS.out _ HC1.out)) (fun hHeld2 => ?_)
        clear hK K hHeld
        have hHeld := hHeld2
        clear hHeld2
        try simp only [Act.put, List.setIfInBounds_toArray, List.set_cons_zero, List.set_cons_succ]
        refine wpAnyH_ready (rs := [2]) (by kernel_rfl) (by simp) ?_
        refine AllReadyH.cons rfl (fun K hK => ?_) AllReadyH.nil
        go_simp
        refine (KN.out _ HC1.out).mono ?_
        rintro e v2 ⟨rfl, hb⟩
        have HC2 : Hid (Below W4.heap.size W4 v2) := HC1.out.trans (hb.mono HC1.out.size)
        have HNW2 : Hid (Bx v2 bn #[.bool false, .slice none 0 0, .slice none 0 0, .slice none 0 0, .int .i64 0, .int .i64 0] 50) := HNW1.out.below hb
        clear hb
        refine hK.out _ _ ((FS.out _ HC2.out)) (fun hHeld2 => ?_)
        clear hK K hHeld
        have hHeld := hHeld2
        clear hHeld2
        try simp only [Act.put, List.setIfInBounds_toArray, List.set_cons_zero, List.set_cons_succ]
        refine wpAnyH_ready (rs := [3]) (by kernel_rfl) (by simp) ?_
        refine AllReadyH.cons rfl (fun K hK => ?_) AllReadyH.nil
        have HLT : Hid (bn < v2.heap.size) := Array.getElem?_eq_some_iff.1 HNW2.out.h |>.1
        go_simp
        refine (KA.out _ HC2.out).mono ?_
        rintro e v3 ⟨q, rfl, hq, hb⟩
        have HC3 : Hid (Below W4.heap.size W4 v3) := HC2.out.trans (hb.mono HC2.out.size)
        have HNW3 : Hid (Bx v3 bn #[.bool false, .slice none 0 0, .slice none 0 0, .slice none 0 0, .int .i64 0, .int .i64 0] 50) := HNW2.out.below hb
        have HDq3 : Hid (Dc (fun b => b = bn) v3 q rb) := hq.dc _ (fun b hb => by rw [hb]; exact HLT.out)
        clear hb hq
        refine hK.out _ _ ((FS.out _ HC3.out)) (fun hHeld2 => ?_)
        clear hK K hHeld
        have hHeld := hHeld2
        clear hHeld2
        try simp only [Act.put, List.setIfInBounds_toArray, List.set_cons_zero, List.set_cons_succ]
        refine wpAnyH_take (i := 4) (oi := { dst := some 59, op := Go.Op.move (Go.Operand.tmp 63), type := 56, pos := "law.go:127", after := #[{ on := 3, ground := Go.Ground.data }], guard := none }) (v := ?_) rfl (by kernel_rfl) (by kernel_rfl) (by kernel_rfl) (fun _ _ _ h => h) (Or.inl ⟨by rfl, ?_⟩) hHeld ?_
        rotate_left
        · intro w hSw; (try dsimp only at hSw); go_simp <;> with_reducible rfl
        try simp only [Act.put, List.setIfInBounds_toArray, List.set_cons_zero, List.set_cons_succ]
        refine wpAnyH_take (i := 5) (oi := { dst := some 64, op := Go.Op.extract (Go.Operand.tmp 59) 0, type := 50, pos := "law.go:127", after := #[{ on := 4, ground := Go.Ground.data }], guard := none }) (v := ?_) rfl (by kernel_rfl) (by kernel_rfl) (by kernel_rfl) (fun _ _ _ h => h) (Or.inl ⟨by rfl, ?_⟩) hHeld ?_
        rotate_left
        · intro w hSw; (try dsimp only at hSw); go_simp <;> with_reducible rfl
        try simp only [Act.put, List.setIfInBounds_toArray, List.set_cons_zero, List.set_cons_succ]
        refine wpAnyH_take (i := 6) (oi := { dst := some 65, op := Go.Op.extract (Go.Operand.tmp 59) 1, type := 55, pos := "law.go:127", after := #[{ on := 4, ground := Go.Ground.data }, { on := 8, ground := Go.Ground.gcOnly Go.Departure.lateStores }], guard := none }) (v := ?_) rfl (by kernel_rfl) (by kernel_rfl) (by kernel_rfl) (fun _ _ _ h => h) (Or.inl ⟨by rfl, ?_⟩) hHeld ?_
        rotate_left
        · intro w hSw; (try dsimp only at hSw); go_simp <;> with_reducible rfl
        try simp only [Act.put, List.setIfInBounds_toArray, List.set_cons_zero, List.set_cons_succ]
        refine wpAnyH_ready (rs := [8]) (by kernel_rfl) (by simp) ?_
        refine AllReadyH.cons rfl (fun K hK => ?_) AllReadyH.nil
        refine stepR rfl 50 (.tmp 13) (.tmp 64) rfl bn q (by with_unfolding_all rfl) (by with_unfolding_all rfl) HNW3.out (by rfl) HDq3.out.len Tryz.sizeDom HDq3.out.one ?_
        refine hK.out _ _ ((FS.out _ (below_row HC3.out HBN.out _))) (fun hHeld2 => ?_)
        clear hK K hHeld
        have hHeld := hHeld2
        clear hHeld2
        try simp only [Act.put, List.setIfInBounds_toArray, List.set_cons_zero, List.set_cons_succ]
        refine wpAnyH_take (i := 9) (oi := { dst := some 14, op := Go.Op.assign (Go.Operand.tmp 65), type := 55, pos := "law.go:127", after := #[{ on := 6, ground := Go.Ground.data }, { on := 8, ground := Go.Ground.chain }, { on := 0, ground := Go.Ground.phase }, { on := 1, ground := Go.Ground.phase }, { on := 2, ground := Go.Ground.phase }, { on := 3, ground := Go.Ground.phase }, { on := 4, ground := Go.Ground.phase }, { on := 5, ground := Go.Ground.phase }, { on := 6, ground := Go.Ground.phase }, { on := 7, ground := Go.Ground.phase }, { on := 8, ground := Go.Ground.phase }], guard := none }) (v := ?_) rfl (by kernel_rfl) (by kernel_rfl) (by kernel_rfl) (fun _ _ _ h => h) (Or.inl ⟨by rfl, ?_⟩) hHeld ?_
        rotate_left
        · intro w hSw; (try dsimp only at hSw); go_simp <;> with_reducible rfl
        try simp only [Act.put, List.setIfInBounds_toArray, List.set_cons_zero, List.set_cons_succ]
        refine wpAnyH_done (by kernel_rfl) ?_ _
        exact ⟨bn, q, rfl, below_row HC3.out HBN.out _, HNW3.out.setRow _, HDq3.out.kept ⟨rfl, rfl, rfl, by simp [World.setRow], fun b _ hb => setRow_other _ _ b _ hb⟩⟩
      exact AllReadyH.nil
    case hK =>
      rintro bn qb W5 ⟨hb5, hbx, hdq⟩
      obtain ⟨g0, s1, s2, s3, g4, g5, rfl⟩ := six_of2 hdq
      have HBB : Hid (Bx W5 bn #[.bool g0, .slice s1.1 s1.2.1 s1.2.2, .slice s2.1 s2.2.1 s2.2.2, .slice s3.1 s3.2.1 s3.2.2, .int .i64 g4, .int .i64 g5] 50) := hbx
      have HB45 : Hid (Below W4.heap.size W4 W5) := hb5
      have HB5 : Hid (Below W.heap.size W W5) := HB4.out.trans (hb5.mono HB4.out.size)
      have HX5 : Hid (Bx W5 P #[.int .i64 (vn : Int), .int .i64 op, .int .i64 nn] 32) := HX4.out.below hb5
      have HO5 : Hid (Bx W5 P3 #[.bool bo, .slice ra n0 rc, .slice a1 n1 cc1, .slice a2 n2 cc2, .int .i64 x, .int .i64 y] 50) := HO4.out.below hb5
      have HA5 : Hid (Bx W5 P4 #[.bool a0, .slice t1.1 t1.2.1 t1.2.2, .slice t2.1 t2.2.1 t2.2.2, .slice t3.1 t3.2.1 t3.2.2, .int .i64 a4, .int .i64 a5] 50) := HA4.out.below hb5
      have HDW5 : Hid (Dw (fun _ => False) W5 (ptr q) R2) := HDW4.out.below hb5
      have KSA : Hid (∀ w, Below W5.heap.size W5 w → Calls Tryz.prog 31 #[.agg #[.bool a0, .slice t1.1 t1.2.1 t1.2.2, .slice t2.1 t2.2.1 t2.2.2, .slice t3.1 t3.2.1 t3.2.2, .int .i64 a4, .int .i64 a5]] w fun e w' => e = .returned (.int .i64 (sizA rA)) ∧ Below w.heap.size w w') := fun w hb => rsize_d ((HDA.out.below HB45.out).below hb)
      have KSB : Hid (∀ w, Below W5.heap.size W5 w → Calls Tryz.prog 31 #[.agg #[.bool g0, .slice s1.1 s1.2.1 s1.2.2, .slice s2.1 s2.2.1 s2.2.2, .slice s3.1 s3.2.1 s3.2.2, .int .i64 g4, .int .i64 g5]] w fun e w' => e = .returned (.int .i64 (sizA rb)) ∧ Below w.heap.size w w') := fun w hb => rsize_d (hdq.below hb)
      clear hbx hdq hb5 FS HC0 KN KA HDA HX4 HO4 HA4 HDW4 HX3 HO3 HDW3 HX2 HDW2 HW4 HW3 HW2 HB4 HB3 HB2 HE0 HRB
      generalize sizA rA = sa at *
      generalize sizA rb = sb at *
      have hsa : (sa == 0) = false := by simpa using HSA.out
      obtain ⟨z0, z1, z2, z3, z4, z5⟩ := HA5.out.six
      by_cases hb0 : sb = 0
      · subst hb0
        have hn4 : ¬ (n0 : Int) < 4095 := fun h => HSB.out (by omega) rfl
        have hn4' : decide ((n0 : Int) < 4095) = false := by simpa using hn4
        go_wp2_with fail
        refine (KSA.out _ (Below.refl _ _)).mono ?_
        clear z0 z1 z2 z3 z4 z5
        rintro e w6 ⟨rfl, hb6⟩
        have HB6 : Hid (Below W5.heap.size W5 w6) := hb6
        clear hb6
        obtain ⟨z0, z1, z2, z3, z4, z5⟩ := (HBB.out.below HB6.out).six
        go_wp2_with fail
        refine (KSB.out _ HB6.out).mono ?_
        clear z0 z1 z2 z3 z4 z5
        rintro e w7 ⟨rfl, hb7⟩
        have HB7 : Hid (Below W5.heap.size W5 w7) := HB6.out.trans (hb7.mono HB6.out.size)
        clear hb7
        obtain ⟨z0, z1, z2, z3, z4, z5⟩ := (HO5.out.below HB7.out).six
        have HDW7 : Hid (Dw (fun _ => False) w7 (ptr q) R2) := HDW5.out.below HB7.out
        have HX7 : Hid (Bx w7 P #[.int .i64 (vn : Int), .int .i64 op, .int .i64 nn] 32) := HX5.out.below HB7.out
        have HBW7 : Hid (Below W.heap.size W w7) := HB5.out.trans (HB7.out.mono HB5.out.size)
        clear HA5 HBB HO5 KSA KSB HX5 HDW5 HB45
        go_wp2
        go_loopw [15] (fun i wr => ∃ k : Nat, i = .int .i64 (k : Int) ∧ k ≤ n ∧ Hid (Below w7.heap.size w7 wr) ∧ Hid (∀ (j : Nat) (p : Ph), j < k → L[j]? = some p → p.sel ≠ 5 ∧ p.val ≠ 5)) (fun i _ => n - (intOf i).toNat)
        case atStart => exact ⟨0, rfl, Nat.zero_le _, Below.refl _ _, fun j p hj _ => absurd hj (by omega)⟩
        case round =>
          obtain ⟨k, rfl, hk, HBr, HJ⟩ := hrel
          clear z0 z1 z2 z3 z4 z5
          have HBWr : Hid (Below W.heap.size W wr) := HBW7.out.trans (HBr.out.mono HBW7.out.size)
          by_cases hlt : k < n
          · have hlt' : (k : Int) < (n : Int) := by omega
            have hwk : IntKind.i64.wrap ((k : Int) + 1) = (k : Int) + 1 := by rw [IntKind.wrap_i64]; omega
            obtain ⟨p, hp⟩ : ∃ p, L[k]? = some p := ⟨_, List.getElem?_eq_getElem (by rw [HNL.out]; exact hlt)⟩
            obtain ⟨bp, offp, rfl, hbp, _, pv, kv, _, i0, i1, i2⟩ := HP.out.at hp
            have g1 := (HBWr.out.cell (p := ⟨bp, offp + k * 3 + 1, none⟩) hbp).trans i1
            have g2 := (HBWr.out.cell (p := ⟨bp, offp + k * 3 + 2, none⟩) hbp).trans i2
            have HPP : Hid (L[k]? = some p) := hp
            obtain ⟨ps, hps⟩ : ∃ q, p.sel = q := ⟨_, rfl⟩
            obtain ⟨pl, hpl⟩ : ∃ q, p.val = q := ⟨_, rfl⟩
            rw [hps] at g1
            rw [hpl] at g2
            have HPS : Hid (p.sel = ps ∧ p.val = pl) := ⟨hps, hpl⟩
            clear hp i0 i1 i2 hps hpl
            by_cases h5 : ps = 5
            · subst h5
              go_wp2_with fail
              refine (HKN.out _ HBWr.out).mono ?_
              rintro e w8 ⟨rfl, hb8⟩
              go_wp2
              go_ret
              exact ⟨rfl, hb8⟩
            · have h5' : (ps == 5) = false := by simpa using h5
              by_cases h6 : pl = 5
              · subst h6
                go_wp2_with fail
                refine (HKN.out _ HBWr.out).mono ?_
                rintro e w8 ⟨rfl, hb8⟩
                go_wp2
                go_ret
                exact ⟨rfl, hb8⟩
              · have h6' : (pl == 5) = false := by simpa using h6
                go_wp2
                go_roundw
                case rel =>
                  refine ⟨k + 1, by go_num, by omega, HBr.out, fun j p' hj hp' => ?_⟩
                  rcases Nat.lt_or_ge j k with q1 | q1
                  · exact HJ.out j p' q1 hp'
                  · obtain rfl : j = k := by omega
                    rw [HPP.out] at hp'
                    injection hp' with hp'
                    subst hp'
                    rw [HPS.out.1, HPS.out.2]
                    exact ⟨h5, h6⟩
                case measure => simp [intOf]; omega
          · have hlt' : ¬ (k : Int) < (n : Int) := by omega
            have hall : ∀ p ∈ L, p.sel ≠ 5 ∧ p.val ≠ 5 := fun p hp => by
              obtain ⟨j, hj, rfl⟩ := List.mem_iff_getElem.1 hp
              exact HJ.out j _ (by rw [HNL.out] at hj; omega) (List.getElem?_eq_getElem hj)
            obtain ⟨eR, eC⟩ := hcp.out hall
            have kc2 := choose_any (X := fun _ => False) (rv := .pointer none) (R := []) HP.out HD.out HBWr.out HG.out HZ.out (.inl ⟨rfl, rfl⟩) (fun b hb => by cases hb)
            rw [← eC] at kc2
            dsimp only at kc2
            have HER : Hid (R2 = R) := eR
            clear eR eC hall hcp
            go_upto_region 19 with (fail)
            go_wp2_with fail
            refine kc2.mono ?_
            clear kc2
            rintro e w8 ⟨rfl, _, hk8⟩
            have HBr8 : Hid (Below w7.heap.size w7 w8) := HBr.out.trans ((hk8.below (B := wr.heap.size) (Nat.le_refl _) (fun b hb => by cases hb)).mono HBr.out.size)
            clear hk8
            obtain ⟨P9, hP9⟩ : ∃ q, w8.heap.size = q := ⟨_, rfl⟩
            obtain ⟨W9, hW9⟩ : ∃ Q, w8.alloc (Obj.cells #[.int .i64 (vn : Int), .int .i64 op, .int .i64 nn] 32) = Q := ⟨_, rfl⟩
            have HX9 : Hid (Bx W9 P9 #[.int .i64 (vn : Int), .int .i64 op, .int .i64 nn] 32) := by rw [← hW9]; exact Bx.new' hP9 _ _
            have HB9 : Hid (Below w7.heap.size w7 W9) := by rw [← hW9]; exact HBr8.out.alloc HBr8.out.size _
            have HXX : Hid (Bx W9 P #[.int .i64 (vn : Int), .int .i64 op, .int .i64 nn] 32) := HX7.out.below HB9.out
            have HDW9 : Hid (Dw (fun _ => False) W9 (ptr q) R2) := HDW7.out.below HB9.out
            have HBW9 : Hid (Below W.heap.size W W9) := HBW7.out.trans (HB9.out.mono HBW7.out.size)
            have kl : Calls Tryz.prog 15 #[ptr q] W9 fun e w' => e = .returned (.int .i64 (nr : Int)) ∧ w' = W9 := by
              rcases HDW9.out with ⟨h, _⟩ | ⟨p', e', hdr⟩
              · cases h
              · obtain rfl : q = p' := by cases e'; rfl
                have := left_any hdr
                rw [HER.out, HNR.out] at this
                exact this
            have HW9 : Hid _ := hW9
            have hEq := eqlDecB (vn : Int) op nn
            clear hW9
            go_upto_region 20 with (fail)
            rw [HW9.out]
            clear hP9
            obtain ⟨x0, x1, x2⟩ := HXX.out.three
            obtain ⟨y0, y1, y2⟩ := HX9.out.three
            go_wp2_with fail
            refine kl.mono ?_
            clear kl
            rintro e w10 ⟨rfl, hw10⟩
            rw [hw10]
            clear hw10 w10 x0 x1 x2 y0 y1 y2
            go_wp2_with fail
            refine (HKN.out _ HBW9.out).mono ?_
            rintro e w11 ⟨rfl, hb11⟩
            go_wp2
            go_ret
            exact ⟨rfl, hb11⟩
      · have hsb : (sb == 0) = false := by simpa using hb0
        go_wp2_with fail
        refine (KSA.out _ (Below.refl _ _)).mono ?_
        clear z0 z1 z2 z3 z4 z5
        rintro e w6 ⟨rfl, hb6⟩
        have HB6 : Hid (Below W5.heap.size W5 w6) := hb6
        clear hb6
        obtain ⟨z0, z1, z2, z3, z4, z5⟩ := (HBB.out.below HB6.out).six
        go_wp2_with fail
        refine (KSB.out _ HB6.out).mono ?_
        clear z0 z1 z2 z3 z4 z5
        rintro e w7 ⟨rfl, hb7⟩
        have HB7 : Hid (Below W5.heap.size W5 w7) := HB6.out.trans (hb7.mono HB6.out.size)
        clear hb7
        obtain ⟨z0, z1, z2, z3, z4, z5⟩ := (HO5.out.below HB7.out).six
        have HDW7 : Hid (Dw (fun _ => False) w7 (ptr q) R2) := HDW5.out.below HB7.out
        have HX7 : Hid (Bx w7 P #[.int .i64 (vn : Int), .int .i64 op, .int .i64 nn] 32) := HX5.out.below HB7.out
        have HBW7 : Hid (Below W.heap.size W w7) := HB5.out.trans (HB7.out.mono HB5.out.size)
        clear HA5 HBB HO5 KSA KSB HX5 HDW5 HB45
        go_wp2
        go_loopw [15] (fun i wr => ∃ k : Nat, i = .int .i64 (k : Int) ∧ k ≤ n ∧ Hid (Below w7.heap.size w7 wr) ∧ Hid (∀ (j : Nat) (p : Ph), j < k → L[j]? = some p → p.sel ≠ 5 ∧ p.val ≠ 5)) (fun i _ => n - (intOf i).toNat)
        case atStart => exact ⟨0, rfl, Nat.zero_le _, Below.refl _ _, fun j p hj _ => absurd hj (by omega)⟩
        case round =>
          obtain ⟨k, rfl, hk, HBr, HJ⟩ := hrel
          clear z0 z1 z2 z3 z4 z5
          have HBWr : Hid (Below W.heap.size W wr) := HBW7.out.trans (HBr.out.mono HBW7.out.size)
          by_cases hlt : k < n
          · have hlt' : (k : Int) < (n : Int) := by omega
            have hwk : IntKind.i64.wrap ((k : Int) + 1) = (k : Int) + 1 := by rw [IntKind.wrap_i64]; omega
            obtain ⟨p, hp⟩ : ∃ p, L[k]? = some p := ⟨_, List.getElem?_eq_getElem (by rw [HNL.out]; exact hlt)⟩
            obtain ⟨bp, offp, rfl, hbp, _, pv, kv, _, i0, i1, i2⟩ := HP.out.at hp
            have g1 := (HBWr.out.cell (p := ⟨bp, offp + k * 3 + 1, none⟩) hbp).trans i1
            have g2 := (HBWr.out.cell (p := ⟨bp, offp + k * 3 + 2, none⟩) hbp).trans i2
            have HPP : Hid (L[k]? = some p) := hp
            obtain ⟨ps, hps⟩ : ∃ q, p.sel = q := ⟨_, rfl⟩
            obtain ⟨pl, hpl⟩ : ∃ q, p.val = q := ⟨_, rfl⟩
            rw [hps] at g1
            rw [hpl] at g2
            have HPS : Hid (p.sel = ps ∧ p.val = pl) := ⟨hps, hpl⟩
            clear hp i0 i1 i2 hps hpl
            by_cases h5 : ps = 5
            · subst h5
              go_wp2_with fail
              refine (HKN.out _ HBWr.out).mono ?_
              rintro e w8 ⟨rfl, hb8⟩
              go_wp2
              go_ret
              exact ⟨rfl, hb8⟩
            · have h5' : (ps == 5) = false := by simpa using h5
              by_cases h6 : pl = 5
              · subst h6
                go_wp2_with fail
                refine (HKN.out _ HBWr.out).mono ?_
                rintro e w8 ⟨rfl, hb8⟩
                go_wp2
                go_ret
                exact ⟨rfl, hb8⟩
              · have h6' : (pl == 5) = false := by simpa using h6
                go_wp2
                go_roundw
                case rel =>
                  refine ⟨k + 1, by go_num, by omega, HBr.out, fun j p' hj hp' => ?_⟩
                  rcases Nat.lt_or_ge j k with q1 | q1
                  · exact HJ.out j p' q1 hp'
                  · obtain rfl : j = k := by omega
                    rw [HPP.out] at hp'
                    injection hp' with hp'
                    subst hp'
                    rw [HPS.out.1, HPS.out.2]
                    exact ⟨h5, h6⟩
                case measure => simp [intOf]; omega
          · have hlt' : ¬ (k : Int) < (n : Int) := by omega
            have hall : ∀ p ∈ L, p.sel ≠ 5 ∧ p.val ≠ 5 := fun p hp => by
              obtain ⟨j, hj, rfl⟩ := List.mem_iff_getElem.1 hp
              exact HJ.out j _ (by rw [HNL.out] at hj; omega) (List.getElem?_eq_getElem hj)
            obtain ⟨eR, eC⟩ := hcp.out hall
            have kc2 := choose_any (X := fun _ => False) (rv := .pointer none) (R := []) HP.out HD.out HBWr.out HG.out HZ.out (.inl ⟨rfl, rfl⟩) (fun b hb => by cases hb)
            rw [← eC] at kc2
            dsimp only at kc2
            have HER : Hid (R2 = R) := eR
            clear eR eC hall hcp
            go_upto_region 19 with (fail)
            go_wp2_with fail
            refine kc2.mono ?_
            clear kc2
            rintro e w8 ⟨rfl, _, hk8⟩
            have HBr8 : Hid (Below w7.heap.size w7 w8) := HBr.out.trans ((hk8.below (B := wr.heap.size) (Nat.le_refl _) (fun b hb => by cases hb)).mono HBr.out.size)
            clear hk8
            obtain ⟨P9, hP9⟩ : ∃ q, w8.heap.size = q := ⟨_, rfl⟩
            obtain ⟨W9, hW9⟩ : ∃ Q, w8.alloc (Obj.cells #[.int .i64 (vn : Int), .int .i64 op, .int .i64 nn] 32) = Q := ⟨_, rfl⟩
            have HX9 : Hid (Bx W9 P9 #[.int .i64 (vn : Int), .int .i64 op, .int .i64 nn] 32) := by rw [← hW9]; exact Bx.new' hP9 _ _
            have HB9 : Hid (Below w7.heap.size w7 W9) := by rw [← hW9]; exact HBr8.out.alloc HBr8.out.size _
            have HXX : Hid (Bx W9 P #[.int .i64 (vn : Int), .int .i64 op, .int .i64 nn] 32) := HX7.out.below HB9.out
            have HDW9 : Hid (Dw (fun _ => False) W9 (ptr q) R2) := HDW7.out.below HB9.out
            have HBW9 : Hid (Below W.heap.size W W9) := HBW7.out.trans (HB9.out.mono HBW7.out.size)
            have kl : Calls Tryz.prog 15 #[ptr q] W9 fun e w' => e = .returned (.int .i64 (nr : Int)) ∧ w' = W9 := by
              rcases HDW9.out with ⟨h, _⟩ | ⟨p', e', hdr⟩
              · cases h
              · obtain rfl : q = p' := by cases e'; rfl
                have := left_any hdr
                rw [HER.out, HNR.out] at this
                exact this
            have HW9 : Hid _ := hW9
            have hEq := eqlDecB (vn : Int) op nn
            clear hW9
            go_upto_region 20 with (fail)
            rw [HW9.out]
            clear hP9
            obtain ⟨x0, x1, x2⟩ := HXX.out.three
            obtain ⟨y0, y1, y2⟩ := HX9.out.three
            go_wp2_with fail
            refine kl.mono ?_
            clear kl
            rintro e w10 ⟨rfl, hw10⟩
            rw [hw10]
            clear hw10 w10 x0 x1 x2 y0 y1 y2
            go_wp2_with fail
            refine (HKN.out _ HBW9.out).mono ?_
            rintro e w11 ⟨rfl, hb11⟩
            go_wp2
            go_ret
            exact ⟨rfl, hb11⟩
end Go.Proofs.YthkliicmoandmaaGreatDoor
