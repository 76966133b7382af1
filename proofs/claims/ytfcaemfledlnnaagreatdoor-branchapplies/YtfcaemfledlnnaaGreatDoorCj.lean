/-
  What is proved here: the walk of BranchApplies.
-/
import Derived.Test.YtfcaemfledlnnaaGreatDoorCi
import Derived.Test.YtfcaemfledlnnaaGreatDoorBjj
import Derived.Laws.StructEq
namespace Go.Proofs.YtfcaemfledlnnaaGreatDoor
open Go.RowKit Go.Shelf
set_option linter.unusedVariables false
set_option linter.unusedSimpArgs false

theorem eqDec (x0 x1 x2 : Int) (w : World) : (Op.equal 35 (.agg #[.int .i64 x0, .int .i64 x1, .int .i64 x2]) (.agg #[.int .i64 x0, .int .i64 x1, .int .i64 x2])).run Tryz.prog w = .ok true w := by
  have u2 := Tryz.underlying2
  have a2 := Tryz.isAgg2
  have z2 := Tryz.sizeOf2
  have u3 := Tryz.underlying3
  have a3 := Tryz.isAgg3
  have z3 := Tryz.sizeOf3
  have hS : Tryz.prog.underlying 35 = some (.struct (Tryz.prog.fieldsOf 35)) := by kernel_rfl
  have hp : Tryz.prog.stoodInHeld 35 = false := by kernel_rfl
  unfold Op.equal Op.maxDepth
  rw [show (10000 : Nat) = 9999 + 1 from rfl, run_equalIn_agg w 9999 35 _ _ hS hp]
  simp only [Program.fieldsOf, Tryz.underlying35]
  go_simp
theorem eqlDec (x0 x1 x2 : Int) (w : World) :
    (binOp .eql 35 (.agg #[.int .i64 x0, .int .i64 x1, .int .i64 x2]) (.agg #[.int .i64 x0, .int .i64 x1, .int .i64 x2])).run Tryz.prog w = .ok (.bool true) w := by
  have he := eqDec x0 x1 x2 w
  simp [binOp, run_underlying Tryz.underlying35, he, go_sem]
theorem six_of {X : Nat → Prop} {w : World} {q : List Value} {d : MD} (h : Dc X w q d) : ∃ (b : Bool) (s1 s2 s3 : Option Addr × Nat × Nat) (x y : Int), q = [.bool b, .slice s1.1 s1.2.1 s1.2.2, .slice s2.1 s2.2.1 s2.2.2, .slice s3.1 s3.2.1 s3.2.2, .int .i64 x, .int .i64 y] := by
  obtain ⟨ra, rc, a1, c1, a2, c2, e, _⟩ := h
  exact ⟨_, (ra, _, rc), (a1, _, c1), (a2, _, c2), _, _, e⟩

set_option maxRecDepth 100000 in
set_option maxHeartbeats 4000000 in
theorem applies_walk {X : Nat → Prop} {W : World} {c k : List Value} {d : MD} {st : Bool} {vn : Int} {vs : List Int} (v op n : Int) (h : Dc X W c d) (hf : Dm.FitsR d.r) (hz : SzD d) (hv : Dm.Fits v) (hn : Dm.Fits n) (hk : Vc W k st vn vs) (hT : Tens W) :
    Calls Tryz.prog 4 #[.agg #[.int .i64 v, .int .i64 op, .int .i64 n], .agg c.toArray, .agg k.toArray] W fun e w' => e = .returned (.bool true) ∧ Below W.heap.size W w' := by
  obtain ⟨N, hN⟩ : ∃ N, W.heap.size = N := ⟨_, rfl⟩
  have hlen := h.len
  obtain ⟨c0, c1, c2, c3, c4, c5, rfl⟩ := list6 hlen
  obtain ⟨pv, kv, rfl, -⟩ := id hk
  obtain ⟨nv, hnv⟩ : ∃ q, vs.length = q := ⟨_, rfl⟩
  rw [hnv] at hk ⊢
  obtain ⟨W0, hW0⟩ : ∃ Q, ((W.alloc (Obj.cells #[.int .i64 v, .int .i64 op, .int .i64 n] 35)).alloc (Obj.cells #[c0, c1, c2, c3, c4, c5] 50)).alloc (Obj.cells #[.bool st, .int .i64 vn, .slice pv nv kv] 52) = Q := ⟨_, rfl⟩
  have hb0 : Below W.heap.size W W0 := by rw [← hW0]; exact (((Below.refl _ W).alloc (Nat.le_refl _) _).alloc (by simp) _).alloc (by simp; omega) _
  have HQ : Hid (Bx W0 N #[.int .i64 v, .int .i64 op, .int .i64 n] 35) := by rw [← hW0]; exact ((Bx.new' hN _ _).alloc _).alloc _
  have HX : Hid (Bx W0 (N + 1) #[c0, c1, c2, c3, c4, c5] 50) := by rw [← hW0]; exact (Bx.new' (by simp [hN]) _ _).alloc _
  have HV : Hid (Bx W0 (N + 1 + 1) #[.bool st, .int .i64 vn, .slice pv nv kv] 52) := by rw [← hW0]; exact Bx.new' (by simp [hN]) _ _
  have HB0 : Hid (Below W.heap.size W W0) := hb0
  have HC : Hid (∀ w, Below W0.heap.size W0 w → Dc X w [c0, c1, c2, c3, c4, c5] d) := fun w hb => (h.below hb0).below hb
  have HK : Hid (∀ w, Below W0.heap.size W0 w → Vc w [.bool st, .int .i64 vn, .slice pv nv kv] st vn vs) := fun w hb => (hk.below hb0).below hb
  have HT : Hid (∀ w, Below W0.heap.size W0 w → Tens w) := fun w hb => (hT.self hb0).self hb
  have HW0 : Hid _ := hW0
  have HN : Hid (W.heap.size = N) := hN
  have HZ : Hid (SzD d) := hz
  have HF : Hid (Dm.FitsR d.r) := hf
  have HFV : Hid (Dm.Fits v) := hv
  have HFN : Hid (Dm.Fits n) := hn
  have kl := lent_d (h.below hb0) hz
  clear h hf hz hv hn hk hT hW0 hb0 hlen hnv
  obtain ⟨y0, y1, y2⟩ := HQ.out.three
  obtain ⟨z0, z1, z2, z3, z4, z5⟩ := HX.out.six
  go_enter Tryz.func4, Tryz.ntmps4
  go_upto_region 1 with (fail)
  rw [HW0.out]
  clear hN
  go_wp2_with fail
  refine kl.mono ?_
  clear kl y0 y1 y2 z0 z1 z2 z3 z4 z5
  rintro e w1 ⟨q, rfl, hd1, hb1⟩
  obtain ⟨b0, s1, s2, s3, x4, x5, rfl⟩ := six_of hd1
  have HD1 : Hid (Dc _ w1 _ d) := hd1
  have HB1 : Hid (Below W0.heap.size W0 w1) := hb1
  clear hd1 hb1
  obtain ⟨P1, hP1⟩ : ∃ q, w1.heap.size = q := ⟨_, rfl⟩
  obtain ⟨W1, hW1⟩ : ∃ Q, w1.alloc (Obj.cells #[.bool b0, .slice s1.1 s1.2.1 s1.2.2, .slice s2.1 s2.2.1 s2.2.2, .slice s3.1 s3.2.1 s3.2.2, .int .i64 x4, .int .i64 x5] 50) = Q := ⟨_, rfl⟩
  have hbw1 : Below w1.heap.size w1 W1 := by rw [← hW1]; exact (Below.refl _ _).alloc (Nat.le_refl _) _
  have HO1 : Hid (Bx W1 P1 #[.bool b0, .slice s1.1 s1.2.1 s1.2.2, .slice s2.1 s2.2.1 s2.2.2, .slice s3.1 s3.2.1 s3.2.2, .int .i64 x4, .int .i64 x5] 50) := by rw [← hW1]; exact Bx.new' hP1 _ _
  have HB01 : Hid (Below W0.heap.size W0 W1) := HB1.out.trans (hbw1.mono HB1.out.size)
  have HD1' : Hid (Dc _ W1 _ d) := HD1.out.below hbw1
  have HW1 : Hid _ := hW1
  have HP1 : Hid _ := hP1
  clear hW1 hbw1
  go_upto_region 2 with (fail)
  rw [HW1.out]
  clear hP1
  obtain ⟨y0, y1, y2⟩ := (HQ.out.below HB01.out).three
  go_wp2_with fail
  refine (given_any v op n W1).mono ?_
  clear y0 y1 y2
  rintro e w2 ⟨rfl, hb2⟩
  obtain ⟨P2, hP2⟩ : ∃ q, w2.heap.size = q := ⟨_, rfl⟩
  obtain ⟨W2, hW2⟩ : ∃ Q, w2.alloc (Obj.cells #[.int .i64 v, .int .i64 op, .int .i64 n] 32) = Q := ⟨_, rfl⟩
  have hbw2 : Below w2.heap.size w2 W2 := by rw [← hW2]; exact (Below.refl _ _).alloc (Nat.le_refl _) _
  have HY2 : Hid (Bx W2 P2 #[.int .i64 v, .int .i64 op, .int .i64 n] 32) := by rw [← hW2]; exact Bx.new' hP2 _ _
  have hb12 : Below W1.heap.size W1 W2 := hb2.trans (hbw2.mono hb2.size)
  have HB02' : Hid (Below W0.heap.size W0 W2) := HB01.out.trans (hb12.mono HB01.out.size)
  have HO : Hid (Bx W2 P1 _ 50) := HO1.out.below hb12
  have HDO : Hid (Dc _ W2 _ d) := HD1'.out.below hb12
  have HX2 : Hid (Bx W2 (N + 1) _ 50) := HX.out.below HB02'.out
  have HB02 : Hid (Below W.heap.size W W2) := HB0.out.trans (HB02'.out.mono HB0.out.size)
  have HW2 : Hid _ := hW2
  clear hW2 hb2 hbw2 hb12
  go_upto_region 3 with (fail)
  rw [HW2.out]
  clear hP2
  have ka := apply_any v op n HDO.out HF.out HFN.out
  have kr := rapply_any (W := W2) v op n (HC.out W2 HB02'.out) HF.out HFN.out
  clear kr
  have HSZ : Hid (SzD (resM d op n).1) := res_sz
  have HRA0 : Hid (∀ w, Below W0.heap.size W0 w → Calls Tryz.prog 21 #[.agg #[c0, c1, c2, c3, c4, c5], .agg #[.int .i64 v, .int .i64 op, .int .i64 n]] w fun e w' => ∃ q : List Value, e = .returned (.tuple #[.agg q.toArray, .int .i64 (resM d op n).2]) ∧ Ans w.heap.size w' q (resM d op n).1 ∧ Below w.heap.size w w') := fun w hb => rapply_any v op n (HC.out w hb) HF.out HFN.out
  obtain ⟨rd, hrd⟩ : ∃ q, (resM d op n).1 = q := ⟨_, rfl⟩
  obtain ⟨re, hre⟩ : ∃ q, (resM d op n).2 = q := ⟨_, rfl⟩
  rw [hrd] at HSZ
  rw [hrd, hre] at ka HRA0
  clear hrd hre
  obtain ⟨z0, z1, z2, z3, z4, z5⟩ := HO.out.six
  obtain ⟨y0, y1, y2⟩ := HY2.out.three
  go_wp2_with fail
  refine ka.mono ?_
  clear ka z0 z1 z2 z3 z4 z5 y0 y1 y2
  rintro e w3 ⟨qa, rfl, hans, hb3⟩
  obtain ⟨a0, t1, t2, t3, a4, a5, rfl⟩ := six_of (hans.dc (fun _ => False) (fun _ h => h.elim))
  obtain ⟨P3, hP3⟩ : ∃ q, w3.heap.size = q := ⟨_, rfl⟩
  obtain ⟨W3, hW3⟩ : ∃ Q, w3.alloc (Obj.cells #[.bool a0, .slice t1.1 t1.2.1 t1.2.2, .slice t2.1 t2.2.1 t2.2.2, .slice t3.1 t3.2.1 t3.2.2, .int .i64 a4, .int .i64 a5] 50) = Q := ⟨_, rfl⟩
  have hbw3 : Below w3.heap.size w3 W3 := by rw [← hW3]; exact (Below.refl _ _).alloc (Nat.le_refl _) _
  have HA3 : Hid (Bx W3 P3 #[.bool a0, .slice t1.1 t1.2.1 t1.2.2, .slice t2.1 t2.2.1 t2.2.2, .slice t3.1 t3.2.1 t3.2.2, .int .i64 a4, .int .i64 a5] 50) := by rw [← hW3]; exact Bx.new' hP3 _ _
  have HB23 : Hid (Below W2.heap.size W2 W3) := hb3.trans (hbw3.mono hb3.size)
  have HANS3 : Hid (Ans W2.heap.size W3 _ rd) := hans.below hbw3
  have HB03 : Hid (Below W0.heap.size W0 W3) := HB02'.out.trans (HB23.out.mono HB02'.out.size)
  have HW3 : Hid _ := hW3
  clear hW3 hb3 hbw3 hans
  go_upto_region 4 with (fail)
  rw [HW3.out]
  clear hP3
  obtain ⟨z0, z1, z2, z3, z4, z5⟩ := (HX.out.below HB03.out).six
  obtain ⟨y0, y1, y2⟩ := (HQ.out.below HB03.out).three
  go_wp2_with fail
  refine (HRA0.out W3 HB03.out).mono ?_
  clear z0 z1 z2 z3 z4 z5 y0 y1 y2
  rintro e w4 ⟨qr, rfl, hans, hb4⟩
  obtain ⟨r0, m1, m2, m3, r4, r5, rfl⟩ := six_of (hans.dc (fun _ => False) (fun _ h => h.elim))
  obtain ⟨P4, hP4⟩ : ∃ q, w4.heap.size = q := ⟨_, rfl⟩
  obtain ⟨W4, hW4⟩ : ∃ Q, w4.alloc (Obj.cells #[.bool r0, .slice m1.1 m1.2.1 m1.2.2, .slice m2.1 m2.2.1 m2.2.2, .slice m3.1 m3.2.1 m3.2.2, .int .i64 r4, .int .i64 r5] 50) = Q := ⟨_, rfl⟩
  have hbw4 : Below w4.heap.size w4 W4 := by rw [← hW4]; exact (Below.refl _ _).alloc (Nat.le_refl _) _
  have HRA : Hid (Bx W4 P4 #[.bool r0, .slice m1.1 m1.2.1 m1.2.2, .slice m2.1 m2.2.1 m2.2.2, .slice m3.1 m3.2.1 m3.2.2, .int .i64 r4, .int .i64 r5] 50) := by rw [← hW4]; exact Bx.new' hP4 _ _
  have HB34 : Hid (Below W3.heap.size W3 W4) := hb4.trans (hbw4.mono hb4.size)
  have HANS4 : Hid (Ans W3.heap.size W4 _ rd) := hans.below hbw4
  have HANSA : Hid (Ans W2.heap.size W4 _ rd) := HANS3.out.below HB34.out
  have HA : Hid (Bx W4 P3 _ 50) := HA3.out.below HB34.out
  have HB24 : Hid (Below W2.heap.size W2 W4) := HB23.out.trans (HB34.out.mono HB23.out.size)
  have HB04 : Hid (Below W0.heap.size W0 W4) := HB03.out.trans (HB34.out.mono HB03.out.size)
  have HY : Hid (Bx W4 P2 _ 32) := HY2.out.below HB24.out
  have HQ4 : Hid (Bx W4 N _ 35) := HQ.out.below HB04.out
  have HV4 : Hid (Bx W4 (N + 1 + 1) _ 52) := HV.out.below HB04.out
  have HW4 : Hid _ := hW4
  clear hW4 hb4 hbw4 hans
  go_upto_region 5 with (fail)
  rw [HW4.out]
  clear hP4
  have HONE : Hid (∀ w, Below W4.heap.size W4 w → Calls Tryz.prog 22 #[.agg #[.bool a0, .slice t1.1 t1.2.1 t1.2.2, .slice t2.1 t2.2.1 t2.2.2, .slice t3.1 t3.2.1 t3.2.2, .int .i64 a4, .int .i64 a5], .agg #[.bool r0, .slice m1.1 m1.2.1 m1.2.2, .slice m2.1 m2.2.1 m2.2.2, .slice m3.1 m3.2.1 m3.2.2, .int .i64 r4, .int .i64 r5]] w fun e w' => e = .returned (.bool true) ∧ Below w.heap.size w w') := fun w hb => one_d ((HANSA.out.below hb).dc (fun _ => False) (fun _ h => h.elim)) ((HANS4.out.below hb).dc (fun _ => False) (fun _ h => h.elim)) HSZ.out
  have HONE2 : Hid (∀ w, Below W2.heap.size W2 w → Calls Tryz.prog 22 #[.agg #[.bool b0, .slice s1.1 s1.2.1 s1.2.2, .slice s2.1 s2.2.1 s2.2.2, .slice s3.1 s3.2.1 s3.2.2, .int .i64 x4, .int .i64 x5], .agg #[c0, c1, c2, c3, c4, c5]] w fun e w' => e = .returned (.bool true) ∧ Below w.heap.size w w') := fun w hb => one_d (HDO.out.below hb) (HC.out w (HB02'.out.trans (hb.mono HB02'.out.size))) HZ.out
  have HSP : Hid (∀ w, Below W4.heap.size W4 w → Calls Tryz.prog 29 #[.agg #[.bool a0, .slice t1.1 t1.2.1 t1.2.2, .slice t2.1 t2.2.1 t2.2.2, .slice t3.1 t3.2.1 t3.2.2, .int .i64 a4, .int .i64 a5]] w fun e w' => (∃ r, e = .returned r) ∧ Below W2.heap.size w w') := fun w hb => spoil_own (HANSA.out.below hb).own (Nat.le_trans HB24.out.size hb.size)
  have HNOT : Hid (∀ w, Below W4.heap.size W4 w → Calls Tryz.prog 23 #[.agg #[.int .i64 v, .int .i64 op, .int .i64 n]] w fun e w' => e = .returned (.agg #[.int .i64 v, .int .i64 (otM op), .int .i64 n]) ∧ Below w.heap.size w w') := fun w _ => not_dec v op n w
  have HRNO : Hid (∀ w, Below W4.heap.size W4 w → Calls Tryz.prog 24 #[.agg #[.int .i64 v, .int .i64 op, .int .i64 n]] w fun e w' => e = .returned (.agg #[.int .i64 v, .int .i64 (otM op), .int .i64 n]) ∧ Below w.heap.size w w') := fun w _ => rnot_dec v op n w
  have HTAK : Hid (∀ w, Below W4.heap.size W4 w → Calls Tryz.prog 14 #[.agg #[.int .i64 v, .int .i64 (otM op), .int .i64 n]] w fun e w' => e = .returned (.agg #[.int .i64 v, .int .i64 (otM op), .int .i64 n]) ∧ Below w.heap.size w w') := fun w _ => taken_any v (otM op) n w
  have HHO : Hid (∀ w, Below W4.heap.size W4 w → Calls Tryz.prog 25 #[.agg #[.int .i64 v, .int .i64 op, .int .i64 n], .agg #[.bool st, .int .i64 vn, .slice pv nv kv]] w fun e w' => e = .returned (.bool (hoM op n st vn vs)) ∧ Below w.heap.size w w') := fun w hb => holds_any v op n (HK.out w (HB04.out.trans (hb.mono HB04.out.size)))
  have HRH : Hid (∀ w, Below W4.heap.size W4 w → Calls Tryz.prog 26 #[.agg #[.int .i64 v, .int .i64 op, .int .i64 n], .agg #[.bool st, .int .i64 vn, .slice pv nv kv]] w fun e w' => e = .returned (.bool (hoM op n st vn vs)) ∧ Below w.heap.size w w') := fun w hb => rholds_any v op n (HK.out w (HB04.out.trans (hb.mono HB04.out.size)))
  have HTX : Hid (∀ w, Below W4.heap.size W4 w → Calls Tryz.prog 27 #[.agg #[.int .i64 v, .int .i64 op, .int .i64 n]] w fun e w' => e = .returned (.string (txM v op n)) ∧ Below w.heap.size w w') := fun w hb => text_t v op n HFV.out HFN.out (HT.out w (HB04.out.trans (hb.mono HB04.out.size)))
  have HRT : Hid (∀ w, Below W4.heap.size W4 w → Calls Tryz.prog 28 #[.agg #[.int .i64 v, .int .i64 op, .int .i64 n]] w fun e w' => e = .returned (.string (txM v op n)) ∧ Below w.heap.size w w') := fun w hb => rtext_t v op n HFV.out HFN.out (HT.out w (HB04.out.trans (hb.mono HB04.out.size)))
  generalize hoM op n st vn vs = ho at HHO HRH
  generalize txM v op n = tx at HTX HRT
  generalize otM op = oo at HNOT HRNO HTAK
  have hEq := eqlDec v oo n
  have HP0 : Hid (Below W4.heap.size W4 W4.drew) := (Below.refl _ _).drew
  refine wp_region_held_drew (S := fun X : World => Below W4.heap.size W4 X) (by kernel_rfl) (HP0.out) (fun hHeld => ?_)
  refine wpAnyH_take (i := 0) (oi := { dst := some 30, op := Go.Op.load 50 (Go.Operand.tmp 9), type := 50, pos := "law.go:80", after := #[], guard := none }) (v := ?_) rfl (by kernel_rfl) (by kernel_rfl) (by kernel_rfl) (fun _ _ _ h => h) (Or.inl ⟨by rfl, ?_⟩) hHeld ?_
  rotate_left
  · intro w hSw; obtain ⟨q0, q1, q2, q3, q4, q5⟩ := (HA.out.below hSw).six; go_simp <;> with_reducible rfl
  try simp only [Act.put, List.setIfInBounds_toArray, List.set_cons_zero, List.set_cons_succ]
  refine wpAnyH_take (i := 1) (oi := { dst := some 31, op := Go.Op.load 50 (Go.Operand.tmp 11), type := 50, pos := "law.go:80", after := #[], guard := none }) (v := ?_) rfl (by kernel_rfl) (by kernel_rfl) (by kernel_rfl) (fun _ _ _ h => h) (Or.inl ⟨by rfl, ?_⟩) hHeld ?_
  rotate_left
  · intro w hSw; obtain ⟨q0, q1, q2, q3, q4, q5⟩ := (HRA.out.below hSw).six; go_simp <;> with_reducible rfl
  try simp only [Act.put, List.setIfInBounds_toArray, List.set_cons_zero, List.set_cons_succ]
  refine wpAnyH_ready (rs := [2]) (by kernel_rfl) (by simp) ?_
  refine AllReadyH.cons rfl (fun K hK => ?_) AllReadyH.nil
  go_simp
  refine (HONE.out _ HP0.out).mono ?_
  rintro e u1 ⟨rfl, hbu⟩
  have HP1 : Hid (Below W4.heap.size W4 u1) := HP0.out.trans (hbu.mono HP0.out.size)
  clear hbu
  refine hK.out _ _ (HP1.out) (fun hHeld2 => ?_)
  clear hK K hHeld
  have hHeld := hHeld2
  clear hHeld2
  try simp only [Act.put, List.setIfInBounds_toArray, List.set_cons_zero, List.set_cons_succ]
  refine wpAnyH_take (i := 3) (oi := { dst := some 33, op := Go.Op.move (Go.Operand.tmp 32), type := 4, pos := "law.go:80", after := #[{ on := 2, ground := Go.Ground.data }, { on := 2, ground := Go.Ground.chain }], guard := none }) (v := ?_) rfl (by kernel_rfl) (by kernel_rfl) (by kernel_rfl) (fun _ _ _ h => h) (Or.inl ⟨by rfl, ?_⟩) hHeld ?_
  rotate_left
  · intro w hSw; (try dsimp only at hSw); go_simp <;> with_reducible rfl
  try simp only [Act.put, List.setIfInBounds_toArray, List.set_cons_zero, List.set_cons_succ]
  refine wpAnyH_take (i := 4) (oi := { dst := some 34, op := Go.Op.move (Go.Operand.tmp 10), type := 55, pos := "law.go:80", after := #[{ on := 3, ground := Go.Ground.guard }], guard := some (3, true) }) (v := ?_) rfl (by kernel_rfl) (by kernel_rfl) (by kernel_rfl) (fun _ _ _ h => h) (Or.inl ⟨by rfl, ?_⟩) hHeld ?_
  rotate_left
  · intro w hSw; (try dsimp only at hSw); go_simp <;> with_reducible rfl
  try simp only [Act.put, List.setIfInBounds_toArray, List.set_cons_zero, List.set_cons_succ]
  refine wpAnyH_take (i := 5) (oi := { dst := some 35, op := Go.Op.move (Go.Operand.tmp 12), type := 55, pos := "law.go:80", after := #[{ on := 3, ground := Go.Ground.guard }], guard := some (3, true) }) (v := ?_) rfl (by kernel_rfl) (by kernel_rfl) (by kernel_rfl) (fun _ _ _ h => h) (Or.inl ⟨by rfl, ?_⟩) hHeld ?_
  rotate_left
  · intro w hSw; (try dsimp only at hSw); go_simp <;> with_reducible rfl
  try simp only [Act.put, List.setIfInBounds_toArray, List.set_cons_zero, List.set_cons_succ]
  refine wpAnyH_take (i := 6) (oi := { dst := some 36, op := Go.Op.binOp Go.BinOp.eql 55 (Go.Operand.tmp 34) (Go.Operand.tmp 35) 55, type := 4, pos := "law.go:80", after := #[{ on := 4, ground := Go.Ground.data }, { on := 5, ground := Go.Ground.data }, { on := 3, ground := Go.Ground.guard }], guard := some (3, true) }) (v := ?_) rfl (by kernel_rfl) (by kernel_rfl) (by kernel_rfl) (fun _ _ _ h => h) (Or.inl ⟨by rfl, ?_⟩) hHeld ?_
  rotate_left
  · intro w hSw; (try dsimp only at hSw); go_simp <;> with_reducible rfl
  try simp only [Act.put, List.setIfInBounds_toArray, List.set_cons_zero, List.set_cons_succ]
  refine wpAnyH_take (i := 7) (oi := { dst := some 37, op := Go.Op.pick (Go.Operand.tmp 33) (Go.Operand.tmp 36) (Go.Operand.const (Go.Value.bool false)), type := 4, pos := "law.go:80", after := #[{ on := 3, ground := Go.Ground.data }, { on := 6, ground := Go.Ground.data }], guard := none }) (v := ?_) rfl (by kernel_rfl) (by kernel_rfl) (by kernel_rfl) (fun _ _ _ h => h) (Or.inl ⟨by rfl, ?_⟩) hHeld ?_
  rotate_left
  · intro w hSw; (try dsimp only at hSw); go_simp <;> with_reducible rfl
  try simp only [Act.put, List.setIfInBounds_toArray, List.set_cons_zero, List.set_cons_succ]
  refine wpAnyH_take (i := 8) (oi := { dst := some 38, op := Go.Op.move (Go.Operand.tmp 37), type := 4, pos := "law.go:80", after := #[{ on := 7, ground := Go.Ground.data }, { on := 3, ground := Go.Ground.chain }], guard := none }) (v := ?_) rfl (by kernel_rfl) (by kernel_rfl) (by kernel_rfl) (fun _ _ _ h => h) (Or.inl ⟨by rfl, ?_⟩) hHeld ?_
  rotate_left
  · intro w hSw; (try dsimp only at hSw); go_simp <;> with_reducible rfl
  try simp only [Act.put, List.setIfInBounds_toArray, List.set_cons_zero, List.set_cons_succ]
  refine wpAnyH_take (i := 9) (oi := { dst := some 39, op := Go.Op.load 32 (Go.Operand.tmp 8), type := 32, pos := "law.go:80", after := #[{ on := 8, ground := Go.Ground.guard }], guard := some (8, true) }) (v := ?_) rfl (by kernel_rfl) (by kernel_rfl) (by kernel_rfl) (fun _ _ _ h => h) (Or.inl ⟨by rfl, ?_⟩) hHeld ?_
  rotate_left
  · intro w hSw; obtain ⟨q0, q1, q2⟩ := (HY.out.below hSw).three; go_simp <;> with_reducible rfl
  try simp only [Act.put, List.setIfInBounds_toArray, List.set_cons_zero, List.set_cons_succ]
  refine wpAnyH_take (i := 12) (oi := { dst := some 42, op := Go.Op.load 35 (Go.Operand.tmp 3), type := 35, pos := "law.go:80", after := #[{ on := 8, ground := Go.Ground.guard }], guard := some (8, true) }) (v := ?_) rfl (by kernel_rfl) (by kernel_rfl) (by kernel_rfl) (fun _ _ _ h => h) (Or.inl ⟨by rfl, ?_⟩) hHeld ?_
  rotate_left
  · intro w hSw; obtain ⟨q0, q1, q2⟩ := (HQ4.out.below hSw).three; go_simp <;> with_reducible rfl
  try simp only [Act.put, List.setIfInBounds_toArray, List.set_cons_zero, List.set_cons_succ]
  refine wpAnyH_ready (rs := [10]) (by kernel_rfl) (by simp) ?_
  refine AllReadyH.cons rfl (fun K hK => ?_) AllReadyH.nil
  go_simp
  refine (HNOT.out _ HP1.out).mono ?_
  rintro e u2 ⟨rfl, hbu⟩
  have HP2 : Hid (Below W4.heap.size W4 u2) := HP1.out.trans (hbu.mono HP1.out.size)
  clear hbu
  refine hK.out _ _ (HP2.out) (fun hHeld2 => ?_)
  clear hK K hHeld
  have hHeld := hHeld2
  clear hHeld2
  try simp only [Act.put, List.setIfInBounds_toArray, List.set_cons_zero, List.set_cons_succ]
  refine wpAnyH_ready (rs := [11]) (by kernel_rfl) (by simp) ?_
  refine AllReadyH.cons rfl (fun K hK => ?_) AllReadyH.nil
  go_simp
  refine (HTAK.out _ HP2.out).mono ?_
  rintro e u3 ⟨rfl, hbu⟩
  have HP3 : Hid (Below W4.heap.size W4 u3) := HP2.out.trans (hbu.mono HP2.out.size)
  clear hbu
  refine hK.out _ _ (HP3.out) (fun hHeld2 => ?_)
  clear hK K hHeld
  have hHeld := hHeld2
  clear hHeld2
  try simp only [Act.put, List.setIfInBounds_toArray, List.set_cons_zero, List.set_cons_succ]
  refine wpAnyH_ready (rs := [13]) (by kernel_rfl) (by simp) ?_
  refine AllReadyH.cons rfl (fun K hK => ?_) AllReadyH.nil
  go_simp
  refine (HRNO.out _ HP3.out).mono ?_
  rintro e u4 ⟨rfl, hbu⟩
  have HP4 : Hid (Below W4.heap.size W4 u4) := HP3.out.trans (hbu.mono HP3.out.size)
  clear hbu
  refine hK.out _ _ (HP4.out) (fun hHeld2 => ?_)
  clear hK K hHeld
  have hHeld := hHeld2
  clear hHeld2
  try simp only [Act.put, List.setIfInBounds_toArray, List.set_cons_zero, List.set_cons_succ]
  refine wpAnyH_take (i := 14) (oi := { dst := some 44, op := Go.Op.binOp Go.BinOp.eql 35 (Go.Operand.tmp 41) (Go.Operand.tmp 43) 35, type := 4, pos := "law.go:80", after := #[{ on := 11, ground := Go.Ground.data }, { on := 13, ground := Go.Ground.data }, { on := 8, ground := Go.Ground.guard }], guard := some (8, true) }) (v := ?_) rfl (by kernel_rfl) (by kernel_rfl) (by kernel_rfl) (fun _ _ _ h => h) (Or.inl ⟨by rfl, ?_⟩) hHeld ?_
  rotate_left
  · intro w hSw; (try dsimp only at hSw); go_simp <;> with_reducible rfl
  try simp only [Act.put, List.setIfInBounds_toArray, List.set_cons_zero, List.set_cons_succ]
  refine wpAnyH_take (i := 15) (oi := { dst := some 45, op := Go.Op.pick (Go.Operand.tmp 38) (Go.Operand.tmp 44) (Go.Operand.const (Go.Value.bool false)), type := 4, pos := "law.go:80", after := #[{ on := 8, ground := Go.Ground.data }, { on := 14, ground := Go.Ground.data }], guard := none }) (v := ?_) rfl (by kernel_rfl) (by kernel_rfl) (by kernel_rfl) (fun _ _ _ h => h) (Or.inl ⟨by rfl, ?_⟩) hHeld ?_
  rotate_left
  · intro w hSw; (try dsimp only at hSw); go_simp <;> with_reducible rfl
  try simp only [Act.put, List.setIfInBounds_toArray, List.set_cons_zero, List.set_cons_succ]
  refine wpAnyH_take (i := 16) (oi := { dst := some 46, op := Go.Op.move (Go.Operand.tmp 45), type := 4, pos := "law.go:80", after := #[{ on := 15, ground := Go.Ground.data }, { on := 13, ground := Go.Ground.chain }], guard := none }) (v := ?_) rfl (by kernel_rfl) (by kernel_rfl) (by kernel_rfl) (fun _ _ _ h => h) (Or.inl ⟨by rfl, ?_⟩) hHeld ?_
  rotate_left
  · intro w hSw; (try dsimp only at hSw); go_simp <;> with_reducible rfl
  try simp only [Act.put, List.setIfInBounds_toArray, List.set_cons_zero, List.set_cons_succ]
  refine wpAnyH_take (i := 17) (oi := { dst := some 47, op := Go.Op.load 32 (Go.Operand.tmp 8), type := 32, pos := "law.go:80", after := #[{ on := 16, ground := Go.Ground.guard }], guard := some (16, true) }) (v := ?_) rfl (by kernel_rfl) (by kernel_rfl) (by kernel_rfl) (fun _ _ _ h => h) (Or.inl ⟨by rfl, ?_⟩) hHeld ?_
  rotate_left
  · intro w hSw; obtain ⟨q0, q1, q2⟩ := (HY.out.below hSw).three; go_simp <;> with_reducible rfl
  try simp only [Act.put, List.setIfInBounds_toArray, List.set_cons_zero, List.set_cons_succ]
  refine wpAnyH_take (i := 18) (oi := { dst := some 48, op := Go.Op.load 52 (Go.Operand.tmp 5), type := 52, pos := "law.go:80", after := #[{ on := 16, ground := Go.Ground.guard }], guard := some (16, true) }) (v := ?_) rfl (by kernel_rfl) (by kernel_rfl) (by kernel_rfl) (fun _ _ _ h => h) (Or.inl ⟨by rfl, ?_⟩) hHeld ?_
  rotate_left
  · intro w hSw; obtain ⟨q0, q1, q2⟩ := (HV4.out.below hSw).three; go_simp <;> with_reducible rfl
  try simp only [Act.put, List.setIfInBounds_toArray, List.set_cons_zero, List.set_cons_succ]
  refine wpAnyH_take (i := 20) (oi := { dst := some 50, op := Go.Op.load 35 (Go.Operand.tmp 3), type := 35, pos := "law.go:80", after := #[{ on := 16, ground := Go.Ground.guard }], guard := some (16, true) }) (v := ?_) rfl (by kernel_rfl) (by kernel_rfl) (by kernel_rfl) (fun _ _ _ h => h) (Or.inl ⟨by rfl, ?_⟩) hHeld ?_
  rotate_left
  · intro w hSw; obtain ⟨q0, q1, q2⟩ := (HQ4.out.below hSw).three; go_simp <;> with_reducible rfl
  try simp only [Act.put, List.setIfInBounds_toArray, List.set_cons_zero, List.set_cons_succ]
  refine wpAnyH_take (i := 21) (oi := { dst := some 51, op := Go.Op.load 52 (Go.Operand.tmp 5), type := 52, pos := "law.go:80", after := #[{ on := 16, ground := Go.Ground.guard }], guard := some (16, true) }) (v := ?_) rfl (by kernel_rfl) (by kernel_rfl) (by kernel_rfl) (fun _ _ _ h => h) (Or.inl ⟨by rfl, ?_⟩) hHeld ?_
  rotate_left
  · intro w hSw; obtain ⟨q0, q1, q2⟩ := (HV4.out.below hSw).three; go_simp <;> with_reducible rfl
  try simp only [Act.put, List.setIfInBounds_toArray, List.set_cons_zero, List.set_cons_succ]
  refine wpAnyH_ready (rs := [19]) (by kernel_rfl) (by simp) ?_
  refine AllReadyH.cons rfl (fun K hK => ?_) AllReadyH.nil
  go_simp
  refine (HHO.out _ HP4.out).mono ?_
  rintro e u5 ⟨rfl, hbu⟩
  have HP5 : Hid (Below W4.heap.size W4 u5) := HP4.out.trans (hbu.mono HP4.out.size)
  clear hbu
  refine hK.out _ _ (HP5.out) (fun hHeld2 => ?_)
  clear hK K hHeld
  have hHeld := hHeld2
  clear hHeld2
  try simp only [Act.put, List.setIfInBounds_toArray, List.set_cons_zero, List.set_cons_succ]
  refine wpAnyH_ready (rs := [22]) (by kernel_rfl) (by simp) ?_
  refine AllReadyH.cons rfl (fun K hK => ?_) AllReadyH.nil
  go_simp
  refine (HRH.out _ HP5.out).mono ?_
  rintro e u6 ⟨rfl, hbu⟩
  have HP6 : Hid (Below W4.heap.size W4 u6) := HP5.out.trans (hbu.mono HP5.out.size)
  clear hbu
  refine hK.out _ _ (HP6.out) (fun hHeld2 => ?_)
  clear hK K hHeld
  have hHeld := hHeld2
  clear hHeld2
  try simp only [Act.put, List.setIfInBounds_toArray, List.set_cons_zero, List.set_cons_succ]
  refine wpAnyH_take (i := 23) (oi := { dst := some 53, op := Go.Op.binOp Go.BinOp.eql 4 (Go.Operand.tmp 49) (Go.Operand.tmp 52) 4, type := 4, pos := "law.go:80", after := #[{ on := 19, ground := Go.Ground.data }, { on := 22, ground := Go.Ground.data }, { on := 16, ground := Go.Ground.guard }], guard := some (16, true) }) (v := ?_) rfl (by kernel_rfl) (by kernel_rfl) (by kernel_rfl) (fun _ _ _ h => h) (Or.inl ⟨by rfl, ?_⟩) hHeld ?_
  rotate_left
  · intro w hSw; (try dsimp only at hSw); go_simp <;> with_reducible rfl
  try simp only [Act.put, List.setIfInBounds_toArray, List.set_cons_zero, List.set_cons_succ]
  refine wpAnyH_take (i := 24) (oi := { dst := some 54, op := Go.Op.pick (Go.Operand.tmp 46) (Go.Operand.tmp 53) (Go.Operand.const (Go.Value.bool false)), type := 4, pos := "law.go:80", after := #[{ on := 16, ground := Go.Ground.data }, { on := 23, ground := Go.Ground.data }], guard := none }) (v := ?_) rfl (by kernel_rfl) (by kernel_rfl) (by kernel_rfl) (fun _ _ _ h => h) (Or.inl ⟨by rfl, ?_⟩) hHeld ?_
  rotate_left
  · intro w hSw; (try dsimp only at hSw); go_simp <;> with_reducible rfl
  try simp only [Act.put, List.setIfInBounds_toArray, List.set_cons_zero, List.set_cons_succ]
  refine wpAnyH_take (i := 25) (oi := { dst := some 55, op := Go.Op.move (Go.Operand.tmp 54), type := 4, pos := "law.go:80", after := #[{ on := 24, ground := Go.Ground.data }, { on := 22, ground := Go.Ground.chain }], guard := none }) (v := ?_) rfl (by kernel_rfl) (by kernel_rfl) (by kernel_rfl) (fun _ _ _ h => h) (Or.inl ⟨by rfl, ?_⟩) hHeld ?_
  rotate_left
  · intro w hSw; (try dsimp only at hSw); go_simp <;> with_reducible rfl
  try simp only [Act.put, List.setIfInBounds_toArray, List.set_cons_zero, List.set_cons_succ]
  refine wpAnyH_take (i := 26) (oi := { dst := some 56, op := Go.Op.load 32 (Go.Operand.tmp 8), type := 32, pos := "law.go:80", after := #[{ on := 25, ground := Go.Ground.guard }], guard := some (25, true) }) (v := ?_) rfl (by kernel_rfl) (by kernel_rfl) (by kernel_rfl) (fun _ _ _ h => h) (Or.inl ⟨by rfl, ?_⟩) hHeld ?_
  rotate_left
  · intro w hSw; obtain ⟨q0, q1, q2⟩ := (HY.out.below hSw).three; go_simp <;> with_reducible rfl
  try simp only [Act.put, List.setIfInBounds_toArray, List.set_cons_zero, List.set_cons_succ]
  refine wpAnyH_take (i := 28) (oi := { dst := some 58, op := Go.Op.load 35 (Go.Operand.tmp 3), type := 35, pos := "law.go:80", after := #[{ on := 25, ground := Go.Ground.guard }], guard := some (25, true) }) (v := ?_) rfl (by kernel_rfl) (by kernel_rfl) (by kernel_rfl) (fun _ _ _ h => h) (Or.inl ⟨by rfl, ?_⟩) hHeld ?_
  rotate_left
  · intro w hSw; obtain ⟨q0, q1, q2⟩ := (HQ4.out.below hSw).three; go_simp <;> with_reducible rfl
  try simp only [Act.put, List.setIfInBounds_toArray, List.set_cons_zero, List.set_cons_succ]
  refine wpAnyH_ready (rs := [27]) (by kernel_rfl) (by simp) ?_
  refine AllReadyH.cons rfl (fun K hK => ?_) AllReadyH.nil
  go_simp
  refine (HTX.out _ HP6.out).mono ?_
  rintro e u7 ⟨rfl, hbu⟩
  have HP7 : Hid (Below W4.heap.size W4 u7) := HP6.out.trans (hbu.mono HP6.out.size)
  clear hbu
  refine hK.out _ _ (HP7.out) (fun hHeld2 => ?_)
  clear hK K hHeld
  have hHeld := hHeld2
  clear hHeld2
  try simp only [Act.put, List.setIfInBounds_toArray, List.set_cons_zero, List.set_cons_succ]
  refine wpAnyH_ready (rs := [29]) (by kernel_rfl) (by simp) ?_
  refine AllReadyH.cons rfl (fun K hK => ?_) AllReadyH.nil
  go_simp
  refine (HRT.out _ HP7.out).mono ?_
  rintro e u8 ⟨rfl, hbu⟩
  have HP8 : Hid (Below W4.heap.size W4 u8) := HP7.out.trans (hbu.mono HP7.out.size)
  clear hbu
  refine hK.out _ _ (HP8.out) (fun hHeld2 => ?_)
  clear hK K hHeld
  have hHeld := hHeld2
  clear hHeld2
  try simp only [Act.put, List.setIfInBounds_toArray, List.set_cons_zero, List.set_cons_succ]
  refine wpAnyH_take (i := 30) (oi := { dst := some 60, op := Go.Op.binOp Go.BinOp.eql 9 (Go.Operand.tmp 57) (Go.Operand.tmp 59) 9, type := 4, pos := "law.go:80", after := #[{ on := 27, ground := Go.Ground.data }, { on := 29, ground := Go.Ground.data }, { on := 25, ground := Go.Ground.guard }], guard := some (25, true) }) (v := ?_) rfl (by kernel_rfl) (by kernel_rfl) (by kernel_rfl) (fun _ _ _ h => h) (Or.inl ⟨by rfl, ?_⟩) hHeld ?_
  rotate_left
  · intro w hSw; (try dsimp only at hSw); go_simp <;> with_reducible rfl
  try simp only [Act.put, List.setIfInBounds_toArray, List.set_cons_zero, List.set_cons_succ]
  refine wpAnyH_take (i := 31) (oi := { dst := some 61, op := Go.Op.pick (Go.Operand.tmp 55) (Go.Operand.tmp 60) (Go.Operand.const (Go.Value.bool false)), type := 4, pos := "law.go:80", after := #[{ on := 25, ground := Go.Ground.data }, { on := 30, ground := Go.Ground.data }], guard := none }) (v := ?_) rfl (by kernel_rfl) (by kernel_rfl) (by kernel_rfl) (fun _ _ _ h => h) (Or.inl ⟨by rfl, ?_⟩) hHeld ?_
  rotate_left
  · intro w hSw; (try dsimp only at hSw); go_simp <;> with_reducible rfl
  try simp only [Act.put, List.setIfInBounds_toArray, List.set_cons_zero, List.set_cons_succ]
  refine wpAnyH_take (i := 32) (oi := { dst := some 13, op := Go.Op.assign (Go.Operand.tmp 61), type := 4, pos := "law.go:80", after := #[{ on := 31, ground := Go.Ground.data }, { on := 29, ground := Go.Ground.chain }, { on := 0, ground := Go.Ground.phase }, { on := 1, ground := Go.Ground.phase }, { on := 2, ground := Go.Ground.phase }, { on := 3, ground := Go.Ground.phase }, { on := 4, ground := Go.Ground.phase }, { on := 5, ground := Go.Ground.phase }, { on := 6, ground := Go.Ground.phase }, { on := 7, ground := Go.Ground.phase }, { on := 8, ground := Go.Ground.phase }, { on := 9, ground := Go.Ground.phase }, { on := 10, ground := Go.Ground.phase }, { on := 11, ground := Go.Ground.phase }, { on := 12, ground := Go.Ground.phase }, { on := 13, ground := Go.Ground.phase }, { on := 14, ground := Go.Ground.phase }, { on := 15, ground := Go.Ground.phase }, { on := 16, ground := Go.Ground.phase }, { on := 17, ground := Go.Ground.phase }, { on := 18, ground := Go.Ground.phase }, { on := 19, ground := Go.Ground.phase }, { on := 20, ground := Go.Ground.phase }, { on := 21, ground := Go.Ground.phase }, { on := 22, ground := Go.Ground.phase }, { on := 23, ground := Go.Ground.phase }, { on := 24, ground := Go.Ground.phase }, { on := 25, ground := Go.Ground.phase }, { on := 26, ground := Go.Ground.phase }, { on := 27, ground := Go.Ground.phase }, { on := 28, ground := Go.Ground.phase }, { on := 29, ground := Go.Ground.phase }, { on := 30, ground := Go.Ground.phase }, { on := 31, ground := Go.Ground.phase }], guard := none }) (v := ?_) rfl (by kernel_rfl) (by kernel_rfl) (by kernel_rfl) (fun _ _ _ h => h) (Or.inl ⟨by rfl, ?_⟩) hHeld ?_
  rotate_left
  · intro w hSw; (try dsimp only at hSw); go_simp <;> with_reducible rfl
  try simp only [Act.put, List.setIfInBounds_toArray, List.set_cons_zero, List.set_cons_succ]
  refine wpAnyH_done (by kernel_rfl) ?_ _
  skip
  obtain ⟨z0, z1, z2, z3, z4, z5⟩ := (HA.out.below HP8.out).six
  go_wp2_with fail
  refine (HSP.out _ HP8.out).mono ?_
  clear z0 z1 z2 z3 z4 z5
  rintro e w6 ⟨⟨r6, rfl⟩, hb6⟩
  have HB6 : Hid (Below W2.heap.size W2 w6) := (HB24.out.trans (HP8.out.mono HB24.out.size)).trans hb6
  clear hb6
  obtain ⟨z0, z1, z2, z3, z4, z5⟩ := (HO.out.below HB6.out).six
  obtain ⟨y0, y1, y2, y3, y4, y5⟩ := (HX2.out.below HB6.out).six
  go_wp2_with fail
  refine (HONE2.out _ HB6.out).mono ?_
  clear z0 z1 z2 z3 z4 z5 y0 y1 y2 y3 y4 y5
  rintro e w7 ⟨rfl, hb7⟩
  have HB7 : Hid (Below W2.heap.size W2 w7) := HB6.out.trans (hb7.mono HB6.out.size)
  clear hb7
  go_wp2_with fail
  refine (known_true w7).mono ?_
  rintro e w8 ⟨rfl, hb8⟩
  have HB8 : Hid (Below W2.heap.size W2 w8) := HB7.out.trans (hb8.mono HB7.out.size)
  clear hb8
  go_wp2
  go_ret
  exact ⟨rfl, HB02.out.trans (HB8.out.mono HB02.out.size)⟩
end Go.Proofs.YtfcaemfledlnnaaGreatDoor
