/-
  What is proved here: the walk of BranchChooses.
-/
import Derived.Test.YthkliicmoandmaaGreatDoorEhj
import Derived.Test.YthkliicmoandmaaGreatDoorDj
import Derived.OwnWalk
namespace Go.Proofs.YthkliicmoandmaaGreatDoor
open Go.RowKit Go.Shelf
set_option linter.unusedVariables false
set_option linter.unusedSimpArgs false

attribute [local go_sem] Oper.semAt_some
theorem resB {fn : Func} (hf : fn.results = #[.cell 6 4]) (tmps : Array Value) (X : World) (g : Nat) (v : Bool) (hR : X.cell? ⟨g, 0, none⟩ = some (.bool v)) (h4 : tmps.getD 6 undef = .pointer (some ⟨g, 0, none⟩)) :
    (results fn tmps).run Tryz.prog X = .ok (.bool v) X := by
  have h4' : tmps[6]?.getD undef = .pointer (some ⟨g, 0, none⟩) := by simpa using h4
  have t4 := Tryz.underlying4
  simp [results, hf, h4', asAddr, Sem.run_bind, Result.andThen, go_sem, hR]
theorem eqDecR (x0 x1 x2 : Int) (w : World) : (Op.equal 35 (.agg #[.int .i64 x0, .int .i64 x1, .int .i64 x2]) (.agg #[.int .i64 x0, .int .i64 x1, .int .i64 x2])).run Tryz.prog w = .ok true w := by
  have u2 := Tryz.underlying2
  have a2 := Tryz.isAgg2
  have z2 := Tryz.sizeOf2
  have u3 := Tryz.underlying3
  have a3 := Tryz.isAgg3
  have z3 := Tryz.sizeOf3
  have hS : Tryz.prog.underlying 35 = some (.struct (Tryz.prog.fieldsOf 35)) := by kernel_rfl
  have hp : Tryz.prog.stoodInHeld 35 = false := by kernel_rfl
  unfold Op.equal Op.maxDepth
  rw [show (10000 : Nat) = 9999 + 1 from rfl, run_equalIn_agg w 9999 35 _ _ hS hp]
  simp only [Program.fieldsOf, Tryz.underlying35]
  go_simp
theorem eqlDecR (x0 x1 x2 : Int) (w : World) :
    (binOp .eql 35 (.agg #[.int .i64 x0, .int .i64 x1, .int .i64 x2]) (.agg #[.int .i64 x0, .int .i64 x1, .int .i64 x2])).run Tryz.prog w = .ok (.bool true) w := by
  have he := eqDecR x0 x1 x2 w
  simp [binOp, run_underlying Tryz.underlying35, he, go_sem]

set_option maxRecDepth 100000 in
set_option maxHeartbeats 4000000 in
theorem chooses_walk {W : World} {p1 : Option Addr} {n k1 : Nat} {p2 : Option Addr} {nd k2 : Nat} {p3 : Option Addr} {nr k3 : Nat} {L : List Ph} {D : List MD} {R : List Int} (hP : Ps W (.slice p1 n k1) L) (hd : Ds W (.slice p2 nd k2) D) (hR : Ns W (.slice p3 nr k3) R) (hD : ∀ d ∈ D, Good d) (hz : SzP L D) (hR8 : R.length * 8 ≤ 140737488355328) (hzd : ∀ d ∈ D, SzD d) (hl : D.length * 96 ≤ 140737488351232) :
    Calls Tryz.prog 3 #[.slice p1 n k1, .slice p2 nd k2, .slice p3 nr k3] W fun e w' => e = .returned (.bool true) ∧ Below W.heap.size W w' := by
  refine (callsIn_wide (n := 6)).1 ?_
  refine callsIn_of_wp_marks Tryz.func3 rfl trivial ?_ rfl
  simp only [Tryz.ntmps3, List.size_toArray, List.length_cons, List.length_nil, Nat.reduceAdd, Nat.reduceSub, Array.replicate_succ, Array.replicate_zero, List.push_toArray, List.append_toArray, List.nil_append, List.cons_append]
  have hnR : R.length = nr := by obtain ⟨a, c, e, _⟩ := hR; injection e with _ e2 _; exact e2.symm
  obtain ⟨N, hN⟩ : ∃ N, W.heap.size = N := ⟨_, rfl⟩
  have HP : Hid (Ps W (.slice p1 n k1) L) := hP
  have HD : Hid (Ds W (.slice p2 nd k2) D) := hd
  have HR : Hid (Ns W (.slice p3 nr k3) R) := hR
  have HG : Hid (∀ d ∈ D, Good d) := hD
  have HZ : Hid (SzP L D) := hz
  have HZD : Hid (∀ d ∈ D, SzD d) := hzd
  have HL : Hid (D.length * 96 ≤ 140737488351232) := hl
  have HR8 : Hid (R.length * 8 ≤ 140737488355328) := hR8
  have HNR : Hid (R.length = nr) := hnR
  have HN : Hid (W.heap.size = N) := hN
  obtain ⟨W0, hW0⟩ : ∃ Q, W.alloc (Obj.cells #[.bool false] 4) = Q := ⟨_, rfl⟩
  have HB0 : Hid (Below N W W0) := by rw [← hW0, ← hN]; exact (Below.refl _ W).alloc (Nat.le_refl _) _
  have HX0 : Hid (Bx W0 N #[.bool false] 4) := by rw [← hW0]; exact Bx.new' hN _ _
  have HW0 : Hid _ := hW0
  have kl := lentl_any (HD.out.below (w' := W0) (by rw [hN]; exact HB0.out)) hzd hl
  clear hP hd hR hD hz hR8 hzd hl hnR hW0
  gi_wp2
  rw [HW0.out]
  refine ⟨trivial, (callsIn_wide.2 kl).mono ?_⟩
  clear kl
  rintro e w1 ⟨q2, j2, rfl, hd1, hb1⟩
  have hs0 : W0.heap.size = N + 1 := by rw [← HW0.out]; simp [hN]
  have HB1 : Hid (Below N W w1) := HB0.out.trans (hb1.mono (by omega))
  have HX1 : Hid (Bx w1 N #[.bool false] 4) := HX0.out.below hb1
  have HD1 : Hid (Ds w1 (.slice q2 nd j2) D) := hd1
  have hN1 : N + 1 ≤ w1.heap.size := by have := hb1.size; omega
  have kn := new_any (HR.out.below (w' := w1) (by rw [hN]; exact HB1.out)) HR8.out
  clear hd1 hb1 hs0 HX0 HB0 HW0
  gi_wp2
  refine ⟨trivial, (callsIn_wide.2 kn).mono ?_⟩
  clear kn
  rintro e w2 ⟨q, rfl, hqW, hq1, hdr, hb2⟩
  obtain ⟨P3, hP3⟩ : ∃ q, w2.heap.size = q := ⟨_, rfl⟩
  obtain ⟨w3, hw3⟩ : ∃ Q, w2.alloc (Obj.cells #[.slice p3 nr k3, .int .i64 0] 30) = Q := ⟨_, rfl⟩
  have hbw3 : Below w2.heap.size w2 w3 := by rw [← hw3]; exact (Below.refl _ _).alloc (Nat.le_refl _) _
  have HDR : Hid (Dw (fun b => b = P3) w3 (ptr q) R) := Dw.below (.inr ⟨q, rfl, hdr _ (fun b h => .inr (by omega))⟩) hbw3
  have HQP : Hid (q < P3 ∧ w1.heap.size ≤ q) := ⟨by rw [← hP3]; exact hq1, hqW⟩
  have HPO : Hid (∀ b, DrB (ptr q) b → w1.heap.size ≤ b) := fun b hb => by cases hb; exact hqW
  have HB13 : Hid (Below w1.heap.size w1 w3) := hb2.trans (hbw3.mono hb2.size)
  have HB3 : Hid (Below N W w3) := HB1.out.trans (HB13.out.mono (by omega))
  have HR3 : Hid (Bx w3 P3 #[.slice p3 nr k3, .int .i64 0] 30) := by rw [← hw3]; exact Bx.new' hP3 _ _
  have HW3 : Hid _ := hw3
  have kc := choose_any (HP.out.below (w' := w1) (by rw [hN]; exact HB1.out)) HD1.out HB13.out HG.out HZ.out HDR.out HPO.out
  clear hdr hqW hq1 hb2 hbw3 hw3
  obtain ⟨R2, hR2⟩ : ∃ q, (chooseM L D R).2 = q := ⟨_, rfl⟩
  obtain ⟨⟨cv, op, nn, cb⟩, hC⟩ : ∃ q, (chooseM L D R).1 = q := ⟨_, rfl⟩
  rw [hC, hR2] at kc
  dsimp only at kc
  gi_wp2
  rw [HW3.out]
  refine ⟨trivial, (callsIn_wide.2 kc).mono ?_⟩
  clear kc
  rintro e w4 ⟨rfl, hd4, hk4⟩
  have HBW4 : Hid (Below N W w4) := HB3.out.trans (hk4.below (by have := HB3.out.size; omega) (fun b hb => by have := HPO.out b hb; omega))
  obtain ⟨P10, hP10⟩ : ∃ q, w4.heap.size = q := ⟨_, rfl⟩
  obtain ⟨w5, hw5⟩ : ∃ Q, w4.alloc (Obj.cells #[.int .i64 cv, .int .i64 op, .int .i64 nn] 32) = Q := ⟨_, rfl⟩
  have hbw5 : Below w4.heap.size w4 w5 := by rw [← hw5]; exact (Below.refl _ _).alloc (Nat.le_refl _) _
  have hNP : N ≤ P3 := by have := HQP.out; omega
  have HX4 : Hid (Bx w4 N #[.bool false] 4) := (HX1.out.below HB13.out).kept hk4 (fun h => by have := HPO.out _ h; omega)
  have HR4 : Hid (Bx w4 P3 #[.slice p3 nr k3, .int .i64 0] 30) := HR3.out.kept hk4 (fun h => by have := HQP.out; cases h; omega)
  have HB14 : Hid (Below w1.heap.size w1 w4) := HB13.out.trans (hk4.below HB13.out.size HPO.out)
  have HX5 : Hid (Bx w5 N #[.bool false] 4) := HX4.out.below hbw5
  have HE5 : Hid (Bx w5 P10 #[.int .i64 cv, .int .i64 op, .int .i64 nn] 32) := by rw [← hw5]; exact Bx.new' hP10 _ _
  have HD5 : Hid (Dw (fun b => b = P3) w5 (ptr q) R2) := hd4.below hbw5
  have HB5 : Hid (Below N W w5) := HBW4.out.trans (hbw5.mono (by have := HBW4.out.size; omega))
  have HB15 : Hid (Below w1.heap.size w1 w5) := HB14.out.trans (hbw5.mono HB14.out.size)
  have hrq : Rq (fun _ => False) w5 P3 R R := rq_new HR.out (by have := HR8.out; omega) (by rw [hN]; exact HB5.out) (by omega) (HR4.out.below hbw5)
  have kr := rchoose_any HP.out HD.out (by rw [hN]; exact HB5.out) HG.out HZ.out hrq (by omega)
  rw [hC, hR2] at kr
  dsimp only at kr
  have HP10 : Hid (P3 < P10) := by rw [Hid, ← hP10]; exact HR4.out.lt
  have HW5 : Hid _ := hw5
  clear hd4 hk4 hrq hC hR2 hw5 hbw5 HX4 HR4 HR3 HDR HX1 HB3 HB13 HBW4 HB14 HW3 hP3 HPO
  gi_wp2
  rw [HW5.out]
  refine ⟨trivial, (callsIn_wide.2 kr).mono ?_⟩
  clear kr
  rintro e w6 ⟨rfl, hr6, hk6⟩
  obtain ⟨P12, hP12⟩ : ∃ q, w6.heap.size = q := ⟨_, rfl⟩
  obtain ⟨w7, hw7⟩ : ∃ Q, w6.alloc (Obj.cells #[.int .i64 cv, .int .i64 op, .int .i64 nn] 35) = Q := ⟨_, rfl⟩
  have hbw7 : Below w6.heap.size w6 w7 := by rw [← hw7]; exact (Below.refl _ _).alloc (Nat.le_refl _) _
  have hbk : Below w1.heap.size w1 w6 := HB15.out.trans (hk6.below HB15.out.size (fun b hb => by have := HQP.out; omega))
  have hbn : Below N W w6 := HB5.out.trans (hk6.below (by have := HB5.out.size; omega) (fun b hb => by omega))
  have HB7 : Hid (Below N W w7) := hbn.trans (hbw7.mono (by have := hbn.size; omega))
  have HB17 : Hid (Below w1.heap.size w1 w7) := hbk.trans (hbw7.mono hbk.size)
  have HX7 : Hid (Bx w7 N #[.bool false] 4) := (HX5.out.kept hk6 (by have := HQP.out; omega)).below hbw7
  have HE7 : Hid (Bx w7 P10 #[.int .i64 cv, .int .i64 op, .int .i64 nn] 32) := (HE5.out.kept hk6 (by have := HP10.out; omega)).below hbw7
  have HF7 : Hid (Bx w7 P12 #[.int .i64 cv, .int .i64 op, .int .i64 nn] 35) := by rw [← hw7]; exact Bx.new' hP12 _ _
  have HD7 : Hid (Dw (fun b => b = P3) w7 (ptr q) R2) := by
    rcases HD5.out with ⟨h, _⟩ | ⟨p', e', hdr⟩
    · cases h
    · obtain rfl : q = p' := by cases e'; rfl
      exact Dw.below (.inr ⟨_, rfl, hdr.kept hk6 (by have := HQP.out; omega) rfl⟩) hbw7
  have HR7 : Hid (Rq (fun _ => False) w7 P3 R R2) := hr6.below hbw7
  have HP12 : Hid (P10 < P12) := by rw [Hid, ← hP12]; exact Nat.lt_of_lt_of_le HE5.out.lt hk6.size
  have ko := ropen_any (HD.out.below (w' := w7) (by rw [hN]; exact HB7.out)) HG.out HZ.out.d
  have HW7 : Hid _ := hw7
  clear hr6 hk6 hw7 hbw7 hbk hbn HX5 HE5 HD5 HB5 HB15 HW5 hP10
  gi_wp2
  rw [HW7.out]
  refine ⟨trivial, (callsIn_wide.2 ko).mono ?_⟩
  clear ko
  rintro e w8 ⟨v, rfl, ho8, hb8⟩
  obtain ⟨va, vc, rfl⟩ := ho8.shape
  obtain ⟨nv, hnv⟩ : ∃ q, (openAll D).length = q := ⟨_, rfl⟩
  rw [hnv] at ho8 ⊢
  have HNV : Hid ((openAll D).length = nv) := hnv
  obtain ⟨P14, hP14⟩ : ∃ q, w8.heap.size = q := ⟨_, rfl⟩
  obtain ⟨w9, hw9⟩ : ∃ Q, (w8.alloc (Obj.cells #[.slice va nv vc] 24)).alloc (Obj.cells #[.int .i64 0] 3) = Q := ⟨_, rfl⟩
  have hb89 : Below w8.heap.size w8 w9 := by rw [← hw9]; exact ((Below.refl _ _).alloc (Nat.le_refl _) _).alloc (by simp) _
  have hb79 : Below w7.heap.size w7 w9 := hb8.trans (hb89.mono hb8.size)
  have HB9 : Hid (Below N W w9) := HB7.out.trans (hb79.mono (by have := HB7.out.size; omega))
  have HB19 : Hid (Below w1.heap.size w1 w9) := HB17.out.trans (hb79.mono HB17.out.size)
  have HX9 : Hid (Bx w9 N #[.bool false] 4) := HX7.out.below hb79
  have HE9 : Hid (Bx w9 P10 #[.int .i64 cv, .int .i64 op, .int .i64 nn] 32) := HE7.out.below hb79
  have HF9 : Hid (Bx w9 P12 #[.int .i64 cv, .int .i64 op, .int .i64 nn] 35) := HF7.out.below hb79
  have HD9 : Hid (Dw (fun b => b = P14 + 1) w9 (ptr q) R2) := Dw.below ((HD7.out.below hb8).more.less (fun b hb => .inr (by rw [hP14]; omega))) hb89
  have HT9 : Hid (∀ (k : Nat) (x : Int), (openAll D)[k]? = some x → ∃ b off, va = some ⟨b, off, none⟩ ∧ b < P14 ∧ w9.cell? ⟨b, off + k, none⟩ = some (.int .i64 x)) := fun k x hx => by
    obtain ⟨a', c', e', h0⟩ := ho8.ns
    injection e' with e1 e2 e3
    obtain ⟨b, off, q1, q2, _, q3⟩ := h0 (by have := (List.getElem?_eq_some_iff.1 hx).1; omega)
    exact ⟨b, off, e1.trans q1, by rw [← hP14]; exact q2, (hb89.cell (p := ⟨b, _, none⟩) q2).trans (q3 k x hx)⟩
  have HR9 : Hid (Rq (fun _ => False) w9 P3 R R2) := HR7.out.below hb79
  have HV9 : Hid (Bx w9 P14 #[.slice va nv vc] 24) := by rw [← hw9]; exact (Bx.new' hP14 _ _).alloc _
  have HI9 : Hid (Bx w9 (P14 + 1) #[.int .i64 0] 3) := by rw [← hw9]; exact Bx.new' (by simp [hP14]) _ _
  have HP14 : Hid (P12 < P14) := by rw [Hid, ← hP14]; exact Nat.lt_of_lt_of_le HF7.out.lt hb8.size
  have ko := open_own (HD1.out.below HB19.out) HG.out HZ.out.d
  have HW9 : Hid _ := hw9
  clear ho8 hb8 hw9 hb89 hb79 HX7 HE7 HF7 HD7 HR7 HB7 HB17 HW7 hP12 hnv
  gi_wp2
  rw [HW9.out]
  refine ⟨trivial, (callsIn_wide.2 ko).mono ?_⟩
  clear ko
  rintro e w11 ⟨B, s, rfl, hv11, hb11⟩
  have hnil : ∀ w : World, (binOp .eql 40 (.func (.func 87) #[] #[.pointer (some ⟨B, 0, none⟩)]) .nilFunc).run Tryz.prog w = .ok (.bool false) w := fun _ => rfl
  have hs9 : P14 + 1 < w9.heap.size := HI9.out.lt
  have HB11 : Hid (Below N W w11) := HB9.out.trans (hb11.mono (by have := HB9.out.size; omega))
  have HB111 : Hid (Below w1.heap.size w1 w11) := HB19.out.trans (hb11.mono HB19.out.size)
  have HX11 : Hid (Bx w11 N #[.bool false] 4) := HX9.out.below hb11
  have HE11 : Hid (Bx w11 P10 #[.int .i64 cv, .int .i64 op, .int .i64 nn] 32) := HE9.out.below hb11
  have HF11 : Hid (Bx w11 P12 #[.int .i64 cv, .int .i64 op, .int .i64 nn] 35) := HF9.out.below hb11
  have HD11 : Hid (Dw (fun b => b = P14 + 1) w11 (ptr q) R2) := HD9.out.below hb11
  have HR11 : Hid (Rq (fun _ => False) w11 P3 R R2) := HR9.out.below hb11
  have HT11 : Hid (∀ (k : Nat) (x : Int), (openAll D)[k]? = some x → ∃ b off, va = some ⟨b, off, none⟩ ∧ b < P14 ∧ w11.cell? ⟨b, off + k, none⟩ = some (.int .i64 x)) := fun k x hx => by
    obtain ⟨b, off, q1, q2, q3⟩ := HT9.out k x hx
    exact ⟨b, off, q1, q2, (hb11.cell (p := ⟨b, _, none⟩) (by show b < w9.heap.size; omega)).trans q3⟩
  have HV11 : Hid (Bx w11 P14 #[.slice va nv vc] 24) := HV9.out.below hb11
  have HI11 : Hid (Bx w11 (P14 + 1) #[.int .i64 0] 3) := HI9.out.below hb11
  have HK11 : Hid (∀ w2, Kept (fun b => b = P14 + 1) w11 w2 → VaK B s (openAll D) w2) := fun w2 hk => hv11 _ w2 (fun b hb => by subst hb; exact hs9) hk
  have hnvb : nv ≤ 9223372036854775806 := by have := openL_le (rangeI D.length) D; rw [rangeI_len] at this; have := HZ.out.d; rw [← HNV.out]; unfold openAll; omega
  have hP11 : P14 + 1 < w11.heap.size := by have := hb11.size; omega
  clear hb11 hv11 HX9 HE9 HF9 HD9 HV9 HT9 HR9 HI9 HB9 HB19 HW9
  gi_wp2
  refine range_any (id := 0) _ 87 _ _ _ (values_tells B s (openAll D) (by rw [HNV.out]; exact hnvb)) rfl callValues1
    (fun k X => Kept (fun b => b = P14 + 1) w11 X ∧ Bx X (P14 + 1) #[.int .i64 (k : Int)] 3) (fun _ => False) (fun _ => False) (fun k X h => HK11.out _ h.1) ?hIb ?hIp (fun _ _ _ _ _ h => h.elim) (fun _ _ _ _ _ h => h.elim) ⟨Kept.refl _ _, HI11.out⟩
    (fun v => { tmps := #[.slice p1 n k1, .slice p2 nd k2, .slice p3 nr k3, undef, undef, undef, .pointer (some ⟨N, 0, none⟩), .slice q2 nd j2, ptr q, .pointer (some ⟨P3, 0, none⟩), .pointer (some ⟨P10, 0, none⟩), .bool cb, .pointer (some ⟨P12, 0, none⟩), .bool cb, .pointer (some ⟨P14, 0, none⟩), .pointer (some ⟨P14 + 1, 0, none⟩), .func (.func 87) #[] #[.pointer (some ⟨B, 0, none⟩)], v, .slice p2 nd k2, .slice q2 nd j2, .slice p3 nr k3, ptr q, .slice p3 nr k3, .agg #[.slice p3 nr k3, .int .i64 0], .pointer (some ⟨P3, 0, none⟩), ptr q, .bool false, .tuple #[.agg #[.int .i64 cv, .int .i64 op, .int .i64 nn], .bool cb], .slice p1 n k1, .slice q2 nd j2, ptr q, .tuple #[.agg #[.int .i64 cv, .int .i64 op, .int .i64 nn], .bool cb], .agg #[.int .i64 cv, .int .i64 op, .int .i64 nn], .bool cb, .tuple #[.agg #[.int .i64 cv, .int .i64 op, .int .i64 nn], .bool cb], .slice p1 n k1, .slice p2 nd k2, .pointer (some ⟨P3, 0, none⟩), .tuple #[.agg #[.int .i64 cv, .int .i64 op, .int .i64 nn], .bool cb], .agg #[.int .i64 cv, .int .i64 op, .int .i64 nn], .bool cb, .slice p2 nd k2, .slice va nv vc, .slice q2 nd j2, .func (.func 87) #[] #[.pointer (some ⟨B, 0, none⟩)], .func (.func 87) #[] #[.pointer (some ⟨B, 0, none⟩)], .bool false, .func (.func 87) #[] #[.pointer (some ⟨B, 0, none⟩)], v, undef, undef, undef, undef, undef, undef, undef, undef, undef, undef, undef, undef, undef, undef, undef, undef, undef, undef, undef, undef, undef, undef, undef, undef, undef, undef, undef, undef, undef, undef, undef, undef, undef, undef, undef, undef, undef, undef, undef, undef, undef, undef, undef, undef, undef, undef, undef, undef, undef, undef, undef], defers := [] }) ?assign ?body (fun _ _ _ h => h.elim) (fun _ _ _ h => h.elim) ?done
  case hIb =>
    rintro k X X' hX ⟨h1, h2⟩ hb
    exact ⟨h1.then_below hb, h2.below hb⟩
  case hIp =>
    rintro k X jj o o' hjj ⟨h1, h2⟩ ho hc
    exact ⟨⟨h1.os, h1.tape, h1.output, by rw [World.putObj_size]; exact h1.size, fun b hb hx => (World.putObj_heap_other (by omega)).trans (h1.block b hb hx)⟩, h2.put ho hc⟩
  case assign =>
    intro l m v X K hK
    gi_wp2
    exact hK
  case body =>
    rintro lr m k x X hx hX ⟨h1, h2⟩
    obtain ⟨y, hy, rfl⟩ : ∃ y, (openAll D)[k]? = some y ∧ x = .int .i64 y := by
      unfold ivl at hx
      rw [List.getElem?_map] at hx
      cases hq : (openAll D)[k]? with
      | none => rw [hq] at hx; simp at hx
      | some y => rw [hq] at hx; exact ⟨y, rfl, by simpa using hx.symm⟩
    have hkn : k < nv := by rw [← HNV.out]; exact (List.getElem?_eq_some_iff.1 hy).1
    have hkn' : (k : Int) < (nv : Int) := by omega
    have hkn2 : ¬ (nv : Int) ≤ (k : Int) := by omega
    have hwk : IntKind.i64.wrap ((k : Int) + 1) = (k : Int) + 1 := by rw [IntKind.wrap_i64]; omega
    obtain ⟨b, off, rfl, hbP, hc⟩ := HT11.out k y hy
    have c0 := (h1.cell (b := b) (by omega) (by omega) (off + k)).trans hc
    have c1 := (HV11.out.kept h1 (by omega)).cell 0
    have c2 := h2.cell 0
    have f2 := h2.fr 0
    have H1 : Hid (Kept (fun b => b = P14 + 1) w11 X) := h1
    have H2 : Hid (Bx X (P14 + 1) #[.int .i64 (k : Int)] 3) := h2
    clear h1 h2 hc hx
    gi_wp2
    refine ⟨KA.set H2.out _ 0 _, H1.out.setCell rfl 0 _, ?_⟩
    have := H2.out.setc (o := 0) (by simp) (.int .i64 ((k : Int) + 1))
    simpa using this
  case done =>
    rintro Dd X hDd ⟨h1, h2⟩ hDef
    have hlv : (ivl (openAll D)).length = nv := by unfold ivl; rw [List.length_map]; exact HNV.out
    rw [hlv] at h2
    have HX1 : Hid (Kept (fun b => b = P14 + 1) w11 X) := h1
    have HX2 : Hid (Bx X (P14 + 1) #[.int .i64 (nv : Int)] 3) := h2
    have HX3 : Hid (X.heap[Dd]? = some (.deferred (some []))) := hDef
    have hDX : Dd < X.heap.size := (Array.getElem?_eq_some_iff.1 hDef).1
    have hXs : w11.heap.size ≤ X.heap.size := h1.size
    clear h1 h2 hDef hlv
    gi_wp2
    refine range_any (id := 2) _ 87 _ _ _ (values_tells B s (openAll D) (by rw [HNV.out]; exact hnvb)) rfl callValues1
      (fun _ Y => Kept (fun b => b = P14 + 1) w11 Y ∧ Bx Y (P14 + 1) #[.int .i64 (nv : Int)] 3 ∧ Y.heap[Dd]? = some (.deferred (some []))) (fun Y => Kept (fun b => b = P14 + 1) w11 Y ∧ Bx Y (P14 + 1) #[.int .i64 (nv : Int)] 3 ∧ Y.heap[Dd]? = some (.deferred (some []))) (fun _ => False) (fun k Y h => HK11.out _ h.1) ?hIb ?hIp ?hXp (fun _ _ _ _ _ h => h.elim) ⟨HX1.out, HX2.out, HX3.out⟩
      (fun v => { tmps := #[.slice p1 n k1, .slice p2 nd k2, .slice p3 nr k3, undef, undef, undef, .pointer (some ⟨N, 0, none⟩), .slice q2 nd j2, ptr q, .pointer (some ⟨P3, 0, none⟩), .pointer (some ⟨P10, 0, none⟩), .bool cb, .pointer (some ⟨P12, 0, none⟩), .bool cb, .pointer (some ⟨P14, 0, none⟩), .pointer (some ⟨P14 + 1, 0, none⟩), .func (.func 87) #[] #[.pointer (some ⟨B, 0, none⟩)], undef, .slice p2 nd k2, .slice q2 nd j2, .slice p3 nr k3, ptr q, .slice p3 nr k3, .agg #[.slice p3 nr k3, .int .i64 0], .pointer (some ⟨P3, 0, none⟩), ptr q, .bool false, .tuple #[.agg #[.int .i64 cv, .int .i64 op, .int .i64 nn], .bool cb], .slice p1 n k1, .slice q2 nd j2, ptr q, .tuple #[.agg #[.int .i64 cv, .int .i64 op, .int .i64 nn], .bool cb], .agg #[.int .i64 cv, .int .i64 op, .int .i64 nn], .bool cb, .tuple #[.agg #[.int .i64 cv, .int .i64 op, .int .i64 nn], .bool cb], .slice p1 n k1, .slice p2 nd k2, .pointer (some ⟨P3, 0, none⟩), .tuple #[.agg #[.int .i64 cv, .int .i64 op, .int .i64 nn], .bool cb], .agg #[.int .i64 cv, .int .i64 op, .int .i64 nn], .bool cb, .slice p2 nd k2, .slice va nv vc, .slice q2 nd j2, .func (.func 87) #[] #[.pointer (some ⟨B, 0, none⟩)], .func (.func 87) #[] #[.pointer (some ⟨B, 0, none⟩)], .bool false, .func (.func 87) #[] #[.pointer (some ⟨B, 0, none⟩)], undef, undef, undef, undef, undef, undef, undef, undef, undef, undef, undef, undef, undef, undef, undef, .func (.func 87) #[] #[.pointer (some ⟨B, 0, none⟩)], v, undef, undef, undef, undef, undef, undef, undef, undef, undef, undef, undef, undef, undef, undef, undef, undef, undef, undef, undef, undef, undef, undef, undef, undef, undef, undef, undef, undef, undef, undef, undef, undef, undef, undef, undef], defers := [] }) ?assign ?body ?left (fun _ _ _ h => h.elim) ?done
    case hIb =>
      rintro k Y Y' hY ⟨h1, h2, h3⟩ hb
      exact ⟨h1.then_below hb, h2.below hb, (hb.block Dd (by omega)).trans h3⟩
    case hIp =>
      rintro k Y jj o o' hjj ⟨h1, h2, h3⟩ ho hc
      exact ⟨⟨h1.os, h1.tape, h1.output, by rw [World.putObj_size]; exact h1.size, fun b hb hx => (World.putObj_heap_other (by omega)).trans (h1.block b hb hx)⟩, h2.put ho hc, (World.putObj_heap_other (by omega)).trans h3⟩
    case hXp =>
      rintro Y jj o o' hjj ⟨h1, h2, h3⟩ ho hc
      exact ⟨⟨h1.os, h1.tape, h1.output, by rw [World.putObj_size]; exact h1.size, fun b hb hx => (World.putObj_heap_other (by omega)).trans (h1.block b hb hx)⟩, h2.put ho hc, (World.putObj_heap_other (by omega)).trans h3⟩
    case assign =>
      intro l m v Y K hK
      gi_wp2
      exact hK
    case body =>
      rintro lr m k x Y hx hY h
      gi_wp2
      exact ⟨rfl, KA.refl _ _, h⟩
    case left =>
      rintro D2 Y hD2 ⟨h1, h2, h3⟩ hDef2
      have hch : N < P3 ∧ P3 < P10 ∧ P10 < P12 ∧ P12 < P14 := ⟨by have := HQP.out; omega, HP10.out, HP12.out, HP14.out⟩
      have YN : Hid (Bx Y N #[.bool false] 4) := HX11.out.kept h1 (by omega)
      have Y10 : Hid (Bx Y P10 #[.int .i64 cv, .int .i64 op, .int .i64 nn] 32) := HE11.out.kept h1 (by have := HP12.out; have := HP14.out; omega)
      have Y12 : Hid (Bx Y P12 #[.int .i64 cv, .int .i64 op, .int .i64 nn] 35) := HF11.out.kept h1 (by have := HP14.out; omega)
      have Y14 : Hid (Bx Y P14 #[.slice va nv vc] 24) := HV11.out.kept h1 (by omega)
      have Y15 : Hid (Bx Y (P14 + 1) #[.int .i64 (nv : Int)] 3) := h2
      obtain ⟨k0, ⟨ra, rc, hbx, _, hk0, _⟩, hdrop⟩ := HR11.out
      have Y3 : Hid (Bx Y P3 #[.slice ra R.length rc, .int .i64 (k0 : Int)] 30) := hbx.kept h1 (by have := HP10.out; have := HP12.out; have := HP14.out; omega)
      have hY1 : Below N w11 Y := h1.below (by omega) (fun b hb => by have := HP10.out; have := HP12.out; have := HP14.out; omega)
      have hY2 : Below w1.heap.size w11 Y := h1.below HB111.out.size (fun b hb => by have := HQP.out; have := HP10.out; have := HP12.out; have := HP14.out; omega)
      have HBY : Hid (Below N W Y) := HB11.out.trans hY1
      have HNY : Hid (N < P3 ∧ P3 < P10 ∧ P10 < P12 ∧ P12 < P14) := ⟨by have := HQP.out; omega, HP10.out, HP12.out, HP14.out⟩
      have DY1 : Hid (Ds Y (.slice p2 nd k2) D) := HD.out.below (by rw [hN]; exact HBY.out)
      have DY2 : Hid (Ds Y (.slice q2 nd j2) D) := HD1.out.below (HB111.out.trans hY2)
      obtain ⟨rl, hrl⟩ : ∃ r, R2.length = r := ⟨_, rfl⟩
      have hrk : rl = nr - k0 := by rw [← hrl, ← hdrop, List.length_drop, HNR.out]
      have hkn : k0 ≤ nr := by rw [← HNR.out]; exact hk0
      have hnb : nr ≤ 140737488355328 := by have := HR8.out; rw [HNR.out] at this; omega
      have hws : IntKind.i64.wrap ((nr : Int) - (k0 : Int)) = (rl : Int) := by rw [IntKind.wrap_i64]; omega
      have K14 : Hid (∀ Z, Below Y.heap.size Y Z → Calls Tryz.prog 14 #[.agg #[.int .i64 cv, .int .i64 op, .int .i64 nn]] Z fun e w' => e = .returned (.agg #[.int .i64 cv, .int .i64 op, .int .i64 nn]) ∧ Below Y.heap.size Y w') := fun Z hZ => (taken_any cv op nn Z).mono fun e w' ⟨he, hb⟩ => ⟨he, hZ.trans (hb.mono hZ.size)⟩
      have K15 : Hid (∀ Z, Below Y.heap.size Y Z → Calls Tryz.prog 15 #[ptr q] Z fun e w' => e = .returned (.int .i64 (rl : Int)) ∧ Below Y.heap.size Y w') := fun Z hZ => by
        rcases HD11.out with ⟨h, _⟩ | ⟨p', e', hdr⟩
        · cases h
        · obtain rfl : q = p' := by cases e'; rfl
          have hl := left_any ((hdr.kept h1 (by have := HQP.out; have := HP10.out; have := HP12.out; have := HP14.out; omega) rfl).below hZ)
          rw [hrl] at hl
          exact hl.mono fun e w' ⟨he, hw⟩ => ⟨he, by rw [hw]; exact hZ⟩
      have K16 : Hid (∀ Z, Below Y.heap.size Y Z → Calls Tryz.prog 16 #[.slice q2 nd j2, .slice p2 nd k2] Z fun e w' => e = .returned (.bool true) ∧ Below Y.heap.size Y w') := fun Z hZ => (same_doms (DY2.out.below hZ) (DY1.out.below hZ) HZD.out (by have := HL.out; omega)).mono fun e w' ⟨he, hb⟩ => ⟨he, hZ.trans (hb.mono hZ.size)⟩
      have K17 : Hid (∀ Z, Below Y.heap.size Y Z → Calls Tryz.prog 17 #[] Z fun e w' => e = .returned (.bool true) ∧ Below Y.heap.size Y w') := fun Z hZ => (known_true Z).mono fun e w' ⟨he, hb⟩ => ⟨he, hZ.trans (hb.mono hZ.size)⟩
      have HMK : Hid (Dd < Y.heap.size ∧ D2 < Y.heap.size ∧ Dd ≠ D2 ∧ N < Dd ∧ N < D2 ∧ Y.heap[Dd]? = some (.deferred (some [])) ∧ Y.heap[D2]? = some (.deferred (some []))) := ⟨(Array.getElem?_eq_some_iff.1 h3).1, (Array.getElem?_eq_some_iff.1 hDef2).1, by omega, by omega, by omega, h3, hDef2⟩
      have hEq := eqlDecR cv op nn
      clear hch h1 h2 h3 hDef2 hbx hdrop hY1 hY2 hrl hrk hkn hk0 HX1 HX2 HX3 HK11 HI11 HT11 HV11 HR11 HD11 HE11 HF11 HX11
      gi_upto_region 19 with (fail)
      rename_i K2 hK2
      refine wpIn_mono ((wpIn_wide (Q := Exit.then K2 (fun _ _ _ => False))).2 ?_) (fun e a w h => by cases e <;> first | exact h | exact h.elim)
      have hB : Below Y.heap.size Y Y.drew := Below.drew (Below.refl _ _)
      refine wp_region_held_drew (S := fun Z : World => Kept (fun b => b = N) Y Z) (by kernel_rfl) (Kept.of_below hB) (fun hHeld => ?_)
      refine wpAnyH_take (i := 0) (oi := { dst := some 65, op := Go.Op.load 32 (Go.Operand.tmp 10), type := 32, pos := "law.go:71", after := #[], guard := none }) (v := ?_) rfl (by kernel_rfl) (by kernel_rfl) (by kernel_rfl) (fun _ _ _ h => h) (Or.inl ⟨by rfl, ?_⟩) hHeld ?_
      rotate_left
      · intro w hSw; have z := Bx.kept Y10.out hSw (by have := HNY.out; omega); obtain ⟨z0, z1, z2⟩ := z.three; clear hSw; go_simp <;> with_reducible rfl
      try simp only [Act.put, List.setIfInBounds_toArray, List.set_cons_zero, List.set_cons_succ]
      refine wpAnyH_take (i := 2) (oi := { dst := some 67, op := Go.Op.load 35 (Go.Operand.tmp 12), type := 35, pos := "law.go:71", after := #[], guard := none }) (v := ?_) rfl (by kernel_rfl) (by kernel_rfl) (by kernel_rfl) (fun _ _ _ h => h) (Or.inl ⟨by rfl, ?_⟩) hHeld ?_
      rotate_left
      · intro w hSw; have z := Bx.kept Y12.out hSw (by have := HNY.out; omega); obtain ⟨z0, z1, z2⟩ := z.three; clear hSw; go_simp <;> with_reducible rfl
      try simp only [Act.put, List.setIfInBounds_toArray, List.set_cons_zero, List.set_cons_succ]
      refine wpAnyH_ready (rs := [1]) (by kernel_rfl) (by simp) ?_
      refine AllReadyH.cons rfl (fun K hK => ?_) AllReadyH.nil
      go_simp
      refine (K14.out _ hB).mono ?_
      rintro e y1 ⟨rfl, hb1⟩
      have hB := hb1
      clear hb1 K14
      refine hK.out _ _ (Kept.of_below hB) (fun hHeld2 => ?_)
      clear hK K hHeld
      have hHeld := hHeld2
      clear hHeld2
      try simp only [Act.put, List.setIfInBounds_toArray, List.set_cons_zero, List.set_cons_succ]
      refine wpAnyH_take (i := 3) (oi := { dst := some 68, op := Go.Op.binOp Go.BinOp.eql 35 (Go.Operand.tmp 66) (Go.Operand.tmp 67) 35, type := 4, pos := "law.go:71", after := #[{ on := 1, ground := Go.Ground.data }, { on := 2, ground := Go.Ground.data }], guard := none }) (v := ?_) rfl (by kernel_rfl) (by kernel_rfl) (by kernel_rfl) (fun _ _ _ h => h) (Or.inl ⟨by rfl, ?_⟩) hHeld ?_
      rotate_left
      · intro w hSw; (try dsimp only at hSw); go_simp <;> with_reducible rfl
      try simp only [Act.put, List.setIfInBounds_toArray, List.set_cons_zero, List.set_cons_succ]
      refine wpAnyH_take (i := 4) (oi := { dst := some 69, op := Go.Op.move (Go.Operand.tmp 68), type := 4, pos := "law.go:71", after := #[{ on := 3, ground := Go.Ground.data }, { on := 1, ground := Go.Ground.chain }], guard := none }) (v := ?_) rfl (by kernel_rfl) (by kernel_rfl) (by kernel_rfl) (fun _ _ _ h => h) (Or.inl ⟨by rfl, ?_⟩) hHeld ?_
      rotate_left
      · intro w hSw; (try dsimp only at hSw); go_simp <;> with_reducible rfl
      try simp only [Act.put, List.setIfInBounds_toArray, List.set_cons_zero, List.set_cons_succ]
      refine wpAnyH_take (i := 5) (oi := { dst := some 70, op := Go.Op.move (Go.Operand.tmp 11), type := 4, pos := "law.go:71", after := #[{ on := 4, ground := Go.Ground.guard }], guard := some (4, true) }) (v := ?_) rfl (by kernel_rfl) (by kernel_rfl) (by kernel_rfl) (fun _ _ _ h => h) (Or.inl ⟨by rfl, ?_⟩) hHeld ?_
      rotate_left
      · intro w hSw; (try dsimp only at hSw); go_simp <;> with_reducible rfl
      try simp only [Act.put, List.setIfInBounds_toArray, List.set_cons_zero, List.set_cons_succ]
      refine wpAnyH_take (i := 6) (oi := { dst := some 71, op := Go.Op.move (Go.Operand.tmp 13), type := 4, pos := "law.go:71", after := #[{ on := 4, ground := Go.Ground.guard }], guard := some (4, true) }) (v := ?_) rfl (by kernel_rfl) (by kernel_rfl) (by kernel_rfl) (fun _ _ _ h => h) (Or.inl ⟨by rfl, ?_⟩) hHeld ?_
      rotate_left
      · intro w hSw; (try dsimp only at hSw); go_simp <;> with_reducible rfl
      try simp only [Act.put, List.setIfInBounds_toArray, List.set_cons_zero, List.set_cons_succ]
      refine wpAnyH_take (i := 7) (oi := { dst := some 72, op := Go.Op.binOp Go.BinOp.eql 4 (Go.Operand.tmp 70) (Go.Operand.tmp 71) 4, type := 4, pos := "law.go:71", after := #[{ on := 5, ground := Go.Ground.data }, { on := 6, ground := Go.Ground.data }, { on := 4, ground := Go.Ground.guard }], guard := some (4, true) }) (v := ?_) rfl (by kernel_rfl) (by kernel_rfl) (by kernel_rfl) (fun _ _ _ h => h) (Or.inl ⟨by rfl, ?_⟩) hHeld ?_
      rotate_left
      · intro w hSw; (try dsimp only at hSw); go_simp <;> with_reducible rfl
      try simp only [Act.put, List.setIfInBounds_toArray, List.set_cons_zero, List.set_cons_succ]
      refine wpAnyH_take (i := 8) (oi := { dst := some 73, op := Go.Op.pick (Go.Operand.tmp 69) (Go.Operand.tmp 72) (Go.Operand.const (Go.Value.bool false)), type := 4, pos := "law.go:71", after := #[{ on := 4, ground := Go.Ground.data }, { on := 7, ground := Go.Ground.data }], guard := none }) (v := ?_) rfl (by kernel_rfl) (by kernel_rfl) (by kernel_rfl) (fun _ _ _ h => h) (Or.inl ⟨by rfl, ?_⟩) hHeld ?_
      rotate_left
      · intro w hSw; (try dsimp only at hSw); go_simp <;> with_reducible rfl
      try simp only [Act.put, List.setIfInBounds_toArray, List.set_cons_zero, List.set_cons_succ]
      refine wpAnyH_take (i := 9) (oi := { dst := some 74, op := Go.Op.move (Go.Operand.tmp 73), type := 4, pos := "law.go:71", after := #[{ on := 8, ground := Go.Ground.data }, { on := 4, ground := Go.Ground.chain }], guard := none }) (v := ?_) rfl (by kernel_rfl) (by kernel_rfl) (by kernel_rfl) (fun _ _ _ h => h) (Or.inl ⟨by rfl, ?_⟩) hHeld ?_
      rotate_left
      · intro w hSw; (try dsimp only at hSw); go_simp <;> with_reducible rfl
      try simp only [Act.put, List.setIfInBounds_toArray, List.set_cons_zero, List.set_cons_succ]
      refine wpAnyH_take (i := 10) (oi := { dst := some 75, op := Go.Op.move (Go.Operand.tmp 8), type := 26, pos := "law.go:71", after := #[{ on := 9, ground := Go.Ground.guard }], guard := some (9, true) }) (v := ?_) rfl (by kernel_rfl) (by kernel_rfl) (by kernel_rfl) (fun _ _ _ h => h) (Or.inl ⟨by rfl, ?_⟩) hHeld ?_
      rotate_left
      · intro w hSw; (try dsimp only at hSw); go_simp <;> with_reducible rfl
      try simp only [Act.put, List.setIfInBounds_toArray, List.set_cons_zero, List.set_cons_succ]
      refine wpAnyH_take (i := 12) (oi := { dst := some 77, op := Go.Op.move (Go.Operand.tmp 2), type := 24, pos := "law.go:71", after := #[{ on := 9, ground := Go.Ground.guard }], guard := some (9, true) }) (v := ?_) rfl (by kernel_rfl) (by kernel_rfl) (by kernel_rfl) (fun _ _ _ h => h) (Or.inl ⟨by rfl, ?_⟩) hHeld ?_
      rotate_left
      · intro w hSw; (try dsimp only at hSw); go_simp <;> with_reducible rfl
      try simp only [Act.put, List.setIfInBounds_toArray, List.set_cons_zero, List.set_cons_succ]
      refine wpAnyH_take (i := 13) (oi := { dst := some 78, op := Go.Op.call { callee := Go.Callee.builtin Go.Builtin.len, args := #[Go.Operand.tmp 77], argTypes := #[24] }, type := 3, pos := "law.go:71", after := #[{ on := 12, ground := Go.Ground.data }, { on := 9, ground := Go.Ground.guard }], guard := some (9, true) }) (v := ?_) rfl (by kernel_rfl) (by kernel_rfl) (by kernel_rfl) (fun _ _ _ h => h) (Or.inl ⟨by rfl, ?_⟩) hHeld ?_
      rotate_left
      · intro w hSw; (try dsimp only at hSw); go_simp <;> with_reducible rfl
      try simp only [Act.put, List.setIfInBounds_toArray, List.set_cons_zero, List.set_cons_succ]
      refine wpAnyH_take (i := 14) (oi := { dst := some 79, op := Go.Op.move (Go.Operand.tmp 9), type := 28, pos := "law.go:71", after := #[{ on := 9, ground := Go.Ground.guard }], guard := some (9, true) }) (v := ?_) rfl (by kernel_rfl) (by kernel_rfl) (by kernel_rfl) (fun _ _ _ h => h) (Or.inl ⟨by rfl, ?_⟩) hHeld ?_
      rotate_left
      · intro w hSw; (try dsimp only at hSw); go_simp <;> with_reducible rfl
      try simp only [Act.put, List.setIfInBounds_toArray, List.set_cons_zero, List.set_cons_succ]
      refine wpAnyH_take (i := 15) (oi := { dst := some 80, op := Go.Op.nilCheck (Go.Operand.tmp 79), type := 0, pos := "law.go:71", after := #[{ on := 14, ground := Go.Ground.data }, { on := 9, ground := Go.Ground.guard }], guard := some (9, true) }) (v := ?_) rfl (by kernel_rfl) (by kernel_rfl) (by kernel_rfl) (fun _ _ _ h => h) (Or.inl ⟨by rfl, ?_⟩) hHeld ?_
      rotate_left
      · intro w hSw; (try dsimp only at hSw); go_simp <;> with_reducible rfl
      try simp only [Act.put, List.setIfInBounds_toArray, List.set_cons_zero, List.set_cons_succ]
      refine wpAnyH_take (i := 16) (oi := { dst := some 81, op := Go.Op.fieldAddr 30 (Go.Operand.tmp 80) 1, type := 0, pos := "law.go:71", after := #[{ on := 15, ground := Go.Ground.data }, { on := 9, ground := Go.Ground.guard }], guard := some (9, true) }) (v := ?_) rfl (by kernel_rfl) (by kernel_rfl) (by kernel_rfl) (fun _ _ _ h => h) (Or.inl ⟨by rfl, ?_⟩) hHeld ?_
      rotate_left
      · intro w hSw; (try dsimp only at hSw); go_simp <;> with_reducible rfl
      try simp only [Act.put, List.setIfInBounds_toArray, List.set_cons_zero, List.set_cons_succ]
      refine wpAnyH_take (i := 17) (oi := { dst := some 82, op := Go.Op.load 3 (Go.Operand.tmp 81), type := 3, pos := "law.go:71", after := #[{ on := 16, ground := Go.Ground.data }, { on := 9, ground := Go.Ground.guard }], guard := some (9, true) }) (v := ?_) rfl (by kernel_rfl) (by kernel_rfl) (by kernel_rfl) (fun _ _ _ h => h) (Or.inl ⟨by rfl, ?_⟩) hHeld ?_
      rotate_left
      · intro w hSw; have z := Bx.kept Y3.out hSw (by have := HNY.out; omega); have z0 := z.cell 0; have z1 := z.cell 1; clear hSw; go_simp <;> with_reducible rfl
      try simp only [Act.put, List.setIfInBounds_toArray, List.set_cons_zero, List.set_cons_succ]
      refine wpAnyH_take (i := 18) (oi := { dst := some 83, op := Go.Op.binOp Go.BinOp.sub 3 (Go.Operand.tmp 78) (Go.Operand.tmp 82) 3, type := 3, pos := "law.go:71", after := #[{ on := 13, ground := Go.Ground.data }, { on := 17, ground := Go.Ground.data }, { on := 9, ground := Go.Ground.guard }], guard := some (9, true) }) (v := ?_) rfl (by kernel_rfl) (by kernel_rfl) (by kernel_rfl) (fun _ _ _ h => h) (Or.inl ⟨by rfl, ?_⟩) hHeld ?_
      rotate_left
      · intro w hSw; (try dsimp only at hSw); go_simp <;> with_reducible rfl
      try simp only [Act.put, List.setIfInBounds_toArray, List.set_cons_zero, List.set_cons_succ]
      refine wpAnyH_ready (rs := [11]) (by kernel_rfl) (by simp) ?_
      refine AllReadyH.cons rfl (fun K hK => ?_) AllReadyH.nil
      go_simp
      refine (K15.out _ hB).mono ?_
      rintro e y11 ⟨rfl, hb11⟩
      have hB := hb11
      clear hb11 K15
      refine hK.out _ _ (Kept.of_below hB) (fun hHeld2 => ?_)
      clear hK K hHeld
      have hHeld := hHeld2
      clear hHeld2
      try simp only [Act.put, List.setIfInBounds_toArray, List.set_cons_zero, List.set_cons_succ]
      refine wpAnyH_take (i := 19) (oi := { dst := some 84, op := Go.Op.binOp Go.BinOp.eql 3 (Go.Operand.tmp 76) (Go.Operand.tmp 83) 3, type := 4, pos := "law.go:71", after := #[{ on := 11, ground := Go.Ground.data }, { on := 18, ground := Go.Ground.data }, { on := 9, ground := Go.Ground.guard }], guard := some (9, true) }) (v := ?_) rfl (by kernel_rfl) (by kernel_rfl) (by kernel_rfl) (fun _ _ _ h => h) (Or.inl ⟨by rfl, ?_⟩) hHeld ?_
      rotate_left
      · intro w hSw; (try dsimp only at hSw); go_simp <;> with_reducible rfl
      try simp only [Act.put, List.setIfInBounds_toArray, List.set_cons_zero, List.set_cons_succ]
      refine wpAnyH_take (i := 20) (oi := { dst := some 85, op := Go.Op.pick (Go.Operand.tmp 74) (Go.Operand.tmp 84) (Go.Operand.const (Go.Value.bool false)), type := 4, pos := "law.go:71", after := #[{ on := 9, ground := Go.Ground.data }, { on := 19, ground := Go.Ground.data }], guard := none }) (v := ?_) rfl (by kernel_rfl) (by kernel_rfl) (by kernel_rfl) (fun _ _ _ h => h) (Or.inl ⟨by rfl, ?_⟩) hHeld ?_
      rotate_left
      · intro w hSw; (try dsimp only at hSw); go_simp <;> with_reducible rfl
      try simp only [Act.put, List.setIfInBounds_toArray, List.set_cons_zero, List.set_cons_succ]
      refine wpAnyH_take (i := 21) (oi := { dst := some 86, op := Go.Op.move (Go.Operand.tmp 85), type := 4, pos := "law.go:71", after := #[{ on := 20, ground := Go.Ground.data }, { on := 11, ground := Go.Ground.chain }], guard := none }) (v := ?_) rfl (by kernel_rfl) (by kernel_rfl) (by kernel_rfl) (fun _ _ _ h => h) (Or.inl ⟨by rfl, ?_⟩) hHeld ?_
      rotate_left
      · intro w hSw; (try dsimp only at hSw); go_simp <;> with_reducible rfl
      try simp only [Act.put, List.setIfInBounds_toArray, List.set_cons_zero, List.set_cons_succ]
      refine wpAnyH_take (i := 22) (oi := { dst := some 87, op := Go.Op.load 3 (Go.Operand.tmp 15), type := 3, pos := "law.go:71", after := #[{ on := 21, ground := Go.Ground.guard }], guard := some (21, true) }) (v := ?_) rfl (by kernel_rfl) (by kernel_rfl) (by kernel_rfl) (fun _ _ _ h => h) (Or.inl ⟨by rfl, ?_⟩) hHeld ?_
      rotate_left
      · intro w hSw; have z := Bx.kept Y15.out hSw (by have := HNY.out; omega); have z0 := z.cell 0; clear hSw; go_simp <;> with_reducible rfl
      try simp only [Act.put, List.setIfInBounds_toArray, List.set_cons_zero, List.set_cons_succ]
      refine wpAnyH_take (i := 23) (oi := { dst := some 88, op := Go.Op.load 24 (Go.Operand.tmp 14), type := 24, pos := "law.go:71", after := #[{ on := 21, ground := Go.Ground.guard }], guard := some (21, true) }) (v := ?_) rfl (by kernel_rfl) (by kernel_rfl) (by kernel_rfl) (fun _ _ _ h => h) (Or.inl ⟨by rfl, ?_⟩) hHeld ?_
      rotate_left
      · intro w hSw; have z := Bx.kept Y14.out hSw (by have := HNY.out; omega); have z0 := z.cell 0; clear hSw; go_simp <;> with_reducible rfl
      try simp only [Act.put, List.setIfInBounds_toArray, List.set_cons_zero, List.set_cons_succ]
      refine wpAnyH_take (i := 24) (oi := { dst := some 89, op := Go.Op.call { callee := Go.Callee.builtin Go.Builtin.len, args := #[Go.Operand.tmp 88], argTypes := #[24] }, type := 3, pos := "law.go:71", after := #[{ on := 23, ground := Go.Ground.data }, { on := 21, ground := Go.Ground.guard }], guard := some (21, true) }) (v := ?_) rfl (by kernel_rfl) (by kernel_rfl) (by kernel_rfl) (fun _ _ _ h => h) (Or.inl ⟨by rfl, ?_⟩) hHeld ?_
      rotate_left
      · intro w hSw; (try dsimp only at hSw); go_simp <;> with_reducible rfl
      try simp only [Act.put, List.setIfInBounds_toArray, List.set_cons_zero, List.set_cons_succ]
      refine wpAnyH_take (i := 25) (oi := { dst := some 90, op := Go.Op.binOp Go.BinOp.eql 3 (Go.Operand.tmp 87) (Go.Operand.tmp 89) 3, type := 4, pos := "law.go:71", after := #[{ on := 22, ground := Go.Ground.data }, { on := 24, ground := Go.Ground.data }, { on := 21, ground := Go.Ground.guard }], guard := some (21, true) }) (v := ?_) rfl (by kernel_rfl) (by kernel_rfl) (by kernel_rfl) (fun _ _ _ h => h) (Or.inl ⟨by rfl, ?_⟩) hHeld ?_
      rotate_left
      · intro w hSw; (try dsimp only at hSw); go_simp <;> with_reducible rfl
      try simp only [Act.put, List.setIfInBounds_toArray, List.set_cons_zero, List.set_cons_succ]
      refine wpAnyH_take (i := 26) (oi := { dst := some 91, op := Go.Op.pick (Go.Operand.tmp 86) (Go.Operand.tmp 90) (Go.Operand.const (Go.Value.bool false)), type := 4, pos := "law.go:71", after := #[{ on := 21, ground := Go.Ground.data }, { on := 25, ground := Go.Ground.data }], guard := none }) (v := ?_) rfl (by kernel_rfl) (by kernel_rfl) (by kernel_rfl) (fun _ _ _ h => h) (Or.inl ⟨by rfl, ?_⟩) hHeld ?_
      rotate_left
      · intro w hSw; (try dsimp only at hSw); go_simp <;> with_reducible rfl
      try simp only [Act.put, List.setIfInBounds_toArray, List.set_cons_zero, List.set_cons_succ]
      refine wpAnyH_take (i := 27) (oi := { dst := some 92, op := Go.Op.move (Go.Operand.tmp 91), type := 4, pos := "law.go:71", after := #[{ on := 26, ground := Go.Ground.data }, { on := 21, ground := Go.Ground.chain }], guard := none }) (v := ?_) rfl (by kernel_rfl) (by kernel_rfl) (by kernel_rfl) (fun _ _ _ h => h) (Or.inl ⟨by rfl, ?_⟩) hHeld ?_
      rotate_left
      · intro w hSw; (try dsimp only at hSw); go_simp <;> with_reducible rfl
      try simp only [Act.put, List.setIfInBounds_toArray, List.set_cons_zero, List.set_cons_succ]
      refine wpAnyH_take (i := 28) (oi := { dst := some 93, op := Go.Op.move (Go.Operand.tmp 7), type := 23, pos := "law.go:71", after := #[{ on := 27, ground := Go.Ground.guard }], guard := some (27, true) }) (v := ?_) rfl (by kernel_rfl) (by kernel_rfl) (by kernel_rfl) (fun _ _ _ h => h) (Or.inl ⟨by rfl, ?_⟩) hHeld ?_
      rotate_left
      · intro w hSw; (try dsimp only at hSw); go_simp <;> with_reducible rfl
      try simp only [Act.put, List.setIfInBounds_toArray, List.set_cons_zero, List.set_cons_succ]
      refine wpAnyH_take (i := 29) (oi := { dst := some 94, op := Go.Op.move (Go.Operand.tmp 1), type := 23, pos := "law.go:71", after := #[{ on := 27, ground := Go.Ground.guard }], guard := some (27, true) }) (v := ?_) rfl (by kernel_rfl) (by kernel_rfl) (by kernel_rfl) (fun _ _ _ h => h) (Or.inl ⟨by rfl, ?_⟩) hHeld ?_
      rotate_left
      · intro w hSw; (try dsimp only at hSw); go_simp <;> with_reducible rfl
      try simp only [Act.put, List.setIfInBounds_toArray, List.set_cons_zero, List.set_cons_succ]
      refine wpAnyH_ready (rs := [30]) (by kernel_rfl) (by simp) ?_
      refine AllReadyH.cons rfl (fun K hK => ?_) AllReadyH.nil
      go_simp
      refine (K16.out _ hB).mono ?_
      rintro e y30 ⟨rfl, hb30⟩
      have hB := hb30
      clear hb30 K16
      refine hK.out _ _ (Kept.of_below hB) (fun hHeld2 => ?_)
      clear hK K hHeld
      have hHeld := hHeld2
      clear hHeld2
      try simp only [Act.put, List.setIfInBounds_toArray, List.set_cons_zero, List.set_cons_succ]
      refine wpAnyH_take (i := 31) (oi := { dst := some 96, op := Go.Op.pick (Go.Operand.tmp 92) (Go.Operand.tmp 95) (Go.Operand.const (Go.Value.bool false)), type := 4, pos := "law.go:71", after := #[{ on := 27, ground := Go.Ground.data }, { on := 30, ground := Go.Ground.data }], guard := none }) (v := ?_) rfl (by kernel_rfl) (by kernel_rfl) (by kernel_rfl) (fun _ _ _ h => h) (Or.inl ⟨by rfl, ?_⟩) hHeld ?_
      rotate_left
      · intro w hSw; (try dsimp only at hSw); go_simp <;> with_reducible rfl
      try simp only [Act.put, List.setIfInBounds_toArray, List.set_cons_zero, List.set_cons_succ]
      refine wpAnyH_take (i := 32) (oi := { dst := some 97, op := Go.Op.move (Go.Operand.tmp 96), type := 4, pos := "law.go:71", after := #[{ on := 31, ground := Go.Ground.data }, { on := 30, ground := Go.Ground.chain }], guard := none }) (v := ?_) rfl (by kernel_rfl) (by kernel_rfl) (by kernel_rfl) (fun _ _ _ h => h) (Or.inl ⟨by rfl, ?_⟩) hHeld ?_
      rotate_left
      · intro w hSw; (try dsimp only at hSw); go_simp <;> with_reducible rfl
      try simp only [Act.put, List.setIfInBounds_toArray, List.set_cons_zero, List.set_cons_succ]
      refine wpAnyH_ready (rs := [33]) (by kernel_rfl) (by simp) ?_
      refine AllReadyH.cons rfl (fun K hK => ?_) AllReadyH.nil
      go_simp
      refine (K17.out _ hB).mono ?_
      rintro e y33 ⟨rfl, hb33⟩
      have hB := hb33
      clear hb33 K17
      refine hK.out _ _ (Kept.of_below hB) (fun hHeld2 => ?_)
      clear hK K hHeld
      have hHeld := hHeld2
      clear hHeld2
      try simp only [Act.put, List.setIfInBounds_toArray, List.set_cons_zero, List.set_cons_succ]
      refine wpAnyH_take (i := 34) (oi := { dst := some 99, op := Go.Op.pick (Go.Operand.tmp 97) (Go.Operand.tmp 98) (Go.Operand.const (Go.Value.bool false)), type := 4, pos := "law.go:71", after := #[{ on := 32, ground := Go.Ground.data }, { on := 33, ground := Go.Ground.data }], guard := none }) (v := ?_) rfl (by kernel_rfl) (by kernel_rfl) (by kernel_rfl) (fun _ _ _ h => h) (Or.inl ⟨by rfl, ?_⟩) hHeld ?_
      rotate_left
      · intro w hSw; (try dsimp only at hSw); go_simp <;> with_reducible rfl
      try simp only [Act.put, List.setIfInBounds_toArray, List.set_cons_zero, List.set_cons_succ]
      refine wpAnyH_ready (rs := [35]) (by kernel_rfl) (by simp) ?_
      refine AllReadyH.cons rfl (fun K hK => ?_) AllReadyH.nil
      have c0 := (YN.out.below hB).cell 0
      have f0 := (YN.out.below hB).fr 0
      go_simp
      refine hK.out _ _ (Kept.setCell (X := fun b => b = N) (Kept.of_below hB) rfl 0 _) (fun hHeld2 => ?_)
      clear hK K hHeld
      have hHeld := hHeld2
      clear hHeld2
      try simp only [Act.put, List.setIfInBounds_toArray, List.set_cons_zero, List.set_cons_succ]
      refine wpAnyH_done (by kernel_rfl) ?_ _
      show K2 _ _
      refine hK2 _ _ ?_
      clear hHeld hK2 K2
      gi_wp2
      obtain ⟨wz, hwz⟩ : ∃ Z, y33.setCell ⟨N, 0, none⟩ (.bool true) = Z := ⟨_, rfl⟩
      rw [hwz]
      have hbz : Bx wz N #[.bool true] 4 := by
        have := (YN.out.below hB).setc (o := 0) (by simp) (.bool true)
        rw [hwz] at this
        simpa using this
      have hbB : Below N W wz := by rw [← hwz]; exact (HBY.out.trans (hB.mono (by have := HBY.out.size; omega))).setCell (p := ⟨N, 0, none⟩) (Nat.le_refl _) _
      have hmk : ∀ E ∈ [D2, Dd], N + 1 ≤ E ∧ wz.heap[E]? = some (.deferred (some [])) := by
        obtain ⟨m1, m2, m3, m4, m5, m6, m7⟩ := HMK.out
        intro E hE
        rw [← hwz]
        rcases List.mem_cons.1 hE with rfl | hE
        · exact ⟨m5, (Below.heap_setCell _ _ _ _ (by show E ≠ N; omega)).trans ((hB.block _ m2).trans m7)⟩
        · obtain rfl : E = Dd := by simpa using hE
          exact ⟨m4, (Below.heap_setCell _ _ _ _ (by show E ≠ N; omega)).trans ((hB.block _ m1).trans m6)⟩
      refine leaves_marks (N + 1) (fun w => Bx w N #[.bool true] 4 ∧ Below N W w) ?_ ?_ [D2, Dd] wz ⟨hbz, hbB⟩ (by have := HMK.out; simp; omega) hmk
      · rintro w k o1 ⟨r1, r2⟩ hk hw
        exact ⟨r1.put hw rfl, below_put r2 (by omega) _⟩
      · rintro w ⟨r1, r2⟩
        have rc := r1.cell 0
        first | exact ⟨_, resB rfl _ _ N true rc rfl, rfl, by rw [hN]; exact r2⟩ | exact ⟨_, resB rfl _ _ N true rc rfl, rfl, r2⟩ | exact ⟨_, _, resB rfl _ _ N true rc rfl, rfl, by rw [hN]; exact r2⟩
    case done =>
      rintro D2 Y hD2 ⟨h1, h2, h3⟩ hDef2
      have hch : N < P3 ∧ P3 < P10 ∧ P10 < P12 ∧ P12 < P14 := ⟨by have := HQP.out; omega, HP10.out, HP12.out, HP14.out⟩
      have YN : Hid (Bx Y N #[.bool false] 4) := HX11.out.kept h1 (by omega)
      have Y10 : Hid (Bx Y P10 #[.int .i64 cv, .int .i64 op, .int .i64 nn] 32) := HE11.out.kept h1 (by have := HP12.out; have := HP14.out; omega)
      have Y12 : Hid (Bx Y P12 #[.int .i64 cv, .int .i64 op, .int .i64 nn] 35) := HF11.out.kept h1 (by have := HP14.out; omega)
      have Y14 : Hid (Bx Y P14 #[.slice va nv vc] 24) := HV11.out.kept h1 (by omega)
      have Y15 : Hid (Bx Y (P14 + 1) #[.int .i64 (nv : Int)] 3) := h2
      obtain ⟨k0, ⟨ra, rc, hbx, _, hk0, _⟩, hdrop⟩ := HR11.out
      have Y3 : Hid (Bx Y P3 #[.slice ra R.length rc, .int .i64 (k0 : Int)] 30) := hbx.kept h1 (by have := HP10.out; have := HP12.out; have := HP14.out; omega)
      have hY1 : Below N w11 Y := h1.below (by omega) (fun b hb => by have := HP10.out; have := HP12.out; have := HP14.out; omega)
      have hY2 : Below w1.heap.size w11 Y := h1.below HB111.out.size (fun b hb => by have := HQP.out; have := HP10.out; have := HP12.out; have := HP14.out; omega)
      have HBY : Hid (Below N W Y) := HB11.out.trans hY1
      have HNY : Hid (N < P3 ∧ P3 < P10 ∧ P10 < P12 ∧ P12 < P14) := ⟨by have := HQP.out; omega, HP10.out, HP12.out, HP14.out⟩
      have DY1 : Hid (Ds Y (.slice p2 nd k2) D) := HD.out.below (by rw [hN]; exact HBY.out)
      have DY2 : Hid (Ds Y (.slice q2 nd j2) D) := HD1.out.below (HB111.out.trans hY2)
      obtain ⟨rl, hrl⟩ : ∃ r, R2.length = r := ⟨_, rfl⟩
      have hrk : rl = nr - k0 := by rw [← hrl, ← hdrop, List.length_drop, HNR.out]
      have hkn : k0 ≤ nr := by rw [← HNR.out]; exact hk0
      have hnb : nr ≤ 140737488355328 := by have := HR8.out; rw [HNR.out] at this; omega
      have hws : IntKind.i64.wrap ((nr : Int) - (k0 : Int)) = (rl : Int) := by rw [IntKind.wrap_i64]; omega
      have K14 : Hid (∀ Z, Below Y.heap.size Y Z → Calls Tryz.prog 14 #[.agg #[.int .i64 cv, .int .i64 op, .int .i64 nn]] Z fun e w' => e = .returned (.agg #[.int .i64 cv, .int .i64 op, .int .i64 nn]) ∧ Below Y.heap.size Y w') := fun Z hZ => (taken_any cv op nn Z).mono fun e w' ⟨he, hb⟩ => ⟨he, hZ.trans (hb.mono hZ.size)⟩
      have K15 : Hid (∀ Z, Below Y.heap.size Y Z → Calls Tryz.prog 15 #[ptr q] Z fun e w' => e = .returned (.int .i64 (rl : Int)) ∧ Below Y.heap.size Y w') := fun Z hZ => by
        rcases HD11.out with ⟨h, _⟩ | ⟨p', e', hdr⟩
        · cases h
        · obtain rfl : q = p' := by cases e'; rfl
          have hl := left_any ((hdr.kept h1 (by have := HQP.out; have := HP10.out; have := HP12.out; have := HP14.out; omega) rfl).below hZ)
          rw [hrl] at hl
          exact hl.mono fun e w' ⟨he, hw⟩ => ⟨he, by rw [hw]; exact hZ⟩
      have K16 : Hid (∀ Z, Below Y.heap.size Y Z → Calls Tryz.prog 16 #[.slice q2 nd j2, .slice p2 nd k2] Z fun e w' => e = .returned (.bool true) ∧ Below Y.heap.size Y w') := fun Z hZ => (same_doms (DY2.out.below hZ) (DY1.out.below hZ) HZD.out (by have := HL.out; omega)).mono fun e w' ⟨he, hb⟩ => ⟨he, hZ.trans (hb.mono hZ.size)⟩
      have K17 : Hid (∀ Z, Below Y.heap.size Y Z → Calls Tryz.prog 17 #[] Z fun e w' => e = .returned (.bool true) ∧ Below Y.heap.size Y w') := fun Z hZ => (known_true Z).mono fun e w' ⟨he, hb⟩ => ⟨he, hZ.trans (hb.mono hZ.size)⟩
      have HMK : Hid (Dd < Y.heap.size ∧ D2 < Y.heap.size ∧ Dd ≠ D2 ∧ N < Dd ∧ N < D2 ∧ Y.heap[Dd]? = some (.deferred (some [])) ∧ Y.heap[D2]? = some (.deferred (some []))) := ⟨(Array.getElem?_eq_some_iff.1 h3).1, (Array.getElem?_eq_some_iff.1 hDef2).1, by omega, by omega, by omega, h3, hDef2⟩
      have hEq := eqlDecR cv op nn
      clear hch h1 h2 h3 hDef2 hbx hdrop hY1 hY2 hrl hrk hkn hk0 HX1 HX2 HX3 HK11 HI11 HT11 HV11 HR11 HD11 HE11 HF11 HX11
      gi_upto_region 19 with (fail)
      rename_i K2 hK2
      refine wpIn_mono ((wpIn_wide (Q := Exit.then K2 (fun _ _ _ => False))).2 ?_) (fun e a w h => by cases e <;> first | exact h | exact h.elim)
      have hB : Below Y.heap.size Y Y.drew := Below.drew (Below.refl _ _)
      refine wp_region_held_drew (S := fun Z : World => Kept (fun b => b = N) Y Z) (by kernel_rfl) (Kept.of_below hB) (fun hHeld => ?_)
      refine wpAnyH_take (i := 0) (oi := { dst := some 65, op := Go.Op.load 32 (Go.Operand.tmp 10), type := 32, pos := "law.go:71", after := #[], guard := none }) (v := ?_) rfl (by kernel_rfl) (by kernel_rfl) (by kernel_rfl) (fun _ _ _ h => h) (Or.inl ⟨by rfl, ?_⟩) hHeld ?_
      rotate_left
      · intro w hSw; have z := Bx.kept Y10.out hSw (by have := HNY.out; omega); obtain ⟨z0, z1, z2⟩ := z.three; clear hSw; go_simp <;> with_reducible rfl
      try simp only [Act.put, List.setIfInBounds_toArray, List.set_cons_zero, List.set_cons_succ]
      refine wpAnyH_take (i := 2) (oi := { dst := some 67, op := Go.Op.load 35 (Go.Operand.tmp 12), type := 35, pos := "law.go:71", after := #[], guard := none }) (v := ?_) rfl (by kernel_rfl) (by kernel_rfl) (by kernel_rfl) (fun _ _ _ h => h) (Or.inl ⟨by rfl, ?_⟩) hHeld ?_
      rotate_left
      · intro w hSw; have z := Bx.kept Y12.out hSw (by have := HNY.out; omega); obtain ⟨z0, z1, z2⟩ := z.three; clear hSw; go_simp <;> with_reducible rfl
      try simp only [Act.put, List.setIfInBounds_toArray, List.set_cons_zero, List.set_cons_succ]
      refine wpAnyH_ready (rs := [1]) (by kernel_rfl) (by simp) ?_
      refine AllReadyH.cons rfl (fun K hK => ?_) AllReadyH.nil
      go_simp
      refine (K14.out _ hB).mono ?_
      rintro e y1 ⟨rfl, hb1⟩
      have hB := hb1
      clear hb1 K14
      refine hK.out _ _ (Kept.of_below hB) (fun hHeld2 => ?_)
      clear hK K hHeld
      have hHeld := hHeld2
      clear hHeld2
      try simp only [Act.put, List.setIfInBounds_toArray, List.set_cons_zero, List.set_cons_succ]
      refine wpAnyH_take (i := 3) (oi := { dst := some 68, op := Go.Op.binOp Go.BinOp.eql 35 (Go.Operand.tmp 66) (Go.Operand.tmp 67) 35, type := 4, pos := "law.go:71", after := #[{ on := 1, ground := Go.Ground.data }, { on := 2, ground := Go.Ground.data }], guard := none }) (v := ?_) rfl (by kernel_rfl) (by kernel_rfl) (by kernel_rfl) (fun _ _ _ h => h) (Or.inl ⟨by rfl, ?_⟩) hHeld ?_
      rotate_left
      · intro w hSw; (try dsimp only at hSw); go_simp <;> with_reducible rfl
      try simp only [Act.put, List.setIfInBounds_toArray, List.set_cons_zero, List.set_cons_succ]
      refine wpAnyH_take (i := 4) (oi := { dst := some 69, op := Go.Op.move (Go.Operand.tmp 68), type := 4, pos := "law.go:71", after := #[{ on := 3, ground := Go.Ground.data }, { on := 1, ground := Go.Ground.chain }], guard := none }) (v := ?_) rfl (by kernel_rfl) (by kernel_rfl) (by kernel_rfl) (fun _ _ _ h => h) (Or.inl ⟨by rfl, ?_⟩) hHeld ?_
      rotate_left
      · intro w hSw; (try dsimp only at hSw); go_simp <;> with_reducible rfl
      try simp only [Act.put, List.setIfInBounds_toArray, List.set_cons_zero, List.set_cons_succ]
      refine wpAnyH_take (i := 5) (oi := { dst := some 70, op := Go.Op.move (Go.Operand.tmp 11), type := 4, pos := "law.go:71", after := #[{ on := 4, ground := Go.Ground.guard }], guard := some (4, true) }) (v := ?_) rfl (by kernel_rfl) (by kernel_rfl) (by kernel_rfl) (fun _ _ _ h => h) (Or.inl ⟨by rfl, ?_⟩) hHeld ?_
      rotate_left
      · intro w hSw; (try dsimp only at hSw); go_simp <;> with_reducible rfl
      try simp only [Act.put, List.setIfInBounds_toArray, List.set_cons_zero, List.set_cons_succ]
      refine wpAnyH_take (i := 6) (oi := { dst := some 71, op := Go.Op.move (Go.Operand.tmp 13), type := 4, pos := "law.go:71", after := #[{ on := 4, ground := Go.Ground.guard }], guard := some (4, true) }) (v := ?_) rfl (by kernel_rfl) (by kernel_rfl) (by kernel_rfl) (fun _ _ _ h => h) (Or.inl ⟨by rfl, ?_⟩) hHeld ?_
      rotate_left
      · intro w hSw; (try dsimp only at hSw); go_simp <;> with_reducible rfl
      try simp only [Act.put, List.setIfInBounds_toArray, List.set_cons_zero, List.set_cons_succ]
      refine wpAnyH_take (i := 7) (oi := { dst := some 72, op := Go.Op.binOp Go.BinOp.eql 4 (Go.Operand.tmp 70) (Go.Operand.tmp 71) 4, type := 4, pos := "law.go:71", after := #[{ on := 5, ground := Go.Ground.data }, { on := 6, ground := Go.Ground.data }, { on := 4, ground := Go.Ground.guard }], guard := some (4, true) }) (v := ?_) rfl (by kernel_rfl) (by kernel_rfl) (by kernel_rfl) (fun _ _ _ h => h) (Or.inl ⟨by rfl, ?_⟩) hHeld ?_
      rotate_left
      · intro w hSw; (try dsimp only at hSw); go_simp <;> with_reducible rfl
      try simp only [Act.put, List.setIfInBounds_toArray, List.set_cons_zero, List.set_cons_succ]
      refine wpAnyH_take (i := 8) (oi := { dst := some 73, op := Go.Op.pick (Go.Operand.tmp 69) (Go.Operand.tmp 72) (Go.Operand.const (Go.Value.bool false)), type := 4, pos := "law.go:71", after := #[{ on := 4, ground := Go.Ground.data }, { on := 7, ground := Go.Ground.data }], guard := none }) (v := ?_) rfl (by kernel_rfl) (by kernel_rfl) (by kernel_rfl) (fun _ _ _ h => h) (Or.inl ⟨by rfl, ?_⟩) hHeld ?_
      rotate_left
      · intro w hSw; (try dsimp only at hSw); go_simp <;> with_reducible rfl
      try simp only [Act.put, List.setIfInBounds_toArray, List.set_cons_zero, List.set_cons_succ]
      refine wpAnyH_take (i := 9) (oi := { dst := some 74, op := Go.Op.move (Go.Operand.tmp 73), type := 4, pos := "law.go:71", after := #[{ on := 8, ground := Go.Ground.data }, { on := 4, ground := Go.Ground.chain }], guard := none }) (v := ?_) rfl (by kernel_rfl) (by kernel_rfl) (by kernel_rfl) (fun _ _ _ h => h) (Or.inl ⟨by rfl, ?_⟩) hHeld ?_
      rotate_left
      · intro w hSw; (try dsimp only at hSw); go_simp <;> with_reducible rfl
      try simp only [Act.put, List.setIfInBounds_toArray, List.set_cons_zero, List.set_cons_succ]
      refine wpAnyH_take (i := 10) (oi := { dst := some 75, op := Go.Op.move (Go.Operand.tmp 8), type := 26, pos := "law.go:71", after := #[{ on := 9, ground := Go.Ground.guard }], guard := some (9, true) }) (v := ?_) rfl (by kernel_rfl) (by kernel_rfl) (by kernel_rfl) (fun _ _ _ h => h) (Or.inl ⟨by rfl, ?_⟩) hHeld ?_
      rotate_left
      · intro w hSw; (try dsimp only at hSw); go_simp <;> with_reducible rfl
      try simp only [Act.put, List.setIfInBounds_toArray, List.set_cons_zero, List.set_cons_succ]
      refine wpAnyH_take (i := 12) (oi := { dst := some 77, op := Go.Op.move (Go.Operand.tmp 2), type := 24, pos := "law.go:71", after := #[{ on := 9, ground := Go.Ground.guard }], guard := some (9, true) }) (v := ?_) rfl (by kernel_rfl) (by kernel_rfl) (by kernel_rfl) (fun _ _ _ h => h) (Or.inl ⟨by rfl, ?_⟩) hHeld ?_
      rotate_left
      · intro w hSw; (try dsimp only at hSw); go_simp <;> with_reducible rfl
      try simp only [Act.put, List.setIfInBounds_toArray, List.set_cons_zero, List.set_cons_succ]
      refine wpAnyH_take (i := 13) (oi := { dst := some 78, op := Go.Op.call { callee := Go.Callee.builtin Go.Builtin.len, args := #[Go.Operand.tmp 77], argTypes := #[24] }, type := 3, pos := "law.go:71", after := #[{ on := 12, ground := Go.Ground.data }, { on := 9, ground := Go.Ground.guard }], guard := some (9, true) }) (v := ?_) rfl (by kernel_rfl) (by kernel_rfl) (by kernel_rfl) (fun _ _ _ h => h) (Or.inl ⟨by rfl, ?_⟩) hHeld ?_
      rotate_left
      · intro w hSw; (try dsimp only at hSw); go_simp <;> with_reducible rfl
      try simp only [Act.put, List.setIfInBounds_toArray, List.set_cons_zero, List.set_cons_succ]
      refine wpAnyH_take (i := 14) (oi := { dst := some 79, op := Go.Op.move (Go.Operand.tmp 9), type := 28, pos := "law.go:71", after := #[{ on := 9, ground := Go.Ground.guard }], guard := some (9, true) }) (v := ?_) rfl (by kernel_rfl) (by kernel_rfl) (by kernel_rfl) (fun _ _ _ h => h) (Or.inl ⟨by rfl, ?_⟩) hHeld ?_
      rotate_left
      · intro w hSw; (try dsimp only at hSw); go_simp <;> with_reducible rfl
      try simp only [Act.put, List.setIfInBounds_toArray, List.set_cons_zero, List.set_cons_succ]
      refine wpAnyH_take (i := 15) (oi := { dst := some 80, op := Go.Op.nilCheck (Go.Operand.tmp 79), type := 0, pos := "law.go:71", after := #[{ on := 14, ground := Go.Ground.data }, { on := 9, ground := Go.Ground.guard }], guard := some (9, true) }) (v := ?_) rfl (by kernel_rfl) (by kernel_rfl) (by kernel_rfl) (fun _ _ _ h => h) (Or.inl ⟨by rfl, ?_⟩) hHeld ?_
      rotate_left
      · intro w hSw; (try dsimp only at hSw); go_simp <;> with_reducible rfl
      try simp only [Act.put, List.setIfInBounds_toArray, List.set_cons_zero, List.set_cons_succ]
      refine wpAnyH_take (i := 16) (oi := { dst := some 81, op := Go.Op.fieldAddr 30 (Go.Operand.tmp 80) 1, type := 0, pos := "law.go:71", after := #[{ on := 15, ground := Go.Ground.data }, { on := 9, ground := Go.Ground.guard }], guard := some (9, true) }) (v := ?_) rfl (by kernel_rfl) (by kernel_rfl) (by kernel_rfl) (fun _ _ _ h => h) (Or.inl ⟨by rfl, ?_⟩) hHeld ?_
      rotate_left
      · intro w hSw; (try dsimp only at hSw); go_simp <;> with_reducible rfl
      try simp only [Act.put, List.setIfInBounds_toArray, List.set_cons_zero, List.set_cons_succ]
      refine wpAnyH_take (i := 17) (oi := { dst := some 82, op := Go.Op.load 3 (Go.Operand.tmp 81), type := 3, pos := "law.go:71", after := #[{ on := 16, ground := Go.Ground.data }, { on := 9, ground := Go.Ground.guard }], guard := some (9, true) }) (v := ?_) rfl (by kernel_rfl) (by kernel_rfl) (by kernel_rfl) (fun _ _ _ h => h) (Or.inl ⟨by rfl, ?_⟩) hHeld ?_
      rotate_left
      · intro w hSw; have z := Bx.kept Y3.out hSw (by have := HNY.out; omega); have z0 := z.cell 0; have z1 := z.cell 1; clear hSw; go_simp <;> with_reducible rfl
      try simp only [Act.put, List.setIfInBounds_toArray, List.set_cons_zero, List.set_cons_succ]
      refine wpAnyH_take (i := 18) (oi := { dst := some 83, op := Go.Op.binOp Go.BinOp.sub 3 (Go.Operand.tmp 78) (Go.Operand.tmp 82) 3, type := 3, pos := "law.go:71", after := #[{ on := 13, ground := Go.Ground.data }, { on := 17, ground := Go.Ground.data }, { on := 9, ground := Go.Ground.guard }], guard := some (9, true) }) (v := ?_) rfl (by kernel_rfl) (by kernel_rfl) (by kernel_rfl) (fun _ _ _ h => h) (Or.inl ⟨by rfl, ?_⟩) hHeld ?_
      rotate_left
      · intro w hSw; (try dsimp only at hSw); go_simp <;> with_reducible rfl
      try simp only [Act.put, List.setIfInBounds_toArray, List.set_cons_zero, List.set_cons_succ]
      refine wpAnyH_ready (rs := [11]) (by kernel_rfl) (by simp) ?_
      refine AllReadyH.cons rfl (fun K hK => ?_) AllReadyH.nil
      go_simp
      refine (K15.out _ hB).mono ?_
      rintro e y11 ⟨rfl, hb11⟩
      have hB := hb11
      clear hb11 K15
      refine hK.out _ _ (Kept.of_below hB) (fun hHeld2 => ?_)
      clear hK K hHeld
      have hHeld := hHeld2
      clear hHeld2
      try simp only [Act.put, List.setIfInBounds_toArray, List.set_cons_zero, List.set_cons_succ]
      refine wpAnyH_take (i := 19) (oi := { dst := some 84, op := Go.Op.binOp Go.BinOp.eql 3 (Go.Operand.tmp 76) (Go.Operand.tmp 83) 3, type := 4, pos := "law.go:71", after := #[{ on := 11, ground := Go.Ground.data }, { on := 18, ground := Go.Ground.data }, { on := 9, ground := Go.Ground.guard }], guard := some (9, true) }) (v := ?_) rfl (by kernel_rfl) (by kernel_rfl) (by kernel_rfl) (fun _ _ _ h => h) (Or.inl ⟨by rfl, ?_⟩) hHeld ?_
      rotate_left
      · intro w hSw; (try dsimp only at hSw); go_simp <;> with_reducible rfl
      try simp only [Act.put, List.setIfInBounds_toArray, List.set_cons_zero, List.set_cons_succ]
      refine wpAnyH_take (i := 20) (oi := { dst := some 85, op := Go.Op.pick (Go.Operand.tmp 74) (Go.Operand.tmp 84) (Go.Operand.const (Go.Value.bool false)), type := 4, pos := "law.go:71", after := #[{ on := 9, ground := Go.Ground.data }, { on := 19, ground := Go.Ground.data }], guard := none }) (v := ?_) rfl (by kernel_rfl) (by kernel_rfl) (by kernel_rfl) (fun _ _ _ h => h) (Or.inl ⟨by rfl, ?_⟩) hHeld ?_
      rotate_left
      · intro w hSw; (try dsimp only at hSw); go_simp <;> with_reducible rfl
      try simp only [Act.put, List.setIfInBounds_toArray, List.set_cons_zero, List.set_cons_succ]
      refine wpAnyH_take (i := 21) (oi := { dst := some 86, op := Go.Op.move (Go.Operand.tmp 85), type := 4, pos := "law.go:71", after := #[{ on := 20, ground := Go.Ground.data }, { on := 11, ground := Go.Ground.chain }], guard := none }) (v := ?_) rfl (by kernel_rfl) (by kernel_rfl) (by kernel_rfl) (fun _ _ _ h => h) (Or.inl ⟨by rfl, ?_⟩) hHeld ?_
      rotate_left
      · intro w hSw; (try dsimp only at hSw); go_simp <;> with_reducible rfl
      try simp only [Act.put, List.setIfInBounds_toArray, List.set_cons_zero, List.set_cons_succ]
      refine wpAnyH_take (i := 22) (oi := { dst := some 87, op := Go.Op.load 3 (Go.Operand.tmp 15), type := 3, pos := "law.go:71", after := #[{ on := 21, ground := Go.Ground.guard }], guard := some (21, true) }) (v := ?_) rfl (by kernel_rfl) (by kernel_rfl) (by kernel_rfl) (fun _ _ _ h => h) (Or.inl ⟨by rfl, ?_⟩) hHeld ?_
      rotate_left
      · intro w hSw; have z := Bx.kept Y15.out hSw (by have := HNY.out; omega); have z0 := z.cell 0; clear hSw; go_simp <;> with_reducible rfl
      try simp only [Act.put, List.setIfInBounds_toArray, List.set_cons_zero, List.set_cons_succ]
      refine wpAnyH_take (i := 23) (oi := { dst := some 88, op := Go.Op.load 24 (Go.Operand.tmp 14), type := 24, pos := "law.go:71", after := #[{ on := 21, ground := Go.Ground.guard }], guard := some (21, true) }) (v := ?_) rfl (by kernel_rfl) (by kernel_rfl) (by kernel_rfl) (fun _ _ _ h => h) (Or.inl ⟨by rfl, ?_⟩) hHeld ?_
      rotate_left
      · intro w hSw; have z := Bx.kept Y14.out hSw (by have := HNY.out; omega); have z0 := z.cell 0; clear hSw; go_simp <;> with_reducible rfl
      try simp only [Act.put, List.setIfInBounds_toArray, List.set_cons_zero, List.set_cons_succ]
      refine wpAnyH_take (i := 24) (oi := { dst := some 89, op := Go.Op.call { callee := Go.Callee.builtin Go.Builtin.len, args := #[Go.Operand.tmp 88], argTypes := #[24] }, type := 3, pos := "law.go:71", after := #[{ on := 23, ground := Go.Ground.data }, { on := 21, ground := Go.Ground.guard }], guard := some (21, true) }) (v := ?_) rfl (by kernel_rfl) (by kernel_rfl) (by kernel_rfl) (fun _ _ _ h => h) (Or.inl ⟨by rfl, ?_⟩) hHeld ?_
      rotate_left
      · intro w hSw; (try dsimp only at hSw); go_simp <;> with_reducible rfl
      try simp only [Act.put, List.setIfInBounds_toArray, List.set_cons_zero, List.set_cons_succ]
      refine wpAnyH_take (i := 25) (oi := { dst := some 90, op := Go.Op.binOp Go.BinOp.eql 3 (Go.Operand.tmp 87) (Go.Operand.tmp 89) 3, type := 4, pos := "law.go:71", after := #[{ on := 22, ground := Go.Ground.data }, { on := 24, ground := Go.Ground.data }, { on := 21, ground := Go.Ground.guard }], guard := some (21, true) }) (v := ?_) rfl (by kernel_rfl) (by kernel_rfl) (by kernel_rfl) (fun _ _ _ h => h) (Or.inl ⟨by rfl, ?_⟩) hHeld ?_
      rotate_left
      · intro w hSw; (try dsimp only at hSw); go_simp <;> with_reducible rfl
      try simp only [Act.put, List.setIfInBounds_toArray, List.set_cons_zero, List.set_cons_succ]
      refine wpAnyH_take (i := 26) (oi := { dst := some 91, op := Go.Op.pick (Go.Operand.tmp 86) (Go.Operand.tmp 90) (Go.Operand.const (Go.Value.bool false)), type := 4, pos := "law.go:71", after := #[{ on := 21, ground := Go.Ground.data }, { on := 25, ground := Go.Ground.data }], guard := none }) (v := ?_) rfl (by kernel_rfl) (by kernel_rfl) (by kernel_rfl) (fun _ _ _ h => h) (Or.inl ⟨by rfl, ?_⟩) hHeld ?_
      rotate_left
      · intro w hSw; (try dsimp only at hSw); go_simp <;> with_reducible rfl
      try simp only [Act.put, List.setIfInBounds_toArray, List.set_cons_zero, List.set_cons_succ]
      refine wpAnyH_take (i := 27) (oi := { dst := some 92, op := Go.Op.move (Go.Operand.tmp 91), type := 4, pos := "law.go:71", after := #[{ on := 26, ground := Go.Ground.data }, { on := 21, ground := Go.Ground.chain }], guard := none }) (v := ?_) rfl (by kernel_rfl) (by kernel_rfl) (by kernel_rfl) (fun _ _ _ h => h) (Or.inl ⟨by rfl, ?_⟩) hHeld ?_
      rotate_left
      · intro w hSw; (try dsimp only at hSw); go_simp <;> with_reducible rfl
      try simp only [Act.put, List.setIfInBounds_toArray, List.set_cons_zero, List.set_cons_succ]
      refine wpAnyH_take (i := 28) (oi := { dst := some 93, op := Go.Op.move (Go.Operand.tmp 7), type := 23, pos := "law.go:71", after := #[{ on := 27, ground := Go.Ground.guard }], guard := some (27, true) }) (v := ?_) rfl (by kernel_rfl) (by kernel_rfl) (by kernel_rfl) (fun _ _ _ h => h) (Or.inl ⟨by rfl, ?_⟩) hHeld ?_
      rotate_left
      · intro w hSw; (try dsimp only at hSw); go_simp <;> with_reducible rfl
      try simp only [Act.put, List.setIfInBounds_toArray, List.set_cons_zero, List.set_cons_succ]
      refine wpAnyH_take (i := 29) (oi := { dst := some 94, op := Go.Op.move (Go.Operand.tmp 1), type := 23, pos := "law.go:71", after := #[{ on := 27, ground := Go.Ground.guard }], guard := some (27, true) }) (v := ?_) rfl (by kernel_rfl) (by kernel_rfl) (by kernel_rfl) (fun _ _ _ h => h) (Or.inl ⟨by rfl, ?_⟩) hHeld ?_
      rotate_left
      · intro w hSw; (try dsimp only at hSw); go_simp <;> with_reducible rfl
      try simp only [Act.put, List.setIfInBounds_toArray, List.set_cons_zero, List.set_cons_succ]
      refine wpAnyH_ready (rs := [30]) (by kernel_rfl) (by simp) ?_
      refine AllReadyH.cons rfl (fun K hK => ?_) AllReadyH.nil
      go_simp
      refine (K16.out _ hB).mono ?_
      rintro e y30 ⟨rfl, hb30⟩
      have hB := hb30
      clear hb30 K16
      refine hK.out _ _ (Kept.of_below hB) (fun hHeld2 => ?_)
      clear hK K hHeld
      have hHeld := hHeld2
      clear hHeld2
      try simp only [Act.put, List.setIfInBounds_toArray, List.set_cons_zero, List.set_cons_succ]
      refine wpAnyH_take (i := 31) (oi := { dst := some 96, op := Go.Op.pick (Go.Operand.tmp 92) (Go.Operand.tmp 95) (Go.Operand.const (Go.Value.bool false)), type := 4, pos := "law.go:71", after := #[{ on := 27, ground := Go.Ground.data }, { on := 30, ground := Go.Ground.data }], guard := none }) (v := ?_) rfl (by kernel_rfl) (by kernel_rfl) (by kernel_rfl) (fun _ _ _ h => h) (Or.inl ⟨by rfl, ?_⟩) hHeld ?_
      rotate_left
      · intro w hSw; (try dsimp only at hSw); go_simp <;> with_reducible rfl
      try simp only [Act.put, List.setIfInBounds_toArray, List.set_cons_zero, List.set_cons_succ]
      refine wpAnyH_take (i := 32) (oi := { dst := some 97, op := Go.Op.move (Go.Operand.tmp 96), type := 4, pos := "law.go:71", after := #[{ on := 31, ground := Go.Ground.data }, { on := 30, ground := Go.Ground.chain }], guard := none }) (v := ?_) rfl (by kernel_rfl) (by kernel_rfl) (by kernel_rfl) (fun _ _ _ h => h) (Or.inl ⟨by rfl, ?_⟩) hHeld ?_
      rotate_left
      · intro w hSw; (try dsimp only at hSw); go_simp <;> with_reducible rfl
      try simp only [Act.put, List.setIfInBounds_toArray, List.set_cons_zero, List.set_cons_succ]
      refine wpAnyH_ready (rs := [33]) (by kernel_rfl) (by simp) ?_
      refine AllReadyH.cons rfl (fun K hK => ?_) AllReadyH.nil
      go_simp
      refine (K17.out _ hB).mono ?_
      rintro e y33 ⟨rfl, hb33⟩
      have hB := hb33
      clear hb33 K17
      refine hK.out _ _ (Kept.of_below hB) (fun hHeld2 => ?_)
      clear hK K hHeld
      have hHeld := hHeld2
      clear hHeld2
      try simp only [Act.put, List.setIfInBounds_toArray, List.set_cons_zero, List.set_cons_succ]
      refine wpAnyH_take (i := 34) (oi := { dst := some 99, op := Go.Op.pick (Go.Operand.tmp 97) (Go.Operand.tmp 98) (Go.Operand.const (Go.Value.bool false)), type := 4, pos := "law.go:71", after := #[{ on := 32, ground := Go.Ground.data }, { on := 33, ground := Go.Ground.data }], guard := none }) (v := ?_) rfl (by kernel_rfl) (by kernel_rfl) (by kernel_rfl) (fun _ _ _ h => h) (Or.inl ⟨by rfl, ?_⟩) hHeld ?_
      rotate_left
      · intro w hSw; (try dsimp only at hSw); go_simp <;> with_reducible rfl
      try simp only [Act.put, List.setIfInBounds_toArray, List.set_cons_zero, List.set_cons_succ]
      refine wpAnyH_ready (rs := [35]) (by kernel_rfl) (by simp) ?_
      refine AllReadyH.cons rfl (fun K hK => ?_) AllReadyH.nil
      have c0 := (YN.out.below hB).cell 0
      have f0 := (YN.out.below hB).fr 0
      go_simp
      refine hK.out _ _ (Kept.setCell (X := fun b => b = N) (Kept.of_below hB) rfl 0 _) (fun hHeld2 => ?_)
      clear hK K hHeld
      have hHeld := hHeld2
      clear hHeld2
      try simp only [Act.put, List.setIfInBounds_toArray, List.set_cons_zero, List.set_cons_succ]
      refine wpAnyH_done (by kernel_rfl) ?_ _
      show K2 _ _
      refine hK2 _ _ ?_
      clear hHeld hK2 K2
      gi_wp2
      obtain ⟨wz, hwz⟩ : ∃ Z, y33.setCell ⟨N, 0, none⟩ (.bool true) = Z := ⟨_, rfl⟩
      rw [hwz]
      have hbz : Bx wz N #[.bool true] 4 := by
        have := (YN.out.below hB).setc (o := 0) (by simp) (.bool true)
        rw [hwz] at this
        simpa using this
      have hbB : Below N W wz := by rw [← hwz]; exact (HBY.out.trans (hB.mono (by have := HBY.out.size; omega))).setCell (p := ⟨N, 0, none⟩) (Nat.le_refl _) _
      have hmk : ∀ E ∈ [D2, Dd], N + 1 ≤ E ∧ wz.heap[E]? = some (.deferred (some [])) := by
        obtain ⟨m1, m2, m3, m4, m5, m6, m7⟩ := HMK.out
        intro E hE
        rw [← hwz]
        rcases List.mem_cons.1 hE with rfl | hE
        · exact ⟨m5, (Below.heap_setCell _ _ _ _ (by show E ≠ N; omega)).trans ((hB.block _ m2).trans m7)⟩
        · obtain rfl : E = Dd := by simpa using hE
          exact ⟨m4, (Below.heap_setCell _ _ _ _ (by show E ≠ N; omega)).trans ((hB.block _ m1).trans m6)⟩
      refine leaves_marks (N + 1) (fun w => Bx w N #[.bool true] 4 ∧ Below N W w) ?_ ?_ [D2, Dd] wz ⟨hbz, hbB⟩ (by have := HMK.out; simp; omega) hmk
      · rintro w k o1 ⟨r1, r2⟩ hk hw
        exact ⟨r1.put hw rfl, below_put r2 (by omega) _⟩
      · rintro w ⟨r1, r2⟩
        have rc := r1.cell 0
        first | exact ⟨_, resB rfl _ _ N true rc rfl, rfl, by rw [hN]; exact r2⟩ | exact ⟨_, resB rfl _ _ N true rc rfl, rfl, r2⟩ | exact ⟨_, _, resB rfl _ _ N true rc rfl, rfl, by rw [hN]; exact r2⟩
end Go.Proofs.YthkliicmoandmaaGreatDoor
