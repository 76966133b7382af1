/-
  What is proved here: the next decision, where the first phase has open variables, the variable that is taken is one of whole numbers, and nothing is drawn.
-/
import Derived.Test.YthkliicmoandmaaGreatDoorBgj
import Derived.Deep.RegionHeld3
namespace Go.Proofs.YthkliicmoandmaaGreatDoor
open Go.RowKit Go.Shelf
set_option linter.unusedVariables false
set_option linter.unusedSimpArgs false

set_option maxRecDepth 100000 in
set_option maxHeartbeats 4000000 in
theorem choose_first {W : World} {b off n c : Nat} {pv : Option Addr} {nv kv : Nat} {sel val : Int} {p2 : Option Addr} {nd k2 : Nat} {l : List Int} {D : List MD} {f : MD → Int} (rv : Value) (hrv : rv.oneCell' = true) (hn : 0 < n) (h0 : W.cell? ⟨b, off, none⟩ = some (.slice pv nv kv)) (h1 : W.cell? ⟨b, off + 1, none⟩ = some (.int .i64 sel)) (h2 : W.cell? ⟨b, off + 2, none⟩ = some (.int .i64 val))
    (hv : Ns W (.slice pv nv kv) l) (hd : Ds W (.slice p2 nd k2) D) (hD : ∀ d ∈ D, Good d) (hl : l.length * 8 ≤ 140737488355328) (hDl : D.length ≤ 9223372036854775806) (ho : openL l D ≠ []) (hsel : sel ≠ 5) (hr : RankC sel f) (hv2 : val ≠ 2) (hv5 : val ≠ 5)
    (vn : Nat) (d : MD) (hw : (whichM (rkV f D) (openL l D)).1 = (vn : Int)) (hdd : D[vn]? = some d) (hset : d.set = false) (hrl : 0 < d.r.length) (hrl2 : d.r.length ≤ 4611686018427387903)
    (hbd : -1000000 ≤ Dm.lo d.r 0 ∧ Dm.lo d.r 0 ≤ 1000000 ∧ -1000000 ≤ Dm.hi d.r (d.r.length - 1) ∧ Dm.hi d.r (d.r.length - 1) ≤ 1000000) :
    Calls Tryz.prog 10 #[.slice (some ⟨b, off, none⟩) n c, .slice p2 nd k2, rv] W fun e w' => e = .returned (.tuple #[.agg #[.int .i64 (vn : Int), .int .i64 (numM val (Dm.lo d.r 0) (Dm.hi d.r (d.r.length - 1))).1, .int .i64 (numM val (Dm.lo d.r 0) (Dm.hi d.r (d.r.length - 1))).2], .bool true]) ∧ Below W.heap.size W w' := by
  obtain ⟨N, hN⟩ : ∃ N, W.heap.size = N := ⟨_, rfl⟩
  obtain ⟨W0, hW0⟩ : ∃ Q, W.alloc (Obj.cells #[.int .i64 0, .int .i64 0, .int .i64 0] 32) = Q := ⟨_, rfl⟩
  have hb0 : Below W.heap.size W W0 := by rw [← hW0]; exact (Below.refl _ W).alloc (Nat.le_refl _) _
  have hz0 : Bx W0 N #[.int .i64 0, .int .i64 0, .int .i64 0] 32 := by rw [← hW0]; exact Bx.new' hN _ _
  have hbl : b < W.heap.size := World.block_lt_of_cell? W ⟨b, off, none⟩ h0
  have kn := next_first (c := c) hn ((hb0.cell (p := ⟨b, off, none⟩) hbl).trans h0) ((hb0.cell (p := ⟨b, off + 1, none⟩) hbl).trans h1) ((hb0.cell (p := ⟨b, off + 2, none⟩) hbl).trans h2) (hv.below hb0) (hd.below hb0) hD hl hDl ho
  obtain ⟨numq, hnumq⟩ : ∃ q, numM val (Dm.lo d.r 0) (Dm.hi d.r (d.r.length - 1)) = q := ⟨_, rfl⟩
  have HNQ : Hid _ := hnumq
  rw [hnumq]
  have HW0 : Hid _ := hW0
  have HZ0 : Hid _ := hz0
  have HB0 : Hid (Below W.heap.size W W0) := hb0
  have HN : Hid (W.heap.size = N) := hN
  have HD : Hid (Ds W (.slice p2 nd k2) D) := hd
  have HG : Hid _ := hD
  have HR : Hid (RankC sel f) := hr
  have HWH : Hid _ := hw
  have HDD : Hid _ := hdd
  have HOL : Hid (0 < (openL l D).length) := List.length_pos_iff.2 ho
  have HLB : Hid ((openL l D).length ≤ 9223372036854775806) := by have := openL_le l D; unfold Hid; omega
  have HRest : Hid _ := And.intro hset (And.intro hrl (And.intro hrl2 (And.intro hbd (And.intro hDl (And.intro hv2 (And.intro hv5 hsel))))))
  clear hW0 hz0 hb0 h0 h1 h2 hv hd hD hl ho hr hw hdd hset hrl hrl2 hbd hDl hv2 hv5 hsel hnumq
  rw [hN]
  go_enter Tryz.func10, Tryz.ntmps10
  go_wp2_with fail
  rw [HW0.out]
  clear hN
  refine kn.mono ?_
  clear kn
  rintro e w1 ⟨v, rfl, hoi, hb1⟩
  obtain ⟨va, vc, rfl⟩ := hoi.shape
  obtain ⟨ov, hov⟩ : ∃ q, openL l D = q := ⟨_, rfl⟩
  rw [hov] at hoi HWH HLB HOL ⊢
  have hoO : ∀ x ∈ ov, openB D x = true := by rw [← hov]; intro x hx; exact (List.mem_filter.1 hx).2
  obtain ⟨on, hon⟩ : ∃ q, ov.length = q := ⟨_, rfl⟩
  rw [hon] at HLB HOL ⊢
  have hoi' := hoi.ns
  rw [hon] at hoi'
  have hon0 : 0 < on := HOL.out
  have hone : ((on : Int) == 0) = false := by simp; omega
  have hone2 : ¬ (on : Int) = 0 := by omega
  obtain ⟨M, hM⟩ : ∃ q, w1.heap.size = q := ⟨_, rfl⟩
  obtain ⟨w1a, hw1a⟩ : ∃ Q, w1.alloc (Obj.cells #[.slice va on vc, .int .i64 sel, .int .i64 val] 71) = Q := ⟨_, rfl⟩
  have hp1 : Bx w1a M #[.slice va on vc, .int .i64 sel, .int .i64 val] 71 := by rw [← hw1a]; exact Bx.new' hM _ _
  have hba : Below w1.heap.size w1 w1a := by rw [← hw1a]; exact (Below.refl _ _).alloc (Nat.le_refl _) _
  have hbW : Below W.heap.size W w1a := HB0.out.trans ((hb1.trans (hba.mono hb1.size)).mono HB0.out.size)
  have hDs := HD.out.below hbW
  have kw := which_any (val := val) rv HRest.out.2.2.2.2.2.2.2 HR.out (hoi'.below hba) hDs HG.out hoO (by rw [hon]; exact HLB.out) HRest.out.2.2.2.2.1 hrv
  rw [HWH.out] at kw
  have HP1 : Hid _ := hp1
  have HBA : Hid (Below W.heap.size W w1a) := hbW
  have HZ1 : Hid (Bx w1a N _ _) := (HZ0.out.below hb1).below hba
  have HM : Hid (N < M) := by have := (HZ0.out.below hb1).lt; unfold Hid; omega
  have HW1 : Hid _ := hw1a
  clear hw1a hba hbW hDs hp1 hoi hoi' hb1 hoO
  go_wp2_with fail
  rw [HW1.out]
  clear hM
  refine kw.mono ?_
  clear kw
  rintro e w2 ⟨rfl, hb2⟩
  have hbW2 : Below W.heap.size W w2 := HBA.out.trans (hb2.mono HBA.out.size)
  obtain ⟨b2, off2, rfl, hb2l, hDn, c0, c1, c2, c3, c4, c5, hDc, g0, g1, g2, g3, g4, g5⟩ := (HD.out.below hbW2).at HDD.out
  obtain ⟨bo, ra, n0, rc, a1, n1, cc1, a2, n2, cc2, x, y, hcs, HE, H1, H2, H3⟩ := hDc.look
  have hbo : bo = false := by rw [← HE.out.1]; exact HRest.out.1
  injection hcs with e0 hcs
  injection hcs with e1 hcs
  rw [e0, hbo] at g0
  rw [e1] at g1
  clear hcs e0 e1 hDc g2 g3 g4 g5 H2 H3 hbo
  have hln : d.r.length = n0 := HE.out.2.1
  have KN : Hid (Calls Tryz.prog 41 #[.int .i64 val, .slice ra n0 rc, rv] w2.drew fun e w' => e = .returned (.tuple #[.int .i64 numq.1, .int .i64 numq.2]) ∧ Below w2.drew.heap.size w2.drew w') := by
    have := number_few (H1.out.kept (Kept.of_below ((Below.refl _ _).drew))) HRest.out.2.1 HRest.out.2.2.1 val HRest.out.2.2.2.2.2.1 HRest.out.2.2.2.2.2.2.1 rv hrv HRest.out.2.2.2.1
    rw [HNQ.out] at this
    exact this
  have HZ2 : Hid (Bx w2 N #[.int .i64 0, .int .i64 0, .int .i64 0] 32) := Bx.below HZ1.out hb2
  have hp2 := HP1.out.below hb2
  have z2 := hp2.three.2.2
  have HBW2 : Hid (Below N W w2) := by rw [← HN.out]; exact hbW2
  have hvn : vn < nd := by have := (List.getElem?_eq_some_iff.1 HDD.out).1; omega
  have HSK : Hid (∀ w3, Below w2.drew.heap.size w2.drew w3 → (w3.cell? ⟨M, 2, none⟩ = some (.int .i64 val) ∧ w3.cell? ⟨b2, off2 + vn * 6 + 1, none⟩ = some (.slice ra n0 rc))) := fun w3 hb => ⟨(hb.cell (p := ⟨M, 2, none⟩) hp2.lt).trans z2, (hb.cell (p := ⟨b2, _, none⟩) hb2l).trans g1⟩
  have HS0 : Hid (w2.drew.cell? ⟨M, 2, none⟩ = some (.int .i64 val) ∧ w2.drew.cell? ⟨b2, off2 + vn * 6 + 1, none⟩ = some (.slice ra n0 rc)) := HSK.out _ (Below.refl _ _)
  have hmN : M ≠ N := by have := HM.out; omega
  clear hbW2 hb2 hp2 H1 HE hln hDn HRest
  go_upto_region 8 with (fail)
  refine wp_region_held_drew (S := fun X : World => X.cell? ⟨M, 2, none⟩ = some (.int .i64 val) ∧ X.cell? ⟨b2, off2 + vn * 6 + 1, none⟩ = some (.slice ra n0 rc)) (by kernel_rfl) (HS0.out) (fun hHeld => ?_)
  refine wpAnyH_take (i := 0) (oi := { dst := some 47, op := Go.Op.fieldAddr 71 (Go.Operand.tmp 8) 2, type := 0, pos := "choose.go:66", after := #[], guard := none }) (v := ?_) rfl (by kernel_rfl) (by kernel_rfl) (by kernel_rfl) (fun _ _ _ h => h) (Or.inl ⟨by rfl, ?_⟩) hHeld ?_
  rotate_left
  · intro w hSw; (try dsimp only at hSw); go_simp <;> with_reducible rfl
  try simp only [Act.put, List.setIfInBounds_toArray, List.set_cons_zero, List.set_cons_succ]
  refine wpAnyH_take (i := 1) (oi := { dst := some 48, op := Go.Op.load 3 (Go.Operand.tmp 47), type := 3, pos := "choose.go:66", after := #[{ on := 0, ground := Go.Ground.data }], guard := none }) (v := ?_) rfl (by kernel_rfl) (by kernel_rfl) (by kernel_rfl) (fun _ _ _ h => h) (Or.inl ⟨by rfl, ?_⟩) hHeld ?_
  rotate_left
  · intro w hSw; obtain ⟨q0, q1⟩ := hSw; go_simp <;> with_reducible rfl
  try simp only [Act.put, List.setIfInBounds_toArray, List.set_cons_zero, List.set_cons_succ]
  refine wpAnyH_take (i := 2) (oi := { dst := some 49, op := Go.Op.move (Go.Operand.tmp 1), type := 23, pos := "choose.go:66", after := #[], guard := none }) (v := ?_) rfl (by kernel_rfl) (by kernel_rfl) (by kernel_rfl) (fun _ _ _ h => h) (Or.inl ⟨by rfl, ?_⟩) hHeld ?_
  rotate_left
  · intro w hSw; (try dsimp only at hSw); go_simp <;> with_reducible rfl
  try simp only [Act.put, List.setIfInBounds_toArray, List.set_cons_zero, List.set_cons_succ]
  refine wpAnyH_take (i := 3) (oi := { dst := some 50, op := Go.Op.move (Go.Operand.tmp 9), type := 3, pos := "choose.go:66", after := #[], guard := none }) (v := ?_) rfl (by kernel_rfl) (by kernel_rfl) (by kernel_rfl) (fun _ _ _ h => h) (Or.inl ⟨by rfl, ?_⟩) hHeld ?_
  rotate_left
  · intro w hSw; (try dsimp only at hSw); go_simp <;> with_reducible rfl
  try simp only [Act.put, List.setIfInBounds_toArray, List.set_cons_zero, List.set_cons_succ]
  refine wpAnyH_take (i := 4) (oi := { dst := some 51, op := Go.Op.indexAddr 23 (Go.Operand.tmp 49) (Go.Operand.tmp 50), type := 0, pos := "choose.go:66", after := #[{ on := 2, ground := Go.Ground.data }, { on := 3, ground := Go.Ground.data }], guard := none }) (v := ?_) rfl (by kernel_rfl) (by kernel_rfl) (by kernel_rfl) (fun _ _ _ h => h) (Or.inl ⟨by rfl, ?_⟩) hHeld ?_
  rotate_left
  · intro w hSw; (try dsimp only at hSw); go_simp <;> with_reducible rfl
  try simp only [Act.put, List.setIfInBounds_toArray, List.set_cons_zero, List.set_cons_succ]
  refine wpAnyH_take (i := 5) (oi := { dst := some 52, op := Go.Op.fieldAddr 50 (Go.Operand.tmp 51) 1, type := 0, pos := "choose.go:66", after := #[{ on := 4, ground := Go.Ground.data }], guard := none }) (v := ?_) rfl (by kernel_rfl) (by kernel_rfl) (by kernel_rfl) (fun _ _ _ h => h) (Or.inl ⟨by rfl, ?_⟩) hHeld ?_
  rotate_left
  · intro w hSw; (try dsimp only at hSw); go_simp <;> with_reducible rfl
  try simp only [Act.put, List.setIfInBounds_toArray, List.set_cons_zero, List.set_cons_succ]
  refine wpAnyH_take (i := 6) (oi := { dst := some 53, op := Go.Op.load 47 (Go.Operand.tmp 52), type := 47, pos := "choose.go:66", after := #[{ on := 5, ground := Go.Ground.data }], guard := none }) (v := ?_) rfl (by kernel_rfl) (by kernel_rfl) (by kernel_rfl) (fun _ _ _ h => h) (Or.inl ⟨by rfl, ?_⟩) hHeld ?_
  rotate_left
  · intro w hSw; obtain ⟨q0, q1⟩ := hSw; go_simp <;> with_reducible rfl
  try simp only [Act.put, List.setIfInBounds_toArray, List.set_cons_zero, List.set_cons_succ]
  refine wpAnyH_take (i := 7) (oi := { dst := some 54, op := Go.Op.move (Go.Operand.tmp 2), type := 26, pos := "choose.go:66", after := #[], guard := none }) (v := ?_) rfl (by kernel_rfl) (by kernel_rfl) (by kernel_rfl) (fun _ _ _ h => h) (Or.inl ⟨by rfl, ?_⟩) hHeld ?_
  rotate_left
  · intro w hSw; (try dsimp only at hSw); go_simp <;> with_reducible rfl
  try simp only [Act.put, List.setIfInBounds_toArray, List.set_cons_zero, List.set_cons_succ]
  refine wpAnyH_ready (rs := [8]) (by kernel_rfl) (by simp) ?_
  refine AllReadyH.cons rfl (fun K hK => ?_) AllReadyH.nil
  go_simp
  refine KN.out.mono ?_
  rintro e w3 ⟨rfl, hb3⟩
  have HB3 : Hid (Below w2.drew.heap.size w2.drew w3) := hb3
  clear hb3
  refine hK.out _ _ (HSK.out _ HB3.out) (fun hHeld2 => ?_)
  clear hK K hHeld
  have hHeld := hHeld2
  clear hHeld2
  try simp only [Act.put, List.setIfInBounds_toArray, List.set_cons_zero, List.set_cons_succ]
  refine wpAnyH_take (i := 9) (oi := { dst := some 46, op := Go.Op.move (Go.Operand.tmp 55), type := 82, pos := "choose.go:66", after := #[{ on := 8, ground := Go.Ground.data }], guard := none }) (v := ?_) rfl (by kernel_rfl) (by kernel_rfl) (by kernel_rfl) (fun _ _ _ h => h) (Or.inl ⟨by rfl, ?_⟩) hHeld ?_
  rotate_left
  · intro w hSw; (try dsimp only at hSw); go_simp <;> with_reducible rfl
  try simp only [Act.put, List.setIfInBounds_toArray, List.set_cons_zero, List.set_cons_succ]
  refine wpAnyH_take (i := 10) (oi := { dst := some 56, op := Go.Op.extract (Go.Operand.tmp 46) 0, type := 3, pos := "choose.go:66", after := #[{ on := 9, ground := Go.Ground.data }], guard := none }) (v := ?_) rfl (by kernel_rfl) (by kernel_rfl) (by kernel_rfl) (fun _ _ _ h => h) (Or.inl ⟨by rfl, ?_⟩) hHeld ?_
  rotate_left
  · intro w hSw; (try dsimp only at hSw); go_simp <;> with_reducible rfl
  try simp only [Act.put, List.setIfInBounds_toArray, List.set_cons_zero, List.set_cons_succ]
  refine wpAnyH_take (i := 11) (oi := { dst := some 57, op := Go.Op.extract (Go.Operand.tmp 46) 1, type := 2, pos := "choose.go:66", after := #[{ on := 9, ground := Go.Ground.data }, { on := 12, ground := Go.Ground.gcOnly Go.Departure.lateStores }], guard := none }) (v := ?_) rfl (by kernel_rfl) (by kernel_rfl) (by kernel_rfl) (fun _ _ _ h => h) (Or.inl ⟨by rfl, ?_⟩) hHeld ?_
  rotate_left
  · intro w hSw; (try dsimp only at hSw); go_simp <;> with_reducible rfl
  try simp only [Act.put, List.setIfInBounds_toArray, List.set_cons_zero, List.set_cons_succ]
  refine wpAnyH_take (i := 12) (oi := { dst := some 12, op := Go.Op.assign (Go.Operand.tmp 56), type := 3, pos := "choose.go:66", after := #[{ on := 10, ground := Go.Ground.data }, { on := 8, ground := Go.Ground.chain }, { on := 0, ground := Go.Ground.phase }, { on := 1, ground := Go.Ground.phase }, { on := 2, ground := Go.Ground.phase }, { on := 3, ground := Go.Ground.phase }, { on := 4, ground := Go.Ground.phase }, { on := 5, ground := Go.Ground.phase }, { on := 6, ground := Go.Ground.phase }, { on := 7, ground := Go.Ground.phase }, { on := 8, ground := Go.Ground.phase }, { on := 9, ground := Go.Ground.phase }, { on := 10, ground := Go.Ground.phase }, { on := 11, ground := Go.Ground.textOnly Go.Departure.lateStores }], guard := none }) (v := ?_) rfl (by kernel_rfl) (by kernel_rfl) (by kernel_rfl) (fun _ _ _ h => h) (Or.inl ⟨by rfl, ?_⟩) hHeld ?_
  rotate_left
  · intro w hSw; (try dsimp only at hSw); go_simp <;> with_reducible rfl
  try simp only [Act.put, List.setIfInBounds_toArray, List.set_cons_zero, List.set_cons_succ]
  refine wpAnyH_take (i := 13) (oi := { dst := some 13, op := Go.Op.assign (Go.Operand.tmp 57), type := 2, pos := "choose.go:66", after := #[{ on := 11, ground := Go.Ground.data }, { on := 12, ground := Go.Ground.chain }, { on := 0, ground := Go.Ground.phase }, { on := 1, ground := Go.Ground.phase }, { on := 2, ground := Go.Ground.phase }, { on := 3, ground := Go.Ground.phase }, { on := 4, ground := Go.Ground.phase }, { on := 5, ground := Go.Ground.phase }, { on := 6, ground := Go.Ground.phase }, { on := 7, ground := Go.Ground.phase }, { on := 8, ground := Go.Ground.phase }, { on := 9, ground := Go.Ground.phase }, { on := 10, ground := Go.Ground.phase }, { on := 11, ground := Go.Ground.phase }, { on := 12, ground := Go.Ground.phase }], guard := none }) (v := ?_) rfl (by kernel_rfl) (by kernel_rfl) (by kernel_rfl) (fun _ _ _ h => h) (Or.inl ⟨by rfl, ?_⟩) hHeld ?_
  rotate_left
  · intro w hSw; (try dsimp only at hSw); go_simp <;> with_reducible rfl
  try simp only [Act.put, List.setIfInBounds_toArray, List.set_cons_zero, List.set_cons_succ]
  refine wpAnyH_done (by kernel_rfl) ?_ _
  have hz3 : Bx w3 N #[.int .i64 0, .int .i64 0, .int .i64 0] 32 := (HZ2.out.drew 1).below HB3.out
  have f0 := hz3.fr 0
  have f1 := hz3.fr 1
  have f2 := hz3.fr 2
  obtain ⟨y0, y1, y2⟩ := hz3.three
  have HB : Hid (Below N W w3) := (below_drewN HBW2.out 1).trans (HB3.out.mono (by have := HBW2.out.size; have := HN.out; show N ≤ w2.heap.size; omega))
  have HZ3 : Hid _ := hz3
  clear hz3
  go_wp2
  refine ⟨rfl, _, res_ct rfl _ (HZ3.out.set3 _ _ _) (by with_unfolding_all rfl) rfl Tryz.underlying32 (by kernel_rfl) (v := .bool true) (by with_unfolding_all rfl), rfl, ?_⟩
  exact ((HB.out.setCell (p := ⟨N, 0, none⟩) (Nat.le_refl _) _).setCell (p := ⟨N, 1, none⟩) (Nat.le_refl _) _).setCell (p := ⟨N, 2, none⟩) (Nat.le_refl _) _
end Go.Proofs.YthkliicmoandmaaGreatDoor
