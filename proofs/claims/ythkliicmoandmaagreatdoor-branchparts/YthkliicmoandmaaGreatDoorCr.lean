/-
  What is proved here: the walk of BranchParts.
-/
import Derived.Test.YthkliicmoandmaaGreatDoorCpj
import Derived.Test.YthkliicmoandmaaGreatDoorBk
namespace Go.Proofs.YthkliicmoandmaaGreatDoor
open Go.RowKit Go.Shelf
set_option linter.unusedVariables false
set_option linter.unusedSimpArgs false

theorem siz_nonneg (d : MD) : 0 ≤ sizA d := by
  unfold sizA
  split
  · rw [St.count_NS]; have := St.NS_nonneg ((St.takenD (sdM d)).up.length - (St.takenD (sdM d)).lo.length) (St.takenD (sdM d)).lo.length (St.takenD (sdM d)).least (St.takenD (sdM d)).most; unfold St.NSd; omega
  · rw [Dm.sizeR_vals (Dm.right_ord (Dm.tk_right d.r)).1.1]; omega
theorem wrap_in {x : Int} (h1 : -9223372036854775808 ≤ x) (h2 : x ≤ 9223372036854775807) : IntKind.i64.wrap x = x := by
  rw [IntKind.wrap_i64]; omega
theorem wp_ways2 {P : Program} {c : Code} {K : Act → World → Prop} {Q : Exit → Act → World → Prop} {a : Act} {w : World} {act : Nat → List Value → Act} (R : Nat → List Value → World → Prop) (h : c.wp P (Exit.then (fun a' w' => ∃ n q, a' = act n q ∧ R n q w') (fun _ _ _ => False)) a w) (hK : ∀ n q w', R n q w' → K (act n q) w') : c.wp P (Exit.then K Q) a w :=
  Code.wp_mono (fun e b x q => by
    cases e with
    | normal =>
      have q' : ∃ n q, b = act n q ∧ R n q x := q
      obtain ⟨n, q, e1, q2⟩ := q'
      rw [e1]
      exact hK _ _ _ q2
    | _ => exact (q : False).elim) h
theorem stepR {ops : Array Oper} {o : Oper} {a : Act} {w : World} {K : Act → World → Prop} {Q : Exit → Act → World → Prop} {E : Prop} {old : Array Value} {t : TypeId} (hgd : o.guard = none) (ty : TypeId) (x y : Operand) (ho : o.op = .store ty x y) (g : Nat) (c : List Value) (hx : a.eval x = .pointer (some ⟨g, 0, none⟩)) (hy : a.eval y = .agg c.toArray)
    (hg : Bx w g old t) (hold : old.size = 6) (hc : c.length = 6) (hi : (Tryz.prog.info? ty).map (·.size) = some 6) (h1 : ∀ v ∈ c, v.oneCell' = true) (h : K (a.put o.dst undef) (w.setRow g c.toArray)) : if Region.wanted o (yielded ops a.tmps) = true then Oper.wp Tryz.prog o a w K Q else E := by
  have hw : Region.wanted o (yielded ops a.tmps) = true := by simp [Region.wanted, hgd]
  rw [if_pos hw]
  unfold Oper.wp execOp
  simp only [ho, hx, hy, Instr.storeAt, Instr.sureAddr, Sem.run_bind, Sem.run_pure, Result.andThen_ok, run_storeVar_row w g t ty old c.toArray hg.h (by rw [hi]; simp [hc]) (by simp [hold, hc]) (all_oneCell_toArray h1)]
  exact h
theorem six_of2 {X : Nat → Prop} {w : World} {q : List Value} {d : MD} (h : Dc X w q d) : ∃ (b : Bool) (s1 s2 s3 : Option Addr × Nat × Nat) (x y : Int), q = [.bool b, .slice s1.1 s1.2.1 s1.2.2, .slice s2.1 s2.2.1 s2.2.2, .slice s3.1 s3.2.1 s3.2.2, .int .i64 x, .int .i64 y] := by
  obtain ⟨ra, rc, a1, c1, a2, c2, e, _⟩ := h
  exact ⟨_, (ra, _, rc), (a1, _, c1), (a2, _, c2), _, _, e⟩
abbrev q3_0 : Oper := { dst := some 24, op := Go.Op.load 50 (Go.Operand.tmp 4), type := 50, pos := "law.go:89", after := #[], guard := none }
abbrev q3_1 : Oper := { dst := some 25, op := Go.Op.load 32 (Go.Operand.tmp 7), type := 32, pos := "law.go:89", after := #[], guard := none }
abbrev q3_4 : Oper := { dst := some 23, op := Go.Op.move (Go.Operand.tmp 27), type := 56, pos := "law.go:89", after := #[{ on := 3, ground := Go.Ground.data }], guard := none }
abbrev q3_5 : Oper := { dst := some 28, op := Go.Op.extract (Go.Operand.tmp 23) 0, type := 50, pos := "law.go:89", after := #[{ on := 4, ground := Go.Ground.data }], guard := none }
abbrev q3_6 : Oper := { dst := some 29, op := Go.Op.extract (Go.Operand.tmp 23) 1, type := 55, pos := "law.go:89", after := #[{ on := 4, ground := Go.Ground.data }, { on := 8, ground := Go.Ground.gcOnly Go.Departure.lateStores }], guard := none }
abbrev q3_9 : Oper := { dst := some 11, op := Go.Op.assign (Go.Operand.tmp 29), type := 55, pos := "law.go:89", after := #[{ on := 6, ground := Go.Ground.data }, { on := 8, ground := Go.Ground.chain }, { on := 0, ground := Go.Ground.phase }, { on := 1, ground := Go.Ground.phase }, { on := 2, ground := Go.Ground.phase }, { on := 3, ground := Go.Ground.phase }, { on := 4, ground := Go.Ground.phase }, { on := 5, ground := Go.Ground.phase }, { on := 6, ground := Go.Ground.phase }, { on := 7, ground := Go.Ground.phase }, { on := 8, ground := Go.Ground.phase }], guard := none }
abbrev q11_0 : Oper := { dst := some 61, op := Go.Op.move (Go.Operand.tmp 12), type := 4, pos := "law.go:99", after := #[], guard := none }
abbrev q11_1 : Oper := { dst := some 62, op := Go.Op.move (Go.Operand.tmp 61), type := 4, pos := "law.go:99", after := #[{ on := 0, ground := Go.Ground.data }], guard := none }
abbrev q11_2 : Oper := { dst := some 63, op := Go.Op.move (Go.Operand.tmp 13), type := 4, pos := "law.go:99", after := #[{ on := 1, ground := Go.Ground.guard }], guard := some (1, true) }
abbrev q11_3 : Oper := { dst := some 64, op := Go.Op.pick (Go.Operand.tmp 62) (Go.Operand.tmp 63) (Go.Operand.const (Go.Value.bool false)), type := 4, pos := "law.go:99", after := #[{ on := 1, ground := Go.Ground.data }, { on := 2, ground := Go.Ground.data }], guard := none }
abbrev q11_4 : Oper := { dst := some 65, op := Go.Op.unOp Go.UnOp.not 4 (Go.Operand.tmp 64), type := 4, pos := "law.go:99", after := #[{ on := 3, ground := Go.Ground.data }], guard := none }
abbrev q11_5 : Oper := { dst := some 66, op := Go.Op.move (Go.Operand.tmp 65), type := 4, pos := "law.go:99", after := #[{ on := 4, ground := Go.Ground.data }, { on := 1, ground := Go.Ground.chain }], guard := none }
abbrev q11_6 : Oper := { dst := some 67, op := Go.Op.move (Go.Operand.tmp 12), type := 4, pos := "law.go:99", after := #[{ on := 5, ground := Go.Ground.guard }], guard := some (5, true) }
abbrev q11_7 : Oper := { dst := some 68, op := Go.Op.move (Go.Operand.tmp 67), type := 4, pos := "law.go:99", after := #[{ on := 6, ground := Go.Ground.data }, { on := 5, ground := Go.Ground.chain }, { on := 5, ground := Go.Ground.guard }], guard := some (5, true) }
abbrev q11_8 : Oper := { dst := some 69, op := Go.Op.move (Go.Operand.tmp 13), type := 4, pos := "law.go:99", after := #[{ on := 7, ground := Go.Ground.guard }], guard := some (7, false) }
abbrev q11_9 : Oper := { dst := some 70, op := Go.Op.pick (Go.Operand.tmp 68) (Go.Operand.const (Go.Value.bool true)) (Go.Operand.tmp 69), type := 4, pos := "law.go:99", after := #[{ on := 7, ground := Go.Ground.data }, { on := 8, ground := Go.Ground.data }, { on := 5, ground := Go.Ground.guard }], guard := some (5, true) }
abbrev q11_10 : Oper := { dst := some 71, op := Go.Op.move (Go.Operand.tmp 14), type := 4, pos := "law.go:99", after := #[{ on := 5, ground := Go.Ground.guard }], guard := some (5, true) }
abbrev q11_11 : Oper := { dst := some 72, op := Go.Op.binOp Go.BinOp.eql 4 (Go.Operand.tmp 70) (Go.Operand.tmp 71) 4, type := 4, pos := "law.go:99", after := #[{ on := 9, ground := Go.Ground.data }, { on := 10, ground := Go.Ground.data }, { on := 5, ground := Go.Ground.guard }], guard := some (5, true) }
abbrev q11_12 : Oper := { dst := some 73, op := Go.Op.pick (Go.Operand.tmp 66) (Go.Operand.tmp 72) (Go.Operand.const (Go.Value.bool false)), type := 4, pos := "law.go:99", after := #[{ on := 5, ground := Go.Ground.data }, { on := 11, ground := Go.Ground.data }], guard := none }
abbrev q11_13 : Oper := { dst := some 74, op := Go.Op.move (Go.Operand.tmp 73), type := 4, pos := "law.go:99", after := #[{ on := 12, ground := Go.Ground.data }, { on := 7, ground := Go.Ground.chain }], guard := none }
abbrev q11_14 : Oper := { dst := some 75, op := Go.Op.move (Go.Operand.tmp 14), type := 4, pos := "law.go:99", after := #[{ on := 13, ground := Go.Ground.guard }], guard := some (13, true) }
abbrev q11_15 : Oper := { dst := some 76, op := Go.Op.unOp Go.UnOp.not 4 (Go.Operand.tmp 75), type := 4, pos := "law.go:99", after := #[{ on := 14, ground := Go.Ground.data }, { on := 13, ground := Go.Ground.guard }], guard := some (13, true) }
abbrev q11_16 : Oper := { dst := some 77, op := Go.Op.move (Go.Operand.tmp 76), type := 4, pos := "law.go:99", after := #[{ on := 15, ground := Go.Ground.data }, { on := 13, ground := Go.Ground.chain }, { on := 13, ground := Go.Ground.guard }], guard := some (13, true) }
abbrev q11_17 : Oper := { dst := some 78, op := Go.Op.move (Go.Operand.tmp 12), type := 4, pos := "law.go:99", after := #[{ on := 16, ground := Go.Ground.guard }], guard := some (16, false) }
abbrev q11_18 : Oper := { dst := some 79, op := Go.Op.load 32 (Go.Operand.tmp 7), type := 32, pos := "law.go:99", after := #[{ on := 16, ground := Go.Ground.guard }], guard := some (16, false) }
abbrev q11_19 : Oper := { dst := some 80, op := Go.Op.load 52 (Go.Operand.tmp 5), type := 52, pos := "law.go:99", after := #[{ on := 16, ground := Go.Ground.guard }], guard := some (16, false) }
abbrev q11_20 : Oper := { dst := some 81, op := Go.Op.call { callee := Go.Callee.value (Go.Operand.func 25), args := #[Go.Operand.tmp 79, Go.Operand.tmp 80], argTypes := #[32, 52] }, type := 4, pos := "law.go:99", after := #[{ on := 18, ground := Go.Ground.data }, { on := 19, ground := Go.Ground.data }, { on := 16, ground := Go.Ground.chain }, { on := 16, ground := Go.Ground.guard }], guard := some (16, false) }
abbrev q11_21 : Oper := { dst := some 82, op := Go.Op.binOp Go.BinOp.eql 4 (Go.Operand.tmp 78) (Go.Operand.tmp 81) 4, type := 4, pos := "law.go:99", after := #[{ on := 17, ground := Go.Ground.data }, { on := 20, ground := Go.Ground.data }, { on := 16, ground := Go.Ground.guard }], guard := some (16, false) }
abbrev q11_22 : Oper := { dst := some 83, op := Go.Op.pick (Go.Operand.tmp 77) (Go.Operand.const (Go.Value.bool true)) (Go.Operand.tmp 82), type := 4, pos := "law.go:99", after := #[{ on := 16, ground := Go.Ground.data }, { on := 21, ground := Go.Ground.data }, { on := 13, ground := Go.Ground.guard }], guard := some (13, true) }
abbrev q11_23 : Oper := { dst := some 84, op := Go.Op.pick (Go.Operand.tmp 74) (Go.Operand.tmp 83) (Go.Operand.const (Go.Value.bool false)), type := 4, pos := "law.go:99", after := #[{ on := 13, ground := Go.Ground.data }, { on := 22, ground := Go.Ground.data }], guard := none }
abbrev q11_24 : Oper := { dst := some 85, op := Go.Op.move (Go.Operand.tmp 84), type := 4, pos := "law.go:99", after := #[{ on := 23, ground := Go.Ground.data }, { on := 20, ground := Go.Ground.chain }], guard := none }
abbrev q11_25 : Oper := { dst := some 86, op := Go.Op.load 50 (Go.Operand.tmp 4), type := 50, pos := "law.go:99", after := #[{ on := 24, ground := Go.Ground.guard }], guard := some (24, true) }
abbrev q11_27 : Oper := { dst := some 88, op := Go.Op.binOp Go.BinOp.geq 2 (Go.Operand.tmp 87) (Go.Operand.const (Go.Value.int Go.IntKind.i64 2305843009213693952)) 2, type := 4, pos := "law.go:99", after := #[{ on := 26, ground := Go.Ground.data }, { on := 24, ground := Go.Ground.guard }], guard := some (24, true) }
abbrev q11_28 : Oper := { dst := some 89, op := Go.Op.move (Go.Operand.tmp 88), type := 4, pos := "law.go:99", after := #[{ on := 27, ground := Go.Ground.data }, { on := 26, ground := Go.Ground.chain }, { on := 24, ground := Go.Ground.guard }], guard := some (24, true) }
abbrev q11_29 : Oper := { dst := some 90, op := Go.Op.load 50 (Go.Operand.tmp 8), type := 50, pos := "law.go:99", after := #[{ on := 28, ground := Go.Ground.guard }], guard := some (28, false) }
abbrev q11_30 : Oper := { dst := some 91, op := Go.Op.call { callee := Go.Callee.value (Go.Operand.func 31), args := #[Go.Operand.tmp 90], argTypes := #[50] }, type := 2, pos := "law.go:99", after := #[{ on := 29, ground := Go.Ground.data }, { on := 28, ground := Go.Ground.chain }, { on := 28, ground := Go.Ground.guard }], guard := some (28, false) }
abbrev q11_31 : Oper := { dst := some 92, op := Go.Op.load 50 (Go.Operand.tmp 10), type := 50, pos := "law.go:99", after := #[{ on := 28, ground := Go.Ground.guard }], guard := some (28, false) }
abbrev q11_32 : Oper := { dst := some 93, op := Go.Op.call { callee := Go.Callee.value (Go.Operand.func 31), args := #[Go.Operand.tmp 92], argTypes := #[50] }, type := 2, pos := "law.go:99", after := #[{ on := 31, ground := Go.Ground.data }, { on := 30, ground := Go.Ground.chain }, { on := 28, ground := Go.Ground.guard }], guard := some (28, false) }
abbrev q11_33 : Oper := { dst := some 94, op := Go.Op.binOp Go.BinOp.add 2 (Go.Operand.tmp 91) (Go.Operand.tmp 93) 2, type := 2, pos := "law.go:99", after := #[{ on := 30, ground := Go.Ground.data }, { on := 32, ground := Go.Ground.data }, { on := 28, ground := Go.Ground.guard }], guard := some (28, false) }
abbrev q11_34 : Oper := { dst := some 95, op := Go.Op.load 50 (Go.Operand.tmp 4), type := 50, pos := "law.go:99", after := #[{ on := 28, ground := Go.Ground.guard }], guard := some (28, false) }
abbrev q11_35 : Oper := { dst := some 96, op := Go.Op.call { callee := Go.Callee.value (Go.Operand.func 31), args := #[Go.Operand.tmp 95], argTypes := #[50] }, type := 2, pos := "law.go:99", after := #[{ on := 34, ground := Go.Ground.data }, { on := 32, ground := Go.Ground.chain }, { on := 28, ground := Go.Ground.guard }], guard := some (28, false) }
abbrev q11_36 : Oper := { dst := some 97, op := Go.Op.binOp Go.BinOp.eql 2 (Go.Operand.tmp 94) (Go.Operand.tmp 96) 2, type := 4, pos := "law.go:99", after := #[{ on := 33, ground := Go.Ground.data }, { on := 35, ground := Go.Ground.data }, { on := 28, ground := Go.Ground.guard }], guard := some (28, false) }
abbrev q11_37 : Oper := { dst := some 98, op := Go.Op.pick (Go.Operand.tmp 89) (Go.Operand.const (Go.Value.bool true)) (Go.Operand.tmp 97), type := 4, pos := "law.go:99", after := #[{ on := 28, ground := Go.Ground.data }, { on := 36, ground := Go.Ground.data }, { on := 24, ground := Go.Ground.guard }], guard := some (24, true) }
abbrev q11_38 : Oper := { dst := some 99, op := Go.Op.pick (Go.Operand.tmp 85) (Go.Operand.tmp 98) (Go.Operand.const (Go.Value.bool false)), type := 4, pos := "law.go:99", after := #[{ on := 24, ground := Go.Ground.data }, { on := 37, ground := Go.Ground.data }], guard := none }
abbrev q11_39 : Oper := { dst := some 100, op := Go.Op.move (Go.Operand.tmp 99), type := 4, pos := "law.go:99", after := #[{ on := 38, ground := Go.Ground.data }, { on := 35, ground := Go.Ground.chain }], guard := none }
abbrev q11_41 : Oper := { dst := some 102, op := Go.Op.pick (Go.Operand.tmp 100) (Go.Operand.tmp 101) (Go.Operand.const (Go.Value.bool false)), type := 4, pos := "law.go:99", after := #[{ on := 39, ground := Go.Ground.data }, { on := 40, ground := Go.Ground.data }], guard := none }
abbrev q11_42 : Oper := { dst := some 6, op := Go.Op.assign (Go.Operand.tmp 102), type := 4, pos := "law.go:99", after := #[{ on := 41, ground := Go.Ground.data }, { on := 40, ground := Go.Ground.chain }, { on := 0, ground := Go.Ground.phase }, { on := 1, ground := Go.Ground.phase }, { on := 2, ground := Go.Ground.phase }, { on := 3, ground := Go.Ground.phase }, { on := 4, ground := Go.Ground.phase }, { on := 5, ground := Go.Ground.phase }, { on := 6, ground := Go.Ground.phase }, { on := 7, ground := Go.Ground.phase }, { on := 8, ground := Go.Ground.phase }, { on := 9, ground := Go.Ground.phase }, { on := 10, ground := Go.Ground.phase }, { on := 11, ground := Go.Ground.phase }, { on := 12, ground := Go.Ground.phase }, { on := 13, ground := Go.Ground.phase }, { on := 14, ground := Go.Ground.phase }, { on := 15, ground := Go.Ground.phase }, { on := 16, ground := Go.Ground.phase }, { on := 17, ground := Go.Ground.phase }, { on := 18, ground := Go.Ground.phase }, { on := 19, ground := Go.Ground.phase }, { on := 20, ground := Go.Ground.phase }, { on := 21, ground := Go.Ground.phase }, { on := 22, ground := Go.Ground.phase }, { on := 23, ground := Go.Ground.phase }, { on := 24, ground := Go.Ground.phase }, { on := 25, ground := Go.Ground.phase }, { on := 26, ground := Go.Ground.phase }, { on := 27, ground := Go.Ground.phase }, { on := 28, ground := Go.Ground.phase }, { on := 29, ground := Go.Ground.phase }, { on := 30, ground := Go.Ground.phase }, { on := 31, ground := Go.Ground.phase }, { on := 32, ground := Go.Ground.phase }, { on := 33, ground := Go.Ground.phase }, { on := 34, ground := Go.Ground.phase }, { on := 35, ground := Go.Ground.phase }, { on := 36, ground := Go.Ground.phase }, { on := 37, ground := Go.Ground.phase }, { on := 38, ground := Go.Ground.phase }, { on := 39, ground := Go.Ground.phase }, { on := 40, ground := Go.Ground.phase }, { on := 41, ground := Go.Ground.phase }], guard := none }

set_option maxRecDepth 100000 in
set_option maxHeartbeats 4000000 in
theorem parts_walk_true {X : Nat → Prop} {W : World} {c k : List Value} {d : MD} {st : Bool} {vn : Int} {vs : List Int} (v op n : Int) (h : Dc X W c d) (hf : Dm.FitsR d.r) (hn : Dm.Fits n) (hk : Vc W k st vn vs) (hst : d.set = true) :
    Calls Tryz.prog 5 #[.agg #[.int .i64 v, .int .i64 op, .int .i64 n], .agg c.toArray, .agg k.toArray] W fun e w' => e = .returned (.bool true) ∧ Below W.heap.size W w' := by
  obtain ⟨N, hN⟩ : ∃ N, W.heap.size = N := ⟨_, rfl⟩
  have h0 := h
  obtain ⟨b, ra, n0, rc, a1, n1, c1, a2, n2, c2, y4, y5, rfl, HE, H1, H2, H3⟩ := h.look
  have hsb : d.set = b := HE.out.1
  have hrn : d.r.length = n0 := HE.out.2.1
  obtain rfl : b = true := by rw [← hsb, hst]
  clear HE H1 H2 H3
  obtain ⟨pv, kv, rfl, -⟩ := id hk
  obtain ⟨nv, hnv⟩ : ∃ q, vs.length = q := ⟨_, rfl⟩
  rw [hnv] at hk ⊢
  obtain ⟨W0, hW0⟩ : ∃ Q, ((W.alloc (Obj.cells #[.int .i64 v, .int .i64 op, .int .i64 n] 35)).alloc (Obj.cells #[.bool true, .slice ra n0 rc, .slice a1 n1 c1, .slice a2 n2 c2, .int .i64 y4, .int .i64 y5] 50)).alloc (Obj.cells #[.bool st, .int .i64 vn, .slice pv nv kv] 52) = Q := ⟨_, rfl⟩
  have hb0 : Below W.heap.size W W0 := by rw [← hW0]; exact (((Below.refl _ W).alloc (Nat.le_refl _) _).alloc (by simp) _).alloc (by simp; omega) _
  have HQ : Hid (Bx W0 N #[.int .i64 v, .int .i64 op, .int .i64 n] 35) := by rw [← hW0]; exact ((Bx.new' hN _ _).alloc _).alloc _
  have HX : Hid (Bx W0 (N + 1) #[.bool true, .slice ra n0 rc, .slice a1 n1 c1, .slice a2 n2 c2, .int .i64 y4, .int .i64 y5] 50) := by rw [← hW0]; exact (Bx.new' (by simp [hN]) _ _).alloc _
  have HV : Hid (Bx W0 (N + 1 + 1) #[.bool st, .int .i64 vn, .slice pv nv kv] 52) := by rw [← hW0]; exact Bx.new' (by simp [hN]) _ _
  have HB0 : Hid (Below W.heap.size W W0) := hb0
  have HC : Hid (∀ w, Below W0.heap.size W0 w → Dc X w [.bool true, .slice ra n0 rc, .slice a1 n1 c1, .slice a2 n2 c2, .int .i64 y4, .int .i64 y5] d) := fun w hb => (h0.below hb0).below hb
  have HK : Hid (∀ w, Below W0.heap.size W0 w → Vc w [.bool st, .int .i64 vn, .slice pv nv kv] st vn vs) := fun w hb => (hk.below hb0).below hb
  have HW0 : Hid _ := hW0
  have HN : Hid (W.heap.size = N) := hN
  have HF : Hid (Dm.FitsR d.r) := hf
  have HFN : Hid (Dm.Fits n) := hn
  have HSB : Hid (d.set = true) := hsb
  have HRN : Hid (d.r.length = n0) := hrn
  clear h h0 hf hn hk hW0 hb0 hnv hsb hrn hst
  obtain ⟨y0, y1, y2⟩ := HQ.out.three
  obtain ⟨z0, z1, z2, z3, z4, z5⟩ := HX.out.six
  go_enter Tryz.func5, Tryz.ntmps5
  go_upto_region 1 with (fail)
  rw [HW0.out]
  clear hN
  go_wp2_with fail
  refine (given_any v op n W0).mono ?_
  clear y0 y1 y2 z0 z1 z2 z3 z4 z5
  rintro e w1 ⟨rfl, hb1⟩
  obtain ⟨P1, hP1⟩ : ∃ q, w1.heap.size = q := ⟨_, rfl⟩
  obtain ⟨W1, hW1⟩ : ∃ Q, w1.alloc (Obj.cells #[.int .i64 v, .int .i64 op, .int .i64 n] 32) = Q := ⟨_, rfl⟩
  have hbw1 : Below w1.heap.size w1 W1 := by rw [← hW1]; exact (Below.refl _ _).alloc (Nat.le_refl _) _
  have HY1 : Hid (Bx W1 P1 #[.int .i64 v, .int .i64 op, .int .i64 n] 32) := by rw [← hW1]; exact Bx.new' hP1 _ _
  have HB01 : Hid (Below W0.heap.size W0 W1) := hb1.trans (hbw1.mono hb1.size)
  have HW1 : Hid _ := hW1
  clear hW1 hb1 hbw1
  go_upto_region 2 with (fail)
  rw [HW1.out]
  clear hP1
  have ka := apply_any v op n (HC.out W1 HB01.out) HF.out HFN.out
  have HER : Hid ((resM d (otM op) n).2 = (resM d op n).2) := res_err
  have KA0 : Hid (∀ w, Below W1.heap.size W1 w → Calls Tryz.prog 20 #[.agg #[.bool true, .slice ra n0 rc, .slice a1 n1 c1, .slice a2 n2 c2, .int .i64 y4, .int .i64 y5], .agg #[.int .i64 v, .int .i64 (otM op), .int .i64 n]] w fun e w' => ∃ q : List Value, e = .returned (.tuple #[.agg q.toArray, .int .i64 (resM d op n).2]) ∧ Ans w.heap.size w' q (resM d (otM op) n).1 ∧ Below w.heap.size w w') := fun w hb => by
    rw [← HER.out]
    exact apply_any v (otM op) n (HC.out w (HB01.out.trans (hb.mono HB01.out.size))) HF.out HFN.out
  have HPT : Hid ((resM d op n).2 = 0 → (true = true ∨ n0 < 4095) → Pt d op n st vn vs) := fun h1 h2 => by
    cases hdb : d.set with
    | false => exact parts_n h1 hdb (by rcases h2 with h2 | h2; rw [HSB.out, h2] at hdb; simp at hdb; rw [HRN.out]; exact h2)
    | true => exact parts_s h1 hdb
  obtain ⟨re, hre⟩ : ∃ q, (resM d op n).2 = q := ⟨_, rfl⟩
  rw [hre] at ka KA0 HPT
  clear hre HER
  obtain ⟨rA, hrA⟩ : ∃ q, (resM d op n).1 = q := ⟨_, rfl⟩
  obtain ⟨rb, hrb⟩ : ∃ q, (resM d (otM op) n).1 = q := ⟨_, rfl⟩
  rw [hrA] at ka
  rw [hrb] at KA0
  have HRA : Hid _ := hrA
  have HRB : Hid _ := hrb
  clear hrA hrb
  obtain ⟨z0, z1, z2, z3, z4, z5⟩ := (HX.out.below HB01.out).six
  obtain ⟨y0, y1, y2⟩ := HY1.out.three
  go_wp2_with fail
  refine ka.mono ?_
  clear ka z0 z1 z2 z3 z4 z5 y0 y1 y2
  rintro e w2 ⟨qa, rfl, hans, hb2⟩
  obtain ⟨a0, t1, t2, t3, a4, a5, rfl⟩ := six_of2 (hans.dc (fun _ => False) (fun _ h => h.elim))
  obtain ⟨P2, hP2⟩ : ∃ q, w2.heap.size = q := ⟨_, rfl⟩
  obtain ⟨W2, hW2⟩ : ∃ Q, w2.alloc (Obj.cells #[.bool a0, .slice t1.1 t1.2.1 t1.2.2, .slice t2.1 t2.2.1 t2.2.2, .slice t3.1 t3.2.1 t3.2.2, .int .i64 a4, .int .i64 a5] 50) = Q := ⟨_, rfl⟩
  have hbw2 : Below w2.heap.size w2 W2 := by rw [← hW2]; exact (Below.refl _ _).alloc (Nat.le_refl _) _
  have HA2 : Hid (Bx W2 P2 #[.bool a0, .slice t1.1 t1.2.1 t1.2.2, .slice t2.1 t2.2.1 t2.2.2, .slice t3.1 t3.2.1 t3.2.2, .int .i64 a4, .int .i64 a5] 50) := by rw [← hW2]; exact Bx.new' hP2 _ _
  have HB12 : Hid (Below W1.heap.size W1 W2) := hb2.trans (hbw2.mono hb2.size)
  have HDA : Hid (Dc (fun _ => False) W2 [.bool a0, .slice t1.1 t1.2.1 t1.2.2, .slice t2.1 t2.2.1 t2.2.2, .slice t3.1 t3.2.1 t3.2.2, .int .i64 a4, .int .i64 a5] rA) := (hans.dc (fun _ => False) (fun _ h => h.elim)).below hbw2
  have HB02 : Hid (Below W0.heap.size W0 W2) := HB01.out.trans (HB12.out.mono HB01.out.size)
  have HY2 : Hid (Bx W2 P1 #[.int .i64 v, .int .i64 op, .int .i64 n] 32) := HY1.out.below HB12.out
  have HX2 : Hid (Bx W2 (N + 1) #[.bool true, .slice ra n0 rc, .slice a1 n1 c1, .slice a2 n2 c2, .int .i64 y4, .int .i64 y5] 50) := HX.out.below HB02.out
  have HV2 : Hid (Bx W2 (N + 1 + 1) #[.bool st, .int .i64 vn, .slice pv nv kv] 52) := HV.out.below HB02.out
  have HW2 : Hid _ := hW2
  clear hW2 hb2 hbw2 hans
  go_upto_region 3 with (fail)
  rw [HW2.out]
  clear hP2
  have KN : Hid (∀ w, Below W2.heap.size W2 w → Calls Tryz.prog 23 #[.agg #[.int .i64 v, .int .i64 op, .int .i64 n]] w fun e w' => e = .returned (.agg #[.int .i64 v, .int .i64 (otM op), .int .i64 n]) ∧ Below w.heap.size w w') := fun w _ => not_dec v op n w
  have KA : Hid (∀ w, Below W2.heap.size W2 w → Calls Tryz.prog 20 #[.agg #[.bool true, .slice ra n0 rc, .slice a1 n1 c1, .slice a2 n2 c2, .int .i64 y4, .int .i64 y5], .agg #[.int .i64 v, .int .i64 (otM op), .int .i64 n]] w fun e w' => ∃ q : List Value, e = .returned (.tuple #[.agg q.toArray, .int .i64 re]) ∧ Ans w.heap.size w' q rb ∧ Below w.heap.size w w') := fun w hb => KA0.out w (HB12.out.trans (hb.mono HB12.out.size))
  have FS : Hid (∀ w, Below W2.heap.size W2 w → Bx w (N + 1) #[.bool true, .slice ra n0 rc, .slice a1 n1 c1, .slice a2 n2 c2, .int .i64 y4, .int .i64 y5] 50 ∧ Bx w P1 #[.int .i64 v, .int .i64 op, .int .i64 n] 32) := fun w hb => ⟨HX2.out.below hb, HY2.out.below hb⟩
  have HC0 : Hid (Below W2.heap.size W2 W2.drew) := (Below.refl _ _).drew
  clear KA0
  apply wp_ways2 (R := fun bn q w' => Below W2.heap.size W2 w' ∧ Bx w' bn q.toArray 50 ∧ Dc (fun b => b = bn) w' q rb)
  case h =>
    refine wp_region_held_drew (S := fun X : World => Bx X (N + 1) #[.bool true, .slice ra n0 rc, .slice a1 n1 c1, .slice a2 n2 c2, .int .i64 y4, .int .i64 y5] 50 ∧ Bx X P1 #[.int .i64 v, .int .i64 op, .int .i64 n] 32) (by kernel_rfl) ((FS.out _ HC0.out)) (fun hHeld => ?_)
    refine wpAnyH_take (i := 0) (oi := q3_0) (v := ?_) rfl (by kernel_rfl) (by kernel_rfl) (by kernel_rfl) (fun _ _ _ h => h) (Or.inl ⟨by rfl, ?_⟩) hHeld ?_
    rotate_left
    · intro w hSw; dsimp only [q3_0]; obtain ⟨hO, hN⟩ := hSw; obtain ⟨y0, y1, y2, y3, y4, y5⟩ := hO.six; go_simp <;> with_reducible rfl
    try simp only [q3_0, Act.put, List.setIfInBounds_toArray, List.set_cons_zero, List.set_cons_succ]
    refine wpAnyH_take (i := 1) (oi := q3_1) (v := ?_) rfl (by kernel_rfl) (by kernel_rfl) (by kernel_rfl) (fun _ _ _ h => h) (Or.inl ⟨by rfl, ?_⟩) hHeld ?_
    rotate_left
    · intro w hSw; dsimp only [q3_1]; obtain ⟨hO, hN⟩ := hSw; obtain ⟨y0, y1, y2⟩ := hN.three; go_simp <;> with_reducible rfl
    try simp only [q3_1, Act.put, List.setIfInBounds_toArray, List.set_cons_zero, List.set_cons_succ]
    refine wpAnyH_ready (rs := [2, 7]) (by kernel_rfl) (by simp) ?_
    refine AllReadyH.cons rfl (fun K hK => ?_) ?_
    · go_simp
      refine (KN.out _ HC0.out).mono ?_
      rintro e v1 ⟨rfl, hb⟩
      have HC1 : Hid (Below W2.heap.size W2 v1) := HC0.out.trans (hb.mono HC0.out.size)
      clear hb
      refine hK.out _ _ ((FS.out _ HC1.out)) (fun hHeld2 => ?_)
      clear hK K hHeld
      have hHeld := hHeld2
      clear hHeld2
      try simp only [Act.put, List.setIfInBounds_toArray, List.set_cons_zero, List.set_cons_succ]
      refine wpAnyH_ready (rs := [3, 7]) (by kernel_rfl) (by simp) ?_
      refine AllReadyH.cons rfl (fun K hK => ?_) ?_
      · go_simp
        refine (KA.out _ HC1.out).mono ?_
        rintro e v2 ⟨q, rfl, hq, hb⟩
        have HC2 : Hid (Below W2.heap.size W2 v2) := HC1.out.trans (hb.mono HC1.out.size)
        have HDq2 : Hid (Dc (fun _ => False) v2 q rb) := hq.dc _ (fun b hb => hb.elim)
        clear hb hq
        refine hK.out _ _ ((FS.out _ HC2.out)) (fun hHeld2 => ?_)
        clear hK K hHeld
        have hHeld := hHeld2
        clear hHeld2
        try simp only [Act.put, List.setIfInBounds_toArray, List.set_cons_zero, List.set_cons_succ]
        refine wpAnyH_take (i := 4) (oi := q3_4) (v := ?_) rfl (by kernel_rfl) (by kernel_rfl) (by kernel_rfl) (fun _ _ _ h => h) (Or.inl ⟨by rfl, ?_⟩) hHeld ?_
        rotate_left
        · intro w hSw; dsimp only [q3_4]; (try dsimp only at hSw); go_simp <;> with_reducible rfl
        try simp only [q3_4, Act.put, List.setIfInBounds_toArray, List.set_cons_zero, List.set_cons_succ]
        refine wpAnyH_take (i := 5) (oi := q3_5) (v := ?_) rfl (by kernel_rfl) (by kernel_rfl) (by kernel_rfl) (fun _ _ _ h => h) (Or.inl ⟨by rfl, ?_⟩) hHeld ?_
        rotate_left
        · intro w hSw; dsimp only [q3_5]; (try dsimp only at hSw); go_simp <;> with_reducible rfl
        try simp only [q3_5, Act.put, List.setIfInBounds_toArray, List.set_cons_zero, List.set_cons_succ]
        refine wpAnyH_take (i := 6) (oi := q3_6) (v := ?_) rfl (by kernel_rfl) (by kernel_rfl) (by kernel_rfl) (fun _ _ _ h => h) (Or.inl ⟨by rfl, ?_⟩) hHeld ?_
        rotate_left
        · intro w hSw; dsimp only [q3_6]; (try dsimp only at hSw); go_simp <;> with_reducible rfl
        try simp only [q3_6, Act.put, List.setIfInBounds_toArray, List.set_cons_zero, List.set_cons_succ]
        refine wpAnyH_ready (rs := [7]) (by kernel_rfl) (by simp) ?_
        refine AllReadyH.cons rfl (fun K hK => ?_) AllReadyH.nil
        obtain ⟨bn, hbn⟩ : ∃ q, v2.heap.size = q := ⟨_, rfl⟩
        go_simp
        (try rw [hbn])
        obtain ⟨v3, hv3⟩ : ∃ q, v2.alloc (Obj.cells #[.bool false, .slice none 0 0, .slice none 0 0, .slice none 0 0, .int .i64 0, .int .i64 0] 50) = q := ⟨_, rfl⟩
        (try rw [hv3])
        (try rw [show (v2.alloc (Obj.cells #[.bool false, .slice none 0 0, .slice none 0 0, .slice none 0 0, .int .i64 0, .int .i64 0] 50)).drew = v3 from hv3])
        have HC3 : Hid (Below W2.heap.size W2 v3) := by rw [← hv3]; exact HC2.out.alloc (HC2.out.size) _
        have HNW3 : Hid (Bx v3 bn #[.bool false, .slice none 0 0, .slice none 0 0, .slice none 0 0, .int .i64 0, .int .i64 0] 50) := by rw [← hv3]; exact Bx.new' (w := v2) hbn _ _
        have HLT0 : Hid (bn < v3.heap.size) := by rw [Hid, ← hv3, ← hbn]; simp
        have HBN : Hid (W2.heap.size ≤ bn) := by rw [Hid, ← hbn]; exact HC2.out.size
        have HDq3 : Hid (Dc (fun b => b = bn) v3 q rb) := by
          rw [← hv3]
          exact HDq2.out.go (Kept.of_below ((Below.refl _ _).alloc (Nat.le_refl _) _)) (fun b hb => .inr (by omega))
        clear hv3 hbn
        refine hK.out _ _ ((FS.out _ HC3.out)) (fun hHeld2 => ?_)
        clear hK K hHeld
        have hHeld := hHeld2
        clear hHeld2
        try simp only [Act.put, List.setIfInBounds_toArray, List.set_cons_zero, List.set_cons_succ]
        refine wpAnyH_ready (rs := [8]) (by kernel_rfl) (by simp) ?_
        refine AllReadyH.cons rfl (fun K hK => ?_) AllReadyH.nil
        refine stepR rfl 50 (.tmp 10) (.tmp 28) rfl bn q (by with_unfolding_all rfl) (by with_unfolding_all rfl) HNW3.out (by rfl) HDq3.out.len Tryz.sizeDom HDq3.out.one ?_
        refine hK.out _ _ ((FS.out _ (below_row HC3.out HBN.out _))) (fun hHeld2 => ?_)
        clear hK K hHeld
        have hHeld := hHeld2
        clear hHeld2
        try simp only [Act.put, List.setIfInBounds_toArray, List.set_cons_zero, List.set_cons_succ]
        refine wpAnyH_take (i := 9) (oi := q3_9) (v := ?_) rfl (by kernel_rfl) (by kernel_rfl) (by kernel_rfl) (fun _ _ _ h => h) (Or.inl ⟨by rfl, ?_⟩) hHeld ?_
        rotate_left
        · intro w hSw; dsimp only [q3_9]; (try dsimp only at hSw); go_simp <;> with_reducible rfl
        try simp only [q3_9, Act.put, List.setIfInBounds_toArray, List.set_cons_zero, List.set_cons_succ]
        refine wpAnyH_done (by kernel_rfl) ?_ _
        exact ⟨bn, q, rfl, below_row HC3.out HBN.out _, HNW3.out.setRow _, HDq3.out.kept ⟨rfl, rfl, rfl, by simp [World.setRow], fun b _ hb => setRow_other _ _ b _ hb⟩⟩
      refine AllReadyH.cons rfl (fun K hK => ?_) ?_
      · obtain ⟨bn, hbn⟩ : ∃ q, v1.heap.size = q := ⟨_, rfl⟩
        go_simp
        (try rw [hbn])
        obtain ⟨v2, hv2⟩ : ∃ q, v1.alloc (Obj.cells #[.bool false, .slice none 0 0, .slice none 0 0, .slice none 0 0, .int .i64 0, .int .i64 0] 50) = q := ⟨_, rfl⟩
        (try rw [hv2])
        (try rw [show (v1.alloc (Obj.cells #[.bool false, .slice none 0 0, .slice none 0 0, .slice none 0 0, .int .i64 0, .int .i64 0] 50)).drew = v2 from hv2])
        have HC2 : Hid (Below W2.heap.size W2 v2) := by rw [← hv2]; exact HC1.out.alloc (HC1.out.size) _
        have HNW2 : Hid (Bx v2 bn #[.bool false, .slice none 0 0, .slice none 0 0, .slice none 0 0, .int .i64 0, .int .i64 0] 50) := by rw [← hv2]; exact Bx.new' (w := v1) hbn _ _
        have HLT0 : Hid (bn < v2.heap.size) := by rw [Hid, ← hv2, ← hbn]; simp
        have HBN : Hid (W2.heap.size ≤ bn) := by rw [Hid, ← hbn]; exact HC1.out.size
        clear hv2 hbn
        refine hK.out _ _ ((FS.out _ HC2.out)) (fun hHeld2 => ?_)
        clear hK K hHeld
        have hHeld := hHeld2
        clear hHeld2
        try simp only [Act.put, List.setIfInBounds_toArray, List.set_cons_zero, List.set_cons_succ]
        refine wpAnyH_ready (rs := [3]) (by kernel_rfl) (by simp) ?_
        refine AllReadyH.cons rfl (fun K hK => ?_) AllReadyH.nil
        have HLT : Hid (bn < v2.heap.size) := Array.getElem?_eq_some_iff.1 HNW2.out.h |>.1
        go_simp
        refine (KA.out _ HC2.out).mono ?_
        rintro e v3 ⟨q, rfl, hq, hb⟩
        have HC3 : Hid (Below W2.heap.size W2 v3) := HC2.out.trans (hb.mono HC2.out.size)
        have HNW3 : Hid (Bx v3 bn #[.bool false, .slice none 0 0, .slice none 0 0, .slice none 0 0, .int .i64 0, .int .i64 0] 50) := HNW2.out.below hb
        have HDq3 : Hid (Dc (fun b => b = bn) v3 q rb) := hq.dc _ (fun b hb => by rw [hb]; exact HLT.out)
        clear hb hq
        refine hK.out _ _ ((FS.out _ HC3.out)) (fun hHeld2 => ?_)
        clear hK K hHeld
        have hHeld := hHeld2
        clear hHeld2
        try simp only [Act.put, List.setIfInBounds_toArray, List.set_cons_zero, List.set_cons_succ]
        refine wpAnyH_take (i := 4) (oi := q3_4) (v := ?_) rfl (by kernel_rfl) (by kernel_rfl) (by kernel_rfl) (fun _ _ _ h => h) (Or.inl ⟨by rfl, ?_⟩) hHeld ?_
        rotate_left
        · intro w hSw; dsimp only [q3_4]; (try dsimp only at hSw); go_simp <;> with_reducible rfl
        try simp only [q3_4, Act.put, List.setIfInBounds_toArray, List.set_cons_zero, List.set_cons_succ]
        refine wpAnyH_take (i := 5) (oi := q3_5) (v := ?_) rfl (by kernel_rfl) (by kernel_rfl) (by kernel_rfl) (fun _ _ _ h => h) (Or.inl ⟨by rfl, ?_⟩) hHeld ?_
        rotate_left
        · intro w hSw; dsimp only [q3_5]; (try dsimp only at hSw); go_simp <;> with_reducible rfl
        try simp only [q3_5, Act.put, List.setIfInBounds_toArray, List.set_cons_zero, List.set_cons_succ]
        refine wpAnyH_take (i := 6) (oi := q3_6) (v := ?_) rfl (by kernel_rfl) (by kernel_rfl) (by kernel_rfl) (fun _ _ _ h => h) (Or.inl ⟨by rfl, ?_⟩) hHeld ?_
        rotate_left
        · intro w hSw; dsimp only [q3_6]; (try dsimp only at hSw); go_simp <;> with_reducible rfl
        try simp only [q3_6, Act.put, List.setIfInBounds_toArray, List.set_cons_zero, List.set_cons_succ]
        refine wpAnyH_ready (rs := [8]) (by kernel_rfl) (by simp) ?_
        refine AllReadyH.cons rfl (fun K hK => ?_) AllReadyH.nil
        refine stepR rfl 50 (.tmp 10) (.tmp 28) rfl bn q (by with_unfolding_all rfl) (by with_unfolding_all rfl) HNW3.out (by rfl) HDq3.out.len Tryz.sizeDom HDq3.out.one ?_
        refine hK.out _ _ ((FS.out _ (below_row HC3.out HBN.out _))) (fun hHeld2 => ?_)
        clear hK K hHeld
        have hHeld := hHeld2
        clear hHeld2
        try simp only [Act.put, List.setIfInBounds_toArray, List.set_cons_zero, List.set_cons_succ]
        refine wpAnyH_take (i := 9) (oi := q3_9) (v := ?_) rfl (by kernel_rfl) (by kernel_rfl) (by kernel_rfl) (fun _ _ _ h => h) (Or.inl ⟨by rfl, ?_⟩) hHeld ?_
        rotate_left
        · intro w hSw; dsimp only [q3_9]; (try dsimp only at hSw); go_simp <;> with_reducible rfl
        try simp only [q3_9, Act.put, List.setIfInBounds_toArray, List.set_cons_zero, List.set_cons_succ]
        refine wpAnyH_done (by kernel_rfl) ?_ _
        exact ⟨bn, q, rfl, below_row HC3.out HBN.out _, HNW3.out.setRow _, HDq3.out.kept ⟨rfl, rfl, rfl, by simp [World.setRow], fun b _ hb => setRow_other _ _ b _ hb⟩⟩
      exact AllReadyH.nil
    refine AllReadyH.cons rfl (fun K hK => ?_) ?_
    · obtain ⟨bn, hbn⟩ : ∃ q, W2.heap.size = q := ⟨_, rfl⟩
      go_simp
      (try rw [hbn])
      obtain ⟨v1, hv1⟩ : ∃ q, W2.drew.alloc (Obj.cells #[.bool false, .slice none 0 0, .slice none 0 0, .slice none 0 0, .int .i64 0, .int .i64 0] 50) = q := ⟨_, rfl⟩
      (try rw [hv1])
      (try rw [show (W2.alloc (Obj.cells #[.bool false, .slice none 0 0, .slice none 0 0, .slice none 0 0, .int .i64 0, .int .i64 0] 50)).drew = v1 from hv1])
      have HC1 : Hid (Below W2.heap.size W2 v1) := by rw [← hv1]; exact HC0.out.alloc (HC0.out.size) _
      have HNW1 : Hid (Bx v1 bn #[.bool false, .slice none 0 0, .slice none 0 0, .slice none 0 0, .int .i64 0, .int .i64 0] 50) := by rw [← hv1]; exact Bx.new' (w := W2.drew) hbn _ _
      have HLT0 : Hid (bn < v1.heap.size) := by rw [Hid, ← hv1, ← hbn]; simp
      have HBN : Hid (W2.heap.size ≤ bn) := by rw [Hid, ← hbn]; exact Nat.le_refl _
      clear hv1 hbn
      refine hK.out _ _ ((FS.out _ HC1.out)) (fun hHeld2 => ?_)
      clear hK K hHeld
      have hHeld := hHeld2
      clear hHeld2
      try simp only [Act.put, List.setIfInBounds_toArray, List.set_cons_zero, List.set_cons_succ]
      refine wpAnyH_ready (rs := [2]) (by kernel_rfl) (by simp) ?_
      refine AllReadyH.cons rfl (fun K hK => ?_) AllReadyH.nil
      go_simp
      refine (KN.out _ HC1.out).mono ?_
      rintro e v2 ⟨rfl, hb⟩
      have HC2 : Hid (Below W2.heap.size W2 v2) := HC1.out.trans (hb.mono HC1.out.size)
      have HNW2 : Hid (Bx v2 bn #[.bool false, .slice none 0 0, .slice none 0 0, .slice none 0 0, .int .i64 0, .int .i64 0] 50) := HNW1.out.below hb
      clear hb
      refine hK.out _ _ ((FS.out _ HC2.out)) (fun hHeld2 => ?_)
      clear hK K hHeld
      have hHeld := hHeld2
      clear hHeld2
      try simp only [Act.put, List.setIfInBounds_toArray, List.set_cons_zero, List.set_cons_succ]
      refine wpAnyH_ready (rs := [3]) (by kernel_rfl) (by simp) ?_
      refine AllReadyH.cons rfl (fun K hK => ?_) AllReadyH.nil
      have HLT : Hid (bn < v2.heap.size) := Array.getElem?_eq_some_iff.1 HNW2.out.h |>.1
      go_simp
      refine (KA.out _ HC2.out).mono ?_
      rintro e v3 ⟨q, rfl, hq, hb⟩
      have HC3 : Hid (Below W2.heap.size W2 v3) := HC2.out.trans (hb.mono HC2.out.size)
      have HNW3 : Hid (Bx v3 bn #[.bool false, .slice none 0 0, .slice none 0 0, .slice none 0 0, .int .i64 0, .int .i64 0] 50) := HNW2.out.below hb
      have HDq3 : Hid (Dc (fun b => b = bn) v3 q rb) := hq.dc _ (fun b hb => by rw [hb]; exact HLT.out)
      clear hb hq
      refine hK.out _ _ ((FS.out _ HC3.out)) (fun hHeld2 => ?_)
      clear hK K hHeld
      have hHeld := hHeld2
      clear hHeld2
      try simp only [Act.put, List.setIfInBounds_toArray, List.set_cons_zero, List.set_cons_succ]
      refine wpAnyH_take (i := 4) (oi := q3_4) (v := ?_) rfl (by kernel_rfl) (by kernel_rfl) (by kernel_rfl) (fun _ _ _ h => h) (Or.inl ⟨by rfl, ?_⟩) hHeld ?_
      rotate_left
      · intro w hSw; dsimp only [q3_4]; (try dsimp only at hSw); go_simp <;> with_reducible rfl
      try simp only [q3_4, Act.put, List.setIfInBounds_toArray, List.set_cons_zero, List.set_cons_succ]
      refine wpAnyH_take (i := 5) (oi := q3_5) (v := ?_) rfl (by kernel_rfl) (by kernel_rfl) (by kernel_rfl) (fun _ _ _ h => h) (Or.inl ⟨by rfl, ?_⟩) hHeld ?_
      rotate_left
      · intro w hSw; dsimp only [q3_5]; (try dsimp only at hSw); go_simp <;> with_reducible rfl
      try simp only [q3_5, Act.put, List.setIfInBounds_toArray, List.set_cons_zero, List.set_cons_succ]
      refine wpAnyH_take (i := 6) (oi := q3_6) (v := ?_) rfl (by kernel_rfl) (by kernel_rfl) (by kernel_rfl) (fun _ _ _ h => h) (Or.inl ⟨by rfl, ?_⟩) hHeld ?_
      rotate_left
      · intro w hSw; dsimp only [q3_6]; (try dsimp only at hSw); go_simp <;> with_reducible rfl
      try simp only [q3_6, Act.put, List.setIfInBounds_toArray, List.set_cons_zero, List.set_cons_succ]
      refine wpAnyH_ready (rs := [8]) (by kernel_rfl) (by simp) ?_
      refine AllReadyH.cons rfl (fun K hK => ?_) AllReadyH.nil
      refine stepR rfl 50 (.tmp 10) (.tmp 28) rfl bn q (by with_unfolding_all rfl) (by with_unfolding_all rfl) HNW3.out (by rfl) HDq3.out.len Tryz.sizeDom HDq3.out.one ?_
      refine hK.out _ _ ((FS.out _ (below_row HC3.out HBN.out _))) (fun hHeld2 => ?_)
      clear hK K hHeld
      have hHeld := hHeld2
      clear hHeld2
      try simp only [Act.put, List.setIfInBounds_toArray, List.set_cons_zero, List.set_cons_succ]
      refine wpAnyH_take (i := 9) (oi := q3_9) (v := ?_) rfl (by kernel_rfl) (by kernel_rfl) (by kernel_rfl) (fun _ _ _ h => h) (Or.inl ⟨by rfl, ?_⟩) hHeld ?_
      rotate_left
      · intro w hSw; dsimp only [q3_9]; (try dsimp only at hSw); go_simp <;> with_reducible rfl
      try simp only [q3_9, Act.put, List.setIfInBounds_toArray, List.set_cons_zero, List.set_cons_succ]
      refine wpAnyH_done (by kernel_rfl) ?_ _
      exact ⟨bn, q, rfl, below_row HC3.out HBN.out _, HNW3.out.setRow _, HDq3.out.kept ⟨rfl, rfl, rfl, by simp [World.setRow], fun b _ hb => setRow_other _ _ b _ hb⟩⟩
    exact AllReadyH.nil
  case hK =>
    rintro bn q W3 ⟨hb3, hbx, hdq⟩
    obtain ⟨g0, s1, s2, s3, g4, g5, rfl⟩ := six_of2 hdq
    have HBB : Hid (Bx W3 bn #[.bool g0, .slice s1.1 s1.2.1 s1.2.2, .slice s2.1 s2.2.1 s2.2.2, .slice s3.1 s3.2.1 s3.2.2, .int .i64 g4, .int .i64 g5] 50) := hbx
    have HDB : Hid (Dc (fun b => b = bn) W3 [.bool g0, .slice s1.1 s1.2.1 s1.2.2, .slice s2.1 s2.2.1 s2.2.2, .slice s3.1 s3.2.1 s3.2.2, .int .i64 g4, .int .i64 g5] rb) := hdq
    have HB23 : Hid (Below W2.heap.size W2 W3) := hb3
    have HB03' : Hid (Below W0.heap.size W0 W3) := HB02.out.trans (hb3.mono HB02.out.size)
    have HB03 : Hid (Below W.heap.size W W3) := HB0.out.trans (HB03'.out.mono HB0.out.size)
    have HA3 : Hid (Bx W3 P2 #[.bool a0, .slice t1.1 t1.2.1 t1.2.2, .slice t2.1 t2.2.1 t2.2.2, .slice t3.1 t3.2.1 t3.2.2, .int .i64 a4, .int .i64 a5] 50) := HA2.out.below hb3
    have HDA3 : Hid (Dc (fun _ => False) W3 [.bool a0, .slice t1.1 t1.2.1 t1.2.2, .slice t2.1 t2.2.1 t2.2.2, .slice t3.1 t3.2.1 t3.2.2, .int .i64 a4, .int .i64 a5] rA) := HDA.out.below hb3
    have HY3 : Hid (Bx W3 P1 #[.int .i64 v, .int .i64 op, .int .i64 n] 32) := HY2.out.below hb3
    have HX3 : Hid (Bx W3 (N + 1) #[.bool true, .slice ra n0 rc, .slice a1 n1 c1, .slice a2 n2 c2, .int .i64 y4, .int .i64 y5] 50) := HX2.out.below hb3
    have HV3 : Hid (Bx W3 (N + 1 + 1) #[.bool st, .int .i64 vn, .slice pv nv kv] 52) := HV2.out.below hb3
    have HCD : Hid (∀ w, Below W3.heap.size W3 w → Dc X w [.bool true, .slice ra n0 rc, .slice a1 n1 c1, .slice a2 n2 c2, .int .i64 y4, .int .i64 y5] d) := fun w hb => HC.out w (HB03'.out.trans (hb.mono HB03'.out.size))
    have HKV : Hid (∀ w, Below W3.heap.size W3 w → Vc w [.bool st, .int .i64 vn, .slice pv nv kv] st vn vs) := fun w hb => HK.out w (HB03'.out.trans (hb.mono HB03'.out.size))
    have KKN : Hid (∀ w, Below W3.heap.size W3 w → Calls Tryz.prog 17 #[] w fun e w' => e = .returned (.bool true) ∧ Below w.heap.size w w') := fun w _ => known_true w
    clear hbx hdq hb3 FS HC0 KN KA HC HK HB23 HX2 HY2 HA2 HDA HV2 HY1 HX HV HQ HB12 HB02 HB01 HB0 HW0 HW1 HW2 HN
    by_cases he : re = 0
    · subst he
      obtain ⟨z0, z1, z2, z3, z4, z5⟩ := HX3.out.six
      have HP := HPT.out rfl (by simp)
      clear HPT
      have HE1 : Hid _ := HP.e1
      have HE2 : Hid _ := HP.e2
      have HE3 : Hid _ := HP.e3
      have HE4 : Hid _ := HP.e4
      have HF1 : Hid _ := HP.f1
      have HF2 : Hid _ := HP.f2
      rw [HRA.out, HRB.out] at HE1 HE2 HE4
      rw [HRA.out] at HE3 HF1
      rw [HRB.out] at HF2
      clear HP
      have KWA : Hid (∀ w, Below W3.heap.size W3 w → Calls Tryz.prog 30 #[.agg #[.bool a0, .slice t1.1 t1.2.1 t1.2.2, .slice t2.1 t2.2.1 t2.2.2, .slice t3.1 t3.2.1 t3.2.2, .int .i64 a4, .int .i64 a5], .agg #[.bool st, .int .i64 vn, .slice pv nv kv]] w fun e w' => e = .returned (.bool (inA rA st vn vs)) ∧ Below w.heap.size w w') := fun w hb => within_any (HDA3.out.below hb) HF1.out (HKV.out w hb)
      have KWB : Hid (∀ w, Below W3.heap.size W3 w → Calls Tryz.prog 30 #[.agg #[.bool g0, .slice s1.1 s1.2.1 s1.2.2, .slice s2.1 s2.2.1 s2.2.2, .slice s3.1 s3.2.1 s3.2.2, .int .i64 g4, .int .i64 g5], .agg #[.bool st, .int .i64 vn, .slice pv nv kv]] w fun e w' => e = .returned (.bool (inA rb st vn vs)) ∧ Below w.heap.size w w') := fun w hb => within_any (HDB.out.below hb) HF2.out (HKV.out w hb)
      have KWD : Hid (∀ w, Below W3.heap.size W3 w → Calls Tryz.prog 30 #[.agg #[.bool true, .slice ra n0 rc, .slice a1 n1 c1, .slice a2 n2 c2, .int .i64 y4, .int .i64 y5], .agg #[.bool st, .int .i64 vn, .slice pv nv kv]] w fun e w' => e = .returned (.bool (inA d st vn vs)) ∧ Below w.heap.size w w') := fun w hb => within_any (HCD.out w hb) HF.out (HKV.out w hb)
      have KHO : Hid (∀ w, Below W3.heap.size W3 w → Calls Tryz.prog 25 #[.agg #[.int .i64 v, .int .i64 op, .int .i64 n], .agg #[.bool st, .int .i64 vn, .slice pv nv kv]] w fun e w' => e = .returned (.bool (hoM op n st vn vs)) ∧ Below w.heap.size w w') := fun w hb => holds_any v op n (HKV.out w hb)
      have KSA : Hid (∀ w, Below W3.heap.size W3 w → Calls Tryz.prog 31 #[.agg #[.bool a0, .slice t1.1 t1.2.1 t1.2.2, .slice t2.1 t2.2.1 t2.2.2, .slice t3.1 t3.2.1 t3.2.2, .int .i64 a4, .int .i64 a5]] w fun e w' => e = .returned (.int .i64 (sizA rA)) ∧ Below w.heap.size w w') := fun w hb => rsize_d (HDA3.out.below hb)
      have KSB : Hid (∀ w, Below W3.heap.size W3 w → Calls Tryz.prog 31 #[.agg #[.bool g0, .slice s1.1 s1.2.1 s1.2.2, .slice s2.1 s2.2.1 s2.2.2, .slice s3.1 s3.2.1 s3.2.2, .int .i64 g4, .int .i64 g5]] w fun e w' => e = .returned (.int .i64 (sizA rb)) ∧ Below w.heap.size w w') := fun w hb => rsize_d (HDB.out.below hb)
      have KSD : Hid (∀ w, Below W3.heap.size W3 w → Calls Tryz.prog 31 #[.agg #[.bool true, .slice ra n0 rc, .slice a1 n1 c1, .slice a2 n2 c2, .int .i64 y4, .int .i64 y5]] w fun e w' => e = .returned (.int .i64 (sizA d)) ∧ Below w.heap.size w w') := fun w hb => rsize_d (HCD.out w hb)
      have HS0 : Hid (0 ≤ sizA d) := siz_nonneg d
      clear HDA3 HDB HCD HKV HF HF1 HF2 HRA HRB
      generalize hoM op n st vn vs = ho at KHO HE3
      generalize inA rA st vn vs = i1 at KWA HE1 HE2 HE3
      generalize inA rb st vn vs = i2 at KWB HE1 HE2
      generalize inA d st vn vs = iw at KWD HE2 HE3
      generalize sizA rA = sa at KSA HE4
      generalize sizA rb = sb at KSB HE4
      generalize sizA d = sd at KSD HE4 HS0
      obtain ⟨y0, y1, y2⟩ := HV3.out.three
      obtain ⟨x0, x1, x2, x3, x4, x5⟩ := HA3.out.six
      go_wp2_with fail
      refine (KWA.out _ (Below.refl _ _)).mono ?_
      clear x0 x1 x2 x3 x4 x5 y0 y1 y2 z0 z1 z2 z3 z4 z5
      rintro e w4 ⟨rfl, hb4⟩
      have HB4 : Hid (Below W3.heap.size W3 w4) := hb4
      clear hb4
      obtain ⟨y0, y1, y2⟩ := (HV3.out.below HB4.out).three
      obtain ⟨x0, x1, x2, x3, x4, x5⟩ := (HBB.out.below HB4.out).six
      go_wp2_with fail
      refine (KWB.out _ HB4.out).mono ?_
      clear x0 x1 x2 x3 x4 x5 y0 y1 y2
      rintro e w5 ⟨rfl, hb5⟩
      have HB5 : Hid (Below W3.heap.size W3 w5) := HB4.out.trans (hb5.mono HB4.out.size)
      clear hb5
      obtain ⟨y0, y1, y2⟩ := (HV3.out.below HB5.out).three
      obtain ⟨x0, x1, x2, x3, x4, x5⟩ := (HX3.out.below HB5.out).six
      go_wp2_with fail
      refine (KWD.out _ HB5.out).mono ?_
      clear x0 x1 x2 x3 x4 x5 y0 y1 y2
      rintro e w6 ⟨rfl, hb6⟩
      have HB6 : Hid (Below W3.heap.size W3 w6) := HB5.out.trans (hb6.mono HB5.out.size)
      clear hb6
      go_upto_region 11 with (fail)
      have HP0 : Hid (Below W3.heap.size W3 w6.drew) := HB6.out.drew
      by_cases HBGE : (2305843009213693952 : Int) ≤ sd
      · have HBG : decide ((2305843009213693952 : Int) ≤ sd) = true := by simpa using HBGE
        cases i1 <;> cases i2
        · obtain rfl : iw = false := by have := HE2.out; simpa using this.symm
          clear HE1 HE2 HE3 HE4 HBGE
          refine wp_region_held_drew (S := fun X : World => Below W3.heap.size W3 X) (by kernel_rfl) (HP0.out) (fun hHeld => ?_)
          refine wpAnyH_take (i := 0) (oi := q11_0) (v := ?_) rfl (by kernel_rfl) (by kernel_rfl) (by kernel_rfl) (fun _ _ _ h => h) (Or.inl ⟨by rfl, ?_⟩) hHeld ?_
          rotate_left
          · intro w hSw; dsimp only [q11_0]; (try dsimp only at hSw); go_simp <;> with_reducible rfl
          try simp only [q11_0, Act.put, List.setIfInBounds_toArray, List.set_cons_zero, List.set_cons_succ]
          refine wpAnyH_take (i := 1) (oi := q11_1) (v := ?_) rfl (by kernel_rfl) (by kernel_rfl) (by kernel_rfl) (fun _ _ _ h => h) (Or.inl ⟨by rfl, ?_⟩) hHeld ?_
          rotate_left
          · intro w hSw; dsimp only [q11_1]; (try dsimp only at hSw); go_simp <;> with_reducible rfl
          try simp only [q11_1, Act.put, List.setIfInBounds_toArray, List.set_cons_zero, List.set_cons_succ]
          refine wpAnyH_take (i := 2) (oi := q11_2) (v := undef) rfl (by kernel_rfl) (by kernel_rfl) (by kernel_rfl) (fun _ _ _ h => h) (Or.inr ⟨by rfl, rfl⟩) hHeld ?_
          try simp only [q11_2, Act.put, List.setIfInBounds_toArray, List.set_cons_zero, List.set_cons_succ]
          refine wpAnyH_take (i := 3) (oi := q11_3) (v := ?_) rfl (by kernel_rfl) (by kernel_rfl) (by kernel_rfl) (fun _ _ _ h => h) (Or.inl ⟨by rfl, ?_⟩) hHeld ?_
          rotate_left
          · intro w hSw; dsimp only [q11_3]; (try dsimp only at hSw); go_simp <;> with_reducible rfl
          try simp only [q11_3, Act.put, List.setIfInBounds_toArray, List.set_cons_zero, List.set_cons_succ]
          refine wpAnyH_take (i := 4) (oi := q11_4) (v := ?_) rfl (by kernel_rfl) (by kernel_rfl) (by kernel_rfl) (fun _ _ _ h => h) (Or.inl ⟨by rfl, ?_⟩) hHeld ?_
          rotate_left
          · intro w hSw; dsimp only [q11_4]; (try dsimp only at hSw); go_simp <;> with_reducible rfl
          try simp only [q11_4, Act.put, List.setIfInBounds_toArray, List.set_cons_zero, List.set_cons_succ]
          refine wpAnyH_take (i := 5) (oi := q11_5) (v := ?_) rfl (by kernel_rfl) (by kernel_rfl) (by kernel_rfl) (fun _ _ _ h => h) (Or.inl ⟨by rfl, ?_⟩) hHeld ?_
          rotate_left
          · intro w hSw; dsimp only [q11_5]; (try dsimp only at hSw); go_simp <;> with_reducible rfl
          try simp only [q11_5, Act.put, List.setIfInBounds_toArray, List.set_cons_zero, List.set_cons_succ]
          refine wpAnyH_take (i := 6) (oi := q11_6) (v := ?_) rfl (by kernel_rfl) (by kernel_rfl) (by kernel_rfl) (fun _ _ _ h => h) (Or.inl ⟨by rfl, ?_⟩) hHeld ?_
          rotate_left
          · intro w hSw; dsimp only [q11_6]; (try dsimp only at hSw); go_simp <;> with_reducible rfl
          try simp only [q11_6, Act.put, List.setIfInBounds_toArray, List.set_cons_zero, List.set_cons_succ]
          refine wpAnyH_take (i := 7) (oi := q11_7) (v := ?_) rfl (by kernel_rfl) (by kernel_rfl) (by kernel_rfl) (fun _ _ _ h => h) (Or.inl ⟨by rfl, ?_⟩) hHeld ?_
          rotate_left
          · intro w hSw; dsimp only [q11_7]; (try dsimp only at hSw); go_simp <;> with_reducible rfl
          try simp only [q11_7, Act.put, List.setIfInBounds_toArray, List.set_cons_zero, List.set_cons_succ]
          refine wpAnyH_take (i := 8) (oi := q11_8) (v := ?_) rfl (by kernel_rfl) (by kernel_rfl) (by kernel_rfl) (fun _ _ _ h => h) (Or.inl ⟨by rfl, ?_⟩) hHeld ?_
          rotate_left
          · intro w hSw; dsimp only [q11_8]; (try dsimp only at hSw); go_simp <;> with_reducible rfl
          try simp only [q11_8, Act.put, List.setIfInBounds_toArray, List.set_cons_zero, List.set_cons_succ]
          refine wpAnyH_take (i := 9) (oi := q11_9) (v := ?_) rfl (by kernel_rfl) (by kernel_rfl) (by kernel_rfl) (fun _ _ _ h => h) (Or.inl ⟨by rfl, ?_⟩) hHeld ?_
          rotate_left
          · intro w hSw; dsimp only [q11_9]; (try dsimp only at hSw); go_simp <;> with_reducible rfl
          try simp only [q11_9, Act.put, List.setIfInBounds_toArray, List.set_cons_zero, List.set_cons_succ]
          refine wpAnyH_take (i := 10) (oi := q11_10) (v := ?_) rfl (by kernel_rfl) (by kernel_rfl) (by kernel_rfl) (fun _ _ _ h => h) (Or.inl ⟨by rfl, ?_⟩) hHeld ?_
          rotate_left
          · intro w hSw; dsimp only [q11_10]; (try dsimp only at hSw); go_simp <;> with_reducible rfl
          try simp only [q11_10, Act.put, List.setIfInBounds_toArray, List.set_cons_zero, List.set_cons_succ]
          refine wpAnyH_take (i := 11) (oi := q11_11) (v := ?_) rfl (by kernel_rfl) (by kernel_rfl) (by kernel_rfl) (fun _ _ _ h => h) (Or.inl ⟨by rfl, ?_⟩) hHeld ?_
          rotate_left
          · intro w hSw; dsimp only [q11_11]; (try dsimp only at hSw); go_simp <;> with_reducible rfl
          try simp only [q11_11, Act.put, List.setIfInBounds_toArray, List.set_cons_zero, List.set_cons_succ]
          refine wpAnyH_take (i := 12) (oi := q11_12) (v := ?_) rfl (by kernel_rfl) (by kernel_rfl) (by kernel_rfl) (fun _ _ _ h => h) (Or.inl ⟨by rfl, ?_⟩) hHeld ?_
          rotate_left
          · intro w hSw; dsimp only [q11_12]; (try dsimp only at hSw); go_simp <;> with_reducible rfl
          try simp only [q11_12, Act.put, List.setIfInBounds_toArray, List.set_cons_zero, List.set_cons_succ]
          refine wpAnyH_take (i := 13) (oi := q11_13) (v := ?_) rfl (by kernel_rfl) (by kernel_rfl) (by kernel_rfl) (fun _ _ _ h => h) (Or.inl ⟨by rfl, ?_⟩) hHeld ?_
          rotate_left
          · intro w hSw; dsimp only [q11_13]; (try dsimp only at hSw); go_simp <;> with_reducible rfl
          try simp only [q11_13, Act.put, List.setIfInBounds_toArray, List.set_cons_zero, List.set_cons_succ]
          refine wpAnyH_take (i := 14) (oi := q11_14) (v := ?_) rfl (by kernel_rfl) (by kernel_rfl) (by kernel_rfl) (fun _ _ _ h => h) (Or.inl ⟨by rfl, ?_⟩) hHeld ?_
          rotate_left
          · intro w hSw; dsimp only [q11_14]; (try dsimp only at hSw); go_simp <;> with_reducible rfl
          try simp only [q11_14, Act.put, List.setIfInBounds_toArray, List.set_cons_zero, List.set_cons_succ]
          refine wpAnyH_take (i := 15) (oi := q11_15) (v := ?_) rfl (by kernel_rfl) (by kernel_rfl) (by kernel_rfl) (fun _ _ _ h => h) (Or.inl ⟨by rfl, ?_⟩) hHeld ?_
          rotate_left
          · intro w hSw; dsimp only [q11_15]; (try dsimp only at hSw); go_simp <;> with_reducible rfl
          try simp only [q11_15, Act.put, List.setIfInBounds_toArray, List.set_cons_zero, List.set_cons_succ]
          refine wpAnyH_take (i := 16) (oi := q11_16) (v := ?_) rfl (by kernel_rfl) (by kernel_rfl) (by kernel_rfl) (fun _ _ _ h => h) (Or.inl ⟨by rfl, ?_⟩) hHeld ?_
          rotate_left
          · intro w hSw; dsimp only [q11_16]; (try dsimp only at hSw); go_simp <;> with_reducible rfl
          try simp only [q11_16, Act.put, List.setIfInBounds_toArray, List.set_cons_zero, List.set_cons_succ]
          refine wpAnyH_take (i := 17) (oi := q11_17) (v := undef) rfl (by kernel_rfl) (by kernel_rfl) (by kernel_rfl) (fun _ _ _ h => h) (Or.inr ⟨by rfl, rfl⟩) hHeld ?_
          try simp only [q11_17, Act.put, List.setIfInBounds_toArray, List.set_cons_zero, List.set_cons_succ]
          refine wpAnyH_take (i := 18) (oi := q11_18) (v := undef) rfl (by kernel_rfl) (by kernel_rfl) (by kernel_rfl) (fun _ _ _ h => h) (Or.inr ⟨by rfl, rfl⟩) hHeld ?_
          try simp only [q11_18, Act.put, List.setIfInBounds_toArray, List.set_cons_zero, List.set_cons_succ]
          refine wpAnyH_take (i := 19) (oi := q11_19) (v := undef) rfl (by kernel_rfl) (by kernel_rfl) (by kernel_rfl) (fun _ _ _ h => h) (Or.inr ⟨by rfl, rfl⟩) hHeld ?_
          try simp only [q11_19, Act.put, List.setIfInBounds_toArray, List.set_cons_zero, List.set_cons_succ]
          refine wpAnyH_take (i := 20) (oi := q11_20) (v := undef) rfl (by kernel_rfl) (by kernel_rfl) (by kernel_rfl) (fun _ _ _ h => h) (Or.inr ⟨by rfl, rfl⟩) hHeld ?_
          try simp only [q11_20, Act.put, List.setIfInBounds_toArray, List.set_cons_zero, List.set_cons_succ]
          refine wpAnyH_take (i := 21) (oi := q11_21) (v := undef) rfl (by kernel_rfl) (by kernel_rfl) (by kernel_rfl) (fun _ _ _ h => h) (Or.inr ⟨by rfl, rfl⟩) hHeld ?_
          try simp only [q11_21, Act.put, List.setIfInBounds_toArray, List.set_cons_zero, List.set_cons_succ]
          refine wpAnyH_take (i := 22) (oi := q11_22) (v := ?_) rfl (by kernel_rfl) (by kernel_rfl) (by kernel_rfl) (fun _ _ _ h => h) (Or.inl ⟨by rfl, ?_⟩) hHeld ?_
          rotate_left
          · intro w hSw; dsimp only [q11_22]; (try dsimp only at hSw); go_simp <;> with_reducible rfl
          try simp only [q11_22, Act.put, List.setIfInBounds_toArray, List.set_cons_zero, List.set_cons_succ]
          refine wpAnyH_take (i := 23) (oi := q11_23) (v := ?_) rfl (by kernel_rfl) (by kernel_rfl) (by kernel_rfl) (fun _ _ _ h => h) (Or.inl ⟨by rfl, ?_⟩) hHeld ?_
          rotate_left
          · intro w hSw; dsimp only [q11_23]; (try dsimp only at hSw); go_simp <;> with_reducible rfl
          try simp only [q11_23, Act.put, List.setIfInBounds_toArray, List.set_cons_zero, List.set_cons_succ]
          refine wpAnyH_take (i := 24) (oi := q11_24) (v := ?_) rfl (by kernel_rfl) (by kernel_rfl) (by kernel_rfl) (fun _ _ _ h => h) (Or.inl ⟨by rfl, ?_⟩) hHeld ?_
          rotate_left
          · intro w hSw; dsimp only [q11_24]; (try dsimp only at hSw); go_simp <;> with_reducible rfl
          try simp only [q11_24, Act.put, List.setIfInBounds_toArray, List.set_cons_zero, List.set_cons_succ]
          refine wpAnyH_take (i := 25) (oi := q11_25) (v := ?_) rfl (by kernel_rfl) (by kernel_rfl) (by kernel_rfl) (fun _ _ _ h => h) (Or.inl ⟨by rfl, ?_⟩) hHeld ?_
          rotate_left
          · intro w hSw; dsimp only [q11_25]; obtain ⟨q0, q1, q2, q3, q4, q5⟩ := (HX3.out.below hSw).six; go_simp <;> with_reducible rfl
          try simp only [q11_25, Act.put, List.setIfInBounds_toArray, List.set_cons_zero, List.set_cons_succ]
          refine wpAnyH_ready (rs := [26]) (by kernel_rfl) (by simp) ?_
          refine AllReadyH.cons rfl (fun K hK => ?_) AllReadyH.nil
          go_simp
          refine (KSD.out _ HP0.out).mono ?_
          rintro e u1 ⟨rfl, hbu⟩
          have HP1 : Hid (Below W3.heap.size W3 u1) := HP0.out.trans (hbu.mono HP0.out.size)
          clear hbu
          refine hK.out _ _ (HP1.out) (fun hHeld2 => ?_)
          clear hK K hHeld
          have hHeld := hHeld2
          clear hHeld2
          try simp only [Act.put, List.setIfInBounds_toArray, List.set_cons_zero, List.set_cons_succ]
          refine wpAnyH_take (i := 27) (oi := q11_27) (v := .bool true) rfl (by kernel_rfl) (by kernel_rfl) (by kernel_rfl) (fun _ _ _ h => h) (Or.inl ⟨by rfl, ?_⟩) hHeld ?_
          skip
          · intro w hSw; dsimp only [q11_27]; go_simp <;> first | done | with_reducible rfl | simp [HBG]
          try simp only [q11_27, Act.put, List.setIfInBounds_toArray, List.set_cons_zero, List.set_cons_succ]
          refine wpAnyH_take (i := 28) (oi := q11_28) (v := .bool true) rfl (by kernel_rfl) (by kernel_rfl) (by kernel_rfl) (fun _ _ _ h => h) (Or.inl ⟨by rfl, ?_⟩) hHeld ?_
          skip
          · intro w hSw; dsimp only [q11_28]; (try dsimp only at hSw); go_simp <;> with_reducible rfl
          try simp only [q11_28, Act.put, List.setIfInBounds_toArray, List.set_cons_zero, List.set_cons_succ]
          refine wpAnyH_take (i := 29) (oi := q11_29) (v := undef) rfl (by kernel_rfl) (by kernel_rfl) (by kernel_rfl) (fun _ _ _ h => h) (Or.inr ⟨by rfl, rfl⟩) hHeld ?_
          try simp only [q11_29, Act.put, List.setIfInBounds_toArray, List.set_cons_zero, List.set_cons_succ]
          refine wpAnyH_take (i := 30) (oi := q11_30) (v := undef) rfl (by kernel_rfl) (by kernel_rfl) (by kernel_rfl) (fun _ _ _ h => h) (Or.inr ⟨by rfl, rfl⟩) hHeld ?_
          try simp only [q11_30, Act.put, List.setIfInBounds_toArray, List.set_cons_zero, List.set_cons_succ]
          refine wpAnyH_take (i := 31) (oi := q11_31) (v := undef) rfl (by kernel_rfl) (by kernel_rfl) (by kernel_rfl) (fun _ _ _ h => h) (Or.inr ⟨by rfl, rfl⟩) hHeld ?_
          try simp only [q11_31, Act.put, List.setIfInBounds_toArray, List.set_cons_zero, List.set_cons_succ]
          refine wpAnyH_take (i := 32) (oi := q11_32) (v := undef) rfl (by kernel_rfl) (by kernel_rfl) (by kernel_rfl) (fun _ _ _ h => h) (Or.inr ⟨by rfl, rfl⟩) hHeld ?_
          try simp only [q11_32, Act.put, List.setIfInBounds_toArray, List.set_cons_zero, List.set_cons_succ]
          refine wpAnyH_take (i := 33) (oi := q11_33) (v := undef) rfl (by kernel_rfl) (by kernel_rfl) (by kernel_rfl) (fun _ _ _ h => h) (Or.inr ⟨by rfl, rfl⟩) hHeld ?_
          try simp only [q11_33, Act.put, List.setIfInBounds_toArray, List.set_cons_zero, List.set_cons_succ]
          refine wpAnyH_take (i := 34) (oi := q11_34) (v := undef) rfl (by kernel_rfl) (by kernel_rfl) (by kernel_rfl) (fun _ _ _ h => h) (Or.inr ⟨by rfl, rfl⟩) hHeld ?_
          try simp only [q11_34, Act.put, List.setIfInBounds_toArray, List.set_cons_zero, List.set_cons_succ]
          refine wpAnyH_take (i := 35) (oi := q11_35) (v := undef) rfl (by kernel_rfl) (by kernel_rfl) (by kernel_rfl) (fun _ _ _ h => h) (Or.inr ⟨by rfl, rfl⟩) hHeld ?_
          try simp only [q11_35, Act.put, List.setIfInBounds_toArray, List.set_cons_zero, List.set_cons_succ]
          refine wpAnyH_take (i := 36) (oi := q11_36) (v := undef) rfl (by kernel_rfl) (by kernel_rfl) (by kernel_rfl) (fun _ _ _ h => h) (Or.inr ⟨by rfl, rfl⟩) hHeld ?_
          try simp only [q11_36, Act.put, List.setIfInBounds_toArray, List.set_cons_zero, List.set_cons_succ]
          refine wpAnyH_take (i := 37) (oi := q11_37) (v := ?_) rfl (by kernel_rfl) (by kernel_rfl) (by kernel_rfl) (fun _ _ _ h => h) (Or.inl ⟨by rfl, ?_⟩) hHeld ?_
          rotate_left
          · intro w hSw; dsimp only [q11_37]; (try dsimp only at hSw); go_simp <;> with_reducible rfl
          try simp only [q11_37, Act.put, List.setIfInBounds_toArray, List.set_cons_zero, List.set_cons_succ]
          refine wpAnyH_take (i := 38) (oi := q11_38) (v := ?_) rfl (by kernel_rfl) (by kernel_rfl) (by kernel_rfl) (fun _ _ _ h => h) (Or.inl ⟨by rfl, ?_⟩) hHeld ?_
          rotate_left
          · intro w hSw; dsimp only [q11_38]; (try dsimp only at hSw); go_simp <;> with_reducible rfl
          try simp only [q11_38, Act.put, List.setIfInBounds_toArray, List.set_cons_zero, List.set_cons_succ]
          refine wpAnyH_take (i := 39) (oi := q11_39) (v := ?_) rfl (by kernel_rfl) (by kernel_rfl) (by kernel_rfl) (fun _ _ _ h => h) (Or.inl ⟨by rfl, ?_⟩) hHeld ?_
          rotate_left
          · intro w hSw; dsimp only [q11_39]; (try dsimp only at hSw); go_simp <;> with_reducible rfl
          try simp only [q11_39, Act.put, List.setIfInBounds_toArray, List.set_cons_zero, List.set_cons_succ]
          refine wpAnyH_ready (rs := [40]) (by kernel_rfl) (by simp) ?_
          refine AllReadyH.cons rfl (fun K hK => ?_) AllReadyH.nil
          go_simp
          refine (KKN.out _ HP1.out).mono ?_
          rintro e u2 ⟨rfl, hbu⟩
          have HP2 : Hid (Below W3.heap.size W3 u2) := HP1.out.trans (hbu.mono HP1.out.size)
          clear hbu
          refine hK.out _ _ (HP2.out) (fun hHeld2 => ?_)
          clear hK K hHeld
          have hHeld := hHeld2
          clear hHeld2
          try simp only [Act.put, List.setIfInBounds_toArray, List.set_cons_zero, List.set_cons_succ]
          refine wpAnyH_take (i := 41) (oi := q11_41) (v := ?_) rfl (by kernel_rfl) (by kernel_rfl) (by kernel_rfl) (fun _ _ _ h => h) (Or.inl ⟨by rfl, ?_⟩) hHeld ?_
          rotate_left
          · intro w hSw; dsimp only [q11_41]; (try dsimp only at hSw); go_simp <;> with_reducible rfl
          try simp only [q11_41, Act.put, List.setIfInBounds_toArray, List.set_cons_zero, List.set_cons_succ]
          refine wpAnyH_take (i := 42) (oi := q11_42) (v := ?_) rfl (by kernel_rfl) (by kernel_rfl) (by kernel_rfl) (fun _ _ _ h => h) (Or.inl ⟨by rfl, ?_⟩) hHeld ?_
          rotate_left
          · intro w hSw; dsimp only [q11_42]; (try dsimp only at hSw); go_simp <;> with_reducible rfl
          try simp only [q11_42, Act.put, List.setIfInBounds_toArray, List.set_cons_zero, List.set_cons_succ]
          refine wpAnyH_done (by kernel_rfl) ?_ _
          go_wp2
          go_ret
          exact ⟨rfl, HB03.out.trans (HP2.out.mono HB03.out.size)⟩
        · obtain rfl : iw = true := by have := HE2.out; simpa using this.symm
          obtain rfl : ho = false := by have := HE3.out rfl; exact this.symm
          clear HE1 HE2 HE3 HE4 HBGE
          refine wp_region_held_drew (S := fun X : World => Below W3.heap.size W3 X) (by kernel_rfl) (HP0.out) (fun hHeld => ?_)
          refine wpAnyH_take (i := 0) (oi := q11_0) (v := ?_) rfl (by kernel_rfl) (by kernel_rfl) (by kernel_rfl) (fun _ _ _ h => h) (Or.inl ⟨by rfl, ?_⟩) hHeld ?_
          rotate_left
          · intro w hSw; dsimp only [q11_0]; (try dsimp only at hSw); go_simp <;> with_reducible rfl
          try simp only [q11_0, Act.put, List.setIfInBounds_toArray, List.set_cons_zero, List.set_cons_succ]
          refine wpAnyH_take (i := 1) (oi := q11_1) (v := ?_) rfl (by kernel_rfl) (by kernel_rfl) (by kernel_rfl) (fun _ _ _ h => h) (Or.inl ⟨by rfl, ?_⟩) hHeld ?_
          rotate_left
          · intro w hSw; dsimp only [q11_1]; (try dsimp only at hSw); go_simp <;> with_reducible rfl
          try simp only [q11_1, Act.put, List.setIfInBounds_toArray, List.set_cons_zero, List.set_cons_succ]
          refine wpAnyH_take (i := 2) (oi := q11_2) (v := undef) rfl (by kernel_rfl) (by kernel_rfl) (by kernel_rfl) (fun _ _ _ h => h) (Or.inr ⟨by rfl, rfl⟩) hHeld ?_
          try simp only [q11_2, Act.put, List.setIfInBounds_toArray, List.set_cons_zero, List.set_cons_succ]
          refine wpAnyH_take (i := 3) (oi := q11_3) (v := ?_) rfl (by kernel_rfl) (by kernel_rfl) (by kernel_rfl) (fun _ _ _ h => h) (Or.inl ⟨by rfl, ?_⟩) hHeld ?_
          rotate_left
          · intro w hSw; dsimp only [q11_3]; (try dsimp only at hSw); go_simp <;> with_reducible rfl
          try simp only [q11_3, Act.put, List.setIfInBounds_toArray, List.set_cons_zero, List.set_cons_succ]
          refine wpAnyH_take (i := 4) (oi := q11_4) (v := ?_) rfl (by kernel_rfl) (by kernel_rfl) (by kernel_rfl) (fun _ _ _ h => h) (Or.inl ⟨by rfl, ?_⟩) hHeld ?_
          rotate_left
          · intro w hSw; dsimp only [q11_4]; (try dsimp only at hSw); go_simp <;> with_reducible rfl
          try simp only [q11_4, Act.put, List.setIfInBounds_toArray, List.set_cons_zero, List.set_cons_succ]
          refine wpAnyH_take (i := 5) (oi := q11_5) (v := ?_) rfl (by kernel_rfl) (by kernel_rfl) (by kernel_rfl) (fun _ _ _ h => h) (Or.inl ⟨by rfl, ?_⟩) hHeld ?_
          rotate_left
          · intro w hSw; dsimp only [q11_5]; (try dsimp only at hSw); go_simp <;> with_reducible rfl
          try simp only [q11_5, Act.put, List.setIfInBounds_toArray, List.set_cons_zero, List.set_cons_succ]
          refine wpAnyH_take (i := 6) (oi := q11_6) (v := ?_) rfl (by kernel_rfl) (by kernel_rfl) (by kernel_rfl) (fun _ _ _ h => h) (Or.inl ⟨by rfl, ?_⟩) hHeld ?_
          rotate_left
          · intro w hSw; dsimp only [q11_6]; (try dsimp only at hSw); go_simp <;> with_reducible rfl
          try simp only [q11_6, Act.put, List.setIfInBounds_toArray, List.set_cons_zero, List.set_cons_succ]
          refine wpAnyH_take (i := 7) (oi := q11_7) (v := ?_) rfl (by kernel_rfl) (by kernel_rfl) (by kernel_rfl) (fun _ _ _ h => h) (Or.inl ⟨by rfl, ?_⟩) hHeld ?_
          rotate_left
          · intro w hSw; dsimp only [q11_7]; (try dsimp only at hSw); go_simp <;> with_reducible rfl
          try simp only [q11_7, Act.put, List.setIfInBounds_toArray, List.set_cons_zero, List.set_cons_succ]
          refine wpAnyH_take (i := 8) (oi := q11_8) (v := ?_) rfl (by kernel_rfl) (by kernel_rfl) (by kernel_rfl) (fun _ _ _ h => h) (Or.inl ⟨by rfl, ?_⟩) hHeld ?_
          rotate_left
          · intro w hSw; dsimp only [q11_8]; (try dsimp only at hSw); go_simp <;> with_reducible rfl
          try simp only [q11_8, Act.put, List.setIfInBounds_toArray, List.set_cons_zero, List.set_cons_succ]
          refine wpAnyH_take (i := 9) (oi := q11_9) (v := ?_) rfl (by kernel_rfl) (by kernel_rfl) (by kernel_rfl) (fun _ _ _ h => h) (Or.inl ⟨by rfl, ?_⟩) hHeld ?_
          rotate_left
          · intro w hSw; dsimp only [q11_9]; (try dsimp only at hSw); go_simp <;> with_reducible rfl
          try simp only [q11_9, Act.put, List.setIfInBounds_toArray, List.set_cons_zero, List.set_cons_succ]
          refine wpAnyH_take (i := 10) (oi := q11_10) (v := ?_) rfl (by kernel_rfl) (by kernel_rfl) (by kernel_rfl) (fun _ _ _ h => h) (Or.inl ⟨by rfl, ?_⟩) hHeld ?_
          rotate_left
          · intro w hSw; dsimp only [q11_10]; (try dsimp only at hSw); go_simp <;> with_reducible rfl
          try simp only [q11_10, Act.put, List.setIfInBounds_toArray, List.set_cons_zero, List.set_cons_succ]
          refine wpAnyH_take (i := 11) (oi := q11_11) (v := ?_) rfl (by kernel_rfl) (by kernel_rfl) (by kernel_rfl) (fun _ _ _ h => h) (Or.inl ⟨by rfl, ?_⟩) hHeld ?_
          rotate_left
          · intro w hSw; dsimp only [q11_11]; (try dsimp only at hSw); go_simp <;> with_reducible rfl
          try simp only [q11_11, Act.put, List.setIfInBounds_toArray, List.set_cons_zero, List.set_cons_succ]
          refine wpAnyH_take (i := 12) (oi := q11_12) (v := ?_) rfl (by kernel_rfl) (by kernel_rfl) (by kernel_rfl) (fun _ _ _ h => h) (Or.inl ⟨by rfl, ?_⟩) hHeld ?_
          rotate_left
          · intro w hSw; dsimp only [q11_12]; (try dsimp only at hSw); go_simp <;> with_reducible rfl
          try simp only [q11_12, Act.put, List.setIfInBounds_toArray, List.set_cons_zero, List.set_cons_succ]
          refine wpAnyH_take (i := 13) (oi := q11_13) (v := ?_) rfl (by kernel_rfl) (by kernel_rfl) (by kernel_rfl) (fun _ _ _ h => h) (Or.inl ⟨by rfl, ?_⟩) hHeld ?_
          rotate_left
          · intro w hSw; dsimp only [q11_13]; (try dsimp only at hSw); go_simp <;> with_reducible rfl
          try simp only [q11_13, Act.put, List.setIfInBounds_toArray, List.set_cons_zero, List.set_cons_succ]
          refine wpAnyH_take (i := 14) (oi := q11_14) (v := ?_) rfl (by kernel_rfl) (by kernel_rfl) (by kernel_rfl) (fun _ _ _ h => h) (Or.inl ⟨by rfl, ?_⟩) hHeld ?_
          rotate_left
          · intro w hSw; dsimp only [q11_14]; (try dsimp only at hSw); go_simp <;> with_reducible rfl
          try simp only [q11_14, Act.put, List.setIfInBounds_toArray, List.set_cons_zero, List.set_cons_succ]
          refine wpAnyH_take (i := 15) (oi := q11_15) (v := ?_) rfl (by kernel_rfl) (by kernel_rfl) (by kernel_rfl) (fun _ _ _ h => h) (Or.inl ⟨by rfl, ?_⟩) hHeld ?_
          rotate_left
          · intro w hSw; dsimp only [q11_15]; (try dsimp only at hSw); go_simp <;> with_reducible rfl
          try simp only [q11_15, Act.put, List.setIfInBounds_toArray, List.set_cons_zero, List.set_cons_succ]
          refine wpAnyH_take (i := 16) (oi := q11_16) (v := ?_) rfl (by kernel_rfl) (by kernel_rfl) (by kernel_rfl) (fun _ _ _ h => h) (Or.inl ⟨by rfl, ?_⟩) hHeld ?_
          rotate_left
          · intro w hSw; dsimp only [q11_16]; (try dsimp only at hSw); go_simp <;> with_reducible rfl
          try simp only [q11_16, Act.put, List.setIfInBounds_toArray, List.set_cons_zero, List.set_cons_succ]
          refine wpAnyH_take (i := 17) (oi := q11_17) (v := ?_) rfl (by kernel_rfl) (by kernel_rfl) (by kernel_rfl) (fun _ _ _ h => h) (Or.inl ⟨by rfl, ?_⟩) hHeld ?_
          rotate_left
          · intro w hSw; dsimp only [q11_17]; (try dsimp only at hSw); go_simp <;> with_reducible rfl
          try simp only [q11_17, Act.put, List.setIfInBounds_toArray, List.set_cons_zero, List.set_cons_succ]
          refine wpAnyH_take (i := 18) (oi := q11_18) (v := ?_) rfl (by kernel_rfl) (by kernel_rfl) (by kernel_rfl) (fun _ _ _ h => h) (Or.inl ⟨by rfl, ?_⟩) hHeld ?_
          rotate_left
          · intro w hSw; dsimp only [q11_18]; obtain ⟨q0, q1, q2⟩ := (HY3.out.below hSw).three; go_simp <;> with_reducible rfl
          try simp only [q11_18, Act.put, List.setIfInBounds_toArray, List.set_cons_zero, List.set_cons_succ]
          refine wpAnyH_take (i := 19) (oi := q11_19) (v := ?_) rfl (by kernel_rfl) (by kernel_rfl) (by kernel_rfl) (fun _ _ _ h => h) (Or.inl ⟨by rfl, ?_⟩) hHeld ?_
          rotate_left
          · intro w hSw; dsimp only [q11_19]; obtain ⟨q0, q1, q2⟩ := (HV3.out.below hSw).three; go_simp <;> with_reducible rfl
          try simp only [q11_19, Act.put, List.setIfInBounds_toArray, List.set_cons_zero, List.set_cons_succ]
          refine wpAnyH_ready (rs := [20]) (by kernel_rfl) (by simp) ?_
          refine AllReadyH.cons rfl (fun K hK => ?_) AllReadyH.nil
          go_simp
          refine (KHO.out _ HP0.out).mono ?_
          rintro e u1 ⟨rfl, hbu⟩
          have HP1 : Hid (Below W3.heap.size W3 u1) := HP0.out.trans (hbu.mono HP0.out.size)
          clear hbu
          refine hK.out _ _ (HP1.out) (fun hHeld2 => ?_)
          clear hK K hHeld
          have hHeld := hHeld2
          clear hHeld2
          try simp only [Act.put, List.setIfInBounds_toArray, List.set_cons_zero, List.set_cons_succ]
          refine wpAnyH_take (i := 21) (oi := q11_21) (v := .bool true) rfl (by kernel_rfl) (by kernel_rfl) (by kernel_rfl) (fun _ _ _ h => h) (Or.inl ⟨by rfl, ?_⟩) hHeld ?_
          skip
          · intro w hSw; dsimp only [q11_21]; go_simp <;> first | done | with_reducible rfl
          try simp only [q11_21, Act.put, List.setIfInBounds_toArray, List.set_cons_zero, List.set_cons_succ]
          refine wpAnyH_take (i := 22) (oi := q11_22) (v := ?_) rfl (by kernel_rfl) (by kernel_rfl) (by kernel_rfl) (fun _ _ _ h => h) (Or.inl ⟨by rfl, ?_⟩) hHeld ?_
          rotate_left
          · intro w hSw; dsimp only [q11_22]; (try dsimp only at hSw); go_simp <;> with_reducible rfl
          try simp only [q11_22, Act.put, List.setIfInBounds_toArray, List.set_cons_zero, List.set_cons_succ]
          refine wpAnyH_take (i := 23) (oi := q11_23) (v := ?_) rfl (by kernel_rfl) (by kernel_rfl) (by kernel_rfl) (fun _ _ _ h => h) (Or.inl ⟨by rfl, ?_⟩) hHeld ?_
          rotate_left
          · intro w hSw; dsimp only [q11_23]; (try dsimp only at hSw); go_simp <;> with_reducible rfl
          try simp only [q11_23, Act.put, List.setIfInBounds_toArray, List.set_cons_zero, List.set_cons_succ]
          refine wpAnyH_take (i := 24) (oi := q11_24) (v := ?_) rfl (by kernel_rfl) (by kernel_rfl) (by kernel_rfl) (fun _ _ _ h => h) (Or.inl ⟨by rfl, ?_⟩) hHeld ?_
          rotate_left
          · intro w hSw; dsimp only [q11_24]; (try dsimp only at hSw); go_simp <;> with_reducible rfl
          try simp only [q11_24, Act.put, List.setIfInBounds_toArray, List.set_cons_zero, List.set_cons_succ]
          refine wpAnyH_take (i := 25) (oi := q11_25) (v := ?_) rfl (by kernel_rfl) (by kernel_rfl) (by kernel_rfl) (fun _ _ _ h => h) (Or.inl ⟨by rfl, ?_⟩) hHeld ?_
          rotate_left
          · intro w hSw; dsimp only [q11_25]; obtain ⟨q0, q1, q2, q3, q4, q5⟩ := (HX3.out.below hSw).six; go_simp <;> with_reducible rfl
          try simp only [q11_25, Act.put, List.setIfInBounds_toArray, List.set_cons_zero, List.set_cons_succ]
          refine wpAnyH_ready (rs := [26]) (by kernel_rfl) (by simp) ?_
          refine AllReadyH.cons rfl (fun K hK => ?_) AllReadyH.nil
          go_simp
          refine (KSD.out _ HP1.out).mono ?_
          rintro e u2 ⟨rfl, hbu⟩
          have HP2 : Hid (Below W3.heap.size W3 u2) := HP1.out.trans (hbu.mono HP1.out.size)
          clear hbu
          refine hK.out _ _ (HP2.out) (fun hHeld2 => ?_)
          clear hK K hHeld
          have hHeld := hHeld2
          clear hHeld2
          try simp only [Act.put, List.setIfInBounds_toArray, List.set_cons_zero, List.set_cons_succ]
          refine wpAnyH_take (i := 27) (oi := q11_27) (v := .bool true) rfl (by kernel_rfl) (by kernel_rfl) (by kernel_rfl) (fun _ _ _ h => h) (Or.inl ⟨by rfl, ?_⟩) hHeld ?_
          skip
          · intro w hSw; dsimp only [q11_27]; go_simp <;> first | done | with_reducible rfl | simp [HBG]
          try simp only [q11_27, Act.put, List.setIfInBounds_toArray, List.set_cons_zero, List.set_cons_succ]
          refine wpAnyH_take (i := 28) (oi := q11_28) (v := .bool true) rfl (by kernel_rfl) (by kernel_rfl) (by kernel_rfl) (fun _ _ _ h => h) (Or.inl ⟨by rfl, ?_⟩) hHeld ?_
          skip
          · intro w hSw; dsimp only [q11_28]; (try dsimp only at hSw); go_simp <;> with_reducible rfl
          try simp only [q11_28, Act.put, List.setIfInBounds_toArray, List.set_cons_zero, List.set_cons_succ]
          refine wpAnyH_take (i := 29) (oi := q11_29) (v := undef) rfl (by kernel_rfl) (by kernel_rfl) (by kernel_rfl) (fun _ _ _ h => h) (Or.inr ⟨by rfl, rfl⟩) hHeld ?_
          try simp only [q11_29, Act.put, List.setIfInBounds_toArray, List.set_cons_zero, List.set_cons_succ]
          refine wpAnyH_take (i := 30) (oi := q11_30) (v := undef) rfl (by kernel_rfl) (by kernel_rfl) (by kernel_rfl) (fun _ _ _ h => h) (Or.inr ⟨by rfl, rfl⟩) hHeld ?_
          try simp only [q11_30, Act.put, List.setIfInBounds_toArray, List.set_cons_zero, List.set_cons_succ]
          refine wpAnyH_take (i := 31) (oi := q11_31) (v := undef) rfl (by kernel_rfl) (by kernel_rfl) (by kernel_rfl) (fun _ _ _ h => h) (Or.inr ⟨by rfl, rfl⟩) hHeld ?_
          try simp only [q11_31, Act.put, List.setIfInBounds_toArray, List.set_cons_zero, List.set_cons_succ]
          refine wpAnyH_take (i := 32) (oi := q11_32) (v := undef) rfl (by kernel_rfl) (by kernel_rfl) (by kernel_rfl) (fun _ _ _ h => h) (Or.inr ⟨by rfl, rfl⟩) hHeld ?_
          try simp only [q11_32, Act.put, List.setIfInBounds_toArray, List.set_cons_zero, List.set_cons_succ]
          refine wpAnyH_take (i := 33) (oi := q11_33) (v := undef) rfl (by kernel_rfl) (by kernel_rfl) (by kernel_rfl) (fun _ _ _ h => h) (Or.inr ⟨by rfl, rfl⟩) hHeld ?_
          try simp only [q11_33, Act.put, List.setIfInBounds_toArray, List.set_cons_zero, List.set_cons_succ]
          refine wpAnyH_take (i := 34) (oi := q11_34) (v := undef) rfl (by kernel_rfl) (by kernel_rfl) (by kernel_rfl) (fun _ _ _ h => h) (Or.inr ⟨by rfl, rfl⟩) hHeld ?_
          try simp only [q11_34, Act.put, List.setIfInBounds_toArray, List.set_cons_zero, List.set_cons_succ]
          refine wpAnyH_take (i := 35) (oi := q11_35) (v := undef) rfl (by kernel_rfl) (by kernel_rfl) (by kernel_rfl) (fun _ _ _ h => h) (Or.inr ⟨by rfl, rfl⟩) hHeld ?_
          try simp only [q11_35, Act.put, List.setIfInBounds_toArray, List.set_cons_zero, List.set_cons_succ]
          refine wpAnyH_take (i := 36) (oi := q11_36) (v := undef) rfl (by kernel_rfl) (by kernel_rfl) (by kernel_rfl) (fun _ _ _ h => h) (Or.inr ⟨by rfl, rfl⟩) hHeld ?_
          try simp only [q11_36, Act.put, List.setIfInBounds_toArray, List.set_cons_zero, List.set_cons_succ]
          refine wpAnyH_take (i := 37) (oi := q11_37) (v := ?_) rfl (by kernel_rfl) (by kernel_rfl) (by kernel_rfl) (fun _ _ _ h => h) (Or.inl ⟨by rfl, ?_⟩) hHeld ?_
          rotate_left
          · intro w hSw; dsimp only [q11_37]; (try dsimp only at hSw); go_simp <;> with_reducible rfl
          try simp only [q11_37, Act.put, List.setIfInBounds_toArray, List.set_cons_zero, List.set_cons_succ]
          refine wpAnyH_take (i := 38) (oi := q11_38) (v := ?_) rfl (by kernel_rfl) (by kernel_rfl) (by kernel_rfl) (fun _ _ _ h => h) (Or.inl ⟨by rfl, ?_⟩) hHeld ?_
          rotate_left
          · intro w hSw; dsimp only [q11_38]; (try dsimp only at hSw); go_simp <;> with_reducible rfl
          try simp only [q11_38, Act.put, List.setIfInBounds_toArray, List.set_cons_zero, List.set_cons_succ]
          refine wpAnyH_take (i := 39) (oi := q11_39) (v := ?_) rfl (by kernel_rfl) (by kernel_rfl) (by kernel_rfl) (fun _ _ _ h => h) (Or.inl ⟨by rfl, ?_⟩) hHeld ?_
          rotate_left
          · intro w hSw; dsimp only [q11_39]; (try dsimp only at hSw); go_simp <;> with_reducible rfl
          try simp only [q11_39, Act.put, List.setIfInBounds_toArray, List.set_cons_zero, List.set_cons_succ]
          refine wpAnyH_ready (rs := [40]) (by kernel_rfl) (by simp) ?_
          refine AllReadyH.cons rfl (fun K hK => ?_) AllReadyH.nil
          go_simp
          refine (KKN.out _ HP2.out).mono ?_
          rintro e u3 ⟨rfl, hbu⟩
          have HP3 : Hid (Below W3.heap.size W3 u3) := HP2.out.trans (hbu.mono HP2.out.size)
          clear hbu
          refine hK.out _ _ (HP3.out) (fun hHeld2 => ?_)
          clear hK K hHeld
          have hHeld := hHeld2
          clear hHeld2
          try simp only [Act.put, List.setIfInBounds_toArray, List.set_cons_zero, List.set_cons_succ]
          refine wpAnyH_take (i := 41) (oi := q11_41) (v := ?_) rfl (by kernel_rfl) (by kernel_rfl) (by kernel_rfl) (fun _ _ _ h => h) (Or.inl ⟨by rfl, ?_⟩) hHeld ?_
          rotate_left
          · intro w hSw; dsimp only [q11_41]; (try dsimp only at hSw); go_simp <;> with_reducible rfl
          try simp only [q11_41, Act.put, List.setIfInBounds_toArray, List.set_cons_zero, List.set_cons_succ]
          refine wpAnyH_take (i := 42) (oi := q11_42) (v := ?_) rfl (by kernel_rfl) (by kernel_rfl) (by kernel_rfl) (fun _ _ _ h => h) (Or.inl ⟨by rfl, ?_⟩) hHeld ?_
          rotate_left
          · intro w hSw; dsimp only [q11_42]; (try dsimp only at hSw); go_simp <;> with_reducible rfl
          try simp only [q11_42, Act.put, List.setIfInBounds_toArray, List.set_cons_zero, List.set_cons_succ]
          refine wpAnyH_done (by kernel_rfl) ?_ _
          go_wp2
          go_ret
          exact ⟨rfl, HB03.out.trans (HP3.out.mono HB03.out.size)⟩
        · obtain rfl : iw = true := by have := HE2.out; simpa using this.symm
          obtain rfl : ho = true := by have := HE3.out rfl; exact this.symm
          clear HE1 HE2 HE3 HE4 HBGE
          refine wp_region_held_drew (S := fun X : World => Below W3.heap.size W3 X) (by kernel_rfl) (HP0.out) (fun hHeld => ?_)
          refine wpAnyH_take (i := 0) (oi := q11_0) (v := ?_) rfl (by kernel_rfl) (by kernel_rfl) (by kernel_rfl) (fun _ _ _ h => h) (Or.inl ⟨by rfl, ?_⟩) hHeld ?_
          rotate_left
          · intro w hSw; dsimp only [q11_0]; (try dsimp only at hSw); go_simp <;> with_reducible rfl
          try simp only [q11_0, Act.put, List.setIfInBounds_toArray, List.set_cons_zero, List.set_cons_succ]
          refine wpAnyH_take (i := 1) (oi := q11_1) (v := ?_) rfl (by kernel_rfl) (by kernel_rfl) (by kernel_rfl) (fun _ _ _ h => h) (Or.inl ⟨by rfl, ?_⟩) hHeld ?_
          rotate_left
          · intro w hSw; dsimp only [q11_1]; (try dsimp only at hSw); go_simp <;> with_reducible rfl
          try simp only [q11_1, Act.put, List.setIfInBounds_toArray, List.set_cons_zero, List.set_cons_succ]
          refine wpAnyH_take (i := 2) (oi := q11_2) (v := ?_) rfl (by kernel_rfl) (by kernel_rfl) (by kernel_rfl) (fun _ _ _ h => h) (Or.inl ⟨by rfl, ?_⟩) hHeld ?_
          rotate_left
          · intro w hSw; dsimp only [q11_2]; (try dsimp only at hSw); go_simp <;> with_reducible rfl
          try simp only [q11_2, Act.put, List.setIfInBounds_toArray, List.set_cons_zero, List.set_cons_succ]
          refine wpAnyH_take (i := 3) (oi := q11_3) (v := ?_) rfl (by kernel_rfl) (by kernel_rfl) (by kernel_rfl) (fun _ _ _ h => h) (Or.inl ⟨by rfl, ?_⟩) hHeld ?_
          rotate_left
          · intro w hSw; dsimp only [q11_3]; (try dsimp only at hSw); go_simp <;> with_reducible rfl
          try simp only [q11_3, Act.put, List.setIfInBounds_toArray, List.set_cons_zero, List.set_cons_succ]
          refine wpAnyH_take (i := 4) (oi := q11_4) (v := ?_) rfl (by kernel_rfl) (by kernel_rfl) (by kernel_rfl) (fun _ _ _ h => h) (Or.inl ⟨by rfl, ?_⟩) hHeld ?_
          rotate_left
          · intro w hSw; dsimp only [q11_4]; (try dsimp only at hSw); go_simp <;> with_reducible rfl
          try simp only [q11_4, Act.put, List.setIfInBounds_toArray, List.set_cons_zero, List.set_cons_succ]
          refine wpAnyH_take (i := 5) (oi := q11_5) (v := ?_) rfl (by kernel_rfl) (by kernel_rfl) (by kernel_rfl) (fun _ _ _ h => h) (Or.inl ⟨by rfl, ?_⟩) hHeld ?_
          rotate_left
          · intro w hSw; dsimp only [q11_5]; (try dsimp only at hSw); go_simp <;> with_reducible rfl
          try simp only [q11_5, Act.put, List.setIfInBounds_toArray, List.set_cons_zero, List.set_cons_succ]
          refine wpAnyH_take (i := 6) (oi := q11_6) (v := ?_) rfl (by kernel_rfl) (by kernel_rfl) (by kernel_rfl) (fun _ _ _ h => h) (Or.inl ⟨by rfl, ?_⟩) hHeld ?_
          rotate_left
          · intro w hSw; dsimp only [q11_6]; (try dsimp only at hSw); go_simp <;> with_reducible rfl
          try simp only [q11_6, Act.put, List.setIfInBounds_toArray, List.set_cons_zero, List.set_cons_succ]
          refine wpAnyH_take (i := 7) (oi := q11_7) (v := ?_) rfl (by kernel_rfl) (by kernel_rfl) (by kernel_rfl) (fun _ _ _ h => h) (Or.inl ⟨by rfl, ?_⟩) hHeld ?_
          rotate_left
          · intro w hSw; dsimp only [q11_7]; (try dsimp only at hSw); go_simp <;> with_reducible rfl
          try simp only [q11_7, Act.put, List.setIfInBounds_toArray, List.set_cons_zero, List.set_cons_succ]
          refine wpAnyH_take (i := 8) (oi := q11_8) (v := undef) rfl (by kernel_rfl) (by kernel_rfl) (by kernel_rfl) (fun _ _ _ h => h) (Or.inr ⟨by rfl, rfl⟩) hHeld ?_
          try simp only [q11_8, Act.put, List.setIfInBounds_toArray, List.set_cons_zero, List.set_cons_succ]
          refine wpAnyH_take (i := 9) (oi := q11_9) (v := ?_) rfl (by kernel_rfl) (by kernel_rfl) (by kernel_rfl) (fun _ _ _ h => h) (Or.inl ⟨by rfl, ?_⟩) hHeld ?_
          rotate_left
          · intro w hSw; dsimp only [q11_9]; (try dsimp only at hSw); go_simp <;> with_reducible rfl
          try simp only [q11_9, Act.put, List.setIfInBounds_toArray, List.set_cons_zero, List.set_cons_succ]
          refine wpAnyH_take (i := 10) (oi := q11_10) (v := ?_) rfl (by kernel_rfl) (by kernel_rfl) (by kernel_rfl) (fun _ _ _ h => h) (Or.inl ⟨by rfl, ?_⟩) hHeld ?_
          rotate_left
          · intro w hSw; dsimp only [q11_10]; (try dsimp only at hSw); go_simp <;> with_reducible rfl
          try simp only [q11_10, Act.put, List.setIfInBounds_toArray, List.set_cons_zero, List.set_cons_succ]
          refine wpAnyH_take (i := 11) (oi := q11_11) (v := ?_) rfl (by kernel_rfl) (by kernel_rfl) (by kernel_rfl) (fun _ _ _ h => h) (Or.inl ⟨by rfl, ?_⟩) hHeld ?_
          rotate_left
          · intro w hSw; dsimp only [q11_11]; (try dsimp only at hSw); go_simp <;> with_reducible rfl
          try simp only [q11_11, Act.put, List.setIfInBounds_toArray, List.set_cons_zero, List.set_cons_succ]
          refine wpAnyH_take (i := 12) (oi := q11_12) (v := ?_) rfl (by kernel_rfl) (by kernel_rfl) (by kernel_rfl) (fun _ _ _ h => h) (Or.inl ⟨by rfl, ?_⟩) hHeld ?_
          rotate_left
          · intro w hSw; dsimp only [q11_12]; (try dsimp only at hSw); go_simp <;> with_reducible rfl
          try simp only [q11_12, Act.put, List.setIfInBounds_toArray, List.set_cons_zero, List.set_cons_succ]
          refine wpAnyH_take (i := 13) (oi := q11_13) (v := ?_) rfl (by kernel_rfl) (by kernel_rfl) (by kernel_rfl) (fun _ _ _ h => h) (Or.inl ⟨by rfl, ?_⟩) hHeld ?_
          rotate_left
          · intro w hSw; dsimp only [q11_13]; (try dsimp only at hSw); go_simp <;> with_reducible rfl
          try simp only [q11_13, Act.put, List.setIfInBounds_toArray, List.set_cons_zero, List.set_cons_succ]
          refine wpAnyH_take (i := 14) (oi := q11_14) (v := ?_) rfl (by kernel_rfl) (by kernel_rfl) (by kernel_rfl) (fun _ _ _ h => h) (Or.inl ⟨by rfl, ?_⟩) hHeld ?_
          rotate_left
          · intro w hSw; dsimp only [q11_14]; (try dsimp only at hSw); go_simp <;> with_reducible rfl
          try simp only [q11_14, Act.put, List.setIfInBounds_toArray, List.set_cons_zero, List.set_cons_succ]
          refine wpAnyH_take (i := 15) (oi := q11_15) (v := ?_) rfl (by kernel_rfl) (by kernel_rfl) (by kernel_rfl) (fun _ _ _ h => h) (Or.inl ⟨by rfl, ?_⟩) hHeld ?_
          rotate_left
          · intro w hSw; dsimp only [q11_15]; (try dsimp only at hSw); go_simp <;> with_reducible rfl
          try simp only [q11_15, Act.put, List.setIfInBounds_toArray, List.set_cons_zero, List.set_cons_succ]
          refine wpAnyH_take (i := 16) (oi := q11_16) (v := ?_) rfl (by kernel_rfl) (by kernel_rfl) (by kernel_rfl) (fun _ _ _ h => h) (Or.inl ⟨by rfl, ?_⟩) hHeld ?_
          rotate_left
          · intro w hSw; dsimp only [q11_16]; (try dsimp only at hSw); go_simp <;> with_reducible rfl
          try simp only [q11_16, Act.put, List.setIfInBounds_toArray, List.set_cons_zero, List.set_cons_succ]
          refine wpAnyH_take (i := 17) (oi := q11_17) (v := ?_) rfl (by kernel_rfl) (by kernel_rfl) (by kernel_rfl) (fun _ _ _ h => h) (Or.inl ⟨by rfl, ?_⟩) hHeld ?_
          rotate_left
          · intro w hSw; dsimp only [q11_17]; (try dsimp only at hSw); go_simp <;> with_reducible rfl
          try simp only [q11_17, Act.put, List.setIfInBounds_toArray, List.set_cons_zero, List.set_cons_succ]
          refine wpAnyH_take (i := 18) (oi := q11_18) (v := ?_) rfl (by kernel_rfl) (by kernel_rfl) (by kernel_rfl) (fun _ _ _ h => h) (Or.inl ⟨by rfl, ?_⟩) hHeld ?_
          rotate_left
          · intro w hSw; dsimp only [q11_18]; obtain ⟨q0, q1, q2⟩ := (HY3.out.below hSw).three; go_simp <;> with_reducible rfl
          try simp only [q11_18, Act.put, List.setIfInBounds_toArray, List.set_cons_zero, List.set_cons_succ]
          refine wpAnyH_take (i := 19) (oi := q11_19) (v := ?_) rfl (by kernel_rfl) (by kernel_rfl) (by kernel_rfl) (fun _ _ _ h => h) (Or.inl ⟨by rfl, ?_⟩) hHeld ?_
          rotate_left
          · intro w hSw; dsimp only [q11_19]; obtain ⟨q0, q1, q2⟩ := (HV3.out.below hSw).three; go_simp <;> with_reducible rfl
          try simp only [q11_19, Act.put, List.setIfInBounds_toArray, List.set_cons_zero, List.set_cons_succ]
          refine wpAnyH_ready (rs := [20]) (by kernel_rfl) (by simp) ?_
          refine AllReadyH.cons rfl (fun K hK => ?_) AllReadyH.nil
          go_simp
          refine (KHO.out _ HP0.out).mono ?_
          rintro e u1 ⟨rfl, hbu⟩
          have HP1 : Hid (Below W3.heap.size W3 u1) := HP0.out.trans (hbu.mono HP0.out.size)
          clear hbu
          refine hK.out _ _ (HP1.out) (fun hHeld2 => ?_)
          clear hK K hHeld
          have hHeld := hHeld2
          clear hHeld2
          try simp only [Act.put, List.setIfInBounds_toArray, List.set_cons_zero, List.set_cons_succ]
          refine wpAnyH_take (i := 21) (oi := q11_21) (v := .bool true) rfl (by kernel_rfl) (by kernel_rfl) (by kernel_rfl) (fun _ _ _ h => h) (Or.inl ⟨by rfl, ?_⟩) hHeld ?_
          skip
          · intro w hSw; dsimp only [q11_21]; go_simp <;> first | done | with_reducible rfl
          try simp only [q11_21, Act.put, List.setIfInBounds_toArray, List.set_cons_zero, List.set_cons_succ]
          refine wpAnyH_take (i := 22) (oi := q11_22) (v := ?_) rfl (by kernel_rfl) (by kernel_rfl) (by kernel_rfl) (fun _ _ _ h => h) (Or.inl ⟨by rfl, ?_⟩) hHeld ?_
          rotate_left
          · intro w hSw; dsimp only [q11_22]; (try dsimp only at hSw); go_simp <;> with_reducible rfl
          try simp only [q11_22, Act.put, List.setIfInBounds_toArray, List.set_cons_zero, List.set_cons_succ]
          refine wpAnyH_take (i := 23) (oi := q11_23) (v := ?_) rfl (by kernel_rfl) (by kernel_rfl) (by kernel_rfl) (fun _ _ _ h => h) (Or.inl ⟨by rfl, ?_⟩) hHeld ?_
          rotate_left
          · intro w hSw; dsimp only [q11_23]; (try dsimp only at hSw); go_simp <;> with_reducible rfl
          try simp only [q11_23, Act.put, List.setIfInBounds_toArray, List.set_cons_zero, List.set_cons_succ]
          refine wpAnyH_take (i := 24) (oi := q11_24) (v := ?_) rfl (by kernel_rfl) (by kernel_rfl) (by kernel_rfl) (fun _ _ _ h => h) (Or.inl ⟨by rfl, ?_⟩) hHeld ?_
          rotate_left
          · intro w hSw; dsimp only [q11_24]; (try dsimp only at hSw); go_simp <;> with_reducible rfl
          try simp only [q11_24, Act.put, List.setIfInBounds_toArray, List.set_cons_zero, List.set_cons_succ]
          refine wpAnyH_take (i := 25) (oi := q11_25) (v := ?_) rfl (by kernel_rfl) (by kernel_rfl) (by kernel_rfl) (fun _ _ _ h => h) (Or.inl ⟨by rfl, ?_⟩) hHeld ?_
          rotate_left
          · intro w hSw; dsimp only [q11_25]; obtain ⟨q0, q1, q2, q3, q4, q5⟩ := (HX3.out.below hSw).six; go_simp <;> with_reducible rfl
          try simp only [q11_25, Act.put, List.setIfInBounds_toArray, List.set_cons_zero, List.set_cons_succ]
          refine wpAnyH_ready (rs := [26]) (by kernel_rfl) (by simp) ?_
          refine AllReadyH.cons rfl (fun K hK => ?_) AllReadyH.nil
          go_simp
          refine (KSD.out _ HP1.out).mono ?_
          rintro e u2 ⟨rfl, hbu⟩
          have HP2 : Hid (Below W3.heap.size W3 u2) := HP1.out.trans (hbu.mono HP1.out.size)
          clear hbu
          refine hK.out _ _ (HP2.out) (fun hHeld2 => ?_)
          clear hK K hHeld
          have hHeld := hHeld2
          clear hHeld2
          try simp only [Act.put, List.setIfInBounds_toArray, List.set_cons_zero, List.set_cons_succ]
          refine wpAnyH_take (i := 27) (oi := q11_27) (v := .bool true) rfl (by kernel_rfl) (by kernel_rfl) (by kernel_rfl) (fun _ _ _ h => h) (Or.inl ⟨by rfl, ?_⟩) hHeld ?_
          skip
          · intro w hSw; dsimp only [q11_27]; go_simp <;> first | done | with_reducible rfl | simp [HBG]
          try simp only [q11_27, Act.put, List.setIfInBounds_toArray, List.set_cons_zero, List.set_cons_succ]
          refine wpAnyH_take (i := 28) (oi := q11_28) (v := .bool true) rfl (by kernel_rfl) (by kernel_rfl) (by kernel_rfl) (fun _ _ _ h => h) (Or.inl ⟨by rfl, ?_⟩) hHeld ?_
          skip
          · intro w hSw; dsimp only [q11_28]; (try dsimp only at hSw); go_simp <;> with_reducible rfl
          try simp only [q11_28, Act.put, List.setIfInBounds_toArray, List.set_cons_zero, List.set_cons_succ]
          refine wpAnyH_take (i := 29) (oi := q11_29) (v := undef) rfl (by kernel_rfl) (by kernel_rfl) (by kernel_rfl) (fun _ _ _ h => h) (Or.inr ⟨by rfl, rfl⟩) hHeld ?_
          try simp only [q11_29, Act.put, List.setIfInBounds_toArray, List.set_cons_zero, List.set_cons_succ]
          refine wpAnyH_take (i := 30) (oi := q11_30) (v := undef) rfl (by kernel_rfl) (by kernel_rfl) (by kernel_rfl) (fun _ _ _ h => h) (Or.inr ⟨by rfl, rfl⟩) hHeld ?_
          try simp only [q11_30, Act.put, List.setIfInBounds_toArray, List.set_cons_zero, List.set_cons_succ]
          refine wpAnyH_take (i := 31) (oi := q11_31) (v := undef) rfl (by kernel_rfl) (by kernel_rfl) (by kernel_rfl) (fun _ _ _ h => h) (Or.inr ⟨by rfl, rfl⟩) hHeld ?_
          try simp only [q11_31, Act.put, List.setIfInBounds_toArray, List.set_cons_zero, List.set_cons_succ]
          refine wpAnyH_take (i := 32) (oi := q11_32) (v := undef) rfl (by kernel_rfl) (by kernel_rfl) (by kernel_rfl) (fun _ _ _ h => h) (Or.inr ⟨by rfl, rfl⟩) hHeld ?_
          try simp only [q11_32, Act.put, List.setIfInBounds_toArray, List.set_cons_zero, List.set_cons_succ]
          refine wpAnyH_take (i := 33) (oi := q11_33) (v := undef) rfl (by kernel_rfl) (by kernel_rfl) (by kernel_rfl) (fun _ _ _ h => h) (Or.inr ⟨by rfl, rfl⟩) hHeld ?_
          try simp only [q11_33, Act.put, List.setIfInBounds_toArray, List.set_cons_zero, List.set_cons_succ]
          refine wpAnyH_take (i := 34) (oi := q11_34) (v := undef) rfl (by kernel_rfl) (by kernel_rfl) (by kernel_rfl) (fun _ _ _ h => h) (Or.inr ⟨by rfl, rfl⟩) hHeld ?_
          try simp only [q11_34, Act.put, List.setIfInBounds_toArray, List.set_cons_zero, List.set_cons_succ]
          refine wpAnyH_take (i := 35) (oi := q11_35) (v := undef) rfl (by kernel_rfl) (by kernel_rfl) (by kernel_rfl) (fun _ _ _ h => h) (Or.inr ⟨by rfl, rfl⟩) hHeld ?_
          try simp only [q11_35, Act.put, List.setIfInBounds_toArray, List.set_cons_zero, List.set_cons_succ]
          refine wpAnyH_take (i := 36) (oi := q11_36) (v := undef) rfl (by kernel_rfl) (by kernel_rfl) (by kernel_rfl) (fun _ _ _ h => h) (Or.inr ⟨by rfl, rfl⟩) hHeld ?_
          try simp only [q11_36, Act.put, List.setIfInBounds_toArray, List.set_cons_zero, List.set_cons_succ]
          refine wpAnyH_take (i := 37) (oi := q11_37) (v := ?_) rfl (by kernel_rfl) (by kernel_rfl) (by kernel_rfl) (fun _ _ _ h => h) (Or.inl ⟨by rfl, ?_⟩) hHeld ?_
          rotate_left
          · intro w hSw; dsimp only [q11_37]; (try dsimp only at hSw); go_simp <;> with_reducible rfl
          try simp only [q11_37, Act.put, List.setIfInBounds_toArray, List.set_cons_zero, List.set_cons_succ]
          refine wpAnyH_take (i := 38) (oi := q11_38) (v := ?_) rfl (by kernel_rfl) (by kernel_rfl) (by kernel_rfl) (fun _ _ _ h => h) (Or.inl ⟨by rfl, ?_⟩) hHeld ?_
          rotate_left
          · intro w hSw; dsimp only [q11_38]; (try dsimp only at hSw); go_simp <;> with_reducible rfl
          try simp only [q11_38, Act.put, List.setIfInBounds_toArray, List.set_cons_zero, List.set_cons_succ]
          refine wpAnyH_take (i := 39) (oi := q11_39) (v := ?_) rfl (by kernel_rfl) (by kernel_rfl) (by kernel_rfl) (fun _ _ _ h => h) (Or.inl ⟨by rfl, ?_⟩) hHeld ?_
          rotate_left
          · intro w hSw; dsimp only [q11_39]; (try dsimp only at hSw); go_simp <;> with_reducible rfl
          try simp only [q11_39, Act.put, List.setIfInBounds_toArray, List.set_cons_zero, List.set_cons_succ]
          refine wpAnyH_ready (rs := [40]) (by kernel_rfl) (by simp) ?_
          refine AllReadyH.cons rfl (fun K hK => ?_) AllReadyH.nil
          go_simp
          refine (KKN.out _ HP2.out).mono ?_
          rintro e u3 ⟨rfl, hbu⟩
          have HP3 : Hid (Below W3.heap.size W3 u3) := HP2.out.trans (hbu.mono HP2.out.size)
          clear hbu
          refine hK.out _ _ (HP3.out) (fun hHeld2 => ?_)
          clear hK K hHeld
          have hHeld := hHeld2
          clear hHeld2
          try simp only [Act.put, List.setIfInBounds_toArray, List.set_cons_zero, List.set_cons_succ]
          refine wpAnyH_take (i := 41) (oi := q11_41) (v := ?_) rfl (by kernel_rfl) (by kernel_rfl) (by kernel_rfl) (fun _ _ _ h => h) (Or.inl ⟨by rfl, ?_⟩) hHeld ?_
          rotate_left
          · intro w hSw; dsimp only [q11_41]; (try dsimp only at hSw); go_simp <;> with_reducible rfl
          try simp only [q11_41, Act.put, List.setIfInBounds_toArray, List.set_cons_zero, List.set_cons_succ]
          refine wpAnyH_take (i := 42) (oi := q11_42) (v := ?_) rfl (by kernel_rfl) (by kernel_rfl) (by kernel_rfl) (fun _ _ _ h => h) (Or.inl ⟨by rfl, ?_⟩) hHeld ?_
          rotate_left
          · intro w hSw; dsimp only [q11_42]; (try dsimp only at hSw); go_simp <;> with_reducible rfl
          try simp only [q11_42, Act.put, List.setIfInBounds_toArray, List.set_cons_zero, List.set_cons_succ]
          refine wpAnyH_done (by kernel_rfl) ?_ _
          go_wp2
          go_ret
          exact ⟨rfl, HB03.out.trans (HP3.out.mono HB03.out.size)⟩
        · exact absurd HE1.out (by simp)
      · have HBG : decide ((2305843009213693952 : Int) ≤ sd) = false := by simpa using HBGE
        have hwr : IntKind.i64.wrap (sa + sb) = sd := by rw [HE4.out (by omega)]; have := HS0.out; exact wrap_in (by omega) (by omega)
        cases i1 <;> cases i2
        · obtain rfl : iw = false := by have := HE2.out; simpa using this.symm
          clear HE1 HE2 HE3 HE4 HBGE
          refine wp_region_held_drew (S := fun X : World => Below W3.heap.size W3 X) (by kernel_rfl) (HP0.out) (fun hHeld => ?_)
          refine wpAnyH_take (i := 0) (oi := q11_0) (v := ?_) rfl (by kernel_rfl) (by kernel_rfl) (by kernel_rfl) (fun _ _ _ h => h) (Or.inl ⟨by rfl, ?_⟩) hHeld ?_
          rotate_left
          · intro w hSw; dsimp only [q11_0]; (try dsimp only at hSw); go_simp <;> with_reducible rfl
          try simp only [q11_0, Act.put, List.setIfInBounds_toArray, List.set_cons_zero, List.set_cons_succ]
          refine wpAnyH_take (i := 1) (oi := q11_1) (v := ?_) rfl (by kernel_rfl) (by kernel_rfl) (by kernel_rfl) (fun _ _ _ h => h) (Or.inl ⟨by rfl, ?_⟩) hHeld ?_
          rotate_left
          · intro w hSw; dsimp only [q11_1]; (try dsimp only at hSw); go_simp <;> with_reducible rfl
          try simp only [q11_1, Act.put, List.setIfInBounds_toArray, List.set_cons_zero, List.set_cons_succ]
          refine wpAnyH_take (i := 2) (oi := q11_2) (v := undef) rfl (by kernel_rfl) (by kernel_rfl) (by kernel_rfl) (fun _ _ _ h => h) (Or.inr ⟨by rfl, rfl⟩) hHeld ?_
          try simp only [q11_2, Act.put, List.setIfInBounds_toArray, List.set_cons_zero, List.set_cons_succ]
          refine wpAnyH_take (i := 3) (oi := q11_3) (v := ?_) rfl (by kernel_rfl) (by kernel_rfl) (by kernel_rfl) (fun _ _ _ h => h) (Or.inl ⟨by rfl, ?_⟩) hHeld ?_
          rotate_left
          · intro w hSw; dsimp only [q11_3]; (try dsimp only at hSw); go_simp <;> with_reducible rfl
          try simp only [q11_3, Act.put, List.setIfInBounds_toArray, List.set_cons_zero, List.set_cons_succ]
          refine wpAnyH_take (i := 4) (oi := q11_4) (v := ?_) rfl (by kernel_rfl) (by kernel_rfl) (by kernel_rfl) (fun _ _ _ h => h) (Or.inl ⟨by rfl, ?_⟩) hHeld ?_
          rotate_left
          · intro w hSw; dsimp only [q11_4]; (try dsimp only at hSw); go_simp <;> with_reducible rfl
          try simp only [q11_4, Act.put, List.setIfInBounds_toArray, List.set_cons_zero, List.set_cons_succ]
          refine wpAnyH_take (i := 5) (oi := q11_5) (v := ?_) rfl (by kernel_rfl) (by kernel_rfl) (by kernel_rfl) (fun _ _ _ h => h) (Or.inl ⟨by rfl, ?_⟩) hHeld ?_
          rotate_left
          · intro w hSw; dsimp only [q11_5]; (try dsimp only at hSw); go_simp <;> with_reducible rfl
          try simp only [q11_5, Act.put, List.setIfInBounds_toArray, List.set_cons_zero, List.set_cons_succ]
          refine wpAnyH_take (i := 6) (oi := q11_6) (v := ?_) rfl (by kernel_rfl) (by kernel_rfl) (by kernel_rfl) (fun _ _ _ h => h) (Or.inl ⟨by rfl, ?_⟩) hHeld ?_
          rotate_left
          · intro w hSw; dsimp only [q11_6]; (try dsimp only at hSw); go_simp <;> with_reducible rfl
          try simp only [q11_6, Act.put, List.setIfInBounds_toArray, List.set_cons_zero, List.set_cons_succ]
          refine wpAnyH_take (i := 7) (oi := q11_7) (v := ?_) rfl (by kernel_rfl) (by kernel_rfl) (by kernel_rfl) (fun _ _ _ h => h) (Or.inl ⟨by rfl, ?_⟩) hHeld ?_
          rotate_left
          · intro w hSw; dsimp only [q11_7]; (try dsimp only at hSw); go_simp <;> with_reducible rfl
          try simp only [q11_7, Act.put, List.setIfInBounds_toArray, List.set_cons_zero, List.set_cons_succ]
          refine wpAnyH_take (i := 8) (oi := q11_8) (v := ?_) rfl (by kernel_rfl) (by kernel_rfl) (by kernel_rfl) (fun _ _ _ h => h) (Or.inl ⟨by rfl, ?_⟩) hHeld ?_
          rotate_left
          · intro w hSw; dsimp only [q11_8]; (try dsimp only at hSw); go_simp <;> with_reducible rfl
          try simp only [q11_8, Act.put, List.setIfInBounds_toArray, List.set_cons_zero, List.set_cons_succ]
          refine wpAnyH_take (i := 9) (oi := q11_9) (v := ?_) rfl (by kernel_rfl) (by kernel_rfl) (by kernel_rfl) (fun _ _ _ h => h) (Or.inl ⟨by rfl, ?_⟩) hHeld ?_
          rotate_left
          · intro w hSw; dsimp only [q11_9]; (try dsimp only at hSw); go_simp <;> with_reducible rfl
          try simp only [q11_9, Act.put, List.setIfInBounds_toArray, List.set_cons_zero, List.set_cons_succ]
          refine wpAnyH_take (i := 10) (oi := q11_10) (v := ?_) rfl (by kernel_rfl) (by kernel_rfl) (by kernel_rfl) (fun _ _ _ h => h) (Or.inl ⟨by rfl, ?_⟩) hHeld ?_
          rotate_left
          · intro w hSw; dsimp only [q11_10]; (try dsimp only at hSw); go_simp <;> with_reducible rfl
          try simp only [q11_10, Act.put, List.setIfInBounds_toArray, List.set_cons_zero, List.set_cons_succ]
          refine wpAnyH_take (i := 11) (oi := q11_11) (v := ?_) rfl (by kernel_rfl) (by kernel_rfl) (by kernel_rfl) (fun _ _ _ h => h) (Or.inl ⟨by rfl, ?_⟩) hHeld ?_
          rotate_left
          · intro w hSw; dsimp only [q11_11]; (try dsimp only at hSw); go_simp <;> with_reducible rfl
          try simp only [q11_11, Act.put, List.setIfInBounds_toArray, List.set_cons_zero, List.set_cons_succ]
          refine wpAnyH_take (i := 12) (oi := q11_12) (v := ?_) rfl (by kernel_rfl) (by kernel_rfl) (by kernel_rfl) (fun _ _ _ h => h) (Or.inl ⟨by rfl, ?_⟩) hHeld ?_
          rotate_left
          · intro w hSw; dsimp only [q11_12]; (try dsimp only at hSw); go_simp <;> with_reducible rfl
          try simp only [q11_12, Act.put, List.setIfInBounds_toArray, List.set_cons_zero, List.set_cons_succ]
          refine wpAnyH_take (i := 13) (oi := q11_13) (v := ?_) rfl (by kernel_rfl) (by kernel_rfl) (by kernel_rfl) (fun _ _ _ h => h) (Or.inl ⟨by rfl, ?_⟩) hHeld ?_
          rotate_left
          · intro w hSw; dsimp only [q11_13]; (try dsimp only at hSw); go_simp <;> with_reducible rfl
          try simp only [q11_13, Act.put, List.setIfInBounds_toArray, List.set_cons_zero, List.set_cons_succ]
          refine wpAnyH_take (i := 14) (oi := q11_14) (v := ?_) rfl (by kernel_rfl) (by kernel_rfl) (by kernel_rfl) (fun _ _ _ h => h) (Or.inl ⟨by rfl, ?_⟩) hHeld ?_
          rotate_left
          · intro w hSw; dsimp only [q11_14]; (try dsimp only at hSw); go_simp <;> with_reducible rfl
          try simp only [q11_14, Act.put, List.setIfInBounds_toArray, List.set_cons_zero, List.set_cons_succ]
          refine wpAnyH_take (i := 15) (oi := q11_15) (v := ?_) rfl (by kernel_rfl) (by kernel_rfl) (by kernel_rfl) (fun _ _ _ h => h) (Or.inl ⟨by rfl, ?_⟩) hHeld ?_
          rotate_left
          · intro w hSw; dsimp only [q11_15]; (try dsimp only at hSw); go_simp <;> with_reducible rfl
          try simp only [q11_15, Act.put, List.setIfInBounds_toArray, List.set_cons_zero, List.set_cons_succ]
          refine wpAnyH_take (i := 16) (oi := q11_16) (v := ?_) rfl (by kernel_rfl) (by kernel_rfl) (by kernel_rfl) (fun _ _ _ h => h) (Or.inl ⟨by rfl, ?_⟩) hHeld ?_
          rotate_left
          · intro w hSw; dsimp only [q11_16]; (try dsimp only at hSw); go_simp <;> with_reducible rfl
          try simp only [q11_16, Act.put, List.setIfInBounds_toArray, List.set_cons_zero, List.set_cons_succ]
          refine wpAnyH_take (i := 17) (oi := q11_17) (v := undef) rfl (by kernel_rfl) (by kernel_rfl) (by kernel_rfl) (fun _ _ _ h => h) (Or.inr ⟨by rfl, rfl⟩) hHeld ?_
          try simp only [q11_17, Act.put, List.setIfInBounds_toArray, List.set_cons_zero, List.set_cons_succ]
          refine wpAnyH_take (i := 18) (oi := q11_18) (v := undef) rfl (by kernel_rfl) (by kernel_rfl) (by kernel_rfl) (fun _ _ _ h => h) (Or.inr ⟨by rfl, rfl⟩) hHeld ?_
          try simp only [q11_18, Act.put, List.setIfInBounds_toArray, List.set_cons_zero, List.set_cons_succ]
          refine wpAnyH_take (i := 19) (oi := q11_19) (v := undef) rfl (by kernel_rfl) (by kernel_rfl) (by kernel_rfl) (fun _ _ _ h => h) (Or.inr ⟨by rfl, rfl⟩) hHeld ?_
          try simp only [q11_19, Act.put, List.setIfInBounds_toArray, List.set_cons_zero, List.set_cons_succ]
          refine wpAnyH_take (i := 20) (oi := q11_20) (v := undef) rfl (by kernel_rfl) (by kernel_rfl) (by kernel_rfl) (fun _ _ _ h => h) (Or.inr ⟨by rfl, rfl⟩) hHeld ?_
          try simp only [q11_20, Act.put, List.setIfInBounds_toArray, List.set_cons_zero, List.set_cons_succ]
          refine wpAnyH_take (i := 21) (oi := q11_21) (v := undef) rfl (by kernel_rfl) (by kernel_rfl) (by kernel_rfl) (fun _ _ _ h => h) (Or.inr ⟨by rfl, rfl⟩) hHeld ?_
          try simp only [q11_21, Act.put, List.setIfInBounds_toArray, List.set_cons_zero, List.set_cons_succ]
          refine wpAnyH_take (i := 22) (oi := q11_22) (v := ?_) rfl (by kernel_rfl) (by kernel_rfl) (by kernel_rfl) (fun _ _ _ h => h) (Or.inl ⟨by rfl, ?_⟩) hHeld ?_
          rotate_left
          · intro w hSw; dsimp only [q11_22]; (try dsimp only at hSw); go_simp <;> with_reducible rfl
          try simp only [q11_22, Act.put, List.setIfInBounds_toArray, List.set_cons_zero, List.set_cons_succ]
          refine wpAnyH_take (i := 23) (oi := q11_23) (v := ?_) rfl (by kernel_rfl) (by kernel_rfl) (by kernel_rfl) (fun _ _ _ h => h) (Or.inl ⟨by rfl, ?_⟩) hHeld ?_
          rotate_left
          · intro w hSw; dsimp only [q11_23]; (try dsimp only at hSw); go_simp <;> with_reducible rfl
          try simp only [q11_23, Act.put, List.setIfInBounds_toArray, List.set_cons_zero, List.set_cons_succ]
          refine wpAnyH_take (i := 24) (oi := q11_24) (v := ?_) rfl (by kernel_rfl) (by kernel_rfl) (by kernel_rfl) (fun _ _ _ h => h) (Or.inl ⟨by rfl, ?_⟩) hHeld ?_
          rotate_left
          · intro w hSw; dsimp only [q11_24]; (try dsimp only at hSw); go_simp <;> with_reducible rfl
          try simp only [q11_24, Act.put, List.setIfInBounds_toArray, List.set_cons_zero, List.set_cons_succ]
          refine wpAnyH_take (i := 25) (oi := q11_25) (v := ?_) rfl (by kernel_rfl) (by kernel_rfl) (by kernel_rfl) (fun _ _ _ h => h) (Or.inl ⟨by rfl, ?_⟩) hHeld ?_
          rotate_left
          · intro w hSw; dsimp only [q11_25]; obtain ⟨q0, q1, q2, q3, q4, q5⟩ := (HX3.out.below hSw).six; go_simp <;> with_reducible rfl
          try simp only [q11_25, Act.put, List.setIfInBounds_toArray, List.set_cons_zero, List.set_cons_succ]
          refine wpAnyH_ready (rs := [26]) (by kernel_rfl) (by simp) ?_
          refine AllReadyH.cons rfl (fun K hK => ?_) AllReadyH.nil
          go_simp
          refine (KSD.out _ HP0.out).mono ?_
          rintro e u1 ⟨rfl, hbu⟩
          have HP1 : Hid (Below W3.heap.size W3 u1) := HP0.out.trans (hbu.mono HP0.out.size)
          clear hbu
          refine hK.out _ _ (HP1.out) (fun hHeld2 => ?_)
          clear hK K hHeld
          have hHeld := hHeld2
          clear hHeld2
          try simp only [Act.put, List.setIfInBounds_toArray, List.set_cons_zero, List.set_cons_succ]
          refine wpAnyH_take (i := 27) (oi := q11_27) (v := .bool false) rfl (by kernel_rfl) (by kernel_rfl) (by kernel_rfl) (fun _ _ _ h => h) (Or.inl ⟨by rfl, ?_⟩) hHeld ?_
          skip
          · intro w hSw; dsimp only [q11_27]; go_simp <;> first | done | with_reducible rfl | simp [HBG]
          try simp only [q11_27, Act.put, List.setIfInBounds_toArray, List.set_cons_zero, List.set_cons_succ]
          refine wpAnyH_take (i := 28) (oi := q11_28) (v := .bool false) rfl (by kernel_rfl) (by kernel_rfl) (by kernel_rfl) (fun _ _ _ h => h) (Or.inl ⟨by rfl, ?_⟩) hHeld ?_
          skip
          · intro w hSw; dsimp only [q11_28]; (try dsimp only at hSw); go_simp <;> with_reducible rfl
          try simp only [q11_28, Act.put, List.setIfInBounds_toArray, List.set_cons_zero, List.set_cons_succ]
          refine wpAnyH_take (i := 29) (oi := q11_29) (v := ?_) rfl (by kernel_rfl) (by kernel_rfl) (by kernel_rfl) (fun _ _ _ h => h) (Or.inl ⟨by rfl, ?_⟩) hHeld ?_
          rotate_left
          · intro w hSw; dsimp only [q11_29]; obtain ⟨q0, q1, q2, q3, q4, q5⟩ := (HA3.out.below hSw).six; go_simp <;> with_reducible rfl
          try simp only [q11_29, Act.put, List.setIfInBounds_toArray, List.set_cons_zero, List.set_cons_succ]
          refine wpAnyH_take (i := 31) (oi := q11_31) (v := ?_) rfl (by kernel_rfl) (by kernel_rfl) (by kernel_rfl) (fun _ _ _ h => h) (Or.inl ⟨by rfl, ?_⟩) hHeld ?_
          rotate_left
          · intro w hSw; dsimp only [q11_31]; obtain ⟨q0, q1, q2, q3, q4, q5⟩ := (HBB.out.below hSw).six; go_simp <;> with_reducible rfl
          try simp only [q11_31, Act.put, List.setIfInBounds_toArray, List.set_cons_zero, List.set_cons_succ]
          refine wpAnyH_take (i := 34) (oi := q11_34) (v := ?_) rfl (by kernel_rfl) (by kernel_rfl) (by kernel_rfl) (fun _ _ _ h => h) (Or.inl ⟨by rfl, ?_⟩) hHeld ?_
          rotate_left
          · intro w hSw; dsimp only [q11_34]; obtain ⟨q0, q1, q2, q3, q4, q5⟩ := (HX3.out.below hSw).six; go_simp <;> with_reducible rfl
          try simp only [q11_34, Act.put, List.setIfInBounds_toArray, List.set_cons_zero, List.set_cons_succ]
          refine wpAnyH_ready (rs := [30]) (by kernel_rfl) (by simp) ?_
          refine AllReadyH.cons rfl (fun K hK => ?_) AllReadyH.nil
          go_simp
          refine (KSA.out _ HP1.out).mono ?_
          rintro e u2 ⟨rfl, hbu⟩
          have HP2 : Hid (Below W3.heap.size W3 u2) := HP1.out.trans (hbu.mono HP1.out.size)
          clear hbu
          refine hK.out _ _ (HP2.out) (fun hHeld2 => ?_)
          clear hK K hHeld
          have hHeld := hHeld2
          clear hHeld2
          try simp only [Act.put, List.setIfInBounds_toArray, List.set_cons_zero, List.set_cons_succ]
          refine wpAnyH_ready (rs := [32]) (by kernel_rfl) (by simp) ?_
          refine AllReadyH.cons rfl (fun K hK => ?_) AllReadyH.nil
          go_simp
          refine (KSB.out _ HP2.out).mono ?_
          rintro e u3 ⟨rfl, hbu⟩
          have HP3 : Hid (Below W3.heap.size W3 u3) := HP2.out.trans (hbu.mono HP2.out.size)
          clear hbu
          refine hK.out _ _ (HP3.out) (fun hHeld2 => ?_)
          clear hK K hHeld
          have hHeld := hHeld2
          clear hHeld2
          try simp only [Act.put, List.setIfInBounds_toArray, List.set_cons_zero, List.set_cons_succ]
          refine wpAnyH_take (i := 33) (oi := q11_33) (v := .int .i64 (sd)) rfl (by kernel_rfl) (by kernel_rfl) (by kernel_rfl) (fun _ _ _ h => h) (Or.inl ⟨by rfl, ?_⟩) hHeld ?_
          skip
          · intro w hSw; dsimp only [q11_33]; go_simp <;> first | done | with_reducible rfl | simp [hwr]
          try simp only [q11_33, Act.put, List.setIfInBounds_toArray, List.set_cons_zero, List.set_cons_succ]
          refine wpAnyH_ready (rs := [35]) (by kernel_rfl) (by simp) ?_
          refine AllReadyH.cons rfl (fun K hK => ?_) AllReadyH.nil
          go_simp
          refine (KSD.out _ HP3.out).mono ?_
          rintro e u4 ⟨rfl, hbu⟩
          have HP4 : Hid (Below W3.heap.size W3 u4) := HP3.out.trans (hbu.mono HP3.out.size)
          clear hbu
          refine hK.out _ _ (HP4.out) (fun hHeld2 => ?_)
          clear hK K hHeld
          have hHeld := hHeld2
          clear hHeld2
          try simp only [Act.put, List.setIfInBounds_toArray, List.set_cons_zero, List.set_cons_succ]
          refine wpAnyH_take (i := 36) (oi := q11_36) (v := .bool true) rfl (by kernel_rfl) (by kernel_rfl) (by kernel_rfl) (fun _ _ _ h => h) (Or.inl ⟨by rfl, ?_⟩) hHeld ?_
          skip
          · intro w hSw; dsimp only [q11_36]; go_simp <;> first | done | with_reducible rfl | simp
          try simp only [q11_36, Act.put, List.setIfInBounds_toArray, List.set_cons_zero, List.set_cons_succ]
          refine wpAnyH_take (i := 37) (oi := q11_37) (v := ?_) rfl (by kernel_rfl) (by kernel_rfl) (by kernel_rfl) (fun _ _ _ h => h) (Or.inl ⟨by rfl, ?_⟩) hHeld ?_
          rotate_left
          · intro w hSw; dsimp only [q11_37]; (try dsimp only at hSw); go_simp <;> with_reducible rfl
          try simp only [q11_37, Act.put, List.setIfInBounds_toArray, List.set_cons_zero, List.set_cons_succ]
          refine wpAnyH_take (i := 38) (oi := q11_38) (v := ?_) rfl (by kernel_rfl) (by kernel_rfl) (by kernel_rfl) (fun _ _ _ h => h) (Or.inl ⟨by rfl, ?_⟩) hHeld ?_
          rotate_left
          · intro w hSw; dsimp only [q11_38]; (try dsimp only at hSw); go_simp <;> with_reducible rfl
          try simp only [q11_38, Act.put, List.setIfInBounds_toArray, List.set_cons_zero, List.set_cons_succ]
          refine wpAnyH_take (i := 39) (oi := q11_39) (v := ?_) rfl (by kernel_rfl) (by kernel_rfl) (by kernel_rfl) (fun _ _ _ h => h) (Or.inl ⟨by rfl, ?_⟩) hHeld ?_
          rotate_left
          · intro w hSw; dsimp only [q11_39]; (try dsimp only at hSw); go_simp <;> with_reducible rfl
          try simp only [q11_39, Act.put, List.setIfInBounds_toArray, List.set_cons_zero, List.set_cons_succ]
          refine wpAnyH_ready (rs := [40]) (by kernel_rfl) (by simp) ?_
          refine AllReadyH.cons rfl (fun K hK => ?_) AllReadyH.nil
          go_simp
          refine (KKN.out _ HP4.out).mono ?_
          rintro e u5 ⟨rfl, hbu⟩
          have HP5 : Hid (Below W3.heap.size W3 u5) := HP4.out.trans (hbu.mono HP4.out.size)
          clear hbu
          refine hK.out _ _ (HP5.out) (fun hHeld2 => ?_)
          clear hK K hHeld
          have hHeld := hHeld2
          clear hHeld2
          try simp only [Act.put, List.setIfInBounds_toArray, List.set_cons_zero, List.set_cons_succ]
          refine wpAnyH_take (i := 41) (oi := q11_41) (v := ?_) rfl (by kernel_rfl) (by kernel_rfl) (by kernel_rfl) (fun _ _ _ h => h) (Or.inl ⟨by rfl, ?_⟩) hHeld ?_
          rotate_left
          · intro w hSw; dsimp only [q11_41]; (try dsimp only at hSw); go_simp <;> with_reducible rfl
          try simp only [q11_41, Act.put, List.setIfInBounds_toArray, List.set_cons_zero, List.set_cons_succ]
          refine wpAnyH_take (i := 42) (oi := q11_42) (v := ?_) rfl (by kernel_rfl) (by kernel_rfl) (by kernel_rfl) (fun _ _ _ h => h) (Or.inl ⟨by rfl, ?_⟩) hHeld ?_
          rotate_left
          · intro w hSw; dsimp only [q11_42]; (try dsimp only at hSw); go_simp <;> with_reducible rfl
          try simp only [q11_42, Act.put, List.setIfInBounds_toArray, List.set_cons_zero, List.set_cons_succ]
          refine wpAnyH_done (by kernel_rfl) ?_ _
          go_wp2
          go_ret
          exact ⟨rfl, HB03.out.trans (HP5.out.mono HB03.out.size)⟩
        · obtain rfl : iw = true := by have := HE2.out; simpa using this.symm
          obtain rfl : ho = false := by have := HE3.out rfl; exact this.symm
          clear HE1 HE2 HE3 HE4 HBGE
          refine wp_region_held_drew (S := fun X : World => Below W3.heap.size W3 X) (by kernel_rfl) (HP0.out) (fun hHeld => ?_)
          refine wpAnyH_take (i := 0) (oi := q11_0) (v := ?_) rfl (by kernel_rfl) (by kernel_rfl) (by kernel_rfl) (fun _ _ _ h => h) (Or.inl ⟨by rfl, ?_⟩) hHeld ?_
          rotate_left
          · intro w hSw; dsimp only [q11_0]; (try dsimp only at hSw); go_simp <;> with_reducible rfl
          try simp only [q11_0, Act.put, List.setIfInBounds_toArray, List.set_cons_zero, List.set_cons_succ]
          refine wpAnyH_take (i := 1) (oi := q11_1) (v := ?_) rfl (by kernel_rfl) (by kernel_rfl) (by kernel_rfl) (fun _ _ _ h => h) (Or.inl ⟨by rfl, ?_⟩) hHeld ?_
          rotate_left
          · intro w hSw; dsimp only [q11_1]; (try dsimp only at hSw); go_simp <;> with_reducible rfl
          try simp only [q11_1, Act.put, List.setIfInBounds_toArray, List.set_cons_zero, List.set_cons_succ]
          refine wpAnyH_take (i := 2) (oi := q11_2) (v := undef) rfl (by kernel_rfl) (by kernel_rfl) (by kernel_rfl) (fun _ _ _ h => h) (Or.inr ⟨by rfl, rfl⟩) hHeld ?_
          try simp only [q11_2, Act.put, List.setIfInBounds_toArray, List.set_cons_zero, List.set_cons_succ]
          refine wpAnyH_take (i := 3) (oi := q11_3) (v := ?_) rfl (by kernel_rfl) (by kernel_rfl) (by kernel_rfl) (fun _ _ _ h => h) (Or.inl ⟨by rfl, ?_⟩) hHeld ?_
          rotate_left
          · intro w hSw; dsimp only [q11_3]; (try dsimp only at hSw); go_simp <;> with_reducible rfl
          try simp only [q11_3, Act.put, List.setIfInBounds_toArray, List.set_cons_zero, List.set_cons_succ]
          refine wpAnyH_take (i := 4) (oi := q11_4) (v := ?_) rfl (by kernel_rfl) (by kernel_rfl) (by kernel_rfl) (fun _ _ _ h => h) (Or.inl ⟨by rfl, ?_⟩) hHeld ?_
          rotate_left
          · intro w hSw; dsimp only [q11_4]; (try dsimp only at hSw); go_simp <;> with_reducible rfl
          try simp only [q11_4, Act.put, List.setIfInBounds_toArray, List.set_cons_zero, List.set_cons_succ]
          refine wpAnyH_take (i := 5) (oi := q11_5) (v := ?_) rfl (by kernel_rfl) (by kernel_rfl) (by kernel_rfl) (fun _ _ _ h => h) (Or.inl ⟨by rfl, ?_⟩) hHeld ?_
          rotate_left
          · intro w hSw; dsimp only [q11_5]; (try dsimp only at hSw); go_simp <;> with_reducible rfl
          try simp only [q11_5, Act.put, List.setIfInBounds_toArray, List.set_cons_zero, List.set_cons_succ]
          refine wpAnyH_take (i := 6) (oi := q11_6) (v := ?_) rfl (by kernel_rfl) (by kernel_rfl) (by kernel_rfl) (fun _ _ _ h => h) (Or.inl ⟨by rfl, ?_⟩) hHeld ?_
          rotate_left
          · intro w hSw; dsimp only [q11_6]; (try dsimp only at hSw); go_simp <;> with_reducible rfl
          try simp only [q11_6, Act.put, List.setIfInBounds_toArray, List.set_cons_zero, List.set_cons_succ]
          refine wpAnyH_take (i := 7) (oi := q11_7) (v := ?_) rfl (by kernel_rfl) (by kernel_rfl) (by kernel_rfl) (fun _ _ _ h => h) (Or.inl ⟨by rfl, ?_⟩) hHeld ?_
          rotate_left
          · intro w hSw; dsimp only [q11_7]; (try dsimp only at hSw); go_simp <;> with_reducible rfl
          try simp only [q11_7, Act.put, List.setIfInBounds_toArray, List.set_cons_zero, List.set_cons_succ]
          refine wpAnyH_take (i := 8) (oi := q11_8) (v := ?_) rfl (by kernel_rfl) (by kernel_rfl) (by kernel_rfl) (fun _ _ _ h => h) (Or.inl ⟨by rfl, ?_⟩) hHeld ?_
          rotate_left
          · intro w hSw; dsimp only [q11_8]; (try dsimp only at hSw); go_simp <;> with_reducible rfl
          try simp only [q11_8, Act.put, List.setIfInBounds_toArray, List.set_cons_zero, List.set_cons_succ]
          refine wpAnyH_take (i := 9) (oi := q11_9) (v := ?_) rfl (by kernel_rfl) (by kernel_rfl) (by kernel_rfl) (fun _ _ _ h => h) (Or.inl ⟨by rfl, ?_⟩) hHeld ?_
          rotate_left
          · intro w hSw; dsimp only [q11_9]; (try dsimp only at hSw); go_simp <;> with_reducible rfl
          try simp only [q11_9, Act.put, List.setIfInBounds_toArray, List.set_cons_zero, List.set_cons_succ]
          refine wpAnyH_take (i := 10) (oi := q11_10) (v := ?_) rfl (by kernel_rfl) (by kernel_rfl) (by kernel_rfl) (fun _ _ _ h => h) (Or.inl ⟨by rfl, ?_⟩) hHeld ?_
          rotate_left
          · intro w hSw; dsimp only [q11_10]; (try dsimp only at hSw); go_simp <;> with_reducible rfl
          try simp only [q11_10, Act.put, List.setIfInBounds_toArray, List.set_cons_zero, List.set_cons_succ]
          refine wpAnyH_take (i := 11) (oi := q11_11) (v := ?_) rfl (by kernel_rfl) (by kernel_rfl) (by kernel_rfl) (fun _ _ _ h => h) (Or.inl ⟨by rfl, ?_⟩) hHeld ?_
          rotate_left
          · intro w hSw; dsimp only [q11_11]; (try dsimp only at hSw); go_simp <;> with_reducible rfl
          try simp only [q11_11, Act.put, List.setIfInBounds_toArray, List.set_cons_zero, List.set_cons_succ]
          refine wpAnyH_take (i := 12) (oi := q11_12) (v := ?_) rfl (by kernel_rfl) (by kernel_rfl) (by kernel_rfl) (fun _ _ _ h => h) (Or.inl ⟨by rfl, ?_⟩) hHeld ?_
          rotate_left
          · intro w hSw; dsimp only [q11_12]; (try dsimp only at hSw); go_simp <;> with_reducible rfl
          try simp only [q11_12, Act.put, List.setIfInBounds_toArray, List.set_cons_zero, List.set_cons_succ]
          refine wpAnyH_take (i := 13) (oi := q11_13) (v := ?_) rfl (by kernel_rfl) (by kernel_rfl) (by kernel_rfl) (fun _ _ _ h => h) (Or.inl ⟨by rfl, ?_⟩) hHeld ?_
          rotate_left
          · intro w hSw; dsimp only [q11_13]; (try dsimp only at hSw); go_simp <;> with_reducible rfl
          try simp only [q11_13, Act.put, List.setIfInBounds_toArray, List.set_cons_zero, List.set_cons_succ]
          refine wpAnyH_take (i := 14) (oi := q11_14) (v := ?_) rfl (by kernel_rfl) (by kernel_rfl) (by kernel_rfl) (fun _ _ _ h => h) (Or.inl ⟨by rfl, ?_⟩) hHeld ?_
          rotate_left
          · intro w hSw; dsimp only [q11_14]; (try dsimp only at hSw); go_simp <;> with_reducible rfl
          try simp only [q11_14, Act.put, List.setIfInBounds_toArray, List.set_cons_zero, List.set_cons_succ]
          refine wpAnyH_take (i := 15) (oi := q11_15) (v := ?_) rfl (by kernel_rfl) (by kernel_rfl) (by kernel_rfl) (fun _ _ _ h => h) (Or.inl ⟨by rfl, ?_⟩) hHeld ?_
          rotate_left
          · intro w hSw; dsimp only [q11_15]; (try dsimp only at hSw); go_simp <;> with_reducible rfl
          try simp only [q11_15, Act.put, List.setIfInBounds_toArray, List.set_cons_zero, List.set_cons_succ]
          refine wpAnyH_take (i := 16) (oi := q11_16) (v := ?_) rfl (by kernel_rfl) (by kernel_rfl) (by kernel_rfl) (fun _ _ _ h => h) (Or.inl ⟨by rfl, ?_⟩) hHeld ?_
          rotate_left
          · intro w hSw; dsimp only [q11_16]; (try dsimp only at hSw); go_simp <;> with_reducible rfl
          try simp only [q11_16, Act.put, List.setIfInBounds_toArray, List.set_cons_zero, List.set_cons_succ]
          refine wpAnyH_take (i := 17) (oi := q11_17) (v := ?_) rfl (by kernel_rfl) (by kernel_rfl) (by kernel_rfl) (fun _ _ _ h => h) (Or.inl ⟨by rfl, ?_⟩) hHeld ?_
          rotate_left
          · intro w hSw; dsimp only [q11_17]; (try dsimp only at hSw); go_simp <;> with_reducible rfl
          try simp only [q11_17, Act.put, List.setIfInBounds_toArray, List.set_cons_zero, List.set_cons_succ]
          refine wpAnyH_take (i := 18) (oi := q11_18) (v := ?_) rfl (by kernel_rfl) (by kernel_rfl) (by kernel_rfl) (fun _ _ _ h => h) (Or.inl ⟨by rfl, ?_⟩) hHeld ?_
          rotate_left
          · intro w hSw; dsimp only [q11_18]; obtain ⟨q0, q1, q2⟩ := (HY3.out.below hSw).three; go_simp <;> with_reducible rfl
          try simp only [q11_18, Act.put, List.setIfInBounds_toArray, List.set_cons_zero, List.set_cons_succ]
          refine wpAnyH_take (i := 19) (oi := q11_19) (v := ?_) rfl (by kernel_rfl) (by kernel_rfl) (by kernel_rfl) (fun _ _ _ h => h) (Or.inl ⟨by rfl, ?_⟩) hHeld ?_
          rotate_left
          · intro w hSw; dsimp only [q11_19]; obtain ⟨q0, q1, q2⟩ := (HV3.out.below hSw).three; go_simp <;> with_reducible rfl
          try simp only [q11_19, Act.put, List.setIfInBounds_toArray, List.set_cons_zero, List.set_cons_succ]
          refine wpAnyH_ready (rs := [20]) (by kernel_rfl) (by simp) ?_
          refine AllReadyH.cons rfl (fun K hK => ?_) AllReadyH.nil
          go_simp
          refine (KHO.out _ HP0.out).mono ?_
          rintro e u1 ⟨rfl, hbu⟩
          have HP1 : Hid (Below W3.heap.size W3 u1) := HP0.out.trans (hbu.mono HP0.out.size)
          clear hbu
          refine hK.out _ _ (HP1.out) (fun hHeld2 => ?_)
          clear hK K hHeld
          have hHeld := hHeld2
          clear hHeld2
          try simp only [Act.put, List.setIfInBounds_toArray, List.set_cons_zero, List.set_cons_succ]
          refine wpAnyH_take (i := 21) (oi := q11_21) (v := .bool true) rfl (by kernel_rfl) (by kernel_rfl) (by kernel_rfl) (fun _ _ _ h => h) (Or.inl ⟨by rfl, ?_⟩) hHeld ?_
          skip
          · intro w hSw; dsimp only [q11_21]; go_simp <;> first | done | with_reducible rfl
          try simp only [q11_21, Act.put, List.setIfInBounds_toArray, List.set_cons_zero, List.set_cons_succ]
          refine wpAnyH_take (i := 22) (oi := q11_22) (v := ?_) rfl (by kernel_rfl) (by kernel_rfl) (by kernel_rfl) (fun _ _ _ h => h) (Or.inl ⟨by rfl, ?_⟩) hHeld ?_
          rotate_left
          · intro w hSw; dsimp only [q11_22]; (try dsimp only at hSw); go_simp <;> with_reducible rfl
          try simp only [q11_22, Act.put, List.setIfInBounds_toArray, List.set_cons_zero, List.set_cons_succ]
          refine wpAnyH_take (i := 23) (oi := q11_23) (v := ?_) rfl (by kernel_rfl) (by kernel_rfl) (by kernel_rfl) (fun _ _ _ h => h) (Or.inl ⟨by rfl, ?_⟩) hHeld ?_
          rotate_left
          · intro w hSw; dsimp only [q11_23]; (try dsimp only at hSw); go_simp <;> with_reducible rfl
          try simp only [q11_23, Act.put, List.setIfInBounds_toArray, List.set_cons_zero, List.set_cons_succ]
          refine wpAnyH_take (i := 24) (oi := q11_24) (v := ?_) rfl (by kernel_rfl) (by kernel_rfl) (by kernel_rfl) (fun _ _ _ h => h) (Or.inl ⟨by rfl, ?_⟩) hHeld ?_
          rotate_left
          · intro w hSw; dsimp only [q11_24]; (try dsimp only at hSw); go_simp <;> with_reducible rfl
          try simp only [q11_24, Act.put, List.setIfInBounds_toArray, List.set_cons_zero, List.set_cons_succ]
          refine wpAnyH_take (i := 25) (oi := q11_25) (v := ?_) rfl (by kernel_rfl) (by kernel_rfl) (by kernel_rfl) (fun _ _ _ h => h) (Or.inl ⟨by rfl, ?_⟩) hHeld ?_
          rotate_left
          · intro w hSw; dsimp only [q11_25]; obtain ⟨q0, q1, q2, q3, q4, q5⟩ := (HX3.out.below hSw).six; go_simp <;> with_reducible rfl
          try simp only [q11_25, Act.put, List.setIfInBounds_toArray, List.set_cons_zero, List.set_cons_succ]
          refine wpAnyH_ready (rs := [26]) (by kernel_rfl) (by simp) ?_
          refine AllReadyH.cons rfl (fun K hK => ?_) AllReadyH.nil
          go_simp
          refine (KSD.out _ HP1.out).mono ?_
          rintro e u2 ⟨rfl, hbu⟩
          have HP2 : Hid (Below W3.heap.size W3 u2) := HP1.out.trans (hbu.mono HP1.out.size)
          clear hbu
          refine hK.out _ _ (HP2.out) (fun hHeld2 => ?_)
          clear hK K hHeld
          have hHeld := hHeld2
          clear hHeld2
          try simp only [Act.put, List.setIfInBounds_toArray, List.set_cons_zero, List.set_cons_succ]
          refine wpAnyH_take (i := 27) (oi := q11_27) (v := .bool false) rfl (by kernel_rfl) (by kernel_rfl) (by kernel_rfl) (fun _ _ _ h => h) (Or.inl ⟨by rfl, ?_⟩) hHeld ?_
          skip
          · intro w hSw; dsimp only [q11_27]; go_simp <;> first | done | with_reducible rfl | simp [HBG]
          try simp only [q11_27, Act.put, List.setIfInBounds_toArray, List.set_cons_zero, List.set_cons_succ]
          refine wpAnyH_take (i := 28) (oi := q11_28) (v := .bool false) rfl (by kernel_rfl) (by kernel_rfl) (by kernel_rfl) (fun _ _ _ h => h) (Or.inl ⟨by rfl, ?_⟩) hHeld ?_
          skip
          · intro w hSw; dsimp only [q11_28]; (try dsimp only at hSw); go_simp <;> with_reducible rfl
          try simp only [q11_28, Act.put, List.setIfInBounds_toArray, List.set_cons_zero, List.set_cons_succ]
          refine wpAnyH_take (i := 29) (oi := q11_29) (v := ?_) rfl (by kernel_rfl) (by kernel_rfl) (by kernel_rfl) (fun _ _ _ h => h) (Or.inl ⟨by rfl, ?_⟩) hHeld ?_
          rotate_left
          · intro w hSw; dsimp only [q11_29]; obtain ⟨q0, q1, q2, q3, q4, q5⟩ := (HA3.out.below hSw).six; go_simp <;> with_reducible rfl
          try simp only [q11_29, Act.put, List.setIfInBounds_toArray, List.set_cons_zero, List.set_cons_succ]
          refine wpAnyH_take (i := 31) (oi := q11_31) (v := ?_) rfl (by kernel_rfl) (by kernel_rfl) (by kernel_rfl) (fun _ _ _ h => h) (Or.inl ⟨by rfl, ?_⟩) hHeld ?_
          rotate_left
          · intro w hSw; dsimp only [q11_31]; obtain ⟨q0, q1, q2, q3, q4, q5⟩ := (HBB.out.below hSw).six; go_simp <;> with_reducible rfl
          try simp only [q11_31, Act.put, List.setIfInBounds_toArray, List.set_cons_zero, List.set_cons_succ]
          refine wpAnyH_take (i := 34) (oi := q11_34) (v := ?_) rfl (by kernel_rfl) (by kernel_rfl) (by kernel_rfl) (fun _ _ _ h => h) (Or.inl ⟨by rfl, ?_⟩) hHeld ?_
          rotate_left
          · intro w hSw; dsimp only [q11_34]; obtain ⟨q0, q1, q2, q3, q4, q5⟩ := (HX3.out.below hSw).six; go_simp <;> with_reducible rfl
          try simp only [q11_34, Act.put, List.setIfInBounds_toArray, List.set_cons_zero, List.set_cons_succ]
          refine wpAnyH_ready (rs := [30]) (by kernel_rfl) (by simp) ?_
          refine AllReadyH.cons rfl (fun K hK => ?_) AllReadyH.nil
          go_simp
          refine (KSA.out _ HP2.out).mono ?_
          rintro e u3 ⟨rfl, hbu⟩
          have HP3 : Hid (Below W3.heap.size W3 u3) := HP2.out.trans (hbu.mono HP2.out.size)
          clear hbu
          refine hK.out _ _ (HP3.out) (fun hHeld2 => ?_)
          clear hK K hHeld
          have hHeld := hHeld2
          clear hHeld2
          try simp only [Act.put, List.setIfInBounds_toArray, List.set_cons_zero, List.set_cons_succ]
          refine wpAnyH_ready (rs := [32]) (by kernel_rfl) (by simp) ?_
          refine AllReadyH.cons rfl (fun K hK => ?_) AllReadyH.nil
          go_simp
          refine (KSB.out _ HP3.out).mono ?_
          rintro e u4 ⟨rfl, hbu⟩
          have HP4 : Hid (Below W3.heap.size W3 u4) := HP3.out.trans (hbu.mono HP3.out.size)
          clear hbu
          refine hK.out _ _ (HP4.out) (fun hHeld2 => ?_)
          clear hK K hHeld
          have hHeld := hHeld2
          clear hHeld2
          try simp only [Act.put, List.setIfInBounds_toArray, List.set_cons_zero, List.set_cons_succ]
          refine wpAnyH_take (i := 33) (oi := q11_33) (v := .int .i64 (sd)) rfl (by kernel_rfl) (by kernel_rfl) (by kernel_rfl) (fun _ _ _ h => h) (Or.inl ⟨by rfl, ?_⟩) hHeld ?_
          skip
          · intro w hSw; dsimp only [q11_33]; go_simp <;> first | done | with_reducible rfl | simp [hwr]
          try simp only [q11_33, Act.put, List.setIfInBounds_toArray, List.set_cons_zero, List.set_cons_succ]
          refine wpAnyH_ready (rs := [35]) (by kernel_rfl) (by simp) ?_
          refine AllReadyH.cons rfl (fun K hK => ?_) AllReadyH.nil
          go_simp
          refine (KSD.out _ HP4.out).mono ?_
          rintro e u5 ⟨rfl, hbu⟩
          have HP5 : Hid (Below W3.heap.size W3 u5) := HP4.out.trans (hbu.mono HP4.out.size)
          clear hbu
          refine hK.out _ _ (HP5.out) (fun hHeld2 => ?_)
          clear hK K hHeld
          have hHeld := hHeld2
          clear hHeld2
          try simp only [Act.put, List.setIfInBounds_toArray, List.set_cons_zero, List.set_cons_succ]
          refine wpAnyH_take (i := 36) (oi := q11_36) (v := .bool true) rfl (by kernel_rfl) (by kernel_rfl) (by kernel_rfl) (fun _ _ _ h => h) (Or.inl ⟨by rfl, ?_⟩) hHeld ?_
          skip
          · intro w hSw; dsimp only [q11_36]; go_simp <;> first | done | with_reducible rfl | simp
          try simp only [q11_36, Act.put, List.setIfInBounds_toArray, List.set_cons_zero, List.set_cons_succ]
          refine wpAnyH_take (i := 37) (oi := q11_37) (v := ?_) rfl (by kernel_rfl) (by kernel_rfl) (by kernel_rfl) (fun _ _ _ h => h) (Or.inl ⟨by rfl, ?_⟩) hHeld ?_
          rotate_left
          · intro w hSw; dsimp only [q11_37]; (try dsimp only at hSw); go_simp <;> with_reducible rfl
          try simp only [q11_37, Act.put, List.setIfInBounds_toArray, List.set_cons_zero, List.set_cons_succ]
          refine wpAnyH_take (i := 38) (oi := q11_38) (v := ?_) rfl (by kernel_rfl) (by kernel_rfl) (by kernel_rfl) (fun _ _ _ h => h) (Or.inl ⟨by rfl, ?_⟩) hHeld ?_
          rotate_left
          · intro w hSw; dsimp only [q11_38]; (try dsimp only at hSw); go_simp <;> with_reducible rfl
          try simp only [q11_38, Act.put, List.setIfInBounds_toArray, List.set_cons_zero, List.set_cons_succ]
          refine wpAnyH_take (i := 39) (oi := q11_39) (v := ?_) rfl (by kernel_rfl) (by kernel_rfl) (by kernel_rfl) (fun _ _ _ h => h) (Or.inl ⟨by rfl, ?_⟩) hHeld ?_
          rotate_left
          · intro w hSw; dsimp only [q11_39]; (try dsimp only at hSw); go_simp <;> with_reducible rfl
          try simp only [q11_39, Act.put, List.setIfInBounds_toArray, List.set_cons_zero, List.set_cons_succ]
          refine wpAnyH_ready (rs := [40]) (by kernel_rfl) (by simp) ?_
          refine AllReadyH.cons rfl (fun K hK => ?_) AllReadyH.nil
          go_simp
          refine (KKN.out _ HP5.out).mono ?_
          rintro e u6 ⟨rfl, hbu⟩
          have HP6 : Hid (Below W3.heap.size W3 u6) := HP5.out.trans (hbu.mono HP5.out.size)
          clear hbu
          refine hK.out _ _ (HP6.out) (fun hHeld2 => ?_)
          clear hK K hHeld
          have hHeld := hHeld2
          clear hHeld2
          try simp only [Act.put, List.setIfInBounds_toArray, List.set_cons_zero, List.set_cons_succ]
          refine wpAnyH_take (i := 41) (oi := q11_41) (v := ?_) rfl (by kernel_rfl) (by kernel_rfl) (by kernel_rfl) (fun _ _ _ h => h) (Or.inl ⟨by rfl, ?_⟩) hHeld ?_
          rotate_left
          · intro w hSw; dsimp only [q11_41]; (try dsimp only at hSw); go_simp <;> with_reducible rfl
          try simp only [q11_41, Act.put, List.setIfInBounds_toArray, List.set_cons_zero, List.set_cons_succ]
          refine wpAnyH_take (i := 42) (oi := q11_42) (v := ?_) rfl (by kernel_rfl) (by kernel_rfl) (by kernel_rfl) (fun _ _ _ h => h) (Or.inl ⟨by rfl, ?_⟩) hHeld ?_
          rotate_left
          · intro w hSw; dsimp only [q11_42]; (try dsimp only at hSw); go_simp <;> with_reducible rfl
          try simp only [q11_42, Act.put, List.setIfInBounds_toArray, List.set_cons_zero, List.set_cons_succ]
          refine wpAnyH_done (by kernel_rfl) ?_ _
          go_wp2
          go_ret
          exact ⟨rfl, HB03.out.trans (HP6.out.mono HB03.out.size)⟩
        · obtain rfl : iw = true := by have := HE2.out; simpa using this.symm
          obtain rfl : ho = true := by have := HE3.out rfl; exact this.symm
          clear HE1 HE2 HE3 HE4 HBGE
          refine wp_region_held_drew (S := fun X : World => Below W3.heap.size W3 X) (by kernel_rfl) (HP0.out) (fun hHeld => ?_)
          refine wpAnyH_take (i := 0) (oi := q11_0) (v := ?_) rfl (by kernel_rfl) (by kernel_rfl) (by kernel_rfl) (fun _ _ _ h => h) (Or.inl ⟨by rfl, ?_⟩) hHeld ?_
          rotate_left
          · intro w hSw; dsimp only [q11_0]; (try dsimp only at hSw); go_simp <;> with_reducible rfl
          try simp only [q11_0, Act.put, List.setIfInBounds_toArray, List.set_cons_zero, List.set_cons_succ]
          refine wpAnyH_take (i := 1) (oi := q11_1) (v := ?_) rfl (by kernel_rfl) (by kernel_rfl) (by kernel_rfl) (fun _ _ _ h => h) (Or.inl ⟨by rfl, ?_⟩) hHeld ?_
          rotate_left
          · intro w hSw; dsimp only [q11_1]; (try dsimp only at hSw); go_simp <;> with_reducible rfl
          try simp only [q11_1, Act.put, List.setIfInBounds_toArray, List.set_cons_zero, List.set_cons_succ]
          refine wpAnyH_take (i := 2) (oi := q11_2) (v := ?_) rfl (by kernel_rfl) (by kernel_rfl) (by kernel_rfl) (fun _ _ _ h => h) (Or.inl ⟨by rfl, ?_⟩) hHeld ?_
          rotate_left
          · intro w hSw; dsimp only [q11_2]; (try dsimp only at hSw); go_simp <;> with_reducible rfl
          try simp only [q11_2, Act.put, List.setIfInBounds_toArray, List.set_cons_zero, List.set_cons_succ]
          refine wpAnyH_take (i := 3) (oi := q11_3) (v := ?_) rfl (by kernel_rfl) (by kernel_rfl) (by kernel_rfl) (fun _ _ _ h => h) (Or.inl ⟨by rfl, ?_⟩) hHeld ?_
          rotate_left
          · intro w hSw; dsimp only [q11_3]; (try dsimp only at hSw); go_simp <;> with_reducible rfl
          try simp only [q11_3, Act.put, List.setIfInBounds_toArray, List.set_cons_zero, List.set_cons_succ]
          refine wpAnyH_take (i := 4) (oi := q11_4) (v := ?_) rfl (by kernel_rfl) (by kernel_rfl) (by kernel_rfl) (fun _ _ _ h => h) (Or.inl ⟨by rfl, ?_⟩) hHeld ?_
          rotate_left
          · intro w hSw; dsimp only [q11_4]; (try dsimp only at hSw); go_simp <;> with_reducible rfl
          try simp only [q11_4, Act.put, List.setIfInBounds_toArray, List.set_cons_zero, List.set_cons_succ]
          refine wpAnyH_take (i := 5) (oi := q11_5) (v := ?_) rfl (by kernel_rfl) (by kernel_rfl) (by kernel_rfl) (fun _ _ _ h => h) (Or.inl ⟨by rfl, ?_⟩) hHeld ?_
          rotate_left
          · intro w hSw; dsimp only [q11_5]; (try dsimp only at hSw); go_simp <;> with_reducible rfl
          try simp only [q11_5, Act.put, List.setIfInBounds_toArray, List.set_cons_zero, List.set_cons_succ]
          refine wpAnyH_take (i := 6) (oi := q11_6) (v := ?_) rfl (by kernel_rfl) (by kernel_rfl) (by kernel_rfl) (fun _ _ _ h => h) (Or.inl ⟨by rfl, ?_⟩) hHeld ?_
          rotate_left
          · intro w hSw; dsimp only [q11_6]; (try dsimp only at hSw); go_simp <;> with_reducible rfl
          try simp only [q11_6, Act.put, List.setIfInBounds_toArray, List.set_cons_zero, List.set_cons_succ]
          refine wpAnyH_take (i := 7) (oi := q11_7) (v := ?_) rfl (by kernel_rfl) (by kernel_rfl) (by kernel_rfl) (fun _ _ _ h => h) (Or.inl ⟨by rfl, ?_⟩) hHeld ?_
          rotate_left
          · intro w hSw; dsimp only [q11_7]; (try dsimp only at hSw); go_simp <;> with_reducible rfl
          try simp only [q11_7, Act.put, List.setIfInBounds_toArray, List.set_cons_zero, List.set_cons_succ]
          refine wpAnyH_take (i := 8) (oi := q11_8) (v := undef) rfl (by kernel_rfl) (by kernel_rfl) (by kernel_rfl) (fun _ _ _ h => h) (Or.inr ⟨by rfl, rfl⟩) hHeld ?_
          try simp only [q11_8, Act.put, List.setIfInBounds_toArray, List.set_cons_zero, List.set_cons_succ]
          refine wpAnyH_take (i := 9) (oi := q11_9) (v := ?_) rfl (by kernel_rfl) (by kernel_rfl) (by kernel_rfl) (fun _ _ _ h => h) (Or.inl ⟨by rfl, ?_⟩) hHeld ?_
          rotate_left
          · intro w hSw; dsimp only [q11_9]; (try dsimp only at hSw); go_simp <;> with_reducible rfl
          try simp only [q11_9, Act.put, List.setIfInBounds_toArray, List.set_cons_zero, List.set_cons_succ]
          refine wpAnyH_take (i := 10) (oi := q11_10) (v := ?_) rfl (by kernel_rfl) (by kernel_rfl) (by kernel_rfl) (fun _ _ _ h => h) (Or.inl ⟨by rfl, ?_⟩) hHeld ?_
          rotate_left
          · intro w hSw; dsimp only [q11_10]; (try dsimp only at hSw); go_simp <;> with_reducible rfl
          try simp only [q11_10, Act.put, List.setIfInBounds_toArray, List.set_cons_zero, List.set_cons_succ]
          refine wpAnyH_take (i := 11) (oi := q11_11) (v := ?_) rfl (by kernel_rfl) (by kernel_rfl) (by kernel_rfl) (fun _ _ _ h => h) (Or.inl ⟨by rfl, ?_⟩) hHeld ?_
          rotate_left
          · intro w hSw; dsimp only [q11_11]; (try dsimp only at hSw); go_simp <;> with_reducible rfl
          try simp only [q11_11, Act.put, List.setIfInBounds_toArray, List.set_cons_zero, List.set_cons_succ]
          refine wpAnyH_take (i := 12) (oi := q11_12) (v := ?_) rfl (by kernel_rfl) (by kernel_rfl) (by kernel_rfl) (fun _ _ _ h => h) (Or.inl ⟨by rfl, ?_⟩) hHeld ?_
          rotate_left
          · intro w hSw; dsimp only [q11_12]; (try dsimp only at hSw); go_simp <;> with_reducible rfl
          try simp only [q11_12, Act.put, List.setIfInBounds_toArray, List.set_cons_zero, List.set_cons_succ]
          refine wpAnyH_take (i := 13) (oi := q11_13) (v := ?_) rfl (by kernel_rfl) (by kernel_rfl) (by kernel_rfl) (fun _ _ _ h => h) (Or.inl ⟨by rfl, ?_⟩) hHeld ?_
          rotate_left
          · intro w hSw; dsimp only [q11_13]; (try dsimp only at hSw); go_simp <;> with_reducible rfl
          try simp only [q11_13, Act.put, List.setIfInBounds_toArray, List.set_cons_zero, List.set_cons_succ]
          refine wpAnyH_take (i := 14) (oi := q11_14) (v := ?_) rfl (by kernel_rfl) (by kernel_rfl) (by kernel_rfl) (fun _ _ _ h => h) (Or.inl ⟨by rfl, ?_⟩) hHeld ?_
          rotate_left
          · intro w hSw; dsimp only [q11_14]; (try dsimp only at hSw); go_simp <;> with_reducible rfl
          try simp only [q11_14, Act.put, List.setIfInBounds_toArray, List.set_cons_zero, List.set_cons_succ]
          refine wpAnyH_take (i := 15) (oi := q11_15) (v := ?_) rfl (by kernel_rfl) (by kernel_rfl) (by kernel_rfl) (fun _ _ _ h => h) (Or.inl ⟨by rfl, ?_⟩) hHeld ?_
          rotate_left
          · intro w hSw; dsimp only [q11_15]; (try dsimp only at hSw); go_simp <;> with_reducible rfl
          try simp only [q11_15, Act.put, List.setIfInBounds_toArray, List.set_cons_zero, List.set_cons_succ]
          refine wpAnyH_take (i := 16) (oi := q11_16) (v := ?_) rfl (by kernel_rfl) (by kernel_rfl) (by kernel_rfl) (fun _ _ _ h => h) (Or.inl ⟨by rfl, ?_⟩) hHeld ?_
          rotate_left
          · intro w hSw; dsimp only [q11_16]; (try dsimp only at hSw); go_simp <;> with_reducible rfl
          try simp only [q11_16, Act.put, List.setIfInBounds_toArray, List.set_cons_zero, List.set_cons_succ]
          refine wpAnyH_take (i := 17) (oi := q11_17) (v := ?_) rfl (by kernel_rfl) (by kernel_rfl) (by kernel_rfl) (fun _ _ _ h => h) (Or.inl ⟨by rfl, ?_⟩) hHeld ?_
          rotate_left
          · intro w hSw; dsimp only [q11_17]; (try dsimp only at hSw); go_simp <;> with_reducible rfl
          try simp only [q11_17, Act.put, List.setIfInBounds_toArray, List.set_cons_zero, List.set_cons_succ]
          refine wpAnyH_take (i := 18) (oi := q11_18) (v := ?_) rfl (by kernel_rfl) (by kernel_rfl) (by kernel_rfl) (fun _ _ _ h => h) (Or.inl ⟨by rfl, ?_⟩) hHeld ?_
          rotate_left
          · intro w hSw; dsimp only [q11_18]; obtain ⟨q0, q1, q2⟩ := (HY3.out.below hSw).three; go_simp <;> with_reducible rfl
          try simp only [q11_18, Act.put, List.setIfInBounds_toArray, List.set_cons_zero, List.set_cons_succ]
          refine wpAnyH_take (i := 19) (oi := q11_19) (v := ?_) rfl (by kernel_rfl) (by kernel_rfl) (by kernel_rfl) (fun _ _ _ h => h) (Or.inl ⟨by rfl, ?_⟩) hHeld ?_
          rotate_left
          · intro w hSw; dsimp only [q11_19]; obtain ⟨q0, q1, q2⟩ := (HV3.out.below hSw).three; go_simp <;> with_reducible rfl
          try simp only [q11_19, Act.put, List.setIfInBounds_toArray, List.set_cons_zero, List.set_cons_succ]
          refine wpAnyH_ready (rs := [20]) (by kernel_rfl) (by simp) ?_
          refine AllReadyH.cons rfl (fun K hK => ?_) AllReadyH.nil
          go_simp
          refine (KHO.out _ HP0.out).mono ?_
          rintro e u1 ⟨rfl, hbu⟩
          have HP1 : Hid (Below W3.heap.size W3 u1) := HP0.out.trans (hbu.mono HP0.out.size)
          clear hbu
          refine hK.out _ _ (HP1.out) (fun hHeld2 => ?_)
          clear hK K hHeld
          have hHeld := hHeld2
          clear hHeld2
          try simp only [Act.put, List.setIfInBounds_toArray, List.set_cons_zero, List.set_cons_succ]
          refine wpAnyH_take (i := 21) (oi := q11_21) (v := .bool true) rfl (by kernel_rfl) (by kernel_rfl) (by kernel_rfl) (fun _ _ _ h => h) (Or.inl ⟨by rfl, ?_⟩) hHeld ?_
          skip
          · intro w hSw; dsimp only [q11_21]; go_simp <;> first | done | with_reducible rfl
          try simp only [q11_21, Act.put, List.setIfInBounds_toArray, List.set_cons_zero, List.set_cons_succ]
          refine wpAnyH_take (i := 22) (oi := q11_22) (v := ?_) rfl (by kernel_rfl) (by kernel_rfl) (by kernel_rfl) (fun _ _ _ h => h) (Or.inl ⟨by rfl, ?_⟩) hHeld ?_
          rotate_left
          · intro w hSw; dsimp only [q11_22]; (try dsimp only at hSw); go_simp <;> with_reducible rfl
          try simp only [q11_22, Act.put, List.setIfInBounds_toArray, List.set_cons_zero, List.set_cons_succ]
          refine wpAnyH_take (i := 23) (oi := q11_23) (v := ?_) rfl (by kernel_rfl) (by kernel_rfl) (by kernel_rfl) (fun _ _ _ h => h) (Or.inl ⟨by rfl, ?_⟩) hHeld ?_
          rotate_left
          · intro w hSw; dsimp only [q11_23]; (try dsimp only at hSw); go_simp <;> with_reducible rfl
          try simp only [q11_23, Act.put, List.setIfInBounds_toArray, List.set_cons_zero, List.set_cons_succ]
          refine wpAnyH_take (i := 24) (oi := q11_24) (v := ?_) rfl (by kernel_rfl) (by kernel_rfl) (by kernel_rfl) (fun _ _ _ h => h) (Or.inl ⟨by rfl, ?_⟩) hHeld ?_
          rotate_left
          · intro w hSw; dsimp only [q11_24]; (try dsimp only at hSw); go_simp <;> with_reducible rfl
          try simp only [q11_24, Act.put, List.setIfInBounds_toArray, List.set_cons_zero, List.set_cons_succ]
          refine wpAnyH_take (i := 25) (oi := q11_25) (v := ?_) rfl (by kernel_rfl) (by kernel_rfl) (by kernel_rfl) (fun _ _ _ h => h) (Or.inl ⟨by rfl, ?_⟩) hHeld ?_
          rotate_left
          · intro w hSw; dsimp only [q11_25]; obtain ⟨q0, q1, q2, q3, q4, q5⟩ := (HX3.out.below hSw).six; go_simp <;> with_reducible rfl
          try simp only [q11_25, Act.put, List.setIfInBounds_toArray, List.set_cons_zero, List.set_cons_succ]
          refine wpAnyH_ready (rs := [26]) (by kernel_rfl) (by simp) ?_
          refine AllReadyH.cons rfl (fun K hK => ?_) AllReadyH.nil
          go_simp
          refine (KSD.out _ HP1.out).mono ?_
          rintro e u2 ⟨rfl, hbu⟩
          have HP2 : Hid (Below W3.heap.size W3 u2) := HP1.out.trans (hbu.mono HP1.out.size)
          clear hbu
          refine hK.out _ _ (HP2.out) (fun hHeld2 => ?_)
          clear hK K hHeld
          have hHeld := hHeld2
          clear hHeld2
          try simp only [Act.put, List.setIfInBounds_toArray, List.set_cons_zero, List.set_cons_succ]
          refine wpAnyH_take (i := 27) (oi := q11_27) (v := .bool false) rfl (by kernel_rfl) (by kernel_rfl) (by kernel_rfl) (fun _ _ _ h => h) (Or.inl ⟨by rfl, ?_⟩) hHeld ?_
          skip
          · intro w hSw; dsimp only [q11_27]; go_simp <;> first | done | with_reducible rfl | simp [HBG]
          try simp only [q11_27, Act.put, List.setIfInBounds_toArray, List.set_cons_zero, List.set_cons_succ]
          refine wpAnyH_take (i := 28) (oi := q11_28) (v := .bool false) rfl (by kernel_rfl) (by kernel_rfl) (by kernel_rfl) (fun _ _ _ h => h) (Or.inl ⟨by rfl, ?_⟩) hHeld ?_
          skip
          · intro w hSw; dsimp only [q11_28]; (try dsimp only at hSw); go_simp <;> with_reducible rfl
          try simp only [q11_28, Act.put, List.setIfInBounds_toArray, List.set_cons_zero, List.set_cons_succ]
          refine wpAnyH_take (i := 29) (oi := q11_29) (v := ?_) rfl (by kernel_rfl) (by kernel_rfl) (by kernel_rfl) (fun _ _ _ h => h) (Or.inl ⟨by rfl, ?_⟩) hHeld ?_
          rotate_left
          · intro w hSw; dsimp only [q11_29]; obtain ⟨q0, q1, q2, q3, q4, q5⟩ := (HA3.out.below hSw).six; go_simp <;> with_reducible rfl
          try simp only [q11_29, Act.put, List.setIfInBounds_toArray, List.set_cons_zero, List.set_cons_succ]
          refine wpAnyH_take (i := 31) (oi := q11_31) (v := ?_) rfl (by kernel_rfl) (by kernel_rfl) (by kernel_rfl) (fun _ _ _ h => h) (Or.inl ⟨by rfl, ?_⟩) hHeld ?_
          rotate_left
          · intro w hSw; dsimp only [q11_31]; obtain ⟨q0, q1, q2, q3, q4, q5⟩ := (HBB.out.below hSw).six; go_simp <;> with_reducible rfl
          try simp only [q11_31, Act.put, List.setIfInBounds_toArray, List.set_cons_zero, List.set_cons_succ]
          refine wpAnyH_take (i := 34) (oi := q11_34) (v := ?_) rfl (by kernel_rfl) (by kernel_rfl) (by kernel_rfl) (fun _ _ _ h => h) (Or.inl ⟨by rfl, ?_⟩) hHeld ?_
          rotate_left
          · intro w hSw; dsimp only [q11_34]; obtain ⟨q0, q1, q2, q3, q4, q5⟩ := (HX3.out.below hSw).six; go_simp <;> with_reducible rfl
          try simp only [q11_34, Act.put, List.setIfInBounds_toArray, List.set_cons_zero, List.set_cons_succ]
          refine wpAnyH_ready (rs := [30]) (by kernel_rfl) (by simp) ?_
          refine AllReadyH.cons rfl (fun K hK => ?_) AllReadyH.nil
          go_simp
          refine (KSA.out _ HP2.out).mono ?_
          rintro e u3 ⟨rfl, hbu⟩
          have HP3 : Hid (Below W3.heap.size W3 u3) := HP2.out.trans (hbu.mono HP2.out.size)
          clear hbu
          refine hK.out _ _ (HP3.out) (fun hHeld2 => ?_)
          clear hK K hHeld
          have hHeld := hHeld2
          clear hHeld2
          try simp only [Act.put, List.setIfInBounds_toArray, List.set_cons_zero, List.set_cons_succ]
          refine wpAnyH_ready (rs := [32]) (by kernel_rfl) (by simp) ?_
          refine AllReadyH.cons rfl (fun K hK => ?_) AllReadyH.nil
          go_simp
          refine (KSB.out _ HP3.out).mono ?_
          rintro e u4 ⟨rfl, hbu⟩
          have HP4 : Hid (Below W3.heap.size W3 u4) := HP3.out.trans (hbu.mono HP3.out.size)
          clear hbu
          refine hK.out _ _ (HP4.out) (fun hHeld2 => ?_)
          clear hK K hHeld
          have hHeld := hHeld2
          clear hHeld2
          try simp only [Act.put, List.setIfInBounds_toArray, List.set_cons_zero, List.set_cons_succ]
          refine wpAnyH_take (i := 33) (oi := q11_33) (v := .int .i64 (sd)) rfl (by kernel_rfl) (by kernel_rfl) (by kernel_rfl) (fun _ _ _ h => h) (Or.inl ⟨by rfl, ?_⟩) hHeld ?_
          skip
          · intro w hSw; dsimp only [q11_33]; go_simp <;> first | done | with_reducible rfl | simp [hwr]
          try simp only [q11_33, Act.put, List.setIfInBounds_toArray, List.set_cons_zero, List.set_cons_succ]
          refine wpAnyH_ready (rs := [35]) (by kernel_rfl) (by simp) ?_
          refine AllReadyH.cons rfl (fun K hK => ?_) AllReadyH.nil
          go_simp
          refine (KSD.out _ HP4.out).mono ?_
          rintro e u5 ⟨rfl, hbu⟩
          have HP5 : Hid (Below W3.heap.size W3 u5) := HP4.out.trans (hbu.mono HP4.out.size)
          clear hbu
          refine hK.out _ _ (HP5.out) (fun hHeld2 => ?_)
          clear hK K hHeld
          have hHeld := hHeld2
          clear hHeld2
          try simp only [Act.put, List.setIfInBounds_toArray, List.set_cons_zero, List.set_cons_succ]
          refine wpAnyH_take (i := 36) (oi := q11_36) (v := .bool true) rfl (by kernel_rfl) (by kernel_rfl) (by kernel_rfl) (fun _ _ _ h => h) (Or.inl ⟨by rfl, ?_⟩) hHeld ?_
          skip
          · intro w hSw; dsimp only [q11_36]; go_simp <;> first | done | with_reducible rfl | simp
          try simp only [q11_36, Act.put, List.setIfInBounds_toArray, List.set_cons_zero, List.set_cons_succ]
          refine wpAnyH_take (i := 37) (oi := q11_37) (v := ?_) rfl (by kernel_rfl) (by kernel_rfl) (by kernel_rfl) (fun _ _ _ h => h) (Or.inl ⟨by rfl, ?_⟩) hHeld ?_
          rotate_left
          · intro w hSw; dsimp only [q11_37]; (try dsimp only at hSw); go_simp <;> with_reducible rfl
          try simp only [q11_37, Act.put, List.setIfInBounds_toArray, List.set_cons_zero, List.set_cons_succ]
          refine wpAnyH_take (i := 38) (oi := q11_38) (v := ?_) rfl (by kernel_rfl) (by kernel_rfl) (by kernel_rfl) (fun _ _ _ h => h) (Or.inl ⟨by rfl, ?_⟩) hHeld ?_
          rotate_left
          · intro w hSw; dsimp only [q11_38]; (try dsimp only at hSw); go_simp <;> with_reducible rfl
          try simp only [q11_38, Act.put, List.setIfInBounds_toArray, List.set_cons_zero, List.set_cons_succ]
          refine wpAnyH_take (i := 39) (oi := q11_39) (v := ?_) rfl (by kernel_rfl) (by kernel_rfl) (by kernel_rfl) (fun _ _ _ h => h) (Or.inl ⟨by rfl, ?_⟩) hHeld ?_
          rotate_left
          · intro w hSw; dsimp only [q11_39]; (try dsimp only at hSw); go_simp <;> with_reducible rfl
          try simp only [q11_39, Act.put, List.setIfInBounds_toArray, List.set_cons_zero, List.set_cons_succ]
          refine wpAnyH_ready (rs := [40]) (by kernel_rfl) (by simp) ?_
          refine AllReadyH.cons rfl (fun K hK => ?_) AllReadyH.nil
          go_simp
          refine (KKN.out _ HP5.out).mono ?_
          rintro e u6 ⟨rfl, hbu⟩
          have HP6 : Hid (Below W3.heap.size W3 u6) := HP5.out.trans (hbu.mono HP5.out.size)
          clear hbu
          refine hK.out _ _ (HP6.out) (fun hHeld2 => ?_)
          clear hK K hHeld
          have hHeld := hHeld2
          clear hHeld2
          try simp only [Act.put, List.setIfInBounds_toArray, List.set_cons_zero, List.set_cons_succ]
          refine wpAnyH_take (i := 41) (oi := q11_41) (v := ?_) rfl (by kernel_rfl) (by kernel_rfl) (by kernel_rfl) (fun _ _ _ h => h) (Or.inl ⟨by rfl, ?_⟩) hHeld ?_
          rotate_left
          · intro w hSw; dsimp only [q11_41]; (try dsimp only at hSw); go_simp <;> with_reducible rfl
          try simp only [q11_41, Act.put, List.setIfInBounds_toArray, List.set_cons_zero, List.set_cons_succ]
          refine wpAnyH_take (i := 42) (oi := q11_42) (v := ?_) rfl (by kernel_rfl) (by kernel_rfl) (by kernel_rfl) (fun _ _ _ h => h) (Or.inl ⟨by rfl, ?_⟩) hHeld ?_
          rotate_left
          · intro w hSw; dsimp only [q11_42]; (try dsimp only at hSw); go_simp <;> with_reducible rfl
          try simp only [q11_42, Act.put, List.setIfInBounds_toArray, List.set_cons_zero, List.set_cons_succ]
          refine wpAnyH_done (by kernel_rfl) ?_ _
          go_wp2
          go_ret
          exact ⟨rfl, HB03.out.trans (HP6.out.mono HB03.out.size)⟩
        · exact absurd HE1.out (by simp)
    · have he1 : (re == 0) = false := by simpa using he
      have he2 : (re != 0) = true := by simpa using he
      go_wp2_with fail
      refine (KKN.out _ (Below.refl _ _)).mono ?_
      rintro e w4 ⟨rfl, hb4⟩
      go_wp2
      go_ret
      exact ⟨rfl, HB03.out.trans (hb4.mono HB03.out.size)⟩
end Go.Proofs.YthkliicmoandmaaGreatDoor
