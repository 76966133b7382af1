/-
  What is proved here: how sets.walk.from goes through the sets of a domain: its other regions.
-/
import Derived.Test.YtacnhkaibcjjgaaGreatDoorFb
namespace Go.Proofs.YtacnhkaibcjjgaaGreatDoor
open Go.RowKit Go.Shelf
set_option linter.unusedVariables false
set_option linter.unusedSimpArgs false

section
variable {F : Fence} {n : Nat} {P : Program} {ops : Array Oper} {Q : Exit → Act → World → Prop} {md : Region.Mode} {S : World → Prop}
/-- Just two may come up. -/
theorem anyH_two {i j : Nat} {oi oj : Oper} {fuel : Nat} {listed : Array Bool} {a : Act} {w : World} (hr : Region.ready md ops listed = [i, j]) (hi : ops[i]? = some oi) (hj : ops[j]? = some oj)
    (hwi : Region.wanted oi (yielded ops a.tmps) = true) (hwj : Region.wanted oj (yielded ops a.tmps) = true)
    (h1 : ∀ K : Act → World → Prop, (∀ a' w', S w' → AnyHIn F n P md ops Q S fuel (listed.setIfInBounds i true) a' w' → K a' w') → oi.wpIn F n P a w K Q)
    (h2 : ∀ K : Act → World → Prop, (∀ a' w', S w' → AnyHIn F n P md ops Q S fuel (listed.setIfInBounds j true) a' w' → K a' w') → oj.wpIn F n P a w K Q) : AnyHIn F n P md ops Q S (fuel + 1) listed a w := by
  refine ⟨fun h0 => (by rw [hr] at h0; cases h0), ?_⟩
  rw [hr]
  intro k hk
  rw [List.mem_cons, List.mem_singleton] at hk
  rcases hk with rfl | rfl
  · unfold wpOpIn
    simp only [hi, hwi, if_true]
    exact h1 _ (fun _ _ h1 h2 => ⟨h1, h2⟩)
  · unfold wpOpIn
    simp only [hj, hwj, if_true]
    exact h2 _ (fun _ _ h1 h2 => ⟨h1, h2⟩)
theorem storeIn_row {op : Oper} {a : Act} {w : World} {K : Act → World → Prop} (hro : F.round = none) (ty : TypeId) (x y : Operand) (ho : op.op = .store ty x y)
    (g : Nat) (cells : Array Value) (hx : a.eval x = .pointer (some ⟨g, 0, none⟩)) (hy : a.eval y = .agg cells)
    (t : TypeId) (old : Array Value) (hg : w.heap[g]? = some (.cells old t (0, 0))) (hi : (P.info? ty).map (·.size) = some cells.size)
    (hold : old.size = cells.size) (h1 : cells.all (·.oneCell') = true)
    (h : K (a.put op.dst undef) (w.setRow g cells)) : op.wpIn F n P a w K Q := by
  unfold Oper.wpIn
  refine ⟨fun f hf => (by unfold Oper.about at hf; simp [ho] at hf), ?_⟩
  rw [hro, Oper.semAt_none]
  unfold execOp
  simp only [ho, hx, hy, Instr.storeAt, Instr.sureAddr, Sem.run_bind, Sem.run_pure, Result.andThen_ok, run_storeVar_row w g t ty old cells hg hi hold h1]
  exact h
end
theorem hu91 : ∃ d, Tryz.prog.underlying 91 = some d ∧ d.isRow = true := ⟨_, Tryz.underlying91, rfl⟩

set_option maxRecDepth 100000 in
set_option maxHeartbeats 4000000 in
theorem r4_in (n Wb B i m cap : Nat) (a : Option Addr) (have_ least : Int) (hlt : (i : Int) < (m : Int)) (w1 : IntKind.i64.wrap (have_ + (m : Int)) = have_ + (m : Int)) (w2 : IntKind.i64.wrap (have_ + (m : Int) - (i : Int)) = have_ + (m : Int) - (i : Int)) (S : World → Prop)
    (hS : ∀ w, S w → w.cell? ⟨B, 65, none⟩ = some (.int .i64 have_) ∧ w.cell? ⟨Wb, 4, none⟩ = some (.int .i64 least) ∧ w.cell? ⟨Wb, 3, none⟩ = some (.slice a m cap))
    (hSb : ∀ w w', S w → Below w.heap.size w w' → S w')
    (Q : Exit → Act → World → Prop) (hQ : ∀ c (a : Act) d v w, Q (.panic c) (a.put d v) w → Q (.panic c) a w) {x1 x2 x4 x6 x7 x8 x9 x10 x11 x12 x13 x14 x15 x16 x17 x18 x19 x20 x21 x22 x23 x24 x25 x26 x27 x28 x29 x30 x31 x32 x33 x34 x35 x36 x37 x38 x39 x40 x41 x42 x43 x44 x45 x46 x47 x48 x49 x50 x51 x52 x53 x54 x55 x56 x57 x58 x59 x60 x61 x62 x63 x64 x65 x66 x67 x68 x69 x70 x71 x72 x73 x74 x75 x76 x77 x78 x79 x80 x81 x82 x83 x84 x85 x86 x87 x88 x89 x90 x91 x92 x93 x94 x95 x96 x97 x98 : Value} {ds : List Deferred} (W : World) (h0 : S W)
    (hN : ∀ (y38 y39 y40 y41 y42 y43 y44 y45 y46 y47 y48 y49 y50 y51 y52 y53 y54 y55 y56 y57 y58 y59 y60 y61 y62 y63 : Value), Q .normal { tmps := (.pointer (some ⟨Wb, 0, none⟩) :: x1 :: x2 :: .pointer (some ⟨B, 0, none⟩) :: x4 :: .int .i64 (i : Int) :: x6 :: x7 :: x8 :: x9 :: x10 :: x11 :: x12 :: x13 :: x14 :: x15 :: x16 :: x17 :: x18 :: x19 :: x20 :: x21 :: x22 :: x23 :: x24 :: x25 :: x26 :: x27 :: x28 :: x29 :: x30 :: x31 :: x32 :: x33 :: x34 :: x35 :: x36 :: x37 :: y38 :: y39 :: y40 :: y41 :: y42 :: y43 :: y44 :: y45 :: y46 :: y47 :: y48 :: y49 :: y50 :: y51 :: y52 :: y53 :: y54 :: y55 :: y56 :: y57 :: y58 :: y59 :: y60 :: y61 :: y62 :: y63 :: .bool (decide (least ≤ have_ + (m : Int) - (i : Int))) :: x65 :: x66 :: x67 :: x68 :: x69 :: x70 :: x71 :: x72 :: x73 :: x74 :: x75 :: x76 :: x77 :: x78 :: x79 :: x80 :: x81 :: x82 :: x83 :: x84 :: x85 :: x86 :: x87 :: x88 :: x89 :: x90 :: x91 :: x92 :: x93 :: x94 :: x95 :: x96 :: x97 :: x98 :: []).toArray, defers := ds } W.drew) :
    (Code.region 4 #[{ dst := some 38, op := Op.move (Operand.tmp 5), type := 3, pos := "walk.go:50", after := #[], guard := none },
    { dst := some 39, op := Op.move (Operand.tmp 0), type := 86, pos := "walk.go:50", after := #[], guard := none },
    { dst := some 40, op := Op.nilCheck (Operand.tmp 39), type := 0, pos := "walk.go:50", after := #[{ on := 1, ground := Ground.data }], guard := none },
    { dst := some 41, op := Op.fieldAddr 88 (Operand.tmp 40) 0, type := 0, pos := "walk.go:50", after := #[{ on := 2, ground := Ground.data }], guard := none },
    { dst := some 42, op := Op.fieldAddr 37 (Operand.tmp 41) 3, type := 0, pos := "walk.go:50", after := #[{ on := 3, ground := Ground.data }], guard := none },
    { dst := some 43, op := Op.load 22 (Operand.tmp 42), type := 22, pos := "walk.go:50", after := #[{ on := 4, ground := Ground.data }], guard := none },
    { dst := some 44, op := Op.call { callee := Callee.builtin Builtin.len, args := #[Operand.tmp 43], argTypes := #[22] }, type := 3, pos := "walk.go:50", after := #[{ on := 5, ground := Ground.data }], guard := none },
    { dst := some 45, op := Op.binOp BinOp.lss 3 (Operand.tmp 38) (Operand.tmp 44) 3, type := 4, pos := "walk.go:50", after := #[{ on := 0, ground := Ground.data }, { on := 6, ground := Ground.data }], guard := none },
    { dst := some 46, op := Op.move (Operand.tmp 45), type := 4, pos := "walk.go:50", after := #[{ on := 7, ground := Ground.data }], guard := none },
    { dst := some 47, op := Op.fieldAddr 91 (Operand.tmp 3) 2, type := 0, pos := "walk.go:50", after := #[{ on := 8, ground := Ground.guard }], guard := some (8, true) },
    { dst := some 48, op := Op.load 3 (Operand.tmp 47), type := 3, pos := "walk.go:50", after := #[{ on := 9, ground := Ground.data }, { on := 8, ground := Ground.guard }], guard := some (8, true) },
    { dst := some 49, op := Op.move (Operand.tmp 0), type := 86, pos := "walk.go:50", after := #[{ on := 8, ground := Ground.guard }], guard := some (8, true) },
    { dst := some 50, op := Op.nilCheck (Operand.tmp 49), type := 0, pos := "walk.go:50", after := #[{ on := 11, ground := Ground.data }, { on := 8, ground := Ground.guard }], guard := some (8, true) },
    { dst := some 51, op := Op.fieldAddr 88 (Operand.tmp 50) 0, type := 0, pos := "walk.go:50", after := #[{ on := 12, ground := Ground.data }, { on := 8, ground := Ground.guard }], guard := some (8, true) },
    { dst := some 52, op := Op.fieldAddr 37 (Operand.tmp 51) 3, type := 0, pos := "walk.go:50", after := #[{ on := 13, ground := Ground.data }, { on := 8, ground := Ground.guard }], guard := some (8, true) },
    { dst := some 53, op := Op.load 22 (Operand.tmp 52), type := 22, pos := "walk.go:50", after := #[{ on := 14, ground := Ground.data }, { on := 8, ground := Ground.guard }], guard := some (8, true) },
    { dst := some 54, op := Op.call { callee := Callee.builtin Builtin.len, args := #[Operand.tmp 53], argTypes := #[22] }, type := 3, pos := "walk.go:50", after := #[{ on := 15, ground := Ground.data }, { on := 8, ground := Ground.guard }], guard := some (8, true) },
    { dst := some 55, op := Op.binOp BinOp.add 3 (Operand.tmp 48) (Operand.tmp 54) 3, type := 3, pos := "walk.go:50", after := #[{ on := 10, ground := Ground.data }, { on := 16, ground := Ground.data }, { on := 8, ground := Ground.guard }], guard := some (8, true) },
    { dst := some 56, op := Op.move (Operand.tmp 5), type := 3, pos := "walk.go:50", after := #[{ on := 8, ground := Ground.guard }], guard := some (8, true) },
    { dst := some 57, op := Op.binOp BinOp.sub 3 (Operand.tmp 55) (Operand.tmp 56) 3, type := 3, pos := "walk.go:50", after := #[{ on := 17, ground := Ground.data }, { on := 18, ground := Ground.data }, { on := 8, ground := Ground.guard }], guard := some (8, true) },
    { dst := some 58, op := Op.move (Operand.tmp 0), type := 86, pos := "walk.go:50", after := #[{ on := 8, ground := Ground.guard }], guard := some (8, true) },
    { dst := some 59, op := Op.nilCheck (Operand.tmp 58), type := 0, pos := "walk.go:50", after := #[{ on := 20, ground := Ground.data }, { on := 8, ground := Ground.guard }], guard := some (8, true) },
    { dst := some 60, op := Op.fieldAddr 88 (Operand.tmp 59) 0, type := 0, pos := "walk.go:50", after := #[{ on := 21, ground := Ground.data }, { on := 8, ground := Ground.guard }], guard := some (8, true) },
    { dst := some 61, op := Op.fieldAddr 37 (Operand.tmp 60) 4, type := 0, pos := "walk.go:50", after := #[{ on := 22, ground := Ground.data }, { on := 8, ground := Ground.guard }], guard := some (8, true) },
    { dst := some 62, op := Op.load 3 (Operand.tmp 61), type := 3, pos := "walk.go:50", after := #[{ on := 23, ground := Ground.data }, { on := 8, ground := Ground.guard }], guard := some (8, true) },
    { dst := some 63, op := Op.binOp BinOp.geq 3 (Operand.tmp 57) (Operand.tmp 62) 3, type := 4, pos := "walk.go:50", after := #[{ on := 19, ground := Ground.data }, { on := 24, ground := Ground.data }, { on := 8, ground := Ground.guard }], guard := some (8, true) },
    { dst := some 64, op := Op.pick (Operand.tmp 46) (Operand.tmp 63) (Operand.const (Value.bool false)), type := 4, pos := "walk.go:50", after := #[{ on := 8, ground := Ground.data }, { on := 25, ground := Ground.data }], guard := none }] true).wpIn Fence.wide n Tryz.prog Q { tmps := (.pointer (some ⟨Wb, 0, none⟩) :: x1 :: x2 :: .pointer (some ⟨B, 0, none⟩) :: x4 :: .int .i64 (i : Int) :: x6 :: x7 :: x8 :: x9 :: x10 :: x11 :: x12 :: x13 :: x14 :: x15 :: x16 :: x17 :: x18 :: x19 :: x20 :: x21 :: x22 :: x23 :: x24 :: x25 :: x26 :: x27 :: x28 :: x29 :: x30 :: x31 :: x32 :: x33 :: x34 :: x35 :: x36 :: x37 :: x38 :: x39 :: x40 :: x41 :: x42 :: x43 :: x44 :: x45 :: x46 :: x47 :: x48 :: x49 :: x50 :: x51 :: x52 :: x53 :: x54 :: x55 :: x56 :: x57 :: x58 :: x59 :: x60 :: x61 :: x62 :: x63 :: x64 :: x65 :: x66 :: x67 :: x68 :: x69 :: x70 :: x71 :: x72 :: x73 :: x74 :: x75 :: x76 :: x77 :: x78 :: x79 :: x80 :: x81 :: x82 :: x83 :: x84 :: x85 :: x86 :: x87 :: x88 :: x89 :: x90 :: x91 :: x92 :: x93 :: x94 :: x95 :: x96 :: x97 :: x98 :: []).toArray, defers := ds } W := by
  refine region_heldIn S (by kernel_rfl) ?_
  have hHeld : S { W with drawn := W.drawn + 1 } := hSb _ _ h0 (Below.drew (Below.refl _ W))
  change AnyHIn _ _ _ _ _ _ _ _ _ _ W.drew
  change S W.drew at hHeld
  refine anyH_take (i := 0) (oi := { dst := some 38, op := Op.move (Operand.tmp 5), type := 3, pos := "walk.go:50", after := #[], guard := none }) (v := ?_) (fun _ => trivial) rfl rfl (by kernel_rfl) (by kernel_rfl) (by kernel_rfl) (fun c a w h => hQ c a _ _ w h) (Or.inl ⟨by rfl, ?_⟩) hHeld ?_
  rotate_left
  · intro w hSw; have hSw := hS w hSw;  go_simp <;> with_reducible rfl
  simp only [Act.put, List.setIfInBounds_toArray, List.set_cons_zero, List.set_cons_succ]
  refine anyH_take (i := 1) (oi := { dst := some 39, op := Op.move (Operand.tmp 0), type := 86, pos := "walk.go:50", after := #[], guard := none }) (v := ?_) (fun _ => trivial) rfl rfl (by kernel_rfl) (by kernel_rfl) (by kernel_rfl) (fun c a w h => hQ c a _ _ w h) (Or.inl ⟨by rfl, ?_⟩) hHeld ?_
  rotate_left
  · intro w hSw; have hSw := hS w hSw;  go_simp <;> with_reducible rfl
  simp only [Act.put, List.setIfInBounds_toArray, List.set_cons_zero, List.set_cons_succ]
  refine anyH_take (i := 2) (oi := { dst := some 40, op := Op.nilCheck (Operand.tmp 39), type := 0, pos := "walk.go:50", after := #[{ on := 1, ground := Ground.data }], guard := none }) (v := ?_) (fun _ => trivial) rfl rfl (by kernel_rfl) (by kernel_rfl) (by kernel_rfl) (fun c a w h => hQ c a _ _ w h) (Or.inl ⟨by rfl, ?_⟩) hHeld ?_
  rotate_left
  · intro w hSw; have hSw := hS w hSw;  go_simp <;> with_reducible rfl
  simp only [Act.put, List.setIfInBounds_toArray, List.set_cons_zero, List.set_cons_succ]
  refine anyH_take (i := 3) (oi := { dst := some 41, op := Op.fieldAddr 88 (Operand.tmp 40) 0, type := 0, pos := "walk.go:50", after := #[{ on := 2, ground := Ground.data }], guard := none }) (v := ?_) (fun _ => trivial) rfl rfl (by kernel_rfl) (by kernel_rfl) (by kernel_rfl) (fun c a w h => hQ c a _ _ w h) (Or.inl ⟨by rfl, ?_⟩) hHeld ?_
  rotate_left
  · intro w hSw; have hSw := hS w hSw;  go_simp <;> with_reducible rfl
  simp only [Act.put, List.setIfInBounds_toArray, List.set_cons_zero, List.set_cons_succ]
  refine anyH_take (i := 4) (oi := { dst := some 42, op := Op.fieldAddr 37 (Operand.tmp 41) 3, type := 0, pos := "walk.go:50", after := #[{ on := 3, ground := Ground.data }], guard := none }) (v := ?_) (fun _ => trivial) rfl rfl (by kernel_rfl) (by kernel_rfl) (by kernel_rfl) (fun c a w h => hQ c a _ _ w h) (Or.inl ⟨by rfl, ?_⟩) hHeld ?_
  rotate_left
  · intro w hSw; have hSw := hS w hSw;  go_simp <;> with_reducible rfl
  simp only [Act.put, List.setIfInBounds_toArray, List.set_cons_zero, List.set_cons_succ]
  refine anyH_take (i := 5) (oi := { dst := some 43, op := Op.load 22 (Operand.tmp 42), type := 22, pos := "walk.go:50", after := #[{ on := 4, ground := Ground.data }], guard := none }) (v := ?_) (fun _ => trivial) rfl rfl (by kernel_rfl) (by kernel_rfl) (by kernel_rfl) (fun c a w h => hQ c a _ _ w h) (Or.inl ⟨by rfl, ?_⟩) hHeld ?_
  rotate_left
  · intro w hSw; have hSw := hS w hSw;  go_simp <;> with_reducible rfl
  simp only [Act.put, List.setIfInBounds_toArray, List.set_cons_zero, List.set_cons_succ]
  refine anyH_take (i := 6) (oi := { dst := some 44, op := Op.call { callee := Callee.builtin Builtin.len, args := #[Operand.tmp 43], argTypes := #[22] }, type := 3, pos := "walk.go:50", after := #[{ on := 5, ground := Ground.data }], guard := none }) (v := ?_) (fun _ => trivial) rfl rfl (by kernel_rfl) (by kernel_rfl) (by kernel_rfl) (fun c a w h => hQ c a _ _ w h) (Or.inl ⟨by rfl, ?_⟩) hHeld ?_
  rotate_left
  · intro w hSw; have hSw := hS w hSw;  go_simp <;> with_reducible rfl
  simp only [Act.put, List.setIfInBounds_toArray, List.set_cons_zero, List.set_cons_succ]
  refine anyH_take (i := 7) (oi := { dst := some 45, op := Op.binOp BinOp.lss 3 (Operand.tmp 38) (Operand.tmp 44) 3, type := 4, pos := "walk.go:50", after := #[{ on := 0, ground := Ground.data }, { on := 6, ground := Ground.data }], guard := none }) (v := ?_) (fun _ => trivial) rfl rfl (by kernel_rfl) (by kernel_rfl) (by kernel_rfl) (fun c a w h => hQ c a _ _ w h) (Or.inl ⟨by rfl, ?_⟩) hHeld ?_
  rotate_left
  · intro w hSw; have hSw := hS w hSw;  go_simp <;> with_reducible rfl
  simp only [Act.put, List.setIfInBounds_toArray, List.set_cons_zero, List.set_cons_succ]
  refine anyH_take (i := 8) (oi := { dst := some 46, op := Op.move (Operand.tmp 45), type := 4, pos := "walk.go:50", after := #[{ on := 7, ground := Ground.data }], guard := none }) (v := ?_) (fun _ => trivial) rfl rfl (by kernel_rfl) (by kernel_rfl) (by kernel_rfl) (fun c a w h => hQ c a _ _ w h) (Or.inl ⟨by rfl, ?_⟩) hHeld ?_
  rotate_left
  · intro w hSw; have hSw := hS w hSw;  go_simp <;> with_reducible rfl
  simp only [Act.put, List.setIfInBounds_toArray, List.set_cons_zero, List.set_cons_succ]
  refine anyH_take (i := 9) (oi := { dst := some 47, op := Op.fieldAddr 91 (Operand.tmp 3) 2, type := 0, pos := "walk.go:50", after := #[{ on := 8, ground := Ground.guard }], guard := some (8, true) }) (v := ?_) (fun _ => trivial) rfl rfl (by kernel_rfl) (by kernel_rfl) (by kernel_rfl) (fun c a w h => hQ c a _ _ w h) (Or.inl ⟨by rfl, ?_⟩) hHeld ?_
  rotate_left
  · intro w hSw; have hSw := hS w hSw;  go_simp <;> with_reducible rfl
  simp only [Act.put, List.setIfInBounds_toArray, List.set_cons_zero, List.set_cons_succ]
  refine anyH_take (i := 10) (oi := { dst := some 48, op := Op.load 3 (Operand.tmp 47), type := 3, pos := "walk.go:50", after := #[{ on := 9, ground := Ground.data }, { on := 8, ground := Ground.guard }], guard := some (8, true) }) (v := ?_) (fun _ => trivial) rfl rfl (by kernel_rfl) (by kernel_rfl) (by kernel_rfl) (fun c a w h => hQ c a _ _ w h) (Or.inl ⟨by rfl, ?_⟩) hHeld ?_
  rotate_left
  · intro w hSw; have hSw := hS w hSw;  go_simp <;> with_reducible rfl
  simp only [Act.put, List.setIfInBounds_toArray, List.set_cons_zero, List.set_cons_succ]
  refine anyH_take (i := 11) (oi := { dst := some 49, op := Op.move (Operand.tmp 0), type := 86, pos := "walk.go:50", after := #[{ on := 8, ground := Ground.guard }], guard := some (8, true) }) (v := ?_) (fun _ => trivial) rfl rfl (by kernel_rfl) (by kernel_rfl) (by kernel_rfl) (fun c a w h => hQ c a _ _ w h) (Or.inl ⟨by rfl, ?_⟩) hHeld ?_
  rotate_left
  · intro w hSw; have hSw := hS w hSw;  go_simp <;> with_reducible rfl
  simp only [Act.put, List.setIfInBounds_toArray, List.set_cons_zero, List.set_cons_succ]
  refine anyH_take (i := 12) (oi := { dst := some 50, op := Op.nilCheck (Operand.tmp 49), type := 0, pos := "walk.go:50", after := #[{ on := 11, ground := Ground.data }, { on := 8, ground := Ground.guard }], guard := some (8, true) }) (v := ?_) (fun _ => trivial) rfl rfl (by kernel_rfl) (by kernel_rfl) (by kernel_rfl) (fun c a w h => hQ c a _ _ w h) (Or.inl ⟨by rfl, ?_⟩) hHeld ?_
  rotate_left
  · intro w hSw; have hSw := hS w hSw;  go_simp <;> with_reducible rfl
  simp only [Act.put, List.setIfInBounds_toArray, List.set_cons_zero, List.set_cons_succ]
  refine anyH_take (i := 13) (oi := { dst := some 51, op := Op.fieldAddr 88 (Operand.tmp 50) 0, type := 0, pos := "walk.go:50", after := #[{ on := 12, ground := Ground.data }, { on := 8, ground := Ground.guard }], guard := some (8, true) }) (v := ?_) (fun _ => trivial) rfl rfl (by kernel_rfl) (by kernel_rfl) (by kernel_rfl) (fun c a w h => hQ c a _ _ w h) (Or.inl ⟨by rfl, ?_⟩) hHeld ?_
  rotate_left
  · intro w hSw; have hSw := hS w hSw;  go_simp <;> with_reducible rfl
  simp only [Act.put, List.setIfInBounds_toArray, List.set_cons_zero, List.set_cons_succ]
  refine anyH_take (i := 14) (oi := { dst := some 52, op := Op.fieldAddr 37 (Operand.tmp 51) 3, type := 0, pos := "walk.go:50", after := #[{ on := 13, ground := Ground.data }, { on := 8, ground := Ground.guard }], guard := some (8, true) }) (v := ?_) (fun _ => trivial) rfl rfl (by kernel_rfl) (by kernel_rfl) (by kernel_rfl) (fun c a w h => hQ c a _ _ w h) (Or.inl ⟨by rfl, ?_⟩) hHeld ?_
  rotate_left
  · intro w hSw; have hSw := hS w hSw;  go_simp <;> with_reducible rfl
  simp only [Act.put, List.setIfInBounds_toArray, List.set_cons_zero, List.set_cons_succ]
  refine anyH_take (i := 15) (oi := { dst := some 53, op := Op.load 22 (Operand.tmp 52), type := 22, pos := "walk.go:50", after := #[{ on := 14, ground := Ground.data }, { on := 8, ground := Ground.guard }], guard := some (8, true) }) (v := ?_) (fun _ => trivial) rfl rfl (by kernel_rfl) (by kernel_rfl) (by kernel_rfl) (fun c a w h => hQ c a _ _ w h) (Or.inl ⟨by rfl, ?_⟩) hHeld ?_
  rotate_left
  · intro w hSw; have hSw := hS w hSw;  go_simp <;> with_reducible rfl
  simp only [Act.put, List.setIfInBounds_toArray, List.set_cons_zero, List.set_cons_succ]
  refine anyH_take (i := 16) (oi := { dst := some 54, op := Op.call { callee := Callee.builtin Builtin.len, args := #[Operand.tmp 53], argTypes := #[22] }, type := 3, pos := "walk.go:50", after := #[{ on := 15, ground := Ground.data }, { on := 8, ground := Ground.guard }], guard := some (8, true) }) (v := ?_) (fun _ => trivial) rfl rfl (by kernel_rfl) (by kernel_rfl) (by kernel_rfl) (fun c a w h => hQ c a _ _ w h) (Or.inl ⟨by rfl, ?_⟩) hHeld ?_
  rotate_left
  · intro w hSw; have hSw := hS w hSw;  go_simp <;> with_reducible rfl
  simp only [Act.put, List.setIfInBounds_toArray, List.set_cons_zero, List.set_cons_succ]
  refine anyH_take (i := 17) (oi := { dst := some 55, op := Op.binOp BinOp.add 3 (Operand.tmp 48) (Operand.tmp 54) 3, type := 3, pos := "walk.go:50", after := #[{ on := 10, ground := Ground.data }, { on := 16, ground := Ground.data }, { on := 8, ground := Ground.guard }], guard := some (8, true) }) (v := ?_) (fun _ => trivial) rfl rfl (by kernel_rfl) (by kernel_rfl) (by kernel_rfl) (fun c a w h => hQ c a _ _ w h) (Or.inl ⟨by rfl, ?_⟩) hHeld ?_
  rotate_left
  · intro w hSw; have hSw := hS w hSw;  go_simp <;> with_reducible rfl
  simp only [Act.put, List.setIfInBounds_toArray, List.set_cons_zero, List.set_cons_succ]
  refine anyH_take (i := 18) (oi := { dst := some 56, op := Op.move (Operand.tmp 5), type := 3, pos := "walk.go:50", after := #[{ on := 8, ground := Ground.guard }], guard := some (8, true) }) (v := ?_) (fun _ => trivial) rfl rfl (by kernel_rfl) (by kernel_rfl) (by kernel_rfl) (fun c a w h => hQ c a _ _ w h) (Or.inl ⟨by rfl, ?_⟩) hHeld ?_
  rotate_left
  · intro w hSw; have hSw := hS w hSw;  go_simp <;> with_reducible rfl
  simp only [Act.put, List.setIfInBounds_toArray, List.set_cons_zero, List.set_cons_succ]
  refine anyH_take (i := 19) (oi := { dst := some 57, op := Op.binOp BinOp.sub 3 (Operand.tmp 55) (Operand.tmp 56) 3, type := 3, pos := "walk.go:50", after := #[{ on := 17, ground := Ground.data }, { on := 18, ground := Ground.data }, { on := 8, ground := Ground.guard }], guard := some (8, true) }) (v := ?_) (fun _ => trivial) rfl rfl (by kernel_rfl) (by kernel_rfl) (by kernel_rfl) (fun c a w h => hQ c a _ _ w h) (Or.inl ⟨by rfl, ?_⟩) hHeld ?_
  rotate_left
  · intro w hSw; have hSw := hS w hSw;  go_simp <;> with_reducible rfl
  simp only [Act.put, List.setIfInBounds_toArray, List.set_cons_zero, List.set_cons_succ]
  refine anyH_take (i := 20) (oi := { dst := some 58, op := Op.move (Operand.tmp 0), type := 86, pos := "walk.go:50", after := #[{ on := 8, ground := Ground.guard }], guard := some (8, true) }) (v := ?_) (fun _ => trivial) rfl rfl (by kernel_rfl) (by kernel_rfl) (by kernel_rfl) (fun c a w h => hQ c a _ _ w h) (Or.inl ⟨by rfl, ?_⟩) hHeld ?_
  rotate_left
  · intro w hSw; have hSw := hS w hSw;  go_simp <;> with_reducible rfl
  simp only [Act.put, List.setIfInBounds_toArray, List.set_cons_zero, List.set_cons_succ]
  refine anyH_take (i := 21) (oi := { dst := some 59, op := Op.nilCheck (Operand.tmp 58), type := 0, pos := "walk.go:50", after := #[{ on := 20, ground := Ground.data }, { on := 8, ground := Ground.guard }], guard := some (8, true) }) (v := ?_) (fun _ => trivial) rfl rfl (by kernel_rfl) (by kernel_rfl) (by kernel_rfl) (fun c a w h => hQ c a _ _ w h) (Or.inl ⟨by rfl, ?_⟩) hHeld ?_
  rotate_left
  · intro w hSw; have hSw := hS w hSw;  go_simp <;> with_reducible rfl
  simp only [Act.put, List.setIfInBounds_toArray, List.set_cons_zero, List.set_cons_succ]
  refine anyH_take (i := 22) (oi := { dst := some 60, op := Op.fieldAddr 88 (Operand.tmp 59) 0, type := 0, pos := "walk.go:50", after := #[{ on := 21, ground := Ground.data }, { on := 8, ground := Ground.guard }], guard := some (8, true) }) (v := ?_) (fun _ => trivial) rfl rfl (by kernel_rfl) (by kernel_rfl) (by kernel_rfl) (fun c a w h => hQ c a _ _ w h) (Or.inl ⟨by rfl, ?_⟩) hHeld ?_
  rotate_left
  · intro w hSw; have hSw := hS w hSw;  go_simp <;> with_reducible rfl
  simp only [Act.put, List.setIfInBounds_toArray, List.set_cons_zero, List.set_cons_succ]
  refine anyH_take (i := 23) (oi := { dst := some 61, op := Op.fieldAddr 37 (Operand.tmp 60) 4, type := 0, pos := "walk.go:50", after := #[{ on := 22, ground := Ground.data }, { on := 8, ground := Ground.guard }], guard := some (8, true) }) (v := ?_) (fun _ => trivial) rfl rfl (by kernel_rfl) (by kernel_rfl) (by kernel_rfl) (fun c a w h => hQ c a _ _ w h) (Or.inl ⟨by rfl, ?_⟩) hHeld ?_
  rotate_left
  · intro w hSw; have hSw := hS w hSw;  go_simp <;> with_reducible rfl
  simp only [Act.put, List.setIfInBounds_toArray, List.set_cons_zero, List.set_cons_succ]
  refine anyH_take (i := 24) (oi := { dst := some 62, op := Op.load 3 (Operand.tmp 61), type := 3, pos := "walk.go:50", after := #[{ on := 23, ground := Ground.data }, { on := 8, ground := Ground.guard }], guard := some (8, true) }) (v := ?_) (fun _ => trivial) rfl rfl (by kernel_rfl) (by kernel_rfl) (by kernel_rfl) (fun c a w h => hQ c a _ _ w h) (Or.inl ⟨by rfl, ?_⟩) hHeld ?_
  rotate_left
  · intro w hSw; have hSw := hS w hSw;  go_simp <;> with_reducible rfl
  simp only [Act.put, List.setIfInBounds_toArray, List.set_cons_zero, List.set_cons_succ]
  refine anyH_take (i := 25) (oi := { dst := some 63, op := Op.binOp BinOp.geq 3 (Operand.tmp 57) (Operand.tmp 62) 3, type := 4, pos := "walk.go:50", after := #[{ on := 19, ground := Ground.data }, { on := 24, ground := Ground.data }, { on := 8, ground := Ground.guard }], guard := some (8, true) }) (v := ?_) (fun _ => trivial) rfl rfl (by kernel_rfl) (by kernel_rfl) (by kernel_rfl) (fun c a w h => hQ c a _ _ w h) (Or.inl ⟨by rfl, ?_⟩) hHeld ?_
  rotate_left
  · intro w hSw; have hSw := hS w hSw;  go_simp <;> with_reducible rfl
  simp only [Act.put, List.setIfInBounds_toArray, List.set_cons_zero, List.set_cons_succ]
  refine anyH_take (i := 26) (oi := { dst := some 64, op := Op.pick (Operand.tmp 46) (Operand.tmp 63) (Operand.const (Value.bool false)), type := 4, pos := "walk.go:50", after := #[{ on := 8, ground := Ground.data }, { on := 25, ground := Ground.data }], guard := none }) (v := ?_) (fun _ => trivial) rfl rfl (by kernel_rfl) (by kernel_rfl) (by kernel_rfl) (fun c a w h => hQ c a _ _ w h) (Or.inl ⟨by rfl, ?_⟩) hHeld ?_
  rotate_left
  · intro w hSw; have hSw := hS w hSw;  go_simp <;> with_reducible rfl
  simp only [Act.put, List.setIfInBounds_toArray, List.set_cons_zero, List.set_cons_succ]
  exact anyH_done (by kernel_rfl) (hN _ _ _ _ _ _ _ _ _ _ _ _ _ _ _ _ _ _ _ _ _ _ _ _ _ _) _

set_option maxRecDepth 100000 in
set_option maxHeartbeats 4000000 in
theorem r4_out (n Wb B i m cap : Nat) (a : Option Addr) (have_ least : Int) (hlt : ¬ (i : Int) < (m : Int)) (w1 : IntKind.i64.wrap (have_ + (m : Int)) = have_ + (m : Int)) (w2 : IntKind.i64.wrap (have_ + (m : Int) - (i : Int)) = have_ + (m : Int) - (i : Int)) (S : World → Prop)
    (hS : ∀ w, S w → w.cell? ⟨B, 65, none⟩ = some (.int .i64 have_) ∧ w.cell? ⟨Wb, 4, none⟩ = some (.int .i64 least) ∧ w.cell? ⟨Wb, 3, none⟩ = some (.slice a m cap))
    (hSb : ∀ w w', S w → Below w.heap.size w w' → S w')
    (Q : Exit → Act → World → Prop) (hQ : ∀ c (a : Act) d v w, Q (.panic c) (a.put d v) w → Q (.panic c) a w) {x1 x2 x4 x6 x7 x8 x9 x10 x11 x12 x13 x14 x15 x16 x17 x18 x19 x20 x21 x22 x23 x24 x25 x26 x27 x28 x29 x30 x31 x32 x33 x34 x35 x36 x37 x38 x39 x40 x41 x42 x43 x44 x45 x46 x47 x48 x49 x50 x51 x52 x53 x54 x55 x56 x57 x58 x59 x60 x61 x62 x63 x64 x65 x66 x67 x68 x69 x70 x71 x72 x73 x74 x75 x76 x77 x78 x79 x80 x81 x82 x83 x84 x85 x86 x87 x88 x89 x90 x91 x92 x93 x94 x95 x96 x97 x98 : Value} {ds : List Deferred} (W : World) (h0 : S W)
    (hN : ∀ (y38 y39 y40 y41 y42 y43 y44 y45 y46 y47 y48 y49 y50 y51 y52 y53 y54 y55 y56 y57 y58 y59 y60 y61 y62 y63 : Value), Q .normal { tmps := (.pointer (some ⟨Wb, 0, none⟩) :: x1 :: x2 :: .pointer (some ⟨B, 0, none⟩) :: x4 :: .int .i64 (i : Int) :: x6 :: x7 :: x8 :: x9 :: x10 :: x11 :: x12 :: x13 :: x14 :: x15 :: x16 :: x17 :: x18 :: x19 :: x20 :: x21 :: x22 :: x23 :: x24 :: x25 :: x26 :: x27 :: x28 :: x29 :: x30 :: x31 :: x32 :: x33 :: x34 :: x35 :: x36 :: x37 :: y38 :: y39 :: y40 :: y41 :: y42 :: y43 :: y44 :: y45 :: y46 :: y47 :: y48 :: y49 :: y50 :: y51 :: y52 :: y53 :: y54 :: y55 :: y56 :: y57 :: y58 :: y59 :: y60 :: y61 :: y62 :: y63 :: .bool false :: x65 :: x66 :: x67 :: x68 :: x69 :: x70 :: x71 :: x72 :: x73 :: x74 :: x75 :: x76 :: x77 :: x78 :: x79 :: x80 :: x81 :: x82 :: x83 :: x84 :: x85 :: x86 :: x87 :: x88 :: x89 :: x90 :: x91 :: x92 :: x93 :: x94 :: x95 :: x96 :: x97 :: x98 :: []).toArray, defers := ds } W.drew) :
    (Code.region 4 #[{ dst := some 38, op := Op.move (Operand.tmp 5), type := 3, pos := "walk.go:50", after := #[], guard := none },
    { dst := some 39, op := Op.move (Operand.tmp 0), type := 86, pos := "walk.go:50", after := #[], guard := none },
    { dst := some 40, op := Op.nilCheck (Operand.tmp 39), type := 0, pos := "walk.go:50", after := #[{ on := 1, ground := Ground.data }], guard := none },
    { dst := some 41, op := Op.fieldAddr 88 (Operand.tmp 40) 0, type := 0, pos := "walk.go:50", after := #[{ on := 2, ground := Ground.data }], guard := none },
    { dst := some 42, op := Op.fieldAddr 37 (Operand.tmp 41) 3, type := 0, pos := "walk.go:50", after := #[{ on := 3, ground := Ground.data }], guard := none },
    { dst := some 43, op := Op.load 22 (Operand.tmp 42), type := 22, pos := "walk.go:50", after := #[{ on := 4, ground := Ground.data }], guard := none },
    { dst := some 44, op := Op.call { callee := Callee.builtin Builtin.len, args := #[Operand.tmp 43], argTypes := #[22] }, type := 3, pos := "walk.go:50", after := #[{ on := 5, ground := Ground.data }], guard := none },
    { dst := some 45, op := Op.binOp BinOp.lss 3 (Operand.tmp 38) (Operand.tmp 44) 3, type := 4, pos := "walk.go:50", after := #[{ on := 0, ground := Ground.data }, { on := 6, ground := Ground.data }], guard := none },
    { dst := some 46, op := Op.move (Operand.tmp 45), type := 4, pos := "walk.go:50", after := #[{ on := 7, ground := Ground.data }], guard := none },
    { dst := some 47, op := Op.fieldAddr 91 (Operand.tmp 3) 2, type := 0, pos := "walk.go:50", after := #[{ on := 8, ground := Ground.guard }], guard := some (8, true) },
    { dst := some 48, op := Op.load 3 (Operand.tmp 47), type := 3, pos := "walk.go:50", after := #[{ on := 9, ground := Ground.data }, { on := 8, ground := Ground.guard }], guard := some (8, true) },
    { dst := some 49, op := Op.move (Operand.tmp 0), type := 86, pos := "walk.go:50", after := #[{ on := 8, ground := Ground.guard }], guard := some (8, true) },
    { dst := some 50, op := Op.nilCheck (Operand.tmp 49), type := 0, pos := "walk.go:50", after := #[{ on := 11, ground := Ground.data }, { on := 8, ground := Ground.guard }], guard := some (8, true) },
    { dst := some 51, op := Op.fieldAddr 88 (Operand.tmp 50) 0, type := 0, pos := "walk.go:50", after := #[{ on := 12, ground := Ground.data }, { on := 8, ground := Ground.guard }], guard := some (8, true) },
    { dst := some 52, op := Op.fieldAddr 37 (Operand.tmp 51) 3, type := 0, pos := "walk.go:50", after := #[{ on := 13, ground := Ground.data }, { on := 8, ground := Ground.guard }], guard := some (8, true) },
    { dst := some 53, op := Op.load 22 (Operand.tmp 52), type := 22, pos := "walk.go:50", after := #[{ on := 14, ground := Ground.data }, { on := 8, ground := Ground.guard }], guard := some (8, true) },
    { dst := some 54, op := Op.call { callee := Callee.builtin Builtin.len, args := #[Operand.tmp 53], argTypes := #[22] }, type := 3, pos := "walk.go:50", after := #[{ on := 15, ground := Ground.data }, { on := 8, ground := Ground.guard }], guard := some (8, true) },
    { dst := some 55, op := Op.binOp BinOp.add 3 (Operand.tmp 48) (Operand.tmp 54) 3, type := 3, pos := "walk.go:50", after := #[{ on := 10, ground := Ground.data }, { on := 16, ground := Ground.data }, { on := 8, ground := Ground.guard }], guard := some (8, true) },
    { dst := some 56, op := Op.move (Operand.tmp 5), type := 3, pos := "walk.go:50", after := #[{ on := 8, ground := Ground.guard }], guard := some (8, true) },
    { dst := some 57, op := Op.binOp BinOp.sub 3 (Operand.tmp 55) (Operand.tmp 56) 3, type := 3, pos := "walk.go:50", after := #[{ on := 17, ground := Ground.data }, { on := 18, ground := Ground.data }, { on := 8, ground := Ground.guard }], guard := some (8, true) },
    { dst := some 58, op := Op.move (Operand.tmp 0), type := 86, pos := "walk.go:50", after := #[{ on := 8, ground := Ground.guard }], guard := some (8, true) },
    { dst := some 59, op := Op.nilCheck (Operand.tmp 58), type := 0, pos := "walk.go:50", after := #[{ on := 20, ground := Ground.data }, { on := 8, ground := Ground.guard }], guard := some (8, true) },
    { dst := some 60, op := Op.fieldAddr 88 (Operand.tmp 59) 0, type := 0, pos := "walk.go:50", after := #[{ on := 21, ground := Ground.data }, { on := 8, ground := Ground.guard }], guard := some (8, true) },
    { dst := some 61, op := Op.fieldAddr 37 (Operand.tmp 60) 4, type := 0, pos := "walk.go:50", after := #[{ on := 22, ground := Ground.data }, { on := 8, ground := Ground.guard }], guard := some (8, true) },
    { dst := some 62, op := Op.load 3 (Operand.tmp 61), type := 3, pos := "walk.go:50", after := #[{ on := 23, ground := Ground.data }, { on := 8, ground := Ground.guard }], guard := some (8, true) },
    { dst := some 63, op := Op.binOp BinOp.geq 3 (Operand.tmp 57) (Operand.tmp 62) 3, type := 4, pos := "walk.go:50", after := #[{ on := 19, ground := Ground.data }, { on := 24, ground := Ground.data }, { on := 8, ground := Ground.guard }], guard := some (8, true) },
    { dst := some 64, op := Op.pick (Operand.tmp 46) (Operand.tmp 63) (Operand.const (Value.bool false)), type := 4, pos := "walk.go:50", after := #[{ on := 8, ground := Ground.data }, { on := 25, ground := Ground.data }], guard := none }] true).wpIn Fence.wide n Tryz.prog Q { tmps := (.pointer (some ⟨Wb, 0, none⟩) :: x1 :: x2 :: .pointer (some ⟨B, 0, none⟩) :: x4 :: .int .i64 (i : Int) :: x6 :: x7 :: x8 :: x9 :: x10 :: x11 :: x12 :: x13 :: x14 :: x15 :: x16 :: x17 :: x18 :: x19 :: x20 :: x21 :: x22 :: x23 :: x24 :: x25 :: x26 :: x27 :: x28 :: x29 :: x30 :: x31 :: x32 :: x33 :: x34 :: x35 :: x36 :: x37 :: x38 :: x39 :: x40 :: x41 :: x42 :: x43 :: x44 :: x45 :: x46 :: x47 :: x48 :: x49 :: x50 :: x51 :: x52 :: x53 :: x54 :: x55 :: x56 :: x57 :: x58 :: x59 :: x60 :: x61 :: x62 :: x63 :: x64 :: x65 :: x66 :: x67 :: x68 :: x69 :: x70 :: x71 :: x72 :: x73 :: x74 :: x75 :: x76 :: x77 :: x78 :: x79 :: x80 :: x81 :: x82 :: x83 :: x84 :: x85 :: x86 :: x87 :: x88 :: x89 :: x90 :: x91 :: x92 :: x93 :: x94 :: x95 :: x96 :: x97 :: x98 :: []).toArray, defers := ds } W := by
  refine region_heldIn S (by kernel_rfl) ?_
  have hHeld : S { W with drawn := W.drawn + 1 } := hSb _ _ h0 (Below.drew (Below.refl _ W))
  change AnyHIn _ _ _ _ _ _ _ _ _ _ W.drew
  change S W.drew at hHeld
  refine anyH_take (i := 0) (oi := { dst := some 38, op := Op.move (Operand.tmp 5), type := 3, pos := "walk.go:50", after := #[], guard := none }) (v := ?_) (fun _ => trivial) rfl rfl (by kernel_rfl) (by kernel_rfl) (by kernel_rfl) (fun c a w h => hQ c a _ _ w h) (Or.inl ⟨by rfl, ?_⟩) hHeld ?_
  rotate_left
  · intro w hSw; have hSw := hS w hSw;  go_simp <;> with_reducible rfl
  simp only [Act.put, List.setIfInBounds_toArray, List.set_cons_zero, List.set_cons_succ]
  refine anyH_take (i := 1) (oi := { dst := some 39, op := Op.move (Operand.tmp 0), type := 86, pos := "walk.go:50", after := #[], guard := none }) (v := ?_) (fun _ => trivial) rfl rfl (by kernel_rfl) (by kernel_rfl) (by kernel_rfl) (fun c a w h => hQ c a _ _ w h) (Or.inl ⟨by rfl, ?_⟩) hHeld ?_
  rotate_left
  · intro w hSw; have hSw := hS w hSw;  go_simp <;> with_reducible rfl
  simp only [Act.put, List.setIfInBounds_toArray, List.set_cons_zero, List.set_cons_succ]
  refine anyH_take (i := 2) (oi := { dst := some 40, op := Op.nilCheck (Operand.tmp 39), type := 0, pos := "walk.go:50", after := #[{ on := 1, ground := Ground.data }], guard := none }) (v := ?_) (fun _ => trivial) rfl rfl (by kernel_rfl) (by kernel_rfl) (by kernel_rfl) (fun c a w h => hQ c a _ _ w h) (Or.inl ⟨by rfl, ?_⟩) hHeld ?_
  rotate_left
  · intro w hSw; have hSw := hS w hSw;  go_simp <;> with_reducible rfl
  simp only [Act.put, List.setIfInBounds_toArray, List.set_cons_zero, List.set_cons_succ]
  refine anyH_take (i := 3) (oi := { dst := some 41, op := Op.fieldAddr 88 (Operand.tmp 40) 0, type := 0, pos := "walk.go:50", after := #[{ on := 2, ground := Ground.data }], guard := none }) (v := ?_) (fun _ => trivial) rfl rfl (by kernel_rfl) (by kernel_rfl) (by kernel_rfl) (fun c a w h => hQ c a _ _ w h) (Or.inl ⟨by rfl, ?_⟩) hHeld ?_
  rotate_left
  · intro w hSw; have hSw := hS w hSw;  go_simp <;> with_reducible rfl
  simp only [Act.put, List.setIfInBounds_toArray, List.set_cons_zero, List.set_cons_succ]
  refine anyH_take (i := 4) (oi := { dst := some 42, op := Op.fieldAddr 37 (Operand.tmp 41) 3, type := 0, pos := "walk.go:50", after := #[{ on := 3, ground := Ground.data }], guard := none }) (v := ?_) (fun _ => trivial) rfl rfl (by kernel_rfl) (by kernel_rfl) (by kernel_rfl) (fun c a w h => hQ c a _ _ w h) (Or.inl ⟨by rfl, ?_⟩) hHeld ?_
  rotate_left
  · intro w hSw; have hSw := hS w hSw;  go_simp <;> with_reducible rfl
  simp only [Act.put, List.setIfInBounds_toArray, List.set_cons_zero, List.set_cons_succ]
  refine anyH_take (i := 5) (oi := { dst := some 43, op := Op.load 22 (Operand.tmp 42), type := 22, pos := "walk.go:50", after := #[{ on := 4, ground := Ground.data }], guard := none }) (v := ?_) (fun _ => trivial) rfl rfl (by kernel_rfl) (by kernel_rfl) (by kernel_rfl) (fun c a w h => hQ c a _ _ w h) (Or.inl ⟨by rfl, ?_⟩) hHeld ?_
  rotate_left
  · intro w hSw; have hSw := hS w hSw;  go_simp <;> with_reducible rfl
  simp only [Act.put, List.setIfInBounds_toArray, List.set_cons_zero, List.set_cons_succ]
  refine anyH_take (i := 6) (oi := { dst := some 44, op := Op.call { callee := Callee.builtin Builtin.len, args := #[Operand.tmp 43], argTypes := #[22] }, type := 3, pos := "walk.go:50", after := #[{ on := 5, ground := Ground.data }], guard := none }) (v := ?_) (fun _ => trivial) rfl rfl (by kernel_rfl) (by kernel_rfl) (by kernel_rfl) (fun c a w h => hQ c a _ _ w h) (Or.inl ⟨by rfl, ?_⟩) hHeld ?_
  rotate_left
  · intro w hSw; have hSw := hS w hSw;  go_simp <;> with_reducible rfl
  simp only [Act.put, List.setIfInBounds_toArray, List.set_cons_zero, List.set_cons_succ]
  refine anyH_take (i := 7) (oi := { dst := some 45, op := Op.binOp BinOp.lss 3 (Operand.tmp 38) (Operand.tmp 44) 3, type := 4, pos := "walk.go:50", after := #[{ on := 0, ground := Ground.data }, { on := 6, ground := Ground.data }], guard := none }) (v := ?_) (fun _ => trivial) rfl rfl (by kernel_rfl) (by kernel_rfl) (by kernel_rfl) (fun c a w h => hQ c a _ _ w h) (Or.inl ⟨by rfl, ?_⟩) hHeld ?_
  rotate_left
  · intro w hSw; have hSw := hS w hSw;  go_simp <;> with_reducible rfl
  simp only [Act.put, List.setIfInBounds_toArray, List.set_cons_zero, List.set_cons_succ]
  refine anyH_take (i := 8) (oi := { dst := some 46, op := Op.move (Operand.tmp 45), type := 4, pos := "walk.go:50", after := #[{ on := 7, ground := Ground.data }], guard := none }) (v := ?_) (fun _ => trivial) rfl rfl (by kernel_rfl) (by kernel_rfl) (by kernel_rfl) (fun c a w h => hQ c a _ _ w h) (Or.inl ⟨by rfl, ?_⟩) hHeld ?_
  rotate_left
  · intro w hSw; have hSw := hS w hSw;  go_simp <;> with_reducible rfl
  simp only [Act.put, List.setIfInBounds_toArray, List.set_cons_zero, List.set_cons_succ]
  refine anyH_take (i := 9) (oi := { dst := some 47, op := Op.fieldAddr 91 (Operand.tmp 3) 2, type := 0, pos := "walk.go:50", after := #[{ on := 8, ground := Ground.guard }], guard := some (8, true) }) (v := undef) (fun _ => trivial) rfl rfl (by kernel_rfl) (by kernel_rfl) (by kernel_rfl) (fun c a w h => hQ c a _ _ w h) (Or.inr ⟨by rfl, rfl⟩) hHeld ?_
  simp only [Act.put, List.setIfInBounds_toArray, List.set_cons_zero, List.set_cons_succ]
  refine anyH_take (i := 10) (oi := { dst := some 48, op := Op.load 3 (Operand.tmp 47), type := 3, pos := "walk.go:50", after := #[{ on := 9, ground := Ground.data }, { on := 8, ground := Ground.guard }], guard := some (8, true) }) (v := undef) (fun _ => trivial) rfl rfl (by kernel_rfl) (by kernel_rfl) (by kernel_rfl) (fun c a w h => hQ c a _ _ w h) (Or.inr ⟨by rfl, rfl⟩) hHeld ?_
  simp only [Act.put, List.setIfInBounds_toArray, List.set_cons_zero, List.set_cons_succ]
  refine anyH_take (i := 11) (oi := { dst := some 49, op := Op.move (Operand.tmp 0), type := 86, pos := "walk.go:50", after := #[{ on := 8, ground := Ground.guard }], guard := some (8, true) }) (v := undef) (fun _ => trivial) rfl rfl (by kernel_rfl) (by kernel_rfl) (by kernel_rfl) (fun c a w h => hQ c a _ _ w h) (Or.inr ⟨by rfl, rfl⟩) hHeld ?_
  simp only [Act.put, List.setIfInBounds_toArray, List.set_cons_zero, List.set_cons_succ]
  refine anyH_take (i := 12) (oi := { dst := some 50, op := Op.nilCheck (Operand.tmp 49), type := 0, pos := "walk.go:50", after := #[{ on := 11, ground := Ground.data }, { on := 8, ground := Ground.guard }], guard := some (8, true) }) (v := undef) (fun _ => trivial) rfl rfl (by kernel_rfl) (by kernel_rfl) (by kernel_rfl) (fun c a w h => hQ c a _ _ w h) (Or.inr ⟨by rfl, rfl⟩) hHeld ?_
  simp only [Act.put, List.setIfInBounds_toArray, List.set_cons_zero, List.set_cons_succ]
  refine anyH_take (i := 13) (oi := { dst := some 51, op := Op.fieldAddr 88 (Operand.tmp 50) 0, type := 0, pos := "walk.go:50", after := #[{ on := 12, ground := Ground.data }, { on := 8, ground := Ground.guard }], guard := some (8, true) }) (v := undef) (fun _ => trivial) rfl rfl (by kernel_rfl) (by kernel_rfl) (by kernel_rfl) (fun c a w h => hQ c a _ _ w h) (Or.inr ⟨by rfl, rfl⟩) hHeld ?_
  simp only [Act.put, List.setIfInBounds_toArray, List.set_cons_zero, List.set_cons_succ]
  refine anyH_take (i := 14) (oi := { dst := some 52, op := Op.fieldAddr 37 (Operand.tmp 51) 3, type := 0, pos := "walk.go:50", after := #[{ on := 13, ground := Ground.data }, { on := 8, ground := Ground.guard }], guard := some (8, true) }) (v := undef) (fun _ => trivial) rfl rfl (by kernel_rfl) (by kernel_rfl) (by kernel_rfl) (fun c a w h => hQ c a _ _ w h) (Or.inr ⟨by rfl, rfl⟩) hHeld ?_
  simp only [Act.put, List.setIfInBounds_toArray, List.set_cons_zero, List.set_cons_succ]
  refine anyH_take (i := 15) (oi := { dst := some 53, op := Op.load 22 (Operand.tmp 52), type := 22, pos := "walk.go:50", after := #[{ on := 14, ground := Ground.data }, { on := 8, ground := Ground.guard }], guard := some (8, true) }) (v := undef) (fun _ => trivial) rfl rfl (by kernel_rfl) (by kernel_rfl) (by kernel_rfl) (fun c a w h => hQ c a _ _ w h) (Or.inr ⟨by rfl, rfl⟩) hHeld ?_
  simp only [Act.put, List.setIfInBounds_toArray, List.set_cons_zero, List.set_cons_succ]
  refine anyH_take (i := 16) (oi := { dst := some 54, op := Op.call { callee := Callee.builtin Builtin.len, args := #[Operand.tmp 53], argTypes := #[22] }, type := 3, pos := "walk.go:50", after := #[{ on := 15, ground := Ground.data }, { on := 8, ground := Ground.guard }], guard := some (8, true) }) (v := undef) (fun _ => trivial) rfl rfl (by kernel_rfl) (by kernel_rfl) (by kernel_rfl) (fun c a w h => hQ c a _ _ w h) (Or.inr ⟨by rfl, rfl⟩) hHeld ?_
  simp only [Act.put, List.setIfInBounds_toArray, List.set_cons_zero, List.set_cons_succ]
  refine anyH_take (i := 17) (oi := { dst := some 55, op := Op.binOp BinOp.add 3 (Operand.tmp 48) (Operand.tmp 54) 3, type := 3, pos := "walk.go:50", after := #[{ on := 10, ground := Ground.data }, { on := 16, ground := Ground.data }, { on := 8, ground := Ground.guard }], guard := some (8, true) }) (v := undef) (fun _ => trivial) rfl rfl (by kernel_rfl) (by kernel_rfl) (by kernel_rfl) (fun c a w h => hQ c a _ _ w h) (Or.inr ⟨by rfl, rfl⟩) hHeld ?_
  simp only [Act.put, List.setIfInBounds_toArray, List.set_cons_zero, List.set_cons_succ]
  refine anyH_take (i := 18) (oi := { dst := some 56, op := Op.move (Operand.tmp 5), type := 3, pos := "walk.go:50", after := #[{ on := 8, ground := Ground.guard }], guard := some (8, true) }) (v := undef) (fun _ => trivial) rfl rfl (by kernel_rfl) (by kernel_rfl) (by kernel_rfl) (fun c a w h => hQ c a _ _ w h) (Or.inr ⟨by rfl, rfl⟩) hHeld ?_
  simp only [Act.put, List.setIfInBounds_toArray, List.set_cons_zero, List.set_cons_succ]
  refine anyH_take (i := 19) (oi := { dst := some 57, op := Op.binOp BinOp.sub 3 (Operand.tmp 55) (Operand.tmp 56) 3, type := 3, pos := "walk.go:50", after := #[{ on := 17, ground := Ground.data }, { on := 18, ground := Ground.data }, { on := 8, ground := Ground.guard }], guard := some (8, true) }) (v := undef) (fun _ => trivial) rfl rfl (by kernel_rfl) (by kernel_rfl) (by kernel_rfl) (fun c a w h => hQ c a _ _ w h) (Or.inr ⟨by rfl, rfl⟩) hHeld ?_
  simp only [Act.put, List.setIfInBounds_toArray, List.set_cons_zero, List.set_cons_succ]
  refine anyH_take (i := 20) (oi := { dst := some 58, op := Op.move (Operand.tmp 0), type := 86, pos := "walk.go:50", after := #[{ on := 8, ground := Ground.guard }], guard := some (8, true) }) (v := undef) (fun _ => trivial) rfl rfl (by kernel_rfl) (by kernel_rfl) (by kernel_rfl) (fun c a w h => hQ c a _ _ w h) (Or.inr ⟨by rfl, rfl⟩) hHeld ?_
  simp only [Act.put, List.setIfInBounds_toArray, List.set_cons_zero, List.set_cons_succ]
  refine anyH_take (i := 21) (oi := { dst := some 59, op := Op.nilCheck (Operand.tmp 58), type := 0, pos := "walk.go:50", after := #[{ on := 20, ground := Ground.data }, { on := 8, ground := Ground.guard }], guard := some (8, true) }) (v := undef) (fun _ => trivial) rfl rfl (by kernel_rfl) (by kernel_rfl) (by kernel_rfl) (fun c a w h => hQ c a _ _ w h) (Or.inr ⟨by rfl, rfl⟩) hHeld ?_
  simp only [Act.put, List.setIfInBounds_toArray, List.set_cons_zero, List.set_cons_succ]
  refine anyH_take (i := 22) (oi := { dst := some 60, op := Op.fieldAddr 88 (Operand.tmp 59) 0, type := 0, pos := "walk.go:50", after := #[{ on := 21, ground := Ground.data }, { on := 8, ground := Ground.guard }], guard := some (8, true) }) (v := undef) (fun _ => trivial) rfl rfl (by kernel_rfl) (by kernel_rfl) (by kernel_rfl) (fun c a w h => hQ c a _ _ w h) (Or.inr ⟨by rfl, rfl⟩) hHeld ?_
  simp only [Act.put, List.setIfInBounds_toArray, List.set_cons_zero, List.set_cons_succ]
  refine anyH_take (i := 23) (oi := { dst := some 61, op := Op.fieldAddr 37 (Operand.tmp 60) 4, type := 0, pos := "walk.go:50", after := #[{ on := 22, ground := Ground.data }, { on := 8, ground := Ground.guard }], guard := some (8, true) }) (v := undef) (fun _ => trivial) rfl rfl (by kernel_rfl) (by kernel_rfl) (by kernel_rfl) (fun c a w h => hQ c a _ _ w h) (Or.inr ⟨by rfl, rfl⟩) hHeld ?_
  simp only [Act.put, List.setIfInBounds_toArray, List.set_cons_zero, List.set_cons_succ]
  refine anyH_take (i := 24) (oi := { dst := some 62, op := Op.load 3 (Operand.tmp 61), type := 3, pos := "walk.go:50", after := #[{ on := 23, ground := Ground.data }, { on := 8, ground := Ground.guard }], guard := some (8, true) }) (v := undef) (fun _ => trivial) rfl rfl (by kernel_rfl) (by kernel_rfl) (by kernel_rfl) (fun c a w h => hQ c a _ _ w h) (Or.inr ⟨by rfl, rfl⟩) hHeld ?_
  simp only [Act.put, List.setIfInBounds_toArray, List.set_cons_zero, List.set_cons_succ]
  refine anyH_take (i := 25) (oi := { dst := some 63, op := Op.binOp BinOp.geq 3 (Operand.tmp 57) (Operand.tmp 62) 3, type := 4, pos := "walk.go:50", after := #[{ on := 19, ground := Ground.data }, { on := 24, ground := Ground.data }, { on := 8, ground := Ground.guard }], guard := some (8, true) }) (v := undef) (fun _ => trivial) rfl rfl (by kernel_rfl) (by kernel_rfl) (by kernel_rfl) (fun c a w h => hQ c a _ _ w h) (Or.inr ⟨by rfl, rfl⟩) hHeld ?_
  simp only [Act.put, List.setIfInBounds_toArray, List.set_cons_zero, List.set_cons_succ]
  refine anyH_take (i := 26) (oi := { dst := some 64, op := Op.pick (Operand.tmp 46) (Operand.tmp 63) (Operand.const (Value.bool false)), type := 4, pos := "walk.go:50", after := #[{ on := 8, ground := Ground.data }, { on := 25, ground := Ground.data }], guard := none }) (v := ?_) (fun _ => trivial) rfl rfl (by kernel_rfl) (by kernel_rfl) (by kernel_rfl) (fun c a w h => hQ c a _ _ w h) (Or.inl ⟨by rfl, ?_⟩) hHeld ?_
  rotate_left
  · intro w hSw; have hSw := hS w hSw;  go_simp <;> with_reducible rfl
  simp only [Act.put, List.setIfInBounds_toArray, List.set_cons_zero, List.set_cons_succ]
  exact anyH_done (by kernel_rfl) (hN _ _ _ _ _ _ _ _ _ _ _ _ _ _ _ _ _ _ _ _ _ _ _ _ _ _) _

set_option maxRecDepth 100000 in
set_option maxHeartbeats 4000000 in
theorem r6 (n Wb B i : Nat) (hi64 : (i : Int) < 64) (BV T : Array Value) (hBs : BV.size = 67) (hTs : T.size = 67) (hTo : T.all (·.oneCell') = true) (must : Bool) (S : World → Prop)
    (hS : ∀ w, S w → w.cell? ⟨Wb, 6 + i, none⟩ = some (.bool must))
    (hSr : ∀ w, S w → w.rangeAt B 0 BV.toList)
    (hSb : ∀ w w', S w → Below w.heap.size w w' → S w')
    (hC : ∀ w, Calls Tryz.prog 107 #[.agg BV, .int .i64 (i : Int), .bool must] w fun e w' => e = .returned (.agg T) ∧ Below w.heap.size w w')
    (Q : Exit → Act → World → Prop) (hQ : ∀ c (a : Act) d v w, Q (.panic c) (a.put d v) w → Q (.panic c) a w) {x1 x2 x4 x6 x7 x8 x9 x10 x11 x12 x13 x14 x15 x16 x17 x18 x19 x20 x21 x22 x23 x24 x25 x26 x27 x28 x29 x30 x31 x32 x33 x34 x35 x36 x37 x38 x39 x40 x41 x42 x43 x44 x45 x46 x47 x48 x49 x50 x51 x52 x53 x54 x55 x56 x57 x58 x59 x60 x61 x62 x63 x64 x65 x66 x67 x68 x69 x70 x71 x72 x73 x74 x75 x76 x77 x78 x79 x80 x81 x82 x83 x84 x85 x86 x87 x88 x89 x90 x91 x92 x93 x94 x95 x96 x97 x98 : Value} {ds : List Deferred} (W : World) (h0 : S W)
    (hN : ∀ (R : Nat) (w : World) (y67 y68 y69 y70 y71 y72 y73 y74 y75 : Value), W.heap.size ≤ R → w.heap[R]? = some (.cells T 91 (0, 0)) → Below W.heap.size W w → Q .normal { tmps := (.pointer (some ⟨Wb, 0, none⟩) :: x1 :: x2 :: .pointer (some ⟨B, 0, none⟩) :: x4 :: .int .i64 (i : Int) :: .pointer (some ⟨R, 0, none⟩) :: x7 :: x8 :: x9 :: x10 :: x11 :: x12 :: x13 :: x14 :: x15 :: x16 :: x17 :: x18 :: x19 :: x20 :: x21 :: x22 :: x23 :: x24 :: x25 :: x26 :: x27 :: x28 :: x29 :: x30 :: x31 :: x32 :: x33 :: x34 :: x35 :: x36 :: x37 :: x38 :: x39 :: x40 :: x41 :: x42 :: x43 :: x44 :: x45 :: x46 :: x47 :: x48 :: x49 :: x50 :: x51 :: x52 :: x53 :: x54 :: x55 :: x56 :: x57 :: x58 :: x59 :: x60 :: x61 :: x62 :: x63 :: x64 :: x65 :: x66 :: y67 :: y68 :: y69 :: y70 :: y71 :: y72 :: y73 :: y74 :: y75 :: x76 :: x77 :: x78 :: x79 :: x80 :: x81 :: x82 :: x83 :: x84 :: x85 :: x86 :: x87 :: x88 :: x89 :: x90 :: x91 :: x92 :: x93 :: x94 :: x95 :: x96 :: x97 :: x98 :: []).toArray, defers := ds } w) :
    (Code.region 6 #[{ dst := some 67, op := Op.load 91 (Operand.tmp 3), type := 91, pos := "walk.go:51", after := #[], guard := none },
    { dst := some 68, op := Op.move (Operand.tmp 5), type := 3, pos := "walk.go:51", after := #[], guard := none },
    { dst := some 69, op := Op.move (Operand.tmp 0), type := 86, pos := "walk.go:51", after := #[], guard := none },
    { dst := some 70, op := Op.move (Operand.tmp 5), type := 3, pos := "walk.go:51", after := #[], guard := none },
    { dst := some 71, op := Op.nilCheck (Operand.tmp 69), type := 0, pos := "walk.go:51", after := #[{ on := 2, ground := Ground.data }], guard := none },
    { dst := some 72, op := Op.fieldAddr 88 (Operand.tmp 71) 1, type := 0, pos := "walk.go:51", after := #[{ on := 4, ground := Ground.data }], guard := none },
    { dst := some 73, op := Op.indexAddr 62 (Operand.tmp 72) (Operand.tmp 70), type := 0, pos := "walk.go:51", after := #[{ on := 5, ground := Ground.data }, { on := 3, ground := Ground.data }], guard := none },
    { dst := some 74, op := Op.load 4 (Operand.tmp 73), type := 4, pos := "walk.go:51", after := #[{ on := 6, ground := Ground.data }], guard := none },
    { dst := some 75, op := Op.call { callee := Callee.value (Operand.func 107), args := #[Operand.tmp 67, Operand.tmp 68, Operand.tmp 74], argTypes := #[91, 3, 4] }, type := 91, pos := "walk.go:51", after := #[{ on := 0, ground := Ground.data }, { on := 1, ground := Ground.data }, { on := 7, ground := Ground.data }], guard := none },
    { dst := some 6, op := Op.alloc 91, type := 0, pos := "walk.go:51", after := #[], guard := none },
    { dst := none, op := Op.store 91 (Operand.tmp 6) (Operand.tmp 75), type := 0, pos := "walk.go:51", after := #[{ on := 9, ground := Ground.data }, { on := 8, ground := Ground.data }, { on := 8, ground := Ground.chain }, { on := 0, ground := Ground.phase }, { on := 1, ground := Ground.phase }, { on := 2, ground := Ground.phase }, { on := 3, ground := Ground.phase }, { on := 4, ground := Ground.phase }, { on := 5, ground := Ground.phase }, { on := 6, ground := Ground.phase }, { on := 7, ground := Ground.phase }, { on := 8, ground := Ground.phase }, { on := 9, ground := Ground.phase }], guard := none }] true).wpIn Fence.wide n Tryz.prog Q { tmps := (.pointer (some ⟨Wb, 0, none⟩) :: x1 :: x2 :: .pointer (some ⟨B, 0, none⟩) :: x4 :: .int .i64 (i : Int) :: x6 :: x7 :: x8 :: x9 :: x10 :: x11 :: x12 :: x13 :: x14 :: x15 :: x16 :: x17 :: x18 :: x19 :: x20 :: x21 :: x22 :: x23 :: x24 :: x25 :: x26 :: x27 :: x28 :: x29 :: x30 :: x31 :: x32 :: x33 :: x34 :: x35 :: x36 :: x37 :: x38 :: x39 :: x40 :: x41 :: x42 :: x43 :: x44 :: x45 :: x46 :: x47 :: x48 :: x49 :: x50 :: x51 :: x52 :: x53 :: x54 :: x55 :: x56 :: x57 :: x58 :: x59 :: x60 :: x61 :: x62 :: x63 :: x64 :: x65 :: x66 :: x67 :: x68 :: x69 :: x70 :: x71 :: x72 :: x73 :: x74 :: x75 :: x76 :: x77 :: x78 :: x79 :: x80 :: x81 :: x82 :: x83 :: x84 :: x85 :: x86 :: x87 :: x88 :: x89 :: x90 :: x91 :: x92 :: x93 :: x94 :: x95 :: x96 :: x97 :: x98 :: []).toArray, defers := ds } W := by
  have hu91 := Tryz.underlying91
  have hi91 : (Tryz.prog.info? 91).map (·.size) = some BV.toList.length := by rw [Array.length_toList, hBs]; exact size91
  have hT91 : (Tryz.prog.info? 91).map (·.size) = some T.size := by rw [hTs]; exact size91
  obtain ⟨hz, _⟩ := zero_of_info info91
  have hZs := beg_size (fun _ => false) 0 0 0
  generalize begV (fun _ => false) 0 0 0 = Z at hz hZs
  have hZT : Z.size = T.size := by rw [hZs, hTs]
  have hSB : ∀ w, Below W.heap.size W w → S w := fun w hb => hSb _ _ h0 hb
  have HN : Hid _ := hN
  have HA : Hid (Z.size = T.size ∧ T.all (·.oneCell') = true ∧ (Tryz.prog.info? 91).map (·.size) = some T.size) := ⟨hZT, hTo, hT91⟩
  clear hN hBs hTs hTo hZs hZT hT91
  refine region_heldIn S (by kernel_rfl) ?_
  have hHeld : S { W with drawn := W.drawn + 1 } := hSb _ _ h0 (Below.drew (Below.refl _ W))
  have hB0 : Below W.heap.size W W.drew := Below.drew (Below.refl _ W)
  change AnyHIn _ _ _ _ _ _ _ _ _ _ W.drew
  change S W.drew at hHeld
  generalize W.drew = W0 at hHeld hB0 ⊢
  refine anyH_take (i := 0) (oi := { dst := some 67, op := Op.load 91 (Operand.tmp 3), type := 91, pos := "walk.go:51", after := #[], guard := none }) (v := _) (fun _ => trivial) rfl rfl (by kernel_rfl) (by kernel_rfl) (by kernel_rfl) (fun c a w h => hQ c a _ _ w h) (yieldsIf_load_mid (by rfl) _ _ rfl _ _ rfl _ _ (fun w hw => hSr w hw) hu91 rfl hi91) hHeld ?_
  simp only [Act.put, List.setIfInBounds_toArray, List.set_cons_zero, List.set_cons_succ]
  refine anyH_take (i := 1) (oi := { dst := some 68, op := Op.move (Operand.tmp 5), type := 3, pos := "walk.go:51", after := #[], guard := none }) (v := ?_) (fun _ => trivial) rfl rfl (by kernel_rfl) (by kernel_rfl) (by kernel_rfl) (fun c a w h => hQ c a _ _ w h) (Or.inl ⟨by rfl, ?_⟩) hHeld ?_
  rotate_left
  · intro w hSw; have hSw := hS w hSw;  go_simp <;> with_reducible rfl
  simp only [Act.put, List.setIfInBounds_toArray, List.set_cons_zero, List.set_cons_succ]
  refine anyH_take (i := 2) (oi := { dst := some 69, op := Op.move (Operand.tmp 0), type := 86, pos := "walk.go:51", after := #[], guard := none }) (v := ?_) (fun _ => trivial) rfl rfl (by kernel_rfl) (by kernel_rfl) (by kernel_rfl) (fun c a w h => hQ c a _ _ w h) (Or.inl ⟨by rfl, ?_⟩) hHeld ?_
  rotate_left
  · intro w hSw; have hSw := hS w hSw;  go_simp <;> with_reducible rfl
  simp only [Act.put, List.setIfInBounds_toArray, List.set_cons_zero, List.set_cons_succ]
  refine anyH_take (i := 3) (oi := { dst := some 70, op := Op.move (Operand.tmp 5), type := 3, pos := "walk.go:51", after := #[], guard := none }) (v := ?_) (fun _ => trivial) rfl rfl (by kernel_rfl) (by kernel_rfl) (by kernel_rfl) (fun c a w h => hQ c a _ _ w h) (Or.inl ⟨by rfl, ?_⟩) hHeld ?_
  rotate_left
  · intro w hSw; have hSw := hS w hSw;  go_simp <;> with_reducible rfl
  simp only [Act.put, List.setIfInBounds_toArray, List.set_cons_zero, List.set_cons_succ]
  refine anyH_take (i := 4) (oi := { dst := some 71, op := Op.nilCheck (Operand.tmp 69), type := 0, pos := "walk.go:51", after := #[{ on := 2, ground := Ground.data }], guard := none }) (v := ?_) (fun _ => trivial) rfl rfl (by kernel_rfl) (by kernel_rfl) (by kernel_rfl) (fun c a w h => hQ c a _ _ w h) (Or.inl ⟨by rfl, ?_⟩) hHeld ?_
  rotate_left
  · intro w hSw; have hSw := hS w hSw;  go_simp <;> with_reducible rfl
  simp only [Act.put, List.setIfInBounds_toArray, List.set_cons_zero, List.set_cons_succ]
  refine anyH_take (i := 5) (oi := { dst := some 72, op := Op.fieldAddr 88 (Operand.tmp 71) 1, type := 0, pos := "walk.go:51", after := #[{ on := 4, ground := Ground.data }], guard := none }) (v := ?_) (fun _ => trivial) rfl rfl (by kernel_rfl) (by kernel_rfl) (by kernel_rfl) (fun c a w h => hQ c a _ _ w h) (Or.inl ⟨by rfl, ?_⟩) hHeld ?_
  rotate_left
  · intro w hSw; have hSw := hS w hSw;  go_simp <;> with_reducible rfl
  simp only [Act.put, List.setIfInBounds_toArray, List.set_cons_zero, List.set_cons_succ]
  refine anyH_take (i := 6) (oi := { dst := some 73, op := Op.indexAddr 62 (Operand.tmp 72) (Operand.tmp 70), type := 0, pos := "walk.go:51", after := #[{ on := 5, ground := Ground.data }, { on := 3, ground := Ground.data }], guard := none }) (v := ?_) (fun _ => trivial) rfl rfl (by kernel_rfl) (by kernel_rfl) (by kernel_rfl) (fun c a w h => hQ c a _ _ w h) (Or.inl ⟨by rfl, ?_⟩) hHeld ?_
  rotate_left
  · intro w hSw; have hSw := hS w hSw;  go_simp <;> with_reducible rfl
  simp only [Act.put, List.setIfInBounds_toArray, List.set_cons_zero, List.set_cons_succ]
  refine anyH_take (i := 7) (oi := { dst := some 74, op := Op.load 4 (Operand.tmp 73), type := 4, pos := "walk.go:51", after := #[{ on := 6, ground := Ground.data }], guard := none }) (v := ?_) (fun _ => trivial) rfl rfl (by kernel_rfl) (by kernel_rfl) (by kernel_rfl) (fun c a w h => hQ c a _ _ w h) (Or.inl ⟨by rfl, ?_⟩) hHeld ?_
  rotate_left
  · intro w hSw; have hSw := hS w hSw;  go_simp <;> with_reducible rfl
  simp only [Act.put, List.setIfInBounds_toArray, List.set_cons_zero, List.set_cons_succ]
  rw [Array.toArray_toList]
  refine anyH_two (i := 8) (j := 9) (oi := { dst := some 75, op := Op.call { callee := Callee.value (Operand.func 107), args := #[Operand.tmp 67, Operand.tmp 68, Operand.tmp 74], argTypes := #[91, 3, 4] }, type := 91, pos := "walk.go:51", after := #[{ on := 0, ground := Ground.data }, { on := 1, ground := Ground.data }, { on := 7, ground := Ground.data }], guard := none }) (oj := { dst := some 6, op := Op.alloc 91, type := 0, pos := "walk.go:51", after := #[], guard := none }) (by kernel_rfl) rfl rfl (by rfl) (by rfl) ?_ ?_
  · intro K hK
    have hcl := hC W0
    go_simp
    refine ⟨trivial, (fun h => nomatch h), (callsIn_wide.2 hcl).mono ?_⟩
    rintro e w1 ⟨rfl, hb1⟩
    have hB1 : Below W.heap.size W w1 := hB0.trans (hb1.mono hB0.size)
    have hHeld1 := hSB _ hB1
    refine hK _ _ hHeld1 ?_
    clear hK K hHeld hb1
    refine anyH_one (i := 9) (o := { dst := some 6, op := Op.alloc 91, type := 0, pos := "walk.go:51", after := #[], guard := none }) (by kernel_rfl) rfl (by rfl) ?_
    intro K hK
    go_simp
    have hB2 : Below W.heap.size W (w1.alloc (Obj.cells Z 91)) := hB1.alloc hB1.size _
    have hg : (w1.alloc (Obj.cells Z 91)).heap[w1.heap.size]? = some (.cells Z 91 (0, 0)) := World.alloc_heap_new w1 _
    refine hK _ _ (hSB _ hB2) ?_
    clear hK K
    have hR := hB1.size
    generalize w1.heap.size = R at hg hR ⊢
    generalize w1.alloc (Obj.cells Z 91) = w2 at hg hB2 ⊢
    refine anyH_one (i := 10) (o := { dst := none, op := Op.store 91 (Operand.tmp 6) (Operand.tmp 75), type := 0, pos := "walk.go:51", after := #[{ on := 9, ground := Ground.data }, { on := 8, ground := Ground.data }, { on := 8, ground := Ground.chain }, { on := 0, ground := Ground.phase }, { on := 1, ground := Ground.phase }, { on := 2, ground := Ground.phase }, { on := 3, ground := Ground.phase }, { on := 4, ground := Ground.phase }, { on := 5, ground := Ground.phase }, { on := 6, ground := Ground.phase }, { on := 7, ground := Ground.phase }, { on := 8, ground := Ground.phase }, { on := 9, ground := Ground.phase }], guard := none }) (by kernel_rfl) rfl (by rfl) ?_
    intro K hK
    refine storeIn_row rfl 91 (.tmp 6) (.tmp 75) rfl R T rfl rfl 91 Z hg HA.out.2.2 HA.out.1 HA.out.2.1 ?_
    refine hK _ _ (hSB _ (below_setRow hB2 hR T)) ?_
    try simp only [Act.put, List.setIfInBounds_toArray, List.set_cons_zero, List.set_cons_succ]
    exact anyH_done (by kernel_rfl) (HN.out R _ _ _ _ _ _ _ _ _ _ hR (setRow_heap w2 R Z T 91 (0, 0) hg) (below_setRow hB2 hR T)) _
  · intro K hK
    go_simp
    have hB1 : Below W.heap.size W (W0.alloc (Obj.cells Z 91)) := hB0.alloc hB0.size _
    have hg1 : (W0.alloc (Obj.cells Z 91)).heap[W0.heap.size]? = some (.cells Z 91 (0, 0)) := World.alloc_heap_new W0 _
    have hsz : W0.heap.size < (W0.alloc (Obj.cells Z 91)).heap.size := by rw [World.size_alloc]; omega
    refine hK _ _ (hSB _ hB1) ?_
    clear hK K
    have hR := hB0.size
    generalize W0.heap.size = R at hg1 hR hsz ⊢
    generalize W0.alloc (Obj.cells Z 91) = w1 at hg1 hB1 hsz ⊢
    refine anyH_one (i := 8) (o := { dst := some 75, op := Op.call { callee := Callee.value (Operand.func 107), args := #[Operand.tmp 67, Operand.tmp 68, Operand.tmp 74], argTypes := #[91, 3, 4] }, type := 91, pos := "walk.go:51", after := #[{ on := 0, ground := Ground.data }, { on := 1, ground := Ground.data }, { on := 7, ground := Ground.data }], guard := none }) (by kernel_rfl) rfl (by rfl) ?_
    intro K hK
    have hcl := hC w1
    go_simp
    refine ⟨trivial, (fun h => nomatch h), (callsIn_wide.2 hcl).mono ?_⟩
    rintro e w2 ⟨rfl, hb2⟩
    have hB2 : Below W.heap.size W w2 := hB1.trans (hb2.mono hB1.size)
    have hg : w2.heap[R]? = some (.cells Z 91 (0, 0)) := (hb2.block R hsz).trans hg1
    refine hK _ _ (hSB _ hB2) ?_
    clear hK K hb2 hg1 hcl
    refine anyH_one (i := 10) (o := { dst := none, op := Op.store 91 (Operand.tmp 6) (Operand.tmp 75), type := 0, pos := "walk.go:51", after := #[{ on := 9, ground := Ground.data }, { on := 8, ground := Ground.data }, { on := 8, ground := Ground.chain }, { on := 0, ground := Ground.phase }, { on := 1, ground := Ground.phase }, { on := 2, ground := Ground.phase }, { on := 3, ground := Ground.phase }, { on := 4, ground := Ground.phase }, { on := 5, ground := Ground.phase }, { on := 6, ground := Ground.phase }, { on := 7, ground := Ground.phase }, { on := 8, ground := Ground.phase }, { on := 9, ground := Ground.phase }], guard := none }) (by kernel_rfl) rfl (by rfl) ?_
    intro K hK
    refine storeIn_row rfl 91 (.tmp 6) (.tmp 75) rfl R T rfl rfl 91 Z hg HA.out.2.2 HA.out.1 HA.out.2.1 ?_
    refine hK _ _ (hSB _ (below_setRow hB2 hR T)) ?_
    try simp only [Act.put, List.setIfInBounds_toArray, List.set_cons_zero, List.set_cons_succ]
    exact anyH_done (by kernel_rfl) (HN.out R _ _ _ _ _ _ _ _ _ _ hR (setRow_heap w2 R Z T 91 (0, 0) hg) (below_setRow hB2 hR T)) _
end Go.Proofs.YtacnhkaibcjjgaaGreatDoor
