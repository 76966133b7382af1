/-
  What is proved here: how sets.walk.from goes through the sets of a domain: its regions.
-/
import Derived.Test.YtacnhkaibcjjgaaGreatDoorHi
import Derived.Deep.MidRow
namespace Go.Proofs.YtacnhkaibcjjgaaGreatDoor
open Go.RowKit Go.Shelf
set_option linter.unusedVariables false
set_option linter.unusedSimpArgs false

theorem bits_range {W : World} {b : Nat} {f : Nat → Bool} (h : ∀ j, j < 64 → W.cell? ⟨b, j, none⟩ = some (.bool (f j))) : W.rangeAt b 0 (bits64 f).toList := by
  intro j v hj
  have hl : j < 64 := by
    have := (List.getElem?_eq_some_iff.1 hj).1
    simpa [bits64_size] using this
  rw [Array.getElem?_toList, bits64_get f j hl] at hj
  cases hj
  rw [Nat.zero_add]; exact h j hl
theorem hu62 : Tryz.prog.underlying 62 = some (.array 64 4) := by kernel_rfl

set_option maxRecDepth 100000 in
set_option maxHeartbeats 4000000 in
theorem r1_yes (n lr Wb B : Nat) (f : Nat → Bool) (have_ least : Int) (hle : least ≤ have_) (sup : Value) (up : List Int) (hul : up.length ≤ 64) (S : World → Prop) (T : Bool → World → Prop)
    (hS : ∀ w, S w → w.cell? ⟨B, 66, none⟩ = some (.int .i64 0) ∧ w.cell? ⟨B, 65, none⟩ = some (.int .i64 have_) ∧ w.cell? ⟨Wb, 4, none⟩ = some (.int .i64 least) ∧ w.cell? ⟨Wb, 3, none⟩ = some sup ∧ w.cell? ⟨Wb, 70, none⟩ = some (.func (.yield lr) #[] #[]))
    (hSr : ∀ w, S w → w.rangeAt B 0 (bits64 f).toList) (hSu : ∀ w, S w → Si w sup up)
    (hSb : ∀ w w', S w → Below w.heap.size w w' → S w')
    (I : World → Prop) (hIb : ∀ w w', I w → Below w.heap.size w w' → I w')
    (hY : ∀ v w, S w → I w → Si w v (pickL up f true up.length) → ∃ fn tmps assign body, (Instr.yield lr #[v]).run Tryz.prog w = .ok (.round lr fn tmps assign body) w ∧
      RoundIn Fence.wide (n - 1) Tryz.prog lr fn tmps assign body w fun e w' => ∃ b, e = .returned (.bool b) ∧ S w' ∧ T b w')
    (Q : Exit → Act → World → Prop) (hQ : ∀ c (a : Act) d v w, Q (.panic c) (a.put d v) w → Q (.panic c) a w) (x1 x2 x4 x5 x6 x7 x8 x9 x10 x11 x12 x13 x14 x15 x16 x17 x18 x19 x20 x21 x22 x23 x24 x25 x26 x27 x28 x29 x30 x31 x32 x33 x34 x35 x36 x37 x38 x39 x40 x41 x42 x43 x44 x45 x46 x47 x48 x49 x50 x51 x52 x53 x54 x55 x56 x57 x58 x59 x60 x61 x62 x63 x64 x65 x66 x67 x68 x69 x70 x71 x72 x73 x74 x75 x76 x77 x78 x79 x80 x81 x82 x83 x84 x85 x86 x87 x88 x89 x90 x91 x92 x93 x94 x95 x96 x97 x98 : Value) (ds : List Deferred)
    (hN : ∀ b w (y7 y8 y9 y10 y11 y12 y13 y14 y15 y16 y17 y18 y19 y20 y21 y22 y23 y24 y25 y26 y27 y28 y29 y30 y31 y32 y33 y34 : Value), S w → T b w → Q .normal { tmps := (.pointer (some ⟨Wb, 0, none⟩) :: x1 :: x2 :: .pointer (some ⟨B, 0, none⟩) :: x4 :: x5 :: x6 :: y7 :: y8 :: y9 :: y10 :: y11 :: y12 :: y13 :: y14 :: y15 :: y16 :: y17 :: y18 :: y19 :: y20 :: y21 :: y22 :: y23 :: y24 :: y25 :: y26 :: y27 :: y28 :: y29 :: y30 :: y31 :: y32 :: y33 :: y34 :: .bool (!b) :: x36 :: x37 :: x38 :: x39 :: x40 :: x41 :: x42 :: x43 :: x44 :: x45 :: x46 :: x47 :: x48 :: x49 :: x50 :: x51 :: x52 :: x53 :: x54 :: x55 :: x56 :: x57 :: x58 :: x59 :: x60 :: x61 :: x62 :: x63 :: x64 :: x65 :: x66 :: x67 :: x68 :: x69 :: x70 :: x71 :: x72 :: x73 :: x74 :: x75 :: x76 :: x77 :: x78 :: x79 :: x80 :: x81 :: x82 :: x83 :: x84 :: x85 :: x86 :: x87 :: x88 :: x89 :: x90 :: x91 :: x92 :: x93 :: x94 :: x95 :: x96 :: x97 :: x98 :: []).toArray, defers := ds } w) (W : World) (h0 : S W) (h0i : I W) :
    (Code.region 1 #[{ dst := some 7, op := Op.fieldAddr 91 (Operand.tmp 3) 3, type := 0, pos := "walk.go:47", after := #[], guard := none },
    { dst := some 8, op := Op.load 3 (Operand.tmp 7), type := 3, pos := "walk.go:47", after := #[{ on := 0, ground := Ground.data }], guard := none },
    { dst := some 9, op := Op.binOp BinOp.eql 3 (Operand.tmp 8) (Operand.const (Value.int IntKind.i64 0)) 3, type := 4, pos := "walk.go:47", after := #[{ on := 1, ground := Ground.data }], guard := none },
    { dst := some 10, op := Op.move (Operand.tmp 9), type := 4, pos := "walk.go:47", after := #[{ on := 2, ground := Ground.data }], guard := none },
    { dst := some 11, op := Op.fieldAddr 91 (Operand.tmp 3) 2, type := 0, pos := "walk.go:47", after := #[{ on := 3, ground := Ground.guard }], guard := some (3, true) },
    { dst := some 12, op := Op.load 3 (Operand.tmp 11), type := 3, pos := "walk.go:47", after := #[{ on := 4, ground := Ground.data }, { on := 3, ground := Ground.guard }], guard := some (3, true) },
    { dst := some 13, op := Op.move (Operand.tmp 0), type := 86, pos := "walk.go:47", after := #[{ on := 3, ground := Ground.guard }], guard := some (3, true) },
    { dst := some 14, op := Op.nilCheck (Operand.tmp 13), type := 0, pos := "walk.go:47", after := #[{ on := 6, ground := Ground.data }, { on := 3, ground := Ground.guard }], guard := some (3, true) },
    { dst := some 15, op := Op.fieldAddr 88 (Operand.tmp 14) 0, type := 0, pos := "walk.go:47", after := #[{ on := 7, ground := Ground.data }, { on := 3, ground := Ground.guard }], guard := some (3, true) },
    { dst := some 16, op := Op.fieldAddr 37 (Operand.tmp 15) 4, type := 0, pos := "walk.go:47", after := #[{ on := 8, ground := Ground.data }, { on := 3, ground := Ground.guard }], guard := some (3, true) },
    { dst := some 17, op := Op.load 3 (Operand.tmp 16), type := 3, pos := "walk.go:47", after := #[{ on := 9, ground := Ground.data }, { on := 3, ground := Ground.guard }], guard := some (3, true) },
    { dst := some 18, op := Op.binOp BinOp.geq 3 (Operand.tmp 12) (Operand.tmp 17) 3, type := 4, pos := "walk.go:47", after := #[{ on := 5, ground := Ground.data }, { on := 10, ground := Ground.data }, { on := 3, ground := Ground.guard }], guard := some (3, true) },
    { dst := some 19, op := Op.pick (Operand.tmp 10) (Operand.tmp 18) (Operand.const (Value.bool false)), type := 4, pos := "walk.go:47", after := #[{ on := 3, ground := Ground.data }, { on := 11, ground := Ground.data }], guard := none },
    { dst := some 20, op := Op.move (Operand.tmp 19), type := 4, pos := "walk.go:47", after := #[{ on := 12, ground := Ground.data }, { on := 3, ground := Ground.chain }], guard := none },
    { dst := some 21, op := Op.move (Operand.tmp 0), type := 86, pos := "walk.go:47", after := #[{ on := 13, ground := Ground.guard }], guard := some (13, true) },
    { dst := some 22, op := Op.nilCheck (Operand.tmp 21), type := 0, pos := "walk.go:47", after := #[{ on := 14, ground := Ground.data }, { on := 13, ground := Ground.guard }], guard := some (13, true) },
    { dst := some 23, op := Op.fieldAddr 88 (Operand.tmp 22) 2, type := 0, pos := "walk.go:47", after := #[{ on := 15, ground := Ground.data }, { on := 13, ground := Ground.guard }], guard := some (13, true) },
    { dst := some 24, op := Op.load 32 (Operand.tmp 23), type := 32, pos := "walk.go:47", after := #[{ on := 16, ground := Ground.data }, { on := 13, ground := Ground.guard }], guard := some (13, true) },
    { dst := some 25, op := Op.move (Operand.tmp 0), type := 86, pos := "walk.go:47", after := #[{ on := 13, ground := Ground.guard }], guard := some (13, true) },
    { dst := some 26, op := Op.nilCheck (Operand.tmp 25), type := 0, pos := "walk.go:47", after := #[{ on := 18, ground := Ground.data }, { on := 13, ground := Ground.guard }], guard := some (13, true) },
    { dst := some 27, op := Op.fieldAddr 88 (Operand.tmp 26) 0, type := 0, pos := "walk.go:47", after := #[{ on := 19, ground := Ground.data }, { on := 13, ground := Ground.guard }], guard := some (13, true) },
    { dst := some 28, op := Op.fieldAddr 37 (Operand.tmp 27) 3, type := 0, pos := "walk.go:47", after := #[{ on := 20, ground := Ground.data }, { on := 13, ground := Ground.guard }], guard := some (13, true) },
    { dst := some 29, op := Op.load 22 (Operand.tmp 28), type := 22, pos := "walk.go:47", after := #[{ on := 21, ground := Ground.data }, { on := 13, ground := Ground.guard }], guard := some (13, true) },
    { dst := some 30, op := Op.fieldAddr 91 (Operand.tmp 3) 0, type := 0, pos := "walk.go:47", after := #[{ on := 13, ground := Ground.guard }], guard := some (13, true) },
    { dst := some 31, op := Op.load 62 (Operand.tmp 30), type := 62, pos := "walk.go:47", after := #[{ on := 23, ground := Ground.data }, { on := 13, ground := Ground.guard }], guard := some (13, true) },
    { dst := some 32, op := Op.call { callee := Callee.value (Operand.func 62), args := #[Operand.tmp 29, Operand.tmp 31, Operand.const (Value.bool true)], argTypes := #[22, 62, 4] }, type := 22, pos := "walk.go:47", after := #[{ on := 22, ground := Ground.data }, { on := 24, ground := Ground.data }, { on := 13, ground := Ground.chain }, { on := 13, ground := Ground.guard }], guard := some (13, true) },
    { dst := some 33, op := Op.call { callee := Callee.value (Operand.tmp 24), args := #[Operand.tmp 32], argTypes := #[22] }, type := 4, pos := "walk.go:47", after := #[{ on := 17, ground := Ground.data }, { on := 25, ground := Ground.data }, { on := 25, ground := Ground.chain }, { on := 13, ground := Ground.guard }], guard := some (13, true) },
    { dst := some 34, op := Op.unOp UnOp.not 4 (Operand.tmp 33), type := 4, pos := "walk.go:47", after := #[{ on := 26, ground := Ground.data }, { on := 13, ground := Ground.guard }], guard := some (13, true) },
    { dst := some 35, op := Op.pick (Operand.tmp 20) (Operand.tmp 34) (Operand.const (Value.bool false)), type := 4, pos := "walk.go:47", after := #[{ on := 13, ground := Ground.data }, { on := 27, ground := Ground.data }], guard := none }] true).wpIn Fence.wide n Tryz.prog Q { tmps := (.pointer (some ⟨Wb, 0, none⟩) :: x1 :: x2 :: .pointer (some ⟨B, 0, none⟩) :: x4 :: x5 :: x6 :: x7 :: x8 :: x9 :: x10 :: x11 :: x12 :: x13 :: x14 :: x15 :: x16 :: x17 :: x18 :: x19 :: x20 :: x21 :: x22 :: x23 :: x24 :: x25 :: x26 :: x27 :: x28 :: x29 :: x30 :: x31 :: x32 :: x33 :: x34 :: x35 :: x36 :: x37 :: x38 :: x39 :: x40 :: x41 :: x42 :: x43 :: x44 :: x45 :: x46 :: x47 :: x48 :: x49 :: x50 :: x51 :: x52 :: x53 :: x54 :: x55 :: x56 :: x57 :: x58 :: x59 :: x60 :: x61 :: x62 :: x63 :: x64 :: x65 :: x66 :: x67 :: x68 :: x69 :: x70 :: x71 :: x72 :: x73 :: x74 :: x75 :: x76 :: x77 :: x78 :: x79 :: x80 :: x81 :: x82 :: x83 :: x84 :: x85 :: x86 :: x87 :: x88 :: x89 :: x90 :: x91 :: x92 :: x93 :: x94 :: x95 :: x96 :: x97 :: x98 :: []).toArray, defers := ds } W := by
  have hi62 : (Tryz.prog.info? 62).map (·.size) = some (bits64 f).toList.length := by
    rw [Array.length_toList, bits64_size]; kernel_rfl
  refine region_heldIn S (by kernel_rfl) ?_
  have hHeld : S { W with drawn := W.drawn + 1 } := hSb _ _ h0 (Below.drew (Below.refl _ W))
  have hI0 : I { W with drawn := W.drawn + 1 } := hIb _ _ h0i (Below.drew (Below.refl _ W))
  generalize { W with drawn := W.drawn + 1 } = W0 at hHeld hI0 ⊢
  clear h0 h0i W
  refine anyH_take (i := 0) (oi := { dst := some 7, op := Op.fieldAddr 91 (Operand.tmp 3) 3, type := 0, pos := "walk.go:47", after := #[], guard := none }) (v := ?_) (fun _ => trivial) rfl rfl (by kernel_rfl) (by kernel_rfl) (by kernel_rfl) (fun c a w h => hQ c a _ _ w h) (Or.inl ⟨by rfl, ?_⟩) hHeld ?_
  rotate_left
  · intro w hSw; have hSw := hS w hSw;  go_simp <;> with_reducible rfl
  simp only [Act.put, List.setIfInBounds_toArray, List.set_cons_zero, List.set_cons_succ]
  refine anyH_take (i := 1) (oi := { dst := some 8, op := Op.load 3 (Operand.tmp 7), type := 3, pos := "walk.go:47", after := #[{ on := 0, ground := Ground.data }], guard := none }) (v := ?_) (fun _ => trivial) rfl rfl (by kernel_rfl) (by kernel_rfl) (by kernel_rfl) (fun c a w h => hQ c a _ _ w h) (Or.inl ⟨by rfl, ?_⟩) hHeld ?_
  rotate_left
  · intro w hSw; have hSw := hS w hSw;  go_simp <;> with_reducible rfl
  simp only [Act.put, List.setIfInBounds_toArray, List.set_cons_zero, List.set_cons_succ]
  refine anyH_take (i := 2) (oi := { dst := some 9, op := Op.binOp BinOp.eql 3 (Operand.tmp 8) (Operand.const (Value.int IntKind.i64 0)) 3, type := 4, pos := "walk.go:47", after := #[{ on := 1, ground := Ground.data }], guard := none }) (v := ?_) (fun _ => trivial) rfl rfl (by kernel_rfl) (by kernel_rfl) (by kernel_rfl) (fun c a w h => hQ c a _ _ w h) (Or.inl ⟨by rfl, ?_⟩) hHeld ?_
  rotate_left
  · intro w hSw; have hSw := hS w hSw;  go_simp <;> with_reducible rfl
  simp only [Act.put, List.setIfInBounds_toArray, List.set_cons_zero, List.set_cons_succ]
  refine anyH_take (i := 3) (oi := { dst := some 10, op := Op.move (Operand.tmp 9), type := 4, pos := "walk.go:47", after := #[{ on := 2, ground := Ground.data }], guard := none }) (v := ?_) (fun _ => trivial) rfl rfl (by kernel_rfl) (by kernel_rfl) (by kernel_rfl) (fun c a w h => hQ c a _ _ w h) (Or.inl ⟨by rfl, ?_⟩) hHeld ?_
  rotate_left
  · intro w hSw; have hSw := hS w hSw;  go_simp <;> with_reducible rfl
  simp only [Act.put, List.setIfInBounds_toArray, List.set_cons_zero, List.set_cons_succ]
  refine anyH_take (i := 4) (oi := { dst := some 11, op := Op.fieldAddr 91 (Operand.tmp 3) 2, type := 0, pos := "walk.go:47", after := #[{ on := 3, ground := Ground.guard }], guard := some (3, true) }) (v := ?_) (fun _ => trivial) rfl rfl (by kernel_rfl) (by kernel_rfl) (by kernel_rfl) (fun c a w h => hQ c a _ _ w h) (Or.inl ⟨by rfl, ?_⟩) hHeld ?_
  rotate_left
  · intro w hSw; have hSw := hS w hSw;  go_simp <;> with_reducible rfl
  simp only [Act.put, List.setIfInBounds_toArray, List.set_cons_zero, List.set_cons_succ]
  refine anyH_take (i := 5) (oi := { dst := some 12, op := Op.load 3 (Operand.tmp 11), type := 3, pos := "walk.go:47", after := #[{ on := 4, ground := Ground.data }, { on := 3, ground := Ground.guard }], guard := some (3, true) }) (v := ?_) (fun _ => trivial) rfl rfl (by kernel_rfl) (by kernel_rfl) (by kernel_rfl) (fun c a w h => hQ c a _ _ w h) (Or.inl ⟨by rfl, ?_⟩) hHeld ?_
  rotate_left
  · intro w hSw; have hSw := hS w hSw;  go_simp <;> with_reducible rfl
  simp only [Act.put, List.setIfInBounds_toArray, List.set_cons_zero, List.set_cons_succ]
  refine anyH_take (i := 6) (oi := { dst := some 13, op := Op.move (Operand.tmp 0), type := 86, pos := "walk.go:47", after := #[{ on := 3, ground := Ground.guard }], guard := some (3, true) }) (v := ?_) (fun _ => trivial) rfl rfl (by kernel_rfl) (by kernel_rfl) (by kernel_rfl) (fun c a w h => hQ c a _ _ w h) (Or.inl ⟨by rfl, ?_⟩) hHeld ?_
  rotate_left
  · intro w hSw; have hSw := hS w hSw;  go_simp <;> with_reducible rfl
  simp only [Act.put, List.setIfInBounds_toArray, List.set_cons_zero, List.set_cons_succ]
  refine anyH_take (i := 7) (oi := { dst := some 14, op := Op.nilCheck (Operand.tmp 13), type := 0, pos := "walk.go:47", after := #[{ on := 6, ground := Ground.data }, { on := 3, ground := Ground.guard }], guard := some (3, true) }) (v := ?_) (fun _ => trivial) rfl rfl (by kernel_rfl) (by kernel_rfl) (by kernel_rfl) (fun c a w h => hQ c a _ _ w h) (Or.inl ⟨by rfl, ?_⟩) hHeld ?_
  rotate_left
  · intro w hSw; have hSw := hS w hSw;  go_simp <;> with_reducible rfl
  simp only [Act.put, List.setIfInBounds_toArray, List.set_cons_zero, List.set_cons_succ]
  refine anyH_take (i := 8) (oi := { dst := some 15, op := Op.fieldAddr 88 (Operand.tmp 14) 0, type := 0, pos := "walk.go:47", after := #[{ on := 7, ground := Ground.data }, { on := 3, ground := Ground.guard }], guard := some (3, true) }) (v := ?_) (fun _ => trivial) rfl rfl (by kernel_rfl) (by kernel_rfl) (by kernel_rfl) (fun c a w h => hQ c a _ _ w h) (Or.inl ⟨by rfl, ?_⟩) hHeld ?_
  rotate_left
  · intro w hSw; have hSw := hS w hSw;  go_simp <;> with_reducible rfl
  simp only [Act.put, List.setIfInBounds_toArray, List.set_cons_zero, List.set_cons_succ]
  refine anyH_take (i := 9) (oi := { dst := some 16, op := Op.fieldAddr 37 (Operand.tmp 15) 4, type := 0, pos := "walk.go:47", after := #[{ on := 8, ground := Ground.data }, { on := 3, ground := Ground.guard }], guard := some (3, true) }) (v := ?_) (fun _ => trivial) rfl rfl (by kernel_rfl) (by kernel_rfl) (by kernel_rfl) (fun c a w h => hQ c a _ _ w h) (Or.inl ⟨by rfl, ?_⟩) hHeld ?_
  rotate_left
  · intro w hSw; have hSw := hS w hSw;  go_simp <;> with_reducible rfl
  simp only [Act.put, List.setIfInBounds_toArray, List.set_cons_zero, List.set_cons_succ]
  refine anyH_take (i := 10) (oi := { dst := some 17, op := Op.load 3 (Operand.tmp 16), type := 3, pos := "walk.go:47", after := #[{ on := 9, ground := Ground.data }, { on := 3, ground := Ground.guard }], guard := some (3, true) }) (v := ?_) (fun _ => trivial) rfl rfl (by kernel_rfl) (by kernel_rfl) (by kernel_rfl) (fun c a w h => hQ c a _ _ w h) (Or.inl ⟨by rfl, ?_⟩) hHeld ?_
  rotate_left
  · intro w hSw; have hSw := hS w hSw;  go_simp <;> with_reducible rfl
  simp only [Act.put, List.setIfInBounds_toArray, List.set_cons_zero, List.set_cons_succ]
  refine anyH_take (i := 11) (oi := { dst := some 18, op := Op.binOp BinOp.geq 3 (Operand.tmp 12) (Operand.tmp 17) 3, type := 4, pos := "walk.go:47", after := #[{ on := 5, ground := Ground.data }, { on := 10, ground := Ground.data }, { on := 3, ground := Ground.guard }], guard := some (3, true) }) (v := ?_) (fun _ => trivial) rfl rfl (by kernel_rfl) (by kernel_rfl) (by kernel_rfl) (fun c a w h => hQ c a _ _ w h) (Or.inl ⟨by rfl, ?_⟩) hHeld ?_
  rotate_left
  · intro w hSw; have hSw := hS w hSw;  go_simp <;> with_reducible rfl
  simp only [Act.put, List.setIfInBounds_toArray, List.set_cons_zero, List.set_cons_succ]
  refine anyH_take (i := 12) (oi := { dst := some 19, op := Op.pick (Operand.tmp 10) (Operand.tmp 18) (Operand.const (Value.bool false)), type := 4, pos := "walk.go:47", after := #[{ on := 3, ground := Ground.data }, { on := 11, ground := Ground.data }], guard := none }) (v := ?_) (fun _ => trivial) rfl rfl (by kernel_rfl) (by kernel_rfl) (by kernel_rfl) (fun c a w h => hQ c a _ _ w h) (Or.inl ⟨by rfl, ?_⟩) hHeld ?_
  rotate_left
  · intro w hSw; have hSw := hS w hSw;  go_simp <;> with_reducible rfl
  simp only [Act.put, List.setIfInBounds_toArray, List.set_cons_zero, List.set_cons_succ]
  refine anyH_take (i := 13) (oi := { dst := some 20, op := Op.move (Operand.tmp 19), type := 4, pos := "walk.go:47", after := #[{ on := 12, ground := Ground.data }, { on := 3, ground := Ground.chain }], guard := none }) (v := ?_) (fun _ => trivial) rfl rfl (by kernel_rfl) (by kernel_rfl) (by kernel_rfl) (fun c a w h => hQ c a _ _ w h) (Or.inl ⟨by rfl, ?_⟩) hHeld ?_
  rotate_left
  · intro w hSw; have hSw := hS w hSw;  go_simp <;> with_reducible rfl
  simp only [Act.put, List.setIfInBounds_toArray, List.set_cons_zero, List.set_cons_succ]
  refine anyH_take (i := 14) (oi := { dst := some 21, op := Op.move (Operand.tmp 0), type := 86, pos := "walk.go:47", after := #[{ on := 13, ground := Ground.guard }], guard := some (13, true) }) (v := ?_) (fun _ => trivial) rfl rfl (by kernel_rfl) (by kernel_rfl) (by kernel_rfl) (fun c a w h => hQ c a _ _ w h) (Or.inl ⟨by rfl, ?_⟩) hHeld ?_
  rotate_left
  · intro w hSw; have hSw := hS w hSw;  go_simp <;> with_reducible rfl
  simp only [Act.put, List.setIfInBounds_toArray, List.set_cons_zero, List.set_cons_succ]
  refine anyH_take (i := 15) (oi := { dst := some 22, op := Op.nilCheck (Operand.tmp 21), type := 0, pos := "walk.go:47", after := #[{ on := 14, ground := Ground.data }, { on := 13, ground := Ground.guard }], guard := some (13, true) }) (v := ?_) (fun _ => trivial) rfl rfl (by kernel_rfl) (by kernel_rfl) (by kernel_rfl) (fun c a w h => hQ c a _ _ w h) (Or.inl ⟨by rfl, ?_⟩) hHeld ?_
  rotate_left
  · intro w hSw; have hSw := hS w hSw;  go_simp <;> with_reducible rfl
  simp only [Act.put, List.setIfInBounds_toArray, List.set_cons_zero, List.set_cons_succ]
  refine anyH_take (i := 16) (oi := { dst := some 23, op := Op.fieldAddr 88 (Operand.tmp 22) 2, type := 0, pos := "walk.go:47", after := #[{ on := 15, ground := Ground.data }, { on := 13, ground := Ground.guard }], guard := some (13, true) }) (v := ?_) (fun _ => trivial) rfl rfl (by kernel_rfl) (by kernel_rfl) (by kernel_rfl) (fun c a w h => hQ c a _ _ w h) (Or.inl ⟨by rfl, ?_⟩) hHeld ?_
  rotate_left
  · intro w hSw; have hSw := hS w hSw;  go_simp <;> with_reducible rfl
  simp only [Act.put, List.setIfInBounds_toArray, List.set_cons_zero, List.set_cons_succ]
  refine anyH_take (i := 17) (oi := { dst := some 24, op := Op.load 32 (Operand.tmp 23), type := 32, pos := "walk.go:47", after := #[{ on := 16, ground := Ground.data }, { on := 13, ground := Ground.guard }], guard := some (13, true) }) (v := ?_) (fun _ => trivial) rfl rfl (by kernel_rfl) (by kernel_rfl) (by kernel_rfl) (fun c a w h => hQ c a _ _ w h) (Or.inl ⟨by rfl, ?_⟩) hHeld ?_
  rotate_left
  · intro w hSw; have hSw := hS w hSw;  go_simp <;> with_reducible rfl
  simp only [Act.put, List.setIfInBounds_toArray, List.set_cons_zero, List.set_cons_succ]
  refine anyH_take (i := 18) (oi := { dst := some 25, op := Op.move (Operand.tmp 0), type := 86, pos := "walk.go:47", after := #[{ on := 13, ground := Ground.guard }], guard := some (13, true) }) (v := ?_) (fun _ => trivial) rfl rfl (by kernel_rfl) (by kernel_rfl) (by kernel_rfl) (fun c a w h => hQ c a _ _ w h) (Or.inl ⟨by rfl, ?_⟩) hHeld ?_
  rotate_left
  · intro w hSw; have hSw := hS w hSw;  go_simp <;> with_reducible rfl
  simp only [Act.put, List.setIfInBounds_toArray, List.set_cons_zero, List.set_cons_succ]
  refine anyH_take (i := 19) (oi := { dst := some 26, op := Op.nilCheck (Operand.tmp 25), type := 0, pos := "walk.go:47", after := #[{ on := 18, ground := Ground.data }, { on := 13, ground := Ground.guard }], guard := some (13, true) }) (v := ?_) (fun _ => trivial) rfl rfl (by kernel_rfl) (by kernel_rfl) (by kernel_rfl) (fun c a w h => hQ c a _ _ w h) (Or.inl ⟨by rfl, ?_⟩) hHeld ?_
  rotate_left
  · intro w hSw; have hSw := hS w hSw;  go_simp <;> with_reducible rfl
  simp only [Act.put, List.setIfInBounds_toArray, List.set_cons_zero, List.set_cons_succ]
  refine anyH_take (i := 20) (oi := { dst := some 27, op := Op.fieldAddr 88 (Operand.tmp 26) 0, type := 0, pos := "walk.go:47", after := #[{ on := 19, ground := Ground.data }, { on := 13, ground := Ground.guard }], guard := some (13, true) }) (v := ?_) (fun _ => trivial) rfl rfl (by kernel_rfl) (by kernel_rfl) (by kernel_rfl) (fun c a w h => hQ c a _ _ w h) (Or.inl ⟨by rfl, ?_⟩) hHeld ?_
  rotate_left
  · intro w hSw; have hSw := hS w hSw;  go_simp <;> with_reducible rfl
  simp only [Act.put, List.setIfInBounds_toArray, List.set_cons_zero, List.set_cons_succ]
  refine anyH_take (i := 21) (oi := { dst := some 28, op := Op.fieldAddr 37 (Operand.tmp 27) 3, type := 0, pos := "walk.go:47", after := #[{ on := 20, ground := Ground.data }, { on := 13, ground := Ground.guard }], guard := some (13, true) }) (v := ?_) (fun _ => trivial) rfl rfl (by kernel_rfl) (by kernel_rfl) (by kernel_rfl) (fun c a w h => hQ c a _ _ w h) (Or.inl ⟨by rfl, ?_⟩) hHeld ?_
  rotate_left
  · intro w hSw; have hSw := hS w hSw;  go_simp <;> with_reducible rfl
  simp only [Act.put, List.setIfInBounds_toArray, List.set_cons_zero, List.set_cons_succ]
  refine anyH_take (i := 22) (oi := { dst := some 29, op := Op.load 22 (Operand.tmp 28), type := 22, pos := "walk.go:47", after := #[{ on := 21, ground := Ground.data }, { on := 13, ground := Ground.guard }], guard := some (13, true) }) (v := ?_) (fun _ => trivial) rfl rfl (by kernel_rfl) (by kernel_rfl) (by kernel_rfl) (fun c a w h => hQ c a _ _ w h) (Or.inl ⟨by rfl, ?_⟩) hHeld ?_
  rotate_left
  · intro w hSw; have hSw := hS w hSw;  go_simp <;> with_reducible rfl
  simp only [Act.put, List.setIfInBounds_toArray, List.set_cons_zero, List.set_cons_succ]
  refine anyH_take (i := 23) (oi := { dst := some 30, op := Op.fieldAddr 91 (Operand.tmp 3) 0, type := 0, pos := "walk.go:47", after := #[{ on := 13, ground := Ground.guard }], guard := some (13, true) }) (v := ?_) (fun _ => trivial) rfl rfl (by kernel_rfl) (by kernel_rfl) (by kernel_rfl) (fun c a w h => hQ c a _ _ w h) (Or.inl ⟨by rfl, ?_⟩) hHeld ?_
  rotate_left
  · intro w hSw; have hSw := hS w hSw;  go_simp <;> with_reducible rfl
  simp only [Act.put, List.setIfInBounds_toArray, List.set_cons_zero, List.set_cons_succ]
  refine anyH_take (i := 24) (oi := { dst := some 31, op := Op.load 62 (Operand.tmp 30), type := 62, pos := "walk.go:47", after := #[{ on := 23, ground := Ground.data }, { on := 13, ground := Ground.guard }], guard := some (13, true) }) (v := _) (fun _ => trivial) rfl rfl (by kernel_rfl) (by kernel_rfl) (by kernel_rfl) (fun c a w h => hQ c a _ _ w h) (yieldsIf_load_mid (by rfl) _ _ rfl _ _ rfl _ _ (fun w hw => hSr w hw) hu62 rfl hi62) hHeld ?_
  simp only [Act.put, List.setIfInBounds_toArray, List.set_cons_zero, List.set_cons_succ]
  rw [Array.toArray_toList]
  refine anyH_one (i := 25) (o := { dst := some 32, op := Op.call { callee := Callee.value (Operand.func 62), args := #[Operand.tmp 29, Operand.tmp 31, Operand.const (Value.bool true)], argTypes := #[22, 62, 4] }, type := 22, pos := "walk.go:47", after := #[{ on := 22, ground := Ground.data }, { on := 24, ground := Ground.data }, { on := 13, ground := Ground.chain }, { on := 13, ground := Ground.guard }], guard := some (13, true) }) (by kernel_rfl) rfl (by rfl) ?_
  intro K hK
  have hpk := picked_any sup up f true W0 (hSu _ hHeld) hul
  go_simp
  refine ⟨trivial, (fun h => nomatch h), (callsIn_wide.2 hpk).mono ?_⟩
  rintro e w1 ⟨v, rfl, hF, hb1⟩
  have hHeld1 := hSb _ _ hHeld hb1
  clear hHeld
  have hHeld := hHeld1
  refine hK _ _ hHeld ?_
  clear hK K hHeld1
  try simp only [Act.put, List.setIfInBounds_toArray, List.set_cons_zero, List.set_cons_succ]
  refine anyH_one (i := 26) (o := { dst := some 33, op := Op.call { callee := Callee.value (Operand.tmp 24), args := #[Operand.tmp 32], argTypes := #[22] }, type := 4, pos := "walk.go:47", after := #[{ on := 17, ground := Ground.data }, { on := 25, ground := Ground.data }, { on := 25, ground := Ground.chain }, { on := 13, ground := Ground.guard }], guard := some (13, true) }) (by kernel_rfl) rfl (by rfl) ?_
  intro K hK
  obtain ⟨fn, tmps, assign, body, hy, hRd⟩ := hY v w1 hHeld (hIb _ _ hI0 hb1) hF.si
  go_simp
  refine ⟨(fun h => nomatch h), hRd.mono ?_⟩
  rintro e w2 ⟨b, rfl, hS2, hT2⟩
  clear hHeld
  have hHeld := hS2
  refine hK _ _ hHeld ?_
  clear hK K
  try simp only [Act.put, List.setIfInBounds_toArray, List.set_cons_zero, List.set_cons_succ]
  refine anyH_take (i := 27) (oi := { dst := some 34, op := Op.unOp UnOp.not 4 (Operand.tmp 33), type := 4, pos := "walk.go:47", after := #[{ on := 26, ground := Ground.data }, { on := 13, ground := Ground.guard }], guard := some (13, true) }) (v := ?_) (fun _ => trivial) rfl rfl (by kernel_rfl) (by kernel_rfl) (by kernel_rfl) (fun c a w h => hQ c a _ _ w h) (Or.inl ⟨by rfl, ?_⟩) hHeld ?_
  rotate_left
  · intro w hSw; have hSw := hS w hSw;  go_simp <;> with_reducible rfl
  simp only [Act.put, List.setIfInBounds_toArray, List.set_cons_zero, List.set_cons_succ]
  refine anyH_take (i := 28) (oi := { dst := some 35, op := Op.pick (Operand.tmp 20) (Operand.tmp 34) (Operand.const (Value.bool false)), type := 4, pos := "walk.go:47", after := #[{ on := 13, ground := Ground.data }, { on := 27, ground := Ground.data }], guard := none }) (v := ?_) (fun _ => trivial) rfl rfl (by kernel_rfl) (by kernel_rfl) (by kernel_rfl) (fun c a w h => hQ c a _ _ w h) (Or.inl ⟨by rfl, ?_⟩) hHeld ?_
  rotate_left
  · intro w hSw; have hSw := hS w hSw;  go_simp <;> with_reducible rfl
  simp only [Act.put, List.setIfInBounds_toArray, List.set_cons_zero, List.set_cons_succ]
  exact anyH_done (by kernel_rfl) (hN b w2 _ _ _ _ _ _ _ _ _ _ _ _ _ _ _ _ _ _ _ _ _ _ _ _ _ _ _ _ hS2 hT2) _

set_option maxRecDepth 100000 in
set_option maxHeartbeats 4000000 in
theorem r1_no1 (n Wb B : Nat) (have_ least : Int)  (needed : Int) (hne : (needed == 0) = false) (S : World → Prop)
    (hS : ∀ w, S w → w.cell? ⟨B, 66, none⟩ = some (.int .i64 needed) ∧ w.cell? ⟨B, 65, none⟩ = some (.int .i64 have_) ∧ w.cell? ⟨Wb, 4, none⟩ = some (.int .i64 least))
    (hSb : ∀ w w', S w → Below w.heap.size w w' → S w')
    (Q : Exit → Act → World → Prop) (hQ : ∀ c (a : Act) d v w, Q (.panic c) (a.put d v) w → Q (.panic c) a w) (x1 x2 x4 x5 x6 x7 x8 x9 x10 x11 x12 x13 x14 x15 x16 x17 x18 x19 x20 x21 x22 x23 x24 x25 x26 x27 x28 x29 x30 x31 x32 x33 x34 x35 x36 x37 x38 x39 x40 x41 x42 x43 x44 x45 x46 x47 x48 x49 x50 x51 x52 x53 x54 x55 x56 x57 x58 x59 x60 x61 x62 x63 x64 x65 x66 x67 x68 x69 x70 x71 x72 x73 x74 x75 x76 x77 x78 x79 x80 x81 x82 x83 x84 x85 x86 x87 x88 x89 x90 x91 x92 x93 x94 x95 x96 x97 x98 : Value) (ds : List Deferred)
    (hN : ∀ w (y7 y8 y9 y10 y11 y12 y13 y14 y15 y16 y17 y18 y19 y20 y21 y22 y23 y24 y25 y26 y27 y28 y29 y30 y31 y32 y33 y34 : Value), S w → Q .normal { tmps := (.pointer (some ⟨Wb, 0, none⟩) :: x1 :: x2 :: .pointer (some ⟨B, 0, none⟩) :: x4 :: x5 :: x6 :: y7 :: y8 :: y9 :: y10 :: y11 :: y12 :: y13 :: y14 :: y15 :: y16 :: y17 :: y18 :: y19 :: y20 :: y21 :: y22 :: y23 :: y24 :: y25 :: y26 :: y27 :: y28 :: y29 :: y30 :: y31 :: y32 :: y33 :: y34 :: .bool false :: x36 :: x37 :: x38 :: x39 :: x40 :: x41 :: x42 :: x43 :: x44 :: x45 :: x46 :: x47 :: x48 :: x49 :: x50 :: x51 :: x52 :: x53 :: x54 :: x55 :: x56 :: x57 :: x58 :: x59 :: x60 :: x61 :: x62 :: x63 :: x64 :: x65 :: x66 :: x67 :: x68 :: x69 :: x70 :: x71 :: x72 :: x73 :: x74 :: x75 :: x76 :: x77 :: x78 :: x79 :: x80 :: x81 :: x82 :: x83 :: x84 :: x85 :: x86 :: x87 :: x88 :: x89 :: x90 :: x91 :: x92 :: x93 :: x94 :: x95 :: x96 :: x97 :: x98 :: []).toArray, defers := ds } w) (W : World) (h0 : S W) :
    (Code.region 1 #[{ dst := some 7, op := Op.fieldAddr 91 (Operand.tmp 3) 3, type := 0, pos := "walk.go:47", after := #[], guard := none },
    { dst := some 8, op := Op.load 3 (Operand.tmp 7), type := 3, pos := "walk.go:47", after := #[{ on := 0, ground := Ground.data }], guard := none },
    { dst := some 9, op := Op.binOp BinOp.eql 3 (Operand.tmp 8) (Operand.const (Value.int IntKind.i64 0)) 3, type := 4, pos := "walk.go:47", after := #[{ on := 1, ground := Ground.data }], guard := none },
    { dst := some 10, op := Op.move (Operand.tmp 9), type := 4, pos := "walk.go:47", after := #[{ on := 2, ground := Ground.data }], guard := none },
    { dst := some 11, op := Op.fieldAddr 91 (Operand.tmp 3) 2, type := 0, pos := "walk.go:47", after := #[{ on := 3, ground := Ground.guard }], guard := some (3, true) },
    { dst := some 12, op := Op.load 3 (Operand.tmp 11), type := 3, pos := "walk.go:47", after := #[{ on := 4, ground := Ground.data }, { on := 3, ground := Ground.guard }], guard := some (3, true) },
    { dst := some 13, op := Op.move (Operand.tmp 0), type := 86, pos := "walk.go:47", after := #[{ on := 3, ground := Ground.guard }], guard := some (3, true) },
    { dst := some 14, op := Op.nilCheck (Operand.tmp 13), type := 0, pos := "walk.go:47", after := #[{ on := 6, ground := Ground.data }, { on := 3, ground := Ground.guard }], guard := some (3, true) },
    { dst := some 15, op := Op.fieldAddr 88 (Operand.tmp 14) 0, type := 0, pos := "walk.go:47", after := #[{ on := 7, ground := Ground.data }, { on := 3, ground := Ground.guard }], guard := some (3, true) },
    { dst := some 16, op := Op.fieldAddr 37 (Operand.tmp 15) 4, type := 0, pos := "walk.go:47", after := #[{ on := 8, ground := Ground.data }, { on := 3, ground := Ground.guard }], guard := some (3, true) },
    { dst := some 17, op := Op.load 3 (Operand.tmp 16), type := 3, pos := "walk.go:47", after := #[{ on := 9, ground := Ground.data }, { on := 3, ground := Ground.guard }], guard := some (3, true) },
    { dst := some 18, op := Op.binOp BinOp.geq 3 (Operand.tmp 12) (Operand.tmp 17) 3, type := 4, pos := "walk.go:47", after := #[{ on := 5, ground := Ground.data }, { on := 10, ground := Ground.data }, { on := 3, ground := Ground.guard }], guard := some (3, true) },
    { dst := some 19, op := Op.pick (Operand.tmp 10) (Operand.tmp 18) (Operand.const (Value.bool false)), type := 4, pos := "walk.go:47", after := #[{ on := 3, ground := Ground.data }, { on := 11, ground := Ground.data }], guard := none },
    { dst := some 20, op := Op.move (Operand.tmp 19), type := 4, pos := "walk.go:47", after := #[{ on := 12, ground := Ground.data }, { on := 3, ground := Ground.chain }], guard := none },
    { dst := some 21, op := Op.move (Operand.tmp 0), type := 86, pos := "walk.go:47", after := #[{ on := 13, ground := Ground.guard }], guard := some (13, true) },
    { dst := some 22, op := Op.nilCheck (Operand.tmp 21), type := 0, pos := "walk.go:47", after := #[{ on := 14, ground := Ground.data }, { on := 13, ground := Ground.guard }], guard := some (13, true) },
    { dst := some 23, op := Op.fieldAddr 88 (Operand.tmp 22) 2, type := 0, pos := "walk.go:47", after := #[{ on := 15, ground := Ground.data }, { on := 13, ground := Ground.guard }], guard := some (13, true) },
    { dst := some 24, op := Op.load 32 (Operand.tmp 23), type := 32, pos := "walk.go:47", after := #[{ on := 16, ground := Ground.data }, { on := 13, ground := Ground.guard }], guard := some (13, true) },
    { dst := some 25, op := Op.move (Operand.tmp 0), type := 86, pos := "walk.go:47", after := #[{ on := 13, ground := Ground.guard }], guard := some (13, true) },
    { dst := some 26, op := Op.nilCheck (Operand.tmp 25), type := 0, pos := "walk.go:47", after := #[{ on := 18, ground := Ground.data }, { on := 13, ground := Ground.guard }], guard := some (13, true) },
    { dst := some 27, op := Op.fieldAddr 88 (Operand.tmp 26) 0, type := 0, pos := "walk.go:47", after := #[{ on := 19, ground := Ground.data }, { on := 13, ground := Ground.guard }], guard := some (13, true) },
    { dst := some 28, op := Op.fieldAddr 37 (Operand.tmp 27) 3, type := 0, pos := "walk.go:47", after := #[{ on := 20, ground := Ground.data }, { on := 13, ground := Ground.guard }], guard := some (13, true) },
    { dst := some 29, op := Op.load 22 (Operand.tmp 28), type := 22, pos := "walk.go:47", after := #[{ on := 21, ground := Ground.data }, { on := 13, ground := Ground.guard }], guard := some (13, true) },
    { dst := some 30, op := Op.fieldAddr 91 (Operand.tmp 3) 0, type := 0, pos := "walk.go:47", after := #[{ on := 13, ground := Ground.guard }], guard := some (13, true) },
    { dst := some 31, op := Op.load 62 (Operand.tmp 30), type := 62, pos := "walk.go:47", after := #[{ on := 23, ground := Ground.data }, { on := 13, ground := Ground.guard }], guard := some (13, true) },
    { dst := some 32, op := Op.call { callee := Callee.value (Operand.func 62), args := #[Operand.tmp 29, Operand.tmp 31, Operand.const (Value.bool true)], argTypes := #[22, 62, 4] }, type := 22, pos := "walk.go:47", after := #[{ on := 22, ground := Ground.data }, { on := 24, ground := Ground.data }, { on := 13, ground := Ground.chain }, { on := 13, ground := Ground.guard }], guard := some (13, true) },
    { dst := some 33, op := Op.call { callee := Callee.value (Operand.tmp 24), args := #[Operand.tmp 32], argTypes := #[22] }, type := 4, pos := "walk.go:47", after := #[{ on := 17, ground := Ground.data }, { on := 25, ground := Ground.data }, { on := 25, ground := Ground.chain }, { on := 13, ground := Ground.guard }], guard := some (13, true) },
    { dst := some 34, op := Op.unOp UnOp.not 4 (Operand.tmp 33), type := 4, pos := "walk.go:47", after := #[{ on := 26, ground := Ground.data }, { on := 13, ground := Ground.guard }], guard := some (13, true) },
    { dst := some 35, op := Op.pick (Operand.tmp 20) (Operand.tmp 34) (Operand.const (Value.bool false)), type := 4, pos := "walk.go:47", after := #[{ on := 13, ground := Ground.data }, { on := 27, ground := Ground.data }], guard := none }] true).wpIn Fence.wide n Tryz.prog Q { tmps := (.pointer (some ⟨Wb, 0, none⟩) :: x1 :: x2 :: .pointer (some ⟨B, 0, none⟩) :: x4 :: x5 :: x6 :: x7 :: x8 :: x9 :: x10 :: x11 :: x12 :: x13 :: x14 :: x15 :: x16 :: x17 :: x18 :: x19 :: x20 :: x21 :: x22 :: x23 :: x24 :: x25 :: x26 :: x27 :: x28 :: x29 :: x30 :: x31 :: x32 :: x33 :: x34 :: x35 :: x36 :: x37 :: x38 :: x39 :: x40 :: x41 :: x42 :: x43 :: x44 :: x45 :: x46 :: x47 :: x48 :: x49 :: x50 :: x51 :: x52 :: x53 :: x54 :: x55 :: x56 :: x57 :: x58 :: x59 :: x60 :: x61 :: x62 :: x63 :: x64 :: x65 :: x66 :: x67 :: x68 :: x69 :: x70 :: x71 :: x72 :: x73 :: x74 :: x75 :: x76 :: x77 :: x78 :: x79 :: x80 :: x81 :: x82 :: x83 :: x84 :: x85 :: x86 :: x87 :: x88 :: x89 :: x90 :: x91 :: x92 :: x93 :: x94 :: x95 :: x96 :: x97 :: x98 :: []).toArray, defers := ds } W := by
  refine region_heldIn S (by kernel_rfl) ?_
  have hHeld : S { W with drawn := W.drawn + 1 } := hSb _ _ h0 (Below.drew (Below.refl _ W))
  generalize { W with drawn := W.drawn + 1 } = W0 at hHeld ⊢
  clear h0 W
  refine anyH_take (i := 0) (oi := { dst := some 7, op := Op.fieldAddr 91 (Operand.tmp 3) 3, type := 0, pos := "walk.go:47", after := #[], guard := none }) (v := ?_) (fun _ => trivial) rfl rfl (by kernel_rfl) (by kernel_rfl) (by kernel_rfl) (fun c a w h => hQ c a _ _ w h) (Or.inl ⟨by rfl, ?_⟩) hHeld ?_
  rotate_left
  · intro w hSw; have hSw := hS w hSw;  go_simp <;> with_reducible rfl
  simp only [Act.put, List.setIfInBounds_toArray, List.set_cons_zero, List.set_cons_succ]
  refine anyH_take (i := 1) (oi := { dst := some 8, op := Op.load 3 (Operand.tmp 7), type := 3, pos := "walk.go:47", after := #[{ on := 0, ground := Ground.data }], guard := none }) (v := ?_) (fun _ => trivial) rfl rfl (by kernel_rfl) (by kernel_rfl) (by kernel_rfl) (fun c a w h => hQ c a _ _ w h) (Or.inl ⟨by rfl, ?_⟩) hHeld ?_
  rotate_left
  · intro w hSw; have hSw := hS w hSw;  go_simp <;> with_reducible rfl
  simp only [Act.put, List.setIfInBounds_toArray, List.set_cons_zero, List.set_cons_succ]
  refine anyH_take (i := 2) (oi := { dst := some 9, op := Op.binOp BinOp.eql 3 (Operand.tmp 8) (Operand.const (Value.int IntKind.i64 0)) 3, type := 4, pos := "walk.go:47", after := #[{ on := 1, ground := Ground.data }], guard := none }) (v := ?_) (fun _ => trivial) rfl rfl (by kernel_rfl) (by kernel_rfl) (by kernel_rfl) (fun c a w h => hQ c a _ _ w h) (Or.inl ⟨by rfl, ?_⟩) hHeld ?_
  rotate_left
  · intro w hSw; have hSw := hS w hSw;  go_simp <;> with_reducible rfl
  simp only [Act.put, List.setIfInBounds_toArray, List.set_cons_zero, List.set_cons_succ]
  refine anyH_take (i := 3) (oi := { dst := some 10, op := Op.move (Operand.tmp 9), type := 4, pos := "walk.go:47", after := #[{ on := 2, ground := Ground.data }], guard := none }) (v := ?_) (fun _ => trivial) rfl rfl (by kernel_rfl) (by kernel_rfl) (by kernel_rfl) (fun c a w h => hQ c a _ _ w h) (Or.inl ⟨by rfl, ?_⟩) hHeld ?_
  rotate_left
  · intro w hSw; have hSw := hS w hSw;  go_simp <;> with_reducible rfl
  simp only [Act.put, List.setIfInBounds_toArray, List.set_cons_zero, List.set_cons_succ]
  refine anyH_take (i := 4) (oi := { dst := some 11, op := Op.fieldAddr 91 (Operand.tmp 3) 2, type := 0, pos := "walk.go:47", after := #[{ on := 3, ground := Ground.guard }], guard := some (3, true) }) (v := undef) (fun _ => trivial) rfl rfl (by kernel_rfl) (by kernel_rfl) (by kernel_rfl) (fun c a w h => hQ c a _ _ w h) (Or.inr ⟨by rfl, rfl⟩) hHeld ?_
  simp only [Act.put, List.setIfInBounds_toArray, List.set_cons_zero, List.set_cons_succ]
  refine anyH_take (i := 5) (oi := { dst := some 12, op := Op.load 3 (Operand.tmp 11), type := 3, pos := "walk.go:47", after := #[{ on := 4, ground := Ground.data }, { on := 3, ground := Ground.guard }], guard := some (3, true) }) (v := undef) (fun _ => trivial) rfl rfl (by kernel_rfl) (by kernel_rfl) (by kernel_rfl) (fun c a w h => hQ c a _ _ w h) (Or.inr ⟨by rfl, rfl⟩) hHeld ?_
  simp only [Act.put, List.setIfInBounds_toArray, List.set_cons_zero, List.set_cons_succ]
  refine anyH_take (i := 6) (oi := { dst := some 13, op := Op.move (Operand.tmp 0), type := 86, pos := "walk.go:47", after := #[{ on := 3, ground := Ground.guard }], guard := some (3, true) }) (v := undef) (fun _ => trivial) rfl rfl (by kernel_rfl) (by kernel_rfl) (by kernel_rfl) (fun c a w h => hQ c a _ _ w h) (Or.inr ⟨by rfl, rfl⟩) hHeld ?_
  simp only [Act.put, List.setIfInBounds_toArray, List.set_cons_zero, List.set_cons_succ]
  refine anyH_take (i := 7) (oi := { dst := some 14, op := Op.nilCheck (Operand.tmp 13), type := 0, pos := "walk.go:47", after := #[{ on := 6, ground := Ground.data }, { on := 3, ground := Ground.guard }], guard := some (3, true) }) (v := undef) (fun _ => trivial) rfl rfl (by kernel_rfl) (by kernel_rfl) (by kernel_rfl) (fun c a w h => hQ c a _ _ w h) (Or.inr ⟨by rfl, rfl⟩) hHeld ?_
  simp only [Act.put, List.setIfInBounds_toArray, List.set_cons_zero, List.set_cons_succ]
  refine anyH_take (i := 8) (oi := { dst := some 15, op := Op.fieldAddr 88 (Operand.tmp 14) 0, type := 0, pos := "walk.go:47", after := #[{ on := 7, ground := Ground.data }, { on := 3, ground := Ground.guard }], guard := some (3, true) }) (v := undef) (fun _ => trivial) rfl rfl (by kernel_rfl) (by kernel_rfl) (by kernel_rfl) (fun c a w h => hQ c a _ _ w h) (Or.inr ⟨by rfl, rfl⟩) hHeld ?_
  simp only [Act.put, List.setIfInBounds_toArray, List.set_cons_zero, List.set_cons_succ]
  refine anyH_take (i := 9) (oi := { dst := some 16, op := Op.fieldAddr 37 (Operand.tmp 15) 4, type := 0, pos := "walk.go:47", after := #[{ on := 8, ground := Ground.data }, { on := 3, ground := Ground.guard }], guard := some (3, true) }) (v := undef) (fun _ => trivial) rfl rfl (by kernel_rfl) (by kernel_rfl) (by kernel_rfl) (fun c a w h => hQ c a _ _ w h) (Or.inr ⟨by rfl, rfl⟩) hHeld ?_
  simp only [Act.put, List.setIfInBounds_toArray, List.set_cons_zero, List.set_cons_succ]
  refine anyH_take (i := 10) (oi := { dst := some 17, op := Op.load 3 (Operand.tmp 16), type := 3, pos := "walk.go:47", after := #[{ on := 9, ground := Ground.data }, { on := 3, ground := Ground.guard }], guard := some (3, true) }) (v := undef) (fun _ => trivial) rfl rfl (by kernel_rfl) (by kernel_rfl) (by kernel_rfl) (fun c a w h => hQ c a _ _ w h) (Or.inr ⟨by rfl, rfl⟩) hHeld ?_
  simp only [Act.put, List.setIfInBounds_toArray, List.set_cons_zero, List.set_cons_succ]
  refine anyH_take (i := 11) (oi := { dst := some 18, op := Op.binOp BinOp.geq 3 (Operand.tmp 12) (Operand.tmp 17) 3, type := 4, pos := "walk.go:47", after := #[{ on := 5, ground := Ground.data }, { on := 10, ground := Ground.data }, { on := 3, ground := Ground.guard }], guard := some (3, true) }) (v := undef) (fun _ => trivial) rfl rfl (by kernel_rfl) (by kernel_rfl) (by kernel_rfl) (fun c a w h => hQ c a _ _ w h) (Or.inr ⟨by rfl, rfl⟩) hHeld ?_
  simp only [Act.put, List.setIfInBounds_toArray, List.set_cons_zero, List.set_cons_succ]
  refine anyH_take (i := 12) (oi := { dst := some 19, op := Op.pick (Operand.tmp 10) (Operand.tmp 18) (Operand.const (Value.bool false)), type := 4, pos := "walk.go:47", after := #[{ on := 3, ground := Ground.data }, { on := 11, ground := Ground.data }], guard := none }) (v := ?_) (fun _ => trivial) rfl rfl (by kernel_rfl) (by kernel_rfl) (by kernel_rfl) (fun c a w h => hQ c a _ _ w h) (Or.inl ⟨by rfl, ?_⟩) hHeld ?_
  rotate_left
  · intro w hSw; have hSw := hS w hSw;  go_simp <;> with_reducible rfl
  simp only [Act.put, List.setIfInBounds_toArray, List.set_cons_zero, List.set_cons_succ]
  refine anyH_take (i := 13) (oi := { dst := some 20, op := Op.move (Operand.tmp 19), type := 4, pos := "walk.go:47", after := #[{ on := 12, ground := Ground.data }, { on := 3, ground := Ground.chain }], guard := none }) (v := ?_) (fun _ => trivial) rfl rfl (by kernel_rfl) (by kernel_rfl) (by kernel_rfl) (fun c a w h => hQ c a _ _ w h) (Or.inl ⟨by rfl, ?_⟩) hHeld ?_
  rotate_left
  · intro w hSw; have hSw := hS w hSw;  go_simp <;> with_reducible rfl
  simp only [Act.put, List.setIfInBounds_toArray, List.set_cons_zero, List.set_cons_succ]
  refine anyH_take (i := 14) (oi := { dst := some 21, op := Op.move (Operand.tmp 0), type := 86, pos := "walk.go:47", after := #[{ on := 13, ground := Ground.guard }], guard := some (13, true) }) (v := undef) (fun _ => trivial) rfl rfl (by kernel_rfl) (by kernel_rfl) (by kernel_rfl) (fun c a w h => hQ c a _ _ w h) (Or.inr ⟨by rfl, rfl⟩) hHeld ?_
  simp only [Act.put, List.setIfInBounds_toArray, List.set_cons_zero, List.set_cons_succ]
  refine anyH_take (i := 15) (oi := { dst := some 22, op := Op.nilCheck (Operand.tmp 21), type := 0, pos := "walk.go:47", after := #[{ on := 14, ground := Ground.data }, { on := 13, ground := Ground.guard }], guard := some (13, true) }) (v := undef) (fun _ => trivial) rfl rfl (by kernel_rfl) (by kernel_rfl) (by kernel_rfl) (fun c a w h => hQ c a _ _ w h) (Or.inr ⟨by rfl, rfl⟩) hHeld ?_
  simp only [Act.put, List.setIfInBounds_toArray, List.set_cons_zero, List.set_cons_succ]
  refine anyH_take (i := 16) (oi := { dst := some 23, op := Op.fieldAddr 88 (Operand.tmp 22) 2, type := 0, pos := "walk.go:47", after := #[{ on := 15, ground := Ground.data }, { on := 13, ground := Ground.guard }], guard := some (13, true) }) (v := undef) (fun _ => trivial) rfl rfl (by kernel_rfl) (by kernel_rfl) (by kernel_rfl) (fun c a w h => hQ c a _ _ w h) (Or.inr ⟨by rfl, rfl⟩) hHeld ?_
  simp only [Act.put, List.setIfInBounds_toArray, List.set_cons_zero, List.set_cons_succ]
  refine anyH_take (i := 17) (oi := { dst := some 24, op := Op.load 32 (Operand.tmp 23), type := 32, pos := "walk.go:47", after := #[{ on := 16, ground := Ground.data }, { on := 13, ground := Ground.guard }], guard := some (13, true) }) (v := undef) (fun _ => trivial) rfl rfl (by kernel_rfl) (by kernel_rfl) (by kernel_rfl) (fun c a w h => hQ c a _ _ w h) (Or.inr ⟨by rfl, rfl⟩) hHeld ?_
  simp only [Act.put, List.setIfInBounds_toArray, List.set_cons_zero, List.set_cons_succ]
  refine anyH_take (i := 18) (oi := { dst := some 25, op := Op.move (Operand.tmp 0), type := 86, pos := "walk.go:47", after := #[{ on := 13, ground := Ground.guard }], guard := some (13, true) }) (v := undef) (fun _ => trivial) rfl rfl (by kernel_rfl) (by kernel_rfl) (by kernel_rfl) (fun c a w h => hQ c a _ _ w h) (Or.inr ⟨by rfl, rfl⟩) hHeld ?_
  simp only [Act.put, List.setIfInBounds_toArray, List.set_cons_zero, List.set_cons_succ]
  refine anyH_take (i := 19) (oi := { dst := some 26, op := Op.nilCheck (Operand.tmp 25), type := 0, pos := "walk.go:47", after := #[{ on := 18, ground := Ground.data }, { on := 13, ground := Ground.guard }], guard := some (13, true) }) (v := undef) (fun _ => trivial) rfl rfl (by kernel_rfl) (by kernel_rfl) (by kernel_rfl) (fun c a w h => hQ c a _ _ w h) (Or.inr ⟨by rfl, rfl⟩) hHeld ?_
  simp only [Act.put, List.setIfInBounds_toArray, List.set_cons_zero, List.set_cons_succ]
  refine anyH_take (i := 20) (oi := { dst := some 27, op := Op.fieldAddr 88 (Operand.tmp 26) 0, type := 0, pos := "walk.go:47", after := #[{ on := 19, ground := Ground.data }, { on := 13, ground := Ground.guard }], guard := some (13, true) }) (v := undef) (fun _ => trivial) rfl rfl (by kernel_rfl) (by kernel_rfl) (by kernel_rfl) (fun c a w h => hQ c a _ _ w h) (Or.inr ⟨by rfl, rfl⟩) hHeld ?_
  simp only [Act.put, List.setIfInBounds_toArray, List.set_cons_zero, List.set_cons_succ]
  refine anyH_take (i := 21) (oi := { dst := some 28, op := Op.fieldAddr 37 (Operand.tmp 27) 3, type := 0, pos := "walk.go:47", after := #[{ on := 20, ground := Ground.data }, { on := 13, ground := Ground.guard }], guard := some (13, true) }) (v := undef) (fun _ => trivial) rfl rfl (by kernel_rfl) (by kernel_rfl) (by kernel_rfl) (fun c a w h => hQ c a _ _ w h) (Or.inr ⟨by rfl, rfl⟩) hHeld ?_
  simp only [Act.put, List.setIfInBounds_toArray, List.set_cons_zero, List.set_cons_succ]
  refine anyH_take (i := 22) (oi := { dst := some 29, op := Op.load 22 (Operand.tmp 28), type := 22, pos := "walk.go:47", after := #[{ on := 21, ground := Ground.data }, { on := 13, ground := Ground.guard }], guard := some (13, true) }) (v := undef) (fun _ => trivial) rfl rfl (by kernel_rfl) (by kernel_rfl) (by kernel_rfl) (fun c a w h => hQ c a _ _ w h) (Or.inr ⟨by rfl, rfl⟩) hHeld ?_
  simp only [Act.put, List.setIfInBounds_toArray, List.set_cons_zero, List.set_cons_succ]
  refine anyH_take (i := 23) (oi := { dst := some 30, op := Op.fieldAddr 91 (Operand.tmp 3) 0, type := 0, pos := "walk.go:47", after := #[{ on := 13, ground := Ground.guard }], guard := some (13, true) }) (v := undef) (fun _ => trivial) rfl rfl (by kernel_rfl) (by kernel_rfl) (by kernel_rfl) (fun c a w h => hQ c a _ _ w h) (Or.inr ⟨by rfl, rfl⟩) hHeld ?_
  simp only [Act.put, List.setIfInBounds_toArray, List.set_cons_zero, List.set_cons_succ]
  refine anyH_take (i := 24) (oi := { dst := some 31, op := Op.load 62 (Operand.tmp 30), type := 62, pos := "walk.go:47", after := #[{ on := 23, ground := Ground.data }, { on := 13, ground := Ground.guard }], guard := some (13, true) }) (v := undef) (fun _ => trivial) rfl rfl (by kernel_rfl) (by kernel_rfl) (by kernel_rfl) (fun c a w h => hQ c a _ _ w h) (Or.inr ⟨by rfl, rfl⟩) hHeld ?_
  simp only [Act.put, List.setIfInBounds_toArray, List.set_cons_zero, List.set_cons_succ]
  refine anyH_take (i := 25) (oi := { dst := some 32, op := Op.call { callee := Callee.value (Operand.func 62), args := #[Operand.tmp 29, Operand.tmp 31, Operand.const (Value.bool true)], argTypes := #[22, 62, 4] }, type := 22, pos := "walk.go:47", after := #[{ on := 22, ground := Ground.data }, { on := 24, ground := Ground.data }, { on := 13, ground := Ground.chain }, { on := 13, ground := Ground.guard }], guard := some (13, true) }) (v := undef) (fun _ => trivial) rfl rfl (by kernel_rfl) (by kernel_rfl) (by kernel_rfl) (fun c a w h => hQ c a _ _ w h) (Or.inr ⟨by rfl, rfl⟩) hHeld ?_
  simp only [Act.put, List.setIfInBounds_toArray, List.set_cons_zero, List.set_cons_succ]
  refine anyH_take (i := 26) (oi := { dst := some 33, op := Op.call { callee := Callee.value (Operand.tmp 24), args := #[Operand.tmp 32], argTypes := #[22] }, type := 4, pos := "walk.go:47", after := #[{ on := 17, ground := Ground.data }, { on := 25, ground := Ground.data }, { on := 25, ground := Ground.chain }, { on := 13, ground := Ground.guard }], guard := some (13, true) }) (v := undef) (fun _ => trivial) rfl rfl (by kernel_rfl) (by kernel_rfl) (by kernel_rfl) (fun c a w h => hQ c a _ _ w h) (Or.inr ⟨by rfl, rfl⟩) hHeld ?_
  simp only [Act.put, List.setIfInBounds_toArray, List.set_cons_zero, List.set_cons_succ]
  refine anyH_take (i := 27) (oi := { dst := some 34, op := Op.unOp UnOp.not 4 (Operand.tmp 33), type := 4, pos := "walk.go:47", after := #[{ on := 26, ground := Ground.data }, { on := 13, ground := Ground.guard }], guard := some (13, true) }) (v := undef) (fun _ => trivial) rfl rfl (by kernel_rfl) (by kernel_rfl) (by kernel_rfl) (fun c a w h => hQ c a _ _ w h) (Or.inr ⟨by rfl, rfl⟩) hHeld ?_
  simp only [Act.put, List.setIfInBounds_toArray, List.set_cons_zero, List.set_cons_succ]
  refine anyH_take (i := 28) (oi := { dst := some 35, op := Op.pick (Operand.tmp 20) (Operand.tmp 34) (Operand.const (Value.bool false)), type := 4, pos := "walk.go:47", after := #[{ on := 13, ground := Ground.data }, { on := 27, ground := Ground.data }], guard := none }) (v := ?_) (fun _ => trivial) rfl rfl (by kernel_rfl) (by kernel_rfl) (by kernel_rfl) (fun c a w h => hQ c a _ _ w h) (Or.inl ⟨by rfl, ?_⟩) hHeld ?_
  rotate_left
  · intro w hSw; have hSw := hS w hSw;  go_simp <;> with_reducible rfl
  simp only [Act.put, List.setIfInBounds_toArray, List.set_cons_zero, List.set_cons_succ]
  exact anyH_done (by kernel_rfl) (hN W0 _ _ _ _ _ _ _ _ _ _ _ _ _ _ _ _ _ _ _ _ _ _ _ _ _ _ _ _ hHeld) _

set_option maxRecDepth 100000 in
set_option maxHeartbeats 4000000 in
theorem r1_no2 (n Wb B : Nat) (have_ least : Int) (hlt : ¬ least ≤ have_)  (S : World → Prop)
    (hS : ∀ w, S w → w.cell? ⟨B, 66, none⟩ = some (.int .i64 0) ∧ w.cell? ⟨B, 65, none⟩ = some (.int .i64 have_) ∧ w.cell? ⟨Wb, 4, none⟩ = some (.int .i64 least))
    (hSb : ∀ w w', S w → Below w.heap.size w w' → S w')
    (Q : Exit → Act → World → Prop) (hQ : ∀ c (a : Act) d v w, Q (.panic c) (a.put d v) w → Q (.panic c) a w) (x1 x2 x4 x5 x6 x7 x8 x9 x10 x11 x12 x13 x14 x15 x16 x17 x18 x19 x20 x21 x22 x23 x24 x25 x26 x27 x28 x29 x30 x31 x32 x33 x34 x35 x36 x37 x38 x39 x40 x41 x42 x43 x44 x45 x46 x47 x48 x49 x50 x51 x52 x53 x54 x55 x56 x57 x58 x59 x60 x61 x62 x63 x64 x65 x66 x67 x68 x69 x70 x71 x72 x73 x74 x75 x76 x77 x78 x79 x80 x81 x82 x83 x84 x85 x86 x87 x88 x89 x90 x91 x92 x93 x94 x95 x96 x97 x98 : Value) (ds : List Deferred)
    (hN : ∀ w (y7 y8 y9 y10 y11 y12 y13 y14 y15 y16 y17 y18 y19 y20 y21 y22 y23 y24 y25 y26 y27 y28 y29 y30 y31 y32 y33 y34 : Value), S w → Q .normal { tmps := (.pointer (some ⟨Wb, 0, none⟩) :: x1 :: x2 :: .pointer (some ⟨B, 0, none⟩) :: x4 :: x5 :: x6 :: y7 :: y8 :: y9 :: y10 :: y11 :: y12 :: y13 :: y14 :: y15 :: y16 :: y17 :: y18 :: y19 :: y20 :: y21 :: y22 :: y23 :: y24 :: y25 :: y26 :: y27 :: y28 :: y29 :: y30 :: y31 :: y32 :: y33 :: y34 :: .bool false :: x36 :: x37 :: x38 :: x39 :: x40 :: x41 :: x42 :: x43 :: x44 :: x45 :: x46 :: x47 :: x48 :: x49 :: x50 :: x51 :: x52 :: x53 :: x54 :: x55 :: x56 :: x57 :: x58 :: x59 :: x60 :: x61 :: x62 :: x63 :: x64 :: x65 :: x66 :: x67 :: x68 :: x69 :: x70 :: x71 :: x72 :: x73 :: x74 :: x75 :: x76 :: x77 :: x78 :: x79 :: x80 :: x81 :: x82 :: x83 :: x84 :: x85 :: x86 :: x87 :: x88 :: x89 :: x90 :: x91 :: x92 :: x93 :: x94 :: x95 :: x96 :: x97 :: x98 :: []).toArray, defers := ds } w) (W : World) (h0 : S W) :
    (Code.region 1 #[{ dst := some 7, op := Op.fieldAddr 91 (Operand.tmp 3) 3, type := 0, pos := "walk.go:47", after := #[], guard := none },
    { dst := some 8, op := Op.load 3 (Operand.tmp 7), type := 3, pos := "walk.go:47", after := #[{ on := 0, ground := Ground.data }], guard := none },
    { dst := some 9, op := Op.binOp BinOp.eql 3 (Operand.tmp 8) (Operand.const (Value.int IntKind.i64 0)) 3, type := 4, pos := "walk.go:47", after := #[{ on := 1, ground := Ground.data }], guard := none },
    { dst := some 10, op := Op.move (Operand.tmp 9), type := 4, pos := "walk.go:47", after := #[{ on := 2, ground := Ground.data }], guard := none },
    { dst := some 11, op := Op.fieldAddr 91 (Operand.tmp 3) 2, type := 0, pos := "walk.go:47", after := #[{ on := 3, ground := Ground.guard }], guard := some (3, true) },
    { dst := some 12, op := Op.load 3 (Operand.tmp 11), type := 3, pos := "walk.go:47", after := #[{ on := 4, ground := Ground.data }, { on := 3, ground := Ground.guard }], guard := some (3, true) },
    { dst := some 13, op := Op.move (Operand.tmp 0), type := 86, pos := "walk.go:47", after := #[{ on := 3, ground := Ground.guard }], guard := some (3, true) },
    { dst := some 14, op := Op.nilCheck (Operand.tmp 13), type := 0, pos := "walk.go:47", after := #[{ on := 6, ground := Ground.data }, { on := 3, ground := Ground.guard }], guard := some (3, true) },
    { dst := some 15, op := Op.fieldAddr 88 (Operand.tmp 14) 0, type := 0, pos := "walk.go:47", after := #[{ on := 7, ground := Ground.data }, { on := 3, ground := Ground.guard }], guard := some (3, true) },
    { dst := some 16, op := Op.fieldAddr 37 (Operand.tmp 15) 4, type := 0, pos := "walk.go:47", after := #[{ on := 8, ground := Ground.data }, { on := 3, ground := Ground.guard }], guard := some (3, true) },
    { dst := some 17, op := Op.load 3 (Operand.tmp 16), type := 3, pos := "walk.go:47", after := #[{ on := 9, ground := Ground.data }, { on := 3, ground := Ground.guard }], guard := some (3, true) },
    { dst := some 18, op := Op.binOp BinOp.geq 3 (Operand.tmp 12) (Operand.tmp 17) 3, type := 4, pos := "walk.go:47", after := #[{ on := 5, ground := Ground.data }, { on := 10, ground := Ground.data }, { on := 3, ground := Ground.guard }], guard := some (3, true) },
    { dst := some 19, op := Op.pick (Operand.tmp 10) (Operand.tmp 18) (Operand.const (Value.bool false)), type := 4, pos := "walk.go:47", after := #[{ on := 3, ground := Ground.data }, { on := 11, ground := Ground.data }], guard := none },
    { dst := some 20, op := Op.move (Operand.tmp 19), type := 4, pos := "walk.go:47", after := #[{ on := 12, ground := Ground.data }, { on := 3, ground := Ground.chain }], guard := none },
    { dst := some 21, op := Op.move (Operand.tmp 0), type := 86, pos := "walk.go:47", after := #[{ on := 13, ground := Ground.guard }], guard := some (13, true) },
    { dst := some 22, op := Op.nilCheck (Operand.tmp 21), type := 0, pos := "walk.go:47", after := #[{ on := 14, ground := Ground.data }, { on := 13, ground := Ground.guard }], guard := some (13, true) },
    { dst := some 23, op := Op.fieldAddr 88 (Operand.tmp 22) 2, type := 0, pos := "walk.go:47", after := #[{ on := 15, ground := Ground.data }, { on := 13, ground := Ground.guard }], guard := some (13, true) },
    { dst := some 24, op := Op.load 32 (Operand.tmp 23), type := 32, pos := "walk.go:47", after := #[{ on := 16, ground := Ground.data }, { on := 13, ground := Ground.guard }], guard := some (13, true) },
    { dst := some 25, op := Op.move (Operand.tmp 0), type := 86, pos := "walk.go:47", after := #[{ on := 13, ground := Ground.guard }], guard := some (13, true) },
    { dst := some 26, op := Op.nilCheck (Operand.tmp 25), type := 0, pos := "walk.go:47", after := #[{ on := 18, ground := Ground.data }, { on := 13, ground := Ground.guard }], guard := some (13, true) },
    { dst := some 27, op := Op.fieldAddr 88 (Operand.tmp 26) 0, type := 0, pos := "walk.go:47", after := #[{ on := 19, ground := Ground.data }, { on := 13, ground := Ground.guard }], guard := some (13, true) },
    { dst := some 28, op := Op.fieldAddr 37 (Operand.tmp 27) 3, type := 0, pos := "walk.go:47", after := #[{ on := 20, ground := Ground.data }, { on := 13, ground := Ground.guard }], guard := some (13, true) },
    { dst := some 29, op := Op.load 22 (Operand.tmp 28), type := 22, pos := "walk.go:47", after := #[{ on := 21, ground := Ground.data }, { on := 13, ground := Ground.guard }], guard := some (13, true) },
    { dst := some 30, op := Op.fieldAddr 91 (Operand.tmp 3) 0, type := 0, pos := "walk.go:47", after := #[{ on := 13, ground := Ground.guard }], guard := some (13, true) },
    { dst := some 31, op := Op.load 62 (Operand.tmp 30), type := 62, pos := "walk.go:47", after := #[{ on := 23, ground := Ground.data }, { on := 13, ground := Ground.guard }], guard := some (13, true) },
    { dst := some 32, op := Op.call { callee := Callee.value (Operand.func 62), args := #[Operand.tmp 29, Operand.tmp 31, Operand.const (Value.bool true)], argTypes := #[22, 62, 4] }, type := 22, pos := "walk.go:47", after := #[{ on := 22, ground := Ground.data }, { on := 24, ground := Ground.data }, { on := 13, ground := Ground.chain }, { on := 13, ground := Ground.guard }], guard := some (13, true) },
    { dst := some 33, op := Op.call { callee := Callee.value (Operand.tmp 24), args := #[Operand.tmp 32], argTypes := #[22] }, type := 4, pos := "walk.go:47", after := #[{ on := 17, ground := Ground.data }, { on := 25, ground := Ground.data }, { on := 25, ground := Ground.chain }, { on := 13, ground := Ground.guard }], guard := some (13, true) },
    { dst := some 34, op := Op.unOp UnOp.not 4 (Operand.tmp 33), type := 4, pos := "walk.go:47", after := #[{ on := 26, ground := Ground.data }, { on := 13, ground := Ground.guard }], guard := some (13, true) },
    { dst := some 35, op := Op.pick (Operand.tmp 20) (Operand.tmp 34) (Operand.const (Value.bool false)), type := 4, pos := "walk.go:47", after := #[{ on := 13, ground := Ground.data }, { on := 27, ground := Ground.data }], guard := none }] true).wpIn Fence.wide n Tryz.prog Q { tmps := (.pointer (some ⟨Wb, 0, none⟩) :: x1 :: x2 :: .pointer (some ⟨B, 0, none⟩) :: x4 :: x5 :: x6 :: x7 :: x8 :: x9 :: x10 :: x11 :: x12 :: x13 :: x14 :: x15 :: x16 :: x17 :: x18 :: x19 :: x20 :: x21 :: x22 :: x23 :: x24 :: x25 :: x26 :: x27 :: x28 :: x29 :: x30 :: x31 :: x32 :: x33 :: x34 :: x35 :: x36 :: x37 :: x38 :: x39 :: x40 :: x41 :: x42 :: x43 :: x44 :: x45 :: x46 :: x47 :: x48 :: x49 :: x50 :: x51 :: x52 :: x53 :: x54 :: x55 :: x56 :: x57 :: x58 :: x59 :: x60 :: x61 :: x62 :: x63 :: x64 :: x65 :: x66 :: x67 :: x68 :: x69 :: x70 :: x71 :: x72 :: x73 :: x74 :: x75 :: x76 :: x77 :: x78 :: x79 :: x80 :: x81 :: x82 :: x83 :: x84 :: x85 :: x86 :: x87 :: x88 :: x89 :: x90 :: x91 :: x92 :: x93 :: x94 :: x95 :: x96 :: x97 :: x98 :: []).toArray, defers := ds } W := by
  refine region_heldIn S (by kernel_rfl) ?_
  have hHeld : S { W with drawn := W.drawn + 1 } := hSb _ _ h0 (Below.drew (Below.refl _ W))
  generalize { W with drawn := W.drawn + 1 } = W0 at hHeld ⊢
  clear h0 W
  refine anyH_take (i := 0) (oi := { dst := some 7, op := Op.fieldAddr 91 (Operand.tmp 3) 3, type := 0, pos := "walk.go:47", after := #[], guard := none }) (v := ?_) (fun _ => trivial) rfl rfl (by kernel_rfl) (by kernel_rfl) (by kernel_rfl) (fun c a w h => hQ c a _ _ w h) (Or.inl ⟨by rfl, ?_⟩) hHeld ?_
  rotate_left
  · intro w hSw; have hSw := hS w hSw;  go_simp <;> with_reducible rfl
  simp only [Act.put, List.setIfInBounds_toArray, List.set_cons_zero, List.set_cons_succ]
  refine anyH_take (i := 1) (oi := { dst := some 8, op := Op.load 3 (Operand.tmp 7), type := 3, pos := "walk.go:47", after := #[{ on := 0, ground := Ground.data }], guard := none }) (v := ?_) (fun _ => trivial) rfl rfl (by kernel_rfl) (by kernel_rfl) (by kernel_rfl) (fun c a w h => hQ c a _ _ w h) (Or.inl ⟨by rfl, ?_⟩) hHeld ?_
  rotate_left
  · intro w hSw; have hSw := hS w hSw;  go_simp <;> with_reducible rfl
  simp only [Act.put, List.setIfInBounds_toArray, List.set_cons_zero, List.set_cons_succ]
  refine anyH_take (i := 2) (oi := { dst := some 9, op := Op.binOp BinOp.eql 3 (Operand.tmp 8) (Operand.const (Value.int IntKind.i64 0)) 3, type := 4, pos := "walk.go:47", after := #[{ on := 1, ground := Ground.data }], guard := none }) (v := ?_) (fun _ => trivial) rfl rfl (by kernel_rfl) (by kernel_rfl) (by kernel_rfl) (fun c a w h => hQ c a _ _ w h) (Or.inl ⟨by rfl, ?_⟩) hHeld ?_
  rotate_left
  · intro w hSw; have hSw := hS w hSw;  go_simp <;> with_reducible rfl
  simp only [Act.put, List.setIfInBounds_toArray, List.set_cons_zero, List.set_cons_succ]
  refine anyH_take (i := 3) (oi := { dst := some 10, op := Op.move (Operand.tmp 9), type := 4, pos := "walk.go:47", after := #[{ on := 2, ground := Ground.data }], guard := none }) (v := ?_) (fun _ => trivial) rfl rfl (by kernel_rfl) (by kernel_rfl) (by kernel_rfl) (fun c a w h => hQ c a _ _ w h) (Or.inl ⟨by rfl, ?_⟩) hHeld ?_
  rotate_left
  · intro w hSw; have hSw := hS w hSw;  go_simp <;> with_reducible rfl
  simp only [Act.put, List.setIfInBounds_toArray, List.set_cons_zero, List.set_cons_succ]
  refine anyH_take (i := 4) (oi := { dst := some 11, op := Op.fieldAddr 91 (Operand.tmp 3) 2, type := 0, pos := "walk.go:47", after := #[{ on := 3, ground := Ground.guard }], guard := some (3, true) }) (v := ?_) (fun _ => trivial) rfl rfl (by kernel_rfl) (by kernel_rfl) (by kernel_rfl) (fun c a w h => hQ c a _ _ w h) (Or.inl ⟨by rfl, ?_⟩) hHeld ?_
  rotate_left
  · intro w hSw; have hSw := hS w hSw;  go_simp <;> with_reducible rfl
  simp only [Act.put, List.setIfInBounds_toArray, List.set_cons_zero, List.set_cons_succ]
  refine anyH_take (i := 5) (oi := { dst := some 12, op := Op.load 3 (Operand.tmp 11), type := 3, pos := "walk.go:47", after := #[{ on := 4, ground := Ground.data }, { on := 3, ground := Ground.guard }], guard := some (3, true) }) (v := ?_) (fun _ => trivial) rfl rfl (by kernel_rfl) (by kernel_rfl) (by kernel_rfl) (fun c a w h => hQ c a _ _ w h) (Or.inl ⟨by rfl, ?_⟩) hHeld ?_
  rotate_left
  · intro w hSw; have hSw := hS w hSw;  go_simp <;> with_reducible rfl
  simp only [Act.put, List.setIfInBounds_toArray, List.set_cons_zero, List.set_cons_succ]
  refine anyH_take (i := 6) (oi := { dst := some 13, op := Op.move (Operand.tmp 0), type := 86, pos := "walk.go:47", after := #[{ on := 3, ground := Ground.guard }], guard := some (3, true) }) (v := ?_) (fun _ => trivial) rfl rfl (by kernel_rfl) (by kernel_rfl) (by kernel_rfl) (fun c a w h => hQ c a _ _ w h) (Or.inl ⟨by rfl, ?_⟩) hHeld ?_
  rotate_left
  · intro w hSw; have hSw := hS w hSw;  go_simp <;> with_reducible rfl
  simp only [Act.put, List.setIfInBounds_toArray, List.set_cons_zero, List.set_cons_succ]
  refine anyH_take (i := 7) (oi := { dst := some 14, op := Op.nilCheck (Operand.tmp 13), type := 0, pos := "walk.go:47", after := #[{ on := 6, ground := Ground.data }, { on := 3, ground := Ground.guard }], guard := some (3, true) }) (v := ?_) (fun _ => trivial) rfl rfl (by kernel_rfl) (by kernel_rfl) (by kernel_rfl) (fun c a w h => hQ c a _ _ w h) (Or.inl ⟨by rfl, ?_⟩) hHeld ?_
  rotate_left
  · intro w hSw; have hSw := hS w hSw;  go_simp <;> with_reducible rfl
  simp only [Act.put, List.setIfInBounds_toArray, List.set_cons_zero, List.set_cons_succ]
  refine anyH_take (i := 8) (oi := { dst := some 15, op := Op.fieldAddr 88 (Operand.tmp 14) 0, type := 0, pos := "walk.go:47", after := #[{ on := 7, ground := Ground.data }, { on := 3, ground := Ground.guard }], guard := some (3, true) }) (v := ?_) (fun _ => trivial) rfl rfl (by kernel_rfl) (by kernel_rfl) (by kernel_rfl) (fun c a w h => hQ c a _ _ w h) (Or.inl ⟨by rfl, ?_⟩) hHeld ?_
  rotate_left
  · intro w hSw; have hSw := hS w hSw;  go_simp <;> with_reducible rfl
  simp only [Act.put, List.setIfInBounds_toArray, List.set_cons_zero, List.set_cons_succ]
  refine anyH_take (i := 9) (oi := { dst := some 16, op := Op.fieldAddr 37 (Operand.tmp 15) 4, type := 0, pos := "walk.go:47", after := #[{ on := 8, ground := Ground.data }, { on := 3, ground := Ground.guard }], guard := some (3, true) }) (v := ?_) (fun _ => trivial) rfl rfl (by kernel_rfl) (by kernel_rfl) (by kernel_rfl) (fun c a w h => hQ c a _ _ w h) (Or.inl ⟨by rfl, ?_⟩) hHeld ?_
  rotate_left
  · intro w hSw; have hSw := hS w hSw;  go_simp <;> with_reducible rfl
  simp only [Act.put, List.setIfInBounds_toArray, List.set_cons_zero, List.set_cons_succ]
  refine anyH_take (i := 10) (oi := { dst := some 17, op := Op.load 3 (Operand.tmp 16), type := 3, pos := "walk.go:47", after := #[{ on := 9, ground := Ground.data }, { on := 3, ground := Ground.guard }], guard := some (3, true) }) (v := ?_) (fun _ => trivial) rfl rfl (by kernel_rfl) (by kernel_rfl) (by kernel_rfl) (fun c a w h => hQ c a _ _ w h) (Or.inl ⟨by rfl, ?_⟩) hHeld ?_
  rotate_left
  · intro w hSw; have hSw := hS w hSw;  go_simp <;> with_reducible rfl
  simp only [Act.put, List.setIfInBounds_toArray, List.set_cons_zero, List.set_cons_succ]
  refine anyH_take (i := 11) (oi := { dst := some 18, op := Op.binOp BinOp.geq 3 (Operand.tmp 12) (Operand.tmp 17) 3, type := 4, pos := "walk.go:47", after := #[{ on := 5, ground := Ground.data }, { on := 10, ground := Ground.data }, { on := 3, ground := Ground.guard }], guard := some (3, true) }) (v := ?_) (fun _ => trivial) rfl rfl (by kernel_rfl) (by kernel_rfl) (by kernel_rfl) (fun c a w h => hQ c a _ _ w h) (Or.inl ⟨by rfl, ?_⟩) hHeld ?_
  rotate_left
  · intro w hSw; have hSw := hS w hSw;  go_simp <;> with_reducible rfl
  simp only [Act.put, List.setIfInBounds_toArray, List.set_cons_zero, List.set_cons_succ]
  refine anyH_take (i := 12) (oi := { dst := some 19, op := Op.pick (Operand.tmp 10) (Operand.tmp 18) (Operand.const (Value.bool false)), type := 4, pos := "walk.go:47", after := #[{ on := 3, ground := Ground.data }, { on := 11, ground := Ground.data }], guard := none }) (v := ?_) (fun _ => trivial) rfl rfl (by kernel_rfl) (by kernel_rfl) (by kernel_rfl) (fun c a w h => hQ c a _ _ w h) (Or.inl ⟨by rfl, ?_⟩) hHeld ?_
  rotate_left
  · intro w hSw; have hSw := hS w hSw;  go_simp <;> with_reducible rfl
  simp only [Act.put, List.setIfInBounds_toArray, List.set_cons_zero, List.set_cons_succ]
  refine anyH_take (i := 13) (oi := { dst := some 20, op := Op.move (Operand.tmp 19), type := 4, pos := "walk.go:47", after := #[{ on := 12, ground := Ground.data }, { on := 3, ground := Ground.chain }], guard := none }) (v := ?_) (fun _ => trivial) rfl rfl (by kernel_rfl) (by kernel_rfl) (by kernel_rfl) (fun c a w h => hQ c a _ _ w h) (Or.inl ⟨by rfl, ?_⟩) hHeld ?_
  rotate_left
  · intro w hSw; have hSw := hS w hSw;  go_simp <;> with_reducible rfl
  simp only [Act.put, List.setIfInBounds_toArray, List.set_cons_zero, List.set_cons_succ]
  refine anyH_take (i := 14) (oi := { dst := some 21, op := Op.move (Operand.tmp 0), type := 86, pos := "walk.go:47", after := #[{ on := 13, ground := Ground.guard }], guard := some (13, true) }) (v := undef) (fun _ => trivial) rfl rfl (by kernel_rfl) (by kernel_rfl) (by kernel_rfl) (fun c a w h => hQ c a _ _ w h) (Or.inr ⟨by rfl, rfl⟩) hHeld ?_
  simp only [Act.put, List.setIfInBounds_toArray, List.set_cons_zero, List.set_cons_succ]
  refine anyH_take (i := 15) (oi := { dst := some 22, op := Op.nilCheck (Operand.tmp 21), type := 0, pos := "walk.go:47", after := #[{ on := 14, ground := Ground.data }, { on := 13, ground := Ground.guard }], guard := some (13, true) }) (v := undef) (fun _ => trivial) rfl rfl (by kernel_rfl) (by kernel_rfl) (by kernel_rfl) (fun c a w h => hQ c a _ _ w h) (Or.inr ⟨by rfl, rfl⟩) hHeld ?_
  simp only [Act.put, List.setIfInBounds_toArray, List.set_cons_zero, List.set_cons_succ]
  refine anyH_take (i := 16) (oi := { dst := some 23, op := Op.fieldAddr 88 (Operand.tmp 22) 2, type := 0, pos := "walk.go:47", after := #[{ on := 15, ground := Ground.data }, { on := 13, ground := Ground.guard }], guard := some (13, true) }) (v := undef) (fun _ => trivial) rfl rfl (by kernel_rfl) (by kernel_rfl) (by kernel_rfl) (fun c a w h => hQ c a _ _ w h) (Or.inr ⟨by rfl, rfl⟩) hHeld ?_
  simp only [Act.put, List.setIfInBounds_toArray, List.set_cons_zero, List.set_cons_succ]
  refine anyH_take (i := 17) (oi := { dst := some 24, op := Op.load 32 (Operand.tmp 23), type := 32, pos := "walk.go:47", after := #[{ on := 16, ground := Ground.data }, { on := 13, ground := Ground.guard }], guard := some (13, true) }) (v := undef) (fun _ => trivial) rfl rfl (by kernel_rfl) (by kernel_rfl) (by kernel_rfl) (fun c a w h => hQ c a _ _ w h) (Or.inr ⟨by rfl, rfl⟩) hHeld ?_
  simp only [Act.put, List.setIfInBounds_toArray, List.set_cons_zero, List.set_cons_succ]
  refine anyH_take (i := 18) (oi := { dst := some 25, op := Op.move (Operand.tmp 0), type := 86, pos := "walk.go:47", after := #[{ on := 13, ground := Ground.guard }], guard := some (13, true) }) (v := undef) (fun _ => trivial) rfl rfl (by kernel_rfl) (by kernel_rfl) (by kernel_rfl) (fun c a w h => hQ c a _ _ w h) (Or.inr ⟨by rfl, rfl⟩) hHeld ?_
  simp only [Act.put, List.setIfInBounds_toArray, List.set_cons_zero, List.set_cons_succ]
  refine anyH_take (i := 19) (oi := { dst := some 26, op := Op.nilCheck (Operand.tmp 25), type := 0, pos := "walk.go:47", after := #[{ on := 18, ground := Ground.data }, { on := 13, ground := Ground.guard }], guard := some (13, true) }) (v := undef) (fun _ => trivial) rfl rfl (by kernel_rfl) (by kernel_rfl) (by kernel_rfl) (fun c a w h => hQ c a _ _ w h) (Or.inr ⟨by rfl, rfl⟩) hHeld ?_
  simp only [Act.put, List.setIfInBounds_toArray, List.set_cons_zero, List.set_cons_succ]
  refine anyH_take (i := 20) (oi := { dst := some 27, op := Op.fieldAddr 88 (Operand.tmp 26) 0, type := 0, pos := "walk.go:47", after := #[{ on := 19, ground := Ground.data }, { on := 13, ground := Ground.guard }], guard := some (13, true) }) (v := undef) (fun _ => trivial) rfl rfl (by kernel_rfl) (by kernel_rfl) (by kernel_rfl) (fun c a w h => hQ c a _ _ w h) (Or.inr ⟨by rfl, rfl⟩) hHeld ?_
  simp only [Act.put, List.setIfInBounds_toArray, List.set_cons_zero, List.set_cons_succ]
  refine anyH_take (i := 21) (oi := { dst := some 28, op := Op.fieldAddr 37 (Operand.tmp 27) 3, type := 0, pos := "walk.go:47", after := #[{ on := 20, ground := Ground.data }, { on := 13, ground := Ground.guard }], guard := some (13, true) }) (v := undef) (fun _ => trivial) rfl rfl (by kernel_rfl) (by kernel_rfl) (by kernel_rfl) (fun c a w h => hQ c a _ _ w h) (Or.inr ⟨by rfl, rfl⟩) hHeld ?_
  simp only [Act.put, List.setIfInBounds_toArray, List.set_cons_zero, List.set_cons_succ]
  refine anyH_take (i := 22) (oi := { dst := some 29, op := Op.load 22 (Operand.tmp 28), type := 22, pos := "walk.go:47", after := #[{ on := 21, ground := Ground.data }, { on := 13, ground := Ground.guard }], guard := some (13, true) }) (v := undef) (fun _ => trivial) rfl rfl (by kernel_rfl) (by kernel_rfl) (by kernel_rfl) (fun c a w h => hQ c a _ _ w h) (Or.inr ⟨by rfl, rfl⟩) hHeld ?_
  simp only [Act.put, List.setIfInBounds_toArray, List.set_cons_zero, List.set_cons_succ]
  refine anyH_take (i := 23) (oi := { dst := some 30, op := Op.fieldAddr 91 (Operand.tmp 3) 0, type := 0, pos := "walk.go:47", after := #[{ on := 13, ground := Ground.guard }], guard := some (13, true) }) (v := undef) (fun _ => trivial) rfl rfl (by kernel_rfl) (by kernel_rfl) (by kernel_rfl) (fun c a w h => hQ c a _ _ w h) (Or.inr ⟨by rfl, rfl⟩) hHeld ?_
  simp only [Act.put, List.setIfInBounds_toArray, List.set_cons_zero, List.set_cons_succ]
  refine anyH_take (i := 24) (oi := { dst := some 31, op := Op.load 62 (Operand.tmp 30), type := 62, pos := "walk.go:47", after := #[{ on := 23, ground := Ground.data }, { on := 13, ground := Ground.guard }], guard := some (13, true) }) (v := undef) (fun _ => trivial) rfl rfl (by kernel_rfl) (by kernel_rfl) (by kernel_rfl) (fun c a w h => hQ c a _ _ w h) (Or.inr ⟨by rfl, rfl⟩) hHeld ?_
  simp only [Act.put, List.setIfInBounds_toArray, List.set_cons_zero, List.set_cons_succ]
  refine anyH_take (i := 25) (oi := { dst := some 32, op := Op.call { callee := Callee.value (Operand.func 62), args := #[Operand.tmp 29, Operand.tmp 31, Operand.const (Value.bool true)], argTypes := #[22, 62, 4] }, type := 22, pos := "walk.go:47", after := #[{ on := 22, ground := Ground.data }, { on := 24, ground := Ground.data }, { on := 13, ground := Ground.chain }, { on := 13, ground := Ground.guard }], guard := some (13, true) }) (v := undef) (fun _ => trivial) rfl rfl (by kernel_rfl) (by kernel_rfl) (by kernel_rfl) (fun c a w h => hQ c a _ _ w h) (Or.inr ⟨by rfl, rfl⟩) hHeld ?_
  simp only [Act.put, List.setIfInBounds_toArray, List.set_cons_zero, List.set_cons_succ]
  refine anyH_take (i := 26) (oi := { dst := some 33, op := Op.call { callee := Callee.value (Operand.tmp 24), args := #[Operand.tmp 32], argTypes := #[22] }, type := 4, pos := "walk.go:47", after := #[{ on := 17, ground := Ground.data }, { on := 25, ground := Ground.data }, { on := 25, ground := Ground.chain }, { on := 13, ground := Ground.guard }], guard := some (13, true) }) (v := undef) (fun _ => trivial) rfl rfl (by kernel_rfl) (by kernel_rfl) (by kernel_rfl) (fun c a w h => hQ c a _ _ w h) (Or.inr ⟨by rfl, rfl⟩) hHeld ?_
  simp only [Act.put, List.setIfInBounds_toArray, List.set_cons_zero, List.set_cons_succ]
  refine anyH_take (i := 27) (oi := { dst := some 34, op := Op.unOp UnOp.not 4 (Operand.tmp 33), type := 4, pos := "walk.go:47", after := #[{ on := 26, ground := Ground.data }, { on := 13, ground := Ground.guard }], guard := some (13, true) }) (v := undef) (fun _ => trivial) rfl rfl (by kernel_rfl) (by kernel_rfl) (by kernel_rfl) (fun c a w h => hQ c a _ _ w h) (Or.inr ⟨by rfl, rfl⟩) hHeld ?_
  simp only [Act.put, List.setIfInBounds_toArray, List.set_cons_zero, List.set_cons_succ]
  refine anyH_take (i := 28) (oi := { dst := some 35, op := Op.pick (Operand.tmp 20) (Operand.tmp 34) (Operand.const (Value.bool false)), type := 4, pos := "walk.go:47", after := #[{ on := 13, ground := Ground.data }, { on := 27, ground := Ground.data }], guard := none }) (v := ?_) (fun _ => trivial) rfl rfl (by kernel_rfl) (by kernel_rfl) (by kernel_rfl) (fun c a w h => hQ c a _ _ w h) (Or.inl ⟨by rfl, ?_⟩) hHeld ?_
  rotate_left
  · intro w hSw; have hSw := hS w hSw;  go_simp <;> with_reducible rfl
  simp only [Act.put, List.setIfInBounds_toArray, List.set_cons_zero, List.set_cons_succ]
  exact anyH_done (by kernel_rfl) (hN W0 _ _ _ _ _ _ _ _ _ _ _ _ _ _ _ _ _ _ _ _ _ _ _ _ _ _ _ _ hHeld) _
end Go.Proofs.YtacnhkaibcjjgaaGreatDoor
