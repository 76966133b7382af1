/-
  What is proved here: how sets.walk.from goes through the sets of a domain: its other regions.
-/
import Derived.Test.YtacnhkaibcjjgaaGreatDoorFb
namespace Go.Proofs.YtacnhkaibcjjgaaGreatDoor
open Go.RowKit Go.Shelf
set_option linter.unusedVariables false
set_option linter.unusedSimpArgs false

set_option maxRecDepth 100000 in
set_option maxHeartbeats 4000000 in
theorem r7_no (n Wb R : Nat) (h1 n1 most : Int) (hgt : ¬ h1 + n1 ≤ most) (w1 : IntKind.i64.wrap (h1 + n1) = h1 + n1) (S : World → Prop)
    (hS : ∀ w, S w → w.cell? ⟨R, 65, none⟩ = some (.int .i64 h1) ∧ w.cell? ⟨R, 66, none⟩ = some (.int .i64 n1) ∧ w.cell? ⟨Wb, 5, none⟩ = some (.int .i64 most))
    (hSb : ∀ w w', S w → Below w.heap.size w w' → S w')
    (Q : Exit → Act → World → Prop) (hQ : ∀ c (a : Act) d v w, Q (.panic c) (a.put d v) w → Q (.panic c) a w) (x1 x2 x3 x4 x5 x7 x8 x9 x10 x11 x12 x13 x14 x15 x16 x17 x18 x19 x20 x21 x22 x23 x24 x25 x26 x27 x28 x29 x30 x31 x32 x33 x34 x35 x36 x37 x38 x39 x40 x41 x42 x43 x44 x45 x46 x47 x48 x49 x50 x51 x52 x53 x54 x55 x56 x57 x58 x59 x60 x61 x62 x63 x64 x65 x66 x67 x68 x69 x70 x71 x72 x73 x74 x75 x76 x77 x78 x79 x80 x81 x82 x83 x84 x85 x86 x87 x88 x89 x90 x91 x92 x93 x94 x95 x96 x97 x98 : Value) (ds : List Deferred) (W : World) (h0 : S W)
    (hN : ∀ (y76 y77 y78 y79 y80 y81 y82 y83 y84 y85 y86 y87 y88 y89 y90 y91 : Value), Q .normal { tmps := (.pointer (some ⟨Wb, 0, none⟩) :: x1 :: x2 :: x3 :: x4 :: x5 :: .pointer (some ⟨R, 0, none⟩) :: x7 :: x8 :: x9 :: x10 :: x11 :: x12 :: x13 :: x14 :: x15 :: x16 :: x17 :: x18 :: x19 :: x20 :: x21 :: x22 :: x23 :: x24 :: x25 :: x26 :: x27 :: x28 :: x29 :: x30 :: x31 :: x32 :: x33 :: x34 :: x35 :: x36 :: x37 :: x38 :: x39 :: x40 :: x41 :: x42 :: x43 :: x44 :: x45 :: x46 :: x47 :: x48 :: x49 :: x50 :: x51 :: x52 :: x53 :: x54 :: x55 :: x56 :: x57 :: x58 :: x59 :: x60 :: x61 :: x62 :: x63 :: x64 :: x65 :: x66 :: x67 :: x68 :: x69 :: x70 :: x71 :: x72 :: x73 :: x74 :: x75 :: y76 :: y77 :: y78 :: y79 :: y80 :: y81 :: y82 :: y83 :: y84 :: y85 :: y86 :: y87 :: y88 :: y89 :: y90 :: y91 :: .bool false :: x93 :: x94 :: x95 :: x96 :: x97 :: x98 :: []).toArray, defers := ds } W.drew) :
    (Code.region 7 #[{ dst := some 76, op := Op.fieldAddr 91 (Operand.tmp 6) 2, type := 0, pos := "walk.go:52", after := #[], guard := none },
    { dst := some 77, op := Op.load 3 (Operand.tmp 76), type := 3, pos := "walk.go:52", after := #[{ on := 0, ground := Ground.data }], guard := none },
    { dst := some 78, op := Op.fieldAddr 91 (Operand.tmp 6) 3, type := 0, pos := "walk.go:52", after := #[], guard := none },
    { dst := some 79, op := Op.load 3 (Operand.tmp 78), type := 3, pos := "walk.go:52", after := #[{ on := 2, ground := Ground.data }], guard := none },
    { dst := some 80, op := Op.binOp BinOp.add 3 (Operand.tmp 77) (Operand.tmp 79) 3, type := 3, pos := "walk.go:52", after := #[{ on := 1, ground := Ground.data }, { on := 3, ground := Ground.data }], guard := none },
    { dst := some 81, op := Op.move (Operand.tmp 0), type := 86, pos := "walk.go:52", after := #[], guard := none },
    { dst := some 82, op := Op.nilCheck (Operand.tmp 81), type := 0, pos := "walk.go:52", after := #[{ on := 5, ground := Ground.data }], guard := none },
    { dst := some 83, op := Op.fieldAddr 88 (Operand.tmp 82) 0, type := 0, pos := "walk.go:52", after := #[{ on := 6, ground := Ground.data }], guard := none },
    { dst := some 84, op := Op.fieldAddr 37 (Operand.tmp 83) 5, type := 0, pos := "walk.go:52", after := #[{ on := 7, ground := Ground.data }], guard := none },
    { dst := some 85, op := Op.load 3 (Operand.tmp 84), type := 3, pos := "walk.go:52", after := #[{ on := 8, ground := Ground.data }], guard := none },
    { dst := some 86, op := Op.binOp BinOp.leq 3 (Operand.tmp 80) (Operand.tmp 85) 3, type := 4, pos := "walk.go:52", after := #[{ on := 4, ground := Ground.data }, { on := 9, ground := Ground.data }], guard := none },
    { dst := some 87, op := Op.move (Operand.tmp 86), type := 4, pos := "walk.go:52", after := #[{ on := 10, ground := Ground.data }], guard := none },
    { dst := some 88, op := Op.move (Operand.tmp 0), type := 86, pos := "walk.go:52", after := #[{ on := 11, ground := Ground.guard }], guard := some (11, true) },
    { dst := some 89, op := Op.load 91 (Operand.tmp 6), type := 91, pos := "walk.go:52", after := #[{ on := 11, ground := Ground.guard }], guard := some (11, true) },
    { dst := some 90, op := Op.call { callee := Callee.value (Operand.func 83), args := #[Operand.tmp 88, Operand.tmp 89], argTypes := #[86, 91] }, type := 4, pos := "walk.go:52", after := #[{ on := 12, ground := Ground.data }, { on := 13, ground := Ground.data }, { on := 11, ground := Ground.chain }, { on := 11, ground := Ground.guard }], guard := some (11, true) },
    { dst := some 91, op := Op.unOp UnOp.not 4 (Operand.tmp 90), type := 4, pos := "walk.go:52", after := #[{ on := 14, ground := Ground.data }, { on := 11, ground := Ground.guard }], guard := some (11, true) },
    { dst := some 92, op := Op.pick (Operand.tmp 87) (Operand.tmp 91) (Operand.const (Value.bool false)), type := 4, pos := "walk.go:52", after := #[{ on := 11, ground := Ground.data }, { on := 15, ground := Ground.data }], guard := none }] true).wpIn Fence.wide n Tryz.prog Q { tmps := (.pointer (some ⟨Wb, 0, none⟩) :: x1 :: x2 :: x3 :: x4 :: x5 :: .pointer (some ⟨R, 0, none⟩) :: x7 :: x8 :: x9 :: x10 :: x11 :: x12 :: x13 :: x14 :: x15 :: x16 :: x17 :: x18 :: x19 :: x20 :: x21 :: x22 :: x23 :: x24 :: x25 :: x26 :: x27 :: x28 :: x29 :: x30 :: x31 :: x32 :: x33 :: x34 :: x35 :: x36 :: x37 :: x38 :: x39 :: x40 :: x41 :: x42 :: x43 :: x44 :: x45 :: x46 :: x47 :: x48 :: x49 :: x50 :: x51 :: x52 :: x53 :: x54 :: x55 :: x56 :: x57 :: x58 :: x59 :: x60 :: x61 :: x62 :: x63 :: x64 :: x65 :: x66 :: x67 :: x68 :: x69 :: x70 :: x71 :: x72 :: x73 :: x74 :: x75 :: x76 :: x77 :: x78 :: x79 :: x80 :: x81 :: x82 :: x83 :: x84 :: x85 :: x86 :: x87 :: x88 :: x89 :: x90 :: x91 :: x92 :: x93 :: x94 :: x95 :: x96 :: x97 :: x98 :: []).toArray, defers := ds } W := by
  refine region_heldIn S (by kernel_rfl) ?_
  have hHeld : S { W with drawn := W.drawn + 1 } := hSb _ _ h0 (Below.drew (Below.refl _ W))
  change AnyHIn _ _ _ _ _ _ _ _ _ _ W.drew
  change S W.drew at hHeld
  refine anyH_take (i := 0) (oi := { dst := some 76, op := Op.fieldAddr 91 (Operand.tmp 6) 2, type := 0, pos := "walk.go:52", after := #[], guard := none }) (v := ?_) (fun _ => trivial) rfl rfl (by kernel_rfl) (by kernel_rfl) (by kernel_rfl) (fun c a w h => hQ c a _ _ w h) (Or.inl ⟨by rfl, ?_⟩) hHeld ?_
  rotate_left
  · intro w hSw; have hSw := hS w hSw;  go_simp <;> with_reducible rfl
  simp only [Act.put, List.setIfInBounds_toArray, List.set_cons_zero, List.set_cons_succ]
  refine anyH_take (i := 1) (oi := { dst := some 77, op := Op.load 3 (Operand.tmp 76), type := 3, pos := "walk.go:52", after := #[{ on := 0, ground := Ground.data }], guard := none }) (v := ?_) (fun _ => trivial) rfl rfl (by kernel_rfl) (by kernel_rfl) (by kernel_rfl) (fun c a w h => hQ c a _ _ w h) (Or.inl ⟨by rfl, ?_⟩) hHeld ?_
  rotate_left
  · intro w hSw; have hSw := hS w hSw;  go_simp <;> with_reducible rfl
  simp only [Act.put, List.setIfInBounds_toArray, List.set_cons_zero, List.set_cons_succ]
  refine anyH_take (i := 2) (oi := { dst := some 78, op := Op.fieldAddr 91 (Operand.tmp 6) 3, type := 0, pos := "walk.go:52", after := #[], guard := none }) (v := ?_) (fun _ => trivial) rfl rfl (by kernel_rfl) (by kernel_rfl) (by kernel_rfl) (fun c a w h => hQ c a _ _ w h) (Or.inl ⟨by rfl, ?_⟩) hHeld ?_
  rotate_left
  · intro w hSw; have hSw := hS w hSw;  go_simp <;> with_reducible rfl
  simp only [Act.put, List.setIfInBounds_toArray, List.set_cons_zero, List.set_cons_succ]
  refine anyH_take (i := 3) (oi := { dst := some 79, op := Op.load 3 (Operand.tmp 78), type := 3, pos := "walk.go:52", after := #[{ on := 2, ground := Ground.data }], guard := none }) (v := ?_) (fun _ => trivial) rfl rfl (by kernel_rfl) (by kernel_rfl) (by kernel_rfl) (fun c a w h => hQ c a _ _ w h) (Or.inl ⟨by rfl, ?_⟩) hHeld ?_
  rotate_left
  · intro w hSw; have hSw := hS w hSw;  go_simp <;> with_reducible rfl
  simp only [Act.put, List.setIfInBounds_toArray, List.set_cons_zero, List.set_cons_succ]
  refine anyH_take (i := 4) (oi := { dst := some 80, op := Op.binOp BinOp.add 3 (Operand.tmp 77) (Operand.tmp 79) 3, type := 3, pos := "walk.go:52", after := #[{ on := 1, ground := Ground.data }, { on := 3, ground := Ground.data }], guard := none }) (v := ?_) (fun _ => trivial) rfl rfl (by kernel_rfl) (by kernel_rfl) (by kernel_rfl) (fun c a w h => hQ c a _ _ w h) (Or.inl ⟨by rfl, ?_⟩) hHeld ?_
  rotate_left
  · intro w hSw; have hSw := hS w hSw;  go_simp <;> with_reducible rfl
  simp only [Act.put, List.setIfInBounds_toArray, List.set_cons_zero, List.set_cons_succ]
  refine anyH_take (i := 5) (oi := { dst := some 81, op := Op.move (Operand.tmp 0), type := 86, pos := "walk.go:52", after := #[], guard := none }) (v := ?_) (fun _ => trivial) rfl rfl (by kernel_rfl) (by kernel_rfl) (by kernel_rfl) (fun c a w h => hQ c a _ _ w h) (Or.inl ⟨by rfl, ?_⟩) hHeld ?_
  rotate_left
  · intro w hSw; have hSw := hS w hSw;  go_simp <;> with_reducible rfl
  simp only [Act.put, List.setIfInBounds_toArray, List.set_cons_zero, List.set_cons_succ]
  refine anyH_take (i := 6) (oi := { dst := some 82, op := Op.nilCheck (Operand.tmp 81), type := 0, pos := "walk.go:52", after := #[{ on := 5, ground := Ground.data }], guard := none }) (v := ?_) (fun _ => trivial) rfl rfl (by kernel_rfl) (by kernel_rfl) (by kernel_rfl) (fun c a w h => hQ c a _ _ w h) (Or.inl ⟨by rfl, ?_⟩) hHeld ?_
  rotate_left
  · intro w hSw; have hSw := hS w hSw;  go_simp <;> with_reducible rfl
  simp only [Act.put, List.setIfInBounds_toArray, List.set_cons_zero, List.set_cons_succ]
  refine anyH_take (i := 7) (oi := { dst := some 83, op := Op.fieldAddr 88 (Operand.tmp 82) 0, type := 0, pos := "walk.go:52", after := #[{ on := 6, ground := Ground.data }], guard := none }) (v := ?_) (fun _ => trivial) rfl rfl (by kernel_rfl) (by kernel_rfl) (by kernel_rfl) (fun c a w h => hQ c a _ _ w h) (Or.inl ⟨by rfl, ?_⟩) hHeld ?_
  rotate_left
  · intro w hSw; have hSw := hS w hSw;  go_simp <;> with_reducible rfl
  simp only [Act.put, List.setIfInBounds_toArray, List.set_cons_zero, List.set_cons_succ]
  refine anyH_take (i := 8) (oi := { dst := some 84, op := Op.fieldAddr 37 (Operand.tmp 83) 5, type := 0, pos := "walk.go:52", after := #[{ on := 7, ground := Ground.data }], guard := none }) (v := ?_) (fun _ => trivial) rfl rfl (by kernel_rfl) (by kernel_rfl) (by kernel_rfl) (fun c a w h => hQ c a _ _ w h) (Or.inl ⟨by rfl, ?_⟩) hHeld ?_
  rotate_left
  · intro w hSw; have hSw := hS w hSw;  go_simp <;> with_reducible rfl
  simp only [Act.put, List.setIfInBounds_toArray, List.set_cons_zero, List.set_cons_succ]
  refine anyH_take (i := 9) (oi := { dst := some 85, op := Op.load 3 (Operand.tmp 84), type := 3, pos := "walk.go:52", after := #[{ on := 8, ground := Ground.data }], guard := none }) (v := ?_) (fun _ => trivial) rfl rfl (by kernel_rfl) (by kernel_rfl) (by kernel_rfl) (fun c a w h => hQ c a _ _ w h) (Or.inl ⟨by rfl, ?_⟩) hHeld ?_
  rotate_left
  · intro w hSw; have hSw := hS w hSw;  go_simp <;> with_reducible rfl
  simp only [Act.put, List.setIfInBounds_toArray, List.set_cons_zero, List.set_cons_succ]
  refine anyH_take (i := 10) (oi := { dst := some 86, op := Op.binOp BinOp.leq 3 (Operand.tmp 80) (Operand.tmp 85) 3, type := 4, pos := "walk.go:52", after := #[{ on := 4, ground := Ground.data }, { on := 9, ground := Ground.data }], guard := none }) (v := ?_) (fun _ => trivial) rfl rfl (by kernel_rfl) (by kernel_rfl) (by kernel_rfl) (fun c a w h => hQ c a _ _ w h) (Or.inl ⟨by rfl, ?_⟩) hHeld ?_
  rotate_left
  · intro w hSw; have hSw := hS w hSw;  go_simp <;> with_reducible rfl
  simp only [Act.put, List.setIfInBounds_toArray, List.set_cons_zero, List.set_cons_succ]
  refine anyH_take (i := 11) (oi := { dst := some 87, op := Op.move (Operand.tmp 86), type := 4, pos := "walk.go:52", after := #[{ on := 10, ground := Ground.data }], guard := none }) (v := ?_) (fun _ => trivial) rfl rfl (by kernel_rfl) (by kernel_rfl) (by kernel_rfl) (fun c a w h => hQ c a _ _ w h) (Or.inl ⟨by rfl, ?_⟩) hHeld ?_
  rotate_left
  · intro w hSw; have hSw := hS w hSw;  go_simp <;> with_reducible rfl
  simp only [Act.put, List.setIfInBounds_toArray, List.set_cons_zero, List.set_cons_succ]
  refine anyH_take (i := 12) (oi := { dst := some 88, op := Op.move (Operand.tmp 0), type := 86, pos := "walk.go:52", after := #[{ on := 11, ground := Ground.guard }], guard := some (11, true) }) (v := undef) (fun _ => trivial) rfl rfl (by kernel_rfl) (by kernel_rfl) (by kernel_rfl) (fun c a w h => hQ c a _ _ w h) (Or.inr ⟨by rfl, rfl⟩) hHeld ?_
  simp only [Act.put, List.setIfInBounds_toArray, List.set_cons_zero, List.set_cons_succ]
  refine anyH_take (i := 13) (oi := { dst := some 89, op := Op.load 91 (Operand.tmp 6), type := 91, pos := "walk.go:52", after := #[{ on := 11, ground := Ground.guard }], guard := some (11, true) }) (v := undef) (fun _ => trivial) rfl rfl (by kernel_rfl) (by kernel_rfl) (by kernel_rfl) (fun c a w h => hQ c a _ _ w h) (Or.inr ⟨by rfl, rfl⟩) hHeld ?_
  simp only [Act.put, List.setIfInBounds_toArray, List.set_cons_zero, List.set_cons_succ]
  refine anyH_take (i := 14) (oi := { dst := some 90, op := Op.call { callee := Callee.value (Operand.func 83), args := #[Operand.tmp 88, Operand.tmp 89], argTypes := #[86, 91] }, type := 4, pos := "walk.go:52", after := #[{ on := 12, ground := Ground.data }, { on := 13, ground := Ground.data }, { on := 11, ground := Ground.chain }, { on := 11, ground := Ground.guard }], guard := some (11, true) }) (v := undef) (fun _ => trivial) rfl rfl (by kernel_rfl) (by kernel_rfl) (by kernel_rfl) (fun c a w h => hQ c a _ _ w h) (Or.inr ⟨by rfl, rfl⟩) hHeld ?_
  simp only [Act.put, List.setIfInBounds_toArray, List.set_cons_zero, List.set_cons_succ]
  refine anyH_take (i := 15) (oi := { dst := some 91, op := Op.unOp UnOp.not 4 (Operand.tmp 90), type := 4, pos := "walk.go:52", after := #[{ on := 14, ground := Ground.data }, { on := 11, ground := Ground.guard }], guard := some (11, true) }) (v := undef) (fun _ => trivial) rfl rfl (by kernel_rfl) (by kernel_rfl) (by kernel_rfl) (fun c a w h => hQ c a _ _ w h) (Or.inr ⟨by rfl, rfl⟩) hHeld ?_
  simp only [Act.put, List.setIfInBounds_toArray, List.set_cons_zero, List.set_cons_succ]
  refine anyH_take (i := 16) (oi := { dst := some 92, op := Op.pick (Operand.tmp 87) (Operand.tmp 91) (Operand.const (Value.bool false)), type := 4, pos := "walk.go:52", after := #[{ on := 11, ground := Ground.data }, { on := 15, ground := Ground.data }], guard := none }) (v := ?_) (fun _ => trivial) rfl rfl (by kernel_rfl) (by kernel_rfl) (by kernel_rfl) (fun c a w h => hQ c a _ _ w h) (Or.inl ⟨by rfl, ?_⟩) hHeld ?_
  rotate_left
  · intro w hSw; have hSw := hS w hSw;  go_simp <;> with_reducible rfl
  simp only [Act.put, List.setIfInBounds_toArray, List.set_cons_zero, List.set_cons_succ]
  exact anyH_done (by kernel_rfl) (hN _ _ _ _ _ _ _ _ _ _ _ _ _ _ _ _) _

set_option maxRecDepth 100000 in
set_option maxHeartbeats 4000000 in
theorem r7_yes (n Wb R : Nat) (h1 n1 most : Int) (hle : h1 + n1 ≤ most) (w1 : IntKind.i64.wrap (h1 + n1) = h1 + n1) (T : Array Value) (hTs : T.size = 67) (S : World → Prop) (U : Bool → World → Prop)
    (hS : ∀ w, S w → w.cell? ⟨R, 65, none⟩ = some (.int .i64 h1) ∧ w.cell? ⟨R, 66, none⟩ = some (.int .i64 n1) ∧ w.cell? ⟨Wb, 5, none⟩ = some (.int .i64 most))
    (hSb : ∀ w w', S w → Below w.heap.size w w' → S w')
    (hSr : ∀ w, S w → w.rangeAt R 0 T.toList) (I : World → Prop) (hIb : ∀ w w', I w → Below w.heap.size w w' → I w')
    (hC : ∀ w, S w → I w → CallsIn Fence.wide (n - 1) Tryz.prog 83 #[.pointer (some ⟨Wb, 0, none⟩), .agg T] w fun e w' => ∃ b, e = .returned (.bool b) ∧ S w' ∧ U b w')
    (Q : Exit → Act → World → Prop) (hQ : ∀ c (a : Act) d v w, Q (.panic c) (a.put d v) w → Q (.panic c) a w) (x1 x2 x3 x4 x5 x7 x8 x9 x10 x11 x12 x13 x14 x15 x16 x17 x18 x19 x20 x21 x22 x23 x24 x25 x26 x27 x28 x29 x30 x31 x32 x33 x34 x35 x36 x37 x38 x39 x40 x41 x42 x43 x44 x45 x46 x47 x48 x49 x50 x51 x52 x53 x54 x55 x56 x57 x58 x59 x60 x61 x62 x63 x64 x65 x66 x67 x68 x69 x70 x71 x72 x73 x74 x75 x76 x77 x78 x79 x80 x81 x82 x83 x84 x85 x86 x87 x88 x89 x90 x91 x92 x93 x94 x95 x96 x97 x98 : Value) (ds : List Deferred) (W : World) (h0 : S W) (h0i : I W)
    (hN : ∀ b w (y76 y77 y78 y79 y80 y81 y82 y83 y84 y85 y86 y87 y88 y89 y90 y91 : Value), S w → U b w → Q .normal { tmps := (.pointer (some ⟨Wb, 0, none⟩) :: x1 :: x2 :: x3 :: x4 :: x5 :: .pointer (some ⟨R, 0, none⟩) :: x7 :: x8 :: x9 :: x10 :: x11 :: x12 :: x13 :: x14 :: x15 :: x16 :: x17 :: x18 :: x19 :: x20 :: x21 :: x22 :: x23 :: x24 :: x25 :: x26 :: x27 :: x28 :: x29 :: x30 :: x31 :: x32 :: x33 :: x34 :: x35 :: x36 :: x37 :: x38 :: x39 :: x40 :: x41 :: x42 :: x43 :: x44 :: x45 :: x46 :: x47 :: x48 :: x49 :: x50 :: x51 :: x52 :: x53 :: x54 :: x55 :: x56 :: x57 :: x58 :: x59 :: x60 :: x61 :: x62 :: x63 :: x64 :: x65 :: x66 :: x67 :: x68 :: x69 :: x70 :: x71 :: x72 :: x73 :: x74 :: x75 :: y76 :: y77 :: y78 :: y79 :: y80 :: y81 :: y82 :: y83 :: y84 :: y85 :: y86 :: y87 :: y88 :: y89 :: y90 :: y91 :: .bool (!b) :: x93 :: x94 :: x95 :: x96 :: x97 :: x98 :: []).toArray, defers := ds } w) :
    (Code.region 7 #[{ dst := some 76, op := Op.fieldAddr 91 (Operand.tmp 6) 2, type := 0, pos := "walk.go:52", after := #[], guard := none },
    { dst := some 77, op := Op.load 3 (Operand.tmp 76), type := 3, pos := "walk.go:52", after := #[{ on := 0, ground := Ground.data }], guard := none },
    { dst := some 78, op := Op.fieldAddr 91 (Operand.tmp 6) 3, type := 0, pos := "walk.go:52", after := #[], guard := none },
    { dst := some 79, op := Op.load 3 (Operand.tmp 78), type := 3, pos := "walk.go:52", after := #[{ on := 2, ground := Ground.data }], guard := none },
    { dst := some 80, op := Op.binOp BinOp.add 3 (Operand.tmp 77) (Operand.tmp 79) 3, type := 3, pos := "walk.go:52", after := #[{ on := 1, ground := Ground.data }, { on := 3, ground := Ground.data }], guard := none },
    { dst := some 81, op := Op.move (Operand.tmp 0), type := 86, pos := "walk.go:52", after := #[], guard := none },
    { dst := some 82, op := Op.nilCheck (Operand.tmp 81), type := 0, pos := "walk.go:52", after := #[{ on := 5, ground := Ground.data }], guard := none },
    { dst := some 83, op := Op.fieldAddr 88 (Operand.tmp 82) 0, type := 0, pos := "walk.go:52", after := #[{ on := 6, ground := Ground.data }], guard := none },
    { dst := some 84, op := Op.fieldAddr 37 (Operand.tmp 83) 5, type := 0, pos := "walk.go:52", after := #[{ on := 7, ground := Ground.data }], guard := none },
    { dst := some 85, op := Op.load 3 (Operand.tmp 84), type := 3, pos := "walk.go:52", after := #[{ on := 8, ground := Ground.data }], guard := none },
    { dst := some 86, op := Op.binOp BinOp.leq 3 (Operand.tmp 80) (Operand.tmp 85) 3, type := 4, pos := "walk.go:52", after := #[{ on := 4, ground := Ground.data }, { on := 9, ground := Ground.data }], guard := none },
    { dst := some 87, op := Op.move (Operand.tmp 86), type := 4, pos := "walk.go:52", after := #[{ on := 10, ground := Ground.data }], guard := none },
    { dst := some 88, op := Op.move (Operand.tmp 0), type := 86, pos := "walk.go:52", after := #[{ on := 11, ground := Ground.guard }], guard := some (11, true) },
    { dst := some 89, op := Op.load 91 (Operand.tmp 6), type := 91, pos := "walk.go:52", after := #[{ on := 11, ground := Ground.guard }], guard := some (11, true) },
    { dst := some 90, op := Op.call { callee := Callee.value (Operand.func 83), args := #[Operand.tmp 88, Operand.tmp 89], argTypes := #[86, 91] }, type := 4, pos := "walk.go:52", after := #[{ on := 12, ground := Ground.data }, { on := 13, ground := Ground.data }, { on := 11, ground := Ground.chain }, { on := 11, ground := Ground.guard }], guard := some (11, true) },
    { dst := some 91, op := Op.unOp UnOp.not 4 (Operand.tmp 90), type := 4, pos := "walk.go:52", after := #[{ on := 14, ground := Ground.data }, { on := 11, ground := Ground.guard }], guard := some (11, true) },
    { dst := some 92, op := Op.pick (Operand.tmp 87) (Operand.tmp 91) (Operand.const (Value.bool false)), type := 4, pos := "walk.go:52", after := #[{ on := 11, ground := Ground.data }, { on := 15, ground := Ground.data }], guard := none }] true).wpIn Fence.wide n Tryz.prog Q { tmps := (.pointer (some ⟨Wb, 0, none⟩) :: x1 :: x2 :: x3 :: x4 :: x5 :: .pointer (some ⟨R, 0, none⟩) :: x7 :: x8 :: x9 :: x10 :: x11 :: x12 :: x13 :: x14 :: x15 :: x16 :: x17 :: x18 :: x19 :: x20 :: x21 :: x22 :: x23 :: x24 :: x25 :: x26 :: x27 :: x28 :: x29 :: x30 :: x31 :: x32 :: x33 :: x34 :: x35 :: x36 :: x37 :: x38 :: x39 :: x40 :: x41 :: x42 :: x43 :: x44 :: x45 :: x46 :: x47 :: x48 :: x49 :: x50 :: x51 :: x52 :: x53 :: x54 :: x55 :: x56 :: x57 :: x58 :: x59 :: x60 :: x61 :: x62 :: x63 :: x64 :: x65 :: x66 :: x67 :: x68 :: x69 :: x70 :: x71 :: x72 :: x73 :: x74 :: x75 :: x76 :: x77 :: x78 :: x79 :: x80 :: x81 :: x82 :: x83 :: x84 :: x85 :: x86 :: x87 :: x88 :: x89 :: x90 :: x91 :: x92 :: x93 :: x94 :: x95 :: x96 :: x97 :: x98 :: []).toArray, defers := ds } W := by
  have hu91 := Tryz.underlying91
  have hi91 : (Tryz.prog.info? 91).map (·.size) = some T.toList.length := by rw [Array.length_toList, hTs]; exact size91
  refine region_heldIn S (by kernel_rfl) ?_
  have hHeld : S { W with drawn := W.drawn + 1 } := hSb _ _ h0 (Below.drew (Below.refl _ W))
  have hI0 : I { W with drawn := W.drawn + 1 } := hIb _ _ h0i (Below.drew (Below.refl _ W))
  generalize { W with drawn := W.drawn + 1 } = W0 at hHeld hI0 ⊢
  clear h0 h0i W
  refine anyH_take (i := 0) (oi := { dst := some 76, op := Op.fieldAddr 91 (Operand.tmp 6) 2, type := 0, pos := "walk.go:52", after := #[], guard := none }) (v := ?_) (fun _ => trivial) rfl rfl (by kernel_rfl) (by kernel_rfl) (by kernel_rfl) (fun c a w h => hQ c a _ _ w h) (Or.inl ⟨by rfl, ?_⟩) hHeld ?_
  rotate_left
  · intro w hSw; have hSw := hS w hSw;  go_simp <;> with_reducible rfl
  simp only [Act.put, List.setIfInBounds_toArray, List.set_cons_zero, List.set_cons_succ]
  refine anyH_take (i := 1) (oi := { dst := some 77, op := Op.load 3 (Operand.tmp 76), type := 3, pos := "walk.go:52", after := #[{ on := 0, ground := Ground.data }], guard := none }) (v := ?_) (fun _ => trivial) rfl rfl (by kernel_rfl) (by kernel_rfl) (by kernel_rfl) (fun c a w h => hQ c a _ _ w h) (Or.inl ⟨by rfl, ?_⟩) hHeld ?_
  rotate_left
  · intro w hSw; have hSw := hS w hSw;  go_simp <;> with_reducible rfl
  simp only [Act.put, List.setIfInBounds_toArray, List.set_cons_zero, List.set_cons_succ]
  refine anyH_take (i := 2) (oi := { dst := some 78, op := Op.fieldAddr 91 (Operand.tmp 6) 3, type := 0, pos := "walk.go:52", after := #[], guard := none }) (v := ?_) (fun _ => trivial) rfl rfl (by kernel_rfl) (by kernel_rfl) (by kernel_rfl) (fun c a w h => hQ c a _ _ w h) (Or.inl ⟨by rfl, ?_⟩) hHeld ?_
  rotate_left
  · intro w hSw; have hSw := hS w hSw;  go_simp <;> with_reducible rfl
  simp only [Act.put, List.setIfInBounds_toArray, List.set_cons_zero, List.set_cons_succ]
  refine anyH_take (i := 3) (oi := { dst := some 79, op := Op.load 3 (Operand.tmp 78), type := 3, pos := "walk.go:52", after := #[{ on := 2, ground := Ground.data }], guard := none }) (v := ?_) (fun _ => trivial) rfl rfl (by kernel_rfl) (by kernel_rfl) (by kernel_rfl) (fun c a w h => hQ c a _ _ w h) (Or.inl ⟨by rfl, ?_⟩) hHeld ?_
  rotate_left
  · intro w hSw; have hSw := hS w hSw;  go_simp <;> with_reducible rfl
  simp only [Act.put, List.setIfInBounds_toArray, List.set_cons_zero, List.set_cons_succ]
  refine anyH_take (i := 4) (oi := { dst := some 80, op := Op.binOp BinOp.add 3 (Operand.tmp 77) (Operand.tmp 79) 3, type := 3, pos := "walk.go:52", after := #[{ on := 1, ground := Ground.data }, { on := 3, ground := Ground.data }], guard := none }) (v := ?_) (fun _ => trivial) rfl rfl (by kernel_rfl) (by kernel_rfl) (by kernel_rfl) (fun c a w h => hQ c a _ _ w h) (Or.inl ⟨by rfl, ?_⟩) hHeld ?_
  rotate_left
  · intro w hSw; have hSw := hS w hSw;  go_simp <;> with_reducible rfl
  simp only [Act.put, List.setIfInBounds_toArray, List.set_cons_zero, List.set_cons_succ]
  refine anyH_take (i := 5) (oi := { dst := some 81, op := Op.move (Operand.tmp 0), type := 86, pos := "walk.go:52", after := #[], guard := none }) (v := ?_) (fun _ => trivial) rfl rfl (by kernel_rfl) (by kernel_rfl) (by kernel_rfl) (fun c a w h => hQ c a _ _ w h) (Or.inl ⟨by rfl, ?_⟩) hHeld ?_
  rotate_left
  · intro w hSw; have hSw := hS w hSw;  go_simp <;> with_reducible rfl
  simp only [Act.put, List.setIfInBounds_toArray, List.set_cons_zero, List.set_cons_succ]
  refine anyH_take (i := 6) (oi := { dst := some 82, op := Op.nilCheck (Operand.tmp 81), type := 0, pos := "walk.go:52", after := #[{ on := 5, ground := Ground.data }], guard := none }) (v := ?_) (fun _ => trivial) rfl rfl (by kernel_rfl) (by kernel_rfl) (by kernel_rfl) (fun c a w h => hQ c a _ _ w h) (Or.inl ⟨by rfl, ?_⟩) hHeld ?_
  rotate_left
  · intro w hSw; have hSw := hS w hSw;  go_simp <;> with_reducible rfl
  simp only [Act.put, List.setIfInBounds_toArray, List.set_cons_zero, List.set_cons_succ]
  refine anyH_take (i := 7) (oi := { dst := some 83, op := Op.fieldAddr 88 (Operand.tmp 82) 0, type := 0, pos := "walk.go:52", after := #[{ on := 6, ground := Ground.data }], guard := none }) (v := ?_) (fun _ => trivial) rfl rfl (by kernel_rfl) (by kernel_rfl) (by kernel_rfl) (fun c a w h => hQ c a _ _ w h) (Or.inl ⟨by rfl, ?_⟩) hHeld ?_
  rotate_left
  · intro w hSw; have hSw := hS w hSw;  go_simp <;> with_reducible rfl
  simp only [Act.put, List.setIfInBounds_toArray, List.set_cons_zero, List.set_cons_succ]
  refine anyH_take (i := 8) (oi := { dst := some 84, op := Op.fieldAddr 37 (Operand.tmp 83) 5, type := 0, pos := "walk.go:52", after := #[{ on := 7, ground := Ground.data }], guard := none }) (v := ?_) (fun _ => trivial) rfl rfl (by kernel_rfl) (by kernel_rfl) (by kernel_rfl) (fun c a w h => hQ c a _ _ w h) (Or.inl ⟨by rfl, ?_⟩) hHeld ?_
  rotate_left
  · intro w hSw; have hSw := hS w hSw;  go_simp <;> with_reducible rfl
  simp only [Act.put, List.setIfInBounds_toArray, List.set_cons_zero, List.set_cons_succ]
  refine anyH_take (i := 9) (oi := { dst := some 85, op := Op.load 3 (Operand.tmp 84), type := 3, pos := "walk.go:52", after := #[{ on := 8, ground := Ground.data }], guard := none }) (v := ?_) (fun _ => trivial) rfl rfl (by kernel_rfl) (by kernel_rfl) (by kernel_rfl) (fun c a w h => hQ c a _ _ w h) (Or.inl ⟨by rfl, ?_⟩) hHeld ?_
  rotate_left
  · intro w hSw; have hSw := hS w hSw;  go_simp <;> with_reducible rfl
  simp only [Act.put, List.setIfInBounds_toArray, List.set_cons_zero, List.set_cons_succ]
  refine anyH_take (i := 10) (oi := { dst := some 86, op := Op.binOp BinOp.leq 3 (Operand.tmp 80) (Operand.tmp 85) 3, type := 4, pos := "walk.go:52", after := #[{ on := 4, ground := Ground.data }, { on := 9, ground := Ground.data }], guard := none }) (v := ?_) (fun _ => trivial) rfl rfl (by kernel_rfl) (by kernel_rfl) (by kernel_rfl) (fun c a w h => hQ c a _ _ w h) (Or.inl ⟨by rfl, ?_⟩) hHeld ?_
  rotate_left
  · intro w hSw; have hSw := hS w hSw;  go_simp <;> with_reducible rfl
  simp only [Act.put, List.setIfInBounds_toArray, List.set_cons_zero, List.set_cons_succ]
  refine anyH_take (i := 11) (oi := { dst := some 87, op := Op.move (Operand.tmp 86), type := 4, pos := "walk.go:52", after := #[{ on := 10, ground := Ground.data }], guard := none }) (v := ?_) (fun _ => trivial) rfl rfl (by kernel_rfl) (by kernel_rfl) (by kernel_rfl) (fun c a w h => hQ c a _ _ w h) (Or.inl ⟨by rfl, ?_⟩) hHeld ?_
  rotate_left
  · intro w hSw; have hSw := hS w hSw;  go_simp <;> with_reducible rfl
  simp only [Act.put, List.setIfInBounds_toArray, List.set_cons_zero, List.set_cons_succ]
  refine anyH_take (i := 12) (oi := { dst := some 88, op := Op.move (Operand.tmp 0), type := 86, pos := "walk.go:52", after := #[{ on := 11, ground := Ground.guard }], guard := some (11, true) }) (v := ?_) (fun _ => trivial) rfl rfl (by kernel_rfl) (by kernel_rfl) (by kernel_rfl) (fun c a w h => hQ c a _ _ w h) (Or.inl ⟨by rfl, ?_⟩) hHeld ?_
  rotate_left
  · intro w hSw; have hSw := hS w hSw;  go_simp <;> with_reducible rfl
  simp only [Act.put, List.setIfInBounds_toArray, List.set_cons_zero, List.set_cons_succ]
  refine anyH_take (i := 13) (oi := { dst := some 89, op := Op.load 91 (Operand.tmp 6), type := 91, pos := "walk.go:52", after := #[{ on := 11, ground := Ground.guard }], guard := some (11, true) }) (v := _) (fun _ => trivial) rfl rfl (by kernel_rfl) (by kernel_rfl) (by kernel_rfl) (fun c a w h => hQ c a _ _ w h) (yieldsIf_load_mid (by rfl) _ _ rfl _ _ rfl _ _ (fun w hw => hSr w hw) hu91 rfl hi91) hHeld ?_
  simp only [Act.put, List.setIfInBounds_toArray, List.set_cons_zero, List.set_cons_succ]
  rw [Array.toArray_toList]
  refine anyH_one (i := 14) (o := { dst := some 90, op := Op.call { callee := Callee.value (Operand.func 83), args := #[Operand.tmp 88, Operand.tmp 89], argTypes := #[86, 91] }, type := 4, pos := "walk.go:52", after := #[{ on := 12, ground := Ground.data }, { on := 13, ground := Ground.data }, { on := 11, ground := Ground.chain }, { on := 11, ground := Ground.guard }], guard := some (11, true) }) (by kernel_rfl) rfl (by rfl) ?_
  intro K hK
  have hcl := hC W0 hHeld hI0
  go_simp
  refine ⟨trivial, (fun h => nomatch h), hcl.mono ?_⟩
  rintro e w2 ⟨b, rfl, hS2, hT2⟩
  clear hHeld
  have hHeld := hS2
  refine hK _ _ hHeld ?_
  clear hK K
  try simp only [Act.put, List.setIfInBounds_toArray, List.set_cons_zero, List.set_cons_succ]
  refine anyH_take (i := 15) (oi := { dst := some 91, op := Op.unOp UnOp.not 4 (Operand.tmp 90), type := 4, pos := "walk.go:52", after := #[{ on := 14, ground := Ground.data }, { on := 11, ground := Ground.guard }], guard := some (11, true) }) (v := ?_) (fun _ => trivial) rfl rfl (by kernel_rfl) (by kernel_rfl) (by kernel_rfl) (fun c a w h => hQ c a _ _ w h) (Or.inl ⟨by rfl, ?_⟩) hHeld ?_
  rotate_left
  · intro w hSw; have hSw := hS w hSw;  go_simp <;> with_reducible rfl
  simp only [Act.put, List.setIfInBounds_toArray, List.set_cons_zero, List.set_cons_succ]
  refine anyH_take (i := 16) (oi := { dst := some 92, op := Op.pick (Operand.tmp 87) (Operand.tmp 91) (Operand.const (Value.bool false)), type := 4, pos := "walk.go:52", after := #[{ on := 11, ground := Ground.data }, { on := 15, ground := Ground.data }], guard := none }) (v := ?_) (fun _ => trivial) rfl rfl (by kernel_rfl) (by kernel_rfl) (by kernel_rfl) (fun c a w h => hQ c a _ _ w h) (Or.inl ⟨by rfl, ?_⟩) hHeld ?_
  rotate_left
  · intro w hSw; have hSw := hS w hSw;  go_simp <;> with_reducible rfl
  simp only [Act.put, List.setIfInBounds_toArray, List.set_cons_zero, List.set_cons_succ]
  exact anyH_done (by kernel_rfl) (hN b w2 _ _ _ _ _ _ _ _ _ _ _ _ _ _ _ _ hS2 hT2) _
end Go.Proofs.YtacnhkaibcjjgaaGreatDoor
