/-
  What is proved here: how sets.walk.from goes through the sets of a domain.
-/
import Derived.Test.YtacnhkaibcjjgaaGreatDoorFc
import Derived.Test.YtacnhkaibcjjgaaGreatDoorFd
namespace Go.Proofs.YtacnhkaibcjjgaaGreatDoor
open Go.RowKit Go.Shelf
set_option linter.unusedVariables false
set_option linter.unusedSimpArgs false

/-- What a round keeps: all cells but those of block A. -/
def Kp (A : Nat) (W W' : World) : Prop := W.heap.size ≤ W'.heap.size ∧ ∀ b o v, b ≠ A → W.cell? ⟨b, o, none⟩ = some v → W'.cell? ⟨b, o, none⟩ = some v
theorem Kp.refl (A : Nat) (W : World) : Kp A W W := ⟨Nat.le_refl _, fun _ _ _ _ h => h⟩
theorem Kp.trans {A : Nat} {X Y Z : World} (h : Kp A X Y) (k : Kp A Y Z) : Kp A X Z := ⟨Nat.le_trans h.1 k.1, fun b o v hb hc => k.2 b o v hb (h.2 b o v hb hc)⟩
theorem Kp.alloc (A : Nat) (W : World) (o : Obj) : Kp A W (W.alloc o) := ⟨by simp, fun b q v _ hc => Lib.cell?_alloc_some _ hc⟩
theorem Kp.below {A : Nat} {W W' : World} (h : Below W.heap.size W W') : Kp A W W' :=
  ⟨h.size, fun b o v _ hc => (h.cell (p := ⟨b, o, none⟩) (by
    apply Classical.byContradiction; intro hn
    have : W.heap[b]? = none := Array.getElem?_eq_none (by simpa using hn)
    simp [World.cell?, this] at hc)).trans hc⟩

def decN (n : Int) (b : Bool) : Int := if b then n - 1 else n
def setF (f : Nat → Bool) (i : Nat) : Nat → Bool := fun j => if j = i then true else f j
/-- The set that is told by itself. -/
def ownS (up : List Int) (least : Int) (f : Nat → Bool) (h n : Int) : List (List Int) := if n = 0 ∧ least ≤ h then [pickL up f true up.length] else []
/-- The sets that go on from a set that is begun, from element i on. -/
def lp (up : List Int) (must : Nat → Bool) (least most : Int) : Nat → (Nat → Bool) → Nat → Int → Int → List (List Int)
  | 0, _, _, _, _ => []
  | k + 1, f, i, h, n => if i < up.length ∧ least ≤ h + (up.length : Int) - (i : Int) then
      (if h + 1 + decN n (must i) ≤ most then ownS up least (setF f i) (h + 1) (decN n (must i)) ++ lp up must least most k (setF f i) (i + 1) (h + 1) (decN n (must i)) else []) ++
      (if must i = true then [] else lp up must least most k f (i + 1) h n) else []

theorem with_any (f : Nat → Bool) (i : Nat) (hi : i < 64) (at_ have_ needed : Int) (must : Bool) (h1 : 0 ≤ have_ ∧ have_ ≤ 1000) (h2 : -1000 ≤ needed ∧ needed ≤ 1000) (W : World) :
    Calls Tryz.prog 107 #[.agg (begV f at_ have_ needed), .int .i64 i, .bool must] W fun e w' => e = .returned (.agg (begV (setF f i) ((i : Int) + 1) (have_ + 1) (decN needed must))) ∧ Below W.heap.size W w' := by
  cases must
  · exact with_false f i hi at_ have_ needed h1 h2 W
  · exact with_true f i hi at_ have_ needed h1 h2 W

theorem r1_any (n lr Wb B : Nat) (f : Nat → Bool) (have_ least needed : Int) (sup : Value) (up : List Int) (hul : up.length ≤ 64) (S : World → Prop) (U : Bool → World → Prop)
    (hS : ∀ w, S w → w.cell? ⟨B, 66, none⟩ = some (.int .i64 needed) ∧ w.cell? ⟨B, 65, none⟩ = some (.int .i64 have_) ∧ w.cell? ⟨Wb, 4, none⟩ = some (.int .i64 least) ∧ w.cell? ⟨Wb, 3, none⟩ = some sup ∧ w.cell? ⟨Wb, 70, none⟩ = some (.func (.yield lr) #[] #[]))
    (hSr : ∀ w, S w → w.rangeAt B 0 (bits64 f).toList) (hSu : ∀ w, S w → Si w sup up)
    (hSb : ∀ w w', S w → Below w.heap.size w w' → S w') (I : World → Prop) (hIb : ∀ w w', I w → Below w.heap.size w w' → I w')
    (hY : needed = 0 → least ≤ have_ → ∀ v w, S w → I w → Si w v (pickL up f true up.length) → ∃ fn tmps assign body, (Instr.yield lr #[v]).run Tryz.prog w = .ok (.round lr fn tmps assign body) w ∧
      RoundIn Fence.wide (n - 1) Tryz.prog lr fn tmps assign body w fun e w' => ∃ b, e = .returned (.bool b) ∧ S w' ∧ U b w')
    (hI : ¬ (needed = 0 ∧ least ≤ have_) → ∀ w, I w → U true w)
    (Q : Exit → Act → World → Prop) (hQ : ∀ c (a : Act) d v w, Q (.panic c) (a.put d v) w → Q (.panic c) a w) {x1 x2 x4 x5 x6 x7 x8 x9 x10 x11 x12 x13 x14 x15 x16 x17 x18 x19 x20 x21 x22 x23 x24 x25 x26 x27 x28 x29 x30 x31 x32 x33 x34 x35 x36 x37 x38 x39 x40 x41 x42 x43 x44 x45 x46 x47 x48 x49 x50 x51 x52 x53 x54 x55 x56 x57 x58 x59 x60 x61 x62 x63 x64 x65 x66 x67 x68 x69 x70 x71 x72 x73 x74 x75 x76 x77 x78 x79 x80 x81 x82 x83 x84 x85 x86 x87 x88 x89 x90 x91 x92 x93 x94 x95 x96 x97 x98 : Value} {ds : List Deferred}
    (hN : ∀ b w (y7 y8 y9 y10 y11 y12 y13 y14 y15 y16 y17 y18 y19 y20 y21 y22 y23 y24 y25 y26 y27 y28 y29 y30 y31 y32 y33 y34 : Value), S w → U b w → Q .normal { tmps := (.pointer (some ⟨Wb, 0, none⟩) :: x1 :: x2 :: .pointer (some ⟨B, 0, none⟩) :: x4 :: x5 :: x6 :: y7 :: y8 :: y9 :: y10 :: y11 :: y12 :: y13 :: y14 :: y15 :: y16 :: y17 :: y18 :: y19 :: y20 :: y21 :: y22 :: y23 :: y24 :: y25 :: y26 :: y27 :: y28 :: y29 :: y30 :: y31 :: y32 :: y33 :: y34 :: .bool (!b) :: x36 :: x37 :: x38 :: x39 :: x40 :: x41 :: x42 :: x43 :: x44 :: x45 :: x46 :: x47 :: x48 :: x49 :: x50 :: x51 :: x52 :: x53 :: x54 :: x55 :: x56 :: x57 :: x58 :: x59 :: x60 :: x61 :: x62 :: x63 :: x64 :: x65 :: x66 :: x67 :: x68 :: x69 :: x70 :: x71 :: x72 :: x73 :: x74 :: x75 :: x76 :: x77 :: x78 :: x79 :: x80 :: x81 :: x82 :: x83 :: x84 :: x85 :: x86 :: x87 :: x88 :: x89 :: x90 :: x91 :: x92 :: x93 :: x94 :: x95 :: x96 :: x97 :: x98 :: []).toArray, defers := ds } w) (W : World) (h0 : S W) (h0i : I W) :
    (Code.region 1 #[{ dst := some 7, op := Op.fieldAddr 91 (Operand.tmp 3) 3, type := 0, pos := "walk.go:47", after := #[], guard := none },
    { dst := some 8, op := Op.load 3 (Operand.tmp 7), type := 3, pos := "walk.go:47", after := #[{ on := 0, ground := Ground.data }], guard := none },
    { dst := some 9, op := Op.binOp BinOp.eql 3 (Operand.tmp 8) (Operand.const (Value.int IntKind.i64 0)) 3, type := 4, pos := "walk.go:47", after := #[{ on := 1, ground := Ground.data }], guard := none },
    { dst := some 10, op := Op.move (Operand.tmp 9), type := 4, pos := "walk.go:47", after := #[{ on := 2, ground := Ground.data }], guard := none },
    { dst := some 11, op := Op.fieldAddr 91 (Operand.tmp 3) 2, type := 0, pos := "walk.go:47", after := #[{ on := 3, ground := Ground.guard }], guard := some (3, true) },
    { dst := some 12, op := Op.load 3 (Operand.tmp 11), type := 3, pos := "walk.go:47", after := #[{ on := 4, ground := Ground.data }, { on := 3, ground := Ground.guard }], guard := some (3, true) },
    { dst := some 13, op := Op.move (Operand.tmp 0), type := 86, pos := "walk.go:47", after := #[{ on := 3, ground := Ground.guard }], guard := some (3, true) },
    { dst := some 14, op := Op.nilCheck (Operand.tmp 13), type := 0, pos := "walk.go:47", after := #[{ on := 6, ground := Ground.data }, { on := 3, ground := Ground.guard }], guard := some (3, true) },
    { dst := some 15, op := Op.fieldAddr 88 (Operand.tmp 14) 0, type := 0, pos := "walk.go:47", after := #[{ on := 7, ground := Ground.data }, { on := 3, ground := Ground.guard }], guard := some (3, true) },
    { dst := some 16, op := Op.fieldAddr 37 (Operand.tmp 15) 4, type := 0, pos := "walk.go:47", after := #[{ on := 8, ground := Ground.data }, { on := 3, ground := Ground.guard }], guard := some (3, true) },
    { dst := some 17, op := Op.load 3 (Operand.tmp 16), type := 3, pos := "walk.go:47", after := #[{ on := 9, ground := Ground.data }, { on := 3, ground := Ground.guard }], guard := some (3, true) },
    { dst := some 18, op := Op.binOp BinOp.geq 3 (Operand.tmp 12) (Operand.tmp 17) 3, type := 4, pos := "walk.go:47", after := #[{ on := 5, ground := Ground.data }, { on := 10, ground := Ground.data }, { on := 3, ground := Ground.guard }], guard := some (3, true) },
    { dst := some 19, op := Op.pick (Operand.tmp 10) (Operand.tmp 18) (Operand.const (Value.bool false)), type := 4, pos := "walk.go:47", after := #[{ on := 3, ground := Ground.data }, { on := 11, ground := Ground.data }], guard := none },
    { dst := some 20, op := Op.move (Operand.tmp 19), type := 4, pos := "walk.go:47", after := #[{ on := 12, ground := Ground.data }, { on := 3, ground := Ground.chain }], guard := none },
    { dst := some 21, op := Op.move (Operand.tmp 0), type := 86, pos := "walk.go:47", after := #[{ on := 13, ground := Ground.guard }], guard := some (13, true) },
    { dst := some 22, op := Op.nilCheck (Operand.tmp 21), type := 0, pos := "walk.go:47", after := #[{ on := 14, ground := Ground.data }, { on := 13, ground := Ground.guard }], guard := some (13, true) },
    { dst := some 23, op := Op.fieldAddr 88 (Operand.tmp 22) 2, type := 0, pos := "walk.go:47", after := #[{ on := 15, ground := Ground.data }, { on := 13, ground := Ground.guard }], guard := some (13, true) },
    { dst := some 24, op := Op.load 32 (Operand.tmp 23), type := 32, pos := "walk.go:47", after := #[{ on := 16, ground := Ground.data }, { on := 13, ground := Ground.guard }], guard := some (13, true) },
    { dst := some 25, op := Op.move (Operand.tmp 0), type := 86, pos := "walk.go:47", after := #[{ on := 13, ground := Ground.guard }], guard := some (13, true) },
    { dst := some 26, op := Op.nilCheck (Operand.tmp 25), type := 0, pos := "walk.go:47", after := #[{ on := 18, ground := Ground.data }, { on := 13, ground := Ground.guard }], guard := some (13, true) },
    { dst := some 27, op := Op.fieldAddr 88 (Operand.tmp 26) 0, type := 0, pos := "walk.go:47", after := #[{ on := 19, ground := Ground.data }, { on := 13, ground := Ground.guard }], guard := some (13, true) },
    { dst := some 28, op := Op.fieldAddr 37 (Operand.tmp 27) 3, type := 0, pos := "walk.go:47", after := #[{ on := 20, ground := Ground.data }, { on := 13, ground := Ground.guard }], guard := some (13, true) },
    { dst := some 29, op := Op.load 22 (Operand.tmp 28), type := 22, pos := "walk.go:47", after := #[{ on := 21, ground := Ground.data }, { on := 13, ground := Ground.guard }], guard := some (13, true) },
    { dst := some 30, op := Op.fieldAddr 91 (Operand.tmp 3) 0, type := 0, pos := "walk.go:47", after := #[{ on := 13, ground := Ground.guard }], guard := some (13, true) },
    { dst := some 31, op := Op.load 62 (Operand.tmp 30), type := 62, pos := "walk.go:47", after := #[{ on := 23, ground := Ground.data }, { on := 13, ground := Ground.guard }], guard := some (13, true) },
    { dst := some 32, op := Op.call { callee := Callee.value (Operand.func 62), args := #[Operand.tmp 29, Operand.tmp 31, Operand.const (Value.bool true)], argTypes := #[22, 62, 4] }, type := 22, pos := "walk.go:47", after := #[{ on := 22, ground := Ground.data }, { on := 24, ground := Ground.data }, { on := 13, ground := Ground.chain }, { on := 13, ground := Ground.guard }], guard := some (13, true) },
    { dst := some 33, op := Op.call { callee := Callee.value (Operand.tmp 24), args := #[Operand.tmp 32], argTypes := #[22] }, type := 4, pos := "walk.go:47", after := #[{ on := 17, ground := Ground.data }, { on := 25, ground := Ground.data }, { on := 25, ground := Ground.chain }, { on := 13, ground := Ground.guard }], guard := some (13, true) },
    { dst := some 34, op := Op.unOp UnOp.not 4 (Operand.tmp 33), type := 4, pos := "walk.go:47", after := #[{ on := 26, ground := Ground.data }, { on := 13, ground := Ground.guard }], guard := some (13, true) },
    { dst := some 35, op := Op.pick (Operand.tmp 20) (Operand.tmp 34) (Operand.const (Value.bool false)), type := 4, pos := "walk.go:47", after := #[{ on := 13, ground := Ground.data }, { on := 27, ground := Ground.data }], guard := none }] true).wpIn Fence.wide n Tryz.prog Q { tmps := (.pointer (some ⟨Wb, 0, none⟩) :: x1 :: x2 :: .pointer (some ⟨B, 0, none⟩) :: x4 :: x5 :: x6 :: x7 :: x8 :: x9 :: x10 :: x11 :: x12 :: x13 :: x14 :: x15 :: x16 :: x17 :: x18 :: x19 :: x20 :: x21 :: x22 :: x23 :: x24 :: x25 :: x26 :: x27 :: x28 :: x29 :: x30 :: x31 :: x32 :: x33 :: x34 :: x35 :: x36 :: x37 :: x38 :: x39 :: x40 :: x41 :: x42 :: x43 :: x44 :: x45 :: x46 :: x47 :: x48 :: x49 :: x50 :: x51 :: x52 :: x53 :: x54 :: x55 :: x56 :: x57 :: x58 :: x59 :: x60 :: x61 :: x62 :: x63 :: x64 :: x65 :: x66 :: x67 :: x68 :: x69 :: x70 :: x71 :: x72 :: x73 :: x74 :: x75 :: x76 :: x77 :: x78 :: x79 :: x80 :: x81 :: x82 :: x83 :: x84 :: x85 :: x86 :: x87 :: x88 :: x89 :: x90 :: x91 :: x92 :: x93 :: x94 :: x95 :: x96 :: x97 :: x98 :: []).toArray, defers := ds } W := by
  by_cases hn : needed = 0
  · subst hn
    by_cases hl : least ≤ have_
    · exact r1_yes n lr Wb B f have_ least hl sup up hul S U hS hSr hSu hSb I hIb (hY rfl hl) Q hQ _ _ _ _ _ _ _ _ _ _ _ _ _ _ _ _ _ _ _ _ _ _ _ _ _ _ _ _ _ _ _ _ _ _ _ _ _ _ _ _ _ _ _ _ _ _ _ _ _ _ _ _ _ _ _ _ _ _ _ _ _ _ _ _ _ _ _ _ _ _ _ _ _ _ _ _ _ _ _ _ _ _ _ _ _ _ _ _ _ _ _ _ _ _ _ _ _ ds hN W h0 h0i
    · exact r1_no2 n Wb B have_ least hl (fun w => S w ∧ I w) (fun w h => ⟨(hS w h.1).1, (hS w h.1).2.1, (hS w h.1).2.2.1⟩) (fun w w' h hb => ⟨hSb _ _ h.1 hb, hIb _ _ h.2 hb⟩) Q hQ _ _ _ _ _ _ _ _ _ _ _ _ _ _ _ _ _ _ _ _ _ _ _ _ _ _ _ _ _ _ _ _ _ _ _ _ _ _ _ _ _ _ _ _ _ _ _ _ _ _ _ _ _ _ _ _ _ _ _ _ _ _ _ _ _ _ _ _ _ _ _ _ _ _ _ _ _ _ _ _ _ _ _ _ _ _ _ _ _ _ _ _ _ _ _ _ _ ds (fun w y7 y8 y9 y10 y11 y12 y13 y14 y15 y16 y17 y18 y19 y20 y21 y22 y23 y24 y25 y26 y27 y28 y29 y30 y31 y32 y33 y34 h => hN true w y7 y8 y9 y10 y11 y12 y13 y14 y15 y16 y17 y18 y19 y20 y21 y22 y23 y24 y25 y26 y27 y28 y29 y30 y31 y32 y33 y34 h.1 (hI (fun h => hl h.2) w h.2)) W ⟨h0, h0i⟩
  · exact r1_no1 n Wb B have_ least needed (by simpa using hn) (fun w => S w ∧ I w) (fun w h => ⟨(hS w h.1).1, (hS w h.1).2.1, (hS w h.1).2.2.1⟩) (fun w w' h hb => ⟨hSb _ _ h.1 hb, hIb _ _ h.2 hb⟩) Q hQ _ _ _ _ _ _ _ _ _ _ _ _ _ _ _ _ _ _ _ _ _ _ _ _ _ _ _ _ _ _ _ _ _ _ _ _ _ _ _ _ _ _ _ _ _ _ _ _ _ _ _ _ _ _ _ _ _ _ _ _ _ _ _ _ _ _ _ _ _ _ _ _ _ _ _ _ _ _ _ _ _ _ _ _ _ _ _ _ _ _ _ _ _ _ _ _ _ ds (fun w y7 y8 y9 y10 y11 y12 y13 y14 y15 y16 y17 y18 y19 y20 y21 y22 y23 y24 y25 y26 y27 y28 y29 y30 y31 y32 y33 y34 h => hN true w y7 y8 y9 y10 y11 y12 y13 y14 y15 y16 y17 y18 y19 y20 y21 y22 y23 y24 y25 y26 y27 y28 y29 y30 y31 y32 y33 y34 h.1 (hI (fun h => hn h.1) w h.2)) W ⟨h0, h0i⟩

theorem r7_any (n Wb R : Nat) (h1 n1 most : Int) (w1 : IntKind.i64.wrap (h1 + n1) = h1 + n1) (T : Array Value) (hTs : T.size = 67) (S : World → Prop) (U : Bool → World → Prop)
    (hS : ∀ w, S w → w.cell? ⟨R, 65, none⟩ = some (.int .i64 h1) ∧ w.cell? ⟨R, 66, none⟩ = some (.int .i64 n1) ∧ w.cell? ⟨Wb, 5, none⟩ = some (.int .i64 most))
    (hSb : ∀ w w', S w → Below w.heap.size w w' → S w')
    (hSr : ∀ w, S w → w.rangeAt R 0 T.toList) (I : World → Prop) (hIb : ∀ w w', I w → Below w.heap.size w w' → I w')
    (hC : h1 + n1 ≤ most → ∀ w, S w → I w → CallsIn Fence.wide (n - 1) Tryz.prog 83 #[.pointer (some ⟨Wb, 0, none⟩), .agg T] w fun e w' => ∃ b, e = .returned (.bool b) ∧ S w' ∧ U b w')
    (hI : ¬ h1 + n1 ≤ most → ∀ w, I w → U true w)
    (Q : Exit → Act → World → Prop) (hQ : ∀ c (a : Act) d v w, Q (.panic c) (a.put d v) w → Q (.panic c) a w) {x1 x2 x3 x4 x5 x7 x8 x9 x10 x11 x12 x13 x14 x15 x16 x17 x18 x19 x20 x21 x22 x23 x24 x25 x26 x27 x28 x29 x30 x31 x32 x33 x34 x35 x36 x37 x38 x39 x40 x41 x42 x43 x44 x45 x46 x47 x48 x49 x50 x51 x52 x53 x54 x55 x56 x57 x58 x59 x60 x61 x62 x63 x64 x65 x66 x67 x68 x69 x70 x71 x72 x73 x74 x75 x76 x77 x78 x79 x80 x81 x82 x83 x84 x85 x86 x87 x88 x89 x90 x91 x92 x93 x94 x95 x96 x97 x98 : Value} {ds : List Deferred} (W : World) (h0 : S W) (h0i : I W)
    (hN : ∀ b w (y76 y77 y78 y79 y80 y81 y82 y83 y84 y85 y86 y87 y88 y89 y90 y91 : Value), S w → U b w → Q .normal { tmps := (.pointer (some ⟨Wb, 0, none⟩) :: x1 :: x2 :: x3 :: x4 :: x5 :: .pointer (some ⟨R, 0, none⟩) :: x7 :: x8 :: x9 :: x10 :: x11 :: x12 :: x13 :: x14 :: x15 :: x16 :: x17 :: x18 :: x19 :: x20 :: x21 :: x22 :: x23 :: x24 :: x25 :: x26 :: x27 :: x28 :: x29 :: x30 :: x31 :: x32 :: x33 :: x34 :: x35 :: x36 :: x37 :: x38 :: x39 :: x40 :: x41 :: x42 :: x43 :: x44 :: x45 :: x46 :: x47 :: x48 :: x49 :: x50 :: x51 :: x52 :: x53 :: x54 :: x55 :: x56 :: x57 :: x58 :: x59 :: x60 :: x61 :: x62 :: x63 :: x64 :: x65 :: x66 :: x67 :: x68 :: x69 :: x70 :: x71 :: x72 :: x73 :: x74 :: x75 :: y76 :: y77 :: y78 :: y79 :: y80 :: y81 :: y82 :: y83 :: y84 :: y85 :: y86 :: y87 :: y88 :: y89 :: y90 :: y91 :: .bool (!b) :: x93 :: x94 :: x95 :: x96 :: x97 :: x98 :: []).toArray, defers := ds } w) :
    (Code.region 7 #[{ dst := some 76, op := Op.fieldAddr 91 (Operand.tmp 6) 2, type := 0, pos := "walk.go:52", after := #[], guard := none },
    { dst := some 77, op := Op.load 3 (Operand.tmp 76), type := 3, pos := "walk.go:52", after := #[{ on := 0, ground := Ground.data }], guard := none },
    { dst := some 78, op := Op.fieldAddr 91 (Operand.tmp 6) 3, type := 0, pos := "walk.go:52", after := #[], guard := none },
    { dst := some 79, op := Op.load 3 (Operand.tmp 78), type := 3, pos := "walk.go:52", after := #[{ on := 2, ground := Ground.data }], guard := none },
    { dst := some 80, op := Op.binOp BinOp.add 3 (Operand.tmp 77) (Operand.tmp 79) 3, type := 3, pos := "walk.go:52", after := #[{ on := 1, ground := Ground.data }, { on := 3, ground := Ground.data }], guard := none },
    { dst := some 81, op := Op.move (Operand.tmp 0), type := 86, pos := "walk.go:52", after := #[], guard := none },
    { dst := some 82, op := Op.nilCheck (Operand.tmp 81), type := 0, pos := "walk.go:52", after := #[{ on := 5, ground := Ground.data }], guard := none },
    { dst := some 83, op := Op.fieldAddr 88 (Operand.tmp 82) 0, type := 0, pos := "walk.go:52", after := #[{ on := 6, ground := Ground.data }], guard := none },
    { dst := some 84, op := Op.fieldAddr 37 (Operand.tmp 83) 5, type := 0, pos := "walk.go:52", after := #[{ on := 7, ground := Ground.data }], guard := none },
    { dst := some 85, op := Op.load 3 (Operand.tmp 84), type := 3, pos := "walk.go:52", after := #[{ on := 8, ground := Ground.data }], guard := none },
    { dst := some 86, op := Op.binOp BinOp.leq 3 (Operand.tmp 80) (Operand.tmp 85) 3, type := 4, pos := "walk.go:52", after := #[{ on := 4, ground := Ground.data }, { on := 9, ground := Ground.data }], guard := none },
    { dst := some 87, op := Op.move (Operand.tmp 86), type := 4, pos := "walk.go:52", after := #[{ on := 10, ground := Ground.data }], guard := none },
    { dst := some 88, op := Op.move (Operand.tmp 0), type := 86, pos := "walk.go:52", after := #[{ on := 11, ground := Ground.guard }], guard := some (11, true) },
    { dst := some 89, op := Op.load 91 (Operand.tmp 6), type := 91, pos := "walk.go:52", after := #[{ on := 11, ground := Ground.guard }], guard := some (11, true) },
    { dst := some 90, op := Op.call { callee := Callee.value (Operand.func 83), args := #[Operand.tmp 88, Operand.tmp 89], argTypes := #[86, 91] }, type := 4, pos := "walk.go:52", after := #[{ on := 12, ground := Ground.data }, { on := 13, ground := Ground.data }, { on := 11, ground := Ground.chain }, { on := 11, ground := Ground.guard }], guard := some (11, true) },
    { dst := some 91, op := Op.unOp UnOp.not 4 (Operand.tmp 90), type := 4, pos := "walk.go:52", after := #[{ on := 14, ground := Ground.data }, { on := 11, ground := Ground.guard }], guard := some (11, true) },
    { dst := some 92, op := Op.pick (Operand.tmp 87) (Operand.tmp 91) (Operand.const (Value.bool false)), type := 4, pos := "walk.go:52", after := #[{ on := 11, ground := Ground.data }, { on := 15, ground := Ground.data }], guard := none }] true).wpIn Fence.wide n Tryz.prog Q { tmps := (.pointer (some ⟨Wb, 0, none⟩) :: x1 :: x2 :: x3 :: x4 :: x5 :: .pointer (some ⟨R, 0, none⟩) :: x7 :: x8 :: x9 :: x10 :: x11 :: x12 :: x13 :: x14 :: x15 :: x16 :: x17 :: x18 :: x19 :: x20 :: x21 :: x22 :: x23 :: x24 :: x25 :: x26 :: x27 :: x28 :: x29 :: x30 :: x31 :: x32 :: x33 :: x34 :: x35 :: x36 :: x37 :: x38 :: x39 :: x40 :: x41 :: x42 :: x43 :: x44 :: x45 :: x46 :: x47 :: x48 :: x49 :: x50 :: x51 :: x52 :: x53 :: x54 :: x55 :: x56 :: x57 :: x58 :: x59 :: x60 :: x61 :: x62 :: x63 :: x64 :: x65 :: x66 :: x67 :: x68 :: x69 :: x70 :: x71 :: x72 :: x73 :: x74 :: x75 :: x76 :: x77 :: x78 :: x79 :: x80 :: x81 :: x82 :: x83 :: x84 :: x85 :: x86 :: x87 :: x88 :: x89 :: x90 :: x91 :: x92 :: x93 :: x94 :: x95 :: x96 :: x97 :: x98 :: []).toArray, defers := ds } W := by
  by_cases hm : h1 + n1 ≤ most
  · exact r7_yes n Wb R h1 n1 most hm w1 T hTs S U hS hSb hSr I hIb (hC hm) Q hQ _ _ _ _ _ _ _ _ _ _ _ _ _ _ _ _ _ _ _ _ _ _ _ _ _ _ _ _ _ _ _ _ _ _ _ _ _ _ _ _ _ _ _ _ _ _ _ _ _ _ _ _ _ _ _ _ _ _ _ _ _ _ _ _ _ _ _ _ _ _ _ _ _ _ _ _ _ _ _ _ _ _ _ _ _ _ _ _ _ _ _ _ _ _ _ _ _ ds W h0 h0i hN
  · exact r7_no n Wb R h1 n1 most hm w1 S hS hSb Q hQ _ _ _ _ _ _ _ _ _ _ _ _ _ _ _ _ _ _ _ _ _ _ _ _ _ _ _ _ _ _ _ _ _ _ _ _ _ _ _ _ _ _ _ _ _ _ _ _ _ _ _ _ _ _ _ _ _ _ _ _ _ _ _ _ _ _ _ _ _ _ _ _ _ _ _ _ _ _ _ _ _ _ _ _ _ _ _ _ _ _ _ _ _ _ _ _ _ ds W h0 (fun y76 y77 y78 y79 y80 y81 y82 y83 y84 y85 y86 y87 y88 y89 y90 y91 => hN true W.drew y76 y77 y78 y79 y80 y81 y82 y83 y84 y85 y86 y87 y88 y89 y90 y91 (hSb _ _ h0 (Below.drew (Below.refl _ W))) (hI hm _ (hIb _ _ h0i (Below.drew (Below.refl _ W)))))
end Go.Proofs.YtacnhkaibcjjgaaGreatDoor
