/-
  What is proved here: the first region of sets.walk.from, and picked, where it is told that what comes may be written.
-/
import Derived.Test.YtacnhkaibcjjgaaGreatDoorFe
namespace Go.Proofs.YtacnhkaibcjjgaaGreatDoor
open Go.RowKit Go.Shelf
set_option linter.unusedVariables false
set_option linter.unusedSimpArgs false

/-- A set in new memory of type [64]int64. -/
def Fr95 (B : Nat) (W : World) (s : Value) (l : List Int) : Prop :=
  ∃ A cap cur, s = .slice (some ⟨A, 0, none⟩) l.length cap ∧ B ≤ A ∧ W.heap[A]? = some (.cells cur 95 (0, 0)) ∧ ∀ i, i < l.length → cur[i]? = some (.int .i64 (nth l i))
/-- A slice of new memory of that type. -/
def Wr95 (W : World) (B : Nat) (s : Value) : Prop := ∃ A n cap cur, s = .slice (some ⟨A, 0, none⟩) n cap ∧ B ≤ A ∧ W.heap[A]? = some (.cells cur 95 (0, 0)) ∧ n ≤ cur.size
theorem Fr95.si {B : Nat} {W : World} {s : Value} {l : List Int} (h : Fr95 B W s l) : Si W s l := by
  obtain ⟨A, cap, cur, rfl, hB, hh, hc⟩ := h
  refine ⟨_, cap, rfl, fun _ => ⟨A, 0, rfl, (Array.getElem?_eq_some_iff.1 hh).1, fun i hi => ?_⟩⟩
  simp only [World.cell?, hh]
  rw [if_neg (by simp), Nat.zero_add]
  exact hc i hi
theorem Fr95.wr {B B' : Nat} {W : World} {s : Value} {l : List Int} (h : Fr95 B W s l) (hb : B' ≤ B) : Wr95 W B' s := by
  obtain ⟨A, cap, cur, rfl, hB, hh, hc⟩ := h
  refine ⟨A, _, cap, cur, rfl, Nat.le_trans hb hB, hh, ?_⟩
  by_cases h0 : l.length = 0
  · omega
  · have := (Array.getElem?_eq_some_iff.1 (hc (l.length - 1) (by omega))).1
    omega

set_option maxRecDepth 100000 in
set_option maxHeartbeats 2000000 in
theorem picked95 (s : Value) (l : List Int) (f : Nat → Bool) (wanted : Bool) (W : World) (h : Si W s l) (hlen : l.length ≤ 64) :
    Calls Tryz.prog 62 #[s, .agg (bits64 f), .bool wanted] W fun e w' => ∃ v, e = .returned v ∧ Fr95 W.heap.size w' v (pickL l f wanted l.length) ∧ Below W.heap.size W w' := by
  obtain ⟨a1, c1, rfl, hc1⟩ := h
  obtain ⟨n, hn⟩ : ∃ n, l.length = n := ⟨_, rfl⟩
  have HN : Hid (l.length = n) := hn
  rw [hn] at hc1 hlen ⊢
  have HC : Hid _ := hc1
  obtain ⟨hz, hzs⟩ := zero_of_info Tryz.info95
  rw [← rowI_nil] at hz
  obtain ⟨Z, hZ⟩ : ∃ Z : Array Value, rowI [] = Z := ⟨_, rfl⟩
  rw [hZ] at hz
  have HZ : Hid (rowI [] = Z) := hZ
  have hone := bits64_one f
  have hget := bits64_get f
  obtain ⟨F, hF⟩ : ∃ F, bits64 f = F := ⟨_, rfl⟩
  rw [hF] at hone hget ⊢
  have HG : Hid _ := hget
  clear hn hc1 hZ hzs hget hF
  go_enter Tryz.func62, Tryz.ntmps62
  go_wp2
  have hB0 : Below W.heap.size W ((W.alloc (Obj.cells F 62)).alloc (Obj.cells Z 95)) := ((Below.refl _ W).alloc (Nat.le_refl _) _).alloc (by simp) _
  have HR1 : Hid (((W.alloc (Obj.cells F 62)).alloc (Obj.cells Z 95)).heap[W.heap.size]? = some (.cells F 62 (0, 0))) := (Below.heap_alloc _ _ _ (by simp)).trans (World.alloc_heap_new W _)
  have HR2 : Hid (((W.alloc (Obj.cells F 62)).alloc (Obj.cells Z 95)).heap[W.heap.size + 1]? = some (.cells Z 95 (0, 0))) := by
    have := World.alloc_heap_new (W.alloc (Obj.cells F 62)) (Obj.cells Z 95); rwa [World.size_alloc] at this
  go_loopw [8, 13] (fun c i wr => ∃ k q : Nat, k ≤ n ∧ i = .int .i64 k ∧ c = .int .i64 q ∧ q ≤ k ∧ Hid (q = (pickL l f wanted k).length) ∧ Hid (wr.heap[W.heap.size]? = some (.cells F 62 (0, 0))) ∧ Hid (wr.heap[W.heap.size + 1]? = some (.cells (rowI (pickL l f wanted k)) 95 (0, 0))) ∧ Below W.heap.size W wr) (fun _ i _ => n - (intOf i).toNat)
  case atStart => exact ⟨0, 0, Nat.zero_le _, rfl, rfl, Nat.le_refl _, rfl, HR1.out, by unfold Hid; rw [HR2.out, ← HZ.out]; rfl, hB0⟩
  case round =>
    obtain ⟨k, q, hk, rfl, rfl, hqk, HQ, H1, H2, hB⟩ := hrel
    clear HR1 HR2 hB0
    by_cases hlt : k < n
    · obtain ⟨b1, off, rfl, hb1, hcell⟩ := HC.out (by omega)
      have d1 := (hB.cell (p := ⟨b1, off + k, none⟩) hb1).trans (hcell k hlt)
      have hlt' : (k : Int) < (n : Int) := by omega
      obtain ⟨x, hx⟩ : ∃ x, nth l k = x := ⟨_, rfl⟩
      have HX : Hid (nth l k = x) := hx
      rw [hx] at d1
      clear hcell hx
      have hk64 : k < 64 := by omega
      have hk64' : (k : Int) < 64 := by omega
      have hq64' : (q : Int) < 64 := by omega
      have c1 : wr.cell? ⟨W.heap.size, k, none⟩ = some (.bool (f k)) := by simp only [World.cell?, H1.out]; rw [if_neg (by simp)]; exact HG.out k hk64
      have c2 : wr.cell? ⟨W.heap.size + 1, q, none⟩ = some (.int .i64 (nth (pickL l f wanted k) q)) := by simp only [World.cell?, H2.out]; rw [if_neg (by simp)]; exact rowI_get _ q (by omega)
      have f2 : wr.frozen? ⟨W.heap.size + 1, q, none⟩ = false := by simp [World.frozen?, H2.out]
      have HS := pickL_succ l f wanted k
      have HSS : Hid (pickL l f wanted (k + 1) = pickL l f wanted k ++ (if f k == wanted then [nth l k] else [])) := HS
      obtain ⟨y, hy⟩ : ∃ y, nth (pickL l f wanted k) q = y := ⟨_, rfl⟩
      rw [hy] at c2
      clear HS hy
      obtain ⟨fk, hfk⟩ : ∃ fk, f k = fk := ⟨_, rfl⟩
      rw [hfk] at c1 HSS
      clear hfk
      by_cases he : fk = wanted
      · subst he
        rw [if_pos (by simp)] at HSS
        go_wp2
        go_roundw
        case rel =>
          refine ⟨k + 1, q + 1, by omega, by go_num, by go_num, by omega, ?_, ?_, ?_, hB.setCell (p := ⟨W.heap.size + 1, q, none⟩) (by show W.heap.size ≤ W.heap.size + 1; omega) _⟩
          · unfold Hid; rw [HSS.out, List.length_append, ← HQ.out]; rfl
          · unfold Hid; rw [heap_setCell_other _ _ _ _ (by simp)]; exact H1.out
          · unfold Hid; rw [row_set H2.out, HQ.out, rowI_snoc, HSS.out, HX.out]
        case measure => simp [intOf]; omega
      · rw [if_neg (by simpa using he)] at HSS
        have he1 : (fk == wanted) = false := by simpa using he
        go_wp2
        go_roundw
        case rel =>
          refine ⟨k + 1, q, by omega, by go_num, rfl, by omega, ?_, H1.out, ?_, hB⟩
          · unfold Hid; rw [HSS.out, List.append_nil]; exact HQ.out
          · unfold Hid; rw [HSS.out, List.append_nil]; exact H2.out
        case measure => simp [intOf]; omega
    · obtain rfl : k = n := by omega
      have hlt' : ¬ (k : Int) < (k : Int) := by omega
      have hq64 : q ≤ 64 := by omega
      have hq64' : (q : Int) ≤ 64 := by omega
      go_wp2
      go_ret
      refine ⟨_, rfl, ⟨W.heap.size + 1, q, _, by rw [← HQ.out]; rfl, by omega, H2.out, fun i hi => ?_⟩, hB⟩
      exact rowI_get _ i (by rw [← HQ.out] at hi; omega)

set_option maxRecDepth 100000 in
set_option maxHeartbeats 4000000 in
theorem r1_yes95 (n lr Wb B base : Nat) (f : Nat → Bool) (have_ least : Int) (hle : least ≤ have_) (sup : Value) (up : List Int) (hul : up.length ≤ 64) (S : World → Prop) (T : Bool → World → Prop)
    (hS : ∀ w, S w → w.cell? ⟨B, 66, none⟩ = some (.int .i64 0) ∧ w.cell? ⟨B, 65, none⟩ = some (.int .i64 have_) ∧ w.cell? ⟨Wb, 4, none⟩ = some (.int .i64 least) ∧ w.cell? ⟨Wb, 3, none⟩ = some sup ∧ w.cell? ⟨Wb, 70, none⟩ = some (.func (.yield lr) #[] #[]))
    (hSr : ∀ w, S w → w.rangeAt B 0 (bits64 f).toList) (hSu : ∀ w, S w → Si w sup up)
    (hSb : ∀ w w', S w → Below w.heap.size w w' → S w')
    (I : World → Prop) (hIb : ∀ w w', I w → Below w.heap.size w w' → I w')
    (hSz : ∀ w, S w → base ≤ w.heap.size) (hY : ∀ v w, S w → I w → Si w v (pickL up f true up.length) → Wr95 w base v → ∃ fn tmps assign body, (Instr.yield lr #[v]).run Tryz.prog w = .ok (.round lr fn tmps assign body) w ∧
      RoundIn Fence.wide (n - 1) Tryz.prog lr fn tmps assign body w fun e w' => ∃ b, e = .returned (.bool b) ∧ S w' ∧ T b w')
    (Q : Exit → Act → World → Prop) (hQ : ∀ c (a : Act) d v w, Q (.panic c) (a.put d v) w → Q (.panic c) a w) (x1 x2 x4 x5 x6 x7 x8 x9 x10 x11 x12 x13 x14 x15 x16 x17 x18 x19 x20 x21 x22 x23 x24 x25 x26 x27 x28 x29 x30 x31 x32 x33 x34 x35 x36 x37 x38 x39 x40 x41 x42 x43 x44 x45 x46 x47 x48 x49 x50 x51 x52 x53 x54 x55 x56 x57 x58 x59 x60 x61 x62 x63 x64 x65 x66 x67 x68 x69 x70 x71 x72 x73 x74 x75 x76 x77 x78 x79 x80 x81 x82 x83 x84 x85 x86 x87 x88 x89 x90 x91 x92 x93 x94 x95 x96 x97 x98 : Value) (ds : List Deferred)
    (hN : ∀ b w (y7 y8 y9 y10 y11 y12 y13 y14 y15 y16 y17 y18 y19 y20 y21 y22 y23 y24 y25 y26 y27 y28 y29 y30 y31 y32 y33 y34 : Value), S w → T b w → Q .normal { tmps := (.pointer (some ⟨Wb, 0, none⟩) :: x1 :: x2 :: .pointer (some ⟨B, 0, none⟩) :: x4 :: x5 :: x6 :: y7 :: y8 :: y9 :: y10 :: y11 :: y12 :: y13 :: y14 :: y15 :: y16 :: y17 :: y18 :: y19 :: y20 :: y21 :: y22 :: y23 :: y24 :: y25 :: y26 :: y27 :: y28 :: y29 :: y30 :: y31 :: y32 :: y33 :: y34 :: .bool (!b) :: x36 :: x37 :: x38 :: x39 :: x40 :: x41 :: x42 :: x43 :: x44 :: x45 :: x46 :: x47 :: x48 :: x49 :: x50 :: x51 :: x52 :: x53 :: x54 :: x55 :: x56 :: x57 :: x58 :: x59 :: x60 :: x61 :: x62 :: x63 :: x64 :: x65 :: x66 :: x67 :: x68 :: x69 :: x70 :: x71 :: x72 :: x73 :: x74 :: x75 :: x76 :: x77 :: x78 :: x79 :: x80 :: x81 :: x82 :: x83 :: x84 :: x85 :: x86 :: x87 :: x88 :: x89 :: x90 :: x91 :: x92 :: x93 :: x94 :: x95 :: x96 :: x97 :: x98 :: []).toArray, defers := ds } w) (W : World) (h0 : S W) (h0i : I W) :
    (Code.region 1 #[{ dst := some 7, op := Op.fieldAddr 91 (Operand.tmp 3) 3, type := 0, pos := "walk.go:47", after := #[], guard := none },
    { dst := some 8, op := Op.load 3 (Operand.tmp 7), type := 3, pos := "walk.go:47", after := #[{ on := 0, ground := Ground.data }], guard := none },
    { dst := some 9, op := Op.binOp BinOp.eql 3 (Operand.tmp 8) (Operand.const (Value.int IntKind.i64 0)) 3, type := 4, pos := "walk.go:47", after := #[{ on := 1, ground := Ground.data }], guard := none },
    { dst := some 10, op := Op.move (Operand.tmp 9), type := 4, pos := "walk.go:47", after := #[{ on := 2, ground := Ground.data }], guard := none },
    { dst := some 11, op := Op.fieldAddr 91 (Operand.tmp 3) 2, type := 0, pos := "walk.go:47", after := #[{ on := 3, ground := Ground.guard }], guard := some (3, true) },
    { dst := some 12, op := Op.load 3 (Operand.tmp 11), type := 3, pos := "walk.go:47", after := #[{ on := 4, ground := Ground.data }, { on := 3, ground := Ground.guard }], guard := some (3, true) },
    { dst := some 13, op := Op.move (Operand.tmp 0), type := 86, pos := "walk.go:47", after := #[{ on := 3, ground := Ground.guard }], guard := some (3, true) },
    { dst := some 14, op := Op.nilCheck (Operand.tmp 13), type := 0, pos := "walk.go:47", after := #[{ on := 6, ground := Ground.data }, { on := 3, ground := Ground.guard }], guard := some (3, true) },
    { dst := some 15, op := Op.fieldAddr 88 (Operand.tmp 14) 0, type := 0, pos := "walk.go:47", after := #[{ on := 7, ground := Ground.data }, { on := 3, ground := Ground.guard }], guard := some (3, true) },
    { dst := some 16, op := Op.fieldAddr 37 (Operand.tmp 15) 4, type := 0, pos := "walk.go:47", after := #[{ on := 8, ground := Ground.data }, { on := 3, ground := Ground.guard }], guard := some (3, true) },
    { dst := some 17, op := Op.load 3 (Operand.tmp 16), type := 3, pos := "walk.go:47", after := #[{ on := 9, ground := Ground.data }, { on := 3, ground := Ground.guard }], guard := some (3, true) },
    { dst := some 18, op := Op.binOp BinOp.geq 3 (Operand.tmp 12) (Operand.tmp 17) 3, type := 4, pos := "walk.go:47", after := #[{ on := 5, ground := Ground.data }, { on := 10, ground := Ground.data }, { on := 3, ground := Ground.guard }], guard := some (3, true) },
    { dst := some 19, op := Op.pick (Operand.tmp 10) (Operand.tmp 18) (Operand.const (Value.bool false)), type := 4, pos := "walk.go:47", after := #[{ on := 3, ground := Ground.data }, { on := 11, ground := Ground.data }], guard := none },
    { dst := some 20, op := Op.move (Operand.tmp 19), type := 4, pos := "walk.go:47", after := #[{ on := 12, ground := Ground.data }, { on := 3, ground := Ground.chain }], guard := none },
    { dst := some 21, op := Op.move (Operand.tmp 0), type := 86, pos := "walk.go:47", after := #[{ on := 13, ground := Ground.guard }], guard := some (13, true) },
    { dst := some 22, op := Op.nilCheck (Operand.tmp 21), type := 0, pos := "walk.go:47", after := #[{ on := 14, ground := Ground.data }, { on := 13, ground := Ground.guard }], guard := some (13, true) },
    { dst := some 23, op := Op.fieldAddr 88 (Operand.tmp 22) 2, type := 0, pos := "walk.go:47", after := #[{ on := 15, ground := Ground.data }, { on := 13, ground := Ground.guard }], guard := some (13, true) },
    { dst := some 24, op := Op.load 32 (Operand.tmp 23), type := 32, pos := "walk.go:47", after := #[{ on := 16, ground := Ground.data }, { on := 13, ground := Ground.guard }], guard := some (13, true) },
    { dst := some 25, op := Op.move (Operand.tmp 0), type := 86, pos := "walk.go:47", after := #[{ on := 13, ground := Ground.guard }], guard := some (13, true) },
    { dst := some 26, op := Op.nilCheck (Operand.tmp 25), type := 0, pos := "walk.go:47", after := #[{ on := 18, ground := Ground.data }, { on := 13, ground := Ground.guard }], guard := some (13, true) },
    { dst := some 27, op := Op.fieldAddr 88 (Operand.tmp 26) 0, type := 0, pos := "walk.go:47", after := #[{ on := 19, ground := Ground.data }, { on := 13, ground := Ground.guard }], guard := some (13, true) },
    { dst := some 28, op := Op.fieldAddr 37 (Operand.tmp 27) 3, type := 0, pos := "walk.go:47", after := #[{ on := 20, ground := Ground.data }, { on := 13, ground := Ground.guard }], guard := some (13, true) },
    { dst := some 29, op := Op.load 22 (Operand.tmp 28), type := 22, pos := "walk.go:47", after := #[{ on := 21, ground := Ground.data }, { on := 13, ground := Ground.guard }], guard := some (13, true) },
    { dst := some 30, op := Op.fieldAddr 91 (Operand.tmp 3) 0, type := 0, pos := "walk.go:47", after := #[{ on := 13, ground := Ground.guard }], guard := some (13, true) },
    { dst := some 31, op := Op.load 62 (Operand.tmp 30), type := 62, pos := "walk.go:47", after := #[{ on := 23, ground := Ground.data }, { on := 13, ground := Ground.guard }], guard := some (13, true) },
    { dst := some 32, op := Op.call { callee := Callee.value (Operand.func 62), args := #[Operand.tmp 29, Operand.tmp 31, Operand.const (Value.bool true)], argTypes := #[22, 62, 4] }, type := 22, pos := "walk.go:47", after := #[{ on := 22, ground := Ground.data }, { on := 24, ground := Ground.data }, { on := 13, ground := Ground.chain }, { on := 13, ground := Ground.guard }], guard := some (13, true) },
    { dst := some 33, op := Op.call { callee := Callee.value (Operand.tmp 24), args := #[Operand.tmp 32], argTypes := #[22] }, type := 4, pos := "walk.go:47", after := #[{ on := 17, ground := Ground.data }, { on := 25, ground := Ground.data }, { on := 25, ground := Ground.chain }, { on := 13, ground := Ground.guard }], guard := some (13, true) },
    { dst := some 34, op := Op.unOp UnOp.not 4 (Operand.tmp 33), type := 4, pos := "walk.go:47", after := #[{ on := 26, ground := Ground.data }, { on := 13, ground := Ground.guard }], guard := some (13, true) },
    { dst := some 35, op := Op.pick (Operand.tmp 20) (Operand.tmp 34) (Operand.const (Value.bool false)), type := 4, pos := "walk.go:47", after := #[{ on := 13, ground := Ground.data }, { on := 27, ground := Ground.data }], guard := none }] true).wpIn Fence.wide n Tryz.prog Q { tmps := (.pointer (some ⟨Wb, 0, none⟩) :: x1 :: x2 :: .pointer (some ⟨B, 0, none⟩) :: x4 :: x5 :: x6 :: x7 :: x8 :: x9 :: x10 :: x11 :: x12 :: x13 :: x14 :: x15 :: x16 :: x17 :: x18 :: x19 :: x20 :: x21 :: x22 :: x23 :: x24 :: x25 :: x26 :: x27 :: x28 :: x29 :: x30 :: x31 :: x32 :: x33 :: x34 :: x35 :: x36 :: x37 :: x38 :: x39 :: x40 :: x41 :: x42 :: x43 :: x44 :: x45 :: x46 :: x47 :: x48 :: x49 :: x50 :: x51 :: x52 :: x53 :: x54 :: x55 :: x56 :: x57 :: x58 :: x59 :: x60 :: x61 :: x62 :: x63 :: x64 :: x65 :: x66 :: x67 :: x68 :: x69 :: x70 :: x71 :: x72 :: x73 :: x74 :: x75 :: x76 :: x77 :: x78 :: x79 :: x80 :: x81 :: x82 :: x83 :: x84 :: x85 :: x86 :: x87 :: x88 :: x89 :: x90 :: x91 :: x92 :: x93 :: x94 :: x95 :: x96 :: x97 :: x98 :: []).toArray, defers := ds } W := by
  have hi62 : (Tryz.prog.info? 62).map (·.size) = some (bits64 f).toList.length := by
    rw [Array.length_toList, bits64_size]; kernel_rfl
  refine region_heldIn S (by kernel_rfl) ?_
  have hHeld : S { W with drawn := W.drawn + 1 } := hSb _ _ h0 (Below.drew (Below.refl _ W))
  have hI0 : I { W with drawn := W.drawn + 1 } := hIb _ _ h0i (Below.drew (Below.refl _ W))
  generalize { W with drawn := W.drawn + 1 } = W0 at hHeld hI0 ⊢
  clear h0 h0i W
  refine anyH_take (i := 0) (oi := { dst := some 7, op := Op.fieldAddr 91 (Operand.tmp 3) 3, type := 0, pos := "walk.go:47", after := #[], guard := none }) (v := ?_) (fun _ => trivial) rfl rfl (by kernel_rfl) (by kernel_rfl) (by kernel_rfl) (fun c a w h => hQ c a _ _ w h) (Or.inl ⟨by rfl, ?_⟩) hHeld ?_
  rotate_left
  · intro w hSw; have hSw := hS w hSw;  go_simp <;> with_reducible rfl
  simp only [Act.put, List.setIfInBounds_toArray, List.set_cons_zero, List.set_cons_succ]
  refine anyH_take (i := 1) (oi := { dst := some 8, op := Op.load 3 (Operand.tmp 7), type := 3, pos := "walk.go:47", after := #[{ on := 0, ground := Ground.data }], guard := none }) (v := ?_) (fun _ => trivial) rfl rfl (by kernel_rfl) (by kernel_rfl) (by kernel_rfl) (fun c a w h => hQ c a _ _ w h) (Or.inl ⟨by rfl, ?_⟩) hHeld ?_
  rotate_left
  · intro w hSw; have hSw := hS w hSw;  go_simp <;> with_reducible rfl
  simp only [Act.put, List.setIfInBounds_toArray, List.set_cons_zero, List.set_cons_succ]
  refine anyH_take (i := 2) (oi := { dst := some 9, op := Op.binOp BinOp.eql 3 (Operand.tmp 8) (Operand.const (Value.int IntKind.i64 0)) 3, type := 4, pos := "walk.go:47", after := #[{ on := 1, ground := Ground.data }], guard := none }) (v := ?_) (fun _ => trivial) rfl rfl (by kernel_rfl) (by kernel_rfl) (by kernel_rfl) (fun c a w h => hQ c a _ _ w h) (Or.inl ⟨by rfl, ?_⟩) hHeld ?_
  rotate_left
  · intro w hSw; have hSw := hS w hSw;  go_simp <;> with_reducible rfl
  simp only [Act.put, List.setIfInBounds_toArray, List.set_cons_zero, List.set_cons_succ]
  refine anyH_take (i := 3) (oi := { dst := some 10, op := Op.move (Operand.tmp 9), type := 4, pos := "walk.go:47", after := #[{ on := 2, ground := Ground.data }], guard := none }) (v := ?_) (fun _ => trivial) rfl rfl (by kernel_rfl) (by kernel_rfl) (by kernel_rfl) (fun c a w h => hQ c a _ _ w h) (Or.inl ⟨by rfl, ?_⟩) hHeld ?_
  rotate_left
  · intro w hSw; have hSw := hS w hSw;  go_simp <;> with_reducible rfl
  simp only [Act.put, List.setIfInBounds_toArray, List.set_cons_zero, List.set_cons_succ]
  refine anyH_take (i := 4) (oi := { dst := some 11, op := Op.fieldAddr 91 (Operand.tmp 3) 2, type := 0, pos := "walk.go:47", after := #[{ on := 3, ground := Ground.guard }], guard := some (3, true) }) (v := ?_) (fun _ => trivial) rfl rfl (by kernel_rfl) (by kernel_rfl) (by kernel_rfl) (fun c a w h => hQ c a _ _ w h) (Or.inl ⟨by rfl, ?_⟩) hHeld ?_
  rotate_left
  · intro w hSw; have hSw := hS w hSw;  go_simp <;> with_reducible rfl
  simp only [Act.put, List.setIfInBounds_toArray, List.set_cons_zero, List.set_cons_succ]
  refine anyH_take (i := 5) (oi := { dst := some 12, op := Op.load 3 (Operand.tmp 11), type := 3, pos := "walk.go:47", after := #[{ on := 4, ground := Ground.data }, { on := 3, ground := Ground.guard }], guard := some (3, true) }) (v := ?_) (fun _ => trivial) rfl rfl (by kernel_rfl) (by kernel_rfl) (by kernel_rfl) (fun c a w h => hQ c a _ _ w h) (Or.inl ⟨by rfl, ?_⟩) hHeld ?_
  rotate_left
  · intro w hSw; have hSw := hS w hSw;  go_simp <;> with_reducible rfl
  simp only [Act.put, List.setIfInBounds_toArray, List.set_cons_zero, List.set_cons_succ]
  refine anyH_take (i := 6) (oi := { dst := some 13, op := Op.move (Operand.tmp 0), type := 86, pos := "walk.go:47", after := #[{ on := 3, ground := Ground.guard }], guard := some (3, true) }) (v := ?_) (fun _ => trivial) rfl rfl (by kernel_rfl) (by kernel_rfl) (by kernel_rfl) (fun c a w h => hQ c a _ _ w h) (Or.inl ⟨by rfl, ?_⟩) hHeld ?_
  rotate_left
  · intro w hSw; have hSw := hS w hSw;  go_simp <;> with_reducible rfl
  simp only [Act.put, List.setIfInBounds_toArray, List.set_cons_zero, List.set_cons_succ]
  refine anyH_take (i := 7) (oi := { dst := some 14, op := Op.nilCheck (Operand.tmp 13), type := 0, pos := "walk.go:47", after := #[{ on := 6, ground := Ground.data }, { on := 3, ground := Ground.guard }], guard := some (3, true) }) (v := ?_) (fun _ => trivial) rfl rfl (by kernel_rfl) (by kernel_rfl) (by kernel_rfl) (fun c a w h => hQ c a _ _ w h) (Or.inl ⟨by rfl, ?_⟩) hHeld ?_
  rotate_left
  · intro w hSw; have hSw := hS w hSw;  go_simp <;> with_reducible rfl
  simp only [Act.put, List.setIfInBounds_toArray, List.set_cons_zero, List.set_cons_succ]
  refine anyH_take (i := 8) (oi := { dst := some 15, op := Op.fieldAddr 88 (Operand.tmp 14) 0, type := 0, pos := "walk.go:47", after := #[{ on := 7, ground := Ground.data }, { on := 3, ground := Ground.guard }], guard := some (3, true) }) (v := ?_) (fun _ => trivial) rfl rfl (by kernel_rfl) (by kernel_rfl) (by kernel_rfl) (fun c a w h => hQ c a _ _ w h) (Or.inl ⟨by rfl, ?_⟩) hHeld ?_
  rotate_left
  · intro w hSw; have hSw := hS w hSw;  go_simp <;> with_reducible rfl
  simp only [Act.put, List.setIfInBounds_toArray, List.set_cons_zero, List.set_cons_succ]
  refine anyH_take (i := 9) (oi := { dst := some 16, op := Op.fieldAddr 37 (Operand.tmp 15) 4, type := 0, pos := "walk.go:47", after := #[{ on := 8, ground := Ground.data }, { on := 3, ground := Ground.guard }], guard := some (3, true) }) (v := ?_) (fun _ => trivial) rfl rfl (by kernel_rfl) (by kernel_rfl) (by kernel_rfl) (fun c a w h => hQ c a _ _ w h) (Or.inl ⟨by rfl, ?_⟩) hHeld ?_
  rotate_left
  · intro w hSw; have hSw := hS w hSw;  go_simp <;> with_reducible rfl
  simp only [Act.put, List.setIfInBounds_toArray, List.set_cons_zero, List.set_cons_succ]
  refine anyH_take (i := 10) (oi := { dst := some 17, op := Op.load 3 (Operand.tmp 16), type := 3, pos := "walk.go:47", after := #[{ on := 9, ground := Ground.data }, { on := 3, ground := Ground.guard }], guard := some (3, true) }) (v := ?_) (fun _ => trivial) rfl rfl (by kernel_rfl) (by kernel_rfl) (by kernel_rfl) (fun c a w h => hQ c a _ _ w h) (Or.inl ⟨by rfl, ?_⟩) hHeld ?_
  rotate_left
  · intro w hSw; have hSw := hS w hSw;  go_simp <;> with_reducible rfl
  simp only [Act.put, List.setIfInBounds_toArray, List.set_cons_zero, List.set_cons_succ]
  refine anyH_take (i := 11) (oi := { dst := some 18, op := Op.binOp BinOp.geq 3 (Operand.tmp 12) (Operand.tmp 17) 3, type := 4, pos := "walk.go:47", after := #[{ on := 5, ground := Ground.data }, { on := 10, ground := Ground.data }, { on := 3, ground := Ground.guard }], guard := some (3, true) }) (v := ?_) (fun _ => trivial) rfl rfl (by kernel_rfl) (by kernel_rfl) (by kernel_rfl) (fun c a w h => hQ c a _ _ w h) (Or.inl ⟨by rfl, ?_⟩) hHeld ?_
  rotate_left
  · intro w hSw; have hSw := hS w hSw;  go_simp <;> with_reducible rfl
  simp only [Act.put, List.setIfInBounds_toArray, List.set_cons_zero, List.set_cons_succ]
  refine anyH_take (i := 12) (oi := { dst := some 19, op := Op.pick (Operand.tmp 10) (Operand.tmp 18) (Operand.const (Value.bool false)), type := 4, pos := "walk.go:47", after := #[{ on := 3, ground := Ground.data }, { on := 11, ground := Ground.data }], guard := none }) (v := ?_) (fun _ => trivial) rfl rfl (by kernel_rfl) (by kernel_rfl) (by kernel_rfl) (fun c a w h => hQ c a _ _ w h) (Or.inl ⟨by rfl, ?_⟩) hHeld ?_
  rotate_left
  · intro w hSw; have hSw := hS w hSw;  go_simp <;> with_reducible rfl
  simp only [Act.put, List.setIfInBounds_toArray, List.set_cons_zero, List.set_cons_succ]
  refine anyH_take (i := 13) (oi := { dst := some 20, op := Op.move (Operand.tmp 19), type := 4, pos := "walk.go:47", after := #[{ on := 12, ground := Ground.data }, { on := 3, ground := Ground.chain }], guard := none }) (v := ?_) (fun _ => trivial) rfl rfl (by kernel_rfl) (by kernel_rfl) (by kernel_rfl) (fun c a w h => hQ c a _ _ w h) (Or.inl ⟨by rfl, ?_⟩) hHeld ?_
  rotate_left
  · intro w hSw; have hSw := hS w hSw;  go_simp <;> with_reducible rfl
  simp only [Act.put, List.setIfInBounds_toArray, List.set_cons_zero, List.set_cons_succ]
  refine anyH_take (i := 14) (oi := { dst := some 21, op := Op.move (Operand.tmp 0), type := 86, pos := "walk.go:47", after := #[{ on := 13, ground := Ground.guard }], guard := some (13, true) }) (v := ?_) (fun _ => trivial) rfl rfl (by kernel_rfl) (by kernel_rfl) (by kernel_rfl) (fun c a w h => hQ c a _ _ w h) (Or.inl ⟨by rfl, ?_⟩) hHeld ?_
  rotate_left
  · intro w hSw; have hSw := hS w hSw;  go_simp <;> with_reducible rfl
  simp only [Act.put, List.setIfInBounds_toArray, List.set_cons_zero, List.set_cons_succ]
  refine anyH_take (i := 15) (oi := { dst := some 22, op := Op.nilCheck (Operand.tmp 21), type := 0, pos := "walk.go:47", after := #[{ on := 14, ground := Ground.data }, { on := 13, ground := Ground.guard }], guard := some (13, true) }) (v := ?_) (fun _ => trivial) rfl rfl (by kernel_rfl) (by kernel_rfl) (by kernel_rfl) (fun c a w h => hQ c a _ _ w h) (Or.inl ⟨by rfl, ?_⟩) hHeld ?_
  rotate_left
  · intro w hSw; have hSw := hS w hSw;  go_simp <;> with_reducible rfl
  simp only [Act.put, List.setIfInBounds_toArray, List.set_cons_zero, List.set_cons_succ]
  refine anyH_take (i := 16) (oi := { dst := some 23, op := Op.fieldAddr 88 (Operand.tmp 22) 2, type := 0, pos := "walk.go:47", after := #[{ on := 15, ground := Ground.data }, { on := 13, ground := Ground.guard }], guard := some (13, true) }) (v := ?_) (fun _ => trivial) rfl rfl (by kernel_rfl) (by kernel_rfl) (by kernel_rfl) (fun c a w h => hQ c a _ _ w h) (Or.inl ⟨by rfl, ?_⟩) hHeld ?_
  rotate_left
  · intro w hSw; have hSw := hS w hSw;  go_simp <;> with_reducible rfl
  simp only [Act.put, List.setIfInBounds_toArray, List.set_cons_zero, List.set_cons_succ]
  refine anyH_take (i := 17) (oi := { dst := some 24, op := Op.load 32 (Operand.tmp 23), type := 32, pos := "walk.go:47", after := #[{ on := 16, ground := Ground.data }, { on := 13, ground := Ground.guard }], guard := some (13, true) }) (v := ?_) (fun _ => trivial) rfl rfl (by kernel_rfl) (by kernel_rfl) (by kernel_rfl) (fun c a w h => hQ c a _ _ w h) (Or.inl ⟨by rfl, ?_⟩) hHeld ?_
  rotate_left
  · intro w hSw; have hSw := hS w hSw;  go_simp <;> with_reducible rfl
  simp only [Act.put, List.setIfInBounds_toArray, List.set_cons_zero, List.set_cons_succ]
  refine anyH_take (i := 18) (oi := { dst := some 25, op := Op.move (Operand.tmp 0), type := 86, pos := "walk.go:47", after := #[{ on := 13, ground := Ground.guard }], guard := some (13, true) }) (v := ?_) (fun _ => trivial) rfl rfl (by kernel_rfl) (by kernel_rfl) (by kernel_rfl) (fun c a w h => hQ c a _ _ w h) (Or.inl ⟨by rfl, ?_⟩) hHeld ?_
  rotate_left
  · intro w hSw; have hSw := hS w hSw;  go_simp <;> with_reducible rfl
  simp only [Act.put, List.setIfInBounds_toArray, List.set_cons_zero, List.set_cons_succ]
  refine anyH_take (i := 19) (oi := { dst := some 26, op := Op.nilCheck (Operand.tmp 25), type := 0, pos := "walk.go:47", after := #[{ on := 18, ground := Ground.data }, { on := 13, ground := Ground.guard }], guard := some (13, true) }) (v := ?_) (fun _ => trivial) rfl rfl (by kernel_rfl) (by kernel_rfl) (by kernel_rfl) (fun c a w h => hQ c a _ _ w h) (Or.inl ⟨by rfl, ?_⟩) hHeld ?_
  rotate_left
  · intro w hSw; have hSw := hS w hSw;  go_simp <;> with_reducible rfl
  simp only [Act.put, List.setIfInBounds_toArray, List.set_cons_zero, List.set_cons_succ]
  refine anyH_take (i := 20) (oi := { dst := some 27, op := Op.fieldAddr 88 (Operand.tmp 26) 0, type := 0, pos := "walk.go:47", after := #[{ on := 19, ground := Ground.data }, { on := 13, ground := Ground.guard }], guard := some (13, true) }) (v := ?_) (fun _ => trivial) rfl rfl (by kernel_rfl) (by kernel_rfl) (by kernel_rfl) (fun c a w h => hQ c a _ _ w h) (Or.inl ⟨by rfl, ?_⟩) hHeld ?_
  rotate_left
  · intro w hSw; have hSw := hS w hSw;  go_simp <;> with_reducible rfl
  simp only [Act.put, List.setIfInBounds_toArray, List.set_cons_zero, List.set_cons_succ]
  refine anyH_take (i := 21) (oi := { dst := some 28, op := Op.fieldAddr 37 (Operand.tmp 27) 3, type := 0, pos := "walk.go:47", after := #[{ on := 20, ground := Ground.data }, { on := 13, ground := Ground.guard }], guard := some (13, true) }) (v := ?_) (fun _ => trivial) rfl rfl (by kernel_rfl) (by kernel_rfl) (by kernel_rfl) (fun c a w h => hQ c a _ _ w h) (Or.inl ⟨by rfl, ?_⟩) hHeld ?_
  rotate_left
  · intro w hSw; have hSw := hS w hSw;  go_simp <;> with_reducible rfl
  simp only [Act.put, List.setIfInBounds_toArray, List.set_cons_zero, List.set_cons_succ]
  refine anyH_take (i := 22) (oi := { dst := some 29, op := Op.load 22 (Operand.tmp 28), type := 22, pos := "walk.go:47", after := #[{ on := 21, ground := Ground.data }, { on := 13, ground := Ground.guard }], guard := some (13, true) }) (v := ?_) (fun _ => trivial) rfl rfl (by kernel_rfl) (by kernel_rfl) (by kernel_rfl) (fun c a w h => hQ c a _ _ w h) (Or.inl ⟨by rfl, ?_⟩) hHeld ?_
  rotate_left
  · intro w hSw; have hSw := hS w hSw;  go_simp <;> with_reducible rfl
  simp only [Act.put, List.setIfInBounds_toArray, List.set_cons_zero, List.set_cons_succ]
  refine anyH_take (i := 23) (oi := { dst := some 30, op := Op.fieldAddr 91 (Operand.tmp 3) 0, type := 0, pos := "walk.go:47", after := #[{ on := 13, ground := Ground.guard }], guard := some (13, true) }) (v := ?_) (fun _ => trivial) rfl rfl (by kernel_rfl) (by kernel_rfl) (by kernel_rfl) (fun c a w h => hQ c a _ _ w h) (Or.inl ⟨by rfl, ?_⟩) hHeld ?_
  rotate_left
  · intro w hSw; have hSw := hS w hSw;  go_simp <;> with_reducible rfl
  simp only [Act.put, List.setIfInBounds_toArray, List.set_cons_zero, List.set_cons_succ]
  refine anyH_take (i := 24) (oi := { dst := some 31, op := Op.load 62 (Operand.tmp 30), type := 62, pos := "walk.go:47", after := #[{ on := 23, ground := Ground.data }, { on := 13, ground := Ground.guard }], guard := some (13, true) }) (v := _) (fun _ => trivial) rfl rfl (by kernel_rfl) (by kernel_rfl) (by kernel_rfl) (fun c a w h => hQ c a _ _ w h) (yieldsIf_load_mid (by rfl) _ _ rfl _ _ rfl _ _ (fun w hw => hSr w hw) hu62 rfl hi62) hHeld ?_
  simp only [Act.put, List.setIfInBounds_toArray, List.set_cons_zero, List.set_cons_succ]
  rw [Array.toArray_toList]
  refine anyH_one (i := 25) (o := { dst := some 32, op := Op.call { callee := Callee.value (Operand.func 62), args := #[Operand.tmp 29, Operand.tmp 31, Operand.const (Value.bool true)], argTypes := #[22, 62, 4] }, type := 22, pos := "walk.go:47", after := #[{ on := 22, ground := Ground.data }, { on := 24, ground := Ground.data }, { on := 13, ground := Ground.chain }, { on := 13, ground := Ground.guard }], guard := some (13, true) }) (by kernel_rfl) rfl (by rfl) ?_
  intro K hK
  have hsz0 := hSz _ hHeld
  have hpk := picked95 sup up f true W0 (hSu _ hHeld) hul
  go_simp
  refine ⟨trivial, (fun h => nomatch h), (callsIn_wide.2 hpk).mono ?_⟩
  rintro e w1 ⟨v, rfl, hF, hb1⟩
  have hHeld1 := hSb _ _ hHeld hb1
  clear hHeld
  have hHeld := hHeld1
  refine hK _ _ hHeld ?_
  clear hK K hHeld1
  try simp only [Act.put, List.setIfInBounds_toArray, List.set_cons_zero, List.set_cons_succ]
  refine anyH_one (i := 26) (o := { dst := some 33, op := Op.call { callee := Callee.value (Operand.tmp 24), args := #[Operand.tmp 32], argTypes := #[22] }, type := 4, pos := "walk.go:47", after := #[{ on := 17, ground := Ground.data }, { on := 25, ground := Ground.data }, { on := 25, ground := Ground.chain }, { on := 13, ground := Ground.guard }], guard := some (13, true) }) (by kernel_rfl) rfl (by rfl) ?_
  intro K hK
  obtain ⟨fn, tmps, assign, body, hy, hRd⟩ := hY v w1 hHeld (hIb _ _ hI0 hb1) hF.si (hF.wr hsz0)
  go_simp
  refine ⟨(fun h => nomatch h), hRd.mono ?_⟩
  rintro e w2 ⟨b, rfl, hS2, hT2⟩
  clear hHeld
  have hHeld := hS2
  refine hK _ _ hHeld ?_
  clear hK K
  try simp only [Act.put, List.setIfInBounds_toArray, List.set_cons_zero, List.set_cons_succ]
  refine anyH_take (i := 27) (oi := { dst := some 34, op := Op.unOp UnOp.not 4 (Operand.tmp 33), type := 4, pos := "walk.go:47", after := #[{ on := 26, ground := Ground.data }, { on := 13, ground := Ground.guard }], guard := some (13, true) }) (v := ?_) (fun _ => trivial) rfl rfl (by kernel_rfl) (by kernel_rfl) (by kernel_rfl) (fun c a w h => hQ c a _ _ w h) (Or.inl ⟨by rfl, ?_⟩) hHeld ?_
  rotate_left
  · intro w hSw; have hSw := hS w hSw;  go_simp <;> with_reducible rfl
  simp only [Act.put, List.setIfInBounds_toArray, List.set_cons_zero, List.set_cons_succ]
  refine anyH_take (i := 28) (oi := { dst := some 35, op := Op.pick (Operand.tmp 20) (Operand.tmp 34) (Operand.const (Value.bool false)), type := 4, pos := "walk.go:47", after := #[{ on := 13, ground := Ground.data }, { on := 27, ground := Ground.data }], guard := none }) (v := ?_) (fun _ => trivial) rfl rfl (by kernel_rfl) (by kernel_rfl) (by kernel_rfl) (fun c a w h => hQ c a _ _ w h) (Or.inl ⟨by rfl, ?_⟩) hHeld ?_
  rotate_left
  · intro w hSw; have hSw := hS w hSw;  go_simp <;> with_reducible rfl
  simp only [Act.put, List.setIfInBounds_toArray, List.set_cons_zero, List.set_cons_succ]
  exact anyH_done (by kernel_rfl) (hN b w2 _ _ _ _ _ _ _ _ _ _ _ _ _ _ _ _ _ _ _ _ _ _ _ _ _ _ _ _ hS2 hT2) _


theorem r1_any95 (n lr Wb B base : Nat) (f : Nat → Bool) (have_ least needed : Int) (sup : Value) (up : List Int) (hul : up.length ≤ 64) (S : World → Prop) (U : Bool → World → Prop)
    (hS : ∀ w, S w → w.cell? ⟨B, 66, none⟩ = some (.int .i64 needed) ∧ w.cell? ⟨B, 65, none⟩ = some (.int .i64 have_) ∧ w.cell? ⟨Wb, 4, none⟩ = some (.int .i64 least) ∧ w.cell? ⟨Wb, 3, none⟩ = some sup ∧ w.cell? ⟨Wb, 70, none⟩ = some (.func (.yield lr) #[] #[]))
    (hSr : ∀ w, S w → w.rangeAt B 0 (bits64 f).toList) (hSu : ∀ w, S w → Si w sup up)
    (hSb : ∀ w w', S w → Below w.heap.size w w' → S w') (I : World → Prop) (hIb : ∀ w w', I w → Below w.heap.size w w' → I w')
    (hSz : ∀ w, S w → base ≤ w.heap.size) (hY : needed = 0 → least ≤ have_ → ∀ v w, S w → I w → Si w v (pickL up f true up.length) → Wr95 w base v → ∃ fn tmps assign body, (Instr.yield lr #[v]).run Tryz.prog w = .ok (.round lr fn tmps assign body) w ∧
      RoundIn Fence.wide (n - 1) Tryz.prog lr fn tmps assign body w fun e w' => ∃ b, e = .returned (.bool b) ∧ S w' ∧ U b w')
    (hI : ¬ (needed = 0 ∧ least ≤ have_) → ∀ w, I w → U true w)
    (Q : Exit → Act → World → Prop) (hQ : ∀ c (a : Act) d v w, Q (.panic c) (a.put d v) w → Q (.panic c) a w) {x1 x2 x4 x5 x6 x7 x8 x9 x10 x11 x12 x13 x14 x15 x16 x17 x18 x19 x20 x21 x22 x23 x24 x25 x26 x27 x28 x29 x30 x31 x32 x33 x34 x35 x36 x37 x38 x39 x40 x41 x42 x43 x44 x45 x46 x47 x48 x49 x50 x51 x52 x53 x54 x55 x56 x57 x58 x59 x60 x61 x62 x63 x64 x65 x66 x67 x68 x69 x70 x71 x72 x73 x74 x75 x76 x77 x78 x79 x80 x81 x82 x83 x84 x85 x86 x87 x88 x89 x90 x91 x92 x93 x94 x95 x96 x97 x98 : Value} {ds : List Deferred}
    (hN : ∀ b w (y7 y8 y9 y10 y11 y12 y13 y14 y15 y16 y17 y18 y19 y20 y21 y22 y23 y24 y25 y26 y27 y28 y29 y30 y31 y32 y33 y34 : Value), S w → U b w → Q .normal { tmps := (.pointer (some ⟨Wb, 0, none⟩) :: x1 :: x2 :: .pointer (some ⟨B, 0, none⟩) :: x4 :: x5 :: x6 :: y7 :: y8 :: y9 :: y10 :: y11 :: y12 :: y13 :: y14 :: y15 :: y16 :: y17 :: y18 :: y19 :: y20 :: y21 :: y22 :: y23 :: y24 :: y25 :: y26 :: y27 :: y28 :: y29 :: y30 :: y31 :: y32 :: y33 :: y34 :: .bool (!b) :: x36 :: x37 :: x38 :: x39 :: x40 :: x41 :: x42 :: x43 :: x44 :: x45 :: x46 :: x47 :: x48 :: x49 :: x50 :: x51 :: x52 :: x53 :: x54 :: x55 :: x56 :: x57 :: x58 :: x59 :: x60 :: x61 :: x62 :: x63 :: x64 :: x65 :: x66 :: x67 :: x68 :: x69 :: x70 :: x71 :: x72 :: x73 :: x74 :: x75 :: x76 :: x77 :: x78 :: x79 :: x80 :: x81 :: x82 :: x83 :: x84 :: x85 :: x86 :: x87 :: x88 :: x89 :: x90 :: x91 :: x92 :: x93 :: x94 :: x95 :: x96 :: x97 :: x98 :: []).toArray, defers := ds } w) (W : World) (h0 : S W) (h0i : I W) :
    (Code.region 1 #[{ dst := some 7, op := Op.fieldAddr 91 (Operand.tmp 3) 3, type := 0, pos := "walk.go:47", after := #[], guard := none },
    { dst := some 8, op := Op.load 3 (Operand.tmp 7), type := 3, pos := "walk.go:47", after := #[{ on := 0, ground := Ground.data }], guard := none },
    { dst := some 9, op := Op.binOp BinOp.eql 3 (Operand.tmp 8) (Operand.const (Value.int IntKind.i64 0)) 3, type := 4, pos := "walk.go:47", after := #[{ on := 1, ground := Ground.data }], guard := none },
    { dst := some 10, op := Op.move (Operand.tmp 9), type := 4, pos := "walk.go:47", after := #[{ on := 2, ground := Ground.data }], guard := none },
    { dst := some 11, op := Op.fieldAddr 91 (Operand.tmp 3) 2, type := 0, pos := "walk.go:47", after := #[{ on := 3, ground := Ground.guard }], guard := some (3, true) },
    { dst := some 12, op := Op.load 3 (Operand.tmp 11), type := 3, pos := "walk.go:47", after := #[{ on := 4, ground := Ground.data }, { on := 3, ground := Ground.guard }], guard := some (3, true) },
    { dst := some 13, op := Op.move (Operand.tmp 0), type := 86, pos := "walk.go:47", after := #[{ on := 3, ground := Ground.guard }], guard := some (3, true) },
    { dst := some 14, op := Op.nilCheck (Operand.tmp 13), type := 0, pos := "walk.go:47", after := #[{ on := 6, ground := Ground.data }, { on := 3, ground := Ground.guard }], guard := some (3, true) },
    { dst := some 15, op := Op.fieldAddr 88 (Operand.tmp 14) 0, type := 0, pos := "walk.go:47", after := #[{ on := 7, ground := Ground.data }, { on := 3, ground := Ground.guard }], guard := some (3, true) },
    { dst := some 16, op := Op.fieldAddr 37 (Operand.tmp 15) 4, type := 0, pos := "walk.go:47", after := #[{ on := 8, ground := Ground.data }, { on := 3, ground := Ground.guard }], guard := some (3, true) },
    { dst := some 17, op := Op.load 3 (Operand.tmp 16), type := 3, pos := "walk.go:47", after := #[{ on := 9, ground := Ground.data }, { on := 3, ground := Ground.guard }], guard := some (3, true) },
    { dst := some 18, op := Op.binOp BinOp.geq 3 (Operand.tmp 12) (Operand.tmp 17) 3, type := 4, pos := "walk.go:47", after := #[{ on := 5, ground := Ground.data }, { on := 10, ground := Ground.data }, { on := 3, ground := Ground.guard }], guard := some (3, true) },
    { dst := some 19, op := Op.pick (Operand.tmp 10) (Operand.tmp 18) (Operand.const (Value.bool false)), type := 4, pos := "walk.go:47", after := #[{ on := 3, ground := Ground.data }, { on := 11, ground := Ground.data }], guard := none },
    { dst := some 20, op := Op.move (Operand.tmp 19), type := 4, pos := "walk.go:47", after := #[{ on := 12, ground := Ground.data }, { on := 3, ground := Ground.chain }], guard := none },
    { dst := some 21, op := Op.move (Operand.tmp 0), type := 86, pos := "walk.go:47", after := #[{ on := 13, ground := Ground.guard }], guard := some (13, true) },
    { dst := some 22, op := Op.nilCheck (Operand.tmp 21), type := 0, pos := "walk.go:47", after := #[{ on := 14, ground := Ground.data }, { on := 13, ground := Ground.guard }], guard := some (13, true) },
    { dst := some 23, op := Op.fieldAddr 88 (Operand.tmp 22) 2, type := 0, pos := "walk.go:47", after := #[{ on := 15, ground := Ground.data }, { on := 13, ground := Ground.guard }], guard := some (13, true) },
    { dst := some 24, op := Op.load 32 (Operand.tmp 23), type := 32, pos := "walk.go:47", after := #[{ on := 16, ground := Ground.data }, { on := 13, ground := Ground.guard }], guard := some (13, true) },
    { dst := some 25, op := Op.move (Operand.tmp 0), type := 86, pos := "walk.go:47", after := #[{ on := 13, ground := Ground.guard }], guard := some (13, true) },
    { dst := some 26, op := Op.nilCheck (Operand.tmp 25), type := 0, pos := "walk.go:47", after := #[{ on := 18, ground := Ground.data }, { on := 13, ground := Ground.guard }], guard := some (13, true) },
    { dst := some 27, op := Op.fieldAddr 88 (Operand.tmp 26) 0, type := 0, pos := "walk.go:47", after := #[{ on := 19, ground := Ground.data }, { on := 13, ground := Ground.guard }], guard := some (13, true) },
    { dst := some 28, op := Op.fieldAddr 37 (Operand.tmp 27) 3, type := 0, pos := "walk.go:47", after := #[{ on := 20, ground := Ground.data }, { on := 13, ground := Ground.guard }], guard := some (13, true) },
    { dst := some 29, op := Op.load 22 (Operand.tmp 28), type := 22, pos := "walk.go:47", after := #[{ on := 21, ground := Ground.data }, { on := 13, ground := Ground.guard }], guard := some (13, true) },
    { dst := some 30, op := Op.fieldAddr 91 (Operand.tmp 3) 0, type := 0, pos := "walk.go:47", after := #[{ on := 13, ground := Ground.guard }], guard := some (13, true) },
    { dst := some 31, op := Op.load 62 (Operand.tmp 30), type := 62, pos := "walk.go:47", after := #[{ on := 23, ground := Ground.data }, { on := 13, ground := Ground.guard }], guard := some (13, true) },
    { dst := some 32, op := Op.call { callee := Callee.value (Operand.func 62), args := #[Operand.tmp 29, Operand.tmp 31, Operand.const (Value.bool true)], argTypes := #[22, 62, 4] }, type := 22, pos := "walk.go:47", after := #[{ on := 22, ground := Ground.data }, { on := 24, ground := Ground.data }, { on := 13, ground := Ground.chain }, { on := 13, ground := Ground.guard }], guard := some (13, true) },
    { dst := some 33, op := Op.call { callee := Callee.value (Operand.tmp 24), args := #[Operand.tmp 32], argTypes := #[22] }, type := 4, pos := "walk.go:47", after := #[{ on := 17, ground := Ground.data }, { on := 25, ground := Ground.data }, { on := 25, ground := Ground.chain }, { on := 13, ground := Ground.guard }], guard := some (13, true) },
    { dst := some 34, op := Op.unOp UnOp.not 4 (Operand.tmp 33), type := 4, pos := "walk.go:47", after := #[{ on := 26, ground := Ground.data }, { on := 13, ground := Ground.guard }], guard := some (13, true) },
    { dst := some 35, op := Op.pick (Operand.tmp 20) (Operand.tmp 34) (Operand.const (Value.bool false)), type := 4, pos := "walk.go:47", after := #[{ on := 13, ground := Ground.data }, { on := 27, ground := Ground.data }], guard := none }] true).wpIn Fence.wide n Tryz.prog Q { tmps := (.pointer (some ⟨Wb, 0, none⟩) :: x1 :: x2 :: .pointer (some ⟨B, 0, none⟩) :: x4 :: x5 :: x6 :: x7 :: x8 :: x9 :: x10 :: x11 :: x12 :: x13 :: x14 :: x15 :: x16 :: x17 :: x18 :: x19 :: x20 :: x21 :: x22 :: x23 :: x24 :: x25 :: x26 :: x27 :: x28 :: x29 :: x30 :: x31 :: x32 :: x33 :: x34 :: x35 :: x36 :: x37 :: x38 :: x39 :: x40 :: x41 :: x42 :: x43 :: x44 :: x45 :: x46 :: x47 :: x48 :: x49 :: x50 :: x51 :: x52 :: x53 :: x54 :: x55 :: x56 :: x57 :: x58 :: x59 :: x60 :: x61 :: x62 :: x63 :: x64 :: x65 :: x66 :: x67 :: x68 :: x69 :: x70 :: x71 :: x72 :: x73 :: x74 :: x75 :: x76 :: x77 :: x78 :: x79 :: x80 :: x81 :: x82 :: x83 :: x84 :: x85 :: x86 :: x87 :: x88 :: x89 :: x90 :: x91 :: x92 :: x93 :: x94 :: x95 :: x96 :: x97 :: x98 :: []).toArray, defers := ds } W := by
  by_cases hn : needed = 0
  · subst hn
    by_cases hl : least ≤ have_
    · exact r1_yes95 n lr Wb B base f have_ least hl sup up hul S U hS hSr hSu hSb I hIb hSz (hY rfl hl) Q hQ _ _ _ _ _ _ _ _ _ _ _ _ _ _ _ _ _ _ _ _ _ _ _ _ _ _ _ _ _ _ _ _ _ _ _ _ _ _ _ _ _ _ _ _ _ _ _ _ _ _ _ _ _ _ _ _ _ _ _ _ _ _ _ _ _ _ _ _ _ _ _ _ _ _ _ _ _ _ _ _ _ _ _ _ _ _ _ _ _ _ _ _ _ _ _ _ _ ds hN W h0 h0i
    · exact r1_no2 n Wb B have_ least hl (fun w => S w ∧ I w) (fun w h => ⟨(hS w h.1).1, (hS w h.1).2.1, (hS w h.1).2.2.1⟩) (fun w w' h hb => ⟨hSb _ _ h.1 hb, hIb _ _ h.2 hb⟩) Q hQ _ _ _ _ _ _ _ _ _ _ _ _ _ _ _ _ _ _ _ _ _ _ _ _ _ _ _ _ _ _ _ _ _ _ _ _ _ _ _ _ _ _ _ _ _ _ _ _ _ _ _ _ _ _ _ _ _ _ _ _ _ _ _ _ _ _ _ _ _ _ _ _ _ _ _ _ _ _ _ _ _ _ _ _ _ _ _ _ _ _ _ _ _ _ _ _ _ ds (fun w y7 y8 y9 y10 y11 y12 y13 y14 y15 y16 y17 y18 y19 y20 y21 y22 y23 y24 y25 y26 y27 y28 y29 y30 y31 y32 y33 y34 h => hN true w y7 y8 y9 y10 y11 y12 y13 y14 y15 y16 y17 y18 y19 y20 y21 y22 y23 y24 y25 y26 y27 y28 y29 y30 y31 y32 y33 y34 h.1 (hI (fun h => hl h.2) w h.2)) W ⟨h0, h0i⟩
  · exact r1_no1 n Wb B have_ least needed (by simpa using hn) (fun w => S w ∧ I w) (fun w h => ⟨(hS w h.1).1, (hS w h.1).2.1, (hS w h.1).2.2.1⟩) (fun w w' h hb => ⟨hSb _ _ h.1 hb, hIb _ _ h.2 hb⟩) Q hQ _ _ _ _ _ _ _ _ _ _ _ _ _ _ _ _ _ _ _ _ _ _ _ _ _ _ _ _ _ _ _ _ _ _ _ _ _ _ _ _ _ _ _ _ _ _ _ _ _ _ _ _ _ _ _ _ _ _ _ _ _ _ _ _ _ _ _ _ _ _ _ _ _ _ _ _ _ _ _ _ _ _ _ _ _ _ _ _ _ _ _ _ _ _ _ _ _ ds (fun w y7 y8 y9 y10 y11 y12 y13 y14 y15 y16 y17 y18 y19 y20 y21 y22 y23 y24 y25 y26 y27 y28 y29 y30 y31 y32 y33 y34 h => hN true w y7 y8 y9 y10 y11 y12 y13 y14 y15 y16 y17 y18 y19 y20 y21 y22 y23 y24 y25 y26 y27 y28 y29 y30 y31 y32 y33 y34 h.1 (hI (fun h => hn h.1) w h.2)) W ⟨h0, h0i⟩

end Go.Proofs.YtacnhkaibcjjgaaGreatDoor
