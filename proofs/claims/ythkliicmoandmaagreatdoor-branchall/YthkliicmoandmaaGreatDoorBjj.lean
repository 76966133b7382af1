/-
  What is proved here: a decision as text; the other one of a decision.
  What is proved here: a decision applied to a domain.
  What is proved here: what must come of fixed calls comes.
-/
import Derived.Test.YthkliicmoandmaaGreatDoorBgj
import Derived.Test.YthkliicmoandmaaGreatDoorSi
import Derived.Deep.RegionHeld3
import Derived.Test.YthkliicmoandmaaGreatDoorCaj
import Derived.Lib.MinMax
import Derived.Lib.SliceRun
namespace Go.Proofs.YthkliicmoandmaaGreatDoor
open Go.RowKit Go.Shelf
set_option linter.unusedVariables false
set_option linter.unusedSimpArgs false

/-- How one of the six is written. -/
def sgB (op : Int) : ByteArray := if op = 0 then ⟨#[61]⟩ else if op = 1 then ⟨#[33, 61]⟩ else if op = 2 then ⟨#[60, 61]⟩ else if op = 3 then ⟨#[62]⟩ else if op = 4 then ⟨#[104, 97, 115]⟩ else ⟨#[108, 97, 99, 107, 115]⟩
theorem ite_size {p : Prop} [Decidable p] {a b : ByteArray} (ha : a.size ≤ 10) (hb : b.size ≤ 10) : (if p then a else b).size ≤ 10 := by split <;> assumption
theorem sg_size (op : Int) : (sgB op).size ≤ 10 := ite_size (by decide) (ite_size (by decide) (ite_size (by decide) (ite_size (by decide) (ite_size (by decide) (by decide)))))
def knB (op : Int) : Bool := decide (0 ≤ op) && decide (op ≤ 5)

set_option maxRecDepth 100000 in
set_option maxHeartbeats 4000000 in
theorem bknown_any (op : Int) (W : World) : Calls Tryz.prog 58 #[.int .i64 op] W fun e w' => e = .returned (.bool (knB op)) ∧ w' = W := by
  have HM : Hid (knB op = (decide (0 ≤ op) && decide (op ≤ 5))) := rfl
  rw [HM.out]
  by_cases h : 0 ≤ op
  · have hd : decide (0 ≤ op) = true := by simpa using h
    go_enter Tryz.func58, Tryz.ntmps58
    go_wp2
    go_ret
    exact ⟨ret_bool (by simp [h]), rfl⟩
  · have hd : decide (0 ≤ op) = false := by simpa using h
    go_enter Tryz.func58, Tryz.ntmps58
    go_wp2
    go_ret
    exact ⟨ret_bool (by simp [hd]), rfl⟩

set_option maxRecDepth 100000 in
set_option maxHeartbeats 4000000 in
theorem sign_any (op : Int) (W : World) : Calls Tryz.prog 62 #[.int .i64 op] W fun e w' => e = .returned (.string (sgB op)) ∧ w' = W := by
  have HM : Hid (sgB op = if op = 0 then ⟨#[61]⟩ else if op = 1 then ⟨#[33, 61]⟩ else if op = 2 then ⟨#[60, 61]⟩ else if op = 3 then ⟨#[62]⟩ else if op = 4 then ⟨#[104, 97, 115]⟩ else ⟨#[108, 97, 99, 107, 115]⟩) := rfl
  by_cases h0 : op = 0
  · subst h0
    go_enter Tryz.func62, Tryz.ntmps62
    go_wp2
    go_ret
    exact ⟨by rw [HM.out]; rfl, rfl⟩
  · have e0 : (op == 0) = false := by simpa using h0
    by_cases h1 : op = 1
    · subst h1
      go_enter Tryz.func62, Tryz.ntmps62
      go_wp2
      go_ret
      exact ⟨by rw [HM.out]; rfl, rfl⟩
    · have e1 : (op == 1) = false := by simpa using h1
      by_cases h2 : op = 2
      · subst h2
        go_enter Tryz.func62, Tryz.ntmps62
        go_wp2
        go_ret
        exact ⟨by rw [HM.out]; rfl, rfl⟩
      · have e2 : (op == 2) = false := by simpa using h2
        by_cases h3 : op = 3
        · subst h3
          go_enter Tryz.func62, Tryz.ntmps62
          go_wp2
          go_ret
          exact ⟨by rw [HM.out]; rfl, rfl⟩
        · have e3 : (op == 3) = false := by simpa using h3
          by_cases h4 : op = 4
          · subst h4
            go_enter Tryz.func62, Tryz.ntmps62
            go_wp2
            go_ret
            exact ⟨by rw [HM.out]; rfl, rfl⟩
          · have e4 : (op == 4) = false := by simpa using h4
            go_enter Tryz.func62, Tryz.ntmps62
            go_wp2
            go_ret
            exact ⟨by rw [HM.out, if_neg h0, if_neg h1, if_neg h2, if_neg h3, if_neg h4]; rfl, rfl⟩
/-- A decision as text, where its numbers are a and b as text. -/
def txB (a : ByteArray) (op : Int) (b : ByteArray) : ByteArray := ⟨#[120]⟩ ++ a ++ ⟨#[32]⟩ ++ sgB op ++ ⟨#[32]⟩ ++ b

set_option maxRecDepth 100000 in
set_option maxHeartbeats 4000000 in
theorem text_any {W : World} (v op n : Int) (a b : ByteArray) (hop : knB op = true) (ha : a.size ≤ 1000) (hb : b.size ≤ 1000) (hI : ∀ X, Below W.heap.size W X → Calls Tryz.prog 61 #[.int .i64 v] X fun e w' => e = .returned (.string a) ∧ Below X.heap.size X w')
    (hF : ∀ X, Below W.heap.size W X → Calls Tryz.prog 63 #[.int .i64 n, .int .i64 10] X fun e w' => e = .returned (.string b) ∧ Below X.heap.size X w') :
    Calls Tryz.prog 27 #[.agg #[.int .i64 v, .int .i64 op, .int .i64 n]] W fun e w' => e = .returned (.string (txB a op b)) ∧ Below W.heap.size W w' := by
  obtain ⟨N, hN⟩ : ∃ N, W.heap.size = N := ⟨_, rfl⟩
  obtain ⟨W0, hW0⟩ : ∃ Q, W.alloc (Obj.cells #[.int .i64 v, .int .i64 op, .int .i64 n] 32) = Q := ⟨_, rfl⟩
  have hb0 : Below W.heap.size W W0 := by rw [← hW0]; exact (Below.refl _ W).alloc (Nat.le_refl _) _
  have HX : Hid (Bx W0 N #[.int .i64 v, .int .i64 op, .int .i64 n] 32) := by rw [← hW0]; exact Bx.new' hN _ _
  have HI : Hid (∀ X, Below W0.heap.size W0 X → Calls Tryz.prog 61 #[.int .i64 v] X fun e w' => e = .returned (.string a) ∧ Below X.heap.size X w') := fun X hX => hI X (hb0.trans (hX.mono hb0.size))
  have HF : Hid (∀ X, Below W0.heap.size W0 X → Calls Tryz.prog 63 #[.int .i64 n, .int .i64 10] X fun e w' => e = .returned (.string b) ∧ Below X.heap.size X w') := fun X hX => hF X (hb0.trans (hX.mono hb0.size))
  have HBW : Hid (Below W.heap.size W W0) := hb0
  have HB0 : Hid (Below W0.heap.size W0 W0.drew) := (Below.refl _ _).drew
  have HX0 : Hid _ := HX.out.drew 1
  have HW0 : Hid _ := hW0
  have HN : Hid (W.heap.size = N) := hN
  have HTX : Hid (txB a op b = ⟨#[120]⟩ ++ a ++ ⟨#[32]⟩ ++ sgB op ++ ⟨#[32]⟩ ++ b) := rfl
  have kb := bknown_any op W0
  rw [hop] at kb
  obtain ⟨z0, z1, z2⟩ := HX.out.three
  have hs : (sgB op).size ≤ 10 := sg_size op
  clear hW0 hb0 hI hF hop
  go_enter Tryz.func27, Tryz.ntmps27
  go_upto_region 1 with (fail)
  rw [HW0.out]
  clear hN
  go_wp2_with fail
  refine kb.mono ?_
  clear kb
  rintro e wt ⟨rfl, hwt⟩
  rw [hwt]
  clear hwt wt
  go_upto_region 3 with (fail)
  refine wp_region_held_drew (S := fun X : World => Bx X N #[.int .i64 v, .int .i64 op, .int .i64 n] 32) (by kernel_rfl) (HX0.out) (fun hHeld => ?_)
  refine wpAnyH_take (i := 0) (oi := { dst := some 7, op := Go.Op.fieldAddr 32 (Go.Operand.tmp 1) 0, type := 0, pos := "branch.go:101", after := #[], guard := none }) (v := ?_) rfl (by kernel_rfl) (by kernel_rfl) (by kernel_rfl) (fun _ _ _ h => h) (Or.inl ⟨by rfl, ?_⟩) hHeld ?_
  rotate_left
  · intro w hSw; (try dsimp only at hSw); go_simp <;> with_reducible rfl
  try simp only [Act.put, List.setIfInBounds_toArray, List.set_cons_zero, List.set_cons_succ]
  refine wpAnyH_take (i := 1) (oi := { dst := some 8, op := Go.Op.load 3 (Go.Operand.tmp 7), type := 3, pos := "branch.go:101", after := #[{ on := 0, ground := Go.Ground.data }], guard := none }) (v := ?_) rfl (by kernel_rfl) (by kernel_rfl) (by kernel_rfl) (fun _ _ _ h => h) (Or.inl ⟨by rfl, ?_⟩) hHeld ?_
  rotate_left
  · intro w hSw; obtain ⟨q0, q1, q2⟩ := hSw.three; go_simp <;> with_reducible rfl
  try simp only [Act.put, List.setIfInBounds_toArray, List.set_cons_zero, List.set_cons_succ]
  refine wpAnyH_take (i := 5) (oi := { dst := some 12, op := Go.Op.fieldAddr 32 (Go.Operand.tmp 1) 1, type := 0, pos := "branch.go:101", after := #[], guard := none }) (v := ?_) rfl (by kernel_rfl) (by kernel_rfl) (by kernel_rfl) (fun _ _ _ h => h) (Or.inl ⟨by rfl, ?_⟩) hHeld ?_
  rotate_left
  · intro w hSw; (try dsimp only at hSw); go_simp <;> with_reducible rfl
  try simp only [Act.put, List.setIfInBounds_toArray, List.set_cons_zero, List.set_cons_succ]
  refine wpAnyH_take (i := 6) (oi := { dst := some 13, op := Go.Op.load 3 (Go.Operand.tmp 12), type := 3, pos := "branch.go:101", after := #[{ on := 5, ground := Go.Ground.data }], guard := none }) (v := ?_) rfl (by kernel_rfl) (by kernel_rfl) (by kernel_rfl) (fun _ _ _ h => h) (Or.inl ⟨by rfl, ?_⟩) hHeld ?_
  rotate_left
  · intro w hSw; obtain ⟨q0, q1, q2⟩ := hSw.three; go_simp <;> with_reducible rfl
  try simp only [Act.put, List.setIfInBounds_toArray, List.set_cons_zero, List.set_cons_succ]
  refine wpAnyH_take (i := 10) (oi := { dst := some 17, op := Go.Op.fieldAddr 32 (Go.Operand.tmp 1) 2, type := 0, pos := "branch.go:101", after := #[], guard := none }) (v := ?_) rfl (by kernel_rfl) (by kernel_rfl) (by kernel_rfl) (fun _ _ _ h => h) (Or.inl ⟨by rfl, ?_⟩) hHeld ?_
  rotate_left
  · intro w hSw; (try dsimp only at hSw); go_simp <;> with_reducible rfl
  try simp only [Act.put, List.setIfInBounds_toArray, List.set_cons_zero, List.set_cons_succ]
  refine wpAnyH_take (i := 11) (oi := { dst := some 18, op := Go.Op.load 2 (Go.Operand.tmp 17), type := 2, pos := "branch.go:101", after := #[{ on := 10, ground := Go.Ground.data }], guard := none }) (v := ?_) rfl (by kernel_rfl) (by kernel_rfl) (by kernel_rfl) (fun _ _ _ h => h) (Or.inl ⟨by rfl, ?_⟩) hHeld ?_
  rotate_left
  · intro w hSw; obtain ⟨q0, q1, q2⟩ := hSw.three; go_simp <;> with_reducible rfl
  try simp only [Act.put, List.setIfInBounds_toArray, List.set_cons_zero, List.set_cons_succ]
  refine wpAnyH_ready (rs := [2]) (by kernel_rfl) (by simp) ?_
  refine AllReadyH.cons rfl (fun K hK => ?_) AllReadyH.nil
  go_simp
  refine (HI.out _ HB0.out).mono ?_
  rintro e w1 ⟨rfl, hb1⟩
  have HB1 : Hid (Below W0.heap.size W0 w1) := HB0.out.trans (hb1.mono HB0.out.size)
  clear hb1
  refine hK.out _ _ (HX.out.below HB1.out) (fun hHeld2 => ?_)
  clear hK K hHeld
  have hHeld := hHeld2
  clear hHeld2
  try simp only [Act.put, List.setIfInBounds_toArray, List.set_cons_zero, List.set_cons_succ]
  refine wpAnyH_take (i := 3) (oi := { dst := some 10, op := Go.Op.binOp Go.BinOp.add 9 (Go.Operand.const (Go.Value.string { data := #[120] })) (Go.Operand.tmp 9) 9, type := 9, pos := "branch.go:101", after := #[{ on := 2, ground := Go.Ground.data }], guard := none }) (v := .string (⟨#[120]⟩ ++ a)) rfl (by kernel_rfl) (by kernel_rfl) (by kernel_rfl) (fun _ _ _ h => h) (Or.inl ⟨by rfl, ?_⟩) hHeld ?_
  skip
  · intro w hSw; go_simp; omega
  try simp only [Act.put, List.setIfInBounds_toArray, List.set_cons_zero, List.set_cons_succ]
  refine wpAnyH_take (i := 4) (oi := { dst := some 11, op := Go.Op.binOp Go.BinOp.add 9 (Go.Operand.tmp 10) (Go.Operand.const (Go.Value.string { data := #[32] })) 9, type := 9, pos := "branch.go:101", after := #[{ on := 3, ground := Go.Ground.data }], guard := none }) (v := .string (⟨#[120]⟩ ++ a ++ ⟨#[32]⟩)) rfl (by kernel_rfl) (by kernel_rfl) (by kernel_rfl) (fun _ _ _ h => h) (Or.inl ⟨by rfl, ?_⟩) hHeld ?_
  skip
  · intro w hSw; go_simp; omega
  try simp only [Act.put, List.setIfInBounds_toArray, List.set_cons_zero, List.set_cons_succ]
  refine wpAnyH_ready (rs := [7]) (by kernel_rfl) (by simp) ?_
  refine AllReadyH.cons rfl (fun K hK => ?_) AllReadyH.nil
  go_simp
  refine (sign_any op _).mono ?_
  rintro e wt ⟨rfl, hwt⟩
  rw [hwt]
  clear hwt wt
  refine hK.out _ _ (HX.out.below HB1.out) (fun hHeld2 => ?_)
  clear hK K hHeld
  have hHeld := hHeld2
  clear hHeld2
  try simp only [Act.put, List.setIfInBounds_toArray, List.set_cons_zero, List.set_cons_succ]
  refine wpAnyH_take (i := 8) (oi := { dst := some 15, op := Go.Op.binOp Go.BinOp.add 9 (Go.Operand.tmp 11) (Go.Operand.tmp 14) 9, type := 9, pos := "branch.go:101", after := #[{ on := 4, ground := Go.Ground.data }, { on := 7, ground := Go.Ground.data }], guard := none }) (v := .string (⟨#[120]⟩ ++ a ++ ⟨#[32]⟩ ++ sgB op)) rfl (by kernel_rfl) (by kernel_rfl) (by kernel_rfl) (fun _ _ _ h => h) (Or.inl ⟨by rfl, ?_⟩) hHeld ?_
  skip
  · intro w hSw; go_simp; omega
  try simp only [Act.put, List.setIfInBounds_toArray, List.set_cons_zero, List.set_cons_succ]
  refine wpAnyH_take (i := 9) (oi := { dst := some 16, op := Go.Op.binOp Go.BinOp.add 9 (Go.Operand.tmp 15) (Go.Operand.const (Go.Value.string { data := #[32] })) 9, type := 9, pos := "branch.go:101", after := #[{ on := 8, ground := Go.Ground.data }], guard := none }) (v := .string (⟨#[120]⟩ ++ a ++ ⟨#[32]⟩ ++ sgB op ++ ⟨#[32]⟩)) rfl (by kernel_rfl) (by kernel_rfl) (by kernel_rfl) (fun _ _ _ h => h) (Or.inl ⟨by rfl, ?_⟩) hHeld ?_
  skip
  · intro w hSw; go_simp; omega
  try simp only [Act.put, List.setIfInBounds_toArray, List.set_cons_zero, List.set_cons_succ]
  refine wpAnyH_ready (rs := [12]) (by kernel_rfl) (by simp) ?_
  refine AllReadyH.cons rfl (fun K hK => ?_) AllReadyH.nil
  go_simp
  refine (HF.out _ HB1.out).mono ?_
  rintro e w2 ⟨rfl, hb2⟩
  have HB2 : Hid (Below W0.heap.size W0 w2) := HB1.out.trans (hb2.mono HB1.out.size)
  clear hb2
  refine hK.out _ _ (HX.out.below HB2.out) (fun hHeld2 => ?_)
  clear hK K hHeld
  have hHeld := hHeld2
  clear hHeld2
  try simp only [Act.put, List.setIfInBounds_toArray, List.set_cons_zero, List.set_cons_succ]
  refine wpAnyH_take (i := 13) (oi := { dst := some 20, op := Go.Op.binOp Go.BinOp.add 9 (Go.Operand.tmp 16) (Go.Operand.tmp 19) 9, type := 9, pos := "branch.go:101", after := #[{ on := 9, ground := Go.Ground.data }, { on := 12, ground := Go.Ground.data }], guard := none }) (v := .string (⟨#[120]⟩ ++ a ++ ⟨#[32]⟩ ++ sgB op ++ ⟨#[32]⟩ ++ b)) rfl (by kernel_rfl) (by kernel_rfl) (by kernel_rfl) (fun _ _ _ h => h) (Or.inl ⟨by rfl, ?_⟩) hHeld ?_
  skip
  · intro w hSw; go_simp; omega
  try simp only [Act.put, List.setIfInBounds_toArray, List.set_cons_zero, List.set_cons_succ]
  refine wpAnyH_take (i := 14) (oi := { dst := some 2, op := Go.Op.assign (Go.Operand.tmp 20), type := 9, pos := "branch.go:101", after := #[{ on := 13, ground := Go.Ground.data }, { on := 12, ground := Go.Ground.chain }, { on := 0, ground := Go.Ground.phase }, { on := 1, ground := Go.Ground.phase }, { on := 2, ground := Go.Ground.phase }, { on := 3, ground := Go.Ground.phase }, { on := 4, ground := Go.Ground.phase }, { on := 5, ground := Go.Ground.phase }, { on := 6, ground := Go.Ground.phase }, { on := 7, ground := Go.Ground.phase }, { on := 8, ground := Go.Ground.phase }, { on := 9, ground := Go.Ground.phase }, { on := 10, ground := Go.Ground.phase }, { on := 11, ground := Go.Ground.phase }, { on := 12, ground := Go.Ground.phase }, { on := 13, ground := Go.Ground.phase }], guard := none }) (v := ?_) rfl (by kernel_rfl) (by kernel_rfl) (by kernel_rfl) (fun _ _ _ h => h) (Or.inl ⟨by rfl, ?_⟩) hHeld ?_
  rotate_left
  · intro w hSw; (try dsimp only at hSw); go_simp <;> with_reducible rfl
  try simp only [Act.put, List.setIfInBounds_toArray, List.set_cons_zero, List.set_cons_succ]
  refine wpAnyH_done (by kernel_rfl) ?_ _
  go_wp2
  go_ret
  exact ⟨by rw [HTX.out]; rfl, HBW.out.trans (HB2.out.mono HBW.out.size)⟩
/-- The other one. -/
def otM (op : Int) : Int := if op = 0 then 1 else if op = 1 then 0 else if op = 2 then 3 else if op = 3 then 2 else if op = 4 then 5 else if op = 5 then 4 else op

set_option maxRecDepth 100000 in
set_option maxHeartbeats 4000000 in
theorem not_le (v n : Int) (W : World) : Calls Tryz.prog 23 #[.agg #[.int .i64 v, .int .i64 2, .int .i64 n]] W fun e w' => e = .returned (.agg #[.int .i64 v, .int .i64 3, .int .i64 n]) ∧ Below W.heap.size W w' := by
  obtain ⟨N, hN⟩ : ∃ N, W.heap.size = N := ⟨_, rfl⟩
  obtain ⟨W0, hW0⟩ : ∃ Q, (W.alloc (Obj.cells #[.int .i64 v, .int .i64 2, .int .i64 n] 32)).alloc (Obj.cells #[.int .i64 0, .int .i64 0, .int .i64 0] 32) = Q := ⟨_, rfl⟩
  have hb0 : Below N W W0 := by rw [← hW0, ← hN]; exact ((Below.refl _ W).alloc (Nat.le_refl _) _).alloc (by simp) _
  have hx : Bx W0 N #[.int .i64 v, .int .i64 2, .int .i64 n] 32 := by rw [← hW0]; exact (Bx.new' hN _ _).alloc _
  have hy : Bx W0 (N + 1) #[.int .i64 0, .int .i64 0, .int .i64 0] 32 := by rw [← hW0]; exact Bx.new' (by simp [hN]) _ _
  have HX : Hid _ := hx
  have HY : Hid _ := hy
  have HB : Hid (Below N W W0) := hb0
  have HW0 : Hid _ := hW0
  obtain ⟨z0, z1, z2⟩ := hx.three
  obtain ⟨y0, y1, y2⟩ := hy.three
  have f0 := hx.fr 1
  have g0 := hy.fr 0
  have g1 := hy.fr 1
  have g2 := hy.fr 2
  have kb := bknown_any 2 W0
  rw [show knB 2 = true from rfl] at kb
  rw [hN]
  clear hx hy hb0 hW0
  go_enter Tryz.func23, Tryz.ntmps23
  go_upto_region 1 with (fail)
  rw [HW0.out]
  clear hN
  go_wp2_with fail
  refine kb.mono ?_
  clear kb
  rintro e wt ⟨rfl, hwt⟩
  rw [hwt]
  clear hwt wt
  go_wp2
  refine ⟨rfl, _, results_cell_row rfl _ _ (N + 1) 32 _ (0, 0) _ rfl ((HY.out.other (by omega) 1 _).set3 _ _ _).h Tryz.underlying32 rfl (by kernel_rfl), rfl, ?_⟩
  exact (((HB.out.setCell (p := ⟨N, 1, none⟩) (Nat.le_refl _) _).setCell (p := ⟨N + 1, 0, none⟩) (by show N ≤ N + 1; omega) _).setCell (p := ⟨N + 1, 1, none⟩) (by show N ≤ N + 1; omega) _).setCell (p := ⟨N + 1, 2, none⟩) (by show N ≤ N + 1; omega) _
end Go.Proofs.YthkliicmoandmaaGreatDoor

namespace Go.Proofs.YthkliicmoandmaaGreatDoor
open Go.RowKit Go.Shelf
set_option linter.unusedVariables false
set_option linter.unusedSimpArgs false

def fitM (op : Int) (s : Bool) : Bool := knB op && (decide (4 ≤ op) == s)
/-- The values of ranges of which a decision holds. -/
def numR (l : List Dm.Rg) (op n : Int) : List Dm.Rg := if op = 0 then Dm.cutL (Dm.tk l) n n else if op = 1 then Dm.woR l n else if op = 2 then Dm.cutL (Dm.tk l) (-1000000) n else Dm.cutL (Dm.tk l) (min n 1000000 + 1) 1000000

set_option maxRecDepth 100000 in
set_option maxHeartbeats 4000000 in
theorem fits_any (op : Int) (s : Bool) (W : World) : Calls Tryz.prog 49 #[.int .i64 op, .bool s] W fun e w' => e = .returned (.bool (fitM op s)) ∧ w' = W := by
  have HM : Hid (fitM op s = (knB op && (decide (4 ≤ op) == s))) := rfl
  rw [HM.out]
  have kb := bknown_any op W
  by_cases h4 : 4 ≤ op
  · have hd : decide (4 ≤ op) = true := by simpa using h4
    cases hk : knB op <;> rw [hk] at kb <;> cases s <;>
    · go_enter Tryz.func49, Tryz.ntmps49
      go_wp2_with (go_at_call 58; refine kb.mono ?_; rintro e w1 ⟨rfl, rfl⟩)
      go_ret
      exact ⟨ret_bool (by simp [hd]), rfl⟩
  · have hd : decide (4 ≤ op) = false := by simpa using h4
    cases hk : knB op <;> rw [hk] at kb <;> cases s <;>
    · go_enter Tryz.func49, Tryz.ntmps49
      go_wp2_with (go_at_call 58; refine kb.mono ?_; rintro e w1 ⟨rfl, rfl⟩)
      go_ret
      exact ⟨ret_bool (by simp [hd]), rfl⟩

set_option maxRecDepth 100000 in
set_option maxHeartbeats 4000000 in
theorem numbers_any {W : World} {ra : Option Addr} {n0 rc : Nat} {l : List Dm.Rg} (v op n : Int) (h : Dm.Sr W (.slice ra n0 rc) l) (hf : Dm.FitsR l) (hn : Dm.Fits n) (hop : knB op = true) (h3 : op ≤ 3) :
    Calls Tryz.prog 52 #[.slice ra n0 rc, .agg #[.int .i64 v, .int .i64 op, .int .i64 n]] W fun e w' => ∃ s', e = .returned s' ∧ w'.ownsRow W.heap.size 92 2 s' (numR l op n).length (Dm.flat (numR l op n)) ∧ Below W.heap.size W w' := by
  obtain ⟨W0, hW0⟩ : ∃ Q, W.alloc (Obj.cells #[.int .i64 v, .int .i64 op, .int .i64 n] 32) = Q := ⟨_, rfl⟩
  have hb0 : Below W.heap.size W W0 := by rw [← hW0]; exact (Below.refl _ W).alloc (Nat.le_refl _) _
  have HX : Hid (Bx W0 W.heap.size #[.int .i64 v, .int .i64 op, .int .i64 n] 32) := by rw [← hW0]; exact Bx.new _ _ _
  obtain ⟨z0, z1, z2⟩ := HX.out.three
  have hS := h.below hb0
  have HW0 : Hid _ := hW0
  clear hW0 h
  unfold knB at hop
  simp only [Bool.and_eq_true, decide_eq_true_eq] at hop
  have hn1 : -9223372036854775808 ≤ n := hn.1
  have hn2 : n ≤ 9223372036854775807 := by have := hn.2; omega
  have h4 : op = 0 ∨ op = 1 ∨ op = 2 ∨ op = 3 := by omega
  clear hop h3
  rcases h4 with rfl | rfl | rfl | rfl
  ·
    have kc := Dm.domcut_any _ l n n W0 hS hf
    have HM : Hid (numR l 0 n = Dm.cutL (Dm.tk l) n n) := rfl
    rw [HM.out]
    generalize Dm.cutL (Dm.tk l) n n = r at kc ⊢
    clear HM hS
    go_enter Tryz.func52, Tryz.ntmps52
    go_upto_region 1 with (fail)
    rw [HW0.out]
    go_wp2_with fail
    refine kc.mono ?_
    rintro e w1 ⟨s', rfl, ho, hb1⟩
    obtain ⟨p', c', rfl⟩ : ∃ p c, s' = .slice p r.length c := by
      rcases ho.2 with ⟨e1, e2⟩ | ⟨g, cap, cur, e1, _⟩
      · exact ⟨none, 0, by rw [e2]; exact e1⟩
      · exact ⟨_, _, e1⟩
    have HO : Hid (w1.ownsRow W.heap.size 92 2 (.slice p' r.length c') r.length (Dm.flat r)) := own_base ho hb0.size
    clear ho
    go_wp2
    go_ret
    exact ⟨_, rfl, HO.out, hb0.trans (hb1.mono hb0.size)⟩
  ·
    have kc := Dm.domwithout_any _ l n W0 hS hf hn
    have HM : Hid (numR l 1 n = Dm.woR l n) := rfl
    rw [HM.out]
    generalize Dm.woR l n = r at kc ⊢
    clear HM hS
    go_enter Tryz.func52, Tryz.ntmps52
    go_upto_region 1 with (fail)
    rw [HW0.out]
    go_wp2_with fail
    refine kc.mono ?_
    rintro e w1 ⟨s', rfl, ho, hb1⟩
    obtain ⟨p', c', rfl⟩ : ∃ p c, s' = .slice p r.length c := by
      rcases ho.2 with ⟨e1, e2⟩ | ⟨g, cap, cur, e1, _⟩
      · exact ⟨none, 0, by rw [e2]; exact e1⟩
      · exact ⟨_, _, e1⟩
    have HO : Hid (w1.ownsRow W.heap.size 92 2 (.slice p' r.length c') r.length (Dm.flat r)) := own_base ho hb0.size
    clear ho
    go_wp2
    go_ret
    exact ⟨_, rfl, HO.out, hb0.trans (hb1.mono hb0.size)⟩
  ·
    have kc := Dm.domcut_any _ l (-1000000) n W0 hS hf
    have HM : Hid (numR l 2 n = Dm.cutL (Dm.tk l) (-1000000) n) := rfl
    rw [HM.out]
    generalize Dm.cutL (Dm.tk l) (-1000000) n = r at kc ⊢
    clear HM hS
    go_enter Tryz.func52, Tryz.ntmps52
    go_upto_region 1 with (fail)
    rw [HW0.out]
    go_wp2_with fail
    refine kc.mono ?_
    rintro e w1 ⟨s', rfl, ho, hb1⟩
    obtain ⟨p', c', rfl⟩ : ∃ p c, s' = .slice p r.length c := by
      rcases ho.2 with ⟨e1, e2⟩ | ⟨g, cap, cur, e1, _⟩
      · exact ⟨none, 0, by rw [e2]; exact e1⟩
      · exact ⟨_, _, e1⟩
    have HO : Hid (w1.ownsRow W.heap.size 92 2 (.slice p' r.length c') r.length (Dm.flat r)) := own_base ho hb0.size
    clear ho
    go_wp2
    go_ret
    exact ⟨_, rfl, HO.out, hb0.trans (hb1.mono hb0.size)⟩
  ·
    obtain ⟨mq, hmq⟩ : ∃ q, min n 1000000 = q := ⟨_, rfl⟩
    have hmq2 : mq ≤ 1000000 := by omega
    have hmq3 : -9223372036854775808 ≤ mq := by omega
    have hwm : wrap64 (mq + 1) = mq + 1 := by unfold wrap64; omega
    have hwm2 : IntKind.i64.wrap (mq + 1) = mq + 1 := by rw [IntKind.wrap_i64]; omega
    have kc := Dm.domcut_any _ l (mq + 1) 1000000 W0 hS hf
    have HM : Hid (numR l 3 n = Dm.cutL (Dm.tk l) (mq + 1) 1000000) := by rw [← hmq]; exact rfl
    rw [HM.out]
    generalize Dm.cutL (Dm.tk l) (mq + 1) 1000000 = r at kc ⊢
    clear HM hS
    go_enter Tryz.func52, Tryz.ntmps52
    go_upto_region 1 with (fail)
    rw [HW0.out]
    go_wp2_with fail
    refine kc.mono ?_
    rintro e w1 ⟨s', rfl, ho, hb1⟩
    obtain ⟨p', c', rfl⟩ : ∃ p c, s' = .slice p r.length c := by
      rcases ho.2 with ⟨e1, e2⟩ | ⟨g, cap, cur, e1, _⟩
      · exact ⟨none, 0, by rw [e2]; exact e1⟩
      · exact ⟨_, _, e1⟩
    have HO : Hid (w1.ownsRow W.heap.size 92 2 (.slice p' r.length c') r.length (Dm.flat r)) := own_base ho hb0.size
    clear ho
    go_wp2
    go_ret
    exact ⟨_, rfl, HO.out, hb0.trans (hb1.mono hb0.size)⟩
end Go.Proofs.YthkliicmoandmaaGreatDoor

namespace Go.Proofs.YthkliicmoandmaaGreatDoor
open Go.RowKit Go.Shelf
set_option linter.unusedVariables false
set_option linter.unusedSimpArgs false

def kD : List MD := [⟨false, [(1, 4)], [], [], 0, 0⟩, ⟨false, [(2, 3)], [], [], 0, 0⟩]
theorem kD_good : ∀ d ∈ kD, Good d := by
  intro d hd
  simp only [kD, List.mem_cons, List.not_mem_nil, or_false] at hd
  rcases hd with rfl | rfl
  · exact fun r hr => by simp at hr; subst hr; unfold Dm.Fits; decide
  · exact fun r hr => by simp at hr; subst hr; unfold Dm.Fits; decide
theorem k_open2 : openL [0, 1] kD = [0, 1] := by decide +kernel
theorem k_open1 : openL [0] kD = [0] := by decide +kernel
theorem k_which2 : (whichM (rkV sizA kD) [0, 1]).1 = ((1 : Nat) : Int) := by decide +kernel
theorem k_which1 : (whichM (rkV (fun _ => 0) kD) [0]).1 = ((0 : Nat) : Int) := by decide +kernel
theorem k_txt1 : txB ⟨(Lib.decDigits 1).toArray⟩ 0 ⟨(Lib.decDigits 3).toArray⟩ = ⟨#[120, 49, 32, 61, 32, 51]⟩ := by decide +kernel
theorem k_txt2 : txB ⟨(Lib.decDigits 0).toArray⟩ 2 ⟨(Lib.decDigits 2).toArray⟩ = ⟨#[120, 48, 32, 60, 61, 32, 50]⟩ := by decide +kernel
theorem k_txt3 : txB ⟨(Lib.decDigits 0).toArray⟩ 3 ⟨(Lib.decDigits 2).toArray⟩ = ⟨#[120, 48, 32, 62, 32, 50]⟩ := by decide +kernel

set_option maxRecDepth 100000 in
set_option maxHeartbeats 4000000 in
theorem clone_nil (W : World) : Calls Tryz.prog 37 #[.slice none 0 0] W fun e w' => e = .returned (.slice none 0 0) ∧ w' = W := by
  have hnil : ∀ (w : World) (a : Option Addr) (n c n' c' : Nat), (binOp .eql 24 (.slice a n c) (.slice none n' c')).run Tryz.prog w = .ok (.bool a.isNone) w := fun w a n c n' c' => Lib.run_eql_slice_nil w _ _ a n c n' c' Tryz.underlying24
  go_enter Tryz.func37, Tryz.ntmps37
  go_wp2
  go_ret
  exact ⟨rfl, rfl⟩

set_option maxRecDepth 100000 in
set_option maxHeartbeats 4000000 in
theorem new_nil (W : World) : Calls Tryz.prog 9 #[.slice none 0 0] W fun e w' => e = .returned (ptr W.heap.size) ∧ Below W.heap.size W w' := by
  go_enter Tryz.func9, Tryz.ntmps9
  go_wp2_with (go_at_call 37; refine (clone_nil _).mono ?_; rintro e w1 ⟨rfl, rfl⟩)
  go_ret
  exact ⟨rfl, (Below.refl _ _).alloc (Nat.le_refl _) _⟩
theorem itoa_s {W : World} (i : Nat) (hi : i < 100) : ∀ X, Below W.heap.size W X → Calls Tryz.prog 61 #[.int .i64 (i : Int)] X fun e w' => e = .returned (.string ⟨(Lib.decDigits i).toArray⟩) ∧ Below X.heap.size X w' :=
  fun X _ => (Any.strconv_Itoa_small Tryz.laysItoaS i hi X).mono fun e w' ⟨he, hw⟩ => ⟨he, by rw [hw]; exact Below.refl _ _⟩
theorem fint_s {W : World} (i : Nat) (hi : i < 100) : ∀ X, Below W.heap.size W X → Calls Tryz.prog 63 #[.int .i64 (i : Int), .int .i64 10] X fun e w' => e = .returned (.string ⟨(Lib.decDigits i).toArray⟩) ∧ Below X.heap.size X w' :=
  fun X _ => (Any.strconv_FormatInt_10_small Tryz.laysFintS i hi X).mono fun e w' ⟨he, hw⟩ => ⟨he, by rw [hw]; exact Below.refl _ _⟩
theorem ktext1 (W : World) : Calls Tryz.prog 27 #[.agg #[.int .i64 1, .int .i64 0, .int .i64 3]] W fun e w' => e = .returned (.string ⟨#[120, 49, 32, 61, 32, 51]⟩) ∧ Below W.heap.size W w' := by
  have := text_any (W := W) 1 0 3 _ _ (by decide) (by decide +kernel) (by decide +kernel) (itoa_s 1 (by decide)) (fint_s 3 (by decide))
  rwa [k_txt1] at this
theorem ktext2 (W : World) : Calls Tryz.prog 27 #[.agg #[.int .i64 0, .int .i64 2, .int .i64 2]] W fun e w' => e = .returned (.string ⟨#[120, 48, 32, 60, 61, 32, 50]⟩) ∧ Below W.heap.size W w' := by
  have := text_any (W := W) 0 2 2 _ _ (by decide) (by decide +kernel) (by decide +kernel) (itoa_s 0 (by decide)) (fint_s 2 (by decide))
  rwa [k_txt2] at this
theorem ktext3 (W : World) : Calls Tryz.prog 27 #[.agg #[.int .i64 0, .int .i64 3, .int .i64 2]] W fun e w' => e = .returned (.string ⟨#[120, 48, 32, 62, 32, 50]⟩) ∧ Below W.heap.size W w' := by
  have := text_any (W := W) 0 3 2 _ _ (by decide) (by decide +kernel) (by decide +kernel) (itoa_s 0 (by decide)) (fint_s 2 (by decide))
  rwa [k_txt3] at this
/-- The twelve cells of the two domains. -/
def kRow (N : Nat) : Array Value := #[.bool false, .slice (some ⟨N, 0, none⟩) 1 1, .slice none 0 0, .slice none 0 0, .int .i64 0, .int .i64 0, .bool false, .slice (some ⟨N + 1, 0, none⟩) 1 1, .slice none 0 0, .slice none 0 0, .int .i64 0, .int .i64 0]
theorem k_ds {w : World} {N : Nat} (h0 : Bx w N #[.int .i64 1, .int .i64 4] 92) (h1 : Bx w (N + 1) #[.int .i64 2, .int .i64 3] 92) (h2 : Bx w (N + 1 + 1) (kRow N) 50) : Ds w (.slice (some ⟨N + 1 + 1, 0, none⟩) 2 2) kD := by
  refine ⟨_, 2, rfl, fun _ => ⟨N + 1 + 1, 0, rfl, h2.lt, fun i d hd => ?_⟩⟩
  match i, hd with
  | 0, hd =>
    simp [kD] at hd
    subst hd
    refine ⟨_, _, _, _, _, _, ⟨some ⟨N, 0, none⟩, 1, none, 0, none, 0, rfl, ⟨_, 1, rfl, fun _ => ⟨N, 0, rfl, h0.lt, fun q => q, fun i hi => ?_⟩⟩, Nm.empty _ _, Nm.empty _ _⟩, h2.cell 0, h2.cell 1, h2.cell 2, h2.cell 3, h2.cell 4, h2.cell 5⟩
    obtain rfl : i = 0 := by simp at hi; exact hi
    exact ⟨h0.cell 0, h0.cell 1⟩
  | 1, hd =>
    simp [kD] at hd
    subst hd
    refine ⟨_, _, _, _, _, _, ⟨some ⟨N + 1, 0, none⟩, 1, none, 0, none, 0, rfl, ⟨_, 1, rfl, fun _ => ⟨N + 1, 0, rfl, h1.lt, fun q => q, fun i hi => ?_⟩⟩, Nm.empty _ _, Nm.empty _ _⟩, h2.cell 6, h2.cell 7, h2.cell 8, h2.cell 9, h2.cell 10, h2.cell 11⟩
    obtain rfl : i = 0 := by simp at hi; exact hi
    exact ⟨h1.cell 0, h1.cell 1⟩
  | i + 2, hd => simp [kD] at hd

set_option maxRecDepth 100000 in
set_option maxHeartbeats 4000000 in
theorem known_true (W : World) : Calls Tryz.prog 17 #[] W fun e w' => e = .returned (.bool true) ∧ Below W.heap.size W w' := by
  obtain ⟨N, hN⟩ : ∃ N, W.heap.size = N := ⟨_, rfl⟩
  rw [hN]
  have HN : Hid (W.heap.size = N) := hN
  obtain ⟨W1, hW1⟩ : ∃ Q, ((W.alloc (Obj.cells #[.int .i64 1, .int .i64 4] 92)).alloc (Obj.cells #[.int .i64 2, .int .i64 3] 92)).alloc (Obj.cells (kRow N) 50) = Q := ⟨_, rfl⟩
  have hb1 : Below W.heap.size W W1 := by rw [← hW1]; exact (((Below.refl _ W).alloc (Nat.le_refl _) _).alloc (by simp) _).alloc (by simp; omega) _
  have hd1 : Ds W1 (.slice (some ⟨N + 1 + 1, 0, none⟩) 2 2) kD := k_ds (by rw [← hW1]; exact ((Bx.new' hN _ _).alloc _).alloc _) (by rw [← hW1]; exact (Bx.new' (by simp [hN]) _ _).alloc _) (by rw [← hW1]; exact Bx.new' (by simp [hN]) _ _)
  have HW1 : Hid (((W.alloc (Obj.cells #[.int .i64 1, .int .i64 4] 92)).alloc (Obj.cells #[.int .i64 2, .int .i64 3] 92)).alloc (Obj.cells #[.bool false, .slice (some ⟨N, 0, none⟩) 1 1, .slice none 0 0, .slice none 0 0, .int .i64 0, .int .i64 0, .bool false, .slice (some ⟨N + 1, 0, none⟩) 1 1, .slice none 0 0, .slice none 0 0, .int .i64 0, .int .i64 0] 50) = W1) := hW1
  have HB1 : Hid (Below W.heap.size W W1) := hb1
  have HD1 : Hid (Ds W1 (.slice (some ⟨N + 1 + 1, 0, none⟩) 2 2) kD) := hd1
  clear hW1 hb1 hd1
  obtain ⟨M, hM⟩ : ∃ q, W1.heap.size = q := ⟨_, rfl⟩
  obtain ⟨W2, hW2⟩ : ∃ Q, (W1.alloc (Obj.cells #[.int .i64 0, .int .i64 1] 3)).alloc (Obj.cells #[.slice (some ⟨M, 0, none⟩) 2 2, .int .i64 1, .int .i64 1] 71) = Q := ⟨_, rfl⟩
  have hb2 : Below W1.heap.size W1 W2 := by rw [← hW2]; exact ((Below.refl _ W1).alloc (Nat.le_refl _) _).alloc (by simp) _
  have hv2 : Bx W2 M #[.int .i64 0, .int .i64 1] 3 := by rw [← hW2]; exact (Bx.new' hM _ _).alloc _
  have hp2 : Bx W2 (M + 1) #[.slice (some ⟨M, 0, none⟩) 2 2, .int .i64 1, .int .i64 1] 71 := by rw [← hW2]; exact Bx.new' (by simp [hM]) _ _
  have hns2 : Ns W2 (.slice (some ⟨M, 0, none⟩) 2 2) [0, 1] := by
    refine ⟨_, 2, rfl, fun _ => ⟨M, 0, rfl, hv2.lt, fun q => q, fun i x hx => ?_⟩⟩
    match i, hx with
    | 0, hx => simp at hx; subst hx; exact hv2.cell 0
    | 1, hx => simp at hx; subst hx; exact hv2.cell 1
    | i + 2, hx => simp at hx
  have kc1 := choose_first (b := M + 1) (off := 0) (n := 1) (c := 1) (l := [0, 1]) (f := sizA) (.pointer none) rfl (by decide) hp2.three.1 hp2.three.2.1 hp2.three.2.2 hns2 (HD1.out.below hb2) kD_good (by decide) (by decide) (by rw [k_open2]; decide) (by decide) rank_first (by decide) (by decide) 1 ⟨false, [(2, 3)], [], [], 0, 0⟩ (by rw [k_open2]; exact k_which2) rfl rfl (by decide) (by decide) (by decide)
  rw [show numM 1 (Dm.lo [(2, 3)] 0) (Dm.hi [(2, 3)] (List.length [((2 : Int), (3 : Int))] - 1)) = (0, 3) from by decide] at kc1
  have HB2 : Hid (Below W.heap.size W W2) := HB1.out.trans (hb2.mono HB1.out.size)
  have HD2 : Hid _ := HD1.out.below hb2
  have HW2 : Hid _ := hW2
  clear hW2 hb2 hv2 hp2 hns2
  go_enter Tryz.func17, Tryz.ntmps17
  go_upto_region 2 with (fail)
  rw [HW1.out]
  clear hN
  go_wp2_with fail
  rw [HW2.out]
  clear hM
  refine kc1.mono ?_
  clear kc1
  rintro e w3 ⟨rfl, hb3⟩
  obtain ⟨P3, hP3⟩ : ∃ q, w3.heap.size = q := ⟨_, rfl⟩
  obtain ⟨W4, hW4⟩ : ∃ Q, w3.alloc (Obj.cells #[.int .i64 1, .int .i64 0, .int .i64 3] 32) = Q := ⟨_, rfl⟩
  have hb4 : Below w3.heap.size w3 W4 := by rw [← hW4]; exact (Below.refl _ _).alloc (Nat.le_refl _) _
  have hq4 : Bx W4 P3 #[.int .i64 1, .int .i64 0, .int .i64 3] 32 := by rw [← hW4]; exact Bx.new' hP3 _ _
  have HB4 : Hid (Below W.heap.size W W4) := HB2.out.trans ((hb3.trans (hb4.mono hb3.size)).mono HB2.out.size)
  have HD4 : Hid _ := (Ds.below HD2.out hb3).below hb4
  obtain ⟨M4, hM4⟩ : ∃ q, W4.heap.size = q := ⟨_, rfl⟩
  obtain ⟨W5, hW5⟩ : ∃ Q, (W4.alloc (Obj.cells #[.int .i64 0] 3)).alloc (Obj.cells #[.slice (some ⟨M4, 0, none⟩) 1 1, .int .i64 0, .int .i64 3] 71) = Q := ⟨_, rfl⟩
  have hb5 : Below W4.heap.size W4 W5 := by rw [← hW5]; exact ((Below.refl _ W4).alloc (Nat.le_refl _) _).alloc (by simp) _
  have hv5 : Bx W5 M4 #[.int .i64 0] 3 := by rw [← hW5]; exact (Bx.new' hM4 _ _).alloc _
  have hp5 : Bx W5 (M4 + 1) #[.slice (some ⟨M4, 0, none⟩) 1 1, .int .i64 0, .int .i64 3] 71 := by rw [← hW5]; exact Bx.new' (by simp [hM4]) _ _
  have hns5 : Ns W5 (.slice (some ⟨M4, 0, none⟩) 1 1) [0] := by
    refine ⟨_, 1, rfl, fun _ => ⟨M4, 0, rfl, hv5.lt, fun q => q, fun i x hx => ?_⟩⟩
    match i, hx with
    | 0, hx => simp at hx; subst hx; exact hv5.cell 0
    | i + 1, hx => simp at hx
  have KC2 : Hid (∀ w6 pq, Below W5.heap.size W5 w6 → Calls Tryz.prog 10 #[.slice (some ⟨M4 + 1, 0, none⟩) 1 1, .slice (some ⟨N + 1 + 1, 0, none⟩) 2 2, ptr pq] w6 fun e w' => e = .returned (.tuple #[.agg #[.int .i64 0, .int .i64 2, .int .i64 2], .bool true]) ∧ Below w6.heap.size w6 w') := by
    intro w6 pq hb6
    have kc2 := choose_first (W := w6) (b := M4 + 1) (off := 0) (n := 1) (c := 1) (l := [0]) (f := fun _ => 0) (ptr pq) rfl (by decide) (hp5.below hb6).three.1 (hp5.below hb6).three.2.1 (hp5.below hb6).three.2.2 (hns5.below hb6) ((Ds.below HD4.out hb5).below hb6) kD_good (by decide) (by decide) (by rw [k_open1]; decide) (by decide) (rank_none 0 (by decide) (by decide) (by decide) (by decide)) (by decide) (by decide) 0 ⟨false, [(1, 4)], [], [], 0, 0⟩ (by rw [k_open1]; exact k_which1) rfl rfl (by decide) (by decide) (by decide)
    rw [show numM 3 (Dm.lo [(1, 4)] 0) (Dm.hi [(1, 4)] (List.length [((1 : Int), (4 : Int))] - 1)) = (2, 2) from by decide] at kc2
    exact kc2
  have HB5 : Hid (Below W.heap.size W W5) := HB4.out.trans (hb5.mono HB4.out.size)
  have HQ5 : Hid (Bx W5 P3 _ _) := hq4.below hb5
  have HW4 : Hid _ := hW4
  have HW5 : Hid _ := hW5
  clear hW4 hb4 hq4 hb3 hW5 hb5 hv5 hp5 hns5
  go_upto_region 3 with (fail)
  rw [HW4.out]
  clear hP3
  go_wp2_with fail
  rw [HW5.out]
  clear hM4
  refine (new_nil W5).mono ?_
  rintro e w6 ⟨rfl, hb6⟩
  have HB6 : Hid (Below W.heap.size W w6) := HB5.out.trans (hb6.mono HB5.out.size)
  have HQ6 : Hid (Bx w6 P3 _ _) := Bx.below HQ5.out hb6
  have kc2 := KC2.out w6 W5.heap.size hb6
  clear hb6
  go_wp2_with fail
  refine kc2.mono ?_
  clear kc2
  rintro e w7 ⟨rfl, hb7⟩
  obtain ⟨P7, hP7⟩ : ∃ q, w7.heap.size = q := ⟨_, rfl⟩
  obtain ⟨W8, hW8⟩ : ∃ Q, w7.alloc (Obj.cells #[.int .i64 0, .int .i64 2, .int .i64 2] 32) = Q := ⟨_, rfl⟩
  have hb8 : Below w7.heap.size w7 W8 := by rw [← hW8]; exact (Below.refl _ _).alloc (Nat.le_refl _) _
  have hr8 : Bx W8 P7 #[.int .i64 0, .int .i64 2, .int .i64 2] 32 := by rw [← hW8]; exact Bx.new' hP7 _ _
  have HB8 : Hid (Below W.heap.size W W8) := HB6.out.trans ((hb7.trans (hb8.mono hb7.size)).mono HB6.out.size)
  have HQ8 : Hid (Bx W8 P3 #[.int .i64 1, .int .i64 0, .int .i64 3] 32) := Bx.below (Bx.below HQ6.out hb7) hb8
  have HR8 : Hid _ := hr8
  have HW8 : Hid _ := hW8
  clear hW8 hb8 hb7 hr8
  go_upto_region 4 with (fail)
  rw [HW8.out]
  clear hP7
  obtain ⟨z0, z1, z2⟩ := HQ8.out.three
  go_wp2_with fail
  refine (ktext1 W8).mono ?_
  clear z0 z1 z2
  rintro e w9 ⟨rfl, hb9⟩
  have HB9 : Hid (Below W.heap.size W w9) := HB8.out.trans (hb9.mono HB8.out.size)
  have HR9 : Hid (Bx w9 P7 #[.int .i64 0, .int .i64 2, .int .i64 2] 32) := Bx.below HR8.out hb9
  clear hb9
  obtain ⟨z0, z1, z2⟩ := HR9.out.three
  go_wp2_with fail
  refine (ktext2 w9).mono ?_
  clear z0 z1 z2
  rintro e w10 ⟨rfl, hb10⟩
  have HB10 : Hid (Below W.heap.size W w10) := HB9.out.trans (hb10.mono HB9.out.size)
  have HR10 : Hid (Bx w10 P7 #[.int .i64 0, .int .i64 2, .int .i64 2] 32) := Bx.below HR9.out hb10
  clear hb10
  obtain ⟨z0, z1, z2⟩ := HR10.out.three
  go_wp2_with fail
  refine (not_le 0 2 w10).mono ?_
  clear z0 z1 z2
  rintro e w11 ⟨rfl, hb11⟩
  have HB11 : Hid (Below W.heap.size W w11) := HB10.out.trans (hb11.mono HB10.out.size)
  clear hb11
  go_wp2_with fail
  refine (ktext3 w11).mono ?_
  rintro e w12 ⟨rfl, hb12⟩
  have HB12 : Hid (Below W.heap.size W w12) := HB11.out.trans (hb12.mono HB11.out.size)
  clear hb12
  go_wp2
  go_ret
  exact ⟨rfl, by rw [← HN.out]; exact HB12.out⟩
end Go.Proofs.YthkliicmoandmaaGreatDoor
