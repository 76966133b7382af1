/-
  What is proved here: a decision as text; the other one of a decision.
  What is proved here: what a decision leaves of a domain, by package branch.
  What is proved here: decisions given and taken; their other ones; whether they hold.
-/
import Derived.Test.YthkliicmoandmaaGreatDoorBi
import Derived.Test.YthkliicmoandmaaGreatDoorSi
import Derived.Deep.RegionHeld3
import Derived.Test.YthkliicmoandmaaGreatDoorCaj
import Derived.Lib.MinMax
import Derived.Test.YthkliicmoandmaaGreatDoorKaj
import Derived.Test.YthkliicmoandmaaGreatDoorYSdj
import Derived.Test.YthkliicmoandmaaGreatDoorYTa
namespace Go.Proofs.YthkliicmoandmaaGreatDoor
open Go.RowKit Go.Shelf
set_option linter.unusedVariables false
set_option linter.unusedSimpArgs false

/-- How one of the six is written. -/
def sgB (op : Int) : ByteArray := if op = 0 then ⟨#[61]⟩ else if op = 1 then ⟨#[33, 61]⟩ else if op = 2 then ⟨#[60, 61]⟩ else if op = 3 then ⟨#[62]⟩ else if op = 4 then ⟨#[104, 97, 115]⟩ else ⟨#[108, 97, 99, 107, 115]⟩
theorem ite_size {p : Prop} [Decidable p] {a b : ByteArray} (ha : a.size ≤ 10) (hb : b.size ≤ 10) : (if p then a else b).size ≤ 10 := by split <;> assumption
theorem sg_size (op : Int) : (sgB op).size ≤ 10 := ite_size (by decide) (ite_size (by decide) (ite_size (by decide) (ite_size (by decide) (ite_size (by decide) (by decide)))))
def knB (op : Int) : Bool := decide (0 ≤ op) && decide (op ≤ 5)

set_option maxRecDepth 100000 in
set_option maxHeartbeats 4000000 in
theorem bknown_any (op : Int) (W : World) : Calls Tryz.prog 58 #[.int .i64 op] W fun e w' => e = .returned (.bool (knB op)) ∧ w' = W := by
  have HM : Hid (knB op = (decide (0 ≤ op) && decide (op ≤ 5))) := rfl
  rw [HM.out]
  by_cases h : 0 ≤ op
  · have hd : decide (0 ≤ op) = true := by simpa using h
    go_enter Tryz.func58, Tryz.ntmps58
    go_wp2
    go_ret
    exact ⟨ret_bool (by simp [h]), rfl⟩
  · have hd : decide (0 ≤ op) = false := by simpa using h
    go_enter Tryz.func58, Tryz.ntmps58
    go_wp2
    go_ret
    exact ⟨ret_bool (by simp [hd]), rfl⟩

set_option maxRecDepth 100000 in
set_option maxHeartbeats 4000000 in
theorem sign_any (op : Int) (W : World) : Calls Tryz.prog 62 #[.int .i64 op] W fun e w' => e = .returned (.string (sgB op)) ∧ w' = W := by
  have HM : Hid (sgB op = if op = 0 then ⟨#[61]⟩ else if op = 1 then ⟨#[33, 61]⟩ else if op = 2 then ⟨#[60, 61]⟩ else if op = 3 then ⟨#[62]⟩ else if op = 4 then ⟨#[104, 97, 115]⟩ else ⟨#[108, 97, 99, 107, 115]⟩) := rfl
  by_cases h0 : op = 0
  · subst h0
    go_enter Tryz.func62, Tryz.ntmps62
    go_wp2
    go_ret
    exact ⟨by rw [HM.out]; rfl, rfl⟩
  · have e0 : (op == 0) = false := by simpa using h0
    by_cases h1 : op = 1
    · subst h1
      go_enter Tryz.func62, Tryz.ntmps62
      go_wp2
      go_ret
      exact ⟨by rw [HM.out]; rfl, rfl⟩
    · have e1 : (op == 1) = false := by simpa using h1
      by_cases h2 : op = 2
      · subst h2
        go_enter Tryz.func62, Tryz.ntmps62
        go_wp2
        go_ret
        exact ⟨by rw [HM.out]; rfl, rfl⟩
      · have e2 : (op == 2) = false := by simpa using h2
        by_cases h3 : op = 3
        · subst h3
          go_enter Tryz.func62, Tryz.ntmps62
          go_wp2
          go_ret
          exact ⟨by rw [HM.out]; rfl, rfl⟩
        · have e3 : (op == 3) = false := by simpa using h3
          by_cases h4 : op = 4
          · subst h4
            go_enter Tryz.func62, Tryz.ntmps62
            go_wp2
            go_ret
            exact ⟨by rw [HM.out]; rfl, rfl⟩
          · have e4 : (op == 4) = false := by simpa using h4
            go_enter Tryz.func62, Tryz.ntmps62
            go_wp2
            go_ret
            exact ⟨by rw [HM.out, if_neg h0, if_neg h1, if_neg h2, if_neg h3, if_neg h4]; rfl, rfl⟩
/-- A decision as text, where its numbers are a and b as text. -/
def txB (a : ByteArray) (op : Int) (b : ByteArray) : ByteArray := ⟨#[120]⟩ ++ a ++ ⟨#[32]⟩ ++ sgB op ++ ⟨#[32]⟩ ++ b

set_option maxRecDepth 100000 in
set_option maxHeartbeats 4000000 in
theorem text_any {W : World} (v op n : Int) (a b : ByteArray) (hop : knB op = true) (ha : a.size ≤ 1000) (hb : b.size ≤ 1000) (hI : ∀ X, Below W.heap.size W X → Calls Tryz.prog 61 #[.int .i64 v] X fun e w' => e = .returned (.string a) ∧ Below X.heap.size X w')
    (hF : ∀ X, Below W.heap.size W X → Calls Tryz.prog 63 #[.int .i64 n, .int .i64 10] X fun e w' => e = .returned (.string b) ∧ Below X.heap.size X w') :
    Calls Tryz.prog 27 #[.agg #[.int .i64 v, .int .i64 op, .int .i64 n]] W fun e w' => e = .returned (.string (txB a op b)) ∧ Below W.heap.size W w' := by
  obtain ⟨N, hN⟩ : ∃ N, W.heap.size = N := ⟨_, rfl⟩
  obtain ⟨W0, hW0⟩ : ∃ Q, W.alloc (Obj.cells #[.int .i64 v, .int .i64 op, .int .i64 n] 32) = Q := ⟨_, rfl⟩
  have hb0 : Below W.heap.size W W0 := by rw [← hW0]; exact (Below.refl _ W).alloc (Nat.le_refl _) _
  have HX : Hid (Bx W0 N #[.int .i64 v, .int .i64 op, .int .i64 n] 32) := by rw [← hW0]; exact Bx.new' hN _ _
  have HI : Hid (∀ X, Below W0.heap.size W0 X → Calls Tryz.prog 61 #[.int .i64 v] X fun e w' => e = .returned (.string a) ∧ Below X.heap.size X w') := fun X hX => hI X (hb0.trans (hX.mono hb0.size))
  have HF : Hid (∀ X, Below W0.heap.size W0 X → Calls Tryz.prog 63 #[.int .i64 n, .int .i64 10] X fun e w' => e = .returned (.string b) ∧ Below X.heap.size X w') := fun X hX => hF X (hb0.trans (hX.mono hb0.size))
  have HBW : Hid (Below W.heap.size W W0) := hb0
  have HB0 : Hid (Below W0.heap.size W0 W0.drew) := (Below.refl _ _).drew
  have HX0 : Hid _ := HX.out.drew 1
  have HW0 : Hid _ := hW0
  have HN : Hid (W.heap.size = N) := hN
  have HTX : Hid (txB a op b = ⟨#[120]⟩ ++ a ++ ⟨#[32]⟩ ++ sgB op ++ ⟨#[32]⟩ ++ b) := rfl
  have kb := bknown_any op W0
  rw [hop] at kb
  obtain ⟨z0, z1, z2⟩ := HX.out.three
  have hs : (sgB op).size ≤ 10 := sg_size op
  clear hW0 hb0 hI hF hop
  go_enter Tryz.func27, Tryz.ntmps27
  go_upto_region 1 with (fail)
  rw [HW0.out]
  clear hN
  go_wp2_with fail
  refine kb.mono ?_
  clear kb
  rintro e wt ⟨rfl, hwt⟩
  rw [hwt]
  clear hwt wt
  go_upto_region 3 with (fail)
  refine wp_region_held_drew (S := fun X : World => Bx X N #[.int .i64 v, .int .i64 op, .int .i64 n] 32) (by kernel_rfl) (HX0.out) (fun hHeld => ?_)
  refine wpAnyH_take (i := 0) (oi := { dst := some 7, op := Go.Op.fieldAddr 32 (Go.Operand.tmp 1) 0, type := 0, pos := "branch.go:101", after := #[], guard := none }) (v := ?_) rfl (by kernel_rfl) (by kernel_rfl) (by kernel_rfl) (fun _ _ _ h => h) (Or.inl ⟨by rfl, ?_⟩) hHeld ?_
  rotate_left
  · intro w hSw; (try dsimp only at hSw); go_simp <;> with_reducible rfl
  try simp only [Act.put, List.setIfInBounds_toArray, List.set_cons_zero, List.set_cons_succ]
  refine wpAnyH_take (i := 1) (oi := { dst := some 8, op := Go.Op.load 3 (Go.Operand.tmp 7), type := 3, pos := "branch.go:101", after := #[{ on := 0, ground := Go.Ground.data }], guard := none }) (v := ?_) rfl (by kernel_rfl) (by kernel_rfl) (by kernel_rfl) (fun _ _ _ h => h) (Or.inl ⟨by rfl, ?_⟩) hHeld ?_
  rotate_left
  · intro w hSw; obtain ⟨q0, q1, q2⟩ := hSw.three; go_simp <;> with_reducible rfl
  try simp only [Act.put, List.setIfInBounds_toArray, List.set_cons_zero, List.set_cons_succ]
  refine wpAnyH_take (i := 5) (oi := { dst := some 12, op := Go.Op.fieldAddr 32 (Go.Operand.tmp 1) 1, type := 0, pos := "branch.go:101", after := #[], guard := none }) (v := ?_) rfl (by kernel_rfl) (by kernel_rfl) (by kernel_rfl) (fun _ _ _ h => h) (Or.inl ⟨by rfl, ?_⟩) hHeld ?_
  rotate_left
  · intro w hSw; (try dsimp only at hSw); go_simp <;> with_reducible rfl
  try simp only [Act.put, List.setIfInBounds_toArray, List.set_cons_zero, List.set_cons_succ]
  refine wpAnyH_take (i := 6) (oi := { dst := some 13, op := Go.Op.load 3 (Go.Operand.tmp 12), type := 3, pos := "branch.go:101", after := #[{ on := 5, ground := Go.Ground.data }], guard := none }) (v := ?_) rfl (by kernel_rfl) (by kernel_rfl) (by kernel_rfl) (fun _ _ _ h => h) (Or.inl ⟨by rfl, ?_⟩) hHeld ?_
  rotate_left
  · intro w hSw; obtain ⟨q0, q1, q2⟩ := hSw.three; go_simp <;> with_reducible rfl
  try simp only [Act.put, List.setIfInBounds_toArray, List.set_cons_zero, List.set_cons_succ]
  refine wpAnyH_take (i := 10) (oi := { dst := some 17, op := Go.Op.fieldAddr 32 (Go.Operand.tmp 1) 2, type := 0, pos := "branch.go:101", after := #[], guard := none }) (v := ?_) rfl (by kernel_rfl) (by kernel_rfl) (by kernel_rfl) (fun _ _ _ h => h) (Or.inl ⟨by rfl, ?_⟩) hHeld ?_
  rotate_left
  · intro w hSw; (try dsimp only at hSw); go_simp <;> with_reducible rfl
  try simp only [Act.put, List.setIfInBounds_toArray, List.set_cons_zero, List.set_cons_succ]
  refine wpAnyH_take (i := 11) (oi := { dst := some 18, op := Go.Op.load 2 (Go.Operand.tmp 17), type := 2, pos := "branch.go:101", after := #[{ on := 10, ground := Go.Ground.data }], guard := none }) (v := ?_) rfl (by kernel_rfl) (by kernel_rfl) (by kernel_rfl) (fun _ _ _ h => h) (Or.inl ⟨by rfl, ?_⟩) hHeld ?_
  rotate_left
  · intro w hSw; obtain ⟨q0, q1, q2⟩ := hSw.three; go_simp <;> with_reducible rfl
  try simp only [Act.put, List.setIfInBounds_toArray, List.set_cons_zero, List.set_cons_succ]
  refine wpAnyH_ready (rs := [2]) (by kernel_rfl) (by simp) ?_
  refine AllReadyH.cons rfl (fun K hK => ?_) AllReadyH.nil
  go_simp
  refine (HI.out _ HB0.out).mono ?_
  rintro e w1 ⟨rfl, hb1⟩
  have HB1 : Hid (Below W0.heap.size W0 w1) := HB0.out.trans (hb1.mono HB0.out.size)
  clear hb1
  refine hK.out _ _ (HX.out.below HB1.out) (fun hHeld2 => ?_)
  clear hK K hHeld
  have hHeld := hHeld2
  clear hHeld2
  try simp only [Act.put, List.setIfInBounds_toArray, List.set_cons_zero, List.set_cons_succ]
  refine wpAnyH_take (i := 3) (oi := { dst := some 10, op := Go.Op.binOp Go.BinOp.add 9 (Go.Operand.const (Go.Value.string { data := #[120] })) (Go.Operand.tmp 9) 9, type := 9, pos := "branch.go:101", after := #[{ on := 2, ground := Go.Ground.data }], guard := none }) (v := .string (⟨#[120]⟩ ++ a)) rfl (by kernel_rfl) (by kernel_rfl) (by kernel_rfl) (fun _ _ _ h => h) (Or.inl ⟨by rfl, ?_⟩) hHeld ?_
  skip
  · intro w hSw; go_simp; omega
  try simp only [Act.put, List.setIfInBounds_toArray, List.set_cons_zero, List.set_cons_succ]
  refine wpAnyH_take (i := 4) (oi := { dst := some 11, op := Go.Op.binOp Go.BinOp.add 9 (Go.Operand.tmp 10) (Go.Operand.const (Go.Value.string { data := #[32] })) 9, type := 9, pos := "branch.go:101", after := #[{ on := 3, ground := Go.Ground.data }], guard := none }) (v := .string (⟨#[120]⟩ ++ a ++ ⟨#[32]⟩)) rfl (by kernel_rfl) (by kernel_rfl) (by kernel_rfl) (fun _ _ _ h => h) (Or.inl ⟨by rfl, ?_⟩) hHeld ?_
  skip
  · intro w hSw; go_simp; omega
  try simp only [Act.put, List.setIfInBounds_toArray, List.set_cons_zero, List.set_cons_succ]
  refine wpAnyH_ready (rs := [7]) (by kernel_rfl) (by simp) ?_
  refine AllReadyH.cons rfl (fun K hK => ?_) AllReadyH.nil
  go_simp
  refine (sign_any op _).mono ?_
  rintro e wt ⟨rfl, hwt⟩
  rw [hwt]
  clear hwt wt
  refine hK.out _ _ (HX.out.below HB1.out) (fun hHeld2 => ?_)
  clear hK K hHeld
  have hHeld := hHeld2
  clear hHeld2
  try simp only [Act.put, List.setIfInBounds_toArray, List.set_cons_zero, List.set_cons_succ]
  refine wpAnyH_take (i := 8) (oi := { dst := some 15, op := Go.Op.binOp Go.BinOp.add 9 (Go.Operand.tmp 11) (Go.Operand.tmp 14) 9, type := 9, pos := "branch.go:101", after := #[{ on := 4, ground := Go.Ground.data }, { on := 7, ground := Go.Ground.data }], guard := none }) (v := .string (⟨#[120]⟩ ++ a ++ ⟨#[32]⟩ ++ sgB op)) rfl (by kernel_rfl) (by kernel_rfl) (by kernel_rfl) (fun _ _ _ h => h) (Or.inl ⟨by rfl, ?_⟩) hHeld ?_
  skip
  · intro w hSw; go_simp; omega
  try simp only [Act.put, List.setIfInBounds_toArray, List.set_cons_zero, List.set_cons_succ]
  refine wpAnyH_take (i := 9) (oi := { dst := some 16, op := Go.Op.binOp Go.BinOp.add 9 (Go.Operand.tmp 15) (Go.Operand.const (Go.Value.string { data := #[32] })) 9, type := 9, pos := "branch.go:101", after := #[{ on := 8, ground := Go.Ground.data }], guard := none }) (v := .string (⟨#[120]⟩ ++ a ++ ⟨#[32]⟩ ++ sgB op ++ ⟨#[32]⟩)) rfl (by kernel_rfl) (by kernel_rfl) (by kernel_rfl) (fun _ _ _ h => h) (Or.inl ⟨by rfl, ?_⟩) hHeld ?_
  skip
  · intro w hSw; go_simp; omega
  try simp only [Act.put, List.setIfInBounds_toArray, List.set_cons_zero, List.set_cons_succ]
  refine wpAnyH_ready (rs := [12]) (by kernel_rfl) (by simp) ?_
  refine AllReadyH.cons rfl (fun K hK => ?_) AllReadyH.nil
  go_simp
  refine (HF.out _ HB1.out).mono ?_
  rintro e w2 ⟨rfl, hb2⟩
  have HB2 : Hid (Below W0.heap.size W0 w2) := HB1.out.trans (hb2.mono HB1.out.size)
  clear hb2
  refine hK.out _ _ (HX.out.below HB2.out) (fun hHeld2 => ?_)
  clear hK K hHeld
  have hHeld := hHeld2
  clear hHeld2
  try simp only [Act.put, List.setIfInBounds_toArray, List.set_cons_zero, List.set_cons_succ]
  refine wpAnyH_take (i := 13) (oi := { dst := some 20, op := Go.Op.binOp Go.BinOp.add 9 (Go.Operand.tmp 16) (Go.Operand.tmp 19) 9, type := 9, pos := "branch.go:101", after := #[{ on := 9, ground := Go.Ground.data }, { on := 12, ground := Go.Ground.data }], guard := none }) (v := .string (⟨#[120]⟩ ++ a ++ ⟨#[32]⟩ ++ sgB op ++ ⟨#[32]⟩ ++ b)) rfl (by kernel_rfl) (by kernel_rfl) (by kernel_rfl) (fun _ _ _ h => h) (Or.inl ⟨by rfl, ?_⟩) hHeld ?_
  skip
  · intro w hSw; go_simp; omega
  try simp only [Act.put, List.setIfInBounds_toArray, List.set_cons_zero, List.set_cons_succ]
  refine wpAnyH_take (i := 14) (oi := { dst := some 2, op := Go.Op.assign (Go.Operand.tmp 20), type := 9, pos := "branch.go:101", after := #[{ on := 13, ground := Go.Ground.data }, { on := 12, ground := Go.Ground.chain }, { on := 0, ground := Go.Ground.phase }, { on := 1, ground := Go.Ground.phase }, { on := 2, ground := Go.Ground.phase }, { on := 3, ground := Go.Ground.phase }, { on := 4, ground := Go.Ground.phase }, { on := 5, ground := Go.Ground.phase }, { on := 6, ground := Go.Ground.phase }, { on := 7, ground := Go.Ground.phase }, { on := 8, ground := Go.Ground.phase }, { on := 9, ground := Go.Ground.phase }, { on := 10, ground := Go.Ground.phase }, { on := 11, ground := Go.Ground.phase }, { on := 12, ground := Go.Ground.phase }, { on := 13, ground := Go.Ground.phase }], guard := none }) (v := ?_) rfl (by kernel_rfl) (by kernel_rfl) (by kernel_rfl) (fun _ _ _ h => h) (Or.inl ⟨by rfl, ?_⟩) hHeld ?_
  rotate_left
  · intro w hSw; (try dsimp only at hSw); go_simp <;> with_reducible rfl
  try simp only [Act.put, List.setIfInBounds_toArray, List.set_cons_zero, List.set_cons_succ]
  refine wpAnyH_done (by kernel_rfl) ?_ _
  go_wp2
  go_ret
  exact ⟨by rw [HTX.out]; rfl, HBW.out.trans (HB2.out.mono HBW.out.size)⟩
set_option maxRecDepth 100000 in
set_option maxHeartbeats 4000000 in
theorem not_le (v n : Int) (W : World) : Calls Tryz.prog 23 #[.agg #[.int .i64 v, .int .i64 2, .int .i64 n]] W fun e w' => e = .returned (.agg #[.int .i64 v, .int .i64 3, .int .i64 n]) ∧ Below W.heap.size W w' := by
  obtain ⟨N, hN⟩ : ∃ N, W.heap.size = N := ⟨_, rfl⟩
  obtain ⟨W0, hW0⟩ : ∃ Q, (W.alloc (Obj.cells #[.int .i64 v, .int .i64 2, .int .i64 n] 32)).alloc (Obj.cells #[.int .i64 0, .int .i64 0, .int .i64 0] 32) = Q := ⟨_, rfl⟩
  have hb0 : Below N W W0 := by rw [← hW0, ← hN]; exact ((Below.refl _ W).alloc (Nat.le_refl _) _).alloc (by simp) _
  have hx : Bx W0 N #[.int .i64 v, .int .i64 2, .int .i64 n] 32 := by rw [← hW0]; exact (Bx.new' hN _ _).alloc _
  have hy : Bx W0 (N + 1) #[.int .i64 0, .int .i64 0, .int .i64 0] 32 := by rw [← hW0]; exact Bx.new' (by simp [hN]) _ _
  have HX : Hid _ := hx
  have HY : Hid _ := hy
  have HB : Hid (Below N W W0) := hb0
  have HW0 : Hid _ := hW0
  obtain ⟨z0, z1, z2⟩ := hx.three
  obtain ⟨y0, y1, y2⟩ := hy.three
  have f0 := hx.fr 1
  have g0 := hy.fr 0
  have g1 := hy.fr 1
  have g2 := hy.fr 2
  have kb := bknown_any 2 W0
  rw [show knB 2 = true from rfl] at kb
  rw [hN]
  clear hx hy hb0 hW0
  go_enter Tryz.func23, Tryz.ntmps23
  go_upto_region 1 with (fail)
  rw [HW0.out]
  clear hN
  go_wp2_with fail
  refine kb.mono ?_
  clear kb
  rintro e wt ⟨rfl, hwt⟩
  rw [hwt]
  clear hwt wt
  go_wp2
  refine ⟨rfl, _, results_cell_row rfl _ _ (N + 1) 32 _ (0, 0) _ rfl ((HY.out.other (by omega) 1 _).set3 _ _ _).h Tryz.underlying32 rfl (by kernel_rfl), rfl, ?_⟩
  exact (((HB.out.setCell (p := ⟨N, 1, none⟩) (Nat.le_refl _) _).setCell (p := ⟨N + 1, 0, none⟩) (by show N ≤ N + 1; omega) _).setCell (p := ⟨N + 1, 1, none⟩) (by show N ≤ N + 1; omega) _).setCell (p := ⟨N + 1, 2, none⟩) (by show N ≤ N + 1; omega) _
end Go.Proofs.YthkliicmoandmaaGreatDoor

namespace Go.Proofs.YthkliicmoandmaaGreatDoor
open Go.RowKit Go.Shelf
set_option linter.unusedVariables false
set_option linter.unusedSimpArgs false

theorem list6 {q : List Value} (h : q.length = 6) : ∃ c0 c1 c2 c3 c4 c5, q = [c0, c1, c2, c3, c4, c5] := by
  match q, h with
  | [c0, c1, c2, c3, c4, c5], _ => exact ⟨c0, c1, c2, c3, c4, c5, rfl⟩
end Go.Proofs.YthkliicmoandmaaGreatDoor

namespace Go.Proofs.YthkliicmoandmaaGreatDoor
open Go.RowKit Go.Shelf
set_option linter.unusedVariables false
set_option linter.unusedSimpArgs false

set_option maxRecDepth 100000 in
set_option maxHeartbeats 4000000 in
theorem taken_any (v op n : Int) (W : World) : Calls Tryz.prog 14 #[.agg #[.int .i64 v, .int .i64 op, .int .i64 n]] W fun e w' => e = .returned (.agg #[.int .i64 v, .int .i64 op, .int .i64 n]) ∧ Below W.heap.size W w' := by
  obtain ⟨N, hN⟩ : ∃ N, W.heap.size = N := ⟨_, rfl⟩
  obtain ⟨W0, hW0⟩ : ∃ Q, (W.alloc (Obj.cells #[.int .i64 v, .int .i64 op, .int .i64 n] 32)).alloc (Obj.cells #[.int .i64 0, .int .i64 0, .int .i64 0] 35) = Q := ⟨_, rfl⟩
  have hb0 : Below N W W0 := by rw [← hW0, ← hN]; exact ((Below.refl _ W).alloc (Nat.le_refl _) _).alloc (by simp) _
  have hx : Bx W0 N #[.int .i64 v, .int .i64 op, .int .i64 n] 32 := by rw [← hW0]; exact (Bx.new' hN _ _).alloc _
  have hy : Bx W0 (N + 1) #[.int .i64 0, .int .i64 0, .int .i64 0] 35 := by rw [← hW0]; exact Bx.new' (by simp [hN]) _ _
  have HY : Hid _ := hy
  have HB : Hid (Below N W W0) := hb0
  have HW0 : Hid _ := hW0
  obtain ⟨z0, z1, z2⟩ := hx.three
  obtain ⟨y0, y1, y2⟩ := hy.three
  have g0 := hy.fr 0
  have g1 := hy.fr 1
  have g2 := hy.fr 2
  rw [hN]
  clear hx hy hb0 hW0
  go_enter Tryz.func14, Tryz.ntmps14
  go_upto_region 1 with (fail)
  rw [HW0.out]
  clear hN
  go_wp2
  refine ⟨rfl, _, results_cell_row rfl _ _ (N + 1) 35 _ (0, 0) _ rfl (HY.out.set3 _ _ _).h Tryz.underlying35 rfl (by kernel_rfl), rfl, ?_⟩
  exact ((HB.out.setCell (p := ⟨N + 1, 0, none⟩) (by show N ≤ N + 1; omega) _).setCell (p := ⟨N + 1, 1, none⟩) (by show N ≤ N + 1; omega) _).setCell (p := ⟨N + 1, 2, none⟩) (by show N ≤ N + 1; omega) _

end Go.Proofs.YthkliicmoandmaaGreatDoor
