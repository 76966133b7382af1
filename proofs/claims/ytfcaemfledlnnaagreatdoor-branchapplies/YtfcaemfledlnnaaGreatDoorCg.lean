/-
  What is proved here: a decision as text, of any numbers, by package branch and by the reference.
-/
import Derived.Test.YtfcaemfledlnnaaGreatDoorCej
import Derived.Test.YtfcaemfledlnnaaGreatDoorSi
import Derived.Lib.LaidTab
import Derived.Lib.ItoaLen
import Derived.Deep.RegionHeld3
namespace Go.Proofs.YtfcaemfledlnnaaGreatDoor
open Go.RowKit Go.Shelf
set_option linter.unusedVariables false
set_option linter.unusedSimpArgs false

/-- The library's powers of ten lie as its text lays them. -/
def Tens (w : World) : Prop := Lib.TabIs Tryz.prog w "internal/strconv.uint64pow10" .u64 Lib.pow10Tab
theorem Tens.self {w w' : World} (h : Tens w) (hb : Below w.heap.size w w') : Tens w' := Lib.tabBelow_of_tabIs h w' hb
def itB (n : Int) : ByteArray := ⟨(Lib.itoa n).toArray⟩
theorem itB_size {n : Int} (h : Dm.Fits n) : (itB n).size ≤ 1000 := by
  have := Lib.itoa_length_le n h.1 h.2
  show (Lib.itoa n).toArray.size ≤ 1000
  simp; omega
def txM (v op n : Int) : ByteArray := if knB op then txB (itB v) op (itB n) else ⟨#[]⟩
theorem itoa_t {W : World} {v : Int} (hv : Dm.Fits v) (hT : Tens W) : ∀ X, Below W.heap.size W X → Calls Tryz.prog 61 #[.int .i64 v] X fun e w' => e = .returned (.string (itB v)) ∧ Below X.heap.size X w' :=
  fun X hX => (Any.strconv_Itoa Tryz.laysItoa v hv.1 hv.2 X (hT.self hX)).mono fun e w' ⟨he, k, os, hw⟩ => ⟨he, by rw [hw]; exact Lib.below_grow _ _ (Nat.le_refl _) _ _⟩
theorem fint_t {W : World} {v : Int} (hv : Dm.Fits v) (hT : Tens W) : ∀ X, Below W.heap.size W X → Calls Tryz.prog 63 #[.int .i64 v, .int .i64 10] X fun e w' => e = .returned (.string (itB v)) ∧ Below X.heap.size X w' :=
  fun X hX => (Any.strconv_FormatInt_10 Tryz.laysFint v hv.1 hv.2 X (hT.self hX)).mono fun e w' ⟨he, k, os, hw⟩ => ⟨he, by rw [hw]; exact Lib.below_grow _ _ (Nat.le_refl _) _ _⟩

set_option maxRecDepth 100000 in
set_option maxHeartbeats 4000000 in
theorem text_no {W : World} (v op n : Int) (hop : knB op = false) : Calls Tryz.prog 27 #[.agg #[.int .i64 v, .int .i64 op, .int .i64 n]] W fun e w' => e = .returned (.string ⟨#[]⟩) ∧ Below W.heap.size W w' := by
  obtain ⟨W0, hW0⟩ : ∃ Q, W.alloc (Obj.cells #[.int .i64 v, .int .i64 op, .int .i64 n] 32) = Q := ⟨_, rfl⟩
  have hb0 : Below W.heap.size W W0 := by rw [← hW0]; exact (Below.refl _ W).alloc (Nat.le_refl _) _
  have HX : Hid (Bx W0 W.heap.size #[.int .i64 v, .int .i64 op, .int .i64 n] 32) := by rw [← hW0]; exact Bx.new _ _ _
  have HW0 : Hid _ := hW0
  have kb := bknown_any op W0
  rw [hop] at kb
  obtain ⟨z0, z1, z2⟩ := HX.out.three
  clear hW0 hop
  go_enter Tryz.func27, Tryz.ntmps27
  go_upto_region 1 with (fail)
  rw [HW0.out]
  go_wp2_with fail
  refine kb.mono ?_
  rintro e wt ⟨rfl, hwt⟩
  rw [hwt]
  clear hwt wt
  go_wp2
  go_ret
  exact ⟨rfl, hb0⟩
theorem text_t {W : World} (v op n : Int) (hv : Dm.Fits v) (hn : Dm.Fits n) (hT : Tens W) : Calls Tryz.prog 27 #[.agg #[.int .i64 v, .int .i64 op, .int .i64 n]] W fun e w' => e = .returned (.string (txM v op n)) ∧ Below W.heap.size W w' := by
  unfold txM
  cases hk : knB op
  · exact text_no v op n hk
  · exact text_any v op n (itB v) (itB n) hk (itB_size hv) (itB_size hn) (itoa_t hv hT) (fint_t hn hT)
theorem Tryz.sgs : True := trivial
def sgRow : Array Value := #[.string ⟨#[61]⟩, .string ⟨#[33, 61]⟩, .string ⟨#[60, 61]⟩, .string ⟨#[62]⟩, .string ⟨#[104, 97, 115]⟩, .string ⟨#[108, 97, 99, 107, 115]⟩]
theorem sg_row (k : Nat) (hk : k < 6) : sgRow[k]? = some (.string (sgB (k : Int))) := by
  match k, hk with
  | 0, _ => rfl
  | 1, _ => rfl
  | 2, _ => rfl
  | 3, _ => rfl
  | 4, _ => rfl
  | 5, _ => rfl

set_option maxRecDepth 100000 in
set_option maxHeartbeats 4000000 in
theorem rtext_no {W : World} (v op n : Int) (hop : knB op = false) : Calls Tryz.prog 28 #[.agg #[.int .i64 v, .int .i64 op, .int .i64 n]] W fun e w' => e = .returned (.string ⟨#[]⟩) ∧ Below W.heap.size W w' := by
  obtain ⟨W0, hW0⟩ : ∃ Q, W.alloc (Obj.cells #[.int .i64 v, .int .i64 op, .int .i64 n] 35) = Q := ⟨_, rfl⟩
  have hb0 : Below W.heap.size W W0 := by rw [← hW0]; exact (Below.refl _ W).alloc (Nat.le_refl _) _
  have HX : Hid (Bx W0 W.heap.size #[.int .i64 v, .int .i64 op, .int .i64 n] 35) := by rw [← hW0]; exact Bx.new _ _ _
  have HW0 : Hid _ := hW0
  obtain ⟨z0, z1, z2⟩ := HX.out.three
  unfold knB at hop
  clear hW0
  by_cases h0 : op < 0
  · have s1 : decide (op < 0) = true := by simpa using h0
    clear hop
    go_enter Tryz.func28, Tryz.ntmps28
    go_upto_region 1 with (fail)
    rw [HW0.out]
    go_wp2
    go_ret
    exact ⟨rfl, hb0⟩
  · have s1 : decide (op < 0) = false := by simpa using h0
    have s2' : 5 < op := by
      simp only [Bool.and_eq_false_iff, decide_eq_false_iff_not] at hop
      omega
    have s2 : decide (5 < op) = true := by simpa using s2'
    clear hop
    go_enter Tryz.func28, Tryz.ntmps28
    go_upto_region 1 with (fail)
    rw [HW0.out]
    go_wp2
    go_ret
    exact ⟨rfl, hb0⟩

set_option maxRecDepth 100000 in
set_option maxHeartbeats 4000000 in
theorem rtext_any {W : World} (v n : Int) (k : Nat) (hk6 : k < 6) (a b : ByteArray) (ha : a.size ≤ 1000) (hb : b.size ≤ 1000) (hI : ∀ X, Below W.heap.size W X → Calls Tryz.prog 61 #[.int .i64 v] X fun e w' => e = .returned (.string a) ∧ Below X.heap.size X w')
    (hF : ∀ X, Below W.heap.size W X → Calls Tryz.prog 63 #[.int .i64 n, .int .i64 10] X fun e w' => e = .returned (.string b) ∧ Below X.heap.size X w') :
    Calls Tryz.prog 28 #[.agg #[.int .i64 v, .int .i64 (k : Int), .int .i64 n]] W fun e w' => e = .returned (.string (txB a (k : Int) b)) ∧ Below W.heap.size W w' := by
  obtain ⟨N, hN⟩ : ∃ N, W.heap.size = N := ⟨_, rfl⟩
  obtain ⟨W0, hW0⟩ : ∃ Q, W.alloc (Obj.cells #[.int .i64 v, .int .i64 (k : Int), .int .i64 n] 35) = Q := ⟨_, rfl⟩
  have hb0 : Below W.heap.size W W0 := by rw [← hW0]; exact (Below.refl _ W).alloc (Nat.le_refl _) _
  have HX : Hid (Bx W0 N #[.int .i64 v, .int .i64 (k : Int), .int .i64 n] 35) := by rw [← hW0]; exact Bx.new' hN _ _
  have HI : Hid (∀ X, Below W0.heap.size W0 X → Calls Tryz.prog 61 #[.int .i64 v] X fun e w' => e = .returned (.string a) ∧ Below X.heap.size X w') := fun X hX => hI X (hb0.trans (hX.mono hb0.size))
  have HF : Hid (∀ X, Below W0.heap.size W0 X → Calls Tryz.prog 63 #[.int .i64 n, .int .i64 10] X fun e w' => e = .returned (.string b) ∧ Below X.heap.size X w') := fun X hX => hF X (hb0.trans (hX.mono hb0.size))
  have HBW : Hid (Below W.heap.size W W0) := hb0
  have HBc : Hid (Below W0.heap.size W0 W0.drew) := (Below.refl _ _).drew
  have HX0 : Hid _ := HX.out.drew 1
  have HW0 : Hid _ := hW0
  have HTX : Hid (txB a (k : Int) b = ⟨#[120]⟩ ++ a ++ ⟨#[32]⟩ ++ sgB (k : Int) ++ ⟨#[32]⟩ ++ b) := rfl
  have hs : (sgB (k : Int)).size ≤ 10 := sg_size _
  have s1 : decide ((k : Int) < 0) = false := decide_eq_false (by omega)
  have s2 : decide (5 < (k : Int)) = false := decide_eq_false (by omega)
  have s3 : ¬ 5 < k := by omega
  have s4 : (k : Int) < 6 := by omega
  obtain ⟨z0, z1, z2⟩ := HX.out.three
  clear hW0 hb0 hI hF
  go_enter Tryz.func28, Tryz.ntmps28
  go_upto_region 1 with (fail)
  rw [HW0.out]
  clear hN
  go_upto_region 3 with (fail)
  refine wp_region_held_drew (S := fun X : World => Bx X N #[.int .i64 v, .int .i64 (k : Int), .int .i64 n] 35) (by kernel_rfl) (HX0.out) (fun hHeld => ?_)
  refine wpAnyH_take (i := 0) (oi := { dst := some 11, op := Go.Op.fieldAddr 35 (Go.Operand.tmp 1) 0, type := 0, pos := "ref.go:234", after := #[], guard := none }) (v := ?_) rfl (by kernel_rfl) (by kernel_rfl) (by kernel_rfl) (fun _ _ _ h => h) (Or.inl ⟨by rfl, ?_⟩) hHeld ?_
  rotate_left
  · intro w hSw; (try dsimp only at hSw); go_simp <;> with_reducible rfl
  try simp only [Act.put, List.setIfInBounds_toArray, List.set_cons_zero, List.set_cons_succ]
  refine wpAnyH_take (i := 1) (oi := { dst := some 12, op := Go.Op.load 3 (Go.Operand.tmp 11), type := 3, pos := "ref.go:234", after := #[{ on := 0, ground := Go.Ground.data }], guard := none }) (v := ?_) rfl (by kernel_rfl) (by kernel_rfl) (by kernel_rfl) (fun _ _ _ h => h) (Or.inl ⟨by rfl, ?_⟩) hHeld ?_
  rotate_left
  · intro w hSw; obtain ⟨q0, q1, q2⟩ := hSw.three; go_simp <;> with_reducible rfl
  try simp only [Act.put, List.setIfInBounds_toArray, List.set_cons_zero, List.set_cons_succ]
  refine wpAnyH_take (i := 6) (oi := { dst := some 17, op := Go.Op.fieldAddr 35 (Go.Operand.tmp 1) 1, type := 0, pos := "ref.go:234", after := #[], guard := none }) (v := ?_) rfl (by kernel_rfl) (by kernel_rfl) (by kernel_rfl) (fun _ _ _ h => h) (Or.inl ⟨by rfl, ?_⟩) hHeld ?_
  rotate_left
  · intro w hSw; (try dsimp only at hSw); go_simp <;> with_reducible rfl
  try simp only [Act.put, List.setIfInBounds_toArray, List.set_cons_zero, List.set_cons_succ]
  refine wpAnyH_take (i := 7) (oi := { dst := some 18, op := Go.Op.load 3 (Go.Operand.tmp 17), type := 3, pos := "ref.go:234", after := #[{ on := 6, ground := Go.Ground.data }], guard := none }) (v := ?_) rfl (by kernel_rfl) (by kernel_rfl) (by kernel_rfl) (fun _ _ _ h => h) (Or.inl ⟨by rfl, ?_⟩) hHeld ?_
  rotate_left
  · intro w hSw; obtain ⟨q0, q1, q2⟩ := hSw.three; go_simp <;> with_reducible rfl
  try simp only [Act.put, List.setIfInBounds_toArray, List.set_cons_zero, List.set_cons_succ]
  refine wpAnyH_take (i := 12) (oi := { dst := some 23, op := Go.Op.fieldAddr 35 (Go.Operand.tmp 1) 2, type := 0, pos := "ref.go:234", after := #[], guard := none }) (v := ?_) rfl (by kernel_rfl) (by kernel_rfl) (by kernel_rfl) (fun _ _ _ h => h) (Or.inl ⟨by rfl, ?_⟩) hHeld ?_
  rotate_left
  · intro w hSw; (try dsimp only at hSw); go_simp <;> with_reducible rfl
  try simp only [Act.put, List.setIfInBounds_toArray, List.set_cons_zero, List.set_cons_succ]
  refine wpAnyH_take (i := 13) (oi := { dst := some 24, op := Go.Op.load 2 (Go.Operand.tmp 23), type := 2, pos := "ref.go:234", after := #[{ on := 12, ground := Go.Ground.data }], guard := none }) (v := ?_) rfl (by kernel_rfl) (by kernel_rfl) (by kernel_rfl) (fun _ _ _ h => h) (Or.inl ⟨by rfl, ?_⟩) hHeld ?_
  rotate_left
  · intro w hSw; obtain ⟨q0, q1, q2⟩ := hSw.three; go_simp <;> with_reducible rfl
  try simp only [Act.put, List.setIfInBounds_toArray, List.set_cons_zero, List.set_cons_succ]
  refine wpAnyH_ready (rs := [2, 5]) (by kernel_rfl) (by simp) ?_
  refine AllReadyH.cons rfl (fun K hK => ?_) ?_
  · go_simp
    refine (HI.out _ HBc.out).mono ?_
    rintro e wn ⟨rfl, hbn⟩
    have HBc : Hid (Below W0.heap.size W0 wn) := HBc.out.trans (hbn.mono HBc.out.size)
    clear hbn
    refine hK.out _ _ (HX.out.below HBc.out) (fun hHeld2 => ?_)
    clear hK K hHeld
    have hHeld := hHeld2
    clear hHeld2
    try simp only [Act.put, List.setIfInBounds_toArray, List.set_cons_zero, List.set_cons_succ]
    refine wpAnyH_take (i := 3) (oi := { dst := some 14, op := Go.Op.binOp Go.BinOp.add 9 (Go.Operand.const (Go.Value.string { data := #[120] })) (Go.Operand.tmp 13) 9, type := 9, pos := "ref.go:234", after := #[{ on := 2, ground := Go.Ground.data }], guard := none }) (v := .string (⟨#[120]⟩ ++ a)) rfl (by kernel_rfl) (by kernel_rfl) (by kernel_rfl) (fun _ _ _ h => h) (Or.inl ⟨by rfl, ?_⟩) hHeld ?_
    skip
    · intro w hSw; go_simp; omega
    try simp only [Act.put, List.setIfInBounds_toArray, List.set_cons_zero, List.set_cons_succ]
    refine wpAnyH_take (i := 4) (oi := { dst := some 15, op := Go.Op.binOp Go.BinOp.add 9 (Go.Operand.tmp 14) (Go.Operand.const (Go.Value.string { data := #[32] })) 9, type := 9, pos := "ref.go:234", after := #[{ on := 3, ground := Go.Ground.data }], guard := none }) (v := .string (⟨#[120]⟩ ++ a ++ ⟨#[32]⟩)) rfl (by kernel_rfl) (by kernel_rfl) (by kernel_rfl) (fun _ _ _ h => h) (Or.inl ⟨by rfl, ?_⟩) hHeld ?_
    skip
    · intro w hSw; go_simp; omega
    try simp only [Act.put, List.setIfInBounds_toArray, List.set_cons_zero, List.set_cons_succ]
    refine wpAnyH_ready (rs := [5, 14]) (by kernel_rfl) (by simp) ?_
    refine AllReadyH.cons rfl (fun K hK => ?_) ?_
    · obtain ⟨gS, hgS⟩ : ∃ q, (World.heap wn).size = q := ⟨_, rfl⟩
      obtain ⟨wS, hwS⟩ : ∃ q, World.alloc wn (Obj.cells sgRow 9) = q := ⟨_, rfl⟩
      have HG : Hid (Bx wS gS sgRow 9) := by rw [← hwS]; exact Bx.new' hgS _ _
      have hbS : Below W0.heap.size W0 wS := by rw [← hwS]; exact HBc.out.alloc HBc.out.size _
      have HBc : Hid (Below W0.heap.size W0 wS) := hbS
      have HWS : Hid _ := hwS
      have HGS : Hid _ := hgS
      clear hbS hwS hgS
      go_simp
      (try rw [show #[Value.string ⟨#[61]⟩, .string ⟨#[33, 61]⟩, .string ⟨#[60, 61]⟩, .string ⟨#[62]⟩, .string ⟨#[104, 97, 115]⟩, .string ⟨#[108, 97, 99, 107, 115]⟩] = sgRow from rfl])
      rw [HWS.out, HGS.out]
      refine hK.out _ _ (HX.out.below HBc.out) (fun hHeld2 => ?_)
      clear hK K hHeld
      have hHeld := hHeld2
      clear hHeld2
      try simp only [Act.put, List.setIfInBounds_toArray, List.set_cons_zero, List.set_cons_succ]
      refine wpAnyH_take (i := 8) (oi := { dst := some 19, op := Go.Op.indexAddr 103 (Go.Operand.tmp 16) (Go.Operand.tmp 18), type := 0, pos := "ref.go:234", after := #[{ on := 5, ground := Go.Ground.data }, { on := 7, ground := Go.Ground.data }], guard := none }) (v := ?_) rfl (by kernel_rfl) (by kernel_rfl) (by kernel_rfl) (fun _ _ _ h => h) (Or.inl ⟨by rfl, ?_⟩) hHeld ?_
      rotate_left
      · intro w hSw; (try dsimp only at hSw); go_simp <;> with_reducible rfl
      try simp only [Act.put, List.setIfInBounds_toArray, List.set_cons_zero, List.set_cons_succ]
      refine wpAnyH_ready (rs := [9, 14]) (by kernel_rfl) (by simp) ?_
      refine AllReadyH.cons rfl (fun K hK => ?_) ?_
      · have hsg := (HG.out.cell k).trans (sg_row k hk6)
        go_simp
        clear hsg
        refine hK.out _ _ (HX.out.below HBc.out) (fun hHeld2 => ?_)
        clear hK K hHeld
        have hHeld := hHeld2
        clear hHeld2
        try simp only [Act.put, List.setIfInBounds_toArray, List.set_cons_zero, List.set_cons_succ]
        refine wpAnyH_take (i := 10) (oi := { dst := some 21, op := Go.Op.binOp Go.BinOp.add 9 (Go.Operand.tmp 15) (Go.Operand.tmp 20) 9, type := 9, pos := "ref.go:234", after := #[{ on := 4, ground := Go.Ground.data }, { on := 9, ground := Go.Ground.data }], guard := none }) (v := .string (⟨#[120]⟩ ++ a ++ ⟨#[32]⟩ ++ sgB (k : Int))) rfl (by kernel_rfl) (by kernel_rfl) (by kernel_rfl) (fun _ _ _ h => h) (Or.inl ⟨by rfl, ?_⟩) hHeld ?_
        skip
        · intro w hSw; go_simp; omega
        try simp only [Act.put, List.setIfInBounds_toArray, List.set_cons_zero, List.set_cons_succ]
        refine wpAnyH_take (i := 11) (oi := { dst := some 22, op := Go.Op.binOp Go.BinOp.add 9 (Go.Operand.tmp 21) (Go.Operand.const (Go.Value.string { data := #[32] })) 9, type := 9, pos := "ref.go:234", after := #[{ on := 10, ground := Go.Ground.data }], guard := none }) (v := .string (⟨#[120]⟩ ++ a ++ ⟨#[32]⟩ ++ sgB (k : Int) ++ ⟨#[32]⟩)) rfl (by kernel_rfl) (by kernel_rfl) (by kernel_rfl) (fun _ _ _ h => h) (Or.inl ⟨by rfl, ?_⟩) hHeld ?_
        skip
        · intro w hSw; go_simp; omega
        try simp only [Act.put, List.setIfInBounds_toArray, List.set_cons_zero, List.set_cons_succ]
        refine wpAnyH_ready (rs := [14]) (by kernel_rfl) (by simp) ?_
        refine AllReadyH.cons rfl (fun K hK => ?_) AllReadyH.nil
        go_simp
        refine (HF.out _ HBc.out).mono ?_
        rintro e wn ⟨rfl, hbn⟩
        have HG : Hid (Bx wn gS _ _) := HG.out.below hbn
        have HBc : Hid (Below W0.heap.size W0 wn) := HBc.out.trans (hbn.mono HBc.out.size)
        clear hbn
        refine hK.out _ _ (HX.out.below HBc.out) (fun hHeld2 => ?_)
        clear hK K hHeld
        have hHeld := hHeld2
        clear hHeld2
        try simp only [Act.put, List.setIfInBounds_toArray, List.set_cons_zero, List.set_cons_succ]
        refine wpAnyH_take (i := 15) (oi := { dst := some 26, op := Go.Op.binOp Go.BinOp.add 9 (Go.Operand.tmp 22) (Go.Operand.tmp 25) 9, type := 9, pos := "ref.go:234", after := #[{ on := 11, ground := Go.Ground.data }, { on := 14, ground := Go.Ground.data }], guard := none }) (v := .string (⟨#[120]⟩ ++ a ++ ⟨#[32]⟩ ++ sgB (k : Int) ++ ⟨#[32]⟩ ++ b)) rfl (by kernel_rfl) (by kernel_rfl) (by kernel_rfl) (fun _ _ _ h => h) (Or.inl ⟨by rfl, ?_⟩) hHeld ?_
        skip
        · intro w hSw; go_simp; omega
        try simp only [Act.put, List.setIfInBounds_toArray, List.set_cons_zero, List.set_cons_succ]
        refine wpAnyH_take (i := 16) (oi := { dst := some 2, op := Go.Op.assign (Go.Operand.tmp 26), type := 9, pos := "ref.go:234", after := #[{ on := 15, ground := Go.Ground.data }, { on := 14, ground := Go.Ground.chain }, { on := 0, ground := Go.Ground.phase }, { on := 1, ground := Go.Ground.phase }, { on := 2, ground := Go.Ground.phase }, { on := 3, ground := Go.Ground.phase }, { on := 4, ground := Go.Ground.phase }, { on := 5, ground := Go.Ground.phase }, { on := 6, ground := Go.Ground.phase }, { on := 7, ground := Go.Ground.phase }, { on := 8, ground := Go.Ground.phase }, { on := 9, ground := Go.Ground.phase }, { on := 10, ground := Go.Ground.phase }, { on := 11, ground := Go.Ground.phase }, { on := 12, ground := Go.Ground.phase }, { on := 13, ground := Go.Ground.phase }, { on := 14, ground := Go.Ground.phase }, { on := 15, ground := Go.Ground.phase }], guard := none }) (v := ?_) rfl (by kernel_rfl) (by kernel_rfl) (by kernel_rfl) (fun _ _ _ h => h) (Or.inl ⟨by rfl, ?_⟩) hHeld ?_
        rotate_left
        · intro w hSw; (try dsimp only at hSw); go_simp <;> with_reducible rfl
        try simp only [Act.put, List.setIfInBounds_toArray, List.set_cons_zero, List.set_cons_succ]
        refine wpAnyH_done (by kernel_rfl) ?_ _
        go_wp2
        go_ret
        exact ⟨by rw [HTX.out]; rfl, HBW.out.trans (HBc.out.mono HBW.out.size)⟩
      refine AllReadyH.cons rfl (fun K hK => ?_) ?_
      · go_simp
        refine (HF.out _ HBc.out).mono ?_
        rintro e wn ⟨rfl, hbn⟩
        have HG : Hid (Bx wn gS _ _) := HG.out.below hbn
        have HBc : Hid (Below W0.heap.size W0 wn) := HBc.out.trans (hbn.mono HBc.out.size)
        clear hbn
        refine hK.out _ _ (HX.out.below HBc.out) (fun hHeld2 => ?_)
        clear hK K hHeld
        have hHeld := hHeld2
        clear hHeld2
        try simp only [Act.put, List.setIfInBounds_toArray, List.set_cons_zero, List.set_cons_succ]
        refine wpAnyH_ready (rs := [9]) (by kernel_rfl) (by simp) ?_
        refine AllReadyH.cons rfl (fun K hK => ?_) AllReadyH.nil
        have hsg := (HG.out.cell k).trans (sg_row k hk6)
        go_simp
        clear hsg
        refine hK.out _ _ (HX.out.below HBc.out) (fun hHeld2 => ?_)
        clear hK K hHeld
        have hHeld := hHeld2
        clear hHeld2
        try simp only [Act.put, List.setIfInBounds_toArray, List.set_cons_zero, List.set_cons_succ]
        refine wpAnyH_take (i := 10) (oi := { dst := some 21, op := Go.Op.binOp Go.BinOp.add 9 (Go.Operand.tmp 15) (Go.Operand.tmp 20) 9, type := 9, pos := "ref.go:234", after := #[{ on := 4, ground := Go.Ground.data }, { on := 9, ground := Go.Ground.data }], guard := none }) (v := .string (⟨#[120]⟩ ++ a ++ ⟨#[32]⟩ ++ sgB (k : Int))) rfl (by kernel_rfl) (by kernel_rfl) (by kernel_rfl) (fun _ _ _ h => h) (Or.inl ⟨by rfl, ?_⟩) hHeld ?_
        skip
        · intro w hSw; go_simp; omega
        try simp only [Act.put, List.setIfInBounds_toArray, List.set_cons_zero, List.set_cons_succ]
        refine wpAnyH_take (i := 11) (oi := { dst := some 22, op := Go.Op.binOp Go.BinOp.add 9 (Go.Operand.tmp 21) (Go.Operand.const (Go.Value.string { data := #[32] })) 9, type := 9, pos := "ref.go:234", after := #[{ on := 10, ground := Go.Ground.data }], guard := none }) (v := .string (⟨#[120]⟩ ++ a ++ ⟨#[32]⟩ ++ sgB (k : Int) ++ ⟨#[32]⟩)) rfl (by kernel_rfl) (by kernel_rfl) (by kernel_rfl) (fun _ _ _ h => h) (Or.inl ⟨by rfl, ?_⟩) hHeld ?_
        skip
        · intro w hSw; go_simp; omega
        try simp only [Act.put, List.setIfInBounds_toArray, List.set_cons_zero, List.set_cons_succ]
        refine wpAnyH_take (i := 15) (oi := { dst := some 26, op := Go.Op.binOp Go.BinOp.add 9 (Go.Operand.tmp 22) (Go.Operand.tmp 25) 9, type := 9, pos := "ref.go:234", after := #[{ on := 11, ground := Go.Ground.data }, { on := 14, ground := Go.Ground.data }], guard := none }) (v := .string (⟨#[120]⟩ ++ a ++ ⟨#[32]⟩ ++ sgB (k : Int) ++ ⟨#[32]⟩ ++ b)) rfl (by kernel_rfl) (by kernel_rfl) (by kernel_rfl) (fun _ _ _ h => h) (Or.inl ⟨by rfl, ?_⟩) hHeld ?_
        skip
        · intro w hSw; go_simp; omega
        try simp only [Act.put, List.setIfInBounds_toArray, List.set_cons_zero, List.set_cons_succ]
        refine wpAnyH_take (i := 16) (oi := { dst := some 2, op := Go.Op.assign (Go.Operand.tmp 26), type := 9, pos := "ref.go:234", after := #[{ on := 15, ground := Go.Ground.data }, { on := 14, ground := Go.Ground.chain }, { on := 0, ground := Go.Ground.phase }, { on := 1, ground := Go.Ground.phase }, { on := 2, ground := Go.Ground.phase }, { on := 3, ground := Go.Ground.phase }, { on := 4, ground := Go.Ground.phase }, { on := 5, ground := Go.Ground.phase }, { on := 6, ground := Go.Ground.phase }, { on := 7, ground := Go.Ground.phase }, { on := 8, ground := Go.Ground.phase }, { on := 9, ground := Go.Ground.phase }, { on := 10, ground := Go.Ground.phase }, { on := 11, ground := Go.Ground.phase }, { on := 12, ground := Go.Ground.phase }, { on := 13, ground := Go.Ground.phase }, { on := 14, ground := Go.Ground.phase }, { on := 15, ground := Go.Ground.phase }], guard := none }) (v := ?_) rfl (by kernel_rfl) (by kernel_rfl) (by kernel_rfl) (fun _ _ _ h => h) (Or.inl ⟨by rfl, ?_⟩) hHeld ?_
        rotate_left
        · intro w hSw; (try dsimp only at hSw); go_simp <;> with_reducible rfl
        try simp only [Act.put, List.setIfInBounds_toArray, List.set_cons_zero, List.set_cons_succ]
        refine wpAnyH_done (by kernel_rfl) ?_ _
        go_wp2
        go_ret
        exact ⟨by rw [HTX.out]; rfl, HBW.out.trans (HBc.out.mono HBW.out.size)⟩
      exact AllReadyH.nil
    refine AllReadyH.cons rfl (fun K hK => ?_) ?_
    · go_simp
      refine (HF.out _ HBc.out).mono ?_
      rintro e wn ⟨rfl, hbn⟩
      have HBc : Hid (Below W0.heap.size W0 wn) := HBc.out.trans (hbn.mono HBc.out.size)
      clear hbn
      refine hK.out _ _ (HX.out.below HBc.out) (fun hHeld2 => ?_)
      clear hK K hHeld
      have hHeld := hHeld2
      clear hHeld2
      try simp only [Act.put, List.setIfInBounds_toArray, List.set_cons_zero, List.set_cons_succ]
      refine wpAnyH_ready (rs := [5]) (by kernel_rfl) (by simp) ?_
      refine AllReadyH.cons rfl (fun K hK => ?_) AllReadyH.nil
      obtain ⟨gS, hgS⟩ : ∃ q, (World.heap wn).size = q := ⟨_, rfl⟩
      obtain ⟨wS, hwS⟩ : ∃ q, World.alloc wn (Obj.cells sgRow 9) = q := ⟨_, rfl⟩
      have HG : Hid (Bx wS gS sgRow 9) := by rw [← hwS]; exact Bx.new' hgS _ _
      have hbS : Below W0.heap.size W0 wS := by rw [← hwS]; exact HBc.out.alloc HBc.out.size _
      have HBc : Hid (Below W0.heap.size W0 wS) := hbS
      have HWS : Hid _ := hwS
      have HGS : Hid _ := hgS
      clear hbS hwS hgS
      go_simp
      (try rw [show #[Value.string ⟨#[61]⟩, .string ⟨#[33, 61]⟩, .string ⟨#[60, 61]⟩, .string ⟨#[62]⟩, .string ⟨#[104, 97, 115]⟩, .string ⟨#[108, 97, 99, 107, 115]⟩] = sgRow from rfl])
      rw [HWS.out, HGS.out]
      refine hK.out _ _ (HX.out.below HBc.out) (fun hHeld2 => ?_)
      clear hK K hHeld
      have hHeld := hHeld2
      clear hHeld2
      try simp only [Act.put, List.setIfInBounds_toArray, List.set_cons_zero, List.set_cons_succ]
      refine wpAnyH_take (i := 8) (oi := { dst := some 19, op := Go.Op.indexAddr 103 (Go.Operand.tmp 16) (Go.Operand.tmp 18), type := 0, pos := "ref.go:234", after := #[{ on := 5, ground := Go.Ground.data }, { on := 7, ground := Go.Ground.data }], guard := none }) (v := ?_) rfl (by kernel_rfl) (by kernel_rfl) (by kernel_rfl) (fun _ _ _ h => h) (Or.inl ⟨by rfl, ?_⟩) hHeld ?_
      rotate_left
      · intro w hSw; (try dsimp only at hSw); go_simp <;> with_reducible rfl
      try simp only [Act.put, List.setIfInBounds_toArray, List.set_cons_zero, List.set_cons_succ]
      refine wpAnyH_ready (rs := [9]) (by kernel_rfl) (by simp) ?_
      refine AllReadyH.cons rfl (fun K hK => ?_) AllReadyH.nil
      have hsg := (HG.out.cell k).trans (sg_row k hk6)
      go_simp
      clear hsg
      refine hK.out _ _ (HX.out.below HBc.out) (fun hHeld2 => ?_)
      clear hK K hHeld
      have hHeld := hHeld2
      clear hHeld2
      try simp only [Act.put, List.setIfInBounds_toArray, List.set_cons_zero, List.set_cons_succ]
      refine wpAnyH_take (i := 10) (oi := { dst := some 21, op := Go.Op.binOp Go.BinOp.add 9 (Go.Operand.tmp 15) (Go.Operand.tmp 20) 9, type := 9, pos := "ref.go:234", after := #[{ on := 4, ground := Go.Ground.data }, { on := 9, ground := Go.Ground.data }], guard := none }) (v := .string (⟨#[120]⟩ ++ a ++ ⟨#[32]⟩ ++ sgB (k : Int))) rfl (by kernel_rfl) (by kernel_rfl) (by kernel_rfl) (fun _ _ _ h => h) (Or.inl ⟨by rfl, ?_⟩) hHeld ?_
      skip
      · intro w hSw; go_simp; omega
      try simp only [Act.put, List.setIfInBounds_toArray, List.set_cons_zero, List.set_cons_succ]
      refine wpAnyH_take (i := 11) (oi := { dst := some 22, op := Go.Op.binOp Go.BinOp.add 9 (Go.Operand.tmp 21) (Go.Operand.const (Go.Value.string { data := #[32] })) 9, type := 9, pos := "ref.go:234", after := #[{ on := 10, ground := Go.Ground.data }], guard := none }) (v := .string (⟨#[120]⟩ ++ a ++ ⟨#[32]⟩ ++ sgB (k : Int) ++ ⟨#[32]⟩)) rfl (by kernel_rfl) (by kernel_rfl) (by kernel_rfl) (fun _ _ _ h => h) (Or.inl ⟨by rfl, ?_⟩) hHeld ?_
      skip
      · intro w hSw; go_simp; omega
      try simp only [Act.put, List.setIfInBounds_toArray, List.set_cons_zero, List.set_cons_succ]
      refine wpAnyH_take (i := 15) (oi := { dst := some 26, op := Go.Op.binOp Go.BinOp.add 9 (Go.Operand.tmp 22) (Go.Operand.tmp 25) 9, type := 9, pos := "ref.go:234", after := #[{ on := 11, ground := Go.Ground.data }, { on := 14, ground := Go.Ground.data }], guard := none }) (v := .string (⟨#[120]⟩ ++ a ++ ⟨#[32]⟩ ++ sgB (k : Int) ++ ⟨#[32]⟩ ++ b)) rfl (by kernel_rfl) (by kernel_rfl) (by kernel_rfl) (fun _ _ _ h => h) (Or.inl ⟨by rfl, ?_⟩) hHeld ?_
      skip
      · intro w hSw; go_simp; omega
      try simp only [Act.put, List.setIfInBounds_toArray, List.set_cons_zero, List.set_cons_succ]
      refine wpAnyH_take (i := 16) (oi := { dst := some 2, op := Go.Op.assign (Go.Operand.tmp 26), type := 9, pos := "ref.go:234", after := #[{ on := 15, ground := Go.Ground.data }, { on := 14, ground := Go.Ground.chain }, { on := 0, ground := Go.Ground.phase }, { on := 1, ground := Go.Ground.phase }, { on := 2, ground := Go.Ground.phase }, { on := 3, ground := Go.Ground.phase }, { on := 4, ground := Go.Ground.phase }, { on := 5, ground := Go.Ground.phase }, { on := 6, ground := Go.Ground.phase }, { on := 7, ground := Go.Ground.phase }, { on := 8, ground := Go.Ground.phase }, { on := 9, ground := Go.Ground.phase }, { on := 10, ground := Go.Ground.phase }, { on := 11, ground := Go.Ground.phase }, { on := 12, ground := Go.Ground.phase }, { on := 13, ground := Go.Ground.phase }, { on := 14, ground := Go.Ground.phase }, { on := 15, ground := Go.Ground.phase }], guard := none }) (v := ?_) rfl (by kernel_rfl) (by kernel_rfl) (by kernel_rfl) (fun _ _ _ h => h) (Or.inl ⟨by rfl, ?_⟩) hHeld ?_
      rotate_left
      · intro w hSw; (try dsimp only at hSw); go_simp <;> with_reducible rfl
      try simp only [Act.put, List.setIfInBounds_toArray, List.set_cons_zero, List.set_cons_succ]
      refine wpAnyH_done (by kernel_rfl) ?_ _
      go_wp2
      go_ret
      exact ⟨by rw [HTX.out]; rfl, HBW.out.trans (HBc.out.mono HBW.out.size)⟩
    exact AllReadyH.nil
  refine AllReadyH.cons rfl (fun K hK => ?_) ?_
  · generalize W0.drew = Wd at HBc hHeld ⊢
    obtain ⟨gS, hgS⟩ : ∃ q, (World.heap Wd).size = q := ⟨_, rfl⟩
    obtain ⟨wS, hwS⟩ : ∃ q, World.alloc Wd (Obj.cells sgRow 9) = q := ⟨_, rfl⟩
    have HG : Hid (Bx wS gS sgRow 9) := by rw [← hwS]; exact Bx.new' hgS _ _
    have hbS : Below W0.heap.size W0 wS := by rw [← hwS]; exact HBc.out.alloc HBc.out.size _
    have HBc : Hid (Below W0.heap.size W0 wS) := hbS
    have HWS : Hid _ := hwS
    have HGS : Hid _ := hgS
    clear hbS hwS hgS
    go_simp
    (try rw [show #[Value.string ⟨#[61]⟩, .string ⟨#[33, 61]⟩, .string ⟨#[60, 61]⟩, .string ⟨#[62]⟩, .string ⟨#[104, 97, 115]⟩, .string ⟨#[108, 97, 99, 107, 115]⟩] = sgRow from rfl])
    rw [HWS.out, HGS.out]
    refine hK.out _ _ (HX.out.below HBc.out) (fun hHeld2 => ?_)
    clear hK K hHeld
    have hHeld := hHeld2
    clear hHeld2
    try simp only [Act.put, List.setIfInBounds_toArray, List.set_cons_zero, List.set_cons_succ]
    refine wpAnyH_take (i := 8) (oi := { dst := some 19, op := Go.Op.indexAddr 103 (Go.Operand.tmp 16) (Go.Operand.tmp 18), type := 0, pos := "ref.go:234", after := #[{ on := 5, ground := Go.Ground.data }, { on := 7, ground := Go.Ground.data }], guard := none }) (v := ?_) rfl (by kernel_rfl) (by kernel_rfl) (by kernel_rfl) (fun _ _ _ h => h) (Or.inl ⟨by rfl, ?_⟩) hHeld ?_
    rotate_left
    · intro w hSw; (try dsimp only at hSw); go_simp <;> with_reducible rfl
    try simp only [Act.put, List.setIfInBounds_toArray, List.set_cons_zero, List.set_cons_succ]
    refine wpAnyH_ready (rs := [2, 9]) (by kernel_rfl) (by simp) ?_
    refine AllReadyH.cons rfl (fun K hK => ?_) ?_
    · go_simp
      refine (HI.out _ HBc.out).mono ?_
      rintro e wn ⟨rfl, hbn⟩
      have HG : Hid (Bx wn gS _ _) := HG.out.below hbn
      have HBc : Hid (Below W0.heap.size W0 wn) := HBc.out.trans (hbn.mono HBc.out.size)
      clear hbn
      refine hK.out _ _ (HX.out.below HBc.out) (fun hHeld2 => ?_)
      clear hK K hHeld
      have hHeld := hHeld2
      clear hHeld2
      try simp only [Act.put, List.setIfInBounds_toArray, List.set_cons_zero, List.set_cons_succ]
      refine wpAnyH_take (i := 3) (oi := { dst := some 14, op := Go.Op.binOp Go.BinOp.add 9 (Go.Operand.const (Go.Value.string { data := #[120] })) (Go.Operand.tmp 13) 9, type := 9, pos := "ref.go:234", after := #[{ on := 2, ground := Go.Ground.data }], guard := none }) (v := .string (⟨#[120]⟩ ++ a)) rfl (by kernel_rfl) (by kernel_rfl) (by kernel_rfl) (fun _ _ _ h => h) (Or.inl ⟨by rfl, ?_⟩) hHeld ?_
      skip
      · intro w hSw; go_simp; omega
      try simp only [Act.put, List.setIfInBounds_toArray, List.set_cons_zero, List.set_cons_succ]
      refine wpAnyH_take (i := 4) (oi := { dst := some 15, op := Go.Op.binOp Go.BinOp.add 9 (Go.Operand.tmp 14) (Go.Operand.const (Go.Value.string { data := #[32] })) 9, type := 9, pos := "ref.go:234", after := #[{ on := 3, ground := Go.Ground.data }], guard := none }) (v := .string (⟨#[120]⟩ ++ a ++ ⟨#[32]⟩)) rfl (by kernel_rfl) (by kernel_rfl) (by kernel_rfl) (fun _ _ _ h => h) (Or.inl ⟨by rfl, ?_⟩) hHeld ?_
      skip
      · intro w hSw; go_simp; omega
      try simp only [Act.put, List.setIfInBounds_toArray, List.set_cons_zero, List.set_cons_succ]
      refine wpAnyH_ready (rs := [9, 14]) (by kernel_rfl) (by simp) ?_
      refine AllReadyH.cons rfl (fun K hK => ?_) ?_
      · have hsg := (HG.out.cell k).trans (sg_row k hk6)
        go_simp
        clear hsg
        refine hK.out _ _ (HX.out.below HBc.out) (fun hHeld2 => ?_)
        clear hK K hHeld
        have hHeld := hHeld2
        clear hHeld2
        try simp only [Act.put, List.setIfInBounds_toArray, List.set_cons_zero, List.set_cons_succ]
        refine wpAnyH_take (i := 10) (oi := { dst := some 21, op := Go.Op.binOp Go.BinOp.add 9 (Go.Operand.tmp 15) (Go.Operand.tmp 20) 9, type := 9, pos := "ref.go:234", after := #[{ on := 4, ground := Go.Ground.data }, { on := 9, ground := Go.Ground.data }], guard := none }) (v := .string (⟨#[120]⟩ ++ a ++ ⟨#[32]⟩ ++ sgB (k : Int))) rfl (by kernel_rfl) (by kernel_rfl) (by kernel_rfl) (fun _ _ _ h => h) (Or.inl ⟨by rfl, ?_⟩) hHeld ?_
        skip
        · intro w hSw; go_simp; omega
        try simp only [Act.put, List.setIfInBounds_toArray, List.set_cons_zero, List.set_cons_succ]
        refine wpAnyH_take (i := 11) (oi := { dst := some 22, op := Go.Op.binOp Go.BinOp.add 9 (Go.Operand.tmp 21) (Go.Operand.const (Go.Value.string { data := #[32] })) 9, type := 9, pos := "ref.go:234", after := #[{ on := 10, ground := Go.Ground.data }], guard := none }) (v := .string (⟨#[120]⟩ ++ a ++ ⟨#[32]⟩ ++ sgB (k : Int) ++ ⟨#[32]⟩)) rfl (by kernel_rfl) (by kernel_rfl) (by kernel_rfl) (fun _ _ _ h => h) (Or.inl ⟨by rfl, ?_⟩) hHeld ?_
        skip
        · intro w hSw; go_simp; omega
        try simp only [Act.put, List.setIfInBounds_toArray, List.set_cons_zero, List.set_cons_succ]
        refine wpAnyH_ready (rs := [14]) (by kernel_rfl) (by simp) ?_
        refine AllReadyH.cons rfl (fun K hK => ?_) AllReadyH.nil
        go_simp
        refine (HF.out _ HBc.out).mono ?_
        rintro e wn ⟨rfl, hbn⟩
        have HG : Hid (Bx wn gS _ _) := HG.out.below hbn
        have HBc : Hid (Below W0.heap.size W0 wn) := HBc.out.trans (hbn.mono HBc.out.size)
        clear hbn
        refine hK.out _ _ (HX.out.below HBc.out) (fun hHeld2 => ?_)
        clear hK K hHeld
        have hHeld := hHeld2
        clear hHeld2
        try simp only [Act.put, List.setIfInBounds_toArray, List.set_cons_zero, List.set_cons_succ]
        refine wpAnyH_take (i := 15) (oi := { dst := some 26, op := Go.Op.binOp Go.BinOp.add 9 (Go.Operand.tmp 22) (Go.Operand.tmp 25) 9, type := 9, pos := "ref.go:234", after := #[{ on := 11, ground := Go.Ground.data }, { on := 14, ground := Go.Ground.data }], guard := none }) (v := .string (⟨#[120]⟩ ++ a ++ ⟨#[32]⟩ ++ sgB (k : Int) ++ ⟨#[32]⟩ ++ b)) rfl (by kernel_rfl) (by kernel_rfl) (by kernel_rfl) (fun _ _ _ h => h) (Or.inl ⟨by rfl, ?_⟩) hHeld ?_
        skip
        · intro w hSw; go_simp; omega
        try simp only [Act.put, List.setIfInBounds_toArray, List.set_cons_zero, List.set_cons_succ]
        refine wpAnyH_take (i := 16) (oi := { dst := some 2, op := Go.Op.assign (Go.Operand.tmp 26), type := 9, pos := "ref.go:234", after := #[{ on := 15, ground := Go.Ground.data }, { on := 14, ground := Go.Ground.chain }, { on := 0, ground := Go.Ground.phase }, { on := 1, ground := Go.Ground.phase }, { on := 2, ground := Go.Ground.phase }, { on := 3, ground := Go.Ground.phase }, { on := 4, ground := Go.Ground.phase }, { on := 5, ground := Go.Ground.phase }, { on := 6, ground := Go.Ground.phase }, { on := 7, ground := Go.Ground.phase }, { on := 8, ground := Go.Ground.phase }, { on := 9, ground := Go.Ground.phase }, { on := 10, ground := Go.Ground.phase }, { on := 11, ground := Go.Ground.phase }, { on := 12, ground := Go.Ground.phase }, { on := 13, ground := Go.Ground.phase }, { on := 14, ground := Go.Ground.phase }, { on := 15, ground := Go.Ground.phase }], guard := none }) (v := ?_) rfl (by kernel_rfl) (by kernel_rfl) (by kernel_rfl) (fun _ _ _ h => h) (Or.inl ⟨by rfl, ?_⟩) hHeld ?_
        rotate_left
        · intro w hSw; (try dsimp only at hSw); go_simp <;> with_reducible rfl
        try simp only [Act.put, List.setIfInBounds_toArray, List.set_cons_zero, List.set_cons_succ]
        refine wpAnyH_done (by kernel_rfl) ?_ _
        go_wp2
        go_ret
        exact ⟨by rw [HTX.out]; rfl, HBW.out.trans (HBc.out.mono HBW.out.size)⟩
      refine AllReadyH.cons rfl (fun K hK => ?_) ?_
      · go_simp
        refine (HF.out _ HBc.out).mono ?_
        rintro e wn ⟨rfl, hbn⟩
        have HG : Hid (Bx wn gS _ _) := HG.out.below hbn
        have HBc : Hid (Below W0.heap.size W0 wn) := HBc.out.trans (hbn.mono HBc.out.size)
        clear hbn
        refine hK.out _ _ (HX.out.below HBc.out) (fun hHeld2 => ?_)
        clear hK K hHeld
        have hHeld := hHeld2
        clear hHeld2
        try simp only [Act.put, List.setIfInBounds_toArray, List.set_cons_zero, List.set_cons_succ]
        refine wpAnyH_ready (rs := [9]) (by kernel_rfl) (by simp) ?_
        refine AllReadyH.cons rfl (fun K hK => ?_) AllReadyH.nil
        have hsg := (HG.out.cell k).trans (sg_row k hk6)
        go_simp
        clear hsg
        refine hK.out _ _ (HX.out.below HBc.out) (fun hHeld2 => ?_)
        clear hK K hHeld
        have hHeld := hHeld2
        clear hHeld2
        try simp only [Act.put, List.setIfInBounds_toArray, List.set_cons_zero, List.set_cons_succ]
        refine wpAnyH_take (i := 10) (oi := { dst := some 21, op := Go.Op.binOp Go.BinOp.add 9 (Go.Operand.tmp 15) (Go.Operand.tmp 20) 9, type := 9, pos := "ref.go:234", after := #[{ on := 4, ground := Go.Ground.data }, { on := 9, ground := Go.Ground.data }], guard := none }) (v := .string (⟨#[120]⟩ ++ a ++ ⟨#[32]⟩ ++ sgB (k : Int))) rfl (by kernel_rfl) (by kernel_rfl) (by kernel_rfl) (fun _ _ _ h => h) (Or.inl ⟨by rfl, ?_⟩) hHeld ?_
        skip
        · intro w hSw; go_simp; omega
        try simp only [Act.put, List.setIfInBounds_toArray, List.set_cons_zero, List.set_cons_succ]
        refine wpAnyH_take (i := 11) (oi := { dst := some 22, op := Go.Op.binOp Go.BinOp.add 9 (Go.Operand.tmp 21) (Go.Operand.const (Go.Value.string { data := #[32] })) 9, type := 9, pos := "ref.go:234", after := #[{ on := 10, ground := Go.Ground.data }], guard := none }) (v := .string (⟨#[120]⟩ ++ a ++ ⟨#[32]⟩ ++ sgB (k : Int) ++ ⟨#[32]⟩)) rfl (by kernel_rfl) (by kernel_rfl) (by kernel_rfl) (fun _ _ _ h => h) (Or.inl ⟨by rfl, ?_⟩) hHeld ?_
        skip
        · intro w hSw; go_simp; omega
        try simp only [Act.put, List.setIfInBounds_toArray, List.set_cons_zero, List.set_cons_succ]
        refine wpAnyH_take (i := 15) (oi := { dst := some 26, op := Go.Op.binOp Go.BinOp.add 9 (Go.Operand.tmp 22) (Go.Operand.tmp 25) 9, type := 9, pos := "ref.go:234", after := #[{ on := 11, ground := Go.Ground.data }, { on := 14, ground := Go.Ground.data }], guard := none }) (v := .string (⟨#[120]⟩ ++ a ++ ⟨#[32]⟩ ++ sgB (k : Int) ++ ⟨#[32]⟩ ++ b)) rfl (by kernel_rfl) (by kernel_rfl) (by kernel_rfl) (fun _ _ _ h => h) (Or.inl ⟨by rfl, ?_⟩) hHeld ?_
        skip
        · intro w hSw; go_simp; omega
        try simp only [Act.put, List.setIfInBounds_toArray, List.set_cons_zero, List.set_cons_succ]
        refine wpAnyH_take (i := 16) (oi := { dst := some 2, op := Go.Op.assign (Go.Operand.tmp 26), type := 9, pos := "ref.go:234", after := #[{ on := 15, ground := Go.Ground.data }, { on := 14, ground := Go.Ground.chain }, { on := 0, ground := Go.Ground.phase }, { on := 1, ground := Go.Ground.phase }, { on := 2, ground := Go.Ground.phase }, { on := 3, ground := Go.Ground.phase }, { on := 4, ground := Go.Ground.phase }, { on := 5, ground := Go.Ground.phase }, { on := 6, ground := Go.Ground.phase }, { on := 7, ground := Go.Ground.phase }, { on := 8, ground := Go.Ground.phase }, { on := 9, ground := Go.Ground.phase }, { on := 10, ground := Go.Ground.phase }, { on := 11, ground := Go.Ground.phase }, { on := 12, ground := Go.Ground.phase }, { on := 13, ground := Go.Ground.phase }, { on := 14, ground := Go.Ground.phase }, { on := 15, ground := Go.Ground.phase }], guard := none }) (v := ?_) rfl (by kernel_rfl) (by kernel_rfl) (by kernel_rfl) (fun _ _ _ h => h) (Or.inl ⟨by rfl, ?_⟩) hHeld ?_
        rotate_left
        · intro w hSw; (try dsimp only at hSw); go_simp <;> with_reducible rfl
        try simp only [Act.put, List.setIfInBounds_toArray, List.set_cons_zero, List.set_cons_succ]
        refine wpAnyH_done (by kernel_rfl) ?_ _
        go_wp2
        go_ret
        exact ⟨by rw [HTX.out]; rfl, HBW.out.trans (HBc.out.mono HBW.out.size)⟩
      exact AllReadyH.nil
    refine AllReadyH.cons rfl (fun K hK => ?_) ?_
    · have hsg := (HG.out.cell k).trans (sg_row k hk6)
      go_simp
      clear hsg
      refine hK.out _ _ (HX.out.below HBc.out) (fun hHeld2 => ?_)
      clear hK K hHeld
      have hHeld := hHeld2
      clear hHeld2
      try simp only [Act.put, List.setIfInBounds_toArray, List.set_cons_zero, List.set_cons_succ]
      refine wpAnyH_ready (rs := [2]) (by kernel_rfl) (by simp) ?_
      refine AllReadyH.cons rfl (fun K hK => ?_) AllReadyH.nil
      go_simp
      refine (HI.out _ HBc.out).mono ?_
      rintro e wn ⟨rfl, hbn⟩
      have HG : Hid (Bx wn gS _ _) := HG.out.below hbn
      have HBc : Hid (Below W0.heap.size W0 wn) := HBc.out.trans (hbn.mono HBc.out.size)
      clear hbn
      refine hK.out _ _ (HX.out.below HBc.out) (fun hHeld2 => ?_)
      clear hK K hHeld
      have hHeld := hHeld2
      clear hHeld2
      try simp only [Act.put, List.setIfInBounds_toArray, List.set_cons_zero, List.set_cons_succ]
      refine wpAnyH_take (i := 3) (oi := { dst := some 14, op := Go.Op.binOp Go.BinOp.add 9 (Go.Operand.const (Go.Value.string { data := #[120] })) (Go.Operand.tmp 13) 9, type := 9, pos := "ref.go:234", after := #[{ on := 2, ground := Go.Ground.data }], guard := none }) (v := .string (⟨#[120]⟩ ++ a)) rfl (by kernel_rfl) (by kernel_rfl) (by kernel_rfl) (fun _ _ _ h => h) (Or.inl ⟨by rfl, ?_⟩) hHeld ?_
      skip
      · intro w hSw; go_simp; omega
      try simp only [Act.put, List.setIfInBounds_toArray, List.set_cons_zero, List.set_cons_succ]
      refine wpAnyH_take (i := 4) (oi := { dst := some 15, op := Go.Op.binOp Go.BinOp.add 9 (Go.Operand.tmp 14) (Go.Operand.const (Go.Value.string { data := #[32] })) 9, type := 9, pos := "ref.go:234", after := #[{ on := 3, ground := Go.Ground.data }], guard := none }) (v := .string (⟨#[120]⟩ ++ a ++ ⟨#[32]⟩)) rfl (by kernel_rfl) (by kernel_rfl) (by kernel_rfl) (fun _ _ _ h => h) (Or.inl ⟨by rfl, ?_⟩) hHeld ?_
      skip
      · intro w hSw; go_simp; omega
      try simp only [Act.put, List.setIfInBounds_toArray, List.set_cons_zero, List.set_cons_succ]
      refine wpAnyH_take (i := 10) (oi := { dst := some 21, op := Go.Op.binOp Go.BinOp.add 9 (Go.Operand.tmp 15) (Go.Operand.tmp 20) 9, type := 9, pos := "ref.go:234", after := #[{ on := 4, ground := Go.Ground.data }, { on := 9, ground := Go.Ground.data }], guard := none }) (v := .string (⟨#[120]⟩ ++ a ++ ⟨#[32]⟩ ++ sgB (k : Int))) rfl (by kernel_rfl) (by kernel_rfl) (by kernel_rfl) (fun _ _ _ h => h) (Or.inl ⟨by rfl, ?_⟩) hHeld ?_
      skip
      · intro w hSw; go_simp; omega
      try simp only [Act.put, List.setIfInBounds_toArray, List.set_cons_zero, List.set_cons_succ]
      refine wpAnyH_take (i := 11) (oi := { dst := some 22, op := Go.Op.binOp Go.BinOp.add 9 (Go.Operand.tmp 21) (Go.Operand.const (Go.Value.string { data := #[32] })) 9, type := 9, pos := "ref.go:234", after := #[{ on := 10, ground := Go.Ground.data }], guard := none }) (v := .string (⟨#[120]⟩ ++ a ++ ⟨#[32]⟩ ++ sgB (k : Int) ++ ⟨#[32]⟩)) rfl (by kernel_rfl) (by kernel_rfl) (by kernel_rfl) (fun _ _ _ h => h) (Or.inl ⟨by rfl, ?_⟩) hHeld ?_
      skip
      · intro w hSw; go_simp; omega
      try simp only [Act.put, List.setIfInBounds_toArray, List.set_cons_zero, List.set_cons_succ]
      refine wpAnyH_ready (rs := [14]) (by kernel_rfl) (by simp) ?_
      refine AllReadyH.cons rfl (fun K hK => ?_) AllReadyH.nil
      go_simp
      refine (HF.out _ HBc.out).mono ?_
      rintro e wn ⟨rfl, hbn⟩
      have HG : Hid (Bx wn gS _ _) := HG.out.below hbn
      have HBc : Hid (Below W0.heap.size W0 wn) := HBc.out.trans (hbn.mono HBc.out.size)
      clear hbn
      refine hK.out _ _ (HX.out.below HBc.out) (fun hHeld2 => ?_)
      clear hK K hHeld
      have hHeld := hHeld2
      clear hHeld2
      try simp only [Act.put, List.setIfInBounds_toArray, List.set_cons_zero, List.set_cons_succ]
      refine wpAnyH_take (i := 15) (oi := { dst := some 26, op := Go.Op.binOp Go.BinOp.add 9 (Go.Operand.tmp 22) (Go.Operand.tmp 25) 9, type := 9, pos := "ref.go:234", after := #[{ on := 11, ground := Go.Ground.data }, { on := 14, ground := Go.Ground.data }], guard := none }) (v := .string (⟨#[120]⟩ ++ a ++ ⟨#[32]⟩ ++ sgB (k : Int) ++ ⟨#[32]⟩ ++ b)) rfl (by kernel_rfl) (by kernel_rfl) (by kernel_rfl) (fun _ _ _ h => h) (Or.inl ⟨by rfl, ?_⟩) hHeld ?_
      skip
      · intro w hSw; go_simp; omega
      try simp only [Act.put, List.setIfInBounds_toArray, List.set_cons_zero, List.set_cons_succ]
      refine wpAnyH_take (i := 16) (oi := { dst := some 2, op := Go.Op.assign (Go.Operand.tmp 26), type := 9, pos := "ref.go:234", after := #[{ on := 15, ground := Go.Ground.data }, { on := 14, ground := Go.Ground.chain }, { on := 0, ground := Go.Ground.phase }, { on := 1, ground := Go.Ground.phase }, { on := 2, ground := Go.Ground.phase }, { on := 3, ground := Go.Ground.phase }, { on := 4, ground := Go.Ground.phase }, { on := 5, ground := Go.Ground.phase }, { on := 6, ground := Go.Ground.phase }, { on := 7, ground := Go.Ground.phase }, { on := 8, ground := Go.Ground.phase }, { on := 9, ground := Go.Ground.phase }, { on := 10, ground := Go.Ground.phase }, { on := 11, ground := Go.Ground.phase }, { on := 12, ground := Go.Ground.phase }, { on := 13, ground := Go.Ground.phase }, { on := 14, ground := Go.Ground.phase }, { on := 15, ground := Go.Ground.phase }], guard := none }) (v := ?_) rfl (by kernel_rfl) (by kernel_rfl) (by kernel_rfl) (fun _ _ _ h => h) (Or.inl ⟨by rfl, ?_⟩) hHeld ?_
      rotate_left
      · intro w hSw; (try dsimp only at hSw); go_simp <;> with_reducible rfl
      try simp only [Act.put, List.setIfInBounds_toArray, List.set_cons_zero, List.set_cons_succ]
      refine wpAnyH_done (by kernel_rfl) ?_ _
      go_wp2
      go_ret
      exact ⟨by rw [HTX.out]; rfl, HBW.out.trans (HBc.out.mono HBW.out.size)⟩
    exact AllReadyH.nil
  exact AllReadyH.nil
theorem rtext_t {W : World} (v op n : Int) (hv : Dm.Fits v) (hn : Dm.Fits n) (hT : Tens W) : Calls Tryz.prog 28 #[.agg #[.int .i64 v, .int .i64 op, .int .i64 n]] W fun e w' => e = .returned (.string (txM v op n)) ∧ Below W.heap.size W w' := by
  unfold txM
  cases hk : knB op
  · exact rtext_no v op n hk
  · obtain ⟨k, rfl, hk6⟩ : ∃ k : Nat, op = (k : Int) ∧ k < 6 := by
      unfold knB at hk
      simp only [Bool.and_eq_true, decide_eq_true_eq] at hk
      exact ⟨op.toNat, by omega, by omega⟩
    exact rtext_any v n k hk6 (itB v) (itB n) (itB_size hv) (itB_size hn) (itoa_t hv hT) (fint_t hn hT)
end Go.Proofs.YtfcaemfledlnnaaGreatDoor
