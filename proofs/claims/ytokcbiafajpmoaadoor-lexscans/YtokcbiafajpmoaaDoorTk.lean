/-
  What is proved here: the walk of LexScans.
-/
import Derived.Test.YtokcbiafajpmoaaDoorTj
import Derived.Test.YtokcbiafajpmoaaDoorMb
import Derived.Test.YtokcbiafajpmoaaDoorNa
import Derived.Test.YtokcbiafajpmoaaDoorLy
import Derived.Deep.RegionHeld3
namespace Go.Proofs.YtokcbiafajpmoaaDoor
open Go.RowKit
set_option linter.unusedVariables false
set_option linter.unusedSimpArgs false
attribute [local go_sem] Oper.semAt_some
/-- What is kept through the rounds of LexScans. -/
structure InS (W : World) (A G R g Z : Nat) (sv zv : Value) (T q : List Tok) (X : World) : Prop where
  n : C1 X A (.int .i64 (q.length : Int)) 3
  s : C1 X G sv 24
  r : C1 X R (.bool false) 4
  z : C1 X Z zv 9
  c : ∀ (i : Nat) t, T[i]? = some t → X.cell? ⟨g, i * 4, none⟩ = some (.int .i64 t.k) ∧ X.cell? ⟨g, i * 4 + 1, none⟩ = some (.string (bs t.tx)) ∧ X.cell? ⟨g, i * 4 + 2, none⟩ = some (.int .i64 t.n) ∧ X.cell? ⟨g, i * 4 + 3, none⟩ = some (.int .i64 (t.p : Int))
  b : Below W.heap.size W X
theorem cell_keep {X Y : World} {g o : Nat} {v : Value} (hb : Below X.heap.size X Y) (h : X.cell? ⟨g, o, none⟩ = some v) : Y.cell? ⟨g, o, none⟩ = some v :=
  (hb.cell (p := ⟨g, o, none⟩) (World.block_lt_of_cell? X ⟨g, o, none⟩ h)).trans h
theorem cell_same {X Y : World} {g o : Nat} {v : Value} (hh : Y.heap[g]? = X.heap[g]?) (h : X.cell? ⟨g, o, none⟩ = some v) : Y.cell? ⟨g, o, none⟩ = some v := by
  rw [← h]; simp [World.cell?, hh]
theorem InS.below {W : World} {A G R g Z : Nat} {sv zv : Value} {T q : List Tok} {X Y : World} (h : InS W A G R g Z sv zv T q X) (hb : Below X.heap.size X Y) : InS W A G R g Z sv zv T q Y :=
  ⟨h.n.below hb, h.s.below hb, h.r.below hb, h.z.below hb, fun i t ht => by
    obtain ⟨c0, c1, c2, c3⟩ := h.c i t ht
    exact ⟨cell_keep hb c0, cell_keep hb c1, cell_keep hb c2, cell_keep hb c3⟩, h.b.trans (hb.mono h.b.size)⟩
theorem InS.other {W : World} {A G R g Z k : Nat} {sv zv : Value} {T q : List Tok} {X Y : World} (h : InS W A G R g Z sv zv T q X) (hk : A < k ∧ G < k ∧ R < k ∧ g < k ∧ Z < k) (hY : ∀ i, i ≠ k → Y.heap[i]? = X.heap[i]?) (hb : Below W.heap.size W Y) : InS W A G R g Z sv zv T q Y :=
  ⟨⟨(hY _ (by omega)).trans h.n.h⟩, ⟨(hY _ (by omega)).trans h.s.h⟩, ⟨(hY _ (by omega)).trans h.r.h⟩, ⟨(hY _ (by omega)).trans h.z.h⟩, fun i t ht => by
    obtain ⟨c0, c1, c2, c3⟩ := h.c i t ht
    have hg := hY g (by omega)
    exact ⟨cell_same hg c0, cell_same hg c1, cell_same hg c2, cell_same hg c3⟩, hb⟩
theorem InS.put {W : World} {A G R g Z k : Nat} {sv zv : Value} {T q : List Tok} {X : World} (h : InS W A G R g Z sv zv T q X) (hk : A < k ∧ G < k ∧ R < k ∧ g < k ∧ Z < k) (hW : W.heap.size ≤ k) (o : Obj) : InS W A G R g Z sv zv T q (X.putObj k o) :=
  h.other hk (fun i hi => World.putObj_heap_other hi) (h.b.trans ((Below.refl _ X).grown (grownBy_putObj' X k o) h.b.size (fun r e => by cases e; omega)))
theorem resB {fn : Func} (hf : fn.results = #[.cell 4 4]) (tmps : Array Value) (X : World) (g : Nat) (v : Bool) (hR : X.cell? ⟨g, 0, none⟩ = some (.bool v)) (h4 : tmps.getD 4 undef = .pointer (some ⟨g, 0, none⟩)) :
    (results fn tmps).run Tryd.prog X = .ok (.bool v) X := by
  have h4' : tmps[4]?.getD undef = .pointer (some ⟨g, 0, none⟩) := by simpa using h4
  have t4 := Tryd.underlying4
  simp [results, hf, h4', asAddr, Sem.run_bind, Result.andThen, go_sem, hR]
theorem InS.step {W : World} {A G R g Z B : Nat} {sv zv : Value} {T q : List Tok} {X : World} (h : InS W A G R g Z sv zv T q X) (t : Tok) (hG : G ≠ A) (hR : R ≠ A) (hg : g ≠ A) (hZ : Z ≠ A) (hW : W.heap.size ≤ A) (hB : A < B) :
    KA B X (X.setCell ⟨A, 0, none⟩ (.int .i64 ((q.length : Int) + 1))).drew ∧ InS W A G R g Z sv zv T (q ++ [t]) (X.setCell ⟨A, 0, none⟩ (.int .i64 ((q.length : Int) + 1))).drew := by
  have he : (X.setCell ⟨A, 0, none⟩ (.int .i64 ((q.length : Int) + 1))).drew = X.drew.setCell ⟨A, 0, none⟩ (.int .i64 ((q.length : Int) + 1)) := rfl
  rw [he]
  have hb1 : Below X.heap.size X X.drew := Below.drew (Below.refl _ _)
  have hn := (h.n.below hb1).set (u := .int .i64 ((q.length : Int) + 1))
  have hY : ∀ i, i ≠ A → (X.drew.setCell ⟨A, 0, none⟩ (.int .i64 ((q.length : Int) + 1))).heap[i]? = X.heap[i]? := fun i hi => Below.heap_setCell X.drew ⟨A, 0, none⟩ _ i hi
  refine ⟨(KA.of_below B hb1).trans (KA.setCell _ _ hB), ⟨?_, ⟨(hY _ hG).trans h.s.h⟩, ⟨(hY _ hR).trans h.r.h⟩, ⟨(hY _ hZ).trans h.z.h⟩, fun i u hu => ?_, ?_⟩⟩
  · rw [List.length_append]; exact hn
  · obtain ⟨c0, c1, c2, c3⟩ := h.c i u hu
    have hgg := hY g hg
    exact ⟨cell_same hgg c0, cell_same hgg c1, cell_same hgg c2, cell_same hgg c3⟩
  · exact (h.b.trans (hb1.mono h.b.size)).setCell (p := ⟨A, 0, none⟩) hW _
theorem ErrV.self' {W w1 X : World} (h : ErrV w1) (hb : Below W.heap.size W X) (hz : Below W.heap.size W w1) (h4 : 4 < W.heap.size) : ErrV X := by
  obtain ⟨h1, ⟨e2, h2, h3⟩, e4, h5, h6⟩ := h
  have k3 := (hz.cell (p := ⟨3, 0, none⟩) (show 3 < W.heap.size by omega)).symm.trans h2
  have k4 := (hz.cell (p := ⟨4, 0, none⟩) (show 4 < W.heap.size by omega)).symm.trans h5
  exact ⟨Nat.lt_of_lt_of_le h4 hb.size, ⟨e2, (hb.cell (p := ⟨3, 0, none⟩) (show 3 < W.heap.size by omega)).trans k3, h3⟩, e4, (hb.cell (p := ⟨4, 0, none⟩) (show 4 < W.heap.size by omega)).trans k4, h6⟩

set_option maxRecDepth 100000 in
set_option maxHeartbeats 40000000 in
theorem scans_walk (b tx : List UInt8) (x0 x2 x3 : Int) (h0 : -9223372036854775808 ≤ x2) (h1 : x2 ≤ 9223372036854775807) (hbl : b.length ≤ 140737488355328) (W : World) (hE : ErrV W) (hTn : Tens W) :
    Calls Tryd.prog 3 #[.string (bs b), .agg #[.int .i64 x0, .string (bs tx), .int .i64 x2, .int .i64 x3]] W fun e w' => e = .returned (.bool true) ∧ Below W.heap.size W w' := by
  have hsz : (bs b).size = b.length := bs_size b
  obtain ⟨n, hn⟩ : ∃ n, b.length = n := ⟨_, rfl⟩
  have HN : Hid (b.length = n) := hn
  have hlong : 65536 < b.length → (allT b).1 = [] := fun h => by unfold allT; rw [if_pos h]
  rw [hn] at hsz hlong
  have HT10 : Hid _ := fun X (hX : Tens X) => text10 x0 x2 tx x3 h0 h1 X hX
  have HT11 : Hid _ := fun X (hX : Tens X) => text11 x0 x2 tx x3 h0 h1 X hX
  have HW12 : Hid _ := fun X => word_any b hbl X
  have HW13 : Hid _ := fun X => word13 b hbl X
  have HKN : Hid _ := fun X (hX : ErrV X) => known16 X hX
  generalize txtR x0 x2 tx = tt at HT10 HT11
  generalize bs tt = ts at HT10 HT11
  generalize bs tx = txb at HT10 HT11 ⊢
  obtain ⟨w1, hw1⟩ : ∃ X, (W.alloc (Obj.cells #[.int .i64 x0, .string txb, .int .i64 x2, .int .i64 x3] 23)).alloc (Obj.cells #[.bool false] 4) = X := ⟨_, rfl⟩
  have hz1 : Below W.heap.size W w1 := by rw [← hw1]; exact ((Below.refl _ W).alloc (Nat.le_refl _) _).alloc (by simp) _
  have hR1 : Rw w1 W.heap.size 23 #[.int .i64 x0, .string txb, .int .i64 x2, .int .i64 x3] := by rw [← hw1]; exact (Rw.new _ _ _).alloc _
  have hC1 : C1 w1 (W.heap.size + 1) (.bool false) 4 := by
    rw [← hw1]; exact ⟨by have := World.alloc_heap_new (W.alloc (Obj.cells #[.int .i64 x0, .string txb, .int .i64 x2, .int .i64 x3] 23)) (Obj.cells #[.bool false] 4); rwa [World.size_alloc] at this⟩
  have HE1 : Hid (ErrV w1) := hE.self hz1
  have HEW : Hid (ErrV W) := hE
  have HTN1 : Hid (Tens w1) := hTn.self hz1
  have HZ1 : Hid _ := hz1
  have HR1 : Hid _ := hR1
  have HC1 : Hid _ := hC1
  have hsc := scan_any b w1 HE1.out
  have HW1 : Hid _ := hw1
  clear hE hTn hn hw1 hz1 hR1 hC1
  refine (callsIn_wide (n := 6)).1 ?_
  refine callsIn_of_wp_marks Tryd.func3 rfl trivial ?_ rfl
  simp only [Tryd.ntmps3, List.size_toArray, List.length_cons, List.length_nil, Nat.reduceAdd, Nat.reduceSub, Array.replicate_succ, Array.replicate_zero, List.push_toArray, List.append_toArray, List.nil_append, List.cons_append]
  gi_upto_region 1 with (fail)
  rw [HW1.out]
  clear HW1
  gi_wp2_with fail
  refine ⟨trivial, (callsIn_wide.2 hsc).mono ?_⟩
  rintro e w2 ⟨v1, rfl, hown2, hb2⟩
  clear hsc
  gi_wp2_with fail
  refine ⟨trivial, (callsIn_wide.2 (scan8 b w2)).mono ?_⟩
  rintro e w3 ⟨v2, rfl, hown3, hb3⟩
  have hl3 : (scanT b).1.length ≤ 1000000 := by
    have := all_count b
    unfold scanT; split
    · simp only; omega
    · simp
  have HSM : Hid (∀ X, Below w3.heap.size w3 X → Calls Tryd.prog 9 #[v1, v2] X fun e w' => e = .returned (.bool true) ∧ Below w3.heap.size w3 w') := fun X hX =>
    (same_yes v1 v2 (scanT b).1 X (((own_tr hown2).below hb3).below hX) ((own_tr hown3).below hX) hl3).mono fun e w' ⟨he, q, hw⟩ => ⟨he, by rw [hw]; exact ⟨hX.os, hX.tape, hX.output, hX.size, hX.block⟩⟩
  have hb13 : Below w1.heap.size w1 w3 := hb2.trans (hb3.mono hb2.size)
  have HB13 : Hid _ := hb13
  have hR3 := HR1.out.below hb13
  have c0 : w3.cell? ⟨W.heap.size, 0, none⟩ = some (.int .i64 x0) := hR3.cell 0 _ rfl
  have c1 : w3.cell? ⟨W.heap.size, 1, none⟩ = some (.string txb) := hR3.cell 1 _ rfl
  have c2 : w3.cell? ⟨W.heap.size, 2, none⟩ = some (.int .i64 x2) := hR3.cell 2 _ rfl
  have c3 : w3.cell? ⟨W.heap.size, 3, none⟩ = some (.int .i64 x3) := hR3.cell 3 _ rfl
  have hgw : W.heap.size < w3.heap.size := hR3.lt
  generalize (scanT b).2.1 = se
  generalize (scanT b).2.2 = sp
  clear hown2 hown3 hb2 hb3 hb13 hR3 hl3
  have HTB : Hid (∀ X, Below w3.heap.size w3 X → Tens X) := fun X hX => HTN1.out.self (HB13.out.trans (hX.mono HB13.out.size))
  have k9 := HSM.out
  have k10 : ∀ X, Below w3.heap.size w3 X → Calls Tryd.prog 10 #[.agg #[.int .i64 x0, .string txb, .int .i64 x2, .int .i64 x3]] X fun e w' => e = .returned (.string ts) ∧ Below w3.heap.size w3 w' :=
    fun X hX => (HT10.out X (HTB.out X hX)).mono fun e w' ⟨he, hb⟩ => ⟨he, hX.trans (hb.mono hX.size)⟩
  have k11 : ∀ X, Below w3.heap.size w3 X → Calls Tryd.prog 11 #[.agg #[.int .i64 x0, .string txb, .int .i64 x2, .int .i64 x3]] X fun e w' => e = .returned (.string ts) ∧ Below w3.heap.size w3 w' :=
    fun X hX => (HT11.out X (HTB.out X hX)).mono fun e w' ⟨he, hb⟩ => ⟨he, hX.trans (hb.mono hX.size)⟩
  obtain ⟨wb, hwb⟩ : ∃ wb, wordB b = wb := ⟨_, rfl⟩
  have k12 : ∀ X, Below w3.heap.size w3 X → Calls Tryd.prog 12 #[.string (bs b)] X fun e w' => e = .returned (.bool wb) ∧ Below w3.heap.size w3 w' :=
    fun X hX => (HW12.out X).mono fun e w' ⟨he, hw⟩ => ⟨by rw [← hwb]; exact he, by rw [hw]; exact hX⟩
  have k13 : ∀ X, Below w3.heap.size w3 X → Calls Tryd.prog 13 #[.string (bs b)] X fun e w' => e = .returned (.bool wb) ∧ Below w3.heap.size w3 w' :=
    fun X hX => (HW13.out X).mono fun e w' ⟨he, hw⟩ => ⟨by rw [← hwb]; exact he, by rw [hw]; exact hX⟩
  clear hwb HSM HW12 HW13 HT10 HT11
  gi_upto_region 3 with (fail)
  rename_i K1 hK1 K2 hK2
  refine wpIn_mono ((wpIn_wide (Q := Exit.then K2 (fun _ _ _ => False))).2 ?_) (fun e a w h => by cases e <;> first | exact h | exact h.elim)
  have hB : Below w3.heap.size w3 w3.drew := Below.drew (Below.refl _ _)
  refine wp_region_held_drew (S := (fun X => Below w3.heap.size w3 X)) (by kernel_rfl) (hB) (fun hHeld => ?_)
  refine wpAnyH_take (i := 0) (oi := { dst := some 29, op := Go.Op.move (Go.Operand.tmp 5), type := 24, pos := "law.go:23", after := #[], guard := none }) (v := ?_) rfl (by kernel_rfl) (by kernel_rfl) (by kernel_rfl) (fun _ _ _ h => h) (Or.inl ⟨by rfl, ?_⟩) hHeld ?_
  rotate_left
  · intro w hSw; (try dsimp only at hSw); go_simp <;> with_reducible rfl
  try simp only [Act.put, List.setIfInBounds_toArray, List.set_cons_zero, List.set_cons_succ]
  refine wpAnyH_take (i := 1) (oi := { dst := some 30, op := Go.Op.move (Go.Operand.tmp 8), type := 24, pos := "law.go:23", after := #[], guard := none }) (v := ?_) rfl (by kernel_rfl) (by kernel_rfl) (by kernel_rfl) (fun _ _ _ h => h) (Or.inl ⟨by rfl, ?_⟩) hHeld ?_
  rotate_left
  · intro w hSw; (try dsimp only at hSw); go_simp <;> with_reducible rfl
  try simp only [Act.put, List.setIfInBounds_toArray, List.set_cons_zero, List.set_cons_succ]
  refine wpAnyH_ready (rs := [2]) (by kernel_rfl) (by simp) ?_
  refine AllReadyH.cons rfl (fun K hK => ?_) AllReadyH.nil
  go_simp
  refine (k9 _ hB).mono ?_
  rintro e y2 ⟨rfl, hb2⟩
  have hB := hb2
  clear hb2 k9
  refine hK.out _ _ (hB) (fun hHeld2 => ?_)
  clear hK K hHeld
  have hHeld := hHeld2
  clear hHeld2
  try simp only [Act.put, List.setIfInBounds_toArray, List.set_cons_zero, List.set_cons_succ]
  refine wpAnyH_take (i := 3) (oi := { dst := some 32, op := Go.Op.unOp Go.UnOp.not 4 (Go.Operand.tmp 31), type := 4, pos := "law.go:23", after := #[{ on := 2, ground := Go.Ground.data }], guard := none }) (v := .bool false) rfl (by kernel_rfl) (by kernel_rfl) (by kernel_rfl) (fun _ _ _ h => h) (Or.inl ⟨by rfl, ?_⟩) hHeld ?_
  skip
  · intro w hSw; (try dsimp only at hSw); go_simp <;> with_reducible rfl
  try simp only [Act.put, List.setIfInBounds_toArray, List.set_cons_zero, List.set_cons_succ]
  refine wpAnyH_take (i := 4) (oi := { dst := some 33, op := Go.Op.move (Go.Operand.tmp 32), type := 4, pos := "law.go:23", after := #[{ on := 3, ground := Go.Ground.data }, { on := 2, ground := Go.Ground.chain }], guard := none }) (v := .bool false) rfl (by kernel_rfl) (by kernel_rfl) (by kernel_rfl) (fun _ _ _ h => h) (Or.inl ⟨by rfl, ?_⟩) hHeld ?_
  skip
  · intro w hSw; (try dsimp only at hSw); go_simp <;> with_reducible rfl
  try simp only [Act.put, List.setIfInBounds_toArray, List.set_cons_zero, List.set_cons_succ]
  refine wpAnyH_take (i := 5) (oi := { dst := some 34, op := Go.Op.move (Go.Operand.tmp 6), type := 25, pos := "law.go:23", after := #[{ on := 4, ground := Go.Ground.guard }], guard := some (4, false) }) (v := ?_) rfl (by kernel_rfl) (by kernel_rfl) (by kernel_rfl) (fun _ _ _ h => h) (Or.inl ⟨by rfl, ?_⟩) hHeld ?_
  rotate_left
  · intro w hSw; (try dsimp only at hSw); go_simp <;> with_reducible rfl
  try simp only [Act.put, List.setIfInBounds_toArray, List.set_cons_zero, List.set_cons_succ]
  refine wpAnyH_take (i := 6) (oi := { dst := some 35, op := Go.Op.move (Go.Operand.tmp 9), type := 25, pos := "law.go:23", after := #[{ on := 4, ground := Go.Ground.guard }], guard := some (4, false) }) (v := ?_) rfl (by kernel_rfl) (by kernel_rfl) (by kernel_rfl) (fun _ _ _ h => h) (Or.inl ⟨by rfl, ?_⟩) hHeld ?_
  rotate_left
  · intro w hSw; (try dsimp only at hSw); go_simp <;> with_reducible rfl
  try simp only [Act.put, List.setIfInBounds_toArray, List.set_cons_zero, List.set_cons_succ]
  refine wpAnyH_take (i := 7) (oi := { dst := some 36, op := Go.Op.binOp Go.BinOp.neq 25 (Go.Operand.tmp 34) (Go.Operand.tmp 35) 25, type := 4, pos := "law.go:23", after := #[{ on := 5, ground := Go.Ground.data }, { on := 6, ground := Go.Ground.data }, { on := 4, ground := Go.Ground.guard }], guard := some (4, false) }) (v := .bool false) rfl (by kernel_rfl) (by kernel_rfl) (by kernel_rfl) (fun _ _ _ h => h) (Or.inl ⟨by rfl, ?_⟩) hHeld ?_
  skip
  · intro w hSw; (try dsimp only at hSw); go_simp <;> with_reducible rfl
  try simp only [Act.put, List.setIfInBounds_toArray, List.set_cons_zero, List.set_cons_succ]
  refine wpAnyH_take (i := 8) (oi := { dst := some 37, op := Go.Op.pick (Go.Operand.tmp 33) (Go.Operand.const (Go.Value.bool true)) (Go.Operand.tmp 36), type := 4, pos := "law.go:23", after := #[{ on := 4, ground := Go.Ground.data }, { on := 7, ground := Go.Ground.data }], guard := none }) (v := .bool false) rfl (by kernel_rfl) (by kernel_rfl) (by kernel_rfl) (fun _ _ _ h => h) (Or.inl ⟨by rfl, ?_⟩) hHeld ?_
  skip
  · intro w hSw; (try dsimp only at hSw); go_simp <;> with_reducible rfl
  try simp only [Act.put, List.setIfInBounds_toArray, List.set_cons_zero, List.set_cons_succ]
  refine wpAnyH_take (i := 9) (oi := { dst := some 38, op := Go.Op.move (Go.Operand.tmp 37), type := 4, pos := "law.go:23", after := #[{ on := 8, ground := Go.Ground.data }, { on := 4, ground := Go.Ground.chain }], guard := none }) (v := .bool false) rfl (by kernel_rfl) (by kernel_rfl) (by kernel_rfl) (fun _ _ _ h => h) (Or.inl ⟨by rfl, ?_⟩) hHeld ?_
  skip
  · intro w hSw; (try dsimp only at hSw); go_simp <;> with_reducible rfl
  try simp only [Act.put, List.setIfInBounds_toArray, List.set_cons_zero, List.set_cons_succ]
  refine wpAnyH_take (i := 10) (oi := { dst := some 39, op := Go.Op.move (Go.Operand.tmp 7), type := 3, pos := "law.go:23", after := #[{ on := 9, ground := Go.Ground.guard }], guard := some (9, false) }) (v := ?_) rfl (by kernel_rfl) (by kernel_rfl) (by kernel_rfl) (fun _ _ _ h => h) (Or.inl ⟨by rfl, ?_⟩) hHeld ?_
  rotate_left
  · intro w hSw; (try dsimp only at hSw); go_simp <;> with_reducible rfl
  try simp only [Act.put, List.setIfInBounds_toArray, List.set_cons_zero, List.set_cons_succ]
  refine wpAnyH_take (i := 11) (oi := { dst := some 40, op := Go.Op.move (Go.Operand.tmp 10), type := 3, pos := "law.go:23", after := #[{ on := 9, ground := Go.Ground.guard }], guard := some (9, false) }) (v := ?_) rfl (by kernel_rfl) (by kernel_rfl) (by kernel_rfl) (fun _ _ _ h => h) (Or.inl ⟨by rfl, ?_⟩) hHeld ?_
  rotate_left
  · intro w hSw; (try dsimp only at hSw); go_simp <;> with_reducible rfl
  try simp only [Act.put, List.setIfInBounds_toArray, List.set_cons_zero, List.set_cons_succ]
  refine wpAnyH_take (i := 12) (oi := { dst := some 41, op := Go.Op.binOp Go.BinOp.neq 3 (Go.Operand.tmp 39) (Go.Operand.tmp 40) 3, type := 4, pos := "law.go:23", after := #[{ on := 10, ground := Go.Ground.data }, { on := 11, ground := Go.Ground.data }, { on := 9, ground := Go.Ground.guard }], guard := some (9, false) }) (v := .bool false) rfl (by kernel_rfl) (by kernel_rfl) (by kernel_rfl) (fun _ _ _ h => h) (Or.inl ⟨by rfl, ?_⟩) hHeld ?_
  skip
  · intro w hSw; (try dsimp only at hSw); go_simp <;> with_reducible rfl
  try simp only [Act.put, List.setIfInBounds_toArray, List.set_cons_zero, List.set_cons_succ]
  refine wpAnyH_take (i := 13) (oi := { dst := some 42, op := Go.Op.pick (Go.Operand.tmp 38) (Go.Operand.const (Go.Value.bool true)) (Go.Operand.tmp 41), type := 4, pos := "law.go:23", after := #[{ on := 9, ground := Go.Ground.data }, { on := 12, ground := Go.Ground.data }], guard := none }) (v := .bool false) rfl (by kernel_rfl) (by kernel_rfl) (by kernel_rfl) (fun _ _ _ h => h) (Or.inl ⟨by rfl, ?_⟩) hHeld ?_
  skip
  · intro w hSw; (try dsimp only at hSw); go_simp <;> with_reducible rfl
  try simp only [Act.put, List.setIfInBounds_toArray, List.set_cons_zero, List.set_cons_succ]
  refine wpAnyH_take (i := 14) (oi := { dst := some 43, op := Go.Op.move (Go.Operand.tmp 42), type := 4, pos := "law.go:23", after := #[{ on := 13, ground := Go.Ground.data }, { on := 9, ground := Go.Ground.chain }], guard := none }) (v := .bool false) rfl (by kernel_rfl) (by kernel_rfl) (by kernel_rfl) (fun _ _ _ h => h) (Or.inl ⟨by rfl, ?_⟩) hHeld ?_
  skip
  · intro w hSw; (try dsimp only at hSw); go_simp <;> with_reducible rfl
  try simp only [Act.put, List.setIfInBounds_toArray, List.set_cons_zero, List.set_cons_succ]
  refine wpAnyH_take (i := 15) (oi := { dst := some 44, op := Go.Op.load 23 (Go.Operand.tmp 3), type := 23, pos := "law.go:23", after := #[{ on := 14, ground := Go.Ground.guard }], guard := some (14, false) }) (v := ?_) rfl (by kernel_rfl) (by kernel_rfl) (by kernel_rfl) (fun _ _ _ h => h) (Or.inl ⟨by rfl, ?_⟩) hHeld ?_
  rotate_left
  · intro w hSw; have z0 := (hSw.cell (p := ⟨W.heap.size, 0, none⟩) hgw).trans c0; have z1 := (hSw.cell (p := ⟨W.heap.size, 1, none⟩) hgw).trans c1; have z2 := (hSw.cell (p := ⟨W.heap.size, 2, none⟩) hgw).trans c2; have z3 := (hSw.cell (p := ⟨W.heap.size, 3, none⟩) hgw).trans c3; clear hSw; go_simp <;> with_reducible rfl
  try simp only [Act.put, List.setIfInBounds_toArray, List.set_cons_zero, List.set_cons_succ]
  refine wpAnyH_take (i := 17) (oi := { dst := some 46, op := Go.Op.load 23 (Go.Operand.tmp 3), type := 23, pos := "law.go:23", after := #[{ on := 14, ground := Go.Ground.guard }], guard := some (14, false) }) (v := ?_) rfl (by kernel_rfl) (by kernel_rfl) (by kernel_rfl) (fun _ _ _ h => h) (Or.inl ⟨by rfl, ?_⟩) hHeld ?_
  rotate_left
  · intro w hSw; have z0 := (hSw.cell (p := ⟨W.heap.size, 0, none⟩) hgw).trans c0; have z1 := (hSw.cell (p := ⟨W.heap.size, 1, none⟩) hgw).trans c1; have z2 := (hSw.cell (p := ⟨W.heap.size, 2, none⟩) hgw).trans c2; have z3 := (hSw.cell (p := ⟨W.heap.size, 3, none⟩) hgw).trans c3; clear hSw; go_simp <;> with_reducible rfl
  try simp only [Act.put, List.setIfInBounds_toArray, List.set_cons_zero, List.set_cons_succ]
  refine wpAnyH_ready (rs := [16]) (by kernel_rfl) (by simp) ?_
  refine AllReadyH.cons rfl (fun K hK => ?_) AllReadyH.nil
  go_simp
  refine (k10 _ hB).mono ?_
  rintro e y16 ⟨rfl, hb16⟩
  have hB := hb16
  clear hb16 k10
  refine hK.out _ _ (hB) (fun hHeld2 => ?_)
  clear hK K hHeld
  have hHeld := hHeld2
  clear hHeld2
  try simp only [Act.put, List.setIfInBounds_toArray, List.set_cons_zero, List.set_cons_succ]
  refine wpAnyH_ready (rs := [18]) (by kernel_rfl) (by simp) ?_
  refine AllReadyH.cons rfl (fun K hK => ?_) AllReadyH.nil
  go_simp
  refine (k11 _ hB).mono ?_
  rintro e y18 ⟨rfl, hb18⟩
  have hB := hb18
  clear hb18 k11
  refine hK.out _ _ (hB) (fun hHeld2 => ?_)
  clear hK K hHeld
  have hHeld := hHeld2
  clear hHeld2
  try simp only [Act.put, List.setIfInBounds_toArray, List.set_cons_zero, List.set_cons_succ]
  refine wpAnyH_take (i := 19) (oi := { dst := some 48, op := Go.Op.binOp Go.BinOp.neq 9 (Go.Operand.tmp 45) (Go.Operand.tmp 47) 9, type := 4, pos := "law.go:23", after := #[{ on := 16, ground := Go.Ground.data }, { on := 18, ground := Go.Ground.data }, { on := 14, ground := Go.Ground.guard }], guard := some (14, false) }) (v := .bool false) rfl (by kernel_rfl) (by kernel_rfl) (by kernel_rfl) (fun _ _ _ h => h) (Or.inl ⟨by rfl, ?_⟩) hHeld ?_
  skip
  · intro w hSw; (try dsimp only at hSw); go_simp <;> with_reducible rfl
  try simp only [Act.put, List.setIfInBounds_toArray, List.set_cons_zero, List.set_cons_succ]
  refine wpAnyH_take (i := 20) (oi := { dst := some 49, op := Go.Op.pick (Go.Operand.tmp 43) (Go.Operand.const (Go.Value.bool true)) (Go.Operand.tmp 48), type := 4, pos := "law.go:23", after := #[{ on := 14, ground := Go.Ground.data }, { on := 19, ground := Go.Ground.data }], guard := none }) (v := .bool false) rfl (by kernel_rfl) (by kernel_rfl) (by kernel_rfl) (fun _ _ _ h => h) (Or.inl ⟨by rfl, ?_⟩) hHeld ?_
  skip
  · intro w hSw; (try dsimp only at hSw); go_simp <;> with_reducible rfl
  try simp only [Act.put, List.setIfInBounds_toArray, List.set_cons_zero, List.set_cons_succ]
  refine wpAnyH_take (i := 21) (oi := { dst := some 50, op := Go.Op.move (Go.Operand.tmp 49), type := 4, pos := "law.go:23", after := #[{ on := 20, ground := Go.Ground.data }, { on := 18, ground := Go.Ground.chain }], guard := none }) (v := .bool false) rfl (by kernel_rfl) (by kernel_rfl) (by kernel_rfl) (fun _ _ _ h => h) (Or.inl ⟨by rfl, ?_⟩) hHeld ?_
  skip
  · intro w hSw; (try dsimp only at hSw); go_simp <;> with_reducible rfl
  try simp only [Act.put, List.setIfInBounds_toArray, List.set_cons_zero, List.set_cons_succ]
  refine wpAnyH_take (i := 22) (oi := { dst := some 51, op := Go.Op.move (Go.Operand.tmp 0), type := 9, pos := "law.go:23", after := #[{ on := 21, ground := Go.Ground.guard }], guard := some (21, false) }) (v := ?_) rfl (by kernel_rfl) (by kernel_rfl) (by kernel_rfl) (fun _ _ _ h => h) (Or.inl ⟨by rfl, ?_⟩) hHeld ?_
  rotate_left
  · intro w hSw; (try dsimp only at hSw); go_simp <;> with_reducible rfl
  try simp only [Act.put, List.setIfInBounds_toArray, List.set_cons_zero, List.set_cons_succ]
  refine wpAnyH_take (i := 24) (oi := { dst := some 53, op := Go.Op.move (Go.Operand.tmp 0), type := 9, pos := "law.go:23", after := #[{ on := 21, ground := Go.Ground.guard }], guard := some (21, false) }) (v := ?_) rfl (by kernel_rfl) (by kernel_rfl) (by kernel_rfl) (fun _ _ _ h => h) (Or.inl ⟨by rfl, ?_⟩) hHeld ?_
  rotate_left
  · intro w hSw; (try dsimp only at hSw); go_simp <;> with_reducible rfl
  try simp only [Act.put, List.setIfInBounds_toArray, List.set_cons_zero, List.set_cons_succ]
  refine wpAnyH_ready (rs := [23]) (by kernel_rfl) (by simp) ?_
  refine AllReadyH.cons rfl (fun K hK => ?_) AllReadyH.nil
  go_simp
  refine (k12 _ hB).mono ?_
  rintro e y23 ⟨rfl, hb23⟩
  have hB := hb23
  clear hb23 k12
  refine hK.out _ _ (hB) (fun hHeld2 => ?_)
  clear hK K hHeld
  have hHeld := hHeld2
  clear hHeld2
  try simp only [Act.put, List.setIfInBounds_toArray, List.set_cons_zero, List.set_cons_succ]
  refine wpAnyH_ready (rs := [25]) (by kernel_rfl) (by simp) ?_
  refine AllReadyH.cons rfl (fun K hK => ?_) AllReadyH.nil
  go_simp
  refine (k13 _ hB).mono ?_
  rintro e y25 ⟨rfl, hb25⟩
  have hB := hb25
  clear hb25 k13
  refine hK.out _ _ (hB) (fun hHeld2 => ?_)
  clear hK K hHeld
  have hHeld := hHeld2
  clear hHeld2
  try simp only [Act.put, List.setIfInBounds_toArray, List.set_cons_zero, List.set_cons_succ]
  refine wpAnyH_take (i := 26) (oi := { dst := some 55, op := Go.Op.binOp Go.BinOp.neq 4 (Go.Operand.tmp 52) (Go.Operand.tmp 54) 4, type := 4, pos := "law.go:23", after := #[{ on := 23, ground := Go.Ground.data }, { on := 25, ground := Go.Ground.data }, { on := 21, ground := Go.Ground.guard }], guard := some (21, false) }) (v := .bool false) rfl (by kernel_rfl) (by kernel_rfl) (by kernel_rfl) (fun _ _ _ h => h) (Or.inl ⟨by rfl, ?_⟩) hHeld ?_
  skip
  · intro w hSw; (try dsimp only at hSw); go_simp <;> with_reducible rfl
  try simp only [Act.put, List.setIfInBounds_toArray, List.set_cons_zero, List.set_cons_succ]
  refine wpAnyH_take (i := 27) (oi := { dst := some 56, op := Go.Op.pick (Go.Operand.tmp 50) (Go.Operand.const (Go.Value.bool true)) (Go.Operand.tmp 55), type := 4, pos := "law.go:23", after := #[{ on := 21, ground := Go.Ground.data }, { on := 26, ground := Go.Ground.data }], guard := none }) (v := .bool false) rfl (by kernel_rfl) (by kernel_rfl) (by kernel_rfl) (fun _ _ _ h => h) (Or.inl ⟨by rfl, ?_⟩) hHeld ?_
  skip
  · intro w hSw; (try dsimp only at hSw); go_simp <;> with_reducible rfl
  try simp only [Act.put, List.setIfInBounds_toArray, List.set_cons_zero, List.set_cons_succ]
  refine wpAnyH_done (by kernel_rfl) ?_ _
  show K2 _ _
  refine hK2 _ _ ?_
  clear hHeld hK2 K2
  have HBy : Hid (Below w1.heap.size w1 y25) := HB13.out.trans (hB.mono HB13.out.size)
  clear hB c0 c1 c2 c3 hgw HTB HTN1
  gi_wp2_with fail
  refine ⟨trivial, (callsIn_wide.2 (all14 b y25)).mono ?_⟩
  rintro e w8 ⟨va, rfl, hown8, hb8⟩
  have HT8 : Hid (Tr w8 va (allT b).1) := own_tr hown8
  obtain ⟨a0, cap, rfl, hcells⟩ := HT8.out.h
  have hcnt := all_count b
  have HB8 : Hid (Below w1.heap.size w1 w8) := HBy.out.trans (hb8.mono HBy.out.size)
  obtain ⟨T, hT⟩ : ∃ T, (allT b).1 = T := ⟨_, rfl⟩
  have HT : Hid ((allT b).1 = T) := hT
  rw [hT] at hcells hcnt hlong ⊢
  generalize (allT b).2.1 = ae
  generalize (allT b).2.2 = ap
  have h48 : 4 < w8.heap.size := (HE1.out.self HB8.out).1
  obtain ⟨g, hg8, hgc, hga⟩ : ∃ g, g < w8.heap.size ∧ (∀ (i : Nat) t, T[i]? = some t → w8.cell? ⟨g, i * 4, none⟩ = some (.int .i64 t.k) ∧ w8.cell? ⟨g, i * 4 + 1, none⟩ = some (.string (bs t.tx)) ∧ w8.cell? ⟨g, i * 4 + 2, none⟩ = some (.int .i64 t.n) ∧ w8.cell? ⟨g, i * 4 + 3, none⟩ = some (.int .i64 (t.p : Int))) ∧ (0 < T.length → a0 = some ⟨g, 0, none⟩) := by
    by_cases h : 0 < T.length
    · obtain ⟨g, e, h1, h2⟩ := hcells h
      exact ⟨g, h1, h2, fun _ => e⟩
    · refine ⟨0, by omega, fun i t ht => ?_, fun h2 => absurd h2 h⟩
      have : T = [] := List.length_eq_zero_iff.1 (by omega)
      rw [this] at ht
      simp at ht
  obtain ⟨nT, hnT⟩ : ∃ m, T.length = m := ⟨_, rfl⟩
  have HNT : Hid (T.length = nT) := hnT
  rw [hnT] at hcnt hga ⊢
  have HGC : Hid _ := hgc
  have HGA : Hid _ := hga
  have hC8 : C1 w8 (W.heap.size + 1) (.bool false) 4 := HC1.out.below HB8.out
  have HC8 : Hid _ := hC8
  have HSZ : Hid (W.heap.size + 1 < w8.heap.size) := hC8.lt
  clear hown8 hb8 HT8 hcells hT hgc hga hC8 h48 hnT
  gi_upto_region 6 with (fail)
  obtain ⟨w9, hw9⟩ : ∃ X, w8.alloc (Obj.cells #[.slice a0 nT cap] 24) = X := ⟨_, rfl⟩
  have hb9 : Below w8.heap.size w8 w9 := by rw [← hw9]; exact (Below.refl _ w8).alloc (Nat.le_refl _) _
  have hC9 : C1 w9 w8.heap.size (.slice a0 nT cap) 24 := by rw [← hw9]; exact ⟨World.alloc_heap_new _ _⟩
  rw [hw9]
  clear hw9
  by_cases hbig : 65536 < n
  · have hbig' : (65536 : Int) < (n : Int) := by omega
    have hn0 : nT = 0 := by rw [← HNT.out, hlong hbig]; rfl
    have cs9 := hC9.cell
    have fs9 := hC9.fz
    have hCa := hC9.set (u := .slice none 0 0)
    have hba : Below w8.heap.size w8 (w9.setCell ⟨w8.heap.size, 0, none⟩ (.slice none 0 0)) := hb9.setCell (p := ⟨w8.heap.size, 0, none⟩) (show w8.heap.size ≤ w8.heap.size from Nat.le_refl _) _
    gi_upto_region 8 with (fail)
    obtain ⟨wa, hwa⟩ : ∃ X, w9.setCell ⟨w8.heap.size, 0, none⟩ (.slice none 0 0) = X := ⟨_, rfl⟩
    rw [hwa] at hCa hba ⊢
    have HCa : Hid (C1 wa w8.heap.size (.slice none nT 0) 24) := by unfold Hid; rw [hn0]; exact hCa
    have HBa : Hid _ := hba
    have HSA : Hid (0 < nT → (none : Option Addr) = some ⟨g, 0, none⟩) := fun h => by omega
    clear hbig hbig' hn0 cs9 fs9 hCa hba hwa hC9 hb9 hlong
    gi_wp2_with fail
    refine ⟨trivial, (callsIn_wide.2 (each15 b wa)).mono ?_⟩
    rintro e wb ⟨rfl, hwb⟩
    have hzb : Below wa.heap.size wa wb := by rw [hwb]; exact (Below.refl _ wa).alloc (Nat.le_refl _) _
    have hBb : Rw wb wa.heap.size 9 #[.string (bs b)] := by rw [hwb]; exact Rw.new _ _ _
    have hsb : wb.heap.size = wa.heap.size + 1 := by rw [hwb]; simp
    have hnil : ∀ w : World, (binOp .eql 32 (.func (.func 26) #[] #[.pointer (some ⟨wa.heap.size, 0, none⟩)]) .nilFunc).run Tryd.prog w = .ok (.bool false) w := fun _ => rfl
    obtain ⟨wc, hwc⟩ : ∃ X, wb.alloc (Obj.cells #[.int .i64 0] 3) = X := ⟨_, rfl⟩
    have hzc : Below wb.heap.size wb wc := by rw [← hwc]; exact (Below.refl _ wb).alloc (Nat.le_refl _) _
    have hAc : C1 wc wb.heap.size (.int .i64 0) 3 := by rw [← hwc]; exact ⟨World.alloc_heap_new _ _⟩
    have hRc := hBb.below hzc
    have HBc : Hid (wc.cell? ⟨wa.heap.size, 0, none⟩ = some (.string (bs b))) := hRc.cell 0 _ rfl
    have hzac : Below wa.heap.size wa wc := hzb.trans (hzc.mono hzb.size)
    have hz8c : Below w8.heap.size w8 wc := HBa.out.trans (hzac.mono HBa.out.size)
    have hG : w8.heap.size < wa.heap.size := HCa.out.lt
    have HI0 : Hid (InS W wb.heap.size w8.heap.size (W.heap.size + 1) g wa.heap.size (.slice none nT 0) (.string (bs b)) T [] wc) := ⟨hAc, HCa.out.below hzac, HC8.out.below hz8c, ⟨hRc.h⟩, fun i t ht => by
      obtain ⟨c0, c1, c2, c3⟩ := HGC.out i t ht
      exact ⟨cell_keep hz8c c0, cell_keep hz8c c1, cell_keep hz8c c2, cell_keep hz8c c3⟩, HZ1.out.trans ((HB8.out.trans (hz8c.mono HB8.out.size)).mono HZ1.out.size)⟩
    have HWC : Hid _ := hwc
    have hlts : wb.heap.size < wc.heap.size := hAc.lt
    have hrk : ∀ k, wc.heap.size ≤ k → wb.heap.size < k ∧ w8.heap.size < k ∧ W.heap.size + 1 < k ∧ g < k ∧ wa.heap.size < k := fun k hk => by have := HSZ.out; omega
    have HRK : Hid _ := hrk
    have HNE : Hid (w8.heap.size ≠ wb.heap.size ∧ W.heap.size + 1 ≠ wb.heap.size ∧ g ≠ wb.heap.size ∧ wa.heap.size ≠ wb.heap.size ∧ W.heap.size ≤ wb.heap.size) := by unfold Hid; have := HSZ.out; omega
    clear hwb hwc hBb hzb hzc hAc hRc hzac hz8c hrk hsb
    gi_wp2
    rw [HWC.out]
    clear HWC
    have mixed : Tryd.prog.follows .mixedOrders = true := by kernel_rfl
    refine range26v (w := wc) 6 0 wa.heap.size b rfl HBc.out (fun q X => InS W wb.heap.size w8.heap.size (W.heap.size + 1) g wa.heap.size (.slice none nT 0) (.string (bs b)) T q X) (fun _ => False)
      ?imk1 ?ibk1 ?ipk1 ?xpk1 HI0.out ?a1k1 ?assignk1 ?bodyk1 ?leftk1 ?donek1
    case imk1 => exact fun q X h => HEW.out.self h.b
    case ibk1 => exact fun q X Y _ h hb => h.below hb
    case ipk1 => exact fun q X k o o' hk h ho hc => h.put (HRK.out k hk) (by have := HRK.out k hk; omega) _
    case xpk1 => exact fun X k o o' hk h ho hc => h.elim
    case assignk1 =>
      intro l m t Bx X K hBx hK
      unfold Tok.val
      gi_wp2
      exact hK
    case bodyk1 =>
      rintro l m q t Bx X ⟨rr, hrr⟩ hBx hsX hR hI
      rw [HT.out] at hrr
      have hqn : q.length < nT := by rw [← HNT.out, ← hrr]; simp
      have hqt : T[q.length]? = some t := by rw [← hrr]; simp
      obtain ⟨d0, d1, d2, d3⟩ := hI.c q.length t hqt
      have ci := hI.n.cell
      have fi := hI.n.fz
      have cs := hI.s.cell
      have hsa := HSA.out (by omega)
      exact absurd hsa (by simp)
    case leftk1 => exact fun D X hD h hDX => h.elim
    case donek1 =>
      rintro D X hD hI hDX
      rw [HT.out] at hI
      have HI : Hid _ := hI
      have HDX : Hid _ := hDX
      have hcB : X.cell? ⟨wa.heap.size, 0, none⟩ = some (.string (bs b)) := hI.z.cell
      have hXs : wc.heap.size ≤ X.heap.size ∧ D < X.heap.size ∧ wb.heap.size < X.heap.size := ⟨by have := hI.n.lt; have := (Array.getElem?_eq_some_iff.1 hDX).1; omega, (Array.getElem?_eq_some_iff.1 hDX).1, hI.n.lt⟩
      have hrk2 : ∀ k, X.heap.size ≤ k → wb.heap.size < k ∧ w8.heap.size < k ∧ W.heap.size + 1 < k ∧ g < k ∧ wa.heap.size < k := fun k hk => HRK.out k (by omega)
      have HRK2 : Hid _ := hrk2
      clear hI hDX hrk2
      gi_wp2
      refine range26 (w := X) 6 2 wa.heap.size b rfl hcB (fun _ Y => InS W wb.heap.size w8.heap.size (W.heap.size + 1) g wa.heap.size (.slice none nT 0) (.string (bs b)) T T Y ∧ Y.heap[D]? = some (.deferred (some []))) (fun Y => InS W wb.heap.size w8.heap.size (W.heap.size + 1) g wa.heap.size (.slice none nT 0) (.string (bs b)) T T Y ∧ Y.heap[D]? = some (.deferred (some [])))
        ?im2k1 ?ib2k1 ?ip2k1 ?xp2k1 ⟨HI.out, HDX.out⟩ ?a12k1 ?assign2k1 ?body2k1 ?left2k1 ?done2k1
      case im2k1 => exact fun q Y h => HEW.out.self h.1.b
      case ib2k1 => exact fun q Y Y2 _ h hb => ⟨h.1.below hb, (hb.block _ (Array.getElem?_eq_some_iff.1 h.2).1).trans h.2⟩
      case ip2k1 => exact fun q Y k o o' hk h ho hc => ⟨h.1.put (HRK2.out k hk) (by have := HRK2.out k hk; omega) _, (World.putObj_heap_other (by omega)).trans h.2⟩
      case xp2k1 => exact fun Y k o o' hk h ho hc => ⟨h.1.put (HRK2.out k hk) (by have := HRK2.out k hk; omega) _, (World.putObj_heap_other (by omega)).trans h.2⟩
      case assign2k1 =>
        intro l m t Y K hK
        gi_wp2
        exact hK
      case body2k1 =>
        rintro l m q t Y ⟨rr, hrr⟩ hsY hI
        gi_wp2
        exact ⟨rfl, KA.refl _ _, hI⟩
      case left2k1 =>
        rintro D2 Y hD2 ⟨hI, hDY⟩ hD2Y
        have cn := hI.n.cell
        have cs := hI.s.cell
        rw [HNT.out] at cn
        have HIY : Hid _ := hI
        have HDY : Hid _ := hDY
        have HD2Y : Hid _ := hD2Y
        clear hI hDY hD2Y
        gi_wp2
        refine ⟨trivial, (callsIn_wide.2 (HKN.out Y (HEW.out.self HIY.out.b))).mono ?_⟩
        rintro e Y2 ⟨rfl, hbY⟩
        have hr2 := HIY.out.r.below hbY
        have fr := hr2.fz
        have cr := hr2.cell
        have HDY2 : Hid _ := (hbY.block _ (Array.getElem?_eq_some_iff.1 HDY.out).1).trans HDY.out
        have HD2Y2 : Hid _ := (hbY.block _ (Array.getElem?_eq_some_iff.1 HD2Y.out).1).trans HD2Y.out
        have HBY2 : Hid (Below W.heap.size W Y2) := HIY.out.b.trans (hbY.mono HIY.out.b.size)
        have HR2 : Hid _ := hr2
        clear hbY cn cs hr2
        gi_wp2
        have hr3 := HR2.out.set (u := .bool true)
        have hD3 : (Y2.setCell ⟨W.heap.size + 1, 0, none⟩ (.bool true)).heap[D]? = some (.deferred (some [])) := (Below.heap_setCell Y2 ⟨W.heap.size + 1, 0, none⟩ _ D (show D ≠ W.heap.size + 1 by have := HRK.out D hD; omega)).trans HDY2.out
        have hD4 : (Y2.setCell ⟨W.heap.size + 1, 0, none⟩ (.bool true)).heap[D2]? = some (.deferred (some [])) := (Below.heap_setCell Y2 ⟨W.heap.size + 1, 0, none⟩ _ D2 (show D2 ≠ W.heap.size + 1 by have := HRK2.out D2 hD2; omega)).trans HD2Y2.out
        have hb3 : Below W.heap.size W (Y2.setCell ⟨W.heap.size + 1, 0, none⟩ (.bool true)) := HBY2.out.setCell (p := ⟨W.heap.size + 1, 0, none⟩) (show W.heap.size ≤ W.heap.size + 1 by omega) _
        have hdd : D < D2 := by omega
        refine ⟨by simp, .inl ⟨_, _, rfl, run_takeDeferred hD4, ?_⟩⟩
        refine ⟨by simp, .inl ⟨_, _, rfl, run_takeDeferred ((World.putObj_heap_other (by omega)).trans hD3), ?_⟩⟩
        refine ⟨_, resB rfl _ _ (W.heap.size + 1) true ?_ rfl, rfl, ?_⟩
        · exact ((hr3.put (by have := HRK2.out D2 hD2; omega) _).put (by have := HRK.out D hD; omega) _).cell
        · have h5 := hb3.trans ((Below.refl _ _).grown (grownBy_putObj' (Y2.setCell ⟨W.heap.size + 1, 0, none⟩ (.bool true)) D2 (.deferred none)) hb3.size (fun r e => by cases e; have := HRK2.out D2 hD2; omega))
          exact h5.trans ((Below.refl _ _).grown (grownBy_putObj' _ D _) h5.size (fun r e => by cases e; have := HRK.out D hD; omega))
      case done2k1 =>
        rintro D2 Y hD2 ⟨hI, hDY⟩ hD2Y
        have cn := hI.n.cell
        have cs := hI.s.cell
        rw [HNT.out] at cn
        have HIY : Hid _ := hI
        have HDY : Hid _ := hDY
        have HD2Y : Hid _ := hD2Y
        clear hI hDY hD2Y
        gi_wp2
        refine ⟨trivial, (callsIn_wide.2 (HKN.out Y (HEW.out.self HIY.out.b))).mono ?_⟩
        rintro e Y2 ⟨rfl, hbY⟩
        have hr2 := HIY.out.r.below hbY
        have fr := hr2.fz
        have cr := hr2.cell
        have HDY2 : Hid _ := (hbY.block _ (Array.getElem?_eq_some_iff.1 HDY.out).1).trans HDY.out
        have HD2Y2 : Hid _ := (hbY.block _ (Array.getElem?_eq_some_iff.1 HD2Y.out).1).trans HD2Y.out
        have HBY2 : Hid (Below W.heap.size W Y2) := HIY.out.b.trans (hbY.mono HIY.out.b.size)
        have HR2 : Hid _ := hr2
        clear hbY cn cs hr2
        gi_wp2
        have hr3 := HR2.out.set (u := .bool true)
        have hD3 : (Y2.setCell ⟨W.heap.size + 1, 0, none⟩ (.bool true)).heap[D]? = some (.deferred (some [])) := (Below.heap_setCell Y2 ⟨W.heap.size + 1, 0, none⟩ _ D (show D ≠ W.heap.size + 1 by have := HRK.out D hD; omega)).trans HDY2.out
        have hD4 : (Y2.setCell ⟨W.heap.size + 1, 0, none⟩ (.bool true)).heap[D2]? = some (.deferred (some [])) := (Below.heap_setCell Y2 ⟨W.heap.size + 1, 0, none⟩ _ D2 (show D2 ≠ W.heap.size + 1 by have := HRK2.out D2 hD2; omega)).trans HD2Y2.out
        have hb3 : Below W.heap.size W (Y2.setCell ⟨W.heap.size + 1, 0, none⟩ (.bool true)) := HBY2.out.setCell (p := ⟨W.heap.size + 1, 0, none⟩) (show W.heap.size ≤ W.heap.size + 1 by omega) _
        have hdd : D < D2 := by omega
        refine ⟨by simp, .inl ⟨_, _, rfl, run_takeDeferred hD4, ?_⟩⟩
        refine ⟨by simp, .inl ⟨_, _, rfl, run_takeDeferred ((World.putObj_heap_other (by omega)).trans hD3), ?_⟩⟩
        refine ⟨_, resB rfl _ _ (W.heap.size + 1) true ?_ rfl, rfl, ?_⟩
        · exact ((hr3.put (by have := HRK2.out D2 hD2; omega) _).put (by have := HRK.out D hD; omega) _).cell
        · have h5 := hb3.trans ((Below.refl _ _).grown (grownBy_putObj' (Y2.setCell ⟨W.heap.size + 1, 0, none⟩ (.bool true)) D2 (.deferred none)) hb3.size (fun r e => by cases e; have := HRK2.out D2 hD2; omega))
          exact h5.trans ((Below.refl _ _).grown (grownBy_putObj' _ D _) h5.size (fun r e => by cases e; have := HRK.out D hD; omega))
  · have hbig' : ¬ (65536 : Int) < (n : Int) := by omega
    obtain ⟨wa, hwa⟩ : ∃ X, w9 = X := ⟨_, rfl⟩
    have HCa : Hid (C1 wa w8.heap.size (.slice a0 nT cap) 24) := by rw [← hwa]; exact hC9
    have HBa : Hid (Below w8.heap.size w8 wa) := by rw [← hwa]; exact hb9
    have HSA : Hid (0 < nT → a0 = some ⟨g, 0, none⟩) := HGA.out
    rw [hwa]
    clear hbig hC9 hb9 hlong hwa
    gi_wp2_with fail
    refine ⟨trivial, (callsIn_wide.2 (each15 b wa)).mono ?_⟩
    rintro e wb ⟨rfl, hwb⟩
    have hzb : Below wa.heap.size wa wb := by rw [hwb]; exact (Below.refl _ wa).alloc (Nat.le_refl _) _
    have hBb : Rw wb wa.heap.size 9 #[.string (bs b)] := by rw [hwb]; exact Rw.new _ _ _
    have hsb : wb.heap.size = wa.heap.size + 1 := by rw [hwb]; simp
    have hnil : ∀ w : World, (binOp .eql 32 (.func (.func 26) #[] #[.pointer (some ⟨wa.heap.size, 0, none⟩)]) .nilFunc).run Tryd.prog w = .ok (.bool false) w := fun _ => rfl
    obtain ⟨wc, hwc⟩ : ∃ X, wb.alloc (Obj.cells #[.int .i64 0] 3) = X := ⟨_, rfl⟩
    have hzc : Below wb.heap.size wb wc := by rw [← hwc]; exact (Below.refl _ wb).alloc (Nat.le_refl _) _
    have hAc : C1 wc wb.heap.size (.int .i64 0) 3 := by rw [← hwc]; exact ⟨World.alloc_heap_new _ _⟩
    have hRc := hBb.below hzc
    have HBc : Hid (wc.cell? ⟨wa.heap.size, 0, none⟩ = some (.string (bs b))) := hRc.cell 0 _ rfl
    have hzac : Below wa.heap.size wa wc := hzb.trans (hzc.mono hzb.size)
    have hz8c : Below w8.heap.size w8 wc := HBa.out.trans (hzac.mono HBa.out.size)
    have hG : w8.heap.size < wa.heap.size := HCa.out.lt
    have HI0 : Hid (InS W wb.heap.size w8.heap.size (W.heap.size + 1) g wa.heap.size (.slice a0 nT cap) (.string (bs b)) T [] wc) := ⟨hAc, HCa.out.below hzac, HC8.out.below hz8c, ⟨hRc.h⟩, fun i t ht => by
      obtain ⟨c0, c1, c2, c3⟩ := HGC.out i t ht
      exact ⟨cell_keep hz8c c0, cell_keep hz8c c1, cell_keep hz8c c2, cell_keep hz8c c3⟩, HZ1.out.trans ((HB8.out.trans (hz8c.mono HB8.out.size)).mono HZ1.out.size)⟩
    have HWC : Hid _ := hwc
    have hlts : wb.heap.size < wc.heap.size := hAc.lt
    have hrk : ∀ k, wc.heap.size ≤ k → wb.heap.size < k ∧ w8.heap.size < k ∧ W.heap.size + 1 < k ∧ g < k ∧ wa.heap.size < k := fun k hk => by have := HSZ.out; omega
    have HRK : Hid _ := hrk
    have HNE : Hid (w8.heap.size ≠ wb.heap.size ∧ W.heap.size + 1 ≠ wb.heap.size ∧ g ≠ wb.heap.size ∧ wa.heap.size ≠ wb.heap.size ∧ W.heap.size ≤ wb.heap.size) := by unfold Hid; have := HSZ.out; omega
    clear hwb hwc hBb hzb hzc hAc hRc hzac hz8c hrk hsb
    gi_wp2
    rw [HWC.out]
    clear HWC
    have mixed : Tryd.prog.follows .mixedOrders = true := by kernel_rfl
    refine range26v (w := wc) 6 0 wa.heap.size b rfl HBc.out (fun q X => InS W wb.heap.size w8.heap.size (W.heap.size + 1) g wa.heap.size (.slice a0 nT cap) (.string (bs b)) T q X) (fun _ => False)
      ?imk2 ?ibk2 ?ipk2 ?xpk2 HI0.out ?a1k2 ?assignk2 ?bodyk2 ?leftk2 ?donek2
    case imk2 => exact fun q X h => HEW.out.self h.b
    case ibk2 => exact fun q X Y _ h hb => h.below hb
    case ipk2 => exact fun q X k o o' hk h ho hc => h.put (HRK.out k hk) (by have := HRK.out k hk; omega) _
    case xpk2 => exact fun X k o o' hk h ho hc => h.elim
    case assignk2 =>
      intro l m t Bx X K hBx hK
      unfold Tok.val
      gi_wp2
      exact hK
    case bodyk2 =>
      rintro l m q t Bx X ⟨rr, hrr⟩ hBx hsX hR hI
      rw [HT.out] at hrr
      have hqn : q.length < nT := by rw [← HNT.out, ← hrr]; simp
      have hqt : T[q.length]? = some t := by rw [← hrr]; simp
      obtain ⟨d0, d1, d2, d3⟩ := hI.c q.length t hqt
      have ci := hI.n.cell
      have fi := hI.n.fz
      have cs := hI.s.cell
      have hsa := HSA.out (by omega)
      have hsa2 : a0 = some ⟨g, 0, none⟩ := hsa
      rw [hsa2] at cs
      have HI : Hid _ := hI
      have HST := HI.out.step t HNE.out.1 HNE.out.2.1 HNE.out.2.2.1 HNE.out.2.2.2.1 HNE.out.2.2.2.2 (HRK.out wc.heap.size (Nat.le_refl _)).1
      obtain ⟨qn, hq⟩ : ∃ m, q.length = m := ⟨_, rfl⟩
      rw [hq] at ci hqn d0 d1 d2 d3 HST
      have HST2 : Hid _ := HST
      have hw1 : IntKind.i64.wrap ((qn : Int) + 1) = (qn : Int) + 1 := by rw [IntKind.wrap_i64]; omega
      have e0 : X.cell? ⟨Bx, 0, none⟩ = some (.int .i64 t.k) := hR.cell 0 _ rfl
      have e1 : X.cell? ⟨Bx, 1, none⟩ = some (.string (bs t.tx)) := hR.cell 1 _ rfl
      have e2 : X.cell? ⟨Bx, 2, none⟩ = some (.int .i64 t.n) := hR.cell 2 _ rfl
      have e3 : X.cell? ⟨Bx, 3, none⟩ = some (.int .i64 (t.p : Int)) := hR.cell 3 _ rfl
      have hne := fun w => neq23 t.k (bs t.tx) t.n (t.p : Int) w
      have hnge : ¬ (nT : Int) ≤ (qn : Int) := by omega
      have hlt : (qn : Int) < (nT : Int) := by omega
      generalize t.k = x4 at d0 e0 hne
      generalize bs t.tx = x5 at d1 e1 hne
      generalize t.n = x6 at d2 e2 hne
      generalize (t.p : Int) = x7 at d3 e3 hne
      clear hI hR hrr hq HST hqt hsa
      have h9 := HST2.out
      rw [hsa2] at h9
      have HST3 : Hid _ := h9
      clear HST2 h9
      gi_upto_region 14 with (fail)
      gi_region_with_o (fail)
      all_goals gi_wp2
      all_goals exact HST3.out
    case leftk2 => exact fun D X hD h hDX => h.elim
    case donek2 =>
      rintro D X hD hI hDX
      rw [HT.out] at hI
      have HI : Hid _ := hI
      have HDX : Hid _ := hDX
      have hcB : X.cell? ⟨wa.heap.size, 0, none⟩ = some (.string (bs b)) := hI.z.cell
      have hXs : wc.heap.size ≤ X.heap.size ∧ D < X.heap.size ∧ wb.heap.size < X.heap.size := ⟨by have := hI.n.lt; have := (Array.getElem?_eq_some_iff.1 hDX).1; omega, (Array.getElem?_eq_some_iff.1 hDX).1, hI.n.lt⟩
      have hrk2 : ∀ k, X.heap.size ≤ k → wb.heap.size < k ∧ w8.heap.size < k ∧ W.heap.size + 1 < k ∧ g < k ∧ wa.heap.size < k := fun k hk => HRK.out k (by omega)
      have HRK2 : Hid _ := hrk2
      clear hI hDX hrk2
      gi_wp2
      refine range26 (w := X) 6 2 wa.heap.size b rfl hcB (fun _ Y => InS W wb.heap.size w8.heap.size (W.heap.size + 1) g wa.heap.size (.slice a0 nT cap) (.string (bs b)) T T Y ∧ Y.heap[D]? = some (.deferred (some []))) (fun Y => InS W wb.heap.size w8.heap.size (W.heap.size + 1) g wa.heap.size (.slice a0 nT cap) (.string (bs b)) T T Y ∧ Y.heap[D]? = some (.deferred (some [])))
        ?im2k2 ?ib2k2 ?ip2k2 ?xp2k2 ⟨HI.out, HDX.out⟩ ?a12k2 ?assign2k2 ?body2k2 ?left2k2 ?done2k2
      case im2k2 => exact fun q Y h => HEW.out.self h.1.b
      case ib2k2 => exact fun q Y Y2 _ h hb => ⟨h.1.below hb, (hb.block _ (Array.getElem?_eq_some_iff.1 h.2).1).trans h.2⟩
      case ip2k2 => exact fun q Y k o o' hk h ho hc => ⟨h.1.put (HRK2.out k hk) (by have := HRK2.out k hk; omega) _, (World.putObj_heap_other (by omega)).trans h.2⟩
      case xp2k2 => exact fun Y k o o' hk h ho hc => ⟨h.1.put (HRK2.out k hk) (by have := HRK2.out k hk; omega) _, (World.putObj_heap_other (by omega)).trans h.2⟩
      case assign2k2 =>
        intro l m t Y K hK
        gi_wp2
        exact hK
      case body2k2 =>
        rintro l m q t Y ⟨rr, hrr⟩ hsY hI
        gi_wp2
        exact ⟨rfl, KA.refl _ _, hI⟩
      case left2k2 =>
        rintro D2 Y hD2 ⟨hI, hDY⟩ hD2Y
        have cn := hI.n.cell
        have cs := hI.s.cell
        rw [HNT.out] at cn
        have HIY : Hid _ := hI
        have HDY : Hid _ := hDY
        have HD2Y : Hid _ := hD2Y
        clear hI hDY hD2Y
        gi_wp2
        refine ⟨trivial, (callsIn_wide.2 (HKN.out Y (HEW.out.self HIY.out.b))).mono ?_⟩
        rintro e Y2 ⟨rfl, hbY⟩
        have hr2 := HIY.out.r.below hbY
        have fr := hr2.fz
        have cr := hr2.cell
        have HDY2 : Hid _ := (hbY.block _ (Array.getElem?_eq_some_iff.1 HDY.out).1).trans HDY.out
        have HD2Y2 : Hid _ := (hbY.block _ (Array.getElem?_eq_some_iff.1 HD2Y.out).1).trans HD2Y.out
        have HBY2 : Hid (Below W.heap.size W Y2) := HIY.out.b.trans (hbY.mono HIY.out.b.size)
        have HR2 : Hid _ := hr2
        clear hbY cn cs hr2
        gi_wp2
        have hr3 := HR2.out.set (u := .bool true)
        have hD3 : (Y2.setCell ⟨W.heap.size + 1, 0, none⟩ (.bool true)).heap[D]? = some (.deferred (some [])) := (Below.heap_setCell Y2 ⟨W.heap.size + 1, 0, none⟩ _ D (show D ≠ W.heap.size + 1 by have := HRK.out D hD; omega)).trans HDY2.out
        have hD4 : (Y2.setCell ⟨W.heap.size + 1, 0, none⟩ (.bool true)).heap[D2]? = some (.deferred (some [])) := (Below.heap_setCell Y2 ⟨W.heap.size + 1, 0, none⟩ _ D2 (show D2 ≠ W.heap.size + 1 by have := HRK2.out D2 hD2; omega)).trans HD2Y2.out
        have hb3 : Below W.heap.size W (Y2.setCell ⟨W.heap.size + 1, 0, none⟩ (.bool true)) := HBY2.out.setCell (p := ⟨W.heap.size + 1, 0, none⟩) (show W.heap.size ≤ W.heap.size + 1 by omega) _
        have hdd : D < D2 := by omega
        refine ⟨by simp, .inl ⟨_, _, rfl, run_takeDeferred hD4, ?_⟩⟩
        refine ⟨by simp, .inl ⟨_, _, rfl, run_takeDeferred ((World.putObj_heap_other (by omega)).trans hD3), ?_⟩⟩
        refine ⟨_, resB rfl _ _ (W.heap.size + 1) true ?_ rfl, rfl, ?_⟩
        · exact ((hr3.put (by have := HRK2.out D2 hD2; omega) _).put (by have := HRK.out D hD; omega) _).cell
        · have h5 := hb3.trans ((Below.refl _ _).grown (grownBy_putObj' (Y2.setCell ⟨W.heap.size + 1, 0, none⟩ (.bool true)) D2 (.deferred none)) hb3.size (fun r e => by cases e; have := HRK2.out D2 hD2; omega))
          exact h5.trans ((Below.refl _ _).grown (grownBy_putObj' _ D _) h5.size (fun r e => by cases e; have := HRK.out D hD; omega))
      case done2k2 =>
        rintro D2 Y hD2 ⟨hI, hDY⟩ hD2Y
        have cn := hI.n.cell
        have cs := hI.s.cell
        rw [HNT.out] at cn
        have HIY : Hid _ := hI
        have HDY : Hid _ := hDY
        have HD2Y : Hid _ := hD2Y
        clear hI hDY hD2Y
        gi_wp2
        refine ⟨trivial, (callsIn_wide.2 (HKN.out Y (HEW.out.self HIY.out.b))).mono ?_⟩
        rintro e Y2 ⟨rfl, hbY⟩
        have hr2 := HIY.out.r.below hbY
        have fr := hr2.fz
        have cr := hr2.cell
        have HDY2 : Hid _ := (hbY.block _ (Array.getElem?_eq_some_iff.1 HDY.out).1).trans HDY.out
        have HD2Y2 : Hid _ := (hbY.block _ (Array.getElem?_eq_some_iff.1 HD2Y.out).1).trans HD2Y.out
        have HBY2 : Hid (Below W.heap.size W Y2) := HIY.out.b.trans (hbY.mono HIY.out.b.size)
        have HR2 : Hid _ := hr2
        clear hbY cn cs hr2
        gi_wp2
        have hr3 := HR2.out.set (u := .bool true)
        have hD3 : (Y2.setCell ⟨W.heap.size + 1, 0, none⟩ (.bool true)).heap[D]? = some (.deferred (some [])) := (Below.heap_setCell Y2 ⟨W.heap.size + 1, 0, none⟩ _ D (show D ≠ W.heap.size + 1 by have := HRK.out D hD; omega)).trans HDY2.out
        have hD4 : (Y2.setCell ⟨W.heap.size + 1, 0, none⟩ (.bool true)).heap[D2]? = some (.deferred (some [])) := (Below.heap_setCell Y2 ⟨W.heap.size + 1, 0, none⟩ _ D2 (show D2 ≠ W.heap.size + 1 by have := HRK2.out D2 hD2; omega)).trans HD2Y2.out
        have hb3 : Below W.heap.size W (Y2.setCell ⟨W.heap.size + 1, 0, none⟩ (.bool true)) := HBY2.out.setCell (p := ⟨W.heap.size + 1, 0, none⟩) (show W.heap.size ≤ W.heap.size + 1 by omega) _
        have hdd : D < D2 := by omega
        refine ⟨by simp, .inl ⟨_, _, rfl, run_takeDeferred hD4, ?_⟩⟩
        refine ⟨by simp, .inl ⟨_, _, rfl, run_takeDeferred ((World.putObj_heap_other (by omega)).trans hD3), ?_⟩⟩
        refine ⟨_, resB rfl _ _ (W.heap.size + 1) true ?_ rfl, rfl, ?_⟩
        · exact ((hr3.put (by have := HRK2.out D2 hD2; omega) _).put (by have := HRK.out D hD; omega) _).cell
        · have h5 := hb3.trans ((Below.refl _ _).grown (grownBy_putObj' (Y2.setCell ⟨W.heap.size + 1, 0, none⟩ (.bool true)) D2 (.deferred none)) hb3.size (fun r e => by cases e; have := HRK2.out D2 hD2; omega))
          exact h5.trans ((Below.refl _ _).grown (grownBy_putObj' _ D _) h5.size (fun r e => by cases e; have := HRK.out D hD; omega))
end Go.Proofs.YtokcbiafajpmoaaDoor
