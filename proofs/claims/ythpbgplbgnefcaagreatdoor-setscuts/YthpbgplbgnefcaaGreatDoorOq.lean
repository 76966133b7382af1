/-
  What is proved here: the walk of SetsCuts.
-/
import Derived.Test.YthpbgplbgnefcaaGreatDoorTd
import Derived.Test.YthpbgplbgnefcaaGreatDoorKn
namespace Go.Proofs.YthpbgplbgnefcaaGreatDoor
open Go.RowKit Go.Shelf
set_option linter.unusedVariables false
set_option linter.unusedSimpArgs false

theorem dvl {F : Nat} {args : Array Value} {W : World} {D : SD} (k : Calls Tryz.prog F args W fun e w' => ∃ v', e = .returned v' ∧ Dv W.heap.size w' v' D ∧ Below W.heap.size W w') :
    Calls Tryz.prog F args W fun e w' => ∃ x0 p1 m1 k1 p2 m2 k2 x4 x5, e = .returned (.agg #[.bool x0, .slice none 0 0, .slice p1 m1 k1, .slice p2 m2 k2, .int .i64 x4, .int .i64 x5]) ∧ Hid (Dv W.heap.size w' (.agg #[.bool x0, .slice none 0 0, .slice p1 m1 k1, .slice p2 m2 k2, .int .i64 x4, .int .i64 x5]) D) ∧ Below W.heap.size W w' :=
  k.mono fun e w' ⟨v, he, hD, hb⟩ => by
    obtain ⟨x0, p1, m1, k1, p2, m2, k2, x4, x5, rfl, _⟩ := hD.look
    exact ⟨_, _, _, _, _, _, _, _, _, he, hD, hb⟩
theorem lent_look (v : Value) (d : SD) (fr : List Int) (W : World) (h : Dr W v d fr) :
    Calls Tryz.prog 37 #[v] W fun e w' => ∃ x0 ra rn rc a1 n1 c1 a2 n2 c2 x4 x5, e = .returned (.agg #[.bool x0, .slice ra rn rc, .slice a1 n1 c1, .slice a2 n2 c2, .int .i64 x4, .int .i64 x5]) ∧ Hid (Dr w' (.agg #[.bool x0, .slice ra rn rc, .slice a1 n1 c1, .slice a2 n2 c2, .int .i64 x4, .int .i64 x5]) d fr) ∧ Below W.heap.size W w' :=
  (lent_dom v d fr W h).mono fun e w' ⟨v, he, hD, hb⟩ => by
    obtain ⟨x0, ra, rn, rc, a1, n1, c1, a2, n2, c2, x4, x5, rfl, _⟩ := hD.look
    exact ⟨_, _, _, _, _, _, _, _, _, _, _, _, he, hD, hb⟩
theorem one_eq {B B' : Nat} (v u : Value) (D D' : SD) (W : World) (h : Dv B W v D) (ho : Dv B' W u D') (e : D' = D) (hr : RightD D) :
    Calls Tryz.prog 35 #[v, u] W fun e w' => e = .returned (.bool true) ∧ Below W.heap.size W w' := by
  subst e
  have l1 := hr.2.2.1.1
  have l2 := hr.2.2.2.1.1
  exact eqc (eqD_refl _) (one_nil v u _ _ W (h.base (Nat.zero_le _)) (ho.base (Nat.zero_le _)) rfl (by omega) (by omega))
theorem both_right (d o : SD) : RightD (bothD d o) := by
  unfold bothD
  cases h1 : subB (takenD d).lo (meetL (takenD d).up (takenD o).up) <;> cases h2 : subB (takenD o).lo (meetL (takenD d).up (takenD o).up)
  · exact none_right
  · exact none_right
  · exact none_right
  · have hj : ∀ x ∈ joinL (takenD d).lo (takenD o).lo, x ∈ meetL (takenD d).up (takenD o).up := (subB_iff _ _).1 (by rw [sub_join2, h1, h2]; rfl)
    exact tight_right _ _ (join_set (taken_right d).2.2.1 (taken_right o).2.2.1 (meet_set (taken_right d).2.2.2.1 _) hj) (meet_set (taken_right d).2.2.2.1 _) hj
theorem dv_wr {B : Nat} {w : World} {x0 : Bool} {p1 p2 : Option Addr} {m1 k1 m2 k2 : Nat} {x4 x5 : Int} {D : SD} (h : Dv B w (.agg #[.bool x0, .slice none 0 0, .slice p1 m1 k1, .slice p2 m2 k2, .int .i64 x4, .int .i64 x5]) D) (hr : RightD D) :
    Wr2 w B (.slice p1 m1 k1) ∧ Wr2 w B (.slice p2 m2 k2) ∧ m1 ≤ 1000 ∧ m2 ≤ 1000 := by
  have l1 := hr.2.2.1.1
  have l2 := hr.2.2.2.1.1
  obtain ⟨slo, sup, e, e0, o1, o2⟩ := h
  injection e with e
  injection e with e
  injection e with _ e
  injection e with _ e
  injection e with e2 e
  injection e with e3 e
  subst e2 e3
  obtain ⟨_, _, e2⟩ := own_slice o1
  obtain ⟨_, _, e3⟩ := own_slice o2
  injection e2 with _ e2 _
  injection e3 with _ e3 _
  exact ⟨own_wr2 o1, own_wr2 o2, by omega, by omega⟩

set_option maxRecDepth 100000 in
set_option maxHeartbeats 4000000 in
theorem cuts_walk (va vb : Value) (d o : SD) (fa fb : List Int) (x y z : Int) (W : World) (ha : Dr W va d fa) (hb' : Dr W vb o fb) (hM : MaxL W) (hE : ErrV W) (hT : Tens W.heap.size W) :
    Calls Tryz.prog 6 #[va, vb, .int .i64 x, .int .i64 y, .int .i64 z] W fun e w' => e = .returned (.bool true) ∧ Below W.heap.size W w' := by
  have HM : Hid (MaxL W) := hM
  have hM0 := hM.1
  have HE' : Hid (ErrV W) := hE
  have hE0 := hE.1
  have HT : Hid (Tens W.heap.size W) := hT
  have K32 : Hid (∀ X, Below W.heap.size W X → Calls Tryz.prog 32 #[] X fun e w' => e = .returned (.bool true) ∧ Below X.heap.size X w') := fun X hX => known32 X (HM.out.below hX hM0) (HE'.out.below hX (by omega)) (Tens.here HT.out hX)
  obtain ⟨x0a, raa, rna, rca, a1a, n1a, c1a, a2a, n2a, c2a, x4a, x5a, rfl, _⟩ := ha.look
  obtain ⟨x0b, rab, rnb, rcb, a1b, n1b, c1b, a2b, n2b, c2b, x4b, x5b, rfl, _⟩ := hb'.look
  have DA0 : Hid (Dr W (.agg #[.bool x0a, .slice raa rna rca, .slice a1a n1a c1a, .slice a2a n2a c2a, .int .i64 x4a, .int .i64 x5a]) d fa) := ha
  have DB0 : Hid (Dr W (.agg #[.bool x0b, .slice rab rnb rcb, .slice a1b n1b c1b, .slice a2b n2b c2b, .int .i64 x4b, .int .i64 x5b]) o fb) := hb'
  clear ha hb' hM hE hT HM HE' HT hM0 hE0
  obtain ⟨w0, hW0⟩ : ∃ X, ((W.alloc (Obj.cells #[.bool x0a, .slice raa rna rca, .slice a1a n1a c1a, .slice a2a n2a c2a, .int .i64 x4a, .int .i64 x5a] 37)).alloc (Obj.cells #[.bool x0b, .slice rab rnb rcb, .slice a1b n1b c1b, .slice a2b n2b c2b, .int .i64 x4b, .int .i64 x5b] 37)) = X := ⟨_, rfl⟩
  have HW0 : Hid _ := hW0
  have hb0 : Below W.heap.size W w0 := by rw [← hW0]; exact (((Below.refl _ W).alloc (by simp <;> omega) _).alloc (by simp <;> omega) _)
  have HA_0 : Hid (R6 w0 W.heap.size (.bool x0a) (.slice raa rna rca) (.slice a1a n1a c1a) (.slice a2a n2a c2a) (.int .i64 x4a) (.int .i64 x5a)) := by rw [← hW0]; exact ((R6.new _ _ _ _ _ _ _).alloc _)
  have HB_0 : Hid (R6 w0 (W.heap.size + 1) (.bool x0b) (.slice rab rnb rcb) (.slice a1b n1b c1b) (.slice a2b n2b c2b) (.int .i64 x4b) (.int .i64 x5b)) := by rw [← hW0]; exact (R6.new1 _ _ _ _ _ _ _ _)
  clear hW0
  have DA_0 : Hid (Dr w0 (.agg #[.bool x0a, .slice raa rna rca, .slice a1a n1a c1a, .slice a2a n2a c2a, .int .i64 x4a, .int .i64 x5a]) d fa) := DA0.out.below hb0
  have DB_0 : Hid (Dr w0 (.agg #[.bool x0b, .slice rab rnb rcb, .slice a1b n1b c1b, .slice a2b n2b c2b, .int .i64 x4b, .int .i64 x5b]) o fb) := DB0.out.below hb0
  clear DA0 DB0
  go_enter Tryz.func6, Tryz.ntmps6
  go_upto_region 1 with (fail)
  rw [HW0.out]
  clear HW0
  obtain ⟨zA0, zA1, zA2, zA3, zA4, zA5⟩ := HA_0.out.cells
  obtain ⟨zB0, zB1, zB2, zB3, zB4, zB5⟩ := HB_0.out.cells
  go_wp2_with fail
  refine (lent_look _ d fa _ DA_0.out).mono ?_
  rintro e w1 ⟨x0c, rac, rnc, rcc, a1c, n1c, c1c, a2c, n2c, c2c, x4c, x5c, rfl, HDC, hb⟩
  have hb1 : Below W.heap.size W w1 := hb0.trans (hb.mono hb0.size)
  have HA_1 : Hid _ := HA_0.out.below hb
  have HB_1 : Hid _ := HB_0.out.below hb
  have DA_1 : Hid (Dr w1 (.agg #[.bool x0a, .slice raa rna rca, .slice a1a n1a c1a, .slice a2a n2a c2a, .int .i64 x4a, .int .i64 x5a]) d fa) := DA_0.out.below hb
  have DB_1 : Hid (Dr w1 (.agg #[.bool x0b, .slice rab rnb rcb, .slice a1b n1b c1b, .slice a2b n2b c2b, .int .i64 x4b, .int .i64 x5b]) o fb) := DB_0.out.below hb
  have DC_1 : Hid (Dr w1 (.agg #[.bool x0c, .slice rac rnc rcc, .slice a1c n1c c1c, .slice a2c n2c c2c, .int .i64 x4c, .int .i64 x5c]) d fa) := HDC.out
  clear HDC
  clear zA0 zA1 zA2 zA3 zA4 zA5 zB0 zB1 zB2 zB3 zB4 zB5
  clear hb hb0 HA_0 HB_0 DA_0 DB_0
  have hz := below_setRow ((Below.refl w1.heap.size w1).alloc (Nat.le_refl _) (Obj.cells #[.bool false, .slice none 0 0, .slice none 0 0, .slice none 0 0, .int .i64 0, .int .i64 0] 37)) (Nat.le_refl w1.heap.size) #[.bool x0c, .slice rac rnc rcc, .slice a1c n1c c1c, .slice a2c n2c c2c, .int .i64 x4c, .int .i64 x5c]
  have hb2 := hb1.trans (hz.mono hb1.size)
  have HC_2 : Hid _ := (R6.new w1 (.bool false) (.slice none 0 0) (.slice none 0 0) (.slice none 0 0) (.int .i64 0) (.int .i64 0)).set (.bool x0c) (.slice rac rnc rcc) (.slice a1c n1c c1c) (.slice a2c n2c c2c) (.int .i64 x4c) (.int .i64 x5c)
  have HA_2 : Hid _ := HA_1.out.below hz
  have HB_2 : Hid _ := HB_1.out.below hz
  have DA_2 : Hid (Dr ((w1.alloc (Obj.cells #[.bool false, .slice none 0 0, .slice none 0 0, .slice none 0 0, .int .i64 0, .int .i64 0] 37)).setRow w1.heap.size #[.bool x0c, .slice rac rnc rcc, .slice a1c n1c c1c, .slice a2c n2c c2c, .int .i64 x4c, .int .i64 x5c]) (.agg #[.bool x0a, .slice raa rna rca, .slice a1a n1a c1a, .slice a2a n2a c2a, .int .i64 x4a, .int .i64 x5a]) d fa) := DA_1.out.below hz
  have DB_2 : Hid (Dr ((w1.alloc (Obj.cells #[.bool false, .slice none 0 0, .slice none 0 0, .slice none 0 0, .int .i64 0, .int .i64 0] 37)).setRow w1.heap.size #[.bool x0c, .slice rac rnc rcc, .slice a1c n1c c1c, .slice a2c n2c c2c, .int .i64 x4c, .int .i64 x5c]) (.agg #[.bool x0b, .slice rab rnb rcb, .slice a1b n1b c1b, .slice a2b n2b c2b, .int .i64 x4b, .int .i64 x5b]) o fb) := DB_1.out.below hz
  have DC_2 : Hid (Dr ((w1.alloc (Obj.cells #[.bool false, .slice none 0 0, .slice none 0 0, .slice none 0 0, .int .i64 0, .int .i64 0] 37)).setRow w1.heap.size #[.bool x0c, .slice rac rnc rcc, .slice a1c n1c c1c, .slice a2c n2c c2c, .int .i64 x4c, .int .i64 x5c]) (.agg #[.bool x0c, .slice rac rnc rcc, .slice a1c n1c c1c, .slice a2c n2c c2c, .int .i64 x4c, .int .i64 x5c]) d fa) := DC_1.out.below hz
  clear hz HA_1 HB_1 DA_1 DB_1 DC_1 hb1
  go_upto_region 2 with (with_reducible refine st37 rfl (.tmp 11) (.tmp 18) rfl w1.heap.size _ _ _ _ _ _ (by with_unfolding_all rfl) (by with_unfolding_all rfl) (R6.new w1 _ _ _ _ _ _) (six_dom _ _ _ _ _ _ _ _ _ _ _ _) ?_)
  simp only [Act.put]
  generalize (w1.alloc (Obj.cells #[.bool false, .slice none 0 0, .slice none 0 0, .slice none 0 0, .int .i64 0, .int .i64 0] 37)).setRow w1.heap.size #[.bool x0c, .slice rac rnc rcc, .slice a1c n1c c1c, .slice a2c n2c c2c, .int .i64 x4c, .int .i64 x5c] = w2 at hb2 HA_2 HB_2 HC_2 DA_2 DB_2 DC_2 ⊢
  generalize w1.heap.size = GC at HC_2 ⊢
  obtain ⟨zA0, zA1, zA2, zA3, zA4, zA5⟩ := HA_2.out.cells
  obtain ⟨zB0, zB1, zB2, zB3, zB4, zB5⟩ := HB_2.out.cells
  obtain ⟨zC0, zC1, zC2, zC3, zC4, zC5⟩ := HC_2.out.cells
  go_wp2_with fail
  refine (lent_look _ o fb _ DB_2.out).mono ?_
  rintro e w3 ⟨x0e, rae, rne, rce, a1e, n1e, c1e, a2e, n2e, c2e, x4e, x5e, rfl, HDE, hb⟩
  have hb3 : Below W.heap.size W w3 := hb2.trans (hb.mono hb2.size)
  have HA_3 : Hid _ := HA_2.out.below hb
  have HB_3 : Hid _ := HB_2.out.below hb
  have HC_3 : Hid _ := HC_2.out.below hb
  have DA_3 : Hid (Dr w3 (.agg #[.bool x0a, .slice raa rna rca, .slice a1a n1a c1a, .slice a2a n2a c2a, .int .i64 x4a, .int .i64 x5a]) d fa) := DA_2.out.below hb
  have DB_3 : Hid (Dr w3 (.agg #[.bool x0b, .slice rab rnb rcb, .slice a1b n1b c1b, .slice a2b n2b c2b, .int .i64 x4b, .int .i64 x5b]) o fb) := DB_2.out.below hb
  have DC_3 : Hid (Dr w3 (.agg #[.bool x0c, .slice rac rnc rcc, .slice a1c n1c c1c, .slice a2c n2c c2c, .int .i64 x4c, .int .i64 x5c]) d fa) := DC_2.out.below hb
  have DE_3 : Hid (Dr w3 (.agg #[.bool x0e, .slice rae rne rce, .slice a1e n1e c1e, .slice a2e n2e c2e, .int .i64 x4e, .int .i64 x5e]) o fb) := HDE.out
  clear HDE
  clear zA0 zA1 zA2 zA3 zA4 zA5 zB0 zB1 zB2 zB3 zB4 zB5 zC0 zC1 zC2 zC3 zC4 zC5
  clear hb hb2 HA_2 HB_2 HC_2 DA_2 DB_2 DC_2
  have hz := below_setRow ((Below.refl w3.heap.size w3).alloc (Nat.le_refl _) (Obj.cells #[.bool false, .slice none 0 0, .slice none 0 0, .slice none 0 0, .int .i64 0, .int .i64 0] 37)) (Nat.le_refl w3.heap.size) #[.bool x0e, .slice rae rne rce, .slice a1e n1e c1e, .slice a2e n2e c2e, .int .i64 x4e, .int .i64 x5e]
  have hb4 := hb3.trans (hz.mono hb3.size)
  have HE_4 : Hid _ := (R6.new w3 (.bool false) (.slice none 0 0) (.slice none 0 0) (.slice none 0 0) (.int .i64 0) (.int .i64 0)).set (.bool x0e) (.slice rae rne rce) (.slice a1e n1e c1e) (.slice a2e n2e c2e) (.int .i64 x4e) (.int .i64 x5e)
  have HA_4 : Hid _ := HA_3.out.below hz
  have HB_4 : Hid _ := HB_3.out.below hz
  have HC_4 : Hid _ := HC_3.out.below hz
  have DA_4 : Hid (Dr ((w3.alloc (Obj.cells #[.bool false, .slice none 0 0, .slice none 0 0, .slice none 0 0, .int .i64 0, .int .i64 0] 37)).setRow w3.heap.size #[.bool x0e, .slice rae rne rce, .slice a1e n1e c1e, .slice a2e n2e c2e, .int .i64 x4e, .int .i64 x5e]) (.agg #[.bool x0a, .slice raa rna rca, .slice a1a n1a c1a, .slice a2a n2a c2a, .int .i64 x4a, .int .i64 x5a]) d fa) := DA_3.out.below hz
  have DB_4 : Hid (Dr ((w3.alloc (Obj.cells #[.bool false, .slice none 0 0, .slice none 0 0, .slice none 0 0, .int .i64 0, .int .i64 0] 37)).setRow w3.heap.size #[.bool x0e, .slice rae rne rce, .slice a1e n1e c1e, .slice a2e n2e c2e, .int .i64 x4e, .int .i64 x5e]) (.agg #[.bool x0b, .slice rab rnb rcb, .slice a1b n1b c1b, .slice a2b n2b c2b, .int .i64 x4b, .int .i64 x5b]) o fb) := DB_3.out.below hz
  have DC_4 : Hid (Dr ((w3.alloc (Obj.cells #[.bool false, .slice none 0 0, .slice none 0 0, .slice none 0 0, .int .i64 0, .int .i64 0] 37)).setRow w3.heap.size #[.bool x0e, .slice rae rne rce, .slice a1e n1e c1e, .slice a2e n2e c2e, .int .i64 x4e, .int .i64 x5e]) (.agg #[.bool x0c, .slice rac rnc rcc, .slice a1c n1c c1c, .slice a2c n2c c2c, .int .i64 x4c, .int .i64 x5c]) d fa) := DC_3.out.below hz
  have DE_4 : Hid (Dr ((w3.alloc (Obj.cells #[.bool false, .slice none 0 0, .slice none 0 0, .slice none 0 0, .int .i64 0, .int .i64 0] 37)).setRow w3.heap.size #[.bool x0e, .slice rae rne rce, .slice a1e n1e c1e, .slice a2e n2e c2e, .int .i64 x4e, .int .i64 x5e]) (.agg #[.bool x0e, .slice rae rne rce, .slice a1e n1e c1e, .slice a2e n2e c2e, .int .i64 x4e, .int .i64 x5e]) o fb) := DE_3.out.below hz
  clear hz HA_3 HB_3 HC_3 DA_3 DB_3 DC_3 DE_3 hb3
  go_upto_region 3 with (with_reducible refine st37 rfl (.tmp 12) (.tmp 20) rfl w3.heap.size _ _ _ _ _ _ (by with_unfolding_all rfl) (by with_unfolding_all rfl) (R6.new w3 _ _ _ _ _ _) (six_dom _ _ _ _ _ _ _ _ _ _ _ _) ?_)
  simp only [Act.put]
  generalize (w3.alloc (Obj.cells #[.bool false, .slice none 0 0, .slice none 0 0, .slice none 0 0, .int .i64 0, .int .i64 0] 37)).setRow w3.heap.size #[.bool x0e, .slice rae rne rce, .slice a1e n1e c1e, .slice a2e n2e c2e, .int .i64 x4e, .int .i64 x5e] = w4 at hb4 HA_4 HB_4 HC_4 HE_4 DA_4 DB_4 DC_4 DE_4 ⊢
  generalize w3.heap.size = GE at HE_4 ⊢
  have HBW : Hid (Below W.heap.size W w4) := hb4
  clear hb4
  have hb4 : Below w4.heap.size w4 w4 := Below.refl _ _
  have DAB : Hid (Dr w4 (.agg #[.bool x0a, .slice raa rna rca, .slice a1a n1a c1a, .slice a2a n2a c2a, .int .i64 x4a, .int .i64 x5a]) d fa) := DA_4.out
  have DBB : Hid (Dr w4 (.agg #[.bool x0b, .slice rab rnb rcb, .slice a1b n1b c1b, .slice a2b n2b c2b, .int .i64 x4b, .int .i64 x5b]) o fb) := DB_4.out
  have DCB : Hid (Dr w4 (.agg #[.bool x0c, .slice rac rnc rcc, .slice a1c n1c c1c, .slice a2c n2c c2c, .int .i64 x4c, .int .i64 x5c]) d fa) := DC_4.out
  have DEB : Hid (Dr w4 (.agg #[.bool x0e, .slice rae rne rce, .slice a1e n1e c1e, .slice a2e n2e c2e, .int .i64 x4e, .int .i64 x5e]) o fb) := DE_4.out
  have HAB : Hid _ := HA_4.out
  have HBB : Hid _ := HB_4.out
  have HCB : Hid _ := HC_4.out
  have HEB : Hid _ := HE_4.out
  obtain ⟨zA0, zA1, zA2, zA3, zA4, zA5⟩ := HA_4.out.cells
  obtain ⟨zB0, zB1, zB2, zB3, zB4, zB5⟩ := HB_4.out.cells
  obtain ⟨zC0, zC1, zC2, zC3, zC4, zC5⟩ := HC_4.out.cells
  obtain ⟨zE0, zE1, zE2, zE3, zE4, zE5⟩ := HE_4.out.cells
  go_wp2_with fail
  refine (dvl (must_any _ d x _ DC_4.out.di)).mono ?_
  rintro e w5 ⟨g0m, q1m, h1m, j1m, q2m, h2m, j2m, g4m, g5m, rfl, HV, hb⟩
  have hb5 : Below w4.heap.size w4 w5 := hb4.trans (hb.mono hb4.size)
  have HA_5 : Hid _ := HA_4.out.below hb
  have HB_5 : Hid _ := HB_4.out.below hb
  have HC_5 : Hid _ := HC_4.out.below hb
  have HE_5 : Hid _ := HE_4.out.below hb
  have DA_5 : Hid (Dr w5 (.agg #[.bool x0a, .slice raa rna rca, .slice a1a n1a c1a, .slice a2a n2a c2a, .int .i64 x4a, .int .i64 x5a]) d fa) := DA_4.out.below hb
  have DB_5 : Hid (Dr w5 (.agg #[.bool x0b, .slice rab rnb rcb, .slice a1b n1b c1b, .slice a2b n2b c2b, .int .i64 x4b, .int .i64 x5b]) o fb) := DB_4.out.below hb
  have DC_5 : Hid (Dr w5 (.agg #[.bool x0c, .slice rac rnc rcc, .slice a1c n1c c1c, .slice a2c n2c c2c, .int .i64 x4c, .int .i64 x5c]) d fa) := DC_4.out.below hb
  have DE_5 : Hid (Dr w5 (.agg #[.bool x0e, .slice rae rne rce, .slice a1e n1e c1e, .slice a2e n2e c2e, .int .i64 x4e, .int .i64 x5e]) o fb) := DE_4.out.below hb
  have DM_5 : Hid (Dv w4.heap.size w5 (.agg #[.bool g0m, .slice none 0 0, .slice q1m h1m j1m, .slice q2m h2m j2m, .int .i64 g4m, .int .i64 g5m]) (mustD d x)) := HV.out.base hb4.size
  clear HV
  clear zA0 zA1 zA2 zA3 zA4 zA5 zB0 zB1 zB2 zB3 zB4 zB5 zC0 zC1 zC2 zC3 zC4 zC5 zE0 zE1 zE2 zE3 zE4 zE5
  clear hb hb4 HA_4 HB_4 HC_4 HE_4 DA_4 DB_4 DC_4 DE_4
  have hz := below_setRow ((Below.refl w5.heap.size w5).alloc (Nat.le_refl _) (Obj.cells #[.bool false, .slice none 0 0, .slice none 0 0, .slice none 0 0, .int .i64 0, .int .i64 0] 37)) (Nat.le_refl w5.heap.size) #[.bool g0m, .slice none 0 0, .slice q1m h1m j1m, .slice q2m h2m j2m, .int .i64 g4m, .int .i64 g5m]
  have hb6 := hb5.trans (hz.mono hb5.size)
  have HM_6 : Hid _ := (R6.new w5 (.bool false) (.slice none 0 0) (.slice none 0 0) (.slice none 0 0) (.int .i64 0) (.int .i64 0)).set (.bool g0m) (.slice none 0 0) (.slice q1m h1m j1m) (.slice q2m h2m j2m) (.int .i64 g4m) (.int .i64 g5m)
  have HA_6 : Hid _ := HA_5.out.below hz
  have HB_6 : Hid _ := HB_5.out.below hz
  have HC_6 : Hid _ := HC_5.out.below hz
  have HE_6 : Hid _ := HE_5.out.below hz
  have DA_6 : Hid (Dr ((w5.alloc (Obj.cells #[.bool false, .slice none 0 0, .slice none 0 0, .slice none 0 0, .int .i64 0, .int .i64 0] 37)).setRow w5.heap.size #[.bool g0m, .slice none 0 0, .slice q1m h1m j1m, .slice q2m h2m j2m, .int .i64 g4m, .int .i64 g5m]) (.agg #[.bool x0a, .slice raa rna rca, .slice a1a n1a c1a, .slice a2a n2a c2a, .int .i64 x4a, .int .i64 x5a]) d fa) := DA_5.out.below hz
  have DB_6 : Hid (Dr ((w5.alloc (Obj.cells #[.bool false, .slice none 0 0, .slice none 0 0, .slice none 0 0, .int .i64 0, .int .i64 0] 37)).setRow w5.heap.size #[.bool g0m, .slice none 0 0, .slice q1m h1m j1m, .slice q2m h2m j2m, .int .i64 g4m, .int .i64 g5m]) (.agg #[.bool x0b, .slice rab rnb rcb, .slice a1b n1b c1b, .slice a2b n2b c2b, .int .i64 x4b, .int .i64 x5b]) o fb) := DB_5.out.below hz
  have DC_6 : Hid (Dr ((w5.alloc (Obj.cells #[.bool false, .slice none 0 0, .slice none 0 0, .slice none 0 0, .int .i64 0, .int .i64 0] 37)).setRow w5.heap.size #[.bool g0m, .slice none 0 0, .slice q1m h1m j1m, .slice q2m h2m j2m, .int .i64 g4m, .int .i64 g5m]) (.agg #[.bool x0c, .slice rac rnc rcc, .slice a1c n1c c1c, .slice a2c n2c c2c, .int .i64 x4c, .int .i64 x5c]) d fa) := DC_5.out.below hz
  have DE_6 : Hid (Dr ((w5.alloc (Obj.cells #[.bool false, .slice none 0 0, .slice none 0 0, .slice none 0 0, .int .i64 0, .int .i64 0] 37)).setRow w5.heap.size #[.bool g0m, .slice none 0 0, .slice q1m h1m j1m, .slice q2m h2m j2m, .int .i64 g4m, .int .i64 g5m]) (.agg #[.bool x0e, .slice rae rne rce, .slice a1e n1e c1e, .slice a2e n2e c2e, .int .i64 x4e, .int .i64 x5e]) o fb) := DE_5.out.below hz
  have DM_6 : Hid (Dv w4.heap.size ((w5.alloc (Obj.cells #[.bool false, .slice none 0 0, .slice none 0 0, .slice none 0 0, .int .i64 0, .int .i64 0] 37)).setRow w5.heap.size #[.bool g0m, .slice none 0 0, .slice q1m h1m j1m, .slice q2m h2m j2m, .int .i64 g4m, .int .i64 g5m]) (.agg #[.bool g0m, .slice none 0 0, .slice q1m h1m j1m, .slice q2m h2m j2m, .int .i64 g4m, .int .i64 g5m]) (mustD d x)) := DM_5.out.below hz
  clear hz HA_5 HB_5 HC_5 HE_5 DA_5 DB_5 DC_5 DE_5 DM_5 hb5
  go_upto_region 4 with (with_reducible refine st37 rfl (.tmp 13) (.tmp 23) rfl w5.heap.size _ _ _ _ _ _ (by with_unfolding_all rfl) (by with_unfolding_all rfl) (R6.new w5 _ _ _ _ _ _) (six_dom _ _ _ _ _ _ _ _ _ _ _ _) ?_)
  simp only [Act.put]
  generalize (w5.alloc (Obj.cells #[.bool false, .slice none 0 0, .slice none 0 0, .slice none 0 0, .int .i64 0, .int .i64 0] 37)).setRow w5.heap.size #[.bool g0m, .slice none 0 0, .slice q1m h1m j1m, .slice q2m h2m j2m, .int .i64 g4m, .int .i64 g5m] = w6 at hb6 HA_6 HB_6 HC_6 HE_6 HM_6 DA_6 DB_6 DC_6 DE_6 DM_6 ⊢
  generalize w5.heap.size = GM at HM_6 ⊢
  obtain ⟨zA0, zA1, zA2, zA3, zA4, zA5⟩ := HA_6.out.cells
  obtain ⟨zB0, zB1, zB2, zB3, zB4, zB5⟩ := HB_6.out.cells
  obtain ⟨zC0, zC1, zC2, zC3, zC4, zC5⟩ := HC_6.out.cells
  obtain ⟨zE0, zE1, zE2, zE3, zE4, zE5⟩ := HE_6.out.cells
  obtain ⟨zM0, zM1, zM2, zM3, zM4, zM5⟩ := HM_6.out.cells
  go_wp2_with fail
  refine (dvl (not_any _ d x _ DC_6.out.di)).mono ?_
  rintro e w7 ⟨g0n, q1n, h1n, j1n, q2n, h2n, j2n, g4n, g5n, rfl, HV, hb⟩
  have hb7 : Below w4.heap.size w4 w7 := hb6.trans (hb.mono hb6.size)
  have HA_7 : Hid _ := HA_6.out.below hb
  have HB_7 : Hid _ := HB_6.out.below hb
  have HC_7 : Hid _ := HC_6.out.below hb
  have HE_7 : Hid _ := HE_6.out.below hb
  have HM_7 : Hid _ := HM_6.out.below hb
  have DA_7 : Hid (Dr w7 (.agg #[.bool x0a, .slice raa rna rca, .slice a1a n1a c1a, .slice a2a n2a c2a, .int .i64 x4a, .int .i64 x5a]) d fa) := DA_6.out.below hb
  have DB_7 : Hid (Dr w7 (.agg #[.bool x0b, .slice rab rnb rcb, .slice a1b n1b c1b, .slice a2b n2b c2b, .int .i64 x4b, .int .i64 x5b]) o fb) := DB_6.out.below hb
  have DC_7 : Hid (Dr w7 (.agg #[.bool x0c, .slice rac rnc rcc, .slice a1c n1c c1c, .slice a2c n2c c2c, .int .i64 x4c, .int .i64 x5c]) d fa) := DC_6.out.below hb
  have DE_7 : Hid (Dr w7 (.agg #[.bool x0e, .slice rae rne rce, .slice a1e n1e c1e, .slice a2e n2e c2e, .int .i64 x4e, .int .i64 x5e]) o fb) := DE_6.out.below hb
  have DM_7 : Hid (Dv w4.heap.size w7 (.agg #[.bool g0m, .slice none 0 0, .slice q1m h1m j1m, .slice q2m h2m j2m, .int .i64 g4m, .int .i64 g5m]) (mustD d x)) := DM_6.out.below hb
  have DN_7 : Hid (Dv w4.heap.size w7 (.agg #[.bool g0n, .slice none 0 0, .slice q1n h1n j1n, .slice q2n h2n j2n, .int .i64 g4n, .int .i64 g5n]) (notD d x)) := HV.out.base hb6.size
  clear HV
  clear zA0 zA1 zA2 zA3 zA4 zA5 zB0 zB1 zB2 zB3 zB4 zB5 zC0 zC1 zC2 zC3 zC4 zC5 zE0 zE1 zE2 zE3 zE4 zE5 zM0 zM1 zM2 zM3 zM4 zM5
  clear hb hb6 HA_6 HB_6 HC_6 HE_6 HM_6 DA_6 DB_6 DC_6 DE_6 DM_6
  have hz := below_setRow ((Below.refl w7.heap.size w7).alloc (Nat.le_refl _) (Obj.cells #[.bool false, .slice none 0 0, .slice none 0 0, .slice none 0 0, .int .i64 0, .int .i64 0] 37)) (Nat.le_refl w7.heap.size) #[.bool g0n, .slice none 0 0, .slice q1n h1n j1n, .slice q2n h2n j2n, .int .i64 g4n, .int .i64 g5n]
  have hb8 := hb7.trans (hz.mono hb7.size)
  have HN_8 : Hid _ := (R6.new w7 (.bool false) (.slice none 0 0) (.slice none 0 0) (.slice none 0 0) (.int .i64 0) (.int .i64 0)).set (.bool g0n) (.slice none 0 0) (.slice q1n h1n j1n) (.slice q2n h2n j2n) (.int .i64 g4n) (.int .i64 g5n)
  have HA_8 : Hid _ := HA_7.out.below hz
  have HB_8 : Hid _ := HB_7.out.below hz
  have HC_8 : Hid _ := HC_7.out.below hz
  have HE_8 : Hid _ := HE_7.out.below hz
  have HM_8 : Hid _ := HM_7.out.below hz
  have DA_8 : Hid (Dr ((w7.alloc (Obj.cells #[.bool false, .slice none 0 0, .slice none 0 0, .slice none 0 0, .int .i64 0, .int .i64 0] 37)).setRow w7.heap.size #[.bool g0n, .slice none 0 0, .slice q1n h1n j1n, .slice q2n h2n j2n, .int .i64 g4n, .int .i64 g5n]) (.agg #[.bool x0a, .slice raa rna rca, .slice a1a n1a c1a, .slice a2a n2a c2a, .int .i64 x4a, .int .i64 x5a]) d fa) := DA_7.out.below hz
  have DB_8 : Hid (Dr ((w7.alloc (Obj.cells #[.bool false, .slice none 0 0, .slice none 0 0, .slice none 0 0, .int .i64 0, .int .i64 0] 37)).setRow w7.heap.size #[.bool g0n, .slice none 0 0, .slice q1n h1n j1n, .slice q2n h2n j2n, .int .i64 g4n, .int .i64 g5n]) (.agg #[.bool x0b, .slice rab rnb rcb, .slice a1b n1b c1b, .slice a2b n2b c2b, .int .i64 x4b, .int .i64 x5b]) o fb) := DB_7.out.below hz
  have DC_8 : Hid (Dr ((w7.alloc (Obj.cells #[.bool false, .slice none 0 0, .slice none 0 0, .slice none 0 0, .int .i64 0, .int .i64 0] 37)).setRow w7.heap.size #[.bool g0n, .slice none 0 0, .slice q1n h1n j1n, .slice q2n h2n j2n, .int .i64 g4n, .int .i64 g5n]) (.agg #[.bool x0c, .slice rac rnc rcc, .slice a1c n1c c1c, .slice a2c n2c c2c, .int .i64 x4c, .int .i64 x5c]) d fa) := DC_7.out.below hz
  have DE_8 : Hid (Dr ((w7.alloc (Obj.cells #[.bool false, .slice none 0 0, .slice none 0 0, .slice none 0 0, .int .i64 0, .int .i64 0] 37)).setRow w7.heap.size #[.bool g0n, .slice none 0 0, .slice q1n h1n j1n, .slice q2n h2n j2n, .int .i64 g4n, .int .i64 g5n]) (.agg #[.bool x0e, .slice rae rne rce, .slice a1e n1e c1e, .slice a2e n2e c2e, .int .i64 x4e, .int .i64 x5e]) o fb) := DE_7.out.below hz
  have DM_8 : Hid (Dv w4.heap.size ((w7.alloc (Obj.cells #[.bool false, .slice none 0 0, .slice none 0 0, .slice none 0 0, .int .i64 0, .int .i64 0] 37)).setRow w7.heap.size #[.bool g0n, .slice none 0 0, .slice q1n h1n j1n, .slice q2n h2n j2n, .int .i64 g4n, .int .i64 g5n]) (.agg #[.bool g0m, .slice none 0 0, .slice q1m h1m j1m, .slice q2m h2m j2m, .int .i64 g4m, .int .i64 g5m]) (mustD d x)) := DM_7.out.below hz
  have DN_8 : Hid (Dv w4.heap.size ((w7.alloc (Obj.cells #[.bool false, .slice none 0 0, .slice none 0 0, .slice none 0 0, .int .i64 0, .int .i64 0] 37)).setRow w7.heap.size #[.bool g0n, .slice none 0 0, .slice q1n h1n j1n, .slice q2n h2n j2n, .int .i64 g4n, .int .i64 g5n]) (.agg #[.bool g0n, .slice none 0 0, .slice q1n h1n j1n, .slice q2n h2n j2n, .int .i64 g4n, .int .i64 g5n]) (notD d x)) := DN_7.out.below hz
  clear hz HA_7 HB_7 HC_7 HE_7 HM_7 DA_7 DB_7 DC_7 DE_7 DM_7 DN_7 hb7
  go_upto_region 5 with (with_reducible refine st37 rfl (.tmp 14) (.tmp 26) rfl w7.heap.size _ _ _ _ _ _ (by with_unfolding_all rfl) (by with_unfolding_all rfl) (R6.new w7 _ _ _ _ _ _) (six_dom _ _ _ _ _ _ _ _ _ _ _ _) ?_)
  simp only [Act.put]
  generalize (w7.alloc (Obj.cells #[.bool false, .slice none 0 0, .slice none 0 0, .slice none 0 0, .int .i64 0, .int .i64 0] 37)).setRow w7.heap.size #[.bool g0n, .slice none 0 0, .slice q1n h1n j1n, .slice q2n h2n j2n, .int .i64 g4n, .int .i64 g5n] = w8 at hb8 HA_8 HB_8 HC_8 HE_8 HM_8 HN_8 DA_8 DB_8 DC_8 DE_8 DM_8 DN_8 ⊢
  generalize w7.heap.size = GN at HN_8 ⊢
  obtain ⟨zA0, zA1, zA2, zA3, zA4, zA5⟩ := HA_8.out.cells
  obtain ⟨zB0, zB1, zB2, zB3, zB4, zB5⟩ := HB_8.out.cells
  obtain ⟨zC0, zC1, zC2, zC3, zC4, zC5⟩ := HC_8.out.cells
  obtain ⟨zE0, zE1, zE2, zE3, zE4, zE5⟩ := HE_8.out.cells
  obtain ⟨zM0, zM1, zM2, zM3, zM4, zM5⟩ := HM_8.out.cells
  obtain ⟨zN0, zN1, zN2, zN3, zN4, zN5⟩ := HN_8.out.cells
  go_wp2_with fail
  refine (dvl (card_any _ d y z _ DC_8.out.di)).mono ?_
  rintro e w9 ⟨g0k, q1k, h1k, j1k, q2k, h2k, j2k, g4k, g5k, rfl, HV, hb⟩
  have hb9 : Below w4.heap.size w4 w9 := hb8.trans (hb.mono hb8.size)
  have HA_9 : Hid _ := HA_8.out.below hb
  have HB_9 : Hid _ := HB_8.out.below hb
  have HC_9 : Hid _ := HC_8.out.below hb
  have HE_9 : Hid _ := HE_8.out.below hb
  have HM_9 : Hid _ := HM_8.out.below hb
  have HN_9 : Hid _ := HN_8.out.below hb
  have DA_9 : Hid (Dr w9 (.agg #[.bool x0a, .slice raa rna rca, .slice a1a n1a c1a, .slice a2a n2a c2a, .int .i64 x4a, .int .i64 x5a]) d fa) := DA_8.out.below hb
  have DB_9 : Hid (Dr w9 (.agg #[.bool x0b, .slice rab rnb rcb, .slice a1b n1b c1b, .slice a2b n2b c2b, .int .i64 x4b, .int .i64 x5b]) o fb) := DB_8.out.below hb
  have DC_9 : Hid (Dr w9 (.agg #[.bool x0c, .slice rac rnc rcc, .slice a1c n1c c1c, .slice a2c n2c c2c, .int .i64 x4c, .int .i64 x5c]) d fa) := DC_8.out.below hb
  have DE_9 : Hid (Dr w9 (.agg #[.bool x0e, .slice rae rne rce, .slice a1e n1e c1e, .slice a2e n2e c2e, .int .i64 x4e, .int .i64 x5e]) o fb) := DE_8.out.below hb
  have DM_9 : Hid (Dv w4.heap.size w9 (.agg #[.bool g0m, .slice none 0 0, .slice q1m h1m j1m, .slice q2m h2m j2m, .int .i64 g4m, .int .i64 g5m]) (mustD d x)) := DM_8.out.below hb
  have DN_9 : Hid (Dv w4.heap.size w9 (.agg #[.bool g0n, .slice none 0 0, .slice q1n h1n j1n, .slice q2n h2n j2n, .int .i64 g4n, .int .i64 g5n]) (notD d x)) := DN_8.out.below hb
  have DK_9 : Hid (Dv w4.heap.size w9 (.agg #[.bool g0k, .slice none 0 0, .slice q1k h1k j1k, .slice q2k h2k j2k, .int .i64 g4k, .int .i64 g5k]) (cardD d y z)) := HV.out.base hb8.size
  clear HV
  clear zA0 zA1 zA2 zA3 zA4 zA5 zB0 zB1 zB2 zB3 zB4 zB5 zC0 zC1 zC2 zC3 zC4 zC5 zE0 zE1 zE2 zE3 zE4 zE5 zM0 zM1 zM2 zM3 zM4 zM5 zN0 zN1 zN2 zN3 zN4 zN5
  clear hb hb8 HA_8 HB_8 HC_8 HE_8 HM_8 HN_8 DA_8 DB_8 DC_8 DE_8 DM_8 DN_8
  have hz := below_setRow ((Below.refl w9.heap.size w9).alloc (Nat.le_refl _) (Obj.cells #[.bool false, .slice none 0 0, .slice none 0 0, .slice none 0 0, .int .i64 0, .int .i64 0] 37)) (Nat.le_refl w9.heap.size) #[.bool g0k, .slice none 0 0, .slice q1k h1k j1k, .slice q2k h2k j2k, .int .i64 g4k, .int .i64 g5k]
  have hb10 := hb9.trans (hz.mono hb9.size)
  have HK_10 : Hid _ := (R6.new w9 (.bool false) (.slice none 0 0) (.slice none 0 0) (.slice none 0 0) (.int .i64 0) (.int .i64 0)).set (.bool g0k) (.slice none 0 0) (.slice q1k h1k j1k) (.slice q2k h2k j2k) (.int .i64 g4k) (.int .i64 g5k)
  have HA_10 : Hid _ := HA_9.out.below hz
  have HB_10 : Hid _ := HB_9.out.below hz
  have HC_10 : Hid _ := HC_9.out.below hz
  have HE_10 : Hid _ := HE_9.out.below hz
  have HM_10 : Hid _ := HM_9.out.below hz
  have HN_10 : Hid _ := HN_9.out.below hz
  have DA_10 : Hid (Dr ((w9.alloc (Obj.cells #[.bool false, .slice none 0 0, .slice none 0 0, .slice none 0 0, .int .i64 0, .int .i64 0] 37)).setRow w9.heap.size #[.bool g0k, .slice none 0 0, .slice q1k h1k j1k, .slice q2k h2k j2k, .int .i64 g4k, .int .i64 g5k]) (.agg #[.bool x0a, .slice raa rna rca, .slice a1a n1a c1a, .slice a2a n2a c2a, .int .i64 x4a, .int .i64 x5a]) d fa) := DA_9.out.below hz
  have DB_10 : Hid (Dr ((w9.alloc (Obj.cells #[.bool false, .slice none 0 0, .slice none 0 0, .slice none 0 0, .int .i64 0, .int .i64 0] 37)).setRow w9.heap.size #[.bool g0k, .slice none 0 0, .slice q1k h1k j1k, .slice q2k h2k j2k, .int .i64 g4k, .int .i64 g5k]) (.agg #[.bool x0b, .slice rab rnb rcb, .slice a1b n1b c1b, .slice a2b n2b c2b, .int .i64 x4b, .int .i64 x5b]) o fb) := DB_9.out.below hz
  have DC_10 : Hid (Dr ((w9.alloc (Obj.cells #[.bool false, .slice none 0 0, .slice none 0 0, .slice none 0 0, .int .i64 0, .int .i64 0] 37)).setRow w9.heap.size #[.bool g0k, .slice none 0 0, .slice q1k h1k j1k, .slice q2k h2k j2k, .int .i64 g4k, .int .i64 g5k]) (.agg #[.bool x0c, .slice rac rnc rcc, .slice a1c n1c c1c, .slice a2c n2c c2c, .int .i64 x4c, .int .i64 x5c]) d fa) := DC_9.out.below hz
  have DE_10 : Hid (Dr ((w9.alloc (Obj.cells #[.bool false, .slice none 0 0, .slice none 0 0, .slice none 0 0, .int .i64 0, .int .i64 0] 37)).setRow w9.heap.size #[.bool g0k, .slice none 0 0, .slice q1k h1k j1k, .slice q2k h2k j2k, .int .i64 g4k, .int .i64 g5k]) (.agg #[.bool x0e, .slice rae rne rce, .slice a1e n1e c1e, .slice a2e n2e c2e, .int .i64 x4e, .int .i64 x5e]) o fb) := DE_9.out.below hz
  have DM_10 : Hid (Dv w4.heap.size ((w9.alloc (Obj.cells #[.bool false, .slice none 0 0, .slice none 0 0, .slice none 0 0, .int .i64 0, .int .i64 0] 37)).setRow w9.heap.size #[.bool g0k, .slice none 0 0, .slice q1k h1k j1k, .slice q2k h2k j2k, .int .i64 g4k, .int .i64 g5k]) (.agg #[.bool g0m, .slice none 0 0, .slice q1m h1m j1m, .slice q2m h2m j2m, .int .i64 g4m, .int .i64 g5m]) (mustD d x)) := DM_9.out.below hz
  have DN_10 : Hid (Dv w4.heap.size ((w9.alloc (Obj.cells #[.bool false, .slice none 0 0, .slice none 0 0, .slice none 0 0, .int .i64 0, .int .i64 0] 37)).setRow w9.heap.size #[.bool g0k, .slice none 0 0, .slice q1k h1k j1k, .slice q2k h2k j2k, .int .i64 g4k, .int .i64 g5k]) (.agg #[.bool g0n, .slice none 0 0, .slice q1n h1n j1n, .slice q2n h2n j2n, .int .i64 g4n, .int .i64 g5n]) (notD d x)) := DN_9.out.below hz
  have DK_10 : Hid (Dv w4.heap.size ((w9.alloc (Obj.cells #[.bool false, .slice none 0 0, .slice none 0 0, .slice none 0 0, .int .i64 0, .int .i64 0] 37)).setRow w9.heap.size #[.bool g0k, .slice none 0 0, .slice q1k h1k j1k, .slice q2k h2k j2k, .int .i64 g4k, .int .i64 g5k]) (.agg #[.bool g0k, .slice none 0 0, .slice q1k h1k j1k, .slice q2k h2k j2k, .int .i64 g4k, .int .i64 g5k]) (cardD d y z)) := DK_9.out.below hz
  clear hz HA_9 HB_9 HC_9 HE_9 HM_9 HN_9 DA_9 DB_9 DC_9 DE_9 DM_9 DN_9 DK_9 hb9
  go_upto_region 6 with (with_reducible refine st37 rfl (.tmp 15) (.tmp 30) rfl w9.heap.size _ _ _ _ _ _ (by with_unfolding_all rfl) (by with_unfolding_all rfl) (R6.new w9 _ _ _ _ _ _) (six_dom _ _ _ _ _ _ _ _ _ _ _ _) ?_)
  simp only [Act.put]
  generalize (w9.alloc (Obj.cells #[.bool false, .slice none 0 0, .slice none 0 0, .slice none 0 0, .int .i64 0, .int .i64 0] 37)).setRow w9.heap.size #[.bool g0k, .slice none 0 0, .slice q1k h1k j1k, .slice q2k h2k j2k, .int .i64 g4k, .int .i64 g5k] = w10 at hb10 HA_10 HB_10 HC_10 HE_10 HM_10 HN_10 HK_10 DA_10 DB_10 DC_10 DE_10 DM_10 DN_10 DK_10 ⊢
  generalize w9.heap.size = GK at HK_10 ⊢
  obtain ⟨zA0, zA1, zA2, zA3, zA4, zA5⟩ := HA_10.out.cells
  obtain ⟨zB0, zB1, zB2, zB3, zB4, zB5⟩ := HB_10.out.cells
  obtain ⟨zC0, zC1, zC2, zC3, zC4, zC5⟩ := HC_10.out.cells
  obtain ⟨zE0, zE1, zE2, zE3, zE4, zE5⟩ := HE_10.out.cells
  obtain ⟨zM0, zM1, zM2, zM3, zM4, zM5⟩ := HM_10.out.cells
  obtain ⟨zN0, zN1, zN2, zN3, zN4, zN5⟩ := HN_10.out.cells
  obtain ⟨zK0, zK1, zK2, zK3, zK4, zK5⟩ := HK_10.out.cells
  go_wp2_with fail
  refine (dvl (both_dom _ _ d o _ DC_10.out.di DE_10.out.di)).mono ?_
  rintro e w11 ⟨g0t, q1t, h1t, j1t, q2t, h2t, j2t, g4t, g5t, rfl, HV, hb⟩
  have hb11 : Below w4.heap.size w4 w11 := hb10.trans (hb.mono hb10.size)
  have HA_11 : Hid _ := HA_10.out.below hb
  have HB_11 : Hid _ := HB_10.out.below hb
  have HC_11 : Hid _ := HC_10.out.below hb
  have HE_11 : Hid _ := HE_10.out.below hb
  have HM_11 : Hid _ := HM_10.out.below hb
  have HN_11 : Hid _ := HN_10.out.below hb
  have HK_11 : Hid _ := HK_10.out.below hb
  have DA_11 : Hid (Dr w11 (.agg #[.bool x0a, .slice raa rna rca, .slice a1a n1a c1a, .slice a2a n2a c2a, .int .i64 x4a, .int .i64 x5a]) d fa) := DA_10.out.below hb
  have DB_11 : Hid (Dr w11 (.agg #[.bool x0b, .slice rab rnb rcb, .slice a1b n1b c1b, .slice a2b n2b c2b, .int .i64 x4b, .int .i64 x5b]) o fb) := DB_10.out.below hb
  have DC_11 : Hid (Dr w11 (.agg #[.bool x0c, .slice rac rnc rcc, .slice a1c n1c c1c, .slice a2c n2c c2c, .int .i64 x4c, .int .i64 x5c]) d fa) := DC_10.out.below hb
  have DE_11 : Hid (Dr w11 (.agg #[.bool x0e, .slice rae rne rce, .slice a1e n1e c1e, .slice a2e n2e c2e, .int .i64 x4e, .int .i64 x5e]) o fb) := DE_10.out.below hb
  have DM_11 : Hid (Dv w4.heap.size w11 (.agg #[.bool g0m, .slice none 0 0, .slice q1m h1m j1m, .slice q2m h2m j2m, .int .i64 g4m, .int .i64 g5m]) (mustD d x)) := DM_10.out.below hb
  have DN_11 : Hid (Dv w4.heap.size w11 (.agg #[.bool g0n, .slice none 0 0, .slice q1n h1n j1n, .slice q2n h2n j2n, .int .i64 g4n, .int .i64 g5n]) (notD d x)) := DN_10.out.below hb
  have DK_11 : Hid (Dv w4.heap.size w11 (.agg #[.bool g0k, .slice none 0 0, .slice q1k h1k j1k, .slice q2k h2k j2k, .int .i64 g4k, .int .i64 g5k]) (cardD d y z)) := DK_10.out.below hb
  have DT_11 : Hid (Dv w4.heap.size w11 (.agg #[.bool g0t, .slice none 0 0, .slice q1t h1t j1t, .slice q2t h2t j2t, .int .i64 g4t, .int .i64 g5t]) (bothD d o)) := HV.out.base hb10.size
  clear HV
  clear zA0 zA1 zA2 zA3 zA4 zA5 zB0 zB1 zB2 zB3 zB4 zB5 zC0 zC1 zC2 zC3 zC4 zC5 zE0 zE1 zE2 zE3 zE4 zE5 zM0 zM1 zM2 zM3 zM4 zM5 zN0 zN1 zN2 zN3 zN4 zN5 zK0 zK1 zK2 zK3 zK4 zK5
  clear hb hb10 HA_10 HB_10 HC_10 HE_10 HM_10 HN_10 HK_10 DA_10 DB_10 DC_10 DE_10 DM_10 DN_10 DK_10
  have hz := below_setRow ((Below.refl w11.heap.size w11).alloc (Nat.le_refl _) (Obj.cells #[.bool false, .slice none 0 0, .slice none 0 0, .slice none 0 0, .int .i64 0, .int .i64 0] 37)) (Nat.le_refl w11.heap.size) #[.bool g0t, .slice none 0 0, .slice q1t h1t j1t, .slice q2t h2t j2t, .int .i64 g4t, .int .i64 g5t]
  have hb12 := hb11.trans (hz.mono hb11.size)
  have HT_12 : Hid _ := (R6.new w11 (.bool false) (.slice none 0 0) (.slice none 0 0) (.slice none 0 0) (.int .i64 0) (.int .i64 0)).set (.bool g0t) (.slice none 0 0) (.slice q1t h1t j1t) (.slice q2t h2t j2t) (.int .i64 g4t) (.int .i64 g5t)
  have HA_12 : Hid _ := HA_11.out.below hz
  have HB_12 : Hid _ := HB_11.out.below hz
  have HC_12 : Hid _ := HC_11.out.below hz
  have HE_12 : Hid _ := HE_11.out.below hz
  have HM_12 : Hid _ := HM_11.out.below hz
  have HN_12 : Hid _ := HN_11.out.below hz
  have HK_12 : Hid _ := HK_11.out.below hz
  have DA_12 : Hid (Dr ((w11.alloc (Obj.cells #[.bool false, .slice none 0 0, .slice none 0 0, .slice none 0 0, .int .i64 0, .int .i64 0] 37)).setRow w11.heap.size #[.bool g0t, .slice none 0 0, .slice q1t h1t j1t, .slice q2t h2t j2t, .int .i64 g4t, .int .i64 g5t]) (.agg #[.bool x0a, .slice raa rna rca, .slice a1a n1a c1a, .slice a2a n2a c2a, .int .i64 x4a, .int .i64 x5a]) d fa) := DA_11.out.below hz
  have DB_12 : Hid (Dr ((w11.alloc (Obj.cells #[.bool false, .slice none 0 0, .slice none 0 0, .slice none 0 0, .int .i64 0, .int .i64 0] 37)).setRow w11.heap.size #[.bool g0t, .slice none 0 0, .slice q1t h1t j1t, .slice q2t h2t j2t, .int .i64 g4t, .int .i64 g5t]) (.agg #[.bool x0b, .slice rab rnb rcb, .slice a1b n1b c1b, .slice a2b n2b c2b, .int .i64 x4b, .int .i64 x5b]) o fb) := DB_11.out.below hz
  have DC_12 : Hid (Dr ((w11.alloc (Obj.cells #[.bool false, .slice none 0 0, .slice none 0 0, .slice none 0 0, .int .i64 0, .int .i64 0] 37)).setRow w11.heap.size #[.bool g0t, .slice none 0 0, .slice q1t h1t j1t, .slice q2t h2t j2t, .int .i64 g4t, .int .i64 g5t]) (.agg #[.bool x0c, .slice rac rnc rcc, .slice a1c n1c c1c, .slice a2c n2c c2c, .int .i64 x4c, .int .i64 x5c]) d fa) := DC_11.out.below hz
  have DE_12 : Hid (Dr ((w11.alloc (Obj.cells #[.bool false, .slice none 0 0, .slice none 0 0, .slice none 0 0, .int .i64 0, .int .i64 0] 37)).setRow w11.heap.size #[.bool g0t, .slice none 0 0, .slice q1t h1t j1t, .slice q2t h2t j2t, .int .i64 g4t, .int .i64 g5t]) (.agg #[.bool x0e, .slice rae rne rce, .slice a1e n1e c1e, .slice a2e n2e c2e, .int .i64 x4e, .int .i64 x5e]) o fb) := DE_11.out.below hz
  have DM_12 : Hid (Dv w4.heap.size ((w11.alloc (Obj.cells #[.bool false, .slice none 0 0, .slice none 0 0, .slice none 0 0, .int .i64 0, .int .i64 0] 37)).setRow w11.heap.size #[.bool g0t, .slice none 0 0, .slice q1t h1t j1t, .slice q2t h2t j2t, .int .i64 g4t, .int .i64 g5t]) (.agg #[.bool g0m, .slice none 0 0, .slice q1m h1m j1m, .slice q2m h2m j2m, .int .i64 g4m, .int .i64 g5m]) (mustD d x)) := DM_11.out.below hz
  have DN_12 : Hid (Dv w4.heap.size ((w11.alloc (Obj.cells #[.bool false, .slice none 0 0, .slice none 0 0, .slice none 0 0, .int .i64 0, .int .i64 0] 37)).setRow w11.heap.size #[.bool g0t, .slice none 0 0, .slice q1t h1t j1t, .slice q2t h2t j2t, .int .i64 g4t, .int .i64 g5t]) (.agg #[.bool g0n, .slice none 0 0, .slice q1n h1n j1n, .slice q2n h2n j2n, .int .i64 g4n, .int .i64 g5n]) (notD d x)) := DN_11.out.below hz
  have DK_12 : Hid (Dv w4.heap.size ((w11.alloc (Obj.cells #[.bool false, .slice none 0 0, .slice none 0 0, .slice none 0 0, .int .i64 0, .int .i64 0] 37)).setRow w11.heap.size #[.bool g0t, .slice none 0 0, .slice q1t h1t j1t, .slice q2t h2t j2t, .int .i64 g4t, .int .i64 g5t]) (.agg #[.bool g0k, .slice none 0 0, .slice q1k h1k j1k, .slice q2k h2k j2k, .int .i64 g4k, .int .i64 g5k]) (cardD d y z)) := DK_11.out.below hz
  have DT_12 : Hid (Dv w4.heap.size ((w11.alloc (Obj.cells #[.bool false, .slice none 0 0, .slice none 0 0, .slice none 0 0, .int .i64 0, .int .i64 0] 37)).setRow w11.heap.size #[.bool g0t, .slice none 0 0, .slice q1t h1t j1t, .slice q2t h2t j2t, .int .i64 g4t, .int .i64 g5t]) (.agg #[.bool g0t, .slice none 0 0, .slice q1t h1t j1t, .slice q2t h2t j2t, .int .i64 g4t, .int .i64 g5t]) (bothD d o)) := DT_11.out.below hz
  clear hz HA_11 HB_11 HC_11 HE_11 HM_11 HN_11 HK_11 DA_11 DB_11 DC_11 DE_11 DM_11 DN_11 DK_11 DT_11 hb11
  go_upto_region 7 with (with_reducible refine st37 rfl (.tmp 16) (.tmp 33) rfl w11.heap.size _ _ _ _ _ _ (by with_unfolding_all rfl) (by with_unfolding_all rfl) (R6.new w11 _ _ _ _ _ _) (six_dom _ _ _ _ _ _ _ _ _ _ _ _) ?_)
  simp only [Act.put]
  generalize (w11.alloc (Obj.cells #[.bool false, .slice none 0 0, .slice none 0 0, .slice none 0 0, .int .i64 0, .int .i64 0] 37)).setRow w11.heap.size #[.bool g0t, .slice none 0 0, .slice q1t h1t j1t, .slice q2t h2t j2t, .int .i64 g4t, .int .i64 g5t] = w12 at hb12 HA_12 HB_12 HC_12 HE_12 HM_12 HN_12 HK_12 HT_12 DA_12 DB_12 DC_12 DE_12 DM_12 DN_12 DK_12 DT_12 ⊢
  generalize w11.heap.size = GT at HT_12 ⊢
  have HK : ∀ X, Below w12.heap.size w12 X → R6 X W.heap.size (.bool x0a) (.slice raa rna rca) (.slice a1a n1a c1a) (.slice a2a n2a c2a) (.int .i64 x4a) (.int .i64 x5a) ∧ R6 X (W.heap.size + 1) (.bool x0b) (.slice rab rnb rcb) (.slice a1b n1b c1b) (.slice a2b n2b c2b) (.int .i64 x4b) (.int .i64 x5b) ∧ R6 X GC (.bool x0c) (.slice rac rnc rcc) (.slice a1c n1c c1c) (.slice a2c n2c c2c) (.int .i64 x4c) (.int .i64 x5c) ∧ R6 X GE (.bool x0e) (.slice rae rne rce) (.slice a1e n1e c1e) (.slice a2e n2e c2e) (.int .i64 x4e) (.int .i64 x5e) ∧ R6 X GM (.bool g0m) (.slice none 0 0) (.slice q1m h1m j1m) (.slice q2m h2m j2m) (.int .i64 g4m) (.int .i64 g5m) ∧ R6 X GN (.bool g0n) (.slice none 0 0) (.slice q1n h1n j1n) (.slice q2n h2n j2n) (.int .i64 g4n) (.int .i64 g5n) ∧ R6 X GK (.bool g0k) (.slice none 0 0) (.slice q1k h1k j1k) (.slice q2k h2k j2k) (.int .i64 g4k) (.int .i64 g5k) ∧ R6 X GT (.bool g0t) (.slice none 0 0) (.slice q1t h1t j1t) (.slice q2t h2t j2t) (.int .i64 g4t) (.int .i64 g5t) := fun X hX => ⟨HA_12.out.below hX, HB_12.out.below hX, HC_12.out.below hX, HE_12.out.below hX, HM_12.out.below hX, HN_12.out.below hX, HK_12.out.below hX, HT_12.out.below hX⟩
  have hq0 : Below w12.heap.size w12 w12.drew := Below.drew (Below.refl _ _)
  have hss : rsameD d o = sameD d o := same_same d o
  refine wp_region_held_drew (S := (fun w' => R6 w' W.heap.size (.bool x0a) (.slice raa rna rca) (.slice a1a n1a c1a) (.slice a2a n2a c2a) (.int .i64 x4a) (.int .i64 x5a) ∧ R6 w' (W.heap.size + 1) (.bool x0b) (.slice rab rnb rcb) (.slice a1b n1b c1b) (.slice a2b n2b c2b) (.int .i64 x4b) (.int .i64 x5b) ∧ R6 w' GC (.bool x0c) (.slice rac rnc rcc) (.slice a1c n1c c1c) (.slice a2c n2c c2c) (.int .i64 x4c) (.int .i64 x5c) ∧ R6 w' GE (.bool x0e) (.slice rae rne rce) (.slice a1e n1e c1e) (.slice a2e n2e c2e) (.int .i64 x4e) (.int .i64 x5e) ∧ R6 w' GM (.bool g0m) (.slice none 0 0) (.slice q1m h1m j1m) (.slice q2m h2m j2m) (.int .i64 g4m) (.int .i64 g5m) ∧ R6 w' GN (.bool g0n) (.slice none 0 0) (.slice q1n h1n j1n) (.slice q2n h2n j2n) (.int .i64 g4n) (.int .i64 g5n) ∧ R6 w' GK (.bool g0k) (.slice none 0 0) (.slice q1k h1k j1k) (.slice q2k h2k j2k) (.int .i64 g4k) (.int .i64 g5k) ∧ R6 w' GT (.bool g0t) (.slice none 0 0) (.slice q1t h1t j1t) (.slice q2t h2t j2t) (.int .i64 g4t) (.int .i64 g5t))) (by kernel_rfl) (HK _ hq0) (fun hHeld => ?_)
  refine wpAnyH_take (i := 0) (oi := { dst := some 34, op := Go.Op.load 37 (Go.Operand.tmp 13), type := 37, pos := "law.go:108", after := #[], guard := none }) (v := ?_) rfl (by kernel_rfl) (by kernel_rfl) (by kernel_rfl) (fun _ _ _ h => h) (Or.inl ⟨by rfl, ?_⟩) hHeld ?_
  rotate_left
  · intro w hSw; obtain ⟨sA, sB, sC, sE, sM, sN, sK, sT⟩ := hSw; obtain ⟨u0, u1, u2, u3, u4, u5⟩ := sM.cells; go_simp <;> with_reducible rfl
  try simp only [Act.put, List.setIfInBounds_toArray, List.set_cons_zero, List.set_cons_succ]
  refine wpAnyH_take (i := 1) (oi := { dst := some 35, op := Go.Op.load 37 (Go.Operand.tmp 5), type := 37, pos := "law.go:108", after := #[], guard := none }) (v := ?_) rfl (by kernel_rfl) (by kernel_rfl) (by kernel_rfl) (fun _ _ _ h => h) (Or.inl ⟨by rfl, ?_⟩) hHeld ?_
  rotate_left
  · intro w hSw; obtain ⟨sA, sB, sC, sE, sM, sN, sK, sT⟩ := hSw; obtain ⟨u0, u1, u2, u3, u4, u5⟩ := sA.cells; go_simp <;> with_reducible rfl
  try simp only [Act.put, List.setIfInBounds_toArray, List.set_cons_zero, List.set_cons_succ]
  refine wpAnyH_take (i := 2) (oi := { dst := some 36, op := Go.Op.move (Go.Operand.tmp 2), type := 2, pos := "law.go:108", after := #[], guard := none }) (v := ?_) rfl (by kernel_rfl) (by kernel_rfl) (by kernel_rfl) (fun _ _ _ h => h) (Or.inl ⟨by rfl, ?_⟩) hHeld ?_
  rotate_left
  · intro w hSw; (try dsimp only at hSw); go_simp <;> with_reducible rfl
  try simp only [Act.put, List.setIfInBounds_toArray, List.set_cons_zero, List.set_cons_succ]
  refine wpAnyH_ready (rs := [3]) (by kernel_rfl) (by simp) ?_
  refine AllReadyH.cons rfl (fun K hK => ?_) AllReadyH.nil
  go_simp
  refine (dvl (refmust_any _ d x _ (DA_12.out.below hq0).di)).mono ?_
  rintro e w301 ⟨g0u0, q1u0, h1u0, j1u0, q2u0, h2u0, j2u0, g4u0, g5u0, rfl, HU, hb⟩
  have hq1 : Below w12.heap.size w12 w301 := hq0.trans (hb.mono hq0.size)
  clear hb
  refine hK.out _ _ (HK _ hq1) (fun hHeld2 => ?_)
  clear hK K hHeld
  have hHeld := hHeld2
  clear hHeld2
  try simp only [Act.put, List.setIfInBounds_toArray, List.set_cons_zero, List.set_cons_succ]
  refine wpAnyH_ready (rs := [4]) (by kernel_rfl) (by simp) ?_
  refine AllReadyH.cons rfl (fun K hK => ?_) AllReadyH.nil
  go_simp
  refine (one_eq _ _ _ _ _ (DM_12.out.below hq1) HU.out (must_same d x) (must_right d x)).mono ?_
  rintro e w302 ⟨rfl, hb⟩
  clear HU
  have hq2 : Below w12.heap.size w12 w302 := hq1.trans (hb.mono hq1.size)
  clear hb hq1
  refine hK.out _ _ (HK _ hq2) (fun hHeld2 => ?_)
  clear hK K hHeld
  have hHeld := hHeld2
  clear hHeld2
  try simp only [Act.put, List.setIfInBounds_toArray, List.set_cons_zero, List.set_cons_succ]
  refine wpAnyH_take (i := 5) (oi := { dst := some 39, op := Go.Op.unOp Go.UnOp.not 4 (Go.Operand.tmp 38), type := 4, pos := "law.go:108", after := #[{ on := 4, ground := Go.Ground.data }], guard := none }) (v := ?_) rfl (by kernel_rfl) (by kernel_rfl) (by kernel_rfl) (fun _ _ _ h => h) (Or.inl ⟨by rfl, ?_⟩) hHeld ?_
  rotate_left
  · intro w hSw; (try dsimp only at hSw); go_simp <;> with_reducible rfl
  try simp only [Act.put, List.setIfInBounds_toArray, List.set_cons_zero, List.set_cons_succ]
  refine wpAnyH_take (i := 6) (oi := { dst := some 40, op := Go.Op.move (Go.Operand.tmp 39), type := 4, pos := "law.go:108", after := #[{ on := 5, ground := Go.Ground.data }, { on := 4, ground := Go.Ground.chain }], guard := none }) (v := ?_) rfl (by kernel_rfl) (by kernel_rfl) (by kernel_rfl) (fun _ _ _ h => h) (Or.inl ⟨by rfl, ?_⟩) hHeld ?_
  rotate_left
  · intro w hSw; (try dsimp only at hSw); go_simp <;> with_reducible rfl
  try simp only [Act.put, List.setIfInBounds_toArray, List.set_cons_zero, List.set_cons_succ]
  refine wpAnyH_take (i := 7) (oi := { dst := some 41, op := Go.Op.load 37 (Go.Operand.tmp 14), type := 37, pos := "law.go:108", after := #[{ on := 6, ground := Go.Ground.guard }], guard := some (6, false) }) (v := ?_) rfl (by kernel_rfl) (by kernel_rfl) (by kernel_rfl) (fun _ _ _ h => h) (Or.inl ⟨by rfl, ?_⟩) hHeld ?_
  rotate_left
  · intro w hSw; obtain ⟨sA, sB, sC, sE, sM, sN, sK, sT⟩ := hSw; obtain ⟨u0, u1, u2, u3, u4, u5⟩ := sN.cells; go_simp <;> with_reducible rfl
  try simp only [Act.put, List.setIfInBounds_toArray, List.set_cons_zero, List.set_cons_succ]
  refine wpAnyH_take (i := 8) (oi := { dst := some 42, op := Go.Op.load 37 (Go.Operand.tmp 5), type := 37, pos := "law.go:108", after := #[{ on := 6, ground := Go.Ground.guard }], guard := some (6, false) }) (v := ?_) rfl (by kernel_rfl) (by kernel_rfl) (by kernel_rfl) (fun _ _ _ h => h) (Or.inl ⟨by rfl, ?_⟩) hHeld ?_
  rotate_left
  · intro w hSw; obtain ⟨sA, sB, sC, sE, sM, sN, sK, sT⟩ := hSw; obtain ⟨u0, u1, u2, u3, u4, u5⟩ := sA.cells; go_simp <;> with_reducible rfl
  try simp only [Act.put, List.setIfInBounds_toArray, List.set_cons_zero, List.set_cons_succ]
  refine wpAnyH_take (i := 9) (oi := { dst := some 43, op := Go.Op.move (Go.Operand.tmp 2), type := 2, pos := "law.go:108", after := #[{ on := 6, ground := Go.Ground.guard }], guard := some (6, false) }) (v := ?_) rfl (by kernel_rfl) (by kernel_rfl) (by kernel_rfl) (fun _ _ _ h => h) (Or.inl ⟨by rfl, ?_⟩) hHeld ?_
  rotate_left
  · intro w hSw; (try dsimp only at hSw); go_simp <;> with_reducible rfl
  try simp only [Act.put, List.setIfInBounds_toArray, List.set_cons_zero, List.set_cons_succ]
  refine wpAnyH_ready (rs := [10]) (by kernel_rfl) (by simp) ?_
  refine AllReadyH.cons rfl (fun K hK => ?_) AllReadyH.nil
  go_simp
  refine (dvl (refnot_any _ d x _ (DA_12.out.below hq2).di)).mono ?_
  rintro e w303 ⟨g0u2, q1u2, h1u2, j1u2, q2u2, h2u2, j2u2, g4u2, g5u2, rfl, HU, hb⟩
  have hq3 : Below w12.heap.size w12 w303 := hq2.trans (hb.mono hq2.size)
  clear hb hq2
  refine hK.out _ _ (HK _ hq3) (fun hHeld2 => ?_)
  clear hK K hHeld
  have hHeld := hHeld2
  clear hHeld2
  try simp only [Act.put, List.setIfInBounds_toArray, List.set_cons_zero, List.set_cons_succ]
  refine wpAnyH_ready (rs := [11]) (by kernel_rfl) (by simp) ?_
  refine AllReadyH.cons rfl (fun K hK => ?_) AllReadyH.nil
  go_simp
  refine (one_eq _ _ _ _ _ (DN_12.out.below hq3) HU.out (not_same d x) (not_right d x)).mono ?_
  rintro e w304 ⟨rfl, hb⟩
  clear HU
  have hq4 : Below w12.heap.size w12 w304 := hq3.trans (hb.mono hq3.size)
  clear hb hq3
  refine hK.out _ _ (HK _ hq4) (fun hHeld2 => ?_)
  clear hK K hHeld
  have hHeld := hHeld2
  clear hHeld2
  try simp only [Act.put, List.setIfInBounds_toArray, List.set_cons_zero, List.set_cons_succ]
  refine wpAnyH_take (i := 12) (oi := { dst := some 46, op := Go.Op.unOp Go.UnOp.not 4 (Go.Operand.tmp 45), type := 4, pos := "law.go:108", after := #[{ on := 11, ground := Go.Ground.data }, { on := 6, ground := Go.Ground.guard }], guard := some (6, false) }) (v := ?_) rfl (by kernel_rfl) (by kernel_rfl) (by kernel_rfl) (fun _ _ _ h => h) (Or.inl ⟨by rfl, ?_⟩) hHeld ?_
  rotate_left
  · intro w hSw; (try dsimp only at hSw); go_simp <;> with_reducible rfl
  try simp only [Act.put, List.setIfInBounds_toArray, List.set_cons_zero, List.set_cons_succ]
  refine wpAnyH_take (i := 13) (oi := { dst := some 47, op := Go.Op.pick (Go.Operand.tmp 40) (Go.Operand.const (Go.Value.bool true)) (Go.Operand.tmp 46), type := 4, pos := "law.go:108", after := #[{ on := 6, ground := Go.Ground.data }, { on := 12, ground := Go.Ground.data }], guard := none }) (v := ?_) rfl (by kernel_rfl) (by kernel_rfl) (by kernel_rfl) (fun _ _ _ h => h) (Or.inl ⟨by rfl, ?_⟩) hHeld ?_
  rotate_left
  · intro w hSw; (try dsimp only at hSw); go_simp <;> with_reducible rfl
  try simp only [Act.put, List.setIfInBounds_toArray, List.set_cons_zero, List.set_cons_succ]
  refine wpAnyH_take (i := 14) (oi := { dst := some 48, op := Go.Op.move (Go.Operand.tmp 47), type := 4, pos := "law.go:108", after := #[{ on := 13, ground := Go.Ground.data }, { on := 11, ground := Go.Ground.chain }], guard := none }) (v := ?_) rfl (by kernel_rfl) (by kernel_rfl) (by kernel_rfl) (fun _ _ _ h => h) (Or.inl ⟨by rfl, ?_⟩) hHeld ?_
  rotate_left
  · intro w hSw; (try dsimp only at hSw); go_simp <;> with_reducible rfl
  try simp only [Act.put, List.setIfInBounds_toArray, List.set_cons_zero, List.set_cons_succ]
  refine wpAnyH_take (i := 15) (oi := { dst := some 49, op := Go.Op.load 37 (Go.Operand.tmp 15), type := 37, pos := "law.go:108", after := #[{ on := 14, ground := Go.Ground.guard }], guard := some (14, false) }) (v := ?_) rfl (by kernel_rfl) (by kernel_rfl) (by kernel_rfl) (fun _ _ _ h => h) (Or.inl ⟨by rfl, ?_⟩) hHeld ?_
  rotate_left
  · intro w hSw; obtain ⟨sA, sB, sC, sE, sM, sN, sK, sT⟩ := hSw; obtain ⟨u0, u1, u2, u3, u4, u5⟩ := sK.cells; go_simp <;> with_reducible rfl
  try simp only [Act.put, List.setIfInBounds_toArray, List.set_cons_zero, List.set_cons_succ]
  refine wpAnyH_take (i := 16) (oi := { dst := some 50, op := Go.Op.load 37 (Go.Operand.tmp 5), type := 37, pos := "law.go:108", after := #[{ on := 14, ground := Go.Ground.guard }], guard := some (14, false) }) (v := ?_) rfl (by kernel_rfl) (by kernel_rfl) (by kernel_rfl) (fun _ _ _ h => h) (Or.inl ⟨by rfl, ?_⟩) hHeld ?_
  rotate_left
  · intro w hSw; obtain ⟨sA, sB, sC, sE, sM, sN, sK, sT⟩ := hSw; obtain ⟨u0, u1, u2, u3, u4, u5⟩ := sA.cells; go_simp <;> with_reducible rfl
  try simp only [Act.put, List.setIfInBounds_toArray, List.set_cons_zero, List.set_cons_succ]
  refine wpAnyH_take (i := 17) (oi := { dst := some 51, op := Go.Op.move (Go.Operand.tmp 3), type := 3, pos := "law.go:108", after := #[{ on := 14, ground := Go.Ground.guard }], guard := some (14, false) }) (v := ?_) rfl (by kernel_rfl) (by kernel_rfl) (by kernel_rfl) (fun _ _ _ h => h) (Or.inl ⟨by rfl, ?_⟩) hHeld ?_
  rotate_left
  · intro w hSw; (try dsimp only at hSw); go_simp <;> with_reducible rfl
  try simp only [Act.put, List.setIfInBounds_toArray, List.set_cons_zero, List.set_cons_succ]
  refine wpAnyH_take (i := 18) (oi := { dst := some 52, op := Go.Op.move (Go.Operand.tmp 4), type := 3, pos := "law.go:108", after := #[{ on := 14, ground := Go.Ground.guard }], guard := some (14, false) }) (v := ?_) rfl (by kernel_rfl) (by kernel_rfl) (by kernel_rfl) (fun _ _ _ h => h) (Or.inl ⟨by rfl, ?_⟩) hHeld ?_
  rotate_left
  · intro w hSw; (try dsimp only at hSw); go_simp <;> with_reducible rfl
  try simp only [Act.put, List.setIfInBounds_toArray, List.set_cons_zero, List.set_cons_succ]
  refine wpAnyH_ready (rs := [19]) (by kernel_rfl) (by simp) ?_
  refine AllReadyH.cons rfl (fun K hK => ?_) AllReadyH.nil
  go_simp
  refine (dvl (refcard_any _ d y z _ (DA_12.out.below hq4).di)).mono ?_
  rintro e w305 ⟨g0u4, q1u4, h1u4, j1u4, q2u4, h2u4, j2u4, g4u4, g5u4, rfl, HU, hb⟩
  have hq5 : Below w12.heap.size w12 w305 := hq4.trans (hb.mono hq4.size)
  clear hb hq4
  refine hK.out _ _ (HK _ hq5) (fun hHeld2 => ?_)
  clear hK K hHeld
  have hHeld := hHeld2
  clear hHeld2
  try simp only [Act.put, List.setIfInBounds_toArray, List.set_cons_zero, List.set_cons_succ]
  refine wpAnyH_ready (rs := [20]) (by kernel_rfl) (by simp) ?_
  refine AllReadyH.cons rfl (fun K hK => ?_) AllReadyH.nil
  go_simp
  refine (one_eq _ _ _ _ _ (DK_12.out.below hq5) HU.out (card_same d y z) (card_right d y z)).mono ?_
  rintro e w306 ⟨rfl, hb⟩
  clear HU
  have hq6 : Below w12.heap.size w12 w306 := hq5.trans (hb.mono hq5.size)
  clear hb hq5
  refine hK.out _ _ (HK _ hq6) (fun hHeld2 => ?_)
  clear hK K hHeld
  have hHeld := hHeld2
  clear hHeld2
  try simp only [Act.put, List.setIfInBounds_toArray, List.set_cons_zero, List.set_cons_succ]
  refine wpAnyH_take (i := 21) (oi := { dst := some 55, op := Go.Op.unOp Go.UnOp.not 4 (Go.Operand.tmp 54), type := 4, pos := "law.go:108", after := #[{ on := 20, ground := Go.Ground.data }, { on := 14, ground := Go.Ground.guard }], guard := some (14, false) }) (v := ?_) rfl (by kernel_rfl) (by kernel_rfl) (by kernel_rfl) (fun _ _ _ h => h) (Or.inl ⟨by rfl, ?_⟩) hHeld ?_
  rotate_left
  · intro w hSw; (try dsimp only at hSw); go_simp <;> with_reducible rfl
  try simp only [Act.put, List.setIfInBounds_toArray, List.set_cons_zero, List.set_cons_succ]
  refine wpAnyH_take (i := 22) (oi := { dst := some 56, op := Go.Op.pick (Go.Operand.tmp 48) (Go.Operand.const (Go.Value.bool true)) (Go.Operand.tmp 55), type := 4, pos := "law.go:108", after := #[{ on := 14, ground := Go.Ground.data }, { on := 21, ground := Go.Ground.data }], guard := none }) (v := ?_) rfl (by kernel_rfl) (by kernel_rfl) (by kernel_rfl) (fun _ _ _ h => h) (Or.inl ⟨by rfl, ?_⟩) hHeld ?_
  rotate_left
  · intro w hSw; (try dsimp only at hSw); go_simp <;> with_reducible rfl
  try simp only [Act.put, List.setIfInBounds_toArray, List.set_cons_zero, List.set_cons_succ]
  refine wpAnyH_take (i := 23) (oi := { dst := some 57, op := Go.Op.move (Go.Operand.tmp 56), type := 4, pos := "law.go:108", after := #[{ on := 22, ground := Go.Ground.data }, { on := 20, ground := Go.Ground.chain }], guard := none }) (v := ?_) rfl (by kernel_rfl) (by kernel_rfl) (by kernel_rfl) (fun _ _ _ h => h) (Or.inl ⟨by rfl, ?_⟩) hHeld ?_
  rotate_left
  · intro w hSw; (try dsimp only at hSw); go_simp <;> with_reducible rfl
  try simp only [Act.put, List.setIfInBounds_toArray, List.set_cons_zero, List.set_cons_succ]
  refine wpAnyH_take (i := 24) (oi := { dst := some 58, op := Go.Op.load 37 (Go.Operand.tmp 16), type := 37, pos := "law.go:108", after := #[{ on := 23, ground := Go.Ground.guard }], guard := some (23, false) }) (v := ?_) rfl (by kernel_rfl) (by kernel_rfl) (by kernel_rfl) (fun _ _ _ h => h) (Or.inl ⟨by rfl, ?_⟩) hHeld ?_
  rotate_left
  · intro w hSw; obtain ⟨sA, sB, sC, sE, sM, sN, sK, sT⟩ := hSw; obtain ⟨u0, u1, u2, u3, u4, u5⟩ := sT.cells; go_simp <;> with_reducible rfl
  try simp only [Act.put, List.setIfInBounds_toArray, List.set_cons_zero, List.set_cons_succ]
  refine wpAnyH_take (i := 25) (oi := { dst := some 59, op := Go.Op.load 37 (Go.Operand.tmp 5), type := 37, pos := "law.go:108", after := #[{ on := 23, ground := Go.Ground.guard }], guard := some (23, false) }) (v := ?_) rfl (by kernel_rfl) (by kernel_rfl) (by kernel_rfl) (fun _ _ _ h => h) (Or.inl ⟨by rfl, ?_⟩) hHeld ?_
  rotate_left
  · intro w hSw; obtain ⟨sA, sB, sC, sE, sM, sN, sK, sT⟩ := hSw; obtain ⟨u0, u1, u2, u3, u4, u5⟩ := sA.cells; go_simp <;> with_reducible rfl
  try simp only [Act.put, List.setIfInBounds_toArray, List.set_cons_zero, List.set_cons_succ]
  refine wpAnyH_take (i := 26) (oi := { dst := some 60, op := Go.Op.load 37 (Go.Operand.tmp 6), type := 37, pos := "law.go:108", after := #[{ on := 23, ground := Go.Ground.guard }], guard := some (23, false) }) (v := ?_) rfl (by kernel_rfl) (by kernel_rfl) (by kernel_rfl) (fun _ _ _ h => h) (Or.inl ⟨by rfl, ?_⟩) hHeld ?_
  rotate_left
  · intro w hSw; obtain ⟨sA, sB, sC, sE, sM, sN, sK, sT⟩ := hSw; obtain ⟨u0, u1, u2, u3, u4, u5⟩ := sB.cells; go_simp <;> with_reducible rfl
  try simp only [Act.put, List.setIfInBounds_toArray, List.set_cons_zero, List.set_cons_succ]
  refine wpAnyH_ready (rs := [27]) (by kernel_rfl) (by simp) ?_
  refine AllReadyH.cons rfl (fun K hK => ?_) AllReadyH.nil
  go_simp
  refine (dvl (refboth_any _ _ d o _ (DA_12.out.below hq6).di (DB_12.out.below hq6).di)).mono ?_
  rintro e w307 ⟨g0u6, q1u6, h1u6, j1u6, q2u6, h2u6, j2u6, g4u6, g5u6, rfl, HU, hb⟩
  have hq7 : Below w12.heap.size w12 w307 := hq6.trans (hb.mono hq6.size)
  clear hb hq6
  refine hK.out _ _ (HK _ hq7) (fun hHeld2 => ?_)
  clear hK K hHeld
  have hHeld := hHeld2
  clear hHeld2
  try simp only [Act.put, List.setIfInBounds_toArray, List.set_cons_zero, List.set_cons_succ]
  refine wpAnyH_ready (rs := [28]) (by kernel_rfl) (by simp) ?_
  refine AllReadyH.cons rfl (fun K hK => ?_) AllReadyH.nil
  go_simp
  refine (one_eq _ _ _ _ _ (DT_12.out.below hq7) HU.out (both_same d o) (both_right d o)).mono ?_
  rintro e w308 ⟨rfl, hb⟩
  clear HU
  have hq8 : Below w12.heap.size w12 w308 := hq7.trans (hb.mono hq7.size)
  clear hb hq7
  refine hK.out _ _ (HK _ hq8) (fun hHeld2 => ?_)
  clear hK K hHeld
  have hHeld := hHeld2
  clear hHeld2
  try simp only [Act.put, List.setIfInBounds_toArray, List.set_cons_zero, List.set_cons_succ]
  refine wpAnyH_take (i := 29) (oi := { dst := some 63, op := Go.Op.unOp Go.UnOp.not 4 (Go.Operand.tmp 62), type := 4, pos := "law.go:108", after := #[{ on := 28, ground := Go.Ground.data }, { on := 23, ground := Go.Ground.guard }], guard := some (23, false) }) (v := ?_) rfl (by kernel_rfl) (by kernel_rfl) (by kernel_rfl) (fun _ _ _ h => h) (Or.inl ⟨by rfl, ?_⟩) hHeld ?_
  rotate_left
  · intro w hSw; (try dsimp only at hSw); go_simp <;> with_reducible rfl
  try simp only [Act.put, List.setIfInBounds_toArray, List.set_cons_zero, List.set_cons_succ]
  refine wpAnyH_take (i := 30) (oi := { dst := some 64, op := Go.Op.pick (Go.Operand.tmp 57) (Go.Operand.const (Go.Value.bool true)) (Go.Operand.tmp 63), type := 4, pos := "law.go:108", after := #[{ on := 23, ground := Go.Ground.data }, { on := 29, ground := Go.Ground.data }], guard := none }) (v := ?_) rfl (by kernel_rfl) (by kernel_rfl) (by kernel_rfl) (fun _ _ _ h => h) (Or.inl ⟨by rfl, ?_⟩) hHeld ?_
  rotate_left
  · intro w hSw; (try dsimp only at hSw); go_simp <;> with_reducible rfl
  try simp only [Act.put, List.setIfInBounds_toArray, List.set_cons_zero, List.set_cons_succ]
  refine wpAnyH_take (i := 31) (oi := { dst := some 65, op := Go.Op.move (Go.Operand.tmp 64), type := 4, pos := "law.go:108", after := #[{ on := 30, ground := Go.Ground.data }, { on := 28, ground := Go.Ground.chain }], guard := none }) (v := ?_) rfl (by kernel_rfl) (by kernel_rfl) (by kernel_rfl) (fun _ _ _ h => h) (Or.inl ⟨by rfl, ?_⟩) hHeld ?_
  rotate_left
  · intro w hSw; (try dsimp only at hSw); go_simp <;> with_reducible rfl
  try simp only [Act.put, List.setIfInBounds_toArray, List.set_cons_zero, List.set_cons_succ]
  refine wpAnyH_take (i := 32) (oi := { dst := some 66, op := Go.Op.load 37 (Go.Operand.tmp 11), type := 37, pos := "law.go:108", after := #[{ on := 31, ground := Go.Ground.guard }], guard := some (31, false) }) (v := ?_) rfl (by kernel_rfl) (by kernel_rfl) (by kernel_rfl) (fun _ _ _ h => h) (Or.inl ⟨by rfl, ?_⟩) hHeld ?_
  rotate_left
  · intro w hSw; obtain ⟨sA, sB, sC, sE, sM, sN, sK, sT⟩ := hSw; obtain ⟨u0, u1, u2, u3, u4, u5⟩ := sC.cells; go_simp <;> with_reducible rfl
  try simp only [Act.put, List.setIfInBounds_toArray, List.set_cons_zero, List.set_cons_succ]
  refine wpAnyH_take (i := 33) (oi := { dst := some 67, op := Go.Op.load 37 (Go.Operand.tmp 12), type := 37, pos := "law.go:108", after := #[{ on := 31, ground := Go.Ground.guard }], guard := some (31, false) }) (v := ?_) rfl (by kernel_rfl) (by kernel_rfl) (by kernel_rfl) (fun _ _ _ h => h) (Or.inl ⟨by rfl, ?_⟩) hHeld ?_
  rotate_left
  · intro w hSw; obtain ⟨sA, sB, sC, sE, sM, sN, sK, sT⟩ := hSw; obtain ⟨u0, u1, u2, u3, u4, u5⟩ := sE.cells; go_simp <;> with_reducible rfl
  try simp only [Act.put, List.setIfInBounds_toArray, List.set_cons_zero, List.set_cons_succ]
  refine wpAnyH_take (i := 35) (oi := { dst := some 69, op := Go.Op.load 37 (Go.Operand.tmp 5), type := 37, pos := "law.go:108", after := #[{ on := 31, ground := Go.Ground.guard }], guard := some (31, false) }) (v := ?_) rfl (by kernel_rfl) (by kernel_rfl) (by kernel_rfl) (fun _ _ _ h => h) (Or.inl ⟨by rfl, ?_⟩) hHeld ?_
  rotate_left
  · intro w hSw; obtain ⟨sA, sB, sC, sE, sM, sN, sK, sT⟩ := hSw; obtain ⟨u0, u1, u2, u3, u4, u5⟩ := sA.cells; go_simp <;> with_reducible rfl
  try simp only [Act.put, List.setIfInBounds_toArray, List.set_cons_zero, List.set_cons_succ]
  refine wpAnyH_take (i := 36) (oi := { dst := some 70, op := Go.Op.load 37 (Go.Operand.tmp 6), type := 37, pos := "law.go:108", after := #[{ on := 31, ground := Go.Ground.guard }], guard := some (31, false) }) (v := ?_) rfl (by kernel_rfl) (by kernel_rfl) (by kernel_rfl) (fun _ _ _ h => h) (Or.inl ⟨by rfl, ?_⟩) hHeld ?_
  rotate_left
  · intro w hSw; obtain ⟨sA, sB, sC, sE, sM, sN, sK, sT⟩ := hSw; obtain ⟨u0, u1, u2, u3, u4, u5⟩ := sB.cells; go_simp <;> with_reducible rfl
  try simp only [Act.put, List.setIfInBounds_toArray, List.set_cons_zero, List.set_cons_succ]
  refine wpAnyH_ready (rs := [34]) (by kernel_rfl) (by simp) ?_
  refine AllReadyH.cons rfl (fun K hK => ?_) AllReadyH.nil
  go_simp
  refine (same_dom _ _ d o _ (DC_12.out.below hq8).di (DE_12.out.below hq8).di).mono ?_
  rintro e w309 ⟨rfl, hb⟩
  have hq9 : Below w12.heap.size w12 w309 := hq8.trans (hb.mono hq8.size)
  clear hb hq8
  refine hK.out _ _ (HK _ hq9) (fun hHeld2 => ?_)
  clear hK K hHeld
  have hHeld := hHeld2
  clear hHeld2
  try simp only [Act.put, List.setIfInBounds_toArray, List.set_cons_zero, List.set_cons_succ]
  refine wpAnyH_ready (rs := [37]) (by kernel_rfl) (by simp) ?_
  refine AllReadyH.cons rfl (fun K hK => ?_) AllReadyH.nil
  go_simp
  refine (eqc hss (refsame_dom _ _ d o _ (DA_12.out.below hq9).di (DB_12.out.below hq9).di)).mono ?_
  rintro e w310 ⟨rfl, hb⟩
  have hq10 : Below w12.heap.size w12 w310 := hq9.trans (hb.mono hq9.size)
  clear hb hq9
  refine hK.out _ _ (HK _ hq10) (fun hHeld2 => ?_)
  clear hK K hHeld
  have hHeld := hHeld2
  clear hHeld2
  try simp only [Act.put, List.setIfInBounds_toArray, List.set_cons_zero, List.set_cons_succ]
  refine wpAnyH_take (i := 38) (oi := { dst := some 72, op := Go.Op.binOp Go.BinOp.neq 4 (Go.Operand.tmp 68) (Go.Operand.tmp 71) 4, type := 4, pos := "law.go:108", after := #[{ on := 34, ground := Go.Ground.data }, { on := 37, ground := Go.Ground.data }, { on := 31, ground := Go.Ground.guard }], guard := some (31, false) }) (v := ?_) rfl (by kernel_rfl) (by kernel_rfl) (by kernel_rfl) (fun _ _ _ h => h) (Or.inl ⟨by rfl, ?_⟩) hHeld ?_
  rotate_left
  · intro w hSw; (try dsimp only at hSw); go_simp <;> with_reducible rfl
  try simp only [Act.put, List.setIfInBounds_toArray, List.set_cons_zero, List.set_cons_succ]
  refine wpAnyH_take (i := 39) (oi := { dst := some 73, op := Go.Op.pick (Go.Operand.tmp 65) (Go.Operand.const (Go.Value.bool true)) (Go.Operand.tmp 72), type := 4, pos := "law.go:108", after := #[{ on := 31, ground := Go.Ground.data }, { on := 38, ground := Go.Ground.data }], guard := none }) (v := ?_) rfl (by kernel_rfl) (by kernel_rfl) (by kernel_rfl) (fun _ _ _ h => h) (Or.inl ⟨by rfl, ?_⟩) hHeld ?_
  rotate_left
  · intro w hSw; (try dsimp only at hSw); go_simp <;> with_reducible rfl
  try simp only [Act.put, List.setIfInBounds_toArray, List.set_cons_zero, List.set_cons_succ]
  refine wpAnyH_take (i := 40) (oi := { dst := some 74, op := Go.Op.move (Go.Operand.tmp 73), type := 4, pos := "law.go:108", after := #[{ on := 39, ground := Go.Ground.data }, { on := 37, ground := Go.Ground.chain }], guard := none }) (v := ?_) rfl (by kernel_rfl) (by kernel_rfl) (by kernel_rfl) (fun _ _ _ h => h) (Or.inl ⟨by rfl, ?_⟩) hHeld ?_
  rotate_left
  · intro w hSw; (try dsimp only at hSw); go_simp <;> with_reducible rfl
  try simp only [Act.put, List.setIfInBounds_toArray, List.set_cons_zero, List.set_cons_succ]
  refine wpAnyH_take (i := 41) (oi := { dst := some 75, op := Go.Op.load 37 (Go.Operand.tmp 11), type := 37, pos := "law.go:108", after := #[{ on := 40, ground := Go.Ground.guard }], guard := some (40, false) }) (v := ?_) rfl (by kernel_rfl) (by kernel_rfl) (by kernel_rfl) (fun _ _ _ h => h) (Or.inl ⟨by rfl, ?_⟩) hHeld ?_
  rotate_left
  · intro w hSw; obtain ⟨sA, sB, sC, sE, sM, sN, sK, sT⟩ := hSw; obtain ⟨u0, u1, u2, u3, u4, u5⟩ := sC.cells; go_simp <;> with_reducible rfl
  try simp only [Act.put, List.setIfInBounds_toArray, List.set_cons_zero, List.set_cons_succ]
  refine wpAnyH_take (i := 42) (oi := { dst := some 76, op := Go.Op.load 37 (Go.Operand.tmp 5), type := 37, pos := "law.go:108", after := #[{ on := 40, ground := Go.Ground.guard }], guard := some (40, false) }) (v := ?_) rfl (by kernel_rfl) (by kernel_rfl) (by kernel_rfl) (fun _ _ _ h => h) (Or.inl ⟨by rfl, ?_⟩) hHeld ?_
  rotate_left
  · intro w hSw; obtain ⟨sA, sB, sC, sE, sM, sN, sK, sT⟩ := hSw; obtain ⟨u0, u1, u2, u3, u4, u5⟩ := sA.cells; go_simp <;> with_reducible rfl
  try simp only [Act.put, List.setIfInBounds_toArray, List.set_cons_zero, List.set_cons_succ]
  refine wpAnyH_ready (rs := [43]) (by kernel_rfl) (by simp) ?_
  refine AllReadyH.cons rfl (fun K hK => ?_) AllReadyH.nil
  go_simp
  refine (eqc (same_taken d) (same_dom _ _ d d _ (DC_12.out.below hq10).di (DA_12.out.below hq10).di)).mono ?_
  rintro e w311 ⟨rfl, hb⟩
  have hq11 : Below w12.heap.size w12 w311 := hq10.trans (hb.mono hq10.size)
  clear hb hq10
  refine hK.out _ _ (HK _ hq11) (fun hHeld2 => ?_)
  clear hK K hHeld
  have hHeld := hHeld2
  clear hHeld2
  try simp only [Act.put, List.setIfInBounds_toArray, List.set_cons_zero, List.set_cons_succ]
  refine wpAnyH_take (i := 44) (oi := { dst := some 78, op := Go.Op.unOp Go.UnOp.not 4 (Go.Operand.tmp 77), type := 4, pos := "law.go:108", after := #[{ on := 43, ground := Go.Ground.data }, { on := 40, ground := Go.Ground.guard }], guard := some (40, false) }) (v := ?_) rfl (by kernel_rfl) (by kernel_rfl) (by kernel_rfl) (fun _ _ _ h => h) (Or.inl ⟨by rfl, ?_⟩) hHeld ?_
  rotate_left
  · intro w hSw; (try dsimp only at hSw); go_simp <;> with_reducible rfl
  try simp only [Act.put, List.setIfInBounds_toArray, List.set_cons_zero, List.set_cons_succ]
  refine wpAnyH_take (i := 45) (oi := { dst := some 79, op := Go.Op.pick (Go.Operand.tmp 74) (Go.Operand.const (Go.Value.bool true)) (Go.Operand.tmp 78), type := 4, pos := "law.go:108", after := #[{ on := 40, ground := Go.Ground.data }, { on := 44, ground := Go.Ground.data }], guard := none }) (v := ?_) rfl (by kernel_rfl) (by kernel_rfl) (by kernel_rfl) (fun _ _ _ h => h) (Or.inl ⟨by rfl, ?_⟩) hHeld ?_
  rotate_left
  · intro w hSw; (try dsimp only at hSw); go_simp <;> with_reducible rfl
  try simp only [Act.put, List.setIfInBounds_toArray, List.set_cons_zero, List.set_cons_succ]
  refine wpAnyH_done (by kernel_rfl) ?_ _
  clear hHeld HK
  have hbl : Below w4.heap.size w4 w311 := hb12.trans (hq11.mono hb12.size)
  have HA : Hid _ := HA_12.out.below hq11
  have HB : Hid _ := HB_12.out.below hq11
  have HC : Hid _ := HC_12.out.below hq11
  have HE : Hid _ := HE_12.out.below hq11
  have HM : Hid _ := HM_12.out.below hq11
  have HN : Hid _ := HN_12.out.below hq11
  have HK : Hid _ := HK_12.out.below hq11
  have HT : Hid _ := HT_12.out.below hq11
  have VM : Hid (Wr2 w311 w4.heap.size (.slice q1m h1m j1m) ∧ Wr2 w311 w4.heap.size (.slice q2m h2m j2m) ∧ h1m ≤ 1000 ∧ h2m ≤ 1000) := dv_wr (DM_12.out.below hq11) (must_right d x)
  have VN : Hid (Wr2 w311 w4.heap.size (.slice q1n h1n j1n) ∧ Wr2 w311 w4.heap.size (.slice q2n h2n j2n) ∧ h1n ≤ 1000 ∧ h2n ≤ 1000) := dv_wr (DN_12.out.below hq11) (not_right d x)
  have VK : Hid (Wr2 w311 w4.heap.size (.slice q1k h1k j1k) ∧ Wr2 w311 w4.heap.size (.slice q2k h2k j2k) ∧ h1k ≤ 1000 ∧ h2k ≤ 1000) := dv_wr (DK_12.out.below hq11) (card_right d y z)
  have VT : Hid (Wr2 w311 w4.heap.size (.slice q1t h1t j1t) ∧ Wr2 w311 w4.heap.size (.slice q2t h2t j2t) ∧ h1t ≤ 1000 ∧ h2t ≤ 1000) := dv_wr (DT_12.out.below hq11) (both_right d o)
  clear HA_12 HB_12 HC_12 HE_12 HM_12 HN_12 HK_12 HT_12 DA_12 DB_12 DC_12 DE_12 DM_12 DN_12 DK_12 DT_12 hq0 hq11 hb12 hss
  have HP0 : Hid (Kps w4.heap.size w311 w311) := Kps.of_below (Below.refl _ _) hbl.size
  obtain ⟨z0, z1, z2, z3, z4, z5⟩ := (HM.out.keep HP0.out).cells
  go_wp2_with fail
  refine (spoil_any w4.heap.size _ _ _ _ _ _ _ _ _ w311 (Nat.le_trans hbl.size HP0.out.b.size) (HP0.out.r _ _ VM.out.1) (HP0.out.r _ _ VM.out.2.1) VM.out.2.2.1 VM.out.2.2.2).mono ?_
  rintro e w40 ⟨r0, rfl, hk⟩
  have HP1 : Hid (Kps w4.heap.size w311 w40) := HP0.out.trans hk
  clear hk HP0 z0 z1 z2 z3 z4 z5
  obtain ⟨z0, z1, z2, z3, z4, z5⟩ := (HN.out.keep HP1.out).cells
  go_wp2_with fail
  refine (spoil_any w4.heap.size _ _ _ _ _ _ _ _ _ w40 (Nat.le_trans hbl.size HP1.out.b.size) (HP1.out.r _ _ VN.out.1) (HP1.out.r _ _ VN.out.2.1) VN.out.2.2.1 VN.out.2.2.2).mono ?_
  rintro e w41 ⟨r1, rfl, hk⟩
  have HP2 : Hid (Kps w4.heap.size w311 w41) := HP1.out.trans hk
  clear hk HP1 z0 z1 z2 z3 z4 z5
  obtain ⟨z0, z1, z2, z3, z4, z5⟩ := (HK.out.keep HP2.out).cells
  go_wp2_with fail
  refine (spoil_any w4.heap.size _ _ _ _ _ _ _ _ _ w41 (Nat.le_trans hbl.size HP2.out.b.size) (HP2.out.r _ _ VK.out.1) (HP2.out.r _ _ VK.out.2.1) VK.out.2.2.1 VK.out.2.2.2).mono ?_
  rintro e w42 ⟨r2, rfl, hk⟩
  have HP3 : Hid (Kps w4.heap.size w311 w42) := HP2.out.trans hk
  clear hk HP2 z0 z1 z2 z3 z4 z5
  obtain ⟨z0, z1, z2, z3, z4, z5⟩ := (HT.out.keep HP3.out).cells
  go_wp2_with fail
  refine (spoil_any w4.heap.size _ _ _ _ _ _ _ _ _ w42 (Nat.le_trans hbl.size HP3.out.b.size) (HP3.out.r _ _ VT.out.1) (HP3.out.r _ _ VT.out.2.1) VT.out.2.2.1 VT.out.2.2.2).mono ?_
  rintro e w43 ⟨r3, rfl, hk⟩
  have HP4 : Hid (Kps w4.heap.size w311 w43) := HP3.out.trans hk
  clear hk HP3 z0 z1 z2 z3 z4 z5
  have hbz : Below w4.heap.size w4 w43 := hbl.trans HP4.out.b
  have HA_50 : Hid _ := HA.out.keep HP4.out
  have HB_50 : Hid _ := HB.out.keep HP4.out
  have HC_50 : Hid _ := HC.out.keep HP4.out
  have HE_50 : Hid _ := HE.out.keep HP4.out
  obtain ⟨zA0, zA1, zA2, zA3, zA4, zA5⟩ := HA_50.out.cells
  obtain ⟨zB0, zB1, zB2, zB3, zB4, zB5⟩ := HB_50.out.cells
  obtain ⟨zC0, zC1, zC2, zC3, zC4, zC5⟩ := HC_50.out.cells
  obtain ⟨zE0, zE1, zE2, zE3, zE4, zE5⟩ := HE_50.out.cells
  clear VM VN VK VT HP4 hbl HA HB HC HE HM HN HK HT
  go_wp2_with fail
  refine (one_same _ _ d fa w43 (DCB.out.below hbz) (DAB.out.below hbz)).mono ?_
  rintro e w51 ⟨rfl, hb⟩
  have HA_51 : Hid _ := HA_50.out.below hb
  have HB_51 : Hid _ := HB_50.out.below hb
  have HC_51 : Hid _ := HC_50.out.below hb
  have HE_51 : Hid _ := HE_50.out.below hb
  have hbz1 : Below w4.heap.size w4 w51 := hbz.trans (hb.mono hbz.size)
  clear zA0 zA1 zA2 zA3 zA4 zA5 zB0 zB1 zB2 zB3 zB4 zB5 zC0 zC1 zC2 zC3 zC4 zC5 zE0 zE1 zE2 zE3 zE4 zE5 hb hbz HA_50 HB_50 HC_50 HE_50
  obtain ⟨zB0, zB1, zB2, zB3, zB4, zB5⟩ := HB_51.out.cells
  obtain ⟨zE0, zE1, zE2, zE3, zE4, zE5⟩ := HE_51.out.cells
  go_wp2_with fail
  refine (one_same _ _ o fb w51 (DEB.out.below hbz1) (DBB.out.below hbz1)).mono ?_
  rintro e w52 ⟨rfl, hb⟩
  have hbz2 : Below W.heap.size W w52 := HBW.out.trans ((hbz1.trans (hb.mono hbz1.size)).mono HBW.out.size)
  clear zB0 zB1 zB2 zB3 zB4 zB5 zE0 zE1 zE2 zE3 zE4 zE5 hb hbz1
  go_wp2_with fail
  refine (K32.out w52 hbz2).mono ?_
  rintro e w53 ⟨rfl, hb⟩
  have hbz3 : Below W.heap.size W w53 := hbz2.trans (hb.mono hbz2.size)
  go_wp2
  go_ret
  exact ⟨rfl, hbz3⟩
end Go.Proofs.YthpbgplbgnefcaaGreatDoor
