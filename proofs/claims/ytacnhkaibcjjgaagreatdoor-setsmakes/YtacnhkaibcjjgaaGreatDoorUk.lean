/-
  What is proved here: the walk of SetsMakes.
-/
import Derived.Test.YtacnhkaibcjjgaaGreatDoorUij
import Derived.Test.YtacnhkaibcjjgaaGreatDoorRj
import Derived.Test.YtacnhkaibcjjgaaGreatDoorTd
import Derived.Test.YtacnhkaibcjjgaaGreatDoorKmj
import Derived.Test.YtacnhkaibcjjgaaGreatDoorTej
namespace Go.Proofs.YtacnhkaibcjjgaaGreatDoor
open Go.RowKit Go.Shelf
set_option linter.unusedVariables false
set_option linter.unusedSimpArgs false

theorem lent_look (v : Value) (d : SD) (fr : List Int) (W : World) (h : Dr W v d fr) :
    Calls Tryz.prog 37 #[v] W fun e w' => ∃ x0 ra rn rc a1 n1 c1 a2 n2 c2 x4 x5, e = .returned (.agg #[.bool x0, .slice ra rn rc, .slice a1 n1 c1, .slice a2 n2 c2, .int .i64 x4, .int .i64 x5]) ∧ Hid (Dr w' (.agg #[.bool x0, .slice ra rn rc, .slice a1 n1 c1, .slice a2 n2 c2, .int .i64 x4, .int .i64 x5]) d fr) ∧ Below W.heap.size W w' :=
  (lent_dom v d fr W h).mono fun e w' ⟨v, he, hD, hb⟩ => by
    obtain ⟨x0, ra, rn, rc, a1, n1, c1, a2, n2, c2, x4, x5, rfl, _⟩ := hD.look
    exact ⟨_, _, _, _, _, _, _, _, _, _, _, _, he, hD, hb⟩

def LI (w : World) (g n c : Nat) (l : List Int) : Prop := l.length = n ∧ n + 1 ≤ c ∧ c ≤ maxLen ∧ RowI w 0 (.slice (some ⟨g, 0, none⟩) (n + 1) c) (l ++ [7777])
theorem LI.below {w w' : World} {g n c : Nat} {l : List Int} (h : LI w g n c l) (hb : Below w.heap.size w w') : LI w' g n c l := ⟨h.1, h.2.1, h.2.2.1, own_keepB h.2.2.2 hb⟩
theorem LI.si {w : World} {g n c : Nat} {l : List Int} (h : LI w g n c l) : Si w (.slice (some ⟨g, 0, none⟩) n c) l := by
  obtain ⟨hn, h1, h2, h3⟩ := h
  subst hn
  obtain ⟨g', cap', e, _, hg, _, _, hcell⟩ := h3.at (j := l.length) (by simp)
  simp only [Value.slice.injEq, Option.some.injEq, Addr.mk.injEq] at e
  obtain ⟨⟨rfl, _⟩, _, rfl⟩ := e
  refine ⟨some ⟨g, 0, none⟩, c, rfl, fun _ => ⟨g, 0, rfl, hg, fun i hi => ?_⟩⟩
  have := hcell i (by simp; omega)
  rw [List.getElem?_append_left hi] at this
  rw [Nat.zero_add]; exact this
theorem lent_li (s : Value) (l : List Int) (w : World) (h : Si w s l) (hr : l.length * 8 ≤ 140737488351232) :
    Calls Tryz.prog 9 #[s] w fun e w' => ∃ g n c, e = .returned (.slice (some ⟨g, 0, none⟩) n c) ∧ Hid (LI w' g n c l) ∧ Below w.heap.size w w' :=
  (lentI_any s l w h hr).mono fun e w' ⟨g, c, he, h1, h2, h3, hb⟩ => ⟨g, _, c, he, ⟨rfl, h1, h2, own_base h3 (Nat.zero_le _)⟩, hb⟩
theorem kept_li (g n c : Nat) (s2 : Value) (l : List Int) (w : World) (h : LI w g n c l) (h2 : Si w s2 l) (hr : l.length * 8 ≤ 140737488351232) :
    Calls Tryz.prog 31 #[.slice (some ⟨g, 0, none⟩) n c, s2] w fun e w' => e = .returned (.bool true) ∧ Below w.heap.size w w' := by
  obtain ⟨hn, hc, hm, h1⟩ := h
  subst hn
  exact (keptI_any g c s2 l w h1 hc hm h2 hr).mono fun e w' ⟨he, n, hw⟩ => ⟨he, by rw [hw]; exact below_drewN (Below.refl _ _) _⟩
theorem dv2 {F : Nat} {args : Array Value} {W : World} {D : SD} {C : Int} (k : Calls Tryz.prog F args W fun e w' => ∃ v', e = .returned (.tuple #[v', .int .i64 C]) ∧ Dv W.heap.size w' v' D ∧ Below W.heap.size W w') :
    Calls Tryz.prog F args W fun e w' => ∃ x0 p1 m1 k1 p2 m2 k2 x4 x5, e = .returned (.tuple #[.agg #[.bool x0, .slice none 0 0, .slice p1 m1 k1, .slice p2 m2 k2, .int .i64 x4, .int .i64 x5], .int .i64 C]) ∧ Hid (Dv W.heap.size w' (.agg #[.bool x0, .slice none 0 0, .slice p1 m1 k1, .slice p2 m2 k2, .int .i64 x4, .int .i64 x5]) D) ∧ Below W.heap.size W w' :=
  k.mono fun e w' ⟨v, he, hD, hb⟩ => by
    obtain ⟨x0, p1, m1, k1, p2, m2, k2, x4, x5, rfl, _⟩ := hD.look
    exact ⟨_, _, _, _, _, _, _, _, _, he, hD, hb⟩
theorem of_len (lo up : List Int) (least most : Int) : (ofD lo up least most).lo.length ≤ 64 ∧ (ofD lo up least most).up.length ≤ 64 := by
  unfold ofD
  cases h : ofB lo up least
  · exact ⟨Nat.zero_le _, Nat.zero_le _⟩
  · rw [if_pos rfl]
    unfold ofB at h
    simp only [Bool.and_eq_true, decide_eq_true_eq] at h
    obtain ⟨⟨⟨h1, h2⟩, h3⟩, _⟩ := h
    have h1 : IsSet lo := of_decide_eq_true h1
    have h2 : IsSet up := of_decide_eq_true h2
    rw [tkS_yes h1, tkS_yes h2] at h3
    have := tight_right least most h1 h2 ((subB_iff _ _).1 h3)
    exact ⟨this.2.2.1.1, this.2.2.2.1.1⟩
theorem one_eql {B B' : Nat} (v u : Value) (D : SD) (W : World) (h : Dv B W v D) (ho : Dv B' W u D) (l1 : D.lo.length ≤ 64) (l2 : D.up.length ≤ 64) :
    Calls Tryz.prog 35 #[v, u] W fun e w' => e = .returned (.bool true) ∧ Below W.heap.size W w' :=
  eqc (eqD_refl _) (one_nil v u _ _ W (h.base (Nat.zero_le _)) (ho.base (Nat.zero_le _)) rfl (by omega) (by omega))
theorem dv_wrl {B : Nat} {w : World} {x0 : Bool} {p1 p2 : Option Addr} {m1 k1 m2 k2 : Nat} {x4 x5 : Int} {D : SD} (h : Dv B w (.agg #[.bool x0, .slice none 0 0, .slice p1 m1 k1, .slice p2 m2 k2, .int .i64 x4, .int .i64 x5]) D) (l1 : D.lo.length ≤ 64) (l2 : D.up.length ≤ 64) :
    Wr2 w B (.slice p1 m1 k1) ∧ Wr2 w B (.slice p2 m2 k2) ∧ m1 ≤ 1000 ∧ m2 ≤ 1000 := by
  obtain ⟨slo, sup, e, e0, o1, o2⟩ := h
  injection e with e
  injection e with e
  injection e with _ e
  injection e with _ e
  injection e with e2 e
  injection e with e3 e
  subst e2 e3
  obtain ⟨_, _, e2⟩ := own_slice o1
  obtain ⟨_, _, e3⟩ := own_slice o2
  injection e2 with _ e2 _
  injection e3 with _ e3 _
  exact ⟨own_wr2 o1, own_wr2 o2, by omega, by omega⟩
theorem fix_len (d : SD) : (fixL d).length ≤ 64 := by
  unfold fixL
  split
  · exact (taken_right d).2.2.1.1
  · exact Nat.zero_le _
theorem eqi {P : Program} {F : Nat} {args : Array Value} {W : World} {b c : Int} {Q : World → Prop} (h : b = c) (k : Calls P F args W fun e w' => e = .returned (.int .i64 b) ∧ Q w') : Calls P F args W fun e w' => e = .returned (.int .i64 c) ∧ Q w' := by
  subst h; exact k

set_option maxRecDepth 100000 in
set_option maxHeartbeats 4000000 in
theorem makes_walk (s0 s1 : Value) (lo up : List Int) (x y : Int) (va : Value) (d : SD) (fa : List Int) (s5 : Value) (l : List Int) (W : World) (h0 : Si W s0 lo) (h1 : Si W s1 up) (hz0 : lo.length * 8 ≤ 140737488351232) (hz1 : up.length * 8 ≤ 140737488351232)
    (ha : Dr W va d fa) (h5 : Si W s5 l) (hM : MaxL W) (hE : ErrV W) (hT : Tens W.heap.size W) :
    Calls Tryz.prog 4 #[s0, s1, .int .i64 x, .int .i64 y, va, s5] W fun e w' => e = .returned (.bool true) ∧ Below W.heap.size W w' := by
  have HM : Hid (MaxL W) := hM
  have hM0 := hM.1
  have HE' : Hid (ErrV W) := hE
  have hE0 := hE.1
  have HT : Hid (Tens W.heap.size W) := hT
  have K32 : Hid (∀ X, Below W.heap.size W X → Calls Tryz.prog 32 #[] X fun e w' => e = .returned (.bool true) ∧ Below X.heap.size X w') := fun X hX => known32 X (HM.out.below hX hM0) (HE'.out.below hX (by omega)) (Tens.here HT.out hX)
  obtain ⟨al, nl, cl, rfl, S00, _⟩ := si_look h0
  obtain ⟨au, nu, cu, rfl, S10, _⟩ := si_look h1
  obtain ⟨a5, n5, c5, rfl, S50, _⟩ := si_look h5
  obtain ⟨x0a, raa, rna, rca, a1a, n1a, c1a, a2a, n2a, c2a, x4a, x5a, rfl, _⟩ := ha.look
  have DA0 : Hid (Dr W (.agg #[.bool x0a, .slice raa rna rca, .slice a1a n1a c1a, .slice a2a n2a c2a, .int .i64 x4a, .int .i64 x5a]) d fa) := ha
  have HZ0 : Hid (lo.length * 8 ≤ 140737488351232) := hz0
  have HZ1 : Hid (up.length * 8 ≤ 140737488351232) := hz1
  obtain ⟨HL1, HL2⟩ : Hid ((ofD lo up x y).lo.length ≤ 64) ∧ Hid ((ofD lo up x y).up.length ≤ 64) := of_len lo up x y
  have kOf := fun s1 s2 X (g1 : Si X s1 lo) (g2 : Si X s2 up) => dv2 (of_any s1 s2 lo up x y X g1 g2)
  have kRf := fun s1 s2 X (g1 : Si X s1 lo) (g2 : Si X s2 up) => dv2 (refof_any s1 s2 lo up x y X g1 g2)
  generalize ofC lo up x = C at kOf kRf
  generalize ofD lo up x y = D at kOf kRf HL1 HL2
  have KOF : Hid _ := kOf
  have KRF : Hid _ := kRf
  clear ha hM hE hT HM HE' HT hM0 hE0 h0 h1 h5 hz0 hz1 kOf kRf
  obtain ⟨w0, hW0⟩ : ∃ X, (W.alloc (Obj.cells #[.bool x0a, .slice raa rna rca, .slice a1a n1a c1a, .slice a2a n2a c2a, .int .i64 x4a, .int .i64 x5a] 37)) = X := ⟨_, rfl⟩
  have HW0 : Hid _ := hW0
  have hb0 : Below W.heap.size W w0 := by rw [← hW0]; exact ((Below.refl _ W).alloc (by simp <;> omega) _)
  have HA_0 : Hid (R6 w0 W.heap.size (.bool x0a) (.slice raa rna rca) (.slice a1a n1a c1a) (.slice a2a n2a c2a) (.int .i64 x4a) (.int .i64 x5a)) := by rw [← hW0]; exact (R6.new _ _ _ _ _ _ _)
  clear hW0
  have DA_0 : Hid (Dr w0 (.agg #[.bool x0a, .slice raa rna rca, .slice a1a n1a c1a, .slice a2a n2a c2a, .int .i64 x4a, .int .i64 x5a]) d fa) := DA0.out.below hb0
  have S0_0 : Hid (Si w0 (.slice al nl cl) lo) := S00.out.below hb0
  have S1_0 : Hid (Si w0 (.slice au nu cu) up) := S10.out.below hb0
  have S5_0 : Hid (Si w0 (.slice a5 n5 c5) l) := S50.out.below hb0
  clear DA0 S00 S10 S50
  go_enter Tryz.func4, Tryz.ntmps4
  go_upto_region 1 with (fail)
  rw [HW0.out]
  clear HW0
  go_wp2_with fail
  refine (lent_li _ lo _ S0_0.out HZ0.out).mono ?_
  rintro e w1 ⟨gx, nx, cx, rfl, HX, hb⟩
  have hb1 : Below W.heap.size W w1 := hb0.trans (hb.mono hb0.size)
  have HA_1 : Hid _ := HA_0.out.below hb
  have DA_1 : Hid (Dr w1 (.agg #[.bool x0a, .slice raa rna rca, .slice a1a n1a c1a, .slice a2a n2a c2a, .int .i64 x4a, .int .i64 x5a]) d fa) := DA_0.out.below hb
  have S0_1 : Hid (Si w1 (.slice al nl cl) lo) := S0_0.out.below hb
  have S1_1 : Hid (Si w1 (.slice au nu cu) up) := S1_0.out.below hb
  have S5_1 : Hid (Si w1 (.slice a5 n5 c5) l) := S5_0.out.below hb
  have X_1 : Hid (LI w1 gx nx cx lo) := HX.out
  clear HX
  clear hb hb0 HA_0 DA_0 S0_0 S1_0 S5_0
  go_wp2_with fail
  refine (lent_li _ up _ S1_1.out HZ1.out).mono ?_
  rintro e w2 ⟨gy, ny, cy, rfl, HY, hb⟩
  have hb2 : Below W.heap.size W w2 := hb1.trans (hb.mono hb1.size)
  have HA_2 : Hid _ := HA_1.out.below hb
  have DA_2 : Hid (Dr w2 (.agg #[.bool x0a, .slice raa rna rca, .slice a1a n1a c1a, .slice a2a n2a c2a, .int .i64 x4a, .int .i64 x5a]) d fa) := DA_1.out.below hb
  have S0_2 : Hid (Si w2 (.slice al nl cl) lo) := S0_1.out.below hb
  have S1_2 : Hid (Si w2 (.slice au nu cu) up) := S1_1.out.below hb
  have S5_2 : Hid (Si w2 (.slice a5 n5 c5) l) := S5_1.out.below hb
  have X_2 : Hid (LI w2 gx nx cx lo) := X_1.out.below hb
  have Y_2 : Hid (LI w2 gy ny cy up) := HY.out
  clear HY
  clear hb hb1 HA_1 DA_1 S0_1 S1_1 S5_1 X_1
  have HBWB : Hid (Below W.heap.size W w2) := hb2
  clear hb2
  have hb2 : Below w2.heap.size w2 w2 := Below.refl _ _
  have DAB : Hid (Dr w2 (.agg #[.bool x0a, .slice raa rna rca, .slice a1a n1a c1a, .slice a2a n2a c2a, .int .i64 x4a, .int .i64 x5a]) d fa) := DA_2.out
  have S0B : Hid (Si w2 (.slice al nl cl) lo) := S0_2.out
  have S1B : Hid (Si w2 (.slice au nu cu) up) := S1_2.out
  have S5B : Hid (Si w2 (.slice a5 n5 c5) l) := S5_2.out
  have XB : Hid (LI w2 gx nx cx lo) := X_2.out
  have YB : Hid (LI w2 gy ny cy up) := Y_2.out
  have HAB : Hid _ := HA_2.out
  go_wp2_with fail
  refine (KOF.out _ _ _ X_2.out.si Y_2.out.si).mono ?_
  rintro e w3 ⟨g0p, q1p, h1p, j1p, q2p, h2p, j2p, g4p, g5p, rfl, HV, hb⟩
  have hb3 : Below w2.heap.size w2 w3 := hb2.trans (hb.mono hb2.size)
  have HA_3 : Hid _ := HA_2.out.below hb
  have DA_3 : Hid (Dr w3 (.agg #[.bool x0a, .slice raa rna rca, .slice a1a n1a c1a, .slice a2a n2a c2a, .int .i64 x4a, .int .i64 x5a]) d fa) := DA_2.out.below hb
  have S0_3 : Hid (Si w3 (.slice al nl cl) lo) := S0_2.out.below hb
  have S1_3 : Hid (Si w3 (.slice au nu cu) up) := S1_2.out.below hb
  have S5_3 : Hid (Si w3 (.slice a5 n5 c5) l) := S5_2.out.below hb
  have X_3 : Hid (LI w3 gx nx cx lo) := X_2.out.below hb
  have Y_3 : Hid (LI w3 gy ny cy up) := Y_2.out.below hb
  have DP_3 : Hid (Dv w2.heap.size w3 (.agg #[.bool g0p, .slice none 0 0, .slice q1p h1p j1p, .slice q2p h2p j2p, .int .i64 g4p, .int .i64 g5p]) D) := HV.out.base hb2.size
  clear HV
  clear hb hb2 HA_2 DA_2 S0_2 S1_2 S5_2 X_2 Y_2
  have hz := (Below.refl w3.heap.size w3).alloc (Nat.le_refl _) (Obj.cells #[.bool g0p, .slice none 0 0, .slice q1p h1p j1p, .slice q2p h2p j2p, .int .i64 g4p, .int .i64 g5p] 37)
  have hb4 := hb3.trans (hz.mono hb3.size)
  have HP_4 : Hid _ := R6.new w3 (.bool g0p) (.slice none 0 0) (.slice q1p h1p j1p) (.slice q2p h2p j2p) (.int .i64 g4p) (.int .i64 g5p)
  have HA_4 : Hid _ := HA_3.out.below hz
  have DA_4 : Hid (Dr (w3.alloc (Obj.cells #[.bool g0p, .slice none 0 0, .slice q1p h1p j1p, .slice q2p h2p j2p, .int .i64 g4p, .int .i64 g5p] 37)) (.agg #[.bool x0a, .slice raa rna rca, .slice a1a n1a c1a, .slice a2a n2a c2a, .int .i64 x4a, .int .i64 x5a]) d fa) := DA_3.out.below hz
  have S0_4 : Hid (Si (w3.alloc (Obj.cells #[.bool g0p, .slice none 0 0, .slice q1p h1p j1p, .slice q2p h2p j2p, .int .i64 g4p, .int .i64 g5p] 37)) (.slice al nl cl) lo) := S0_3.out.below hz
  have S1_4 : Hid (Si (w3.alloc (Obj.cells #[.bool g0p, .slice none 0 0, .slice q1p h1p j1p, .slice q2p h2p j2p, .int .i64 g4p, .int .i64 g5p] 37)) (.slice au nu cu) up) := S1_3.out.below hz
  have S5_4 : Hid (Si (w3.alloc (Obj.cells #[.bool g0p, .slice none 0 0, .slice q1p h1p j1p, .slice q2p h2p j2p, .int .i64 g4p, .int .i64 g5p] 37)) (.slice a5 n5 c5) l) := S5_3.out.below hz
  have X_4 : Hid (LI (w3.alloc (Obj.cells #[.bool g0p, .slice none 0 0, .slice q1p h1p j1p, .slice q2p h2p j2p, .int .i64 g4p, .int .i64 g5p] 37)) gx nx cx lo) := X_3.out.below hz
  have Y_4 : Hid (LI (w3.alloc (Obj.cells #[.bool g0p, .slice none 0 0, .slice q1p h1p j1p, .slice q2p h2p j2p, .int .i64 g4p, .int .i64 g5p] 37)) gy ny cy up) := Y_3.out.below hz
  have DP_4 : Hid (Dv w2.heap.size (w3.alloc (Obj.cells #[.bool g0p, .slice none 0 0, .slice q1p h1p j1p, .slice q2p h2p j2p, .int .i64 g4p, .int .i64 g5p] 37)) (.agg #[.bool g0p, .slice none 0 0, .slice q1p h1p j1p, .slice q2p h2p j2p, .int .i64 g4p, .int .i64 g5p]) D) := DP_3.out.below hz
  clear hz HA_3 DA_3 S0_3 S1_3 S5_3 X_3 Y_3 DP_3 hb3
  go_upto_region 4 with (fail)
  generalize w3.alloc (Obj.cells #[.bool g0p, .slice none 0 0, .slice q1p h1p j1p, .slice q2p h2p j2p, .int .i64 g4p, .int .i64 g5p] 37) = w4 at hb4 HA_4 HP_4 DA_4 S0_4 S1_4 S5_4 X_4 Y_4 DP_4 ⊢
  generalize w3.heap.size = GP at HP_4 ⊢
  go_wp2_with fail
  refine (KRF.out _ _ _ S0_4.out S1_4.out).mono ?_
  rintro e w5 ⟨g0q, q1q, h1q, j1q, q2q, h2q, j2q, g4q, g5q, rfl, HV, hb⟩
  have hb5 : Below w2.heap.size w2 w5 := hb4.trans (hb.mono hb4.size)
  have HA_5 : Hid _ := HA_4.out.below hb
  have HP_5 : Hid _ := HP_4.out.below hb
  have DA_5 : Hid (Dr w5 (.agg #[.bool x0a, .slice raa rna rca, .slice a1a n1a c1a, .slice a2a n2a c2a, .int .i64 x4a, .int .i64 x5a]) d fa) := DA_4.out.below hb
  have S0_5 : Hid (Si w5 (.slice al nl cl) lo) := S0_4.out.below hb
  have S1_5 : Hid (Si w5 (.slice au nu cu) up) := S1_4.out.below hb
  have S5_5 : Hid (Si w5 (.slice a5 n5 c5) l) := S5_4.out.below hb
  have X_5 : Hid (LI w5 gx nx cx lo) := X_4.out.below hb
  have Y_5 : Hid (LI w5 gy ny cy up) := Y_4.out.below hb
  have DP_5 : Hid (Dv w2.heap.size w5 (.agg #[.bool g0p, .slice none 0 0, .slice q1p h1p j1p, .slice q2p h2p j2p, .int .i64 g4p, .int .i64 g5p]) D) := DP_4.out.below hb
  have DQ_5 : Hid (Dv w2.heap.size w5 (.agg #[.bool g0q, .slice none 0 0, .slice q1q h1q j1q, .slice q2q h2q j2q, .int .i64 g4q, .int .i64 g5q]) D) := HV.out.base hb4.size
  clear HV
  clear hb hb4 HA_4 HP_4 DA_4 S0_4 S1_4 S5_4 X_4 Y_4 DP_4
  have hz := (Below.refl w5.heap.size w5).alloc (Nat.le_refl _) (Obj.cells #[.bool g0q, .slice none 0 0, .slice q1q h1q j1q, .slice q2q h2q j2q, .int .i64 g4q, .int .i64 g5q] 37)
  have hb6 := hb5.trans (hz.mono hb5.size)
  have HQ_6 : Hid _ := R6.new w5 (.bool g0q) (.slice none 0 0) (.slice q1q h1q j1q) (.slice q2q h2q j2q) (.int .i64 g4q) (.int .i64 g5q)
  have HA_6 : Hid _ := HA_5.out.below hz
  have HP_6 : Hid _ := HP_5.out.below hz
  have DA_6 : Hid (Dr (w5.alloc (Obj.cells #[.bool g0q, .slice none 0 0, .slice q1q h1q j1q, .slice q2q h2q j2q, .int .i64 g4q, .int .i64 g5q] 37)) (.agg #[.bool x0a, .slice raa rna rca, .slice a1a n1a c1a, .slice a2a n2a c2a, .int .i64 x4a, .int .i64 x5a]) d fa) := DA_5.out.below hz
  have S0_6 : Hid (Si (w5.alloc (Obj.cells #[.bool g0q, .slice none 0 0, .slice q1q h1q j1q, .slice q2q h2q j2q, .int .i64 g4q, .int .i64 g5q] 37)) (.slice al nl cl) lo) := S0_5.out.below hz
  have S1_6 : Hid (Si (w5.alloc (Obj.cells #[.bool g0q, .slice none 0 0, .slice q1q h1q j1q, .slice q2q h2q j2q, .int .i64 g4q, .int .i64 g5q] 37)) (.slice au nu cu) up) := S1_5.out.below hz
  have S5_6 : Hid (Si (w5.alloc (Obj.cells #[.bool g0q, .slice none 0 0, .slice q1q h1q j1q, .slice q2q h2q j2q, .int .i64 g4q, .int .i64 g5q] 37)) (.slice a5 n5 c5) l) := S5_5.out.below hz
  have X_6 : Hid (LI (w5.alloc (Obj.cells #[.bool g0q, .slice none 0 0, .slice q1q h1q j1q, .slice q2q h2q j2q, .int .i64 g4q, .int .i64 g5q] 37)) gx nx cx lo) := X_5.out.below hz
  have Y_6 : Hid (LI (w5.alloc (Obj.cells #[.bool g0q, .slice none 0 0, .slice q1q h1q j1q, .slice q2q h2q j2q, .int .i64 g4q, .int .i64 g5q] 37)) gy ny cy up) := Y_5.out.below hz
  have DP_6 : Hid (Dv w2.heap.size (w5.alloc (Obj.cells #[.bool g0q, .slice none 0 0, .slice q1q h1q j1q, .slice q2q h2q j2q, .int .i64 g4q, .int .i64 g5q] 37)) (.agg #[.bool g0p, .slice none 0 0, .slice q1p h1p j1p, .slice q2p h2p j2p, .int .i64 g4p, .int .i64 g5p]) D) := DP_5.out.below hz
  have DQ_6 : Hid (Dv w2.heap.size (w5.alloc (Obj.cells #[.bool g0q, .slice none 0 0, .slice q1q h1q j1q, .slice q2q h2q j2q, .int .i64 g4q, .int .i64 g5q] 37)) (.agg #[.bool g0q, .slice none 0 0, .slice q1q h1q j1q, .slice q2q h2q j2q, .int .i64 g4q, .int .i64 g5q]) D) := DQ_5.out.below hz
  clear hz HA_5 HP_5 DA_5 S0_5 S1_5 S5_5 X_5 Y_5 DP_5 DQ_5 hb5
  go_upto_region 5 with (fail)
  generalize w5.alloc (Obj.cells #[.bool g0q, .slice none 0 0, .slice q1q h1q j1q, .slice q2q h2q j2q, .int .i64 g4q, .int .i64 g5q] 37) = w6 at hb6 HA_6 HP_6 HQ_6 DA_6 S0_6 S1_6 S5_6 X_6 Y_6 DP_6 DQ_6 ⊢
  generalize w5.heap.size = GQ at HQ_6 ⊢
  obtain ⟨zP0, zP1, zP2, zP3, zP4, zP5⟩ := HP_6.out.cells
  obtain ⟨zQ0, zQ1, zQ2, zQ3, zQ4, zQ5⟩ := HQ_6.out.cells
  go_wp2_with fail
  refine (one_eql _ _ _ _ DP_6.out DQ_6.out HL1.out HL2.out).mono ?_
  rintro e w7 ⟨rfl, hb⟩
  have hb7 : Below w2.heap.size w2 w7 := hb6.trans (hb.mono hb6.size)
  have HA_7 : Hid _ := HA_6.out.below hb
  have HP_7 : Hid _ := HP_6.out.below hb
  have HQ_7 : Hid _ := HQ_6.out.below hb
  have DA_7 : Hid (Dr w7 (.agg #[.bool x0a, .slice raa rna rca, .slice a1a n1a c1a, .slice a2a n2a c2a, .int .i64 x4a, .int .i64 x5a]) d fa) := DA_6.out.below hb
  have S0_7 : Hid (Si w7 (.slice al nl cl) lo) := S0_6.out.below hb
  have S1_7 : Hid (Si w7 (.slice au nu cu) up) := S1_6.out.below hb
  have S5_7 : Hid (Si w7 (.slice a5 n5 c5) l) := S5_6.out.below hb
  have X_7 : Hid (LI w7 gx nx cx lo) := X_6.out.below hb
  have Y_7 : Hid (LI w7 gy ny cy up) := Y_6.out.below hb
  have DP_7 : Hid (Dv w2.heap.size w7 (.agg #[.bool g0p, .slice none 0 0, .slice q1p h1p j1p, .slice q2p h2p j2p, .int .i64 g4p, .int .i64 g5p]) D) := DP_6.out.below hb
  have DQ_7 : Hid (Dv w2.heap.size w7 (.agg #[.bool g0q, .slice none 0 0, .slice q1q h1q j1q, .slice q2q h2q j2q, .int .i64 g4q, .int .i64 g5q]) D) := DQ_6.out.below hb
  clear zP0 zP1 zP2 zP3 zP4 zP5 zQ0 zQ1 zQ2 zQ3 zQ4 zQ5
  clear hb hb6 HA_6 HP_6 HQ_6 DA_6 S0_6 S1_6 S5_6 X_6 Y_6 DP_6 DQ_6
  obtain ⟨zP0, zP1, zP2, zP3, zP4, zP5⟩ := HP_7.out.cells
  have hcc : (C != C) = false := by simp
  have VP : Hid (Wr2 w7 w2.heap.size (.slice q1p h1p j1p) ∧ Wr2 w7 w2.heap.size (.slice q2p h2p j2p) ∧ h1p ≤ 1000 ∧ h2p ≤ 1000) := dv_wrl DP_7.out HL1.out HL2.out
  go_wp2_with fail
  refine (spoil_any w2.heap.size _ _ _ _ _ _ _ _ _ w7 hb7.size VP.out.1 VP.out.2.1 VP.out.2.2.1 VP.out.2.2.2).mono ?_
  rintro e ws ⟨rs, rfl, hk⟩
  have hbs : Below w2.heap.size w2 ws := hb7.trans hk.b
  clear zP0 zP1 zP2 zP3 zP4 zP5
  clear hk VP hcc HA_7 HP_7 HQ_7 DA_7 S0_7 S1_7 S5_7 X_7 Y_7 DP_7 DQ_7 hb7
  have hbW8 : Below W.heap.size W ws := HBWB.out.trans (hbs.mono HBWB.out.size)
  have HA_8 : Hid _ := HAB.out.below hbs
  have DA_8 : Hid (Dr ws (.agg #[.bool x0a, .slice raa rna rca, .slice a1a n1a c1a, .slice a2a n2a c2a, .int .i64 x4a, .int .i64 x5a]) d fa) := DAB.out.below hbs
  have S0_8 : Hid (Si ws (.slice al nl cl) lo) := S0B.out.below hbs
  have S1_8 : Hid (Si ws (.slice au nu cu) up) := S1B.out.below hbs
  have S5_8 : Hid (Si ws (.slice a5 n5 c5) l) := S5B.out.below hbs
  have X_8 : Hid (LI ws gx nx cx lo) := XB.out.below hbs
  have Y_8 : Hid (LI ws gy ny cy up) := YB.out.below hbs
  clear HBWB hbs HAB DAB S0B S1B S5B XB YB
  obtain ⟨w8, hws⟩ : ∃ X, ws = X := ⟨_, rfl⟩
  rw [hws] at hbW8 HA_8 DA_8 S0_8 S1_8 S5_8 X_8 Y_8 ⊢
  clear hws ws
  have hb8 : Below W.heap.size W w8 := hbW8
  clear hbW8
  go_wp2_with fail
  refine (kept_li _ _ _ _ lo _ X_8.out S0_8.out HZ0.out).mono ?_
  rintro e w9 ⟨rfl, hb⟩
  have hb9 : Below W.heap.size W w9 := hb8.trans (hb.mono hb8.size)
  have HA_9 : Hid _ := HA_8.out.below hb
  have DA_9 : Hid (Dr w9 (.agg #[.bool x0a, .slice raa rna rca, .slice a1a n1a c1a, .slice a2a n2a c2a, .int .i64 x4a, .int .i64 x5a]) d fa) := DA_8.out.below hb
  have S0_9 : Hid (Si w9 (.slice al nl cl) lo) := S0_8.out.below hb
  have S1_9 : Hid (Si w9 (.slice au nu cu) up) := S1_8.out.below hb
  have S5_9 : Hid (Si w9 (.slice a5 n5 c5) l) := S5_8.out.below hb
  have X_9 : Hid (LI w9 gx nx cx lo) := X_8.out.below hb
  have Y_9 : Hid (LI w9 gy ny cy up) := Y_8.out.below hb
  clear hb hb8 HA_8 DA_8 S0_8 S1_8 S5_8 X_8 Y_8
  go_wp2_with fail
  refine (kept_li _ _ _ _ up _ Y_9.out S1_9.out HZ1.out).mono ?_
  rintro e w10 ⟨rfl, hb⟩
  have hb10 : Below W.heap.size W w10 := hb9.trans (hb.mono hb9.size)
  have HA_10 : Hid _ := HA_9.out.below hb
  have DA_10 : Hid (Dr w10 (.agg #[.bool x0a, .slice raa rna rca, .slice a1a n1a c1a, .slice a2a n2a c2a, .int .i64 x4a, .int .i64 x5a]) d fa) := DA_9.out.below hb
  have S0_10 : Hid (Si w10 (.slice al nl cl) lo) := S0_9.out.below hb
  have S1_10 : Hid (Si w10 (.slice au nu cu) up) := S1_9.out.below hb
  have S5_10 : Hid (Si w10 (.slice a5 n5 c5) l) := S5_9.out.below hb
  have X_10 : Hid (LI w10 gx nx cx lo) := X_9.out.below hb
  have Y_10 : Hid (LI w10 gy ny cy up) := Y_9.out.below hb
  clear hb hb9 HA_9 DA_9 S0_9 S1_9 S5_9 X_9 Y_9
  clear X_10
  clear Y_10
  clear S0_10
  clear S1_10
  obtain ⟨zA0, zA1, zA2, zA3, zA4, zA5⟩ := HA_10.out.cells
  go_wp2_with fail
  refine (lent_look _ d fa _ DA_10.out).mono ?_
  rintro e w11 ⟨x0e, rae, rne, rce, a1e, n1e, c1e, a2e, n2e, c2e, x4e, x5e, rfl, HDE, hb⟩
  have hb11 : Below W.heap.size W w11 := hb10.trans (hb.mono hb10.size)
  have HA_11 : Hid _ := HA_10.out.below hb
  have DA_11 : Hid (Dr w11 (.agg #[.bool x0a, .slice raa rna rca, .slice a1a n1a c1a, .slice a2a n2a c2a, .int .i64 x4a, .int .i64 x5a]) d fa) := DA_10.out.below hb
  have S5_11 : Hid (Si w11 (.slice a5 n5 c5) l) := S5_10.out.below hb
  have DE_11 : Hid (Dr w11 (.agg #[.bool x0e, .slice rae rne rce, .slice a1e n1e c1e, .slice a2e n2e c2e, .int .i64 x4e, .int .i64 x5e]) d fa) := HDE.out
  clear HDE
  clear zA0 zA1 zA2 zA3 zA4 zA5
  clear hb hb10 HA_10 DA_10 S5_10
  have hz := below_setRow ((Below.refl w11.heap.size w11).alloc (Nat.le_refl _) (Obj.cells #[.bool false, .slice none 0 0, .slice none 0 0, .slice none 0 0, .int .i64 0, .int .i64 0] 37)) (Nat.le_refl w11.heap.size) #[.bool x0e, .slice rae rne rce, .slice a1e n1e c1e, .slice a2e n2e c2e, .int .i64 x4e, .int .i64 x5e]
  have hb12 := hb11.trans (hz.mono hb11.size)
  have HE_12 : Hid _ := (R6.new w11 (.bool false) (.slice none 0 0) (.slice none 0 0) (.slice none 0 0) (.int .i64 0) (.int .i64 0)).set (.bool x0e) (.slice rae rne rce) (.slice a1e n1e c1e) (.slice a2e n2e c2e) (.int .i64 x4e) (.int .i64 x5e)
  have HA_12 : Hid _ := HA_11.out.below hz
  have DA_12 : Hid (Dr ((w11.alloc (Obj.cells #[.bool false, .slice none 0 0, .slice none 0 0, .slice none 0 0, .int .i64 0, .int .i64 0] 37)).setRow w11.heap.size #[.bool x0e, .slice rae rne rce, .slice a1e n1e c1e, .slice a2e n2e c2e, .int .i64 x4e, .int .i64 x5e]) (.agg #[.bool x0a, .slice raa rna rca, .slice a1a n1a c1a, .slice a2a n2a c2a, .int .i64 x4a, .int .i64 x5a]) d fa) := DA_11.out.below hz
  have S5_12 : Hid (Si ((w11.alloc (Obj.cells #[.bool false, .slice none 0 0, .slice none 0 0, .slice none 0 0, .int .i64 0, .int .i64 0] 37)).setRow w11.heap.size #[.bool x0e, .slice rae rne rce, .slice a1e n1e c1e, .slice a2e n2e c2e, .int .i64 x4e, .int .i64 x5e]) (.slice a5 n5 c5) l) := S5_11.out.below hz
  have DE_12 : Hid (Dr ((w11.alloc (Obj.cells #[.bool false, .slice none 0 0, .slice none 0 0, .slice none 0 0, .int .i64 0, .int .i64 0] 37)).setRow w11.heap.size #[.bool x0e, .slice rae rne rce, .slice a1e n1e c1e, .slice a2e n2e c2e, .int .i64 x4e, .int .i64 x5e]) (.agg #[.bool x0e, .slice rae rne rce, .slice a1e n1e c1e, .slice a2e n2e c2e, .int .i64 x4e, .int .i64 x5e]) d fa) := DE_11.out.below hz
  clear hz HA_11 DA_11 S5_11 DE_11 hb11
  go_upto_region 11 with (with_reducible refine st37 rfl (.tmp 19) (.tmp 67) rfl w11.heap.size _ _ _ _ _ _ (by with_unfolding_all rfl) (by with_unfolding_all rfl) (R6.new w11 _ _ _ _ _ _) (six_dom _ _ _ _ _ _ _ _ _ _ _ _) ?_)
  simp only [Act.put]
  generalize (w11.alloc (Obj.cells #[.bool false, .slice none 0 0, .slice none 0 0, .slice none 0 0, .int .i64 0, .int .i64 0] 37)).setRow w11.heap.size #[.bool x0e, .slice rae rne rce, .slice a1e n1e c1e, .slice a2e n2e c2e, .int .i64 x4e, .int .i64 x5e] = w12 at hb12 HA_12 HE_12 DA_12 S5_12 DE_12 ⊢
  generalize w11.heap.size = GE at HE_12 ⊢
  have HBWC : Hid (Below W.heap.size W w12) := hb12
  clear hb12
  have hb12 : Below w12.heap.size w12 w12 := Below.refl _ _
  have DAC : Hid (Dr w12 (.agg #[.bool x0a, .slice raa rna rca, .slice a1a n1a c1a, .slice a2a n2a c2a, .int .i64 x4a, .int .i64 x5a]) d fa) := DA_12.out
  have S5C : Hid (Si w12 (.slice a5 n5 c5) l) := S5_12.out
  have DEC : Hid (Dr w12 (.agg #[.bool x0e, .slice rae rne rce, .slice a1e n1e c1e, .slice a2e n2e c2e, .int .i64 x4e, .int .i64 x5e]) d fa) := DE_12.out
  have HAC : Hid _ := HA_12.out
  have HEC : Hid _ := HE_12.out
  obtain ⟨zE0, zE1, zE2, zE3, zE4, zE5⟩ := HE_12.out.cells
  go_wp2_with fail
  refine (fixed_any _ d _ DE_12.out.di).mono ?_
  rintro e w13 ⟨pf, nf, cf, rfl, HF, HFN, hb⟩
  have hb13 : Below w12.heap.size w12 w13 := hb12.trans (hb.mono hb12.size)
  have HA_13 : Hid _ := HA_12.out.below hb
  have HE_13 : Hid _ := HE_12.out.below hb
  have DA_13 : Hid (Dr w13 (.agg #[.bool x0a, .slice raa rna rca, .slice a1a n1a c1a, .slice a2a n2a c2a, .int .i64 x4a, .int .i64 x5a]) d fa) := DA_12.out.below hb
  have S5_13 : Hid (Si w13 (.slice a5 n5 c5) l) := S5_12.out.below hb
  have DE_13 : Hid (Dr w13 (.agg #[.bool x0e, .slice rae rne rce, .slice a1e n1e c1e, .slice a2e n2e c2e, .int .i64 x4e, .int .i64 x5e]) d fa) := DE_12.out.below hb
  have FS_13 : Hid (Si w13 (.slice pf nf cf) (fixL d)) := own_si' HF.out HFN.out
  have FW_13 : Hid (Wr2 w13 w12.heap.size (.slice pf nf cf)) := (own_wr2 HF.out).base hb12.size
  clear HF
  clear zE0 zE1 zE2 zE3 zE4 zE5
  clear hb hb12 HA_12 HE_12 DA_12 S5_12 DE_12
  obtain ⟨zA0, zA1, zA2, zA3, zA4, zA5⟩ := HA_13.out.cells
  go_wp2_with fail
  refine (reffixed_any _ d _ DA_13.out.di).mono ?_
  rintro e w14 ⟨pg, ng, cg, rfl, HG, hb⟩
  have hb14 : Below w12.heap.size w12 w14 := hb13.trans (hb.mono hb13.size)
  have HA_14 : Hid _ := HA_13.out.below hb
  have HE_14 : Hid _ := HE_13.out.below hb
  have DA_14 : Hid (Dr w14 (.agg #[.bool x0a, .slice raa rna rca, .slice a1a n1a c1a, .slice a2a n2a c2a, .int .i64 x4a, .int .i64 x5a]) d fa) := DA_13.out.below hb
  have S5_14 : Hid (Si w14 (.slice a5 n5 c5) l) := S5_13.out.below hb
  have DE_14 : Hid (Dr w14 (.agg #[.bool x0e, .slice rae rne rce, .slice a1e n1e c1e, .slice a2e n2e c2e, .int .i64 x4e, .int .i64 x5e]) d fa) := DE_13.out.below hb
  have FS_14 : Hid (Si w14 (.slice pf nf cf) (fixL d)) := FS_13.out.below hb
  have FW_14 : Hid (Wr2 w14 w12.heap.size (.slice pf nf cf)) := FW_13.out.below hb
  have GS_14 : Hid (Si w14 (.slice pg ng cg) (fixL d)) := HG.out
  clear HG
  clear zA0 zA1 zA2 zA3 zA4 zA5
  clear hb hb13 HA_13 HE_13 DA_13 S5_13 DE_13 FS_13 FW_13
  go_upto_region 13 with (fail)
  have HK : ∀ X, Below w14.heap.size w14 X → R6 X W.heap.size (.bool x0a) (.slice raa rna rca) (.slice a1a n1a c1a) (.slice a2a n2a c2a) (.int .i64 x4a) (.int .i64 x5a) ∧ R6 X GE (.bool x0e) (.slice rae rne rce) (.slice a1e n1e c1e) (.slice a2e n2e c2e) (.int .i64 x4e) (.int .i64 x5e) := fun X hX => ⟨HA_14.out.below hX, HE_14.out.below hX⟩
  have hq0 : Below w14.heap.size w14 w14.drew := Below.drew (Below.refl _ _)
  have hfl : (fixL d).length ≤ 100000 := Nat.le_trans (fix_len d) (by omega)
  have hfb : (fixB d != fixB d) = false := by simp
  obtain ⟨rb, hRB⟩ : ∃ b, rightD d = b := ⟨_, rfl⟩
  have RB : Hid _ := hRB
  clear hRB
  obtain ⟨eb, hEB⟩ : ∃ b, emptyD d = b := ⟨_, rfl⟩
  have EB : Hid _ := hEB
  clear hEB
  obtain ⟨hb, hHB⟩ : ∃ b, hasD d l = b := ⟨_, rfl⟩
  have HB : Hid _ := hHB
  clear hHB
  obtain ⟨cb, hCB⟩ : ∃ b, countD d = b := ⟨_, rfl⟩
  have CB : Hid _ := hCB
  clear hCB
  refine wp_region_held_drew (S := (fun w' => R6 w' W.heap.size (.bool x0a) (.slice raa rna rca) (.slice a1a n1a c1a) (.slice a2a n2a c2a) (.int .i64 x4a) (.int .i64 x5a) ∧ R6 w' GE (.bool x0e) (.slice rae rne rce) (.slice a1e n1e c1e) (.slice a2e n2e c2e) (.int .i64 x4e) (.int .i64 x5e))) (by kernel_rfl) (HK _ hq0) (fun hHeld => ?_)
  refine wpAnyH_take (i := 0) (oi := { dst := some 78, op := Go.Op.load 37 (Go.Operand.tmp 19), type := 37, pos := "law.go:67", after := #[], guard := none }) (v := ?_) rfl (by kernel_rfl) (by kernel_rfl) (by kernel_rfl) (fun _ _ _ h => h) (Or.inl ⟨by rfl, ?_⟩) hHeld ?_
  rotate_left
  · intro w hSw; obtain ⟨sA, sE⟩ := hSw; obtain ⟨u0, u1, u2, u3, u4, u5⟩ := sE.cells; go_simp <;> with_reducible rfl
  try simp only [Act.put, List.setIfInBounds_toArray, List.set_cons_zero, List.set_cons_succ]
  refine wpAnyH_take (i := 2) (oi := { dst := some 80, op := Go.Op.load 37 (Go.Operand.tmp 10), type := 37, pos := "law.go:67", after := #[], guard := none }) (v := ?_) rfl (by kernel_rfl) (by kernel_rfl) (by kernel_rfl) (fun _ _ _ h => h) (Or.inl ⟨by rfl, ?_⟩) hHeld ?_
  rotate_left
  · intro w hSw; obtain ⟨sA, sE⟩ := hSw; obtain ⟨u0, u1, u2, u3, u4, u5⟩ := sA.cells; go_simp <;> with_reducible rfl
  try simp only [Act.put, List.setIfInBounds_toArray, List.set_cons_zero, List.set_cons_succ]
  refine wpAnyH_ready (rs := [1]) (by kernel_rfl) (by simp) ?_
  refine AllReadyH.cons rfl (fun K hK => ?_) AllReadyH.nil
  go_simp
  refine (eqc RB.out (right_any _ d _ (DE_14.out.below hq0).di)).mono ?_
  rintro e w301 ⟨rfl, hb⟩
  have hq1 : Below w14.heap.size w14 w301 := hq0.trans (hb.mono hq0.size)
  clear hb
  refine hK.out _ _ (HK _ hq1) (fun hHeld2 => ?_)
  clear hK K hHeld
  have hHeld := hHeld2
  clear hHeld2
  try simp only [Act.put, List.setIfInBounds_toArray, List.set_cons_zero, List.set_cons_succ]
  refine wpAnyH_ready (rs := [3]) (by kernel_rfl) (by simp) ?_
  refine AllReadyH.cons rfl (fun K hK => ?_) AllReadyH.nil
  go_simp
  refine (eqc RB.out (refright_any _ d _ (DA_14.out.below hq1).di)).mono ?_
  rintro e w302 ⟨rfl, hb⟩
  have hq2 : Below w14.heap.size w14 w302 := hq1.trans (hb.mono hq1.size)
  clear hb hq1
  refine hK.out _ _ (HK _ hq2) (fun hHeld2 => ?_)
  clear hK K hHeld
  have hHeld := hHeld2
  clear hHeld2
  try simp only [Act.put, List.setIfInBounds_toArray, List.set_cons_zero, List.set_cons_succ]
  refine wpAnyH_take (i := 4) (oi := { dst := some 82, op := Go.Op.binOp Go.BinOp.neq 4 (Go.Operand.tmp 79) (Go.Operand.tmp 81) 4, type := 4, pos := "law.go:67", after := #[{ on := 1, ground := Go.Ground.data }, { on := 3, ground := Go.Ground.data }], guard := none }) (v := ?_) rfl (by kernel_rfl) (by kernel_rfl) (by kernel_rfl) (fun _ _ _ h => h) (Or.inl ⟨by rfl, ?_⟩) hHeld ?_
  rotate_left
  · intro w hSw; (try dsimp only at hSw); go_simp <;> with_reducible rfl
  try simp only [Act.put, List.setIfInBounds_toArray, List.set_cons_zero, List.set_cons_succ]
  refine wpAnyH_take (i := 5) (oi := { dst := some 83, op := Go.Op.move (Go.Operand.tmp 82), type := 4, pos := "law.go:67", after := #[{ on := 4, ground := Go.Ground.data }, { on := 3, ground := Go.Ground.chain }], guard := none }) (v := ?_) rfl (by kernel_rfl) (by kernel_rfl) (by kernel_rfl) (fun _ _ _ h => h) (Or.inl ⟨by rfl, ?_⟩) hHeld ?_
  rotate_left
  · intro w hSw; (try dsimp only at hSw); go_simp <;> with_reducible rfl
  try simp only [Act.put, List.setIfInBounds_toArray, List.set_cons_zero, List.set_cons_succ]
  refine wpAnyH_take (i := 6) (oi := { dst := some 84, op := Go.Op.load 37 (Go.Operand.tmp 19), type := 37, pos := "law.go:67", after := #[{ on := 5, ground := Go.Ground.guard }], guard := some (5, false) }) (v := ?_) rfl (by kernel_rfl) (by kernel_rfl) (by kernel_rfl) (fun _ _ _ h => h) (Or.inl ⟨by rfl, ?_⟩) hHeld ?_
  rotate_left
  · intro w hSw; obtain ⟨sA, sE⟩ := hSw; obtain ⟨u0, u1, u2, u3, u4, u5⟩ := sE.cells; go_simp <;> with_reducible rfl
  try simp only [Act.put, List.setIfInBounds_toArray, List.set_cons_zero, List.set_cons_succ]
  refine wpAnyH_take (i := 8) (oi := { dst := some 86, op := Go.Op.load 37 (Go.Operand.tmp 10), type := 37, pos := "law.go:67", after := #[{ on := 5, ground := Go.Ground.guard }], guard := some (5, false) }) (v := ?_) rfl (by kernel_rfl) (by kernel_rfl) (by kernel_rfl) (fun _ _ _ h => h) (Or.inl ⟨by rfl, ?_⟩) hHeld ?_
  rotate_left
  · intro w hSw; obtain ⟨sA, sE⟩ := hSw; obtain ⟨u0, u1, u2, u3, u4, u5⟩ := sA.cells; go_simp <;> with_reducible rfl
  try simp only [Act.put, List.setIfInBounds_toArray, List.set_cons_zero, List.set_cons_succ]
  refine wpAnyH_ready (rs := [7]) (by kernel_rfl) (by simp) ?_
  refine AllReadyH.cons rfl (fun K hK => ?_) AllReadyH.nil
  go_simp
  refine (eqc EB.out (empty_any _ d _ (DE_14.out.below hq2).di)).mono ?_
  rintro e w303 ⟨rfl, hb⟩
  have hq3 : Below w14.heap.size w14 w303 := hq2.trans (hb.mono hq2.size)
  clear hb hq2
  refine hK.out _ _ (HK _ hq3) (fun hHeld2 => ?_)
  clear hK K hHeld
  have hHeld := hHeld2
  clear hHeld2
  try simp only [Act.put, List.setIfInBounds_toArray, List.set_cons_zero, List.set_cons_succ]
  refine wpAnyH_ready (rs := [9]) (by kernel_rfl) (by simp) ?_
  refine AllReadyH.cons rfl (fun K hK => ?_) AllReadyH.nil
  go_simp
  refine (eqc EB.out (refempty_any _ d _ (DA_14.out.below hq3).di)).mono ?_
  rintro e w304 ⟨rfl, hb⟩
  have hq4 : Below w14.heap.size w14 w304 := hq3.trans (hb.mono hq3.size)
  clear hb hq3
  refine hK.out _ _ (HK _ hq4) (fun hHeld2 => ?_)
  clear hK K hHeld
  have hHeld := hHeld2
  clear hHeld2
  try simp only [Act.put, List.setIfInBounds_toArray, List.set_cons_zero, List.set_cons_succ]
  refine wpAnyH_take (i := 10) (oi := { dst := some 88, op := Go.Op.binOp Go.BinOp.neq 4 (Go.Operand.tmp 85) (Go.Operand.tmp 87) 4, type := 4, pos := "law.go:67", after := #[{ on := 7, ground := Go.Ground.data }, { on := 9, ground := Go.Ground.data }, { on := 5, ground := Go.Ground.guard }], guard := some (5, false) }) (v := ?_) rfl (by kernel_rfl) (by kernel_rfl) (by kernel_rfl) (fun _ _ _ h => h) (Or.inl ⟨by rfl, ?_⟩) hHeld ?_
  rotate_left
  · intro w hSw; (try dsimp only at hSw); go_simp <;> with_reducible rfl
  try simp only [Act.put, List.setIfInBounds_toArray, List.set_cons_zero, List.set_cons_succ]
  refine wpAnyH_take (i := 11) (oi := { dst := some 89, op := Go.Op.pick (Go.Operand.tmp 83) (Go.Operand.const (Go.Value.bool true)) (Go.Operand.tmp 88), type := 4, pos := "law.go:67", after := #[{ on := 5, ground := Go.Ground.data }, { on := 10, ground := Go.Ground.data }], guard := none }) (v := ?_) rfl (by kernel_rfl) (by kernel_rfl) (by kernel_rfl) (fun _ _ _ h => h) (Or.inl ⟨by rfl, ?_⟩) hHeld ?_
  rotate_left
  · intro w hSw; (try dsimp only at hSw); go_simp <;> with_reducible rfl
  try simp only [Act.put, List.setIfInBounds_toArray, List.set_cons_zero, List.set_cons_succ]
  refine wpAnyH_take (i := 12) (oi := { dst := some 90, op := Go.Op.move (Go.Operand.tmp 89), type := 4, pos := "law.go:67", after := #[{ on := 11, ground := Go.Ground.data }, { on := 9, ground := Go.Ground.chain }], guard := none }) (v := ?_) rfl (by kernel_rfl) (by kernel_rfl) (by kernel_rfl) (fun _ _ _ h => h) (Or.inl ⟨by rfl, ?_⟩) hHeld ?_
  rotate_left
  · intro w hSw; (try dsimp only at hSw); go_simp <;> with_reducible rfl
  try simp only [Act.put, List.setIfInBounds_toArray, List.set_cons_zero, List.set_cons_succ]
  refine wpAnyH_take (i := 13) (oi := { dst := some 91, op := Go.Op.load 37 (Go.Operand.tmp 19), type := 37, pos := "law.go:67", after := #[{ on := 12, ground := Go.Ground.guard }], guard := some (12, false) }) (v := ?_) rfl (by kernel_rfl) (by kernel_rfl) (by kernel_rfl) (fun _ _ _ h => h) (Or.inl ⟨by rfl, ?_⟩) hHeld ?_
  rotate_left
  · intro w hSw; obtain ⟨sA, sE⟩ := hSw; obtain ⟨u0, u1, u2, u3, u4, u5⟩ := sE.cells; go_simp <;> with_reducible rfl
  try simp only [Act.put, List.setIfInBounds_toArray, List.set_cons_zero, List.set_cons_succ]
  refine wpAnyH_take (i := 14) (oi := { dst := some 92, op := Go.Op.move (Go.Operand.tmp 5), type := 22, pos := "law.go:67", after := #[{ on := 12, ground := Go.Ground.guard }], guard := some (12, false) }) (v := ?_) rfl (by kernel_rfl) (by kernel_rfl) (by kernel_rfl) (fun _ _ _ h => h) (Or.inl ⟨by rfl, ?_⟩) hHeld ?_
  rotate_left
  · intro w hSw; (try dsimp only at hSw); go_simp <;> with_reducible rfl
  try simp only [Act.put, List.setIfInBounds_toArray, List.set_cons_zero, List.set_cons_succ]
  refine wpAnyH_take (i := 16) (oi := { dst := some 94, op := Go.Op.load 37 (Go.Operand.tmp 10), type := 37, pos := "law.go:67", after := #[{ on := 12, ground := Go.Ground.guard }], guard := some (12, false) }) (v := ?_) rfl (by kernel_rfl) (by kernel_rfl) (by kernel_rfl) (fun _ _ _ h => h) (Or.inl ⟨by rfl, ?_⟩) hHeld ?_
  rotate_left
  · intro w hSw; obtain ⟨sA, sE⟩ := hSw; obtain ⟨u0, u1, u2, u3, u4, u5⟩ := sA.cells; go_simp <;> with_reducible rfl
  try simp only [Act.put, List.setIfInBounds_toArray, List.set_cons_zero, List.set_cons_succ]
  refine wpAnyH_take (i := 17) (oi := { dst := some 95, op := Go.Op.move (Go.Operand.tmp 5), type := 22, pos := "law.go:67", after := #[{ on := 12, ground := Go.Ground.guard }], guard := some (12, false) }) (v := ?_) rfl (by kernel_rfl) (by kernel_rfl) (by kernel_rfl) (fun _ _ _ h => h) (Or.inl ⟨by rfl, ?_⟩) hHeld ?_
  rotate_left
  · intro w hSw; (try dsimp only at hSw); go_simp <;> with_reducible rfl
  try simp only [Act.put, List.setIfInBounds_toArray, List.set_cons_zero, List.set_cons_succ]
  refine wpAnyH_ready (rs := [15]) (by kernel_rfl) (by simp) ?_
  refine AllReadyH.cons rfl (fun K hK => ?_) AllReadyH.nil
  go_simp
  refine (eqc HB.out (has_any _ _ d l _ (DE_14.out.below hq4).di (S5_14.out.below hq4))).mono ?_
  rintro e w305 ⟨rfl, hb⟩
  have hq5 : Below w14.heap.size w14 w305 := hq4.trans (hb.mono hq4.size)
  clear hb hq4
  refine hK.out _ _ (HK _ hq5) (fun hHeld2 => ?_)
  clear hK K hHeld
  have hHeld := hHeld2
  clear hHeld2
  try simp only [Act.put, List.setIfInBounds_toArray, List.set_cons_zero, List.set_cons_succ]
  refine wpAnyH_ready (rs := [18]) (by kernel_rfl) (by simp) ?_
  refine AllReadyH.cons rfl (fun K hK => ?_) AllReadyH.nil
  go_simp
  refine (eqc ((has_same d l).trans HB.out) (refhas_dom _ _ d l _ (DA_14.out.below hq5).di (S5_14.out.below hq5))).mono ?_
  rintro e w306 ⟨rfl, hb⟩
  have hq6 : Below w14.heap.size w14 w306 := hq5.trans (hb.mono hq5.size)
  clear hb hq5
  refine hK.out _ _ (HK _ hq6) (fun hHeld2 => ?_)
  clear hK K hHeld
  have hHeld := hHeld2
  clear hHeld2
  try simp only [Act.put, List.setIfInBounds_toArray, List.set_cons_zero, List.set_cons_succ]
  refine wpAnyH_take (i := 19) (oi := { dst := some 97, op := Go.Op.binOp Go.BinOp.neq 4 (Go.Operand.tmp 93) (Go.Operand.tmp 96) 4, type := 4, pos := "law.go:67", after := #[{ on := 15, ground := Go.Ground.data }, { on := 18, ground := Go.Ground.data }, { on := 12, ground := Go.Ground.guard }], guard := some (12, false) }) (v := ?_) rfl (by kernel_rfl) (by kernel_rfl) (by kernel_rfl) (fun _ _ _ h => h) (Or.inl ⟨by rfl, ?_⟩) hHeld ?_
  rotate_left
  · intro w hSw; (try dsimp only at hSw); go_simp <;> with_reducible rfl
  try simp only [Act.put, List.setIfInBounds_toArray, List.set_cons_zero, List.set_cons_succ]
  refine wpAnyH_take (i := 20) (oi := { dst := some 98, op := Go.Op.pick (Go.Operand.tmp 90) (Go.Operand.const (Go.Value.bool true)) (Go.Operand.tmp 97), type := 4, pos := "law.go:67", after := #[{ on := 12, ground := Go.Ground.data }, { on := 19, ground := Go.Ground.data }], guard := none }) (v := ?_) rfl (by kernel_rfl) (by kernel_rfl) (by kernel_rfl) (fun _ _ _ h => h) (Or.inl ⟨by rfl, ?_⟩) hHeld ?_
  rotate_left
  · intro w hSw; (try dsimp only at hSw); go_simp <;> with_reducible rfl
  try simp only [Act.put, List.setIfInBounds_toArray, List.set_cons_zero, List.set_cons_succ]
  refine wpAnyH_take (i := 21) (oi := { dst := some 99, op := Go.Op.move (Go.Operand.tmp 98), type := 4, pos := "law.go:67", after := #[{ on := 20, ground := Go.Ground.data }, { on := 18, ground := Go.Ground.chain }], guard := none }) (v := ?_) rfl (by kernel_rfl) (by kernel_rfl) (by kernel_rfl) (fun _ _ _ h => h) (Or.inl ⟨by rfl, ?_⟩) hHeld ?_
  rotate_left
  · intro w hSw; (try dsimp only at hSw); go_simp <;> with_reducible rfl
  try simp only [Act.put, List.setIfInBounds_toArray, List.set_cons_zero, List.set_cons_succ]
  refine wpAnyH_take (i := 22) (oi := { dst := some 100, op := Go.Op.move (Go.Operand.tmp 20), type := 22, pos := "law.go:67", after := #[{ on := 21, ground := Go.Ground.guard }], guard := some (21, false) }) (v := ?_) rfl (by kernel_rfl) (by kernel_rfl) (by kernel_rfl) (fun _ _ _ h => h) (Or.inl ⟨by rfl, ?_⟩) hHeld ?_
  rotate_left
  · intro w hSw; (try dsimp only at hSw); go_simp <;> with_reducible rfl
  try simp only [Act.put, List.setIfInBounds_toArray, List.set_cons_zero, List.set_cons_succ]
  refine wpAnyH_take (i := 23) (oi := { dst := some 101, op := Go.Op.move (Go.Operand.tmp 22), type := 22, pos := "law.go:67", after := #[{ on := 21, ground := Go.Ground.guard }], guard := some (21, false) }) (v := ?_) rfl (by kernel_rfl) (by kernel_rfl) (by kernel_rfl) (fun _ _ _ h => h) (Or.inl ⟨by rfl, ?_⟩) hHeld ?_
  rotate_left
  · intro w hSw; (try dsimp only at hSw); go_simp <;> with_reducible rfl
  try simp only [Act.put, List.setIfInBounds_toArray, List.set_cons_zero, List.set_cons_succ]
  refine wpAnyH_ready (rs := [24]) (by kernel_rfl) (by simp) ?_
  refine AllReadyH.cons rfl (fun K hK => ?_) AllReadyH.nil
  go_simp
  refine (same_yes _ _ (fixL d) _ (FS_14.out.below hq6) (GS_14.out.below hq6) hfl).mono ?_
  rintro e w307 ⟨rfl, hb⟩
  have hq7 : Below w14.heap.size w14 w307 := hq6.trans (hb.mono hq6.size)
  clear hb hq6
  refine hK.out _ _ (HK _ hq7) (fun hHeld2 => ?_)
  clear hK K hHeld
  have hHeld := hHeld2
  clear hHeld2
  try simp only [Act.put, List.setIfInBounds_toArray, List.set_cons_zero, List.set_cons_succ]
  refine wpAnyH_take (i := 25) (oi := { dst := some 103, op := Go.Op.unOp Go.UnOp.not 4 (Go.Operand.tmp 102), type := 4, pos := "law.go:67", after := #[{ on := 24, ground := Go.Ground.data }, { on := 21, ground := Go.Ground.guard }], guard := some (21, false) }) (v := ?_) rfl (by kernel_rfl) (by kernel_rfl) (by kernel_rfl) (fun _ _ _ h => h) (Or.inl ⟨by rfl, ?_⟩) hHeld ?_
  rotate_left
  · intro w hSw; (try dsimp only at hSw); go_simp <;> with_reducible rfl
  try simp only [Act.put, List.setIfInBounds_toArray, List.set_cons_zero, List.set_cons_succ]
  refine wpAnyH_take (i := 26) (oi := { dst := some 104, op := Go.Op.pick (Go.Operand.tmp 99) (Go.Operand.const (Go.Value.bool true)) (Go.Operand.tmp 103), type := 4, pos := "law.go:67", after := #[{ on := 21, ground := Go.Ground.data }, { on := 25, ground := Go.Ground.data }], guard := none }) (v := ?_) rfl (by kernel_rfl) (by kernel_rfl) (by kernel_rfl) (fun _ _ _ h => h) (Or.inl ⟨by rfl, ?_⟩) hHeld ?_
  rotate_left
  · intro w hSw; (try dsimp only at hSw); go_simp <;> with_reducible rfl
  try simp only [Act.put, List.setIfInBounds_toArray, List.set_cons_zero, List.set_cons_succ]
  refine wpAnyH_take (i := 27) (oi := { dst := some 105, op := Go.Op.move (Go.Operand.tmp 104), type := 4, pos := "law.go:67", after := #[{ on := 26, ground := Go.Ground.data }, { on := 24, ground := Go.Ground.chain }], guard := none }) (v := ?_) rfl (by kernel_rfl) (by kernel_rfl) (by kernel_rfl) (fun _ _ _ h => h) (Or.inl ⟨by rfl, ?_⟩) hHeld ?_
  rotate_left
  · intro w hSw; (try dsimp only at hSw); go_simp <;> with_reducible rfl
  try simp only [Act.put, List.setIfInBounds_toArray, List.set_cons_zero, List.set_cons_succ]
  refine wpAnyH_take (i := 28) (oi := { dst := some 106, op := Go.Op.move (Go.Operand.tmp 21), type := 4, pos := "law.go:67", after := #[{ on := 27, ground := Go.Ground.guard }], guard := some (27, false) }) (v := ?_) rfl (by kernel_rfl) (by kernel_rfl) (by kernel_rfl) (fun _ _ _ h => h) (Or.inl ⟨by rfl, ?_⟩) hHeld ?_
  rotate_left
  · intro w hSw; (try dsimp only at hSw); go_simp <;> with_reducible rfl
  try simp only [Act.put, List.setIfInBounds_toArray, List.set_cons_zero, List.set_cons_succ]
  refine wpAnyH_take (i := 29) (oi := { dst := some 107, op := Go.Op.move (Go.Operand.tmp 23), type := 4, pos := "law.go:67", after := #[{ on := 27, ground := Go.Ground.guard }], guard := some (27, false) }) (v := ?_) rfl (by kernel_rfl) (by kernel_rfl) (by kernel_rfl) (fun _ _ _ h => h) (Or.inl ⟨by rfl, ?_⟩) hHeld ?_
  rotate_left
  · intro w hSw; (try dsimp only at hSw); go_simp <;> with_reducible rfl
  try simp only [Act.put, List.setIfInBounds_toArray, List.set_cons_zero, List.set_cons_succ]
  refine wpAnyH_take (i := 30) (oi := { dst := some 108, op := Go.Op.binOp Go.BinOp.neq 4 (Go.Operand.tmp 106) (Go.Operand.tmp 107) 4, type := 4, pos := "law.go:67", after := #[{ on := 28, ground := Go.Ground.data }, { on := 29, ground := Go.Ground.data }, { on := 27, ground := Go.Ground.guard }], guard := some (27, false) }) (v := ?_) rfl (by kernel_rfl) (by kernel_rfl) (by kernel_rfl) (fun _ _ _ h => h) (Or.inl ⟨by rfl, ?_⟩) hHeld ?_
  rotate_left
  · intro w hSw; (try dsimp only at hSw); go_simp <;> with_reducible rfl
  try simp only [Act.put, List.setIfInBounds_toArray, List.set_cons_zero, List.set_cons_succ]
  refine wpAnyH_take (i := 31) (oi := { dst := some 109, op := Go.Op.pick (Go.Operand.tmp 105) (Go.Operand.const (Go.Value.bool true)) (Go.Operand.tmp 108), type := 4, pos := "law.go:67", after := #[{ on := 27, ground := Go.Ground.data }, { on := 30, ground := Go.Ground.data }], guard := none }) (v := ?_) rfl (by kernel_rfl) (by kernel_rfl) (by kernel_rfl) (fun _ _ _ h => h) (Or.inl ⟨by rfl, ?_⟩) hHeld ?_
  rotate_left
  · intro w hSw; (try dsimp only at hSw); go_simp <;> with_reducible rfl
  try simp only [Act.put, List.setIfInBounds_toArray, List.set_cons_zero, List.set_cons_succ]
  refine wpAnyH_take (i := 32) (oi := { dst := some 110, op := Go.Op.move (Go.Operand.tmp 109), type := 4, pos := "law.go:67", after := #[{ on := 31, ground := Go.Ground.data }, { on := 27, ground := Go.Ground.chain }], guard := none }) (v := ?_) rfl (by kernel_rfl) (by kernel_rfl) (by kernel_rfl) (fun _ _ _ h => h) (Or.inl ⟨by rfl, ?_⟩) hHeld ?_
  rotate_left
  · intro w hSw; (try dsimp only at hSw); go_simp <;> with_reducible rfl
  try simp only [Act.put, List.setIfInBounds_toArray, List.set_cons_zero, List.set_cons_succ]
  refine wpAnyH_take (i := 33) (oi := { dst := some 111, op := Go.Op.load 37 (Go.Operand.tmp 19), type := 37, pos := "law.go:67", after := #[{ on := 32, ground := Go.Ground.guard }], guard := some (32, false) }) (v := ?_) rfl (by kernel_rfl) (by kernel_rfl) (by kernel_rfl) (fun _ _ _ h => h) (Or.inl ⟨by rfl, ?_⟩) hHeld ?_
  rotate_left
  · intro w hSw; obtain ⟨sA, sE⟩ := hSw; obtain ⟨u0, u1, u2, u3, u4, u5⟩ := sE.cells; go_simp <;> with_reducible rfl
  try simp only [Act.put, List.setIfInBounds_toArray, List.set_cons_zero, List.set_cons_succ]
  refine wpAnyH_take (i := 35) (oi := { dst := some 113, op := Go.Op.load 37 (Go.Operand.tmp 10), type := 37, pos := "law.go:67", after := #[{ on := 32, ground := Go.Ground.guard }], guard := some (32, false) }) (v := ?_) rfl (by kernel_rfl) (by kernel_rfl) (by kernel_rfl) (fun _ _ _ h => h) (Or.inl ⟨by rfl, ?_⟩) hHeld ?_
  rotate_left
  · intro w hSw; obtain ⟨sA, sE⟩ := hSw; obtain ⟨u0, u1, u2, u3, u4, u5⟩ := sA.cells; go_simp <;> with_reducible rfl
  try simp only [Act.put, List.setIfInBounds_toArray, List.set_cons_zero, List.set_cons_succ]
  refine wpAnyH_ready (rs := [34]) (by kernel_rfl) (by simp) ?_
  refine AllReadyH.cons rfl (fun K hK => ?_) AllReadyH.nil
  go_simp
  refine (eqi CB.out (count_any _ d _ (DE_14.out.below hq7).di)).mono ?_
  rintro e w308 ⟨rfl, hb⟩
  have hq8 : Below w14.heap.size w14 w308 := hq7.trans (hb.mono hq7.size)
  clear hb hq7
  refine hK.out _ _ (HK _ hq8) (fun hHeld2 => ?_)
  clear hK K hHeld
  have hHeld := hHeld2
  clear hHeld2
  try simp only [Act.put, List.setIfInBounds_toArray, List.set_cons_zero, List.set_cons_succ]
  refine wpAnyH_ready (rs := [36]) (by kernel_rfl) (by simp) ?_
  refine AllReadyH.cons rfl (fun K hK => ?_) AllReadyH.nil
  go_simp
  refine (eqi CB.out (refcount_any _ d _ (DA_14.out.below hq8).di)).mono ?_
  rintro e w309 ⟨rfl, hb⟩
  have hq9 : Below w14.heap.size w14 w309 := hq8.trans (hb.mono hq8.size)
  clear hb hq8
  refine hK.out _ _ (HK _ hq9) (fun hHeld2 => ?_)
  clear hK K hHeld
  have hHeld := hHeld2
  clear hHeld2
  try simp only [Act.put, List.setIfInBounds_toArray, List.set_cons_zero, List.set_cons_succ]
  refine wpAnyH_take (i := 37) (oi := { dst := some 115, op := Go.Op.binOp Go.BinOp.neq 2 (Go.Operand.tmp 112) (Go.Operand.tmp 114) 2, type := 4, pos := "law.go:67", after := #[{ on := 34, ground := Go.Ground.data }, { on := 36, ground := Go.Ground.data }, { on := 32, ground := Go.Ground.guard }], guard := some (32, false) }) (v := ?_) rfl (by kernel_rfl) (by kernel_rfl) (by kernel_rfl) (fun _ _ _ h => h) (Or.inl ⟨by rfl, ?_⟩) hHeld ?_
  rotate_left
  · intro w hSw; (try dsimp only at hSw); go_simp <;> with_reducible rfl
  try simp only [Act.put, List.setIfInBounds_toArray, List.set_cons_zero, List.set_cons_succ]
  refine wpAnyH_take (i := 38) (oi := { dst := some 116, op := Go.Op.pick (Go.Operand.tmp 110) (Go.Operand.const (Go.Value.bool true)) (Go.Operand.tmp 115), type := 4, pos := "law.go:67", after := #[{ on := 32, ground := Go.Ground.data }, { on := 37, ground := Go.Ground.data }], guard := none }) (v := ?_) rfl (by kernel_rfl) (by kernel_rfl) (by kernel_rfl) (fun _ _ _ h => h) (Or.inl ⟨by rfl, ?_⟩) hHeld ?_
  rotate_left
  · intro w hSw; (try dsimp only at hSw); go_simp <;> with_reducible rfl
  try simp only [Act.put, List.setIfInBounds_toArray, List.set_cons_zero, List.set_cons_succ]
  refine wpAnyH_done (by kernel_rfl) ?_ _
  clear hHeld HK
  have hbl : Below w12.heap.size w12 w309 := hb14.trans (hq9.mono hb14.size)
  have HA : Hid _ := HA_14.out.below hq9
  have HE : Hid _ := HE_14.out.below hq9
  have VF : Hid (Wr2 w309 w12.heap.size (.slice pf nf cf)) := FW_14.out.below hq9
  have hnf : nf ≤ 1000 := by have h9 := HFN.out; have := fix_len d; omega
  clear HA_14 HE_14 DA_14 S5_14 DE_14 FS_14 FW_14 GS_14 hq0 hq9 hb14 RB EB HB CB hfl HFN
  have HP0 : Hid (Kps w12.heap.size w309 w309) := Kps.of_below (Below.refl _ _) hbl.size
  go_wp2
  go_loopw [24] (fun i wr => ∃ k : Nat, k ≤ nf ∧ i = .int .i64 k ∧ Hid (Kps w12.heap.size w309 wr)) (fun i _ => nf - (intOf i).toNat)
  case atStart => exact ⟨0, Nat.zero_le _, rfl, HP0.out⟩
  case round =>
    clear HP0
    obtain ⟨k, hk, rfl, HP⟩ := hrel
    by_cases hlt : k < nf
    · obtain ⟨g, off, u, cur, hpp, hg, q1, q2, hgc⟩ := (HP.out.r _ _ VF.out).at k hlt
      subst hpp
      have hlt' : (k : Int) < (nf : Int) := by omega
      have HNX : Hid (Kps w12.heap.size w309 (wr.setCell ⟨g, off + k, none⟩ (.int .i64 99))) := HP.out.set hgc hg _
      clear hgc
      go_wp2
      refine ⟨⟨k + 1, by omega, by go_num, HNX.out⟩, ?_⟩
      simp [intOf]; omega
    · have hlt' : ¬ (k : Int) < (nf : Int) := by omega
      clear hk hlt
      have hbz : Below w12.heap.size w12 wr := hbl.trans HP.out.b
      have HA_50 : Hid _ := HA.out.keep HP.out
      have HE_50 : Hid _ := HE.out.keep HP.out
      obtain ⟨zA0, zA1, zA2, zA3, zA4, zA5⟩ := HA_50.out.cells
      obtain ⟨zE0, zE1, zE2, zE3, zE4, zE5⟩ := HE_50.out.cells
      have HDE : Hid _ := DEC.out.below hbz
      have HDA : Hid _ := DAC.out.below hbz
      clear HP VF hbl HA HE
      go_wp2_with fail
      refine (one_same _ _ d fa wr HDE.out HDA.out).mono ?_
      rintro e w51 ⟨rfl, hb⟩
      have hbz2 : Below W.heap.size W w51 := HBWC.out.trans ((hbz.trans (hb.mono hbz.size)).mono HBWC.out.size)
      clear zA0 zA1 zA2 zA3 zA4 zA5 zE0 zE1 zE2 zE3 zE4 zE5 hb hbz
      go_wp2_with fail
      refine (K32.out w51 hbz2).mono ?_
      rintro e w53 ⟨rfl, hb⟩
      have hbz3 : Below W.heap.size W w53 := hbz2.trans (hb.mono hbz2.size)
      go_wp2
      go_ret
      exact ⟨rfl, hbz3⟩
end Go.Proofs.YtacnhkaibcjjgaaGreatDoor
