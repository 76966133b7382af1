/-
  What is proved here: A value that stands as it is written is read: whole.
  What is proved here: A truth that stands as it is written is read; a value of any kind.
-/
import Derived.Test.YtdnhhmnllhlbbaaGreatDoorPb
import Derived.Test.YtdnhhmnllhlbbaaGreatDoorOvj
namespace Go.Proofs.YtdnhhmnllhlbbaaGreatDoor
open Go.RowKit Go.Shelf
set_option linter.unusedVariables false
set_option linter.unusedSimpArgs false
theorem Kept.setNew {X : Nat → Prop} {a w : World} (h : Kept X a w) {g : Nat} (hg : a.heap.size ≤ g) (o : Nat) (v : Value) : Kept X a (w.setCell ⟨g, o, none⟩ v) :=
  ⟨h.os, h.tape, h.output, by simpa [World.setCell] using h.size, fun b hb hX => (Below.heap_setCell _ _ _ _ (by show b ≠ g; omega)).trans (h.block b hb hX)⟩
/-- What reading a value does where it stands at a place: it is read, and the place is the one behind it. -/
def ReadV (s : List UInt8) (g q : Nat) (v : Vl) (W : World) (e : Ending) (w : World) : Prop := ∃ sv, e = .returned (.agg #[.bool v.set, .int .i64 v.n, sv]) ∧ Si W.heap.size w sv v.s ∧ Blk w g #[.string (bs s), .int .i64 (q : Int)] 115 ∧ Kept (fun b => b = g) W w

set_option maxRecDepth 100000 in
set_option maxHeartbeats 4000000 in
theorem whole122 {W : World} {g p : Nat} (F : Nat) (k : Int) (s r : List UInt8) (v : Vl) (hX : Blk W g #[.string (bs s), .int .i64 (p : Int)] 115) (hv : isVal v.set v.n v.s k = true) (hat : s.drop p = valT k v ++ r) (hp : p ≤ s.length) (hs : s.length ≤ 1000000000000) (hT : Tens W)
    (KE : ∀ args w, (callFunc F args).run Tryz.prog w = .ok (.enter F args) w) (KR : ∀ X, Below W.heap.size W X → Calls Tryz.prog F #[.string (bs (valT k v))] X fun e w' => ∃ sv, e = .returned (.agg #[.bool v.set, .int .i64 v.n, sv]) ∧ Si X.heap.size w' sv v.s ∧ Below X.heap.size X w') :
    Calls Tryz.prog 122 #[.pointer (some ⟨g, 0, none⟩), .int .i64 k, .int .i64 ((p + (valT k v).length : Nat) : Int), .func (.func F) #[] #[]] W fun e w' => ReadV s g (p + (valT k v).length) v W e w' := by
  have hle : p + (valT k v).length ≤ s.length := by
    have := congrArg List.length hat
    rw [List.length_drop, List.length_append] at this
    omega
  have hcut := bs_cut s p (p + (valT k v).length) (by omega) hle
  rw [hat, Nat.add_sub_cancel_left, List.take_left] at hcut
  have HT : Hid (Tens W) := hT
  have HV : Hid (isVal v.set v.n v.s k = true) := hv
  have hvl : v.s.length ≤ 64 := by
    rcases isVal_more hv with ⟨_, _, _, h⟩ | ⟨_, _, h, _⟩ | ⟨_, _, h, _⟩
    · exact (setOk_facts h).1
    · rw [h]; simp
    · rw [h]; simp
  have HVL : Hid (v.s.length ≤ 64) := hvl
  have HKR : Hid (∀ X, Below W.heap.size W X → Calls Tryz.prog F #[.string (bs (valT k v))] X fun e w' => ∃ sv, e = .returned (.agg #[.bool v.set, .int .i64 v.n, sv]) ∧ Si X.heap.size w' sv v.s ∧ Below X.heap.size X w') := KR
  obtain ⟨A, hA⟩ : ∃ A, W.heap.size = A := ⟨_, rfl⟩
  have HA : Hid (W.heap.size = A) := hA
  have HGA : Hid (g < A) := by rw [← hA]; exact hX.lt
  have HX0 : Hid (Blk W g #[.string (bs s), .int .i64 (p : Int)] 115) := hX
  have HR0 : Hid (Blk (W.alloc (Obj.cells #[.bool false, .int .i64 0, .slice none 0 0] 36)) A #[.bool false, .int .i64 0, .slice none 0 0] 36) := by rw [← hA]; exact Blk.new _ _ _
  obtain ⟨w0, hw0⟩ : ∃ q, W.alloc (Obj.cells #[.bool false, .int .i64 0, .slice none 0 0] 36) = q := ⟨_, rfl⟩
  have HW0 : Hid _ := hw0
  have HB0 : Hid (Below W.heap.size W w0) := by rw [← hw0]; exact (Below.refl _ _).alloc (Nat.le_refl _) _
  obtain ⟨E, hE⟩ : ∃ E, p + (valT k v).length = E := ⟨_, rfl⟩
  obtain ⟨T, hTx⟩ : ∃ T, bs (valT k v) = T := ⟨_, rfl⟩
  have HTX : Hid (bs (valT k v) = T) := hTx
  have hEs : (E : Int) ≤ (s.length : Int) ∧ (p : Int) ≤ (E : Int) := by omega
  rw [hE, hTx] at hcut
  rw [hTx] at HKR
  rw [hw0] at HR0
  rw [hE]
  unfold ReadV
  clear hv hat hle hT hA hw0 hE hTx hX KR hvl
  go_enter Tryz.func122, Tryz.ntmps122
  go_upto_region 1 with (fail)
  rw [HW0.out, HA.out]
  clear HW0
  have x0 : w0.cell? ⟨g, 0, none⟩ = some (.string (bs s)) := (HX0.out.below HB0.out).cell 0
  have x1 : w0.cell? ⟨g, 1, none⟩ = some (.int .i64 (p : Int)) := (HX0.out.below HB0.out).cell 1
  go_quiet (fail)
  obtain ⟨wA, hwA⟩ : ∃ q, w0.drewN nq = q := ⟨_, rfl⟩
  rw [hwA]
  have hbA : Below w0.heap.size w0 wA := by rw [← hwA]; exact ⟨rfl, rfl, rfl, Nat.le_refl _, fun _ _ => rfl⟩
  have HB1 : Hid (Below W.heap.size W wA) := HB0.out.trans (hbA.mono HB0.out.size)
  have HR1 : Hid (Blk wA A #[.bool false, .int .i64 0, .slice none 0 0] 36) := HR0.out.below hbA
  clear hwA x0 x1 hbA HB0 HR0
  have kr := HKR.out wA HB1.out
  go_wp2_with fail
  refine kr.mono ?_
  rintro e w2 ⟨sv, rfl, hsi, hb2⟩
  obtain ⟨sa, sc, rfl, _⟩ := id hsi
  have HS2 : Hid (Si (A + 1) w2 (.slice sa v.s.length sc) v.s) := hsi.lower HR1.out.lt
  have HR2 : Hid (Blk w2 A #[.bool false, .int .i64 0, .slice none 0 0] 36) := HR1.out.below hb2
  have HB2 : Hid (Below W.heap.size W w2) := HB1.out.trans (hb2.mono HB1.out.size)
  obtain ⟨m, hm⟩ : ∃ m, v.s.length = m := ⟨_, rfl⟩
  have HMM : Hid (v.s.length = m) := hm
  rw [hm] at HS2 ⊢
  obtain ⟨vb, hvb⟩ : ∃ q, v.set = q := ⟨_, rfl⟩
  obtain ⟨vn, hvn⟩ : ∃ q, v.n = q := ⟨_, rfl⟩
  have HVE : Hid (v.set = vb ∧ v.n = vn) := ⟨hvb, hvn⟩
  rw [hvb, hvn] at HV ⊢
  obtain ⟨C, hC⟩ : ∃ C, w2.heap.size = C := ⟨_, rfl⟩
  obtain ⟨w3, hw3⟩ : ∃ q, w2.alloc (Obj.cells #[.bool vb, .int .i64 vn, .slice sa m sc] 36) = q := ⟨_, rfl⟩
  have HX3 : Hid (Blk w3 C #[.bool vb, .int .i64 vn, .slice sa m sc] 36) := by rw [← hw3, ← hC]; exact Blk.new _ _ _
  have hb3 : Below w2.heap.size w2 w3 := by rw [← hw3]; exact (Below.refl _ _).alloc (Nat.le_refl _) _
  have HS3 : Hid (Si (A + 1) w3 (.slice sa m sc) v.s) := HS2.out.below hb3
  have HR3 : Hid (Blk w3 A #[.bool false, .int .i64 0, .slice none 0 0] 36) := HR2.out.below hb3
  have HB3 : Hid (Below W.heap.size W w3) := HB2.out.trans (hb3.mono HB2.out.size)
  have HAC : Hid (A < C) := by rw [← hC]; exact HR2.out.lt
  have HW3 : Hid (w2.alloc (Obj.cells #[.bool vb, .int .i64 vn, .slice sa m sc] 36) = w3 ∧ w2.heap.size = C) := ⟨hw3, hC⟩
  clear kr hsi hb2 hm hvb hvn HS2 HR2 HB2 hb3 hw3 hC HR1 HB1
  go_upto_region 3 with (fail)
  rw [HW3.out.1, HW3.out.2]
  clear HW3
  have kv := val31 vb vn k HS3.out (by have := HVL.out; omega)
  rw [HV.out] at kv
  have x0 := HX3.out.cell 0
  have x1 := HX3.out.cell 1
  have x2 := HX3.out.cell 2
  go_wp2_with fail
  refine kv.mono ?_
  rintro e w4 ⟨rfl, hb4⟩
  have HX4 : Hid (Blk w4 C #[.bool vb, .int .i64 vn, .slice sa m sc] 36) := HX3.out.below hb4
  have HS4 : Hid (Si (A + 1) w4 (.slice sa m sc) v.s) := HS3.out.below hb4
  have HR4 : Hid (Blk w4 A #[.bool false, .int .i64 0, .slice none 0 0] 36) := HR3.out.below hb4
  have HB4 : Hid (Below W.heap.size W w4) := HB3.out.trans (hb4.mono HB3.out.size)
  clear kv x0 x1 x2 hb4 HX3 HS3 HR3 HB3
  have hbr : Below w4.heap.size w4 (w4.alloc (Obj.cells #[.bool vb, .int .i64 vn, .slice sa m sc] 36)) := (Below.refl _ _).alloc (Nat.le_refl _) _
  have hone := SvX.one (v := v) (HS4.out.lower (Nat.zero_le _))
  rw [HVE.out.1, HVE.out.2] at hone
  have kt := texts26 (kind := k) hone (by simp) (by intro y hy; simp at hy; subst hy; rw [HVE.out.1, HVE.out.2]; exact HV.out) (HT.out.self (HB4.out.trans (hbr.mono HB4.out.size)))
  have HVT : Hid (valsT k [v] = valT k v) := rfl
  rw [HVT.out, HTX.out] at kt
  have HX5 : Hid (Blk (w4.alloc (Obj.cells #[.bool vb, .int .i64 vn, .slice sa m sc] 36)) C #[.bool vb, .int .i64 vn, .slice sa m sc] 36) := HX4.out.below hbr
  have HS5 : Hid (Si (A + 1) (w4.alloc (Obj.cells #[.bool vb, .int .i64 vn, .slice sa m sc] 36)) (.slice sa m sc) v.s) := HS4.out.below hbr
  have HR5 : Hid (Blk (w4.alloc (Obj.cells #[.bool vb, .int .i64 vn, .slice sa m sc] 36)) A #[.bool false, .int .i64 0, .slice none 0 0] 36) := HR4.out.below hbr
  have HB5 : Hid (Below W.heap.size W (w4.alloc (Obj.cells #[.bool vb, .int .i64 vn, .slice sa m sc] 36))) := HB4.out.trans (hbr.mono HB4.out.size)
  have x0 := HX4.out.cell 0
  have x1 := HX4.out.cell 1
  have x2 := HX4.out.cell 2
  clear hbr hone
  go_wp2_with fail
  generalize w4.alloc (Obj.cells #[.bool vb, .int .i64 vn, .slice sa m sc] 36) = w5 at *
  refine kt.mono ?_
  rintro e w6 ⟨rfl, hb6⟩
  have HX6 : Hid (Blk w6 C #[.bool vb, .int .i64 vn, .slice sa m sc] 36) := HX5.out.below hb6
  have HS6 : Hid (Si (A + 1) w6 (.slice sa m sc) v.s) := HS5.out.below hb6
  have HR6 : Hid (Blk w6 A #[.bool false, .int .i64 0, .slice none 0 0] 36) := HR5.out.below hb6
  have HB6 : Hid (Below W.heap.size W w6) := HB5.out.trans (hb6.mono HB5.out.size)
  have HG6 : Hid (Blk w6 g #[.string (bs s), .int .i64 (p : Int)] 115) := HX0.out.below HB6.out
  clear kt x0 x1 x2 hb6 HX5 HS5 HR5 HB5 HX4 HS4 HR4 HB4
  have y1 := HG6.out.cell 1
  have f1 := HG6.out.frozen 1
  go_upto_region 6 with (fail)
  have HG7 : Hid (Blk (w6.setCell ⟨g, 1, none⟩ (.int .i64 (E : Int))) g #[.string (bs s), .int .i64 (E : Int)] 115) := HG6.out.set 1 _
  have HX7 : Hid (Blk (w6.setCell ⟨g, 1, none⟩ (.int .i64 (E : Int))) C #[.bool vb, .int .i64 vn, .slice sa m sc] 36) := HX6.out.other (by have := HGA.out; have := HAC.out; omega) 1 _
  have HR7 : Hid (Blk (w6.setCell ⟨g, 1, none⟩ (.int .i64 (E : Int))) A #[.bool false, .int .i64 0, .slice none 0 0] 36) := HR6.out.other (by have := HGA.out; omega) 1 _
  have HS7 : Hid (Si (A + 1) (w6.setCell ⟨g, 1, none⟩ (.int .i64 (E : Int))) (.slice sa m sc) v.s) := HS6.out.set (by have := HGA.out; omega) 1 _
  have HK7 : Hid (Kept (fun b => b = g) W (w6.setCell ⟨g, 1, none⟩ (.int .i64 (E : Int)))) := (Kept.of_below (X := fun b => b = g) HB6.out).setCell rfl _ _
  generalize w6.setCell ⟨g, 1, none⟩ (.int .i64 (E : Int)) = w7 at *
  clear HG6 HX6 HR6 HS6 y1 f1
  have x0 := HX7.out.cell 0
  have x1 := HX7.out.cell 1
  have x2 := HX7.out.cell 2
  have y0 := HR7.out.cell 0
  have y1 := HR7.out.cell 1
  have y2 := HR7.out.cell 2
  have g0 := HR7.out.frozen 0
  have g1 := HR7.out.frozen 1
  have g2 := HR7.out.frozen 2
  go_wp2
  have HF : Blk (((w7.setCell ⟨A, 0, none⟩ (.bool vb)).setCell ⟨A, 1, none⟩ (.int .i64 vn)).setCell ⟨A, 2, none⟩ (.slice sa m sc)) A #[.bool vb, .int .i64 vn, .slice sa m sc] 36 := ((HR7.out.set 0 _).set 1 _).set 2 _
  have hgA : g ≠ A := by have := HGA.out; omega
  have hA := HA.out
  refine ⟨rfl, _, res_36 rfl _ HF rfl, _, by rw [HVE.out.1, HVE.out.2], ((((HS7.out.set (Nat.lt_succ_self _) 0 _).set (Nat.lt_succ_self _) 1 _).set (Nat.lt_succ_self _) 2 _).lower (by omega)), ((HG7.out.other hgA 0 _).other hgA 1 _).other hgA 2 _, ((HK7.out.setNew (by omega) 0 _).setNew (by omega) 1 _).setNew (by omega) 2 _⟩
end Go.Proofs.YtdnhhmnllhlbbaaGreatDoor

namespace Go.Proofs.YtdnhhmnllhlbbaaGreatDoor
open Go.RowKit Go.Shelf
set_option linter.unusedVariables false
set_option linter.unusedSimpArgs false
theorem Blk.set3 {w : World} {g : Nat} {a0 a1 a2 : Value} {ty : TypeId} (h : Blk w g #[a0, a1, a2] ty) (x0 x1 x2 : Value) : Blk (((w.setCell ⟨g, 0, none⟩ x0).setCell ⟨g, 1, none⟩ x1).setCell ⟨g, 2, none⟩ x2) g #[x0, x1, x2] ty := ((h.set 0 x0).set 1 x1).set 2 x2
theorem Blk.other3 {w : World} {g k : Nat} {cs : Array Value} {ty : TypeId} (h : Blk w g cs ty) (hk : g ≠ k) (x0 x1 x2 : Value) : Blk (((w.setCell ⟨k, 0, none⟩ x0).setCell ⟨k, 1, none⟩ x1).setCell ⟨k, 2, none⟩ x2) g cs ty := ((h.other hk 0 x0).other hk 1 x1).other hk 2 x2
theorem Kept.new3 {X : Nat → Prop} {a w : World} (h : Kept X a w) {g : Nat} (hg : a.heap.size ≤ g) (x0 x1 x2 : Value) : Kept X a (((w.setCell ⟨g, 0, none⟩ x0).setCell ⟨g, 1, none⟩ x1).setCell ⟨g, 2, none⟩ x2) := ((h.setNew hg 0 x0).setNew hg 1 x1).setNew hg 2 x2
theorem Si.set3 {B : Nat} {W : World} {s : Value} {l : List Int} (h : Si B W s l) {g : Nat} (hg : g < B) (x0 x1 x2 : Value) : Si B (((W.setCell ⟨g, 0, none⟩ x0).setCell ⟨g, 1, none⟩ x1).setCell ⟨g, 2, none⟩ x2) s l := ((h.set hg 0 x0).set hg 1 x1).set hg 2 x2
theorem hpre_f (n : Int) (r : List UInt8) : Lib.hasPrefix (truT n ++ r) [102] = decide (n ≠ 1) := by
  unfold truT Lib.hasPrefix
  by_cases h : n = 1
  · rw [if_pos h]; simp [List.isPrefixOf, h]
  · rw [if_neg h]; simp [List.isPrefixOf, h]
theorem lcp_app (t r : List UInt8) : lcp (t ++ r) t = t.length := by
  induction t with
  | nil => cases r <;> rfl
  | cons c t ih => rw [List.cons_append]; show (if c = c then lcp (t ++ r) t + 1 else 0) = _; rw [if_pos rfl, ih]; rfl

set_option maxRecDepth 100000 in
set_option maxHeartbeats 4000000 in
theorem truth121 {W : World} {g p : Nat} (s r : List UInt8) (v : Vl) (hX : Blk W g #[.string (bs s), .int .i64 (p : Int)] 115) (hv : isVal v.set v.n v.s 1 = true) (hat : s.drop p = valT 1 v ++ r) (hp : p ≤ s.length) (hs : s.length ≤ 1000000000000) (hT : Tens W) :
    Calls Tryz.prog 121 #[.pointer (some ⟨g, 0, none⟩)] W fun e w' => ReadV s g (p + (valT 1 v).length) v W e w' := by
  have hat' : s.drop p = truT v.n ++ r := hat
  obtain ⟨hv1, hv2, hv3, hv4⟩ : v.set = false ∧ v.s = [] ∧ 0 ≤ v.n ∧ v.n ≤ 1 := by
    rcases isVal_more hv with ⟨h, _⟩ | ⟨_, h⟩ | ⟨h, _⟩
    · exact absurd h (by decide)
    · exact h
    · exact absurd h (by decide)
  have hn : v.n = 0 ∨ v.n = 1 := by omega
  have hfr := bs_from s p hp
  have HT : Hid (Tens W) := hT
  have KP : Hid (∀ X, Calls Tryz.prog 90 #[.string (bs (s.drop p)), .string ⟨#[102]⟩] X fun e w' => e = .returned (.bool (decide (v.n ≠ 1))) ∧ w' = X) := fun X => by
    have := hpre90 (s.drop p) [102] X
    rw [hat', hpre_f, ← hat'] at this
    exact this
  have HLC : Hid (lcp (s.drop p) (truT v.n) = (truT v.n).length) := by unfold Hid; rw [hat']; exact lcp_app _ _
  have KN : Hid (∀ X, Blk X g #[.string (bs s), .int .i64 (p : Int)] 115 → Calls Tryz.prog 72 #[.pointer (some ⟨g, 0, none⟩), .string (bs (truT v.n))] X fun e w' => NeedE s (truT v.n) p g X e w') := fun X hX => need72 s (truT v.n) hX hp hs (by unfold truT; split <;> simp)
  obtain ⟨A, hA⟩ : ∃ A, W.heap.size = A := ⟨_, rfl⟩
  have HA : Hid (W.heap.size = A) := hA
  have HGA : Hid (g < A) := by rw [← hA]; exact hX.lt
  have HX0 : Hid (Blk W g #[.string (bs s), .int .i64 (p : Int)] 115) := hX
  obtain ⟨w1, hw1⟩ : ∃ q, (W.alloc (Obj.cells #[.bool false, .int .i64 0, .slice none 0 0] 36)).alloc (Obj.cells #[.bool false, .int .i64 1, .slice none 0 0] 36) = q := ⟨_, rfl⟩
  have hbe : Below W.heap.size W w1 := by rw [← hw1]; exact ((Below.refl _ _).alloc (Nat.le_refl _) _).alloc (by rw [World.size_alloc]; omega) _
  have HR1 : Hid (Blk w1 A #[.bool false, .int .i64 0, .slice none 0 0] 36) := by rw [← hw1, ← hA]; exact (Blk.new _ _ _).alloc _
  obtain ⟨C, hC⟩ : ∃ C, A + 1 = C := ⟨_, rfl⟩
  have HC1 : Hid (Blk w1 C #[.bool false, .int .i64 1, .slice none 0 0] 36) := by
    rw [← hw1, ← hC, ← hA]
    have := Blk.new (W.alloc (Obj.cells #[.bool false, .int .i64 0, .slice none 0 0] 36)) #[.bool false, .int .i64 1, .slice none 0 0] 36
    rw [World.size_alloc] at this
    exact this
  have HAC : Hid (A + 1 = C) := hC
  have HB1 : Hid (Below W.heap.size W w1) := hbe
  have HW1 : Hid _ := hw1
  have HV : Hid (v.set = false ∧ v.s = []) := ⟨hv1, hv2⟩
  have HVT : Hid (valT 1 v = truT v.n) := rfl
  obtain ⟨S, hS⟩ : ∃ S, s.drop p = S := ⟨_, rfl⟩
  rw [hS] at hfr KP
  clear hat hat' hA hX hw1 hbe hC hv hv1 hv2 hv3 hv4 hT hS
  go_enter Tryz.func121, Tryz.ntmps121
  go_upto_region 2 with (fail)
  rw [HW1.out, HA.out, HAC.out]
  clear HW1
  have HX1 : Hid (Blk w1.drew g #[.string (bs s), .int .i64 (p : Int)] 115) := HX0.out.below (HB1.out.drew)
  have HD1 : Hid (Below w1.heap.size w1 w1.drew) := (Below.refl _ _).drew
  refine wp_region_held_drew (S := (fun X : World => Blk X g #[.string (bs s), .int .i64 (p : Int)] 115)) (by kernel_rfl) (HX1.out) (fun hHeld => ?_)
  refine tkI 0 rfl hHeld ?_
  try simp only [Act.put, zS, eZ, eS]
  refine tkI 1 rfl hHeld ?_
  try simp only [Act.put, zS, eZ, eS]
  refine tkI 2 rfl hHeld ?_
  try simp only [Act.put, zS, eZ, eS]
  refine tkI 3 rfl hHeld ?_ (hy := by intro w hSw; have x0 := hSw.cell 0; go_simp <;> with_reducible rfl)
  try simp only [Act.put, zS, eZ, eS]
  refine tkI 4 rfl hHeld ?_
  try simp only [Act.put, zS, eZ, eS]
  refine tkI 5 rfl hHeld ?_
  try simp only [Act.put, zS, eZ, eS]
  refine tkI 6 rfl hHeld ?_
  try simp only [Act.put, zS, eZ, eS]
  refine tkI 7 rfl hHeld ?_ (hy := by intro w hSw; have x1 := hSw.cell 1; go_simp <;> with_reducible rfl)
  try simp only [Act.put, zS, eZ, eS]
  refine tkI 8 rfl hHeld ?_
  try simp only [Act.put, zS, eZ, eS]
  refine rdy 9 rfl fun K hK => ?_
  go_simp
  refine (KP.out _).mono ?_
  rintro e wa ⟨rfl, rfl⟩
  clear hHeld; refine hK.out _ _ (HX1.out) fun hHeld => ?_
  clear hK K
  try simp only [Act.put, zS, eZ, eS]
  refine wpAnyH_done (by kernel_rfl) ?_ _
  clear hHeld
  have HR2 : Hid (Blk w1.drew A #[.bool false, .int .i64 0, .slice none 0 0] 36) := HR1.out.below HD1.out
  have HC2 : Hid (Blk w1.drew C #[.bool false, .int .i64 1, .slice none 0 0] 36) := HC1.out.below HD1.out
  have HB2 : Hid (Below W.heap.size W w1.drew) := HB1.out.trans (HD1.out.mono HB1.out.size)
  generalize w1.drew = w2 at *
  clear HR1 HC1 HB1 HD1 KP hfr
  obtain ⟨nn, hnn⟩ : ∃ nn, v.n = nn := ⟨_, rfl⟩
  have HN : Hid (v.n = nn) := hnn
  rw [hnn] at hn HLC KN HVT ⊢
  clear hnn
  have KT : Hid (∀ X, Below W.heap.size W X → Calls Tryz.prog 26 #[.int .i64 1, .slice (some ⟨X.heap.size, 0, none⟩) 1 1] (X.alloc (Obj.cells #[.bool false, .int .i64 nn, .slice none 0 0] 36)) fun e w' => e = .returned (.string (bs (truT nn))) ∧ Below (X.alloc (Obj.cells #[.bool false, .int .i64 nn, .slice none 0 0] 36)).heap.size (X.alloc (Obj.cells #[.bool false, .int .i64 nn, .slice none 0 0] 36)) w') := fun X hX => by
    have hone := SvX.one (v := ⟨false, nn, []⟩) (w := X) (sv := .slice none 0 0) ⟨none, 0, rfl, fun h => by simp at h⟩
    exact texts26 (kind := 1) hone (by simp) (by intro y hy; simp only [List.mem_singleton] at hy; rw [hy]; show isVal false nn [] 1 = true; rcases hn with h | h <;> rw [h] <;> decide) (HT.out.self (hX.alloc hX.size _))
  have HKL : Hid (∀ n, p + n = p + (truT nn).length → n = (truT nn).length) := fun n h => by omega
  by_cases h1 : nn = 1
  focus
    subst h1
    have HC3 := HC2
    have HR3 := HR2
    have HX3 := HX1
    have HB3 := HB2
    clear hn HC2 HR2 HX1 HB2
    go_upto_region 4 with (fail)
  rotate_left 1
  focus
    have h0 : nn = 0 := by omega
    subst h0
    have y1 := HC2.out.cell 1
    have f1 := HC2.out.frozen 1
    have HC3 : Hid (Blk (w2.setCell ⟨C, 1, none⟩ (.int .i64 0)) C #[.bool false, .int .i64 0, .slice none 0 0] 36) := HC2.out.set 1 _
    have HR3 : Hid (Blk (w2.setCell ⟨C, 1, none⟩ (.int .i64 0)) A #[.bool false, .int .i64 0, .slice none 0 0] 36) := HR2.out.other (by have := HAC.out; omega) 1 _
    have HX3 : Hid (Blk (w2.setCell ⟨C, 1, none⟩ (.int .i64 0)) g #[.string (bs s), .int .i64 (p : Int)] 115) := HX1.out.other (by have := HAC.out; have := HGA.out; omega) 1 _
    have HB3 : Hid (Below W.heap.size W (w2.setCell ⟨C, 1, none⟩ (.int .i64 0))) := HB2.out.setCell (by have := HAC.out; have := HA.out; show W.heap.size ≤ C; omega) _
    clear hn h1 HC2 HR2 HX1 HB2
    go_upto_region 4 with (fail)
    generalize w2.setCell ⟨C, 1, none⟩ (.int .i64 0) = w2 at *
    clear y1 f1
  all_goals
    have x0 := HC3.out.cell 0
    have x1 := HC3.out.cell 1
    have x2 := HC3.out.cell 2
    have kt := KT.out w2 HB3.out
    go_wp2_with fail
    refine kt.mono ?_
    rintro e w5 ⟨rfl, hb5⟩
    have hb6 : Below w2.heap.size w2 w5 := ((Below.refl _ _).alloc (Nat.le_refl _) _).trans (hb5.mono (by rw [World.size_alloc]; omega))
    have HB5 : Hid (Below W.heap.size W w5) := HB3.out.trans (hb6.mono HB3.out.size)
    have HX5 : Hid (Blk w5 g #[.string (bs s), .int .i64 (p : Int)] 115) := HX3.out.below hb6
    have HR5 : Hid (Blk w5 A #[.bool false, .int .i64 0, .slice none 0 0] 36) := HR3.out.below hb6
    have HC5 := HC3.out.below hb6
    clear kt x0 x1 x2 hb5 hb6 HB3 HX3 HR3 HC3
    go_wp2_with fail
    refine (KN.out w5 HX5.out).mono ?_
    rintro e w6 ⟨hX6, hK6, (⟨_, rfl⟩ | ⟨hlt, _⟩)⟩
    rotate_left 1
    · rw [HLC.out] at hlt; exact absurd hlt (Nat.lt_irrefl _)
    rw [HLC.out] at hX6
    have HX6 := hX6
    have HK6 : Hid (Kept (fun b => b = g) W w6) := (Kept.of_below (X := fun b => b = g) HB5.out).trans hK6 (fun b q => .inl q)
    have hA := HA.out
    have hAC := HAC.out
    have hGA := HGA.out
    have HR6 : Hid (Blk w6 A #[.bool false, .int .i64 0, .slice none 0 0] 36) := ⟨(hK6.block A HR5.out.lt (by omega)).trans HR5.out.h⟩
    have HC6 := (⟨(hK6.block C HC5.lt (by omega)).trans HC5.h⟩ : Blk w6 C _ _)
    have x0 := HC6.cell 0
    have x1 := HC6.cell 1
    have x2 := HC6.cell 2
    have y0 := HR6.out.cell 0
    have y1 := HR6.out.cell 1
    have y2 := HR6.out.cell 2
    have g0 := HR6.out.frozen 0
    have g1 := HR6.out.frozen 1
    have g2 := HR6.out.frozen 2
    have HX7 : Hid _ := HX6
    clear hX6 hK6 HX6 HC6 HC5 hA hAC hGA
    go_wp2
    have hA := HA.out
    have hGA := HGA.out
    refine ⟨rfl, _, res_36 rfl _ (HR6.out.set3 _ _ _) rfl, .slice none 0 0, by rw [HV.out.1, HN.out], ?_, ?_, HK6.out.new3 (by omega) _ _ _⟩
    · rw [HV.out.2]; exact ⟨none, 0, rfl, fun h => by simp at h⟩
    · rw [HVT.out]; exact HX7.out.other3 (by omega) _ _ _
theorem enters124 : ∀ args w, (callFunc 124 args).run Tryz.prog w = .ok (.enter 124 args) w := enters_of Tryz.func124 (by kernel_rfl) rfl
theorem enters96 : ∀ args w, (callFunc 96 args).run Tryz.prog w = .ok (.enter 96 args) w := enters_of Tryz.func96 (by kernel_rfl) rfl

set_option maxRecDepth 100000 in
set_option maxHeartbeats 4000000 in
theorem value107 {W : World} {g p : Nat} {k : Int} (s r : List UInt8) (v : Vl) (hX : Blk W g #[.string (bs s), .int .i64 (p : Int)] 115) (hv : isVal v.set v.n v.s k = true) (hat : s.drop p = valT k v ++ r) (hr : Aft r) (hp : p ≤ s.length) (hs : s.length ≤ 1000000000000) (hT : Tens W) (hM : MaxL W) :
    Calls Tryz.prog 107 #[.pointer (some ⟨g, 0, none⟩), .int .i64 k] W fun e w' => ReadV s g (p + (valT k v).length) v W e w' := by
  obtain ⟨A, hA⟩ : ∃ A, W.heap.size = A := ⟨_, rfl⟩
  have HA : Hid (W.heap.size = A) := hA
  have HGA : Hid (g < A) := by rw [← hA]; exact hX.lt
  have HR0 : Hid (Blk (W.alloc (Obj.cells #[.bool false, .int .i64 0, .slice none 0 0] 36)) A #[.bool false, .int .i64 0, .slice none 0 0] 36) := by rw [← hA]; exact Blk.new _ _ _
  have hb0 : Below W.heap.size W (W.alloc (Obj.cells #[.bool false, .int .i64 0, .slice none 0 0] 36)) := (Below.refl _ _).alloc (Nat.le_refl _) _
  obtain ⟨w0, hw0⟩ : ∃ q, W.alloc (Obj.cells #[.bool false, .int .i64 0, .slice none 0 0] 36) = q := ⟨_, rfl⟩
  rw [hw0] at HR0 hb0
  have HW0 : Hid _ := hw0
  have HB0 : Hid (Below W.heap.size W w0) := hb0
  have hX1 := hX.below hb0
  have hT1 := hT.self hb0
  have hM1 := hM.self hb0
  rcases isVal_more hv with ⟨rfl, h1, h2, h3⟩ | ⟨rfl, h1, h2, h3, h4⟩ | ⟨rfl, h1, h2, h3, h4⟩
  · have ke := setEnd123 s hX1 hp hs
    have hlen : setLen (s.drop p) = (valT 3 v).length := by rw [hat]; exact tok_val hv (by decide) hr
    rw [hlen] at ke
    have kw := whole122 124 3 s r v hX1 hv hat hp hs hT1 enters124 (fun X hXb => by
      have := setOf124 v.s h3 (hM1.self hXb)
      rw [h1, h2]
      exact this)
    obtain ⟨E, hE⟩ : ∃ E, p + (valT 3 v).length = E := ⟨_, rfl⟩
    rw [hE] at ke kw ⊢
    clear hlen hat hE hX hT hM hb0 hX1 hT1 hM1 hv hr h3
    go_enter Tryz.func107, Tryz.ntmps107
    go_wp2_with fail
    refine ke.mono ?_
    rintro e w1 ⟨rfl, rfl⟩
    clear ke
    go_wp2_with fail
    refine kw.mono ?_
    rintro e w2 ⟨sv, rfl, hsi, hX2, hK2⟩
    obtain ⟨sa, sc, rfl, _⟩ := id hsi
    have HS2 : Hid (Si (A + 1) w2 (.slice sa v.s.length sc) v.s) := hsi.lower HR0.out.lt
    have HX2 : Hid (Blk w2 g #[.string (bs s), .int .i64 (E : Int)] 115) := hX2
    have hGA := HGA.out
    have HR2 : Hid (Blk w2 A #[.bool false, .int .i64 0, .slice none 0 0] 36) := ⟨(hK2.block A HR0.out.lt (by omega)).trans HR0.out.h⟩
    have HK2 : Hid (Kept (fun b => b = g) W w2) := (Kept.of_below (X := fun b => b = g) HB0.out).trans hK2 (fun b q => .inl q)
    have y0 := HR2.out.cell 0
    have y1 := HR2.out.cell 1
    have y2 := HR2.out.cell 2
    have g0 := HR2.out.frozen 0
    have g1 := HR2.out.frozen 1
    have g2 := HR2.out.frozen 2
    obtain ⟨m, hm⟩ : ∃ m, v.s.length = m := ⟨_, rfl⟩
    rw [hm] at HS2 ⊢
    clear kw hsi hX2 hK2 hGA hm h1 h2
    go_wp2
    have hA := HA.out
    have hGA := HGA.out
    exact ⟨rfl, _, res_36 rfl _ (HR2.out.set3 _ _ _) rfl, _, rfl, (HS2.out.set3 (Nat.lt_succ_self _) _ _ _).lower (by omega), HX2.out.other3 (by omega) _ _ _, HK2.out.new3 (by omega) _ _ _⟩
  · have kw := truth121 s r v hX1 hv hat hp hs hT1
    obtain ⟨E, hE⟩ : ∃ E, p + (valT 1 v).length = E := ⟨_, rfl⟩
    rw [hE] at kw ⊢
    clear hat hE hX hT hM hb0 hX1 hT1 hM1 hv hr h3 h4
    go_enter Tryz.func107, Tryz.ntmps107
    go_wp2_with fail
    refine kw.mono ?_
    rintro e w2 ⟨sv, rfl, hsi, hX2, hK2⟩
    obtain ⟨sa, sc, rfl, _⟩ := id hsi
    have HS2 : Hid (Si (A + 1) w2 (.slice sa v.s.length sc) v.s) := hsi.lower HR0.out.lt
    have HX2 : Hid (Blk w2 g #[.string (bs s), .int .i64 (E : Int)] 115) := hX2
    have hGA := HGA.out
    have HR2 : Hid (Blk w2 A #[.bool false, .int .i64 0, .slice none 0 0] 36) := ⟨(hK2.block A HR0.out.lt (by omega)).trans HR0.out.h⟩
    have HK2 : Hid (Kept (fun b => b = g) W w2) := (Kept.of_below (X := fun b => b = g) HB0.out).trans hK2 (fun b q => .inl q)
    have y0 := HR2.out.cell 0
    have y1 := HR2.out.cell 1
    have y2 := HR2.out.cell 2
    have g0 := HR2.out.frozen 0
    have g1 := HR2.out.frozen 1
    have g2 := HR2.out.frozen 2
    obtain ⟨m, hm⟩ : ∃ m, v.s.length = m := ⟨_, rfl⟩
    rw [hm] at HS2 ⊢
    clear kw hsi hX2 hK2 hGA hm h1 h2
    go_wp2
    have hA := HA.out
    have hGA := HGA.out
    exact ⟨rfl, _, res_36 rfl _ (HR2.out.set3 _ _ _) rfl, _, rfl, (HS2.out.set3 (Nat.lt_succ_self _) _ _ _).lower (by omega), HX2.out.other3 (by omega) _ _ _, HK2.out.new3 (by omega) _ _ _⟩
  · have ke := numEnd125 s hX1 hp hs
    have hlen : spn numB (s.drop p) = (valT 2 v).length := by rw [hat]; exact tok_val hv (by decide) hr
    rw [hlen] at ke
    have kw := whole122 96 2 s r v hX1 hv hat hp hs hT1 enters96 (fun X hXb => by
      have := number96 v.n (by omega) (by omega) X
      rw [h1, h2]
      exact this.mono fun e w' ⟨e1, e2⟩ => ⟨.slice none 0 0, e1, ⟨none, 0, rfl, fun h => by simp at h⟩, e2⟩)
    obtain ⟨E, hE⟩ : ∃ E, p + (valT 2 v).length = E := ⟨_, rfl⟩
    rw [hE] at ke kw ⊢
    clear hlen hat hE hX hT hM hb0 hX1 hT1 hM1 hv hr h3 h4
    go_enter Tryz.func107, Tryz.ntmps107
    go_wp2_with fail
    refine ke.mono ?_
    rintro e w1 ⟨rfl, rfl⟩
    clear ke
    go_wp2_with fail
    refine kw.mono ?_
    rintro e w2 ⟨sv, rfl, hsi, hX2, hK2⟩
    obtain ⟨sa, sc, rfl, _⟩ := id hsi
    have HS2 : Hid (Si (A + 1) w2 (.slice sa v.s.length sc) v.s) := hsi.lower HR0.out.lt
    have HX2 : Hid (Blk w2 g #[.string (bs s), .int .i64 (E : Int)] 115) := hX2
    have hGA := HGA.out
    have HR2 : Hid (Blk w2 A #[.bool false, .int .i64 0, .slice none 0 0] 36) := ⟨(hK2.block A HR0.out.lt (by omega)).trans HR0.out.h⟩
    have HK2 : Hid (Kept (fun b => b = g) W w2) := (Kept.of_below (X := fun b => b = g) HB0.out).trans hK2 (fun b q => .inl q)
    have y0 := HR2.out.cell 0
    have y1 := HR2.out.cell 1
    have y2 := HR2.out.cell 2
    have g0 := HR2.out.frozen 0
    have g1 := HR2.out.frozen 1
    have g2 := HR2.out.frozen 2
    obtain ⟨m, hm⟩ : ∃ m, v.s.length = m := ⟨_, rfl⟩
    rw [hm] at HS2 ⊢
    clear kw hsi hX2 hK2 hGA hm h1 h2
    go_wp2
    have hA := HA.out
    have hGA := HGA.out
    exact ⟨rfl, _, res_36 rfl _ (HR2.out.set3 _ _ _) rfl, _, rfl, (HS2.out.set3 (Nat.lt_succ_self _) _ _ _).lower (by omega), HX2.out.other3 (by omega) _ _ _, HK2.out.new3 (by omega) _ _ _⟩
end Go.Proofs.YtdnhhmnllhlbbaaGreatDoor
