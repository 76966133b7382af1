/-
  What is proved here: A value that stands as it is written is read: whole.
-/
import Derived.Test.YtdnhhmnllhlbbaaGreatDoorPb
import Derived.Test.YtdnhhmnllhlbbaaGreatDoorOwj
namespace Go.Proofs.YtdnhhmnllhlbbaaGreatDoor
open Go.RowKit Go.Shelf
set_option linter.unusedVariables false
set_option linter.unusedSimpArgs false
theorem Kept.setNew {X : Nat → Prop} {a w : World} (h : Kept X a w) {g : Nat} (hg : a.heap.size ≤ g) (o : Nat) (v : Value) : Kept X a (w.setCell ⟨g, o, none⟩ v) :=
  ⟨h.os, h.tape, h.output, by simpa [World.setCell] using h.size, fun b hb hX => (Below.heap_setCell _ _ _ _ (by show b ≠ g; omega)).trans (h.block b hb hX)⟩
/-- What reading a value does where it stands at a place: it is read, and the place is the one behind it. -/
def ReadV (s : List UInt8) (g q : Nat) (v : Vl) (W : World) (e : Ending) (w : World) : Prop := ∃ sv, e = .returned (.agg #[.bool v.set, .int .i64 v.n, sv]) ∧ Si W.heap.size w sv v.s ∧ Blk w g #[.string (bs s), .int .i64 (q : Int)] 115 ∧ Kept (fun b => b = g) W w

set_option maxRecDepth 100000 in
set_option maxHeartbeats 4000000 in
theorem whole122 {W : World} {g p : Nat} (F : Nat) (k : Int) (s r : List UInt8) (v : Vl) (hX : Blk W g #[.string (bs s), .int .i64 (p : Int)] 115) (hv : isVal v.set v.n v.s k = true) (hat : s.drop p = valT k v ++ r) (hp : p ≤ s.length) (hs : s.length ≤ 1000000000000) (hT : Tens W)
    (KE : ∀ args w, (callFunc F args).run Tryz.prog w = .ok (.enter F args) w) (KR : ∀ X, Below W.heap.size W X → Calls Tryz.prog F #[.string (bs (valT k v))] X fun e w' => ∃ sv, e = .returned (.agg #[.bool v.set, .int .i64 v.n, sv]) ∧ Si X.heap.size w' sv v.s ∧ Below X.heap.size X w') :
    Calls Tryz.prog 122 #[.pointer (some ⟨g, 0, none⟩), .int .i64 k, .int .i64 ((p + (valT k v).length : Nat) : Int), .func (.func F) #[] #[]] W fun e w' => ReadV s g (p + (valT k v).length) v W e w' := by
  have hle : p + (valT k v).length ≤ s.length := by
    have := congrArg List.length hat
    rw [List.length_drop, List.length_append] at this
    omega
  have hcut := bs_cut s p (p + (valT k v).length) (by omega) hle
  rw [hat, Nat.add_sub_cancel_left, List.take_left] at hcut
  have HT : Hid (Tens W) := hT
  have HV : Hid (isVal v.set v.n v.s k = true) := hv
  have hvl : v.s.length ≤ 64 := by
    rcases isVal_more hv with ⟨_, _, _, h⟩ | ⟨_, _, h, _⟩ | ⟨_, _, h, _⟩
    · exact (setOk_facts h).1
    · rw [h]; simp
    · rw [h]; simp
  have HVL : Hid (v.s.length ≤ 64) := hvl
  have HKR : Hid (∀ X, Below W.heap.size W X → Calls Tryz.prog F #[.string (bs (valT k v))] X fun e w' => ∃ sv, e = .returned (.agg #[.bool v.set, .int .i64 v.n, sv]) ∧ Si X.heap.size w' sv v.s ∧ Below X.heap.size X w') := KR
  obtain ⟨A, hA⟩ : ∃ A, W.heap.size = A := ⟨_, rfl⟩
  have HA : Hid (W.heap.size = A) := hA
  have HGA : Hid (g < A) := by rw [← hA]; exact hX.lt
  have HX0 : Hid (Blk W g #[.string (bs s), .int .i64 (p : Int)] 115) := hX
  have HR0 : Hid (Blk (W.alloc (Obj.cells #[.bool false, .int .i64 0, .slice none 0 0] 36)) A #[.bool false, .int .i64 0, .slice none 0 0] 36) := by rw [← hA]; exact Blk.new _ _ _
  obtain ⟨w0, hw0⟩ : ∃ q, W.alloc (Obj.cells #[.bool false, .int .i64 0, .slice none 0 0] 36) = q := ⟨_, rfl⟩
  have HW0 : Hid _ := hw0
  have HB0 : Hid (Below W.heap.size W w0) := by rw [← hw0]; exact (Below.refl _ _).alloc (Nat.le_refl _) _
  obtain ⟨E, hE⟩ : ∃ E, p + (valT k v).length = E := ⟨_, rfl⟩
  obtain ⟨T, hTx⟩ : ∃ T, bs (valT k v) = T := ⟨_, rfl⟩
  have HTX : Hid (bs (valT k v) = T) := hTx
  have hEs : (E : Int) ≤ (s.length : Int) ∧ (p : Int) ≤ (E : Int) := by omega
  rw [hE, hTx] at hcut
  rw [hTx] at HKR
  rw [hw0] at HR0
  rw [hE]
  unfold ReadV
  clear hv hat hle hT hA hw0 hE hTx hX KR hvl
  go_enter Tryz.func122, Tryz.ntmps122
  go_upto_region 1 with (fail)
  rw [HW0.out, HA.out]
  clear HW0
  have x0 : w0.cell? ⟨g, 0, none⟩ = some (.string (bs s)) := (HX0.out.below HB0.out).cell 0
  have x1 : w0.cell? ⟨g, 1, none⟩ = some (.int .i64 (p : Int)) := (HX0.out.below HB0.out).cell 1
  go_quiet (fail)
  obtain ⟨wA, hwA⟩ : ∃ q, w0.drewN nq = q := ⟨_, rfl⟩
  rw [hwA]
  have hbA : Below w0.heap.size w0 wA := by rw [← hwA]; exact ⟨rfl, rfl, rfl, Nat.le_refl _, fun _ _ => rfl⟩
  have HB1 : Hid (Below W.heap.size W wA) := HB0.out.trans (hbA.mono HB0.out.size)
  have HR1 : Hid (Blk wA A #[.bool false, .int .i64 0, .slice none 0 0] 36) := HR0.out.below hbA
  clear hwA x0 x1 hbA HB0 HR0
  have kr := HKR.out wA HB1.out
  go_wp2_with fail
  refine kr.mono ?_
  rintro e w2 ⟨sv, rfl, hsi, hb2⟩
  obtain ⟨sa, sc, rfl, _⟩ := id hsi
  have HS2 : Hid (Si (A + 1) w2 (.slice sa v.s.length sc) v.s) := hsi.lower HR1.out.lt
  have HR2 : Hid (Blk w2 A #[.bool false, .int .i64 0, .slice none 0 0] 36) := HR1.out.below hb2
  have HB2 : Hid (Below W.heap.size W w2) := HB1.out.trans (hb2.mono HB1.out.size)
  obtain ⟨m, hm⟩ : ∃ m, v.s.length = m := ⟨_, rfl⟩
  have HMM : Hid (v.s.length = m) := hm
  rw [hm] at HS2 ⊢
  obtain ⟨vb, hvb⟩ : ∃ q, v.set = q := ⟨_, rfl⟩
  obtain ⟨vn, hvn⟩ : ∃ q, v.n = q := ⟨_, rfl⟩
  have HVE : Hid (v.set = vb ∧ v.n = vn) := ⟨hvb, hvn⟩
  rw [hvb, hvn] at HV ⊢
  obtain ⟨C, hC⟩ : ∃ C, w2.heap.size = C := ⟨_, rfl⟩
  obtain ⟨w3, hw3⟩ : ∃ q, w2.alloc (Obj.cells #[.bool vb, .int .i64 vn, .slice sa m sc] 36) = q := ⟨_, rfl⟩
  have HX3 : Hid (Blk w3 C #[.bool vb, .int .i64 vn, .slice sa m sc] 36) := by rw [← hw3, ← hC]; exact Blk.new _ _ _
  have hb3 : Below w2.heap.size w2 w3 := by rw [← hw3]; exact (Below.refl _ _).alloc (Nat.le_refl _) _
  have HS3 : Hid (Si (A + 1) w3 (.slice sa m sc) v.s) := HS2.out.below hb3
  have HR3 : Hid (Blk w3 A #[.bool false, .int .i64 0, .slice none 0 0] 36) := HR2.out.below hb3
  have HB3 : Hid (Below W.heap.size W w3) := HB2.out.trans (hb3.mono HB2.out.size)
  have HAC : Hid (A < C) := by rw [← hC]; exact HR2.out.lt
  have HW3 : Hid (w2.alloc (Obj.cells #[.bool vb, .int .i64 vn, .slice sa m sc] 36) = w3 ∧ w2.heap.size = C) := ⟨hw3, hC⟩
  clear kr hsi hb2 hm hvb hvn HS2 HR2 HB2 hb3 hw3 hC HR1 HB1
  go_upto_region 3 with (fail)
  rw [HW3.out.1, HW3.out.2]
  clear HW3
  have kv := val31 vb vn k HS3.out (by have := HVL.out; omega)
  rw [HV.out] at kv
  have x0 := HX3.out.cell 0
  have x1 := HX3.out.cell 1
  have x2 := HX3.out.cell 2
  go_wp2_with fail
  refine kv.mono ?_
  rintro e w4 ⟨rfl, hb4⟩
  have HX4 : Hid (Blk w4 C #[.bool vb, .int .i64 vn, .slice sa m sc] 36) := HX3.out.below hb4
  have HS4 : Hid (Si (A + 1) w4 (.slice sa m sc) v.s) := HS3.out.below hb4
  have HR4 : Hid (Blk w4 A #[.bool false, .int .i64 0, .slice none 0 0] 36) := HR3.out.below hb4
  have HB4 : Hid (Below W.heap.size W w4) := HB3.out.trans (hb4.mono HB3.out.size)
  clear kv x0 x1 x2 hb4 HX3 HS3 HR3 HB3
  have hbr : Below w4.heap.size w4 (w4.alloc (Obj.cells #[.bool vb, .int .i64 vn, .slice sa m sc] 36)) := (Below.refl _ _).alloc (Nat.le_refl _) _
  have hone := SvX.one (v := v) (HS4.out.lower (Nat.zero_le _))
  rw [HVE.out.1, HVE.out.2] at hone
  have kt := texts26 (kind := k) hone (by simp) (by intro y hy; simp at hy; subst hy; rw [HVE.out.1, HVE.out.2]; exact HV.out) (HT.out.self (HB4.out.trans (hbr.mono HB4.out.size)))
  have HVT : Hid (valsT k [v] = valT k v) := rfl
  rw [HVT.out, HTX.out] at kt
  have HX5 : Hid (Blk (w4.alloc (Obj.cells #[.bool vb, .int .i64 vn, .slice sa m sc] 36)) C #[.bool vb, .int .i64 vn, .slice sa m sc] 36) := HX4.out.below hbr
  have HS5 : Hid (Si (A + 1) (w4.alloc (Obj.cells #[.bool vb, .int .i64 vn, .slice sa m sc] 36)) (.slice sa m sc) v.s) := HS4.out.below hbr
  have HR5 : Hid (Blk (w4.alloc (Obj.cells #[.bool vb, .int .i64 vn, .slice sa m sc] 36)) A #[.bool false, .int .i64 0, .slice none 0 0] 36) := HR4.out.below hbr
  have HB5 : Hid (Below W.heap.size W (w4.alloc (Obj.cells #[.bool vb, .int .i64 vn, .slice sa m sc] 36))) := HB4.out.trans (hbr.mono HB4.out.size)
  have x0 := HX4.out.cell 0
  have x1 := HX4.out.cell 1
  have x2 := HX4.out.cell 2
  clear hbr hone
  go_wp2_with fail
  generalize w4.alloc (Obj.cells #[.bool vb, .int .i64 vn, .slice sa m sc] 36) = w5 at *
  refine kt.mono ?_
  rintro e w6 ⟨rfl, hb6⟩
  have HX6 : Hid (Blk w6 C #[.bool vb, .int .i64 vn, .slice sa m sc] 36) := HX5.out.below hb6
  have HS6 : Hid (Si (A + 1) w6 (.slice sa m sc) v.s) := HS5.out.below hb6
  have HR6 : Hid (Blk w6 A #[.bool false, .int .i64 0, .slice none 0 0] 36) := HR5.out.below hb6
  have HB6 : Hid (Below W.heap.size W w6) := HB5.out.trans (hb6.mono HB5.out.size)
  have HG6 : Hid (Blk w6 g #[.string (bs s), .int .i64 (p : Int)] 115) := HX0.out.below HB6.out
  clear kt x0 x1 x2 hb6 HX5 HS5 HR5 HB5 HX4 HS4 HR4 HB4
  have y1 := HG6.out.cell 1
  have f1 := HG6.out.frozen 1
  go_upto_region 6 with (fail)
  have HG7 : Hid (Blk (w6.setCell ⟨g, 1, none⟩ (.int .i64 (E : Int))) g #[.string (bs s), .int .i64 (E : Int)] 115) := HG6.out.set 1 _
  have HX7 : Hid (Blk (w6.setCell ⟨g, 1, none⟩ (.int .i64 (E : Int))) C #[.bool vb, .int .i64 vn, .slice sa m sc] 36) := HX6.out.other (by have := HGA.out; have := HAC.out; omega) 1 _
  have HR7 : Hid (Blk (w6.setCell ⟨g, 1, none⟩ (.int .i64 (E : Int))) A #[.bool false, .int .i64 0, .slice none 0 0] 36) := HR6.out.other (by have := HGA.out; omega) 1 _
  have HS7 : Hid (Si (A + 1) (w6.setCell ⟨g, 1, none⟩ (.int .i64 (E : Int))) (.slice sa m sc) v.s) := HS6.out.set (by have := HGA.out; omega) 1 _
  have HK7 : Hid (Kept (fun b => b = g) W (w6.setCell ⟨g, 1, none⟩ (.int .i64 (E : Int)))) := (Kept.of_below (X := fun b => b = g) HB6.out).setCell rfl _ _
  generalize w6.setCell ⟨g, 1, none⟩ (.int .i64 (E : Int)) = w7 at *
  clear HG6 HX6 HR6 HS6 y1 f1
  have x0 := HX7.out.cell 0
  have x1 := HX7.out.cell 1
  have x2 := HX7.out.cell 2
  have y0 := HR7.out.cell 0
  have y1 := HR7.out.cell 1
  have y2 := HR7.out.cell 2
  have g0 := HR7.out.frozen 0
  have g1 := HR7.out.frozen 1
  have g2 := HR7.out.frozen 2
  go_wp2
  have HF : Blk (((w7.setCell ⟨A, 0, none⟩ (.bool vb)).setCell ⟨A, 1, none⟩ (.int .i64 vn)).setCell ⟨A, 2, none⟩ (.slice sa m sc)) A #[.bool vb, .int .i64 vn, .slice sa m sc] 36 := ((HR7.out.set 0 _).set 1 _).set 2 _
  have hgA : g ≠ A := by have := HGA.out; omega
  have hA := HA.out
  refine ⟨rfl, _, res_36 rfl _ HF rfl, _, by rw [HVE.out.1, HVE.out.2], ((((HS7.out.set (Nat.lt_succ_self _) 0 _).set (Nat.lt_succ_self _) 1 _).set (Nat.lt_succ_self _) 2 _).lower (by omega)), ((HG7.out.other hgA 0 _).other hgA 1 _).other hgA 2 _, ((HK7.out.setNew (by omega) 0 _).setNew (by omega) 1 _).setNew (by omega) 2 _⟩
end Go.Proofs.YtdnhhmnllhlbbaaGreatDoor
