/-
  What is proved here: what must come of fixed calls comes.
-/
import Derived.Test.YthkliicmoandmaaGreatDoorBjj
import Derived.Lib.SliceRun
namespace Go.Proofs.YthkliicmoandmaaGreatDoor
open Go.RowKit Go.Shelf
set_option linter.unusedVariables false
set_option linter.unusedSimpArgs false

def kD : List MD := [⟨false, [(1, 4)], [], [], 0, 0⟩, ⟨false, [(2, 3)], [], [], 0, 0⟩]
theorem kD_good : ∀ d ∈ kD, Good d := by
  intro d hd
  simp only [kD, List.mem_cons, List.not_mem_nil, or_false] at hd
  rcases hd with rfl | rfl
  · exact fun r hr => by simp at hr; subst hr; unfold Dm.Fits; decide
  · exact fun r hr => by simp at hr; subst hr; unfold Dm.Fits; decide
theorem k_open2 : openL [0, 1] kD = [0, 1] := by decide +kernel
theorem k_open1 : openL [0] kD = [0] := by decide +kernel
theorem k_which2 : (whichM (rkV sizA kD) [0, 1]).1 = ((1 : Nat) : Int) := by decide +kernel
theorem k_which1 : (whichM (rkV (fun _ => 0) kD) [0]).1 = ((0 : Nat) : Int) := by decide +kernel
theorem k_txt1 : txB ⟨(Lib.decDigits 1).toArray⟩ 0 ⟨(Lib.decDigits 3).toArray⟩ = ⟨#[120, 49, 32, 61, 32, 51]⟩ := by decide +kernel
theorem k_txt2 : txB ⟨(Lib.decDigits 0).toArray⟩ 2 ⟨(Lib.decDigits 2).toArray⟩ = ⟨#[120, 48, 32, 60, 61, 32, 50]⟩ := by decide +kernel
theorem k_txt3 : txB ⟨(Lib.decDigits 0).toArray⟩ 3 ⟨(Lib.decDigits 2).toArray⟩ = ⟨#[120, 48, 32, 62, 32, 50]⟩ := by decide +kernel

set_option maxRecDepth 100000 in
set_option maxHeartbeats 4000000 in
theorem clone_nil (W : World) : Calls Tryz.prog 37 #[.slice none 0 0] W fun e w' => e = .returned (.slice none 0 0) ∧ w' = W := by
  have hnil : ∀ (w : World) (a : Option Addr) (n c n' c' : Nat), (binOp .eql 24 (.slice a n c) (.slice none n' c')).run Tryz.prog w = .ok (.bool a.isNone) w := fun w a n c n' c' => Lib.run_eql_slice_nil w _ _ a n c n' c' Tryz.underlying24
  go_enter Tryz.func37, Tryz.ntmps37
  go_wp2
  go_ret
  exact ⟨rfl, rfl⟩

set_option maxRecDepth 100000 in
set_option maxHeartbeats 4000000 in
theorem new_nil (W : World) : Calls Tryz.prog 9 #[.slice none 0 0] W fun e w' => e = .returned (ptr W.heap.size) ∧ Below W.heap.size W w' := by
  go_enter Tryz.func9, Tryz.ntmps9
  go_wp2_with (go_at_call 37; refine (clone_nil _).mono ?_; rintro e w1 ⟨rfl, rfl⟩)
  go_ret
  exact ⟨rfl, (Below.refl _ _).alloc (Nat.le_refl _) _⟩
theorem itoa_s {W : World} (i : Nat) (hi : i < 100) : ∀ X, Below W.heap.size W X → Calls Tryz.prog 61 #[.int .i64 (i : Int)] X fun e w' => e = .returned (.string ⟨(Lib.decDigits i).toArray⟩) ∧ Below X.heap.size X w' :=
  fun X _ => (Any.strconv_Itoa_small Tryz.laysItoaS i hi X).mono fun e w' ⟨he, hw⟩ => ⟨he, by rw [hw]; exact Below.refl _ _⟩
theorem fint_s {W : World} (i : Nat) (hi : i < 100) : ∀ X, Below W.heap.size W X → Calls Tryz.prog 63 #[.int .i64 (i : Int), .int .i64 10] X fun e w' => e = .returned (.string ⟨(Lib.decDigits i).toArray⟩) ∧ Below X.heap.size X w' :=
  fun X _ => (Any.strconv_FormatInt_10_small Tryz.laysFintS i hi X).mono fun e w' ⟨he, hw⟩ => ⟨he, by rw [hw]; exact Below.refl _ _⟩
theorem ktext1 (W : World) : Calls Tryz.prog 27 #[.agg #[.int .i64 1, .int .i64 0, .int .i64 3]] W fun e w' => e = .returned (.string ⟨#[120, 49, 32, 61, 32, 51]⟩) ∧ Below W.heap.size W w' := by
  have := text_any (W := W) 1 0 3 _ _ (by decide) (by decide +kernel) (by decide +kernel) (itoa_s 1 (by decide)) (fint_s 3 (by decide))
  rwa [k_txt1] at this
theorem ktext2 (W : World) : Calls Tryz.prog 27 #[.agg #[.int .i64 0, .int .i64 2, .int .i64 2]] W fun e w' => e = .returned (.string ⟨#[120, 48, 32, 60, 61, 32, 50]⟩) ∧ Below W.heap.size W w' := by
  have := text_any (W := W) 0 2 2 _ _ (by decide) (by decide +kernel) (by decide +kernel) (itoa_s 0 (by decide)) (fint_s 2 (by decide))
  rwa [k_txt2] at this
theorem ktext3 (W : World) : Calls Tryz.prog 27 #[.agg #[.int .i64 0, .int .i64 3, .int .i64 2]] W fun e w' => e = .returned (.string ⟨#[120, 48, 32, 62, 32, 50]⟩) ∧ Below W.heap.size W w' := by
  have := text_any (W := W) 0 3 2 _ _ (by decide) (by decide +kernel) (by decide +kernel) (itoa_s 0 (by decide)) (fint_s 2 (by decide))
  rwa [k_txt3] at this
/-- The twelve cells of the two domains. -/
def kRow (N : Nat) : Array Value := #[.bool false, .slice (some ⟨N, 0, none⟩) 1 1, .slice none 0 0, .slice none 0 0, .int .i64 0, .int .i64 0, .bool false, .slice (some ⟨N + 1, 0, none⟩) 1 1, .slice none 0 0, .slice none 0 0, .int .i64 0, .int .i64 0]
theorem k_ds {w : World} {N : Nat} (h0 : Bx w N #[.int .i64 1, .int .i64 4] 92) (h1 : Bx w (N + 1) #[.int .i64 2, .int .i64 3] 92) (h2 : Bx w (N + 1 + 1) (kRow N) 50) : Ds w (.slice (some ⟨N + 1 + 1, 0, none⟩) 2 2) kD := by
  refine ⟨_, 2, rfl, fun _ => ⟨N + 1 + 1, 0, rfl, h2.lt, fun i d hd => ?_⟩⟩
  match i, hd with
  | 0, hd =>
    simp [kD] at hd
    subst hd
    refine ⟨_, _, _, _, _, _, ⟨some ⟨N, 0, none⟩, 1, none, 0, none, 0, rfl, ⟨_, 1, rfl, fun _ => ⟨N, 0, rfl, h0.lt, fun q => q, fun i hi => ?_⟩⟩, Nm.empty _ _, Nm.empty _ _⟩, h2.cell 0, h2.cell 1, h2.cell 2, h2.cell 3, h2.cell 4, h2.cell 5⟩
    obtain rfl : i = 0 := by simp at hi; exact hi
    exact ⟨h0.cell 0, h0.cell 1⟩
  | 1, hd =>
    simp [kD] at hd
    subst hd
    refine ⟨_, _, _, _, _, _, ⟨some ⟨N + 1, 0, none⟩, 1, none, 0, none, 0, rfl, ⟨_, 1, rfl, fun _ => ⟨N + 1, 0, rfl, h1.lt, fun q => q, fun i hi => ?_⟩⟩, Nm.empty _ _, Nm.empty _ _⟩, h2.cell 6, h2.cell 7, h2.cell 8, h2.cell 9, h2.cell 10, h2.cell 11⟩
    obtain rfl : i = 0 := by simp at hi; exact hi
    exact ⟨h1.cell 0, h1.cell 1⟩
  | i + 2, hd => simp [kD] at hd

set_option maxRecDepth 100000 in
set_option maxHeartbeats 4000000 in
theorem known_true (W : World) : Calls Tryz.prog 17 #[] W fun e w' => e = .returned (.bool true) ∧ Below W.heap.size W w' := by
  obtain ⟨N, hN⟩ : ∃ N, W.heap.size = N := ⟨_, rfl⟩
  rw [hN]
  have HN : Hid (W.heap.size = N) := hN
  obtain ⟨W1, hW1⟩ : ∃ Q, ((W.alloc (Obj.cells #[.int .i64 1, .int .i64 4] 92)).alloc (Obj.cells #[.int .i64 2, .int .i64 3] 92)).alloc (Obj.cells (kRow N) 50) = Q := ⟨_, rfl⟩
  have hb1 : Below W.heap.size W W1 := by rw [← hW1]; exact (((Below.refl _ W).alloc (Nat.le_refl _) _).alloc (by simp) _).alloc (by simp; omega) _
  have hd1 : Ds W1 (.slice (some ⟨N + 1 + 1, 0, none⟩) 2 2) kD := k_ds (by rw [← hW1]; exact ((Bx.new' hN _ _).alloc _).alloc _) (by rw [← hW1]; exact (Bx.new' (by simp [hN]) _ _).alloc _) (by rw [← hW1]; exact Bx.new' (by simp [hN]) _ _)
  have HW1 : Hid (((W.alloc (Obj.cells #[.int .i64 1, .int .i64 4] 92)).alloc (Obj.cells #[.int .i64 2, .int .i64 3] 92)).alloc (Obj.cells #[.bool false, .slice (some ⟨N, 0, none⟩) 1 1, .slice none 0 0, .slice none 0 0, .int .i64 0, .int .i64 0, .bool false, .slice (some ⟨N + 1, 0, none⟩) 1 1, .slice none 0 0, .slice none 0 0, .int .i64 0, .int .i64 0] 50) = W1) := hW1
  have HB1 : Hid (Below W.heap.size W W1) := hb1
  have HD1 : Hid (Ds W1 (.slice (some ⟨N + 1 + 1, 0, none⟩) 2 2) kD) := hd1
  clear hW1 hb1 hd1
  obtain ⟨M, hM⟩ : ∃ q, W1.heap.size = q := ⟨_, rfl⟩
  obtain ⟨W2, hW2⟩ : ∃ Q, (W1.alloc (Obj.cells #[.int .i64 0, .int .i64 1] 3)).alloc (Obj.cells #[.slice (some ⟨M, 0, none⟩) 2 2, .int .i64 1, .int .i64 1] 71) = Q := ⟨_, rfl⟩
  have hb2 : Below W1.heap.size W1 W2 := by rw [← hW2]; exact ((Below.refl _ W1).alloc (Nat.le_refl _) _).alloc (by simp) _
  have hv2 : Bx W2 M #[.int .i64 0, .int .i64 1] 3 := by rw [← hW2]; exact (Bx.new' hM _ _).alloc _
  have hp2 : Bx W2 (M + 1) #[.slice (some ⟨M, 0, none⟩) 2 2, .int .i64 1, .int .i64 1] 71 := by rw [← hW2]; exact Bx.new' (by simp [hM]) _ _
  have hns2 : Ns W2 (.slice (some ⟨M, 0, none⟩) 2 2) [0, 1] := by
    refine ⟨_, 2, rfl, fun _ => ⟨M, 0, rfl, hv2.lt, fun q => q, fun i x hx => ?_⟩⟩
    match i, hx with
    | 0, hx => simp at hx; subst hx; exact hv2.cell 0
    | 1, hx => simp at hx; subst hx; exact hv2.cell 1
    | i + 2, hx => simp at hx
  have kc1 := choose_first (b := M + 1) (off := 0) (n := 1) (c := 1) (l := [0, 1]) (f := sizA) (.pointer none) rfl (by decide) hp2.three.1 hp2.three.2.1 hp2.three.2.2 hns2 (HD1.out.below hb2) kD_good (by decide) (by decide) (by rw [k_open2]; decide) (by decide) rank_first (by decide) (by decide) 1 ⟨false, [(2, 3)], [], [], 0, 0⟩ (by rw [k_open2]; exact k_which2) rfl rfl (by decide) (by decide) (by decide)
  rw [show numM 1 (Dm.lo [(2, 3)] 0) (Dm.hi [(2, 3)] (List.length [((2 : Int), (3 : Int))] - 1)) = (0, 3) from by decide] at kc1
  have HB2 : Hid (Below W.heap.size W W2) := HB1.out.trans (hb2.mono HB1.out.size)
  have HD2 : Hid _ := HD1.out.below hb2
  have HW2 : Hid _ := hW2
  clear hW2 hb2 hv2 hp2 hns2
  go_enter Tryz.func17, Tryz.ntmps17
  go_upto_region 2 with (fail)
  rw [HW1.out]
  clear hN
  go_wp2_with fail
  rw [HW2.out]
  clear hM
  refine kc1.mono ?_
  clear kc1
  rintro e w3 ⟨rfl, hb3⟩
  obtain ⟨P3, hP3⟩ : ∃ q, w3.heap.size = q := ⟨_, rfl⟩
  obtain ⟨W4, hW4⟩ : ∃ Q, w3.alloc (Obj.cells #[.int .i64 1, .int .i64 0, .int .i64 3] 32) = Q := ⟨_, rfl⟩
  have hb4 : Below w3.heap.size w3 W4 := by rw [← hW4]; exact (Below.refl _ _).alloc (Nat.le_refl _) _
  have hq4 : Bx W4 P3 #[.int .i64 1, .int .i64 0, .int .i64 3] 32 := by rw [← hW4]; exact Bx.new' hP3 _ _
  have HB4 : Hid (Below W.heap.size W W4) := HB2.out.trans ((hb3.trans (hb4.mono hb3.size)).mono HB2.out.size)
  have HD4 : Hid _ := (Ds.below HD2.out hb3).below hb4
  obtain ⟨M4, hM4⟩ : ∃ q, W4.heap.size = q := ⟨_, rfl⟩
  obtain ⟨W5, hW5⟩ : ∃ Q, (W4.alloc (Obj.cells #[.int .i64 0] 3)).alloc (Obj.cells #[.slice (some ⟨M4, 0, none⟩) 1 1, .int .i64 0, .int .i64 3] 71) = Q := ⟨_, rfl⟩
  have hb5 : Below W4.heap.size W4 W5 := by rw [← hW5]; exact ((Below.refl _ W4).alloc (Nat.le_refl _) _).alloc (by simp) _
  have hv5 : Bx W5 M4 #[.int .i64 0] 3 := by rw [← hW5]; exact (Bx.new' hM4 _ _).alloc _
  have hp5 : Bx W5 (M4 + 1) #[.slice (some ⟨M4, 0, none⟩) 1 1, .int .i64 0, .int .i64 3] 71 := by rw [← hW5]; exact Bx.new' (by simp [hM4]) _ _
  have hns5 : Ns W5 (.slice (some ⟨M4, 0, none⟩) 1 1) [0] := by
    refine ⟨_, 1, rfl, fun _ => ⟨M4, 0, rfl, hv5.lt, fun q => q, fun i x hx => ?_⟩⟩
    match i, hx with
    | 0, hx => simp at hx; subst hx; exact hv5.cell 0
    | i + 1, hx => simp at hx
  have KC2 : Hid (∀ w6 pq, Below W5.heap.size W5 w6 → Calls Tryz.prog 10 #[.slice (some ⟨M4 + 1, 0, none⟩) 1 1, .slice (some ⟨N + 1 + 1, 0, none⟩) 2 2, ptr pq] w6 fun e w' => e = .returned (.tuple #[.agg #[.int .i64 0, .int .i64 2, .int .i64 2], .bool true]) ∧ Below w6.heap.size w6 w') := by
    intro w6 pq hb6
    have kc2 := choose_first (W := w6) (b := M4 + 1) (off := 0) (n := 1) (c := 1) (l := [0]) (f := fun _ => 0) (ptr pq) rfl (by decide) (hp5.below hb6).three.1 (hp5.below hb6).three.2.1 (hp5.below hb6).three.2.2 (hns5.below hb6) ((Ds.below HD4.out hb5).below hb6) kD_good (by decide) (by decide) (by rw [k_open1]; decide) (by decide) (rank_none 0 (by decide) (by decide) (by decide) (by decide)) (by decide) (by decide) 0 ⟨false, [(1, 4)], [], [], 0, 0⟩ (by rw [k_open1]; exact k_which1) rfl rfl (by decide) (by decide) (by decide)
    rw [show numM 3 (Dm.lo [(1, 4)] 0) (Dm.hi [(1, 4)] (List.length [((1 : Int), (4 : Int))] - 1)) = (2, 2) from by decide] at kc2
    exact kc2
  have HB5 : Hid (Below W.heap.size W W5) := HB4.out.trans (hb5.mono HB4.out.size)
  have HQ5 : Hid (Bx W5 P3 _ _) := hq4.below hb5
  have HW4 : Hid _ := hW4
  have HW5 : Hid _ := hW5
  clear hW4 hb4 hq4 hb3 hW5 hb5 hv5 hp5 hns5
  go_upto_region 3 with (fail)
  rw [HW4.out]
  clear hP3
  go_wp2_with fail
  rw [HW5.out]
  clear hM4
  refine (new_nil W5).mono ?_
  rintro e w6 ⟨rfl, hb6⟩
  have HB6 : Hid (Below W.heap.size W w6) := HB5.out.trans (hb6.mono HB5.out.size)
  have HQ6 : Hid (Bx w6 P3 _ _) := Bx.below HQ5.out hb6
  have kc2 := KC2.out w6 W5.heap.size hb6
  clear hb6
  go_wp2_with fail
  refine kc2.mono ?_
  clear kc2
  rintro e w7 ⟨rfl, hb7⟩
  obtain ⟨P7, hP7⟩ : ∃ q, w7.heap.size = q := ⟨_, rfl⟩
  obtain ⟨W8, hW8⟩ : ∃ Q, w7.alloc (Obj.cells #[.int .i64 0, .int .i64 2, .int .i64 2] 32) = Q := ⟨_, rfl⟩
  have hb8 : Below w7.heap.size w7 W8 := by rw [← hW8]; exact (Below.refl _ _).alloc (Nat.le_refl _) _
  have hr8 : Bx W8 P7 #[.int .i64 0, .int .i64 2, .int .i64 2] 32 := by rw [← hW8]; exact Bx.new' hP7 _ _
  have HB8 : Hid (Below W.heap.size W W8) := HB6.out.trans ((hb7.trans (hb8.mono hb7.size)).mono HB6.out.size)
  have HQ8 : Hid (Bx W8 P3 #[.int .i64 1, .int .i64 0, .int .i64 3] 32) := Bx.below (Bx.below HQ6.out hb7) hb8
  have HR8 : Hid _ := hr8
  have HW8 : Hid _ := hW8
  clear hW8 hb8 hb7 hr8
  go_upto_region 4 with (fail)
  rw [HW8.out]
  clear hP7
  obtain ⟨z0, z1, z2⟩ := HQ8.out.three
  go_wp2_with fail
  refine (ktext1 W8).mono ?_
  clear z0 z1 z2
  rintro e w9 ⟨rfl, hb9⟩
  have HB9 : Hid (Below W.heap.size W w9) := HB8.out.trans (hb9.mono HB8.out.size)
  have HR9 : Hid (Bx w9 P7 #[.int .i64 0, .int .i64 2, .int .i64 2] 32) := Bx.below HR8.out hb9
  clear hb9
  obtain ⟨z0, z1, z2⟩ := HR9.out.three
  go_wp2_with fail
  refine (ktext2 w9).mono ?_
  clear z0 z1 z2
  rintro e w10 ⟨rfl, hb10⟩
  have HB10 : Hid (Below W.heap.size W w10) := HB9.out.trans (hb10.mono HB9.out.size)
  have HR10 : Hid (Bx w10 P7 #[.int .i64 0, .int .i64 2, .int .i64 2] 32) := Bx.below HR9.out hb10
  clear hb10
  obtain ⟨z0, z1, z2⟩ := HR10.out.three
  go_wp2_with fail
  refine (not_le 0 2 w10).mono ?_
  clear z0 z1 z2
  rintro e w11 ⟨rfl, hb11⟩
  have HB11 : Hid (Below W.heap.size W w11) := HB10.out.trans (hb11.mono HB10.out.size)
  clear hb11
  go_wp2_with fail
  refine (ktext3 w11).mono ?_
  rintro e w12 ⟨rfl, hb12⟩
  have HB12 : Hid (Below W.heap.size W w12) := HB11.out.trans (hb12.mono HB11.out.size)
  clear hb12
  go_wp2
  go_ret
  exact ⟨rfl, by rw [← HN.out]; exact HB12.out⟩
end Go.Proofs.YthkliicmoandmaaGreatDoor
