/-
  What is proved here: the walk of ConsNames, where the fixed calls are known.
-/
import Derived.Test.YtaeobgajhieajaaGreatDoorCm
import Derived.Test.YtaeobgajhieajaaGreatDoorCf
namespace Go.Proofs.YtaeobgajhieajaaGreatDoor
open Go.RowKit Go.Shelf
set_option linter.unusedVariables false
set_option linter.unusedSimpArgs false

attribute [local go_sem] Oper.semAt_some
theorem C1.fz {w : World} {g : Nat} {v : Value} {t : TypeId} (h : C1 w g v t) : w.frozen? ⟨g, 0, none⟩ = false := by simp [World.frozen?, h.h]
theorem C1.set {w : World} {g : Nat} {v u : Value} {t : TypeId} (h : C1 w g v t) : C1 (w.setCell ⟨g, 0, none⟩ u) g u t := ⟨by rw [row_set h.h]; rfl⟩
theorem C1.other {w : World} {g k : Nat} {v u : Value} {t : TypeId} (h : C1 w g v t) (hk : g ≠ k) : C1 (w.setCell ⟨k, 0, none⟩ u) g v t := ⟨(Below.heap_setCell _ _ _ g hk).trans h.h⟩
theorem C1.res {fn : Func} {p : Tmp} (hf : fn.results = #[.cell p 4]) (tmps : Array Value) {w : World} {g : Nat} {v : Value} (h : C1 w g v 4) (hp : tmps.getD p undef = .pointer (some ⟨g, 0, none⟩)) : (results fn tmps).run Tryz.prog w = .ok v w := by
  have hp' : tmps[p]?.getD undef = .pointer (some ⟨g, 0, none⟩) := by simpa using hp
  have hc := h.cell
  simp [results, hf, hp', asAddr, Sem.run_bind, Result.andThen, go_sem, hc]
theorem KA.setCell {B k : Nat} (W : World) (u : Value) (hk : k < B) : KA B W (W.setCell ⟨k, 0, none⟩ u) := ⟨by simp [World.setCell], fun i o hi ho => (Below.heap_setCell W ⟨k, 0, none⟩ u i (show i ≠ k by omega)).trans ho⟩
/-- What is kept through the rounds. -/
structure In (W : World) (Lb Ib b c : Nat) (n : Nat) (X : World) : Prop where
  i : C1 X Ib (.int .i64 (n : Int)) 3
  l : C1 X Lb (.slice (some ⟨b, 0, none⟩) 105 c) 22
  r : C1 X W.heap.size (.bool false) 4
  bel : Below W.heap.size W X
  s : b < X.heap.size ∧ ∀ i x, (preN 48)[i]? = some x → X.cell? ⟨b, i, none⟩ = some (.string ⟨x.toArray⟩)
theorem In.below {W : World} {Lb Ib b c n : Nat} {X Y : World} (h : In W Lb Ib b c n X) (hb : Below X.heap.size X Y) : In W Lb Ib b c n Y :=
  ⟨h.i.below hb, h.l.below hb, h.r.below hb, h.bel.trans (hb.mono h.bel.size), Nat.lt_of_lt_of_le h.s.1 hb.size, fun i x hx => (hb.cell (p := ⟨b, i, none⟩) h.s.1).trans (h.s.2 i x hx)⟩
theorem In.put {W : World} {Lb Ib b c n k : Nat} {X : World} (h : In W Lb Ib b c n X) (h1 : Ib < k) (h2 : Lb < k) (h3 : b < k) (hW : W.heap.size < k) (o' : Obj) : In W Lb Ib b c n (X.putObj k o') :=
  ⟨h.i.put (by omega) _, h.l.put (by omega) _, h.r.put (by omega) _, h.bel.trans ((Below.refl _ X).grown (grownBy_putObj' X k o') h.bel.size (fun r e => by cases e; omega)), by rw [World.putObj_size]; exact h.s.1, fun i x hx => by
    rw [← h.s.2 i x hx]
    simp only [World.cell?, World.putObj_heap_other (show b ≠ k by omega)]⟩
theorem In.next {W : World} {Lb Ib b c n : Nat} {X : World} (h : In W Lb Ib b c n X) (h1 : Lb ≠ Ib) (h3 : b ≠ Ib) (hW : W.heap.size < Ib) : In W Lb Ib b c (n + 1) (X.setCell ⟨Ib, 0, none⟩ (.int .i64 ((n : Int) + 1))) :=
  ⟨by have := h.i.set (u := .int .i64 ((n : Int) + 1)); rw [show ((n + 1 : Nat) : Int) = (n : Int) + 1 by omega]; exact this, h.l.other h1, h.r.other (by omega), h.bel.setCell (p := ⟨Ib, 0, none⟩) (show W.heap.size ≤ Ib by omega) _, by simpa [World.setCell] using h.s.1, fun i x hx => by
    rw [← h.s.2 i x hx]
    simp only [World.cell?, Below.heap_setCell X ⟨Ib, 0, none⟩ _ b h3]⟩

set_option maxRecDepth 100000 in
set_option maxHeartbeats 4000000 in
theorem names9 (W : World) : Calls Tryz.prog 9 #[] W fun e w' => e = .returned (.func (.func 37) #[] #[]) ∧ w' = W := by
  go_enter Tryz.func9, Tryz.ntmps9
  go_wp2
  go_ret
  exact ⟨rfl, rfl⟩

set_option maxRecDepth 100000 in
set_option maxHeartbeats 4000000 in
theorem names_walk (nm : List UInt8) (W : World) (hM : MaxL W) (hK : ∀ X, Below W.heap.size W X → Calls Tryz.prog 14 #[] X fun e w' => e = .returned (.bool true) ∧ Below X.heap.size X w') :
    Calls Tryz.prog 3 #[.string ⟨nm.toArray⟩] W fun e w' => e = .returned (.bool true) ∧ Below W.heap.size W w' := by
  obtain ⟨w0, hW0⟩ : ∃ X, W.alloc (Obj.cells #[.bool false] 4) = X := ⟨_, rfl⟩
  have hb0 : Below W.heap.size W w0 := by rw [← hW0]; exact (Below.refl _ W).alloc (Nat.le_refl _) _
  have HR0 : Hid (C1 w0 W.heap.size (.bool false) 4) := by rw [← hW0]; exact ⟨World.alloc_heap_new W _⟩
  have HW0 : Hid _ := hW0
  have HM : Hid (MaxL W) := hM
  have hM1 := hM.1
  have HK : Hid _ := hK
  clear hW0 hM hK
  refine (callsIn_wide (n := 6)).1 ?_
  refine callsIn_of_wp_marks Tryz.func3 rfl trivial ?_ rfl
  simp only [Tryz.ntmps3, List.size_toArray, List.length_cons, List.length_nil, Nat.reduceAdd, Nat.reduceSub, Array.replicate_succ, Array.replicate_zero, List.push_toArray, List.append_toArray, List.nil_append, List.cons_append]
  gi_upto_region 1 with (fail)
  rw [HW0.out]
  clear HW0
  gi_wp2_with fail
  refine ⟨trivial, (callsIn_wide.2 (refnames_any w0)).mono ?_⟩
  rintro e w1 ⟨s1, rfl, hss, hb⟩
  have hb1 : Below W.heap.size W w1 := hb0.trans (hb.mono hb0.size)
  have HR1 : Hid (C1 w1 W.heap.size (.bool false) 4) := HR0.out.below hb
  obtain ⟨a, c, rfl, hs⟩ := hss
  obtain ⟨b, rfl, hbl, hcs⟩ := hs (by rw [names_len]; omega)
  rw [names_len]
  have HCS : Hid _ := hcs
  clear hcs hs hb HR0 hb0
  gi_wp2_with fail
  refine ⟨trivial, (callsIn_wide.2 (names9 _)).mono ?_⟩
  rintro e w2 ⟨rfl, hw2⟩
  obtain ⟨w3, hW3⟩ : ∃ X, (w1.alloc (Obj.cells #[.slice (some ⟨b, 0, none⟩) 105 c] 22)).alloc (Obj.cells #[.int .i64 0] 3) = X := ⟨_, rfl⟩
  have hz1 := (Below.refl w1.heap.size w1).alloc (Nat.le_refl _) (Obj.cells #[.slice (some ⟨b, 0, none⟩) 105 c] 22)
  have hz3 : Below w1.heap.size w1 w3 := by rw [← hW3]; exact ((Below.refl _ w1).alloc (Nat.le_refl _) _).alloc (by simp) _
  have HI3 : Hid (In W w1.heap.size (w1.heap.size + 1) b c 0 w3) := by
    refine ⟨?_, ?_, HR1.out.below hz3, hb1.trans (hz3.mono hb1.size), Nat.lt_of_lt_of_le hbl hz3.size, fun i x hx => (hz3.cell (p := ⟨b, i, none⟩) hbl).trans (HCS.out i x hx)⟩
    · rw [← hW3]; exact ⟨by have := World.alloc_heap_new (w1.alloc (Obj.cells #[.slice (some ⟨b, 0, none⟩) 105 c] 22)) (Obj.cells #[.int .i64 0] 3); rwa [World.size_alloc] at this⟩
    · rw [← hW3]; exact ⟨(Below.heap_alloc _ _ _ (by simp)).trans (World.alloc_heap_new _ _)⟩
  have HW3 : Hid _ := hW3
  have hWl : W.heap.size < w1.heap.size := HR1.out.lt
  have hw3s : w1.heap.size + 1 < w3.heap.size := HI3.out.i.lt
  subst hw2
  clear hW3 hz1 hz3 HCS
  have hnil : ∀ w : World, (binOp .eql 25 (.func (.func 37) #[] #[]) .nilFunc).run Tryz.prog w = .ok (.bool false) w := fun _ => rfl
  gi_wp2
  rw [HW3.out]
  clear HW3
  have mixed : Tryz.prog.follows .mixedOrders = true := by kernel_rfl
  refine range37 (w := w3) 6 0 rfl (fun p X => p.length ≤ 105 ∧ In W w1.heap.size (w1.heap.size + 1) b c p.length X) (fun _ => False)
    ?im ?ib ?ip ?xp ⟨Nat.zero_le _, HI3.out⟩ ?a1 ?assign ?body ?left ?done
  case im => exact fun p X h => HM.out.below h.2.bel hM1
  case ib => exact fun p X Y _ h hb => ⟨h.1, h.2.below hb⟩
  case ip => exact fun p X k o o' hk h ho hc => ⟨h.1, h.2.put (by omega) (by omega) (by omega) (by omega) _⟩
  case xp => exact fun X k o o' hk h ho hc => h.elim
  case assign =>
    intro l m v X K hK
    gi_wp2
    exact hK
  case body =>
    rintro l m p x X ⟨rr, hrr⟩ hsX ⟨hp, hI⟩
    obtain ⟨n, hn⟩ : ∃ n, p.length = n := ⟨_, rfl⟩
    rw [hn] at hI hp
    have hln : (preN 48).length = n + 1 + rr.length := by rw [← hrr]; simp; omega
    rw [names_len] at hln
    have hget : (preN 48)[n]? = some x := by rw [← hrr, List.append_assoc, List.getElem?_append_right (by omega), hn, Nat.sub_self]; rfl
    have HI : Hid (In W w1.heap.size (w1.heap.size + 1) b c n X) := hI
    have ci := hI.i.cell
    have cl := hI.l.cell
    have cx := hI.s.2 n x hget
    have k10 := fun Y (hY : Below X.heap.size X Y) => form_any x Y (HM.out.below (hI.bel.trans (hY.mono hI.bel.size)) hM1)
    have k12 := fun Y (hY : Below X.heap.size X Y) => family_any x Y (HM.out.below (hI.bel.trans (hY.mono hI.bel.size)) hM1)
    have k11 := fun Y => refform_any x Y
    have k13 := fun Y => reffamily_any x Y
    rw [← (find_same x).2] at k11
    rw [← (find_same x).1] at k13
    generalize (findT x).1 = fam at k12 k13
    generalize (findT x).2 = form at k10 k11
    have hge : ¬ (105 : Int) ≤ (n : Int) := by omega
    have hlt : (n : Int) < 105 := by omega
    have hw1 : IntKind.i64.wrap ((n : Int) + 1) = (n : Int) + 1 := by rw [IntKind.wrap_i64]; omega
    have hdep : Fence.wide.depth.isSome = false := rfl
    have hfn : ∀ f, Fence.wide.fn f = True := fun _ => rfl
    have K10 : Hid _ := k10
    have K11 : Hid _ := k11
    have K12 : Hid _ := k12
    have K13 : Hid _ := k13
    clear hI hget hln k10 k11 k12 k13
    gi_wp2
    refine (CallsIn.inRound l (callsIn_wide.2 (K10.out X (Below.refl _ _)))).mono ?_
    rintro e X1 ⟨rfl, hbX1⟩
    clear ci cl cx
    gi_wp2
    refine (CallsIn.inRound l (callsIn_wide.2 (K11.out X1))).mono ?_
    rintro e X2 ⟨rfl, hbX⟩
    have hbX2 := hbX1.trans (hbX.mono hbX1.size)
    clear hbX hbX1
    gi_wp2
    refine (CallsIn.inRound l (callsIn_wide.2 (K12.out X2 hbX2))).mono ?_
    rintro e X3 ⟨rfl, hbX⟩
    have hbX3 := hbX2.trans (hbX.mono hbX2.size)
    clear hbX hbX2
    gi_wp2
    refine (CallsIn.inRound l (callsIn_wide.2 (K13.out X3))).mono ?_
    rintro e X4 ⟨rfl, hbX⟩
    have hbX4 := hbX3.trans (hbX.mono hbX3.size)
    clear hbX hbX3
    have hI4 := HI.out.below hbX4
    have ci := hI4.i.cell
    have fi := hI4.i.fz
    have HI4 : Hid (In W w1.heap.size (w1.heap.size + 1) b c n X4) := hI4
    have HB4 : Hid (Below X.heap.size X X4) := hbX4
    clear hI4 hbX4
    gi_wp2
    refine ⟨(KA.of_below _ HB4.out).trans (KA.setCell _ _ hw3s), by rw [List.length_append, hn]; simp; omega, ?_⟩
    rw [List.length_append, hn]
    exact In.next HI4.out (by omega) (by omega) (by omega)
  case left => exact fun D X hD h hDX => h.elim
  case done =>
    rintro D X hD ⟨_, hI⟩ hDX
    rw [names_len] at hI
    have HI : Hid (In W w1.heap.size (w1.heap.size + 1) b c 105 X) := hI
    have HD1 : Hid (X.heap[D]? = some (.deferred (some []))) := hDX
    have hDl : D < X.heap.size := (Array.getElem?_eq_some_iff.1 hDX).1
    have hXs : w1.heap.size + 1 < X.heap.size := hI.i.lt
    have hXb : b < X.heap.size := hI.s.1
    clear hI hDX
    gi_wp2
    refine range37 (w := X) 6 2 rfl (fun p Y => p = [] ∧ In W w1.heap.size (w1.heap.size + 1) b c 105 Y ∧ Y.heap[D]? = some (.deferred (some []))) (fun Y => In W w1.heap.size (w1.heap.size + 1) b c 105 Y ∧ Y.heap[D]? = some (.deferred (some [])))
      ?im2 ?ib2 ?ip2 ?xp2 ⟨rfl, HI.out, HD1.out⟩ ?a2 ?assign2 ?body2 ?left2 ?done2
    case im2 => exact fun p Y h => HM.out.below h.2.1.bel hM1
    case ib2 => exact fun p Y Z _ h hb => ⟨h.1, h.2.1.below hb, (hb.block _ (Array.getElem?_eq_some_iff.1 h.2.2).1).trans h.2.2⟩
    case ip2 => exact fun p Y k o o' hk h ho hc => ⟨h.1, h.2.1.put (by omega) (by omega) (by omega) (by omega) _, (World.putObj_heap_other (by omega)).trans h.2.2⟩
    case xp2 => exact fun Y k o o' hk h ho hc => ⟨h.1.put (by omega) (by omega) (by omega) (by omega) _, (World.putObj_heap_other (by omega)).trans h.2⟩
    case assign2 =>
      intro l m v Y K hK
      gi_wp2
      exact hK
    case body2 =>
      rintro l m p x Y hfl hsY ⟨hp, hI, hD2⟩
      gi_wp2
      exact ⟨rfl, KA.refl _ _, hI, hD2⟩
    case done2 =>
      rintro D2 Y hD2 ⟨hp, _⟩ _
      exact absurd (congrArg List.length hp) (by rw [names_len]; simp)
    case left2 =>
      rintro D2 Y hD2 ⟨hI, hDY⟩ hD2Y
      have HIY : Hid (In W w1.heap.size (w1.heap.size + 1) b c 105 Y) := hI
      have HDY : Hid (Y.heap[D]? = some (.deferred (some []))) := hDY
      have HD2 : Hid (Y.heap[D2]? = some (.deferred (some []))) := hD2Y
      have ci := hI.i.cell
      have cl := hI.l.cell
      have k10 := fun Z (hZ : Below Y.heap.size Y Z) => form_any nm Z (HM.out.below (hI.bel.trans (hZ.mono hI.bel.size)) hM1)
      have k12 := fun Z (hZ : Below Y.heap.size Y Z) => family_any nm Z (HM.out.below (hI.bel.trans (hZ.mono hI.bel.size)) hM1)
      have k11 := fun Z => refform_any nm Z
      have k13 := fun Z => reffamily_any nm Z
      rw [← (find_same nm).2] at k11
      rw [← (find_same nm).1] at k13
      generalize (findT nm).1 = fam at k12 k13
      generalize (findT nm).2 = form at k10 k11
      have K10 : Hid _ := k10
      have K11 : Hid _ := k11
      have K12 : Hid _ := k12
      have K13 : Hid _ := k13
      clear hI hDY hD2Y k10 k11 k12 k13
      simp only [Exit.inBlock, if_true]
      gi_wp2
      refine ⟨trivial, (callsIn_wide.2 (K10.out Y (Below.refl _ _))).mono ?_⟩
      rintro e X1 ⟨rfl, hbX1⟩
      clear ci cl
      gi_wp2
      refine ⟨trivial, (callsIn_wide.2 (K11.out X1)).mono ?_⟩
      rintro e X2 ⟨rfl, hbX⟩
      have hbX2 := hbX1.trans (hbX.mono hbX1.size)
      clear hbX hbX1
      gi_wp2
      refine ⟨trivial, (callsIn_wide.2 (K12.out X2 hbX2)).mono ?_⟩
      rintro e X3 ⟨rfl, hbX⟩
      have hbX3 := hbX2.trans (hbX.mono hbX2.size)
      clear hbX hbX2
      gi_wp2
      refine ⟨trivial, (callsIn_wide.2 (K13.out X3)).mono ?_⟩
      rintro e X4 ⟨rfl, hbX⟩
      have hbX4 := hbX3.trans (hbX.mono hbX3.size)
      have hbW4 : Below W.heap.size W X4 := HIY.out.bel.trans (hbX4.mono HIY.out.bel.size)
      clear hbX hbX3
      gi_wp2
      refine ⟨trivial, (callsIn_wide.2 (HK.out X4 hbW4)).mono ?_⟩
      rintro e X5 ⟨rfl, hbX⟩
      have hbX5 := hbX4.trans (hbX.mono hbX4.size)
      have hI5 := HIY.out.below hbX5
      have cr := hI5.r.cell
      have fr := hI5.r.fz
      have HR5 : Hid (C1 (X5.setCell ⟨W.heap.size, 0, none⟩ (.bool true)) W.heap.size (.bool true) 4) := hI5.r.set
      have HB5 : Hid (Below W.heap.size W (X5.setCell ⟨W.heap.size, 0, none⟩ (.bool true))) := hI5.bel.setCell (p := ⟨W.heap.size, 0, none⟩) (Nat.le_refl _) _
      have HM1 : Hid ((X5.setCell ⟨W.heap.size, 0, none⟩ (.bool true)).heap[D2]? = some (.deferred (some []))) := (Below.heap_setCell _ ⟨W.heap.size, 0, none⟩ _ D2 (show D2 ≠ W.heap.size by omega)).trans ((hbX5.block D2 (Array.getElem?_eq_some_iff.1 HD2.out).1).trans HD2.out)
      have HM2 : Hid ((X5.setCell ⟨W.heap.size, 0, none⟩ (.bool true)).heap[D]? = some (.deferred (some []))) := (Below.heap_setCell _ ⟨W.heap.size, 0, none⟩ _ D (show D ≠ W.heap.size by omega)).trans ((hbX5.block D (Array.getElem?_eq_some_iff.1 HDY.out).1).trans HDY.out)
      clear hbX hbX4 hbW4 hbX5 hI5
      gi_wp2
      generalize X5.setCell ⟨W.heap.size, 0, none⟩ (.bool true) = Z at HR5 HB5 HM1 HM2 ⊢
      have hM2 : (Z.putObj D2 (.deferred none)).heap[D]? = some (.deferred (some [])) := (World.putObj_heap_other (by omega)).trans HM2.out
      have hr2 := (HR5.out.put (k := D2) (by omega) (.deferred none)).put (k := D) (by omega) (.deferred none)
      have hBz : Below W.heap.size W ((Z.putObj D2 (.deferred none)).putObj D (.deferred none)) := (HB5.out.trans (belowK_b (n₀ := W.heap.size) (w := W) (Nat.le_refl _) _ D2 _ (.deferred none) (by omega) HM1.out rfl rfl)).trans (belowK_b (n₀ := W.heap.size) (w := W) (Nat.le_refl _) _ D _ (.deferred none) (by omega) hM2 rfl rfl)
      refine ⟨by simp, .inl ⟨_, _, rfl, run_takeDeferred HM1.out, ?_⟩⟩
      refine ⟨by simp, .inl ⟨_, _, rfl, run_takeDeferred hM2, ?_⟩⟩
      exact ⟨_, C1.res (p := 2) rfl _ hr2 rfl, rfl, hBz⟩
end Go.Proofs.YtaeobgajhieajaaGreatDoor
