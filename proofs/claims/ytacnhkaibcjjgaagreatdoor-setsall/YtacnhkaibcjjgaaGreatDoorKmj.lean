/-
  What is proved here: what the law's fixed calls come to.
  What is proved here: what the law's fixed calls come to.
-/
import Derived.Test.YtacnhkaibcjjgaaGreatDoorKrj
import Derived.Test.YtacnhkaibcjjgaaGreatDoorSp
namespace Go.Proofs.YtacnhkaibcjjgaaGreatDoor
open Go.RowKit Go.Shelf
set_option linter.unusedVariables false
set_option linter.unusedSimpArgs false
attribute [local go_sem] Oper.semAt_some

theorem Si.new (w : World) (l : List Int) (h : 0 < l.length) (n : Nat) (hn : l.length = n) : Si (w.alloc (.cells (l.map (Value.int .i64)).toArray 2)) (.slice (some ⟨w.heap.size, 0, none⟩) n n) l := by
  subst hn
  have hnw := World.alloc_heap_new w (Obj.cells (l.map (Value.int .i64)).toArray 2)
  refine ⟨_, l.length, rfl, fun _ => ⟨w.heap.size, 0, rfl, by simp, fun i hi => ?_⟩⟩
  rw [cell_row hnw, Nat.zero_add]
  simp [nth, hi]
def dK : SD := ⟨true, 0, [1], [1, 2, 3], 1, 2⟩
theorem tight_k : tightD [1] [1, 2, 3] 0 2 = dK := by kernel_rfl
theorem of_k : OfOk [1] [1, 2, 3] 0 := by unfold OfOk; decide +kernel
theorem taken_k : takenD dK = dK := by kernel_rfl
theorem count_k : countD dK = 3 := by decide +kernel
theorem empty_k : emptyD dK = false := by decide +kernel
theorem all_k : allT dK = [[1], [1, 2], [1, 3]] := by decide +kernel
theorem cmp_k : cmpL (tkS [1, 3]) (tkS [1, 2, 9]) = 1 := by decide +kernel
theorem set_lo : IsSet dK.lo := by decide +kernel
theorem set_up : IsSet dK.up := by decide +kernel
theorem text_k : (stx (tkS [1]) ++ stx (tkS [1, 2]) ++ stx (tkS [1, 3])) = [123, 49, 125, 123, 49, 44, 50, 125, 123, 49, 44, 51, 125] := by decide +kernel
end Go.Proofs.YtacnhkaibcjjgaaGreatDoor

namespace Go.Proofs.YtacnhkaibcjjgaaGreatDoor
open Go.RowKit Go.Shelf
set_option linter.unusedVariables false
set_option linter.unusedSimpArgs false
attribute [local go_sem] Oper.semAt_some

/-- The texts of some sets, one behind the other. -/
def txs (p : List (List Int)) : List UInt8 := (p.map fun l => stx (tkS l)).flatten

theorem Tens.here {W w1 : World} (hT : Tens W.heap.size W) (hb : Below W.heap.size W w1) : Tens w1.heap.size w1 := Lib.tabBelow_of_tabIs (hT.on hb).here

theorem txs_short {p : List (List Int)} {l : List Int} {r : List (List Int)} (h : p ++ [l] ++ r = allT dK) : (txs p).length + (stx (tkS l)).length ≤ 100 := by
  have h1 : (txs (p ++ [l] ++ r)).length = (txs p).length + (stx (tkS l)).length + (txs r).length := by unfold txs; simp; omega
  have h2 : (txs (allT dK)).length = 13 := by rw [all_k]; decide +kernel
  rw [h, h2] at h1
  omega

theorem txs_k : some (Obj.cells #[Value.string ⟨(txs [[1], [1, 2], [1, 3]]).toArray⟩] 9 (0, 0)) = some (.cells #[.string ⟨#[123, 49, 125, 123, 49, 44, 50, 125, 123, 49, 44, 51, 125]⟩] 9 (0, 0)) := by
  have : txs [[1], [1, 2], [1, 3]] = [123, 49, 125, 123, 49, 44, 50, 125, 123, 49, 44, 51, 125] := by decide +kernel
  rw [this]
theorem six_of {A : Nat} {W : World} {s : Value} {l : List Int} (h : Si W s l) (hA : W.heap.size ≤ A) : SiX A W s l := by
  obtain ⟨a, c, e, h⟩ := h
  exact ⟨a, c, e, fun h0 => by obtain ⟨b, off, e1, e2, e3⟩ := h h0; exact ⟨b, off, e1, e2, by omega, e3⟩⟩
theorem goes_on {A : Nat} {I : List (List Int) → World → Prop} {p : List (List Int)} {W W' : World} {a : Act} (h1 : KeepsOthers W W') (h2 : Kp A W W') (h3 : I p W') : goesOn A I p W .normal a W' := ⟨h1, h2, h3⟩
theorem kp_cell (A q : Nat) (W : World) (v : Value) : Kp A W (W.setCell ⟨A, q, none⟩ v) :=
  ⟨(KeepsOthers.setCell W _ v).size, fun b o u hb hc => by
    rw [← hc]
    have : (W.setCell ⟨A, q, none⟩ v).heap[b]? = W.heap[b]? := Below.heap_setCell _ _ _ b hb
    simp only [World.cell?, this]⟩
theorem parse_no {e : Ending} {B : Nat} {w : World} (h : ParsE [123, 49, 44, 49, 125] e B w) : e = .returned (.tuple #[.slice none 0 0, .int .i64 20]) := by
  rcases h with ⟨h, _⟩ | ⟨_, h, _⟩ | ⟨_, _, (⟨l, v, hl, h0, hs, _⟩ | ⟨_, h⟩)⟩
  · simp at h
  · simp at h
  · exfalso
    have hps : [[49], [49]] = Lib.split (Lib.trimS [123, 49, 44, 49, 125] [123, 125]) [44] := by decide +kernel
    obtain ⟨e0, l0⟩ := parts_pr hps hl h0 hs 0 (by simp)
    obtain ⟨e1, l1⟩ := parts_pr hps hl h0 hs 1 (by simp)
    have e2 : l[0]? = l[1]? := e0.symm.trans e1
    have := hl.2 1 l1
    unfold SetAt at this
    simp only [nth] at this
    rw [List.getElem?_eq_getElem l0, List.getElem?_eq_getElem l1] at e2
    simp only [Option.some.injEq] at e2
    simp [l0, l1, e2] at this
  · exact h

set_option maxRecDepth 100000 in
set_option maxHeartbeats 4000000 in
theorem known32 (W : World) (hM : MaxL W) (hE : ErrV W) (hT : Tens W.heap.size W) :
    Calls Tryz.prog 32 #[] W fun e w' => e = .returned (.bool true) ∧ Below W.heap.size W w' := by
  have hM0 := hM.1
  have HM : Hid (MaxL W) := hM
  have HE : Hid (ErrV W) := hE
  have HT : Hid (Tens W.heap.size W) := hT
  clear hM hE hT
  obtain ⟨hz, _⟩ := zero_of_info Tryz.info37
  obtain ⟨W1, hW1⟩ : ∃ X, (W.alloc (Obj.cells #[.int .i64 1] 2)).alloc (Obj.cells #[.int .i64 1, .int .i64 2, .int .i64 3] 2) = X := ⟨_, rfl⟩
  have hB1 : Below W.heap.size W W1 := by rw [← hW1]; exact ((Below.refl _ W).alloc (Nat.le_refl _) _).alloc (by simp) _
  have hS1 : Si W1 (.slice (some ⟨W.heap.size, 0, none⟩) 1 1) [1] := by
    rw [← hW1]; exact (Si.new W [1] (by decide) 1 rfl).below ((Below.refl _ _).alloc (Nat.le_refl _) _)
  have hS2 : Si W1 (.slice (some ⟨W.heap.size + 1, 0, none⟩) 3 3) [1, 2, 3] := by
    rw [← hW1]; have := Si.new (W.alloc (Obj.cells #[.int .i64 1] 2)) [1, 2, 3] (by decide) 3 rfl; rwa [World.size_alloc] at this
  have hof := of_ok _ _ [1] [1, 2, 3] 0 2 W1 hS1 hS2 of_k
  rw [tight_k] at hof
  clear hS1 hS2
  refine (callsIn_wide (n := 6)).1 ?_
  refine callsIn_of_wp_marks Tryz.func32 rfl trivial ?_ rfl
  simp only [Tryz.ntmps32, List.size_toArray, List.length_nil, Nat.reduceAdd, Nat.reduceSub, Array.replicate_succ, Array.replicate_zero, List.push_toArray, List.append_toArray, List.nil_append, List.cons_append]
  gi_wp2
  refine ⟨trivial, (callsIn_wide.2 hof).mono ?_⟩
  clear hof
  rintro e w2 ⟨⟨v, rfl, hD⟩, hb2⟩
  have hB2 : Below W.heap.size W w2 := hB1.trans (hb2.mono hB1.size)
  have hdi := hD.di
  obtain ⟨slo, sup, rfl, e0, o1, o2⟩ := hD
  obtain ⟨p1, k1, rfl⟩ := own_slice o1
  obtain ⟨p2, k2, rfl⟩ := own_slice o2
  have HDI : Hid (Di w2 (.agg #[.bool true, .slice none 0 0, .slice p1 1 k1, .slice p2 3 k2, .int .i64 1, .int .i64 2]) dK) := hdi
  have HX2 : Hid (∀ X', Kp (w2.heap.size + 1) w2 X' → Di X' (.agg #[.bool true, .slice none 0 0, .slice p1 1 k1, .slice p2 3 k2, .int .i64 1, .int .i64 2]) dK) := fun X' hk =>
    ⟨none, 0, _, _, rfl, ((six_of (own_si o1) (Nat.le_succ _)).kp hk).si, ((six_of (own_si o2) (Nat.le_succ _)).kp hk).si⟩
  clear o1 o2 e0 hb2 hB1 hW1 hdi
  dsimp only [dK, List.length_cons, List.length_nil, Nat.reduceAdd]
  gi_upto_region 3 with (fail)
  have hd3 : ((w2.alloc (Obj.cells #[.bool true, .slice none 0 0, .slice p1 1 k1, .slice p2 3 k2, .int .i64 1, .int .i64 2] 37)).alloc (Obj.cells #[.string ⟨#[]⟩] 9)).heap[w2.heap.size]? = some (.cells #[.bool true, .slice none 0 0, .slice p1 1 k1, .slice p2 3 k2, .int .i64 1, .int .i64 2] 37 (0, 0)) := (Below.heap_alloc _ _ _ (by simp)).trans (World.alloc_heap_new w2 _)
  have hs3 : ((w2.alloc (Obj.cells #[.bool true, .slice none 0 0, .slice p1 1 k1, .slice p2 3 k2, .int .i64 1, .int .i64 2] 37)).alloc (Obj.cells #[.string ⟨#[]⟩] 9)).heap[w2.heap.size + 1]? = some (.cells #[.string ⟨#[]⟩] 9 (0, 0)) := by
    have := World.alloc_heap_new (w2.alloc (Obj.cells #[.bool true, .slice none 0 0, .slice p1 1 k1, .slice p2 3 k2, .int .i64 1, .int .i64 2] 37)) (Obj.cells #[.string ⟨#[]⟩] 9); rwa [World.size_alloc] at this
  have hb3 : Below w2.heap.size w2 ((w2.alloc (Obj.cells #[.bool true, .slice none 0 0, .slice p1 1 k1, .slice p2 3 k2, .int .i64 1, .int .i64 2] 37)).alloc (Obj.cells #[.string ⟨#[]⟩] 9)) := ((Below.refl _ w2).alloc (Nat.le_refl _) _).alloc (by simp) _
  have hN2 : W.heap.size ≤ w2.heap.size := hB2.size
  have hB3 := hB2.trans (hb3.mono hN2)
  have HDI3 : Hid _ := HDI.out.below hb3
  have hk23 := Kp.below (A := w2.heap.size + 1) hb3
  clear hb3 HDI hz
  generalize (w2.alloc (Obj.cells #[.bool true, .slice none 0 0, .slice p1 1 k1, .slice p2 3 k2, .int .i64 1, .int .i64 2] 37)).alloc (Obj.cells #[.string ⟨#[]⟩] 9) = W3 at hd3 hs3 hB3 HDI3 hk23 ⊢
  generalize w2.heap.size = D at hd3 hs3 hN2 hk23 HX2 ⊢
  have hea := each_any _ _ W3 HDI3.out
  rw [taken_k] at hea
  have hlt3 : D + 1 < W3.heap.size := (Array.getElem?_eq_some_iff.1 hs3).1
  obtain ⟨z0, z1, z2, z3, z4, z5⟩ := six_cells hd3
  gi_wp2
  refine ⟨trivial, (callsIn_wide.2 hea).mono ?_⟩
  rintro e w4 ⟨⟨B, rfl, p1', k1', p2', k2', hBge, hBr, r1, r2⟩, hb4⟩
  have hd4 := (hb4.block D (by omega)).trans hd3
  have hs4 := (hb4.block (D + 1) hlt3).trans hs3
  have hB4 := hB3.trans (hb4.mono hB3.size)
  have hlt4 : D + 1 < w4.heap.size := Nat.lt_of_lt_of_le hlt3 hb4.size
  have hBA : B ≠ D + 1 := by omega
  have hk24 : Kp (D + 1) w2 w4 := hk23.trans (Kp.below hb4)
  have q1 := own_six (A := D + 1) r1 (by omega)
  have q2 := own_six (A := D + 1) r2 (by omega)
  have HDI4 : Hid (Di w4 (.agg #[.bool true, .slice none 0 0, .slice p1 1 k1, .slice p2 3 k2, .int .i64 1, .int .i64 2]) dK) := Di.below (v := .agg #[.bool true, .slice none 0 0, .slice p1 1 k1, .slice p2 3 k2, .int .i64 1, .int .i64 2]) (d := dK) HDI3.out hb4
  have HQ : Hid (SiX (D + 1) w4 (.slice p1' dK.lo.length k1') dK.lo ∧ SiX (D + 1) w4 (.slice p2' dK.up.length k2') dK.up ∧ w4.heap[B]? = some (.cells #[.bool dK.set, .slice none 0 0, .slice p1' dK.lo.length k1', .slice p2' dK.up.length k2', .int .i64 dK.least, .int .i64 dK.most] 37 (0, 0))) := ⟨q1, q2, hBr⟩
  have HW4 : Hid (w4.heap[D]? = some (.cells #[.bool true, .slice none 0 0, .slice p1 1 k1, .slice p2 3 k2, .int .i64 1, .int .i64 2] 37 (0, 0)) ∧ w4.heap[D + 1]? = some (.cells #[.string ⟨#[]⟩] 9 (0, 0)) ∧ Below W.heap.size W w4) := ⟨hd4, hs4, hB4⟩
  clear r1 r2 q1 q2 hBr hea hb4 z0 z1 z2 z3 z4 z5 hd3 hs3 hd4 hs4 hB4 hB3 HDI3 hB2
  have hnil : ∀ w : World, (binOp .eql 52 (.func (.func 82) #[] #[.pointer (some ⟨B, 0, none⟩)]) .nilFunc).run Tryz.prog w = .ok (.bool false) w := fun _ => rfl
  gi_wp2
  have mixed : Tryz.prog.follows .mixedOrders = true := by kernel_rfl
  refine range_sets (w := w4) 6 (D + 1) B rfl hBA dK empty_k set_lo set_up rfl p1' p2' k1' k2' hlt4 HQ.out.2.2 HQ.out.1 HQ.out.2.1
    (fun p X => X.heap[D + 1]? = some (.cells #[.string ⟨(txs p).toArray⟩] 9 (0, 0)) ∧ X.heap[D]? = some (.cells #[.bool true, .slice none 0 0, .slice p1 1 k1, .slice p2 3 k2, .int .i64 1, .int .i64 2] 37 (0, 0)) ∧ Below W.heap.size W X) ?ib ?ip ⟨HW4.out.2.1, HW4.out.1, HW4.out.2.2⟩ ?a1 ?assign ?body ?done
  case ib =>
    rintro p X Y hX ⟨i1, i2, i3⟩ hb
    exact ⟨(hb.block _ (by omega)).trans i1, (hb.block _ (by omega)).trans i2, i3.trans (hb.mono i3.size)⟩
  case ip =>
    rintro p X k o o' hk ⟨i1, i2, i3⟩ ho hc
    exact ⟨(World.putObj_heap_other (by omega)).trans i1, (World.putObj_heap_other (by omega)).trans i2, i3.trans ((Below.refl _ X).grown (grownBy_putObj' X k o') (by have := i3.size; omega) (fun r e => by cases e; have := i3.size; have := HW4.out.2.2.size; omega))⟩
  case assign =>
    intro l m v X K hK
    gi_wp2
    exact hK
  case body =>
    rintro lr m p l v X ⟨rr, hrr⟩ hX ⟨i1, i2, i3⟩ hv
    have hlen : (txs p).length + (stx (tkS l)).length ≤ 100 := txs_short hrr
    have i4 : Below W.heap.size W X.drew := i3.drew
    have hTX := Tens.here HT.out i4
    have htx := text_any v l X.drew (hv.below (Below.drew (Below.refl _ X))) hTX
    have cA : X.cell? ⟨D + 1, 0, none⟩ = some (.string ⟨(txs p).toArray⟩) := (cell_row i1 0).trans rfl
    have fA : X.frozen? ⟨D + 1, 0, none⟩ = false := by simp [World.frozen?, i1]
    have hAX : D + 1 < X.heap.size := (Array.getElem?_eq_some_iff.1 i1).1
    have HTX : Hid (txs (p ++ [l]) = txs p ++ stx (tkS l)) := by unfold Hid txs; simp
    generalize txs p = tp at i1 cA HTX hlen
    generalize stx (tkS l) = tl at htx HTX hlen
    clear hrr
    clear hTX hv
    have hdep : Fence.wide.depth.isSome = false := rfl
    have hfn : ∀ f, Fence.wide.fn f = True := fun _ => rfl
    gi_wp2
    gi_region_with_o (gi_at_call 21; refine (CallsIn.inRound lr (callsIn_wide.2 htx)).mono ?_; rintro e Y ⟨rfl, hbY⟩; have cY : Y.cell? ⟨D + 1, 0, none⟩ = some (.string ⟨tp.toArray⟩) := (hbY.cell (p := ⟨D + 1, 0, none⟩) hAX).trans cA; have fY : Y.frozen? ⟨D + 1, 0, none⟩ = false := frozen_of_row Y (D + 1) 0 _ 9 ((hbY.block (D + 1) hAX).trans i1))
    all_goals
      have hbX : Below X.heap.size X Y := (Below.drew (Below.refl _ X)).trans hbY
      have hD1 : Y.heap[D + 1]? = _ := (hbX.block (D + 1) hAX).trans i1
      simp only [Exit.inBlock]
      refine goes_on ⟨Nat.le_trans hbX.size (KeepsOthers.setCell Y _ _).size, fun k o hk ho => (KeepsOthers.setCell Y _ _).same k o ((hbX.block k (Array.getElem?_eq_some_iff.1 hk).1).trans hk) ho⟩ ((Kp.below hbX).trans (kp_cell _ _ _ _)) ⟨?_, ?_, ?_⟩
      · rw [row_set hD1, HTX.out, ByteArray.mk_append_mk]; rfl
      · rw [heap_setCell_other _ _ _ _ (by simp)]; exact (hbX.block D (by omega)).trans i2
      · exact (i3.trans (hbX.mono i3.size)).setCell (p := ⟨D + 1, 0, none⟩) (by show W.heap.size ≤ D + 1; omega) _
  case done =>
    rintro M X hM2 hkX ⟨i1, i2, i3⟩ hMX
    rw [all_k] at i1
    have hpa := parse_any ⟨#[123, 49, 44, 49, 125]⟩ X (HM.out.below i3 hM0) (HE.out.below i3 (by omega)) (Tens.here HT.out i3)
    have HMX : Hid _ := hMX
    have hlM : M < X.heap.size := (Array.getElem?_eq_some_iff.1 hMX).1
    have HI : Hid (X.heap[D + 1]? = some (.cells #[.string ⟨(txs [[1], [1, 2], [1, 3]]).toArray⟩] 9 (0, 0)) ∧ X.heap[D]? = some (.cells #[.bool true, .slice none 0 0, .slice p1 1 k1, .slice p2 3 k2, .int .i64 1, .int .i64 2] 37 (0, 0)) ∧ Below W.heap.size W X) := ⟨i1, i2, i3⟩
    have hAX : D + 1 < X.heap.size := (Array.getElem?_eq_some_iff.1 i1).1
    clear hMX i1 i2
    gi_wp2
    refine ⟨trivial, (callsIn_wide.2 hpa).mono ?_⟩
    rintro e Y ⟨hPE, hbY⟩
    obtain rfl := parse_no hPE
    clear hPE
    have hYd : Y.heap[D]? = some (.cells #[.bool true, .slice none 0 0, .slice p1 1 k1, .slice p2 3 k2, .int .i64 1, .int .i64 2] 37 (0, 0)) := (hbY.block D (by omega)).trans HI.out.2.1
    have hYs : Y.heap[D + 1]? = some (.cells #[.string ⟨#[123, 49, 125, 123, 49, 44, 50, 125, 123, 49, 44, 51, 125]⟩] 9 (0, 0)) := (hbY.block (D + 1) hAX).trans (HI.out.1.trans txs_k)
    have hBY : Below W.heap.size W Y := HI.out.2.2.trans (hbY.mono HI.out.2.2.size)
    have HYM : Hid (Y.heap[M]? = some (.deferred (some []))) := (hbY.block M hlM).trans HMX.out
    have hdiX : Di X (.agg #[.bool true, .slice none 0 0, .slice p1 1 k1, .slice p2 3 k2, .int .i64 1, .int .i64 2]) dK := HX2.out X (hk24.trans hkX)
    have hC1 : ∀ w, Below Y.heap.size Y w → Calls Tryz.prog 46 #[.agg #[.bool true, .slice none 0 0, .slice p1 1 k1, .slice p2 3 k2, .int .i64 1, .int .i64 2]] w fun e w' => e = .returned (.int .i64 3) ∧ Below w.heap.size w w' := fun w hw => by
      have := count_any _ _ w ((hdiX.below hbY).below hw)
      rwa [count_k] at this
    have HC1 : Hid _ := hC1
    clear hC1 hdiX hbY
    obtain ⟨z0, z1, z2, z3, z4, z5⟩ := six_cells hYd
    have hYA : D + 1 < Y.heap.size := (Array.getElem?_eq_some_iff.1 hYs).1
    gi_wp2
    refine ⟨trivial, (callsIn_wide.2 (HC1.out Y (Below.refl _ Y))).mono ?_⟩
    rintro e w1 ⟨rfl, hb1⟩
    have c1 : w1.cell? ⟨D + 1, 0, none⟩ = some (.string ⟨#[123, 49, 125, 123, 49, 44, 50, 125, 123, 49, 44, 51, 125]⟩) := (cell_row ((hb1.block (D + 1) hYA).trans hYs) 0).trans rfl
    clear z0 z1 z2 z3 z4 z5
    obtain ⟨w3, hw3⟩ : ∃ X, (w1.alloc (Obj.cells #[.int .i64 1, .int .i64 3] 2)).alloc (Obj.cells #[.int .i64 1, .int .i64 2, .int .i64 9] 2) = X := ⟨_, rfl⟩
    have hb3 : Below w1.heap.size w1 w3 := by rw [← hw3]; exact ((Below.refl _ w1).alloc (Nat.le_refl _) _).alloc (by simp) _
    have t1 : Si w3 (.slice (some ⟨w1.heap.size, 0, none⟩) 2 2) [1, 3] := by
      rw [← hw3]; exact (Si.new w1 [1, 3] (by decide) 2 rfl).below ((Below.refl _ _).alloc (Nat.le_refl _) _)
    have t2 : Si w3 (.slice (some ⟨w1.heap.size + 1, 0, none⟩) 3 3) [1, 2, 9] := by
      rw [← hw3]; have := Si.new (w1.alloc (Obj.cells #[.int .i64 1, .int .i64 3] 2)) [1, 2, 9] (by decide) 3 rfl; rwa [World.size_alloc] at this
    have hcm := cmp_any _ _ _ _ w3 t1 t2
    rw [cmp_k] at hcm
    clear t1 t2
    gi_wp2
    refine ⟨trivial, (callsIn_wide.2 hcm).mono ?_⟩
    rintro e w4' ⟨rfl, hb5⟩
    have hw : Below Y.heap.size Y w4' := hb1.trans ((hb3.trans (hb5.mono hb3.size)).mono hb1.size)
    have hwM : w4'.heap[M]? = some (.deferred (some [])) := (hw.block M (Array.getElem?_eq_some_iff.1 HYM.out).1).trans HYM.out
    have hBw : Below W.heap.size W w4' := hBY.trans (hw.mono hBY.size)
    gi_wp2
    refine ⟨by simp, .inl ⟨_, _, rfl, run_takeDeferred hwM, ?_⟩⟩
    refine ⟨_, results_tmp (t := 0) rfl _ _ _, rfl, ?_⟩
    exact hBw.trans (belowK_b (n₀ := W.heap.size) (w := W) (Nat.le_refl _) _ M _ (.deferred none) (by have := HW4.out.2.2.size; omega) hwM rfl rfl)
end Go.Proofs.YtacnhkaibcjjgaaGreatDoor
