/-
  What is proved here: the walk of LexWords.
-/
import Derived.Test.YtokcbiafajpmoaaDoorMa
namespace Go.Proofs.YtokcbiafajpmoaaDoor
open Go.RowKit
set_option linter.unusedVariables false
set_option linter.unusedSimpArgs false

attribute [local go_sem] Oper.semAt_some
/-- A variable in memory. -/
structure C1 (w : World) (g : Nat) (v : Value) (t : TypeId) : Prop where
  h : w.heap[g]? = some (.cells #[v] t (0, 0))
theorem C1.below {w w' : World} {g : Nat} {v : Value} {t : TypeId} (h : C1 w g v t) (hb : Below w.heap.size w w') : C1 w' g v t := ⟨(hb.block _ (Array.getElem?_eq_some_iff.1 h.h).1).trans h.h⟩
theorem cell_row {W : World} {g : Nat} {cur : Array Value} {t : TypeId} {f : Nat × Nat} (h : W.heap[g]? = some (.cells cur t f)) (j : Nat) : W.cell? ⟨g, j, none⟩ = cur[j]? := by simp [World.cell?, h]
theorem C1.cell {w : World} {g : Nat} {v : Value} {t : TypeId} (h : C1 w g v t) : w.cell? ⟨g, 0, none⟩ = some v := (cell_row h.h 0).trans rfl
theorem C1.lt {w : World} {g : Nat} {v : Value} {t : TypeId} (h : C1 w g v t) : g < w.heap.size := (Array.getElem?_eq_some_iff.1 h.h).1
theorem C1.put {w : World} {g k : Nat} {v : Value} {t : TypeId} (h : C1 w g v t) (hk : g ≠ k) (o : Obj) : C1 (w.putObj k o) g v t := ⟨(World.putObj_heap_other hk).trans h.h⟩
theorem row_set {W : World} {A : Nat} {cur : Array Value} {t : TypeId} (h : W.heap[A]? = some (.cells cur t (0, 0))) (q : Nat) (v : Value) : (W.setCell ⟨A, q, none⟩ v).heap[A]? = some (.cells (cur.setIfInBounds q v) t (0, 0)) := by
  obtain ⟨hlt, hk⟩ := Array.getElem?_eq_some_iff.1 h
  show (W.heap.modify A _)[A]? = _
  rw [Array.getElem?_eq_getElem (by rw [Array.size_modify]; exact hlt), Array.getElem_modify_self, hk]
  rfl
theorem C1.fz {w : World} {g : Nat} {v : Value} {t : TypeId} (h : C1 w g v t) : w.frozen? ⟨g, 0, none⟩ = false := by simp [World.frozen?, h.h]
theorem C1.set {w : World} {g : Nat} {v u : Value} {t : TypeId} (h : C1 w g v t) : C1 (w.setCell ⟨g, 0, none⟩ u) g u t := ⟨by rw [row_set h.h]; rfl⟩
theorem C1.other {w : World} {g k : Nat} {v u : Value} {t : TypeId} (h : C1 w g v t) (hk : g ≠ k) : C1 (w.setCell ⟨k, 0, none⟩ u) g v t := ⟨(Below.heap_setCell _ _ _ g hk).trans h.h⟩
theorem KA.setCell {B k : Nat} (W : World) (u : Value) (hk : k < B) : KA B W (W.setCell ⟨k, 0, none⟩ u) := ⟨by simp [World.setCell], fun i o hi ho => (Below.heap_setCell W ⟨k, 0, none⟩ u i (show i ≠ k by omega)).trans ho⟩
/-- What is kept through the rounds of LexWords: how many tokens came, and whether the last one is the end. -/
structure InW (W : World) (A : Nat) (T : List Tok) (X : World) : Prop where
  n : C1 X A (.int .i64 (T.length : Int)) 3
  e : C1 X (A + 1) (.bool (lastEnd T)) 4
  b : Below W.heap.size W X
theorem InW.below {W : World} {A : Nat} {T : List Tok} {X Y : World} (h : InW W A T X) (hb : Below X.heap.size X Y) : InW W A T Y := ⟨h.n.below hb, h.e.below hb, h.b.trans (hb.mono h.b.size)⟩
theorem InW.put {W : World} {A k : Nat} {T : List Tok} {X : World} (h : InW W A T X) (hA : A + 1 < k) (hW : W.heap.size ≤ A) (o : Obj) : InW W A T (X.putObj k o) :=
  ⟨h.n.put (by omega) _, h.e.put (by omega) _, h.b.trans ((Below.refl _ X).grown (grownBy_putObj' X k o) h.b.size (fun r e => by cases e; omega))⟩

set_option maxRecDepth 100000 in
set_option maxHeartbeats 4000000 in
theorem words_walk (b : List UInt8) (hbl : b.length ≤ 140737488355328) (W : World) (hE : ErrV W) :
    Calls Tryd.prog 6 #[.string (bs b)] W fun e w' => e = .returned (.bool true) ∧ Below W.heap.size W w' := by
  have hsc := scan_any b W hE
  have hwd := fun X => word_any b hbl X
  have hea := fun X => each15 b X
  have hkn := fun X (hX : ErrV X) => known16 X hX
  have hle := all_last b
  have hws := word_scan b
  have hsw := scan_word b
  have hal := scan_all b
  have her := scan_err b
  have hlong : 65536 < b.length → allT b = ([], 3, 0) := fun h => by unfold allT; rw [if_pos h]
  have hsz : (bs b).size = b.length := bs_size b
  obtain ⟨⟨T, x, p⟩, hall⟩ : ∃ y, allT b = y := ⟨_, rfl⟩
  have HALL : Hid ((allT b).1 = T) := by unfold Hid; rw [hall]
  rw [hall] at hle hws hsw hal her hlong
  simp only at hle hws hsw hal her hlong
  obtain ⟨n, hn⟩ : ∃ n, b.length = n := ⟨_, rfl⟩
  rw [hn] at hsz hbl hws hsw hlong
  have HE : Hid (ErrV W) := hE
  have HWD : Hid _ := hwd
  have HEA : Hid _ := hea
  have HKN : Hid _ := hkn
  clear hE hall hwd hea hkn hn
  refine (callsIn_wide (n := 6)).1 ?_
  refine callsIn_of_wp_marks Tryd.func6 rfl trivial ?_ rfl
  simp only [Tryd.ntmps6, List.size_toArray, List.length_cons, List.length_nil, Nat.reduceAdd, Nat.reduceSub, Array.replicate_succ, Array.replicate_zero, List.push_toArray, List.append_toArray, List.nil_append, List.cons_append]
  gi_wp2_with fail
  refine ⟨trivial, (callsIn_wide.2 hsc).mono ?_⟩
  rintro e w1 ⟨v, rfl, hown, hb1⟩
  have HT1 : Hid _ := own_tr hown
  have hmax := own_le hown
  unfold maxLen at hmax
  clear hsc hown
  have hnl : T.length < 9223372036854775807 := by have := all_count b; rw [HALL.out] at this; omega
  by_cases hx : x = 0
  · have hS := hal hx
    have HL : Hid (lastEnd T = true) := by unfold Hid; rw [← hle]; simpa using hx
    have hn6 : n ≤ 65536 := by
      apply Classical.byContradiction; intro h
      have h2 := hlong (by omega)
      simp only [Prod.mk.injEq] at h2
      omega
    rw [hS] at HT1 hmax ⊢
    simp only at hmax ⊢
    obtain ⟨a0, cap, rfl, hcells⟩ := HT1.out.h
    have HCE : Hid _ := hcells
    clear hS her hal hle hlong hx HT1 hcells
    cases hwb : wordB b with
    | true =>
      have hT := hws hn6 hwb
      simp only [Prod.mk.injEq] at hT
      obtain ⟨hT, _, _⟩ := hT
      obtain ⟨g, rfl, hg, hcc⟩ := HCE.out (by rw [hT]; simp)
      obtain ⟨c0, c1, _, _⟩ := hcc 0 ⟨1, b, 0, 0⟩ (by rw [hT]; rfl)
      have hT2 : T.length = 2 := by rw [hT]; rfl
      have d0 : w1.cell? ⟨g, 0, none⟩ = some (.int .i64 1) := c0
      have d1 : w1.cell? ⟨g, 1, none⟩ = some (.string (bs b)) := c1
      rw [hT2]
      have HT2 : Hid (T.length = 2) := hT2
      clear hcc c0 c1 hT hws hsw hT2 HCE
      gi_wp2_with fail
      refine ⟨trivial, (callsIn_wide.2 (HWD.out w1)).mono ?_⟩
      rw [hwb]
      rintro e w1 ⟨rfl, rfl⟩
      gi_upto_region 5 with (fail)
      gi_wp2_with fail
      refine ⟨trivial, (callsIn_wide.2 (HEA.out w1)).mono ?_⟩
      rintro e w2 ⟨rfl, hw2⟩
      have hz2 : Below w1.heap.size w1 w2 := by rw [hw2]; exact (Below.refl _ w1).alloc (Nat.le_refl _) _
      have hB2 : Rw w2 w1.heap.size 9 #[.string (bs b)] := by rw [hw2]; exact Rw.new _ _ _
      have hs2 : w2.heap.size = w1.heap.size + 1 := by rw [hw2]; simp
      have hnil : ∀ w : World, (binOp .eql 32 (.func (.func 26) #[] #[.pointer (some ⟨w1.heap.size, 0, none⟩)]) .nilFunc).run Tryd.prog w = .ok (.bool false) w := fun _ => rfl
      obtain ⟨w3, hw3⟩ : ∃ X, (w2.alloc (Obj.cells #[.int .i64 0] 3)).alloc (Obj.cells #[.bool false] 4) = X := ⟨_, rfl⟩
      have hz3 : Below w2.heap.size w2 w3 := by rw [← hw3]; exact ((Below.refl _ w2).alloc (Nat.le_refl _) _).alloc (by simp) _
      have HB3 : Hid (w3.cell? ⟨w1.heap.size, 0, none⟩ = some (.string (bs b))) := (hz3.cell (p := ⟨w1.heap.size, 0, none⟩) (by rw [hs2]; show w1.heap.size < _; omega)).trans (hB2.cell 0 _ rfl)
      have HI3 : Hid (InW W w2.heap.size [] w3) := by
        refine ⟨?_, ?_, hb1.trans ((hz2.trans (hz3.mono hz2.size)).mono hb1.size)⟩
        · rw [← hw3]; exact ⟨(Below.heap_alloc _ _ _ (by simp)).trans (World.alloc_heap_new _ _)⟩
        · rw [← hw3]; exact ⟨by have := World.alloc_heap_new (w2.alloc (Obj.cells #[.int .i64 0] 3)) (Obj.cells #[.bool false] 4); rwa [World.size_alloc] at this⟩
      have HW3 : Hid _ := hw3
      have hw3s : w2.heap.size + 1 < w3.heap.size := HI3.out.e.lt
      have hWs : W.heap.size ≤ w2.heap.size := Nat.le_trans hb1.size hz2.size
      clear hw2 hw3 hB2 hs2
      gi_wp2
      rw [HW3.out]
      clear HW3
      have mixed : Tryd.prog.follows .mixedOrders = true := by kernel_rfl
      refine range26v (w := w3) 6 0 w1.heap.size b rfl HB3.out (fun q X => InW W w2.heap.size q X) (fun _ => False)
        ?imc1 ?ibc1 ?ipc1 ?xpc1 HI3.out ?a1c1 ?assignc1 ?bodyc1 ?leftc1 ?donec1
      case imc1 => exact fun q X h => HE.out.self h.b
      case ibc1 => exact fun q X Y _ h hb => h.below hb
      case ipc1 => exact fun q X k o o' hk h ho hc => h.put (by omega) hWs _
      case xpc1 => exact fun X k o o' hk h ho hc => h.elim
      case assignc1 =>
        intro l m t Bx X K hBx hK
        unfold Tok.val
        gi_wp2
        exact hK
      case bodyc1 =>
        rintro l m q t Bx X ⟨rr, hrr⟩ hBx hsX hR hI
        rw [HALL.out] at hrr
        have hqn : q.length + 1 ≤ T.length := by rw [← hrr]; simp
        have ci := hI.n.cell
        have fi := hI.n.fz
        have HI : Hid _ := hI
        obtain ⟨qn, hq⟩ : ∃ m, q.length = m := ⟨_, rfl⟩
        rw [hq] at ci hqn
        have hw1 : IntKind.i64.wrap ((qn : Int) + 1) = (qn : Int) + 1 := by rw [IntKind.wrap_i64]; omega
        have HQ : Hid (q.length = qn) := hq
        have ct : X.cell? ⟨Bx, 0, none⟩ = some (.int .i64 t.k) := hR.cell 0 _ rfl
        have HRX : Hid _ := hR
        clear hI hR hrr hq
        gi_upto_region 13 with (fail)
        have hnA := HI.out.n.set (u := .int .i64 ((qn : Int) + 1))
        have heA := HI.out.e.other (k := w2.heap.size) (u := .int .i64 ((qn : Int) + 1)) (by omega)
        have hbA := HI.out.b.setCell (p := ⟨w2.heap.size, 0, none⟩) (show W.heap.size ≤ w2.heap.size from hWs) (.int .i64 ((qn : Int) + 1))
        have hRA : Rw (X.setCell ⟨w2.heap.size, 0, none⟩ (.int .i64 ((qn : Int) + 1))) Bx 23 (tokC t).toArray := ⟨(Below.heap_setCell _ ⟨w2.heap.size, 0, none⟩ _ Bx (show Bx ≠ w2.heap.size by omega)).trans HRX.out.h⟩
        have hkA := KA.setCell (B := w3.heap.size) X (.int .i64 ((qn : Int) + 1)) (k := w2.heap.size) (by omega)
        obtain ⟨Y, hY⟩ : ∃ Y, X.setCell ⟨w2.heap.size, 0, none⟩ (.int .i64 ((qn : Int) + 1)) = Y := ⟨_, rfl⟩
        rw [hY] at hnA heA hbA hRA hkA ⊢
        have ct2 : Y.cell? ⟨Bx, 0, none⟩ = some (.int .i64 t.k) := hRA.cell 0 _ rfl
        have ce := heA.cell
        have fe := heA.fz
        have HNA : Hid _ := hnA
        have HEA2 : Hid _ := heA
        have HBA : Hid _ := hbA
        have HKA : Hid _ := hkA
        clear hY hnA heA hbA hRA hkA ci fi ct
        gi_wp2
        refine ⟨HKA.out.trans (KA.setCell _ _ (by omega)), ?_, ?_, HBA.out.setCell (p := ⟨w2.heap.size + 1, 0, none⟩) (show W.heap.size ≤ w2.heap.size + 1 by omega) _⟩
        · have := C1.other (k := w2.heap.size + 1) (u := .bool (t.k == 5)) HNA.out (by omega)
          rw [List.length_append, HQ.out]
          exact this
        · have := C1.set (u := .bool (t.k == 5)) HEA2.out
          rw [lastEnd_app]
          exact this
      case leftc1 => exact fun D X hD h hDX => h.elim
      case donec1 =>
        rintro D X hD hI hDX
        rw [HALL.out] at hI
        have ce := hI.e.cell
        have cn := hI.n.cell
        rw [HL.out] at ce
        clear cn; have cn : X.cell? ⟨w2.heap.size, 0, none⟩ = some (.int .i64 2) := by have := hI.n.cell; rw [HT2.out] at this; exact this
        have HDX : Hid _ := hDX
        have HI : Hid _ := hI
        clear hDX hI
        gi_wp2
        refine ⟨trivial, (callsIn_wide.2 (HKN.out X (HE.out.self (InW.b HI.out)))).mono ?_⟩
        rintro e X2 ⟨rfl, hbX⟩
        have HDX2 : Hid _ := (hbX.block _ (Array.getElem?_eq_some_iff.1 HDX.out).1).trans HDX.out
        have HBX2 : Hid (Below W.heap.size W X2) := (InW.b HI.out).trans (hbX.mono (InW.b HI.out).size)
        clear hbX ce cn
        gi_wp2
        refine ⟨by simp, .inl ⟨_, _, rfl, run_takeDeferred HDX2.out, ?_⟩⟩
        exact ⟨_, results_tmp rfl _ _ _, rfl, HBX2.out.trans ((Below.refl _ X2).grown (grownBy_putObj' X2 D _) HBX2.out.size (fun r e => by cases e; omega))⟩
    | false =>
      by_cases h2 : T.length = 2
      · have h0 : 0 < T.length := by omega
        obtain ⟨g, rfl, hg, hcc⟩ := HCE.out h0
        obtain ⟨t0, ht0⟩ : ∃ t, T[0]? = some t := ⟨_, List.getElem?_eq_getElem h0⟩
        clear h0
        obtain ⟨c0, c1, _, _⟩ := hcc 0 t0 ht0
        have d0 : w1.cell? ⟨g, 0, none⟩ = some (.int .i64 t0.k) := c0
        have d1 : w1.cell? ⟨g, 1, none⟩ = some (.string (bs t0.tx)) := c1
        by_cases hk : t0.k = 1
        · have hne : t0.tx ≠ b := fun h => by have := hsw t0 hn6 ht0 hk h; rw [hwb] at this; exact Bool.noConfusion this
          have hs1 : ((bs t0.tx).toList == (bs b).toList) = false := by rw [bs_toList, bs_toList]; simpa using hne
          have hs2 : ¬ (bs t0.tx).toList = (bs b).toList := by rw [bs_toList, bs_toList]; exact hne
          have hkb : (t0.k == 1) = true := by simpa using hk
          rw [h2]
          have HT2 : Hid (T.length = 2) := h2
          clear hcc c0 c1 hws hsw h2 HCE ht0 hk hne
          gi_wp2_with fail
          refine ⟨trivial, (callsIn_wide.2 (HWD.out w1)).mono ?_⟩
          rw [hwb]
          rintro e w1 ⟨rfl, rfl⟩
          gi_upto_region 5 with (fail)
          gi_wp2_with fail
          refine ⟨trivial, (callsIn_wide.2 (HEA.out w1)).mono ?_⟩
          rintro e w2 ⟨rfl, hw2⟩
          have hz2 : Below w1.heap.size w1 w2 := by rw [hw2]; exact (Below.refl _ w1).alloc (Nat.le_refl _) _
          have hB2 : Rw w2 w1.heap.size 9 #[.string (bs b)] := by rw [hw2]; exact Rw.new _ _ _
          have hs2 : w2.heap.size = w1.heap.size + 1 := by rw [hw2]; simp
          have hnil : ∀ w : World, (binOp .eql 32 (.func (.func 26) #[] #[.pointer (some ⟨w1.heap.size, 0, none⟩)]) .nilFunc).run Tryd.prog w = .ok (.bool false) w := fun _ => rfl
          obtain ⟨w3, hw3⟩ : ∃ X, (w2.alloc (Obj.cells #[.int .i64 0] 3)).alloc (Obj.cells #[.bool false] 4) = X := ⟨_, rfl⟩
          have hz3 : Below w2.heap.size w2 w3 := by rw [← hw3]; exact ((Below.refl _ w2).alloc (Nat.le_refl _) _).alloc (by simp) _
          have HB3 : Hid (w3.cell? ⟨w1.heap.size, 0, none⟩ = some (.string (bs b))) := (hz3.cell (p := ⟨w1.heap.size, 0, none⟩) (by rw [hs2]; show w1.heap.size < _; omega)).trans (hB2.cell 0 _ rfl)
          have HI3 : Hid (InW W w2.heap.size [] w3) := by
            refine ⟨?_, ?_, hb1.trans ((hz2.trans (hz3.mono hz2.size)).mono hb1.size)⟩
            · rw [← hw3]; exact ⟨(Below.heap_alloc _ _ _ (by simp)).trans (World.alloc_heap_new _ _)⟩
            · rw [← hw3]; exact ⟨by have := World.alloc_heap_new (w2.alloc (Obj.cells #[.int .i64 0] 3)) (Obj.cells #[.bool false] 4); rwa [World.size_alloc] at this⟩
          have HW3 : Hid _ := hw3
          have hw3s : w2.heap.size + 1 < w3.heap.size := HI3.out.e.lt
          have hWs : W.heap.size ≤ w2.heap.size := Nat.le_trans hb1.size hz2.size
          clear hw2 hw3 hB2 hs2
          gi_wp2
          rw [HW3.out]
          clear HW3
          have mixed : Tryd.prog.follows .mixedOrders = true := by kernel_rfl
          refine range26v (w := w3) 6 0 w1.heap.size b rfl HB3.out (fun q X => InW W w2.heap.size q X) (fun _ => False)
            ?imc2 ?ibc2 ?ipc2 ?xpc2 HI3.out ?a1c2 ?assignc2 ?bodyc2 ?leftc2 ?donec2
          case imc2 => exact fun q X h => HE.out.self h.b
          case ibc2 => exact fun q X Y _ h hb => h.below hb
          case ipc2 => exact fun q X k o o' hk h ho hc => h.put (by omega) hWs _
          case xpc2 => exact fun X k o o' hk h ho hc => h.elim
          case assignc2 =>
            intro l m t Bx X K hBx hK
            unfold Tok.val
            gi_wp2
            exact hK
          case bodyc2 =>
            rintro l m q t Bx X ⟨rr, hrr⟩ hBx hsX hR hI
            rw [HALL.out] at hrr
            have hqn : q.length + 1 ≤ T.length := by rw [← hrr]; simp
            have ci := hI.n.cell
            have fi := hI.n.fz
            have HI : Hid _ := hI
            obtain ⟨qn, hq⟩ : ∃ m, q.length = m := ⟨_, rfl⟩
            rw [hq] at ci hqn
            have hw1 : IntKind.i64.wrap ((qn : Int) + 1) = (qn : Int) + 1 := by rw [IntKind.wrap_i64]; omega
            have HQ : Hid (q.length = qn) := hq
            have ct : X.cell? ⟨Bx, 0, none⟩ = some (.int .i64 t.k) := hR.cell 0 _ rfl
            have HRX : Hid _ := hR
            clear hI hR hrr hq
            gi_upto_region 13 with (fail)
            have hnA := HI.out.n.set (u := .int .i64 ((qn : Int) + 1))
            have heA := HI.out.e.other (k := w2.heap.size) (u := .int .i64 ((qn : Int) + 1)) (by omega)
            have hbA := HI.out.b.setCell (p := ⟨w2.heap.size, 0, none⟩) (show W.heap.size ≤ w2.heap.size from hWs) (.int .i64 ((qn : Int) + 1))
            have hRA : Rw (X.setCell ⟨w2.heap.size, 0, none⟩ (.int .i64 ((qn : Int) + 1))) Bx 23 (tokC t).toArray := ⟨(Below.heap_setCell _ ⟨w2.heap.size, 0, none⟩ _ Bx (show Bx ≠ w2.heap.size by omega)).trans HRX.out.h⟩
            have hkA := KA.setCell (B := w3.heap.size) X (.int .i64 ((qn : Int) + 1)) (k := w2.heap.size) (by omega)
            obtain ⟨Y, hY⟩ : ∃ Y, X.setCell ⟨w2.heap.size, 0, none⟩ (.int .i64 ((qn : Int) + 1)) = Y := ⟨_, rfl⟩
            rw [hY] at hnA heA hbA hRA hkA ⊢
            have ct2 : Y.cell? ⟨Bx, 0, none⟩ = some (.int .i64 t.k) := hRA.cell 0 _ rfl
            have ce := heA.cell
            have fe := heA.fz
            have HNA : Hid _ := hnA
            have HEA2 : Hid _ := heA
            have HBA : Hid _ := hbA
            have HKA : Hid _ := hkA
            clear hY hnA heA hbA hRA hkA ci fi ct
            gi_wp2
            refine ⟨HKA.out.trans (KA.setCell _ _ (by omega)), ?_, ?_, HBA.out.setCell (p := ⟨w2.heap.size + 1, 0, none⟩) (show W.heap.size ≤ w2.heap.size + 1 by omega) _⟩
            · have := C1.other (k := w2.heap.size + 1) (u := .bool (t.k == 5)) HNA.out (by omega)
              rw [List.length_append, HQ.out]
              exact this
            · have := C1.set (u := .bool (t.k == 5)) HEA2.out
              rw [lastEnd_app]
              exact this
          case leftc2 => exact fun D X hD h hDX => h.elim
          case donec2 =>
            rintro D X hD hI hDX
            rw [HALL.out] at hI
            have ce := hI.e.cell
            have cn := hI.n.cell
            rw [HL.out] at ce
            clear cn; have cn : X.cell? ⟨w2.heap.size, 0, none⟩ = some (.int .i64 2) := by have := hI.n.cell; rw [HT2.out] at this; exact this
            have HDX : Hid _ := hDX
            have HI : Hid _ := hI
            clear hDX hI
            gi_wp2
            refine ⟨trivial, (callsIn_wide.2 (HKN.out X (HE.out.self (InW.b HI.out)))).mono ?_⟩
            rintro e X2 ⟨rfl, hbX⟩
            have HDX2 : Hid _ := (hbX.block _ (Array.getElem?_eq_some_iff.1 HDX.out).1).trans HDX.out
            have HBX2 : Hid (Below W.heap.size W X2) := (InW.b HI.out).trans (hbX.mono (InW.b HI.out).size)
            clear hbX ce cn
            gi_wp2
            refine ⟨by simp, .inl ⟨_, _, rfl, run_takeDeferred HDX2.out, ?_⟩⟩
            exact ⟨_, results_tmp rfl _ _ _, rfl, HBX2.out.trans ((Below.refl _ X2).grown (grownBy_putObj' X2 D _) HBX2.out.size (fun r e => by cases e; omega))⟩
        · have hkb : (t0.k == 1) = false := by simpa using hk
          rw [h2]
          have HT2 : Hid (T.length = 2) := h2
          clear hcc c0 c1 hws hsw h2 HCE ht0 hk
          gi_wp2_with fail
          refine ⟨trivial, (callsIn_wide.2 (HWD.out w1)).mono ?_⟩
          rw [hwb]
          rintro e w1 ⟨rfl, rfl⟩
          gi_upto_region 5 with (fail)
          gi_wp2_with fail
          refine ⟨trivial, (callsIn_wide.2 (HEA.out w1)).mono ?_⟩
          rintro e w2 ⟨rfl, hw2⟩
          have hz2 : Below w1.heap.size w1 w2 := by rw [hw2]; exact (Below.refl _ w1).alloc (Nat.le_refl _) _
          have hB2 : Rw w2 w1.heap.size 9 #[.string (bs b)] := by rw [hw2]; exact Rw.new _ _ _
          have hs2 : w2.heap.size = w1.heap.size + 1 := by rw [hw2]; simp
          have hnil : ∀ w : World, (binOp .eql 32 (.func (.func 26) #[] #[.pointer (some ⟨w1.heap.size, 0, none⟩)]) .nilFunc).run Tryd.prog w = .ok (.bool false) w := fun _ => rfl
          obtain ⟨w3, hw3⟩ : ∃ X, (w2.alloc (Obj.cells #[.int .i64 0] 3)).alloc (Obj.cells #[.bool false] 4) = X := ⟨_, rfl⟩
          have hz3 : Below w2.heap.size w2 w3 := by rw [← hw3]; exact ((Below.refl _ w2).alloc (Nat.le_refl _) _).alloc (by simp) _
          have HB3 : Hid (w3.cell? ⟨w1.heap.size, 0, none⟩ = some (.string (bs b))) := (hz3.cell (p := ⟨w1.heap.size, 0, none⟩) (by rw [hs2]; show w1.heap.size < _; omega)).trans (hB2.cell 0 _ rfl)
          have HI3 : Hid (InW W w2.heap.size [] w3) := by
            refine ⟨?_, ?_, hb1.trans ((hz2.trans (hz3.mono hz2.size)).mono hb1.size)⟩
            · rw [← hw3]; exact ⟨(Below.heap_alloc _ _ _ (by simp)).trans (World.alloc_heap_new _ _)⟩
            · rw [← hw3]; exact ⟨by have := World.alloc_heap_new (w2.alloc (Obj.cells #[.int .i64 0] 3)) (Obj.cells #[.bool false] 4); rwa [World.size_alloc] at this⟩
          have HW3 : Hid _ := hw3
          have hw3s : w2.heap.size + 1 < w3.heap.size := HI3.out.e.lt
          have hWs : W.heap.size ≤ w2.heap.size := Nat.le_trans hb1.size hz2.size
          clear hw2 hw3 hB2 hs2
          gi_wp2
          rw [HW3.out]
          clear HW3
          have mixed : Tryd.prog.follows .mixedOrders = true := by kernel_rfl
          refine range26v (w := w3) 6 0 w1.heap.size b rfl HB3.out (fun q X => InW W w2.heap.size q X) (fun _ => False)
            ?imc3 ?ibc3 ?ipc3 ?xpc3 HI3.out ?a1c3 ?assignc3 ?bodyc3 ?leftc3 ?donec3
          case imc3 => exact fun q X h => HE.out.self h.b
          case ibc3 => exact fun q X Y _ h hb => h.below hb
          case ipc3 => exact fun q X k o o' hk h ho hc => h.put (by omega) hWs _
          case xpc3 => exact fun X k o o' hk h ho hc => h.elim
          case assignc3 =>
            intro l m t Bx X K hBx hK
            unfold Tok.val
            gi_wp2
            exact hK
          case bodyc3 =>
            rintro l m q t Bx X ⟨rr, hrr⟩ hBx hsX hR hI
            rw [HALL.out] at hrr
            have hqn : q.length + 1 ≤ T.length := by rw [← hrr]; simp
            have ci := hI.n.cell
            have fi := hI.n.fz
            have HI : Hid _ := hI
            obtain ⟨qn, hq⟩ : ∃ m, q.length = m := ⟨_, rfl⟩
            rw [hq] at ci hqn
            have hw1 : IntKind.i64.wrap ((qn : Int) + 1) = (qn : Int) + 1 := by rw [IntKind.wrap_i64]; omega
            have HQ : Hid (q.length = qn) := hq
            have ct : X.cell? ⟨Bx, 0, none⟩ = some (.int .i64 t.k) := hR.cell 0 _ rfl
            have HRX : Hid _ := hR
            clear hI hR hrr hq
            gi_upto_region 13 with (fail)
            have hnA := HI.out.n.set (u := .int .i64 ((qn : Int) + 1))
            have heA := HI.out.e.other (k := w2.heap.size) (u := .int .i64 ((qn : Int) + 1)) (by omega)
            have hbA := HI.out.b.setCell (p := ⟨w2.heap.size, 0, none⟩) (show W.heap.size ≤ w2.heap.size from hWs) (.int .i64 ((qn : Int) + 1))
            have hRA : Rw (X.setCell ⟨w2.heap.size, 0, none⟩ (.int .i64 ((qn : Int) + 1))) Bx 23 (tokC t).toArray := ⟨(Below.heap_setCell _ ⟨w2.heap.size, 0, none⟩ _ Bx (show Bx ≠ w2.heap.size by omega)).trans HRX.out.h⟩
            have hkA := KA.setCell (B := w3.heap.size) X (.int .i64 ((qn : Int) + 1)) (k := w2.heap.size) (by omega)
            obtain ⟨Y, hY⟩ : ∃ Y, X.setCell ⟨w2.heap.size, 0, none⟩ (.int .i64 ((qn : Int) + 1)) = Y := ⟨_, rfl⟩
            rw [hY] at hnA heA hbA hRA hkA ⊢
            have ct2 : Y.cell? ⟨Bx, 0, none⟩ = some (.int .i64 t.k) := hRA.cell 0 _ rfl
            have ce := heA.cell
            have fe := heA.fz
            have HNA : Hid _ := hnA
            have HEA2 : Hid _ := heA
            have HBA : Hid _ := hbA
            have HKA : Hid _ := hkA
            clear hY hnA heA hbA hRA hkA ci fi ct
            gi_wp2
            refine ⟨HKA.out.trans (KA.setCell _ _ (by omega)), ?_, ?_, HBA.out.setCell (p := ⟨w2.heap.size + 1, 0, none⟩) (show W.heap.size ≤ w2.heap.size + 1 by omega) _⟩
            · have := C1.other (k := w2.heap.size + 1) (u := .bool (t.k == 5)) HNA.out (by omega)
              rw [List.length_append, HQ.out]
              exact this
            · have := C1.set (u := .bool (t.k == 5)) HEA2.out
              rw [lastEnd_app]
              exact this
          case leftc3 => exact fun D X hD h hDX => h.elim
          case donec3 =>
            rintro D X hD hI hDX
            rw [HALL.out] at hI
            have ce := hI.e.cell
            have cn := hI.n.cell
            rw [HL.out] at ce
            clear cn; have cn : X.cell? ⟨w2.heap.size, 0, none⟩ = some (.int .i64 2) := by have := hI.n.cell; rw [HT2.out] at this; exact this
            have HDX : Hid _ := hDX
            have HI : Hid _ := hI
            clear hDX hI
            gi_wp2
            refine ⟨trivial, (callsIn_wide.2 (HKN.out X (HE.out.self (InW.b HI.out)))).mono ?_⟩
            rintro e X2 ⟨rfl, hbX⟩
            have HDX2 : Hid _ := (hbX.block _ (Array.getElem?_eq_some_iff.1 HDX.out).1).trans HDX.out
            have HBX2 : Hid (Below W.heap.size W X2) := (InW.b HI.out).trans (hbX.mono (InW.b HI.out).size)
            clear hbX ce cn
            gi_wp2
            refine ⟨by simp, .inl ⟨_, _, rfl, run_takeDeferred HDX2.out, ?_⟩⟩
            exact ⟨_, results_tmp rfl _ _ _, rfl, HBX2.out.trans ((Below.refl _ X2).grown (grownBy_putObj' X2 D _) HBX2.out.size (fun r e => by cases e; omega))⟩
      · obtain ⟨nT, hnT⟩ : ∃ m, T.length = m := ⟨_, rfl⟩
        rw [hnT] at h2 hmax ⊢
        have hn2 : ((nT : Int) == 2) = false := by simp; omega
        have hn3 : (nT == 2) = false := by simpa using h2
        have HNT : Hid (T.length = nT) := hnT
        clear hws hsw h2 HCE hnT
        gi_wp2_with fail
        refine ⟨trivial, (callsIn_wide.2 (HWD.out w1)).mono ?_⟩
        rw [hwb]
        rintro e w1 ⟨rfl, rfl⟩
        gi_upto_region 5 with (fail)
        gi_wp2_with fail
        refine ⟨trivial, (callsIn_wide.2 (HEA.out w1)).mono ?_⟩
        rintro e w2 ⟨rfl, hw2⟩
        have hz2 : Below w1.heap.size w1 w2 := by rw [hw2]; exact (Below.refl _ w1).alloc (Nat.le_refl _) _
        have hB2 : Rw w2 w1.heap.size 9 #[.string (bs b)] := by rw [hw2]; exact Rw.new _ _ _
        have hs2 : w2.heap.size = w1.heap.size + 1 := by rw [hw2]; simp
        have hnil : ∀ w : World, (binOp .eql 32 (.func (.func 26) #[] #[.pointer (some ⟨w1.heap.size, 0, none⟩)]) .nilFunc).run Tryd.prog w = .ok (.bool false) w := fun _ => rfl
        obtain ⟨w3, hw3⟩ : ∃ X, (w2.alloc (Obj.cells #[.int .i64 0] 3)).alloc (Obj.cells #[.bool false] 4) = X := ⟨_, rfl⟩
        have hz3 : Below w2.heap.size w2 w3 := by rw [← hw3]; exact ((Below.refl _ w2).alloc (Nat.le_refl _) _).alloc (by simp) _
        have HB3 : Hid (w3.cell? ⟨w1.heap.size, 0, none⟩ = some (.string (bs b))) := (hz3.cell (p := ⟨w1.heap.size, 0, none⟩) (by rw [hs2]; show w1.heap.size < _; omega)).trans (hB2.cell 0 _ rfl)
        have HI3 : Hid (InW W w2.heap.size [] w3) := by
          refine ⟨?_, ?_, hb1.trans ((hz2.trans (hz3.mono hz2.size)).mono hb1.size)⟩
          · rw [← hw3]; exact ⟨(Below.heap_alloc _ _ _ (by simp)).trans (World.alloc_heap_new _ _)⟩
          · rw [← hw3]; exact ⟨by have := World.alloc_heap_new (w2.alloc (Obj.cells #[.int .i64 0] 3)) (Obj.cells #[.bool false] 4); rwa [World.size_alloc] at this⟩
        have HW3 : Hid _ := hw3
        have hw3s : w2.heap.size + 1 < w3.heap.size := HI3.out.e.lt
        have hWs : W.heap.size ≤ w2.heap.size := Nat.le_trans hb1.size hz2.size
        clear hw2 hw3 hB2 hs2
        gi_wp2
        rw [HW3.out]
        clear HW3
        have mixed : Tryd.prog.follows .mixedOrders = true := by kernel_rfl
        refine range26v (w := w3) 6 0 w1.heap.size b rfl HB3.out (fun q X => InW W w2.heap.size q X) (fun _ => False)
          ?imc4 ?ibc4 ?ipc4 ?xpc4 HI3.out ?a1c4 ?assignc4 ?bodyc4 ?leftc4 ?donec4
        case imc4 => exact fun q X h => HE.out.self h.b
        case ibc4 => exact fun q X Y _ h hb => h.below hb
        case ipc4 => exact fun q X k o o' hk h ho hc => h.put (by omega) hWs _
        case xpc4 => exact fun X k o o' hk h ho hc => h.elim
        case assignc4 =>
          intro l m t Bx X K hBx hK
          unfold Tok.val
          gi_wp2
          exact hK
        case bodyc4 =>
          rintro l m q t Bx X ⟨rr, hrr⟩ hBx hsX hR hI
          rw [HALL.out] at hrr
          have hqn : q.length + 1 ≤ T.length := by rw [← hrr]; simp
          have ci := hI.n.cell
          have fi := hI.n.fz
          have HI : Hid _ := hI
          obtain ⟨qn, hq⟩ : ∃ m, q.length = m := ⟨_, rfl⟩
          rw [hq] at ci hqn
          have hw1 : IntKind.i64.wrap ((qn : Int) + 1) = (qn : Int) + 1 := by rw [IntKind.wrap_i64]; omega
          have HQ : Hid (q.length = qn) := hq
          have ct : X.cell? ⟨Bx, 0, none⟩ = some (.int .i64 t.k) := hR.cell 0 _ rfl
          have HRX : Hid _ := hR
          clear hI hR hrr hq
          gi_upto_region 13 with (fail)
          have hnA := HI.out.n.set (u := .int .i64 ((qn : Int) + 1))
          have heA := HI.out.e.other (k := w2.heap.size) (u := .int .i64 ((qn : Int) + 1)) (by omega)
          have hbA := HI.out.b.setCell (p := ⟨w2.heap.size, 0, none⟩) (show W.heap.size ≤ w2.heap.size from hWs) (.int .i64 ((qn : Int) + 1))
          have hRA : Rw (X.setCell ⟨w2.heap.size, 0, none⟩ (.int .i64 ((qn : Int) + 1))) Bx 23 (tokC t).toArray := ⟨(Below.heap_setCell _ ⟨w2.heap.size, 0, none⟩ _ Bx (show Bx ≠ w2.heap.size by omega)).trans HRX.out.h⟩
          have hkA := KA.setCell (B := w3.heap.size) X (.int .i64 ((qn : Int) + 1)) (k := w2.heap.size) (by omega)
          obtain ⟨Y, hY⟩ : ∃ Y, X.setCell ⟨w2.heap.size, 0, none⟩ (.int .i64 ((qn : Int) + 1)) = Y := ⟨_, rfl⟩
          rw [hY] at hnA heA hbA hRA hkA ⊢
          have ct2 : Y.cell? ⟨Bx, 0, none⟩ = some (.int .i64 t.k) := hRA.cell 0 _ rfl
          have ce := heA.cell
          have fe := heA.fz
          have HNA : Hid _ := hnA
          have HEA2 : Hid _ := heA
          have HBA : Hid _ := hbA
          have HKA : Hid _ := hkA
          clear hY hnA heA hbA hRA hkA ci fi ct
          gi_wp2
          refine ⟨HKA.out.trans (KA.setCell _ _ (by omega)), ?_, ?_, HBA.out.setCell (p := ⟨w2.heap.size + 1, 0, none⟩) (show W.heap.size ≤ w2.heap.size + 1 by omega) _⟩
          · have := C1.other (k := w2.heap.size + 1) (u := .bool (t.k == 5)) HNA.out (by omega)
            rw [List.length_append, HQ.out]
            exact this
          · have := C1.set (u := .bool (t.k == 5)) HEA2.out
            rw [lastEnd_app]
            exact this
        case leftc4 => exact fun D X hD h hDX => h.elim
        case donec4 =>
          rintro D X hD hI hDX
          rw [HALL.out] at hI
          have ce := hI.e.cell
          have cn := hI.n.cell
          rw [HL.out] at ce
          rw [HNT.out] at cn
          have HDX : Hid _ := hDX
          have HI : Hid _ := hI
          clear hDX hI
          gi_wp2
          refine ⟨trivial, (callsIn_wide.2 (HKN.out X (HE.out.self (InW.b HI.out)))).mono ?_⟩
          rintro e X2 ⟨rfl, hbX⟩
          have HDX2 : Hid _ := (hbX.block _ (Array.getElem?_eq_some_iff.1 HDX.out).1).trans HDX.out
          have HBX2 : Hid (Below W.heap.size W X2) := (InW.b HI.out).trans (hbX.mono (InW.b HI.out).size)
          clear hbX ce cn
          gi_wp2
          refine ⟨by simp, .inl ⟨_, _, rfl, run_takeDeferred HDX2.out, ?_⟩⟩
          exact ⟨_, results_tmp rfl _ _ _, rfl, HBX2.out.trans ((Below.refl _ X2).grown (grownBy_putObj' X2 D _) HBX2.out.size (fun r e => by cases e; omega))⟩
  · have hS := her hx
    rw [hS] at HT1 hmax ⊢
    obtain ⟨a0, cap, rfl, _⟩ := HT1.out.h
    simp only [List.length_nil] at hmax ⊢
    have hxb : (x == 0) = false := by simpa using hx
    have hxn : (x != 0) = true := by simpa using hx
    have HL : Hid (lastEnd T = false) := by unfold Hid; rw [← hle]; simpa using hx
    cases hwb : wordB b with
    | true =>
      have hn6 : ¬ (n : Int) ≤ 65536 := by
        intro h
        have h2 := hws (by omega) hwb
        simp only [Prod.mk.injEq] at h2
        omega
      clear hS her hal hws hsw hle hlong hx
      gi_wp2_with fail
      refine ⟨trivial, (callsIn_wide.2 (HWD.out w1)).mono ?_⟩
      rw [hwb]
      rintro e w1 ⟨rfl, rfl⟩
      gi_upto_region 5 with (fail)
      gi_wp2_with fail
      refine ⟨trivial, (callsIn_wide.2 (HEA.out w1)).mono ?_⟩
      rintro e w2 ⟨rfl, hw2⟩
      have hz2 : Below w1.heap.size w1 w2 := by rw [hw2]; exact (Below.refl _ w1).alloc (Nat.le_refl _) _
      have hB2 : Rw w2 w1.heap.size 9 #[.string (bs b)] := by rw [hw2]; exact Rw.new _ _ _
      have hs2 : w2.heap.size = w1.heap.size + 1 := by rw [hw2]; simp
      have hnil : ∀ w : World, (binOp .eql 32 (.func (.func 26) #[] #[.pointer (some ⟨w1.heap.size, 0, none⟩)]) .nilFunc).run Tryd.prog w = .ok (.bool false) w := fun _ => rfl
      obtain ⟨w3, hw3⟩ : ∃ X, (w2.alloc (Obj.cells #[.int .i64 0] 3)).alloc (Obj.cells #[.bool false] 4) = X := ⟨_, rfl⟩
      have hz3 : Below w2.heap.size w2 w3 := by rw [← hw3]; exact ((Below.refl _ w2).alloc (Nat.le_refl _) _).alloc (by simp) _
      have HB3 : Hid (w3.cell? ⟨w1.heap.size, 0, none⟩ = some (.string (bs b))) := (hz3.cell (p := ⟨w1.heap.size, 0, none⟩) (by rw [hs2]; show w1.heap.size < _; omega)).trans (hB2.cell 0 _ rfl)
      have HI3 : Hid (InW W w2.heap.size [] w3) := by
        refine ⟨?_, ?_, hb1.trans ((hz2.trans (hz3.mono hz2.size)).mono hb1.size)⟩
        · rw [← hw3]; exact ⟨(Below.heap_alloc _ _ _ (by simp)).trans (World.alloc_heap_new _ _)⟩
        · rw [← hw3]; exact ⟨by have := World.alloc_heap_new (w2.alloc (Obj.cells #[.int .i64 0] 3)) (Obj.cells #[.bool false] 4); rwa [World.size_alloc] at this⟩
      have HW3 : Hid _ := hw3
      have hw3s : w2.heap.size + 1 < w3.heap.size := HI3.out.e.lt
      have hWs : W.heap.size ≤ w2.heap.size := Nat.le_trans hb1.size hz2.size
      clear hw2 hw3 hB2 hs2
      gi_wp2
      rw [HW3.out]
      clear HW3
      have mixed : Tryd.prog.follows .mixedOrders = true := by kernel_rfl
      refine range26v (w := w3) 6 0 w1.heap.size b rfl HB3.out (fun q X => InW W w2.heap.size q X) (fun _ => False)
        ?imc5 ?ibc5 ?ipc5 ?xpc5 HI3.out ?a1c5 ?assignc5 ?bodyc5 ?leftc5 ?donec5
      case imc5 => exact fun q X h => HE.out.self h.b
      case ibc5 => exact fun q X Y _ h hb => h.below hb
      case ipc5 => exact fun q X k o o' hk h ho hc => h.put (by omega) hWs _
      case xpc5 => exact fun X k o o' hk h ho hc => h.elim
      case assignc5 =>
        intro l m t Bx X K hBx hK
        unfold Tok.val
        gi_wp2
        exact hK
      case bodyc5 =>
        rintro l m q t Bx X ⟨rr, hrr⟩ hBx hsX hR hI
        rw [HALL.out] at hrr
        have hqn : q.length + 1 ≤ T.length := by rw [← hrr]; simp
        have ci := hI.n.cell
        have fi := hI.n.fz
        have HI : Hid _ := hI
        obtain ⟨qn, hq⟩ : ∃ m, q.length = m := ⟨_, rfl⟩
        rw [hq] at ci hqn
        have hw1 : IntKind.i64.wrap ((qn : Int) + 1) = (qn : Int) + 1 := by rw [IntKind.wrap_i64]; omega
        have HQ : Hid (q.length = qn) := hq
        have ct : X.cell? ⟨Bx, 0, none⟩ = some (.int .i64 t.k) := hR.cell 0 _ rfl
        have HRX : Hid _ := hR
        clear hI hR hrr hq
        gi_upto_region 13 with (fail)
        have hnA := HI.out.n.set (u := .int .i64 ((qn : Int) + 1))
        have heA := HI.out.e.other (k := w2.heap.size) (u := .int .i64 ((qn : Int) + 1)) (by omega)
        have hbA := HI.out.b.setCell (p := ⟨w2.heap.size, 0, none⟩) (show W.heap.size ≤ w2.heap.size from hWs) (.int .i64 ((qn : Int) + 1))
        have hRA : Rw (X.setCell ⟨w2.heap.size, 0, none⟩ (.int .i64 ((qn : Int) + 1))) Bx 23 (tokC t).toArray := ⟨(Below.heap_setCell _ ⟨w2.heap.size, 0, none⟩ _ Bx (show Bx ≠ w2.heap.size by omega)).trans HRX.out.h⟩
        have hkA := KA.setCell (B := w3.heap.size) X (.int .i64 ((qn : Int) + 1)) (k := w2.heap.size) (by omega)
        obtain ⟨Y, hY⟩ : ∃ Y, X.setCell ⟨w2.heap.size, 0, none⟩ (.int .i64 ((qn : Int) + 1)) = Y := ⟨_, rfl⟩
        rw [hY] at hnA heA hbA hRA hkA ⊢
        have ct2 : Y.cell? ⟨Bx, 0, none⟩ = some (.int .i64 t.k) := hRA.cell 0 _ rfl
        have ce := heA.cell
        have fe := heA.fz
        have HNA : Hid _ := hnA
        have HEA2 : Hid _ := heA
        have HBA : Hid _ := hbA
        have HKA : Hid _ := hkA
        clear hY hnA heA hbA hRA hkA ci fi ct
        gi_wp2
        refine ⟨HKA.out.trans (KA.setCell _ _ (by omega)), ?_, ?_, HBA.out.setCell (p := ⟨w2.heap.size + 1, 0, none⟩) (show W.heap.size ≤ w2.heap.size + 1 by omega) _⟩
        · have := C1.other (k := w2.heap.size + 1) (u := .bool (t.k == 5)) HNA.out (by omega)
          rw [List.length_append, HQ.out]
          exact this
        · have := C1.set (u := .bool (t.k == 5)) HEA2.out
          rw [lastEnd_app]
          exact this
      case leftc5 => exact fun D X hD h hDX => h.elim
      case donec5 =>
        rintro D X hD hI hDX
        rw [HALL.out] at hI
        have ce := hI.e.cell
        have cn := hI.n.cell
        rw [HL.out] at ce
        obtain ⟨nT, hnT⟩ : ∃ m, T.length = m := ⟨_, rfl⟩
        rw [hnT] at cn
        have HDX : Hid _ := hDX
        have HI : Hid _ := hI
        clear hDX hI hnT
        gi_wp2
        refine ⟨trivial, (callsIn_wide.2 (HKN.out X (HE.out.self (InW.b HI.out)))).mono ?_⟩
        rintro e X2 ⟨rfl, hbX⟩
        have HDX2 : Hid _ := (hbX.block _ (Array.getElem?_eq_some_iff.1 HDX.out).1).trans HDX.out
        have HBX2 : Hid (Below W.heap.size W X2) := (InW.b HI.out).trans (hbX.mono (InW.b HI.out).size)
        clear hbX ce cn
        gi_wp2
        refine ⟨by simp, .inl ⟨_, _, rfl, run_takeDeferred HDX2.out, ?_⟩⟩
        exact ⟨_, results_tmp rfl _ _ _, rfl, HBX2.out.trans ((Below.refl _ X2).grown (grownBy_putObj' X2 D _) HBX2.out.size (fun r e => by cases e; omega))⟩
    | false =>
      clear hS her hal hws hsw hle hlong hx
      gi_wp2_with fail
      refine ⟨trivial, (callsIn_wide.2 (HWD.out w1)).mono ?_⟩
      rw [hwb]
      rintro e w1 ⟨rfl, rfl⟩
      gi_upto_region 5 with (fail)
      gi_wp2_with fail
      refine ⟨trivial, (callsIn_wide.2 (HEA.out w1)).mono ?_⟩
      rintro e w2 ⟨rfl, hw2⟩
      have hz2 : Below w1.heap.size w1 w2 := by rw [hw2]; exact (Below.refl _ w1).alloc (Nat.le_refl _) _
      have hB2 : Rw w2 w1.heap.size 9 #[.string (bs b)] := by rw [hw2]; exact Rw.new _ _ _
      have hs2 : w2.heap.size = w1.heap.size + 1 := by rw [hw2]; simp
      have hnil : ∀ w : World, (binOp .eql 32 (.func (.func 26) #[] #[.pointer (some ⟨w1.heap.size, 0, none⟩)]) .nilFunc).run Tryd.prog w = .ok (.bool false) w := fun _ => rfl
      obtain ⟨w3, hw3⟩ : ∃ X, (w2.alloc (Obj.cells #[.int .i64 0] 3)).alloc (Obj.cells #[.bool false] 4) = X := ⟨_, rfl⟩
      have hz3 : Below w2.heap.size w2 w3 := by rw [← hw3]; exact ((Below.refl _ w2).alloc (Nat.le_refl _) _).alloc (by simp) _
      have HB3 : Hid (w3.cell? ⟨w1.heap.size, 0, none⟩ = some (.string (bs b))) := (hz3.cell (p := ⟨w1.heap.size, 0, none⟩) (by rw [hs2]; show w1.heap.size < _; omega)).trans (hB2.cell 0 _ rfl)
      have HI3 : Hid (InW W w2.heap.size [] w3) := by
        refine ⟨?_, ?_, hb1.trans ((hz2.trans (hz3.mono hz2.size)).mono hb1.size)⟩
        · rw [← hw3]; exact ⟨(Below.heap_alloc _ _ _ (by simp)).trans (World.alloc_heap_new _ _)⟩
        · rw [← hw3]; exact ⟨by have := World.alloc_heap_new (w2.alloc (Obj.cells #[.int .i64 0] 3)) (Obj.cells #[.bool false] 4); rwa [World.size_alloc] at this⟩
      have HW3 : Hid _ := hw3
      have hw3s : w2.heap.size + 1 < w3.heap.size := HI3.out.e.lt
      have hWs : W.heap.size ≤ w2.heap.size := Nat.le_trans hb1.size hz2.size
      clear hw2 hw3 hB2 hs2
      gi_wp2
      rw [HW3.out]
      clear HW3
      have mixed : Tryd.prog.follows .mixedOrders = true := by kernel_rfl
      refine range26v (w := w3) 6 0 w1.heap.size b rfl HB3.out (fun q X => InW W w2.heap.size q X) (fun _ => False)
        ?imc6 ?ibc6 ?ipc6 ?xpc6 HI3.out ?a1c6 ?assignc6 ?bodyc6 ?leftc6 ?donec6
      case imc6 => exact fun q X h => HE.out.self h.b
      case ibc6 => exact fun q X Y _ h hb => h.below hb
      case ipc6 => exact fun q X k o o' hk h ho hc => h.put (by omega) hWs _
      case xpc6 => exact fun X k o o' hk h ho hc => h.elim
      case assignc6 =>
        intro l m t Bx X K hBx hK
        unfold Tok.val
        gi_wp2
        exact hK
      case bodyc6 =>
        rintro l m q t Bx X ⟨rr, hrr⟩ hBx hsX hR hI
        rw [HALL.out] at hrr
        have hqn : q.length + 1 ≤ T.length := by rw [← hrr]; simp
        have ci := hI.n.cell
        have fi := hI.n.fz
        have HI : Hid _ := hI
        obtain ⟨qn, hq⟩ : ∃ m, q.length = m := ⟨_, rfl⟩
        rw [hq] at ci hqn
        have hw1 : IntKind.i64.wrap ((qn : Int) + 1) = (qn : Int) + 1 := by rw [IntKind.wrap_i64]; omega
        have HQ : Hid (q.length = qn) := hq
        have ct : X.cell? ⟨Bx, 0, none⟩ = some (.int .i64 t.k) := hR.cell 0 _ rfl
        have HRX : Hid _ := hR
        clear hI hR hrr hq
        gi_upto_region 13 with (fail)
        have hnA := HI.out.n.set (u := .int .i64 ((qn : Int) + 1))
        have heA := HI.out.e.other (k := w2.heap.size) (u := .int .i64 ((qn : Int) + 1)) (by omega)
        have hbA := HI.out.b.setCell (p := ⟨w2.heap.size, 0, none⟩) (show W.heap.size ≤ w2.heap.size from hWs) (.int .i64 ((qn : Int) + 1))
        have hRA : Rw (X.setCell ⟨w2.heap.size, 0, none⟩ (.int .i64 ((qn : Int) + 1))) Bx 23 (tokC t).toArray := ⟨(Below.heap_setCell _ ⟨w2.heap.size, 0, none⟩ _ Bx (show Bx ≠ w2.heap.size by omega)).trans HRX.out.h⟩
        have hkA := KA.setCell (B := w3.heap.size) X (.int .i64 ((qn : Int) + 1)) (k := w2.heap.size) (by omega)
        obtain ⟨Y, hY⟩ : ∃ Y, X.setCell ⟨w2.heap.size, 0, none⟩ (.int .i64 ((qn : Int) + 1)) = Y := ⟨_, rfl⟩
        rw [hY] at hnA heA hbA hRA hkA ⊢
        have ct2 : Y.cell? ⟨Bx, 0, none⟩ = some (.int .i64 t.k) := hRA.cell 0 _ rfl
        have ce := heA.cell
        have fe := heA.fz
        have HNA : Hid _ := hnA
        have HEA2 : Hid _ := heA
        have HBA : Hid _ := hbA
        have HKA : Hid _ := hkA
        clear hY hnA heA hbA hRA hkA ci fi ct
        gi_wp2
        refine ⟨HKA.out.trans (KA.setCell _ _ (by omega)), ?_, ?_, HBA.out.setCell (p := ⟨w2.heap.size + 1, 0, none⟩) (show W.heap.size ≤ w2.heap.size + 1 by omega) _⟩
        · have := C1.other (k := w2.heap.size + 1) (u := .bool (t.k == 5)) HNA.out (by omega)
          rw [List.length_append, HQ.out]
          exact this
        · have := C1.set (u := .bool (t.k == 5)) HEA2.out
          rw [lastEnd_app]
          exact this
      case leftc6 => exact fun D X hD h hDX => h.elim
      case donec6 =>
        rintro D X hD hI hDX
        rw [HALL.out] at hI
        have ce := hI.e.cell
        have cn := hI.n.cell
        rw [HL.out] at ce
        obtain ⟨nT, hnT⟩ : ∃ m, T.length = m := ⟨_, rfl⟩
        rw [hnT] at cn
        have HDX : Hid _ := hDX
        have HI : Hid _ := hI
        clear hDX hI hnT
        gi_wp2
        refine ⟨trivial, (callsIn_wide.2 (HKN.out X (HE.out.self (InW.b HI.out)))).mono ?_⟩
        rintro e X2 ⟨rfl, hbX⟩
        have HDX2 : Hid _ := (hbX.block _ (Array.getElem?_eq_some_iff.1 HDX.out).1).trans HDX.out
        have HBX2 : Hid (Below W.heap.size W X2) := (InW.b HI.out).trans (hbX.mono (InW.b HI.out).size)
        clear hbX ce cn
        gi_wp2
        refine ⟨by simp, .inl ⟨_, _, rfl, run_takeDeferred HDX2.out, ?_⟩⟩
        exact ⟨_, results_tmp rfl _ _ _, rfl, HBX2.out.trans ((Below.refl _ X2).grown (grownBy_putObj' X2 D _) HBX2.out.size (fun r e => by cases e; omega))⟩
end Go.Proofs.YtokcbiafajpmoaaDoor
