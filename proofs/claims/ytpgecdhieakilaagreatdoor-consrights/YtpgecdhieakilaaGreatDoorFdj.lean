/-
  What is proved here: numbers of constants; none twice, none below 0; as many.
  What is proved here: none below 0; as many; the automaton of a constraint.
-/
import Derived.Test.YtpgecdhieakilaaGreatDoorFc
import Derived.Test.YtpgecdhieakilaaGreatDoorSm
import Derived.Test.YtpgecdhieakilaaGreatDoorDfj
namespace Go.Proofs.YtpgecdhieakilaaGreatDoor
open Go.RowKit Go.Shelf
set_option linter.unusedVariables false
set_option linter.unusedSimpArgs false
theorem own_holds64 {w : World} {B : Nat} {s : Value} {L : List Int} (h : w.ownsRow B 2 1 s L.length (intv L)) (h0 : 0 < L.length) : ∃ g cap, s = .slice (some ⟨g, 0, none⟩) L.length cap ∧ B ≤ g ∧ g < w.heap.size ∧ L.length ≤ cap ∧ Sort.Holds (Value.int .i64) w g 0 L.toArray := by
  rcases h.2 with ⟨_, e2⟩ | ⟨g, cap, cur, e1, hg, hgb, hn, hm, hs, ht⟩
  · simp [intv] at e2; subst e2; simp at h0
  · refine ⟨g, cap, e1, hg, (Array.getElem?_eq_some_iff.1 hgb).1, hn, fun j hj => ⟨?_, by simp [World.frozen?, hgb]⟩⟩
    have hj' : j < L.length := by simpa using hj
    simp only [World.cell?, hgb]
    rw [if_neg (by simp), Nat.zero_add]
    have : (intv L)[j]? = some (.int .i64 (L.toArray[j]!)) := by simp [intv, hj', getElem!_pos]
    rw [← ht, List.getElem?_take, if_pos (by omega), Array.getElem?_toList] at this
    exact this
theorem own_zero64 {w : World} {B : Nat} {s : Value} {xs : List Value} (h : w.ownsRow B 2 1 s 0 xs) : ∃ p cap, s = .slice p 0 cap := by
  rcases h.2 with ⟨e1, _⟩ | ⟨g, cap, cur, e1, _⟩
  · exact ⟨none, 0, e1⟩
  · exact ⟨_, cap, e1⟩
theorem sort_own64 (B : Nat) (s : Value) (L : List Int) (w : World) (h : w.ownsRow B 2 1 s L.length (intv L)) (hB : B ≤ w.heap.size) (hs : L.length ≤ 1000000000000) :
    Calls Tryz.prog 105 #[s] w fun e w' => e = .returned (.tuple #[]) ∧ w'.ownsRow B 2 1 s (sortL L).length (intv (sortL L)) ∧ Below B w w' := by
  rcases Nat.eq_zero_or_pos L.length with h0 | h0
  · obtain rfl := List.eq_nil_of_length_eq_zero h0
    obtain ⟨p, cap, rfl⟩ := own_zero64 h
    refine (AnyG.slices_Sort_int_none Tryz.laysSort105 p cap w).mono fun e w' ⟨he, hw⟩ => ?_
    subst hw
    exact ⟨he, by simpa [sortL, intv] using h, Below.refl _ _⟩
  · obtain ⟨g, cap, rfl, hg, hgw, _, hH⟩ := own_holds64 h h0
    refine (AnyG.slices_Sort_int Tryz.laysSort105 g 0 cap L w hH hgw (by omega)).mono fun e w' ⟨he, q, os, hw⟩ => ?_
    have hl := sortL_len L
    have hp := Lib.ownsRow_putRow (q := q) (k := L.length) (ys := sortL L) (enc := Value.int .i64) (zs := L) h hl (Nat.le_refl _)
    rw [List.take_of_length_le (by omega)] at hp
    have hb : Below B w (Sort.putRow (Value.int .i64) (Sort.ahead w q) g 0 (sortL L).toArray) := Lib.below_putRow (Below.refl _ _) hg
    refine ⟨he, ?_, ?_⟩
    · rw [hw, hl]
      exact own_keepB hp (below_growP (Below.refl _ _) os (Nat.le_refl _))
    · rw [hw]
      exact below_growP hb os (Nat.le_trans hB hb.size)
theorem compact_own64 (B : Nat) (s : Value) (L : List Int) (w : World) (h : w.ownsRow B 2 1 s L.length (intv L)) (hs : L.length ≤ 1000000000000) (hc : (Lib.compact L).length ≤ L.length) :
    Calls Tryz.prog 106 #[s] w fun e w' => ∃ v, e = .returned v ∧ w'.ownsRow B 2 1 v (Lib.compact L).length (intv (Lib.compact L)) ∧ Below B w w' := by
  rcases Nat.eq_zero_or_pos L.length with h0 | h0
  · obtain rfl := List.eq_nil_of_length_eq_zero h0
    obtain ⟨p, cap, rfl⟩ := own_zero64 h
    have e0 : Lib.compact [] = [] := List.length_eq_zero_iff.1 (by simpa using hc)
    refine (AnyG.slices_Compact_int_empty Tryz.laysCompact106 p cap w).mono fun e w' ⟨he, hw⟩ => ?_
    subst hw
    exact ⟨_, he, by rw [e0]; exact h, Below.refl _ _⟩
  · obtain ⟨g, cap, rfl, hg, hgw, hcap, hH⟩ := own_holds64 h h0
    refine (AnyG.slices_Compact_int Tryz.laysCompact106 g 0 cap L w hH (by omega) hcap).mono fun e w' ⟨he, q, hw⟩ => ?_
    have hp := Lib.ownsRow_putRow (q := q) (k := (Lib.compact L).length) (ys := Lib.compact L ++ List.replicate (L.length - (Lib.compact L).length) 0) (enc := Value.int .i64) (zs := L) h (by simp; omega) hc
    rw [List.take_append_of_le_length (Nat.le_refl _), List.take_length] at hp
    exact ⟨_, he, by rw [hw]; exact hp, by rw [hw]; exact Lib.below_putRow (Below.refl _ _) hg⟩
theorem wpList_app_n64 (w : World) {ops : Array Oper} {rest : List Oper} {o : Oper} {a : Act} {Q : Exit → Act → World → Prop} (hgd : o.guard = none) (s x : Operand) (ho : o.op = .call { callee := .builtin .append, args := #[s, x], argTypes := #[42, 42] })
    (B : Nat) (vo : Value) (n : Nat) (L : List Int) (hs : a.eval s = vo) (hown : w.ownsRow B 2 1 vo n (intv L)) (g : Nat) (y : Int) (hx : a.eval x = .slice (some ⟨g, 0, none⟩) 1 1) (hc : w.cell? ⟨g, 0, none⟩ = some (.int .i64 y)) (hB : B ≤ w.heap.size) (hn : n ≤ 1000000000000)
    (h : ∀ v' w', w'.ownsRow B 2 1 v' (n + 1) (intv (L ++ [y])) → Below B w w' → wpList Tryz.prog ops Q rest (a.put o.dst v') w') : wpList Tryz.prog ops Q (o :: rest) a w := by
  obtain ⟨i0, hi0, hz0, hz1, hz2⟩ := info_parts Tryz.info2
  refine wpList_append_own _ hgd s x 42 ho B 2 i0 (.int .i64 0) 1 8 Tryz.underlying42 hi0 hz0 hz1 hz2 rfl (by decide) _ _ _ hs hown ⟨g, 0, none⟩ 1 1 [.int .i64 y] hx rfl (fun j u hj => ?_) (fun u hu => ?_) (by unfold maxLen; omega) (by omega) hB ?_
  · match j, hj with
    | 0, hj => simp at hj; subst hj; simpa [Addr.add] using hc
  · simp at hu; subst hu; rfl
  · intro v' w' g1 g2 _
    refine h v' w' (by unfold intv at *; rw [List.map_append]; exact g1) ((Below.refl _ w).grown g2 hB (fun k e => ?_))
    rcases hown.2 with ⟨e1, _⟩ | ⟨g', cap, cur, e1, hg, hgb, _⟩
    · rw [e1] at e; cases e
    · rw [e1] at e
      injection e with e
      subst e
      exact hg
theorem blk_two (w : World) (o : Obj) (cs : Array Value) (ty : TypeId) : Blk ((w.alloc o).alloc (.cells cs ty)) (w.heap.size + 1) cs ty := by
  have := Blk.new (w.alloc o) cs ty
  rw [World.size_alloc] at this
  exact this
/-- The numbers of an argument. -/
def numL (g : Ag) : List Int := g.l.map Tm.n
theorem numL_length (g : Ag) : (numL g).length = g.l.length := by simp [numL]
theorem num_take {l : List Tm} {k : Nat} {t : Tm} (h : l[k]? = some t) : (l.take (k + 1)).map Tm.n = (l.take k).map Tm.n ++ [t.n] := by
  obtain ⟨hi, rfl⟩ := List.getElem?_eq_some_iff.1 h
  rw [List.take_succ_eq_append_getElem hi, List.map_append]
  simp

set_option maxRecDepth 100000 in
set_option maxHeartbeats 4000000 in
theorem numbers_any {B : Nat} {W : World} {a : Option Addr} {c : Nat} (g : Ag) (h : St B W (.slice a g.l.length c) g.l) (hl : g.l.length ≤ 1000) :
    Calls Tryz.prog 104 #[.agg #[.bool g.arr, .slice a g.l.length c]] W fun e w' => ∃ v, e = .returned v ∧ w'.ownsRow W.heap.size 2 1 v (numL g).length (intv (numL g)) ∧ Below W.heap.size W w' := by
  obtain ⟨i0, hi0, hz0, hz1, hz2⟩ := info_parts Tryz.info2
  have HE : Hid (numL g = g.l.map Tm.n) := rfl
  obtain ⟨L, hL⟩ : ∃ L, numL g = L := ⟨_, rfl⟩
  obtain ⟨ar, har⟩ : ∃ x, g.arr = x := ⟨_, rfl⟩
  obtain ⟨l, hll⟩ : ∃ l, g.l = l := ⟨_, rfl⟩
  rw [hL, hll] at HE
  rw [hll] at h hl
  rw [hL, har, hll]
  clear hL har hll
  obtain ⟨n, hn⟩ : ∃ n, l.length = n := ⟨_, rfl⟩
  rw [hn] at h hl ⊢
  have HN : Hid (l.length = n) := hn
  clear hn
  have hbA : Below W.heap.size W (W.alloc (Obj.cells #[.bool ar, .slice a n c] 54)) := (Below.refl _ W).alloc (Nat.le_refl _) _
  have HA : Hid (St B (W.alloc (Obj.cells #[.bool ar, .slice a n c] 54)) (.slice a n c) l) := h.below hbA
  have HKB : Hid (Blk (W.alloc (Obj.cells #[.bool ar, .slice a n c] 54)) W.heap.size #[.bool ar, .slice a n c] 54) := Blk.new W _ _
  have HBA : Hid _ := hbA
  clear h hbA
  obtain ⟨WA, hWA⟩ : ∃ X, W.alloc (Obj.cells #[.bool ar, .slice a n c] 54) = X := ⟨_, rfl⟩
  have HWA : Hid (W.alloc (Obj.cells #[.bool ar, .slice a n c] 54) = WA) := hWA
  rw [hWA] at HA HKB HBA
  have hsz : WA.heap.size = W.heap.size + 1 := by rw [← hWA]; simp
  have HSZ : Hid (WA.heap.size = W.heap.size + 1) := hsz
  have x1 : WA.cell? ⟨W.heap.size, 1, none⟩ = some (.slice a n c) := HKB.out.cell 1
  clear hWA hsz
  go_enter Tryz.func104, Tryz.ntmps104
  go_upto_region 1 with (fail)
  rw [HWA.out]
  go_wp2_with (at_make; refine wpList_make_own _ rfl _ _ 42 rfl WA.heap.size 2 i0 (.int .i64 0) 1 Tryz.underlying42 hi0 hz0 hz1 .i64 .i64 _ n rfl rfl rfl (by rw [hz2]; omega) (by unfold maxLen; omega) (Nat.le_refl _) ?_; intro w0 hown0 hgrow0; have hB0 : Below WA.heap.size WA w0 := (Below.refl _ WA).grown hgrow0 (Nat.le_refl _) (fun j e => by cases e); clear hgrow0; have x1 : w0.cell? ⟨W.heap.size, 1, none⟩ = some (.slice a n c) := (HKB.out.below hB0).cell 1)
  have HB0 : Hid (Below WA.heap.size WA w0) := hB0
  have HO0 : Hid (w0.ownsRow WA.heap.size 2 1 (.slice (some ⟨WA.heap.size, 0, none⟩) 0 n) 0 []) := hown0
  clear hB0 hown0
  go_loopw [3, 13] (fun o i wr => ∃ (k : Nat), k ≤ n ∧ i = .int .i64 k ∧ Hid (wr.ownsRow WA.heap.size 2 1 o k (intv ((l.take k).map Tm.n))) ∧ Hid (Below WA.heap.size WA wr)) (fun _ i _ => n - (intOf i).toNat)
  case atStart => exact ⟨0, by omega, rfl, HO0, HB0⟩
  case round =>
    clear HB0 HO0 x1
    obtain ⟨k, hk, rfl, HO, HB⟩ := hrel
    by_cases hlt : k < n
    · have hlt' : (k : Int) < n := by omega
      obtain ⟨t, ht⟩ : ∃ t, l[k]? = some t := ⟨_, List.getElem?_eq_getElem (by rw [HN.out]; exact hlt)⟩
      have HST : Hid ((l.take (k + 1)).map Tm.n = (l.take k).map Tm.n ++ [t.n]) := num_take ht
      obtain ⟨b, off, a2, c2, rfl, hb, _, d0, d1, d2, d3⟩ := HA.out.at ht
      have y0 := (HB.out.cell (p := ⟨b, off + k * 4, none⟩) hb).trans d0
      have y1 := (HB.out.cell (p := ⟨b, off + k * 4 + 1, none⟩) hb).trans d1
      have y2 := (HB.out.cell (p := ⟨b, off + k * 4 + 2, none⟩) hb).trans d2
      have y3 := (HB.out.cell (p := ⟨b, off + k * 4 + 3, none⟩) hb).trans d3
      clear d0 d1 d2 d3 ht
      obtain ⟨tv, htv⟩ : ∃ x, t.v = x := ⟨_, rfl⟩
      obtain ⟨ts, hts⟩ : ∃ x, t.set = x := ⟨_, rfl⟩
      obtain ⟨tn, htn⟩ : ∃ x, t.n = x := ⟨_, rfl⟩
      obtain ⟨sn, hsn⟩ : ∃ x, t.s.length = x := ⟨_, rfl⟩
      rw [htv] at y0; rw [hts] at y1; rw [htn] at y2 HST; rw [hsn] at y3
      clear htv hts htn hsn
      have hw2 : IntKind.i64.wrap ((k : Int) + 1) = (k : Int) + 1 := by rw [IntKind.wrap_i64]; omega
      have hbT : Below wr.heap.size wr (wr.alloc (Obj.cells #[.int .i64 tv, .bool ts, .int .i64 tn, .slice a2 sn c2] 46)) := (Below.refl _ wr).alloc (Nat.le_refl _) _
      have hb1 := HB.out.trans (hbT.mono HB.out.size)
      have hown3 := own_keepB HO.out hbT
      have hbS : Below (wr.heap.size + 1) (wr.alloc (Obj.cells #[.int .i64 tv, .bool ts, .int .i64 tn, .slice a2 sn c2] 46)) ((wr.alloc (Obj.cells #[.int .i64 tv, .bool ts, .int .i64 tn, .slice a2 sn c2] 46)).alloc (Obj.cells #[.int .i64 tn] 2)) := (Below.refl _ _).alloc (by simp) _
      have hown4 := own_keepB hown3 (by simpa using hbS)
      have hb2 := hb1.trans (hbS.mono (by have := HB.out.size; omega))
      have hcA : ((wr.alloc (Obj.cells #[.int .i64 tv, .bool ts, .int .i64 tn, .slice a2 sn c2] 46)).alloc (Obj.cells #[.int .i64 tn] 2)).cell? ⟨wr.heap.size + 1, 0, none⟩ = some (.int .i64 tn) := (blk_two wr _ #[.int .i64 tn] 2).cell 0
      have HO4 : Hid _ := hown4
      have HB2 : Hid (Below WA.heap.size WA _) := hb2
      clear hbT hbS hb1 hown3 hown4 hb2
      obtain ⟨po, co, rfl⟩ := own_shape HO.out
      go_wp2_with (at_builtin; refine wpList_app_n64 _ rfl _ _ rfl WA.heap.size _ k _ rfl HO4.out (wr.heap.size + 1) tn rfl hcA HB2.out.size (by omega) ?_; intro v9 w9 hown9 hb9; have HO9 : Hid (w9.ownsRow WA.heap.size 2 1 v9 (k + 1) (intv ((l.take k).map Tm.n ++ [tn]))) := hown9; have HB9 : Hid (Below WA.heap.size WA w9) := HB2.out.trans hb9; clear hown9 hb9)
      go_roundw
      case rel => exact ⟨k + 1, by omega, by go_num, by rw [HST.out]; exact HO9, HB9⟩
      case measure => simp [intOf]; omega
    · have hlt' : ¬ (k : Int) < n := by omega
      obtain rfl : k = n := by omega
      have HF : Hid (wr.ownsRow W.heap.size 2 1 u3 L.length (intv L) ∧ Below W.heap.size W wr) := by
        have h9 := HO.out
        rw [List.take_of_length_le (by rw [HN.out]; exact Nat.le_refl _), ← HE.out] at h9
        have hl9 : L.length = k := by rw [HE.out, List.length_map, HN.out]
        rw [hl9]
        exact ⟨own_base h9 (by rw [HSZ.out]; omega), HBA.out.trans (HB.out.mono (by rw [HSZ.out]; omega))⟩
      go_wp2
      go_ret
      exact ⟨_, rfl, HF.out.1, HF.out.2⟩
/-- Does no number stand twice? -/
def twiceB (g : Ag) : Bool := decide ((Lib.compact (sortL (numL g))).length = g.l.length)

set_option maxRecDepth 100000 in
set_option maxHeartbeats 4000000 in
theorem noneTwice_any {B : Nat} {W : World} {a : Option Addr} {c : Nat} (g : Ag) (h : St B W (.slice a g.l.length c) g.l) (hl : g.l.length ≤ 1000) (hcl : (Lib.compact (sortL (numL g))).length ≤ (numL g).length) :
    Calls Tryz.prog 74 #[.agg #[.bool g.arr, .slice a g.l.length c]] W fun e w' => e = .returned (.bool (twiceB g)) ∧ Below W.heap.size W w' := by
  have hbA : Below W.heap.size W (W.alloc (Obj.cells #[.bool g.arr, .slice a g.l.length c] 54)) := (Below.refl _ W).alloc (Nat.le_refl _) _
  have kN := numbers_any g (h.below hbA) hl
  have HE : Hid (twiceB g = decide ((Lib.compact (sortL (numL g))).length = g.l.length)) := rfl
  have HLN : Hid ((numL g).length ≤ 1000000000000) := (by rw [numL_length]; omega : (numL g).length ≤ 1000000000000)
  have HCL : Hid ((Lib.compact (sortL (numL g))).length ≤ (numL g).length) := hcl
  have HKB : Hid (Blk (W.alloc (Obj.cells #[.bool g.arr, .slice a g.l.length c] 54)) W.heap.size #[.bool g.arr, .slice a g.l.length c] 54) := Blk.new W _ _
  obtain ⟨WA, hWA⟩ : ∃ X, W.alloc (Obj.cells #[.bool g.arr, .slice a g.l.length c] 54) = X := ⟨_, rfl⟩
  have HWA : Hid (W.alloc (Obj.cells #[.bool g.arr, .slice a g.l.length c] 54) = WA) := hWA
  have HSZ : Hid (WA.heap.size = W.heap.size + 1) := (by rw [← hWA]; simp : WA.heap.size = W.heap.size + 1)
  rw [hWA] at kN HKB hbA
  have HBA : Hid (Below W.heap.size W WA) := hbA
  clear h hl hcl hWA hbA
  obtain ⟨L, hL⟩ : ∃ L, numL g = L := ⟨_, rfl⟩
  obtain ⟨r, hr⟩ : ∃ x, twiceB g = x := ⟨_, rfl⟩
  obtain ⟨ar, har⟩ : ∃ x, g.arr = x := ⟨_, rfl⟩
  obtain ⟨n, hn⟩ : ∃ n, g.l.length = n := ⟨_, rfl⟩
  rw [hr, hL, hn] at HE
  rw [hL] at kN HLN HCL
  rw [har, hn] at kN HKB HWA
  rw [hr, har, hn]
  clear hL hr har hn
  have x0 : WA.cell? ⟨W.heap.size, 0, none⟩ = some (.bool ar) := HKB.out.cell 0
  have x1 : WA.cell? ⟨W.heap.size, 1, none⟩ = some (.slice a n c) := HKB.out.cell 1
  go_enter Tryz.func74, Tryz.ntmps74
  go_upto_region 1 with (fail)
  rw [HWA.out]
  go_wp2_with fail
  refine kN.mono ?_
  clear kN x0 x1
  rintro e w1 ⟨v, rfl, hown, hb⟩
  have HO1 : Hid (w1.ownsRow WA.heap.size 2 1 v L.length (intv L)) := hown
  have HB1 : Hid (Below WA.heap.size WA w1) := hb
  obtain ⟨pv, cv, rfl⟩ := own_shape hown
  clear hown hb
  go_wp2_with fail
  refine (sort_own64 WA.heap.size _ L w1 HO1.out HB1.out.size HLN.out).mono ?_
  rintro e w2 ⟨rfl, hown2, hb2⟩
  have HO2 : Hid (w2.ownsRow WA.heap.size 2 1 (.slice pv L.length cv) (sortL L).length (intv (sortL L))) := hown2
  have HB2 : Hid (Below WA.heap.size WA w2) := HB1.out.trans hb2
  clear hown2 hb2 HO1 HB1
  go_upto_region 3 with (fail)
  refine wp_region_held_drew (S := (fun w' => w'.cell? ⟨W.heap.size, 1, none⟩ = some (.slice a n c))) (by kernel_rfl) ((HKB.out.below (HB2.out.trans ((Below.drew (Below.refl _ w2)).mono HB2.out.size))).cell 1) (fun hHeld => ?_)
  refine wpAnyH_take (i := 0) (oi := { dst := some 8, op := Go.Op.move (Go.Operand.tmp 3), type := 42, pos := "rules.go:59", after := #[], guard := none }) (v := ?_) rfl (by kernel_rfl) (by kernel_rfl) (by kernel_rfl) (fun _ _ _ h => h) (Or.inl ⟨by rfl, ?_⟩) hHeld ?_
  rotate_left
  · intro w hSw; (try dsimp only at hSw); go_simp <;> with_reducible rfl
  try simp only [Act.put, List.setIfInBounds_toArray, List.set_cons_zero, List.set_cons_succ]
  refine wpAnyH_take (i := 3) (oi := { dst := some 11, op := Go.Op.fieldAddr 54 (Go.Operand.tmp 1) 1, type := 0, pos := "rules.go:59", after := #[], guard := none }) (v := ?_) rfl (by kernel_rfl) (by kernel_rfl) (by kernel_rfl) (fun _ _ _ h => h) (Or.inl ⟨by rfl, ?_⟩) hHeld ?_
  rotate_left
  · intro w hSw; (try dsimp only at hSw); go_simp <;> with_reducible rfl
  try simp only [Act.put, List.setIfInBounds_toArray, List.set_cons_zero, List.set_cons_succ]
  refine wpAnyH_take (i := 4) (oi := { dst := some 12, op := Go.Op.load 52 (Go.Operand.tmp 11), type := 52, pos := "rules.go:59", after := #[{ on := 3, ground := Go.Ground.data }], guard := none }) (v := ?_) rfl (by kernel_rfl) (by kernel_rfl) (by kernel_rfl) (fun _ _ _ h => h) (Or.inl ⟨by rfl, ?_⟩) hHeld ?_
  rotate_left
  · intro w hSw; (try dsimp only at hSw); go_simp <;> with_reducible rfl
  try simp only [Act.put, List.setIfInBounds_toArray, List.set_cons_zero, List.set_cons_succ]
  refine wpAnyH_take (i := 5) (oi := { dst := some 13, op := Go.Op.call { callee := Go.Callee.builtin Go.Builtin.len, args := #[Go.Operand.tmp 12], argTypes := #[52] }, type := 3, pos := "rules.go:59", after := #[{ on := 4, ground := Go.Ground.data }], guard := none }) (v := ?_) rfl (by kernel_rfl) (by kernel_rfl) (by kernel_rfl) (fun _ _ _ h => h) (Or.inl ⟨by rfl, ?_⟩) hHeld ?_
  rotate_left
  · intro w hSw; (try dsimp only at hSw); go_simp <;> with_reducible rfl
  try simp only [Act.put, List.setIfInBounds_toArray, List.set_cons_zero, List.set_cons_succ]
  refine wpAnyH_ready (rs := [1]) (by kernel_rfl) (by simp) ?_
  refine AllReadyH.cons rfl (fun K hK => ?_) AllReadyH.nil
  go_simp
  refine (compact_own64 WA.heap.size _ _ _ (own_keepB HO2.out (Below.drew (Below.refl _ _))) (by rw [sortL_len]; exact HLN.out) (by rw [sortL_len]; exact HCL.out)).mono ?_
  rintro e w4 ⟨v4, rfl, hown4, hb4⟩
  have hB := HB2.out.trans ((Below.drew (Below.refl _ w2)).mono HB2.out.size |>.trans hb4)
  obtain ⟨p4, c4, rfl⟩ := own_shape hown4
  clear hown4 hb4
  refine hK.out _ _ ((HKB.out.below hB).cell 1) (fun hHeld2 => ?_)
  clear hK K hHeld
  have hHeld := hHeld2
  clear hHeld2
  try simp only [Act.put, List.setIfInBounds_toArray, List.set_cons_zero, List.set_cons_succ]
  refine wpAnyH_take (i := 2) (oi := { dst := some 10, op := Go.Op.call { callee := Go.Callee.builtin Go.Builtin.len, args := #[Go.Operand.tmp 9], argTypes := #[42] }, type := 3, pos := "rules.go:59", after := #[{ on := 1, ground := Go.Ground.data }], guard := none }) (v := ?_) rfl (by kernel_rfl) (by kernel_rfl) (by kernel_rfl) (fun _ _ _ h => h) (Or.inl ⟨by rfl, ?_⟩) hHeld ?_
  rotate_left
  · intro w hSw; (try dsimp only at hSw); go_simp <;> with_reducible rfl
  try simp only [Act.put, List.setIfInBounds_toArray, List.set_cons_zero, List.set_cons_succ]
  refine wpAnyH_take (i := 6) (oi := { dst := some 14, op := Go.Op.binOp Go.BinOp.eql 3 (Go.Operand.tmp 10) (Go.Operand.tmp 13) 3, type := 4, pos := "rules.go:59", after := #[{ on := 2, ground := Go.Ground.data }, { on := 5, ground := Go.Ground.data }], guard := none }) (v := ?_) rfl (by kernel_rfl) (by kernel_rfl) (by kernel_rfl) (fun _ _ _ h => h) (Or.inl ⟨by rfl, ?_⟩) hHeld ?_
  rotate_left
  · intro w hSw; (try dsimp only at hSw); go_simp <;> with_reducible rfl
  try simp only [Act.put, List.setIfInBounds_toArray, List.set_cons_zero, List.set_cons_succ]
  refine wpAnyH_take (i := 7) (oi := { dst := some 2, op := Go.Op.assign (Go.Operand.tmp 14), type := 4, pos := "rules.go:59", after := #[{ on := 6, ground := Go.Ground.data }, { on := 1, ground := Go.Ground.chain }, { on := 0, ground := Go.Ground.phase }, { on := 1, ground := Go.Ground.phase }, { on := 2, ground := Go.Ground.phase }, { on := 3, ground := Go.Ground.phase }, { on := 4, ground := Go.Ground.phase }, { on := 5, ground := Go.Ground.phase }, { on := 6, ground := Go.Ground.phase }], guard := none }) (v := ?_) rfl (by kernel_rfl) (by kernel_rfl) (by kernel_rfl) (fun _ _ _ h => h) (Or.inl ⟨by rfl, ?_⟩) hHeld ?_
  rotate_left
  · intro w hSw; (try dsimp only at hSw); go_simp <;> with_reducible rfl
  try simp only [Act.put, List.setIfInBounds_toArray, List.set_cons_zero, List.set_cons_succ]
  refine wpAnyH_done (by kernel_rfl) ?_ _
  have HB9 : Hid (Below W.heap.size W w4) := HBA.out.trans (hB.mono (by rw [HSZ.out]; omega))
  clear hB
  obtain ⟨m, hm⟩ : ∃ m, (Lib.compact (sortL L)).length = m := ⟨_, rfl⟩
  rw [hm] at HE ⊢
  clear hm
  by_cases hmn : m = n
  · subst hmn
    go_wp2
    go_ret
    exact ⟨by rw [HE.out]; simp, HB9.out⟩
  · have hq : ((m : Int) == n) = false := by simp; omega
    go_wp2
    go_ret
    exact ⟨by rw [HE.out]; simp [hmn]; omega, HB9.out⟩
end Go.Proofs.YtpgecdhieakilaaGreatDoor

namespace Go.Proofs.YtpgecdhieakilaaGreatDoor
open Go.RowKit Go.Shelf
set_option linter.unusedVariables false
set_option linter.unusedSimpArgs false

def negB (x : Int) : Bool := decide (x < 0)
def outB (q : Int) (x : Int) : Bool := decide (x < 0) || decide (q < x)

set_option maxRecDepth 100000 in
set_option maxHeartbeats 4000000 in
theorem neg109 (x : Int) (W : World) : Calls Tryz.prog 109 #[.int .i64 x] W fun e w' => e = .returned (.bool (negB x)) ∧ Below W.heap.size W w' := by
  go_enter Tryz.func109, Tryz.ntmps109
  go_wp2
  go_ret
  exact ⟨rfl, Below.refl _ _⟩

set_option maxRecDepth 100000 in
set_option maxHeartbeats 4000000 in
theorem out107 (x q : Int) (b : Nat) (W : World) (hc : W.cell? ⟨b, 0, none⟩ = some (.int .i64 q)) : Calls Tryz.prog 107 #[.int .i64 x, .pointer (some ⟨b, 0, none⟩)] W fun e w' => e = .returned (.bool (outB q x)) ∧ Below W.heap.size W w' := by
  by_cases h1 : x < 0
  · go_enter Tryz.func107, Tryz.ntmps107
    go_wp2
    go_ret
    exact ⟨by simp [outB, h1], Below.refl _ _⟩
  · by_cases h2 : q < x <;>
    · go_enter Tryz.func107, Tryz.ntmps107
      go_wp2
      go_ret
      exact ⟨by simp [outB, h1, h2], Below.refl _ _⟩

set_option maxRecDepth 100000 in
set_option maxHeartbeats 4000000 in
theorem index_neg {B0 : Nat} {W : World} {a8 : Option Addr} {c8 n : Nat} {l : List Int} (h : Si B0 W (.slice a8 n c8) l) (hlen : l.length = n) (hn : n ≤ 4398046510976) :
    Calls Tryz.prog 126 #[.slice a8 n c8, .func (.func 109) #[] #[]] W fun e w' => (∃ r : Int, e = .returned (.int .i64 r) ∧ idxOk (l.any negB) r) ∧ Below W.heap.size W w' := by
  have HA : Hid (Si B0 W (.slice a8 n c8) l) := h
  have HN : Hid (l.length = n) := hlen
  clear h hlen
  go_enter Tryz.func126, Tryz.ntmps126
  go_wp2
  go_loopw [8] (fun i wr => ∃ k : Nat, k ≤ n ∧ i = .int .i64 (k : Int) ∧ Hid ((l.take k).any negB = false) ∧ Hid (Below W.heap.size W wr)) (fun i _ => n - (intOf i).toNat)
  case atStart => exact ⟨0, Nat.zero_le _, rfl, by simp [Hid], Below.refl _ _⟩
  case round =>
    obtain ⟨k, hk, rfl, HQ, HB⟩ := hrel
    by_cases hlt : k < n
    · have hlt' : (k : Int) < n := by omega
      obtain ⟨x, hg⟩ : ∃ g, l[k]? = some g := ⟨_, List.getElem?_eq_getElem (by rw [HN.out]; exact hlt)⟩
      have HS : Hid ((l.take (k + 1)).any negB = ((l.take k).any negB || negB x)) := by
        obtain ⟨hi, rfl⟩ := List.getElem?_eq_some_iff.1 hg
        show (l.take (k + 1)).any negB = _
        rw [List.take_succ_eq_append_getElem hi, List.any_append]
        simp
      have HMEM : Hid (x ∈ l) := List.mem_of_getElem? hg
      obtain ⟨b, off, rfl, hb, d0⟩ := HA.out.at hg
      have y0 := (HB.out.cell (p := ⟨b, off + k, none⟩) hb).trans d0
      have hsh := neg109 x wr
      obtain ⟨r, hr⟩ : ∃ r, negB x = r := ⟨_, rfl⟩
      rw [hr] at hsh HS
      have HR : Hid (negB x = r) := hr
      clear d0 hg hr
      have hw2 : IntKind.i64.wrap ((k : Int) + 1) = (k : Int) + 1 := by rw [IntKind.wrap_i64]; omega
      go_wp2_with fail
      refine hsh.mono ?_
      rintro e w1 ⟨rfl, hb1⟩
      have HB1 : Hid (Below W.heap.size W w1) := HB.out.trans (hb1.mono HB.out.size)
      clear hb1 hsh
      rw [HQ.out] at HS
      cases r with
      | false =>
        go_wp2
        go_roundw
        case rel => exact ⟨k + 1, by omega, by go_num, by rw [HS.out]; rfl, HB1⟩
        case measure => simp [intOf]; omega
      | true =>
        have HF : Hid (l.any negB = true) := List.any_eq_true.2 ⟨x, HMEM.out, HR.out⟩
        go_wp2
        go_ret
        exact ⟨⟨_, rfl, by rw [HF.out]; exact Int.natCast_nonneg k⟩, HB1.out⟩
    · have hlt' : ¬ (k : Int) < n := by omega
      obtain rfl : k = n := by omega
      have HF : Hid (l.any negB = false) := by have := HQ.out; rwa [List.take_of_length_le (by rw [HN.out]; exact Nat.le_refl _)] at this
      go_wp2
      go_ret
      exact ⟨⟨_, rfl, by rw [HF.out]; exact rfl⟩, HB.out⟩

set_option maxRecDepth 100000 in
set_option maxHeartbeats 4000000 in
theorem contains_neg {B0 : Nat} {W : World} {a8 : Option Addr} {c8 n : Nat} {l : List Int} (h : Si B0 W (.slice a8 n c8) l) (hlen : l.length = n) (hn : n ≤ 4398046510976) :
    Calls Tryz.prog 108 #[.slice a8 n c8, .func (.func 109) #[] #[]] W fun e w' => e = .returned (.bool (l.any negB)) ∧ Below W.heap.size W w' := by
  have k := index_neg h hlen hn
  obtain ⟨qq, hqq⟩ : ∃ qq, l.any negB = qq := ⟨_, rfl⟩
  rw [hqq] at k ⊢
  clear h hlen hqq
  go_enter Tryz.func108, Tryz.ntmps108
  go_wp2_with fail
  refine k.mono ?_
  rintro e w1 ⟨⟨r, rfl, hr⟩, hb1⟩
  have HB : Hid _ := hb1
  clear hb1 k
  cases qq with
  | true =>
    have h0 : (0 : Int) ≤ r := hr
    clear hr
    go_wp2
    go_ret
    exact ⟨by simp [h0], HB.out⟩
  | false =>
    obtain rfl : r = -1 := hr
    go_wp2
    go_ret
    exact ⟨rfl, HB.out⟩

set_option maxRecDepth 100000 in
set_option maxHeartbeats 4000000 in
theorem index_out {B0 : Nat} {W : World} {a8 : Option Addr} {c8 n : Nat} {l : List Int} (q : Int) (bq : Nat) (hbq : bq < W.heap.size) (hq : W.cell? ⟨bq, 0, none⟩ = some (.int .i64 q)) (h : Si B0 W (.slice a8 n c8) l) (hlen : l.length = n) (hn : n ≤ 4398046510976) :
    Calls Tryz.prog 126 #[.slice a8 n c8, .func (.func 107) #[] #[.pointer (some ⟨bq, 0, none⟩)]] W fun e w' => (∃ r : Int, e = .returned (.int .i64 r) ∧ idxOk (l.any (outB q)) r) ∧ Below W.heap.size W w' := by
  have HA : Hid (Si B0 W (.slice a8 n c8) l) := h
  have HN : Hid (l.length = n) := hlen
  clear h hlen
  go_enter Tryz.func126, Tryz.ntmps126
  go_wp2
  go_loopw [8] (fun i wr => ∃ k : Nat, k ≤ n ∧ i = .int .i64 (k : Int) ∧ Hid ((l.take k).any (outB q) = false) ∧ Hid (Below W.heap.size W wr)) (fun i _ => n - (intOf i).toNat)
  case atStart => exact ⟨0, Nat.zero_le _, rfl, by simp [Hid], Below.refl _ _⟩
  case round =>
    obtain ⟨k, hk, rfl, HQ, HB⟩ := hrel
    by_cases hlt : k < n
    · have hlt' : (k : Int) < n := by omega
      obtain ⟨x, hg⟩ : ∃ g, l[k]? = some g := ⟨_, List.getElem?_eq_getElem (by rw [HN.out]; exact hlt)⟩
      have HS : Hid ((l.take (k + 1)).any (outB q) = ((l.take k).any (outB q) || (outB q) x)) := by
        obtain ⟨hi, rfl⟩ := List.getElem?_eq_some_iff.1 hg
        show (l.take (k + 1)).any (outB q) = _
        rw [List.take_succ_eq_append_getElem hi, List.any_append]
        simp
      have HMEM : Hid (x ∈ l) := List.mem_of_getElem? hg
      obtain ⟨b, off, rfl, hb, d0⟩ := HA.out.at hg
      have y0 := (HB.out.cell (p := ⟨b, off + k, none⟩) hb).trans d0
      have hsh := out107 x q bq wr ((HB.out.cell (p := ⟨bq, 0, none⟩) hbq).trans hq)
      obtain ⟨r, hr⟩ : ∃ r, (outB q) x = r := ⟨_, rfl⟩
      rw [hr] at hsh HS
      have HR : Hid ((outB q) x = r) := hr
      clear d0 hg hr
      have hw2 : IntKind.i64.wrap ((k : Int) + 1) = (k : Int) + 1 := by rw [IntKind.wrap_i64]; omega
      go_wp2_with fail
      refine hsh.mono ?_
      rintro e w1 ⟨rfl, hb1⟩
      have HB1 : Hid (Below W.heap.size W w1) := HB.out.trans (hb1.mono HB.out.size)
      clear hb1 hsh
      rw [HQ.out] at HS
      cases r with
      | false =>
        go_wp2
        go_roundw
        case rel => exact ⟨k + 1, by omega, by go_num, by rw [HS.out]; rfl, HB1⟩
        case measure => simp [intOf]; omega
      | true =>
        have HF : Hid (l.any (outB q) = true) := List.any_eq_true.2 ⟨x, HMEM.out, HR.out⟩
        go_wp2
        go_ret
        exact ⟨⟨_, rfl, by rw [HF.out]; exact Int.natCast_nonneg k⟩, HB1.out⟩
    · have hlt' : ¬ (k : Int) < n := by omega
      obtain rfl : k = n := by omega
      have HF : Hid (l.any (outB q) = false) := by have := HQ.out; rwa [List.take_of_length_le (by rw [HN.out]; exact Nat.le_refl _)] at this
      go_wp2
      go_ret
      exact ⟨⟨_, rfl, by rw [HF.out]; exact rfl⟩, HB.out⟩

set_option maxRecDepth 100000 in
set_option maxHeartbeats 4000000 in
theorem contains_out {B0 : Nat} {W : World} {a8 : Option Addr} {c8 n : Nat} {l : List Int} (q : Int) (bq : Nat) (hbq : bq < W.heap.size) (hq : W.cell? ⟨bq, 0, none⟩ = some (.int .i64 q)) (h : Si B0 W (.slice a8 n c8) l) (hlen : l.length = n) (hn : n ≤ 4398046510976) :
    Calls Tryz.prog 108 #[.slice a8 n c8, .func (.func 107) #[] #[.pointer (some ⟨bq, 0, none⟩)]] W fun e w' => e = .returned (.bool (l.any (outB q))) ∧ Below W.heap.size W w' := by
  have k := index_out q bq hbq hq h hlen hn
  obtain ⟨qq, hqq⟩ : ∃ qq, l.any (outB q) = qq := ⟨_, rfl⟩
  rw [hqq] at k ⊢
  clear h hlen hqq
  go_enter Tryz.func108, Tryz.ntmps108
  go_wp2_with fail
  refine k.mono ?_
  rintro e w1 ⟨⟨r, rfl, hr⟩, hb1⟩
  have HB : Hid _ := hb1
  clear hb1 k
  cases qq with
  | true =>
    have h0 : (0 : Int) ≤ r := hr
    clear hr
    go_wp2
    go_ret
    exact ⟨by simp [h0], HB.out⟩
  | false =>
    obtain rfl : r = -1 := hr
    go_wp2
    go_ret
    exact ⟨rfl, HB.out⟩

set_option maxRecDepth 100000 in
set_option maxHeartbeats 4000000 in
theorem noneBelow_any {B : Nat} {W : World} {a : Option Addr} {c : Nat} (g : Ag) (h : St B W (.slice a g.l.length c) g.l) (hl : g.l.length ≤ 1000) :
    Calls Tryz.prog 76 #[.agg #[.bool g.arr, .slice a g.l.length c]] W fun e w' => e = .returned (.bool (!(numL g).any negB)) ∧ Below W.heap.size W w' := by
  have hbA : Below W.heap.size W (W.alloc (Obj.cells #[.bool g.arr, .slice a g.l.length c] 54)) := (Below.refl _ W).alloc (Nat.le_refl _) _
  have kN := numbers_any g (h.below hbA) hl
  have HLN : Hid ((numL g).length ≤ 1000) := (by rw [numL_length]; omega : (numL g).length ≤ 1000)
  have HBA : Hid _ := hbA
  clear h hbA hl
  obtain ⟨L, hL⟩ : ∃ L, numL g = L := ⟨_, rfl⟩
  obtain ⟨ar, har⟩ : ∃ x, g.arr = x := ⟨_, rfl⟩
  obtain ⟨n, hn⟩ : ∃ n, g.l.length = n := ⟨_, rfl⟩
  rw [hL] at HLN
  rw [hL, har, hn] at kN
  rw [har, hn] at HBA
  rw [hL, har, hn]
  clear hL har hn
  go_enter Tryz.func76, Tryz.ntmps76
  go_wp2_with fail
  refine kN.mono ?_
  clear kN
  rintro e w1 ⟨v, rfl, hown, hb⟩
  have hsi := own_si hown
  obtain ⟨pv, cv, rfl⟩ := own_shape hown
  have HB1 : Hid (Below W.heap.size W w1) := HBA.out.trans (hb.mono (by simp))
  have kC := contains_neg hsi rfl (by have := HLN.out; omega)
  obtain ⟨q, hq⟩ : ∃ q, L.any negB = q := ⟨_, rfl⟩
  rw [hq] at kC
  have HQ : Hid (L.any negB = q) := hq
  clear hb hown hsi hq
  go_wp2_with fail
  refine kC.mono ?_
  clear kC
  rintro e w2 ⟨rfl, hb2⟩
  have HB2 : Hid (Below W.heap.size W w2) := HB1.out.trans (hb2.mono HB1.out.size)
  clear hb2
  cases q <;>
  · go_wp2
    go_ret
    exact ⟨by rw [HQ.out]; rfl, HB2.out⟩
/-- Have all of them as many terms? -/
def manyB (ags : List Ag) : Bool := match ags with
  | [] => true
  | g0 :: _ => ags.all fun g => decide (g.l.length = g0.l.length)

set_option maxRecDepth 100000 in
set_option maxHeartbeats 4000000 in
theorem asManyG {B0 : Nat} {W : World} {a8 : Option Addr} {c8 n : Nat} {ags : List Ag} (h : Sa B0 W (.slice a8 n c8) ags) (hlen : ags.length = n) (hn : n ≤ 4398046510976) (hl : ∀ g ∈ ags, g.l.length ≤ 4398046510976) :
    Calls Tryz.prog 73 #[.slice a8 n c8] W fun e w' => e = .returned (.bool (manyB ags)) ∧ Below W.heap.size W w' := by
  have HA : Hid (Sa B0 W (.slice a8 n c8) ags) := h
  have HN : Hid (ags.length = n) := hlen
  have HL : Hid (∀ g ∈ ags, g.l.length ≤ 4398046510976) := hl
  obtain ⟨m0, hm0⟩ : ∃ m0, ∀ g0, ags[0]? = some g0 → g0.l.length = m0 := by
    cases ags with
    | nil => exact ⟨0, fun g h => by simp at h⟩
    | cons g0 r => exact ⟨g0.l.length, fun g h => by simp at h; rw [h]⟩
  have HM : Hid (manyB ags = ags.all fun g => decide (g.l.length = m0)) := by
    cases ags with
    | nil => rfl
    | cons g0 r => have := hm0 g0 rfl; subst this; rfl
  have HM0 : Hid (∀ g0, ags[0]? = some g0 → g0.l.length = m0) := hm0
  obtain ⟨r, hr⟩ : ∃ r, manyB ags = r := ⟨_, rfl⟩
  rw [hr] at HM ⊢
  clear h hlen hl hm0 hr
  go_enter Tryz.func73, Tryz.ntmps73
  go_wp2
  go_loopw [7] (fun i wr => ∃ k : Nat, k ≤ n ∧ i = .int .i64 (k : Int) ∧ Hid ((ags.take k).all (fun g => decide (g.l.length = m0)) = true) ∧ Hid (Below W.heap.size W wr)) (fun i _ => n - (intOf i).toNat)
  case atStart => exact ⟨0, Nat.zero_le _, rfl, by simp [Hid], Below.refl _ _⟩
  case round =>
    obtain ⟨k, hk, rfl, HQ, HB⟩ := hrel
    by_cases hlt : k < n
    · have hlt' : (k : Int) < n := by omega
      have hpos : (0 : Int) < n := by omega
      obtain ⟨g, hg⟩ : ∃ g, ags[k]? = some g := ⟨_, List.getElem?_eq_getElem (by rw [HN.out]; exact hlt)⟩
      obtain ⟨g0, hg0⟩ : ∃ g, ags[0]? = some g := ⟨_, List.getElem?_eq_getElem (by rw [HN.out]; omega)⟩
      have HS : Hid ((ags.take (k + 1)).all (fun g => decide (g.l.length = m0)) = ((ags.take k).all (fun g => decide (g.l.length = m0)) && decide (g.l.length = m0))) := by
        obtain ⟨hi, rfl⟩ := List.getElem?_eq_some_iff.1 hg
        show (ags.take (k + 1)).all _ = _
        rw [List.take_succ_eq_append_getElem hi, List.all_append]
        simp
      have HMEM : Hid (g ∈ ags) := List.mem_of_getElem? hg
      have hgl := HL.out g (List.mem_of_getElem? hg)
      have hg0l := HL.out g0 (List.mem_of_getElem? hg0)
      obtain ⟨b, off, a2, c2, rfl, hb, _, d0, d1⟩ := HA.out.at hg
      obtain ⟨b', off', a3, c3, e3, _, _, d2, d3⟩ := HA.out.at hg0
      injection e3 with e3
      injection e3 with e4 e5
      subst e4; subst e5
      rw [HM0.out g0 hg0] at d3 hg0l
      obtain ⟨m, hm⟩ : ∃ m, g.l.length = m := ⟨_, rfl⟩
      rw [hm] at d1 HS hgl
      have HMM : Hid (g.l.length = m) := hm
      rw [Nat.zero_mul, Nat.add_zero] at d3
      have hbA : Below wr.heap.size wr (wr.alloc (Obj.cells #[.bool g.arr, .slice a2 m c2] 54)) := (Below.refl _ wr).alloc (Nat.le_refl _) _
      have hBA := HB.out.trans (hbA.mono HB.out.size)
      have HBA : Hid (Below W.heap.size W (wr.alloc (Obj.cells #[.bool g.arr, .slice a2 m c2] 54))) := hBA
      have y0 := (HB.out.cell (p := ⟨b, off + k * 2, none⟩) hb).trans d0
      have y1 := (HB.out.cell (p := ⟨b, off + k * 2 + 1, none⟩) hb).trans d1
      have y3 := (hBA.cell (p := ⟨b, off + 1, none⟩) hb).trans d3
      clear d0 d1 d2 d3 hg hg0 hbA hBA hm
      have hw2 : IntKind.i64.wrap ((k : Int) + 1) = (k : Int) + 1 := by rw [IntKind.wrap_i64]; omega
      rw [HQ.out] at HS
      by_cases hmm : m = m0
      · have HT : Hid ((ags.take (k + 1)).all (fun g => decide (g.l.length = m0)) = true) := by have := HS.out; simpa [Hid, hmm] using this
        subst hmm
        go_upto_region 4 with (fail)
        go_quiet (fail)
        go_wp2
        go_roundw
        case rel => exact ⟨k + 1, by omega, by go_num, HT, below_drewN HBA.out _⟩
        case measure => simp [intOf]; omega
      · have HF : Hid (r = false) := by rw [Hid, HM.out, List.all_eq_false]; exact ⟨g, HMEM.out, by rw [HMM.out]; simp [hmm]⟩
        have hq1 : ((m : Int) != m0) = true := by simp; omega
        have hq2 : ((m : Int) == m0) = false := by simp; omega
        go_upto_region 4 with (fail)
        go_quiet (fail)
        go_wp2
        go_ret
        exact ⟨by rw [HF.out]; rfl, below_drewN HBA.out _⟩
    · have hlt' : ¬ (k : Int) < n := by omega
      obtain rfl : k = n := by omega
      have HF : Hid (r = true) := by have h9 := HQ.out; rw [List.take_of_length_le (by rw [HN.out]; exact Nat.le_refl _)] at h9; rw [Hid, HM.out]; exact h9
      go_wp2
      go_ret
      exact ⟨by rw [HF.out]; rfl, HB.out⟩
end Go.Proofs.YtpgecdhieakilaaGreatDoor
