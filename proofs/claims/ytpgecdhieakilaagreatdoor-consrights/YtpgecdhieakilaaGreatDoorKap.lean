/-
  What is proved here: the law writes into all of a constraint.
-/
import Derived.Test.YtpgecdhieakilaaGreatDoorKao
import Derived.BigRegion
namespace Go.Proofs.YtpgecdhieakilaaGreatDoor
open Go.RowKit Go.Shelf
set_option linter.unusedVariables false
set_option linter.unusedSimpArgs false

/-- What Spoil leaves of a row of cells of a type. -/
def Left (T : TypeId) (cs cs' : Array Value) : Prop := cs'.size = cs.size ∧ (T ≠ 2 → T ≠ 46 → T ≠ 54 → cs' = cs) ∧ (T = 46 → ∀ i : Nat, cs'[i * 4 + 3]? = cs[i * 4 + 3]?) ∧ (T = 54 → ∀ i : Nat, cs'[i * 2 + 1]? = cs[i * 2 + 1]? ∧ ∀ b, cs[i * 2]? = some (.bool b) → ∃ b', cs'[i * 2]? = some (.bool b'))
theorem Left.refl (T : TypeId) (cs : Array Value) : Left T cs cs := ⟨rfl, fun _ _ _ => rfl, fun _ _ => rfl, fun _ i => ⟨rfl, fun b h => ⟨b, h⟩⟩⟩
theorem Left.trans {T : TypeId} {a b c : Array Value} (h1 : Left T a b) (h2 : Left T b c) : Left T a c :=
  ⟨h2.1.trans h1.1, fun x y z => (h2.2.1 x y z).trans (h1.2.1 x y z), fun x i => (h2.2.2.1 x i).trans (h1.2.2.1 x i), fun x i => ⟨((h2.2.2.2 x i).1).trans (h1.2.2.2 x i).1, fun u hu => by obtain ⟨u', hu'⟩ := (h1.2.2.2 x i).2 u hu; exact (h2.2.2.2 x i).2 u' hu'⟩⟩
def Tk (w w' : World) : Prop := ∀ (g : Nat) (cs : Array Value) (T : TypeId), Blk w g cs T → ∃ cs', Blk w' g cs' T ∧ Left T cs cs'
theorem Tk.refl (w : World) : Tk w w := fun g cs T h => ⟨cs, h, Left.refl T cs⟩
theorem Tk.trans {a b c : World} (h1 : Tk a b) (h2 : Tk b c) : Tk a c := fun g cs T h => by
  obtain ⟨c1, k1, l1⟩ := h1 g cs T h
  obtain ⟨c2, k2, l2⟩ := h2 g c1 T k1
  exact ⟨c2, k2, l1.trans l2⟩
theorem Tk.below {w w' : World} (h : Below w.heap.size w w') : Tk w w' := fun g cs T k => ⟨cs, k.below h, Left.refl T cs⟩
theorem blk_type {w : World} {g : Nat} {cs ds : Array Value} {s t : TypeId} (h : Blk w g cs s) (k : Blk w g ds t) : cs = ds ∧ s = t := by
  have := h.h
  rw [k.h] at this
  injection this with this
  injection this with q1 q2 _
  exact ⟨q1.symm, q2.symm⟩
theorem Tk.set {w : World} {g : Nat} {cs : Array Value} {T : TypeId} (h : Blk w g cs T) (i : Nat) (v : Value) (hl : Left T cs (cs.setIfInBounds i v)) : Tk w (w.setCell ⟨g, i, none⟩ v) := fun k ds S hk => by
  by_cases e : k = g
  · subst e
    obtain ⟨rfl, rfl⟩ := blk_type hk h
    exact ⟨_, h.set i v, hl⟩
  · exact ⟨ds, hk.other e i v, Left.refl S ds⟩
theorem left2 (cs : Array Value) (i : Nat) (v : Value) : Left 2 cs (cs.setIfInBounds i v) := ⟨by simp, fun h => absurd rfl h, fun h => absurd h (by decide), fun h => absurd h (by decide)⟩
theorem left46 (cs : Array Value) (i : Nat) (v : Value) : Left 46 cs (cs.setIfInBounds (i * 4) v) := ⟨by simp, fun _ h => absurd rfl h, fun _ j => by rw [Array.getElem?_setIfInBounds_ne (by omega)], fun h => absurd h (by decide)⟩
theorem left54 (cs : Array Value) (i : Nat) (b : Bool) : Left 54 cs (cs.setIfInBounds (i * 2) (.bool b)) := ⟨by simp, fun _ _ h => absurd rfl h, fun h => absurd h (by decide), fun _ j => ⟨by rw [Array.getElem?_setIfInBounds_ne (by omega)], fun u hu => by
  by_cases e : i * 2 = j * 2
  · rw [← e] at hu ⊢
    exact ⟨b, by rw [Array.getElem?_setIfInBounds_self_of_lt (Array.getElem?_eq_some_iff.1 hu).1]⟩
  · exact ⟨u, by rw [Array.getElem?_setIfInBounds_ne e]; exact hu⟩⟩⟩
theorem OkS.tk {B : Nat} {w w' : World} {s : Value} (h : OkS B w s) (ht : Tk w w') : OkS B w' s := by
  obtain ⟨p, n, c, e, hn, h⟩ := h
  refine ⟨p, n, c, e, hn, fun h0 => ?_⟩
  obtain ⟨g, cs, e1, e2, e3, e4⟩ := h h0
  obtain ⟨cs', k, l⟩ := ht g cs 2 e3
  exact ⟨g, cs', e1, e2, k, by rw [l.1]; exact e4⟩
theorem OkT.tk {B : Nat} {w w' : World} {s : Value} (h : OkT B w s) (ht : Tk w w') : OkT B w' s := by
  obtain ⟨p, n, c, e, hn, h⟩ := h
  refine ⟨p, n, c, e, hn, fun h0 => ?_⟩
  obtain ⟨g, cs, e1, e2, e3, e4, e5⟩ := h h0
  obtain ⟨cs', k, l⟩ := ht g cs 46 e3
  exact ⟨g, cs', e1, e2, k, by rw [l.1]; exact e4, fun j hj => by obtain ⟨s, h1, h2⟩ := e5 j hj; exact ⟨s, by rw [l.2.2.1 rfl j]; exact h1, h2.tk ht⟩⟩
theorem OkA.tk {B : Nat} {w w' : World} {s : Value} (h : OkA B w s) (ht : Tk w w') : OkA B w' s := by
  obtain ⟨p, n, c, e, hn, h⟩ := h
  refine ⟨p, n, c, e, hn, fun h0 => ?_⟩
  obtain ⟨g, cs, e1, e2, e3, e4, e5⟩ := h h0
  obtain ⟨cs', k, l⟩ := ht g cs 54 e3
  refine ⟨g, cs', e1, e2, k, by rw [l.1]; exact e4, fun j hj => ?_⟩
  obtain ⟨⟨b, hb⟩, s, h1, h2⟩ := e5 j hj
  exact ⟨(l.2.2.2 rfl j).2 b hb, s, by rw [(l.2.2.2 rfl j).1]; exact h1, h2.tk ht⟩
set_option maxRecDepth 100000 in
set_option maxHeartbeats 4000000 in
theorem spoil_any {B : Nat} {W : World} {p : Option Addr} {n c : Nat} (nm : ByteArray) (h : OkA B W (.slice p n c)) (hB : B ≤ W.heap.size) :
    Calls Tryz.prog 23 #[.agg #[.string nm, .slice p n c]] W fun e w' => e = .returned (.tuple #[]) ∧ Below B W w' := by
  obtain ⟨B0, hB0⟩ : ∃ x, W.heap.size = x := ⟨_, rfl⟩
  obtain ⟨W1, hW1⟩ : ∃ X, W.alloc (Obj.cells #[.string nm, .slice p n c] 32) = X := ⟨_, rfl⟩
  have HB1 : Hid (Below B0 W W1) := by rw [Hid, ← hW1, ← hB0]; exact (Below.refl _ W).alloc (Nat.le_refl _) _
  have KA : Hid (Blk W1 B0 #[.string nm, .slice p n c] 32) := by rw [Hid, ← hW1, ← hB0]; exact Blk.new W _ _
  have HW1 : Hid _ := hW1
  have HB0 : Hid (W.heap.size = B0) := hB0
  have HBB : Hid (B ≤ B0) := by rw [Hid, ← hB0]; exact hB
  have HOA : Hid (OkA B W1 (.slice p n c)) := h.below (by rw [hB0]; exact HB1.out)
  have hn9 : n ≤ 140737488351232 := by
    obtain ⟨_, _, _, e, hn, _⟩ := h
    injection e with _ e _
    omega
  have HN9 := hid hn9
  clear hW1 hB0 h hB hn9
  go_enter Tryz.func23, Tryz.ntmps23
  go_upto_region 1 with (fail)
  rw [HW1.out, HB0.out]
  go_wp2
  go_loopw [2] (fun i wr => ∃ k : Nat, k ≤ n ∧ i = .int .i64 (k : Int) ∧ Hid (Tk W1 wr) ∧ Hid (Below B W1 wr)) (fun i _ => n - (intOf i).toNat)
  case atStart => exact ⟨0, Nat.zero_le _, rfl, Tk.refl _, Below.refl _ _⟩
  case round =>
    obtain ⟨k, hk, rfl, HT, HBR⟩ := hrel
    have hbox : ∀ X, Tk W1 X → Blk X B0 #[.string nm, .slice p n c] 32 := fun X hX => by
      obtain ⟨cs', k1, l1⟩ := hX B0 _ 32 KA.out
      rw [l1.2.1 (by decide) (by decide) (by decide)] at k1
      exact k1
    have HBOX := hid hbox
    have xc := (hbox _ HT.out).cell 1
    simp only [List.getElem?_toArray, List.getElem?_cons_succ, List.getElem?_cons_zero] at xc
    clear hbox
    by_cases hlt : k < n
    · have hlt' : (k : Int) < n := by omega
      have hw2 : IntKind.i64.wrap ((k : Int) + 1) = (k : Int) + 1 := by rw [IntKind.wrap_i64]; have := HN9.out; omega
      obtain ⟨w3, hw3⟩ : ∃ x, x = wr := ⟨_, rfl⟩
      subst hw3
      obtain ⟨_, _, _, e, _, hok⟩ := HOA.out.tk HT.out
      injection e with e1 e2 e3
      subst e1; subst e2; subst e3
      obtain ⟨ha, csa, e, hBa, hka, hsza, hrow⟩ := hok (by omega)
      subst e
      obtain ⟨⟨b0, hb0⟩, sv, hsv, hokt⟩ := hrow k hlt
      have HKA := hid hka
      have HSV := hid hsv
      have HOT := hid hokt
      have HBA := hid hBa
      have HHB := hid (show ∃ b, csa[k * 2]? = some (.bool b) from ⟨b0, hb0⟩)
      obtain ⟨pt, m, ct, rfl, hm9, _⟩ := hokt
      have HM9 := hid hm9
      have harg : ∀ X, Tk w3 X → X.cell? ⟨ha, k * 2 + 1, none⟩ = some (.slice pt m ct) := fun X hX => by
        obtain ⟨cs', k1, l1⟩ := hX ha _ 54 HKA.out
        rw [k1.cell, (l1.2.2.2 rfl k).1]
        exact HSV.out
      have HARG := hid harg
      have hbol : ∀ X, Tk w3 X → ∃ b cs, Blk X ha cs 54 ∧ cs[k * 2]? = some (.bool b) := fun X hX => by
        obtain ⟨cs', k1, l1⟩ := hX ha _ 54 HKA.out
        obtain ⟨b, hb⟩ := HHB.out
        obtain ⟨b', hb'⟩ := (l1.2.2.2 rfl k).2 b hb
        exact ⟨b', cs', k1, hb'⟩
      have HBOL := hid hbol
      clear hok hrow hb0 hsv hka hBa hsza hm9 harg hbol
      go_wp2
      go_loopw [3] (fun i wr => ∃ j : Nat, j ≤ m ∧ i = .int .i64 (j : Int) ∧ Hid (Tk w3 wr) ∧ Hid (Below B W1 wr)) (fun i _ => m - (intOf i).toNat)
      case atStart => exact ⟨0, Nat.zero_le _, rfl, Tk.refl _, HBR.out⟩
      case round =>
        obtain ⟨j, hj, rfl, HT4, HBR4⟩ := hrel
        obtain ⟨w4, hw4⟩ : ∃ x, x = wr := ⟨_, rfl⟩
        subst hw4
        have xc := (HBOX.out _ (HT.out.trans HT4.out)).cell 1
        simp only [List.getElem?_toArray, List.getElem?_cons_succ, List.getElem?_cons_zero] at xc
        have xa := HARG.out _ HT4.out
        by_cases hltj : j < m
        · have hltj' : (j : Int) < m := by omega
          have hwj : IntKind.i64.wrap ((j : Int) + 1) = (j : Int) + 1 := by rw [IntKind.wrap_i64]; have := HM9.out; omega
          obtain ⟨_, _, _, e, _, hok⟩ := HOT.out.tk HT4.out
          injection e with e1 e2 e3
          subst e1; subst e2; subst e3
          obtain ⟨ht, cst, e, hBt, hkt, hszt, hrow⟩ := hok (by omega)
          subst e
          obtain ⟨ss, hss, hoks⟩ := hrow j hltj
          have xs : w4.cell? ⟨ht, j * 4 + 3, none⟩ = some ss := (hkt.cell _).trans hss
          have HKT := hid hkt
          have HOS := hid hoks
          have HBT := hid hBt
          have HSZ := hid hszt
          obtain ⟨ps, q, cq, rfl, hq9, _⟩ := hoks
          have HQ9 := hid hq9
          clear hok hrow hss hkt hBt hszt hq9
          go_wp2
          go_loopw [5] (fun i wr => ∃ l : Nat, l ≤ q ∧ i = .int .i64 (l : Int) ∧ Hid (Tk w4 wr) ∧ Hid (Below B W1 wr)) (fun i _ => q - (intOf i).toNat)
          case atStart => exact ⟨0, Nat.zero_le _, rfl, Tk.refl _, HBR4.out⟩
          case round =>
            obtain ⟨l, hl, rfl, HT5, HBR5⟩ := hrel
            by_cases hltl : l < q
            · have hltl' : (l : Int) < q := by omega
              have hwl : IntKind.i64.wrap ((l : Int) + 1) = (l : Int) + 1 := by rw [IntKind.wrap_i64]; have := HQ9.out; omega
              obtain ⟨_, _, _, e, _, hok⟩ := HOS.out.tk HT5.out
              injection e with e1 e2 e3
              subst e1; subst e2; subst e3
              obtain ⟨hs, css, e, hBs, hks, hszs⟩ := hok (by omega)
              subst e
              obtain ⟨u, hu⟩ : ∃ u, css[l]? = some u := ⟨_, Array.getElem?_eq_getElem (by omega)⟩
              have xu : wr.cell? ⟨hs, l, none⟩ = some u := (hks.cell _).trans hu
              have xf := hks.frozen
              have HT6 := hid (HT5.out.trans (Tk.set hks l (.int .i64 99) (left2 css l _)))
              have HB6 : Hid (Below B W1 (wr.setCell ⟨hs, l, none⟩ (.int .i64 99))) := HBR5.out.setCell hBs _
              clear hok hks hszs hBs hu
              go_wp2
              go_roundw
              case rel => exact ⟨l + 1, by omega, by go_num, HT6, HB6⟩
              case measure => simp [intOf]; omega
            · have hltl' : ¬ (l : Int) < q := by omega
              have HT35 := hid (HT4.out.trans HT5.out)
              have xc := (HBOX.out _ (HT.out.trans HT35.out)).cell 1
              simp only [List.getElem?_toArray, List.getElem?_cons_succ, List.getElem?_cons_zero] at xc
              have xa := HARG.out _ HT35.out
              obtain ⟨ct', kt5, lt5⟩ := HT5.out ht _ 46 HKT.out
              obtain ⟨u, hu⟩ : ∃ u, ct'[j * 4]? = some u := ⟨_, Array.getElem?_eq_getElem (by rw [lt5.1]; have := HSZ.out; omega)⟩
              have xu : wr.cell? ⟨ht, j * 4, none⟩ = some u := (kt5.cell _).trans hu
              have xf := kt5.frozen
              have HT6 := hid (HT35.out.trans (Tk.set kt5 (j * 4) (.int .i64 99) (left46 ct' j _)))
              have HB6 : Hid (Below B W1 (wr.setCell ⟨ht, j * 4, none⟩ (.int .i64 99))) := HBR5.out.setCell HBT.out _
              clear kt5 lt5 hu
              go_wp2
              go_roundw
              case rel => exact ⟨j + 1, by omega, by go_num, HT6, HB6⟩
              case measure => simp [intOf]; omega
        · have hltj' : ¬ (j : Int) < m := by omega
          obtain ⟨bb, cs4, k4, hb4⟩ := HBOL.out _ HT4.out
          have xb : w4.cell? ⟨ha, k * 2, none⟩ = some (.bool bb) := (k4.cell _).trans hb4
          have xf := k4.frozen
          have HT6 : Hid (∀ u : Bool, Tk W1 (w4.setCell ⟨ha, k * 2, none⟩ (.bool u)) ∧ Below B W1 (w4.setCell ⟨ha, k * 2, none⟩ (.bool u))) := fun u => ⟨(HT.out.trans HT4.out).trans (Tk.set k4 (k * 2) (.bool u) (left54 cs4 k u)), HBR4.out.setCell HBA.out _⟩
          clear k4 hb4
          go_wp2
          go_region
          go_wp2
          go_roundw
          case rel => exact ⟨k + 1, by omega, by go_num, (HT6.out _).1.trans (Tk.below (Below.drew (Below.refl _ _))), Below.drew (HT6.out _).2⟩
          case measure => simp [intOf]; omega
    · have hlt' : ¬ (k : Int) < n := by omega
      go_wp2
      exact ⟨rfl, _, results_none rfl _ _ _, rfl, (HB1.out.mono HBB.out).trans HBR.out⟩
end Go.Proofs.YtpgecdhieakilaaGreatDoor
