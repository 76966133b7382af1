/-
  What is proved here: slices.Sort and slices.Compact of whole numbers in own memory.
  What is proved here: arguments in memory; Vars.
-/
import Derived.Test.YtpgecdhieakilaaGreatDoorDaj
import Derived.Test.YtpgecdhieakilaaGreatDoorSk
import Derived.Lib.OwnBridge
import Derived.Shelf.Slices.In.SortNone
namespace Go.Proofs.YtpgecdhieakilaaGreatDoor
open Go.RowKit Go.Shelf
set_option linter.unusedVariables false
set_option linter.unusedSimpArgs false
theorem below_growP {B : Nat} {W w : World} (h : Below B W w) (os : Array Obj) (hB : B ≤ w.heap.size) : Below B W (Sort.grow w os) :=
  ⟨h.os, h.tape, h.output, by show W.heap.size ≤ (w.heap ++ os).size; rw [Array.size_append]; have := h.size; omega, fun k hk => by
    rw [← h.block k hk]
    show (w.heap ++ os)[k]? = w.heap[k]?
    rw [Array.getElem?_append_left (by omega)]⟩
def sortL (l : List Int) : List Int := l.mergeSort fun x y => decide (x ≤ y)
theorem sortL_len (l : List Int) : (sortL l).length = l.length := by simp [sortL]
theorem own_holds {w : World} {B : Nat} {s : Value} {L : List Int} (h : w.ownsRow B 3 1 s L.length (intv L)) (h0 : 0 < L.length) : ∃ g cap, s = .slice (some ⟨g, 0, none⟩) L.length cap ∧ B ≤ g ∧ g < w.heap.size ∧ L.length ≤ cap ∧ Sort.Holds (Value.int .i64) w g 0 L.toArray := by
  rcases h.2 with ⟨_, e2⟩ | ⟨g, cap, cur, e1, hg, hgb, hn, hm, hs, ht⟩
  · simp [intv] at e2; subst e2; simp at h0
  · refine ⟨g, cap, e1, hg, (Array.getElem?_eq_some_iff.1 hgb).1, hn, fun j hj => ⟨?_, by simp [World.frozen?, hgb]⟩⟩
    have hj' : j < L.length := by simpa using hj
    simp only [World.cell?, hgb]
    rw [if_neg (by simp), Nat.zero_add]
    have : (intv L)[j]? = some (.int .i64 (L.toArray[j]!)) := by simp [intv, hj', getElem!_pos]
    rw [← ht, List.getElem?_take, if_pos (by omega), Array.getElem?_toList] at this
    exact this
theorem own_zero {w : World} {B : Nat} {s : Value} {xs : List Value} (h : w.ownsRow B 3 1 s 0 xs) : ∃ p cap, s = .slice p 0 cap := by
  rcases h.2 with ⟨e1, _⟩ | ⟨g, cap, cur, e1, _⟩
  · exact ⟨none, 0, e1⟩
  · exact ⟨_, cap, e1⟩
theorem sort_own (B : Nat) (s : Value) (L : List Int) (w : World) (h : w.ownsRow B 3 1 s L.length (intv L)) (hB : B ≤ w.heap.size) (hs : L.length ≤ 1000000000000) :
    Calls Tryz.prog 43 #[s] w fun e w' => e = .returned (.tuple #[]) ∧ w'.ownsRow B 3 1 s (sortL L).length (intv (sortL L)) ∧ Below B w w' := by
  rcases Nat.eq_zero_or_pos L.length with h0 | h0
  · obtain rfl := List.eq_nil_of_length_eq_zero h0
    obtain ⟨p, cap, rfl⟩ := own_zero h
    refine (Any.slices_Sort_int_none Tryz.laysSort43 p cap w).mono fun e w' ⟨he, hw⟩ => ?_
    subst hw
    exact ⟨he, by simpa [sortL, intv] using h, Below.refl _ _⟩
  · obtain ⟨g, cap, rfl, hg, hgw, _, hH⟩ := own_holds h h0
    refine (Any.slices_Sort_int Tryz.laysSort43 g 0 cap L w hH hgw (by omega)).mono fun e w' ⟨he, q, os, hw⟩ => ?_
    have hl := sortL_len L
    have hp := Lib.ownsRow_putRow (q := q) (k := L.length) (ys := sortL L) (enc := Value.int .i64) (zs := L) h hl (Nat.le_refl _)
    rw [List.take_of_length_le (by omega)] at hp
    have hb : Below B w (Sort.putRow (Value.int .i64) (Sort.ahead w q) g 0 (sortL L).toArray) := Lib.below_putRow (Below.refl _ _) hg
    refine ⟨he, ?_, ?_⟩
    · rw [hw, hl]
      exact own_keepB hp (below_growP (Below.refl _ _) os (Nat.le_refl _))
    · rw [hw]
      exact below_growP hb os (Nat.le_trans hB hb.size)
theorem compact_own (B : Nat) (s : Value) (L : List Int) (w : World) (h : w.ownsRow B 3 1 s L.length (intv L)) (hs : L.length ≤ 1000000000000) (hc : (Lib.compact L).length ≤ L.length) :
    Calls Tryz.prog 44 #[s] w fun e w' => ∃ v, e = .returned v ∧ w'.ownsRow B 3 1 v (Lib.compact L).length (intv (Lib.compact L)) ∧ Below B w w' := by
  rcases Nat.eq_zero_or_pos L.length with h0 | h0
  · obtain rfl := List.eq_nil_of_length_eq_zero h0
    obtain ⟨p, cap, rfl⟩ := own_zero h
    have e0 : Lib.compact [] = [] := List.length_eq_zero_iff.1 (by simpa using hc)
    refine (Any.slices_Compact_int_empty Tryz.laysCompact44 p cap w).mono fun e w' ⟨he, hw⟩ => ?_
    subst hw
    exact ⟨_, he, by rw [e0]; exact h, Below.refl _ _⟩
  · obtain ⟨g, cap, rfl, hg, hgw, hcap, hH⟩ := own_holds h h0
    refine (Any.slices_Compact_int Tryz.laysCompact44 g 0 cap L w hH (by omega) hcap).mono fun e w' ⟨he, q, hw⟩ => ?_
    have hp := Lib.ownsRow_putRow (q := q) (k := (Lib.compact L).length) (ys := Lib.compact L ++ List.replicate (L.length - (Lib.compact L).length) 0) (enc := Value.int .i64) (zs := L) h (by simp; omega) hc
    rw [List.take_append_of_le_length (Nat.le_refl _), List.take_length] at hp
    exact ⟨_, he, by rw [hw]; exact hp, by rw [hw]; exact Lib.below_putRow (Below.refl _ _) hg⟩
theorem Tryz.info3 : (Tryz.prog.info? 3).map (fun i => (i.zero, i.size, i.bytes)) = some (some (.int .i64 0), 1, 8) := by kernel_rfl
theorem wpList_app_n (w : World) {ops : Array Oper} {rest : List Oper} {o : Oper} {a : Act} {Q : Exit → Act → World → Prop} (hgd : o.guard = none) (s x : Operand) (ho : o.op = .call { callee := .builtin .append, args := #[s, x], argTypes := #[35, 35] })
    (B : Nat) (vo : Value) (n : Nat) (L : List Int) (hs : a.eval s = vo) (hown : w.ownsRow B 3 1 vo n (intv L)) (g : Nat) (y : Int) (hx : a.eval x = .slice (some ⟨g, 0, none⟩) 1 1) (hc : w.cell? ⟨g, 0, none⟩ = some (.int .i64 y)) (hB : B ≤ w.heap.size) (hn : n ≤ 1000000000000)
    (h : ∀ v' w', w'.ownsRow B 3 1 v' (n + 1) (intv (L ++ [y])) → Below B w w' → wpList Tryz.prog ops Q rest (a.put o.dst v') w') : wpList Tryz.prog ops Q (o :: rest) a w := by
  obtain ⟨i0, hi0, hz0, hz1, hz2⟩ := info_parts Tryz.info3
  refine wpList_append_own _ hgd s x 35 ho B 3 i0 (.int .i64 0) 1 8 Tryz.underlying35 hi0 hz0 hz1 hz2 rfl (by decide) _ _ _ hs hown ⟨g, 0, none⟩ 1 1 [.int .i64 y] hx rfl (fun j u hj => ?_) (fun u hu => ?_) (by unfold maxLen; omega) (by omega) hB ?_
  · match j, hj with
    | 0, hj => simp at hj; subst hj; simpa [Addr.add] using hc
  · simp at hu; subst hu; rfl
  · intro v' w' g1 g2 _
    refine h v' w' (by unfold intv at *; rw [List.map_append]; exact g1) ((Below.refl _ w).grown g2 hB (fun k e => ?_))
    rcases hown.2 with ⟨e1, _⟩ | ⟨g', cap, cur, e1, hg, hgb, _⟩
    · rw [e1] at e; cases e
    · rw [e1] at e
      injection e with e
      subst e
      exact hg
end Go.Proofs.YtpgecdhieakilaaGreatDoor

namespace Go.Proofs.YtpgecdhieakilaaGreatDoor
open Go.RowKit Go.Shelf
set_option linter.unusedVariables false
set_option linter.unusedSimpArgs false
/-- An argument. -/
structure Ag where
  arr : Bool
  l : List Tm
/-- Arguments in memory. -/
def Sa (B : Nat) (W : World) (s : Value) (ags : List Ag) : Prop := ∃ a c, s = .slice a ags.length c ∧ (0 < ags.length → ∃ b off svl, a = some ⟨b, off, none⟩ ∧ B ≤ b ∧ b < W.heap.size ∧ (svl : List Value).length = ags.length ∧ ∀ (i : Nat) (g : Ag) (sv : Value), ags[i]? = some g → svl[i]? = some sv → St B W sv g.l ∧ W.cell? ⟨b, off + i * 2, none⟩ = some (.bool g.arr) ∧ W.cell? ⟨b, off + i * 2 + 1, none⟩ = some sv)
theorem Sa.below {B : Nat} {W W' : World} {s : Value} {ags : List Ag} (h : Sa B W s ags) (hb : Below W.heap.size W W') : Sa B W' s ags := by
  obtain ⟨a, c, e, h⟩ := h
  refine ⟨a, c, e, fun h0 => ?_⟩
  obtain ⟨b, off, svl, e1, e0, e2, e3, e4⟩ := h h0
  exact ⟨b, off, svl, e1, e0, Nat.lt_of_lt_of_le e2 hb.size, e3, fun i g sv h1 h2 => ⟨(e4 i g sv h1 h2).1.below hb, (hb.cell (p := ⟨b, off + i * 2, none⟩) e2).trans (e4 i g sv h1 h2).2.1, (hb.cell (p := ⟨b, off + i * 2 + 1, none⟩) e2).trans (e4 i g sv h1 h2).2.2⟩⟩
theorem Sa.at {B : Nat} {W : World} {a : Option Addr} {n c : Nat} {ags : List Ag} (h : Sa B W (.slice a n c) ags) {i : Nat} {g : Ag} (hg : ags[i]? = some g) : ∃ b off a' c', a = some ⟨b, off, none⟩ ∧ b < W.heap.size ∧ St B W (.slice a' g.l.length c') g.l ∧ W.cell? ⟨b, off + i * 2, none⟩ = some (.bool g.arr) ∧ W.cell? ⟨b, off + i * 2 + 1, none⟩ = some (.slice a' g.l.length c') := by
  obtain ⟨a0, c0, e, h⟩ := h
  injection e with ea en ec
  subst ea
  have hi : i < ags.length := (List.getElem?_eq_some_iff.1 hg).1
  obtain ⟨b, off, svl, e1, e0, e2, e3, e4⟩ := h (by omega)
  obtain ⟨h1, h2, h3⟩ := e4 i g (svl[i]'(by omega)) hg (List.getElem?_eq_getElem (by omega))
  obtain ⟨a', c', e', h'⟩ := h1
  rw [e'] at h3
  exact ⟨b, off, a', c', e1, e2, ⟨a', c', rfl, h'⟩, h2, h3⟩
theorem St.at {B : Nat} {W : World} {a : Option Addr} {n c : Nat} {l : List Tm} (h : St B W (.slice a n c) l) {i : Nat} {t : Tm} (ht : l[i]? = some t) : ∃ b off a' c', a = some ⟨b, off, none⟩ ∧ b < W.heap.size ∧ Si B W (.slice a' t.s.length c') t.s ∧ W.cell? ⟨b, off + i * 4, none⟩ = some (.int .i64 t.v) ∧ W.cell? ⟨b, off + i * 4 + 1, none⟩ = some (.bool t.set) ∧ W.cell? ⟨b, off + i * 4 + 2, none⟩ = some (.int .i64 t.n) ∧ W.cell? ⟨b, off + i * 4 + 3, none⟩ = some (.slice a' t.s.length c') := by
  obtain ⟨a0, c0, e, h⟩ := h
  injection e with ea en ec
  subst ea
  have hi : i < l.length := (List.getElem?_eq_some_iff.1 ht).1
  obtain ⟨b, off, svl, e1, e0, e2, e3, e4⟩ := h (by omega)
  obtain ⟨h1, h2⟩ := e4 i t (svl[i]'(by omega)) ht (List.getElem?_eq_getElem (by omega))
  obtain ⟨a', c', e', h'⟩ := h1
  rw [e'] at h2
  exact ⟨b, off, a', c', e1, e2, ⟨a', c', rfl, h'⟩, h2 0 _ rfl, h2 1 _ rfl, h2 2 _ rfl, h2 3 _ rfl⟩
def varsL (l : List Tm) : List Int := (l.filter fun t => decide (0 ≤ t.v)).map Tm.v
def varsA (ags : List Ag) : List Int := ags.flatMap fun g => varsL g.l
theorem varsL_append (a b : List Tm) : varsL (a ++ b) = varsL a ++ varsL b := by simp [varsL]
theorem varsA_append (a b : List Ag) : varsA (a ++ b) = varsA a ++ varsA b := by simp [varsA]
theorem varsL_succ {l : List Tm} {i : Nat} {t : Tm} (h : l[i]? = some t) : varsL (l.take (i + 1)) = varsL (l.take i) ++ (if 0 ≤ t.v then [t.v] else []) := by
  obtain ⟨hi, rfl⟩ := List.getElem?_eq_some_iff.1 h
  rw [List.take_succ_eq_append_getElem hi]
  rw [varsL_append]
  by_cases e : 0 ≤ l[i].v <;> simp [varsL, e]
theorem varsA_succ {ags : List Ag} {i : Nat} {g : Ag} (h : ags[i]? = some g) : varsA (ags.take (i + 1)) = varsA (ags.take i) ++ varsL g.l := by
  obtain ⟨hi, rfl⟩ := List.getElem?_eq_some_iff.1 h
  rw [List.take_succ_eq_append_getElem hi, varsA_append]
  simp [varsA]
theorem varsL_take_le (l : List Tm) (i : Nat) : (varsL (l.take i)).length ≤ (varsL l).length := by
  have : varsL l = varsL (l.take i) ++ varsL (l.drop i) := by rw [← varsL_append, List.take_append_drop]
  rw [this]; simp
theorem varsA_le {ags : List Ag} {i : Nat} {g : Ag} (h : ags[i]? = some g) (j : Nat) : (varsA (ags.take i) ++ varsL (g.l.take j)).length ≤ (varsA ags).length := by
  have h1 : varsA ags = varsA (ags.take (i + 1)) ++ varsA (ags.drop (i + 1)) := by
    rw [← varsA_append, List.take_append_drop]
  have h2 := varsL_take_le g.l j
  rw [h1, varsA_succ h]
  simp only [List.length_append]
  omega

set_option maxRecDepth 100000 in
set_option maxHeartbeats 4000000 in
theorem vars_any {B : Nat} {W : World} {s : Value} {ags : List Ag} (nm : ByteArray) (h : Sa B W s ags) (hn : ags.length ≤ 1000000000000) (hl : ∀ g ∈ ags, g.l.length ≤ 1000000000000) (hv : (varsA ags).length ≤ 1000000000000) (hcl : (Lib.compact (sortL (varsA ags))).length ≤ (varsA ags).length) : Calls Tryz.prog 16 #[.agg #[.string nm, s]] W fun e w' => ∃ v, e = .returned v ∧ w'.ownsRow W.heap.size 3 1 v (Lib.compact (sortL (varsA ags))).length (intv (Lib.compact (sortL (varsA ags)))) ∧ Below W.heap.size W w' := by
  obtain ⟨a8, c8, rfl, h⟩ := h
  obtain ⟨n, hn0⟩ : ∃ n, ags.length = n := ⟨_, rfl⟩
  have HA : Hid (Sa B W (.slice a8 n c8) ags) := ⟨a8, c8, by rw [hn0], h⟩
  rw [hn0] at hn ⊢
  have HN : Hid (ags.length = n) := hn0
  have HL : Hid (∀ g ∈ ags, g.l.length ≤ 1000000000000) := hl
  have HV : Hid ((varsA ags).length ≤ 1000000000000) := hv
  have HCL : Hid ((Lib.compact (sortL (varsA ags))).length ≤ (varsA ags).length) := hcl
  clear h hn0 hl hv hcl
  go_enter Tryz.func16, Tryz.ntmps16
  go_wp2
  go_loopw [3, 11] (fun out i wr => ∃ k : Nat, k ≤ n ∧ i = .int .i64 (k : Int) ∧ Hid (wr.ownsRow W.heap.size 3 1 out (varsA (ags.take k)).length (intv (varsA (ags.take k)))) ∧ Hid (Below W.heap.size W wr)) (fun _ i _ => n - (intOf i).toNat)
  case atStart => exact ⟨0, Nat.zero_le _, rfl, World.ownsRow_nil _ _ _ _, (Below.refl _ W).alloc (Nat.le_refl _) _⟩
  case round =>
    obtain ⟨k, hk, rfl, HO, HB⟩ := hrel
    by_cases hlt : k < n
    · have hlt' : (k : Int) < n := by omega
      obtain ⟨g, hg⟩ : ∃ g, ags[k]? = some g := ⟨_, List.getElem?_eq_getElem (by rw [HN.out]; exact hlt)⟩
      have HG : Hid (ags[k]? = some g) := hg
      obtain ⟨b, off, a2, c2, rfl, hb2, hst, d0, d1⟩ := HA.out.at hg
      obtain ⟨m, hm⟩ : ∃ m, g.l.length = m := ⟨_, rfl⟩
      have HM : Hid (g.l.length = m) := hm
      have hm9 : m ≤ 1000000000000 := hm ▸ HL.out g (List.mem_of_getElem? hg)
      rw [hm] at hst d1
      have HST : Hid (St B W (.slice a2 m c2) g.l) := hst
      clear hm hst hg
      have x0 := (HB.out.cell (p := ⟨b, off + k * 2, none⟩) hb2).trans d0
      have x1 := (HB.out.cell (p := ⟨b, off + k * 2 + 1, none⟩) hb2).trans d1
      clear d0 d1
      obtain ⟨ga, hga⟩ : ∃ x, g.arr = x := ⟨_, rfl⟩
      rw [hga] at x0
      clear hga
      obtain ⟨wo, hwo⟩ : ∃ x, x = wr := ⟨_, rfl⟩
      subst hwo
      have hw2 : IntKind.i64.wrap ((k : Int) + 1) = (k : Int) + 1 := by rw [IntKind.wrap_i64]; omega
      have hbA : Below wo.heap.size wo (wo.alloc (Obj.cells #[.bool ga, .slice a2 m c2] 54)) := (Below.refl _ wo).alloc (Nat.le_refl _) _
      have HO2 : Hid ((wo.alloc (Obj.cells #[.bool ga, .slice a2 m c2] 54)).ownsRow W.heap.size 3 1 u3 (varsA (ags.take k)).length (intv (varsA (ags.take k)))) := own_keepB HO.out hbA
      have HB2 : Hid (Below W.heap.size W (wo.alloc (Obj.cells #[.bool ga, .slice a2 m c2] 54))) := HB.out.trans (hbA.mono HB.out.size)
      clear hbA
      go_wp2
      go_loopw [3, 18] (fun out j wq => ∃ q : Nat, q ≤ m ∧ j = .int .i64 (q : Int) ∧ Hid (wq.ownsRow W.heap.size 3 1 out (varsA (ags.take k) ++ varsL (g.l.take q)).length (intv (varsA (ags.take k) ++ varsL (g.l.take q)))) ∧ Hid (Below W.heap.size W wq)) (fun _ j _ => m - (intOf j).toNat)
      case atStart => exact ⟨0, Nat.zero_le _, rfl, by simpa [varsL] using HO2, HB2⟩
      case round =>
        obtain ⟨q, hq, rfl, HQ, HBQ⟩ := hrel
        by_cases hqt : q < m
        · have hqt' : (q : Int) < m := by omega
          obtain ⟨t, ht⟩ : ∃ t, g.l[q]? = some t := ⟨_, List.getElem?_eq_getElem (by rw [HM.out]; exact hqt)⟩
          have HS := varsL_succ ht
          obtain ⟨b3, off3, a4, c4, rfl, hb3, _, d0, d1, d2, d3⟩ := HST.out.at ht
          have y0 := (HBQ.out.cell (p := ⟨b3, off3 + q * 4, none⟩) hb3).trans d0
          have y1 := (HBQ.out.cell (p := ⟨b3, off3 + q * 4 + 1, none⟩) hb3).trans d1
          have y2 := (HBQ.out.cell (p := ⟨b3, off3 + q * 4 + 2, none⟩) hb3).trans d2
          have y3 := (HBQ.out.cell (p := ⟨b3, off3 + q * 4 + 3, none⟩) hb3).trans d3
          obtain ⟨tv, htv⟩ : ∃ x, t.v = x := ⟨_, rfl⟩
          obtain ⟨ts, hts⟩ : ∃ x, t.set = x := ⟨_, rfl⟩
          obtain ⟨tn, htn⟩ : ∃ x, t.n = x := ⟨_, rfl⟩
          obtain ⟨sn, hsn⟩ : ∃ x, t.s.length = x := ⟨_, rfl⟩
          rw [htv] at y0 HS; rw [hts] at y1; rw [htn] at y2; rw [hsn] at y3
          have HLE : Hid ((varsA (ags.take k) ++ varsL (g.l.take q)).length ≤ 1000000000000) := Nat.le_trans (varsA_le HG.out q) HV.out
          clear htv hts htn hsn d0 d1 d2 d3 ht
          have hw3 : IntKind.i64.wrap ((q : Int) + 1) = (q : Int) + 1 := by rw [IntKind.wrap_i64]; omega
          have hbA : Below wr.heap.size wr (wr.alloc (Obj.cells #[.int .i64 tv, .bool ts, .int .i64 tn, .slice a4 sn c4] 46)) := (Below.refl _ wr).alloc (Nat.le_refl _) _
          have HQ2 : Hid ((wr.alloc (Obj.cells #[.int .i64 tv, .bool ts, .int .i64 tn, .slice a4 sn c4] 46)).ownsRow W.heap.size 3 1 u3 (varsA (ags.take k) ++ varsL (g.l.take q)).length (intv (varsA (ags.take k) ++ varsL (g.l.take q)))) := own_keepB HQ.out hbA
          have HBQ2 : Hid (Below W.heap.size W (wr.alloc (Obj.cells #[.int .i64 tv, .bool ts, .int .i64 tn, .slice a4 sn c4] 46))) := HBQ.out.trans (hbA.mono HBQ.out.size)
          clear hbA
          by_cases hge : 0 ≤ tv
          · have HS2 : Hid (varsL (g.l.take (q + 1)) = varsL (g.l.take q) ++ [tv]) := by rw [if_pos hge] at HS; exact HS
            clear HS
            have hbB : Below (wr.heap.size + 1) (wr.alloc (Obj.cells #[.int .i64 tv, .bool ts, .int .i64 tn, .slice a4 sn c4] 46)) ((wr.alloc (Obj.cells #[.int .i64 tv, .bool ts, .int .i64 tn, .slice a4 sn c4] 46)).alloc (Obj.cells #[.int .i64 tv] 3)) := (Below.refl _ _).alloc (by simp) _
            have hown3 := own_keepB HQ2.out (by simpa using hbB)
            have hcA : ((wr.alloc (Obj.cells #[.int .i64 tv, .bool ts, .int .i64 tn, .slice a4 sn c4] 46)).alloc (Obj.cells #[.int .i64 tv] 3)).cell? ⟨wr.heap.size + 1, 0, none⟩ = some (.int .i64 tv) := by
              have := cell_row (World.alloc_heap_new (wr.alloc (Obj.cells #[.int .i64 tv, .bool ts, .int .i64 tn, .slice a4 sn c4] 46)) (Obj.cells #[.int .i64 tv] 3)) 0
              rw [World.size_alloc] at this
              exact this
            have hBQ3 := HBQ2.out.trans (hbB.mono (by have := HBQ.out.size; omega))
            clear hbB
            generalize hLL : (varsA (ags.take k) ++ varsL (g.l.take q)) = LL at HQ HQ2 hown3 HLE
            generalize hnn : LL.length = nn at HQ HQ2 hown3 HLE
            have HLL : Hid (varsA (ags.take k) ++ varsL (g.l.take q) = LL ∧ LL.length = nn) := ⟨hLL, hnn⟩
            clear hLL hnn
            obtain ⟨po, co, rfl⟩ := own_shape HQ.out
            go_wp2_with (at_builtin; refine wpList_app_n _ rfl _ _ rfl W.heap.size _ nn LL rfl hown3 (wr.heap.size + 1) tv rfl hcA hBQ3.size HLE.out ?_; intro v9 w9 hown9 hb9; have HO9 : Hid (w9.ownsRow W.heap.size 3 1 v9 (nn + 1) (intv (LL ++ [tv]))) := hown9; have HB9 : Hid (Below W.heap.size W w9) := hBQ3.trans hb9; clear hown9 hb9)
            go_roundw
            case rel =>
              refine ⟨q + 1, by omega, by go_num, ?_, HB9⟩
              have h9 := HO9.out
              rw [← HLL.out.2, ← HLL.out.1, List.append_assoc, ← HS2.out] at h9
              have e9 : (varsA (ags.take k) ++ varsL (g.l.take q)).length + 1 = (varsA (ags.take k) ++ varsL (g.l.take (q + 1))).length := by rw [HS2.out]; simp; omega
              rw [e9] at h9
              exact h9
            case measure => simp [intOf]; omega
          · have HS2 : Hid (varsL (g.l.take (q + 1)) = varsL (g.l.take q)) := by rw [if_neg hge, List.append_nil] at HS; exact HS
            clear HS
            go_wp2
            go_roundw
            case rel => exact ⟨q + 1, by omega, by go_num, by rw [HS2.out]; exact HQ2, HBQ2⟩
            case measure => simp [intOf]; omega
        · have hqt' : ¬ (q : Int) < m := by omega
          obtain rfl : q = m := by omega
          go_wp2
          go_roundw
          case rel =>
            refine ⟨k + 1, by omega, by go_num, ?_, HBQ⟩
            have h9 := HQ.out
            rw [List.take_of_length_le (l := g.l) (by rw [HM.out]; exact Nat.le_refl _), ← varsA_succ HG.out] at h9
            exact h9
          case measure => simp [intOf]; omega
    · have hlt' : ¬ (k : Int) < n := by omega
      obtain rfl : k = n := by omega
      have h9 := HO.out
      rw [List.take_of_length_le (by rw [HN.out]; exact Nat.le_refl _)] at h9
      have H9 : Hid _ := h9
      clear h9
      go_wp2_with fail
      refine (sort_own W.heap.size _ (varsA ags) wr H9.out HB.out.size HV.out).mono ?_
      rintro e w2 ⟨rfl, hown2, hb2⟩
      have H2 : Hid _ := hown2
      have HB2 : Hid (Below W.heap.size W w2) := HB.out.trans hb2
      clear hown2 hb2
      go_wp2_with fail
      refine (compact_own W.heap.size _ (sortL (varsA ags)) w2 H2.out (by rw [sortL_len]; exact HV.out) (by rw [sortL_len]; exact HCL.out)).mono ?_
      rintro e w3 ⟨v3, rfl, hown3, hb3⟩
      have HZ : Hid _ := hown3
      have HB3 : Hid (Below W.heap.size W w3) := HB2.out.trans hb3
      clear hown3 hb3
      go_wp2
      go_ret
      exact ⟨_, rfl, HZ.out, HB3.out⟩
end Go.Proofs.YtpgecdhieakilaaGreatDoor
