/-
  What is proved here: the variables of a list that have several values, told one by one.
  What is proved here: what an iterator tells, put into a list: slices.AppendSeq and slices.Collect; Open.
-/
import Derived.Test.YthkliicmoandmaaGreatDoorCaj
import Derived.Test.YthkliicmoandmaaGreatDoorRg
import Derived.Test.YthkliicmoandmaaGreatDoorKaj
import Derived.OwnWalk
import Derived.OwnWalkIn
namespace Go.Proofs.YthkliicmoandmaaGreatDoor
open Go.RowKit Go.Shelf
set_option linter.unusedVariables false
set_option linter.unusedSimpArgs false

attribute [local go_sem] Oper.semAt_some
/-- Whole numbers in memory. -/
def Ns (w : World) (s : Value) (l : List Int) : Prop := Nm (fun _ => False) w s l
/-- Domains in memory. -/
def Ds (w : World) (s : Value) (D : List MD) : Prop :=
  ∃ a c, s = .slice a D.length c ∧ (0 < D.length → ∃ b off, a = some ⟨b, off, none⟩ ∧ b < w.heap.size ∧ ∀ i d, D[i]? = some d → ∃ c0 c1 c2 c3 c4 c5, Dc (fun _ => False) w [c0, c1, c2, c3, c4, c5] d ∧
    w.cell? ⟨b, off + i * 6, none⟩ = some c0 ∧ w.cell? ⟨b, off + i * 6 + 1, none⟩ = some c1 ∧ w.cell? ⟨b, off + i * 6 + 2, none⟩ = some c2 ∧ w.cell? ⟨b, off + i * 6 + 3, none⟩ = some c3 ∧ w.cell? ⟨b, off + i * 6 + 4, none⟩ = some c4 ∧ w.cell? ⟨b, off + i * 6 + 5, none⟩ = some c5)
theorem Ns.below {w w' : World} {s : Value} {l : List Int} (h : Ns w s l) (hb : Below w.heap.size w w') : Ns w' s l := Nm.kept h (Kept.of_below hb)
theorem Ds.below {w w' : World} {s : Value} {D : List MD} (h : Ds w s D) (hb : Below w.heap.size w w') : Ds w' s D := by
  obtain ⟨a, c, e, h⟩ := h
  refine ⟨a, c, e, fun h0 => ?_⟩
  obtain ⟨b, off, e1, e2, e3⟩ := h h0
  refine ⟨b, off, e1, Nat.lt_of_lt_of_le e2 hb.size, fun i d hd => ?_⟩
  obtain ⟨c0, c1, c2, c3, c4, c5, h1, k0, k1, k2, k3, k4, k5⟩ := e3 i d hd
  exact ⟨c0, c1, c2, c3, c4, c5, h1.below hb, (hb.cell (p := ⟨b, _, none⟩) e2).trans k0, (hb.cell (p := ⟨b, _, none⟩) e2).trans k1, (hb.cell (p := ⟨b, _, none⟩) e2).trans k2, (hb.cell (p := ⟨b, _, none⟩) e2).trans k3, (hb.cell (p := ⟨b, _, none⟩) e2).trans k4, (hb.cell (p := ⟨b, _, none⟩) e2).trans k5⟩
/-- A variable that there is, and that has several values. -/
def openB (D : List MD) (v : Int) : Bool := decide (0 ≤ v) && decide (v < D.length) && (D[v.toNat]?.map sevB).getD false
/-- Those of some variables. -/
def openL (l : List Int) (D : List MD) : List Int := l.filter (openB D)
theorem openL_snoc (l : List Int) (D : List MD) (k : Nat) (v : Int) (h : l[k]? = some v) : openL (l.take (k + 1)) D = if openB D v then openL (l.take k) D ++ [v] else openL (l.take k) D := by
  unfold openL
  rw [List.take_add_one, h, List.filter_append]
  cases hv : openB D v <;> simp [List.filter, hv]
theorem openL_get (l : List Int) (D : List MD) (k : Nat) (v : Int) (h : l[k]? = some v) (hv : openB D v = true) : (openL l D)[(openL (l.take k) D).length]? = some v := by
  have h1 : l = l.take (k + 1) ++ l.drop (k + 1) := (List.take_append_drop _ _).symm
  have h2 := openL_snoc l D k v h
  rw [if_pos hv] at h2
  have h3 : openL l D = (openL (l.take k) D ++ [v]) ++ openL (l.drop (k + 1)) D := by
    rw [← h2]; unfold openL; rw [← List.filter_append, List.take_append_drop]
  rw [h3, List.getElem?_append_left (by simp), List.getElem?_append_right (Nat.le_refl _)]; simp
/-- What is captured. -/
structure OpK (B1 B2 : Nat) (s1 s2 : Value) (l : List Int) (D : List MD) (w : World) : Prop where
  a : w.cell? ⟨B1, 0, none⟩ = some s1
  n : Ns w s1 l
  b : w.cell? ⟨B2, 0, none⟩ = some s2
  d : Ds w s2 D
theorem OpK.below {B1 B2 : Nat} {s1 s2 : Value} {l : List Int} {D : List MD} {w w' : World} (h : OpK B1 B2 s1 s2 l D w) (hb : Below w.heap.size w w') : OpK B1 B2 s1 s2 l D w' :=
  ⟨(hb.cell (p := ⟨B1, 0, none⟩) (World.block_lt_of_cell? w ⟨B1, 0, none⟩ h.a)).trans h.a, h.n.below hb, (hb.cell (p := ⟨B2, 0, none⟩) (World.block_lt_of_cell? w ⟨B2, 0, none⟩ h.b)).trans h.b, h.d.below hb⟩
theorem Ns.shape {w : World} {s : Value} {l : List Int} (h : Ns w s l) : ∃ a c, s = .slice a l.length c := by obtain ⟨a, c, e, _⟩ := h; exact ⟨a, c, e⟩
theorem Ds.shape {w : World} {s : Value} {D : List MD} (h : Ds w s D) : ∃ a c, s = .slice a D.length c := by obtain ⟨a, c, e, _⟩ := h; exact ⟨a, c, e⟩

set_option maxRecDepth 100000 in
set_option maxHeartbeats 4000000 in
theorem open1_tells (B1 B2 : Nat) (s1 s2 : Value) (l : List Int) (D : List MD) (hD : ∀ d ∈ D, Good d) (hl : l.length ≤ 9223372036854775806) (hDl : D.length ≤ 9223372036854775806) :
    Tells Tryz.prog 89 #[.pointer (some ⟨B1, 0, none⟩), .pointer (some ⟨B2, 0, none⟩)] ((openL l D).map fun v => .int .i64 v) (OpK B1 B2 s1 s2 l D) := by
  intro n lr W J Jx hK hJK hJb hY h0
  have HJ : Hid _ := hJb
  have HY : Hid _ := hY
  have HJK : Hid _ := hJK
  have HG : Hid _ := hD
  have HJ0 : Hid (J 0 W) := h0
  clear hJb hY hJK h0 hD
  rw [show (#[Value.func (.yield lr) #[] #[]] ++ #[Value.pointer (some ⟨B1, 0, none⟩), Value.pointer (some ⟨B2, 0, none⟩)]) = #[.func (.yield lr) #[] #[], .pointer (some ⟨B1, 0, none⟩), .pointer (some ⟨B2, 0, none⟩)] from rfl]
  obtain ⟨hs1, hn1, hs2, hd2⟩ := hK
  obtain ⟨p1, k1, rfl⟩ := hn1.shape
  obtain ⟨p2, k2, rfl⟩ := hd2.shape
  obtain ⟨nl, hnl⟩ : ∃ m, l.length = m := ⟨_, rfl⟩
  obtain ⟨nd, hnd⟩ : ∃ m, D.length = m := ⟨_, rfl⟩
  have HNL : Hid (l.length = nl) := hnl
  have HND : Hid (D.length = nd) := hnd
  rw [hnl] at hs1 hl hn1 HJK
  rw [hnd] at hDl hd2 HJK
  have HNZ : Hid (0 < nl → ∃ b off, p1 = some ⟨b, off, none⟩) := fun h => by
    obtain ⟨a, c, e, hc⟩ := hn1
    obtain ⟨b, off, e1, _⟩ := hc (by omega)
    injection e with e2 _ _
    exact ⟨b, off, e2.trans e1⟩
  have HDZ : Hid (0 < nd → ∃ b off, p2 = some ⟨b, off, none⟩) := fun h => by
    obtain ⟨a, c, e, hc⟩ := hd2
    obtain ⟨b, off, e1, _⟩ := hc (by omega)
    injection e with e2 _ _
    exact ⟨b, off, e2.trans e1⟩
  clear hn1 hd2 hs2 hnl hnd
  refine callsIn_of_wp Tryz.func89 rfl trivial ?_ rfl
  simp only [Tryz.ntmps89, List.size_toArray, List.length_cons, List.length_nil, Nat.reduceAdd, Nat.reduceSub, Array.replicate_succ, Array.replicate_zero, List.push_toArray, List.append_toArray, List.nil_append, List.cons_append]
  gi_wp2
  gi_loopw [8] (fun i wr => ∃ k : Nat, i = .int .i64 (k : Int) ∧ k ≤ nl ∧ W.heap.size ≤ wr.heap.size ∧ Hid (J (openL (l.take k) D).length wr)) (fun i _ => nl - (intOf i).toNat)
  case atStart => exact ⟨0, rfl, Nat.zero_le _, Nat.le_refl _, by simpa [openL] using HJ0⟩
  case round =>
    obtain ⟨k, rfl, hk, hWr, HJk⟩ := hrel
    by_cases hlt : k < nl
    · have hlt' : (k : Int) < (nl : Int) := by omega
      have hwk : IntKind.i64.wrap ((k : Int) + 1) = (k : Int) + 1 := by rw [IntKind.wrap_i64]; omega
      obtain ⟨v, hv⟩ : ∃ v, l[k]? = some v := ⟨_, List.getElem?_eq_getElem (by rw [HNL.out]; exact hlt)⟩
      have HSN : Hid (openL (l.take (k + 1)) D = if openB D v then openL (l.take k) D ++ [v] else openL (l.take k) D) := openL_snoc l D k v hv
      obtain ⟨b1, off1, rfl⟩ := HNZ.out (by omega)
      have hKr := HJK.out _ _ HJk.out
      have hm1 : wr.cell? ⟨b1, off1 + k, none⟩ = some (.int .i64 v) := by
        obtain ⟨a, c, e, hc⟩ := hKr.n
        obtain ⟨b, off, rfl, _, _, hcc⟩ := hc (by rw [HNL.out]; omega)
        injection e with e1 _ _
        injection e1 with e1
        injection e1 with e2 e3
        subst e2 e3
        exact hcc k v hv
      have hs2 := hKr.b
      by_cases h1 : 0 ≤ v
      · have d1 : decide (0 ≤ v) = true := by simpa using h1
        by_cases h2 : v < (nd : Int)
        · have d2 : decide (v < (nd : Int)) = true := by simpa using h2
          obtain ⟨vn, rfl⟩ : ∃ m : Nat, v = (m : Int) := ⟨v.toNat, by omega⟩
          obtain ⟨d, hd⟩ : ∃ d, D[vn]? = some d := ⟨_, List.getElem?_eq_getElem (by rw [HND.out]; omega)⟩
          obtain ⟨b2, off2, rfl⟩ := HDZ.out (by omega)
          obtain ⟨c0, c1, c2, c3, c4, c5, hDc, g0, g1, g2, g3, g4, g5⟩ : ∃ c0 c1 c2 c3 c4 c5, Dc (fun _ => False) wr [c0, c1, c2, c3, c4, c5] d ∧
              wr.cell? ⟨b2, off2 + vn * 6, none⟩ = some c0 ∧ wr.cell? ⟨b2, off2 + vn * 6 + 1, none⟩ = some c1 ∧ wr.cell? ⟨b2, off2 + vn * 6 + 2, none⟩ = some c2 ∧ wr.cell? ⟨b2, off2 + vn * 6 + 3, none⟩ = some c3 ∧ wr.cell? ⟨b2, off2 + vn * 6 + 4, none⟩ = some c4 ∧ wr.cell? ⟨b2, off2 + vn * 6 + 5, none⟩ = some c5 := by
            obtain ⟨a, c, e, hc⟩ := hKr.d
            obtain ⟨b, off, rfl, _, hcc⟩ := hc (by rw [HND.out]; omega)
            injection e with e1 _ _
            injection e1 with e1
            injection e1 with e2 e3
            subst e2 e3
            exact hcc vn d hd
          have ks := several_any hDc (HG.out d (List.mem_of_getElem? hd))
          have HOB : Hid (openB D (vn : Int) = sevB d) := by
            unfold Hid openB
            rw [d1, show decide ((vn : Int) < (D.length : Int)) = true by rw [HND.out]; exact d2]
            simp [hd]
          rw [HOB.out] at HSN
          have HVV : Hid (l[k]? = some (vn : Int)) := hv
          have hone := hDc.one
          have hv2 : vn < nd := by omega
          clear hKr hv hd hDc
          cases hS : sevB d
          · rw [hS] at ks HSN
            gi_wp2
            refine ⟨trivial, (fun h => nomatch h), (callsIn_wide.2 ks).mono ?_⟩
            rintro e w1 ⟨rfl, hb1⟩
            have HJ1 : Hid (J (openL (l.take k) D).length w1) := HJ.out _ _ _ HJk.out hb1
            have hW1 : W.heap.size ≤ w1.heap.size := Nat.le_trans hWr hb1.size
            clear ks g0 g1 g2 g3 g4 g5
            gi_wp2
            refine ⟨(fun _ h => nomatch h), ?_⟩
            gi_wp2
            go_roundw
            case rel => exact ⟨k + 1, by go_num, by omega, hW1, by unfold Hid; rw [HSN.out]; exact HJ1.out⟩
            case measure => simp [intOf]; omega
          · rw [hS] at ks HSN HOB
            have HGE : Hid (((openL l D).map fun v => Value.int .i64 v)[(openL (l.take k) D).length]? = some (.int .i64 (vn : Int))) := by
              unfold Hid; rw [List.getElem?_map, openL_get l D k _ HVV.out HOB.out]; rfl
            gi_wp2
            refine ⟨trivial, (fun h => nomatch h), (callsIn_wide.2 ks).mono ?_⟩
            rintro e w1 ⟨rfl, hb1⟩
            have hW1 : W.heap.size ≤ w1.heap.size := Nat.le_trans hWr hb1.size
            obtain ⟨fn, tmps, assign, body, hy, hRd⟩ := HY.out (n - 1) _ _ w1 HGE.out hW1 (HJ.out _ _ _ HJk.out hb1)
            have HRD : Hid _ := hRd
            clear ks g0 g1 g2 g3 g4 g5 hRd
            gi_wp2
            refine ⟨(fun h => nomatch h), RoundIn.mono HRD.out ?_⟩
            rintro e w' ⟨(⟨rfl, hJ'⟩ | ⟨rfl, hJ'⟩), hka⟩
            · gi_wp2
              go_roundw
              case rel => exact ⟨k + 1, by go_num, by omega, Nat.le_trans hW1 hka.size, by unfold Hid; rw [HSN.out]; simpa using hJ'⟩
              case measure => simp [intOf]; omega
            · gi_wp2
              exact ⟨rfl, _, results_none rfl _ _ _, ⟨_, rfl⟩, .inr hJ'⟩
        · have d2 : decide (v < (nd : Int)) = false := by simpa using h2
          have HOB : Hid (openB D v = false) := by
            unfold Hid openB
            rw [show decide (v < (D.length : Int)) = false by rw [HND.out]; exact d2]
            simp
          rw [HOB.out] at HSN
          clear hKr hv
          gi_wp2
          refine ⟨trivial, ?_⟩
          gi_wp2
          refine ⟨(fun _ h => nomatch h), ?_⟩
          gi_wp2
          go_roundw
          case rel => exact ⟨k + 1, by go_num, by omega, hWr, by unfold Hid; rw [HSN.out]; exact HJk.out⟩
          case measure => simp [intOf]; omega
      · have d1 : decide (0 ≤ v) = false := by simpa using h1
        have HOB : Hid (openB D v = false) := by unfold Hid openB; rw [d1]; simp
        rw [HOB.out] at HSN
        clear hKr hv
        gi_wp2
        refine ⟨trivial, ?_⟩
        gi_wp2
        refine ⟨(fun _ h => nomatch h), ?_⟩
        gi_wp2
        go_roundw
        case rel => exact ⟨k + 1, by go_num, by omega, hWr, by unfold Hid; rw [HSN.out]; exact HJk.out⟩
        case measure => simp [intOf]; omega
    · have hlt' : ¬ (k : Int) < (nl : Int) := by omega
      have hfin : (∃ v, Ending.returned (Value.tuple #[]) = .returned v) ∧ (J (openL l D).length wr ∨ Jx wr) := ⟨⟨_, rfl⟩, .inl (by have := HJk.out; rw [List.take_of_length_le (by rw [HNL.out]; omega)] at this; exact this)⟩
      gi_wp2
      go_end0
      exact hfin

set_option maxRecDepth 100000 in
set_option maxHeartbeats 4000000 in
theorem openOf_any (p1 : Option Addr) (n1 k1 : Nat) (p2 : Option Addr) (n2 k2 : Nat) (W : World) : Calls Tryz.prog 47 #[.slice p1 n1 k1, .slice p2 n2 k2] W fun e w' => e = .returned (.func (.func 89) #[] #[.pointer (some ⟨W.heap.size, 0, none⟩), .pointer (some ⟨W.heap.size + 1, 0, none⟩)]) ∧ w' = (W.alloc (Obj.cells #[.slice p1 n1 k1] 24)).alloc (Obj.cells #[.slice p2 n2 k2] 23) := by
  have hmf : ∀ (fn : Fn) (first cap : Array Value) (w : World), (Instr.makeFunc fn first cap).run Tryz.prog w = .ok (.func fn first cap) w := fun _ _ _ _ => rfl
  go_enter Tryz.func47, Tryz.ntmps47
  go_wp2
  go_ret
  exact ⟨rfl, rfl⟩
end Go.Proofs.YthkliicmoandmaaGreatDoor

namespace Go.Proofs.YthkliicmoandmaaGreatDoor
open Go.RowKit Go.Shelf
set_option linter.unusedVariables false
set_option linter.unusedSimpArgs false

attribute [local go_sem] Oper.semAt_some
theorem Tryz.infoI : (Tryz.prog.info? 3).map (fun i => (i.zero, i.size, i.bytes)) = some (some (.int .i64 0), 1, 8) := by kernel_rfl
def ivl (l : List Int) : List Value := l.map fun v => .int .i64 v
/-- Numbers in memory of its own. -/
def Oi (B : Nat) (w : World) (v : Value) (l : List Int) : Prop := w.ownsRow B 3 1 v l.length (ivl l)
theorem own_keep {w w' : World} {B : Nat} {e : TypeId} {s : Nat} {v : Value} {n : Nat} {xs : List Value} (h : w.ownsRow B e s v n xs) (hb : ∀ g, v.ownBlock = some g → w'.heap[g]? = w.heap[g]?) : w'.ownsRow B e s v n xs := by
  refine ⟨h.1, ?_⟩
  rcases h.2 with e | ⟨g, cap, cur, e1, e2, hg, r⟩
  · exact .inl e
  · exact .inr ⟨g, cap, cur, e1, e2, (hb g (by rw [e1]; rfl)).trans hg, r⟩
theorem own_base {w : World} {B B' : Nat} {e : TypeId} {s : Nat} {v : Value} {n : Nat} {xs : List Value} (h : w.ownsRow B e s v n xs) (hB : B' ≤ B) : w.ownsRow B' e s v n xs :=
  ⟨h.1, by
    rcases h.2 with h2 | ⟨g, cap, cur, e1, hb, r⟩
    · exact .inl h2
    · exact .inr ⟨g, cap, cur, e1, Nat.le_trans hB hb, r⟩⟩
theorem Oi.typ {B : Nat} {w : World} {v : Value} {l : List Int} (h : Oi B w v l) {g : Nat} (hg : v.ownBlock = some g) : B ≤ g ∧ g < w.heap.size ∧ ∃ cur, w.heap[g]? = some (.cells cur 3 (0, 0)) := by
  rcases h.2 with ⟨e1, _⟩ | ⟨g', cap, cur, e1, e2, hg', r⟩
  · rw [e1] at hg; simp [Value.ownBlock] at hg
  · rw [e1] at hg
    obtain rfl : g' = g := by simpa [Value.ownBlock] using hg
    exact ⟨e2, (Array.getElem?_eq_some_iff.1 hg').1, cur, hg'⟩
theorem Oi.below {B : Nat} {w w' : World} {v : Value} {l : List Int} (h : Oi B w v l) (hb : Below w.heap.size w w') : Oi B w' v l := own_keep h fun g q => hb.block g (h.typ q).2.1
theorem Oi.ns {B : Nat} {w : World} {v : Value} {l : List Int} (h : Oi B w v l) : Ns w v l := by
  rcases h.2 with ⟨e1, e2⟩ | ⟨g, cap, cur, e1, hB, hg, hn, hm, hs, ht⟩
  · exact ⟨none, 0, by rw [e1, e2], fun h0 => by omega⟩
  · refine ⟨some ⟨g, 0, none⟩, cap, e1, fun h0 => ⟨g, 0, rfl, (Array.getElem?_eq_some_iff.1 hg).1, fun q => q, fun i x hx => ?_⟩⟩
    have hi := (List.getElem?_eq_some_iff.1 hx).1
    have hc : w.cell? ⟨g, 0 + i, none⟩ = cur[i]? := by simp [World.cell?, hg]
    have h1 : (ivl l)[i]? = some (.int .i64 x) := by simp [ivl, hx]
    rw [← ht, List.getElem?_take, if_pos (by omega), Array.getElem?_toList] at h1
    rw [hc]; exact h1
theorem Oi.shape {B : Nat} {w : World} {v : Value} {l : List Int} (h : Oi B w v l) : ∃ a c, v = .slice a l.length c := h.ns.shape
theorem below_put {B k : Nat} {W X : World} (h : Below B W X) (hk : B ≤ k) (o : Obj) : Below B W (X.putObj k o) := ⟨h.os, h.tape, h.output, by rw [World.putObj_size]; exact h.size, fun i hi => (World.putObj_heap_other (by omega)).trans (h.block i hi)⟩
theorem Bx.put {w : World} {g k : Nat} {cs : Array Value} {t : TypeId} {o o' : Obj} (h : Bx w g cs t) (hk : w.heap[k]? = some o) (ho : o.isCells = false) : Bx (w.putObj k o') g cs t :=
  ⟨(World.putObj_heap_other (fun e => by subst e; rw [h.h] at hk; cases hk; simp [Obj.isCells] at ho)).trans h.h⟩
theorem Oi.put {B k : Nat} {w : World} {v : Value} {l : List Int} {o o' : Obj} (h : Oi B w v l) (hk : w.heap[k]? = some o) (ho : o.isCells = false) : Oi B (w.putObj k o') v l :=
  own_keep h fun g q => by
    obtain ⟨_, _, cur, hc⟩ := h.typ q
    exact World.putObj_heap_other (fun e => by subst e; rw [hc] at hk; cases hk; simp [Obj.isCells] at ho)
/-- What lies in a box and in its row. -/
def Col (N : Nat) (W : World) (l : List Int) (X : World) : Prop := ∃ v, Bx X N #[v] 24 ∧ Oi (N + 1) X v l ∧ Below N W X
theorem col_app {N k : Nat} {W X w1 : World} {va : Option Addr} {vc : Nat} {l l' : List Int} {tmp : Obj} {v' : Value} (H1 : Bx X N #[.slice va k vc] 24) (HO : X.ownsRow (N + 1) 3 1 (.slice va k vc) k (ivl l)) (H3 : Below N W X)
    (hown : w1.ownsRow (N + 1) 3 1 v' (k + 1) (ivl l')) (hl' : l'.length = k + 1) (hgrow : (X.alloc tmp).grownBy w1 (Value.slice va k vc).ownBlock) (hbase : N + 1 ≤ X.heap.size) (B : Nat) :
    Bx w1 N #[.slice va k vc] 24 ∧ Col N W l' (w1.setCell ⟨N, 0, none⟩ v') ∧ KA B X (w1.setCell ⟨N, 0, none⟩ v') := by
  have hob : ∀ j, (Value.slice va k vc).ownBlock = some j → N + 1 ≤ j ∧ ∃ cur, X.heap[j]? = some (.cells cur 3 (0, 0)) := fun j ej => by
    rcases HO.2 with ⟨e, _⟩ | ⟨gg, cap, cur, e, hb, hgb, _⟩
    · rw [e] at ej; simp [Value.ownBlock] at ej
    · rw [e] at ej
      obtain rfl : gg = j := by simpa [Value.ownBlock] using ej
      exact ⟨hb, _, hgb⟩
  have hblk : ∀ b, b < X.heap.size → (Value.slice va k vc).ownBlock ≠ some b → w1.heap[b]? = X.heap[b]? := fun b hb hn =>
    (hgrow.block b (by simp; omega) (fun e => hn e.symm)).trans (Below.heap_alloc X tmp b hb)
  have b1 : Bx w1 N #[.slice va k vc] 24 := ⟨(hblk N (by omega) (fun e => by have := (hob N e).1; omega)).trans H1.h⟩
  have hsz : X.heap.size ≤ w1.heap.size := by have := hgrow.size; simp at this; omega
  have hO : Oi (N + 1) w1 v' l' := by unfold Oi; rw [hl']; exact hown
  refine ⟨b1, ⟨v', b1.set0, ?_, ?_⟩, ?_, ?_⟩
  · exact own_keep hO fun g q => Below.heap_setCell _ _ _ g (fun e => by
      obtain ⟨_, _, cur, hc⟩ := hO.typ q
      have e' : g = N := e
      subst e'
      rw [b1.h] at hc; cases hc)
  · refine ⟨hgrow.os.trans H3.os, hgrow.tape.trans H3.tape, hgrow.output.trans H3.output, ?_, fun b hb => ?_⟩
    · have := H3.size; simp [World.setCell]; omega
    · refine (Below.heap_setCell _ _ _ b (fun e => by have e' : b = N := e; omega)).trans ((hblk b (by omega) (fun e => by have := (hob b e).1; omega)).trans (H3.block b hb))
  · simpa [World.setCell] using hsz
  · intro b o _ hc ho
    have hb : b < X.heap.size := (Array.getElem?_eq_some_iff.1 ho).1
    refine (Below.heap_setCell _ _ _ b (fun e => ?_)).trans ((hblk b hb (fun e => ?_)).trans ho)
    · have e' : b = N := e
      subst e'
      rw [H1.h] at ho; cases ho; simp [Obj.isCells] at hc
    · obtain ⟨_, cur, h⟩ := hob b e
      rw [h] at ho; cases ho; simp [Obj.isCells] at hc
theorem openL_le (l : List Int) (D : List MD) : (openL l D).length ≤ l.length := List.length_filter_le _ _

set_option maxRecDepth 100000 in
set_option maxHeartbeats 4000000 in
theorem appendSeq_any (F : Nat) (caps : Array Value) (xs : List Int) (Kp : World → Prop) (W : World) (hT : Tells Tryz.prog F caps (ivl xs) Kp) (hF : ∀ args w, (callFunc F args).run Tryz.prog w = .ok (.enter F args) w)
    (hK : ∀ w', Below W.heap.size W w' → Kp w') (hxs : xs.length * 8 ≤ 140737488355328) :
    Calls Tryz.prog 88 #[.slice none 0 0, .func (.func F) #[] caps] W fun e w' => ∃ v, e = .returned v ∧ Oi W.heap.size w' v xs ∧ Below W.heap.size W w' := by
  refine (callsIn_wide (n := 6)).1 ?_
  refine callsIn_of_wp_marks Tryz.func88 rfl trivial ?_ rfl
  simp only [Tryz.ntmps88, List.size_toArray, List.length_cons, List.length_nil, Nat.reduceAdd, Nat.reduceSub, Array.replicate_succ, Array.replicate_zero, List.push_toArray, List.append_toArray, List.nil_append, List.cons_append]
  obtain ⟨N, hN⟩ : ∃ N, W.heap.size = N := ⟨_, rfl⟩
  have HT : Hid (Tells Tryz.prog F caps (ivl xs) Kp) := hT
  have HK : Hid _ := hK
  clear hT hK
  gi_wp2_with fail
  obtain ⟨Wa, hWa⟩ : ∃ Wa, W.alloc (Obj.cells #[Value.slice none 0 0] 24) = Wa := ⟨_, rfl⟩
  have hsa : Wa.heap.size = N + 1 := by rw [← hWa, ← hN]; simp
  have hba : Below N W Wa := by rw [← hWa, ← hN]; exact (Below.refl _ W).alloc (Nat.le_refl _) _
  have bx : Bx Wa N #[.slice none 0 0] 24 := by rw [← hWa]; exact Bx.new' hN _ _
  rw [hWa]
  have HSA : Hid _ := hsa
  have HN : Hid _ := hN
  have HXS : Hid _ := hxs
  clear hWa hsa hN hxs
  rw [HN.out] at HK
  refine range_any (id := 0) _ F caps (ivl xs) Kp HT.out rfl hF (fun k X => Col N W (xs.take k) X) (fun _ => False) (fun _ => False) (fun k X ⟨v, _, _, hb⟩ => HK.out _ hb) ?hIb ?hIp (fun _ _ _ _ _ h => h.elim) (fun _ _ _ _ _ h => h.elim) ⟨_, bx, by simpa [Oi, ivl] using World.ownsRow_nil _ _ _ _, hba⟩ (fun v => { tmps := #[.slice none 0 0, .func (.func F) #[] caps, .pointer (some ⟨N, 0, none⟩), undef, .slice none 0 0, v, .func (.func F) #[] caps, v, undef, undef, undef, undef, undef], defers := [] }) ?assign ?body (fun _ _ _ h => h.elim) (fun _ _ _ h => h.elim) ?done
  case hIb =>
    rintro k X X' hX ⟨v, h1, h2, h3⟩ hb
    exact ⟨v, h1.below hb, h2.below hb, h3.trans (hb.mono (by have := h3.size; have := HN.out; omega))⟩
  case hIp =>
    rintro k X j o o' hj ⟨v, h1, h2, h3⟩ ho hc
    exact ⟨v, h1.put ho hc, h2.put ho hc, below_put h3 (by have := HSA.out; omega) _⟩
  case assign =>
    intro l m v X K hK
    gi_wp2
    exact hK
  case body =>
    rintro l m k x X hx hX ⟨v, h1, h2, h3⟩
    obtain ⟨y, hy, rfl⟩ : ∃ y, xs[k]? = some y ∧ x = .int .i64 y := by
      unfold ivl at hx
      rw [List.getElem?_map, Option.map_eq_some_iff] at hx
      obtain ⟨y, h, rfl⟩ := hx
      exact ⟨y, h, rfl⟩
    have hk : k < xs.length := (List.getElem?_eq_some_iff.1 hy).1
    have hlen : (xs.take k).length = k := by simp; omega
    obtain ⟨i0, hi0, hz0, hz1, hz2⟩ := info_parts Tryz.infoI
    have HO : Hid (X.ownsRow (N + 1) 3 1 v k (ivl (xs.take k))) := by have := h2; unfold Oi at this; rw [hlen] at this; exact this
    obtain ⟨va, vc, rfl⟩ := h2.shape
    rw [hlen] at h1 h2 HO
    have c0 := h1.cell 0
    have cf := h1.fr 0
    simp only [List.getElem?_toArray, List.getElem?_cons_zero] at c0
    have hbytes : (k + 1) * 8 ≤ 140737488355328 := by have := HXS.out; omega
    have hlenm : k + 1 ≤ maxLen := by unfold maxLen; omega
    have hbase : N + 1 ≤ X.heap.size := by have := h1.lt; omega
    have HTK : Hid (ivl (xs.take (k + 1)) = ivl (xs.take k) ++ [.int .i64 y] ∧ (xs.take (k + 1)).length = k + 1) := by
      unfold Hid ivl; rw [List.take_add_one, hy]; simp; omega
    have H1 : Hid _ := h1
    have H2 : Hid _ := h2
    have H3 : Hid _ := h3
    have HNW : Hid ((X.alloc (Obj.cells #[.int .i64 y] 3)).cell? ⟨X.heap.size, 0, none⟩ = some (.int .i64 y)) := (Bx.new X #[.int .i64 y] 3).cell 0
    clear h1 h2 h3 hx hy
    gi_wp2_with (gi_at_builtin; refine wpListIn_append_own _ rfl _ _ 24 rfl (N + 1) 3 i0 (.int .i64 0) 1 8 Tryz.underlying24 hi0 hz0 hz1 hz2 rfl (by decide) _ _ _ rfl (HO.out.alloc _) ⟨X.heap.size, 0, none⟩ 1 1 [.int .i64 y] rfl rfl (fun j u hj => by cases j with | zero => (simp at hj; subst hj; simp [Addr.add]) | succ j => simp at hj) (by simp [Value.oneCell']) hlenm hbytes (by simp; omega) ?_; intro v' w1 hown' hgrow _; obtain ⟨gn, capn, rfl⟩ := ownsRow_succ hown'; obtain ⟨q1, q2, q3⟩ := col_app (l' := xs.take (k + 1)) (B := Wa.heap.size) H1.out HO.out H3.out (by rw [HTK.out.1]; exact hown') HTK.out.2 hgrow hbase; have hc2 := q1.cell 0; have hf2 := q1.fr 0; have Q2 : Hid _ := q2; have Q3 : Hid _ := q3; clear q1 q2 q3; simp only [List.getElem?_toArray, List.getElem?_cons_zero] at hc2)
    exact ⟨Q3.out, Q2.out⟩
  case done =>
    rintro D X hD ⟨v, h1, h2, h3⟩ hK
    rw [show (ivl xs).length = xs.length by simp [ivl], List.take_length] at h2
    obtain ⟨va, vc, rfl⟩ := h2.shape
    have c0 := h1.cell 0
    simp only [List.getElem?_toArray, List.getElem?_cons_zero] at c0
    generalize hxn : xs.length = xn at *
    have hgp := grownBy_putObj' X D (.deferred none)
    have HXN : Hid _ := hxn
    have H2 : Hid _ := h2
    have H3 : Hid _ := h3
    clear h2 h3 h1 hxn
    gi_wp2
    refine ⟨by simp, .inl ⟨_, _, rfl, run_takeDeferred hK, ?_⟩⟩
    refine ⟨.slice va xn vc, by simp [results, Tryz.results88, go_sem], _, rfl, ?_, ?_⟩
    · rw [HN.out]
      exact Oi.put (own_base H2.out (Nat.le_succ _)) hK rfl
    · rw [HN.out]
      exact below_put H3.out (by have := HSA.out; omega) _

set_option maxRecDepth 100000 in
set_option maxHeartbeats 4000000 in
theorem collect_any (F : Nat) (caps : Array Value) (xs : List Int) (Kp : World → Prop) (W : World) (hT : Tells Tryz.prog F caps (ivl xs) Kp) (hF : ∀ args w, (callFunc F args).run Tryz.prog w = .ok (.enter F args) w)
    (hK : ∀ w', Below W.heap.size W w' → Kp w') (hxs : xs.length * 8 ≤ 140737488355328) :
    Calls Tryz.prog 46 #[.func (.func F) #[] caps] W fun e w' => ∃ v, e = .returned v ∧ Oi W.heap.size w' v xs ∧ Below W.heap.size W w' := by
  have ka := appendSeq_any F caps xs Kp W hT hF hK hxs
  clear hT hF hK hxs
  go_enter Tryz.func46, Tryz.ntmps46
  go_wp2_with (go_at_call 88; refine ka.mono ?_; rintro e w1 ⟨v, rfl, ho, hb⟩; obtain ⟨a, c, rfl⟩ := ho.shape)
  go_ret
  exact ⟨_, rfl, ho, hb⟩
theorem callOpen1 (args : Array Value) (w : World) : (callFunc 89 args).run Tryz.prog w = .ok (.enter 89 args) w := enters_of Tryz.func89 (by kernel_rfl) rfl args w
/-- The open ones of some variables, as a list. -/
theorem collect_open {W : World} {s1 s2 : Value} {B1 B2 : Nat} {l : List Int} {D : List MD} (h : OpK B1 B2 s1 s2 l D W) (hD : ∀ d ∈ D, Good d) (hl : l.length * 8 ≤ 140737488355328) (hDl : D.length ≤ 9223372036854775806) :
    Calls Tryz.prog 46 #[.func (.func 89) #[] #[.pointer (some ⟨B1, 0, none⟩), .pointer (some ⟨B2, 0, none⟩)]] W fun e w' => ∃ v, e = .returned v ∧ Oi W.heap.size w' v (openL l D) ∧ Below W.heap.size W w' :=
  collect_any _ _ (openL l D) _ W (open1_tells B1 B2 s1 s2 l D hD (by omega) hDl) callOpen1 (fun w' hb => h.below hb) (by have := openL_le l D; omega)
end Go.Proofs.YthkliicmoandmaaGreatDoor
