/-
  What is proved here: the variables of a list that have several values, told one by one.
-/
import Derived.Test.YtfcaemfledlnnaaDoorBs
import Derived.Test.YtfcaemfledlnnaaDoorRg
import Derived.Test.YtfcaemfledlnnaaDoorBa
namespace Go.Proofs.YtfcaemfledlnnaaDoor
open Go.RowKit Go.Shelf
set_option linter.unusedVariables false
set_option linter.unusedSimpArgs false

attribute [local go_sem] Oper.semAt_some
/-- Whole numbers in memory. -/
def Ns (w : World) (s : Value) (l : List Int) : Prop := Nm (fun _ => False) w s l
/-- Domains in memory. -/
def Ds (w : World) (s : Value) (D : List MD) : Prop :=
  ∃ a c, s = .slice a D.length c ∧ (0 < D.length → ∃ b off, a = some ⟨b, off, none⟩ ∧ b < w.heap.size ∧ ∀ i d, D[i]? = some d → ∃ c0 c1 c2 c3 c4 c5, Dc (fun _ => False) w [c0, c1, c2, c3, c4, c5] d ∧
    w.cell? ⟨b, off + i * 6, none⟩ = some c0 ∧ w.cell? ⟨b, off + i * 6 + 1, none⟩ = some c1 ∧ w.cell? ⟨b, off + i * 6 + 2, none⟩ = some c2 ∧ w.cell? ⟨b, off + i * 6 + 3, none⟩ = some c3 ∧ w.cell? ⟨b, off + i * 6 + 4, none⟩ = some c4 ∧ w.cell? ⟨b, off + i * 6 + 5, none⟩ = some c5)
theorem Ns.below {w w' : World} {s : Value} {l : List Int} (h : Ns w s l) (hb : Below w.heap.size w w') : Ns w' s l := Nm.kept h (Kept.of_below hb)
theorem Ds.below {w w' : World} {s : Value} {D : List MD} (h : Ds w s D) (hb : Below w.heap.size w w') : Ds w' s D := by
  obtain ⟨a, c, e, h⟩ := h
  refine ⟨a, c, e, fun h0 => ?_⟩
  obtain ⟨b, off, e1, e2, e3⟩ := h h0
  refine ⟨b, off, e1, Nat.lt_of_lt_of_le e2 hb.size, fun i d hd => ?_⟩
  obtain ⟨c0, c1, c2, c3, c4, c5, h1, k0, k1, k2, k3, k4, k5⟩ := e3 i d hd
  exact ⟨c0, c1, c2, c3, c4, c5, h1.below hb, (hb.cell (p := ⟨b, _, none⟩) e2).trans k0, (hb.cell (p := ⟨b, _, none⟩) e2).trans k1, (hb.cell (p := ⟨b, _, none⟩) e2).trans k2, (hb.cell (p := ⟨b, _, none⟩) e2).trans k3, (hb.cell (p := ⟨b, _, none⟩) e2).trans k4, (hb.cell (p := ⟨b, _, none⟩) e2).trans k5⟩
/-- A variable that there is, and that has several values. -/
def openB (D : List MD) (v : Int) : Bool := decide (0 ≤ v) && decide (v < D.length) && (D[v.toNat]?.map sevB).getD false
/-- Those of some variables. -/
def openL (l : List Int) (D : List MD) : List Int := l.filter (openB D)
theorem openL_snoc (l : List Int) (D : List MD) (k : Nat) (v : Int) (h : l[k]? = some v) : openL (l.take (k + 1)) D = if openB D v then openL (l.take k) D ++ [v] else openL (l.take k) D := by
  unfold openL
  rw [List.take_add_one, h, List.filter_append]
  cases hv : openB D v <;> simp [List.filter, hv]
theorem openL_get (l : List Int) (D : List MD) (k : Nat) (v : Int) (h : l[k]? = some v) (hv : openB D v = true) : (openL l D)[(openL (l.take k) D).length]? = some v := by
  have h1 : l = l.take (k + 1) ++ l.drop (k + 1) := (List.take_append_drop _ _).symm
  have h2 := openL_snoc l D k v h
  rw [if_pos hv] at h2
  have h3 : openL l D = (openL (l.take k) D ++ [v]) ++ openL (l.drop (k + 1)) D := by
    rw [← h2]; unfold openL; rw [← List.filter_append, List.take_append_drop]
  rw [h3, List.getElem?_append_left (by simp), List.getElem?_append_right (Nat.le_refl _)]; simp
/-- What is captured. -/
structure OpK (B1 B2 : Nat) (s1 s2 : Value) (l : List Int) (D : List MD) (w : World) : Prop where
  a : w.cell? ⟨B1, 0, none⟩ = some s1
  n : Ns w s1 l
  b : w.cell? ⟨B2, 0, none⟩ = some s2
  d : Ds w s2 D
theorem OpK.below {B1 B2 : Nat} {s1 s2 : Value} {l : List Int} {D : List MD} {w w' : World} (h : OpK B1 B2 s1 s2 l D w) (hb : Below w.heap.size w w') : OpK B1 B2 s1 s2 l D w' :=
  ⟨(hb.cell (p := ⟨B1, 0, none⟩) (World.block_lt_of_cell? w ⟨B1, 0, none⟩ h.a)).trans h.a, h.n.below hb, (hb.cell (p := ⟨B2, 0, none⟩) (World.block_lt_of_cell? w ⟨B2, 0, none⟩ h.b)).trans h.b, h.d.below hb⟩
theorem Ns.shape {w : World} {s : Value} {l : List Int} (h : Ns w s l) : ∃ a c, s = .slice a l.length c := by obtain ⟨a, c, e, _⟩ := h; exact ⟨a, c, e⟩
theorem Ds.shape {w : World} {s : Value} {D : List MD} (h : Ds w s D) : ∃ a c, s = .slice a D.length c := by obtain ⟨a, c, e, _⟩ := h; exact ⟨a, c, e⟩

set_option maxRecDepth 100000 in
set_option maxHeartbeats 4000000 in
theorem open1_tells (B1 B2 : Nat) (s1 s2 : Value) (l : List Int) (D : List MD) (hD : ∀ d ∈ D, Good d) (hl : l.length ≤ 9223372036854775806) (hDl : D.length ≤ 9223372036854775806) :
    Tells Tryd.prog 32 #[.pointer (some ⟨B1, 0, none⟩), .pointer (some ⟨B2, 0, none⟩)] ((openL l D).map fun v => .int .i64 v) (OpK B1 B2 s1 s2 l D) := by
  intro n lr W J Jx hK hJK hJb hY h0
  have HJ : Hid _ := hJb
  have HY : Hid _ := hY
  have HJK : Hid _ := hJK
  have HG : Hid _ := hD
  have HJ0 : Hid (J 0 W) := h0
  clear hJb hY hJK h0 hD
  rw [show (#[Value.func (.yield lr) #[] #[]] ++ #[Value.pointer (some ⟨B1, 0, none⟩), Value.pointer (some ⟨B2, 0, none⟩)]) = #[.func (.yield lr) #[] #[], .pointer (some ⟨B1, 0, none⟩), .pointer (some ⟨B2, 0, none⟩)] from rfl]
  obtain ⟨hs1, hn1, hs2, hd2⟩ := hK
  obtain ⟨p1, k1, rfl⟩ := hn1.shape
  obtain ⟨p2, k2, rfl⟩ := hd2.shape
  obtain ⟨nl, hnl⟩ : ∃ m, l.length = m := ⟨_, rfl⟩
  obtain ⟨nd, hnd⟩ : ∃ m, D.length = m := ⟨_, rfl⟩
  have HNL : Hid (l.length = nl) := hnl
  have HND : Hid (D.length = nd) := hnd
  rw [hnl] at hs1 hl hn1 HJK
  rw [hnd] at hDl hd2 HJK
  have HNZ : Hid (0 < nl → ∃ b off, p1 = some ⟨b, off, none⟩) := fun h => by
    obtain ⟨a, c, e, hc⟩ := hn1
    obtain ⟨b, off, e1, _⟩ := hc (by omega)
    injection e with e2 _ _
    exact ⟨b, off, e2.trans e1⟩
  have HDZ : Hid (0 < nd → ∃ b off, p2 = some ⟨b, off, none⟩) := fun h => by
    obtain ⟨a, c, e, hc⟩ := hd2
    obtain ⟨b, off, e1, _⟩ := hc (by omega)
    injection e with e2 _ _
    exact ⟨b, off, e2.trans e1⟩
  clear hn1 hd2 hs2 hnl hnd
  refine callsIn_of_wp Tryd.func32 rfl trivial ?_ rfl
  simp only [Tryd.ntmps32, List.size_toArray, List.length_cons, List.length_nil, Nat.reduceAdd, Nat.reduceSub, Array.replicate_succ, Array.replicate_zero, List.push_toArray, List.append_toArray, List.nil_append, List.cons_append]
  gi_wp2
  gi_loopw [8] (fun i wr => ∃ k : Nat, i = .int .i64 (k : Int) ∧ k ≤ nl ∧ W.heap.size ≤ wr.heap.size ∧ Hid (J (openL (l.take k) D).length wr)) (fun i _ => nl - (intOf i).toNat)
  case atStart => exact ⟨0, rfl, Nat.zero_le _, Nat.le_refl _, by simpa [openL] using HJ0⟩
  case round =>
    obtain ⟨k, rfl, hk, hWr, HJk⟩ := hrel
    by_cases hlt : k < nl
    · have hlt' : (k : Int) < (nl : Int) := by omega
      have hwk : IntKind.i64.wrap ((k : Int) + 1) = (k : Int) + 1 := by rw [IntKind.wrap_i64]; omega
      obtain ⟨v, hv⟩ : ∃ v, l[k]? = some v := ⟨_, List.getElem?_eq_getElem (by rw [HNL.out]; exact hlt)⟩
      have HSN : Hid (openL (l.take (k + 1)) D = if openB D v then openL (l.take k) D ++ [v] else openL (l.take k) D) := openL_snoc l D k v hv
      obtain ⟨b1, off1, rfl⟩ := HNZ.out (by omega)
      have hKr := HJK.out _ _ HJk.out
      have hm1 : wr.cell? ⟨b1, off1 + k, none⟩ = some (.int .i64 v) := by
        obtain ⟨a, c, e, hc⟩ := hKr.n
        obtain ⟨b, off, rfl, _, _, hcc⟩ := hc (by rw [HNL.out]; omega)
        injection e with e1 _ _
        injection e1 with e1
        injection e1 with e2 e3
        subst e2 e3
        exact hcc k v hv
      have hs2 := hKr.b
      by_cases h1 : 0 ≤ v
      · have d1 : decide (0 ≤ v) = true := by simpa using h1
        by_cases h2 : v < (nd : Int)
        · have d2 : decide (v < (nd : Int)) = true := by simpa using h2
          obtain ⟨vn, rfl⟩ : ∃ m : Nat, v = (m : Int) := ⟨v.toNat, by omega⟩
          obtain ⟨d, hd⟩ : ∃ d, D[vn]? = some d := ⟨_, List.getElem?_eq_getElem (by rw [HND.out]; omega)⟩
          obtain ⟨b2, off2, rfl⟩ := HDZ.out (by omega)
          obtain ⟨c0, c1, c2, c3, c4, c5, hDc, g0, g1, g2, g3, g4, g5⟩ : ∃ c0 c1 c2 c3 c4 c5, Dc (fun _ => False) wr [c0, c1, c2, c3, c4, c5] d ∧
              wr.cell? ⟨b2, off2 + vn * 6, none⟩ = some c0 ∧ wr.cell? ⟨b2, off2 + vn * 6 + 1, none⟩ = some c1 ∧ wr.cell? ⟨b2, off2 + vn * 6 + 2, none⟩ = some c2 ∧ wr.cell? ⟨b2, off2 + vn * 6 + 3, none⟩ = some c3 ∧ wr.cell? ⟨b2, off2 + vn * 6 + 4, none⟩ = some c4 ∧ wr.cell? ⟨b2, off2 + vn * 6 + 5, none⟩ = some c5 := by
            obtain ⟨a, c, e, hc⟩ := hKr.d
            obtain ⟨b, off, rfl, _, hcc⟩ := hc (by rw [HND.out]; omega)
            injection e with e1 _ _
            injection e1 with e1
            injection e1 with e2 e3
            subst e2 e3
            exact hcc vn d hd
          have ks := several_any hDc (HG.out d (List.mem_of_getElem? hd))
          have HOB : Hid (openB D (vn : Int) = sevB d) := by
            unfold Hid openB
            rw [d1, show decide ((vn : Int) < (D.length : Int)) = true by rw [HND.out]; exact d2]
            simp [hd]
          rw [HOB.out] at HSN
          have HVV : Hid (l[k]? = some (vn : Int)) := hv
          have hone := hDc.one
          have hv2 : vn < nd := by omega
          clear hKr hv hd hDc
          cases hS : sevB d
          · rw [hS] at ks HSN
            gi_wp2
            refine ⟨trivial, (fun h => nomatch h), (callsIn_wide.2 ks).mono ?_⟩
            rintro e w1 ⟨rfl, hb1⟩
            have HJ1 : Hid (J (openL (l.take k) D).length w1) := HJ.out _ _ _ HJk.out hb1
            have hW1 : W.heap.size ≤ w1.heap.size := Nat.le_trans hWr hb1.size
            clear ks g0 g1 g2 g3 g4 g5
            gi_wp2
            refine ⟨(fun _ h => nomatch h), ?_⟩
            gi_wp2
            go_roundw
            case rel => exact ⟨k + 1, by go_num, by omega, hW1, by unfold Hid; rw [HSN.out]; exact HJ1.out⟩
            case measure => simp [intOf]; omega
          · rw [hS] at ks HSN HOB
            have HGE : Hid (((openL l D).map fun v => Value.int .i64 v)[(openL (l.take k) D).length]? = some (.int .i64 (vn : Int))) := by
              unfold Hid; rw [List.getElem?_map, openL_get l D k _ HVV.out HOB.out]; rfl
            gi_wp2
            refine ⟨trivial, (fun h => nomatch h), (callsIn_wide.2 ks).mono ?_⟩
            rintro e w1 ⟨rfl, hb1⟩
            have hW1 : W.heap.size ≤ w1.heap.size := Nat.le_trans hWr hb1.size
            obtain ⟨fn, tmps, assign, body, hy, hRd⟩ := HY.out (n - 1) _ _ w1 HGE.out hW1 (HJ.out _ _ _ HJk.out hb1)
            have HRD : Hid _ := hRd
            clear ks g0 g1 g2 g3 g4 g5 hRd
            gi_wp2
            refine ⟨(fun h => nomatch h), RoundIn.mono HRD.out ?_⟩
            rintro e w' ⟨(⟨rfl, hJ'⟩ | ⟨rfl, hJ'⟩), hka⟩
            · gi_wp2
              go_roundw
              case rel => exact ⟨k + 1, by go_num, by omega, Nat.le_trans hW1 hka.size, by unfold Hid; rw [HSN.out]; simpa using hJ'⟩
              case measure => simp [intOf]; omega
            · gi_wp2
              exact ⟨rfl, _, results_none rfl _ _ _, ⟨_, rfl⟩, .inr hJ'⟩
        · have d2 : decide (v < (nd : Int)) = false := by simpa using h2
          have HOB : Hid (openB D v = false) := by
            unfold Hid openB
            rw [show decide (v < (D.length : Int)) = false by rw [HND.out]; exact d2]
            simp
          rw [HOB.out] at HSN
          clear hKr hv
          gi_wp2
          refine ⟨trivial, ?_⟩
          gi_wp2
          refine ⟨(fun _ h => nomatch h), ?_⟩
          gi_wp2
          go_roundw
          case rel => exact ⟨k + 1, by go_num, by omega, hWr, by unfold Hid; rw [HSN.out]; exact HJk.out⟩
          case measure => simp [intOf]; omega
      · have d1 : decide (0 ≤ v) = false := by simpa using h1
        have HOB : Hid (openB D v = false) := by unfold Hid openB; rw [d1]; simp
        rw [HOB.out] at HSN
        clear hKr hv
        gi_wp2
        refine ⟨trivial, ?_⟩
        gi_wp2
        refine ⟨(fun _ h => nomatch h), ?_⟩
        gi_wp2
        go_roundw
        case rel => exact ⟨k + 1, by go_num, by omega, hWr, by unfold Hid; rw [HSN.out]; exact HJk.out⟩
        case measure => simp [intOf]; omega
    · have hlt' : ¬ (k : Int) < (nl : Int) := by omega
      have hfin : (∃ v, Ending.returned (Value.tuple #[]) = .returned v) ∧ (J (openL l D).length wr ∨ Jx wr) := ⟨⟨_, rfl⟩, .inl (by have := HJk.out; rw [List.take_of_length_le (by rw [HNL.out]; omega)] at this; exact this)⟩
      gi_wp2
      go_end0
      exact hfin

set_option maxRecDepth 100000 in
set_option maxHeartbeats 4000000 in
theorem openOf_any (p1 : Option Addr) (n1 k1 : Nat) (p2 : Option Addr) (n2 k2 : Nat) (W : World) : Calls Tryd.prog 21 #[.slice p1 n1 k1, .slice p2 n2 k2] W fun e w' => e = .returned (.func (.func 32) #[] #[.pointer (some ⟨W.heap.size, 0, none⟩), .pointer (some ⟨W.heap.size + 1, 0, none⟩)]) ∧ w' = (W.alloc (Obj.cells #[.slice p1 n1 k1] 22)).alloc (Obj.cells #[.slice p2 n2 k2] 41) := by
  have hmf : ∀ (fn : Fn) (first cap : Array Value) (w : World), (Instr.makeFunc fn first cap).run Tryd.prog w = .ok (.func fn first cap) w := fun _ _ _ _ => rfl
  go_enter Tryd.func21, Tryd.ntmps21
  go_wp2
  go_ret
  exact ⟨rfl, rfl⟩
end Go.Proofs.YtfcaemfledlnnaaDoor
