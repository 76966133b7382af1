/-
  What is proved here: what the library's table reads as, and how a domain, a decision and a value that came in are opened.
-/
import Derived.Test.YthkliicmoandmaaGreatDoorCi
import Derived.Test.YthkliicmoandmaaGreatDoorRows
import Derived.Deep.SlicePairs
import Derived.Lib.LaidTab
import Derived.Lib.LaidU8
import Derived.SizedLaws
import Derived.WalkKit
import Derived.ProofKit
import Derived.LaidMore
import Derived.ChangeSlices
import Derived.ChangeOld
import Derived.OpenShut
import Derived.Stop.Joined
import Derived.Below
import Derived.Lay
namespace Go.Proofs.YthkliicmoandmaaGreatDoor
open Go.ChangeShapes Go.WideShapes Go.ChangeAt Go.RowKit Go.Deep
set_option linter.unusedVariables false
set_option linter.unusedSimpArgs false

theorem own : ownKnob Tryz.prog.godebug = none := by kernel_rfl
theorem laidOut : laidOutB Tryz.prog = true := by kernel_rfl
abbrev laidL : List (String × DataW Unit) := [("math/bits.deBruijn32tab", Rows.laid_math_bits_deBruijn32tab), ("math/bits.deBruijn64tab", Rows.laid_math_bits_deBruijn64tab), ("internal/strconv.uint64pow10", Rows.laid_internal_strconv_uint64pow10)]
theorem laid_plain (W : World) : laidMetH Tryz.prog laidL W = laidMet Tryz.prog laidL W := MakeChecks.laidMetH_plain _ _ _ (by kernel_rfl)
set_option maxRecDepth 100000 in
theorem door_met (os : Os) (args : Array Value) : laidMetH Tryz.prog laidL ((World.laidAll Tryz.prog os laidL).forCall (fun _ _ => 0) ⟨#[], args, []⟩).memory := by
  rw [laid_plain]
  exact laidMet_laidAll _ (by kernel_rfl) (by kernel_rfl)
theorem array6 {α : Type} {cs : Array α} (h : cs.size = 6) : ∃ c0 c1 c2 c3 c4 c5, cs = #[c0, c1, c2, c3, c4, c5] := by
  obtain ⟨l⟩ := cs
  match l, h with
  | [c0, c1, c2, c3, c4, c5], _ => exact ⟨c0, c1, c2, c3, c4, c5, rfl⟩
theorem trod_struct6 {H : Type} {enc : TypeId × Value → H} {P : Program} {w : World} {base : Nat} {spare : Nat → Bool} {held : Bool} {t : TypeId} {f0 f1 f2 f3 f4 f5 : Field} {fuel : Nat} {cs : List Value} {x : DataW H × List MemPlace} (ht : P.underlying t = some (.struct #[f0, f1, f2, f3, f4, f5])) (h : DataW.trod enc P w base spare held fuel t cs = some x) :
    ∃ y0 y1 y2 y3 y4 y5 n, x = (.agg [y0.1, y1.1, y2.1, y3.1, y4.1, y5.1], y0.2 ++ (y1.2 ++ (y2.2 ++ (y3.2 ++ (y4.2 ++ y5.2))))) ∧ DataW.trod enc P w base spare held n f0.type ((cs.drop f0.offset).take (P.cellsOf f0.type)) = some y0 ∧
      DataW.trod enc P w base spare held n f1.type ((cs.drop f1.offset).take (P.cellsOf f1.type)) = some y1 ∧ DataW.trod enc P w base spare held n f2.type ((cs.drop f2.offset).take (P.cellsOf f2.type)) = some y2 ∧
      DataW.trod enc P w base spare held n f3.type ((cs.drop f3.offset).take (P.cellsOf f3.type)) = some y3 ∧ DataW.trod enc P w base spare held n f4.type ((cs.drop f4.offset).take (P.cellsOf f4.type)) = some y4 ∧ DataW.trod enc P w base spare held n f5.type ((cs.drop f5.offset).take (P.cellsOf f5.type)) = some y5 := by
  obtain ⟨xs, n, _, rfl, hl, hlen, hf⟩ := DataW.trod_struct ht h
  match xs, hlen with
  | [y0, y1, y2, y3, y4, y5], _ => exact ⟨y0, y1, y2, y3, y4, y5, n, by simp, by simpa using hf 0 f0 rfl, by simpa using hf 1 f1 rfl, by simpa using hf 2 f2 rfl, by simpa using hf 3 f3 rfl, by simpa using hf 4 f4 rfl, by simpa using hf 5 f5 rfl⟩
theorem array3 {α : Type} {cs : Array α} (h : cs.size = 3) : ∃ c0 c1 c2, cs = #[c0, c1, c2] := by
  obtain ⟨l⟩ := cs
  match l, h with
  | [c0, c1, c2], _ => exact ⟨c0, c1, c2, rfl⟩
theorem trod_struct3 {H : Type} {enc : TypeId × Value → H} {P : Program} {w : World} {base : Nat} {spare : Nat → Bool} {held : Bool} {t : TypeId} {f0 f1 f2 : Field} {fuel : Nat} {cs : List Value} {x : DataW H × List MemPlace} (ht : P.underlying t = some (.struct #[f0, f1, f2])) (h : DataW.trod enc P w base spare held fuel t cs = some x) :
    ∃ y0 y1 y2 n, x = (.agg [y0.1, y1.1, y2.1], y0.2 ++ (y1.2 ++ y2.2)) ∧ DataW.trod enc P w base spare held n f0.type ((cs.drop f0.offset).take (P.cellsOf f0.type)) = some y0 ∧
      DataW.trod enc P w base spare held n f1.type ((cs.drop f1.offset).take (P.cellsOf f1.type)) = some y1 ∧ DataW.trod enc P w base spare held n f2.type ((cs.drop f2.offset).take (P.cellsOf f2.type)) = some y2 := by
  obtain ⟨xs, n, _, rfl, hl, hlen, hf⟩ := DataW.trod_struct ht h
  match xs, hlen with
  | [y0, y1, y2], _ => exact ⟨y0, y1, y2, n, by simp, by simpa using hf 0 f0 rfl, by simpa using hf 1 f1 rfl, by simpa using hf 2 f2 rfl⟩
set_option maxRecDepth 100000
theorem cells50 : Tryz.prog.cellsOf 50 = 6 := by kernel_rfl
theorem ints_in {H : Type} {enc : TypeId × Value → H} {W : World} {a : Option Addr} {len cap : Nat} {d : DataW H} {p : List MemPlace}
    (h : ∃ fuel, DataW.trod enc Tryz.prog W 0 (fun _ => true) true fuel 48 (Value.slice a len cap).cells.toList = some (d, p)) (lt0 : ∀ y ∈ p, y.block < W.heap.size) : ∃ l, St.Si W (.slice a len cap) l := by
  obtain ⟨fuel, hf⟩ := h
  rcases open_ints Tryz.underlying48 Tryz.underlying2 (by kernel_rfl) hf with ⟨hcs, _⟩ | ⟨x, l, c, zs, hcs, _, hl, hm, hz, hx, hcell, hwz⟩
  · simp [Value.cells] at hcs
    obtain ⟨rfl, rfl, rfl⟩ := hcs
    exact ⟨[], ⟨none, 0, rfl, fun h => absurd h (by decide)⟩⟩
  · simp [Value.cells] at hcs
    obtain ⟨rfl, rfl, rfl⟩ := hcs
    simp only [Prod.mk.injEq] at hx
    simp only [if_true] at hz
    have hlen : (zs.take len).length = len := by rw [List.length_take]; omega
    refine ⟨zs.take len, ⟨some x, cap, by rw [hlen], fun h => ?_⟩⟩
    rw [hlen] at h
    obtain ⟨b, off, spot⟩ := x
    have hspot : spot = none := by simpa [Addr.add] using World.cell?_spot (hcell 0 (by omega))
    subst hspot
    have hbW : b < W.heap.size := lt0 (.cell b off) (by rw [hx.2]; exact MemPlace.mem_row.2 ⟨0, by omega, by simp⟩)
    refine ⟨b, off, rfl, hbW, fun i hi => ?_⟩
    rw [hlen] at hi
    unfold St.nth
    rw [List.getD_eq_getElem?_getD, List.getElem?_take_of_lt hi]
    have := hcell i (by omega)
    rw [List.getD_eq_getElem?_getD, Addr.add_lit] at this
    exact this
theorem bytes2 : Tryz.prog.bytesOf 2 = 8 := by kernel_rfl
theorem ints_sized {H : Type} {enc : TypeId × Value → H} {W : World} {fuel : Nat} {a : Option Addr} {len cap : Nat} {d : DataW H} {pl : List MemPlace} {ts : List TypeId} {ds : List (DataW H)} (j : Nat)
    (h : DataW.trod enc Tryz.prog W 0 (fun _ => true) true fuel 48 (Value.slice a len cap).cells.toList = some (d, pl)) (hsz : (DataW.weightsEach Tryz.prog ts ds).all (· ≤ reachBytes) = true) (ht : ts[j]? = some 48) (hd : ds[j]? = some d) : len * 8 ≤ 140737488351232 := by
  rcases open_ints Tryz.underlying48 Tryz.underlying2 (by kernel_rfl) h with ⟨hcs, _⟩ | ⟨x, l, c, zs, hcs, _, hl, hm, hz, hx, hcell, hwz⟩
  · simp [Value.cells] at hcs
    obtain ⟨rfl, rfl, rfl⟩ := hcs
    decide
  · simp [Value.cells] at hcs
    obtain ⟨rfl, rfl, rfl⟩ := hcs
    simp only [Prod.mk.injEq] at hx
    simp only [if_true] at hz
    have hx' := hx.1
    have := sized_slice hsz ht (hd.trans (by rw [hx'])) Tryz.underlying48
    have hlen : (lits (H := H) .i64 (zs.take len)).length = len := by simp [lits]; omega
    rw [bytes2, hlen] at this
    simp only [reachBytes] at this
    omega

theorem bytes92 : Tryz.prog.bytesOf 92 = 16 := by kernel_rfl
theorem ranges_in {H : Type} {enc : TypeId × Value → H} {W : World} {fuel : Nat} {a : Option Addr} {len cap : Nat} {x : DataW H × List MemPlace}
    (h : DataW.trod enc Tryz.prog W 0 (fun _ => true) true fuel 47 [.slice a len cap] = some x) (hlt : ∀ y ∈ x.2, y.block < W.heap.size) : ∃ fr, St.Rr W (.slice a len cap) fr ∧ ∀ i, i < len * 2 → Dm.Fits (St.nth fr i) := by
  rcases open_slice_pairs Tryz.underlying47 Tryz.underlying92 (by kernel_rfl) rfl rfl (by kernel_rfl) (by kernel_rfl) h with ⟨hcs, _⟩ | ⟨ad, len', cap', m, n, V0, V1, D0, D1, P0, P1, hcs, _, hl, hm, hmm, hx, hcell⟩
  · simp at hcs
    obtain ⟨rfl, rfl, rfl⟩ := hcs
    exact ⟨[], ⟨none, 0, 0, rfl, rfl, fun h => absurd h (by decide)⟩, fun i hi => absurd hi (by omega)⟩
  · simp at hcs
    obtain ⟨rfl, rfl, rfl⟩ := hcs
    have hlm : len ≤ m := by rw [hmm]; split <;> omega
    have each : ∀ i, i < len → ∃ q : Int × Int, W.cell? (ad.add (i * 2)) = some (.int .i64 q.1) ∧ W.cell? (ad.add (i * 2 + 1)) = some (.int .i64 q.2) ∧ Dm.Fits q.1 ∧ Dm.Fits q.2 := by
      intro i hi
      obtain ⟨c0, c1, t0, t1⟩ := hcell i (by omega)
      obtain ⟨k0, e0, _, w0⟩ := DataW.trod_int Tryz.underlying2 t0
      obtain ⟨k1, e1, _, w1⟩ := DataW.trod_int Tryz.underlying2 t1
      simp at e0 e1
      rw [e0] at c0; rw [e1] at c1
      exact ⟨(k0, k1), c0, c1, bounds_i64 w0, bounds_i64 w1⟩
    obtain ⟨q, hq⟩ := choose_lt each
    have hn : ∀ i, i < len * 2 → St.nth ((List.range (len * 2)).map fun i => if i % 2 = 0 then (q (i / 2)).1 else (q (i / 2)).2) i = if i % 2 = 0 then (q (i / 2)).1 else (q (i / 2)).2 := fun i hi => by unfold St.nth; simp [hi]
    refine ⟨(List.range (len * 2)).map fun i => if i % 2 = 0 then (q (i / 2)).1 else (q (i / 2)).2, ⟨some ad, len, cap, rfl, by simp, fun h0 => ?_⟩, fun i hi => ?_⟩
    · obtain ⟨b, off, spot⟩ := ad
      have hspot : spot = none := by simpa [Addr.add] using World.cell?_spot (hq 0 h0).1
      subst hspot
      have hbW : b < W.heap.size := hlt (.cell b off) (by rw [hx]; exact List.mem_append_left _ (MemPlace.mem_row.2 ⟨0, by omega, by simp⟩))
      refine ⟨b, off, rfl, hbW, fun i hi => ?_⟩
      rw [hn i hi]
      obtain ⟨h1, h2, _, _⟩ := hq (i / 2) (by omega)
      rw [Addr.add_lit] at h1 h2
      rcases Nat.mod_two_eq_zero_or_one i with hm2 | hm2
      · rw [if_pos hm2]
        rw [show i / 2 * 2 = i by omega] at h1
        exact h1
      · rw [if_neg (by omega)]
        rw [show i / 2 * 2 + 1 = i by omega] at h2
        exact h2
    · rw [hn i hi]
      obtain ⟨_, _, h1, h2⟩ := hq (i / 2) (by omega)
      split
      · exact h1
      · exact h2
theorem ranges_sized {H : Type} {enc : TypeId × Value → H} {W : World} {fuel : Nat} {a : Option Addr} {len cap : Nat} {d : DataW H} {pl : List MemPlace} {ts : List TypeId} {ds : List (DataW H)} (j : Nat)
    (h : DataW.trod enc Tryz.prog W 0 (fun _ => true) true fuel 47 [.slice a len cap] = some (d, pl)) (hsz : (DataW.weightsEach Tryz.prog ts ds).all (· ≤ reachBytes) = true) (ht : ts[j]? = some 47) (hd : ds[j]? = some d) : len * 16 ≤ 140737488351232 := by
  rcases open_slice_pairs Tryz.underlying47 Tryz.underlying92 (by kernel_rfl) rfl rfl (by kernel_rfl) (by kernel_rfl) h with ⟨hcs, _⟩ | ⟨ad, len', cap', m, n, V0, V1, D0, D1, P0, P1, hcs, _, hl, hm, hmm, hx, hcell⟩
  · simp at hcs
    obtain ⟨rfl, rfl, rfl⟩ := hcs
    decide
  · simp at hcs
    obtain ⟨rfl, rfl, rfl⟩ := hcs
    simp only [Prod.mk.injEq] at hx
    have := sized_slice hsz ht (hd.trans (by rw [hx.1])) Tryz.underlying47
    rw [bytes92, List.length_map, List.length_range] at this
    simp only [reachBytes] at this
    omega
theorem dom_in2 {H : Type} {enc : TypeId × Value → H} {W : World} {v : Value} {d : DataW H} {p : List MemPlace} {r : Reach} {b0 : Nat} {ts : List TypeId} {ds : List (DataW H)} (j : Nat) (hv : Value.okWide Tryz.prog W r b0 50 v)
    (h : ∃ fuel, DataW.trod enc Tryz.prog W 0 (fun _ => true) true fuel 50 v.cells.toList = some (d, p)) (lt0 : ∀ y ∈ p, y.block < W.heap.size)
    (hsz : (DataW.weightsEach Tryz.prog ts ds).all (· ≤ reachBytes) = true) (ht : ts[j]? = some 50) (hd : ds[j]? = some d) : ∃ D fr, St.Dr W v D fr ∧ ∀ i, i < D.rn * 2 → Dm.Fits (St.nth fr i) := by
  obtain ⟨cs, rfl, hcs⟩ := okWide_struct Tryz.underlying50 hv
  rw [cells50] at hcs
  obtain ⟨c0, c1, c2, c3, c4, c5, rfl⟩ := array6 hcs
  obtain ⟨fuel, hf⟩ := h
  obtain ⟨y0, y1, y2, y3, y4, y5, n, hx, g0, g1, g2, g3, g4, g5⟩ := trod_struct6 Tryz.underlying50 hf
  have e4 : Tryz.prog.cellsOf 4 = 1 := by kernel_rfl
  have e47 : Tryz.prog.cellsOf 47 = 1 := by kernel_rfl
  have e48 : Tryz.prog.cellsOf 48 = 1 := by kernel_rfl
  have e3 : Tryz.prog.cellsOf 3 = 1 := by kernel_rfl
  simp only [e4, e47, e48, e3, Value.cells, List.drop_zero, List.drop_succ_cons, List.take_succ_cons, List.take_zero] at g0 g1 g2 g3 g4 g5
  have hp : p = y0.2 ++ (y1.2 ++ (y2.2 ++ (y3.2 ++ (y4.2 ++ y5.2)))) := (Prod.mk.inj hx).2
  have hdd : d = .agg [y0.1, y1.1, y2.1, y3.1, y4.1, y5.1] := (Prod.mk.inj hx).1
  have hszD : (DataW.weightsEach Tryz.prog [4, 47, 48, 48, 3, 3] [y0.1, y1.1, y2.1, y3.1, y4.1, y5.1]).all (· ≤ reachBytes) = true := by
    rw [List.all_eq_true] at hsz ⊢
    intro k hk
    refine hsz k (DataW.weights_mem_each ht hd k ?_)
    rw [hdd]
    simp only [DataW.weights, Tryz.underlying50]
    exact hk
  obtain ⟨b, hb, _⟩ := DataW.trod_bool Tryz.underlying4 g0
  obtain ⟨i, hi, _, _⟩ := DataW.trod_int Tryz.underlying3 g4
  obtain ⟨k, hk, _, _⟩ := DataW.trod_int Tryz.underlying3 g5
  have hs1 : ∃ a l c, c1 = .slice a l c := by
    rcases DataW.trod_slice Tryz.underlying47 g1 with ⟨e, _⟩ | ⟨a, len, cap, _, _, _, _, e, _⟩
    · exact ⟨_, _, _, by simpa using e⟩
    · exact ⟨_, _, _, by simpa using e⟩
  have hs2 : ∃ a l c, c2 = .slice a l c := by
    rcases DataW.trod_slice Tryz.underlying48 g2 with ⟨e, _⟩ | ⟨a, len, cap, _, _, _, _, e, _⟩
    · exact ⟨_, _, _, by simpa using e⟩
    · exact ⟨_, _, _, by simpa using e⟩
  have hs3 : ∃ a l c, c3 = .slice a l c := by
    rcases DataW.trod_slice Tryz.underlying48 g3 with ⟨e, _⟩ | ⟨a, len, cap, _, _, _, _, e, _⟩
    · exact ⟨_, _, _, by simpa using e⟩
    · exact ⟨_, _, _, by simpa using e⟩
  obtain ⟨a1, l1, k1, rfl⟩ := hs1
  obtain ⟨a2, l2, k2, rfl⟩ := hs2
  obtain ⟨a3, l3, k3, rfl⟩ := hs3
  obtain ⟨lo, hlo⟩ := ints_in (d := y2.1) (p := y2.2) ⟨n, g2⟩ (fun y hy => lt0 y (by rw [hp]; simp [hy]))
  obtain ⟨up, hup⟩ := ints_in (d := y3.1) (p := y3.2) ⟨n, g3⟩ (fun y hy => lt0 y (by rw [hp]; simp [hy]))
  obtain ⟨fr, hfr, hfit⟩ := ranges_in g1 (fun y hy => lt0 y (by rw [hp]; simp [hy]))
  have z1 := ranges_sized (d := y1.1) (pl := y1.2) 1 g1 hszD rfl rfl
  have z2 := ints_sized (d := y2.1) (pl := y2.2) 2 g2 hszD rfl rfl
  have z3 := ints_sized (d := y3.1) (pl := y3.2) 3 g3 hszD rfl rfl
  simp only [List.cons.injEq, and_true] at hb hi hk
  subst hb hi hk
  have q2 : lo.length = l2 := by obtain ⟨_, _, e, _⟩ := hlo; injection e with _ e _; exact e.symm
  have q3 : up.length = l3 := by obtain ⟨_, _, e, _⟩ := hup; injection e with _ e _; exact e.symm
  exact ⟨⟨b, l1, lo, up, i, k⟩, fr, ⟨a1, k1, _, _, rfl, hlo, hup, hfr, by show lo.length * 8 ≤ _; omega, by show up.length * 8 ≤ _; omega, z1⟩, hfit⟩
theorem cells35 : Tryz.prog.cellsOf 35 = 3 := by kernel_rfl
theorem cells52 : Tryz.prog.cellsOf 52 = 3 := by kernel_rfl
theorem dec_in {H : Type} {enc : TypeId × Value → H} {W : World} {v : Value} {d : DataW H} {p : List MemPlace} {r : Reach} {b0 : Nat} (hv : Value.okWide Tryz.prog W r b0 35 v)
    (h : ∃ fuel, DataW.trod enc Tryz.prog W 0 (fun _ => true) true fuel 35 v.cells.toList = some (d, p)) : ∃ x y z, v = .agg #[.int .i64 x, .int .i64 y, .int .i64 z] ∧ Dm.Fits x ∧ Dm.Fits y ∧ Dm.Fits z := by
  obtain ⟨cs, rfl, hcs⟩ := okWide_struct Tryz.underlying35 hv
  rw [cells35] at hcs
  obtain ⟨c0, c1, c2, rfl⟩ := array3 hcs
  obtain ⟨fuel, hf⟩ := h
  obtain ⟨y0, y1, y2, n, hx, g0, g1, g2⟩ := trod_struct3 Tryz.underlying35 hf
  have e3 : Tryz.prog.cellsOf 3 = 1 := by kernel_rfl
  have e2 : Tryz.prog.cellsOf 2 = 1 := by kernel_rfl
  simp only [e2, e3, Value.cells, List.drop_zero, List.drop_succ_cons, List.take_succ_cons, List.take_zero] at g0 g1 g2
  obtain ⟨i, hi, _, w0⟩ := DataW.trod_int Tryz.underlying3 g0
  obtain ⟨j, hj, _, w1⟩ := DataW.trod_int Tryz.underlying3 g1
  obtain ⟨k, hk, _, w2⟩ := DataW.trod_int Tryz.underlying2 g2
  simp only [List.cons.injEq, and_true] at hi hj hk
  subst hi hj hk
  exact ⟨i, j, k, rfl, bounds_i64 w0, bounds_i64 w1, bounds_i64 w2⟩
theorem val_in {H : Type} {enc : TypeId × Value → H} {W : World} {v : Value} {d : DataW H} {p : List MemPlace} {r : Reach} {b0 : Nat} (hv : Value.okWide Tryz.prog W r b0 52 v)
    (h : ∃ fuel, DataW.trod enc Tryz.prog W 0 (fun _ => true) true fuel 52 v.cells.toList = some (d, p)) (lt0 : ∀ y ∈ p, y.block < W.heap.size) : ∃ (k : List Value) (st : Bool) (vn : Int) (vs : List Int), v = .agg k.toArray ∧ Vc W k st vn vs := by
  obtain ⟨cs, rfl, hcs⟩ := okWide_struct Tryz.underlying52 hv
  rw [cells52] at hcs
  obtain ⟨c0, c1, c2, rfl⟩ := array3 hcs
  obtain ⟨fuel, hf⟩ := h
  obtain ⟨y0, y1, y2, n, hx, g0, g1, g2⟩ := trod_struct3 Tryz.underlying52 hf
  have e4 : Tryz.prog.cellsOf 4 = 1 := by kernel_rfl
  have e2 : Tryz.prog.cellsOf 2 = 1 := by kernel_rfl
  have e48 : Tryz.prog.cellsOf 48 = 1 := by kernel_rfl
  simp only [e4, e2, e48, Value.cells, List.drop_zero, List.drop_succ_cons, List.take_succ_cons, List.take_zero] at g0 g1 g2
  have hp : p = y0.2 ++ (y1.2 ++ y2.2) := (Prod.mk.inj hx).2
  obtain ⟨b, hb, _⟩ := DataW.trod_bool Tryz.underlying4 g0
  obtain ⟨j, hj, _, _⟩ := DataW.trod_int Tryz.underlying2 g1
  have hs : ∃ a l c, c2 = .slice a l c := by
    rcases DataW.trod_slice Tryz.underlying48 g2 with ⟨e, _⟩ | ⟨a, len, cap, _, _, _, _, e, _⟩
    · exact ⟨_, _, _, by simpa using e⟩
    · exact ⟨_, _, _, by simpa using e⟩
  obtain ⟨a, l, k, rfl⟩ := hs
  obtain ⟨vs, hvs⟩ := ints_in (d := y2.1) (p := y2.2) ⟨n, g2⟩ (fun y hy => lt0 y (by rw [hp]; simp [hy]))
  simp only [List.cons.injEq, and_true] at hb hj
  subst hb hj
  have ql : vs.length = l := by obtain ⟨_, _, e, _⟩ := hvs; injection e with _ e _; exact e.symm
  subst ql
  exact ⟨[_, _, _], b, j, vs, rfl, a, k, rfl, hvs⟩
theorem fits_rgs {n : Nat} {fr : List Int} (h : ∀ i, i < n * 2 → Dm.Fits (St.nth fr i)) : Dm.FitsR (rgs n fr) := by
  intro i hi
  rw [rgs_len] at hi
  rw [rgs_lo _ _ _ hi, rgs_hi _ _ _ hi]
  exact ⟨h _ (by omega), h _ (by omega)⟩
end Go.Proofs.YthkliicmoandmaaGreatDoor
