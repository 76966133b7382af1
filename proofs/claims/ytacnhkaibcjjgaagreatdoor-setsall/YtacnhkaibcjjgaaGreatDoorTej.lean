/-
  What is proved here: how a domain of sets that came in is opened. a slice of numbers that came in is no longer than a machine's memory. how a domain of sets that came in is opened, with its ranges and with how long its slices can be.
  What is proved here: what sets.Has tells of any domain and any list.
-/
import Derived.Test.YtacnhkaibcjjgaaGreatDoorCbj
import Derived.Test.YtacnhkaibcjjgaaGreatDoorPrj
import Derived.Test.YtacnhkaibcjjgaaGreatDoorTd
import Derived.Deep.SlicePairs
import Derived.Test.YtacnhkaibcjjgaaGreatDoorNa
namespace Go.Proofs.YtacnhkaibcjjgaaGreatDoor
open Go.ChangeShapes Go.WideShapes Go.ChangeAt Go.RowKit Go.Deep
set_option linter.unusedVariables false
set_option linter.unusedSimpArgs false

theorem array6 {α : Type} {cs : Array α} (h : cs.size = 6) : ∃ c0 c1 c2 c3 c4 c5, cs = #[c0, c1, c2, c3, c4, c5] := by
  obtain ⟨l⟩ := cs
  match l, h with
  | [c0, c1, c2, c3, c4, c5], _ => exact ⟨c0, c1, c2, c3, c4, c5, rfl⟩
theorem trod_struct6 {H : Type} {enc : TypeId × Value → H} {P : Program} {w : World} {base : Nat} {spare : Nat → Bool} {held : Bool} {t : TypeId} {f0 f1 f2 f3 f4 f5 : Field} {fuel : Nat} {cs : List Value} {x : DataW H × List MemPlace} (ht : P.underlying t = some (.struct #[f0, f1, f2, f3, f4, f5])) (h : DataW.trod enc P w base spare held fuel t cs = some x) :
    ∃ y0 y1 y2 y3 y4 y5 n, x = (.agg [y0.1, y1.1, y2.1, y3.1, y4.1, y5.1], y0.2 ++ (y1.2 ++ (y2.2 ++ (y3.2 ++ (y4.2 ++ y5.2))))) ∧ DataW.trod enc P w base spare held n f0.type ((cs.drop f0.offset).take (P.cellsOf f0.type)) = some y0 ∧
      DataW.trod enc P w base spare held n f1.type ((cs.drop f1.offset).take (P.cellsOf f1.type)) = some y1 ∧ DataW.trod enc P w base spare held n f2.type ((cs.drop f2.offset).take (P.cellsOf f2.type)) = some y2 ∧
      DataW.trod enc P w base spare held n f3.type ((cs.drop f3.offset).take (P.cellsOf f3.type)) = some y3 ∧ DataW.trod enc P w base spare held n f4.type ((cs.drop f4.offset).take (P.cellsOf f4.type)) = some y4 ∧ DataW.trod enc P w base spare held n f5.type ((cs.drop f5.offset).take (P.cellsOf f5.type)) = some y5 := by
  obtain ⟨xs, n, _, rfl, hl, hlen, hf⟩ := DataW.trod_struct ht h
  match xs, hlen with
  | [y0, y1, y2, y3, y4, y5], _ => exact ⟨y0, y1, y2, y3, y4, y5, n, by simp, by simpa using hf 0 f0 rfl, by simpa using hf 1 f1 rfl, by simpa using hf 2 f2 rfl, by simpa using hf 3 f3 rfl, by simpa using hf 4 f4 rfl, by simpa using hf 5 f5 rfl⟩
set_option maxRecDepth 100000
theorem cells37 : Tryz.prog.cellsOf 37 = 6 := by kernel_rfl
theorem dom_in {H : Type} {enc : TypeId × Value → H} {W : World} {v : Value} {d : DataW H} {p : List MemPlace} {r : Reach} {b0 : Nat} (hv : Value.okWide Tryz.prog W r b0 37 v)
    (h : ∃ fuel, DataW.trod enc Tryz.prog W 0 (fun _ => true) true fuel 37 v.cells.toList = some (d, p)) (lt0 : ∀ y ∈ p, y.block < W.heap.size) : ∃ D, Di W v D := by
  obtain ⟨cs, rfl, hcs⟩ := okWide_struct Tryz.underlying37 hv
  rw [cells37] at hcs
  obtain ⟨c0, c1, c2, c3, c4, c5, rfl⟩ := array6 hcs
  obtain ⟨fuel, hf⟩ := h
  obtain ⟨y0, y1, y2, y3, y4, y5, n, hx, g0, g1, g2, g3, g4, g5⟩ := trod_struct6 Tryz.underlying37 hf
  have e4 : Tryz.prog.cellsOf 4 = 1 := by kernel_rfl
  have e35 : Tryz.prog.cellsOf 35 = 1 := by kernel_rfl
  have e22 : Tryz.prog.cellsOf 22 = 1 := by kernel_rfl
  have e3 : Tryz.prog.cellsOf 3 = 1 := by kernel_rfl
  simp only [e4, e35, e22, e3, Value.cells, List.drop_zero, List.drop_succ_cons, List.take_succ_cons, List.take_zero] at g0 g1 g2 g3 g4 g5
  have hp : p = y0.2 ++ (y1.2 ++ (y2.2 ++ (y3.2 ++ (y4.2 ++ y5.2)))) := (Prod.mk.inj hx).2
  obtain ⟨b, hb, _⟩ := DataW.trod_bool Tryz.underlying4 g0
  obtain ⟨i, hi, _, _⟩ := DataW.trod_int Tryz.underlying3 g4
  obtain ⟨j, hj, _, _⟩ := DataW.trod_int Tryz.underlying3 g5
  have hs1 : ∃ a l c, c1 = .slice a l c := by
    rcases DataW.trod_slice Tryz.underlying35 g1 with ⟨e, _⟩ | ⟨a, len, cap, _, _, _, _, e, _⟩
    · exact ⟨_, _, _, by simpa using e⟩
    · exact ⟨_, _, _, by simpa using e⟩
  have hs2 : ∃ a l c, c2 = .slice a l c := by
    rcases DataW.trod_slice Tryz.underlying22 g2 with ⟨e, _⟩ | ⟨a, len, cap, _, _, _, _, e, _⟩
    · exact ⟨_, _, _, by simpa using e⟩
    · exact ⟨_, _, _, by simpa using e⟩
  have hs3 : ∃ a l c, c3 = .slice a l c := by
    rcases DataW.trod_slice Tryz.underlying22 g3 with ⟨e, _⟩ | ⟨a, len, cap, _, _, _, _, e, _⟩
    · exact ⟨_, _, _, by simpa using e⟩
    · exact ⟨_, _, _, by simpa using e⟩
  obtain ⟨a1, l1, k1, rfl⟩ := hs1
  obtain ⟨a2, l2, k2, rfl⟩ := hs2
  obtain ⟨a3, l3, k3, rfl⟩ := hs3
  obtain ⟨lo, hlo⟩ := ints_in (d := y2.1) (p := y2.2) ⟨n, g2⟩ (fun y hy => lt0 y (by rw [hp]; simp [hy]))
  obtain ⟨up, hup⟩ := ints_in (d := y3.1) (p := y3.2) ⟨n, g3⟩ (fun y hy => lt0 y (by rw [hp]; simp [hy]))
  simp only [List.cons.injEq, and_true] at hb hi hj
  subst hb hi hj
  exact ⟨⟨b, l1, lo, up, i, j⟩, a1, k1, _, _, rfl, hlo, hup⟩

theorem bytes2 : Tryz.prog.bytesOf 2 = 8 := by kernel_rfl
theorem ints_sized {H : Type} {enc : TypeId × Value → H} {W : World} {fuel : Nat} {a : Option Addr} {len cap : Nat} {d : DataW H} {pl : List MemPlace} {ts : List TypeId} {ds : List (DataW H)} (j : Nat)
    (h : DataW.trod enc Tryz.prog W 0 (fun _ => true) true fuel 22 (Value.slice a len cap).cells.toList = some (d, pl)) (hsz : (DataW.weightsEach Tryz.prog ts ds).all (· ≤ reachBytes) = true) (ht : ts[j]? = some 22) (hd : ds[j]? = some d) : len * 8 ≤ 140737488351232 := by
  rcases open_ints Tryz.underlying22 Tryz.underlying2 (by kernel_rfl) h with ⟨hcs, _⟩ | ⟨x, l, c, zs, hcs, _, hl, hm, hz, hx, hcell, hwz⟩
  · simp [Value.cells] at hcs
    obtain ⟨rfl, rfl, rfl⟩ := hcs
    decide
  · simp [Value.cells] at hcs
    obtain ⟨rfl, rfl, rfl⟩ := hcs
    simp only [Prod.mk.injEq] at hx
    simp only [if_true] at hz
    have hx' := hx.1
    have := sized_slice hsz ht (hd.trans (by rw [hx'])) Tryz.underlying22
    have hlen : (lits (H := H) .i64 (zs.take len)).length = len := by simp [lits]; omega
    rw [bytes2, hlen] at this
    simp only [reachBytes] at this
    omega

set_option maxRecDepth 100000
theorem bytes81 : Tryz.prog.bytesOf 81 = 16 := by kernel_rfl
theorem ranges_in {H : Type} {enc : TypeId × Value → H} {W : World} {fuel : Nat} {a : Option Addr} {len cap : Nat} {x : DataW H × List MemPlace}
    (h : DataW.trod enc Tryz.prog W 0 (fun _ => true) true fuel 35 [.slice a len cap] = some x) (hlt : ∀ y ∈ x.2, y.block < W.heap.size) : ∃ fr, Rr W (.slice a len cap) fr := by
  rcases open_slice_pairs Tryz.underlying35 Tryz.underlying81 (by kernel_rfl) rfl rfl (by kernel_rfl) (by kernel_rfl) h with ⟨hcs, _⟩ | ⟨ad, len', cap', m, n, V0, V1, D0, D1, P0, P1, hcs, _, hl, hm, hmm, hx, hcell⟩
  · simp at hcs
    obtain ⟨rfl, rfl, rfl⟩ := hcs
    exact ⟨[], none, 0, 0, rfl, rfl, fun h => absurd h (by decide)⟩
  · simp at hcs
    obtain ⟨rfl, rfl, rfl⟩ := hcs
    have hlm : len ≤ m := by rw [hmm]; split <;> omega
    have each : ∀ i, i < len → ∃ q : Int × Int, W.cell? (ad.add (i * 2)) = some (.int .i64 q.1) ∧ W.cell? (ad.add (i * 2 + 1)) = some (.int .i64 q.2) := by
      intro i hi
      obtain ⟨c0, c1, t0, t1⟩ := hcell i (by omega)
      obtain ⟨k0, e0, _, w0⟩ := DataW.trod_int Tryz.underlying2 t0
      obtain ⟨k1, e1, _, w1⟩ := DataW.trod_int Tryz.underlying2 t1
      simp at e0 e1
      rw [e0] at c0; rw [e1] at c1
      exact ⟨(k0, k1), c0, c1⟩
    obtain ⟨q, hq⟩ := choose_lt each
    refine ⟨(List.range (len * 2)).map fun i => if i % 2 = 0 then (q (i / 2)).1 else (q (i / 2)).2, some ad, len, cap, rfl, by simp, fun h0 => ?_⟩
    obtain ⟨b, off, spot⟩ := ad
    have hspot : spot = none := by simpa [Addr.add] using World.cell?_spot (hq 0 h0).1
    subst hspot
    have hbW : b < W.heap.size := hlt (.cell b off) (by rw [hx]; exact List.mem_append_left _ (MemPlace.mem_row.2 ⟨0, by omega, by simp⟩))
    refine ⟨b, off, rfl, hbW, fun i hi => ?_⟩
    have hn : nth ((List.range (len * 2)).map fun i => if i % 2 = 0 then (q (i / 2)).1 else (q (i / 2)).2) i = if i % 2 = 0 then (q (i / 2)).1 else (q (i / 2)).2 := by unfold nth; simp [hi]
    rw [hn]
    obtain ⟨h1, h2⟩ := hq (i / 2) (by omega)
    rw [Addr.add_lit] at h1 h2
    rcases Nat.mod_two_eq_zero_or_one i with hm2 | hm2
    · rw [if_pos hm2]
      rw [show i / 2 * 2 = i by omega] at h1
      exact h1
    · rw [if_neg (by omega)]
      rw [show i / 2 * 2 + 1 = i by omega] at h2
      exact h2
theorem ranges_sized {H : Type} {enc : TypeId × Value → H} {W : World} {fuel : Nat} {a : Option Addr} {len cap : Nat} {d : DataW H} {pl : List MemPlace} {ts : List TypeId} {ds : List (DataW H)} (j : Nat)
    (h : DataW.trod enc Tryz.prog W 0 (fun _ => true) true fuel 35 [.slice a len cap] = some (d, pl)) (hsz : (DataW.weightsEach Tryz.prog ts ds).all (· ≤ reachBytes) = true) (ht : ts[j]? = some 35) (hd : ds[j]? = some d) : len * 16 ≤ 140737488351232 := by
  rcases open_slice_pairs Tryz.underlying35 Tryz.underlying81 (by kernel_rfl) rfl rfl (by kernel_rfl) (by kernel_rfl) h with ⟨hcs, _⟩ | ⟨ad, len', cap', m, n, V0, V1, D0, D1, P0, P1, hcs, _, hl, hm, hmm, hx, hcell⟩
  · simp at hcs
    obtain ⟨rfl, rfl, rfl⟩ := hcs
    decide
  · simp at hcs
    obtain ⟨rfl, rfl, rfl⟩ := hcs
    simp only [Prod.mk.injEq] at hx
    have := sized_slice hsz ht (hd.trans (by rw [hx.1])) Tryz.underlying35
    rw [bytes81, List.length_map, List.length_range] at this
    simp only [reachBytes] at this
    omega
theorem dom_in2 {H : Type} {enc : TypeId × Value → H} {W : World} {v : Value} {d : DataW H} {p : List MemPlace} {r : Reach} {b0 : Nat} {ts : List TypeId} {ds : List (DataW H)} (j : Nat) (hv : Value.okWide Tryz.prog W r b0 37 v)
    (h : ∃ fuel, DataW.trod enc Tryz.prog W 0 (fun _ => true) true fuel 37 v.cells.toList = some (d, p)) (lt0 : ∀ y ∈ p, y.block < W.heap.size)
    (hsz : (DataW.weightsEach Tryz.prog ts ds).all (· ≤ reachBytes) = true) (ht : ts[j]? = some 37) (hd : ds[j]? = some d) : ∃ D fr, Dr W v D fr := by
  obtain ⟨cs, rfl, hcs⟩ := okWide_struct Tryz.underlying37 hv
  rw [cells37] at hcs
  obtain ⟨c0, c1, c2, c3, c4, c5, rfl⟩ := array6 hcs
  obtain ⟨fuel, hf⟩ := h
  obtain ⟨y0, y1, y2, y3, y4, y5, n, hx, g0, g1, g2, g3, g4, g5⟩ := trod_struct6 Tryz.underlying37 hf
  have e4 : Tryz.prog.cellsOf 4 = 1 := by kernel_rfl
  have e35 : Tryz.prog.cellsOf 35 = 1 := by kernel_rfl
  have e22 : Tryz.prog.cellsOf 22 = 1 := by kernel_rfl
  have e3 : Tryz.prog.cellsOf 3 = 1 := by kernel_rfl
  simp only [e4, e35, e22, e3, Value.cells, List.drop_zero, List.drop_succ_cons, List.take_succ_cons, List.take_zero] at g0 g1 g2 g3 g4 g5
  have hp : p = y0.2 ++ (y1.2 ++ (y2.2 ++ (y3.2 ++ (y4.2 ++ y5.2)))) := (Prod.mk.inj hx).2
  have hdd : d = .agg [y0.1, y1.1, y2.1, y3.1, y4.1, y5.1] := (Prod.mk.inj hx).1
  have hszD : (DataW.weightsEach Tryz.prog [4, 35, 22, 22, 3, 3] [y0.1, y1.1, y2.1, y3.1, y4.1, y5.1]).all (· ≤ reachBytes) = true := by
    rw [List.all_eq_true] at hsz ⊢
    intro k hk
    refine hsz k (DataW.weights_mem_each ht hd k ?_)
    rw [hdd]
    simp only [DataW.weights, Tryz.underlying37]
    exact hk
  obtain ⟨b, hb, _⟩ := DataW.trod_bool Tryz.underlying4 g0
  obtain ⟨i, hi, _, _⟩ := DataW.trod_int Tryz.underlying3 g4
  obtain ⟨k, hk, _, _⟩ := DataW.trod_int Tryz.underlying3 g5
  have hs1 : ∃ a l c, c1 = .slice a l c := by
    rcases DataW.trod_slice Tryz.underlying35 g1 with ⟨e, _⟩ | ⟨a, len, cap, _, _, _, _, e, _⟩
    · exact ⟨_, _, _, by simpa using e⟩
    · exact ⟨_, _, _, by simpa using e⟩
  have hs2 : ∃ a l c, c2 = .slice a l c := by
    rcases DataW.trod_slice Tryz.underlying22 g2 with ⟨e, _⟩ | ⟨a, len, cap, _, _, _, _, e, _⟩
    · exact ⟨_, _, _, by simpa using e⟩
    · exact ⟨_, _, _, by simpa using e⟩
  have hs3 : ∃ a l c, c3 = .slice a l c := by
    rcases DataW.trod_slice Tryz.underlying22 g3 with ⟨e, _⟩ | ⟨a, len, cap, _, _, _, _, e, _⟩
    · exact ⟨_, _, _, by simpa using e⟩
    · exact ⟨_, _, _, by simpa using e⟩
  obtain ⟨a1, l1, k1, rfl⟩ := hs1
  obtain ⟨a2, l2, k2, rfl⟩ := hs2
  obtain ⟨a3, l3, k3, rfl⟩ := hs3
  obtain ⟨lo, hlo⟩ := ints_in (d := y2.1) (p := y2.2) ⟨n, g2⟩ (fun y hy => lt0 y (by rw [hp]; simp [hy]))
  obtain ⟨up, hup⟩ := ints_in (d := y3.1) (p := y3.2) ⟨n, g3⟩ (fun y hy => lt0 y (by rw [hp]; simp [hy]))
  obtain ⟨fr, hfr⟩ := ranges_in g1 (fun y hy => lt0 y (by rw [hp]; simp [hy]))
  have z1 := ranges_sized (d := y1.1) (pl := y1.2) 1 g1 hszD rfl rfl
  have z2 := ints_sized (d := y2.1) (pl := y2.2) 2 g2 hszD rfl rfl
  have z3 := ints_sized (d := y3.1) (pl := y3.2) 3 g3 hszD rfl rfl
  simp only [List.cons.injEq, and_true] at hb hi hk
  subst hb hi hk
  have q2 : lo.length = l2 := by obtain ⟨_, _, e, _⟩ := hlo; injection e with _ e _; exact e.symm
  have q3 : up.length = l3 := by obtain ⟨_, _, e, _⟩ := hup; injection e with _ e _; exact e.symm
  exact ⟨⟨b, l1, lo, up, i, k⟩, fr, a1, k1, _, _, rfl, hlo, hup, hfr, by show lo.length * 8 ≤ _; omega, by show up.length * 8 ≤ _; omega, z1⟩
end Go.Proofs.YtacnhkaibcjjgaaGreatDoor

namespace Go.Proofs.YtacnhkaibcjjgaaGreatDoor
open Go.RowKit Go.Shelf
set_option linter.unusedVariables false
set_option linter.unusedSimpArgs false

set_option maxRecDepth 100000 in
set_option maxHeartbeats 4000000 in
theorem has_any (v s : Value) (d : SD) (l : List Int) (W : World) (h : Di W v d) (hl : Si W s l) :
    Calls Tryz.prog 44 #[v, s] W fun e w' => e = .returned (.bool (hasD d l)) ∧ Below W.heap.size W w' := by
  have k40 := fun X (hX : Below W.heap.size W X) => right_any v d X (h.below hX)
  have k61 := fun X (hX : Below W.heap.size W X) => known_any s l X (hl.below hX)
  obtain ⟨x0, ra, rn, rc, a1, n1, c1, a2, n2, c2, x4, x5, rfl, HE, HLO, HUP⟩ := h.look
  have k27a := fun q X (hX : Below W.heap.size W X) (hq : Si X q (tkS l)) => sub_any (.slice a1 n1 c1) q d.lo (tkS l) X (HLO.out.below hX) hq
  have k27b := fun q X (hX : Below W.heap.size W X) (hq : Si X q (tkS l)) => sub_any q (.slice a2 n2 c2) (tkS l) d.up X hq (HUP.out.below hX)
  simp only [tkS_yes (tkS_set l)] at k27a k27b
  obtain ⟨sa, ns, cs', rfl, HSL, HNL⟩ := si_look hl
  have hH : hasD d l = (rightD d && subB (tkS d.lo) (tkS l) && subB (tkS l) (tkS d.up) && decide (d.least ≤ (tkS l).length) && decide (((tkS l).length : Int) ≤ d.most)) := rfl
  rw [HE.out.2.2.2.1, HE.out.2.2.2.2.1] at hH
  generalize hasD d l = hd at hH ⊢
  generalize rightD d = r at k40 hH
  generalize subB (tkS d.lo) (tkS l) = s1 at k27a hH
  generalize subB (tkS l) (tkS d.up) = s2 at k27b hH
  obtain ⟨W0, hW0⟩ : ∃ X, W.alloc (Obj.cells #[.bool x0, .slice ra rn rc, .slice a1 n1 c1, .slice a2 n2 c2, .int .i64 x4, .int .i64 x5] 37) = X := ⟨_, rfl⟩
  have HW0 : Hid _ := hW0
  have hb0 : Below W.heap.size W W0 := by rw [← hW0]; exact (Below.refl _ W).alloc (Nat.le_refl _) _
  have HR0 : Hid (R6 W0 W.heap.size (.bool x0) (.slice ra rn rc) (.slice a1 n1 c1) (.slice a2 n2 c2) (.int .i64 x4) (.int .i64 x5)) := by rw [← hW0]; exact R6.new _ _ _ _ _ _ _
  clear hW0 h hl
  go_enter Tryz.func44, Tryz.ntmps44
  go_upto_region 1 with (fail)
  rw [HW0.out]
  go_wp2_with fail
  refine (k61 W0 hb0).mono ?_
  rintro e w1 ⟨a4, n4, c4, rfl, HS4, HN4, m1, hw1⟩
  have hb : Below W0.heap.size W0 w1 := by rw [hw1]; exact below_drewN (Below.refl _ _) _
  have hb1 : Below W.heap.size W w1 := hb0.trans (hb.mono hb0.size)
  have HR1 : Hid (R6 w1 W.heap.size (.bool x0) (.slice ra rn rc) (.slice a1 n1 c1) (.slice a2 n2 c2) (.int .i64 x4) (.int .i64 x5)) := HR0.out.below hb
  have HS : Hid (Si w1 (.slice a4 n4 c4) (tkS l)) := HS4.out.below hb
  rw [← HN4.out] at hH
  have HH : Hid _ := hH
  clear HR0 hb0 hb hw1 HS4 hH k61
  obtain ⟨z0, z1, z2, z3, z4, z5⟩ := HR1.out.cells
  cases r
  · go_wp2_with fail
    refine (k40 w1 hb1).mono ?_
    rintro e w2 ⟨rfl, hb⟩
    have hb2 : Below W.heap.size W w2 := hb1.trans (hb.mono hb1.size)
    have HR2 : Hid (R6 w2 W.heap.size (.bool x0) (.slice ra rn rc) (.slice a1 n1 c1) (.slice a2 n2 c2) (.int .i64 x4) (.int .i64 x5)) := HR1.out.below hb
    have HSb : Hid (Si w2 (.slice a4 n4 c4) (tkS l)) := HS.out.below hb
    clear HR1 hb1 HS
    clear z0 z1 z2 z3 z4 z5
    obtain ⟨z0, z1, z2, z3, z4, z5⟩ := HR2.out.cells
    go_wp2
    go_ret
    exact ⟨ret_bool (by rw [HH.out]; first | (simp; done) | (simp; omega)), hb2⟩
  · go_wp2_with fail
    refine (k40 w1 hb1).mono ?_
    rintro e w2 ⟨rfl, hb⟩
    have hb2 : Below W.heap.size W w2 := hb1.trans (hb.mono hb1.size)
    have HR2 : Hid (R6 w2 W.heap.size (.bool x0) (.slice ra rn rc) (.slice a1 n1 c1) (.slice a2 n2 c2) (.int .i64 x4) (.int .i64 x5)) := HR1.out.below hb
    have HSb : Hid (Si w2 (.slice a4 n4 c4) (tkS l)) := HS.out.below hb
    clear HR1 hb1 HS
    clear z0 z1 z2 z3 z4 z5
    obtain ⟨z0, z1, z2, z3, z4, z5⟩ := HR2.out.cells
    cases s1
    · go_wp2_with fail
      refine (k27a _ w2 hb2 HSb.out).mono ?_
      rintro e w3 ⟨rfl, hb⟩
      have hb3 : Below W.heap.size W w3 := hb2.trans (hb.mono hb2.size)
      have HR3 : Hid (R6 w3 W.heap.size (.bool x0) (.slice ra rn rc) (.slice a1 n1 c1) (.slice a2 n2 c2) (.int .i64 x4) (.int .i64 x5)) := HR2.out.below hb
      have HSc : Hid (Si w3 (.slice a4 n4 c4) (tkS l)) := HSb.out.below hb
      clear HR2 hb2 HSb
      clear z0 z1 z2 z3 z4 z5
      obtain ⟨z0, z1, z2, z3, z4, z5⟩ := HR3.out.cells
      go_wp2
      go_ret
      exact ⟨ret_bool (by rw [HH.out]; first | (simp; done) | (simp; omega)), hb3⟩
    · go_wp2_with fail
      refine (k27a _ w2 hb2 HSb.out).mono ?_
      rintro e w3 ⟨rfl, hb⟩
      have hb3 : Below W.heap.size W w3 := hb2.trans (hb.mono hb2.size)
      have HR3 : Hid (R6 w3 W.heap.size (.bool x0) (.slice ra rn rc) (.slice a1 n1 c1) (.slice a2 n2 c2) (.int .i64 x4) (.int .i64 x5)) := HR2.out.below hb
      have HSc : Hid (Si w3 (.slice a4 n4 c4) (tkS l)) := HSb.out.below hb
      clear HR2 hb2 HSb
      clear z0 z1 z2 z3 z4 z5
      obtain ⟨z0, z1, z2, z3, z4, z5⟩ := HR3.out.cells
      cases s2
      · go_wp2_with fail
        refine (k27b _ w3 hb3 HSc.out).mono ?_
        rintro e w4 ⟨rfl, hb⟩
        have hb4 : Below W.heap.size W w4 := hb3.trans (hb.mono hb3.size)
        have HR4 : Hid (R6 w4 W.heap.size (.bool x0) (.slice ra rn rc) (.slice a1 n1 c1) (.slice a2 n2 c2) (.int .i64 x4) (.int .i64 x5)) := HR3.out.below hb
        clear HR3 hb3 HSc
        clear z0 z1 z2 z3 z4 z5
        obtain ⟨z0, z1, z2, z3, z4, z5⟩ := HR4.out.cells
        go_wp2
        go_ret
        exact ⟨ret_bool (by rw [HH.out]; first | (simp; done) | (simp; omega)), hb4⟩
      · go_wp2_with fail
        refine (k27b _ w3 hb3 HSc.out).mono ?_
        rintro e w4 ⟨rfl, hb⟩
        have hb4 : Below W.heap.size W w4 := hb3.trans (hb.mono hb3.size)
        have HR4 : Hid (R6 w4 W.heap.size (.bool x0) (.slice ra rn rc) (.slice a1 n1 c1) (.slice a2 n2 c2) (.int .i64 x4) (.int .i64 x5)) := HR3.out.below hb
        clear HR3 hb3 HSc
        clear z0 z1 z2 z3 z4 z5
        obtain ⟨z0, z1, z2, z3, z4, z5⟩ := HR4.out.cells
        by_cases q1 : x4 ≤ (n4 : Int)
        · by_cases q2 : (n4 : Int) ≤ x5
          · go_wp2
            go_ret
            exact ⟨ret_bool (by rw [HH.out]; first | (simp [q1, q2]; done) | (simp; omega)), hb4⟩
          · go_wp2
            go_ret
            exact ⟨ret_bool (by rw [HH.out]; first | (simp [q1, q2]; done) | (simp; omega)), hb4⟩
        · go_wp2
          go_ret
          exact ⟨ret_bool (by rw [HH.out]; first | (simp [q1]; done) | (simp; omega)), hb4⟩
end Go.Proofs.YtacnhkaibcjjgaaGreatDoor
