/-
  What is proved here: the first phase that has open variables.
  What is proved here: which variable a selector takes: offer, rank, ends.
  What is proved here: the iterator of slices.Values; branch.Open; marks of many ranges.
-/
import Derived.Test.YthkliicmoandmaaGreatDoorBcj
import Derived.WalkSmall
import Derived.Deep.RegionHeld3
namespace Go.Proofs.YthkliicmoandmaaGreatDoor
open Go.RowKit Go.Shelf
set_option linter.unusedVariables false
set_option linter.unusedSimpArgs false

attribute [local go_sem] Oper.semAt_some
/-- A function that holds a label, inside the wide fence. -/
theorem wpIn_scope_wide {n : Nat} {P : Program} {c : Code} {Q : Exit → Act → World → Prop} {a : Act} {w : World} (h : c.wpIn Fence.wide n P (Exit.noGoto Q) a w) : (Code.scope c).wpIn Fence.wide n P Q a w :=
  wpIn_wide.2 (wp_scope_straight (wpIn_wide.1 h))
theorem KA.set {w : World} {g : Nat} {cs : Array Value} {t : TypeId} (h : Bx w g cs t) (B o : Nat) (v : Value) : KA B w (w.setCell ⟨g, o, none⟩ v) :=
  ⟨by simp [World.setCell], fun k ob _ hc hk => (Below.heap_setCell w ⟨g, o, none⟩ v k (fun e => by have e' : k = g := e; subst e'; rw [h.h] at hk; cases hk; simp [Obj.isCells] at hc)).trans hk⟩

set_option maxRecDepth 100000 in
set_option maxHeartbeats 4000000 in
theorem next_first {W : World} {b off n c : Nat} {pv : Option Addr} {nv kv : Nat} {sel val : Int} {p2 : Option Addr} {nd k2 : Nat} {l : List Int} {D : List MD} (hn : 0 < n) (h0 : W.cell? ⟨b, off, none⟩ = some (.slice pv nv kv)) (h1 : W.cell? ⟨b, off + 1, none⟩ = some (.int .i64 sel)) (h2 : W.cell? ⟨b, off + 2, none⟩ = some (.int .i64 val))
    (hv : Ns W (.slice pv nv kv) l) (hd : Ds W (.slice p2 nd k2) D) (hD : ∀ d ∈ D, Good d) (hl : l.length * 8 ≤ 140737488355328) (hDl : D.length ≤ 9223372036854775806) (ho : openL l D ≠ []) :
    Calls Tryz.prog 38 #[.slice (some ⟨b, off, none⟩) n c, .slice p2 nd k2] W fun e w' => ∃ v, e = .returned (.agg #[v, .int .i64 sel, .int .i64 val]) ∧ Oi W.heap.size w' v (openL l D) ∧ Below W.heap.size W w' := by
  refine (callsIn_wide (n := 6)).1 ?_
  refine callsIn_of_wp_marks Tryz.func38 rfl trivial ?_ rfl
  simp only [Tryz.ntmps38, List.size_toArray, List.length_cons, List.length_nil, Nat.reduceAdd, Nat.reduceSub, Array.replicate_succ, Array.replicate_zero, List.push_toArray, List.append_toArray, List.nil_append, List.cons_append]
  have HV : Hid (Ns W (.slice pv nv kv) l) := hv
  have HD : Hid (Ds W (.slice p2 nd k2) D) := hd
  have HG : Hid _ := hD
  have HO : Hid _ := ho
  have HL : Hid _ := hl
  have HDL : Hid _ := hDl
  have hn' : (0 : Int) < (n : Int) := by omega
  clear hv hd hD ho hl hDl
  obtain ⟨N, hN⟩ : ∃ N, W.heap.size = N := ⟨_, rfl⟩
  obtain ⟨W0, hW0⟩ : ∃ Q, (W.alloc (Obj.cells #[.slice none 0 0, .int .i64 0, .int .i64 0] 71)).alloc (Obj.cells #[.slice none 0 0, .int .i64 0, .int .i64 0] 71) = Q := ⟨_, rfl⟩
  have hb0 : Below N W W0 := by rw [← hW0, ← hN]; exact ((Below.refl _ W).alloc (Nat.le_refl _) _).alloc (by simp) _
  have HB0 : Hid (Below N W W0) := hb0
  have b4 : Bx W0 N #[.slice none 0 0, .int .i64 0, .int .i64 0] 71 := by rw [← hW0]; exact (Bx.new' hN _ _).alloc _
  have b5 : Bx W0 (N + 1) #[.slice none 0 0, .int .i64 0, .int .i64 0] 71 := by rw [← hW0]; exact Bx.new' (by simp [hN]) _ _
  have B4 : Hid _ := b4
  have B5 : Hid _ := b5
  have HS0 : Hid (W0.heap.size = N + 2) := by unfold Hid; rw [← hW0]; simp [hN]
  have hbl : b < N := by rw [← hN]; exact World.block_lt_of_cell? W ⟨b, off, none⟩ h0
  have g0 := (hb0.cell (p := ⟨b, off, none⟩) hbl).trans h0
  have g1 := (hb0.cell (p := ⟨b, off + 1, none⟩) hbl).trans h1
  have g2 := (hb0.cell (p := ⟨b, off + 2, none⟩) hbl).trans h2
  have HW0 : Hid _ := hW0
  have HN : Hid (W.heap.size = N) := hN
  rw [hN]
  clear hW0 h0 h1 h2 b4 b5 hb0 hbl
  gi_wp2
  apply wpIn_scope_wide
  gi_wp2_with fail
  refine wpIn_label ?_
  gi_wp2
  rw [HW0.out]
  clear hN
  refine wpIn_loop_once ?_
  obtain ⟨W1, hW1⟩ : ∃ Q, W0.alloc (Obj.cells #[.slice pv nv kv, .int .i64 sel, .int .i64 val] 71) = Q := ⟨_, rfl⟩
  have hb1 : Below (N + 2) W0 W1 := by rw [← hW1, ← HS0.out]; exact (Below.refl _ W0).alloc (Nat.le_refl _) _
  have b7 : Bx W1 (N + 2) #[.slice pv nv kv, .int .i64 sel, .int .i64 val] 71 := by rw [← hW1]; exact Bx.new' HS0.out _ _
  obtain ⟨z0, z1, z2⟩ := b7.three
  have HW1 : Hid _ := hW1
  have HS1 : Hid (W1.heap.size = N + 3) := by unfold Hid; rw [← hW1]; simp [HS0.out]
  have B7 : Hid _ := b7
  have HB1 : Hid (Below (N + 2) W0 W1) := hb1
  have hsz : W0.heap.size = N + 2 := HS0.out
  clear hW1 b7 hb1
  gi_wp2
  rw [HW1.out]
  refine ⟨trivial, (callsIn_wide.2 (openOf_any pv nv kv p2 nd k2 W1)).mono ?_⟩
  rintro e w2 ⟨rfl, hw2⟩
  have hs1 : W1.heap.size = N + 3 := HS1.out
  rw [hs1]
  have hb2 : Below (N + 3) W1 w2 := by rw [hw2, ← hs1]; exact ((Below.refl _ W1).alloc (Nat.le_refl _) _).alloc (by simp) _
  have hbN2 : Below N W w2 := HB0.out.trans ((HB1.out.mono (by omega)).trans (hb2.mono (by omega)))
  have hK2 : OpK (N + 3) (N + 3 + 1) (.slice pv nv kv) (.slice p2 nd k2) l D w2 := by
    have hbW : Below W.heap.size W w2 := by rw [HN.out]; exact hbN2
    refine ⟨?_, HV.out.below hbW, ?_, HD.out.below hbW⟩
    · rw [hw2]; exact ((Bx.new' hs1 _ _).alloc _).cell 0
    · rw [hw2]; exact (Bx.new' (by simp [hs1]) _ _).cell 0
  have HK2 : Hid (OpK (N + 3) (N + 3 + 1) (.slice pv nv kv) (.slice p2 nd k2) l D w2) := hK2
  have q4 : Bx w2 N #[.slice none 0 0, .int .i64 0, .int .i64 0] 71 := ⟨(hb2.block N (by omega)).trans ((HB1.out.block N (by omega)).trans B4.out.h)⟩
  have q5 : Bx w2 (N + 1) #[.slice none 0 0, .int .i64 0, .int .i64 0] 71 := ⟨(hb2.block (N + 1) (by omega)).trans ((HB1.out.block (N + 1) (by omega)).trans B5.out.h)⟩
  have q7 : Bx w2 (N + 2) #[.slice pv nv kv, .int .i64 sel, .int .i64 val] 71 := ⟨(hb2.block (N + 2) (by omega)).trans B7.out.h⟩
  have hs2 : N + 5 = w2.heap.size := by rw [hw2]; simp [hs1]
  have Q4 : Hid _ := q4
  have Q5 : Hid _ := q5
  have Q7 : Hid _ := q7
  have HB2 : Hid (Below N W w2) := hbN2
  have HS2 : Hid (N + 5 = w2.heap.size) := hs2
  clear hw2 hb2 hbN2 hK2 q4 q5 q7 hs2 hs1 g0 g1 g2 z0 z1 z2 hsz
  gi_wp2
  refine range_any (id := 0) _ 89 _ _ _ (open1_tells (N + 3) (N + 3 + 1) (.slice pv nv kv) (.slice p2 nd k2) l D HG.out (by have := HL.out; omega) HDL.out) rfl callOpen1
    (fun k X => k = 0 ∧ Bx X N #[.slice none 0 0, .int .i64 0, .int .i64 0] 71 ∧ Bx X (N + 1) #[.slice none 0 0, .int .i64 0, .int .i64 0] 71 ∧ Bx X (N + 2) #[.slice pv nv kv, .int .i64 sel, .int .i64 val] 71 ∧ Below w2.heap.size w2 X)
    (fun X => Bx X N #[.slice none 0 0, .int .i64 0, .int .i64 0] 71 ∧ Bx X (N + 1) #[.slice pv nv kv, .int .i64 sel, .int .i64 val] 71 ∧ Below N W X) (fun _ => False) (fun k X h => HK2.out.below h.2.2.2.2) ?hIb ?hIp ?hXp (fun _ _ _ _ _ h => h.elim) ⟨rfl, Q4.out, Q5.out, Q7.out, Below.refl _ _⟩
    (fun v => { tmps := #[.slice (some ⟨b, off, none⟩) n c, .slice p2 nd k2, undef, undef, .pointer (some ⟨N, 0, none⟩), .pointer (some ⟨N + 1, 0, none⟩), undef, .pointer (some ⟨N + 2, 0, none⟩), .slice (some ⟨b, off, none⟩) n c, .int .i64 n, .int .i64 0, .bool true, .pointer (some ⟨b, off, none⟩), .agg #[.slice pv nv kv, .int .i64 sel, .int .i64 val], .pointer (some ⟨N + 2, 0, none⟩), .slice pv nv kv, .slice p2 nd k2, .func (.func 89) #[] #[.pointer (some ⟨N + 3, 0, none⟩), .pointer (some ⟨N + 3 + 1, 0, none⟩)], v, undef, undef, undef, undef, undef, undef, undef, undef, undef, undef, undef, undef, undef, undef, undef, undef, undef], defers := [] }) ?assign ?body ?left (fun _ _ _ h => h.elim) ?done
  case hIb =>
    rintro k X X' hX ⟨rfl, h1, h2, h3, h4⟩ hb
    exact ⟨rfl, h1.below hb, h2.below hb, h3.below hb, h4.trans (hb.mono h4.size)⟩
  case hIp =>
    rintro k X j o o' hj ⟨rfl, h1, h2, h3, h4⟩ ho hc
    exact ⟨rfl, h1.put ho hc, h2.put ho hc, h3.put ho hc, below_put h4 hj _⟩
  case hXp =>
    rintro X j o o' hj ⟨h1, h2, h4⟩ ho hc
    exact ⟨h1.put ho hc, h2.put ho hc, below_put h4 (by have := HS2.out; omega) _⟩
  case assign =>
    intro l m v X K hK
    gi_wp2
    exact hK
  case body =>
    rintro lr m k x X hx hX ⟨rfl, h1, h2, h3, h4⟩
    obtain ⟨y0, y1, y2⟩ := h3.three
    obtain ⟨x0, x1, x2⟩ := h2.three
    have f0 := h2.fr 0
    have f1 := h2.fr 1
    have f2 := h2.fr 2
    gi_wp2
    have k1 := KA.set h2 w2.heap.size 0 (.slice pv nv kv)
    have s1 := h2.setc (o := 0) (by simp) (.slice pv nv kv)
    have k2 := KA.set s1 w2.heap.size 1 (.int .i64 sel)
    have s2 := s1.setc (o := 1) (by simp) (.int .i64 sel)
    have k3 := KA.set s2 w2.heap.size 2 (.int .i64 val)
    refine ⟨rfl, (k1.trans k2).trans k3, ((h1.other (by omega) _ _).other (by omega) _ _).other (by omega) _ _, h2.set3 _ _ _, ?_⟩
    have hq : Below N W X := HB2.out.trans (h4.mono (by have := HS2.out; omega))
    exact ((hq.setCell (p := ⟨N + 1, 0, none⟩) (by show N ≤ N + 1; omega) _).setCell (p := ⟨N + 1, 1, none⟩) (by show N ≤ N + 1; omega) _).setCell (p := ⟨N + 1, 2, none⟩) (by show N ≤ N + 1; omega) _
  case left =>
    rintro Dd X hDd ⟨h1, h2, h4⟩ hDef
    obtain ⟨y0, y1, y2⟩ := h2.three
    have hnv : 0 < nv := by
      obtain ⟨_, _, e, _⟩ := HV.out
      injection e with _ e2 _
      rcases Nat.eq_zero_or_pos nv with h | h
      · exact absurd (by rw [List.eq_nil_of_length_eq_zero (e2.symm.trans h)]; rfl) HO.out
      · exact h
    have hnv' : ((nv : Int) == 0) = false := by simp; omega
    have hnv2 : ¬ (nv : Int) = 0 := by omega
    have H1 : Hid _ := h1
    have H2 : Hid _ := h2
    have H4 : Hid _ := h4
    have HDf : Hid _ := hDef
    clear h1 h2 h4 hDef
    gi_wp2
    refine ⟨trivial, (callsIn_wide.2 (openOf_any pv nv kv p2 nd k2 X)).mono ?_⟩
    rintro e w3 ⟨rfl, hw3⟩
    obtain ⟨M, hM⟩ : ∃ M, X.heap.size = M := ⟨_, rfl⟩
    have hb3 : Below X.heap.size X w3 := by rw [hw3]; exact ((Below.refl _ X).alloc (Nat.le_refl _) _).alloc (by simp) _
    have hbN3 : Below N W w3 := H4.out.trans (hb3.mono (by have := H4.out.size; have := HN.out; omega))
    have hbW : Below W.heap.size W w3 := by rw [HN.out]; exact hbN3
    have hK3 : OpK M (M + 1) (.slice pv nv kv) (.slice p2 nd k2) l D w3 := by
      refine ⟨?_, HV.out.below hbW, ?_, HD.out.below hbW⟩
      · rw [hw3]; exact ((Bx.new' hM _ _).alloc _).cell 0
      · rw [hw3]; exact (Bx.new' (by simp [hM]) _ _).cell 0
    have kc := collect_open hK3 HG.out HL.out HDL.out
    have Q1 : Hid _ := H1.out.below hb3
    have Q2 : Hid _ := H2.out.below hb3
    have Q3 : Hid (Below N W w3) := hbN3
    have Q4 : Hid (w3.heap[Dd]? = _) := (hb3.block Dd (Array.getElem?_eq_some_iff.1 HDf.out).1).trans HDf.out
    rw [hM]
    clear hw3 hb3 hbN3 hbW hK3 y0 y1 y2 hM
    gi_wp2
    refine ⟨trivial, (callsIn_wide.2 kc).mono ?_⟩
    clear kc
    rintro e w4 ⟨v, rfl, ho4, hb4⟩
    obtain ⟨va, vc, rfl⟩ := ho4.shape
    obtain ⟨vn, hvn⟩ : ∃ q, (openL l D).length = q := ⟨_, rfl⟩
    rw [hvn] at ho4 ⊢
    have R1 : Hid _ := Bx.below Q1.out hb4
    have R2 : Hid _ := Bx.below Q2.out hb4
    have R4 : Hid (w4.heap[Dd]? = _) := (hb4.block Dd (Array.getElem?_eq_some_iff.1 Q4.out).1).trans Q4.out
    have R3 : Hid (Below N W w4) := Q3.out.trans (hb4.mono (by have := Q3.out.size; have := HN.out; omega))
    have HO4 : Hid _ := ho4
    have HSZ : Hid (N ≤ w3.heap.size) := by have := Q3.out.size; have := HN.out; unfold Hid; omega
    obtain ⟨y0, y1, y2⟩ := Bx.three R2.out
    have f0 := Bx.fr R2.out 0
    have g0 := Bx.fr R1.out 0
    have g1 := Bx.fr R1.out 1
    have g2 := Bx.fr R1.out 2
    obtain ⟨x0, x1, x2⟩ := Bx.three R1.out
    clear ho4 hb4 hvn
    gi_wp2
    have hDN : N + 5 ≤ Dd := by have := HS2.out; omega
    have hdf : ((((w4.setCell ⟨N + 1, 0, none⟩ (.slice va vn vc)).setCell ⟨N, 0, none⟩ (.slice va vn vc)).setCell ⟨N, 1, none⟩ (.int .i64 sel)).setCell ⟨N, 2, none⟩ (.int .i64 val)).heap[Dd]? = some (.deferred (some [])) :=
      (Below.heap_setCell _ _ _ Dd (by show Dd ≠ N; omega)).trans ((Below.heap_setCell _ _ _ Dd (by show Dd ≠ N; omega)).trans ((Below.heap_setCell _ _ _ Dd (by show Dd ≠ N; omega)).trans ((Below.heap_setCell _ _ _ Dd (by show Dd ≠ N + 1; omega)).trans R4.out)))
    have hbx := (Bx.other R1.out (show N ≠ N + 1 by omega) 0 (.slice va vn vc)).set3 (.slice va vn vc) (.int .i64 sel) (.int .i64 val)
    have hbN : Below N W ((((w4.setCell ⟨N + 1, 0, none⟩ (.slice va vn vc)).setCell ⟨N, 0, none⟩ (.slice va vn vc)).setCell ⟨N, 1, none⟩ (.int .i64 sel)).setCell ⟨N, 2, none⟩ (.int .i64 val)) :=
      (((R3.out.setCell (p := ⟨N + 1, 0, none⟩) (by show N ≤ N + 1; omega) _).setCell (p := ⟨N, 0, none⟩) (Nat.le_refl _) _).setCell (p := ⟨N, 1, none⟩) (Nat.le_refl _) _).setCell (p := ⟨N, 2, none⟩) (Nat.le_refl _) _
    have hoi : Oi N ((((w4.setCell ⟨N + 1, 0, none⟩ (.slice va vn vc)).setCell ⟨N, 0, none⟩ (.slice va vn vc)).setCell ⟨N, 1, none⟩ (.int .i64 sel)).setCell ⟨N, 2, none⟩ (.int .i64 val)) (.slice va vn vc) (openL l D) := by
      have hb : Oi N w4 (.slice va vn vc) (openL l D) := own_base HO4.out HSZ.out
      refine own_keep hb fun g q => ?_
      obtain ⟨_, _, cur, hc⟩ := hb.typ q
      have e1 : g ≠ N := fun e => by subst e; rw [Bx.h R1.out] at hc; cases hc
      have e2 : g ≠ N + 1 := fun e => by subst e; rw [Bx.h R2.out] at hc; cases hc
      exact (Below.heap_setCell _ _ _ g e1).trans ((Below.heap_setCell _ _ _ g e1).trans ((Below.heap_setCell _ _ _ g e1).trans (Below.heap_setCell _ _ _ g e2)))
    refine ⟨by simp, .inl ⟨_, _, rfl, run_takeDeferred hdf, ?_⟩⟩
    refine ⟨_, results_cell_row rfl _ _ N 71 _ (0, 0) _ rfl (hbx.put hdf rfl).h Tryz.underlying71 rfl (by kernel_rfl), _, rfl, ?_, ?_⟩
    · exact hoi.put hdf rfl
    · exact below_put hbN (by omega) _
  case done =>
    rintro Dd X hDd ⟨hz, _⟩ _
    rw [List.length_map] at hz
    exact absurd (List.eq_nil_of_length_eq_zero hz) HO.out
end Go.Proofs.YthkliicmoandmaaGreatDoor

namespace Go.Proofs.YthkliicmoandmaaGreatDoor
open Go.RowKit Go.Shelf
set_option linter.unusedVariables false
set_option linter.unusedSimpArgs false

attribute [local go_sem] Oper.semAt_some
/-- The first of those offered whose rank is the least. -/
def offM (b : Int × Int × Bool) (x r : Int) : Int × Int × Bool := if b.2.2 = false ∨ r < b.2.1 then (x, r, true) else b
theorem offM_new {b : Int × Int × Bool} {x r : Int} (h : b.2.2 = false ∨ r < b.2.1) : offM b x r = (x, r, true) := if_pos h
theorem offM_old {b : Int × Int × Bool} {x r : Int} (h : ¬ (b.2.2 = false ∨ r < b.2.1)) : offM b x r = b := if_neg h

set_option maxRecDepth 100000 in
set_option maxHeartbeats 4000000 in
theorem offer_any {W : World} {p : Nat} {i k : Int} {th : Bool} (h : Bx W p #[.int .i64 i, .int .i64 k, .bool th] 122) (x r : Int) : Calls Tryz.prog 75 #[ptr p, .int .i64 x, .int .i64 r] W fun e w' => e = .returned (.tuple #[]) ∧
    Bx w' p #[.int .i64 (offM (i, k, th) x r).1, .int .i64 (offM (i, k, th) x r).2.1, .bool (offM (i, k, th) x r).2.2] 122 ∧ Kept (fun b => b = p) W w' := by
  obtain ⟨z0, z1, z2⟩ := h.three
  have f0 := h.fr 0
  have f1 := h.fr 1
  have f2 := h.fr 2
  have hk : ∀ a b c, Kept (fun b => b = p) W (((W.setCell ⟨p, 0, none⟩ a).setCell ⟨p, 1, none⟩ b).setCell ⟨p, 2, none⟩ c) := fun a b c => Kept.setCell (X := fun b => b = p) (Kept.setCell (X := fun b => b = p) (Kept.set p 0 a) rfl 1 b) rfl 2 c
  have HK : Hid _ := hk
  have H : Hid _ := h
  clear hk h
  cases th
  · rw [offM_new (.inl rfl)]
    go_enter Tryz.func75, Tryz.ntmps75
    go_wp2
    exact ⟨rfl, _, results_none rfl _ _ _, rfl, H.out.set3 _ _ _, HK.out _ _ _⟩
  · by_cases hr : r < k
    · rw [offM_new (.inr hr)]
      have hd : decide (r < k) = true := by simpa using hr
      go_enter Tryz.func75, Tryz.ntmps75
      go_wp2
      exact ⟨rfl, _, results_none rfl _ _ _, rfl, H.out.set3 _ _ _, HK.out _ _ _⟩
    · rw [offM_old (by simpa using hr)]
      have hd : decide (r < k) = false := by simpa using hr
      go_enter Tryz.func75, Tryz.ntmps75
      go_wp2
      exact ⟨rfl, _, results_none rfl _ _ _, rfl, H.out, Kept.refl _ _⟩
/-- What a rank asks. -/
def RankC (how : Int) (f : MD → Int) : Prop := ∀ (X : Nat → Prop) (W : World) (c : List Value) (d : MD), Dc X W c d → Good d → sevB d = true → Calls Tryz.prog 76 #[.int .i64 how, .agg c.toArray] W fun e w' => e = .returned (.int .i64 (f d)) ∧ Below W.heap.size W w'

set_option maxRecDepth 100000 in
set_option maxHeartbeats 4000000 in
theorem rank_none (how : Int) (h1 : how ≠ 1) (h2 : how ≠ 2) (h3 : how ≠ 3) (h4 : how ≠ 4) : RankC how (fun _ => 0) := by
  intro X W c d h hg hs
  obtain ⟨b, ra, n0, rc, a1, n1, c1, a2, n2, c2, x, y, rfl, HE, H1, H2, H3⟩ := h.look
  obtain ⟨W0, hW0⟩ : ∃ Q, W.alloc (Obj.cells #[.bool b, .slice ra n0 rc, .slice a1 n1 c1, .slice a2 n2 c2, .int .i64 x, .int .i64 y] 50) = Q := ⟨_, rfl⟩
  have hb0 : Below W.heap.size W W0 := by rw [← hW0]; exact (Below.refl _ W).alloc (Nat.le_refl _) _
  have HB0 : Hid (Bx W0 W.heap.size #[.bool b, .slice ra n0 rc, .slice a1 n1 c1, .slice a2 n2 c2, .int .i64 x, .int .i64 y] 50) := by rw [← hW0]; exact Bx.new _ _ _
  clear H1 H2 H3 HE hs hg h
  have e1 : (how == 1) = false := by simpa using h1
  have e2 : (how == 2) = false := by simpa using h2
  have e3 : (how == 3) = false := by simpa using h3
  have e4 : (how == 4) = false := by simpa using h4
  have HBB : Hid _ := hb0
  have HWW : Hid _ := hW0
  clear hb0 hW0
  go_enter Tryz.func76, Tryz.ntmps76
  go_wp2
  go_ret
  exact ⟨rfl, by rw [HWW.out]; exact HBB.out⟩

set_option maxRecDepth 100000 in
set_option maxHeartbeats 4000000 in
theorem rank_first : RankC 1 sizA := by
  intro X W c d h hg hs
  obtain ⟨b, ra, n0, rc, a1, n1, c1, a2, n2, c2, x, y, rfl, HE, H1, H2, H3⟩ := h.look
  obtain ⟨W0, hW0⟩ : ∃ Q, W.alloc (Obj.cells #[.bool b, .slice ra n0 rc, .slice a1 n1 c1, .slice a2 n2 c2, .int .i64 x, .int .i64 y] 50) = Q := ⟨_, rfl⟩
  have hb0 : Below W.heap.size W W0 := by rw [← hW0]; exact (Below.refl _ W).alloc (Nat.le_refl _) _
  have HB0 : Hid (Bx W0 W.heap.size #[.bool b, .slice ra n0 rc, .slice a1 n1 c1, .slice a2 n2 c2, .int .i64 x, .int .i64 y] 50) := by rw [← hW0]; exact Bx.new _ _ _
  have ks := ksize_any (h.below hb0) hg
  have HBB : Hid _ := hb0
  have HWW : Hid _ := hW0
  obtain ⟨z0, z1, z2, z3, z4, z5⟩ := HB0.out.six
  clear hb0 hW0 H1 H2 H3 HE hs hg h
  generalize sizA d = q at *
  go_enter Tryz.func76, Tryz.ntmps76
  go_wp2_with fail
  rw [HWW.out]
  go_wp2_with fail
  refine ks.mono ?_
  rintro e w1 ⟨rfl, hb1⟩
  go_wp2
  go_ret
  exact ⟨rfl, HBB.out.trans (hb1.mono HBB.out.size)⟩
/-- Which one is taken of some. -/
def whichM (f : Int → Int) (l : List Int) : Int × Int × Bool := l.foldl (fun b v => offM b v (f v)) (0, 0, false)
theorem whichM_snoc (f : Int → Int) (l : List Int) (k : Nat) (v : Int) (h : l[k]? = some v) : whichM f (l.take (k + 1)) = offM (whichM f (l.take k)) v (f v) := by
  unfold whichM
  rw [List.take_add_one, h]
  simp
theorem Oi.at {B : Nat} {w : World} {v : Value} {l : List Int} (h : Oi B w v l) (h0 : 0 < l.length) : ∃ g c, v = .slice (some ⟨g, 0, none⟩) l.length c ∧ B ≤ g ∧ g < w.heap.size ∧ l.length ≤ c ∧ ∀ i x, l[i]? = some x → w.cell? ⟨g, i, none⟩ = some (.int .i64 x) := by
  rcases h.2 with ⟨e1, e2⟩ | ⟨g, cap, cur, e1, hB, hg, hn, hm, hs, ht⟩
  · omega
  · refine ⟨g, cap, e1, hB, (Array.getElem?_eq_some_iff.1 hg).1, hn, fun i x hx => ?_⟩
    have hi := (List.getElem?_eq_some_iff.1 hx).1
    have hc : w.cell? ⟨g, i, none⟩ = cur[i]? := by simp [World.cell?, hg]
    have h1 : (ivl l)[i]? = some (.int .i64 x) := by simp [ivl, hx]
    rw [← ht, List.getElem?_take, if_pos (by omega), Array.getElem?_toList] at h1
    rw [hc]; exact h1
end Go.Proofs.YthkliicmoandmaaGreatDoor

namespace Go.Proofs.YthkliicmoandmaaGreatDoor
open Go.RowKit Go.Shelf
set_option linter.unusedVariables false
set_option linter.unusedSimpArgs false

def rangeI (n : Nat) : List Int := (List.range n).map fun (i : Nat) => (i : Int)
theorem rangeI_len (n : Nat) : (rangeI n).length = n := by simp [rangeI]
theorem rangeI_take (n k : Nat) (h : k < n) : (rangeI n).take (k + 1) = (rangeI n).take k ++ [(k : Int)] := by
  rw [List.take_add_one]
  simp [rangeI, h]
/-- All variables that have several values. -/
def openAll (D : List MD) : List Int := openL (rangeI D.length) D
structure VaK (B : Nat) (s : Value) (l : List Int) (w : World) : Prop where
  c : w.cell? ⟨B, 0, none⟩ = some s
  n : Ns w s l
theorem VaK.below {B : Nat} {s : Value} {l : List Int} {w w' : World} (h : VaK B s l w) (hb : Below w.heap.size w w') : VaK B s l w' :=
  ⟨(hb.cell (p := ⟨B, 0, none⟩) (World.block_lt_of_cell? w ⟨B, 0, none⟩ h.c)).trans h.c, h.n.below hb⟩

set_option maxRecDepth 100000 in
set_option maxHeartbeats 4000000 in
theorem values_tells (B : Nat) (s : Value) (l : List Int) (hl : l.length ≤ 9223372036854775806) :
    Tells Tryz.prog 87 #[.pointer (some ⟨B, 0, none⟩)] (ivl l) (VaK B s l) := by
  intro n lr W J Jx hK hJK hJb hY h0
  have HJ : Hid _ := hJb
  have HY : Hid _ := hY
  have HJK : Hid _ := hJK
  have HJ0 : Hid (J 0 W) := h0
  clear hJb hY hJK h0
  rw [show (#[Value.func (.yield lr) #[] #[]] ++ #[Value.pointer (some ⟨B, 0, none⟩)]) = #[.func (.yield lr) #[] #[], .pointer (some ⟨B, 0, none⟩)] from rfl]
  obtain ⟨hs1, hn1⟩ := hK
  obtain ⟨p1, k1, rfl⟩ := hn1.shape
  obtain ⟨nl, hnl⟩ : ∃ m, l.length = m := ⟨_, rfl⟩
  have HNL : Hid (l.length = nl) := hnl
  rw [hnl] at hs1 hl hn1 HJK
  have HNZ : Hid (0 < nl → ∃ b off, p1 = some ⟨b, off, none⟩) := fun h => by
    obtain ⟨a, c, e, hc⟩ := hn1
    obtain ⟨b, off, e1, _⟩ := hc (by omega)
    injection e with e2 _ _
    exact ⟨b, off, e2.trans e1⟩
  clear hn1 hnl
  refine callsIn_of_wp Tryz.func87 rfl trivial ?_ rfl
  simp only [Tryz.ntmps87, List.size_toArray, List.length_cons, List.length_nil, Nat.reduceAdd, Nat.reduceSub, Array.replicate_succ, Array.replicate_zero, List.push_toArray, List.append_toArray, List.nil_append, List.cons_append]
  gi_wp2
  gi_loopw [7] (fun i wr => ∃ k : Nat, i = .int .i64 (k : Int) ∧ k ≤ nl ∧ W.heap.size ≤ wr.heap.size ∧ Hid (J k wr)) (fun i _ => nl - (intOf i).toNat)
  case atStart => exact ⟨0, rfl, Nat.zero_le _, Nat.le_refl _, HJ0⟩
  case round =>
    obtain ⟨k, rfl, hk, hWr, HJk⟩ := hrel
    by_cases hlt : k < nl
    · have hlt' : (k : Int) < (nl : Int) := by omega
      have hwk : IntKind.i64.wrap ((k : Int) + 1) = (k : Int) + 1 := by rw [IntKind.wrap_i64]; omega
      obtain ⟨v, hv⟩ : ∃ v, l[k]? = some v := ⟨_, List.getElem?_eq_getElem (by rw [HNL.out]; exact hlt)⟩
      obtain ⟨b1, off1, rfl⟩ := HNZ.out (by omega)
      have hKr := HJK.out _ _ HJk.out
      have hm1 : wr.cell? ⟨b1, off1 + k, none⟩ = some (.int .i64 v) := by
        obtain ⟨a, c, e, hc⟩ := hKr.n
        obtain ⟨b, off, rfl, _, _, hcc⟩ := hc (by rw [HNL.out]; omega)
        injection e with e1 _ _
        injection e1 with e1
        injection e1 with e2 e3
        subst e2 e3
        exact hcc k v hv
      have HGE : Hid ((ivl l)[k]? = some (.int .i64 v)) := by
        unfold Hid ivl; rw [List.getElem?_map, hv]; rfl
      obtain ⟨fn, tmps, assign, body, hy, hRd⟩ := HY.out (n - 1) _ _ wr HGE.out hWr HJk.out
      have HRD : Hid _ := hRd
      clear hRd hKr hv
      gi_wp2
      refine ⟨(fun h => nomatch h), RoundIn.mono HRD.out ?_⟩
      rintro e w' ⟨(⟨rfl, hJ'⟩ | ⟨rfl, hJ'⟩), hka⟩
      · gi_wp2
        go_roundw
        case rel => exact ⟨k + 1, by go_num, by omega, Nat.le_trans hWr hka.size, hJ'⟩
        case measure => simp [intOf]; omega
      · gi_wp2
        exact ⟨rfl, _, results_none rfl _ _ _, ⟨_, rfl⟩, .inr hJ'⟩
    · have hlt' : ¬ (k : Int) < (nl : Int) := by omega
      have hfin : (∃ v, Ending.returned (Value.tuple #[]) = .returned v) ∧ (J (ivl l).length wr ∨ Jx wr) := ⟨⟨_, rfl⟩, .inl (by have := HJk.out; rw [show k = (ivl l).length by unfold ivl; rw [List.length_map, HNL.out]; omega] at this; exact this)⟩
      gi_wp2
      go_end0
      exact hfin

set_option maxRecDepth 100000 in
set_option maxHeartbeats 4000000 in
theorem values_any (p1 : Option Addr) (n1 k1 : Nat) (W : World) : Calls Tryz.prog 45 #[.slice p1 n1 k1] W fun e w' => e = .returned (.func (.func 87) #[] #[.pointer (some ⟨W.heap.size, 0, none⟩)]) ∧ w' = W.alloc (Obj.cells #[.slice p1 n1 k1] 24) := by
  have hmf : ∀ (fn : Fn) (first cap : Array Value) (w : World), (Instr.makeFunc fn first cap).run Tryz.prog w = .ok (.func fn first cap) w := fun _ _ _ _ => rfl
  go_enter Tryz.func45, Tryz.ntmps45
  go_wp2
  go_ret
  exact ⟨rfl, rfl⟩
theorem callValues1 (args : Array Value) (w : World) : (callFunc 87 args).run Tryz.prog w = .ok (.enter 87 args) w := enters_of Tryz.func87 (by kernel_rfl) rfl args w
theorem own_typN {w : World} {B : Nat} {e : TypeId} {s : Nat} {v : Value} {n : Nat} {xs : List Value} (h : w.ownsRow B e s v n xs) {g : Nat} (hg : v.ownBlock = some g) : B ≤ g := by
  rcases h.2 with ⟨e1, _⟩ | ⟨g', cap, cur, e1, e2, hg', r⟩
  · rw [e1] at hg; simp [Value.ownBlock] at hg
  · rw [e1] at hg
    obtain rfl : g' = g := by simpa [Value.ownBlock] using hg
    exact e2

set_option maxRecDepth 100000 in
set_option maxHeartbeats 4000000 in
theorem open_any {W : World} {p2 : Option Addr} {nd k2 : Nat} {D : List MD} (h : Ds W (.slice p2 nd k2) D) (hD : ∀ d ∈ D, Good d) (hDl : D.length * 8 ≤ 140737488355328) :
    Calls Tryz.prog 13 #[.slice p2 nd k2] W fun e w' => ∃ B s, e = .returned (.func (.func 87) #[] #[.pointer (some ⟨B, 0, none⟩)]) ∧ VaK B s (openAll D) w' ∧ Below W.heap.size W w' := by
  obtain ⟨N, hN⟩ : ∃ N, W.heap.size = N := ⟨_, rfl⟩
  have hnd : D.length = nd := by obtain ⟨a, c, e, _⟩ := h; injection e with _ e2 _; exact e2.symm
  have HD : Hid (∀ w, Below N W w → Ds w (.slice p2 nd k2) D) := fun w hb => h.below (by rw [hN]; exact hb)
  have HG : Hid _ := hD
  have HDL : Hid _ := hDl
  have HND : Hid (D.length = nd) := hnd
  have HN : Hid (W.heap.size = N) := hN
  rw [hnd] at hDl
  obtain ⟨i0, hi0, hz0, hz1, hz2⟩ := info_parts Tryz.infoI
  clear h hD hnd
  go_enter Tryz.func13, Tryz.ntmps13
  go_wp2
  go_loopw [3, 7] (fun v i wr => ∃ k : Nat, i = .int .i64 (k : Int) ∧ k ≤ nd ∧ Hid (Oi N wr v ((rangeI nd).take k)) ∧ Hid (Below N W wr)) (fun _ i _ => nd - (intOf i).toNat)
  case atStart => exact ⟨0, rfl, Nat.zero_le _, by unfold Hid; simpa [Oi, ivl] using World.ownsRow_nil _ _ _ _, Below.refl _ _⟩
  case round =>
    obtain ⟨k, rfl, hk, HO, HB⟩ := hrel
    obtain ⟨va, vc, rfl⟩ := HO.out.shape
    have hlen : ((rangeI nd).take k).length = k := by rw [List.length_take, rangeI_len]; omega
    rw [hlen] at HO ⊢
    by_cases hlt : k < nd
    · have hlt' : (k : Int) < (nd : Int) := by omega
      have hwk : IntKind.i64.wrap ((k : Int) + 1) = (k : Int) + 1 := by rw [IntKind.wrap_i64]; omega
      have hbytes : (k + 1) * 8 ≤ 140737488355328 := by omega
      have hlenm : k + 1 ≤ maxLen := by unfold maxLen; omega
      have HOW : Hid (wr.ownsRow N 3 1 (.slice va k vc) k (ivl ((rangeI nd).take k))) := by have := HO.out; unfold Oi at this; rw [hlen] at this; exact this
      have HTK : Hid (ivl ((rangeI nd).take (k + 1)) = ivl ((rangeI nd).take k) ++ [.int .i64 (k : Int)] ∧ ((rangeI nd).take (k + 1)).length = k + 1) := by
        unfold Hid ivl; rw [rangeI_take _ _ hlt]; simp [hlen]
      have HSZ : Hid (N ≤ wr.heap.size) := by have := HB.out.size; rw [HN.out] at this; exact this
      have hb1 : Below N W (wr.alloc (Obj.cells #[.int .i64 (k : Int)] 3)) := HB.out.alloc HSZ.out _
      have HB1 : Hid (Below N W (wr.alloc (Obj.cells #[.int .i64 (k : Int)] 3))) := hb1
      clear hb1
      go_wp2_with (at_builtin; refine wpList_append_own _ rfl _ _ 24 rfl N 3 i0 (.int .i64 0) 1 8 Tryz.underlying24 hi0 hz0 hz1 hz2 rfl (by decide) _ _ _ rfl (HOW.out.alloc _) ⟨wr.heap.size, 0, none⟩ 1 1 [.int .i64 (k : Int)] rfl rfl (fun j u hj => by cases j with | zero => (simp at hj; subst hj; simp [Addr.add]) | succ j => simp at hj) (by simp [Value.oneCell']) hlenm hbytes (by simp; have := HSZ.out; omega) ?_; intro v' w1 hown' hgrow _; obtain ⟨gn, capn, rfl⟩ := ownsRow_succ hown')
      go_roundw
      case rel =>
        refine ⟨k + 1, by go_num, by omega, ?_, ?_⟩
        · unfold Hid Oi; rw [HTK.out.1, HTK.out.2]; exact hown'
        · exact HB1.out.grown hgrow (by simp; have := HSZ.out; omega) (fun g hg => own_typN HOW.out hg)
      case measure => simp [intOf]; omega
    · have hlt' : ¬ (k : Int) < (nd : Int) := by omega
      obtain rfl : k = nd := by omega
      have hfull : (rangeI k).take k = rangeI k := List.take_of_length_le (by rw [rangeI_len]; exact Nat.le_refl _)
      rw [hfull] at HO
      clear hlen hfull
      go_upto_region 7 with (fail)
      go_wp2_with fail
      refine (openOf_any va k vc p2 k k2 wr).mono ?_
      rintro e w1 ⟨rfl, hw1⟩
      obtain ⟨M, hM⟩ : ∃ q, wr.heap.size = q := ⟨_, rfl⟩
      have hb1 : Below M wr w1 := by rw [hw1, ← hM]; exact ((Below.refl _ _).alloc (Nat.le_refl _) _).alloc (by simp) _
      have hN1 : N ≤ M := by rw [← hM]; have := HB.out.size; rw [HN.out] at this; exact this
      have hbN1 : Below N W w1 := HB.out.trans (hb1.mono hN1)
      have hK : OpK M (M + 1) (.slice va k vc) (.slice p2 k k2) (rangeI k) D w1 := by
        refine ⟨?_, HO.out.ns.below (by rw [hM]; exact hb1), ?_, HD.out _ hbN1⟩
        · rw [hw1]; exact ((Bx.new' hM _ _).alloc _).cell 0
        · rw [hw1]; exact (Bx.new' (by simp [hM]) _ _).cell 0
      have kc := collect_open hK HG.out (by rw [rangeI_len, ← HND.out]; exact HDL.out) (by have := HDL.out; omega)
      have HB1 : Hid (Below N W w1) := hbN1
      have HOA : Hid (openAll D = openL (rangeI k) D) := by unfold Hid openAll; rw [HND.out]
      rw [hM]
      clear hw1 hb1 hbN1 hK hM
      go_wp2_with fail
      refine kc.mono ?_
      clear kc
      rintro e w2 ⟨v, rfl, ho2, hb2⟩
      obtain ⟨ea, ec, rfl⟩ := ho2.shape
      obtain ⟨en, hen⟩ : ∃ q, (openL (rangeI k) D).length = q := ⟨_, rfl⟩
      rw [hen] at ho2 ⊢
      have HO2 : Hid (Oi w1.heap.size w2 (.slice ea en ec) (openL (rangeI k) D)) := ho2
      have HB2 : Hid (Below N W w2) := HB1.out.trans (hb2.mono (by have := HB1.out.size; rw [HN.out] at this; exact this))
      clear hen ho2 hb2
      go_wp2_with fail
      refine (values_any ea en ec w2).mono ?_
      rintro e w3 ⟨rfl, hw3⟩
      obtain ⟨M2, hM2⟩ : ∃ q, w2.heap.size = q := ⟨_, rfl⟩
      have hb3 : Below w2.heap.size w2 w3 := by rw [hw3]; exact (Below.refl _ _).alloc (Nat.le_refl _) _
      have hv3 : VaK M2 (.slice ea en ec) (openAll D) w3 := by
        refine ⟨?_, ?_⟩
        · rw [hw3]; exact (Bx.new' hM2 _ _).cell 0
        · rw [HOA.out]; exact HO2.out.ns.below hb3
      have HV3 : Hid _ := hv3
      have HB3 : Hid (Below N W w3) := HB2.out.trans (hb3.mono (by have := HB2.out.size; rw [HN.out] at this; exact this))
      rw [hM2]
      clear hw3 hb3 hv3
      go_wp2
      go_ret
      exact ⟨M2, _, rfl, HV3.out, by rw [HN.out]; exact HB3.out⟩
/-- The marks of many ranges. -/
def marks (L : List Nat) : List Deferred := L.map fun D => { target := .collected D, args := #[] }
theorem leaves_marks {F : Fence} {n : Nat} {P : Program} {fn : Func} {tmps : Array Value} {R : Ending → World → Prop} (N : Nat) (J : World → Prop) (hJ : ∀ w k o', J w → N ≤ k → w.heap[k]? = some (.deferred (some [])) → J (w.putObj k o')) (hend : ∀ w, J w → LeavesInM F n P fn tmps R [] .returning w) :
    ∀ (L : List Nat) (w : World), J w → L.Nodup → (∀ D ∈ L, N ≤ D ∧ w.heap[D]? = some (.deferred (some []))) → LeavesInM F n P fn tmps R (marks L) .returning w
  | [], w, h, _, _ => hend w h
  | D :: L, w, h, hn, hD => by
    have h1 := hD D (by simp)
    refine ⟨by simp, .inl ⟨D, _, rfl, run_takeDeferred h1.2, ?_⟩⟩
    refine leaves_marks N J hJ hend L _ (hJ _ _ _ h h1.1 h1.2) (List.nodup_cons.1 hn).2 fun E hE => ?_
    have h2 := hD E (by simp [hE])
    refine ⟨h2.1, (World.putObj_heap_other ?_).trans h2.2⟩
    rintro rfl
    exact (List.nodup_cons.1 hn).1 hE
end Go.Proofs.YthkliicmoandmaaGreatDoor
