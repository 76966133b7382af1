/-
  What is proved here: the next phase, of any phases.
-/
import Derived.Test.YthkliicmoandmaaGreatDoorBej
namespace Go.Proofs.YthkliicmoandmaaGreatDoor
open Go.RowKit Go.Shelf
set_option linter.unusedVariables false
set_option linter.unusedSimpArgs false

attribute [local go_sem] Oper.semAt_some
/-- A phase: its variables, how one is selected, which value. -/
structure Ph where
  vars : List Int
  sel : Int
  val : Int
def Ps (w : World) (s : Value) (L : List Ph) : Prop :=
  ∃ a c, s = .slice a L.length c ∧ (0 < L.length → ∃ b off, a = some ⟨b, off, none⟩ ∧ b < w.heap.size ∧ ∀ i p, L[i]? = some p → ∃ pv kv, Ns w (.slice pv p.vars.length kv) p.vars ∧
    w.cell? ⟨b, off + i * 3, none⟩ = some (.slice pv p.vars.length kv) ∧ w.cell? ⟨b, off + i * 3 + 1, none⟩ = some (.int .i64 p.sel) ∧ w.cell? ⟨b, off + i * 3 + 2, none⟩ = some (.int .i64 p.val))
theorem Ps.below {w w' : World} {s : Value} {L : List Ph} (h : Ps w s L) (hb : Below w.heap.size w w') : Ps w' s L := by
  obtain ⟨a, c, e, h⟩ := h
  refine ⟨a, c, e, fun h0 => ?_⟩
  obtain ⟨b, off, e1, e2, e3⟩ := h h0
  refine ⟨b, off, e1, Nat.lt_of_lt_of_le e2 hb.size, fun i p hp => ?_⟩
  obtain ⟨pv, kv, h1, k0, k1, k2⟩ := e3 i p hp
  exact ⟨pv, kv, h1.below hb, (hb.cell (p := ⟨b, _, none⟩) e2).trans k0, (hb.cell (p := ⟨b, _, none⟩) e2).trans k1, (hb.cell (p := ⟨b, _, none⟩) e2).trans k2⟩
theorem Ps.at {w : World} {p1 : Option Addr} {n k1 : Nat} {L : List Ph} (h : Ps w (.slice p1 n k1) L) {i : Nat} {p : Ph} (hp : L[i]? = some p) : ∃ b off, p1 = some ⟨b, off, none⟩ ∧ b < w.heap.size ∧ L.length = n ∧ ∃ pv kv, Ns w (.slice pv p.vars.length kv) p.vars ∧
    w.cell? ⟨b, off + i * 3, none⟩ = some (.slice pv p.vars.length kv) ∧ w.cell? ⟨b, off + i * 3 + 1, none⟩ = some (.int .i64 p.sel) ∧ w.cell? ⟨b, off + i * 3 + 2, none⟩ = some (.int .i64 p.val) := by
  obtain ⟨a, c, e, h⟩ := h
  have hi := (List.getElem?_eq_some_iff.1 hp).1
  obtain ⟨b, off, e1, e2, e3⟩ := h (by omega)
  injection e with q1 q2 q3
  exact ⟨b, off, by rw [q1, e1], e2, q2.symm, e3 i p hp⟩
/-- The next phase: its open variables, how one is selected, which value. -/
def phaseM (D : List MD) : List Ph → Ph
  | [] => ⟨openAll D, 0, 0⟩
  | p :: L => if openL p.vars D = [] then phaseM D L else ⟨openL p.vars D, p.sel, p.val⟩
theorem phaseM_drop (D : List MD) (L : List Ph) (j : Nat) (p : Ph) (hp : L[j]? = some p) : phaseM D (L.drop j) = if openL p.vars D = [] then phaseM D (L.drop (j + 1)) else ⟨openL p.vars D, p.sel, p.val⟩ := by
  have hi := (List.getElem?_eq_some_iff.1 hp).1
  have e : L.drop j = p :: L.drop (j + 1) := by rw [List.drop_eq_getElem_cons hi, (List.getElem?_eq_some_iff.1 hp).2]
  rw [e]; rfl
structure SzP (L : List Ph) (D : List MD) : Prop where
  v : ∀ p ∈ L, p.vars.length * 8 ≤ 140737488355328
  d : D.length * 8 ≤ 140737488355328
  l : L.length ≤ 9223372036854775806

set_option maxRecDepth 100000 in
set_option maxHeartbeats 4000000 in
theorem phase_any {W : World} {p1 : Option Addr} {n k1 : Nat} {p2 : Option Addr} {nd k2 : Nat} {L : List Ph} {D : List MD} (hP : Ps W (.slice p1 n k1) L) (hd : Ds W (.slice p2 nd k2) D) (hD : ∀ d ∈ D, Good d) (hz : SzP L D) :
    Calls Tryz.prog 38 #[.slice p1 n k1, .slice p2 nd k2] W fun e w' => ∃ v, e = .returned (.agg #[v, .int .i64 (phaseM D L).sel, .int .i64 (phaseM D L).val]) ∧ Oi W.heap.size w' v (phaseM D L).vars ∧ Below W.heap.size W w' := by
  refine (callsIn_wide (n := 6)).1 ?_
  refine callsIn_of_wp_marks Tryz.func38 rfl trivial ?_ rfl
  simp only [Tryz.ntmps38, List.size_toArray, List.length_cons, List.length_nil, Nat.reduceAdd, Nat.reduceSub, Array.replicate_succ, Array.replicate_zero, List.push_toArray, List.append_toArray, List.nil_append, List.cons_append]
  obtain ⟨N, hN⟩ : ∃ N, W.heap.size = N := ⟨_, rfl⟩
  have hLn : L.length = n := by obtain ⟨a, c, e, _⟩ := hP; injection e with _ e2 _; exact e2.symm
  have HP : Hid (Ps W (.slice p1 n k1) L) := hP
  have HD : Hid (∀ w, Below N W w → Ds w (.slice p2 nd k2) D) := fun w hb => hd.below (by rw [hN]; exact hb)
  have HG : Hid _ := hD
  have HZ : Hid (SzP L D) := hz
  have HLN : Hid (L.length = n) := hLn
  have hnb : n ≤ 9223372036854775806 := by rw [← hLn]; exact hz.l
  clear hP hd hD hz hLn
  obtain ⟨W0, hW0⟩ : ∃ Q, (W.alloc (Obj.cells #[.slice none 0 0, .int .i64 0, .int .i64 0] 71)).alloc (Obj.cells #[.slice none 0 0, .int .i64 0, .int .i64 0] 71) = Q := ⟨_, rfl⟩
  have hb0 : Below N W W0 := by rw [← hW0, ← hN]; exact ((Below.refl _ W).alloc (Nat.le_refl _) _).alloc (by simp) _
  have HB0 : Hid (Below N W W0) := hb0
  have B4 : Hid (Bx W0 N #[.slice none 0 0, .int .i64 0, .int .i64 0] 71) := by rw [← hW0]; exact (Bx.new' hN _ _).alloc _
  have B5 : Hid (Bx W0 (N + 1) #[.slice none 0 0, .int .i64 0, .int .i64 0] 71) := by rw [← hW0]; exact Bx.new' (by simp [hN]) _ _
  have HW0 : Hid _ := hW0
  have HN : Hid (W.heap.size = N) := hN
  rw [hN]
  clear hW0 hb0
  gi_wp2
  apply wpIn_scope_wide
  gi_wp2_with fail
  refine wpIn_label ?_
  gi_wp2
  rw [HW0.out]
  clear hN
  refine wpIn_loop (fun a wr => ∃ (j : Nat) (Ms : List Nat) (x7 x11 x12 x13 x14 x15 x16 x17 x18 x20 : Value), a = { tmps := #[.slice p1 n k1, .slice p2 nd k2, undef, undef, .pointer (some ⟨N, 0, none⟩), .pointer (some ⟨N + 1, 0, none⟩), undef, x7, .slice p1 n k1, .int .i64 n, .int .i64 (j : Int), x11, x12, x13, x14, x15, x16, x17, x18, undef, x20, undef, undef, undef, undef, undef, undef, undef, undef, undef, undef, undef, undef, undef, undef, undef], defers := marks Ms } ∧ j ≤ n ∧ Ms.Nodup ∧ Hid (∀ Dd ∈ Ms, N + 2 ≤ Dd ∧ wr.heap[Dd]? = some (.deferred (some []))) ∧ Hid (phaseM D L = phaseM D (L.drop j)) ∧ Hid (Below N W wr) ∧ Hid (Bx wr N #[.slice none 0 0, .int .i64 0, .int .i64 0] 71) ∧ Hid (Bx wr (N + 1) #[.slice none 0 0, .int .i64 0, .int .i64 0] 71)) (fun a _ => n - (intOf (a.tmps.getD 10 undef)).toNat) ⟨0, [], undef, undef, undef, undef, undef, undef, undef, undef, undef, undef, rfl, Nat.zero_le _, List.nodup_nil, fun _ h => by simp at h, rfl, HB0.out, B4.out, B5.out⟩ ?_
  clear HB0 B4 B5 HW0
  rintro a wr ⟨j, Ms, x7, x11, x12, x13, x14, x15, x16, x17, x18, x20, rfl, hj, hnd, HMs, HNX, HB, Q4, Q5⟩
  have hsz : N + 2 ≤ wr.heap.size := Q5.out.lt
  by_cases hlt : j < n
  · have hlt' : (j : Int) < (n : Int) := by omega
    have hwj : IntKind.i64.wrap ((j : Int) + 1) = (j : Int) + 1 := by rw [IntKind.wrap_i64]; omega
    obtain ⟨p, hp⟩ : ∃ p, L[j]? = some p := ⟨_, List.getElem?_eq_getElem (by rw [HLN.out]; exact hlt)⟩
    obtain ⟨b, off, rfl, hbl, _, pv, kv, hns, i0, i1, i2⟩ := HP.out.at hp
    rw [HN.out] at hbl
    have g0 := (HB.out.cell (p := ⟨b, off + j * 3, none⟩) hbl).trans i0
    have g1 := (HB.out.cell (p := ⟨b, off + j * 3 + 1, none⟩) hbl).trans i1
    have g2 := (HB.out.cell (p := ⟨b, off + j * 3 + 2, none⟩) hbl).trans i2
    clear i0 i1 i2
    have HND : Hid (phaseM D (L.drop j) = if openL p.vars D = [] then phaseM D (L.drop (j + 1)) else ⟨openL p.vars D, p.sel, p.val⟩) := phaseM_drop D L j p hp
    have HPL : Hid (p.vars.length * 8 ≤ 140737488355328) := HZ.out.v p (List.mem_of_getElem? hp)
    clear hp
    obtain ⟨l, sel, val⟩ := p
    dsimp only at hns g0 g1 g2 HND HPL
    obtain ⟨nv, hnv⟩ : ∃ q, l.length = q := ⟨_, rfl⟩
    rw [hnv] at hns g0
    have HNV : Hid (l.length = nv) := hnv
    have HV : Hid (∀ X, Below N W X → Ns X (.slice pv nv kv) l) := fun X hX => hns.below (by rw [HN.out]; exact hX)
    obtain ⟨M, hM⟩ : ∃ M, wr.heap.size = M := ⟨_, rfl⟩
    obtain ⟨W1, hW1⟩ : ∃ Q, wr.alloc (Obj.cells #[.slice pv nv kv, .int .i64 sel, .int .i64 val] 71) = Q := ⟨_, rfl⟩
    have hb1 : Below M wr W1 := by rw [← hW1, ← hM]; exact (Below.refl _ wr).alloc (Nat.le_refl _) _
    have b7 : Bx W1 M #[.slice pv nv kv, .int .i64 sel, .int .i64 val] 71 := by rw [← hW1]; exact Bx.new' hM _ _
    obtain ⟨z0, z1, z2⟩ := b7.three
    have HW1 : Hid _ := hW1
    have HM : Hid (wr.heap.size = M) := hM
    have HS1 : Hid (W1.heap.size = M + 1) := by unfold Hid; rw [← hW1]; simp [hM]
    have B7 : Hid (Bx W1 M #[.slice pv nv kv, .int .i64 sel, .int .i64 val] 71) := b7
    have HB1 : Hid (Below M wr W1) := hb1
    clear hW1 b7 hb1 hns hnv
    gi_wp2
    rw [HW1.out]
    refine ⟨trivial, (callsIn_wide.2 (openOf_any pv nv kv p2 nd k2 W1)).mono ?_⟩
    rintro e w2 ⟨rfl, hw2⟩
    have hs1 : W1.heap.size = M + 1 := HS1.out
    rw [hs1]
    have hb2 : Below (M + 1) W1 w2 := by rw [hw2, ← hs1]; exact ((Below.refl _ W1).alloc (Nat.le_refl _) _).alloc (by simp) _
    have hbw2 : Below wr.heap.size wr w2 := by rw [hM]; exact HB1.out.trans (hb2.mono (by omega))
    have hbN2 : Below N W w2 := HB.out.trans (hbw2.mono (by omega))
    have hK2 : OpK (M + 1) (M + 1 + 1) (.slice pv nv kv) (.slice p2 nd k2) l D w2 := by
      refine ⟨?_, HV.out _ hbN2, ?_, HD.out _ hbN2⟩
      · rw [hw2]; exact ((Bx.new' hs1 _ _).alloc _).cell 0
      · rw [hw2]; exact (Bx.new' (by simp [hs1]) _ _).cell 0
    have HK2 : Hid (OpK (M + 1) (M + 1 + 1) (.slice pv nv kv) (.slice p2 nd k2) l D w2) := hK2
    have R4 : Hid (Bx w2 N #[.slice none 0 0, .int .i64 0, .int .i64 0] 71) := Q4.out.below hbw2
    have R5 : Hid (Bx w2 (N + 1) #[.slice none 0 0, .int .i64 0, .int .i64 0] 71) := Q5.out.below hbw2
    have R7 : Hid (Bx w2 M #[.slice pv nv kv, .int .i64 sel, .int .i64 val] 71) := B7.out.below (by rw [hs1]; exact hb2)
    have HB2 : Hid (Below N W w2) := hbN2
    have HS2 : Hid (M + 3 = w2.heap.size) := by unfold Hid; rw [hw2]; simp [hs1]
    have HNM : Hid (N + 2 ≤ M) := by rw [Hid, ← hM]; exact hsz
    have HM2 : Hid (∀ Dd ∈ Ms, N + 2 ≤ Dd ∧ Dd < M ∧ w2.heap[Dd]? = some (.deferred (some []))) := fun Dd hDd => by
      obtain ⟨q1, q2⟩ := HMs.out Dd hDd
      have q3 := (Array.getElem?_eq_some_iff.1 q2).1
      exact ⟨q1, by rw [← hM]; exact q3, (hbw2.block Dd q3).trans q2⟩
    clear hw2 hb2 hbw2 hbN2 hK2 hs1 g0 g1 g2 z0 z1 z2 hsz hM Q4 Q5 HMs B7 HB1 HW1
    gi_wp2
    refine range_any (id := 0) _ 89 _ _ _ (open1_tells (M + 1) (M + 1 + 1) (.slice pv nv kv) (.slice p2 nd k2) l D HG.out (by have := HPL.out; omega) (by have := HZ.out.d; omega)) rfl callOpen1
      (fun k X => k = 0 ∧ Bx X N #[.slice none 0 0, .int .i64 0, .int .i64 0] 71 ∧ Bx X (N + 1) #[.slice none 0 0, .int .i64 0, .int .i64 0] 71 ∧ Bx X M #[.slice pv nv kv, .int .i64 sel, .int .i64 val] 71 ∧ Below w2.heap.size w2 X)
      (fun X => openL l D ≠ [] ∧ Bx X N #[.slice none 0 0, .int .i64 0, .int .i64 0] 71 ∧ Bx X (N + 1) #[.slice pv nv kv, .int .i64 sel, .int .i64 val] 71 ∧ Below N W X ∧ (∀ Dd ∈ Ms, X.heap[Dd]? = some (.deferred (some [])))) (fun _ => False) (fun k X h => HK2.out.below h.2.2.2.2) ?hIb ?hIp ?hXp (fun _ _ _ _ _ h => h.elim) ⟨rfl, R4.out, R5.out, R7.out, Below.refl _ _⟩
      (fun v => { tmps := #[.slice (some ⟨b, off, none⟩) n k1, .slice p2 nd k2, undef, undef, .pointer (some ⟨N, 0, none⟩), .pointer (some ⟨N + 1, 0, none⟩), undef, .pointer (some ⟨M, 0, none⟩), .slice (some ⟨b, off, none⟩) n k1, .int .i64 n, .int .i64 (j : Int), .bool true, .pointer (some ⟨b, off + j * 3, none⟩), .agg #[.slice pv nv kv, .int .i64 sel, .int .i64 val], .pointer (some ⟨M, 0, none⟩), .slice pv nv kv, .slice p2 nd k2, .func (.func 89) #[] #[.pointer (some ⟨M + 1, 0, none⟩), .pointer (some ⟨M + 1 + 1, 0, none⟩)], v, undef, x20, undef, undef, undef, undef, undef, undef, undef, undef, undef, undef, undef, undef, undef, undef, undef], defers := [] }) ?assign ?body ?left (fun _ _ _ h => h.elim) ?done
    case hIb =>
      rintro k X X' hX ⟨rfl, h1, h2, h3, h4⟩ hb
      exact ⟨rfl, h1.below hb, h2.below hb, h3.below hb, h4.trans (hb.mono h4.size)⟩
    case hIp =>
      rintro k X jj o o' hjj ⟨rfl, h1, h2, h3, h4⟩ ho hc
      exact ⟨rfl, h1.put ho hc, h2.put ho hc, h3.put ho hc, below_put h4 hjj _⟩
    case hXp =>
      rintro X jj o o' hjj ⟨h0, h1, h2, h4, h5⟩ ho hc
      have hw := HS2.out
      have hm := HNM.out
      refine ⟨h0, h1.put ho hc, h2.put ho hc, below_put h4 (by omega) _, fun Dd hDd => ?_⟩
      · have := (HM2.out Dd hDd).2.1
        exact (World.putObj_heap_other (by omega)).trans (h5 Dd hDd)
    case assign =>
      intro l m v X K hK
      gi_wp2
      exact hK
    case body =>
      rintro lr m k x X hx hX ⟨rfl, h1, h2, h3, h4⟩
      obtain ⟨y0, y1, y2⟩ := h3.three
      obtain ⟨x0, x1, x2⟩ := h2.three
      have f0 := h2.fr 0
      have f1 := h2.fr 1
      have f2 := h2.fr 2
      have HNE : Hid (openL l D ≠ []) := fun e => by rw [e] at hx; simp at hx
      have HH4 : Hid (Below w2.heap.size w2 X) := h4
      clear hx h4
      gi_wp2
      have hne := HNE.out
      have h4 := HH4.out
      have hw := HS2.out
      have hm := HNM.out
      have k1 := KA.set h2 w2.heap.size 0 (.slice pv nv kv)
      have s1 := h2.setc (o := 0) (by simp) (.slice pv nv kv)
      have k2 := KA.set s1 w2.heap.size 1 (.int .i64 sel)
      have s2 := s1.setc (o := 1) (by simp) (.int .i64 sel)
      have k3 := KA.set s2 w2.heap.size 2 (.int .i64 val)
      have hq : Below N W X := HB2.out.trans (h4.mono (by omega))
      refine ⟨rfl, (k1.trans k2).trans k3, hne, ((h1.other (by omega) _ _).other (by omega) _ _).other (by omega) _ _, h2.set3 _ _ _, ?_, fun Dd hDd => ?_⟩
      · exact ((hq.setCell (p := ⟨N + 1, 0, none⟩) (by show N ≤ N + 1; omega) _).setCell (p := ⟨N + 1, 1, none⟩) (by show N ≤ N + 1; omega) _).setCell (p := ⟨N + 1, 2, none⟩) (by show N ≤ N + 1; omega) _
      · obtain ⟨q1, q2, q3⟩ := HM2.out Dd hDd
        have q4 : X.heap[Dd]? = some (.deferred (some [])) := (h4.block Dd (by omega)).trans q3
        exact (Below.heap_setCell _ _ _ Dd (by show Dd ≠ N + 1; omega)).trans ((Below.heap_setCell _ _ _ Dd (by show Dd ≠ N + 1; omega)).trans ((Below.heap_setCell _ _ _ Dd (by show Dd ≠ N + 1; omega)).trans q4))
    case left =>
      rintro Dd X hDd ⟨hne, h1, h2, h4, h5⟩ hDef
      obtain ⟨y0, y1, y2⟩ := h2.three
      have hnv : 0 < nv := by
        rcases Nat.eq_zero_or_pos nv with h | h
        · exact absurd (by rw [List.eq_nil_of_length_eq_zero (HNV.out.trans h)]; rfl) hne
        · exact h
      have hnv' : ((nv : Int) == 0) = false := by simp; omega
      have hnv2 : ¬ (nv : Int) = 0 := by omega
      have H1 : Hid (Bx X N #[.slice none 0 0, .int .i64 0, .int .i64 0] 71) := h1
      have H2 : Hid (Bx X (N + 1) #[.slice pv nv kv, .int .i64 sel, .int .i64 val] 71) := h2
      have H4 : Hid (Below N W X) := h4
      have HDs : Hid (∀ E ∈ Dd :: Ms, N + 2 ≤ E ∧ X.heap[E]? = some (.deferred (some []))) := fun E hE => by
        rcases List.mem_cons.1 hE with rfl | hE
        · exact ⟨by have := HS2.out; have := HNM.out; omega, hDef⟩
        · exact ⟨(HM2.out E hE).1, h5 E hE⟩
      have HND2 : Hid ((Dd :: Ms).Nodup) := List.nodup_cons.2 ⟨fun hm => by have := (HM2.out Dd hm).2.1; have := HS2.out; omega, hnd⟩
      have HNF : Hid (phaseM D L = ⟨openL l D, sel, val⟩) := by unfold Hid; rw [HNX.out, HND.out, if_neg hne]
      clear h1 h2 h4 hDef h5 HND HNX hne
      gi_wp2
      refine ⟨trivial, (callsIn_wide.2 (openOf_any pv nv kv p2 nd k2 X)).mono ?_⟩
      rintro e w3 ⟨rfl, hw3⟩
      obtain ⟨M3, hM3⟩ : ∃ M, X.heap.size = M := ⟨_, rfl⟩
      have hb3 : Below X.heap.size X w3 := by rw [hw3]; exact ((Below.refl _ X).alloc (Nat.le_refl _) _).alloc (by simp) _
      have hbN3 : Below N W w3 := H4.out.trans (hb3.mono (by have := H4.out.size; have := HN.out; omega))
      have hK3 : OpK M3 (M3 + 1) (.slice pv nv kv) (.slice p2 nd k2) l D w3 := by
        refine ⟨?_, HV.out _ hbN3, ?_, HD.out _ hbN3⟩
        · rw [hw3]; exact ((Bx.new' hM3 _ _).alloc _).cell 0
        · rw [hw3]; exact (Bx.new' (by simp [hM3]) _ _).cell 0
      have kc := collect_open hK3 HG.out HPL.out (by have := HZ.out.d; omega)
      have Q1 : Hid (Bx w3 N #[.slice none 0 0, .int .i64 0, .int .i64 0] 71) := H1.out.below hb3
      have Q2 : Hid (Bx w3 (N + 1) #[.slice pv nv kv, .int .i64 sel, .int .i64 val] 71) := H2.out.below hb3
      have Q3 : Hid (Below N W w3) := hbN3
      have Q4 : Hid (∀ E ∈ Dd :: Ms, N + 2 ≤ E ∧ w3.heap[E]? = some (.deferred (some []))) := fun E hE => ⟨(HDs.out E hE).1, (hb3.block E (Array.getElem?_eq_some_iff.1 (HDs.out E hE).2).1).trans (HDs.out E hE).2⟩
      rw [hM3]
      clear hw3 hb3 hbN3 hK3 y0 y1 y2 hM3
      gi_wp2
      refine ⟨trivial, (callsIn_wide.2 kc).mono ?_⟩
      clear kc
      rintro e w4 ⟨v, rfl, ho4, hb4⟩
      obtain ⟨va, vc, rfl⟩ := ho4.shape
      obtain ⟨vn, hvn⟩ : ∃ q, (openL l D).length = q := ⟨_, rfl⟩
      rw [hvn] at ho4 ⊢
      have R1 : Hid (Bx w4 N #[.slice none 0 0, .int .i64 0, .int .i64 0] 71) := Bx.below Q1.out hb4
      have R2 : Hid (Bx w4 (N + 1) #[.slice pv nv kv, .int .i64 sel, .int .i64 val] 71) := Bx.below Q2.out hb4
      have R8 : Hid (∀ E ∈ Dd :: Ms, N + 2 ≤ E ∧ w4.heap[E]? = some (.deferred (some []))) := fun E hE => ⟨(Q4.out E hE).1, (hb4.block E (Array.getElem?_eq_some_iff.1 (Q4.out E hE).2).1).trans (Q4.out E hE).2⟩
      have R3 : Hid (Below N W w4) := Q3.out.trans (hb4.mono (by have := Q3.out.size; have := HN.out; omega))
      have HO4 : Hid _ := ho4
      have HSZ : Hid (N ≤ w3.heap.size) := by have := Q3.out.size; have := HN.out; unfold Hid; omega
      obtain ⟨y0, y1, y2⟩ := Bx.three R2.out
      have f0 := Bx.fr R2.out 0
      have g0 := Bx.fr R1.out 0
      have g1 := Bx.fr R1.out 1
      have g2 := Bx.fr R1.out 2
      obtain ⟨x0, x1, x2⟩ := Bx.three R1.out
      clear ho4 hb4 hvn
      gi_wp2
      obtain ⟨w5, hw5⟩ : ∃ q, (((w4.setCell ⟨N + 1, 0, none⟩ (.slice va vn vc)).setCell ⟨N, 0, none⟩ (.slice va vn vc)).setCell ⟨N, 1, none⟩ (.int .i64 sel)).setCell ⟨N, 2, none⟩ (.int .i64 val) = q := ⟨_, rfl⟩
      rw [hw5]
      have hdf : ∀ E ∈ Dd :: Ms, N + 2 ≤ E ∧ w5.heap[E]? = some (.deferred (some [])) := fun E hE => by
        obtain ⟨q1, q2⟩ := R8.out E hE
        refine ⟨q1, ?_⟩
        rw [← hw5]
        exact (Below.heap_setCell _ _ _ E (by show E ≠ N; omega)).trans ((Below.heap_setCell _ _ _ E (by show E ≠ N; omega)).trans ((Below.heap_setCell _ _ _ E (by show E ≠ N; omega)).trans ((Below.heap_setCell _ _ _ E (by show E ≠ N + 1; omega)).trans q2)))
      have hbx : Bx w5 N #[.slice va vn vc, .int .i64 sel, .int .i64 val] 71 := by rw [← hw5]; exact (Bx.other R1.out (show N ≠ N + 1 by omega) 0 (.slice va vn vc)).set3 (.slice va vn vc) (.int .i64 sel) (.int .i64 val)
      have hbN : Below N W w5 := by
        rw [← hw5]
        exact (((R3.out.setCell (p := ⟨N + 1, 0, none⟩) (by show N ≤ N + 1; omega) _).setCell (p := ⟨N, 0, none⟩) (Nat.le_refl _) _).setCell (p := ⟨N, 1, none⟩) (Nat.le_refl _) _).setCell (p := ⟨N, 2, none⟩) (Nat.le_refl _) _
      have hoi : Oi N w5 (.slice va vn vc) (openL l D) := by
        have hb : Oi N w4 (.slice va vn vc) (openL l D) := own_base HO4.out HSZ.out
        refine own_keep hb fun g q => ?_
        obtain ⟨_, _, cur, hc⟩ := hb.typ q
        have e1 : g ≠ N := fun e => by subst e; rw [Bx.h R1.out] at hc; cases hc
        have e2 : g ≠ N + 1 := fun e => by subst e; rw [Bx.h R2.out] at hc; cases hc
        rw [← hw5]
        exact (Below.heap_setCell _ _ _ g e1).trans ((Below.heap_setCell _ _ _ g e1).trans ((Below.heap_setCell _ _ _ g e1).trans (Below.heap_setCell _ _ _ g e2)))
      clear hw5
      refine leaves_marks (N + 2) (fun w => Bx w N #[.slice va vn vc, .int .i64 sel, .int .i64 val] 71 ∧ Below N W w ∧ Oi N w (.slice va vn vc) (openL l D)) ?_ ?_ (Dd :: Ms) w5 ⟨hbx, hbN, hoi⟩ HND2.out hdf
      · rintro w k o' ⟨q1, q2, q3⟩ hk hw
        exact ⟨q1.put hw rfl, below_put q2 (by omega) _, q3.put hw rfl⟩
      · rintro w ⟨q1, q2, q3⟩
        refine ⟨_, results_cell_row rfl _ _ N 71 _ (0, 0) _ rfl q1.h Tryz.underlying71 rfl (by kernel_rfl), .slice va vn vc, ?_, ?_, ?_⟩
        · rw [HNF.out]
        · rw [HNF.out]; exact q3
        · exact q2
    case done =>
      rintro Dd X hDd ⟨hz, h1, h2, h3, h4⟩ hDef
      rw [List.length_map] at hz
      have hem : openL l D = [] := List.eq_nil_of_length_eq_zero hz
      gi_wp2
      refine ⟨⟨j + 1, Dd :: Ms, _, _, _, _, _, _, _, _, _, _, rfl, by omega, List.nodup_cons.2 ⟨fun hm => by have := (HM2.out Dd hm).2.1; have := HS2.out; omega, hnd⟩, fun E hE => ?_, ?_, HB2.out.trans (h4.mono (by have := HS2.out; have := HNM.out; omega)), h1, h2⟩, ?_⟩
      · rcases List.mem_cons.1 hE with rfl | hE
        · exact ⟨by have := HS2.out; have := HNM.out; omega, hDef⟩
        · exact ⟨(HM2.out E hE).1, (h4.block E (by have := (HM2.out E hE).2.1; have := HS2.out; omega)).trans (HM2.out E hE).2.2⟩
      · unfold Hid; rw [HNX.out, HND.out, if_pos hem]
      · simp [intOf]; omega
  · have hlt' : ¬ (j : Int) < (n : Int) := by omega
    obtain rfl : j = n := by omega
    have HNF : Hid (phaseM D L = ⟨openAll D, 0, 0⟩) := by unfold Hid; rw [HNX.out, List.drop_of_length_le (by rw [HLN.out]; exact Nat.le_refl _)]; rfl
    obtain ⟨y0, y1, y2⟩ := Q5.out.three
    have ko := open_any (HD.out _ HB.out) HG.out HZ.out.d
    clear HNX
    gi_wp2
    refine ⟨trivial, (callsIn_wide.2 ko).mono ?_⟩
    clear ko y0 y1 y2
    rintro e w3 ⟨B, s, rfl, hv3, hb3⟩
    have kc := collect_any 87 #[.pointer (some ⟨B, 0, none⟩)] (openAll D) _ w3 (values_tells B s (openAll D) (by have := openL_le (rangeI D.length) D; rw [rangeI_len] at this; have := HZ.out.d; unfold openAll; omega)) callValues1 (fun w' hb => hv3.below hb) (by have := openL_le (rangeI D.length) D; rw [rangeI_len] at this; have := HZ.out.d; unfold openAll; omega)
    have Q1 : Hid (Bx w3 N #[.slice none 0 0, .int .i64 0, .int .i64 0] 71) := Q4.out.below hb3
    have Q3 : Hid (Below N W w3) := HB.out.trans (hb3.mono (by omega))
    have R8 : Hid (∀ E ∈ Ms, N + 2 ≤ E ∧ w3.heap[E]? = some (.deferred (some []))) := fun E hE => ⟨(HMs.out E hE).1, (hb3.block E (Array.getElem?_eq_some_iff.1 (HMs.out E hE).2).1).trans (HMs.out E hE).2⟩
    clear hb3 hv3 Q4 Q5 HMs
    gi_wp2
    refine ⟨trivial, (callsIn_wide.2 kc).mono ?_⟩
    clear kc
    rintro e w4 ⟨v, rfl, ho4, hb4⟩
    obtain ⟨va, vc, rfl⟩ := ho4.shape
    obtain ⟨vn, hvn⟩ : ∃ q, (openAll D).length = q := ⟨_, rfl⟩
    rw [hvn] at ho4 ⊢
    have R1 : Hid (Bx w4 N #[.slice none 0 0, .int .i64 0, .int .i64 0] 71) := Bx.below Q1.out hb4
    have R9 : Hid (∀ E ∈ Ms, N + 2 ≤ E ∧ w4.heap[E]? = some (.deferred (some []))) := fun E hE => ⟨(R8.out E hE).1, (hb4.block E (Array.getElem?_eq_some_iff.1 (R8.out E hE).2).1).trans (R8.out E hE).2⟩
    have HSZ : Hid (N ≤ w3.heap.size) := by have := Q3.out.size; have := HN.out; unfold Hid; omega
    have R3 : Hid (Below N W w4) := Q3.out.trans (hb4.mono HSZ.out)
    have HO4 : Hid (Oi w3.heap.size w4 (.slice va vn vc) (openAll D)) := ho4
    have g0 := Bx.fr R1.out 0
    have g1 := Bx.fr R1.out 1
    have g2 := Bx.fr R1.out 2
    obtain ⟨x0, x1, x2⟩ := Bx.three R1.out
    clear ho4 hb4 hvn
    gi_wp2
    obtain ⟨w5, hw5⟩ : ∃ q, ((w4.setCell ⟨N, 0, none⟩ (.slice va vn vc)).setCell ⟨N, 1, none⟩ (.int .i64 0)).setCell ⟨N, 2, none⟩ (.int .i64 0) = q := ⟨_, rfl⟩
    rw [hw5]
    have hdf : ∀ E ∈ Ms, N + 2 ≤ E ∧ w5.heap[E]? = some (.deferred (some [])) := fun E hE => by
      obtain ⟨q1, q2⟩ := R9.out E hE
      refine ⟨q1, ?_⟩
      rw [← hw5]
      exact (Below.heap_setCell _ _ _ E (by show E ≠ N; omega)).trans ((Below.heap_setCell _ _ _ E (by show E ≠ N; omega)).trans ((Below.heap_setCell _ _ _ E (by show E ≠ N; omega)).trans q2))
    have hbx : Bx w5 N #[.slice va vn vc, .int .i64 0, .int .i64 0] 71 := by rw [← hw5]; exact R1.out.set3 (.slice va vn vc) (.int .i64 0) (.int .i64 0)
    have hbN : Below N W w5 := by
      rw [← hw5]
      exact ((R3.out.setCell (p := ⟨N, 0, none⟩) (Nat.le_refl _) _).setCell (p := ⟨N, 1, none⟩) (Nat.le_refl _) _).setCell (p := ⟨N, 2, none⟩) (Nat.le_refl _) _
    have hoi : Oi N w5 (.slice va vn vc) (openAll D) := by
      have hb : Oi N w4 (.slice va vn vc) (openAll D) := own_base HO4.out HSZ.out
      refine own_keep hb fun g q => ?_
      obtain ⟨_, _, cur, hc⟩ := hb.typ q
      have e1 : g ≠ N := fun e => by subst e; rw [Bx.h R1.out] at hc; cases hc
      rw [← hw5]
      exact (Below.heap_setCell _ _ _ g e1).trans ((Below.heap_setCell _ _ _ g e1).trans (Below.heap_setCell _ _ _ g e1))
    clear hw5
    refine leaves_marks (N + 2) (fun w => Bx w N #[.slice va vn vc, .int .i64 0, .int .i64 0] 71 ∧ Below N W w ∧ Oi N w (.slice va vn vc) (openAll D)) ?_ ?_ Ms w5 ⟨hbx, hbN, hoi⟩ hnd hdf
    · rintro w k o' ⟨q1, q2, q3⟩ hk hw
      exact ⟨q1.put hw rfl, below_put q2 (by omega) _, q3.put hw rfl⟩
    · rintro w ⟨q1, q2, q3⟩
      refine ⟨_, results_cell_row rfl _ _ N 71 _ (0, 0) _ rfl q1.h Tryz.underlying71 rfl (by kernel_rfl), .slice va vn vc, ?_, ?_, ?_⟩
      · rw [HNF.out]
      · rw [HNF.out]; exact q3
      · exact q2
end Go.Proofs.YthkliicmoandmaaGreatDoor
