/-
  What is proved here: the walk of SetsAll.
-/
import Derived.Test.YtacnhkaibcjjgaaGreatDoorUjj
import Derived.Test.YtacnhkaibcjjgaaGreatDoorWrj
import Derived.Test.YtacnhkaibcjjgaaGreatDoorTd
import Derived.Test.YtacnhkaibcjjgaaGreatDoorKmj
import Derived.Test.YtacnhkaibcjjgaaGreatDoorTej
namespace Go.Proofs.YtacnhkaibcjjgaaGreatDoor
open Go.RowKit Go.Shelf
set_option linter.unusedVariables false
set_option linter.unusedSimpArgs false
attribute [local go_sem] Oper.semAt_some
theorem lent_lk (v : Value) (d : SD) (fr : List Int) (W : World) (h : Dr W v d fr) :
    Calls Tryz.prog 37 #[v] W fun e w' => ∃ x0 ra rn rc a1 n1 c1 a2 n2 c2 x4 x5, e = .returned (.agg #[.bool x0, .slice ra rn rc, .slice a1 n1 c1, .slice a2 n2 c2, .int .i64 x4, .int .i64 x5]) ∧ Hid (Dr w' (.agg #[.bool x0, .slice ra rn rc, .slice a1 n1 c1, .slice a2 n2 c2, .int .i64 x4, .int .i64 x5]) d fr) ∧ Below W.heap.size W w' :=
  (lent_dom v d fr W h).mono fun e w' ⟨v, he, hD, hb⟩ => by
    obtain ⟨x0, ra, rn, rc, a1, n1, c1, a2, n2, c2, x4, x5, rfl, _⟩ := hD.look
    exact ⟨_, _, _, _, _, _, _, _, _, _, _, _, he, hD, hb⟩
theorem eqi {P : Program} {F : Nat} {args : Array Value} {W : World} {b c : Int} {Q : World → Prop} (h : b = c) (k : Calls P F args W fun e w' => e = .returned (.int .i64 b) ∧ Q w') : Calls P F args W fun e w' => e = .returned (.int .i64 c) ∧ Q w' := by
  subst h; exact k
theorem wp_calm {P : Program} {c : Code} {K : Act → World → Prop} {Q : Exit → Act → World → Prop} {a : Act} {w : World} (h : c.wp P (Exit.then K (fun _ _ _ => False)) a w) : c.wp P (Exit.then K Q) a w :=
  wp_mono h (fun e a w h => by cases e <;> first | exact h | exact h.elim)
/-- A variable in memory. -/
structure C1 (w : World) (g : Nat) (v : Value) (t : TypeId) : Prop where
  h : w.heap[g]? = some (.cells #[v] t (0, 0))
theorem C1.below {w w' : World} {g : Nat} {v : Value} {t : TypeId} (h : C1 w g v t) (hb : Below w.heap.size w w') : C1 w' g v t := ⟨(hb.block _ (Array.getElem?_eq_some_iff.1 h.h).1).trans h.h⟩
theorem C1.cell {w : World} {g : Nat} {v : Value} {t : TypeId} (h : C1 w g v t) : w.cell? ⟨g, 0, none⟩ = some v := (cell_row h.h 0).trans rfl
theorem C1.fz {w : World} {g : Nat} {v : Value} {t : TypeId} (h : C1 w g v t) : w.frozen? ⟨g, 0, none⟩ = false := by simp [World.frozen?, h.h]
theorem C1.lt {w : World} {g : Nat} {v : Value} {t : TypeId} (h : C1 w g v t) : g < w.heap.size := (Array.getElem?_eq_some_iff.1 h.h).1
theorem C1.set {w : World} {g : Nat} {v u : Value} {t : TypeId} (h : C1 w g v t) : C1 (w.setCell ⟨g, 0, none⟩ u) g u t := ⟨by rw [row_set h.h]; rfl⟩
theorem C1.res {fn : Func} {p : Tmp} (hf : fn.results = #[.cell p 4]) (tmps : Array Value) {w : World} {g : Nat} {v : Value} (h : C1 w g v 4) (hp : tmps.getD p undef = .pointer (some ⟨g, 0, none⟩)) : (results fn tmps).run Tryz.prog w = .ok v w := by
  have hp' : tmps[p]?.getD undef = .pointer (some ⟨g, 0, none⟩) := by simpa using hp
  have hc := h.cell
  simp [results, hf, hp', asAddr, Sem.run_bind, Result.andThen, go_sem, hc]
/-- All that could be read is as it was. -/
def Kc (W X : World) : Prop := W.heap.size ≤ X.heap.size ∧ ∀ b o v, W.cell? ⟨b, o, none⟩ = some v → X.cell? ⟨b, o, none⟩ = some v
theorem Kc.below {W X Y : World} (h : Kc W X) (hb : Below X.heap.size X Y) : Kc W Y := ⟨Nat.le_trans h.1 hb.size, fun b o v hc => (hb.cell (p := ⟨b, o, none⟩) (cell_lt (h.2 b o v hc))).trans (h.2 b o v hc)⟩
theorem Kc.of_below {W X : World} (hb : Below W.heap.size W X) : Kc W X := ⟨hb.size, fun b o v hc => (hb.cell (p := ⟨b, o, none⟩) (cell_lt hc)).trans hc⟩
theorem Kc.di {W X : World} (h : Kc W X) {v : Value} {d : SD} (hd : Di W v d) : Di X v d := by
  obtain ⟨ra, rc, slo, sup, e, h1, h2⟩ := hd
  exact ⟨ra, rc, slo, sup, e, h1.kept h.1 h.2, h2.kept h.1 h.2⟩
theorem Kc.dr {W X : World} (h : Kc W X) {v : Value} {d : SD} {fr : List Int} (hd : Dr W v d fr) : Dr X v d fr := by
  obtain ⟨ra, rc, slo, sup, e, h1, h2, h3, h4⟩ := hd
  refine ⟨ra, rc, slo, sup, e, h1.kept h.1 h.2, h2.kept h.1 h.2, ?_, h4⟩
  obtain ⟨a, n, cap, e1, e2, e3⟩ := h3
  exact ⟨a, n, cap, e1, e2, fun h0 => by obtain ⟨b, off, g1, g2, g3⟩ := e3 h0; exact ⟨b, off, g1, Nat.lt_of_lt_of_le g2 h.1, fun i hi => h.2 _ _ _ (g3 i hi)⟩⟩
theorem Outs.at {w : World} {B n c : Nat} {p : Option Addr} {L : List (List Int)} (h : Outs w B (.slice p n c) L) {i : Nat} {l : List Int} (hl : L[i]? = some l) :
    ∃ g q m k, p = some ⟨g, 0, none⟩ ∧ i < n ∧ n ≤ c ∧ w.cell? ⟨g, i, none⟩ = some (.slice q m k) ∧ Si w (.slice q m k) l := by
  obtain ⟨vs, h1, h2⟩ := h
  obtain ⟨v, e1, e2⟩ := h2 i l hl
  have hi : i < L.length := (List.getElem?_eq_some_iff.1 hl).1
  rcases h1.2 with ⟨e3, e4⟩ | ⟨g, cap, cur, e3, hg, hgb, hn, hm, hs, ht⟩
  · omega
  · injection e3 with e5 e6 e7
    obtain ⟨q, k, rfl⟩ := own_slice e2
    refine ⟨g, q, _, k, e5, by omega, by omega, ?_, own_si e2⟩
    simp only [World.cell?, hgb]
    rw [if_neg (by simp)]
    rw [← ht, List.getElem?_take, if_pos (by omega), Array.getElem?_toList] at e1
    exact e1
theorem emp_taken (d : SD) : emptyD (takenD d) = emptyD d := by
  cases h : emptyD d
  · obtain ⟨hr, q1, q2, q3⟩ := nonempty_facts h
    have e : takenD d = tightD d.lo d.up d.least d.most := by unfold takenD; rw [if_pos hr]
    unfold emptyD
    rw [show rightD (takenD d) = true from decide_eq_true (taken_right d), e]
    rcases tight_cases d.least d.most hr.2.2.1 hr.2.2.2.1 (right_sub hr) with ⟨e1, e2⟩ | ⟨e1, e2, e3⟩ | ⟨e1, e2, e3, e4⟩ | ⟨e1, e2, e3⟩
    · omega
    · rw [e1]; simp [TD]
    · rw [e1]; simp [TD]
    · rw [e1]
      simp only [TD, Bool.not_true, Bool.false_or]
      exact decide_eq_false (Int.not_lt.2 e2)
  · unfold takenD
    by_cases hr : RightD d
    · rw [if_pos hr]
      unfold emptyD at h
      rw [show rightD d = true from decide_eq_true hr] at h
      simp only [Bool.not_true, Bool.false_or, decide_eq_true_eq] at h
      have : tightD d.lo d.up d.least d.most = noneD := by
        unfold tightD
        rw [if_pos (by omega)]
      rw [this]; decide
    · rw [if_neg hr]; decide
/-- What a round has left behind: the number's variable, and all that was there. -/
def Ri (An : Nat) (wn W : World) (n : Nat) (X : World) : Prop := C1 X An (.int .i64 (n : Int)) 3 ∧ Kc wn X ∧ Below W.heap.size W X ∧ C1 X (W.heap.size + 1) (.bool false) 4
theorem Ri.below {An : Nat} {wn W X Y : World} {n : Nat} (h : Ri An wn W n X) (hb : Below X.heap.size X Y) : Ri An wn W n Y := ⟨h.1.below hb, h.2.1.below hb, h.2.2.1.trans (hb.mono h.2.2.1.size), h.2.2.2.below hb⟩
theorem Ri.put {An : Nat} {wn W X : World} {n k : Nat} {o o' : Obj} (h : Ri An wn W n X) (hk : An < k) (hW : W.heap.size + 1 < k) (ho : X.heap[k]? = some o) (hc : o.isCells = false) : Ri An wn W n (X.putObj k o') := by
  have hg := grownBy_putObj' X k o'
  refine ⟨⟨(World.putObj_heap_other (by omega)).trans h.1.h⟩, ⟨Nat.le_trans h.2.1.1 hg.size, fun b q v hv => ?_⟩, h.2.2.1.trans ((Below.refl _ X).grown hg (h.2.2.1.size) (fun r e => by cases e; omega)), ⟨(World.putObj_heap_other (by omega)).trans h.2.2.2.h⟩⟩
  exact cell_kept (h.2.1.2 b q v hv) hg (fun r e => by cases e; exact ⟨_, ho, hc⟩)
/-- What the writes of a round leave: one block of numbers is written, all others are as they were. -/
structure Lw (A sz : Nat) (X w : World) : Prop where
  b : Below A X w
  n : w.heap.size = X.heap.size
  k : ∀ b, b ≠ A → w.heap[b]? = X.heap[b]?
  r : ∃ cur, w.heap[A]? = some (.cells cur 95 (0, 0)) ∧ cur.size = sz
theorem Lw.set {A sz : Nat} {X w : World} (h : Lw A sz X w) (q : Nat) (v : Value) : Lw A sz X (w.setCell ⟨A, q, none⟩ v) := by
  obtain ⟨cur, hc, hs⟩ := h.r
  refine ⟨h.b.setCell (p := ⟨A, q, none⟩) (Nat.le_refl _) v, ?_, fun b hb => (Below.heap_setCell _ _ _ b hb).trans (h.k b hb), ⟨_, row_set hc q v, by simpa using hs⟩⟩
  rw [← h.n]; simp [World.setCell]
theorem Lw.at {A sz : Nat} {X w : World} (h : Lw A sz X w) {q : Nat} (hq : q < sz) : ∃ u, w.cell? ⟨A, q, none⟩ = some u ∧ w.frozen? ⟨A, q, none⟩ = false := by
  obtain ⟨cur, hc, hs⟩ := h.r
  exact ⟨_, (cell_row hc q).trans (Array.getElem?_eq_getElem (by omega)), frozen_of_row w A q _ 95 hc⟩
theorem Lw.ri {A sz An n : Nat} {wn W X w : World} (h : Lw A sz X w) (hi : Ri An wn W n X) (hA : An < A) (hn : wn.heap.size ≤ A) (hW : W.heap.size + 1 < A) : Ri An wn W n w :=
  ⟨⟨(h.k An (by omega)).trans hi.1.h⟩, ⟨by rw [h.n]; exact hi.2.1.1, fun b o v hc => by
    have hb := cell_lt hc
    have := hi.2.1.2 b o v hc
    rw [← this]
    simp only [World.cell?, h.k b (by omega)]⟩, hi.2.2.1.trans (h.b.mono (by omega)), ⟨(h.k _ (by omega)).trans hi.2.2.2.h⟩⟩
theorem Ri.next {An n : Nat} {wn W X : World} (hi : Ri An wn W n X) (hn : wn.heap.size ≤ An) (hW : W.heap.size + 1 < An) : Ri An wn W (n + 1) (X.setCell ⟨An, 0, none⟩ (.int .i64 ((n : Int) + 1))) :=
  ⟨by have := hi.1.set (u := .int .i64 ((n : Int) + 1)); rw [show ((n : Int) + 1) = ((n + 1 : Nat) : Int) by omega] at this ⊢; exact this,
   ⟨by have := hi.2.1.1; simpa [World.setCell] using this, fun b o v hc => by
    have hb := cell_lt hc
    have := hi.2.1.2 b o v hc
    rw [← this]
    simp only [World.cell?, Below.heap_setCell X ⟨An, 0, none⟩ _ b (show b ≠ An by omega)]⟩, hi.2.2.1.setCell (p := ⟨An, 0, none⟩) (show W.heap.size ≤ An by omega) _, ⟨(Below.heap_setCell X ⟨An, 0, none⟩ _ _ (show W.heap.size + 1 ≠ An by omega)).trans hi.2.2.2.h⟩⟩
theorem keeps_round {An A sz : Nat} {X Y w : World} {v : Value} (hb : Below X.heap.size X Y) (h : Lw A sz Y w) (hA : An ≤ A) (h95 : ∃ cur, X.heap[A]? = some (.cells cur 95 (0, 0))) (hX : C1 X An v 3) (u : Value) :
    KeepsOthers X (w.setCell ⟨An, 0, none⟩ u) ∧ Kq An An X (w.setCell ⟨An, 0, none⟩ u) := by
  obtain ⟨c95, h95⟩ := h95
  have hne : An ≠ A := fun e => by subst e; rw [hX.h] at h95; injection h95 with h95; injection h95 with _ e _; cases e
  have hsz : X.heap.size ≤ (w.setCell ⟨An, 0, none⟩ u).heap.size := by
    have := hb.size; have := h.n
    have e : (w.setCell ⟨An, 0, none⟩ u).heap.size = w.heap.size := by simp [World.setCell]
    omega
  have hsame : ∀ b, b < X.heap.size → b ≠ An → b ≠ A → (w.setCell ⟨An, 0, none⟩ u).heap[b]? = X.heap[b]? := fun b hlt h1 h2 =>
    (Below.heap_setCell _ _ _ b h1).trans ((h.k b h2).trans (hb.block b hlt))
  refine ⟨⟨hsz, fun k o hk ho => ?_⟩, ⟨hsz, fun b hbA hs => ?_⟩⟩
  · have hlt := (Array.getElem?_eq_some_iff.1 hk).1
    have h1 : k ≠ An := fun e => by subst e; rw [hX.h] at hk; injection hk with hk; rw [← hk] at ho; cases ho
    have h2 : k ≠ A := fun e => by subst e; rw [h95] at hk; injection hk with hk; rw [← hk] at ho; cases ho
    exact (hsame k hlt h1 h2).trans hk
  · have h2 : b ≠ A := fun e => by
      subst e
      rcases hs with hs | ⟨_, hs⟩
      · omega
      · exact hs c95 h95
    refine ⟨?_, fun o v hc => ?_⟩
    · rcases hs with hs | ⟨hlt, hs⟩
      · exact .inl hs
      · exact .inr ⟨Nat.lt_of_lt_of_le hlt hsz, fun cur => by rw [hsame b hlt hbA h2]; exact hs cur⟩
    · have hlt := cell_lt hc
      rw [← hc]
      simp only [World.cell?, hsame b hlt hbA h2]

set_option maxRecDepth 100000 in
set_option maxHeartbeats 4000000 in
theorem sall_walk (va : Value) (d : SD) (fa : List Int) (W : World) (ha : Dr W va d fa) (hM : MaxL W) (hE : ErrV W) (hT : Tens W.heap.size W) :
    Calls Tryz.prog 5 #[va] W fun e w' => e = .returned (.bool true) ∧ Below W.heap.size W w' := by
  have HM : Hid (MaxL W) := hM
  have hM0 := hM.1
  have HE' : Hid (ErrV W) := hE
  have hE0 := hE.1
  have HT : Hid (Tens W.heap.size W) := hT
  have K32 : Hid (∀ X, Below W.heap.size W X → Calls Tryz.prog 32 #[] X fun e w' => e = .returned (.bool true) ∧ Below X.heap.size X w') := fun X hX => known32 X (HM.out.below hX hM0) (HE'.out.below hX (by omega)) (Tens.here HT.out hX)
  obtain ⟨x0a, raa, rna, rca, a1a, n1a, c1a, a2a, n2a, c2a, x4a, x5a, rfl, _⟩ := ha.look
  have DA0 : Hid (Dr W (.agg #[.bool x0a, .slice raa rna rca, .slice a1a n1a c1a, .slice a2a n2a c2a, .int .i64 x4a, .int .i64 x5a]) d fa) := ha
  clear ha hM hE hT HM HE' HT hM0 hE0
  obtain ⟨w0, hW0⟩ : ∃ X, (W.alloc (Obj.cells #[.bool x0a, .slice raa rna rca, .slice a1a n1a c1a, .slice a2a n2a c2a, .int .i64 x4a, .int .i64 x5a] 37)).alloc (Obj.cells #[.bool false] 4) = X := ⟨_, rfl⟩
  have HW0 : Hid _ := hW0
  have hb0 : Below W.heap.size W w0 := by rw [← hW0]; exact ((Below.refl _ W).alloc (Nat.le_refl _) _).alloc (by simp) _
  have HA_0 : Hid (R6 w0 W.heap.size (.bool x0a) (.slice raa rna rca) (.slice a1a n1a c1a) (.slice a2a n2a c2a) (.int .i64 x4a) (.int .i64 x5a)) := by rw [← hW0]; exact (R6.new _ _ _ _ _ _ _).alloc _
  have R2_0 : Hid (C1 w0 (W.heap.size + 1) (.bool false) 4) := by
    rw [← hW0]; exact ⟨by have := World.alloc_heap_new (W.alloc (Obj.cells #[.bool x0a, .slice raa rna rca, .slice a1a n1a c1a, .slice a2a n2a c2a, .int .i64 x4a, .int .i64 x5a] 37)) (Obj.cells #[.bool false] 4); rwa [World.size_alloc] at this⟩
  clear hW0
  have DA_0 : Hid (Dr w0 (.agg #[.bool x0a, .slice raa rna rca, .slice a1a n1a c1a, .slice a2a n2a c2a, .int .i64 x4a, .int .i64 x5a]) d fa) := DA0.out.below hb0
  clear DA0
  refine (callsIn_wide (n := 6)).1 ?_
  refine callsIn_of_wp_marks Tryz.func5 rfl trivial ?_ rfl
  simp only [Tryz.ntmps5, List.size_toArray, List.length_cons, List.length_nil, Nat.reduceAdd, Nat.reduceSub, Array.replicate_succ, Array.replicate_zero, List.push_toArray, List.append_toArray, List.nil_append, List.cons_append]
  refine wpIn_wide.2 ?_
  go_upto_region 1 with (fail)
  rw [HW0.out]
  clear HW0
  obtain ⟨zA0, zA1, zA2, zA3, zA4, zA5⟩ := HA_0.out.cells
  go_wp2_with fail
  refine (lent_lk _ d fa _ DA_0.out).mono ?_
  rintro e w1 ⟨x0c, rac, rnc, rcc, a1c, n1c, c1c, a2c, n2c, c2c, x4c, x5c, rfl, HDC, hb⟩
  have hb1 : Below W.heap.size W w1 := hb0.trans (hb.mono hb0.size)
  have HA_1 : Hid _ := HA_0.out.below hb
  have DA_1 : Hid (Dr w1 (.agg #[.bool x0a, .slice raa rna rca, .slice a1a n1a c1a, .slice a2a n2a c2a, .int .i64 x4a, .int .i64 x5a]) d fa) := DA_0.out.below hb
  have R2_1 : Hid (C1 w1 (W.heap.size + 1) (.bool false) 4) := R2_0.out.below hb
  have DC_1 : Hid (Dr w1 (.agg #[.bool x0c, .slice rac rnc rcc, .slice a1c n1c c1c, .slice a2c n2c c2c, .int .i64 x4c, .int .i64 x5c]) d fa) := HDC.out
  clear HDC
  clear zA0 zA1 zA2 zA3 zA4 zA5
  clear hb hb0 HA_0 DA_0 R2_0
  have hz := below_setRow ((Below.refl w1.heap.size w1).alloc (Nat.le_refl _) (Obj.cells #[.bool false, .slice none 0 0, .slice none 0 0, .slice none 0 0, .int .i64 0, .int .i64 0] 37)) (Nat.le_refl w1.heap.size) #[.bool x0c, .slice rac rnc rcc, .slice a1c n1c c1c, .slice a2c n2c c2c, .int .i64 x4c, .int .i64 x5c]
  have hb2 := hb1.trans (hz.mono hb1.size)
  have HC_2 : Hid _ := (R6.new w1 (.bool false) (.slice none 0 0) (.slice none 0 0) (.slice none 0 0) (.int .i64 0) (.int .i64 0)).set (.bool x0c) (.slice rac rnc rcc) (.slice a1c n1c c1c) (.slice a2c n2c c2c) (.int .i64 x4c) (.int .i64 x5c)
  have HA_2 : Hid _ := HA_1.out.below hz
  have DA_2 : Hid (Dr ((w1.alloc (Obj.cells #[.bool false, .slice none 0 0, .slice none 0 0, .slice none 0 0, .int .i64 0, .int .i64 0] 37)).setRow w1.heap.size #[.bool x0c, .slice rac rnc rcc, .slice a1c n1c c1c, .slice a2c n2c c2c, .int .i64 x4c, .int .i64 x5c]) (.agg #[.bool x0a, .slice raa rna rca, .slice a1a n1a c1a, .slice a2a n2a c2a, .int .i64 x4a, .int .i64 x5a]) d fa) := DA_1.out.below hz
  have R2_2 : Hid (C1 ((w1.alloc (Obj.cells #[.bool false, .slice none 0 0, .slice none 0 0, .slice none 0 0, .int .i64 0, .int .i64 0] 37)).setRow w1.heap.size #[.bool x0c, .slice rac rnc rcc, .slice a1c n1c c1c, .slice a2c n2c c2c, .int .i64 x4c, .int .i64 x5c]) (W.heap.size + 1) (.bool false) 4) := R2_1.out.below hz
  have DC_2 : Hid (Dr ((w1.alloc (Obj.cells #[.bool false, .slice none 0 0, .slice none 0 0, .slice none 0 0, .int .i64 0, .int .i64 0] 37)).setRow w1.heap.size #[.bool x0c, .slice rac rnc rcc, .slice a1c n1c c1c, .slice a2c n2c c2c, .int .i64 x4c, .int .i64 x5c]) (.agg #[.bool x0c, .slice rac rnc rcc, .slice a1c n1c c1c, .slice a2c n2c c2c, .int .i64 x4c, .int .i64 x5c]) d fa) := DC_1.out.below hz
  clear hz HA_1 DA_1 R2_1 DC_1 hb1
  go_upto_region 2 with (with_reducible refine st37 rfl (.tmp 3) (.tmp 10) rfl w1.heap.size _ _ _ _ _ _ (by with_unfolding_all rfl) (by with_unfolding_all rfl) (R6.new w1 _ _ _ _ _ _) (six_dom _ _ _ _ _ _ _ _ _ _ _ _) ?_)
  simp only [Act.put]
  generalize (w1.alloc (Obj.cells #[.bool false, .slice none 0 0, .slice none 0 0, .slice none 0 0, .int .i64 0, .int .i64 0] 37)).setRow w1.heap.size #[.bool x0c, .slice rac rnc rcc, .slice a1c n1c c1c, .slice a2c n2c c2c, .int .i64 x4c, .int .i64 x5c] = w2 at hb2 HA_2 HC_2 DA_2 R2_2 DC_2 ⊢
  generalize w1.heap.size = GC at HC_2 ⊢
  obtain ⟨zA0, zA1, zA2, zA3, zA4, zA5⟩ := HA_2.out.cells
  go_wp2_with fail
  refine (refall_any _ d _ DA_2.out.di).mono ?_
  rintro e w3 ⟨s4, rfl, hO4, hb⟩
  have hb3 : Below W.heap.size W w3 := hb2.trans (hb.mono hb2.size)
  have HA_3 : Hid _ := HA_2.out.below hb
  have HC_3 : Hid _ := HC_2.out.below hb
  have DA_3 : Hid (Dr w3 (.agg #[.bool x0a, .slice raa rna rca, .slice a1a n1a c1a, .slice a2a n2a c2a, .int .i64 x4a, .int .i64 x5a]) d fa) := DA_2.out.below hb
  have R2_3 : Hid (C1 w3 (W.heap.size + 1) (.bool false) 4) := R2_2.out.below hb
  have DC_3 : Hid (Dr w3 (.agg #[.bool x0c, .slice rac rnc rcc, .slice a1c n1c c1c, .slice a2c n2c c2c, .int .i64 x4c, .int .i64 x5c]) d fa) := DC_2.out.below hb
  have HO_3 : Hid (Outs w3 0 s4 (wantD d)) := by obtain ⟨vs, e1, e2⟩ := hO4; exact ⟨vs, own_base e1 (Nat.zero_le _), e2⟩
  obtain ⟨pw, nw, cw, rfl, hnw⟩ := hO4.look
  have HNW : Hid ((wantD d).length = nw) := hnw
  clear hO4 hnw
  clear zA0 zA1 zA2 zA3 zA4 zA5
  clear hb hb2 HA_2 HC_2 DA_2 R2_2 DC_2
  go_upto_region 3 with (fail)
  have hz := (Below.refl w3.heap.size w3).alloc (Nat.le_refl _) (Obj.cells #[.slice pw nw cw] 49)
  have hb4 := hb3.trans (hz.mono hb3.size)
  have HW_4 : Hid (C1 (w3.alloc (Obj.cells #[.slice pw nw cw] 49)) w3.heap.size (.slice pw nw cw) 49) := ⟨World.alloc_heap_new _ _⟩
  have HA_4 : Hid _ := HA_3.out.below hz
  have HC_4 : Hid _ := HC_3.out.below hz
  have DA_4 : Hid (Dr (w3.alloc (Obj.cells #[.slice pw nw cw] 49)) (.agg #[.bool x0a, .slice raa rna rca, .slice a1a n1a c1a, .slice a2a n2a c2a, .int .i64 x4a, .int .i64 x5a]) d fa) := DA_3.out.below hz
  have R2_4 : Hid (C1 (w3.alloc (Obj.cells #[.slice pw nw cw] 49)) (W.heap.size + 1) (.bool false) 4) := R2_3.out.below hz
  have DC_4 : Hid (Dr (w3.alloc (Obj.cells #[.slice pw nw cw] 49)) (.agg #[.bool x0c, .slice rac rnc rcc, .slice a1c n1c c1c, .slice a2c n2c c2c, .int .i64 x4c, .int .i64 x5c]) d fa) := DC_3.out.below hz
  have HO_4 : Hid (Outs (w3.alloc (Obj.cells #[.slice pw nw cw] 49)) 0 (.slice pw nw cw) (wantD d)) := HO_3.out.below hz
  clear hz HA_3 HC_3 DA_3 R2_3 DC_3 HO_3 hb3
  generalize w3.alloc (Obj.cells #[.slice pw nw cw] 49) = w4 at hb4 HW_4 HA_4 HC_4 DA_4 R2_4 DC_4 HO_4 ⊢
  generalize w3.heap.size = GW at HW_4 ⊢
  obtain ⟨zC0, zC1, zC2, zC3, zC4, zC5⟩ := HC_4.out.cells
  go_wp2_with fail
  refine (each_any _ d _ DC_4.out.di).mono ?_
  rintro e w5 ⟨⟨B, rfl, p1', k1', p2', k2', hBge, hBr, r1, r2⟩, hb⟩
  have hb5 : Below W.heap.size W w5 := hb4.trans (hb.mono hb4.size)
  have HA_5 : Hid _ := HA_4.out.below hb
  have HC_5 : Hid _ := HC_4.out.below hb
  have DA_5 : Hid (Dr w5 (.agg #[.bool x0a, .slice raa rna rca, .slice a1a n1a c1a, .slice a2a n2a c2a, .int .i64 x4a, .int .i64 x5a]) d fa) := DA_4.out.below hb
  have R2_5 : Hid (C1 w5 (W.heap.size + 1) (.bool false) 4) := R2_4.out.below hb
  have DC_5 : Hid (Dr w5 (.agg #[.bool x0c, .slice rac rnc rcc, .slice a1c n1c c1c, .slice a2c n2c c2c, .int .i64 x4c, .int .i64 x5c]) d fa) := DC_4.out.below hb
  have HO_5 : Hid (Outs w5 0 (.slice pw nw cw) (wantD d)) := HO_4.out.below hb
  have HW_5 : Hid (C1 w5 GW (.slice pw nw cw) 49) := HW_4.out.below hb
  clear zC0 zC1 zC2 zC3 zC4 zC5
  clear hb hb4 HA_4 HC_4 DA_4 R2_4 DC_4 HO_4 HW_4
  have hnil : ∀ w : World, (binOp .eql 52 (.func (.func 82) #[] #[.pointer (some ⟨B, 0, none⟩)]) .nilFunc).run Tryz.prog w = .ok (.bool false) w := fun _ => rfl
  go_wp2
  refine (wpIn_wide (n := 6)).1 ?_
  have mixed : Tryz.prog.follows .mixedOrders = true := by kernel_rfl
  have hlt6 : w5.heap.size < (w5.alloc (Obj.cells #[.int .i64 0] 3)).heap.size := by simp
  have hz6 : Below w5.heap.size w5 (w5.alloc (Obj.cells #[.int .i64 0] 3)) := (Below.refl _ w5).alloc (Nat.le_refl _) _
  have hBl : B < w5.heap.size := (Array.getElem?_eq_some_iff.1 hBr).1
  have HTF : Hid _ := taken_facts d
  have HI0 : Hid (Ri w5.heap.size w5 W 0 (w5.alloc (Obj.cells #[.int .i64 0] 3))) := ⟨⟨World.alloc_heap_new _ _⟩, Kc.of_below hz6, hb5.trans (hz6.mono hb5.size), R2_5.out.below hz6⟩
  have HC6 : Hid (W.heap.size + 1 < w5.heap.size) := R2_5.out.lt
  have HRR : Hid _ := And.intro hBr (And.intro r1 r2)
  clear r1 r2 hBr hBge
  cases hem : emptyD d
  · refine range_sets2 (w := w5.alloc (Obj.cells #[.int .i64 0] 3)) 6 w5.heap.size w5.heap.size 0 B rfl (by omega) (takenD d) ((emp_taken d).trans hem) HTF.out.2.2.2.2.2.2.2.2.1 HTF.out.2.2.2.2.2.2.2.2.2 HTF.out.2.2.2.2.2.2.1 p1' p2' k1' k2' hlt6 (Nat.le_of_lt hlt6) ((hz6.block B hBl).trans HRR.out.1) ?q1 ?q2
      (fun p X => p.length ≤ 100 ∧ Ri w5.heap.size w5 W p.length X) (fun q X => q.length = 101 ∧ Ri w5.heap.size w5 W 100 X) ?ib ?ip ?xp ⟨Nat.zero_le _, HI0.out⟩ ?a1 ?assign ?body ?left ?done
    case q1 => exact (own_siq HRR.out.2.1 (.inr (Nat.le_refl _)) (Nat.le_refl _)).kp (Kq.below hz6)
    case q2 => exact (own_siq HRR.out.2.2 (.inr (Nat.le_refl _)) (Nat.le_refl _)).kp (Kq.below hz6)
    case ib => exact fun p X Y _ h hb => ⟨h.1, h.2.below hb⟩
    case ip => exact fun p X k o o' hk h ho hc => ⟨h.1, h.2.put (by omega) (by have := HC6.out; omega) ho hc⟩
    case xp => exact fun p X k o o' hk h ho hc => ⟨h.1, h.2.put (by omega) (by have := HC6.out; omega) ho hc⟩
    case assign =>
      intro l m v X K hK
      gi_wp2
      (try go_simp)
      exact hK
    case body =>
      rintro lr m p l v X ⟨rr, hrr⟩ hX ⟨h100, hi⟩ hv hw95
      obtain ⟨n, hn⟩ : ∃ n, p.length = n := ⟨_, rfl⟩
      have HI : Hid (Ri w5.heap.size w5 W n X) := by rw [← hn]; exact hi
      rw [hn] at h100 hi
      have cA := hi.1.cell
      have fA := hi.1.fz
      have hdep : Fence.wide.depth.isSome = false := rfl
      have hfn : ∀ f, Fence.wide.fn f = True := fun _ => rfl
      by_cases h9 : n = 100
      · subst h9
        clear hi
        gi_wp2
        exact ⟨rfl, KeepsOthers.refl _, Kq.refl _ _ _, by rw [List.length_append, hn]; rfl, HI.out⟩
      · have hlt : (n : Int) < 100 := by omega
        have hge : ¬ (100 : Int) ≤ (n : Int) := by omega
        have hal : allT (takenD d) = allD d := (allT_D _ (set_pw HTF.out.2.2.2.2.2.2.2.2.2) (set_pw HTF.out.2.2.2.2.2.2.2.2.1) (right_sub (taken_right d)) (by have := nonempty_facts ((emp_taken d).trans hem); omega)).trans (all_taken hem)
        rw [hal] at hrr
        have hwl : (wantD d)[n]? = some l := by
          unfold wantD
          rw [hem, if_neg (by simp), List.getElem?_take, if_pos (by omega), ← hrr, List.append_assoc, List.getElem?_append_right (by omega), hn, Nat.sub_self]; rfl
        have hmem : l ∈ allD d := by rw [← hrr]; simp
        obtain ⟨hhas, hset⟩ := all_has (nonempty_facts hem).1 hmem
        obtain ⟨gw, q9, m9, k9, rfl, hnw, hcw, hcell9, hsi9⟩ := HO_5.out.at hwl
        have yE := hi.2.1.2 _ _ _ hcell9
        have hDI : Hid (∀ Y, Below X.heap.size X Y → Di Y (.agg #[.bool x0a, .slice raa rna rca, .slice a1a n1a c1a, .slice a2a n2a c2a, .int .i64 x4a, .int .i64 x5a]) d) := fun Y hY => (hi.2.1.below hY).di DA_5.out.di
        have hsame := same_yes v (.slice q9 m9 k9) l X hv (hsi9.kept hi.2.1.1 hi.2.1.2) (by have := hset.1; omega)
        have hhs := fun Y (hY : Below X.heap.size X Y) => eqc hhas (has_any _ v d l Y (hDI.out Y hY) (hv.below hY))
        clear hwl hcell9 hsi9 hmem hrr hal hhas
        obtain ⟨zA0, zA1, zA2, zA3, zA4, zA5⟩ := HA_5.out.cells
        have yA0 := hi.2.1.2 _ _ _ zA0
        have yA1 := hi.2.1.2 _ _ _ zA1
        have yA2 := hi.2.1.2 _ _ _ zA2
        have yA3 := hi.2.1.2 _ _ _ zA3
        have yA4 := hi.2.1.2 _ _ _ zA4
        have yA5 := hi.2.1.2 _ _ _ zA5
        clear zA0 zA1 zA2 zA3 zA4 zA5
        have yW := hi.2.1.2 _ _ _ HW_5.out.cell
        obtain ⟨Av, nl, cv, cur, rfl, hAv, h95, hcs⟩ := hw95
        have HSET : Hid (l.length ≤ 64) := hset.1
        have hnl : l.length = nl := by obtain ⟨_, _, e, _⟩ := hv; injection e with _ e _; exact e.symm
        have hnl64 : nl ≤ 64 := by have := hset.1; omega
        have hq1 : ¬ (nw : Int) ≤ (n : Int) := by omega
        have hAl : Av < X.heap.size := (Array.getElem?_eq_some_iff.1 h95).1
        have hne : Av ≠ w5.heap.size := fun e => by have h8 := hi.1.h; rw [← e, h95] at h8; injection h8 with h8; injection h8 with _ e _; cases e
        have hw1 : IntKind.i64.wrap ((n : Int) + 1) = (n : Int) + 1 := by rw [IntKind.wrap_i64]; omega
        clear hi
        gi_wp2
        refine (CallsIn.inRound lr (callsIn_wide.2 hsame)).mono ?_
        rintro e X1 ⟨rfl, hb1⟩
        clear yA0 yA1 yA2 yA3 yA4 yA5 yW yE cA fA hsame
        have hi1 := HI.out.below hb1
        obtain ⟨zA0, zA1, zA2, zA3, zA4, zA5⟩ := HA_5.out.cells
        have yA0 := hi1.2.1.2 _ _ _ zA0
        have yA1 := hi1.2.1.2 _ _ _ zA1
        have yA2 := hi1.2.1.2 _ _ _ zA2
        have yA3 := hi1.2.1.2 _ _ _ zA3
        have yA4 := hi1.2.1.2 _ _ _ zA4
        have yA5 := hi1.2.1.2 _ _ _ zA5
        clear zA0 zA1 zA2 zA3 zA4 zA5
        clear hi1
        gi_wp2
        refine (CallsIn.inRound lr (callsIn_wide.2 (hhs X1 hb1))).mono ?_
        rintro e X2 ⟨rfl, hb2⟩
        have hbX : Below X.heap.size X X2 := hb1.trans (hb2.mono hb1.size)
        have H95 : Hid (∃ cur, X.heap[Av]? = some (.cells cur 95 (0, 0))) := ⟨cur, h95⟩
        have HL0 : Hid (Lw Av cur.size X2 X2) := ⟨Below.refl _ _, rfl, fun _ _ => rfl, ⟨cur, (hbX.block Av hAl).trans h95, rfl⟩⟩
        clear yA0 yA1 yA2 yA3 yA4 yA5 hb1 hb2 hhs hDI h95
        gi_wp2
        gi_loopw [8] (fun i wr => ∃ k : Nat, k ≤ nl ∧ i = .int .i64 k ∧ Hid (Lw Av cur.size X2 wr)) (fun i _ => nl - (intOf i).toNat)
        case atStart => exact ⟨0, Nat.zero_le _, rfl, HL0.out⟩
        case round =>
          obtain ⟨k, hk, rfl, HP⟩ := hrel
          by_cases hlk : k < nl
          · obtain ⟨u, q1, q2⟩ := HP.out.at (q := k) (by omega)
            have hlk' : (k : Int) < (nl : Int) := by omega
            have HNX : Hid (Lw Av cur.size X2 (wr.setCell ⟨Av, k, none⟩ (.int .i64 99))) := HP.out.set _ _
            have hw2 : IntKind.i64.wrap ((k : Int) + 1) = (k : Int) + 1 := by rw [IntKind.wrap_i64]; omega
            gi_wp2
            go_roundw
            case rel => exact ⟨k + 1, by omega, by go_num, HNX.out⟩
            case measure => simp [intOf]; omega
          · have hlk' : ¬ (k : Int) < (nl : Int) := by omega
            have hi2 : Ri w5.heap.size w5 W n wr := HP.out.ri (HI.out.below hbX) (by omega) (by omega) (by have := HC6.out; omega)
            have HI2 : Hid _ := hi2
            have cA := hi2.1.cell
            have fA := hi2.1.fz
            have HKE : Hid (KeepsOthers X (wr.setCell ⟨w5.heap.size, 0, none⟩ (.int .i64 ((n : Int) + 1))) ∧ Kq w5.heap.size w5.heap.size X (wr.setCell ⟨w5.heap.size, 0, none⟩ (.int .i64 ((n : Int) + 1)))) := keeps_round hbX HP.out hAv H95.out HI.out.1 _
            clear hi2
            gi_wp2
            refine ⟨HKE.out.1, HKE.out.2, by rw [List.length_append, hn]; simp; omega, ?_⟩
            rw [List.length_append, hn]
            exact Ri.next HI2.out (Nat.le_refl _) HC6.out
    all_goals have HNEA : Hid (W.heap.size ≠ W.heap.size + 1) := by unfold Hid; omega
    all_goals have HNEN : Hid (w5.heap.size ≠ W.heap.size + 1) := by have := HC6.out; unfold Hid; omega
    all_goals have HNEC : Hid (GC ≠ W.heap.size + 1) := by intro e; have h8 := HC_5.out.h; have h9 := R2_5.out.h; rw [e, h9] at h8; injection h8 with h8; injection h8 with _ h8 _; cases h8
    all_goals have HNEW : Hid (GW ≠ W.heap.size + 1) := by intro e; have h8 := HW_5.out.h; have h9 := R2_5.out.h; rw [e, h9] at h8; injection h8 with h8; injection h8 with _ h8 _; cases h8
    case left =>
      rintro D X q r hqr hD hkq ⟨hq, hi⟩ hDX
      have hD2 : w5.heap.size < D := by simp at hD; omega
      have HDM : Hid (X.heap[D]? = some (.deferred (some []))) := hDX
      have HF : Hid (Ri w5.heap.size w5 W 100 X) := hi
      have hql : q.length ≤ (allD d).length := by
        rw [← all_taken hem, ← allT_D _ (set_pw HTF.out.2.2.2.2.2.2.2.2.2) (set_pw HTF.out.2.2.2.2.2.2.2.2.1) (right_sub (taken_right d)) (by have := nonempty_facts ((emp_taken d).trans hem); omega), ← hqr]
        simp
      have hnw : nw = 100 := by
        rw [← HNW.out]
        unfold wantD
        rw [hem, if_neg (by simp), List.length_take]
        omega
      subst hnw
      clear hi hDX hqr hkq hq hql
      simp only [Exit.inBlock, if_true]
      go_upto_region 17 with (fail)
      refine wp_calm ?_
      have hXW : Below W.heap.size W X := HF.out.2.2.1
      have HS0 : ∀ X', Below X.heap.size X X' → (∀ b o v, b ≠ W.heap.size + 1 → X.cell? ⟨b, o, none⟩ = some v → X'.cell? ⟨b, o, none⟩ = some v) := fun X' hb b o v _ hc => (hb.cell (p := ⟨b, o, none⟩) (cell_lt hc)).trans hc
      have hq0 : Below X.heap.size X X.drew := Below.drew (Below.refl _ _)
      obtain ⟨zA0, zA1, zA2, zA3, zA4, zA5⟩ := HA_5.out.cells
      have yA0 := HF.out.2.1.2 _ _ _ zA0
      have yA1 := HF.out.2.1.2 _ _ _ zA1
      have yA2 := HF.out.2.1.2 _ _ _ zA2
      have yA3 := HF.out.2.1.2 _ _ _ zA3
      have yA4 := HF.out.2.1.2 _ _ _ zA4
      have yA5 := HF.out.2.1.2 _ _ _ zA5
      clear zA0 zA1 zA2 zA3 zA4 zA5
      obtain ⟨zC0, zC1, zC2, zC3, zC4, zC5⟩ := HC_5.out.cells
      have yC0 := HF.out.2.1.2 _ _ _ zC0
      have yC1 := HF.out.2.1.2 _ _ _ zC1
      have yC2 := HF.out.2.1.2 _ _ _ zC2
      have yC3 := HF.out.2.1.2 _ _ _ zC3
      have yC4 := HF.out.2.1.2 _ _ _ zC4
      have yC5 := HF.out.2.1.2 _ _ _ zC5
      clear zC0 zC1 zC2 zC3 zC4 zC5
      have yW := HF.out.2.1.2 _ _ _ HW_5.out.cell
      have yN := HF.out.1.cell
      refine wp_region_held_drew (S := (fun w' => ∀ b o v, b ≠ W.heap.size + 1 → X.cell? ⟨b, o, none⟩ = some v → w'.cell? ⟨b, o, none⟩ = some v)) (by kernel_rfl) (HS0 _ hq0) (fun hHeld => ?_)
      refine wpAnyH_take (i := 0) (oi := { dst := some 51, op := Go.Op.load 3 (Go.Operand.tmp 6), type := 3, pos := "law.go:97", after := #[], guard := none }) (v := ?_) rfl (by kernel_rfl) (by kernel_rfl) (by kernel_rfl) (fun _ _ _ h => h) (Or.inl ⟨by rfl, ?_⟩) hHeld ?_
      rotate_left
      · intro w hSw; have u0 := hSw _ _ _ HNEN.out yN; go_simp <;> with_reducible rfl
      try simp only [Act.put, List.setIfInBounds_toArray, List.set_cons_zero, List.set_cons_succ]
      refine wpAnyH_take (i := 1) (oi := { dst := some 52, op := Go.Op.load 49 (Go.Operand.tmp 4), type := 49, pos := "law.go:97", after := #[], guard := none }) (v := ?_) rfl (by kernel_rfl) (by kernel_rfl) (by kernel_rfl) (fun _ _ _ h => h) (Or.inl ⟨by rfl, ?_⟩) hHeld ?_
      rotate_left
      · intro w hSw; have u0 := hSw _ _ _ HNEW.out yW; go_simp <;> with_reducible rfl
      try simp only [Act.put, List.setIfInBounds_toArray, List.set_cons_zero, List.set_cons_succ]
      refine wpAnyH_take (i := 2) (oi := { dst := some 53, op := Go.Op.call { callee := Go.Callee.builtin Go.Builtin.len, args := #[Go.Operand.tmp 52], argTypes := #[49] }, type := 3, pos := "law.go:97", after := #[{ on := 1, ground := Go.Ground.data }], guard := none }) (v := ?_) rfl (by kernel_rfl) (by kernel_rfl) (by kernel_rfl) (fun _ _ _ h => h) (Or.inl ⟨by rfl, ?_⟩) hHeld ?_
      rotate_left
      · intro w hSw; (try dsimp only at hSw); go_simp <;> with_reducible rfl
      try simp only [Act.put, List.setIfInBounds_toArray, List.set_cons_zero, List.set_cons_succ]
      refine wpAnyH_take (i := 3) (oi := { dst := some 54, op := Go.Op.binOp Go.BinOp.eql 3 (Go.Operand.tmp 51) (Go.Operand.tmp 53) 3, type := 4, pos := "law.go:97", after := #[{ on := 0, ground := Go.Ground.data }, { on := 2, ground := Go.Ground.data }], guard := none }) (v := ?_) rfl (by kernel_rfl) (by kernel_rfl) (by kernel_rfl) (fun _ _ _ h => h) (Or.inl ⟨by rfl, ?_⟩) hHeld ?_
      rotate_left
      · intro w hSw; (try dsimp only at hSw); go_simp <;> with_reducible rfl
      try simp only [Act.put, List.setIfInBounds_toArray, List.set_cons_zero, List.set_cons_succ]
      refine wpAnyH_take (i := 4) (oi := { dst := some 55, op := Go.Op.move (Go.Operand.tmp 54), type := 4, pos := "law.go:97", after := #[{ on := 3, ground := Go.Ground.data }], guard := none }) (v := ?_) rfl (by kernel_rfl) (by kernel_rfl) (by kernel_rfl) (fun _ _ _ h => h) (Or.inl ⟨by rfl, ?_⟩) hHeld ?_
      rotate_left
      · intro w hSw; (try dsimp only at hSw); go_simp <;> with_reducible rfl
      try simp only [Act.put, List.setIfInBounds_toArray, List.set_cons_zero, List.set_cons_succ]
      refine wpAnyH_take (i := 5) (oi := { dst := some 56, op := Go.Op.load 49 (Go.Operand.tmp 4), type := 49, pos := "law.go:97", after := #[{ on := 4, ground := Go.Ground.guard }], guard := some (4, true) }) (v := ?_) rfl (by kernel_rfl) (by kernel_rfl) (by kernel_rfl) (fun _ _ _ h => h) (Or.inl ⟨by rfl, ?_⟩) hHeld ?_
      rotate_left
      · intro w hSw; have u0 := hSw _ _ _ HNEW.out yW; go_simp <;> with_reducible rfl
      try simp only [Act.put, List.setIfInBounds_toArray, List.set_cons_zero, List.set_cons_succ]
      refine wpAnyH_take (i := 6) (oi := { dst := some 57, op := Go.Op.call { callee := Go.Callee.builtin Go.Builtin.len, args := #[Go.Operand.tmp 56], argTypes := #[49] }, type := 3, pos := "law.go:97", after := #[{ on := 5, ground := Go.Ground.data }, { on := 4, ground := Go.Ground.guard }], guard := some (4, true) }) (v := ?_) rfl (by kernel_rfl) (by kernel_rfl) (by kernel_rfl) (fun _ _ _ h => h) (Or.inl ⟨by rfl, ?_⟩) hHeld ?_
      rotate_left
      · intro w hSw; (try dsimp only at hSw); go_simp <;> with_reducible rfl
      try simp only [Act.put, List.setIfInBounds_toArray, List.set_cons_zero, List.set_cons_succ]
      refine wpAnyH_take (i := 7) (oi := { dst := some 58, op := Go.Op.binOp Go.BinOp.eql 3 (Go.Operand.tmp 57) (Go.Operand.const (Go.Value.int Go.IntKind.i64 100)) 3, type := 4, pos := "law.go:97", after := #[{ on := 6, ground := Go.Ground.data }, { on := 4, ground := Go.Ground.guard }], guard := some (4, true) }) (v := ?_) rfl (by kernel_rfl) (by kernel_rfl) (by kernel_rfl) (fun _ _ _ h => h) (Or.inl ⟨by rfl, ?_⟩) hHeld ?_
      rotate_left
      · intro w hSw; (try dsimp only at hSw); go_simp <;> with_reducible rfl
      try simp only [Act.put, List.setIfInBounds_toArray, List.set_cons_zero, List.set_cons_succ]
      refine wpAnyH_take (i := 8) (oi := { dst := some 59, op := Go.Op.move (Go.Operand.tmp 58), type := 4, pos := "law.go:97", after := #[{ on := 7, ground := Go.Ground.data }, { on := 4, ground := Go.Ground.chain }, { on := 4, ground := Go.Ground.guard }], guard := some (4, true) }) (v := ?_) rfl (by kernel_rfl) (by kernel_rfl) (by kernel_rfl) (fun _ _ _ h => h) (Or.inl ⟨by rfl, ?_⟩) hHeld ?_
      rotate_left
      · intro w hSw; (try dsimp only at hSw); go_simp <;> with_reducible rfl
      try simp only [Act.put, List.setIfInBounds_toArray, List.set_cons_zero, List.set_cons_succ]
      refine wpAnyH_take (i := 9) (oi := { dst := some 60, op := Go.Op.load 37 (Go.Operand.tmp 1), type := 37, pos := "law.go:97", after := #[{ on := 8, ground := Go.Ground.guard }], guard := some (8, false) }) (v := undef) rfl (by kernel_rfl) (by kernel_rfl) (by kernel_rfl) (fun _ _ _ h => h) (Or.inr ⟨by rfl, rfl⟩) hHeld ?_
      try simp only [Act.put, List.setIfInBounds_toArray, List.set_cons_zero, List.set_cons_succ]
      refine wpAnyH_take (i := 10) (oi := { dst := some 61, op := Go.Op.call { callee := Go.Callee.value (Go.Operand.func 46), args := #[Go.Operand.tmp 60], argTypes := #[37] }, type := 2, pos := "law.go:97", after := #[{ on := 9, ground := Go.Ground.data }, { on := 8, ground := Go.Ground.chain }, { on := 8, ground := Go.Ground.guard }], guard := some (8, false) }) (v := undef) rfl (by kernel_rfl) (by kernel_rfl) (by kernel_rfl) (fun _ _ _ h => h) (Or.inr ⟨by rfl, rfl⟩) hHeld ?_
      try simp only [Act.put, List.setIfInBounds_toArray, List.set_cons_zero, List.set_cons_succ]
      refine wpAnyH_take (i := 11) (oi := { dst := some 62, op := Go.Op.load 49 (Go.Operand.tmp 4), type := 49, pos := "law.go:97", after := #[{ on := 8, ground := Go.Ground.guard }], guard := some (8, false) }) (v := undef) rfl (by kernel_rfl) (by kernel_rfl) (by kernel_rfl) (fun _ _ _ h => h) (Or.inr ⟨by rfl, rfl⟩) hHeld ?_
      try simp only [Act.put, List.setIfInBounds_toArray, List.set_cons_zero, List.set_cons_succ]
      refine wpAnyH_take (i := 12) (oi := { dst := some 63, op := Go.Op.call { callee := Go.Callee.builtin Go.Builtin.len, args := #[Go.Operand.tmp 62], argTypes := #[49] }, type := 3, pos := "law.go:97", after := #[{ on := 11, ground := Go.Ground.data }, { on := 8, ground := Go.Ground.guard }], guard := some (8, false) }) (v := undef) rfl (by kernel_rfl) (by kernel_rfl) (by kernel_rfl) (fun _ _ _ h => h) (Or.inr ⟨by rfl, rfl⟩) hHeld ?_
      try simp only [Act.put, List.setIfInBounds_toArray, List.set_cons_zero, List.set_cons_succ]
      refine wpAnyH_take (i := 13) (oi := { dst := some 64, op := Go.Op.binOp Go.BinOp.eql 2 (Go.Operand.tmp 61) (Go.Operand.tmp 63) 2, type := 4, pos := "law.go:97", after := #[{ on := 10, ground := Go.Ground.data }, { on := 12, ground := Go.Ground.data }, { on := 8, ground := Go.Ground.guard }], guard := some (8, false) }) (v := undef) rfl (by kernel_rfl) (by kernel_rfl) (by kernel_rfl) (fun _ _ _ h => h) (Or.inr ⟨by rfl, rfl⟩) hHeld ?_
      try simp only [Act.put, List.setIfInBounds_toArray, List.set_cons_zero, List.set_cons_succ]
      refine wpAnyH_take (i := 14) (oi := { dst := some 65, op := Go.Op.pick (Go.Operand.tmp 59) (Go.Operand.const (Go.Value.bool true)) (Go.Operand.tmp 64), type := 4, pos := "law.go:97", after := #[{ on := 8, ground := Go.Ground.data }, { on := 13, ground := Go.Ground.data }, { on := 4, ground := Go.Ground.guard }], guard := some (4, true) }) (v := ?_) rfl (by kernel_rfl) (by kernel_rfl) (by kernel_rfl) (fun _ _ _ h => h) (Or.inl ⟨by rfl, ?_⟩) hHeld ?_
      rotate_left
      · intro w hSw; (try dsimp only at hSw); go_simp <;> with_reducible rfl
      try simp only [Act.put, List.setIfInBounds_toArray, List.set_cons_zero, List.set_cons_succ]
      refine wpAnyH_take (i := 15) (oi := { dst := some 66, op := Go.Op.pick (Go.Operand.tmp 55) (Go.Operand.tmp 65) (Go.Operand.const (Go.Value.bool false)), type := 4, pos := "law.go:97", after := #[{ on := 4, ground := Go.Ground.data }, { on := 14, ground := Go.Ground.data }], guard := none }) (v := ?_) rfl (by kernel_rfl) (by kernel_rfl) (by kernel_rfl) (fun _ _ _ h => h) (Or.inl ⟨by rfl, ?_⟩) hHeld ?_
      rotate_left
      · intro w hSw; (try dsimp only at hSw); go_simp <;> with_reducible rfl
      try simp only [Act.put, List.setIfInBounds_toArray, List.set_cons_zero, List.set_cons_succ]
      refine wpAnyH_take (i := 16) (oi := { dst := some 67, op := Go.Op.move (Go.Operand.tmp 66), type := 4, pos := "law.go:97", after := #[{ on := 15, ground := Go.Ground.data }, { on := 10, ground := Go.Ground.chain }], guard := none }) (v := ?_) rfl (by kernel_rfl) (by kernel_rfl) (by kernel_rfl) (fun _ _ _ h => h) (Or.inl ⟨by rfl, ?_⟩) hHeld ?_
      rotate_left
      · intro w hSw; (try dsimp only at hSw); go_simp <;> with_reducible rfl
      try simp only [Act.put, List.setIfInBounds_toArray, List.set_cons_zero, List.set_cons_succ]
      refine wpAnyH_take (i := 17) (oi := { dst := some 68, op := Go.Op.load 37 (Go.Operand.tmp 3), type := 37, pos := "law.go:97", after := #[{ on := 16, ground := Go.Ground.guard }], guard := some (16, true) }) (v := ?_) rfl (by kernel_rfl) (by kernel_rfl) (by kernel_rfl) (fun _ _ _ h => h) (Or.inl ⟨by rfl, ?_⟩) hHeld ?_
      rotate_left
      · intro w hSw; have u0 := hSw _ _ _ HNEC.out yC0; have u1 := hSw _ _ _ HNEC.out yC1; have u2 := hSw _ _ _ HNEC.out yC2; have u3 := hSw _ _ _ HNEC.out yC3; have u4 := hSw _ _ _ HNEC.out yC4; have u5 := hSw _ _ _ HNEC.out yC5; go_simp <;> with_reducible rfl
      try simp only [Act.put, List.setIfInBounds_toArray, List.set_cons_zero, List.set_cons_succ]
      refine wpAnyH_take (i := 18) (oi := { dst := some 69, op := Go.Op.load 37 (Go.Operand.tmp 1), type := 37, pos := "law.go:97", after := #[{ on := 16, ground := Go.Ground.guard }], guard := some (16, true) }) (v := ?_) rfl (by kernel_rfl) (by kernel_rfl) (by kernel_rfl) (fun _ _ _ h => h) (Or.inl ⟨by rfl, ?_⟩) hHeld ?_
      rotate_left
      · intro w hSw; have u0 := hSw _ _ _ HNEA.out yA0; have u1 := hSw _ _ _ HNEA.out yA1; have u2 := hSw _ _ _ HNEA.out yA2; have u3 := hSw _ _ _ HNEA.out yA3; have u4 := hSw _ _ _ HNEA.out yA4; have u5 := hSw _ _ _ HNEA.out yA5; go_simp <;> with_reducible rfl
      try simp only [Act.put, List.setIfInBounds_toArray, List.set_cons_zero, List.set_cons_succ]
      refine wpAnyH_ready (rs := [19]) (by kernel_rfl) (by simp) ?_
      refine AllReadyH.cons rfl (fun K hK => ?_) AllReadyH.nil
      go_simp
      refine (one_same _ _ d fa _ ((HF.out.2.1.below hq0).dr DC_5.out) ((HF.out.2.1.below hq0).dr DA_5.out)).mono ?_
      rintro e w301 ⟨rfl, hb⟩
      have hq1 : Below X.heap.size X w301 := hq0.trans (hb.mono hq0.size)
      clear hb
      refine hK.out _ _ (HS0 _ hq1) (fun hHeld2 => ?_)
      clear hK K hHeld
      have hHeld := hHeld2
      clear hHeld2
      try simp only [Act.put, List.setIfInBounds_toArray, List.set_cons_zero, List.set_cons_succ]
      refine wpAnyH_take (i := 20) (oi := { dst := some 71, op := Go.Op.pick (Go.Operand.tmp 67) (Go.Operand.tmp 70) (Go.Operand.const (Go.Value.bool false)), type := 4, pos := "law.go:97", after := #[{ on := 16, ground := Go.Ground.data }, { on := 19, ground := Go.Ground.data }], guard := none }) (v := ?_) rfl (by kernel_rfl) (by kernel_rfl) (by kernel_rfl) (fun _ _ _ h => h) (Or.inl ⟨by rfl, ?_⟩) hHeld ?_
      rotate_left
      · intro w hSw; (try dsimp only at hSw); go_simp <;> with_reducible rfl
      try simp only [Act.put, List.setIfInBounds_toArray, List.set_cons_zero, List.set_cons_succ]
      refine wpAnyH_take (i := 21) (oi := { dst := some 72, op := Go.Op.move (Go.Operand.tmp 71), type := 4, pos := "law.go:97", after := #[{ on := 20, ground := Go.Ground.data }, { on := 19, ground := Go.Ground.chain }], guard := none }) (v := ?_) rfl (by kernel_rfl) (by kernel_rfl) (by kernel_rfl) (fun _ _ _ h => h) (Or.inl ⟨by rfl, ?_⟩) hHeld ?_
      rotate_left
      · intro w hSw; (try dsimp only at hSw); go_simp <;> with_reducible rfl
      try simp only [Act.put, List.setIfInBounds_toArray, List.set_cons_zero, List.set_cons_succ]
      refine wpAnyH_ready (rs := [22]) (by kernel_rfl) (by simp) ?_
      refine AllReadyH.cons rfl (fun K hK => ?_) AllReadyH.nil
      go_simp
      refine (K32.out _ (hXW.trans (hq1.mono hXW.size))).mono ?_
      rintro e w302 ⟨rfl, hb⟩
      have hq2 : Below X.heap.size X w302 := hq1.trans (hb.mono hq1.size)
      clear hb hq1
      refine hK.out _ _ (HS0 _ hq2) (fun hHeld2 => ?_)
      clear hK K hHeld
      have hHeld := hHeld2
      clear hHeld2
      try simp only [Act.put, List.setIfInBounds_toArray, List.set_cons_zero, List.set_cons_succ]
      refine wpAnyH_take (i := 23) (oi := { dst := some 74, op := Go.Op.pick (Go.Operand.tmp 72) (Go.Operand.tmp 73) (Go.Operand.const (Go.Value.bool false)), type := 4, pos := "law.go:97", after := #[{ on := 21, ground := Go.Ground.data }, { on := 22, ground := Go.Ground.data }], guard := none }) (v := ?_) rfl (by kernel_rfl) (by kernel_rfl) (by kernel_rfl) (fun _ _ _ h => h) (Or.inl ⟨by rfl, ?_⟩) hHeld ?_
      rotate_left
      · intro w hSw; (try dsimp only at hSw); go_simp <;> with_reducible rfl
      try simp only [Act.put, List.setIfInBounds_toArray, List.set_cons_zero, List.set_cons_succ]
      refine wpAnyH_ready (rs := [24]) (by kernel_rfl) (by simp) ?_
      refine AllReadyH.cons rfl (fun K hK => ?_) AllReadyH.nil
      have c9 := (HF.out.2.2.2.below hq2).cell
      have f9 := (HF.out.2.2.2.below hq2).fz
      go_simp
      refine hK.out _ _ (fun b o v hb hc => by simp only [World.cell?, Below.heap_setCell _ ⟨W.heap.size + 1, 0, none⟩ _ b hb]; exact HS0 _ hq2 b o v hb hc) (fun hHeld2 => ?_)
      clear hK K hHeld
      have hHeld := hHeld2
      clear hHeld2
      try simp only [Act.put, List.setIfInBounds_toArray, List.set_cons_zero, List.set_cons_succ]
      refine wpAnyH_done (by kernel_rfl) ?_ _
      clear hHeld HS0
      have hBw : Below W.heap.size W (w302.setCell ⟨W.heap.size + 1, 0, none⟩ (.bool true)) := (hXW.trans (hq2.mono hXW.size)).setCell (p := ⟨W.heap.size + 1, 0, none⟩) (Nat.le_succ _) _
      have hr9 : C1 (w302.setCell ⟨W.heap.size + 1, 0, none⟩ (.bool true)) (W.heap.size + 1) (.bool true) 4 := (HF.out.2.2.2.below hq2).set
      have hwM : (w302.setCell ⟨W.heap.size + 1, 0, none⟩ (.bool true)).heap[D]? = some (.deferred (some [])) := (Below.heap_setCell _ ⟨W.heap.size + 1, 0, none⟩ _ D (show D ≠ W.heap.size + 1 by have := HC6.out; have := hD2; omega)).trans ((hq2.block D (Array.getElem?_eq_some_iff.1 HDM.out).1).trans HDM.out)
      have hDR : D ≠ W.heap.size + 1 := by have := HC6.out; omega
      have hr8 : C1 ((w302.setCell ⟨W.heap.size + 1, 0, none⟩ (.bool true)).putObj D (.deferred none)) (W.heap.size + 1) (.bool true) 4 := ⟨(World.putObj_heap_other (Ne.symm hDR)).trans hr9.h⟩
      have hDW : W.heap.size ≤ D := by have := HC6.out; omega
      go_wp2
      refine ⟨by simp, .inl ⟨_, _, rfl, run_takeDeferred hwM, ?_⟩⟩
      refine ⟨_, C1.res (p := 2) rfl _ hr8 rfl, rfl, ?_⟩
      exact hBw.trans (belowK_b (n₀ := W.heap.size) (w := W) (Nat.le_refl _) _ D _ (.deferred none) hDW hwM rfl rfl)
    case done =>
      rintro D X hD hkq ⟨h100, hi⟩ hDX
      have hD2 : w5.heap.size < D := by simp at hD; omega
      have hal : allT (takenD d) = allD d := (allT_D _ (set_pw HTF.out.2.2.2.2.2.2.2.2.2) (set_pw HTF.out.2.2.2.2.2.2.2.2.1) (right_sub (taken_right d)) (by have := nonempty_facts ((emp_taken d).trans hem); omega)).trans (all_taken hem)
      rw [hal] at h100 hi
      have HDM : Hid (X.heap[D]? = some (.deferred (some []))) := hDX
      have hnw : (allD d).length = nw := by
        rw [← HNW.out]
        unfold wantD
        rw [hem, if_neg (by simp), List.length_take]
        omega
      rw [hnw] at hi h100
      simp only [Exit.inBlock]
      have HF : Hid (Ri w5.heap.size w5 W nw X) := hi
      by_cases hf : nw = 100
      · subst hf
        clear hi hDX hkq hal hnw h100
        go_upto_region 17 with (fail)
        refine wp_calm ?_
        have hXW : Below W.heap.size W X := HF.out.2.2.1
        have HS0 : ∀ X', Below X.heap.size X X' → (∀ b o v, b ≠ W.heap.size + 1 → X.cell? ⟨b, o, none⟩ = some v → X'.cell? ⟨b, o, none⟩ = some v) := fun X' hb b o v _ hc => (hb.cell (p := ⟨b, o, none⟩) (cell_lt hc)).trans hc
        have hq0 : Below X.heap.size X X.drew := Below.drew (Below.refl _ _)
        obtain ⟨zA0, zA1, zA2, zA3, zA4, zA5⟩ := HA_5.out.cells
        have yA0 := HF.out.2.1.2 _ _ _ zA0
        have yA1 := HF.out.2.1.2 _ _ _ zA1
        have yA2 := HF.out.2.1.2 _ _ _ zA2
        have yA3 := HF.out.2.1.2 _ _ _ zA3
        have yA4 := HF.out.2.1.2 _ _ _ zA4
        have yA5 := HF.out.2.1.2 _ _ _ zA5
        clear zA0 zA1 zA2 zA3 zA4 zA5
        obtain ⟨zC0, zC1, zC2, zC3, zC4, zC5⟩ := HC_5.out.cells
        have yC0 := HF.out.2.1.2 _ _ _ zC0
        have yC1 := HF.out.2.1.2 _ _ _ zC1
        have yC2 := HF.out.2.1.2 _ _ _ zC2
        have yC3 := HF.out.2.1.2 _ _ _ zC3
        have yC4 := HF.out.2.1.2 _ _ _ zC4
        have yC5 := HF.out.2.1.2 _ _ _ zC5
        clear zC0 zC1 zC2 zC3 zC4 zC5
        have yW := HF.out.2.1.2 _ _ _ HW_5.out.cell
        have yN := HF.out.1.cell
        refine wp_region_held_drew (S := (fun w' => ∀ b o v, b ≠ W.heap.size + 1 → X.cell? ⟨b, o, none⟩ = some v → w'.cell? ⟨b, o, none⟩ = some v)) (by kernel_rfl) (HS0 _ hq0) (fun hHeld => ?_)
        refine wpAnyH_take (i := 0) (oi := { dst := some 51, op := Go.Op.load 3 (Go.Operand.tmp 6), type := 3, pos := "law.go:97", after := #[], guard := none }) (v := ?_) rfl (by kernel_rfl) (by kernel_rfl) (by kernel_rfl) (fun _ _ _ h => h) (Or.inl ⟨by rfl, ?_⟩) hHeld ?_
        rotate_left
        · intro w hSw; have u0 := hSw _ _ _ HNEN.out yN; go_simp <;> with_reducible rfl
        try simp only [Act.put, List.setIfInBounds_toArray, List.set_cons_zero, List.set_cons_succ]
        refine wpAnyH_take (i := 1) (oi := { dst := some 52, op := Go.Op.load 49 (Go.Operand.tmp 4), type := 49, pos := "law.go:97", after := #[], guard := none }) (v := ?_) rfl (by kernel_rfl) (by kernel_rfl) (by kernel_rfl) (fun _ _ _ h => h) (Or.inl ⟨by rfl, ?_⟩) hHeld ?_
        rotate_left
        · intro w hSw; have u0 := hSw _ _ _ HNEW.out yW; go_simp <;> with_reducible rfl
        try simp only [Act.put, List.setIfInBounds_toArray, List.set_cons_zero, List.set_cons_succ]
        refine wpAnyH_take (i := 2) (oi := { dst := some 53, op := Go.Op.call { callee := Go.Callee.builtin Go.Builtin.len, args := #[Go.Operand.tmp 52], argTypes := #[49] }, type := 3, pos := "law.go:97", after := #[{ on := 1, ground := Go.Ground.data }], guard := none }) (v := ?_) rfl (by kernel_rfl) (by kernel_rfl) (by kernel_rfl) (fun _ _ _ h => h) (Or.inl ⟨by rfl, ?_⟩) hHeld ?_
        rotate_left
        · intro w hSw; (try dsimp only at hSw); go_simp <;> with_reducible rfl
        try simp only [Act.put, List.setIfInBounds_toArray, List.set_cons_zero, List.set_cons_succ]
        refine wpAnyH_take (i := 3) (oi := { dst := some 54, op := Go.Op.binOp Go.BinOp.eql 3 (Go.Operand.tmp 51) (Go.Operand.tmp 53) 3, type := 4, pos := "law.go:97", after := #[{ on := 0, ground := Go.Ground.data }, { on := 2, ground := Go.Ground.data }], guard := none }) (v := ?_) rfl (by kernel_rfl) (by kernel_rfl) (by kernel_rfl) (fun _ _ _ h => h) (Or.inl ⟨by rfl, ?_⟩) hHeld ?_
        rotate_left
        · intro w hSw; (try dsimp only at hSw); go_simp <;> with_reducible rfl
        try simp only [Act.put, List.setIfInBounds_toArray, List.set_cons_zero, List.set_cons_succ]
        refine wpAnyH_take (i := 4) (oi := { dst := some 55, op := Go.Op.move (Go.Operand.tmp 54), type := 4, pos := "law.go:97", after := #[{ on := 3, ground := Go.Ground.data }], guard := none }) (v := ?_) rfl (by kernel_rfl) (by kernel_rfl) (by kernel_rfl) (fun _ _ _ h => h) (Or.inl ⟨by rfl, ?_⟩) hHeld ?_
        rotate_left
        · intro w hSw; (try dsimp only at hSw); go_simp <;> with_reducible rfl
        try simp only [Act.put, List.setIfInBounds_toArray, List.set_cons_zero, List.set_cons_succ]
        refine wpAnyH_take (i := 5) (oi := { dst := some 56, op := Go.Op.load 49 (Go.Operand.tmp 4), type := 49, pos := "law.go:97", after := #[{ on := 4, ground := Go.Ground.guard }], guard := some (4, true) }) (v := ?_) rfl (by kernel_rfl) (by kernel_rfl) (by kernel_rfl) (fun _ _ _ h => h) (Or.inl ⟨by rfl, ?_⟩) hHeld ?_
        rotate_left
        · intro w hSw; have u0 := hSw _ _ _ HNEW.out yW; go_simp <;> with_reducible rfl
        try simp only [Act.put, List.setIfInBounds_toArray, List.set_cons_zero, List.set_cons_succ]
        refine wpAnyH_take (i := 6) (oi := { dst := some 57, op := Go.Op.call { callee := Go.Callee.builtin Go.Builtin.len, args := #[Go.Operand.tmp 56], argTypes := #[49] }, type := 3, pos := "law.go:97", after := #[{ on := 5, ground := Go.Ground.data }, { on := 4, ground := Go.Ground.guard }], guard := some (4, true) }) (v := ?_) rfl (by kernel_rfl) (by kernel_rfl) (by kernel_rfl) (fun _ _ _ h => h) (Or.inl ⟨by rfl, ?_⟩) hHeld ?_
        rotate_left
        · intro w hSw; (try dsimp only at hSw); go_simp <;> with_reducible rfl
        try simp only [Act.put, List.setIfInBounds_toArray, List.set_cons_zero, List.set_cons_succ]
        refine wpAnyH_take (i := 7) (oi := { dst := some 58, op := Go.Op.binOp Go.BinOp.eql 3 (Go.Operand.tmp 57) (Go.Operand.const (Go.Value.int Go.IntKind.i64 100)) 3, type := 4, pos := "law.go:97", after := #[{ on := 6, ground := Go.Ground.data }, { on := 4, ground := Go.Ground.guard }], guard := some (4, true) }) (v := ?_) rfl (by kernel_rfl) (by kernel_rfl) (by kernel_rfl) (fun _ _ _ h => h) (Or.inl ⟨by rfl, ?_⟩) hHeld ?_
        rotate_left
        · intro w hSw; (try dsimp only at hSw); go_simp <;> with_reducible rfl
        try simp only [Act.put, List.setIfInBounds_toArray, List.set_cons_zero, List.set_cons_succ]
        refine wpAnyH_take (i := 8) (oi := { dst := some 59, op := Go.Op.move (Go.Operand.tmp 58), type := 4, pos := "law.go:97", after := #[{ on := 7, ground := Go.Ground.data }, { on := 4, ground := Go.Ground.chain }, { on := 4, ground := Go.Ground.guard }], guard := some (4, true) }) (v := ?_) rfl (by kernel_rfl) (by kernel_rfl) (by kernel_rfl) (fun _ _ _ h => h) (Or.inl ⟨by rfl, ?_⟩) hHeld ?_
        rotate_left
        · intro w hSw; (try dsimp only at hSw); go_simp <;> with_reducible rfl
        try simp only [Act.put, List.setIfInBounds_toArray, List.set_cons_zero, List.set_cons_succ]
        refine wpAnyH_take (i := 9) (oi := { dst := some 60, op := Go.Op.load 37 (Go.Operand.tmp 1), type := 37, pos := "law.go:97", after := #[{ on := 8, ground := Go.Ground.guard }], guard := some (8, false) }) (v := undef) rfl (by kernel_rfl) (by kernel_rfl) (by kernel_rfl) (fun _ _ _ h => h) (Or.inr ⟨by rfl, rfl⟩) hHeld ?_
        try simp only [Act.put, List.setIfInBounds_toArray, List.set_cons_zero, List.set_cons_succ]
        refine wpAnyH_take (i := 10) (oi := { dst := some 61, op := Go.Op.call { callee := Go.Callee.value (Go.Operand.func 46), args := #[Go.Operand.tmp 60], argTypes := #[37] }, type := 2, pos := "law.go:97", after := #[{ on := 9, ground := Go.Ground.data }, { on := 8, ground := Go.Ground.chain }, { on := 8, ground := Go.Ground.guard }], guard := some (8, false) }) (v := undef) rfl (by kernel_rfl) (by kernel_rfl) (by kernel_rfl) (fun _ _ _ h => h) (Or.inr ⟨by rfl, rfl⟩) hHeld ?_
        try simp only [Act.put, List.setIfInBounds_toArray, List.set_cons_zero, List.set_cons_succ]
        refine wpAnyH_take (i := 11) (oi := { dst := some 62, op := Go.Op.load 49 (Go.Operand.tmp 4), type := 49, pos := "law.go:97", after := #[{ on := 8, ground := Go.Ground.guard }], guard := some (8, false) }) (v := undef) rfl (by kernel_rfl) (by kernel_rfl) (by kernel_rfl) (fun _ _ _ h => h) (Or.inr ⟨by rfl, rfl⟩) hHeld ?_
        try simp only [Act.put, List.setIfInBounds_toArray, List.set_cons_zero, List.set_cons_succ]
        refine wpAnyH_take (i := 12) (oi := { dst := some 63, op := Go.Op.call { callee := Go.Callee.builtin Go.Builtin.len, args := #[Go.Operand.tmp 62], argTypes := #[49] }, type := 3, pos := "law.go:97", after := #[{ on := 11, ground := Go.Ground.data }, { on := 8, ground := Go.Ground.guard }], guard := some (8, false) }) (v := undef) rfl (by kernel_rfl) (by kernel_rfl) (by kernel_rfl) (fun _ _ _ h => h) (Or.inr ⟨by rfl, rfl⟩) hHeld ?_
        try simp only [Act.put, List.setIfInBounds_toArray, List.set_cons_zero, List.set_cons_succ]
        refine wpAnyH_take (i := 13) (oi := { dst := some 64, op := Go.Op.binOp Go.BinOp.eql 2 (Go.Operand.tmp 61) (Go.Operand.tmp 63) 2, type := 4, pos := "law.go:97", after := #[{ on := 10, ground := Go.Ground.data }, { on := 12, ground := Go.Ground.data }, { on := 8, ground := Go.Ground.guard }], guard := some (8, false) }) (v := undef) rfl (by kernel_rfl) (by kernel_rfl) (by kernel_rfl) (fun _ _ _ h => h) (Or.inr ⟨by rfl, rfl⟩) hHeld ?_
        try simp only [Act.put, List.setIfInBounds_toArray, List.set_cons_zero, List.set_cons_succ]
        refine wpAnyH_take (i := 14) (oi := { dst := some 65, op := Go.Op.pick (Go.Operand.tmp 59) (Go.Operand.const (Go.Value.bool true)) (Go.Operand.tmp 64), type := 4, pos := "law.go:97", after := #[{ on := 8, ground := Go.Ground.data }, { on := 13, ground := Go.Ground.data }, { on := 4, ground := Go.Ground.guard }], guard := some (4, true) }) (v := ?_) rfl (by kernel_rfl) (by kernel_rfl) (by kernel_rfl) (fun _ _ _ h => h) (Or.inl ⟨by rfl, ?_⟩) hHeld ?_
        rotate_left
        · intro w hSw; (try dsimp only at hSw); go_simp <;> with_reducible rfl
        try simp only [Act.put, List.setIfInBounds_toArray, List.set_cons_zero, List.set_cons_succ]
        refine wpAnyH_take (i := 15) (oi := { dst := some 66, op := Go.Op.pick (Go.Operand.tmp 55) (Go.Operand.tmp 65) (Go.Operand.const (Go.Value.bool false)), type := 4, pos := "law.go:97", after := #[{ on := 4, ground := Go.Ground.data }, { on := 14, ground := Go.Ground.data }], guard := none }) (v := ?_) rfl (by kernel_rfl) (by kernel_rfl) (by kernel_rfl) (fun _ _ _ h => h) (Or.inl ⟨by rfl, ?_⟩) hHeld ?_
        rotate_left
        · intro w hSw; (try dsimp only at hSw); go_simp <;> with_reducible rfl
        try simp only [Act.put, List.setIfInBounds_toArray, List.set_cons_zero, List.set_cons_succ]
        refine wpAnyH_take (i := 16) (oi := { dst := some 67, op := Go.Op.move (Go.Operand.tmp 66), type := 4, pos := "law.go:97", after := #[{ on := 15, ground := Go.Ground.data }, { on := 10, ground := Go.Ground.chain }], guard := none }) (v := ?_) rfl (by kernel_rfl) (by kernel_rfl) (by kernel_rfl) (fun _ _ _ h => h) (Or.inl ⟨by rfl, ?_⟩) hHeld ?_
        rotate_left
        · intro w hSw; (try dsimp only at hSw); go_simp <;> with_reducible rfl
        try simp only [Act.put, List.setIfInBounds_toArray, List.set_cons_zero, List.set_cons_succ]
        refine wpAnyH_take (i := 17) (oi := { dst := some 68, op := Go.Op.load 37 (Go.Operand.tmp 3), type := 37, pos := "law.go:97", after := #[{ on := 16, ground := Go.Ground.guard }], guard := some (16, true) }) (v := ?_) rfl (by kernel_rfl) (by kernel_rfl) (by kernel_rfl) (fun _ _ _ h => h) (Or.inl ⟨by rfl, ?_⟩) hHeld ?_
        rotate_left
        · intro w hSw; have u0 := hSw _ _ _ HNEC.out yC0; have u1 := hSw _ _ _ HNEC.out yC1; have u2 := hSw _ _ _ HNEC.out yC2; have u3 := hSw _ _ _ HNEC.out yC3; have u4 := hSw _ _ _ HNEC.out yC4; have u5 := hSw _ _ _ HNEC.out yC5; go_simp <;> with_reducible rfl
        try simp only [Act.put, List.setIfInBounds_toArray, List.set_cons_zero, List.set_cons_succ]
        refine wpAnyH_take (i := 18) (oi := { dst := some 69, op := Go.Op.load 37 (Go.Operand.tmp 1), type := 37, pos := "law.go:97", after := #[{ on := 16, ground := Go.Ground.guard }], guard := some (16, true) }) (v := ?_) rfl (by kernel_rfl) (by kernel_rfl) (by kernel_rfl) (fun _ _ _ h => h) (Or.inl ⟨by rfl, ?_⟩) hHeld ?_
        rotate_left
        · intro w hSw; have u0 := hSw _ _ _ HNEA.out yA0; have u1 := hSw _ _ _ HNEA.out yA1; have u2 := hSw _ _ _ HNEA.out yA2; have u3 := hSw _ _ _ HNEA.out yA3; have u4 := hSw _ _ _ HNEA.out yA4; have u5 := hSw _ _ _ HNEA.out yA5; go_simp <;> with_reducible rfl
        try simp only [Act.put, List.setIfInBounds_toArray, List.set_cons_zero, List.set_cons_succ]
        refine wpAnyH_ready (rs := [19]) (by kernel_rfl) (by simp) ?_
        refine AllReadyH.cons rfl (fun K hK => ?_) AllReadyH.nil
        go_simp
        refine (one_same _ _ d fa _ ((HF.out.2.1.below hq0).dr DC_5.out) ((HF.out.2.1.below hq0).dr DA_5.out)).mono ?_
        rintro e w301 ⟨rfl, hb⟩
        have hq1 : Below X.heap.size X w301 := hq0.trans (hb.mono hq0.size)
        clear hb
        refine hK.out _ _ (HS0 _ hq1) (fun hHeld2 => ?_)
        clear hK K hHeld
        have hHeld := hHeld2
        clear hHeld2
        try simp only [Act.put, List.setIfInBounds_toArray, List.set_cons_zero, List.set_cons_succ]
        refine wpAnyH_take (i := 20) (oi := { dst := some 71, op := Go.Op.pick (Go.Operand.tmp 67) (Go.Operand.tmp 70) (Go.Operand.const (Go.Value.bool false)), type := 4, pos := "law.go:97", after := #[{ on := 16, ground := Go.Ground.data }, { on := 19, ground := Go.Ground.data }], guard := none }) (v := ?_) rfl (by kernel_rfl) (by kernel_rfl) (by kernel_rfl) (fun _ _ _ h => h) (Or.inl ⟨by rfl, ?_⟩) hHeld ?_
        rotate_left
        · intro w hSw; (try dsimp only at hSw); go_simp <;> with_reducible rfl
        try simp only [Act.put, List.setIfInBounds_toArray, List.set_cons_zero, List.set_cons_succ]
        refine wpAnyH_take (i := 21) (oi := { dst := some 72, op := Go.Op.move (Go.Operand.tmp 71), type := 4, pos := "law.go:97", after := #[{ on := 20, ground := Go.Ground.data }, { on := 19, ground := Go.Ground.chain }], guard := none }) (v := ?_) rfl (by kernel_rfl) (by kernel_rfl) (by kernel_rfl) (fun _ _ _ h => h) (Or.inl ⟨by rfl, ?_⟩) hHeld ?_
        rotate_left
        · intro w hSw; (try dsimp only at hSw); go_simp <;> with_reducible rfl
        try simp only [Act.put, List.setIfInBounds_toArray, List.set_cons_zero, List.set_cons_succ]
        refine wpAnyH_ready (rs := [22]) (by kernel_rfl) (by simp) ?_
        refine AllReadyH.cons rfl (fun K hK => ?_) AllReadyH.nil
        go_simp
        refine (K32.out _ (hXW.trans (hq1.mono hXW.size))).mono ?_
        rintro e w302 ⟨rfl, hb⟩
        have hq2 : Below X.heap.size X w302 := hq1.trans (hb.mono hq1.size)
        clear hb hq1
        refine hK.out _ _ (HS0 _ hq2) (fun hHeld2 => ?_)
        clear hK K hHeld
        have hHeld := hHeld2
        clear hHeld2
        try simp only [Act.put, List.setIfInBounds_toArray, List.set_cons_zero, List.set_cons_succ]
        refine wpAnyH_take (i := 23) (oi := { dst := some 74, op := Go.Op.pick (Go.Operand.tmp 72) (Go.Operand.tmp 73) (Go.Operand.const (Go.Value.bool false)), type := 4, pos := "law.go:97", after := #[{ on := 21, ground := Go.Ground.data }, { on := 22, ground := Go.Ground.data }], guard := none }) (v := ?_) rfl (by kernel_rfl) (by kernel_rfl) (by kernel_rfl) (fun _ _ _ h => h) (Or.inl ⟨by rfl, ?_⟩) hHeld ?_
        rotate_left
        · intro w hSw; (try dsimp only at hSw); go_simp <;> with_reducible rfl
        try simp only [Act.put, List.setIfInBounds_toArray, List.set_cons_zero, List.set_cons_succ]
        refine wpAnyH_ready (rs := [24]) (by kernel_rfl) (by simp) ?_
        refine AllReadyH.cons rfl (fun K hK => ?_) AllReadyH.nil
        have c9 := (HF.out.2.2.2.below hq2).cell
        have f9 := (HF.out.2.2.2.below hq2).fz
        go_simp
        refine hK.out _ _ (fun b o v hb hc => by simp only [World.cell?, Below.heap_setCell _ ⟨W.heap.size + 1, 0, none⟩ _ b hb]; exact HS0 _ hq2 b o v hb hc) (fun hHeld2 => ?_)
        clear hK K hHeld
        have hHeld := hHeld2
        clear hHeld2
        try simp only [Act.put, List.setIfInBounds_toArray, List.set_cons_zero, List.set_cons_succ]
        refine wpAnyH_done (by kernel_rfl) ?_ _
        clear hHeld HS0
        have hBw : Below W.heap.size W (w302.setCell ⟨W.heap.size + 1, 0, none⟩ (.bool true)) := (hXW.trans (hq2.mono hXW.size)).setCell (p := ⟨W.heap.size + 1, 0, none⟩) (Nat.le_succ _) _
        have hr9 : C1 (w302.setCell ⟨W.heap.size + 1, 0, none⟩ (.bool true)) (W.heap.size + 1) (.bool true) 4 := (HF.out.2.2.2.below hq2).set
        have hwM : (w302.setCell ⟨W.heap.size + 1, 0, none⟩ (.bool true)).heap[D]? = some (.deferred (some [])) := (Below.heap_setCell _ ⟨W.heap.size + 1, 0, none⟩ _ D (show D ≠ W.heap.size + 1 by have := HC6.out; have := hD2; omega)).trans ((hq2.block D (Array.getElem?_eq_some_iff.1 HDM.out).1).trans HDM.out)
        have hDR : D ≠ W.heap.size + 1 := by have := HC6.out; omega
        have hr8 : C1 ((w302.setCell ⟨W.heap.size + 1, 0, none⟩ (.bool true)).putObj D (.deferred none)) (W.heap.size + 1) (.bool true) 4 := ⟨(World.putObj_heap_other (Ne.symm hDR)).trans hr9.h⟩
        have hDW : W.heap.size ≤ D := by have := HC6.out; omega
        go_wp2
        refine ⟨by simp, .inl ⟨_, _, rfl, run_takeDeferred hwM, ?_⟩⟩
        refine ⟨_, C1.res (p := 2) rfl _ hr8 rfl, rfl, ?_⟩
        exact hBw.trans (belowK_b (n₀ := W.heap.size) (w := W) (Nat.le_refl _) _ D _ (.deferred none) hDW hwM rfl rfl)
      · have HCT : Hid (countD d = (nw : Int)) := by
          unfold Hid; rw [all_count (nonempty_facts hem).1 (by omega), hnw]
        have hn1 : ¬ (nw : Int) = 100 := by omega
        have hn2 : ¬ nw = 100 := by omega
        have hn3 : ((nw : Int) == 100) = false := by simpa using hn1
        clear hi hDX hkq hal hnw h100 hf
        go_upto_region 17 with (fail)
        refine wp_calm ?_
        have hXW : Below W.heap.size W X := HF.out.2.2.1
        have HS0 : ∀ X', Below X.heap.size X X' → (∀ b o v, b ≠ W.heap.size + 1 → X.cell? ⟨b, o, none⟩ = some v → X'.cell? ⟨b, o, none⟩ = some v) := fun X' hb b o v _ hc => (hb.cell (p := ⟨b, o, none⟩) (cell_lt hc)).trans hc
        have hq0 : Below X.heap.size X X.drew := Below.drew (Below.refl _ _)
        obtain ⟨zA0, zA1, zA2, zA3, zA4, zA5⟩ := HA_5.out.cells
        have yA0 := HF.out.2.1.2 _ _ _ zA0
        have yA1 := HF.out.2.1.2 _ _ _ zA1
        have yA2 := HF.out.2.1.2 _ _ _ zA2
        have yA3 := HF.out.2.1.2 _ _ _ zA3
        have yA4 := HF.out.2.1.2 _ _ _ zA4
        have yA5 := HF.out.2.1.2 _ _ _ zA5
        clear zA0 zA1 zA2 zA3 zA4 zA5
        obtain ⟨zC0, zC1, zC2, zC3, zC4, zC5⟩ := HC_5.out.cells
        have yC0 := HF.out.2.1.2 _ _ _ zC0
        have yC1 := HF.out.2.1.2 _ _ _ zC1
        have yC2 := HF.out.2.1.2 _ _ _ zC2
        have yC3 := HF.out.2.1.2 _ _ _ zC3
        have yC4 := HF.out.2.1.2 _ _ _ zC4
        have yC5 := HF.out.2.1.2 _ _ _ zC5
        clear zC0 zC1 zC2 zC3 zC4 zC5
        have yW := HF.out.2.1.2 _ _ _ HW_5.out.cell
        have yN := HF.out.1.cell
        refine wp_region_held_drew (S := (fun w' => ∀ b o v, b ≠ W.heap.size + 1 → X.cell? ⟨b, o, none⟩ = some v → w'.cell? ⟨b, o, none⟩ = some v)) (by kernel_rfl) (HS0 _ hq0) (fun hHeld => ?_)
        refine wpAnyH_take (i := 0) (oi := { dst := some 51, op := Go.Op.load 3 (Go.Operand.tmp 6), type := 3, pos := "law.go:97", after := #[], guard := none }) (v := ?_) rfl (by kernel_rfl) (by kernel_rfl) (by kernel_rfl) (fun _ _ _ h => h) (Or.inl ⟨by rfl, ?_⟩) hHeld ?_
        rotate_left
        · intro w hSw; have u0 := hSw _ _ _ HNEN.out yN; go_simp <;> with_reducible rfl
        try simp only [Act.put, List.setIfInBounds_toArray, List.set_cons_zero, List.set_cons_succ]
        refine wpAnyH_take (i := 1) (oi := { dst := some 52, op := Go.Op.load 49 (Go.Operand.tmp 4), type := 49, pos := "law.go:97", after := #[], guard := none }) (v := ?_) rfl (by kernel_rfl) (by kernel_rfl) (by kernel_rfl) (fun _ _ _ h => h) (Or.inl ⟨by rfl, ?_⟩) hHeld ?_
        rotate_left
        · intro w hSw; have u0 := hSw _ _ _ HNEW.out yW; go_simp <;> with_reducible rfl
        try simp only [Act.put, List.setIfInBounds_toArray, List.set_cons_zero, List.set_cons_succ]
        refine wpAnyH_take (i := 2) (oi := { dst := some 53, op := Go.Op.call { callee := Go.Callee.builtin Go.Builtin.len, args := #[Go.Operand.tmp 52], argTypes := #[49] }, type := 3, pos := "law.go:97", after := #[{ on := 1, ground := Go.Ground.data }], guard := none }) (v := ?_) rfl (by kernel_rfl) (by kernel_rfl) (by kernel_rfl) (fun _ _ _ h => h) (Or.inl ⟨by rfl, ?_⟩) hHeld ?_
        rotate_left
        · intro w hSw; (try dsimp only at hSw); go_simp <;> with_reducible rfl
        try simp only [Act.put, List.setIfInBounds_toArray, List.set_cons_zero, List.set_cons_succ]
        refine wpAnyH_take (i := 3) (oi := { dst := some 54, op := Go.Op.binOp Go.BinOp.eql 3 (Go.Operand.tmp 51) (Go.Operand.tmp 53) 3, type := 4, pos := "law.go:97", after := #[{ on := 0, ground := Go.Ground.data }, { on := 2, ground := Go.Ground.data }], guard := none }) (v := ?_) rfl (by kernel_rfl) (by kernel_rfl) (by kernel_rfl) (fun _ _ _ h => h) (Or.inl ⟨by rfl, ?_⟩) hHeld ?_
        rotate_left
        · intro w hSw; (try dsimp only at hSw); go_simp <;> with_reducible rfl
        try simp only [Act.put, List.setIfInBounds_toArray, List.set_cons_zero, List.set_cons_succ]
        refine wpAnyH_take (i := 4) (oi := { dst := some 55, op := Go.Op.move (Go.Operand.tmp 54), type := 4, pos := "law.go:97", after := #[{ on := 3, ground := Go.Ground.data }], guard := none }) (v := ?_) rfl (by kernel_rfl) (by kernel_rfl) (by kernel_rfl) (fun _ _ _ h => h) (Or.inl ⟨by rfl, ?_⟩) hHeld ?_
        rotate_left
        · intro w hSw; (try dsimp only at hSw); go_simp <;> with_reducible rfl
        try simp only [Act.put, List.setIfInBounds_toArray, List.set_cons_zero, List.set_cons_succ]
        refine wpAnyH_take (i := 5) (oi := { dst := some 56, op := Go.Op.load 49 (Go.Operand.tmp 4), type := 49, pos := "law.go:97", after := #[{ on := 4, ground := Go.Ground.guard }], guard := some (4, true) }) (v := ?_) rfl (by kernel_rfl) (by kernel_rfl) (by kernel_rfl) (fun _ _ _ h => h) (Or.inl ⟨by rfl, ?_⟩) hHeld ?_
        rotate_left
        · intro w hSw; have u0 := hSw _ _ _ HNEW.out yW; go_simp <;> with_reducible rfl
        try simp only [Act.put, List.setIfInBounds_toArray, List.set_cons_zero, List.set_cons_succ]
        refine wpAnyH_take (i := 6) (oi := { dst := some 57, op := Go.Op.call { callee := Go.Callee.builtin Go.Builtin.len, args := #[Go.Operand.tmp 56], argTypes := #[49] }, type := 3, pos := "law.go:97", after := #[{ on := 5, ground := Go.Ground.data }, { on := 4, ground := Go.Ground.guard }], guard := some (4, true) }) (v := ?_) rfl (by kernel_rfl) (by kernel_rfl) (by kernel_rfl) (fun _ _ _ h => h) (Or.inl ⟨by rfl, ?_⟩) hHeld ?_
        rotate_left
        · intro w hSw; (try dsimp only at hSw); go_simp <;> with_reducible rfl
        try simp only [Act.put, List.setIfInBounds_toArray, List.set_cons_zero, List.set_cons_succ]
        refine wpAnyH_take (i := 7) (oi := { dst := some 58, op := Go.Op.binOp Go.BinOp.eql 3 (Go.Operand.tmp 57) (Go.Operand.const (Go.Value.int Go.IntKind.i64 100)) 3, type := 4, pos := "law.go:97", after := #[{ on := 6, ground := Go.Ground.data }, { on := 4, ground := Go.Ground.guard }], guard := some (4, true) }) (v := ?_) rfl (by kernel_rfl) (by kernel_rfl) (by kernel_rfl) (fun _ _ _ h => h) (Or.inl ⟨by rfl, ?_⟩) hHeld ?_
        rotate_left
        · intro w hSw; (try dsimp only at hSw); go_simp <;> with_reducible rfl
        try simp only [Act.put, List.setIfInBounds_toArray, List.set_cons_zero, List.set_cons_succ]
        refine wpAnyH_take (i := 8) (oi := { dst := some 59, op := Go.Op.move (Go.Operand.tmp 58), type := 4, pos := "law.go:97", after := #[{ on := 7, ground := Go.Ground.data }, { on := 4, ground := Go.Ground.chain }, { on := 4, ground := Go.Ground.guard }], guard := some (4, true) }) (v := ?_) rfl (by kernel_rfl) (by kernel_rfl) (by kernel_rfl) (fun _ _ _ h => h) (Or.inl ⟨by rfl, ?_⟩) hHeld ?_
        rotate_left
        · intro w hSw; (try dsimp only at hSw); go_simp <;> with_reducible rfl
        try simp only [Act.put, List.setIfInBounds_toArray, List.set_cons_zero, List.set_cons_succ]
        refine wpAnyH_take (i := 9) (oi := { dst := some 60, op := Go.Op.load 37 (Go.Operand.tmp 1), type := 37, pos := "law.go:97", after := #[{ on := 8, ground := Go.Ground.guard }], guard := some (8, false) }) (v := ?_) rfl (by kernel_rfl) (by kernel_rfl) (by kernel_rfl) (fun _ _ _ h => h) (Or.inl ⟨by rfl, ?_⟩) hHeld ?_
        rotate_left
        · intro w hSw; have u0 := hSw _ _ _ HNEA.out yA0; have u1 := hSw _ _ _ HNEA.out yA1; have u2 := hSw _ _ _ HNEA.out yA2; have u3 := hSw _ _ _ HNEA.out yA3; have u4 := hSw _ _ _ HNEA.out yA4; have u5 := hSw _ _ _ HNEA.out yA5; go_simp <;> with_reducible rfl
        try simp only [Act.put, List.setIfInBounds_toArray, List.set_cons_zero, List.set_cons_succ]
        refine wpAnyH_take (i := 11) (oi := { dst := some 62, op := Go.Op.load 49 (Go.Operand.tmp 4), type := 49, pos := "law.go:97", after := #[{ on := 8, ground := Go.Ground.guard }], guard := some (8, false) }) (v := ?_) rfl (by kernel_rfl) (by kernel_rfl) (by kernel_rfl) (fun _ _ _ h => h) (Or.inl ⟨by rfl, ?_⟩) hHeld ?_
        rotate_left
        · intro w hSw; have u0 := hSw _ _ _ HNEW.out yW; go_simp <;> with_reducible rfl
        try simp only [Act.put, List.setIfInBounds_toArray, List.set_cons_zero, List.set_cons_succ]
        refine wpAnyH_take (i := 12) (oi := { dst := some 63, op := Go.Op.call { callee := Go.Callee.builtin Go.Builtin.len, args := #[Go.Operand.tmp 62], argTypes := #[49] }, type := 3, pos := "law.go:97", after := #[{ on := 11, ground := Go.Ground.data }, { on := 8, ground := Go.Ground.guard }], guard := some (8, false) }) (v := ?_) rfl (by kernel_rfl) (by kernel_rfl) (by kernel_rfl) (fun _ _ _ h => h) (Or.inl ⟨by rfl, ?_⟩) hHeld ?_
        rotate_left
        · intro w hSw; (try dsimp only at hSw); go_simp <;> with_reducible rfl
        try simp only [Act.put, List.setIfInBounds_toArray, List.set_cons_zero, List.set_cons_succ]
        refine wpAnyH_ready (rs := [10]) (by kernel_rfl) (by simp) ?_
        refine AllReadyH.cons rfl (fun K hK => ?_) AllReadyH.nil
        go_simp
        refine (eqi HCT.out (count_any _ d _ ((HF.out.2.1.below hq0).di DA_5.out.di))).mono ?_
        rintro e w301 ⟨rfl, hb⟩
        have hq1 : Below X.heap.size X w301 := hq0.trans (hb.mono hq0.size)
        clear hb
        refine hK.out _ _ (HS0 _ hq1) (fun hHeld2 => ?_)
        clear hK K hHeld
        have hHeld := hHeld2
        clear hHeld2
        try simp only [Act.put, List.setIfInBounds_toArray, List.set_cons_zero, List.set_cons_succ]
        refine wpAnyH_take (i := 13) (oi := { dst := some 64, op := Go.Op.binOp Go.BinOp.eql 2 (Go.Operand.tmp 61) (Go.Operand.tmp 63) 2, type := 4, pos := "law.go:97", after := #[{ on := 10, ground := Go.Ground.data }, { on := 12, ground := Go.Ground.data }, { on := 8, ground := Go.Ground.guard }], guard := some (8, false) }) (v := ?_) rfl (by kernel_rfl) (by kernel_rfl) (by kernel_rfl) (fun _ _ _ h => h) (Or.inl ⟨by rfl, ?_⟩) hHeld ?_
        rotate_left
        · intro w hSw; (try dsimp only at hSw); go_simp <;> with_reducible rfl
        try simp only [Act.put, List.setIfInBounds_toArray, List.set_cons_zero, List.set_cons_succ]
        refine wpAnyH_take (i := 14) (oi := { dst := some 65, op := Go.Op.pick (Go.Operand.tmp 59) (Go.Operand.const (Go.Value.bool true)) (Go.Operand.tmp 64), type := 4, pos := "law.go:97", after := #[{ on := 8, ground := Go.Ground.data }, { on := 13, ground := Go.Ground.data }, { on := 4, ground := Go.Ground.guard }], guard := some (4, true) }) (v := ?_) rfl (by kernel_rfl) (by kernel_rfl) (by kernel_rfl) (fun _ _ _ h => h) (Or.inl ⟨by rfl, ?_⟩) hHeld ?_
        rotate_left
        · intro w hSw; (try dsimp only at hSw); go_simp <;> with_reducible rfl
        try simp only [Act.put, List.setIfInBounds_toArray, List.set_cons_zero, List.set_cons_succ]
        refine wpAnyH_take (i := 15) (oi := { dst := some 66, op := Go.Op.pick (Go.Operand.tmp 55) (Go.Operand.tmp 65) (Go.Operand.const (Go.Value.bool false)), type := 4, pos := "law.go:97", after := #[{ on := 4, ground := Go.Ground.data }, { on := 14, ground := Go.Ground.data }], guard := none }) (v := ?_) rfl (by kernel_rfl) (by kernel_rfl) (by kernel_rfl) (fun _ _ _ h => h) (Or.inl ⟨by rfl, ?_⟩) hHeld ?_
        rotate_left
        · intro w hSw; (try dsimp only at hSw); go_simp <;> with_reducible rfl
        try simp only [Act.put, List.setIfInBounds_toArray, List.set_cons_zero, List.set_cons_succ]
        refine wpAnyH_take (i := 16) (oi := { dst := some 67, op := Go.Op.move (Go.Operand.tmp 66), type := 4, pos := "law.go:97", after := #[{ on := 15, ground := Go.Ground.data }, { on := 10, ground := Go.Ground.chain }], guard := none }) (v := ?_) rfl (by kernel_rfl) (by kernel_rfl) (by kernel_rfl) (fun _ _ _ h => h) (Or.inl ⟨by rfl, ?_⟩) hHeld ?_
        rotate_left
        · intro w hSw; (try dsimp only at hSw); go_simp <;> with_reducible rfl
        try simp only [Act.put, List.setIfInBounds_toArray, List.set_cons_zero, List.set_cons_succ]
        refine wpAnyH_take (i := 17) (oi := { dst := some 68, op := Go.Op.load 37 (Go.Operand.tmp 3), type := 37, pos := "law.go:97", after := #[{ on := 16, ground := Go.Ground.guard }], guard := some (16, true) }) (v := ?_) rfl (by kernel_rfl) (by kernel_rfl) (by kernel_rfl) (fun _ _ _ h => h) (Or.inl ⟨by rfl, ?_⟩) hHeld ?_
        rotate_left
        · intro w hSw; have u0 := hSw _ _ _ HNEC.out yC0; have u1 := hSw _ _ _ HNEC.out yC1; have u2 := hSw _ _ _ HNEC.out yC2; have u3 := hSw _ _ _ HNEC.out yC3; have u4 := hSw _ _ _ HNEC.out yC4; have u5 := hSw _ _ _ HNEC.out yC5; go_simp <;> with_reducible rfl
        try simp only [Act.put, List.setIfInBounds_toArray, List.set_cons_zero, List.set_cons_succ]
        refine wpAnyH_take (i := 18) (oi := { dst := some 69, op := Go.Op.load 37 (Go.Operand.tmp 1), type := 37, pos := "law.go:97", after := #[{ on := 16, ground := Go.Ground.guard }], guard := some (16, true) }) (v := ?_) rfl (by kernel_rfl) (by kernel_rfl) (by kernel_rfl) (fun _ _ _ h => h) (Or.inl ⟨by rfl, ?_⟩) hHeld ?_
        rotate_left
        · intro w hSw; have u0 := hSw _ _ _ HNEA.out yA0; have u1 := hSw _ _ _ HNEA.out yA1; have u2 := hSw _ _ _ HNEA.out yA2; have u3 := hSw _ _ _ HNEA.out yA3; have u4 := hSw _ _ _ HNEA.out yA4; have u5 := hSw _ _ _ HNEA.out yA5; go_simp <;> with_reducible rfl
        try simp only [Act.put, List.setIfInBounds_toArray, List.set_cons_zero, List.set_cons_succ]
        refine wpAnyH_ready (rs := [19]) (by kernel_rfl) (by simp) ?_
        refine AllReadyH.cons rfl (fun K hK => ?_) AllReadyH.nil
        go_simp
        refine (one_same _ _ d fa _ ((HF.out.2.1.below hq1).dr DC_5.out) ((HF.out.2.1.below hq1).dr DA_5.out)).mono ?_
        rintro e w302 ⟨rfl, hb⟩
        have hq2 : Below X.heap.size X w302 := hq1.trans (hb.mono hq1.size)
        clear hb hq1
        refine hK.out _ _ (HS0 _ hq2) (fun hHeld2 => ?_)
        clear hK K hHeld
        have hHeld := hHeld2
        clear hHeld2
        try simp only [Act.put, List.setIfInBounds_toArray, List.set_cons_zero, List.set_cons_succ]
        refine wpAnyH_take (i := 20) (oi := { dst := some 71, op := Go.Op.pick (Go.Operand.tmp 67) (Go.Operand.tmp 70) (Go.Operand.const (Go.Value.bool false)), type := 4, pos := "law.go:97", after := #[{ on := 16, ground := Go.Ground.data }, { on := 19, ground := Go.Ground.data }], guard := none }) (v := ?_) rfl (by kernel_rfl) (by kernel_rfl) (by kernel_rfl) (fun _ _ _ h => h) (Or.inl ⟨by rfl, ?_⟩) hHeld ?_
        rotate_left
        · intro w hSw; (try dsimp only at hSw); go_simp <;> with_reducible rfl
        try simp only [Act.put, List.setIfInBounds_toArray, List.set_cons_zero, List.set_cons_succ]
        refine wpAnyH_take (i := 21) (oi := { dst := some 72, op := Go.Op.move (Go.Operand.tmp 71), type := 4, pos := "law.go:97", after := #[{ on := 20, ground := Go.Ground.data }, { on := 19, ground := Go.Ground.chain }], guard := none }) (v := ?_) rfl (by kernel_rfl) (by kernel_rfl) (by kernel_rfl) (fun _ _ _ h => h) (Or.inl ⟨by rfl, ?_⟩) hHeld ?_
        rotate_left
        · intro w hSw; (try dsimp only at hSw); go_simp <;> with_reducible rfl
        try simp only [Act.put, List.setIfInBounds_toArray, List.set_cons_zero, List.set_cons_succ]
        refine wpAnyH_ready (rs := [22]) (by kernel_rfl) (by simp) ?_
        refine AllReadyH.cons rfl (fun K hK => ?_) AllReadyH.nil
        go_simp
        refine (K32.out _ (hXW.trans (hq2.mono hXW.size))).mono ?_
        rintro e w303 ⟨rfl, hb⟩
        have hq3 : Below X.heap.size X w303 := hq2.trans (hb.mono hq2.size)
        clear hb hq2
        refine hK.out _ _ (HS0 _ hq3) (fun hHeld2 => ?_)
        clear hK K hHeld
        have hHeld := hHeld2
        clear hHeld2
        try simp only [Act.put, List.setIfInBounds_toArray, List.set_cons_zero, List.set_cons_succ]
        refine wpAnyH_take (i := 23) (oi := { dst := some 74, op := Go.Op.pick (Go.Operand.tmp 72) (Go.Operand.tmp 73) (Go.Operand.const (Go.Value.bool false)), type := 4, pos := "law.go:97", after := #[{ on := 21, ground := Go.Ground.data }, { on := 22, ground := Go.Ground.data }], guard := none }) (v := ?_) rfl (by kernel_rfl) (by kernel_rfl) (by kernel_rfl) (fun _ _ _ h => h) (Or.inl ⟨by rfl, ?_⟩) hHeld ?_
        rotate_left
        · intro w hSw; (try dsimp only at hSw); go_simp <;> with_reducible rfl
        try simp only [Act.put, List.setIfInBounds_toArray, List.set_cons_zero, List.set_cons_succ]
        refine wpAnyH_ready (rs := [24]) (by kernel_rfl) (by simp) ?_
        refine AllReadyH.cons rfl (fun K hK => ?_) AllReadyH.nil
        have c9 := (HF.out.2.2.2.below hq3).cell
        have f9 := (HF.out.2.2.2.below hq3).fz
        go_simp
        refine hK.out _ _ (fun b o v hb hc => by simp only [World.cell?, Below.heap_setCell _ ⟨W.heap.size + 1, 0, none⟩ _ b hb]; exact HS0 _ hq3 b o v hb hc) (fun hHeld2 => ?_)
        clear hK K hHeld
        have hHeld := hHeld2
        clear hHeld2
        try simp only [Act.put, List.setIfInBounds_toArray, List.set_cons_zero, List.set_cons_succ]
        refine wpAnyH_done (by kernel_rfl) ?_ _
        clear hHeld HS0
        have hBw : Below W.heap.size W (w303.setCell ⟨W.heap.size + 1, 0, none⟩ (.bool true)) := (hXW.trans (hq3.mono hXW.size)).setCell (p := ⟨W.heap.size + 1, 0, none⟩) (Nat.le_succ _) _
        have hr9 : C1 (w303.setCell ⟨W.heap.size + 1, 0, none⟩ (.bool true)) (W.heap.size + 1) (.bool true) 4 := (HF.out.2.2.2.below hq3).set
        have hwM : (w303.setCell ⟨W.heap.size + 1, 0, none⟩ (.bool true)).heap[D]? = some (.deferred (some [])) := (Below.heap_setCell _ ⟨W.heap.size + 1, 0, none⟩ _ D (show D ≠ W.heap.size + 1 by have := HC6.out; have := hD2; omega)).trans ((hq3.block D (Array.getElem?_eq_some_iff.1 HDM.out).1).trans HDM.out)
        have hDR : D ≠ W.heap.size + 1 := by have := HC6.out; omega
        have hr8 : C1 ((w303.setCell ⟨W.heap.size + 1, 0, none⟩ (.bool true)).putObj D (.deferred none)) (W.heap.size + 1) (.bool true) 4 := ⟨(World.putObj_heap_other (Ne.symm hDR)).trans hr9.h⟩
        have hDW : W.heap.size ≤ D := by have := HC6.out; omega
        go_wp2
        refine ⟨by simp, .inl ⟨_, _, rfl, run_takeDeferred hwM, ?_⟩⟩
        refine ⟨_, C1.res (p := 2) rfl _ hr8 rfl, rfl, ?_⟩
        exact hBw.trans (belowK_b (n₀ := W.heap.size) (w := W) (Nat.le_refl _) _ D _ (.deferred none) hDW hwM rfl rfl)
  · refine range_none (w := w5.alloc (Obj.cells #[.int .i64 0] 3)) 6 B rfl (takenD d) ((emp_taken d).trans hem) HTF.out.2.2.2.2.2.2.1 p1' p2' k1' k2' ((hz6.block B hBl).trans HRR.out.1) ((own_si HRR.out.2.1).below hz6) ((own_si HRR.out.2.2).below hz6) ?_
    rintro D X hD hbX hDX
    have HDM : Hid (X.heap[D]? = some (.deferred (some []))) := hDX
    have hnw : 0 = nw := by rw [← HNW.out]; unfold wantD; rw [hem]; rfl
    have HF : Hid (Ri w5.heap.size w5 W nw X) := by rw [← hnw]; exact HI0.out.below hbX
    have HCT : Hid (countD d = (nw : Int)) := by unfold Hid; rw [← hnw, count_empty hem]; rfl
    have hn1 : ¬ (nw : Int) = 100 := by omega
    have hn2 : ¬ nw = 100 := by omega
    have hn3 : ((nw : Int) == 100) = false := by simpa using hn1
    have HNEA : Hid (W.heap.size ≠ W.heap.size + 1) := by unfold Hid; omega
    have HNEN : Hid (w5.heap.size ≠ W.heap.size + 1) := by have := HC6.out; unfold Hid; omega
    have HNEC : Hid (GC ≠ W.heap.size + 1) := by intro e; have h8 := HC_5.out.h; have h9 := R2_5.out.h; rw [e, h9] at h8; injection h8 with h8; injection h8 with _ h8 _; cases h8
    have HNEW : Hid (GW ≠ W.heap.size + 1) := by intro e; have h8 := HW_5.out.h; have h9 := R2_5.out.h; rw [e, h9] at h8; injection h8 with h8; injection h8 with _ h8 _; cases h8
    have hD2 : w5.heap.size < D := by simp at hD; omega
    clear hDX hbX hnw hD
    simp only [Exit.inBlock]
    go_upto_region 17 with (fail)
    refine wp_calm ?_
    have hXW : Below W.heap.size W X := HF.out.2.2.1
    have HS0 : ∀ X', Below X.heap.size X X' → (∀ b o v, b ≠ W.heap.size + 1 → X.cell? ⟨b, o, none⟩ = some v → X'.cell? ⟨b, o, none⟩ = some v) := fun X' hb b o v _ hc => (hb.cell (p := ⟨b, o, none⟩) (cell_lt hc)).trans hc
    have hq0 : Below X.heap.size X X.drew := Below.drew (Below.refl _ _)
    obtain ⟨zA0, zA1, zA2, zA3, zA4, zA5⟩ := HA_5.out.cells
    have yA0 := HF.out.2.1.2 _ _ _ zA0
    have yA1 := HF.out.2.1.2 _ _ _ zA1
    have yA2 := HF.out.2.1.2 _ _ _ zA2
    have yA3 := HF.out.2.1.2 _ _ _ zA3
    have yA4 := HF.out.2.1.2 _ _ _ zA4
    have yA5 := HF.out.2.1.2 _ _ _ zA5
    clear zA0 zA1 zA2 zA3 zA4 zA5
    obtain ⟨zC0, zC1, zC2, zC3, zC4, zC5⟩ := HC_5.out.cells
    have yC0 := HF.out.2.1.2 _ _ _ zC0
    have yC1 := HF.out.2.1.2 _ _ _ zC1
    have yC2 := HF.out.2.1.2 _ _ _ zC2
    have yC3 := HF.out.2.1.2 _ _ _ zC3
    have yC4 := HF.out.2.1.2 _ _ _ zC4
    have yC5 := HF.out.2.1.2 _ _ _ zC5
    clear zC0 zC1 zC2 zC3 zC4 zC5
    have yW := HF.out.2.1.2 _ _ _ HW_5.out.cell
    have yN := HF.out.1.cell
    refine wp_region_held_drew (S := (fun w' => ∀ b o v, b ≠ W.heap.size + 1 → X.cell? ⟨b, o, none⟩ = some v → w'.cell? ⟨b, o, none⟩ = some v)) (by kernel_rfl) (HS0 _ hq0) (fun hHeld => ?_)
    refine wpAnyH_take (i := 0) (oi := { dst := some 51, op := Go.Op.load 3 (Go.Operand.tmp 6), type := 3, pos := "law.go:97", after := #[], guard := none }) (v := ?_) rfl (by kernel_rfl) (by kernel_rfl) (by kernel_rfl) (fun _ _ _ h => h) (Or.inl ⟨by rfl, ?_⟩) hHeld ?_
    rotate_left
    · intro w hSw; have u0 := hSw _ _ _ HNEN.out yN; go_simp <;> with_reducible rfl
    try simp only [Act.put, List.setIfInBounds_toArray, List.set_cons_zero, List.set_cons_succ]
    refine wpAnyH_take (i := 1) (oi := { dst := some 52, op := Go.Op.load 49 (Go.Operand.tmp 4), type := 49, pos := "law.go:97", after := #[], guard := none }) (v := ?_) rfl (by kernel_rfl) (by kernel_rfl) (by kernel_rfl) (fun _ _ _ h => h) (Or.inl ⟨by rfl, ?_⟩) hHeld ?_
    rotate_left
    · intro w hSw; have u0 := hSw _ _ _ HNEW.out yW; go_simp <;> with_reducible rfl
    try simp only [Act.put, List.setIfInBounds_toArray, List.set_cons_zero, List.set_cons_succ]
    refine wpAnyH_take (i := 2) (oi := { dst := some 53, op := Go.Op.call { callee := Go.Callee.builtin Go.Builtin.len, args := #[Go.Operand.tmp 52], argTypes := #[49] }, type := 3, pos := "law.go:97", after := #[{ on := 1, ground := Go.Ground.data }], guard := none }) (v := ?_) rfl (by kernel_rfl) (by kernel_rfl) (by kernel_rfl) (fun _ _ _ h => h) (Or.inl ⟨by rfl, ?_⟩) hHeld ?_
    rotate_left
    · intro w hSw; (try dsimp only at hSw); go_simp <;> with_reducible rfl
    try simp only [Act.put, List.setIfInBounds_toArray, List.set_cons_zero, List.set_cons_succ]
    refine wpAnyH_take (i := 3) (oi := { dst := some 54, op := Go.Op.binOp Go.BinOp.eql 3 (Go.Operand.tmp 51) (Go.Operand.tmp 53) 3, type := 4, pos := "law.go:97", after := #[{ on := 0, ground := Go.Ground.data }, { on := 2, ground := Go.Ground.data }], guard := none }) (v := ?_) rfl (by kernel_rfl) (by kernel_rfl) (by kernel_rfl) (fun _ _ _ h => h) (Or.inl ⟨by rfl, ?_⟩) hHeld ?_
    rotate_left
    · intro w hSw; (try dsimp only at hSw); go_simp <;> with_reducible rfl
    try simp only [Act.put, List.setIfInBounds_toArray, List.set_cons_zero, List.set_cons_succ]
    refine wpAnyH_take (i := 4) (oi := { dst := some 55, op := Go.Op.move (Go.Operand.tmp 54), type := 4, pos := "law.go:97", after := #[{ on := 3, ground := Go.Ground.data }], guard := none }) (v := ?_) rfl (by kernel_rfl) (by kernel_rfl) (by kernel_rfl) (fun _ _ _ h => h) (Or.inl ⟨by rfl, ?_⟩) hHeld ?_
    rotate_left
    · intro w hSw; (try dsimp only at hSw); go_simp <;> with_reducible rfl
    try simp only [Act.put, List.setIfInBounds_toArray, List.set_cons_zero, List.set_cons_succ]
    refine wpAnyH_take (i := 5) (oi := { dst := some 56, op := Go.Op.load 49 (Go.Operand.tmp 4), type := 49, pos := "law.go:97", after := #[{ on := 4, ground := Go.Ground.guard }], guard := some (4, true) }) (v := ?_) rfl (by kernel_rfl) (by kernel_rfl) (by kernel_rfl) (fun _ _ _ h => h) (Or.inl ⟨by rfl, ?_⟩) hHeld ?_
    rotate_left
    · intro w hSw; have u0 := hSw _ _ _ HNEW.out yW; go_simp <;> with_reducible rfl
    try simp only [Act.put, List.setIfInBounds_toArray, List.set_cons_zero, List.set_cons_succ]
    refine wpAnyH_take (i := 6) (oi := { dst := some 57, op := Go.Op.call { callee := Go.Callee.builtin Go.Builtin.len, args := #[Go.Operand.tmp 56], argTypes := #[49] }, type := 3, pos := "law.go:97", after := #[{ on := 5, ground := Go.Ground.data }, { on := 4, ground := Go.Ground.guard }], guard := some (4, true) }) (v := ?_) rfl (by kernel_rfl) (by kernel_rfl) (by kernel_rfl) (fun _ _ _ h => h) (Or.inl ⟨by rfl, ?_⟩) hHeld ?_
    rotate_left
    · intro w hSw; (try dsimp only at hSw); go_simp <;> with_reducible rfl
    try simp only [Act.put, List.setIfInBounds_toArray, List.set_cons_zero, List.set_cons_succ]
    refine wpAnyH_take (i := 7) (oi := { dst := some 58, op := Go.Op.binOp Go.BinOp.eql 3 (Go.Operand.tmp 57) (Go.Operand.const (Go.Value.int Go.IntKind.i64 100)) 3, type := 4, pos := "law.go:97", after := #[{ on := 6, ground := Go.Ground.data }, { on := 4, ground := Go.Ground.guard }], guard := some (4, true) }) (v := ?_) rfl (by kernel_rfl) (by kernel_rfl) (by kernel_rfl) (fun _ _ _ h => h) (Or.inl ⟨by rfl, ?_⟩) hHeld ?_
    rotate_left
    · intro w hSw; (try dsimp only at hSw); go_simp <;> with_reducible rfl
    try simp only [Act.put, List.setIfInBounds_toArray, List.set_cons_zero, List.set_cons_succ]
    refine wpAnyH_take (i := 8) (oi := { dst := some 59, op := Go.Op.move (Go.Operand.tmp 58), type := 4, pos := "law.go:97", after := #[{ on := 7, ground := Go.Ground.data }, { on := 4, ground := Go.Ground.chain }, { on := 4, ground := Go.Ground.guard }], guard := some (4, true) }) (v := ?_) rfl (by kernel_rfl) (by kernel_rfl) (by kernel_rfl) (fun _ _ _ h => h) (Or.inl ⟨by rfl, ?_⟩) hHeld ?_
    rotate_left
    · intro w hSw; (try dsimp only at hSw); go_simp <;> with_reducible rfl
    try simp only [Act.put, List.setIfInBounds_toArray, List.set_cons_zero, List.set_cons_succ]
    refine wpAnyH_take (i := 9) (oi := { dst := some 60, op := Go.Op.load 37 (Go.Operand.tmp 1), type := 37, pos := "law.go:97", after := #[{ on := 8, ground := Go.Ground.guard }], guard := some (8, false) }) (v := ?_) rfl (by kernel_rfl) (by kernel_rfl) (by kernel_rfl) (fun _ _ _ h => h) (Or.inl ⟨by rfl, ?_⟩) hHeld ?_
    rotate_left
    · intro w hSw; have u0 := hSw _ _ _ HNEA.out yA0; have u1 := hSw _ _ _ HNEA.out yA1; have u2 := hSw _ _ _ HNEA.out yA2; have u3 := hSw _ _ _ HNEA.out yA3; have u4 := hSw _ _ _ HNEA.out yA4; have u5 := hSw _ _ _ HNEA.out yA5; go_simp <;> with_reducible rfl
    try simp only [Act.put, List.setIfInBounds_toArray, List.set_cons_zero, List.set_cons_succ]
    refine wpAnyH_take (i := 11) (oi := { dst := some 62, op := Go.Op.load 49 (Go.Operand.tmp 4), type := 49, pos := "law.go:97", after := #[{ on := 8, ground := Go.Ground.guard }], guard := some (8, false) }) (v := ?_) rfl (by kernel_rfl) (by kernel_rfl) (by kernel_rfl) (fun _ _ _ h => h) (Or.inl ⟨by rfl, ?_⟩) hHeld ?_
    rotate_left
    · intro w hSw; have u0 := hSw _ _ _ HNEW.out yW; go_simp <;> with_reducible rfl
    try simp only [Act.put, List.setIfInBounds_toArray, List.set_cons_zero, List.set_cons_succ]
    refine wpAnyH_take (i := 12) (oi := { dst := some 63, op := Go.Op.call { callee := Go.Callee.builtin Go.Builtin.len, args := #[Go.Operand.tmp 62], argTypes := #[49] }, type := 3, pos := "law.go:97", after := #[{ on := 11, ground := Go.Ground.data }, { on := 8, ground := Go.Ground.guard }], guard := some (8, false) }) (v := ?_) rfl (by kernel_rfl) (by kernel_rfl) (by kernel_rfl) (fun _ _ _ h => h) (Or.inl ⟨by rfl, ?_⟩) hHeld ?_
    rotate_left
    · intro w hSw; (try dsimp only at hSw); go_simp <;> with_reducible rfl
    try simp only [Act.put, List.setIfInBounds_toArray, List.set_cons_zero, List.set_cons_succ]
    refine wpAnyH_ready (rs := [10]) (by kernel_rfl) (by simp) ?_
    refine AllReadyH.cons rfl (fun K hK => ?_) AllReadyH.nil
    go_simp
    refine (eqi HCT.out (count_any _ d _ ((HF.out.2.1.below hq0).di DA_5.out.di))).mono ?_
    rintro e w301 ⟨rfl, hb⟩
    have hq1 : Below X.heap.size X w301 := hq0.trans (hb.mono hq0.size)
    clear hb
    refine hK.out _ _ (HS0 _ hq1) (fun hHeld2 => ?_)
    clear hK K hHeld
    have hHeld := hHeld2
    clear hHeld2
    try simp only [Act.put, List.setIfInBounds_toArray, List.set_cons_zero, List.set_cons_succ]
    refine wpAnyH_take (i := 13) (oi := { dst := some 64, op := Go.Op.binOp Go.BinOp.eql 2 (Go.Operand.tmp 61) (Go.Operand.tmp 63) 2, type := 4, pos := "law.go:97", after := #[{ on := 10, ground := Go.Ground.data }, { on := 12, ground := Go.Ground.data }, { on := 8, ground := Go.Ground.guard }], guard := some (8, false) }) (v := ?_) rfl (by kernel_rfl) (by kernel_rfl) (by kernel_rfl) (fun _ _ _ h => h) (Or.inl ⟨by rfl, ?_⟩) hHeld ?_
    rotate_left
    · intro w hSw; (try dsimp only at hSw); go_simp <;> with_reducible rfl
    try simp only [Act.put, List.setIfInBounds_toArray, List.set_cons_zero, List.set_cons_succ]
    refine wpAnyH_take (i := 14) (oi := { dst := some 65, op := Go.Op.pick (Go.Operand.tmp 59) (Go.Operand.const (Go.Value.bool true)) (Go.Operand.tmp 64), type := 4, pos := "law.go:97", after := #[{ on := 8, ground := Go.Ground.data }, { on := 13, ground := Go.Ground.data }, { on := 4, ground := Go.Ground.guard }], guard := some (4, true) }) (v := ?_) rfl (by kernel_rfl) (by kernel_rfl) (by kernel_rfl) (fun _ _ _ h => h) (Or.inl ⟨by rfl, ?_⟩) hHeld ?_
    rotate_left
    · intro w hSw; (try dsimp only at hSw); go_simp <;> with_reducible rfl
    try simp only [Act.put, List.setIfInBounds_toArray, List.set_cons_zero, List.set_cons_succ]
    refine wpAnyH_take (i := 15) (oi := { dst := some 66, op := Go.Op.pick (Go.Operand.tmp 55) (Go.Operand.tmp 65) (Go.Operand.const (Go.Value.bool false)), type := 4, pos := "law.go:97", after := #[{ on := 4, ground := Go.Ground.data }, { on := 14, ground := Go.Ground.data }], guard := none }) (v := ?_) rfl (by kernel_rfl) (by kernel_rfl) (by kernel_rfl) (fun _ _ _ h => h) (Or.inl ⟨by rfl, ?_⟩) hHeld ?_
    rotate_left
    · intro w hSw; (try dsimp only at hSw); go_simp <;> with_reducible rfl
    try simp only [Act.put, List.setIfInBounds_toArray, List.set_cons_zero, List.set_cons_succ]
    refine wpAnyH_take (i := 16) (oi := { dst := some 67, op := Go.Op.move (Go.Operand.tmp 66), type := 4, pos := "law.go:97", after := #[{ on := 15, ground := Go.Ground.data }, { on := 10, ground := Go.Ground.chain }], guard := none }) (v := ?_) rfl (by kernel_rfl) (by kernel_rfl) (by kernel_rfl) (fun _ _ _ h => h) (Or.inl ⟨by rfl, ?_⟩) hHeld ?_
    rotate_left
    · intro w hSw; (try dsimp only at hSw); go_simp <;> with_reducible rfl
    try simp only [Act.put, List.setIfInBounds_toArray, List.set_cons_zero, List.set_cons_succ]
    refine wpAnyH_take (i := 17) (oi := { dst := some 68, op := Go.Op.load 37 (Go.Operand.tmp 3), type := 37, pos := "law.go:97", after := #[{ on := 16, ground := Go.Ground.guard }], guard := some (16, true) }) (v := ?_) rfl (by kernel_rfl) (by kernel_rfl) (by kernel_rfl) (fun _ _ _ h => h) (Or.inl ⟨by rfl, ?_⟩) hHeld ?_
    rotate_left
    · intro w hSw; have u0 := hSw _ _ _ HNEC.out yC0; have u1 := hSw _ _ _ HNEC.out yC1; have u2 := hSw _ _ _ HNEC.out yC2; have u3 := hSw _ _ _ HNEC.out yC3; have u4 := hSw _ _ _ HNEC.out yC4; have u5 := hSw _ _ _ HNEC.out yC5; go_simp <;> with_reducible rfl
    try simp only [Act.put, List.setIfInBounds_toArray, List.set_cons_zero, List.set_cons_succ]
    refine wpAnyH_take (i := 18) (oi := { dst := some 69, op := Go.Op.load 37 (Go.Operand.tmp 1), type := 37, pos := "law.go:97", after := #[{ on := 16, ground := Go.Ground.guard }], guard := some (16, true) }) (v := ?_) rfl (by kernel_rfl) (by kernel_rfl) (by kernel_rfl) (fun _ _ _ h => h) (Or.inl ⟨by rfl, ?_⟩) hHeld ?_
    rotate_left
    · intro w hSw; have u0 := hSw _ _ _ HNEA.out yA0; have u1 := hSw _ _ _ HNEA.out yA1; have u2 := hSw _ _ _ HNEA.out yA2; have u3 := hSw _ _ _ HNEA.out yA3; have u4 := hSw _ _ _ HNEA.out yA4; have u5 := hSw _ _ _ HNEA.out yA5; go_simp <;> with_reducible rfl
    try simp only [Act.put, List.setIfInBounds_toArray, List.set_cons_zero, List.set_cons_succ]
    refine wpAnyH_ready (rs := [19]) (by kernel_rfl) (by simp) ?_
    refine AllReadyH.cons rfl (fun K hK => ?_) AllReadyH.nil
    go_simp
    refine (one_same _ _ d fa _ ((HF.out.2.1.below hq1).dr DC_5.out) ((HF.out.2.1.below hq1).dr DA_5.out)).mono ?_
    rintro e w302 ⟨rfl, hb⟩
    have hq2 : Below X.heap.size X w302 := hq1.trans (hb.mono hq1.size)
    clear hb hq1
    refine hK.out _ _ (HS0 _ hq2) (fun hHeld2 => ?_)
    clear hK K hHeld
    have hHeld := hHeld2
    clear hHeld2
    try simp only [Act.put, List.setIfInBounds_toArray, List.set_cons_zero, List.set_cons_succ]
    refine wpAnyH_take (i := 20) (oi := { dst := some 71, op := Go.Op.pick (Go.Operand.tmp 67) (Go.Operand.tmp 70) (Go.Operand.const (Go.Value.bool false)), type := 4, pos := "law.go:97", after := #[{ on := 16, ground := Go.Ground.data }, { on := 19, ground := Go.Ground.data }], guard := none }) (v := ?_) rfl (by kernel_rfl) (by kernel_rfl) (by kernel_rfl) (fun _ _ _ h => h) (Or.inl ⟨by rfl, ?_⟩) hHeld ?_
    rotate_left
    · intro w hSw; (try dsimp only at hSw); go_simp <;> with_reducible rfl
    try simp only [Act.put, List.setIfInBounds_toArray, List.set_cons_zero, List.set_cons_succ]
    refine wpAnyH_take (i := 21) (oi := { dst := some 72, op := Go.Op.move (Go.Operand.tmp 71), type := 4, pos := "law.go:97", after := #[{ on := 20, ground := Go.Ground.data }, { on := 19, ground := Go.Ground.chain }], guard := none }) (v := ?_) rfl (by kernel_rfl) (by kernel_rfl) (by kernel_rfl) (fun _ _ _ h => h) (Or.inl ⟨by rfl, ?_⟩) hHeld ?_
    rotate_left
    · intro w hSw; (try dsimp only at hSw); go_simp <;> with_reducible rfl
    try simp only [Act.put, List.setIfInBounds_toArray, List.set_cons_zero, List.set_cons_succ]
    refine wpAnyH_ready (rs := [22]) (by kernel_rfl) (by simp) ?_
    refine AllReadyH.cons rfl (fun K hK => ?_) AllReadyH.nil
    go_simp
    refine (K32.out _ (hXW.trans (hq2.mono hXW.size))).mono ?_
    rintro e w303 ⟨rfl, hb⟩
    have hq3 : Below X.heap.size X w303 := hq2.trans (hb.mono hq2.size)
    clear hb hq2
    refine hK.out _ _ (HS0 _ hq3) (fun hHeld2 => ?_)
    clear hK K hHeld
    have hHeld := hHeld2
    clear hHeld2
    try simp only [Act.put, List.setIfInBounds_toArray, List.set_cons_zero, List.set_cons_succ]
    refine wpAnyH_take (i := 23) (oi := { dst := some 74, op := Go.Op.pick (Go.Operand.tmp 72) (Go.Operand.tmp 73) (Go.Operand.const (Go.Value.bool false)), type := 4, pos := "law.go:97", after := #[{ on := 21, ground := Go.Ground.data }, { on := 22, ground := Go.Ground.data }], guard := none }) (v := ?_) rfl (by kernel_rfl) (by kernel_rfl) (by kernel_rfl) (fun _ _ _ h => h) (Or.inl ⟨by rfl, ?_⟩) hHeld ?_
    rotate_left
    · intro w hSw; (try dsimp only at hSw); go_simp <;> with_reducible rfl
    try simp only [Act.put, List.setIfInBounds_toArray, List.set_cons_zero, List.set_cons_succ]
    refine wpAnyH_ready (rs := [24]) (by kernel_rfl) (by simp) ?_
    refine AllReadyH.cons rfl (fun K hK => ?_) AllReadyH.nil
    have c9 := (HF.out.2.2.2.below hq3).cell
    have f9 := (HF.out.2.2.2.below hq3).fz
    go_simp
    refine hK.out _ _ (fun b o v hb hc => by simp only [World.cell?, Below.heap_setCell _ ⟨W.heap.size + 1, 0, none⟩ _ b hb]; exact HS0 _ hq3 b o v hb hc) (fun hHeld2 => ?_)
    clear hK K hHeld
    have hHeld := hHeld2
    clear hHeld2
    try simp only [Act.put, List.setIfInBounds_toArray, List.set_cons_zero, List.set_cons_succ]
    refine wpAnyH_done (by kernel_rfl) ?_ _
    clear hHeld HS0
    have hBw : Below W.heap.size W (w303.setCell ⟨W.heap.size + 1, 0, none⟩ (.bool true)) := (hXW.trans (hq3.mono hXW.size)).setCell (p := ⟨W.heap.size + 1, 0, none⟩) (Nat.le_succ _) _
    have hr9 : C1 (w303.setCell ⟨W.heap.size + 1, 0, none⟩ (.bool true)) (W.heap.size + 1) (.bool true) 4 := (HF.out.2.2.2.below hq3).set
    have hwM : (w303.setCell ⟨W.heap.size + 1, 0, none⟩ (.bool true)).heap[D]? = some (.deferred (some [])) := (Below.heap_setCell _ ⟨W.heap.size + 1, 0, none⟩ _ D (show D ≠ W.heap.size + 1 by have := HC6.out; have := hD2; omega)).trans ((hq3.block D (Array.getElem?_eq_some_iff.1 HDM.out).1).trans HDM.out)
    have hDR : D ≠ W.heap.size + 1 := by have := HC6.out; omega
    have hr8 : C1 ((w303.setCell ⟨W.heap.size + 1, 0, none⟩ (.bool true)).putObj D (.deferred none)) (W.heap.size + 1) (.bool true) 4 := ⟨(World.putObj_heap_other (Ne.symm hDR)).trans hr9.h⟩
    have hDW : W.heap.size ≤ D := by have := HC6.out; omega
    go_wp2
    refine ⟨by simp, .inl ⟨_, _, rfl, run_takeDeferred hwM, ?_⟩⟩
    refine ⟨_, C1.res (p := 2) rfl _ hr8 rfl, rfl, ?_⟩
    exact hBw.trans (belowK_b (n₀ := W.heap.size) (w := W) (Nat.le_refl _) _ D _ (.deferred none) hDW hwM rfl rfl)
end Go.Proofs.YtacnhkaibcjjgaaGreatDoor
