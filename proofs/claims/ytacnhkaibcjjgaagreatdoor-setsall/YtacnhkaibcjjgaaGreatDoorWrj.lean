/-
  What is proved here: a range over what sets.Each returns, with a body that may write what it is handed, and may leave the loop.
  What is proved here: a range over what sets.Each returns of an empty domain: no round.
  What is proved here: the reference's Same of two lists that are alike.
-/
import Derived.Test.YtacnhkaibcjjgaaGreatDoorWe
import Derived.Test.YtacnhkaibcjjgaaGreatDoorKrj
import Derived.Test.YtacnhkaibcjjgaaGreatDoorKmj
namespace Go.Proofs.YtacnhkaibcjjgaaGreatDoor
open Go.RowKit Go.Shelf
set_option linter.unusedVariables false
set_option linter.unusedSimpArgs false

theorem Wr95.put {W : World} {B l : Nat} {s : Value} {r : Loop} {o' : Obj} (h : Wr95 W B s) (hl : W.heap[l]? = some (.loop r)) : Wr95 (W.putObj l o') B s := by
  obtain ⟨A, n, cap, cur, e, hB, hh, hn⟩ := h
  refine ⟨A, n, cap, cur, e, hB, ?_, hn⟩
  rw [World.putObj_heap_other (fun e => by subst e; rw [hl] at hh; cases hh)]
  exact hh
theorem Kq.put {A base : Nat} (W : World) (l : Nat) (o o' : Obj) (h : W.heap[l]? = some o) (hc : o.isCells = false) (hc' : o'.isCells = false) : Kq A base W (W.putObj l o') := by
  have hg := grownBy_putObj' W l o'
  have hlt := (Array.getElem?_eq_some_iff.1 h).1
  refine ⟨hg.size, fun b _ hs => ⟨?_, ?_⟩⟩
  rcases hs with hs | ⟨h1, h2⟩
  · exact .inl hs
  · refine .inr ⟨Nat.lt_of_lt_of_le h1 hg.size, ?_⟩
    intro cur e
    by_cases hb : b = l
    · subst hb
      rw [World.putObj_heap_same hlt] at e
      injection e with e
      rw [e] at hc'
      cases hc'
    · rw [World.putObj_heap_other hb] at e
      exact h2 cur e
  · intro q v hv
    exact cell_kept hv hg (fun r e => by cases e; exact ⟨_, h, hc⟩)

/-- How a round ends: it goes on, or the loop is left. -/
def endsQ (A base id : Nat) (I Ix : List (List Int) → World → Prop) (p : List (List Int)) (W : World) : Exit → Act → World → Prop
  | .normal, _, W' => KeepsOthers W W' ∧ Kq A base W W' ∧ I p W'
  | .exit i, _, W' => i = id ∧ KeepsOthers W W' ∧ Kq A base W W' ∧ Ix p W'
  | _, _, _ => False

theorem range_sets2 {ps : Tmp} {assign body : Code} {Q : Exit → Act → World → Prop} {a : Act} {w : World} {g : Operand} (n A base id B : Nat)
    (hg : a.eval g = .func (.func 82) #[] #[.pointer (some ⟨B, 0, none⟩)]) (hBA : B ≠ A) (T : SD) (hE : emptyD T = false) (hl1 : IsSet T.lo) (hl2 : IsSet T.up) (hrn : T.rn = 0) (p1 p2 : Option Addr) (k1 k2 : Nat) (hA : A < w.heap.size) (hbase : base ≤ w.heap.size)
    (hB : w.heap[B]? = some (.cells #[.bool T.set, .slice none 0 0, .slice p1 T.lo.length k1, .slice p2 T.up.length k2, .int .i64 T.least, .int .i64 T.most] 37 (0, 0))) (s1 : SiQ A base w (.slice p1 T.lo.length k1) T.lo) (s2 : SiQ A base w (.slice p2 T.up.length k2) T.up)
    (I Ix : List (List Int) → World → Prop) (hIb : ∀ p W W', w.heap.size ≤ W.heap.size → I p W → Below W.heap.size W W' → I p W')
    (hIp : ∀ p W k o o', w.heap.size ≤ k → I p W → W.heap[k]? = some o → o.isCells = false → I p (W.putObj k o')) (hXp : ∀ p W k o o', w.heap.size ≤ k → Ix p W → W.heap[k]? = some o → o.isCells = false → Ix p (W.putObj k o')) (h0 : I [] w) (a₁ : Value → Act)
    (hassign : ∀ (l m : Nat) (v : Value) (W : World) (K : Act → World → Prop), K (a₁ v) W →
      assign.wpIn (Fence.wide.inRound l) m Tryz.prog (Exit.then K (fun _ _ _ => False)) { tmps := a.tmps.setIfInBounds ps v, defers := [] } W)
    (hbody : ∀ (lr m : Nat) (p : List (List Int)) (l : List Int) (v : Value) (W : World), (∃ r, p ++ [l] ++ r = allT T) → w.heap.size ≤ W.heap.size → I p W → Si W v l → Wr95 W base v → body.wpIn (Fence.wide.inRound lr) m Tryz.prog (endsQ A base id I Ix (p ++ [l]) W) (a₁ v) W)
    (hleft : ∀ (D : Nat) (W : World) (q r : List (List Int)), q ++ r = allT T → w.heap.size ≤ D → Kq A base w W → Ix q W → W.heap[D]? = some (.deferred (some [])) → Q (.exit id) { a with defers := { target := .collected D, args := #[] } :: a.defers } W)
    (hdone : ∀ (D : Nat) (W : World), w.heap.size ≤ D → Kq A base w W → I (allT T) W → W.heap[D]? = some (.deferred (some [])) → Q .normal { a with defers := { target := .collected D, args := #[] } :: a.defers } W) :
    (Code.rangeFunc g #[ps] assign body).wpIn Fence.wide n Tryz.prog Q a w := by
  refine wpIn_rangeFunc ?_
  intro fn hfn
  rw [show Fence.wide.round = none from rfl]
  obtain ⟨rec, hrec⟩ : ∃ rec : LoopState → Option Code → Loop, rec = fun st pe => { state := st, pending := pe, fn, tmps := a.tmps, params := #[ps], assign, body, defers := w.heap.size } := ⟨_, rfl⟩
  obtain ⟨W1, hW1⟩ : ∃ W1, (w.alloc (.deferred (some []))).alloc (.loop (rec .ready none)) = W1 := ⟨_, rfl⟩
  have hL1 : W1.heap[w.heap.size + 1]? = some (.loop (rec .ready none)) := by
    rw [← hW1]; have := World.alloc_heap_new (w.alloc (.deferred (some []))) (.loop (rec .ready none)); rwa [World.size_alloc] at this
  have hK1 : W1.heap[w.heap.size]? = some (.deferred (some [])) := by
    rw [← hW1]; exact (Below.heap_alloc _ _ _ (by simp)).trans (World.alloc_heap_new w _)
  have hb1 : Below w.heap.size w W1 := by
    rw [← hW1]; exact ((Below.refl _ w).alloc (Nat.le_refl _) _).alloc (by simp) _
  have hI1 : I [] W1 := hIb _ _ _ (Nat.le_refl _) h0 hb1
  have hBl : B < w.heap.size := (Array.getElem?_eq_some_iff.1 hB).1
  refine ⟨w.heap.size + 1, [{ target := .collected w.heap.size, args := #[] }], W1, { target := .fn (.func 82) #[.pointer (some ⟨B, 0, none⟩)], args := #[.func (.yield (w.heap.size + 1)) #[] #[]] }, W1, 82,
    #[.func (.yield (w.heap.size + 1)) #[] #[], .pointer (some ⟨B, 0, none⟩)], W1, ?_, ?_, ?_, ?_, (fun h => nomatch h), ?_⟩
  · rw [← hW1, hrec]; exact run_enterLoop_outer _ _ _ _ _
  · simp only [resolve, hg]
    simp [go_sem]
  · intro f' hf'; trivial
  · have eg : ∀ args w, (callFunc 82 args).run Tryz.prog w = .ok (.enter 82 args) w := callFunc82
    simp [invoke, go_sem, eg]
  · refine (each2_any (n - 1) (w.heap.size + 1) A base B hBA T hE hl1 hl2 hrn p1 p2 k1 k2 W1 (Nat.lt_of_lt_of_le hA hb1.size) (Nat.le_trans hbase hb1.size) ((hb1.block B hBl).trans hB) (s1.kp (Kq.below hb1)) (s2.kp (Kq.below hb1))
      (fun p W => w.heap.size ≤ W.heap.size ∧ I p W ∧ W.heap[w.heap.size + 1]? = some (.loop (rec .ready none)) ∧ W.heap[w.heap.size]? = some (.deferred (some []))) (fun q W => w.heap.size ≤ W.heap.size ∧ Ix q W ∧ W.heap[w.heap.size + 1]? = some (.loop { rec .ready none with state := .done, pending := some (.exit id) }) ∧ W.heap[w.heap.size]? = some (.deferred (some [])))
      (fun p W W' hJ hb => ⟨Nat.le_trans hJ.1 hb.size, hIb _ _ _ hJ.1 hJ.2.1 hb, (hb.block _ (Array.getElem?_eq_some_iff.1 hJ.2.2.1).1).trans hJ.2.2.1, (hb.block _ (Array.getElem?_eq_some_iff.1 hJ.2.2.2).1).trans hJ.2.2.2⟩)
      ?_ ⟨hb1.size, hI1, hL1, hK1⟩).mono ?_
    · rintro m p l v W hfl ⟨hsz, hi, hl, hk⟩ hv hv2
      have hlt : w.heap.size + 1 < W.heap.size := (Array.getElem?_eq_some_iff.1 hl).1
      have hy := run_yield (P := Tryz.prog) (args := #[v]) hl (by rw [hrec]; rfl)
      rw [hrec] at hy
      refine ⟨fn, _, assign, body, hy, roundIn_of_wpIn hfn ?_⟩
      have htm : (#[ps].zip #[v]).foldl (fun t (q : Tmp × Value) => t.setIfInBounds q.1 q.2) a.tmps = a.tmps.setIfInBounds ps v := by simp
      dsimp only
      rw [htm]
      refine hassign _ _ v W _ ?_
      refine ⟨_, run_beginRound hl (by rw [hrec]), ?_⟩
      have hl2 : (W.putObj (w.heap.size + 1) (.loop { rec .ready none with state := .busy })).heap[w.heap.size + 1]? = some (.loop { rec .ready none with state := .busy }) := World.putObj_heap_same hlt
      have hk2 : (W.putObj (w.heap.size + 1) (.loop { rec .ready none with state := .busy })).heap[w.heap.size]? = some (.deferred (some [])) := (World.putObj_heap_other (by omega)).trans hk
      have hw2 : Kq A base W (W.putObj (w.heap.size + 1) (.loop { rec .ready none with state := .busy })) := Kq.put _ _ _ _ hl rfl rfl
      have hw3 : ∀ b o u, W.cell? ⟨b, o, none⟩ = some u → (W.putObj (w.heap.size + 1) (.loop { rec .ready none with state := .busy })).cell? ⟨b, o, none⟩ = some u := fun b o u hc =>
        cell_kept hc (grownBy_putObj' W _ _) (fun r e => by cases e; exact ⟨_, hl, rfl⟩)
      refine wpIn_mono (hbody _ _ p l v _ hfl (Nat.le_trans hsz hw2.1) (hIp _ _ _ _ _ (by omega) hi hl rfl) (hv.kept hw2.1 hw3) (hv2.put hl)) ?_
      rintro e a3 W3 hp
      cases e with
      | normal =>
        obtain ⟨hk3, hkp3, hi3⟩ := hp
        have hl3 := hk3.same _ _ hl2 rfl
        have hr := run_endRound (P := Tryz.prog) none hl3
        refine ⟨_, _, hr, .inl ⟨rfl, ⟨?_, hIp _ _ _ _ _ (by omega) hi3 hl3 rfl, ?_, (World.putObj_heap_other (by omega)).trans (hk3.same _ _ hk2 rfl)⟩, (hw2.trans hkp3).trans (Kq.put _ _ _ _ hl3 rfl rfl)⟩⟩
        · exact Nat.le_trans hsz ((hw2.trans hkp3).trans (Kq.put _ _ _ _ hl3 rfl rfl)).1
        · refine (World.putObj_heap_same (Array.getElem?_eq_some_iff.1 hl3).1).trans ?_
          rw [hrec]; rfl
      | exit i =>
        obtain ⟨rfl, hk3, hkp3, hi3⟩ := hp
        have hl3 := hk3.same _ _ hl2 rfl
        have hr := run_endRound (P := Tryz.prog) (some (.exit i)) hl3
        refine ⟨_, _, hr, .inr ⟨rfl, ⟨?_, hXp _ _ _ _ _ (by omega) hi3 hl3 rfl, ?_, (World.putObj_heap_other (by omega)).trans (hk3.same _ _ hk2 rfl)⟩, (hw2.trans hkp3).trans (Kq.put _ _ _ _ hl3 rfl rfl)⟩⟩
        · exact Nat.le_trans hsz ((hw2.trans hkp3).trans (Kq.put _ _ _ _ hl3 rfl rfl)).1
        · refine (World.putObj_heap_same (Array.getElem?_eq_some_iff.1 hl3).1).trans ?_
          rw [hrec]; rfl
      | _ => exact hp.elim
    · rintro e W2 ⟨⟨v, rfl⟩, hkp, (⟨hsz, hi, hl, hk⟩ | ⟨q, r, hqr, hf⟩)⟩
      · refine ⟨none, _, by have := run_endLoop (P := Tryz.prog) hl (by rw [hrec]; simp); rw [hrec] at this; exact this, hdone _ _ (Nat.le_refl _) ?_ (hIp _ _ _ _ _ (by omega) hi hl rfl) ((World.putObj_heap_other (by omega)).trans hk)⟩
        exact ((Kq.below hb1).trans hkp).trans (Kq.put _ _ _ _ hl rfl rfl)
      · obtain ⟨hsz, hi, hl, hk⟩ := hf
        refine ⟨some (.exit id), _, by have := run_endLoop (P := Tryz.prog) hl (by rw [hrec]; simp); rw [hrec] at this; exact this, wpIn_exit (hleft _ _ q r ?_ (Nat.le_refl _) ?_ (hXp _ _ _ _ _ (by omega) hi hl rfl) ((World.putObj_heap_other (by omega)).trans hk))⟩
        · assumption
        · exact ((Kq.below hb1).trans hkp).trans (Kq.put _ _ _ _ hl rfl rfl)
end Go.Proofs.YtacnhkaibcjjgaaGreatDoor

namespace Go.Proofs.YtacnhkaibcjjgaaGreatDoor
open Go.RowKit Go.Shelf
set_option linter.unusedVariables false
set_option linter.unusedSimpArgs false

set_option maxRecDepth 100000 in
set_option maxHeartbeats 4000000 in
theorem each0_any (n lr B : Nat) (T : SD) (hE : emptyD T = true) (hrn : T.rn = 0) (p1 p2 : Option Addr) (k1 k2 : Nat) (W : World)
    (hB : W.heap[B]? = some (.cells #[.bool T.set, .slice none 0 0, .slice p1 T.lo.length k1, .slice p2 T.up.length k2, .int .i64 T.least, .int .i64 T.most] 37 (0, 0))) (s1 : Si W (.slice p1 T.lo.length k1) T.lo) (s2 : Si W (.slice p2 T.up.length k2) T.up) :
    CallsIn Fence.wide n Tryz.prog 82 #[.func (.yield lr) #[] #[], .pointer (some ⟨B, 0, none⟩)] W fun e w' => (∃ v, e = .returned v) ∧ Below W.heap.size W w' := by
  have hem0 := empty_any (.agg #[.bool T.set, .slice none 0 0, .slice p1 T.lo.length k1, .slice p2 T.up.length k2, .int .i64 T.least, .int .i64 T.most]) T W (⟨none, 0, _, _, by rw [hrn], s1, s2⟩)
  rw [hE] at hem0
  obtain ⟨m1, hm1⟩ : ∃ n, T.lo.length = n := ⟨_, rfl⟩
  obtain ⟨m2, hm2⟩ : ∃ n, T.up.length = n := ⟨_, rfl⟩
  obtain ⟨x0, hx0⟩ : ∃ x, T.set = x := ⟨_, rfl⟩
  obtain ⟨x4, hx4⟩ : ∃ x, T.least = x := ⟨_, rfl⟩
  obtain ⟨x5, hx5⟩ : ∃ x, T.most = x := ⟨_, rfl⟩
  simp only [hm1, hm2, hx0, hx4, hx5] at hem0 hB
  obtain ⟨z0, z1, z2, z3, z4, z5⟩ := six_cells hB
  clear hE hrn hx0 hx4 hx5 hm1 hm2 s1 s2
  refine callsIn_of_wp Tryz.func82 rfl trivial ?_ rfl
  simp only [Tryz.ntmps82, List.size_toArray, List.length_cons, List.length_nil, Nat.reduceAdd, Nat.reduceSub, Array.replicate_succ, Array.replicate_zero, List.push_toArray, List.append_toArray, List.nil_append, List.cons_append]
  gi_wp2
  refine ⟨trivial, (fun h => nomatch h), (callsIn_wide.2 hem0).mono ?_⟩
  rintro e w1 ⟨rfl, hb1⟩
  have hfin : (∃ v, Ending.returned (Value.tuple #[]) = .returned v) ∧ Below W.heap.size W w1 := ⟨⟨_, rfl⟩, hb1⟩
  gi_wp2
  first | (go_end0; exact hfin) | exact ⟨rfl, _, results_none rfl _ _ _, hfin⟩ 
theorem range_none {ps : Tmp} {assign body : Code} {Q : Exit → Act → World → Prop} {a : Act} {w : World} {g : Operand} (n B : Nat)
    (hg : a.eval g = .func (.func 82) #[] #[.pointer (some ⟨B, 0, none⟩)]) (T : SD) (hE : emptyD T = true) (hrn : T.rn = 0) (p1 p2 : Option Addr) (k1 k2 : Nat)
    (hB : w.heap[B]? = some (.cells #[.bool T.set, .slice none 0 0, .slice p1 T.lo.length k1, .slice p2 T.up.length k2, .int .i64 T.least, .int .i64 T.most] 37 (0, 0))) (s1 : Si w (.slice p1 T.lo.length k1) T.lo) (s2 : Si w (.slice p2 T.up.length k2) T.up)
    (hdone : ∀ (D : Nat) (W : World), w.heap.size ≤ D → Below w.heap.size w W → W.heap[D]? = some (.deferred (some [])) → Q .normal { a with defers := { target := .collected D, args := #[] } :: a.defers } W) :
    (Code.rangeFunc g #[ps] assign body).wpIn Fence.wide n Tryz.prog Q a w := by
  refine wpIn_rangeFunc ?_
  intro fn hfn
  rw [show Fence.wide.round = none from rfl]
  obtain ⟨rec, hrec⟩ : ∃ rec : LoopState → Option Code → Loop, rec = fun st pe => { state := st, pending := pe, fn, tmps := a.tmps, params := #[ps], assign, body, defers := w.heap.size } := ⟨_, rfl⟩
  obtain ⟨W1, hW1⟩ : ∃ W1, (w.alloc (.deferred (some []))).alloc (.loop (rec .ready none)) = W1 := ⟨_, rfl⟩
  have hL1 : W1.heap[w.heap.size + 1]? = some (.loop (rec .ready none)) := by
    rw [← hW1]; have := World.alloc_heap_new (w.alloc (.deferred (some []))) (.loop (rec .ready none)); rwa [World.size_alloc] at this
  have hK1 : W1.heap[w.heap.size]? = some (.deferred (some [])) := by
    rw [← hW1]; exact (Below.heap_alloc _ _ _ (by simp)).trans (World.alloc_heap_new w _)
  have hb1 : Below w.heap.size w W1 := by
    rw [← hW1]; exact ((Below.refl _ w).alloc (Nat.le_refl _) _).alloc (by simp) _
  have hBl : B < w.heap.size := (Array.getElem?_eq_some_iff.1 hB).1
  refine ⟨w.heap.size + 1, [{ target := .collected w.heap.size, args := #[] }], W1, { target := .fn (.func 82) #[.pointer (some ⟨B, 0, none⟩)], args := #[.func (.yield (w.heap.size + 1)) #[] #[]] }, W1, 82,
    #[.func (.yield (w.heap.size + 1)) #[] #[], .pointer (some ⟨B, 0, none⟩)], W1, ?_, ?_, ?_, ?_, (fun h => nomatch h), ?_⟩
  · rw [← hW1, hrec]; exact run_enterLoop_outer _ _ _ _ _
  · simp only [resolve, hg]
    simp [go_sem]
  · intro f' hf'; trivial
  · have eg : ∀ args w, (callFunc 82 args).run Tryz.prog w = .ok (.enter 82 args) w := callFunc82
    simp [invoke, go_sem, eg]
  · refine (each0_any (n - 1) (w.heap.size + 1) B T hE hrn p1 p2 k1 k2 W1 ((hb1.block B hBl).trans hB) (s1.below hb1) (s2.below hb1)).mono ?_
    rintro e W2 ⟨⟨v, rfl⟩, hb2⟩
    have hl2 := (hb2.block _ (Array.getElem?_eq_some_iff.1 hL1).1).trans hL1
    have hk2 := (hb2.block _ (Array.getElem?_eq_some_iff.1 hK1).1).trans hK1
    have hsz := Nat.le_trans hb1.size hb2.size
    refine ⟨none, _, by have := run_endLoop (P := Tryz.prog) hl2 (by rw [hrec]; simp); rw [hrec] at this; exact this, hdone _ _ (Nat.le_refl _) ?_ ((World.putObj_heap_other (by omega)).trans hk2)⟩
    exact (hb1.trans (hb2.mono hb1.size)).trans ((Below.refl _ W2).grown (grownBy_putObj' W2 _ _) hsz (fun r e => by cases e; omega))
end Go.Proofs.YtacnhkaibcjjgaaGreatDoor

namespace Go.Proofs.YtacnhkaibcjjgaaGreatDoor
open Go.RowKit Go.Shelf
set_option linter.unusedVariables false
set_option linter.unusedSimpArgs false

set_option maxRecDepth 100000 in
set_option maxHeartbeats 2000000 in
theorem same_yes (s1 s2 : Value) (l : List Int) (W : World) (h1 : Si W s1 l) (h2 : Si W s2 l) (hl : l.length ≤ 100000) :
    Calls Tryz.prog 14 #[s1, s2] W fun e w' => e = .returned (.bool true) ∧ Below W.heap.size W w' := by
  obtain ⟨a1, c1, rfl, q1⟩ := h1
  obtain ⟨a2, c2, rfl, q2⟩ := h2
  obtain ⟨n, hn⟩ : ∃ n, l.length = n := ⟨_, rfl⟩
  rw [hn] at q1 q2 hl ⊢
  have H1 : Hid _ := q1
  have H2 : Hid _ := q2
  clear hn q1 q2
  go_enter Tryz.func14, Tryz.ntmps14
  go_wp2
  go_loopw [5] (fun i wr => ∃ k : Nat, k ≤ n ∧ i = .int .i64 k ∧ ∃ m, wr = W.drewN m) (fun i _ => n - (intOf i).toNat)
  case atStart => exact ⟨0, Nat.zero_le _, rfl, 0, rfl⟩
  case round =>
    obtain ⟨k, hk, rfl, m, rfl⟩ := hrel
    by_cases hlt : k < n
    · obtain ⟨b1, o1, rfl, _, hc1⟩ := H1.out (by omega)
      obtain ⟨b2, o2, rfl, _, hc2⟩ := H2.out (by omega)
      have d1 := hc1 k hlt
      have d2 := hc2 k hlt
      have hlt' : (k : Int) < (n : Int) := by omega
      generalize nth l k = x at d1 d2
      clear hc1 hc2
      have HLT : Hid (k < n) := hlt
      have hw1 : IntKind.i64.wrap ((k : Int) + 1) = (k : Int) + 1 := wrap_small (by omega) (by omega)
      clear hlt
      go_wp2
      go_quiet (fail)
      go_wp2
      go_roundw
      case rel => exact ⟨k + 1, HLT.out, by go_num, _, rfl⟩
      case measure => have := HLT.out; simp [intOf]; omega
    · obtain rfl : k = n := by omega
      have hlt' : ¬ (k : Int) < (k : Int) := by omega
      go_wp2
      go_ret
      exact ⟨rfl, below_drewN (Below.refl _ W) m⟩
end Go.Proofs.YtacnhkaibcjjgaaGreatDoor
