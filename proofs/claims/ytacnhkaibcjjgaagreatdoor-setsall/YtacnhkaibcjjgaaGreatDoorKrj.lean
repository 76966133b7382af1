/-
  What is proved here: a range over what sets.Each returns, with a body that goes on: by the laws of the statement and of a round.
  What is proved here: sets.Of of any two lists and numbers.
-/
import Derived.Test.YtacnhkaibcjjgaaGreatDoorEc
import Derived.RangeFuncNested
import Derived.Test.YtacnhkaibcjjgaaGreatDoorSm
namespace Go.Proofs.YtacnhkaibcjjgaaGreatDoor
open Go.RowKit Go.Shelf
set_option linter.unusedVariables false
set_option linter.unusedSimpArgs false

theorem Kp.put {A : Nat} (W : World) (l : Nat) (o o' : Obj) (h : W.heap[l]? = some o) (hc : o.isCells = false) : Kp A W (W.putObj l o') := by
  have hg := grownBy_putObj' W l o'
  refine ⟨hg.size, fun b q v _ hv => ?_⟩
  exact cell_kept hv hg (fun r e => by cases e; exact ⟨_, h, hc⟩)

theorem Si.kept {W W' : World} {s : Value} {l : List Int} (h : Si W s l) (hs : W.heap.size ≤ W'.heap.size) (hk : ∀ b o v, W.cell? ⟨b, o, none⟩ = some v → W'.cell? ⟨b, o, none⟩ = some v) : Si W' s l := by
  obtain ⟨a, c, e, h⟩ := h
  exact ⟨a, c, e, fun h0 => by obtain ⟨b, off, e1, e2, e3⟩ := h h0; exact ⟨b, off, e1, Nat.lt_of_lt_of_le e2 hs, fun i hi => hk _ _ _ (e3 i hi)⟩⟩

theorem callFunc82 (args : Array Value) (w : World) : (callFunc 82 args).run Tryz.prog w = .ok (.enter 82 args) w :=
  enters_of Tryz.func82 (by kernel_rfl) rfl args w

/-- How a round ends that goes on. -/
def goesOn (A : Nat) (I : List (List Int) → World → Prop) (p : List (List Int)) (W : World) : Exit → Act → World → Prop
  | .normal, _, W' => KeepsOthers W W' ∧ Kp A W W' ∧ I p W'
  | _, _, _ => False

theorem range_sets {ps : Tmp} {assign body : Code} {Q : Exit → Act → World → Prop} {a : Act} {w : World} {g : Operand} (n A B : Nat)
    (hg : a.eval g = .func (.func 82) #[] #[.pointer (some ⟨B, 0, none⟩)]) (hBA : B ≠ A) (T : SD) (hE : emptyD T = false) (hl1 : IsSet T.lo) (hl2 : IsSet T.up) (hrn : T.rn = 0) (p1 p2 : Option Addr) (k1 k2 : Nat) (hA : A < w.heap.size)
    (hB : w.heap[B]? = some (.cells #[.bool T.set, .slice none 0 0, .slice p1 T.lo.length k1, .slice p2 T.up.length k2, .int .i64 T.least, .int .i64 T.most] 37 (0, 0))) (s1 : SiX A w (.slice p1 T.lo.length k1) T.lo) (s2 : SiX A w (.slice p2 T.up.length k2) T.up)
    (I : List (List Int) → World → Prop) (hIb : ∀ p W W', w.heap.size ≤ W.heap.size → I p W → Below W.heap.size W W' → I p W')
    (hIp : ∀ p W k o o', w.heap.size ≤ k → I p W → W.heap[k]? = some o → o.isCells = false → I p (W.putObj k o')) (h0 : I [] w) (a₁ : Value → Act)
    (hassign : ∀ (l m : Nat) (v : Value) (W : World) (K : Act → World → Prop), K (a₁ v) W →
      assign.wpIn (Fence.wide.inRound l) m Tryz.prog (Exit.then K (fun _ _ _ => False)) { tmps := a.tmps.setIfInBounds ps v, defers := [] } W)
    (hbody : ∀ (lr m : Nat) (p : List (List Int)) (l : List Int) (v : Value) (W : World), (∃ r, p ++ [l] ++ r = allT T) → w.heap.size ≤ W.heap.size → I p W → Si W v l → body.wpIn (Fence.wide.inRound lr) m Tryz.prog (goesOn A I (p ++ [l]) W) (a₁ v) W)
    (hdone : ∀ (D : Nat) (W : World), w.heap.size ≤ D → Kp A w W → I (allT T) W → W.heap[D]? = some (.deferred (some [])) → Q .normal { a with defers := { target := .collected D, args := #[] } :: a.defers } W) :
    (Code.rangeFunc g #[ps] assign body).wpIn Fence.wide n Tryz.prog Q a w := by
  refine wpIn_rangeFunc ?_
  intro fn hfn
  rw [show Fence.wide.round = none from rfl]
  obtain ⟨rec, hrec⟩ : ∃ rec : LoopState → Option Code → Loop, rec = fun st pe => { state := st, pending := pe, fn, tmps := a.tmps, params := #[ps], assign, body, defers := w.heap.size } := ⟨_, rfl⟩
  obtain ⟨W1, hW1⟩ : ∃ W1, (w.alloc (.deferred (some []))).alloc (.loop (rec .ready none)) = W1 := ⟨_, rfl⟩
  have hL1 : W1.heap[w.heap.size + 1]? = some (.loop (rec .ready none)) := by
    rw [← hW1]; have := World.alloc_heap_new (w.alloc (.deferred (some []))) (.loop (rec .ready none)); rwa [World.size_alloc] at this
  have hK1 : W1.heap[w.heap.size]? = some (.deferred (some [])) := by
    rw [← hW1]; exact (Below.heap_alloc _ _ _ (by simp)).trans (World.alloc_heap_new w _)
  have hb1 : Below w.heap.size w W1 := by
    rw [← hW1]; exact ((Below.refl _ w).alloc (Nat.le_refl _) _).alloc (by simp) _
  have hI1 : I [] W1 := hIb _ _ _ (Nat.le_refl _) h0 hb1
  have hBl : B < w.heap.size := (Array.getElem?_eq_some_iff.1 hB).1
  refine ⟨w.heap.size + 1, [{ target := .collected w.heap.size, args := #[] }], W1, { target := .fn (.func 82) #[.pointer (some ⟨B, 0, none⟩)], args := #[.func (.yield (w.heap.size + 1)) #[] #[]] }, W1, 82,
    #[.func (.yield (w.heap.size + 1)) #[] #[], .pointer (some ⟨B, 0, none⟩)], W1, ?_, ?_, ?_, ?_, (fun h => nomatch h), ?_⟩
  · rw [← hW1, hrec]; exact run_enterLoop_outer _ _ _ _ _
  · simp only [resolve, hg]
    simp [go_sem]
  · intro f' hf'; trivial
  · have eg : ∀ args w, (callFunc 82 args).run Tryz.prog w = .ok (.enter 82 args) w := callFunc82
    simp [invoke, go_sem, eg]
  · refine (each1_any (n - 1) (w.heap.size + 1) A B hBA T hE hl1 hl2 hrn p1 p2 k1 k2 W1 (Nat.lt_of_lt_of_le hA hb1.size) ((hb1.block B hBl).trans hB) (s1.kp (Kp.below hb1)) (s2.kp (Kp.below hb1))
      (fun p W => w.heap.size ≤ W.heap.size ∧ I p W ∧ W.heap[w.heap.size + 1]? = some (.loop (rec .ready none)) ∧ W.heap[w.heap.size]? = some (.deferred (some []))) (fun _ _ => False)
      (fun p W W' hJ hb => ⟨Nat.le_trans hJ.1 hb.size, hIb _ _ _ hJ.1 hJ.2.1 hb, (hb.block _ (Array.getElem?_eq_some_iff.1 hJ.2.2.1).1).trans hJ.2.2.1, (hb.block _ (Array.getElem?_eq_some_iff.1 hJ.2.2.2).1).trans hJ.2.2.2⟩)
      ?_ ⟨hb1.size, hI1, hL1, hK1⟩).mono ?_
    · rintro m p l v W hfl ⟨hsz, hi, hl, hk⟩ hv
      have hlt : w.heap.size + 1 < W.heap.size := (Array.getElem?_eq_some_iff.1 hl).1
      have hy := run_yield (P := Tryz.prog) (args := #[v]) hl (by rw [hrec]; rfl)
      rw [hrec] at hy
      refine ⟨fn, _, assign, body, hy, roundIn_of_wpIn hfn ?_⟩
      have htm : (#[ps].zip #[v]).foldl (fun t (q : Tmp × Value) => t.setIfInBounds q.1 q.2) a.tmps = a.tmps.setIfInBounds ps v := by simp
      dsimp only
      rw [htm]
      refine hassign _ _ v W _ ?_
      refine ⟨_, run_beginRound hl (by rw [hrec]), ?_⟩
      have hl2 : (W.putObj (w.heap.size + 1) (.loop { rec .ready none with state := .busy })).heap[w.heap.size + 1]? = some (.loop { rec .ready none with state := .busy }) := World.putObj_heap_same hlt
      have hk2 : (W.putObj (w.heap.size + 1) (.loop { rec .ready none with state := .busy })).heap[w.heap.size]? = some (.deferred (some [])) := (World.putObj_heap_other (by omega)).trans hk
      have hw2 : Kp A W (W.putObj (w.heap.size + 1) (.loop { rec .ready none with state := .busy })) := Kp.put _ _ _ _ hl rfl
      have hw3 : ∀ b o u, W.cell? ⟨b, o, none⟩ = some u → (W.putObj (w.heap.size + 1) (.loop { rec .ready none with state := .busy })).cell? ⟨b, o, none⟩ = some u := fun b o u hc =>
        cell_kept hc (grownBy_putObj' W _ _) (fun r e => by cases e; exact ⟨_, hl, rfl⟩)
      refine wpIn_mono (hbody _ _ p l v _ hfl (Nat.le_trans hsz hw2.1) (hIp _ _ _ _ _ (by omega) hi hl rfl) (hv.kept hw2.1 hw3)) ?_
      rintro e a3 W3 hp
      cases e with
      | normal =>
        obtain ⟨hk3, hkp3, hi3⟩ := hp
        have hl3 := hk3.same _ _ hl2 rfl
        have hr := run_endRound (P := Tryz.prog) none hl3
        refine ⟨_, _, hr, .inl ⟨rfl, ⟨?_, hIp _ _ _ _ _ (by omega) hi3 hl3 rfl, ?_, (World.putObj_heap_other (by omega)).trans (hk3.same _ _ hk2 rfl)⟩, (hw2.trans hkp3).trans (Kp.put _ _ _ _ hl3 rfl)⟩⟩
        · exact Nat.le_trans hsz ((hw2.trans hkp3).trans (Kp.put _ _ _ _ hl3 rfl)).1
        · refine (World.putObj_heap_same (Array.getElem?_eq_some_iff.1 hl3).1).trans ?_
          rw [hrec]; rfl
      | _ => exact hp.elim
    · rintro e W2 ⟨⟨v, rfl⟩, hkp, (⟨hsz, hi, hl, hk⟩ | ⟨q, r, _, hf⟩)⟩
      · refine ⟨none, _, by have := run_endLoop (P := Tryz.prog) hl (by rw [hrec]; simp); rw [hrec] at this; exact this, hdone _ _ (Nat.le_refl _) ?_ (hIp _ _ _ _ _ (by omega) hi hl rfl) ((World.putObj_heap_other (by omega)).trans hk)⟩
        exact ((Kp.below hb1).trans hkp).trans (Kp.put _ _ _ _ hl rfl)
      · exact hf.elim
end Go.Proofs.YtacnhkaibcjjgaaGreatDoor

namespace Go.Proofs.YtacnhkaibcjjgaaGreatDoor
open Go.RowKit Go.Shelf
set_option linter.unusedVariables false
set_option linter.unusedSimpArgs false

/-- What sets.Of takes. -/
def OfOk (lo up : List Int) (least : Int) : Prop := IsSet lo ∧ IsSet up ∧ subB lo up = true ∧ 0 ≤ least
theorem Tryz.results33 : Tryz.f33.results = #[.cell 8 37, .tmp 9] := rfl

set_option maxRecDepth 100000 in
set_option maxHeartbeats 4000000 in
theorem of_ok (s1 s2 : Value) (lo up : List Int) (least most : Int) (W : World) (h1 : Si W s1 lo) (h2 : Si W s2 up) (hok0 : OfOk lo up least) :
    Calls Tryz.prog 33 #[s1, s2, .int .i64 least, .int .i64 most] W fun e w' => (∃ v, e = .returned (.tuple #[v, .int .i64 0]) ∧ Dv W.heap.size w' v (tightD lo up least most)) ∧ Below W.heap.size W w' := by
  obtain ⟨W0, hW0⟩ : ∃ X, W.alloc (Obj.cells #[.bool false, .slice none 0 0, .slice none 0 0, .slice none 0 0, .int .i64 0, .int .i64 0] 37) = X := ⟨_, rfl⟩
  have HW0 : Hid _ := hW0
  have hb0 : Below W.heap.size W W0 := by rw [← hW0]; exact (Below.refl _ W).alloc (Nat.le_refl _) _
  have hZ0 : W0.heap[W.heap.size]? = some (.cells #[.bool false, .slice none 0 0, .slice none 0 0, .slice none 0 0, .int .i64 0, .int .i64 0] 37 (0, 0)) := by rw [← hW0]; exact World.alloc_heap_new W _
  have hlt0 : W.heap.size < W0.heap.size := (Array.getElem?_eq_some_iff.1 hZ0).1
  have hs1 := setB_below s1 lo W0 (h1.below hb0)
  have hs2 := fun X (hX : Below W.heap.size W X) => setB_below s2 up X (h2.below hX)
  have hs3 := fun X (hX : Below W.heap.size W X) => sub_any s1 s2 lo up X (h1.below hX) (h2.below hX)
  have ht := fun (hR : OfOk lo up least) X (hX : Below W.heap.size W X) => tight_any s1 s2 lo up least most X (h1.below hX) (h2.below hX) (by have := hR.1.1; omega) (by have := hR.2.1.1; omega)
  obtain ⟨a1, c1, rfl, _⟩ := h1
  obtain ⟨a2, c2, rfl, _⟩ := h2
  obtain ⟨n1, hn1⟩ : ∃ n, lo.length = n := ⟨_, rfl⟩
  obtain ⟨n2, hn2⟩ : ∃ n, up.length = n := ⟨_, rfl⟩
  simp only [hn1, hn2] at hs1 hs2 hs3 ht ⊢
  clear hn1 hn2 hW0
  obtain ⟨hI1, hI2, hsu, hle⟩ := hok0
  rw [setB_yes hI1] at hs1
  simp only [setB_yes hI2] at hs2
  simp only [tkS_yes hI1, tkS_yes hI2] at hs3
  simp only [hsu] at hs3
  have hok : OfOk lo up least := ⟨hI1, hI2, hsu, hle⟩
  have hle' : decide (least < 0) = false := by simpa using hle
  have htt := ht hok
  clear ht hok hI1 hI2 hsu
  go_enter Tryz.func33, Tryz.ntmps33
  go_upto_region 1 with (fail)
  rw [HW0.out]
  go_wp2_with fail
  refine (hs1).mono ?_
  rintro e w1 ⟨rfl, hb1⟩
  have hB1 : Below W.heap.size W w1 := hb0.trans (hb1.mono hb0.size)
  have hZ1 := (hb1.block W.heap.size hlt0).trans hZ0
  have hlt1 : W.heap.size < w1.heap.size := (Array.getElem?_eq_some_iff.1 hZ1).1
  go_wp2_with fail
  refine (hs2 w1 hB1).mono ?_
  rintro e w2 ⟨rfl, hb2⟩
  have hB2 : Below W.heap.size W w2 := hB1.trans (hb2.mono hB1.size)
  have hZ2 := (hb2.block W.heap.size hlt1).trans hZ1
  have hlt2 : W.heap.size < w2.heap.size := (Array.getElem?_eq_some_iff.1 hZ2).1
  go_wp2_with fail
  refine (hs3 w2 hB2).mono ?_
  rintro e w3 ⟨rfl, hb3⟩
  have hB3 : Below W.heap.size W w3 := hB2.trans (hb3.mono hB2.size)
  have hZ3 := (hb3.block W.heap.size hlt2).trans hZ2
  have hlt3 : W.heap.size < w3.heap.size := (Array.getElem?_eq_some_iff.1 hZ3).1
  have ht3 := htt w3 hB3
  clear hs1 hs2 hs3 htt
  go_wp2_with fail
  refine ht3.mono ?_
  clear ht3
  rintro e w4 ⟨v4, rfl, hD, hb4⟩
  have hB4 : Below W.heap.size W w4 := hB3.trans (hb4.mono hB3.size)
  have HZ : Hid _ := (hb4.block W.heap.size hlt3).trans hZ3
  obtain ⟨slo, sup, rfl, e0, o1, o2⟩ := hD
  obtain ⟨p1, k1, rfl⟩ := own_slice o1
  obtain ⟨p2, k2, rfl⟩ := own_slice o2
  obtain ⟨T, hT⟩ : ∃ T, tightD lo up least most = T := ⟨_, rfl⟩
  rw [hT] at e0 o1 o2 ⊢
  obtain ⟨m1, hm1⟩ : ∃ n, T.lo.length = n := ⟨_, rfl⟩
  obtain ⟨m2, hm2⟩ : ∃ n, T.up.length = n := ⟨_, rfl⟩
  obtain ⟨x0, hx0⟩ : ∃ x, T.set = x := ⟨_, rfl⟩
  obtain ⟨x4, hx4⟩ : ∃ x, T.least = x := ⟨_, rfl⟩
  obtain ⟨x5, hx5⟩ : ∃ x, T.most = x := ⟨_, rfl⟩
  have HX : Hid (tightD lo up least most = T ∧ T.lo.length = m1 ∧ T.up.length = m2 ∧ T.set = x0 ∧ T.least = x4 ∧ T.most = x5 ∧ T.rn = 0) := ⟨hT, hm1, hm2, hx0, hx4, hx5, e0⟩
  rw [hm1] at o1 ⊢
  rw [hm2] at o2 ⊢
  rw [hx0, hx4, hx5]
  have O1 := own_setRow (own_base o1 hB3.size) W.heap.size #[.bool x0, .slice none 0 0, .slice p1 m1 k1, .slice p2 m2 k2, .int .i64 x4, .int .i64 x5] HZ.out
  have O2 := own_setRow (own_base o2 hB3.size) W.heap.size #[.bool x0, .slice none 0 0, .slice p1 m1 k1, .slice p2 m2 k2, .int .i64 x4, .int .i64 x5] HZ.out
  have hBS := below_setRow hB4 (Nat.le_refl W.heap.size) #[.bool x0, .slice none 0 0, .slice p1 m1 k1, .slice p2 m2 k2, .int .i64 x4, .int .i64 x5]
  have HROW : Hid _ := setRow_heap w4 W.heap.size _ #[.bool x0, .slice none 0 0, .slice p1 m1 k1, .slice p2 m2 k2, .int .i64 x4, .int .i64 x5] 37 (0, 0) HZ.out
  have HSZ : Hid ((Tryz.prog.info? 37).map (·.size) = some (#[.bool x0, .slice none 0 0, .slice p1 m1 k1, .slice p2 m2 k2, .int .i64 x4, .int .i64 x5] : Array Value).size) := Tryz.size37
  have HSO : Hid ((#[.bool false, .slice none 0 0, .slice none 0 0, .slice none 0 0, .int .i64 0, .int .i64 0] : Array Value).size = (#[.bool x0, .slice none 0 0, .slice p1 m1 k1, .slice p2 m2 k2, .int .i64 x4, .int .i64 x5] : Array Value).size) := rfl
  have HSA : Hid ((#[.bool x0, .slice none 0 0, .slice p1 m1 k1, .slice p2 m2 k2, .int .i64 x4, .int .i64 x5] : Array Value).all (·.oneCell') = true) := by unfold Hid; simp [Value.oneCell']
  clear hZ0 hZ1 hZ2 hZ3 hb1 hb2 hb3 hb4 hB1 hB2 hB3 hB4 o1 o2 hT hm1 hm2 hx0 hx4 hx5 e0
  go_wp2_with (with_reducible refine wpList_store_row rfl 37 (.tmp 8) (.tmp 33) rfl W.heap.size #[.bool x0, .slice none 0 0, .slice p1 m1 k1, .slice p2 m2 k2, .int .i64 x4, .int .i64 x5] (by with_unfolding_all rfl) (by with_unfolding_all rfl) 37 _ HZ.out HSZ.out HSO.out HSA.out ?_)
  obtain ⟨c0, c1', c2', c3, c4, c5⟩ := six_cells HROW.out
  refine ⟨rfl, .tuple #[.agg #[.bool x0, .slice none 0 0, .slice p1 m1 k1, .slice p2 m2 k2, .int .i64 x4, .int .i64 x5], .int .i64 0], ?_, ⟨_, rfl, ?_⟩, hBS⟩
  · simp [results, Tryz.results33, go_sem, c0, c1', c2', c3, c4, c5]
  · obtain ⟨q0, q1, q2, q3, q4, q5, q6⟩ := HX.out
    rw [q0]
    exact ⟨_, _, by rw [q3, q4, q5], q6, by rw [q1]; exact O1, by rw [q2]; exact O2⟩
end Go.Proofs.YtacnhkaibcjjgaaGreatDoor
