/-
  What is proved here: a range over the tokens of a text, with a body that goes on or leaves.
-/
import Derived.Test.YtokcbiafajpmoaaDoorLw
namespace Go.Proofs.YtokcbiafajpmoaaDoor
open Go.RowKit
set_option linter.unusedVariables false
set_option linter.unusedSimpArgs false

theorem callFunc26 (args : Array Value) (w : World) : (callFunc 26 args).run Tryd.prog w = .ok (.enter 26 args) w := enters_of Tryd.func26 (by kernel_rfl) rfl args w
/-- How a round ends: it goes on, or the loop is left. -/
def ends26 (B id : Nat) (I : List Tok → World → Prop) (Ix : World → Prop) (p : List Tok) (W : World) : Exit → Act → World → Prop
  | .normal, _, W' => KA B W W' ∧ I p W'
  | .exit i, _, W' => i = id ∧ KA B W W' ∧ Ix W'
  | _, _, _ => False
theorem range26 {ps : Tmp} {assign body : Code} {Q : Exit → Act → World → Prop} {a : Act} {w : World} {g : Operand} (n id : Nat) (B : Nat) (b : List UInt8) (hg : a.eval g = .func (.func 26) #[] #[.pointer (some ⟨B, 0, none⟩)]) (hB : w.cell? ⟨B, 0, none⟩ = some (.string (bs b)))
    (I : List Tok → World → Prop) (Ix : World → Prop) (hIM : ∀ p W, I p W → ErrV W) (hIb : ∀ p W W', w.heap.size ≤ W.heap.size → I p W → Below W.heap.size W W' → I p W')
    (hIp : ∀ p W k o o', w.heap.size ≤ k → I p W → W.heap[k]? = some o → o.isCells = false → I p (W.putObj k o')) (hXp : ∀ W k o o', w.heap.size ≤ k → Ix W → W.heap[k]? = some o → o.isCells = false → Ix (W.putObj k o')) (h0 : I [] w) (a₁ : Value → Act)
    (hassign : ∀ (l m : Nat) (v : Value) (W : World) (K : Act → World → Prop), K (a₁ v) W →
      assign.wpIn (Fence.wide.inRound l) m Tryd.prog (Exit.then K (fun _ _ _ => False)) { tmps := a.tmps.setIfInBounds ps v, defers := [] } W)
    (hbody : ∀ (l m : Nat) (p : List Tok) (x : Tok) (W : World), (∃ r, p ++ [x] ++ r = (allT b).1) → w.heap.size ≤ W.heap.size → I p W → body.wpIn (Fence.wide.inRound l) m Tryd.prog (ends26 w.heap.size id I Ix (p ++ [x]) W) (a₁ (x.val)) W)
    (hleft : ∀ (D : Nat) (W : World), w.heap.size ≤ D → Ix W → W.heap[D]? = some (.deferred (some [])) → Q (.exit id) { a with defers := { target := .collected D, args := #[] } :: a.defers } W)
    (hdone : ∀ (D : Nat) (W : World), w.heap.size ≤ D → I ((allT b).1) W → W.heap[D]? = some (.deferred (some [])) → Q .normal { a with defers := { target := .collected D, args := #[] } :: a.defers } W) :
    (Code.rangeFunc g #[ps] assign body).wpIn Fence.wide n Tryd.prog Q a w := by
  refine wpIn_rangeFunc ?_
  intro fn hfn
  rw [show Fence.wide.round = none from rfl]
  obtain ⟨rec, hrec⟩ : ∃ rec : LoopState → Option Code → Loop, rec = fun st pe => { state := st, pending := pe, fn, tmps := a.tmps, params := #[ps], assign, body, defers := w.heap.size } := ⟨_, rfl⟩
  obtain ⟨W1, hW1⟩ : ∃ W1, (w.alloc (.deferred (some []))).alloc (.loop (rec .ready none)) = W1 := ⟨_, rfl⟩
  have hL1 : W1.heap[w.heap.size + 1]? = some (.loop (rec .ready none)) := by
    rw [← hW1]; have := World.alloc_heap_new (w.alloc (.deferred (some []))) (.loop (rec .ready none)); rwa [World.size_alloc] at this
  have hK1 : W1.heap[w.heap.size]? = some (.deferred (some [])) := by
    rw [← hW1]; exact (Below.heap_alloc _ _ _ (by simp)).trans (World.alloc_heap_new w _)
  have hb1 : Below w.heap.size w W1 := by
    rw [← hW1]; exact ((Below.refl _ w).alloc (Nat.le_refl _) _).alloc (by simp) _
  have hW1s : w.heap.size + 1 < W1.heap.size := (Array.getElem?_eq_some_iff.1 hL1).1
  have hI1 : I [] W1 := hIb _ _ _ (Nat.le_refl _) h0 hb1
  refine ⟨w.heap.size + 1, [{ target := .collected w.heap.size, args := #[] }], W1, { target := .fn (.func 26) #[.pointer (some ⟨B, 0, none⟩)], args := #[.func (.yield (w.heap.size + 1)) #[] #[]] }, W1, 26,
    #[.func (.yield (w.heap.size + 1)) #[] #[], .pointer (some ⟨B, 0, none⟩)], W1, ?_, ?_, ?_, ?_, (fun h => nomatch h), ?_⟩
  · rw [← hW1, hrec]; exact run_enterLoop_outer _ _ _ _ _
  · simp only [resolve, hg]
    simp [go_sem]
  · intro f' hf'; trivial
  · have eg : ∀ args w, (callFunc 26 args).run Tryd.prog w = .ok (.enter 26 args) w := callFunc26
    simp [invoke, go_sem, eg]
  · have hBl : B < w.heap.size := World.block_lt_of_cell? w ⟨B, 0, none⟩ hB
    refine (each26 (n - 1) (w.heap.size + 1) B b W1 ((hb1.cell (p := ⟨B, 0, none⟩) hBl).trans hB)
      (fun p W => w.heap.size ≤ W.heap.size ∧ I p W ∧ W.heap[w.heap.size + 1]? = some (.loop (rec .ready none)) ∧ W.heap[w.heap.size]? = some (.deferred (some [])))
      (fun W => w.heap.size ≤ W.heap.size ∧ Ix W ∧ W.heap[w.heap.size + 1]? = some (.loop { rec .ready none with state := .done, pending := some (.exit id) }) ∧ W.heap[w.heap.size]? = some (.deferred (some [])))
      (fun p W hJ => hIM p W hJ.2.1)
      (fun p W W' hJ hb => ⟨Nat.le_trans hJ.1 hb.size, hIb _ _ _ hJ.1 hJ.2.1 hb, (hb.block _ (Array.getElem?_eq_some_iff.1 hJ.2.2.1).1).trans hJ.2.2.1, (hb.block _ (Array.getElem?_eq_some_iff.1 hJ.2.2.2).1).trans hJ.2.2.2⟩)
      ?_ ⟨hb1.size, hI1, hL1, hK1⟩).mono ?_
    · rintro m p x W hfl hW ⟨hsz, hi, hl, hk⟩
      have hlt : w.heap.size + 1 < W.heap.size := (Array.getElem?_eq_some_iff.1 hl).1
      have hy := run_yield (P := Tryd.prog) (args := #[x.val]) hl (by rw [hrec]; rfl)
      rw [hrec] at hy
      refine ⟨fn, _, assign, body, hy, roundIn_of_wpIn hfn ?_⟩
      have htm : (#[ps].zip #[x.val]).foldl (fun t (q : Tmp × Value) => t.setIfInBounds q.1 q.2) a.tmps = a.tmps.setIfInBounds ps (x.val) := by simp
      dsimp only
      rw [htm]
      refine hassign _ _ _ W _ ?_
      refine ⟨_, run_beginRound hl (by rw [hrec]), ?_⟩
      have hl2 : (W.putObj (w.heap.size + 1) (.loop { rec .ready none with state := .busy })).heap[w.heap.size + 1]? = some (.loop { rec .ready none with state := .busy }) := World.putObj_heap_same hlt
      have hk2 : (W.putObj (w.heap.size + 1) (.loop { rec .ready none with state := .busy })).heap[w.heap.size]? = some (.deferred (some [])) := (World.putObj_heap_other (by omega)).trans hk
      have hs2 : w.heap.size ≤ (W.putObj (w.heap.size + 1) (.loop { rec .ready none with state := .busy })).heap.size := by rw [World.putObj_size]; exact hsz
      have hka1 : KA W1.heap.size W (W.putObj (w.heap.size + 1) (.loop { rec .ready none with state := .busy })) := KA.put _ _ hW1s
      refine wpIn_mono (hbody _ _ p x _ hfl hs2 (hIp _ _ _ _ _ (by omega) hi hl rfl)) ?_
      rintro e a3 W3 hp
      cases e with
      | normal =>
        obtain ⟨hk3, hi3⟩ := hp
        have hl3 := hk3.same _ _ (Nat.le_succ _) hl2
        have hr := run_endRound (P := Tryd.prog) none hl3
        refine ⟨_, _, hr, .inl ⟨rfl, ?_, hIp _ _ _ _ _ (by omega) hi3 hl3 rfl, ?_, (World.putObj_heap_other (by omega)).trans (hk3.same _ _ (Nat.le_refl _) hk2)⟩, (hka1.trans (hk3.less (by omega))).trans (KA.put _ _ hW1s)⟩
        · rw [World.putObj_size]; exact Nat.le_trans hs2 hk3.size
        · refine (World.putObj_heap_same (Array.getElem?_eq_some_iff.1 hl3).1).trans ?_
          rw [hrec]; rfl
      | exit i =>
        obtain ⟨rfl, hk3, hi3⟩ := hp
        have hl3 := hk3.same _ _ (Nat.le_succ _) hl2
        have hr := run_endRound (P := Tryd.prog) (some (.exit i)) hl3
        refine ⟨_, _, hr, .inr ⟨rfl, ?_, hXp _ _ _ _ (by omega) hi3 hl3 rfl, ?_, (World.putObj_heap_other (by omega)).trans (hk3.same _ _ (Nat.le_refl _) hk2)⟩, (hka1.trans (hk3.less (by omega))).trans (KA.put _ _ hW1s)⟩
        · rw [World.putObj_size]; exact Nat.le_trans hs2 hk3.size
        · refine (World.putObj_heap_same (Array.getElem?_eq_some_iff.1 hl3).1).trans ?_
          rw [hrec]; rfl
      | _ => exact hp.elim
    · rintro e W2 ⟨⟨v, rfl⟩, (⟨hsz, hi, hl, hk⟩ | ⟨hsz, hi, hl, hk⟩)⟩
      · exact ⟨none, _, by have := run_endLoop (P := Tryd.prog) hl (by rw [hrec]; simp); rw [hrec] at this; exact this, hdone _ _ (Nat.le_refl _) (hIp _ _ _ _ _ (by omega) hi hl rfl) ((World.putObj_heap_other (by omega)).trans hk)⟩
      · exact ⟨some (.exit id), _, by have := run_endLoop (P := Tryd.prog) hl (by rw [hrec]; simp); rw [hrec] at this; exact this, wpIn_exit (hleft _ _ (Nat.le_refl _) (hXp _ _ _ _ (by omega) hi hl rfl) ((World.putObj_heap_other (by omega)).trans hk))⟩
theorem range26v {ps : Tmp} {assign body : Code} {Q : Exit → Act → World → Prop} {a : Act} {w : World} {g : Operand} (n id : Nat) (B : Nat) (b : List UInt8) (hg : a.eval g = .func (.func 26) #[] #[.pointer (some ⟨B, 0, none⟩)]) (hB : w.cell? ⟨B, 0, none⟩ = some (.string (bs b)))
    (I : List Tok → World → Prop) (Ix : World → Prop) (hIM : ∀ p W, I p W → ErrV W) (hIb : ∀ p W W', w.heap.size ≤ W.heap.size → I p W → Below W.heap.size W W' → I p W')
    (hIp : ∀ p W k o o', w.heap.size ≤ k → I p W → W.heap[k]? = some o → o.isCells = false → I p (W.putObj k o')) (hXp : ∀ W k o o', w.heap.size ≤ k → Ix W → W.heap[k]? = some o → o.isCells = false → Ix (W.putObj k o')) (h0 : I [] w) (a₁ : Tok → Nat → Act)
    (hassign : ∀ (l m : Nat) (x : Tok) (Bx : Nat) (W : World) (K : Act → World → Prop), W.heap.size = Bx → K (a₁ x Bx) (W.alloc (.cells (tokC x).toArray 23)) →
      assign.wpIn (Fence.wide.inRound l) m Tryd.prog (Exit.then K (fun _ _ _ => False)) { tmps := a.tmps.setIfInBounds ps x.val, defers := [] } W)
    (hbody : ∀ (l m : Nat) (p : List Tok) (x : Tok) (Bx : Nat) (W : World), (∃ r, p ++ [x] ++ r = (allT b).1) → w.heap.size < Bx → w.heap.size ≤ W.heap.size → Rw W Bx 23 (tokC x).toArray → I p W → body.wpIn (Fence.wide.inRound l) m Tryd.prog (ends26 w.heap.size id I Ix (p ++ [x]) W) (a₁ x Bx) W)
    (hleft : ∀ (D : Nat) (W : World), w.heap.size ≤ D → Ix W → W.heap[D]? = some (.deferred (some [])) → Q (.exit id) { a with defers := { target := .collected D, args := #[] } :: a.defers } W)
    (hdone : ∀ (D : Nat) (W : World), w.heap.size ≤ D → I ((allT b).1) W → W.heap[D]? = some (.deferred (some [])) → Q .normal { a with defers := { target := .collected D, args := #[] } :: a.defers } W) :
    (Code.rangeFunc g #[ps] assign body).wpIn Fence.wide n Tryd.prog Q a w := by
  refine wpIn_rangeFunc ?_
  intro fn hfn
  rw [show Fence.wide.round = none from rfl]
  obtain ⟨rec, hrec⟩ : ∃ rec : LoopState → Option Code → Loop, rec = fun st pe => { state := st, pending := pe, fn, tmps := a.tmps, params := #[ps], assign, body, defers := w.heap.size } := ⟨_, rfl⟩
  obtain ⟨W1, hW1⟩ : ∃ W1, (w.alloc (.deferred (some []))).alloc (.loop (rec .ready none)) = W1 := ⟨_, rfl⟩
  have hL1 : W1.heap[w.heap.size + 1]? = some (.loop (rec .ready none)) := by
    rw [← hW1]; have := World.alloc_heap_new (w.alloc (.deferred (some []))) (.loop (rec .ready none)); rwa [World.size_alloc] at this
  have hK1 : W1.heap[w.heap.size]? = some (.deferred (some [])) := by
    rw [← hW1]; exact (Below.heap_alloc _ _ _ (by simp)).trans (World.alloc_heap_new w _)
  have hb1 : Below w.heap.size w W1 := by
    rw [← hW1]; exact ((Below.refl _ w).alloc (Nat.le_refl _) _).alloc (by simp) _
  have hW1s : w.heap.size + 1 < W1.heap.size := (Array.getElem?_eq_some_iff.1 hL1).1
  have hI1 : I [] W1 := hIb _ _ _ (Nat.le_refl _) h0 hb1
  refine ⟨w.heap.size + 1, [{ target := .collected w.heap.size, args := #[] }], W1, { target := .fn (.func 26) #[.pointer (some ⟨B, 0, none⟩)], args := #[.func (.yield (w.heap.size + 1)) #[] #[]] }, W1, 26,
    #[.func (.yield (w.heap.size + 1)) #[] #[], .pointer (some ⟨B, 0, none⟩)], W1, ?_, ?_, ?_, ?_, (fun h => nomatch h), ?_⟩
  · rw [← hW1, hrec]; exact run_enterLoop_outer _ _ _ _ _
  · simp only [resolve, hg]
    simp [go_sem]
  · intro f' hf'; trivial
  · have eg : ∀ args w, (callFunc 26 args).run Tryd.prog w = .ok (.enter 26 args) w := callFunc26
    simp [invoke, go_sem, eg]
  · have hBl : B < w.heap.size := World.block_lt_of_cell? w ⟨B, 0, none⟩ hB
    refine (each26 (n - 1) (w.heap.size + 1) B b W1 ((hb1.cell (p := ⟨B, 0, none⟩) hBl).trans hB)
      (fun p W => w.heap.size ≤ W.heap.size ∧ I p W ∧ W.heap[w.heap.size + 1]? = some (.loop (rec .ready none)) ∧ W.heap[w.heap.size]? = some (.deferred (some [])))
      (fun W => w.heap.size ≤ W.heap.size ∧ Ix W ∧ W.heap[w.heap.size + 1]? = some (.loop { rec .ready none with state := .done, pending := some (.exit id) }) ∧ W.heap[w.heap.size]? = some (.deferred (some [])))
      (fun p W hJ => hIM p W hJ.2.1)
      (fun p W W' hJ hb => ⟨Nat.le_trans hJ.1 hb.size, hIb _ _ _ hJ.1 hJ.2.1 hb, (hb.block _ (Array.getElem?_eq_some_iff.1 hJ.2.2.1).1).trans hJ.2.2.1, (hb.block _ (Array.getElem?_eq_some_iff.1 hJ.2.2.2).1).trans hJ.2.2.2⟩)
      ?_ ⟨hb1.size, hI1, hL1, hK1⟩).mono ?_
    · rintro m p x W hfl hW ⟨hsz, hi, hl, hk⟩
      have hlt : w.heap.size + 1 < W.heap.size := (Array.getElem?_eq_some_iff.1 hl).1
      have hy := run_yield (P := Tryd.prog) (args := #[x.val]) hl (by rw [hrec]; rfl)
      rw [hrec] at hy
      refine ⟨fn, _, assign, body, hy, roundIn_of_wpIn hfn ?_⟩
      have htm : (#[ps].zip #[x.val]).foldl (fun t (q : Tmp × Value) => t.setIfInBounds q.1 q.2) a.tmps = a.tmps.setIfInBounds ps (x.val) := by simp
      dsimp only
      rw [htm]
      refine hassign _ _ x W.heap.size W _ rfl ?_
      have hbA : Below W.heap.size W (W.alloc (.cells (tokC x).toArray 23)) := (Below.refl _ W).alloc (Nat.le_refl _) _
      have hRA : Rw (W.alloc (.cells (tokC x).toArray 23)) W.heap.size 23 (tokC x).toArray := Rw.new _ _ _
      have hkaA : KA W1.heap.size W (W.alloc (.cells (tokC x).toArray 23)) := KA.of_below _ hbA
      have hiA := hIb _ _ _ hsz hi hbA
      have hlA := (hbA.block _ (Array.getElem?_eq_some_iff.1 hl).1).trans hl
      have hkA := (hbA.block _ (Array.getElem?_eq_some_iff.1 hk).1).trans hk
      have hszA := Nat.le_trans hsz hbA.size
      have hltA := Nat.lt_of_lt_of_le hlt hbA.size
      have hBx : w.heap.size + 1 < W.heap.size := hlt
      obtain ⟨Bx, hBxe⟩ : ∃ Bx, W.heap.size = Bx := ⟨_, rfl⟩
      rw [hBxe] at hRA hBx
      rw [hBxe]
      obtain ⟨WA, hWA⟩ : ∃ X, W.alloc (.cells (tokC x).toArray 23) = X := ⟨_, rfl⟩
      rw [hWA] at hbA hRA hkaA hiA hlA hkA hszA hltA ⊢
      clear hWA hbA hlt hk hi hsz
      have hlt := hltA
      have hl := hlA
      have hk := hkA
      have hi := hiA
      have hsz := hszA
      refine ⟨_, run_beginRound hl (by rw [hrec]), ?_⟩
      have hl2 : (WA.putObj (w.heap.size + 1) (.loop { rec .ready none with state := .busy })).heap[w.heap.size + 1]? = some (.loop { rec .ready none with state := .busy }) := World.putObj_heap_same hlt
      have hk2 : (WA.putObj (w.heap.size + 1) (.loop { rec .ready none with state := .busy })).heap[w.heap.size]? = some (.deferred (some [])) := (World.putObj_heap_other (by omega)).trans hk
      have hs2 : w.heap.size ≤ (WA.putObj (w.heap.size + 1) (.loop { rec .ready none with state := .busy })).heap.size := by rw [World.putObj_size]; exact hsz
      have hka1 : KA W1.heap.size WA (WA.putObj (w.heap.size + 1) (.loop { rec .ready none with state := .busy })) := KA.put _ _ hW1s
      refine wpIn_mono (hbody _ _ p x Bx _ hfl (by omega) hs2 ⟨(World.putObj_heap_other (by omega)).trans hRA.h⟩ (hIp _ _ _ _ _ (by omega) hi hl rfl)) ?_
      rintro e a3 W3 hp
      cases e with
      | normal =>
        obtain ⟨hk3, hi3⟩ := hp
        have hl3 := hk3.same _ _ (Nat.le_succ _) hl2
        have hr := run_endRound (P := Tryd.prog) none hl3
        refine ⟨_, _, hr, .inl ⟨rfl, ?_, hIp _ _ _ _ _ (by omega) hi3 hl3 rfl, ?_, (World.putObj_heap_other (by omega)).trans (hk3.same _ _ (Nat.le_refl _) hk2)⟩, (hkaA.trans (hka1.trans (hk3.less (by omega)))).trans (KA.put _ _ hW1s)⟩
        · rw [World.putObj_size]; exact Nat.le_trans hs2 hk3.size
        · refine (World.putObj_heap_same (Array.getElem?_eq_some_iff.1 hl3).1).trans ?_
          rw [hrec]; rfl
      | exit i =>
        obtain ⟨rfl, hk3, hi3⟩ := hp
        have hl3 := hk3.same _ _ (Nat.le_succ _) hl2
        have hr := run_endRound (P := Tryd.prog) (some (.exit i)) hl3
        refine ⟨_, _, hr, .inr ⟨rfl, ?_, hXp _ _ _ _ (by omega) hi3 hl3 rfl, ?_, (World.putObj_heap_other (by omega)).trans (hk3.same _ _ (Nat.le_refl _) hk2)⟩, (hkaA.trans (hka1.trans (hk3.less (by omega)))).trans (KA.put _ _ hW1s)⟩
        · rw [World.putObj_size]; exact Nat.le_trans hs2 hk3.size
        · refine (World.putObj_heap_same (Array.getElem?_eq_some_iff.1 hl3).1).trans ?_
          rw [hrec]; rfl
      | _ => exact hp.elim
    · rintro e W2 ⟨⟨v, rfl⟩, (⟨hsz, hi, hl, hk⟩ | ⟨hsz, hi, hl, hk⟩)⟩
      · exact ⟨none, _, by have := run_endLoop (P := Tryd.prog) hl (by rw [hrec]; simp); rw [hrec] at this; exact this, hdone _ _ (Nat.le_refl _) (hIp _ _ _ _ _ (by omega) hi hl rfl) ((World.putObj_heap_other (by omega)).trans hk)⟩
      · exact ⟨some (.exit id), _, by have := run_endLoop (P := Tryd.prog) hl (by rw [hrec]; simp); rw [hrec] at this; exact this, wpIn_exit (hleft _ _ (Nat.le_refl _) (hXp _ _ _ _ (by omega) hi hl rfl) ((World.putObj_heap_other (by omega)).trans hk))⟩
end Go.Proofs.YtokcbiafajpmoaaDoor
