/-
  What is proved here: ranges over the table and over the names of a row, with a body that goes on or returns.
-/
import Derived.Test.YtpgecdhieakilaaGreatDoorCaj
import Derived.RangeFuncNested
import Derived.RangeFuncWrites
namespace Go.Proofs.YtpgecdhieakilaaGreatDoor
open Go.RowKit Go.Shelf
set_option linter.unusedVariables false
set_option linter.unusedSimpArgs false

theorem callFunc38 (args : Array Value) (w : World) : (callFunc 38 args).run Tryz.prog w = .ok (.enter 38 args) w := enters_of Tryz.func38 (by kernel_rfl) rfl args w
theorem callFunc62 (args : Array Value) (w : World) : (callFunc 62 args).run Tryz.prog w = .ok (.enter 62 args) w := enters_of Tryz.func62 (by kernel_rfl) rfl args w
/-- How a round ends: it goes on, or the function returns. -/
def endsR {α : Type} (B : Nat) (I : α → World → Prop) (Ix : World → Prop) (p : α) (W : World) : Exit → Act → World → Prop
  | .normal, _, W' => KeepsFrom B W W' ∧ I p W'
  | .ret, _, W' => KeepsFrom B W W' ∧ Ix W'
  | _, _, _ => False
theorem keeps_below {W W' : World} (h : Below W.heap.size W W') : KeepsOthers W W' := ⟨h.size, fun k o hk _ => (h.block k (Array.getElem?_eq_some_iff.1 hk).1).trans hk⟩
theorem range_rows {ps : Tmp} {assign body : Code} {Q : Exit → Act → World → Prop} {a : Act} {w : World} {g : Operand} (n : Nat) (hg : a.eval g = .func (.func 38) #[] #[])
    (I : Nat → World → Prop) (Ix : World → Prop) (hIb : ∀ p W W', w.heap.size ≤ W.heap.size → I p W → Below W.heap.size W W' → I p W')
    (hIp : ∀ p W k o o', w.heap.size ≤ k → I p W → W.heap[k]? = some o → o.isCells = false → I p (W.putObj k o')) (hXp : ∀ W k o o', w.heap.size ≤ k → Ix W → W.heap[k]? = some o → o.isCells = false → Ix (W.putObj k o')) (h0 : I 0 w) (a₁ : Nat → Nat → Act)
    (hassign : ∀ (l m k : Nat) (W : World) (K : Act → World → Prop), k < 48 → K (a₁ k W.heap.size) (W.alloc (Obj.cells (rowA k) 74)) →
      assign.wpIn (Fence.wide.inRound l) m Tryz.prog (Exit.then K (fun _ _ _ => False)) { tmps := a.tmps.setIfInBounds ps (.agg (rowA k)), defers := [] } W)
    (hbody : ∀ (l m k B : Nat) (W : World), k < 48 → w.heap.size ≤ l → w.heap.size ≤ B → (∃ r, W.heap[l]? = some (.loop r)) → W.heap[B]? = some (.cells (rowA k) 74 (0, 0)) → w.heap.size ≤ W.heap.size → I k W → body.wpIn (Fence.wide.inRound l) m Tryz.prog (endsR w.heap.size I Ix (k + 1) W) (a₁ k B) W)
    (hleft : ∀ (D : Nat) (W : World), w.heap.size ≤ D → Ix W → W.heap[D]? = some (.deferred (some [])) → Q .ret { a with defers := { target := .collected D, args := #[] } :: a.defers } W)
    (hdone : ∀ (D : Nat) (W : World), w.heap.size ≤ D → I 48 W → W.heap[D]? = some (.deferred (some [])) → Q .normal { a with defers := { target := .collected D, args := #[] } :: a.defers } W) :
    (Code.rangeFunc g #[ps] assign body).wpIn Fence.wide n Tryz.prog Q a w := by
  refine wpIn_rangeFunc ?_
  intro fn hfn
  rw [show Fence.wide.round = none from rfl]
  obtain ⟨rec, hrec⟩ : ∃ rec : LoopState → Option Code → Loop, rec = fun st pe => { state := st, pending := pe, fn, tmps := a.tmps, params := #[ps], assign, body, defers := w.heap.size } := ⟨_, rfl⟩
  obtain ⟨W1, hW1⟩ : ∃ W1, (w.alloc (.deferred (some []))).alloc (.loop (rec .ready none)) = W1 := ⟨_, rfl⟩
  have hL1 : W1.heap[w.heap.size + 1]? = some (.loop (rec .ready none)) := by
    rw [← hW1]; have := World.alloc_heap_new (w.alloc (.deferred (some []))) (.loop (rec .ready none)); rwa [World.size_alloc] at this
  have hK1 : W1.heap[w.heap.size]? = some (.deferred (some [])) := by
    rw [← hW1]; exact (Below.heap_alloc _ _ _ (by simp)).trans (World.alloc_heap_new w _)
  have hb1 : Below w.heap.size w W1 := by
    rw [← hW1]; exact ((Below.refl _ w).alloc (Nat.le_refl _) _).alloc (by simp) _
  have hI1 : I 0 W1 := hIb _ _ _ (Nat.le_refl _) h0 hb1
  refine ⟨w.heap.size + 1, [{ target := .collected w.heap.size, args := #[] }], W1, { target := .fn (.func 38) #[], args := #[.func (.yield (w.heap.size + 1)) #[] #[]] }, W1, 38,
    #[.func (.yield (w.heap.size + 1)) #[] #[]], W1, ?_, ?_, ?_, ?_, (fun h => nomatch h), ?_⟩
  · rw [← hW1, hrec]; exact run_enterLoop_outer _ _ _ _ _
  · simp only [resolve, hg]
    simp [go_sem]
  · intro f' hf'; trivial
  · have eg : ∀ args w, (callFunc 38 args).run Tryz.prog w = .ok (.enter 38 args) w := callFunc38
    simp [invoke, go_sem, eg]
  · refine (rows_any (n - 1) (w.heap.size + 1) W1
      (fun p W => w.heap.size ≤ W.heap.size ∧ I p W ∧ W.heap[w.heap.size + 1]? = some (.loop (rec .ready none)) ∧ W.heap[w.heap.size]? = some (.deferred (some [])))
      (fun W => w.heap.size ≤ W.heap.size ∧ Ix W ∧ W.heap[w.heap.size + 1]? = some (.loop { rec .ready none with state := .done, pending := some .ret }) ∧ W.heap[w.heap.size]? = some (.deferred (some [])))
      (fun p W W' hJ hb => ⟨Nat.le_trans hJ.1 hb.size, hIb _ _ _ hJ.1 hJ.2.1 hb, (hb.block _ (Array.getElem?_eq_some_iff.1 hJ.2.2.1).1).trans hJ.2.2.1, (hb.block _ (Array.getElem?_eq_some_iff.1 hJ.2.2.2).1).trans hJ.2.2.2⟩)
      ?_ ⟨hb1.size, hI1, hL1, hK1⟩).mono ?_
    · rintro m k W hk48 ⟨hsz, hi, hl, hk⟩
      have hlt : w.heap.size + 1 < W.heap.size := (Array.getElem?_eq_some_iff.1 hl).1
      have hy := run_yield (P := Tryz.prog) (args := #[.agg (rowA k)]) hl (by rw [hrec]; rfl)
      rw [hrec] at hy
      refine ⟨fn, _, assign, body, hy, roundIn_of_wpIn hfn ?_⟩
      have htm : (#[ps].zip #[Value.agg (rowA k)]).foldl (fun t (q : Tmp × Value) => t.setIfInBounds q.1 q.2) a.tmps = a.tmps.setIfInBounds ps (.agg (rowA k)) := by simp
      dsimp only
      rw [htm]
      refine hassign _ _ k W _ hk48 ?_
      have hza := (Below.refl W.heap.size W).alloc (Nat.le_refl _) (Obj.cells (rowA k) 74)
      have hla : (W.alloc (Obj.cells (rowA k) 74)).heap[w.heap.size + 1]? = some (.loop (rec .ready none)) := (hza.block _ hlt).trans hl
      have hka := (hza.block _ (show w.heap.size < W.heap.size by omega)).trans hk
      have hBa : (W.alloc (Obj.cells (rowA k) 74)).heap[W.heap.size]? = some (.cells (rowA k) 74 (0, 0)) := World.alloc_heap_new _ _
      have hia := hIb _ _ _ hsz hi hza
      have hsa := Nat.le_trans hsz hza.size
      generalize W.heap.size = B at hBa hlt hsz ⊢
      generalize W.alloc (Obj.cells (rowA k) 74) = Wa at hla hka hBa hia hsa ⊢
      have hlt : w.heap.size + 1 < Wa.heap.size := (Array.getElem?_eq_some_iff.1 hla).1
      refine ⟨_, run_beginRound hla (by rw [hrec]), ?_⟩
      have hl2 : (Wa.putObj (w.heap.size + 1) (.loop { rec .ready none with state := .busy })).heap[w.heap.size + 1]? = some (.loop { rec .ready none with state := .busy }) := World.putObj_heap_same hlt
      have hk2 : (Wa.putObj (w.heap.size + 1) (.loop { rec .ready none with state := .busy })).heap[w.heap.size]? = some (.deferred (some [])) := (World.putObj_heap_other (by omega)).trans hka
      have hBn : B ≠ w.heap.size + 1 := fun e => by rw [e, hla] at hBa; cases hBa
      have hB2 : (Wa.putObj (w.heap.size + 1) (.loop { rec .ready none with state := .busy })).heap[B]? = some (.cells (rowA k) 74 (0, 0)) := (World.putObj_heap_other hBn).trans hBa
      have hs2 : w.heap.size ≤ (Wa.putObj (w.heap.size + 1) (.loop { rec .ready none with state := .busy })).heap.size := by rw [World.putObj_size]; exact hsa
      refine wpIn_mono (hbody _ _ k B _ hk48 (Nat.le_succ _) hsz ⟨_, hl2⟩ hB2 hs2 (hIp _ _ _ _ _ (by omega) hia hla rfl)) ?_
      rintro e a3 W3 hp
      cases e with
      | normal =>
        obtain ⟨hk3, hi3⟩ := hp
        have hl3 := hk3.same _ _ (Nat.le_succ _) hl2 rfl
        have hr := run_endRound (P := Tryz.prog) none hl3
        refine ⟨_, _, hr, .inl ⟨rfl, ?_, hIp _ _ _ _ _ (by omega) hi3 hl3 rfl, ?_, (World.putObj_heap_other (by omega)).trans (hk3.same _ _ (Nat.le_refl _) hk2 rfl)⟩⟩
        · rw [World.putObj_size]; exact Nat.le_trans hs2 hk3.size
        · refine (World.putObj_heap_same (Array.getElem?_eq_some_iff.1 hl3).1).trans ?_
          rw [hrec]; rfl
      | ret =>
        obtain ⟨hk3, hi3⟩ := hp
        have hl3 := hk3.same _ _ (Nat.le_succ _) hl2 rfl
        have hr := run_endRound (P := Tryz.prog) (some .ret) hl3
        refine ⟨_, _, hr, .inr ⟨rfl, ?_, hXp _ _ _ _ (by omega) hi3 hl3 rfl, ?_, (World.putObj_heap_other (by omega)).trans (hk3.same _ _ (Nat.le_refl _) hk2 rfl)⟩⟩
        · rw [World.putObj_size]; exact Nat.le_trans hs2 hk3.size
        · refine (World.putObj_heap_same (Array.getElem?_eq_some_iff.1 hl3).1).trans ?_
          rw [hrec]; rfl
      | _ => exact hp.elim
    · rintro e W2 ⟨⟨v, rfl⟩, (⟨hsz, hi, hl, hk⟩ | ⟨hsz, hi, hl, hk⟩)⟩
      · exact ⟨none, _, by have := run_endLoop (P := Tryz.prog) hl (by rw [hrec]; simp); rw [hrec] at this; exact this, hdone _ _ (Nat.le_refl _) (hIp _ _ _ _ _ (by omega) hi hl rfl) ((World.putObj_heap_other (by omega)).trans hk)⟩
      · exact ⟨some .ret, _, by have := run_endLoop (P := Tryz.prog) hl (by rw [hrec]; simp); rw [hrec] at this; exact this, wpIn_ret (hleft _ _ (Nat.le_refl _) (hXp _ _ _ _ (by omega) hi hl rfl) ((World.putObj_heap_other (by omega)).trans hk))⟩
theorem range_names {ps : Tmp} {assign body : Code} {Q : Exit → Act → World → Prop} {a : Act} {w : World} {g : Operand} (n l0 B : Nat) (s : List UInt8) (hs : s.length < 4000) (hg : a.eval g = .func (.func 62) #[] #[.pointer (some ⟨B, 0, none⟩)]) (hB : w.cell? ⟨B, 2, none⟩ = some (.string ⟨s.toArray⟩))
    (hl0 : ∃ r, w.heap[l0]? = some (.loop r))
    (I : List (List UInt8) → World → Prop) (Ix : World → Prop) (hIM : ∀ p W, I p W → MaxL W) (hIb : ∀ p W W', w.heap.size ≤ W.heap.size → I p W → Below W.heap.size W W' → I p W')
    (hIp : ∀ p W k o o', w.heap.size ≤ k → I p W → W.heap[k]? = some o → o.isCells = false → I p (W.putObj k o')) (hXp : ∀ W k o o', w.heap.size ≤ k → Ix W → W.heap[k]? = some o → o.isCells = false → Ix (W.putObj k o')) (h0 : I [] w) (a₁ : Value → Act)
    (hassign : ∀ (l m : Nat) (v : Value) (W : World) (K : Act → World → Prop), K (a₁ v) W →
      assign.wpIn (Fence.wide.inRound l) m Tryz.prog (Exit.then K (fun _ _ _ => False)) { tmps := a.tmps.setIfInBounds ps v, defers := [] } W)
    (hbody : ∀ (l m : Nat) (p : List (List UInt8)) (x : List UInt8) (W : World), (∃ r, p ++ [x] ++ r = nmL s) → w.heap.size ≤ W.heap.size → I p W → body.wpIn (Fence.wide.inRound l) m Tryz.prog (endsR w.heap.size I Ix (p ++ [x]) W) (a₁ (.string ⟨x.toArray⟩)) W)
    (hleft : ∀ (W : World), Ix W → Q .ret a W) (hdone : ∀ (W : World), I (nmL s) W → Q .normal a W) :
    (Code.rangeFunc g #[ps] assign body).wpIn (Fence.wide.inRound l0) n Tryz.prog Q a w := by
  refine wpIn_rangeFunc ?_
  intro fn hfn
  rw [show (Fence.wide.inRound l0).round = some l0 from rfl]
  obtain ⟨r0, hr0⟩ := hl0
  obtain ⟨rec, hrec⟩ : ∃ rec : LoopState → Option Code → Loop, rec = fun st pe => { state := st, pending := pe, fn, tmps := a.tmps, params := #[ps], assign, body, defers := r0.defers } := ⟨_, rfl⟩
  obtain ⟨W1, hW1⟩ : ∃ W1, w.alloc (.loop (rec .ready none)) = W1 := ⟨_, rfl⟩
  have hL1 : W1.heap[w.heap.size]? = some (.loop (rec .ready none)) := by rw [← hW1]; exact World.alloc_heap_new w _
  have hb1 : Below w.heap.size w W1 := by rw [← hW1]; exact (Below.refl _ w).alloc (Nat.le_refl _) _
  have hI1 : I [] W1 := hIb _ _ _ (Nat.le_refl _) h0 hb1
  refine ⟨w.heap.size, [], W1, { target := .fn (.func 62) #[.pointer (some ⟨B, 0, none⟩)], args := #[.func (.yield w.heap.size) #[] #[]] }, W1, 62,
    #[.func (.yield w.heap.size) #[] #[], .pointer (some ⟨B, 0, none⟩)], W1, ?_, ?_, ?_, ?_, (fun h => nomatch h), ?_⟩
  · rw [← hW1, hrec]; exact run_enterLoop_inner hr0 _ _ _ _ _
  · simp only [resolve, hg]
    simp [go_sem]
  · intro f' hf'; trivial
  · have eg : ∀ args w, (callFunc 62 args).run Tryz.prog w = .ok (.enter 62 args) w := callFunc62
    simp [invoke, go_sem, eg]
  · have hBl : B < w.heap.size := by
      apply Classical.byContradiction; intro hn
      have : w.heap[B]? = none := Array.getElem?_eq_none (by simpa using hn)
      simp [World.cell?, this] at hB
    refine (CallsIn.inRound l0 (each62 (n - 1) w.heap.size B s W1 ((hb1.cell (p := ⟨B, 2, none⟩) hBl).trans hB) hs
      (fun p W => w.heap.size ≤ W.heap.size ∧ I p W ∧ W.heap[w.heap.size]? = some (.loop (rec .ready none)))
      (fun W => w.heap.size ≤ W.heap.size ∧ Ix W ∧ W.heap[w.heap.size]? = some (.loop { rec .ready none with state := .done, pending := some .ret }))
      (fun p W hJ => hIM p W hJ.2.1)
      (fun p W W' hJ hb => ⟨Nat.le_trans hJ.1 hb.size, hIb _ _ _ hJ.1 hJ.2.1 hb, (hb.block _ (Array.getElem?_eq_some_iff.1 hJ.2.2).1).trans hJ.2.2⟩)
      ?_ ⟨hb1.size, hI1, hL1⟩)).mono ?_
    · rintro m p x W hfl ⟨hsz, hi, hl⟩
      have hlt : w.heap.size < W.heap.size := (Array.getElem?_eq_some_iff.1 hl).1
      have hy := run_yield (P := Tryz.prog) (args := #[.string ⟨x.toArray⟩]) hl (by rw [hrec]; rfl)
      rw [hrec] at hy
      refine ⟨fn, _, assign, body, hy, roundIn_of_wpIn hfn ?_⟩
      have htm : (#[ps].zip #[Value.string ⟨x.toArray⟩]).foldl (fun t (q : Tmp × Value) => t.setIfInBounds q.1 q.2) a.tmps = a.tmps.setIfInBounds ps (.string ⟨x.toArray⟩) := by simp
      dsimp only
      rw [htm]
      refine hassign _ _ _ W _ ?_
      refine ⟨_, run_beginRound hl (by rw [hrec]), ?_⟩
      have hl2 : (W.putObj w.heap.size (.loop { rec .ready none with state := .busy })).heap[w.heap.size]? = some (.loop { rec .ready none with state := .busy }) := World.putObj_heap_same hlt
      have hs2 : w.heap.size ≤ (W.putObj w.heap.size (.loop { rec .ready none with state := .busy })).heap.size := by rw [World.putObj_size]; exact hsz
      refine wpIn_mono (hbody _ _ p x _ hfl hs2 (hIp _ _ _ _ _ (Nat.le_refl _) hi hl rfl)) ?_
      rintro e a3 W3 hp
      cases e with
      | normal =>
        obtain ⟨hk3, hi3⟩ := hp
        have hl3 := hk3.same _ _ (Nat.le_refl _) hl2 rfl
        have hr := run_endRound (P := Tryz.prog) none hl3
        refine ⟨_, _, hr, .inl ⟨rfl, ?_, hIp _ _ _ _ _ (Nat.le_refl _) hi3 hl3 rfl, ?_⟩⟩
        · rw [World.putObj_size]; exact Nat.le_trans hs2 hk3.size
        · refine (World.putObj_heap_same (Array.getElem?_eq_some_iff.1 hl3).1).trans ?_
          rw [hrec]; rfl
      | ret =>
        obtain ⟨hk3, hi3⟩ := hp
        have hl3 := hk3.same _ _ (Nat.le_refl _) hl2 rfl
        have hr := run_endRound (P := Tryz.prog) (some .ret) hl3
        refine ⟨_, _, hr, .inr ⟨rfl, ?_, hXp _ _ _ _ (Nat.le_refl _) hi3 hl3 rfl, ?_⟩⟩
        · rw [World.putObj_size]; exact Nat.le_trans hs2 hk3.size
        · refine (World.putObj_heap_same (Array.getElem?_eq_some_iff.1 hl3).1).trans ?_
          rw [hrec]; rfl
      | _ => exact hp.elim
    · rintro e W2 ⟨⟨v, rfl⟩, (⟨hsz, hi, hl⟩ | ⟨hsz, hi, hl⟩)⟩
      · exact ⟨none, _, by have := run_endLoop (P := Tryz.prog) hl (by rw [hrec]; simp); rw [hrec] at this; exact this, hdone _ (hIp _ _ _ _ _ (Nat.le_refl _) hi hl rfl)⟩
      · exact ⟨some .ret, _, by have := run_endLoop (P := Tryz.prog) hl (by rw [hrec]; simp); rw [hrec] at this; exact this, wpIn_ret (hleft _ (hXp _ _ _ _ (Nat.le_refl _) hi hl rfl))⟩
end Go.Proofs.YtpgecdhieakilaaGreatDoor
