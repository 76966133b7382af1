/-
  What is proved here: a range over any iterator, with a body that goes on, leaves the loop or returns.
-/
import Derived.RangeFuncNested
import Derived.RangeFuncBound
import Derived.RangeFuncCalls
import Derived.RangeFuncLeaves
import Derived.RangeFuncRecord
import Derived.TacticsInMore
import Derived.LoopIn
import Derived.LoopNIn
import Derived.OwnWalkIn
import Derived.OrdersIn
import Derived.Lib.OthersKept
import Derived.Sort.CutIn
import Derived.Shelf.Abstract
namespace Go.Proofs.YthkliicmoandmaaGreatDoor
open Go.RowKit Go.Shelf
set_option linter.unusedVariables false
set_option linter.unusedSimpArgs false

/-- All that lies from a block on, but cells, is as it was. -/
structure KA (B : Nat) (W W' : World) : Prop where
  size : W.heap.size ≤ W'.heap.size
  same : ∀ (k : Nat) (o : Obj), B ≤ k → o.isCells = false → W.heap[k]? = some o → W'.heap[k]? = some o
theorem KA.trans {B : Nat} {X Y Z : World} (h : KA B X Y) (k : KA B Y Z) : KA B X Z := ⟨Nat.le_trans h.size k.size, fun i o hi hc ho => k.same i o hi hc (h.same i o hi hc ho)⟩
theorem KA.less {B B' : Nat} {W W' : World} (h : KA B W W') (hb : B ≤ B') : KA B' W W' := ⟨h.size, fun k o hk hc ho => h.same k o (Nat.le_trans hb hk) hc ho⟩
theorem KA.put {B k : Nat} (W : World) (o : Obj) (hk : k < B) : KA B W (W.putObj k o) := ⟨by rw [World.putObj_size]; exact Nat.le_refl _, fun i oo hi _ ho => (World.putObj_heap_other (by omega)).trans ho⟩
/-- An iterator tells the elements els one after another, while what it looks at (Kp) is as it was, and ends when it is told to. -/
def Tells (P : Program) (F : Nat) (caps : Array Value) (els : List Value) (Kp : World → Prop) : Prop :=
  ∀ (n lr : Nat) (W : World) (J : Nat → World → Prop) (Jx : World → Prop), Kp W → (∀ k w, J k w → Kp w) → (∀ k w w', J k w → Below w.heap.size w w' → J k w') →
    (∀ m k x w, els[k]? = some x → W.heap.size ≤ w.heap.size → J k w → ∃ fn tmps assign body, (Instr.yield lr #[x]).run P w = .ok (.round lr fn tmps assign body) w ∧
      RoundIn Fence.wide m P lr fn tmps assign body w fun e w' => ((e = .returned (.bool true) ∧ J (k + 1) w') ∨ (e = .returned (.bool false) ∧ Jx w')) ∧ KA W.heap.size w w') →
    J 0 W → CallsIn Fence.wide n P F (#[.func (.yield lr) #[] #[]] ++ caps) W fun e w' => (∃ v, e = .returned v) ∧ (J els.length w' ∨ Jx w')
/-- How a round ends. -/
def endsA (B id : Nat) (I : Nat → World → Prop) (Ix Ir : World → Prop) (k : Nat) (W : World) : Exit → Act → World → Prop
  | .normal, _, W' => KA B W W' ∧ I (k + 1) W'
  | .exit i, _, W' => i = id ∧ KA B W W' ∧ Ix W'
  | .ret, _, W' => KA B W W' ∧ Ir W'
  | _, _, _ => False
theorem range_any {P : Program} {ps : Tmp} {assign body : Code} {Q : Exit → Act → World → Prop} {a : Act} {w : World} {g : Operand} (n id F : Nat) (caps : Array Value) (els : List Value) (Kp : World → Prop) (hT : Tells P F caps els Kp) (hg : a.eval g = .func (.func F) #[] caps)
    (hF : ∀ args w, (callFunc F args).run P w = .ok (.enter F args) w)
    (I : Nat → World → Prop) (Ix Ir : World → Prop) (hIK : ∀ k W, I k W → Kp W) (hIb : ∀ p W W', w.heap.size ≤ W.heap.size → I p W → Below W.heap.size W W' → I p W')
    (hIp : ∀ p W k o o', w.heap.size ≤ k → I p W → W.heap[k]? = some o → o.isCells = false → I p (W.putObj k o')) (hXp : ∀ W k o o', w.heap.size ≤ k → Ix W → W.heap[k]? = some o → o.isCells = false → Ix (W.putObj k o'))
    (hRp : ∀ W k o o', w.heap.size ≤ k → Ir W → W.heap[k]? = some o → o.isCells = false → Ir (W.putObj k o')) (h0 : I 0 w) (a₁ : Value → Act)
    (hassign : ∀ (l m : Nat) (v : Value) (W : World) (K : Act → World → Prop), K (a₁ v) W →
      assign.wpIn (Fence.wide.inRound l) m P (Exit.then K (fun _ _ _ => False)) { tmps := a.tmps.setIfInBounds ps v, defers := [] } W)
    (hbody : ∀ (l m k : Nat) (x : Value) (W : World), els[k]? = some x → w.heap.size ≤ W.heap.size → I k W → body.wpIn (Fence.wide.inRound l) m P (endsA w.heap.size id I Ix Ir k W) (a₁ x) W)
    (hleft : ∀ (D : Nat) (W : World), w.heap.size ≤ D → Ix W → W.heap[D]? = some (.deferred (some [])) → Q (.exit id) { a with defers := { target := .collected D, args := #[] } :: a.defers } W)
    (hret : ∀ (D : Nat) (W : World), w.heap.size ≤ D → Ir W → W.heap[D]? = some (.deferred (some [])) → Q .ret { a with defers := { target := .collected D, args := #[] } :: a.defers } W)
    (hdone : ∀ (D : Nat) (W : World), w.heap.size ≤ D → I els.length W → W.heap[D]? = some (.deferred (some [])) → Q .normal { a with defers := { target := .collected D, args := #[] } :: a.defers } W) :
    (Code.rangeFunc g #[ps] assign body).wpIn Fence.wide n P Q a w := by
  refine wpIn_rangeFunc ?_
  intro fn hfn
  rw [show Fence.wide.round = none from rfl]
  obtain ⟨rec, hrec⟩ : ∃ rec : LoopState → Option Code → Loop, rec = fun st pe => { state := st, pending := pe, fn, tmps := a.tmps, params := #[ps], assign, body, defers := w.heap.size } := ⟨_, rfl⟩
  obtain ⟨W1, hW1⟩ : ∃ W1, (w.alloc (.deferred (some []))).alloc (.loop (rec .ready none)) = W1 := ⟨_, rfl⟩
  have hL1 : W1.heap[w.heap.size + 1]? = some (.loop (rec .ready none)) := by
    rw [← hW1]; have := World.alloc_heap_new (w.alloc (.deferred (some []))) (.loop (rec .ready none)); rwa [World.size_alloc] at this
  have hK1 : W1.heap[w.heap.size]? = some (.deferred (some [])) := by
    rw [← hW1]; exact (Below.heap_alloc _ _ _ (by simp)).trans (World.alloc_heap_new w _)
  have hb1 : Below w.heap.size w W1 := by
    rw [← hW1]; exact ((Below.refl _ w).alloc (Nat.le_refl _) _).alloc (by simp) _
  have hW1s : w.heap.size + 1 < W1.heap.size := (Array.getElem?_eq_some_iff.1 hL1).1
  have hI1 : I 0 W1 := hIb _ _ _ (Nat.le_refl _) h0 hb1
  refine ⟨w.heap.size + 1, [{ target := .collected w.heap.size, args := #[] }], W1, { target := .fn (.func F) caps, args := #[.func (.yield (w.heap.size + 1)) #[] #[]] }, W1, F,
    #[.func (.yield (w.heap.size + 1)) #[] #[]] ++ caps, W1, ?_, ?_, ?_, ?_, (fun h => nomatch h), ?_⟩
  · rw [← hW1, hrec]; exact run_enterLoop_outer _ _ _ _ _
  · simp only [resolve, hg]
    simp [go_sem]
  · intro f' hf'; trivial
  · simp [invoke, go_sem, hF]
  · refine (hT (n - 1) (w.heap.size + 1) W1
      (fun p W => w.heap.size ≤ W.heap.size ∧ I p W ∧ W.heap[w.heap.size + 1]? = some (.loop (rec .ready none)) ∧ W.heap[w.heap.size]? = some (.deferred (some [])))
      (fun W => w.heap.size ≤ W.heap.size ∧ ((Ix W ∧ W.heap[w.heap.size + 1]? = some (.loop { rec .ready none with state := .done, pending := some (.exit id) })) ∨ (Ir W ∧ W.heap[w.heap.size + 1]? = some (.loop { rec .ready none with state := .done, pending := some .ret }))) ∧ W.heap[w.heap.size]? = some (.deferred (some [])))
      (hIK _ _ hI1) (fun p W hJ => hIK p W hJ.2.1)
      (fun p W W' hJ hb => ⟨Nat.le_trans hJ.1 hb.size, hIb _ _ _ hJ.1 hJ.2.1 hb, (hb.block _ (Array.getElem?_eq_some_iff.1 hJ.2.2.1).1).trans hJ.2.2.1, (hb.block _ (Array.getElem?_eq_some_iff.1 hJ.2.2.2).1).trans hJ.2.2.2⟩)
      ?_ ⟨hb1.size, hI1, hL1, hK1⟩).mono ?_
    · rintro m p x W hfl hW ⟨hsz, hi, hl, hk⟩
      have hlt : w.heap.size + 1 < W.heap.size := (Array.getElem?_eq_some_iff.1 hl).1
      have hy := run_yield (P := P) (args := #[x]) hl (by rw [hrec]; rfl)
      rw [hrec] at hy
      refine ⟨fn, _, assign, body, hy, roundIn_of_wpIn hfn ?_⟩
      have htm : (#[ps].zip #[x]).foldl (fun t (q : Tmp × Value) => t.setIfInBounds q.1 q.2) a.tmps = a.tmps.setIfInBounds ps x := by simp
      dsimp only
      rw [htm]
      refine hassign _ _ _ W _ ?_
      refine ⟨_, run_beginRound hl (by rw [hrec]), ?_⟩
      have hl2 : (W.putObj (w.heap.size + 1) (.loop { rec .ready none with state := .busy })).heap[w.heap.size + 1]? = some (.loop { rec .ready none with state := .busy }) := World.putObj_heap_same hlt
      have hk2 : (W.putObj (w.heap.size + 1) (.loop { rec .ready none with state := .busy })).heap[w.heap.size]? = some (.deferred (some [])) := (World.putObj_heap_other (by omega)).trans hk
      have hs2 : w.heap.size ≤ (W.putObj (w.heap.size + 1) (.loop { rec .ready none with state := .busy })).heap.size := by rw [World.putObj_size]; exact hsz
      have hka1 : KA W1.heap.size W (W.putObj (w.heap.size + 1) (.loop { rec .ready none with state := .busy })) := KA.put _ _ hW1s
      refine wpIn_mono (hbody _ _ p x _ hfl hs2 (hIp _ _ _ _ _ (by omega) hi hl rfl)) ?_
      rintro e a3 W3 hp
      cases e with
      | normal =>
        obtain ⟨hk3, hi3⟩ := hp
        have hl3 := hk3.same _ _ (Nat.le_succ _) rfl hl2
        have hr := run_endRound (P := P) none hl3
        refine ⟨_, _, hr, .inl ⟨rfl, ?_, hIp _ _ _ _ _ (by omega) hi3 hl3 rfl, ?_, (World.putObj_heap_other (by omega)).trans (hk3.same _ _ (Nat.le_refl _) rfl hk2)⟩, (hka1.trans (hk3.less (by omega))).trans (KA.put _ _ hW1s)⟩
        · rw [World.putObj_size]; exact Nat.le_trans hs2 hk3.size
        · refine (World.putObj_heap_same (Array.getElem?_eq_some_iff.1 hl3).1).trans ?_
          rw [hrec]; rfl
      | exit i =>
        obtain ⟨rfl, hk3, hi3⟩ := hp
        have hl3 := hk3.same _ _ (Nat.le_succ _) rfl hl2
        have hr := run_endRound (P := P) (some (.exit i)) hl3
        refine ⟨_, _, hr, .inr ⟨rfl, ?_, .inl ⟨hXp _ _ _ _ (by omega) hi3 hl3 rfl, ?_⟩, (World.putObj_heap_other (by omega)).trans (hk3.same _ _ (Nat.le_refl _) rfl hk2)⟩, (hka1.trans (hk3.less (by omega))).trans (KA.put _ _ hW1s)⟩
        · rw [World.putObj_size]; exact Nat.le_trans hs2 hk3.size
        · refine (World.putObj_heap_same (Array.getElem?_eq_some_iff.1 hl3).1).trans ?_
          rw [hrec]; rfl
      | ret =>
        obtain ⟨hk3, hi3⟩ := hp
        have hl3 := hk3.same _ _ (Nat.le_succ _) rfl hl2
        have hr := run_endRound (P := P) (some .ret) hl3
        refine ⟨_, _, hr, .inr ⟨rfl, ?_, .inr ⟨hRp _ _ _ _ (by omega) hi3 hl3 rfl, ?_⟩, (World.putObj_heap_other (by omega)).trans (hk3.same _ _ (Nat.le_refl _) rfl hk2)⟩, (hka1.trans (hk3.less (by omega))).trans (KA.put _ _ hW1s)⟩
        · rw [World.putObj_size]; exact Nat.le_trans hs2 hk3.size
        · refine (World.putObj_heap_same (Array.getElem?_eq_some_iff.1 hl3).1).trans ?_
          rw [hrec]; rfl
      | _ => exact hp.elim
    · rintro e W2 ⟨⟨v, rfl⟩, (⟨hsz, hi, hl, hk⟩ | ⟨hsz, (⟨hi, hl⟩ | ⟨hi, hl⟩), hk⟩)⟩
      · exact ⟨none, _, by have := run_endLoop (P := P) hl (by rw [hrec]; simp); rw [hrec] at this; exact this, hdone _ _ (Nat.le_refl _) (hIp _ _ _ _ _ (by omega) hi hl rfl) ((World.putObj_heap_other (by omega)).trans hk)⟩
      · exact ⟨some (.exit id), _, by have := run_endLoop (P := P) hl (by rw [hrec]; simp); rw [hrec] at this; exact this, wpIn_exit (hleft _ _ (Nat.le_refl _) (hXp _ _ _ _ (by omega) hi hl rfl) ((World.putObj_heap_other (by omega)).trans hk))⟩
      · exact ⟨some .ret, _, by have := run_endLoop (P := P) hl (by rw [hrec]; simp); rw [hrec] at this; exact this, wpIn_ret (hret _ _ (Nat.le_refl _) (hRp _ _ _ _ (by omega) hi hl rfl) ((World.putObj_heap_other (by omega)).trans hk))⟩
end Go.Proofs.YthkliicmoandmaaGreatDoor
