/-
  What is proved here: inside a fence, too, a load may be taken first where nobody in the region writes its cell.
  What is proved here: how sets.walk.from goes through the sets of a domain: its regions.
  What is proved here: what sets.begun.with returns.
  What is proved here: how sets.walk.from goes through the sets of a domain: its other regions.
  What is proved here: how sets.walk.from goes through the sets of a domain: its other regions.
  What is proved here: how sets.walk.from goes through the sets of a domain.
-/
import Derived.OrdersHeld
import Derived.OrdersIn
import Derived.Test.YtfcaemfledlnnaaGreatDoorYSfj
import Derived.Deep.MidRow
namespace Go.Proofs.YtfcaemfledlnnaaGreatDoor.St
open Go
set_option linter.unusedVariables false
set_option linter.unusedSimpArgs false
section
variable {F : Fence} {n : Nat} {P : Program} {ops : Array Oper} {Q : Exit → Act → World → Prop} {md : Region.Mode} {S : World → Prop}

/-- It yields in every world that meets S. -/
def YieldsIfF (P : Program) (ops : Array Oper) (S : World → Prop) (o : Oper) (v : Value) (a : Act) : Prop := YieldsIf P ops S o v a ∧ True

theorem YieldsIfF.step {i : Nat} {o : Oper} {v : Value} {a : Act} (hfn : ∀ f, F.fn f) (hro : F.round = none) (hi : ops[i]? = some o) (hy : YieldsIfF P ops S o v a)
    {K : Act → World → Prop} {w : World} (hS : S w) (h : K (a.put o.dst v) w) : wpOpIn F n P ops Q i K a w := by
  unfold Go.wpOpIn
  simp only [hi]
  have hab : ∀ f, o.about P w a.eval = some f → F.fn f := fun f hf => hfn f
  rcases hy.1 with ⟨hw, hv⟩ | ⟨hw, rfl⟩
  · simp only [hw, if_true, Oper.wpIn, hro, Oper.semAt_none, hv w hS, Oper.uponIn]; exact ⟨hab, h⟩
  · simp only [hw, Bool.false_eq_true, if_false]; exact ⟨hab, h⟩

theorem YieldsIfF.same {o : Oper} {v : Value} {a a' : Act} (hy : YieldsIfF P ops S o v a) (he : execOp a'.eval o = execOp a.eval o)
    (hw : Region.wanted o (yielded ops a'.tmps) = Region.wanted o (yielded ops a.tmps)) : YieldsIfF P ops S o v a' :=
  ⟨hy.1.of_same he hw, trivial⟩

/-- One operation that is apart from another: whether the other's value is there already makes no difference to it. -/
theorem opIn_put {j : Nat} {oi oj : Oper} {v : Value} (hro : F.round = none) (hj : ops[j]? = some oj) (hap : oi.apart ops oj = true)
    (hsi : ∀ cs b, oi.op ≠ .select cs b) (hsj : ∀ cs b, oj.op ≠ .select cs b)
    (hQ : ∀ c a w, Q (.panic c) (a.put oi.dst v) w → Q (.panic c) a w) {K : Act → World → Prop} {a : Act} {w : World}
    (hy : YieldsIfF P ops S oi v a) (h : wpOpIn F n P ops Q j K (a.put oi.dst v) w) :
    wpOpIn F n P ops Q j (fun a' w' => YieldsIfF P ops S oi v a' ∧ K (a'.put oi.dst v) w') a w := by
  obtain ⟨h1, h2, h3⟩ := Oper.apart_spec hap
  have keep : ∀ (a : Act), YieldsIfF P ops S oi v a → ∀ u, YieldsIfF P ops S oi v (a.put oj.dst u) := fun a hy u =>
    hy.same (execOp_put oi hsi a oj.dst u h3) (wanted_put oi a oj.dst u h3)
  have keepD : ∀ d, YieldsIfF P ops S oi v { a with defers := d :: a.defers } := fun d => hy.same rfl rfl
  unfold wpOpIn at *
  simp only [hj] at *
  rw [wanted_put oj a oi.dst v h1, about_put oj w a oi.dst v h1] at h
  split
  · rename_i hw
    simp only [hw, if_true] at h
    unfold Oper.wpIn at *
    rw [about_put oj w a oi.dst v h1] at h
    refine ⟨h.1, ?_⟩
    have h := h.2
    rw [hro, Oper.semAt_none, execOp_put oj hsj a oi.dst v h1] at h
    rw [hro, Oper.semAt_none]
    generalize (execOp a.eval oj).run P w = r at *
    cases r with
    | ok x w' =>
      cases x <;> simp only [Oper.uponIn] at h ⊢
      case value u => exact ⟨keep a hy u, by rw [← Act.put_comm a v u h2]; exact h⟩
      case skip => exact ⟨keep a hy _, by rw [← Act.put_comm a v undef h2]; exact h⟩
      case defer d =>
        refine ⟨keep _ (keepD d) _, ?_⟩
        rw [← Act.put_comm _ v undef h2, ← Act.put_defers]
        exact h
      case enter f args =>
        refine ⟨h.1, CallsIn.mono h.2 fun e w'' he => ?_⟩
        cases e with
        | returned u => exact ⟨keep a hy u, by rw [← Act.put_comm a v u h2]; exact he⟩
        | panicked c => exact hQ _ _ _ he
        | outgrown => exact he
      case row row args => exact ⟨h.1, RowsIn.mono h.2 fun u w'' he => ⟨keep a hy u, by rw [← Act.put_comm a v u h2]; exact he⟩⟩
      case round l f tmps assign body =>
        refine ⟨h.1, RoundIn.mono h.2 fun e w'' he => ?_⟩
        cases e with
        | returned u => exact ⟨keep a hy u, by rw [← Act.put_comm a v u h2]; exact he⟩
        | panicked c => exact hQ _ _ _ he
        | outgrown => exact he
    | halt x w' =>
      cases x <;> simp only [Oper.uponIn] at h ⊢
      case panic u => exact hQ _ _ _ h
  · rename_i hw
    simp only [hw] at h
    exact ⟨h.1, keep a hy _, by rw [← Act.put_comm a v undef h2]; exact h.2⟩

/-- Whatever order is picked from here on, and S holds behind every operation. -/
def AnyHIn (F : Fence) (n : Nat) (P : Program) (md : Region.Mode) (ops : Array Oper) (Q : Exit → Act → World → Prop) (S : World → Prop) : Nat → Array Bool → Act → World → Prop
  | 0, listed, a, w => Region.ready md ops listed = [] ∧ Q .normal a w
  | fuel + 1, listed, a, w =>
    (Region.ready md ops listed = [] → Q .normal a w) ∧
    ∀ i ∈ Region.ready md ops listed, wpOpIn F n P ops Q i (fun a' w' => S w' ∧ AnyHIn F n P md ops Q S fuel (listed.setIfInBounds i true) a' w') a w

theorem any_of_held : ∀ (fuel : Nat) (listed : Array Bool) (a : Act) (w : World), AnyHIn F n P md ops Q S fuel listed a w → wpAnyIn F n P md ops Q fuel listed a w
  | 0, _, _, _, h => h
  | fuel + 1, _, _, _, h => ⟨h.1, fun i hi => wpOpIn_mono (fun a' w' h' => any_of_held fuel _ a' w' h'.2) (h.2 i hi)⟩

theorem anyH_first {i : Nat} {oi : Oper} {v : Value} (hfn : ∀ f, F.fn f) (hro : F.round = none) (hi : ops[i]? = some oi) (hsel : ∀ (j : Nat) (o : Oper) cs b, ops[j]? = some o → o.op ≠ .select cs b)
    (hQ : ∀ c a w, Q (.panic c) (a.put oi.dst v) w → Q (.panic c) a w) :
    ∀ (fuel : Nat) (listed : Array Bool) (a : Act) (w : World),
      (∀ j oj, ops[j]? = some oj → j ≠ i → listed.getD j true = false → (∀ e ∈ oj.after, Region.binds md e = true → e.on ≠ i) → oi.apart ops oj = true) →
      i ∈ Region.ready md ops listed → YieldsIfF P ops S oi v a → S w →
      AnyHIn F n P md ops Q S fuel (listed.setIfInBounds i true) (a.put oi.dst v) w → AnyHIn F n P md ops Q S (fuel + 1) listed a w := by
  intro fuel
  induction fuel with
  | zero =>
    intro listed a w _ hr hy hS H
    refine ⟨fun h => (by rw [h] at hr; cases hr), fun j hj => ?_⟩
    by_cases hji : j = i
    · subst hji; exact hy.step hfn hro hi hS ⟨hS, H⟩
    · have := ready_mono hj hji
      rw [H.1] at this
      cases this
  | succ fuel ih =>
    intro listed a w hfree hr hy hS H
    refine ⟨fun h => (by rw [h] at hr; cases hr), fun j hj => ?_⟩
    by_cases hji : j = i
    · subst hji; exact hy.step hfn hro hi hS ⟨hS, H⟩
    · have h1 := H.2 j (ready_mono hj hji)
      obtain ⟨hjun, oj, hoj, hall⟩ := mem_ready.1 hj
      have hnot : ∀ e ∈ oj.after, Region.binds md e = true → e.on ≠ i := fun e he hb heq => by
        have h1 := hall e he hb
        have h0 := (mem_ready.1 hr).1
        rw [heq] at h1
        rcases Nat.lt_or_ge i listed.size with h' | h'
        · simp [h'] at h0 h1; rw [h0] at h1; cases h1
        · simp [Array.getElem?_eq_none h'] at h1
      have h2 := opIn_put hro hoj (hfree j oj hoj hji hjun hnot) (fun cs b => hsel i oi cs b hi) (fun cs b => hsel j oj cs b hoj) hQ hy h1
      have hfree' : ∀ k ok, ops[k]? = some ok → k ≠ i → (listed.setIfInBounds j true).getD k true = false →
          (∀ e ∈ ok.after, Region.binds md e = true → e.on ≠ i) → oi.apart ops ok = true := fun k ok hk hki hun hno => by
        refine hfree k ok hk hki ?_ hno
        by_cases hjk : j = k
        · subst hjk; exact hjun
        · rw [getD_set_ne true hjk] at hun; exact hun
      refine wpOpIn_mono (fun a' w' h3 => ⟨h3.2.1, ih (listed.setIfInBounds j true) a' w' hfree' (ready_mono hr (Ne.symm hji)) h3.1 h3.2.1 ?_⟩) h2
      rw [Array.setIfInBounds_comm _ _ hji]
      exact h3.2.2

/-- Take number i first. -/
theorem anyH_take {i : Nat} {oi : Oper} {v : Value} {fuel : Nat} {listed : Array Bool} {a : Act} {w : World} (hfn : ∀ f, F.fn f) (hro : F.round = none) (hi : ops[i]? = some oi)
    (hs : Region.noSelect ops = true) (hf : Region.free md ops listed i = true) (hr : (Region.ready md ops listed).contains i = true)
    (hQ : ∀ c a w, Q (.panic c) (a.put oi.dst v) w → Q (.panic c) a w) (hy : YieldsIf P ops S oi v a) (hS : S w)
    (h : AnyHIn F n P md ops Q S fuel (listed.setIfInBounds i true) (a.put oi.dst v) w) : AnyHIn F n P md ops Q S (fuel + 1) listed a w :=
  anyH_first hfn hro hi (Region.noSelect_spec hs) hQ fuel listed a w (Region.free_spec hi hf) (by simpa using hr) ⟨hy, trivial⟩ hS h

/-- Just one may come up. -/
theorem anyH_one {i : Nat} {o : Oper} {fuel : Nat} {listed : Array Bool} {a : Act} {w : World} (hr : Region.ready md ops listed = [i]) (ho : ops[i]? = some o)
    (hw : Region.wanted o (yielded ops a.tmps) = true)
    (h : ∀ K : Act → World → Prop, (∀ a' w', S w' → AnyHIn F n P md ops Q S fuel (listed.setIfInBounds i true) a' w' → K a' w') → o.wpIn F n P a w K Q) : AnyHIn F n P md ops Q S (fuel + 1) listed a w := by
  refine ⟨fun h0 => (by rw [hr] at h0; cases h0), ?_⟩
  rw [hr]
  intro j hj
  rw [List.mem_singleton] at hj
  subst hj
  unfold wpOpIn
  simp only [ho, hw, if_true]
  exact h _ (fun _ _ h1 h2 => ⟨h1, h2⟩)

theorem anyH_done {listed : Array Bool} {a : Act} {w : World} (hr : Region.ready md ops listed = []) (h : Q .normal a w) :
    ∀ fuel, AnyHIn F n P md ops Q S fuel listed a w
  | 0 => ⟨hr, h⟩
  | _ + 1 => ⟨fun _ => h, by rw [hr]; simp⟩

theorem region_heldIn {id : Nat} {a : Act} {w : World} (S : World → Prop) (hm : P.follows .mixedOrders = true)
    (h : AnyHIn F n P .any ops Q S ops.size (Array.replicate ops.size false) a { w with drawn := w.drawn + 1 }) : (Code.region id ops true).wpIn F n P Q a w :=
  wpIn_region_any hm (any_of_held _ _ _ _ h)
end
end Go.Proofs.YtfcaemfledlnnaaGreatDoor.St


namespace Go.Proofs.YtfcaemfledlnnaaGreatDoor.St
open Go.RowKit Go.Shelf
set_option linter.unusedVariables false
set_option linter.unusedSimpArgs false

theorem bits_range {W : World} {b : Nat} {f : Nat → Bool} (h : ∀ j, j < 64 → W.cell? ⟨b, j, none⟩ = some (.bool (f j))) : W.rangeAt b 0 (bits64 f).toList := by
  intro j v hj
  have hl : j < 64 := by
    have := (List.getElem?_eq_some_iff.1 hj).1
    simpa [bits64_size] using this
  rw [Array.getElem?_toList, bits64_get f j hl] at hj
  cases hj
  rw [Nat.zero_add]; exact h j hl
theorem hu62 : Tryz.prog.underlying 152 = some (.array 64 4) := by kernel_rfl

end Go.Proofs.YtfcaemfledlnnaaGreatDoor.St


namespace Go.Proofs.YtfcaemfledlnnaaGreatDoor.St
open Go.RowKit Go.Shelf
set_option linter.unusedVariables false
set_option linter.unusedSimpArgs false

/-- The cells of a set that is begun. -/
def begV (f : Nat → Bool) (at_ have_ needed : Int) : Array Value := bits64 f ++ #[.int .i64 at_, .int .i64 have_, .int .i64 needed]
theorem beg_size (f : Nat → Bool) (a h n : Int) : (begV f a h n).size = 67 := by unfold begV; rw [Array.size_append, bits64_size]; rfl
theorem beg_one (f : Nat → Bool) (a h n : Int) : (begV f a h n).all (·.oneCell') = true := by
  unfold begV; rw [Array.all_append, bits64_one]; simp [Value.oneCell']
theorem beg_get (f : Nat → Bool) (a h n : Int) : (∀ j, j < 64 → (begV f a h n)[j]? = some (.bool (f j))) ∧ (begV f a h n)[64]? = some (.int .i64 a) ∧ (begV f a h n)[65]? = some (.int .i64 h) ∧ (begV f a h n)[66]? = some (.int .i64 n) := by
  have hs := bits64_size f
  refine ⟨fun j hj => ?_, ?_, ?_, ?_⟩
  · unfold begV; rw [Array.getElem?_append_left (by omega)]; exact bits64_get f j hj
  · unfold begV; rw [Array.getElem?_append_right (by omega), hs]; rfl
  · unfold begV; rw [Array.getElem?_append_right (by omega), hs]; rfl
  · unfold begV; rw [Array.getElem?_append_right (by omega), hs]; rfl
theorem beg_ext {T : Array Value} {f : Nat → Bool} {a h n : Int} (hs : T.size = 67) (h0 : ∀ j, j < 64 → T[j]? = some (.bool (f j))) (h1 : T[64]? = some (.int .i64 a)) (h2 : T[65]? = some (.int .i64 h)) (h3 : T[66]? = some (.int .i64 n)) : T = begV f a h n := by
  obtain ⟨g1, g2, g3, g4⟩ := beg_get f a h n
  apply Array.ext_getElem?
  intro j
  rcases Nat.lt_or_ge j 64 with hj | hj
  · rw [h0 j hj, g1 j hj]
  · rcases Nat.lt_or_ge j 67 with hj2 | hj2
    · have : j = 64 ∨ j = 65 ∨ j = 66 := by omega
      rcases this with rfl | rfl | rfl
      · rw [h1, g2]
      · rw [h2, g3]
      · rw [h3, g4]
    · rw [Array.getElem?_eq_none (by omega), Array.getElem?_eq_none (by rw [beg_size]; omega)]
theorem beg_set (f : Nat → Bool) (i : Nat) (hi : i < 64) (a h n a' h' n' : Int) :
    ((((begV f a h n).setIfInBounds i (.bool true)).setIfInBounds 64 (.int .i64 a')).setIfInBounds 65 (.int .i64 h')).setIfInBounds 66 (.int .i64 n') = begV (fun j => if j = i then true else f j) a' h' n' := by
  obtain ⟨g1, g2, g3, g4⟩ := beg_get f a h n
  have hs := beg_size f a h n
  refine beg_ext (by simp [hs]) (fun j hj => ?_) ?_ ?_ ?_
  · simp only [Array.getElem?_setIfInBounds]
    rw [if_neg (by omega), if_neg (by omega), if_neg (by omega)]
    by_cases e : i = j
    · subst e; simp [hs]; omega
    · rw [if_neg e, if_neg (fun h => e h.symm)]; exact g1 j hj
  · simp [Array.getElem?_setIfInBounds, hs]
  · simp [Array.getElem?_setIfInBounds, hs]
  · simp [Array.getElem?_setIfInBounds, hs]
theorem beg_set3 (f : Nat → Bool) (i : Nat) (hi : i < 64) (a h n a' h' : Int) :
    (((begV f a h n).setIfInBounds i (.bool true)).setIfInBounds 64 (.int .i64 a')).setIfInBounds 65 (.int .i64 h') = begV (fun j => if j = i then true else f j) a' h' n := by
  obtain ⟨g1, g2, g3, g4⟩ := beg_get f a h n
  have hs := beg_size f a h n
  refine beg_ext (by simp [hs]) (fun j hj => ?_) ?_ ?_ ?_
  · simp only [Array.getElem?_setIfInBounds]
    rw [if_neg (by omega), if_neg (by omega)]
    by_cases e : i = j
    · subst e; simp [hs]; omega
    · rw [if_neg e, if_neg (fun h => e h.symm)]; exact g1 j hj
  · simp [Array.getElem?_setIfInBounds, hs]
  · simp [Array.getElem?_setIfInBounds, hs]
  · simp only [Array.getElem?_setIfInBounds]
    rw [if_neg (by omega), if_neg (by omega), if_neg (by omega)]; exact g4
theorem wrap_small {x : Int} (h1 : -1000000 ≤ x) (h2 : x ≤ 1000000) : IntKind.i64.wrap x = x := by rw [IntKind.wrap_i64]; omega
theorem cell_row {W : World} {g : Nat} {cur : Array Value} {t : TypeId} (h : W.heap[g]? = some (.cells cur t (0, 0))) (j : Nat) : W.cell? ⟨g, j, none⟩ = cur[j]? := by simp [World.cell?, h]

end Go.Proofs.YtfcaemfledlnnaaGreatDoor.St


namespace Go.Proofs.YtfcaemfledlnnaaGreatDoor.St
open Go.RowKit Go.Shelf
set_option linter.unusedVariables false
set_option linter.unusedSimpArgs false

section
variable {F : Fence} {n : Nat} {P : Program} {ops : Array Oper} {Q : Exit → Act → World → Prop} {md : Region.Mode} {S : World → Prop}
/-- Just two may come up. -/
theorem anyH_two {i j : Nat} {oi oj : Oper} {fuel : Nat} {listed : Array Bool} {a : Act} {w : World} (hr : Region.ready md ops listed = [i, j]) (hi : ops[i]? = some oi) (hj : ops[j]? = some oj)
    (hwi : Region.wanted oi (yielded ops a.tmps) = true) (hwj : Region.wanted oj (yielded ops a.tmps) = true)
    (h1 : ∀ K : Act → World → Prop, (∀ a' w', S w' → AnyHIn F n P md ops Q S fuel (listed.setIfInBounds i true) a' w' → K a' w') → oi.wpIn F n P a w K Q)
    (h2 : ∀ K : Act → World → Prop, (∀ a' w', S w' → AnyHIn F n P md ops Q S fuel (listed.setIfInBounds j true) a' w' → K a' w') → oj.wpIn F n P a w K Q) : AnyHIn F n P md ops Q S (fuel + 1) listed a w := by
  refine ⟨fun h0 => (by rw [hr] at h0; cases h0), ?_⟩
  rw [hr]
  intro k hk
  rw [List.mem_cons, List.mem_singleton] at hk
  rcases hk with rfl | rfl
  · unfold wpOpIn
    simp only [hi, hwi, if_true]
    exact h1 _ (fun _ _ h1 h2 => ⟨h1, h2⟩)
  · unfold wpOpIn
    simp only [hj, hwj, if_true]
    exact h2 _ (fun _ _ h1 h2 => ⟨h1, h2⟩)
theorem storeIn_row {op : Oper} {a : Act} {w : World} {K : Act → World → Prop} (hro : F.round = none) (ty : TypeId) (x y : Operand) (ho : op.op = .store ty x y)
    (g : Nat) (cells : Array Value) (hx : a.eval x = .pointer (some ⟨g, 0, none⟩)) (hy : a.eval y = .agg cells)
    (t : TypeId) (old : Array Value) (hg : w.heap[g]? = some (.cells old t (0, 0))) (hi : (P.info? ty).map (·.size) = some cells.size)
    (hold : old.size = cells.size) (h1 : cells.all (·.oneCell') = true)
    (h : K (a.put op.dst undef) (w.setRow g cells)) : op.wpIn F n P a w K Q := by
  unfold Oper.wpIn
  refine ⟨fun f hf => (by unfold Oper.about at hf; simp [ho] at hf), ?_⟩
  rw [hro, Oper.semAt_none]
  unfold execOp
  simp only [ho, hx, hy, Instr.storeAt, Instr.sureAddr, Sem.run_bind, Sem.run_pure, Result.andThen_ok, run_storeVar_row w g t ty old cells hg hi hold h1]
  exact h
end
end Go.Proofs.YtfcaemfledlnnaaGreatDoor.St


namespace Go.Proofs.YtfcaemfledlnnaaGreatDoor.St
open Go.RowKit Go.Shelf
set_option linter.unusedVariables false
set_option linter.unusedSimpArgs false

end Go.Proofs.YtfcaemfledlnnaaGreatDoor.St


namespace Go.Proofs.YtfcaemfledlnnaaGreatDoor.St
open Go.RowKit Go.Shelf
set_option linter.unusedVariables false
set_option linter.unusedSimpArgs false

/-- What a round keeps: all cells but those of block A. -/
def Kp (A : Nat) (W W' : World) : Prop := W.heap.size ≤ W'.heap.size ∧ ∀ b o v, b ≠ A → W.cell? ⟨b, o, none⟩ = some v → W'.cell? ⟨b, o, none⟩ = some v
theorem Kp.refl (A : Nat) (W : World) : Kp A W W := ⟨Nat.le_refl _, fun _ _ _ _ h => h⟩
theorem Kp.trans {A : Nat} {X Y Z : World} (h : Kp A X Y) (k : Kp A Y Z) : Kp A X Z := ⟨Nat.le_trans h.1 k.1, fun b o v hb hc => k.2 b o v hb (h.2 b o v hb hc)⟩
theorem Kp.alloc (A : Nat) (W : World) (o : Obj) : Kp A W (W.alloc o) := ⟨by simp, fun b q v _ hc => Lib.cell?_alloc_some _ hc⟩
theorem Kp.below {A : Nat} {W W' : World} (h : Below W.heap.size W W') : Kp A W W' :=
  ⟨h.size, fun b o v _ hc => (h.cell (p := ⟨b, o, none⟩) (by
    apply Classical.byContradiction; intro hn
    have : W.heap[b]? = none := Array.getElem?_eq_none (by simpa using hn)
    simp [World.cell?, this] at hc)).trans hc⟩

def decN (n : Int) (b : Bool) : Int := if b then n - 1 else n
def setF (f : Nat → Bool) (i : Nat) : Nat → Bool := fun j => if j = i then true else f j
/-- The set that is told by itself. -/
def ownS (up : List Int) (least : Int) (f : Nat → Bool) (h n : Int) : List (List Int) := if n = 0 ∧ least ≤ h then [pickL up f true up.length] else []
/-- The sets that go on from a set that is begun, from element i on. -/
def lp (up : List Int) (must : Nat → Bool) (least most : Int) : Nat → (Nat → Bool) → Nat → Int → Int → List (List Int)
  | 0, _, _, _, _ => []
  | k + 1, f, i, h, n => if i < up.length ∧ least ≤ h + (up.length : Int) - (i : Int) then
      (if h + 1 + decN n (must i) ≤ most then ownS up least (setF f i) (h + 1) (decN n (must i)) ++ lp up must least most k (setF f i) (i + 1) (h + 1) (decN n (must i)) else []) ++
      (if must i = true then [] else lp up must least most k f (i + 1) h n) else []

end Go.Proofs.YtfcaemfledlnnaaGreatDoor.St

