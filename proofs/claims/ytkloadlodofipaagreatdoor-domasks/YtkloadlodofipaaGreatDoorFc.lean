/-
  What is proved here: the walk of DomAsks.
-/
import Derived.Test.YtkloadlodofipaaGreatDoorFb
import Derived.Test.YtkloadlodofipaaGreatDoorYo
namespace Go.Proofs.YtkloadlodofipaaGreatDoor
open Go.RowKit Go.Shelf
set_option linter.unusedVariables false

attribute [local go_sem] Oper.semAt_some

/-- A range over a function whose rounds begin with one assignment. -/
theorem ranged {α : Type} {g : Operand} {ps : Array Tmp} {assign body : Code} {Q : Exit → Act → World → Prop} {a : Act} {w : World} {gf : Nat} {lb : Array Value} (hg : a.eval g = .func (.func gf) #[] lb) (eg : ∀ args w, (callFunc gf args).run Tryz.prog w = .ok (.enter gf args) w)
    {encs : α → Array Value} {Kp : World → World → Prop} {S Sp : List α → Prop} {N : Nat} {w0 : World} (hseq : SeqStopsK Fence.wide 5 Tryz.prog gf lb encs Kp S Sp N w0)
    (hKt : ∀ {A B C : World}, Kp A B → Kp B C → Kp A C) (hKb : ∀ (W : World) (l : Nat) (o o' : Obj), w.heap.size ≤ l → W.heap[l]? = some o → o.isCells = false → o.isWalk = false → Kp W (W.putObj l o')) (hb0 : Below w0.heap.size w0 w) (hps : ∀ x, (encs x).size = ps.size)
    (I : List α → World → Prop) (Ix : Code → List α → World → Prop) (hI : OwnFrom w.heap.size I) (hIx : ∀ c, OwnFrom w.heap.size (Ix c)) (h0 : I [] w) (k : Tmp) (v : α → Value)
    (hassign : ∀ (l : Nat) (x : α) (W : World) (K : Act → World → Prop), K { tmps := ((ps.zip (encs x)).foldl (fun t (p, v) => t.setIfInBounds p v) a.tmps).setIfInBounds k (v x), defers := [] } W →
      assign.wpIn (Fence.wide.inRound l) 4 Tryz.prog (Exit.then K (fun _ _ _ => False)) { tmps := (ps.zip (encs x)).foldl (fun t (p, v) => t.setIfInBounds p v) a.tmps, defers := [] } W)
    (hbody : ∀ (l : Nat) (pre : List α) (x : α) (W : World), I pre W → pre.length < N → body.wpIn (Fence.wide.inRound l) 4 Tryz.prog (ownPostK Kp I Ix (pre ++ [x]) W) { tmps := ((ps.zip (encs x)).foldl (fun t (p, v) => t.setIfInBounds p v) a.tmps).setIfInBounds k (v x), defers := [] } W)
    (hdone : ∀ (D : Nat) (xs : List α) (W : World), w.heap.size ≤ D → S xs → I xs W → W.heap[D]? = some (.deferred (some [])) → Q .normal { a with defers := { target := .collected D, args := #[] } :: a.defers } W)
    (hstop : ∀ (D : Nat) (c : Code) (pre : List α) (W : World), w.heap.size ≤ D → Sp pre → Ix c pre W → W.heap[D]? = some (.deferred (some [])) → c.wpIn Fence.wide 6 Tryz.prog Q { a with defers := { target := .collected D, args := #[] } :: a.defers } W) :
    (Code.rangeFunc g ps assign body).wpIn Fence.wide 6 Tryz.prog Q a w :=
  wpIn_rangeFunc_ownF (n := 6) rfl (by decide) hg trivial eg hseq (fun h k => hKt h k) hKb hb0 hps I Ix hI hIx h0 (fun x => { tmps := ((ps.zip (encs x)).foldl (fun t (p, v) => t.setIfInBounds p v) a.tmps).setIfInBounds k (v x), defers := [] }) hassign hbody hdone hstop

theorem kp_cell (A q : Nat) (W : World) (v : Value) : Kp A W (W.setCell ⟨A, q, none⟩ v) :=
  ⟨(KeepsOthers.setCell W _ v).size, fun b o u hb hc => by
    rw [← hc]
    have : (W.setCell ⟨A, q, none⟩ v).heap[b]? = W.heap[b]? := Below.heap_setCell _ _ _ b hb
    simp only [World.cell?, this]⟩
theorem told_wrong {vs pre : List Int} {x : Int} (h5 : pre.length < 500) (hx : pre.length < (vs.take 500).length → (vs.take 500)[pre.length]?.getD 0 ≠ x) : ¬ ∃ r, (pre ++ [x]) ++ r = vs := by
  rintro ⟨r, rfl⟩
  have hl : pre.length < ((pre ++ [x] ++ r).take 500).length := by rw [List.length_take]; simp; omega
  refine hx hl ?_
  rw [List.getElem?_take_of_lt h5]
  simp
theorem told_next {vs pre : List Int} {x : Int} (hp : pre = (vs.take 500).take pre.length) (hl : pre.length < (vs.take 500).length) (hx : (vs.take 500)[pre.length]?.getD 0 = x) : pre ++ [x] = (vs.take 500).take (pre.length + 1) := by
  rw [List.take_add_one, ← hp, List.getElem?_eq_getElem hl]
  rw [List.getElem?_eq_getElem hl] at hx
  simp at hx ⊢
  exact hx.symm
theorem told_all {vs : List Int} (hp : vs = (vs.take 500).take vs.length) : (vs.take 500).length = vs.length := by
  have h1 := congrArg List.length hp
  rw [List.length_take, List.length_take] at h1
  rw [List.length_take]; omega

set_option maxRecDepth 100000 in
set_option maxHeartbeats 8000000 in
theorem asks_walk (s : Value) (l : List Rg) (v : Int) (W : World) (h : Sr W s l) (hf : FitsR l) (hr : l.length * 16 ≤ 140737488351232) (hM : MaxL W) (hT : Tens W.heap.size W) :
    Calls Tryz.prog 4 #[s, .int .i64 v] W fun e w' => e = .returned (.bool true) ∧ Below W.heap.size W w' := by
  refine (callsIn_wide (n := 6)).1 ?_
  refine callsIn_of_wp_marks Tryz.func4 rfl trivial ?_ rfl
  simp only [Tryz.ntmps4, List.size_toArray, List.length_cons, List.length_nil, Nat.reduceAdd, Nat.reduceSub, Array.replicate_succ, Array.replicate_zero, List.push_toArray, List.append_toArray, List.nil_append, List.cons_append]
  have hM0 := hM.1
  have HM : Hid (MaxL W) := hM
  have HT : Hid (Tens W.heap.size W) := hT
  have HF : Hid (FitsR l) := hf
  have HS : Hid (Sr W s l) := h
  have HR16 : Hid (l.length * 16 ≤ 140737488351232) := hr
  obtain ⟨a, cap, rfl, _⟩ := h
  obtain ⟨N, hN⟩ : ∃ N, W.heap.size = N := ⟨_, rfl⟩
  clear hM hT hf hr
  gi_wp2_with fail
  obtain ⟨Wa, hWa⟩ : ∃ Wa, W.alloc (Obj.cells #[Value.bool false] 4) = Wa := ⟨_, rfl⟩
  have hsa : Wa.heap.size = N + 1 := by rw [← hWa, ← hN]; simp
  have hba : Below N W Wa := by rw [← hWa, ← hN]; exact (Below.refl _ W).alloc (Nat.le_refl _) _
  have bR : Boxed Wa N 4 (.bool false) := by rw [← hWa, ← hN]; exact Boxed.new W 4 _
  have HSa : Hid (∀ X, Below Wa.heap.size Wa X → Sr X (.slice a l.length cap) l) := fun X hX => HS.out.below (by rw [hN]; exact hba.trans (hX.mono (by omega)))
  rw [hWa]
  clear hWa
  refine ⟨trivial, (callsIn_wide.2 (lentR_any _ l _ (HSa.out _ (Below.refl _ _)) HR16.out)).mono ?_⟩
  rintro e w1 ⟨g, c, rfl, hc1, hc2, hrow, hb1⟩
  have HSl : Hid (∀ X, Below w1.heap.size w1 X → Sr X (.slice a l.length cap) l) := fun X hX => HSa.out X (hb1.trans (hX.mono hb1.size))
  have HSo : Hid (∀ X, Below w1.heap.size w1 X → Sr X (.slice (some ⟨g, 0, none⟩) l.length c) l) := fun X hX => (lent_sr hrow).below hX
  have HROW : Hid _ := hrow
  have HC : Hid (l.length + 1 ≤ c ∧ c ≤ 9223372036854775807) := ⟨hc1, hc2⟩
  have HB1 : Hid (Below Wa.heap.size Wa w1) := hb1
  have HBR : Hid (Boxed Wa N 4 (.bool false)) := bR
  have HBA : Hid (Below N W Wa) := hba
  have k23 := fun X hX => dommin_any _ l X (HSo.out X hX) HF.out
  have k24 := fun X hX => refmin_any _ l X (HSl.out X hX)
  have k25 := fun X hX => dommax_any _ l X (HSo.out X hX) HF.out
  have k26 := fun X hX => refmax_any _ l X (HSl.out X hX)
  have k27 := fun X hX => domnext_any _ l v X (HSo.out X hX) HF.out
  have k28 := fun X hX => refnext_any _ l v X (HSl.out X hX)
  have k29 := fun X hX => domhas_any _ l v X (HSo.out X hX) HF.out
  have k30 := fun X hX => refhas_any _ l v X (HSl.out X hX)
  have k31 := fun X hX => domsize_any _ l X (HSo.out X hX) HF.out
  have k32 := fun X hX => refsize_any _ l X (HSl.out X hX)
  obtain ⟨m1, em1⟩ : ∃ m, (stp (vals (tk l)) 0).1 = m := ⟨_, rfl⟩
  obtain ⟨m2, em2⟩ : ∃ m, (stp (vals (tk l)) 0).2 = m := ⟨_, rfl⟩
  obtain ⟨m3, em3⟩ : ∃ m, (maxR l).1 = m := ⟨_, rfl⟩
  obtain ⟨m4, em4⟩ : ∃ m, (maxR l).2 = m := ⟨_, rfl⟩
  obtain ⟨m5, em5⟩ : ∃ m, (nextR (tk l) v).1 = m := ⟨_, rfl⟩
  obtain ⟨m6, em6⟩ : ∃ m, (nextR (tk l) v).2 = m := ⟨_, rfl⟩
  obtain ⟨m7, em7⟩ : ∃ m, hasV l v = m := ⟨_, rfl⟩
  obtain ⟨m8, em8⟩ : ∃ m, sizeR (tk l) = m := ⟨_, rfl⟩
  simp only [em1, em2] at k23 k24
  simp only [em3, em4] at k25 k26
  simp only [em5, em6] at k27 k28
  simp only [em7] at k29 k30
  simp only [em8] at k31 k32
  clear em1 em2 em3 em4 em5 em6 em7 em8 hb1 hrow bR hc1 hc2
  gi_wp2_with fail
  refine ⟨trivial, (callsIn_wide.2 (k23 _ (Below.refl _ _))).mono ?_⟩
  clear k23
  rintro e w2 ⟨rfl, hb2⟩
  gi_wp2_with fail
  refine ⟨trivial, (callsIn_wide.2 (k24 _ hb2)).mono ?_⟩
  clear k24
  rintro e w3 ⟨rfl, hb3⟩
  replace hb3 : Below w1.heap.size w1 w3 := hb2.trans (hb3.mono hb2.size)
  clear hb2
  gi_wp2_with fail
  refine ⟨trivial, (callsIn_wide.2 (k25 _ hb3)).mono ?_⟩
  clear k25
  rintro e w2 ⟨rfl, hb2⟩
  replace hb2 : Below w1.heap.size w1 w2 := hb3.trans (hb2.mono hb3.size)
  clear hb3
  gi_wp2_with fail
  refine ⟨trivial, (callsIn_wide.2 (k26 _ hb2)).mono ?_⟩
  clear k26
  rintro e w3 ⟨rfl, hb3⟩
  replace hb3 : Below w1.heap.size w1 w3 := hb2.trans (hb3.mono hb2.size)
  clear hb2
  gi_wp2_with fail
  refine ⟨trivial, (callsIn_wide.2 (k27 _ hb3)).mono ?_⟩
  clear k27
  rintro e w2 ⟨rfl, hb2⟩
  replace hb2 : Below w1.heap.size w1 w2 := hb3.trans (hb2.mono hb3.size)
  clear hb3
  gi_wp2_with fail
  refine ⟨trivial, (callsIn_wide.2 (k28 _ hb2)).mono ?_⟩
  clear k28
  rintro e w3 ⟨rfl, hb3⟩
  replace hb3 : Below w1.heap.size w1 w3 := hb2.trans (hb3.mono hb2.size)
  clear hb2
  gi_wp2_with fail
  refine ⟨trivial, (callsIn_wide.2 (k29 _ hb3)).mono ?_⟩
  clear k29
  rintro e w2 ⟨rfl, hb2⟩
  replace hb2 : Below w1.heap.size w1 w2 := hb3.trans (hb2.mono hb3.size)
  clear hb3
  gi_wp2_with fail
  refine ⟨trivial, (callsIn_wide.2 (k30 _ hb2)).mono ?_⟩
  clear k30
  rintro e w3 ⟨rfl, hb3⟩
  replace hb3 : Below w1.heap.size w1 w3 := hb2.trans (hb3.mono hb2.size)
  clear hb2
  gi_wp2_with fail
  refine ⟨trivial, (callsIn_wide.2 (k31 _ hb3)).mono ?_⟩
  clear k31
  rintro e w2 ⟨rfl, hb2⟩
  replace hb2 : Below w1.heap.size w1 w2 := hb3.trans (hb2.mono hb3.size)
  clear hb3
  gi_wp2_with fail
  refine ⟨trivial, (callsIn_wide.2 (k32 _ hb2)).mono ?_⟩
  clear k32
  rintro e w3 ⟨rfl, hb3⟩
  replace hb3 : Below w1.heap.size w1 w3 := hb2.trans (hb3.mono hb2.size)
  clear hb2
  gi_wp2_with fail
  refine ⟨trivial, (callsIn_wide.2 (refvalues_any _ l 500 w3 (HSl.out _ hb3) (by decide))).mono ?_⟩
  rintro e w4 ⟨sw, rfl, hrow, hb4⟩
  have HWR : Hid (w4.ownsRow w3.heap.size 2 1 sw ((vals (tk l)).take 500).length (nums ((vals (tk l)).take 500))) := hrow
  obtain ⟨ow, n, oc, rfl, hn⟩ : ∃ ow n oc, sw = .slice ow n oc ∧ ((vals (tk l)).take 500).length = n := by
    rcases hrow.2 with ⟨e1, e2⟩ | ⟨g', cap', cur, e1, _⟩
    · exact ⟨none, 0, 0, e1, e2⟩
    · exact ⟨_, _, _, e1, rfl⟩
  have HN : Hid (((vals (tk l)).take 500).length = n) := hn
  have hb4' : Below w1.heap.size w1 w4 := hb3.trans (hb4.mono hb3.size)
  clear hrow hn
  gi_wp2_with fail
  obtain ⟨M, hMs⟩ : ∃ M, w4.heap.size = M := ⟨_, rfl⟩
  obtain ⟨w5, hw5⟩ : ∃ w5, ((w4.alloc (Obj.cells #[Value.slice ow n oc] 22)).alloc (Obj.cells #[Value.int IntKind.i64 0] 3)) = w5 := ⟨_, rfl⟩
  have hs5 : w5.heap.size = M + 2 := by rw [← hw5, ← hMs]; simp
  have hb5 : Below M w4 w5 := by rw [← hw5, ← hMs]; exact ((Below.refl _ w4).alloc (Nat.le_refl _) _).alloc (by simp) _
  have bW : Boxed w5 M 22 (.slice ow n oc) := by rw [← hw5, ← hMs]; exact (Boxed.new w4 22 _).alloc _
  have bI : Boxed w5 (M + 1) 3 (.int .i64 0) := by rw [← hw5, ← hMs]; have h9 := Boxed.new (w4.alloc (Obj.cells #[Value.slice ow n oc] 22)) 3 (.int .i64 0); rw [World.size_alloc] at h9; exact h9
  have hb15 : Below w1.heap.size w1 w5 := hb4'.trans (hb5.mono (by have := hb4'.size; omega))
  simp only [hMs]
  rw [hw5]
  clear hw5
  refine ⟨trivial, (callsIn_wide.2 (each_any _ l w5 (HSo.out _ hb15) HF.out)).mono ?_⟩
  rintro e w6 ⟨B, s6, rfl, hBx, hrow6, hBge, hb6⟩
  have hnf : ∀ (w : World) (cap : Array Value), (binOp .eql 45 (.func (.func 65) #[] cap) .nilFunc).run Tryz.prog w = .ok (.bool false) w := fun w cap => rfl
  have hb46 : Below M w4 w6 := hb5.trans (hb6.mono (by omega))
  have bW6 : Boxed w6 M 22 (.slice ow n oc) := (hb6.block _ (by omega)).trans bW
  have bI6 : Boxed w6 (M + 1) 3 (.int .i64 0) := (hb6.block _ (by omega)).trans bI
  have hs6 : M + 2 ≤ w6.heap.size := by have := hb6.size; omega
  have hseq := each_seq (M + 1) B w5.heap.size s6 (tk l) w6 (tk_right l) hBx hrow6 (by omega) (by omega) (by omega)
  obtain ⟨vs, hvs⟩ : ∃ vs, vals (tk l) = vs := ⟨_, rfl⟩
  rw [hvs] at HWR HN hseq
  have HSEQ : Hid _ := hseq
  have hn5 : n = min 500 vs.length := by rw [← HN.out, List.length_take]
  have hM4 : M ≤ w4.heap.size := Nat.le_of_eq hMs.symm
  have hwc : ∀ k, k < n → ∃ g, ow = some ⟨g, 0, none⟩ ∧ g < M ∧ w4.cell? ⟨g, k, none⟩ = some (.int .i64 ((vs.take 500)[k]?.getD 0)) := fun k hk => by
    have h9 := HWR.out
    rw [HN.out] at h9
    obtain ⟨g, c, e, _, hlt, hcell⟩ := own_some h9 (by omega)
    injection e with e1 _ _
    refine ⟨g, e1, by omega, hcell k _ ?_⟩
    exact nums_get _ k (by rw [HN.out]; exact hk)
  have HWC : Hid (∀ k, k < n → ∃ g, ow = some ⟨g, 0, none⟩ ∧ g < M ∧ w4.cell? ⟨g, k, none⟩ = some (.int .i64 ((vs.take 500)[k]?.getD 0))) := hwc
  have mixed : Tryz.prog.follows .mixedOrders = true := by kernel_rfl
  clear hseq hb5 bW bI hb15 hvs hBx hrow6 hb6 hwc
  gi_wp2_with fail
  refine ranged (α := AnyI) (gf := 65) (lb := #[.pointer (some ⟨B, 0, none⟩)]) rfl (enters_of Tryz.func65 (by kernel_rfl) rfl) HSEQ.out (fun h k => h.trans k) (fun W l o o' _ h h1 _ => Kp.put _ W l o o' h h1) (Below.refl _ _) (fun _ => rfl)
    (fun pre X => Below M w4 X ∧ Boxed X M 22 (.slice ow n oc) ∧ Boxed X (M + 1) 3 (.int .i64 pre.length) ∧ pre.map (·.1) = (vs.take 500).take pre.length ∧ pre.length ≤ n)
    (fun c pre X => (c = .exit 0 ∧ Below M w4 X ∧ Boxed X M 22 (.slice ow n oc) ∧ Boxed X (M + 1) 3 (.int .i64 n)) ∨ (c = .ret ∧ ¬ ∃ r, pre.map (·.1) ++ r = vs))
    (OwnFrom.and (ownFrom_below hM4 (by omega)) (OwnFrom.and (Own.from (boxed_own _ _ _) _) (OwnFrom.and (Own.from (boxed_own _ _ _) _) (OwnFrom.and (ownFrom_pure _ _) (ownFrom_pure _ _)))))
    (fun c s X Y row hs hg hr => hs.elim (fun h => .inl (OwnFrom.and (ownFrom_pure _ (fun _ => c = .exit 0)) (OwnFrom.and (ownFrom_below hM4 (by omega)) (OwnFrom.and (Own.from (boxed_own M 22 (fun _ => .slice ow n oc)) _) (Own.from (boxed_own (M + 1) 3 (fun _ => .int .i64 n)) _))) s X Y row h hg hr)) .inr)
    ⟨hb46, bW6, bI6, by simp, Nat.zero_le _⟩ 21 (fun x => .int .i64 x.1)
    ?assign ?body ?done ?stop
  case assign =>
    intro l x W K hK
    unfold encI at hK ⊢
    gi_wp2
    simpa using hK
  case body =>
    rintro lr pre ⟨x, _⟩ X ⟨hB, hW, hI, hpre, hle⟩ _
    unfold encI
    simp only [List.zip_toArray, List.zip_cons_cons, List.zip_nil_right, List.foldl_toArray', List.foldl_cons, List.foldl_nil, List.setIfInBounds_toArray, List.set_cons_zero, List.set_cons_succ]
    have cI := hI.cell
    have fI := hI.frozen
    have cW := hW.cell
    have hpl : (pre.map (·.1)).length = pre.length := List.length_map ..
    obtain ⟨q, hq⟩ : ∃ q, pre.length = q := ⟨_, rfl⟩
    have HQ : Hid (pre.length = q) := hq
    rw [hq] at cI hle hpl
    have HPRE : Hid (pre.map (·.1) = (vs.take 500).take pre.length) := hpre
    have HPL : Hid ((pre.map (·.1)).length = q) := hpl
    have bN : Boxed X N 4 (.bool false) := (hB.block _ (by have := HB1.out.size; have := hb4'.size; omega)).trans ((hb4'.block _ (by have := HB1.out.size; omega)).trans ((HB1.out.block _ (by omega)).trans HBR.out))
    have cN := bN.cell
    have fN := bN.frozen
    clear hpre hq hpl
    by_cases h5 : q < 500
    · have hd5 : decide (500 ≤ (q : Int)) = false := by simp; omega
      by_cases hlt : q < n
      · have hdn : decide ((n : Int) ≤ (q : Int)) = false := by simp; omega
        obtain ⟨gw, rfl, hgw, hcw⟩ := HWC.out q hlt
        have dW := (hB.cell (p := ⟨gw, q, none⟩) hgw).trans hcw
        obtain ⟨z, hz⟩ : ∃ z, (vs.take 500)[q]?.getD 0 = z := ⟨_, rfl⟩
        have HZ : Hid ((vs.take 500)[q]?.getD 0 = z) := hz
        rw [hz] at dW
        have hlt' : (q : Int) < (n : Int) := by omega
        clear hcw hz
        by_cases hx : z = x
        · subst hx
          gi_wp2
          refine ⟨KeepsOthers.setCell _ _ _, kp_cell _ _ _ _, hB.setCell (p := ⟨M + 1, 0, none⟩) (by show M ≤ M + 1; omega) _, hW.other (by omega) _, ?_, ?_, ?_⟩
          · rw [List.length_append, HQ.out]; exact hI.set _
          · rw [List.map_append, List.map_singleton, List.length_append, HQ.out, ← HPL.out]
            exact told_next (by rw [HPL.out, ← HQ.out]; exact HPRE.out) (by rw [HPL.out, HN.out]; exact hlt) (by rw [HPL.out]; exact HZ.out)
          · rw [List.length_append, HQ.out]; simp; omega
        · have hx' : decide (z = x) = false := by simpa using hx
          have hx2 : (z == x) = false := by simpa using hx
          have hx3 : (z != x) = true := by simpa using hx
          gi_wp2
          refine ⟨KeepsOthers.setCell _ _ _, .inr ⟨rfl, ?_⟩⟩
          rw [List.map_append, List.map_singleton]
          exact told_wrong (by rw [HPL.out]; exact h5) (fun _ => by rw [HPL.out, HZ.out]; exact hx)
      · have hdn : decide ((n : Int) ≤ (q : Int)) = true := by simp; omega
        gi_wp2
        refine ⟨KeepsOthers.setCell _ _ _, .inr ⟨rfl, ?_⟩⟩
        rw [List.map_append, List.map_singleton]
        exact told_wrong (by rw [HPL.out]; exact h5) (fun h9 => by rw [HPL.out, HN.out] at h9; omega)
    · have hd5 : decide (500 ≤ (q : Int)) = true := by simp; omega
      obtain rfl : q = n := by omega
      gi_wp2
      rw [HQ.out] at hI
      exact ⟨KeepsOthers.refl _, .inl ⟨rfl, hB, hW, hI⟩⟩
  case done =>
    rintro D xs X hD hS ⟨hB, hW, hI, hpre, hle⟩ hK
    have hxl : xs.length = n := by
      have e1 : (xs.map (·.1)).length = xs.length := List.length_map ..
      rw [hS] at e1 hpre
      rw [← e1] at hpre
      rw [← e1, ← told_all hpre, HN.out]
    rw [hxl] at hI
    clear hpre hle hS
    have hwx : Below w1.heap.size w1 X := hb4'.trans (hB.mono (by have := hb4'.size; omega))
    have hD2 : D < X.heap.size := (Array.getElem?_eq_some_iff.1 hK).1
    have hX4 : w4.heap.size ≤ X.heap.size := hB.size
    have h14 := hb4'.size
    have h1a := HB1.out.size
    have HNW : Hid (∀ Y, Below X.heap.size X Y → Below N W Y) := fun Y hY => HBA.out.trans ((HB1.out.trans ((hwx.trans (hY.mono (by omega))).mono h1a)).mono (by omega))
    have HWX : Hid (Below w1.heap.size w1 X) := hwx
    have bN : Boxed X N 4 (.bool false) := (hwx.block _ (by omega)).trans ((HB1.out.block _ (by omega)).trans HBR.out)
    have HBN : Hid (Boxed X N 4 (.bool false)) := bN
    have HK : Hid (X.heap[D]? = some (.deferred (some []))) := hK
    have cI := hI.cell
    have cW := hW.cell
    clear hK hwx bN
    gi_wp2_with fail
    refine ⟨trivial, (callsIn_wide.2 (keptR_any g c _ l X (own_base (own_keepB HROW.out HWX.out) (Nat.zero_le _)) HC.out.1 HC.out.2 (HSl.out _ HWX.out) HR16.out)).mono ?_⟩
    rintro e X1 ⟨rfl, hb1⟩
    gi_wp2_with fail
    have hNX1 : Below W.heap.size W X1 := by rw [hN]; exact HNW.out _ hb1
    refine ⟨trivial, (callsIn_wide.2 (known22 _ (HM.out.below hNX1 hM0) (Tens.here HT.out hNX1))).mono ?_⟩
    rintro e X2 ⟨rfl, hb2⟩
    have hb12 : Below X.heap.size X X2 := hb1.trans (hb2.mono hb1.size)
    have bN2 : Boxed X2 N 4 (.bool false) := (hb12.block _ (by omega)).trans HBN.out
    have cN2 := bN2.cell
    have fN2 := bN2.frozen
    gi_wp2
    have hK2 : X2.heap[D]? = some (.deferred (some [])) := (hb12.block D hD2).trans HK.out
    have hK3 : (X2.setCell ⟨N, 0, none⟩ (.bool true)).heap[D]? = some (.deferred (some [])) := (KeepsOthers.setCell X2 ⟨N, 0, none⟩ (.bool true)).same D _ hK2 rfl
    have hgp := grownBy_putObj' (X2.setCell ⟨N, 0, none⟩ (.bool true)) D (.deferred none)
    have cN3 := cell_kept (bN2.set (.bool true)).cell hgp (fun r e => by cases e; exact ⟨_, hK3, rfl⟩)
    refine ⟨by simp, .inl ⟨_, _, rfl, run_takeDeferred hK3, ?_⟩⟩
    refine ⟨.bool true, by simp [results, Tryz.results4, go_sem, cN3], rfl, ?_⟩
    rw [hN]
    exact ((HNW.out _ hb12).setCell (p := ⟨N, 0, none⟩) (Nat.le_refl _) _).trans (belowK_b (n₀ := N) (w := W) (by omega) _ D _ (.deferred none) (by have := hb4'.size; omega) hK3 rfl rfl)
  case stop =>
    rintro D cc pre X hD ⟨r, hr⟩ hx hK
    rcases hx with ⟨rfl, hB, hW, hI⟩ | ⟨_, hx⟩
    case inr => exact absurd ⟨r, hr⟩ hx
    have hwx : Below w1.heap.size w1 X := hb4'.trans (hB.mono (by have := hb4'.size; omega))
    have hD2 : D < X.heap.size := (Array.getElem?_eq_some_iff.1 hK).1
    have hX4 : w4.heap.size ≤ X.heap.size := hB.size
    have h14 := hb4'.size
    have h1a := HB1.out.size
    have HNW : Hid (∀ Y, Below X.heap.size X Y → Below N W Y) := fun Y hY => HBA.out.trans ((HB1.out.trans ((hwx.trans (hY.mono (by omega))).mono h1a)).mono (by omega))
    have HWX : Hid (Below w1.heap.size w1 X) := hwx
    have bN : Boxed X N 4 (.bool false) := (hwx.block _ (by omega)).trans ((HB1.out.block _ (by omega)).trans HBR.out)
    have HBN : Hid (Boxed X N 4 (.bool false)) := bN
    have HK : Hid (X.heap[D]? = some (.deferred (some []))) := hK
    have cI := hI.cell
    have cW := hW.cell
    clear hK hwx bN
    gi_wp2_with fail
    refine ⟨trivial, (callsIn_wide.2 (keptR_any g c _ l X (own_base (own_keepB HROW.out HWX.out) (Nat.zero_le _)) HC.out.1 HC.out.2 (HSl.out _ HWX.out) HR16.out)).mono ?_⟩
    rintro e X1 ⟨rfl, hb1⟩
    gi_wp2_with fail
    have hNX1 : Below W.heap.size W X1 := by rw [hN]; exact HNW.out _ hb1
    refine ⟨trivial, (callsIn_wide.2 (known22 _ (HM.out.below hNX1 hM0) (Tens.here HT.out hNX1))).mono ?_⟩
    rintro e X2 ⟨rfl, hb2⟩
    have hb12 : Below X.heap.size X X2 := hb1.trans (hb2.mono hb1.size)
    have bN2 : Boxed X2 N 4 (.bool false) := (hb12.block _ (by omega)).trans HBN.out
    have cN2 := bN2.cell
    have fN2 := bN2.frozen
    gi_wp2
    have hK2 : X2.heap[D]? = some (.deferred (some [])) := (hb12.block D hD2).trans HK.out
    have hK3 : (X2.setCell ⟨N, 0, none⟩ (.bool true)).heap[D]? = some (.deferred (some [])) := (KeepsOthers.setCell X2 ⟨N, 0, none⟩ (.bool true)).same D _ hK2 rfl
    have hgp := grownBy_putObj' (X2.setCell ⟨N, 0, none⟩ (.bool true)) D (.deferred none)
    have cN3 := cell_kept (bN2.set (.bool true)).cell hgp (fun r e => by cases e; exact ⟨_, hK3, rfl⟩)
    refine ⟨by simp, .inl ⟨_, _, rfl, run_takeDeferred hK3, ?_⟩⟩
    refine ⟨.bool true, by simp [results, Tryz.results4, go_sem, cN3], rfl, ?_⟩
    rw [hN]
    exact ((HNW.out _ hb12).setCell (p := ⟨N, 0, none⟩) (Nat.le_refl _) _).trans (belowK_b (n₀ := N) (w := W) (by omega) _ D _ (.deferred none) (by have := hb4'.size; omega) hK3 rfl rfl)
end Go.Proofs.YtkloadlodofipaaGreatDoor
