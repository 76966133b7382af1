/-
  What is proved here: what Ranges returns of a set: the runs of its values.
-/
import Derived.Test.YtgcgomofmicchaaDoorYb
import Derived.Maps.AppendAt
namespace Go.Proofs.YtgcgomofmicchaaDoor
open Go.RowKit Go.Shelf

attribute [local go_sem] Oper.semAt_some

theorem own_set {W : World} {base e size n g cap j : Nat} {xs : List Value} (h : W.ownsRow base e size (.slice (some ⟨g, 0, none⟩) n cap) n xs) (v : Value) : (W.setCell ⟨g, j, none⟩ v).ownsRow base e size (.slice (some ⟨g, 0, none⟩) n cap) n (xs.set j v) := by
  refine ⟨by rw [List.length_set]; exact h.1, ?_⟩
  rcases h.2 with ⟨e1, _⟩ | ⟨g', cap', cur, e1, hg, hgb, h1, h2, h3, h4⟩
  · cases e1
  · have e' := e1
    injection e' with e2 _ e3; injection e2 with e2; injection e2 with e2; subst e2; subst e3
    exact .inr ⟨g, cap, _, rfl, hg, row_set hgb j v, h1, h2, by rw [Array.size_setIfInBounds]; exact h3, by rw [Array.toList_setIfInBounds, List.take_set, h4]⟩
theorem own_frozen {W : World} {base e size n g cap : Nat} {xs : List Value} (h : W.ownsRow base e size (.slice (some ⟨g, 0, none⟩) n cap) n xs) (j : Nat) : W.frozen? ⟨g, j, none⟩ = false := by
  rcases h.2 with ⟨e1, _⟩ | ⟨g', cap', cur, e1, hg, hgb, _⟩
  · cases e1
  · injection e1 with e2 _ e3; injection e2 with e2; injection e2 with e2; subst e2
    simp [World.frozen?, hgb]
theorem own_ge {W : World} {base e size n g cap : Nat} {xs : List Value} (h : W.ownsRow base e size (.slice (some ⟨g, 0, none⟩) n cap) n xs) : base ≤ g ∧ g < W.heap.size := by
  rcases h.2 with ⟨e1, _⟩ | ⟨g', cap', cur, e1, hg, hgb, _⟩
  · cases e1
  · injection e1 with e2 _ e3; injection e2 with e2; injection e2 with e2; subst e2
    exact ⟨hg, (Array.getElem?_eq_some_iff.1 hgb).1⟩
theorem flat_set (o : List Rg) (i : Nat) (v : Int) (hi' : i < o.length) : (flat o).set (i * 2 + 1) (.int .i64 v) = flat (o.set i (lo o i, v)) := by
  induction o generalizing i with
  | nil => simp at hi'
  | cons a t ih =>
    have e : ∀ (a : Rg) (t : List Rg), flat (a :: t) = .int .i64 a.1 :: .int .i64 a.2 :: flat t := fun a t => by simp [flat]
    cases i with
    | zero => rw [List.set_cons_zero, e, e]; simp [lo]
    | succ i =>
      rw [List.set_cons_succ, e, e, show (i + 1) * 2 + 1 = i * 2 + 1 + 1 + 1 by omega, List.set_cons_succ, List.set_cons_succ, ih i (by simpa using hi')]
      have : lo (a :: t) (i + 1) = lo t i := by simp [lo]
      rw [this]
theorem flat_snoc (o : List Rg) (v : Int) : flat (o ++ [(v, v)]) = flat o ++ [.int .i64 v, .int .i64 v] := by unfold flat; rw [List.flatMap_append]; rfl
theorem cell_two_new (w : World) (x y : Value) (t : TypeId) : ∀ j u, [x, y][j]? = some u → (w.alloc (.cells #[x, y] t)).cell? ((⟨w.heap.size, 0, none⟩ : Addr).add j) = some u := by
  intro j u hj
  have h := World.alloc_heap_new w (.cells #[x, y] t)
  rw [Addr.add_lit, Nat.zero_add, cell_row h]
  simpa using hj

/-- The box O holds the ranges o. -/
def Outs (n₀ O : Nat) (o : List Rg) (W : World) : Prop := ∃ v, Boxed W O 22 v ∧ W.ownsRow n₀ 62 2 v o.length (flat o) ∧ (v = .slice none 0 0 ↔ o = [])
theorem outs_own {β : Type} (n₀ O : Nat) (f : β → List Rg) : Own (fun s W => Outs n₀ O (f s) W) := holdsRow_own n₀ O 22 62 2 (fun s => (f s).length) (fun s => flat (f s)) (fun s v => v = .slice none 0 0 ↔ f s = [])

theorem kb_of {B b g n₀ O : Nat} {W W' : World} (hO1 : O ≠ B) (hO2 : O ≠ b) (hO3 : O ≠ g) (hO0 : O ≠ 0) (hs : W.heap.size ≤ W'.heap.size) (h : ∀ k, k ≠ O → k < n₀ → W'.heap[k]? = W.heap[k]?) (h1 : B < n₀) (h2 : b < n₀) (h3 : g < n₀) (h0 : 0 < n₀) : Kb B b g W W' :=
  ⟨h B (Ne.symm hO1) h1, h b (Ne.symm hO2) h2, h g (Ne.symm hO3) h3, h 0 (Ne.symm hO0) h0, hs⟩

/-- What an append to the box's slice leaves. -/
theorem appended_at {X w1 : World} {n₀ O m : Nat} {v : Value} {gn capn : Nat} {tmp : Obj} {xs ys : List Value} (hv : Boxed X O 22 v) (hrow : X.ownsRow n₀ 62 2 v m xs) (hnX : n₀ ≤ X.heap.size)
    (hown' : w1.ownsRow n₀ 62 2 (.slice (some ⟨gn, 0, none⟩) (m + 1) capn) (m + 1) ys) (hgrow : (X.alloc tmp).grownBy w1 v.ownBlock) :
    Boxed w1 O 22 v ∧ (∀ B0 (W : World), Below B0 W X → B0 ≤ n₀ → B0 ≤ O → Below B0 W (w1.setCell ⟨O, 0, none⟩ (.slice (some ⟨gn, 0, none⟩) (m + 1) capn))) ∧ (KeepsOthers X (w1.setCell ⟨O, 0, none⟩ (.slice (some ⟨gn, 0, none⟩) (m + 1) capn)) ∧ X.heap.size ≤ (w1.setCell ⟨O, 0, none⟩ (.slice (some ⟨gn, 0, none⟩) (m + 1) capn)).heap.size ∧
      (∀ k, k ≠ O → k < n₀ → (w1.setCell ⟨O, 0, none⟩ (.slice (some ⟨gn, 0, none⟩) (m + 1) capn)).heap[k]? = X.heap[k]?) ∧ (w1.setCell ⟨O, 0, none⟩ (.slice (some ⟨gn, 0, none⟩) (m + 1) capn)).ownsRow n₀ 62 2 (.slice (some ⟨gn, 0, none⟩) (m + 1) capn) (m + 1) ys) := by
  have hv1 : Boxed w1 O 22 v := (hv.alloc tmp).kept hgrow (hv.not_row (by decide) hrow)
  have hob : ∀ j, v.ownBlock = some j → n₀ ≤ j ∧ ∃ o, X.heap[j]? = some o ∧ o.isCells = true := fun j ej => by
    rcases hrow.2 with ⟨rfl, _⟩ | ⟨gg, cap, cur, rfl, hb, hgb, _⟩
    · simp [Value.ownBlock] at ej
    · obtain rfl : gg = j := by simpa [Value.ownBlock] using ej
      exact ⟨hb, _, hgb, rfl⟩
  refine ⟨hv1, fun B0 W hB0 h1 h2 => ((hB0.alloc (Nat.le_trans h1 hnX) tmp).grown hgrow (by have := hB0.size; simp; omega) (fun j ej => Nat.le_trans h1 (hob j ej).1)).setCell (p := ⟨O, 0, none⟩) h2 _, ?_, ?_, fun k hk hkn => ?_, hown'.kept (grownBy_setCell' w1 O _) (.inr (hv1.not_row (by decide) hown').symm)⟩
  · refine ((KeepsOthers.alloc X tmp).trans (KeepsOthers.of_grownBy hgrow fun j o ej hj => ?_)).trans (KeepsOthers.setCell _ _ _)
    rcases (hrow.alloc tmp).2 with ⟨rfl, _⟩ | ⟨g, cap, cur, rfl, _, hgb, _⟩
    · simp [Value.ownBlock] at ej
    · obtain rfl : g = j := by simpa [Value.ownBlock] using ej
      rw [hgb] at hj; cases hj; rfl
  · have h1 := hgrow.size
    have h2 := (KeepsOthers.setCell w1 ⟨O, 0, none⟩ (.slice (some ⟨gn, 0, none⟩) (m + 1) capn)).size
    simp at h1; omega
  · refine (Below.heap_setCell _ _ _ k hk).trans ((hgrow.block k (by simp; omega) (fun e => ?_)).trans (Below.heap_alloc X tmp k (by omega)))
    have := (hob k e.symm).1; omega

set_option maxRecDepth 100000 in
set_option maxHeartbeats 8000000 in
theorem ranges_any (b g c : Nat) (f room : Int) (ws : List Nat) (W : World) (h : Bits W b g c f room ws) (hz : Sz f room ws) (hc : Cl room ws) (hT : Tab W) (hlen : (runs (bvs f room ws)).length ≤ 4096) :
    Calls Tryd.prog 27 #[.pointer (some ⟨b, 0, none⟩)] W fun e w' => ∃ s, e = .returned (.tuple #[s, .int .i64 0]) ∧ w'.ownsRow W.heap.size 62 2 s (runs (bvs f room ws)).length (flat (runs (bvs f room ws))) ∧ (s = .slice none 0 0 ↔ runs (bvs f room ws) = []) ∧ Below W.heap.size W w' := by
  refine (callsIn_wide (n := 6)).1 ?_
  refine callsIn_of_wp_marks Tryd.func27 rfl trivial ?_ rfl
  simp only [Tryd.ntmps27, List.size_toArray, List.length_cons, List.length_nil, Nat.reduceAdd, Nat.reduceSub, Array.replicate_succ, Array.replicate_zero, List.push_toArray, List.append_toArray, List.nil_append, List.cons_append]
  have hT0 := hT.1
  have hbl := h.b_lt; have hgl := h.g_lt
  gi_wp2_with fail
  obtain ⟨N, hN⟩ : ∃ N, W.heap.size = N := ⟨_, rfl⟩
  obtain ⟨Wa, hWa⟩ : ∃ Wa, (((W.alloc (Obj.cells #[Value.slice none 0 0] 22)).alloc (Obj.cells #[Value.int IntKind.i64 0] 25)).alloc (Obj.cells #[Value.slice none 0 0] 22)) = Wa := ⟨_, rfl⟩
  have hsa : Wa.heap.size = N + 3 := by rw [← hWa, ← hN]; simp
  have hba : Below N W Wa := by rw [← hWa, ← hN]; exact (((Below.refl _ W).alloc (Nat.le_refl _) _).alloc (by simp) _).alloc (by simp; omega) _
  have bR : Boxed Wa N 22 (.slice none 0 0) := by rw [← hWa, ← hN]; exact ((Boxed.new W 22 _).alloc _).alloc _
  have bE : Boxed Wa (N + 1) 25 (.int .i64 0) := by rw [← hWa, ← hN]; have h9 := Boxed.new (W.alloc (Obj.cells #[Value.slice none 0 0] 22)) 25 (.int .i64 0); rw [World.size_alloc] at h9; exact h9.alloc _
  have bO : Boxed Wa (N + 2) 22 (.slice none 0 0) := by rw [← hWa, ← hN]; have h9 := Boxed.new ((W.alloc (Obj.cells #[Value.slice none 0 0] 22)).alloc (Obj.cells #[Value.int IntKind.i64 0] 25)) 22 (.slice none 0 0); rw [World.size_alloc, World.size_alloc] at h9; exact h9
  rw [hWa]
  have hSa := h.below hba (by omega) (by omega)
  have hTa := hT.below hba (by omega)
  refine ⟨trivial, (callsIn_wide.2 (each2_any b g c f room ws Wa hSa hz)).mono ?_⟩
  rintro e W0 ⟨B, b', rfl, bB, hib, hB1, hb0⟩
  obtain ⟨g', c', hb1, hg1, hS0⟩ := hib.open
  rw [hsa] at hB1 hb1 hg1
  have hT0' := hTa.below hb0 (by omega)
  have hs0 := hb0.size
  have bR0 : Boxed W0 N 22 (.slice none 0 0) := (hb0.block N (by omega)).trans bR
  have bE0 : Boxed W0 (N + 1) 25 (.int .i64 0) := (hb0.block (N + 1) (by omega)).trans bE
  have bO0 : Boxed W0 (N + 2) 22 (.slice none 0 0) := (hb0.block (N + 2) (by omega)).trans bO
  have hbw : Below N W W0 := hba.trans (hb0.mono (by omega))
  have hB2 := bB.lt; have hb2 := hS0.b_lt; have hg2 := hS0.g_lt
  have hNw : N ≤ W.heap.size := by omega
  obtain ⟨n₀, hn₀⟩ : ∃ n₀, W0.heap.size = n₀ := ⟨_, rfl⟩
  have hlo := hz.lo; have hhi := hz.hi
  clear hib hb0 bR bE bO hba hSa hTa hWa h hT
  gi_wp2_with fail
  refine wpIn_rangeFunc_ownF (α := { x : Int // -1000000 ≤ x ∧ x ≤ 1000000 }) rfl (by decide) (gf := 72) (lb := #[.pointer (some ⟨B, 0, none⟩)]) rfl trivial (enters_of Tryd.func72 (by kernel_rfl) rfl)
    (encs := fun x => #[.int .i64 x.1]) (Kp := Kb B b' g') (S := fun xs => xs.map (·.1) = bvs f room ws) (Sp := fun pre => ∃ r, pre.map (·.1) ++ r = bvs f room ws) (N := 10000000) (w0 := W0)
    (fun lr J Jx X hX hJ _ hY h0 => each2_in (p := fun x => -1000000 ≤ x ∧ x ≤ 1000000) 5 (by decide) lr B b' g' c' f room ws hz hc (fun v hv => by have := has_fits hv; omega) J Jx hY X hJ ((hX.block B hB2).trans bB) (hS0.below hX hb2 hg2) (hT0'.below hX (by omega)) h0)
    (fun h k => h.trans k) (fun X l o o' hl _ _ _ => Kb.put B b' g' X l W0.heap.size o' hB2 hb2 hg2 (by omega) hl) (Below.refl _ _) (fun _ => rfl)
    (fun pre X => Outs n₀ (N + 2) (runs (pre.map (·.1))) X ∧ (runs (pre.map (·.1))).length ≤ 4096 ∧ Boxed X N 22 (.slice none 0 0) ∧ Boxed X (N + 1) 25 (.int .i64 0) ∧ Below N W X ∧ n₀ ≤ X.heap.size)
    (fun c pre _ => c = .ret ∧ 4096 < (runs (pre.map (·.1))).length)
    (OwnFrom.and (Own.from (outs_own _ _ _) _) (OwnFrom.and (ownFrom_pure _ _) (OwnFrom.and (Own.from (boxed_own _ _ _) _) (OwnFrom.and (Own.from (boxed_own _ _ _) _) (OwnFrom.and (ownFrom_below hNw (by omega)) (fun s A B row hs hg hr => Nat.le_trans hs hg.size))))))
    (fun c => OwnFrom.and (ownFrom_pure _ _) (ownFrom_pure _ _))
    ⟨⟨_, bO0, World.ownsRow_nil _ _ _ _, by simp [runs]⟩, by simp [runs], bR0, bE0, hbw, by omega⟩
    (fun x => { tmps := #[.pointer (some ⟨b, 0, none⟩), undef, .pointer (some ⟨N, 0, none⟩), .pointer (some ⟨N + 1, 0, none⟩), .pointer (some ⟨N + 1 + 1, 0, none⟩), .int .i64 x.1, undef, .pointer (some ⟨b, 0, none⟩), .bool false, .pointer (some ⟨b, 0, none⟩), .func (.func 72) #[] #[.pointer (some ⟨B, 0, none⟩)], .int .i64 x.1, undef, undef, undef, undef, undef, undef, undef, undef, undef, undef, undef, undef, undef, undef, undef, undef, undef, undef, undef, undef, undef, undef, undef, undef, undef, undef, undef, undef, undef, undef, undef, undef], defers := [] })
    ?assign ?body ?done ?stop
  case assign =>
    intro l x X K hK
    gi_wp2
    exact hK
  case body =>
    rintro lr pre ⟨x, hx1, hx2⟩ X ⟨⟨v, hv, hrow, hnil⟩, hle, hR, hE, hB, hnX⟩ _
    obtain ⟨o, ho⟩ : ∃ o, runs (pre.map (·.1)) = o := ⟨_, rfl⟩
    have HO : Hid (runs (pre.map (·.1)) = o) := ho
    rw [ho] at hrow hnil hle
    clear ho
    have cv := hv.cell
    have fv := hv.frozen
    by_cases h0 : 0 < o.length
    · obtain ⟨go, co, rfl, _, _, hcells⟩ := own_some hrow h0
      obtain ⟨hg0, hgX⟩ := own_ge hrow
      obtain ⟨d1, d2⟩ := flat_even o (o.length - 1) (by omega)
      have e2 := hcells _ _ d2
      have fz := own_frozen hrow ((o.length - 1) * 2 + 1)
      obtain ⟨m, hm⟩ : ∃ m, o.length = m := ⟨_, rfl⟩
      have HM : Hid (o.length = m) := hm
      obtain ⟨y, hy⟩ : ∃ y, hi o (o.length - 1) = y := ⟨_, rfl⟩
      have HY : Hid (hi o (o.length - 1) = y) := hy
      rw [hy] at e2
      rw [hm] at h0 hle e2 fz cv
      have hlast : (m : Int) - 1 = ((m - 1 : Nat) : Int) := by omega
      have hd0 : decide (0 ≤ (m : Int) - 1) = true := by simp; omega
      have hm4 : (m : Int) ≤ 4096 := by omega
      clear d1 d2 hm hy hcells
      by_cases hA : y = x - 1
      · have hstep : step o x = o.set (o.length - 1) (lo o (o.length - 1), x) := by unfold step; rw [if_pos ⟨by rw [HM.out]; exact h0, by rw [HY.out]; exact hA⟩]
        have HST : Hid (step o x = o.set (o.length - 1) (lo o (o.length - 1), x)) := hstep
        clear hstep
        gi_wp2
        refine ⟨KeepsOthers.setCell _ _ _, kb_of (n₀ := n₀) (O := N + 2) (by omega) (by omega) (by omega) (by omega) (KeepsOthers.setCell X _ _).size (fun k _ hk => Below.heap_setCell _ _ _ k (show k ≠ go by omega)) (by omega) (by omega) (by omega) (by omega), ?_, ?_, ?_, ?_, ?_, ?_⟩
        · rw [List.map_append, List.map_singleton, runs_snoc, HO.out, HST.out]
          have h9 := own_set (j := (o.length - 1) * 2 + 1) hrow (.int .i64 x)
          rw [flat_set o (o.length - 1) x (by rw [HM.out]; omega), HM.out] at h9
          refine ⟨.slice (some ⟨go, 0, none⟩) m co, ?_, ?_, ?_⟩
          · rw [← HM.out]; exact (Below.heap_setCell _ _ _ (N + 2) (show N + 2 ≠ go by omega)).trans hv
          · rw [List.length_set, HM.out]; exact h9
          · constructor
            · intro e; cases e
            · intro e; have := congrArg List.length e; rw [List.length_set, HM.out] at this; simp at this; omega
        · rw [List.map_append, List.map_singleton, runs_snoc, HO.out, HST.out, List.length_set, HM.out]; exact hle
        · exact (Below.heap_setCell _ _ _ N (show N ≠ go by omega)).trans hR
        · exact (Below.heap_setCell _ _ _ (N + 1) (show N + 1 ≠ go by omega)).trans hE
        · exact hB.setCell (p := ⟨go, _, none⟩) (by show N ≤ go; omega) _
        · exact Nat.le_trans hnX (KeepsOthers.setCell X _ _).size
      · have hstep : step o x = o ++ [(x, x)] := by unfold step; rw [if_neg (fun h => hA (by rw [← HY.out]; exact h.2))]
        have HST : Hid (step o x = o ++ [(x, x)]) := hstep
        have hdA : (y == x - 1) = false := by simp; omega
        clear hstep hA
        by_cases hF : m = 4096
        · have hF' : ((m : Int) == 4096) = true := by simp; omega
          have hcR := hR.cell; have hfR := hR.frozen; have hcE := hE.cell; have hfE := hE.frozen
          have HF : Hid (m = 4096) := hF
          clear hF
          gi_wp2
          refine ⟨(KeepsOthers.setCell _ _ _).trans (KeepsOthers.setCell _ _ _), rfl, ?_⟩
          rw [List.map_append, List.map_singleton, runs_snoc, HO.out, HST.out, List.length_append, HM.out, HF.out]; simp
        · have hF' : ((m : Int) == 4096) = false := by simp; omega
          obtain ⟨i0, hi0, hz0, hz1, hz2⟩ := info_parts Tryd.info62
          have hlm : m + 1 ≤ 4096 := by omega
          rw [HM.out] at hrow hv
          gi_wp2_with (gi_at_builtin; refine wpListIn_append_own _ rfl _ _ 22 rfl n₀ 62 i0 (.agg #[.int .i64 0, .int .i64 0]) 2 16 Tryd.underlying22 hi0 hz0 hz1 hz2 rfl (by decide) _ _ _ rfl (hrow.alloc _) ⟨X.heap.size, 0, none⟩ 1 1 [.int .i64 x, .int .i64 x] rfl rfl (cell_two_new _ _ _ _) (by simp [Value.oneCell']) (by unfold maxLen; omega) (by omega) (by simp; omega) ?_; intro v' w1 hown' hgrow _; obtain ⟨gn, capn, rfl⟩ := ownsRow_succ hown'; obtain ⟨hv1, hbl1, hw1⟩ := appended_at hv hrow hnX hown' hgrow; have hc1 := hv1.cell; have hf1 := hv1.frozen)
          refine ⟨hw1.1, kb_of (n₀ := n₀) (O := N + 2) (by omega) (by omega) (by omega) (by omega) hw1.2.1 hw1.2.2.1 (by omega) (by omega) (by omega) (by omega), ?_, ?_, ?_, ?_, ?_, ?_⟩
          · rw [List.map_append, List.map_singleton, runs_snoc, HO.out, HST.out]
            refine ⟨_, hv1.set _, ?_, ?_⟩
            · rw [List.length_append, HM.out, flat_snoc]; exact hw1.2.2.2
            · simp
          · rw [List.map_append, List.map_singleton, runs_snoc, HO.out, HST.out, List.length_append, HM.out]; simp; omega
          · exact (hw1.2.2.1 N (by omega) (by omega)).trans hR
          · exact (hw1.2.2.1 (N + 1) (by omega) (by omega)).trans hE
          · exact hbl1 N W hB (by omega) (by omega)
          · exact Nat.le_trans hnX hw1.2.1
    · obtain rfl : o = [] := List.eq_nil_of_length_eq_zero (by omega)
      have hvn : v = .slice none 0 0 := hnil.2 rfl
      subst hvn
      have HST : Hid (step [] x = [] ++ [(x, x)]) := rfl
      obtain ⟨i0, hi0, hz0, hz1, hz2⟩ := info_parts Tryd.info62
      clear hnil
      gi_wp2_with (gi_at_builtin; refine wpListIn_append_own _ rfl _ _ 22 rfl n₀ 62 i0 (.agg #[.int .i64 0, .int .i64 0]) 2 16 Tryd.underlying22 hi0 hz0 hz1 hz2 rfl (by decide) _ _ _ rfl (hrow.alloc _) ⟨X.heap.size, 0, none⟩ 1 1 [.int .i64 x, .int .i64 x] rfl rfl (cell_two_new _ _ _ _) (by simp [Value.oneCell']) (by unfold maxLen; omega) (by omega) (by simp; omega) ?_; intro v' w1 hown' hgrow _; obtain ⟨gn, capn, rfl⟩ := ownsRow_succ hown'; obtain ⟨hv1, hbl1, hw1⟩ := appended_at hv hrow hnX hown' hgrow; have hc1 := hv1.cell; have hf1 := hv1.frozen)
      refine ⟨hw1.1, kb_of (n₀ := n₀) (O := N + 2) (by omega) (by omega) (by omega) (by omega) hw1.2.1 hw1.2.2.1 (by omega) (by omega) (by omega) (by omega), ?_, ?_, ?_, ?_, ?_, ?_⟩
      · rw [List.map_append, List.map_singleton, runs_snoc, HO.out, HST.out]
        refine ⟨_, hv1.set _, ?_, ?_⟩
        · rw [List.length_append, flat_snoc]; exact hw1.2.2.2
        · simp
      · rw [List.map_append, List.map_singleton, runs_snoc, HO.out, HST.out]; simp
      · exact (hw1.2.2.1 N (by omega) (by omega)).trans hR
      · exact (hw1.2.2.1 (N + 1) (by omega) (by omega)).trans hE
      · exact hbl1 N W hB (by omega) (by omega)
      · exact Nat.le_trans hnX hw1.2.1
  case done =>
    rintro D xs X hD hS ⟨⟨v, hv, hrow, hnil⟩, hle, hR, hE, hB, hnX⟩ hK
    rw [hS] at hrow hnil hle
    obtain ⟨va, vn, vc, rfl⟩ : ∃ a n c, v = .slice a n c := by
      rcases hrow.2 with ⟨e, _⟩ | ⟨q1, q2, q3, e, _⟩
      · exact ⟨_, _, _, e⟩
      · exact ⟨_, _, _, e⟩
    have hcv := hv.cell
    have hcR := hR.cell; have hfR := hR.frozen; have hcE := hE.cell; have hfE := hE.frozen
    gi_wp2
    have hK1 : ((X.setCell ⟨N, 0, none⟩ (.slice va vn vc)).setCell ⟨N + 1, 0, none⟩ (.int .i64 0)).heap[D]? = some (.deferred (some [])) := ((KeepsOthers.setCell X ⟨N, 0, none⟩ (.slice va vn vc)).trans (KeepsOthers.setCell _ ⟨N + 1, 0, none⟩ (.int .i64 0))).same D _ hK rfl
    have bR1 : Boxed ((X.setCell ⟨N, 0, none⟩ (.slice va vn vc)).setCell ⟨N + 1, 0, none⟩ (.int .i64 0)) N 22 (.slice va vn vc) := (hR.set _).other (by omega) _
    have bE1 : Boxed ((X.setCell ⟨N, 0, none⟩ (.slice va vn vc)).setCell ⟨N + 1, 0, none⟩ (.int .i64 0)) (N + 1) 25 (.int .i64 0) := (hE.other (by omega) _).set _
    have hgp := grownBy_putObj' ((X.setCell ⟨N, 0, none⟩ (.slice va vn vc)).setCell ⟨N + 1, 0, none⟩ (.int .i64 0)) D (.deferred none)
    have cR1 := cell_kept bR1.cell hgp (fun r e => by cases e; exact ⟨_, hK1, rfl⟩)
    have cE1 := cell_kept bE1.cell hgp (fun r e => by cases e; exact ⟨_, hK1, rfl⟩)
    refine ⟨by simp, .inl ⟨_, _, rfl, run_takeDeferred hK1, ?_⟩⟩
    refine ⟨.tuple #[.slice va vn vc, .int .i64 0], by simp [results, Tryd.results27, go_sem, cR1, cE1], _, rfl, ?_, hnil, ?_⟩
    · have h1 := own_base hrow (show N ≤ n₀ by omega)
      have h2 := h1.kept (grownBy_setCell' X N (.slice va vn vc)) (.inr (hR.not_row (by decide) h1).symm)
      have h3 := h2.kept (grownBy_setCell' _ (N + 1) (.int .i64 0)) (.inr ((hE.other (by omega) (.slice va vn vc)).not_row (by decide) h2).symm)
      rw [hN]
      exact ownsRow_putObj h3 _ hK1 rfl
    · rw [hN]
      have hb9 := (hB.setCell (p := ⟨N, 0, none⟩) (Nat.le_refl _) (.slice va vn vc)).setCell (p := ⟨N + 1, 0, none⟩) (by show N ≤ N + 1; omega) (.int .i64 0)
      exact hb9.trans (belowK_b (n₀ := N) (w := W) hNw _ D _ (.deferred none) (by omega) hK1 rfl rfl)
  case stop =>
    rintro D c pre X hD ⟨r, hr⟩ ⟨_, hF⟩ hK
    have := runs_mono (pre.map (·.1)) r
    rw [hr] at this
    omega
end Go.Proofs.YtgcgomofmicchaaDoor
