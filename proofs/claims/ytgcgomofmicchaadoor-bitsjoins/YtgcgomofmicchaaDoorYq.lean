/-
  What is proved here: what bits.New makes.
-/
import Derived.Test.YtgcgomofmicchaaDoorXr
namespace Go.Proofs.YtgcgomofmicchaaDoor
open Go.RowKit Go.Shelf

attribute [local go_sem] Oper.semAt_some

set_option maxHeartbeats 400000 in
theorem each_none (w : World) :
    Calls Tryd.prog 75 #[.slice none 0 0] w fun e w' => ∃ B, e = .returned (.func (.func 79) #[] #[.pointer (some ⟨B, 0, none⟩)]) ∧ Boxed w' B 22 (.slice none 0 0) ∧ w.heap.size ≤ B ∧ B < w'.heap.size ∧ Below w.heap.size w w' := by
  have hc := known_yes (.slice none 0 0) [] w ⟨none, 0, rfl, fun h => absurd h (by decide)⟩ (fun i hi => absurd hi (by simp)) ⟨by simp, fun i hi => absurd hi (by simp)⟩
  have hmf : ∀ (fn : Fn) (first cap : Array Value) (w : World), (Instr.makeFunc fn first cap).run Tryd.prog w = .ok (.func fn first cap) w := fun _ _ _ _ => rfl
  go_enter Tryd.func75, Tryd.ntmps75
  go_wp2_with (first | (go_at_call 74; refine hc.mono ?_; clear hc; rintro e w1 ⟨rfl, hb1⟩) | (go_at_call 78; refine (clone_nil _ _ _).mono ?_; rintro e w2 ⟨rfl, rfl⟩))
  go_ret
  have h1 := hb1.size
  exact ⟨_, rfl, Boxed.new _ _ _, h1, by simp, hb1.alloc h1 _⟩

set_option maxRecDepth 100000 in
set_option maxHeartbeats 1000000 in
theorem each1_nil (n : Nat) (_hn : 1 ≤ n) (lr B : Nat) (J : List Empty → World → Prop) (W : World) (hB : W.cell? ⟨B, 0, none⟩ = some (.slice none 0 0)) (h0 : J [] W) :
    CallsIn Fence.wide n Tryd.prog 79 #[.func (.yield lr) #[] #[], .pointer (some ⟨B, 0, none⟩)] W fun e W' => (∃ v, e = .returned v) ∧ ((∃ ys : List Empty, True ∧ J ys W') ∨ (∃ _pre : List Empty, True ∧ False)) := by
  refine callsIn_of_wp Tryd.func79 rfl trivial ?_ rfl
  simp only [Tryd.ntmps79, List.size_toArray, List.length_cons, List.length_nil, Nat.reduceAdd, Nat.reduceSub, Array.replicate_succ, Array.replicate_zero, List.push_toArray, List.append_toArray, List.nil_append, List.cons_append]
  gi_wp2
  gi_loopw [8] (fun i wr => i = .int .i64 0 ∧ wr = W) (fun _ _ => 0)
  case atStart => exact ⟨rfl, rfl⟩
  case round =>
    obtain ⟨rfl, rfl⟩ := hrel
    gi_wp2
    go_end0
    exact ⟨⟨_, rfl⟩, .inl ⟨[], trivial, h0⟩⟩

set_option maxRecDepth 100000 in
set_option maxHeartbeats 4000000 in
theorem made_nil (f t : Int) (w : World) (h1 : -1000000 ≤ f) (h2 : t ≤ 1000000) (h3 : f ≤ t) (h4 : t - f + 1 ≤ 65536) :
    Calls Tryd.prog 44 #[.int .i64 f, .int .i64 t, .slice none 0 0] w fun e w' => ∃ b, e = .returned (.tuple #[.pointer (some ⟨b, 0, none⟩), .int .i64 0]) ∧ IsBits w' w.heap.size b f (t - f + 1) (wordsOf (([] : List Int)) f ((t - f + 64) / 64).toNat) ∧ Below w.heap.size w w' := by
  refine (callsIn_wide (n := 6)).1 ?_
  refine callsIn_of_wp_marks Tryd.func44 rfl trivial ?_ rfl
  simp only [Tryd.ntmps44, List.size_toArray, List.length_cons, List.length_nil, Nat.reduceAdd, Nat.reduceSub, Array.replicate_succ, Array.replicate_zero, List.push_toArray, List.append_toArray, List.nil_append, List.cons_append]
  obtain ⟨hz, hzs⟩ := zero_of_info Tryd.info90
  obtain ⟨Z, hZ⟩ : ∃ Z : Array Value, Array.replicate 1024 (.int .u64 0) = Z := ⟨_, rfl⟩
  rw [hZ] at hz
  have hline : Line (w.heap.size + 1) f [] ((w.alloc (Obj.cells #[Value.int IntKind.i64 f] 2)).alloc (Obj.cells Z 90)) := by
    refine ⟨Z, ?_, by rw [← hZ]; simp, fun k hk => ?_⟩
    · have := World.alloc_heap_new (w.alloc (Obj.cells #[Value.int IntKind.i64 f] 2)) (Obj.cells Z 90); rwa [World.size_alloc] at this
    · rw [← hZ, wd_nil]; simp [hk]
  have hd1 : decide (f < -1000000) = false := by simp; omega
  have hd2 : decide (1000000 < t) = false := by simp; omega
  have hd3 : decide (t < f) = false := by simp; omega
  have hd4 : decide (65536 < t - f + 1) = false := by simp; omega
  have hE := each_none ((w.alloc (Obj.cells #[Value.int IntKind.i64 f] 2)).alloc (Obj.cells Z 90))
  have HZ : Hid (Array.replicate 1024 (.int .u64 0) = Z) := hZ
  have HL : Hid (Line (w.heap.size + 1) f [] ((w.alloc (Obj.cells #[Value.int IntKind.i64 f] 2)).alloc (Obj.cells Z 90))) := hline
  clear hZ hzs hline
  gi_wp2_with fail
  refine ⟨trivial, (callsIn_wide.2 hE).mono ?_⟩
  rintro e W0 ⟨B, rfl, hBx, hB1, hB2, hb0⟩
  gi_wp2_with fail
  obtain ⟨N, hN⟩ : ∃ N, w.heap.size = N := ⟨_, rfl⟩
  have hb0' : Below N w W0 := by
    rw [← hN]; exact (((Below.refl _ w).alloc (Nat.le_refl _) _).alloc (by simp) _).trans (hb0.mono (by simp; omega))
  have bF : Boxed W0 N 2 (.int .i64 f) := by
    rw [← hN]
    have h9 : Boxed ((w.alloc (Obj.cells #[Value.int IntKind.i64 f] 2)).alloc (Obj.cells Z 90)) w.heap.size 2 (.int .i64 f) := (Boxed.new w 2 _).alloc _
    exact (hb0.block _ (by simp; omega)).trans h9
  have hL0 : Line (N + 1) f [] W0 := by
    obtain ⟨cur, c1, c2, c3⟩ := HL.out
    rw [← hN]
    exact ⟨cur, (hb0.block _ (by simp)).trans c1, c2, c3⟩
  rw [hN]
  simp only [World.size_alloc, hN] at hB1
  have hNw : N ≤ w.heap.size := by omega
  have hs0 : N + 2 ≤ W0.heap.size := by omega
  clear hb0 HL
  refine wpIn_rangeFunc_ownF (α := Empty) rfl (by decide) (gf := 79) (lb := #[.pointer (some ⟨B, 0, none⟩)]) rfl trivial (enters_of Tryd.func79 (by kernel_rfl) rfl)
    (encs := fun x => x.elim) (Kp := fun _ _ => True) (S := fun _ => True) (Sp := fun _ => False) (N := 0) (w0 := W0)
    (fun lr J Jx W hW _ _ _ h0 => (each1_nil 5 (by decide) lr B J W ((hW.cell (p := ⟨B, 0, none⟩) hB2).trans hBx.cell) h0).mono (fun e W' ⟨he, hq⟩ => ⟨he, hq.imp id (fun ⟨_, _, hj⟩ => hj.elim)⟩))
    (fun _ _ => trivial) (fun _ _ _ _ _ _ _ _ => trivial) (Below.refl _ _) (fun x => x.elim)
    (fun _ W => Line (N + 1) f [] W ∧ Boxed W N 2 (.int .i64 f) ∧ Below N w W)
    (fun _ _ _ => False)
    (OwnFrom.and (Own.from (line_own _ _ (fun _ => [])) _) (OwnFrom.and (Own.from (boxed_own _ _ _) _) (ownFrom_below hNw (by omega))))
    (fun c => ownFrom_pure _ _)
    ⟨hL0, bF, hb0'⟩
    (fun x => x.elim)
    ?assign ?body ?done ?stop
  case assign => intro l x; exact x.elim
  case body => intro l pre x; exact x.elim
  case stop => rintro D c pre W hD hS; exact hS.elim
  case done =>
    rintro D xs W hD _ ⟨hL, hF, hB⟩ hK
    have cF := hF.cell
    obtain ⟨nn, hnn⟩ : ∃ nn : Nat, (t - f + 1 + 64 - 1) / 64 = (nn : Int) := ⟨((t - f + 64) / 64).toNat, by omega⟩
    have hn1 : 1 ≤ nn := by omega
    have hn2 : (nn : Int) ≤ 1024 := by omega
    have hn3 : ((t - f + 64) / 64).toNat = nn := by omega
    have HN3 : Hid (((t - f + 64) / 64).toNat = nn) := hn3
    have mixed : Tryd.prog.follows .mixedOrders = true := by kernel_rfl
    have hwl : (wordsOf (([] : List Int)) f nn).length = nn := by simp [wordsOf]
    have hcl : Calls Tryd.prog 59 #[.slice (some ⟨N + 1, 0, none⟩) nn nn] W.drew fun e w' => ∃ g c, e = .returned (.slice (some ⟨g, 0, none⟩) nn c) ∧ w'.ownsRow W.drew.heap.size 59 1 (.slice (some ⟨g, 0, none⟩) nn c) nn (words (wordsOf (([] : List Int)) f nn)) ∧ Below W.drew.heap.size W.drew w' := by
      have h9 := clone64 (N + 1) 0 nn (wordsOf (([] : List Int)) f nn) W.drew (by rw [hwl]; omega) (fun i hi => by
        rw [hwl] at hi
        have := (hL.cell i (by omega)).1
        rw [Nat.zero_add]
        show W.cell? _ = _
        rw [this]; simp [wordsOf, hi])
      rw [hwl] at h9
      exact h9
    have hD2 : D < W.heap.size := (Array.getElem?_eq_some_iff.1 hK).1
    have hKd : W.drew.heap[D]? = some (.deferred (some [])) := hK
    have hBd : Below N w W.drew := hB.drew
    have hcFd : W.drew.cell? ⟨N, 0, none⟩ = some (.int .i64 f) := cF
    have hNd : N < W.drew.heap.size := hF.lt
    have HB : Hid (Below N w W.drew) := hBd
    have HWL : Hid ((wordsOf (([] : List Int)) f nn).length = nn) := hwl
    obtain ⟨ww, hww⟩ : ∃ ww, words (wordsOf (([] : List Int)) f nn) = ww := ⟨_, rfl⟩
    rw [hww] at hcl
    have HWW : Hid (words (wordsOf (([] : List Int)) f nn) = ww) := hww
    clear hww hwl hBd hn3 hK hB hL hE hBx
    gi_wp2
    refine wpIn_wide.2 (wp_calm ?_)
    go_region_with (go_at_call 59; refine hcl.mono ?_; clear hcl; rintro e w1 ⟨g1, c1, rfl, hown, hb1⟩; have hcF1 := (hb1.cell (p := ⟨N, 0, none⟩) hNd).trans hcFd)
    all_goals gi_wp2
    all_goals
      have hs1 := hb1.size
      have hK1 : (w1.alloc (Obj.cells #[Value.int IntKind.i64 f, Value.int IntKind.i64 (t - f + 1), Value.slice (some ⟨g1, 0, none⟩) nn c1] 82)).heap[D]? = some (.deferred (some [])) :=
        (Below.heap_alloc w1 _ D (Nat.lt_of_lt_of_le hD2 hs1)).trans ((hb1.block D hD2).trans hKd)
      refine ⟨by simp, .inl ⟨_, _, rfl, run_takeDeferred hK1, ?_⟩⟩
      refine ⟨_, results_tmp2 (t := 6) (u := 7) rfl _ _ _, w1.heap.size, rfl, ?_, ?_⟩
      · rw [HN3.out]
        have hsz : N ≤ W.heap.size := by have := HB.out.size; simp at this; omega
        refine ⟨g1, c1, by simp at hs1; omega, ?_, ?_⟩
        · rw [HWL.out]
          exact ((grownBy_putObj' _ D (.deferred none)).block w1.heap.size (by simp) (by simp at hs1; simp; omega)).trans (World.alloc_heap_new w1 _)
        · rw [HWL.out, HWW.out]
          exact ownsRow_putObj ((own_base hown (by simp; omega)).alloc _) _ hK1 rfl
      · rw [hN]
        have hb9 : Below N w (w1.alloc (Obj.cells #[Value.int IntKind.i64 f, Value.int IntKind.i64 (t - f + 1), Value.slice (some ⟨g1, 0, none⟩) nn c1] 82)) :=
          (HB.out.trans (hb1.mono (by have := HB.out.size; omega))).alloc (by have := HB.out.size; omega) _
        exact hb9.trans (belowK_b (n₀ := N) (w := w) hNw _ D _ (.deferred none) (by omega) hK1 rfl rfl)
end Go.Proofs.YtgcgomofmicchaaDoor
