/-
  What is proved here: what bits.made makes of right ranges.
-/
import Derived.Test.YtgcgomofmicchaaDoorXf
import Derived.Deep.RegionWith
namespace Go.Proofs.YtgcgomofmicchaaDoor
open Go.RowKit Go.Shelf

attribute [local go_sem] Oper.semAt_some

theorem Tryd.info90 : (Tryd.prog.info? 90).map (fun i => (i.zero, i.size)) = some (some (.agg (Array.replicate 1024 (.int .u64 0))), 1024) := by kernel_rfl

/-- The set at block b has room from f on, and the words ws. -/
def IsBits (W : World) (n₀ b : Nat) (f room : Int) (ws : List Nat) : Prop :=
  ∃ g c, n₀ ≤ b ∧ W.heap[b]? = some (.cells #[.int .i64 f, .int .i64 room, .slice (some ⟨g, 0, none⟩) ws.length c] 82 (0, 0)) ∧ W.ownsRow n₀ 59 1 (.slice (some ⟨g, 0, none⟩) ws.length c) ws.length (words ws)
def wordsOf (vs : List Int) (f : Int) (n : Nat) : List Nat := (List.range n).map (wd vs f)

/-- Block A is the array with the words of the values vs. -/
def Line (A : Nat) (f : Int) (vs : List Int) (W : World) : Prop := ∃ cur : Array Value, W.heap[A]? = some (.cells cur 90 (0, 0)) ∧ cur.size = 1024 ∧ ∀ k, k < 1024 → cur[k]? = some (.int .u64 (wd vs f k : Nat))
theorem line_own {β : Type} (A : Nat) (f : Int) (g : β → List Int) : Own (fun s W => Line A f (g s) W) := by
  rintro s X Y row ⟨cur, h, hs, hc⟩ hg hrow
  refine ⟨cur, (hg.block A (Array.getElem?_eq_some_iff.1 h).1 (fun e => ?_)).trans h, hs, hc⟩
  obtain ⟨o, ho, hoc⟩ := hrow A e.symm
  rw [h] at ho; cases ho; cases hoc
theorem Line.cell {A : Nat} {f : Int} {vs : List Int} {W : World} (h : Line A f vs W) (k : Nat) (hk : k < 1024) : W.cell? ⟨A, k, none⟩ = some (.int .u64 (wd vs f k : Nat)) ∧ W.frozen? ⟨A, k, none⟩ = false := by
  obtain ⟨cur, hh, hs, hc⟩ := h
  exact ⟨by rw [cell_row hh]; exact hc k hk, by simp [World.frozen?, hh]⟩

theorem wp_calm {P : Program} {c : Code} {K : Act → World → Prop} {Q : Exit → Act → World → Prop} {a : Act} {w : World} (h : c.wp P (Exit.then K (fun _ _ _ => False)) a w) : c.wp P (Exit.then K Q) a w :=
  wp_mono h (fun e a w h => by cases e <;> first | exact h | exact h.elim)
theorem own_base {W : World} {base b' e size n : Nat} {s : Value} {xs : List Value} (h : W.ownsRow base e size s n xs) (hb : b' ≤ base) : W.ownsRow b' e size s n xs := by
  refine ⟨h.1, ?_⟩
  rcases h.2 with h | ⟨g, cap, cur, e1, hg, r⟩
  · exact .inl h
  · exact .inr ⟨g, cap, cur, e1, Nat.le_trans hb hg, r⟩
theorem two_pow_lt {r : Nat} (h : r < 64) : 2 ^ r < 18446744073709551616 := Nat.pow_lt_pow_right (a := 2) (m := r) (n := 64) (by decide) h
theorem toNat64 (a : Nat) (ha : a < 18446744073709551616) : (BitVec.ofInt 64 (a : Int)).toNat = a := by rw [BitVec.toNat_ofInt]; omega
theorem bits_or (a b : Nat) (ha : a < 18446744073709551616) (hb : b < 18446744073709551616) : bits .or .u64 (a : Int) (b : Int) = ((a ||| b : Nat) : Int) := by
  show IntKind.u64.wrap ((BitVec.ofInt 64 (a : Int) ||| BitVec.ofInt 64 (b : Int)).toNat : Nat) = _
  rw [BitVec.toNat_or, toNat64 a ha, toNat64 b hb, IntKind.wrap_u64]
  have : a ||| b < 2 ^ 64 := Nat.or_lt_two_pow ha hb
  omega
theorem bits_and (a b : Nat) (ha : a < 18446744073709551616) (hb : b < 18446744073709551616) : bits .and .u64 (a : Int) (b : Int) = ((a &&& b : Nat) : Int) := by
  show IntKind.u64.wrap ((BitVec.ofInt 64 (a : Int) &&& BitVec.ofInt 64 (b : Int)).toNat : Nat) = _
  rw [BitVec.toNat_and, toNat64 a ha, toNat64 b hb, IntKind.wrap_u64]
  have : a &&& b ≤ a := Nat.and_le_left
  omega
theorem or_pow (a r : Nat) (ha : a < 18446744073709551616) (hr : r < 64) : bits .or .u64 (a : Int) (IntKind.u64.wrap (2 ^ r)) = ((a ||| 2 ^ r : Nat) : Int) := by
  have hp := two_pow_lt hr
  have : IntKind.u64.wrap ((2 : Int) ^ r) = ((2 ^ r : Nat) : Int) := by
    have e : ((2 : Int) ^ r) = ((2 ^ r : Nat) : Int) := by simp
    rw [e]
    generalize 2 ^ r = p at hp ⊢
    rw [IntKind.wrap_u64]; omega
  rw [this, bits_or a (2 ^ r) ha hp]
theorem row_set {W : World} {A : Nat} {cur : Array Value} {t : TypeId} (h : W.heap[A]? = some (.cells cur t (0, 0))) (q : Nat) (v : Value) : (W.setCell ⟨A, q, none⟩ v).heap[A]? = some (.cells (cur.setIfInBounds q v) t (0, 0)) := by
  obtain ⟨hlt, hk⟩ := Array.getElem?_eq_some_iff.1 h
  show (W.heap.modify A _)[A]? = _
  rw [Array.getElem?_eq_getElem (by rw [Array.size_modify]; exact hlt), Array.getElem_modify_self, hk]
  rfl
theorem Line.store {A : Nat} {f : Int} {vs : List Int} {W : World} (h : Line A f vs W) (x : Int) (q r wv : Nat) (hq : q = (x - f).toNat / 64) (hr : r = (x - f).toNat % 64) (hw : wd vs f q = wv) : Line A f (vs ++ [x]) ((W.setCell ⟨A, q, none⟩ (.int .u64 (bits .or .u64 (wv : Int) (IntKind.u64.wrap (2 ^ r))))).drew) := by
  obtain ⟨cur, hh, hs, hc⟩ := h
  refine ⟨_, row_set hh q _, by rw [Array.size_setIfInBounds]; exact hs, fun k hk => ?_⟩
  rw [or_pow wv r (by rw [← hw]; exact wd_lt vs f q) (by omega), wd_snoc, Array.getElem?_setIfInBounds]
  by_cases hqk : q = k
  · subst hqk
    rw [if_pos rfl, if_pos (by omega), if_pos hq.symm, hw, hr]
  · rw [if_neg hqk, if_neg (by omega)]; exact hc k hk
theorem boxed_set {W : World} {B A q : Nat} {t : TypeId} {v : Value} (h : Boxed W B t v) (hne : B ≠ A) (u : Value) : Boxed ((W.setCell ⟨A, q, none⟩ u).drew) B t v :=
  (show (W.setCell ⟨A, q, none⟩ u).heap[B]? = W.heap[B]? from Below.heap_setCell _ _ _ B hne).trans h
theorem kp_set (A q : Nat) (W : World) (v : Value) : Kp A W ((W.setCell ⟨A, q, none⟩ v).drew) :=
  ⟨(KeepsOthers.setCell W _ v).size, fun b o u hb hc => by
    show (W.setCell ⟨A, q, none⟩ v).cell? ⟨b, o, none⟩ = some u
    rw [← hc]
    have : (W.setCell ⟨A, q, none⟩ v).heap[b]? = W.heap[b]? := Below.heap_setCell _ _ _ b hb
    simp only [World.cell?, this]⟩

set_option maxRecDepth 100000 in
set_option maxHeartbeats 4000000 in
theorem made_some (f t : Int) (s : Value) (l : List Rg) (w : World) (h : Sr w s l) (hfr : FitsR l) (hR : Some' l) (h1 : -1000000 ≤ f) (h2 : t ≤ 1000000) (h3 : f ≤ t) (h4 : t - f + 1 ≤ 65536) (hin : ∀ v ∈ vals l, f ≤ v ∧ v ≤ t) :
    Calls Tryd.prog 44 #[.int .i64 f, .int .i64 t, s] w fun e w' => ∃ b, e = .returned (.tuple #[.pointer (some ⟨b, 0, none⟩), .int .i64 0]) ∧ IsBits w' w.heap.size b f (t - f + 1) (wordsOf (vals l) f ((t - f + 64) / 64).toNat) ∧ Below w.heap.size w w' := by
  refine (callsIn_wide (n := 6)).1 ?_
  refine callsIn_of_wp_marks Tryd.func44 rfl trivial ?_ rfl
  simp only [Tryd.ntmps44, List.size_toArray, List.length_cons, List.length_nil, Nat.reduceAdd, Nat.reduceSub, Array.replicate_succ, Array.replicate_zero, List.push_toArray, List.append_toArray, List.nil_append, List.cons_append]
  obtain ⟨hz, hzs⟩ := zero_of_info Tryd.info90
  obtain ⟨Z, hZ⟩ : ∃ Z : Array Value, Array.replicate 1024 (.int .u64 0) = Z := ⟨_, rfl⟩
  rw [hZ] at hz
  have hline : Line (w.heap.size + 1) f [] ((w.alloc (Obj.cells #[Value.int IntKind.i64 f] 2)).alloc (Obj.cells Z 90)) := by
    refine ⟨Z, ?_, by rw [← hZ]; simp, fun k hk => ?_⟩
    · have := World.alloc_heap_new (w.alloc (Obj.cells #[Value.int IntKind.i64 f] 2)) (Obj.cells Z 90); rwa [World.size_alloc] at this
    · rw [← hZ, wd_nil]; simp [hk]
  have hsum : (vals l).length < 10000000 := vals_short l hR.1
  have hd1 : decide (f < -1000000) = false := by simp; omega
  have hd2 : decide (1000000 < t) = false := by simp; omega
  have hd3 : decide (t < f) = false := by simp; omega
  have hd4 : decide (65536 < t - f + 1) = false := by simp; omega
  have hrs : ∀ i, i < l.length → -1000000 ≤ lo l i ∧ hi l i ≤ 1000000 ∧ lo l i ≤ hi l i := fun i hi => by have := hR.1.2 i hi; unfold OkAt at this; omega
  have hS1 : Sr ((w.alloc (Obj.cells #[Value.int IntKind.i64 f] 2)).alloc (Obj.cells Z 90)) s l := h.below (((Below.refl _ _).alloc (Nat.le_refl _) _).alloc (by simp) _)
  have hE := each_some s l _ hS1 hfr hR
  have HZ : Hid (Array.replicate 1024 (.int .u64 0) = Z) := hZ
  have HL : Hid (Line (w.heap.size + 1) f [] ((w.alloc (Obj.cells #[Value.int IntKind.i64 f] 2)).alloc (Obj.cells Z 90))) := hline
  clear hZ hzs hline hS1 h
  gi_wp2_with fail
  refine ⟨trivial, (callsIn_wide.2 hE).mono ?_⟩
  rintro e W0 ⟨B, g, cap, rfl, hBx, hgc, hB1, hg1, hB2, hg2, hb0⟩
  gi_wp2_with fail
  obtain ⟨N, hN⟩ : ∃ N, w.heap.size = N := ⟨_, rfl⟩
  have hb0' : Below N w W0 := by
    rw [← hN]; exact (((Below.refl _ w).alloc (Nat.le_refl _) _).alloc (by simp) _).trans (hb0.mono (by simp; omega))
  have bF : Boxed W0 N 2 (.int .i64 f) := by
    rw [← hN]
    have h9 : Boxed ((w.alloc (Obj.cells #[Value.int IntKind.i64 f] 2)).alloc (Obj.cells Z 90)) w.heap.size 2 (.int .i64 f) := (Boxed.new w 2 _).alloc _
    exact (hb0.block _ (by simp; omega)).trans h9
  have hL0 : Line (N + 1) f [] W0 := by
    obtain ⟨cur, c1, c2, c3⟩ := HL.out
    rw [← hN]
    exact ⟨cur, (hb0.block _ (by simp)).trans c1, c2, c3⟩
  rw [hN]
  simp only [World.size_alloc, hN] at hB1 hg1
  have hNw : N ≤ w.heap.size := by omega
  have hs0 : N + 2 ≤ W0.heap.size := by omega
  clear hb0 HL
  refine wpIn_rangeFunc_ownF (α := { x : Int // f ≤ x ∧ x ≤ t }) rfl (by decide) (gf := 79) (lb := #[.pointer (some ⟨B, 0, none⟩)]) rfl trivial (enters_of Tryd.func79 (by kernel_rfl) rfl)
    (encs := fun x => #[.int .i64 x.1]) (Kp := Kp (N + 1)) (S := fun xs => xs.map (·.1) = vals l) (Sp := fun _ => True) (N := 10000000) (w0 := W0)
    (fun lr J Jx W hW hJ _ hY h0 => (each1_in (p := fun x => f ≤ x ∧ x ≤ t) 5 (by decide) lr (N + 1) B g 0 cap l hrs hR.1.1 hin (by omega) (by omega) J Jx hY W hJ (by have := hW.size; omega) ((hW.cell (p := ⟨B, 0, none⟩) hB2).trans hBx.cell)
        (fun i hi => ⟨(hW.cell (p := ⟨g, 0 + i * 2, none⟩) hg2).trans (hgc i hi).1, (hW.cell (p := ⟨g, 0 + i * 2 + 1, none⟩) hg2).trans (hgc i hi).2⟩) hsum h0).mono
        (fun e W' ⟨he, hq⟩ => ⟨he, hq.imp id (fun ⟨pre, _, hj⟩ => ⟨pre, trivial, hj⟩)⟩))
    (fun h k => h.trans k) (fun W l o o' _ h h1 _ => Kp.put _ W l o o' h h1) (Below.refl _ _) (fun _ => rfl)
    (fun pre W => Line (N + 1) f (pre.map (·.1)) W ∧ Boxed W N 2 (.int .i64 f) ∧ Below N w W)
    (fun _ _ _ => False)
    (OwnFrom.and (Own.from (line_own _ _ _) _) (OwnFrom.and (Own.from (boxed_own _ _ _) _) (ownFrom_below hNw (by omega))))
    (fun c => ownFrom_pure _ _)
    ⟨by simpa using hL0, bF, hb0'⟩
    (fun x => { tmps := #[.int .i64 f, .int .i64 t, s, .pointer (some ⟨N, 0, none⟩), undef, undef, .pointer none, .int .i64 0, .int .i64 (t - f + 1), .pointer (some ⟨N + 1, 0, none⟩), .int .i64 x.1, undef, undef, .int .i64 f, .bool false, .bool false, .int .i64 t, .bool false, .bool false, .bool false, .int .i64 f, .int .i64 t, .bool false, .bool false, .int .i64 t, .int .i64 f, .int .i64 (t - f), .int .i64 (t - f + 1), .int .i64 (t - f + 1), .bool false, s, .func (.func 79) #[] #[.pointer (some ⟨B, 0, none⟩)], .int .i64 x.1, undef, undef, undef, undef, undef, undef, undef, undef, undef, undef, undef, undef, undef, undef, undef, undef, undef, undef, undef, undef, undef, undef, undef, undef], defers := [] })
    ?assign ?body ?done ?stop
  case assign =>
    intro l x W K hK
    gi_wp2
    exact hK
  case body =>
    rintro lr pre ⟨x, hx1, hx2⟩ W ⟨hL, hF, hB⟩ _
    obtain ⟨m, hm⟩ : ∃ m : Nat, x - f = (m : Int) := ⟨(x - f).toNat, by omega⟩
    have hm2 : m < 65536 := by omega
    obtain ⟨q, hq, hq2⟩ : ∃ q : Nat, (m : Int) / 64 = (q : Int) ∧ q = m / 64 := ⟨m / 64, by omega, rfl⟩
    obtain ⟨r, hr, hr2⟩ : ∃ r : Nat, (m : Int) % 64 = (r : Int) ∧ r = m % 64 := ⟨m % 64, by omega, rfl⟩
    have hq3 : q < 1024 := by omega
    have hr3 : r < 64 := by omega
    have HQ : Hid (q = m / 64) := hq2
    have HR' : Hid (r = m % 64) := hr2
    clear hq2 hr2
    obtain ⟨cL, fL⟩ := hL.cell q hq3
    obtain ⟨wv, hwv⟩ : ∃ wv, wd (pre.map (·.1)) f q = wv := ⟨_, rfl⟩
    rw [hwv] at cL
    have HWV : Hid (wd (pre.map (·.1)) f q = wv) := hwv
    clear hwv
    have cF := hF.cell
    have mixed : Tryd.prog.follows .mixedOrders = true := by kernel_rfl
    gi_wp2
    have hqw : IntKind.i64.wrap (q : Int) = (q : Int) := by rw [IntKind.wrap_i64]; omega
    have hrt : Int.tmod (m : Int) 64 = (r : Int) := by rw [Int.tmod_eq_emod_of_nonneg (by omega)]; exact hr
    have hq4 : (q : Int) < 1024 := by omega
    have hr4 : (r : Int) < 64 := by omega
    gi_region_with_o (fail)
    all_goals gi_wp2
    all_goals
      refine ⟨(KeepsOthers.setCell _ _ _).trans (KeepsOthers.drew _), kp_set _ _ _ _, ?_, ?_, ?_⟩
      · have hmm : (x - f).toNat = m := by omega
        rw [List.map_append]
        exact hL.store x q r wv (by rw [hmm]; exact HQ.out) (by rw [hmm]; exact HR'.out) HWV.out
      · exact boxed_set hF (by omega) _
      · exact (hB.setCell (p := ⟨N + 1, q, none⟩) (by show N ≤ N + 1; omega) _).drew
  case done =>
    rintro D xs W hD hS ⟨hL, hF, hB⟩ hK
    rw [hS] at hL
    have cF := hF.cell
    obtain ⟨nn, hnn⟩ : ∃ nn : Nat, (t - f + 1 + 64 - 1) / 64 = (nn : Int) := ⟨((t - f + 64) / 64).toNat, by omega⟩
    have hn1 : 1 ≤ nn := by omega
    have hn2 : (nn : Int) ≤ 1024 := by omega
    have hn3 : ((t - f + 64) / 64).toNat = nn := by omega
    have HN3 : Hid (((t - f + 64) / 64).toNat = nn) := hn3
    have mixed : Tryd.prog.follows .mixedOrders = true := by kernel_rfl
    have hwl : (wordsOf (vals l) f nn).length = nn := by simp [wordsOf]
    have hcl : Calls Tryd.prog 59 #[.slice (some ⟨N + 1, 0, none⟩) nn nn] W.drew fun e w' => ∃ g c, e = .returned (.slice (some ⟨g, 0, none⟩) nn c) ∧ w'.ownsRow W.drew.heap.size 59 1 (.slice (some ⟨g, 0, none⟩) nn c) nn (words (wordsOf (vals l) f nn)) ∧ Below W.drew.heap.size W.drew w' := by
      have h9 := clone64 (N + 1) 0 nn (wordsOf (vals l) f nn) W.drew (by rw [hwl]; omega) (fun i hi => by
        rw [hwl] at hi
        have := (hL.cell i (by omega)).1
        rw [Nat.zero_add]
        show W.cell? _ = _
        rw [this]; simp [wordsOf, hi])
      rw [hwl] at h9
      exact h9
    have hD2 : D < W.heap.size := (Array.getElem?_eq_some_iff.1 hK).1
    have hKd : W.drew.heap[D]? = some (.deferred (some [])) := hK
    have hBd : Below N w W.drew := hB.drew
    have hcFd : W.drew.cell? ⟨N, 0, none⟩ = some (.int .i64 f) := cF
    have hNd : N < W.drew.heap.size := hF.lt
    have HB : Hid (Below N w W.drew) := hBd
    have HWL : Hid ((wordsOf (vals l) f nn).length = nn) := hwl
    obtain ⟨ww, hww⟩ : ∃ ww, words (wordsOf (vals l) f nn) = ww := ⟨_, rfl⟩
    rw [hww] at hcl
    have HWW : Hid (words (wordsOf (vals l) f nn) = ww) := hww
    clear hww hwl hBd hn3 hK hB hL hin hrs hsum hE hBx hgc
    gi_wp2
    refine wpIn_wide.2 (wp_calm ?_)
    go_region_with (go_at_call 59; refine hcl.mono ?_; clear hcl; rintro e w1 ⟨g1, c1, rfl, hown, hb1⟩; have hcF1 := (hb1.cell (p := ⟨N, 0, none⟩) hNd).trans hcFd)
    all_goals gi_wp2
    all_goals
      have hs1 := hb1.size
      have hK1 : (w1.alloc (Obj.cells #[Value.int IntKind.i64 f, Value.int IntKind.i64 (t - f + 1), Value.slice (some ⟨g1, 0, none⟩) nn c1] 82)).heap[D]? = some (.deferred (some [])) :=
        (Below.heap_alloc w1 _ D (Nat.lt_of_lt_of_le hD2 hs1)).trans ((hb1.block D hD2).trans hKd)
      refine ⟨by simp, .inl ⟨_, _, rfl, run_takeDeferred hK1, ?_⟩⟩
      refine ⟨_, results_tmp2 (t := 6) (u := 7) rfl _ _ _, w1.heap.size, rfl, ?_, ?_⟩
      · rw [HN3.out]
        have hsz : N ≤ W.heap.size := by have := HB.out.size; simp at this; omega
        refine ⟨g1, c1, by simp at hs1; omega, ?_, ?_⟩
        · rw [HWL.out]
          exact ((grownBy_putObj' _ D (.deferred none)).block w1.heap.size (by simp) (by simp at hs1; simp; omega)).trans (World.alloc_heap_new w1 _)
        · rw [HWL.out, HWW.out]
          exact ownsRow_putObj ((own_base hown (by simp; omega)).alloc _) _ hK1 rfl
      · rw [hN]
        have hb9 : Below N w (w1.alloc (Obj.cells #[Value.int IntKind.i64 f, Value.int IntKind.i64 (t - f + 1), Value.slice (some ⟨g1, 0, none⟩) nn c1] 82)) :=
          (HB.out.trans (hb1.mono (by have := HB.out.size; omega))).alloc (by have := HB.out.size; omega) _
        exact hb9.trans (belowK_b (n₀ := N) (w := w) hNw _ D _ (.deferred none) (by omega) hK1 rfl rfl)
  case stop =>
    rintro D c pre W hD hS hF hK
    exact hF.elim
end Go.Proofs.YtgcgomofmicchaaDoor
