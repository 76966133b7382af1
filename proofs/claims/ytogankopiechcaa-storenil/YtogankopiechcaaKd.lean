/-
  What is proved here: what package kinds and store answer of domains of whole numbers: empty, what is in both.
-/
import Derived.Test.YtogankopiechcaaKc
namespace Go.Proofs.Ytogankopiechcaa
open Go.RowKit Go.Shelf
set_option linter.unusedVariables false
set_option linter.unusedSimpArgs false

theorem Try.sizeDom : (Try.prog.info? 25).map (·.size) = some 6 := by kernel_rfl
theorem Bx.setRow {w : World} {g : Nat} {old : Array Value} {t : TypeId} (h : Bx w g old t) (cs : Array Value) : Bx (w.setRow g cs) g cs t := ⟨setRow_heap w g _ _ t (0, 0) h.h⟩
theorem Bx.setRow_ne {w : World} {g k : Nat} {cs : Array Value} {t : TypeId} (h : Bx w k cs t) (hk : k ≠ g) (c : Array Value) : Bx (w.setRow g c) k cs t := ⟨(setRow_other w g k c hk).trans h.h⟩
theorem six_one (b : Bool) (p0 : Option Addr) (m0 k0 : Nat) (p1 : Option Addr) (m1 k1 : Nat) (p2 : Option Addr) (m2 k2 : Nat) (i j : Int) : ∀ v ∈ [Value.bool b, .slice p0 m0 k0, .slice p1 m1 k1, .slice p2 m2 k2, .int .i64 i, .int .i64 j], v.oneCell' = true := by
  intro v hv
  simp only [List.mem_cons, List.not_mem_nil, or_false] at hv
  rcases hv with rfl | rfl | rfl | rfl | rfl | rfl <;> rfl
theorem stD {ops : Array Oper} {rest : List Oper} {o : Oper} {a : Act} {w : World} {Q : Exit → Act → World → Prop} {old : Array Value} (hgd : o.guard = none) (x y : Operand) (ho : o.op = .store 25 x y)
    (g : Nat) (c : List Value) (hx : a.eval x = .pointer (some ⟨g, 0, none⟩)) (hy : a.eval y = .agg c.toArray) (hg : Bx w g old 25) (hold : old.size = 6) (hc : c.length = 6) (h1 : ∀ v ∈ c, v.oneCell' = true)
    (h : wpList Try.prog ops Q rest (a.put o.dst undef) (w.setRow g c.toArray)) : wpList Try.prog ops Q (o :: rest) a w :=
  wpList_store_row hgd 25 x y ho g _ hx hy 25 _ hg.h (by rw [Try.sizeDom]; simp [hc]) (by simp [hold, hc]) (all_oneCell_toArray h1) h
theorem resD {fn : Func} {p : Tmp} (hf : fn.results = #[.cell p 25]) (tmps : Array Value) {w : World} {g : Nat} {c : List Value} (h : Bx w g c.toArray 25) (hc : c.length = 6) (hp : tmps.getD p undef = .pointer (some ⟨g, 0, none⟩)) :
    (results fn tmps).run Try.prog w = .ok (.agg c.toArray) w := results_cell_row hf tmps w g 25 _ (0, 0) _ hp h.h Try.underlying25 rfl (by rw [Try.sizeDom]; simp [hc])
theorem below_row {B g : Nat} {a w : World} (h : Below B a w) (hg : B ≤ g) (cs : Array Value) : Below B a (w.setRow g cs) :=
  h.trans ⟨rfl, rfl, rfl, by simp [World.setRow], fun k hk => setRow_other w g k cs (by omega)⟩
def emptyW (d : MD) : Bool := decide (d.r.length = 0)

set_option maxRecDepth 100000 in
set_option maxHeartbeats 4000000 in
theorem empty_w {X : Nat → Prop} {W : World} {c : List Value} {d : MD} (h : Dc X W c d) (hs : d.set = false) :
    Calls Try.prog 46 #[.agg c.toArray] W fun e w' => e = .returned (.bool (emptyW d)) ∧ Below W.heap.size W w' := by
  obtain ⟨b, ra, n0, rc, a1, n1, c1, a2, n2, c2, x, y, rfl, HE, H1, H2, H3⟩ := h.look
  clear h
  obtain rfl : b = false := by rw [← HE.out.1, hs]
  have hM : emptyW d = decide (n0 = 0) := by obtain ⟨_, rfl, _⟩ := HE.out; rfl
  rw [hM]
  clear hM H1 H2 H3 hs HE
  have hb0 : Below W.heap.size W (W.alloc (Obj.cells #[.bool false, .slice ra n0 rc, .slice a1 n1 c1, .slice a2 n2 c2, .int .i64 x, .int .i64 y] 25)) := (Below.refl _ W).alloc (Nat.le_refl _) _
  rcases Nat.eq_zero_or_pos n0 with e1 | e1
  · subst e1
    go_enter Try.func46, Try.ntmps46
    go_wp2
    go_ret
    exact ⟨ret_bool (by first | rfl | simp), hb0⟩
  · have e1' : ¬ (n0 : Int) = 0 := by omega
    go_enter Try.func46, Try.ntmps46
    go_wp2
    go_ret
    exact ⟨ret_bool (by rw [Bool.eq_iff_iff]; simp only [beq_iff_eq, decide_eq_true_eq]; omega), hb0⟩
def emptI (b : Bool) : Int := if b then 1 else 0

set_option maxRecDepth 100000 in
set_option maxHeartbeats 4000000 in
theorem emptiness_w {X : Nat → Prop} {W : World} {c : List Value} {d : MD} (h : Dc X W c d) (hs : d.set = false) :
    Calls Try.prog 29 #[.agg c.toArray] W fun e w' => e = .returned (.int .i64 (emptI (emptyW d))) ∧ Below W.heap.size W w' := by
  have hc := h
  obtain ⟨b, ra, n0, rc, a1, n1, c1, a2, n2, c2, x, y, rfl, HE, H1, H2, H3⟩ := h.look
  clear h
  obtain rfl : b = false := by rw [← HE.out.1, hs]
  obtain ⟨W0, hW0⟩ : ∃ Q, W.alloc (Obj.cells #[.bool false, .slice ra n0 rc, .slice a1 n1 c1, .slice a2 n2 c2, .int .i64 x, .int .i64 y] 25) = Q := ⟨_, rfl⟩
  have hb0 : Below W.heap.size W W0 := by rw [← hW0]; exact (Below.refl _ W).alloc (Nat.le_refl _) _
  have HB0 : Hid (Bx W0 W.heap.size #[.bool false, .slice ra n0 rc, .slice a1 n1 c1, .slice a2 n2 c2, .int .i64 x, .int .i64 y] 25) := by rw [← hW0]; exact Bx.new _ _ _
  have ke := empty_w (hc.below hb0) hs
  have HW0 : Hid _ := hW0
  clear hW0 hc
  cases hM : emptyW d
  all_goals
    rw [hM] at ke
    clear hM
    go_enter Try.func29, Try.ntmps29
    go_wp2_with fail
    rw [HW0.out]
    refine ke.mono ?_
    rintro e w1 ⟨rfl, hb1⟩
    go_wp2
    go_ret
    exact ⟨ret_int (by rfl), hb0.trans (hb1.mono hb0.size)⟩
/-- What is in both. -/
def bothW (a b : MD) : MD := ⟨false, Dm.bothR a.r b.r, [], [], 0, 0⟩
theorem rm_own {X : Nat → Prop} {w : World} {B : Nat} {s : Value} {l : List Dm.Rg} (h : w.ownsRow B 65 2 s l.length (Dm.flat l)) (hX : ∀ b, X b → b < B) : Rm X w s l := by
  rcases h.2 with ⟨e1, e2⟩ | ⟨g, cap, cur, e1, hB, hg, hn, hm, hs, ht⟩
  · exact ⟨none, 0, by rw [e2]; exact e1, fun h0 => by omega⟩
  · refine ⟨_, cap, e1, fun h0 => ⟨g, 0, rfl, (Array.getElem?_eq_some_iff.1 hg).1, fun q => by have := hX g q; omega, fun i hi => ?_⟩⟩
    have hcap : l.length * 2 ≤ cap * 2 := Nat.mul_le_mul_right _ hn
    have key : ∀ j v, (Dm.flat l)[j]? = some v → w.cell? ⟨g, j, none⟩ = some v := fun j v hv => by
      have hj := (List.getElem?_eq_some_iff.1 hv).1
      rw [h.1] at hj
      rw [cell_of_row w g _ cur _ _ hg]
      rw [← ht, List.getElem?_take, if_pos hj, Array.getElem?_toList] at hv
      exact hv
    rw [Nat.zero_add]
    exact ⟨key _ _ ((Dm.flat_even l i hi).1), key _ _ ((Dm.flat_even l i hi).2)⟩
theorem Nm.empty (X : Nat → Prop) (w : World) : Nm X w (.slice none 0 0) [] := ⟨none, 0, rfl, fun h => absurd h (by simp)⟩

set_option maxRecDepth 100000 in
set_option maxHeartbeats 4000000 in
theorem with_w {X Y : Nat → Prop} {W : World} {c k : List Value} {d o : MD} (h : Dc X W c d) (h' : Dc Y W k o) (hs : d.set = false) (hs' : o.set = false) (hf : Dm.FitsR d.r) (hf' : Dm.FitsR o.r) :
    Calls Try.prog 42 #[.agg c.toArray, .agg k.toArray] W fun e w' => ∃ q : List Value, e = .returned (.agg q.toArray) ∧ (∀ Z : Nat → Prop, (∀ b, Z b → b < W.heap.size) → Dc Z w' q (bothW d o)) ∧ Below W.heap.size W w' := by
  obtain ⟨b, ra, n0, rc, a1, n1, c1, a2, n2, c2, x, y, rfl, HE, H1, H2, H3⟩ := h.look
  clear h
  obtain rfl : b = false := by rw [← HE.out.1, hs]
  obtain ⟨b', ra', n0', rc', a1', n1', c1', a2', n2', c2', x', y', rfl, HE', H1', H2', H3'⟩ := h'.look
  clear h'
  obtain rfl : b' = false := by rw [← HE'.out.1, hs']
  obtain ⟨W0, hW0⟩ : ∃ Q, ((W.alloc (Obj.cells #[.bool false, .slice ra n0 rc, .slice a1 n1 c1, .slice a2 n2 c2, .int .i64 x, .int .i64 y] 80)).alloc (Obj.cells #[.bool false, .slice ra' n0' rc', .slice a1' n1' c1', .slice a2' n2' c2', .int .i64 x', .int .i64 y'] 25)).alloc (Obj.cells #[.bool false, .slice none 0 0, .slice none 0 0, .slice none 0 0, .int .i64 0, .int .i64 0] 25) = Q := ⟨_, rfl⟩
  have hb0 : Below W.heap.size W W0 := by rw [← hW0]; exact ((((Below.refl _ W).alloc (Nat.le_refl _) _).alloc (by simp) _).alloc (by simp; omega) _)
  have HB0 : Hid (Bx W0 (W.heap.size + 2) #[.bool false, .slice none 0 0, .slice none 0 0, .slice none 0 0, .int .i64 0, .int .i64 0] 25) := by rw [← hW0]; exact Bx.new' (by simp) _ _
  have kb := Dm.domboth_any _ _ _ _ _ (H1.out.kept (Kept.of_below hb0)).sr (H1'.out.kept (Kept.of_below hb0)).sr hf hf'
  have hz0 : W0.heap.size = W.heap.size + 3 := by rw [← hW0]; simp
  have HZ0 : Hid (W0.heap.size = W.heap.size + 3) := hz0
  have HW0 : Hid _ := hW0
  clear hW0 hz0
  go_enter Try.func42, Try.ntmps42
  go_wp2_with fail
  rw [HW0.out]
  refine kb.mono ?_
  clear kb
  rintro e w1 ⟨s', rfl, ho, hb1⟩
  have HO : Hid _ := ho
  clear ho
  obtain ⟨p', m', k', rfl⟩ : ∃ p m k, s' = .slice p m k := by
    rcases HO.out.2 with ⟨e1, e2⟩ | ⟨g, cap, cur, e1, _⟩
    · exact ⟨_, _, _, e1⟩
    · exact ⟨_, _, _, e1⟩
  have HB1 : Hid (Bx w1 (W.heap.size + 2) _ _) := HB0.out.below hb1
  have hb2 : Below W.heap.size W w1 := hb0.trans (hb1.mono hb0.size)
  go_wp2_with (with_reducible refine stD rfl (.tmp 4) (.tmp 10) rfl (W.heap.size + 2) [.bool false, .slice p' m' k', .slice none 0 0, .slice none 0 0, .int .i64 0, .int .i64 0] (by with_unfolding_all rfl) (by with_unfolding_all rfl) HB1.out rfl rfl (six_one _ _ _ _ _ _ _ _ _ _ _ _) ?_)
  refine ⟨rfl, _, resD rfl _ (HB1.out.setRow _) rfl (by with_unfolding_all rfl), [.bool false, .slice p' m' k', .slice none 0 0, .slice none 0 0, .int .i64 0, .int .i64 0], rfl, fun Z hZ => ?_, below_row hb2 (by omega) _⟩
  have hr : Rm Z (w1.setRow (W.heap.size + 2) #[.bool false, .slice p' m' k', .slice none 0 0, .slice none 0 0, .int .i64 0, .int .i64 0]) (.slice p' m' k') (Dm.bothR d.r o.r) := by
    have h1 : Rm (fun b => b < W0.heap.size) w1 (.slice p' m' k') (Dm.bothR d.r o.r) := rm_own HO.out (fun b q => q)
    have h2 := h1.kept (w' := w1.setRow (W.heap.size + 2) #[.bool false, .slice p' m' k', .slice none 0 0, .slice none 0 0, .int .i64 0, .int .i64 0]) ⟨rfl, rfl, rfl, by simp [World.setRow], fun b _ q => setRow_other w1 _ b _ (by intro e; apply q; have := HZ0.out; omega)⟩
    obtain ⟨a, c, e, h3⟩ := h2
    refine ⟨a, c, e, fun q => ?_⟩
    obtain ⟨b, off, e1, e2, e3, e4⟩ := h3 q
    exact ⟨b, off, e1, e2, fun hb => e3 (by have := hZ b hb; have := HZ0.out; omega), e4⟩
  have hl : m' = (Dm.bothR d.r o.r).length := by obtain ⟨a, c, e, _⟩ := hr; injection e
  subst hl
  exact ⟨p', k', none, 0, none, 0, rfl, hr, Nm.empty _ _, Nm.empty _ _⟩
end Go.Proofs.Ytogankopiechcaa
