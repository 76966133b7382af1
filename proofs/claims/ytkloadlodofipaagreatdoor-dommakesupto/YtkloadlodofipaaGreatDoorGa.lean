/-
  What is proved here: slices.Grow and slices.Concat of two slices of ranges, and dom.Either of any ranges.
-/
import Derived.Test.YtkloadlodofipaaGreatDoorFa
import Derived.Test.YtkloadlodofipaaGreatDoorNb
import Derived.Lib.AppendZerosOnto
namespace Go.Proofs.YtkloadlodofipaaGreatDoor
open Go.RowKit Go.Shelf
set_option linter.unusedVariables false

theorem run_app_none (w : World) (ty : TypeId) (base : Option Addr) (n c c' : Nat) (hle : n ≤ c) : (Builtin.append_ #[23, 23] ty #[.slice base n c, .slice none 0 c']).run Tryz.prog w = .ok (.slice base n c) w := by
  obtain ⟨i0, hi0, hz0, hz1, hz2⟩ := info_parts Tryz.info55
  have hf : (Builtin.firstCells i0.size 0 (.slice none 0 c')).run Tryz.prog w = .ok #[] w := by simp [Builtin.firstCells]
  cases base <;> simp [Builtin.append_, run_underlying Tryz.underlying23, sizeOf, typeInfo, hi0, Builtin.lenOf, hle, hf, storeCells]

theorem srcells {w : World} {b off : Nat} {l : List Rg} (hcell : ∀ i, i < l.length → w.cell? ⟨b, off + i * 2, none⟩ = some (.int .i64 (lo l i)) ∧ w.cell? ⟨b, off + i * 2 + 1, none⟩ = some (.int .i64 (hi l i))) :
    ∀ j u, (flat l)[j]? = some u → w.cell? ((⟨b, off, none⟩ : Addr).add j) = some u := by
  intro j u hj
  rw [Addr.add_lit]
  have hjl : j < l.length * 2 := by rw [← flat_length]; exact (List.getElem?_eq_some_iff.1 hj).1
  obtain ⟨e1, e2⟩ := flat_even l (j / 2) (by omega)
  obtain ⟨c1, c2⟩ := hcell (j / 2) (by omega)
  rcases Nat.mod_two_eq_zero_or_one j with hm | hm
  · rw [show j / 2 * 2 = j from by omega] at e1 c1
    rw [e1] at hj; injection hj with hj; subst hj
    exact c1
  · rw [show j / 2 * 2 + 1 = j from by omega] at e2
    rw [show off + j / 2 * 2 + 1 = off + j from by omega] at c2
    rw [e2] at hj; injection hj with hj; subst hj
    exact c2

/-- Appending a slice of ranges to an own row. -/
theorem wpList_app_sr (w : World) {ops : Array Oper} {rest : List Oper} {o : Oper} {a : Act} {Q : Exit → Act → World → Prop} (hgd : o.guard = none) (s x : Operand) (ho : o.op = .call { callee := .builtin .append, args := #[s, x], argTypes := #[23, 23] })
    (base : Nat) (v : Value) (m : Nat) (L : List Rg) (hs : a.eval s = v) (hown : w.ownsRow base 55 2 v m (flat L)) (hm : m = L.length) (sx : Value) (l : List Rg) (hx : a.eval x = sx) (hsx : Sr w sx l) (hb : L.length + l.length ≤ 100000) (hbase : base ≤ w.heap.size)
    (h : ∀ v' w', w'.ownsRow base 55 2 v' (L.length + l.length) (flat (L ++ l)) → Below base w w' → wpList Tryz.prog ops Q rest (a.put o.dst v') w') : wpList Tryz.prog ops Q (o :: rest) a w := by
  subst hm
  obtain ⟨i0, hi0, hz0, hz1, hz2⟩ := info_parts Tryz.info55
  obtain ⟨ax, cx, rfl, hcx⟩ := hsx
  have hbel : ∀ w', w.grownBy w' v.ownBlock → Below base w w' := fun w' hg => (Below.refl _ w).grown hg hbase (fun k e => (World.ownsRow.lt hown k e).1)
  cases ax with
  | none =>
    have h0 : l.length = 0 := by
      apply Classical.byContradiction; intro hn
      obtain ⟨_, _, e, _⟩ := hcx (by omega)
      cases e
    obtain rfl := List.eq_nil_of_length_eq_zero h0
    obtain ⟨bv, nv, cv, rfl, hle, hnv⟩ : ∃ b n c, v = .slice b n c ∧ n ≤ c ∧ n = L.length := by
      rcases hown.2 with ⟨e1, e2⟩ | ⟨q1, q2, q3, e, _, _, hq, _⟩
      · exact ⟨none, 0, 0, e1, Nat.le_refl _, e2.symm⟩
      · exact ⟨_, _, _, e, hq, rfl⟩
    refine Lib.wpList_append_run w hgd s x 23 23 ho _ _ hs hx _ _ (run_app_none w _ bv nv cv cx hle) (h _ _ ?_ (Below.refl _ _))
    simpa using hown
  | some ad =>
    rcases Nat.eq_zero_or_pos l.length with h0 | h0
    · obtain rfl := List.eq_nil_of_length_eq_zero h0
      refine wpList_append_own _ hgd s x 23 ho base 55 i0 (.agg #[.int .i64 0, .int .i64 0]) 2 16 Tryz.underlying23 hi0 hz0 hz1 hz2 rfl (by decide) _ _ _ hs hown ad 0 cx [] hx rfl (fun j u h => by simp at h) (fun u h => by simp at h) (by unfold maxLen; simp at hb; omega) (by simp at hb; omega) hbase ?_
      intro v' w' h1 h2 _
      exact h v' w' (by simpa using h1) (hbel w' h2)
    · obtain ⟨b, off, e, hlt, hcell⟩ := hcx h0
      injection e with e
      subst e
      refine wpList_append_own _ hgd s x 23 ho base 55 i0 (.agg #[.int .i64 0, .int .i64 0]) 2 16 Tryz.underlying23 hi0 hz0 hz1 hz2 rfl (by decide) _ _ _ hs hown ⟨b, off, none⟩ l.length cx (flat l) hx (flat_length l) (srcells hcell) flat_one (by unfold maxLen; omega) (by omega) hbase ?_
      intro v' w' h1 h2 _
      exact h v' w' (by rw [flat_app]; exact h1) (hbel w' h2)

set_option maxHeartbeats 2000000 in
set_option maxRecDepth 100000 in
theorem grow_any (n : Nat) (w : World) (hn : n ≤ 100000) :
    Calls Tryz.prog 79 #[.slice none 0 0, .int .i64 n] w fun e w' => ∃ s, e = .returned s ∧ w'.ownsRow w.heap.size 55 2 s 0 [] ∧ Below w.heap.size w w' := by
  rcases Nat.eq_zero_or_pos n with h0 | h0
  · subst h0
    go_enter Tryz.func79, Tryz.ntmps79
    go_wp2
    go_ret
    exact ⟨_, rfl, World.ownsRow_nil _ _ _ _, Below.refl _ _⟩
  · obtain ⟨i0, hi0, hz0, hz1, hz2⟩ := info_parts Tryz.info55
    have hrz : ∀ ty, (Builtin.append_ #[23, 3] ty #[.slice none 0 0, .int .i64 n]).run Tryz.prog w = .ok (.slice (some ⟨w.heap.size, 0, none⟩) n (grownCap w n 0 55))
        (w.drew.alloc (.cells (#[] ++ Builtin.zeroCells (Value.agg #[.int .i64 0, .int .i64 0]).cells n ++ Builtin.zeroCells (Value.agg #[.int .i64 0, .int .i64 0]).cells (grownCap w n 0 55 - n)) 55)) := fun ty => by
      have h := Lib.run_append_grow_zeros w 23 3 ty 55 i0 (.agg #[.int .i64 0, .int .i64 0]) .i64 .i64 Tryz.underlying23 Tryz.underlying3 hi0 hz0 none 0 0 [] (by simp [Builtin.firstCells]) n h0 (by omega) (by omega) (by omega) (by rw [hz2]; omega) (growslice_fits (by omega) (by rw [hz2]; omega))
      rw [Nat.zero_add] at h
      exact h
    have hGn := grownCap_ge w n 0 55
    have hGm := grownCap_le_maxLen w n 0 55 (by unfold maxLen; omega)
    have hsz : ∀ G, n ≤ G → (#[] ++ Builtin.zeroCells (Value.agg #[.int .i64 0, .int .i64 0]).cells n ++ Builtin.zeroCells (Value.agg #[.int .i64 0, .int .i64 0]).cells (G - n)).size = G * 2 := fun G hG => by
      simp only [Builtin.zeroCells, Array.size_append, Array.size_map, Array.size_range, Value.cells]
      simp
      omega
    have hsz := hsz _ hGn
    obtain ⟨Z, hZ⟩ : ∃ Z : Array Value, #[] ++ Builtin.zeroCells (Value.agg #[.int .i64 0, .int .i64 0]).cells n ++ Builtin.zeroCells (Value.agg #[.int .i64 0, .int .i64 0]).cells (grownCap w n 0 55 - n) = Z := ⟨_, rfl⟩
    rw [hZ] at hrz hsz
    obtain ⟨G, hG⟩ : ∃ G, grownCap w n 0 55 = G := ⟨_, rfl⟩
    rw [hG] at hrz hsz hGn hGm
    have hG63 : (G : Int) ≤ 9223372036854775807 := by unfold maxLen at hGm; omega
    have HSZ : Hid (Z.size = G * 2) := hsz
    have HGM : Hid (G ≤ maxLen) := hGm
    have h1 : (0 : Int) < (n : Int) := by omega
    clear hZ hG hsz hi0 hz0 hz1 hz2 hGm
    go_enter Tryz.func79, Tryz.ntmps79
    go_wp2_with (at_builtin; refine Lib.wpList_append_run _ rfl _ _ _ _ rfl _ _ rfl rfl _ _ (hrz _) ?_)
    go_ret
    refine ⟨_, rfl, ⟨rfl, .inr ⟨w.heap.size, G, Z, rfl, Nat.le_refl _, ?_, Nat.zero_le _, HGM.out, HSZ.out, by simp⟩⟩, ((Below.refl _ w).drew).alloc (Nat.le_refl _) _⟩
    exact World.alloc_heap_new w.drew _

/-- Two lists, told up to k of them. -/
def upTo2 (la lb : List Rg) (k : Nat) : List Rg := if k = 0 then [] else if k = 1 then la else la ++ lb
set_option maxHeartbeats 4000000 in
set_option maxRecDepth 100000 in
theorem concat_two (B : Nat) (a1 a2 : Option Addr) (n1 n2 c1 c2 : Nat) (la lb : List Rg) (w : World) (hB : B < w.heap.size) (k0 : w.cell? ⟨B, 0, none⟩ = some (.slice a1 n1 c1)) (k1 : w.cell? ⟨B, 1, none⟩ = some (.slice a2 n2 c2))
    (h1 : Sr w (.slice a1 n1 c1) la) (h2 : Sr w (.slice a2 n2 c2) lb) (hl1 : la.length ≤ 10000) (hl2 : lb.length ≤ 10000) :
    Calls Tryz.prog 67 #[.slice (some ⟨B, 0, none⟩) 2 2] w fun e w' => ∃ s, e = .returned s ∧ w'.ownsRow w.heap.size 55 2 s (la ++ lb).length (flat (la ++ lb)) ∧ Below w.heap.size w w' := by
  have e1 : n1 = la.length := by obtain ⟨_, _, e, _⟩ := h1; injection e
  have e2 : n2 = lb.length := by obtain ⟨_, _, e, _⟩ := h2; injection e
  have HS1 : Hid (∀ X, Below w.heap.size w X → Sr X (.slice a1 n1 c1) la) := fun X hX => h1.below hX
  have HS2 : Hid (∀ X, Below w.heap.size w X → Sr X (.slice a2 n2 c2) lb) := fun X hX => h2.below hX
  have HE1 : Hid (n1 = la.length) := e1
  have HE2 : Hid (n2 = lb.length) := e2
  have hb1 : n1 ≤ 10000 := by omega
  have hb2 : n2 ≤ 10000 := by omega
  clear h1 h2 hl1 hl2 e1 e2
  go_enter Tryz.func67, Tryz.ntmps67
  go_wp2
  go_loopw [3, 11] (fun sv i wr => ∃ (k : Nat), k ≤ 2 ∧ i = .int .i64 k ∧ sv = .int .i64 ((if k = 0 then 0 else if k = 1 then n1 else n1 + n2 : Nat) : Int) ∧ w = wr) (fun _ i _ => 2 - (intOf i).toNat)
  case atStart => exact ⟨0, by omega, rfl, rfl, rfl⟩
  case round =>
    obtain ⟨k, hk, rfl, rfl, rfl⟩ := hrel
    obtain rfl | rfl | rfl : k = 0 ∨ k = 1 ∨ k = 2 := by omega
    · simp only [if_true]
      go_wp2
      go_roundw
      case rel => exact ⟨1, by omega, by go_num, by simp, by first | rfl | trivial⟩
      case measure => simp [intOf]
    · simp only [if_true, if_neg (show ¬ (1 : Nat) = 0 by decide)]
      go_wp2
      go_roundw
      case rel => exact ⟨2, by omega, by go_num, by simp, by first | rfl | trivial⟩
      case measure => simp [intOf]
    · simp only [if_neg (show ¬ (2 : Nat) = 0 by decide), if_neg (show ¬ (2 : Nat) = 1 by decide)]
      go_wp2_with fail
      refine (grow_any (n1 + n2) w (by omega)).mono ?_
      rintro e w1 ⟨s1, rfl, hrow, hbw⟩
      have HROW : Hid (w1.ownsRow w.heap.size 55 2 s1 0 []) := hrow
      obtain ⟨s1a, s1n, s1c, rfl⟩ : ∃ b n c, s1 = .slice b n c := by
        rcases hrow.2 with ⟨e, _⟩ | ⟨q1, q2, q3, e, _⟩
        · exact ⟨_, _, _, e⟩
        · exact ⟨_, _, _, e⟩
      clear hrow
      go_wp2
      go_loopw [6, 27] (fun o i w2 => ∃ (k : Nat), k ≤ 2 ∧ i = .int .i64 k ∧ w2.ownsRow w.heap.size 55 2 o (upTo2 la lb k).length (flat (upTo2 la lb k)) ∧ Below w.heap.size w w2) (fun _ i _ => 2 - (intOf i).toNat)
      case atStart => exact ⟨0, by omega, rfl, by simpa [upTo2, flat] using HROW.out, hbw⟩
      case round =>
        obtain ⟨k, hk, rfl, hrow, hB2⟩ := hrel
        have hbs := hB2.size
        have d0 := (hB2.cell (p := ⟨B, 0, none⟩) hB).trans k0
        have d1 := (hB2.cell (p := ⟨B, 1, none⟩) hB).trans k1
        obtain ⟨ub, un, uc, rfl⟩ : ∃ b n c, u6 = .slice b n c := by
          rcases hrow.2 with ⟨e, _⟩ | ⟨q1, q2, q3, e, _⟩
          · exact ⟨_, _, _, e⟩
          · exact ⟨_, _, _, e⟩
        obtain rfl | rfl | rfl : k = 0 ∨ k = 1 ∨ k = 2 := by omega
        · have hr0 : wr.ownsRow w.heap.size 55 2 (.slice ub un uc) 0 (flat []) := hrow
          clear hrow
          go_wp2_with (at_builtin; refine wpList_app_sr _ rfl _ _ rfl w.heap.size _ 0 [] rfl hr0 rfl _ la rfl (HS1.out _ hB2) (by simp; have := HE1.out; omega) hbs ?_; intro v' w3 hown' hbel)
          go_roundw
          case rel => exact ⟨1, by omega, by go_num, by simpa [upTo2] using hown', hB2.trans hbel⟩
          case measure => simp [intOf]
        · have hr0 : wr.ownsRow w.heap.size 55 2 (.slice ub un uc) la.length (flat la) := hrow
          clear hrow
          go_wp2_with (at_builtin; refine wpList_app_sr _ rfl _ _ rfl w.heap.size _ la.length la rfl hr0 rfl _ lb rfl (HS2.out _ hB2) (by have := HE1.out; have := HE2.out; omega) hbs ?_; intro v' w3 hown' hbel)
          go_roundw
          case rel => exact ⟨2, by omega, by go_num, by simpa [upTo2] using hown', hB2.trans hbel⟩
          case measure => simp [intOf]
        · have hr0 : wr.ownsRow w.heap.size 55 2 (.slice ub un uc) (la ++ lb).length (flat (la ++ lb)) := hrow
          clear hrow
          go_wp2
          go_ret
          exact ⟨_, rfl, hr0, hB2⟩

end Go.Proofs.YtkloadlodofipaaGreatDoor
