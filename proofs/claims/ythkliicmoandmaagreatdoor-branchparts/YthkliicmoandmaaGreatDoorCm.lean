/-
  What is proved here: the variables of a constraint of one variable, by the reference; whether a value can be.
-/
import Derived.Test.YthkliicmoandmaaGreatDoorClj
import Derived.Test.YthkliicmoandmaaGreatDoorBk
import Derived.OwnWalk
import Derived.Lib.AppendZerosOnto
import Derived.Lib.OwnBridge
namespace Go.Proofs.YthkliicmoandmaaGreatDoor
open Go.RowKit Go.Shelf
set_option linter.unusedVariables false
set_option linter.unusedSimpArgs false

theorem ivl_one (l : List Int) : ∀ u ∈ ivl l, u.oneCell' = true := by
  intro u hu
  unfold ivl at hu
  rw [List.mem_map] at hu
  obtain ⟨x, _, rfl⟩ := hu
  rfl
theorem run_app_none (w : World) (ty : TypeId) (base : Option Addr) (n c c' : Nat) (hle : n ≤ c) : (Builtin.append_ #[24, 24] ty #[.slice base n c, .slice none 0 c']).run Tryz.prog w = .ok (.slice base n c) w := by
  obtain ⟨i0, hi0, hz0, hz1, hz2⟩ := info_parts Tryz.infoI
  have hf : (Builtin.firstCells i0.size 0 (.slice none 0 c')).run Tryz.prog w = .ok #[] w := by simp [Builtin.firstCells]
  cases base <;> simp [Builtin.append_, run_underlying Tryz.underlying24, sizeOf, typeInfo, hi0, Builtin.lenOf, hle, hf, storeCells]
/-- A slice of numbers put behind none. -/
theorem app_law {w : World} {ops : Array Oper} {rest : List Oper} {o : Oper} {a : Act} {Q : Exit → Act → World → Prop} (hgd : o.guard = none) (s x : Operand) (ho : o.op = .call { callee := .builtin .append, args := #[s, x], argTypes := #[24, 24] })
    (hs : a.eval s = .slice none 0 0) (sx : Value) {l : List Int} (hx : a.eval x = sx) (hsx : Ns w sx l) (hb : l.length * 8 ≤ 140737488351232)
    (h : ∀ v' w', Oi w.heap.size w' v' l → Below w.heap.size w w' → wpList Tryz.prog ops Q rest (a.put o.dst v') w') : wpList Tryz.prog ops Q (o :: rest) a w := by
  obtain ⟨i0, hi0, hz0, hz1, hz2⟩ := info_parts Tryz.infoI
  obtain ⟨ax, cx, rfl, hcx⟩ := hsx
  have hown : w.ownsRow w.heap.size 3 1 (.slice none 0 0) 0 [] := World.ownsRow_nil _ _ _ _
  have hbel : ∀ w', w.grownBy w' (Value.slice none 0 0).ownBlock → Below w.heap.size w w' := fun w' hg => (Below.refl _ w).grown hg (Nat.le_refl _) (fun k e => by cases e)
  cases ax with
  | none =>
    have h0 : l.length = 0 := by
      apply Classical.byContradiction; intro hn
      obtain ⟨_, _, e, _⟩ := hcx (by omega)
      cases e
    obtain rfl := List.eq_nil_of_length_eq_zero h0
    refine Lib.wpList_append_run w hgd s x 24 24 ho _ _ hs hx _ _ (run_app_none w _ none 0 0 cx (Nat.le_refl _)) (h _ _ ?_ (Below.refl _ _))
    exact hown
  | some ad =>
    rcases Nat.eq_zero_or_pos l.length with h0 | h0
    · obtain rfl := List.eq_nil_of_length_eq_zero h0
      refine wpList_append_own _ hgd s x 24 ho w.heap.size 3 i0 (.int .i64 0) 1 8 Tryz.underlying24 hi0 hz0 hz1 hz2 rfl (by decide) _ _ _ hs hown ad 0 cx [] hx rfl (fun j u h => by simp at h) (fun u h => by simp at h) (by unfold maxLen; omega) (by omega) (Nat.le_refl _) ?_
      intro v' w' h1 h2 _
      exact h v' w' (by simpa [Oi, ivl] using h1) (hbel w' h2)
    · obtain ⟨b, off, e, hlt, _, hcell⟩ := hcx h0
      injection e with e
      subst e
      refine wpList_append_own _ hgd s x 24 ho w.heap.size 3 i0 (.int .i64 0) 1 8 Tryz.underlying24 hi0 hz0 hz1 hz2 rfl (by decide) _ _ _ hs hown ⟨b, off, none⟩ l.length cx (ivl l) hx (by simp [ivl]) (fun j u hj => ?_) (ivl_one l) (by unfold maxLen; omega) (by omega) (Nat.le_refl _) ?_
      · unfold ivl at hj
        rw [List.getElem?_map, Option.map_eq_some_iff] at hj
        obtain ⟨y, hy, rfl⟩ := hj
        rw [Addr.add_lit]; exact hcell j y hy
      · intro v' w' h1 h2 _
        exact h v' w' (by unfold Oi; simpa using h1) (hbel w' h2)

set_option maxRecDepth 100000 in
set_option maxHeartbeats 4000000 in
theorem rightval_any {W : World} {c : List Value} {st : Bool} {vn : Int} {vs : List Int} (h : Vc W c st vn vs) : Calls Tryz.prog 64 #[.agg c.toArray] W fun e w' => e = .returned (.bool (rvM st vn vs)) ∧ Below W.heap.size W w' := by
  obtain ⟨N, hN⟩ : ∃ N, W.heap.size = N := ⟨_, rfl⟩
  have h0 := h
  obtain ⟨p, k, rfl, hsi⟩ := h
  have HM : Hid (rvM st vn vs = if st then decide (vn = 0) && St.setB vs else decide (vs.length = 0) && decide (-1000000 ≤ vn) && decide (vn ≤ 1000000)) := rfl
  obtain ⟨n, hn⟩ : ∃ q, vs.length = q := ⟨_, rfl⟩
  rw [hn] at hsi ⊢
  obtain ⟨W0, hW0⟩ : ∃ Q, W.alloc (Obj.cells #[.bool st, .int .i64 vn, .slice p n k] 52) = Q := ⟨_, rfl⟩
  have hb0 : Below W.heap.size W W0 := by rw [← hW0]; exact (Below.refl _ W).alloc (Nat.le_refl _) _
  have HB0 : Hid (Bx W0 N #[.bool st, .int .i64 vn, .slice p n k] 52) := by rw [← hW0]; exact Bx.new' hN _ _
  have HS : Hid (Calls Tryz.prog 111 #[.slice p n k] W0 fun e w' => e = .returned (.bool (St.setB vs)) ∧ Below W0.heap.size W0 w') := St.set_below _ _ _ (hsi.below hb0)
  have HW0 : Hid _ := hW0
  have HBW : Hid (Below N W W0) := by rw [← hN]; exact hb0
  have HN : Hid (W.heap.size = N) := hN
  rw [HM.out, hn]
  clear h0 hsi hW0 hb0 hn HM
  generalize St.setB vs = sb at *
  obtain ⟨z0, z1, z2⟩ := HB0.out.three
  cases st
  · by_cases hn0 : n = 0
    · subst hn0
      by_cases h1 : -1000000 ≤ vn
      · by_cases h2 : vn ≤ 1000000
        · go_enter Tryz.func64, Tryz.ntmps64
          go_upto_region 1 with (fail)
          rw [HW0.out]
          go_wp2
          go_ret
          exact ⟨ret_bool (by first | (simp [h1, h2]; done) | (simp; omega)), by first | exact HBW.out | (rw [HN.out]; exact HBW.out)⟩
        · go_enter Tryz.func64, Tryz.ntmps64
          go_upto_region 1 with (fail)
          rw [HW0.out]
          go_wp2
          go_ret
          exact ⟨ret_bool (by first | (simp [h1, h2]; done) | (simp; omega)), by first | exact HBW.out | (rw [HN.out]; exact HBW.out)⟩
      · go_enter Tryz.func64, Tryz.ntmps64
        go_upto_region 1 with (fail)
        rw [HW0.out]
        go_wp2
        go_ret
        exact ⟨ret_bool (by first | (simp [h1]; done) | (simp; omega)), by first | exact HBW.out | (rw [HN.out]; exact HBW.out)⟩
    · have hn1 : ¬ ((n : Int) = 0) := by omega
      go_enter Tryz.func64, Tryz.ntmps64
      go_upto_region 1 with (fail)
      rw [HW0.out]
      go_wp2
      go_ret
      exact ⟨ret_bool (by simp [hn0]), by first | exact HBW.out | (rw [HN.out]; exact HBW.out)⟩
  · by_cases h0 : vn = 0
    · subst h0
      go_enter Tryz.func64, Tryz.ntmps64
      go_upto_region 1 with (fail)
      rw [HW0.out]
      go_wp2_with fail
      refine HS.out.mono ?_
      rintro e w1 ⟨rfl, hb1⟩
      go_wp2
      go_ret
      exact ⟨ret_bool (by simp), by first | exact HBW.out.trans (hb1.mono HBW.out.size) | (have := HBW.out.trans (hb1.mono HBW.out.size); exact this) | (have hsz := HBW.out.size; have hNN := HN.out; exact HBW.out.trans (hb1.mono (by omega)))⟩
    · go_enter Tryz.func64, Tryz.ntmps64
      go_upto_region 1 with (fail)
      rw [HW0.out]
      go_wp2
      go_ret
      exact ⟨ret_bool (by simp [h0]), by first | exact HBW.out | (rw [HN.out]; exact HBW.out)⟩

set_option maxRecDepth 100000 in
set_option maxHeartbeats 4000000 in
theorem vars_one {W : World} {bA bT : Nat} {x : Value} {sn : ByteArray} {tail : List Value} (hA : Bx W bA #[x, .slice (some ⟨bT, 0, none⟩) 1 1] 109) (hT : Bx W bT (.int .i64 0 :: tail).toArray 106) :
    Calls Tryz.prog 112 #[.agg #[.string sn, .slice (some ⟨bA, 0, none⟩) 1 1]] W fun e w' => ∃ g c, e = .returned (.slice (some ⟨g, 0, none⟩) 1 c) ∧ W.heap.size ≤ g ∧ g < w'.heap.size ∧ w'.cell? ⟨g, 0, none⟩ = some (.int .i64 0) ∧ Below W.heap.size W w' := by
  obtain ⟨N, hN⟩ : ∃ N, W.heap.size = N := ⟨_, rfl⟩
  obtain ⟨W0, hW0⟩ : ∃ Q, W.alloc (Obj.cells #[.string sn, .slice (some ⟨bA, 0, none⟩) 1 1] 112) = Q := ⟨_, rfl⟩
  have hb0 : Below W.heap.size W W0 := by rw [← hW0]; exact (Below.refl _ W).alloc (Nat.le_refl _) _
  have HC : Hid (Bx W0 N #[.string sn, .slice (some ⟨bA, 0, none⟩) 1 1] 112) := by rw [← hW0]; exact Bx.new' hN _ _
  have HA : Hid (Bx W0 bA #[x, .slice (some ⟨bT, 0, none⟩) 1 1] 109) := hA.below hb0
  have HT : Hid (Bx W0 bT (.int .i64 0 :: tail).toArray 106) := hT.below hb0
  have HW0 : Hid _ := hW0
  have HB0 : Hid (Below W.heap.size W W0) := hb0
  have HN : Hid (W.heap.size = N) := hN
  clear hW0 hb0 hA hT
  go_enter Tryz.func112, Tryz.ntmps112
  go_upto_region 1 with (fail)
  rw [HW0.out]
  clear hN
  go_wp2
  go_loopw [4, 3] (fun i o wr => Hid (Below W0.heap.size W0 wr) ∧ ((i = .int .i64 0 ∧ o = .slice none 0 0) ∨ (i = .int .i64 1 ∧ ∃ g c, o = .slice (some ⟨g, 0, none⟩) 1 c ∧ N ≤ g ∧ g < wr.heap.size ∧ wr.cell? ⟨g, 0, none⟩ = some (.int .i64 0)))) (fun i _ _ => 1 - (intOf i).toNat)
  case atStart => exact ⟨Below.refl _ _, .inl ⟨rfl, rfl⟩⟩
  case round =>
    obtain ⟨HBW, hrel⟩ := hrel
    have c1 : wr.cell? ⟨N, 1, none⟩ = some (.slice (some ⟨bA, 0, none⟩) 1 1) := (HC.out.below HBW.out).cell 1
    rcases hrel with ⟨rfl, rfl⟩ | ⟨rfl, g, c, rfl, hg, hg2, hcell⟩
    · have a1 : wr.cell? ⟨bA, 1, none⟩ = some (.slice (some ⟨bT, 0, none⟩) 1 1) := (HA.out.below HBW.out).cell 1
      go_upto_region 5 with (fail)
      go_wp2
      go_loopw [5, 3] (fun i o wq => Hid (Below W0.heap.size W0 wq) ∧ ((i = .int .i64 0 ∧ o = .slice none 0 0) ∨ (i = .int .i64 1 ∧ ∃ g c, o = .slice (some ⟨g, 0, none⟩) 1 c ∧ N ≤ g ∧ g < wq.heap.size ∧ wq.cell? ⟨g, 0, none⟩ = some (.int .i64 0)))) (fun i _ _ => 1 - (intOf i).toNat)
      case atStart => exact ⟨HBW, .inl ⟨rfl, rfl⟩⟩
      case round =>
        clear c1 a1 HBW
        obtain ⟨HBQ, hrel⟩ := hrel
        have c1 : wr.cell? ⟨N, 1, none⟩ = some (.slice (some ⟨bA, 0, none⟩) 1 1) := (HC.out.below HBQ.out).cell 1
        have a1 : wr.cell? ⟨bA, 1, none⟩ = some (.slice (some ⟨bT, 0, none⟩) 1 1) := (HA.out.below HBQ.out).cell 1
        have t0 : wr.cell? ⟨bT, 0, none⟩ = some (.int .i64 0) := by have := (HT.out.below HBQ.out).cell 0; simpa using this
        rcases hrel with ⟨rfl, rfl⟩ | ⟨rfl, g, c, rfl, hg, hg2, hcell⟩
        · go_upto_region 8 with (fail)
          go_wp2
          go_loopw [7] (fun i wq => i = .int .i64 0 ∧ Hid (Below W0.heap.size W0 wq)) (fun _ _ => 0)
          case atStart => exact ⟨rfl, HBQ⟩
          case round =>
            clear c1 a1 t0 HBQ
            obtain ⟨rfl, HBR⟩ := hrel
            go_upto_region 15 with (fail)
            have HNS : Hid (Ns (wr.alloc (Obj.cells #[.int .i64 0] 3)) (.slice (some ⟨wr.heap.size, 0, none⟩) 1 1) [0]) := by
              refine ⟨_, 1, rfl, fun _ => ⟨wr.heap.size, 0, rfl, by simp, fun q => q, fun i x hx => ?_⟩⟩
              match i, hx with
              | 0, hx => simp at hx; subst hx; exact (Bx.new wr #[.int .i64 0] 3).cell 0
              | i + 1, hx => simp at hx
            have HBR1 : Hid (Below W0.heap.size W0 (wr.alloc (Obj.cells #[.int .i64 0] 3))) := HBR.out.alloc HBR.out.size _
            have hsz0 : N ≤ wr.heap.size := by have := HBR.out.size; have := HB0.out.size; have := HN.out; omega
            go_wp2_with (first
              | (refine app_law rfl (.tmp 72) (.tmp 74) rfl rfl _ rfl HNS.out (by decide) ?_
                 intro v1 w1 ho1 hb1
                 have hx : ∃ g cap, v1 = .slice (some ⟨g, 0, none⟩) 1 cap ∧ (wr.alloc (Obj.cells #[.int .i64 0] 3)).heap.size ≤ g ∧ g < w1.heap.size ∧ 1 ≤ cap ∧ ∀ i x, [(0 : Int)][i]? = some x → w1.cell? ⟨g, i, none⟩ = some (.int .i64 x) := ho1.at (by decide)
                 obtain ⟨g, cap, rfl, hB, hgl, hc1, hcl⟩ := hx
                 have hcell : w1.cell? ⟨g, 0, none⟩ = some (.int .i64 0) := hcl 0 0 rfl
                 have HB1 : Hid (Below W0.heap.size W0 w1) := HBR1.out.trans (hb1.mono HBR1.out.size)
                 have hNg : N ≤ g := by simp at hB; omega
                 clear ho1 hb1 hcl hB)
              | (with_reducible refine Lib.wpList_append_run _ rfl (.tmp 76) (.tmp 79) 24 24 rfl (.slice (some ⟨g, 0, none⟩) 1 cap) (.slice none 0 0) (by with_unfolding_all rfl) (by with_unfolding_all rfl) _ _ (run_app_none _ 24 (some ⟨g, 0, none⟩) 1 cap 0 hc1) ?_))
            go_roundw
            case rel => exact ⟨HB1, .inr ⟨by go_num, g, cap, rfl, hNg, hgl, hcell⟩⟩
            case measure => simp [intOf]
        · go_wp2
          go_roundw
          case rel => exact ⟨HBQ, .inr ⟨by go_num, g, c, rfl, hg, hg2, hcell⟩⟩
          case measure => simp [intOf]
    · go_wp2
      go_ret
      exact ⟨g, c, rfl, by have := HN.out; omega, hg2, hcell, HB0.out.trans (HBW.out.mono HB0.out.size)⟩
end Go.Proofs.YthkliicmoandmaaGreatDoor
