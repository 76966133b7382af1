/-
  What is proved here: domains of both kinds in memory; whether they can be, by package kinds and by the reference.
-/
import Derived.Test.YtghnfnieppfhgaaGreatKaj
import Derived.Test.YtghnfnieppfhgaaGreatYNd
import Derived.Test.YtghnfnieppfhgaaGreatYTbj
import Derived.Test.YtghnfnieppfhgaaGreatYTd
import Derived.Test.YtghnfnieppfhgaaGreatYUc
import Derived.OrdersHeld
import Derived.OrdersIn
import Derived.Test.YtghnfnieppfhgaaGreatYSfj
import Derived.Deep.MidRow
import Derived.Test.YtghnfnieppfhgaaGreatYNbj
import Derived.Great.BuildSlice
namespace Go.Proofs.YtghnfnieppfhgaaGreat
open Go.RowKit Go.Shelf
set_option linter.unusedVariables false
set_option linter.unusedSimpArgs false

/-- A domain as the texts on sets have it. -/
def sdM (d : MD) : St.SD := ⟨d.set, d.r.length, d.lo, d.up, d.least, d.most⟩
theorem Nm.si {X : Nat → Prop} {w : World} {s : Value} {l : List Int} (h : Nm X w s l) : St.Si w s l := by
  obtain ⟨a, c, e, h⟩ := h
  refine ⟨a, c, e, fun h0 => ?_⟩
  obtain ⟨b, off, e1, e2, _, e4⟩ := h h0
  refine ⟨b, off, e1, e2, fun i hi => e4 i _ ?_⟩
  unfold St.nth
  rw [List.getD_eq_getElem?_getD, List.getElem?_eq_getElem hi]; rfl
theorem Dc.di {X : Nat → Prop} {w : World} {c : List Value} {d : MD} (h : Dc X w c d) : St.Di w (.agg c.toArray) (sdM d) := by
  obtain ⟨ra, rc, a1, c1, a2, c2, rfl, _, h2, h3⟩ := h
  exact ⟨ra, rc, _, _, rfl, h2.si, h3.si⟩
def rightM (d : MD) : Bool := if d.set then St.rightD (sdM d) else rightW d
/-- A slice into memory from block B on that can be written. -/
def WrS (B k : Nat) (w : World) (s : Value) : Prop := ∃ a n c, s = .slice a n c ∧ n ≤ 9223372036854775807 ∧ (0 < n → ∃ g cur t, a = some ⟨g, 0, none⟩ ∧ B ≤ g ∧ w.heap[g]? = some (.cells cur t (0, 0)) ∧ n * k ≤ cur.size)
theorem WrS.nil (B k : Nat) (w : World) : WrS B k w (.slice none 0 0) := ⟨none, 0, 0, rfl, by decide, fun h => absurd h (Nat.lt_irrefl _)⟩
theorem WrS.own {B k n : Nat} {w : World} {s : Value} {e : TypeId} {xs : List Value} (h : w.ownsRow B e k s n xs) : WrS B k w s := by
  rcases h.2 with ⟨e1, e2⟩ | ⟨g, cap, cur, e1, hB, hg, hn, hm, hs, ht⟩
  · exact ⟨none, 0, 0, e1, by decide, fun h0 => absurd h0 (Nat.lt_irrefl _)⟩
  · exact ⟨_, n, cap, e1, by unfold maxLen at hm; omega, fun _ => ⟨g, cur, e, rfl, hB, hg, by rw [hs]; exact Nat.mul_le_mul_right _ hn⟩⟩
/-- The six cells of a domain in memory of its own. -/
def OwnD (B : Nat) (w : World) (q : List Value) : Prop := ∃ b p0 n0 k0 p1 n1 k1 p2 n2 k2 x y, q = [.bool b, .slice p0 n0 k0, .slice p1 n1 k1, .slice p2 n2 k2, .int .i64 x, .int .i64 y] ∧ WrS B 2 w (.slice p0 n0 k0) ∧ WrS B 1 w (.slice p1 n1 k1) ∧ WrS B 1 w (.slice p2 n2 k2)
theorem nm_own {X : Nat → Prop} {w : World} {B : Nat} {s : Value} {l : List Int} (h : w.ownsRow B 2 1 s l.length (St.intv l)) (hX : ∀ b, X b → b < B) : Nm X w s l := by
  rcases h.2 with ⟨e1, e2⟩ | ⟨g, cap, cur, e1, hB, hg, hn, hm, hs, ht⟩
  · exact ⟨none, 0, by rw [e2]; exact e1, fun h0 => by omega⟩
  · refine ⟨_, cap, e1, fun h0 => ⟨g, 0, rfl, (Array.getElem?_eq_some_iff.1 hg).1, fun q => by have := hX g q; omega, fun i x hx => ?_⟩⟩
    have hi := (List.getElem?_eq_some_iff.1 hx).1
    have hc : w.cell? ⟨g, 0 + i, none⟩ = cur[i]? := by simp [World.cell?, hg]
    have h1 : (St.intv l)[i]? = some (.int .i64 x) := by simp [St.intv, hx]
    rw [← ht, List.getElem?_take, if_pos (by omega), Array.getElem?_toList] at h1
    rw [hc]; exact h1
/-- A domain of a set in memory of its own. -/
theorem dv_own {B : Nat} {w : World} {v : Value} {d : St.SD} (h : St.Dv B w v d) : ∃ q : List Value, v = .agg q.toArray ∧ OwnD B w q ∧ ∀ Z : Nat → Prop, (∀ b, Z b → b < B) → Dc Z w q ⟨d.set, [], d.lo, d.up, d.least, d.most⟩ := by
  obtain ⟨slo, sup, rfl, hr, h1, h2⟩ := h
  obtain ⟨p1, c1, rfl⟩ : ∃ p c, slo = .slice p d.lo.length c := by
    rcases h1.2 with ⟨e1, e2⟩ | ⟨g, cap, cur, e1, _⟩
    · exact ⟨none, 0, by rw [e2]; exact e1⟩
    · exact ⟨_, _, e1⟩
  obtain ⟨p2, c2, rfl⟩ : ∃ p c, sup = .slice p d.up.length c := by
    rcases h2.2 with ⟨e1, e2⟩ | ⟨g, cap, cur, e1, _⟩
    · exact ⟨none, 0, by rw [e2]; exact e1⟩
    · exact ⟨_, _, e1⟩
  refine ⟨[_, _, _, _, _, _], rfl, ⟨_, _, _, _, _, _, _, _, _, _, _, _, rfl, WrS.nil _ _ _, WrS.own h1, WrS.own h2⟩, fun Z hZ => ⟨none, 0, p1, c1, p2, c2, rfl, ⟨none, 0, rfl, fun h0 => absurd h0 (by simp)⟩, nm_own h1 hZ, nm_own h2 hZ⟩⟩

set_option maxRecDepth 100000 in
set_option maxHeartbeats 4000000 in
theorem rright_w {X : Nat → Prop} {W : World} {c : List Value} {d : MD} (h : Dc X W c d) (hs : d.set = false) (hf : Dm.FitsR d.r) :
    Calls Tryz.prog 23 #[.agg c.toArray] W fun e w' => e = .returned (.bool (rightW d)) ∧ Below W.heap.size W w' := by
  obtain ⟨b, ra, n0, rc, a1, n1, c1, a2, n2, c2, x, y, rfl, HE, H1, H2, H3⟩ := h.look
  clear h
  obtain rfl : b = false := by rw [← HE.out.1, hs]
  obtain ⟨W0, hW0⟩ : ∃ Q, W.alloc (Obj.cells #[.bool false, .slice ra n0 rc, .slice a1 n1 c1, .slice a2 n2 c2, .int .i64 x, .int .i64 y] 37) = Q := ⟨_, rfl⟩
  have hb0 : Below W.heap.size W W0 := by rw [← hW0]; exact (Below.refl _ W).alloc (Nat.le_refl _) _
  have HB0 : Hid (Bx W0 W.heap.size #[.bool false, .slice ra n0 rc, .slice a1 n1 c1, .slice a2 n2 c2, .int .i64 x, .int .i64 y] 37) := by rw [← hW0]; exact Bx.new _ _ _
  have kr := (Dm.refright_any _ _ _ (H1.out.kept (Kept.of_below hb0)).sr).mono (R' := fun e w' => e = .returned (.bool (Dm.rightB d.r)) ∧ Below W0.heap.size W0 w') (fun e w' ⟨he, n, hw⟩ => ⟨he, by rw [hw]; exact below_drewN (Below.refl _ _) _⟩)
  have hM : rightW d = (Dm.rightB d.r && decide (n1 = 0) && decide (n2 = 0) && decide (x = 0) && decide (y = 0)) := by
    obtain ⟨_, _, rfl, rfl, rfl, rfl⟩ := HE.out; rfl
  rw [hM]
  clear hM H1 H2 H3 hf hs HE
  have HW0 : Hid _ := hW0
  clear hW0
  cases hR : Dm.rightB d.r
  · rw [hR] at kr
    go_enter Tryz.func23, Tryz.ntmps23
    go_wp2_with fail
    rw [HW0.out]
    refine kr.mono ?_
    rintro e w1 ⟨rfl, hb1⟩
    go_wp2
    go_ret
    exact ⟨ret_bool (by simp), hb0.trans (hb1.mono hb0.size)⟩
  · rw [hR] at kr
    rcases Nat.eq_zero_or_pos n1 with e1 | e1
    · rcases Nat.eq_zero_or_pos n2 with e2 | e2
      · by_cases e3 : x = 0
        · subst e1 e2 e3
          by_cases e4 : y = 0
          · subst e4
            go_enter Tryz.func23, Tryz.ntmps23
            go_wp2_with fail
            rw [HW0.out]
            refine kr.mono ?_
            rintro e w1 ⟨rfl, hb1⟩
            obtain ⟨z0, z1, z2, z3, z4, z5⟩ := (HB0.out.below hb1).six
            go_wp2
            go_ret
            exact ⟨ret_bool (by simp), hb0.trans (hb1.mono hb0.size)⟩
          · go_enter Tryz.func23, Tryz.ntmps23
            go_wp2_with fail
            rw [HW0.out]
            refine kr.mono ?_
            rintro e w1 ⟨rfl, hb1⟩
            obtain ⟨z0, z1, z2, z3, z4, z5⟩ := (HB0.out.below hb1).six
            go_wp2
            go_ret
            exact ⟨ret_bool (by simp [e4]), hb0.trans (hb1.mono hb0.size)⟩
        · subst e1 e2
          go_enter Tryz.func23, Tryz.ntmps23
          go_wp2_with fail
          rw [HW0.out]
          refine kr.mono ?_
          rintro e w1 ⟨rfl, hb1⟩
          obtain ⟨z0, z1, z2, z3, z4, z5⟩ := (HB0.out.below hb1).six
          go_wp2
          go_ret
          exact ⟨ret_bool (by simp [e3]), hb0.trans (hb1.mono hb0.size)⟩
      · have e2' : ¬ (n2 : Int) = 0 := by omega
        subst e1
        go_enter Tryz.func23, Tryz.ntmps23
        go_wp2_with fail
        rw [HW0.out]
        refine kr.mono ?_
        rintro e w1 ⟨rfl, hb1⟩
        obtain ⟨z0, z1, z2, z3, z4, z5⟩ := (HB0.out.below hb1).six
        go_wp2
        go_ret
        exact ⟨ret_bool (by simp; omega), hb0.trans (hb1.mono hb0.size)⟩
    · have e1' : ¬ (n1 : Int) = 0 := by omega
      go_enter Tryz.func23, Tryz.ntmps23
      go_wp2_with fail
      rw [HW0.out]
      refine kr.mono ?_
      rintro e w1 ⟨rfl, hb1⟩
      obtain ⟨z0, z1, z2, z3, z4, z5⟩ := (HB0.out.below hb1).six
      go_wp2
      go_ret
      exact ⟨ret_bool (by simp; omega), hb0.trans (hb1.mono hb0.size)⟩

set_option maxRecDepth 100000 in
set_option maxHeartbeats 4000000 in
theorem right_s {X : Nat → Prop} {W : World} {c : List Value} {d : MD} (h : Dc X W c d) (hs : d.set = true) : Calls Tryz.prog 30 #[.agg c.toArray] W fun e w' => e = .returned (.bool (St.rightD (sdM d))) ∧ Below W.heap.size W w' := by
  have h0 := h
  obtain ⟨b, ra, n0, rc, a1, n1, c1, a2, n2, c2, x, y, rfl, HE, H1, H2, H3⟩ := h.look
  obtain rfl : b = true := by rw [← HE.out.1, hs]
  obtain ⟨W0, hW0⟩ : ∃ Q, W.alloc (Obj.cells #[.bool true, .slice ra n0 rc, .slice a1 n1 c1, .slice a2 n2 c2, .int .i64 x, .int .i64 y] 37) = Q := ⟨_, rfl⟩
  have hb0 : Below W.heap.size W W0 := by rw [← hW0]; exact (Below.refl _ W).alloc (Nat.le_refl _) _
  have HB0 : Hid (Bx W0 W.heap.size #[.bool true, .slice ra n0 rc, .slice a1 n1 c1, .slice a2 n2 c2, .int .i64 x, .int .i64 y] 37) := by rw [← hW0]; exact Bx.new _ _ _
  have kr := St.right_any _ _ W0 (h0.below hb0).di
  have HW0 : Hid _ := hW0
  clear h h0 hs HE H1 H2 H3 hW0
  obtain ⟨z0, z1, z2, z3, z4, z5⟩ := HB0.out.six
  generalize St.rightD (sdM d) = q at *
  go_enter Tryz.func30, Tryz.ntmps30
  go_upto_region 1 with (fail)
  rw [HW0.out]
  go_wp2_with fail
  refine kr.mono ?_
  rintro e w1 ⟨rfl, hb1⟩
  go_wp2
  go_ret
  exact ⟨rfl, hb0.trans (hb1.mono hb0.size)⟩

set_option maxRecDepth 100000 in
set_option maxHeartbeats 4000000 in
theorem rright_s {X : Nat → Prop} {W : World} {c : List Value} {d : MD} (h : Dc X W c d) (hs : d.set = true) : Calls Tryz.prog 23 #[.agg c.toArray] W fun e w' => e = .returned (.bool (St.rightD (sdM d))) ∧ Below W.heap.size W w' := by
  have h0 := h
  obtain ⟨b, ra, n0, rc, a1, n1, c1, a2, n2, c2, x, y, rfl, HE, H1, H2, H3⟩ := h.look
  obtain rfl : b = true := by rw [← HE.out.1, hs]
  obtain ⟨W0, hW0⟩ : ∃ Q, W.alloc (Obj.cells #[.bool true, .slice ra n0 rc, .slice a1 n1 c1, .slice a2 n2 c2, .int .i64 x, .int .i64 y] 37) = Q := ⟨_, rfl⟩
  have hb0 : Below W.heap.size W W0 := by rw [← hW0]; exact (Below.refl _ W).alloc (Nat.le_refl _) _
  have HB0 : Hid (Bx W0 W.heap.size #[.bool true, .slice ra n0 rc, .slice a1 n1 c1, .slice a2 n2 c2, .int .i64 x, .int .i64 y] 37) := by rw [← hW0]; exact Bx.new _ _ _
  have kr := St.refright_any _ _ W0 (h0.below hb0).di
  have HW0 : Hid _ := hW0
  clear h h0 hs HE H1 H2 H3 hW0
  obtain ⟨z0, z1, z2, z3, z4, z5⟩ := HB0.out.six
  generalize St.rightD (sdM d) = q at *
  go_enter Tryz.func23, Tryz.ntmps23
  go_upto_region 1 with (fail)
  rw [HW0.out]
  go_wp2_with fail
  refine kr.mono ?_
  rintro e w1 ⟨rfl, hb1⟩
  go_wp2
  go_ret
  exact ⟨rfl, hb0.trans (hb1.mono hb0.size)⟩
theorem right_d {X : Nat → Prop} {W : World} {c : List Value} {d : MD} (h : Dc X W c d) (hf : Dm.FitsR d.r) : Calls Tryz.prog 30 #[.agg c.toArray] W fun e w' => e = .returned (.bool (rightM d)) ∧ Below W.heap.size W w' := by
  unfold rightM
  cases hs : d.set
  · exact right_w h hs hf
  · exact right_s h hs
theorem rright_d {X : Nat → Prop} {W : World} {c : List Value} {d : MD} (h : Dc X W c d) (hf : Dm.FitsR d.r) : Calls Tryz.prog 23 #[.agg c.toArray] W fun e w' => e = .returned (.bool (rightM d)) ∧ Below W.heap.size W w' := by
  unfold rightM
  cases hs : d.set
  · exact rright_w h hs hf
  · exact rright_s h hs
end Go.Proofs.YtghnfnieppfhgaaGreat

