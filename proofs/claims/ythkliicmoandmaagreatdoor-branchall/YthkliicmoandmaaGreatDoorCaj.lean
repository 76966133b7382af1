/-
  What is proved here: domains of both kinds in memory; whether they can be, by package kinds and by the reference.
  What is proved here: whether a domain of any kind has several values; how many it has.
-/
import Derived.Test.YthkliicmoandmaaGreatDoorKaj
import Derived.Test.YthkliicmoandmaaGreatDoorYNd
import Derived.Test.YthkliicmoandmaaGreatDoorYTb
import Derived.Test.YthkliicmoandmaaGreatDoorYTcj
import Derived.Test.YthkliicmoandmaaGreatDoorYUbj
import Derived.Test.YthkliicmoandmaaGreatDoorYCaj
namespace Go.Proofs.YthkliicmoandmaaGreatDoor
open Go.RowKit Go.Shelf
set_option linter.unusedVariables false
set_option linter.unusedSimpArgs false

/-- A domain as the texts on sets have it. -/
def sdM (d : MD) : St.SD := ⟨d.set, d.r.length, d.lo, d.up, d.least, d.most⟩
theorem Nm.si {X : Nat → Prop} {w : World} {s : Value} {l : List Int} (h : Nm X w s l) : St.Si w s l := by
  obtain ⟨a, c, e, h⟩ := h
  refine ⟨a, c, e, fun h0 => ?_⟩
  obtain ⟨b, off, e1, e2, _, e4⟩ := h h0
  refine ⟨b, off, e1, e2, fun i hi => e4 i _ ?_⟩
  unfold St.nth
  rw [List.getD_eq_getElem?_getD, List.getElem?_eq_getElem hi]; rfl
theorem Dc.di {X : Nat → Prop} {w : World} {c : List Value} {d : MD} (h : Dc X w c d) : St.Di w (.agg c.toArray) (sdM d) := by
  obtain ⟨ra, rc, a1, c1, a2, c2, rfl, _, h2, h3⟩ := h
  exact ⟨ra, rc, _, _, rfl, h2.si, h3.si⟩
def rightM (d : MD) : Bool := if d.set then St.rightD (sdM d) else rightW d
/-- A slice into memory from block B on that can be written. -/
def WrS (B k : Nat) (w : World) (s : Value) : Prop := ∃ a n c, s = .slice a n c ∧ n ≤ 9223372036854775807 ∧ (0 < n → ∃ g cur t, a = some ⟨g, 0, none⟩ ∧ B ≤ g ∧ w.heap[g]? = some (.cells cur t (0, 0)) ∧ n * k ≤ cur.size)
theorem WrS.nil (B k : Nat) (w : World) : WrS B k w (.slice none 0 0) := ⟨none, 0, 0, rfl, by decide, fun h => absurd h (Nat.lt_irrefl _)⟩
theorem WrS.own {B k n : Nat} {w : World} {s : Value} {e : TypeId} {xs : List Value} (h : w.ownsRow B e k s n xs) : WrS B k w s := by
  rcases h.2 with ⟨e1, e2⟩ | ⟨g, cap, cur, e1, hB, hg, hn, hm, hs, ht⟩
  · exact ⟨none, 0, 0, e1, by decide, fun h0 => absurd h0 (Nat.lt_irrefl _)⟩
  · exact ⟨_, n, cap, e1, by unfold maxLen at hm; omega, fun _ => ⟨g, cur, e, rfl, hB, hg, by rw [hs]; exact Nat.mul_le_mul_right _ hn⟩⟩
/-- The six cells of a domain in memory of its own. -/
def OwnD (B : Nat) (w : World) (q : List Value) : Prop := ∃ b p0 n0 k0 p1 n1 k1 p2 n2 k2 x y, q = [.bool b, .slice p0 n0 k0, .slice p1 n1 k1, .slice p2 n2 k2, .int .i64 x, .int .i64 y] ∧ WrS B 2 w (.slice p0 n0 k0) ∧ WrS B 1 w (.slice p1 n1 k1) ∧ WrS B 1 w (.slice p2 n2 k2)
theorem nm_own {X : Nat → Prop} {w : World} {B : Nat} {s : Value} {l : List Int} (h : w.ownsRow B 2 1 s l.length (St.intv l)) (hX : ∀ b, X b → b < B) : Nm X w s l := by
  rcases h.2 with ⟨e1, e2⟩ | ⟨g, cap, cur, e1, hB, hg, hn, hm, hs, ht⟩
  · exact ⟨none, 0, by rw [e2]; exact e1, fun h0 => by omega⟩
  · refine ⟨_, cap, e1, fun h0 => ⟨g, 0, rfl, (Array.getElem?_eq_some_iff.1 hg).1, fun q => by have := hX g q; omega, fun i x hx => ?_⟩⟩
    have hi := (List.getElem?_eq_some_iff.1 hx).1
    have hc : w.cell? ⟨g, 0 + i, none⟩ = cur[i]? := by simp [World.cell?, hg]
    have h1 : (St.intv l)[i]? = some (.int .i64 x) := by simp [St.intv, hx]
    rw [← ht, List.getElem?_take, if_pos (by omega), Array.getElem?_toList] at h1
    rw [hc]; exact h1
/-- A domain of a set in memory of its own. -/
theorem dv_own {B : Nat} {w : World} {v : Value} {d : St.SD} (h : St.Dv B w v d) : ∃ q : List Value, v = .agg q.toArray ∧ OwnD B w q ∧ ∀ Z : Nat → Prop, (∀ b, Z b → b < B) → Dc Z w q ⟨d.set, [], d.lo, d.up, d.least, d.most⟩ := by
  obtain ⟨slo, sup, rfl, hr, h1, h2⟩ := h
  obtain ⟨p1, c1, rfl⟩ : ∃ p c, slo = .slice p d.lo.length c := by
    rcases h1.2 with ⟨e1, e2⟩ | ⟨g, cap, cur, e1, _⟩
    · exact ⟨none, 0, by rw [e2]; exact e1⟩
    · exact ⟨_, _, e1⟩
  obtain ⟨p2, c2, rfl⟩ : ∃ p c, sup = .slice p d.up.length c := by
    rcases h2.2 with ⟨e1, e2⟩ | ⟨g, cap, cur, e1, _⟩
    · exact ⟨none, 0, by rw [e2]; exact e1⟩
    · exact ⟨_, _, e1⟩
  refine ⟨[_, _, _, _, _, _], rfl, ⟨_, _, _, _, _, _, _, _, _, _, _, _, rfl, WrS.nil _ _ _, WrS.own h1, WrS.own h2⟩, fun Z hZ => ⟨none, 0, p1, c1, p2, c2, rfl, ⟨none, 0, rfl, fun h0 => absurd h0 (by simp)⟩, nm_own h1 hZ, nm_own h2 hZ⟩⟩

set_option maxRecDepth 100000 in
set_option maxHeartbeats 4000000 in
theorem rright_w {X : Nat → Prop} {W : World} {c : List Value} {d : MD} (h : Dc X W c d) (hs : d.set = false) (hf : Dm.FitsR d.r) :
    Calls Tryz.prog 32 #[.agg c.toArray] W fun e w' => e = .returned (.bool (rightW d)) ∧ Below W.heap.size W w' := by
  obtain ⟨b, ra, n0, rc, a1, n1, c1, a2, n2, c2, x, y, rfl, HE, H1, H2, H3⟩ := h.look
  clear h
  obtain rfl : b = false := by rw [← HE.out.1, hs]
  obtain ⟨W0, hW0⟩ : ∃ Q, W.alloc (Obj.cells #[.bool false, .slice ra n0 rc, .slice a1 n1 c1, .slice a2 n2 c2, .int .i64 x, .int .i64 y] 50) = Q := ⟨_, rfl⟩
  have hb0 : Below W.heap.size W W0 := by rw [← hW0]; exact (Below.refl _ W).alloc (Nat.le_refl _) _
  have HB0 : Hid (Bx W0 W.heap.size #[.bool false, .slice ra n0 rc, .slice a1 n1 c1, .slice a2 n2 c2, .int .i64 x, .int .i64 y] 50) := by rw [← hW0]; exact Bx.new _ _ _
  have kr := (Dm.refright_any _ _ _ (H1.out.kept (Kept.of_below hb0)).sr).mono (R' := fun e w' => e = .returned (.bool (Dm.rightB d.r)) ∧ Below W0.heap.size W0 w') (fun e w' ⟨he, n, hw⟩ => ⟨he, by rw [hw]; exact below_drewN (Below.refl _ _) _⟩)
  have hM : rightW d = (Dm.rightB d.r && decide (n1 = 0) && decide (n2 = 0) && decide (x = 0) && decide (y = 0)) := by
    obtain ⟨_, _, rfl, rfl, rfl, rfl⟩ := HE.out; rfl
  rw [hM]
  clear hM H1 H2 H3 hf hs HE
  have HW0 : Hid _ := hW0
  clear hW0
  cases hR : Dm.rightB d.r
  · rw [hR] at kr
    go_enter Tryz.func32, Tryz.ntmps32
    go_wp2_with fail
    rw [HW0.out]
    refine kr.mono ?_
    rintro e w1 ⟨rfl, hb1⟩
    go_wp2
    go_ret
    exact ⟨ret_bool (by simp), hb0.trans (hb1.mono hb0.size)⟩
  · rw [hR] at kr
    rcases Nat.eq_zero_or_pos n1 with e1 | e1
    · rcases Nat.eq_zero_or_pos n2 with e2 | e2
      · by_cases e3 : x = 0
        · subst e1 e2 e3
          by_cases e4 : y = 0
          · subst e4
            go_enter Tryz.func32, Tryz.ntmps32
            go_wp2_with fail
            rw [HW0.out]
            refine kr.mono ?_
            rintro e w1 ⟨rfl, hb1⟩
            obtain ⟨z0, z1, z2, z3, z4, z5⟩ := (HB0.out.below hb1).six
            go_wp2
            go_ret
            exact ⟨ret_bool (by simp), hb0.trans (hb1.mono hb0.size)⟩
          · go_enter Tryz.func32, Tryz.ntmps32
            go_wp2_with fail
            rw [HW0.out]
            refine kr.mono ?_
            rintro e w1 ⟨rfl, hb1⟩
            obtain ⟨z0, z1, z2, z3, z4, z5⟩ := (HB0.out.below hb1).six
            go_wp2
            go_ret
            exact ⟨ret_bool (by simp [e4]), hb0.trans (hb1.mono hb0.size)⟩
        · subst e1 e2
          go_enter Tryz.func32, Tryz.ntmps32
          go_wp2_with fail
          rw [HW0.out]
          refine kr.mono ?_
          rintro e w1 ⟨rfl, hb1⟩
          obtain ⟨z0, z1, z2, z3, z4, z5⟩ := (HB0.out.below hb1).six
          go_wp2
          go_ret
          exact ⟨ret_bool (by simp [e3]), hb0.trans (hb1.mono hb0.size)⟩
      · have e2' : ¬ (n2 : Int) = 0 := by omega
        subst e1
        go_enter Tryz.func32, Tryz.ntmps32
        go_wp2_with fail
        rw [HW0.out]
        refine kr.mono ?_
        rintro e w1 ⟨rfl, hb1⟩
        obtain ⟨z0, z1, z2, z3, z4, z5⟩ := (HB0.out.below hb1).six
        go_wp2
        go_ret
        exact ⟨ret_bool (by simp; omega), hb0.trans (hb1.mono hb0.size)⟩
    · have e1' : ¬ (n1 : Int) = 0 := by omega
      go_enter Tryz.func32, Tryz.ntmps32
      go_wp2_with fail
      rw [HW0.out]
      refine kr.mono ?_
      rintro e w1 ⟨rfl, hb1⟩
      obtain ⟨z0, z1, z2, z3, z4, z5⟩ := (HB0.out.below hb1).six
      go_wp2
      go_ret
      exact ⟨ret_bool (by simp; omega), hb0.trans (hb1.mono hb0.size)⟩

set_option maxRecDepth 100000 in
set_option maxHeartbeats 4000000 in
theorem right_s {X : Nat → Prop} {W : World} {c : List Value} {d : MD} (h : Dc X W c d) (hs : d.set = true) : Calls Tryz.prog 48 #[.agg c.toArray] W fun e w' => e = .returned (.bool (St.rightD (sdM d))) ∧ Below W.heap.size W w' := by
  have h0 := h
  obtain ⟨b, ra, n0, rc, a1, n1, c1, a2, n2, c2, x, y, rfl, HE, H1, H2, H3⟩ := h.look
  obtain rfl : b = true := by rw [← HE.out.1, hs]
  obtain ⟨W0, hW0⟩ : ∃ Q, W.alloc (Obj.cells #[.bool true, .slice ra n0 rc, .slice a1 n1 c1, .slice a2 n2 c2, .int .i64 x, .int .i64 y] 50) = Q := ⟨_, rfl⟩
  have hb0 : Below W.heap.size W W0 := by rw [← hW0]; exact (Below.refl _ W).alloc (Nat.le_refl _) _
  have HB0 : Hid (Bx W0 W.heap.size #[.bool true, .slice ra n0 rc, .slice a1 n1 c1, .slice a2 n2 c2, .int .i64 x, .int .i64 y] 50) := by rw [← hW0]; exact Bx.new _ _ _
  have kr := St.right_any _ _ W0 (h0.below hb0).di
  have HW0 : Hid _ := hW0
  clear h h0 hs HE H1 H2 H3 hW0
  obtain ⟨z0, z1, z2, z3, z4, z5⟩ := HB0.out.six
  generalize St.rightD (sdM d) = q at *
  go_enter Tryz.func48, Tryz.ntmps48
  go_upto_region 1 with (fail)
  rw [HW0.out]
  go_wp2_with fail
  refine kr.mono ?_
  rintro e w1 ⟨rfl, hb1⟩
  go_wp2
  go_ret
  exact ⟨rfl, hb0.trans (hb1.mono hb0.size)⟩

set_option maxRecDepth 100000 in
set_option maxHeartbeats 4000000 in
theorem rright_s {X : Nat → Prop} {W : World} {c : List Value} {d : MD} (h : Dc X W c d) (hs : d.set = true) : Calls Tryz.prog 32 #[.agg c.toArray] W fun e w' => e = .returned (.bool (St.rightD (sdM d))) ∧ Below W.heap.size W w' := by
  have h0 := h
  obtain ⟨b, ra, n0, rc, a1, n1, c1, a2, n2, c2, x, y, rfl, HE, H1, H2, H3⟩ := h.look
  obtain rfl : b = true := by rw [← HE.out.1, hs]
  obtain ⟨W0, hW0⟩ : ∃ Q, W.alloc (Obj.cells #[.bool true, .slice ra n0 rc, .slice a1 n1 c1, .slice a2 n2 c2, .int .i64 x, .int .i64 y] 50) = Q := ⟨_, rfl⟩
  have hb0 : Below W.heap.size W W0 := by rw [← hW0]; exact (Below.refl _ W).alloc (Nat.le_refl _) _
  have HB0 : Hid (Bx W0 W.heap.size #[.bool true, .slice ra n0 rc, .slice a1 n1 c1, .slice a2 n2 c2, .int .i64 x, .int .i64 y] 50) := by rw [← hW0]; exact Bx.new _ _ _
  have kr := St.refright_any _ _ W0 (h0.below hb0).di
  have HW0 : Hid _ := hW0
  clear h h0 hs HE H1 H2 H3 hW0
  obtain ⟨z0, z1, z2, z3, z4, z5⟩ := HB0.out.six
  generalize St.rightD (sdM d) = q at *
  go_enter Tryz.func32, Tryz.ntmps32
  go_upto_region 1 with (fail)
  rw [HW0.out]
  go_wp2_with fail
  refine kr.mono ?_
  rintro e w1 ⟨rfl, hb1⟩
  go_wp2
  go_ret
  exact ⟨rfl, hb0.trans (hb1.mono hb0.size)⟩
theorem right_d {X : Nat → Prop} {W : World} {c : List Value} {d : MD} (h : Dc X W c d) (hf : Dm.FitsR d.r) : Calls Tryz.prog 48 #[.agg c.toArray] W fun e w' => e = .returned (.bool (rightM d)) ∧ Below W.heap.size W w' := by
  unfold rightM
  cases hs : d.set
  · exact right_w h hs hf
  · exact right_s h hs
theorem rright_d {X : Nat → Prop} {W : World} {c : List Value} {d : MD} (h : Dc X W c d) (hf : Dm.FitsR d.r) : Calls Tryz.prog 32 #[.agg c.toArray] W fun e w' => e = .returned (.bool (rightM d)) ∧ Below W.heap.size W w' := by
  unfold rightM
  cases hs : d.set
  · exact rright_w h hs hf
  · exact rright_s h hs
end Go.Proofs.YthkliicmoandmaaGreatDoor

namespace Go.Proofs.YthkliicmoandmaaGreatDoor
open Go.RowKit Go.Shelf
set_option linter.unusedVariables false
set_option linter.unusedSimpArgs false

/-- Of what is spoken here. -/
def Good (d : MD) : Prop := Dm.FitsR d.r
def emptyA (d : MD) : Bool := if d.set then decide (d.most < d.least) else emptyW d
def onlyA (d : MD) : Bool := if d.set then St.fixB (sdM d) else (onlyW d).2
def sevB (d : MD) : Bool := rightM d && !emptyA d && !onlyA d
/-- How many values a domain has. -/
def sizA (d : MD) : Int := if d.set then St.countD (sdM d) else Dm.sizeR (Dm.tk d.r)
set_option maxRecDepth 100000 in
set_option maxHeartbeats 4000000 in
theorem own_keepX {w w' : World} {B : Nat} {e : TypeId} {s : Nat} {v : Value} {n : Nat} {xs : List Value} (h : w.ownsRow B e s v n xs) (hb : ∀ g, v.ownBlock = some g → w'.heap[g]? = w.heap[g]?) : w'.ownsRow B e s v n xs := by
  refine ⟨h.1, ?_⟩
  rcases h.2 with e | ⟨g, cap, cur, e1, e2, hg, r⟩
  · exact .inl e
  · exact .inr ⟨g, cap, cur, e1, e2, (hb g (by rw [e1]; rfl)).trans hg, r⟩
theorem own_typX {w : World} {B : Nat} {e : TypeId} {s : Nat} {v : Value} {n : Nat} {xs : List Value} (h : w.ownsRow B e s v n xs) {g : Nat} (hg : v.ownBlock = some g) : B ≤ g := by
  rcases h.2 with ⟨e1, _⟩ | ⟨g', cap, cur, e1, e2, hg', r⟩
  · rw [e1] at hg; simp [Value.ownBlock] at hg
  · rw [e1] at hg
    obtain rfl : g' = g := by simpa [Value.ownBlock] using hg
    exact e2
theorem own_baseX {w : World} {B B' : Nat} {e : TypeId} {s : Nat} {v : Value} {n : Nat} {xs : List Value} (h : w.ownsRow B e s v n xs) (hB : B' ≤ B) : w.ownsRow B' e s v n xs :=
  ⟨h.1, by
    rcases h.2 with h2 | ⟨g, cap, cur, e1, hb, r⟩
    · exact .inl h2
    · exact .inr ⟨g, cap, cur, e1, Nat.le_trans hB hb, r⟩⟩
theorem empty_s {X : Nat → Prop} {W : World} {c : List Value} {d : MD} (h : Dc X W c d) (hs : d.set = true) :
    Calls Tryz.prog 128 #[.agg c.toArray] W fun e w' => e = .returned (.bool (decide (d.most < d.least))) ∧ Below W.heap.size W w' := by
  obtain ⟨b, ra, n0, rc, a1, n1, c1, a2, n2, c2, x, y, rfl, HE, H1, H2, H3⟩ := h.look
  clear h
  obtain rfl : b = true := by rw [← HE.out.1, hs]
  have hM : decide (d.most < d.least) = decide (y < x) := by obtain ⟨_, _, _, _, rfl, rfl⟩ := HE.out; rfl
  rw [hM]
  clear hM H1 H2 H3 hs HE
  have hb0 : Below W.heap.size W (W.alloc (Obj.cells #[.bool true, .slice ra n0 rc, .slice a1 n1 c1, .slice a2 n2 c2, .int .i64 x, .int .i64 y] 50)) := (Below.refl _ W).alloc (Nat.le_refl _) _
  by_cases e1 : y < x
  · go_enter Tryz.func128, Tryz.ntmps128
    go_wp2
    go_ret
    exact ⟨ret_bool (by first | rfl | simp [e1]), hb0⟩
  · have e2 : ¬ x > y := by omega
    have e3 : x ≤ y := by omega
    go_enter Tryz.func128, Tryz.ntmps128
    go_wp2
    go_ret
    exact ⟨ret_bool (by first | rfl | simp [e1]), hb0⟩
theorem empty_d {X : Nat → Prop} {W : World} {c : List Value} {d : MD} (h : Dc X W c d) :
    Calls Tryz.prog 128 #[.agg c.toArray] W fun e w' => e = .returned (.bool (emptyA d)) ∧ Below W.heap.size W w' := by
  unfold emptyA
  cases hs : d.set
  · simp only [Bool.false_eq_true, if_false]; exact empty_w h hs
  · simp only [if_true]; exact empty_s h hs

set_option maxRecDepth 100000 in
set_option maxHeartbeats 4000000 in
theorem only_s {X : Nat → Prop} {W : World} {c : List Value} {d : MD} (h : Dc X W c d) (hs : d.set = true) :
    Calls Tryz.prog 129 #[.agg c.toArray] W fun e w' => ∃ sp sn sc, e = .returned (.tuple #[.agg #[.bool (St.fixB (sdM d)), .int .i64 0, .slice sp sn sc], .bool (St.fixB (sdM d))]) ∧ w'.ownsRow W.heap.size 2 1 (.slice sp sn sc) sn (St.intv (St.fixL (sdM d))) ∧ (St.fixL (sdM d)).length = sn ∧ Below W.heap.size W w' := by
  have h00 := h
  obtain ⟨b, ra, n0, rc, a1, n1, c1, a2, n2, c2, x, y, rfl, HE, H1, H2, H3⟩ := h.look
  obtain rfl : b = true := by rw [← HE.out.1, hs]
  obtain ⟨N, hN⟩ : ∃ N, W.heap.size = N := ⟨_, rfl⟩
  obtain ⟨W0, hW0⟩ : ∃ Q, (W.alloc (Obj.cells #[.bool true, .slice ra n0 rc, .slice a1 n1 c1, .slice a2 n2 c2, .int .i64 x, .int .i64 y] 50)).alloc (Obj.cells #[.bool false, .int .i64 0, .slice none 0 0] 52) = Q := ⟨_, rfl⟩
  have hb0 : Below W.heap.size W W0 := by rw [← hW0]; exact (((Below.refl _ W).alloc (Nat.le_refl _) _).alloc (by simp) _)
  have HB0 : Hid (Bx W0 N #[.bool true, .slice ra n0 rc, .slice a1 n1 c1, .slice a2 n2 c2, .int .i64 x, .int .i64 y] 50) := by rw [← hW0]; exact (Bx.new' hN _ _).alloc _
  have HV0 : Hid (Bx W0 (N + 1) #[.bool false, .int .i64 0, .slice none 0 0] 52) := by rw [← hW0]; exact Bx.new' (by simp [hN]) _ _
  have kf := St.fixed_any _ _ W0 (h00.below hb0).di
  have HW0 : Hid _ := hW0
  have HBB : Hid (Below W.heap.size W W0) := hb0
  have HN : Hid (W.heap.size = N) := hN
  clear hW0 h h00 H1 H2 H3 HE hs hb0
  generalize St.fixB (sdM d) = fb at *
  generalize St.fixL (sdM d) = fl at *
  obtain ⟨z0, z1, z2, z3, z4, z5⟩ := HB0.out.six
  go_enter Tryz.func129, Tryz.ntmps129
  go_wp2_with fail
  rw [HW0.out]
  clear hN
  go_wp2_with fail
  refine kf.mono ?_
  clear kf z0 z1 z2 z3 z4 z5
  rintro e w1 ⟨sp, sn, sc, rfl, ho, hl, hb1⟩
  have HV1 : Hid (Bx w1 (N + 1) _ _) := HV0.out.below hb1
  have hb2 : Below W.heap.size W w1 := HBB.out.trans (hb1.mono HBB.out.size)
  have hrow : W0.heap.size > N + 1 := (Array.getElem?_eq_some_iff.1 HV0.out.h).1
  go_wp2_with (with_reducible refine stV rfl (.tmp 2) (.tmp 15) rfl (N + 1) fb 0 sp sn sc (by with_unfolding_all rfl) (by with_unfolding_all rfl) HV1.out rfl ?_)
  refine ⟨rfl, _, res_ct rfl _ (HV1.out.setRow _) (by with_unfolding_all rfl) rfl Tryz.underlying52 (by rw [Tryz.sizeVal]; rfl) (v := .bool fb) (by with_unfolding_all rfl), ?_⟩
  refine ⟨sp, sn, sc, rfl, ?_, hl.out, below_row hb2 (by rw [HN.out]; omega) _⟩
  have hown := ho.out
  refine own_baseX (own_keepX hown (fun g hg => setRow_other _ _ _ _ ?_)) HBB.out.size
  have := own_typX hown hg
  omega
theorem only_d {X : Nat → Prop} {W : World} {c : List Value} {d : MD} (h : Dc X W c d) (hf : Dm.FitsR d.r) :
    Calls Tryz.prog 129 #[.agg c.toArray] W fun e w' => ∃ b1 x1 sp sn sc, e = .returned (.tuple #[.agg #[.bool b1, .int .i64 x1, .slice sp sn sc], .bool (onlyA d)]) ∧ Below W.heap.size W w' := by
  unfold onlyA
  cases hs : d.set
  · simp only [Bool.false_eq_true, if_false]
    refine (only_w h hs hf).mono ?_
    rintro e w' ⟨he, hb⟩
    exact ⟨_, _, _, _, _, he, hb⟩
  · simp only [if_true]
    refine (only_s h hs).mono ?_
    rintro e w' ⟨sp, sn, sc, he, _, _, hb⟩
    exact ⟨_, _, _, _, _, he, hb⟩
set_option maxRecDepth 100000 in
set_option maxHeartbeats 4000000 in
set_option maxRecDepth 100000 in
set_option maxHeartbeats 4000000 in
theorem several_any {X : Nat → Prop} {W : World} {c : List Value} {d : MD} (h : Dc X W c d) (hg : Good d) :
    Calls Tryz.prog 90 #[.agg c.toArray] W fun e w' => e = .returned (.bool (sevB d)) ∧ Below W.heap.size W w' := by
  have h00 := h
  obtain ⟨b, ra, n0, rc, a1, n1, c1, a2, n2, c2, x, y, rfl, HE, H1, H2, H3⟩ := h.look
  obtain ⟨W0, hW0⟩ : ∃ Q, W.alloc (Obj.cells #[.bool b, .slice ra n0 rc, .slice a1 n1 c1, .slice a2 n2 c2, .int .i64 x, .int .i64 y] 50) = Q := ⟨_, rfl⟩
  have hb0 : Below W.heap.size W W0 := by rw [← hW0]; exact (Below.refl _ W).alloc (Nat.le_refl _) _
  have HB0 : Hid (Bx W0 W.heap.size #[.bool b, .slice ra n0 rc, .slice a1 n1 c1, .slice a2 n2 c2, .int .i64 x, .int .i64 y] 50) := by rw [← hW0]; exact Bx.new _ _ _
  have kr := right_d (h00.below hb0) hg
  have ke := fun (w : World) (hb : Below W0.heap.size W0 w) => empty_d ((h00.below hb0).below hb)
  have ko := fun (w : World) (hb : Below W0.heap.size W0 w) => only_d ((h00.below hb0).below hb) hg
  have HS : Hid (sevB d = (rightM d && !emptyA d && !onlyA d)) := rfl
  rw [HS.out]
  have HKE : Hid _ := ke
  have HKO : Hid _ := ko
  have HW0 : Hid _ := hW0
  clear hW0 h h00 H1 H2 H3 HE HS ke ko hg
  obtain ⟨z0, z1, z2, z3, z4, z5⟩ := HB0.out.six
  cases hR : rightM d
  · rw [hR] at kr
    go_enter Tryz.func90, Tryz.ntmps90
    go_wp2_with fail
    rw [HW0.out]
    go_wp2_with fail
    refine kr.mono ?_
    rintro e w1 ⟨rfl, hb1⟩
    go_wp2
    go_ret
    exact ⟨ret_bool (by simp), hb0.trans (hb1.mono hb0.size)⟩
  · rw [hR] at kr
    cases hE : emptyA d
    · obtain ⟨ob, hO⟩ : ∃ b, onlyA d = b := ⟨_, rfl⟩
      cases ob <;>
      · go_enter Tryz.func90, Tryz.ntmps90
        go_wp2_with fail
        rw [HW0.out]
        go_wp2_with fail
        refine kr.mono ?_
        rintro e w1 ⟨rfl, hb1⟩
        have HB1 : Hid (Bx w1 W.heap.size _ _) := HB0.out.below hb1
        have ke1 := HKE.out w1 hb1
        rw [hE] at ke1
        clear z0 z1 z2 z3 z4 z5
        obtain ⟨z0, z1, z2, z3, z4, z5⟩ := HB1.out.six
        go_wp2_with fail
        refine ke1.mono ?_
        clear ke1
        rintro e w2 ⟨rfl, hb2⟩
        have HB2 : Hid (Bx w2 W.heap.size _ _) := HB1.out.below hb2
        have hb3 : Below W0.heap.size W0 w2 := hb1.trans (hb2.mono hb1.size)
        have ko2 := HKO.out w2 hb3
        rw [hO] at ko2
        clear z0 z1 z2 z3 z4 z5
        obtain ⟨z0, z1, z2, z3, z4, z5⟩ := HB2.out.six
        go_wp2_with fail
        refine ko2.mono ?_
        clear ko2
        rintro e w4 ⟨vb, ov, vp, vn, vc, rfl, hb4⟩
        have HV : Hid (Bx (w4.alloc (Obj.cells #[.bool false, .int .i64 0, .slice none 0 0] 52)) w4.heap.size #[.bool false, .int .i64 0, .slice none 0 0] 52) := Bx.new _ _ _
        go_wp2_with (with_reducible refine stV rfl (.tmp 3) (.tmp 15) rfl w4.heap.size vb ov vp vn vc (by with_unfolding_all rfl) (by with_unfolding_all rfl) HV.out rfl ?_)
        go_ret
        have hbl : Below W.heap.size W w4 := hb0.trans ((hb3.trans (hb4.mono hb3.size)).mono hb0.size)
        exact ⟨ret_bool (by simp [hO]), by first | exact below_row (hbl.alloc hbl.size _) hbl.size _ | exact hbl.alloc hbl.size _⟩
    · go_enter Tryz.func90, Tryz.ntmps90
      go_wp2_with fail
      rw [HW0.out]
      go_wp2_with fail
      refine kr.mono ?_
      rintro e w1 ⟨rfl, hb1⟩
      have HB1 : Hid (Bx w1 W.heap.size _ _) := HB0.out.below hb1
      have ke1 := HKE.out w1 hb1
      rw [hE] at ke1
      clear z0 z1 z2 z3 z4 z5
      obtain ⟨z0, z1, z2, z3, z4, z5⟩ := HB1.out.six
      go_wp2_with fail
      refine ke1.mono ?_
      rintro e w2 ⟨rfl, hb2⟩
      go_wp2
      go_ret
      exact ⟨ret_bool (by simp), hb0.trans ((hb1.trans (hb2.mono hb1.size)).mono hb0.size)⟩
set_option maxRecDepth 100000 in
set_option maxHeartbeats 4000000 in
theorem ksize_s {X : Nat → Prop} {W : World} {c : List Value} {d : MD} (h : Dc X W c d) (hs : d.set = true) : Calls Tryz.prog 122 #[.agg c.toArray] W fun e w' => e = .returned (.int .i64 (St.countD (sdM d))) ∧ Below W.heap.size W w' := by
  have h0 := h
  obtain ⟨b, ra, n0, rc, a1, n1, c1, a2, n2, c2, x, y, rfl, HE, H1, H2, H3⟩ := h.look
  obtain rfl : b = true := by rw [← HE.out.1, hs]
  obtain ⟨W0, hW0⟩ : ∃ Q, W.alloc (Obj.cells #[.bool true, .slice ra n0 rc, .slice a1 n1 c1, .slice a2 n2 c2, .int .i64 x, .int .i64 y] 50) = Q := ⟨_, rfl⟩
  have hb0 : Below W.heap.size W W0 := by rw [← hW0]; exact (Below.refl _ W).alloc (Nat.le_refl _) _
  have HB0 : Hid (Bx W0 W.heap.size #[.bool true, .slice ra n0 rc, .slice a1 n1 c1, .slice a2 n2 c2, .int .i64 x, .int .i64 y] 50) := by rw [← hW0]; exact Bx.new _ _ _
  have kr := St.count_any _ _ W0 (h0.below hb0).di
  have HW0 : Hid _ := hW0
  clear h h0 hs HE H1 H2 H3 hW0
  obtain ⟨z0, z1, z2, z3, z4, z5⟩ := HB0.out.six
  generalize St.countD (sdM d) = q at *
  go_enter Tryz.func122, Tryz.ntmps122
  go_upto_region 1 with (fail)
  rw [HW0.out]
  go_wp2_with fail
  refine kr.mono ?_
  rintro e w1 ⟨rfl, hb1⟩
  go_wp2
  go_ret
  exact ⟨rfl, hb0.trans (hb1.mono hb0.size)⟩

set_option maxRecDepth 100000 in
set_option maxHeartbeats 4000000 in
theorem ksize_n {X : Nat → Prop} {W : World} {c : List Value} {d : MD} (h : Dc X W c d) (hs : d.set = false) (hf : Dm.FitsR d.r) : Calls Tryz.prog 122 #[.agg c.toArray] W fun e w' => e = .returned (.int .i64 (Dm.sizeR (Dm.tk d.r))) ∧ Below W.heap.size W w' := by
  have h0 := h
  obtain ⟨b, ra, n0, rc, a1, n1, c1, a2, n2, c2, x, y, rfl, HE, H1, H2, H3⟩ := h.look
  obtain rfl : b = false := by rw [← HE.out.1, hs]
  obtain ⟨W0, hW0⟩ : ∃ Q, W.alloc (Obj.cells #[.bool false, .slice ra n0 rc, .slice a1 n1 c1, .slice a2 n2 c2, .int .i64 x, .int .i64 y] 50) = Q := ⟨_, rfl⟩
  have hb0 : Below W.heap.size W W0 := by rw [← hW0]; exact (Below.refl _ W).alloc (Nat.le_refl _) _
  have HB0 : Hid (Bx W0 W.heap.size #[.bool false, .slice ra n0 rc, .slice a1 n1 c1, .slice a2 n2 c2, .int .i64 x, .int .i64 y] 50) := by rw [← hW0]; exact Bx.new _ _ _
  have kr := Dm.domsize_any _ _ _ (H1.out.kept (Kept.of_below hb0)).sr hf
  have HW0 : Hid _ := hW0
  clear h h0 hs HE H1 H2 H3 hW0
  obtain ⟨z0, z1, z2, z3, z4, z5⟩ := HB0.out.six
  generalize Dm.sizeR (Dm.tk d.r) = q at *
  go_enter Tryz.func122, Tryz.ntmps122
  go_upto_region 1 with (fail)
  rw [HW0.out]
  go_wp2_with fail
  refine kr.mono ?_
  rintro e w1 ⟨rfl, hb1⟩
  go_wp2
  go_ret
  exact ⟨rfl, hb0.trans (hb1.mono hb0.size)⟩
theorem ksize_d {X : Nat → Prop} {W : World} {c : List Value} {d : MD} (h : Dc X W c d) (hf : Dm.FitsR d.r) : Calls Tryz.prog 122 #[.agg c.toArray] W fun e w' => e = .returned (.int .i64 (sizA d)) ∧ Below W.heap.size W w' := by
  cases hs : d.set
  · have := ksize_n h hs hf
    unfold sizA; rw [if_neg (by simp [hs])]; exact this
  · have := ksize_s h hs
    unfold sizA; rw [if_pos hs]; exact this

theorem ksize_any {X : Nat → Prop} {W : World} {c : List Value} {d : MD} (h : Dc X W c d) (hg : Good d) : Calls Tryz.prog 122 #[.agg c.toArray] W fun e w' => e = .returned (.int .i64 (sizA d)) ∧ Below W.heap.size W w' := ksize_d h hg
end Go.Proofs.YthkliicmoandmaaGreatDoor
