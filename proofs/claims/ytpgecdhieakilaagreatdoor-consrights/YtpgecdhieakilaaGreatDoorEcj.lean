/-
  What is proved here: a term's value, as the program and the reference tell it.
  What is proved here: the reference tells whether two lists of terms are alike.
-/
import Derived.Test.YtpgecdhieakilaaGreatDoorEb
import Derived.Test.YtpgecdhieakilaaGreatDoorGa
namespace Go.Proofs.YtpgecdhieakilaaGreatDoor
open Go.RowKit Go.Shelf
set_option linter.unusedVariables false
set_option linter.unusedSimpArgs false

theorem Blk.new2 (w : World) (o : Obj) (cs : Array Value) (ty : TypeId) : Blk ((w.alloc o).alloc (.cells cs ty)) (w.heap.size + 1) cs ty := by
  have := Blk.new (w.alloc o) cs ty
  rw [World.size_alloc] at this
  exact this

end Go.Proofs.YtpgecdhieakilaaGreatDoor

namespace Go.Proofs.YtpgecdhieakilaaGreatDoor
open Go.RowKit Go.Shelf
set_option linter.unusedVariables false
set_option linter.unusedSimpArgs false

instance : DecidableEq Tm := fun a b => by cases a; cases b; simp only [Tm.mk.injEq]; infer_instance
theorem tm_eq (x y : Tm) : (x.v = y.v ∧ x.set = y.set ∧ x.n = y.n ∧ x.s = y.s) ↔ x = y := by cases x; cases y; simp

set_option maxRecDepth 100000 in
set_option maxHeartbeats 4000000 in
theorem sameTerms33 {B1 B2 : Nat} {W : World} {s1 s2 : Value} {l1 l2 : List Tm} (h1 : St B1 W s1 l1) (h2 : St B2 W s2 l2) (hz1 : l1.length ≤ 17592186043904) (hz2 : l2.length ≤ 17592186043904) (hL1 : ∀ t ∈ l1, t.s.length ≤ 17592186043904) (hL2 : ∀ t ∈ l2, t.s.length ≤ 17592186043904) :
    Calls Tryz.prog 33 #[s1, s2] W fun e w' => e = .returned (.bool (decide (l1 = l2))) ∧ Below W.heap.size W w' := by
  obtain ⟨a1, c1, rfl, h1'⟩ := h1
  obtain ⟨a2, c2, rfl, h2'⟩ := h2
  have H1 : Hid (St B1 W (.slice a1 l1.length c1) l1) := ⟨_, _, rfl, h1'⟩
  have H2 : Hid (St B2 W (.slice a2 l2.length c2) l2) := ⟨_, _, rfl, h2'⟩
  have HL1 : Hid (∀ t ∈ l1, t.s.length ≤ 17592186043904) := hL1
  have HL2 : Hid (∀ t ∈ l2, t.s.length ≤ 17592186043904) := hL2
  clear h1' h2' hL1 hL2
  obtain ⟨n1, hn1⟩ : ∃ n, l1.length = n := ⟨_, rfl⟩
  obtain ⟨n2, hn2⟩ : ∃ n, l2.length = n := ⟨_, rfl⟩
  rw [hn1] at hz1 H1 ⊢
  rw [hn2] at hz2 H2 ⊢
  have HN : Hid (l1.length = n1 ∧ l2.length = n2) := ⟨hn1, hn2⟩
  clear hn1 hn2
  by_cases hne : n1 = n2
  · subst hne
    go_enter Tryz.func33, Tryz.ntmps33
    go_wp2
    go_loopw [5] (fun i wr => ∃ k : Nat, k ≤ n1 ∧ i = .int .i64 (k : Int) ∧ Hid (l1.take k = l2.take k) ∧ Hid (Below W.heap.size W wr)) (fun i _ => n1 - (intOf i).toNat)
    case atStart => exact ⟨0, Nat.zero_le _, rfl, by simp [Hid], Below.refl _ _⟩
    case round =>
      obtain ⟨k, hk, rfl, HQ, HB⟩ := hrel
      by_cases hlt : k < n1
      · have hlt' : (k : Int) < n1 := by omega
        obtain ⟨x, hx⟩ : ∃ x, l1[k]? = some x := ⟨_, List.getElem?_eq_getElem (by rw [HN.out.1]; exact hlt)⟩
        obtain ⟨y, hy⟩ : ∃ x, l2[k]? = some x := ⟨_, List.getElem?_eq_getElem (by rw [HN.out.2]; exact hlt)⟩
        obtain ⟨b1, o1, a3, c3, rfl, hb1, g1, d0, d1, d2, d3⟩ := H1.out.at hx
        obtain ⟨b2, o2, a4, c4, rfl, hb2, g2, e0, e1, e2, e3⟩ := H2.out.at hy
        have HS : Hid (l1.take (k + 1) = l2.take (k + 1) ↔ x = y) := take_eq_succ hx hy HQ.out
        have kT : ∀ X, Below W.heap.size W X → Calls Tryz.prog 32 #[.agg #[.int .i64 x.v, .bool x.set, .int .i64 x.n, .slice a3 x.s.length c3], .agg #[.int .i64 y.v, .bool y.set, .int .i64 y.n, .slice a4 y.s.length c4]] X fun e w' => e = .returned (.bool (decide (x.v = y.v ∧ x.set = y.set ∧ x.n = y.n ∧ x.s = y.s))) ∧ Below X.heap.size X w' := fun X hX => sameTerm32 x.v y.v x.set y.set x.n y.n (g1.below hX) (g2.below hX) (HL1.out x (List.mem_of_getElem? hx)) (HL2.out y (List.mem_of_getElem? hy))
        obtain ⟨r, hr⟩ : ∃ r, decide (x.v = y.v ∧ x.set = y.set ∧ x.n = y.n ∧ x.s = y.s) = r := ⟨_, rfl⟩
        rw [hr] at kT
        have HR : Hid (decide (x.v = y.v ∧ x.set = y.set ∧ x.n = y.n ∧ x.s = y.s) = r) := hr
        clear g1 g2 hx hy hr
        have hw2 : IntKind.i64.wrap ((k : Int) + 1) = (k : Int) + 1 := by rw [IntKind.wrap_i64]; omega
        go_upto_region 6 with (fail)
        have hB : Below W.heap.size W wr.drew := Below.drew HB.out
        refine wp_region_held_drew (S := (fun w' => w'.cell? ⟨b1, o1 + k * 4, none⟩ = some (.int .i64 x.v) ∧ w'.cell? ⟨b1, o1 + k * 4 + 1, none⟩ = some (.bool x.set) ∧ w'.cell? ⟨b1, o1 + k * 4 + 2, none⟩ = some (.int .i64 x.n) ∧ w'.cell? ⟨b1, o1 + k * 4 + 3, none⟩ = some (.slice a3 x.s.length c3) ∧ w'.cell? ⟨b2, o2 + k * 4, none⟩ = some (.int .i64 y.v) ∧ w'.cell? ⟨b2, o2 + k * 4 + 1, none⟩ = some (.bool y.set) ∧ w'.cell? ⟨b2, o2 + k * 4 + 2, none⟩ = some (.int .i64 y.n) ∧ w'.cell? ⟨b2, o2 + k * 4 + 3, none⟩ = some (.slice a4 y.s.length c4))) (by kernel_rfl) (⟨(hB.cell (p := ⟨b1, o1 + k * 4, none⟩) hb1).trans d0, (hB.cell (p := ⟨b1, o1 + k * 4 + 1, none⟩) hb1).trans d1, (hB.cell (p := ⟨b1, o1 + k * 4 + 2, none⟩) hb1).trans d2, (hB.cell (p := ⟨b1, o1 + k * 4 + 3, none⟩) hb1).trans d3, (hB.cell (p := ⟨b2, o2 + k * 4, none⟩) hb2).trans e0, (hB.cell (p := ⟨b2, o2 + k * 4 + 1, none⟩) hb2).trans e1, (hB.cell (p := ⟨b2, o2 + k * 4 + 2, none⟩) hb2).trans e2, (hB.cell (p := ⟨b2, o2 + k * 4 + 3, none⟩) hb2).trans e3⟩) (fun hHeld => ?_)
        refine wpAnyH_take (i := 0) (oi := { dst := some 17, op := Go.Op.move (Go.Operand.tmp 0), type := 52, pos := "ref.go:339", after := #[], guard := none }) (v := ?_) rfl (by kernel_rfl) (by kernel_rfl) (by kernel_rfl) (fun _ _ _ h => h) (Or.inl ⟨by rfl, ?_⟩) hHeld ?_
        rotate_left
        · intro w hSw; (try dsimp only at hSw); go_simp <;> with_reducible rfl
        try simp only [Act.put, List.setIfInBounds_toArray, List.set_cons_zero, List.set_cons_succ]
        refine wpAnyH_take (i := 1) (oi := { dst := some 18, op := Go.Op.move (Go.Operand.tmp 5), type := 3, pos := "ref.go:339", after := #[], guard := none }) (v := ?_) rfl (by kernel_rfl) (by kernel_rfl) (by kernel_rfl) (fun _ _ _ h => h) (Or.inl ⟨by rfl, ?_⟩) hHeld ?_
        rotate_left
        · intro w hSw; (try dsimp only at hSw); go_simp <;> with_reducible rfl
        try simp only [Act.put, List.setIfInBounds_toArray, List.set_cons_zero, List.set_cons_succ]
        refine wpAnyH_take (i := 2) (oi := { dst := some 19, op := Go.Op.indexAddr 52 (Go.Operand.tmp 17) (Go.Operand.tmp 18), type := 0, pos := "ref.go:339", after := #[{ on := 0, ground := Go.Ground.data }, { on := 1, ground := Go.Ground.data }], guard := none }) (v := ?_) rfl (by kernel_rfl) (by kernel_rfl) (by kernel_rfl) (fun _ _ _ h => h) (Or.inl ⟨by rfl, ?_⟩) hHeld ?_
        rotate_left
        · intro w hSw; (try dsimp only at hSw); go_simp <;> with_reducible rfl
        try simp only [Act.put, List.setIfInBounds_toArray, List.set_cons_zero, List.set_cons_succ]
        refine wpAnyH_take (i := 3) (oi := { dst := some 20, op := Go.Op.load 46 (Go.Operand.tmp 19), type := 46, pos := "ref.go:339", after := #[{ on := 2, ground := Go.Ground.data }], guard := none }) (v := ?_) rfl (by kernel_rfl) (by kernel_rfl) (by kernel_rfl) (fun _ _ _ h => h) (Or.inl ⟨by rfl, ?_⟩) hHeld ?_
        rotate_left
        · intro w hSw; obtain ⟨y0, y1, y2, y3, _⟩ := hSw; go_simp <;> with_reducible rfl
        try simp only [Act.put, List.setIfInBounds_toArray, List.set_cons_zero, List.set_cons_succ]
        refine wpAnyH_take (i := 4) (oi := { dst := some 21, op := Go.Op.move (Go.Operand.tmp 1), type := 52, pos := "ref.go:339", after := #[], guard := none }) (v := ?_) rfl (by kernel_rfl) (by kernel_rfl) (by kernel_rfl) (fun _ _ _ h => h) (Or.inl ⟨by rfl, ?_⟩) hHeld ?_
        rotate_left
        · intro w hSw; (try dsimp only at hSw); go_simp <;> with_reducible rfl
        try simp only [Act.put, List.setIfInBounds_toArray, List.set_cons_zero, List.set_cons_succ]
        refine wpAnyH_take (i := 5) (oi := { dst := some 22, op := Go.Op.move (Go.Operand.tmp 5), type := 3, pos := "ref.go:339", after := #[], guard := none }) (v := ?_) rfl (by kernel_rfl) (by kernel_rfl) (by kernel_rfl) (fun _ _ _ h => h) (Or.inl ⟨by rfl, ?_⟩) hHeld ?_
        rotate_left
        · intro w hSw; (try dsimp only at hSw); go_simp <;> with_reducible rfl
        try simp only [Act.put, List.setIfInBounds_toArray, List.set_cons_zero, List.set_cons_succ]
        refine wpAnyH_take (i := 6) (oi := { dst := some 23, op := Go.Op.indexAddr 52 (Go.Operand.tmp 21) (Go.Operand.tmp 22), type := 0, pos := "ref.go:339", after := #[{ on := 4, ground := Go.Ground.data }, { on := 5, ground := Go.Ground.data }], guard := none }) (v := ?_) rfl (by kernel_rfl) (by kernel_rfl) (by kernel_rfl) (fun _ _ _ h => h) (Or.inl ⟨by rfl, ?_⟩) hHeld ?_
        rotate_left
        · intro w hSw; (try dsimp only at hSw); go_simp <;> with_reducible rfl
        try simp only [Act.put, List.setIfInBounds_toArray, List.set_cons_zero, List.set_cons_succ]
        refine wpAnyH_take (i := 7) (oi := { dst := some 24, op := Go.Op.load 46 (Go.Operand.tmp 23), type := 46, pos := "ref.go:339", after := #[{ on := 6, ground := Go.Ground.data }], guard := none }) (v := ?_) rfl (by kernel_rfl) (by kernel_rfl) (by kernel_rfl) (fun _ _ _ h => h) (Or.inl ⟨by rfl, ?_⟩) hHeld ?_
        rotate_left
        · intro w hSw; obtain ⟨_, _, _, _, y0, y1, y2, y3⟩ := hSw; go_simp <;> with_reducible rfl
        try simp only [Act.put, List.setIfInBounds_toArray, List.set_cons_zero, List.set_cons_succ]
        refine wpAnyH_ready (rs := [8]) (by kernel_rfl) (by simp) ?_
        refine AllReadyH.cons rfl (fun K hK => ?_) AllReadyH.nil
        go_simp
        refine (kT _ hB).mono ?_
        rintro e w4 ⟨rfl, hb4⟩
        have hB := hB.trans (hb4.mono hB.size)
        clear hb4
        refine hK.out _ _ (⟨(hB.cell (p := ⟨b1, o1 + k * 4, none⟩) hb1).trans d0, (hB.cell (p := ⟨b1, o1 + k * 4 + 1, none⟩) hb1).trans d1, (hB.cell (p := ⟨b1, o1 + k * 4 + 2, none⟩) hb1).trans d2, (hB.cell (p := ⟨b1, o1 + k * 4 + 3, none⟩) hb1).trans d3, (hB.cell (p := ⟨b2, o2 + k * 4, none⟩) hb2).trans e0, (hB.cell (p := ⟨b2, o2 + k * 4 + 1, none⟩) hb2).trans e1, (hB.cell (p := ⟨b2, o2 + k * 4 + 2, none⟩) hb2).trans e2, (hB.cell (p := ⟨b2, o2 + k * 4 + 3, none⟩) hb2).trans e3⟩) (fun hHeld2 => ?_)
        clear hK K hHeld
        have hHeld := hHeld2
        clear hHeld2
        try simp only [Act.put, List.setIfInBounds_toArray, List.set_cons_zero, List.set_cons_succ]
        refine wpAnyH_take (i := 9) (oi := { dst := some 26, op := Go.Op.unOp Go.UnOp.not 4 (Go.Operand.tmp 25), type := 4, pos := "ref.go:339", after := #[{ on := 8, ground := Go.Ground.data }], guard := none }) (v := ?_) rfl (by kernel_rfl) (by kernel_rfl) (by kernel_rfl) (fun _ _ _ h => h) (Or.inl ⟨by rfl, ?_⟩) hHeld ?_
        rotate_left
        · intro w hSw; (try dsimp only at hSw); go_simp <;> with_reducible rfl
        try simp only [Act.put, List.setIfInBounds_toArray, List.set_cons_zero, List.set_cons_succ]
        refine wpAnyH_done (by kernel_rfl) ?_ _
        have HB9 : Hid _ := hB
        clear hB
        cases r with
        | true =>
          have HT : Hid _ := HS.out.2 ((tm_eq x y).1 (decide_eq_true_iff.1 HR.out))
          go_wp2
          go_roundw
          case rel => exact ⟨k + 1, by omega, by go_num, HT, HB9⟩
          case measure => simp [intOf]; omega
        | false =>
          have HF : Hid (l1 ≠ l2) := fun e => (decide_eq_false_iff_not.1 HR.out) ((tm_eq x y).2 (HS.out.1 (by rw [e])))
          go_wp2
          go_ret
          exact ⟨by simp [HF.out], HB9.out⟩
      · have hlt' : ¬ (k : Int) < n1 := by omega
        obtain rfl : k = n1 := by omega
        have HT : Hid (l1 = l2) := take_eq_all HN.out.1 HN.out.2 HQ.out
        go_wp2
        go_ret
        exact ⟨by simp [HT.out], HB.out⟩
  · have HF : Hid (l1 ≠ l2) := fun e => hne (by rw [← HN.out.1, ← HN.out.2, e])
    have hd : ((n1 : Int) != n2) = true := by simp; omega
    have hd2 : ((n1 : Int) == n2) = false := by simp; omega
    go_enter Tryz.func33, Tryz.ntmps33
    go_wp2
    go_ret
    exact ⟨by simp [HF.out], Below.refl _ _⟩
end Go.Proofs.YtpgecdhieakilaaGreatDoor
