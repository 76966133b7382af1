/-
  What is proved here: the walk of ConsTurns.
-/
import Derived.Test.YtaeobgajhieajaaGreatDoorJc
namespace Go.Proofs.YtaeobgajhieajaaGreatDoor
open Go.RowKit Go.Shelf
set_option linter.unusedVariables false
set_option linter.unusedSimpArgs false

theorem made_bool (n : Nat) : madeCells #[.bool false] n = (boolv (List.replicate n false)).toArray := by
  apply Array.ext
  · simp [madeCells, boolv]
  · intro i h1 h2
    simp [madeCells, boolv, Nat.mod_one]
theorem boolv_set (l : List Bool) (i : Nat) (x : Bool) : (boolv l).toArray.setIfInBounds i (.bool x) = (boolv (l.set i x)).toArray := by
  rw [List.setIfInBounds_toArray]
  unfold boolv
  rw [List.map_set]
theorem set_same {α : Type} {l : List α} {k : Nat} {x : α} (h : l[k]? = some x) : l.set k x = l := by
  obtain ⟨hk, rfl⟩ := List.getElem?_eq_some_iff.1 h
  exact List.set_getElem_self hk
theorem Below.cell_other (w : World) (p q : Addr) (v : Value) (h : q.block ≠ p.block) : (w.setCell p v).cell? q = w.cell? q := World.cell?_of_block (Below.heap_setCell w p v q.block h)
theorem add_mod_inj {n r i j : Nat} (hi : i < n) (hj : j < n) (h : (i + r) % n = (j + r) % n) : i = j := by
  have h1 := tvN_inj (n := n) (r := r) (u := i) (v := j) (by omega) (by omega) (by
    unfold tvN
    rw [if_pos (by omega), if_pos (by omega)]
    have h2 := congrArg (fun x : Nat => (x : Int)) h
    simp only [Int.natCast_emod, Int.natCast_add] at h2
    exact h2)
  omega

set_option maxRecDepth 100000 in
set_option maxHeartbeats 40000000 in
theorem turns_walk (nm : List UInt8) (ags : List Ag) (bs : List Bool) (by0 : Int) {a0 : Option Addr} {n0 c0 : Nat} {a1 : Option Addr} {n1 c1 : Nat} (W : World) (hM : MaxL W) (h : Sa 0 W (.slice a0 n0 c0) ags) (hlen : ags.length = n0) (hc : n0 ≤ c0) (hc9 : c0 ≤ 9223372036854775807)
    (hb : Sb W (.slice a1 n1 c1) bs) (hbn : bs.length = n1) (hn1 : n1 ≤ 140737488351232) (hn : n0 * 32 ≤ 140737488351232) (hl : ∀ g ∈ ags, g.l.length * 48 ≤ 140737488351232) (hs : ∀ g ∈ ags, ∀ t ∈ g.l, t.s.length * 8 ≤ 140737488351232) :
    Calls Tryz.prog 7 #[.agg #[.string ⟨nm.toArray⟩, .slice a0 n0 c0], .slice a1 n1 c1, .int .i64 by0] W fun e w' => e = .returned (.bool true) ∧ Below W.heap.size W w' := by
  obtain ⟨i4, hi4, hz4, hs4, hb4⟩ := info_parts Tryz.info4
  have HQ : Hid (n0 ≤ c0 ∧ c0 ≤ 9223372036854775807 ∧ n0 * 32 ≤ 140737488351232 ∧ (∀ g ∈ ags, g.l.length * 48 ≤ 140737488351232) ∧ ∀ g ∈ ags, ∀ t ∈ g.l, t.s.length * 8 ≤ 140737488351232) := ⟨hc, hc9, hn, hl, hs⟩
  have HN : Hid (ags.length = n0 ∧ bs.length = n1) := ⟨hlen, hbn⟩
  have HA : Hid (Sa 0 W (.slice a0 n0 c0) ags) := h
  have HBS : Hid (Sb W (.slice a1 n1 c1) bs) := hb
  have HM : Hid (MaxL W) := hM
  have KN : Hid (∀ X, Below W.heap.size W X → Calls Tryz.prog 14 #[] X fun e w' => e = .returned (.bool true) ∧ Below X.heap.size X w') := fun X hX => known14 X (hM.below hX hM.1)
  have KR : Hid (∀ X, Below W.heap.size W X → Calls Tryz.prog 18 #[.agg #[.string ⟨nm.toArray⟩, .slice a0 n0 c0], .slice a1 n1 c1] X fun e w' => e = .returned (.int .i64 (rightB nm ags bs)) ∧ Below X.heap.size X w') := fun X hX => right_any nm (hM.below hX hM.1) (h.below hX) hlen hc hc9 (hb.below hX) hbn (by omega) (fun g hg => by have := hl g hg; omega) (fun g hg t ht => by have := hs g hg t ht; omega)
  have KL : Hid (∀ X, Below W.heap.size W X → Calls Tryz.prog 15 #[.agg #[.string ⟨nm.toArray⟩, .slice a0 n0 c0]] X fun e w' => ∃ v, e = .returned (.agg #[.string ⟨nm.toArray⟩, v]) ∧ Ao X.heap.size w' v ags ∧ Below X.heap.size X w') := fun X hX => lent15 nm ags X (h.below hX) hlen (by omega) (fun g hg => by have := hl g hg; omega) (fun g hg t ht => by have := hs g hg t ht; omega)
  clear hlen hc hc9 hbn hn hl hs h hb hM
  obtain ⟨WA, hWA⟩ : ∃ X, W.alloc (Obj.cells #[.string ⟨nm.toArray⟩, .slice a0 n0 c0] 32) = X := ⟨_, rfl⟩
  have HB : Hid (Below W.heap.size W WA) := by rw [Hid, ← hWA]; exact (Below.refl _ W).alloc (Nat.le_refl _) _
  have KC : Hid (Blk WA W.heap.size #[.string ⟨nm.toArray⟩, .slice a0 n0 c0] 32) := by rw [Hid, ← hWA]; exact Blk.new W _ _
  have HWA : Hid (W.alloc (Obj.cells #[.string ⟨nm.toArray⟩, .slice a0 n0 c0] 32) = WA) := hWA
  obtain ⟨bC, hbC⟩ : ∃ x, W.heap.size = x := ⟨_, rfl⟩
  have HBC : Hid (W.heap.size = bC) := hbC
  rw [hbC] at KC
  clear hWA hbC
  by_cases hz : n1 = 0
  · subst hz
    have kN := KN.out WA HB.out
    go_enter Tryz.func7, Tryz.ntmps7
    go_upto_region 1 with (fail)
    rw [HWA.out, HBC.out]
    go_wp2_with fail
    refine kN.mono ?_
    rintro e w1 ⟨rfl, hb⟩
    have HB1 : Hid (Below W.heap.size W w1) := HB.out.trans (hb.mono HB.out.size)
    clear hb kN
    go_wp2
    go_ret
    exact ⟨rfl, HB1.out⟩
  · have hz1 : ((n1 : Int) == 0) = false := by simp; exact hz
    have hz2 : ¬ (n1 : Int) = 0 := by omega
    go_enter Tryz.func7, Tryz.ntmps7
    go_upto_region 1 with (fail)
    rw [HWA.out, HBC.out]
    clear HWA
    obtain ⟨m, hm⟩ : ∃ m, by0.tmod (n1 : Int) = m := ⟨_, rfl⟩
    have hm1 : -(n1 : Int) < m ∧ m < n1 := by
      rw [← hm]
      have h1 := Int.lt_tmod_of_pos by0 (show 0 < (n1 : Int) by omega)
      have h2 := Int.tmod_lt_of_pos by0 (show 0 < (n1 : Int) by omega)
      exact ⟨h1, h2⟩
    go_upto_region 5 with (fail)
    clear hm
    by_cases hneg : m < 0
    · have hw : IntKind.i64.wrap (m + n1) = m + n1 := by rw [IntKind.wrap_i64]; omega
      obtain ⟨r, hr⟩ : ∃ r : Nat, m + (n1 : Int) = r := ⟨(m + n1).toNat, by omega⟩
      have hrn : r < n1 := by omega
      go_upto_region 7 with (fail)
      try simp only [hw, hr]
      clear hw hm1 hneg hr
      have x0 : WA.cell? ⟨bC, 0, none⟩ = some (.string ⟨nm.toArray⟩) := KC.out.cell 0
      have x1 : WA.cell? ⟨bC, 1, none⟩ = some (.slice a0 n0 c0) := KC.out.cell 1
      have kR := KR.out WA HB.out
      obtain ⟨ee, hee⟩ : ∃ r, rightB nm ags bs = r := ⟨_, rfl⟩
      rw [hee] at kR
      have HR : Hid (rightB nm ags bs = ee) := hee
      clear hee
      go_wp2_with fail
      refine kR.mono ?_
      clear kR x0 x1
      rintro e w1 ⟨rfl, hb⟩
      replace HB : Hid (Below W.heap.size W w1) := HB.out.trans (hb.mono HB.out.size)
      replace KC : Hid (Blk w1 bC #[.string ⟨nm.toArray⟩, .slice a0 n0 c0] 32) := Blk.below KC.out hb
      clear hb
      have x0 : w1.cell? ⟨bC, 0, none⟩ = some (.string ⟨nm.toArray⟩) := KC.out.cell 0
      have x1 : w1.cell? ⟨bC, 1, none⟩ = some (.slice a0 n0 c0) := KC.out.cell 1
      have kL := KL.out w1 HB.out
      obtain ⟨b1, hb1⟩ : ∃ x, w1.heap.size = x := ⟨_, rfl⟩
      have HB1 : Hid (w1.heap.size = b1) := hb1
      have hb1C : bC < b1 := by rw [← hb1]; exact KC.out.lt
      clear hb1
      go_wp2_with fail
      refine kL.mono ?_
      clear kL x0 x1
      rintro e w2 ⟨v, rfl, hao, hb⟩
      obtain ⟨hsa, pv, cv, rfl, _, _⟩ := ao_sa hao
      rw [HN.out.1] at hao ⊢
      replace HB : Hid (Below W.heap.size W w2) := HB.out.trans (hb.mono HB.out.size)
      replace KC : Hid (Blk w2 bC #[.string ⟨nm.toArray⟩, .slice a0 n0 c0] 32) := Blk.below KC.out hb
      have HAO : Hid (Ao b1 w2 (.slice pv n0 cv) ags) := (by rw [← HB1.out]; exact hao : Ao b1 w2 (.slice pv n0 cv) ags)
      have HS2 : Hid (b1 ≤ w2.heap.size) := (by rw [← HB1.out]; exact hb.size : b1 ≤ w2.heap.size)
      clear hb hao hsa
      obtain ⟨w3, hw3⟩ : ∃ X, w2.alloc (Obj.cells #[.string ⟨nm.toArray⟩, .slice pv n0 cv] 32) = X := ⟨_, rfl⟩
      obtain ⟨bD, hbD⟩ : ∃ x, w2.heap.size = x := ⟨_, rfl⟩
      have hw23 : Below w2.heap.size w2 w3 := by rw [← hw3]; exact (Below.refl _ w2).alloc (Nat.le_refl _) _
      have KD : Hid (Blk w3 bD #[.string ⟨nm.toArray⟩, .slice pv n0 cv] 32) := by rw [Hid, ← hw3, ← hbD]; exact Blk.new w2 _ _
      have HW3 : Hid _ := hw3
      have HBD : Hid _ := hbD
      clear hw3 hbD
      go_upto_region 9 with (fail)
      rw [HW3.out, HBD.out]
      replace HB : Hid (Below W.heap.size W w3) := HB.out.trans (hw23.mono HB.out.size)
      replace KC : Hid (Blk w3 bC #[.string ⟨nm.toArray⟩, .slice a0 n0 c0] 32) := Blk.below KC.out hw23
      replace HAO : Hid (Ao b1 w3 (.slice pv n0 cv) ags) := Ao.below HAO.out hw23
      have hb1D : b1 ≤ bD := by rw [← HBD.out]; exact HS2.out
      clear HS2 HW3 HBD hw23
      obtain ⟨bK, hbK⟩ : ∃ x, w3.heap.size = x := ⟨_, rfl⟩
      have HK3 : Hid (w3.heap.size = bK) := hbK
      have hbDK : bD < bK := by rw [← hbK]; exact KD.out.lt
      clear hbK
      obtain ⟨w4, hw4⟩ : ∃ X, w3.alloc (Obj.cells (madeCells #[.bool false] n1) 4) = X := ⟨_, rfl⟩
      have HW4 : Hid (w3.alloc (Obj.cells (madeCells #[.bool false] n1) 4) = w4) := hw4
      have KK : Hid (Blk w4 bK (boolv (List.replicate n1 false)).toArray 4) := by rw [Hid, ← hw4, ← HK3.out, ← made_bool]; exact Blk.new w3 _ _
      have HBK : Hid (Below bK w3 w4) := by rw [Hid, ← hw4, ← HK3.out]; exact (Below.refl _ w3).alloc (Nat.le_refl _) _
      clear hw4
      go_wp2_with (at_make; refine wpList_make_row _ rfl _ _ 33 rfl 4 i4 (.bool false) Tryz.underlying33 hi4 hz4 hs4 rfl .i64 .i64 n1 rfl rfl (by rw [hb4]; omega) (by omega) ?_; rw [HW4.out, HK3.out])
      clear HW4
      go_loopw [11] (fun i wr => ∃ k : Nat, k ≤ n1 ∧ i = .int .i64 (k : Int) ∧ ∃ ks : List Bool, Hid (ks.length = n1 ∧ (∀ (j : Nat) (x : Bool), j < k → bs[j]? = some x → ks[(j + r) % n1]? = some x)) ∧ Hid (Blk wr bK (boolv ks).toArray 4) ∧ Hid (Below bK w3 wr)) (fun i _ => n1 - (intOf i).toNat)
      case atStart => exact ⟨0, Nat.zero_le _, rfl, _, ⟨by simp, fun j x h => by omega⟩, KK, HBK⟩
      case round =>
        clear KK HBK
        obtain ⟨k, hk, rfl, ks, HKS, KK, HBK⟩ := hrel
        by_cases hlt : k < n1
        · have hlt' : (k : Int) < n1 := by omega
          obtain ⟨x, hx⟩ : ∃ x, bs[k]? = some x := ⟨_, List.getElem?_eq_getElem (by rw [HN.out.2]; exact hlt)⟩
          have HX : Hid (bs[k]? = some x) := hx
          obtain ⟨aI, cI, eI, hI⟩ := HBS.out
          injection eI with eI eIn eIc
          clear eIn eIc
          subst eI
          obtain ⟨bI, offI, rfl, hbI, hcI⟩ := hI (by rw [HN.out.2]; omega)
          have xI := (HB.out.cell (p := ⟨bI, offI + k, none⟩) hbI).trans (hcI k x hx)
          have hbIK : bI < bK := by have := HB.out.size; rw [HK3.out] at this; omega
          clear hcI hbI hI hx
          obtain ⟨kr, hkr⟩ : ∃ y, k + r = y := ⟨_, rfl⟩
          obtain ⟨qq, hqq⟩ : ∃ y, kr % n1 = y := ⟨_, rfl⟩
          have hs1 : IntKind.i64.wrap ((k : Int) + (r : Int)) = (kr : Int) := by rw [IntKind.wrap_i64]; omega
          have hs2 : (kr : Int).tmod (n1 : Int) = (qq : Int) := by rw [← hqq]; rfl
          have hs3 : qq < n1 := by rw [← hqq]; exact Nat.mod_lt _ (by omega)
          have hs4 : (qq : Int) < n1 := by omega
          have HKQ : Hid ((boolv ks).toArray[qq]? = some (.bool (ks[qq]'(by rw [HKS.out.1]; exact hs3)))) := by rw [Hid]; simp [boolv]
          have HQQ : Hid ((k + r) % n1 = qq) := (by rw [hkr]; exact hqq : (k + r) % n1 = qq)
          have hw0 : IntKind.i64.wrap ((k : Int) + 1) = (k : Int) + 1 := by rw [IntKind.wrap_i64]; omega
          clear hkr hqq
          go_upto_region 13 with (fail)
          refine wp_region_held_drew (S := (fun w' => Below bK w3 w')) (by kernel_rfl) (Below.drew HBK.out) (fun hHeld => ?_)
          refine wpAnyH_take (i := 0) (oi := { dst := some 40, op := Go.Op.move (Go.Operand.tmp 10), type := 33, pos := "law.go:126", after := #[], guard := none }) (v := ?_) rfl (by kernel_rfl) (by kernel_rfl) (by kernel_rfl) (fun _ _ _ h => h) (Or.inl ⟨by rfl, ?_⟩) hHeld ?_
          rotate_left
          · intro w hSw; (try dsimp only at hSw); go_simp <;> with_reducible rfl
          try simp only [Act.put, List.setIfInBounds_toArray, List.set_cons_zero, List.set_cons_succ]
          refine wpAnyH_take (i := 1) (oi := { dst := some 41, op := Go.Op.move (Go.Operand.tmp 11), type := 3, pos := "law.go:126", after := #[], guard := none }) (v := ?_) rfl (by kernel_rfl) (by kernel_rfl) (by kernel_rfl) (fun _ _ _ h => h) (Or.inl ⟨by rfl, ?_⟩) hHeld ?_
          rotate_left
          · intro w hSw; (try dsimp only at hSw); go_simp <;> with_reducible rfl
          try simp only [Act.put, List.setIfInBounds_toArray, List.set_cons_zero, List.set_cons_succ]
          refine wpAnyH_take (i := 2) (oi := { dst := some 42, op := Go.Op.move (Go.Operand.tmp 2), type := 3, pos := "law.go:126", after := #[], guard := none }) (v := ?_) rfl (by kernel_rfl) (by kernel_rfl) (by kernel_rfl) (fun _ _ _ h => h) (Or.inl ⟨by rfl, ?_⟩) hHeld ?_
          rotate_left
          · intro w hSw; (try dsimp only at hSw); go_simp <;> with_reducible rfl
          try simp only [Act.put, List.setIfInBounds_toArray, List.set_cons_zero, List.set_cons_succ]
          refine wpAnyH_take (i := 3) (oi := { dst := some 43, op := Go.Op.binOp Go.BinOp.add 3 (Go.Operand.tmp 41) (Go.Operand.tmp 42) 3, type := 3, pos := "law.go:126", after := #[{ on := 1, ground := Go.Ground.data }, { on := 2, ground := Go.Ground.data }], guard := none }) (v := ?_) rfl (by kernel_rfl) (by kernel_rfl) (by kernel_rfl) (fun _ _ _ h => h) (Or.inl ⟨by rfl, ?_⟩) hHeld ?_
          rotate_left
          · intro w hSw; (try dsimp only at hSw); go_simp <;> with_reducible rfl
          try simp only [Act.put, List.setIfInBounds_toArray, List.set_cons_zero, List.set_cons_succ]
          refine wpAnyH_take (i := 4) (oi := { dst := some 44, op := Go.Op.move (Go.Operand.tmp 7), type := 3, pos := "law.go:126", after := #[], guard := none }) (v := ?_) rfl (by kernel_rfl) (by kernel_rfl) (by kernel_rfl) (fun _ _ _ h => h) (Or.inl ⟨by rfl, ?_⟩) hHeld ?_
          rotate_left
          · intro w hSw; (try dsimp only at hSw); go_simp <;> with_reducible rfl
          try simp only [Act.put, List.setIfInBounds_toArray, List.set_cons_zero, List.set_cons_succ]
          refine wpAnyH_take (i := 5) (oi := { dst := some 45, op := Go.Op.binOp Go.BinOp.rem 3 (Go.Operand.tmp 43) (Go.Operand.tmp 44) 3, type := 3, pos := "law.go:126", after := #[{ on := 3, ground := Go.Ground.data }, { on := 4, ground := Go.Ground.data }], guard := none }) (v := ?_) rfl (by kernel_rfl) (by kernel_rfl) (by kernel_rfl) (fun _ _ _ h => h) (Or.inl ⟨by rfl, ?_⟩) hHeld ?_
          rotate_left
          · intro w hSw; (try dsimp only at hSw); go_simp <;> with_reducible rfl
          try simp only [Act.put, List.setIfInBounds_toArray, List.set_cons_zero, List.set_cons_succ]
          refine wpAnyH_take (i := 6) (oi := { dst := some 46, op := Go.Op.move (Go.Operand.tmp 1), type := 33, pos := "law.go:126", after := #[], guard := none }) (v := ?_) rfl (by kernel_rfl) (by kernel_rfl) (by kernel_rfl) (fun _ _ _ h => h) (Or.inl ⟨by rfl, ?_⟩) hHeld ?_
          rotate_left
          · intro w hSw; (try dsimp only at hSw); go_simp <;> with_reducible rfl
          try simp only [Act.put, List.setIfInBounds_toArray, List.set_cons_zero, List.set_cons_succ]
          refine wpAnyH_take (i := 7) (oi := { dst := some 47, op := Go.Op.move (Go.Operand.tmp 11), type := 3, pos := "law.go:126", after := #[], guard := none }) (v := ?_) rfl (by kernel_rfl) (by kernel_rfl) (by kernel_rfl) (fun _ _ _ h => h) (Or.inl ⟨by rfl, ?_⟩) hHeld ?_
          rotate_left
          · intro w hSw; (try dsimp only at hSw); go_simp <;> with_reducible rfl
          try simp only [Act.put, List.setIfInBounds_toArray, List.set_cons_zero, List.set_cons_succ]
          refine wpAnyH_take (i := 8) (oi := { dst := some 48, op := Go.Op.indexAddr 33 (Go.Operand.tmp 46) (Go.Operand.tmp 47), type := 0, pos := "law.go:126", after := #[{ on := 6, ground := Go.Ground.data }, { on := 7, ground := Go.Ground.data }], guard := none }) (v := ?_) rfl (by kernel_rfl) (by kernel_rfl) (by kernel_rfl) (fun _ _ _ h => h) (Or.inl ⟨by rfl, ?_⟩) hHeld ?_
          rotate_left
          · intro w hSw; (try dsimp only at hSw); go_simp <;> with_reducible rfl
          try simp only [Act.put, List.setIfInBounds_toArray, List.set_cons_zero, List.set_cons_succ]
          refine wpAnyH_take (i := 9) (oi := { dst := some 49, op := Go.Op.load 4 (Go.Operand.tmp 48), type := 4, pos := "law.go:126", after := #[{ on := 8, ground := Go.Ground.data }], guard := none }) (v := ?_) rfl (by kernel_rfl) (by kernel_rfl) (by kernel_rfl) (fun _ _ _ h => h) (Or.inl ⟨by rfl, ?_⟩) hHeld ?_
          rotate_left
          · intro w hSw; (try dsimp only at hSw); have c9 := (hSw.cell (p := ⟨bI, offI + k, none⟩) hbIK).trans xI; go_simp <;> with_reducible rfl
          try simp only [Act.put, List.setIfInBounds_toArray, List.set_cons_zero, List.set_cons_succ]
          refine wpAnyH_take (i := 10) (oi := { dst := some 50, op := Go.Op.indexAddr 33 (Go.Operand.tmp 40) (Go.Operand.tmp 45), type := 0, pos := "law.go:126", after := #[{ on := 0, ground := Go.Ground.data }, { on := 5, ground := Go.Ground.data }, { on := 0, ground := Go.Ground.phase }, { on := 1, ground := Go.Ground.phase }, { on := 2, ground := Go.Ground.phase }, { on := 3, ground := Go.Ground.phase }, { on := 4, ground := Go.Ground.phase }, { on := 5, ground := Go.Ground.phase }, { on := 6, ground := Go.Ground.phase }, { on := 7, ground := Go.Ground.phase }, { on := 8, ground := Go.Ground.phase }, { on := 9, ground := Go.Ground.phase }], guard := none }) (v := ?_) rfl (by kernel_rfl) (by kernel_rfl) (by kernel_rfl) (fun _ _ _ h => h) (Or.inl ⟨by rfl, ?_⟩) hHeld ?_
          rotate_left
          · intro w hSw; (try dsimp only at hSw); go_simp <;> with_reducible rfl
          try simp only [Act.put, List.setIfInBounds_toArray, List.set_cons_zero, List.set_cons_succ]
          refine wpAnyH_ready (rs := [11]) (by kernel_rfl) (by simp) ?_
          refine AllReadyH.cons rfl (fun K hK => ?_) AllReadyH.nil
          have d3 := KK.out.drew.cell qq
          rw [HKQ.out] at d3
          have f3 := KK.out.drew.frozen
          go_simp
          refine hK.out _ _ ((Below.drew HBK.out).setCell (p := ⟨bK, qq, none⟩) (Nat.le_refl bK) _) (fun hHeld2 => ?_)
          clear hK K hHeld
          have hHeld := hHeld2
          clear hHeld2
          try simp only [Act.put, List.setIfInBounds_toArray, List.set_cons_zero, List.set_cons_succ]
          refine wpAnyH_done (by kernel_rfl) ?_ _
          go_wp2
          refine ⟨⟨k + 1, by omega, by go_num, ks.set qq x, ⟨by rw [List.length_set]; exact HKS.out.1, ?_⟩, ?_, ?_⟩, by simp [intOf]; omega⟩
          · intro j y hj hy
            by_cases e : j = k
            · subst e
              rw [HX.out] at hy
              injection hy with hy
              subst hy
              rw [HQQ.out, List.getElem?_set_self (by rw [HKS.out.1]; exact hs3)]
            · have := HKS.out.2 j y (by omega) hy
              rw [List.getElem?_set_ne (fun q => e (add_mod_inj (r := r) (n := n1) (by omega) hlt (by rw [HQQ.out]; exact q.symm)))]
              exact this
          · rw [Hid, ← boolv_set]; exact (KK.out.set qq (.bool x)).drew
          · exact Below.drew (HBK.out.setCell (Nat.le_refl bK) _)
      
        · have hlt' : ¬ (k : Int) < n1 := by omega
          obtain rfl : n1 = k := by omega
          have HKT : Hid (Turned r bs ks) := ⟨by rw [HKS.out.1, HN.out.2], fun i x hi => by rw [HN.out.2]; exact HKS.out.2 i x (by have := (List.getElem?_eq_some_iff.1 hi).1; rw [HN.out.2] at this; exact this) hi⟩
          have hB3 : Below w3.heap.size w3 wr := by rw [HK3.out]; exact HBK.out
          obtain ⟨w5, hw5⟩ : ∃ x, x = wr := ⟨_, rfl⟩
          subst hw5
          replace HB : Hid (Below W.heap.size W w5) := HB.out.trans (hB3.mono HB.out.size)
          replace KC : Hid (Blk w5 bC #[.string ⟨nm.toArray⟩, .slice a0 n0 c0] 32) := Blk.below KC.out hB3
          replace KD : Hid (Blk w5 bD #[.string ⟨nm.toArray⟩, .slice pv n0 cv] 32) := Blk.below KD.out hB3
          replace HAO : Hid (Ao b1 w5 (.slice pv n0 cv) ags) := Ao.below HAO.out hB3
          clear hB3
          go_upto_region 14 with (fail)
          go_wp2
          go_loopw [12] (fun i wr => ∃ k : Nat, k ≤ n0 ∧ i = .int .i64 (k : Int) ∧ Hid (Ao b1 wr (.slice pv n0 cv) (half (turnA n1 r) k ags)) ∧ Hid (Keep 46 w5 wr) ∧ Hid (Below b1 w5 wr)) (fun i _ => n0 - (intOf i).toNat)
          case atStart => exact ⟨0, Nat.zero_le _, rfl, by rw [half_zero]; exact HAO, ⟨Nat.le_refl _, fun _ _ _ _ _ h => h⟩, Below.refl _ _⟩
          case round =>
            clear HAO
            obtain ⟨k, hk, rfl, HAO, HKE, HBE⟩ := hrel
            obtain ⟨w6, hw6⟩ : ∃ x, x = wr := ⟨_, rfl⟩
            subst hw6
            have KD6 : Hid (Blk w6 bD #[.string ⟨nm.toArray⟩, .slice pv n0 cv] 32) := blk_keepT KD.out HKE.out (by decide)
            have xD := KD6.out.cell 1
            simp only [List.getElem?_toArray, List.getElem?_cons_succ, List.getElem?_cons_zero] at xD
            have hn0 : n0 * 32 ≤ 140737488351232 := HQ.out.2.2.1
            by_cases hlt : k < n0
            · have hlt' : (k : Int) < n0 := by omega
              obtain ⟨g, hg⟩ : ∃ g, ags[k]? = some g := ⟨_, List.getElem?_eq_getElem (by rw [HN.out.1]; exact hlt)⟩
              have HG : Hid (ags[k]? = some g) := hg
              obtain ⟨mm, hmm⟩ : ∃ m, g.l.length = m := ⟨_, rfl⟩
              have HMM : Hid (g.l.length = mm) := hmm
              have hmb : mm * 48 ≤ 140737488351232 := by rw [← hmm]; exact HQ.out.2.2.2.1 g (List.mem_of_getElem? hg)
              obtain ⟨bA, cA, sv0, e0, _⟩ := ao_set HAO.out (half_get (f := turnA n1 r) hg)
              rw [half_len, HN.out.1] at e0
              injection e0 with e0 e0n e0c
              clear e0n
              subst e0
              subst e0c
              have hw0 : IntKind.i64.wrap ((k : Int) + 1) = (k : Int) + 1 := by rw [IntKind.wrap_i64]; omega
              clear hg hmm
              go_upto_region 17 with (fail)
              clear xD
              go_wp2
              go_loopw [13] (fun j wq => ∃ q : Nat, q ≤ mm ∧ j = .int .i64 (q : Int) ∧ Hid (Ao b1 wq (.slice (some ⟨bA, 0, none⟩) n0 cv) ((half (turnA n1 r) k ags).set k ⟨g.arr, half (turnT n1 r) q g.l⟩)) ∧ Hid (Keep 46 w5 wq) ∧ Hid (Below b1 w5 wq)) (fun j _ => mm - (intOf j).toNat)
              case atStart =>
                refine ⟨0, Nat.zero_le _, rfl, ?_, HKE, HBE⟩
                rw [half_zero, show (half (turnA n1 r) k ags).set k ⟨g.arr, g.l⟩ = half (turnA n1 r) k ags from set_same (half_get HG.out)]
                exact HAO
              case round =>
                clear HAO HKE HBE KD6
                obtain ⟨q, hq, rfl, HAO, HKE, HBE⟩ := hrel
                obtain ⟨wq, hwq⟩ : ∃ x, x = wr := ⟨_, rfl⟩
                subst hwq
                have KD6 : Hid (Blk wq bD #[.string ⟨nm.toArray⟩, .slice (some ⟨bA, 0, none⟩) n0 cv] 32) := blk_keepT KD.out HKE.out (by decide)
                have y0 := KD6.out.cell 1
                simp only [List.getElem?_toArray, List.getElem?_cons_succ, List.getElem?_cons_zero] at y0
                have hgk : ((half (turnA n1 r) k ags).set k ⟨g.arr, half (turnT n1 r) q g.l⟩)[k]? = some ⟨g.arr, half (turnT n1 r) q g.l⟩ := List.getElem?_set_self (by rw [half_len, HN.out.1]; exact hlt)
                obtain ⟨bA', cA', sv, e0, hb0, ⟨curA, KA⟩, y1, ⟨ps, cs, rfl⟩, hstep⟩ := ao_set HAO.out hgk
                rw [List.length_set, half_len, HN.out.1] at e0
                injection e0 with e0 e0n e0c
                injection e0 with e0
                injection e0 with e0 _ _
                clear e0n e0c
                subst e0
                simp only [half_len, HMM.out] at y1 hstep
                by_cases hqt : q < mm
                · have hqt' : (q : Int) < mm := by omega
                  obtain ⟨t, ht⟩ : ∃ t, g.l[q]? = some t := ⟨_, List.getElem?_eq_getElem (by rw [HMM.out]; exact hqt)⟩
                  have HT : Hid (g.l[q]? = some t) := ht
                  obtain ⟨b, cb, cur, eb, hb1b, KB, y2, hset⟩ := hstep q t (half_get ht)
                  injection eb with eb _ eb2
                  subst eb
                  subst eb2
                  have HSET : Hid (∀ (x : Int), Ao b1 (wq.setCell ⟨b, q * 4, none⟩ (.int .i64 x)) (.slice (some ⟨bA, 0, none⟩) n0 cv) (((half (turnA n1 r) k ags).set k ⟨g.arr, half (turnT n1 r) q g.l⟩).set k ⟨g.arr, (half (turnT n1 r) q g.l).set q ⟨x, t.set, t.n, t.s⟩⟩)) := hset
                  have HNE : Hid (bD ≠ b ∧ bA ≠ b) := ⟨blk_ne KD6.out KB (by decide), blk_ne KA KB (by decide)⟩
                  replace KB : Hid (Blk wq b cur 46) := KB
                  have HB1b : Hid (b1 ≤ b) := hb1b
                  obtain ⟨vv, hvv⟩ : ∃ x, t.v = x := ⟨_, rfl⟩
                  have HVV : Hid (t.v = vv) := hvv
                  rw [hvv] at y2
                  have hw2 : IntKind.i64.wrap ((q : Int) + 1) = (q : Int) + 1 := by rw [IntKind.wrap_i64]; omega
                  clear hset hstep hgk ht hvv KA
                  by_cases hin : 0 ≤ vv ∧ vv < n1
                  · obtain ⟨vn, rfl⟩ : ∃ vn : Nat, vv = vn := ⟨vv.toNat, by omega⟩
                    have hin2 : (vn : Int) < n1 := hin.2
                    have hin1 : (0 : Int) ≤ vn := hin.1
                    clear hin
                    obtain ⟨kr, hkr⟩ : ∃ y, vn + r = y := ⟨_, rfl⟩
                    obtain ⟨qq, hqq⟩ : ∃ y, kr % n1 = y := ⟨_, rfl⟩
                    have hs1 : IntKind.i64.wrap ((vn : Int) + (r : Int)) = (kr : Int) := by rw [IntKind.wrap_i64]; omega
                    have hs2 : (kr : Int).tmod (n1 : Int) = (qq : Int) := by rw [← hqq]; rfl
                    have HQQ : Hid (tvN n1 r vn = qq) := by
                      rw [Hid, ← hqq, ← hkr]
                      unfold tvN
                      rw [if_pos ⟨hin1, hin2⟩, Int.natCast_emod, Int.natCast_add]
                    clear hkr hqq
                    go_upto_region 22 with (fail)
                    refine wp_region_held_drew (S := (fun w' => w'.cell? ⟨bD, 1, none⟩ = some (.slice (some ⟨bA, 0, none⟩) n0 cv) ∧ w'.cell? ⟨bA, k * 2 + 1, none⟩ = some (.slice (some ⟨b, 0, none⟩) mm cs))) (by kernel_rfl) (⟨y0, y1⟩) (fun hHeld => ?_)
                    refine wpAnyH_take (i := 0) (oi := { dst := some 86, op := Go.Op.fieldAddr 32 (Go.Operand.tmp 9) 1, type := 0, pos := "law.go:132", after := #[], guard := none }) (v := ?_) rfl (by kernel_rfl) (by kernel_rfl) (by kernel_rfl) (fun _ _ _ h => h) (Or.inl ⟨by rfl, ?_⟩) hHeld ?_
                    rotate_left
                    · intro w hSw; (try dsimp only at hSw); go_simp <;> with_reducible rfl
                    try simp only [Act.put, List.setIfInBounds_toArray, List.set_cons_zero, List.set_cons_succ]
                    refine wpAnyH_take (i := 1) (oi := { dst := some 87, op := Go.Op.load 30 (Go.Operand.tmp 86), type := 30, pos := "law.go:132", after := #[{ on := 0, ground := Go.Ground.data }], guard := none }) (v := ?_) rfl (by kernel_rfl) (by kernel_rfl) (by kernel_rfl) (fun _ _ _ h => h) (Or.inl ⟨by rfl, ?_⟩) hHeld ?_
                    rotate_left
                    · intro w hSw; obtain ⟨g0, g1⟩ := hSw; go_simp <;> with_reducible rfl
                    try simp only [Act.put, List.setIfInBounds_toArray, List.set_cons_zero, List.set_cons_succ]
                    refine wpAnyH_take (i := 2) (oi := { dst := some 88, op := Go.Op.move (Go.Operand.tmp 12), type := 3, pos := "law.go:132", after := #[], guard := none }) (v := ?_) rfl (by kernel_rfl) (by kernel_rfl) (by kernel_rfl) (fun _ _ _ h => h) (Or.inl ⟨by rfl, ?_⟩) hHeld ?_
                    rotate_left
                    · intro w hSw; (try dsimp only at hSw); go_simp <;> with_reducible rfl
                    try simp only [Act.put, List.setIfInBounds_toArray, List.set_cons_zero, List.set_cons_succ]
                    refine wpAnyH_take (i := 3) (oi := { dst := some 89, op := Go.Op.indexAddr 30 (Go.Operand.tmp 87) (Go.Operand.tmp 88), type := 0, pos := "law.go:132", after := #[{ on := 1, ground := Go.Ground.data }, { on := 2, ground := Go.Ground.data }], guard := none }) (v := ?_) rfl (by kernel_rfl) (by kernel_rfl) (by kernel_rfl) (fun _ _ _ h => h) (Or.inl ⟨by rfl, ?_⟩) hHeld ?_
                    rotate_left
                    · intro w hSw; (try dsimp only at hSw); go_simp <;> with_reducible rfl
                    try simp only [Act.put, List.setIfInBounds_toArray, List.set_cons_zero, List.set_cons_succ]
                    refine wpAnyH_take (i := 4) (oi := { dst := some 90, op := Go.Op.fieldAddr 54 (Go.Operand.tmp 89) 1, type := 0, pos := "law.go:132", after := #[{ on := 3, ground := Go.Ground.data }], guard := none }) (v := ?_) rfl (by kernel_rfl) (by kernel_rfl) (by kernel_rfl) (fun _ _ _ h => h) (Or.inl ⟨by rfl, ?_⟩) hHeld ?_
                    rotate_left
                    · intro w hSw; (try dsimp only at hSw); go_simp <;> with_reducible rfl
                    try simp only [Act.put, List.setIfInBounds_toArray, List.set_cons_zero, List.set_cons_succ]
                    refine wpAnyH_take (i := 5) (oi := { dst := some 91, op := Go.Op.load 52 (Go.Operand.tmp 90), type := 52, pos := "law.go:132", after := #[{ on := 4, ground := Go.Ground.data }], guard := none }) (v := ?_) rfl (by kernel_rfl) (by kernel_rfl) (by kernel_rfl) (fun _ _ _ h => h) (Or.inl ⟨by rfl, ?_⟩) hHeld ?_
                    rotate_left
                    · intro w hSw; obtain ⟨g0, g1⟩ := hSw; go_simp <;> with_reducible rfl
                    try simp only [Act.put, List.setIfInBounds_toArray, List.set_cons_zero, List.set_cons_succ]
                    refine wpAnyH_take (i := 6) (oi := { dst := some 92, op := Go.Op.move (Go.Operand.tmp 13), type := 3, pos := "law.go:132", after := #[], guard := none }) (v := ?_) rfl (by kernel_rfl) (by kernel_rfl) (by kernel_rfl) (fun _ _ _ h => h) (Or.inl ⟨by rfl, ?_⟩) hHeld ?_
                    rotate_left
                    · intro w hSw; (try dsimp only at hSw); go_simp <;> with_reducible rfl
                    try simp only [Act.put, List.setIfInBounds_toArray, List.set_cons_zero, List.set_cons_succ]
                    refine wpAnyH_take (i := 7) (oi := { dst := some 93, op := Go.Op.move (Go.Operand.tmp 14), type := 3, pos := "law.go:132", after := #[], guard := none }) (v := ?_) rfl (by kernel_rfl) (by kernel_rfl) (by kernel_rfl) (fun _ _ _ h => h) (Or.inl ⟨by rfl, ?_⟩) hHeld ?_
                    rotate_left
                    · intro w hSw; (try dsimp only at hSw); go_simp <;> with_reducible rfl
                    try simp only [Act.put, List.setIfInBounds_toArray, List.set_cons_zero, List.set_cons_succ]
                    refine wpAnyH_take (i := 8) (oi := { dst := some 94, op := Go.Op.move (Go.Operand.tmp 2), type := 3, pos := "law.go:132", after := #[], guard := none }) (v := ?_) rfl (by kernel_rfl) (by kernel_rfl) (by kernel_rfl) (fun _ _ _ h => h) (Or.inl ⟨by rfl, ?_⟩) hHeld ?_
                    rotate_left
                    · intro w hSw; (try dsimp only at hSw); go_simp <;> with_reducible rfl
                    try simp only [Act.put, List.setIfInBounds_toArray, List.set_cons_zero, List.set_cons_succ]
                    refine wpAnyH_take (i := 9) (oi := { dst := some 95, op := Go.Op.binOp Go.BinOp.add 3 (Go.Operand.tmp 93) (Go.Operand.tmp 94) 3, type := 3, pos := "law.go:132", after := #[{ on := 7, ground := Go.Ground.data }, { on := 8, ground := Go.Ground.data }], guard := none }) (v := ?_) rfl (by kernel_rfl) (by kernel_rfl) (by kernel_rfl) (fun _ _ _ h => h) (Or.inl ⟨by rfl, ?_⟩) hHeld ?_
                    rotate_left
                    · intro w hSw; (try dsimp only at hSw); go_simp <;> with_reducible rfl
                    try simp only [Act.put, List.setIfInBounds_toArray, List.set_cons_zero, List.set_cons_succ]
                    refine wpAnyH_take (i := 10) (oi := { dst := some 96, op := Go.Op.move (Go.Operand.tmp 7), type := 3, pos := "law.go:132", after := #[], guard := none }) (v := ?_) rfl (by kernel_rfl) (by kernel_rfl) (by kernel_rfl) (fun _ _ _ h => h) (Or.inl ⟨by rfl, ?_⟩) hHeld ?_
                    rotate_left
                    · intro w hSw; (try dsimp only at hSw); go_simp <;> with_reducible rfl
                    try simp only [Act.put, List.setIfInBounds_toArray, List.set_cons_zero, List.set_cons_succ]
                    refine wpAnyH_take (i := 11) (oi := { dst := some 97, op := Go.Op.binOp Go.BinOp.rem 3 (Go.Operand.tmp 95) (Go.Operand.tmp 96) 3, type := 3, pos := "law.go:132", after := #[{ on := 9, ground := Go.Ground.data }, { on := 10, ground := Go.Ground.data }], guard := none }) (v := ?_) rfl (by kernel_rfl) (by kernel_rfl) (by kernel_rfl) (fun _ _ _ h => h) (Or.inl ⟨by rfl, ?_⟩) hHeld ?_
                    rotate_left
                    · intro w hSw; (try dsimp only at hSw); go_simp <;> with_reducible rfl
                    try simp only [Act.put, List.setIfInBounds_toArray, List.set_cons_zero, List.set_cons_succ]
                    refine wpAnyH_take (i := 12) (oi := { dst := some 98, op := Go.Op.indexAddr 52 (Go.Operand.tmp 91) (Go.Operand.tmp 92), type := 0, pos := "law.go:132", after := #[{ on := 5, ground := Go.Ground.data }, { on := 6, ground := Go.Ground.data }, { on := 0, ground := Go.Ground.phase }, { on := 1, ground := Go.Ground.phase }, { on := 2, ground := Go.Ground.phase }, { on := 3, ground := Go.Ground.phase }, { on := 4, ground := Go.Ground.phase }, { on := 5, ground := Go.Ground.phase }, { on := 6, ground := Go.Ground.phase }, { on := 7, ground := Go.Ground.phase }, { on := 8, ground := Go.Ground.phase }, { on := 9, ground := Go.Ground.phase }, { on := 10, ground := Go.Ground.phase }, { on := 11, ground := Go.Ground.phase }], guard := none }) (v := ?_) rfl (by kernel_rfl) (by kernel_rfl) (by kernel_rfl) (fun _ _ _ h => h) (Or.inl ⟨by rfl, ?_⟩) hHeld ?_
                    rotate_left
                    · intro w hSw; (try dsimp only at hSw); go_simp <;> with_reducible rfl
                    try simp only [Act.put, List.setIfInBounds_toArray, List.set_cons_zero, List.set_cons_succ]
                    refine wpAnyH_take (i := 13) (oi := { dst := some 99, op := Go.Op.fieldAddr 46 (Go.Operand.tmp 98) 0, type := 0, pos := "law.go:132", after := #[{ on := 12, ground := Go.Ground.data }, { on := 0, ground := Go.Ground.phase }, { on := 1, ground := Go.Ground.phase }, { on := 2, ground := Go.Ground.phase }, { on := 3, ground := Go.Ground.phase }, { on := 4, ground := Go.Ground.phase }, { on := 5, ground := Go.Ground.phase }, { on := 6, ground := Go.Ground.phase }, { on := 7, ground := Go.Ground.phase }, { on := 8, ground := Go.Ground.phase }, { on := 9, ground := Go.Ground.phase }, { on := 10, ground := Go.Ground.phase }, { on := 11, ground := Go.Ground.phase }], guard := none }) (v := ?_) rfl (by kernel_rfl) (by kernel_rfl) (by kernel_rfl) (fun _ _ _ h => h) (Or.inl ⟨by rfl, ?_⟩) hHeld ?_
                    rotate_left
                    · intro w hSw; (try dsimp only at hSw); go_simp <;> with_reducible rfl
                    try simp only [Act.put, List.setIfInBounds_toArray, List.set_cons_zero, List.set_cons_succ]
                    refine wpAnyH_ready (rs := [14]) (by kernel_rfl) (by simp) ?_
                    refine AllReadyH.cons rfl (fun K hK => ?_) AllReadyH.nil
                    have d3 := y2
                    have f3 := KB.out.frozen
                    go_simp
                    refine hK.out _ _ (⟨(Below.cell_other _ _ _ _ HNE.out.1).trans y0, (Below.cell_other _ _ _ _ HNE.out.2).trans y1⟩) (fun hHeld2 => ?_)
                    clear hK K hHeld
                    have hHeld := hHeld2
                    clear hHeld2
                    try simp only [Act.put, List.setIfInBounds_toArray, List.set_cons_zero, List.set_cons_succ]
                    refine wpAnyH_done (by kernel_rfl) ?_ _
                    go_wp2
                    have hsB : Below (wq.setCell ⟨b, q * 4, none⟩ (.int .i64 (qq : Int))).heap.size (wq.setCell ⟨b, q * 4, none⟩ (.int .i64 (qq : Int))) (wq.setCell ⟨b, q * 4, none⟩ (.int .i64 (qq : Int))).drew := Below.drew (Below.refl _ _)
                    refine ⟨⟨q + 1, by omega, by go_num, ?_, ?_, ?_⟩, by simp [intOf]; omega⟩
                    · have h8 := (HSET.out (qq : Int)).below hsB
                      rw [List.set_set] at h8
                      have e8 : (⟨(qq : Int), t.set, t.n, t.s⟩ : Tm) = turnT n1 r t := by unfold turnT; rw [HVV.out, HQQ.out]
                      rw [e8, half_set HT.out] at h8
                      exact h8
                    · exact (HKE.out.trans (keep_set KB.out _ _)).trans (keep_below hsB)
                    · exact Below.drew (HBE.out.setCell HB1b.out _)
      
                  · have htt : turnT n1 r t = t := by
                      unfold turnT tvN
                      rw [if_neg (by rw [HVV.out]; exact hin)]
                    have HE : Hid (half (turnT n1 r) (q + 1) g.l = half (turnT n1 r) q g.l) := by
                      have h8 := half_set (f := turnT n1 r) HT.out
                      rw [htt, set_same (half_get HT.out)] at h8
                      exact h8.symm
                    clear htt
                    by_cases h0 : 0 ≤ vv
                    · have h1 : ¬ vv < n1 := fun e => hin ⟨h0, e⟩
                      clear hin
                      go_wp2
                      refine ⟨⟨q + 1, by omega, by go_num, ?_, HKE, HBE⟩, by simp [intOf]; omega⟩
                      rw [HE.out]
                      exact HAO
                    · clear hin
                      go_wp2
                      refine ⟨⟨q + 1, by omega, by go_num, ?_, HKE, HBE⟩, by simp [intOf]; omega⟩
                      rw [HE.out]
                      exact HAO
                · have hqt' : ¬ (q : Int) < mm := by omega
                  obtain rfl : mm = q := by omega
                  clear hstep hgk KA
                  go_wp2
                  refine ⟨⟨k + 1, by omega, by go_num, ?_, HKE, HBE⟩, by simp [intOf]; omega⟩
                  have h8 := HAO.out
                  rw [show half (turnT n1 r) mm g.l = g.l.map (turnT n1 r) by rw [← HMM.out, half_all], show (⟨g.arr, g.l.map (turnT n1 r)⟩ : Ag) = turnA n1 r g from rfl, half_set HG.out] at h8
                  exact h8
            · have hlt' : ¬ (k : Int) < n0 := by omega
              obtain rfl : n0 = k := by omega
              obtain ⟨tags, htags⟩ : ∃ x, ags.map (turnA n1 r) = x := ⟨_, rfl⟩
              have hao : Ao b1 w6 (.slice pv n0 cv) tags := by rw [← htags, ← half_all, HN.out.1]; exact HAO.out
              obtain ⟨hsa, pv2, cv2, e9, hcv1, hcv2⟩ := ao_sa hao
              injection e9 with e9p e9n e9c
              clear e9p
              subst e9c
              have HB6 : Hid (Below W.heap.size W w6) := HB.out.trans (HBE.out.mono (by rw [HBC.out]; omega))
              have KC6 : Hid (Blk w6 bC #[.string ⟨nm.toArray⟩, .slice a0 n0 c0] 32) := blk_keepT KC.out HKE.out (by decide)
              have KK6 : Blk w6 bK (boolv ks).toArray 4 := blk_keepT KK.out HKE.out (by decide)
              have hksn : ks.length = n1 := HKS.out.1
              have HSB : Hid (Sb w6 (.slice (some ⟨bK, 0, none⟩) n1 n1) ks) := ⟨some ⟨bK, 0, none⟩, n1, by rw [hksn], fun _ => ⟨bK, 0, rfl, KK6.lt, fun i x hx => by rw [Nat.zero_add, KK6.cell i]; simp [boolv, hx]⟩⟩
              have hrt : rightB nm tags ks = ee := by rw [← htags, ← HN.out.2, right_turn HKT.out]; exact HR.out
              have hMW := HM.out
              have KR2 : Hid (∀ X, Below w6.heap.size w6 X → Calls Tryz.prog 18 #[.agg #[.string ⟨nm.toArray⟩, .slice pv n0 cv], .slice (some ⟨bK, 0, none⟩) n1 n1] X fun e w' => e = .returned (.int .i64 ee) ∧ Below X.heap.size X w') := fun X hX => by
                rw [← hrt]
                refine right_any nm (hMW.below (HB6.out.trans (hX.mono HB6.out.size)) hMW.1) (hsa.below hX) e9n.symm (by omega) hcv2 (HSB.out.below hX) hksn (by omega) (fun g hg => ?_) (fun g hg t ht => ?_)
                · rw [← htags] at hg
                  obtain ⟨g', hg', rfl⟩ := List.mem_map.1 hg
                  rw [turn_len]
                  have := HQ.out.2.2.2.1 g' hg'
                  omega
                · rw [← htags] at hg
                  obtain ⟨g', hg', rfl⟩ := List.mem_map.1 hg
                  obtain ⟨t', ht', rfl⟩ := List.mem_map.1 ht
                  have := HQ.out.2.2.2.2 g' hg' t' ht'
                  show t'.s.length ≤ _
                  omega
              have z0 := KD6.out.cell 0
              have z1 := KD6.out.cell 1
              have z2 := KC6.out.cell 0
              have z3 := KC6.out.cell 1
              simp only [List.getElem?_toArray, List.getElem?_cons_succ, List.getElem?_cons_zero] at z0 z1 z2 z3
              have HLT : Hid (bD < w6.heap.size ∧ bC < w6.heap.size) := ⟨KD6.out.lt, KC6.out.lt⟩
              by_cases he : ee = 0
              · subst he
                have hV : ∀ x ∈ varsA ags, 0 ≤ x ∧ x < n1 := by rw [← HN.out.2]; exact right_vars HR.out
                have hcnt := count_turn (r := r) hV
                rw [htags] at hcnt
                obtain ⟨nV, hnV⟩ : ∃ x, (Lib.compact (sortL (varsA ags))).length = x := ⟨_, rfl⟩
                rw [hnV] at hcnt
                have hfew : ∀ (l : List Ag), rightB nm l bs = 0 ∨ rightB nm l ks = 0 → (varsA l).length ≤ 1000000000000 ∧ l.length ≤ 1000000000000 ∧ ∀ g ∈ l, g.l.length ≤ 1000000000000 := fun l hl => by
                  have hok : (findT nm).2 ≠ [] ∧ eqB l (partsF (findT nm).2) = true ∧ l.any longB = false := by
                    rcases hl with hl | hl
                    · exact ⟨(right_ok hl).1, (right_ok hl).2.1, (right_ok hl).2.2.1⟩
                    · exact ⟨(right_ok hl).1, (right_ok hl).2.1, (right_ok hl).2.2.1⟩
                  obtain ⟨h0, h1, h2⟩ := hok
                  have h3 := (eq_len h1).1
                  have h4 := (find_ok nm h0).2.1
                  have h6 : ∀ g ∈ l, g.l.length ≤ 1000 := fun g hg => by
                    have := List.any_eq_false.1 h2 g hg
                    simp [longB] at this
                    omega
                  have h5 := vars_few (ags := l) h6
                  exact ⟨by omega, by omega, fun g hg => by have := h6 g hg; omega⟩
                have hf1 := hfew ags (.inl HR.out)
                have hf2 := hfew tags (.inr hrt)
                have hcl : ∀ (L : List Int), (Lib.compact (sortL L)).length ≤ L.length := fun L => by have := Lib.compact_length_le (sortL L); rwa [sortL_len] at this
                have KV1 : Hid (∀ X, Below w6.heap.size w6 X → Calls Tryz.prog 16 #[.agg #[.string ⟨nm.toArray⟩, .slice pv n0 cv]] X fun e w' => ∃ v, e = .returned v ∧ (∃ p c, v = .slice p nV c) ∧ Below X.heap.size X w') := fun X hX => (vars_any ⟨nm.toArray⟩ (hsa.below hX) hf2.2.1 hf2.2.2 hf2.1 (hcl _)).mono fun e w' ⟨v, e1, e2, e3⟩ => ⟨v, e1, by rw [← hcnt]; exact own_shape e2, e3⟩
                have KV2 : Hid (∀ X, Below w6.heap.size w6 X → Calls Tryz.prog 16 #[.agg #[.string ⟨nm.toArray⟩, .slice a0 n0 c0]] X fun e w' => ∃ v, e = .returned v ∧ (∃ p c, v = .slice p nV c) ∧ Below X.heap.size X w') := fun X hX => (vars_any ⟨nm.toArray⟩ (HA.out.below (HB6.out.trans (hX.mono HB6.out.size))) hf1.2.1 hf1.2.2 hf1.1 (hcl _)).mono fun e w' ⟨v, e1, e2, e3⟩ => ⟨v, e1, by rw [← hnV]; exact own_shape e2, e3⟩
                clear hV hcnt hnV hfew hf1 hf2 hcl hrt htags hsa hao e9n hcv1 hcv2 KK6 hksn hMW
                go_upto_region 23 with (fail)
                refine wp_region_held_drew (S := (fun w' => Below w6.heap.size w6 w')) (by kernel_rfl) (Below.drew (Below.refl _ _)) (fun hHeld => ?_)
                refine wpAnyH_take (i := 0) (oi := { dst := some 100, op := Go.Op.load 32 (Go.Operand.tmp 9), type := 32, pos := "law.go:136", after := #[], guard := none }) (v := ?_) rfl (by kernel_rfl) (by kernel_rfl) (by kernel_rfl) (fun _ _ _ h => h) (Or.inl ⟨by rfl, ?_⟩) hHeld ?_
                rotate_left
                · intro w hSw; (try dsimp only at hSw); have g0 := (hSw.cell (p := ⟨bD, 0, none⟩) HLT.out.1).trans z0; have g1 := (hSw.cell (p := ⟨bD, 1, none⟩) HLT.out.1).trans z1; go_simp <;> with_reducible rfl
                try simp only [Act.put, List.setIfInBounds_toArray, List.set_cons_zero, List.set_cons_succ]
                refine wpAnyH_take (i := 1) (oi := { dst := some 101, op := Go.Op.move (Go.Operand.tmp 10), type := 33, pos := "law.go:136", after := #[], guard := none }) (v := ?_) rfl (by kernel_rfl) (by kernel_rfl) (by kernel_rfl) (fun _ _ _ h => h) (Or.inl ⟨by rfl, ?_⟩) hHeld ?_
                rotate_left
                · intro w hSw; (try dsimp only at hSw); go_simp <;> with_reducible rfl
                try simp only [Act.put, List.setIfInBounds_toArray, List.set_cons_zero, List.set_cons_succ]
                refine wpAnyH_take (i := 3) (oi := { dst := some 103, op := Go.Op.move (Go.Operand.tmp 8), type := 37, pos := "law.go:136", after := #[], guard := none }) (v := ?_) rfl (by kernel_rfl) (by kernel_rfl) (by kernel_rfl) (fun _ _ _ h => h) (Or.inl ⟨by rfl, ?_⟩) hHeld ?_
                rotate_left
                · intro w hSw; (try dsimp only at hSw); go_simp <;> with_reducible rfl
                try simp only [Act.put, List.setIfInBounds_toArray, List.set_cons_zero, List.set_cons_succ]
                refine wpAnyH_ready (rs := [2]) (by kernel_rfl) (by simp) ?_
                refine AllReadyH.cons rfl (fun K hK => ?_) AllReadyH.nil
                go_simp
                refine (KR2.out _ (Below.drew (Below.refl _ _))).mono ?_
                rintro e wa ⟨rfl, hba⟩
                have hcur : Below w6.heap.size w6 wa := (Below.drew (Below.refl _ w6)).trans (hba.mono (Below.drew (Below.refl w6.heap.size w6)).size)
                clear hba
                refine hK.out _ _ (hcur) (fun hHeld2 => ?_)
                clear hK K hHeld
                have hHeld := hHeld2
                clear hHeld2
                try simp only [Act.put, List.setIfInBounds_toArray, List.set_cons_zero, List.set_cons_succ]
                refine wpAnyH_take (i := 4) (oi := { dst := some 104, op := Go.Op.binOp Go.BinOp.eql 37 (Go.Operand.tmp 102) (Go.Operand.tmp 103) 37, type := 4, pos := "law.go:136", after := #[{ on := 2, ground := Go.Ground.data }, { on := 3, ground := Go.Ground.data }], guard := none }) (v := ?_) rfl (by kernel_rfl) (by kernel_rfl) (by kernel_rfl) (fun _ _ _ h => h) (Or.inl ⟨by rfl, ?_⟩) hHeld ?_
                rotate_left
                · intro w hSw; (try dsimp only at hSw); go_simp <;> with_reducible rfl
                try simp only [Act.put, List.setIfInBounds_toArray, List.set_cons_zero, List.set_cons_succ]
                refine wpAnyH_take (i := 5) (oi := { dst := some 105, op := Go.Op.move (Go.Operand.tmp 104), type := 4, pos := "law.go:136", after := #[{ on := 4, ground := Go.Ground.data }, { on := 2, ground := Go.Ground.chain }], guard := none }) (v := ?_) rfl (by kernel_rfl) (by kernel_rfl) (by kernel_rfl) (fun _ _ _ h => h) (Or.inl ⟨by rfl, ?_⟩) hHeld ?_
                rotate_left
                · intro w hSw; (try dsimp only at hSw); go_simp <;> with_reducible rfl
                try simp only [Act.put, List.setIfInBounds_toArray, List.set_cons_zero, List.set_cons_succ]
                refine wpAnyH_take (i := 6) (oi := { dst := some 106, op := Go.Op.move (Go.Operand.tmp 8), type := 37, pos := "law.go:136", after := #[{ on := 5, ground := Go.Ground.guard }], guard := some (5, true) }) (v := ?_) rfl (by kernel_rfl) (by kernel_rfl) (by kernel_rfl) (fun _ _ _ h => h) (Or.inl ⟨by rfl, ?_⟩) hHeld ?_
                rotate_left
                · intro w hSw; (try dsimp only at hSw); go_simp <;> with_reducible rfl
                try simp only [Act.put, List.setIfInBounds_toArray, List.set_cons_zero, List.set_cons_succ]
                refine wpAnyH_take (i := 7) (oi := { dst := some 107, op := Go.Op.binOp Go.BinOp.neq 37 (Go.Operand.tmp 106) (Go.Operand.const (Go.Value.int Go.IntKind.i64 0)) 37, type := 4, pos := "law.go:136", after := #[{ on := 6, ground := Go.Ground.data }, { on := 5, ground := Go.Ground.guard }], guard := some (5, true) }) (v := ?_) rfl (by kernel_rfl) (by kernel_rfl) (by kernel_rfl) (fun _ _ _ h => h) (Or.inl ⟨by rfl, ?_⟩) hHeld ?_
                rotate_left
                · intro w hSw; (try dsimp only at hSw); go_simp <;> with_reducible rfl
                try simp only [Act.put, List.setIfInBounds_toArray, List.set_cons_zero, List.set_cons_succ]
                refine wpAnyH_take (i := 8) (oi := { dst := some 108, op := Go.Op.move (Go.Operand.tmp 107), type := 4, pos := "law.go:136", after := #[{ on := 7, ground := Go.Ground.data }, { on := 5, ground := Go.Ground.chain }, { on := 5, ground := Go.Ground.guard }], guard := some (5, true) }) (v := ?_) rfl (by kernel_rfl) (by kernel_rfl) (by kernel_rfl) (fun _ _ _ h => h) (Or.inl ⟨by rfl, ?_⟩) hHeld ?_
                rotate_left
                · intro w hSw; (try dsimp only at hSw); go_simp <;> with_reducible rfl
                try simp only [Act.put, List.setIfInBounds_toArray, List.set_cons_zero, List.set_cons_succ]
                refine wpAnyH_take (i := 9) (oi := { dst := some 109, op := Go.Op.load 32 (Go.Operand.tmp 9), type := 32, pos := "law.go:136", after := #[{ on := 8, ground := Go.Ground.guard }], guard := some (8, false) }) (v := ?_) rfl (by kernel_rfl) (by kernel_rfl) (by kernel_rfl) (fun _ _ _ h => h) (Or.inl ⟨by rfl, ?_⟩) hHeld ?_
                rotate_left
                · intro w hSw; (try dsimp only at hSw); have g0 := (hSw.cell (p := ⟨bD, 0, none⟩) HLT.out.1).trans z0; have g1 := (hSw.cell (p := ⟨bD, 1, none⟩) HLT.out.1).trans z1; go_simp <;> with_reducible rfl
                try simp only [Act.put, List.setIfInBounds_toArray, List.set_cons_zero, List.set_cons_succ]
                refine wpAnyH_take (i := 12) (oi := { dst := some 112, op := Go.Op.load 32 (Go.Operand.tmp 3), type := 32, pos := "law.go:136", after := #[{ on := 8, ground := Go.Ground.guard }], guard := some (8, false) }) (v := ?_) rfl (by kernel_rfl) (by kernel_rfl) (by kernel_rfl) (fun _ _ _ h => h) (Or.inl ⟨by rfl, ?_⟩) hHeld ?_
                rotate_left
                · intro w hSw; (try dsimp only at hSw); have g0 := (hSw.cell (p := ⟨bC, 0, none⟩) HLT.out.2).trans z2; have g1 := (hSw.cell (p := ⟨bC, 1, none⟩) HLT.out.2).trans z3; go_simp <;> with_reducible rfl
                try simp only [Act.put, List.setIfInBounds_toArray, List.set_cons_zero, List.set_cons_succ]
                refine wpAnyH_ready (rs := [10]) (by kernel_rfl) (by simp) ?_
                refine AllReadyH.cons rfl (fun K hK => ?_) AllReadyH.nil
                go_simp
                refine (KV1.out _ hcur).mono ?_
                rintro e wb ⟨vb, rfl, ⟨pb, qb, rfl⟩, hbb⟩
                replace hcur := hcur.trans (hbb.mono hcur.size)
                clear hbb
                refine hK.out _ _ (hcur) (fun hHeld2 => ?_)
                clear hK K hHeld
                have hHeld := hHeld2
                clear hHeld2
                try simp only [Act.put, List.setIfInBounds_toArray, List.set_cons_zero, List.set_cons_succ]
                refine wpAnyH_take (i := 11) (oi := { dst := some 111, op := Go.Op.call { callee := Go.Callee.builtin Go.Builtin.len, args := #[Go.Operand.tmp 110], argTypes := #[35] }, type := 3, pos := "law.go:136", after := #[{ on := 10, ground := Go.Ground.data }, { on := 8, ground := Go.Ground.guard }], guard := some (8, false) }) (v := ?_) rfl (by kernel_rfl) (by kernel_rfl) (by kernel_rfl) (fun _ _ _ h => h) (Or.inl ⟨by rfl, ?_⟩) hHeld ?_
                rotate_left
                · intro w hSw; (try dsimp only at hSw); go_simp <;> with_reducible rfl
                try simp only [Act.put, List.setIfInBounds_toArray, List.set_cons_zero, List.set_cons_succ]
                refine wpAnyH_ready (rs := [13]) (by kernel_rfl) (by simp) ?_
                refine AllReadyH.cons rfl (fun K hK => ?_) AllReadyH.nil
                go_simp
                refine (KV2.out _ hcur).mono ?_
                rintro e wc ⟨vc, rfl, ⟨pc, qc, rfl⟩, hbc⟩
                replace hcur := hcur.trans (hbc.mono hcur.size)
                clear hbc
                refine hK.out _ _ (hcur) (fun hHeld2 => ?_)
                clear hK K hHeld
                have hHeld := hHeld2
                clear hHeld2
                try simp only [Act.put, List.setIfInBounds_toArray, List.set_cons_zero, List.set_cons_succ]
                refine wpAnyH_take (i := 14) (oi := { dst := some 114, op := Go.Op.call { callee := Go.Callee.builtin Go.Builtin.len, args := #[Go.Operand.tmp 113], argTypes := #[35] }, type := 3, pos := "law.go:136", after := #[{ on := 13, ground := Go.Ground.data }, { on := 8, ground := Go.Ground.guard }], guard := some (8, false) }) (v := ?_) rfl (by kernel_rfl) (by kernel_rfl) (by kernel_rfl) (fun _ _ _ h => h) (Or.inl ⟨by rfl, ?_⟩) hHeld ?_
                rotate_left
                · intro w hSw; (try dsimp only at hSw); go_simp <;> with_reducible rfl
                try simp only [Act.put, List.setIfInBounds_toArray, List.set_cons_zero, List.set_cons_succ]
                refine wpAnyH_take (i := 15) (oi := { dst := some 115, op := Go.Op.binOp Go.BinOp.eql 3 (Go.Operand.tmp 111) (Go.Operand.tmp 114) 3, type := 4, pos := "law.go:136", after := #[{ on := 11, ground := Go.Ground.data }, { on := 14, ground := Go.Ground.data }, { on := 8, ground := Go.Ground.guard }], guard := some (8, false) }) (v := ?_) rfl (by kernel_rfl) (by kernel_rfl) (by kernel_rfl) (fun _ _ _ h => h) (Or.inl ⟨by rfl, ?_⟩) hHeld ?_
                rotate_left
                · intro w hSw; (try dsimp only at hSw); go_simp <;> with_reducible rfl
                try simp only [Act.put, List.setIfInBounds_toArray, List.set_cons_zero, List.set_cons_succ]
                refine wpAnyH_take (i := 16) (oi := { dst := some 116, op := Go.Op.pick (Go.Operand.tmp 108) (Go.Operand.const (Go.Value.bool true)) (Go.Operand.tmp 115), type := 4, pos := "law.go:136", after := #[{ on := 8, ground := Go.Ground.data }, { on := 15, ground := Go.Ground.data }, { on := 5, ground := Go.Ground.guard }], guard := some (5, true) }) (v := ?_) rfl (by kernel_rfl) (by kernel_rfl) (by kernel_rfl) (fun _ _ _ h => h) (Or.inl ⟨by rfl, ?_⟩) hHeld ?_
                rotate_left
                · intro w hSw; (try dsimp only at hSw); go_simp <;> with_reducible rfl
                try simp only [Act.put, List.setIfInBounds_toArray, List.set_cons_zero, List.set_cons_succ]
                refine wpAnyH_take (i := 17) (oi := { dst := some 117, op := Go.Op.pick (Go.Operand.tmp 105) (Go.Operand.tmp 116) (Go.Operand.const (Go.Value.bool false)), type := 4, pos := "law.go:136", after := #[{ on := 5, ground := Go.Ground.data }, { on := 16, ground := Go.Ground.data }], guard := none }) (v := ?_) rfl (by kernel_rfl) (by kernel_rfl) (by kernel_rfl) (fun _ _ _ h => h) (Or.inl ⟨by rfl, ?_⟩) hHeld ?_
                rotate_left
                · intro w hSw; (try dsimp only at hSw); go_simp <;> with_reducible rfl
                try simp only [Act.put, List.setIfInBounds_toArray, List.set_cons_zero, List.set_cons_succ]
                refine wpAnyH_take (i := 18) (oi := { dst := some 118, op := Go.Op.move (Go.Operand.tmp 117), type := 4, pos := "law.go:136", after := #[{ on := 17, ground := Go.Ground.data }, { on := 13, ground := Go.Ground.chain }], guard := none }) (v := ?_) rfl (by kernel_rfl) (by kernel_rfl) (by kernel_rfl) (fun _ _ _ h => h) (Or.inl ⟨by rfl, ?_⟩) hHeld ?_
                rotate_left
                · intro w hSw; (try dsimp only at hSw); go_simp <;> with_reducible rfl
                try simp only [Act.put, List.setIfInBounds_toArray, List.set_cons_zero, List.set_cons_succ]
                refine wpAnyH_ready (rs := [19]) (by kernel_rfl) (by simp) ?_
                refine AllReadyH.cons rfl (fun K hK => ?_) AllReadyH.nil
                go_simp
                refine (KN.out _ (HB6.out.trans (hcur.mono HB6.out.size))).mono ?_
                rintro e wd ⟨rfl, hbd⟩
                replace hcur := hcur.trans (hbd.mono hcur.size)
                clear hbd
                refine hK.out _ _ (hcur) (fun hHeld2 => ?_)
                clear hK K hHeld
                have hHeld := hHeld2
                clear hHeld2
                try simp only [Act.put, List.setIfInBounds_toArray, List.set_cons_zero, List.set_cons_succ]
                refine wpAnyH_take (i := 20) (oi := { dst := some 120, op := Go.Op.pick (Go.Operand.tmp 118) (Go.Operand.tmp 119) (Go.Operand.const (Go.Value.bool false)), type := 4, pos := "law.go:136", after := #[{ on := 18, ground := Go.Ground.data }, { on := 19, ground := Go.Ground.data }], guard := none }) (v := ?_) rfl (by kernel_rfl) (by kernel_rfl) (by kernel_rfl) (fun _ _ _ h => h) (Or.inl ⟨by rfl, ?_⟩) hHeld ?_
                rotate_left
                · intro w hSw; (try dsimp only at hSw); go_simp <;> with_reducible rfl
                try simp only [Act.put, List.setIfInBounds_toArray, List.set_cons_zero, List.set_cons_succ]
                refine wpAnyH_take (i := 21) (oi := { dst := some 6, op := Go.Op.assign (Go.Operand.tmp 120), type := 4, pos := "law.go:136", after := #[{ on := 20, ground := Go.Ground.data }, { on := 19, ground := Go.Ground.chain }, { on := 0, ground := Go.Ground.phase }, { on := 1, ground := Go.Ground.phase }, { on := 2, ground := Go.Ground.phase }, { on := 3, ground := Go.Ground.phase }, { on := 4, ground := Go.Ground.phase }, { on := 5, ground := Go.Ground.phase }, { on := 6, ground := Go.Ground.phase }, { on := 7, ground := Go.Ground.phase }, { on := 8, ground := Go.Ground.phase }, { on := 9, ground := Go.Ground.phase }, { on := 10, ground := Go.Ground.phase }, { on := 11, ground := Go.Ground.phase }, { on := 12, ground := Go.Ground.phase }, { on := 13, ground := Go.Ground.phase }, { on := 14, ground := Go.Ground.phase }, { on := 15, ground := Go.Ground.phase }, { on := 16, ground := Go.Ground.phase }, { on := 17, ground := Go.Ground.phase }, { on := 18, ground := Go.Ground.phase }, { on := 19, ground := Go.Ground.phase }, { on := 20, ground := Go.Ground.phase }], guard := none }) (v := ?_) rfl (by kernel_rfl) (by kernel_rfl) (by kernel_rfl) (fun _ _ _ h => h) (Or.inl ⟨by rfl, ?_⟩) hHeld ?_
                rotate_left
                · intro w hSw; (try dsimp only at hSw); go_simp <;> with_reducible rfl
                try simp only [Act.put, List.setIfInBounds_toArray, List.set_cons_zero, List.set_cons_succ]
                refine wpAnyH_done (by kernel_rfl) ?_ _
                have HBF : Hid (Below W.heap.size W wd) := HB6.out.trans (hcur.mono HB6.out.size)
                clear hcur hHeld
                go_wp2
                go_ret
                exact ⟨rfl, HBF.out⟩
      
              · have he2 : (ee == 0) = false := by simp; exact he
                clear hrt htags hsa hao e9n hcv1 hcv2 KK6 hksn hMW
                go_upto_region 23 with (fail)
                refine wp_region_held_drew (S := (fun w' => Below w6.heap.size w6 w')) (by kernel_rfl) (Below.drew (Below.refl _ _)) (fun hHeld => ?_)
                refine wpAnyH_take (i := 0) (oi := { dst := some 100, op := Go.Op.load 32 (Go.Operand.tmp 9), type := 32, pos := "law.go:136", after := #[], guard := none }) (v := ?_) rfl (by kernel_rfl) (by kernel_rfl) (by kernel_rfl) (fun _ _ _ h => h) (Or.inl ⟨by rfl, ?_⟩) hHeld ?_
                rotate_left
                · intro w hSw; (try dsimp only at hSw); have g0 := (hSw.cell (p := ⟨bD, 0, none⟩) HLT.out.1).trans z0; have g1 := (hSw.cell (p := ⟨bD, 1, none⟩) HLT.out.1).trans z1; go_simp <;> with_reducible rfl
                try simp only [Act.put, List.setIfInBounds_toArray, List.set_cons_zero, List.set_cons_succ]
                refine wpAnyH_take (i := 1) (oi := { dst := some 101, op := Go.Op.move (Go.Operand.tmp 10), type := 33, pos := "law.go:136", after := #[], guard := none }) (v := ?_) rfl (by kernel_rfl) (by kernel_rfl) (by kernel_rfl) (fun _ _ _ h => h) (Or.inl ⟨by rfl, ?_⟩) hHeld ?_
                rotate_left
                · intro w hSw; (try dsimp only at hSw); go_simp <;> with_reducible rfl
                try simp only [Act.put, List.setIfInBounds_toArray, List.set_cons_zero, List.set_cons_succ]
                refine wpAnyH_take (i := 3) (oi := { dst := some 103, op := Go.Op.move (Go.Operand.tmp 8), type := 37, pos := "law.go:136", after := #[], guard := none }) (v := ?_) rfl (by kernel_rfl) (by kernel_rfl) (by kernel_rfl) (fun _ _ _ h => h) (Or.inl ⟨by rfl, ?_⟩) hHeld ?_
                rotate_left
                · intro w hSw; (try dsimp only at hSw); go_simp <;> with_reducible rfl
                try simp only [Act.put, List.setIfInBounds_toArray, List.set_cons_zero, List.set_cons_succ]
                refine wpAnyH_ready (rs := [2]) (by kernel_rfl) (by simp) ?_
                refine AllReadyH.cons rfl (fun K hK => ?_) AllReadyH.nil
                go_simp
                refine (KR2.out _ (Below.drew (Below.refl _ _))).mono ?_
                rintro e wa ⟨rfl, hba⟩
                have hcur : Below w6.heap.size w6 wa := (Below.drew (Below.refl _ w6)).trans (hba.mono (Below.drew (Below.refl w6.heap.size w6)).size)
                clear hba
                refine hK.out _ _ (hcur) (fun hHeld2 => ?_)
                clear hK K hHeld
                have hHeld := hHeld2
                clear hHeld2
                try simp only [Act.put, List.setIfInBounds_toArray, List.set_cons_zero, List.set_cons_succ]
                refine wpAnyH_take (i := 4) (oi := { dst := some 104, op := Go.Op.binOp Go.BinOp.eql 37 (Go.Operand.tmp 102) (Go.Operand.tmp 103) 37, type := 4, pos := "law.go:136", after := #[{ on := 2, ground := Go.Ground.data }, { on := 3, ground := Go.Ground.data }], guard := none }) (v := ?_) rfl (by kernel_rfl) (by kernel_rfl) (by kernel_rfl) (fun _ _ _ h => h) (Or.inl ⟨by rfl, ?_⟩) hHeld ?_
                rotate_left
                · intro w hSw; (try dsimp only at hSw); go_simp <;> with_reducible rfl
                try simp only [Act.put, List.setIfInBounds_toArray, List.set_cons_zero, List.set_cons_succ]
                refine wpAnyH_take (i := 5) (oi := { dst := some 105, op := Go.Op.move (Go.Operand.tmp 104), type := 4, pos := "law.go:136", after := #[{ on := 4, ground := Go.Ground.data }, { on := 2, ground := Go.Ground.chain }], guard := none }) (v := ?_) rfl (by kernel_rfl) (by kernel_rfl) (by kernel_rfl) (fun _ _ _ h => h) (Or.inl ⟨by rfl, ?_⟩) hHeld ?_
                rotate_left
                · intro w hSw; (try dsimp only at hSw); go_simp <;> with_reducible rfl
                try simp only [Act.put, List.setIfInBounds_toArray, List.set_cons_zero, List.set_cons_succ]
                refine wpAnyH_take (i := 6) (oi := { dst := some 106, op := Go.Op.move (Go.Operand.tmp 8), type := 37, pos := "law.go:136", after := #[{ on := 5, ground := Go.Ground.guard }], guard := some (5, true) }) (v := ?_) rfl (by kernel_rfl) (by kernel_rfl) (by kernel_rfl) (fun _ _ _ h => h) (Or.inl ⟨by rfl, ?_⟩) hHeld ?_
                rotate_left
                · intro w hSw; (try dsimp only at hSw); go_simp <;> with_reducible rfl
                try simp only [Act.put, List.setIfInBounds_toArray, List.set_cons_zero, List.set_cons_succ]
                refine wpAnyH_take (i := 7) (oi := { dst := some 107, op := Go.Op.binOp Go.BinOp.neq 37 (Go.Operand.tmp 106) (Go.Operand.const (Go.Value.int Go.IntKind.i64 0)) 37, type := 4, pos := "law.go:136", after := #[{ on := 6, ground := Go.Ground.data }, { on := 5, ground := Go.Ground.guard }], guard := some (5, true) }) (v := .bool true) rfl (by kernel_rfl) (by kernel_rfl) (by kernel_rfl) (fun _ _ _ h => h) (Or.inl ⟨by rfl, ?_⟩) hHeld ?_
                skip
                · intro w hSw; go_simp <;> first | with_reducible rfl | (simp [he]; done)
                try simp only [Act.put, List.setIfInBounds_toArray, List.set_cons_zero, List.set_cons_succ]
                refine wpAnyH_take (i := 8) (oi := { dst := some 108, op := Go.Op.move (Go.Operand.tmp 107), type := 4, pos := "law.go:136", after := #[{ on := 7, ground := Go.Ground.data }, { on := 5, ground := Go.Ground.chain }, { on := 5, ground := Go.Ground.guard }], guard := some (5, true) }) (v := ?_) rfl (by kernel_rfl) (by kernel_rfl) (by kernel_rfl) (fun _ _ _ h => h) (Or.inl ⟨by rfl, ?_⟩) hHeld ?_
                rotate_left
                · intro w hSw; (try dsimp only at hSw); go_simp <;> with_reducible rfl
                try simp only [Act.put, List.setIfInBounds_toArray, List.set_cons_zero, List.set_cons_succ]
                refine wpAnyH_take (i := 9) (oi := { dst := some 109, op := Go.Op.load 32 (Go.Operand.tmp 9), type := 32, pos := "law.go:136", after := #[{ on := 8, ground := Go.Ground.guard }], guard := some (8, false) }) (v := undef) rfl (by kernel_rfl) (by kernel_rfl) (by kernel_rfl) (fun _ _ _ h => h) (Or.inr ⟨by rfl, rfl⟩) hHeld ?_
                try simp only [Act.put, List.setIfInBounds_toArray, List.set_cons_zero, List.set_cons_succ]
                refine wpAnyH_take (i := 10) (oi := { dst := some 110, op := Go.Op.call { callee := Go.Callee.value (Go.Operand.func 16), args := #[Go.Operand.tmp 109], argTypes := #[32] }, type := 35, pos := "law.go:136", after := #[{ on := 9, ground := Go.Ground.data }, { on := 8, ground := Go.Ground.chain }, { on := 8, ground := Go.Ground.guard }], guard := some (8, false) }) (v := undef) rfl (by kernel_rfl) (by kernel_rfl) (by kernel_rfl) (fun _ _ _ h => h) (Or.inr ⟨by rfl, rfl⟩) hHeld ?_
                try simp only [Act.put, List.setIfInBounds_toArray, List.set_cons_zero, List.set_cons_succ]
                refine wpAnyH_take (i := 11) (oi := { dst := some 111, op := Go.Op.call { callee := Go.Callee.builtin Go.Builtin.len, args := #[Go.Operand.tmp 110], argTypes := #[35] }, type := 3, pos := "law.go:136", after := #[{ on := 10, ground := Go.Ground.data }, { on := 8, ground := Go.Ground.guard }], guard := some (8, false) }) (v := undef) rfl (by kernel_rfl) (by kernel_rfl) (by kernel_rfl) (fun _ _ _ h => h) (Or.inr ⟨by rfl, rfl⟩) hHeld ?_
                try simp only [Act.put, List.setIfInBounds_toArray, List.set_cons_zero, List.set_cons_succ]
                refine wpAnyH_take (i := 12) (oi := { dst := some 112, op := Go.Op.load 32 (Go.Operand.tmp 3), type := 32, pos := "law.go:136", after := #[{ on := 8, ground := Go.Ground.guard }], guard := some (8, false) }) (v := undef) rfl (by kernel_rfl) (by kernel_rfl) (by kernel_rfl) (fun _ _ _ h => h) (Or.inr ⟨by rfl, rfl⟩) hHeld ?_
                try simp only [Act.put, List.setIfInBounds_toArray, List.set_cons_zero, List.set_cons_succ]
                refine wpAnyH_take (i := 13) (oi := { dst := some 113, op := Go.Op.call { callee := Go.Callee.value (Go.Operand.func 16), args := #[Go.Operand.tmp 112], argTypes := #[32] }, type := 35, pos := "law.go:136", after := #[{ on := 12, ground := Go.Ground.data }, { on := 10, ground := Go.Ground.chain }, { on := 8, ground := Go.Ground.guard }], guard := some (8, false) }) (v := undef) rfl (by kernel_rfl) (by kernel_rfl) (by kernel_rfl) (fun _ _ _ h => h) (Or.inr ⟨by rfl, rfl⟩) hHeld ?_
                try simp only [Act.put, List.setIfInBounds_toArray, List.set_cons_zero, List.set_cons_succ]
                refine wpAnyH_take (i := 14) (oi := { dst := some 114, op := Go.Op.call { callee := Go.Callee.builtin Go.Builtin.len, args := #[Go.Operand.tmp 113], argTypes := #[35] }, type := 3, pos := "law.go:136", after := #[{ on := 13, ground := Go.Ground.data }, { on := 8, ground := Go.Ground.guard }], guard := some (8, false) }) (v := undef) rfl (by kernel_rfl) (by kernel_rfl) (by kernel_rfl) (fun _ _ _ h => h) (Or.inr ⟨by rfl, rfl⟩) hHeld ?_
                try simp only [Act.put, List.setIfInBounds_toArray, List.set_cons_zero, List.set_cons_succ]
                refine wpAnyH_take (i := 15) (oi := { dst := some 115, op := Go.Op.binOp Go.BinOp.eql 3 (Go.Operand.tmp 111) (Go.Operand.tmp 114) 3, type := 4, pos := "law.go:136", after := #[{ on := 11, ground := Go.Ground.data }, { on := 14, ground := Go.Ground.data }, { on := 8, ground := Go.Ground.guard }], guard := some (8, false) }) (v := undef) rfl (by kernel_rfl) (by kernel_rfl) (by kernel_rfl) (fun _ _ _ h => h) (Or.inr ⟨by rfl, rfl⟩) hHeld ?_
                try simp only [Act.put, List.setIfInBounds_toArray, List.set_cons_zero, List.set_cons_succ]
                refine wpAnyH_take (i := 16) (oi := { dst := some 116, op := Go.Op.pick (Go.Operand.tmp 108) (Go.Operand.const (Go.Value.bool true)) (Go.Operand.tmp 115), type := 4, pos := "law.go:136", after := #[{ on := 8, ground := Go.Ground.data }, { on := 15, ground := Go.Ground.data }, { on := 5, ground := Go.Ground.guard }], guard := some (5, true) }) (v := ?_) rfl (by kernel_rfl) (by kernel_rfl) (by kernel_rfl) (fun _ _ _ h => h) (Or.inl ⟨by rfl, ?_⟩) hHeld ?_
                rotate_left
                · intro w hSw; (try dsimp only at hSw); go_simp <;> with_reducible rfl
                try simp only [Act.put, List.setIfInBounds_toArray, List.set_cons_zero, List.set_cons_succ]
                refine wpAnyH_take (i := 17) (oi := { dst := some 117, op := Go.Op.pick (Go.Operand.tmp 105) (Go.Operand.tmp 116) (Go.Operand.const (Go.Value.bool false)), type := 4, pos := "law.go:136", after := #[{ on := 5, ground := Go.Ground.data }, { on := 16, ground := Go.Ground.data }], guard := none }) (v := ?_) rfl (by kernel_rfl) (by kernel_rfl) (by kernel_rfl) (fun _ _ _ h => h) (Or.inl ⟨by rfl, ?_⟩) hHeld ?_
                rotate_left
                · intro w hSw; (try dsimp only at hSw); go_simp <;> with_reducible rfl
                try simp only [Act.put, List.setIfInBounds_toArray, List.set_cons_zero, List.set_cons_succ]
                refine wpAnyH_take (i := 18) (oi := { dst := some 118, op := Go.Op.move (Go.Operand.tmp 117), type := 4, pos := "law.go:136", after := #[{ on := 17, ground := Go.Ground.data }, { on := 13, ground := Go.Ground.chain }], guard := none }) (v := ?_) rfl (by kernel_rfl) (by kernel_rfl) (by kernel_rfl) (fun _ _ _ h => h) (Or.inl ⟨by rfl, ?_⟩) hHeld ?_
                rotate_left
                · intro w hSw; (try dsimp only at hSw); go_simp <;> with_reducible rfl
                try simp only [Act.put, List.setIfInBounds_toArray, List.set_cons_zero, List.set_cons_succ]
                refine wpAnyH_ready (rs := [19]) (by kernel_rfl) (by simp) ?_
                refine AllReadyH.cons rfl (fun K hK => ?_) AllReadyH.nil
                go_simp
                refine (KN.out _ (HB6.out.trans (hcur.mono HB6.out.size))).mono ?_
                rintro e wd ⟨rfl, hbd⟩
                replace hcur := hcur.trans (hbd.mono hcur.size)
                clear hbd
                refine hK.out _ _ (hcur) (fun hHeld2 => ?_)
                clear hK K hHeld
                have hHeld := hHeld2
                clear hHeld2
                try simp only [Act.put, List.setIfInBounds_toArray, List.set_cons_zero, List.set_cons_succ]
                refine wpAnyH_take (i := 20) (oi := { dst := some 120, op := Go.Op.pick (Go.Operand.tmp 118) (Go.Operand.tmp 119) (Go.Operand.const (Go.Value.bool false)), type := 4, pos := "law.go:136", after := #[{ on := 18, ground := Go.Ground.data }, { on := 19, ground := Go.Ground.data }], guard := none }) (v := ?_) rfl (by kernel_rfl) (by kernel_rfl) (by kernel_rfl) (fun _ _ _ h => h) (Or.inl ⟨by rfl, ?_⟩) hHeld ?_
                rotate_left
                · intro w hSw; (try dsimp only at hSw); go_simp <;> with_reducible rfl
                try simp only [Act.put, List.setIfInBounds_toArray, List.set_cons_zero, List.set_cons_succ]
                refine wpAnyH_take (i := 21) (oi := { dst := some 6, op := Go.Op.assign (Go.Operand.tmp 120), type := 4, pos := "law.go:136", after := #[{ on := 20, ground := Go.Ground.data }, { on := 19, ground := Go.Ground.chain }, { on := 0, ground := Go.Ground.phase }, { on := 1, ground := Go.Ground.phase }, { on := 2, ground := Go.Ground.phase }, { on := 3, ground := Go.Ground.phase }, { on := 4, ground := Go.Ground.phase }, { on := 5, ground := Go.Ground.phase }, { on := 6, ground := Go.Ground.phase }, { on := 7, ground := Go.Ground.phase }, { on := 8, ground := Go.Ground.phase }, { on := 9, ground := Go.Ground.phase }, { on := 10, ground := Go.Ground.phase }, { on := 11, ground := Go.Ground.phase }, { on := 12, ground := Go.Ground.phase }, { on := 13, ground := Go.Ground.phase }, { on := 14, ground := Go.Ground.phase }, { on := 15, ground := Go.Ground.phase }, { on := 16, ground := Go.Ground.phase }, { on := 17, ground := Go.Ground.phase }, { on := 18, ground := Go.Ground.phase }, { on := 19, ground := Go.Ground.phase }, { on := 20, ground := Go.Ground.phase }], guard := none }) (v := ?_) rfl (by kernel_rfl) (by kernel_rfl) (by kernel_rfl) (fun _ _ _ h => h) (Or.inl ⟨by rfl, ?_⟩) hHeld ?_
                rotate_left
                · intro w hSw; (try dsimp only at hSw); go_simp <;> with_reducible rfl
                try simp only [Act.put, List.setIfInBounds_toArray, List.set_cons_zero, List.set_cons_succ]
                refine wpAnyH_done (by kernel_rfl) ?_ _
                have HBF : Hid (Below W.heap.size W wd) := HB6.out.trans (hcur.mono HB6.out.size)
                clear hcur hHeld
                go_wp2
                go_ret
                exact ⟨rfl, HBF.out⟩
      
    · obtain ⟨r, rfl⟩ : ∃ r : Nat, m = r := ⟨m.toNat, by omega⟩
      have hrn : r < n1 := by omega
      go_upto_region 7 with (fail)
      clear hm1 hneg
      have x0 : WA.cell? ⟨bC, 0, none⟩ = some (.string ⟨nm.toArray⟩) := KC.out.cell 0
      have x1 : WA.cell? ⟨bC, 1, none⟩ = some (.slice a0 n0 c0) := KC.out.cell 1
      have kR := KR.out WA HB.out
      obtain ⟨ee, hee⟩ : ∃ r, rightB nm ags bs = r := ⟨_, rfl⟩
      rw [hee] at kR
      have HR : Hid (rightB nm ags bs = ee) := hee
      clear hee
      go_wp2_with fail
      refine kR.mono ?_
      clear kR x0 x1
      rintro e w1 ⟨rfl, hb⟩
      replace HB : Hid (Below W.heap.size W w1) := HB.out.trans (hb.mono HB.out.size)
      replace KC : Hid (Blk w1 bC #[.string ⟨nm.toArray⟩, .slice a0 n0 c0] 32) := Blk.below KC.out hb
      clear hb
      have x0 : w1.cell? ⟨bC, 0, none⟩ = some (.string ⟨nm.toArray⟩) := KC.out.cell 0
      have x1 : w1.cell? ⟨bC, 1, none⟩ = some (.slice a0 n0 c0) := KC.out.cell 1
      have kL := KL.out w1 HB.out
      obtain ⟨b1, hb1⟩ : ∃ x, w1.heap.size = x := ⟨_, rfl⟩
      have HB1 : Hid (w1.heap.size = b1) := hb1
      have hb1C : bC < b1 := by rw [← hb1]; exact KC.out.lt
      clear hb1
      go_wp2_with fail
      refine kL.mono ?_
      clear kL x0 x1
      rintro e w2 ⟨v, rfl, hao, hb⟩
      obtain ⟨hsa, pv, cv, rfl, _, _⟩ := ao_sa hao
      rw [HN.out.1] at hao ⊢
      replace HB : Hid (Below W.heap.size W w2) := HB.out.trans (hb.mono HB.out.size)
      replace KC : Hid (Blk w2 bC #[.string ⟨nm.toArray⟩, .slice a0 n0 c0] 32) := Blk.below KC.out hb
      have HAO : Hid (Ao b1 w2 (.slice pv n0 cv) ags) := (by rw [← HB1.out]; exact hao : Ao b1 w2 (.slice pv n0 cv) ags)
      have HS2 : Hid (b1 ≤ w2.heap.size) := (by rw [← HB1.out]; exact hb.size : b1 ≤ w2.heap.size)
      clear hb hao hsa
      obtain ⟨w3, hw3⟩ : ∃ X, w2.alloc (Obj.cells #[.string ⟨nm.toArray⟩, .slice pv n0 cv] 32) = X := ⟨_, rfl⟩
      obtain ⟨bD, hbD⟩ : ∃ x, w2.heap.size = x := ⟨_, rfl⟩
      have hw23 : Below w2.heap.size w2 w3 := by rw [← hw3]; exact (Below.refl _ w2).alloc (Nat.le_refl _) _
      have KD : Hid (Blk w3 bD #[.string ⟨nm.toArray⟩, .slice pv n0 cv] 32) := by rw [Hid, ← hw3, ← hbD]; exact Blk.new w2 _ _
      have HW3 : Hid _ := hw3
      have HBD : Hid _ := hbD
      clear hw3 hbD
      go_upto_region 9 with (fail)
      rw [HW3.out, HBD.out]
      replace HB : Hid (Below W.heap.size W w3) := HB.out.trans (hw23.mono HB.out.size)
      replace KC : Hid (Blk w3 bC #[.string ⟨nm.toArray⟩, .slice a0 n0 c0] 32) := Blk.below KC.out hw23
      replace HAO : Hid (Ao b1 w3 (.slice pv n0 cv) ags) := Ao.below HAO.out hw23
      have hb1D : b1 ≤ bD := by rw [← HBD.out]; exact HS2.out
      clear HS2 HW3 HBD hw23
      obtain ⟨bK, hbK⟩ : ∃ x, w3.heap.size = x := ⟨_, rfl⟩
      have HK3 : Hid (w3.heap.size = bK) := hbK
      have hbDK : bD < bK := by rw [← hbK]; exact KD.out.lt
      clear hbK
      obtain ⟨w4, hw4⟩ : ∃ X, w3.alloc (Obj.cells (madeCells #[.bool false] n1) 4) = X := ⟨_, rfl⟩
      have HW4 : Hid (w3.alloc (Obj.cells (madeCells #[.bool false] n1) 4) = w4) := hw4
      have KK : Hid (Blk w4 bK (boolv (List.replicate n1 false)).toArray 4) := by rw [Hid, ← hw4, ← HK3.out, ← made_bool]; exact Blk.new w3 _ _
      have HBK : Hid (Below bK w3 w4) := by rw [Hid, ← hw4, ← HK3.out]; exact (Below.refl _ w3).alloc (Nat.le_refl _) _
      clear hw4
      go_wp2_with (at_make; refine wpList_make_row _ rfl _ _ 33 rfl 4 i4 (.bool false) Tryz.underlying33 hi4 hz4 hs4 rfl .i64 .i64 n1 rfl rfl (by rw [hb4]; omega) (by omega) ?_; rw [HW4.out, HK3.out])
      clear HW4
      go_loopw [11] (fun i wr => ∃ k : Nat, k ≤ n1 ∧ i = .int .i64 (k : Int) ∧ ∃ ks : List Bool, Hid (ks.length = n1 ∧ (∀ (j : Nat) (x : Bool), j < k → bs[j]? = some x → ks[(j + r) % n1]? = some x)) ∧ Hid (Blk wr bK (boolv ks).toArray 4) ∧ Hid (Below bK w3 wr)) (fun i _ => n1 - (intOf i).toNat)
      case atStart => exact ⟨0, Nat.zero_le _, rfl, _, ⟨by simp, fun j x h => by omega⟩, KK, HBK⟩
      case round =>
        clear KK HBK
        obtain ⟨k, hk, rfl, ks, HKS, KK, HBK⟩ := hrel
        by_cases hlt : k < n1
        · have hlt' : (k : Int) < n1 := by omega
          obtain ⟨x, hx⟩ : ∃ x, bs[k]? = some x := ⟨_, List.getElem?_eq_getElem (by rw [HN.out.2]; exact hlt)⟩
          have HX : Hid (bs[k]? = some x) := hx
          obtain ⟨aI, cI, eI, hI⟩ := HBS.out
          injection eI with eI eIn eIc
          clear eIn eIc
          subst eI
          obtain ⟨bI, offI, rfl, hbI, hcI⟩ := hI (by rw [HN.out.2]; omega)
          have xI := (HB.out.cell (p := ⟨bI, offI + k, none⟩) hbI).trans (hcI k x hx)
          have hbIK : bI < bK := by have := HB.out.size; rw [HK3.out] at this; omega
          clear hcI hbI hI hx
          obtain ⟨kr, hkr⟩ : ∃ y, k + r = y := ⟨_, rfl⟩
          obtain ⟨qq, hqq⟩ : ∃ y, kr % n1 = y := ⟨_, rfl⟩
          have hs1 : IntKind.i64.wrap ((k : Int) + (r : Int)) = (kr : Int) := by rw [IntKind.wrap_i64]; omega
          have hs2 : (kr : Int).tmod (n1 : Int) = (qq : Int) := by rw [← hqq]; rfl
          have hs3 : qq < n1 := by rw [← hqq]; exact Nat.mod_lt _ (by omega)
          have hs4 : (qq : Int) < n1 := by omega
          have HKQ : Hid ((boolv ks).toArray[qq]? = some (.bool (ks[qq]'(by rw [HKS.out.1]; exact hs3)))) := by rw [Hid]; simp [boolv]
          have HQQ : Hid ((k + r) % n1 = qq) := (by rw [hkr]; exact hqq : (k + r) % n1 = qq)
          have hw0 : IntKind.i64.wrap ((k : Int) + 1) = (k : Int) + 1 := by rw [IntKind.wrap_i64]; omega
          clear hkr hqq
          go_upto_region 13 with (fail)
          refine wp_region_held_drew (S := (fun w' => Below bK w3 w')) (by kernel_rfl) (Below.drew HBK.out) (fun hHeld => ?_)
          refine wpAnyH_take (i := 0) (oi := { dst := some 40, op := Go.Op.move (Go.Operand.tmp 10), type := 33, pos := "law.go:126", after := #[], guard := none }) (v := ?_) rfl (by kernel_rfl) (by kernel_rfl) (by kernel_rfl) (fun _ _ _ h => h) (Or.inl ⟨by rfl, ?_⟩) hHeld ?_
          rotate_left
          · intro w hSw; (try dsimp only at hSw); go_simp <;> with_reducible rfl
          try simp only [Act.put, List.setIfInBounds_toArray, List.set_cons_zero, List.set_cons_succ]
          refine wpAnyH_take (i := 1) (oi := { dst := some 41, op := Go.Op.move (Go.Operand.tmp 11), type := 3, pos := "law.go:126", after := #[], guard := none }) (v := ?_) rfl (by kernel_rfl) (by kernel_rfl) (by kernel_rfl) (fun _ _ _ h => h) (Or.inl ⟨by rfl, ?_⟩) hHeld ?_
          rotate_left
          · intro w hSw; (try dsimp only at hSw); go_simp <;> with_reducible rfl
          try simp only [Act.put, List.setIfInBounds_toArray, List.set_cons_zero, List.set_cons_succ]
          refine wpAnyH_take (i := 2) (oi := { dst := some 42, op := Go.Op.move (Go.Operand.tmp 2), type := 3, pos := "law.go:126", after := #[], guard := none }) (v := ?_) rfl (by kernel_rfl) (by kernel_rfl) (by kernel_rfl) (fun _ _ _ h => h) (Or.inl ⟨by rfl, ?_⟩) hHeld ?_
          rotate_left
          · intro w hSw; (try dsimp only at hSw); go_simp <;> with_reducible rfl
          try simp only [Act.put, List.setIfInBounds_toArray, List.set_cons_zero, List.set_cons_succ]
          refine wpAnyH_take (i := 3) (oi := { dst := some 43, op := Go.Op.binOp Go.BinOp.add 3 (Go.Operand.tmp 41) (Go.Operand.tmp 42) 3, type := 3, pos := "law.go:126", after := #[{ on := 1, ground := Go.Ground.data }, { on := 2, ground := Go.Ground.data }], guard := none }) (v := ?_) rfl (by kernel_rfl) (by kernel_rfl) (by kernel_rfl) (fun _ _ _ h => h) (Or.inl ⟨by rfl, ?_⟩) hHeld ?_
          rotate_left
          · intro w hSw; (try dsimp only at hSw); go_simp <;> with_reducible rfl
          try simp only [Act.put, List.setIfInBounds_toArray, List.set_cons_zero, List.set_cons_succ]
          refine wpAnyH_take (i := 4) (oi := { dst := some 44, op := Go.Op.move (Go.Operand.tmp 7), type := 3, pos := "law.go:126", after := #[], guard := none }) (v := ?_) rfl (by kernel_rfl) (by kernel_rfl) (by kernel_rfl) (fun _ _ _ h => h) (Or.inl ⟨by rfl, ?_⟩) hHeld ?_
          rotate_left
          · intro w hSw; (try dsimp only at hSw); go_simp <;> with_reducible rfl
          try simp only [Act.put, List.setIfInBounds_toArray, List.set_cons_zero, List.set_cons_succ]
          refine wpAnyH_take (i := 5) (oi := { dst := some 45, op := Go.Op.binOp Go.BinOp.rem 3 (Go.Operand.tmp 43) (Go.Operand.tmp 44) 3, type := 3, pos := "law.go:126", after := #[{ on := 3, ground := Go.Ground.data }, { on := 4, ground := Go.Ground.data }], guard := none }) (v := ?_) rfl (by kernel_rfl) (by kernel_rfl) (by kernel_rfl) (fun _ _ _ h => h) (Or.inl ⟨by rfl, ?_⟩) hHeld ?_
          rotate_left
          · intro w hSw; (try dsimp only at hSw); go_simp <;> with_reducible rfl
          try simp only [Act.put, List.setIfInBounds_toArray, List.set_cons_zero, List.set_cons_succ]
          refine wpAnyH_take (i := 6) (oi := { dst := some 46, op := Go.Op.move (Go.Operand.tmp 1), type := 33, pos := "law.go:126", after := #[], guard := none }) (v := ?_) rfl (by kernel_rfl) (by kernel_rfl) (by kernel_rfl) (fun _ _ _ h => h) (Or.inl ⟨by rfl, ?_⟩) hHeld ?_
          rotate_left
          · intro w hSw; (try dsimp only at hSw); go_simp <;> with_reducible rfl
          try simp only [Act.put, List.setIfInBounds_toArray, List.set_cons_zero, List.set_cons_succ]
          refine wpAnyH_take (i := 7) (oi := { dst := some 47, op := Go.Op.move (Go.Operand.tmp 11), type := 3, pos := "law.go:126", after := #[], guard := none }) (v := ?_) rfl (by kernel_rfl) (by kernel_rfl) (by kernel_rfl) (fun _ _ _ h => h) (Or.inl ⟨by rfl, ?_⟩) hHeld ?_
          rotate_left
          · intro w hSw; (try dsimp only at hSw); go_simp <;> with_reducible rfl
          try simp only [Act.put, List.setIfInBounds_toArray, List.set_cons_zero, List.set_cons_succ]
          refine wpAnyH_take (i := 8) (oi := { dst := some 48, op := Go.Op.indexAddr 33 (Go.Operand.tmp 46) (Go.Operand.tmp 47), type := 0, pos := "law.go:126", after := #[{ on := 6, ground := Go.Ground.data }, { on := 7, ground := Go.Ground.data }], guard := none }) (v := ?_) rfl (by kernel_rfl) (by kernel_rfl) (by kernel_rfl) (fun _ _ _ h => h) (Or.inl ⟨by rfl, ?_⟩) hHeld ?_
          rotate_left
          · intro w hSw; (try dsimp only at hSw); go_simp <;> with_reducible rfl
          try simp only [Act.put, List.setIfInBounds_toArray, List.set_cons_zero, List.set_cons_succ]
          refine wpAnyH_take (i := 9) (oi := { dst := some 49, op := Go.Op.load 4 (Go.Operand.tmp 48), type := 4, pos := "law.go:126", after := #[{ on := 8, ground := Go.Ground.data }], guard := none }) (v := ?_) rfl (by kernel_rfl) (by kernel_rfl) (by kernel_rfl) (fun _ _ _ h => h) (Or.inl ⟨by rfl, ?_⟩) hHeld ?_
          rotate_left
          · intro w hSw; (try dsimp only at hSw); have c9 := (hSw.cell (p := ⟨bI, offI + k, none⟩) hbIK).trans xI; go_simp <;> with_reducible rfl
          try simp only [Act.put, List.setIfInBounds_toArray, List.set_cons_zero, List.set_cons_succ]
          refine wpAnyH_take (i := 10) (oi := { dst := some 50, op := Go.Op.indexAddr 33 (Go.Operand.tmp 40) (Go.Operand.tmp 45), type := 0, pos := "law.go:126", after := #[{ on := 0, ground := Go.Ground.data }, { on := 5, ground := Go.Ground.data }, { on := 0, ground := Go.Ground.phase }, { on := 1, ground := Go.Ground.phase }, { on := 2, ground := Go.Ground.phase }, { on := 3, ground := Go.Ground.phase }, { on := 4, ground := Go.Ground.phase }, { on := 5, ground := Go.Ground.phase }, { on := 6, ground := Go.Ground.phase }, { on := 7, ground := Go.Ground.phase }, { on := 8, ground := Go.Ground.phase }, { on := 9, ground := Go.Ground.phase }], guard := none }) (v := ?_) rfl (by kernel_rfl) (by kernel_rfl) (by kernel_rfl) (fun _ _ _ h => h) (Or.inl ⟨by rfl, ?_⟩) hHeld ?_
          rotate_left
          · intro w hSw; (try dsimp only at hSw); go_simp <;> with_reducible rfl
          try simp only [Act.put, List.setIfInBounds_toArray, List.set_cons_zero, List.set_cons_succ]
          refine wpAnyH_ready (rs := [11]) (by kernel_rfl) (by simp) ?_
          refine AllReadyH.cons rfl (fun K hK => ?_) AllReadyH.nil
          have d3 := KK.out.drew.cell qq
          rw [HKQ.out] at d3
          have f3 := KK.out.drew.frozen
          go_simp
          refine hK.out _ _ ((Below.drew HBK.out).setCell (p := ⟨bK, qq, none⟩) (Nat.le_refl bK) _) (fun hHeld2 => ?_)
          clear hK K hHeld
          have hHeld := hHeld2
          clear hHeld2
          try simp only [Act.put, List.setIfInBounds_toArray, List.set_cons_zero, List.set_cons_succ]
          refine wpAnyH_done (by kernel_rfl) ?_ _
          go_wp2
          refine ⟨⟨k + 1, by omega, by go_num, ks.set qq x, ⟨by rw [List.length_set]; exact HKS.out.1, ?_⟩, ?_, ?_⟩, by simp [intOf]; omega⟩
          · intro j y hj hy
            by_cases e : j = k
            · subst e
              rw [HX.out] at hy
              injection hy with hy
              subst hy
              rw [HQQ.out, List.getElem?_set_self (by rw [HKS.out.1]; exact hs3)]
            · have := HKS.out.2 j y (by omega) hy
              rw [List.getElem?_set_ne (fun q => e (add_mod_inj (r := r) (n := n1) (by omega) hlt (by rw [HQQ.out]; exact q.symm)))]
              exact this
          · rw [Hid, ← boolv_set]; exact (KK.out.set qq (.bool x)).drew
          · exact Below.drew (HBK.out.setCell (Nat.le_refl bK) _)
      
        · have hlt' : ¬ (k : Int) < n1 := by omega
          obtain rfl : n1 = k := by omega
          have HKT : Hid (Turned r bs ks) := ⟨by rw [HKS.out.1, HN.out.2], fun i x hi => by rw [HN.out.2]; exact HKS.out.2 i x (by have := (List.getElem?_eq_some_iff.1 hi).1; rw [HN.out.2] at this; exact this) hi⟩
          have hB3 : Below w3.heap.size w3 wr := by rw [HK3.out]; exact HBK.out
          obtain ⟨w5, hw5⟩ : ∃ x, x = wr := ⟨_, rfl⟩
          subst hw5
          replace HB : Hid (Below W.heap.size W w5) := HB.out.trans (hB3.mono HB.out.size)
          replace KC : Hid (Blk w5 bC #[.string ⟨nm.toArray⟩, .slice a0 n0 c0] 32) := Blk.below KC.out hB3
          replace KD : Hid (Blk w5 bD #[.string ⟨nm.toArray⟩, .slice pv n0 cv] 32) := Blk.below KD.out hB3
          replace HAO : Hid (Ao b1 w5 (.slice pv n0 cv) ags) := Ao.below HAO.out hB3
          clear hB3
          go_upto_region 14 with (fail)
          go_wp2
          go_loopw [12] (fun i wr => ∃ k : Nat, k ≤ n0 ∧ i = .int .i64 (k : Int) ∧ Hid (Ao b1 wr (.slice pv n0 cv) (half (turnA n1 r) k ags)) ∧ Hid (Keep 46 w5 wr) ∧ Hid (Below b1 w5 wr)) (fun i _ => n0 - (intOf i).toNat)
          case atStart => exact ⟨0, Nat.zero_le _, rfl, by rw [half_zero]; exact HAO, ⟨Nat.le_refl _, fun _ _ _ _ _ h => h⟩, Below.refl _ _⟩
          case round =>
            clear HAO
            obtain ⟨k, hk, rfl, HAO, HKE, HBE⟩ := hrel
            obtain ⟨w6, hw6⟩ : ∃ x, x = wr := ⟨_, rfl⟩
            subst hw6
            have KD6 : Hid (Blk w6 bD #[.string ⟨nm.toArray⟩, .slice pv n0 cv] 32) := blk_keepT KD.out HKE.out (by decide)
            have xD := KD6.out.cell 1
            simp only [List.getElem?_toArray, List.getElem?_cons_succ, List.getElem?_cons_zero] at xD
            have hn0 : n0 * 32 ≤ 140737488351232 := HQ.out.2.2.1
            by_cases hlt : k < n0
            · have hlt' : (k : Int) < n0 := by omega
              obtain ⟨g, hg⟩ : ∃ g, ags[k]? = some g := ⟨_, List.getElem?_eq_getElem (by rw [HN.out.1]; exact hlt)⟩
              have HG : Hid (ags[k]? = some g) := hg
              obtain ⟨mm, hmm⟩ : ∃ m, g.l.length = m := ⟨_, rfl⟩
              have HMM : Hid (g.l.length = mm) := hmm
              have hmb : mm * 48 ≤ 140737488351232 := by rw [← hmm]; exact HQ.out.2.2.2.1 g (List.mem_of_getElem? hg)
              obtain ⟨bA, cA, sv0, e0, _⟩ := ao_set HAO.out (half_get (f := turnA n1 r) hg)
              rw [half_len, HN.out.1] at e0
              injection e0 with e0 e0n e0c
              clear e0n
              subst e0
              subst e0c
              have hw0 : IntKind.i64.wrap ((k : Int) + 1) = (k : Int) + 1 := by rw [IntKind.wrap_i64]; omega
              clear hg hmm
              go_upto_region 17 with (fail)
              clear xD
              go_wp2
              go_loopw [13] (fun j wq => ∃ q : Nat, q ≤ mm ∧ j = .int .i64 (q : Int) ∧ Hid (Ao b1 wq (.slice (some ⟨bA, 0, none⟩) n0 cv) ((half (turnA n1 r) k ags).set k ⟨g.arr, half (turnT n1 r) q g.l⟩)) ∧ Hid (Keep 46 w5 wq) ∧ Hid (Below b1 w5 wq)) (fun j _ => mm - (intOf j).toNat)
              case atStart =>
                refine ⟨0, Nat.zero_le _, rfl, ?_, HKE, HBE⟩
                rw [half_zero, show (half (turnA n1 r) k ags).set k ⟨g.arr, g.l⟩ = half (turnA n1 r) k ags from set_same (half_get HG.out)]
                exact HAO
              case round =>
                clear HAO HKE HBE KD6
                obtain ⟨q, hq, rfl, HAO, HKE, HBE⟩ := hrel
                obtain ⟨wq, hwq⟩ : ∃ x, x = wr := ⟨_, rfl⟩
                subst hwq
                have KD6 : Hid (Blk wq bD #[.string ⟨nm.toArray⟩, .slice (some ⟨bA, 0, none⟩) n0 cv] 32) := blk_keepT KD.out HKE.out (by decide)
                have y0 := KD6.out.cell 1
                simp only [List.getElem?_toArray, List.getElem?_cons_succ, List.getElem?_cons_zero] at y0
                have hgk : ((half (turnA n1 r) k ags).set k ⟨g.arr, half (turnT n1 r) q g.l⟩)[k]? = some ⟨g.arr, half (turnT n1 r) q g.l⟩ := List.getElem?_set_self (by rw [half_len, HN.out.1]; exact hlt)
                obtain ⟨bA', cA', sv, e0, hb0, ⟨curA, KA⟩, y1, ⟨ps, cs, rfl⟩, hstep⟩ := ao_set HAO.out hgk
                rw [List.length_set, half_len, HN.out.1] at e0
                injection e0 with e0 e0n e0c
                injection e0 with e0
                injection e0 with e0 _ _
                clear e0n e0c
                subst e0
                simp only [half_len, HMM.out] at y1 hstep
                by_cases hqt : q < mm
                · have hqt' : (q : Int) < mm := by omega
                  obtain ⟨t, ht⟩ : ∃ t, g.l[q]? = some t := ⟨_, List.getElem?_eq_getElem (by rw [HMM.out]; exact hqt)⟩
                  have HT : Hid (g.l[q]? = some t) := ht
                  obtain ⟨b, cb, cur, eb, hb1b, KB, y2, hset⟩ := hstep q t (half_get ht)
                  injection eb with eb _ eb2
                  subst eb
                  subst eb2
                  have HSET : Hid (∀ (x : Int), Ao b1 (wq.setCell ⟨b, q * 4, none⟩ (.int .i64 x)) (.slice (some ⟨bA, 0, none⟩) n0 cv) (((half (turnA n1 r) k ags).set k ⟨g.arr, half (turnT n1 r) q g.l⟩).set k ⟨g.arr, (half (turnT n1 r) q g.l).set q ⟨x, t.set, t.n, t.s⟩⟩)) := hset
                  have HNE : Hid (bD ≠ b ∧ bA ≠ b) := ⟨blk_ne KD6.out KB (by decide), blk_ne KA KB (by decide)⟩
                  replace KB : Hid (Blk wq b cur 46) := KB
                  have HB1b : Hid (b1 ≤ b) := hb1b
                  obtain ⟨vv, hvv⟩ : ∃ x, t.v = x := ⟨_, rfl⟩
                  have HVV : Hid (t.v = vv) := hvv
                  rw [hvv] at y2
                  have hw2 : IntKind.i64.wrap ((q : Int) + 1) = (q : Int) + 1 := by rw [IntKind.wrap_i64]; omega
                  clear hset hstep hgk ht hvv KA
                  by_cases hin : 0 ≤ vv ∧ vv < n1
                  · obtain ⟨vn, rfl⟩ : ∃ vn : Nat, vv = vn := ⟨vv.toNat, by omega⟩
                    have hin2 : (vn : Int) < n1 := hin.2
                    have hin1 : (0 : Int) ≤ vn := hin.1
                    clear hin
                    obtain ⟨kr, hkr⟩ : ∃ y, vn + r = y := ⟨_, rfl⟩
                    obtain ⟨qq, hqq⟩ : ∃ y, kr % n1 = y := ⟨_, rfl⟩
                    have hs1 : IntKind.i64.wrap ((vn : Int) + (r : Int)) = (kr : Int) := by rw [IntKind.wrap_i64]; omega
                    have hs2 : (kr : Int).tmod (n1 : Int) = (qq : Int) := by rw [← hqq]; rfl
                    have HQQ : Hid (tvN n1 r vn = qq) := by
                      rw [Hid, ← hqq, ← hkr]
                      unfold tvN
                      rw [if_pos ⟨hin1, hin2⟩, Int.natCast_emod, Int.natCast_add]
                    clear hkr hqq
                    go_upto_region 22 with (fail)
                    refine wp_region_held_drew (S := (fun w' => w'.cell? ⟨bD, 1, none⟩ = some (.slice (some ⟨bA, 0, none⟩) n0 cv) ∧ w'.cell? ⟨bA, k * 2 + 1, none⟩ = some (.slice (some ⟨b, 0, none⟩) mm cs))) (by kernel_rfl) (⟨y0, y1⟩) (fun hHeld => ?_)
                    refine wpAnyH_take (i := 0) (oi := { dst := some 86, op := Go.Op.fieldAddr 32 (Go.Operand.tmp 9) 1, type := 0, pos := "law.go:132", after := #[], guard := none }) (v := ?_) rfl (by kernel_rfl) (by kernel_rfl) (by kernel_rfl) (fun _ _ _ h => h) (Or.inl ⟨by rfl, ?_⟩) hHeld ?_
                    rotate_left
                    · intro w hSw; (try dsimp only at hSw); go_simp <;> with_reducible rfl
                    try simp only [Act.put, List.setIfInBounds_toArray, List.set_cons_zero, List.set_cons_succ]
                    refine wpAnyH_take (i := 1) (oi := { dst := some 87, op := Go.Op.load 30 (Go.Operand.tmp 86), type := 30, pos := "law.go:132", after := #[{ on := 0, ground := Go.Ground.data }], guard := none }) (v := ?_) rfl (by kernel_rfl) (by kernel_rfl) (by kernel_rfl) (fun _ _ _ h => h) (Or.inl ⟨by rfl, ?_⟩) hHeld ?_
                    rotate_left
                    · intro w hSw; obtain ⟨g0, g1⟩ := hSw; go_simp <;> with_reducible rfl
                    try simp only [Act.put, List.setIfInBounds_toArray, List.set_cons_zero, List.set_cons_succ]
                    refine wpAnyH_take (i := 2) (oi := { dst := some 88, op := Go.Op.move (Go.Operand.tmp 12), type := 3, pos := "law.go:132", after := #[], guard := none }) (v := ?_) rfl (by kernel_rfl) (by kernel_rfl) (by kernel_rfl) (fun _ _ _ h => h) (Or.inl ⟨by rfl, ?_⟩) hHeld ?_
                    rotate_left
                    · intro w hSw; (try dsimp only at hSw); go_simp <;> with_reducible rfl
                    try simp only [Act.put, List.setIfInBounds_toArray, List.set_cons_zero, List.set_cons_succ]
                    refine wpAnyH_take (i := 3) (oi := { dst := some 89, op := Go.Op.indexAddr 30 (Go.Operand.tmp 87) (Go.Operand.tmp 88), type := 0, pos := "law.go:132", after := #[{ on := 1, ground := Go.Ground.data }, { on := 2, ground := Go.Ground.data }], guard := none }) (v := ?_) rfl (by kernel_rfl) (by kernel_rfl) (by kernel_rfl) (fun _ _ _ h => h) (Or.inl ⟨by rfl, ?_⟩) hHeld ?_
                    rotate_left
                    · intro w hSw; (try dsimp only at hSw); go_simp <;> with_reducible rfl
                    try simp only [Act.put, List.setIfInBounds_toArray, List.set_cons_zero, List.set_cons_succ]
                    refine wpAnyH_take (i := 4) (oi := { dst := some 90, op := Go.Op.fieldAddr 54 (Go.Operand.tmp 89) 1, type := 0, pos := "law.go:132", after := #[{ on := 3, ground := Go.Ground.data }], guard := none }) (v := ?_) rfl (by kernel_rfl) (by kernel_rfl) (by kernel_rfl) (fun _ _ _ h => h) (Or.inl ⟨by rfl, ?_⟩) hHeld ?_
                    rotate_left
                    · intro w hSw; (try dsimp only at hSw); go_simp <;> with_reducible rfl
                    try simp only [Act.put, List.setIfInBounds_toArray, List.set_cons_zero, List.set_cons_succ]
                    refine wpAnyH_take (i := 5) (oi := { dst := some 91, op := Go.Op.load 52 (Go.Operand.tmp 90), type := 52, pos := "law.go:132", after := #[{ on := 4, ground := Go.Ground.data }], guard := none }) (v := ?_) rfl (by kernel_rfl) (by kernel_rfl) (by kernel_rfl) (fun _ _ _ h => h) (Or.inl ⟨by rfl, ?_⟩) hHeld ?_
                    rotate_left
                    · intro w hSw; obtain ⟨g0, g1⟩ := hSw; go_simp <;> with_reducible rfl
                    try simp only [Act.put, List.setIfInBounds_toArray, List.set_cons_zero, List.set_cons_succ]
                    refine wpAnyH_take (i := 6) (oi := { dst := some 92, op := Go.Op.move (Go.Operand.tmp 13), type := 3, pos := "law.go:132", after := #[], guard := none }) (v := ?_) rfl (by kernel_rfl) (by kernel_rfl) (by kernel_rfl) (fun _ _ _ h => h) (Or.inl ⟨by rfl, ?_⟩) hHeld ?_
                    rotate_left
                    · intro w hSw; (try dsimp only at hSw); go_simp <;> with_reducible rfl
                    try simp only [Act.put, List.setIfInBounds_toArray, List.set_cons_zero, List.set_cons_succ]
                    refine wpAnyH_take (i := 7) (oi := { dst := some 93, op := Go.Op.move (Go.Operand.tmp 14), type := 3, pos := "law.go:132", after := #[], guard := none }) (v := ?_) rfl (by kernel_rfl) (by kernel_rfl) (by kernel_rfl) (fun _ _ _ h => h) (Or.inl ⟨by rfl, ?_⟩) hHeld ?_
                    rotate_left
                    · intro w hSw; (try dsimp only at hSw); go_simp <;> with_reducible rfl
                    try simp only [Act.put, List.setIfInBounds_toArray, List.set_cons_zero, List.set_cons_succ]
                    refine wpAnyH_take (i := 8) (oi := { dst := some 94, op := Go.Op.move (Go.Operand.tmp 2), type := 3, pos := "law.go:132", after := #[], guard := none }) (v := ?_) rfl (by kernel_rfl) (by kernel_rfl) (by kernel_rfl) (fun _ _ _ h => h) (Or.inl ⟨by rfl, ?_⟩) hHeld ?_
                    rotate_left
                    · intro w hSw; (try dsimp only at hSw); go_simp <;> with_reducible rfl
                    try simp only [Act.put, List.setIfInBounds_toArray, List.set_cons_zero, List.set_cons_succ]
                    refine wpAnyH_take (i := 9) (oi := { dst := some 95, op := Go.Op.binOp Go.BinOp.add 3 (Go.Operand.tmp 93) (Go.Operand.tmp 94) 3, type := 3, pos := "law.go:132", after := #[{ on := 7, ground := Go.Ground.data }, { on := 8, ground := Go.Ground.data }], guard := none }) (v := ?_) rfl (by kernel_rfl) (by kernel_rfl) (by kernel_rfl) (fun _ _ _ h => h) (Or.inl ⟨by rfl, ?_⟩) hHeld ?_
                    rotate_left
                    · intro w hSw; (try dsimp only at hSw); go_simp <;> with_reducible rfl
                    try simp only [Act.put, List.setIfInBounds_toArray, List.set_cons_zero, List.set_cons_succ]
                    refine wpAnyH_take (i := 10) (oi := { dst := some 96, op := Go.Op.move (Go.Operand.tmp 7), type := 3, pos := "law.go:132", after := #[], guard := none }) (v := ?_) rfl (by kernel_rfl) (by kernel_rfl) (by kernel_rfl) (fun _ _ _ h => h) (Or.inl ⟨by rfl, ?_⟩) hHeld ?_
                    rotate_left
                    · intro w hSw; (try dsimp only at hSw); go_simp <;> with_reducible rfl
                    try simp only [Act.put, List.setIfInBounds_toArray, List.set_cons_zero, List.set_cons_succ]
                    refine wpAnyH_take (i := 11) (oi := { dst := some 97, op := Go.Op.binOp Go.BinOp.rem 3 (Go.Operand.tmp 95) (Go.Operand.tmp 96) 3, type := 3, pos := "law.go:132", after := #[{ on := 9, ground := Go.Ground.data }, { on := 10, ground := Go.Ground.data }], guard := none }) (v := ?_) rfl (by kernel_rfl) (by kernel_rfl) (by kernel_rfl) (fun _ _ _ h => h) (Or.inl ⟨by rfl, ?_⟩) hHeld ?_
                    rotate_left
                    · intro w hSw; (try dsimp only at hSw); go_simp <;> with_reducible rfl
                    try simp only [Act.put, List.setIfInBounds_toArray, List.set_cons_zero, List.set_cons_succ]
                    refine wpAnyH_take (i := 12) (oi := { dst := some 98, op := Go.Op.indexAddr 52 (Go.Operand.tmp 91) (Go.Operand.tmp 92), type := 0, pos := "law.go:132", after := #[{ on := 5, ground := Go.Ground.data }, { on := 6, ground := Go.Ground.data }, { on := 0, ground := Go.Ground.phase }, { on := 1, ground := Go.Ground.phase }, { on := 2, ground := Go.Ground.phase }, { on := 3, ground := Go.Ground.phase }, { on := 4, ground := Go.Ground.phase }, { on := 5, ground := Go.Ground.phase }, { on := 6, ground := Go.Ground.phase }, { on := 7, ground := Go.Ground.phase }, { on := 8, ground := Go.Ground.phase }, { on := 9, ground := Go.Ground.phase }, { on := 10, ground := Go.Ground.phase }, { on := 11, ground := Go.Ground.phase }], guard := none }) (v := ?_) rfl (by kernel_rfl) (by kernel_rfl) (by kernel_rfl) (fun _ _ _ h => h) (Or.inl ⟨by rfl, ?_⟩) hHeld ?_
                    rotate_left
                    · intro w hSw; (try dsimp only at hSw); go_simp <;> with_reducible rfl
                    try simp only [Act.put, List.setIfInBounds_toArray, List.set_cons_zero, List.set_cons_succ]
                    refine wpAnyH_take (i := 13) (oi := { dst := some 99, op := Go.Op.fieldAddr 46 (Go.Operand.tmp 98) 0, type := 0, pos := "law.go:132", after := #[{ on := 12, ground := Go.Ground.data }, { on := 0, ground := Go.Ground.phase }, { on := 1, ground := Go.Ground.phase }, { on := 2, ground := Go.Ground.phase }, { on := 3, ground := Go.Ground.phase }, { on := 4, ground := Go.Ground.phase }, { on := 5, ground := Go.Ground.phase }, { on := 6, ground := Go.Ground.phase }, { on := 7, ground := Go.Ground.phase }, { on := 8, ground := Go.Ground.phase }, { on := 9, ground := Go.Ground.phase }, { on := 10, ground := Go.Ground.phase }, { on := 11, ground := Go.Ground.phase }], guard := none }) (v := ?_) rfl (by kernel_rfl) (by kernel_rfl) (by kernel_rfl) (fun _ _ _ h => h) (Or.inl ⟨by rfl, ?_⟩) hHeld ?_
                    rotate_left
                    · intro w hSw; (try dsimp only at hSw); go_simp <;> with_reducible rfl
                    try simp only [Act.put, List.setIfInBounds_toArray, List.set_cons_zero, List.set_cons_succ]
                    refine wpAnyH_ready (rs := [14]) (by kernel_rfl) (by simp) ?_
                    refine AllReadyH.cons rfl (fun K hK => ?_) AllReadyH.nil
                    have d3 := y2
                    have f3 := KB.out.frozen
                    go_simp
                    refine hK.out _ _ (⟨(Below.cell_other _ _ _ _ HNE.out.1).trans y0, (Below.cell_other _ _ _ _ HNE.out.2).trans y1⟩) (fun hHeld2 => ?_)
                    clear hK K hHeld
                    have hHeld := hHeld2
                    clear hHeld2
                    try simp only [Act.put, List.setIfInBounds_toArray, List.set_cons_zero, List.set_cons_succ]
                    refine wpAnyH_done (by kernel_rfl) ?_ _
                    go_wp2
                    have hsB : Below (wq.setCell ⟨b, q * 4, none⟩ (.int .i64 (qq : Int))).heap.size (wq.setCell ⟨b, q * 4, none⟩ (.int .i64 (qq : Int))) (wq.setCell ⟨b, q * 4, none⟩ (.int .i64 (qq : Int))).drew := Below.drew (Below.refl _ _)
                    refine ⟨⟨q + 1, by omega, by go_num, ?_, ?_, ?_⟩, by simp [intOf]; omega⟩
                    · have h8 := (HSET.out (qq : Int)).below hsB
                      rw [List.set_set] at h8
                      have e8 : (⟨(qq : Int), t.set, t.n, t.s⟩ : Tm) = turnT n1 r t := by unfold turnT; rw [HVV.out, HQQ.out]
                      rw [e8, half_set HT.out] at h8
                      exact h8
                    · exact (HKE.out.trans (keep_set KB.out _ _)).trans (keep_below hsB)
                    · exact Below.drew (HBE.out.setCell HB1b.out _)
      
                  · have htt : turnT n1 r t = t := by
                      unfold turnT tvN
                      rw [if_neg (by rw [HVV.out]; exact hin)]
                    have HE : Hid (half (turnT n1 r) (q + 1) g.l = half (turnT n1 r) q g.l) := by
                      have h8 := half_set (f := turnT n1 r) HT.out
                      rw [htt, set_same (half_get HT.out)] at h8
                      exact h8.symm
                    clear htt
                    by_cases h0 : 0 ≤ vv
                    · have h1 : ¬ vv < n1 := fun e => hin ⟨h0, e⟩
                      clear hin
                      go_wp2
                      refine ⟨⟨q + 1, by omega, by go_num, ?_, HKE, HBE⟩, by simp [intOf]; omega⟩
                      rw [HE.out]
                      exact HAO
                    · clear hin
                      go_wp2
                      refine ⟨⟨q + 1, by omega, by go_num, ?_, HKE, HBE⟩, by simp [intOf]; omega⟩
                      rw [HE.out]
                      exact HAO
                · have hqt' : ¬ (q : Int) < mm := by omega
                  obtain rfl : mm = q := by omega
                  clear hstep hgk KA
                  go_wp2
                  refine ⟨⟨k + 1, by omega, by go_num, ?_, HKE, HBE⟩, by simp [intOf]; omega⟩
                  have h8 := HAO.out
                  rw [show half (turnT n1 r) mm g.l = g.l.map (turnT n1 r) by rw [← HMM.out, half_all], show (⟨g.arr, g.l.map (turnT n1 r)⟩ : Ag) = turnA n1 r g from rfl, half_set HG.out] at h8
                  exact h8
            · have hlt' : ¬ (k : Int) < n0 := by omega
              obtain rfl : n0 = k := by omega
              obtain ⟨tags, htags⟩ : ∃ x, ags.map (turnA n1 r) = x := ⟨_, rfl⟩
              have hao : Ao b1 w6 (.slice pv n0 cv) tags := by rw [← htags, ← half_all, HN.out.1]; exact HAO.out
              obtain ⟨hsa, pv2, cv2, e9, hcv1, hcv2⟩ := ao_sa hao
              injection e9 with e9p e9n e9c
              clear e9p
              subst e9c
              have HB6 : Hid (Below W.heap.size W w6) := HB.out.trans (HBE.out.mono (by rw [HBC.out]; omega))
              have KC6 : Hid (Blk w6 bC #[.string ⟨nm.toArray⟩, .slice a0 n0 c0] 32) := blk_keepT KC.out HKE.out (by decide)
              have KK6 : Blk w6 bK (boolv ks).toArray 4 := blk_keepT KK.out HKE.out (by decide)
              have hksn : ks.length = n1 := HKS.out.1
              have HSB : Hid (Sb w6 (.slice (some ⟨bK, 0, none⟩) n1 n1) ks) := ⟨some ⟨bK, 0, none⟩, n1, by rw [hksn], fun _ => ⟨bK, 0, rfl, KK6.lt, fun i x hx => by rw [Nat.zero_add, KK6.cell i]; simp [boolv, hx]⟩⟩
              have hrt : rightB nm tags ks = ee := by rw [← htags, ← HN.out.2, right_turn HKT.out]; exact HR.out
              have hMW := HM.out
              have KR2 : Hid (∀ X, Below w6.heap.size w6 X → Calls Tryz.prog 18 #[.agg #[.string ⟨nm.toArray⟩, .slice pv n0 cv], .slice (some ⟨bK, 0, none⟩) n1 n1] X fun e w' => e = .returned (.int .i64 ee) ∧ Below X.heap.size X w') := fun X hX => by
                rw [← hrt]
                refine right_any nm (hMW.below (HB6.out.trans (hX.mono HB6.out.size)) hMW.1) (hsa.below hX) e9n.symm (by omega) hcv2 (HSB.out.below hX) hksn (by omega) (fun g hg => ?_) (fun g hg t ht => ?_)
                · rw [← htags] at hg
                  obtain ⟨g', hg', rfl⟩ := List.mem_map.1 hg
                  rw [turn_len]
                  have := HQ.out.2.2.2.1 g' hg'
                  omega
                · rw [← htags] at hg
                  obtain ⟨g', hg', rfl⟩ := List.mem_map.1 hg
                  obtain ⟨t', ht', rfl⟩ := List.mem_map.1 ht
                  have := HQ.out.2.2.2.2 g' hg' t' ht'
                  show t'.s.length ≤ _
                  omega
              have z0 := KD6.out.cell 0
              have z1 := KD6.out.cell 1
              have z2 := KC6.out.cell 0
              have z3 := KC6.out.cell 1
              simp only [List.getElem?_toArray, List.getElem?_cons_succ, List.getElem?_cons_zero] at z0 z1 z2 z3
              have HLT : Hid (bD < w6.heap.size ∧ bC < w6.heap.size) := ⟨KD6.out.lt, KC6.out.lt⟩
              by_cases he : ee = 0
              · subst he
                have hV : ∀ x ∈ varsA ags, 0 ≤ x ∧ x < n1 := by rw [← HN.out.2]; exact right_vars HR.out
                have hcnt := count_turn (r := r) hV
                rw [htags] at hcnt
                obtain ⟨nV, hnV⟩ : ∃ x, (Lib.compact (sortL (varsA ags))).length = x := ⟨_, rfl⟩
                rw [hnV] at hcnt
                have hfew : ∀ (l : List Ag), rightB nm l bs = 0 ∨ rightB nm l ks = 0 → (varsA l).length ≤ 1000000000000 ∧ l.length ≤ 1000000000000 ∧ ∀ g ∈ l, g.l.length ≤ 1000000000000 := fun l hl => by
                  have hok : (findT nm).2 ≠ [] ∧ eqB l (partsF (findT nm).2) = true ∧ l.any longB = false := by
                    rcases hl with hl | hl
                    · exact ⟨(right_ok hl).1, (right_ok hl).2.1, (right_ok hl).2.2.1⟩
                    · exact ⟨(right_ok hl).1, (right_ok hl).2.1, (right_ok hl).2.2.1⟩
                  obtain ⟨h0, h1, h2⟩ := hok
                  have h3 := (eq_len h1).1
                  have h4 := (find_ok nm h0).2.1
                  have h6 : ∀ g ∈ l, g.l.length ≤ 1000 := fun g hg => by
                    have := List.any_eq_false.1 h2 g hg
                    simp [longB] at this
                    omega
                  have h5 := vars_few (ags := l) h6
                  exact ⟨by omega, by omega, fun g hg => by have := h6 g hg; omega⟩
                have hf1 := hfew ags (.inl HR.out)
                have hf2 := hfew tags (.inr hrt)
                have hcl : ∀ (L : List Int), (Lib.compact (sortL L)).length ≤ L.length := fun L => by have := Lib.compact_length_le (sortL L); rwa [sortL_len] at this
                have KV1 : Hid (∀ X, Below w6.heap.size w6 X → Calls Tryz.prog 16 #[.agg #[.string ⟨nm.toArray⟩, .slice pv n0 cv]] X fun e w' => ∃ v, e = .returned v ∧ (∃ p c, v = .slice p nV c) ∧ Below X.heap.size X w') := fun X hX => (vars_any ⟨nm.toArray⟩ (hsa.below hX) hf2.2.1 hf2.2.2 hf2.1 (hcl _)).mono fun e w' ⟨v, e1, e2, e3⟩ => ⟨v, e1, by rw [← hcnt]; exact own_shape e2, e3⟩
                have KV2 : Hid (∀ X, Below w6.heap.size w6 X → Calls Tryz.prog 16 #[.agg #[.string ⟨nm.toArray⟩, .slice a0 n0 c0]] X fun e w' => ∃ v, e = .returned v ∧ (∃ p c, v = .slice p nV c) ∧ Below X.heap.size X w') := fun X hX => (vars_any ⟨nm.toArray⟩ (HA.out.below (HB6.out.trans (hX.mono HB6.out.size))) hf1.2.1 hf1.2.2 hf1.1 (hcl _)).mono fun e w' ⟨v, e1, e2, e3⟩ => ⟨v, e1, by rw [← hnV]; exact own_shape e2, e3⟩
                clear hV hcnt hnV hfew hf1 hf2 hcl hrt htags hsa hao e9n hcv1 hcv2 KK6 hksn hMW
                go_upto_region 23 with (fail)
                refine wp_region_held_drew (S := (fun w' => Below w6.heap.size w6 w')) (by kernel_rfl) (Below.drew (Below.refl _ _)) (fun hHeld => ?_)
                refine wpAnyH_take (i := 0) (oi := { dst := some 100, op := Go.Op.load 32 (Go.Operand.tmp 9), type := 32, pos := "law.go:136", after := #[], guard := none }) (v := ?_) rfl (by kernel_rfl) (by kernel_rfl) (by kernel_rfl) (fun _ _ _ h => h) (Or.inl ⟨by rfl, ?_⟩) hHeld ?_
                rotate_left
                · intro w hSw; (try dsimp only at hSw); have g0 := (hSw.cell (p := ⟨bD, 0, none⟩) HLT.out.1).trans z0; have g1 := (hSw.cell (p := ⟨bD, 1, none⟩) HLT.out.1).trans z1; go_simp <;> with_reducible rfl
                try simp only [Act.put, List.setIfInBounds_toArray, List.set_cons_zero, List.set_cons_succ]
                refine wpAnyH_take (i := 1) (oi := { dst := some 101, op := Go.Op.move (Go.Operand.tmp 10), type := 33, pos := "law.go:136", after := #[], guard := none }) (v := ?_) rfl (by kernel_rfl) (by kernel_rfl) (by kernel_rfl) (fun _ _ _ h => h) (Or.inl ⟨by rfl, ?_⟩) hHeld ?_
                rotate_left
                · intro w hSw; (try dsimp only at hSw); go_simp <;> with_reducible rfl
                try simp only [Act.put, List.setIfInBounds_toArray, List.set_cons_zero, List.set_cons_succ]
                refine wpAnyH_take (i := 3) (oi := { dst := some 103, op := Go.Op.move (Go.Operand.tmp 8), type := 37, pos := "law.go:136", after := #[], guard := none }) (v := ?_) rfl (by kernel_rfl) (by kernel_rfl) (by kernel_rfl) (fun _ _ _ h => h) (Or.inl ⟨by rfl, ?_⟩) hHeld ?_
                rotate_left
                · intro w hSw; (try dsimp only at hSw); go_simp <;> with_reducible rfl
                try simp only [Act.put, List.setIfInBounds_toArray, List.set_cons_zero, List.set_cons_succ]
                refine wpAnyH_ready (rs := [2]) (by kernel_rfl) (by simp) ?_
                refine AllReadyH.cons rfl (fun K hK => ?_) AllReadyH.nil
                go_simp
                refine (KR2.out _ (Below.drew (Below.refl _ _))).mono ?_
                rintro e wa ⟨rfl, hba⟩
                have hcur : Below w6.heap.size w6 wa := (Below.drew (Below.refl _ w6)).trans (hba.mono (Below.drew (Below.refl w6.heap.size w6)).size)
                clear hba
                refine hK.out _ _ (hcur) (fun hHeld2 => ?_)
                clear hK K hHeld
                have hHeld := hHeld2
                clear hHeld2
                try simp only [Act.put, List.setIfInBounds_toArray, List.set_cons_zero, List.set_cons_succ]
                refine wpAnyH_take (i := 4) (oi := { dst := some 104, op := Go.Op.binOp Go.BinOp.eql 37 (Go.Operand.tmp 102) (Go.Operand.tmp 103) 37, type := 4, pos := "law.go:136", after := #[{ on := 2, ground := Go.Ground.data }, { on := 3, ground := Go.Ground.data }], guard := none }) (v := ?_) rfl (by kernel_rfl) (by kernel_rfl) (by kernel_rfl) (fun _ _ _ h => h) (Or.inl ⟨by rfl, ?_⟩) hHeld ?_
                rotate_left
                · intro w hSw; (try dsimp only at hSw); go_simp <;> with_reducible rfl
                try simp only [Act.put, List.setIfInBounds_toArray, List.set_cons_zero, List.set_cons_succ]
                refine wpAnyH_take (i := 5) (oi := { dst := some 105, op := Go.Op.move (Go.Operand.tmp 104), type := 4, pos := "law.go:136", after := #[{ on := 4, ground := Go.Ground.data }, { on := 2, ground := Go.Ground.chain }], guard := none }) (v := ?_) rfl (by kernel_rfl) (by kernel_rfl) (by kernel_rfl) (fun _ _ _ h => h) (Or.inl ⟨by rfl, ?_⟩) hHeld ?_
                rotate_left
                · intro w hSw; (try dsimp only at hSw); go_simp <;> with_reducible rfl
                try simp only [Act.put, List.setIfInBounds_toArray, List.set_cons_zero, List.set_cons_succ]
                refine wpAnyH_take (i := 6) (oi := { dst := some 106, op := Go.Op.move (Go.Operand.tmp 8), type := 37, pos := "law.go:136", after := #[{ on := 5, ground := Go.Ground.guard }], guard := some (5, true) }) (v := ?_) rfl (by kernel_rfl) (by kernel_rfl) (by kernel_rfl) (fun _ _ _ h => h) (Or.inl ⟨by rfl, ?_⟩) hHeld ?_
                rotate_left
                · intro w hSw; (try dsimp only at hSw); go_simp <;> with_reducible rfl
                try simp only [Act.put, List.setIfInBounds_toArray, List.set_cons_zero, List.set_cons_succ]
                refine wpAnyH_take (i := 7) (oi := { dst := some 107, op := Go.Op.binOp Go.BinOp.neq 37 (Go.Operand.tmp 106) (Go.Operand.const (Go.Value.int Go.IntKind.i64 0)) 37, type := 4, pos := "law.go:136", after := #[{ on := 6, ground := Go.Ground.data }, { on := 5, ground := Go.Ground.guard }], guard := some (5, true) }) (v := ?_) rfl (by kernel_rfl) (by kernel_rfl) (by kernel_rfl) (fun _ _ _ h => h) (Or.inl ⟨by rfl, ?_⟩) hHeld ?_
                rotate_left
                · intro w hSw; (try dsimp only at hSw); go_simp <;> with_reducible rfl
                try simp only [Act.put, List.setIfInBounds_toArray, List.set_cons_zero, List.set_cons_succ]
                refine wpAnyH_take (i := 8) (oi := { dst := some 108, op := Go.Op.move (Go.Operand.tmp 107), type := 4, pos := "law.go:136", after := #[{ on := 7, ground := Go.Ground.data }, { on := 5, ground := Go.Ground.chain }, { on := 5, ground := Go.Ground.guard }], guard := some (5, true) }) (v := ?_) rfl (by kernel_rfl) (by kernel_rfl) (by kernel_rfl) (fun _ _ _ h => h) (Or.inl ⟨by rfl, ?_⟩) hHeld ?_
                rotate_left
                · intro w hSw; (try dsimp only at hSw); go_simp <;> with_reducible rfl
                try simp only [Act.put, List.setIfInBounds_toArray, List.set_cons_zero, List.set_cons_succ]
                refine wpAnyH_take (i := 9) (oi := { dst := some 109, op := Go.Op.load 32 (Go.Operand.tmp 9), type := 32, pos := "law.go:136", after := #[{ on := 8, ground := Go.Ground.guard }], guard := some (8, false) }) (v := ?_) rfl (by kernel_rfl) (by kernel_rfl) (by kernel_rfl) (fun _ _ _ h => h) (Or.inl ⟨by rfl, ?_⟩) hHeld ?_
                rotate_left
                · intro w hSw; (try dsimp only at hSw); have g0 := (hSw.cell (p := ⟨bD, 0, none⟩) HLT.out.1).trans z0; have g1 := (hSw.cell (p := ⟨bD, 1, none⟩) HLT.out.1).trans z1; go_simp <;> with_reducible rfl
                try simp only [Act.put, List.setIfInBounds_toArray, List.set_cons_zero, List.set_cons_succ]
                refine wpAnyH_take (i := 12) (oi := { dst := some 112, op := Go.Op.load 32 (Go.Operand.tmp 3), type := 32, pos := "law.go:136", after := #[{ on := 8, ground := Go.Ground.guard }], guard := some (8, false) }) (v := ?_) rfl (by kernel_rfl) (by kernel_rfl) (by kernel_rfl) (fun _ _ _ h => h) (Or.inl ⟨by rfl, ?_⟩) hHeld ?_
                rotate_left
                · intro w hSw; (try dsimp only at hSw); have g0 := (hSw.cell (p := ⟨bC, 0, none⟩) HLT.out.2).trans z2; have g1 := (hSw.cell (p := ⟨bC, 1, none⟩) HLT.out.2).trans z3; go_simp <;> with_reducible rfl
                try simp only [Act.put, List.setIfInBounds_toArray, List.set_cons_zero, List.set_cons_succ]
                refine wpAnyH_ready (rs := [10]) (by kernel_rfl) (by simp) ?_
                refine AllReadyH.cons rfl (fun K hK => ?_) AllReadyH.nil
                go_simp
                refine (KV1.out _ hcur).mono ?_
                rintro e wb ⟨vb, rfl, ⟨pb, qb, rfl⟩, hbb⟩
                replace hcur := hcur.trans (hbb.mono hcur.size)
                clear hbb
                refine hK.out _ _ (hcur) (fun hHeld2 => ?_)
                clear hK K hHeld
                have hHeld := hHeld2
                clear hHeld2
                try simp only [Act.put, List.setIfInBounds_toArray, List.set_cons_zero, List.set_cons_succ]
                refine wpAnyH_take (i := 11) (oi := { dst := some 111, op := Go.Op.call { callee := Go.Callee.builtin Go.Builtin.len, args := #[Go.Operand.tmp 110], argTypes := #[35] }, type := 3, pos := "law.go:136", after := #[{ on := 10, ground := Go.Ground.data }, { on := 8, ground := Go.Ground.guard }], guard := some (8, false) }) (v := ?_) rfl (by kernel_rfl) (by kernel_rfl) (by kernel_rfl) (fun _ _ _ h => h) (Or.inl ⟨by rfl, ?_⟩) hHeld ?_
                rotate_left
                · intro w hSw; (try dsimp only at hSw); go_simp <;> with_reducible rfl
                try simp only [Act.put, List.setIfInBounds_toArray, List.set_cons_zero, List.set_cons_succ]
                refine wpAnyH_ready (rs := [13]) (by kernel_rfl) (by simp) ?_
                refine AllReadyH.cons rfl (fun K hK => ?_) AllReadyH.nil
                go_simp
                refine (KV2.out _ hcur).mono ?_
                rintro e wc ⟨vc, rfl, ⟨pc, qc, rfl⟩, hbc⟩
                replace hcur := hcur.trans (hbc.mono hcur.size)
                clear hbc
                refine hK.out _ _ (hcur) (fun hHeld2 => ?_)
                clear hK K hHeld
                have hHeld := hHeld2
                clear hHeld2
                try simp only [Act.put, List.setIfInBounds_toArray, List.set_cons_zero, List.set_cons_succ]
                refine wpAnyH_take (i := 14) (oi := { dst := some 114, op := Go.Op.call { callee := Go.Callee.builtin Go.Builtin.len, args := #[Go.Operand.tmp 113], argTypes := #[35] }, type := 3, pos := "law.go:136", after := #[{ on := 13, ground := Go.Ground.data }, { on := 8, ground := Go.Ground.guard }], guard := some (8, false) }) (v := ?_) rfl (by kernel_rfl) (by kernel_rfl) (by kernel_rfl) (fun _ _ _ h => h) (Or.inl ⟨by rfl, ?_⟩) hHeld ?_
                rotate_left
                · intro w hSw; (try dsimp only at hSw); go_simp <;> with_reducible rfl
                try simp only [Act.put, List.setIfInBounds_toArray, List.set_cons_zero, List.set_cons_succ]
                refine wpAnyH_take (i := 15) (oi := { dst := some 115, op := Go.Op.binOp Go.BinOp.eql 3 (Go.Operand.tmp 111) (Go.Operand.tmp 114) 3, type := 4, pos := "law.go:136", after := #[{ on := 11, ground := Go.Ground.data }, { on := 14, ground := Go.Ground.data }, { on := 8, ground := Go.Ground.guard }], guard := some (8, false) }) (v := ?_) rfl (by kernel_rfl) (by kernel_rfl) (by kernel_rfl) (fun _ _ _ h => h) (Or.inl ⟨by rfl, ?_⟩) hHeld ?_
                rotate_left
                · intro w hSw; (try dsimp only at hSw); go_simp <;> with_reducible rfl
                try simp only [Act.put, List.setIfInBounds_toArray, List.set_cons_zero, List.set_cons_succ]
                refine wpAnyH_take (i := 16) (oi := { dst := some 116, op := Go.Op.pick (Go.Operand.tmp 108) (Go.Operand.const (Go.Value.bool true)) (Go.Operand.tmp 115), type := 4, pos := "law.go:136", after := #[{ on := 8, ground := Go.Ground.data }, { on := 15, ground := Go.Ground.data }, { on := 5, ground := Go.Ground.guard }], guard := some (5, true) }) (v := ?_) rfl (by kernel_rfl) (by kernel_rfl) (by kernel_rfl) (fun _ _ _ h => h) (Or.inl ⟨by rfl, ?_⟩) hHeld ?_
                rotate_left
                · intro w hSw; (try dsimp only at hSw); go_simp <;> with_reducible rfl
                try simp only [Act.put, List.setIfInBounds_toArray, List.set_cons_zero, List.set_cons_succ]
                refine wpAnyH_take (i := 17) (oi := { dst := some 117, op := Go.Op.pick (Go.Operand.tmp 105) (Go.Operand.tmp 116) (Go.Operand.const (Go.Value.bool false)), type := 4, pos := "law.go:136", after := #[{ on := 5, ground := Go.Ground.data }, { on := 16, ground := Go.Ground.data }], guard := none }) (v := ?_) rfl (by kernel_rfl) (by kernel_rfl) (by kernel_rfl) (fun _ _ _ h => h) (Or.inl ⟨by rfl, ?_⟩) hHeld ?_
                rotate_left
                · intro w hSw; (try dsimp only at hSw); go_simp <;> with_reducible rfl
                try simp only [Act.put, List.setIfInBounds_toArray, List.set_cons_zero, List.set_cons_succ]
                refine wpAnyH_take (i := 18) (oi := { dst := some 118, op := Go.Op.move (Go.Operand.tmp 117), type := 4, pos := "law.go:136", after := #[{ on := 17, ground := Go.Ground.data }, { on := 13, ground := Go.Ground.chain }], guard := none }) (v := ?_) rfl (by kernel_rfl) (by kernel_rfl) (by kernel_rfl) (fun _ _ _ h => h) (Or.inl ⟨by rfl, ?_⟩) hHeld ?_
                rotate_left
                · intro w hSw; (try dsimp only at hSw); go_simp <;> with_reducible rfl
                try simp only [Act.put, List.setIfInBounds_toArray, List.set_cons_zero, List.set_cons_succ]
                refine wpAnyH_ready (rs := [19]) (by kernel_rfl) (by simp) ?_
                refine AllReadyH.cons rfl (fun K hK => ?_) AllReadyH.nil
                go_simp
                refine (KN.out _ (HB6.out.trans (hcur.mono HB6.out.size))).mono ?_
                rintro e wd ⟨rfl, hbd⟩
                replace hcur := hcur.trans (hbd.mono hcur.size)
                clear hbd
                refine hK.out _ _ (hcur) (fun hHeld2 => ?_)
                clear hK K hHeld
                have hHeld := hHeld2
                clear hHeld2
                try simp only [Act.put, List.setIfInBounds_toArray, List.set_cons_zero, List.set_cons_succ]
                refine wpAnyH_take (i := 20) (oi := { dst := some 120, op := Go.Op.pick (Go.Operand.tmp 118) (Go.Operand.tmp 119) (Go.Operand.const (Go.Value.bool false)), type := 4, pos := "law.go:136", after := #[{ on := 18, ground := Go.Ground.data }, { on := 19, ground := Go.Ground.data }], guard := none }) (v := ?_) rfl (by kernel_rfl) (by kernel_rfl) (by kernel_rfl) (fun _ _ _ h => h) (Or.inl ⟨by rfl, ?_⟩) hHeld ?_
                rotate_left
                · intro w hSw; (try dsimp only at hSw); go_simp <;> with_reducible rfl
                try simp only [Act.put, List.setIfInBounds_toArray, List.set_cons_zero, List.set_cons_succ]
                refine wpAnyH_take (i := 21) (oi := { dst := some 6, op := Go.Op.assign (Go.Operand.tmp 120), type := 4, pos := "law.go:136", after := #[{ on := 20, ground := Go.Ground.data }, { on := 19, ground := Go.Ground.chain }, { on := 0, ground := Go.Ground.phase }, { on := 1, ground := Go.Ground.phase }, { on := 2, ground := Go.Ground.phase }, { on := 3, ground := Go.Ground.phase }, { on := 4, ground := Go.Ground.phase }, { on := 5, ground := Go.Ground.phase }, { on := 6, ground := Go.Ground.phase }, { on := 7, ground := Go.Ground.phase }, { on := 8, ground := Go.Ground.phase }, { on := 9, ground := Go.Ground.phase }, { on := 10, ground := Go.Ground.phase }, { on := 11, ground := Go.Ground.phase }, { on := 12, ground := Go.Ground.phase }, { on := 13, ground := Go.Ground.phase }, { on := 14, ground := Go.Ground.phase }, { on := 15, ground := Go.Ground.phase }, { on := 16, ground := Go.Ground.phase }, { on := 17, ground := Go.Ground.phase }, { on := 18, ground := Go.Ground.phase }, { on := 19, ground := Go.Ground.phase }, { on := 20, ground := Go.Ground.phase }], guard := none }) (v := ?_) rfl (by kernel_rfl) (by kernel_rfl) (by kernel_rfl) (fun _ _ _ h => h) (Or.inl ⟨by rfl, ?_⟩) hHeld ?_
                rotate_left
                · intro w hSw; (try dsimp only at hSw); go_simp <;> with_reducible rfl
                try simp only [Act.put, List.setIfInBounds_toArray, List.set_cons_zero, List.set_cons_succ]
                refine wpAnyH_done (by kernel_rfl) ?_ _
                have HBF : Hid (Below W.heap.size W wd) := HB6.out.trans (hcur.mono HB6.out.size)
                clear hcur hHeld
                go_wp2
                go_ret
                exact ⟨rfl, HBF.out⟩
      
              · have he2 : (ee == 0) = false := by simp; exact he
                clear hrt htags hsa hao e9n hcv1 hcv2 KK6 hksn hMW
                go_upto_region 23 with (fail)
                refine wp_region_held_drew (S := (fun w' => Below w6.heap.size w6 w')) (by kernel_rfl) (Below.drew (Below.refl _ _)) (fun hHeld => ?_)
                refine wpAnyH_take (i := 0) (oi := { dst := some 100, op := Go.Op.load 32 (Go.Operand.tmp 9), type := 32, pos := "law.go:136", after := #[], guard := none }) (v := ?_) rfl (by kernel_rfl) (by kernel_rfl) (by kernel_rfl) (fun _ _ _ h => h) (Or.inl ⟨by rfl, ?_⟩) hHeld ?_
                rotate_left
                · intro w hSw; (try dsimp only at hSw); have g0 := (hSw.cell (p := ⟨bD, 0, none⟩) HLT.out.1).trans z0; have g1 := (hSw.cell (p := ⟨bD, 1, none⟩) HLT.out.1).trans z1; go_simp <;> with_reducible rfl
                try simp only [Act.put, List.setIfInBounds_toArray, List.set_cons_zero, List.set_cons_succ]
                refine wpAnyH_take (i := 1) (oi := { dst := some 101, op := Go.Op.move (Go.Operand.tmp 10), type := 33, pos := "law.go:136", after := #[], guard := none }) (v := ?_) rfl (by kernel_rfl) (by kernel_rfl) (by kernel_rfl) (fun _ _ _ h => h) (Or.inl ⟨by rfl, ?_⟩) hHeld ?_
                rotate_left
                · intro w hSw; (try dsimp only at hSw); go_simp <;> with_reducible rfl
                try simp only [Act.put, List.setIfInBounds_toArray, List.set_cons_zero, List.set_cons_succ]
                refine wpAnyH_take (i := 3) (oi := { dst := some 103, op := Go.Op.move (Go.Operand.tmp 8), type := 37, pos := "law.go:136", after := #[], guard := none }) (v := ?_) rfl (by kernel_rfl) (by kernel_rfl) (by kernel_rfl) (fun _ _ _ h => h) (Or.inl ⟨by rfl, ?_⟩) hHeld ?_
                rotate_left
                · intro w hSw; (try dsimp only at hSw); go_simp <;> with_reducible rfl
                try simp only [Act.put, List.setIfInBounds_toArray, List.set_cons_zero, List.set_cons_succ]
                refine wpAnyH_ready (rs := [2]) (by kernel_rfl) (by simp) ?_
                refine AllReadyH.cons rfl (fun K hK => ?_) AllReadyH.nil
                go_simp
                refine (KR2.out _ (Below.drew (Below.refl _ _))).mono ?_
                rintro e wa ⟨rfl, hba⟩
                have hcur : Below w6.heap.size w6 wa := (Below.drew (Below.refl _ w6)).trans (hba.mono (Below.drew (Below.refl w6.heap.size w6)).size)
                clear hba
                refine hK.out _ _ (hcur) (fun hHeld2 => ?_)
                clear hK K hHeld
                have hHeld := hHeld2
                clear hHeld2
                try simp only [Act.put, List.setIfInBounds_toArray, List.set_cons_zero, List.set_cons_succ]
                refine wpAnyH_take (i := 4) (oi := { dst := some 104, op := Go.Op.binOp Go.BinOp.eql 37 (Go.Operand.tmp 102) (Go.Operand.tmp 103) 37, type := 4, pos := "law.go:136", after := #[{ on := 2, ground := Go.Ground.data }, { on := 3, ground := Go.Ground.data }], guard := none }) (v := ?_) rfl (by kernel_rfl) (by kernel_rfl) (by kernel_rfl) (fun _ _ _ h => h) (Or.inl ⟨by rfl, ?_⟩) hHeld ?_
                rotate_left
                · intro w hSw; (try dsimp only at hSw); go_simp <;> with_reducible rfl
                try simp only [Act.put, List.setIfInBounds_toArray, List.set_cons_zero, List.set_cons_succ]
                refine wpAnyH_take (i := 5) (oi := { dst := some 105, op := Go.Op.move (Go.Operand.tmp 104), type := 4, pos := "law.go:136", after := #[{ on := 4, ground := Go.Ground.data }, { on := 2, ground := Go.Ground.chain }], guard := none }) (v := ?_) rfl (by kernel_rfl) (by kernel_rfl) (by kernel_rfl) (fun _ _ _ h => h) (Or.inl ⟨by rfl, ?_⟩) hHeld ?_
                rotate_left
                · intro w hSw; (try dsimp only at hSw); go_simp <;> with_reducible rfl
                try simp only [Act.put, List.setIfInBounds_toArray, List.set_cons_zero, List.set_cons_succ]
                refine wpAnyH_take (i := 6) (oi := { dst := some 106, op := Go.Op.move (Go.Operand.tmp 8), type := 37, pos := "law.go:136", after := #[{ on := 5, ground := Go.Ground.guard }], guard := some (5, true) }) (v := ?_) rfl (by kernel_rfl) (by kernel_rfl) (by kernel_rfl) (fun _ _ _ h => h) (Or.inl ⟨by rfl, ?_⟩) hHeld ?_
                rotate_left
                · intro w hSw; (try dsimp only at hSw); go_simp <;> with_reducible rfl
                try simp only [Act.put, List.setIfInBounds_toArray, List.set_cons_zero, List.set_cons_succ]
                refine wpAnyH_take (i := 7) (oi := { dst := some 107, op := Go.Op.binOp Go.BinOp.neq 37 (Go.Operand.tmp 106) (Go.Operand.const (Go.Value.int Go.IntKind.i64 0)) 37, type := 4, pos := "law.go:136", after := #[{ on := 6, ground := Go.Ground.data }, { on := 5, ground := Go.Ground.guard }], guard := some (5, true) }) (v := .bool true) rfl (by kernel_rfl) (by kernel_rfl) (by kernel_rfl) (fun _ _ _ h => h) (Or.inl ⟨by rfl, ?_⟩) hHeld ?_
                skip
                · intro w hSw; go_simp <;> first | with_reducible rfl | (simp [he]; done)
                try simp only [Act.put, List.setIfInBounds_toArray, List.set_cons_zero, List.set_cons_succ]
                refine wpAnyH_take (i := 8) (oi := { dst := some 108, op := Go.Op.move (Go.Operand.tmp 107), type := 4, pos := "law.go:136", after := #[{ on := 7, ground := Go.Ground.data }, { on := 5, ground := Go.Ground.chain }, { on := 5, ground := Go.Ground.guard }], guard := some (5, true) }) (v := ?_) rfl (by kernel_rfl) (by kernel_rfl) (by kernel_rfl) (fun _ _ _ h => h) (Or.inl ⟨by rfl, ?_⟩) hHeld ?_
                rotate_left
                · intro w hSw; (try dsimp only at hSw); go_simp <;> with_reducible rfl
                try simp only [Act.put, List.setIfInBounds_toArray, List.set_cons_zero, List.set_cons_succ]
                refine wpAnyH_take (i := 9) (oi := { dst := some 109, op := Go.Op.load 32 (Go.Operand.tmp 9), type := 32, pos := "law.go:136", after := #[{ on := 8, ground := Go.Ground.guard }], guard := some (8, false) }) (v := undef) rfl (by kernel_rfl) (by kernel_rfl) (by kernel_rfl) (fun _ _ _ h => h) (Or.inr ⟨by rfl, rfl⟩) hHeld ?_
                try simp only [Act.put, List.setIfInBounds_toArray, List.set_cons_zero, List.set_cons_succ]
                refine wpAnyH_take (i := 10) (oi := { dst := some 110, op := Go.Op.call { callee := Go.Callee.value (Go.Operand.func 16), args := #[Go.Operand.tmp 109], argTypes := #[32] }, type := 35, pos := "law.go:136", after := #[{ on := 9, ground := Go.Ground.data }, { on := 8, ground := Go.Ground.chain }, { on := 8, ground := Go.Ground.guard }], guard := some (8, false) }) (v := undef) rfl (by kernel_rfl) (by kernel_rfl) (by kernel_rfl) (fun _ _ _ h => h) (Or.inr ⟨by rfl, rfl⟩) hHeld ?_
                try simp only [Act.put, List.setIfInBounds_toArray, List.set_cons_zero, List.set_cons_succ]
                refine wpAnyH_take (i := 11) (oi := { dst := some 111, op := Go.Op.call { callee := Go.Callee.builtin Go.Builtin.len, args := #[Go.Operand.tmp 110], argTypes := #[35] }, type := 3, pos := "law.go:136", after := #[{ on := 10, ground := Go.Ground.data }, { on := 8, ground := Go.Ground.guard }], guard := some (8, false) }) (v := undef) rfl (by kernel_rfl) (by kernel_rfl) (by kernel_rfl) (fun _ _ _ h => h) (Or.inr ⟨by rfl, rfl⟩) hHeld ?_
                try simp only [Act.put, List.setIfInBounds_toArray, List.set_cons_zero, List.set_cons_succ]
                refine wpAnyH_take (i := 12) (oi := { dst := some 112, op := Go.Op.load 32 (Go.Operand.tmp 3), type := 32, pos := "law.go:136", after := #[{ on := 8, ground := Go.Ground.guard }], guard := some (8, false) }) (v := undef) rfl (by kernel_rfl) (by kernel_rfl) (by kernel_rfl) (fun _ _ _ h => h) (Or.inr ⟨by rfl, rfl⟩) hHeld ?_
                try simp only [Act.put, List.setIfInBounds_toArray, List.set_cons_zero, List.set_cons_succ]
                refine wpAnyH_take (i := 13) (oi := { dst := some 113, op := Go.Op.call { callee := Go.Callee.value (Go.Operand.func 16), args := #[Go.Operand.tmp 112], argTypes := #[32] }, type := 35, pos := "law.go:136", after := #[{ on := 12, ground := Go.Ground.data }, { on := 10, ground := Go.Ground.chain }, { on := 8, ground := Go.Ground.guard }], guard := some (8, false) }) (v := undef) rfl (by kernel_rfl) (by kernel_rfl) (by kernel_rfl) (fun _ _ _ h => h) (Or.inr ⟨by rfl, rfl⟩) hHeld ?_
                try simp only [Act.put, List.setIfInBounds_toArray, List.set_cons_zero, List.set_cons_succ]
                refine wpAnyH_take (i := 14) (oi := { dst := some 114, op := Go.Op.call { callee := Go.Callee.builtin Go.Builtin.len, args := #[Go.Operand.tmp 113], argTypes := #[35] }, type := 3, pos := "law.go:136", after := #[{ on := 13, ground := Go.Ground.data }, { on := 8, ground := Go.Ground.guard }], guard := some (8, false) }) (v := undef) rfl (by kernel_rfl) (by kernel_rfl) (by kernel_rfl) (fun _ _ _ h => h) (Or.inr ⟨by rfl, rfl⟩) hHeld ?_
                try simp only [Act.put, List.setIfInBounds_toArray, List.set_cons_zero, List.set_cons_succ]
                refine wpAnyH_take (i := 15) (oi := { dst := some 115, op := Go.Op.binOp Go.BinOp.eql 3 (Go.Operand.tmp 111) (Go.Operand.tmp 114) 3, type := 4, pos := "law.go:136", after := #[{ on := 11, ground := Go.Ground.data }, { on := 14, ground := Go.Ground.data }, { on := 8, ground := Go.Ground.guard }], guard := some (8, false) }) (v := undef) rfl (by kernel_rfl) (by kernel_rfl) (by kernel_rfl) (fun _ _ _ h => h) (Or.inr ⟨by rfl, rfl⟩) hHeld ?_
                try simp only [Act.put, List.setIfInBounds_toArray, List.set_cons_zero, List.set_cons_succ]
                refine wpAnyH_take (i := 16) (oi := { dst := some 116, op := Go.Op.pick (Go.Operand.tmp 108) (Go.Operand.const (Go.Value.bool true)) (Go.Operand.tmp 115), type := 4, pos := "law.go:136", after := #[{ on := 8, ground := Go.Ground.data }, { on := 15, ground := Go.Ground.data }, { on := 5, ground := Go.Ground.guard }], guard := some (5, true) }) (v := ?_) rfl (by kernel_rfl) (by kernel_rfl) (by kernel_rfl) (fun _ _ _ h => h) (Or.inl ⟨by rfl, ?_⟩) hHeld ?_
                rotate_left
                · intro w hSw; (try dsimp only at hSw); go_simp <;> with_reducible rfl
                try simp only [Act.put, List.setIfInBounds_toArray, List.set_cons_zero, List.set_cons_succ]
                refine wpAnyH_take (i := 17) (oi := { dst := some 117, op := Go.Op.pick (Go.Operand.tmp 105) (Go.Operand.tmp 116) (Go.Operand.const (Go.Value.bool false)), type := 4, pos := "law.go:136", after := #[{ on := 5, ground := Go.Ground.data }, { on := 16, ground := Go.Ground.data }], guard := none }) (v := ?_) rfl (by kernel_rfl) (by kernel_rfl) (by kernel_rfl) (fun _ _ _ h => h) (Or.inl ⟨by rfl, ?_⟩) hHeld ?_
                rotate_left
                · intro w hSw; (try dsimp only at hSw); go_simp <;> with_reducible rfl
                try simp only [Act.put, List.setIfInBounds_toArray, List.set_cons_zero, List.set_cons_succ]
                refine wpAnyH_take (i := 18) (oi := { dst := some 118, op := Go.Op.move (Go.Operand.tmp 117), type := 4, pos := "law.go:136", after := #[{ on := 17, ground := Go.Ground.data }, { on := 13, ground := Go.Ground.chain }], guard := none }) (v := ?_) rfl (by kernel_rfl) (by kernel_rfl) (by kernel_rfl) (fun _ _ _ h => h) (Or.inl ⟨by rfl, ?_⟩) hHeld ?_
                rotate_left
                · intro w hSw; (try dsimp only at hSw); go_simp <;> with_reducible rfl
                try simp only [Act.put, List.setIfInBounds_toArray, List.set_cons_zero, List.set_cons_succ]
                refine wpAnyH_ready (rs := [19]) (by kernel_rfl) (by simp) ?_
                refine AllReadyH.cons rfl (fun K hK => ?_) AllReadyH.nil
                go_simp
                refine (KN.out _ (HB6.out.trans (hcur.mono HB6.out.size))).mono ?_
                rintro e wd ⟨rfl, hbd⟩
                replace hcur := hcur.trans (hbd.mono hcur.size)
                clear hbd
                refine hK.out _ _ (hcur) (fun hHeld2 => ?_)
                clear hK K hHeld
                have hHeld := hHeld2
                clear hHeld2
                try simp only [Act.put, List.setIfInBounds_toArray, List.set_cons_zero, List.set_cons_succ]
                refine wpAnyH_take (i := 20) (oi := { dst := some 120, op := Go.Op.pick (Go.Operand.tmp 118) (Go.Operand.tmp 119) (Go.Operand.const (Go.Value.bool false)), type := 4, pos := "law.go:136", after := #[{ on := 18, ground := Go.Ground.data }, { on := 19, ground := Go.Ground.data }], guard := none }) (v := ?_) rfl (by kernel_rfl) (by kernel_rfl) (by kernel_rfl) (fun _ _ _ h => h) (Or.inl ⟨by rfl, ?_⟩) hHeld ?_
                rotate_left
                · intro w hSw; (try dsimp only at hSw); go_simp <;> with_reducible rfl
                try simp only [Act.put, List.setIfInBounds_toArray, List.set_cons_zero, List.set_cons_succ]
                refine wpAnyH_take (i := 21) (oi := { dst := some 6, op := Go.Op.assign (Go.Operand.tmp 120), type := 4, pos := "law.go:136", after := #[{ on := 20, ground := Go.Ground.data }, { on := 19, ground := Go.Ground.chain }, { on := 0, ground := Go.Ground.phase }, { on := 1, ground := Go.Ground.phase }, { on := 2, ground := Go.Ground.phase }, { on := 3, ground := Go.Ground.phase }, { on := 4, ground := Go.Ground.phase }, { on := 5, ground := Go.Ground.phase }, { on := 6, ground := Go.Ground.phase }, { on := 7, ground := Go.Ground.phase }, { on := 8, ground := Go.Ground.phase }, { on := 9, ground := Go.Ground.phase }, { on := 10, ground := Go.Ground.phase }, { on := 11, ground := Go.Ground.phase }, { on := 12, ground := Go.Ground.phase }, { on := 13, ground := Go.Ground.phase }, { on := 14, ground := Go.Ground.phase }, { on := 15, ground := Go.Ground.phase }, { on := 16, ground := Go.Ground.phase }, { on := 17, ground := Go.Ground.phase }, { on := 18, ground := Go.Ground.phase }, { on := 19, ground := Go.Ground.phase }, { on := 20, ground := Go.Ground.phase }], guard := none }) (v := ?_) rfl (by kernel_rfl) (by kernel_rfl) (by kernel_rfl) (fun _ _ _ h => h) (Or.inl ⟨by rfl, ?_⟩) hHeld ?_
                rotate_left
                · intro w hSw; (try dsimp only at hSw); go_simp <;> with_reducible rfl
                try simp only [Act.put, List.setIfInBounds_toArray, List.set_cons_zero, List.set_cons_succ]
                refine wpAnyH_done (by kernel_rfl) ?_ _
                have HBF : Hid (Below W.heap.size W wd) := HB6.out.trans (hcur.mono HB6.out.size)
                clear hcur hHeld
                go_wp2
                go_ret
                exact ⟨rfl, HBF.out⟩
      

end Go.Proofs.YtaeobgajhieajaaGreatDoor
