/-
  What is proved here: appendArg.
-/
import Derived.Test.YtpgecdhieakilaaGreatDoorDhj
namespace Go.Proofs.YtpgecdhieakilaaGreatDoor
open Go.RowKit Go.Shelf
set_option linter.unusedVariables false
set_option linter.unusedSimpArgs false
/-- An argument as text, where it holds no set. -/
def agT (g : Ag) : List UInt8 := if g.arr then [91] ++ tsP tmT g.l g.l.length ++ [93] else tsP tmT g.l g.l.length
theorem agT_length {g : Ag} (h : ∀ t ∈ g.l, t.small) : (agT g).length ≤ 24 * g.l.length + 2 := by
  have := tsP_len tmT g.l 22 (fun t h9 => tmT_length (h t h9)) g.l.length
  unfold agT
  split <;> simp <;> omega
theorem Ob.alloc {B : Nat} {w : World} {v : Value} {L : List UInt8} (h : Ob B w v L) (o : Obj) : Ob B (w.alloc o) v L := h.below ((Below.refl _ w).alloc (Nat.le_refl _) _)
theorem Ob.drew {B : Nat} {w : World} {v : Value} {L : List UInt8} (h : Ob B w v L) : Ob B w.drew v L := h.below (Below.drew (Below.refl _ w))
theorem Blk.drew {w : World} {g : Nat} {cs : Array Value} {ty : TypeId} (h : Blk w g cs ty) : Blk w.drew g cs ty := ⟨h.h⟩
theorem Blk.newOf {B : Nat} {w : World} {v : Value} {L : List UInt8} (_h : Ob B w v L) (cs : Array Value) (ty : TypeId) : Blk (w.alloc (.cells cs ty)) w.heap.size cs ty := Blk.new w cs ty
theorem Below.alloc1 {B : Nat} {X w : World} (h : Below B X w) (hB : B ≤ w.heap.size) (o : Obj) : Below B X (w.alloc o) := h.alloc hB o

set_option maxRecDepth 100000 in
set_option maxHeartbeats 4000000 in
theorem arg_any {B0 : Nat} {X W : World} {out s : Value} {L : List UInt8} (g : Ag) (hs : St B0 X s g.l) (hW : Below X.heap.size X W) (ho : Ob X.heap.size W out L) (hL2 : 2 ≤ L.length) (hsm : ∀ t ∈ g.l, t.small) (hL : L.length + 24 * g.l.length ≤ 10000000) :
    Calls Tryz.prog 64 #[out, .agg #[.bool g.arr, s]] W fun e w' => ∃ v', e = .returned v' ∧ Ob X.heap.size w' v' (L ++ agT g) ∧ Below X.heap.size X w' ∧ Kf W w' := by
  obtain ⟨a8, c8, rfl, h⟩ := hs
  have HE : Hid (agT g = if g.arr then [91] ++ tsP tmT g.l g.l.length ++ [93] else tsP tmT g.l g.l.length) := rfl
  obtain ⟨T, hT⟩ : ∃ T, agT g = T := ⟨_, rfl⟩
  rw [hT] at HE ⊢
  clear hT
  obtain ⟨l, hl⟩ : ∃ l, g.l = l := ⟨_, rfl⟩
  obtain ⟨ar, har⟩ : ∃ l, g.arr = l := ⟨_, rfl⟩
  rw [hl] at h hsm hL; rw [hl, har] at HE
  rw [hl, har]
  obtain ⟨n, hn0⟩ : ∃ n, l.length = n := ⟨_, rfl⟩
  have HST : Hid (St B0 X (.slice a8 n c8) l) := ⟨a8, c8, by rw [hn0], h⟩
  have HTL : Hid ((tsP tmT l n).length ≤ (22 + 2) * n) := tsP_len tmT l 22 (fun t h => tmT_length (hsm t h)) n
  rw [hn0] at hL HE ⊢
  have HN : Hid (l.length = n) := hn0
  have htl := HTL.out
  have HSM : Hid (∀ t ∈ l, t.small) := hsm
  clear h hn0 hsm hl har
  have hbA : Below W.heap.size W (W.alloc (Obj.cells #[.bool ar, .slice a8 n c8] 54)) := (Below.refl _ W).alloc (Nat.le_refl _) _
  have hobA := ho.below hbA
  have hBA : Below X.heap.size X (W.alloc (Obj.cells #[.bool ar, .slice a8 n c8] 54)) := hW.trans (hbA.mono hW.size)
  have hkA : Kf W (W.alloc (Obj.cells #[.bool ar, .slice a8 n c8] 54)) := (Kf.refl W).alloc _
  have hnew := Blk.new W #[.bool ar, .slice a8 n c8] 54
  have HO : Hid _ := ho
  clear ho hbA hW
  obtain ⟨WA, hWA⟩ : ∃ Y, W.alloc (Obj.cells #[.bool ar, .slice a8 n c8] 54) = Y := ⟨_, rfl⟩
  have HWA : Hid (W.alloc (Obj.cells #[.bool ar, .slice a8 n c8] 54) = WA) := hWA
  rw [hWA] at hobA hBA hkA hnew
  have c0 : WA.cell? ⟨W.heap.size, 0, none⟩ = some (.bool ar) := hnew.cell 0
  have c1 : WA.cell? ⟨W.heap.size, 1, none⟩ = some (.slice a8 n c8) := hnew.cell 1
  clear hWA
  go_enter Tryz.func64, Tryz.ntmps64
  cases ar with
  | false =>
    have HE2 : Hid (T = tsP tmT l n) := (by have := HE.out; simpa using this : T = tsP tmT l n)
    go_upto_region 1 with (fail)
    rw [HWA.out]
    go_wp2_with fail
    have hn9 := HN.out
    refine (terms_any (L := L) HST.out hBA hobA hL2 HSM.out (by omega)).mono ?_
    rintro e w4 ⟨v4, rfl, ob4, hb4, hk4⟩
    have HZ : Hid (Ob X.heap.size w4 v4 (L ++ T) ∧ Below X.heap.size X w4 ∧ Kf W w4) := ⟨by rw [HE2.out, ← hn9]; exact ob4, hb4, hkA.trans hk4⟩
    clear ob4 hb4 hk4 hn9
    go_wp2
    go_ret
    exact ⟨_, rfl, HZ.out⟩
  | true =>
    have HE2 : Hid (T = [91] ++ tsP tmT l n ++ [93]) := (by have := HE.out; simpa using this : T = [91] ++ tsP tmT l n ++ [93])
    go_upto_region 1 with (fail)
    rw [HWA.out]
    go_upto_region 3 with (fail)
    have ob := hobA.drew
    have bx := hnew.drew
    have hKf := (Kf.refl WA).drew
    have hB : Below X.heap.size X WA.drew := Below.drew hBA
    clear hobA hBA hnew c0 c1
    refine wp_region_held_drew (S := (fun w' => w'.cell? ⟨W.heap.size, 1, none⟩ = some (.slice a8 n c8))) (by kernel_rfl) (bx.cell 1) (fun hHeld => ?_)
    refine wpAnyH_take (i := 0) (oi := { dst := some 12, op := Go.Op.move (Go.Operand.tmp 0), type := 98, pos := "text.go:30", after := #[], guard := none }) (v := ?_) rfl (by kernel_rfl) (by kernel_rfl) (by kernel_rfl) (fun _ _ _ h => h) (Or.inl ⟨by rfl, ?_⟩) hHeld ?_
    rotate_left
    · intro w hSw; (try dsimp only at hSw); go_simp <;> with_reducible rfl
    try simp only [Act.put, List.setIfInBounds_toArray, List.set_cons_zero, List.set_cons_succ]
    refine wpAnyH_take (i := 3) (oi := { dst := some 15, op := Go.Op.fieldAddr 54 (Go.Operand.tmp 3) 1, type := 0, pos := "text.go:30", after := #[], guard := none }) (v := ?_) rfl (by kernel_rfl) (by kernel_rfl) (by kernel_rfl) (fun _ _ _ h => h) (Or.inl ⟨by rfl, ?_⟩) hHeld ?_
    rotate_left
    · intro w hSw; (try dsimp only at hSw); go_simp <;> with_reducible rfl
    try simp only [Act.put, List.setIfInBounds_toArray, List.set_cons_zero, List.set_cons_succ]
    refine wpAnyH_take (i := 4) (oi := { dst := some 16, op := Go.Op.load 52 (Go.Operand.tmp 15), type := 52, pos := "text.go:30", after := #[{ on := 3, ground := Go.Ground.data }], guard := none }) (v := ?_) rfl (by kernel_rfl) (by kernel_rfl) (by kernel_rfl) (fun _ _ _ h => h) (Or.inl ⟨by rfl, ?_⟩) hHeld ?_
    rotate_left
    · intro w hSw; (try dsimp only at hSw); go_simp <;> with_reducible rfl
    try simp only [Act.put, List.setIfInBounds_toArray, List.set_cons_zero, List.set_cons_succ]
    refine wpAnyH_ready (rs := [1, 6]) (by kernel_rfl) (by simp) ?_
    refine AllReadyH.cons rfl (fun K hK => ?_) ?_
    · go_simp
      have b1 := Blk.newOf ob #[.int .u8 91] 5
      (try rw [World.size_alloc] at b1)
      have bx := bx.alloc (Obj.cells #[.int .u8 91] 5)
      have hKf := hKf.alloc (Obj.cells #[.int .u8 91] 5)
      have hB := Below.alloc1 hB hB.size (Obj.cells #[.int .u8 91] 5)
      have ob := ob.alloc (Obj.cells #[.int .u8 91] 5)
      refine hK.out _ _ (bx.cell 1) (fun hHeld2 => ?_)
      clear hK K hHeld
      have hHeld := hHeld2
      clear hHeld2
      try simp only [Act.put, List.setIfInBounds_toArray, List.set_cons_zero, List.set_cons_succ]
      refine wpAnyH_ready (rs := [2, 6]) (by kernel_rfl) (by simp) ?_
      refine AllReadyH.cons rfl (fun K hK => ?_) ?_
      · refine step_app_b _ rfl (.tmp 12) (.tmp 13) rfl X.heap.size _ L (by with_unfolding_all rfl) ob _ 91 (by with_unfolding_all rfl) (b1.cell 0) hB.size (by omega) hL2 ?_
        intro v3 w3 ob3 hb3 hk3
        have hB := hB.trans hb3
        have hKf := hKf.trans hk3
        have bx := bx.kept hk3 (by intro h; cases h)
        have ob := ob3
        clear ob3
        refine hK.out _ _ (bx.cell 1) (fun hHeld2 => ?_)
        clear hK K hHeld
        have hHeld := hHeld2
        clear hHeld2
        try simp only [Act.put, List.setIfInBounds_toArray, List.set_cons_zero, List.set_cons_succ]
        refine wpAnyH_ready (rs := [5, 6]) (by kernel_rfl) (by simp) ?_
        refine AllReadyH.cons rfl (fun K hK => ?_) ?_
        · go_simp
          refine (terms_any HST.out hB ob (by simp; omega) HSM.out (by have h9 := HN.out; simp; omega)).mono ?_
          rintro e w4 ⟨v4, rfl, ob4, hb4, hk4⟩
          have hB := hb4
          have hKf := hKf.trans hk4
          have bx := bx.kept hk4 (by intro h; cases h)
          have ob := ob4
          clear ob4
          rw [HN.out] at ob
          refine hK.out _ _ (bx.cell 1) (fun hHeld2 => ?_)
          clear hK K hHeld
          have hHeld := hHeld2
          clear hHeld2
          try simp only [Act.put, List.setIfInBounds_toArray, List.set_cons_zero, List.set_cons_succ]
          refine wpAnyH_ready (rs := [6]) (by kernel_rfl) (by simp) ?_
          refine AllReadyH.cons rfl (fun K hK => ?_) AllReadyH.nil
          go_simp
          have b2 := Blk.newOf ob #[.int .u8 93] 5
          (try rw [World.size_alloc] at b2)
          have bx := bx.alloc (Obj.cells #[.int .u8 93] 5)
          have hKf := hKf.alloc (Obj.cells #[.int .u8 93] 5)
          have hB := Below.alloc1 hB hB.size (Obj.cells #[.int .u8 93] 5)
          have ob := ob.alloc (Obj.cells #[.int .u8 93] 5)
          refine hK.out _ _ (bx.cell 1) (fun hHeld2 => ?_)
          clear hK K hHeld
          have hHeld := hHeld2
          clear hHeld2
          try simp only [Act.put, List.setIfInBounds_toArray, List.set_cons_zero, List.set_cons_succ]
          refine wpAnyH_ready (rs := [7]) (by kernel_rfl) (by simp) ?_
          refine AllReadyH.cons rfl (fun K hK => ?_) AllReadyH.nil
          refine step_app_b _ rfl (.tmp 17) (.tmp 18) rfl X.heap.size _ _ (by with_unfolding_all rfl) ob _ 93 (by with_unfolding_all rfl) (b2.cell 0) hB.size (by simp; omega) (by simp; omega) ?_
          intro v5 w5 ob5 hb5 hk5
          have hB := hB.trans hb5
          have hKf := hKf.trans hk5
          have bx := bx.kept hk5 (by intro h; cases h)
          have ob := ob5
          clear ob5
          refine hK.out _ _ (bx.cell 1) (fun hHeld2 => ?_)
          clear hK K hHeld
          have hHeld := hHeld2
          clear hHeld2
          try simp only [Act.put, List.setIfInBounds_toArray, List.set_cons_zero, List.set_cons_succ]
          refine wpAnyH_take (i := 8) (oi := { dst := some 4, op := Go.Op.assign (Go.Operand.tmp 19), type := 98, pos := "text.go:30", after := #[{ on := 7, ground := Go.Ground.data }, { on := 7, ground := Go.Ground.chain }, { on := 0, ground := Go.Ground.phase }, { on := 1, ground := Go.Ground.phase }, { on := 2, ground := Go.Ground.phase }, { on := 3, ground := Go.Ground.phase }, { on := 4, ground := Go.Ground.phase }, { on := 5, ground := Go.Ground.phase }, { on := 6, ground := Go.Ground.phase }, { on := 7, ground := Go.Ground.phase }], guard := none }) (v := ?_) rfl (by kernel_rfl) (by kernel_rfl) (by kernel_rfl) (fun _ _ _ h => h) (Or.inl ⟨by rfl, ?_⟩) hHeld ?_
          rotate_left
          · intro w hSw; (try dsimp only at hSw); go_simp <;> with_reducible rfl
          try simp only [Act.put, List.setIfInBounds_toArray, List.set_cons_zero, List.set_cons_succ]
          refine wpAnyH_done (by kernel_rfl) ?_ _
          have HZ : Hid (Ob X.heap.size w5 v5 (L ++ T) ∧ Below X.heap.size X w5 ∧ Kf W w5) := ⟨by rw [HE2.out]; simpa using ob, hB, hkA.trans hKf⟩
          clear ob hB hKf
          go_wp2
          go_ret
          exact ⟨_, rfl, HZ.out⟩
        refine AllReadyH.cons rfl (fun K hK => ?_) ?_
        · go_simp
          have b2 := Blk.newOf ob #[.int .u8 93] 5
          (try rw [World.size_alloc] at b2)
          have bx := bx.alloc (Obj.cells #[.int .u8 93] 5)
          have hKf := hKf.alloc (Obj.cells #[.int .u8 93] 5)
          have hB := Below.alloc1 hB hB.size (Obj.cells #[.int .u8 93] 5)
          have ob := ob.alloc (Obj.cells #[.int .u8 93] 5)
          refine hK.out _ _ (bx.cell 1) (fun hHeld2 => ?_)
          clear hK K hHeld
          have hHeld := hHeld2
          clear hHeld2
          try simp only [Act.put, List.setIfInBounds_toArray, List.set_cons_zero, List.set_cons_succ]
          refine wpAnyH_ready (rs := [5]) (by kernel_rfl) (by simp) ?_
          refine AllReadyH.cons rfl (fun K hK => ?_) AllReadyH.nil
          go_simp
          refine (terms_any HST.out hB ob (by simp; omega) HSM.out (by have h9 := HN.out; simp; omega)).mono ?_
          rintro e w4 ⟨v4, rfl, ob4, hb4, hk4⟩
          have hB := hb4
          have hKf := hKf.trans hk4
          have bx := bx.kept hk4 (by intro h; cases h)
          have b2 := b2.kept hk4 (fun _ => by simp)
          have ob := ob4
          clear ob4
          rw [HN.out] at ob
          refine hK.out _ _ (bx.cell 1) (fun hHeld2 => ?_)
          clear hK K hHeld
          have hHeld := hHeld2
          clear hHeld2
          try simp only [Act.put, List.setIfInBounds_toArray, List.set_cons_zero, List.set_cons_succ]
          refine wpAnyH_ready (rs := [7]) (by kernel_rfl) (by simp) ?_
          refine AllReadyH.cons rfl (fun K hK => ?_) AllReadyH.nil
          refine step_app_b _ rfl (.tmp 17) (.tmp 18) rfl X.heap.size _ _ (by with_unfolding_all rfl) ob _ 93 (by with_unfolding_all rfl) (b2.cell 0) hB.size (by simp; omega) (by simp; omega) ?_
          intro v5 w5 ob5 hb5 hk5
          have hB := hB.trans hb5
          have hKf := hKf.trans hk5
          have bx := bx.kept hk5 (by intro h; cases h)
          have ob := ob5
          clear ob5
          refine hK.out _ _ (bx.cell 1) (fun hHeld2 => ?_)
          clear hK K hHeld
          have hHeld := hHeld2
          clear hHeld2
          try simp only [Act.put, List.setIfInBounds_toArray, List.set_cons_zero, List.set_cons_succ]
          refine wpAnyH_take (i := 8) (oi := { dst := some 4, op := Go.Op.assign (Go.Operand.tmp 19), type := 98, pos := "text.go:30", after := #[{ on := 7, ground := Go.Ground.data }, { on := 7, ground := Go.Ground.chain }, { on := 0, ground := Go.Ground.phase }, { on := 1, ground := Go.Ground.phase }, { on := 2, ground := Go.Ground.phase }, { on := 3, ground := Go.Ground.phase }, { on := 4, ground := Go.Ground.phase }, { on := 5, ground := Go.Ground.phase }, { on := 6, ground := Go.Ground.phase }, { on := 7, ground := Go.Ground.phase }], guard := none }) (v := ?_) rfl (by kernel_rfl) (by kernel_rfl) (by kernel_rfl) (fun _ _ _ h => h) (Or.inl ⟨by rfl, ?_⟩) hHeld ?_
          rotate_left
          · intro w hSw; (try dsimp only at hSw); go_simp <;> with_reducible rfl
          try simp only [Act.put, List.setIfInBounds_toArray, List.set_cons_zero, List.set_cons_succ]
          refine wpAnyH_done (by kernel_rfl) ?_ _
          have HZ : Hid (Ob X.heap.size w5 v5 (L ++ T) ∧ Below X.heap.size X w5 ∧ Kf W w5) := ⟨by rw [HE2.out]; simpa using ob, hB, hkA.trans hKf⟩
          clear ob hB hKf
          go_wp2
          go_ret
          exact ⟨_, rfl, HZ.out⟩
        exact AllReadyH.nil
      refine AllReadyH.cons rfl (fun K hK => ?_) ?_
      · go_simp
        have b1 := b1.alloc (Obj.cells #[.int .u8 93] 5)
        have b2 := Blk.newOf ob #[.int .u8 93] 5
        (try rw [World.size_alloc] at b2)
        have bx := bx.alloc (Obj.cells #[.int .u8 93] 5)
        have hKf := hKf.alloc (Obj.cells #[.int .u8 93] 5)
        have hB := Below.alloc1 hB hB.size (Obj.cells #[.int .u8 93] 5)
        have ob := ob.alloc (Obj.cells #[.int .u8 93] 5)
        refine hK.out _ _ (bx.cell 1) (fun hHeld2 => ?_)
        clear hK K hHeld
        have hHeld := hHeld2
        clear hHeld2
        try simp only [Act.put, List.setIfInBounds_toArray, List.set_cons_zero, List.set_cons_succ]
        refine wpAnyH_ready (rs := [2]) (by kernel_rfl) (by simp) ?_
        refine AllReadyH.cons rfl (fun K hK => ?_) AllReadyH.nil
        refine step_app_b _ rfl (.tmp 12) (.tmp 13) rfl X.heap.size _ L (by with_unfolding_all rfl) ob _ 91 (by with_unfolding_all rfl) (b1.cell 0) hB.size (by omega) hL2 ?_
        intro v3 w3 ob3 hb3 hk3
        have hB := hB.trans hb3
        have hKf := hKf.trans hk3
        have bx := bx.kept hk3 (by intro h; cases h)
        have b2 := b2.kept hk3 (fun _ => by simp)
        have ob := ob3
        clear ob3
        refine hK.out _ _ (bx.cell 1) (fun hHeld2 => ?_)
        clear hK K hHeld
        have hHeld := hHeld2
        clear hHeld2
        try simp only [Act.put, List.setIfInBounds_toArray, List.set_cons_zero, List.set_cons_succ]
        refine wpAnyH_ready (rs := [5]) (by kernel_rfl) (by simp) ?_
        refine AllReadyH.cons rfl (fun K hK => ?_) AllReadyH.nil
        go_simp
        refine (terms_any HST.out hB ob (by simp; omega) HSM.out (by have h9 := HN.out; simp; omega)).mono ?_
        rintro e w4 ⟨v4, rfl, ob4, hb4, hk4⟩
        have hB := hb4
        have hKf := hKf.trans hk4
        have bx := bx.kept hk4 (by intro h; cases h)
        have b2 := b2.kept hk4 (fun _ => by simp)
        have ob := ob4
        clear ob4
        rw [HN.out] at ob
        refine hK.out _ _ (bx.cell 1) (fun hHeld2 => ?_)
        clear hK K hHeld
        have hHeld := hHeld2
        clear hHeld2
        try simp only [Act.put, List.setIfInBounds_toArray, List.set_cons_zero, List.set_cons_succ]
        refine wpAnyH_ready (rs := [7]) (by kernel_rfl) (by simp) ?_
        refine AllReadyH.cons rfl (fun K hK => ?_) AllReadyH.nil
        refine step_app_b _ rfl (.tmp 17) (.tmp 18) rfl X.heap.size _ _ (by with_unfolding_all rfl) ob _ 93 (by with_unfolding_all rfl) (b2.cell 0) hB.size (by simp; omega) (by simp; omega) ?_
        intro v5 w5 ob5 hb5 hk5
        have hB := hB.trans hb5
        have hKf := hKf.trans hk5
        have bx := bx.kept hk5 (by intro h; cases h)
        have ob := ob5
        clear ob5
        refine hK.out _ _ (bx.cell 1) (fun hHeld2 => ?_)
        clear hK K hHeld
        have hHeld := hHeld2
        clear hHeld2
        try simp only [Act.put, List.setIfInBounds_toArray, List.set_cons_zero, List.set_cons_succ]
        refine wpAnyH_take (i := 8) (oi := { dst := some 4, op := Go.Op.assign (Go.Operand.tmp 19), type := 98, pos := "text.go:30", after := #[{ on := 7, ground := Go.Ground.data }, { on := 7, ground := Go.Ground.chain }, { on := 0, ground := Go.Ground.phase }, { on := 1, ground := Go.Ground.phase }, { on := 2, ground := Go.Ground.phase }, { on := 3, ground := Go.Ground.phase }, { on := 4, ground := Go.Ground.phase }, { on := 5, ground := Go.Ground.phase }, { on := 6, ground := Go.Ground.phase }, { on := 7, ground := Go.Ground.phase }], guard := none }) (v := ?_) rfl (by kernel_rfl) (by kernel_rfl) (by kernel_rfl) (fun _ _ _ h => h) (Or.inl ⟨by rfl, ?_⟩) hHeld ?_
        rotate_left
        · intro w hSw; (try dsimp only at hSw); go_simp <;> with_reducible rfl
        try simp only [Act.put, List.setIfInBounds_toArray, List.set_cons_zero, List.set_cons_succ]
        refine wpAnyH_done (by kernel_rfl) ?_ _
        have HZ : Hid (Ob X.heap.size w5 v5 (L ++ T) ∧ Below X.heap.size X w5 ∧ Kf W w5) := ⟨by rw [HE2.out]; simpa using ob, hB, hkA.trans hKf⟩
        clear ob hB hKf
        go_wp2
        go_ret
        exact ⟨_, rfl, HZ.out⟩
      exact AllReadyH.nil
    refine AllReadyH.cons rfl (fun K hK => ?_) ?_
    · go_simp
      have b2 := Blk.newOf ob #[.int .u8 93] 5
      (try rw [World.size_alloc] at b2)
      have bx := bx.alloc (Obj.cells #[.int .u8 93] 5)
      have hKf := hKf.alloc (Obj.cells #[.int .u8 93] 5)
      have hB := Below.alloc1 hB hB.size (Obj.cells #[.int .u8 93] 5)
      have ob := ob.alloc (Obj.cells #[.int .u8 93] 5)
      refine hK.out _ _ (bx.cell 1) (fun hHeld2 => ?_)
      clear hK K hHeld
      have hHeld := hHeld2
      clear hHeld2
      try simp only [Act.put, List.setIfInBounds_toArray, List.set_cons_zero, List.set_cons_succ]
      refine wpAnyH_ready (rs := [1]) (by kernel_rfl) (by simp) ?_
      refine AllReadyH.cons rfl (fun K hK => ?_) AllReadyH.nil
      go_simp
      have b2 := b2.alloc (Obj.cells #[.int .u8 91] 5)
      have b1 := Blk.newOf ob #[.int .u8 91] 5
      (try rw [World.size_alloc] at b1)
      have bx := bx.alloc (Obj.cells #[.int .u8 91] 5)
      have hKf := hKf.alloc (Obj.cells #[.int .u8 91] 5)
      have hB := Below.alloc1 hB hB.size (Obj.cells #[.int .u8 91] 5)
      have ob := ob.alloc (Obj.cells #[.int .u8 91] 5)
      refine hK.out _ _ (bx.cell 1) (fun hHeld2 => ?_)
      clear hK K hHeld
      have hHeld := hHeld2
      clear hHeld2
      try simp only [Act.put, List.setIfInBounds_toArray, List.set_cons_zero, List.set_cons_succ]
      refine wpAnyH_ready (rs := [2]) (by kernel_rfl) (by simp) ?_
      refine AllReadyH.cons rfl (fun K hK => ?_) AllReadyH.nil
      refine step_app_b _ rfl (.tmp 12) (.tmp 13) rfl X.heap.size _ L (by with_unfolding_all rfl) ob _ 91 (by with_unfolding_all rfl) (b1.cell 0) hB.size (by omega) hL2 ?_
      intro v3 w3 ob3 hb3 hk3
      have hB := hB.trans hb3
      have hKf := hKf.trans hk3
      have bx := bx.kept hk3 (by intro h; cases h)
      have b2 := b2.kept hk3 (fun _ => by simp)
      have ob := ob3
      clear ob3
      refine hK.out _ _ (bx.cell 1) (fun hHeld2 => ?_)
      clear hK K hHeld
      have hHeld := hHeld2
      clear hHeld2
      try simp only [Act.put, List.setIfInBounds_toArray, List.set_cons_zero, List.set_cons_succ]
      refine wpAnyH_ready (rs := [5]) (by kernel_rfl) (by simp) ?_
      refine AllReadyH.cons rfl (fun K hK => ?_) AllReadyH.nil
      go_simp
      refine (terms_any HST.out hB ob (by simp; omega) HSM.out (by have h9 := HN.out; simp; omega)).mono ?_
      rintro e w4 ⟨v4, rfl, ob4, hb4, hk4⟩
      have hB := hb4
      have hKf := hKf.trans hk4
      have bx := bx.kept hk4 (by intro h; cases h)
      have b2 := b2.kept hk4 (fun _ => by simp)
      have ob := ob4
      clear ob4
      rw [HN.out] at ob
      refine hK.out _ _ (bx.cell 1) (fun hHeld2 => ?_)
      clear hK K hHeld
      have hHeld := hHeld2
      clear hHeld2
      try simp only [Act.put, List.setIfInBounds_toArray, List.set_cons_zero, List.set_cons_succ]
      refine wpAnyH_ready (rs := [7]) (by kernel_rfl) (by simp) ?_
      refine AllReadyH.cons rfl (fun K hK => ?_) AllReadyH.nil
      refine step_app_b _ rfl (.tmp 17) (.tmp 18) rfl X.heap.size _ _ (by with_unfolding_all rfl) ob _ 93 (by with_unfolding_all rfl) (b2.cell 0) hB.size (by simp; omega) (by simp; omega) ?_
      intro v5 w5 ob5 hb5 hk5
      have hB := hB.trans hb5
      have hKf := hKf.trans hk5
      have bx := bx.kept hk5 (by intro h; cases h)
      have ob := ob5
      clear ob5
      refine hK.out _ _ (bx.cell 1) (fun hHeld2 => ?_)
      clear hK K hHeld
      have hHeld := hHeld2
      clear hHeld2
      try simp only [Act.put, List.setIfInBounds_toArray, List.set_cons_zero, List.set_cons_succ]
      refine wpAnyH_take (i := 8) (oi := { dst := some 4, op := Go.Op.assign (Go.Operand.tmp 19), type := 98, pos := "text.go:30", after := #[{ on := 7, ground := Go.Ground.data }, { on := 7, ground := Go.Ground.chain }, { on := 0, ground := Go.Ground.phase }, { on := 1, ground := Go.Ground.phase }, { on := 2, ground := Go.Ground.phase }, { on := 3, ground := Go.Ground.phase }, { on := 4, ground := Go.Ground.phase }, { on := 5, ground := Go.Ground.phase }, { on := 6, ground := Go.Ground.phase }, { on := 7, ground := Go.Ground.phase }], guard := none }) (v := ?_) rfl (by kernel_rfl) (by kernel_rfl) (by kernel_rfl) (fun _ _ _ h => h) (Or.inl ⟨by rfl, ?_⟩) hHeld ?_
      rotate_left
      · intro w hSw; (try dsimp only at hSw); go_simp <;> with_reducible rfl
      try simp only [Act.put, List.setIfInBounds_toArray, List.set_cons_zero, List.set_cons_succ]
      refine wpAnyH_done (by kernel_rfl) ?_ _
      have HZ : Hid (Ob X.heap.size w5 v5 (L ++ T) ∧ Below X.heap.size X w5 ∧ Kf W w5) := ⟨by rw [HE2.out]; simpa using ob, hB, hkA.trans hKf⟩
      clear ob hB hKf
      go_wp2
      go_ret
      exact ⟨_, rfl, HZ.out⟩
    exact AllReadyH.nil
end Go.Proofs.YtpgecdhieakilaaGreatDoor
