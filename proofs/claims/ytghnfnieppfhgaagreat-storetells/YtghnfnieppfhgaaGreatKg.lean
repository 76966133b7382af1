/-
  What is proved here: one element more at a row of own memory; mark, Push.
-/
import Derived.Test.YtghnfnieppfhgaaGreatKej
import Derived.OwnWalk
namespace Go.Proofs.YtghnfnieppfhgaaGreat
open Go.RowKit Go.Shelf
set_option linter.unusedVariables false
set_option linter.unusedSimpArgs false

theorem growB {w w' : World} {row : Option Nat} {B : Nat} (hg : w.grownBy w' row) (hr : ∀ b, row = some b → B ≤ b) (hB : B ≤ w.heap.size) : Below B w w' := ⟨hg.os, hg.tape, hg.output, hg.size, fun k hk => hg.block k (by omega) (fun e => by have := hr k e.symm; omega)⟩
theorem Rw.app {w : World} {e : TypeId} {s : Value} {k : Nat} {vs : List (List Value)} (h : Rw w e s k vs) (t ty : TypeId) {z : Value} {bytes : Nat} (ht : Tryz.prog.underlying t = some (.slice e)) (hinfo : (Tryz.prog.info? e).map (fun i => (i.zero, i.size, i.bytes)) = some (some z, k, bytes)) (hzs : z.cells.size = k) (hk0 : 0 < k)
    (ad : Addr) (cp : Nat) (c : List Value) (hc : c.length = k) (hcells : ∀ j u, c[j]? = some u → w.cell? (ad.add j) = some u) (h1 : ∀ u ∈ c, u.oneCell' = true) (hlen : vs.length ≤ 100000000) (hby : bytes ≤ 1000) :
    ∃ v' w', (Builtin.append_ #[t, t] ty #[s, .slice (some ad) 1 cp]).run Tryz.prog w = .ok v' w' ∧ Rw w' e v' k (vs ++ [c]) ∧ w.grownBy w' s.ownBlock ∧ (∀ b, v'.ownBlock = some b → s.ownBlock = some b ∨ w.heap.size ≤ b) := by
  obtain ⟨i0, hi0, hz0, hz1, hz2⟩ := info_parts hinfo
  have hb1 : (vs.length + 1) * bytes ≤ 100000001 * 1000 := Nat.mul_le_mul (by omega) hby
  obtain ⟨v', w', hr, ho, hg, _⟩ := run_append_own (P := Tryz.prog) w 0 t ty e i0 z k bytes ht hi0 hz0 hz1 hz2 hzs hk0 s vs.length vs.flatten h.2 ad 1 cp c (by omega) hcells h1 (by unfold maxLen; omega) (by omega) (Nat.zero_le _)
  refine ⟨v', w', hr, ⟨?_, ?_⟩, hg, ?_⟩
  · intro x hx
    rcases List.mem_append.1 hx with hx | hx
    · exact h.1 x hx
    · simp at hx; subst hx; exact hc
  · have : (vs ++ [c]).flatten = vs.flatten ++ c := by simp
    rw [this, List.length_append]
    exact ho
  · intro b hb
    rcases h.2.2 with ⟨rfl, hn⟩ | ⟨g, cap, cur, rfl, hbg, hgg, hnc, hcm, hcs, htake⟩
    · have hr2 := run_append_nil (P := Tryz.prog) w t ty e i0 z ht hi0 hz0 ad 1 cp c (by rw [hz1]; omega) hcells (by omega) (by omega) (by rw [hz2]; omega)
      rw [hr] at hr2
      injection hr2 with e1 e2
      subst e1
      injection hb with hb
      subst hb
      exact .inr (Nat.le_refl _)
    · by_cases hroom : vs.length + 1 ≤ cap
      · have hfit : vs.length * i0.size + c.length ≤ cur.size := by
          rw [hz1, hc, hcs]
          have : (vs.length + 1) * k ≤ cap * k := Nat.mul_le_mul_right _ hroom
          rw [Nat.succ_mul] at this
          exact this
        have hr2 := run_append_room (P := Tryz.prog) w t ty e i0 ht hi0 g vs.length cap cur hgg ad 1 cp c (by rw [hz1]; omega) hcells h1 hroom hfit
        rw [hr] at hr2
        injection hr2 with e1 e2
        subst e1
        exact .inl hb
      · have hr2 := run_append_grow (P := Tryz.prog) w t ty e i0 z ht hi0 hz0 ⟨g, 0, none⟩ vs.length cap vs.flatten (by rw [hz1]; exact h.2.1) (h.2.cells (g := g) rfl) ad 1 cp c (by rw [hz1]; omega) hcells (by omega) (by omega) (growslice_fits (by omega) (by rw [hz2]; omega))
        rw [hr] at hr2
        injection hr2 with e1 e2
        subst e1
        injection hb with hb
        subst hb
        exact .inr (Nat.le_refl _)
theorem ivs_snoc (l : List Int) (x : Int) : ivs (l ++ [x]) = ivs l ++ [[.int .i64 x]] := by simp [ivs]
/-- The same as one step of a region that draws its order. -/
theorem step_app {w : World} {e : TypeId} {s : Value} {k : Nat} {vs : List (List Value)} (h : Rw w e s k vs) (t : TypeId) {z : Value} {bytes : Nat} (ht : Tryz.prog.underlying t = some (.slice e)) (hinfo : (Tryz.prog.info? e).map (fun i => (i.zero, i.size, i.bytes)) = some (some z, k, bytes)) (hzs : z.cells.size = k) (hk0 : 0 < k)
    {ops : Array Oper} {o : Oper} {a : Act} {K : Act → World → Prop} {Q : Exit → Act → World → Prop} {E : Prop} (hgd : o.guard = none) (so xo : Operand) (ho : o.op = .call { callee := .builtin .append, args := #[so, xo], argTypes := #[t, t] })
    (hs : a.eval so = s) (ad : Addr) (cp : Nat) (hx : a.eval xo = .slice (some ad) 1 cp) (c : List Value) (hc : c.length = k) (hcells : ∀ j u, c[j]? = some u → w.cell? (ad.add j) = some u) (h1 : ∀ u ∈ c, u.oneCell' = true) (hlen : vs.length ≤ 100000000) (hby : bytes ≤ 1000)
    (hK : ∀ v' w', Rw w' e v' k (vs ++ [c]) → w.grownBy w' s.ownBlock → (∀ b, v'.ownBlock = some b → s.ownBlock = some b ∨ w.heap.size ≤ b) → K (a.put o.dst v') w') : if Region.wanted o (yielded ops a.tmps) = true then Oper.wp Tryz.prog o a w K Q else E := by
  have hw : Region.wanted o (yielded ops a.tmps) = true := by simp [Region.wanted, hgd]
  rw [if_pos hw]
  obtain ⟨v', w', hr, h2, h3, h4⟩ := h.app t o.type ht hinfo hzs hk0 ad cp c hc hcells h1 hlen hby
  unfold Oper.wp execOp
  simp only [ho, resolve, invoke, builtin, Sem.run_bind, Sem.run_pure, Result.andThen_ok, List.map_toArray, List.map_cons, List.map_nil, hs, hx, hr]
  exact hK v' w' h2 h3 h4
theorem list_app {w : World} {e : TypeId} {s : Value} {k : Nat} {vs : List (List Value)} (h : Rw w e s k vs) (t : TypeId) {z : Value} {bytes : Nat} (ht : Tryz.prog.underlying t = some (.slice e)) (hinfo : (Tryz.prog.info? e).map (fun i => (i.zero, i.size, i.bytes)) = some (some z, k, bytes)) (hzs : z.cells.size = k) (hk0 : 0 < k)
    {ops : Array Oper} {rest : List Oper} {o : Oper} {a : Act} {Q : Exit → Act → World → Prop} (hgd : o.guard = none) (so xo : Operand) (ho : o.op = .call { callee := .builtin .append, args := #[so, xo], argTypes := #[t, t] })
    (hs : a.eval so = s) (ad : Addr) (cp : Nat) (hx : a.eval xo = .slice (some ad) 1 cp) (c : List Value) (hc : c.length = k) (hcells : ∀ j u, c[j]? = some u → w.cell? (ad.add j) = some u) (h1 : ∀ u ∈ c, u.oneCell' = true) (hlen : vs.length ≤ 100000000) (hby : bytes ≤ 1000)
    (hK : ∀ v' w', Rw w' e v' k (vs ++ [c]) → w.grownBy w' s.ownBlock → (∀ b, v'.ownBlock = some b → s.ownBlock = some b ∨ w.heap.size ≤ b) → wpList Tryz.prog ops Q rest (a.put o.dst v') w') : wpList Tryz.prog ops Q (o :: rest) a w :=
  wpList_plain hgd fun _ hK' => by
    obtain ⟨v', w', hr, h2, h3, h4⟩ := h.app t o.type ht hinfo hzs hk0 ad cp c hc hcells h1 hlen hby
    unfold Oper.wp execOp
    simp only [ho, resolve, invoke, builtin, Sem.run_bind, Sem.run_pure, Result.andThen_ok, List.map_toArray, List.map_cons, List.map_nil, hs, hx, hr]
    exact hK' _ _ (hK v' w' h2 h3 h4)
theorem Tryz.infoInt : (Tryz.prog.info? 3).map (fun i => (i.zero, i.size, i.bytes)) = some (some (.int .i64 0), 1, 8) := by kernel_rfl
theorem Tryz.infoDom : (Tryz.prog.info? 37).map (fun i => (i.zero, i.size, i.bytes)) = some (some (.agg #[.bool false, .slice none 0 0, .slice none 0 0, .slice none 0 0, .int .i64 0, .int .i64 0]), 6, 96) := by kernel_rfl
theorem Tryz.infoKept : (Tryz.prog.info? 105).map (fun i => (i.zero, i.size, i.bytes)) = some (some (.agg #[.int .i64 0, .bool false, .slice none 0 0, .slice none 0 0, .slice none 0 0, .int .i64 0, .int .i64 0, .int .i64 0]), 8, 112) := by kernel_rfl
theorem Tryz.infoEvent : (Tryz.prog.info? 61).map (fun i => (i.zero, i.size, i.bytes)) = some (some (.agg #[.int .i64 0, .int .i64 0]), 2, 16) := by kernel_rfl
set_option maxRecDepth 100000 in
set_option maxHeartbeats 4000000 in
theorem mark_any {W : World} {p : Nat} {st : StM} {sl : Sl} (h : Sto W p st sl) (hz : Sz st) : Calls Tryz.prog 57 #[ptr p] W fun e w' => e = .returned (.tuple #[]) ∧ ∃ sl', Sto w' p { st with marks := st.marks ++ [(st.saved.length : Int)] } sl' ∧ Up (XS p sl) (XS p sl') W ∧ Kept (XS p sl) W w' := by
  have HML : Hid ((ivs st.marks).length ≤ 100000000) := by rw [Hid, ivs_len]; have := hz.2.1; omega
  obtain ⟨nd, n, m, sa, sc, ma, mc, ia, ic, da, dc, wa, wc, rfl, HL⟩ := h.look
  rw [HL.out.2.1]
  have hnb : n ≤ 100000000 := by rw [← HL.out.2.1]; exact hz.2.2
  have HD : Hid (Sto W.drew p st ⟨.slice sa n sc, .slice ma m mc, .slice ia nd ic, .slice da nd dc, .slice wa nd wc⟩) := h.below (Below.refl _ _).drew
  have hbA : Below W.drew.heap.size W.drew (W.drew.alloc (.cells #[.int .i64 n] 3)) := (Below.refl _ _).alloc (Nat.le_refl _) _
  have HA : Hid (Sto (W.drew.alloc (.cells #[.int .i64 n] 3)) p st ⟨.slice sa n sc, .slice ma m mc, .slice ia nd ic, .slice da nd dc, .slice wa nd wc⟩) := HD.out.below hbA
  have HR : Hid (Rw (W.drew.alloc (.cells #[.int .i64 n] 3)) 3 (.slice ma m mc) 1 (ivs st.marks)) := HA.out.marks
  have HCE : Hid (∀ j u, [Value.int .i64 n][j]? = some u → (W.drew.alloc (.cells #[.int .i64 n] 3)).cell? ((⟨W.heap.size, 0, none⟩ : Addr).add j) = some u) := by
    intro j u hu
    have := (Bx.new W.drew #[.int .i64 n] 3).cell j
    rw [Addr.add_mid, Nat.zero_add]
    simpa using this.trans (by simpa using hu)
  have MID : ∀ w1, (W.drew.alloc (.cells #[.int .i64 n] 3)).grownBy w1 (Value.slice ma m mc).ownBlock → w1.cell? ⟨p, 0, none⟩ = some (.slice sa n sc) ∧ w1.cell? ⟨p, 1, none⟩ = some (.slice ma m mc) ∧ w1.frozen? ⟨p, 1, none⟩ = false := by
    intro w1 hg
    have hp := (hg.block p HA.out.p_lt (fun e => HR.out.nep HA.out.blk (by decide) e.symm)).trans HA.out.blk
    exact ⟨cell_of_row w1 p 0 _ _ _ hp, cell_of_row w1 p 1 _ _ _ hp, by simp [World.frozen?, hp]⟩
  have HH : Hid _ := h
  have hS0 : W.cell? ⟨p, 0, none⟩ = some (.slice sa n sc) := h.cells.1
  clear hz hbA h
  go_enter Tryz.func57, Tryz.ntmps57
  go_upto_region 0 with (fail)
  refine wp_region_held_drew (S := fun X : World => X.cell? ⟨p, 0, none⟩ = some (.slice sa n sc)) (by kernel_rfl) (hS0) (fun hHeld => ?_)
  refine wpAnyH_take (i := 0) (oi := { dst := some 2, op := Go.Op.move (Go.Operand.tmp 0), type := 103, pos := "trail.go:29", after := #[], guard := none }) (v := ?_) rfl (by kernel_rfl) (by kernel_rfl) (by kernel_rfl) (fun _ _ _ h => h) (Or.inl ⟨by rfl, ?_⟩) hHeld ?_
  rotate_left
  · intro w hSw; (try dsimp only at hSw); go_simp <;> with_reducible rfl
  try simp only [Act.put, List.setIfInBounds_toArray, List.set_cons_zero, List.set_cons_succ]
  refine wpAnyH_take (i := 1) (oi := { dst := some 3, op := Go.Op.move (Go.Operand.tmp 0), type := 103, pos := "trail.go:29", after := #[], guard := none }) (v := ?_) rfl (by kernel_rfl) (by kernel_rfl) (by kernel_rfl) (fun _ _ _ h => h) (Or.inl ⟨by rfl, ?_⟩) hHeld ?_
  rotate_left
  · intro w hSw; (try dsimp only at hSw); go_simp <;> with_reducible rfl
  try simp only [Act.put, List.setIfInBounds_toArray, List.set_cons_zero, List.set_cons_succ]
  refine wpAnyH_take (i := 2) (oi := { dst := some 4, op := Go.Op.nilCheck (Go.Operand.tmp 3), type := 0, pos := "trail.go:29", after := #[{ on := 1, ground := Go.Ground.data }], guard := none }) (v := ?_) rfl (by kernel_rfl) (by kernel_rfl) (by kernel_rfl) (fun _ _ _ h => h) (Or.inl ⟨by rfl, ?_⟩) hHeld ?_
  rotate_left
  · intro w hSw; (try dsimp only at hSw); go_simp <;> with_reducible rfl
  try simp only [Act.put, List.setIfInBounds_toArray, List.set_cons_zero, List.set_cons_succ]
  refine wpAnyH_take (i := 3) (oi := { dst := some 5, op := Go.Op.fieldAddr 65 (Go.Operand.tmp 4) 1, type := 0, pos := "trail.go:29", after := #[{ on := 2, ground := Go.Ground.data }], guard := none }) (v := ?_) rfl (by kernel_rfl) (by kernel_rfl) (by kernel_rfl) (fun _ _ _ h => h) (Or.inl ⟨by rfl, ?_⟩) hHeld ?_
  rotate_left
  · intro w hSw; (try dsimp only at hSw); go_simp <;> with_reducible rfl
  try simp only [Act.put, List.setIfInBounds_toArray, List.set_cons_zero, List.set_cons_succ]
  refine wpAnyH_take (i := 5) (oi := { dst := some 7, op := Go.Op.move (Go.Operand.tmp 0), type := 103, pos := "trail.go:29", after := #[], guard := none }) (v := ?_) rfl (by kernel_rfl) (by kernel_rfl) (by kernel_rfl) (fun _ _ _ h => h) (Or.inl ⟨by rfl, ?_⟩) hHeld ?_
  rotate_left
  · intro w hSw; (try dsimp only at hSw); go_simp <;> with_reducible rfl
  try simp only [Act.put, List.setIfInBounds_toArray, List.set_cons_zero, List.set_cons_succ]
  refine wpAnyH_take (i := 6) (oi := { dst := some 8, op := Go.Op.nilCheck (Go.Operand.tmp 7), type := 0, pos := "trail.go:29", after := #[{ on := 5, ground := Go.Ground.data }], guard := none }) (v := ?_) rfl (by kernel_rfl) (by kernel_rfl) (by kernel_rfl) (fun _ _ _ h => h) (Or.inl ⟨by rfl, ?_⟩) hHeld ?_
  rotate_left
  · intro w hSw; (try dsimp only at hSw); go_simp <;> with_reducible rfl
  try simp only [Act.put, List.setIfInBounds_toArray, List.set_cons_zero, List.set_cons_succ]
  refine wpAnyH_take (i := 7) (oi := { dst := some 9, op := Go.Op.fieldAddr 65 (Go.Operand.tmp 8) 0, type := 0, pos := "trail.go:29", after := #[{ on := 6, ground := Go.Ground.data }], guard := none }) (v := ?_) rfl (by kernel_rfl) (by kernel_rfl) (by kernel_rfl) (fun _ _ _ h => h) (Or.inl ⟨by rfl, ?_⟩) hHeld ?_
  rotate_left
  · intro w hSw; (try dsimp only at hSw); go_simp <;> with_reducible rfl
  try simp only [Act.put, List.setIfInBounds_toArray, List.set_cons_zero, List.set_cons_succ]
  refine wpAnyH_take (i := 8) (oi := { dst := some 10, op := Go.Op.load 62 (Go.Operand.tmp 9), type := 62, pos := "trail.go:29", after := #[{ on := 7, ground := Go.Ground.data }], guard := none }) (v := ?_) rfl (by kernel_rfl) (by kernel_rfl) (by kernel_rfl) (fun _ _ _ h => h) (Or.inl ⟨by rfl, ?_⟩) hHeld ?_
  rotate_left
  · intro w hSw; (try dsimp only at hSw); go_simp <;> with_reducible rfl
  try simp only [Act.put, List.setIfInBounds_toArray, List.set_cons_zero, List.set_cons_succ]
  refine wpAnyH_take (i := 9) (oi := { dst := some 11, op := Go.Op.call { callee := Go.Callee.builtin Go.Builtin.len, args := #[Go.Operand.tmp 10], argTypes := #[62] }, type := 3, pos := "trail.go:29", after := #[{ on := 8, ground := Go.Ground.data }], guard := none }) (v := ?_) rfl (by kernel_rfl) (by kernel_rfl) (by kernel_rfl) (fun _ _ _ h => h) (Or.inl ⟨by rfl, ?_⟩) hHeld ?_
  rotate_left
  · intro w hSw; (try dsimp only at hSw); go_simp <;> with_reducible rfl
  try simp only [Act.put, List.setIfInBounds_toArray, List.set_cons_zero, List.set_cons_succ]
  refine wpAnyH_ready (rs := [4, 10]) (by kernel_rfl) (by simp) ?_
  refine AllReadyH.cons rfl (fun K hK => ?_) ?_
  · have z1 : W.cell? ⟨p, 1, none⟩ = some (.slice ma m mc) := (HD.out.cells).2.1
    go_simp
    clear z1
    refine hK.out _ _ (HD.out.cells.1) (fun hHeld2 => ?_)
    clear hK K hHeld
    have hHeld := hHeld2
    clear hHeld2
    try simp only [Act.put, List.setIfInBounds_toArray, List.set_cons_zero, List.set_cons_succ]
    refine wpAnyH_ready (rs := [10]) (by kernel_rfl) (by simp) ?_
    refine AllReadyH.cons rfl (fun K hK => ?_) AllReadyH.nil
    go_simp
    refine hK.out _ _ (HA.out.cells.1) (fun hHeld2 => ?_)
    clear hK K hHeld
    have hHeld := hHeld2
    clear hHeld2
    try simp only [Act.put, List.setIfInBounds_toArray, List.set_cons_zero, List.set_cons_succ]
    refine wpAnyH_ready (rs := [11]) (by kernel_rfl) (by simp) ?_
    refine AllReadyH.cons rfl (fun K hK => ?_) AllReadyH.nil
    refine step_app HR.out 63 Tryz.underlying63 Tryz.infoInt rfl (by decide) rfl _ _ rfl rfl ⟨W.heap.size, 0, none⟩ 1 (by with_unfolding_all rfl) [.int .i64 n] rfl HCE.out (by intro u hu; simp at hu; subst hu; rfl) HML.out (by decide) ?_
    intro v1 w1 hr1 hg1 hn1
    obtain ⟨p1, q1, c1, rfl, HQ1, _⟩ := hr1.look
    have HR1 : Hid _ := hr1
    have HG1 : Hid _ := hg1
    have HN1 : Hid _ := hn1
    clear hr1 hg1 hn1
    have z0 := MID w1 HG1.out
    refine hK.out _ _ (z0.1) (fun hHeld2 => ?_)
    clear hK K hHeld
    have hHeld := hHeld2
    clear hHeld2
    try simp only [Act.put, List.setIfInBounds_toArray, List.set_cons_zero, List.set_cons_succ]
    refine wpAnyH_take (i := 12) (oi := { dst := some 14, op := Go.Op.nilCheck (Go.Operand.tmp 2), type := 0, pos := "trail.go:29", after := #[{ on := 0, ground := Go.Ground.data }, { on := 0, ground := Go.Ground.phase }, { on := 1, ground := Go.Ground.phase }, { on := 2, ground := Go.Ground.phase }, { on := 3, ground := Go.Ground.phase }, { on := 4, ground := Go.Ground.phase }, { on := 5, ground := Go.Ground.phase }, { on := 6, ground := Go.Ground.phase }, { on := 7, ground := Go.Ground.phase }, { on := 8, ground := Go.Ground.phase }, { on := 9, ground := Go.Ground.phase }, { on := 10, ground := Go.Ground.phase }, { on := 11, ground := Go.Ground.phase }], guard := none }) (v := ?_) rfl (by kernel_rfl) (by kernel_rfl) (by kernel_rfl) (fun _ _ _ h => h) (Or.inl ⟨by rfl, ?_⟩) hHeld ?_
    rotate_left
    · intro w hSw; (try dsimp only at hSw); go_simp <;> with_reducible rfl
    try simp only [Act.put, List.setIfInBounds_toArray, List.set_cons_zero, List.set_cons_succ]
    refine wpAnyH_take (i := 13) (oi := { dst := some 15, op := Go.Op.fieldAddr 65 (Go.Operand.tmp 14) 1, type := 0, pos := "trail.go:29", after := #[{ on := 12, ground := Go.Ground.data }, { on := 0, ground := Go.Ground.phase }, { on := 1, ground := Go.Ground.phase }, { on := 2, ground := Go.Ground.phase }, { on := 3, ground := Go.Ground.phase }, { on := 4, ground := Go.Ground.phase }, { on := 5, ground := Go.Ground.phase }, { on := 6, ground := Go.Ground.phase }, { on := 7, ground := Go.Ground.phase }, { on := 8, ground := Go.Ground.phase }, { on := 9, ground := Go.Ground.phase }, { on := 10, ground := Go.Ground.phase }, { on := 11, ground := Go.Ground.phase }], guard := none }) (v := ?_) rfl (by kernel_rfl) (by kernel_rfl) (by kernel_rfl) (fun _ _ _ h => h) (Or.inl ⟨by rfl, ?_⟩) hHeld ?_
    rotate_left
    · intro w hSw; (try dsimp only at hSw); go_simp <;> with_reducible rfl
    try simp only [Act.put, List.setIfInBounds_toArray, List.set_cons_zero, List.set_cons_succ]
    refine wpAnyH_ready (rs := [14]) (by kernel_rfl) (by simp) ?_
    refine AllReadyH.cons rfl (fun K hK => ?_) AllReadyH.nil
    have z1 := z0.2.1
    have z2 := z0.2.2
    go_simp
    clear z1 z2
    refine hK.out _ _ (by rw [World.cell?_setCell_other _ _ _ _ (by simp)]; exact z0.1) (fun hHeld2 => ?_)
    clear hK K hHeld
    have hHeld := hHeld2
    clear hHeld2
    try simp only [Act.put, List.setIfInBounds_toArray, List.set_cons_zero, List.set_cons_succ]
    refine wpAnyH_done (by kernel_rfl) ?_ _
    obtain ⟨f1, f2, f3⟩ := HA.out.set_marks HG1.out (M' := st.marks ++ [(n : Int)]) (by rw [ivs_snoc]; exact HR1.out) HN1.out
    refine ⟨rfl, _, results_none rfl _ _ _, rfl, _, f1, fun b hb => ?_, (Kept.of_below ((Below.refl _ W).drew.alloc (Nat.le_refl _) _)).trans f3 (Up.refl _ _)⟩
    rcases f2 b hb with q | q
    · exact .inl q
    · exact .inr (by simp at q; omega)
  refine AllReadyH.cons rfl (fun K hK => ?_) ?_
  · go_simp
    refine hK.out _ _ (HA.out.cells.1) (fun hHeld2 => ?_)
    clear hK K hHeld
    have hHeld := hHeld2
    clear hHeld2
    try simp only [Act.put, List.setIfInBounds_toArray, List.set_cons_zero, List.set_cons_succ]
    refine wpAnyH_ready (rs := [4]) (by kernel_rfl) (by simp) ?_
    refine AllReadyH.cons rfl (fun K hK => ?_) AllReadyH.nil
    have z1 : (W.alloc (Obj.cells #[.int .i64 n] 3)).cell? ⟨p, 1, none⟩ = some (.slice ma m mc) := (HA.out.cells).2.1
    go_simp
    clear z1
    refine hK.out _ _ (HA.out.cells.1) (fun hHeld2 => ?_)
    clear hK K hHeld
    have hHeld := hHeld2
    clear hHeld2
    try simp only [Act.put, List.setIfInBounds_toArray, List.set_cons_zero, List.set_cons_succ]
    refine wpAnyH_ready (rs := [11]) (by kernel_rfl) (by simp) ?_
    refine AllReadyH.cons rfl (fun K hK => ?_) AllReadyH.nil
    refine step_app HR.out 63 Tryz.underlying63 Tryz.infoInt rfl (by decide) rfl _ _ rfl rfl ⟨W.heap.size, 0, none⟩ 1 (by with_unfolding_all rfl) [.int .i64 n] rfl HCE.out (by intro u hu; simp at hu; subst hu; rfl) HML.out (by decide) ?_
    intro v1 w1 hr1 hg1 hn1
    obtain ⟨p1, q1, c1, rfl, HQ1, _⟩ := hr1.look
    have HR1 : Hid _ := hr1
    have HG1 : Hid _ := hg1
    have HN1 : Hid _ := hn1
    clear hr1 hg1 hn1
    have z0 := MID w1 HG1.out
    refine hK.out _ _ (z0.1) (fun hHeld2 => ?_)
    clear hK K hHeld
    have hHeld := hHeld2
    clear hHeld2
    try simp only [Act.put, List.setIfInBounds_toArray, List.set_cons_zero, List.set_cons_succ]
    refine wpAnyH_take (i := 12) (oi := { dst := some 14, op := Go.Op.nilCheck (Go.Operand.tmp 2), type := 0, pos := "trail.go:29", after := #[{ on := 0, ground := Go.Ground.data }, { on := 0, ground := Go.Ground.phase }, { on := 1, ground := Go.Ground.phase }, { on := 2, ground := Go.Ground.phase }, { on := 3, ground := Go.Ground.phase }, { on := 4, ground := Go.Ground.phase }, { on := 5, ground := Go.Ground.phase }, { on := 6, ground := Go.Ground.phase }, { on := 7, ground := Go.Ground.phase }, { on := 8, ground := Go.Ground.phase }, { on := 9, ground := Go.Ground.phase }, { on := 10, ground := Go.Ground.phase }, { on := 11, ground := Go.Ground.phase }], guard := none }) (v := ?_) rfl (by kernel_rfl) (by kernel_rfl) (by kernel_rfl) (fun _ _ _ h => h) (Or.inl ⟨by rfl, ?_⟩) hHeld ?_
    rotate_left
    · intro w hSw; (try dsimp only at hSw); go_simp <;> with_reducible rfl
    try simp only [Act.put, List.setIfInBounds_toArray, List.set_cons_zero, List.set_cons_succ]
    refine wpAnyH_take (i := 13) (oi := { dst := some 15, op := Go.Op.fieldAddr 65 (Go.Operand.tmp 14) 1, type := 0, pos := "trail.go:29", after := #[{ on := 12, ground := Go.Ground.data }, { on := 0, ground := Go.Ground.phase }, { on := 1, ground := Go.Ground.phase }, { on := 2, ground := Go.Ground.phase }, { on := 3, ground := Go.Ground.phase }, { on := 4, ground := Go.Ground.phase }, { on := 5, ground := Go.Ground.phase }, { on := 6, ground := Go.Ground.phase }, { on := 7, ground := Go.Ground.phase }, { on := 8, ground := Go.Ground.phase }, { on := 9, ground := Go.Ground.phase }, { on := 10, ground := Go.Ground.phase }, { on := 11, ground := Go.Ground.phase }], guard := none }) (v := ?_) rfl (by kernel_rfl) (by kernel_rfl) (by kernel_rfl) (fun _ _ _ h => h) (Or.inl ⟨by rfl, ?_⟩) hHeld ?_
    rotate_left
    · intro w hSw; (try dsimp only at hSw); go_simp <;> with_reducible rfl
    try simp only [Act.put, List.setIfInBounds_toArray, List.set_cons_zero, List.set_cons_succ]
    refine wpAnyH_ready (rs := [14]) (by kernel_rfl) (by simp) ?_
    refine AllReadyH.cons rfl (fun K hK => ?_) AllReadyH.nil
    have z1 := z0.2.1
    have z2 := z0.2.2
    go_simp
    clear z1 z2
    refine hK.out _ _ (by rw [World.cell?_setCell_other _ _ _ _ (by simp)]; exact z0.1) (fun hHeld2 => ?_)
    clear hK K hHeld
    have hHeld := hHeld2
    clear hHeld2
    try simp only [Act.put, List.setIfInBounds_toArray, List.set_cons_zero, List.set_cons_succ]
    refine wpAnyH_done (by kernel_rfl) ?_ _
    obtain ⟨f1, f2, f3⟩ := HA.out.set_marks HG1.out (M' := st.marks ++ [(n : Int)]) (by rw [ivs_snoc]; exact HR1.out) HN1.out
    refine ⟨rfl, _, results_none rfl _ _ _, rfl, _, f1, fun b hb => ?_, (Kept.of_below ((Below.refl _ W).drew.alloc (Nat.le_refl _) _)).trans f3 (Up.refl _ _)⟩
    rcases f2 b hb with q | q
    · exact .inl q
    · exact .inr (by simp at q; omega)
  exact AllReadyH.nil

set_option maxRecDepth 100000 in
set_option maxHeartbeats 4000000 in
theorem push_any {W : World} {p : Nat} {st : StM} {sl : Sl} (h : Sto W p st sl) (hz : Sz st) (hm : st.marks.length < 1000000) : Calls Tryz.prog 17 #[ptr p] W fun e w' => e = .returned (.int .i64 0) ∧ ∃ sl', Sto w' p { st with marks := st.marks ++ [(st.saved.length : Int)] } sl' ∧ Up (XS p sl) (XS p sl') W ∧ Kept (XS p sl) W w' := by
  have kd := depth_any h hz
  have km := mark_any h hz
  clear h hz
  generalize st.marks.length = m at kd hm
  have hne : ((m : Int) == 1000000) = false := by simp; omega
  go_enter Tryz.func17, Tryz.ntmps17
  go_wp2_with (first | (go_at_call 56; refine kd.mono ?_; rintro e w1 ⟨rfl, rfl⟩) | (go_at_call 57; refine km.mono ?_; rintro e w1 ⟨rfl, hh⟩))
  go_ret
  exact ⟨rfl, hh⟩
end Go.Proofs.YtghnfnieppfhgaaGreat
