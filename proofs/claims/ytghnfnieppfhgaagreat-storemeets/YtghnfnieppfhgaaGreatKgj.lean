/-
  What is proved here: one element more at a row of own memory; mark, Push.
  What is proved here: put: a variable has another domain.
  What is proved here: tight; change of a domain that has one value now.
  What is proved here: Copy and Get of a domain of whole numbers that is not empty.
-/
import Derived.Test.YtghnfnieppfhgaaGreatAa
import Derived.Test.YtghnfnieppfhgaaGreatKaj
import Derived.OwnWalk
namespace Go.Proofs.YtghnfnieppfhgaaGreat
open Go.RowKit Go.Shelf
set_option linter.unusedVariables false
set_option linter.unusedSimpArgs false

abbrev oKg0 : Oper := ⟨some 14, .nilCheck (.tmp 2), 0, "trail.go:29", #[⟨0, .data⟩, ⟨0, .phase⟩, ⟨1, .phase⟩, ⟨2, .phase⟩, ⟨3, .phase⟩, ⟨4, .phase⟩, ⟨5, .phase⟩, ⟨6, .phase⟩, ⟨7, .phase⟩, ⟨8, .phase⟩, ⟨9, .phase⟩, ⟨10, .phase⟩, ⟨11, .phase⟩], none⟩
abbrev oKg1 : Oper := ⟨some 15, .fieldAddr 65 (.tmp 14) 1, 0, "trail.go:29", #[⟨12, .data⟩, ⟨0, .phase⟩, ⟨1, .phase⟩, ⟨2, .phase⟩, ⟨3, .phase⟩, ⟨4, .phase⟩, ⟨5, .phase⟩, ⟨6, .phase⟩, ⟨7, .phase⟩, ⟨8, .phase⟩, ⟨9, .phase⟩, ⟨10, .phase⟩, ⟨11, .phase⟩], none⟩
theorem growB {w w' : World} {row : Option Nat} {B : Nat} (hg : w.grownBy w' row) (hr : ∀ b, row = some b → B ≤ b) (hB : B ≤ w.heap.size) : Below B w w' := ⟨hg.os, hg.tape, hg.output, hg.size, fun k hk => hg.block k (by omega) (fun e => by have := hr k e.symm; omega)⟩
theorem Rw.app {w : World} {e : TypeId} {s : Value} {k : Nat} {vs : List (List Value)} (h : Rw w e s k vs) (t ty : TypeId) {z : Value} {bytes : Nat} (ht : Tryz.prog.underlying t = some (.slice e)) (hinfo : (Tryz.prog.info? e).map (fun i => (i.zero, i.size, i.bytes)) = some (some z, k, bytes)) (hzs : z.cells.size = k) (hk0 : 0 < k)
    (ad : Addr) (cp : Nat) (c : List Value) (hc : c.length = k) (hcells : ∀ j u, c[j]? = some u → w.cell? (ad.add j) = some u) (h1 : ∀ u ∈ c, u.oneCell' = true) (hlen : vs.length ≤ 100000000) (hby : bytes ≤ 1000) :
    ∃ v' w', (Builtin.append_ #[t, t] ty #[s, .slice (some ad) 1 cp]).run Tryz.prog w = .ok v' w' ∧ Rw w' e v' k (vs ++ [c]) ∧ w.grownBy w' s.ownBlock ∧ (∀ b, v'.ownBlock = some b → s.ownBlock = some b ∨ w.heap.size ≤ b) := by
  obtain ⟨i0, hi0, hz0, hz1, hz2⟩ := info_parts hinfo
  have hb1 : (vs.length + 1) * bytes ≤ 100000001 * 1000 := Nat.mul_le_mul (by omega) hby
  obtain ⟨v', w', hr, ho, hg, _⟩ := run_append_own (P := Tryz.prog) w 0 t ty e i0 z k bytes ht hi0 hz0 hz1 hz2 hzs hk0 s vs.length vs.flatten h.2 ad 1 cp c (by omega) hcells h1 (by unfold maxLen; omega) (by omega) (Nat.zero_le _)
  refine ⟨v', w', hr, ⟨?_, ?_⟩, hg, ?_⟩
  · intro x hx
    rcases List.mem_append.1 hx with hx | hx
    · exact h.1 x hx
    · simp at hx; subst hx; exact hc
  · have : (vs ++ [c]).flatten = vs.flatten ++ c := by simp
    rw [this, List.length_append]
    exact ho
  · intro b hb
    rcases h.2.2 with ⟨rfl, hn⟩ | ⟨g, cap, cur, rfl, hbg, hgg, hnc, hcm, hcs, htake⟩
    · have hr2 := run_append_nil (P := Tryz.prog) w t ty e i0 z ht hi0 hz0 ad 1 cp c (by rw [hz1]; omega) hcells (by omega) (by omega) (by rw [hz2]; omega)
      rw [hr] at hr2
      injection hr2 with e1 e2
      subst e1
      injection hb with hb
      subst hb
      exact .inr (Nat.le_refl _)
    · by_cases hroom : vs.length + 1 ≤ cap
      · have hfit : vs.length * i0.size + c.length ≤ cur.size := by
          rw [hz1, hc, hcs]
          have : (vs.length + 1) * k ≤ cap * k := Nat.mul_le_mul_right _ hroom
          rw [Nat.succ_mul] at this
          exact this
        have hr2 := run_append_room (P := Tryz.prog) w t ty e i0 ht hi0 g vs.length cap cur hgg ad 1 cp c (by rw [hz1]; omega) hcells h1 hroom hfit
        rw [hr] at hr2
        injection hr2 with e1 e2
        subst e1
        exact .inl hb
      · have hr2 := run_append_grow (P := Tryz.prog) w t ty e i0 z ht hi0 hz0 ⟨g, 0, none⟩ vs.length cap vs.flatten (by rw [hz1]; exact h.2.1) (h.2.cells (g := g) rfl) ad 1 cp c (by rw [hz1]; omega) hcells (by omega) (by omega) (growslice_fits (by omega) (by rw [hz2]; omega))
        rw [hr] at hr2
        injection hr2 with e1 e2
        subst e1
        injection hb with hb
        subst hb
        exact .inr (Nat.le_refl _)
theorem ivs_snoc (l : List Int) (x : Int) : ivs (l ++ [x]) = ivs l ++ [[.int .i64 x]] := by simp [ivs]
/-- The same as one step of a region that draws its order. -/
theorem step_app {w : World} {e : TypeId} {s : Value} {k : Nat} {vs : List (List Value)} (h : Rw w e s k vs) (t : TypeId) {z : Value} {bytes : Nat} (ht : Tryz.prog.underlying t = some (.slice e)) (hinfo : (Tryz.prog.info? e).map (fun i => (i.zero, i.size, i.bytes)) = some (some z, k, bytes)) (hzs : z.cells.size = k) (hk0 : 0 < k)
    {ops : Array Oper} {o : Oper} {a : Act} {K : Act → World → Prop} {Q : Exit → Act → World → Prop} {E : Prop} (hgd : o.guard = none) (so xo : Operand) (ho : o.op = .call { callee := .builtin .append, args := #[so, xo], argTypes := #[t, t] })
    (hs : a.eval so = s) (ad : Addr) (cp : Nat) (hx : a.eval xo = .slice (some ad) 1 cp) (c : List Value) (hc : c.length = k) (hcells : ∀ j u, c[j]? = some u → w.cell? (ad.add j) = some u) (h1 : ∀ u ∈ c, u.oneCell' = true) (hlen : vs.length ≤ 100000000) (hby : bytes ≤ 1000)
    (hK : ∀ v' w', Rw w' e v' k (vs ++ [c]) → w.grownBy w' s.ownBlock → (∀ b, v'.ownBlock = some b → s.ownBlock = some b ∨ w.heap.size ≤ b) → K (a.put o.dst v') w') : if Region.wanted o (yielded ops a.tmps) = true then Oper.wp Tryz.prog o a w K Q else E := by
  have hw : Region.wanted o (yielded ops a.tmps) = true := by simp [Region.wanted, hgd]
  rw [if_pos hw]
  obtain ⟨v', w', hr, h2, h3, h4⟩ := h.app t o.type ht hinfo hzs hk0 ad cp c hc hcells h1 hlen hby
  unfold Oper.wp execOp
  simp only [ho, resolve, invoke, builtin, Sem.run_bind, Sem.run_pure, Result.andThen_ok, List.map_toArray, List.map_cons, List.map_nil, hs, hx, hr]
  exact hK v' w' h2 h3 h4
theorem list_app {w : World} {e : TypeId} {s : Value} {k : Nat} {vs : List (List Value)} (h : Rw w e s k vs) (t : TypeId) {z : Value} {bytes : Nat} (ht : Tryz.prog.underlying t = some (.slice e)) (hinfo : (Tryz.prog.info? e).map (fun i => (i.zero, i.size, i.bytes)) = some (some z, k, bytes)) (hzs : z.cells.size = k) (hk0 : 0 < k)
    {ops : Array Oper} {rest : List Oper} {o : Oper} {a : Act} {Q : Exit → Act → World → Prop} (hgd : o.guard = none) (so xo : Operand) (ho : o.op = .call { callee := .builtin .append, args := #[so, xo], argTypes := #[t, t] })
    (hs : a.eval so = s) (ad : Addr) (cp : Nat) (hx : a.eval xo = .slice (some ad) 1 cp) (c : List Value) (hc : c.length = k) (hcells : ∀ j u, c[j]? = some u → w.cell? (ad.add j) = some u) (h1 : ∀ u ∈ c, u.oneCell' = true) (hlen : vs.length ≤ 100000000) (hby : bytes ≤ 1000)
    (hK : ∀ v' w', Rw w' e v' k (vs ++ [c]) → w.grownBy w' s.ownBlock → (∀ b, v'.ownBlock = some b → s.ownBlock = some b ∨ w.heap.size ≤ b) → wpList Tryz.prog ops Q rest (a.put o.dst v') w') : wpList Tryz.prog ops Q (o :: rest) a w :=
  wpList_plain hgd fun _ hK' => by
    obtain ⟨v', w', hr, h2, h3, h4⟩ := h.app t o.type ht hinfo hzs hk0 ad cp c hc hcells h1 hlen hby
    unfold Oper.wp execOp
    simp only [ho, resolve, invoke, builtin, Sem.run_bind, Sem.run_pure, Result.andThen_ok, List.map_toArray, List.map_cons, List.map_nil, hs, hx, hr]
    exact hK' _ _ (hK v' w' h2 h3 h4)
theorem Tryz.infoInt : (Tryz.prog.info? 3).map (fun i => (i.zero, i.size, i.bytes)) = some (some (.int .i64 0), 1, 8) := by kernel_rfl
theorem Tryz.infoDom : (Tryz.prog.info? 37).map (fun i => (i.zero, i.size, i.bytes)) = some (some (.agg #[.bool false, .slice none 0 0, .slice none 0 0, .slice none 0 0, .int .i64 0, .int .i64 0]), 6, 96) := by kernel_rfl
theorem Tryz.infoKept : (Tryz.prog.info? 105).map (fun i => (i.zero, i.size, i.bytes)) = some (some (.agg #[.int .i64 0, .bool false, .slice none 0 0, .slice none 0 0, .slice none 0 0, .int .i64 0, .int .i64 0, .int .i64 0]), 8, 112) := by kernel_rfl
theorem Tryz.infoEvent : (Tryz.prog.info? 61).map (fun i => (i.zero, i.size, i.bytes)) = some (some (.agg #[.int .i64 0, .int .i64 0]), 2, 16) := by kernel_rfl
set_option maxRecDepth 100000 in
set_option maxHeartbeats 4000000 in
theorem mark_any [Gh] {W : World} {p : Nat} {st : StM} {sl : Sl} (h : Sto W p st sl) (hz : Sz st) : Calls Tryz.prog 57 #[ptr p] W fun e w' => e = .returned (.tuple #[]) ∧ ∃ sl', Sto w' p { st with marks := st.marks ++ [(st.saved.length : Int)] } sl' ∧ Up (XS p sl) (XS p sl') W ∧ Kept (XS p sl) W w' := by
  have HML : Hid ((ivs st.marks).length ≤ 100000000) := by rw [Hid, ivs_len]; have := hz.2.1; omega
  obtain ⟨nd, n, m, sa, sc, ma, mc, ia, ic, da, dc, wa, wc, rfl, HL⟩ := h.look
  rw [HL.out.2.1]
  have hnb : n ≤ 100000000 := by rw [← HL.out.2.1]; exact hz.2.2
  have HD : Hid (Sto W.drew p st ⟨.slice sa n sc, .slice ma m mc, .slice ia nd ic, .slice da nd dc, .slice wa nd wc⟩) := h.below (Below.refl _ _).drew
  have hbA : Below W.drew.heap.size W.drew (W.drew.alloc (.cells #[.int .i64 n] 3)) := (Below.refl _ _).alloc (Nat.le_refl _) _
  have HA : Hid (Sto (W.drew.alloc (.cells #[.int .i64 n] 3)) p st ⟨.slice sa n sc, .slice ma m mc, .slice ia nd ic, .slice da nd dc, .slice wa nd wc⟩) := HD.out.below hbA
  have HR : Hid (Rw (W.drew.alloc (.cells #[.int .i64 n] 3)) 3 (.slice ma m mc) 1 (ivs st.marks)) := HA.out.marks
  have HCE : Hid (∀ j u, [Value.int .i64 n][j]? = some u → (W.drew.alloc (.cells #[.int .i64 n] 3)).cell? ((⟨W.heap.size, 0, none⟩ : Addr).add j) = some u) := by
    intro j u hu
    have := (Bx.new W.drew #[.int .i64 n] 3).cell j
    rw [Addr.add_mid, Nat.zero_add]
    simpa using this.trans (by simpa using hu)
  have MID : ∀ w1, (W.drew.alloc (.cells #[.int .i64 n] 3)).grownBy w1 (Value.slice ma m mc).ownBlock → w1.cell? ⟨p, 0, none⟩ = some (.slice sa n sc) ∧ w1.cell? ⟨p, 1, none⟩ = some (.slice ma m mc) ∧ w1.frozen? ⟨p, 1, none⟩ = false := by
    intro w1 hg
    have hp := (hg.block p HA.out.p_lt (fun e => HR.out.nep HA.out.blk (by decide) e.symm)).trans HA.out.blk
    exact ⟨cell_of_row w1 p 0 _ _ _ hp, cell_of_row w1 p 1 _ _ _ hp, by simp [World.frozen?, hp]⟩
  have HH : Hid _ := h
  have hS0 : W.cell? ⟨p, 0, none⟩ = some (.slice sa n sc) := h.cells.1
  clear hz hbA h
  go_enter Tryz.func57, Tryz.ntmps57
  go_upto_region 0 with (fail)
  refine wp_region_held_drew (S := fun X : World => X.cell? ⟨p, 0, none⟩ = some (.slice sa n sc)) (by kernel_rfl) (hS0) (fun hHeld => ?_)
  refine tkH 0 ⟨some 2, .move (.tmp 0), 103, "trail.go:29", #[], none⟩ (v := ?_) hHeld ?_ ?_
  rotate_left
  · intro w hSw; (try dsimp only at hSw); go_simp <;> with_reducible rfl
  try simp only [Act.put, zS, z0, z1]
  refine tkH 1 ⟨some 3, .move (.tmp 0), 103, "trail.go:29", #[], none⟩ (v := ?_) hHeld ?_ ?_
  rotate_left
  · intro w hSw; (try dsimp only at hSw); go_simp <;> with_reducible rfl
  try simp only [Act.put, zS, z0, z1]
  refine tkH 2 ⟨some 4, .nilCheck (.tmp 3), 0, "trail.go:29", #[⟨1, .data⟩], none⟩ (v := ?_) hHeld ?_ ?_
  rotate_left
  · intro w hSw; (try dsimp only at hSw); go_simp <;> with_reducible rfl
  try simp only [Act.put, zS, z0, z1]
  refine tkH 3 ⟨some 5, .fieldAddr 65 (.tmp 4) 1, 0, "trail.go:29", #[⟨2, .data⟩], none⟩ (v := ?_) hHeld ?_ ?_
  rotate_left
  · intro w hSw; (try dsimp only at hSw); go_simp <;> with_reducible rfl
  try simp only [Act.put, zS, z0, z1]
  refine tkH 5 ⟨some 7, .move (.tmp 0), 103, "trail.go:29", #[], none⟩ (v := ?_) hHeld ?_ ?_
  rotate_left
  · intro w hSw; (try dsimp only at hSw); go_simp <;> with_reducible rfl
  try simp only [Act.put, zS, z0, z1]
  refine tkH 6 ⟨some 8, .nilCheck (.tmp 7), 0, "trail.go:29", #[⟨5, .data⟩], none⟩ (v := ?_) hHeld ?_ ?_
  rotate_left
  · intro w hSw; (try dsimp only at hSw); go_simp <;> with_reducible rfl
  try simp only [Act.put, zS, z0, z1]
  refine tkH 7 ⟨some 9, .fieldAddr 65 (.tmp 8) 0, 0, "trail.go:29", #[⟨6, .data⟩], none⟩ (v := ?_) hHeld ?_ ?_
  rotate_left
  · intro w hSw; (try dsimp only at hSw); go_simp <;> with_reducible rfl
  try simp only [Act.put, zS, z0, z1]
  refine tkH 8 ⟨some 10, .load 62 (.tmp 9), 62, "trail.go:29", #[⟨7, .data⟩], none⟩ (v := ?_) hHeld ?_ ?_
  rotate_left
  · intro w hSw; (try dsimp only at hSw); go_simp <;> with_reducible rfl
  try simp only [Act.put, zS, z0, z1]
  refine tkH 9 ⟨some 11, .call { callee := .builtin .len, args := #[.tmp 10], argTypes := #[62] }, 3, "trail.go:29", #[⟨8, .data⟩], none⟩ (v := ?_) hHeld ?_ ?_
  rotate_left
  · intro w hSw; (try dsimp only at hSw); go_simp <;> with_reducible rfl
  try simp only [Act.put, zS, z0, z1]
  refine wpAnyH_ready (rs := [4, 10]) (by kernel_rfl) (by simp) ?_
  refine AllReadyH.cons rfl (fun K hK => ?_) ?_
  · have z1 : W.cell? ⟨p, 1, none⟩ = some (.slice ma m mc) := (HD.out.cells).2.1
    go_simp
    clear z1
    refine hK.out _ _ (HD.out.cells.1) (fun hHeld2 => ?_)
    clear hK K hHeld
    have hHeld := hHeld2
    clear hHeld2
    try simp only [Act.put, zS, z0, z1]
    refine wpAnyH_ready (rs := [10]) (by kernel_rfl) (by simp) ?_
    refine AllReadyH.cons rfl (fun K hK => ?_) AllReadyH.nil
    go_simp
    refine hK.out _ _ (HA.out.cells.1) (fun hHeld2 => ?_)
    clear hK K hHeld
    have hHeld := hHeld2
    clear hHeld2
    try simp only [Act.put, zS, z0, z1]
    refine wpAnyH_ready (rs := [11]) (by kernel_rfl) (by simp) ?_
    refine AllReadyH.cons rfl (fun K hK => ?_) AllReadyH.nil
    refine step_app HR.out 63 Tryz.underlying63 Tryz.infoInt rfl (by decide) rfl _ _ rfl rfl ⟨W.heap.size, 0, none⟩ 1 (by with_unfolding_all rfl) [.int .i64 n] rfl HCE.out (by intro u hu; simp at hu; subst hu; rfl) HML.out (by decide) ?_
    intro v1 w1 hr1 hg1 hn1
    obtain ⟨p1, q1, c1, rfl, HQ1, _⟩ := hr1.look
    have HR1 : Hid _ := hr1
    have HG1 : Hid _ := hg1
    have HN1 : Hid _ := hn1
    clear hr1 hg1 hn1
    have z0 := MID w1 HG1.out
    refine hK.out _ _ (z0.1) (fun hHeld2 => ?_)
    clear hK K hHeld
    have hHeld := hHeld2
    clear hHeld2
    try simp only [Act.put, zS, z0, z1]
    refine tkH 12 oKg0 (v := ?_) hHeld ?_ ?_
    rotate_left
    · intro w hSw; dsimp only [oKg0]; (try dsimp only at hSw); go_simp <;> with_reducible rfl
    try simp only [oKg0, Act.put, zS, z0, z1]
    refine tkH 13 oKg1 (v := ?_) hHeld ?_ ?_
    rotate_left
    · intro w hSw; dsimp only [oKg1]; (try dsimp only at hSw); go_simp <;> with_reducible rfl
    try simp only [oKg1, Act.put, zS, z0, z1]
    refine wpAnyH_ready (rs := [14]) (by kernel_rfl) (by simp) ?_
    refine AllReadyH.cons rfl (fun K hK => ?_) AllReadyH.nil
    have z1 := z0.2.1
    have z2 := z0.2.2
    go_simp
    clear z1 z2
    refine hK.out _ _ (by rw [World.cell?_setCell_other _ _ _ _ (by simp)]; exact z0.1) (fun hHeld2 => ?_)
    clear hK K hHeld
    have hHeld := hHeld2
    clear hHeld2
    try simp only [Act.put, zS, z0, z1]
    refine wpAnyH_done (by kernel_rfl) ?_ _
    obtain ⟨f1, f2, f3⟩ := HA.out.set_marks HG1.out (M' := st.marks ++ [(n : Int)]) (by rw [ivs_snoc]; exact HR1.out) HN1.out
    refine ⟨rfl, _, results_none rfl _ _ _, rfl, _, f1, fun b hb => ?_, (Kept.of_below ((Below.refl _ W).drew.alloc (Nat.le_refl _) _)).trans f3 (Up.refl _ _)⟩
    rcases f2 b hb with q | q
    · exact .inl q
    · exact .inr (by simp at q; omega)
  refine AllReadyH.cons rfl (fun K hK => ?_) ?_
  · go_simp
    refine hK.out _ _ (HA.out.cells.1) (fun hHeld2 => ?_)
    clear hK K hHeld
    have hHeld := hHeld2
    clear hHeld2
    try simp only [Act.put, zS, z0, z1]
    refine wpAnyH_ready (rs := [4]) (by kernel_rfl) (by simp) ?_
    refine AllReadyH.cons rfl (fun K hK => ?_) AllReadyH.nil
    have z1 : (W.alloc (Obj.cells #[.int .i64 n] 3)).cell? ⟨p, 1, none⟩ = some (.slice ma m mc) := (HA.out.cells).2.1
    go_simp
    clear z1
    refine hK.out _ _ (HA.out.cells.1) (fun hHeld2 => ?_)
    clear hK K hHeld
    have hHeld := hHeld2
    clear hHeld2
    try simp only [Act.put, zS, z0, z1]
    refine wpAnyH_ready (rs := [11]) (by kernel_rfl) (by simp) ?_
    refine AllReadyH.cons rfl (fun K hK => ?_) AllReadyH.nil
    refine step_app HR.out 63 Tryz.underlying63 Tryz.infoInt rfl (by decide) rfl _ _ rfl rfl ⟨W.heap.size, 0, none⟩ 1 (by with_unfolding_all rfl) [.int .i64 n] rfl HCE.out (by intro u hu; simp at hu; subst hu; rfl) HML.out (by decide) ?_
    intro v1 w1 hr1 hg1 hn1
    obtain ⟨p1, q1, c1, rfl, HQ1, _⟩ := hr1.look
    have HR1 : Hid _ := hr1
    have HG1 : Hid _ := hg1
    have HN1 : Hid _ := hn1
    clear hr1 hg1 hn1
    have z0 := MID w1 HG1.out
    refine hK.out _ _ (z0.1) (fun hHeld2 => ?_)
    clear hK K hHeld
    have hHeld := hHeld2
    clear hHeld2
    try simp only [Act.put, zS, z0, z1]
    refine tkH 12 oKg0 (v := ?_) hHeld ?_ ?_
    rotate_left
    · intro w hSw; dsimp only [oKg0]; (try dsimp only at hSw); go_simp <;> with_reducible rfl
    try simp only [oKg0, Act.put, zS, z0, z1]
    refine tkH 13 oKg1 (v := ?_) hHeld ?_ ?_
    rotate_left
    · intro w hSw; dsimp only [oKg1]; (try dsimp only at hSw); go_simp <;> with_reducible rfl
    try simp only [oKg1, Act.put, zS, z0, z1]
    refine wpAnyH_ready (rs := [14]) (by kernel_rfl) (by simp) ?_
    refine AllReadyH.cons rfl (fun K hK => ?_) AllReadyH.nil
    have z1 := z0.2.1
    have z2 := z0.2.2
    go_simp
    clear z1 z2
    refine hK.out _ _ (by rw [World.cell?_setCell_other _ _ _ _ (by simp)]; exact z0.1) (fun hHeld2 => ?_)
    clear hK K hHeld
    have hHeld := hHeld2
    clear hHeld2
    try simp only [Act.put, zS, z0, z1]
    refine wpAnyH_done (by kernel_rfl) ?_ _
    obtain ⟨f1, f2, f3⟩ := HA.out.set_marks HG1.out (M' := st.marks ++ [(n : Int)]) (by rw [ivs_snoc]; exact HR1.out) HN1.out
    refine ⟨rfl, _, results_none rfl _ _ _, rfl, _, f1, fun b hb => ?_, (Kept.of_below ((Below.refl _ W).drew.alloc (Nat.le_refl _) _)).trans f3 (Up.refl _ _)⟩
    rcases f2 b hb with q | q
    · exact .inl q
    · exact .inr (by simp at q; omega)
  exact AllReadyH.nil

set_option maxRecDepth 100000 in
set_option maxHeartbeats 4000000 in
theorem push_any [Gh] {W : World} {p : Nat} {st : StM} {sl : Sl} (h : Sto W p st sl) (hz : Sz st) (hm : st.marks.length < 1000000) : Calls Tryz.prog 17 #[ptr p] W fun e w' => e = .returned (.int .i64 0) ∧ ∃ sl', Sto w' p { st with marks := st.marks ++ [(st.saved.length : Int)] } sl' ∧ Up (XS p sl) (XS p sl') W ∧ Kept (XS p sl) W w' := by
  have kd := depth_any h hz
  have km := mark_any h hz
  clear h hz
  generalize st.marks.length = m at kd hm
  have hne : ((m : Int) == 1000000) = false := by simp; omega
  go_enter Tryz.func17, Tryz.ntmps17
  go_wp2_with (first | (go_at_call 56; refine kd.mono ?_; rintro e w1 ⟨rfl, rfl⟩) | (go_at_call 57; refine km.mono ?_; rintro e w1 ⟨rfl, hh⟩))
  go_ret
  exact ⟨rfl, hh⟩
end Go.Proofs.YtghnfnieppfhgaaGreat

namespace Go.Proofs.YtghnfnieppfhgaaGreat
open Go.RowKit Go.Shelf
set_option linter.unusedVariables false
set_option linter.unusedSimpArgs false

theorem emptI_01 (b : Bool) : 0 ≤ emptI b ∧ emptI b ≤ 1 := by cases b <;> decide
/-- The cells of a row from a place on, one by one. -/
theorem rng6 {w : World} {g o : Nat} {x0 x1 x2 x3 x4 x5 : Value} (h : w.rangeAt g o [x0, x1, x2, x3, x4, x5]) :
    w.cell? ⟨g, o, none⟩ = some x0 ∧ w.cell? ⟨g, o + 1, none⟩ = some x1 ∧ w.cell? ⟨g, o + 2, none⟩ = some x2 ∧ w.cell? ⟨g, o + 3, none⟩ = some x3 ∧ w.cell? ⟨g, o + 4, none⟩ = some x4 ∧ w.cell? ⟨g, o + 5, none⟩ = some x5 :=
  ⟨by simpa using h 0 x0 rfl, h 1 x1 rfl, h 2 x2 rfl, h 3 x3 rfl, h 4 x4 rfl, h 5 x5 rfl⟩
theorem wrap_small {x : Int} (h1 : -1000000000 ≤ x) (h2 : x ≤ 1000000000) : IntKind.i64.wrap x = x := by
  simp [IntKind.wrap, IntKind.bits, IntKind.signed]
  omega
/-- All ways of a region end in one frame, in worlds of one kind. -/
theorem wp_ways {P : Program} {c : Code} {K : Act → World → Prop} {Q : Exit → Act → World → Prop} {a : Act} {w : World} {act : Act} (R : World → Prop) (h : c.wp P (Exit.then (fun a' w' => a' = act ∧ R w') (fun _ _ _ => False)) a w) (hK : ∀ w', R w' → K act w') : c.wp P (Exit.then K Q) a w :=
  Code.wp_mono (fun e b x q => by
    cases e with
    | normal =>
      have q' : b = act ∧ R x := q
      obtain ⟨e1, q2⟩ := q'
      rw [e1]
      exact hK _ q2
    | _ => exact (q : False).elim) h
theorem stepM {ops : Array Oper} {o : Oper} {a : Act} {w : World} {K : Act → World → Prop} {Q : Exit → Act → World → Prop} {E : Prop} (hgd : o.guard = none) (ty : TypeId) (x y : Operand) (ho : o.op = .store ty x y) (b off : Nat) (c : List Value) (hx : a.eval x = .pointer (some ⟨b, off, none⟩)) (hy : a.eval y = .agg c.toArray)
    (ht : w.there b off c.length) (hi : (Tryz.prog.info? ty).map (·.size) = some c.length) (h1 : ∀ v ∈ c, v.oneCell' = true) (h : K (a.put o.dst undef) (w.setCells b off c)) : if Region.wanted o (yielded ops a.tmps) = true then Oper.wp Tryz.prog o a w K Q else E := by
  have hw : Region.wanted o (yielded ops a.tmps) = true := by simp [Region.wanted, hgd]
  rw [if_pos hw]
  exact wp_store_mid ty x y ho b off c.toArray hx hy (by simpa using ht) (by simpa using hi) (all_oneCell_toArray h1) (by simpa using h)
theorem Bx.setc {w : World} {g k : Nat} {cs : Array Value} {t : TypeId} (h : Bx w k cs t) (hk : k ≠ g) (o : Nat) (v : Value) : Bx (w.setCell ⟨g, o, none⟩ v) k cs t := ⟨(Below.heap_setCell w ⟨g, o, none⟩ v k hk).trans h.h⟩
theorem Bx.setcs {w : World} {g k : Nat} {cs : Array Value} {t : TypeId} (h : Bx w k cs t) (hk : k ≠ g) (o : Nat) (vs : List Value) : Bx (w.setCells g o vs) k cs t := ⟨((Kept.many (w := w) rfl).block k h.lt hk).trans h.h⟩
theorem Sto.dom_at [Gh] {w : World} {p : Nat} {st : StM} {sl : Sl} (h : Sto w p st sl) {v : Nat} {d : MD} (hd : st.D[v]? = some d) : ∃ g cap c, sl.dv = .slice (some ⟨g, 0, none⟩) st.D.length cap ∧ g < w.heap.size ∧ st.D.length ≤ cap ∧ cap ≤ 9223372036854775807 ∧ w.rangeAt g (v * 6) c ∧ w.there g (v * 6) 6 ∧ Dc (XS p sl) w c d := by
  obtain ⟨cs, hr, hdr⟩ := h.doms
  have hv : v < cs.length := by rw [hdr.1]; exact (List.getElem?_eq_some_iff.1 hd).1
  obtain ⟨g, cap, e1, e2, e3, e4, e5, e6⟩ := hr.at (List.getElem?_eq_getElem hv)
  unfold maxLen at e4
  rw [hdr.1] at e1 e3
  exact ⟨g, cap, _, e1, e2, e3, by omega, e5, e6, hdr.2 v _ d (List.getElem?_eq_getElem hv) hd⟩

end Go.Proofs.YtghnfnieppfhgaaGreat

namespace Go.Proofs.YtghnfnieppfhgaaGreat
open Go.RowKit Go.Shelf
set_option linter.unusedVariables false
set_option linter.unusedSimpArgs false

theorem stepR {ops : Array Oper} {o : Oper} {a : Act} {w : World} {K : Act → World → Prop} {Q : Exit → Act → World → Prop} {E : Prop} {old : Array Value} {t : TypeId} (hgd : o.guard = none) (ty : TypeId) (x y : Operand) (ho : o.op = .store ty x y) (g : Nat) (c : List Value) (hx : a.eval x = .pointer (some ⟨g, 0, none⟩)) (hy : a.eval y = .agg c.toArray)
    (hg : Bx w g old t) (hold : old.size = 6) (hc : c.length = 6) (hi : (Tryz.prog.info? ty).map (·.size) = some 6) (h1 : ∀ v ∈ c, v.oneCell' = true) (h : K (a.put o.dst undef) (w.setRow g c.toArray)) : if Region.wanted o (yielded ops a.tmps) = true then Oper.wp Tryz.prog o a w K Q else E := by
  have hw : Region.wanted o (yielded ops a.tmps) = true := by simp [Region.wanted, hgd]
  rw [if_pos hw]
  unfold Oper.wp execOp
  simp only [ho, hx, hy, Instr.storeAt, Instr.sureAddr, Sem.run_bind, Sem.run_pure, Result.andThen_ok, run_storeVar_row w g t ty old c.toArray hg.h (by rw [hi]; simp [hc]) (by simp [hold, hc]) (all_oneCell_toArray h1)]
  exact h

set_option maxRecDepth 100000 in
set_option maxHeartbeats 4000000 in
theorem tight_w {X : Nat → Prop} {W : World} {c : List Value} {d : MD} (h : Dc X W c d) (hs : d.set = false) (hf : Dm.FitsR d.r) :
    Calls Tryz.prog 31 #[.agg c.toArray] W fun e w' => ∃ q : List Value, e = .returned (.agg q.toArray) ∧ (∀ Z : Nat → Prop, (∀ b, Z b → b < W.heap.size) → Dc Z w' q (bothW d d)) ∧ Below W.heap.size W w' := by
  obtain ⟨b, ra, n0, rc, a1, n1, c1, a2, n2, c2, x, y, rfl, HE, H1, H2, H3⟩ := h.look
  obtain rfl : b = false := by rw [← HE.out.1, hs]
  obtain ⟨bw, hbw⟩ : ∃ q, W.heap.size = q := ⟨_, rfl⟩
  obtain ⟨W0, hW0⟩ : ∃ Q, (W.alloc (Obj.cells #[.bool false, .slice ra n0 rc, .slice a1 n1 c1, .slice a2 n2 c2, .int .i64 x, .int .i64 y] 37)).alloc (Obj.cells #[.bool false, .slice none 0 0, .slice none 0 0, .slice none 0 0, .int .i64 0, .int .i64 0] 37) = Q := ⟨_, rfl⟩
  have hb0 : Below W.heap.size W W0 := by rw [← hW0]; exact (((Below.refl _ W).alloc (Nat.le_refl _) _).alloc (by simp) _)
  have HBX : Hid (Bx W0 bw #[.bool false, .slice ra n0 rc, .slice a1 n1 c1, .slice a2 n2 c2, .int .i64 x, .int .i64 y] 37) := by rw [← hW0]; exact (Bx.new' hbw _ _).alloc _
  have HRX : Hid (Bx W0 (bw + 1) #[.bool false, .slice none 0 0, .slice none 0 0, .slice none 0 0, .int .i64 0, .int .i64 0] 37) := by rw [← hW0]; exact Bx.new' (by simp [hbw]) _ _
  have hC := h.below hb0
  have KN : Hid (∀ X, Below W0.heap.size W0 X → Calls Tryz.prog 49 #[.agg #[.bool false, .slice ra n0 rc, .slice a1 n1 c1, .slice a2 n2 c2, .int .i64 x, .int .i64 y]] X fun e w' => e = .returned (.func (.func 74) #[.agg #[.bool false, .slice ra n0 rc, .slice a1 n1 c1, .slice a2 n2 c2, .int .i64 x, .int .i64 y]] #[]) ∧ Below X.heap.size X w') := fun X hX => narrower_w (hC.below hX) hs
  have KW : Hid (∀ X, Below W0.heap.size W0 X → Calls Tryz.prog 74 #[.agg #[.bool false, .slice ra n0 rc, .slice a1 n1 c1, .slice a2 n2 c2, .int .i64 x, .int .i64 y], .agg #[.bool false, .slice ra n0 rc, .slice a1 n1 c1, .slice a2 n2 c2, .int .i64 x, .int .i64 y]] X fun e w' => ∃ q : List Value, e = .returned (.agg q.toArray) ∧ (∀ Z : Nat → Prop, (∀ b, Z b → b < X.heap.size) → Dc Z w' q (bothW d d)) ∧ Below X.heap.size X w') := fun X hX => with_w (hC.below hX) (hC.below hX) hs hs hf hf
  have HB00 : Hid (Below W.heap.size W W0) := hb0
  have HB0 : Hid (Below W0.heap.size W0 W0.drew) := (Below.refl _ _).drew
  have HW0 : Hid _ := hW0
  have HBW : Hid (W.heap.size = bw) := hbw
  have HX0 : Hid _ := HBX.out.drew 1
  clear hW0 hbw hb0 hC h hs hf H1 H2 H3 HE
  go_enter Tryz.func31, Tryz.ntmps31
  go_upto_region 1 with (fail)
  rw [HW0.out, HBW.out]
  refine wp_region_held_drew (S := fun X : World => Bx X bw #[.bool false, .slice ra n0 rc, .slice a1 n1 c1, .slice a2 n2 c2, .int .i64 x, .int .i64 y] 37) (by kernel_rfl) (HX0.out) (fun hHeld => ?_)
  refine tkH 0 ⟨some 3, .load 37 (.tmp 1), 37, "kinds.go:38", #[], none⟩ (v := ?_) hHeld ?_ ?_
  rotate_left
  · intro w hSw; obtain ⟨y0, y1, y2, y3, y4, y5⟩ := hSw.six; go_simp <;> with_reducible rfl
  try simp only [Act.put, zS, z0, z1]
  refine tkH 2 ⟨some 5, .load 37 (.tmp 1), 37, "kinds.go:38", #[], none⟩ (v := ?_) hHeld ?_ ?_
  rotate_left
  · intro w hSw; obtain ⟨y0, y1, y2, y3, y4, y5⟩ := hSw.six; go_simp <;> with_reducible rfl
  try simp only [Act.put, zS, z0, z1]
  refine wpAnyH_ready (rs := [1]) (by kernel_rfl) (by simp) ?_
  refine AllReadyH.cons rfl (fun K hK => ?_) AllReadyH.nil
  go_simp
  refine (KN.out _ HB0.out).mono ?_
  rintro e w1 ⟨rfl, hb⟩
  have HB1 : Hid (Below W0.heap.size W0 w1) := HB0.out.trans (hb.mono HB0.out.size)
  clear hb
  refine hK.out _ _ ((HBX.out.below HB1.out)) (fun hHeld2 => ?_)
  clear hK K hHeld
  have hHeld := hHeld2
  clear hHeld2
  try simp only [Act.put, zS, z0, z1]
  refine wpAnyH_ready (rs := [3]) (by kernel_rfl) (by simp) ?_
  refine AllReadyH.cons rfl (fun K hK => ?_) AllReadyH.nil
  go_simp
  refine (KW.out _ HB1.out).mono ?_
  rintro e w2 ⟨q, rfl, hq, hb⟩
  have HQ : Hid _ := hq
  have HB2 : Hid (Below W0.heap.size W0 w2) := HB1.out.trans (hb.mono HB1.out.size)
  have HS12 : Hid (w1.heap.size ≤ w2.heap.size) := hb.size
  clear hb hq
  refine hK.out _ _ ((HBX.out.below HB2.out)) (fun hHeld2 => ?_)
  clear hK K hHeld
  have hHeld := hHeld2
  clear hHeld2
  try simp only [Act.put, zS, z0, z1]
  refine wpAnyH_ready (rs := [4]) (by kernel_rfl) (by simp) ?_
  refine AllReadyH.cons rfl (fun K hK => ?_) AllReadyH.nil
  have HR2 : Hid (Bx w2 (bw + 1) #[.bool false, .slice none 0 0, .slice none 0 0, .slice none 0 0, .int .i64 0, .int .i64 0] 37) := HRX.out.below HB2.out
  have HDc : Hid (Dc (fun _ => False) w2 q (bothW d d)) := HQ.out _ (fun _ q => q.elim)
  refine stepR rfl 37 (.tmp 2) (.tmp 6) rfl (bw + 1) q (by with_unfolding_all rfl) (by with_unfolding_all rfl) HR2.out (by rfl) HDc.out.len Tryz.sizeDom HDc.out.one ?_
  refine hK.out _ _ (((HBX.out.below HB2.out).setRow_ne (by omega) _)) (fun hHeld2 => ?_)
  clear hK K hHeld
  have hHeld := hHeld2
  clear hHeld2
  try simp only [Act.put, zS, z0, z1]
  refine wpAnyH_done (by kernel_rfl) ?_ _
  go_wp2
  refine ⟨rfl, _, resD rfl _ (HR2.out.setRow _) HDc.out.len (by with_unfolding_all rfl), q, rfl, fun Z hZ => ?_, below_row (HB00.out.trans (HB2.out.mono HB00.out.size)) (by have := HBW.out; omega) _⟩
  refine (HQ.out (fun b => b < w1.heap.size) (fun b q => q)).go ⟨rfl, rfl, rfl, by simp [World.setRow], fun b _ hb => setRow_other w2 _ b _ (by intro e; apply hb; have := HRX.out.lt; have := HB1.out.size; omega)⟩ (fun b hb => .inl ?_)
  have := hZ b hb; have := HB00.out.size; have := HB1.out.size; show b < w1.heap.size; omega

set_option maxRecDepth 100000 in
set_option maxHeartbeats 4000000 in
theorem change_fix {X Y : Nat → Prop} {W : World} {c k : List Value} {d o : MD} (h : Dc X W c d) (h' : Dc Y W k o) (hs : d.set = false) (hs' : o.set = false) (hf' : Dm.FitsR o.r) (ho : (onlyW o).2 = true) :
    Calls Tryz.prog 54 #[.agg c.toArray, .agg k.toArray] W fun e w' => e = .returned (.int .i64 1) ∧ Below W.heap.size W w' := by
  obtain ⟨b, ra, n0, rc, a1, n1, c1, a2, n2, c2, x, y, rfl, HE, H1, H2, H3⟩ := h.look
  obtain rfl : b = false := by rw [← HE.out.1, hs]
  obtain ⟨b', ra', n0', rc', a1', n1', c1', a2', n2', c2', x', y', rfl, HE', H1', H2', H3'⟩ := h'.look
  obtain rfl : b' = false := by rw [← HE'.out.1, hs']
  obtain ⟨W0, hW0⟩ : ∃ Q, (W.alloc (Obj.cells #[.bool false, .slice ra n0 rc, .slice a1 n1 c1, .slice a2 n2 c2, .int .i64 x, .int .i64 y] 37)).alloc (Obj.cells #[.bool false, .slice ra' n0' rc', .slice a1' n1' c1', .slice a2' n2' c2', .int .i64 x', .int .i64 y'] 37) = Q := ⟨_, rfl⟩
  have hb0 : Below W.heap.size W W0 := by rw [← hW0]; exact (((Below.refl _ W).alloc (Nat.le_refl _) _).alloc (by simp) _)
  have ko := only_w (h'.below hb0) hs' hf'
  rw [ho] at ko
  have HW0 : Hid _ := hW0
  clear hW0 h h' hs hs' hf' ho H1 H2 H3 HE H1' H2' H3' HE'
  generalize (onlyW o).1 = z at *
  go_enter Tryz.func54, Tryz.ntmps54
  go_wp2_with fail
  rw [HW0.out]
  refine ko.mono ?_
  clear ko
  rintro e w1 ⟨rfl, hb1⟩
  have hb2 : Below W.heap.size W w1 := hb0.trans (hb1.mono hb0.size)
  go_wp2
  go_ret
  exact ⟨rfl, hb2.alloc hb2.size _⟩
end Go.Proofs.YtghnfnieppfhgaaGreat

namespace Go.Proofs.YtghnfnieppfhgaaGreat
open Go.RowKit Go.Shelf
set_option linter.unusedVariables false
set_option linter.unusedSimpArgs false

theorem wp_ways6 {P : Program} {c : Code} {Q : Exit → Act → World → Prop} {a : Act} {w : World} {act : Option Addr → Nat → Option Addr → Nat → Option Addr → Nat → Act} (R : Option Addr → Nat → Option Addr → Nat → Option Addr → Nat → World → Prop) (h : c.wp P (Exit.then (fun a' w' => ∃ n m k i j l, a' = act n m k i j l ∧ R n m k i j l w') (fun _ _ _ => False)) a w) (hK : ∀ n m k i j l w', R n m k i j l w' → Q .normal (act n m k i j l) w') : c.wp P Q a w :=
  Code.wp_mono (fun e b x q => by
    cases e with
    | normal =>
      have q' : ∃ n m k i j l, b = act n m k i j l ∧ R n m k i j l x := q
      obtain ⟨n, m, k, i, j, l, e1, q2⟩ := q'
      rw [e1]
      exact hK _ _ _ _ _ _ _ q2
    | _ => exact (q : False).elim) h
end Go.Proofs.YtghnfnieppfhgaaGreat
