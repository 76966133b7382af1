/-
  What is proved here: kinds.Copy of any domain.
-/
import Derived.Test.YtghnfnieppfhgaaGreatAa
import Derived.Test.YtghnfnieppfhgaaGreatMa
import Derived.Test.YtghnfnieppfhgaaGreatKgj
import Derived.Test.YtghnfnieppfhgaaGreatYSfj
import Derived.OwnWalk
namespace Go.Proofs.YtghnfnieppfhgaaGreat
open Go.RowKit Go.Shelf
set_option linter.unusedVariables false
set_option linter.unusedSimpArgs false

theorem run_app0r (w : World) (ty : TypeId) (g : Nat) (a : Option Addr) (c' : Nat) : (Builtin.append_ #[34, 34] ty #[.slice (some ⟨g, 0, none⟩) 0 0, .slice a 0 c']).run Tryz.prog w = .ok (.slice (some ⟨g, 0, none⟩) 0 0) w := by
  obtain ⟨i0, hi0, hz0, hz1, hz2⟩ := info_parts Dm.Tryz.info80
  have hf : (Builtin.firstCells i0.size 0 (.slice a 0 c')).run Tryz.prog w = .ok #[] w := by cases a <;> simp [Builtin.firstCells, loadCells, loadCellsFrom]
  simp [Builtin.append_, run_underlying Tryz.underlying34, sizeOf, typeInfo, hi0, Builtin.lenOf, hf, storeCells]

set_option maxRecDepth 100000 in
set_option maxHeartbeats 4000000 in
theorem clone0r (a : Option Addr) (c : Nat) (W : World) : Calls Tryz.prog 78 #[.slice a 0 c] W fun e w' => ∃ a' c', e = .returned (.slice a' 0 c') ∧ Below W.heap.size W w' := by
  have hnil : ∀ (w : World) (a : Option Addr) (n c n' c' : Nat), (binOp .eql 34 (.slice a n c) (.slice none n' c')).run Tryz.prog w = .ok (.bool a.isNone) w := fun w a n c n' c' => Lib.run_eql_slice_nil w _ _ a n c n' c' Tryz.underlying34
  have happ := run_app0r
  cases a with
  | none =>
    go_enter Tryz.func78, Tryz.ntmps78
    go_wp2
    go_ret
    exact ⟨none, 0, rfl, Below.refl _ _⟩
  | some ad =>
    go_enter Tryz.func78, Tryz.ntmps78
    go_wp2
    go_ret
    exact ⟨_, _, rfl, (Below.refl _ W).alloc (Nat.le_refl _) _⟩
theorem cloneR_d {X : Nat → Prop} {W : World} {p : Option Addr} {n k : Nat} {l : List Dm.Rg} (h : Rm X W (.slice p n k) l) (hl : l.length ≤ 4096) :
    Calls Tryz.prog 78 #[.slice p n k] W fun e w' => ∃ a c, e = .returned (.slice a n c) ∧ Rm (fun b => b < W.heap.size) w' (.slice a n c) l ∧ Below W.heap.size W w' := by
  have hn : l.length = n := by obtain ⟨a, c, e, _⟩ := h; injection e with _ e _; exact e.symm
  rcases Nat.eq_zero_or_pos l.length with h0 | h0
  · obtain rfl : n = 0 := by omega
    refine (clone0r p k W).mono ?_
    rintro e w' ⟨a', c', rfl, hb⟩
    exact ⟨a', c', rfl, ⟨a', c', by rw [h0], fun q => by omega⟩, hb⟩
  · refine (Dm.clone_any p n k l W h.sr h0 hl).mono ?_
    rintro e w' ⟨s, rfl, ho, hb⟩
    have hr := rm_own (X := fun b => b < W.heap.size) ho (fun b q => q)
    obtain ⟨a, c, rfl, hh⟩ := id hr
    rw [hn] at hr
    exact ⟨a, c, by rw [hn], hr, hb⟩
theorem cloneI_d {X : Nat → Prop} {W : World} {p : Option Addr} {n k : Nat} {l : List Int} (h : Nm X W (.slice p n k) l) (hl : l.length ≤ 100000) :
    Calls Tryz.prog 79 #[.slice p n k] W fun e w' => ∃ a c, e = .returned (.slice a n c) ∧ Nm (fun b => b < W.heap.size) w' (.slice a n c) l ∧ Below W.heap.size W w' := by
  have hn : l.length = n := by obtain ⟨a, c, e, _⟩ := h; injection e with _ e _; exact e.symm
  refine (St.clone_any _ l W h.si hl).mono ?_
  rintro e w' ⟨s, rfl, ho, hb⟩
  have hr := nm_own (X := fun b => b < W.heap.size) ho (fun b q => q)
  obtain ⟨a, c, rfl, hh⟩ := id hr
  rw [hn] at hr
  exact ⟨a, c, by rw [hn], hr, hb⟩

abbrev q55_1_0 : Oper := ⟨some 3, .fieldAddr 37 (.tmp 1) 1, 0, "kinds.go:35", #[], none⟩
abbrev q55_1_3 : Oper := ⟨some 6, .fieldAddr 37 (.tmp 1) 2, 0, "kinds.go:35", #[], none⟩
abbrev q55_1_6 : Oper := ⟨some 9, .fieldAddr 37 (.tmp 1) 3, 0, "kinds.go:35", #[], none⟩
abbrev q55_1_9 : Oper := ⟨some 12, .fieldAddr 37 (.tmp 1) 1, 0, "kinds.go:35", #[⟨0, .phase⟩, ⟨1, .phase⟩, ⟨2, .phase⟩, ⟨3, .phase⟩, ⟨4, .phase⟩, { on := 5, ground := Go.Ground.textOnly Go.Departure.lateStoresUnsure }, ⟨6, .phase⟩, ⟨7, .phase⟩, { on := 8, ground := Go.Ground.textOnly Go.Departure.lateStoresUnsure }], none⟩
abbrev q55_1_11 : Oper := ⟨some 13, .fieldAddr 37 (.tmp 1) 2, 0, "kinds.go:35", #[⟨0, .phase⟩, ⟨1, .phase⟩, ⟨2, .phase⟩, ⟨3, .phase⟩, ⟨4, .phase⟩, ⟨5, .phase⟩, ⟨6, .phase⟩, ⟨7, .phase⟩, { on := 8, ground := Go.Ground.textOnly Go.Departure.lateStoresUnsure }, ⟨9, .phase⟩, ⟨10, .phase⟩], none⟩
abbrev q55_1_13 : Oper := ⟨some 14, .fieldAddr 37 (.tmp 1) 3, 0, "kinds.go:35", #[⟨0, .phase⟩, ⟨1, .phase⟩, ⟨2, .phase⟩, ⟨3, .phase⟩, ⟨4, .phase⟩, ⟨5, .phase⟩, ⟨6, .phase⟩, ⟨7, .phase⟩, ⟨8, .phase⟩, ⟨9, .phase⟩, ⟨10, .phase⟩, ⟨11, .phase⟩, ⟨12, .phase⟩], none⟩
set_option maxRecDepth 100000 in
set_option maxHeartbeats 8000000 in
theorem copy_d {X : Nat → Prop} {W : World} {c : List Value} {d : MD} (h : Dc X W c d) (hr : d.r.length ≤ 4096) (hlo : d.lo.length ≤ 100000) (hup : d.up.length ≤ 100000) :
    Calls Tryz.prog 55 #[.agg c.toArray] W fun e w' => ∃ q : List Value, e = .returned (.agg q.toArray) ∧ (∀ Z : Nat → Prop, (∀ b, Z b → b < W.heap.size) → Dc Z w' q d) ∧ Below W.heap.size W w' := by
  obtain ⟨b, ra, n0, rc, a1, n1, c1, a2, n2, c2, x, y, rfl, HE, H1, H2, H3⟩ := h.look
  obtain ⟨bw, hbw⟩ : ∃ q, W.heap.size = q := ⟨_, rfl⟩
  obtain ⟨W0, hW0⟩ : ∃ Q, (W.alloc (Obj.cells #[.bool b, .slice ra n0 rc, .slice a1 n1 c1, .slice a2 n2 c2, .int .i64 x, .int .i64 y] 37)).alloc (Obj.cells #[.bool false, .slice none 0 0, .slice none 0 0, .slice none 0 0, .int .i64 0, .int .i64 0] 37) = Q := ⟨_, rfl⟩
  have hb0 : Below W.heap.size W W0 := by rw [← hW0]; exact (((Below.refl _ W).alloc (Nat.le_refl _) _).alloc (by simp) _)
  have HBX : Hid (Bx W0 bw #[.bool b, .slice ra n0 rc, .slice a1 n1 c1, .slice a2 n2 c2, .int .i64 x, .int .i64 y] 37) := by rw [← hW0]; exact (Bx.new' hbw _ _).alloc _
  have HRX : Hid (Bx W0 (bw + 1) #[.bool false, .slice none 0 0, .slice none 0 0, .slice none 0 0, .int .i64 0, .int .i64 0] 37) := by rw [← hW0]; exact Bx.new' (by simp [hbw]) _ _
  have KC : Hid (∀ X, Below W0.heap.size W0 X → Calls Tryz.prog 78 #[.slice ra n0 rc] X fun e w' => ∃ a c, e = .returned (.slice a n0 c) ∧ Rm (fun b => b < X.heap.size) w' (.slice a n0 c) d.r ∧ Below X.heap.size X w') := fun X hX => cloneR_d ((H1.out.kept (Kept.of_below hb0)).kept (Kept.of_below hX)) hr
  have KL : Hid (∀ X, Below W0.heap.size W0 X → Calls Tryz.prog 79 #[.slice a1 n1 c1] X fun e w' => ∃ a c, e = .returned (.slice a n1 c) ∧ Nm (fun b => b < X.heap.size) w' (.slice a n1 c) d.lo ∧ Below X.heap.size X w') := fun X hX => cloneI_d ((H2.out.kept (Kept.of_below hb0)).kept (Kept.of_below hX)) hlo
  have KU : Hid (∀ X, Below W0.heap.size W0 X → Calls Tryz.prog 79 #[.slice a2 n2 c2] X fun e w' => ∃ a c, e = .returned (.slice a n2 c) ∧ Nm (fun b => b < X.heap.size) w' (.slice a n2 c) d.up ∧ Below X.heap.size X w') := fun X hX => cloneI_d ((H3.out.kept (Kept.of_below hb0)).kept (Kept.of_below hX)) hup
  have HB00 : Hid (Below W.heap.size W W0) := hb0
  have HB0 : Hid (Below W0.heap.size W0 W0.drew) := (Below.refl _ _).drew
  have HW0 : Hid _ := hW0
  have HBW : Hid (W.heap.size = bw) := hbw
  have HBL : Hid (bw < W0.heap.size) := HBX.out.lt
  have HBL2 : Hid (bw + 1 < W0.heap.size) := HRX.out.lt
  clear hW0 hbw hb0 h hr hlo hup H1 H2 H3
  go_enter Tryz.func55, Tryz.ntmps55
  go_upto_region 1 with (fail)
  rw [HW0.out, HBW.out]
  apply wp_ways6 (R := fun pr kr p5 k5 p8 k8 w' => ∃ w3, Below W0.heap.size W0 w3 ∧ Rm (fun b => b < W0.heap.size) w3 (.slice pr n0 kr) d.r ∧ Nm (fun b => b < W0.heap.size) w3 (.slice p5 n1 k5) d.lo ∧ Nm (fun b => b < W0.heap.size) w3 (.slice p8 n2 k8) d.up ∧ w' = (((w3.setCell ⟨bw, 1, none⟩ (.slice pr n0 kr)).setCell ⟨bw, 2, none⟩ (.slice p5 n1 k5)).setCell ⟨bw, 3, none⟩ (.slice p8 n2 k8)))
  case h =>
    refine wp_region_held_drew (S := fun _ : World => True) (by kernel_rfl) (trivial) (fun hHeld => ?_)
    refine tkA 0 q55_1_0 hHeld ?_
    try simp only [q55_1_0, Act.put, zS, z0, z1]
    refine tkA 3 q55_1_3 hHeld ?_
    try simp only [q55_1_3, Act.put, zS, z0, z1]
    refine tkA 6 q55_1_6 hHeld ?_
    try simp only [q55_1_6, Act.put, zS, z0, z1]
    refine wpAnyH_ready (rs := [1, 4, 7]) (by kernel_rfl) (by simp) ?_
    refine AllReadyH.cons rfl (fun K hK => ?_) ?_
    · obtain ⟨y0, y1, y2, y3, y4, y5⟩ := (HBX.out.below HB0.out).six
      go_simp
      clear y0 y1 y2 y3 y4 y5
      refine hK.out _ _ (trivial) (fun hHeld2 => ?_)
      clear hK K hHeld; have hHeld := hHeld2; clear hHeld2
      try simp only [Act.put, zS, z0, z1]
      refine wpAnyH_ready (rs := [2, 4, 7]) (by kernel_rfl) (by simp) ?_
      refine AllReadyH.cons rfl (fun K hK => ?_) ?_
      · go_simp
        refine (KC.out _ HB0.out).mono ?_
        rintro e w1 ⟨pr, kr, rfl, ho, hb⟩
        have HB1 := hid (HB0.out.trans (hb.mono HB0.out.size))
        have HR1 : Hid (Rm (fun b => b < W0.heap.size) w1 (.slice pr n0 kr) d.r) := ho.up (fun b q => .inl (Nat.lt_of_lt_of_le q HB0.out.size))
        clear ho hb
        refine hK.out _ _ (trivial) (fun hHeld2 => ?_)
        clear hK K hHeld; have hHeld := hHeld2; clear hHeld2
        try simp only [Act.put, zS, z0, z1]
        refine wpAnyH_ready (rs := [4, 7]) (by kernel_rfl) (by simp) ?_
        refine AllReadyH.cons rfl (fun K hK => ?_) ?_
        · obtain ⟨y0, y1, y2, y3, y4, y5⟩ := (HBX.out.below HB1.out).six
          go_simp
          clear y0 y1 y2 y3 y4 y5
          refine hK.out _ _ (trivial) (fun hHeld2 => ?_)
          clear hK K hHeld; have hHeld := hHeld2; clear hHeld2
          try simp only [Act.put, zS, z0, z1]
          refine wpAnyH_ready (rs := [5, 7]) (by kernel_rfl) (by simp) ?_
          refine AllReadyH.cons rfl (fun K hK => ?_) ?_
          · go_simp
            refine (KL.out _ HB1.out).mono ?_
            rintro e w2 ⟨p5, k5, rfl, ho, hb⟩
            have HB2 := hid (HB1.out.trans (hb.mono HB1.out.size))
            have HR2 := hid (Rm.kept HR1.out (Kept.of_below hb))
            have HL2 : Hid (Nm (fun b => b < W0.heap.size) w2 (.slice p5 n1 k5) d.lo) := ho.up (fun b q => .inl (Nat.lt_of_lt_of_le q HB1.out.size))
            clear ho hb
            refine hK.out _ _ (trivial) (fun hHeld2 => ?_)
            clear hK K hHeld; have hHeld := hHeld2; clear hHeld2
            try simp only [Act.put, zS, z0, z1]
            refine rdy 7 rfl fun K hK => ?_
            obtain ⟨y0, y1, y2, y3, y4, y5⟩ := (HBX.out.below HB2.out).six
            go_simp
            clear y0 y1 y2 y3 y4 y5
            refine hK.out _ _ (trivial) (fun hHeld2 => ?_)
            clear hK K hHeld; have hHeld := hHeld2; clear hHeld2
            try simp only [Act.put, zS, z0, z1]
            refine tkA 9 q55_1_9 hHeld ?_
            try simp only [q55_1_9, Act.put, zS, z0, z1]
            refine rdy 8 rfl fun K hK => ?_
            go_simp
            refine (KU.out _ HB2.out).mono ?_
            rintro e w3 ⟨p8, k8, rfl, ho, hb⟩
            have HB3 := hid (HB2.out.trans (hb.mono HB2.out.size))
            have HR3 := hid (Rm.kept HR2.out (Kept.of_below hb))
            have HL3 := hid (Nm.kept HL2.out (Kept.of_below hb))
            have HU3 : Hid (Nm (fun b => b < W0.heap.size) w3 (.slice p8 n2 k8) d.up) := ho.up (fun b q => .inl (Nat.lt_of_lt_of_le q HB2.out.size))
            clear ho hb
            refine hK.out _ _ (trivial) (fun hHeld2 => ?_)
            clear hK K hHeld; have hHeld := hHeld2; clear hHeld2
            try simp only [Act.put, zS, z0, z1]
            refine rdy 10 rfl fun K hK => ?_
            have hx1 := (HBX.out.below HB3.out)
            obtain ⟨y0, y1, y2, y3, y4, y5⟩ := hx1.six
            have yf := hx1.fr
            go_simp
            clear y0 y1 y2 y3 y4 y5 yf
            have HX1 : Hid (Bx (w3.setCell ⟨bw, 1, none⟩ (.slice pr n0 kr)) bw #[.bool b, .slice pr n0 kr, .slice a1 n1 c1, .slice a2 n2 c2, .int .i64 x, .int .i64 y] 37) := ⟨heap_setCell_in hx1.h (by simp)⟩
            clear hx1
            refine hK.out _ _ (trivial) (fun hHeld2 => ?_)
            clear hK K hHeld; have hHeld := hHeld2; clear hHeld2
            try simp only [Act.put, zS, z0, z1]
            refine tkA 11 q55_1_11 hHeld ?_
            try simp only [q55_1_11, Act.put, zS, z0, z1]
            refine rdy 12 rfl fun K hK => ?_
            obtain ⟨y0, y1, y2, y3, y4, y5⟩ := HX1.out.six
            have yf := HX1.out.fr
            go_simp
            clear y0 y1 y2 y3 y4 y5 yf
            have HX2 : Hid (Bx ((w3.setCell ⟨bw, 1, none⟩ (.slice pr n0 kr)).setCell ⟨bw, 2, none⟩ (.slice p5 n1 k5)) bw #[.bool b, .slice pr n0 kr, .slice p5 n1 k5, .slice a2 n2 c2, .int .i64 x, .int .i64 y] 37) := ⟨heap_setCell_in HX1.out.h (by simp)⟩
            refine hK.out _ _ (trivial) (fun hHeld2 => ?_)
            clear hK K hHeld; have hHeld := hHeld2; clear hHeld2
            try simp only [Act.put, zS, z0, z1]
            refine tkA 13 q55_1_13 hHeld ?_
            try simp only [q55_1_13, Act.put, zS, z0, z1]
            refine rdy 14 rfl fun K hK => ?_
            obtain ⟨y0, y1, y2, y3, y4, y5⟩ := HX2.out.six
            have yf := HX2.out.fr
            go_simp
            clear y0 y1 y2 y3 y4 y5 yf
            refine hK.out _ _ (trivial) (fun hHeld2 => ?_)
            clear hK K hHeld; have hHeld := hHeld2; clear hHeld2
            try simp only [Act.put, zS, z0, z1]
            refine wpAnyH_done (by kernel_rfl) ?_ _
            exact ⟨pr, kr, p5, k5, p8, k8, rfl, _, HB3.out, HR3.out, HL3.out, HU3.out, rfl⟩
          refine AllReadyH.cons rfl (fun K hK => ?_) ?_
          · obtain ⟨y0, y1, y2, y3, y4, y5⟩ := (HBX.out.below HB1.out).six
            go_simp
            clear y0 y1 y2 y3 y4 y5
            refine hK.out _ _ (trivial) (fun hHeld2 => ?_)
            clear hK K hHeld; have hHeld := hHeld2; clear hHeld2
            try simp only [Act.put, zS, z0, z1]
            refine tkA 9 q55_1_9 hHeld ?_
            try simp only [q55_1_9, Act.put, zS, z0, z1]
            refine rdy 5 rfl fun K hK => ?_
            go_simp
            refine (KL.out _ HB1.out).mono ?_
            rintro e w2 ⟨p5, k5, rfl, ho, hb⟩
            have HB2 := hid (HB1.out.trans (hb.mono HB1.out.size))
            have HR2 := hid (Rm.kept HR1.out (Kept.of_below hb))
            have HL2 : Hid (Nm (fun b => b < W0.heap.size) w2 (.slice p5 n1 k5) d.lo) := ho.up (fun b q => .inl (Nat.lt_of_lt_of_le q HB1.out.size))
            clear ho hb
            refine hK.out _ _ (trivial) (fun hHeld2 => ?_)
            clear hK K hHeld; have hHeld := hHeld2; clear hHeld2
            try simp only [Act.put, zS, z0, z1]
            refine rdy 8 rfl fun K hK => ?_
            go_simp
            refine (KU.out _ HB2.out).mono ?_
            rintro e w3 ⟨p8, k8, rfl, ho, hb⟩
            have HB3 := hid (HB2.out.trans (hb.mono HB2.out.size))
            have HR3 := hid (Rm.kept HR2.out (Kept.of_below hb))
            have HL3 := hid (Nm.kept HL2.out (Kept.of_below hb))
            have HU3 : Hid (Nm (fun b => b < W0.heap.size) w3 (.slice p8 n2 k8) d.up) := ho.up (fun b q => .inl (Nat.lt_of_lt_of_le q HB2.out.size))
            clear ho hb
            refine hK.out _ _ (trivial) (fun hHeld2 => ?_)
            clear hK K hHeld; have hHeld := hHeld2; clear hHeld2
            try simp only [Act.put, zS, z0, z1]
            refine rdy 10 rfl fun K hK => ?_
            have hx1 := (HBX.out.below HB3.out)
            obtain ⟨y0, y1, y2, y3, y4, y5⟩ := hx1.six
            have yf := hx1.fr
            go_simp
            clear y0 y1 y2 y3 y4 y5 yf
            have HX1 : Hid (Bx (w3.setCell ⟨bw, 1, none⟩ (.slice pr n0 kr)) bw #[.bool b, .slice pr n0 kr, .slice a1 n1 c1, .slice a2 n2 c2, .int .i64 x, .int .i64 y] 37) := ⟨heap_setCell_in hx1.h (by simp)⟩
            clear hx1
            refine hK.out _ _ (trivial) (fun hHeld2 => ?_)
            clear hK K hHeld; have hHeld := hHeld2; clear hHeld2
            try simp only [Act.put, zS, z0, z1]
            refine tkA 11 q55_1_11 hHeld ?_
            try simp only [q55_1_11, Act.put, zS, z0, z1]
            refine rdy 12 rfl fun K hK => ?_
            obtain ⟨y0, y1, y2, y3, y4, y5⟩ := HX1.out.six
            have yf := HX1.out.fr
            go_simp
            clear y0 y1 y2 y3 y4 y5 yf
            have HX2 : Hid (Bx ((w3.setCell ⟨bw, 1, none⟩ (.slice pr n0 kr)).setCell ⟨bw, 2, none⟩ (.slice p5 n1 k5)) bw #[.bool b, .slice pr n0 kr, .slice p5 n1 k5, .slice a2 n2 c2, .int .i64 x, .int .i64 y] 37) := ⟨heap_setCell_in HX1.out.h (by simp)⟩
            refine hK.out _ _ (trivial) (fun hHeld2 => ?_)
            clear hK K hHeld; have hHeld := hHeld2; clear hHeld2
            try simp only [Act.put, zS, z0, z1]
            refine tkA 13 q55_1_13 hHeld ?_
            try simp only [q55_1_13, Act.put, zS, z0, z1]
            refine rdy 14 rfl fun K hK => ?_
            obtain ⟨y0, y1, y2, y3, y4, y5⟩ := HX2.out.six
            have yf := HX2.out.fr
            go_simp
            clear y0 y1 y2 y3 y4 y5 yf
            refine hK.out _ _ (trivial) (fun hHeld2 => ?_)
            clear hK K hHeld; have hHeld := hHeld2; clear hHeld2
            try simp only [Act.put, zS, z0, z1]
            refine wpAnyH_done (by kernel_rfl) ?_ _
            exact ⟨pr, kr, p5, k5, p8, k8, rfl, _, HB3.out, HR3.out, HL3.out, HU3.out, rfl⟩
          exact AllReadyH.nil
        refine AllReadyH.cons rfl (fun K hK => ?_) ?_
        · obtain ⟨y0, y1, y2, y3, y4, y5⟩ := (HBX.out.below HB1.out).six
          go_simp
          clear y0 y1 y2 y3 y4 y5
          refine hK.out _ _ (trivial) (fun hHeld2 => ?_)
          clear hK K hHeld; have hHeld := hHeld2; clear hHeld2
          try simp only [Act.put, zS, z0, z1]
          refine rdy 4 rfl fun K hK => ?_
          obtain ⟨y0, y1, y2, y3, y4, y5⟩ := (HBX.out.below HB1.out).six
          go_simp
          clear y0 y1 y2 y3 y4 y5
          refine hK.out _ _ (trivial) (fun hHeld2 => ?_)
          clear hK K hHeld; have hHeld := hHeld2; clear hHeld2
          try simp only [Act.put, zS, z0, z1]
          refine tkA 9 q55_1_9 hHeld ?_
          try simp only [q55_1_9, Act.put, zS, z0, z1]
          refine rdy 5 rfl fun K hK => ?_
          go_simp
          refine (KL.out _ HB1.out).mono ?_
          rintro e w2 ⟨p5, k5, rfl, ho, hb⟩
          have HB2 := hid (HB1.out.trans (hb.mono HB1.out.size))
          have HR2 := hid (Rm.kept HR1.out (Kept.of_below hb))
          have HL2 : Hid (Nm (fun b => b < W0.heap.size) w2 (.slice p5 n1 k5) d.lo) := ho.up (fun b q => .inl (Nat.lt_of_lt_of_le q HB1.out.size))
          clear ho hb
          refine hK.out _ _ (trivial) (fun hHeld2 => ?_)
          clear hK K hHeld; have hHeld := hHeld2; clear hHeld2
          try simp only [Act.put, zS, z0, z1]
          refine rdy 8 rfl fun K hK => ?_
          go_simp
          refine (KU.out _ HB2.out).mono ?_
          rintro e w3 ⟨p8, k8, rfl, ho, hb⟩
          have HB3 := hid (HB2.out.trans (hb.mono HB2.out.size))
          have HR3 := hid (Rm.kept HR2.out (Kept.of_below hb))
          have HL3 := hid (Nm.kept HL2.out (Kept.of_below hb))
          have HU3 : Hid (Nm (fun b => b < W0.heap.size) w3 (.slice p8 n2 k8) d.up) := ho.up (fun b q => .inl (Nat.lt_of_lt_of_le q HB2.out.size))
          clear ho hb
          refine hK.out _ _ (trivial) (fun hHeld2 => ?_)
          clear hK K hHeld; have hHeld := hHeld2; clear hHeld2
          try simp only [Act.put, zS, z0, z1]
          refine rdy 10 rfl fun K hK => ?_
          have hx1 := (HBX.out.below HB3.out)
          obtain ⟨y0, y1, y2, y3, y4, y5⟩ := hx1.six
          have yf := hx1.fr
          go_simp
          clear y0 y1 y2 y3 y4 y5 yf
          have HX1 : Hid (Bx (w3.setCell ⟨bw, 1, none⟩ (.slice pr n0 kr)) bw #[.bool b, .slice pr n0 kr, .slice a1 n1 c1, .slice a2 n2 c2, .int .i64 x, .int .i64 y] 37) := ⟨heap_setCell_in hx1.h (by simp)⟩
          clear hx1
          refine hK.out _ _ (trivial) (fun hHeld2 => ?_)
          clear hK K hHeld; have hHeld := hHeld2; clear hHeld2
          try simp only [Act.put, zS, z0, z1]
          refine tkA 11 q55_1_11 hHeld ?_
          try simp only [q55_1_11, Act.put, zS, z0, z1]
          refine rdy 12 rfl fun K hK => ?_
          obtain ⟨y0, y1, y2, y3, y4, y5⟩ := HX1.out.six
          have yf := HX1.out.fr
          go_simp
          clear y0 y1 y2 y3 y4 y5 yf
          have HX2 : Hid (Bx ((w3.setCell ⟨bw, 1, none⟩ (.slice pr n0 kr)).setCell ⟨bw, 2, none⟩ (.slice p5 n1 k5)) bw #[.bool b, .slice pr n0 kr, .slice p5 n1 k5, .slice a2 n2 c2, .int .i64 x, .int .i64 y] 37) := ⟨heap_setCell_in HX1.out.h (by simp)⟩
          refine hK.out _ _ (trivial) (fun hHeld2 => ?_)
          clear hK K hHeld; have hHeld := hHeld2; clear hHeld2
          try simp only [Act.put, zS, z0, z1]
          refine tkA 13 q55_1_13 hHeld ?_
          try simp only [q55_1_13, Act.put, zS, z0, z1]
          refine rdy 14 rfl fun K hK => ?_
          obtain ⟨y0, y1, y2, y3, y4, y5⟩ := HX2.out.six
          have yf := HX2.out.fr
          go_simp
          clear y0 y1 y2 y3 y4 y5 yf
          refine hK.out _ _ (trivial) (fun hHeld2 => ?_)
          clear hK K hHeld; have hHeld := hHeld2; clear hHeld2
          try simp only [Act.put, zS, z0, z1]
          refine wpAnyH_done (by kernel_rfl) ?_ _
          exact ⟨pr, kr, p5, k5, p8, k8, rfl, _, HB3.out, HR3.out, HL3.out, HU3.out, rfl⟩
        exact AllReadyH.nil
      refine AllReadyH.cons rfl (fun K hK => ?_) ?_
      · obtain ⟨y0, y1, y2, y3, y4, y5⟩ := (HBX.out.below HB0.out).six
        go_simp
        clear y0 y1 y2 y3 y4 y5
        refine hK.out _ _ (trivial) (fun hHeld2 => ?_)
        clear hK K hHeld; have hHeld := hHeld2; clear hHeld2
        try simp only [Act.put, zS, z0, z1]
        refine wpAnyH_ready (rs := [2, 7]) (by kernel_rfl) (by simp) ?_
        refine AllReadyH.cons rfl (fun K hK => ?_) ?_
        · go_simp
          refine (KC.out _ HB0.out).mono ?_
          rintro e w1 ⟨pr, kr, rfl, ho, hb⟩
          have HB1 := hid (HB0.out.trans (hb.mono HB0.out.size))
          have HR1 : Hid (Rm (fun b => b < W0.heap.size) w1 (.slice pr n0 kr) d.r) := ho.up (fun b q => .inl (Nat.lt_of_lt_of_le q HB0.out.size))
          clear ho hb
          refine hK.out _ _ (trivial) (fun hHeld2 => ?_)
          clear hK K hHeld; have hHeld := hHeld2; clear hHeld2
          try simp only [Act.put, zS, z0, z1]
          refine wpAnyH_ready (rs := [5, 7]) (by kernel_rfl) (by simp) ?_
          refine AllReadyH.cons rfl (fun K hK => ?_) ?_
          · go_simp
            refine (KL.out _ HB1.out).mono ?_
            rintro e w2 ⟨p5, k5, rfl, ho, hb⟩
            have HB2 := hid (HB1.out.trans (hb.mono HB1.out.size))
            have HR2 := hid (Rm.kept HR1.out (Kept.of_below hb))
            have HL2 : Hid (Nm (fun b => b < W0.heap.size) w2 (.slice p5 n1 k5) d.lo) := ho.up (fun b q => .inl (Nat.lt_of_lt_of_le q HB1.out.size))
            clear ho hb
            refine hK.out _ _ (trivial) (fun hHeld2 => ?_)
            clear hK K hHeld; have hHeld := hHeld2; clear hHeld2
            try simp only [Act.put, zS, z0, z1]
            refine rdy 7 rfl fun K hK => ?_
            obtain ⟨y0, y1, y2, y3, y4, y5⟩ := (HBX.out.below HB2.out).six
            go_simp
            clear y0 y1 y2 y3 y4 y5
            refine hK.out _ _ (trivial) (fun hHeld2 => ?_)
            clear hK K hHeld; have hHeld := hHeld2; clear hHeld2
            try simp only [Act.put, zS, z0, z1]
            refine tkA 9 q55_1_9 hHeld ?_
            try simp only [q55_1_9, Act.put, zS, z0, z1]
            refine rdy 8 rfl fun K hK => ?_
            go_simp
            refine (KU.out _ HB2.out).mono ?_
            rintro e w3 ⟨p8, k8, rfl, ho, hb⟩
            have HB3 := hid (HB2.out.trans (hb.mono HB2.out.size))
            have HR3 := hid (Rm.kept HR2.out (Kept.of_below hb))
            have HL3 := hid (Nm.kept HL2.out (Kept.of_below hb))
            have HU3 : Hid (Nm (fun b => b < W0.heap.size) w3 (.slice p8 n2 k8) d.up) := ho.up (fun b q => .inl (Nat.lt_of_lt_of_le q HB2.out.size))
            clear ho hb
            refine hK.out _ _ (trivial) (fun hHeld2 => ?_)
            clear hK K hHeld; have hHeld := hHeld2; clear hHeld2
            try simp only [Act.put, zS, z0, z1]
            refine rdy 10 rfl fun K hK => ?_
            have hx1 := (HBX.out.below HB3.out)
            obtain ⟨y0, y1, y2, y3, y4, y5⟩ := hx1.six
            have yf := hx1.fr
            go_simp
            clear y0 y1 y2 y3 y4 y5 yf
            have HX1 : Hid (Bx (w3.setCell ⟨bw, 1, none⟩ (.slice pr n0 kr)) bw #[.bool b, .slice pr n0 kr, .slice a1 n1 c1, .slice a2 n2 c2, .int .i64 x, .int .i64 y] 37) := ⟨heap_setCell_in hx1.h (by simp)⟩
            clear hx1
            refine hK.out _ _ (trivial) (fun hHeld2 => ?_)
            clear hK K hHeld; have hHeld := hHeld2; clear hHeld2
            try simp only [Act.put, zS, z0, z1]
            refine tkA 11 q55_1_11 hHeld ?_
            try simp only [q55_1_11, Act.put, zS, z0, z1]
            refine rdy 12 rfl fun K hK => ?_
            obtain ⟨y0, y1, y2, y3, y4, y5⟩ := HX1.out.six
            have yf := HX1.out.fr
            go_simp
            clear y0 y1 y2 y3 y4 y5 yf
            have HX2 : Hid (Bx ((w3.setCell ⟨bw, 1, none⟩ (.slice pr n0 kr)).setCell ⟨bw, 2, none⟩ (.slice p5 n1 k5)) bw #[.bool b, .slice pr n0 kr, .slice p5 n1 k5, .slice a2 n2 c2, .int .i64 x, .int .i64 y] 37) := ⟨heap_setCell_in HX1.out.h (by simp)⟩
            refine hK.out _ _ (trivial) (fun hHeld2 => ?_)
            clear hK K hHeld; have hHeld := hHeld2; clear hHeld2
            try simp only [Act.put, zS, z0, z1]
            refine tkA 13 q55_1_13 hHeld ?_
            try simp only [q55_1_13, Act.put, zS, z0, z1]
            refine rdy 14 rfl fun K hK => ?_
            obtain ⟨y0, y1, y2, y3, y4, y5⟩ := HX2.out.six
            have yf := HX2.out.fr
            go_simp
            clear y0 y1 y2 y3 y4 y5 yf
            refine hK.out _ _ (trivial) (fun hHeld2 => ?_)
            clear hK K hHeld; have hHeld := hHeld2; clear hHeld2
            try simp only [Act.put, zS, z0, z1]
            refine wpAnyH_done (by kernel_rfl) ?_ _
            exact ⟨pr, kr, p5, k5, p8, k8, rfl, _, HB3.out, HR3.out, HL3.out, HU3.out, rfl⟩
          refine AllReadyH.cons rfl (fun K hK => ?_) ?_
          · obtain ⟨y0, y1, y2, y3, y4, y5⟩ := (HBX.out.below HB1.out).six
            go_simp
            clear y0 y1 y2 y3 y4 y5
            refine hK.out _ _ (trivial) (fun hHeld2 => ?_)
            clear hK K hHeld; have hHeld := hHeld2; clear hHeld2
            try simp only [Act.put, zS, z0, z1]
            refine tkA 9 q55_1_9 hHeld ?_
            try simp only [q55_1_9, Act.put, zS, z0, z1]
            refine rdy 5 rfl fun K hK => ?_
            go_simp
            refine (KL.out _ HB1.out).mono ?_
            rintro e w2 ⟨p5, k5, rfl, ho, hb⟩
            have HB2 := hid (HB1.out.trans (hb.mono HB1.out.size))
            have HR2 := hid (Rm.kept HR1.out (Kept.of_below hb))
            have HL2 : Hid (Nm (fun b => b < W0.heap.size) w2 (.slice p5 n1 k5) d.lo) := ho.up (fun b q => .inl (Nat.lt_of_lt_of_le q HB1.out.size))
            clear ho hb
            refine hK.out _ _ (trivial) (fun hHeld2 => ?_)
            clear hK K hHeld; have hHeld := hHeld2; clear hHeld2
            try simp only [Act.put, zS, z0, z1]
            refine rdy 8 rfl fun K hK => ?_
            go_simp
            refine (KU.out _ HB2.out).mono ?_
            rintro e w3 ⟨p8, k8, rfl, ho, hb⟩
            have HB3 := hid (HB2.out.trans (hb.mono HB2.out.size))
            have HR3 := hid (Rm.kept HR2.out (Kept.of_below hb))
            have HL3 := hid (Nm.kept HL2.out (Kept.of_below hb))
            have HU3 : Hid (Nm (fun b => b < W0.heap.size) w3 (.slice p8 n2 k8) d.up) := ho.up (fun b q => .inl (Nat.lt_of_lt_of_le q HB2.out.size))
            clear ho hb
            refine hK.out _ _ (trivial) (fun hHeld2 => ?_)
            clear hK K hHeld; have hHeld := hHeld2; clear hHeld2
            try simp only [Act.put, zS, z0, z1]
            refine rdy 10 rfl fun K hK => ?_
            have hx1 := (HBX.out.below HB3.out)
            obtain ⟨y0, y1, y2, y3, y4, y5⟩ := hx1.six
            have yf := hx1.fr
            go_simp
            clear y0 y1 y2 y3 y4 y5 yf
            have HX1 : Hid (Bx (w3.setCell ⟨bw, 1, none⟩ (.slice pr n0 kr)) bw #[.bool b, .slice pr n0 kr, .slice a1 n1 c1, .slice a2 n2 c2, .int .i64 x, .int .i64 y] 37) := ⟨heap_setCell_in hx1.h (by simp)⟩
            clear hx1
            refine hK.out _ _ (trivial) (fun hHeld2 => ?_)
            clear hK K hHeld; have hHeld := hHeld2; clear hHeld2
            try simp only [Act.put, zS, z0, z1]
            refine tkA 11 q55_1_11 hHeld ?_
            try simp only [q55_1_11, Act.put, zS, z0, z1]
            refine rdy 12 rfl fun K hK => ?_
            obtain ⟨y0, y1, y2, y3, y4, y5⟩ := HX1.out.six
            have yf := HX1.out.fr
            go_simp
            clear y0 y1 y2 y3 y4 y5 yf
            have HX2 : Hid (Bx ((w3.setCell ⟨bw, 1, none⟩ (.slice pr n0 kr)).setCell ⟨bw, 2, none⟩ (.slice p5 n1 k5)) bw #[.bool b, .slice pr n0 kr, .slice p5 n1 k5, .slice a2 n2 c2, .int .i64 x, .int .i64 y] 37) := ⟨heap_setCell_in HX1.out.h (by simp)⟩
            refine hK.out _ _ (trivial) (fun hHeld2 => ?_)
            clear hK K hHeld; have hHeld := hHeld2; clear hHeld2
            try simp only [Act.put, zS, z0, z1]
            refine tkA 13 q55_1_13 hHeld ?_
            try simp only [q55_1_13, Act.put, zS, z0, z1]
            refine rdy 14 rfl fun K hK => ?_
            obtain ⟨y0, y1, y2, y3, y4, y5⟩ := HX2.out.six
            have yf := HX2.out.fr
            go_simp
            clear y0 y1 y2 y3 y4 y5 yf
            refine hK.out _ _ (trivial) (fun hHeld2 => ?_)
            clear hK K hHeld; have hHeld := hHeld2; clear hHeld2
            try simp only [Act.put, zS, z0, z1]
            refine wpAnyH_done (by kernel_rfl) ?_ _
            exact ⟨pr, kr, p5, k5, p8, k8, rfl, _, HB3.out, HR3.out, HL3.out, HU3.out, rfl⟩
          exact AllReadyH.nil
        refine AllReadyH.cons rfl (fun K hK => ?_) ?_
        · obtain ⟨y0, y1, y2, y3, y4, y5⟩ := (HBX.out.below HB0.out).six
          go_simp
          clear y0 y1 y2 y3 y4 y5
          refine hK.out _ _ (trivial) (fun hHeld2 => ?_)
          clear hK K hHeld; have hHeld := hHeld2; clear hHeld2
          try simp only [Act.put, zS, z0, z1]
          refine rdy 2 rfl fun K hK => ?_
          go_simp
          refine (KC.out _ HB0.out).mono ?_
          rintro e w1 ⟨pr, kr, rfl, ho, hb⟩
          have HB1 := hid (HB0.out.trans (hb.mono HB0.out.size))
          have HR1 : Hid (Rm (fun b => b < W0.heap.size) w1 (.slice pr n0 kr) d.r) := ho.up (fun b q => .inl (Nat.lt_of_lt_of_le q HB0.out.size))
          clear ho hb
          refine hK.out _ _ (trivial) (fun hHeld2 => ?_)
          clear hK K hHeld; have hHeld := hHeld2; clear hHeld2
          try simp only [Act.put, zS, z0, z1]
          refine tkA 9 q55_1_9 hHeld ?_
          try simp only [q55_1_9, Act.put, zS, z0, z1]
          refine rdy 5 rfl fun K hK => ?_
          go_simp
          refine (KL.out _ HB1.out).mono ?_
          rintro e w2 ⟨p5, k5, rfl, ho, hb⟩
          have HB2 := hid (HB1.out.trans (hb.mono HB1.out.size))
          have HR2 := hid (Rm.kept HR1.out (Kept.of_below hb))
          have HL2 : Hid (Nm (fun b => b < W0.heap.size) w2 (.slice p5 n1 k5) d.lo) := ho.up (fun b q => .inl (Nat.lt_of_lt_of_le q HB1.out.size))
          clear ho hb
          refine hK.out _ _ (trivial) (fun hHeld2 => ?_)
          clear hK K hHeld; have hHeld := hHeld2; clear hHeld2
          try simp only [Act.put, zS, z0, z1]
          refine rdy 8 rfl fun K hK => ?_
          go_simp
          refine (KU.out _ HB2.out).mono ?_
          rintro e w3 ⟨p8, k8, rfl, ho, hb⟩
          have HB3 := hid (HB2.out.trans (hb.mono HB2.out.size))
          have HR3 := hid (Rm.kept HR2.out (Kept.of_below hb))
          have HL3 := hid (Nm.kept HL2.out (Kept.of_below hb))
          have HU3 : Hid (Nm (fun b => b < W0.heap.size) w3 (.slice p8 n2 k8) d.up) := ho.up (fun b q => .inl (Nat.lt_of_lt_of_le q HB2.out.size))
          clear ho hb
          refine hK.out _ _ (trivial) (fun hHeld2 => ?_)
          clear hK K hHeld; have hHeld := hHeld2; clear hHeld2
          try simp only [Act.put, zS, z0, z1]
          refine rdy 10 rfl fun K hK => ?_
          have hx1 := (HBX.out.below HB3.out)
          obtain ⟨y0, y1, y2, y3, y4, y5⟩ := hx1.six
          have yf := hx1.fr
          go_simp
          clear y0 y1 y2 y3 y4 y5 yf
          have HX1 : Hid (Bx (w3.setCell ⟨bw, 1, none⟩ (.slice pr n0 kr)) bw #[.bool b, .slice pr n0 kr, .slice a1 n1 c1, .slice a2 n2 c2, .int .i64 x, .int .i64 y] 37) := ⟨heap_setCell_in hx1.h (by simp)⟩
          clear hx1
          refine hK.out _ _ (trivial) (fun hHeld2 => ?_)
          clear hK K hHeld; have hHeld := hHeld2; clear hHeld2
          try simp only [Act.put, zS, z0, z1]
          refine tkA 11 q55_1_11 hHeld ?_
          try simp only [q55_1_11, Act.put, zS, z0, z1]
          refine rdy 12 rfl fun K hK => ?_
          obtain ⟨y0, y1, y2, y3, y4, y5⟩ := HX1.out.six
          have yf := HX1.out.fr
          go_simp
          clear y0 y1 y2 y3 y4 y5 yf
          have HX2 : Hid (Bx ((w3.setCell ⟨bw, 1, none⟩ (.slice pr n0 kr)).setCell ⟨bw, 2, none⟩ (.slice p5 n1 k5)) bw #[.bool b, .slice pr n0 kr, .slice p5 n1 k5, .slice a2 n2 c2, .int .i64 x, .int .i64 y] 37) := ⟨heap_setCell_in HX1.out.h (by simp)⟩
          refine hK.out _ _ (trivial) (fun hHeld2 => ?_)
          clear hK K hHeld; have hHeld := hHeld2; clear hHeld2
          try simp only [Act.put, zS, z0, z1]
          refine tkA 13 q55_1_13 hHeld ?_
          try simp only [q55_1_13, Act.put, zS, z0, z1]
          refine rdy 14 rfl fun K hK => ?_
          obtain ⟨y0, y1, y2, y3, y4, y5⟩ := HX2.out.six
          have yf := HX2.out.fr
          go_simp
          clear y0 y1 y2 y3 y4 y5 yf
          refine hK.out _ _ (trivial) (fun hHeld2 => ?_)
          clear hK K hHeld; have hHeld := hHeld2; clear hHeld2
          try simp only [Act.put, zS, z0, z1]
          refine wpAnyH_done (by kernel_rfl) ?_ _
          exact ⟨pr, kr, p5, k5, p8, k8, rfl, _, HB3.out, HR3.out, HL3.out, HU3.out, rfl⟩
        exact AllReadyH.nil
      refine AllReadyH.cons rfl (fun K hK => ?_) ?_
      · obtain ⟨y0, y1, y2, y3, y4, y5⟩ := (HBX.out.below HB0.out).six
        go_simp
        clear y0 y1 y2 y3 y4 y5
        refine hK.out _ _ (trivial) (fun hHeld2 => ?_)
        clear hK K hHeld; have hHeld := hHeld2; clear hHeld2
        try simp only [Act.put, zS, z0, z1]
        refine wpAnyH_ready (rs := [2, 4]) (by kernel_rfl) (by simp) ?_
        refine AllReadyH.cons rfl (fun K hK => ?_) ?_
        · go_simp
          refine (KC.out _ HB0.out).mono ?_
          rintro e w1 ⟨pr, kr, rfl, ho, hb⟩
          have HB1 := hid (HB0.out.trans (hb.mono HB0.out.size))
          have HR1 : Hid (Rm (fun b => b < W0.heap.size) w1 (.slice pr n0 kr) d.r) := ho.up (fun b q => .inl (Nat.lt_of_lt_of_le q HB0.out.size))
          clear ho hb
          refine hK.out _ _ (trivial) (fun hHeld2 => ?_)
          clear hK K hHeld; have hHeld := hHeld2; clear hHeld2
          try simp only [Act.put, zS, z0, z1]
          refine rdy 4 rfl fun K hK => ?_
          obtain ⟨y0, y1, y2, y3, y4, y5⟩ := (HBX.out.below HB1.out).six
          go_simp
          clear y0 y1 y2 y3 y4 y5
          refine hK.out _ _ (trivial) (fun hHeld2 => ?_)
          clear hK K hHeld; have hHeld := hHeld2; clear hHeld2
          try simp only [Act.put, zS, z0, z1]
          refine tkA 9 q55_1_9 hHeld ?_
          try simp only [q55_1_9, Act.put, zS, z0, z1]
          refine rdy 5 rfl fun K hK => ?_
          go_simp
          refine (KL.out _ HB1.out).mono ?_
          rintro e w2 ⟨p5, k5, rfl, ho, hb⟩
          have HB2 := hid (HB1.out.trans (hb.mono HB1.out.size))
          have HR2 := hid (Rm.kept HR1.out (Kept.of_below hb))
          have HL2 : Hid (Nm (fun b => b < W0.heap.size) w2 (.slice p5 n1 k5) d.lo) := ho.up (fun b q => .inl (Nat.lt_of_lt_of_le q HB1.out.size))
          clear ho hb
          refine hK.out _ _ (trivial) (fun hHeld2 => ?_)
          clear hK K hHeld; have hHeld := hHeld2; clear hHeld2
          try simp only [Act.put, zS, z0, z1]
          refine rdy 8 rfl fun K hK => ?_
          go_simp
          refine (KU.out _ HB2.out).mono ?_
          rintro e w3 ⟨p8, k8, rfl, ho, hb⟩
          have HB3 := hid (HB2.out.trans (hb.mono HB2.out.size))
          have HR3 := hid (Rm.kept HR2.out (Kept.of_below hb))
          have HL3 := hid (Nm.kept HL2.out (Kept.of_below hb))
          have HU3 : Hid (Nm (fun b => b < W0.heap.size) w3 (.slice p8 n2 k8) d.up) := ho.up (fun b q => .inl (Nat.lt_of_lt_of_le q HB2.out.size))
          clear ho hb
          refine hK.out _ _ (trivial) (fun hHeld2 => ?_)
          clear hK K hHeld; have hHeld := hHeld2; clear hHeld2
          try simp only [Act.put, zS, z0, z1]
          refine rdy 10 rfl fun K hK => ?_
          have hx1 := (HBX.out.below HB3.out)
          obtain ⟨y0, y1, y2, y3, y4, y5⟩ := hx1.six
          have yf := hx1.fr
          go_simp
          clear y0 y1 y2 y3 y4 y5 yf
          have HX1 : Hid (Bx (w3.setCell ⟨bw, 1, none⟩ (.slice pr n0 kr)) bw #[.bool b, .slice pr n0 kr, .slice a1 n1 c1, .slice a2 n2 c2, .int .i64 x, .int .i64 y] 37) := ⟨heap_setCell_in hx1.h (by simp)⟩
          clear hx1
          refine hK.out _ _ (trivial) (fun hHeld2 => ?_)
          clear hK K hHeld; have hHeld := hHeld2; clear hHeld2
          try simp only [Act.put, zS, z0, z1]
          refine tkA 11 q55_1_11 hHeld ?_
          try simp only [q55_1_11, Act.put, zS, z0, z1]
          refine rdy 12 rfl fun K hK => ?_
          obtain ⟨y0, y1, y2, y3, y4, y5⟩ := HX1.out.six
          have yf := HX1.out.fr
          go_simp
          clear y0 y1 y2 y3 y4 y5 yf
          have HX2 : Hid (Bx ((w3.setCell ⟨bw, 1, none⟩ (.slice pr n0 kr)).setCell ⟨bw, 2, none⟩ (.slice p5 n1 k5)) bw #[.bool b, .slice pr n0 kr, .slice p5 n1 k5, .slice a2 n2 c2, .int .i64 x, .int .i64 y] 37) := ⟨heap_setCell_in HX1.out.h (by simp)⟩
          refine hK.out _ _ (trivial) (fun hHeld2 => ?_)
          clear hK K hHeld; have hHeld := hHeld2; clear hHeld2
          try simp only [Act.put, zS, z0, z1]
          refine tkA 13 q55_1_13 hHeld ?_
          try simp only [q55_1_13, Act.put, zS, z0, z1]
          refine rdy 14 rfl fun K hK => ?_
          obtain ⟨y0, y1, y2, y3, y4, y5⟩ := HX2.out.six
          have yf := HX2.out.fr
          go_simp
          clear y0 y1 y2 y3 y4 y5 yf
          refine hK.out _ _ (trivial) (fun hHeld2 => ?_)
          clear hK K hHeld; have hHeld := hHeld2; clear hHeld2
          try simp only [Act.put, zS, z0, z1]
          refine wpAnyH_done (by kernel_rfl) ?_ _
          exact ⟨pr, kr, p5, k5, p8, k8, rfl, _, HB3.out, HR3.out, HL3.out, HU3.out, rfl⟩
        refine AllReadyH.cons rfl (fun K hK => ?_) ?_
        · obtain ⟨y0, y1, y2, y3, y4, y5⟩ := (HBX.out.below HB0.out).six
          go_simp
          clear y0 y1 y2 y3 y4 y5
          refine hK.out _ _ (trivial) (fun hHeld2 => ?_)
          clear hK K hHeld; have hHeld := hHeld2; clear hHeld2
          try simp only [Act.put, zS, z0, z1]
          refine rdy 2 rfl fun K hK => ?_
          go_simp
          refine (KC.out _ HB0.out).mono ?_
          rintro e w1 ⟨pr, kr, rfl, ho, hb⟩
          have HB1 := hid (HB0.out.trans (hb.mono HB0.out.size))
          have HR1 : Hid (Rm (fun b => b < W0.heap.size) w1 (.slice pr n0 kr) d.r) := ho.up (fun b q => .inl (Nat.lt_of_lt_of_le q HB0.out.size))
          clear ho hb
          refine hK.out _ _ (trivial) (fun hHeld2 => ?_)
          clear hK K hHeld; have hHeld := hHeld2; clear hHeld2
          try simp only [Act.put, zS, z0, z1]
          refine tkA 9 q55_1_9 hHeld ?_
          try simp only [q55_1_9, Act.put, zS, z0, z1]
          refine rdy 5 rfl fun K hK => ?_
          go_simp
          refine (KL.out _ HB1.out).mono ?_
          rintro e w2 ⟨p5, k5, rfl, ho, hb⟩
          have HB2 := hid (HB1.out.trans (hb.mono HB1.out.size))
          have HR2 := hid (Rm.kept HR1.out (Kept.of_below hb))
          have HL2 : Hid (Nm (fun b => b < W0.heap.size) w2 (.slice p5 n1 k5) d.lo) := ho.up (fun b q => .inl (Nat.lt_of_lt_of_le q HB1.out.size))
          clear ho hb
          refine hK.out _ _ (trivial) (fun hHeld2 => ?_)
          clear hK K hHeld; have hHeld := hHeld2; clear hHeld2
          try simp only [Act.put, zS, z0, z1]
          refine rdy 8 rfl fun K hK => ?_
          go_simp
          refine (KU.out _ HB2.out).mono ?_
          rintro e w3 ⟨p8, k8, rfl, ho, hb⟩
          have HB3 := hid (HB2.out.trans (hb.mono HB2.out.size))
          have HR3 := hid (Rm.kept HR2.out (Kept.of_below hb))
          have HL3 := hid (Nm.kept HL2.out (Kept.of_below hb))
          have HU3 : Hid (Nm (fun b => b < W0.heap.size) w3 (.slice p8 n2 k8) d.up) := ho.up (fun b q => .inl (Nat.lt_of_lt_of_le q HB2.out.size))
          clear ho hb
          refine hK.out _ _ (trivial) (fun hHeld2 => ?_)
          clear hK K hHeld; have hHeld := hHeld2; clear hHeld2
          try simp only [Act.put, zS, z0, z1]
          refine rdy 10 rfl fun K hK => ?_
          have hx1 := (HBX.out.below HB3.out)
          obtain ⟨y0, y1, y2, y3, y4, y5⟩ := hx1.six
          have yf := hx1.fr
          go_simp
          clear y0 y1 y2 y3 y4 y5 yf
          have HX1 : Hid (Bx (w3.setCell ⟨bw, 1, none⟩ (.slice pr n0 kr)) bw #[.bool b, .slice pr n0 kr, .slice a1 n1 c1, .slice a2 n2 c2, .int .i64 x, .int .i64 y] 37) := ⟨heap_setCell_in hx1.h (by simp)⟩
          clear hx1
          refine hK.out _ _ (trivial) (fun hHeld2 => ?_)
          clear hK K hHeld; have hHeld := hHeld2; clear hHeld2
          try simp only [Act.put, zS, z0, z1]
          refine tkA 11 q55_1_11 hHeld ?_
          try simp only [q55_1_11, Act.put, zS, z0, z1]
          refine rdy 12 rfl fun K hK => ?_
          obtain ⟨y0, y1, y2, y3, y4, y5⟩ := HX1.out.six
          have yf := HX1.out.fr
          go_simp
          clear y0 y1 y2 y3 y4 y5 yf
          have HX2 : Hid (Bx ((w3.setCell ⟨bw, 1, none⟩ (.slice pr n0 kr)).setCell ⟨bw, 2, none⟩ (.slice p5 n1 k5)) bw #[.bool b, .slice pr n0 kr, .slice p5 n1 k5, .slice a2 n2 c2, .int .i64 x, .int .i64 y] 37) := ⟨heap_setCell_in HX1.out.h (by simp)⟩
          refine hK.out _ _ (trivial) (fun hHeld2 => ?_)
          clear hK K hHeld; have hHeld := hHeld2; clear hHeld2
          try simp only [Act.put, zS, z0, z1]
          refine tkA 13 q55_1_13 hHeld ?_
          try simp only [q55_1_13, Act.put, zS, z0, z1]
          refine rdy 14 rfl fun K hK => ?_
          obtain ⟨y0, y1, y2, y3, y4, y5⟩ := HX2.out.six
          have yf := HX2.out.fr
          go_simp
          clear y0 y1 y2 y3 y4 y5 yf
          refine hK.out _ _ (trivial) (fun hHeld2 => ?_)
          clear hK K hHeld; have hHeld := hHeld2; clear hHeld2
          try simp only [Act.put, zS, z0, z1]
          refine wpAnyH_done (by kernel_rfl) ?_ _
          exact ⟨pr, kr, p5, k5, p8, k8, rfl, _, HB3.out, HR3.out, HL3.out, HU3.out, rfl⟩
        exact AllReadyH.nil
      exact AllReadyH.nil
    refine AllReadyH.cons rfl (fun K hK => ?_) ?_
    · obtain ⟨y0, y1, y2, y3, y4, y5⟩ := (HBX.out.below HB0.out).six
      go_simp
      clear y0 y1 y2 y3 y4 y5
      refine hK.out _ _ (trivial) (fun hHeld2 => ?_)
      clear hK K hHeld; have hHeld := hHeld2; clear hHeld2
      try simp only [Act.put, zS, z0, z1]
      refine wpAnyH_ready (rs := [1, 7]) (by kernel_rfl) (by simp) ?_
      refine AllReadyH.cons rfl (fun K hK => ?_) ?_
      · obtain ⟨y0, y1, y2, y3, y4, y5⟩ := (HBX.out.below HB0.out).six
        go_simp
        clear y0 y1 y2 y3 y4 y5
        refine hK.out _ _ (trivial) (fun hHeld2 => ?_)
        clear hK K hHeld; have hHeld := hHeld2; clear hHeld2
        try simp only [Act.put, zS, z0, z1]
        refine wpAnyH_ready (rs := [2, 7]) (by kernel_rfl) (by simp) ?_
        refine AllReadyH.cons rfl (fun K hK => ?_) ?_
        · go_simp
          refine (KC.out _ HB0.out).mono ?_
          rintro e w1 ⟨pr, kr, rfl, ho, hb⟩
          have HB1 := hid (HB0.out.trans (hb.mono HB0.out.size))
          have HR1 : Hid (Rm (fun b => b < W0.heap.size) w1 (.slice pr n0 kr) d.r) := ho.up (fun b q => .inl (Nat.lt_of_lt_of_le q HB0.out.size))
          clear ho hb
          refine hK.out _ _ (trivial) (fun hHeld2 => ?_)
          clear hK K hHeld; have hHeld := hHeld2; clear hHeld2
          try simp only [Act.put, zS, z0, z1]
          refine wpAnyH_ready (rs := [5, 7]) (by kernel_rfl) (by simp) ?_
          refine AllReadyH.cons rfl (fun K hK => ?_) ?_
          · go_simp
            refine (KL.out _ HB1.out).mono ?_
            rintro e w2 ⟨p5, k5, rfl, ho, hb⟩
            have HB2 := hid (HB1.out.trans (hb.mono HB1.out.size))
            have HR2 := hid (Rm.kept HR1.out (Kept.of_below hb))
            have HL2 : Hid (Nm (fun b => b < W0.heap.size) w2 (.slice p5 n1 k5) d.lo) := ho.up (fun b q => .inl (Nat.lt_of_lt_of_le q HB1.out.size))
            clear ho hb
            refine hK.out _ _ (trivial) (fun hHeld2 => ?_)
            clear hK K hHeld; have hHeld := hHeld2; clear hHeld2
            try simp only [Act.put, zS, z0, z1]
            refine rdy 7 rfl fun K hK => ?_
            obtain ⟨y0, y1, y2, y3, y4, y5⟩ := (HBX.out.below HB2.out).six
            go_simp
            clear y0 y1 y2 y3 y4 y5
            refine hK.out _ _ (trivial) (fun hHeld2 => ?_)
            clear hK K hHeld; have hHeld := hHeld2; clear hHeld2
            try simp only [Act.put, zS, z0, z1]
            refine tkA 9 q55_1_9 hHeld ?_
            try simp only [q55_1_9, Act.put, zS, z0, z1]
            refine rdy 8 rfl fun K hK => ?_
            go_simp
            refine (KU.out _ HB2.out).mono ?_
            rintro e w3 ⟨p8, k8, rfl, ho, hb⟩
            have HB3 := hid (HB2.out.trans (hb.mono HB2.out.size))
            have HR3 := hid (Rm.kept HR2.out (Kept.of_below hb))
            have HL3 := hid (Nm.kept HL2.out (Kept.of_below hb))
            have HU3 : Hid (Nm (fun b => b < W0.heap.size) w3 (.slice p8 n2 k8) d.up) := ho.up (fun b q => .inl (Nat.lt_of_lt_of_le q HB2.out.size))
            clear ho hb
            refine hK.out _ _ (trivial) (fun hHeld2 => ?_)
            clear hK K hHeld; have hHeld := hHeld2; clear hHeld2
            try simp only [Act.put, zS, z0, z1]
            refine rdy 10 rfl fun K hK => ?_
            have hx1 := (HBX.out.below HB3.out)
            obtain ⟨y0, y1, y2, y3, y4, y5⟩ := hx1.six
            have yf := hx1.fr
            go_simp
            clear y0 y1 y2 y3 y4 y5 yf
            have HX1 : Hid (Bx (w3.setCell ⟨bw, 1, none⟩ (.slice pr n0 kr)) bw #[.bool b, .slice pr n0 kr, .slice a1 n1 c1, .slice a2 n2 c2, .int .i64 x, .int .i64 y] 37) := ⟨heap_setCell_in hx1.h (by simp)⟩
            clear hx1
            refine hK.out _ _ (trivial) (fun hHeld2 => ?_)
            clear hK K hHeld; have hHeld := hHeld2; clear hHeld2
            try simp only [Act.put, zS, z0, z1]
            refine tkA 11 q55_1_11 hHeld ?_
            try simp only [q55_1_11, Act.put, zS, z0, z1]
            refine rdy 12 rfl fun K hK => ?_
            obtain ⟨y0, y1, y2, y3, y4, y5⟩ := HX1.out.six
            have yf := HX1.out.fr
            go_simp
            clear y0 y1 y2 y3 y4 y5 yf
            have HX2 : Hid (Bx ((w3.setCell ⟨bw, 1, none⟩ (.slice pr n0 kr)).setCell ⟨bw, 2, none⟩ (.slice p5 n1 k5)) bw #[.bool b, .slice pr n0 kr, .slice p5 n1 k5, .slice a2 n2 c2, .int .i64 x, .int .i64 y] 37) := ⟨heap_setCell_in HX1.out.h (by simp)⟩
            refine hK.out _ _ (trivial) (fun hHeld2 => ?_)
            clear hK K hHeld; have hHeld := hHeld2; clear hHeld2
            try simp only [Act.put, zS, z0, z1]
            refine tkA 13 q55_1_13 hHeld ?_
            try simp only [q55_1_13, Act.put, zS, z0, z1]
            refine rdy 14 rfl fun K hK => ?_
            obtain ⟨y0, y1, y2, y3, y4, y5⟩ := HX2.out.six
            have yf := HX2.out.fr
            go_simp
            clear y0 y1 y2 y3 y4 y5 yf
            refine hK.out _ _ (trivial) (fun hHeld2 => ?_)
            clear hK K hHeld; have hHeld := hHeld2; clear hHeld2
            try simp only [Act.put, zS, z0, z1]
            refine wpAnyH_done (by kernel_rfl) ?_ _
            exact ⟨pr, kr, p5, k5, p8, k8, rfl, _, HB3.out, HR3.out, HL3.out, HU3.out, rfl⟩
          refine AllReadyH.cons rfl (fun K hK => ?_) ?_
          · obtain ⟨y0, y1, y2, y3, y4, y5⟩ := (HBX.out.below HB1.out).six
            go_simp
            clear y0 y1 y2 y3 y4 y5
            refine hK.out _ _ (trivial) (fun hHeld2 => ?_)
            clear hK K hHeld; have hHeld := hHeld2; clear hHeld2
            try simp only [Act.put, zS, z0, z1]
            refine tkA 9 q55_1_9 hHeld ?_
            try simp only [q55_1_9, Act.put, zS, z0, z1]
            refine rdy 5 rfl fun K hK => ?_
            go_simp
            refine (KL.out _ HB1.out).mono ?_
            rintro e w2 ⟨p5, k5, rfl, ho, hb⟩
            have HB2 := hid (HB1.out.trans (hb.mono HB1.out.size))
            have HR2 := hid (Rm.kept HR1.out (Kept.of_below hb))
            have HL2 : Hid (Nm (fun b => b < W0.heap.size) w2 (.slice p5 n1 k5) d.lo) := ho.up (fun b q => .inl (Nat.lt_of_lt_of_le q HB1.out.size))
            clear ho hb
            refine hK.out _ _ (trivial) (fun hHeld2 => ?_)
            clear hK K hHeld; have hHeld := hHeld2; clear hHeld2
            try simp only [Act.put, zS, z0, z1]
            refine rdy 8 rfl fun K hK => ?_
            go_simp
            refine (KU.out _ HB2.out).mono ?_
            rintro e w3 ⟨p8, k8, rfl, ho, hb⟩
            have HB3 := hid (HB2.out.trans (hb.mono HB2.out.size))
            have HR3 := hid (Rm.kept HR2.out (Kept.of_below hb))
            have HL3 := hid (Nm.kept HL2.out (Kept.of_below hb))
            have HU3 : Hid (Nm (fun b => b < W0.heap.size) w3 (.slice p8 n2 k8) d.up) := ho.up (fun b q => .inl (Nat.lt_of_lt_of_le q HB2.out.size))
            clear ho hb
            refine hK.out _ _ (trivial) (fun hHeld2 => ?_)
            clear hK K hHeld; have hHeld := hHeld2; clear hHeld2
            try simp only [Act.put, zS, z0, z1]
            refine rdy 10 rfl fun K hK => ?_
            have hx1 := (HBX.out.below HB3.out)
            obtain ⟨y0, y1, y2, y3, y4, y5⟩ := hx1.six
            have yf := hx1.fr
            go_simp
            clear y0 y1 y2 y3 y4 y5 yf
            have HX1 : Hid (Bx (w3.setCell ⟨bw, 1, none⟩ (.slice pr n0 kr)) bw #[.bool b, .slice pr n0 kr, .slice a1 n1 c1, .slice a2 n2 c2, .int .i64 x, .int .i64 y] 37) := ⟨heap_setCell_in hx1.h (by simp)⟩
            clear hx1
            refine hK.out _ _ (trivial) (fun hHeld2 => ?_)
            clear hK K hHeld; have hHeld := hHeld2; clear hHeld2
            try simp only [Act.put, zS, z0, z1]
            refine tkA 11 q55_1_11 hHeld ?_
            try simp only [q55_1_11, Act.put, zS, z0, z1]
            refine rdy 12 rfl fun K hK => ?_
            obtain ⟨y0, y1, y2, y3, y4, y5⟩ := HX1.out.six
            have yf := HX1.out.fr
            go_simp
            clear y0 y1 y2 y3 y4 y5 yf
            have HX2 : Hid (Bx ((w3.setCell ⟨bw, 1, none⟩ (.slice pr n0 kr)).setCell ⟨bw, 2, none⟩ (.slice p5 n1 k5)) bw #[.bool b, .slice pr n0 kr, .slice p5 n1 k5, .slice a2 n2 c2, .int .i64 x, .int .i64 y] 37) := ⟨heap_setCell_in HX1.out.h (by simp)⟩
            refine hK.out _ _ (trivial) (fun hHeld2 => ?_)
            clear hK K hHeld; have hHeld := hHeld2; clear hHeld2
            try simp only [Act.put, zS, z0, z1]
            refine tkA 13 q55_1_13 hHeld ?_
            try simp only [q55_1_13, Act.put, zS, z0, z1]
            refine rdy 14 rfl fun K hK => ?_
            obtain ⟨y0, y1, y2, y3, y4, y5⟩ := HX2.out.six
            have yf := HX2.out.fr
            go_simp
            clear y0 y1 y2 y3 y4 y5 yf
            refine hK.out _ _ (trivial) (fun hHeld2 => ?_)
            clear hK K hHeld; have hHeld := hHeld2; clear hHeld2
            try simp only [Act.put, zS, z0, z1]
            refine wpAnyH_done (by kernel_rfl) ?_ _
            exact ⟨pr, kr, p5, k5, p8, k8, rfl, _, HB3.out, HR3.out, HL3.out, HU3.out, rfl⟩
          exact AllReadyH.nil
        refine AllReadyH.cons rfl (fun K hK => ?_) ?_
        · obtain ⟨y0, y1, y2, y3, y4, y5⟩ := (HBX.out.below HB0.out).six
          go_simp
          clear y0 y1 y2 y3 y4 y5
          refine hK.out _ _ (trivial) (fun hHeld2 => ?_)
          clear hK K hHeld; have hHeld := hHeld2; clear hHeld2
          try simp only [Act.put, zS, z0, z1]
          refine rdy 2 rfl fun K hK => ?_
          go_simp
          refine (KC.out _ HB0.out).mono ?_
          rintro e w1 ⟨pr, kr, rfl, ho, hb⟩
          have HB1 := hid (HB0.out.trans (hb.mono HB0.out.size))
          have HR1 : Hid (Rm (fun b => b < W0.heap.size) w1 (.slice pr n0 kr) d.r) := ho.up (fun b q => .inl (Nat.lt_of_lt_of_le q HB0.out.size))
          clear ho hb
          refine hK.out _ _ (trivial) (fun hHeld2 => ?_)
          clear hK K hHeld; have hHeld := hHeld2; clear hHeld2
          try simp only [Act.put, zS, z0, z1]
          refine tkA 9 q55_1_9 hHeld ?_
          try simp only [q55_1_9, Act.put, zS, z0, z1]
          refine rdy 5 rfl fun K hK => ?_
          go_simp
          refine (KL.out _ HB1.out).mono ?_
          rintro e w2 ⟨p5, k5, rfl, ho, hb⟩
          have HB2 := hid (HB1.out.trans (hb.mono HB1.out.size))
          have HR2 := hid (Rm.kept HR1.out (Kept.of_below hb))
          have HL2 : Hid (Nm (fun b => b < W0.heap.size) w2 (.slice p5 n1 k5) d.lo) := ho.up (fun b q => .inl (Nat.lt_of_lt_of_le q HB1.out.size))
          clear ho hb
          refine hK.out _ _ (trivial) (fun hHeld2 => ?_)
          clear hK K hHeld; have hHeld := hHeld2; clear hHeld2
          try simp only [Act.put, zS, z0, z1]
          refine rdy 8 rfl fun K hK => ?_
          go_simp
          refine (KU.out _ HB2.out).mono ?_
          rintro e w3 ⟨p8, k8, rfl, ho, hb⟩
          have HB3 := hid (HB2.out.trans (hb.mono HB2.out.size))
          have HR3 := hid (Rm.kept HR2.out (Kept.of_below hb))
          have HL3 := hid (Nm.kept HL2.out (Kept.of_below hb))
          have HU3 : Hid (Nm (fun b => b < W0.heap.size) w3 (.slice p8 n2 k8) d.up) := ho.up (fun b q => .inl (Nat.lt_of_lt_of_le q HB2.out.size))
          clear ho hb
          refine hK.out _ _ (trivial) (fun hHeld2 => ?_)
          clear hK K hHeld; have hHeld := hHeld2; clear hHeld2
          try simp only [Act.put, zS, z0, z1]
          refine rdy 10 rfl fun K hK => ?_
          have hx1 := (HBX.out.below HB3.out)
          obtain ⟨y0, y1, y2, y3, y4, y5⟩ := hx1.six
          have yf := hx1.fr
          go_simp
          clear y0 y1 y2 y3 y4 y5 yf
          have HX1 : Hid (Bx (w3.setCell ⟨bw, 1, none⟩ (.slice pr n0 kr)) bw #[.bool b, .slice pr n0 kr, .slice a1 n1 c1, .slice a2 n2 c2, .int .i64 x, .int .i64 y] 37) := ⟨heap_setCell_in hx1.h (by simp)⟩
          clear hx1
          refine hK.out _ _ (trivial) (fun hHeld2 => ?_)
          clear hK K hHeld; have hHeld := hHeld2; clear hHeld2
          try simp only [Act.put, zS, z0, z1]
          refine tkA 11 q55_1_11 hHeld ?_
          try simp only [q55_1_11, Act.put, zS, z0, z1]
          refine rdy 12 rfl fun K hK => ?_
          obtain ⟨y0, y1, y2, y3, y4, y5⟩ := HX1.out.six
          have yf := HX1.out.fr
          go_simp
          clear y0 y1 y2 y3 y4 y5 yf
          have HX2 : Hid (Bx ((w3.setCell ⟨bw, 1, none⟩ (.slice pr n0 kr)).setCell ⟨bw, 2, none⟩ (.slice p5 n1 k5)) bw #[.bool b, .slice pr n0 kr, .slice p5 n1 k5, .slice a2 n2 c2, .int .i64 x, .int .i64 y] 37) := ⟨heap_setCell_in HX1.out.h (by simp)⟩
          refine hK.out _ _ (trivial) (fun hHeld2 => ?_)
          clear hK K hHeld; have hHeld := hHeld2; clear hHeld2
          try simp only [Act.put, zS, z0, z1]
          refine tkA 13 q55_1_13 hHeld ?_
          try simp only [q55_1_13, Act.put, zS, z0, z1]
          refine rdy 14 rfl fun K hK => ?_
          obtain ⟨y0, y1, y2, y3, y4, y5⟩ := HX2.out.six
          have yf := HX2.out.fr
          go_simp
          clear y0 y1 y2 y3 y4 y5 yf
          refine hK.out _ _ (trivial) (fun hHeld2 => ?_)
          clear hK K hHeld; have hHeld := hHeld2; clear hHeld2
          try simp only [Act.put, zS, z0, z1]
          refine wpAnyH_done (by kernel_rfl) ?_ _
          exact ⟨pr, kr, p5, k5, p8, k8, rfl, _, HB3.out, HR3.out, HL3.out, HU3.out, rfl⟩
        exact AllReadyH.nil
      refine AllReadyH.cons rfl (fun K hK => ?_) ?_
      · obtain ⟨y0, y1, y2, y3, y4, y5⟩ := (HBX.out.below HB0.out).six
        go_simp
        clear y0 y1 y2 y3 y4 y5
        refine hK.out _ _ (trivial) (fun hHeld2 => ?_)
        clear hK K hHeld; have hHeld := hHeld2; clear hHeld2
        try simp only [Act.put, zS, z0, z1]
        refine rdy 1 rfl fun K hK => ?_
        obtain ⟨y0, y1, y2, y3, y4, y5⟩ := (HBX.out.below HB0.out).six
        go_simp
        clear y0 y1 y2 y3 y4 y5
        refine hK.out _ _ (trivial) (fun hHeld2 => ?_)
        clear hK K hHeld; have hHeld := hHeld2; clear hHeld2
        try simp only [Act.put, zS, z0, z1]
        refine rdy 2 rfl fun K hK => ?_
        go_simp
        refine (KC.out _ HB0.out).mono ?_
        rintro e w1 ⟨pr, kr, rfl, ho, hb⟩
        have HB1 := hid (HB0.out.trans (hb.mono HB0.out.size))
        have HR1 : Hid (Rm (fun b => b < W0.heap.size) w1 (.slice pr n0 kr) d.r) := ho.up (fun b q => .inl (Nat.lt_of_lt_of_le q HB0.out.size))
        clear ho hb
        refine hK.out _ _ (trivial) (fun hHeld2 => ?_)
        clear hK K hHeld; have hHeld := hHeld2; clear hHeld2
        try simp only [Act.put, zS, z0, z1]
        refine tkA 9 q55_1_9 hHeld ?_
        try simp only [q55_1_9, Act.put, zS, z0, z1]
        refine rdy 5 rfl fun K hK => ?_
        go_simp
        refine (KL.out _ HB1.out).mono ?_
        rintro e w2 ⟨p5, k5, rfl, ho, hb⟩
        have HB2 := hid (HB1.out.trans (hb.mono HB1.out.size))
        have HR2 := hid (Rm.kept HR1.out (Kept.of_below hb))
        have HL2 : Hid (Nm (fun b => b < W0.heap.size) w2 (.slice p5 n1 k5) d.lo) := ho.up (fun b q => .inl (Nat.lt_of_lt_of_le q HB1.out.size))
        clear ho hb
        refine hK.out _ _ (trivial) (fun hHeld2 => ?_)
        clear hK K hHeld; have hHeld := hHeld2; clear hHeld2
        try simp only [Act.put, zS, z0, z1]
        refine rdy 8 rfl fun K hK => ?_
        go_simp
        refine (KU.out _ HB2.out).mono ?_
        rintro e w3 ⟨p8, k8, rfl, ho, hb⟩
        have HB3 := hid (HB2.out.trans (hb.mono HB2.out.size))
        have HR3 := hid (Rm.kept HR2.out (Kept.of_below hb))
        have HL3 := hid (Nm.kept HL2.out (Kept.of_below hb))
        have HU3 : Hid (Nm (fun b => b < W0.heap.size) w3 (.slice p8 n2 k8) d.up) := ho.up (fun b q => .inl (Nat.lt_of_lt_of_le q HB2.out.size))
        clear ho hb
        refine hK.out _ _ (trivial) (fun hHeld2 => ?_)
        clear hK K hHeld; have hHeld := hHeld2; clear hHeld2
        try simp only [Act.put, zS, z0, z1]
        refine rdy 10 rfl fun K hK => ?_
        have hx1 := (HBX.out.below HB3.out)
        obtain ⟨y0, y1, y2, y3, y4, y5⟩ := hx1.six
        have yf := hx1.fr
        go_simp
        clear y0 y1 y2 y3 y4 y5 yf
        have HX1 : Hid (Bx (w3.setCell ⟨bw, 1, none⟩ (.slice pr n0 kr)) bw #[.bool b, .slice pr n0 kr, .slice a1 n1 c1, .slice a2 n2 c2, .int .i64 x, .int .i64 y] 37) := ⟨heap_setCell_in hx1.h (by simp)⟩
        clear hx1
        refine hK.out _ _ (trivial) (fun hHeld2 => ?_)
        clear hK K hHeld; have hHeld := hHeld2; clear hHeld2
        try simp only [Act.put, zS, z0, z1]
        refine tkA 11 q55_1_11 hHeld ?_
        try simp only [q55_1_11, Act.put, zS, z0, z1]
        refine rdy 12 rfl fun K hK => ?_
        obtain ⟨y0, y1, y2, y3, y4, y5⟩ := HX1.out.six
        have yf := HX1.out.fr
        go_simp
        clear y0 y1 y2 y3 y4 y5 yf
        have HX2 : Hid (Bx ((w3.setCell ⟨bw, 1, none⟩ (.slice pr n0 kr)).setCell ⟨bw, 2, none⟩ (.slice p5 n1 k5)) bw #[.bool b, .slice pr n0 kr, .slice p5 n1 k5, .slice a2 n2 c2, .int .i64 x, .int .i64 y] 37) := ⟨heap_setCell_in HX1.out.h (by simp)⟩
        refine hK.out _ _ (trivial) (fun hHeld2 => ?_)
        clear hK K hHeld; have hHeld := hHeld2; clear hHeld2
        try simp only [Act.put, zS, z0, z1]
        refine tkA 13 q55_1_13 hHeld ?_
        try simp only [q55_1_13, Act.put, zS, z0, z1]
        refine rdy 14 rfl fun K hK => ?_
        obtain ⟨y0, y1, y2, y3, y4, y5⟩ := HX2.out.six
        have yf := HX2.out.fr
        go_simp
        clear y0 y1 y2 y3 y4 y5 yf
        refine hK.out _ _ (trivial) (fun hHeld2 => ?_)
        clear hK K hHeld; have hHeld := hHeld2; clear hHeld2
        try simp only [Act.put, zS, z0, z1]
        refine wpAnyH_done (by kernel_rfl) ?_ _
        exact ⟨pr, kr, p5, k5, p8, k8, rfl, _, HB3.out, HR3.out, HL3.out, HU3.out, rfl⟩
      exact AllReadyH.nil
    refine AllReadyH.cons rfl (fun K hK => ?_) ?_
    · obtain ⟨y0, y1, y2, y3, y4, y5⟩ := (HBX.out.below HB0.out).six
      go_simp
      clear y0 y1 y2 y3 y4 y5
      refine hK.out _ _ (trivial) (fun hHeld2 => ?_)
      clear hK K hHeld; have hHeld := hHeld2; clear hHeld2
      try simp only [Act.put, zS, z0, z1]
      refine wpAnyH_ready (rs := [1, 4]) (by kernel_rfl) (by simp) ?_
      refine AllReadyH.cons rfl (fun K hK => ?_) ?_
      · obtain ⟨y0, y1, y2, y3, y4, y5⟩ := (HBX.out.below HB0.out).six
        go_simp
        clear y0 y1 y2 y3 y4 y5
        refine hK.out _ _ (trivial) (fun hHeld2 => ?_)
        clear hK K hHeld; have hHeld := hHeld2; clear hHeld2
        try simp only [Act.put, zS, z0, z1]
        refine wpAnyH_ready (rs := [2, 4]) (by kernel_rfl) (by simp) ?_
        refine AllReadyH.cons rfl (fun K hK => ?_) ?_
        · go_simp
          refine (KC.out _ HB0.out).mono ?_
          rintro e w1 ⟨pr, kr, rfl, ho, hb⟩
          have HB1 := hid (HB0.out.trans (hb.mono HB0.out.size))
          have HR1 : Hid (Rm (fun b => b < W0.heap.size) w1 (.slice pr n0 kr) d.r) := ho.up (fun b q => .inl (Nat.lt_of_lt_of_le q HB0.out.size))
          clear ho hb
          refine hK.out _ _ (trivial) (fun hHeld2 => ?_)
          clear hK K hHeld; have hHeld := hHeld2; clear hHeld2
          try simp only [Act.put, zS, z0, z1]
          refine rdy 4 rfl fun K hK => ?_
          obtain ⟨y0, y1, y2, y3, y4, y5⟩ := (HBX.out.below HB1.out).six
          go_simp
          clear y0 y1 y2 y3 y4 y5
          refine hK.out _ _ (trivial) (fun hHeld2 => ?_)
          clear hK K hHeld; have hHeld := hHeld2; clear hHeld2
          try simp only [Act.put, zS, z0, z1]
          refine tkA 9 q55_1_9 hHeld ?_
          try simp only [q55_1_9, Act.put, zS, z0, z1]
          refine rdy 5 rfl fun K hK => ?_
          go_simp
          refine (KL.out _ HB1.out).mono ?_
          rintro e w2 ⟨p5, k5, rfl, ho, hb⟩
          have HB2 := hid (HB1.out.trans (hb.mono HB1.out.size))
          have HR2 := hid (Rm.kept HR1.out (Kept.of_below hb))
          have HL2 : Hid (Nm (fun b => b < W0.heap.size) w2 (.slice p5 n1 k5) d.lo) := ho.up (fun b q => .inl (Nat.lt_of_lt_of_le q HB1.out.size))
          clear ho hb
          refine hK.out _ _ (trivial) (fun hHeld2 => ?_)
          clear hK K hHeld; have hHeld := hHeld2; clear hHeld2
          try simp only [Act.put, zS, z0, z1]
          refine rdy 8 rfl fun K hK => ?_
          go_simp
          refine (KU.out _ HB2.out).mono ?_
          rintro e w3 ⟨p8, k8, rfl, ho, hb⟩
          have HB3 := hid (HB2.out.trans (hb.mono HB2.out.size))
          have HR3 := hid (Rm.kept HR2.out (Kept.of_below hb))
          have HL3 := hid (Nm.kept HL2.out (Kept.of_below hb))
          have HU3 : Hid (Nm (fun b => b < W0.heap.size) w3 (.slice p8 n2 k8) d.up) := ho.up (fun b q => .inl (Nat.lt_of_lt_of_le q HB2.out.size))
          clear ho hb
          refine hK.out _ _ (trivial) (fun hHeld2 => ?_)
          clear hK K hHeld; have hHeld := hHeld2; clear hHeld2
          try simp only [Act.put, zS, z0, z1]
          refine rdy 10 rfl fun K hK => ?_
          have hx1 := (HBX.out.below HB3.out)
          obtain ⟨y0, y1, y2, y3, y4, y5⟩ := hx1.six
          have yf := hx1.fr
          go_simp
          clear y0 y1 y2 y3 y4 y5 yf
          have HX1 : Hid (Bx (w3.setCell ⟨bw, 1, none⟩ (.slice pr n0 kr)) bw #[.bool b, .slice pr n0 kr, .slice a1 n1 c1, .slice a2 n2 c2, .int .i64 x, .int .i64 y] 37) := ⟨heap_setCell_in hx1.h (by simp)⟩
          clear hx1
          refine hK.out _ _ (trivial) (fun hHeld2 => ?_)
          clear hK K hHeld; have hHeld := hHeld2; clear hHeld2
          try simp only [Act.put, zS, z0, z1]
          refine tkA 11 q55_1_11 hHeld ?_
          try simp only [q55_1_11, Act.put, zS, z0, z1]
          refine rdy 12 rfl fun K hK => ?_
          obtain ⟨y0, y1, y2, y3, y4, y5⟩ := HX1.out.six
          have yf := HX1.out.fr
          go_simp
          clear y0 y1 y2 y3 y4 y5 yf
          have HX2 : Hid (Bx ((w3.setCell ⟨bw, 1, none⟩ (.slice pr n0 kr)).setCell ⟨bw, 2, none⟩ (.slice p5 n1 k5)) bw #[.bool b, .slice pr n0 kr, .slice p5 n1 k5, .slice a2 n2 c2, .int .i64 x, .int .i64 y] 37) := ⟨heap_setCell_in HX1.out.h (by simp)⟩
          refine hK.out _ _ (trivial) (fun hHeld2 => ?_)
          clear hK K hHeld; have hHeld := hHeld2; clear hHeld2
          try simp only [Act.put, zS, z0, z1]
          refine tkA 13 q55_1_13 hHeld ?_
          try simp only [q55_1_13, Act.put, zS, z0, z1]
          refine rdy 14 rfl fun K hK => ?_
          obtain ⟨y0, y1, y2, y3, y4, y5⟩ := HX2.out.six
          have yf := HX2.out.fr
          go_simp
          clear y0 y1 y2 y3 y4 y5 yf
          refine hK.out _ _ (trivial) (fun hHeld2 => ?_)
          clear hK K hHeld; have hHeld := hHeld2; clear hHeld2
          try simp only [Act.put, zS, z0, z1]
          refine wpAnyH_done (by kernel_rfl) ?_ _
          exact ⟨pr, kr, p5, k5, p8, k8, rfl, _, HB3.out, HR3.out, HL3.out, HU3.out, rfl⟩
        refine AllReadyH.cons rfl (fun K hK => ?_) ?_
        · obtain ⟨y0, y1, y2, y3, y4, y5⟩ := (HBX.out.below HB0.out).six
          go_simp
          clear y0 y1 y2 y3 y4 y5
          refine hK.out _ _ (trivial) (fun hHeld2 => ?_)
          clear hK K hHeld; have hHeld := hHeld2; clear hHeld2
          try simp only [Act.put, zS, z0, z1]
          refine rdy 2 rfl fun K hK => ?_
          go_simp
          refine (KC.out _ HB0.out).mono ?_
          rintro e w1 ⟨pr, kr, rfl, ho, hb⟩
          have HB1 := hid (HB0.out.trans (hb.mono HB0.out.size))
          have HR1 : Hid (Rm (fun b => b < W0.heap.size) w1 (.slice pr n0 kr) d.r) := ho.up (fun b q => .inl (Nat.lt_of_lt_of_le q HB0.out.size))
          clear ho hb
          refine hK.out _ _ (trivial) (fun hHeld2 => ?_)
          clear hK K hHeld; have hHeld := hHeld2; clear hHeld2
          try simp only [Act.put, zS, z0, z1]
          refine tkA 9 q55_1_9 hHeld ?_
          try simp only [q55_1_9, Act.put, zS, z0, z1]
          refine rdy 5 rfl fun K hK => ?_
          go_simp
          refine (KL.out _ HB1.out).mono ?_
          rintro e w2 ⟨p5, k5, rfl, ho, hb⟩
          have HB2 := hid (HB1.out.trans (hb.mono HB1.out.size))
          have HR2 := hid (Rm.kept HR1.out (Kept.of_below hb))
          have HL2 : Hid (Nm (fun b => b < W0.heap.size) w2 (.slice p5 n1 k5) d.lo) := ho.up (fun b q => .inl (Nat.lt_of_lt_of_le q HB1.out.size))
          clear ho hb
          refine hK.out _ _ (trivial) (fun hHeld2 => ?_)
          clear hK K hHeld; have hHeld := hHeld2; clear hHeld2
          try simp only [Act.put, zS, z0, z1]
          refine rdy 8 rfl fun K hK => ?_
          go_simp
          refine (KU.out _ HB2.out).mono ?_
          rintro e w3 ⟨p8, k8, rfl, ho, hb⟩
          have HB3 := hid (HB2.out.trans (hb.mono HB2.out.size))
          have HR3 := hid (Rm.kept HR2.out (Kept.of_below hb))
          have HL3 := hid (Nm.kept HL2.out (Kept.of_below hb))
          have HU3 : Hid (Nm (fun b => b < W0.heap.size) w3 (.slice p8 n2 k8) d.up) := ho.up (fun b q => .inl (Nat.lt_of_lt_of_le q HB2.out.size))
          clear ho hb
          refine hK.out _ _ (trivial) (fun hHeld2 => ?_)
          clear hK K hHeld; have hHeld := hHeld2; clear hHeld2
          try simp only [Act.put, zS, z0, z1]
          refine rdy 10 rfl fun K hK => ?_
          have hx1 := (HBX.out.below HB3.out)
          obtain ⟨y0, y1, y2, y3, y4, y5⟩ := hx1.six
          have yf := hx1.fr
          go_simp
          clear y0 y1 y2 y3 y4 y5 yf
          have HX1 : Hid (Bx (w3.setCell ⟨bw, 1, none⟩ (.slice pr n0 kr)) bw #[.bool b, .slice pr n0 kr, .slice a1 n1 c1, .slice a2 n2 c2, .int .i64 x, .int .i64 y] 37) := ⟨heap_setCell_in hx1.h (by simp)⟩
          clear hx1
          refine hK.out _ _ (trivial) (fun hHeld2 => ?_)
          clear hK K hHeld; have hHeld := hHeld2; clear hHeld2
          try simp only [Act.put, zS, z0, z1]
          refine tkA 11 q55_1_11 hHeld ?_
          try simp only [q55_1_11, Act.put, zS, z0, z1]
          refine rdy 12 rfl fun K hK => ?_
          obtain ⟨y0, y1, y2, y3, y4, y5⟩ := HX1.out.six
          have yf := HX1.out.fr
          go_simp
          clear y0 y1 y2 y3 y4 y5 yf
          have HX2 : Hid (Bx ((w3.setCell ⟨bw, 1, none⟩ (.slice pr n0 kr)).setCell ⟨bw, 2, none⟩ (.slice p5 n1 k5)) bw #[.bool b, .slice pr n0 kr, .slice p5 n1 k5, .slice a2 n2 c2, .int .i64 x, .int .i64 y] 37) := ⟨heap_setCell_in HX1.out.h (by simp)⟩
          refine hK.out _ _ (trivial) (fun hHeld2 => ?_)
          clear hK K hHeld; have hHeld := hHeld2; clear hHeld2
          try simp only [Act.put, zS, z0, z1]
          refine tkA 13 q55_1_13 hHeld ?_
          try simp only [q55_1_13, Act.put, zS, z0, z1]
          refine rdy 14 rfl fun K hK => ?_
          obtain ⟨y0, y1, y2, y3, y4, y5⟩ := HX2.out.six
          have yf := HX2.out.fr
          go_simp
          clear y0 y1 y2 y3 y4 y5 yf
          refine hK.out _ _ (trivial) (fun hHeld2 => ?_)
          clear hK K hHeld; have hHeld := hHeld2; clear hHeld2
          try simp only [Act.put, zS, z0, z1]
          refine wpAnyH_done (by kernel_rfl) ?_ _
          exact ⟨pr, kr, p5, k5, p8, k8, rfl, _, HB3.out, HR3.out, HL3.out, HU3.out, rfl⟩
        exact AllReadyH.nil
      refine AllReadyH.cons rfl (fun K hK => ?_) ?_
      · obtain ⟨y0, y1, y2, y3, y4, y5⟩ := (HBX.out.below HB0.out).six
        go_simp
        clear y0 y1 y2 y3 y4 y5
        refine hK.out _ _ (trivial) (fun hHeld2 => ?_)
        clear hK K hHeld; have hHeld := hHeld2; clear hHeld2
        try simp only [Act.put, zS, z0, z1]
        refine rdy 1 rfl fun K hK => ?_
        obtain ⟨y0, y1, y2, y3, y4, y5⟩ := (HBX.out.below HB0.out).six
        go_simp
        clear y0 y1 y2 y3 y4 y5
        refine hK.out _ _ (trivial) (fun hHeld2 => ?_)
        clear hK K hHeld; have hHeld := hHeld2; clear hHeld2
        try simp only [Act.put, zS, z0, z1]
        refine rdy 2 rfl fun K hK => ?_
        go_simp
        refine (KC.out _ HB0.out).mono ?_
        rintro e w1 ⟨pr, kr, rfl, ho, hb⟩
        have HB1 := hid (HB0.out.trans (hb.mono HB0.out.size))
        have HR1 : Hid (Rm (fun b => b < W0.heap.size) w1 (.slice pr n0 kr) d.r) := ho.up (fun b q => .inl (Nat.lt_of_lt_of_le q HB0.out.size))
        clear ho hb
        refine hK.out _ _ (trivial) (fun hHeld2 => ?_)
        clear hK K hHeld; have hHeld := hHeld2; clear hHeld2
        try simp only [Act.put, zS, z0, z1]
        refine tkA 9 q55_1_9 hHeld ?_
        try simp only [q55_1_9, Act.put, zS, z0, z1]
        refine rdy 5 rfl fun K hK => ?_
        go_simp
        refine (KL.out _ HB1.out).mono ?_
        rintro e w2 ⟨p5, k5, rfl, ho, hb⟩
        have HB2 := hid (HB1.out.trans (hb.mono HB1.out.size))
        have HR2 := hid (Rm.kept HR1.out (Kept.of_below hb))
        have HL2 : Hid (Nm (fun b => b < W0.heap.size) w2 (.slice p5 n1 k5) d.lo) := ho.up (fun b q => .inl (Nat.lt_of_lt_of_le q HB1.out.size))
        clear ho hb
        refine hK.out _ _ (trivial) (fun hHeld2 => ?_)
        clear hK K hHeld; have hHeld := hHeld2; clear hHeld2
        try simp only [Act.put, zS, z0, z1]
        refine rdy 8 rfl fun K hK => ?_
        go_simp
        refine (KU.out _ HB2.out).mono ?_
        rintro e w3 ⟨p8, k8, rfl, ho, hb⟩
        have HB3 := hid (HB2.out.trans (hb.mono HB2.out.size))
        have HR3 := hid (Rm.kept HR2.out (Kept.of_below hb))
        have HL3 := hid (Nm.kept HL2.out (Kept.of_below hb))
        have HU3 : Hid (Nm (fun b => b < W0.heap.size) w3 (.slice p8 n2 k8) d.up) := ho.up (fun b q => .inl (Nat.lt_of_lt_of_le q HB2.out.size))
        clear ho hb
        refine hK.out _ _ (trivial) (fun hHeld2 => ?_)
        clear hK K hHeld; have hHeld := hHeld2; clear hHeld2
        try simp only [Act.put, zS, z0, z1]
        refine rdy 10 rfl fun K hK => ?_
        have hx1 := (HBX.out.below HB3.out)
        obtain ⟨y0, y1, y2, y3, y4, y5⟩ := hx1.six
        have yf := hx1.fr
        go_simp
        clear y0 y1 y2 y3 y4 y5 yf
        have HX1 : Hid (Bx (w3.setCell ⟨bw, 1, none⟩ (.slice pr n0 kr)) bw #[.bool b, .slice pr n0 kr, .slice a1 n1 c1, .slice a2 n2 c2, .int .i64 x, .int .i64 y] 37) := ⟨heap_setCell_in hx1.h (by simp)⟩
        clear hx1
        refine hK.out _ _ (trivial) (fun hHeld2 => ?_)
        clear hK K hHeld; have hHeld := hHeld2; clear hHeld2
        try simp only [Act.put, zS, z0, z1]
        refine tkA 11 q55_1_11 hHeld ?_
        try simp only [q55_1_11, Act.put, zS, z0, z1]
        refine rdy 12 rfl fun K hK => ?_
        obtain ⟨y0, y1, y2, y3, y4, y5⟩ := HX1.out.six
        have yf := HX1.out.fr
        go_simp
        clear y0 y1 y2 y3 y4 y5 yf
        have HX2 : Hid (Bx ((w3.setCell ⟨bw, 1, none⟩ (.slice pr n0 kr)).setCell ⟨bw, 2, none⟩ (.slice p5 n1 k5)) bw #[.bool b, .slice pr n0 kr, .slice p5 n1 k5, .slice a2 n2 c2, .int .i64 x, .int .i64 y] 37) := ⟨heap_setCell_in HX1.out.h (by simp)⟩
        refine hK.out _ _ (trivial) (fun hHeld2 => ?_)
        clear hK K hHeld; have hHeld := hHeld2; clear hHeld2
        try simp only [Act.put, zS, z0, z1]
        refine tkA 13 q55_1_13 hHeld ?_
        try simp only [q55_1_13, Act.put, zS, z0, z1]
        refine rdy 14 rfl fun K hK => ?_
        obtain ⟨y0, y1, y2, y3, y4, y5⟩ := HX2.out.six
        have yf := HX2.out.fr
        go_simp
        clear y0 y1 y2 y3 y4 y5 yf
        refine hK.out _ _ (trivial) (fun hHeld2 => ?_)
        clear hK K hHeld; have hHeld := hHeld2; clear hHeld2
        try simp only [Act.put, zS, z0, z1]
        refine wpAnyH_done (by kernel_rfl) ?_ _
        exact ⟨pr, kr, p5, k5, p8, k8, rfl, _, HB3.out, HR3.out, HL3.out, HU3.out, rfl⟩
      exact AllReadyH.nil
    exact AllReadyH.nil
  case hK =>
    rintro pr kr p5 k5 p8 k8 _ ⟨w3, hb3, hr3, hl3, hu3, rfl⟩
    have HB3 : Hid (Below W0.heap.size W0 w3) := hb3
    have HR3 : Hid (Rm (fun b => b < W0.heap.size) w3 (.slice pr n0 kr) d.r) := hr3
    have HL3 : Hid (Nm (fun b => b < W0.heap.size) w3 (.slice p5 n1 k5) d.lo) := hl3
    have HU3 : Hid (Nm (fun b => b < W0.heap.size) w3 (.slice p8 n2 k8) d.up) := hu3
    have hx1 := (HBX.out.below HB3.out)
    have HX1 : Hid (Bx (w3.setCell ⟨bw, 1, none⟩ (.slice pr n0 kr)) bw #[.bool b, .slice pr n0 kr, .slice a1 n1 c1, .slice a2 n2 c2, .int .i64 x, .int .i64 y] 37) := ⟨heap_setCell_in hx1.h (by simp)⟩
    have HX2 : Hid (Bx ((w3.setCell ⟨bw, 1, none⟩ (.slice pr n0 kr)).setCell ⟨bw, 2, none⟩ (.slice p5 n1 k5)) bw #[.bool b, .slice pr n0 kr, .slice p5 n1 k5, .slice a2 n2 c2, .int .i64 x, .int .i64 y] 37) := ⟨heap_setCell_in HX1.out.h (by simp)⟩
    have HX3 : Hid (Bx (((w3.setCell ⟨bw, 1, none⟩ (.slice pr n0 kr)).setCell ⟨bw, 2, none⟩ (.slice p5 n1 k5)).setCell ⟨bw, 3, none⟩ (.slice p8 n2 k8)) bw #[.bool b, .slice pr n0 kr, .slice p5 n1 k5, .slice p8 n2 k8, .int .i64 x, .int .i64 y] 37) := ⟨heap_setCell_in HX2.out.h (by simp)⟩
    clear hb3 hr3 hl3 hu3 hx1
    have HRZ : Hid (Bx (((w3.setCell ⟨bw, 1, none⟩ (.slice pr n0 kr)).setCell ⟨bw, 2, none⟩ (.slice p5 n1 k5)).setCell ⟨bw, 3, none⟩ (.slice p8 n2 k8)) (bw + 1) #[.bool false, .slice none 0 0, .slice none 0 0, .slice none 0 0, .int .i64 0, .int .i64 0] 37) := (((HRX.out.below HB3.out).setc (by omega) _ _).setc (by omega) _ _).setc (by omega) _ _
    have HBZ : Hid (Below W.heap.size W (((w3.setCell ⟨bw, 1, none⟩ (.slice pr n0 kr)).setCell ⟨bw, 2, none⟩ (.slice p5 n1 k5)).setCell ⟨bw, 3, none⟩ (.slice p8 n2 k8))) := (((HB00.out.trans (HB3.out.mono HB00.out.size)).setCell (by have := HBW.out; show W.heap.size ≤ bw; omega) _).setCell (by have := HBW.out; show W.heap.size ≤ bw; omega) _).setCell (by have := HBW.out; show W.heap.size ≤ bw; omega) _
    have HOZ : Hid (Rm (fun b => b < W0.heap.size) (((w3.setCell ⟨bw, 1, none⟩ (.slice pr n0 kr)).setCell ⟨bw, 2, none⟩ (.slice p5 n1 k5)).setCell ⟨bw, 3, none⟩ (.slice p8 n2 k8)) (.slice pr n0 kr) d.r) := ((HR3.out.kept ((Kept.one (a := W) rfl).mono (fun b e => by rw [e]; exact HBL.out))).kept ((Kept.one (a := W) rfl).mono (fun b e => by rw [e]; exact HBL.out))).kept ((Kept.one (a := W) rfl).mono (fun b e => by rw [e]; exact HBL.out))
    have HLZ : Hid (Nm (fun b => b < W0.heap.size) (((w3.setCell ⟨bw, 1, none⟩ (.slice pr n0 kr)).setCell ⟨bw, 2, none⟩ (.slice p5 n1 k5)).setCell ⟨bw, 3, none⟩ (.slice p8 n2 k8)) (.slice p5 n1 k5) d.lo) := ((HL3.out.kept ((Kept.one (a := W) rfl).mono (fun b e => by rw [e]; exact HBL.out))).kept ((Kept.one (a := W) rfl).mono (fun b e => by rw [e]; exact HBL.out))).kept ((Kept.one (a := W) rfl).mono (fun b e => by rw [e]; exact HBL.out))
    have HUZ : Hid (Nm (fun b => b < W0.heap.size) (((w3.setCell ⟨bw, 1, none⟩ (.slice pr n0 kr)).setCell ⟨bw, 2, none⟩ (.slice p5 n1 k5)).setCell ⟨bw, 3, none⟩ (.slice p8 n2 k8)) (.slice p8 n2 k8) d.up) := ((HU3.out.kept ((Kept.one (a := W) rfl).mono (fun b e => by rw [e]; exact HBL.out))).kept ((Kept.one (a := W) rfl).mono (fun b e => by rw [e]; exact HBL.out))).kept ((Kept.one (a := W) rfl).mono (fun b e => by rw [e]; exact HBL.out))
    clear HB3 HR3 HL3 HU3 HX1 HX2 KC KL KU HB0
    generalize (((w3.setCell ⟨bw, 1, none⟩ (.slice pr n0 kr)).setCell ⟨bw, 2, none⟩ (.slice p5 n1 k5)).setCell ⟨bw, 3, none⟩ (.slice p8 n2 k8)) = wz at *
    obtain ⟨y0, y1, y2, y3, y4, y5⟩ := HX3.out.six
    go_wp2_with (with_reducible refine stD rfl (.tmp 2) (.tmp 15) rfl (bw + 1) [.bool b, .slice pr n0 kr, .slice p5 n1 k5, .slice p8 n2 k8, .int .i64 x, .int .i64 y] (by with_unfolding_all rfl) (by with_unfolding_all rfl) HRZ.out rfl rfl (six_one _ _ _ _ _ _ _ _ _ _ _ _) ?_)
    refine ⟨rfl, _, resD rfl _ (HRZ.out.setRow _) rfl (by with_unfolding_all rfl), [.bool b, .slice pr n0 kr, .slice p5 n1 k5, .slice p8 n2 k8, .int .i64 x, .int .i64 y], rfl, fun Z hZ => ?_, below_row HBZ.out (by have := HBW.out; omega) _⟩
    have hrr : Rm Z (wz.setRow (bw + 1) #[.bool b, .slice pr n0 kr, .slice p5 n1 k5, .slice p8 n2 k8, .int .i64 x, .int .i64 y]) (.slice pr n0 kr) d.r := (HOZ.out.kept (w' := wz.setRow (bw + 1) #[.bool b, .slice pr n0 kr, .slice p5 n1 k5, .slice p8 n2 k8, .int .i64 x, .int .i64 y]) ⟨rfl, rfl, rfl, by simp [World.setRow], fun b _ q => setRow_other _ _ b _ (fun e => q (by rw [e]; exact HBL2.out))⟩).up (fun b hb => .inl (by have := hZ b hb; have := HB00.out.size; show b < W0.heap.size; omega))
    have hll : Nm Z (wz.setRow (bw + 1) #[.bool b, .slice pr n0 kr, .slice p5 n1 k5, .slice p8 n2 k8, .int .i64 x, .int .i64 y]) (.slice p5 n1 k5) d.lo := (HLZ.out.kept (w' := wz.setRow (bw + 1) #[.bool b, .slice pr n0 kr, .slice p5 n1 k5, .slice p8 n2 k8, .int .i64 x, .int .i64 y]) ⟨rfl, rfl, rfl, by simp [World.setRow], fun b _ q => setRow_other _ _ b _ (fun e => q (by rw [e]; exact HBL2.out))⟩).up (fun b hb => .inl (by have := hZ b hb; have := HB00.out.size; show b < W0.heap.size; omega))
    have huu : Nm Z (wz.setRow (bw + 1) #[.bool b, .slice pr n0 kr, .slice p5 n1 k5, .slice p8 n2 k8, .int .i64 x, .int .i64 y]) (.slice p8 n2 k8) d.up := (HUZ.out.kept (w' := wz.setRow (bw + 1) #[.bool b, .slice pr n0 kr, .slice p5 n1 k5, .slice p8 n2 k8, .int .i64 x, .int .i64 y]) ⟨rfl, rfl, rfl, by simp [World.setRow], fun b _ q => setRow_other _ _ b _ (fun e => q (by rw [e]; exact HBL2.out))⟩).up (fun b hb => .inl (by have := hZ b hb; have := HB00.out.size; show b < W0.heap.size; omega))
    obtain ⟨rfl, rfl, rfl, rfl, rfl, rfl⟩ := HE.out
    exact ⟨pr, kr, p5, k5, p8, k8, rfl, hrr, hll, huu⟩
end Go.Proofs.YtghnfnieppfhgaaGreat
