/-
  What is proved here: what package store makes of domains of whole numbers: narrower, tight, Same, Only.
-/
import Derived.Test.YtfcaemfledlnnaaDoorKd
namespace Go.Proofs.YtfcaemfledlnnaaDoor
open Go.RowKit Go.Shelf
set_option linter.unusedVariables false
set_option linter.unusedSimpArgs false

theorem Tryd.sizeVal : (Tryd.prog.info? 93).map (·.size) = some 3 := by kernel_rfl
theorem res_ct {fn : Func} {p q : Tmp} {ty : TypeId} (h : fn.results = #[.cell p ty, .tmp q]) (tmps : Array Value) {w : World} {g : Nat} {cs : Array Value} {d : TypeDesc} {t : TypeId} (hg : Bx w g cs t) (hp : tmps.getD p undef = .pointer (some ⟨g, 0, none⟩))
    (hd : d.isRow = true) (hu : Tryd.prog.underlying ty = some d) (hi : (Tryd.prog.info? ty).map (·.size) = some cs.size) {v : Value} (hv : tmps.getD q undef = v) :
    (results fn tmps).run Tryd.prog w = .ok (.tuple #[.agg cs, v]) w := by
  have hp' : tmps[p]?.getD undef = .pointer (some ⟨g, 0, none⟩) := by simpa using hp
  have hv' : tmps[q]?.getD undef = v := by simpa using hv
  have hl := run_loadVar_mid (P := Tryd.prog) w g 0 ty cs.toList d (fun j v hv => by rw [Nat.zero_add, hg.cell j]; simpa using hv) hu hd (by simpa using hi)
  simp [results, h, hp', hv', asAddr, hl]
theorem stV {ops : Array Oper} {rest : List Oper} {o : Oper} {a : Act} {w : World} {Q : Exit → Act → World → Prop} {old : Array Value} (hgd : o.guard = none) (x y : Operand) (ho : o.op = .store 93 x y)
    (g : Nat) (b : Bool) (n : Int) (sp : Option Addr) (sn sc : Nat) (hx : a.eval x = .pointer (some ⟨g, 0, none⟩)) (hy : a.eval y = .agg #[.bool b, .int .i64 n, .slice sp sn sc]) (hg : Bx w g old 93) (hold : old.size = 3)
    (h : wpList Tryd.prog ops Q rest (a.put o.dst undef) (w.setRow g #[.bool b, .int .i64 n, .slice sp sn sc])) : wpList Tryd.prog ops Q (o :: rest) a w :=
  wpList_store_row hgd 93 x y ho g _ hx hy 93 _ hg.h (by rw [Tryd.sizeVal]; rfl) (by simp [hold]) (all_oneCell_toArray (cs := [.bool b, .int .i64 n, .slice sp sn sc]) (by intro v hv; simp only [List.mem_cons, List.not_mem_nil, or_false] at hv; rcases hv with rfl | rfl | rfl <;> rfl)) h
/-- The only value. -/
def onlyW (d : MD) : Int × Bool := if Dm.sizeR (Dm.tk d.r) = 1 then (Dm.lo d.r 0, true) else (0, false)

set_option maxRecDepth 100000 in
set_option maxHeartbeats 4000000 in
theorem only_w {X : Nat → Prop} {W : World} {c : List Value} {d : MD} (h : Dc X W c d) (hs : d.set = false) (hf : Dm.FitsR d.r) :
    Calls Tryd.prog 47 #[.agg c.toArray] W fun e w' => e = .returned (.tuple #[.agg #[.bool false, .int .i64 (onlyW d).1, .slice none 0 0], .bool (onlyW d).2]) ∧ Below W.heap.size W w' := by
  obtain ⟨b, ra, n0, rc, a1, n1, c1, a2, n2, c2, x, y, rfl, HE, H1, H2, H3⟩ := h.look
  clear h
  obtain rfl : b = false := by rw [← HE.out.1, hs]
  obtain ⟨W0, hW0⟩ : ∃ Q, (W.alloc (Obj.cells #[.bool false, .slice ra n0 rc, .slice a1 n1 c1, .slice a2 n2 c2, .int .i64 x, .int .i64 y] 40)).alloc (Obj.cells #[.bool false, .int .i64 0, .slice none 0 0] 93) = Q := ⟨_, rfl⟩
  have hb0 : Below W.heap.size W W0 := by rw [← hW0]; exact (((Below.refl _ W).alloc (Nat.le_refl _) _).alloc (by simp) _)
  have HB0 : Hid (Bx W0 W.heap.size #[.bool false, .slice ra n0 rc, .slice a1 n1 c1, .slice a2 n2 c2, .int .i64 x, .int .i64 y] 40) := by rw [← hW0]; exact (Bx.new _ _ _).alloc _
  have HV0 : Hid (Bx W0 (W.heap.size + 1) #[.bool false, .int .i64 0, .slice none 0 0] 93) := by rw [← hW0]; exact Bx.new' (by simp) _ _
  have kb := Dm.domsize_any _ _ _ (H1.out.kept (Kept.of_below hb0)).sr hf
  have HW0 : Hid _ := hW0
  obtain ⟨sz, hsz⟩ : ∃ z, Dm.sizeR (Dm.tk d.r) = z := ⟨_, rfl⟩
  have HO : Hid (onlyW d = if sz = 1 then (Dm.lo d.r 0, true) else (0, false)) := by rw [← hsz]; exact rfl
  rw [hsz] at kb
  by_cases h1 : sz = 1
  · subst h1
    have hR : 0 < d.r.length := by
      rcases Nat.eq_zero_or_pos d.r.length with e | e
      · have e0 : d.r = [] := List.length_eq_zero_iff.1 e
        rw [e0] at hsz
        have : Dm.sizeR (Dm.tk []) = 0 := by rw [Dm.tk_yes Dm.right_nil]; rfl
        omega
      · exact e
    obtain ⟨a, cp, he, hcell⟩ := (H1.out.kept (Kept.of_below hb0)).sr
    injection he with he1 he2 he3
    subst he1 he3
    obtain ⟨bb, off, rfl, hlt, hc⟩ := hcell hR
    have hc0 := (hc 0 hR).1
    have hc1 : W0.cell? ⟨bb, off, none⟩ = some (.int .i64 (Dm.lo d.r 0)) := by simpa using hc0
    have HC0 : Hid (W0.cell? ⟨bb, off, none⟩ = some (.int .i64 (Dm.lo d.r 0))) := hc1
    clear hc1
    have hn0 : 0 < n0 := by omega
    have hcp : True := trivial
    clear hW0 hc hc0 hcell he2 hsz H2 H3 hs hf
    go_enter Tryd.func47, Tryd.ntmps47
    go_wp2_with fail
    rw [HW0.out]
    refine kb.mono ?_
    clear kb
    rintro e w1 ⟨rfl, hb1⟩
    have HB1 : Hid (Bx w1 W.heap.size _ _) := HB0.out.below hb1
    have HV1 : Hid (Bx w1 (W.heap.size + 1) _ _) := HV0.out.below hb1
    have hcc : w1.cell? ⟨bb, off, none⟩ = some (.int .i64 (Dm.lo d.r 0)) := (hb1.cell (p := ⟨bb, off, none⟩) hlt).trans HC0.out
    obtain ⟨z0, z1, z2, z3, z4, z5⟩ := HB1.out.six
    have hb2 : Below W.heap.size W w1 := hb0.trans (hb1.mono hb0.size)
    go_wp2_with (with_reducible refine stV rfl (.tmp 2) (.tmp 27) rfl (W.heap.size + 1) false (Dm.lo d.r 0) none 0 0 (by with_unfolding_all rfl) (by with_unfolding_all rfl) HV1.out rfl ?_)
    refine ⟨rfl, _, res_ct rfl _ (HV1.out.setRow _) (by with_unfolding_all rfl) rfl Tryd.underlying93 (by rw [Tryd.sizeVal]; rfl) (v := .bool true) (by with_unfolding_all rfl), ?_, below_row hb2 (by omega) _⟩
    rw [HO.out]; rfl
  · have HN1 : Hid (sz ≠ 1) := h1
    have hne : (sz != 1) = true := by simpa using h1
    clear hW0 hsz H1 H2 H3 hs hf HE
    go_enter Tryd.func47, Tryd.ntmps47
    go_wp2_with fail
    rw [HW0.out]
    refine kb.mono ?_
    clear kb
    rintro e w1 ⟨rfl, hb1⟩
    have HV1 : Hid (Bx w1 (W.heap.size + 1) _ _) := HV0.out.below hb1
    have hb2 : Below W.heap.size W w1 := hb0.trans (hb1.mono hb0.size)
    go_wp2_with (with_reducible refine stV rfl (.tmp 2) (.tmp 21) rfl (W.heap.size + 1) false 0 none 0 0 (by with_unfolding_all rfl) (by with_unfolding_all rfl) HV1.out rfl ?_)
    refine ⟨rfl, _, res_ct rfl _ (HV1.out.setRow _) (by with_unfolding_all rfl) rfl Tryd.underlying93 (by rw [Tryd.sizeVal]; rfl) (v := .bool false) (by with_unfolding_all rfl), ?_, below_row hb2 (by omega) _⟩
    rw [HO.out, if_neg HN1.out]
end Go.Proofs.YtfcaemfledlnnaaDoor
