/-
  What is proved here: cons.Copy of a constraint.
-/
import Derived.Test.YtpgecdhieakilaaGreatDoorKan
namespace Go.Proofs.YtpgecdhieakilaaGreatDoor
open Go.RowKit Go.Shelf
set_option linter.unusedVariables false
set_option linter.unusedSimpArgs false

/-- Arguments in a block of their own, the first of which are copied. -/
structure CpA (B : Nat) (W w : World) (g : Nat) (l : List Ag) (svl : List Value) (k : Nat) : Prop where
  len : svl.length = l.length
  ge : W.heap.size ≤ g
  row : ∃ cur, Blk w g cur 54 ∧ ∀ (i : Nat) (ag : Ag) sv, l[i]? = some ag → svl[i]? = some sv → cur[i * 2]? = some (.bool ag.arr) ∧ cur[i * 2 + 1]? = some sv
  old : ∀ (i : Nat) (ag : Ag) sv, k ≤ i → l[i]? = some ag → svl[i]? = some sv → St B W sv ag.l
  new : ∀ (i : Nat) (ag : Ag) sv, i < k → l[i]? = some ag → svl[i]? = some sv → St (g + 1) w sv ag.l ∧ OkT (g + 1) w sv
  bel : Below W.heap.size W w
theorem CpA.lt {B : Nat} {W w : World} {g : Nat} {l : List Ag} {svl : List Value} {k : Nat} (h : CpA B W w g l svl k) : g < w.heap.size := by
  obtain ⟨cur, hc, _⟩ := h.row; exact hc.lt
theorem CpA.below {B : Nat} {W w w' : World} {g : Nat} {l : List Ag} {svl : List Value} {k : Nat} (h : CpA B W w g l svl k) (hb : Below w.heap.size w w') : CpA B W w' g l svl k := by
  obtain ⟨cur, hc, hr⟩ := h.row
  exact ⟨h.len, h.ge, ⟨cur, hc.below hb, hr⟩, h.old, fun i t sv h1 h2 h3 => ⟨(h.new i t sv h1 h2 h3).1.below hb, (h.new i t sv h1 h2 h3).2.below hb⟩, h.bel.trans (hb.mono h.bel.size)⟩
theorem CpA.cells {B : Nat} {W w : World} {g : Nat} {l : List Ag} {svl : List Value} {k i : Nat} {t : Ag} {sv : Value} (h : CpA B W w g l svl k) (h1 : l[i]? = some t) (h2 : svl[i]? = some sv) : w.cell? ⟨g, i * 2, none⟩ = some (.bool t.arr) ∧ w.cell? ⟨g, i * 2 + 1, none⟩ = some sv ∧ ∀ j, w.frozen? ⟨g, j, none⟩ = false := by
  obtain ⟨cur, hc, hr⟩ := h.row
  have := hr i t sv h1 h2
  exact ⟨(hc.cell _).trans this.1, (hc.cell _).trans this.2, hc.frozen⟩
theorem CpA.step {B : Nat} {W w : World} {g : Nat} {l : List Ag} {svl : List Value} {k : Nat} {t : Ag} {v : Value} (h : CpA B W w g l svl k) (h1 : l[k]? = some t) (hv : St (g + 1) w v t.l) (hk : OkT (g + 1) w v) : CpA B W (w.setCell ⟨g, k * 2 + 1, none⟩ v) g l (svl.set k v) (k + 1) := by
  have hkl : k < l.length := (List.getElem?_eq_some_iff.1 h1).1
  obtain ⟨sv0, h20⟩ : ∃ sv, svl[k]? = some sv := ⟨_, List.getElem?_eq_getElem (by rw [h.len]; exact hkl)⟩
  obtain ⟨cur, hc, hr⟩ := h.row
  have hsz : k * 2 + 1 < cur.size := (Array.getElem?_eq_some_iff.1 (hr k t sv0 h1 h20).2).1
  refine ⟨by simp [h.len], h.ge, ⟨_, hc.set _ _, fun i t' sv h3 h4 => ?_⟩, fun i t' sv h5 h3 h4 => ?_, fun i t' sv h5 h3 h4 => ?_, h.bel.trans ((Below.refl _ w).setCell h.ge _)⟩
  · rw [List.getElem?_set] at h4
    by_cases e : k = i
    · subst e
      rw [h1] at h3; cases h3
      rw [if_pos rfl, if_pos (by rw [h.len]; exact hkl)] at h4
      cases h4
      exact ⟨by rw [Array.getElem?_setIfInBounds_ne (by omega)]; exact (hr k t sv0 h1 h20).1, by rw [Array.getElem?_setIfInBounds_self_of_lt hsz]⟩
    · rw [if_neg e] at h4
      exact ⟨by rw [Array.getElem?_setIfInBounds_ne (by omega)]; exact (hr i t' sv h3 h4).1, by rw [Array.getElem?_setIfInBounds_ne (by omega)]; exact (hr i t' sv h3 h4).2⟩
  · rw [List.getElem?_set, if_neg (by omega)] at h4
    exact h.old i t' sv (by omega) h3 h4
  · rw [List.getElem?_set] at h4
    by_cases e : k = i
    · subst e
      rw [h1] at h3; cases h3
      rw [if_pos rfl, if_pos (by rw [h.len]; exact hkl)] at h4
      cases h4
      exact ⟨hv.setO (by omega) _ _, hk.other (by omega) _ _⟩
    · rw [if_neg e] at h4
      have := h.new i t' sv (by omega) h3 h4
      exact ⟨this.1.setO (by omega) _ _, this.2.other (by omega) _ _⟩
theorem CpA.done {B : Nat} {W w : World} {g : Nat} {l : List Ag} {svl : List Value} {n : Nat} (h : CpA B W w g l svl n) (hl : l.length = n) (hn : n ≤ 140737488351232) (c : Nat) : Sa W.heap.size w (.slice (some ⟨g, 0, none⟩) n c) l ∧ OkA W.heap.size w (.slice (some ⟨g, 0, none⟩) n c) := by
  obtain ⟨cur, hc, hr⟩ := h.row
  have hge := h.ge
  refine ⟨⟨_, c, by rw [hl], fun _ => ⟨g, 0, svl, rfl, h.ge, hc.lt, h.len, fun i t sv h1 h2 => ⟨((h.new i t sv (by have := (List.getElem?_eq_some_iff.1 h1).1; omega) h1 h2).1).lower (by omega), by rw [Nat.zero_add]; exact (hc.cell _).trans (hr i t sv h1 h2).1, by rw [Nat.zero_add]; exact (hc.cell _).trans (hr i t sv h1 h2).2⟩⟩⟩, _, n, c, rfl, hn, fun h0 => ⟨g, cur, rfl, h.ge, hc, ?_, fun j hj => ?_⟩⟩
  · obtain ⟨t, h1⟩ : ∃ t, l[n - 1]? = some t := ⟨_, List.getElem?_eq_getElem (by omega)⟩
    obtain ⟨sv, h2⟩ : ∃ sv, svl[n - 1]? = some sv := ⟨_, List.getElem?_eq_getElem (by rw [h.len]; omega)⟩
    have := (Array.getElem?_eq_some_iff.1 (hr _ t sv h1 h2).2).1
    omega
  · obtain ⟨t, h1⟩ : ∃ t, l[j]? = some t := ⟨_, List.getElem?_eq_getElem (by omega)⟩
    obtain ⟨sv, h2⟩ : ∃ sv, svl[j]? = some sv := ⟨_, List.getElem?_eq_getElem (by rw [h.len]; omega)⟩
    exact ⟨⟨_, (hr j t sv h1 h2).1⟩, sv, (hr j t sv h1 h2).2, ((h.new j t sv hj h1 h2).2).lower (by omega)⟩
theorem Sa.setO {B : Nat} {W : World} {s : Value} {l : List Ag} (h : Sa B W s l) {k : Nat} (hk : k < B) (i : Nat) (v : Value) : Sa B (W.setCell ⟨k, i, none⟩ v) s l := by
  obtain ⟨a, c, e, h⟩ := h
  refine ⟨a, c, e, fun h0 => ?_⟩
  obtain ⟨b, off, svl, e1, e0, e2, e3, e4⟩ := h h0
  have hne : b ≠ k := by omega
  have hc := fun o => (World.cell?_of_block (w := W) (a := ⟨b, o, none⟩) (Below.heap_setCell W ⟨k, i, none⟩ v b hne))
  refine ⟨b, off, svl, e1, e0, by rw [World.size_setCell]; exact e2, e3, fun j t sv h1 h2 => ⟨((e4 j t sv h1 h2).1).setO hk i v, (hc _).trans (e4 j t sv h1 h2).2.1, (hc _).trans (e4 j t sv h1 h2).2.2⟩⟩
theorem OkA.below {B : Nat} {w w' : World} {s : Value} (h : OkA B w s) (hb : Below w.heap.size w w') : OkA B w' s := by
  obtain ⟨p, n, c, e, hn, h⟩ := h
  exact ⟨p, n, c, e, hn, fun h0 => by obtain ⟨g, cs, e1, e2, e3, e4, e5⟩ := h h0; exact ⟨g, cs, e1, e2, e3.below hb, e4, fun j hj => by obtain ⟨h3, s, h1, h2⟩ := e5 j hj; exact ⟨h3, s, h1, h2.below hb⟩⟩⟩
theorem OkA.other {B : Nat} {w : World} {s : Value} (h : OkA B w s) {k : Nat} (hk : k < B) (i : Nat) (v : Value) : OkA B (w.setCell ⟨k, i, none⟩ v) s := by
  obtain ⟨p, n, c, e, hn, h⟩ := h
  exact ⟨p, n, c, e, hn, fun h0 => by obtain ⟨g, cs, e1, e2, e3, e4, e5⟩ := h h0; exact ⟨g, cs, e1, e2, e3.other (by omega) i v, e4, fun j hj => by obtain ⟨h3, s, h1, h2⟩ := e5 j hj; exact ⟨h3, s, h1, h2.other hk i v⟩⟩⟩
theorem OkA.lower {B B' : Nat} {w : World} {s : Value} (h : OkA B w s) (hb : B' ≤ B) : OkA B' w s := by
  obtain ⟨p, n, c, e, hn, h⟩ := h
  exact ⟨p, n, c, e, hn, fun h0 => by obtain ⟨g, cs, e1, e2, e3, e4, e5⟩ := h h0; exact ⟨g, cs, e1, Nat.le_trans hb e2, e3, e4, fun j hj => by obtain ⟨h3, s, h1, h2⟩ := e5 j hj; exact ⟨h3, s, h1, h2.lower hb⟩⟩⟩
theorem Sa.lowerO {B B' : Nat} {W : World} {s : Value} {l : List Ag} (h : Sa B W s l) (hb : B' ≤ B) : Sa B' W s l := by
  obtain ⟨a, c, e, h⟩ := h
  exact ⟨a, c, e, fun h0 => by obtain ⟨b, off, svl, e1, e0, e2, e3, e4⟩ := h h0; exact ⟨b, off, svl, e1, Nat.le_trans hb e0, e2, e3, fun j t sv h1 h2 => ⟨((e4 j t sv h1 h2).1).lower hb, (e4 j t sv h1 h2).2⟩⟩⟩
theorem CpA.start {B : Nat} {W w : World} {g n cap : Nat} {cs : Array Value} {l : List Ag} {svl : List Value} (hs : svl.length = l.length) (hg : W.heap.size ≤ g) (hc : Blk w g cs 54) (hx : ∀ j, j < l.length * 2 → cs[j]? = (acells l svl)[j]?) (ho : ∀ (i : Nat) (t : Ag) sv, l[i]? = some t → svl[i]? = some sv → St B W sv t.l) (hb : Below W.heap.size W w) : CpA B W w g l svl 0 :=
  ⟨hs, hg, ⟨cs, hc, fun i t sv h1 h2 => by
    have hi := (List.getElem?_eq_some_iff.1 h1).1
    have := acells_get l svl hs i t sv h1 h2
    rw [hx _ (by omega), hx _ (by omega)]
    exact this⟩, fun i t sv _ h1 h2 => ho i t sv h1 h2, fun i t sv h0 => by omega, hb⟩
set_option maxRecDepth 100000 in
set_option maxHeartbeats 4000000 in
theorem copy_any {B : Nat} {W : World} {a8 : Option Addr} {n c : Nat} {ags : List Ag} (nm : ByteArray) (h : Sa B W (.slice a8 n c) ags) (hlen : ags.length = n) (hn : n ≤ 4398046510976) (hz : ∀ g ∈ ags, g.l.length ≤ 2932031007317 ∧ ∀ t ∈ g.l, t.s.length ≤ 17592186043904) :
    Calls Tryz.prog 22 #[.agg #[.string nm, .slice a8 n c]] W fun e w' => ∃ v, e = .returned (.agg #[.string nm, v]) ∧ Sa W.heap.size w' v ags ∧ OkA W.heap.size w' v ∧ Below W.heap.size W w' := by
  have HLEN := hid hlen
  have HZ := hid hz
  have HN9 : Hid (ags.length ≤ 4398046510976) := by rw [Hid, hlen]; exact hn
  obtain ⟨B0, hB0⟩ : ∃ x, W.heap.size = x := ⟨_, rfl⟩
  obtain ⟨W1, hW1⟩ : ∃ X, (W.alloc (Obj.cells #[.string nm, .slice a8 n c] 32)).alloc (Obj.cells #[.string ⟨#[]⟩, .slice none 0 0] 32) = X := ⟨_, rfl⟩
  have KA : Hid (Blk W1 B0 #[.string nm, .slice a8 n c] 32) := by rw [Hid, ← hW1, ← hB0]; exact (Blk.new W _ _).alloc _
  have KR : Hid (Blk W1 (B0 + 1) #[.string ⟨#[]⟩, .slice none 0 0] 32) := by rw [Hid, ← hW1, ← hB0]; exact Blk.new2 W _ _ _
  have HB1 : Hid (Below B0 W W1) := by rw [Hid, ← hW1, ← hB0]; exact ((Below.refl _ W).alloc (Nat.le_refl _) _).alloc (by simp) _
  have HW1 : Hid _ := hW1
  have HB0 : Hid (W.heap.size = B0) := hB0
  have HB0s : Hid (B0 ≤ W1.heap.size) := by have := HB1.out.size; rw [hB0] at this; exact this
  have HA1 : Hid (Sa B W1 (.slice a8 n c) ags) := h.below (by rw [hB0]; exact HB1.out)
  have xc := KA.out.cell 1
  have xn := KA.out.cell 0
  have hB0W1 := KA.out.lt
  simp only [List.getElem?_toArray, List.getElem?_cons_succ, List.getElem?_cons_zero] at xc xn
  clear hW1 hB0 h hlen hn hz
  go_enter Tryz.func22, Tryz.ntmps22
  go_upto_region 1 with (fail)
  rw [HW1.out]
  (try simp only [World.size_alloc])
  rw [HB0.out]
  have hB := Below.drew (Below.refl W1.heap.size W1)
  refine wp_region_held_drew (S := (fun w' => Below W1.heap.size W1 w')) (by kernel_rfl) (hB) (fun hHeld => ?_)
  refine wpAnyH_take (i := 0) (oi := { dst := some 6, op := Go.Op.fieldAddr 32 (Go.Operand.tmp 1) 0, type := 0, pos := "cons.go:66", after := #[], guard := none }) (v := ?_) rfl (by kernel_rfl) (by kernel_rfl) (by kernel_rfl) (fun _ _ _ h => h) (Or.inl ⟨by rfl, ?_⟩) hHeld ?_
  rotate_left
  · intro w hSw; (try dsimp only at hSw); go_simp <;> with_reducible rfl
  try simp only [Act.put, List.setIfInBounds_toArray, List.set_cons_zero, List.set_cons_succ]
  refine wpAnyH_take (i := 1) (oi := { dst := some 7, op := Go.Op.load 9 (Go.Operand.tmp 6), type := 9, pos := "cons.go:66", after := #[{ on := 0, ground := Go.Ground.data }], guard := none }) (v := ?_) rfl (by kernel_rfl) (by kernel_rfl) (by kernel_rfl) (fun _ _ _ h => h) (Or.inl ⟨by rfl, ?_⟩) hHeld ?_
  rotate_left
  · intro w hSw; have y0 := (hSw.cell (p := ⟨B0, 0, none⟩) hB0W1).trans xn; clear hSw; go_simp <;> with_reducible rfl
  try simp only [Act.put, List.setIfInBounds_toArray, List.set_cons_zero, List.set_cons_succ]
  refine wpAnyH_take (i := 2) (oi := { dst := some 8, op := Go.Op.fieldAddr 32 (Go.Operand.tmp 1) 1, type := 0, pos := "cons.go:66", after := #[], guard := none }) (v := ?_) rfl (by kernel_rfl) (by kernel_rfl) (by kernel_rfl) (fun _ _ _ h => h) (Or.inl ⟨by rfl, ?_⟩) hHeld ?_
  rotate_left
  · intro w hSw; (try dsimp only at hSw); go_simp <;> with_reducible rfl
  try simp only [Act.put, List.setIfInBounds_toArray, List.set_cons_zero, List.set_cons_succ]
  refine wpAnyH_take (i := 3) (oi := { dst := some 9, op := Go.Op.load 30 (Go.Operand.tmp 8), type := 30, pos := "cons.go:66", after := #[{ on := 2, ground := Go.Ground.data }], guard := none }) (v := ?_) rfl (by kernel_rfl) (by kernel_rfl) (by kernel_rfl) (fun _ _ _ h => h) (Or.inl ⟨by rfl, ?_⟩) hHeld ?_
  rotate_left
  · intro w hSw; have y0 := (hSw.cell (p := ⟨B0, 1, none⟩) hB0W1).trans xc; clear hSw; go_simp <;> with_reducible rfl
  try simp only [Act.put, List.setIfInBounds_toArray, List.set_cons_zero, List.set_cons_succ]
  refine wpAnyH_ready (rs := [4, 6]) (by kernel_rfl) (by simp) ?_
  refine AllReadyH.cons rfl (fun K hK => ?_) ?_
  · go_simp
    have hgeB := hB.size
    refine (clone57s HA1.out hB HN9.out).mono ?_
    rintro e wc ⟨v, rfl, ⟨svl, hs, ho, hown⟩, hbc⟩
    obtain ⟨pA, cA, rfl⟩ := own_shape hown
    have hB := hB.trans (hbc.mono hB.size)
    clear hbc
    refine hK.out _ _ (hB) (fun hHeld2 => ?_)
    clear hK K hHeld
    have hHeld := hHeld2
    clear hHeld2
    try simp only [Act.put, List.setIfInBounds_toArray, List.set_cons_zero, List.set_cons_succ]
    refine wpAnyH_take (i := 5) (oi := { dst := some 11, op := Go.Op.build 32 #[(0, Go.Operand.tmp 7), (1, Go.Operand.tmp 10)], type := 32, pos := "cons.go:66", after := #[{ on := 1, ground := Go.Ground.data }, { on := 4, ground := Go.Ground.data }], guard := none }) (v := ?_) rfl (by kernel_rfl) (by kernel_rfl) (by kernel_rfl) (fun _ _ _ h => h) (Or.inl ⟨by rfl, ?_⟩) hHeld ?_
    rotate_left
    · intro w hSw; (try dsimp only at hSw); go_simp <;> with_reducible rfl
    try simp only [Act.put, List.setIfInBounds_toArray, List.set_cons_zero, List.set_cons_succ]
    refine wpAnyH_ready (rs := [6]) (by kernel_rfl) (by simp) ?_
    refine AllReadyH.cons rfl (fun K hK => ?_) AllReadyH.nil
    have hBc := hB
    go_simp
    have KN := Blk.new wc #[.string ⟨#[]⟩, .slice none 0 0] 32
    have hal := (Below.refl _ wc).alloc (Nat.le_refl _) (Obj.cells #[.string ⟨#[]⟩, .slice none 0 0] 32)
    have hown := own_keepB hown hal
    have hB := hB.trans (hal.mono hB.size)
    obtain ⟨wd, hwd⟩ : ∃ X, wc.alloc (Obj.cells #[.string ⟨#[]⟩, .slice none 0 0] 32) = X := ⟨_, rfl⟩
    obtain ⟨b3, hb3⟩ : ∃ X, wc.heap.size = X := ⟨_, rfl⟩
    have hb3g : W1.heap.size ≤ b3 := by rw [← hb3]; exact hBc.size
    rw [hwd] at KN hB hown ⊢
    rw [hb3] at KN ⊢
    clear hwd hb3 hal
    refine hK.out _ _ (hB) (fun hHeld2 => ?_)
    clear hK K hHeld
    have hHeld := hHeld2
    clear hHeld2
    try simp only [Act.put, List.setIfInBounds_toArray, List.set_cons_zero, List.set_cons_succ]
    refine wpAnyH_ready (rs := [7]) (by kernel_rfl) (by simp) ?_
    refine AllReadyH.cons rfl (fun K hK => ?_) AllReadyH.nil
    have f0 := KN.cell 0
    have f1 := KN.cell 1
    have ff := KN.frozen
    simp only [List.getElem?_toArray, List.getElem?_cons_succ, List.getElem?_cons_zero] at f0 f1
    go_simp
    rw [HLEN.out] at hown ⊢
    have hgg := own_ge hown
    have KN0 := KN
    have KN : Blk ((wd.setCell ⟨b3, 0, none⟩ (.string nm)).setCell ⟨b3, 1, none⟩ (.slice pA n cA)) b3 #[.string nm, .slice pA n cA] 32 := (KN.set 0 (.string nm)).set 1 (.slice pA n cA)
    have hB : Below W1.heap.size W1 ((wd.setCell ⟨b3, 0, none⟩ (.string nm)).setCell ⟨b3, 1, none⟩ (.slice pA n cA)) := (hB.setCell hb3g _).setCell hb3g _
    refine hK.out _ _ (hB) (fun hHeld2 => ?_)
    clear hK K hHeld
    have hHeld := hHeld2
    clear hHeld2
    try simp only [Act.put, List.setIfInBounds_toArray, List.set_cons_zero, List.set_cons_succ]
    refine wpAnyH_done (by kernel_rfl) ?_ _
    have HSS : pA = none ∧ n = 0 ∧ cA = 0 ∨ ∃ g, pA = some ⟨g, 0, none⟩ ∧ CpA B W1 ((wd.setCell ⟨b3, 0, none⟩ (.string nm)).setCell ⟨b3, 1, none⟩ (.slice pA n cA)) g ags svl 0 := by
      rcases hgg with ⟨e1, e2⟩ | ⟨g, cap, cs, e1, hge, hgb, hsz, hx⟩
      · injection e1 with q1 q2 q3
        exact .inl ⟨q1, q2, q3⟩
      · injection e1 with q1 q2 q3
        have hne : g ≠ b3 := blk_ne hgb KN0 (by decide)
        exact .inr ⟨g, q1, CpA.start (n := n) (cap := cap) hs (by exact Nat.le_trans hgeB hge) ((hgb.other hne 0 _).other hne 1 _) (by rw [HLEN.out]; exact hx) ho hB⟩
    obtain ⟨wS, hwS⟩ : ∃ X, (wd.setCell ⟨b3, 0, none⟩ (.string nm)).setCell ⟨b3, 1, none⟩ (.slice pA n cA) = X := ⟨_, rfl⟩
    rw [hwS] at HSS KN hB ⊢
    have KN1 := hid KN
    have HBS := hid hB
    have KRS := hid (KR.out.below hB)
    have hRW : Hid (B0 + 1 < W1.heap.size) := KR.out.lt
    have HB3 := hid hb3g
    clear hwS hgg KN0 hown KN hB hs ho f0 f1 ff hHeld hb3g hgeB
    have xk := KN1.out.cell 1
    simp only [List.getElem?_toArray, List.getElem?_cons_succ, List.getElem?_cons_zero] at xk
    rcases HSS with ⟨rfl, rfl, rfl⟩ | ⟨g, rfl, HC⟩
    · have HKR : Hid (Blk wS (B0 + 1) #[.string ⟨#[]⟩, .slice none 0 0] 32) := KRS.out
      go_wp2
      go_loopw [15] (fun i wr => i = .int .i64 0 ∧ wS = wr) (fun i _ => 0)
      case atStart => exact ⟨rfl, rfl⟩
      case round =>
        obtain ⟨rfl, rfl⟩ := hrel
        have r0 := HKR.out.cell 0
        have r1 := HKR.out.cell 1
        have rf := HKR.out.frozen
        have k0 := KN1.out.cell 0
        simp only [List.getElem?_toArray, List.getElem?_cons_succ, List.getElem?_cons_zero] at r0 r1 k0
        have hl0 : ags = [] := List.length_eq_zero_iff.1 HLEN.out
        go_wp2
        exact ⟨rfl, _, results_cell_row (P := Tryz.prog) rfl _ _ (B0 + 1) 32 _ (0, 0) _ rfl ((HKR.out.set 0 _).set 1 _).h Tryz.underlying32 rfl (by kernel_rfl), _, rfl, ⟨none, 0, by rw [hl0]; rfl, fun h => by rw [hl0] at h; simp at h⟩, ⟨none, 0, 0, rfl, by omega, fun h => by omega⟩, by rw [HB0.out]; exact ((HB1.out.trans (HBS.out.mono HB0s.out)).setCell (by simp) _).setCell (by simp) _⟩
    · have HC1 := hid HC
      have HKR : Hid (Blk wS (B0 + 1) #[.string ⟨#[]⟩, .slice none 0 0] 32) := KRS.out
      clear HC
      go_wp2
      go_loopw [15] (fun i wr => ∃ k : Nat, k ≤ n ∧ i = .int .i64 (k : Int) ∧ ∃ sl, Hid (CpA B W1 wr g ags sl k) ∧ Hid (Blk wr b3 #[.string nm, .slice (some ⟨g, 0, none⟩) n cA] 32) ∧ Hid (Blk wr (B0 + 1) #[.string ⟨#[]⟩, .slice none 0 0] 32)) (fun i _ => n - (intOf i).toNat)
      case atStart => exact ⟨0, Nat.zero_le _, rfl, svl, HC1, KN1, HKR⟩
      case round =>
        obtain ⟨k, hk, rfl, sl, HK, HKN, HKR⟩ := hrel
        have xk := HKN.out.cell 1
        have k0 := HKN.out.cell 0
        simp only [List.getElem?_toArray, List.getElem?_cons_succ, List.getElem?_cons_zero] at xk k0
        by_cases hlt : k < n
        · have hlt' : (k : Int) < n := by omega
          have hw2 : IntKind.i64.wrap ((k : Int) + 1) = (k : Int) + 1 := by rw [IntKind.wrap_i64]; have := HN9.out; rw [HLEN.out] at this; omega
          obtain ⟨ag, h1⟩ : ∃ t, ags[k]? = some t := ⟨_, List.getElem?_eq_getElem (by rw [HLEN.out]; exact hlt)⟩
          obtain ⟨sv, h2⟩ : ∃ sv, sl[k]? = some sv := ⟨_, List.getElem?_eq_getElem (by rw [HK.out.len, HLEN.out]; exact hlt)⟩
          have HAG := hid h1
          have hst := HK.out.old k ag sv (Nat.le_refl _) h1 h2
          obtain ⟨z0, z1, _⟩ := HK.out.cells h1 h2
          have hst' := hst
          obtain ⟨av, cv, rfl, _⟩ := hst
          have HST := hid hst'
          obtain ⟨mq, hmq⟩ : ∃ x, ag.l.length = x := ⟨_, rfl⟩
          have HMQ := hid hmq
          obtain ⟨ar, har⟩ : ∃ x, ag.arr = x := ⟨_, rfl⟩
          rw [har] at z0; rw [hmq] at z1 HST
          have hzz := HZ.out ag (List.mem_of_getElem? h1)
          rw [hmq] at hzz
          have HQZ := hid hzz
          clear hst' hmq har h1 h2 hzz
          go_upto_region 5 with (fail)
          have hal := (Below.refl wr.heap.size wr).alloc (Nat.le_refl _) (Obj.cells #[.bool ar, .slice av mq cv] 54)
          have K9 := Blk.new wr #[.bool ar, .slice av mq cv] 54
          have H9G : Hid (wr.heap.size ≠ g) := by have := HK.out.lt; exact hid (by omega)
          have HK2 := hid (HK.out.below hal)
          have HKN2 := hid (HKN.out.below hal)
          have HKR2 := hid (HKR.out.below hal)
          obtain ⟨X, hX⟩ : ∃ X, wr.alloc (Obj.cells #[.bool ar, .slice av mq cv] 54) = X := ⟨_, rfl⟩
          obtain ⟨b9, hb9⟩ : ∃ X, wr.heap.size = X := ⟨_, rfl⟩
          rw [hX] at K9 HK2 HKN2 HKR2 ⊢
          rw [hb9] at K9 H9G ⊢
          have hXd := Below.drew (Below.refl X.heap.size X)
          have HK3 := hid (HK2.out.below hXd)
          have HKN3 := hid (HKN2.out.below hXd)
          have HKR3 := hid (HKR2.out.below hXd)
          have K9d := K9.below hXd
          have v9 := K9d.cell 1
          have v3 := HKN3.out.cell 1
          simp only [List.getElem?_toArray, List.getElem?_cons_succ, List.getElem?_cons_zero] at v9 v3
          have kT := copyTermsS (HST.out.below HK3.out.bel) (by rw [HMQ.out]; exact HQZ.out.1) HQZ.out.2
          clear hX hb9 hal K9 hXd z0 z1 xk k0
    
    
          refine wp_region_held_drew (S := (fun w' => w'.cell? ⟨b3, 1, none⟩ = some (.slice (some ⟨g, 0, none⟩) n cA) ∧ w'.cell? ⟨b9, 1, none⟩ = some (.slice av mq cv))) (by kernel_rfl) (⟨v3, v9⟩) (fun hHeld => ?_)
          refine wpAnyH_take (i := 0) (oi := { dst := some 20, op := Go.Op.fieldAddr 32 (Go.Operand.tmp 3) 1, type := 0, pos := "cons.go:68", after := #[], guard := none }) (v := ?_) rfl (by kernel_rfl) (by kernel_rfl) (by kernel_rfl) (fun _ _ _ h => h) (Or.inl ⟨by rfl, ?_⟩) hHeld ?_
          rotate_left
          · intro w hSw; (try dsimp only at hSw); go_simp <;> with_reducible rfl
          try simp only [Act.put, List.setIfInBounds_toArray, List.set_cons_zero, List.set_cons_succ]
          refine wpAnyH_take (i := 1) (oi := { dst := some 21, op := Go.Op.load 30 (Go.Operand.tmp 20), type := 30, pos := "cons.go:68", after := #[{ on := 0, ground := Go.Ground.data }], guard := none }) (v := ?_) rfl (by kernel_rfl) (by kernel_rfl) (by kernel_rfl) (fun _ _ _ h => h) (Or.inl ⟨by rfl, ?_⟩) hHeld ?_
          rotate_left
          · intro w hSw; obtain ⟨y0, _⟩ := hSw; go_simp <;> with_reducible rfl
          try simp only [Act.put, List.setIfInBounds_toArray, List.set_cons_zero, List.set_cons_succ]
          refine wpAnyH_take (i := 2) (oi := { dst := some 22, op := Go.Op.move (Go.Operand.tmp 4), type := 3, pos := "cons.go:68", after := #[], guard := none }) (v := ?_) rfl (by kernel_rfl) (by kernel_rfl) (by kernel_rfl) (fun _ _ _ h => h) (Or.inl ⟨by rfl, ?_⟩) hHeld ?_
          rotate_left
          · intro w hSw; (try dsimp only at hSw); go_simp <;> with_reducible rfl
          try simp only [Act.put, List.setIfInBounds_toArray, List.set_cons_zero, List.set_cons_succ]
          refine wpAnyH_take (i := 3) (oi := { dst := some 23, op := Go.Op.fieldAddr 54 (Go.Operand.tmp 5) 1, type := 0, pos := "cons.go:68", after := #[], guard := none }) (v := ?_) rfl (by kernel_rfl) (by kernel_rfl) (by kernel_rfl) (fun _ _ _ h => h) (Or.inl ⟨by rfl, ?_⟩) hHeld ?_
          rotate_left
          · intro w hSw; (try dsimp only at hSw); go_simp <;> with_reducible rfl
          try simp only [Act.put, List.setIfInBounds_toArray, List.set_cons_zero, List.set_cons_succ]
          refine wpAnyH_take (i := 4) (oi := { dst := some 24, op := Go.Op.load 52 (Go.Operand.tmp 23), type := 52, pos := "cons.go:68", after := #[{ on := 3, ground := Go.Ground.data }], guard := none }) (v := ?_) rfl (by kernel_rfl) (by kernel_rfl) (by kernel_rfl) (fun _ _ _ h => h) (Or.inl ⟨by rfl, ?_⟩) hHeld ?_
          rotate_left
          · intro w hSw; obtain ⟨_, y0⟩ := hSw; go_simp <;> with_reducible rfl
          try simp only [Act.put, List.setIfInBounds_toArray, List.set_cons_zero, List.set_cons_succ]
          refine wpAnyH_ready (rs := [5]) (by kernel_rfl) (by simp) ?_
          refine AllReadyH.cons rfl (fun K hK => ?_) AllReadyH.nil
          go_simp
          refine kT.mono ?_
          clear kT
          rintro e w2 ⟨v2, rfl, hst2, hok2, hb2⟩
          have HK4 := hid (HK3.out.below hb2)
          have HKN4 := hid (HKN3.out.below hb2)
          have HKR4 := hid (HKR3.out.below hb2)
          have K94 := K9d.below hb2
          have hgl : g + 1 ≤ X.drew.heap.size := HK3.out.lt
          have HST2 := hid (hst2.lower hgl)
          have HOK2 := hid (hok2.lower hgl)
          obtain ⟨a9, c9, rfl, _⟩ := hst2
          rw [HMQ.out] at HST2 HOK2 ⊢
          obtain ⟨sv, h2⟩ : ∃ sv, sl[k]? = some sv := ⟨_, List.getElem?_eq_getElem (by rw [HK4.out.len, HLEN.out]; exact hlt)⟩
          obtain ⟨_, z1, zf⟩ := HK4.out.cells HAG.out h2
          have v9 := K94.cell 1
          have v3 := HKN4.out.cell 1
          simp only [List.getElem?_toArray, List.getElem?_cons_succ, List.getElem?_cons_zero] at v9 v3
          clear h2 hb2 hok2
          refine hK.out _ _ (⟨v3, v9⟩) (fun hHeld2 => ?_)
          clear hK K hHeld
          have hHeld := hHeld2
          clear hHeld2
          try simp only [Act.put, List.setIfInBounds_toArray, List.set_cons_zero, List.set_cons_succ]
          refine wpAnyH_take (i := 6) (oi := { dst := some 26, op := Go.Op.indexAddr 30 (Go.Operand.tmp 21) (Go.Operand.tmp 22), type := 0, pos := "cons.go:68", after := #[{ on := 1, ground := Go.Ground.data }, { on := 2, ground := Go.Ground.data }, { on := 0, ground := Go.Ground.phase }, { on := 1, ground := Go.Ground.phase }, { on := 2, ground := Go.Ground.phase }, { on := 3, ground := Go.Ground.phase }, { on := 4, ground := Go.Ground.phase }, { on := 5, ground := Go.Ground.phase }], guard := none }) (v := ?_) rfl (by kernel_rfl) (by kernel_rfl) (by kernel_rfl) (fun _ _ _ h => h) (Or.inl ⟨by rfl, ?_⟩) hHeld ?_
          rotate_left
          · intro w hSw; (try dsimp only at hSw); go_simp <;> with_reducible rfl
          try simp only [Act.put, List.setIfInBounds_toArray, List.set_cons_zero, List.set_cons_succ]
          refine wpAnyH_take (i := 7) (oi := { dst := some 27, op := Go.Op.fieldAddr 54 (Go.Operand.tmp 26) 1, type := 0, pos := "cons.go:68", after := #[{ on := 6, ground := Go.Ground.data }, { on := 0, ground := Go.Ground.phase }, { on := 1, ground := Go.Ground.phase }, { on := 2, ground := Go.Ground.phase }, { on := 3, ground := Go.Ground.phase }, { on := 4, ground := Go.Ground.phase }, { on := 5, ground := Go.Ground.phase }], guard := none }) (v := ?_) rfl (by kernel_rfl) (by kernel_rfl) (by kernel_rfl) (fun _ _ _ h => h) (Or.inl ⟨by rfl, ?_⟩) hHeld ?_
          rotate_left
          · intro w hSw; (try dsimp only at hSw); go_simp <;> with_reducible rfl
          try simp only [Act.put, List.setIfInBounds_toArray, List.set_cons_zero, List.set_cons_succ]
          refine wpAnyH_ready (rs := [8]) (by kernel_rfl) (by simp) ?_
          refine AllReadyH.cons rfl (fun K hK => ?_) AllReadyH.nil
          go_simp
          have HS9 : Hid (CpA B W1 (w2.setCell ⟨g, k * 2 + 1, none⟩ (.slice a9 mq c9)) g ags (sl.set k (.slice a9 mq c9)) (k + 1)) := HK4.out.step HAG.out HST2.out HOK2.out
          have hg3 : b3 ≠ g := by obtain ⟨cur, hc, _⟩ := HK4.out.row; exact blk_ne HKN4.out hc (by decide)
          have hgr : B0 + 1 ≠ g := by obtain ⟨cur, hc, _⟩ := HK4.out.row; exact blk_ne HKR4.out hc (by decide)
          have HKN9 := hid (HKN4.out.other hg3 (k * 2 + 1) (.slice a9 mq c9))
          have HKR9 := hid (HKR4.out.other hgr (k * 2 + 1) (.slice a9 mq c9))
          have hg9 : b9 ≠ g := H9G.out
          have K99 := K94.other hg9 (k * 2 + 1) (.slice a9 mq c9)
          have v9 := K99.cell 1
          have v3 := HKN9.out.cell 1
          simp only [List.getElem?_toArray, List.getElem?_cons_succ, List.getElem?_cons_zero] at v9 v3
          refine hK.out _ _ (⟨v3, v9⟩) (fun hHeld2 => ?_)
          clear hK K hHeld
          have hHeld := hHeld2
          clear hHeld2
          try simp only [Act.put, List.setIfInBounds_toArray, List.set_cons_zero, List.set_cons_succ]
          refine wpAnyH_done (by kernel_rfl) ?_ _
          clear hHeld
          go_wp2
          go_roundw
          case rel => exact ⟨k + 1, by omega, by go_num, _, HS9, HKN9, HKR9⟩
          case measure => simp [intOf]; omega
    
        · have hlt' : ¬ (k : Int) < n := by omega
          obtain rfl : n = k := by omega
          have r0 := HKR.out.cell 0
          have r1 := HKR.out.cell 1
          have rf := HKR.out.frozen
          simp only [List.getElem?_toArray, List.getElem?_cons_succ, List.getElem?_cons_zero] at r0 r1
          have hdn := HK.out.done HLEN.out (by have := HN9.out; rw [HLEN.out] at this; omega) cA
          have HDN := hid hdn
          clear hdn
          go_wp2
          exact ⟨rfl, _, results_cell_row (P := Tryz.prog) rfl _ _ (B0 + 1) 32 _ (0, 0) _ rfl ((HKR.out.set 0 _).set 1 _).h Tryz.underlying32 rfl (by kernel_rfl), _, rfl, ((HDN.out.1.setO hRW.out _ _).setO hRW.out _ _).lowerO (by rw [HB0.out]; exact HB0s.out), ((HDN.out.2.other hRW.out _ _).other hRW.out _ _).lower (by rw [HB0.out]; exact HB0s.out), by rw [HB0.out]; exact ((HB1.out.trans (HK.out.bel.mono HB0s.out)).setCell (by simp) _).setCell (by simp) _⟩
  refine AllReadyH.cons rfl (fun K hK => ?_) ?_
  · go_simp
    have KN : Blk (W1.alloc (Obj.cells #[.string ⟨#[]⟩, .slice none 0 0] 32)).drew W1.heap.size #[.string ⟨#[]⟩, .slice none 0 0] 32 := ⟨World.alloc_heap_new W1 _⟩
    have hB : Below W1.heap.size W1 (W1.alloc (Obj.cells #[.string ⟨#[]⟩, .slice none 0 0] 32)).drew := Below.drew ((Below.refl _ W1).alloc (Nat.le_refl _) _)
    obtain ⟨wd, hwd⟩ : ∃ X, (W1.alloc (Obj.cells #[.string ⟨#[]⟩, .slice none 0 0] 32)).drew = X := ⟨_, rfl⟩
    obtain ⟨b3, hb3⟩ : ∃ X, W1.heap.size = X := ⟨_, rfl⟩
    have hb3g : W1.heap.size ≤ b3 := by omega
    rw [hwd] at KN hB ⊢
    rw [hb3] at KN ⊢
    clear hwd hb3
    refine hK.out _ _ (hB) (fun hHeld2 => ?_)
    clear hK K hHeld
    have hHeld := hHeld2
    clear hHeld2
    try simp only [Act.put, List.setIfInBounds_toArray, List.set_cons_zero, List.set_cons_succ]
    refine wpAnyH_ready (rs := [4]) (by kernel_rfl) (by simp) ?_
    refine AllReadyH.cons rfl (fun K hK => ?_) AllReadyH.nil
    go_simp
    have hgeB := hB.size
    refine (clone57s HA1.out hB HN9.out).mono ?_
    rintro e wc ⟨v, rfl, ⟨svl, hs, ho, hown⟩, hbc⟩
    obtain ⟨pA, cA, rfl⟩ := own_shape hown
    have KN := KN.below hbc
    have hB := hB.trans (hbc.mono hB.size)
    clear hbc
    refine hK.out _ _ (hB) (fun hHeld2 => ?_)
    clear hK K hHeld
    have hHeld := hHeld2
    clear hHeld2
    try simp only [Act.put, List.setIfInBounds_toArray, List.set_cons_zero, List.set_cons_succ]
    refine wpAnyH_take (i := 5) (oi := { dst := some 11, op := Go.Op.build 32 #[(0, Go.Operand.tmp 7), (1, Go.Operand.tmp 10)], type := 32, pos := "cons.go:66", after := #[{ on := 1, ground := Go.Ground.data }, { on := 4, ground := Go.Ground.data }], guard := none }) (v := ?_) rfl (by kernel_rfl) (by kernel_rfl) (by kernel_rfl) (fun _ _ _ h => h) (Or.inl ⟨by rfl, ?_⟩) hHeld ?_
    rotate_left
    · intro w hSw; (try dsimp only at hSw); go_simp <;> with_reducible rfl
    try simp only [Act.put, List.setIfInBounds_toArray, List.set_cons_zero, List.set_cons_succ]
    refine wpAnyH_ready (rs := [7]) (by kernel_rfl) (by simp) ?_
    refine AllReadyH.cons rfl (fun K hK => ?_) AllReadyH.nil
    have f0 := KN.cell 0
    have f1 := KN.cell 1
    have ff := KN.frozen
    simp only [List.getElem?_toArray, List.getElem?_cons_succ, List.getElem?_cons_zero] at f0 f1
    go_simp
    rw [HLEN.out] at hown ⊢
    have hgg := own_ge hown
    have KN0 := KN
    have KN : Blk ((wc.setCell ⟨b3, 0, none⟩ (.string nm)).setCell ⟨b3, 1, none⟩ (.slice pA n cA)) b3 #[.string nm, .slice pA n cA] 32 := (KN.set 0 (.string nm)).set 1 (.slice pA n cA)
    have hB : Below W1.heap.size W1 ((wc.setCell ⟨b3, 0, none⟩ (.string nm)).setCell ⟨b3, 1, none⟩ (.slice pA n cA)) := (hB.setCell hb3g _).setCell hb3g _
    refine hK.out _ _ (hB) (fun hHeld2 => ?_)
    clear hK K hHeld
    have hHeld := hHeld2
    clear hHeld2
    try simp only [Act.put, List.setIfInBounds_toArray, List.set_cons_zero, List.set_cons_succ]
    refine wpAnyH_done (by kernel_rfl) ?_ _
    have HSS : pA = none ∧ n = 0 ∧ cA = 0 ∨ ∃ g, pA = some ⟨g, 0, none⟩ ∧ CpA B W1 ((wc.setCell ⟨b3, 0, none⟩ (.string nm)).setCell ⟨b3, 1, none⟩ (.slice pA n cA)) g ags svl 0 := by
      rcases hgg with ⟨e1, e2⟩ | ⟨g, cap, cs, e1, hge, hgb, hsz, hx⟩
      · injection e1 with q1 q2 q3
        exact .inl ⟨q1, q2, q3⟩
      · injection e1 with q1 q2 q3
        have hne : g ≠ b3 := blk_ne hgb KN0 (by decide)
        exact .inr ⟨g, q1, CpA.start (n := n) (cap := cap) hs (by exact Nat.le_trans hgeB hge) ((hgb.other hne 0 _).other hne 1 _) (by rw [HLEN.out]; exact hx) ho hB⟩
    obtain ⟨wS, hwS⟩ : ∃ X, (wc.setCell ⟨b3, 0, none⟩ (.string nm)).setCell ⟨b3, 1, none⟩ (.slice pA n cA) = X := ⟨_, rfl⟩
    rw [hwS] at HSS KN hB ⊢
    have KN1 := hid KN
    have HBS := hid hB
    have KRS := hid (KR.out.below hB)
    have hRW : Hid (B0 + 1 < W1.heap.size) := KR.out.lt
    have HB3 := hid hb3g
    clear hwS hgg KN0 hown KN hB hs ho f0 f1 ff hHeld hb3g hgeB
    have xk := KN1.out.cell 1
    simp only [List.getElem?_toArray, List.getElem?_cons_succ, List.getElem?_cons_zero] at xk
    rcases HSS with ⟨rfl, rfl, rfl⟩ | ⟨g, rfl, HC⟩
    · have HKR : Hid (Blk wS (B0 + 1) #[.string ⟨#[]⟩, .slice none 0 0] 32) := KRS.out
      go_wp2
      go_loopw [15] (fun i wr => i = .int .i64 0 ∧ wS = wr) (fun i _ => 0)
      case atStart => exact ⟨rfl, rfl⟩
      case round =>
        obtain ⟨rfl, rfl⟩ := hrel
        have r0 := HKR.out.cell 0
        have r1 := HKR.out.cell 1
        have rf := HKR.out.frozen
        have k0 := KN1.out.cell 0
        simp only [List.getElem?_toArray, List.getElem?_cons_succ, List.getElem?_cons_zero] at r0 r1 k0
        have hl0 : ags = [] := List.length_eq_zero_iff.1 HLEN.out
        go_wp2
        exact ⟨rfl, _, results_cell_row (P := Tryz.prog) rfl _ _ (B0 + 1) 32 _ (0, 0) _ rfl ((HKR.out.set 0 _).set 1 _).h Tryz.underlying32 rfl (by kernel_rfl), _, rfl, ⟨none, 0, by rw [hl0]; rfl, fun h => by rw [hl0] at h; simp at h⟩, ⟨none, 0, 0, rfl, by omega, fun h => by omega⟩, by rw [HB0.out]; exact ((HB1.out.trans (HBS.out.mono HB0s.out)).setCell (by simp) _).setCell (by simp) _⟩
    · have HC1 := hid HC
      have HKR : Hid (Blk wS (B0 + 1) #[.string ⟨#[]⟩, .slice none 0 0] 32) := KRS.out
      clear HC
      go_wp2
      go_loopw [15] (fun i wr => ∃ k : Nat, k ≤ n ∧ i = .int .i64 (k : Int) ∧ ∃ sl, Hid (CpA B W1 wr g ags sl k) ∧ Hid (Blk wr b3 #[.string nm, .slice (some ⟨g, 0, none⟩) n cA] 32) ∧ Hid (Blk wr (B0 + 1) #[.string ⟨#[]⟩, .slice none 0 0] 32)) (fun i _ => n - (intOf i).toNat)
      case atStart => exact ⟨0, Nat.zero_le _, rfl, svl, HC1, KN1, HKR⟩
      case round =>
        obtain ⟨k, hk, rfl, sl, HK, HKN, HKR⟩ := hrel
        have xk := HKN.out.cell 1
        have k0 := HKN.out.cell 0
        simp only [List.getElem?_toArray, List.getElem?_cons_succ, List.getElem?_cons_zero] at xk k0
        by_cases hlt : k < n
        · have hlt' : (k : Int) < n := by omega
          have hw2 : IntKind.i64.wrap ((k : Int) + 1) = (k : Int) + 1 := by rw [IntKind.wrap_i64]; have := HN9.out; rw [HLEN.out] at this; omega
          obtain ⟨ag, h1⟩ : ∃ t, ags[k]? = some t := ⟨_, List.getElem?_eq_getElem (by rw [HLEN.out]; exact hlt)⟩
          obtain ⟨sv, h2⟩ : ∃ sv, sl[k]? = some sv := ⟨_, List.getElem?_eq_getElem (by rw [HK.out.len, HLEN.out]; exact hlt)⟩
          have HAG := hid h1
          have hst := HK.out.old k ag sv (Nat.le_refl _) h1 h2
          obtain ⟨z0, z1, _⟩ := HK.out.cells h1 h2
          have hst' := hst
          obtain ⟨av, cv, rfl, _⟩ := hst
          have HST := hid hst'
          obtain ⟨mq, hmq⟩ : ∃ x, ag.l.length = x := ⟨_, rfl⟩
          have HMQ := hid hmq
          obtain ⟨ar, har⟩ : ∃ x, ag.arr = x := ⟨_, rfl⟩
          rw [har] at z0; rw [hmq] at z1 HST
          have hzz := HZ.out ag (List.mem_of_getElem? h1)
          rw [hmq] at hzz
          have HQZ := hid hzz
          clear hst' hmq har h1 h2 hzz
          go_upto_region 5 with (fail)
          have hal := (Below.refl wr.heap.size wr).alloc (Nat.le_refl _) (Obj.cells #[.bool ar, .slice av mq cv] 54)
          have K9 := Blk.new wr #[.bool ar, .slice av mq cv] 54
          have H9G : Hid (wr.heap.size ≠ g) := by have := HK.out.lt; exact hid (by omega)
          have HK2 := hid (HK.out.below hal)
          have HKN2 := hid (HKN.out.below hal)
          have HKR2 := hid (HKR.out.below hal)
          obtain ⟨X, hX⟩ : ∃ X, wr.alloc (Obj.cells #[.bool ar, .slice av mq cv] 54) = X := ⟨_, rfl⟩
          obtain ⟨b9, hb9⟩ : ∃ X, wr.heap.size = X := ⟨_, rfl⟩
          rw [hX] at K9 HK2 HKN2 HKR2 ⊢
          rw [hb9] at K9 H9G ⊢
          have hXd := Below.drew (Below.refl X.heap.size X)
          have HK3 := hid (HK2.out.below hXd)
          have HKN3 := hid (HKN2.out.below hXd)
          have HKR3 := hid (HKR2.out.below hXd)
          have K9d := K9.below hXd
          have v9 := K9d.cell 1
          have v3 := HKN3.out.cell 1
          simp only [List.getElem?_toArray, List.getElem?_cons_succ, List.getElem?_cons_zero] at v9 v3
          have kT := copyTermsS (HST.out.below HK3.out.bel) (by rw [HMQ.out]; exact HQZ.out.1) HQZ.out.2
          clear hX hb9 hal K9 hXd z0 z1 xk k0
    
    
          refine wp_region_held_drew (S := (fun w' => w'.cell? ⟨b3, 1, none⟩ = some (.slice (some ⟨g, 0, none⟩) n cA) ∧ w'.cell? ⟨b9, 1, none⟩ = some (.slice av mq cv))) (by kernel_rfl) (⟨v3, v9⟩) (fun hHeld => ?_)
          refine wpAnyH_take (i := 0) (oi := { dst := some 20, op := Go.Op.fieldAddr 32 (Go.Operand.tmp 3) 1, type := 0, pos := "cons.go:68", after := #[], guard := none }) (v := ?_) rfl (by kernel_rfl) (by kernel_rfl) (by kernel_rfl) (fun _ _ _ h => h) (Or.inl ⟨by rfl, ?_⟩) hHeld ?_
          rotate_left
          · intro w hSw; (try dsimp only at hSw); go_simp <;> with_reducible rfl
          try simp only [Act.put, List.setIfInBounds_toArray, List.set_cons_zero, List.set_cons_succ]
          refine wpAnyH_take (i := 1) (oi := { dst := some 21, op := Go.Op.load 30 (Go.Operand.tmp 20), type := 30, pos := "cons.go:68", after := #[{ on := 0, ground := Go.Ground.data }], guard := none }) (v := ?_) rfl (by kernel_rfl) (by kernel_rfl) (by kernel_rfl) (fun _ _ _ h => h) (Or.inl ⟨by rfl, ?_⟩) hHeld ?_
          rotate_left
          · intro w hSw; obtain ⟨y0, _⟩ := hSw; go_simp <;> with_reducible rfl
          try simp only [Act.put, List.setIfInBounds_toArray, List.set_cons_zero, List.set_cons_succ]
          refine wpAnyH_take (i := 2) (oi := { dst := some 22, op := Go.Op.move (Go.Operand.tmp 4), type := 3, pos := "cons.go:68", after := #[], guard := none }) (v := ?_) rfl (by kernel_rfl) (by kernel_rfl) (by kernel_rfl) (fun _ _ _ h => h) (Or.inl ⟨by rfl, ?_⟩) hHeld ?_
          rotate_left
          · intro w hSw; (try dsimp only at hSw); go_simp <;> with_reducible rfl
          try simp only [Act.put, List.setIfInBounds_toArray, List.set_cons_zero, List.set_cons_succ]
          refine wpAnyH_take (i := 3) (oi := { dst := some 23, op := Go.Op.fieldAddr 54 (Go.Operand.tmp 5) 1, type := 0, pos := "cons.go:68", after := #[], guard := none }) (v := ?_) rfl (by kernel_rfl) (by kernel_rfl) (by kernel_rfl) (fun _ _ _ h => h) (Or.inl ⟨by rfl, ?_⟩) hHeld ?_
          rotate_left
          · intro w hSw; (try dsimp only at hSw); go_simp <;> with_reducible rfl
          try simp only [Act.put, List.setIfInBounds_toArray, List.set_cons_zero, List.set_cons_succ]
          refine wpAnyH_take (i := 4) (oi := { dst := some 24, op := Go.Op.load 52 (Go.Operand.tmp 23), type := 52, pos := "cons.go:68", after := #[{ on := 3, ground := Go.Ground.data }], guard := none }) (v := ?_) rfl (by kernel_rfl) (by kernel_rfl) (by kernel_rfl) (fun _ _ _ h => h) (Or.inl ⟨by rfl, ?_⟩) hHeld ?_
          rotate_left
          · intro w hSw; obtain ⟨_, y0⟩ := hSw; go_simp <;> with_reducible rfl
          try simp only [Act.put, List.setIfInBounds_toArray, List.set_cons_zero, List.set_cons_succ]
          refine wpAnyH_ready (rs := [5]) (by kernel_rfl) (by simp) ?_
          refine AllReadyH.cons rfl (fun K hK => ?_) AllReadyH.nil
          go_simp
          refine kT.mono ?_
          clear kT
          rintro e w2 ⟨v2, rfl, hst2, hok2, hb2⟩
          have HK4 := hid (HK3.out.below hb2)
          have HKN4 := hid (HKN3.out.below hb2)
          have HKR4 := hid (HKR3.out.below hb2)
          have K94 := K9d.below hb2
          have hgl : g + 1 ≤ X.drew.heap.size := HK3.out.lt
          have HST2 := hid (hst2.lower hgl)
          have HOK2 := hid (hok2.lower hgl)
          obtain ⟨a9, c9, rfl, _⟩ := hst2
          rw [HMQ.out] at HST2 HOK2 ⊢
          obtain ⟨sv, h2⟩ : ∃ sv, sl[k]? = some sv := ⟨_, List.getElem?_eq_getElem (by rw [HK4.out.len, HLEN.out]; exact hlt)⟩
          obtain ⟨_, z1, zf⟩ := HK4.out.cells HAG.out h2
          have v9 := K94.cell 1
          have v3 := HKN4.out.cell 1
          simp only [List.getElem?_toArray, List.getElem?_cons_succ, List.getElem?_cons_zero] at v9 v3
          clear h2 hb2 hok2
          refine hK.out _ _ (⟨v3, v9⟩) (fun hHeld2 => ?_)
          clear hK K hHeld
          have hHeld := hHeld2
          clear hHeld2
          try simp only [Act.put, List.setIfInBounds_toArray, List.set_cons_zero, List.set_cons_succ]
          refine wpAnyH_take (i := 6) (oi := { dst := some 26, op := Go.Op.indexAddr 30 (Go.Operand.tmp 21) (Go.Operand.tmp 22), type := 0, pos := "cons.go:68", after := #[{ on := 1, ground := Go.Ground.data }, { on := 2, ground := Go.Ground.data }, { on := 0, ground := Go.Ground.phase }, { on := 1, ground := Go.Ground.phase }, { on := 2, ground := Go.Ground.phase }, { on := 3, ground := Go.Ground.phase }, { on := 4, ground := Go.Ground.phase }, { on := 5, ground := Go.Ground.phase }], guard := none }) (v := ?_) rfl (by kernel_rfl) (by kernel_rfl) (by kernel_rfl) (fun _ _ _ h => h) (Or.inl ⟨by rfl, ?_⟩) hHeld ?_
          rotate_left
          · intro w hSw; (try dsimp only at hSw); go_simp <;> with_reducible rfl
          try simp only [Act.put, List.setIfInBounds_toArray, List.set_cons_zero, List.set_cons_succ]
          refine wpAnyH_take (i := 7) (oi := { dst := some 27, op := Go.Op.fieldAddr 54 (Go.Operand.tmp 26) 1, type := 0, pos := "cons.go:68", after := #[{ on := 6, ground := Go.Ground.data }, { on := 0, ground := Go.Ground.phase }, { on := 1, ground := Go.Ground.phase }, { on := 2, ground := Go.Ground.phase }, { on := 3, ground := Go.Ground.phase }, { on := 4, ground := Go.Ground.phase }, { on := 5, ground := Go.Ground.phase }], guard := none }) (v := ?_) rfl (by kernel_rfl) (by kernel_rfl) (by kernel_rfl) (fun _ _ _ h => h) (Or.inl ⟨by rfl, ?_⟩) hHeld ?_
          rotate_left
          · intro w hSw; (try dsimp only at hSw); go_simp <;> with_reducible rfl
          try simp only [Act.put, List.setIfInBounds_toArray, List.set_cons_zero, List.set_cons_succ]
          refine wpAnyH_ready (rs := [8]) (by kernel_rfl) (by simp) ?_
          refine AllReadyH.cons rfl (fun K hK => ?_) AllReadyH.nil
          go_simp
          have HS9 : Hid (CpA B W1 (w2.setCell ⟨g, k * 2 + 1, none⟩ (.slice a9 mq c9)) g ags (sl.set k (.slice a9 mq c9)) (k + 1)) := HK4.out.step HAG.out HST2.out HOK2.out
          have hg3 : b3 ≠ g := by obtain ⟨cur, hc, _⟩ := HK4.out.row; exact blk_ne HKN4.out hc (by decide)
          have hgr : B0 + 1 ≠ g := by obtain ⟨cur, hc, _⟩ := HK4.out.row; exact blk_ne HKR4.out hc (by decide)
          have HKN9 := hid (HKN4.out.other hg3 (k * 2 + 1) (.slice a9 mq c9))
          have HKR9 := hid (HKR4.out.other hgr (k * 2 + 1) (.slice a9 mq c9))
          have hg9 : b9 ≠ g := H9G.out
          have K99 := K94.other hg9 (k * 2 + 1) (.slice a9 mq c9)
          have v9 := K99.cell 1
          have v3 := HKN9.out.cell 1
          simp only [List.getElem?_toArray, List.getElem?_cons_succ, List.getElem?_cons_zero] at v9 v3
          refine hK.out _ _ (⟨v3, v9⟩) (fun hHeld2 => ?_)
          clear hK K hHeld
          have hHeld := hHeld2
          clear hHeld2
          try simp only [Act.put, List.setIfInBounds_toArray, List.set_cons_zero, List.set_cons_succ]
          refine wpAnyH_done (by kernel_rfl) ?_ _
          clear hHeld
          go_wp2
          go_roundw
          case rel => exact ⟨k + 1, by omega, by go_num, _, HS9, HKN9, HKR9⟩
          case measure => simp [intOf]; omega
    
        · have hlt' : ¬ (k : Int) < n := by omega
          obtain rfl : n = k := by omega
          have r0 := HKR.out.cell 0
          have r1 := HKR.out.cell 1
          have rf := HKR.out.frozen
          simp only [List.getElem?_toArray, List.getElem?_cons_succ, List.getElem?_cons_zero] at r0 r1
          have hdn := HK.out.done HLEN.out (by have := HN9.out; rw [HLEN.out] at this; omega) cA
          have HDN := hid hdn
          clear hdn
          go_wp2
          exact ⟨rfl, _, results_cell_row (P := Tryz.prog) rfl _ _ (B0 + 1) 32 _ (0, 0) _ rfl ((HKR.out.set 0 _).set 1 _).h Tryz.underlying32 rfl (by kernel_rfl), _, rfl, ((HDN.out.1.setO hRW.out _ _).setO hRW.out _ _).lowerO (by rw [HB0.out]; exact HB0s.out), ((HDN.out.2.other hRW.out _ _).other hRW.out _ _).lower (by rw [HB0.out]; exact HB0s.out), by rw [HB0.out]; exact ((HB1.out.trans (HK.out.bel.mono HB0s.out)).setCell (by simp) _).setCell (by simp) _⟩
  exact AllReadyH.nil
end Go.Proofs.YtpgecdhieakilaaGreatDoor
