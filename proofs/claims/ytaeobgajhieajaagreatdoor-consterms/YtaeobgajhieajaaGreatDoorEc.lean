/-
  What is proved here: a term's value, as the program and the reference tell it.
-/
import Derived.Test.YtaeobgajhieajaaGreatDoorEb
import Derived.Test.YtaeobgajhieajaaGreatDoorGa
namespace Go.Proofs.YtaeobgajhieajaaGreatDoor
open Go.RowKit Go.Shelf
set_option linter.unusedVariables false
set_option linter.unusedSimpArgs false

theorem Sv.at {W : World} {a : Option Addr} {n c : Nat} {l : List Vl} (h : Sv W (.slice a n c) l) {i : Nat} {v : Vl} (hv : l[i]? = some v) : ∃ b off a' c', a = some ⟨b, off, none⟩ ∧ b < W.heap.size ∧ Si 0 W (.slice a' v.s.length c') v.s ∧ W.cell? ⟨b, off + i * 3, none⟩ = some (.bool v.set) ∧ W.cell? ⟨b, off + i * 3 + 1, none⟩ = some (.int .i64 v.n) ∧ W.cell? ⟨b, off + i * 3 + 2, none⟩ = some (.slice a' v.s.length c') := by
  obtain ⟨a0, c0, e, h⟩ := h
  injection e with ea en ec
  subst ea
  have hi : i < l.length := (List.getElem?_eq_some_iff.1 hv).1
  obtain ⟨b, off, e1, e2, e3⟩ := h (by omega)
  obtain ⟨sv, h1, h2, h3, h4⟩ := e3 i v hv
  obtain ⟨a', c', rfl, h1'⟩ := h1
  exact ⟨b, off, a', c', e1, e2, ⟨a', c', rfl, h1'⟩, h2, h3, h4⟩
/-- A term's value, and whether there is one. -/
def ofV (t : Tm) (vals : List Vl) : Vl × Int := if t.v = -1 then (⟨t.set, t.n, t.s⟩, 0) else if t.v < 0 then (⟨false, 0, []⟩, 1) else match vals[t.v.toNat]? with
  | some v => (v, 0)
  | none => (⟨false, 0, []⟩, 1)
theorem res_val {fn : Func} {p u : Tmp} (hf : fn.results = #[.cell p 44, .tmp u]) (tmps : Array Value) (w : World) (g : Nat) {b : Bool} {n : Int} {s x : Value} (hp : tmps.getD p undef = .pointer (some ⟨g, 0, none⟩)) (hx : tmps.getD u undef = x) (h : Blk w g #[.bool b, .int .i64 n, s] 44) :
    (results fn tmps).run Tryz.prog w = .ok (.tuple #[.agg #[.bool b, .int .i64 n, s], x]) w := by
  have hp' : tmps[p]?.getD undef = .pointer (some ⟨g, 0, none⟩) := by simpa using hp
  have hx' : tmps[u]?.getD undef = x := by simpa using hx
  simp [results, hf, hp', hx', asAddr, run_loadVar_row w g 44 44 _ (0, 0) _ h.h Tryz.underlying44 rfl (by kernel_rfl)]
theorem Blk.new2 (w : World) (o : Obj) (cs : Array Value) (ty : TypeId) : Blk ((w.alloc o).alloc (.cells cs ty)) (w.heap.size + 1) cs ty := by
  have := Blk.new (w.alloc o) cs ty
  rw [World.size_alloc] at this
  exact this

set_option maxRecDepth 100000 in
set_option maxHeartbeats 4000000 in
theorem of31_c {W : World} (ts : Bool) (tn : Int) (a8 a7 : Option Addr) (c8 sn n7 c7 : Nat) (l : List Int) (hs : Si 0 W (.slice a8 sn c8) l) (hl : l.length ≤ 17592186043904) : Calls Tryz.prog 31 #[.agg #[.int .i64 (-1), .bool ts, .int .i64 tn, .slice a8 sn c8], .slice a7 n7 c7] W fun e w' => ∃ a9 c9, e = .returned (.tuple #[.agg #[.bool ts, .int .i64 tn, .slice a9 sn c9], .int .i64 0]) ∧ Si 0 w' (.slice a9 sn c9) l ∧ Below W.heap.size W w' := by
  have HS : Hid (Si 0 W (.slice a8 sn c8) l) := hs
  clear hs
  go_enter Tryz.func31, Tryz.ntmps31
  go_wp2
  exact ⟨rfl, _, res_val rfl _ _ (W.heap.size + 1) rfl rfl (Blk.new2 W _ _ _), a8, c8, rfl, HS.out.below (((Below.refl _ W).alloc (Nat.le_refl _) _).alloc (by simp) _), ((Below.refl _ W).alloc (Nat.le_refl _) _).alloc (by simp) _⟩

set_option maxRecDepth 100000 in
set_option maxHeartbeats 4000000 in
theorem of31_n {W : World} (tv : Int) (ts : Bool) (tn : Int) (a8 a7 : Option Addr) (c8 sn n7 c7 : Nat) (h1 : tv ≠ -1) (h2 : tv < 0 ∨ (n7 : Int) ≤ tv) : Calls Tryz.prog 31 #[.agg #[.int .i64 tv, .bool ts, .int .i64 tn, .slice a8 sn c8], .slice a7 n7 c7] W fun e w' => ∃ a9 c9, e = .returned (.tuple #[.agg #[.bool false, .int .i64 0, .slice a9 0 c9], .int .i64 1]) ∧ Si 0 w' (.slice a9 0 c9) [] ∧ Below W.heap.size W w' := by
  have hz : Hid (Si 0 ((W.alloc (Obj.cells #[.int .i64 tv, .bool ts, .int .i64 tn, .slice a8 sn c8] 46)).alloc (Obj.cells #[.bool false, .int .i64 0, .slice none 0 0] 44)) (.slice none 0 0) []) := ⟨none, 0, rfl, fun h => absurd h (by simp)⟩
  have hd1 : (tv == -1) = false := by simpa using h1
  by_cases h3 : tv < 0
  · go_enter Tryz.func31, Tryz.ntmps31
    go_wp2
    exact ⟨rfl, _, res_val rfl _ _ (W.heap.size + 1) rfl rfl (Blk.new2 W _ _ _), none, 0, rfl, hz.out, ((Below.refl _ W).alloc (Nat.le_refl _) _).alloc (by simp) _⟩
  · have h4 : (n7 : Int) ≤ tv := by omega
    have h5 : ¬ tv < n7 := by omega
    go_enter Tryz.func31, Tryz.ntmps31
    go_wp2
    exact ⟨rfl, _, res_val rfl _ _ (W.heap.size + 1) rfl rfl (Blk.new2 W _ _ _), none, 0, rfl, hz.out, ((Below.refl _ W).alloc (Nat.le_refl _) _).alloc (by simp) _⟩

set_option maxRecDepth 100000 in
set_option maxHeartbeats 4000000 in
theorem of31_v {W : World} (k : Nat) (ts : Bool) (tn : Int) (a8 : Option Addr) (b off : Nat) (c8 sn n7 c7 : Nat) (hk : k < n7) (hn : n7 ≤ 17592186043904) (st : Bool) (m : Int) (l : List Int) (a6 : Option Addr) (n6 c6 : Nat) (hb : b < W.heap.size) (x0 : W.cell? ⟨b, off + k * 3, none⟩ = some (.bool st)) (x1 : W.cell? ⟨b, off + k * 3 + 1, none⟩ = some (.int .i64 m)) (x2 : W.cell? ⟨b, off + k * 3 + 2, none⟩ = some (.slice a6 n6 c6)) (hs : Si 0 W (.slice a6 n6 c6) l) (hl : l.length ≤ 17592186043904) : Calls Tryz.prog 31 #[.agg #[.int .i64 k, .bool ts, .int .i64 tn, .slice a8 sn c8], .slice (some ⟨b, off, none⟩) n7 c7] W fun e w' => ∃ a9 c9, e = .returned (.tuple #[.agg #[.bool st, .int .i64 m, .slice a9 n6 c9], .int .i64 0]) ∧ Si 0 w' (.slice a9 n6 c9) l ∧ Below W.heap.size W w' := by
  have HS : Hid (Si 0 W (.slice a6 n6 c6) l) := hs
  have h1 : ((k : Int) == -1) = false := beq_eq_false_iff_ne.2 (by omega)
  have h2 : ¬ (k : Int) < 0 := by omega
  have h3 : (k : Int) < n7 := by omega
  have h4 : ¬ (n7 : Int) ≤ k := by omega
  have hbA : Below W.heap.size W ((W.alloc (Obj.cells #[.int .i64 k, .bool ts, .int .i64 tn, .slice a8 sn c8] 46)).alloc (Obj.cells #[.bool false, .int .i64 0, .slice none 0 0] 44)) := ((Below.refl _ W).alloc (Nat.le_refl _) _).alloc (by simp) _
  have y0 := (hbA.cell (p := ⟨b, off + k * 3, none⟩) hb).trans x0
  have y1 := (hbA.cell (p := ⟨b, off + k * 3 + 1, none⟩) hb).trans x1
  have y2 := (hbA.cell (p := ⟨b, off + k * 3 + 2, none⟩) hb).trans x2
  have hne : b ≠ W.heap.size + 1 := by omega
  have hne2 : b ≠ W.heap.size := by omega
  clear hs hb
  clear hbA
  go_enter Tryz.func31, Tryz.ntmps31
  go_wp2
  exact ⟨rfl, _, res_val rfl _ _ (W.heap.size + 1) rfl rfl (Blk.new2 W _ _ _), a6, c6, rfl, HS.out.below (((Below.refl _ W).alloc (Nat.le_refl _) _).alloc (by simp) _), ((Below.refl _ W).alloc (Nat.le_refl _) _).alloc (by simp) _⟩

theorem of31 {W : World} {sv vs : Value} (t : Tm) (vals : List Vl) (hs : Si 0 W sv t.s) (hv : Sv W vs vals) (hl : t.s.length ≤ 17592186043904) (hL : ∀ v ∈ vals, v.s.length ≤ 17592186043904) (hn : vals.length ≤ 17592186043904) : Calls Tryz.prog 31 #[.agg #[.int .i64 t.v, .bool t.set, .int .i64 t.n, sv], vs] W fun e w' => ∃ a9 c9, e = .returned (.tuple #[.agg #[.bool (ofV t vals).1.set, .int .i64 (ofV t vals).1.n, .slice a9 (ofV t vals).1.s.length c9], .int .i64 (ofV t vals).2]) ∧ Si 0 w' (.slice a9 (ofV t vals).1.s.length c9) (ofV t vals).1.s ∧ Below W.heap.size W w' := by
  have HV := hv
  obtain ⟨a8, c8, rfl, hs'⟩ := hs
  obtain ⟨a7, c7, rfl, hv'⟩ := hv
  by_cases h1 : t.v = -1
  · rw [show ofV t vals = (⟨t.set, t.n, t.s⟩, 0) by simp [ofV, h1], h1]
    exact of31_c t.set t.n a8 a7 c8 t.s.length vals.length c7 t.s ⟨a8, c8, rfl, hs'⟩ hl
  · by_cases h2 : t.v < 0 ∨ (vals.length : Int) ≤ t.v
    · have e : ofV t vals = (⟨false, 0, []⟩, 1) := by
        unfold ofV
        rw [if_neg h1]
        by_cases h3 : t.v < 0
        · rw [if_pos h3]
        · rw [if_neg h3, List.getElem?_eq_none (by omega)]
      rw [e]
      exact of31_n t.v t.set t.n a8 a7 c8 t.s.length vals.length c7 h1 h2
    · have hk : t.v.toNat < vals.length := by omega
      have hcast : ((t.v.toNat : Nat) : Int) = t.v := by omega
      have hn0 : ¬ t.v < 0 := by omega
      obtain ⟨v, hv1⟩ : ∃ v, vals[t.v.toNat]? = some v := ⟨_, List.getElem?_eq_getElem hk⟩
      have e : ofV t vals = (v, 0) := by
        unfold ofV
        rw [if_neg h1, if_neg hn0, hv1]
      obtain ⟨b, off, a', c', rfl, hb, g1, g2, g3, g4⟩ := HV.at hv1
      rw [e]
      have h9 := of31_v t.v.toNat t.set t.n a8 b off c8 t.s.length vals.length c7 hk hn v.set v.n v.s a' v.s.length c' hb g2 g3 g4 g1 (hL v (List.mem_of_getElem? hv1))
      rw [hcast] at h9
      exact h9

set_option maxRecDepth 100000 in
set_option maxHeartbeats 4000000 in
theorem of30_c {W : World} (ts : Bool) (tn : Int) (a8 a7 : Option Addr) (c8 sn n7 c7 : Nat) (l : List Int) (hs : Si 0 W (.slice a8 sn c8) l) (hl : l.length ≤ 17592186043904) : Calls Tryz.prog 30 #[.agg #[.int .i64 (-1), .bool ts, .int .i64 tn, .slice a8 sn c8], .slice a7 n7 c7] W fun e w' => ∃ a9 c9, e = .returned (.tuple #[.agg #[.bool ts, .int .i64 tn, .slice a9 sn c9], .int .i64 0]) ∧ Si W.heap.size w' (.slice a9 sn c9) l ∧ Below W.heap.size W w' := by
  have HS : Hid (Si 0 W (.slice a8 sn c8) l) := hs
  clear hs
  go_enter Tryz.func30, Tryz.ntmps30
  have hbA : Below W.heap.size W ((W.alloc (Obj.cells #[.int .i64 (-1), .bool ts, .int .i64 tn, .slice a8 sn c8] 46)).alloc (Obj.cells #[.bool false, .int .i64 0, .slice none 0 0] 44)) := ((Below.refl _ W).alloc (Nat.le_refl _) _).alloc (by simp) _
  have kC := copyVal_any ts tn (HS.out.below hbA) hl
  have HBA : Hid _ := hbA
  clear hbA
  go_wp2_with fail
  refine kC.mono ?_
  clear kC
  rintro e w1 ⟨v, rfl, ⟨a9, c9, rfl, hv⟩, hb⟩
  have HV : Hid (Si (W.heap.size + 2) w1 (.slice a9 l.length c9) l) := ⟨a9, c9, rfl, by simpa using hv⟩
  have k2 : Hid (Blk w1 (W.heap.size + 1) #[.bool false, .int .i64 0, .slice none 0 0] 44) := (Blk.new2 W _ _ _).below hb
  have d0 : w1.cell? ⟨W.heap.size + 1, 0, none⟩ = some (.bool false) := k2.out.cell 0
  have d1 : w1.cell? ⟨W.heap.size + 1, 1, none⟩ = some (.int .i64 0) := k2.out.cell 1
  have d2 : w1.cell? ⟨W.heap.size + 1, 2, none⟩ = some (.slice none 0 0) := k2.out.cell 2
  have f1 := k2.out.frozen
  have hbW : Hid (Below W.heap.size W w1) := HBA.out.trans (hb.mono (by simp; omega))
  have hsl : Hid (sn = l.length) := (by obtain ⟨_, _, e, _⟩ := HS.out; injection e : sn = l.length)
  clear hb hv HBA
  go_wp2
  exact ⟨rfl, _, res_val rfl _ _ (W.heap.size + 1) rfl rfl (((k2.out.set 0 _).set 1 _).set 2 _), a9, c9, by rw [hsl.out]; rfl, by rw [hsl.out]; exact (((HV.out.set (by omega) _ _).set (by omega) _ _).set (by omega) _ _).lower (by omega), hbW.out.trans ((((Below.refl _ w1).setCell (by simp) _).setCell (by simp) _).setCell (by simp) _)⟩

set_option maxRecDepth 100000 in
set_option maxHeartbeats 4000000 in
theorem of30_n {W : World} (tv : Int) (ts : Bool) (tn : Int) (a8 a7 : Option Addr) (c8 sn n7 c7 : Nat) (h1 : tv ≠ -1) (h2 : tv < 0 ∨ (n7 : Int) ≤ tv) : Calls Tryz.prog 30 #[.agg #[.int .i64 tv, .bool ts, .int .i64 tn, .slice a8 sn c8], .slice a7 n7 c7] W fun e w' => ∃ a9 c9, e = .returned (.tuple #[.agg #[.bool false, .int .i64 0, .slice a9 0 c9], .int .i64 1]) ∧ Si W.heap.size w' (.slice a9 0 c9) [] ∧ Below W.heap.size W w' := by
  have hz : Hid (Si W.heap.size ((W.alloc (Obj.cells #[.int .i64 tv, .bool ts, .int .i64 tn, .slice a8 sn c8] 46)).alloc (Obj.cells #[.bool false, .int .i64 0, .slice none 0 0] 44)) (.slice none 0 0) []) := ⟨none, 0, rfl, fun h => absurd h (by simp)⟩
  have hd1 : (tv == -1) = false := by simpa using h1
  by_cases h3 : tv < 0
  · go_enter Tryz.func30, Tryz.ntmps30
    go_wp2
    exact ⟨rfl, _, res_val rfl _ _ (W.heap.size + 1) rfl rfl (Blk.new2 W _ _ _), none, 0, rfl, hz.out, ((Below.refl _ W).alloc (Nat.le_refl _) _).alloc (by simp) _⟩
  · have h4 : (n7 : Int) ≤ tv := by omega
    have h5 : ¬ tv < n7 := by omega
    go_enter Tryz.func30, Tryz.ntmps30
    go_wp2
    exact ⟨rfl, _, res_val rfl _ _ (W.heap.size + 1) rfl rfl (Blk.new2 W _ _ _), none, 0, rfl, hz.out, ((Below.refl _ W).alloc (Nat.le_refl _) _).alloc (by simp) _⟩

set_option maxRecDepth 100000 in
set_option maxHeartbeats 4000000 in
theorem of30_v {W : World} (k : Nat) (ts : Bool) (tn : Int) (a8 : Option Addr) (b off : Nat) (c8 sn n7 c7 : Nat) (hk : k < n7) (hn : n7 ≤ 17592186043904) (st : Bool) (m : Int) (l : List Int) (a6 : Option Addr) (n6 c6 : Nat) (hb : b < W.heap.size) (x0 : W.cell? ⟨b, off + k * 3, none⟩ = some (.bool st)) (x1 : W.cell? ⟨b, off + k * 3 + 1, none⟩ = some (.int .i64 m)) (x2 : W.cell? ⟨b, off + k * 3 + 2, none⟩ = some (.slice a6 n6 c6)) (hs : Si 0 W (.slice a6 n6 c6) l) (hl : l.length ≤ 17592186043904) : Calls Tryz.prog 30 #[.agg #[.int .i64 k, .bool ts, .int .i64 tn, .slice a8 sn c8], .slice (some ⟨b, off, none⟩) n7 c7] W fun e w' => ∃ a9 c9, e = .returned (.tuple #[.agg #[.bool st, .int .i64 m, .slice a9 n6 c9], .int .i64 0]) ∧ Si W.heap.size w' (.slice a9 n6 c9) l ∧ Below W.heap.size W w' := by
  have HS : Hid (Si 0 W (.slice a6 n6 c6) l) := hs
  have h1 : ((k : Int) == -1) = false := beq_eq_false_iff_ne.2 (by omega)
  have h2 : ¬ (k : Int) < 0 := by omega
  have h3 : (k : Int) < n7 := by omega
  have h4 : ¬ (n7 : Int) ≤ k := by omega
  have hbA : Below W.heap.size W ((W.alloc (Obj.cells #[.int .i64 k, .bool ts, .int .i64 tn, .slice a8 sn c8] 46)).alloc (Obj.cells #[.bool false, .int .i64 0, .slice none 0 0] 44)) := ((Below.refl _ W).alloc (Nat.le_refl _) _).alloc (by simp) _
  have y0 := (hbA.cell (p := ⟨b, off + k * 3, none⟩) hb).trans x0
  have y1 := (hbA.cell (p := ⟨b, off + k * 3 + 1, none⟩) hb).trans x1
  have y2 := (hbA.cell (p := ⟨b, off + k * 3 + 2, none⟩) hb).trans x2
  have hne : b ≠ W.heap.size + 1 := by omega
  have hne2 : b ≠ W.heap.size := by omega
  clear hs hb
  have kC := copyVal_any st m (HS.out.below hbA) hl
  have HBA : Hid _ := hbA
  clear hbA
  go_enter Tryz.func30, Tryz.ntmps30
  go_wp2_with fail
  refine kC.mono ?_
  clear kC y0 y1 y2 x0 x1 x2
  rintro e w1 ⟨v, rfl, ⟨a9, c9, rfl, hv⟩, hb⟩
  have HV : Hid (Si (W.heap.size + 2) w1 (.slice a9 l.length c9) l) := ⟨a9, c9, rfl, by simpa using hv⟩
  have k2 : Hid (Blk w1 (W.heap.size + 1) #[.bool false, .int .i64 0, .slice none 0 0] 44) := (Blk.new2 W _ _ _).below hb
  have d0 : w1.cell? ⟨W.heap.size + 1, 0, none⟩ = some (.bool false) := k2.out.cell 0
  have d1 : w1.cell? ⟨W.heap.size + 1, 1, none⟩ = some (.int .i64 0) := k2.out.cell 1
  have d2 : w1.cell? ⟨W.heap.size + 1, 2, none⟩ = some (.slice none 0 0) := k2.out.cell 2
  have f1 := k2.out.frozen
  have hbW : Hid (Below W.heap.size W w1) := HBA.out.trans (hb.mono (by simp; omega))
  have hsl : Hid (n6 = l.length) := (by obtain ⟨_, _, e, _⟩ := HS.out; injection e : n6 = l.length)
  clear hb hv HBA
  go_wp2
  exact ⟨rfl, _, res_val rfl _ _ (W.heap.size + 1) rfl rfl (((k2.out.set 0 _).set 1 _).set 2 _), a9, c9, by rw [hsl.out]; rfl, by rw [hsl.out]; exact (((HV.out.set (by omega) _ _).set (by omega) _ _).set (by omega) _ _).lower (by omega), hbW.out.trans ((((Below.refl _ w1).setCell (by simp) _).setCell (by simp) _).setCell (by simp) _)⟩

theorem of30 {W : World} {sv vs : Value} (t : Tm) (vals : List Vl) (hs : Si 0 W sv t.s) (hv : Sv W vs vals) (hl : t.s.length ≤ 17592186043904) (hL : ∀ v ∈ vals, v.s.length ≤ 17592186043904) (hn : vals.length ≤ 17592186043904) : Calls Tryz.prog 30 #[.agg #[.int .i64 t.v, .bool t.set, .int .i64 t.n, sv], vs] W fun e w' => ∃ a9 c9, e = .returned (.tuple #[.agg #[.bool (ofV t vals).1.set, .int .i64 (ofV t vals).1.n, .slice a9 (ofV t vals).1.s.length c9], .int .i64 (ofV t vals).2]) ∧ Si W.heap.size w' (.slice a9 (ofV t vals).1.s.length c9) (ofV t vals).1.s ∧ Below W.heap.size W w' := by
  have HV := hv
  obtain ⟨a8, c8, rfl, hs'⟩ := hs
  obtain ⟨a7, c7, rfl, hv'⟩ := hv
  by_cases h1 : t.v = -1
  · rw [show ofV t vals = (⟨t.set, t.n, t.s⟩, 0) by simp [ofV, h1], h1]
    exact of30_c t.set t.n a8 a7 c8 t.s.length vals.length c7 t.s ⟨a8, c8, rfl, hs'⟩ hl
  · by_cases h2 : t.v < 0 ∨ (vals.length : Int) ≤ t.v
    · have e : ofV t vals = (⟨false, 0, []⟩, 1) := by
        unfold ofV
        rw [if_neg h1]
        by_cases h3 : t.v < 0
        · rw [if_pos h3]
        · rw [if_neg h3, List.getElem?_eq_none (by omega)]
      rw [e]
      exact of30_n t.v t.set t.n a8 a7 c8 t.s.length vals.length c7 h1 h2
    · have hk : t.v.toNat < vals.length := by omega
      have hcast : ((t.v.toNat : Nat) : Int) = t.v := by omega
      have hn0 : ¬ t.v < 0 := by omega
      obtain ⟨v, hv1⟩ : ∃ v, vals[t.v.toNat]? = some v := ⟨_, List.getElem?_eq_getElem hk⟩
      have e : ofV t vals = (v, 0) := by
        unfold ofV
        rw [if_neg h1, if_neg hn0, hv1]
      obtain ⟨b, off, a', c', rfl, hb, g1, g2, g3, g4⟩ := HV.at hv1
      rw [e]
      have h9 := of30_v t.v.toNat t.set t.n a8 b off c8 t.s.length vals.length c7 hk hn v.set v.n v.s a' v.s.length c' hb g2 g3 g4 g1 (hL v (List.mem_of_getElem? hv1))
      rw [hcast] at h9
      exact h9
end Go.Proofs.YtaeobgajhieajaaGreatDoor
