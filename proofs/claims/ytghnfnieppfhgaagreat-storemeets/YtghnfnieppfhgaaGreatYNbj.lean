/-
  What is proved here: a row of six cells that holds a domain of sets: read, kept, written.
  What is proved here: the reference's Meet and Less of any lists.
  What is proved here: the reference's put of any list: a value laid into its place.
  What is proved here: the reference's Join and Sym of any lists.
-/
import Derived.Test.YtghnfnieppfhgaaGreatYSfj
import Derived.Test.YtghnfnieppfhgaaGreatYSdj
namespace Go.Proofs.YtghnfnieppfhgaaGreat.St
open Go.RowKit Go.Shelf
set_option linter.unusedVariables false
set_option linter.unusedSimpArgs false

theorem cell_row {W : World} {g : Nat} {cur : Array Value} {t : TypeId} (h : W.heap[g]? = some (.cells cur t (0, 0))) (j : Nat) : W.cell? ⟨g, j, none⟩ = cur[j]? := by simp [World.cell?, h]

/-- Block g holds a domain of sets. -/
structure R6 (w : World) (g : Nat) (x0 x1 x2 x3 x4 x5 : Value) : Prop where
  h : w.heap[g]? = some (.cells #[x0, x1, x2, x3, x4, x5] 37 (0, 0))
theorem R6.lt {w : World} {g : Nat} {x0 x1 x2 x3 x4 x5 : Value} (h : R6 w g x0 x1 x2 x3 x4 x5) : g < w.heap.size := (Array.getElem?_eq_some_iff.1 h.h).1
theorem R6.below {w w' : World} {g : Nat} {x0 x1 x2 x3 x4 x5 : Value} (h : R6 w g x0 x1 x2 x3 x4 x5) (hb : Below w.heap.size w w') : R6 w' g x0 x1 x2 x3 x4 x5 := ⟨(hb.block g h.lt).trans h.h⟩
theorem R6.cells {w : World} {g : Nat} {x0 x1 x2 x3 x4 x5 : Value} (h : R6 w g x0 x1 x2 x3 x4 x5) :
    w.cell? ⟨g, 0, none⟩ = some x0 ∧ w.cell? ⟨g, 1, none⟩ = some x1 ∧ w.cell? ⟨g, 2, none⟩ = some x2 ∧ w.cell? ⟨g, 3, none⟩ = some x3 ∧ w.cell? ⟨g, 4, none⟩ = some x4 ∧ w.cell? ⟨g, 5, none⟩ = some x5 := six_cells h.h
theorem R6.new (w : World) (x0 x1 x2 x3 x4 x5 : Value) : R6 (w.alloc (.cells #[x0, x1, x2, x3, x4, x5] 37)) w.heap.size x0 x1 x2 x3 x4 x5 := ⟨World.alloc_heap_new w _⟩
theorem R6.new1 (w : World) (o : Obj) (x0 x1 x2 x3 x4 x5 : Value) : R6 ((w.alloc o).alloc (.cells #[x0, x1, x2, x3, x4, x5] 37)) (w.heap.size + 1) x0 x1 x2 x3 x4 x5 := by
  have := World.alloc_heap_new (w.alloc o) (.cells #[x0, x1, x2, x3, x4, x5] 37)
  rw [World.size_alloc] at this
  exact ⟨this⟩
theorem R6.new2 (w : World) (o p : Obj) (x0 x1 x2 x3 x4 x5 : Value) : R6 (((w.alloc o).alloc p).alloc (.cells #[x0, x1, x2, x3, x4, x5] 37)) (w.heap.size + 2) x0 x1 x2 x3 x4 x5 := by
  have := World.alloc_heap_new ((w.alloc o).alloc p) (.cells #[x0, x1, x2, x3, x4, x5] 37)
  rw [World.size_alloc, World.size_alloc] at this
  exact ⟨this⟩
theorem R6.alloc {w : World} {g : Nat} {x0 x1 x2 x3 x4 x5 : Value} (h : R6 w g x0 x1 x2 x3 x4 x5) (o : Obj) : R6 (w.alloc o) g x0 x1 x2 x3 x4 x5 := ⟨(Below.heap_alloc _ _ _ h.lt).trans h.h⟩
theorem R6.set {w : World} {g : Nat} {y0 y1 y2 y3 y4 y5 : Value} (h : R6 w g y0 y1 y2 y3 y4 y5) (x0 x1 x2 x3 x4 x5 : Value) : R6 (w.setRow g #[x0, x1, x2, x3, x4, x5]) g x0 x1 x2 x3 x4 x5 := ⟨setRow_heap w g _ _ 37 (0, 0) h.h⟩
theorem R6.other {w : World} {g k : Nat} {x0 x1 x2 x3 x4 x5 : Value} (h : R6 w k x0 x1 x2 x3 x4 x5) (hk : k ≠ g) (cs : Array Value) : R6 (w.setRow g cs) k x0 x1 x2 x3 x4 x5 := ⟨(setRow_other w g k cs hk).trans h.h⟩
theorem R6.res {fn : Func} {p : Tmp} (hf : fn.results = #[.cell p 37]) (tmps : Array Value) {w : World} {g : Nat} {x0 x1 x2 x3 x4 x5 : Value} (h : R6 w g x0 x1 x2 x3 x4 x5) (hp : tmps.getD p undef = .pointer (some ⟨g, 0, none⟩)) :
    (results fn tmps).run Tryz.prog w = .ok (.agg #[x0, x1, x2, x3, x4, x5]) w := results_cell_row hf tmps w g 37 _ (0, 0) _ hp h.h Tryz.underlying37 rfl Tryz.size37
/-- The row of a domain: six values of one cell each. -/
def Six (x0 x1 x2 x3 x4 x5 : Value) : Prop := x0.oneCell' = true ∧ x1.oneCell' = true ∧ x2.oneCell' = true ∧ x3.oneCell' = true ∧ x4.oneCell' = true ∧ x5.oneCell' = true
theorem six_dom (b : Bool) (p0 p1 p2 : Option Addr) (m0 k0 m1 k1 m2 k2 : Nat) (i j : Int) : Six (.bool b) (.slice p0 m0 k0) (.slice p1 m1 k1) (.slice p2 m2 k2) (.int .i64 i) (.int .i64 j) := ⟨rfl, rfl, rfl, rfl, rfl, rfl⟩
theorem Six.all {x0 x1 x2 x3 x4 x5 : Value} (h : Six x0 x1 x2 x3 x4 x5) : (#[x0, x1, x2, x3, x4, x5] : Array Value).all (·.oneCell') = true := by
  obtain ⟨h0, h1, h2, h3, h4, h5⟩ := h
  simp [h0, h1, h2, h3, h4, h5]
theorem st37 {ops : Array Oper} {rest : List Oper} {o : Oper} {a : Act} {w : World} {Q : Exit → Act → World → Prop} {y0 y1 y2 y3 y4 y5 : Value} (hgd : o.guard = none) (x y : Operand) (ho : o.op = .store 37 x y)
    (g : Nat) (x0 x1 x2 x3 x4 x5 : Value) (hx : a.eval x = .pointer (some ⟨g, 0, none⟩)) (hy : a.eval y = .agg #[x0, x1, x2, x3, x4, x5]) (hg : R6 w g y0 y1 y2 y3 y4 y5) (hs : Six x0 x1 x2 x3 x4 x5)
    (h : wpList Tryz.prog ops Q rest (a.put o.dst undef) (w.setRow g #[x0, x1, x2, x3, x4, x5])) : wpList Tryz.prog ops Q (o :: rest) a w :=
  wpList_store_row hgd 37 x y ho g _ hx hy 37 _ hg.h Tryz.size37 rfl hs.all h
theorem store_row {P : Program} {op : Oper} {a : Act} {w : World} {K : Act → World → Prop} {Q : Exit → Act → World → Prop} (ty : TypeId) (x y : Operand) (ho : op.op = .store ty x y)
    (g : Nat) (cells : Array Value) (hx : a.eval x = .pointer (some ⟨g, 0, none⟩)) (hy : a.eval y = .agg cells)
    (t : TypeId) (old : Array Value) (hg : w.heap[g]? = some (.cells old t (0, 0))) (hi : (P.info? ty).map (·.size) = some cells.size)
    (hold : old.size = cells.size) (h1 : cells.all (·.oneCell') = true)
    (h : K (a.put op.dst undef) (w.setRow g cells)) : Oper.wp P op a w K Q := by
  unfold Oper.wp
  unfold execOp
  simp only [ho, hx, hy, Instr.storeAt, Instr.sureAddr, Sem.run_bind, Sem.run_pure, Result.andThen_ok, run_storeVar_row w g t ty old cells hg hi hold h1]
  exact h
/-- The same at a step of a region that draws its order. -/
theorem step37 {ops : Array Oper} {o : Oper} {a : Act} {w : World} {K : Act → World → Prop} {Q : Exit → Act → World → Prop} {E : Prop} {y0 y1 y2 y3 y4 y5 : Value} (hgd : o.guard = none) (x y : Operand) (ho : o.op = .store 37 x y)
    (g : Nat) (x0 x1 x2 x3 x4 x5 : Value) (hx : a.eval x = .pointer (some ⟨g, 0, none⟩)) (hy : a.eval y = .agg #[x0, x1, x2, x3, x4, x5]) (hg : R6 w g y0 y1 y2 y3 y4 y5) (hs : Six x0 x1 x2 x3 x4 x5)
    (h : K (a.put o.dst undef) (w.setRow g #[x0, x1, x2, x3, x4, x5])) : if Region.wanted o (yielded ops a.tmps) = true then Oper.wp Tryz.prog o a w K Q else E := by
  have hw : Region.wanted o (yielded ops a.tmps) = true := by simp [Region.wanted, hgd]
  rw [if_pos hw]
  exact store_row 37 x y ho g _ hx hy 37 _ hg.h Tryz.size37 rfl hs.all h
theorem Dv.set {B g : Nat} {w : World} {v : Value} {d : SD} {y0 y1 y2 y3 y4 y5 : Value} (h : Dv B w v d) (hg : R6 w g y0 y1 y2 y3 y4 y5) (cs : Array Value) : Dv B (w.setRow g cs) v d := by
  obtain ⟨slo, sup, e, e0, o1, o2⟩ := h
  exact ⟨slo, sup, e, e0, own_setRow o1 g cs hg.h, own_setRow o2 g cs hg.h⟩
theorem Dv.base {B B' : Nat} {w : World} {v : Value} {d : SD} (h : Dv B w v d) (hb : B' ≤ B) : Dv B' w v d := by
  obtain ⟨slo, sup, e, e0, o1, o2⟩ := h
  exact ⟨slo, sup, e, e0, own_base o1 hb, own_base o2 hb⟩
/-- What a domain in memory of its own looks like. -/
theorem Dv.look {B : Nat} {w : World} {v : Value} {d : SD} (h : Dv B w v d) : ∃ x0 p1 m1 k1 p2 m2 k2 x4 x5, v = .agg #[.bool x0, .slice none 0 0, .slice p1 m1 k1, .slice p2 m2 k2, .int .i64 x4, .int .i64 x5] ∧
    Hid (d.set = x0 ∧ d.lo.length = m1 ∧ d.up.length = m2 ∧ d.least = x4 ∧ d.most = x5 ∧ d.rn = 0) ∧ Hid (w.ownsRow B 2 1 (.slice p1 m1 k1) m1 (intv d.lo)) ∧ Hid (w.ownsRow B 2 1 (.slice p2 m2 k2) m2 (intv d.up)) := by
  obtain ⟨slo, sup, e, e0, o1, o2⟩ := h
  obtain ⟨p1, k1, rfl⟩ := own_slice o1
  obtain ⟨p2, k2, rfl⟩ := own_slice o2
  exact ⟨_, _, _, _, _, _, _, _, _, e, ⟨rfl, rfl, rfl, rfl, rfl, e0⟩, o1, o2⟩
/-- What a domain that is handed in looks like. -/
theorem Di.look {w : World} {v : Value} {d : SD} (h : Di w v d) : ∃ x0 ra rn rc a1 n1 c1 a2 n2 c2 x4 x5, v = .agg #[.bool x0, .slice ra rn rc, .slice a1 n1 c1, .slice a2 n2 c2, .int .i64 x4, .int .i64 x5] ∧
    Hid (d.set = x0 ∧ d.lo.length = n1 ∧ d.up.length = n2 ∧ d.least = x4 ∧ d.most = x5 ∧ d.rn = rn) ∧ Hid (Si w (.slice a1 n1 c1) d.lo) ∧ Hid (Si w (.slice a2 n2 c2) d.up) := by
  obtain ⟨ra, rc, slo, sup, e, h1, h2⟩ := h
  have h1' := h1
  have h2' := h2
  obtain ⟨a1, c1, rfl, _⟩ := h1'
  obtain ⟨a2, c2, rfl, _⟩ := h2'
  exact ⟨_, _, _, _, _, _, _, _, _, _, _, _, e, ⟨rfl, rfl, rfl, rfl, rfl, rfl⟩, h1, h2⟩
theorem si_look {w : World} {s : Value} {l : List Int} (h : Si w s l) : ∃ a n c, s = .slice a n c ∧ Hid (Si w (.slice a n c) l) ∧ Hid (l.length = n) := by
  have h' := h
  obtain ⟨a, c, rfl, _⟩ := h'
  exact ⟨_, _, _, rfl, h, rfl⟩
theorem own_si' {W : World} {base n : Nat} {s : Value} {l : List Int} (h : W.ownsRow base 2 1 s n (intv l)) (hn : l.length = n) : Si W s l := by subst hn; exact own_si h
end Go.Proofs.YtghnfnieppfhgaaGreat.St


namespace Go.Proofs.YtghnfnieppfhgaaGreat.St
open Go.RowKit Go.Shelf
set_option linter.unusedVariables false
set_option linter.unusedSimpArgs false

theorem one_si (w : World) (x : Int) : Si (w.alloc (Obj.cells #[.int .i64 x] 2)) (.slice (some ⟨w.heap.size, 0, none⟩) 1 1) [x] := by
  refine ⟨_, _, rfl, fun _ => ⟨_, _, rfl, by rw [World.size_alloc]; omega, fun i hi => ?_⟩⟩
  have hi0 : i = 0 := by simp at hi; omega
  subst hi0
  have := World.alloc_heap_new w (Obj.cells #[.int .i64 x] 2)
  show (w.alloc (Obj.cells #[.int .i64 x] 2)).cell? ⟨w.heap.size, 0 + 0, none⟩ = _
  rw [cell_row this]
  rfl
theorem take_next (l : List Int) (k : Nat) (h : k < l.length) : l.take (k + 1) = l.take k ++ [nth l k] := by
  rw [List.take_add_one, List.getElem?_eq_getElem h]; simp [nth, h]
theorem filt_yes (l : List Int) (f : Int → Bool) (k : Nat) (h : k < l.length) (hf : f (nth l k) = true) : (l.take (k + 1)).filter f = (l.take k).filter f ++ [nth l k] := by
  rw [take_next l k h, List.filter_append]; simp [hf]
theorem filt_no (l : List Int) (f : Int → Bool) (k : Nat) (h : k < l.length) (hf : f (nth l k) = false) : (l.take (k + 1)).filter f = (l.take k).filter f := by
  rw [take_next l k h, List.filter_append]; simp [hf]
theorem filt_len (l : List Int) (f : Int → Bool) (k : Nat) : ((l.take k).filter f).length ≤ k := Nat.le_trans (List.length_filter_le _ _) (by simp; omega)

set_option maxRecDepth 100000 in
set_option maxHeartbeats 4000000 in
theorem refmeet_any (s1 s2 : Value) (a b : List Int) (W : World) (h1 : Si W s1 a) (h2 : Si W s2 b) :
    Calls Tryz.prog 87 #[s1, s2] W fun e w' => ∃ v, e = .returned v ∧ w'.ownsRow W.heap.size 2 1 v (meetL (tkS a) (tkS b)).length (intv (meetL (tkS a) (tkS b))) ∧ Below W.heap.size W w' := by
  have hk := taken_any s1 a W h1
  have kin := fun v X (hX : Below W.heap.size W X) => refin_any v s2 b X (h2.below hX)
  have hspec : meetL (tkS a) (tkS b) = (tkS a).filter (fun x => (tkS b).contains x) := rfl
  rw [hspec]
  obtain ⟨f, hf⟩ : ∃ f : Int → Bool, (fun x => (tkS b).contains x) = f := ⟨_, rfl⟩
  have HF : Hid (∀ x, f x = (tkS b).contains x) := fun x => by rw [← hf]
  rw [hf]
  clear hspec hf
  have hset := (tkS_set a).1
  generalize tkS a = A at hk hset ⊢
  obtain ⟨a1, c1, rfl, _⟩ := h1
  obtain ⟨a2, c2, rfl, _⟩ := h2
  generalize a.length = n1 at *
  generalize b.length = n2 at *
  go_enter Tryz.func87, Tryz.ntmps87
  go_wp2_with fail
  refine hk.mono ?_
  rintro e w1 ⟨a3, n3, c3, rfl, HS, HN3, m1, hw1⟩
  have hb1 : Below W.heap.size W w1 := by rw [hw1]; exact below_drewN (Below.refl _ _) _
  have hS := HS.out
  obtain ⟨a3', c3', e3, hc⟩ := hS
  rw [← HN3.out] at e3 hc
  injection e3 with e4 _ e5
  subst e4 e5
  have HC : Hid _ := hc
  have HN : Hid (A.length = n3) := HN3.out.symm
  have hn3 : n3 ≤ 64 := by rw [HN3.out]; exact hset
  clear hk hc HS HN3 hw1 hset
  go_wp2
  go_loopw [5, 6] (fun o i wr => ∃ k : Nat, k ≤ n3 ∧ i = .int .i64 k ∧ wr.ownsRow W.heap.size 2 1 o ((A.take k).filter f).length (intv ((A.take k).filter f)) ∧ Below W.heap.size W wr) (fun _ i _ => n3 - (intOf i).toNat)
  case atStart => exact ⟨0, Nat.zero_le _, rfl, by simpa [intv] using World.ownsRow_nil _ _ _ _, hb1⟩
  case round =>
    obtain ⟨k, hk, rfl, hrow, hB⟩ := hrel
    have HROW : Hid _ := hrow
    clear hrow
    by_cases hlt2 : k < n3
    · obtain ⟨bb, off, rfl, hb, hcell⟩ := HC.out (by omega)
      have d0 := hcell k hlt2
      obtain ⟨x, hx⟩ : ∃ x, nth A k = x := ⟨_, rfl⟩
      have HX : Hid (nth A k = x) := hx
      rw [hx] at d0
      have hlt' : (k : Int) < (n3 : Int) := by omega
      have d1 := (hB.cell (p := ⟨bb, off + k, none⟩) hb).trans d0
      have ki := kin x wr hB
      clear hx hcell d0
      obtain ⟨bo, hbo⟩ : ∃ bo, (tkS b).contains x = bo := ⟨_, rfl⟩
      rw [hbo] at ki
      have HB : Hid (f x = bo) := by unfold Hid; rw [HF.out, hbo]
      clear hbo
      cases bo
      · go_wp2_with fail
        refine ki.mono ?_
        rintro e w3 ⟨rfl, q, hq⟩
        have hb3' : Below wr.heap.size wr w3 := by rw [hq]; exact below_drewN (Below.refl _ _) _
        have hB3 : Below W.heap.size W w3 := hB.trans (hb3'.mono hB.size)
        have HNX : Hid (((A.take (k + 1)).filter f) = (A.take k).filter f) := by unfold Hid; rw [filt_no A f k (by rw [HN.out]; exact hlt2) (by rw [HX.out]; exact HB.out)]
        have HR3 : Hid _ := own_keepB HROW.out hb3'
        clear hq hb3' ki d1 hB
        go_wp2
        go_roundw
        case rel => exact ⟨k + 1, by omega, by go_num, by rw [HNX.out]; exact HR3.out, hB3⟩
        case measure => simp [intOf]; omega
      · go_wp2_with fail
        refine ki.mono ?_
        rintro e w3 ⟨rfl, q, hq⟩
        have hb3' : Below wr.heap.size wr w3 := by rw [hq]; exact below_drewN (Below.refl _ _) _
        have d2 := (hb3'.cell (p := ⟨bb, off + k, none⟩) (Nat.lt_of_lt_of_le hb hB.size)).trans d1
        have hB3 : Below W.heap.size W w3 := hB.trans (hb3'.mono hB.size)
        have hrow3 := World.ownsRow.alloc (own_keepB HROW.out hb3') (Obj.cells #[.int .i64 x] 2)
        have hlen := filt_len A f k
        have HNX : Hid (((A.take (k + 1)).filter f) = (A.take k).filter f ++ [x]) := by unfold Hid; rw [filt_yes A f k (by rw [HN.out]; exact hlt2) (by rw [HX.out]; exact HB.out), HX.out]
        have HBA : Hid (Below W.heap.size W (w3.alloc (Obj.cells #[.int .i64 x] 2))) := hB3.alloc hB3.size _
        have hsz := HBA.out.size
        generalize (A.take k).filter f = L at *
        clear hq hb3' ki d1 hB
        go_wp2_with (at_builtin; refine wpList_app_sr _ rfl _ _ rfl W.heap.size _ _ L rfl hrow3 rfl _ [x] rfl (one_si w3 x) (by simp; omega) hsz ?_; intro v' w4 hown' hbel)
        go_roundw
        case rel => exact ⟨k + 1, by omega, by go_num, by rw [HNX.out, List.length_append]; exact hown', HBA.out.trans hbel⟩
        case measure => simp [intOf]; omega
    · have hlt' : ¬ (k : Int) < (n3 : Int) := by omega
      obtain rfl : k = n3 := by omega
      have HTK : Hid (A.take k = A) := by unfold Hid; rw [← HN.out]; exact List.take_length
      have HR4 := HROW.out
      rw [HTK.out] at HR4
      obtain ⟨p, c, rfl⟩ := own_slice HR4
      have HR5 : Hid _ := HR4
      clear HR4 HROW
      generalize hLL : (A.filter f).length = LL at HR5
      have HLL : Hid ((A.filter f).length = LL) := hLL
      clear hLL
      go_wp2
      go_ret
      exact ⟨_, rfl, by rw [HLL.out]; exact HR5.out, hB⟩

set_option maxRecDepth 100000 in
set_option maxHeartbeats 4000000 in
theorem refless_any (s1 s2 : Value) (a b : List Int) (W : World) (h1 : Si W s1 a) (h2 : Si W s2 b) :
    Calls Tryz.prog 107 #[s1, s2] W fun e w' => ∃ v, e = .returned v ∧ w'.ownsRow W.heap.size 2 1 v (lessL (tkS a) (tkS b)).length (intv (lessL (tkS a) (tkS b))) ∧ Below W.heap.size W w' := by
  have hk := taken_any s1 a W h1
  have kin := fun v X (hX : Below W.heap.size W X) => refin_any v s2 b X (h2.below hX)
  have hspec : lessL (tkS a) (tkS b) = (tkS a).filter (fun x => !(tkS b).contains x) := rfl
  rw [hspec]
  obtain ⟨f, hf⟩ : ∃ f : Int → Bool, (fun x => !(tkS b).contains x) = f := ⟨_, rfl⟩
  have HF : Hid (∀ x, f x = !(tkS b).contains x) := fun x => by rw [← hf]
  rw [hf]
  clear hspec hf
  have hset := (tkS_set a).1
  generalize tkS a = A at hk hset ⊢
  obtain ⟨a1, c1, rfl, _⟩ := h1
  obtain ⟨a2, c2, rfl, _⟩ := h2
  generalize a.length = n1 at *
  generalize b.length = n2 at *
  go_enter Tryz.func107, Tryz.ntmps107
  go_wp2_with fail
  refine hk.mono ?_
  rintro e w1 ⟨a3, n3, c3, rfl, HS, HN3, m1, hw1⟩
  have hb1 : Below W.heap.size W w1 := by rw [hw1]; exact below_drewN (Below.refl _ _) _
  have hS := HS.out
  obtain ⟨a3', c3', e3, hc⟩ := hS
  rw [← HN3.out] at e3 hc
  injection e3 with e4 _ e5
  subst e4 e5
  have HC : Hid _ := hc
  have HN : Hid (A.length = n3) := HN3.out.symm
  have hn3 : n3 ≤ 64 := by rw [HN3.out]; exact hset
  clear hk hc HS HN3 hw1 hset
  go_wp2
  go_loopw [5, 6] (fun o i wr => ∃ k : Nat, k ≤ n3 ∧ i = .int .i64 k ∧ wr.ownsRow W.heap.size 2 1 o ((A.take k).filter f).length (intv ((A.take k).filter f)) ∧ Below W.heap.size W wr) (fun _ i _ => n3 - (intOf i).toNat)
  case atStart => exact ⟨0, Nat.zero_le _, rfl, by simpa [intv] using World.ownsRow_nil _ _ _ _, hb1⟩
  case round =>
    obtain ⟨k, hk, rfl, hrow, hB⟩ := hrel
    have HROW : Hid _ := hrow
    clear hrow
    by_cases hlt2 : k < n3
    · obtain ⟨bb, off, rfl, hb, hcell⟩ := HC.out (by omega)
      have d0 := hcell k hlt2
      obtain ⟨x, hx⟩ : ∃ x, nth A k = x := ⟨_, rfl⟩
      have HX : Hid (nth A k = x) := hx
      rw [hx] at d0
      have hlt' : (k : Int) < (n3 : Int) := by omega
      have d1 := (hB.cell (p := ⟨bb, off + k, none⟩) hb).trans d0
      have ki := kin x wr hB
      clear hx hcell d0
      obtain ⟨bo, hbo⟩ : ∃ bo, (tkS b).contains x = bo := ⟨_, rfl⟩
      rw [hbo] at ki
      have HB : Hid (f x = !bo) := by unfold Hid; rw [HF.out, hbo]
      clear hbo
      cases bo
      · go_wp2_with fail
        refine ki.mono ?_
        rintro e w3 ⟨rfl, q, hq⟩
        have hb3' : Below wr.heap.size wr w3 := by rw [hq]; exact below_drewN (Below.refl _ _) _
        have d2 := (hb3'.cell (p := ⟨bb, off + k, none⟩) (Nat.lt_of_lt_of_le hb hB.size)).trans d1
        have hB3 : Below W.heap.size W w3 := hB.trans (hb3'.mono hB.size)
        have hrow3 := World.ownsRow.alloc (own_keepB HROW.out hb3') (Obj.cells #[.int .i64 x] 2)
        have hlen := filt_len A f k
        have HNX : Hid (((A.take (k + 1)).filter f) = (A.take k).filter f ++ [x]) := by unfold Hid; rw [filt_yes A f k (by rw [HN.out]; exact hlt2) (by rw [HX.out]; exact HB.out), HX.out]
        have HBA : Hid (Below W.heap.size W (w3.alloc (Obj.cells #[.int .i64 x] 2))) := hB3.alloc hB3.size _
        have hsz := HBA.out.size
        generalize (A.take k).filter f = L at *
        clear hq hb3' ki d1 hB
        go_wp2_with (at_builtin; refine wpList_app_sr _ rfl _ _ rfl W.heap.size _ _ L rfl hrow3 rfl _ [x] rfl (one_si w3 x) (by simp; omega) hsz ?_; intro v' w4 hown' hbel)
        go_roundw
        case rel => exact ⟨k + 1, by omega, by go_num, by rw [HNX.out, List.length_append]; exact hown', HBA.out.trans hbel⟩
        case measure => simp [intOf]; omega
      · go_wp2_with fail
        refine ki.mono ?_
        rintro e w3 ⟨rfl, q, hq⟩
        have hb3' : Below wr.heap.size wr w3 := by rw [hq]; exact below_drewN (Below.refl _ _) _
        have hB3 : Below W.heap.size W w3 := hB.trans (hb3'.mono hB.size)
        have HNX : Hid (((A.take (k + 1)).filter f) = (A.take k).filter f) := by unfold Hid; rw [filt_no A f k (by rw [HN.out]; exact hlt2) (by rw [HX.out]; exact HB.out)]
        have HR3 : Hid _ := own_keepB HROW.out hb3'
        clear hq hb3' ki d1 hB
        go_wp2
        go_roundw
        case rel => exact ⟨k + 1, by omega, by go_num, by rw [HNX.out]; exact HR3.out, hB3⟩
        case measure => simp [intOf]; omega
    · have hlt' : ¬ (k : Int) < (n3 : Int) := by omega
      obtain rfl : k = n3 := by omega
      have HTK : Hid (A.take k = A) := by unfold Hid; rw [← HN.out]; exact List.take_length
      have HR4 := HROW.out
      rw [HTK.out] at HR4
      obtain ⟨p, c, rfl⟩ := own_slice HR4
      have HR5 : Hid _ := HR4
      clear HR4 HROW
      generalize hLL : (A.filter f).length = LL at HR5
      have HLL : Hid ((A.filter f).length = LL) := hLL
      clear hLL
      go_wp2
      go_ret
      exact ⟨_, rfl, by rw [HLL.out]; exact HR5.out, hB⟩
end Go.Proofs.YtghnfnieppfhgaaGreat.St


namespace Go.Proofs.YtghnfnieppfhgaaGreat.St
open Go.RowKit Go.Shelf
set_option linter.unusedVariables false
set_option linter.unusedSimpArgs false

/-- A list with a value more, behind all that are not greater. -/
def PutR (l : List Int) (v : Int) (L : List Int) : Prop := ∃ k, k ≤ l.length ∧ (∀ j, k ≤ j → j < l.length → v < nth l j) ∧ (k = 0 ∨ nth l (k - 1) ≤ v) ∧ L = l.take k ++ [v] ++ l.drop k
theorem PutR.perm {l L : List Int} {v : Int} (h : PutR l v L) : L.Perm (v :: l) := by
  obtain ⟨k, _, _, _, rfl⟩ := h
  have h1 : (l.take k ++ [v] ++ l.drop k).Perm (v :: (l.take k ++ l.drop k)) := by
    rw [List.append_assoc]
    exact List.perm_middle
  rwa [List.take_append_drop] at h1
theorem PutR.pw {l L : List Int} {v : Int} (h : PutR l v L) (hl : l.Pairwise (· ≤ ·)) : L.Pairwise (· ≤ ·) := by
  obtain ⟨k, hk, h1, h2, rfl⟩ := h
  have hle : ∀ i j, i ≤ j → j < l.length → nth l i ≤ nth l j := fun i j hij hj => by
    rcases Nat.lt_or_ge i j with h | h
    · have := List.pairwise_iff_getElem.1 hl i j (by omega) hj h
      simpa [nth, hj, show i < l.length by omega] using this
    · obtain rfl : i = j := by omega
      exact Int.le_refl _
  rw [List.append_assoc, List.pairwise_append]
  refine ⟨hl.sublist (List.take_sublist _ _), ?_, ?_⟩
  · rw [List.singleton_append, List.pairwise_cons]
    refine ⟨fun x hx => ?_, hl.sublist (List.drop_sublist _ _)⟩
    obtain ⟨j, hj, e⟩ := List.getElem_of_mem hx
    rw [List.length_drop] at hj
    have := h1 (k + j) (by omega) (by omega)
    rw [List.getElem_drop] at e
    have h3 : nth l (k + j) = x := by simp [nth, show k + j < l.length by omega, e]
    omega
  · intro x hx y hy
    obtain ⟨i, hi, e⟩ := List.getElem_of_mem hx
    rw [List.length_take] at hi
    rw [List.getElem_take] at e
    have hx' : nth l i = x := by simp [nth, show i < l.length by omega, e]
    have hxv : x ≤ v := by
      rcases h2 with h2 | h2
      · omega
      · have := hle i (k - 1) (by omega) (by omega); omega
    rw [List.singleton_append, List.mem_cons] at hy
    rcases hy with rfl | hy
    · exact hxv
    · obtain ⟨j, hj, e2⟩ := List.getElem_of_mem hy
      rw [List.length_drop] at hj
      have := h1 (k + j) (by omega) (by omega)
      rw [List.getElem_drop] at e2
      have h3 : nth l (k + j) = y := by simp [nth, show k + j < l.length by omega, e2]
      omega
theorem si_take {W : World} {b off n c : Nat} {l : List Int} (h : Si W (.slice (some ⟨b, off, none⟩) n c) l) (hn : l.length = n) (k : Nat) (hk : k ≤ n) (c' : Nat) : Si W (.slice (some ⟨b, off, none⟩) k c') (l.take k) := by
  obtain ⟨a, cap, e, hc⟩ := h
  injection e with e1 e2 e3
  have hl : (l.take k).length = k := by rw [List.length_take]; omega
  refine ⟨_, c', by rw [hl], fun h0 => ?_⟩
  obtain ⟨b', off', e4, hlt, hcell⟩ := hc (by omega)
  rw [← e1] at e4
  injection e4 with e4
  injection e4 with e5 e6
  subst e5 e6
  refine ⟨b, off, rfl, hlt, fun i hi => ?_⟩
  rw [hl] at hi
  rw [hcell i (by omega)]
  congr 2
  simp [nth, List.getElem?_take_of_lt hi]
theorem si_drop {W : World} {b off n c : Nat} {l : List Int} (h : Si W (.slice (some ⟨b, off, none⟩) n c) l) (hn : l.length = n) (k : Nat) (hk : k < n) (c' : Nat) : Si W (.slice (some ⟨b, off + k, none⟩) (n - k) c') (l.drop k) := by
  obtain ⟨a, cap, e, hc⟩ := h
  injection e with e1 e2 e3
  have hl : (l.drop k).length = n - k := by rw [List.length_drop]; omega
  refine ⟨_, c', by rw [hl], fun h0 => ?_⟩
  obtain ⟨b', off', e4, hlt, hcell⟩ := hc (by omega)
  rw [← e1] at e4
  injection e4 with e4
  injection e4 with e5 e6
  subst e5 e6
  refine ⟨b, off + k, rfl, hlt, fun i hi => ?_⟩
  rw [hl] at hi
  rw [Nat.add_assoc, hcell (k + i) (by omega)]
  congr 2
  simp [nth]
theorem si_drop0 {W : World} {b n c : Nat} {l : List Int} (h : Si W (.slice (some ⟨b, 0, none⟩) n c) l) (hn : l.length = n) (k : Nat) (hk : k < n) (c' : Nat) : Si W (.slice (some ⟨b, k, none⟩) (n - k) c') (l.drop k) := by
  have := si_drop h hn k hk c'
  rwa [Nat.zero_add] at this
theorem si_empty (W : World) (a : Option Addr) (c : Nat) : Si W (.slice a 0 c) [] := ⟨a, c, rfl, fun h => absurd h (by decide)⟩

set_option maxRecDepth 100000 in
set_option maxHeartbeats 4000000 in
theorem put_none (v : Int) (W : World) :
    Calls Tryz.prog 108 #[.slice none 0 0, .int .i64 v] W fun e w' => ∃ s' L, e = .returned s' ∧ Hid (w'.ownsRow W.heap.size 2 1 s' L.length (intv L)) ∧ Hid (PutR [] v L) ∧ Below W.heap.size W w' := by
  have hnil : W.ownsRow W.heap.size 2 1 (.slice none 0 0) 0 (intv []) := by simpa [intv] using World.ownsRow_nil _ _ _ _
  go_enter Tryz.func108, Tryz.ntmps108
  go_wp2
  go_loopw [5] (fun i wr => i = .int .i64 0 ∧ wr = W) (fun i _ => 0)
  case atStart => exact ⟨rfl, rfl⟩
  case round =>
    obtain ⟨rfl, rfl⟩ := hrel
    go_upto_region 6 with (at_builtin; refine wpList_app_sr _ rfl _ _ rfl wr.heap.size _ 0 [] rfl hnil rfl _ ([] : List Int) rfl (si_empty _ _ _) (by simp <;> omega) (Nat.le_refl _) ?_; intro v1 w1 hr1 hbel1)
    have hr1' : w1.ownsRow wr.heap.size 2 1 v1 (([] : List Int)).length (intv ([] : List Int)) := by simpa using hr1
    have hbA : Below wr.heap.size wr (w1.alloc (Obj.cells #[.int .i64 v] 2)) := hbel1.alloc hbel1.size _
    have hr1a := World.ownsRow.alloc hr1' (Obj.cells #[.int .i64 v] 2)
    have hszA := hbA.size
    clear hr1 hr1'
    go_upto_region 7 with (at_builtin; refine wpList_app_sr _ rfl _ _ rfl wr.heap.size _ _ ([] : List Int) rfl hr1a rfl _ [v] rfl (one_si w1 v) (by simp <;> omega) hszA ?_; intro v2 w2 hr2 hbel2)
    have hb2 : Below wr.heap.size wr w2 := hbA.trans hbel2
    have hr2' : w2.ownsRow wr.heap.size 2 1 v2 (([] : List Int) ++ [v]).length (intv (([] : List Int) ++ [v])) := by rw [List.length_append]; exact hr2
    have hsz2 := hb2.size
    clear hr2 hbel2 hbA hszA hbel1 hr1a
    go_upto_region 8 with (at_builtin; refine wpList_app_sr _ rfl _ _ rfl wr.heap.size _ _ (([] : List Int) ++ [v]) rfl hr2' rfl _ ([] : List Int) rfl (si_empty _ _ _) (by simp <;> omega) hsz2 ?_; intro v3 w3 hr3 hbel3)
    have hb3 : Below wr.heap.size wr w3 := hb2.trans hbel3
    have hr3' : w3.ownsRow wr.heap.size 2 1 v3 (([] : List Int) ++ [v] ++ ([] : List Int)).length (intv (([] : List Int) ++ [v] ++ ([] : List Int))) := by rw [List.length_append]; exact hr3
    obtain ⟨p3, c3, rfl⟩ := own_slice hr3'
    have HR3 : Hid _ := hr3'
    clear hr3 hr3' hr2' hbel3 hb2
    generalize hLL : (([] : List Int) ++ [v] ++ ([] : List Int)).length = LL at HR3
    have HLL : Hid ((([] : List Int) ++ [v] ++ ([] : List Int)).length = LL) := hLL
    clear hLL
    go_wp2
    go_ret
    refine ⟨_, ([] : List Int) ++ [v] ++ ([] : List Int), rfl, by unfold Hid; rw [HLL.out]; exact HR3.out, ⟨0, Nat.le_refl _, fun j _ hj => absurd hj (by simp), .inl rfl, rfl⟩, hb3⟩

set_option maxRecDepth 100000 in
set_option maxHeartbeats 4000000 in
theorem put_some (g n cap : Nat) (l : List Int) (v : Int) (W : World) (h : Si W (.slice (some ⟨g, 0, none⟩) n cap) l) (hn : l.length = n) (hcap : n ≤ cap) (hl : n ≤ 1000) :
    Calls Tryz.prog 108 #[.slice (some ⟨g, 0, none⟩) n cap, .int .i64 v] W fun e w' => ∃ s' L, e = .returned s' ∧ Hid (w'.ownsRow W.heap.size 2 1 s' L.length (intv L)) ∧ Hid (PutR l v L) ∧ Below W.heap.size W w' := by
  have hnil : W.ownsRow W.heap.size 2 1 (.slice none 0 0) 0 (intv []) := by simpa [intv] using World.ownsRow_nil _ _ _ _
  have hcells : ∀ i, i < n → W.cell? ⟨g, i, none⟩ = some (.int .i64 (nth l i)) := by
    obtain ⟨a, cp, e, hc⟩ := h
    injection e with e1 e2 e3
    intro i hi
    obtain ⟨b, off, e4, hlt, hcell⟩ := hc (by omega)
    rw [← e1] at e4
    injection e4 with e4
    injection e4 with e5 e6
    subst e5 e6
    have := hcell i (by omega)
    rwa [Nat.zero_add] at this
  have HC : Hid _ := hcells
  have HS : Hid (Si W (.slice (some ⟨g, 0, none⟩) n cap) l) := h
  have HN : Hid (l.length = n) := hn
  clear h hn hcells
  go_enter Tryz.func108, Tryz.ntmps108
  go_wp2
  go_loopw [5] (fun i wr => ∃ k : Nat, k ≤ n ∧ i = .int .i64 k ∧ (∀ j, k ≤ j → j < n → v < nth l j) ∧ wr = W) (fun i _ => (intOf i).toNat)
  case atStart => exact ⟨n, Nat.le_refl _, rfl, fun j h1 h2 => by omega, rfl⟩
  case round =>
    obtain ⟨k, hk, rfl, hok, rfl⟩ := hrel
    have HOK : Hid (∀ j, k ≤ j → j < n → v < nth l j) := hok
    clear hok
    by_cases hk0 : 0 < k
    · have d1 := HC.out (k - 1) (by omega)
      obtain ⟨z, hz⟩ : ∃ z, nth l (k - 1) = z := ⟨_, rfl⟩
      have HZ : Hid (nth l (k - 1) = z) := hz
      rw [hz] at d1
      have hk1 : (k : Int) - 1 = ((k - 1 : Nat) : Int) := by omega
      have hd0 : decide (0 < k) = true := by simpa using hk0
      have hlt1 : ((k - 1 : Nat) : Int) < (n : Int) := by omega
      clear hz
      by_cases hv : v < z
      · have hv' : decide (v < z) = true := by simpa using hv
        have HV : Hid (v < z) := hv
        clear hv
        go_wp2
        go_roundw
        case rel => exact ⟨k - 1, by omega, rfl, fun j h1 h2 => if h : j = k - 1 then by subst h; rw [HZ.out]; exact HV.out else HOK.out j (by omega) h2, trivial⟩
        case measure => simp [intOf]; omega
      · have hv' : decide (v < z) = false := by simpa using hv
        have HV : Hid (z ≤ v) := by unfold Hid; omega
        clear hv
        have HPUT : Hid (PutR l v (l.take k ++ [v] ++ l.drop k)) := ⟨k, by rw [HN.out]; exact hk, fun j h1 h2 => HOK.out j h1 (by rw [HN.out] at h2; exact h2), .inr (by rw [HZ.out]; exact HV.out), rfl⟩
        have hkc : (k : Int) ≤ (cap : Int) := by omega
        have hln : l.length ≤ 1000 := by rw [HN.out]; exact hl
        have hl1 : (l.take k).length = k := by rw [List.length_take, HN.out]; omega
        have hl2 : (l.drop k).length = n - k := by rw [List.length_drop, HN.out]
        by_cases hkn : k < n
        · have hkcap : ¬ cap = k := by omega
          have hkcap' : ¬ (cap : Int) = (k : Int) := by omega
          go_upto_region 6 with (at_builtin; refine wpList_app_sr _ rfl _ _ rfl wr.heap.size _ 0 [] rfl hnil rfl _ (l.take k) rfl (si_take HS.out HN.out k hk _) (by simp <;> omega) (Nat.le_refl _) ?_; intro v1 w1 hr1 hbel1)
          have hr1' : w1.ownsRow wr.heap.size 2 1 v1 ((l.take k)).length (intv (l.take k)) := by simpa using hr1
          have hbA : Below wr.heap.size wr (w1.alloc (Obj.cells #[.int .i64 v] 2)) := hbel1.alloc hbel1.size _
          have hr1a := World.ownsRow.alloc hr1' (Obj.cells #[.int .i64 v] 2)
          have hszA := hbA.size
          clear hr1 hr1'
          go_upto_region 7 with (at_builtin; refine wpList_app_sr _ rfl _ _ rfl wr.heap.size _ _ (l.take k) rfl hr1a rfl _ [v] rfl (one_si w1 v) (by simp <;> omega) hszA ?_; intro v2 w2 hr2 hbel2)
          have hb2 : Below wr.heap.size wr w2 := hbA.trans hbel2
          have hr2' : w2.ownsRow wr.heap.size 2 1 v2 ((l.take k) ++ [v]).length (intv ((l.take k) ++ [v])) := by rw [List.length_append]; exact hr2
          have hsz2 := hb2.size
          clear hr2 hbel2 hbA hszA hbel1 hr1a
          go_upto_region 8 with (at_builtin; refine wpList_app_sr _ rfl _ _ rfl wr.heap.size _ _ ((l.take k) ++ [v]) rfl hr2' rfl _ (l.drop k) rfl (Si.below (l := l.drop k) (si_drop0 HS.out HN.out k hkn _) hb2) (by simp <;> omega) hsz2 ?_; intro v3 w3 hr3 hbel3)
          have hb3 : Below wr.heap.size wr w3 := hb2.trans hbel3
          have hr3' : w3.ownsRow wr.heap.size 2 1 v3 ((l.take k) ++ [v] ++ (l.drop k)).length (intv ((l.take k) ++ [v] ++ (l.drop k))) := by rw [List.length_append]; exact hr3
          obtain ⟨p3, c3, rfl⟩ := own_slice hr3'
          have HR3 : Hid _ := hr3'
          clear hr3 hr3' hr2' hbel3 hb2
          generalize hLL : ((l.take k) ++ [v] ++ (l.drop k)).length = LL at HR3
          have HLL : Hid (((l.take k) ++ [v] ++ (l.drop k)).length = LL) := hLL
          clear hLL
          go_wp2
          go_ret
          refine ⟨_, (l.take k) ++ [v] ++ (l.drop k), rfl, by unfold Hid; rw [HLL.out]; exact HR3.out, HPUT.out, hb3⟩
        · obtain rfl : k = n := by omega
          have hd : l.drop k = [] := by rw [← HN.out]; simp
          rw [hd] at HPUT hl2
          clear hd
          by_cases hkcap : cap = k
          · subst hkcap
            go_upto_region 6 with (at_builtin; refine wpList_app_sr _ rfl _ _ rfl wr.heap.size _ 0 [] rfl hnil rfl _ (l.take cap) rfl (si_take HS.out HN.out cap hk _) (by simp <;> omega) (Nat.le_refl _) ?_; intro v1 w1 hr1 hbel1)
            have hr1' : w1.ownsRow wr.heap.size 2 1 v1 ((l.take cap)).length (intv (l.take cap)) := by simpa using hr1
            have hbA : Below wr.heap.size wr (w1.alloc (Obj.cells #[.int .i64 v] 2)) := hbel1.alloc hbel1.size _
            have hr1a := World.ownsRow.alloc hr1' (Obj.cells #[.int .i64 v] 2)
            have hszA := hbA.size
            clear hr1 hr1'
            go_upto_region 7 with (at_builtin; refine wpList_app_sr _ rfl _ _ rfl wr.heap.size _ _ (l.take cap) rfl hr1a rfl _ [v] rfl (one_si w1 v) (by simp <;> omega) hszA ?_; intro v2 w2 hr2 hbel2)
            have hb2 : Below wr.heap.size wr w2 := hbA.trans hbel2
            have hr2' : w2.ownsRow wr.heap.size 2 1 v2 ((l.take cap) ++ [v]).length (intv ((l.take cap) ++ [v])) := by rw [List.length_append]; exact hr2
            have hsz2 := hb2.size
            clear hr2 hbel2 hbA hszA hbel1 hr1a
            go_upto_region 8 with (at_builtin; refine wpList_app_sr _ rfl _ _ rfl wr.heap.size _ _ ((l.take cap) ++ [v]) rfl hr2' rfl _ ([] : List Int) rfl (si_empty _ _ _) (by simp <;> omega) hsz2 ?_; intro v3 w3 hr3 hbel3)
            have hb3 : Below wr.heap.size wr w3 := hb2.trans hbel3
            have hr3' : w3.ownsRow wr.heap.size 2 1 v3 ((l.take cap) ++ [v] ++ ([] : List Int)).length (intv ((l.take cap) ++ [v] ++ ([] : List Int))) := by rw [List.length_append]; exact hr3
            obtain ⟨p3, c3, rfl⟩ := own_slice hr3'
            have HR3 : Hid _ := hr3'
            clear hr3 hr3' hr2' hbel3 hb2
            generalize hLL : ((l.take cap) ++ [v] ++ ([] : List Int)).length = LL at HR3
            have HLL : Hid (((l.take cap) ++ [v] ++ ([] : List Int)).length = LL) := hLL
            clear hLL
            go_wp2
            go_ret
            refine ⟨_, (l.take cap) ++ [v] ++ ([] : List Int), rfl, by unfold Hid; rw [HLL.out]; exact HR3.out, HPUT.out, hb3⟩
          · have hkcap' : ¬ (cap : Int) = (k : Int) := by omega
            go_upto_region 6 with (at_builtin; refine wpList_app_sr _ rfl _ _ rfl wr.heap.size _ 0 [] rfl hnil rfl _ (l.take k) rfl (si_take HS.out HN.out k hk _) (by simp <;> omega) (Nat.le_refl _) ?_; intro v1 w1 hr1 hbel1)
            have hr1' : w1.ownsRow wr.heap.size 2 1 v1 ((l.take k)).length (intv (l.take k)) := by simpa using hr1
            have hbA : Below wr.heap.size wr (w1.alloc (Obj.cells #[.int .i64 v] 2)) := hbel1.alloc hbel1.size _
            have hr1a := World.ownsRow.alloc hr1' (Obj.cells #[.int .i64 v] 2)
            have hszA := hbA.size
            clear hr1 hr1'
            go_upto_region 7 with (at_builtin; refine wpList_app_sr _ rfl _ _ rfl wr.heap.size _ _ (l.take k) rfl hr1a rfl _ [v] rfl (one_si w1 v) (by simp <;> omega) hszA ?_; intro v2 w2 hr2 hbel2)
            have hb2 : Below wr.heap.size wr w2 := hbA.trans hbel2
            have hr2' : w2.ownsRow wr.heap.size 2 1 v2 ((l.take k) ++ [v]).length (intv ((l.take k) ++ [v])) := by rw [List.length_append]; exact hr2
            have hsz2 := hb2.size
            clear hr2 hbel2 hbA hszA hbel1 hr1a
            go_upto_region 8 with (at_builtin; refine wpList_app_sr _ rfl _ _ rfl wr.heap.size _ _ ((l.take k) ++ [v]) rfl hr2' rfl _ ([] : List Int) rfl (si_empty _ _ _) (by simp <;> omega) hsz2 ?_; intro v3 w3 hr3 hbel3)
            have hb3 : Below wr.heap.size wr w3 := hb2.trans hbel3
            have hr3' : w3.ownsRow wr.heap.size 2 1 v3 ((l.take k) ++ [v] ++ ([] : List Int)).length (intv ((l.take k) ++ [v] ++ ([] : List Int))) := by rw [List.length_append]; exact hr3
            obtain ⟨p3, c3, rfl⟩ := own_slice hr3'
            have HR3 : Hid _ := hr3'
            clear hr3 hr3' hr2' hbel3 hb2
            generalize hLL : ((l.take k) ++ [v] ++ ([] : List Int)).length = LL at HR3
            have HLL : Hid (((l.take k) ++ [v] ++ ([] : List Int)).length = LL) := hLL
            clear hLL
            go_wp2
            go_ret
            refine ⟨_, (l.take k) ++ [v] ++ ([] : List Int), rfl, by unfold Hid; rw [HLL.out]; exact HR3.out, HPUT.out, hb3⟩
    · obtain rfl : k = 0 := by omega
      have HPUT : Hid (PutR l v ([] ++ [v] ++ l)) := ⟨0, by omega, fun j h1 h2 => HOK.out j h1 (by rw [HN.out] at h2; exact h2), .inl rfl, by simp⟩
      have hl2 : l.length = n := HN.out
      by_cases hcap0 : cap = 0
      · subst hcap0
        obtain rfl : n = 0 := by omega
        go_upto_region 6 with (at_builtin; refine wpList_app_sr _ rfl _ _ rfl wr.heap.size _ 0 [] rfl hnil rfl _ ([] : List Int) rfl (si_empty _ _ _) (by simp <;> omega) (Nat.le_refl _) ?_; intro v1 w1 hr1 hbel1)
        have hr1' : w1.ownsRow wr.heap.size 2 1 v1 (([] : List Int)).length (intv ([] : List Int)) := by simpa using hr1
        have hbA : Below wr.heap.size wr (w1.alloc (Obj.cells #[.int .i64 v] 2)) := hbel1.alloc hbel1.size _
        have hr1a := World.ownsRow.alloc hr1' (Obj.cells #[.int .i64 v] 2)
        have hszA := hbA.size
        clear hr1 hr1'
        go_upto_region 7 with (at_builtin; refine wpList_app_sr _ rfl _ _ rfl wr.heap.size _ _ ([] : List Int) rfl hr1a rfl _ [v] rfl (one_si w1 v) (by simp <;> omega) hszA ?_; intro v2 w2 hr2 hbel2)
        have hb2 : Below wr.heap.size wr w2 := hbA.trans hbel2
        have hr2' : w2.ownsRow wr.heap.size 2 1 v2 (([] : List Int) ++ [v]).length (intv (([] : List Int) ++ [v])) := by rw [List.length_append]; exact hr2
        have hsz2 := hb2.size
        clear hr2 hbel2 hbA hszA hbel1 hr1a
        go_upto_region 8 with (at_builtin; refine wpList_app_sr _ rfl _ _ rfl wr.heap.size _ _ (([] : List Int) ++ [v]) rfl hr2' rfl _ l rfl (Si.below (l := l) HS.out hb2) (by simp <;> omega) hsz2 ?_; intro v3 w3 hr3 hbel3)
        have hb3 : Below wr.heap.size wr w3 := hb2.trans hbel3
        have hr3' : w3.ownsRow wr.heap.size 2 1 v3 (([] : List Int) ++ [v] ++ l).length (intv (([] : List Int) ++ [v] ++ l)) := by rw [List.length_append]; exact hr3
        obtain ⟨p3, c3, rfl⟩ := own_slice hr3'
        have HR3 : Hid _ := hr3'
        clear hr3 hr3' hr2' hbel3 hb2
        generalize hLL : (([] : List Int) ++ [v] ++ l).length = LL at HR3
        have HLL : Hid ((([] : List Int) ++ [v] ++ l).length = LL) := hLL
        clear hLL
        go_wp2
        go_ret
        refine ⟨_, ([] : List Int) ++ [v] ++ l, rfl, by unfold Hid; rw [HLL.out]; exact HR3.out, HPUT.out, hb3⟩
      · have hcap1 : ¬ (cap : Int) = 0 := by omega
        go_upto_region 6 with (at_builtin; refine wpList_app_sr _ rfl _ _ rfl wr.heap.size _ 0 [] rfl hnil rfl _ ([] : List Int) rfl (si_empty _ _ _) (by simp <;> omega) (Nat.le_refl _) ?_; intro v1 w1 hr1 hbel1)
        have hr1' : w1.ownsRow wr.heap.size 2 1 v1 (([] : List Int)).length (intv ([] : List Int)) := by simpa using hr1
        have hbA : Below wr.heap.size wr (w1.alloc (Obj.cells #[.int .i64 v] 2)) := hbel1.alloc hbel1.size _
        have hr1a := World.ownsRow.alloc hr1' (Obj.cells #[.int .i64 v] 2)
        have hszA := hbA.size
        clear hr1 hr1'
        go_upto_region 7 with (at_builtin; refine wpList_app_sr _ rfl _ _ rfl wr.heap.size _ _ ([] : List Int) rfl hr1a rfl _ [v] rfl (one_si w1 v) (by simp <;> omega) hszA ?_; intro v2 w2 hr2 hbel2)
        have hb2 : Below wr.heap.size wr w2 := hbA.trans hbel2
        have hr2' : w2.ownsRow wr.heap.size 2 1 v2 (([] : List Int) ++ [v]).length (intv (([] : List Int) ++ [v])) := by rw [List.length_append]; exact hr2
        have hsz2 := hb2.size
        clear hr2 hbel2 hbA hszA hbel1 hr1a
        go_upto_region 8 with (at_builtin; refine wpList_app_sr _ rfl _ _ rfl wr.heap.size _ _ (([] : List Int) ++ [v]) rfl hr2' rfl _ l rfl (Si.below (l := l) HS.out hb2) (by simp <;> omega) hsz2 ?_; intro v3 w3 hr3 hbel3)
        have hb3 : Below wr.heap.size wr w3 := hb2.trans hbel3
        have hr3' : w3.ownsRow wr.heap.size 2 1 v3 (([] : List Int) ++ [v] ++ l).length (intv (([] : List Int) ++ [v] ++ l)) := by rw [List.length_append]; exact hr3
        obtain ⟨p3, c3, rfl⟩ := own_slice hr3'
        have HR3 : Hid _ := hr3'
        clear hr3 hr3' hr2' hbel3 hb2
        generalize hLL : (([] : List Int) ++ [v] ++ l).length = LL at HR3
        have HLL : Hid ((([] : List Int) ++ [v] ++ l).length = LL) := hLL
        clear hLL
        go_wp2
        go_ret
        refine ⟨_, ([] : List Int) ++ [v] ++ l, rfl, by unfold Hid; rw [HLL.out]; exact HR3.out, HPUT.out, hb3⟩

theorem put_any (B : Nat) (s : Value) (l : List Int) (v : Int) (W : World) (h : W.ownsRow B 2 1 s l.length (intv l)) (hl : l.length ≤ 1000) :
    Calls Tryz.prog 108 #[s, .int .i64 v] W fun e w' => ∃ s' L, e = .returned s' ∧ Hid (w'.ownsRow W.heap.size 2 1 s' L.length (intv L)) ∧ Hid (PutR l v L) ∧ Below W.heap.size W w' := by
  have hs := own_si h
  rcases h.2 with ⟨e, e0⟩ | ⟨g, cap, cur, e, hB, hg, hc, _⟩
  · obtain rfl := List.eq_nil_of_length_eq_zero e0
    subst e
    exact put_none v W
  · rw [e] at hs ⊢
    exact put_some g l.length cap l v W hs rfl hc hl
end Go.Proofs.YtghnfnieppfhgaaGreat.St


namespace Go.Proofs.YtghnfnieppfhgaaGreat.St
open Go.RowKit Go.Shelf
set_option linter.unusedVariables false
set_option linter.unusedSimpArgs false

theorem sort_is {l L : List Int} (hp : L.Perm l) (hs : L.Pairwise (· ≤ ·)) : L = sortL l :=
  List.Perm.eq_of_pairwise (le := (· ≤ ·)) (fun x y _ _ h1 h2 => by omega) hs (sort_pw l) (hp.trans (List.mergeSort_perm _ _).symm)
theorem put_step {A LB L L' : List Int} {k : Nat} (hk : k < LB.length) (hp : L.Perm (A ++ LB.take k)) (h : PutR L (nth LB k) L') : L'.Perm (A ++ LB.take (k + 1)) := by
  refine h.perm.trans ?_
  rw [take_next LB k hk, ← List.append_assoc]
  exact (hp.cons _).trans (List.perm_append_comm (l₁ := [nth LB k]))

set_option maxRecDepth 100000 in
set_option maxHeartbeats 4000000 in
theorem refjoin_any (s1 s2 : Value) (a b : List Int) (W : World) (h1 : Si W s1 a) (h2 : Si W s2 b) :
    Calls Tryz.prog 86 #[s1, s2] W fun e w' => ∃ v, e = .returned v ∧ w'.ownsRow W.heap.size 2 1 v (joinL (tkS a) (tkS b)).length (intv (joinL (tkS a) (tkS b))) ∧ Below W.heap.size W w' := by
  have k64 := taken_any s1 a W h1
  have k17 := fun X (hX : Below W.heap.size W X) => refless_any s2 s1 b a X (h2.below hX) (h1.below hX)
  have hset := (tkS_set a).1
  have hlb : (lessL (tkS b) (tkS a)).length ≤ 64 := Nat.le_trans (lessL_le _ _) (tkS_set b).1
  have HAP : Hid ((tkS a).Pairwise (· ≤ ·)) := (set_pw (tkS_set a)).imp (by omega)
  have HSP : Hid (joinL (tkS a) (tkS b) = sortL (tkS a ++ lessL (tkS b) (tkS a))) := rfl
  generalize joinL (tkS a) (tkS b) = J at HSP ⊢
  generalize lessL (tkS b) (tkS a) = LB at k17 hlb HSP
  generalize tkS a = A at k64 hset HAP HSP
  obtain ⟨a1, c1, rfl, _⟩ := h1
  obtain ⟨a2, c2, rfl, _⟩ := h2
  generalize a.length = n1 at *
  generalize b.length = n2 at *
  go_enter Tryz.func86, Tryz.ntmps86
  go_wp2_with fail
  refine k64.mono ?_
  rintro e w1 ⟨a3, n3, c3, rfl, HS, HN3, m1, hw1⟩
  have hb1 : Below W.heap.size W w1 := by rw [hw1]; exact below_drewN (Below.refl _ _) _
  have hnil : w1.ownsRow W.heap.size 2 1 (.slice none 0 0) 0 (intv []) := by simpa [intv] using World.ownsRow_nil _ _ _ _
  have HS1 : Hid (Si w1 (.slice a3 n3 c3) A) := HS.out.below hb1
  have hsz1 := hb1.size
  clear k64 hw1 HS
  go_upto_region 3 with (at_builtin; refine wpList_app_sr _ rfl _ _ rfl W.heap.size _ 0 [] rfl hnil rfl _ A rfl HS1.out (by simp <;> omega) hsz1 ?_; intro v2 w2 hr2 hbel2)
  have hr2' : w2.ownsRow W.heap.size 2 1 v2 A.length (intv A) := by simpa using hr2
  have hb2 : Below W.heap.size W w2 := hb1.trans hbel2
  clear hr2 hbel2 hb1 hnil hsz1
  obtain ⟨p2, d2, rfl⟩ := own_slice hr2'
  have HR2 : Hid _ := hr2'
  obtain ⟨na, hna⟩ : ∃ n, A.length = n := ⟨_, rfl⟩
  have HNA : Hid (A.length = na) := hna
  rw [hna] at HR2 hset ⊢
  have kk := k17 w2 hb2
  clear k17 hr2' hna
  go_wp2_with fail
  refine kk.mono ?_
  rintro e w3 ⟨v3, rfl, hr3, hb3'⟩
  have hb3 : Below W.heap.size W w3 := hb2.trans (hb3'.mono hb2.size)
  have HRA : Hid (w3.ownsRow W.heap.size 2 1 (.slice p2 na d2) A.length (intv A)) := by unfold Hid; rw [HNA.out]; exact own_keepB HR2.out hb3'
  have hset2 : A.length ≤ 64 := by rw [HNA.out]; exact hset
  have hw3 := hb3.size
  have hsl := own_si hr3
  obtain ⟨p3, d3, rfl⟩ := own_slice hr3
  obtain ⟨a9, c9, e9, hc⟩ := hsl
  injection e9 with e4 _ e5
  subst e4 e5
  have HC : Hid _ := hc
  obtain ⟨nl, hnl⟩ : ∃ n, LB.length = n := ⟨_, rfl⟩
  have HNL : Hid (LB.length = nl) := hnl
  rw [hnl] at HC hlb ⊢
  clear kk hb3' hr3 HR2 hb2 hc hnl
  go_wp2
  go_loopw [5, 7] (fun o i wr => ∃ (k : Nat) (L : List Int), k ≤ nl ∧ i = .int .i64 k ∧ Hid (L.Perm (A ++ LB.take k) ∧ L.Pairwise (· ≤ ·)) ∧ wr.ownsRow W.heap.size 2 1 o L.length (intv L) ∧ Below w3.heap.size w3 wr) (fun _ i _ => nl - (intOf i).toNat)
  case atStart => exact ⟨0, A, Nat.zero_le _, rfl, ⟨by simp, HAP.out⟩, HRA.out, Below.refl _ _⟩
  case round =>
    obtain ⟨k, L, hk, rfl, HP, hrow, hB⟩ := hrel
    have HROW : Hid _ := hrow
    have hLn : L.length ≤ 128 := by rw [HP.out.1.length_eq, List.length_append, List.length_take]; omega
    obtain ⟨po, co, rfl⟩ := own_slice hrow
    clear hrow
    by_cases hlt2 : k < nl
    · obtain ⟨bb, off, rfl, hb, hcell⟩ := HC.out (by omega)
      have d0 := hcell k hlt2
      obtain ⟨x, hx⟩ : ∃ x, nth LB k = x := ⟨_, rfl⟩
      have HX : Hid (nth LB k = x) := hx
      rw [hx] at d0
      have hlt' : (k : Int) < (nl : Int) := by omega
      have d1 := (hB.cell (p := ⟨bb, off + k, none⟩) hb).trans d0
      have kp := put_any W.heap.size _ L x wr HROW.out (by omega)
      obtain ⟨mo, hmo⟩ : ∃ m, L.length = m := ⟨_, rfl⟩
      rw [hmo] at kp hLn ⊢
      have HMO : Hid (L.length = mo) := hmo
      clear hx hcell d0 hmo
      go_wp2_with fail
      refine kp.mono ?_
      rintro e w4 ⟨s4, L4, rfl, HR4, HPU, hb4⟩
      obtain ⟨p4, c4, rfl⟩ := own_slice HR4.out
      have HR5 : Hid _ := own_base HR4.out (Nat.le_trans hw3 hB.size)
      have hB4 : Below w3.heap.size w3 w4 := hB.trans (hb4.mono hB.size)
      have HP4 : Hid (L4.Perm (A ++ LB.take (k + 1)) ∧ L4.Pairwise (· ≤ ·)) := ⟨put_step (by rw [HNL.out]; exact hlt2) HP.out.1 (by rw [HX.out]; exact HPU.out), HPU.out.pw HP.out.2⟩
      obtain ⟨m4, hm4⟩ : ∃ m, L4.length = m := ⟨_, rfl⟩
      have HM4 : Hid (L4.length = m4) := hm4
      rw [hm4]
      rw [hm4] at HR5
      clear kp hb4 HR4 hm4
      go_wp2
      go_roundw
      case rel => exact ⟨k + 1, L4, by omega, by go_num, HP4.out, by rw [HM4.out]; exact HR5.out, hB4⟩
      case measure => simp [intOf]; omega
    · have hlt' : ¬ (k : Int) < (nl : Int) := by omega
      obtain rfl : k = nl := by omega
      have HLL : Hid (L = sortL (A ++ LB)) := by
        have h1 := HP.out.1
        rw [← HNL.out, List.take_length] at h1
        exact sort_is h1 HP.out.2
      have HBW : Hid (Below W.heap.size W wr) := hb3.trans (hB.mono hb3.size)
      obtain ⟨mo, hmo⟩ : ∃ m, L.length = m := ⟨_, rfl⟩
      rw [hmo]
      rw [hmo] at HROW
      have HMO : Hid (L.length = mo) := hmo
      clear hmo
      go_wp2
      go_ret
      exact ⟨_, rfl, by rw [HSP.out, ← HLL.out, HMO.out]; exact HROW.out, HBW.out⟩

end Go.Proofs.YtghnfnieppfhgaaGreat.St

