/-
  What is proved here: How outputs, values and texts that came in are opened, with their bulk.
  What is proved here: How outputs that came in are opened, with the number of their ranges.
-/
import Derived.Test.YtdnhhmnllhlbbaaGreatDoorPpj
import Derived.Test.YtdnhhmnllhlbbaaGreatDoorCGa
import Derived.Test.YtdnhhmnllhlbbaaGreatDoorRows
namespace Go.Proofs.YtdnhhmnllhlbbaaGreatDoor
open Go.RowKit Go.Shelf
set_option linter.unusedVariables false
set_option linter.unusedSimpArgs false
open Go.ChangeShapes Go.WideShapes Go.ChangeAt Go.Deep
set_option maxRecDepth 100000
section
variable {H : Type} {enc : TypeId × Value → H} {W : World}
theorem bulk_one {H : Type} (d : DataW H) : 0 < Rows.uptoBulk d := by
  match d with
  | .lit (.string _) => simp [Rows.uptoBulk]
  | .lit (.bool _) => simp [Rows.uptoBulk]
  | .lit (.int _ _) => simp [Rows.uptoBulk]
  | .lit (.float .f32 _) => simp [Rows.uptoBulk]
  | .lit (.float .f64 _) => simp [Rows.uptoBulk]
  | .lit .nil => simp [Rows.uptoBulk]
  | .nil => simp [Rows.uptoBulk]
  | .ptr _ => simp [Rows.uptoBulk]
  | .slice _ _ => simp [Rows.uptoBulk]
  | .agg _ => simp [Rows.uptoBulk]
  | .iface _ _ => simp [Rows.uptoBulk]
  | .map _ => simp [Rows.uptoBulk]
  | .held _ => simp [Rows.uptoBulk]
theorem bulk_len {H : Type} (l : List (DataW H)) : l.length ≤ Rows.uptoBulkAll l := by
  induction l with
  | nil => exact Nat.zero_le _
  | cons d r ih =>
    have := bulk_one d
    simp only [Rows.uptoBulkAll, List.length_cons]
    omega
theorem bulk_mem {H : Type} : ∀ {l : List (DataW H)} {j : Nat} {d : DataW H}, l[j]? = some d → Rows.uptoBulk d ≤ Rows.uptoBulkAll l
  | [], j, d, h => by simp at h
  | d' :: l, 0, d, h => by simp at h; subst h; simp only [Rows.uptoBulkAll]; omega
  | d' :: l, j + 1, d, h => by
    have := bulk_mem (l := l) (j := j) (by simpa using h)
    simp only [Rows.uptoBulkAll]; omega
/-- A slice that came in is no longer than its bulk. -/
theorem op_len {t e : TypeId} {fuel : Nat} {a : Option Addr} {len cap : Nat} {x : DataW H × List MemPlace} (ht : Tryz.prog.underlying t = some (.slice e)) (h : DataW.trod enc Tryz.prog W 0 (fun _ => true) true fuel t [.slice a len cap] = some x) : len ≤ Rows.uptoBulk x.1 := by
  rcases open_slice ht h with ⟨h0, _⟩ | ⟨a', len', cap', m, n, D, Pl, hcs, _, _, _, _, hx, _⟩
  · simp at h0; omega
  · simp at hcs
    obtain ⟨_, rfl, _⟩ := hcs
    rw [hx]
    have := bulk_len ((List.range len).map D)
    simp only [Rows.uptoBulk]
    simp only [List.length_map, List.length_range] at this
    omega
/-- A slice that came in, element by element, each of no more bulk than the whole. -/
theorem ob_slice {α : Type} {t e : TypeId} {k by_ : Nat} {R : List Value → α → Prop} {N : Nat} (ht : Tryz.prog.underlying t = some (.slice e)) (hk : Tryz.prog.cellsOf e = k) (hby : Tryz.prog.bytesOf e = by_) (hk0 : 0 < k)
    (hR : ∀ fuel cs y, DataW.trod enc Tryz.prog W 0 (fun _ => true) true fuel e cs = some y → (∀ z ∈ y.2, z.block < W.heap.size) → Sz e y.1 → Rows.uptoBulk y.1 ≤ N → ∃ x, R cs x)
    {fuel : Nat} {v : Value} {x : DataW H × List MemPlace} (h : DataW.trod enc Tryz.prog W 0 (fun _ => true) true fuel t [v] = some x) (lt0 : ∀ z ∈ x.2, z.block < W.heap.size) (hsz : Sz t x.1) (hN : Rows.uptoBulk x.1 ≤ N) :
    ∃ (a : Option Addr) (c : Nat) (l : List α), v = .slice a l.length c ∧ l.length * by_ ≤ 140737488351232 ∧ l.length ≤ c ∧ c ≤ maxLen ∧ (0 < l.length → ∃ b off, a = some ⟨b, off, none⟩ ∧ b < W.heap.size ∧ ∀ (i : Nat) (y : α), l[i]? = some y → ∃ cs, R cs y ∧ ∀ r, r < k → W.cell? ⟨b, off + i * k + r, none⟩ = cs[r]?) := by
  rcases open_slice ht h with ⟨h0, _⟩ | ⟨a, len, cap, m, n, D, Pl, hcs, _, hl, hm, hmm, hx, hcell⟩
  · have : v = .slice none 0 0 := by simpa using h0
    subst this
    exact ⟨none, 0, [], rfl, by simp, by simp, by simp, fun h => absurd h (by simp)⟩
  · have : v = .slice (some a) len cap := by simpa using hcs
    subst this
    simp only [if_true] at hmm
    subst hmm
    rw [hk] at hcell hx
    have hxx : x.1 = .slice ((List.range len).map D) ((List.range (m - len)).map fun j => D (len + j)) := by rw [hx]
    have hw : ∀ q, q ∈ (((List.range len).map D).length + ((List.range (m - len)).map fun j => D (len + j)).length) * Tryz.prog.bytesOf e :: (DataW.weightsAll Tryz.prog e ((List.range len).map D) ++ DataW.weightsAll Tryz.prog e ((List.range (m - len)).map fun j => D (len + j))) → q ≤ reachBytes := by
      intro q hq
      refine hsz q ?_
      rw [hxx, DataW.weights, ht]
      exact hq
    have each : ∀ i, i < len → ∃ y : α, ∃ cs, R cs y ∧ ∀ r, r < k → W.cell? ((a.add (i * k)).add r) = cs[r]? := by
      intro i hi
      obtain ⟨cs', h1, h2⟩ := hcell i (by omega)
      obtain ⟨_, hlen, hc⟩ := World.cells?_some h1
      obtain ⟨y, hy⟩ := hR n cs' _ h2 (fun z hz => lt0 z (by rw [hx]; exact List.mem_append_right _ (List.mem_flatMap.2 ⟨i, List.mem_range.2 (by omega), hz⟩))) (fun q hq => hw q (List.mem_cons_of_mem _ (List.mem_append_left _ (w_all (List.mem_map.2 ⟨i, List.mem_range.2 hi, rfl⟩) q hq)))) (Nat.le_trans (Nat.le_trans (bulk_mem (j := i) (l := (List.range len).map D) (by rw [List.getElem?_map, List.getElem?_range hi]; rfl)) (by rw [hxx]; simp only [Rows.uptoBulk]; omega)) hN)
      exact ⟨y, cs', hy, hc⟩
    by_cases h0 : len = 0
    · subst h0
      exact ⟨some a, m, [], rfl, by simp, by simp, hm, fun h => absurd h (by simp)⟩
    · have : Inhabited α := ⟨(each 0 (by omega)).choose⟩
      obtain ⟨q, hq⟩ := choose_lt (α := α) (p := fun i y => ∃ cs, R cs y ∧ ∀ r, r < k → W.cell? ((a.add (i * k)).add r) = cs[r]?) each
      have hll : ((List.range len).map q).length = len := by simp
      obtain ⟨b, off, spot⟩ := a
      have hspot : spot = none := by
        obtain ⟨cs', h1, _⟩ := hcell 0 (by omega)
        obtain ⟨_, hlen, hc⟩ := World.cells?_some h1
        have hc0 := hc 0 hk0
        rw [List.getElem?_eq_getElem (by omega)] at hc0
        simpa [Addr.add] using World.cell?_spot hc0
      subst hspot
      have hbW : b < W.heap.size := lt0 (.cell b off) (by rw [hx]; exact List.mem_append_left _ (MemPlace.mem_row.2 ⟨0, Nat.mul_pos (by omega) hk0, by simp⟩))
      refine ⟨_, m, (List.range len).map q, by rw [hll], ?_, by omega, hm, fun _ => ⟨b, off, rfl, hbW, fun i y hy => ?_⟩⟩
      · have := hw _ List.mem_cons_self
        simp only [List.length_map, List.length_range, hby, reachBytes] at this
        rw [hll]
        have h2 : len * by_ ≤ (len + (m - len)) * by_ := Nat.mul_le_mul_right _ (by omega)
        omega
      · have hi : i < len := by have := (List.getElem?_eq_some_iff.1 hy).1; omega
        rw [List.getElem?_map, List.getElem?_range hi] at hy
        simp at hy
        subst hy
        obtain ⟨cs, h1, h2⟩ := hq i hi
        refine ⟨cs, h1, fun r hr => ?_⟩
        have := h2 r hr
        rw [Addr.add_lit, Addr.add_lit] at this
        exact this
theorem val_bulk {fuel : Nat} {c0 c1 : Value} {a' : Option Addr} {len c' : Nat} {x : DataW H × List MemPlace} (h : DataW.trod enc Tryz.prog W 0 (fun _ => true) true fuel 36 [c0, c1, .slice a' len c'] = some x) : len ≤ Rows.uptoBulk x.1 := by
  obtain ⟨xs, n, _, hx, hl, hlen, hf⟩ := DataW.trod_struct Tryz.underlying36 h
  have e4 : Tryz.prog.cellsOf 4 = 1 := by kernel_rfl
  have e2 : Tryz.prog.cellsOf 2 = 1 := by kernel_rfl
  have e34 : Tryz.prog.cellsOf 34 = 1 := by kernel_rfl
  match xs, hlen with
  | [y0, y1, y2], _ =>
    have g2 := hf 2 _ rfl
    simp [e4, e2, e34] at g2
    have := op_len Tryz.underlying34 g2
    rw [hx]
    simp only [List.map_cons, List.map_nil, Rows.uptoBulk, Rows.uptoBulkAll]
    omega
theorem ob_val {fuel : Nat} {cs : List Value} {x : DataW H × List MemPlace} (h : DataW.trod enc Tryz.prog W 0 (fun _ => true) true fuel 36 cs = some x) (lt0 : ∀ z ∈ x.2, z.block < W.heap.size) (hsz : Sz 36 x.1) {N : Nat} (hN : Rows.uptoBulk x.1 ≤ N) :
    ∃ (v : Vl) (sv : Value), cs = [.bool v.set, .int .i64 v.n, sv] ∧ Si 0 W sv v.s ∧ v.s.length ≤ N := by
  obtain ⟨v, sv, rfl, hs, _⟩ := op_val h lt0 hsz
  obtain ⟨a, c, rfl, hs'⟩ := hs
  exact ⟨v, _, rfl, ⟨a, c, rfl, hs'⟩, Nat.le_trans (val_bulk h) hN⟩
theorem term_bulk {fuel : Nat} {c0 c1 c2 : Value} {a' : Option Addr} {len c' : Nat} {x : DataW H × List MemPlace} (h : DataW.trod enc Tryz.prog W 0 (fun _ => true) true fuel 67 [c0, c1, c2, .slice a' len c'] = some x) : len ≤ Rows.uptoBulk x.1 := by
  obtain ⟨xs, n, _, hx, hl, hlen, hf⟩ := DataW.trod_struct Tryz.underlying67 h
  have e3 : Tryz.prog.cellsOf 3 = 1 := by kernel_rfl
  have e36 : Tryz.prog.cellsOf 36 = 3 := by kernel_rfl
  match xs, hlen with
  | [y0, y1], _ =>
    have g1 := hf 1 _ rfl
    simp [e3, e36] at g1
    have := val_bulk g1
    rw [hx]
    simp only [List.map_cons, List.map_nil, Rows.uptoBulk, Rows.uptoBulkAll]
    omega
theorem ob_term {fuel : Nat} {cs : List Value} {x : DataW H × List MemPlace} (h : DataW.trod enc Tryz.prog W 0 (fun _ => true) true fuel 67 cs = some x) (lt0 : ∀ z ∈ x.2, z.block < W.heap.size) (hsz : Sz 67 x.1) {N : Nat} (hN : Rows.uptoBulk x.1 ≤ N) :
    ∃ (t : Tm) (sv : Value), cs = [.int .i64 t.v, .bool t.set, .int .i64 t.n, sv] ∧ Si 0 W sv t.s ∧ t.s.length ≤ N := by
  obtain ⟨v, sv, rfl, hs, _⟩ := op_term h lt0 hsz
  obtain ⟨a, c, rfl, hs'⟩ := hs
  exact ⟨v, _, rfl, ⟨a, c, rfl, hs'⟩, Nat.le_trans (term_bulk h) hN⟩
theorem ob_terms {fuel : Nat} {v : Value} {x : DataW H × List MemPlace} (h : DataW.trod enc Tryz.prog W 0 (fun _ => true) true fuel 51 [v] = some x) (lt0 : ∀ z ∈ x.2, z.block < W.heap.size) (hsz : Sz 51 x.1) {N : Nat} (hN : Rows.uptoBulk x.1 ≤ N) :
    ∃ l : List Tm, St 0 W v l ∧ ∀ t ∈ l, t.s.length ≤ N := by
  obtain ⟨a, c, l, rfl, hl, _, _, hc⟩ := ob_slice (N := N) (α := Tm) (R := fun cs t => ∃ sv, cs = [.int .i64 t.v, .bool t.set, .int .i64 t.n, sv] ∧ Si 0 W sv t.s ∧ t.s.length ≤ N) (k := 4) (by_ := 48) Tryz.underlying51 (by kernel_rfl) (by kernel_rfl) (by omega)
    (fun fuel cs y hy l0 z0 b0 => ob_term hy l0 z0 b0) h lt0 hsz hN
  refine ⟨l, ⟨a, c, rfl, fun h0 => ?_⟩, fun y hy => ?_⟩
  · obtain ⟨b, off, rfl, hb, hcell⟩ := hc h0
    have each : ∀ i, i < l.length → ∃ sv : Value, ∀ t, l[i]? = some t → Si 0 W sv t.s ∧ ∀ r u, (t.cells sv)[r]? = some u → W.cell? ⟨b, off + i * 4 + r, none⟩ = some u := by
      intro i hi
      obtain ⟨cs, ⟨sv, rfl, h1, _⟩, h2⟩ := hcell i _ (List.getElem?_eq_getElem hi)
      refine ⟨sv, fun t ht => ?_⟩
      rw [List.getElem?_eq_getElem hi] at ht
      cases ht
      refine ⟨h1, fun r u hu => ?_⟩
      have hr : r < 4 := (List.getElem?_eq_some_iff.1 hu).1
      rw [h2 r hr]
      exact hu
    obtain ⟨q, hq⟩ := choose_lt each
    refine ⟨b, off, (List.range l.length).map q, rfl, Nat.zero_le _, hb, by simp, fun i t sv h1 h2 => ?_⟩
    have hi : i < l.length := (List.getElem?_eq_some_iff.1 h1).1
    rw [List.getElem?_map, List.getElem?_range hi] at h2
    simp at h2
    subst h2
    exact hq i hi t h1
  · obtain ⟨i, hi⟩ := List.mem_iff_getElem?.1 hy
    obtain ⟨b, off, rfl, hb, hcell⟩ := hc (by have := (List.getElem?_eq_some_iff.1 hi).1; omega)
    obtain ⟨cs, ⟨sv, _, _, h1⟩, _⟩ := hcell i y hi
    exact h1
theorem ob_vals {fuel : Nat} {v : Value} {x : DataW H × List MemPlace} (h : DataW.trod enc Tryz.prog W 0 (fun _ => true) true fuel 23 [v] = some x) (lt0 : ∀ z ∈ x.2, z.block < W.heap.size) (hsz : Sz 23 x.1) {N : Nat} (hN : Rows.uptoBulk x.1 ≤ N) :
    ∃ l : List Vl, Sv W v l ∧ ∀ t ∈ l, t.s.length ≤ N := by
  obtain ⟨a, c, l, rfl, hl, _, _, hc⟩ := ob_slice (N := N) (α := Vl) (R := fun cs t => ∃ sv, cs = [.bool t.set, .int .i64 t.n, sv] ∧ Si 0 W sv t.s ∧ t.s.length ≤ N) (k := 3) (by_ := 40) Tryz.underlying23 (by kernel_rfl) (by kernel_rfl) (by omega)
    (fun fuel cs y hy l0 z0 b0 => ob_val hy l0 z0 b0) h lt0 hsz hN
  refine ⟨l, ⟨a, c, rfl, fun h0 => ?_⟩, fun y hy => ?_⟩
  · obtain ⟨b, off, rfl, hb, hcell⟩ := hc h0
    refine ⟨b, off, rfl, hb, fun i v hv => ?_⟩
    obtain ⟨cs, ⟨sv, rfl, h1, _⟩, h2⟩ := hcell i v hv
    exact ⟨sv, h1, h2 0 (by omega), h2 1 (by omega), h2 2 (by omega)⟩
  · obtain ⟨i, hi⟩ := List.mem_iff_getElem?.1 hy
    obtain ⟨b, off, rfl, hb, hcell⟩ := hc (by have := (List.getElem?_eq_some_iff.1 hi).1; omega)
    obtain ⟨cs, ⟨sv, _, _, h1⟩, _⟩ := hcell i y hi
    exact h1
theorem ob_ranges {fuel : Nat} {v : Value} {x : DataW H × List MemPlace} (h : DataW.trod enc Tryz.prog W 0 (fun _ => true) true fuel 50 [v] = some x) (lt0 : ∀ z ∈ x.2, z.block < W.heap.size) (hsz : Sz 50 x.1) {N : Nat} (hN : Rows.uptoBulk x.1 ≤ N) :
    ∃ l : List (Int × Int), Rgs W v l := by
  obtain ⟨a, c, l, rfl, hl, _, _, hc⟩ := ob_slice (N := N) (α := Int × Int) (R := fun cs t => cs = [.int .i64 t.1, .int .i64 t.2]) (k := 2) (by_ := 16) Tryz.underlying50 (by kernel_rfl) (by kernel_rfl) (by omega)
    (fun fuel cs y hy l0 z0 b0 => by
      obtain ⟨xs, n, _, hx, hl, hlen, hf⟩ := DataW.trod_struct Tryz.underlying84 hy
      have e2 : Tryz.prog.cellsOf 2 = 1 := by kernel_rfl
      have e84 : Tryz.prog.cellsOf 84 = 2 := by kernel_rfl
      rw [e84] at hl
      match xs, hlen, cs, hl with
      | [y0, y1], _, [c0, c1], _ =>
        have g0 := hf 0 _ rfl
        have g1 := hf 1 _ rfl
        simp [e2] at g0 g1
        obtain ⟨k0, h0, _⟩ := DataW.trod_int Tryz.underlying2 g0
        obtain ⟨k1, h1, _⟩ := DataW.trod_int Tryz.underlying2 g1
        simp at h0 h1
        exact ⟨(k0, k1), by rw [h0, h1]⟩) h lt0 hsz hN
  refine ⟨l, ⟨a, c, rfl, fun h0 => ?_⟩⟩
  obtain ⟨b, off, rfl, hb, hcell⟩ := hc h0
  refine ⟨b, off, rfl, hb, fun i v hv => ?_⟩
  obtain ⟨cs, rfl, h2⟩ := hcell i v hv
  exact ⟨h2 0 (by omega), h2 1 (by omega)⟩
theorem ob_len {t e : TypeId} {fuel : Nat} {v : Value} {a : Option Addr} {len cap : Nat} {x : DataW H × List MemPlace} (ht : Tryz.prog.underlying t = some (.slice e)) (hv : v = .slice a len cap) (h : DataW.trod enc Tryz.prog W 0 (fun _ => true) true fuel t [v] = some x) {N : Nat} (hN : Rows.uptoBulk x.1 ≤ N) : len ≤ N := by
  subst hv
  exact Nat.le_trans (op_len ht h) hN
/-- An output that came in. -/
def OutR (W : World) (N : Nat) (cs : List Value) (o : Ou) : Prop := ∃ dv lv, cs = [.string (bs o.nm), dv, lv, .int .i64 o.kind, .bool o.one] ∧ Rgs W dv o.dims ∧ St 0 W lv o.l ∧ o.nm.length ≤ N ∧ o.l.length ≤ N ∧ ∀ t ∈ o.l, t.s.length ≤ N
theorem ob_vals_in {fuel : Nat} {v : Value} {x : DataW H × List MemPlace} (h : DataW.trod enc Tryz.prog W 0 (fun _ => true) true fuel 23 [v] = some x) (lt0 : ∀ z ∈ x.2, z.block < W.heap.size) (hsz : Sz 23 x.1) (hN : Rows.uptoBulk x.1 ≤ 1048576) :
    ∃ l : List Vl, VlIn W v l := by
  obtain ⟨l, hs, hz⟩ := ob_vals h lt0 hsz hN
  obtain ⟨a, c, e, _⟩ := id hs
  exact ⟨l, hs, ob_len Tryz.underlying23 e h hN, hz⟩
end
end Go.Proofs.YtdnhhmnllhlbbaaGreatDoor

namespace Go.Proofs.YtdnhhmnllhlbbaaGreatDoor
open Go.RowKit Go.Shelf
set_option linter.unusedVariables false
set_option linter.unusedSimpArgs false
open Go.ChangeShapes Go.WideShapes Go.ChangeAt Go.Deep
set_option maxRecDepth 100000
section
variable {H : Type} {enc : TypeId × Value → H} {W : World}
theorem ob_out2 {fuel : Nat} {cs : List Value} {x : DataW H × List MemPlace} (h : DataW.trod enc Tryz.prog W 0 (fun _ => true) true fuel 53 cs = some x) (lt0 : ∀ z ∈ x.2, z.block < W.heap.size) (hsz : Sz 53 x.1) {N : Nat} (hN : Rows.uptoBulk x.1 ≤ N) :
    ∃ o : Ou, OutR W N cs o ∧ o.dims.length ≤ N := by
  obtain ⟨xs, n, _, hx, hl, hlen, hf⟩ := DataW.trod_struct Tryz.underlying53 h
  have e53 : Tryz.prog.cellsOf 53 = 5 := by kernel_rfl
  have e9 : Tryz.prog.cellsOf 9 = 1 := by kernel_rfl
  have e50 : Tryz.prog.cellsOf 50 = 1 := by kernel_rfl
  have e51 : Tryz.prog.cellsOf 51 = 1 := by kernel_rfl
  have e3 : Tryz.prog.cellsOf 3 = 1 := by kernel_rfl
  have e4 : Tryz.prog.cellsOf 4 = 1 := by kernel_rfl
  rw [e53] at hl
  match xs, hlen, cs, hl with
  | [y0, y1, y2, y3, y4], _, [c0, c1, c2, c3, c4], _ =>
    have g0 := hf 0 _ rfl
    have g1 := hf 1 _ rfl
    have g2 := hf 2 _ rfl
    have g3 := hf 3 _ rfl
    have g4 := hf 4 _ rfl
    simp [e9, e50, e51, e3, e4] at g0 g1 g2 g3 g4
    have hz : ∀ q, q ∈ DataW.weightsEach Tryz.prog [9, 50, 51, 3, 4] [y0.1, y1.1, y2.1, y3.1, y4.1] → q ≤ reachBytes := by
      intro q hq
      refine hsz q ?_
      rw [hx]
      simp only [DataW.weights, Tryz.underlying53]
      exact hq
    have hb : Rows.uptoBulk y0.1 ≤ N ∧ Rows.uptoBulk y1.1 ≤ N ∧ Rows.uptoBulk y2.1 ≤ N := by
      rw [hx] at hN
      simp only [List.map_cons, List.map_nil, Rows.uptoBulk, Rows.uptoBulkAll] at hN
      omega
    obtain ⟨s, hs, hd, _⟩ := DataW.trod_string Tryz.underlying9 g0
    simp at hs
    obtain ⟨dl, hdl⟩ := ob_ranges g1 (fun z hz => lt0 z (by rw [hx]; simp [hz])) (sz_each 1 hz rfl rfl) hb.2.1
    obtain ⟨tl, htl, htz⟩ := ob_terms g2 (fun z hz => lt0 z (by rw [hx]; simp [hz])) (sz_each 2 hz rfl rfl) hb.2.2
    obtain ⟨kn, hk, _⟩ := DataW.trod_int Tryz.underlying3 g3
    obtain ⟨bo, hbo, _⟩ := DataW.trod_bool Tryz.underlying4 g4
    simp at hk hbo
    refine ⟨⟨s.data.toList, dl, tl, kn, bo⟩, ⟨c1, c2, by rw [hs, hk, hbo, bs_of], hdl, htl, ?_, ?_, htz⟩, ?_⟩
    · have := hb.1
      rw [hd] at this
      simp only [Rows.uptoBulk] at this
      show s.data.toList.length ≤ N
      omega
    · obtain ⟨a, c, e, _⟩ := htl
      exact ob_len Tryz.underlying51 e g2 hb.2.2
    · obtain ⟨a, c, e, _⟩ := hdl
      exact ob_len Tryz.underlying50 e g1 hb.2.1
theorem ob_outs2 {fuel : Nat} {v : Value} {x : DataW H × List MemPlace} (h : DataW.trod enc Tryz.prog W 0 (fun _ => true) true fuel 22 [v] = some x) (lt0 : ∀ z ∈ x.2, z.block < W.heap.size) (hsz : Sz 22 x.1) (hN : Rows.uptoBulk x.1 ≤ 1048576) :
    ∃ l : List Ou, OuIn W v l ∧ ∀ o ∈ l, o.dims.length ≤ 1048576 := by
  obtain ⟨a, c, l, rfl, hl, _, _, hc⟩ := ob_slice (N := 1048576) (α := Ou) (R := fun cs o => OutR W 1048576 cs o ∧ o.dims.length ≤ 1048576) (k := 5) (by_ := 80) Tryz.underlying22 (by kernel_rfl) (by kernel_rfl) (by omega)
    (fun fuel cs y hy l0 z0 b0 => ob_out2 hy l0 z0 b0) h lt0 hsz hN
  have each : ∀ o ∈ l, (o.nm.length ≤ 1048576 ∧ o.l.length ≤ 1048576 ∧ ∀ t ∈ o.l, t.s.length ≤ 1048576) ∧ o.dims.length ≤ 1048576 := fun o ho => by
    obtain ⟨i, hi⟩ := List.mem_iff_getElem?.1 ho
    obtain ⟨b, off, rfl, hb, hcell⟩ := hc (by have := (List.getElem?_eq_some_iff.1 hi).1; omega)
    obtain ⟨cs, ⟨⟨dv, lv, _, _, _, h1⟩, h9⟩, _⟩ := hcell i o hi
    exact ⟨h1, h9⟩
  refine ⟨l, ⟨⟨a, c, rfl, fun h0 => ?_⟩, ob_len Tryz.underlying22 rfl h hN, fun o ho => ⟨by have := (each o ho).1.1; omega, by have := (each o ho).1.2.1; omega, fun t ht => by have := (each o ho).1.2.2 t ht; omega⟩, fun o ho => (each o ho).1.1⟩, fun o ho => (each o ho).2⟩
  obtain ⟨b, off, rfl, hb, hcell⟩ := hc h0
  refine ⟨b, off, rfl, hb, fun i o hi => ?_⟩
  obtain ⟨cs, ⟨⟨dv, lv, rfl, hr, hs, _⟩, _⟩, h2⟩ := hcell i o hi
  exact ⟨dv, lv, hr, hs, h2 0 (by omega), h2 1 (by omega), h2 2 (by omega), h2 3 (by omega), h2 4 (by omega)⟩
theorem ob_int {v : Value} {d : DataW H} {p : List MemPlace} (h : ∃ fuel, DataW.trod enc Tryz.prog W 0 (fun _ => true) true fuel 3 v.cells.toList = some (d, p)) (n : Int) (hv : v = .int .i64 n) : Fit n := by
  subst hv
  obtain ⟨fuel, h⟩ := h
  obtain ⟨k, hk, _, hkw⟩ := DataW.trod_int Tryz.underlying3 (by simpa [Value.cells] using h)
  simp at hk
  subst hk
  exact fit_of hkw
end
end Go.Proofs.YtdnhhmnllhlbbaaGreatDoor
