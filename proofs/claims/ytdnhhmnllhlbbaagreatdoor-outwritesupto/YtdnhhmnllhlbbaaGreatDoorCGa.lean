/-
  What is proved here: how numbers, values, terms and arguments that came in are opened.
-/
import Derived.Test.YtdnhhmnllhlbbaaGreatDoorCDg
import Derived.Deep.Slices
import Derived.DataReads
import Derived.ChangeArms
import Derived.SizedLaws
import Derived.WalkKit
import Derived.ProofKit
import Derived.OpenShut
import Derived.Stop.Joined
import Derived.Below
import Derived.Lay
namespace Go.Proofs.YtdnhhmnllhlbbaaGreatDoor
open Go.RowKit Go.Shelf
set_option linter.unusedVariables false
set_option linter.unusedSimpArgs false
open Go.ChangeShapes Go.WideShapes Go.ChangeAt Go.Deep
set_option maxRecDepth 100000
theorem w_all {H : Type} {P : Program} {e : TypeId} : ∀ {l : List (DataW H)} {d : DataW H}, d ∈ l → ∀ k, k ∈ d.weights P e → k ∈ DataW.weightsAll P e l
  | d' :: l, d, h, k, hk => by
    rw [DataW.weightsAll]
    rcases List.mem_cons.1 h with rfl | h
    · exact List.mem_append_left _ hk
    · exact List.mem_append_right _ (w_all h k hk)
/-- Nothing in it is greater than a machine's memory. -/
def Sz {H : Type} (t : TypeId) (d : DataW H) : Prop := ∀ k, k ∈ d.weights Tryz.prog t → k ≤ reachBytes
theorem sz_of {H : Type} {ts : List TypeId} {ds : List (DataW H)} {t : TypeId} {d : DataW H} (j : Nat) (hsz : (DataW.weightsEach Tryz.prog ts ds).all (· ≤ reachBytes) = true) (ht : ts[j]? = some t) (hd : ds[j]? = some d) : Sz t d := fun k hk => by
  rw [List.all_eq_true] at hsz
  exact of_decide_eq_true (hsz k (DataW.weights_mem_each ht hd k hk))
theorem sz_each {H : Type} {ts : List TypeId} {ds : List (DataW H)} {t : TypeId} {d : DataW H} (j : Nat) (hsz : ∀ k, k ∈ DataW.weightsEach Tryz.prog ts ds → k ≤ reachBytes) (ht : ts[j]? = some t) (hd : ds[j]? = some d) : Sz t d := fun k hk => hsz k (DataW.weights_mem_each ht hd k hk)
section
variable {H : Type} {enc : TypeId × Value → H} {W : World}
/-- A slice that came in, element by element. -/
theorem op_slice {α : Type} {t e : TypeId} {k by_ : Nat} {R : List Value → α → Prop} (ht : Tryz.prog.underlying t = some (.slice e)) (hk : Tryz.prog.cellsOf e = k) (hby : Tryz.prog.bytesOf e = by_) (hk0 : 0 < k)
    (hR : ∀ fuel cs y, DataW.trod enc Tryz.prog W 0 (fun _ => true) true fuel e cs = some y → (∀ z ∈ y.2, z.block < W.heap.size) → Sz e y.1 → ∃ x, R cs x)
    {fuel : Nat} {v : Value} {x : DataW H × List MemPlace} (h : DataW.trod enc Tryz.prog W 0 (fun _ => true) true fuel t [v] = some x) (lt0 : ∀ z ∈ x.2, z.block < W.heap.size) (hsz : Sz t x.1) :
    ∃ (a : Option Addr) (c : Nat) (l : List α), v = .slice a l.length c ∧ l.length * by_ ≤ 140737488351232 ∧ l.length ≤ c ∧ c ≤ maxLen ∧ (0 < l.length → ∃ b off, a = some ⟨b, off, none⟩ ∧ b < W.heap.size ∧ ∀ (i : Nat) (y : α), l[i]? = some y → ∃ cs, R cs y ∧ ∀ r, r < k → W.cell? ⟨b, off + i * k + r, none⟩ = cs[r]?) := by
  rcases open_slice ht h with ⟨h0, _⟩ | ⟨a, len, cap, m, n, D, Pl, hcs, _, hl, hm, hmm, hx, hcell⟩
  · have : v = .slice none 0 0 := by simpa using h0
    subst this
    exact ⟨none, 0, [], rfl, by simp, by simp, by simp, fun h => absurd h (by simp)⟩
  · have : v = .slice (some a) len cap := by simpa using hcs
    subst this
    simp only [if_true] at hmm
    subst hmm
    rw [hk] at hcell hx
    have hxx : x.1 = .slice ((List.range len).map D) ((List.range (m - len)).map fun j => D (len + j)) := by rw [hx]
    have hw : ∀ q, q ∈ (((List.range len).map D).length + ((List.range (m - len)).map fun j => D (len + j)).length) * Tryz.prog.bytesOf e :: (DataW.weightsAll Tryz.prog e ((List.range len).map D) ++ DataW.weightsAll Tryz.prog e ((List.range (m - len)).map fun j => D (len + j))) → q ≤ reachBytes := by
      intro q hq
      refine hsz q ?_
      rw [hxx, DataW.weights, ht]
      exact hq
    have each : ∀ i, i < len → ∃ y : α, ∃ cs, R cs y ∧ ∀ r, r < k → W.cell? ((a.add (i * k)).add r) = cs[r]? := by
      intro i hi
      obtain ⟨cs', h1, h2⟩ := hcell i (by omega)
      obtain ⟨_, hlen, hc⟩ := World.cells?_some h1
      obtain ⟨y, hy⟩ := hR n cs' _ h2 (fun z hz => lt0 z (by rw [hx]; exact List.mem_append_right _ (List.mem_flatMap.2 ⟨i, List.mem_range.2 (by omega), hz⟩))) (fun q hq => hw q (List.mem_cons_of_mem _ (List.mem_append_left _ (w_all (List.mem_map.2 ⟨i, List.mem_range.2 hi, rfl⟩) q hq))))
      exact ⟨y, cs', hy, hc⟩
    by_cases h0 : len = 0
    · subst h0
      exact ⟨some a, m, [], rfl, by simp, by simp, hm, fun h => absurd h (by simp)⟩
    · have : Inhabited α := ⟨(each 0 (by omega)).choose⟩
      obtain ⟨q, hq⟩ := choose_lt (α := α) (p := fun i y => ∃ cs, R cs y ∧ ∀ r, r < k → W.cell? ((a.add (i * k)).add r) = cs[r]?) each
      have hll : ((List.range len).map q).length = len := by simp
      obtain ⟨b, off, spot⟩ := a
      have hspot : spot = none := by
        obtain ⟨cs', h1, _⟩ := hcell 0 (by omega)
        obtain ⟨_, hlen, hc⟩ := World.cells?_some h1
        have hc0 := hc 0 hk0
        rw [List.getElem?_eq_getElem (by omega)] at hc0
        simpa [Addr.add] using World.cell?_spot hc0
      subst hspot
      have hbW : b < W.heap.size := lt0 (.cell b off) (by rw [hx]; exact List.mem_append_left _ (MemPlace.mem_row.2 ⟨0, Nat.mul_pos (by omega) hk0, by simp⟩))
      refine ⟨_, m, (List.range len).map q, by rw [hll], ?_, by omega, hm, fun _ => ⟨b, off, rfl, hbW, fun i y hy => ?_⟩⟩
      · have := hw _ List.mem_cons_self
        simp only [List.length_map, List.length_range, hby, reachBytes] at this
        rw [hll]
        have h2 : len * by_ ≤ (len + (m - len)) * by_ := Nat.mul_le_mul_right _ (by omega)
        omega
      · have hi : i < len := by have := (List.getElem?_eq_some_iff.1 hy).1; omega
        rw [List.getElem?_map, List.getElem?_range hi] at hy
        simp at hy
        subst hy
        obtain ⟨cs, h1, h2⟩ := hq i hi
        refine ⟨cs, h1, fun r hr => ?_⟩
        have := h2 r hr
        rw [Addr.add_lit, Addr.add_lit] at this
        exact this
def Fit (n : Int) : Prop := -9223372036854775808 ≤ n ∧ n ≤ 9223372036854775807
theorem fit_of {a : Int} (h : (Lit.int .i64 a).wf = true) : Fit a := by
  have := bounds_i64 h
  unfold Fit; omega
theorem op_nums {fuel : Nat} {v : Value} {x : DataW H × List MemPlace} (h : DataW.trod enc Tryz.prog W 0 (fun _ => true) true fuel 34 [v] = some x) (lt0 : ∀ z ∈ x.2, z.block < W.heap.size) (hsz : Sz 34 x.1) :
    ∃ l : List Int, Si 0 W v l ∧ l.length * 8 ≤ 140737488351232 ∧ ∀ y ∈ l, Fit y := by
  obtain ⟨a, c, l, rfl, hl, _, _, hc⟩ := op_slice (α := Int) (R := fun cs y => cs = [.int .i64 y] ∧ Fit y) (k := 1) (by_ := 8) Tryz.underlying34 (by kernel_rfl) (by kernel_rfl) (by omega)
    (fun fuel cs y hy _ _ => by obtain ⟨n, e, _, hw⟩ := DataW.trod_int Tryz.underlying2 hy; exact ⟨n, e, fit_of hw⟩) h lt0 hsz
  refine ⟨l, ⟨a, c, rfl, fun h0 => ?_⟩, hl, fun y hy => ?_⟩
  · obtain ⟨b, off, rfl, hb, hcell⟩ := hc h0
    refine ⟨b, off, rfl, Nat.zero_le _, hb, fun i y hy => ?_⟩
    obtain ⟨cs, ⟨rfl, _⟩, h2⟩ := hcell i y hy
    simpa using h2 0 (by omega)
  · obtain ⟨i, hi⟩ := List.mem_iff_getElem?.1 hy
    obtain ⟨b, off, rfl, hb, hcell⟩ := hc (by have := (List.getElem?_eq_some_iff.1 hi).1; omega)
    obtain ⟨cs, ⟨_, h1⟩, _⟩ := hcell i y hi
    exact h1
/-- A value in memory. -/
structure Vl where
  set : Bool
  n : Int
  s : List Int
structure VlOk (v : Vl) : Prop where
  n : Fit v.n
  l : v.s.length * 8 ≤ 140737488351232
  f : ∀ y ∈ v.s, Fit y
theorem op_val {fuel : Nat} {cs : List Value} {x : DataW H × List MemPlace} (h : DataW.trod enc Tryz.prog W 0 (fun _ => true) true fuel 36 cs = some x) (lt0 : ∀ z ∈ x.2, z.block < W.heap.size) (hsz : Sz 36 x.1) :
    ∃ (v : Vl) (sv : Value), cs = [.bool v.set, .int .i64 v.n, sv] ∧ Si 0 W sv v.s ∧ VlOk v := by
  obtain ⟨xs, n, _, hx, hl, hlen, hf⟩ := DataW.trod_struct Tryz.underlying36 h
  have e44 : Tryz.prog.cellsOf 36 = 3 := by kernel_rfl
  have e4 : Tryz.prog.cellsOf 4 = 1 := by kernel_rfl
  have e2 : Tryz.prog.cellsOf 2 = 1 := by kernel_rfl
  have e42 : Tryz.prog.cellsOf 34 = 1 := by kernel_rfl
  rw [e44] at hl
  match xs, hlen, cs, hl with
  | [y0, y1, y2], _, [c0, c1, c2], _ =>
    have g0 := hf 0 _ rfl
    have g1 := hf 1 _ rfl
    have g2 := hf 2 _ rfl
    simp [e4, e2, e42] at g0 g1 g2
    obtain ⟨b, hb, _⟩ := DataW.trod_bool Tryz.underlying4 g0
    obtain ⟨k, hk, _, hkw⟩ := DataW.trod_int Tryz.underlying2 g1
    simp at hb hk
    subst hb; subst hk
    have hz : ∀ q, q ∈ DataW.weightsEach Tryz.prog [4, 2, 34] [y0.1, y1.1, y2.1] → q ≤ reachBytes := by
      intro q hq
      refine hsz q ?_
      rw [hx]
      simp only [DataW.weights, Tryz.underlying36]
      exact hq
    obtain ⟨l, h1, h2, h3⟩ := op_nums g2 (fun z hz => lt0 z (by rw [hx]; simp [hz])) (sz_each 2 hz rfl rfl)
    exact ⟨⟨b, k, l⟩, c2, rfl, h1, ⟨fit_of hkw, h2, h3⟩⟩
structure TmOk (t : Tm) : Prop where
  v : Fit t.v
  n : Fit t.n
  l : t.s.length * 8 ≤ 140737488351232
  f : ∀ y ∈ t.s, Fit y
theorem op_term {fuel : Nat} {cs : List Value} {x : DataW H × List MemPlace} (h : DataW.trod enc Tryz.prog W 0 (fun _ => true) true fuel 67 cs = some x) (lt0 : ∀ z ∈ x.2, z.block < W.heap.size) (hsz : Sz 67 x.1) :
    ∃ (t : Tm) (sv : Value), cs = [.int .i64 t.v, .bool t.set, .int .i64 t.n, sv] ∧ Si 0 W sv t.s ∧ TmOk t := by
  obtain ⟨xs, n, _, hx, hl, hlen, hf⟩ := DataW.trod_struct Tryz.underlying67 h
  have e46 : Tryz.prog.cellsOf 67 = 4 := by kernel_rfl
  have e3 : Tryz.prog.cellsOf 3 = 1 := by kernel_rfl
  have e44 : Tryz.prog.cellsOf 36 = 3 := by kernel_rfl
  rw [e46] at hl
  match xs, hlen, cs, hl with
  | [y0, y1], _, [c0, c1, c2, c3], _ =>
    have g0 := hf 0 _ rfl
    have g1 := hf 1 _ rfl
    simp [e3, e44] at g0 g1
    obtain ⟨k, hk, _, hkw⟩ := DataW.trod_int Tryz.underlying3 g0
    simp at hk
    subst hk
    have hz : ∀ q, q ∈ DataW.weightsEach Tryz.prog [3, 36] [y0.1, y1.1] → q ≤ reachBytes := by
      intro q hq
      refine hsz q ?_
      rw [hx]
      simp only [DataW.weights, Tryz.underlying67]
      exact hq
    obtain ⟨v, sv, e, h1, h2⟩ := op_val g1 (fun z hz => lt0 z (by rw [hx]; simp [hz])) (sz_each 1 hz rfl rfl)
    simp at e
    obtain ⟨rfl, rfl, rfl⟩ := e
    exact ⟨⟨k, v.set, v.n, v.s⟩, c3, rfl, h1, ⟨fit_of hkw, h2.n, h2.l, h2.f⟩⟩
/-- A slice of values in memory. -/
def Sv (W : World) (s : Value) (l : List Vl) : Prop := ∃ a c, s = .slice a l.length c ∧ (0 < l.length → ∃ b off, a = some ⟨b, off, none⟩ ∧ b < W.heap.size ∧ ∀ (i : Nat) (v : Vl), l[i]? = some v → ∃ sv, Si 0 W sv v.s ∧ W.cell? ⟨b, off + i * 3, none⟩ = some (.bool v.set) ∧ W.cell? ⟨b, off + i * 3 + 1, none⟩ = some (.int .i64 v.n) ∧ W.cell? ⟨b, off + i * 3 + 2, none⟩ = some sv)
theorem Sv.below {W W' : World} {s : Value} {l : List Vl} (h : Sv W s l) (hb : Below W.heap.size W W') : Sv W' s l := by
  obtain ⟨a, c, e, h⟩ := h
  refine ⟨a, c, e, fun h0 => ?_⟩
  obtain ⟨b, off, e1, e2, e3⟩ := h h0
  refine ⟨b, off, e1, Nat.lt_of_lt_of_le e2 hb.size, fun i v hv => ?_⟩
  obtain ⟨sv, h1, h2, h3, h4⟩ := e3 i v hv
  exact ⟨sv, h1.below hb, (hb.cell (p := ⟨b, off + i * 3, none⟩) e2).trans h2, (hb.cell (p := ⟨b, off + i * 3 + 1, none⟩) e2).trans h3, (hb.cell (p := ⟨b, off + i * 3 + 2, none⟩) e2).trans h4⟩
end
end Go.Proofs.YtdnhhmnllhlbbaaGreatDoor

