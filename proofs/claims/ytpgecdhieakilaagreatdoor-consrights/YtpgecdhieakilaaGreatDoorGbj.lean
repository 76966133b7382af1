/-
  What is proved here: how constraints and truths that came in are opened; bulk.
  What is proved here: the bulk of a constraint that came in.
-/
import Derived.Test.YtpgecdhieakilaaGreatDoorGa
import Derived.Test.YtpgecdhieakilaaGreatDoorDvj
import Derived.Test.YtpgecdhieakilaaGreatDoorRows
import Derived.Test.YtpgecdhieakilaaGreatDoorPr
import Derived.Test.YtpgecdhieakilaaGreatDoorDfj
namespace Go.Proofs.YtpgecdhieakilaaGreatDoor
open Go.RowKit Go.Shelf
set_option linter.unusedVariables false
set_option linter.unusedSimpArgs false
open Go.ChangeShapes Go.WideShapes Go.ChangeAt Go.Deep
set_option maxRecDepth 100000
section
variable {H : Type} {enc : TypeId × Value → H} {W : World}
theorem op_bools {fuel : Nat} {v : Value} {x : DataW H × List MemPlace} (h : DataW.trod enc Tryz.prog W 0 (fun _ => true) true fuel 33 [v] = some x) (lt0 : ∀ z ∈ x.2, z.block < W.heap.size) (hsz : Sz 33 x.1) :
    ∃ l : List Bool, Sb W v l ∧ l.length * 1 ≤ 140737488351232 ∧ True := by
  obtain ⟨a, c, l, rfl, hl, _, _, hc⟩ := op_slice (α := Bool) (R := fun cs y => cs = [.bool y]) (k := 1) (by_ := 1) Tryz.underlying33 (by kernel_rfl) (by kernel_rfl) (by omega)
    (fun fuel cs y hy _ _ => by obtain ⟨n, e, _⟩ := DataW.trod_bool Tryz.underlying4 hy; exact ⟨n, e⟩) h lt0 hsz
  refine ⟨l, ⟨a, c, rfl, fun h0 => ?_⟩, hl, trivial⟩
  obtain ⟨b, off, rfl, hb, hcell⟩ := hc h0
  refine ⟨b, off, rfl, hb, fun i y hy => ?_⟩
  obtain ⟨cs, rfl, h2⟩ := hcell i y hy
  simpa using h2 0 (by omega)
structure ConOk (ags : List Ag) (sv : Value) : Prop where
  l : ags.length * 32 ≤ 140737488351232
  g : ∀ g ∈ ags, AgOk g
  c : ∃ a c, sv = .slice a ags.length c ∧ ags.length ≤ c ∧ c ≤ 9223372036854775807
theorem op_con {fuel : Nat} {cs : List Value} {x : DataW H × List MemPlace} (h : DataW.trod enc Tryz.prog W 0 (fun _ => true) true fuel 32 cs = some x) (lt0 : ∀ z ∈ x.2, z.block < W.heap.size) (hsz : Sz 32 x.1) :
    ∃ (nm : List UInt8) (ags : List Ag) (sv : Value), cs = [.string ⟨nm.toArray⟩, sv] ∧ Sa 0 W sv ags ∧ ConOk ags sv := by
  obtain ⟨xs, n, _, hx, hl, hlen, hf⟩ := DataW.trod_struct Tryz.underlying32 h
  have e32 : Tryz.prog.cellsOf 32 = 2 := by kernel_rfl
  have e9 : Tryz.prog.cellsOf 9 = 1 := by kernel_rfl
  have e30 : Tryz.prog.cellsOf 30 = 1 := by kernel_rfl
  rw [e32] at hl
  match xs, hlen, cs, hl with
  | [y0, y1], _, [c0, c1], _ =>
    have g0 := hf 0 _ rfl
    have g1 := hf 1 _ rfl
    simp [e9, e30] at g0 g1
    obtain ⟨s, hs, _⟩ := DataW.trod_string Tryz.underlying9 g0
    simp at hs
    subst hs
    have hz : ∀ q, q ∈ DataW.weightsEach Tryz.prog [9, 30] [y0.1, y1.1] → q ≤ reachBytes := by
      intro q hq
      refine hsz q ?_
      rw [hx]
      simp only [DataW.weights, Tryz.underlying32]
      exact hq
    obtain ⟨l, h1, h2, h3, h4⟩ := op_args g1 (fun z hz => lt0 z (by rw [hx]; simp [hz])) (sz_each 1 hz rfl rfl)
    have hcap : ∃ a c, c1 = .slice a l.length c ∧ l.length ≤ c ∧ c ≤ 9223372036854775807 := by
      obtain ⟨a, c, e, _⟩ := h1
      refine ⟨a, c, e, h4 a l.length c e, ?_⟩
      rw [e] at g1
      rcases open_slice Tryz.underlying30 g1 with ⟨h0, _⟩ | ⟨a', len, cap, m, n', D, Pl, hcs, _, _, hm, _⟩
      · simp at h0; omega
      · simp at hcs
        unfold maxLen at hm
        omega
    exact ⟨s.data.toList, l, c1, by simp, h1, ⟨h2, h3, hcap⟩⟩
theorem bulk_one {H : Type} (d : DataW H) : 0 < Rows.uptoBulk d := by
  match d with
  | .lit (.string _) => simp [Rows.uptoBulk]
  | .lit (.bool _) => simp [Rows.uptoBulk]
  | .lit (.int _ _) => simp [Rows.uptoBulk]
  | .lit (.float .f32 _) => simp [Rows.uptoBulk]
  | .lit (.float .f64 _) => simp [Rows.uptoBulk]
  | .lit .nil => simp [Rows.uptoBulk]
  | .nil => simp [Rows.uptoBulk]
  | .ptr _ => simp [Rows.uptoBulk]
  | .slice _ _ => simp [Rows.uptoBulk]
  | .agg _ => simp [Rows.uptoBulk]
  | .iface _ _ => simp [Rows.uptoBulk]
  | .map _ => simp [Rows.uptoBulk]
  | .held _ => simp [Rows.uptoBulk]
theorem bulk_len {H : Type} (l : List (DataW H)) : l.length ≤ Rows.uptoBulkAll l := by
  induction l with
  | nil => exact Nat.zero_le _
  | cons d r ih =>
    have := bulk_one d
    simp only [Rows.uptoBulkAll, List.length_cons]
    omega
theorem bulk_mem {H : Type} : ∀ {l : List (DataW H)} {j : Nat} {d : DataW H}, l[j]? = some d → Rows.uptoBulk d ≤ Rows.uptoBulkAll l
  | [], j, d, h => by simp at h
  | d' :: l, 0, d, h => by simp at h; subst h; simp only [Rows.uptoBulkAll]; omega
  | d' :: l, j + 1, d, h => by
    have := bulk_mem (l := l) (j := j) (by simpa using h)
    simp only [Rows.uptoBulkAll]; omega
/-- A slice that came in is no longer than its bulk. -/
theorem op_len {t e : TypeId} {fuel : Nat} {a : Option Addr} {len cap : Nat} {x : DataW H × List MemPlace} (ht : Tryz.prog.underlying t = some (.slice e)) (h : DataW.trod enc Tryz.prog W 0 (fun _ => true) true fuel t [.slice a len cap] = some x) : len ≤ Rows.uptoBulk x.1 := by
  rcases open_slice ht h with ⟨h0, _⟩ | ⟨a', len', cap', m, n, D, Pl, hcs, _, _, _, _, hx, _⟩
  · simp at h0; omega
  · simp at hcs
    obtain ⟨_, rfl, _⟩ := hcs
    rw [hx]
    have := bulk_len ((List.range len).map D)
    simp only [Rows.uptoBulk]
    simp only [List.length_map, List.length_range] at this
    omega
end
end Go.Proofs.YtpgecdhieakilaaGreatDoor

namespace Go.Proofs.YtpgecdhieakilaaGreatDoor
open Go.RowKit Go.Shelf
set_option linter.unusedVariables false
set_option linter.unusedSimpArgs false
open Go.ChangeShapes Go.WideShapes Go.ChangeAt Go.Deep
set_option maxRecDepth 100000
/-- How many terms all arguments have. -/
def sumA : List Ag → Nat
  | [] => 0
  | g :: l => g.l.length + sumA l
theorem sum_mem : ∀ {ags : List Ag} {g : Ag}, g ∈ ags → g.l.length ≤ sumA ags
  | [], g, h => by simp at h
  | a :: l, g, h => by
    rcases List.mem_cons.1 h with rfl | h
    · simp only [sumA]; omega
    · have := sum_mem h; simp only [sumA]; omega
theorem vars_sum : ∀ (ags : List Ag), (varsA ags).length ≤ sumA ags
  | [] => by simp [varsA]
  | g :: r => by
    have h1 := vars_sum r
    have h2 : (varsL g.l).length ≤ g.l.length := by
      unfold varsL
      rw [List.length_map]
      exact List.length_filter_le _ _
    have : varsA (g :: r) = varsL g.l ++ varsA r := by simp [varsA]
    rw [this, List.length_append]
    simp only [sumA]
    omega
section
variable {H : Type} {enc : TypeId × Value → H} {W : World}
theorem sum_bulk : ∀ (ags : List Ag) (ds : List (DataW H)), (∀ (i : Nat) g d, ags[i]? = some g → ds[i]? = some d → g.l.length ≤ Rows.uptoBulk d) → ags.length ≤ ds.length → sumA ags ≤ Rows.uptoBulkAll ds
  | [], _, _, _ => Nat.zero_le _
  | g :: l, [], _, h => by simp at h
  | g :: l, d :: ds, h, hl => by
    have h1 := h 0 g d rfl rfl
    have h2 := sum_bulk l ds (fun i g' d' a b => h (i + 1) g' d' (by simpa using a) (by simpa using b)) (by simpa using hl)
    simp only [sumA, Rows.uptoBulkAll]
    omega
theorem arg_bulk {fuel : Nat} {c0 : Value} {a' : Option Addr} {len c' : Nat} {x : DataW H × List MemPlace} (h : DataW.trod enc Tryz.prog W 0 (fun _ => true) true fuel 54 [c0, .slice a' len c'] = some x) : len ≤ Rows.uptoBulk x.1 := by
  obtain ⟨xs, n, _, hx, hl, hlen, hf⟩ := DataW.trod_struct Tryz.underlying54 h
  have e4 : Tryz.prog.cellsOf 4 = 1 := by kernel_rfl
  have e52 : Tryz.prog.cellsOf 52 = 1 := by kernel_rfl
  match xs, hlen with
  | [y0, y1], _ =>
    have g1 := hf 1 _ rfl
    simp [e4, e52] at g1
    have := op_len Tryz.underlying52 g1
    rw [hx]
    simp only [List.map_cons, List.map_nil, Rows.uptoBulk, Rows.uptoBulkAll]
    omega
theorem args_bulk {fuel : Nat} {v : Value} {x : DataW H × List MemPlace} (h : DataW.trod enc Tryz.prog W 0 (fun _ => true) true fuel 30 [v] = some x) {ags : List Ag} (hS : Sa 0 W v ags) : sumA ags ≤ Rows.uptoBulk x.1 := by
  obtain ⟨a0, c0, rfl, hS'⟩ := hS
  rcases Nat.eq_zero_or_pos ags.length with h0 | h0
  · have : ags = [] := List.length_eq_zero_iff.1 h0
    subst this
    exact Nat.zero_le _
  · obtain ⟨b, off, svl, rfl, _, _, hs, hc⟩ := hS' h0
    rcases open_slice Tryz.underlying30 h with ⟨h1, _⟩ | ⟨a, len, cap, m, n, D, Pl, hcs, _, hl, hm, hmm, hx, hcell⟩
    · simp at h1
    · have hcs' : (Value.slice (some ⟨b, off, none⟩) ags.length c0) = .slice (some a) len cap := by simpa using hcs
      injection hcs' with q1 q2 q3
      injection q1 with q1
      subst q1; subst q2; subst q3
      simp only [if_true] at hmm
      have e54 : Tryz.prog.cellsOf 54 = 2 := by kernel_rfl
      rw [e54] at hcell hx
      have hxx : x.1 = .slice ((List.range ags.length).map D) ((List.range (m - ags.length)).map fun j => D (ags.length + j)) := by rw [hx]
      have := sum_bulk ags ((List.range ags.length).map D) (fun i g d h1 h2 => by
        have hi := (List.getElem?_eq_some_iff.1 h1).1
        rw [List.getElem?_map, List.getElem?_range hi] at h2
        injection h2 with h2
        obtain ⟨cs', k1, k2⟩ := hcell i (by omega)
        obtain ⟨_, hlen, hcc⟩ := World.cells?_some k1
        obtain ⟨sv, hsv⟩ : ∃ sv, svl[i]? = some sv := ⟨_, List.getElem?_eq_getElem (by omega)⟩
        obtain ⟨⟨a', c', rfl, _⟩, z0, z1⟩ := hc i g sv h1 hsv
        have r0 := hcc 0 (by omega)
        have r1 := hcc 1 (by omega)
        match cs', hlen with
        | [x0, x1], _ =>
          have e1 : ((⟨b, off, none⟩ : Addr).add (i * 2)).add 1 = ⟨b, off + i * 2 + 1, none⟩ := by
            rcases i with _ | i <;> simp [Addr.add]
          rw [e1, z1] at r1
          simp at r1
          subst r1
          have := arg_bulk k2
          rw [← h2]
          exact this) (by simp)
      rw [hxx]
      simp only [Rows.uptoBulk]
      omega
theorem con_bulk {fuel : Nat} {s : Value} {a : Option Addr} {n c : Nat} {x : DataW H × List MemPlace} (h : DataW.trod enc Tryz.prog W 0 (fun _ => true) true fuel 32 [s, .slice a n c] = some x) {ags : List Ag} (hS : Sa 0 W (.slice a n c) ags) : sumA ags ≤ Rows.uptoBulk x.1 ∧ n ≤ Rows.uptoBulk x.1 := by
  obtain ⟨xs, n', _, hx, hl, hlen, hf⟩ := DataW.trod_struct Tryz.underlying32 h
  have e9 : Tryz.prog.cellsOf 9 = 1 := by kernel_rfl
  have e30 : Tryz.prog.cellsOf 30 = 1 := by kernel_rfl
  match xs, hlen with
  | [y0, y1], _ =>
    have g1 := hf 1 _ rfl
    simp [e9, e30] at g1
    have h1 := args_bulk g1 hS
    have h2 := op_len Tryz.underlying30 g1
    rw [hx]
    simp only [List.map_cons, List.map_nil, Rows.uptoBulk, Rows.uptoBulkAll]
    omega
end
end Go.Proofs.YtpgecdhieakilaaGreatDoor
