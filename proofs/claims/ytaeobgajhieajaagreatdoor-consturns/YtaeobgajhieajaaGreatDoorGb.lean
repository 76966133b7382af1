/-
  What is proved here: how constraints and truths that came in are opened; bulk.
-/
import Derived.Test.YtaeobgajhieajaaGreatDoorGa
import Derived.Test.YtaeobgajhieajaaGreatDoorFaj
import Derived.Test.YtaeobgajhieajaaGreatDoorRows
import Derived.Test.YtaeobgajhieajaaGreatDoorPr
namespace Go.Proofs.YtaeobgajhieajaaGreatDoor
open Go.RowKit Go.Shelf
set_option linter.unusedVariables false
set_option linter.unusedSimpArgs false
open Go.ChangeShapes Go.WideShapes Go.ChangeAt Go.Deep
set_option maxRecDepth 100000
section
variable {H : Type} {enc : TypeId × Value → H} {W : World}
theorem op_bools {fuel : Nat} {v : Value} {x : DataW H × List MemPlace} (h : DataW.trod enc Tryz.prog W 0 (fun _ => true) true fuel 33 [v] = some x) (lt0 : ∀ z ∈ x.2, z.block < W.heap.size) (hsz : Sz 33 x.1) :
    ∃ l : List Bool, Sb W v l ∧ l.length * 1 ≤ 140737488351232 ∧ True := by
  obtain ⟨a, c, l, rfl, hl, _, _, hc⟩ := op_slice (α := Bool) (R := fun cs y => cs = [.bool y]) (k := 1) (by_ := 1) Tryz.underlying33 (by kernel_rfl) (by kernel_rfl) (by omega)
    (fun fuel cs y hy _ _ => by obtain ⟨n, e, _⟩ := DataW.trod_bool Tryz.underlying4 hy; exact ⟨n, e⟩) h lt0 hsz
  refine ⟨l, ⟨a, c, rfl, fun h0 => ?_⟩, hl, trivial⟩
  obtain ⟨b, off, rfl, hb, hcell⟩ := hc h0
  refine ⟨b, off, rfl, hb, fun i y hy => ?_⟩
  obtain ⟨cs, rfl, h2⟩ := hcell i y hy
  simpa using h2 0 (by omega)
structure ConOk (ags : List Ag) (sv : Value) : Prop where
  l : ags.length * 32 ≤ 140737488351232
  g : ∀ g ∈ ags, AgOk g
  c : ∃ a c, sv = .slice a ags.length c ∧ ags.length ≤ c ∧ c ≤ 9223372036854775807
theorem op_con {fuel : Nat} {cs : List Value} {x : DataW H × List MemPlace} (h : DataW.trod enc Tryz.prog W 0 (fun _ => true) true fuel 32 cs = some x) (lt0 : ∀ z ∈ x.2, z.block < W.heap.size) (hsz : Sz 32 x.1) :
    ∃ (nm : List UInt8) (ags : List Ag) (sv : Value), cs = [.string ⟨nm.toArray⟩, sv] ∧ Sa 0 W sv ags ∧ ConOk ags sv := by
  obtain ⟨xs, n, _, hx, hl, hlen, hf⟩ := DataW.trod_struct Tryz.underlying32 h
  have e32 : Tryz.prog.cellsOf 32 = 2 := by kernel_rfl
  have e9 : Tryz.prog.cellsOf 9 = 1 := by kernel_rfl
  have e30 : Tryz.prog.cellsOf 30 = 1 := by kernel_rfl
  rw [e32] at hl
  match xs, hlen, cs, hl with
  | [y0, y1], _, [c0, c1], _ =>
    have g0 := hf 0 _ rfl
    have g1 := hf 1 _ rfl
    simp [e9, e30] at g0 g1
    obtain ⟨s, hs, _⟩ := DataW.trod_string Tryz.underlying9 g0
    simp at hs
    subst hs
    have hz : ∀ q, q ∈ DataW.weightsEach Tryz.prog [9, 30] [y0.1, y1.1] → q ≤ reachBytes := by
      intro q hq
      refine hsz q ?_
      rw [hx]
      simp only [DataW.weights, Tryz.underlying32]
      exact hq
    obtain ⟨l, h1, h2, h3, h4⟩ := op_args g1 (fun z hz => lt0 z (by rw [hx]; simp [hz])) (sz_each 1 hz rfl rfl)
    have hcap : ∃ a c, c1 = .slice a l.length c ∧ l.length ≤ c ∧ c ≤ 9223372036854775807 := by
      obtain ⟨a, c, e, _⟩ := h1
      refine ⟨a, c, e, h4 a l.length c e, ?_⟩
      rw [e] at g1
      rcases open_slice Tryz.underlying30 g1 with ⟨h0, _⟩ | ⟨a', len, cap, m, n', D, Pl, hcs, _, _, hm, _⟩
      · simp at h0; omega
      · simp at hcs
        unfold maxLen at hm
        omega
    exact ⟨s.data.toList, l, c1, by simp, h1, ⟨h2, h3, hcap⟩⟩
theorem bulk_one {H : Type} (d : DataW H) : 0 < Rows.uptoBulk d := by
  match d with
  | .lit (.string _) => simp [Rows.uptoBulk]
  | .lit (.bool _) => simp [Rows.uptoBulk]
  | .lit (.int _ _) => simp [Rows.uptoBulk]
  | .lit (.float .f32 _) => simp [Rows.uptoBulk]
  | .lit (.float .f64 _) => simp [Rows.uptoBulk]
  | .lit .nil => simp [Rows.uptoBulk]
  | .nil => simp [Rows.uptoBulk]
  | .ptr _ => simp [Rows.uptoBulk]
  | .slice _ _ => simp [Rows.uptoBulk]
  | .agg _ => simp [Rows.uptoBulk]
  | .iface _ _ => simp [Rows.uptoBulk]
  | .map _ => simp [Rows.uptoBulk]
  | .held _ => simp [Rows.uptoBulk]
theorem bulk_len {H : Type} (l : List (DataW H)) : l.length ≤ Rows.uptoBulkAll l := by
  induction l with
  | nil => exact Nat.zero_le _
  | cons d r ih =>
    have := bulk_one d
    simp only [Rows.uptoBulkAll, List.length_cons]
    omega
theorem bulk_mem {H : Type} : ∀ {l : List (DataW H)} {j : Nat} {d : DataW H}, l[j]? = some d → Rows.uptoBulk d ≤ Rows.uptoBulkAll l
  | [], j, d, h => by simp at h
  | d' :: l, 0, d, h => by simp at h; subst h; simp only [Rows.uptoBulkAll]; omega
  | d' :: l, j + 1, d, h => by
    have := bulk_mem (l := l) (j := j) (by simpa using h)
    simp only [Rows.uptoBulkAll]; omega
/-- A slice that came in is no longer than its bulk. -/
theorem op_len {t e : TypeId} {fuel : Nat} {a : Option Addr} {len cap : Nat} {x : DataW H × List MemPlace} (ht : Tryz.prog.underlying t = some (.slice e)) (h : DataW.trod enc Tryz.prog W 0 (fun _ => true) true fuel t [.slice a len cap] = some x) : len ≤ Rows.uptoBulk x.1 := by
  rcases open_slice ht h with ⟨h0, _⟩ | ⟨a', len', cap', m, n, D, Pl, hcs, _, _, _, _, hx, _⟩
  · simp at h0; omega
  · simp at hcs
    obtain ⟨_, rfl, _⟩ := hcs
    rw [hx]
    have := bulk_len ((List.range len).map D)
    simp only [Rows.uptoBulk]
    simp only [List.length_map, List.length_range] at this
    omega
end
end Go.Proofs.YtaeobgajhieajaaGreatDoor
