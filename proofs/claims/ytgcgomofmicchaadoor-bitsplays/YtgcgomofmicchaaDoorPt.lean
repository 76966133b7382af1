/-
  What is proved here: how a script that came in is opened.
-/
import Derived.Test.YtgcgomofmicchaaDoorPz
import Derived.Test.YtgcgomofmicchaaDoorZk
namespace Go.Proofs.YtgcgomofmicchaaDoor
open Go.ChangeShapes Go.WideShapes Go.ChangeAt Go.RowKit Go.Deep
set_option linter.unusedVariables false

theorem open_script {H : Type} {enc : TypeId × Value → H} {W : World} {sp : Nat → Bool} {held : Bool} {fuel : Nat} {a : Option Addr} {len cap : Nat} {x : DataW H × List MemPlace}
    (h : DataW.trod enc Tryd.prog W 0 sp held fuel 37 [.slice a len cap] = some x) (hlt : ∀ y ∈ x.2, y.block < W.heap.size) : ∃ l, So W (.slice a len cap) l := by
  have ce : Tryd.prog.cellsOf 42 = 3 := by kernel_rfl
  rcases open_slice Tryd.underlying37 h with ⟨hcs, _⟩ | ⟨ad, len', cap', m, n, D, Pl, hcs, hb, hl, hm, hmm, hx0, hx⟩
  · simp at hcs
    obtain ⟨rfl, rfl, rfl⟩ := hcs
    exact ⟨[], none, 0, rfl, fun h => absurd h (by decide)⟩
  · simp at hcs
    obtain ⟨rfl, rfl, rfl⟩ := hcs
    have hlm : len ≤ m := by rw [hmm]; split <;> omega
    have each : ∀ i, i < len → ∃ q : Sop, W.cell? (ad.add (i * 3)) = some (.int .i64 q.kind) ∧ W.cell? (ad.add (i * 3 + 1)) = some (.int .i64 q.v) ∧ W.cell? (ad.add (i * 3 + 2)) = some (.bool q.on) := by
      intro i hi
      obtain ⟨cs', h1, h2⟩ := hx i (by omega)
      rw [ce] at h1
      obtain ⟨_, hlen, hcell⟩ := World.cells?_some h1
      obtain ⟨xs, k, hk, hxy, _, hxl, hf⟩ := DataW.trod_struct Tryd.underlying42 h2
      match xs, hxl, cs', hlen with
      | [y0, y1, y2], _, [v0, v1, v2], _ =>
        have g0 := hf 0 _ rfl
        have g1 := hf 1 _ rfl
        have g2 := hf 2 _ rfl
        have c3 : Tryd.prog.cellsOf 3 = 1 := by kernel_rfl
        have c2 : Tryd.prog.cellsOf 2 = 1 := by kernel_rfl
        have c4 : Tryd.prog.cellsOf 4 = 1 := by kernel_rfl
        simp [c3, c2, c4] at g0 g1 g2
        have e0 := hcell 0 (by omega)
        have e1 := hcell 1 (by omega)
        have e2 := hcell 2 (by omega)
        rw [add_add] at e0 e1 e2
        obtain ⟨k0, f0, _, _⟩ := DataW.trod_int Tryd.underlying3 g0
        obtain ⟨k1, f1, _, _⟩ := DataW.trod_int Tryd.underlying2 g1
        obtain ⟨k2, f2, _⟩ := DataW.trod_bool Tryd.underlying4 g2
        simp at f0 f1 f2
        subst f0 f1 f2
        exact ⟨⟨k0, k1, k2⟩, by simpa using e0, by simpa using e1, by simpa using e2⟩
    haveI : Inhabited Sop := ⟨⟨0, 0, false⟩⟩
    obtain ⟨q, hq⟩ := choose_lt each
    have hll : ((List.range len).map q).length = len := by simp
    have hsat : ∀ i, i < len → sat ((List.range len).map q) i = q i := fun i hi => by unfold sat; simp [hi]
    refine ⟨(List.range len).map q, some ad, cap, by rw [hll], fun h0 => ?_⟩
    rw [hll] at h0
    obtain ⟨b, off, spot⟩ := ad
    have hspot : spot = none := by simpa [Addr.add] using World.cell?_spot (hq 0 h0).1
    subst hspot
    have hbW : b < W.heap.size := hlt (.cell b off) (by rw [hx0, ce]; exact List.mem_append_left _ (MemPlace.mem_row.2 ⟨0, by omega, by simp⟩))
    refine ⟨b, off, rfl, hbW, fun i hi => ?_⟩
    rw [hll] at hi
    rw [hsat i hi]
    have h1 := (hq i hi).1
    have h2 := (hq i hi).2.1
    have h3 := (hq i hi).2.2
    rw [add_plain] at h1 h2 h3
    exact ⟨h1, h2, h3⟩
end Go.Proofs.YtgcgomofmicchaaDoor
