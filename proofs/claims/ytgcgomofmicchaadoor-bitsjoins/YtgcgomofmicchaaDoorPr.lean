/-
  What is proved here: what the library's table reads as, and how a slice of ranges that came in is opened.
-/
import Derived.Test.YtgcgomofmicchaaDoorXk
import Derived.Test.YtgcgomofmicchaaDoorRows
import Derived.Deep.SlicePairs
import Derived.Lib.LaidTab
import Derived.SizedLaws
import Derived.WalkKit
import Derived.ProofKit
import Derived.LaidMore
import Derived.OpenShut
import Derived.Stop.Joined
import Derived.Below
namespace Go.Proofs.YtgcgomofmicchaaDoor
open Go.ChangeShapes Go.WideShapes Go.ChangeAt Go.RowKit Go.Deep

theorem own : ownKnob Tryd.prog.godebug = none := by kernel_rfl
theorem laidOut : laidOutB Tryd.prog = true := by kernel_rfl
theorem gTab : Tryd.prog.globalNamed "math/bits.deBruijn64tab" = some 0 := by kernel_rfl
theorem tTab : (Tryd.prog.globals[0]?).map (·.type) = some 94 := by kernel_rfl
abbrev laidL : List (String × DataW Unit) := [("math/bits.deBruijn64tab", Rows.laid_math_bits_deBruijn64tab)]
def tabI : List Int := Lib.deBruijn64tab.map fun x : Nat => (x : Int)
theorem laid_is : (Rows.laid_math_bits_deBruijn64tab : DataW Unit) = Lib.tabData .u8 tabI := by rfl
theorem door_met (os : Os) (args : Array Value) : laidMetH Tryd.prog laidL ((World.doorLaid Tryd.prog 400 os).forCall (fun _ _ => 0) ⟨#[], args, []⟩).memory :=
  laidMetH_of_parts3 (fuel := 8) (laidMet_of_run' 8 (by kernel_rfl) (by kernel_rfl)) (by kernel_rfl) (by kernel_rfl)
theorem of_laid {W : World} (h : laidMetH Tryd.prog laidL W) : Tab W := by
  rw [MakeChecks.laidMetH_plain _ _ _ (by kernel_rfl)] at h
  unfold laidL at h
  rw [laid_is] at h
  have hT := Lib.tabIs_of_head gTab tTab Tryd.underlying94 Tryd.underlying5 (by kernel_rfl) (by kernel_rfl) h
  have hc : ∀ j, j < 64 → W.cell? ⟨0, j, none⟩ = some (.int .u8 (Lib.deBruijn64tab.getD j 0 : Nat)) := fun j hj => by
    have := hT.cell gTab j (by show j < 64; exact hj)
    rw [this]
    have e : tabI.getD j 0 = ((Lib.deBruijn64tab.getD j 0 : Nat) : Int) := by
      unfold tabI
      rw [List.getD_eq_getElem?_getD, List.getD_eq_getElem?_getD, List.getElem?_map]
      cases Lib.deBruijn64tab[j]? <;> rfl
    rw [e]
  refine ⟨?_, hc⟩
  have h0 := hc 0 (by decide)
  apply Classical.byContradiction
  intro hn
  have : W.heap[0]? = none := Array.getElem?_eq_none (by omega)
  simp [World.cell?, this] at h0

theorem fits_of_wf {a : Int} (h : (Lit.int .i64 a).wf = true) : Fits a := by
  have := bounds_i64 h
  unfold Fits; omega

theorem open_ranges {H : Type} {enc : TypeId × Value → H} {W : World} {sp : Nat → Bool} {held : Bool} {fuel : Nat} {a : Option Addr} {len cap : Nat} {x : DataW H × List MemPlace}
    (h : DataW.trod enc Tryd.prog W 0 sp held fuel 22 [.slice a len cap] = some x) (hlt : ∀ y ∈ x.2, y.block < W.heap.size) : ∃ l, Sr W (.slice a len cap) l ∧ FitsR l := by
  rcases open_slice_pairs Tryd.underlying22 Tryd.underlying62 (by kernel_rfl) rfl rfl (by kernel_rfl) (by kernel_rfl) h with ⟨hcs, _⟩ | ⟨ad, len', cap', m, n, V0, V1, D0, D1, P0, P1, hcs, _, hl, hm, hmm, hx, hcell⟩
  · simp at hcs
    obtain ⟨rfl, rfl, rfl⟩ := hcs
    exact ⟨[], ⟨none, 0, rfl, fun h => absurd h (by decide)⟩, fun i hi => absurd hi (by simp)⟩
  · simp at hcs
    obtain ⟨rfl, rfl, rfl⟩ := hcs
    have hlm : len ≤ m := by rw [hmm]; split <;> omega
    have each : ∀ i, i < len → ∃ q : Int × Int, W.cell? (ad.add (i * 2)) = some (.int .i64 q.1) ∧ W.cell? (ad.add (i * 2 + 1)) = some (.int .i64 q.2) ∧ Fits q.1 ∧ Fits q.2 := by
      intro i hi
      obtain ⟨c0, c1, t0, t1⟩ := hcell i (by omega)
      obtain ⟨k0, e0, _, w0⟩ := DataW.trod_int Tryd.underlying2 t0
      obtain ⟨k1, e1, _, w1⟩ := DataW.trod_int Tryd.underlying2 t1
      simp at e0 e1
      rw [e0] at c0; rw [e1] at c1
      exact ⟨(k0, k1), c0, c1, fits_of_wf w0, fits_of_wf w1⟩
    obtain ⟨q, hq⟩ := choose_lt each
    have hll : ((List.range len).map q).length = len := by simp
    have hlo : ∀ i, i < len → lo ((List.range len).map q) i = (q i).1 := fun i hi => by unfold lo; simp [hi]
    have hhi : ∀ i, i < len → Go.Proofs.YtgcgomofmicchaaDoor.hi ((List.range len).map q) i = (q i).2 := fun i hi => by unfold Go.Proofs.YtgcgomofmicchaaDoor.hi; simp [hi]
    refine ⟨(List.range len).map q, ⟨some ad, cap, by rw [hll], fun h0 => ?_⟩, fun i hi => ?_⟩
    · rw [hll] at h0
      obtain ⟨b, off, spot⟩ := ad
      have hspot : spot = none := by simpa [Addr.add] using World.cell?_spot (hq 0 h0).1
      subst hspot
      have hbW : b < W.heap.size := hlt (.cell b off) (by rw [hx]; exact List.mem_append_left _ (MemPlace.mem_row.2 ⟨0, by omega, by simp⟩))
      refine ⟨b, off, rfl, hbW, fun i hi => ?_⟩
      rw [hll] at hi
      rw [hlo i hi, hhi i hi]
      have h1 := (hq i hi).1
      have h2 := (hq i hi).2.1
      rw [add_plain] at h1 h2
      exact ⟨h1, h2⟩
    · rw [hll] at hi
      rw [hlo i hi, hhi i hi]
      exact ⟨(hq i hi).2.2.1, (hq i hi).2.2.2⟩
end Go.Proofs.YtgcgomofmicchaaDoor
