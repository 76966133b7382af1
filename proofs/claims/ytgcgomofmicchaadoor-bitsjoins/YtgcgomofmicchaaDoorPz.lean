/-
  What is proved here: how long a slice of ranges that came in can be.
-/
import Derived.Test.YtgcgomofmicchaaDoorPr
namespace Go.Proofs.YtgcgomofmicchaaDoor
open Go.ChangeShapes Go.WideShapes Go.ChangeAt Go.RowKit Go.Deep

theorem bytes62 : Tryd.prog.bytesOf 62 = 16 := by kernel_rfl
theorem datum_len {H : Type} {enc : TypeId × Value → H} {W : World} {sp : Nat → Bool} {held : Bool} {fuel : Nat} {a : Option Addr} {len cap : Nat} {x : DataW H × List MemPlace}
    (h : DataW.trod enc Tryd.prog W 0 sp held fuel 22 [.slice a len cap] = some x) : len = 0 ∨ ∃ elems spare, x.1 = .slice elems spare ∧ elems.length = len := by
  rcases open_slice_pairs Tryd.underlying22 Tryd.underlying62 (by kernel_rfl) rfl rfl (by kernel_rfl) (by kernel_rfl) h with ⟨hcs, _⟩ | ⟨ad, len', cap', m, n, V0, V1, D0, D1, P0, P1, hcs, _, hl, hm, hmm, hx, hcell⟩
  · simp at hcs
    exact .inl hcs.2.1
  · simp at hcs
    obtain ⟨rfl, rfl, rfl⟩ := hcs
    exact .inr ⟨_, _, by rw [hx], by simp⟩
/-- A slice of ranges that came in at place j is no longer than a machine's memory. -/
theorem ranges_sized {H : Type} {enc : TypeId × Value → H} {W : World} {sp : Nat → Bool} {held : Bool} {fuel : Nat} {a : Option Addr} {len cap : Nat} {d : DataW H} {pl : List MemPlace} {ts : List TypeId} {ds : List (DataW H)} (j : Nat)
    (h : DataW.trod enc Tryd.prog W 0 sp held fuel 22 [.slice a len cap] = some (d, pl)) (hsz : (DataW.weightsEach Tryd.prog ts ds).all (· ≤ reachBytes) = true) (ht : ts[j]? = some 22) (hd : ds[j]? = some d) : len * 16 ≤ 140737488351232 := by
  rcases datum_len h with rfl | ⟨elems, spare, hx, hl⟩
  · decide
  · have hx' : d = .slice elems spare := hx
    have := sized_slice hsz ht (hd.trans (by rw [hx'])) Tryd.underlying22
    rw [bytes62, hl] at this
    simp only [reachBytes] at this
    omega
end Go.Proofs.YtgcgomofmicchaaDoor
