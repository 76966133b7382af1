/-
  What is proved here: what math/bits.Len64 returns, at all numbers of 64 bits.
-/
import Derived.Test.YtfgpedleiajgeaaProg
import Derived.Test.YtfgpedleiajgeaaMath
import Derived.WalkKit
import Derived.WalkSpells
import Derived.WalkLawsBesides
import Derived.Lib.Strings
import Derived.Lib.Slices
import Derived.Lib.Small
import Derived.Lib.Walk
import Derived.Lib.BitFns
import Derived.Lib.ItoaNum
namespace Go.Proofs.Ytfgpedleiajgeaa
open Go.RowKit

theorem tab_size : (Lib.len8tab.size : Int) = 256 := by rw [Lib.len8tab_size]; rfl
theorem tab_get (y : Int) (h : y.toNat < Lib.len8tab.size) : ((Lib.len8tab[y.toNat]'h).toNat : Int) = Lib.len8 y := by
  unfold Lib.len8; rw [getElem?_pos Lib.len8tab y.toNat h]; rfl
/-- The byte at the top, and the bits beneath it: math/bits.Len64's last step. -/
theorem len_of (x y : Int) (k : Nat) (hk8 : k ≤ 56) (h0 : 0 ≤ x) (h1 : x ≤ 18446744073709551615) (hy0 : 0 ≤ y) (hy1 : y ≤ 255) (hy : y.toNat = x.toNat / 2 ^ k) (hk : k = 0 ∨ 2 ^ k ≤ x.toNat) :
    wrap64 ((k : Int) + wrap64 (Lib.len8 y)) = (Lib.bitLen x.toNat : Int) := by
  have hl := Lib.bitLen_le8' y hy0 hy1
  rw [Lib.len8_of y hy0 hy1]
  rw [hy] at hl ⊢
  have hx : x.toNat < 2 ^ 64 := by have : (2 : Nat) ^ 64 = 18446744073709551616 := by decide
                                   omega
  have e : Lib.bitLen x.toNat = k + Lib.bitLen (x.toNat / 2 ^ k) := by
    rcases hk with rfl | hk
    · simp
    · exact Lib.bitLen_shift k x.toNat hk hx
  rw [e]; unfold wrap64; omega

set_option maxHeartbeats 4000000 in
set_option maxRecDepth 100000 in
theorem len64_any (x : Int) (w : World) (h0 : 0 ≤ x) (h1 : x ≤ 18446744073709551615) :
    Calls Try.prog 52 #[.int .u64 x] w fun e w' => e = .returned (.int .i64 (Lib.bitLen x.toNat)) ∧ w' = w := by
  have hsz := tab_size
  go_enter Try.func52, Try.ntmps52
  go_wp2
  all_goals (go_ret; refine ⟨congrArg Ending.returned (congrArg (Value.int IntKind.i64) ?_), rfl⟩)
  · rw [tab_get]; exact len_of x (x / 4294967296 / 65536 / 256) 56 (by decide) h0 h1 (by omega) (by omega) (by omega) (.inr (by omega))
  · rw [tab_get]; exact len_of x (x / 4294967296 / 65536) 48 (by decide) h0 h1 (by omega) (by omega) (by omega) (.inr (by omega))
  · rw [tab_get]; exact len_of x (x / 4294967296 / 256) 40 (by decide) h0 h1 (by omega) (by omega) (by omega) (.inr (by omega))
  · rw [tab_get]; exact len_of x (x / 4294967296) 32 (by decide) h0 h1 (by omega) (by omega) (by omega) (.inr (by omega))
  · rw [tab_get]; exact len_of x (x / 65536 / 256) 24 (by decide) h0 h1 (by omega) (by omega) (by omega) (.inr (by omega))
  · rw [tab_get]; exact len_of x (x / 65536) 16 (by decide) h0 h1 (by omega) (by omega) (by omega) (.inr (by omega))
  · rw [tab_get]; exact len_of x (x / 256) 8 (by decide) h0 h1 (by omega) (by omega) (by omega) (.inr (by omega))
  · rw [tab_get]; have := len_of x x 0 (by decide) h0 h1 (by omega) (by omega) (by simp) (.inl rfl); simpa [wrap64] using this

end Go.Proofs.Ytfgpedleiajgeaa
