/-
  What is proved here: the closure of ints.bitsFromTop hands on the bits of its number from the top, or those up to where its loop stops.
-/
import Derived.RangeFuncNested
import Derived.RangeFuncBound
import Derived.RangeFuncCalls
import Derived.RangeFuncLeaves
import Derived.Shelf.Abstract
import Derived.Shelf.RegionOpen
import Derived.WalkKit
import Derived.OwnWalkIn
import Derived.TacticsInMore
import Derived.LoopNIn
import Derived.LoopIn
import Derived.Test.YtfgpedleiajgeaaWe
import Derived.Test.YtfgpedleiajgeaaWf
namespace Go.Proofs.Ytfgpedleiajgeaa
open Go.RowKit Go.Shelf

attribute [local go_sem] Oper.semAt_some

def bval (l : List Bool) : Nat := l.foldl (fun s b => 2 * s + b.toNat) 0
theorem bval_snoc (l : List Bool) (x : Bool) : bval (l ++ [x]) = 2 * bval l + x.toNat := by simp [bval]

theorem bit_is (v k : Nat) (hv : v < 18446744073709551616) : (bits BinOp.and IntKind.u64 ((v : Int) / 2 ^ k) 1 == 1).toNat = v / 2 ^ k % 2 := by
  have hd : v / 2 ^ k ≤ v := Nat.div_le_self _ _
  have h := bits_and_u64_nat (v / 2 ^ k) 1 (by omega) (by omega)
  rw [Nat.and_one_is_mod] at h
  have e : ((v : Int) / 2 ^ k) = ((v / 2 ^ k : Nat) : Int) := by simp
  have h' : bits BinOp.and IntKind.u64 ((v : Int) / 2 ^ k) 1 = ((v / 2 ^ k % 2 : Nat) : Int) := by rw [e]; exact h
  rw [h']
  generalize v / 2 ^ k = q
  rcases Nat.mod_two_eq_zero_or_one q with h | h <;> rw [h] <;> rfl

set_option maxRecDepth 100000 in
set_option maxHeartbeats 1000000 in
theorem bits1_in (n : Nat) (hn : 1 ≤ n) (l Bn v : Nat) (hv : v < 18446744073709551616) (J Jx : List Bool → World → Prop)
    (hY : ∀ pre x W, J pre W → pre.length < 64 → YieldAt Fence.wide (n - 1) Try.prog l #[.bool x] W fun e W' =>
      (e = .returned (.bool true) ∧ J (pre ++ [x]) W' ∧ W'.cell? ⟨Bn, 0, none⟩ = W.cell? ⟨Bn, 0, none⟩) ∨ (e = .returned (.bool false) ∧ Jx (pre ++ [x]) W'))
    (W : World) (hc : W.cell? ⟨Bn, 0, none⟩ = some (.int .u64 v)) (h0 : J [] W) :
    CallsIn Fence.wide n Try.prog 51 #[.func (.yield l) #[] #[], .pointer (some ⟨Bn, 0, none⟩)] W fun e W' => (∃ u, e = .returned u) ∧
      ((∃ xs, bval xs = v ∧ J xs W') ∨ (∃ pre, bval pre ≤ v ∧ Jx pre W')) := by
  obtain ⟨L, hL⟩ : ∃ L, Lib.bitLen v = L := ⟨_, rfl⟩
  have hLb : L ≤ 64 := hL ▸ Lib.bitLen_le v 64 (Nat.le_refl _) hv
  have HD : Hid (v / 2 ^ L = 0) := by
    rcases Nat.eq_zero_or_pos v with h | h
    · subst h; exact Nat.zero_div _
    · have := (Lib.bitLenAux_bounds 64 v hv (by omega)).2.2
      rw [← hL]; exact Nat.div_eq_of_lt this
  have hlen : CallsIn Fence.wide (n - 1) Try.prog 52 #[.int .u64 (v : Int)] W fun e w' => e = .returned (.int .i64 (L : Int)) ∧ W = w' := by
    refine callsIn_wide.2 ((len64_any _ _ (by omega) (by omega)).mono ?_)
    rintro e w' ⟨rfl, rfl⟩
    refine ⟨?_, rfl⟩
    rw [Int.toNat_natCast, hL]
  clear hL
  refine callsIn_of_wp Try.func51 rfl trivial ?_ rfl
  simp only [Try.ntmps51, List.size_toArray, List.length_cons, List.length_nil, Nat.reduceAdd, Nat.reduceSub, Array.replicate_succ, Array.replicate_zero, List.push_toArray, List.append_toArray, List.nil_append, List.cons_append]
  gi_wp2_with (refine ⟨trivial, ?_⟩; gi_at_call 52; refine hlen.mono ?_; rintro e w' ⟨rfl, hw⟩; rw [← hw]; clear hw)
  clear hlen
  gi_loopw [3] (fun i wr => ∃ (pre : List Bool) (k : Nat), k ≤ L ∧ pre.length = L - k ∧ i = .int .i64 ((k : Int) - 1) ∧ bval pre = v / 2 ^ k ∧ J pre wr ∧ wr.cell? ⟨Bn, 0, none⟩ = some (.int .u64 v))
    (fun i _ => (intOf i + 1).toNat)
  case atStart => exact ⟨[], L, Nat.le_refl _, by simp, by simp, HD.out.symm, h0, hc⟩
  case round =>
    obtain ⟨pre, k, hk, hlen, rfl, hb, hJs, hcw⟩ := hrel
    have HB : Hid (bval pre = v / 2 ^ k) := hb
    clear hb
    cases k with
    | zero =>
      gi_wp2
      go_end0
      exact ⟨⟨_, rfl⟩, .inl ⟨pre, by rw [HB.out]; simp, hJs⟩⟩
    | succ k =>
      have e1 : ((k + 1 : Nat) : Int) - 1 = (k : Int) := by omega
      rw [e1]
      have hb2 : bval (pre ++ [bits BinOp.and IntKind.u64 ((v : Int) / 2 ^ k) 1 == 1]) = v / 2 ^ k := by
        rw [bval_snoc, HB.out, bit_is v k hv, Nat.pow_succ, ← Nat.div_div_eq_div_mul]; omega
      have HB2 : Hid (bval (pre ++ [bits BinOp.and IntKind.u64 ((v : Int) / 2 ^ k) 1 == 1]) = v / 2 ^ k) := hb2
      clear hb2
      obtain ⟨fn, tmps, assign, body, hy, hR⟩ := hY pre (bits BinOp.and IntKind.u64 ((v : Int) / 2 ^ k) 1 == 1) wr hJs (by omega)
      gi_wp2
      refine hR.mono ?_
      rintro e W3 (⟨rfl, hJ3, hk3⟩ | ⟨rfl, hJx3⟩)
      · gi_wp2
        go_roundw
        case rel => exact ⟨_, k, by omega, by simp; omega, rfl, HB2.out, hJ3, hk3.trans hcw⟩
        case measure => simp [intOf]
      · gi_wp2
        refine bodyPost_ret (results_none rfl _ _ _) rfl ?_
        exact ⟨⟨_, rfl⟩, .inr ⟨_, by rw [HB2.out]; exact Nat.div_le_self _ _, hJx3⟩⟩

end Go.Proofs.Ytfgpedleiajgeaa
