/-
  What is proved here: what the reference's Same answers of two lists that are alike, and Count.
-/
import Derived.Test.YtokcbiafajpmoaaDoorLw
import Derived.Laws.StructEq
namespace Go.Proofs.YtokcbiafajpmoaaDoor
open Go.RowKit
set_option linter.unusedVariables false
set_option linter.unusedSimpArgs false
theorem eq23 (x0 : Int) (x1 : ByteArray) (x2 x3 : Int) (w : World) : (Op.equal 23 (.agg #[.int .i64 x0, .string x1, .int .i64 x2, .int .i64 x3]) (.agg #[.int .i64 x0, .string x1, .int .i64 x2, .int .i64 x3])).run Tryd.prog w = .ok true w := by
  have u3 := Tryd.underlying3
  have a3 := Tryd.isAgg3
  have z3 := Tryd.sizeOf3
  have u2 := Tryd.underlying2
  have a2 := Tryd.isAgg2
  have z2 := Tryd.sizeOf2
  have u9 := Tryd.underlying9
  have a9 := Tryd.isAgg9
  have z9 := Tryd.sizeOf9
  have hS : Tryd.prog.underlying 23 = some (.struct (Tryd.prog.fieldsOf 23)) := by kernel_rfl
  have hp : Tryd.prog.stoodInHeld 23 = false := by kernel_rfl
  unfold Op.equal Op.maxDepth
  rw [show (10000 : Nat) = 9999 + 1 from rfl, run_equalIn_agg w 9999 23 _ _ hS hp]
  simp only [Program.fieldsOf, Tryd.underlying23]
  go_simp
theorem neq23 (x0 : Int) (x1 : ByteArray) (x2 x3 : Int) (w : World) :
    (binOp .neq 23 (.agg #[.int .i64 x0, .string x1, .int .i64 x2, .int .i64 x3]) (.agg #[.int .i64 x0, .string x1, .int .i64 x2, .int .i64 x3])).run Tryd.prog w = .ok (.bool false) w := by
  have he := eq23 x0 x1 x2 x3 w
  simp [binOp, run_underlying Tryd.underlying23, he, go_sem]

set_option maxRecDepth 100000 in
set_option maxHeartbeats 4000000 in
theorem count_any (n : Int) (m : Nat) (hm : 1 ≤ m) (hn : (Lit.int .i64 n).wf = true) (hml : m ≤ 140737488355328) (W : World) :
    Calls Tryd.prog 17 #[.int .i64 n, .int .i64 (m : Int)] W fun e w' => ∃ k : Nat, k < m ∧ e = .returned (.int .i64 (k : Int)) ∧ w' = W := by
  have h0 : ¬ (m : Int) = 0 := by omega
  have h1 : (n.tmod (m : Int)).natAbs < m := by
    rw [Int.natAbs_tmod]; exact Nat.mod_lt _ (by simp; omega)
  obtain ⟨r, hr⟩ : ∃ r, n.tmod (m : Int) = r := ⟨_, rfl⟩
  rw [hr] at h1
  have hw : IntKind.i64.wrap r = r := by rw [IntKind.wrap_i64]; omega
  by_cases hneg : r < 0
  · obtain ⟨k, hk⟩ : ∃ k : Nat, r + (m : Int) = (k : Int) := ⟨(r + m).toNat, by omega⟩
    have hkm : k < m := by omega
    have hw2 : IntKind.i64.wrap (r + (m : Int)) = (k : Int) := by rw [hk, IntKind.wrap_i64]; omega
    clear hk
    go_enter Tryd.func17, Tryd.ntmps17
    go_wp2
    go_ret
    exact ⟨k, hkm, rfl, rfl⟩
  · obtain ⟨k, hk⟩ : ∃ k : Nat, r = (k : Int) := ⟨r.toNat, by omega⟩
    have hkm : k < m := by omega
    subst hk
    go_enter Tryd.func17, Tryd.ntmps17
    go_wp2
    go_ret
    exact ⟨k, hkm, rfl, rfl⟩

set_option maxRecDepth 100000 in
set_option maxHeartbeats 4000000 in
theorem same_yes (v1 v2 : Value) (T : List Tok) (W : World) (h1 : Tr W v1 T) (h2 : Tr W v2 T) (hT : T.length ≤ 1000000) :
    Calls Tryd.prog 9 #[v1, v2] W fun e w' => e = .returned (.bool true) ∧ ∃ q, w' = W.drewN q := by
  obtain ⟨a1, c1, rfl, hc1⟩ := h1.h
  obtain ⟨a2, c2, rfl, hc2⟩ := h2.h
  have H1 : Hid _ := hc1
  have H2 : Hid _ := hc2
  obtain ⟨n, hn⟩ : ∃ n, T.length = n := ⟨_, rfl⟩
  have HN : Hid (T.length = n) := hn
  rw [hn] at H1 H2 hT ⊢
  clear hc1 hc2 h1 h2 hn
  go_enter Tryd.func9, Tryd.ntmps9
  go_wp2
  go_loopw [5] (fun i wr => ∃ k q : Nat, k ≤ n ∧ i = .int .i64 (k : Int) ∧ wr = W.drewN q) (fun i _ => n - (intOf i).toNat)
  case atStart => exact ⟨0, 0, by omega, rfl, rfl⟩
  case round =>
    obtain ⟨k, q, hk, rfl, rfl⟩ := hrel
    by_cases hlt : k < n
    · have hlt' : (k : Int) < (n : Int) := by omega
      obtain ⟨g1, rfl, _, cc1⟩ := H1.out (by omega)
      obtain ⟨g2, rfl, _, cc2⟩ := H2.out (by omega)
      obtain ⟨t, ht⟩ : ∃ t, T[k]? = some t := ⟨_, List.getElem?_eq_getElem (by rw [HN.out]; exact hlt)⟩
      obtain ⟨p0, p1, p2, p3⟩ := cc1 k t ht
      obtain ⟨q0, q1, q2, q3⟩ := cc2 k t ht
      have hne := neq23 t.k (bs t.tx) t.n (t.p : Int)
      generalize t.k = x0 at p0 q0 hne
      generalize bs t.tx = x1 at p1 q1 hne
      generalize t.n = x2 at p2 q2 hne
      generalize (t.p : Int) = x3 at p3 q3 hne
      have hw1 : IntKind.i64.wrap ((k : Int) + 1) = (k : Int) + 1 := by rw [IntKind.wrap_i64]; omega
      clear cc1 cc2 ht
      go_upto_region 6 with (fail)
      go_quiet (fail)
      go_wp2
      go_roundw
      case rel => exact ⟨k + 1, _, by omega, by go_num, by simp [World.drewN]; rfl⟩
      case measure => simp [intOf]; omega
    · have hlt' : ¬ (k : Int) < (n : Int) := by omega
      go_wp2
      go_ret
      exact ⟨rfl, q, rfl⟩
end Go.Proofs.YtokcbiafajpmoaaDoor
