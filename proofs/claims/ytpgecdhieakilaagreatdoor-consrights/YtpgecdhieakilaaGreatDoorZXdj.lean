/-
  What is proved here: slices.Clone of ranges and of words; dom.Each.
  What is proved here: what the library's iterator over a slice of ranges tells: all of them, in their order.
-/
import Derived.Test.YtpgecdhieakilaaGreatDoorZXbj
import Derived.Lib.SliceRun
import Derived.Lib.Walk
import Derived.Test.YtpgecdhieakilaaGreatDoorZMathj
namespace Go.Proofs.YtpgecdhieakilaaGreatDoor.Dm
open Go.RowKit Go.Shelf

theorem Tryz.info161 : (Tryz.prog.info? 161).map (fun i => (i.zero, i.size, i.bytes)) = some (some (.agg #[.int .i64 0, .int .i64 0]), 2, 16) := by kernel_rfl

def flat (l : List Rg) : List Value := l.flatMap fun r => [.int .i64 r.1, .int .i64 r.2]
theorem flat_even (l : List Rg) : ∀ i, i < l.length → (flat l)[i * 2]? = some (.int .i64 (lo l i)) ∧ (flat l)[i * 2 + 1]? = some (.int .i64 (hi l i)) := by
  induction l with
  | nil => intro i hi; simp at hi
  | cons a t ih =>
    intro i hi'
    cases i with
    | zero => simp [flat, lo, hi]
    | succ i =>
      have := ih i (by simpa using hi')
      have e : flat (a :: t) = .int .i64 a.1 :: .int .i64 a.2 :: flat t := by simp [flat]
      rw [e, show (i + 1) * 2 = i * 2 + 1 + 1 from by omega]
      simpa [lo, hi] using this

end Go.Proofs.YtpgecdhieakilaaGreatDoor.Dm


namespace Go.Proofs.YtpgecdhieakilaaGreatDoor.Dm
open Go.RowKit Go.Shelf
set_option linter.unusedVariables false

attribute [local go_sem] Oper.semAt_some

/-- A range with ends from -1000000 to 1000000. -/
def Rok (r : Rg) : Prop := -1000000 ≤ r.1 ∧ r.1 ≤ r.2 ∧ r.2 ≤ 1000000
abbrev RgOk := { r : Rg // Rok r }
def encR (x : RgOk) : Array Value := #[.agg #[.int .i64 x.1.1, .int .i64 x.1.2]]

theorem take_snoc (l : List Rg) (k : Nat) (hk : k < l.length) : l.take (k + 1) = l.take k ++ [(lo l k, hi l k)] := by
  rw [List.take_add_one, List.getElem?_eq_getElem hk, lo_get l k hk, hi_get l k hk]; rfl

set_option maxRecDepth 100000 in
set_option maxHeartbeats 2000000 in
theorem values1_in (n : Nat) (hn : 1 ≤ n) (lr B n₀ b off cap : Nat) (l : List Rg) (hok : ∀ i, i < l.length → Rok (lo l i, hi l i)) (hlen : l.length * 16 ≤ 140737488351232) (hb : b < n₀) (J Jx : List RgOk → World → Prop)
    (hY : ∀ pre x W, J pre W → pre.length < l.length → YieldAt Fence.wide (n - 1) Tryz.prog lr (encR x) W fun e W' =>
      (e = .returned (.bool true) ∧ J (pre ++ [x]) W' ∧ Below n₀ W W') ∨ (e = .returned (.bool false) ∧ Jx (pre ++ [x]) W'))
    (W : World) (hnW : n₀ ≤ W.heap.size) (hJ : AbidesFrom W.heap.size J) (hB : W.cell? ⟨B, 0, none⟩ = some (.slice (some ⟨b, off, none⟩) l.length cap))
    (hc : ∀ i, i < l.length → W.cell? ⟨b, off + i * 2, none⟩ = some (.int .i64 (lo l i)) ∧ W.cell? ⟨b, off + i * 2 + 1, none⟩ = some (.int .i64 (hi l i))) (h0 : J [] W) :
    CallsIn Fence.wide n Tryz.prog 162 #[.func (.yield lr) #[] #[], .pointer (some ⟨B, 0, none⟩)] W fun e W' => (∃ v, e = .returned v) ∧
      ((∃ ys, ys.map (·.1) = l ∧ J ys W') ∨ (∃ pre, (∃ r, pre.map (·.1) ++ r = l) ∧ Jx pre W')) := by
  obtain ⟨m, hm⟩ : ∃ m, l.length = m := ⟨_, rfl⟩
  have HM : Hid (l.length = m) := hm
  rw [hm] at hok hlen hB hc hY
  have HOK : Hid (∀ i, i < m → Rok (lo l i, hi l i)) := hok
  have HC : Hid (∀ i, i < m → W.cell? ⟨b, off + i * 2, none⟩ = some (.int .i64 (lo l i)) ∧ W.cell? ⟨b, off + i * 2 + 1, none⟩ = some (.int .i64 (hi l i))) := hc
  clear hm hc hok
  refine callsIn_of_wp Tryz.func162 rfl trivial ?_ rfl
  simp only [Tryz.ntmps162, List.size_toArray, List.length_cons, List.length_nil, Nat.reduceAdd, Nat.reduceSub, Array.replicate_succ, Array.replicate_zero, List.push_toArray, List.append_toArray, List.nil_append, List.cons_append]
  gi_wp2
  gi_loopw [7] (fun i wr => ∃ k : Nat, k ≤ m ∧ i = .int .i64 k ∧ (∃ pre, pre.map (·.1) = l.take k ∧ J pre wr) ∧ Below n₀ W wr)
    (fun i _ => m - (intOf i).toNat)
  case atStart => exact ⟨0, Nat.zero_le _, rfl, ⟨[], by simp, h0⟩, Below.refl _ _⟩
  case round =>
    obtain ⟨k, hk, rfl, ⟨pre, hpre, hJp⟩, hBl⟩ := hrel
    have hsz := hBl.size
    by_cases hlt : k < m
    · obtain ⟨c1, c2⟩ := HC.out k hlt
      have hrok := HOK.out k hlt
      have d1 := (hBl.cell (p := ⟨b, off + k * 2, none⟩) hb).trans c1
      have d2 := (hBl.cell (p := ⟨b, off + k * 2 + 1, none⟩) hb).trans c2
      have htk := take_snoc l k (by rw [HM.out]; exact hlt)
      obtain ⟨x, hx⟩ : ∃ x, lo l k = x := ⟨_, rfl⟩
      obtain ⟨y, hy⟩ : ∃ y, hi l k = y := ⟨_, rfl⟩
      rw [hx] at d1 hrok htk; rw [hy] at d2 hrok htk
      have hpl : pre.length < m := by
        have e1 : pre.length = (l.take k).length := by rw [← hpre, List.length_map]
        rw [List.length_take, HM.out] at e1
        omega
      have HPR2 : Hid ((pre ++ [(⟨(x, y), hrok⟩ : RgOk)]).map (·.1) = l.take (k + 1)) := by
        unfold Hid; rw [List.map_append, hpre, htk]; rfl
      have HPRE : Hid (pre.map (·.1) = l.take k) := hpre
      have hJ2 : J pre (wr.alloc (Obj.cells #[Value.int IntKind.i64 x, Value.int IntKind.i64 y] 161)) := hJ _ _ _ none hJp (World.grownBy_alloc _ _ _) (fun r e => by cases e)
      have hB2 : Below n₀ W (wr.alloc (Obj.cells #[Value.int IntKind.i64 x, Value.int IntKind.i64 y] 161)) := hBl.alloc (Nat.le_trans hnW hsz) _
      obtain ⟨fn, tmps, assign, body, hyy, hRd⟩ := hY pre ⟨(x, y), hrok⟩ _ hJ2 hpl
      unfold encR at hyy
      dsimp only at hyy
      have HB2 : Hid (Below n₀ W (wr.alloc (Obj.cells #[Value.int IntKind.i64 x, Value.int IntKind.i64 y] 161))) := hB2
      clear hx hy c1 c2 htk hpre hpl hB2 hJ2
      gi_wp2
      refine hRd.mono ?_
      rintro e W3 (⟨rfl, hJ3, hk3⟩ | ⟨rfl, hJx3⟩)
      · gi_wp2
        go_roundw
        case rel => exact ⟨k + 1, by omega, by go_num, ⟨_, HPR2.out, hJ3⟩, HB2.out.trans hk3⟩
        case measure => simp [intOf]; omega
      · gi_wp2
        refine bodyPost_ret (results_none rfl _ _ _) rfl ?_
        refine ⟨⟨_, rfl⟩, .inr ⟨_, ?_, hJx3⟩⟩
        exact ⟨l.drop (k + 1), by rw [HPR2.out, List.take_append_drop]⟩
    · obtain rfl : k = m := by omega
      gi_wp2
      go_end0
      exact ⟨⟨_, rfl⟩, .inl ⟨pre, by rw [hpre, List.take_of_length_le (by rw [HM.out]; exact Nat.le_refl _)], hJp⟩⟩
end Go.Proofs.YtpgecdhieakilaaGreatDoor.Dm

