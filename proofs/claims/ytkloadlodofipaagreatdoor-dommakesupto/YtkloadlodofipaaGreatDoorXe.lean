/-
  What is proved here: dom.Each, and what its iterator tells: all values, rising.
-/
import Derived.Test.YtkloadlodofipaaGreatDoorXd
namespace Go.Proofs.YtkloadlodofipaaGreatDoor
open Go.RowKit Go.Shelf

attribute [local go_sem] Oper.semAt_some

/-- What a round keeps: all cells but those of block A. -/
def Kp (A : Nat) (W W' : World) : Prop := W.heap.size ≤ W'.heap.size ∧ ∀ b o v, b ≠ A → W.cell? ⟨b, o, none⟩ = some v → W'.cell? ⟨b, o, none⟩ = some v
theorem Kp.refl (A : Nat) (W : World) : Kp A W W := ⟨Nat.le_refl _, fun _ _ _ _ h => h⟩
theorem Kp.trans {A : Nat} {X Y Z : World} (h : Kp A X Y) (k : Kp A Y Z) : Kp A X Z := ⟨Nat.le_trans h.1 k.1, fun b o v hb hc => k.2 b o v hb (h.2 b o v hb hc)⟩
theorem Kp.alloc (A : Nat) (W : World) (o : Obj) : Kp A W (W.alloc o) := ⟨by simp, fun b q v _ hc => Lib.cell?_alloc_some _ hc⟩
theorem Kp.below {A : Nat} {W W' : World} (h : Below W.heap.size W W') : Kp A W W' :=
  ⟨h.size, fun b o v _ hc => (h.cell (p := ⟨b, o, none⟩) (by
    apply Classical.byContradiction; intro hn
    have : W.heap[b]? = none := Array.getElem?_eq_none (by simpa using hn)
    simp [World.cell?, this] at hc)).trans hc⟩
theorem Kp.put (A : Nat) (W : World) (l : Nat) (o o' : Obj) (h : W.heap[l]? = some o) (hc : o.isCells = false) : Kp A W (W.putObj l o') := by
  have hg := grownBy_putObj' W l o'
  refine ⟨hg.size, fun b q v _ hv => ?_⟩
  exact cell_kept hv hg (fun r e => by cases e; exact ⟨_, h, hc⟩)

theorem cell_pair1 (w : World) (u v : Value) (t : TypeId) : (w.alloc (.cells #[u, v] t)).cell? ⟨w.heap.size, 1, none⟩ = some v := by
  have h := World.alloc_heap_new w (.cells #[u, v] t)
  simp only [World.cell?, h]; rfl

set_option maxRecDepth 100000 in
set_option maxHeartbeats 2000000 in
theorem each1_in {p : Int → Prop} (n : Nat) (hn : 1 ≤ n) (lr A B g off cap : Nat) (rs : List Rg) (hrs : ∀ i, i < rs.length → -1000000 ≤ lo rs i ∧ hi rs i ≤ 1000000 ∧ lo rs i ≤ hi rs i) (hlen : rs.length ≤ 4096) (hp : ∀ v ∈ vals rs, p v)
    (_hBA : B ≠ A) (hgA : g ≠ A) (J Jx : List { x : Int // p x } → World → Prop)
    (hY : ∀ pre x W, J pre W → pre.length < 10000000 → YieldAt Fence.wide (n - 1) Tryz.prog lr #[.int .i64 x.1] W fun e W' =>
      (e = .returned (.bool true) ∧ J (pre ++ [x]) W' ∧ Kp A W W') ∨ (e = .returned (.bool false) ∧ Jx (pre ++ [x]) W'))
    (W : World) (hJ : AbidesFrom W.heap.size J) (hA : A < W.heap.size) (hB : W.cell? ⟨B, 0, none⟩ = some (.slice (some ⟨g, off, none⟩) rs.length cap))
    (hc : ∀ i, i < rs.length → W.cell? ⟨g, off + i * 2, none⟩ = some (.int .i64 (lo rs i)) ∧ W.cell? ⟨g, off + i * 2 + 1, none⟩ = some (.int .i64 (hi rs i))) (hsum : (vals rs).length < 10000000) (h0 : J [] W) :
    CallsIn Fence.wide n Tryz.prog 65 #[.func (.yield lr) #[] #[], .pointer (some ⟨B, 0, none⟩)] W fun e W' => (∃ v, e = .returned v) ∧
      ((∃ ys, ys.map (·.1) = vals rs ∧ J ys W') ∨ (∃ pre, (∃ r, pre.map (·.1) ++ r = vals rs) ∧ Jx pre W')) := by
  obtain ⟨m, hm⟩ : ∃ m, rs.length = m := ⟨_, rfl⟩
  have HM : Hid (rs.length = m) := hm
  rw [hm] at hrs hlen hB hc
  have HRS : Hid (∀ i, i < m → -1000000 ≤ lo rs i ∧ hi rs i ≤ 1000000 ∧ lo rs i ≤ hi rs i) := hrs
  have HC : Hid (∀ i, i < m → W.cell? ⟨g, off + i * 2, none⟩ = some (.int .i64 (lo rs i)) ∧ W.cell? ⟨g, off + i * 2 + 1, none⟩ = some (.int .i64 (hi rs i))) := hc
  clear hm hc hrs
  refine callsIn_of_wp Tryz.func65 rfl trivial ?_ rfl
  simp only [Tryz.ntmps65, List.size_toArray, List.length_cons, List.length_nil, Nat.reduceAdd, Nat.reduceSub, Array.replicate_succ, Array.replicate_zero, List.push_toArray, List.append_toArray, List.nil_append, List.cons_append]
  gi_wp2
  gi_loopw [8] (fun i wr => ∃ k : Nat, k ≤ m ∧ i = .int .i64 k ∧ (∃ pre, pre.map (·.1) = vals (rs.take k) ∧ J pre wr) ∧ Kp A W wr)
    (fun i _ => m - (intOf i).toNat)
  case atStart => exact ⟨0, Nat.zero_le _, rfl, ⟨[], by simp [vals], h0⟩, Kp.refl _ _⟩
  case round =>
    obtain ⟨k, hk, rfl, ⟨pre, hpre, hJp⟩, hKp⟩ := hrel
    by_cases hlt : k < m
    · obtain ⟨c1, c2⟩ := HC.out k hlt
      obtain ⟨r1, r2, r3⟩ := HRS.out k hlt
      have d1 := hKp.2 _ _ _ hgA c1
      have d2 := hKp.2 _ _ _ hgA c2
      have hvt := vals_take rs k (by rw [HM.out]; exact hlt)
      obtain ⟨x, hx⟩ : ∃ x, lo rs k = x := ⟨_, rfl⟩
      obtain ⟨y, hy⟩ : ∃ y, hi rs k = y := ⟨_, rfl⟩
      have hpx : ∀ v, x ≤ v → v ≤ y → p v := fun v h1 h2 => hp v ((mem_vals rs v).2 ⟨k, by rw [HM.out]; exact hlt, by rw [hx]; exact h1, by rw [hy]; exact h2⟩)
      have HPX : Hid (∀ v, x ≤ v → v ≤ y → p v) := hpx
      rw [hx] at d1 r1 r3 hvt; rw [hy] at d2 r2 r3 hvt
      have HVT : Hid (vals (rs.take (k + 1)) = vals (rs.take k) ++ span x y) := hvt
      have HPRE : Hid (pre.map (·.1) = vals (rs.take k)) := hpre
      have hAw : A < wr.heap.size := Nat.lt_of_lt_of_le hA hKp.1
      have hK2 : Kp A W (wr.alloc (Obj.cells #[Value.int IntKind.i64 x, Value.int IntKind.i64 y] 55)) := hKp.trans (Kp.alloc _ _ _)
      have hJ2 : J pre (wr.alloc (Obj.cells #[Value.int IntKind.i64 x, Value.int IntKind.i64 y] 55)) := hJ _ _ _ none hJp (World.grownBy_alloc _ _ _) (fun r e => by cases e)
      clear hx hy c1 c2 hvt hpre hpx
      obtain ⟨R, hR⟩ : ∃ R, wr.heap.size = R := ⟨_, rfl⟩
      have hRA : R ≠ A := by omega
      gi_wp2
      gi_loopw [5] (fun v w2 => ∃ j : Nat, v = .int .i64 (x + (j : Int)) ∧ x + (j : Int) ≤ y + 1 ∧ (∃ pr, pr.map (·.1) = vals (rs.take k) ++ upto x j ∧ J pr w2) ∧ Kp A W w2 ∧ w2.cell? ⟨R, 1, none⟩ = some (.int .i64 y))
        (fun v _ => (y + 1 - intOf v).toNat)
      case atStart => exact ⟨0, by simp, by omega, ⟨pre, by rw [HPRE.out]; simp [upto], hJ2⟩, hK2, by rw [← hR]; exact cell_pair1 _ _ _ _⟩
      case round =>
        obtain ⟨j, rfl, hj, ⟨pr, hpr, hJr⟩, hKr, hcr⟩ := hrel
        have HPR : Hid (pr.map (·.1) = vals (rs.take k) ++ upto x j) := hpr
        clear hpr
        by_cases hle : x + (j : Int) ≤ y
        · have hlen2 : pr.length < 10000000 := by
            have e1 : pr.length = (vals (rs.take k) ++ upto x j).length := by rw [← HPR.out, List.length_map]
            have e2 := vals_take_le rs (k + 1)
            rw [HVT.out, List.length_append, span_length] at e2
            rw [List.length_append] at e1
            have e3 : (upto x j).length = j := by simp [upto]
            omega
          obtain ⟨fn, tmps, assign, body, hy, hRd⟩ := hY pr ⟨x + (j : Int), HPX.out _ (by omega) hle⟩ wr hJr hlen2
          dsimp only at hy
          have HPR2 : Hid ((pr ++ [(⟨x + (j : Int), HPX.out _ (by omega) hle⟩ : { x : Int // p x })]).map (fun q => q.1) = vals (rs.take k) ++ upto x (j + 1)) := by
            unfold Hid; rw [List.map_append, HPR.out, upto_succ, List.append_assoc]; rfl
          clear hlen2
          gi_wp2
          refine hRd.mono ?_
          rintro e W3 (⟨rfl, hJ3, hk3⟩ | ⟨rfl, hJx3⟩)
          · gi_wp2
            go_roundw
            case rel => exact ⟨j + 1, by first | rfl | (congr 1; omega), by omega, ⟨_, HPR2.out, hJ3⟩, hKr.trans hk3, hk3.2 _ _ _ hRA hcr⟩
            case measure => simp [intOf]; omega
          · gi_wp2
            refine bodyPost_ret (results_none rfl _ _ _) rfl ?_
            refine ⟨⟨_, rfl⟩, .inr ⟨_, ?_, hJx3⟩⟩
            rw [HPR2.out]
            obtain ⟨r1, e1⟩ := span_upto x y (j + 1) (by omega)
            obtain ⟨r2, e2⟩ := vals_prefix rs (k + 1)
            exact ⟨r1 ++ r2, by rw [← e2, HVT.out, ← e1]; simp⟩
        · gi_wp2
          refine ⟨⟨k + 1, by omega, by go_num, ⟨pr, by rw [HPR.out, HVT.out, upto_all x y j (by omega)], hJr⟩, hKr⟩, ?_⟩
          simp [intOf]; omega
    · obtain rfl : k = m := by omega
      gi_wp2
      go_end0
      exact ⟨⟨_, rfl⟩, .inl ⟨pre, by rw [hpre, List.take_of_length_le (by rw [HM.out]; exact Nat.le_refl _)], hJp⟩⟩
end Go.Proofs.YtkloadlodofipaaGreatDoor
