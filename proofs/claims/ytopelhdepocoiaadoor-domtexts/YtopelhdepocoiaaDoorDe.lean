/-
  What is proved here: the program's Next and Has of any ranges.
-/
import Derived.Test.YtopelhdepocoiaaDoorDd
import Derived.Test.YtopelhdepocoiaaDoorEf
import Derived.WalkMore
namespace Go.Proofs.YtopelhdepocoiaaDoor
open Go.RowKit Go.Shelf
set_option linter.unusedVariables false

set_option maxHeartbeats 2000000 in
theorem domnext_yes (s : Value) (l : List Rg) (v : Int) (w : World) (h : Sr w s l) (hf : FitsR l) (hR : Right l) :
    Calls Tryd.prog 22 #[s, .int .i64 v] w fun e w' => e = .returned (.tuple #[.int .i64 (nextR l v).1, .bool (nextR l v).2]) ∧ Below w.heap.size w w' := by
  have hc := known_yes s l w h hf hR
  have hlen := hR.1
  have hok := hR.2
  have HOK : Hid _ := hok
  obtain ⟨a, cap, rfl, hcell⟩ := h
  obtain ⟨n, hn⟩ : ∃ n, l.length = n := ⟨_, rfl⟩
  have HN : Hid (l.length = n) := hn
  have HC : Hid _ := hcell
  rw [hn] at hc hlen ⊢
  clear hn hcell hR hok
  go_enter Tryd.func22, Tryd.ntmps22
  go_wp2
  go_step3
  go_wp2
  go_step3
  go_wp2_with (go_at_call 11; refine hc.mono ?_; rintro e w1 ⟨rfl, hb1⟩)
  go_loopw [6, 7, 13] (fun nx fo i wr => ∃ (k : Nat), k ≤ n ∧ i = .int .i64 k ∧ nx = .int .i64 0 ∧ fo = .bool false ∧ (∀ j, j < k → hi l j < v) ∧ Below w.heap.size w wr) (fun _ _ i _ => n - (intOf i).toNat)
  case atStart => exact ⟨0, by omega, rfl, rfl, rfl, fun j hj => by omega, hb1⟩
  case round =>
    obtain ⟨k, hk, rfl, rfl, rfl, hall, hB⟩ := hrel
    by_cases hlt : k < n
    · have hkl : k < l.length := by rw [HN.out]; exact hlt
      obtain ⟨b, off, rfl, hb, hcells⟩ := HC.out (by omega)
      obtain ⟨c1, c2⟩ := hcells k hkl
      have d1 := (hB.cell (p := ⟨b, off + k * 2, none⟩) hb).trans c1
      have d2 := (hB.cell (p := ⟨b, off + k * 2 + 1, none⟩) hb).trans c2
      have hat := next_at l v k hkl hall
      obtain ⟨x, hx⟩ : ∃ x, lo l k = x := ⟨_, rfl⟩
      obtain ⟨y, hy⟩ : ∃ y, hi l k = y := ⟨_, rfl⟩
      rw [hx, hy] at hat
      rw [hx] at d1; rw [hy] at d2
      have hxy : x ≤ y := by have := (HOK.out k hkl).1; rw [hx, hy] at this; exact this
      have hlt' : (k : Int) < (n : Int) := by omega
      have hbw : b < wr.heap.size := Nat.lt_of_lt_of_le hb hB.size
      have hb2 : Below w.heap.size w (wr.alloc (Obj.cells #[Value.int IntKind.i64 x, Value.int IntKind.i64 y] 34)) := hB.alloc hB.size _
      have HB2 : Hid (Below w.heap.size w (wr.alloc (Obj.cells #[Value.int IntKind.i64 x, Value.int IntKind.i64 y] 34))) := hb2
      have HAT : Hid (v ≤ y → nextR l v = (if v ≤ x then x else v, true)) := hat
      have HALL : Hid (∀ j, j < k → hi l j < v) := hall
      have HY : Hid (hi l k = y) := hy
      clear c1 c2 hcells hx hat hb2 hall hy
      by_cases h1 : v ≤ x
      · by_cases h2 : v ≤ y
        · have e1 : nextR l v = (x, true) := by rw [HAT.out h2, if_pos h1]
          have E1 : Hid (nextR l v = (x, true)) := e1
          clear e1
          go_wp2
          (try rw [Exit.noGoto_ret])
          go_ret2
          exact ⟨by rw [E1.out]; rfl, HB2.out⟩
        · exact absurd (Int.le_trans h1 hxy) h2
      · by_cases h2 : v ≤ y
        · have e1 : nextR l v = (v, true) := by rw [HAT.out h2, if_neg h1]
          have E1 : Hid (nextR l v = (v, true)) := e1
          clear e1
          go_wp2
          (try rw [Exit.noGoto_ret])
          go_ret2
          exact ⟨by rw [E1.out]; rfl, HB2.out⟩
        · go_wp2
          go_roundw
          case rel => exact ⟨k + 1, by omega, by go_num, rfl, rfl, fun j hj => if h : j = k then by subst h; rw [HY.out]; omega else HALL.out j (by omega), HB2.out⟩
          case measure => simp [intOf]; omega
    · have hkn : k = n := by omega
      subst hkn
      have e1 := next_none l v (fun i hi' => hall i (by rw [HN.out] at hi'; exact hi'))
      go_wp2
      (try rw [Exit.noGoto_ret])
      go_ret2
      exact ⟨by rw [e1]; rfl, hB⟩

theorem nextR_nil (v : Int) : nextR [] v = (0, false) := rfl
set_option maxHeartbeats 1000000 in
theorem domnext_no (s : Value) (l : List Rg) (v : Int) (w : World) (h : Sr w s l) (hf : FitsR l) (hR : ¬ Right l) :
    Calls Tryd.prog 22 #[s, .int .i64 v] w fun e w' => e = .returned (.tuple #[.int .i64 0, .bool false]) ∧ Below w.heap.size w w' := by
  have hc := known_no s l w h hf hR
  obtain ⟨a, cap, rfl, hcell⟩ := h
  clear hcell hR hf
  go_enter Tryd.func22, Tryd.ntmps22
  go_wp2
  go_step3
  go_wp2
  go_step3
  go_wp2_with (go_at_call 11; refine hc.mono ?_; rintro e w1 ⟨rfl, hb1⟩)
  go_loop [6, 7, 13] (fun nx fo i => i = .int .i64 0 ∧ nx = .int .i64 0 ∧ fo = .bool false) (fun _ _ _ => 0)
  case atStart => exact ⟨rfl, rfl, rfl⟩
  case round =>
    obtain ⟨rfl, rfl, rfl⟩ := hrel
    go_wp2
    (try rw [Exit.noGoto_ret])
    go_ret2
    exact ⟨rfl, hb1⟩
theorem domnext_any (s : Value) (l : List Rg) (v : Int) (w : World) (h : Sr w s l) (hf : FitsR l) :
    Calls Tryd.prog 22 #[s, .int .i64 v] w fun e w' => e = .returned (.tuple #[.int .i64 (nextR (tk l) v).1, .bool (nextR (tk l) v).2]) ∧ Below w.heap.size w w' := by
  by_cases hR : Right l
  · rw [tk_yes hR]; exact domnext_yes s l v w h hf hR
  · rw [tk_no hR]; exact domnext_no s l v w h hf hR
theorem next_has (l : List Rg) (h : Right l) (v : Int) : (nextR l v).2 = true ∧ (nextR l v).1 = v ↔ v ∈ vals l := by
  have key : ∀ l : List Rg, (∀ r ∈ l, r.1 ≤ r.2) → l.Pairwise (fun r s => r.2 + 1 < s.1) → ((nextR l v).2 = true ∧ (nextR l v).1 = v ↔ v ∈ vals l) := by
    intro l
    induction l with
    | nil => intro _ _; simp [nextR, vals]
    | cons r t ih =>
      intro h1 h2
      have hp := List.pairwise_cons.1 h2
      have hr := h1 r (by simp)
      rw [vals_cons]
      have ht := ih (fun q hq => h1 q (by simp [hq])) hp.2
      have hgt : ∀ v ∈ vals t, r.2 + 1 < v := fun v hv => by
        obtain ⟨q, hq, q1, q2⟩ := (mem_vals' t v).1 hv
        have := hp.1 q hq; omega
      unfold nextR
      by_cases hv : v ≤ r.2
      · rw [if_pos hv]
        dsimp only
        constructor
        · rintro ⟨_, h4⟩
          split at h4
          · exact .inl ⟨by omega, hv⟩
          · exact .inl ⟨by omega, hv⟩
        · rintro (h4 | h4)
          · refine ⟨rfl, ?_⟩
            split <;> omega
          · have := hgt v h4; omega
      · rw [if_neg hv, ht]
        constructor
        · intro h4; exact .inr h4
        · rintro (h4 | h4)
          · omega
          · exact h4
  have hO := right_ord h
  exact key l hO.1.1 hO.1.2
/-- Is v a value of the ranges as they are taken? -/
def hasV (l : List Rg) (v : Int) : Bool := decide (v ∈ vals (tk l))
end Go.Proofs.YtopelhdepocoiaaDoor

