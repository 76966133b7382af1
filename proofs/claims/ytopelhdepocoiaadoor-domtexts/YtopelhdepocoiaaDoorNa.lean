/-
  What is proved here: what slices.SortFunc makes of ranges, by their first ends.
-/
import Derived.Test.YtopelhdepocoiaaDoorSh
import Derived.Test.YtopelhdepocoiaaDoorEf
namespace Go.Proofs.YtopelhdepocoiaaDoor
open Go.RowKit Go.Shelf Go.Sort
set_option linter.unusedVariables false

/-- A range's two cells. -/
def encIv (x : Rg) : List Value := [.int .i64 x.1, .int .i64 x.2]
def cfR (x y : Rg) : Int := Lib.compareInt x.1 y.1

set_option maxHeartbeats 1000000 in
/-- What Norm hands to the sort: it tells which of two ranges begins first. -/
theorem cmp53 (x y : Rg) (W : World) : Calls Tryd.prog 43 #[.agg #[.int .i64 x.1, .int .i64 x.2], .agg #[.int .i64 y.1, .int .i64 y.2]] W fun e w' => e = .returned (.int .i64 (cfR x y)) ∧ ∃ q os', w' = grow (W.drewN q) os' := by
  have hcon := fun W' => AnyG.cmp_Compare_int Tryd.laysCmp x.1 y.1 W'
  change ∀ W', Calls Tryd.prog 44 _ _ _ at hcon
  unfold cfR
  generalize Lib.compareInt x.1 y.1 = r at hcon ⊢
  go_enter Tryd.func43, Tryd.ntmps43
  go_wp2_with (go_at_call 44; refine (hcon _).mono ?_; rintro e w' ⟨rfl, rfl⟩)
  go_ret
  exact ⟨rfl, 0, _, by rw [alloc_eq_grow, alloc_eq_grow, grow_grow]; rfl⟩
theorem cmpLays53 (blk off size : Nat) (w : World) : CmpLays Tryd.prog 43 #[] encIv 2 cfR blk off size w := fun _ _ _ _ x y => cmp53 x y _

theorem lt_is (x y : Rg) : ltOf cfR x y = decide (x.1 < y.1) := by
  unfold ltOf cfR Lib.compareInt
  by_cases h : x.1 < y.1
  · simp [h]
  · rw [if_neg h]
    by_cases h2 : x.1 > y.1
    · rw [if_pos h2]; simp; omega
    · rw [if_neg h2]; simp; omega
theorem swoR : SWO (ltOf cfR) where
  irrefl := fun x => by rw [lt_is]; simp
  trans := fun x y z h1 h2 => by rw [lt_is] at *; simp at *; omega
  ntrans := fun x y z h1 h2 => by rw [lt_is] at *; simp at *; omega

theorem sort_some (blk cap : Nat) (d : Array Rg) (w : World) (hH : HoldsK encIv 2 w blk 0 d) (hblk : blk < w.heap.size) (hsz : d.size < 4611686018427387904) :
    Calls Tryd.prog 42 #[.slice (some ⟨blk, 0, none⟩) d.size cap, .func (.func 43) #[] #[]] w fun e w' => e = .returned (.tuple #[]) ∧ ∃ d' n os, PermIn 0 d.size d d' ∧ SortedIn (ltOf cfR) 0 d.size d' ∧ w' = sortWorldK encIv 2 w blk 0 n d' os := by
  have eg : ∀ args w, (callFunc 43 args).run Tryd.prog w = .ok (.enter 43 args) w := enters_of Tryd.func43 (by kernel_rfl) rfl
  exact AnyQ.slices_SortFunc Tryd.laysSort 2 Tryd.isAgg34 Tryd.sizeOf34 encIv (fun _ => rfl) (fun x v hv => by simp [encIv] at hv; rcases hv with rfl | rfl <;> rfl) cfR swoR 43 #[] blk 0 cap d w eg (cmpLays53 blk 0 d.size w) hH hblk hsz

theorem sortW_below {B : Nat} {w : World} {blk n : Nat} {d : Array Rg} {os : Array Obj} (h : B ≤ blk) (hblk : blk < w.heap.size) : Below B w (sortWorldK encIv 2 w blk 0 n d os) := by
  refine ⟨rfl, rfl, rfl, size_sortWorldK_c encIv 2 w blk 0 n d os, fun k hk => ?_⟩
  show ((w.heap.modify blk _) ++ os)[k]? = w.heap[k]?
  rw [Array.getElem?_append_left (by rw [Array.size_modify]; omega), Array.getElem?_modify, if_neg (by omega)]
theorem holds_own {W : World} {base blk cap : Nat} {l : List Rg} (h : W.ownsRow base 34 2 (.slice (some ⟨blk, 0, none⟩) l.length cap) l.length (flat l)) (h0 : 0 < l.length) : HoldsK encIv 2 W blk 0 l.toArray := by
  obtain ⟨g, c, e, _, hlt, hcell⟩ := own_some h h0
  injection e with e1 _ _; injection e1 with e1; injection e1 with e1; subst e1
  intro j hj
  rw [size_flatK] at hj
  have hj' : j < l.length * 2 := by simpa using hj
  refine ⟨?_, own_frozen h _⟩
  rw [Nat.zero_add, get_flatK encIv 2 _ j hj]
  have hk : j / 2 < l.length := by omega
  have e0 : l.toArray[j / 2]! = (lo l (j / 2), hi l (j / 2)) := by
    rw [getElem!_pos _ _ (by simpa using hk), lo_get l _ hk, hi_get l _ hk]; simp
  rw [e0]
  obtain ⟨d1, d2⟩ := flat_even l (j / 2) hk
  rcases Nat.mod_two_eq_zero_or_one j with hm | hm
  · rw [hm]
    exact hcell _ _ (by rw [show j / 2 * 2 = j by omega] at d1; exact d1)
  · rw [hm]
    exact hcell _ _ (by rw [show j / 2 * 2 + 1 = j by omega] at d2; exact d2)
theorem sr_holds {W : World} {blk cap : Nat} {d : Array Rg} (h : HoldsK encIv 2 W blk 0 d) (hblk : blk < W.heap.size) : Sr W (.slice (some ⟨blk, 0, none⟩) d.size cap) d.toList := by
  refine ⟨_, cap, by simp, fun _ => ⟨blk, 0, rfl, hblk, fun i hi' => ?_⟩⟩
  have hi2 : i < d.size := by simpa using hi'
  have e0 : d[i]! = (lo d.toList i, hi d.toList i) := by
    rw [getElem!_pos d i hi2, lo_get _ _ hi', hi_get _ _ hi']; simp
  have h1 := h.cell (c := 0) hi2 (by decide)
  have h2 := h.cell (c := 1) hi2 (by decide)
  rw [e0] at h1 h2
  exact ⟨by simpa [encIv] using h1.1, by simpa [encIv, Nat.add_assoc] using h2.1⟩
theorem perm_list {d d' : Array Rg} (h : PermIn 0 d.size d d') : d'.size = d.size ∧ d'.toList.Perm d.toList := by
  obtain ⟨h1, _, h3⟩ := h
  refine ⟨h1, ?_⟩
  have e1 : d'.extract 0 d.size = d' := Array.extract_eq_self_of_le (by omega)
  have e2 : d.extract 0 d.size = d := Array.extract_eq_self_of_le (by omega)
  rw [e1, e2] at h3
  exact h3
theorem sorted_list {d' : Array Rg} {n : Nat} (hn : d'.size = n) (h : SortedIn (ltOf cfR) 0 n d') : d'.toList.Pairwise (fun r s => r.1 ≤ s.1) := by
  rw [List.pairwise_iff_getElem]
  intro i j hi hj hij
  have h1 := h i j (Nat.zero_le _) hij (by rw [← hn]; simpa using hj)
  rw [lt_is, getElem!_pos _ _ (by simpa using hj), getElem!_pos _ _ (by simpa using hi)] at h1
  simp at h1
  simpa using h1
end Go.Proofs.YtopelhdepocoiaaDoor

