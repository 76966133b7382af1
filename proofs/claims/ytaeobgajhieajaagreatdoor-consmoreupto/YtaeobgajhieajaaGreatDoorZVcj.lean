/-
  What is proved here: what Cut of the reference returns of right ranges.
  What is proved here: what the reference's Alike tells of slices with the same ranges; what its Lent makes.
  What is proved here: joined of the reference hands back ranges that rise and do not touch as they are.
  What is proved here: what Both of the reference returns of right ranges.
  What is proved here: what dom.overlaps, dom.Cut and dom.Both return of any ranges.
  What is proved here: what slices.SortFunc makes of ranges, by their first ends.
-/
import Derived.Test.YtaeobgajhieajaaGreatDoorZEcj
import Derived.Deep.AppendLies
import Derived.Deep.Cut
import Derived.Deep.RegionHeldLaw
import Derived.Test.YtaeobgajhieajaaGreatDoorZEe
import Derived.Test.YtaeobgajhieajaaGreatDoorZShj
namespace Go.Proofs.YtaeobgajhieajaaGreatDoor.Dm
open Go.RowKit Go.Shelf
set_option linter.unusedVariables false

theorem cutL_take (l : List Rg) (a b : Int) (k : Nat) (hk : k < l.length) : cutL (l.take (k + 1)) a b = cutL (l.take k) a b ++ (cut1 a b (lo l k, hi l k)).toList := by
  unfold cutL
  rw [List.take_add_one, List.getElem?_eq_getElem hk, List.filterMap_append, lo_get l k hk, hi_get l k hk]
  cases h : cut1 a b l[k] <;> simp [h]
theorem cutL_len (l : List Rg) (a b : Int) (k : Nat) : (cutL (l.take k) a b).length ≤ k := by
  unfold cutL
  have h1 := List.length_filterMap_le (cut1 a b) (l.take k)
  have h2 := List.length_take_le k l
  omega

end Go.Proofs.YtaeobgajhieajaaGreatDoor.Dm


namespace Go.Proofs.YtaeobgajhieajaaGreatDoor.Dm
open Go.RowKit Go.Shelf

theorem Sr.drawn {W : World} {s : Value} {l : List Rg} (h : Sr W s l) (n : Nat) : Sr (W.drewN n) s l := h
theorem own_capsR {W : World} {base g n cap : Nat} {xs : List Value} (h : W.ownsRow base 161 2 (.slice (some ⟨g, 0, none⟩) n cap) n xs) : n ≤ cap ∧ cap ≤ 9223372036854775807 := by
  rcases h.2 with ⟨h1, _⟩ | ⟨g', cap', cur, e, _, _, hc, hm, _⟩
  · cases h1
  · injection e with _ _ e3; subst e3; unfold maxLen at hm; exact ⟨hc, by omega⟩
end Go.Proofs.YtaeobgajhieajaaGreatDoor.Dm


namespace Go.Proofs.YtaeobgajhieajaaGreatDoor.Dm
open Go.RowKit Go.Shelf
set_option linter.unusedVariables false

theorem run_app_nil (w : World) (ty : TypeId) (base : Option Addr) (n c : Nat) (hle : n ≤ c) : (Builtin.append_ #[148, 148] ty #[.slice base n c, .slice none 0 0]).run Tryz.prog w = .ok (.slice base n c) w := by
  obtain ⟨i0, hi0, hz0, hz1, hz2⟩ := info_parts Tryz.info161
  have hf : (Builtin.firstCells i0.size 0 (.slice none 0 0)).run Tryz.prog w = .ok #[] w := by simp [Builtin.firstCells]
  cases base <;> simp [Builtin.append_, run_underlying Tryz.underlying148, sizeOf, typeInfo, hi0, Builtin.lenOf, hle, hf, storeCells]
theorem wp_app_nil (w : World) {o : Oper} {a : Act} {K : Act → World → Prop} {Q : Exit → Act → World → Prop} (s x : Operand) (ho : o.op = .call { callee := .builtin .append, args := #[s, x], argTypes := #[148, 148] })
    (base : Option Addr) (n c : Nat) (hle : n ≤ c) (hs : a.eval s = .slice base n c) (hx : a.eval x = .slice none 0 0) (h : K (a.put o.dst (.slice base n c)) w) : o.wp Tryz.prog a w K Q := by
  have hr := run_app_nil w o.type base n c hle
  unfold Oper.wp execOp
  simp only [ho, resolve, invoke, builtin, Sem.run_bind, Sem.run_pure, Result.andThen_ok, List.map_toArray, List.map_cons, List.map_nil, hs, hx, hr]
  exact h
theorem wpList_app_nil (w : World) {ops : Array Oper} {rest : List Oper} {o : Oper} {a : Act} {Q : Exit → Act → World → Prop} (hgd : o.guard = none) (s x : Operand) (ho : o.op = .call { callee := .builtin .append, args := #[s, x], argTypes := #[148, 148] })
    (base : Option Addr) (n c : Nat) (hle : n ≤ c) (hs : a.eval s = .slice base n c) (hx : a.eval x = .slice none 0 0) (h : wpList Tryz.prog ops Q rest (a.put o.dst (.slice base n c)) w) : wpList Tryz.prog ops Q (o :: rest) a w :=
  wpList_plain hgd fun _ hK => wp_app_nil w s x ho base n c hle hs hx (hK _ _ h)
theorem step_app_nil (w : World) {ops : Array Oper} {o : Oper} {a : Act} {K : Act → World → Prop} {Q : Exit → Act → World → Prop} {E : Prop} (hgd : o.guard = none) (s x : Operand) (ho : o.op = .call { callee := .builtin .append, args := #[s, x], argTypes := #[148, 148] })
    (base : Option Addr) (n c : Nat) (hle : n ≤ c) (hs : a.eval s = .slice base n c) (hx : a.eval x = .slice none 0 0) (h : K (a.put o.dst (.slice base n c)) w) : if Region.wanted o (yielded ops a.tmps) = true then Oper.wp Tryz.prog o a w K Q else E := by
  have hw : Region.wanted o (yielded ops a.tmps) = true := by simp [Region.wanted, hgd]
  rw [if_pos hw]
  exact wp_app_nil w s x ho base n c hle hs hx h

theorem flat_one {l : List Rg} : ∀ u ∈ flat l, u.oneCell' = true := by
  intro u hu
  unfold flat at hu
  rw [List.mem_flatMap] at hu
  obtain ⟨r, _, hu⟩ := hu
  simp at hu
  rcases hu with rfl | rfl <;> rfl
theorem take_two (l : List Rg) (k : Nat) (hk : k < l.length) : l.take (k + 1) = l.take k ++ [(lo l k, hi l k)] := by
  rw [List.take_add_one, List.getElem?_eq_getElem hk, lo_get l k hk, hi_get l k hk]; rfl
theorem ord_step {l : List Rg} (h : Ord l) (k : Nat) (hk : k < l.length) (h0 : 0 < k) : hi l (k - 1) + 1 < lo l k ∧ lo l (k - 1) ≤ hi l (k - 1) := by
  have h1 := (List.pairwise_iff_getElem.1 h.2) (k - 1) k (by omega) hk (by omega)
  have h2 := h.1 l[k - 1] (List.getElem_mem _)
  rw [lo_get l k hk, hi_get l (k - 1) (by omega), lo_get l (k - 1) (by omega)]
  exact ⟨h1, h2⟩
theorem flat_last (l : List Rg) (k : Nat) (hk : k < l.length) (h0 : 0 < k) : (flat (l.take k))[(k - 1) * 2]? = some (.int .i64 (lo l (k - 1))) ∧ (flat (l.take k))[(k - 1) * 2 + 1]? = some (.int .i64 (hi l (k - 1))) := by
  have h1 := flat_even (l.take k) (k - 1) (by rw [List.length_take]; omega)
  have e1 : lo (l.take k) (k - 1) = lo l (k - 1) := by unfold lo; rw [List.getElem?_take_of_lt (by omega)]
  have e2 : hi (l.take k) (k - 1) = hi l (k - 1) := by unfold hi; rw [List.getElem?_take_of_lt (by omega)]
  rw [e1, e2] at h1
  exact h1

end Go.Proofs.YtaeobgajhieajaaGreatDoor.Dm


namespace Go.Proofs.YtaeobgajhieajaaGreatDoor.Dm
open Go.RowKit Go.Shelf
set_option linter.unusedVariables false

theorem own_srl {W : World} {base : Nat} {s : Value} {l : List Rg} (h : W.ownsRow base 161 2 s l.length (flat l)) : Sr W s l := by
  rcases Nat.eq_zero_or_pos l.length with h0 | h0
  · rcases h.2 with ⟨e1, e2⟩ | ⟨g', cap', cur, e1, _⟩
    · exact ⟨none, 0, by rw [e1, h0], fun h1 => by omega⟩
    · exact ⟨_, _, e1, fun h1 => by omega⟩
  · obtain ⟨g, c, rfl, _, h2, h3⟩ := own_some h h0
    refine ⟨_, c, rfl, fun _ => ⟨g, 0, rfl, h2, fun i hi => ?_⟩⟩
    obtain ⟨e1, e2⟩ := flat_even l i hi
    rw [Nat.zero_add]
    exact ⟨h3 _ _ e1, h3 _ _ e2⟩
theorem pieces_take (c a : List Rg) (k : Nat) (hk : k < c.length) : pieces (c.take (k + 1)) a = pieces (c.take k) a ++ cutL a (lo c k) (hi c k) := by
  unfold pieces
  rw [take_two c k hk, List.flatMap_append]
  simp
theorem flat_app (a b : List Rg) : flat (a ++ b) = flat a ++ flat b := by unfold flat; rw [List.flatMap_append]
theorem pieces_len_take (c a : List Rg) (k : Nat) : (pieces (c.take k) a).length ≤ (pieces c a).length := by
  have : pieces c a = pieces (c.take k) a ++ pieces (c.drop k) a := by unfold pieces; rw [← List.flatMap_append, List.take_append_drop]
  rw [this, List.length_append]; omega

end Go.Proofs.YtaeobgajhieajaaGreatDoor.Dm


namespace Go.Proofs.YtaeobgajhieajaaGreatDoor.Dm
open Go.RowKit Go.Shelf
set_option linter.unusedVariables false

/-- Ranges as they are taken: none, if they are not right. -/
def tk (l : List Rg) : List Rg := if Right l then l else []
theorem right_nil : Right [] := ⟨by simp, fun i hi => by simp at hi⟩
theorem tk_right (l : List Rg) : Right (tk l) := by unfold tk; split; assumption; exact right_nil
theorem tk_yes {l : List Rg} (h : Right l) : tk l = l := if_pos h
theorem tk_no {l : List Rg} (h : ¬ Right l) : tk l = [] := if_neg h
theorem Sr.nil (W : World) (cap : Nat) (a : Option Addr) : Sr W (.slice a 0 cap) [] := ⟨a, cap, rfl, fun h => absurd h (by simp)⟩

theorem known_tk (s : Value) (l : List Rg) (w : World) (h : Sr w s l) (hf : FitsR l) :
    Calls Tryz.prog 137 #[s] w fun e w' => ∃ a n c, e = .returned (.slice a n c) ∧ Sr w (.slice a n c) (tk l) ∧ n = (tk l).length ∧ Below w.heap.size w w' := by
  by_cases hR : Right l
  · refine (known_yes s l w h hf hR).mono fun e w' ⟨he, hb⟩ => ?_
    have h0 := h
    obtain ⟨a, cap, rfl, _⟩ := h
    exact ⟨a, _, cap, he, by rw [tk_yes hR]; exact h0, by rw [tk_yes hR], hb⟩
  · refine (known_no s l w h hf hR).mono fun e w' ⟨he, hb⟩ => ?_
    exact ⟨none, 0, 0, he, by rw [tk_no hR]; exact Sr.nil _ _ _, by rw [tk_no hR]; rfl, hb⟩

theorem Lists.mk {W W1 : World} {B : Nat} {s : Value} {l : List Rg} (h : Sr W s l) (hb : Below W.heap.size W W1) (hB : Boxed W1 B 148 s) : Lists W1.heap.size W1 B l := by
  obtain ⟨a, cap, rfl, hc⟩ := h
  refine ⟨_, hB.lt, hB.cell, a, cap, rfl, fun h0 => ?_⟩
  obtain ⟨b, off, e, hlt, hcell⟩ := hc h0
  exact ⟨b, off, e, Nat.lt_of_lt_of_le hlt hb.size, fun i hi => ⟨(hb.cell (p := ⟨b, off + i * 2, none⟩) hlt).trans (hcell i hi).1, (hb.cell (p := ⟨b, off + i * 2 + 1, none⟩) hlt).trans (hcell i hi).2⟩⟩
theorem JoinEnd.down {L : List Rg} {W W1 w' : World} {e : Ending} (h : JoinEnd L W1 e w') (hb : Below W.heap.size W W1) : JoinEnd L W e w' := by
  obtain ⟨s, c, he, h1, h2⟩ := h
  refine ⟨s, c, he, hb.trans (h1.mono hb.size), ?_⟩
  rcases h2 with ⟨e1, e2, e3, e4⟩ | h2
  · exact .inl ⟨e1, e2, own_base e3 hb.size, e4⟩
  · exact .inr h2

theorem right_bounds {l : List Rg} (h : Right l) : ∀ i, i < l.length → -1000000 ≤ lo l i ∧ hi l i ≤ 1000000 := fun i hi => by
  have := h.2 i hi; unfold OkAt at this; exact ⟨this.2.1, this.2.2.1⟩
theorem Sr.one (w : World) (x y : Int) : Sr (w.alloc (.cells #[.int .i64 x, .int .i64 y] 161)) (.slice (some ⟨w.heap.size, 0, none⟩) 1 1) [(x, y)] := by
  refine ⟨_, 1, rfl, fun _ => ⟨w.heap.size, 0, rfl, by simp, fun i hi => ?_⟩⟩
  obtain rfl : i = 0 := by simpa using hi
  have h := Two.new w x y
  exact ⟨h.c0, h.c1⟩
theorem cutL_le (l : List Rg) (x y : Int) : (cutL l x y).length ≤ l.length := by unfold cutL; exact List.length_filterMap_le _ _
theorem cutL_ord {l : List Rg} (h : Ord l) (x y : Int) : Ord (cutL l x y) := by
  by_cases hxy : x ≤ y
  · have e : pieces [(x, y)] l = cutL l x y := by simp [pieces]
    rw [← e]
    exact ord_pieces ⟨fun r hr => by rw [List.mem_singleton] at hr; rw [hr]; exact hxy, List.pairwise_singleton _ _⟩ h
  · rw [← ov_cut h, ov, ovF_none l x y (by omega) _ 0 0 (Nat.le_refl _)]
    exact ⟨fun r hr => (by cases hr), List.Pairwise.nil⟩

/-- What Both returns. -/
def bothR (a b : List Rg) : List Rg := if (ov (tk a) (tk b)).length ≤ 4096 then ov (tk a) (tk b) else tk a
end Go.Proofs.YtaeobgajhieajaaGreatDoor.Dm


namespace Go.Proofs.YtaeobgajhieajaaGreatDoor.Dm
open Go.RowKit Go.Shelf Go.Sort
set_option linter.unusedVariables false

/-- A range's two cells. -/
def encIv (x : Rg) : List Value := [.int .i64 x.1, .int .i64 x.2]
def cfR (x y : Rg) : Int := Lib.compareInt x.1 y.1

set_option maxHeartbeats 1000000 in
/-- What Norm hands to the sort: it tells which of two ranges begins first. -/
theorem cmp53 (x y : Rg) (W : World) : Calls Tryz.prog 151 #[.agg #[.int .i64 x.1, .int .i64 x.2], .agg #[.int .i64 y.1, .int .i64 y.2]] W fun e w' => e = .returned (.int .i64 (cfR x y)) ∧ ∃ q os', w' = grow (W.drewN q) os' := by
  have hcon := fun W' => AnyG.cmp_Compare_int Tryz.laysCmp x.1 y.1 W'
  change ∀ W', Calls Tryz.prog 152 _ _ _ at hcon
  unfold cfR
  generalize Lib.compareInt x.1 y.1 = r at hcon ⊢
  go_enter Tryz.func151, Tryz.ntmps151
  go_wp2_with (go_at_call 152; refine (hcon _).mono ?_; rintro e w' ⟨rfl, rfl⟩)
  go_ret
  exact ⟨rfl, 0, _, by rw [alloc_eq_grow, alloc_eq_grow, grow_grow]; rfl⟩
theorem cmpLays53 (blk off size : Nat) (w : World) : CmpLays Tryz.prog 151 #[] encIv 2 cfR blk off size w := fun _ _ _ _ x y => cmp53 x y _

theorem lt_is (x y : Rg) : ltOf cfR x y = decide (x.1 < y.1) := by
  unfold ltOf cfR Lib.compareInt
  by_cases h : x.1 < y.1
  · simp [h]
  · rw [if_neg h]
    by_cases h2 : x.1 > y.1
    · rw [if_pos h2]; simp; omega
    · rw [if_neg h2]; simp; omega
theorem swoR : SWO (ltOf cfR) where
  irrefl := fun x => by rw [lt_is]; simp
  trans := fun x y z h1 h2 => by rw [lt_is] at *; simp at *; omega
  ntrans := fun x y z h1 h2 => by rw [lt_is] at *; simp at *; omega

theorem sort_some (blk cap : Nat) (d : Array Rg) (w : World) (hH : HoldsK encIv 2 w blk 0 d) (hblk : blk < w.heap.size) (hsz : d.size < 4611686018427387904) :
    Calls Tryz.prog 150 #[.slice (some ⟨blk, 0, none⟩) d.size cap, .func (.func 151) #[] #[]] w fun e w' => e = .returned (.tuple #[]) ∧ ∃ d' n os, PermIn 0 d.size d d' ∧ SortedIn (ltOf cfR) 0 d.size d' ∧ w' = sortWorldK encIv 2 w blk 0 n d' os := by
  have eg : ∀ args w, (callFunc 151 args).run Tryz.prog w = .ok (.enter 151 args) w := enters_of Tryz.func151 (by kernel_rfl) rfl
  exact AnyQ.slices_SortFunc Tryz.laysSortF 2 Tryz.isAgg161 Tryz.sizeOf161 encIv (fun _ => rfl) (fun x v hv => by simp [encIv] at hv; rcases hv with rfl | rfl <;> rfl) cfR swoR 151 #[] blk 0 cap d w eg (cmpLays53 blk 0 d.size w) hH hblk hsz

theorem sortW_below {B : Nat} {w : World} {blk n : Nat} {d : Array Rg} {os : Array Obj} (h : B ≤ blk) (hblk : blk < w.heap.size) : Below B w (sortWorldK encIv 2 w blk 0 n d os) := by
  refine ⟨rfl, rfl, rfl, size_sortWorldK_c encIv 2 w blk 0 n d os, fun k hk => ?_⟩
  show ((w.heap.modify blk _) ++ os)[k]? = w.heap[k]?
  rw [Array.getElem?_append_left (by rw [Array.size_modify]; omega), Array.getElem?_modify, if_neg (by omega)]
theorem holds_own {W : World} {base blk cap : Nat} {l : List Rg} (h : W.ownsRow base 161 2 (.slice (some ⟨blk, 0, none⟩) l.length cap) l.length (flat l)) (h0 : 0 < l.length) : HoldsK encIv 2 W blk 0 l.toArray := by
  obtain ⟨g, c, e, _, hlt, hcell⟩ := own_some h h0
  injection e with e1 _ _; injection e1 with e1; injection e1 with e1; subst e1
  intro j hj
  rw [size_flatK] at hj
  have hj' : j < l.length * 2 := by simpa using hj
  refine ⟨?_, own_frozen h _⟩
  rw [Nat.zero_add, get_flatK encIv 2 _ j hj]
  have hk : j / 2 < l.length := by omega
  have e0 : l.toArray[j / 2]! = (lo l (j / 2), hi l (j / 2)) := by
    rw [getElem!_pos _ _ (by simpa using hk), lo_get l _ hk, hi_get l _ hk]; simp
  rw [e0]
  obtain ⟨d1, d2⟩ := flat_even l (j / 2) hk
  rcases Nat.mod_two_eq_zero_or_one j with hm | hm
  · rw [hm]
    exact hcell _ _ (by rw [show j / 2 * 2 = j by omega] at d1; exact d1)
  · rw [hm]
    exact hcell _ _ (by rw [show j / 2 * 2 + 1 = j by omega] at d2; exact d2)
theorem sr_holds {W : World} {blk cap : Nat} {d : Array Rg} (h : HoldsK encIv 2 W blk 0 d) (hblk : blk < W.heap.size) : Sr W (.slice (some ⟨blk, 0, none⟩) d.size cap) d.toList := by
  refine ⟨_, cap, by simp, fun _ => ⟨blk, 0, rfl, hblk, fun i hi' => ?_⟩⟩
  have hi2 : i < d.size := by simpa using hi'
  have e0 : d[i]! = (lo d.toList i, hi d.toList i) := by
    rw [getElem!_pos d i hi2, lo_get _ _ hi', hi_get _ _ hi']; simp
  have h1 := h.cell (c := 0) hi2 (by decide)
  have h2 := h.cell (c := 1) hi2 (by decide)
  rw [e0] at h1 h2
  exact ⟨by simpa [encIv] using h1.1, by simpa [encIv, Nat.add_assoc] using h2.1⟩
theorem perm_list {d d' : Array Rg} (h : PermIn 0 d.size d d') : d'.size = d.size ∧ d'.toList.Perm d.toList := by
  obtain ⟨h1, _, h3⟩ := h
  refine ⟨h1, ?_⟩
  have e1 : d'.extract 0 d.size = d' := Array.extract_eq_self_of_le (by omega)
  have e2 : d.extract 0 d.size = d := Array.extract_eq_self_of_le (by omega)
  rw [e1, e2] at h3
  exact h3
theorem sorted_list {d' : Array Rg} {n : Nat} (hn : d'.size = n) (h : SortedIn (ltOf cfR) 0 n d') : d'.toList.Pairwise (fun r s => r.1 ≤ s.1) := by
  rw [List.pairwise_iff_getElem]
  intro i j hi hj hij
  have h1 := h i j (Nat.zero_le _) hij (by rw [← hn]; simpa using hj)
  rw [lt_is, getElem!_pos _ _ (by simpa using hj), getElem!_pos _ _ (by simpa using hi)] at h1
  simp at h1
  simpa using h1
end Go.Proofs.YtaeobgajhieajaaGreatDoor.Dm

