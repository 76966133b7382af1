/-
  What is proved here: what slices.SortFunc makes of ranges, by their first ends.
  What is proved here: what dom.Norm returns of any ranges.
  What is proved here: what dom.Of and dom.Span return.
-/
import Derived.Test.YtpgecdhieakilaaGreatDoorZSh
import Derived.Test.YtpgecdhieakilaaGreatDoorZEf
namespace Go.Proofs.YtpgecdhieakilaaGreatDoor.Dm
open Go.RowKit Go.Shelf Go.Sort
set_option linter.unusedVariables false

/-- A range's two cells. -/
def encIv (x : Rg) : List Value := [.int .i64 x.1, .int .i64 x.2]
def cfR (x y : Rg) : Int := Lib.compareInt x.1 y.1

set_option maxHeartbeats 1000000 in
/-- What Norm hands to the sort: it tells which of two ranges begins first. -/
theorem cmp53 (x y : Rg) (W : World) : Calls Tryz.prog 151 #[.agg #[.int .i64 x.1, .int .i64 x.2], .agg #[.int .i64 y.1, .int .i64 y.2]] W fun e w' => e = .returned (.int .i64 (cfR x y)) ∧ ∃ q os', w' = grow (W.drewN q) os' := by
  have hcon := fun W' => AnyG.cmp_Compare_int Tryz.laysCmp x.1 y.1 W'
  change ∀ W', Calls Tryz.prog 152 _ _ _ at hcon
  unfold cfR
  generalize Lib.compareInt x.1 y.1 = r at hcon ⊢
  go_enter Tryz.func151, Tryz.ntmps151
  go_wp2_with (go_at_call 152; refine (hcon _).mono ?_; rintro e w' ⟨rfl, rfl⟩)
  go_ret
  exact ⟨rfl, 0, _, by rw [alloc_eq_grow, alloc_eq_grow, grow_grow]; rfl⟩
theorem cmpLays53 (blk off size : Nat) (w : World) : CmpLays Tryz.prog 151 #[] encIv 2 cfR blk off size w := fun _ _ _ _ x y => cmp53 x y _

theorem lt_is (x y : Rg) : ltOf cfR x y = decide (x.1 < y.1) := by
  unfold ltOf cfR Lib.compareInt
  by_cases h : x.1 < y.1
  · simp [h]
  · rw [if_neg h]
    by_cases h2 : x.1 > y.1
    · rw [if_pos h2]; simp; omega
    · rw [if_neg h2]; simp; omega
theorem swoR : SWO (ltOf cfR) where
  irrefl := fun x => by rw [lt_is]; simp
  trans := fun x y z h1 h2 => by rw [lt_is] at *; simp at *; omega
  ntrans := fun x y z h1 h2 => by rw [lt_is] at *; simp at *; omega

theorem sort_some (blk cap : Nat) (d : Array Rg) (w : World) (hH : HoldsK encIv 2 w blk 0 d) (hblk : blk < w.heap.size) (hsz : d.size < 4611686018427387904) :
    Calls Tryz.prog 150 #[.slice (some ⟨blk, 0, none⟩) d.size cap, .func (.func 151) #[] #[]] w fun e w' => e = .returned (.tuple #[]) ∧ ∃ d' n os, PermIn 0 d.size d d' ∧ SortedIn (ltOf cfR) 0 d.size d' ∧ w' = sortWorldK encIv 2 w blk 0 n d' os := by
  have eg : ∀ args w, (callFunc 151 args).run Tryz.prog w = .ok (.enter 151 args) w := enters_of Tryz.func151 (by kernel_rfl) rfl
  exact AnyQ.slices_SortFunc Tryz.laysSortF 2 Tryz.isAgg161 Tryz.sizeOf161 encIv (fun _ => rfl) (fun x v hv => by simp [encIv] at hv; rcases hv with rfl | rfl <;> rfl) cfR swoR 151 #[] blk 0 cap d w eg (cmpLays53 blk 0 d.size w) hH hblk hsz

theorem sortW_below {B : Nat} {w : World} {blk n : Nat} {d : Array Rg} {os : Array Obj} (h : B ≤ blk) (hblk : blk < w.heap.size) : Below B w (sortWorldK encIv 2 w blk 0 n d os) := by
  refine ⟨rfl, rfl, rfl, size_sortWorldK_c encIv 2 w blk 0 n d os, fun k hk => ?_⟩
  show ((w.heap.modify blk _) ++ os)[k]? = w.heap[k]?
  rw [Array.getElem?_append_left (by rw [Array.size_modify]; omega), Array.getElem?_modify, if_neg (by omega)]
theorem holds_own {W : World} {base blk cap : Nat} {l : List Rg} (h : W.ownsRow base 161 2 (.slice (some ⟨blk, 0, none⟩) l.length cap) l.length (flat l)) (h0 : 0 < l.length) : HoldsK encIv 2 W blk 0 l.toArray := by
  obtain ⟨g, c, e, _, hlt, hcell⟩ := own_some h h0
  injection e with e1 _ _; injection e1 with e1; injection e1 with e1; subst e1
  intro j hj
  rw [size_flatK] at hj
  have hj' : j < l.length * 2 := by simpa using hj
  refine ⟨?_, own_frozen h _⟩
  rw [Nat.zero_add, get_flatK encIv 2 _ j hj]
  have hk : j / 2 < l.length := by omega
  have e0 : l.toArray[j / 2]! = (lo l (j / 2), hi l (j / 2)) := by
    rw [getElem!_pos _ _ (by simpa using hk), lo_get l _ hk, hi_get l _ hk]; simp
  rw [e0]
  obtain ⟨d1, d2⟩ := flat_even l (j / 2) hk
  rcases Nat.mod_two_eq_zero_or_one j with hm | hm
  · rw [hm]
    exact hcell _ _ (by rw [show j / 2 * 2 = j by omega] at d1; exact d1)
  · rw [hm]
    exact hcell _ _ (by rw [show j / 2 * 2 + 1 = j by omega] at d2; exact d2)
theorem sr_holds {W : World} {blk cap : Nat} {d : Array Rg} (h : HoldsK encIv 2 W blk 0 d) (hblk : blk < W.heap.size) : Sr W (.slice (some ⟨blk, 0, none⟩) d.size cap) d.toList := by
  refine ⟨_, cap, by simp, fun _ => ⟨blk, 0, rfl, hblk, fun i hi' => ?_⟩⟩
  have hi2 : i < d.size := by simpa using hi'
  have e0 : d[i]! = (lo d.toList i, hi d.toList i) := by
    rw [getElem!_pos d i hi2, lo_get _ _ hi', hi_get _ _ hi']; simp
  have h1 := h.cell (c := 0) hi2 (by decide)
  have h2 := h.cell (c := 1) hi2 (by decide)
  rw [e0] at h1 h2
  exact ⟨by simpa [encIv] using h1.1, by simpa [encIv, Nat.add_assoc] using h2.1⟩
theorem perm_list {d d' : Array Rg} (h : PermIn 0 d.size d d') : d'.size = d.size ∧ d'.toList.Perm d.toList := by
  obtain ⟨h1, _, h3⟩ := h
  refine ⟨h1, ?_⟩
  have e1 : d'.extract 0 d.size = d' := Array.extract_eq_self_of_le (by omega)
  have e2 : d.extract 0 d.size = d := Array.extract_eq_self_of_le (by omega)
  rw [e1, e2] at h3
  exact h3
theorem sorted_list {d' : Array Rg} {n : Nat} (hn : d'.size = n) (h : SortedIn (ltOf cfR) 0 n d') : d'.toList.Pairwise (fun r s => r.1 ≤ s.1) := by
  rw [List.pairwise_iff_getElem]
  intro i j hi hj hij
  have h1 := h i j (Nat.zero_le _) hij (by rw [← hn]; simpa using hj)
  rw [lt_is, getElem!_pos _ _ (by simpa using hj), getElem!_pos _ _ (by simpa using hi)] at h1
  simp at h1
  simpa using h1
end Go.Proofs.YtpgecdhieakilaaGreatDoor.Dm


namespace Go.Proofs.YtpgecdhieakilaaGreatDoor.Dm
open Go.RowKit Go.Shelf Go.Sort
set_option linter.unusedVariables false

set_option maxHeartbeats 400000 in
theorem values_any (a : Option Addr) (n c : Nat) (w : World) :
    Calls Tryz.prog 154 #[.slice a n c] w fun e w' => e = .returned (.func (.func 162) #[] #[.pointer (some ⟨w.heap.size, 0, none⟩)]) ∧ w' = w.alloc (.cells #[.slice a n c] 148) := by
  have hmf : ∀ (fn : Fn) (first cap : Array Value) (w : World), (Instr.makeFunc fn first cap).run Tryz.prog w = .ok (.func fn first cap) w := fun _ _ _ _ => rfl
  go_enter Tryz.func154, Tryz.ntmps154
  go_wp2
  go_ret
  exact ⟨rfl, rfl⟩

set_option maxRecDepth 100000 in
set_option maxHeartbeats 1000000 in
theorem values0_in (n lr B : Nat) (a : Option Addr) (c : Nat) (J : List RgOk → World → Prop) (W : World) (hB : W.cell? ⟨B, 0, none⟩ = some (.slice a 0 c)) (h0 : J [] W) :
    CallsIn Fence.wide n Tryz.prog 162 #[.func (.yield lr) #[] #[], .pointer (some ⟨B, 0, none⟩)] W fun e W' => (∃ v, e = .returned v) ∧ J [] W' := by
  refine callsIn_of_wp Tryz.func162 rfl trivial ?_ rfl
  simp only [Tryz.ntmps162, List.size_toArray, List.length_cons, List.length_nil, Nat.reduceAdd, Nat.reduceSub, Array.replicate_succ, Array.replicate_zero, List.push_toArray, List.append_toArray, List.nil_append, List.cons_append]
  gi_wp2
  gi_loopw [7] (fun i wr => i = .int .i64 0 ∧ J [] wr) (fun _ _ => 0)
  case atStart => exact ⟨rfl, h0⟩
  case round =>
    obtain ⟨rfl, hJ⟩ := hrel
    gi_wp2
    go_end0
    exact ⟨⟨_, rfl⟩, hJ⟩

theorem joinV (A : Nat) (s : Value) (l : List Rg) (W : World) (eA : A = W.heap.size) (h : Sr W s l) (hok : ∀ i, i < l.length → Rok (lo l i, hi l i)) (hlen : l.length * 16 ≤ 140737488351232) :
    Calls Tryz.prog 153 #[.func (.func 162) #[] #[.pointer (some ⟨A, 0, none⟩)]] (W.alloc (.cells #[s] 148)) fun e w' => JoinEnd l W e w' := by
  subst eA
  have hb : Below W.heap.size W (W.alloc (.cells #[s] 148)) := (Below.refl _ W).alloc (Nat.le_refl _) _
  have L1 := Lists.mk h hb (Boxed.new W 148 s)
  obtain ⟨W1, hW1⟩ : ∃ W1, (W.alloc (.cells #[s] 148)) = W1 := ⟨_, rfl⟩
  rw [hW1] at hb L1 ⊢
  refine (join_any 162 _ l l.length W1 (enters_of Tryz.func162 (by kernel_rfl) rfl) ?_).mono fun e w' h => h.down hb
  intro lr J Jx X hX hJ _ hY h0
  obtain ⟨s', hB1, hB2, a, cap, rfl, hc⟩ := L1.below hX
  rcases Nat.eq_zero_or_pos l.length with h9 | h9
  · rw [h9] at hB2
    refine (values0_in 5 lr _ a cap J X hB2 h0).mono fun e W' ⟨he, hj⟩ => ⟨he, .inl ⟨[], ?_, hj⟩⟩
    have : l = [] := List.eq_nil_of_length_eq_zero h9
    subst this; rfl
  · obtain ⟨b, off, rfl, hlt, hcell⟩ := hc h9
    exact values1_in 5 (by decide) lr _ W1.heap.size b off cap l hok hlen hlt J Jx hY X hX.size hJ hB2 hcell h0

/-- The ranges that have values. -/
def vld (l : List Rg) : List Rg := l.filter fun r => decide (r.1 ≤ r.2)
/-- There is one with values whose ends are beyond. -/
def bad (l : List Rg) : Prop := ∃ r ∈ l, r.1 ≤ r.2 ∧ ¬ (-1000000 ≤ r.1 ∧ r.2 ≤ 1000000)
/-- The ranges made right. -/
def nf (l : List Rg) : List Rg := joinF ((vld l).mergeSort fun x y => decide (x.1 ≤ y.1))
theorem nf_sorted (l k : List Rg) (hp : k.Perm (vld l)) (hs : k.Pairwise (fun r s => r.1 ≤ s.1)) : joinF k = nf l := by
  unfold nf
  have hm : ((vld l).mergeSort fun x y => decide (x.1 ≤ y.1)).Pairwise (fun r s => r.1 ≤ s.1) := by
    have := List.pairwise_mergeSort (le := fun x y : Rg => decide (x.1 ≤ y.1)) (fun a b c h1 h2 => by simp at *; omega) (fun a b => by simp; omega) (vld l)
    exact this.imp (fun h => by simpa using h)
  refine joinF_perm k _ (fun r => ?_) (fun r hr => ?_) hs hm
  · rw [hp.mem_iff, List.mem_mergeSort]
  · have := hp.mem_iff.1 hr
    unfold vld at this
    simpa using (List.mem_filter.1 this).2
theorem nf_facts (l : List Rg) : Ord (nf l) ∧ ∀ v, v ∈ vals (nf l) ↔ v ∈ vals l := by
  have hm : ((vld l).mergeSort fun x y => decide (x.1 ≤ y.1)).Pairwise (fun r s => r.1 ≤ s.1) := by
    have := List.pairwise_mergeSort (le := fun x y : Rg => decide (x.1 ≤ y.1)) (fun a b c h1 h2 => by simp at *; omega) (fun a b => by simp; omega) (vld l)
    exact this.imp (fun h => by simpa using h)
  have f := joinF_facts _ (fun r hr => by rw [List.mem_mergeSort] at hr; unfold vld at hr; simpa using (List.mem_filter.1 hr).2) hm
  refine ⟨f.1, fun v => ?_⟩
  unfold nf
  rw [f.2.1, mem_vals', mem_vals']
  constructor
  · rintro ⟨r, hr, h⟩
    rw [List.mem_mergeSort] at hr
    exact ⟨r, (List.mem_filter.1 hr).1, h⟩
  · rintro ⟨r, hr, h⟩
    refine ⟨r, ?_, h⟩
    rw [List.mem_mergeSort]
    exact List.mem_filter.2 ⟨hr, by simp; omega⟩
theorem vld_take (l : List Rg) (k : Nat) (hk : k < l.length) : vld (l.take (k + 1)) = vld (l.take k) ++ (if lo l k ≤ hi l k then [(lo l k, hi l k)] else []) := by
  unfold vld
  rw [take_snoc l k hk, List.filter_append]
  congr 1
  by_cases h : lo l k ≤ hi l k <;> simp [h]

/-- How Norm ends. -/
def NormEnd (l : List Rg) (W : World) (e : Ending) (w' : World) : Prop := ∃ (s : Value) (c : Int), e = .returned (.tuple #[s, .int .i64 c]) ∧ Below W.heap.size W w' ∧
  ((bad l ∧ c = 20 ∧ s = .slice none 0 0) ∨ (¬ bad l ∧ c = 0 ∧ (nf l).length ≤ 4096 ∧ w'.ownsRow W.heap.size 161 2 s (nf l).length (flat (nf l)) ∧ (s = .slice none 0 0 ↔ nf l = [])) ∨ (¬ bad l ∧ c = 4 ∧ 4096 < (nf l).length ∧ s = .slice none 0 0))

theorem sort_none (fv : Value) (w : World) : Calls Tryz.prog 150 #[.slice none 0 0, fv] w fun e w' => e = .returned (.tuple #[]) ∧ w' = w := AnyF.slices_SortFunc_none Tryz.laysSortF none 0 fv w
theorem norm_join {l k : List Rg} {W W1 w' : World} {e : Ending} (hnb : ¬ bad l) (hk : joinF k = nf l) (hb : Below W.heap.size W W1) (h : JoinEnd k W1 e w') : NormEnd l W e w' := by
  obtain ⟨s, c, he, h1, h2⟩ := h.down hb
  rw [hk] at h2
  refine ⟨s, c, he, h1, .inr ?_⟩
  rcases h2 with ⟨e1, e2, e3, e4⟩ | ⟨e1, e2, e3⟩
  · exact .inl ⟨hnb, e1, e2, e3, e4⟩
  · exact .inr ⟨hnb, e1, e2, e3⟩
theorem vld_ok {l : List Rg} (hnb : ¬ bad l) : ∀ r ∈ vld l, Rok r := fun r hr => by
  have h1 := List.mem_filter.1 hr
  have h2 : r.1 ≤ r.2 := by simpa using h1.2
  apply Classical.byContradiction
  intro hn
  exact hnb ⟨r, h1.1, h2, fun h3 => hn ⟨h3.1, h2, h3.2⟩⟩

set_option maxRecDepth 100000 in
set_option maxHeartbeats 4000000 in
theorem norm_any (s : Value) (l : List Rg) (W : World) (h : Sr W s l) (hl : l.length * 16 ≤ 140737488351232) :
    Calls Tryz.prog 135 #[s] W fun e w' => NormEnd l W e w' := by
  obtain ⟨i0, hi0, hz0, hz1, hz2⟩ := info_parts Tryz.info161
  obtain ⟨a, cap, rfl, hcell⟩ := h
  obtain ⟨n, hn⟩ : ∃ n, l.length = n := ⟨_, rfl⟩
  have HN : Hid (l.length = n) := hn
  have HC : Hid _ := hcell
  rw [hn] at hl ⊢
  clear hn hcell
  go_enter Tryz.func135, Tryz.ntmps135
  go_wp2
  go_loopw [4, 9] (fun o i wr => ∃ (k : Nat), k ≤ n ∧ i = .int .i64 k ∧ (vld (l.take k)).length ≤ k ∧ ¬ bad (l.take k) ∧ wr.ownsRow W.heap.size 161 2 o (vld (l.take k)).length (flat (vld (l.take k))) ∧ (o = .slice none 0 0 ↔ vld (l.take k) = []) ∧ Below W.heap.size W wr) (fun _ i _ => n - (intOf i).toNat)
  case atStart => exact ⟨0, by omega, rfl, by simp [vld], by simp [bad], by simpa [vld, flat] using World.ownsRow_nil _ _ _ _, by simp [vld], Below.refl _ _⟩
  case round =>
    obtain ⟨k, hk, rfl, hol, hnb, hrow, hnil, hB⟩ := hrel
    have hsz := hB.size
    by_cases hlt : k < n
    · have hkl : k < l.length := by rw [HN.out]; exact hlt
      obtain ⟨b, off, rfl, hb, hcells⟩ := HC.out (by omega)
      obtain ⟨c1, c2⟩ := hcells k hkl
      have d1 := (hB.cell (p := ⟨b, off + k * 2, none⟩) hb).trans c1
      have d2 := (hB.cell (p := ⟨b, off + k * 2 + 1, none⟩) hb).trans c2
      have hvt := vld_take l k hkl
      have hts := take_snoc l k hkl
      have hmem : (lo l k, hi l k) ∈ l := by rw [lo_get l k hkl, hi_get l k hkl]; exact List.getElem_mem hkl
      obtain ⟨x, hx⟩ : ∃ x, lo l k = x := ⟨_, rfl⟩
      obtain ⟨y, hy⟩ : ∃ y, hi l k = y := ⟨_, rfl⟩
      rw [hx] at d1 hvt hts hmem
      rw [hy] at d2 hvt hts hmem
      have hlt' : (k : Int) < (n : Int) := by omega
      have hbw : b < wr.heap.size := Nat.lt_of_lt_of_le hb hsz
      have hrow2 := World.ownsRow.alloc hrow (Obj.cells #[Value.int IntKind.i64 x, Value.int IntKind.i64 y] 161)
      have HB2 : Hid (Below W.heap.size W (wr.alloc (Obj.cells #[Value.int IntKind.i64 x, Value.int IntKind.i64 y] 161))) := hB.alloc hsz _
      have hT := Two.new wr x y
      have HT : Hid _ := hT
      clear hcells c1 c2 hx hy hkl hT
      by_cases hxy : y < x
      · rw [if_neg (by omega), List.append_nil] at hvt
        have HVT : Hid (vld (l.take (k + 1)) = vld (l.take k)) := hvt
        have HNB : Hid (¬ bad (l.take (k + 1))) := fun ⟨r, hr, h1, h2⟩ => by
          rw [hts] at hr
          rcases List.mem_append.1 hr with h | h
          · exact hnb ⟨r, h, h1, h2⟩
          · rw [List.mem_singleton] at h; rw [h] at h1; dsimp only at h1; omega
        clear hvt hts
        go_wp2
        go_roundw
        case rel => exact ⟨k + 1, by omega, by go_num, by rw [HVT.out]; omega, HNB.out, by rw [HVT.out]; exact hrow2, by rw [HVT.out]; exact hnil, HB2.out⟩
        case measure => simp [intOf]; omega
      · rw [if_pos (by omega)] at hvt
        have HVT : Hid (vld (l.take (k + 1)) = vld (l.take k) ++ [(x, y)]) := hvt
        have HTS : Hid (l.take (k + 1) = l.take k ++ [(x, y)]) := hts
        obtain ⟨os, hos⟩ : ∃ os, vld (l.take k) = os := ⟨_, rfl⟩
        rw [hos] at hol hrow hrow2 hnil
        have HOS : Hid (vld (l.take k) = os) := hos
        obtain ⟨m, hm⟩ : ∃ m, os.length = m := ⟨_, rfl⟩
        have HM : Hid (os.length = m) := hm
        rw [hm] at hol hrow hrow2
        have HROW2 : Hid _ := hrow2
        have HROW : Hid _ := hrow
        clear hvt hts hos hm hrow2
        by_cases hin : -1000000 ≤ x ∧ y ≤ 1000000
        · have HNB : Hid (¬ bad (l.take (k + 1))) := fun ⟨r, hr, h1, h2⟩ => by
            rw [HTS.out] at hr
            rcases List.mem_append.1 hr with h | h
            · exact hnb ⟨r, h, h1, h2⟩
            · rw [List.mem_singleton] at h; rw [h] at h2; exact h2 hin
          go_wp2_with fail
          refine (inb_yes x y _ (by omega) hin.1 hin.2).mono ?_
          rintro e w1 ⟨rfl, hb1⟩
          have hT1 : Two w1 wr.heap.size x y := (hb1.block _ (by simp)).trans HT.out
          have q0 := hT1.c0
          have q1 := hT1.c1
          have hr1 := own_keepB HROW2.out hb1
          have hB1 : Below W.heap.size W w1 := HB2.out.trans (hb1.mono HB2.out.size)
          have hs1 := hB1.size
          clear hT1 hb1
          go_wp2_with (at_builtin; refine wpList_append_own _ rfl _ _ 148 rfl W.heap.size 161 i0 (.agg #[.int .i64 0, .int .i64 0]) 2 16 Tryz.underlying148 hi0 hz0 hz1 hz2 rfl (by decide) _ _ _ rfl (World.ownsRow.alloc hr1 _) ⟨w1.heap.size, 0, none⟩ 1 1 [.int .i64 x, .int .i64 y] rfl rfl (cell_two_new _ _ _ _) (by simp [Value.oneCell']) (by unfold maxLen; omega) (by omega) (by simp; omega) ?_; intro v' w2 hown' hgrow hnl; have hB2 : Below W.heap.size W w2 := (hB1.alloc hs1 _).grown hgrow (by simp; omega) (fun j e => (World.ownsRow.lt hr1 j e).1); clear hgrow)
          go_roundw
          case rel =>
            refine ⟨k + 1, by omega, by go_num, by rw [HVT.out, HOS.out, List.length_append, HM.out]; simp; omega, HNB.out, ?_, by rw [HVT.out]; simp [hnl], hB2⟩
            rw [HVT.out, HOS.out, List.length_append, flat_two, HM.out]
            exact hown'
          case measure => simp [intOf]; omega
        · have HBAD : Hid (bad l) := ⟨_, hmem, by dsimp only; omega, hin⟩
          go_wp2_with fail
          refine (inb_no x y _ (by omega) hin).mono ?_
          rintro e w1 ⟨rfl, hb1⟩
          have hB1 : Below W.heap.size W w1 := HB2.out.trans (hb1.mono HB2.out.size)
          clear hb1
          go_wp2
          go_ret2
          exact ⟨_, 20, rfl, hB1, .inl ⟨HBAD.out, rfl, rfl⟩⟩
    · have hkn : k = n := by omega
      subst hkn
      have htk : l.take k = l := List.take_of_length_le (by rw [HN.out]; exact Nat.le_refl _)
      rw [htk] at hol hnb hrow hnil
      have HNB : Hid (¬ bad l) := hnb
      rcases Nat.eq_zero_or_pos (vld l).length with h0 | h0
      · have hv0 : vld l = [] := List.eq_nil_of_length_eq_zero h0
        have hu : u4 = .slice none 0 0 := hnil.2 hv0
        subst hu
        have HNF : Hid (joinF [] = nf l) := by unfold Hid nf; rw [hv0]; simp
        clear hrow hnil hnb htk h0 hol hv0 hl
        go_wp2_with fail
        refine (sort_none _ _).mono ?_
        rintro e w1 ⟨rfl, rfl⟩
        go_wp2_with fail
        refine (values_any _ _ _ _).mono ?_
        rintro e w2 ⟨rfl, rfl⟩
        go_wp2_with fail
        refine (joinV _ _ [] _ rfl (Sr.nil _ _ _) (fun i hi => by simp at hi) (by simp)).mono ?_
        rintro e w3 hJ
        have hE := norm_join HNB.out HNF.out hB hJ
        obtain ⟨s', cc, rfl, hb3, hcase⟩ := hE
        have HC3 : Hid _ := hcase
        clear hcase hJ
        go_wp2
        go_ret2
        exact ⟨s', cc, rfl, hb3, HC3.out⟩
      · obtain ⟨g, cg, rfl, hg0, hgw, _⟩ := own_some hrow h0
        have hH := holds_own hrow h0
        have hsize : (vld l).toArray.size = (vld l).length := by simp
        have hcon := sort_some g cg (vld l).toArray wr hH hgw (by rw [hsize]; omega)
        rw [hsize] at hcon
        obtain ⟨m, hm⟩ : ∃ m, (vld l).length = m := ⟨_, rfl⟩
        have HM : Hid ((vld l).length = m) := hm
        rw [hm] at hcon hol h0
        have HH : Hid _ := hH
        rw [hm]
        clear hrow hnil hnb htk hsize hm hH
        go_wp2_with fail
        refine hcon.mono ?_
        clear hcon
        rintro e w1 ⟨rfl, d', nn, os, hp, hso, rfl⟩
        rw [← HM.out] at hp hso
        have hp2 := perm_list (d := (vld l).toArray) (by simpa using hp)
        have hsd : d'.size = m := by rw [hp2.1]; simpa using HM.out
        have hs2 := sorted_list (by rw [hp2.1]; simp) hso
        have hbs : Below W.heap.size wr (sortWorldK encIv 2 wr g 0 nn d' os) := sortW_below hg0 hgw
        have hlt2 : g < (sortWorldK encIv 2 wr g 0 nn d' os).heap.size := Nat.lt_of_lt_of_le hgw hbs.size
        have hH2 := holdsK_sortWorldK encIv 2 wr g 0 nn (vld l).toArray d' os hgw HH.out (by rw [hp2.1])
        have hSr := sr_holds (cap := cg) hH2 hlt2
        rw [hsd] at hSr
        have hB1 : Below W.heap.size W (sortWorldK encIv 2 wr g 0 nn d' os) := hB.trans hbs
        have hmem : ∀ r ∈ d'.toList, Rok r := fun r hr => vld_ok HNB.out r (by simpa using hp2.2.mem_iff.1 hr)
        have HNF : Hid (joinF d'.toList = nf l) := nf_sorted l d'.toList (by simpa using hp2.2) hs2
        have hlen : d'.toList.length = m := by simpa using hsd
        obtain ⟨dl, hdl⟩ : ∃ dl, d'.toList = dl := ⟨_, rfl⟩
        rw [hdl] at hSr HNF hmem hlen
        obtain ⟨W1, hW1⟩ : ∃ W1, sortWorldK encIv 2 wr g 0 nn d' os = W1 := ⟨_, rfl⟩
        rw [hW1] at hSr hB1 ⊢
        have HSr : Hid (Sr W1 (.slice (some ⟨g, 0, none⟩) m cg) dl) := hSr
        have HMEM : Hid (∀ r ∈ dl, Rok r) := hmem
        have HLEN : Hid (dl.length = m) := hlen
        clear hW1 hdl hlen hmem hSr hH2 hlt2 hbs hs2 hsd hp2 hso hp HH hB
        go_wp2_with fail
        refine (values_any _ _ _ _).mono ?_
        rintro e w2 ⟨rfl, rfl⟩
        go_wp2_with fail
        refine (joinV _ _ dl _ rfl HSr.out (fun i hi' => HMEM.out _ (by rw [lo_get dl i hi', hi_get dl i hi']; exact List.getElem_mem hi')) (by rw [HLEN.out]; omega)).mono ?_
        rintro e w3 hJ
        have hE := norm_join HNB.out HNF.out hB1 hJ
        obtain ⟨s', cc, rfl, hb3, hcase⟩ := hE
        have HC3 : Hid _ := hcase
        clear hcase hJ
        go_wp2
        go_ret2
        exact ⟨s', cc, rfl, hb3, HC3.out⟩
end Go.Proofs.YtpgecdhieakilaaGreatDoor.Dm


namespace Go.Proofs.YtpgecdhieakilaaGreatDoor.Dm
open Go.RowKit Go.Shelf Go.Sort
set_option linter.unusedVariables false

/-- The slice value s has the numbers vs, wherever they lie. -/
def Si (W : World) (s : Value) (vs : List Int) : Prop :=
  ∃ a cap, s = .slice a vs.length cap ∧ (0 < vs.length → ∃ b off, a = some ⟨b, off, none⟩ ∧ b < W.heap.size ∧ ∀ i, i < vs.length → W.cell? ⟨b, off + i, none⟩ = some (.int .i64 (vs[i]?.getD 0)))
def singles (vs : List Int) : List Rg := vs.map fun v => (v, v)
theorem singles_take (vs : List Int) (k : Nat) (hk : k < vs.length) : singles (vs.take (k + 1)) = singles (vs.take k) ++ [(vs[k]?.getD 0, vs[k]?.getD 0)] := by
  unfold singles
  rw [List.take_add_one, List.getElem?_eq_getElem hk, List.map_append]
  simp
theorem singles_length (vs : List Int) : (singles vs).length = vs.length := by simp [singles]

set_option maxRecDepth 100000 in
set_option maxHeartbeats 2000000 in
theorem domof_any (s : Value) (vs : List Int) (W : World) (h : Si W s vs) (hl : vs.length * 16 ≤ 140737488351232) :
    Calls Tryz.prog 122 #[s] W fun e w' => NormEnd (singles vs) W e w' := by
  obtain ⟨i0, hi0, hz0, hz1, hz2⟩ := info_parts Tryz.info161
  obtain ⟨a, cap, rfl, hcell⟩ := h
  obtain ⟨n, hn⟩ : ∃ n, vs.length = n := ⟨_, rfl⟩
  have HN : Hid (vs.length = n) := hn
  have HC : Hid _ := hcell
  rw [hn] at hl ⊢
  clear hn hcell
  go_enter Tryz.func122, Tryz.ntmps122
  go_wp2_with (at_make; refine wpList_make_own _ rfl _ _ 148 rfl W.heap.size 161 i0 (.agg #[.int .i64 0, .int .i64 0]) 2 Tryz.underlying148 hi0 hz0 hz1 .i64 .i64 _ n rfl rfl rfl (by rw [hz2]; omega) (by unfold maxLen; omega) (Nat.le_refl _) ?_; intro w0 hown0 hgrow0; have hB0 : Below W.heap.size W w0 := (Below.refl _ W).grown hgrow0 (Nat.le_refl _) (fun j e => by cases e); clear hgrow0)
  go_loopw [4, 12] (fun o i wr => ∃ (k : Nat), k ≤ n ∧ i = .int .i64 k ∧ wr.ownsRow W.heap.size 161 2 o k (flat (singles (vs.take k))) ∧ Below W.heap.size W wr) (fun _ i _ => n - (intOf i).toNat)
  case atStart => exact ⟨0, by omega, rfl, by simpa [singles, flat] using hown0, hB0⟩
  case round =>
    clear hown0 hB0
    obtain ⟨k, hk, rfl, hrow, hB⟩ := hrel
    have hsz := hB.size
    by_cases hlt : k < n
    · have hkl : k < vs.length := by rw [HN.out]; exact hlt
      obtain ⟨b, off, rfl, hb, hcells⟩ := HC.out (by omega)
      have d1 := (hB.cell (p := ⟨b, off + k, none⟩) hb).trans (hcells k hkl)
      have hst := singles_take vs k hkl
      obtain ⟨x, hx⟩ : ∃ x, vs[k]?.getD 0 = x := ⟨_, rfl⟩
      rw [hx] at d1 hst
      have HST : Hid (singles (vs.take (k + 1)) = singles (vs.take k) ++ [(x, x)]) := hst
      have hlt' : (k : Int) < (n : Int) := by omega
      clear hcells hx hst hkl
      go_wp2_with (at_builtin; refine wpList_append_own _ rfl _ _ 148 rfl W.heap.size 161 i0 (.agg #[.int .i64 0, .int .i64 0]) 2 16 Tryz.underlying148 hi0 hz0 hz1 hz2 rfl (by decide) _ _ _ rfl (World.ownsRow.alloc hrow _) ⟨wr.heap.size, 0, none⟩ 1 1 [.int .i64 x, .int .i64 x] rfl rfl (cell_two_new _ _ _ _) (by simp [Value.oneCell']) (by unfold maxLen; omega) (by omega) (by simp; omega) ?_; intro v' w1 hown' hgrow hnl; have hB1 : Below W.heap.size W w1 := (hB.alloc hsz _).grown hgrow (by simp; omega) (fun j e => (World.ownsRow.lt hrow j e).1); clear hgrow)
      go_roundw
      case rel =>
        refine ⟨k + 1, by omega, by go_num, ?_, hB1⟩
        rw [HST.out, flat_two]
        exact hown'
      case measure => simp [intOf]; omega
    · have hkn : k = n := by omega
      subst hkn
      have htk : vs.take k = vs := List.take_of_length_le (by rw [HN.out]; exact Nat.le_refl _)
      rw [htk] at hrow
      have hlen := singles_length vs
      rw [HN.out] at hlen
      rw [← hlen] at hrow
      have hS := own_srl hrow
      have hcon := norm_any _ _ wr hS (by rw [hlen]; omega)
      have hS2 := hS
      obtain ⟨a4, c4, rfl, _⟩ := hS2
      rw [hlen] at hcon ⊢
      clear hrow htk hS hlen
      go_wp2_with fail
      refine hcon.mono ?_
      rintro e w1 ⟨s', c, rfl, hb1, hcase⟩
      have HCASE : Hid _ := hcase
      clear hcase hcon
      go_wp2
      go_ret2
      refine ⟨s', c, rfl, hB.trans (hb1.mono hsz), ?_⟩
      rcases HCASE.out with h | ⟨h1, h2, h3, h4, h5⟩ | h
      · exact .inl h
      · exact .inr (.inl ⟨h1, h2, h3, own_base h4 hsz, h5⟩)
      · exact .inr (.inr h)

end Go.Proofs.YtpgecdhieakilaaGreatDoor.Dm

