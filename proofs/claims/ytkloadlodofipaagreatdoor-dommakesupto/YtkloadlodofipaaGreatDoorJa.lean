/-
  What is proved here: joined of the reference, of any ranges with right ends (mathematics; append and slices of ranges). joined of the reference, of any ranges with right ends. Norm and Either of the reference, of any ranges. Taken, Cut, Not, Both, Either and Less of the reference, of any ranges.
-/
import Derived.Test.YtkloadlodofipaaGreatDoorGd
namespace Go.Proofs.YtkloadlodofipaaGreatDoor
open Go.RowKit Go.Shelf
set_option linter.unusedVariables false

/-- Ranges by rising ends. -/
def Srt (l : List Rg) : Prop := l.Pairwise (fun r s => r.1 ≤ s.1)
theorem take_lo {S : List Rg} {p i : Nat} (h : i < p) : lo (S.take p) i = lo S i := by unfold lo; rw [List.getElem?_take_of_lt h]
theorem ins_srt {S : List Rg} (hs : Srt S) {p : Nat} (hp : p ≤ S.length) (r : Rg) (ha : ∀ t, p ≤ t → t < S.length → r.1 < lo S t) (hb : p = 0 ∨ lo S (p - 1) ≤ r.1) : Srt (S.take p ++ [r] ++ S.drop p) := by
  have h1 : ∀ q ∈ S.take p, q.1 ≤ r.1 := fun q hq => by
    obtain ⟨i, hi', rfl⟩ := List.getElem_of_mem hq
    rw [List.length_take] at hi'
    rw [List.getElem_take]
    rcases hb with rfl | hb
    · omega
    · have hl : p - 1 < S.length := by omega
      rw [lo_get S _ hl] at hb
      rcases Nat.lt_or_ge i (p - 1) with h9 | h9
      · have := (List.pairwise_iff_getElem.1 hs) i (p - 1) (by omega) hl h9
        omega
      · have : i = p - 1 := by omega
        subst this; exact hb
  have h2 : ∀ q ∈ S.drop p, r.1 ≤ q.1 := fun q hq => by
    obtain ⟨i, hi', rfl⟩ := List.getElem_of_mem hq
    rw [List.length_drop] at hi'
    rw [List.getElem_drop]
    have := ha (p + i) (by omega) (by omega)
    rw [lo_get S _ (by omega)] at this
    omega
  unfold Srt
  rw [List.pairwise_append, List.pairwise_append]
  refine ⟨⟨hs.sublist (List.take_sublist _ _), List.pairwise_singleton _ _, fun q hq s hsm => ?_⟩, hs.sublist (List.drop_sublist _ _), fun q hq s hsm => ?_⟩
  · rw [List.mem_singleton] at hsm; subst hsm; exact h1 q hq
  · rcases List.mem_append.1 hq with h | h
    · have := h1 q h; have := h2 s hsm; omega
    · rw [List.mem_singleton] at h; subst h; exact h2 s hsm
theorem ins_perm {S k : List Rg} (h : S.Perm k) (p : Nat) (r : Rg) : (S.take p ++ [r] ++ S.drop p).Perm (k ++ [r]) := by
  have h1 : (S.take p ++ [r] ++ S.drop p).Perm (r :: S) := by
    have e : r :: S = r :: (S.take p ++ S.drop p) := by rw [List.take_append_drop]
    rw [e, List.append_assoc]
    exact List.perm_middle
  exact h1.trans ((List.Perm.cons r h).trans (List.perm_append_singleton r k).symm)
theorem ins_len {S : List Rg} (p : Nat) (r : Rg) (hp : p ≤ S.length) : (S.take p ++ [r] ++ S.drop p).length = S.length + 1 := by
  simp; omega

/-- Appending a slice of ranges to an own row, of any length that there is room for. -/
theorem wpList_app_any (w : World) {ops : Array Oper} {rest : List Oper} {o : Oper} {a : Act} {Q : Exit → Act → World → Prop} (hgd : o.guard = none) (s x : Operand) (ho : o.op = .call { callee := .builtin .append, args := #[s, x], argTypes := #[23, 23] })
    (base : Nat) (v : Value) (m : Nat) (L : List Rg) (hs : a.eval s = v) (hown : w.ownsRow base 55 2 v m (flat L)) (hm : m = L.length) (sx : Value) (l : List Rg) (hx : a.eval x = sx) (hsx : Sr w sx l) (hb : (L.length + l.length) * 16 ≤ 140737488355328) (hbase : base ≤ w.heap.size)
    (h : ∀ v' w', w'.ownsRow base 55 2 v' (L.length + l.length) (flat (L ++ l)) → Below base w w' → (v' = .slice none 0 0 ↔ v = .slice none 0 0 ∧ l = []) → wpList Tryz.prog ops Q rest (a.put o.dst v') w') : wpList Tryz.prog ops Q (o :: rest) a w := by
  subst hm
  obtain ⟨i0, hi0, hz0, hz1, hz2⟩ := info_parts Tryz.info55
  obtain ⟨ax, cx, rfl, hcx⟩ := hsx
  have hbel : ∀ w', w.grownBy w' v.ownBlock → Below base w w' := fun w' hg => (Below.refl _ w).grown hg hbase (fun k e => (World.ownsRow.lt hown k e).1)
  cases ax with
  | none =>
    have h0 : l.length = 0 := by
      apply Classical.byContradiction; intro hn
      obtain ⟨_, _, e, _⟩ := hcx (by omega)
      cases e
    obtain rfl := List.eq_nil_of_length_eq_zero h0
    obtain ⟨bv, nv, cv, rfl, hle, hnv⟩ : ∃ b n c, v = .slice b n c ∧ n ≤ c ∧ n = L.length := by
      rcases hown.2 with ⟨e1, e2⟩ | ⟨q1, q2, q3, e, _, _, hq, _⟩
      · exact ⟨none, 0, 0, e1, Nat.le_refl _, e2.symm⟩
      · exact ⟨_, _, _, e, hq, rfl⟩
    refine Lib.wpList_append_run w hgd s x 23 23 ho _ _ hs hx _ _ (run_app_none w _ bv nv cv cx hle) (h _ _ ?_ (Below.refl _ _) (by simp))
    simpa using hown
  | some ad =>
    rcases Nat.eq_zero_or_pos l.length with h0 | h0
    · obtain rfl := List.eq_nil_of_length_eq_zero h0
      refine wpList_append_own _ hgd s x 23 ho base 55 i0 (.agg #[.int .i64 0, .int .i64 0]) 2 16 Tryz.underlying23 hi0 hz0 hz1 hz2 rfl (by decide) _ _ _ hs hown ad 0 cx [] hx rfl (fun j u h => by simp at h) (fun u h => by simp at h) (by unfold maxLen; simp at hb; omega) (by simpa using hb) hbase ?_
      intro v' w' h1 h2 h3
      exact h v' w' (by simpa using h1) (hbel w' h2) (by simpa using h3)
    · obtain ⟨b, off, e, hlt, hcell⟩ := hcx h0
      injection e with e
      subst e
      refine wpList_append_own _ hgd s x 23 ho base 55 i0 (.agg #[.int .i64 0, .int .i64 0]) 2 16 Tryz.underlying23 hi0 hz0 hz1 hz2 rfl (by decide) _ _ _ hs hown ⟨b, off, none⟩ l.length cx (flat l) hx (flat_length l) (srcells hcell) flat_one (by unfold maxLen; omega) hb hbase ?_
      intro v' w' h1 h2 h3
      exact h v' w' (by rw [flat_app]; exact h1) (hbel w' h2) (h3.trans ⟨fun h9 => by omega, fun h9 => by rw [h9.2] at h0; simp at h0⟩)
theorem Sr.take {W : World} {a : Option Addr} {n c : Nat} {l : List Rg} (h : Sr W (.slice a n c) l) (p : Nat) (hp : p ≤ l.length) (c' : Nat) : Sr W (.slice a p c') (l.take p) := by
  obtain ⟨a', c1, e, hc⟩ := h
  injection e with e1 e2 e3
  subst e1
  refine ⟨a, c', by rw [List.length_take, Nat.min_eq_left hp], fun h0 => ?_⟩
  rw [List.length_take] at h0
  obtain ⟨b, off, e, hb, hcell⟩ := hc (by omega)
  refine ⟨b, off, e, hb, fun i hi' => ?_⟩
  rw [List.length_take] at hi'
  have := hcell i (by omega)
  have e1 : hi (l.take p) i = hi l i := by unfold hi; rw [List.getElem?_take_of_lt (by omega)]
  rw [take_lo (by omega), e1]
  exact this
theorem Sr.drop {W : World} {b off n c : Nat} {l : List Rg} (h : Sr W (.slice (some ⟨b, off, none⟩) n c) l) (p m : Nat) (hm : m = l.length - p) (off' : Nat) (ho : off' = off + p * 2) (c' : Nat) : Sr W (.slice (some ⟨b, off', none⟩) m c') (l.drop p) := by
  subst hm ho
  obtain ⟨a', c1, e, hc⟩ := h
  injection e with e1 e2 e3
  refine ⟨some ⟨b, off + p * 2, none⟩, c', by rw [List.length_drop], fun h0 => ?_⟩
  rw [List.length_drop] at h0
  obtain ⟨b1, off1, e, hb, hcell⟩ := hc (by omega)
  rw [e] at e1
  injection e1 with e1
  injection e1 with e4 e5 e6
  subst e4 e5
  refine ⟨b, off + p * 2, rfl, hb, fun i hi' => ?_⟩
  rw [List.length_drop] at hi'
  have := hcell (p + i) (by omega)
  have e1 : lo (l.drop p) i = lo l (p + i) := by unfold lo; rw [List.getElem?_drop]
  have e2 : hi (l.drop p) i = hi l (p + i) := by unfold hi; rw [List.getElem?_drop]
  rw [e1, e2, show off + p * 2 + i * 2 = off + (p + i) * 2 by omega]
  exact this
theorem flat_put (l : List Rg) : ∀ i, i < l.length → ∀ x y, flat (l.set i (x, y)) = ((flat l).set (i * 2) (.int .i64 x)).set (i * 2 + 1) (.int .i64 y) := by
  induction l with
  | nil => intro i hi'; simp at hi'
  | cons r t ih =>
    intro i hi' x y
    cases i with
    | zero => simp [flat]
    | succ i =>
      have h := ih i (by simpa using hi') x y
      have e1 : flat ((r :: t).set (i + 1) (x, y)) = [.int .i64 r.1, .int .i64 r.2] ++ flat (t.set i (x, y)) := by simp [flat]
      have e2 : flat (r :: t) = [.int .i64 r.1, .int .i64 r.2] ++ flat t := by simp [flat]
      rw [e1, e2, h, show (i + 1) * 2 = i * 2 + 1 + 1 by omega]
      simp
theorem joinF_take {S : List Rg} {j : Nat} (hj : j < S.length) : joinF (S.take (j + 1)) = jstep (joinF (S.take j)) (lo S j, hi S j) := by
  rw [take_two S j hj, joinF_snoc]
theorem joinF_some {S : List Rg} (h : 0 < S.length) : 0 < (joinF S).length := by
  have h1 := joinF_mono (S.take 1) (S.drop 1)
  rw [List.take_append_drop] at h1
  have e : joinF (S.take 1) = [(lo S 0, hi S 0)] := by
    rw [joinF_take h]; simp [joinF, jstep]
  rw [e] at h1
  have h2 : ([(lo S 0, hi S 0)] : List Rg).length = 1 := rfl
  omega

theorem own_shape {W : World} {base e size n : Nat} {s : Value} {xs : List Value} (h : W.ownsRow base e size s n xs) : ∃ a c, s = .slice a n c ∧ n ≤ c ∧ c ≤ 9223372036854775807 := by
  rcases h.2 with ⟨e1, e2⟩ | ⟨g, cap, cur, e1, _, _, hc, hm, _⟩
  · exact ⟨none, 0, by rw [e1, e2], by omega, by omega⟩
  · exact ⟨_, _, e1, hc, by unfold maxLen at hm; omega⟩

theorem take_room {S : List Rg} {q n : Nat} (hS : S.length = q) (hq : q < n) (hn : n * 16 ≤ 140737488351232) (p : Nat) : (([] : List Rg).length + (S.take p).length) * 16 ≤ 140737488355328 := by
  have := List.length_take_le p S
  have : (S.take p).length ≤ S.length := by rw [List.length_take]; omega
  simp only [List.length_nil]
  omega

set_option maxRecDepth 100000 in
set_option maxHeartbeats 16000000 in
theorem joined_any (s : Value) (l : List Rg) (W : World) (h : Sr W s l) (hok : ∀ r ∈ l, Rok r) (hlen : l.length * 16 ≤ 140737488351232) :
    Calls Tryz.prog 58 #[s] W fun e w' => ∃ s', e = .returned s' ∧ w'.ownsRow W.heap.size 55 2 s' (nf l).length (flat (nf l)) ∧ (s' = .slice none 0 0 ↔ nf l = []) ∧ Below W.heap.size W w' := by
  obtain ⟨i0, hi0, hz0, hz1, hz2⟩ := info_parts Tryz.info55
  obtain ⟨sa, cap, rfl, hcell⟩ := h
  obtain ⟨n, hn⟩ : ∃ n, l.length = n := ⟨_, rfl⟩
  have HN : Hid (l.length = n) := hn
  have HC : Hid _ := hcell
  have HOK : Hid (∀ r ∈ l, Rok r) := hok
  rw [hn] at hlen ⊢
  clear hn hcell hok
  go_enter Tryz.func58, Tryz.ntmps58
  go_wp2
  go_loopw [3, 4, 5, 6] (fun sv i _ _ wr => ∃ (q : Nat) (S : List Rg), q ≤ n ∧ i = .int .i64 q ∧ S.length = q ∧ S.Perm (l.take q) ∧ Srt S ∧ wr.ownsRow W.heap.size 55 2 sv q (flat S) ∧ (sv = .slice none 0 0 ↔ q = 0) ∧ Below W.heap.size W wr) (fun _ i _ _ _ => n - (intOf i).toNat)
  case atStart => exact ⟨0, [], Nat.zero_le _, rfl, rfl, by simp, List.Pairwise.nil, World.ownsRow_nil _ _ _ _, by simp, Below.refl _ _⟩
  case round =>
    obtain ⟨q, S, hq, rfl, hSl, hSp, hSs, hrow, hnil, hB⟩ := hrel
    have hsz := hB.size
    have HSl : Hid (S.length = q) := hSl
    have HSp : Hid (S.Perm (l.take q)) := hSp
    have HSs : Hid (Srt S) := hSs
    clear hSl hSp hSs
    by_cases hlt : q < n
    · have hkl : q < l.length := by rw [HN.out]; exact hlt
      obtain ⟨sb, off, rfl, hb, hcells⟩ := HC.out (by omega)
      obtain ⟨c1, c2⟩ := hcells q hkl
      have d1 := (hB.cell (p := ⟨sb, off + q * 2, none⟩) hb).trans c1
      have d2 := (hB.cell (p := ⟨sb, off + q * 2 + 1, none⟩) hb).trans c2
      have htk := take_two l q hkl
      obtain ⟨x, hx⟩ : ∃ x, lo l q = x := ⟨_, rfl⟩
      obtain ⟨y, hy⟩ : ∃ y, hi l q = y := ⟨_, rfl⟩
      rw [hx] at d1 htk
      rw [hy] at d2 htk
      have HTK : Hid (l.take (q + 1) = l.take q ++ [(x, y)]) := htk
      have hlt' : (q : Int) < (n : Int) := by omega
      rcases Nat.eq_zero_or_pos q with hq0 | hq0
      · subst hq0
        have hsv := hnil.2 rfl
        subst hsv
        clear hcells c1 c2 hx hy htk hnil
        go_wp2
        go_loopw [5] (fun j wq => j = .int .i64 0 ∧ ∃ m, wq = wr.drewN m) (fun _ _ => 0)
        case atStart => exact ⟨rfl, 0, rfl⟩
        case round =>
          obtain ⟨rfl, m, rfl⟩ := hrel
          go_wp2
          go_quiet (fail)
          obtain ⟨Wd, hWd⟩ : ∃ Wd, (wr.drewN m).drewN nq = Wd := ⟨_, rfl⟩
          have hBd : Below W.heap.size W Wd := by rw [← hWd]; exact below_drewN (below_drewN hB m) nq
          have d1' : Wd.cell? ⟨sb, off + 0 * 2, none⟩ = some (.int .i64 x) := by rw [← hWd]; exact d1
          have d2' : Wd.cell? ⟨sb, off + 0 * 2 + 1, none⟩ = some (.int .i64 y) := by rw [← hWd]; exact d2
          rw [hWd]
          simp only [Nat.zero_mul, Nat.add_zero] at d1' d2'
          clear hWd d1 d2
          go_upto_region 10 with (at_builtin; refine wpList_app_nil _ rfl _ _ rfl none 0 0 (Nat.le_refl _) rfl rfl ?_)
          go_upto_region 11 with (at_builtin; refine wpList_append_own _ rfl _ _ 23 rfl W.heap.size 55 i0 (.agg #[.int .i64 0, .int .i64 0]) 2 16 Tryz.underlying23 hi0 hz0 hz1 hz2 rfl (by decide) _ _ _ rfl (World.ownsRow_nil _ _ _ _) ⟨Wd.heap.size, 0, none⟩ 1 1 [.int .i64 x, .int .i64 y] rfl rfl (cell_two_new _ _ _ _) (by simp [Value.oneCell']) (by unfold maxLen; omega) (by omega) (by have := hBd.size; simp; omega) ?_; intro v' w1 hown' hgrow _; simp only [Nat.zero_add, List.nil_append] at hown'; obtain ⟨g', cap', rfl⟩ := ownsRow_succ hown'; obtain ⟨hq1, hq2⟩ := own_capsR hown'; have hB1 : Below W.heap.size W w1 := (hBd.alloc hBd.size _).grown hgrow (by have := hBd.size; simp; omega) (fun j e => by cases e))
          go_wp2_with (at_builtin; refine wpList_app_nil _ rfl _ _ rfl _ _ _ hq1 rfl rfl ?_)
          go_roundw
          case rel => exact ⟨1, [(x, y)], by omega, by go_num, rfl, by rw [HTK.out]; simp, List.pairwise_singleton _ _, hown', by simp, hB1⟩
          case measure => simp [intOf]; omega
      · obtain ⟨gs, cs, rfl, hgs1, hgs2, hcs⟩ := own_some hrow hq0
        obtain ⟨hq1, hq2⟩ := own_capsR hrow
        have hSr : Sr wr (.slice (some ⟨gs, 0, none⟩) q cs) S := own_srl (by rw [HSl.out]; exact hrow)
        have HCS : Hid (∀ j u, (flat S)[j]? = some u → wr.cell? ⟨gs, j, none⟩ = some u) := hcs
        have HSR : Hid (Sr wr (.slice (some ⟨gs, 0, none⟩) q cs) S) := hSr
        have hks : (cs : Int) ≤ 9223372036854775807 := by omega
        have hkc : (q : Int) ≤ (cs : Int) := by omega
        clear hcells c1 c2 hx hy htk hnil hcs hSr
        go_wp2
        go_loopw [5] (fun j wq => ∃ (p m : Nat), p ≤ q ∧ j = .int .i64 p ∧ (∀ t, p ≤ t → t < q → x < lo S t) ∧ wq = wr.drewN m) (fun j _ => (intOf j).toNat)
        case atStart => exact ⟨q, 0, Nat.le_refl _, rfl, fun t h1 h2 => by omega, rfl⟩
        case round =>
          obtain ⟨p, m, hp, rfl, hab, rfl⟩ := hrel
          have HAB : Hid (∀ t, p ≤ t → t < q → x < lo S t) := hab
          clear hab
          rcases Nat.eq_zero_or_pos p with hp0 | hp0
          · subst hp0
            go_wp2
            go_quiet (fail)
            obtain ⟨Wd, hWd⟩ : ∃ Wd, (wr.drewN m).drewN nq = Wd := ⟨_, rfl⟩
            have hBd : Below W.heap.size W Wd := by rw [← hWd]; exact below_drewN (below_drewN hB m) nq
            have d1' : Wd.cell? ⟨sb, off + q * 2, none⟩ = some (.int .i64 x) := by rw [← hWd]; exact d1
            have d2' : Wd.cell? ⟨sb, off + q * 2 + 1, none⟩ = some (.int .i64 y) := by rw [← hWd]; exact d2
            have HSD : Hid (Sr Wd (.slice (some ⟨gs, 0, none⟩) q cs) S) := by rw [← hWd]; exact HSR.out.drawn _ |>.drawn _
            rw [hWd]
            have hgsd : gs < Wd.heap.size := by rw [← hWd]; exact hgs2
            clear hWd d1 d2 hrow
            go_upto_region 10 with (at_builtin; refine wpList_app_any _ rfl _ _ rfl Wd.heap.size _ 0 [] rfl (World.ownsRow_nil _ _ _ _) rfl _ (S.take 0) rfl (HSD.out.take 0 (by have := HSl.out; omega) _) (take_room HSl.out hlt hlen 0) (Nat.le_refl _) ?_; intro v1 w1 hown1 hb1 _; rw [List.nil_append] at hown1)
            obtain ⟨g1, k1, rfl, hcap1, hcap2⟩ := own_shape hown1
            have hB1 : Below W.heap.size W w1 := hBd.trans (hb1.mono hBd.size)
            have e1 := (hb1.cell (p := ⟨sb, off + q * 2, none⟩) (by show sb < _; have := hBd.size; omega)).trans d1'
            have e2 := (hb1.cell (p := ⟨sb, off + q * 2 + 1, none⟩) (by show sb < _; have := hBd.size; omega)).trans d2'
            have htl : (S.take 0).length = 0 := by rw [List.length_take, HSl.out]; omega
            simp only [List.length_nil, Nat.zero_add, htl] at hown1
            try simp only [List.length_nil, Nat.zero_add, htl]
            have HOWN1 : Hid _ := hown1
            clear hown1
            go_upto_region 11 with (at_builtin; refine wpList_append_own _ rfl _ _ 23 rfl Wd.heap.size 55 i0 (.agg #[.int .i64 0, .int .i64 0]) 2 16 Tryz.underlying23 hi0 hz0 hz1 hz2 rfl (by decide) _ _ _ rfl (World.ownsRow.alloc HOWN1.out _) ⟨w1.heap.size, 0, none⟩ 1 1 [.int .i64 x, .int .i64 y] rfl rfl (cell_two_new _ _ _ _) (by simp [Value.oneCell']) (by unfold maxLen; omega) (by omega) (by have := hb1.size; simp; omega) ?_; intro v2 w2 hown2 hgrow2 _; obtain ⟨g2, k2, rfl⟩ := ownsRow_succ hown2; have hb2 : Below Wd.heap.size Wd w2 := (hb1.alloc hb1.size _).grown hgrow2 (by have := hb1.size; simp; omega) (fun j e => (World.ownsRow.lt HOWN1.out j e).1))
            rw [← flat_two] at hown2
            have HOWN2 : Hid _ := hown2
            clear hown2
            have hBw2 : Below W.heap.size W w2 := hBd.trans (hb2.mono hBd.size)
            have hx2 : x = (x, y).1 := rfl
            by_cases hck : cs = 0
            · have hdn : S.drop 0 = [] := List.drop_eq_nil_of_le (by have := HSl.out; omega)
              have HDN : Hid (S.drop 0 = []) := hdn
              clear hdn
              exact absurd hck (by omega)
            · have hck2 : ¬ (cs : Int) = ((0 : Nat) : Int) := by omega
              go_wp2_with (at_builtin; refine wpList_app_any _ rfl _ _ rfl Wd.heap.size _ (0 + 1) (S.take 0 ++ [(x, y)]) rfl HOWN2.out (by rw [List.length_append, List.length_singleton, List.length_take, HSl.out]; omega) _ (S.drop 0) rfl (Sr.drop (HSD.out.below hb2) 0 _ (by have := HSl.out; first | omega | (simp; omega)) _ (by first | rfl | omega | simp) _) (by rw [← List.length_append, ins_len 0 _ (by have := HSl.out; omega), HSl.out]; omega) hb2.size ?_; intro v3 w3 hown3 hb3 hn3)
              rw [show (S.take 0 ++ [(x, y)]).length + (S.drop 0).length = q + 1 from by rw [← List.length_append, ins_len 0 _ (by have := HSl.out; omega), HSl.out]] at hown3
              obtain ⟨g3, k3, rfl, _, _⟩ := own_shape hown3
              have hB3 : Below W.heap.size W w3 := hBw2.trans (hb3.mono hBd.size)
              go_roundw
              case rel => exact ⟨q + 1, S.take 0 ++ [(x, y)] ++ S.drop 0, by omega, by go_num, by rw [ins_len 0 _ (by have := HSl.out; omega), HSl.out], by rw [HTK.out]; exact ins_perm HSp.out _ _, ins_srt HSs.out (by have := HSl.out; omega) (x, y) (fun t h1 h2 => HAB.out t h1 (by have := HSl.out; omega)) (.inl rfl), own_base hown3 hBd.size, ⟨fun e => by injection e with _ e2 _, fun e => by omega⟩, hB3⟩
              case measure => simp [intOf]; omega
          · have f1 := (flat_even S (p - 1) (by have := HSl.out; omega)).1
            have p1 := HCS.out _ _ f1
            obtain ⟨x0, hx0⟩ : ∃ x0, lo S (p - 1) = x0 := ⟨_, rfl⟩
            have HX0 : Hid (lo S (p - 1) = x0) := hx0
            rw [hx0] at p1
            have hd0 : decide (0 < (p : Int)) = true := by simp; omega
            have hk1 : (p : Int) - 1 = ((p - 1 : Nat) : Int) := by omega
            clear hx0 f1
            by_cases hc : x < x0
            · have hd : decide (x < x0) = true := by simpa using hc
              go_wp2
              go_quiet (fail)
              go_wp2
              go_roundw
              case rel => exact ⟨p - 1, _, by omega, by go_num, fun t h1 h2 => if h : t = p - 1 then by rw [h, HX0.out]; exact hc else HAB.out t (by omega) h2, rfl⟩
              case measure => simp [intOf]; omega
            · have hd : decide (x < x0) = false := by simpa using hc
              have hle : lo S (p - 1) ≤ x := by rw [HX0.out]; omega
              have HLE : Hid (lo S (p - 1) ≤ x) := hle
              clear hle
              go_wp2
              go_quiet (fail)
              obtain ⟨Wd, hWd⟩ : ∃ Wd, (wr.drewN m).drewN nq = Wd := ⟨_, rfl⟩
              have hBd : Below W.heap.size W Wd := by rw [← hWd]; exact below_drewN (below_drewN hB m) nq
              have d1' : Wd.cell? ⟨sb, off + q * 2, none⟩ = some (.int .i64 x) := by rw [← hWd]; exact d1
              have d2' : Wd.cell? ⟨sb, off + q * 2 + 1, none⟩ = some (.int .i64 y) := by rw [← hWd]; exact d2
              have HSD : Hid (Sr Wd (.slice (some ⟨gs, 0, none⟩) q cs) S) := by rw [← hWd]; exact HSR.out.drawn _ |>.drawn _
              rw [hWd]
              have hgsd : gs < Wd.heap.size := by rw [← hWd]; exact hgs2
              clear hWd d1 d2 hrow p1
              go_upto_region 10 with (at_builtin; refine wpList_app_any _ rfl _ _ rfl Wd.heap.size _ 0 [] rfl (World.ownsRow_nil _ _ _ _) rfl _ (S.take p) rfl (HSD.out.take p (by have := HSl.out; omega) _) (take_room HSl.out hlt hlen p) (Nat.le_refl _) ?_; intro v1 w1 hown1 hb1 _; rw [List.nil_append] at hown1)
              obtain ⟨g1, k1, rfl, hcap1, hcap2⟩ := own_shape hown1
              have hB1 : Below W.heap.size W w1 := hBd.trans (hb1.mono hBd.size)
              have e1 := (hb1.cell (p := ⟨sb, off + q * 2, none⟩) (by show sb < _; have := hBd.size; omega)).trans d1'
              have e2 := (hb1.cell (p := ⟨sb, off + q * 2 + 1, none⟩) (by show sb < _; have := hBd.size; omega)).trans d2'
              have htl : (S.take p).length = p := by rw [List.length_take, HSl.out]; omega
              simp only [List.length_nil, Nat.zero_add, htl] at hown1
              try simp only [List.length_nil, Nat.zero_add, htl]
              have HOWN1 : Hid _ := hown1
              clear hown1
              go_upto_region 11 with (at_builtin; refine wpList_append_own _ rfl _ _ 23 rfl Wd.heap.size 55 i0 (.agg #[.int .i64 0, .int .i64 0]) 2 16 Tryz.underlying23 hi0 hz0 hz1 hz2 rfl (by decide) _ _ _ rfl (World.ownsRow.alloc HOWN1.out _) ⟨w1.heap.size, 0, none⟩ 1 1 [.int .i64 x, .int .i64 y] rfl rfl (cell_two_new _ _ _ _) (by simp [Value.oneCell']) (by unfold maxLen; omega) (by omega) (by have := hb1.size; simp; omega) ?_; intro v2 w2 hown2 hgrow2 _; obtain ⟨g2, k2, rfl⟩ := ownsRow_succ hown2; have hb2 : Below Wd.heap.size Wd w2 := (hb1.alloc hb1.size _).grown hgrow2 (by have := hb1.size; simp; omega) (fun j e => (World.ownsRow.lt HOWN1.out j e).1))
              rw [← flat_two] at hown2
              have HOWN2 : Hid _ := hown2
              clear hown2
              have hBw2 : Below W.heap.size W w2 := hBd.trans (hb2.mono hBd.size)
              have hx2 : x = (x, y).1 := rfl
              by_cases hck : cs = p
              · have hdn : S.drop p = [] := List.drop_eq_nil_of_le (by have := HSl.out; omega)
                have HDN : Hid (S.drop p = []) := hdn
                clear hdn
                have hck9 : p = cs := hck.symm
                clear hck
                subst hck9
                go_wp2_with (at_builtin; refine wpList_app_any _ rfl _ _ rfl Wd.heap.size _ (p + 1) (S.take p ++ [(x, y)]) rfl HOWN2.out (by rw [List.length_append, List.length_singleton, List.length_take, HSl.out]; omega) _ (S.drop p) rfl (by rw [HDN.out]; first | exact Sr.nil _ _ _ | (simp; exact Sr.nil _ _ _)) (by rw [← List.length_append, ins_len p _ (by have := HSl.out; omega), HSl.out]; omega) hb2.size ?_; intro v3 w3 hown3 hb3 hn3)
                rw [show (S.take p ++ [(x, y)]).length + (S.drop p).length = q + 1 from by rw [← List.length_append, ins_len p _ (by have := HSl.out; omega), HSl.out]] at hown3
                obtain ⟨g3, k3, rfl, _, _⟩ := own_shape hown3
                have hB3 : Below W.heap.size W w3 := hBw2.trans (hb3.mono hBd.size)
                go_roundw
                case rel => exact ⟨q + 1, S.take p ++ [(x, y)] ++ S.drop p, by omega, by go_num, by rw [ins_len p _ (by have := HSl.out; omega), HSl.out], by rw [HTK.out]; exact ins_perm HSp.out _ _, ins_srt HSs.out (by have := HSl.out; omega) (x, y) (fun t h1 h2 => HAB.out t h1 (by have := HSl.out; omega)) (.inr HLE.out), own_base hown3 hBd.size, ⟨fun e => by injection e with _ e2 _, fun e => by omega⟩, hB3⟩
                case measure => simp [intOf]; omega
              · have hck2 : ¬ (cs : Int) = ((p : Nat) : Int) := by omega
                go_wp2_with (at_builtin; refine wpList_app_any _ rfl _ _ rfl Wd.heap.size _ (p + 1) (S.take p ++ [(x, y)]) rfl HOWN2.out (by rw [List.length_append, List.length_singleton, List.length_take, HSl.out]; omega) _ (S.drop p) rfl (Sr.drop (HSD.out.below hb2) p _ (by have := HSl.out; first | omega | (simp; omega)) _ (by first | rfl | omega | simp) _) (by rw [← List.length_append, ins_len p _ (by have := HSl.out; omega), HSl.out]; omega) hb2.size ?_; intro v3 w3 hown3 hb3 hn3)
                rw [show (S.take p ++ [(x, y)]).length + (S.drop p).length = q + 1 from by rw [← List.length_append, ins_len p _ (by have := HSl.out; omega), HSl.out]] at hown3
                obtain ⟨g3, k3, rfl, _, _⟩ := own_shape hown3
                have hB3 : Below W.heap.size W w3 := hBw2.trans (hb3.mono hBd.size)
                go_roundw
                case rel => exact ⟨q + 1, S.take p ++ [(x, y)] ++ S.drop p, by omega, by go_num, by rw [ins_len p _ (by have := HSl.out; omega), HSl.out], by rw [HTK.out]; exact ins_perm HSp.out _ _, ins_srt HSs.out (by have := HSl.out; omega) (x, y) (fun t h1 h2 => HAB.out t h1 (by have := HSl.out; omega)) (.inr HLE.out), own_base hown3 hBd.size, ⟨fun e => by injection e with _ e2 _, fun e => by omega⟩, hB3⟩
                case measure => simp [intOf]; omega
    · obtain rfl : q = n := by omega
      have htk : l.take q = l := by rw [← HN.out]; exact List.take_length
      have hperm : S.Perm l := by have h := HSp.out; rw [htk] at h; exact h
      have hvl : vld l = l := List.filter_eq_self.2 fun r hr => decide_eq_true (HOK.out r hr).2.1
      have HNF : Hid (joinF S = nf l) := nf_sorted l S (by rw [hvl]; exact hperm) HSs.out
      have HSOK : Hid (∀ r ∈ S, Rok r) := fun r hr => HOK.out _ (hperm.mem_iff.1 hr)
      obtain ⟨sq, cq, rfl, _, _⟩ := own_shape hrow
      have HCELL : Hid (0 < q → ∃ gs, sq = some ⟨gs, 0, none⟩ ∧ gs < wr.heap.size ∧ ∀ j u, (flat S)[j]? = some u → wr.cell? ⟨gs, j, none⟩ = some u) := fun h0 => by
        obtain ⟨gs, cs, e, _, h2, h3⟩ := own_some hrow h0
        injection e with e1 _ _
        exact ⟨gs, e1, h2, h3⟩
      clear hnil hrow htk hperm hvl
      obtain ⟨Wb, hWb⟩ : ∃ Wb, Wb = wr := ⟨_, rfl⟩
      subst hWb
      go_wp2
      go_loopw [7, 8, 9] (fun o i _ wr => ∃ (j : Nat), j ≤ q ∧ i = .int .i64 j ∧ wr.ownsRow Wb.heap.size 55 2 o (joinF (S.take j)).length (flat (joinF (S.take j))) ∧ (o = .slice none 0 0 ↔ j = 0) ∧ Below Wb.heap.size Wb wr) (fun _ i _ _ => q - (intOf i).toNat)
      case atStart => exact ⟨0, Nat.zero_le _, rfl, World.ownsRow_nil _ _ _ _, by simp, Below.refl _ _⟩
      case round =>
        obtain ⟨j, hj, rfl, hrow, hnil, hBq⟩ := hrel
        have hszq := hBq.size
        by_cases hlt2 : j < q
        · have hjl : j < S.length := by rw [HSl.out]; exact hlt2
          obtain ⟨gs, rfl, hgs, hcs⟩ := HCELL.out (by omega)
          obtain ⟨e1, e2⟩ := flat_even S j hjl
          have d1 := (hBq.cell (p := ⟨gs, j * 2, none⟩) hgs).trans (hcs _ _ e1)
          have d2 := (hBq.cell (p := ⟨gs, j * 2 + 1, none⟩) hgs).trans (hcs _ _ e2)
          have htk := joinF_take hjl
          obtain ⟨x, hx⟩ : ∃ x, lo S j = x := ⟨_, rfl⟩
          obtain ⟨y, hy⟩ : ∃ y, hi S j = y := ⟨_, rfl⟩
          rw [hx] at d1
          rw [hy] at d2
          rw [hx, hy] at htk
          have hlt' : (j : Int) < (q : Int) := by omega
          rcases Nat.eq_zero_or_pos j with hj0 | hj0
          · subst hj0
            have hov := hnil.2 rfl
            subst hov
            have HTK : Hid (joinF (S.take (0 + 1)) = [(x, y)]) := by unfold Hid; rw [htk]; simp [joinF, jstep]
            clear hcs e1 e2 hx hy htk hnil hrow
            go_wp2
            go_quiet (fail)
            obtain ⟨Wd, hWd⟩ : ∃ Wd, wr.drewN nq = Wd := ⟨_, rfl⟩
            have hBd : Below Wb.heap.size Wb Wd := by rw [← hWd]; exact below_drewN hBq nq
            have d1' : Wd.cell? ⟨gs, 0, none⟩ = some (.int .i64 x) := by rw [← hWd]; simpa using d1
            have d2' : Wd.cell? ⟨gs, 1, none⟩ = some (.int .i64 y) := by rw [← hWd]; simpa using d2
            rw [hWd]
            clear hWd d1 d2
            go_wp2_with (at_builtin; refine wpList_append_own _ rfl _ _ 23 rfl Wb.heap.size 55 i0 (.agg #[.int .i64 0, .int .i64 0]) 2 16 Tryz.underlying23 hi0 hz0 hz1 hz2 rfl (by decide) _ _ _ rfl (World.ownsRow_nil _ _ _ _) ⟨Wd.heap.size, 0, none⟩ 1 1 [.int .i64 x, .int .i64 y] rfl rfl (cell_two_new _ _ _ _) (by simp [Value.oneCell']) (by unfold maxLen; omega) (by omega) (by have := hBd.size; simp; omega) ?_; intro v' w1 hown' hgrow hnl; simp only [Nat.zero_add, List.nil_append] at hown'; have hB1 : Below Wb.heap.size Wb w1 := (hBd.alloc hBd.size _).grown hgrow (by have := hBd.size; simp; omega) (fun j e => by cases e))
            go_roundw
            case rel => exact ⟨1, by omega, by go_num, by have e := HTK.out; rw [Nat.zero_add] at e; rw [e]; exact hown', by simp [hnl], hB1⟩
            case measure => simp [intOf]; omega
          · obtain ⟨O, hO⟩ : ∃ O, joinF (S.take j) = O := ⟨_, rfl⟩
            have hOhi := joinF_hi (S.take j)
            have hOlen := joinF_len (S.take j)
            have hO0 : 0 < O.length := by rw [← hO]; exact joinF_some (by rw [List.length_take]; omega)
            rw [hO] at hrow htk hOhi hOlen
            obtain ⟨k, hk⟩ : ∃ k, O.length = k := ⟨_, rfl⟩
            have HK : Hid (O.length = k) := hk
            rw [hk] at hrow hO0 hOlen
            rw [List.length_take] at hOlen
            obtain ⟨go, co, rfl, hgo1, hgo2, hco⟩ := own_some hrow hO0
            obtain ⟨f1, f2⟩ := flat_even O (k - 1) (by omega)
            have p1 := hco _ _ f1
            have p2 := hco _ _ f2
            have hyb : Rok ((0 : Int), hi O (k - 1)) ∨ (-1000000 ≤ hi O (k - 1) ∧ hi O (k - 1) ≤ 1000000) := .inr (by
              obtain ⟨r, hr, e⟩ := hOhi O[k - 1] (List.getElem_mem _)
              have h9 := HSOK.out r (List.mem_of_mem_take hr)
              rw [hi_get O (k - 1) (by omega), e]
              unfold Rok at h9
              omega)
            have hyb2 : -1000000 ≤ hi O (k - 1) ∧ hi O (k - 1) ≤ 1000000 := by
              rcases hyb with h9 | h9
              · unfold Rok at h9; dsimp only at h9; omega
              · exact h9
            obtain ⟨x0, hx0⟩ : ∃ x0, lo O (k - 1) = x0 := ⟨_, rfl⟩
            obtain ⟨y0, hy0⟩ : ∃ y0, hi O (k - 1) = y0 := ⟨_, rfl⟩
            have HTK : Hid (joinF (S.take (j + 1)) = if x ≤ y0 + 1 then O.set (k - 1) (x0, if y0 < y then y else y0) else O ++ [(x, y)]) := by
              unfold Hid
              rw [htk]
              unfold jstep
              dsimp only
              rw [hk, hx0, hy0]
              by_cases h9 : x ≤ y0 + 1
              · rw [if_pos ⟨hO0, h9⟩, if_pos h9]
              · rw [if_neg (fun h => h9 h.2), if_neg h9]
            have HSAME : Hid (O.set (k - 1) (x0, y0) = O) := by
              unfold Hid
              rw [← hx0, ← hy0, lo_get O (k - 1) (by omega), hi_get O (k - 1) (by omega)]
              exact List.set_getElem_self _
            rw [hx0] at p1
            rw [hy0] at p2 hyb2
            obtain ⟨hy1, hy2⟩ := hyb2
            have hd0 : decide (0 < (k : Int)) = true := by simp; omega
            have hk1 : (k : Int) - 1 = ((k - 1 : Nat) : Int) := by omega
            have hko : (k : Int) ≤ 9223372036854775807 := by omega
            have hkm : (k - 1 : Nat) < k := by omega
            have hkm' : ((k - 1 : Nat) : Int) < (k : Int) := by omega
            have hsk := World.ownsRow.stored hrow
            have hfz := World.ownsRow.frozenAt hrow
            have HROW : Hid (wr.ownsRow Wb.heap.size 55 2 (.slice (some ⟨go, 0, none⟩) k co) k (flat O)) := hrow
            clear hcs e1 e2 hx hy htk hnil f1 f2 hco hx0 hy0 hyb hO hOhi hk hsk hfz hrow
            by_cases hc : x ≤ y0 + 1
            · have hd : decide (x ≤ y0 + 1) = true := by simpa using hc
              by_cases hc2 : y0 < y
              · have hd2 : decide (y0 < y) = true := by simpa using hc2
                go_wp2
                go_quiet (fail)
                obtain ⟨Wd, hWd⟩ : ∃ Wd, wr.drewN nq = Wd := ⟨_, rfl⟩
                have hBd : Below Wb.heap.size Wb Wd := by rw [← hWd]; exact below_drewN hBq nq
                have d1' : Wd.cell? ⟨gs, j * 2, none⟩ = some (.int .i64 x) := by rw [← hWd]; exact d1
                have d2' : Wd.cell? ⟨gs, j * 2 + 1, none⟩ = some (.int .i64 y) := by rw [← hWd]; exact d2
                have p1' : Wd.cell? ⟨go, (k - 1) * 2, none⟩ = some (.int .i64 x0) := by rw [← hWd]; exact p1
                have p2' : Wd.cell? ⟨go, (k - 1) * 2 + 1, none⟩ = some (.int .i64 y0) := by rw [← hWd]; exact p2
                have HROW' : Hid (Wd.ownsRow Wb.heap.size 55 2 (.slice (some ⟨go, 0, none⟩) k co) k (flat O)) := by rw [← hWd]; exact HROW.out
                rw [hWd]
                clear hWd d1 d2 p1 p2 HROW nq
                go_wp2
                go_quiet (fail)
                obtain ⟨We, hWe⟩ : ∃ We, Wd.drewN nq = We := ⟨_, rfl⟩
                have hBe : Below Wb.heap.size Wb We := by rw [← hWe]; exact below_drewN hBd nq
                have d1 : We.cell? ⟨gs, j * 2, none⟩ = some (.int .i64 x) := by rw [← hWe]; exact d1'
                have d2 : We.cell? ⟨gs, j * 2 + 1, none⟩ = some (.int .i64 y) := by rw [← hWe]; exact d2'
                have p1 : We.cell? ⟨go, (k - 1) * 2, none⟩ = some (.int .i64 x0) := by rw [← hWe]; exact p1'
                have p2 : We.cell? ⟨go, (k - 1) * 2 + 1, none⟩ = some (.int .i64 y0) := by rw [← hWe]; exact p2'
                have HROW : Hid (We.ownsRow Wb.heap.size 55 2 (.slice (some ⟨go, 0, none⟩) k co) k (flat O)) := by rw [← hWe]; exact HROW'.out
                rw [hWe]
                clear hWe d1' d2' p1' p2' HROW' hBd
                have fz1 := World.ownsRow.frozenAt HROW.out ((k - 1) * 2)
                have fz2 := World.ownsRow.frozenAt HROW.out ((k - 1) * 2 + 1)
                go_wp2
                refine (wpIn_wide (n := 0)).1 ?_
                refine region_last (by kernel_rfl) (by kernel_rfl) (by kernel_rfl) rfl rfl ?_
                dsimp only [List.dropLast]
                repeat (gi_big_quiet_step (fail))
                refine wpQuietIn_nil ?_
                rintro _ ⟨nq2, rfl⟩ K2 hK2
                dsimp only [List.getLast]
                go_simp
                refine hK2 _ _ ?_
                clear hK2 K2
                have hrw : (((We.drewN nq2).setCell ⟨go, (k - 1) * 2, none⟩ (.int .i64 x0)).setCell ⟨go, (k - 1) * 2 + 1, none⟩ (.int .i64 y)).ownsRow Wb.heap.size 55 2 (.slice (some ⟨go, 0, none⟩) k co) k (flat (O.set (k - 1) (x0, y))) := by
                  rw [flat_put O (k - 1) (by rw [HK.out]; omega)]
                  exact (World.ownsRow.stored (World.ownsRow.stored (show (We.drewN nq2).ownsRow Wb.heap.size 55 2 (.slice (some ⟨go, 0, none⟩) k co) k (flat O) from HROW.out) _ _).1 _ _).1
                have HRW : Hid _ := hrw
                have hBf : Below Wb.heap.size Wb (((We.drewN nq2).setCell ⟨go, (k - 1) * 2, none⟩ (.int .i64 x0)).setCell ⟨go, (k - 1) * 2 + 1, none⟩ (.int .i64 y)) := ((below_drewN hBe nq2).setCell (p := ⟨go, _, none⟩) hgo1 _).setCell (p := ⟨go, _, none⟩) hgo1 _
                clear hrw
                go_wp2
                go_roundw
                case rel => exact ⟨j + 1, by omega, by go_num, by rw [HTK.out, if_pos hc, if_pos hc2, List.length_set, HK.out]; exact HRW.out, ⟨fun e => by simp at e, fun e => by omega⟩, hBf⟩
                case measure => simp [intOf]; omega
              · have hd2 : decide (y0 < y) = false := by simpa using hc2
                go_wp2
                go_quiet (fail)
                obtain ⟨Wd, hWd⟩ : ∃ Wd, wr.drewN nq = Wd := ⟨_, rfl⟩
                have hBd : Below Wb.heap.size Wb Wd := by rw [← hWd]; exact below_drewN hBq nq
                have d1' : Wd.cell? ⟨gs, j * 2, none⟩ = some (.int .i64 x) := by rw [← hWd]; exact d1
                have d2' : Wd.cell? ⟨gs, j * 2 + 1, none⟩ = some (.int .i64 y) := by rw [← hWd]; exact d2
                have p1' : Wd.cell? ⟨go, (k - 1) * 2, none⟩ = some (.int .i64 x0) := by rw [← hWd]; exact p1
                have p2' : Wd.cell? ⟨go, (k - 1) * 2 + 1, none⟩ = some (.int .i64 y0) := by rw [← hWd]; exact p2
                have HROW' : Hid (Wd.ownsRow Wb.heap.size 55 2 (.slice (some ⟨go, 0, none⟩) k co) k (flat O)) := by rw [← hWd]; exact HROW.out
                rw [hWd]
                clear hWd d1 d2 p1 p2 HROW nq
                go_wp2
                go_quiet (fail)
                go_wp2
                go_roundw
                case rel => exact ⟨j + 1, by omega, by go_num, by rw [HTK.out, if_pos hc, if_neg (by omega), HSAME.out, HK.out]; exact HROW'.out, ⟨fun e => by simp at e, fun e => by omega⟩, below_drewN hBd _⟩
                case measure => simp [intOf]; omega
            · have hd : decide (x ≤ y0 + 1) = false := by simpa using hc
              go_wp2
              go_quiet (fail)
              obtain ⟨Wd, hWd⟩ : ∃ Wd, wr.drewN nq = Wd := ⟨_, rfl⟩
              have hBd : Below Wb.heap.size Wb Wd := by rw [← hWd]; exact below_drewN hBq nq
              have d1' : Wd.cell? ⟨gs, j * 2, none⟩ = some (.int .i64 x) := by rw [← hWd]; exact d1
              have d2' : Wd.cell? ⟨gs, j * 2 + 1, none⟩ = some (.int .i64 y) := by rw [← hWd]; exact d2
              have HROW' : Hid (Wd.ownsRow Wb.heap.size 55 2 (.slice (some ⟨go, 0, none⟩) k co) k (flat O)) := by rw [← hWd]; exact HROW.out
              rw [hWd]
              clear hWd d1 d2 p1 p2
              go_wp2_with (at_builtin; refine wpList_append_own _ rfl _ _ 23 rfl Wb.heap.size 55 i0 (.agg #[.int .i64 0, .int .i64 0]) 2 16 Tryz.underlying23 hi0 hz0 hz1 hz2 rfl (by decide) _ _ _ rfl (World.ownsRow.alloc HROW'.out _) ⟨Wd.heap.size, 0, none⟩ 1 1 [.int .i64 x, .int .i64 y] rfl rfl (cell_two_new _ _ _ _) (by simp [Value.oneCell']) (by unfold maxLen; omega) (by omega) (by have := hBd.size; simp; omega) ?_; intro v' w1 hown' hgrow hnl; have hB1 : Below Wb.heap.size Wb w1 := (hBd.alloc hBd.size _).grown hgrow (by have := hBd.size; simp; omega) (fun j e => (World.ownsRow.lt HROW'.out j e).1))
              go_roundw
              case rel => exact ⟨j + 1, by omega, by go_num, by rw [HTK.out, if_neg (by omega), flat_two, List.length_append, HK.out]; exact hown', by simp [hnl], hB1⟩
              case measure => simp [intOf]; omega
        · obtain rfl : j = q := by omega
          have hst : S.take j = S := by rw [← HSl.out]; exact List.take_length
          rw [hst, HNF.out] at hrow
          have HJL : Hid (u7 = .slice none 0 0 ↔ nf l = []) := by
            refine hnil.trans ⟨fun e => ?_, fun e => ?_⟩
            · have : S = [] := List.eq_nil_of_length_eq_zero (by rw [HSl.out]; exact e)
              rw [← HNF.out, this]; rfl
            · apply Classical.byContradiction; intro h9
              have := joinF_some (S := S) (by rw [HSl.out]; omega)
              rw [HNF.out, e] at this
              simp at this
          clear hst hnil
          go_wp2
          go_ret
          exact ⟨_, rfl, own_base hrow hsz, HJL.out, hB.trans (hBq.mono hsz)⟩

theorem sr_form {W : World} {s : Value} {l : List Rg} (h : Sr W s l) : ∃ a n c, s = .slice a n c := by
  obtain ⟨a, c, rfl, _⟩ := h
  exact ⟨_, _, _, rfl⟩
theorem vld_le (l : List Rg) : (vld l).length ≤ l.length := List.length_filter_le _ _
theorem nf_vld (l : List Rg) : nf (vld l) = nf l := by
  have e : vld (vld l) = vld l := by unfold vld; rw [List.filter_filter]; congr 1; funext r; simp
  unfold nf; rw [e]
theorem bad_take {l : List Rg} {k : Nat} (hk : k < l.length) : bad (l.take (k + 1)) ↔ bad (l.take k) ∨ (lo l k ≤ hi l k ∧ ¬ (-1000000 ≤ lo l k ∧ hi l k ≤ 1000000)) := by
  unfold bad
  rw [take_two l k hk]
  constructor
  · rintro ⟨r, hr, h⟩
    rcases List.mem_append.1 hr with h9 | h9
    · exact .inl ⟨r, h9, h⟩
    · rw [List.mem_singleton] at h9; subst h9; exact .inr h
  · rintro (⟨r, hr, h⟩ | h)
    · exact ⟨r, List.mem_append.2 (.inl hr), h⟩
    · exact ⟨_, List.mem_append.2 (.inr (List.mem_singleton.2 rfl)), h⟩
theorem bad_of_take {l : List Rg} {k : Nat} (h : bad (l.take k)) : bad l := by
  obtain ⟨r, hr, h9⟩ := h
  exact ⟨r, List.mem_of_mem_take hr, h9⟩

set_option maxRecDepth 100000 in
set_option maxHeartbeats 8000000 in
theorem refnorm_any (s : Value) (l : List Rg) (W : World) (h : Sr W s l) (hlen : l.length * 16 ≤ 140737488351232) :
    Calls Tryz.prog 13 #[s] W fun e w' => NormEnd l W e w' := by
  obtain ⟨i0, hi0, hz0, hz1, hz2⟩ := info_parts Tryz.info55
  obtain ⟨sa, cap, rfl, hcell⟩ := h
  obtain ⟨n, hn⟩ : ∃ n, l.length = n := ⟨_, rfl⟩
  have HN : Hid (l.length = n) := hn
  have HC : Hid _ := hcell
  rw [hn] at hlen ⊢
  clear hn hcell
  go_enter Tryz.func13, Tryz.ntmps13
  go_wp2
  go_loopw [4, 5] (fun o i wr => ∃ (k : Nat), k ≤ n ∧ i = .int .i64 k ∧ wr.ownsRow W.heap.size 55 2 o (vld (l.take k)).length (flat (vld (l.take k))) ∧ ¬ bad (l.take k) ∧ Below W.heap.size W wr) (fun _ i _ => n - (intOf i).toNat)
  case atStart => exact ⟨0, Nat.zero_le _, rfl, World.ownsRow_nil _ _ _ _, by rintro ⟨r, hr, _⟩; simp at hr, Below.refl _ _⟩
  case round =>
    obtain ⟨k, hk, rfl, hrow, hnb, hB⟩ := hrel
    have hsz := hB.size
    have HNB : Hid (¬ bad (l.take k)) := hnb
    clear hnb
    by_cases hlt : k < n
    · have hkl : k < l.length := by rw [HN.out]; exact hlt
      obtain ⟨sb, off, rfl, hb, hcells⟩ := HC.out (by omega)
      obtain ⟨c1, c2⟩ := hcells k hkl
      have d1 := (hB.cell (p := ⟨sb, off + k * 2, none⟩) hb).trans c1
      have d2 := (hB.cell (p := ⟨sb, off + k * 2 + 1, none⟩) hb).trans c2
      have htk := vld_take l k hkl
      have hbt := bad_take hkl
      have hvl := vld_le (l.take k)
      rw [List.length_take] at hvl
      obtain ⟨V, hV⟩ : ∃ V, vld (l.take k) = V := ⟨_, rfl⟩
      obtain ⟨m, hm⟩ : ∃ m, V.length = m := ⟨_, rfl⟩
      rw [hV] at hrow htk hvl
      rw [hm] at hrow hvl
      obtain ⟨x, hx⟩ : ∃ x, lo l k = x := ⟨_, rfl⟩
      obtain ⟨y, hy⟩ : ∃ y, hi l k = y := ⟨_, rfl⟩
      rw [hx] at d1
      rw [hy] at d2
      rw [hx, hy] at htk hbt
      have HTK : Hid (vld (l.take (k + 1)) = V ++ (if x ≤ y then [(x, y)] else [])) := htk
      have HBT : Hid (bad (l.take (k + 1)) ↔ bad (l.take k) ∨ (x ≤ y ∧ ¬ (-1000000 ≤ x ∧ y ≤ 1000000))) := hbt
      have HM : Hid (V.length = m) := hm
      have hlt' : (k : Int) < (n : Int) := by omega
      obtain ⟨ua, uc, rfl, _, _⟩ := own_shape hrow
      have HROW : Hid (wr.ownsRow W.heap.size 55 2 (.slice ua m uc) m (flat V)) := hrow
      have hmk : m ≤ k := by omega
      clear hcells c1 c2 hx hy htk hkl hbt hm hV hrow hvl
      by_cases hxy : x ≤ y
      · have hd : decide (y < x) = false := by simp; omega
        have ki := fun X => in_any x X
        have kj := fun X => in_any y X
        go_wp2
        go_quiet (fail)
        obtain ⟨Wd, hWd⟩ : ∃ Wd, wr.drewN nq = Wd := ⟨_, rfl⟩
        have hBd : Below W.heap.size W Wd := by rw [← hWd]; exact below_drewN hB nq
        have d1' : Wd.cell? ⟨sb, off + k * 2, none⟩ = some (.int .i64 x) := by rw [← hWd]; exact d1
        have d2' : Wd.cell? ⟨sb, off + k * 2 + 1, none⟩ = some (.int .i64 y) := by rw [← hWd]; exact d2
        have HROW' : Hid (Wd.ownsRow W.heap.size 55 2 (.slice ua m uc) m (flat V)) := by rw [← hWd]; exact HROW.out
        rw [hWd]
        clear hWd d1 d2 HROW
        by_cases g1 : -1000000 ≤ x
        · by_cases g2 : y ≤ 1000000
          · simp only [inV_yes (v := x) g1 (by omega)] at ki
            simp only [inV_yes (v := y) (by omega) g2] at kj
            go_wp2_with fail
            refine (ki _).mono ?_
            rintro e Wd ⟨rfl, rfl⟩
            go_wp2_with fail
            refine (kj _).mono ?_
            rintro e Wd ⟨rfl, rfl⟩
            clear ki kj
            go_wp2_with (at_builtin; refine wpList_append_own _ rfl _ _ 23 rfl W.heap.size 55 i0 (.agg #[.int .i64 0, .int .i64 0]) 2 16 Tryz.underlying23 hi0 hz0 hz1 hz2 rfl (by decide) _ _ _ rfl (World.ownsRow.alloc HROW'.out _) ⟨Wd.heap.size, 0, none⟩ 1 1 [.int .i64 x, .int .i64 y] rfl rfl (cell_two_new _ _ _ _) (by simp [Value.oneCell']) (by unfold maxLen; omega) (by omega) (by have := hBd.size; simp; omega) ?_; intro v' w1 hown' hgrow hnl; have hB1 : Below W.heap.size W w1 := (hBd.alloc hBd.size _).grown hgrow (by have := hBd.size; simp; omega) (fun j e => (World.ownsRow.lt HROW'.out j e).1))
            go_roundw
            case rel => exact ⟨k + 1, by omega, by go_num, by rw [HTK.out, if_pos hxy, flat_two, List.length_append, HM.out]; exact hown', fun h9 => (HBT.out.1 h9).elim HNB.out (fun h8 => h8.2 ⟨g1, g2⟩), hB1⟩
            case measure => simp [intOf]; omega
          · have hbl : bad l := bad_of_take (k := k + 1) (HBT.out.2 (.inr ⟨hxy, fun h9 => g2 h9.2⟩))
            have HBL : Hid (bad l) := hbl
            clear hbl
            by_cases g3 : x ≤ 1000000
            · simp only [inV_yes (v := x) g1 g3] at ki
              simp only [inV_no (v := y) (fun h9 => g2 h9.2)] at kj
              go_wp2_with fail
              refine (ki _).mono ?_
              rintro e Wd ⟨rfl, rfl⟩
              go_wp2_with fail
              refine (kj _).mono ?_
              rintro e Wd ⟨rfl, rfl⟩
              clear ki kj
              go_wp2
              (try rw [Exit.noGoto_ret])
              go_ret2
              exact ⟨_, _, rfl, hBd, .inl ⟨HBL.out, rfl, rfl⟩⟩
            · simp only [inV_no (v := x) (fun h9 => g3 h9.2)] at ki
              go_wp2_with fail
              refine (ki _).mono ?_
              rintro e Wd ⟨rfl, rfl⟩
              clear ki kj
              go_wp2
              (try rw [Exit.noGoto_ret])
              go_ret2
              exact ⟨_, _, rfl, hBd, .inl ⟨HBL.out, rfl, rfl⟩⟩
        · have hbl : bad l := bad_of_take (k := k + 1) (HBT.out.2 (.inr ⟨hxy, fun h9 => g1 h9.1⟩))
          have HBL : Hid (bad l) := hbl
          clear hbl
          simp only [inV_no (v := x) (fun h9 => g1 h9.1)] at ki
          go_wp2_with fail
          refine (ki _).mono ?_
          rintro e Wd ⟨rfl, rfl⟩
          clear ki kj
          go_wp2
          (try rw [Exit.noGoto_ret])
          go_ret2
          exact ⟨_, _, rfl, hBd, .inl ⟨HBL.out, rfl, rfl⟩⟩
      · have hd : decide (y < x) = true := by simp; omega
        go_wp2
        go_quiet (fail)
        go_wp2
        go_roundw
        case rel => exact ⟨k + 1, by omega, by go_num, by rw [HTK.out, if_neg (by omega), List.append_nil, HM.out]; exact HROW.out, fun h9 => (HBT.out.1 h9).elim HNB.out (fun h8 => by omega), below_drewN hB _⟩
        case measure => simp [intOf]; omega
    · obtain rfl : k = n := by omega
      have htk : l.take k = l := by rw [← HN.out]; exact List.take_length
      rw [htk] at hrow HNB
      have hvl := vld_le l
      have hsr := own_srl hrow
      have kj := joined_any _ (vld l) wr hsr (fun r hr => vld_ok HNB.out r hr) (by have := HN.out; omega)
      rw [nf_vld] at kj
      obtain ⟨av, vn, cv, rfl⟩ := sr_form hsr
      clear htk hsr hrow hvl
      go_wp2_with fail
      refine kj.mono ?_
      clear kj
      rintro e w1 ⟨s', rfl, hown, hnl, hb1⟩
      have HOWN : Hid (w1.ownsRow wr.heap.size 55 2 s' (nf l).length (flat (nf l))) := hown
      have HNL : Hid (s' = .slice none 0 0 ↔ nf l = []) := hnl
      obtain ⟨a1, c1, e1, _, _⟩ := own_shape hown
      obtain ⟨k', hk'⟩ : ∃ k', (nf l).length = k' := ⟨_, rfl⟩
      rw [hk'] at e1
      subst e1
      have HK : Hid ((nf l).length = k') := hk'
      clear hown hnl hk'
      by_cases hbig : k' ≤ 4096
      · have hd : decide (4096 < (k' : Int)) = false := by simp; omega
        go_wp2
        go_ret2
        exact ⟨_, _, rfl, hB.trans (hb1.mono hsz), .inr (.inl ⟨HNB.out, rfl, by rw [HK.out]; exact hbig, own_base HOWN.out hsz, HNL.out⟩)⟩
      · have hd : decide (4096 < (k' : Int)) = true := by simp; omega
        go_wp2
        go_ret2
        exact ⟨_, _, rfl, hB.trans (hb1.mono hsz), .inr (.inr ⟨HNB.out, rfl, by rw [HK.out]; omega, rfl⟩)⟩

theorem taken_tk (s : Value) (l : List Rg) (w : World) (h : Sr w s l) :
    Calls Tryz.prog 63 #[s] w fun e w' => ∃ a n c, e = .returned (.slice a n c) ∧ Sr w (.slice a n c) (tk l) ∧ n = (tk l).length ∧ ∃ m, w' = w.drewN m := by
  by_cases hR : Right l
  · refine (taken_yes s l w h hR).mono fun e w' ⟨he, hb⟩ => ?_
    have h0 := h
    obtain ⟨a, cap, rfl, _⟩ := h
    exact ⟨a, _, cap, he, by rw [tk_yes hR]; exact h0, by rw [tk_yes hR], hb⟩
  · refine (taken_no s l w h hR).mono fun e w' ⟨he, hb⟩ => ?_
    exact ⟨none, 0, 0, he, by rw [tk_no hR]; exact Sr.nil _ _ _, by rw [tk_no hR]; rfl, hb⟩
set_option maxRecDepth 100000 in
set_option maxHeartbeats 1000000 in
theorem refcut_no (s : Value) (l : List Rg) (a b : Int) (W : World) (h : Sr W s l) (hR : ¬ Right l) :
    Calls Tryz.prog 44 #[s, .int .i64 a, .int .i64 b] W fun e w' => e = .returned (.slice none 0 0) ∧ Below W.heap.size W w' := by
  have kt := taken_no s l W h hR
  obtain ⟨sa, cap, rfl, _⟩ := h
  obtain ⟨n, hn⟩ : ∃ n, l.length = n := ⟨_, rfl⟩
  rw [hn] at kt ⊢
  clear hn hR
  go_enter Tryz.func44, Tryz.ntmps44
  go_wp2_with fail
  refine kt.mono ?_
  rintro e w0 ⟨rfl, m0, rfl⟩
  have hB0 : Below W.heap.size W (W.drewN m0) := below_drewN (Below.refl _ _) m0
  clear kt
  go_wp2
  go_loopw [7, 8, 9] (fun o i _ wr => i = .int .i64 0 ∧ o = .slice none 0 0 ∧ wr = W.drewN m0) (fun _ _ _ _ => 0)
  case atStart => exact ⟨rfl, rfl, rfl⟩
  case round =>
    obtain ⟨rfl, rfl, rfl⟩ := hrel
    go_wp2
    go_ret
    exact ⟨rfl, hB0⟩
theorem refcut_tk (s : Value) (l : List Rg) (a b : Int) (W : World) (h : Sr W s l) :
    Calls Tryz.prog 44 #[s, .int .i64 a, .int .i64 b] W fun e w' => ∃ s', e = .returned s' ∧ w'.ownsRow W.heap.size 55 2 s' (cutL (tk l) a b).length (flat (cutL (tk l) a b)) ∧ (s' = .slice none 0 0 ↔ cutL (tk l) a b = []) ∧ Below W.heap.size W w' := by
  by_cases hR : Right l
  · rw [tk_yes hR]; exact refcut_any s l a b W h hR
  · rw [tk_no hR]
    refine (refcut_no s l a b W h hR).mono fun e w' ⟨he, hb⟩ => ⟨_, he, World.ownsRow_nil _ _ _ _, by simp [cutL], hb⟩
set_option maxHeartbeats 1000000 in
theorem refnot_tk (s : Value) (l : List Rg) (w : World) (h : Sr w s l) :
    Calls Tryz.prog 46 #[s] w fun e w' => ∃ s', e = .returned s' ∧ w'.ownsRow w.heap.size 55 2 s' (notR l).length (flat (notR l)) ∧ Below w.heap.size w w' := by
  have hk := taken_tk s l w h
  obtain ⟨a0, c0, rfl, _⟩ := h
  go_enter Tryz.func46, Tryz.ntmps46
  go_wp2_with fail
  refine hk.mono ?_
  clear hk
  rintro e w1 ⟨a, n, c, rfl, hS, hn, m, rfl⟩
  have hb : Below w.heap.size w (w.drewN m) := below_drewN (Below.refl _ _) m
  have hgg := refnot_any (.slice a n c) (tk l) (w.drewN m) (hS.below hb) (tk_right l)
  clear hS hn
  go_wp2_with fail
  refine hgg.mono ?_
  clear hgg
  rintro e w2 ⟨s2, rfl, hrow, _, hb2⟩
  have HROW : Hid (w2.ownsRow w.heap.size 55 2 s2 (notL (tk l)).length (flat (notL (tk l)))) := hrow
  have hb12 : Below w.heap.size w w2 := hb.trans (hb2.mono hb.size)
  obtain ⟨sa, sn, sc, rfl, hsn⟩ : ∃ b n c, s2 = .slice b n c ∧ n = (notL (tk l)).length := by
    rcases hrow.2 with ⟨e, e2⟩ | ⟨q1, q2, q3, e, _⟩
    · exact ⟨_, _, _, e, e2.symm⟩
    · exact ⟨_, _, _, e, rfl⟩
  have HSN : Hid (sn = (notL (tk l)).length) := hsn
  clear hrow hsn
  by_cases hlt : sn ≤ 4096
  · have hd : decide (4096 < (sn : Int)) = false := by simp; omega
    go_wp2
    go_ret
    refine ⟨_, rfl, ?_, hb12⟩
    unfold notR
    rw [if_pos (by rw [← HSN.out]; exact hlt)]
    exact HROW.out
  · have hd : decide (4096 < (sn : Int)) = true := by simp; omega
    go_wp2
    go_ret
    refine ⟨_, rfl, ?_, hb12⟩
    unfold notR
    rw [if_neg (by rw [← HSN.out]; exact hlt)]
    exact World.ownsRow_nil _ _ _ _
set_option maxRecDepth 100000 in
set_option maxHeartbeats 2000000 in
theorem refeither_any (s1 s2 : Value) (la lb : List Rg) (w : World) (h1 : Sr w s1 la) (h2 : Sr w s2 lb) :
    Calls Tryz.prog 37 #[s1, s2] w fun e w' => NormEnd (tk la ++ tk lb) w e w' := by
  have hk1 := taken_tk s1 la w h1
  have hk2 := fun W (hW : Below w.heap.size w W) => taken_tk s2 lb W (h2.below hW)
  have hla := tk_len la
  have hlb := tk_len lb
  obtain ⟨a1, c1, rfl, _⟩ := h1
  obtain ⟨a2, c2, rfl, _⟩ := h2
  obtain ⟨na, hna⟩ : ∃ na, (tk la).length = na := ⟨_, rfl⟩
  have HNA : Hid ((tk la).length = na) := hna
  clear hna
  go_enter Tryz.func37, Tryz.ntmps37
  go_wp2_with fail
  refine hk1.mono ?_
  clear hk1
  rintro e w1 ⟨a, n, c, rfl, hS1, hn1, m1, rfl⟩
  have hb1 : Below w.heap.size w (w.drewN m1) := below_drewN (Below.refl _ _) m1
  have HS1 : Hid (Sr (w.drewN m1) (.slice a n c) (tk la)) := hS1.below hb1
  obtain ⟨wd, hwd⟩ : ∃ wd, w.drewN m1 = wd := ⟨_, rfl⟩
  rw [hwd] at hb1 HS1 ⊢
  clear hS1 hn1 hwd
  go_wp2_with (at_builtin; refine wpList_app_any _ rfl _ _ rfl w.heap.size _ 0 [] rfl (World.ownsRow_nil _ _ _ _) rfl _ (tk la) rfl HS1.out (by simp; omega) hb1.size ?_; intro v1 w2 hown1 hb2 _; rw [List.nil_append, show ([] : List Rg).length + (tk la).length = na from by rw [HNA.out]; simp] at hown1; obtain ⟨g1, k1, e1, _, _⟩ := own_shape hown1; subst e1; have HOWN1 : Hid (w2.ownsRow w.heap.size 55 2 (.slice g1 na k1) na (flat (tk la))) := hown1; clear hown1; have hb12 : Below w.heap.size w w2 := hb1.trans hb2)
  refine (hk2 w2 hb12).mono ?_
  clear hk2
  rintro e w3 ⟨a', n', c', rfl, hS2, hn2, m2, rfl⟩
  have hb3 : Below w2.heap.size w2 (w2.drewN m2) := below_drewN (Below.refl _ _) m2
  have HS2 : Hid (Sr (w2.drewN m2) (.slice a' n' c') (tk lb)) := hS2.below hb3
  have HOWN2 : Hid ((w2.drewN m2).ownsRow w.heap.size 55 2 (.slice g1 na k1) na (flat (tk la))) := HOWN1.out
  obtain ⟨w4, hw4⟩ : ∃ wd, w2.drewN m2 = wd := ⟨_, rfl⟩
  rw [hw4] at hb3 HS2 HOWN2 ⊢
  have hb14 : Below w.heap.size w w4 := hb12.trans (hb3.mono hb12.size)
  clear hS2 hn2 hw4 HOWN1
  go_wp2_with (at_builtin; refine wpList_app_any _ rfl _ _ rfl w.heap.size _ na (tk la) rfl HOWN2.out HNA.out.symm _ (tk lb) rfl HS2.out (by have := HNA.out; omega) hb14.size ?_; intro v2 w5 hown2 hb5 _; have HS5 : Hid (Sr w5 v2 (tk la ++ tk lb)) := own_srl (by rw [List.length_append]; exact hown2); obtain ⟨g2, n2, k2, e2⟩ := sr_form HS5.out; subst e2; clear hown2; have hb15 : Below w.heap.size w w5 := hb14.trans hb5)
  refine (refnorm_any _ (tk la ++ tk lb) w5 HS5.out (by rw [List.length_append]; omega)).mono ?_
  rintro e w6 ⟨s6, cc, rfl, hb6, hcase⟩
  have HC : Hid _ := hcase
  clear hcase
  go_wp2
  go_ret2
  refine ⟨s6, cc, rfl, hb15.trans (hb6.mono hb15.size), ?_⟩
  rcases HC.out with h | ⟨q1, q2, q3, q4, q5⟩ | h
  · exact .inl h
  · exact .inr (.inl ⟨q1, q2, q3, own_base q4 hb15.size, q5⟩)
  · exact .inr (.inr h)
end Go.Proofs.YtkloadlodofipaaGreatDoor
