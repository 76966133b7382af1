/-
  What is proved here: what dom.overlaps, dom.Cut and dom.Both return of any ranges.
  What is proved here: what dom.gaps and dom.Less return of any ranges.
-/
import Derived.Test.YthkliicmoandmaaGreatDoorZEe
import Derived.Test.YthkliicmoandmaaGreatDoorZVe
namespace Go.Proofs.YthkliicmoandmaaGreatDoor.Dm
set_option linter.unusedSimpArgs false
set_option linter.unusedVariables false
open Go.RowKit Go.Shelf
set_option linter.unusedVariables false

/-- Ranges as they are taken: none, if they are not right. -/
def tk (l : List Rg) : List Rg := if Right l then l else []
theorem right_nil : Right [] := ⟨by simp, fun i hi => by simp at hi⟩
theorem tk_right (l : List Rg) : Right (tk l) := by unfold tk; split; assumption; exact right_nil
theorem tk_yes {l : List Rg} (h : Right l) : tk l = l := if_pos h
theorem tk_no {l : List Rg} (h : ¬ Right l) : tk l = [] := if_neg h
theorem Sr.nil (W : World) (cap : Nat) (a : Option Addr) : Sr W (.slice a 0 cap) [] := ⟨a, cap, rfl, fun h => absurd h (by simp)⟩

theorem known_tk (s : Value) (l : List Rg) (w : World) (h : Sr w s l) (hf : FitsR l) :
    Calls Tryz.prog 125 #[s] w fun e w' => ∃ a n c, e = .returned (.slice a n c) ∧ Sr w (.slice a n c) (tk l) ∧ n = (tk l).length ∧ Below w.heap.size w w' := by
  by_cases hR : Right l
  · refine (known_yes s l w h hf hR).mono fun e w' ⟨he, hb⟩ => ?_
    have h0 := h
    obtain ⟨a, cap, rfl, _⟩ := h
    exact ⟨a, _, cap, he, by rw [tk_yes hR]; exact h0, by rw [tk_yes hR], hb⟩
  · refine (known_no s l w h hf hR).mono fun e w' ⟨he, hb⟩ => ?_
    exact ⟨none, 0, 0, he, by rw [tk_no hR]; exact Sr.nil _ _ _, by rw [tk_no hR]; rfl, hb⟩

set_option maxHeartbeats 400000 in
theorem overlaps_any (a1 a2 : Option Addr) (n1 c1 n2 c2 : Nat) (w : World) :
    Calls Tryz.prog 136 #[.slice a1 n1 c1, .slice a2 n2 c2] w fun e w' => e = .returned (.func (.func 153) #[] #[.pointer (some ⟨w.heap.size, 0, none⟩), .pointer (some ⟨w.heap.size + 1, 0, none⟩)]) ∧ w' = (w.alloc (.cells #[.slice a1 n1 c1] 47)).alloc (.cells #[.slice a2 n2 c2] 47) := by
  have hmf : ∀ (fn : Fn) (first cap : Array Value) (w : World), (Instr.makeFunc fn first cap).run Tryz.prog w = .ok (.func fn first cap) w := fun _ _ _ _ => rfl
  go_enter Tryz.func136, Tryz.ntmps136
  go_wp2
  go_ret
  exact ⟨rfl, rfl⟩

theorem Lists.mk {W W1 : World} {B : Nat} {s : Value} {l : List Rg} (h : Sr W s l) (hb : Below W.heap.size W W1) (hB : Boxed W1 B 47 s) : Lists W1.heap.size W1 B l := by
  obtain ⟨a, cap, rfl, hc⟩ := h
  refine ⟨_, hB.lt, hB.cell, a, cap, rfl, fun h0 => ?_⟩
  obtain ⟨b, off, e, hlt, hcell⟩ := hc h0
  exact ⟨b, off, e, Nat.lt_of_lt_of_le hlt hb.size, fun i hi => ⟨(hb.cell (p := ⟨b, off + i * 2, none⟩) hlt).trans (hcell i hi).1, (hb.cell (p := ⟨b, off + i * 2 + 1, none⟩) hlt).trans (hcell i hi).2⟩⟩
theorem JoinEnd.down {L : List Rg} {W W1 w' : World} {e : Ending} (h : JoinEnd L W1 e w') (hb : Below W.heap.size W W1) : JoinEnd L W e w' := by
  obtain ⟨s, c, he, h1, h2⟩ := h
  refine ⟨s, c, he, hb.trans (h1.mono hb.size), ?_⟩
  rcases h2 with ⟨e1, e2, e3, e4⟩ | h2
  · exact .inl ⟨e1, e2, own_base e3 hb.size, e4⟩
  · exact .inr h2

theorem joinO (A B : Nat) (s1 s2 : Value) (a b : List Rg) (W : World) (eA : A = W.heap.size) (eB : B = W.heap.size + 1) (h1 : Sr W s1 a) (h2 : Sr W s2 b) (ha : ∀ i, i < a.length → -1000000 ≤ lo a i ∧ hi a i ≤ 1000000) (hla : a.length ≤ 5000) (hlb : b.length ≤ 5000) :
    Calls Tryz.prog 135 #[.func (.func 153) #[] #[.pointer (some ⟨A, 0, none⟩), .pointer (some ⟨B, 0, none⟩)]] ((W.alloc (.cells #[s1] 47)).alloc (.cells #[s2] 47)) fun e w' => JoinEnd (ov a b) W e w' := by
  subst eA eB
  have hb : Below W.heap.size W ((W.alloc (.cells #[s1] 47)).alloc (.cells #[s2] 47)) := ((Below.refl _ W).alloc (Nat.le_refl _) _).alloc (by simp) _
  have b1 : Boxed ((W.alloc (.cells #[s1] 47)).alloc (.cells #[s2] 47)) W.heap.size 47 s1 := (Boxed.new W 47 s1).alloc _
  have b2 : Boxed ((W.alloc (.cells #[s1] 47)).alloc (.cells #[s2] 47)) (W.heap.size + 1) 47 s2 := by have h9 := Boxed.new (W.alloc (.cells #[s1] 47)) 47 s2; rw [World.size_alloc] at h9; exact h9
  have L1 := Lists.mk h1 hb b1
  have L2 := Lists.mk h2 hb b2
  obtain ⟨W1, hW1⟩ : ∃ W1, ((W.alloc (.cells #[s1] 47)).alloc (.cells #[s2] 47)) = W1 := ⟨_, rfl⟩
  rw [hW1] at hb L1 L2 ⊢
  refine (join_any 153 _ (ov a b) 20000 W1 (enters_of Tryz.func153 (by kernel_rfl) rfl) ?_).mono fun e w' h => h.down hb
  exact fun lr J Jx X hX hJ _ hY h0 => overlaps1_in 5 (by decide) lr W.heap.size (W.heap.size + 1) W1.heap.size a b ha hla hlb J Jx hY X hX.size hJ (L1.below hX) (L2.below hX) h0

theorem right_bounds {l : List Rg} (h : Right l) : ∀ i, i < l.length → -1000000 ≤ lo l i ∧ hi l i ≤ 1000000 := fun i hi => by
  have := h.2 i hi; unfold OkAt at this; exact ⟨this.2.1, this.2.2.1⟩
theorem Sr.one (w : World) (x y : Int) : Sr (w.alloc (.cells #[.int .i64 x, .int .i64 y] 92)) (.slice (some ⟨w.heap.size, 0, none⟩) 1 1) [(x, y)] := by
  refine ⟨_, 1, rfl, fun _ => ⟨w.heap.size, 0, rfl, by simp, fun i hi => ?_⟩⟩
  obtain rfl : i = 0 := by simpa using hi
  have h := Two.new w x y
  exact ⟨h.c0, h.c1⟩
theorem cutL_le (l : List Rg) (x y : Int) : (cutL l x y).length ≤ l.length := by unfold cutL; exact List.length_filterMap_le _ _
theorem cutL_ord {l : List Rg} (h : Ord l) (x y : Int) : Ord (cutL l x y) := by
  by_cases hxy : x ≤ y
  · have e : pieces [(x, y)] l = cutL l x y := by simp [pieces]
    rw [← e]
    exact ord_pieces ⟨fun r hr => by rw [List.mem_singleton] at hr; rw [hr]; exact hxy, List.pairwise_singleton _ _⟩ h
  · rw [← ov_cut h, ov, ovF_none l x y (by omega) _ 0 0 (Nat.le_refl _)]
    exact ⟨fun r hr => (by cases hr), List.Pairwise.nil⟩

set_option maxRecDepth 100000 in
set_option maxHeartbeats 1000000 in
/-- Cut, of any ranges. -/
theorem domcut_any (s : Value) (l : List Rg) (x y : Int) (w : World) (h : Sr w s l) (hf : FitsR l) :
    Calls Tryz.prog 97 #[s, .int .i64 x, .int .i64 y] w fun e w' => ∃ s', e = .returned s' ∧ w'.ownsRow w.heap.size 92 2 s' (cutL (tk l) x y).length (flat (cutL (tk l) x y)) ∧ Below w.heap.size w w' := by
  have hk := known_tk s l w h hf
  have hR := tk_right l
  obtain ⟨a0, c0, rfl, _⟩ := h
  have HR : Hid (Right (tk l)) := hR
  clear hR hf
  go_enter Tryz.func97, Tryz.ntmps97
  go_wp2_with fail
  refine hk.mono ?_
  clear hk
  rintro e w1 ⟨a, n, c, rfl, hS, hn, hb⟩
  have HS : Hid (Sr w (.slice a n c) (tk l)) := hS
  clear hS hn
  go_wp2_with fail
  refine (overlaps_any _ _ _ _ _ _ _).mono ?_
  rintro e w2 ⟨rfl, rfl⟩
  go_wp2_with fail
  have hb1 : Below w.heap.size w (w1.alloc (.cells #[.int .i64 x, .int .i64 y] 92)) := hb.alloc hb.size _
  refine (joinO _ _ _ _ (tk l) [(x, y)] _ (by simp) (by simp) (HS.out.below hb1) (Sr.one w1 x y) (right_bounds HR.out) (by have := HR.out.1; omega) (by simp)).mono ?_
  rintro e w3 hJ
  have hJ := hJ.down hb1
  obtain ⟨s', cc, rfl, hb3, hcase⟩ := hJ
  have HC : Hid _ := hcase
  clear hcase
  go_wp2
  go_ret
  refine ⟨s', rfl, ?_, hb3⟩
  have hO := (right_ord HR.out).1
  have hc := HC.out
  rw [ov_cut hO, joinF_ord _ (cutL_ord hO x y)] at hc
  rcases hc with ⟨_, _, h3, _⟩ | ⟨_, h3, _⟩
  · exact h3
  · have h4 := cutL_le (tk l) x y
    have h5 := HR.out.1
    omega

theorem clone_any (a : Option Addr) (n c : Nat) (l : List Rg) (w : World) (h : Sr w (.slice a n c) l) (h0 : 0 < l.length) (hlen : l.length ≤ 4096) :
    Calls Tryz.prog 138 #[.slice a n c] w fun e w' => ∃ s, e = .returned s ∧ w'.ownsRow w.heap.size 92 2 s l.length (flat l) ∧ Below w.heap.size w w' := by
  obtain ⟨a', cap, e, hc⟩ := h
  injection e with e1 e2 e3
  subst e1 e2 e3
  obtain ⟨b, off, rfl, _, hcell⟩ := hc h0
  exact clone_some b off c l w hlen hcell

/-- What Both returns. -/
def bothR (a b : List Rg) : List Rg := if (ov (tk a) (tk b)).length ≤ 4096 then ov (tk a) (tk b) else tk a
end Go.Proofs.YthkliicmoandmaaGreatDoor.Dm


namespace Go.Proofs.YthkliicmoandmaaGreatDoor.Dm
set_option linter.unusedSimpArgs false
set_option linter.unusedVariables false
open Go.RowKit Go.Shelf
set_option linter.unusedVariables false

set_option maxRecDepth 100000 in
set_option maxHeartbeats 2000000 in
theorem gaps_any (s : Value) (l : List Rg) (W : World) (h : Sr W s l) (hR : Right l) :
    Calls Tryz.prog 154 #[s] W fun e w' => ∃ s', e = .returned s' ∧ w'.ownsRow W.heap.size 92 2 s' (notL l).length (flat (notL l)) ∧ (s' = .slice none 0 0 ↔ notL l = []) ∧ Below W.heap.size W w' := by
  obtain ⟨i0, hi0, hz0, hz1, hz2⟩ := info_parts Tryz.info92
  have hlen := hR.1
  have hok := hR.2
  obtain ⟨a, cap, rfl, hcell⟩ := h
  obtain ⟨n, hn⟩ : ∃ n, l.length = n := ⟨_, rfl⟩
  have HN : Hid (l.length = n) := hn
  have HC : Hid _ := hcell
  have HOK : Hid _ := hok
  rw [hn] at hlen ⊢
  clear hn hcell hok hR
  go_enter Tryz.func154, Tryz.ntmps154
  go_wp2
  go_loopw [3, 4, 9] (fun o fr i wr => ∃ (k : Nat) (f : Int) (os : List Rg), k ≤ n ∧ i = .int .i64 k ∧ fr = .int .i64 f ∧ -1000000 ≤ f ∧ f ≤ 1000001 ∧ os.length ≤ k ∧ os ++ notF f (l.drop k) = notL l ∧ wr.ownsRow W.heap.size 92 2 o os.length (flat os) ∧ (o = .slice none 0 0 ↔ os = []) ∧ Below W.heap.size W wr) (fun _ _ i _ => n - (intOf i).toNat)
  case atStart => exact ⟨0, -1000000, [], Nat.zero_le _, rfl, rfl, by omega, by omega, Nat.le_refl _, rfl, World.ownsRow_nil _ _ _ _, by simp, Below.refl _ _⟩
  case round =>
    obtain ⟨k, f, os, hk, rfl, rfl, hf1, hf2, hol, heq, hrow, hnil, hB⟩ := hrel
    have hsz := hB.size
    by_cases hlt : k < n
    · have hkl : k < l.length := by rw [HN.out]; exact hlt
      obtain ⟨b, off, rfl, hb, hcells⟩ := HC.out (by omega)
      obtain ⟨c1, c2⟩ := hcells k hkl
      have d1 := (hB.cell (p := ⟨b, off + k * 2, none⟩) hb).trans c1
      have d2 := (hB.cell (p := ⟨b, off + k * 2 + 1, none⟩) hb).trans c2
      obtain ⟨o1, o2, o3, _⟩ := HOK.out k hkl
      rw [drop_cons l k hkl] at heq
      obtain ⟨x, hx⟩ : ∃ x, lo l k = x := ⟨_, rfl⟩
      obtain ⟨y, hy⟩ : ∃ y, hi l k = y := ⟨_, rfl⟩
      rw [hx] at d1 o1 o2 heq
      rw [hy] at d2 o1 o3 heq
      unfold notF at heq
      simp only at heq
      have hlt' : (k : Int) < (n : Int) := by omega
      have hbw : b < wr.heap.size := Nat.lt_of_lt_of_le hb hsz
      have hrow2 := World.ownsRow.alloc hrow (Obj.cells #[Value.int IntKind.i64 x, Value.int IntKind.i64 y] 92)
      have hb2 : Below W.heap.size W (wr.alloc (Obj.cells #[Value.int IntKind.i64 x, Value.int IntKind.i64 y] 92)) := hB.alloc hsz _
      have HB2 : Hid (Below W.heap.size W (wr.alloc (Obj.cells #[Value.int IntKind.i64 x, Value.int IntKind.i64 y] 92))) := hb2
      clear hb2
      by_cases hfx : f < x
      · rw [if_pos hfx, ← List.append_assoc] at heq
        have HEQ : Hid ((os ++ [(f, x - 1)]) ++ notF (y + 1) (l.drop (k + 1)) = notL l) := heq
        have hd : decide (f < x) = true := by simpa using hfx
        obtain ⟨m, hm⟩ : ∃ m, os.length = m := ⟨_, rfl⟩
        have HM : Hid (os.length = m) := hm
        rw [hm] at hrow hrow2 hol
        have HR2 : Hid _ := hrow2
        have HROW : Hid _ := hrow
        have hT : Two (wr.alloc (Obj.cells #[Value.int IntKind.i64 x, Value.int IntKind.i64 y] 92)) wr.heap.size x y := Two.new wr x y
        have HT : Hid _ := hT
        clear heq hcells c1 c2 hx hy hm hkl hrow hrow2 hT
        go_wp2_with (at_builtin; refine wpList_append_own _ rfl _ _ 47 rfl W.heap.size 92 i0 (.agg #[.int .i64 0, .int .i64 0]) 2 16 Tryz.underlying47 hi0 hz0 hz1 hz2 rfl (by decide) _ _ _ rfl (World.ownsRow.alloc HR2.out _) ⟨wr.heap.size + 1, 0, none⟩ 1 1 [.int .i64 f, .int .i64 (x - 1)] rfl rfl (by have h9 := cell_two_new (wr.alloc (Obj.cells #[Value.int IntKind.i64 x, Value.int IntKind.i64 y] 92)) (.int .i64 f) (.int .i64 (x - 1)) 92; rw [World.size_alloc] at h9; exact h9) (by simp [Value.oneCell']) (by unfold maxLen; omega) (by omega) (by simp; omega) ?_; intro v' w1 hown' hgrow hnl; have hB1 : Below W.heap.size W w1 := (HB2.out.alloc HB2.out.size _).grown hgrow (by simp; omega) (fun j e => (World.ownsRow.lt HR2.out j e).1); have hT1 : Two w1 wr.heap.size x y := (hgrow.block _ (by simp; omega) (fun e => by have := (World.ownsRow.lt HROW.out _ e.symm).2; omega)).trans ((Below.heap_alloc _ _ _ (by simp)).trans HT.out); have q1 := hT1.c1; clear hgrow hT1)
        go_roundw
        case rel =>
          refine ⟨k + 1, y + 1, os ++ [(f, x - 1)], by omega, by go_num, rfl, by omega, by omega, by rw [List.length_append, HM.out]; simp; omega, HEQ.out, ?_, by simp [hnl], hB1⟩
          rw [List.length_append, flat_two, HM.out]
          exact hown'
        case measure => simp [intOf]; omega
      · rw [if_neg hfx, List.nil_append] at heq
        have HEQ : Hid (os ++ notF (y + 1) (l.drop (k + 1)) = notL l) := heq
        have hd : decide (f < x) = false := by simpa using hfx
        clear heq hcells c1 c2 hx hy hkl
        go_wp2
        go_roundw
        case rel => exact ⟨k + 1, y + 1, os, by omega, by go_num, rfl, by omega, by omega, by omega, HEQ.out, hrow2, hnil, HB2.out⟩
        case measure => simp [intOf]; omega
    · obtain rfl : k = n := by omega
      rw [List.drop_eq_nil_of_le (by rw [HN.out]; exact Nat.le_refl _)] at heq
      unfold notF at heq
      by_cases hfe : f ≤ 1000000
      · rw [if_pos hfe] at heq
        have HEQ : Hid (os ++ [(f, 1000000)] = notL l) := heq
        have hd : decide (f ≤ 1000000) = true := by simpa using hfe
        obtain ⟨m, hm⟩ : ∃ m, os.length = m := ⟨_, rfl⟩
        have HM : Hid (os.length = m) := hm
        rw [hm] at hrow hol
        clear heq hm
        go_wp2_with (at_builtin; refine wpList_append_own _ rfl _ _ 47 rfl W.heap.size 92 i0 (.agg #[.int .i64 0, .int .i64 0]) 2 16 Tryz.underlying47 hi0 hz0 hz1 hz2 rfl (by decide) _ _ _ rfl (World.ownsRow.alloc hrow _) ⟨wr.heap.size, 0, none⟩ 1 1 [.int .i64 f, .int .i64 1000000] rfl rfl (cell_two_new _ _ _ _) (by simp [Value.oneCell']) (by unfold maxLen; omega) (by omega) (by simp; omega) ?_; intro v' w1 hown' hgrow hnl; have hB1 : Below W.heap.size W w1 := (hB.alloc hsz _).grown hgrow (by simp; omega) (fun j e => (World.ownsRow.lt hrow j e).1); clear hgrow)
        go_ret
        refine ⟨_, rfl, ?_, ?_, hB1⟩
        · rw [← HEQ.out, List.length_append, flat_two, HM.out]; exact hown'
        · rw [← HEQ.out]; simp [hnl]
      · rw [if_neg hfe, List.append_nil] at heq
        have HEQ : Hid (os = notL l) := heq
        have hd : decide (f ≤ 1000000) = false := by simpa using hfe
        clear heq
        go_wp2
        go_ret
        refine ⟨_, rfl, ?_, ?_, hB⟩
        · rw [← HEQ.out]; exact hrow
        · rw [← HEQ.out]; exact hnil

theorem notL_facts {l : List Rg} (h : Right l) : Ord (notL l) ∧ (∀ v, v ∈ vals (notL l) ↔ (-1000000 ≤ v ∧ v ≤ 1000000 ∧ v ∉ vals l)) := by
  have hO := right_ord h
  have hn := notF_facts l (-1000000) hO.1 hO.2 (fun r hr => (hO.2 r hr).1)
  exact ⟨hn.1, hn.2.2⟩
theorem notF_len (l : List Rg) : ∀ f, (notF f l).length ≤ l.length + 1 := by
  induction l with
  | nil => intro f; unfold notF; split <;> simp
  | cons r l ih => intro f; unfold notF; rw [List.length_append]; have := ih (r.2 + 1); simp only [List.length_cons]; split <;> simp <;> omega

/-- How Less ends. -/
def LessEnd (a b : List Rg) (W : World) (e : Ending) (w' : World) : Prop := ∃ (s : Value) (c : Int), e = .returned (.tuple #[s, .int .i64 c]) ∧ Below W.heap.size W w' ∧
  ((c = 0 ∧ (ov (tk a) (notL (tk b))).length ≤ 4096 ∧ w'.ownsRow W.heap.size 92 2 s (ov (tk a) (notL (tk b))).length (flat (ov (tk a) (notL (tk b)))) ∧ (s = .slice none 0 0 ↔ ov (tk a) (notL (tk b)) = [])) ∨ (c = 4 ∧ 4096 < (ov (tk a) (notL (tk b))).length ∧ s = .slice none 0 0))
set_option maxRecDepth 100000 in
set_option maxHeartbeats 1000000 in
/-- Less, of any ranges. -/
theorem domless_any (s1 s2 : Value) (la lb : List Rg) (w : World) (h1 : Sr w s1 la) (h2 : Sr w s2 lb) (hf1 : FitsR la) (hf2 : FitsR lb) :
    Calls Tryz.prog 137 #[s1, s2] w fun e w' => LessEnd la lb w e w' := by
  have hk1 := known_tk s1 la w h1 hf1
  have hk2 := fun W (hW : Below w.heap.size w W) => known_tk s2 lb W (h2.below hW) hf2
  have hRa := tk_right la
  have hRb := tk_right lb
  obtain ⟨a1, c1, rfl, _⟩ := h1
  obtain ⟨a2, c2, rfl, _⟩ := h2
  have HRa : Hid (Right (tk la)) := hRa
  have HRb : Hid (Right (tk lb)) := hRb
  clear hRa hRb hf1 hf2
  go_enter Tryz.func137, Tryz.ntmps137
  go_wp2_with fail
  refine hk1.mono ?_
  clear hk1
  rintro e w1 ⟨a, n, c, rfl, hS1, hn1, hb1⟩
  have HS1 : Hid (Sr w (.slice a n c) (tk la)) := hS1
  clear hS1 hn1
  go_wp2_with fail
  refine (hk2 _ hb1).mono ?_
  clear hk2
  rintro e w2 ⟨a', n', c', rfl, hS2, hn2, hb2⟩
  have hb12 : Below w.heap.size w w2 := hb1.trans (hb2.mono hb1.size)
  have HS2 : Hid (Sr w2 (.slice a' n' c') (tk lb)) := hS2.below hb2
  clear hS2 hn2 hb2
  go_wp2_with fail
  refine (gaps_any _ _ _ HS2.out HRb.out).mono ?_
  rintro e w3 ⟨s3, rfl, hrow3, _, hb3⟩
  have hb13 : Below w.heap.size w w3 := hb12.trans (hb3.mono hb12.size)
  have hS3 := own_srl hrow3
  have hS3' := hS3
  obtain ⟨a3, c3, rfl, _⟩ := hS3'
  have HS3 : Hid (Sr w3 (.slice a3 (notL (tk lb)).length c3) (notL (tk lb))) := hS3
  clear hS3 hrow3 hb3
  go_wp2_with fail
  refine (overlaps_any _ _ _ _ _ _ _).mono ?_
  rintro e w4 ⟨rfl, rfl⟩
  go_wp2_with fail
  refine (joinO _ _ _ _ (tk la) (notL (tk lb)) _ rfl rfl (HS1.out.below hb13) HS3.out (right_bounds HRa.out) (by have := HRa.out.1; omega) (by have h9 := notF_len (tk lb) (-1000000); have := HRb.out.1; unfold notL; omega)).mono ?_
  rintro e w5 hJ
  have hJ := hJ.down hb13
  have hof := ov_facts (right_ord HRa.out).1 (notL_facts HRb.out).1
  obtain ⟨s', cc, rfl, hb5, hcase⟩ := hJ
  rw [joinF_ord _ hof.1] at hcase
  have HC : Hid _ := hcase
  clear hof hcase
  go_wp2
  go_ret2
  exact ⟨s', cc, rfl, hb5, HC.out⟩
end Go.Proofs.YthkliicmoandmaaGreatDoor.Dm

