/-
  What is proved here: what dom.gaps and dom.Less return of any ranges.
-/
import Derived.Test.YtopelhdepocoiaaDoorEf
namespace Go.Proofs.YtopelhdepocoiaaDoor
open Go.RowKit Go.Shelf
set_option linter.unusedVariables false

set_option maxRecDepth 100000 in
set_option maxHeartbeats 2000000 in
theorem gaps_any (s : Value) (l : List Rg) (W : World) (h : Sr W s l) (hR : Right l) :
    Calls Tryd.prog 33 #[s] W fun e w' => ∃ s', e = .returned s' ∧ w'.ownsRow W.heap.size 34 2 s' (notL l).length (flat (notL l)) ∧ (s' = .slice none 0 0 ↔ notL l = []) ∧ Below W.heap.size W w' := by
  obtain ⟨i0, hi0, hz0, hz1, hz2⟩ := info_parts Tryd.info34
  have hlen := hR.1
  have hok := hR.2
  obtain ⟨a, cap, rfl, hcell⟩ := h
  obtain ⟨n, hn⟩ : ∃ n, l.length = n := ⟨_, rfl⟩
  have HN : Hid (l.length = n) := hn
  have HC : Hid _ := hcell
  have HOK : Hid _ := hok
  rw [hn] at hlen ⊢
  clear hn hcell hok hR
  go_enter Tryd.func33, Tryd.ntmps33
  go_wp2
  go_loopw [3, 4, 9] (fun o fr i wr => ∃ (k : Nat) (f : Int) (os : List Rg), k ≤ n ∧ i = .int .i64 k ∧ fr = .int .i64 f ∧ -1000000 ≤ f ∧ f ≤ 1000001 ∧ os.length ≤ k ∧ os ++ notF f (l.drop k) = notL l ∧ wr.ownsRow W.heap.size 34 2 o os.length (flat os) ∧ (o = .slice none 0 0 ↔ os = []) ∧ Below W.heap.size W wr) (fun _ _ i _ => n - (intOf i).toNat)
  case atStart => exact ⟨0, -1000000, [], Nat.zero_le _, rfl, rfl, by omega, by omega, Nat.le_refl _, rfl, World.ownsRow_nil _ _ _ _, by simp, Below.refl _ _⟩
  case round =>
    obtain ⟨k, f, os, hk, rfl, rfl, hf1, hf2, hol, heq, hrow, hnil, hB⟩ := hrel
    have hsz := hB.size
    by_cases hlt : k < n
    · have hkl : k < l.length := by rw [HN.out]; exact hlt
      obtain ⟨b, off, rfl, hb, hcells⟩ := HC.out (by omega)
      obtain ⟨c1, c2⟩ := hcells k hkl
      have d1 := (hB.cell (p := ⟨b, off + k * 2, none⟩) hb).trans c1
      have d2 := (hB.cell (p := ⟨b, off + k * 2 + 1, none⟩) hb).trans c2
      obtain ⟨o1, o2, o3, _⟩ := HOK.out k hkl
      rw [drop_cons l k hkl] at heq
      obtain ⟨x, hx⟩ : ∃ x, lo l k = x := ⟨_, rfl⟩
      obtain ⟨y, hy⟩ : ∃ y, hi l k = y := ⟨_, rfl⟩
      rw [hx] at d1 o1 o2 heq
      rw [hy] at d2 o1 o3 heq
      unfold notF at heq
      simp only at heq
      have hlt' : (k : Int) < (n : Int) := by omega
      have hbw : b < wr.heap.size := Nat.lt_of_lt_of_le hb hsz
      have hrow2 := World.ownsRow.alloc hrow (Obj.cells #[Value.int IntKind.i64 x, Value.int IntKind.i64 y] 34)
      have hb2 : Below W.heap.size W (wr.alloc (Obj.cells #[Value.int IntKind.i64 x, Value.int IntKind.i64 y] 34)) := hB.alloc hsz _
      have HB2 : Hid (Below W.heap.size W (wr.alloc (Obj.cells #[Value.int IntKind.i64 x, Value.int IntKind.i64 y] 34))) := hb2
      clear hb2
      by_cases hfx : f < x
      · rw [if_pos hfx, ← List.append_assoc] at heq
        have HEQ : Hid ((os ++ [(f, x - 1)]) ++ notF (y + 1) (l.drop (k + 1)) = notL l) := heq
        have hd : decide (f < x) = true := by simpa using hfx
        obtain ⟨m, hm⟩ : ∃ m, os.length = m := ⟨_, rfl⟩
        have HM : Hid (os.length = m) := hm
        rw [hm] at hrow hrow2 hol
        have HR2 : Hid _ := hrow2
        have HROW : Hid _ := hrow
        have hT : Two (wr.alloc (Obj.cells #[Value.int IntKind.i64 x, Value.int IntKind.i64 y] 34)) wr.heap.size x y := Two.new wr x y
        have HT : Hid _ := hT
        clear heq hcells c1 c2 hx hy hm hkl hrow hrow2 hT
        go_wp2_with (at_builtin; refine wpList_append_own _ rfl _ _ 22 rfl W.heap.size 34 i0 (.agg #[.int .i64 0, .int .i64 0]) 2 16 Tryd.underlying22 hi0 hz0 hz1 hz2 rfl (by decide) _ _ _ rfl (World.ownsRow.alloc HR2.out _) ⟨wr.heap.size + 1, 0, none⟩ 1 1 [.int .i64 f, .int .i64 (x - 1)] rfl rfl (by have h9 := cell_two_new (wr.alloc (Obj.cells #[Value.int IntKind.i64 x, Value.int IntKind.i64 y] 34)) (.int .i64 f) (.int .i64 (x - 1)) 34; rw [World.size_alloc] at h9; exact h9) (by simp [Value.oneCell']) (by unfold maxLen; omega) (by omega) (by simp; omega) ?_; intro v' w1 hown' hgrow hnl; have hB1 : Below W.heap.size W w1 := (HB2.out.alloc HB2.out.size _).grown hgrow (by simp; omega) (fun j e => (World.ownsRow.lt HR2.out j e).1); have hT1 : Two w1 wr.heap.size x y := (hgrow.block _ (by simp; omega) (fun e => by have := (World.ownsRow.lt HROW.out _ e.symm).2; omega)).trans ((Below.heap_alloc _ _ _ (by simp)).trans HT.out); have q1 := hT1.c1; clear hgrow hT1)
        go_roundw
        case rel =>
          refine ⟨k + 1, y + 1, os ++ [(f, x - 1)], by omega, by go_num, rfl, by omega, by omega, by rw [List.length_append, HM.out]; simp; omega, HEQ.out, ?_, by simp [hnl], hB1⟩
          rw [List.length_append, flat_two, HM.out]
          exact hown'
        case measure => simp [intOf]; omega
      · rw [if_neg hfx, List.nil_append] at heq
        have HEQ : Hid (os ++ notF (y + 1) (l.drop (k + 1)) = notL l) := heq
        have hd : decide (f < x) = false := by simpa using hfx
        clear heq hcells c1 c2 hx hy hkl
        go_wp2
        go_roundw
        case rel => exact ⟨k + 1, y + 1, os, by omega, by go_num, rfl, by omega, by omega, by omega, HEQ.out, hrow2, hnil, HB2.out⟩
        case measure => simp [intOf]; omega
    · obtain rfl : k = n := by omega
      rw [List.drop_eq_nil_of_le (by rw [HN.out]; exact Nat.le_refl _)] at heq
      unfold notF at heq
      by_cases hfe : f ≤ 1000000
      · rw [if_pos hfe] at heq
        have HEQ : Hid (os ++ [(f, 1000000)] = notL l) := heq
        have hd : decide (f ≤ 1000000) = true := by simpa using hfe
        obtain ⟨m, hm⟩ : ∃ m, os.length = m := ⟨_, rfl⟩
        have HM : Hid (os.length = m) := hm
        rw [hm] at hrow hol
        clear heq hm
        go_wp2_with (at_builtin; refine wpList_append_own _ rfl _ _ 22 rfl W.heap.size 34 i0 (.agg #[.int .i64 0, .int .i64 0]) 2 16 Tryd.underlying22 hi0 hz0 hz1 hz2 rfl (by decide) _ _ _ rfl (World.ownsRow.alloc hrow _) ⟨wr.heap.size, 0, none⟩ 1 1 [.int .i64 f, .int .i64 1000000] rfl rfl (cell_two_new _ _ _ _) (by simp [Value.oneCell']) (by unfold maxLen; omega) (by omega) (by simp; omega) ?_; intro v' w1 hown' hgrow hnl; have hB1 : Below W.heap.size W w1 := (hB.alloc hsz _).grown hgrow (by simp; omega) (fun j e => (World.ownsRow.lt hrow j e).1); clear hgrow)
        go_ret
        refine ⟨_, rfl, ?_, ?_, hB1⟩
        · rw [← HEQ.out, List.length_append, flat_two, HM.out]; exact hown'
        · rw [← HEQ.out]; simp [hnl]
      · rw [if_neg hfe, List.append_nil] at heq
        have HEQ : Hid (os = notL l) := heq
        have hd : decide (f ≤ 1000000) = false := by simpa using hfe
        clear heq
        go_wp2
        go_ret
        refine ⟨_, rfl, ?_, ?_, hB⟩
        · rw [← HEQ.out]; exact hrow
        · rw [← HEQ.out]; exact hnil

theorem notL_facts {l : List Rg} (h : Right l) : Ord (notL l) ∧ (∀ v, v ∈ vals (notL l) ↔ (-1000000 ≤ v ∧ v ≤ 1000000 ∧ v ∉ vals l)) := by
  have hO := right_ord h
  have hn := notF_facts l (-1000000) hO.1 hO.2 (fun r hr => (hO.2 r hr).1)
  exact ⟨hn.1, hn.2.2⟩
theorem notF_len (l : List Rg) : ∀ f, (notF f l).length ≤ l.length + 1 := by
  induction l with
  | nil => intro f; unfold notF; split <;> simp
  | cons r l ih => intro f; unfold notF; rw [List.length_append]; have := ih (r.2 + 1); simp only [List.length_cons]; split <;> simp <;> omega

/-- How Less ends. -/
def LessEnd (a b : List Rg) (W : World) (e : Ending) (w' : World) : Prop := ∃ (s : Value) (c : Int), e = .returned (.tuple #[s, .int .i64 c]) ∧ Below W.heap.size W w' ∧
  ((c = 0 ∧ (ov (tk a) (notL (tk b))).length ≤ 4096 ∧ w'.ownsRow W.heap.size 34 2 s (ov (tk a) (notL (tk b))).length (flat (ov (tk a) (notL (tk b)))) ∧ (s = .slice none 0 0 ↔ ov (tk a) (notL (tk b)) = [])) ∨ (c = 4 ∧ 4096 < (ov (tk a) (notL (tk b))).length ∧ s = .slice none 0 0))
set_option maxRecDepth 100000 in
set_option maxHeartbeats 1000000 in
/-- Less, of any ranges. -/
theorem domless_any (s1 s2 : Value) (la lb : List Rg) (w : World) (h1 : Sr w s1 la) (h2 : Sr w s2 lb) (hf1 : FitsR la) (hf2 : FitsR lb) :
    Calls Tryd.prog 21 #[s1, s2] w fun e w' => LessEnd la lb w e w' := by
  have hk1 := known_tk s1 la w h1 hf1
  have hk2 := fun W (hW : Below w.heap.size w W) => known_tk s2 lb W (h2.below hW) hf2
  have hRa := tk_right la
  have hRb := tk_right lb
  obtain ⟨a1, c1, rfl, _⟩ := h1
  obtain ⟨a2, c2, rfl, _⟩ := h2
  have HRa : Hid (Right (tk la)) := hRa
  have HRb : Hid (Right (tk lb)) := hRb
  clear hRa hRb hf1 hf2
  go_enter Tryd.func21, Tryd.ntmps21
  go_wp2_with fail
  refine hk1.mono ?_
  clear hk1
  rintro e w1 ⟨a, n, c, rfl, hS1, hn1, hb1⟩
  have HS1 : Hid (Sr w (.slice a n c) (tk la)) := hS1
  clear hS1 hn1
  go_wp2_with fail
  refine (hk2 _ hb1).mono ?_
  clear hk2
  rintro e w2 ⟨a', n', c', rfl, hS2, hn2, hb2⟩
  have hb12 : Below w.heap.size w w2 := hb1.trans (hb2.mono hb1.size)
  have HS2 : Hid (Sr w2 (.slice a' n' c') (tk lb)) := hS2.below hb2
  clear hS2 hn2 hb2
  go_wp2_with fail
  refine (gaps_any _ _ _ HS2.out HRb.out).mono ?_
  rintro e w3 ⟨s3, rfl, hrow3, _, hb3⟩
  have hb13 : Below w.heap.size w w3 := hb12.trans (hb3.mono hb12.size)
  have hS3 := own_srl hrow3
  have hS3' := hS3
  obtain ⟨a3, c3, rfl, _⟩ := hS3'
  have HS3 : Hid (Sr w3 (.slice a3 (notL (tk lb)).length c3) (notL (tk lb))) := hS3
  clear hS3 hrow3 hb3
  go_wp2_with fail
  refine (overlaps_any _ _ _ _ _ _ _).mono ?_
  rintro e w4 ⟨rfl, rfl⟩
  go_wp2_with fail
  refine (joinO _ _ _ _ (tk la) (notL (tk lb)) _ rfl rfl (HS1.out.below hb13) HS3.out (right_bounds HRa.out) (by have := HRa.out.1; omega) (by have h9 := notF_len (tk lb) (-1000000); have := HRb.out.1; unfold notL; omega)).mono ?_
  rintro e w5 hJ
  have hJ := hJ.down hb13
  have hof := ov_facts (right_ord HRa.out).1 (notL_facts HRb.out).1
  obtain ⟨s', cc, rfl, hb5, hcase⟩ := hJ
  rw [joinF_ord _ hof.1] at hcase
  have HC : Hid _ := hcase
  clear hof hcase
  go_wp2
  go_ret2
  exact ⟨s', cc, rfl, hb5, HC.out⟩
end Go.Proofs.YtopelhdepocoiaaDoor

