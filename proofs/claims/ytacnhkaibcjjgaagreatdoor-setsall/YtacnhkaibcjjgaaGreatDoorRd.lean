/-
  What is proved here: the reference's Join and Sym of any lists.
-/
import Derived.Test.YtacnhkaibcjjgaaGreatDoorRc
namespace Go.Proofs.YtacnhkaibcjjgaaGreatDoor
open Go.RowKit Go.Shelf
set_option linter.unusedVariables false
set_option linter.unusedSimpArgs false

theorem sort_is {l L : List Int} (hp : L.Perm l) (hs : L.Pairwise (· ≤ ·)) : L = sortL l :=
  List.Perm.eq_of_pairwise (le := (· ≤ ·)) (fun x y _ _ h1 h2 => by omega) hs (sort_pw l) (hp.trans (List.mergeSort_perm _ _).symm)
theorem put_step {A LB L L' : List Int} {k : Nat} (hk : k < LB.length) (hp : L.Perm (A ++ LB.take k)) (h : PutR L (nth LB k) L') : L'.Perm (A ++ LB.take (k + 1)) := by
  refine h.perm.trans ?_
  rw [take_next LB k hk, ← List.append_assoc]
  exact (hp.cons _).trans (List.perm_append_comm (l₁ := [nth LB k]))

set_option maxRecDepth 100000 in
set_option maxHeartbeats 4000000 in
theorem refjoin_any (s1 s2 : Value) (a b : List Int) (W : World) (h1 : Si W s1 a) (h2 : Si W s2 b) :
    Calls Tryz.prog 15 #[s1, s2] W fun e w' => ∃ v, e = .returned v ∧ w'.ownsRow W.heap.size 2 1 v (joinL (tkS a) (tkS b)).length (intv (joinL (tkS a) (tkS b))) ∧ Below W.heap.size W w' := by
  have k64 := taken_any s1 a W h1
  have k17 := fun X (hX : Below W.heap.size W X) => refless_any s2 s1 b a X (h2.below hX) (h1.below hX)
  have hset := (tkS_set a).1
  have hlb : (lessL (tkS b) (tkS a)).length ≤ 64 := Nat.le_trans (lessL_le _ _) (tkS_set b).1
  have HAP : Hid ((tkS a).Pairwise (· ≤ ·)) := (set_pw (tkS_set a)).imp (by omega)
  have HSP : Hid (joinL (tkS a) (tkS b) = sortL (tkS a ++ lessL (tkS b) (tkS a))) := rfl
  generalize joinL (tkS a) (tkS b) = J at HSP ⊢
  generalize lessL (tkS b) (tkS a) = LB at k17 hlb HSP
  generalize tkS a = A at k64 hset HAP HSP
  obtain ⟨a1, c1, rfl, _⟩ := h1
  obtain ⟨a2, c2, rfl, _⟩ := h2
  generalize a.length = n1 at *
  generalize b.length = n2 at *
  go_enter Tryz.func15, Tryz.ntmps15
  go_wp2_with fail
  refine k64.mono ?_
  rintro e w1 ⟨a3, n3, c3, rfl, HS, HN3, m1, hw1⟩
  have hb1 : Below W.heap.size W w1 := by rw [hw1]; exact below_drewN (Below.refl _ _) _
  have hnil : w1.ownsRow W.heap.size 2 1 (.slice none 0 0) 0 (intv []) := by simpa [intv] using World.ownsRow_nil _ _ _ _
  have HS1 : Hid (Si w1 (.slice a3 n3 c3) A) := HS.out.below hb1
  have hsz1 := hb1.size
  clear k64 hw1 HS
  go_upto_region 3 with (at_builtin; refine wpList_app_sr _ rfl _ _ rfl W.heap.size _ 0 [] rfl hnil rfl _ A rfl HS1.out (by simp <;> omega) hsz1 ?_; intro v2 w2 hr2 hbel2)
  have hr2' : w2.ownsRow W.heap.size 2 1 v2 A.length (intv A) := by simpa using hr2
  have hb2 : Below W.heap.size W w2 := hb1.trans hbel2
  clear hr2 hbel2 hb1 hnil hsz1
  obtain ⟨p2, d2, rfl⟩ := own_slice hr2'
  have HR2 : Hid _ := hr2'
  obtain ⟨na, hna⟩ : ∃ n, A.length = n := ⟨_, rfl⟩
  have HNA : Hid (A.length = na) := hna
  rw [hna] at HR2 hset ⊢
  have kk := k17 w2 hb2
  clear k17 hr2' hna
  go_wp2_with fail
  refine kk.mono ?_
  rintro e w3 ⟨v3, rfl, hr3, hb3'⟩
  have hb3 : Below W.heap.size W w3 := hb2.trans (hb3'.mono hb2.size)
  have HRA : Hid (w3.ownsRow W.heap.size 2 1 (.slice p2 na d2) A.length (intv A)) := by unfold Hid; rw [HNA.out]; exact own_keepB HR2.out hb3'
  have hset2 : A.length ≤ 64 := by rw [HNA.out]; exact hset
  have hw3 := hb3.size
  have hsl := own_si hr3
  obtain ⟨p3, d3, rfl⟩ := own_slice hr3
  obtain ⟨a9, c9, e9, hc⟩ := hsl
  injection e9 with e4 _ e5
  subst e4 e5
  have HC : Hid _ := hc
  obtain ⟨nl, hnl⟩ : ∃ n, LB.length = n := ⟨_, rfl⟩
  have HNL : Hid (LB.length = nl) := hnl
  rw [hnl] at HC hlb ⊢
  clear kk hb3' hr3 HR2 hb2 hc hnl
  go_wp2
  go_loopw [5, 7] (fun o i wr => ∃ (k : Nat) (L : List Int), k ≤ nl ∧ i = .int .i64 k ∧ Hid (L.Perm (A ++ LB.take k) ∧ L.Pairwise (· ≤ ·)) ∧ wr.ownsRow W.heap.size 2 1 o L.length (intv L) ∧ Below w3.heap.size w3 wr) (fun _ i _ => nl - (intOf i).toNat)
  case atStart => exact ⟨0, A, Nat.zero_le _, rfl, ⟨by simp, HAP.out⟩, HRA.out, Below.refl _ _⟩
  case round =>
    obtain ⟨k, L, hk, rfl, HP, hrow, hB⟩ := hrel
    have HROW : Hid _ := hrow
    have hLn : L.length ≤ 128 := by rw [HP.out.1.length_eq, List.length_append, List.length_take]; omega
    obtain ⟨po, co, rfl⟩ := own_slice hrow
    clear hrow
    by_cases hlt2 : k < nl
    · obtain ⟨bb, off, rfl, hb, hcell⟩ := HC.out (by omega)
      have d0 := hcell k hlt2
      obtain ⟨x, hx⟩ : ∃ x, nth LB k = x := ⟨_, rfl⟩
      have HX : Hid (nth LB k = x) := hx
      rw [hx] at d0
      have hlt' : (k : Int) < (nl : Int) := by omega
      have d1 := (hB.cell (p := ⟨bb, off + k, none⟩) hb).trans d0
      have kp := put_any W.heap.size _ L x wr HROW.out (by omega)
      obtain ⟨mo, hmo⟩ : ∃ m, L.length = m := ⟨_, rfl⟩
      rw [hmo] at kp hLn ⊢
      have HMO : Hid (L.length = mo) := hmo
      clear hx hcell d0 hmo
      go_wp2_with fail
      refine kp.mono ?_
      rintro e w4 ⟨s4, L4, rfl, HR4, HPU, hb4⟩
      obtain ⟨p4, c4, rfl⟩ := own_slice HR4.out
      have HR5 : Hid _ := own_base HR4.out (Nat.le_trans hw3 hB.size)
      have hB4 : Below w3.heap.size w3 w4 := hB.trans (hb4.mono hB.size)
      have HP4 : Hid (L4.Perm (A ++ LB.take (k + 1)) ∧ L4.Pairwise (· ≤ ·)) := ⟨put_step (by rw [HNL.out]; exact hlt2) HP.out.1 (by rw [HX.out]; exact HPU.out), HPU.out.pw HP.out.2⟩
      obtain ⟨m4, hm4⟩ : ∃ m, L4.length = m := ⟨_, rfl⟩
      have HM4 : Hid (L4.length = m4) := hm4
      rw [hm4]
      rw [hm4] at HR5
      clear kp hb4 HR4 hm4
      go_wp2
      go_roundw
      case rel => exact ⟨k + 1, L4, by omega, by go_num, HP4.out, by rw [HM4.out]; exact HR5.out, hB4⟩
      case measure => simp [intOf]; omega
    · have hlt' : ¬ (k : Int) < (nl : Int) := by omega
      obtain rfl : k = nl := by omega
      have HLL : Hid (L = sortL (A ++ LB)) := by
        have h1 := HP.out.1
        rw [← HNL.out, List.take_length] at h1
        exact sort_is h1 HP.out.2
      have HBW : Hid (Below W.heap.size W wr) := hb3.trans (hB.mono hb3.size)
      obtain ⟨mo, hmo⟩ : ∃ m, L.length = m := ⟨_, rfl⟩
      rw [hmo]
      rw [hmo] at HROW
      have HMO : Hid (L.length = mo) := hmo
      clear hmo
      go_wp2
      go_ret
      exact ⟨_, rfl, by rw [HSP.out, ← HLL.out, HMO.out]; exact HROW.out, HBW.out⟩

set_option maxRecDepth 100000 in
set_option maxHeartbeats 4000000 in
theorem refsym_any (s1 s2 : Value) (a b : List Int) (W : World) (h1 : Si W s1 a) (h2 : Si W s2 b) :
    Calls Tryz.prog 18 #[s1, s2] W fun e w' => ∃ v, e = .returned v ∧ w'.ownsRow W.heap.size 2 1 v (symL (tkS a) (tkS b)).length (intv (symL (tkS a) (tkS b))) ∧ Below W.heap.size W w' := by
  have k64 := refless_any s1 s2 a b W h1 h2
  have k17 := fun X (hX : Below W.heap.size W X) => refless_any s2 s1 b a X (h2.below hX) (h1.below hX)
  have hset : (lessL (tkS a) (tkS b)).length ≤ 64 := Nat.le_trans (lessL_le _ _) (tkS_set a).1
  have hlb : (lessL (tkS b) (tkS a)).length ≤ 64 := Nat.le_trans (lessL_le _ _) (tkS_set b).1
  have HAP : Hid ((lessL (tkS a) (tkS b)).Pairwise (· ≤ ·)) := ((set_pw (tkS_set a)).filter _).imp (by omega)
  have HSP : Hid (symL (tkS a) (tkS b) = sortL (lessL (tkS a) (tkS b) ++ lessL (tkS b) (tkS a))) := rfl
  generalize symL (tkS a) (tkS b) = J at HSP ⊢
  generalize lessL (tkS b) (tkS a) = LB at k17 hlb HSP
  generalize lessL (tkS a) (tkS b) = A at k64 hset HAP HSP
  obtain ⟨a1, c1, rfl, _⟩ := h1
  obtain ⟨a2, c2, rfl, _⟩ := h2
  generalize a.length = n1 at *
  generalize b.length = n2 at *
  go_enter Tryz.func18, Tryz.ntmps18
  go_wp2_with fail
  refine k64.mono ?_
  rintro e w2 ⟨v2, rfl, hr2', hb2⟩
  obtain ⟨p2, d2, rfl⟩ := own_slice hr2'
  have HR2 : Hid _ := hr2'
  obtain ⟨na, hna⟩ : ∃ n, A.length = n := ⟨_, rfl⟩
  have HNA : Hid (A.length = na) := hna
  rw [hna] at HR2 hset ⊢
  have kk := k17 w2 hb2
  clear k17 hr2' hna k64
  go_wp2_with fail
  refine kk.mono ?_
  rintro e w3 ⟨v3, rfl, hr3, hb3'⟩
  have hb3 : Below W.heap.size W w3 := hb2.trans (hb3'.mono hb2.size)
  have HRA : Hid (w3.ownsRow W.heap.size 2 1 (.slice p2 na d2) A.length (intv A)) := by unfold Hid; rw [HNA.out]; exact own_keepB HR2.out hb3'
  have hset2 : A.length ≤ 64 := by rw [HNA.out]; exact hset
  have hw3 := hb3.size
  have hsl := own_si hr3
  obtain ⟨p3, d3, rfl⟩ := own_slice hr3
  obtain ⟨a9, c9, e9, hc⟩ := hsl
  injection e9 with e4 _ e5
  subst e4 e5
  have HC : Hid _ := hc
  obtain ⟨nl, hnl⟩ : ∃ n, LB.length = n := ⟨_, rfl⟩
  have HNL : Hid (LB.length = nl) := hnl
  rw [hnl] at HC hlb ⊢
  clear kk hb3' hr3 HR2 hb2 hc hnl
  go_wp2
  go_loopw [5, 7] (fun o i wr => ∃ (k : Nat) (L : List Int), k ≤ nl ∧ i = .int .i64 k ∧ Hid (L.Perm (A ++ LB.take k) ∧ L.Pairwise (· ≤ ·)) ∧ wr.ownsRow W.heap.size 2 1 o L.length (intv L) ∧ Below w3.heap.size w3 wr) (fun _ i _ => nl - (intOf i).toNat)
  case atStart => exact ⟨0, A, Nat.zero_le _, rfl, ⟨by simp, HAP.out⟩, HRA.out, Below.refl _ _⟩
  case round =>
    obtain ⟨k, L, hk, rfl, HP, hrow, hB⟩ := hrel
    have HROW : Hid _ := hrow
    have hLn : L.length ≤ 128 := by rw [HP.out.1.length_eq, List.length_append, List.length_take]; omega
    obtain ⟨po, co, rfl⟩ := own_slice hrow
    clear hrow
    by_cases hlt2 : k < nl
    · obtain ⟨bb, off, rfl, hb, hcell⟩ := HC.out (by omega)
      have d0 := hcell k hlt2
      obtain ⟨x, hx⟩ : ∃ x, nth LB k = x := ⟨_, rfl⟩
      have HX : Hid (nth LB k = x) := hx
      rw [hx] at d0
      have hlt' : (k : Int) < (nl : Int) := by omega
      have d1 := (hB.cell (p := ⟨bb, off + k, none⟩) hb).trans d0
      have kp := put_any W.heap.size _ L x wr HROW.out (by omega)
      obtain ⟨mo, hmo⟩ : ∃ m, L.length = m := ⟨_, rfl⟩
      rw [hmo] at kp hLn ⊢
      have HMO : Hid (L.length = mo) := hmo
      clear hx hcell d0 hmo
      go_wp2_with fail
      refine kp.mono ?_
      rintro e w4 ⟨s4, L4, rfl, HR4, HPU, hb4⟩
      obtain ⟨p4, c4, rfl⟩ := own_slice HR4.out
      have HR5 : Hid _ := own_base HR4.out (Nat.le_trans hw3 hB.size)
      have hB4 : Below w3.heap.size w3 w4 := hB.trans (hb4.mono hB.size)
      have HP4 : Hid (L4.Perm (A ++ LB.take (k + 1)) ∧ L4.Pairwise (· ≤ ·)) := ⟨put_step (by rw [HNL.out]; exact hlt2) HP.out.1 (by rw [HX.out]; exact HPU.out), HPU.out.pw HP.out.2⟩
      obtain ⟨m4, hm4⟩ : ∃ m, L4.length = m := ⟨_, rfl⟩
      have HM4 : Hid (L4.length = m4) := hm4
      rw [hm4]
      rw [hm4] at HR5
      clear kp hb4 HR4 hm4
      go_wp2
      go_roundw
      case rel => exact ⟨k + 1, L4, by omega, by go_num, HP4.out, by rw [HM4.out]; exact HR5.out, hB4⟩
      case measure => simp [intOf]; omega
    · have hlt' : ¬ (k : Int) < (nl : Int) := by omega
      obtain rfl : k = nl := by omega
      have HLL : Hid (L = sortL (A ++ LB)) := by
        have h1 := HP.out.1
        rw [← HNL.out, List.take_length] at h1
        exact sort_is h1 HP.out.2
      have HBW : Hid (Below W.heap.size W wr) := hb3.trans (hB.mono hb3.size)
      obtain ⟨mo, hmo⟩ : ∃ m, L.length = m := ⟨_, rfl⟩
      rw [hmo]
      rw [hmo] at HROW
      have HMO : Hid (L.length = mo) := hmo
      clear hmo
      go_wp2
      go_ret
      exact ⟨_, rfl, by rw [HSP.out, ← HLL.out, HMO.out]; exact HROW.out, HBW.out⟩
end Go.Proofs.YtacnhkaibcjjgaaGreatDoor
