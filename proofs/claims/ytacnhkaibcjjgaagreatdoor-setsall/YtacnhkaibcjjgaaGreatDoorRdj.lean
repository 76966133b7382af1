/-
  What is proved here: the reference's Join and Sym of any lists.
  What is proved here: strconv.FormatInt at base 10, and the reference's Text of any list.
-/
import Derived.Test.YtacnhkaibcjjgaaGreatDoorRc
import Derived.Test.YtacnhkaibcjjgaaGreatDoorTxj
import Derived.Shelf.Strconv.Itoa4
import Derived.Laws.Concat
namespace Go.Proofs.YtacnhkaibcjjgaaGreatDoor
open Go.RowKit Go.Shelf
set_option linter.unusedVariables false
set_option linter.unusedSimpArgs false

theorem sort_is {l L : List Int} (hp : L.Perm l) (hs : L.Pairwise (· ≤ ·)) : L = sortL l :=
  List.Perm.eq_of_pairwise (le := (· ≤ ·)) (fun x y _ _ h1 h2 => by omega) hs (sort_pw l) (hp.trans (List.mergeSort_perm _ _).symm)
theorem put_step {A LB L L' : List Int} {k : Nat} (hk : k < LB.length) (hp : L.Perm (A ++ LB.take k)) (h : PutR L (nth LB k) L') : L'.Perm (A ++ LB.take (k + 1)) := by
  refine h.perm.trans ?_
  rw [take_next LB k hk, ← List.append_assoc]
  exact (hp.cons _).trans (List.perm_append_comm (l₁ := [nth LB k]))

set_option maxRecDepth 100000 in
set_option maxHeartbeats 4000000 in
theorem refjoin_any (s1 s2 : Value) (a b : List Int) (W : World) (h1 : Si W s1 a) (h2 : Si W s2 b) :
    Calls Tryz.prog 15 #[s1, s2] W fun e w' => ∃ v, e = .returned v ∧ w'.ownsRow W.heap.size 2 1 v (joinL (tkS a) (tkS b)).length (intv (joinL (tkS a) (tkS b))) ∧ Below W.heap.size W w' := by
  have k64 := taken_any s1 a W h1
  have k17 := fun X (hX : Below W.heap.size W X) => refless_any s2 s1 b a X (h2.below hX) (h1.below hX)
  have hset := (tkS_set a).1
  have hlb : (lessL (tkS b) (tkS a)).length ≤ 64 := Nat.le_trans (lessL_le _ _) (tkS_set b).1
  have HAP : Hid ((tkS a).Pairwise (· ≤ ·)) := (set_pw (tkS_set a)).imp (by omega)
  have HSP : Hid (joinL (tkS a) (tkS b) = sortL (tkS a ++ lessL (tkS b) (tkS a))) := rfl
  generalize joinL (tkS a) (tkS b) = J at HSP ⊢
  generalize lessL (tkS b) (tkS a) = LB at k17 hlb HSP
  generalize tkS a = A at k64 hset HAP HSP
  obtain ⟨a1, c1, rfl, _⟩ := h1
  obtain ⟨a2, c2, rfl, _⟩ := h2
  generalize a.length = n1 at *
  generalize b.length = n2 at *
  go_enter Tryz.func15, Tryz.ntmps15
  go_wp2_with fail
  refine k64.mono ?_
  rintro e w1 ⟨a3, n3, c3, rfl, HS, HN3, m1, hw1⟩
  have hb1 : Below W.heap.size W w1 := by rw [hw1]; exact below_drewN (Below.refl _ _) _
  have hnil : w1.ownsRow W.heap.size 2 1 (.slice none 0 0) 0 (intv []) := by simpa [intv] using World.ownsRow_nil _ _ _ _
  have HS1 : Hid (Si w1 (.slice a3 n3 c3) A) := HS.out.below hb1
  have hsz1 := hb1.size
  clear k64 hw1 HS
  go_upto_region 3 with (at_builtin; refine wpList_app_sr _ rfl _ _ rfl W.heap.size _ 0 [] rfl hnil rfl _ A rfl HS1.out (by simp <;> omega) hsz1 ?_; intro v2 w2 hr2 hbel2)
  have hr2' : w2.ownsRow W.heap.size 2 1 v2 A.length (intv A) := by simpa using hr2
  have hb2 : Below W.heap.size W w2 := hb1.trans hbel2
  clear hr2 hbel2 hb1 hnil hsz1
  obtain ⟨p2, d2, rfl⟩ := own_slice hr2'
  have HR2 : Hid _ := hr2'
  obtain ⟨na, hna⟩ : ∃ n, A.length = n := ⟨_, rfl⟩
  have HNA : Hid (A.length = na) := hna
  rw [hna] at HR2 hset ⊢
  have kk := k17 w2 hb2
  clear k17 hr2' hna
  go_wp2_with fail
  refine kk.mono ?_
  rintro e w3 ⟨v3, rfl, hr3, hb3'⟩
  have hb3 : Below W.heap.size W w3 := hb2.trans (hb3'.mono hb2.size)
  have HRA : Hid (w3.ownsRow W.heap.size 2 1 (.slice p2 na d2) A.length (intv A)) := by unfold Hid; rw [HNA.out]; exact own_keepB HR2.out hb3'
  have hset2 : A.length ≤ 64 := by rw [HNA.out]; exact hset
  have hw3 := hb3.size
  have hsl := own_si hr3
  obtain ⟨p3, d3, rfl⟩ := own_slice hr3
  obtain ⟨a9, c9, e9, hc⟩ := hsl
  injection e9 with e4 _ e5
  subst e4 e5
  have HC : Hid _ := hc
  obtain ⟨nl, hnl⟩ : ∃ n, LB.length = n := ⟨_, rfl⟩
  have HNL : Hid (LB.length = nl) := hnl
  rw [hnl] at HC hlb ⊢
  clear kk hb3' hr3 HR2 hb2 hc hnl
  go_wp2
  go_loopw [5, 7] (fun o i wr => ∃ (k : Nat) (L : List Int), k ≤ nl ∧ i = .int .i64 k ∧ Hid (L.Perm (A ++ LB.take k) ∧ L.Pairwise (· ≤ ·)) ∧ wr.ownsRow W.heap.size 2 1 o L.length (intv L) ∧ Below w3.heap.size w3 wr) (fun _ i _ => nl - (intOf i).toNat)
  case atStart => exact ⟨0, A, Nat.zero_le _, rfl, ⟨by simp, HAP.out⟩, HRA.out, Below.refl _ _⟩
  case round =>
    obtain ⟨k, L, hk, rfl, HP, hrow, hB⟩ := hrel
    have HROW : Hid _ := hrow
    have hLn : L.length ≤ 128 := by rw [HP.out.1.length_eq, List.length_append, List.length_take]; omega
    obtain ⟨po, co, rfl⟩ := own_slice hrow
    clear hrow
    by_cases hlt2 : k < nl
    · obtain ⟨bb, off, rfl, hb, hcell⟩ := HC.out (by omega)
      have d0 := hcell k hlt2
      obtain ⟨x, hx⟩ : ∃ x, nth LB k = x := ⟨_, rfl⟩
      have HX : Hid (nth LB k = x) := hx
      rw [hx] at d0
      have hlt' : (k : Int) < (nl : Int) := by omega
      have d1 := (hB.cell (p := ⟨bb, off + k, none⟩) hb).trans d0
      have kp := put_any W.heap.size _ L x wr HROW.out (by omega)
      obtain ⟨mo, hmo⟩ : ∃ m, L.length = m := ⟨_, rfl⟩
      rw [hmo] at kp hLn ⊢
      have HMO : Hid (L.length = mo) := hmo
      clear hx hcell d0 hmo
      go_wp2_with fail
      refine kp.mono ?_
      rintro e w4 ⟨s4, L4, rfl, HR4, HPU, hb4⟩
      obtain ⟨p4, c4, rfl⟩ := own_slice HR4.out
      have HR5 : Hid _ := own_base HR4.out (Nat.le_trans hw3 hB.size)
      have hB4 : Below w3.heap.size w3 w4 := hB.trans (hb4.mono hB.size)
      have HP4 : Hid (L4.Perm (A ++ LB.take (k + 1)) ∧ L4.Pairwise (· ≤ ·)) := ⟨put_step (by rw [HNL.out]; exact hlt2) HP.out.1 (by rw [HX.out]; exact HPU.out), HPU.out.pw HP.out.2⟩
      obtain ⟨m4, hm4⟩ : ∃ m, L4.length = m := ⟨_, rfl⟩
      have HM4 : Hid (L4.length = m4) := hm4
      rw [hm4]
      rw [hm4] at HR5
      clear kp hb4 HR4 hm4
      go_wp2
      go_roundw
      case rel => exact ⟨k + 1, L4, by omega, by go_num, HP4.out, by rw [HM4.out]; exact HR5.out, hB4⟩
      case measure => simp [intOf]; omega
    · have hlt' : ¬ (k : Int) < (nl : Int) := by omega
      obtain rfl : k = nl := by omega
      have HLL : Hid (L = sortL (A ++ LB)) := by
        have h1 := HP.out.1
        rw [← HNL.out, List.take_length] at h1
        exact sort_is h1 HP.out.2
      have HBW : Hid (Below W.heap.size W wr) := hb3.trans (hB.mono hb3.size)
      obtain ⟨mo, hmo⟩ : ∃ m, L.length = m := ⟨_, rfl⟩
      rw [hmo]
      rw [hmo] at HROW
      have HMO : Hid (L.length = mo) := hmo
      clear hmo
      go_wp2
      go_ret
      exact ⟨_, rfl, by rw [HSP.out, ← HLL.out, HMO.out]; exact HROW.out, HBW.out⟩

set_option maxRecDepth 100000 in
set_option maxHeartbeats 4000000 in
theorem refsym_any (s1 s2 : Value) (a b : List Int) (W : World) (h1 : Si W s1 a) (h2 : Si W s2 b) :
    Calls Tryz.prog 18 #[s1, s2] W fun e w' => ∃ v, e = .returned v ∧ w'.ownsRow W.heap.size 2 1 v (symL (tkS a) (tkS b)).length (intv (symL (tkS a) (tkS b))) ∧ Below W.heap.size W w' := by
  have k64 := refless_any s1 s2 a b W h1 h2
  have k17 := fun X (hX : Below W.heap.size W X) => refless_any s2 s1 b a X (h2.below hX) (h1.below hX)
  have hset : (lessL (tkS a) (tkS b)).length ≤ 64 := Nat.le_trans (lessL_le _ _) (tkS_set a).1
  have hlb : (lessL (tkS b) (tkS a)).length ≤ 64 := Nat.le_trans (lessL_le _ _) (tkS_set b).1
  have HAP : Hid ((lessL (tkS a) (tkS b)).Pairwise (· ≤ ·)) := ((set_pw (tkS_set a)).filter _).imp (by omega)
  have HSP : Hid (symL (tkS a) (tkS b) = sortL (lessL (tkS a) (tkS b) ++ lessL (tkS b) (tkS a))) := rfl
  generalize symL (tkS a) (tkS b) = J at HSP ⊢
  generalize lessL (tkS b) (tkS a) = LB at k17 hlb HSP
  generalize lessL (tkS a) (tkS b) = A at k64 hset HAP HSP
  obtain ⟨a1, c1, rfl, _⟩ := h1
  obtain ⟨a2, c2, rfl, _⟩ := h2
  generalize a.length = n1 at *
  generalize b.length = n2 at *
  go_enter Tryz.func18, Tryz.ntmps18
  go_wp2_with fail
  refine k64.mono ?_
  rintro e w2 ⟨v2, rfl, hr2', hb2⟩
  obtain ⟨p2, d2, rfl⟩ := own_slice hr2'
  have HR2 : Hid _ := hr2'
  obtain ⟨na, hna⟩ : ∃ n, A.length = n := ⟨_, rfl⟩
  have HNA : Hid (A.length = na) := hna
  rw [hna] at HR2 hset ⊢
  have kk := k17 w2 hb2
  clear k17 hr2' hna k64
  go_wp2_with fail
  refine kk.mono ?_
  rintro e w3 ⟨v3, rfl, hr3, hb3'⟩
  have hb3 : Below W.heap.size W w3 := hb2.trans (hb3'.mono hb2.size)
  have HRA : Hid (w3.ownsRow W.heap.size 2 1 (.slice p2 na d2) A.length (intv A)) := by unfold Hid; rw [HNA.out]; exact own_keepB HR2.out hb3'
  have hset2 : A.length ≤ 64 := by rw [HNA.out]; exact hset
  have hw3 := hb3.size
  have hsl := own_si hr3
  obtain ⟨p3, d3, rfl⟩ := own_slice hr3
  obtain ⟨a9, c9, e9, hc⟩ := hsl
  injection e9 with e4 _ e5
  subst e4 e5
  have HC : Hid _ := hc
  obtain ⟨nl, hnl⟩ : ∃ n, LB.length = n := ⟨_, rfl⟩
  have HNL : Hid (LB.length = nl) := hnl
  rw [hnl] at HC hlb ⊢
  clear kk hb3' hr3 HR2 hb2 hc hnl
  go_wp2
  go_loopw [5, 7] (fun o i wr => ∃ (k : Nat) (L : List Int), k ≤ nl ∧ i = .int .i64 k ∧ Hid (L.Perm (A ++ LB.take k) ∧ L.Pairwise (· ≤ ·)) ∧ wr.ownsRow W.heap.size 2 1 o L.length (intv L) ∧ Below w3.heap.size w3 wr) (fun _ i _ => nl - (intOf i).toNat)
  case atStart => exact ⟨0, A, Nat.zero_le _, rfl, ⟨by simp, HAP.out⟩, HRA.out, Below.refl _ _⟩
  case round =>
    obtain ⟨k, L, hk, rfl, HP, hrow, hB⟩ := hrel
    have HROW : Hid _ := hrow
    have hLn : L.length ≤ 128 := by rw [HP.out.1.length_eq, List.length_append, List.length_take]; omega
    obtain ⟨po, co, rfl⟩ := own_slice hrow
    clear hrow
    by_cases hlt2 : k < nl
    · obtain ⟨bb, off, rfl, hb, hcell⟩ := HC.out (by omega)
      have d0 := hcell k hlt2
      obtain ⟨x, hx⟩ : ∃ x, nth LB k = x := ⟨_, rfl⟩
      have HX : Hid (nth LB k = x) := hx
      rw [hx] at d0
      have hlt' : (k : Int) < (nl : Int) := by omega
      have d1 := (hB.cell (p := ⟨bb, off + k, none⟩) hb).trans d0
      have kp := put_any W.heap.size _ L x wr HROW.out (by omega)
      obtain ⟨mo, hmo⟩ : ∃ m, L.length = m := ⟨_, rfl⟩
      rw [hmo] at kp hLn ⊢
      have HMO : Hid (L.length = mo) := hmo
      clear hx hcell d0 hmo
      go_wp2_with fail
      refine kp.mono ?_
      rintro e w4 ⟨s4, L4, rfl, HR4, HPU, hb4⟩
      obtain ⟨p4, c4, rfl⟩ := own_slice HR4.out
      have HR5 : Hid _ := own_base HR4.out (Nat.le_trans hw3 hB.size)
      have hB4 : Below w3.heap.size w3 w4 := hB.trans (hb4.mono hB.size)
      have HP4 : Hid (L4.Perm (A ++ LB.take (k + 1)) ∧ L4.Pairwise (· ≤ ·)) := ⟨put_step (by rw [HNL.out]; exact hlt2) HP.out.1 (by rw [HX.out]; exact HPU.out), HPU.out.pw HP.out.2⟩
      obtain ⟨m4, hm4⟩ : ∃ m, L4.length = m := ⟨_, rfl⟩
      have HM4 : Hid (L4.length = m4) := hm4
      rw [hm4]
      rw [hm4] at HR5
      clear kp hb4 HR4 hm4
      go_wp2
      go_roundw
      case rel => exact ⟨k + 1, L4, by omega, by go_num, HP4.out, by rw [HM4.out]; exact HR5.out, hB4⟩
      case measure => simp [intOf]; omega
    · have hlt' : ¬ (k : Int) < (nl : Int) := by omega
      obtain rfl : k = nl := by omega
      have HLL : Hid (L = sortL (A ++ LB)) := by
        have h1 := HP.out.1
        rw [← HNL.out, List.take_length] at h1
        exact sort_is h1 HP.out.2
      have HBW : Hid (Below W.heap.size W wr) := hb3.trans (hB.mono hb3.size)
      obtain ⟨mo, hmo⟩ : ∃ m, L.length = m := ⟨_, rfl⟩
      rw [hmo]
      rw [hmo] at HROW
      have HMO : Hid (L.length = mo) := hmo
      clear hmo
      go_wp2
      go_ret
      exact ⟨_, rfl, by rw [HSP.out, ← HLL.out, HMO.out]; exact HROW.out, HBW.out⟩
end Go.Proofs.YtacnhkaibcjjgaaGreatDoor

namespace Go.Proofs.YtacnhkaibcjjgaaGreatDoor
open Go.RowKit Go.Shelf
set_option linter.unusedVariables false
set_option linter.unusedSimpArgs false

theorem fmt_in (x : Int) (h0 : -9223372036854775808 ≤ x) (h1 : x ≤ 9223372036854775807) (w : World) (htab : Lib.TabIs Tryz.prog w "internal/strconv.uint64pow10" .u64 Lib.pow10Tab) :
    Calls Tryz.prog 101 #[.int .i64 x, .int .i64 10] w fun e w' => e = .returned (.string ⟨(Lib.itoa x).toArray⟩) ∧ ∃ k os, w' = Sort.grow (w.drewN k) os :=
  Any.internal_strconv_FormatInt_10 { Tryz.laysPint with } x h0 h1 w htab
/-- A string whose bytes are these. -/
def Bs (s : ByteArray) (l : List UInt8) : Prop := s.data.toList = l
theorem Bs.eq {s : ByteArray} {l : List UInt8} (h : Bs s l) : s = ⟨l.toArray⟩ := by unfold Bs at h; rw [← h]
theorem fmt_any (x : Int) (h0 : -9223372036854775808 ≤ x) (h1 : x ≤ 9223372036854775807) (w : World) (hT : Tens w.heap.size w) :
    Calls Tryz.prog 71 #[.int .i64 x, .int .i64 10] w fun e w' => ∃ s, e = .returned (.string s) ∧ Hid (Bs s (Lib.itoa x)) ∧ Below w.heap.size w w' := by
  have hc := fmt_in x h0 h1 w (Lib.TabBelow.here hT)
  go_enter Tryz.func71, Tryz.ntmps71
  go_wp2_with (go_at_call 101; refine hc.mono ?_; rintro e w1 ⟨rfl, k, os, rfl⟩)
  go_ret
  exact ⟨_, rfl, by unfold Hid Bs; simp, Lib.below_grow _ _ (Nat.le_refl _) _ _⟩
theorem add_at {a b : ByteArray} {p q : List UInt8} (ha : Bs a p) (hb : Bs b q) (h : p.length + q.length ≤ 1000000000) : ∃ c, Bs c (p ++ q) ∧ ∀ X, (Op.stringOp .add a b).run Tryz.prog X = .ok (.string c) X := by
  refine ⟨a ++ b, ?_, fun X => run_string_add_sum X a b ?_⟩
  · unfold Bs at *; rw [← ha, ← hb]; simp
  · unfold Bs at *; rw [← ha, ← hb] at h; simp at h; omega

set_option maxRecDepth 100000 in
set_option maxHeartbeats 4000000 in
theorem reftext_any (s : Value) (l : List Int) (W : World) (h : Si W s l) (hT : Tens W.heap.size W) :
    Calls Tryz.prog 22 #[s] W fun e w' => e = .returned (.string ⟨(stx (tkS l)).toArray⟩) ∧ Below W.heap.size W w' := by
  have hk := taken_any s l W h
  have hset := tkS_set l
  have HIS : Hid (IsSet (tkS l)) := hset
  have hlen := hset.1
  have HT : Hid (Tens W.heap.size W) := hT
  generalize tkS l = A at hk HIS hlen ⊢
  obtain ⟨a1, c1, rfl, _⟩ := h
  generalize l.length = l1 at *
  clear hT hset
  go_enter Tryz.func22, Tryz.ntmps22
  go_wp2_with fail
  refine hk.mono ?_
  rintro e w1 ⟨a3, n, c3, rfl, HS1, HN1, m1, hw1⟩
  have hb1 : Below W.heap.size W w1 := by rw [hw1]; exact below_drewN (Below.refl _ _) _
  have q1 := HS1.out
  obtain ⟨_, _, e3, hc1⟩ := q1
  rw [← HN1.out] at e3 hc1
  injection e3 with e4 _ e5
  subst e4 e5
  have HC : Hid _ := hc1
  have HN : Hid (A.length = n) := HN1.out.symm
  have hn : n ≤ 64 := by rw [HN1.out]; exact hlen
  clear hk hw1 HS1 hc1 HN1 hlen
  go_wp2
  go_loopw [3, 4] (fun o i wr => ∃ (k : Nat) (sk : ByteArray), k ≤ n ∧ i = .int .i64 k ∧ o = .string sk ∧ Hid (Bs sk (txS A k)) ∧ (txS A k).length ≤ 50 * k + 1 ∧ Below W.heap.size W wr) (fun _ i _ => n - (intOf i).toNat)
  case atStart => exact ⟨0, ⟨#[123]⟩, by omega, rfl, rfl, by unfold Hid Bs; rfl, by simp [txS], hb1⟩
  case round =>
    clear hb1
    obtain ⟨k, sk, hk, rfl, rfl, HS, htl, hB⟩ := hrel
    have hsz := hB.size
    by_cases hlt : k < n
    · have hkl : k < A.length := by rw [HN.out]; exact hlt
      obtain ⟨b, off, rfl, hb, hcell⟩ := HC.out (by omega)
      have d1 := (hB.cell (p := ⟨b, off + k, none⟩) hb).trans (hcell k hlt)
      have hok := HIS.out.2 k hkl
      obtain ⟨x, hx⟩ : ∃ x, nth A k = x := ⟨_, rfl⟩
      have htx : txS A (k + 1) = txS A k ++ (if 0 < k then [44] else []) ++ Lib.itoa (nth A k) := rfl
      unfold SetAt at hok
      rw [hx] at d1 hok htx
      have o1 := hok.1
      have o2 := hok.2.1
      have lx := Lib.itoa_length_le x (by omega) (by omega)
      have hlt' : (k : Int) < (n : Int) := by omega
      have HTX : Hid (txS A (k + 1) = txS A k ++ (if 0 < k then [44] else []) ++ Lib.itoa x) := htx
      obtain ⟨p, hp⟩ : ∃ p, txS A k = p := ⟨_, rfl⟩
      have HP : Hid (txS A k = p) := hp
      rw [hp] at HS htl
      clear hkl htx hx hp hcell hok
      by_cases hk0 : 0 < k
      · have hd0 : decide (0 < (k : Int)) = true := by simp; omega
        obtain ⟨s1, hs1, ha1⟩ := add_at HS.out (show Bs ⟨#[44]⟩ [44] from rfl) (by simp only [List.length_cons, List.length_nil]; omega)
        go_wp2_with fail
        refine (fmt_any x (by omega) (by omega) _ (tens_here HT.out hB)).mono ?_
        rintro e w2 ⟨q1, rfl, HQ1, hb2⟩
        have hB2 : Below W.heap.size W w2 := hB.trans (hb2.mono hB.size)
        obtain ⟨s2, hs2, ha2⟩ := add_at hs1 HQ1.out (by simp only [List.length_append, List.length_cons, List.length_nil]; omega)
        have HNEW : Hid (Bs s2 (txS A (k + 1)) ∧ (txS A (k + 1)).length ≤ 50 * (k + 1) + 1) := by
          unfold Hid; rw [HTX.out, HP.out, if_pos hk0]; exact ⟨hs2, by simp only [List.length_append, List.length_cons, List.length_nil]; omega⟩
        clear hs1 hs2 hb2
        go_wp2
        go_roundw
        case rel => exact ⟨k + 1, s2, by omega, by go_num, rfl, HNEW.out.1, HNEW.out.2, hB2⟩
        case measure => simp [intOf]; omega
      · have hd0 : decide (0 < (k : Int)) = false := by simp; omega
        go_wp2_with fail
        refine (fmt_any x (by omega) (by omega) _ (tens_here HT.out hB)).mono ?_
        rintro e w2 ⟨q1, rfl, HQ1, hb2⟩
        have hB2 : Below W.heap.size W w2 := hB.trans (hb2.mono hB.size)
        obtain ⟨s2, hs2, ha2⟩ := add_at HS.out HQ1.out (by omega)
        have HNEW : Hid (Bs s2 (txS A (k + 1)) ∧ (txS A (k + 1)).length ≤ 50 * (k + 1) + 1) := by
          unfold Hid; rw [HTX.out, HP.out, if_neg hk0, List.append_nil]; exact ⟨hs2, by simp only [List.length_append]; omega⟩
        clear hs2 hb2
        go_wp2
        go_roundw
        case rel => exact ⟨k + 1, s2, by omega, by go_num, rfl, HNEW.out.1, HNEW.out.2, hB2⟩
        case measure => simp [intOf]; omega
    · have hlt' : ¬ (k : Int) < (n : Int) := by omega
      obtain rfl : k = n := by omega
      obtain ⟨s2, hs2, ha2⟩ := add_at HS.out (show Bs ⟨#[125]⟩ [125] from rfl) (by simp only [List.length_cons, List.length_nil]; omega)
      have HF : Hid (s2 = ⟨(stx A).toArray⟩) := by unfold Hid stx; rw [HN.out]; exact hs2.eq
      clear hs2
      go_wp2
      go_ret
      exact ⟨by rw [HF.out]; rfl, hB⟩
end Go.Proofs.YtacnhkaibcjjgaaGreatDoor
