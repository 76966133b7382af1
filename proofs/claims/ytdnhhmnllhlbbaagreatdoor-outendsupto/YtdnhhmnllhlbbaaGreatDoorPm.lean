/-
  What is proved here: The last line of a run's text is read: errorEnding, ending; what stands there is no block.
-/
import Derived.Test.YtdnhhmnllhlbbaaGreatDoorOwj
import Derived.Test.YtdnhhmnllhlbbaaGreatDoorPf
import Derived.Test.YtdnhhmnllhlbbaaGreatDoorOkj
import Derived.Test.YtdnhhmnllhlbbaaGreatDoorOe
import Derived.Test.YtdnhhmnllhlbbaaGreatDoorOy
import Derived.Test.YtdnhhmnllhlbbaaGreatDoorOsj
namespace Go.Proofs.YtdnhhmnllhlbbaaGreatDoor
open Go.RowKit Go.Shelf
set_option linter.unusedVariables false
set_option linter.unusedSimpArgs false
theorem trimS93 (l : List UInt8) (hl : l.length ≤ 1000000000000) (W : World) : Calls Tryz.prog 93 #[.string (bs (l ++ [10])), .string ⟨#[10]⟩] W fun e w' => e = .returned (.string (bs l)) ∧ w' = W := by
  refine (Any.strings_TrimSuffix Tryz.laysTrimSuffix (bs (l ++ [10])) (bs [10]) W (by rw [bs_size, List.length_append]; simp; omega)).mono fun e w' ⟨he, hw⟩ => ⟨?_, hw⟩
  rw [he, bs_data, bs_data]
  have : Lib.trimSuffix (l ++ [10]) [10] = l := by
    have h1 : Lib.hasSuffix (l ++ [10]) [10] = true := by
      unfold Lib.hasSuffix
      rw [List.isSuffixOf_iff_suffix]
      exact ⟨l, rfl⟩
    unfold Lib.trimSuffix
    rw [if_pos h1, List.length_append]
    simp
  rw [this]
  rfl
theorem cutP92 (l : List UInt8) (W : World) : Calls Tryz.prog 92 #[.string (bs ([61, 61, 61, 61, 61, 69, 82, 82, 79, 82, 61, 61, 61, 61, 61, 32] ++ l)), .string ⟨#[61, 61, 61, 61, 61, 69, 82, 82, 79, 82, 61, 61, 61, 61, 61, 32]⟩] W fun e w' => e = .returned (.tuple #[.string (bs l), .bool true]) ∧ w' = W := by
  refine (Any.strings_CutPrefix Tryz.laysCutPrefix (bs ([61, 61, 61, 61, 61, 69, 82, 82, 79, 82, 61, 61, 61, 61, 61, 32] ++ l)) (bs [61, 61, 61, 61, 61, 69, 82, 82, 79, 82, 61, 61, 61, 61, 61, 32]) W).mono fun e w' ⟨he, hw⟩ => ⟨?_, hw⟩
  rw [he, bs_data, bs_data]
  have h1 : Lib.hasPrefix ([61, 61, 61, 61, 61, 69, 82, 82, 79, 82, 61, 61, 61, 61, 61, 32] ++ l) [61, 61, 61, 61, 61, 69, 82, 82, 79, 82, 61, 61, 61, 61, 61, 32] = true := by
    unfold Lib.hasPrefix
    rw [List.isPrefixOf_iff_prefix]
    exact ⟨l, rfl⟩
  have h2 : Lib.trimPrefix ([61, 61, 61, 61, 61, 69, 82, 82, 79, 82, 61, 61, 61, 61, 61, 32] ++ l) [61, 61, 61, 61, 61, 69, 82, 82, 79, 82, 61, 61, 61, 61, 61, 32] = l := by
    unfold Lib.trimPrefix
    rw [if_pos h1]
    exact List.drop_left
  rw [h1, h2]
  rfl
theorem trimP95 (l : List UInt8) (h : Lib.hasPrefix l [45] = false) (W : World) : Calls Tryz.prog 95 #[.string (bs l), .string ⟨#[45]⟩] W fun e w' => e = .returned (.string (bs l)) ∧ w' = W := by
  refine (Any.strings_TrimPrefix Tryz.laysTrimPrefix (bs l) (bs [45]) W).mono fun e w' ⟨he, hw⟩ => ⟨?_, hw⟩
  rw [he, bs_data, bs_data]
  unfold Lib.trimPrefix
  rw [if_neg (by rw [h]; simp)]
  rfl
theorem itoa_nat (x : Int) (h0 : 0 ≤ x) : Lib.hasPrefix (Lib.itoa x) [45] = false := by
  have e : Lib.itoa x = Lib.decDigits x.toNat := by unfold Lib.itoa; rw [if_neg (by omega)]
  rw [e]
  cases h : Lib.decDigits x.toNat with
  | nil => rfl
  | cons c r =>
    have := (dec_digit x.toNat c (by rw [h]; simp)).1
    have h2 : (45 : UInt8) ≠ c := fun q => by rw [← q] at this; revert this; decide
    show (45 == c && [].isPrefixOf r) = false
    rw [beq_eq_false_iff_ne.2 h2]
    rfl

theorem dec_len : ∀ (k u : Nat), u < 10 ^ (k + 1) → (Lib.decDigits u).length ≤ k + 1
  | 0, u, h => by
    rw [Lib.decDigits_one (by simpa using h)]
    simp
  | k + 1, u, h => by
    by_cases h1 : u < 10
    · rw [Lib.decDigits_one h1]; simp
    · rw [Lib.decDigits, dif_neg h1, List.length_append]
      have := dec_len k (u / 10) (by rw [Nat.pow_succ] at h; omega)
      simp
      omega
theorem itoa_18 (x : Int) (h0 : 0 ≤ x) (h1 : x ≤ 1000000) : (Lib.itoa x).length ≤ 18 := by
  have e : Lib.itoa x = Lib.decDigits x.toNat := by unfold Lib.itoa; rw [if_neg (by omega)]
  rw [e]
  exact Nat.le_trans (dec_len 6 x.toNat (by omega)) (by decide)

set_option maxRecDepth 100000 in
set_option maxHeartbeats 4000000 in
theorem err75 {W : World} (a b c : Int) (a0 : 0 ≤ a) (a1 : a ≤ 1000000) (b0 : 0 ≤ b) (b1 : b ≤ 1000000) (c0 : 0 ≤ c) (c1 : c ≤ 1000000) (hT : Tens W) (hM : MaxL W) :
    Calls Tryz.prog 75 #[.string (bs (statT 4 a b c))] W fun e w' => e = .returned (.int .i64 4) ∧ Below W.heap.size W w' := by
  have la := itoa_len9 a a0 a1
  have lb := itoa_len9 b b0 b1
  have lc := itoa_len9 c c0 c1
  have hnl : (numsT a b c).length ≤ 100 := by unfold numsT; simp only [List.length_append, List.length_cons, List.length_nil]; omega
  rw [stat_line, line_err]
  have k1 := trimS93 ([61, 61, 61, 61, 61, 69, 82, 82, 79, 82, 61, 61, 61, 61, 61, 32] ++ numsT a b c) (by simp only [List.length_append, List.length_cons, List.length_nil]; omega) W
  have k2 := cutP92 (numsT a b c) W
  have k3 := split94 (numsT a b c) 32 W hM (by omega)
  rw [nums_split] at k3
  have HTM : Hid (Tens W ∧ MaxL W) := ⟨hT, hM⟩
  obtain ⟨L, hL⟩ : ∃ L, [Lib.itoa a, Lib.itoa b, Lib.itoa c] = L := ⟨_, rfl⟩
  have HL : Hid (∀ p ∈ L, ∃ x : Int, p = Lib.itoa x ∧ 0 ≤ x ∧ x ≤ 1000000) := by
    unfold Hid
    rw [← hL]
    intro p hp
    simp only [List.mem_cons, List.not_mem_nil, or_false] at hp
    rcases hp with rfl | rfl | rfl
    · exact ⟨a, rfl, a0, a1⟩
    · exact ⟨b, rfl, b0, b1⟩
    · exact ⟨c, rfl, c0, c1⟩
  have hLL : L.length = 3 := by rw [← hL]; rfl
  rw [hL, hLL] at k3
  have HLL : Hid (L.length = 3) := hLL
  obtain ⟨T1, hT1⟩ : ∃ T, bs ([61, 61, 61, 61, 61, 69, 82, 82, 79, 82, 61, 61, 61, 61, 61, 32] ++ numsT a b c ++ [10]) = T := ⟨_, rfl⟩
  obtain ⟨T2, hT2⟩ : ∃ T, bs ([61, 61, 61, 61, 61, 69, 82, 82, 79, 82, 61, 61, 61, 61, 61, 32] ++ numsT a b c) = T := ⟨_, rfl⟩
  obtain ⟨T3, hT3⟩ : ∃ T, bs (numsT a b c) = T := ⟨_, rfl⟩
  rw [hT1, hT2] at k1
  rw [hT2, hT3] at k2
  rw [hT3] at k3
  rw [hT1]
  clear hL hLL hnl la lb lc hT1 hT2 hT3 a0 a1 b0 b1 c0 c1 hT hM
  go_enter Tryz.func75, Tryz.ntmps75
  go_wp2_with fail
  refine k1.mono ?_
  rintro e w1 ⟨rfl, rfl⟩
  go_wp2_with fail
  refine k2.mono ?_
  rintro e w1 ⟨rfl, rfl⟩
  go_wp2_with fail
  refine k3.mono ?_
  rintro e w2 ⟨sb, rfl, hsb, hcl, hb2⟩
  have HCL : Hid (sb < w2.heap.size ∧ ∀ (i : Nat) (x : List UInt8), L[i]? = some x → w2.cell? ⟨sb, i, none⟩ = some (.string (bs x))) := ⟨hsb, hcl⟩
  have HB2 : Hid (Below w1.heap.size w1 w2) := hb2
  clear k1 k2 k3 hsb hcl hb2
  go_wp2
  go_loopw [7, 25] (fun t7 i wr => ∃ (k : Nat), i = .int .i64 (k : Int) ∧ k ≤ 3 ∧ Hid (Below w2.heap.size w2 wr)) (fun _ i _ => 3 - (intOf i).toNat)
  case atStart => exact ⟨0, rfl, Nat.zero_le _, Below.refl _ _⟩
  case round =>
    obtain ⟨k, rfl, hk, HB⟩ := hrel
    by_cases hlt : k < 3
    · have hlt' : (k : Int) < 3 := by omega
      obtain ⟨y, hy⟩ : ∃ y, L[k]? = some y := ⟨_, List.getElem?_eq_getElem (by rw [HLL.out]; exact hlt)⟩
      obtain ⟨x, rfl, x0, x1⟩ := HL.out y (List.mem_of_getElem? hy)
      have hc := (HB.out.cell (p := ⟨sb, k, none⟩) HCL.out.1).trans (HCL.out.2 k _ hy)
      have kt := trimP95 (Lib.itoa x) (itoa_nat x x0) wr
      have kn := number96 x (by omega) (by omega) wr
      have KD : Hid (∀ X, Below wr.heap.size wr X → Calls Tryz.prog 52 #[.int .i64 x] X fun e w' => e = .returned (.string (bs (Lib.itoa x))) ∧ Below X.heap.size X w') := fun X hX => digits52 x (by omega) (by omega) X ((HTM.out.1.self (HB2.out.trans (HB.out.mono HB2.out.size))).self hX)
      have hl18 : (bs (Lib.itoa x)).size ≤ 18 := by rw [bs_size]; exact itoa_18 x x0 x1
      obtain ⟨T, hT⟩ : ∃ T, bs (Lib.itoa x) = T := ⟨_, rfl⟩
      rw [hT] at hc kt kn KD hl18
      have hl19 : ¬ (18 : Int) < (T.size : Int) := by omega
      have hwk : IntKind.i64.wrap ((k : Int) + 1) = (k : Int) + 1 := by rw [IntKind.wrap_i64]; omega
      have hfd := fld36 x
      clear hy hT x0 x1 hl18
      go_wp2_with fail
      refine kt.mono ?_
      rintro e w3 ⟨rfl, rfl⟩
      go_wp2_with fail
      refine kn.mono ?_
      rintro e w4 ⟨rfl, hb4⟩
      have HB4 : Hid (Below w3.heap.size w3 w4) := hb4
      have kd := KD.out w4 hb4
      clear kt kn hb4
      go_wp2_with fail
      refine kd.mono ?_
      rintro e w5 ⟨rfl, hb5⟩
      have HB5 : Hid (Below w2.heap.size w2 w5) := HB.out.trans ((HB4.out.trans (hb5.mono HB4.out.size)).mono HB.out.size)
      clear kd hb5 hc
      go_wp2
      go_roundw
      case rel => exact ⟨k + 1, by go_num, by omega, HB5.out⟩
      case measure => simp [intOf]; omega
    · have hlt' : ¬ (k : Int) < 3 := by omega
      have HBF : Hid (Below w1.heap.size w1 wr) := HB2.out.trans (HB.out.mono HB2.out.size)
      go_wp2
      go_ret
      exact ⟨rfl, HBF.out⟩
theorem hpre_in (r : List UInt8) (W : World) : Calls Tryz.prog 90 #[.string (bs (61 :: r)), .string ⟨#[45]⟩] W fun e w' => e = .returned (.bool false) ∧ w' = W := by
  have := hpre90 (61 :: r) [45] W
  rw [pre_dash] at this
  exact this

set_option maxRecDepth 100000 in
set_option maxHeartbeats 4000000 in
theorem beg73 {W : World} {os : Value} {l : List Ou} (r : List UInt8) (h : Sou W os l) (hn : l.length ≤ 1000) (hw : ∀ o ∈ l, wordB o.nm = true) :
    Calls Tryz.prog 73 #[.string (bs (61 :: r)), os] W fun e w' => e = .returned (.bool false) ∧ w' = W := by
  have k1 := hpre_in r W
  obtain ⟨a, c, rfl, h'⟩ := h
  have HA : Hid (Sou W (.slice a l.length c) l) := ⟨_, _, rfl, h'⟩
  obtain ⟨n, hn'⟩ : ∃ n, l.length = n := ⟨_, rfl⟩
  have HN : Hid (l.length = n) := hn'
  rw [hn'] at HA hn ⊢
  have HW : Hid (∀ o ∈ l, wordB o.nm = true) := hw
  clear h' hn' hw
  by_cases h0 : 0 < n
  · have h0' : (0 : Int) < (n : Int) := by omega
    obtain ⟨o, ho⟩ : ∃ g, l[0]? = some g := ⟨_, List.getElem?_eq_getElem (by rw [HN.out]; exact h0)⟩
    have k2 := hpre90 (61 :: r) o.nm W
    rw [pre_nm (HW.out o (List.mem_of_getElem? ho)) r] at k2
    obtain ⟨b, off, dv, lv, rfl, hb, _, _, d0, _⟩ := HA.out.at ho
    rw [Nat.zero_mul, Nat.add_zero] at d0
    obtain ⟨S, hS⟩ : ∃ S, bs (61 :: r) = S := ⟨_, rfl⟩
    obtain ⟨T, hT⟩ : ∃ S, bs o.nm = S := ⟨_, rfl⟩
    rw [hS, hT] at k2
    rw [hS] at k1 ⊢
    rw [hT] at d0
    clear hS hT ho
    go_enter Tryz.func73, Tryz.ntmps73
    go_wp2_with fail
    refine k1.mono ?_
    rintro e w1 ⟨rfl, rfl⟩
    go_wp2_with fail
    refine k2.mono ?_
    rintro e w1 ⟨rfl, rfl⟩
    go_wp2
    go_ret
    exact ⟨rfl, rfl⟩
  · have h0' : ¬ (0 : Int) < (n : Int) := by omega
    obtain ⟨S, hS⟩ : ∃ S, bs (61 :: r) = S := ⟨_, rfl⟩
    rw [hS] at k1 ⊢
    clear hS
    go_enter Tryz.func73, Tryz.ntmps73
    go_wp2_with fail
    refine k1.mono ?_
    rintro e w1 ⟨rfl, rfl⟩
    go_wp2
    go_ret
    exact ⟨rfl, rfl⟩
/-- How a line tells that a run ended. -/
def howN (how : Int) : Int := if how = 1 ∨ how = 2 ∨ how = 4 then how else 3

set_option maxRecDepth 100000 in
set_option maxHeartbeats 4000000 in
theorem ending48 {W : World} {p : Nat} (s r : List UInt8) (how a b c : Int) (a0 : 0 ≤ a) (a1 : a ≤ 1000000) (b0 : 0 ≤ b) (b1 : b ≤ 1000000) (c0 : 0 ≤ c) (c1 : c ≤ 1000000) (hat : s.drop p = statT how a b c ++ r) (hp : p ≤ s.length) (hs : s.length ≤ 1000000000) (hT : Tens W) (hM : MaxL W) :
    Calls Tryz.prog 48 #[.string (bs s), .int .i64 (p : Int)] W fun e w' => e = .returned (.tuple #[.int .i64 (howN how), .int .i64 ((p + (statT how a b c).length : Nat) : Int)]) ∧ Below W.heap.size W w' := by
  have hfr := bs_from s p hp
  have kc := cut74 (s.drop p) [10] W hM (by rw [List.length_drop]; omega)
  rw [hat, cut_line, ← hat] at kc
  have hle := drop_le hp hat
  have hll : (lineT how a b c).length + 1 = (statT how a b c).length := by rw [stat_line, List.length_append]; rfl
  have HAPP : Hid (bs (lineT how a b c) ++ ⟨#[10]⟩ = bs (statT how a b c)) := by unfold Hid; rw [stat_line, ← bs_app]; rfl
  have hz1 : (bs (lineT how a b c)).size + 1 ≤ 9223372036854775807 := by rw [bs_size]; omega
  have ke := fun (h4 : how = 4) X (hX : Below W.heap.size W X) => err75 (W := X) a b c a0 a1 b0 b1 c0 c1 (hT.self hX) (hM.self hX)
  have HZ : Hid ((bs (statT how a b c)).size = (statT how a b c).length) := rfl
  have HLE : Hid (p + (statT how a b c).length ≤ s.length) := hle
  obtain ⟨m, hm⟩ : ∃ m, (statT how a b c).length = m := ⟨_, rfl⟩
  have HMM : Hid ((statT how a b c).length = m) := hm
  rw [hm] at HZ HLE ⊢
  obtain ⟨R, hR⟩ : ∃ R, bs r = R := ⟨_, rfl⟩
  obtain ⟨S, hS⟩ : ∃ R, s.drop p = R := ⟨_, rfl⟩
  rw [hS] at hfr kc
  dsimp only at kc
  rw [hR] at kc
  clear a0 a1 b0 b1 c0 c1 hat hR hS hle hll hm
  go_enter Tryz.func48, Tryz.ntmps48
  go_wp2_with fail
  refine kc.mono ?_
  rintro e w1 ⟨rfl, hb1⟩
  have HB1 : Hid (Below W.heap.size W w1) := hb1
  have HKE : Hid _ := ke
  clear kc hb1 ke
  go_upto_region 5 with (fail)
  rw [HAPP.out]
  have hm := HMM.out
  have hwk : IntKind.i64.wrap ((p : Int) + (m : Int)) = ((p + m : Nat) : Int) := by have := HLE.out; rw [IntKind.wrap_i64]; omega
  clear hz1 hfr HAPP
  by_cases h1 : how = 1
  · subst h1
    have hm2 : m = 11 := by rw [← hm]; rfl
    have hT : bs (statT 1 a b c) = ⟨#[61, 61, 61, 61, 61, 61, 61, 61, 61, 61, 10]⟩ := rfl
    rw [hT] at HZ ⊢
    subst hm2
    clear HZ hm hT HKE
    go_wp2
    go_ret2
    exact ⟨rfl, HB1.out⟩
  by_cases h2 : how = 2
  · subst h2
    have hm2 : m = 24 := by rw [← hm]; rfl
    have hT : bs (statT 2 a b c) = ⟨#[61, 61, 61, 61, 61, 85, 78, 83, 65, 84, 73, 83, 70, 73, 65, 66, 76, 69, 61, 61, 61, 61, 61, 10]⟩ := rfl
    rw [hT] at HZ ⊢
    subst hm2
    clear HZ hm hT HKE
    go_wp2
    go_ret2
    exact ⟨rfl, HB1.out⟩
  by_cases h4 : how = 4
  · subst h4
    have hg5 : (statT 4 a b c)[5]? = some 69 := by unfold statT; rw [if_neg (by decide), if_neg (by decide), if_pos rfl]; simp
    have hne : ∀ L : List UInt8, L[5]? ≠ some 69 → ((bs (statT 4 a b c)).toList == L) = false := fun L h => by
      rw [bs_toList]
      rw [beq_eq_false_iff_ne]
      intro e
      rw [e] at hg5
      exact h hg5
    have q1 : ((bs (statT 4 a b c)).toList == [61, 61, 61, 61, 61, 61, 61, 61, 61, 61, 10]) = false := hne [61, 61, 61, 61, 61, 61, 61, 61, 61, 61, 10] (by decide)
    have q2 : ((bs (statT 4 a b c)).toList == [61, 61, 61, 61, 61, 85, 78, 83, 65, 84, 73, 83, 70, 73, 65, 66, 76, 69, 61, 61, 61, 61, 61, 10]) = false := hne [61, 61, 61, 61, 61, 85, 78, 83, 65, 84, 73, 83, 70, 73, 65, 66, 76, 69, 61, 61, 61, 61, 61, 10] (by decide)
    have q3 : ((bs (statT 4 a b c)).toList == [61, 61, 61, 61, 61, 85, 78, 75, 78, 79, 87, 78, 61, 61, 61, 61, 61, 10]) = false := hne [61, 61, 61, 61, 61, 85, 78, 75, 78, 79, 87, 78, 61, 61, 61, 61, 61, 10] (by decide)
    have ke := HKE.out rfl w1 HB1.out
    obtain ⟨T, hT⟩ : ∃ T, bs (statT 4 a b c) = T := ⟨_, rfl⟩
    rw [hT] at q1 q2 q3 HZ ke ⊢
    have hzz : (T.size : Int) = m := by have := HZ.out; omega
    clear hg5 hne HKE h1 h2 hT hm
    go_wp2_with fail
    refine ke.mono ?_
    rintro e w2 ⟨rfl, hb2⟩
    have HB2 : Hid (Below W.heap.size W w2) := HB1.out.trans (hb2.mono HB1.out.size)
    clear ke hb2 q1 q2 q3
    go_wp2
    go_ret2
    exact ⟨rfl, HB2.out⟩
  · have hT : bs (statT how a b c) = ⟨#[61, 61, 61, 61, 61, 85, 78, 75, 78, 79, 87, 78, 61, 61, 61, 61, 61, 10]⟩ := by unfold statT; rw [if_neg h1, if_neg h2, if_neg h4]; rfl
    have hm2 : m = 18 := by rw [← hm]; unfold statT; rw [if_neg h1, if_neg h2, if_neg h4]; rfl
    have HH : Hid (howN how = 3) := by unfold Hid howN; rw [if_neg (by rintro (h | h | h) <;> contradiction)]
    rw [hT] at HZ ⊢
    subst hm2
    clear HZ hm hT HKE h1 h2 h4
    go_wp2
    go_ret2
    exact ⟨by rw [HH.out]; rfl, HB1.out⟩
end Go.Proofs.YtdnhhmnllhlbbaaGreatDoor
