/-
  What is laid here: that the library functions slices.SortFunc, cmp.Compare, strings.Split, strings.Cut, strconv.ParseInt and strconv.AppendInt of this program have the bodies of which the shelf proves its contracts (field by field; written by the lay tool).
  What is proved here: plain mathematics of ranges of numbers, of the values in them, and of bits in words.
-/
import Derived.Shelf.SlSortCmp.WholeK
import Derived.Shelf.SlSortCmp.NoneTotal
import Derived.Shelf.SlicesG.Cmp
import Derived.Ground.SlsfProg
import Derived.Ground.SlgcProg
import Derived.Test.YtaeobgajhieajaaGreatDoorProg
import Derived.WalkKit
namespace Go.Proofs
open Go.Shelf
def Tryz.laysSortF_ren : Go.Shelf.Ren := ⟨fun | 6 => 150 | 15 => 66 | 14 => 161 | 28 => 96 | 29 => 97 | 20 => 168 | 21 => 169 | 22 => 170 | 23 => 171 | 24 => 172 | 25 => 173 | 26 => 174 | 27 => 175 | 46 => 180 | 47 => 114 | 48 => 115 | 49 => 181 | 50 => 182 | 57 => 185 | n => n, fun | 22 => 148 | 24 => 161 | 25 => 179 | 3 => 3 | 39 => 102 | 0 => 0 | 53 => 127 | 55 => 129 | 4 => 4 | 46 => 119 | 45 => 118 | 50 => 124 | 5 => 5 | 9 => 9 | 66 => 137 | 70 => 141 | 76 => 157 | 77 => 158 | n => n, fun | n => n⟩
theorem Tryz.laysSortF : Go.Proofs.SlLaysF0.n6 Tryz.prog Tryz.laysSortF_ren := {
  mixed := by kernel_rfl
  f6 := ⟨Tryz.f150.name, by decide, Tryz.func150.trans (congrArg some (by kernel_rfl))⟩
  f14 := ⟨Tryz.f161.name, by decide, Tryz.func161.trans (congrArg some (by kernel_rfl))⟩
  f15 := Tryz.func66.trans (congrArg some (by kernel_rfl))
  f20 := ⟨Tryz.f168.name, by decide, Tryz.func168.trans (congrArg some (by kernel_rfl))⟩
  f21 := ⟨Tryz.f169.name, by decide, Tryz.func169.trans (congrArg some (by kernel_rfl))⟩
  f22 := ⟨Tryz.f170.name, by decide, Tryz.func170.trans (congrArg some (by kernel_rfl))⟩
  f23 := ⟨Tryz.f171.name, by decide, Tryz.func171.trans (congrArg some (by kernel_rfl))⟩
  f24 := ⟨Tryz.f172.name, by decide, Tryz.func172.trans (congrArg some (by kernel_rfl))⟩
  f25 := ⟨Tryz.f173.name, by decide, Tryz.func173.trans (congrArg some (by kernel_rfl))⟩
  f26 := ⟨Tryz.f174.name, by decide, Tryz.func174.trans (congrArg some (by kernel_rfl))⟩
  f27 := ⟨Tryz.f175.name, by decide, Tryz.func175.trans (congrArg some (by kernel_rfl))⟩
  f28 := Tryz.func96.trans (congrArg some (by kernel_rfl))
  f29 := Tryz.func97.trans (congrArg some (by kernel_rfl))
  f46 := ⟨Tryz.f180.name, by decide, Tryz.func180.trans (congrArg some (by kernel_rfl))⟩
  f47 := Tryz.func114.trans (congrArg some (by kernel_rfl))
  f48 := Tryz.func115.trans (congrArg some (by kernel_rfl))
  f49 := ⟨Tryz.f181.name, by decide, Tryz.func181.trans (congrArg some (by kernel_rfl))⟩
  f50 := ⟨Tryz.f182.name, by decide, Tryz.func182.trans (congrArg some (by kernel_rfl))⟩
  f57 := ⟨Tryz.f185.name, by decide, Tryz.func185.trans (congrArg some (by kernel_rfl))⟩
  t0 := Tryz.underlying0
  a0 := Tryz.isAgg0
  z0 := Tryz.sizeOf0
  v0 := Tryz.zeroValue0
  t3 := Tryz.underlying3
  a3 := Tryz.isAgg3
  z3 := Tryz.sizeOf3
  v3 := Tryz.zeroValue3
  t4 := Tryz.underlying4
  a4 := Tryz.isAgg4
  z4 := Tryz.sizeOf4
  v4 := Tryz.zeroValue4
  t5 := Tryz.underlying5
  a5 := Tryz.isAgg5
  z5 := Tryz.sizeOf5
  v5 := Tryz.zeroValue5
  t9 := Tryz.underlying9
  a9 := Tryz.isAgg9
  z9 := Tryz.sizeOf9
  v9 := Tryz.zeroValue9
  t22 := Tryz.underlying148
  a22 := Tryz.isAgg148
  z22 := Tryz.sizeOf148
  v22 := Tryz.zeroValue148
  t25 := Tryz.underlying179
  a25 := Tryz.isAgg179
  z25 := Tryz.sizeOf179
  v25 := Tryz.zeroValue179
  t39 := Tryz.underlying102
  a39 := Tryz.isAgg102
  z39 := Tryz.sizeOf102
  v39 := Tryz.zeroValue102
  t45 := Tryz.underlying118
  a45 := Tryz.isAgg118
  z45 := Tryz.sizeOf118
  v45 := Tryz.zeroValue118
  t46 := Tryz.underlying119
  a46 := Tryz.isAgg119
  z46 := Tryz.sizeOf119
  v46 := Tryz.zeroValue119
  t50 := Tryz.underlying124
  a50 := Tryz.isAgg124
  z50 := Tryz.sizeOf124
  v50 := Tryz.zeroValue124
  t53 := Tryz.underlying127
  a53 := Tryz.isAgg127
  z53 := Tryz.sizeOf127
  v53 := Tryz.zeroValue127
  t55 := Tryz.underlying129
  a55 := Tryz.isAgg129
  z55 := Tryz.sizeOf129
  v55 := Tryz.zeroValue129
  t66 := Tryz.underlying137
  a66 := Tryz.isAgg137
  z66 := Tryz.sizeOf137
  v66 := Tryz.zeroValue137
  t70 := Tryz.underlying141
  a70 := Tryz.isAgg141
  z70 := Tryz.sizeOf141
  v70 := Tryz.zeroValue141
  t76 := Tryz.underlying157
  a76 := Tryz.isAgg157
  z76 := Tryz.sizeOf157
  v76 := Tryz.zeroValue157
  t77 := Tryz.underlying158
  a77 := Tryz.isAgg158
  z77 := Tryz.sizeOf158
  v77 := Tryz.zeroValue158 }
def Tryz.laysCmp_ren : Go.Shelf.Ren := ⟨fun | 5 => 152 | 7 => 155 | n => n, fun | 22 => 2 | 3 => 3 | 4 => 4 | n => n, fun | n => n⟩
theorem Tryz.laysCmp : Go.Proofs.SlLaysC2.n5 Tryz.prog Tryz.laysCmp_ren := {
  mixed := by kernel_rfl
  f5 := ⟨Tryz.f152.name, by decide, Tryz.func152.trans (congrArg some (by kernel_rfl))⟩
  f7 := ⟨Tryz.f155.name, by decide, Tryz.func155.trans (congrArg some (by kernel_rfl))⟩
  t3 := Tryz.underlying3
  a3 := Tryz.isAgg3
  z3 := Tryz.sizeOf3
  v3 := Tryz.zeroValue3
  t4 := Tryz.underlying4
  a4 := Tryz.isAgg4
  z4 := Tryz.sizeOf4
  v4 := Tryz.zeroValue4
  t22 := Tryz.underlying2
  a22 := Tryz.isAgg2
  z22 := Tryz.sizeOf2
  v22 := Tryz.zeroValue2 }
end Go.Proofs

namespace Go.Proofs.YtaeobgajhieajaaGreatDoor.Dm

abbrev Rg := Int × Int
def lo (l : List Rg) (i : Nat) : Int := (l[i]?.getD (0, 0)).1
def hi (l : List Rg) (i : Nat) : Int := (l[i]?.getD (0, 0)).2
def OkAt (l : List Rg) (i : Nat) : Prop := lo l i ≤ hi l i ∧ -1000000 ≤ lo l i ∧ hi l i ≤ 1000000 ∧ (0 < i → hi l (i - 1) + 1 < lo l i)
instance (l : List Rg) (i : Nat) : Decidable (OkAt l i) := by unfold OkAt; infer_instance
/-- Ranges are right. -/
def Right (l : List Rg) : Prop := l.length ≤ 4096 ∧ ∀ i, i < l.length → OkAt l i

instance (l : List Rg) : Decidable (Right l) := by unfold Right; infer_instance
/-- Are ranges right? -/
def rightB (l : List Rg) : Bool := decide (Right l)
theorem rightB_yes {l : List Rg} (h : Right l) : rightB l = true := by unfold rightB; simpa using h
theorem rightB_no {l : List Rg} (h : ¬ Right l) : rightB l = false := by unfold rightB; simpa using h

/-- All numbers from a to b. -/
def span (a b : Int) : List Int := (List.range (b + 1 - a).toNat).map fun k : Nat => a + (k : Int)
def vals (l : List Rg) : List Int := l.flatMap fun r => span r.1 r.2
def upto (a : Int) (k : Nat) : List Int := (List.range k).map fun j : Nat => a + (j : Int)
theorem upto_succ (a : Int) (k : Nat) : upto a (k + 1) = upto a k ++ [a + (k : Int)] := by simp [upto, List.range_succ]
theorem upto_all (a b : Int) (k : Nat) (h : (k : Int) = b + 1 - a) : upto a k = span a b := by unfold upto span; rw [← h]; rfl
theorem vals_take (l : List Rg) (i : Nat) (h : i < l.length) : vals (l.take (i + 1)) = vals (l.take i) ++ span (lo l i) (hi l i) := by
  unfold vals
  rw [List.take_succ_eq_append_getElem h, List.flatMap_append]
  simp [lo, hi, h]
theorem vals_take_le (l : List Rg) (i : Nat) : (vals (l.take i)).length ≤ (vals l).length := by
  have h : vals l = vals (l.take i) ++ vals (l.drop i) := by unfold vals; rw [← List.flatMap_append, List.take_append_drop]
  rw [h, List.length_append]; omega
theorem vals_prefix (l : List Rg) (i : Nat) : ∃ r, vals (l.take i) ++ r = vals l := ⟨vals (l.drop i), by unfold vals; rw [← List.flatMap_append, List.take_append_drop]⟩
theorem span_length (a b : Int) : (span a b).length = (b + 1 - a).toNat := by simp [span]
theorem span_upto (a b : Int) (j : Nat) (h : a + (j : Int) ≤ b + 1) : ∃ r, upto a j ++ r = span a b := by
  refine ⟨(span a b).drop j, ?_⟩
  have : upto a j = (span a b).take j := by
    unfold upto span
    rw [← List.map_take, List.take_range]
    congr 2; omega
  rw [this, List.take_append_drop]
theorem mem_span (a b v : Int) : v ∈ span a b ↔ a ≤ v ∧ v ≤ b := by
  unfold span
  rw [List.mem_map]
  constructor
  · rintro ⟨k, hk, rfl⟩; rw [List.mem_range] at hk; omega
  · rintro ⟨h1, h2⟩; exact ⟨(v - a).toNat, by rw [List.mem_range]; omega, by omega⟩
theorem mem_vals (l : List Rg) (v : Int) : v ∈ vals l ↔ ∃ i, i < l.length ∧ lo l i ≤ v ∧ v ≤ hi l i := by
  unfold vals
  rw [List.mem_flatMap]
  constructor
  · rintro ⟨r, hr, hv⟩
    obtain ⟨i, hi', rfl⟩ := List.getElem_of_mem hr
    rw [mem_span] at hv
    exact ⟨i, hi', by simp [lo, hi']; exact hv.1, by simp [hi, hi']; exact hv.2⟩
  · rintro ⟨i, hi', h1, h2⟩
    refine ⟨l[i], List.getElem_mem hi', ?_⟩
    rw [mem_span]
    simp [lo, hi, hi'] at h1 h2
    exact ⟨h1, h2⟩

theorem right_up (l : List Rg) (h : Right l) : ∀ j i, i ≤ j → j < l.length → lo l i ≤ lo l j ∧ hi l i ≤ hi l j := by
  intro j
  induction j with
  | zero => intro i hi' _; obtain rfl : i = 0 := by omega
            exact ⟨Int.le_refl _, Int.le_refl _⟩
  | succ j ih =>
    intro i hi' hj
    by_cases e : i = j + 1
    · subst e; exact ⟨Int.le_refl _, Int.le_refl _⟩
    · have h1 := ih i (by omega) (by omega)
      have h2 := h.2 (j + 1) hj
      have h3 := h.2 j (by omega)
      unfold OkAt at h2 h3
      have h4 := h2.2.2.2 (by omega)
      rw [Nat.add_sub_cancel] at h4
      omega
theorem right_ends (l : List Rg) (h : Right l) (h0 : 0 < l.length) : -1000000 ≤ lo l 0 ∧ hi l (l.length - 1) ≤ 1000000 ∧ lo l 0 ≤ hi l (l.length - 1) ∧ ∀ v ∈ vals l, lo l 0 ≤ v ∧ v ≤ hi l (l.length - 1) := by
  have a := h.2 0 h0
  have b := h.2 (l.length - 1) (by omega)
  have u := right_up l h (l.length - 1) 0 (by omega) (by omega)
  unfold OkAt at a b
  refine ⟨a.2.1, b.2.2.1, by omega, fun v hv => ?_⟩
  obtain ⟨i, hi', h1, h2⟩ := (mem_vals l v).1 hv
  have u1 := right_up l h i 0 (by omega) hi'
  have u2 := right_up l h (l.length - 1) i (by omega) (by omega)
  omega
theorem vals_short_aux (l : List Rg) (h : Right l) : ∀ i, i ≤ l.length → i = 0 ∨ ((vals (l.take i)).length : Int) ≤ hi l (i - 1) + 1000001 := by
  intro i
  induction i with
  | zero => intro _; exact .inl rfl
  | succ i ih =>
    intro hi'
    right
    have ok := h.2 i (by omega)
    unfold OkAt at ok
    rw [vals_take l i (by omega), List.length_append, span_length, Nat.add_sub_cancel]
    rcases ih (by omega) with rfl | h1
    · simp [vals]; omega
    · by_cases h0 : i = 0
      · subst h0; simp [vals]; omega
      · have := ok.2.2.2 (by omega); omega
theorem vals_short (l : List Rg) (h : Right l) : (vals l).length < 10000000 := by
  have h1 := vals_short_aux l h l.length (Nat.le_refl _)
  rw [List.take_length] at h1
  rcases h1 with h1 | h1
  · have : l = [] := List.eq_nil_of_length_eq_zero h1
    subst this; simp [vals]
  · by_cases h0 : l.length = 0
    · have : l = [] := List.eq_nil_of_length_eq_zero h0
      subst this; simp [vals]
    · have := h.2 (l.length - 1) (by omega); unfold OkAt at this; omega

/-- The bits of the values from f on: word number k. -/
def wd (vs : List Int) (f : Int) (k : Nat) : Nat := vs.foldl (fun acc v => if (v - f).toNat / 64 = k then acc ||| 2 ^ ((v - f).toNat % 64) else acc) 0
theorem wd_nil (f : Int) (k : Nat) : wd [] f k = 0 := rfl
theorem wd_snoc (vs : List Int) (v f : Int) (k : Nat) : wd (vs ++ [v]) f k = if (v - f).toNat / 64 = k then wd vs f k ||| 2 ^ ((v - f).toNat % 64) else wd vs f k := by
  unfold wd; rw [List.foldl_append]; rfl
theorem snoc_induct {α : Type} {C : List α → Prop} (h0 : C []) (h1 : ∀ l a, C l → C (l ++ [a])) : ∀ l, C l := by
  intro l
  rw [← List.reverse_reverse l]
  induction l.reverse with
  | nil => exact h0
  | cons a r ih => rw [List.reverse_cons]; exact h1 _ _ ih
theorem wd_lt (vs : List Int) (f : Int) (k : Nat) : wd vs f k < 2 ^ 64 := by
  induction vs using snoc_induct with
  | h0 => rw [wd_nil]; decide
  | h1 l a ih =>
    rw [wd_snoc]
    split
    · exact Nat.or_lt_two_pow ih (Nat.pow_lt_pow_right (by decide) (by omega))
    · exact ih
theorem wd_bit (vs : List Int) (f : Int) (k j : Nat) (hj : j < 64) : (wd vs f k).testBit j = true ↔ ∃ v ∈ vs, (v - f).toNat = 64 * k + j := by
  induction vs using snoc_induct with
  | h0 => simp [wd_nil]
  | h1 l a ih =>
    rw [wd_snoc]
    by_cases h : (a - f).toNat / 64 = k
    · rw [if_pos h, Nat.testBit_or, Bool.or_eq_true, ih, Nat.testBit_two_pow]
      constructor
      · rintro (⟨v, hv, e⟩ | e)
        · exact ⟨v, by simp [hv], e⟩
        · have e' : (a - f).toNat % 64 = j := by simpa using e
          exact ⟨a, by simp, by omega⟩
      · rintro ⟨v, hv, e⟩
        rcases List.mem_append.1 hv with hv | hv
        · exact .inl ⟨v, hv, e⟩
        · obtain rfl : v = a := by simpa using hv
          exact .inr (by simp; omega)
    · rw [if_neg h, ih]
      constructor
      · rintro ⟨v, hv, e⟩; exact ⟨v, by simp [hv], e⟩
      · rintro ⟨v, hv, e⟩
        rcases List.mem_append.1 hv with hv | hv
        · exact ⟨v, hv, e⟩
        · obtain rfl : v = a := by simpa using hv
          exact absurd (by omega) h
end Go.Proofs.YtaeobgajhieajaaGreatDoor.Dm

