/-
  What is proved here: what dom.Of and dom.Span return.
  What is proved here: the reference's Has of any ranges.
  What is proved here: Size of any ranges, the reference's and the program's.
  What is proved here: the program's Size of right ranges.
  DERIVED: THE SHELF's CONTRACTS AT THIS DUMP, IN PLAIN WORDS (tools/lay-plain.mjs out of 'YtaeobgajhieajaaGreatDoorSg.lean', which tools/lay-shelf.mjs wrote): THE SAME DECLARATIONS UNDER THE SAME NAMES: 'import', 'namespace', 'open', 'def', 'theorem' AND NOTHING ELSE: no command of the shelf's: FOR A HAND-IN. Each laying: the table of numbers ('.._ren') and one theorem, a field a fact of the dump's own or the kernel's comparison; each contract: ONE APPLICATION.
  DERIVED: THE SHELF's CONTRACTS AT THIS DUMP, IN PLAIN WORDS (tools/lay-plain.mjs out of 'YtaeobgajhieajaaGreatDoorSh.lean', which tools/lay-shelf.mjs wrote): THE SAME DECLARATIONS UNDER THE SAME NAMES: 'import', 'namespace', 'open', 'def', 'theorem' AND NOTHING ELSE: no command of the shelf's: FOR A HAND-IN. Each laying: the table of numbers ('.._ren') and one theorem, a field a fact of the dump's own or the kernel's comparison; each contract: ONE APPLICATION.
-/
import Derived.Test.YtaeobgajhieajaaGreatDoorZNb
import Derived.Test.YtaeobgajhieajaaGreatDoorZEcj
import Derived.Test.YtaeobgajhieajaaGreatDoorZVa
import Derived.Shelf.SlGeneric
import Derived.Ground.SlgnProg
import Derived.Shelf.SlicesE.Clone
import Derived.Test.YtaeobgajhieajaaGreatDoorProg
import Derived.Shelf.Strings.Cut
import Derived.Ground.NamesProg
namespace Go.Proofs.YtaeobgajhieajaaGreatDoor.Dm
open Go.RowKit Go.Shelf Go.Sort
set_option linter.unusedVariables false

/-- The slice value s has the numbers vs, wherever they lie. -/
def Si (W : World) (s : Value) (vs : List Int) : Prop :=
  ∃ a cap, s = .slice a vs.length cap ∧ (0 < vs.length → ∃ b off, a = some ⟨b, off, none⟩ ∧ b < W.heap.size ∧ ∀ i, i < vs.length → W.cell? ⟨b, off + i, none⟩ = some (.int .i64 (vs[i]?.getD 0)))
theorem Si.below {W W' : World} {s : Value} {vs : List Int} (h : Si W s vs) (hb : Below W.heap.size W W') : Si W' s vs := by
  obtain ⟨a, cap, e, hc⟩ := h
  refine ⟨a, cap, e, fun h0 => ?_⟩
  obtain ⟨b, off, e1, hlt, hcell⟩ := hc h0
  exact ⟨b, off, e1, Nat.lt_of_lt_of_le hlt hb.size, fun i hi => (hb.cell (p := ⟨b, off + i, none⟩) hlt).trans (hcell i hi)⟩
def singles (vs : List Int) : List Rg := vs.map fun v => (v, v)
theorem singles_take (vs : List Int) (k : Nat) (hk : k < vs.length) : singles (vs.take (k + 1)) = singles (vs.take k) ++ [(vs[k]?.getD 0, vs[k]?.getD 0)] := by
  unfold singles
  rw [List.take_add_one, List.getElem?_eq_getElem hk, List.map_append]
  simp
theorem singles_length (vs : List Int) : (singles vs).length = vs.length := by simp [singles]

set_option maxRecDepth 100000 in
set_option maxHeartbeats 2000000 in
theorem domof_any (s : Value) (vs : List Int) (W : World) (h : Si W s vs) (hl : vs.length * 16 ≤ 140737488351232) :
    Calls Tryz.prog 122 #[s] W fun e w' => NormEnd (singles vs) W e w' := by
  obtain ⟨i0, hi0, hz0, hz1, hz2⟩ := info_parts Tryz.info161
  obtain ⟨a, cap, rfl, hcell⟩ := h
  obtain ⟨n, hn⟩ : ∃ n, vs.length = n := ⟨_, rfl⟩
  have HN : Hid (vs.length = n) := hn
  have HC : Hid _ := hcell
  rw [hn] at hl ⊢
  clear hn hcell
  go_enter Tryz.func122, Tryz.ntmps122
  go_wp2_with (at_make; refine wpList_make_own _ rfl _ _ 148 rfl W.heap.size 161 i0 (.agg #[.int .i64 0, .int .i64 0]) 2 Tryz.underlying148 hi0 hz0 hz1 .i64 .i64 _ n rfl rfl rfl (by rw [hz2]; omega) (by unfold maxLen; omega) (Nat.le_refl _) ?_; intro w0 hown0 hgrow0; have hB0 : Below W.heap.size W w0 := (Below.refl _ W).grown hgrow0 (Nat.le_refl _) (fun j e => by cases e); clear hgrow0)
  go_loopw [4, 12] (fun o i wr => ∃ (k : Nat), k ≤ n ∧ i = .int .i64 k ∧ wr.ownsRow W.heap.size 161 2 o k (flat (singles (vs.take k))) ∧ Below W.heap.size W wr) (fun _ i _ => n - (intOf i).toNat)
  case atStart => exact ⟨0, by omega, rfl, by simpa [singles, flat] using hown0, hB0⟩
  case round =>
    clear hown0 hB0
    obtain ⟨k, hk, rfl, hrow, hB⟩ := hrel
    have hsz := hB.size
    by_cases hlt : k < n
    · have hkl : k < vs.length := by rw [HN.out]; exact hlt
      obtain ⟨b, off, rfl, hb, hcells⟩ := HC.out (by omega)
      have d1 := (hB.cell (p := ⟨b, off + k, none⟩) hb).trans (hcells k hkl)
      have hst := singles_take vs k hkl
      obtain ⟨x, hx⟩ : ∃ x, vs[k]?.getD 0 = x := ⟨_, rfl⟩
      rw [hx] at d1 hst
      have HST : Hid (singles (vs.take (k + 1)) = singles (vs.take k) ++ [(x, x)]) := hst
      have hlt' : (k : Int) < (n : Int) := by omega
      clear hcells hx hst hkl
      go_wp2_with (at_builtin; refine wpList_append_own _ rfl _ _ 148 rfl W.heap.size 161 i0 (.agg #[.int .i64 0, .int .i64 0]) 2 16 Tryz.underlying148 hi0 hz0 hz1 hz2 rfl (by decide) _ _ _ rfl (World.ownsRow.alloc hrow _) ⟨wr.heap.size, 0, none⟩ 1 1 [.int .i64 x, .int .i64 x] rfl rfl (cell_two_new _ _ _ _) (by simp [Value.oneCell']) (by unfold maxLen; omega) (by omega) (by simp; omega) ?_; intro v' w1 hown' hgrow hnl; have hB1 : Below W.heap.size W w1 := (hB.alloc hsz _).grown hgrow (by simp; omega) (fun j e => (World.ownsRow.lt hrow j e).1); clear hgrow)
      go_roundw
      case rel =>
        refine ⟨k + 1, by omega, by go_num, ?_, hB1⟩
        rw [HST.out, flat_two]
        exact hown'
      case measure => simp [intOf]; omega
    · have hkn : k = n := by omega
      subst hkn
      have htk : vs.take k = vs := List.take_of_length_le (by rw [HN.out]; exact Nat.le_refl _)
      rw [htk] at hrow
      have hlen := singles_length vs
      rw [HN.out] at hlen
      rw [← hlen] at hrow
      have hS := own_srl hrow
      have hcon := norm_any _ _ wr hS (by rw [hlen]; omega)
      have hS2 := hS
      obtain ⟨a4, c4, rfl, _⟩ := hS2
      rw [hlen] at hcon ⊢
      clear hrow htk hS hlen
      go_wp2_with fail
      refine hcon.mono ?_
      rintro e w1 ⟨s', c, rfl, hb1, hcase⟩
      have HCASE : Hid _ := hcase
      clear hcase hcon
      go_wp2
      go_ret2
      refine ⟨s', c, rfl, hB.trans (hb1.mono hsz), ?_⟩
      rcases HCASE.out with h | ⟨h1, h2, h3, h4, h5⟩ | h
      · exact .inl h
      · exact .inr (.inl ⟨h1, h2, h3, own_base h4 hsz, h5⟩)
      · exact .inr (.inr h)

/-- Are both ends in bounds, in whatever order? -/
def inbB (a b : Int) : Bool := decide (-1000000 ≤ min a b) && decide (max a b ≤ 1000000)
set_option maxHeartbeats 400000 in
theorem inb_any (a b : Int) (w : World) :
    Calls Tryz.prog 149 #[.agg #[.int .i64 a, .int .i64 b]] w fun e w' => e = .returned (.bool (inbB a b)) ∧ Below w.heap.size w w' := by
  unfold inbB
  obtain ⟨m, hm⟩ : ∃ m, min a b = m := ⟨_, rfl⟩
  obtain ⟨M, hM⟩ : ∃ M, max a b = M := ⟨_, rfl⟩
  by_cases h1 : -1000000 ≤ m
  · go_enter Tryz.func149, Tryz.ntmps149
    go_wp2
    go_ret
    exact ⟨by simp [hm, hM, h1], (Below.refl _ _).alloc (Nat.le_refl _) _⟩
  · have hd : decide (-1000000 ≤ m) = false := by simp; omega
    have HD : Hid (decide (-1000000 ≤ m) = false) := hd
    go_enter Tryz.func149, Tryz.ntmps149
    go_wp2
    go_ret
    exact ⟨rfl, (Below.refl _ _).alloc (Nat.le_refl _) _⟩

/-- All numbers from x to y, as ranges. -/
def spanL (x y : Int) : List Rg := if x ≤ y then [(x, y)] else []
theorem nf_span (x y : Int) : nf [(x, y)] = spanL x y := by
  have f := nf_facts [(x, y)]
  unfold spanL
  by_cases h : x ≤ y
  · rw [if_pos h]
    exact ord_ext f.1 ⟨fun r hr => by rw [List.mem_singleton] at hr; rw [hr]; exact h, List.pairwise_singleton _ _⟩ f.2
  · rw [if_neg h]
    refine ord_ext f.1 ⟨fun r hr => (by cases hr), List.Pairwise.nil⟩ fun v => ?_
    rw [f.2, vals_cons]
    simp only [vals, List.flatMap_nil, List.not_mem_nil, or_false, iff_false]
    omega
/-- How Span ends. -/
def SpanEnd (x y : Int) (W : World) (e : Ending) (w' : World) : Prop := ∃ (s : Value) (c : Int), e = .returned (.tuple #[s, .int .i64 c]) ∧ Below W.heap.size W w' ∧
  ((inbB x y = true ∧ c = 0 ∧ w'.ownsRow W.heap.size 161 2 s (spanL x y).length (flat (spanL x y))) ∨ (inbB x y = false ∧ c = 20 ∧ s = .slice none 0 0))
end Go.Proofs.YtaeobgajhieajaaGreatDoor.Dm


namespace Go.Proofs.YtaeobgajhieajaaGreatDoor.Dm
open Go.RowKit Go.Shelf

/-- Is v in one of the ranges? -/
def hasR (l : List Rg) (v : Int) : Bool := l.any fun r => decide (r.1 ≤ v ∧ v ≤ r.2)
theorem hasR_take (l : List Rg) (v : Int) (k : Nat) (hk : k < l.length) : hasR (l.take (k + 1)) v = (hasR (l.take k) v || decide (lo l k ≤ v ∧ v ≤ hi l k)) := by
  unfold hasR
  rw [List.take_add_one, List.getElem?_eq_getElem hk, List.any_append, lo_get l k hk, hi_get l k hk]
  simp
theorem hasR_of (l : List Rg) (v : Int) (k : Nat) (hk : k < l.length) (h : lo l k ≤ v ∧ v ≤ hi l k) : hasR l v = true := by
  unfold hasR
  rw [List.any_eq_true]
  refine ⟨l[k], List.getElem_mem hk, ?_⟩
  rw [lo_get l k hk, hi_get l k hk] at h
  simpa using h

end Go.Proofs.YtaeobgajhieajaaGreatDoor.Dm


namespace Go.Proofs.YtaeobgajhieajaaGreatDoor.Dm
open Go.RowKit Go.Shelf

/-- How many values the ranges have. -/
def sizeR (l : List Rg) : Int := (l.map fun r => r.2 - r.1 + 1).sum
theorem sizeR_take (l : List Rg) (k : Nat) (hk : k < l.length) : sizeR (l.take (k + 1)) = sizeR (l.take k) + (hi l k - lo l k + 1) := by
  unfold sizeR
  rw [List.take_add_one, List.getElem?_eq_getElem hk, List.map_append, List.sum_append, lo_get l k hk, hi_get l k hk]
  simp

end Go.Proofs.YtaeobgajhieajaaGreatDoor.Dm


namespace Go.Proofs.YtaeobgajhieajaaGreatDoor.Dm
open Go.RowKit Go.Shelf

set_option maxHeartbeats 2000000 in
theorem domsize_yes (s : Value) (l : List Rg) (w : World) (h : Sr w s l) (hf : FitsR l) (hR : Right l) :
    Calls Tryz.prog 124 #[s] w fun e w' => e = .returned (.int .i64 (sizeR l)) ∧ Below w.heap.size w w' := by
  have hc := known_yes s l w h hf hR
  have hlen := hR.1
  have hok := hR.2
  obtain ⟨a, cap, rfl, hcell⟩ := h
  obtain ⟨n, hn⟩ : ∃ n, l.length = n := ⟨_, rfl⟩
  have HN : Hid (l.length = n) := hn
  have HC : Hid _ := hcell
  have HOK : Hid _ := hok
  rw [hn] at hc hlen ⊢
  clear hn hcell hR hok
  go_enter Tryz.func124, Tryz.ntmps124
  go_wp2_with (go_at_call 137; refine hc.mono ?_; rintro e w1 ⟨rfl, hb1⟩)
  go_loopw [3, 9] (fun sv i wr => ∃ (k : Nat), k ≤ n ∧ i = .int .i64 k ∧ sv = .int .i64 (sizeR (l.take k)) ∧ 0 ≤ sizeR (l.take k) ∧ sizeR (l.take k) ≤ 2000001 * k ∧ Below w.heap.size w wr) (fun _ i _ => n - (intOf i).toNat)
  case atStart => exact ⟨0, by omega, rfl, by simp [sizeR], by simp [sizeR], by simp [sizeR], hb1⟩
  case round =>
    obtain ⟨k, hk, rfl, rfl, hs0, hs1, hB⟩ := hrel
    by_cases hlt : k < n
    · have hkl : k < l.length := by rw [HN.out]; exact hlt
      obtain ⟨b, off, rfl, hb, hcells⟩ := HC.out (by omega)
      obtain ⟨c1, c2⟩ := hcells k hkl
      have d1 := (hB.cell (p := ⟨b, off + k * 2, none⟩) hb).trans c1
      have d2 := (hB.cell (p := ⟨b, off + k * 2 + 1, none⟩) hb).trans c2
      have ht := sizeR_take l k hkl
      obtain ⟨o1, o2, o3, _⟩ := HOK.out k hkl
      obtain ⟨x, hx⟩ : ∃ x, lo l k = x := ⟨_, rfl⟩
      obtain ⟨y, hy⟩ : ∃ y, hi l k = y := ⟨_, rfl⟩
      rw [hx, hy] at ht o1
      rw [hx] at o2; rw [hy] at o3
      rw [hx] at d1; rw [hy] at d2
      obtain ⟨S, hS⟩ : ∃ S, sizeR (l.take k) = S := ⟨_, rfl⟩
      rw [hS] at ht hs0 hs1 ⊢
      have hlt' : (k : Int) < (n : Int) := by omega
      have b1 : -1000000 ≤ y := by omega
      have b2 : x ≤ 1000000 := by omega
      have b3 : S ≤ 9000000000 := by omega
      have hbw : b < wr.heap.size := Nat.lt_of_lt_of_le hb hB.size
      have hb2 : Below w.heap.size w (wr.alloc (Obj.cells #[Value.int IntKind.i64 x, Value.int IntKind.i64 y] 161)) := hB.alloc hB.size _
      have HB2 : Hid (Below w.heap.size w (wr.alloc (Obj.cells #[Value.int IntKind.i64 x, Value.int IntKind.i64 y] 161))) := hb2
      have HT : Hid (sizeR (l.take (k + 1)) = S + (y - x + 1)) := ht
      clear c1 c2 hcells hx hy ht hS hb2
      go_wp2
      go_roundw
      case rel => exact ⟨k + 1, by omega, by go_num, by rw [HT.out], by rw [HT.out]; omega, by rw [HT.out]; omega, HB2.out⟩
      case measure => simp [intOf]; omega
    · have hkn : k = n := by omega
      subst hkn
      rw [List.take_of_length_le (by rw [HN.out]; exact Nat.le_refl _)] at hs0 hs1 ⊢
      go_wp2
      go_ret
      exact ⟨rfl, hB⟩
end Go.Proofs.YtaeobgajhieajaaGreatDoor.Dm


namespace Go.Proofs
open Go.Shelf
def Tryz.laysClone57_ren : Go.Shelf.Ren := ⟨fun | 41 => 57 | n => n, fun | 22 => 30 | 23 => 54 | 4 => 4 | n => n, fun | n => n⟩
theorem Tryz.laysClone57 : Go.Proofs.SlLaysE0.n41 Tryz.prog Tryz.laysClone57_ren := {
  mixed := by kernel_rfl
  f41 := ⟨Tryz.f57.name, by decide, Tryz.func57.trans (congrArg some (by kernel_rfl))⟩
  t4 := Tryz.underlying4
  a4 := Tryz.isAgg4
  z4 := Tryz.sizeOf4
  v4 := Tryz.zeroValue4
  t22 := Tryz.underlying30
  a22 := Tryz.isAgg30
  z22 := Tryz.sizeOf30
  v22 := Tryz.zeroValue30 }
def Tryz.laysClone59_ren : Go.Shelf.Ren := ⟨fun | 41 => 59 | n => n, fun | 22 => 42 | 23 => 2 | 4 => 4 | n => n, fun | n => n⟩
theorem Tryz.laysClone59 : Go.Proofs.SlLaysE0.n41 Tryz.prog Tryz.laysClone59_ren := {
  mixed := by kernel_rfl
  f41 := ⟨Tryz.f59.name, by decide, Tryz.func59.trans (congrArg some (by kernel_rfl))⟩
  t4 := Tryz.underlying4
  a4 := Tryz.isAgg4
  z4 := Tryz.sizeOf4
  v4 := Tryz.zeroValue4
  t22 := Tryz.underlying42
  a22 := Tryz.isAgg42
  z22 := Tryz.sizeOf42
  v22 := Tryz.zeroValue42 }
def Tryz.laysClone84_ren : Go.Shelf.Ren := ⟨fun | 41 => 84 | n => n, fun | 22 => 52 | 23 => 46 | 4 => 4 | n => n, fun | n => n⟩
theorem Tryz.laysClone84 : Go.Proofs.SlLaysE0.n41 Tryz.prog Tryz.laysClone84_ren := {
  mixed := by kernel_rfl
  f41 := ⟨Tryz.f84.name, by decide, Tryz.func84.trans (congrArg some (by kernel_rfl))⟩
  t4 := Tryz.underlying4
  a4 := Tryz.isAgg4
  z4 := Tryz.sizeOf4
  v4 := Tryz.zeroValue4
  t22 := Tryz.underlying52
  a22 := Tryz.isAgg52
  z22 := Tryz.sizeOf52
  v22 := Tryz.zeroValue52 }
end Go.Proofs

namespace Go.Proofs
open Go.Shelf
def Tryz.lays145_ren : Go.Shelf.Ren := ⟨fun | 145 => 63 | 220 => 85 | 219 => 111 | 217 => 127 | 225 => 128 | 224 => 129 | 267 => 130 | 266 => 146 | 314 => 147 | n => n, fun | 9 => 9 | 4 => 4 | 59 => 96 | 3 => 3 | 5 => 5 | 46 => 102 | 146 => 170 | 51 => 127 | n => n, fun | 1 => 0 | n => n⟩
theorem Tryz.lays145 : Go.Proofs.Lays.n145 Tryz.prog Tryz.lays145_ren := {
  mixed := by kernel_rfl
  f145 := Tryz.func63.trans (congrArg some (by kernel_rfl))
  f217 := Tryz.func127.trans (congrArg some (by kernel_rfl))
  f219 := Tryz.func111.trans (congrArg some (by kernel_rfl))
  f220 := Tryz.func85.trans (congrArg some (by kernel_rfl))
  f224 := Tryz.func129.trans (congrArg some (by kernel_rfl))
  f225 := Tryz.func128.trans (congrArg some (by kernel_rfl))
  f266 := Tryz.func146.trans (congrArg some (by kernel_rfl))
  f267 := Tryz.func130.trans (congrArg some (by kernel_rfl))
  f314 := Tryz.func147.trans (congrArg some (by kernel_rfl))
  t3 := Tryz.underlying3
  a3 := Tryz.isAgg3
  z3 := Tryz.sizeOf3
  v3 := Tryz.zeroValue3
  t4 := Tryz.underlying4
  a4 := Tryz.isAgg4
  z4 := Tryz.sizeOf4
  v4 := Tryz.zeroValue4
  t5 := Tryz.underlying5
  a5 := Tryz.isAgg5
  z5 := Tryz.sizeOf5
  v5 := Tryz.zeroValue5
  t9 := Tryz.underlying9
  a9 := Tryz.isAgg9
  z9 := Tryz.sizeOf9
  v9 := Tryz.zeroValue9
  t46 := Tryz.underlying102
  a46 := Tryz.isAgg102
  z46 := Tryz.sizeOf102
  v46 := Tryz.zeroValue102
  t51 := Tryz.underlying127
  a51 := Tryz.isAgg127
  z51 := Tryz.sizeOf127
  v51 := Tryz.zeroValue127
  t59 := Tryz.underlying96
  a59 := Tryz.isAgg96
  z59 := Tryz.sizeOf96
  v59 := Tryz.zeroValue96
  t146 := Tryz.underlying170
  a146 := Tryz.isAgg170
  z146 := Tryz.sizeOf170
  v146 := Tryz.zeroValue170
  g1 := by kernel_rfl }
open Go.RowKit Go.Lib in
/-- strings.Cut: "Cut slices s around the first instance of sep, returning the text before and after sep. The found result reports whether sep appears in s. If sep does not appear in s, cut returns s, "", false.": IT RETURNS 'Lib.cut s sep'; the world is as it was but for the count of draws. (LAID: no walk: one application.) -/
theorem Tryz.strings_Cut (s sep : ByteArray) (m : Int) (w : World) (hs : s.size < 4294967281) (hm : w.cell? ⟨0, 0, none⟩ = some (.int .i64 m)) :
    Calls Tryz.prog 63 #[.string s, .string sep] w fun e w' => e = .returned (.tuple #[.string ⟨(Lib.cut s.data.toList sep.data.toList).1.toArray⟩, .string ⟨(Lib.cut s.data.toList sep.data.toList).2.1.toArray⟩, .bool (Lib.cut s.data.toList sep.data.toList).2.2]) ∧ ∃ n, w' = w.drewN n := Any.strings_Cut Tryz.lays145 s sep m w hs hm
end Go.Proofs
