/-
  What is proved here: where strings.IndexAny finds a quote or the end of a line, in any text.
-/
import Derived.Test.YtokcbiafajpmoaaDoorLn
import Derived.Shelf.Strings.IndexAnyAll
import Derived.Lib.OthersKept
namespace Go.Proofs.YtokcbiafajpmoaaDoor
open Go.RowKit Go.Shelf
set_option linter.unusedVariables false
set_option linter.unusedSimpArgs false
def ql : List UInt8 := [34, 10]
theorem qs_data : qs.data.toList = ql := rfl
theorem high_not (x : UInt8) (h : 128 ≤ x.toNat) : ql.contains x = false := by
  simp only [ql, List.contains_cons, List.contains_nil, Bool.or_false, Bool.or_eq_false_iff, beq_eq_false_iff_ne, ne_eq]
  refine ⟨fun e => ?_, fun e => ?_⟩ <;> (subst e; exact absurd h (by decide))
theorem NoAny.more {s chars : List UInt8} {i k : Nat} (h : Lib.NoAny s chars i) (hn : ∀ j x, j < k → s[i + j]? = some x → chars.contains x = false) : Lib.NoAny s chars (i + k) := by
  intro j b hj hb
  by_cases hji : j < i
  · exact h j b hji hb
  · obtain ⟨m, rfl⟩ : ∃ m, j = i + m := ⟨j - i, by omega⟩
    exact hn m b (by omega) hb
theorem get_bang (s : ByteArray) (i : Nat) (x : UInt8) (h : s.data.toList[i]? = some x) : s.get! i = x := by
  obtain ⟨d⟩ := s
  simp only [ByteArray.get!]
  rw [Array.getElem?_toList] at h
  simp [getElem!_def, h]

set_option maxRecDepth 100000 in
set_option maxHeartbeats 4000000 in
theorem indexAny_short (s : ByteArray) (h8 : s.size ≤ 8) (w : World) :
    Calls Tryd.prog 44 #[.string s, .string qs] w fun e w' => e = .returned (.int .i64 (Lib.indexAny s.data.toList ql)) ∧ Below w.heap.size w w' := by
  have hemp : qs.toList.isEmpty = false := bs_nee [34, 10] (by simp)
  have hq : qs.size = 2 := rfl
  have hn1 : ((qs.size : Int) == 1) = false := by decide
  have h8z : decide ((8 : Int) < (s.size : Int)) = false := decide_eq_false (by omega)
  have hbi : ∀ k, Below w.heap.size w (w.iter s k) := fun k => (Below.refl _ w).alloc (Nat.le_refl _) _
  go_enter Tryd.func44, Tryd.ntmps44
  go_wp2_with (go_at_call 56; refine (Any.strings_shouldUseASCIISet { Tryd.laysIndexAny with } _ _).mono ?_; rintro e w' ⟨rfl, hw⟩; rw [hw, h8z])
  go_loopg [9, 10] s.size (fun g _ _ wx => ∃ i : Nat, i + g = s.size ∧ Hid (Below w.heap.size w wx) ∧ wx.heap[w.heap.size]? = some (.stringIter s i) ∧ Hid (Lib.NoAny s.data.toList ql i))
  case atStart => exact ⟨0, by omega, hbi 0, World.iter_heap w s 0, Lib.NoAny.zero _ _⟩
  case round =>
    obtain ⟨i, hig, HB, hit, HN⟩ := hrel
    cases gk with
    | zero =>
      obtain rfl : i = s.size := by omega
      have hnx := fun ty => Lib.run_next_end_at (P := Tryd.prog) wr w.heap.size s s.size ty hit (by omega)
      go_wp2
      go_ret
      refine ⟨?_, HB.out⟩
      rw [Lib.indexAny_none (by rw [← Lib.size_eq]; exact HN.out)]; rfl
    | succ g =>
      have hi : i < s.size := by omega
      obtain ⟨x, hx⟩ : ∃ x : UInt8, s[i]'hi = x := ⟨_, rfl⟩
      have hxl : s.data.toList[i]? = some x := by rw [← hx]; exact Lib.data_getElem? s i hi
      have Hx : Hid (s.data.toList[i]? = some x) := hxl
      by_cases hx128 : x.toNat < 128
      · have hnx := fun ty => Lib.run_next_ascii_at (P := Tryd.prog) wr w.heap.size s i ty hit hi (by rw [hx]; exact hx128)
        rw [hx] at hnx
        have HIT : Hid _ := Lib.iterAt_heap wr w.heap.size s i (i + 1) hit
        have HBN : Hid (Below w.heap.size w (wr.iterAt w.heap.size s (i + 1))) := Lib.below_iterAt HB.out (Nat.le_refl _) _ _
        have hcon := Lib.contains_iff_indexByte ql x
        have hback : ((x.toNat : Int)).toNat.toUInt8 = x := by simp
        clear hxl hx hit
        cases hin : ql.contains x
        · rw [hin] at hcon
          have hlt : ¬ ((0 : Int) ≤ Lib.indexByte ql x) := of_decide_eq_false hcon.symm
          clear hcon
          go_wp2_with (go_at_call 55; refine (Any.strings_IndexRune_ascii { Tryd.laysIndexAny with } _ _ _ (by omega) (by omega)).mono ?_; rintro e w' ⟨rfl, hw⟩; rw [hw, hback, qs_data])
          go_roundg g
          case measure => omega
          case rel => exact ⟨i + 1, by omega, HBN, HIT.out, HN.out.succ Hx.out hin⟩
        · rw [hin] at hcon
          have hge : (0 : Int) ≤ Lib.indexByte ql x := of_decide_eq_true hcon.symm
          clear hcon
          go_wp2_with (go_at_call 55; refine (Any.strings_IndexRune_ascii { Tryd.laysIndexAny with } _ _ _ (by omega) (by omega)).mono ?_; rintro e w' ⟨rfl, hw⟩; rw [hw, hback, qs_data])
          go_ret
          refine ⟨?_, HBN.out⟩
          rw [Lib.indexAny_hit HN.out Hx.out hin]; rfl
      · have hgb : s.get! i = x := get_bang s i x hxl
        obtain ⟨d1, d2, d3, d4, d5, d6⟩ := decode_high s i hi (by rw [hgb]; omega)
        have hnx := fun ty => Lib.run_next_any_at (P := Tryd.prog) wr w.heap.size s i ty hit hi
        have HD : Hid (∀ j y, j < (Utf8.decode s i).2 → s.data.toList[i + j]? = some y → ql.contains y = false) := by
          intro j y hj hy
          have h1 := d6 j hj
          rw [get_bang s (i + j) y hy] at h1
          exact high_not y h1
        obtain ⟨r, hr⟩ : ∃ r, (Utf8.decode s i).1 = r := ⟨_, rfl⟩
        obtain ⟨k, hk⟩ : ∃ k, (Utf8.decode s i).2 = k := ⟨_, rfl⟩
        rw [hr] at d1 d2 d3
        rw [hk] at d4 d5 HD
        simp only [hr, hk] at hnx
        have hit2 := Lib.iterAt_heap wr w.heap.size s i (i + k) hit
        have HBN : Hid (Below w.heap.size w (wr.iterAt w.heap.size s (i + k))) := Lib.below_iterAt HB.out (Nat.le_refl _) _ _
        have HIT : Hid _ := hit2
        have hir : ∀ X, Calls Tryd.prog 55 #[.string qs, .int .i32 (r : Int)] X fun e w' => e = .returned (.int .i64 (-1)) ∧ Below X.heap.size X w' := by
          intro X
          by_cases h : r = 65533
          · rw [h]; exact irune_err X
          · exact irune_high (r : Int) (by omega) (by omega) d3 (by omega) X
        obtain ⟨w2, hw2⟩ : ∃ X, wr.iterAt w.heap.size s (i + k) = X := ⟨_, rfl⟩
        rw [hw2] at HBN HIT
        simp only [hw2] at hnx
        clear hxl hx hit hit2 d6 hr hk hw2 hgb d3
        go_wp2_with (go_at_call 55; refine (hir _).mono ?_; rintro e w' ⟨rfl, hbw⟩)
        go_roundg (g + 1 - k)
        case measure => omega
        case rel => exact ⟨i + k, by omega, HBN.out.trans (hbw.mono HBN.out.size), (hbw.block _ (Array.getElem?_eq_some_iff.1 HIT.out).1).trans HIT.out, NoAny.more HN.out HD.out⟩
theorem indexAny_any (l : List UInt8) (hl : l.length ≤ 65536) (w : World) :
    Calls Tryd.prog 44 #[.string (bs l), .string qs] w fun e w' => e = .returned (.int .i64 (Lib.indexAny l ql)) ∧ Below w.heap.size w w' := by
  have hsz : (bs l).size = l.length := bs_size l
  by_cases h8 : l.length ≤ 8
  · have := indexAny_short (bs l) (by omega) w
    rw [bs_data] at this
    exact this
  · have h116 : (Tryd.prog.info? (Tryd.laysIndexAny_ren.t 116)).map (fun i => (i.zero, i.size)) = some (some (.agg (Array.replicate 256 (.bool false))), 256) := by kernel_rfl
    have := Any.strings_IndexAny_long Tryd.laysIndexAny (zero_of_info h116).1 (zero_of_info h116).2 (bs l) qs w (by decide) (by omega) (by omega) (by decide) (fun j b hb => by
      rw [qs_data] at hb
      match j, hb with
      | 0, hb => simp [ql] at hb; subst hb; decide
      | 1, hb => simp [ql] at hb; subst hb; decide)
    rw [bs_data, qs_data] at this
    refine this.mono fun e w' ⟨he, hw⟩ => ⟨he, ?_⟩
    rw [hw]
    exact ((Below.refl _ w).alloc (Nat.le_refl _) _).alloc (by simp) _
theorem index_ql (l : List UInt8) : Lib.indexAny l ql = if spn inqB l < l.length then (spn inqB l : Int) else -1 := by
  induction l with
  | nil => rfl
  | cons c r ih =>
    rw [spn_cons]
    unfold Lib.indexAny
    cases h : ql.contains c with
    | true =>
      have hb : inqB c = false := by
        simp only [ql, List.contains_cons, List.contains_nil, Bool.or_false, Bool.or_eq_true, beq_iff_eq] at h
        rcases h with rfl | rfl <;> rfl
      rw [hb]; simp
    | false =>
      have hl : inqB c = true := by
        simp only [ql, List.contains_cons, List.contains_nil, Bool.or_false, Bool.or_eq_false_iff, beq_eq_false_iff_ne, ne_eq] at h
        have h1 : c.toNat ≠ 34 := fun e => h.1 (UInt8.toNat_inj.1 e)
        have h2 : c.toNat ≠ 10 := fun e => h.2 (UInt8.toNat_inj.1 e)
        simp [inqB, h1, h2]
      by_cases h3 : spn inqB r < r.length
      · rw [if_pos h3] at ih
        rw [hl, ih]
        simp only [Bool.false_eq_true, if_false, if_true, List.length_cons]
        have : ¬ ((spn inqB r : Int) == -1) = true := by simp
        rw [if_neg this, if_pos (by omega)]
        rfl
      · rw [if_neg h3] at ih
        rw [hl, ih]
        simp only [Bool.false_eq_true, if_false, if_true, List.length_cons]
        have h4 : ¬ (spn inqB r + 1 < r.length + 1) := by omega
        rw [if_neg h4]
        rfl
end Go.Proofs.YtokcbiafajpmoaaDoor
