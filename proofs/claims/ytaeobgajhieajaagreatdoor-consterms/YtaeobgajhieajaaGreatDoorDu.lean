/-
  What is proved here: allTaken.
-/
import Derived.Test.YtaeobgajhieajaaGreatDoorDt
namespace Go.Proofs.YtaeobgajhieajaaGreatDoor
open Go.RowKit Go.Shelf
set_option linter.unusedVariables false
set_option linter.unusedSimpArgs false
def tkL (tk : Nat → Tm → Bool) (ags : List Ag) : Nat → Bool
  | 0 => true
  | k + 1 => tkL tk ags k && (match ags[k]? with | some g => g.l.all (tk k) | none => true)
theorem tkL_succ {tk : Nat → Tm → Bool} {ags : List Ag} {k : Nat} {g : Ag} (h : ags[k]? = some g) : tkL tk ags (k + 1) = (tkL tk ags k && g.l.all (tk k)) := by simp [tkL, h]
theorem tkL_false {tk : Nat → Tm → Bool} {ags : List Ag} {k : Nat} (h : tkL tk ags k = false) : ∀ n, k ≤ n → tkL tk ags n = false := by
  intro n hn
  induction hn with
  | refl => exact h
  | step _ ih => simp [tkL, ih]

set_option maxRecDepth 100000 in
set_option maxHeartbeats 4000000 in
theorem allTaken_any {B0 : Nat} {W : World} {a8 a9 : Option Addr} {c8 c9 n : Nat} {vs : Value} {ags : List Ag} {parts : List (List UInt8)} (pv : Nat → Value) (tk : Nat → Tm → Bool) (h : Sa B0 W (.slice a8 n c8) ags) (hp : Ss W (.slice a9 n c9) parts) (h1 : ags.length = n) (h2 : parts.length = n) (hn : n ≤ 1000000000000) (hl : ∀ g ∈ ags, g.l.length ≤ 1000000000000)
    (hpl : ∀ k part X, parts[k]? = some part → Below W.heap.size W X → Calls Tryz.prog 70 #[.string ⟨(Lib.trimPrefix part [97]).toArray⟩, vs] X fun e w' => e = .returned (pv k) ∧ Below X.heap.size X w')
    (htk : ∀ k g t a c X, ags[k]? = some g → t ∈ g.l → Si B0 X (.slice a t.s.length c) t.s → Below W.heap.size W X → Calls Tryz.prog 72 #[pv k, .agg #[.int .i64 t.v, .bool t.set, .int .i64 t.n, .slice a t.s.length c]] X fun e w' => e = .returned (.bool (tk k t)) ∧ Below X.heap.size X w') :
    Calls Tryz.prog 50 #[.slice a8 n c8, .slice a9 n c9, vs] W fun e w' => e = .returned (.bool (tkL tk ags n)) ∧ Below W.heap.size W w' := by
  have HA : Hid (Sa B0 W (.slice a8 n c8) ags) := h
  have HP : Hid (Ss W (.slice a9 n c9) parts) := hp
  have HN : Hid (ags.length = n ∧ parts.length = n) := ⟨h1, h2⟩
  have HL : Hid (∀ g ∈ ags, g.l.length ≤ 1000000000000) := hl
  have kT := fun (s : List UInt8) => Any.strings_TrimPrefix Tryz.laysTrimPrefix71 ⟨s.toArray⟩ ⟨#[97]⟩
  clear h hp h1 h2 hl
  go_enter Tryz.func50, Tryz.ntmps50
  go_wp2
  go_loopw [14] (fun i wr => ∃ k : Nat, k ≤ n ∧ i = .int .i64 (k : Int) ∧ Hid (tkL tk ags k = true) ∧ Hid (Below W.heap.size W wr)) (fun i _ => n - (intOf i).toNat)
  case atStart => exact ⟨0, Nat.zero_le _, rfl, rfl, Below.refl _ _⟩
  case round =>
    obtain ⟨k, hk, rfl, HQ, HB⟩ := hrel
    by_cases hlt : k < n
    · have hlt' : (k : Int) < n := by omega
      obtain ⟨g, hg⟩ : ∃ g, ags[k]? = some g := ⟨_, List.getElem?_eq_getElem (by rw [HN.out.1]; exact hlt)⟩
      obtain ⟨p, hp⟩ : ∃ p, parts[k]? = some p := ⟨_, List.getElem?_eq_getElem (by rw [HN.out.2]; exact hlt)⟩
      obtain ⟨b, off, a2, c2, rfl, hb, hst, d0, d1⟩ := HA.out.at hg
      obtain ⟨b2, rfl, hb2, d2⟩ := HP.out.at hp
      have y2 := (HB.out.cell (p := ⟨b2, k, none⟩) hb2).trans d2
      have hw2 : IntKind.i64.wrap ((k : Int) + 1) = (k : Int) + 1 := by rw [IntKind.wrap_i64]; omega
      have kP := hpl k p wr hp HB.out
      have HG : Hid (ags[k]? = some g) := hg
      obtain ⟨m, hm⟩ : ∃ m, g.l.length = m := ⟨_, rfl⟩
      have hm9 : m ≤ 1000000000000 := hm ▸ HL.out g (List.mem_of_getElem? hg)
      rw [hm] at hst d1
      have HST : Hid (St B0 W (.slice a2 m c2) g.l) := hst
      have HM : Hid (g.l.length = m) := hm
      clear hst hm hg hp d0 d2
      go_wp2_with fail
      refine (kT p _).mono ?_
      rintro e w1 ⟨rfl, rfl⟩
      go_wp2_with fail
      refine kP.mono ?_
      clear kP
      rintro e w2 ⟨rfl, hb2'⟩
      have HB2 : Hid (Below W.heap.size W w2) := HB.out.trans (hb2'.mono HB.out.size)
      have y1 := (HB2.out.cell (p := ⟨b, off + k * 2 + 1, none⟩) hb).trans d1
      clear d1 hb2' y2
      go_wp2
      go_loopw [30] (fun j wq => ∃ q : Nat, q ≤ m ∧ j = .int .i64 (q : Int) ∧ Hid ((g.l.take q).all (tk k) = true) ∧ Hid (Below W.heap.size W wq)) (fun j _ => m - (intOf j).toNat)
      case atStart => exact ⟨0, Nat.zero_le _, rfl, by simp [Hid], HB2⟩
      case round =>
        obtain ⟨q, hq, rfl, HQ2, HBQ⟩ := hrel
        by_cases hqt : q < m
        · have hqt' : (q : Int) < m := by omega
          obtain ⟨t, ht⟩ : ∃ t, g.l[q]? = some t := ⟨_, List.getElem?_eq_getElem (by rw [HM.out]; exact hqt)⟩
          obtain ⟨b3, off3, a4, c4, rfl, hb3, hsi, d0, d1, d2, d3⟩ := HST.out.at ht
          have y0 := (HBQ.out.cell (p := ⟨b3, off3 + q * 4, none⟩) hb3).trans d0
          have y1 := (HBQ.out.cell (p := ⟨b3, off3 + q * 4 + 1, none⟩) hb3).trans d1
          have y2 := (HBQ.out.cell (p := ⟨b3, off3 + q * 4 + 2, none⟩) hb3).trans d2
          have y3 := (HBQ.out.cell (p := ⟨b3, off3 + q * 4 + 3, none⟩) hb3).trans d3
          have hbA : Below wr.heap.size wr (wr.alloc (Obj.cells #[.int .i64 t.v, .bool t.set, .int .i64 t.n, .slice a4 t.s.length c4] 46)) := (Below.refl _ wr).alloc (Nat.le_refl _) _
          have hBA := HBQ.out.trans (hbA.mono HBQ.out.size)
          have kt := htk k g t a4 c4 _ HG.out (List.mem_of_getElem? ht) (hsi.below hBA) hBA
          have HSU : Hid ((g.l.take (q + 1)).all (tk k) = ((g.l.take q).all (tk k) && tk k t)) := by
            obtain ⟨hi, rfl⟩ := List.getElem?_eq_some_iff.1 ht
            show (g.l.take (q + 1)).all (tk k) = _
            rw [List.take_succ_eq_append_getElem hi, List.all_append]
            simp
          have HMEM : Hid (t ∈ g.l) := List.mem_of_getElem? ht
          have HBA : Hid _ := hBA
          clear d0 d1 d2 d3 ht hsi hbA hBA
          have hw3 : IntKind.i64.wrap ((q : Int) + 1) = (q : Int) + 1 := by rw [IntKind.wrap_i64]; omega
          go_wp2_with fail
          refine kt.mono ?_
          clear kt
          rintro e w5 ⟨rfl, hb5⟩
          have HB5 : Hid (Below W.heap.size W w5) := HBA.out.trans (hb5.mono HBA.out.size)
          clear hb5
          obtain ⟨r, hr⟩ : ∃ r, tk k t = r := ⟨_, rfl⟩
          rw [hr] at HSU ⊢
          rw [HQ2.out] at HSU
          have HR : Hid (tk k t = r) := hr
          clear hr
          cases r with
          | true =>
            go_wp2
            go_roundw
            case rel => exact ⟨q + 1, by omega, by go_num, by rw [HSU.out]; rfl, HB5⟩
            case measure => simp [intOf]; omega
          | false =>
            have HF : Hid (tkL tk ags n = false) := by
              refine tkL_false (k := k + 1) ?_ n (by omega)
              rw [tkL_succ HG.out]
              have : g.l.all (tk k) = false := List.all_eq_false.2 ⟨t, HMEM.out, by rw [HR.out]; simp⟩
              rw [this]; simp
            go_wp2
            go_ret
            exact ⟨by rw [HF.out]; rfl, HB5.out⟩
        · have hqt' : ¬ (q : Int) < m := by omega
          obtain rfl : q = m := by omega
          have HF : Hid (tkL tk ags (k + 1) = true) := by
            have h9 := HQ2.out
            rw [List.take_of_length_le (by rw [HM.out]; exact Nat.le_refl _)] at h9
            show tkL tk ags (k + 1) = true
            rw [tkL_succ HG.out, HQ.out, h9]; rfl
          go_wp2
          go_roundw
          case rel => exact ⟨k + 1, by omega, by go_num, HF, HBQ⟩
          case measure => simp [intOf]; omega
    · have hlt' : ¬ (k : Int) < n := by omega
      obtain rfl : k = n := by omega
      go_wp2
      go_ret
      exact ⟨by rw [HQ.out]; rfl, HB.out⟩
end Go.Proofs.YtaeobgajhieajaaGreatDoor
