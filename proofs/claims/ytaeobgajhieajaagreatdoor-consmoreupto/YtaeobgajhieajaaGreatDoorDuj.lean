/-
  What is proved here: allTaken.
  What is proved here: the form and the family of a name, as package cons tells them.
  What is proved here: Right, where what it calls is known.
-/
import Derived.Test.YtaeobgajhieajaaGreatDoorDrj
import Derived.Test.YtaeobgajhieajaaGreatDoorCe
namespace Go.Proofs.YtaeobgajhieajaaGreatDoor
open Go.RowKit Go.Shelf
set_option linter.unusedVariables false
set_option linter.unusedSimpArgs false
def tkL (tk : Nat → Tm → Bool) (ags : List Ag) : Nat → Bool
  | 0 => true
  | k + 1 => tkL tk ags k && (match ags[k]? with | some g => g.l.all (tk k) | none => true)
theorem tkL_succ {tk : Nat → Tm → Bool} {ags : List Ag} {k : Nat} {g : Ag} (h : ags[k]? = some g) : tkL tk ags (k + 1) = (tkL tk ags k && g.l.all (tk k)) := by simp [tkL, h]
theorem tkL_false {tk : Nat → Tm → Bool} {ags : List Ag} {k : Nat} (h : tkL tk ags k = false) : ∀ n, k ≤ n → tkL tk ags n = false := by
  intro n hn
  induction hn with
  | refl => exact h
  | step _ ih => simp [tkL, ih]

set_option maxRecDepth 100000 in
set_option maxHeartbeats 4000000 in
theorem allTaken_any {B0 : Nat} {W : World} {a8 a9 : Option Addr} {c8 c9 n : Nat} {vs : Value} {ags : List Ag} {parts : List (List UInt8)} (pv : Nat → Value) (tk : Nat → Tm → Bool) (h : Sa B0 W (.slice a8 n c8) ags) (hp : Ss W (.slice a9 n c9) parts) (h1 : ags.length = n) (h2 : parts.length = n) (hn : n ≤ 4398046510976) (hl : ∀ g ∈ ags, g.l.length ≤ 4398046510976)
    (hpl : ∀ k part X, parts[k]? = some part → Below W.heap.size W X → Calls Tryz.prog 70 #[.string ⟨(Lib.trimPrefix part [97]).toArray⟩, vs] X fun e w' => e = .returned (pv k) ∧ Below X.heap.size X w')
    (htk : ∀ k g t a c X, ags[k]? = some g → t ∈ g.l → Si B0 X (.slice a t.s.length c) t.s → Below W.heap.size W X → Calls Tryz.prog 72 #[pv k, .agg #[.int .i64 t.v, .bool t.set, .int .i64 t.n, .slice a t.s.length c]] X fun e w' => e = .returned (.bool (tk k t)) ∧ Below X.heap.size X w') :
    Calls Tryz.prog 50 #[.slice a8 n c8, .slice a9 n c9, vs] W fun e w' => e = .returned (.bool (tkL tk ags n)) ∧ Below W.heap.size W w' := by
  have HA : Hid (Sa B0 W (.slice a8 n c8) ags) := h
  have HP : Hid (Ss W (.slice a9 n c9) parts) := hp
  have HN : Hid (ags.length = n ∧ parts.length = n) := ⟨h1, h2⟩
  have HL : Hid (∀ g ∈ ags, g.l.length ≤ 4398046510976) := hl
  have kT := fun (s : List UInt8) => Any.strings_TrimPrefix Tryz.laysTrimPrefix71 ⟨s.toArray⟩ ⟨#[97]⟩
  clear h hp h1 h2 hl
  go_enter Tryz.func50, Tryz.ntmps50
  go_wp2
  go_loopw [14] (fun i wr => ∃ k : Nat, k ≤ n ∧ i = .int .i64 (k : Int) ∧ Hid (tkL tk ags k = true) ∧ Hid (Below W.heap.size W wr)) (fun i _ => n - (intOf i).toNat)
  case atStart => exact ⟨0, Nat.zero_le _, rfl, rfl, Below.refl _ _⟩
  case round =>
    obtain ⟨k, hk, rfl, HQ, HB⟩ := hrel
    by_cases hlt : k < n
    · have hlt' : (k : Int) < n := by omega
      obtain ⟨g, hg⟩ : ∃ g, ags[k]? = some g := ⟨_, List.getElem?_eq_getElem (by rw [HN.out.1]; exact hlt)⟩
      obtain ⟨p, hp⟩ : ∃ p, parts[k]? = some p := ⟨_, List.getElem?_eq_getElem (by rw [HN.out.2]; exact hlt)⟩
      obtain ⟨b, off, a2, c2, rfl, hb, hst, d0, d1⟩ := HA.out.at hg
      obtain ⟨b2, rfl, hb2, d2⟩ := HP.out.at hp
      have y2 := (HB.out.cell (p := ⟨b2, k, none⟩) hb2).trans d2
      have hw2 : IntKind.i64.wrap ((k : Int) + 1) = (k : Int) + 1 := by rw [IntKind.wrap_i64]; omega
      have kP := hpl k p wr hp HB.out
      have HG : Hid (ags[k]? = some g) := hg
      obtain ⟨m, hm⟩ : ∃ m, g.l.length = m := ⟨_, rfl⟩
      have hm9 : m ≤ 4398046510976 := hm ▸ HL.out g (List.mem_of_getElem? hg)
      rw [hm] at hst d1
      have HST : Hid (St B0 W (.slice a2 m c2) g.l) := hst
      have HM : Hid (g.l.length = m) := hm
      clear hst hm hg hp d0 d2
      go_wp2_with fail
      refine (kT p _).mono ?_
      rintro e w1 ⟨rfl, rfl⟩
      go_wp2_with fail
      refine kP.mono ?_
      clear kP
      rintro e w2 ⟨rfl, hb2'⟩
      have HB2 : Hid (Below W.heap.size W w2) := HB.out.trans (hb2'.mono HB.out.size)
      have y1 := (HB2.out.cell (p := ⟨b, off + k * 2 + 1, none⟩) hb).trans d1
      clear d1 hb2' y2
      go_wp2
      go_loopw [30] (fun j wq => ∃ q : Nat, q ≤ m ∧ j = .int .i64 (q : Int) ∧ Hid ((g.l.take q).all (tk k) = true) ∧ Hid (Below W.heap.size W wq)) (fun j _ => m - (intOf j).toNat)
      case atStart => exact ⟨0, Nat.zero_le _, rfl, by simp [Hid], HB2⟩
      case round =>
        obtain ⟨q, hq, rfl, HQ2, HBQ⟩ := hrel
        by_cases hqt : q < m
        · have hqt' : (q : Int) < m := by omega
          obtain ⟨t, ht⟩ : ∃ t, g.l[q]? = some t := ⟨_, List.getElem?_eq_getElem (by rw [HM.out]; exact hqt)⟩
          obtain ⟨b3, off3, a4, c4, rfl, hb3, hsi, d0, d1, d2, d3⟩ := HST.out.at ht
          have y0 := (HBQ.out.cell (p := ⟨b3, off3 + q * 4, none⟩) hb3).trans d0
          have y1 := (HBQ.out.cell (p := ⟨b3, off3 + q * 4 + 1, none⟩) hb3).trans d1
          have y2 := (HBQ.out.cell (p := ⟨b3, off3 + q * 4 + 2, none⟩) hb3).trans d2
          have y3 := (HBQ.out.cell (p := ⟨b3, off3 + q * 4 + 3, none⟩) hb3).trans d3
          have hbA : Below wr.heap.size wr (wr.alloc (Obj.cells #[.int .i64 t.v, .bool t.set, .int .i64 t.n, .slice a4 t.s.length c4] 46)) := (Below.refl _ wr).alloc (Nat.le_refl _) _
          have hBA := HBQ.out.trans (hbA.mono HBQ.out.size)
          have kt := htk k g t a4 c4 _ HG.out (List.mem_of_getElem? ht) (hsi.below hBA) hBA
          have HSU : Hid ((g.l.take (q + 1)).all (tk k) = ((g.l.take q).all (tk k) && tk k t)) := by
            obtain ⟨hi, rfl⟩ := List.getElem?_eq_some_iff.1 ht
            show (g.l.take (q + 1)).all (tk k) = _
            rw [List.take_succ_eq_append_getElem hi, List.all_append]
            simp
          have HMEM : Hid (t ∈ g.l) := List.mem_of_getElem? ht
          have HBA : Hid _ := hBA
          clear d0 d1 d2 d3 ht hsi hbA hBA
          have hw3 : IntKind.i64.wrap ((q : Int) + 1) = (q : Int) + 1 := by rw [IntKind.wrap_i64]; omega
          go_wp2_with fail
          refine kt.mono ?_
          clear kt
          rintro e w5 ⟨rfl, hb5⟩
          have HB5 : Hid (Below W.heap.size W w5) := HBA.out.trans (hb5.mono HBA.out.size)
          clear hb5
          obtain ⟨r, hr⟩ : ∃ r, tk k t = r := ⟨_, rfl⟩
          rw [hr] at HSU ⊢
          rw [HQ2.out] at HSU
          have HR : Hid (tk k t = r) := hr
          clear hr
          cases r with
          | true =>
            go_wp2
            go_roundw
            case rel => exact ⟨q + 1, by omega, by go_num, by rw [HSU.out]; rfl, HB5⟩
            case measure => simp [intOf]; omega
          | false =>
            have HF : Hid (tkL tk ags n = false) := by
              refine tkL_false (k := k + 1) ?_ n (by omega)
              rw [tkL_succ HG.out]
              have : g.l.all (tk k) = false := List.all_eq_false.2 ⟨t, HMEM.out, by rw [HR.out]; simp⟩
              rw [this]; simp
            go_wp2
            go_ret
            exact ⟨by rw [HF.out]; rfl, HB5.out⟩
        · have hqt' : ¬ (q : Int) < m := by omega
          obtain rfl : q = m := by omega
          have HF : Hid (tkL tk ags (k + 1) = true) := by
            have h9 := HQ2.out
            rw [List.take_of_length_le (by rw [HM.out]; exact Nat.le_refl _)] at h9
            show tkL tk ags (k + 1) = true
            rw [tkL_succ HG.out, HQ.out, h9]; rfl
          go_wp2
          go_roundw
          case rel => exact ⟨k + 1, by omega, by go_num, HF, HBQ⟩
          case measure => simp [intOf]; omega
    · have hlt' : ¬ (k : Int) < n := by omega
      obtain rfl : k = n := by omega
      go_wp2
      go_ret
      exact ⟨by rw [HQ.out]; rfl, HB.out⟩
end Go.Proofs.YtaeobgajhieajaaGreatDoor

namespace Go.Proofs.YtaeobgajhieajaaGreatDoor
open Go.RowKit Go.Shelf
set_option linter.unusedVariables false
set_option linter.unusedSimpArgs false

set_option maxRecDepth 100000 in
set_option maxHeartbeats 4000000 in
theorem form_any (nm : List UInt8) (W : World) (hM : MaxL W) :
    Calls Tryz.prog 10 #[.string ⟨nm.toArray⟩] W fun e w' => e = .returned (.string ⟨(findT nm).2.toArray⟩) ∧ Below W.heap.size W w' := by
  have k40 := find_any nm W hM
  generalize (findT nm).1 = x at k40 ⊢
  generalize (findT nm).2 = y at k40 ⊢
  clear hM
  go_enter Tryz.func10, Tryz.ntmps10
  go_wp2_with fail
  refine k40.mono ?_
  rintro e w1 ⟨rfl, hb⟩
  have hfd : ∀ w : World, (Instr.field 72 (.agg #[.string ⟨x.toArray⟩, .string ⟨y.toArray⟩]) 1).run Tryz.prog w = .ok (.string ⟨y.toArray⟩) w := fun _ => by first | rfl | with_unfolding_all rfl
  go_wp2
  go_ret
  exact ⟨rfl, hb⟩

set_option maxRecDepth 100000 in
set_option maxHeartbeats 4000000 in
theorem family_any (nm : List UInt8) (W : World) (hM : MaxL W) :
    Calls Tryz.prog 12 #[.string ⟨nm.toArray⟩] W fun e w' => e = .returned (.string ⟨(findT nm).1.toArray⟩) ∧ Below W.heap.size W w' := by
  have k40 := find_any nm W hM
  generalize (findT nm).1 = x at k40 ⊢
  generalize (findT nm).2 = y at k40 ⊢
  clear hM
  go_enter Tryz.func12, Tryz.ntmps12
  go_wp2_with fail
  refine k40.mono ?_
  rintro e w1 ⟨rfl, hb⟩
  have hfd : ∀ w : World, (Instr.field 72 (.agg #[.string ⟨x.toArray⟩, .string ⟨y.toArray⟩]) 0).run Tryz.prog w = .ok (.string ⟨x.toArray⟩) w := fun _ => by first | rfl | with_unfolding_all rfl
  go_wp2
  go_ret
  exact ⟨rfl, hb⟩
end Go.Proofs.YtaeobgajhieajaaGreatDoor

namespace Go.Proofs.YtaeobgajhieajaaGreatDoor
open Go.RowKit Go.Shelf
set_option linter.unusedVariables false
set_option linter.unusedSimpArgs false

def partsF (s : List UInt8) : List (List UInt8) := (Lib.splitB ⟨#[44]⟩ 0 (Lib.countB ⟨s.toArray⟩ ⟨#[44]⟩) ⟨s.toArray⟩).map fun b => b.data.toList
theorem split45 (s : List UInt8) (w : World) (hM : MaxL w) (hs : s.length < 4294967281) :
    Calls Tryz.prog 45 #[.string ⟨s.toArray⟩, .string ⟨#[44]⟩] w fun e w' => ∃ b, e = .returned (.slice (some ⟨b, 0, none⟩) (partsF s).length (partsF s).length) ∧ Ss w' (.slice (some ⟨b, 0, none⟩) (partsF s).length (partsF s).length) (partsF s) ∧ Below w.heap.size w w' := by
  obtain ⟨_, m, hm⟩ := hM
  have hsz : (ByteArray.mk s.toArray).size = s.length := by simp [ByteArray.size]
  have hl : (partsF s).length = Lib.countB ⟨s.toArray⟩ ⟨#[44]⟩ + 1 := by rw [partsF, List.length_map]; exact Lib.splitB_all ⟨#[44]⟩ (Nat.le_refl 1) 0 _ ⟨s.toArray⟩ rfl
  refine (Any.strings_Split Tryz.laysSplit45 (by kernel_rfl) ⟨s.toArray⟩ ⟨#[44]⟩ m w (by omega) hm (Nat.le_refl 1)).mono fun e w' ⟨he, hw⟩ => ?_
  subst hw
  refine ⟨w.heap.size, by rw [he, hl], ⟨_, _, rfl, fun _ => ⟨w.heap.size, rfl, by simp, fun i x hx => ?_⟩⟩, (Below.refl _ w).alloc (Nat.le_refl _) _⟩
  rw [cell_row (World.alloc_heap_new w _)]
  rw [partsF, List.getElem?_map] at hx
  simp only [List.getElem?_toArray, List.getElem?_map]
  cases h : (Lib.splitB ⟨#[44]⟩ 0 (Lib.countB ⟨s.toArray⟩ ⟨#[44]⟩) ⟨s.toArray⟩)[i]? with
  | none => rw [h] at hx; cases hx
  | some b => rw [h] at hx; cases hx; rfl
/-- What Right answers. -/
def rightV (e1 e2 e3 e4 : Bool) : Int := if e1 then (if e2 then 3 else if e3 && e4 then 0 else 50) else 50

set_option maxRecDepth 100000 in
set_option maxHeartbeats 4000000 in
theorem right_walk {W : World} (nm : List UInt8) (a8 : Option Addr) (n8 c8 : Nat) (a9 : Option Addr) (n9 c9 : Nat) (e1 e2 e3 e4 : Bool) (hM : MaxL W) (hF : (findT nm).2 ≠ []) (hF9 : (findT nm).2.length < 4294967281)
    (h46 : ∀ X a n, Below W.heap.size W X → Ss X (.slice a n n) (partsF (findT nm).2) → n = (partsF (findT nm).2).length → Calls Tryz.prog 46 #[.slice a8 n8 c8, .slice a n n, .func (.func 47) #[] #[]] X fun e w' => e = .returned (.bool e1) ∧ Below X.heap.size X w')
    (h48 : e1 = true → ∀ X, Below W.heap.size W X → Calls Tryz.prog 48 #[.slice a8 n8 c8, .func (.func 49) #[] #[]] X fun e w' => e = .returned (.bool e2) ∧ Below X.heap.size X w')
    (h50 : e1 = true → e2 = false → ∀ X a n, Below W.heap.size W X → Ss X (.slice a n n) (partsF (findT nm).2) → n = (partsF (findT nm).2).length → Calls Tryz.prog 50 #[.slice a8 n8 c8, .slice a n n, .slice a9 n9 c9] X fun e w' => e = .returned (.bool e3) ∧ Below X.heap.size X w')
    (h51 : e1 = true → e2 = false → e3 = true → ∀ X, Below W.heap.size W X → Calls Tryz.prog 51 #[.agg #[.string ⟨nm.toArray⟩, .slice a8 n8 c8]] X fun e w' => e = .returned (.bool e4) ∧ Below X.heap.size X w') :
    Calls Tryz.prog 18 #[.agg #[.string ⟨nm.toArray⟩, .slice a8 n8 c8], .slice a9 n9 c9] W fun e w' => e = .returned (.int .i64 (rightV e1 e2 e3 e4)) ∧ Below W.heap.size W w' := by
  obtain ⟨fo, hfo⟩ : ∃ x, (findT nm).2 = x := ⟨_, rfl⟩
  have hbA : Below W.heap.size W (W.alloc (Obj.cells #[.string ⟨nm.toArray⟩, .slice a8 n8 c8] 32)) := (Below.refl _ W).alloc (Nat.le_refl _) _
  have HBA : Hid _ := hbA
  have kF := form_any nm _ (hM.below hbA hM.1)
  rw [hfo] at h46 h50 hF hF9 kF
  have kS := fun X (hX : Below W.heap.size W X) => split45 fo X (hM.below hX hM.1) hF9
  have H46 : Hid _ := h46
  have H48 : Hid _ := h48
  have H50 : Hid _ := h50
  have H51 : Hid _ := h51
  have hne : fo.isEmpty = false := by cases fo with | nil => exact absurd rfl hF | cons _ _ => rfl
  have KS : Hid _ := kS
  have hnew := Blk.new W #[.string ⟨nm.toArray⟩, .slice a8 n8 c8] 32
  have HNEW : Hid _ := hnew
  clear hM h46 h48 h50 h51 hfo hbA hF hF9 kS hnew
  go_enter Tryz.func18, Tryz.ntmps18
  go_wp2_with fail
  refine kF.mono ?_
  clear kF
  rintro e w1 ⟨rfl, hb1⟩
  have HB1 : Hid (Below W.heap.size W w1) := HBA.out.trans (hb1.mono (by simp))
  have HN1 := HNEW.out.below hb1
  have HN1' : Hid _ := HN1
  clear hb1 HN1
  go_wp2_with fail
  refine (KS.out w1 HB1.out).mono ?_
  rintro e w2 ⟨b, rfl, hss, hb2⟩
  have HB2 : Hid (Below W.heap.size W w2) := HB1.out.trans (hb2.mono HB1.out.size)
  have HN2 : Hid _ := HN1'.out.below hb2
  have x1 : w2.cell? ⟨W.heap.size, 1, none⟩ = some (.slice a8 n8 c8) := HN2.out.cell 1
  obtain ⟨np, hnp⟩ : ∃ x, (partsF fo).length = x := ⟨_, rfl⟩
  rw [hnp] at hss ⊢
  have HS2 : Hid (Ss w2 (.slice (some ⟨b, 0, none⟩) np np) (partsF fo)) := hss
  have HNP : Hid (np = (partsF fo).length) := hnp.symm
  clear hb2 hss hnp KS HB1 HNEW HN1'
  go_wp2_with fail
  refine (H46.out w2 _ np HB2.out HS2.out HNP.out).mono ?_
  rintro e w3 ⟨rfl, hb3⟩
  have HB3 : Hid (Below W.heap.size W w3) := HB2.out.trans (hb3.mono HB2.out.size)
  have HN3 : Hid _ := HN2.out.below hb3
  have HS3 : Hid (Ss w3 (.slice (some ⟨b, 0, none⟩) np np) (partsF fo)) := Ss.below HS2.out hb3
  have x1 : w3.cell? ⟨W.heap.size, 1, none⟩ = some (.slice a8 n8 c8) := HN3.out.cell 1
  clear hb3 HN2 HS2 HB2
  cases e1 with
  | false =>
    go_wp2
    go_ret
    exact ⟨rfl, HB3.out⟩
  | true =>
    go_wp2_with fail
    refine (H48.out (by simp) w3 HB3.out).mono ?_
    rintro e w4 ⟨rfl, hb4⟩
    have HB4 : Hid (Below W.heap.size W w4) := HB3.out.trans (hb4.mono HB3.out.size)
    have HN4 : Hid _ := HN3.out.below hb4
    have HS4 : Hid (Ss w4 (.slice (some ⟨b, 0, none⟩) np np) (partsF fo)) := Ss.below HS3.out hb4
    have x1 : w4.cell? ⟨W.heap.size, 1, none⟩ = some (.slice a8 n8 c8) := HN4.out.cell 1
    clear hb4 HN3 HS3 HB3
    cases e2 with
    | true =>
      go_wp2
      go_ret
      exact ⟨rfl, HB4.out⟩
    | false =>
      go_wp2_with fail
      refine (H50.out (by simp) (by simp) w4 _ np HB4.out HS4.out HNP.out).mono ?_
      rintro e w5 ⟨rfl, hb5⟩
      have HB5 : Hid (Below W.heap.size W w5) := HB4.out.trans (hb5.mono HB4.out.size)
      have HN5 : Hid _ := HN4.out.below hb5
      have x0 : w5.cell? ⟨W.heap.size, 0, none⟩ = some (.string ⟨nm.toArray⟩) := HN5.out.cell 0
      have x1 : w5.cell? ⟨W.heap.size, 1, none⟩ = some (.slice a8 n8 c8) := HN5.out.cell 1
      clear hb5 HN4 HS4 HB4
      cases e3 with
      | false =>
        go_wp2
        go_ret
        exact ⟨by cases e4 <;> rfl, HB5.out⟩
      | true =>
        go_wp2_with fail
        refine (H51.out (by simp) (by simp) (by simp) w5 HB5.out).mono ?_
        rintro e w6 ⟨rfl, hb6⟩
        have HB6 : Hid (Below W.heap.size W w6) := HB5.out.trans (hb6.mono HB5.out.size)
        clear hb6
        cases e4 <;>
        · go_wp2
          go_ret
          exact ⟨rfl, HB6.out⟩
end Go.Proofs.YtaeobgajhieajaaGreatDoor
