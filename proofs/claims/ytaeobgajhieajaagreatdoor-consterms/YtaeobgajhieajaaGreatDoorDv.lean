/-
  What is proved here: Right, where what it calls is known.
-/
import Derived.Test.YtaeobgajhieajaaGreatDoorDu
import Derived.Test.YtaeobgajhieajaaGreatDoorCf
namespace Go.Proofs.YtaeobgajhieajaaGreatDoor
open Go.RowKit Go.Shelf
set_option linter.unusedVariables false
set_option linter.unusedSimpArgs false

def partsF (s : List UInt8) : List (List UInt8) := (Lib.splitB ⟨#[44]⟩ 0 (Lib.countB ⟨s.toArray⟩ ⟨#[44]⟩) ⟨s.toArray⟩).map fun b => b.data.toList
theorem split45 (s : List UInt8) (w : World) (hM : MaxL w) (hs : s.length < 4294967281) :
    Calls Tryz.prog 45 #[.string ⟨s.toArray⟩, .string ⟨#[44]⟩] w fun e w' => ∃ b, e = .returned (.slice (some ⟨b, 0, none⟩) (partsF s).length (partsF s).length) ∧ Ss w' (.slice (some ⟨b, 0, none⟩) (partsF s).length (partsF s).length) (partsF s) ∧ Below w.heap.size w w' := by
  obtain ⟨_, m, hm⟩ := hM
  have hsz : (ByteArray.mk s.toArray).size = s.length := by simp [ByteArray.size]
  have hl : (partsF s).length = Lib.countB ⟨s.toArray⟩ ⟨#[44]⟩ + 1 := by rw [partsF, List.length_map]; exact Lib.splitB_all ⟨#[44]⟩ (Nat.le_refl 1) 0 _ ⟨s.toArray⟩ rfl
  refine (Any.strings_Split Tryz.laysSplit45 (by kernel_rfl) ⟨s.toArray⟩ ⟨#[44]⟩ m w (by omega) hm (Nat.le_refl 1)).mono fun e w' ⟨he, hw⟩ => ?_
  subst hw
  refine ⟨w.heap.size, by rw [he, hl], ⟨_, _, rfl, fun _ => ⟨w.heap.size, rfl, by simp, fun i x hx => ?_⟩⟩, (Below.refl _ w).alloc (Nat.le_refl _) _⟩
  rw [cell_row (World.alloc_heap_new w _)]
  rw [partsF, List.getElem?_map] at hx
  simp only [List.getElem?_toArray, List.getElem?_map]
  cases h : (Lib.splitB ⟨#[44]⟩ 0 (Lib.countB ⟨s.toArray⟩ ⟨#[44]⟩) ⟨s.toArray⟩)[i]? with
  | none => rw [h] at hx; cases hx
  | some b => rw [h] at hx; cases hx; rfl
/-- What Right answers. -/
def rightV (e1 e2 e3 e4 : Bool) : Int := if e1 then (if e2 then 3 else if e3 && e4 then 0 else 50) else 50

set_option maxRecDepth 100000 in
set_option maxHeartbeats 4000000 in
theorem right_walk {W : World} (nm : List UInt8) (a8 : Option Addr) (n8 c8 : Nat) (a9 : Option Addr) (n9 c9 : Nat) (e1 e2 e3 e4 : Bool) (hM : MaxL W) (hF : (findT nm).2 ≠ []) (hF9 : (findT nm).2.length < 4294967281)
    (h46 : ∀ X a n, Below W.heap.size W X → Ss X (.slice a n n) (partsF (findT nm).2) → n = (partsF (findT nm).2).length → Calls Tryz.prog 46 #[.slice a8 n8 c8, .slice a n n, .func (.func 47) #[] #[]] X fun e w' => e = .returned (.bool e1) ∧ Below X.heap.size X w')
    (h48 : e1 = true → ∀ X, Below W.heap.size W X → Calls Tryz.prog 48 #[.slice a8 n8 c8, .func (.func 49) #[] #[]] X fun e w' => e = .returned (.bool e2) ∧ Below X.heap.size X w')
    (h50 : e1 = true → e2 = false → ∀ X a n, Below W.heap.size W X → Ss X (.slice a n n) (partsF (findT nm).2) → n = (partsF (findT nm).2).length → Calls Tryz.prog 50 #[.slice a8 n8 c8, .slice a n n, .slice a9 n9 c9] X fun e w' => e = .returned (.bool e3) ∧ Below X.heap.size X w')
    (h51 : e1 = true → e2 = false → e3 = true → ∀ X, Below W.heap.size W X → Calls Tryz.prog 51 #[.agg #[.string ⟨nm.toArray⟩, .slice a8 n8 c8]] X fun e w' => e = .returned (.bool e4) ∧ Below X.heap.size X w') :
    Calls Tryz.prog 18 #[.agg #[.string ⟨nm.toArray⟩, .slice a8 n8 c8], .slice a9 n9 c9] W fun e w' => e = .returned (.int .i64 (rightV e1 e2 e3 e4)) ∧ Below W.heap.size W w' := by
  obtain ⟨fo, hfo⟩ : ∃ x, (findT nm).2 = x := ⟨_, rfl⟩
  have hbA : Below W.heap.size W (W.alloc (Obj.cells #[.string ⟨nm.toArray⟩, .slice a8 n8 c8] 32)) := (Below.refl _ W).alloc (Nat.le_refl _) _
  have HBA : Hid _ := hbA
  have kF := form_any nm _ (hM.below hbA hM.1)
  rw [hfo] at h46 h50 hF hF9 kF
  have kS := fun X (hX : Below W.heap.size W X) => split45 fo X (hM.below hX hM.1) hF9
  have H46 : Hid _ := h46
  have H48 : Hid _ := h48
  have H50 : Hid _ := h50
  have H51 : Hid _ := h51
  have hne : fo.isEmpty = false := by cases fo with | nil => exact absurd rfl hF | cons _ _ => rfl
  have KS : Hid _ := kS
  have hnew := Blk.new W #[.string ⟨nm.toArray⟩, .slice a8 n8 c8] 32
  have HNEW : Hid _ := hnew
  clear hM h46 h48 h50 h51 hfo hbA hF hF9 kS hnew
  go_enter Tryz.func18, Tryz.ntmps18
  go_wp2_with fail
  refine kF.mono ?_
  clear kF
  rintro e w1 ⟨rfl, hb1⟩
  have HB1 : Hid (Below W.heap.size W w1) := HBA.out.trans (hb1.mono (by simp))
  have HN1 := HNEW.out.below hb1
  have HN1' : Hid _ := HN1
  clear hb1 HN1
  go_wp2_with fail
  refine (KS.out w1 HB1.out).mono ?_
  rintro e w2 ⟨b, rfl, hss, hb2⟩
  have HB2 : Hid (Below W.heap.size W w2) := HB1.out.trans (hb2.mono HB1.out.size)
  have HN2 : Hid _ := HN1'.out.below hb2
  have x1 : w2.cell? ⟨W.heap.size, 1, none⟩ = some (.slice a8 n8 c8) := HN2.out.cell 1
  obtain ⟨np, hnp⟩ : ∃ x, (partsF fo).length = x := ⟨_, rfl⟩
  rw [hnp] at hss ⊢
  have HS2 : Hid (Ss w2 (.slice (some ⟨b, 0, none⟩) np np) (partsF fo)) := hss
  have HNP : Hid (np = (partsF fo).length) := hnp.symm
  clear hb2 hss hnp KS HB1 HNEW HN1'
  go_wp2_with fail
  refine (H46.out w2 _ np HB2.out HS2.out HNP.out).mono ?_
  rintro e w3 ⟨rfl, hb3⟩
  have HB3 : Hid (Below W.heap.size W w3) := HB2.out.trans (hb3.mono HB2.out.size)
  have HN3 : Hid _ := HN2.out.below hb3
  have HS3 : Hid (Ss w3 (.slice (some ⟨b, 0, none⟩) np np) (partsF fo)) := Ss.below HS2.out hb3
  have x1 : w3.cell? ⟨W.heap.size, 1, none⟩ = some (.slice a8 n8 c8) := HN3.out.cell 1
  clear hb3 HN2 HS2 HB2
  cases e1 with
  | false =>
    go_wp2
    go_ret
    exact ⟨rfl, HB3.out⟩
  | true =>
    go_wp2_with fail
    refine (H48.out (by simp) w3 HB3.out).mono ?_
    rintro e w4 ⟨rfl, hb4⟩
    have HB4 : Hid (Below W.heap.size W w4) := HB3.out.trans (hb4.mono HB3.out.size)
    have HN4 : Hid _ := HN3.out.below hb4
    have HS4 : Hid (Ss w4 (.slice (some ⟨b, 0, none⟩) np np) (partsF fo)) := Ss.below HS3.out hb4
    have x1 : w4.cell? ⟨W.heap.size, 1, none⟩ = some (.slice a8 n8 c8) := HN4.out.cell 1
    clear hb4 HN3 HS3 HB3
    cases e2 with
    | true =>
      go_wp2
      go_ret
      exact ⟨rfl, HB4.out⟩
    | false =>
      go_wp2_with fail
      refine (H50.out (by simp) (by simp) w4 _ np HB4.out HS4.out HNP.out).mono ?_
      rintro e w5 ⟨rfl, hb5⟩
      have HB5 : Hid (Below W.heap.size W w5) := HB4.out.trans (hb5.mono HB4.out.size)
      have HN5 : Hid _ := HN4.out.below hb5
      have x0 : w5.cell? ⟨W.heap.size, 0, none⟩ = some (.string ⟨nm.toArray⟩) := HN5.out.cell 0
      have x1 : w5.cell? ⟨W.heap.size, 1, none⟩ = some (.slice a8 n8 c8) := HN5.out.cell 1
      clear hb5 HN4 HS4 HB4
      cases e3 with
      | false =>
        go_wp2
        go_ret
        exact ⟨by cases e4 <;> rfl, HB5.out⟩
      | true =>
        go_wp2_with fail
        refine (H51.out (by simp) (by simp) (by simp) w5 HB5.out).mono ?_
        rintro e w6 ⟨rfl, hb6⟩
        have HB6 : Hid (Below W.heap.size W w6) := HB5.out.trans (hb6.mono HB5.out.size)
        clear hb6
        cases e4 <;>
        · go_wp2
          go_ret
          exact ⟨rfl, HB6.out⟩
end Go.Proofs.YtaeobgajhieajaaGreatDoor
