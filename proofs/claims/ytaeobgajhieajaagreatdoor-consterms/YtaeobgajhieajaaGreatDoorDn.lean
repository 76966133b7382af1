/-
  What is proved here: slices.EqualFunc of arguments and parts.
-/
import Derived.Test.YtaeobgajhieajaaGreatDoorDm
namespace Go.Proofs.YtaeobgajhieajaaGreatDoor
open Go.RowKit Go.Shelf
set_option linter.unusedVariables false
set_option linter.unusedSimpArgs false
def eqF (ags : List Ag) (parts : List (List UInt8)) (n : Nat) : Bool := (List.range n).all fun k => match ags[k]?, parts[k]? with | some g, some p => shapedB g p | _, _ => true
theorem eqF_succ {ags : List Ag} {parts : List (List UInt8)} {k : Nat} {g : Ag} {p : List UInt8} (h1 : ags[k]? = some g) (h2 : parts[k]? = some p) : eqF ags parts (k + 1) = (eqF ags parts k && shapedB g p) := by
  simp [eqF, List.range_succ, h1, h2]
theorem eqF_false {ags : List Ag} {parts : List (List UInt8)} {k n : Nat} (hk : k ≤ n) (h : eqF ags parts k = false) : eqF ags parts n = false := by
  simp only [eqF, List.all_eq_false] at h ⊢
  obtain ⟨x, hx, h⟩ := h
  exact ⟨x, by simp at hx ⊢; omega, h⟩
theorem Ss.at {w : World} {a : Option Addr} {n c : Nat} {L : List (List UInt8)} (h : Ss w (.slice a n c) L) {i : Nat} {x : List UInt8} (hx : L[i]? = some x) : ∃ b, a = some ⟨b, 0, none⟩ ∧ b < w.heap.size ∧ w.cell? ⟨b, i, none⟩ = some (.string ⟨x.toArray⟩) := by
  obtain ⟨a0, c0, e, h⟩ := h
  injection e with ea en ec
  subst ea
  obtain ⟨b, e1, e2, e3⟩ := h (by have := (List.getElem?_eq_some_iff.1 hx).1; omega)
  exact ⟨b, e1, e2, e3 i x hx⟩

set_option maxRecDepth 100000 in
set_option maxHeartbeats 4000000 in
theorem equalF {B0 : Nat} {W : World} {s : Value} {ags : List Ag} {a9 : Option Addr} {c9 : Nat} {parts : List (List UInt8)} (h : Sa B0 W s ags) (hp : Ss W (.slice a9 parts.length c9) parts) (hlen : ags.length = parts.length) (hn : ags.length ≤ 1000000000000) (hl : ∀ g ∈ ags, g.l.length ≤ 1000000000000) :
    Calls Tryz.prog 46 #[s, .slice a9 parts.length c9, .func (.func 47) #[] #[]] W fun e w' => e = .returned (.bool (eqF ags parts ags.length)) ∧ Below W.heap.size W w' := by
  obtain ⟨a8, c8, rfl, h⟩ := h
  obtain ⟨n, hn0⟩ : ∃ n, ags.length = n := ⟨_, rfl⟩
  have HA : Hid (Sa B0 W (.slice a8 n c8) ags) := ⟨a8, c8, by rw [hn0], h⟩
  have hpn : parts.length = n := by omega
  rw [hpn] at hp ⊢
  rw [hn0] at hn ⊢
  have HP : Hid (Ss W (.slice a9 n c9) parts) := hp
  have HN : Hid (ags.length = n ∧ parts.length = n) := ⟨hn0, hpn⟩
  have HL : Hid (∀ g ∈ ags, g.l.length ≤ 1000000000000) := hl
  clear h hn0 hpn hp hl hlen
  go_enter Tryz.func46, Tryz.ntmps46
  go_wp2
  go_loopw [17] (fun i wr => ∃ k : Nat, k ≤ n ∧ i = .int .i64 (k : Int) ∧ Hid (eqF ags parts k = true) ∧ Hid (Below W.heap.size W wr)) (fun i _ => n - (intOf i).toNat)
  case atStart => exact ⟨0, Nat.zero_le _, rfl, rfl, Below.refl _ _⟩
  case round =>
    obtain ⟨k, hk, rfl, HQ, HB⟩ := hrel
    by_cases hlt : k < n
    · have hlt' : (k : Int) < n := by omega
      obtain ⟨g, hg⟩ : ∃ g, ags[k]? = some g := ⟨_, List.getElem?_eq_getElem (by rw [HN.out.1]; exact hlt)⟩
      obtain ⟨p, hp⟩ : ∃ p, parts[k]? = some p := ⟨_, List.getElem?_eq_getElem (by rw [HN.out.2]; exact hlt)⟩
      have HSU : Hid (eqF ags parts (k + 1) = (eqF ags parts k && shapedB g p)) := eqF_succ hg hp
      obtain ⟨b, off, a2, c2, rfl, hb, _, d0, d1⟩ := HA.out.at hg
      obtain ⟨b2, rfl, hb2, d2⟩ := HP.out.at hp
      have y0 := (HB.out.cell (p := ⟨b, off + k * 2, none⟩) hb).trans d0
      have y1 := (HB.out.cell (p := ⟨b, off + k * 2 + 1, none⟩) hb).trans d1
      have hgl := HL.out g (List.mem_of_getElem? hg)
      have hbA : Below wr.heap.size wr (wr.alloc (Obj.cells #[.bool g.arr, .slice a2 g.l.length c2] 54)) := (Below.refl _ wr).alloc (Nat.le_refl _) _
      have hBA := HB.out.trans (hbA.mono HB.out.size)
      have y2 := (hBA.cell (p := ⟨b2, k, none⟩) hb2).trans d2
      have HBA : Hid _ := hBA
      have hsh := fun X => shaped_any g a2 c2 p hgl X
      clear d0 d1 d2 hg hp hbA hBA
      have hw2 : IntKind.i64.wrap ((k : Int) + 1) = (k : Int) + 1 := by rw [IntKind.wrap_i64]; omega
      go_wp2_with fail
      refine (hsh _).mono ?_
      rintro e w1 ⟨rfl, hb1⟩
      have HB1 : Hid (Below W.heap.size W w1) := HBA.out.trans (hb1.mono HBA.out.size)
      clear hb1 hsh
      obtain ⟨q, hq⟩ : ∃ q, shapedB g p = q := ⟨_, rfl⟩
      rw [hq] at HSU ⊢
      rw [HQ.out] at HSU
      clear hq
      cases q with
      | true =>
        go_wp2
        go_roundw
        case rel => exact ⟨k + 1, by omega, by go_num, by rw [HSU.out]; rfl, HB1⟩
        case measure => simp [intOf]; omega
      | false =>
        have HF : Hid (eqF ags parts n = false) := eqF_false (k := k + 1) (by omega) (by rw [HSU.out]; rfl)
        go_wp2
        go_ret
        exact ⟨by rw [HF.out]; rfl, HB1.out⟩
    · have hlt' : ¬ (k : Int) < n := by omega
      obtain rfl : k = n := by omega
      go_wp2
      go_ret
      exact ⟨by rw [HQ.out]; rfl, HB.out⟩
end Go.Proofs.YtaeobgajhieajaaGreatDoor
