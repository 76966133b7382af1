/-
  What is proved here: the reference tells whether numbers, values and terms are alike.
-/
import Derived.Test.YtdnhhmnllhlbbaaGreatDoorCDg
import Derived.Test.YtdnhhmnllhlbbaaGreatDoorCDr
namespace Go.Proofs.YtdnhhmnllhlbbaaGreatDoor
open Go.RowKit Go.Shelf
set_option linter.unusedVariables false
set_option linter.unusedSimpArgs false

theorem Si.at {B : Nat} {W : World} {a : Option Addr} {n c : Nat} {l : List Int} (h : Si B W (.slice a n c) l) {i : Nat} {x : Int} (hx : l[i]? = some x) : ∃ b off, a = some ⟨b, off, none⟩ ∧ b < W.heap.size ∧ W.cell? ⟨b, off + i, none⟩ = some (.int .i64 x) := by
  obtain ⟨a0, c0, e, h⟩ := h
  injection e with ea en ec
  subst ea
  have hi : i < l.length := (List.getElem?_eq_some_iff.1 hx).1
  obtain ⟨b, off, e1, e0, e2, e3⟩ := h (by omega)
  exact ⟨b, off, e1, e2, e3 i x hx⟩
theorem take_eq_succ {α : Type} {l1 l2 : List α} {k : Nat} {x y : α} (hx : l1[k]? = some x) (hy : l2[k]? = some y) (h : l1.take k = l2.take k) : l1.take (k + 1) = l2.take (k + 1) ↔ x = y := by
  obtain ⟨hi, rfl⟩ := List.getElem?_eq_some_iff.1 hx
  obtain ⟨hj, rfl⟩ := List.getElem?_eq_some_iff.1 hy
  rw [List.take_succ_eq_append_getElem hi, List.take_succ_eq_append_getElem hj, h]
  exact ⟨fun e => by have := List.append_cancel_left e; injection this, fun e => by rw [e]⟩
theorem take_eq_all {α : Type} {l1 l2 : List α} {n : Nat} (h1 : l1.length = n) (h2 : l2.length = n) (h : l1.take n = l2.take n) : l1 = l2 := by
  rwa [List.take_of_length_le (by omega), List.take_of_length_le (by omega)] at h

set_option maxRecDepth 100000 in
set_option maxHeartbeats 4000000 in
theorem same61 {B1 B2 : Nat} {W : World} {s1 s2 : Value} {l1 l2 : List Int} (h1 : Si B1 W s1 l1) (h2 : Si B2 W s2 l2) (hz1 : l1.length ≤ 17592186043904) (hz2 : l2.length ≤ 17592186043904) :
    Calls Tryz.prog 58 #[s1, s2] W fun e w' => e = .returned (.bool (decide (l1 = l2))) ∧ Below W.heap.size W w' := by
  obtain ⟨a1, c1, rfl, h1'⟩ := h1
  obtain ⟨a2, c2, rfl, h2'⟩ := h2
  have H1 : Hid (Si B1 W (.slice a1 l1.length c1) l1) := ⟨_, _, rfl, h1'⟩
  have H2 : Hid (Si B2 W (.slice a2 l2.length c2) l2) := ⟨_, _, rfl, h2'⟩
  clear h1' h2'
  obtain ⟨n1, hn1⟩ : ∃ n, l1.length = n := ⟨_, rfl⟩
  obtain ⟨n2, hn2⟩ : ∃ n, l2.length = n := ⟨_, rfl⟩
  rw [hn1] at hz1 H1 ⊢
  rw [hn2] at hz2 H2 ⊢
  have HN : Hid (l1.length = n1 ∧ l2.length = n2) := ⟨hn1, hn2⟩
  clear hn1 hn2
  by_cases hne : n1 = n2
  · subst hne
    go_enter Tryz.func58, Tryz.ntmps58
    go_wp2
    go_loopw [5] (fun i wr => ∃ k : Nat, k ≤ n1 ∧ i = .int .i64 (k : Int) ∧ Hid (l1.take k = l2.take k) ∧ Hid (Below W.heap.size W wr)) (fun i _ => n1 - (intOf i).toNat)
    case atStart => exact ⟨0, Nat.zero_le _, rfl, by simp [Hid], Below.refl _ _⟩
    case round =>
      obtain ⟨k, hk, rfl, HQ, HB⟩ := hrel
      by_cases hlt : k < n1
      · have hlt' : (k : Int) < n1 := by omega
        obtain ⟨x, hx⟩ : ∃ x, l1[k]? = some x := ⟨_, List.getElem?_eq_getElem (by rw [HN.out.1]; exact hlt)⟩
        obtain ⟨y, hy⟩ : ∃ x, l2[k]? = some x := ⟨_, List.getElem?_eq_getElem (by rw [HN.out.2]; exact hlt)⟩
        obtain ⟨b1, o1, rfl, hb1, d1⟩ := H1.out.at hx
        obtain ⟨b2, o2, rfl, hb2, d2⟩ := H2.out.at hy
        have y1 := (HB.out.cell (p := ⟨b1, o1 + k, none⟩) hb1).trans d1
        have y2 := (HB.out.cell (p := ⟨b2, o2 + k, none⟩) hb2).trans d2
        have HS : Hid (l1.take (k + 1) = l2.take (k + 1) ↔ x = y) := take_eq_succ hx hy HQ.out
        clear d1 d2 hx hy
        have hw2 : IntKind.i64.wrap ((k : Int) + 1) = (k : Int) + 1 := by rw [IntKind.wrap_i64]; omega
        by_cases hxy : x = y
        · have HT : Hid _ := HS.out.2 hxy
          subst hxy
          go_wp2
          go_quiet (fail)
          go_wp2
          go_roundw
          case rel => exact ⟨k + 1, by omega, by go_num, HT, below_drewN HB.out _⟩
          case measure => simp [intOf]; omega
        · have HF : Hid (l1 ≠ l2) := fun e => hxy (HS.out.1 (by rw [e]))
          have hd : (x != y) = true := by simpa using hxy
          have hd2 : (x == y) = false := by simpa using hxy
          go_wp2
          go_quiet (fail)
          go_wp2
          go_ret
          exact ⟨by simp [HF.out], below_drewN HB.out _⟩
      · have hlt' : ¬ (k : Int) < n1 := by omega
        obtain rfl : k = n1 := by omega
        have HT : Hid (l1 = l2) := take_eq_all HN.out.1 HN.out.2 HQ.out
        go_wp2
        go_ret
        exact ⟨by simp [HT.out], HB.out⟩
  · have HF : Hid (l1 ≠ l2) := fun e => hne (by rw [← HN.out.1, ← HN.out.2, e])
    have hd : ((n1 : Int) != n2) = true := by simp; omega
    have hd2 : ((n1 : Int) == n2) = false := by simp; omega
    go_enter Tryz.func58, Tryz.ntmps58
    go_wp2
    go_ret
    exact ⟨by simp [HF.out], Below.refl _ _⟩

end Go.Proofs.YtdnhhmnllhlbbaaGreatDoor

