/-
  What is proved here: the reference's Has of any ranges.
-/
import Derived.Test.YtkloadlodofipaaGreatDoorYh
import Derived.Test.YtkloadlodofipaaGreatDoorVa
namespace Go.Proofs.YtkloadlodofipaaGreatDoor
open Go.RowKit Go.Shelf

/-- Is v in one of the ranges? -/
def hasR (l : List Rg) (v : Int) : Bool := l.any fun r => decide (r.1 ≤ v ∧ v ≤ r.2)
theorem hasR_take (l : List Rg) (v : Int) (k : Nat) (hk : k < l.length) : hasR (l.take (k + 1)) v = (hasR (l.take k) v || decide (lo l k ≤ v ∧ v ≤ hi l k)) := by
  unfold hasR
  rw [List.take_add_one, List.getElem?_eq_getElem hk, List.any_append, lo_get l k hk, hi_get l k hk]
  simp
theorem hasR_of (l : List Rg) (v : Int) (k : Nat) (hk : k < l.length) (h : lo l k ≤ v ∧ v ≤ hi l k) : hasR l v = true := by
  unfold hasR
  rw [List.any_eq_true]
  refine ⟨l[k], List.getElem_mem hk, ?_⟩
  rw [lo_get l k hk, hi_get l k hk] at h
  simpa using h

set_option maxHeartbeats 2000000 in
theorem refhas_yes (s : Value) (l : List Rg) (v : Int) (w : World) (h : Sr w s l) (hR : Right l) :
    Calls Tryz.prog 30 #[s, .int .i64 v] w fun e w' => e = .returned (.bool (hasR l v)) ∧ ∃ n, w' = w.drewN n := by
  have hc := taken_yes s l w h hR
  have hlen := hR.1
  obtain ⟨a, cap, rfl, hcell⟩ := h
  obtain ⟨n, hn⟩ : ∃ n, l.length = n := ⟨_, rfl⟩
  have HN : Hid (l.length = n) := hn
  have HC : Hid _ := hcell
  rw [hn] at hc hlen ⊢
  clear hn hcell hR
  go_enter Tryz.func30, Tryz.ntmps30
  go_wp2_with (go_at_call 63; refine hc.mono ?_; rintro e w1 ⟨rfl, n1, rfl⟩)

  go_loopw [5] (fun i wr => ∃ (k m : Nat), k ≤ n ∧ i = .int .i64 k ∧ hasR (l.take k) v = false ∧ wr = w.drewN m) (fun i _ => n - (intOf i).toNat)
  case atStart => exact ⟨0, n1, by omega, rfl, by simp [hasR], rfl⟩
  case round =>
    obtain ⟨k, m, hk, rfl, hno, rfl⟩ := hrel
    by_cases hlt : k < n
    · have hkl : k < l.length := by rw [HN.out]; exact hlt
      obtain ⟨b, off, rfl, hb, hcells⟩ := HC.out (by omega)
      obtain ⟨c1, c2⟩ := hcells k hkl
      have d1 : (w.drewN m).cell? ⟨b, off + k * 2, none⟩ = _ := c1
      have d2 : (w.drewN m).cell? ⟨b, off + k * 2 + 1, none⟩ = _ := c2
      have ht := hasR_take l v k hkl
      have hof := hasR_of l v k hkl
      obtain ⟨x, hx⟩ : ∃ x, lo l k = x := ⟨_, rfl⟩
      obtain ⟨y, hy⟩ : ∃ y, hi l k = y := ⟨_, rfl⟩
      rw [hx, hy] at ht hof
      rw [hx] at d1; rw [hy] at d2
      rw [hno, Bool.false_or] at ht
      have hlt' : (k : Int) < (n : Int) := by omega
      have HT : Hid _ := ht
      have HOF : Hid _ := hof
      clear c1 c2 hcells hx hy ht hof hno
      by_cases h1 : x ≤ v
      · by_cases h2 : v ≤ y
        · go_wp2
          go_ret
          exact ⟨ret_bool (HOF.out ⟨h1, h2⟩).symm, _, rfl⟩
        · go_wp2
          go_roundw
          case rel => exact ⟨k + 1, _, by omega, by go_num, by rw [HT.out]; exact decide_eq_false (by omega), rfl⟩
          case measure => simp [intOf]; omega
      · go_wp2
        go_roundw
        case rel => exact ⟨k + 1, _, by omega, by go_num, by rw [HT.out]; exact decide_eq_false (by omega), rfl⟩
        case measure => simp [intOf]; omega
    · have hkn : k = n := by omega
      subst hkn
      rw [List.take_of_length_le (by rw [HN.out]; exact Nat.le_refl _)] at hno
      go_wp2
      go_ret
      exact ⟨ret_bool hno.symm, _, rfl⟩
end Go.Proofs.YtkloadlodofipaaGreatDoor
