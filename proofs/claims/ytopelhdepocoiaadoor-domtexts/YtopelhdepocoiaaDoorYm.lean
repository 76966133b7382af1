/-
  What is proved here: what the reference's Alike tells of slices with the same ranges; what its Lent makes.
-/
import Derived.Test.YtopelhdepocoiaaDoorYd
namespace Go.Proofs.YtopelhdepocoiaaDoor
open Go.RowKit Go.Shelf

theorem Sr.drawn {W : World} {s : Value} {l : List Rg} (h : Sr W s l) (n : Nat) : Sr (W.drewN n) s l := h
set_option maxHeartbeats 1000000 in
theorem alikeR_same (s1 s2 : Value) (l : List Rg) (w : World) (h1 : Sr w s1 l) (h2 : Sr w s2 l) (hr : l.length * 16 ≤ 140737488351232) :
    Calls Tryd.prog 8 #[s1, s2] w fun e w' => e = .returned (.bool true) ∧ ∃ nq, w' = w.drewN nq := by
  obtain ⟨a1, c1, rfl, hc1⟩ := h1
  obtain ⟨a2, c2, rfl, hc2⟩ := h2
  obtain ⟨n, hn⟩ : ∃ n, l.length = n := ⟨_, rfl⟩
  rw [hn] at hc1 hc2 hr ⊢
  clear hn
  go_enter Tryd.func8, Tryd.ntmps8
  go_wp2
  go_loopw [5] (fun i wr => ∃ k : Nat, k ≤ n ∧ i = .int .i64 (k : Int) ∧ ∃ nq, wr = w.drewN nq) (fun i _ => n - (intOf i).toNat)
  case atStart => exact ⟨0, Nat.zero_le _, rfl, 0, rfl⟩
  case round =>
    obtain ⟨k, hk, rfl, nq0, rfl⟩ := hrel
    by_cases hlt : k < n
    · obtain ⟨b1, o1, rfl, _, hcell1⟩ := hc1 (by omega)
      obtain ⟨b2, o2, rfl, _, hcell2⟩ := hc2 (by omega)
      obtain ⟨x1, y1⟩ := hcell1 k hlt
      obtain ⟨x2, y2⟩ := hcell2 k hlt
      have kk : (k : Int) < (n : Int) := by omega
      clear hcell1 hcell2 hc1 hc2
      generalize lo l k = x at *
      generalize hi l k = y at *
      go_wp2
      go_quiet (fail)
      go_wp2
      go_roundw
      case rel => exact ⟨k + 1, by omega, by go_num, _, rfl⟩
      case measure => simp [intOf]; omega
    · go_wp2
      go_ret
      exact ⟨rfl, _, rfl⟩
theorem own_capsR {W : World} {base g n cap : Nat} {xs : List Value} (h : W.ownsRow base 34 2 (.slice (some ⟨g, 0, none⟩) n cap) n xs) : n ≤ cap ∧ cap ≤ 9223372036854775807 := by
  rcases h.2 with ⟨h1, _⟩ | ⟨g', cap', cur, e, _, _, hc, hm, _⟩
  · cases h1
  · injection e with _ _ e3; subst e3; unfold maxLen at hm; exact ⟨hc, by omega⟩
end Go.Proofs.YtopelhdepocoiaaDoor

