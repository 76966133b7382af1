/-
  What is proved here: Value of package out; what a reading refuses.
-/
import Derived.Test.YtdnhhmnllhlbbaaGreatDoorOr
namespace Go.Proofs.YtdnhhmnllhlbbaaGreatDoor
open Go.RowKit Go.Shelf
set_option linter.unusedVariables false
set_option linter.unusedSimpArgs false

theorem si_nm {w : World} {s : Value} {l : List Int} (h : Si 0 w s l) : Nm (fun _ => False) w s l := by
  obtain ⟨a, c, e, h⟩ := h
  exact ⟨a, c, e, fun h0 => by obtain ⟨b, off, e1, _, e2, e3⟩ := h h0; exact ⟨b, off, e1, e2, id, e3⟩⟩
/-- A row of one value that is laid. -/
theorem SvX.one {w : World} {v : Vl} {sv : Value} (h : Si 0 w sv v.s) : SvX (fun _ => False) (w.alloc (Obj.cells #[.bool v.set, .int .i64 v.n, sv] 36)) (.slice (some ⟨w.heap.size, 0, none⟩) 1 1) [v] := by
  have hb : Blk (w.alloc (Obj.cells #[.bool v.set, .int .i64 v.n, sv] 36)) w.heap.size #[.bool v.set, .int .i64 v.n, sv] 36 := Blk.new _ _ _
  refine ⟨_, _, rfl, fun _ => ⟨_, _, rfl, hb.lt, id, fun i v' hv => ?_⟩⟩
  have hi : i = 0 := by have := (List.getElem?_eq_some_iff.1 hv).1; simp at this; exact this
  subst hi
  simp at hv
  subst hv
  exact ⟨sv, si_nm (h.below ((Below.refl _ _).alloc (Nat.le_refl _) _)), hb.cell 0, hb.cell 1, hb.cell 2⟩
/-- What a reading refuses. -/
def refT (s : List UInt8) (l : List Ou) : Int := if RightN l ≠ 0 then RightN l else if 1048576 < s.length then 3 else 0

set_option maxRecDepth 100000 in
set_option maxHeartbeats 4000000 in
theorem refused45 {W : World} {os : Value} {l : List Ou} (s : List UInt8) (h : Sou W os l) (hn : l.length ≤ 1000000000) (hz : ∀ o ∈ l, OuZ o) (hs : s.length ≤ 140737488355328) :
    Calls Tryz.prog 45 #[.string (bs s), os] W fun e w' => e = .returned (.int .i64 (refT s l)) ∧ Below W.heap.size W w' := by
  have kr := right13 h hn hz
  obtain ⟨a, c, rfl, _⟩ := h
  obtain ⟨n, hnn⟩ : ∃ n, l.length = n := ⟨_, rfl⟩
  obtain ⟨r, hr⟩ : ∃ r, RightN l = r := ⟨_, rfl⟩
  have HR : Hid (RightN l = r) := hr
  obtain ⟨m, hm⟩ : ∃ m, s.length = m := ⟨_, rfl⟩
  have HM : Hid (s.length = m) := hm
  have hbs : (bs s).size = m := by rw [bs_size, hm]
  rw [hnn, hr] at kr
  rw [hnn]
  rw [hm] at hs
  clear hnn hr hm
  by_cases h0 : r = 0
  · have HE : Hid (refT s l = if 1048576 < m then 3 else 0) := by unfold Hid refT; rw [HR.out, HM.out, if_neg (by simpa using h0)]
    subst h0
    by_cases h1 : 1048576 < m
    · have h1' : (1048576 : Int) < (m : Int) := by omega
      rw [if_pos h1] at HE
      go_enter Tryz.func45, Tryz.ntmps45
      go_wp2_with fail
      refine kr.mono ?_
      rintro e w1 ⟨rfl, hb1⟩
      clear kr
      go_wp2
      go_ret
      exact ⟨by rw [HE.out]; rfl, hb1⟩
    · have h1' : ¬ (1048576 : Int) < (m : Int) := by omega
      rw [if_neg h1] at HE
      go_enter Tryz.func45, Tryz.ntmps45
      go_wp2_with fail
      refine kr.mono ?_
      rintro e w1 ⟨rfl, hb1⟩
      clear kr
      go_wp2
      go_ret
      exact ⟨by rw [HE.out]; rfl, hb1⟩
  · have HE : Hid (refT s l = r) := by unfold Hid refT; rw [HR.out, if_pos h0]
    have h0' : (r == 0) = false := by simpa using h0
    go_enter Tryz.func45, Tryz.ntmps45
    go_wp2_with fail
    refine kr.mono ?_
    rintro e w1 ⟨rfl, hb1⟩
    clear kr
    go_wp2
    go_ret
    exact ⟨by rw [HE.out]; rfl, hb1⟩
end Go.Proofs.YtdnhhmnllhlbbaaGreatDoor
