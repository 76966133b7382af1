/-
  What is proved here: what package lex's Scan and Word answer of any text.
-/
import Derived.Test.YtokcbiafajpmoaaDoorLt
namespace Go.Proofs.YtokcbiafajpmoaaDoor
open Go.RowKit
set_option linter.unusedVariables false
set_option linter.unusedSimpArgs false
/-- What Scan answers. -/
def scanT (b : List UInt8) : List Tok × Int × Nat := if (allT b).2.1 = 0 then ((allT b).1, 0, 0) else ([], (allT b).2.1, (allT b).2.2)

set_option maxRecDepth 100000 in
set_option maxHeartbeats 4000000 in
theorem scan_any (b : List UInt8) (W : World) (hE : ErrV W) :
    Calls Tryd.prog 7 #[.string (bs b)] W fun e w' => ∃ v, e = .returned (.tuple #[v, .int .i64 (scanT b).2.1, .int .i64 ((scanT b).2.2 : Int)]) ∧ w'.ownsRow W.heap.size 23 4 v (scanT b).1.length (flatT (scanT b).1) ∧ Below W.heap.size W w' := by
  have htk := tokens_any b W hE
  have HSC : Hid (scanT b = if (allT b).2.1 = 0 then ((allT b).1, 0, 0) else ([], (allT b).2.1, (allT b).2.2)) := rfl
  obtain ⟨⟨T, x, p⟩, hall⟩ : ∃ y, allT b = y := ⟨_, rfl⟩
  rw [hall] at htk HSC
  by_cases hx : x = 0
  · have hsc : scanT b = (T, 0, 0) := by rw [HSC.out]; exact if_pos hx
    rw [hsc]
    subst hx
    clear hall HSC hsc
    go_enter Tryd.func7, Tryd.ntmps7
    go_wp2_with fail
    refine htk.mono ?_
    rintro e w1 ⟨v, rfl, hown, hb⟩
    go_wp2
    refine bodyPost_ret (v := .tuple #[v, .int .i64 0, .int .i64 0]) (by simp [results, Tryd.results7, go_sem]) rfl ⟨v, rfl, own_below hown ((Below.refl _ w1).alloc (Nat.le_refl _) _), hb.alloc hb.size _⟩
  · have hsc : scanT b = ([], x, p) := by rw [HSC.out]; exact if_neg hx
    rw [hsc]
    have hxn : (x != 0) = true := by simpa using hx
    clear hall HSC hsc
    go_enter Tryd.func7, Tryd.ntmps7
    go_wp2_with fail
    refine htk.mono ?_
    rintro e w1 ⟨v, rfl, hown, hb⟩
    go_upto_region 3 with (fail)
    have hb2 := hb.alloc hb.size (Obj.cells #[.int .i64 x, .int .i64 (p : Int)] 40)
    have hR := Rw.new w1 40 #[.int .i64 x, .int .i64 (p : Int)]
    obtain ⟨w2, hw2⟩ : ∃ X, w1.alloc (Obj.cells #[.int .i64 x, .int .i64 (p : Int)] 40) = X := ⟨_, rfl⟩
    rw [hw2] at hb2 hR ⊢
    have c0 : w2.cell? ⟨w1.heap.size, 0, none⟩ = some (.int .i64 x) := hR.cell 0 _ rfl
    have c1 : w2.cell? ⟨w1.heap.size, 1, none⟩ = some (.int .i64 (p : Int)) := hR.cell 1 _ rfl
    clear hw2 hR hb hown htk
    go_quiet (fail)
    go_wp2
    refine bodyPost_ret (v := .tuple #[.slice none 0 0, .int .i64 x, .int .i64 (p : Int)]) (by simp [results, Tryd.results7, go_sem]) rfl ⟨_, rfl, World.ownsRow_nil _ _ _ _, hb2.os, hb2.tape, hb2.output, hb2.size, hb2.block⟩
/-- Is all of a text one word? -/
def wordB : List UInt8 → Bool
  | [] => false
  | c :: r => letB c && decide (spn wrdB (c :: r) = (c :: r).length)

set_option maxRecDepth 100000 in
set_option maxHeartbeats 4000000 in
theorem word_any (l : List UInt8) (hl : l.length ≤ 140737488355328) (W : World) : Calls Tryd.prog 12 #[.string (bs l)] W fun e w' => e = .returned (.bool (wordB l)) ∧ w' = W := by
  cases l with
  | nil =>
    have h0 := bs_e0
    go_enter Tryd.func12, Tryd.ntmps12
    go_wp2
    go_ret
    exact ⟨rfl, rfl⟩
  | cons c r =>
    obtain ⟨hx0, hx⟩ := bs_get (c :: r) 0 c rfl
    have h0 := bs_ne (c :: r) (by simp)
    have h1 := bs_nee (c :: r) (by simp)
    have hwe : ∀ X, Calls Tryd.prog 21 #[.string (bs (c :: r)), .int .i64 0] X fun e w' => e = .returned (.int .i64 ((0 + spn wrdB (c :: r) : Nat) : Int)) ∧ w' = X := fun X => wordEnd_any (c :: r) 0 (by omega) hl X
    have hsz : (bs (c :: r)).size = (c :: r).length := bs_size _
    have HW : Hid (wordB (c :: r) = (letB c && decide (spn wrdB (c :: r) = (c :: r).length))) := rfl
    obtain ⟨g, hg⟩ : ∃ g, spn wrdB (c :: r) = g := ⟨_, rfl⟩
    obtain ⟨n, hn⟩ : ∃ n, (c :: r).length = n := ⟨_, rfl⟩
    simp only [hg, Nat.zero_add] at hwe
    rw [hg, hn] at HW
    rw [hn] at hsz
    clear hg hn
    cases hl1 : letB c with
    | true =>
      rw [hl1] at HW
      by_cases hgn : g = n
      · have q1 : ((g : Int) == (n : Int)) = true := by simp; omega
        have q2 : (g == n) = true := by simpa using hgn
        have HV : Hid (wordB (c :: r) = true) := by unfold Hid; rw [HW.out]; simpa using hgn
        clear hgn
        go_enter Tryd.func12, Tryd.ntmps12
        go_wp2_with (first | (go_at_call 20; refine (letter_any _ _).mono ?_; rw [hl1]; rintro e w' ⟨rfl, rfl⟩) | (go_at_call 21; refine (hwe _).mono ?_; rintro e w' ⟨rfl, rfl⟩))
        go_ret
        refine ⟨?_, rfl⟩
        rw [HV.out]
        first | rfl | (show Ending.returned (Value.bool _) = _; simp [q1, q2])
      · have q1 : ((g : Int) == (n : Int)) = false := by simp; omega
        have q2 : (g == n) = false := by simpa using hgn
        have HV : Hid (wordB (c :: r) = false) := by unfold Hid; rw [HW.out]; simpa using hgn
        clear hgn
        go_enter Tryd.func12, Tryd.ntmps12
        go_wp2_with (first | (go_at_call 20; refine (letter_any _ _).mono ?_; rw [hl1]; rintro e w' ⟨rfl, rfl⟩) | (go_at_call 21; refine (hwe _).mono ?_; rintro e w' ⟨rfl, rfl⟩))
        go_ret
        refine ⟨?_, rfl⟩
        rw [HV.out]
        first | rfl | (show Ending.returned (Value.bool _) = _; simp [q1, q2])
    | false =>
      rw [hl1] at HW
      have HV : Hid (wordB (c :: r) = false) := by unfold Hid; rw [HW.out]; rfl
      go_enter Tryd.func12, Tryd.ntmps12
      go_wp2_with (first | (go_at_call 20; refine (letter_any _ _).mono ?_; rw [hl1]; rintro e w' ⟨rfl, rfl⟩))
      go_ret
      refine ⟨?_, rfl⟩
      rw [HV.out]
      first | rfl | (show Ending.returned (Value.bool _) = _; simp)
end Go.Proofs.YtokcbiafajpmoaaDoor
