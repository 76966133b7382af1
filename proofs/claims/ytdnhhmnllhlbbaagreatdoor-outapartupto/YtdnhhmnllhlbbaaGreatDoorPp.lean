/-
  What is proved here: A block alone is read: Read; a run's text is read: Stream.
-/
import Derived.Test.YtdnhhmnllhlbbaaGreatDoorOw
import Derived.Test.YtdnhhmnllhlbbaaGreatDoorOtj
import Derived.Test.YtdnhhmnllhlbbaaGreatDoorOo
import Derived.Test.YtdnhhmnllhlbbaaGreatDoorOh
import Derived.Test.YtdnhhmnllhlbbaaGreatDoorPf
import Derived.Test.YtdnhhmnllhlbbaaGreatDoorOl
import Derived.Test.YtdnhhmnllhlbbaaGreatDoorOe
import Derived.Test.YtdnhhmnllhlbbaaGreatDoorOy
import Derived.Test.YtdnhhmnllhlbbaaGreatDoorOs
import Derived.Test.YtdnhhmnllhlbbaaGreatDoorPj
import Derived.Test.YtdnhhmnllhlbbaaGreatDoorPhj
namespace Go.Proofs.YtdnhhmnllhlbbaaGreatDoor
open Go.RowKit Go.Shelf
set_option linter.unusedVariables false
set_option linter.unusedSimpArgs false
theorem refT_ok {s : List UInt8} {l : List Ou} (hr : RightN l = 0) (hs : s.length ≤ 1048576) : refT s l = 0 := by
  unfold refT
  rw [if_neg (by rw [hr]; simp), if_neg (by omega)]
/-- What Read does of a block alone. -/
def ReadE (xs : List (List Vl)) (W : World) (e : Ending) (w : World) : Prop := ∃ sv, e = .returned (.tuple #[sv, .int .i64 0, .int .i64 0]) ∧ SvvX (fun b => b < W.heap.size) w sv xs ∧ Below W.heap.size W w

set_option maxRecDepth 100000 in
set_option maxHeartbeats 4000000 in
theorem read21 {W : World} {os : Value} {l : List Ou} {vals : List Vl} {xs : List (List Vl)} (h : Sou W os l) (hr : RightN l = 0) (hz : ∀ o ∈ l, OuZ o) (hnm : ∀ o ∈ l, o.nm.length ≤ 10000000000) (hxs : ousV l vals = some xs)
    (hs : (blockT l xs).length ≤ 1048576) (hT : Tens W) (hM : MaxL W) :
    Calls Tryz.prog 21 #[.string (bs (blockT l xs)), os] W fun e w' => ReadE xs W e w' := by
  obtain ⟨hn1, hwr⟩ := right_ok hr
  have k1 := refused45 (blockT l xs) h (by omega) hz (by omega)
  rw [refT_ok hr hs] at k1
  have K2 : Hid (∀ X, Below W.heap.size W X → Calls Tryz.prog 46 #[.string (bs (blockT l xs)), .int .i64 ((0 : Nat) : Int), os] X fun e w' => ReadB (0 + (blockT l xs).length) xs X e w') := fun X hX => block46 (p := 0) (blockT l xs) [] (h.below hX) hr hz hnm hxs (by simp) (Nat.zero_le _) (by omega) (hT.self hX) (hM.self hX)
  obtain ⟨oa, on, oc, rfl⟩ : ∃ a n c, os = .slice a n c := by obtain ⟨a, c, e, _⟩ := h; exact ⟨_, _, _, e⟩
  obtain ⟨T, hT'⟩ : ∃ T, blockT l xs = T := ⟨_, rfl⟩
  obtain ⟨m, hm⟩ : ∃ m, T.length = m := ⟨_, rfl⟩
  rw [hT'] at k1 K2 ⊢
  have hz1 : (bs T).size = m := hm
  rw [hm, Nat.zero_add] at K2
  obtain ⟨S, hS⟩ : ∃ S, bs T = S := ⟨_, rfl⟩
  rw [hS] at k1 K2 hz1 ⊢
  have hzz : (S.size : Int) = m := by omega
  have hlt : ¬ (m : Int) < (m : Int) := by omega
  clear h hr hz hnm hxs hs hT hM hn1 hwr hT' hm hS hz1
  go_enter Tryz.func21, Tryz.ntmps21
  go_wp2_with fail
  refine k1.mono ?_
  rintro e w1 ⟨rfl, hb1⟩
  have HB1 : Hid (Below W.heap.size W w1) := hb1
  have k2 := K2.out w1 hb1
  clear k1 hb1
  go_wp2_with fail
  refine k2.mono ?_
  rintro e w2 ⟨sv, rfl, hsv, hb2⟩
  have HSV : Hid (SvvX (fun b => b < W.heap.size) w2 sv xs) := hsv.mono (fun b q => by have := HB1.out.size; omega)
  have HB2 : Hid (Below W.heap.size W w2) := HB1.out.trans (hb2.mono HB1.out.size)
  obtain ⟨sa, sc, rfl, _⟩ := id hsv
  obtain ⟨sn, hsn⟩ : ∃ n, xs.length = n := ⟨_, rfl⟩
  rw [hsn] at HSV ⊢
  clear k2 hsv hb2 hsn
  go_wp2
  go_ret3
  exact ⟨_, rfl, HSV.out, HB2.out⟩
end Go.Proofs.YtdnhhmnllhlbbaaGreatDoor
