/-
  What is proved here: A block alone is read: Read; a run's text is read: Stream.
  What is proved here: The fixed calls come out as they should: known.
  What is proved here: Blocks of values that are not the same are not the same: the walk of OutApart.
-/
import Derived.Test.YtdnhhmnllhlbbaaGreatDoorOvj
import Derived.Test.YtdnhhmnllhlbbaaGreatDoorOsj
import Derived.Test.YtdnhhmnllhlbbaaGreatDoorOnj
import Derived.Test.YtdnhhmnllhlbbaaGreatDoorOh
import Derived.Test.YtdnhhmnllhlbbaaGreatDoorPf
import Derived.Test.YtdnhhmnllhlbbaaGreatDoorOjj
import Derived.Test.YtdnhhmnllhlbbaaGreatDoorOe
import Derived.Test.YtdnhhmnllhlbbaaGreatDoorPj
import Derived.Test.YtdnhhmnllhlbbaaGreatDoorPhj
namespace Go.Proofs.YtdnhhmnllhlbbaaGreatDoor
open Go.RowKit Go.Shelf
set_option linter.unusedVariables false
set_option linter.unusedSimpArgs false
theorem refT_ok {s : List UInt8} {l : List Ou} (hr : RightN l = 0) (hs : s.length ≤ 1048576) : refT s l = 0 := by
  unfold refT
  rw [if_neg (by rw [hr]; simp), if_neg (by omega)]
/-- What Read does of a block alone. -/
def ReadE (xs : List (List Vl)) (W : World) (e : Ending) (w : World) : Prop := ∃ sv, e = .returned (.tuple #[sv, .int .i64 0, .int .i64 0]) ∧ SvvX (fun b => b < W.heap.size) w sv xs ∧ Below W.heap.size W w

set_option maxRecDepth 100000 in
set_option maxHeartbeats 4000000 in
theorem read21 {W : World} {os : Value} {l : List Ou} {vals : List Vl} {xs : List (List Vl)} (h : Sou W os l) (hr : RightN l = 0) (hz : ∀ o ∈ l, OuZ o) (hnm : ∀ o ∈ l, o.nm.length ≤ 10000000000) (hxs : ousV l vals = some xs)
    (hs : (blockT l xs).length ≤ 1048576) (hT : Tens W) (hM : MaxL W) :
    Calls Tryz.prog 21 #[.string (bs (blockT l xs)), os] W fun e w' => ReadE xs W e w' := by
  obtain ⟨hn1, hwr⟩ := right_ok hr
  have k1 := refused45 (blockT l xs) h (by omega) hz (by omega)
  rw [refT_ok hr hs] at k1
  have K2 : Hid (∀ X, Below W.heap.size W X → Calls Tryz.prog 46 #[.string (bs (blockT l xs)), .int .i64 ((0 : Nat) : Int), os] X fun e w' => ReadB (0 + (blockT l xs).length) xs X e w') := fun X hX => block46 (p := 0) (blockT l xs) [] (h.below hX) hr hz hnm hxs (by simp) (Nat.zero_le _) (by omega) (hT.self hX) (hM.self hX)
  obtain ⟨oa, on, oc, rfl⟩ : ∃ a n c, os = .slice a n c := by obtain ⟨a, c, e, _⟩ := h; exact ⟨_, _, _, e⟩
  obtain ⟨T, hT'⟩ : ∃ T, blockT l xs = T := ⟨_, rfl⟩
  obtain ⟨m, hm⟩ : ∃ m, T.length = m := ⟨_, rfl⟩
  rw [hT'] at k1 K2 ⊢
  have hz1 : (bs T).size = m := hm
  rw [hm, Nat.zero_add] at K2
  obtain ⟨S, hS⟩ : ∃ S, bs T = S := ⟨_, rfl⟩
  rw [hS] at k1 K2 hz1 ⊢
  have hzz : (S.size : Int) = m := by omega
  have hlt : ¬ (m : Int) < (m : Int) := by omega
  clear h hr hz hnm hxs hs hT hM hn1 hwr hT' hm hS hz1
  go_enter Tryz.func21, Tryz.ntmps21
  go_wp2_with fail
  refine k1.mono ?_
  rintro e w1 ⟨rfl, hb1⟩
  have HB1 : Hid (Below W.heap.size W w1) := hb1
  have k2 := K2.out w1 hb1
  clear k1 hb1
  go_wp2_with fail
  refine k2.mono ?_
  rintro e w2 ⟨sv, rfl, hsv, hb2⟩
  have HSV : Hid (SvvX (fun b => b < W.heap.size) w2 sv xs) := hsv.mono (fun b q => by have := HB1.out.size; omega)
  have HB2 : Hid (Below W.heap.size W w2) := HB1.out.trans (hb2.mono HB1.out.size)
  obtain ⟨sa, sc, rfl, _⟩ := id hsv
  obtain ⟨sn, hsn⟩ : ∃ n, xs.length = n := ⟨_, rfl⟩
  rw [hsn] at HSV ⊢
  clear k2 hsv hb2 hsn
  go_wp2
  go_ret3
  exact ⟨_, rfl, HSV.out, HB2.out⟩
end Go.Proofs.YtdnhhmnllhlbbaaGreatDoor

namespace Go.Proofs.YtdnhhmnllhlbbaaGreatDoor
open Go.RowKit Go.Shelf
set_option linter.unusedVariables false
set_option linter.unusedSimpArgs false
def knL : List Ou := [⟨[120], [], [⟨0, false, 0, []⟩], 2, true⟩, ⟨[115], [], [⟨1, false, 0, []⟩], 3, true⟩, ⟨[97], [(1, 2), (0, 0)], [⟨0, false, 0, []⟩, ⟨-1, false, -2, []⟩], 2, false⟩]
def knV : List Vl := [⟨false, 3, []⟩, ⟨true, 0, [1, 2, 3]⟩]
def knX : List (List Vl) := [[⟨false, 3, []⟩], [⟨true, 0, [1, 2, 3]⟩], [⟨false, 3, []⟩, ⟨false, -2, []⟩]]
theorem kn_right : RightN knL = 0 := by decide +kernel
theorem kn_vals : ousV knL knV = some knX := by rfl
theorem kn_text : blockT knL knX = [120, 32, 61, 32, 51, 59, 10, 115, 32, 61, 32, 49, 46, 46, 51, 59, 10, 97, 32, 61, 32, 97, 114, 114, 97, 121, 50, 100, 40, 49, 46, 46, 50, 44, 32, 48, 46, 46, 48, 44, 32, 91, 51, 44, 32, 45, 50, 93, 41, 59, 10, 45, 45, 45, 45, 45, 45, 45, 45, 45, 45, 10] := by decide +kernel
theorem kn_stat : statT 4 160 0 13 = [61, 61, 61, 61, 61, 69, 82, 82, 79, 82, 61, 61, 61, 61, 61, 32, 49, 54, 48, 32, 48, 32, 49, 51, 10] := by decide +kernel
theorem si_nil (w : World) : Si 0 w (.slice none 0 0) [] := ⟨none, 0, rfl, fun h => absurd h (by simp)⟩
theorem st_one {w : World} {g : Nat} {v : Int} (h : Blk w g #[.int .i64 v, .bool false, .int .i64 0, .slice none 0 0] 67) : St 0 w (.slice (some ⟨g, 0, none⟩) 1 1) [⟨v, false, 0, []⟩] := by
  refine ⟨_, _, rfl, fun _ => ⟨g, 0, [.slice none 0 0], rfl, Nat.zero_le _, h.lt, rfl, fun i t sv ht hs => ?_⟩⟩
  match i, ht, hs with
  | 0, ht, hs =>
    injection ht with ht
    injection hs with hs
    subst ht hs
    refine ⟨si_nil w, fun r u hu => ?_⟩
    have e := h.cell r
    have hz : (0 + 0 * 4 + r) = r := by omega
    rw [hz, e]
    simpa [Tm.cells] using hu
theorem st_two {w : World} {g : Nat} {v v2 n2 : Int} (h : Blk w g #[.int .i64 v, .bool false, .int .i64 0, .slice none 0 0, .int .i64 v2, .bool false, .int .i64 n2, .slice none 0 0] 67) : St 0 w (.slice (some ⟨g, 0, none⟩) 2 2) [⟨v, false, 0, []⟩, ⟨v2, false, n2, []⟩] := by
  refine ⟨_, _, rfl, fun _ => ⟨g, 0, [.slice none 0 0, .slice none 0 0], rfl, Nat.zero_le _, h.lt, rfl, fun i t sv ht hs => ?_⟩⟩
  match i, ht, hs with
  | 0, ht, hs =>
    injection ht with ht
    injection hs with hs
    subst ht hs
    refine ⟨si_nil w, fun r u hu => ?_⟩
    have e := h.cell r
    have hz : (0 + 0 * 4 + r) = r := by omega
    rw [hz, e]
    match r, hu with
    | 0, hu => exact hu
    | 1, hu => exact hu
    | 2, hu => exact hu
    | 3, hu => exact hu
  | 1, ht, hs =>
    injection ht with ht
    injection hs with hs
    subst ht hs
    refine ⟨si_nil w, fun r u hu => ?_⟩
    have e := h.cell (4 + r)
    have hz : (0 + 1 * 4 + r) = 4 + r := by omega
    rw [hz, e]
    match r, hu with
    | 0, hu => exact hu
    | 1, hu => exact hu
    | 2, hu => exact hu
    | 3, hu => exact hu
theorem rgs_nil (w : World) : Rgs w (.slice none 0 0) [] := ⟨none, 0, rfl, fun h => absurd h (by simp)⟩
theorem kn_sou {w : World} {D E F g1 g2 : Nat} (h1 : Blk w g1 #[.int .i64 0, .bool false, .int .i64 0, .slice none 0 0] 67) (h2 : Blk w g2 #[.int .i64 1, .bool false, .int .i64 0, .slice none 0 0] 67)
    (hD : Blk w D #[.int .i64 1, .int .i64 2, .int .i64 0, .int .i64 0] 84) (hE : Blk w E #[.int .i64 0, .bool false, .int .i64 0, .slice none 0 0, .int .i64 (-1), .bool false, .int .i64 (-2), .slice none 0 0] 67)
    (hF : Blk w F #[.string ⟨#[120]⟩, .slice none 0 0, .slice (some ⟨g1, 0, none⟩) 1 1, .int .i64 2, .bool true, .string ⟨#[115]⟩, .slice none 0 0, .slice (some ⟨g2, 0, none⟩) 1 1, .int .i64 3, .bool true, .string ⟨#[97]⟩, .slice (some ⟨D, 0, none⟩) 2 2, .slice (some ⟨E, 0, none⟩) 2 2, .int .i64 2, .bool false] 53) :
    Sou w (.slice (some ⟨F, 0, none⟩) 3 3) knL := by
  refine ⟨_, _, rfl, fun _ => ⟨F, 0, rfl, hF.lt, fun i o ho => ?_⟩⟩
  match i, ho with
  | 0, ho =>
    injection ho with ho
    subst ho
    exact ⟨_, _, rgs_nil w, st_one h1, hF.cell 0, hF.cell 1, hF.cell 2, hF.cell 3, hF.cell 4⟩
  | 1, ho =>
    injection ho with ho
    subst ho
    exact ⟨_, _, rgs_nil w, st_one h2, hF.cell 5, hF.cell 6, hF.cell 7, hF.cell 8, hF.cell 9⟩
  | 2, ho =>
    injection ho with ho
    subst ho
    refine ⟨_, _, ⟨some ⟨D, 0, none⟩, 2, rfl, fun _ => ⟨D, 0, rfl, hD.lt, fun j x hx => ?_⟩⟩, st_two hE, hF.cell 10, hF.cell 11, hF.cell 12, hF.cell 13, hF.cell 14⟩
    match j, hx with
    | 0, hx =>
      injection hx with hx
      subst hx
      exact ⟨hD.cell 0, hD.cell 1⟩
    | 1, hx =>
      injection hx with hx
      subst hx
      exact ⟨hD.cell 2, hD.cell 3⟩
theorem kn_sv {w : World} {G H : Nat} (hG : Blk w G #[.int .i64 1, .int .i64 2, .int .i64 3] 2) (hH : Blk w H #[.bool false, .int .i64 3, .slice none 0 0, .bool true, .int .i64 0, .slice (some ⟨G, 0, none⟩) 3 3] 36) : Sv w (.slice (some ⟨H, 0, none⟩) 2 2) knV := by
  refine ⟨_, _, rfl, fun _ => ⟨H, 0, rfl, hH.lt, fun i v hv => ?_⟩⟩
  match i, hv with
  | 0, hv =>
    injection hv with hv
    subst hv
    exact ⟨_, si_nil w, hH.cell 0, hH.cell 1, hH.cell 2⟩
  | 1, hv =>
    injection hv with hv
    subst hv
    refine ⟨_, ⟨some ⟨G, 0, none⟩, 3, rfl, fun _ => ⟨G, 0, rfl, Nat.zero_le _, hG.lt, fun j x hx => ?_⟩⟩, hH.cell 3, hH.cell 4, hH.cell 5⟩
    match j, hx with
    | 0, hx => injection hx with hx; subst hx; exact hG.cell 0
    | 1, hx => injection hx with hx; subst hx; exact hG.cell 1
    | 2, hx => injection hx with hx; subst hx; exact hG.cell 2

set_option maxRecDepth 100000 in
set_option maxHeartbeats 4000000 in
theorem term44 (v : Int) (W : World) : Calls Tryz.prog 44 #[.int .i64 v] W fun e w' => ∃ g, e = .returned (.slice (some ⟨g, 0, none⟩) 1 1) ∧ Blk w' g #[.int .i64 v, .bool false, .int .i64 0, .slice none 0 0] 67 ∧ Below W.heap.size W w' := by
  go_enter Tryz.func44, Tryz.ntmps44
  go_wp2
  go_ret
  exact ⟨_, rfl, Blk.new _ _ _, (Below.refl _ _).alloc (Nat.le_refl _) _⟩

set_option maxRecDepth 100000 in
set_option maxHeartbeats 4000000 in
theorem known20 {W : World} (hT : Tens W) (hM : MaxL W) : Calls Tryz.prog 20 #[] W fun e w' => e = .returned (.bool true) ∧ Below W.heap.size W w' := by
  have HTM : Hid (Tens W ∧ MaxL W) := ⟨hT, hM⟩
  clear hT hM
  go_enter Tryz.func20, Tryz.ntmps20
  go_wp2_with fail
  refine (term44 0 W).mono ?_
  rintro e w1 ⟨g1, rfl, h1, hb1⟩
  have H1 : Hid (Blk w1 g1 #[.int .i64 0, .bool false, .int .i64 0, .slice none 0 0] 67) := h1
  have HB1 : Hid (Below W.heap.size W w1) := hb1
  clear h1 hb1
  go_wp2_with fail
  refine (term44 1 w1).mono ?_
  rintro e w2 ⟨g2, rfl, h2, hb2⟩
  have H1 : Hid (Blk w2 g1 #[.int .i64 0, .bool false, .int .i64 0, .slice none 0 0] 67) := H1.out.below hb2
  have H2 : Hid (Blk w2 g2 #[.int .i64 1, .bool false, .int .i64 0, .slice none 0 0] 67) := h2
  have HB2 : Hid (Below W.heap.size W w2) := HB1.out.trans (hb2.mono HB1.out.size)
  clear h2 hb2 HB1
  obtain ⟨D, hD⟩ : ∃ D, w2.heap.size = D := ⟨_, rfl⟩
  obtain ⟨w3, hw3⟩ : ∃ w3, ((((w2.alloc (Obj.cells #[.int .i64 1, .int .i64 2, .int .i64 0, .int .i64 0] 84)).alloc (Obj.cells #[.int .i64 0, .bool false, .int .i64 0, .slice none 0 0, .int .i64 (-1), .bool false, .int .i64 (-2), .slice none 0 0] 67)).alloc
    (Obj.cells #[.string ⟨#[120]⟩, .slice none 0 0, .slice (some ⟨g1, 0, none⟩) 1 1, .int .i64 2, .bool true, .string ⟨#[115]⟩, .slice none 0 0, .slice (some ⟨g2, 0, none⟩) 1 1, .int .i64 3, .bool true, .string ⟨#[97]⟩, .slice (some ⟨D, 0, none⟩) 2 2, .slice (some ⟨D + 1, 0, none⟩) 2 2, .int .i64 2, .bool false] 53)).alloc
    (Obj.cells #[.int .i64 1, .int .i64 2, .int .i64 3] 2)).alloc (Obj.cells #[.bool false, .int .i64 3, .slice none 0 0, .bool true, .int .i64 0, .slice (some ⟨D + 1 + 1 + 1, 0, none⟩) 3 3] 36) = w3 := ⟨_, rfl⟩
  have hb3 : Below w2.heap.size w2 w3 := by rw [← hw3]; exact (((((Below.refl _ _).alloc (Nat.le_refl _) _).alloc (by simp) _).alloc (by simp; omega) _).alloc (by simp; omega) _).alloc (by simp; omega) _
  have e1 := Blk.new w2 #[.int .i64 1, .int .i64 2, .int .i64 0, .int .i64 0] 84
  have e2 := Blk.new (w2.alloc (Obj.cells #[.int .i64 1, .int .i64 2, .int .i64 0, .int .i64 0] 84)) #[.int .i64 0, .bool false, .int .i64 0, .slice none 0 0, .int .i64 (-1), .bool false, .int .i64 (-2), .slice none 0 0] 67
  have e3 := Blk.new ((w2.alloc (Obj.cells #[.int .i64 1, .int .i64 2, .int .i64 0, .int .i64 0] 84)).alloc (Obj.cells #[.int .i64 0, .bool false, .int .i64 0, .slice none 0 0, .int .i64 (-1), .bool false, .int .i64 (-2), .slice none 0 0] 67)) #[.string ⟨#[120]⟩, .slice none 0 0, .slice (some ⟨g1, 0, none⟩) 1 1, .int .i64 2, .bool true, .string ⟨#[115]⟩, .slice none 0 0, .slice (some ⟨g2, 0, none⟩) 1 1, .int .i64 3, .bool true, .string ⟨#[97]⟩, .slice (some ⟨D, 0, none⟩) 2 2, .slice (some ⟨D + 1, 0, none⟩) 2 2, .int .i64 2, .bool false] 53
  have e4 := Blk.new (((w2.alloc (Obj.cells #[.int .i64 1, .int .i64 2, .int .i64 0, .int .i64 0] 84)).alloc (Obj.cells #[.int .i64 0, .bool false, .int .i64 0, .slice none 0 0, .int .i64 (-1), .bool false, .int .i64 (-2), .slice none 0 0] 67)).alloc (Obj.cells #[.string ⟨#[120]⟩, .slice none 0 0, .slice (some ⟨g1, 0, none⟩) 1 1, .int .i64 2, .bool true, .string ⟨#[115]⟩, .slice none 0 0, .slice (some ⟨g2, 0, none⟩) 1 1, .int .i64 3, .bool true, .string ⟨#[97]⟩, .slice (some ⟨D, 0, none⟩) 2 2, .slice (some ⟨D + 1, 0, none⟩) 2 2, .int .i64 2, .bool false] 53)) #[.int .i64 1, .int .i64 2, .int .i64 3] 2
  have e5 := Blk.new ((((w2.alloc (Obj.cells #[.int .i64 1, .int .i64 2, .int .i64 0, .int .i64 0] 84)).alloc (Obj.cells #[.int .i64 0, .bool false, .int .i64 0, .slice none 0 0, .int .i64 (-1), .bool false, .int .i64 (-2), .slice none 0 0] 67)).alloc (Obj.cells #[.string ⟨#[120]⟩, .slice none 0 0, .slice (some ⟨g1, 0, none⟩) 1 1, .int .i64 2, .bool true, .string ⟨#[115]⟩, .slice none 0 0, .slice (some ⟨g2, 0, none⟩) 1 1, .int .i64 3, .bool true, .string ⟨#[97]⟩, .slice (some ⟨D, 0, none⟩) 2 2, .slice (some ⟨D + 1, 0, none⟩) 2 2, .int .i64 2, .bool false] 53)).alloc (Obj.cells #[.int .i64 1, .int .i64 2, .int .i64 3] 2)) #[.bool false, .int .i64 3, .slice none 0 0, .bool true, .int .i64 0, .slice (some ⟨D + 1 + 1 + 1, 0, none⟩) 3 3] 36
  simp only [World.size_alloc, hD] at e1 e2 e3 e4 e5
  have HSO : Hid (Sou w3 (.slice (some ⟨D + 1 + 1, 0, none⟩) 3 3) knL) := by
    refine kn_sou (D := D) (E := D + 1) (H1.out.below hb3) (H2.out.below hb3) ?_ ?_ ?_ <;> rw [← hw3]
    · exact (((e1.alloc _).alloc _).alloc _).alloc _
    · exact ((e2.alloc _).alloc _).alloc _
    · exact (e3.alloc _).alloc _
  have HSV : Hid (Sv w3 (.slice (some ⟨D + 1 + 1 + 1 + 1, 0, none⟩) 2 2) knV) := by
    refine kn_sv (G := D + 1 + 1 + 1) ?_ ?_ <;> rw [← hw3]
    · exact e4.alloc _
    · exact e5
  have HB3 : Hid (Below W.heap.size W w3) := HB2.out.trans (hb3.mono HB2.out.size)
  have HW : Hid _ := hw3
  have HD : Hid (w2.heap.size = D) := hD
  clear e1 e2 e3 e4 e5 hb3 hw3 hD
  go_upto_region 3 with (fail)
  rw [HD.out, HW.out]
  clear HW HD H1 H2 HB2
  obtain ⟨F, hF⟩ : ∃ F, D + 1 + 1 = F := ⟨_, rfl⟩
  obtain ⟨G, hG⟩ : ∃ F, D + 1 + 1 + 1 + 1 = F := ⟨_, rfl⟩
  have hz : ∀ o ∈ knL, OuZ o := by
    intro o ho
    simp only [knL, List.mem_cons, List.not_mem_nil, or_false] at ho
    rcases ho with rfl | rfl | rfl <;> exact ⟨by decide, by decide, by decide⟩
  have hnm : ∀ o ∈ knL, o.nm.length ≤ 10000000000 := by
    intro o ho
    simp only [knL, List.mem_cons, List.not_mem_nil, or_false] at ho
    rcases ho with rfl | rfl | rfl <;> decide
  have hL : ∀ v ∈ knV, v.s.length ≤ 17592186043904 := by
    intro o ho
    simp only [knV, List.mem_cons, List.not_mem_nil, or_false] at ho
    rcases ho with rfl | rfl <;> decide
  have kb := block8 HSO.out (by decide) hz hnm HSV.out hL (by decide) (HTM.out.1.self HB3.out)
  have KR : Hid (∀ X, Below w3.heap.size w3 X → Calls Tryz.prog 21 #[.string (bs (blockT knL knX)), .slice (some ⟨D + 1 + 1, 0, none⟩) 3 3] X fun e w' => ReadE knX X e w') := fun X hX => read21 (HSO.out.below hX) kn_right hz hnm kn_vals (by rw [kn_text]; decide) ((HTM.out.1.self HB3.out).self hX) ((HTM.out.2.self HB3.out).self hX)
  have KS : Hid (∀ X, Below w3.heap.size w3 X → Calls Tryz.prog 15 #[.int .i64 4, .int .i64 160, .int .i64 0, .int .i64 13] X fun e w' => e = .returned (.string (bs (statT 4 160 0 13))) ∧ Below X.heap.size X w') := fun X hX => stat15 4 160 0 13 (by decide) (by decide) (by decide) (by decide) (by decide) (by decide) X ((HTM.out.1.self HB3.out).self hX)
  rw [hG] at HSV kb ⊢
  rw [hF] at KR HSO kb ⊢
  clear hz hnm hL hF hG HTM
  go_wp2_with fail
  refine kb.mono ?_
  rintro e w4 ⟨⟨T, er, rfl, hE⟩, hb4⟩
  have HB4 : Hid (Below w3.heap.size w3 w4) := hb4
  have hE2 : er = 0 ∧ T = blockT knL knX := by
    rcases hE with ⟨h, _⟩ | ⟨_, h, _⟩ | ⟨_, xs, h, h2, h3⟩
    · exact absurd kn_right h
    · rw [kn_vals] at h; cases h
    · rw [kn_vals] at h
      injection h with h
      subst h
      exact ⟨h2, h3⟩
  obtain ⟨rfl, rfl⟩ := hE2
  clear kb hE hb4
  have kr := KR.out w4 HB4.out
  have hq : ((bs (blockT knL knX)).toList == [120, 32, 61, 32, 51, 59, 10, 115, 32, 61, 32, 49, 46, 46, 51, 59, 10, 97, 32, 61, 32, 97, 114, 114, 97, 121, 50, 100, 40, 49, 46, 46, 50, 44, 32, 48, 46, 46, 48, 44, 32, 91, 51, 44, 32, 45, 50, 93, 41, 59, 10, 45, 45, 45, 45, 45, 45, 45, 45, 45, 45, 10]) = true := by rw [bs_toList, kn_text]; exact beq_self_eq_true _
  obtain ⟨S, hS⟩ : ∃ S, bs (blockT knL knX) = S := ⟨_, rfl⟩
  rw [hS] at kr hq ⊢
  clear hS KR
  go_wp2_with fail
  refine kr.mono ?_
  rintro e w5 ⟨sv, rfl, hsv, hb5⟩
  have HB5 : Hid (Below w3.heap.size w3 w5) := HB4.out.trans (hb5.mono HB4.out.size)
  obtain ⟨sa, sc, rfl, h5⟩ := hsv
  obtain ⟨b, off, rfl, hbl, _, hcl⟩ := h5 (by decide)
  obtain ⟨sv2, ⟨a2, c2, rfl, h6⟩, hc2⟩ := hcl 2 _ rfl
  obtain ⟨b2, off2, rfl, _, _, h7⟩ := h6 (by decide)
  obtain ⟨sv3, _, _, hc3, _⟩ := h7 1 _ rfl
  have ks := KS.out w5 HB5.out
  have hq2 : ((bs (statT 4 160 0 13)).toList == [61, 61, 61, 61, 61, 69, 82, 82, 79, 82, 61, 61, 61, 61, 61, 32, 49, 54, 48, 32, 48, 32, 49, 51, 10]) = true := by rw [bs_toList, kn_stat]; exact beq_self_eq_true _
  obtain ⟨S2, hS2⟩ : ∃ S, bs (statT 4 160 0 13) = S := ⟨_, rfl⟩
  rw [hS2] at ks hq2
  have hl3 : knX.length = 3 := rfl
  rw [hl3] at *
  clear hS2 kr hb5 h5 hcl h6 h7 HB4 KS
  have hc2' : w5.cell? ⟨b, off + 2, none⟩ = some (.slice (some ⟨b2, off2, none⟩) 2 c2) := hc2
  have hc3' : w5.cell? ⟨b2, off2 + 3 + 1, none⟩ = some (.int .i64 (-2)) := hc3
  clear hc2 hc3
  go_wp2_with fail
  refine ks.mono ?_
  rintro e w6 ⟨rfl, hb6⟩
  have HB6 : Hid (Below W.heap.size W w6) := HB3.out.trans ((HB5.out.trans (hb6.mono HB5.out.size)).mono HB3.out.size)
  clear ks hb6
  go_wp2
  go_ret
  exact ⟨rfl, HB6.out⟩
end Go.Proofs.YtdnhhmnllhlbbaaGreatDoor

namespace Go.Proofs.YtdnhhmnllhlbbaaGreatDoor
open Go.RowKit Go.Shelf
set_option linter.unusedVariables false
set_option linter.unusedSimpArgs false
theorem lim_ous {l : List Ou} {vals : List Vl} {xs : List (List Vl)} (h : ousV l vals = some xs) (hn : l.length ≤ 1000000000) (hz : ∀ o ∈ l, OuZ o) : Lim xs := by
  have hl := ousV_len h
  refine ⟨by omega, fun x hx => ?_⟩
  obtain ⟨i, hi⟩ := List.getElem?_of_mem hx
  obtain ⟨o, ho⟩ : ∃ o, l[i]? = some o := ⟨_, List.getElem?_eq_getElem (by rw [← hl]; exact (List.getElem?_eq_some_iff.1 hi).1)⟩
  obtain ⟨y, hy, hov⟩ := ousV_get h ho
  rw [hi] at hy
  injection hy with hy
  subst hy
  obtain ⟨f1, f2⟩ := ouV_facts hov
  have := (hz o (List.mem_of_getElem? ho)).l
  refine ⟨by omega, fun v hv => ?_⟩
  rcases isVal_more (f2 v hv) with ⟨_, _, _, h⟩ | ⟨_, _, h, _⟩ | ⟨_, _, h, _⟩
  · have := (setOk_facts h).1; omega
  · rw [h]; simp
  · rw [h]; simp
/-- What is known of outputs that came in. -/
structure OuIn (W : World) (os : Value) (l : List Ou) : Prop where
  so : Sou W os l
  n : l.length ≤ 1048576
  z : ∀ o ∈ l, OuZ o
  nm : ∀ o ∈ l, o.nm.length ≤ 1048576
theorem OuIn.below {W w : World} {os : Value} {l : List Ou} (h : OuIn W os l) (hb : Below W.heap.size W w) : OuIn w os l := ⟨h.so.below hb, h.n, h.z, h.nm⟩
/-- What is known of values that came in. -/
structure VlIn (W : World) (vs : Value) (l : List Vl) : Prop where
  sv : Sv W vs l
  n : l.length ≤ 1048576
  z : ∀ v ∈ l, v.s.length ≤ 1048576
theorem VlIn.below {W w : World} {os : Value} {l : List Vl} (h : VlIn W os l) (hb : Below W.heap.size W w) : VlIn w os l := ⟨h.sv.below hb, h.n, h.z⟩
theorem blockI {W : World} {s vs : Value} {l : List Ou} {vals : List Vl} (h : OuIn W s l) (hv : VlIn W vs vals) (hT : Tens W) :
    Calls Tryz.prog 8 #[s, vs] W fun e w' => BlkE l vals e ∧ Below W.heap.size W w' :=
  block8 h.so (by have := h.n; omega) h.z (fun o ho => by have := h.nm o ho; omega) hv.sv (fun v q => by have := hv.z v q; omega) (by have := hv.n; omega) hT
theorem slice_of {W : World} {s : Value} {l : List Ou} (h : OuIn W s l) : ∃ a n c, s = .slice a n c := by obtain ⟨a, c, e, _⟩ := h.so; exact ⟨_, _, _, e⟩
theorem slice_ofv {W : World} {s : Value} {l : List Vl} (h : VlIn W s l) : ∃ a n c, s = .slice a n c := by obtain ⟨a, c, e, _⟩ := h.sv; exact ⟨_, _, _, e⟩
theorem svv_shape {X : Nat → Prop} {w : World} {s : Value} {l : List (List Vl)} (h : SvvX X w s l) : ∃ a n c, s = .slice a n c := by obtain ⟨a, c, e, _⟩ := h; exact ⟨_, _, _, e⟩
end Go.Proofs.YtdnhhmnllhlbbaaGreatDoor
