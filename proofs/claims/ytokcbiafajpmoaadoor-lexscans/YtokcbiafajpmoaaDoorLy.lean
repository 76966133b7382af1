/-
  What is proved here: the fixed calls of the statements on lex come out as they must.
-/
import Derived.Test.YtokcbiafajpmoaaDoorLx
namespace Go.Proofs.YtokcbiafajpmoaaDoor
open Go.RowKit
set_option linter.unusedVariables false
set_option linter.unusedSimpArgs false
def s1 : List UInt8 := [118, 97, 114, 32, 49, 46, 46, 53, 58, 32, 120, 59, 32, 37, 32, 101, 110, 100]
def t1 : List Tok := [⟨1, [118, 97, 114], 0, 0⟩, ⟨2, [49], 1, 4⟩, ⟨4, [46, 46], 0, 5⟩, ⟨2, [53], 5, 7⟩, ⟨4, [58], 0, 8⟩, ⟨1, [120], 0, 10⟩, ⟨4, [59], 0, 11⟩, ⟨5, [], 0, 18⟩]
theorem scan1 : scanT s1 = (t1, 0, 0) := by rfl
theorem scan2 : scanT [120, 32, 49, 46, 53] = ([], 173, 2) := by rfl
theorem scan3 : scanT [34, 97] = ([], 150, 0) := by rfl

set_option maxRecDepth 100000 in
set_option maxHeartbeats 4000000 in
theorem known16 (W : World) (hE : ErrV W) : Calls Tryd.prog 16 #[] W fun e w' => e = .returned (.bool true) ∧ Below W.heap.size W w' := by
  have k1 := scan_any s1 W hE
  rw [scan1] at k1
  have k2 := fun X (hX : ErrV X) => scan_any [120, 32, 49, 46, 53] X hX
  rw [scan2] at k2
  have k3 := fun X (hX : ErrV X) => scan_any [34, 97] X hX
  rw [scan3] at k3
  have kw1 := fun X => word_any [97, 95, 49] (by decide) X
  rw [show wordB [97, 95, 49] = true from rfl] at kw1
  have kw2 := fun X => word_any [49, 97] (by decide) X
  rw [show wordB [49, 97] = false from rfl] at kw2
  have HE : Hid (ErrV W) := hE
  clear hE
  go_enter Tryd.func16, Tryd.ntmps16
  go_wp2_with fail
  refine k1.mono ?_
  rintro e w1 ⟨v1, rfl, hown1, hb1⟩
  obtain ⟨a0, cap, rfl, hcells⟩ := (own_tr hown1).h
  obtain ⟨g, rfl, hg, hcc⟩ := hcells (by decide)
  obtain ⟨_, _, p1, _⟩ := hcc 1 _ rfl
  obtain ⟨_, p2, _, _⟩ := hcc 2 _ rfl
  obtain ⟨_, _, _, p3⟩ := hcc 7 _ rfl
  have hT8 : t1.length = 8 := rfl
  rw [hT8]
  clear hcc hcells hown1 k1
  go_wp2_with fail
  refine (k2 w1 (HE.out.self hb1)).mono ?_
  rintro e w2 ⟨v2, rfl, hown2, hb2⟩
  have hb12 := hb1.trans (hb2.mono hb1.size)
  have q1 := (hb2.cell (p := ⟨g, 1 * 4 + 2, none⟩) hg).trans p1
  have q2 := (hb2.cell (p := ⟨g, 2 * 4 + 1, none⟩) hg).trans p2
  have q3 := (hb2.cell (p := ⟨g, 7 * 4 + 3, none⟩) hg).trans p3
  have hg2 := Nat.lt_of_lt_of_le hg hb2.size
  clear p1 p2 p3 hg k2 hown2 hb1 hb2
  go_wp2_with fail
  refine (k3 w2 (HE.out.self hb12)).mono ?_
  rintro e w3 ⟨v3, rfl, hown3, hb3⟩
  have hb13 := hb12.trans (hb3.mono hb12.size)
  have r1 : w3.cell? ⟨g, 6, none⟩ = some (.int .i64 1) := (hb3.cell (p := ⟨g, 1 * 4 + 2, none⟩) hg2).trans q1
  have r2 : w3.cell? ⟨g, 9, none⟩ = some (.string (bs [46, 46])) := (hb3.cell (p := ⟨g, 2 * 4 + 1, none⟩) hg2).trans q2
  have r3 : w3.cell? ⟨g, 31, none⟩ = some (.int .i64 18) := (hb3.cell (p := ⟨g, 7 * 4 + 3, none⟩) hg2).trans q3
  clear q1 q2 q3 hg2 k3 hown3 hb12 hb3
  have hbt := bs_toList [46, 46]
  go_wp2_with fail
  refine (kw1 _).mono ?_
  rintro e w4 ⟨rfl, rfl⟩
  go_wp2_with fail
  refine (kw2 _).mono ?_
  rintro e w5 ⟨rfl, rfl⟩
  go_wp2
  go_ret
  exact ⟨rfl, hb13⟩
end Go.Proofs.YtokcbiafajpmoaaDoor
