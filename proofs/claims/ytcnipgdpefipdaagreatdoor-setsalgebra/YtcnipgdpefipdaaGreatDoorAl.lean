/-
  What is proved here: SetsAlgebra returns true of any three lists.
-/
import Derived.Test.YtcnipgdpefipdaaGreatDoorAd
import Derived.Test.YtcnipgdpefipdaaGreatDoorAe
import Derived.Test.YtcnipgdpefipdaaGreatDoorAf
import Derived.Test.YtcnipgdpefipdaaGreatDoorAg
namespace Go.Proofs.YtcnipgdpefipdaaGreatDoor
open Go.RowKit Go.Shelf
set_option linter.unusedVariables false
set_option linter.unusedSimpArgs false

theorem algebra_walk (s1 s2 s3 : Value) (a b c : List Int) (W : World) (h1 : Si W s1 a) (h2 : Si W s2 b) (h3 : Si W s3 c) (hM : MaxL W) (hE : ErrV W) (hT : Tens W.heap.size W) :
    Calls Tryz.prog 8 #[s1, s2, s3] W fun e w' => e = .returned (.bool true) ∧ Below W.heap.size W w' := by
  have hr := cmp_range (tkS a) (tkS b)
  have hx : cmpL (tkS a) (tkS b) = 1 ∨ cmpL (tkS a) (tkS b) = -1 ∨ cmpL (tkS a) (tkS b) = 0 := by omega
  by_cases hA : IsSet a
  · by_cases hJ : IsSet (joinL (tkS a) (tkS b))
    · rcases hx with hx | hx | hx
      · exact alg_11p s1 s2 s3 a b c W h1 h2 h3 hM hE hT hA hJ hx
      · by_cases hz : cmpL (tkS b) (tkS c) ≤ 0
        · exact alg_11mn s1 s2 s3 a b c W h1 h2 h3 hM hE hT hA hJ hx hz
        · exact alg_11mp s1 s2 s3 a b c W h1 h2 h3 hM hE hT hA hJ hx hz
      · by_cases hz : cmpL (tkS b) (tkS c) ≤ 0
        · exact alg_11zn s1 s2 s3 a b c W h1 h2 h3 hM hE hT hA hJ hx hz
        · exact alg_11zp s1 s2 s3 a b c W h1 h2 h3 hM hE hT hA hJ hx hz
    · rcases hx with hx | hx | hx
      · exact alg_10p s1 s2 s3 a b c W h1 h2 h3 hM hE hT hA hJ hx
      · by_cases hz : cmpL (tkS b) (tkS c) ≤ 0
        · exact alg_10mn s1 s2 s3 a b c W h1 h2 h3 hM hE hT hA hJ hx hz
        · exact alg_10mp s1 s2 s3 a b c W h1 h2 h3 hM hE hT hA hJ hx hz
      · by_cases hz : cmpL (tkS b) (tkS c) ≤ 0
        · exact alg_10zn s1 s2 s3 a b c W h1 h2 h3 hM hE hT hA hJ hx hz
        · exact alg_10zp s1 s2 s3 a b c W h1 h2 h3 hM hE hT hA hJ hx hz
  · by_cases hJ : IsSet (joinL (tkS a) (tkS b))
    · rcases hx with hx | hx | hx
      · exact alg_01p s1 s2 s3 a b c W h1 h2 h3 hM hE hT hA hJ hx
      · by_cases hz : cmpL (tkS b) (tkS c) ≤ 0
        · exact alg_01mn s1 s2 s3 a b c W h1 h2 h3 hM hE hT hA hJ hx hz
        · exact alg_01mp s1 s2 s3 a b c W h1 h2 h3 hM hE hT hA hJ hx hz
      · by_cases hz : cmpL (tkS b) (tkS c) ≤ 0
        · exact alg_01zn s1 s2 s3 a b c W h1 h2 h3 hM hE hT hA hJ hx hz
        · exact alg_01zp s1 s2 s3 a b c W h1 h2 h3 hM hE hT hA hJ hx hz
    · rcases hx with hx | hx | hx
      · exact alg_00p s1 s2 s3 a b c W h1 h2 h3 hM hE hT hA hJ hx
      · by_cases hz : cmpL (tkS b) (tkS c) ≤ 0
        · exact alg_00mn s1 s2 s3 a b c W h1 h2 h3 hM hE hT hA hJ hx hz
        · exact alg_00mp s1 s2 s3 a b c W h1 h2 h3 hM hE hT hA hJ hx hz
      · by_cases hz : cmpL (tkS b) (tkS c) ≤ 0
        · exact alg_00zn s1 s2 s3 a b c W h1 h2 h3 hM hE hT hA hJ hx hz
        · exact alg_00zp s1 s2 s3 a b c W h1 h2 h3 hM hE hT hA hJ hx hz
end Go.Proofs.YtcnipgdpefipdaaGreatDoor
