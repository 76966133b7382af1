/-
  What is proved here: what not and Cut of the reference return of right ranges.
  What is proved here: what Cut of the reference returns of right ranges.
-/
import Derived.Test.YtaeobgajhieajaaGreatDoorZVa
import Derived.Test.YtaeobgajhieajaaGreatDoorZXfj
namespace Go.Proofs.YtaeobgajhieajaaGreatDoor.Dm
open Go.RowKit Go.Shelf
set_option linter.unusedVariables false

theorem flat_two (o : List Rg) (x y : Int) : flat (o ++ [(x, y)]) = flat o ++ [.int .i64 x, .int .i64 y] := by unfold flat; rw [List.flatMap_append]; rfl
theorem drop_cons (l : List Rg) (k : Nat) (hk : k < l.length) : l.drop k = (lo l k, hi l k) :: l.drop (k + 1) := by
  rw [List.drop_eq_getElem_cons hk, lo_get l k hk, hi_get l k hk]
theorem own_keepB {W W' : World} {base e size n : Nat} {s : Value} {xs : List Value} (h : W.ownsRow base e size s n xs) (hb : Below W.heap.size W W') : W'.ownsRow base e size s n xs :=
  ⟨h.1, by
    rcases h.2 with h2 | ⟨g, cap, cur, e1, hg, hgb, r⟩
    · exact .inl h2
    · exact .inr ⟨g, cap, cur, e1, hg, (hb.block g (Array.getElem?_eq_some_iff.1 hgb).1).trans hgb, r⟩⟩

end Go.Proofs.YtaeobgajhieajaaGreatDoor.Dm


namespace Go.Proofs.YtaeobgajhieajaaGreatDoor.Dm
open Go.RowKit Go.Shelf
set_option linter.unusedVariables false

theorem cutL_take (l : List Rg) (a b : Int) (k : Nat) (hk : k < l.length) : cutL (l.take (k + 1)) a b = cutL (l.take k) a b ++ (cut1 a b (lo l k, hi l k)).toList := by
  unfold cutL
  rw [List.take_add_one, List.getElem?_eq_getElem hk, List.filterMap_append, lo_get l k hk, hi_get l k hk]
  cases h : cut1 a b l[k] <;> simp [h]
theorem cutL_len (l : List Rg) (a b : Int) (k : Nat) : (cutL (l.take k) a b).length ≤ k := by
  unfold cutL
  have h1 := List.length_filterMap_le (cut1 a b) (l.take k)
  have h2 := List.length_take_le k l
  omega

end Go.Proofs.YtaeobgajhieajaaGreatDoor.Dm

