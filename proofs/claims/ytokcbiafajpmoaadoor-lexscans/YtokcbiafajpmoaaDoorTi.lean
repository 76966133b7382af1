/-
  What is proved here: what the reference's one answers.
-/
import Derived.Test.YtokcbiafajpmoaaDoorTe
import Derived.Test.YtokcbiafajpmoaaDoorTf
import Derived.Test.YtokcbiafajpmoaaDoorTg
import Derived.Test.YtokcbiafajpmoaaDoorTh
namespace Go.Proofs.YtokcbiafajpmoaaDoor
open Go.RowKit
set_option linter.unusedVariables false
set_option linter.unusedSimpArgs false

theorem one25 (l : List UInt8) (a : Nat) (c : UInt8) (hc : l[a]? = some c) (hl : l.length ≤ 65536) (W : World) :
    Calls Tryd.prog 25 #[.string (bs l), .int .i64 (a : Int)] W fun e w' => e = endR (oneR (l.drop a)) l a ∧ Below W.heap.size W w' := by
  cases hl1 : letB c with
  | true => exact one25w l a c hc hl1 hl W
  | false =>
    by_cases h45 : c = 45
    · exact one25n l a c hc hl1 (.inl h45) hl W
    · cases hd : digB c with
      | true => exact one25n l a c hc hl1 (.inr hd) hl W
      | false =>
        by_cases h34 : c = 34
        · exact one25q l a c hc h34 hl W
        · exact one25s l a c hc hl1 h45 hd h34 hl W
end Go.Proofs.YtokcbiafajpmoaaDoor
