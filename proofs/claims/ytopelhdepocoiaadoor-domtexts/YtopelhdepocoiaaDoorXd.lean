/-
  What is proved here: slices.Clone of ranges and of words; dom.Each.
-/
import Derived.Test.YtopelhdepocoiaaDoorXc
import Derived.Lib.SliceRun
import Derived.Lib.Walk
namespace Go.Proofs.YtopelhdepocoiaaDoor
open Go.RowKit Go.Shelf

theorem Tryd.info34 : (Tryd.prog.info? 34).map (fun i => (i.zero, i.size, i.bytes)) = some (some (.agg #[.int .i64 0, .int .i64 0]), 2, 16) := by kernel_rfl

def flat (l : List Rg) : List Value := l.flatMap fun r => [.int .i64 r.1, .int .i64 r.2]
theorem flat_length (l : List Rg) : (flat l).length = l.length * 2 := by
  unfold flat; induction l with
  | nil => rfl
  | cons a t ih => rw [List.flatMap_cons, List.length_append, ih]; simp; omega
theorem flat_even (l : List Rg) : ∀ i, i < l.length → (flat l)[i * 2]? = some (.int .i64 (lo l i)) ∧ (flat l)[i * 2 + 1]? = some (.int .i64 (hi l i)) := by
  induction l with
  | nil => intro i hi; simp at hi
  | cons a t ih =>
    intro i hi'
    cases i with
    | zero => simp [flat, lo, hi]
    | succ i =>
      have := ih i (by simpa using hi')
      have e : flat (a :: t) = .int .i64 a.1 :: .int .i64 a.2 :: flat t := by simp [flat]
      rw [e, show (i + 1) * 2 = i * 2 + 1 + 1 from by omega]
      simpa [lo, hi] using this

/-- Words as values. -/
def words (ws : List Nat) : List Value := ws.map fun x : Nat => .int .u64 (x : Int)
end Go.Proofs.YtopelhdepocoiaaDoor

