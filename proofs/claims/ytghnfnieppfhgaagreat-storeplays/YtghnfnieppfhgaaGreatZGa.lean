/- What is proved here: slices.Grow and slices.Concat of two slices of ranges, and dom.Either of any ranges. -/
import Derived.Test.YtghnfnieppfhgaaGreatZEfj
import Derived.Lib.AppendZerosOnto
set_option linter.unusedSimpArgs false
set_option linter.unusedVariables false
namespace Go.Proofs.YtghnfnieppfhgaaGreat.Dm
open Go.RowKit Go.Shelf
theorem run_app_none (w:World) (ty:TypeId) (base:Option Addr) (n c c':Nat) (hle:n≤c):(Builtin.append_ #[34,34] ty #[.slice base n c,.slice none 0 c']).run Tryz.prog w = .ok (.slice base n c) w:=by
 obtain ⟨i0,hi0,hz0,hz1,hz2⟩:=info_parts Tryz.info80
 have hf:(Builtin.firstCells i0.size 0 (.slice none 0 c')).run Tryz.prog w = .ok #[] w:=by simp [Builtin.firstCells]
 cases base<;>simp [Builtin.append_,run_underlying Tryz.underlying34,sizeOf,typeInfo,hi0,Builtin.lenOf,hle,hf,storeCells]
theorem srcells {w:World} {b off:Nat} {l:List Rg} (hcell:∀ i,i<l.length→w.cell? ⟨b,off+i*2,none⟩=some (.int .i64 (lo l i))∧w.cell? ⟨b,off+i*2+1,none⟩=some (.int .i64 (hi l i))) :
  ∀ j u,(flat l)[j]? = some u→w.cell? ((⟨b,off,none⟩:Addr).add j)=some u:=by
 intro j u hj
 rw [Addr.add_lit]
 have hjl:j<l.length*2:=by rw [←flat_length];exact (List.getElem?_eq_some_iff.1 hj).1
 obtain ⟨e1,e2⟩:=flat_even l (j / 2) (by omega)
 obtain ⟨c1,c2⟩:=hcell (j / 2) (by omega)
 rcases Nat.mod_two_eq_zero_or_one j with hm | hm
 ·rw [show j / 2*2=j from by omega] at e1 c1
  rw [e1] at hj;injection hj with hj;subst hj
  exact c1
 ·rw [show j / 2*2+1=j from by omega] at e2
  rw [show off+j / 2*2+1=off+j from by omega] at c2
  rw [e2] at hj;injection hj with hj;subst hj
  exact c2
end Go.Proofs.YtghnfnieppfhgaaGreat.Dm
