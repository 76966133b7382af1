/- What is proved here: what dom.inBounds, dom.Right, dom.known, dom.Min and dom.Max return of any ranges. -/
import Derived.Test.YtghnfnieppfhgaaGreatRows
import Derived.Test.YtghnfnieppfhgaaGreatZMathj
import Derived.RangeFuncNested
import Derived.RangeFuncBound
import Derived.RangeFuncCalls
import Derived.RangeFuncLeaves
import Derived.Shelf.Abstract
import Derived.Shelf.RegionOpen
import Derived.WalkKit
import Derived.OwnWalkIn
import Derived.TacticsInMore
import Derived.LoopNIn
import Derived.LoopIn
import Derived.Laws.Externs
import Derived.Deep.QuietTactic
import Derived.BigQuiet
set_option linter.unusedSimpArgs false
set_option linter.unusedVariables false
set_option maxHeartbeats 400000
namespace Go.Proofs.YtghnfnieppfhgaaGreat.Dm
open Go.RowKit
def Fits (a:Int):Prop:=-9223372036854775808≤a∧a≤9223372036854775807
def FitsR (l:List Rg):Prop:=∀ i,i<l.length→Fits (lo l i)∧Fits (hi l i)
def Sr (W:World) (s:Value) (l:List Rg):Prop :=
 ∃ a cap,s = .slice a l.length cap∧(0<l.length→∃ b off,a=some ⟨b,off,none⟩∧b<W.heap.size∧∀ i,i<l.length→W.cell? ⟨b,off+i*2,none⟩=some (.int .i64 (lo l i))∧W.cell? ⟨b,off+i*2+1,none⟩=some (.int .i64 (hi l i)))
theorem Sr.below {W W':World} {s:Value} {l:List Rg} (h:Sr W s l) (hb:Below W.heap.size W W'):Sr W' s l:=by
 obtain ⟨a,cap,e,hc⟩:=h
 refine ⟨a,cap,e,fun h0=>?_⟩
 obtain ⟨b,off,e1,hlt,hcell⟩:=hc h0
 exact ⟨b,off,e1,Nat.lt_of_lt_of_le hlt hb.size,fun i hi=>⟨(hb.cell (p:=⟨b,off+i*2,none⟩) hlt).trans (hcell i hi).1,(hb.cell (p:=⟨b,off+i*2+1,none⟩) hlt).trans (hcell i hi).2⟩⟩
theorem inb_yes (a b:Int) (w:World) (h:a≤b) (h1 : -1000000≤a) (h2:b≤1000000) :
  Calls Tryz.prog 96 #[.agg #[.int .i64 a,.int .i64 b]] w fun e w'=>e = .returned (.bool true)∧Below w.heap.size w w':=by
 have h3:a≤1000000:=by omega
 go_enter Tryz.func96,Tryz.ntmps96
 go_wp2
 all_goals
  go_ret
  exact ⟨rfl,(Below.refl _ _).alloc (Nat.le_refl _) _⟩
theorem inb_no (a b:Int) (w:World) (h:a≤b) (h1:¬(-1000000≤a∧b≤1000000)) :
  Calls Tryz.prog 96 #[.agg #[.int .i64 a,.int .i64 b]] w fun e w'=>e = .returned (.bool false)∧Below w.heap.size w w':=by
 by_cases h2 : -1000000≤a
 ·have h3:1000000<b:=by omega
  by_cases h4:a=b
  ·subst h4
   have hd:decide (a≤1000000)=false:=by simp;omega
   clear h1
   go_enter Tryz.func96,Tryz.ntmps96
   go_wp2
   all_goals
    go_ret
    exact ⟨rfl,(Below.refl _ _).alloc (Nat.le_refl _) _⟩
  ·have h5:a<b:=by omega
   have hd:decide (b≤1000000)=false:=by simp;omega
   clear h4 h h1
   go_enter Tryz.func96,Tryz.ntmps96
   go_wp2
   all_goals
    go_ret
    exact ⟨rfl,(Below.refl _ _).alloc (Nat.le_refl _) _⟩
 ·have h3:a < -1000000:=by omega
  by_cases h4:a=b
  ·subst h4
   clear h1
   go_enter Tryz.func96,Tryz.ntmps96
   go_wp2
   all_goals
    go_ret
    exact ⟨rfl,(Below.refl _ _).alloc (Nat.le_refl _) _⟩
  ·have h5:a<b:=by omega
   clear h4 h h1
   go_enter Tryz.func96,Tryz.ntmps96
   go_wp2
   all_goals
    go_ret
    exact ⟨rfl,(Below.refl _ _).alloc (Nat.le_refl _) _⟩
theorem bcell {W w1:World} (hb:Below W.heap.size W w1):(∀ b o,b<W.heap.size→w1.cell? ⟨b,o,none⟩=W.cell? ⟨b,o,none⟩)∧(∀ b o,b<W.heap.size→w1.frozen? ⟨b,o,none⟩=W.frozen? ⟨b,o,none⟩) :=
 ⟨fun b o h=>hb.cell (p:=⟨b,o,none⟩) h,fun b o h=>hb.frozen (p:=⟨b,o,none⟩) h⟩
end Go.Proofs.YtghnfnieppfhgaaGreat.Dm
