/- What is proved here: what sets.Must, Not and Card return of any domain. -/
import Derived.Test.YtghnfnieppfhgaaGreatYSfj
import Derived.Test.YtghnfnieppfhgaaGreatYCaj
import Derived.Deep.RegionHeld3
set_option linter.unusedVariables false
set_option linter.unusedSimpArgs false
namespace Go.Proofs.YtghnfnieppfhgaaGreat.St
open Go.RowKit Go.Shelf
theorem tight_look (s1 s2:Value) (lo up:List Int) (least most:Int) (W:World) (h1:Si W s1 lo) (h2:Si W s2 up) (hl1:lo.length≤1000) (hl2:up.length≤1000) :
  Calls Tryz.prog 115 #[s1,s2,.int .i64 least,.int .i64 most] W fun e w'=>∃ x0 p1 m1 k1 p2 m2 k2 x4 x5,e = .returned (.agg #[.bool x0,.slice none 0 0,.slice p1 m1 k1,.slice p2 m2 k2,.int .i64 x4,.int .i64 x5])∧Hid (Dv W.heap.size w' (.agg #[.bool x0,.slice none 0 0,.slice p1 m1 k1,.slice p2 m2 k2,.int .i64 x4,.int .i64 x5]) (tightD lo up least most))∧Below W.heap.size W w' :=
 (tight_any s1 s2 lo up least most W h1 h2 hl1 hl2).mono fun e w' ⟨v,he,hD,hb⟩=>by
  obtain ⟨x0,p1,m1,k1,p2,m2,k2,x4,x5,rfl,_⟩:=hD.look
  exact ⟨_,_,_,_,_,_,_,_,_,he,hD,hb⟩
theorem taken_look (v:Value) (d:SD) (W:World) (h:Di W v d) :
  Calls Tryz.prog 101 #[v] W fun e w'=>∃ x0 p1 m1 k1 p2 m2 k2 x4 x5,e = .returned (.agg #[.bool x0,.slice none 0 0,.slice p1 m1 k1,.slice p2 m2 k2,.int .i64 x4,.int .i64 x5])∧Hid (Dv W.heap.size w' (.agg #[.bool x0,.slice none 0 0,.slice p1 m1 k1,.slice p2 m2 k2,.int .i64 x4,.int .i64 x5]) (takenD d))∧Hid ((takenD d).least=x4∧(takenD d).most=x5)∧Hid (Si w' (.slice p1 m1 k1) (takenD d).lo)∧Hid (Si w' (.slice p2 m2 k2) (takenD d).up)∧Below W.heap.size W w' :=
 (taken_dom v d W h).mono fun e w' ⟨v,he,hD,hb⟩=>by
  obtain ⟨x0,p1,m1,k1,p2,m2,k2,x4,x5,rfl,HE,H1,H2⟩:=hD.look
  exact ⟨_,_,_,_,_,_,_,_,_,he,hD,⟨HE.out.2.2.2.1,HE.out.2.2.2.2.1⟩,own_si' H1.out HE.out.2.1,own_si' H2.out HE.out.2.2.1,hb⟩
theorem dv_si {B:Nat} {w:World} {x0:Bool} {p1 p2:Option Addr} {m1 k1 m2 k2:Nat} {x4 x5:Int} {d:SD} (h:Dv B w (.agg #[.bool x0,.slice none 0 0,.slice p1 m1 k1,.slice p2 m2 k2,.int .i64 x4,.int .i64 x5]) d):Si w (.slice p1 m1 k1) d.lo∧Si w (.slice p2 m2 k2) d.up:=by
 obtain ⟨slo,sup,e,e0,o1,o2⟩:=h
 injection e with e
 injection e with e
 injection e with _ e
 injection e with _ e
 injection e with e2 e
 injection e with e3 e
 subst e2 e3
 exact ⟨own_si o1,own_si o2⟩
end Go.Proofs.YtghnfnieppfhgaaGreat.St
