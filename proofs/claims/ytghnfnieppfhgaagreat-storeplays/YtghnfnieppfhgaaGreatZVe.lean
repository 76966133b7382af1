/- What is proved here: what Both of the reference returns of right ranges. -/
import Derived.Test.YtghnfnieppfhgaaGreatZVd
import Derived.Deep.RegionHeldLaw
set_option linter.unusedSimpArgs false
set_option linter.unusedVariables false
namespace Go.Proofs.YtghnfnieppfhgaaGreat.Dm
open Go.RowKit Go.Shelf
theorem own_srl {W:World} {base:Nat} {s:Value} {l:List Rg} (h:W.ownsRow base 80 2 s l.length (flat l)):Sr W s l:=by
 rcases Nat.eq_zero_or_pos l.length with h0 | h0
 ·rcases h.2 with ⟨e1,e2⟩ | ⟨g',cap',cur,e1,_⟩
  ·exact ⟨none,0,by rw [e1,h0],fun h1=>by omega⟩
  ·exact ⟨_,_,e1,fun h1=>by omega⟩
 ·obtain ⟨g,c,rfl,_,h2,h3⟩:=own_some h h0
  refine ⟨_,c,rfl,fun _=>⟨g,0,rfl,h2,fun i hi=>?_⟩⟩
  obtain ⟨e1,e2⟩:=flat_even l i hi
  rw [Nat.zero_add]
  exact ⟨h3 _ _ e1,h3 _ _ e2⟩
theorem pieces_take (c a:List Rg) (k:Nat) (hk:k<c.length):pieces (c.take (k+1)) a=pieces (c.take k) a++cutL a (lo c k) (hi c k):=by
 unfold pieces
 rw [take_two c k hk,List.flatMap_append]
 simp
theorem flat_app (a b:List Rg):flat (a++b)=flat a++flat b:=by unfold flat;rw [List.flatMap_append]
theorem pieces_len_take (c a:List Rg) (k:Nat):(pieces (c.take k) a).length≤(pieces c a).length:=by
 have:pieces c a=pieces (c.take k) a++pieces (c.drop k) a:=by unfold pieces;rw [←List.flatMap_append,List.take_append_drop]
 rw [this,List.length_append];omega
end Go.Proofs.YtghnfnieppfhgaaGreat.Dm
