/- What is proved here: Spoil: only the lists' own blocks are written into. -/
import Derived.Test.YtghnfnieppfhgaaGreatKaj
import Derived.Test.YtghnfnieppfhgaaGreatKgj
import Derived.Test.YtghnfnieppfhgaaGreatCaj
set_option linter.unusedVariables false
set_option linter.unusedSimpArgs false
set_option maxRecDepth 100000
set_option maxHeartbeats 4000000
namespace Go.Proofs.YtghnfnieppfhgaaGreat
open Go.RowKit Go.Shelf
def Wt (V:Nat→Prop) (w:World) (k:Nat) (s:Value):Prop:=∃ a n c,s = .slice a n c∧(0<n→∃ g off,a=some ⟨g,off,none⟩∧V g∧g<w.heap.size∧w.there g off (n*k))
theorem there_set {w:World} {g o n:Nat} (h:w.there g o n) (p:Addr) (v:Value):(w.setCell p v).there g o n:=fun j hj=>by
 obtain ⟨h1,h2⟩:=h j hj
 obtain ⟨u,hu⟩:=Option.isSome_iff_exists.1 h1
 obtain ⟨u',hu'⟩:=cell?_setCell_some (p:=p) (x:=v) hu
 exact ⟨by rw [hu'];rfl,by rw [World.frozen?_setCell];exact h2⟩
theorem there_bel {w w':World} (hb:Below w.heap.size w w') {g o n:Nat} (h:w.there g o n):w'.there g o n:=fun j hj=>by
 obtain ⟨h1,h2⟩:=h j hj
 have hg:g<w.heap.size:=by
  cases hh:w.heap[g]? with
  | none=>simp [World.cell?,hh] at h1
  | some ob=>exact (Array.getElem?_eq_some_iff.1 hh).1
 have hbk:=hb.block g hg
 rw [hb.cell (p:=⟨g,o+j,none⟩) hg]
 exact ⟨h1,by simp only [World.frozen?] at h2 ⊢;rw [hbk];exact h2⟩
structure Sp (V : Nat → Prop) (W w : World) : Prop where
 k:Kept V W w
 t:∀ g o n,W.there g o n→w.there g o n
theorem Sp.set {V:Nat→Prop} {W w:World} (h:Sp V W w) {g:Nat} (hg:V g) (o:Nat) (v:Value):Sp V W (w.setCell ⟨g,o,none⟩ v):=⟨h.k.setCell hg o v,fun g' o' n q=>there_set (h.t g' o' n q) _ _⟩
theorem Sp.cell {V:Nat→Prop} {W w:World} (h:Sp V W w) {g o n i:Nat} (ht:W.there g o n) (hi:i<n):∃ u,w.cell? ⟨g,o+i,none⟩=some u∧w.frozen? ⟨g,o+i,none⟩=false:=by
 obtain ⟨h1,h2⟩:=h.t _ _ _ ht i hi
 obtain ⟨u,hu⟩:=Option.isSome_iff_exists.1 h1
 exact ⟨u,hu,h2⟩
theorem spoil_x {V:Nat→Prop} {W:World} {b:Bool} {p0 p1 p2:Option Addr} {n0 k0 n1 k1 n2 k2:Nat} {x y:Int} (hV:∀ g,V g→g<W.heap.size) (h0:Wt V W 2 (.slice p0 n0 k0)) (h1:Wt V W 1 (.slice p1 n1 k1)) (h2:Wt V W 1 (.slice p2 n2 k2)) (l0:n0≤140737488351232) (l1:n1≤140737488351232) (l2:n2≤140737488351232) :
  Calls Tryz.prog 11 #[.agg #[.bool b,.slice p0 n0 k0,.slice p1 n1 k1,.slice p2 n2 k2,.int .i64 x,.int .i64 y]] W fun e w'=>e = .returned (.tuple #[])∧Sp V W w':=by
 obtain ⟨N,hN⟩:∃ q,W.heap.size=q:=⟨_,rfl⟩
 obtain ⟨W0,hW0⟩:∃ q,W.alloc (Obj.cells #[.bool b,.slice p0 n0 k0,.slice p1 n1 k1,.slice p2 n2 k2,.int .i64 x,.int .i64 y] 37)=q:=⟨_,rfl⟩
 have hb0:Below W.heap.size W W0:=by rw [←hW0];exact (Below.refl _ W).alloc (Nat.le_refl _) _
 have HX:Hid (Bx W0 N #[.bool b,.slice p0 n0 k0,.slice p1 n1 k1,.slice p2 n2 k2,.int .i64 x,.int .i64 y] 37):=by rw [←hW0];exact Bx.new' hN _ _
 have HNV:Hid (¬V N):=fun q=>by have:=hV N q;omega
 have wt:∀ {k:Nat} {p:Option Addr} {n c:Nat},Wt V W k (.slice p n c)→0<n→∃ g off,p=some ⟨g,off,none⟩∧V g∧g<W0.heap.size∧W0.there g off (n*k):=fun {k p n c} h hn=>by
  obtain ⟨a,n',c',e,h⟩:=h
  injection e with e1 e2 e3
  subst e1 e2
  obtain ⟨g,off,e,q1,q2,q3⟩:=h hn
  exact ⟨g,off,e,q1,Nat.lt_of_lt_of_le q2 hb0.size,fun j hj=>by
   have h1:=q3 j hj
   have hbk:=hb0.block g q2
   rw [hb0.cell (p:=⟨g,off+j,none⟩) q2]
   exact ⟨h1.1,by have:=h1.2;simp only [World.frozen?] at this ⊢;rw [hbk];exact this⟩⟩
 have H0:=hid (wt h0)
 have H1:Hid (0<n1→∃ g off,p1=some ⟨g,off,none⟩∧V g∧g<W0.heap.size∧W0.there g off n1):=by simpa [Hid] using wt h1
 have H2:Hid (0<n2→∃ g off,p2=some ⟨g,off,none⟩∧V g∧g<W0.heap.size∧W0.there g off n2):=by simpa [Hid] using wt h2
 have HP:Hid (Sp V W0 W0):=⟨Kept.refl _ _,fun _ _ _ q=>q⟩
 have HFIN:Hid (∀ w,Sp V W0 w→Sp V W w):=fun w k=>⟨(Kept.of_below hb0).trans k.k (Up.refl _ _),fun g o n q=>k.t g o n (there_bel hb0 q)⟩
 have HW0:Hid _:=hW0
 have HN:Hid _:=hN
 obtain ⟨z0,z1,z2,z3,z4,z5⟩:=HX.out.six
 clear hW0 hN hb0 h0 h1 h2 hV wt
 go_enter Tryz.func11,Tryz.ntmps11
 go_upto_region 2 with (fail)
 (try rw [HW0.out]);(try rw [HN.out])
 clear z0 z1 z2 z3 z4 z5
 go_loopw [2] (fun i wr=>∃ k:Nat,k≤n0∧i = .int .i64 (k:Int)∧Hid (Sp V W0 wr)) (fun i _=>n0-(intOf i).toNat)
 case atStart=>exact ⟨0,Nat.zero_le _,rfl,HP⟩
 case round =>
  clear HP
  obtain ⟨k,hk,rfl,HP⟩:=hrel
  obtain ⟨z0,z1,z2,z3,z4,z5⟩:=(HX.out.kept HP.out.k HNV.out).six
  have hki:(k:Int)≤140737488351232:=by omega
  by_cases hlt:k<n0
  ·have hlt':(k:Int)<(n0:Int):=by omega
   have hwk:IntKind.i64.wrap ((k:Int)+1)=(k:Int)+1:=by rw [IntKind.wrap_i64];omega
   obtain ⟨g,off,rfl,hV,hgl,hth⟩:=H0.out (by omega)
   obtain ⟨u,q1,q2⟩:=HP.out.cell (i:=k*2) hth (by omega)
   have HNX:Hid (Sp V W0 (wr.setCell ⟨g,off+k*2,none⟩ (.int .i64 99))):=HP.out.set hV _ _
   clear hV hgl hth
   go_wp2
   go_roundw
   case rel=>exact ⟨k+1,by omega,by go_num,HNX⟩
   case measure=>simp [intOf];omega
  ·have hlt':¬(k:Int)<(n0:Int):=by omega
   clear hk hlt
   go_wp2
   clear z0 z1 z2 z3 z4 z5 hlt'
   go_loopw [3] (fun i wr=>∃ k:Nat,k≤n1∧i = .int .i64 (k:Int)∧Hid (Sp V W0 wr)) (fun i _=>n1-(intOf i).toNat)
   case atStart=>exact ⟨0,Nat.zero_le _,rfl,HP⟩
   case round =>
    clear HP
    obtain ⟨k,hk,rfl,HP⟩:=hrel
    obtain ⟨z0,z1,z2,z3,z4,z5⟩:=(HX.out.kept HP.out.k HNV.out).six
    have hki:(k:Int)≤140737488351232:=by omega
    by_cases hlt:k<n1
    ·have hlt':(k:Int)<(n1:Int):=by omega
     have hwk:IntKind.i64.wrap ((k:Int)+1)=(k:Int)+1:=by rw [IntKind.wrap_i64];omega
     obtain ⟨g,off,rfl,hV,hgl,hth⟩:=H1.out (by omega)
     obtain ⟨u,q1,q2⟩:=HP.out.cell (i:=k) hth (by omega)
     have HNX:Hid (Sp V W0 (wr.setCell ⟨g,off+k,none⟩ (.int .i64 99))):=HP.out.set hV _ _
     clear hV hgl hth
     go_wp2
     go_roundw
     case rel=>exact ⟨k+1,by omega,by go_num,HNX⟩
     case measure=>simp [intOf];omega
    ·have hlt':¬(k:Int)<(n1:Int):=by omega
     clear hk hlt
     go_wp2
     clear z0 z1 z2 z3 z4 z5 hlt'
     go_loopw [4] (fun i wr=>∃ k:Nat,k≤n2∧i = .int .i64 (k:Int)∧Hid (Sp V W0 wr)) (fun i _=>n2-(intOf i).toNat)
     case atStart=>exact ⟨0,Nat.zero_le _,rfl,HP⟩
     case round =>
      clear HP
      obtain ⟨k,hk,rfl,HP⟩:=hrel
      obtain ⟨z0,z1,z2,z3,z4,z5⟩:=(HX.out.kept HP.out.k HNV.out).six
      have hki:(k:Int)≤140737488351232:=by omega
      by_cases hlt:k<n2
      ·have hlt':(k:Int)<(n2:Int):=by omega
       have hwk:IntKind.i64.wrap ((k:Int)+1)=(k:Int)+1:=by rw [IntKind.wrap_i64];omega
       obtain ⟨g,off,rfl,hV,hgl,hth⟩:=H2.out (by omega)
       obtain ⟨u,q1,q2⟩:=HP.out.cell (i:=k) hth (by omega)
       have HNX:Hid (Sp V W0 (wr.setCell ⟨g,off+k,none⟩ (.int .i64 98))):=HP.out.set hV _ _
       clear hV hgl hth
       go_wp2
       go_roundw
       case rel=>exact ⟨k+1,by omega,by go_num,HNX⟩
       case measure=>simp [intOf];omega
      ·have hlt':¬(k:Int)<(n2:Int):=by omega
       clear hk hlt
       go_wp2
       clear z0 z1 z2 z3 z4 z5 hlt'
       exact ⟨rfl,_,results_none rfl _ _ _,rfl,HFIN.out _ HP.out⟩
theorem Du.wt {Z V:Nat→Prop} {w:World} {c:List Value} {d:MD} (h:Du Z w c d) (hV:∀ b,b<w.heap.size→¬Z b→V b) :
  ∃ p0 k0 p1 k1 p2 k2,c=[.bool d.set,.slice p0 d.r.length k0,.slice p1 d.lo.length k1,.slice p2 d.up.length k2,.int .i64 d.least,.int .i64 d.most]∧Wt V w 2 (.slice p0 d.r.length k0)∧Wt V w 1 (.slice p1 d.lo.length k1)∧Wt V w 1 (.slice p2 d.up.length k2):=by
 obtain ⟨ra,rc,a1,c1,a2,c2,e,h1,h2,h3⟩:=h
 have fz:∀ {b:Nat} {cur:Array Value} {t:TypeId},w.heap[b]? = some (.cells cur t (0,0))→∀ o,w.frozen? ⟨b,o,none⟩=false:=fun hb o=>by simp [World.frozen?,hb]
 have nu:∀ {a:Option Addr} {c:Nat} {l:List Int},Nu Z w (.slice a l.length c) l→Wt V w 1 (.slice a l.length c):=fun {a c l} h=>by
  obtain ⟨a',c',e,h⟩:=h
  refine ⟨a',l.length,c',e,fun h0=>?_⟩
  obtain ⟨b,off,cur,t,e1,e2,e3,e4⟩:=h h0
  have hb:=(Array.getElem?_eq_some_iff.1 e3).1
  refine ⟨b,off,e1,hV b hb e2,hb,fun j hj=>⟨?_,fz e3 _⟩⟩
  rw [e4 j _ (List.getElem?_eq_getElem (by omega))];rfl
 have ru:∀ {a:Option Addr} {c:Nat} {l:List Dm.Rg},Ru Z w (.slice a l.length c) l→Wt V w 2 (.slice a l.length c):=fun {a c l} h=>by
  obtain ⟨a',c',e,h⟩:=h
  refine ⟨a',l.length,c',e,fun h0=>?_⟩
  obtain ⟨b,off,cur,t,e1,e2,e3,e4⟩:=h h0
  have hb:=(Array.getElem?_eq_some_iff.1 e3).1
  refine ⟨b,off,e1,hV b hb e2,hb,fun j hj=>⟨?_,fz e3 _⟩⟩
  have h5:=e4 (j / 2) (by omega)
  rcases Nat.mod_two_eq_zero_or_one j with q | q
  ·rw [show off+j=off+j / 2*2 by omega,h5.1];rfl
  ·rw [show off+j=off+j / 2*2+1 by omega,h5.2];rfl
 exact ⟨ra,rc,a1,c1,a2,c2,e,ru h1,nu h2,nu h3⟩
theorem Wt.sp {V:Nat→Prop} {w w':World} {k:Nat} {s:Value} (h:Wt V w k s) (hs:Sp V w w'):Wt V w' k s:=by
 obtain ⟨a,n,c,e,h⟩:=h
 refine ⟨a,n,c,e,fun h0=>?_⟩
 obtain ⟨g,off,e1,e2,e3,e4⟩:=h h0
 exact ⟨g,off,e1,e2,Nat.lt_of_lt_of_le e3 hs.k.size,hs.t _ _ _ e4⟩
theorem Sp.refl (V:Nat→Prop) (w:World):Sp V w w:=⟨Kept.refl _ _,fun _ _ _ q=>q⟩
theorem Sp.trans {V:Nat→Prop} {a b c:World} (h:Sp V a b) (k:Sp V b c):Sp V a c:=⟨h.k.trans k.k (Up.refl _ _),fun g o n q=>k.t g o n (h.t g o n q)⟩
theorem spoil_u {Z V:Nat→Prop} {W w:World} {c:List Value} {d:MD} (h:Du Z W c d) (hV:∀ b,b<W.heap.size→¬Z b→V b) (hW:∀ b,V b→b<W.heap.size) (hs:Sp V W w) (l0:d.r.length≤140737488351232) (l1:d.lo.length≤140737488351232) (l2:d.up.length≤140737488351232) :
  Calls Tryz.prog 11 #[.agg c.toArray] w fun e w'=>e = .returned (.tuple #[])∧Sp V W w':=by
 obtain ⟨p0,k0,p1,k1,p2,k2,rfl,h0,h1,h2⟩:=h.wt hV
 exact (spoil_x (fun b q=>Nat.lt_of_lt_of_le (hW b q) hs.k.size) (h0.sp hs) (h1.sp hs) (h2.sp hs) l0 l1 l2).mono fun e w' ⟨q1,q2⟩=>⟨q1,hs.trans q2⟩
end Go.Proofs.YtghnfnieppfhgaaGreat
