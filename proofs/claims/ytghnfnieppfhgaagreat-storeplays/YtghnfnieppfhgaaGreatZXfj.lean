/- What is proved here: what dom.Each hands back of right ranges. What is proved here: rows that a call owns: a store into one, and a row of two new cells. What is proved here: the reference's Right of right ranges; the ranges of a set that was made of ranges are these. What is proved here: what the reference's Right, Taken, Min and Max return of any ranges. What is proved here: what not and Cut of the reference return of right ranges. What is proved here: what Cut of the reference returns of right ranges. What is proved here: what the reference's Alike tells of slices with the same ranges; what its Lent makes. What is proved here: Size of any ranges, the reference's and the program's. What is proved here: the program's Size of right ranges. -/
import Derived.Test.YtghnfnieppfhgaaGreatZXdj
import Derived.Deep.WholeRow
import Derived.Test.YtghnfnieppfhgaaGreatZMathj
set_option linter.unusedSimpArgs false
set_option linter.unusedVariables false
set_option maxHeartbeats 4000000
set_option maxRecDepth 100000
namespace Go.Proofs.YtghnfnieppfhgaaGreat.Dm
open Go.RowKit Go.Shelf
theorem cell_row {W:World} {g:Nat} {cur:Array Value} {t:TypeId} (h:W.heap[g]? = some (.cells cur t (0,0))) (j:Nat):W.cell? ⟨g,j,none⟩=cur[j]?:=by simp [World.cell?,h]
theorem own_some {W:World} {base e size n:Nat} {s:Value} {xs:List Value} (h:W.ownsRow base e size s n xs) (h0:0<n):∃ g cap,s = .slice (some ⟨g,0,none⟩) n cap∧base≤g∧g<W.heap.size∧∀ j u,xs[j]? = some u→W.cell? ⟨g,j,none⟩=some u:=by
 rcases h.2 with ⟨_,e0⟩ | ⟨g,cap,cur,rfl,hg,hgb,hc1,hc2,hc3,hc4⟩
 ·omega
 ·refine ⟨g,cap,rfl,hg,(Array.getElem?_eq_some_iff.1 hgb).1,fun j u hj=>?_⟩
  rw [cell_row hgb,←hj,←hc4,List.getElem?_take]
  have hjl:j<n*size:=by rw [←h.1];exact (List.getElem?_eq_some_iff.1 hj).1
  rw [if_pos hjl];simp
attribute [local go_sem] Oper.semAt_some
theorem row_set {W:World} {A:Nat} {cur:Array Value} {t:TypeId} (h:W.heap[A]? = some (.cells cur t (0,0))) (q:Nat) (v:Value):(W.setCell ⟨A,q,none⟩ v).heap[A]? = some (.cells (cur.setIfInBounds q v) t (0,0)):=by
 obtain ⟨hlt,hk⟩:=Array.getElem?_eq_some_iff.1 h
 show (W.heap.modify A _)[A]? = _
 rw [Array.getElem?_eq_getElem (by rw [Array.size_modify];exact hlt),Array.getElem_modify_self,hk]
 rfl
theorem own_set {W:World} {base e size n g cap j:Nat} {xs:List Value} (h:W.ownsRow base e size (.slice (some ⟨g,0,none⟩) n cap) n xs) (v:Value):(W.setCell ⟨g,j,none⟩ v).ownsRow base e size (.slice (some ⟨g,0,none⟩) n cap) n (xs.set j v):=by
 refine ⟨by rw [List.length_set];exact h.1,?_⟩
 rcases h.2 with ⟨e1,_⟩ | ⟨g',cap',cur,e1,hg,hgb,h1,h2,h3,h4⟩
 ·cases e1
 ·have e':=e1
  injection e' with e2 _ e3;injection e2 with e2;injection e2 with e2;subst e2;subst e3
  exact .inr ⟨g,cap,_,rfl,hg,row_set hgb j v,h1,h2,by rw [Array.size_setIfInBounds];exact h3,by rw [Array.toList_setIfInBounds,List.take_set,h4]⟩
theorem own_frozen {W:World} {base e size n g cap:Nat} {xs:List Value} (h:W.ownsRow base e size (.slice (some ⟨g,0,none⟩) n cap) n xs) (j:Nat):W.frozen? ⟨g,j,none⟩=false:=by
 rcases h.2 with ⟨e1,_⟩ | ⟨g',cap',cur,e1,hg,hgb,_⟩
 ·cases e1
 ·injection e1 with e2 _ e3;injection e2 with e2;injection e2 with e2;subst e2
  simp [World.frozen?,hgb]
theorem own_ge {W:World} {base e size n g cap:Nat} {xs:List Value} (h:W.ownsRow base e size (.slice (some ⟨g,0,none⟩) n cap) n xs):base≤g∧g<W.heap.size:=by
 rcases h.2 with ⟨e1,_⟩ | ⟨g',cap',cur,e1,hg,hgb,_⟩
 ·cases e1
 ·injection e1 with e2 _ e3;injection e2 with e2;injection e2 with e2;subst e2
  exact ⟨hg,(Array.getElem?_eq_some_iff.1 hgb).1⟩
theorem flat_set (o:List Rg) (i:Nat) (v:Int) (hi':i<o.length):(flat o).set (i*2+1) (.int .i64 v)=flat (o.set i (lo o i,v)):=by
 induction o generalizing i with
 | nil=>simp at hi'
 | cons a t ih =>
  have e:∀ (a:Rg) (t:List Rg),flat (a :: t) = .int .i64 a.1 :: .int .i64 a.2 :: flat t:=fun a t=>by simp [flat]
  cases i with
  | zero=>rw [List.set_cons_zero,e,e];simp [lo]
  | succ i =>
   rw [List.set_cons_succ,e,e,show (i+1)*2+1=i*2+1+1+1 by omega,List.set_cons_succ,List.set_cons_succ,ih i (by simpa using hi')]
   have:lo (a :: t) (i+1)=lo t i:=by simp [lo]
   rw [this]
theorem cell_two_new (w:World) (x y:Value) (t:TypeId):∀ j u,[x,y][j]? = some u→(w.alloc (.cells #[x,y] t)).cell? ((⟨w.heap.size,0,none⟩:Addr).add j)=some u:=by
 intro j u hj
 have h:=World.alloc_heap_new w (.cells #[x,y] t)
 rw [Addr.add_lit,Nat.zero_add,cell_row h]
 simpa using hj
theorem own_base {W:World} {base b' e size n:Nat} {s:Value} {xs:List Value} (h:W.ownsRow base e size s n xs) (hb:b'≤base):W.ownsRow b' e size s n xs:=by
 refine ⟨h.1,?_⟩
 rcases h.2 with h | ⟨g,cap,cur,e1,hg,r⟩
 ·exact .inl h
 ·exact .inr ⟨g,cap,cur,e1,Nat.le_trans hb hg,r⟩
end Go.Proofs.YtghnfnieppfhgaaGreat.Dm
namespace Go.Proofs.YtghnfnieppfhgaaGreat.Dm
open Go.RowKit Go.Shelf
def inV (v:Int):Bool:=decide (-1000000≤v∧v≤1000000)
theorem inV_yes {v:Int} (h1 : -1000000≤v) (h2:v≤1000000):inV v=true:=by unfold inV;simp;omega
theorem inV_no {v:Int} (h:¬(-1000000≤v∧v≤1000000)):inV v=false:=by unfold inV;exact decide_eq_false h
theorem in_any (v:Int) (w:World) :
  Calls Tryz.prog 83 #[.int .i64 v] w fun e w'=>e = .returned (.bool (inV v))∧w'=w:=by
 by_cases h1 : -1000000≤v
 ·have d1:decide (-1000000≤v)=true:=by simpa using h1
  by_cases h2:v≤1000000
  ·rw [inV_yes h1 h2]
   go_enter Tryz.func83,Tryz.ntmps83
   go_wp2
   go_ret
   exact ⟨rfl,rfl⟩
  ·have d2:decide (v≤1000000)=false:=by simp;omega
   rw [inV_no (fun h=>h2 h.2)]
   go_enter Tryz.func83,Tryz.ntmps83
   go_wp2
   go_ret
   exact ⟨rfl,rfl⟩
 ·have d1:decide (-1000000≤v)=false:=by simp;omega
  rw [inV_no (fun h=>h1 h.1)]
  go_enter Tryz.func83,Tryz.ntmps83
  go_wp2
  go_ret
  exact ⟨rfl,rfl⟩
theorem refright_none (a:Option Addr) (cap:Nat) (w:World) :
  Calls Tryz.prog 60 #[.slice a 0 cap] w fun e w'=>e = .returned (.bool true)∧∃ n,w'=w.drewN n:=by
 go_enter Tryz.func60,Tryz.ntmps60
 go_wp2
 go_loop [3] (fun i=>i = .int .i64 0) (fun _=>0)
 case atStart=>rfl
 case round =>
  obtain rfl:=hrel
  go_wp2
  go_ret
  exact ⟨rfl,0,rfl⟩
theorem refright_long (a:Option Addr) (n cap:Nat) (w:World) (h:4096<n) :
  Calls Tryz.prog 60 #[.slice a n cap] w fun e w'=>e = .returned (.bool false)∧∃ n,w'=w.drewN n:=by
 have h':4096<(n:Int):=by omega
 go_enter Tryz.func60,Tryz.ntmps60
 go_wp2
 go_ret
 exact ⟨rfl,0,rfl⟩
theorem refright_some (b off cap:Nat) (l:List Rg) (w:World) (h0:0<l.length) (hlen:l.length≤4096)
  (hcell:∀ i,i<l.length→w.cell? ⟨b,off+i*2,none⟩=some (.int .i64 (lo l i))∧w.cell? ⟨b,off+i*2+1,none⟩=some (.int .i64 (hi l i))) :
  Calls Tryz.prog 60 #[.slice (some ⟨b,off,none⟩) l.length cap] w fun e w'=>e = .returned (.bool (rightB l))∧∃ n,w'=w.drewN n:=by
 obtain ⟨n,hn⟩:∃ n,l.length=n:=⟨_,rfl⟩
 have HN:Hid (l.length=n):=hn
 rw [hn] at h0 hlen hcell ⊢
 have HC:Hid (∀ i,i<n→w.cell? ⟨b,off+i*2,none⟩=some (.int .i64 (lo l i))∧w.cell? ⟨b,off+i*2+1,none⟩=some (.int .i64 (hi l i))):=hcell
 have hn':¬(4096<(n:Int)):=by omega
 clear hn hcell
 go_enter Tryz.func60,Tryz.ntmps60
 go_wp2
 go_loopw [3] (fun i wr=>∃ k:Nat,k≤n∧i = .int .i64 k∧(∀ j,j<k→OkAt l j)∧∃ m,wr=w.drewN m) (fun i _=>n-(intOf i).toNat)
 case atStart=>exact ⟨0,Nat.zero_le _,rfl,fun j hj=>absurd hj (by omega),0,rfl⟩
 case round =>
  obtain ⟨k,hk,rfl,hok,m,rfl⟩:=hrel
  have HOK:Hid (∀ j,j<k→OkAt l j):=hok
  clear hok
  by_cases hlt2:k<n
  ·obtain ⟨W2,hW2⟩:∃ W2,w.drewN m=W2:=⟨_,rfl⟩
   have HW2:Hid (w.drewN m=W2):=hW2
   have HC2:Hid (∀ i,i<n→W2.cell? ⟨b,off+i*2,none⟩=some (.int .i64 (lo l i))∧W2.cell? ⟨b,off+i*2+1,none⟩=some (.int .i64 (hi l i))):=by rw [←hW2];exact HC.out
   rw [hW2]
   clear hW2
   obtain ⟨d1,d2⟩:=HC2.out k hlt2
   obtain ⟨x,hx⟩:∃ x,lo l k=x:=⟨_,rfl⟩
   obtain ⟨y,hy⟩:∃ y,hi l k=y:=⟨_,rfl⟩
   have HX:Hid (lo l k=x):=hx
   have HY:Hid (hi l k=y):=hy
   rw [hx] at d1;rw [hy] at d2
   have hnot:¬OkAt l k→rightB l=false:=fun h=>rightB_no fun hR=>h (hR.2 k (by rw [HN.out];exact hlt2))
   have HNOT:Hid (¬OkAt l k→rightB l=false):=hnot
   clear hx hy hnot
   by_cases hA : -1000000≤x∧x≤1000000
   ·have hix:inV x=true:=inV_yes hA.1 hA.2
    obtain ⟨hA1,hA2⟩:=hA
    by_cases hB : -1000000≤y∧y≤1000000
    ·have hiy:inV y=true:=inV_yes hB.1 hB.2
     obtain ⟨hB1,hB2⟩:=hB
     by_cases hC:y<x
     ·have hd1:decide (y<x)=true:=by simpa using hC
      go_wp2
      go_quiet ((go_at_call 83;exact Calls.quiet_of_same (in_any _ _)))
      go_wp2
      go_ret
      exact ⟨ret_bool (HNOT.out (fun h=>by have:=h.1;rw [HX.out,HY.out] at this;omega)).symm,_,by rw [←HW2.out,World.drewN_drewN]⟩
     ·have hd1:decide (y<x)=false:=by simp;omega
      by_cases hk0:0<k
      ·obtain ⟨_,d3⟩:=HC2.out (k-1) (by omega)
       have okp:=HOK.out (k-1) (by omega)
       unfold OkAt at okp
       obtain ⟨z,hz⟩:∃ z,hi l (k-1)=z:=⟨_,rfl⟩
       have HZ:Hid (hi l (k-1)=z):=hz
       rw [hz] at d3 okp
       obtain ⟨p1,p2,p3,_⟩:=okp
       have hd0:decide (0<k)=true:=by simpa using hk0
       have hk1:(k:Int)-1=((k-1:Nat):Int):=by omega
       have hz1 : -1000000≤z:=by omega
       clear hz p1 p2
       by_cases hD:x≤z+1
       ·have hd2:decide (x≤z+1)=true:=by simpa using hD
        go_wp2
        go_quiet ((go_at_call 83;exact Calls.quiet_of_same (in_any _ _)))
        go_wp2
        go_ret
        exact ⟨ret_bool (HNOT.out (fun h=>by have:=h.2.2.2 hk0;rw [HX.out,HZ.out] at this;omega)).symm,_,by rw [←HW2.out,World.drewN_drewN]⟩
       ·have hd2:decide (x≤z+1)=false:=by simp;omega
        have hok2:OkAt l k:=⟨by rw [HX.out,HY.out];omega,by rw [HX.out];exact hA1,by rw [HY.out];exact hB2,fun _=>by rw [HZ.out,HX.out];omega⟩
        have HOK2:Hid (OkAt l k):=hok2
        clear hok2
        go_wp2
        go_quiet ((go_at_call 83;exact Calls.quiet_of_same (in_any _ _)))
        go_wp2
        go_roundw
        case rel=>exact ⟨k+1,by omega,by go_num,fun j hj=>if h:j=k then by subst h;exact HOK2.out else HOK.out j (by omega),_,by rw [←HW2.out,World.drewN_drewN]⟩
        case measure=>simp [intOf];omega
      ·have hd0:decide (0<k)=false:=by simp;omega
       have hok2:OkAt l k:=⟨by rw [HX.out,HY.out];omega,by rw [HX.out];exact hA1,by rw [HY.out];exact hB2,fun h=>absurd h hk0⟩
       have HOK2:Hid (OkAt l k):=hok2
       clear hok2
       go_wp2
       go_quiet ((go_at_call 83;exact Calls.quiet_of_same (in_any _ _)))
       go_wp2
       go_roundw
       case rel=>exact ⟨k+1,by omega,by go_num,fun j hj=>if h:j=k then by subst h;exact HOK2.out else HOK.out j (by omega),_,by rw [←HW2.out,World.drewN_drewN]⟩
       case measure=>simp [intOf];omega
    ·have hiy:inV y=false:=inV_no hB
     go_wp2
     go_quiet ((go_at_call 83;exact Calls.quiet_of_same (in_any _ _)))
     go_wp2
     go_ret
     exact ⟨ret_bool (HNOT.out (fun h=>by have:=h.1;have h2:=h.2.2.1;rw [HX.out,HY.out] at this;rw [HY.out] at h2;omega)).symm,_,by rw [←HW2.out,World.drewN_drewN]⟩
   ·have hix:inV x=false:=inV_no hA
    go_wp2
    go_quiet ((go_at_call 83;exact Calls.quiet_of_same (in_any _ _)))
    go_wp2
    go_ret
    exact ⟨ret_bool (HNOT.out (fun h=>by have:=h.1;have h2:=h.2.2.1;have h3:=h.2.1;rw [HX.out,HY.out] at this;rw [HY.out] at h2;rw [HX.out] at h3;omega)).symm,_,by rw [←HW2.out,World.drewN_drewN]⟩
  ·go_wp2
   go_ret
   exact ⟨ret_bool (rightB_yes ⟨by rw [HN.out];exact hlen,fun i hi=>HOK.out i (by rw [HN.out] at hi;omega)⟩).symm,_,rfl⟩
theorem refright_any (s:Value) (l:List Rg) (w:World) (h:Sr w s l) :
  Calls Tryz.prog 60 #[s] w fun e w'=>e = .returned (.bool (rightB l))∧∃ n,w'=w.drewN n:=by
 obtain ⟨a,cap,rfl,hc⟩:=h
 by_cases hl:4096<l.length
 ·rw [rightB_no (fun h=>by have:=h.1;omega)]
  exact refright_long a _ cap w hl
 ·rcases Nat.eq_zero_or_pos l.length with h0 | h0
  ·rw [rightB_yes ⟨by omega,fun i hi=>by omega⟩,h0]
   exact refright_none a cap w
  ·obtain ⟨b,off,rfl,hlt,hcell⟩:=hc h0
   exact refright_some b off cap l w h0 (by omega) hcell
theorem taken_yes (s:Value) (l:List Rg) (w:World) (h:Sr w s l) (hR:Right l) :
  Calls Tryz.prog 89 #[s] w fun e w'=>e = .returned s∧∃ n,w'=w.drewN n:=by
 have hc:=refright_any s l w h
 rw [rightB_yes hR] at hc
 obtain ⟨a,cap,rfl,_⟩:=h
 go_enter Tryz.func89,Tryz.ntmps89
 go_wp2_with (go_at_call 60;refine hc.mono ?_;rintro e w1 ⟨rfl,n1,rfl⟩)
 go_ret
 exact ⟨rfl,_,rfl⟩
theorem taken_no (s:Value) (l:List Rg) (w:World) (h:Sr w s l) (hR:¬Right l) :
  Calls Tryz.prog 89 #[s] w fun e w'=>e = .returned (.slice none 0 0)∧∃ n,w'=w.drewN n:=by
 have hc:=refright_any s l w h
 rw [rightB_no hR] at hc
 obtain ⟨a,cap,rfl,_⟩:=h
 go_enter Tryz.func89,Tryz.ntmps89
 go_wp2_with (go_at_call 60;refine hc.mono ?_;rintro e w1 ⟨rfl,n1,rfl⟩)
 go_ret
 exact ⟨rfl,_,rfl⟩
theorem flat_two (o:List Rg) (x y:Int):flat (o++[(x,y)])=flat o++[.int .i64 x,.int .i64 y]:=by unfold flat;rw [List.flatMap_append];rfl
theorem own_keepB {W W':World} {base e size n:Nat} {s:Value} {xs:List Value} (h:W.ownsRow base e size s n xs) (hb:Below W.heap.size W W'):W'.ownsRow base e size s n xs :=
 ⟨h.1,by
  rcases h.2 with h2 | ⟨g,cap,cur,e1,hg,hgb,r⟩
  ·exact .inl h2
  ·exact .inr ⟨g,cap,cur,e1,hg,(hb.block g (Array.getElem?_eq_some_iff.1 hgb).1).trans hgb,r⟩⟩
theorem cutL_take (l:List Rg) (a b:Int) (k:Nat) (hk:k<l.length):cutL (l.take (k+1)) a b=cutL (l.take k) a b++(cut1 a b (lo l k,hi l k)).toList:=by
 unfold cutL
 rw [List.take_add_one,List.getElem?_eq_getElem hk,List.filterMap_append,lo_get l k hk,hi_get l k hk]
 cases h:cut1 a b l[k]<;>simp [h]
theorem cutL_len (l:List Rg) (a b:Int) (k:Nat):(cutL (l.take k) a b).length≤k:=by
 unfold cutL
 have h1:=List.length_filterMap_le (cut1 a b) (l.take k)
 have h2:=List.length_take_le k l
 omega
theorem refcut_any (s:Value) (l:List Rg) (a b:Int) (W:World) (h:Sr W s l) (hR:Right l) :
  Calls Tryz.prog 90 #[s,.int .i64 a,.int .i64 b] W fun e w'=>∃ s',e = .returned s'∧w'.ownsRow W.heap.size 80 2 s' (cutL l a b).length (flat (cutL l a b))∧(s' = .slice none 0 0↔cutL l a b=[])∧Below W.heap.size W w':=by
 obtain ⟨i0,hi0,hz0,hz1,hz2⟩:=info_parts Tryz.info80
 have kt:=taken_yes s l W h hR
 have hlen:=hR.1
 obtain ⟨sa,cap,rfl,hcell⟩:=h
 obtain ⟨n,hn⟩:∃ n,l.length=n:=⟨_,rfl⟩
 have HN:Hid (l.length=n):=hn
 have HC:Hid _:=hcell
 rw [hn] at hlen kt ⊢
 clear hn hcell hR
 go_enter Tryz.func90,Tryz.ntmps90
 go_wp2_with fail
 refine kt.mono ?_
 rintro e w0 ⟨rfl,m0,rfl⟩
 have hB0:Below W.heap.size W (W.drewN m0):=below_drewN (Below.refl _ _) m0
 clear kt
 go_wp2
 go_loopw [7,8,9] (fun o i _ wr=>∃ (k:Nat),k≤n∧i = .int .i64 k∧wr.ownsRow W.heap.size 80 2 o (cutL (l.take k) a b).length (flat (cutL (l.take k) a b))∧(o = .slice none 0 0↔cutL (l.take k) a b=[])∧Below W.heap.size W wr) (fun _ i _ _=>n-(intOf i).toNat)
 case atStart=>exact ⟨0,Nat.zero_le _,rfl,World.ownsRow_nil _ _ _ _,by simp [cutL],hB0⟩
 case round =>
  clear hB0
  obtain ⟨k,hk,rfl,hrow,hnil,hB⟩:=hrel
  have hsz:=hB.size
  by_cases hlt:k<n
  ·have hkl:k<l.length:=by rw [HN.out];exact hlt
   obtain ⟨sb,off,rfl,hb,hcells⟩:=HC.out (by omega)
   obtain ⟨c1,c2⟩:=hcells k hkl
   have d1:=(hB.cell (p:=⟨sb,off+k*2,none⟩) hb).trans c1
   have d2:=(hB.cell (p:=⟨sb,off+k*2+1,none⟩) hb).trans c2
   have htk:=cutL_take l a b k hkl
   have hcl:=cutL_len l a b k
   obtain ⟨x,hx⟩:∃ x,lo l k=x:=⟨_,rfl⟩
   obtain ⟨y,hy⟩:∃ y,hi l k=y:=⟨_,rfl⟩
   rw [hx] at d1 htk
   rw [hy] at d2 htk
   obtain ⟨os,hos⟩:∃ os,cutL (l.take k) a b=os:=⟨_,rfl⟩
   rw [hos] at hrow hnil htk hcl
   obtain ⟨m,hm⟩:∃ m,os.length=m:=⟨_,rfl⟩
   have HM:Hid (os.length=m):=hm
   rw [hm] at hrow hcl
   have hlt':(k:Int)<(n:Int):=by omega
   clear hcells c1 c2 hx hy hos hm hkl
   unfold cut1 at htk
   simp only at htk
   by_cases h1:x<a
   ·have e1:decide (x<a)=true:=by simpa using h1
    simp only [if_pos h1] at htk
    by_cases h2:b<y
    ·have e2:decide (b<y)=true:=by simpa using h2
     simp only [if_pos h2] at htk
     by_cases h3:a≤b
     ·have e3:decide (a≤b)=true:=by simpa using h3
      rw [if_pos h3] at htk
      simp only [Option.toList_some] at htk
      have hX:Below wr.heap.size wr (wr.alloc (Obj.cells #[.int .i64 a,.int .i64 b] 80)):=(Below.refl wr.heap.size wr).alloc (Nat.le_refl _) (Obj.cells #[.int .i64 a,.int .i64 b] 80)
      have hBX:Below W.heap.size W (wr.alloc (Obj.cells #[.int .i64 a,.int .i64 b] 80)):=hB.trans (hX.mono hsz)
      have hrX:=own_keepB hrow hX
      have HTK:Hid (cutL (l.take (k+1)) a b=os++[(a,b)]):=htk
      clear htk
      go_wp2_with (at_builtin;refine wpList_append_own _ rfl _ _ 34 rfl W.heap.size 80 i0 (.agg #[.int .i64 0,.int .i64 0]) 2 16 Tryz.underlying34 hi0 hz0 hz1 hz2 rfl (by decide) _ _ _ rfl (World.ownsRow.alloc hrX _) ⟨wr.heap.size+1,0,none⟩ 1 1 [.int .i64 a,.int .i64 b] rfl rfl (by have h9:=cell_two_new (wr.alloc (Obj.cells #[.int .i64 a,.int .i64 b] 80)) (.int .i64 a) (.int .i64 b) 80;rw [World.size_alloc] at h9;exact h9) (by simp [Value.oneCell']) (by unfold maxLen;omega) (by omega) (by have:=hBX.size;simp at this ⊢;omega) ?_;intro v' w1 hown' hgrow hnl;have hB1:Below W.heap.size W w1:=(hBX.alloc hBX.size _).grown hgrow (by have:=hBX.size;simp at this ⊢;omega) (fun j e=>(World.ownsRow.lt hrX j e).1);clear hgrow)
      go_roundw
      case rel =>
       refine ⟨k+1,by omega,by go_num,?_,by rw [HTK.out];simp [hnl],hB1⟩
       rw [HTK.out,List.length_append,flat_two,HM.out]
       exact hown'
      case measure=>simp [intOf];omega
     ·have e3:decide (a≤b)=false:=by simpa using h3
      rw [if_neg h3] at htk
      have hX:Below wr.heap.size wr (wr.alloc (Obj.cells #[.int .i64 a,.int .i64 b] 80)):=(Below.refl wr.heap.size wr).alloc (Nat.le_refl _) (Obj.cells #[.int .i64 a,.int .i64 b] 80)
      have hBX:Below W.heap.size W (wr.alloc (Obj.cells #[.int .i64 a,.int .i64 b] 80)):=hB.trans (hX.mono hsz)
      have hrX:=own_keepB hrow hX
      have HTK:Hid (cutL (l.take (k+1)) a b=os):=by unfold Hid;rw [htk];simp
      clear htk
      go_wp2
      go_roundw
      case rel=>exact ⟨k+1,by omega,by go_num,by rw [HTK.out,HM.out];exact hrX,by rw [HTK.out];exact hnil,hBX⟩
      case measure=>simp [intOf];omega
    ·have e2:decide (b<y)=false:=by simpa using h2
     simp only [if_neg h2] at htk
     by_cases h3:a≤y
     ·have e3:decide (a≤y)=true:=by simpa using h3
      rw [if_pos h3] at htk
      simp only [Option.toList_some] at htk
      have hX:Below wr.heap.size wr (wr.alloc (Obj.cells #[.int .i64 a,.int .i64 y] 80)):=(Below.refl wr.heap.size wr).alloc (Nat.le_refl _) (Obj.cells #[.int .i64 a,.int .i64 y] 80)
      have hBX:Below W.heap.size W (wr.alloc (Obj.cells #[.int .i64 a,.int .i64 y] 80)):=hB.trans (hX.mono hsz)
      have hrX:=own_keepB hrow hX
      have HTK:Hid (cutL (l.take (k+1)) a b=os++[(a,y)]):=htk
      clear htk
      go_wp2_with (at_builtin;refine wpList_append_own _ rfl _ _ 34 rfl W.heap.size 80 i0 (.agg #[.int .i64 0,.int .i64 0]) 2 16 Tryz.underlying34 hi0 hz0 hz1 hz2 rfl (by decide) _ _ _ rfl (World.ownsRow.alloc hrX _) ⟨wr.heap.size+1,0,none⟩ 1 1 [.int .i64 a,.int .i64 y] rfl rfl (by have h9:=cell_two_new (wr.alloc (Obj.cells #[.int .i64 a,.int .i64 y] 80)) (.int .i64 a) (.int .i64 y) 80;rw [World.size_alloc] at h9;exact h9) (by simp [Value.oneCell']) (by unfold maxLen;omega) (by omega) (by have:=hBX.size;simp at this ⊢;omega) ?_;intro v' w1 hown' hgrow hnl;have hB1:Below W.heap.size W w1:=(hBX.alloc hBX.size _).grown hgrow (by have:=hBX.size;simp at this ⊢;omega) (fun j e=>(World.ownsRow.lt hrX j e).1);clear hgrow)
      go_roundw
      case rel =>
       refine ⟨k+1,by omega,by go_num,?_,by rw [HTK.out];simp [hnl],hB1⟩
       rw [HTK.out,List.length_append,flat_two,HM.out]
       exact hown'
      case measure=>simp [intOf];omega
     ·have e3:decide (a≤y)=false:=by simpa using h3
      rw [if_neg h3] at htk
      have hX:Below wr.heap.size wr (wr.alloc (Obj.cells #[.int .i64 a,.int .i64 y] 80)):=(Below.refl wr.heap.size wr).alloc (Nat.le_refl _) (Obj.cells #[.int .i64 a,.int .i64 y] 80)
      have hBX:Below W.heap.size W (wr.alloc (Obj.cells #[.int .i64 a,.int .i64 y] 80)):=hB.trans (hX.mono hsz)
      have hrX:=own_keepB hrow hX
      have HTK:Hid (cutL (l.take (k+1)) a b=os):=by unfold Hid;rw [htk];simp
      clear htk
      go_wp2
      go_roundw
      case rel=>exact ⟨k+1,by omega,by go_num,by rw [HTK.out,HM.out];exact hrX,by rw [HTK.out];exact hnil,hBX⟩
      case measure=>simp [intOf];omega
   ·have e1:decide (x<a)=false:=by simpa using h1
    simp only [if_neg h1] at htk
    by_cases h2:b<y
    ·have e2:decide (b<y)=true:=by simpa using h2
     simp only [if_pos h2] at htk
     by_cases h3:x≤b
     ·have e3:decide (x≤b)=true:=by simpa using h3
      rw [if_pos h3] at htk
      simp only [Option.toList_some] at htk
      have hX:Below wr.heap.size wr (wr.alloc (Obj.cells #[.int .i64 x,.int .i64 b] 80)):=(Below.refl wr.heap.size wr).alloc (Nat.le_refl _) (Obj.cells #[.int .i64 x,.int .i64 b] 80)
      have hBX:Below W.heap.size W (wr.alloc (Obj.cells #[.int .i64 x,.int .i64 b] 80)):=hB.trans (hX.mono hsz)
      have hrX:=own_keepB hrow hX
      have HTK:Hid (cutL (l.take (k+1)) a b=os++[(x,b)]):=htk
      clear htk
      go_wp2_with (at_builtin;refine wpList_append_own _ rfl _ _ 34 rfl W.heap.size 80 i0 (.agg #[.int .i64 0,.int .i64 0]) 2 16 Tryz.underlying34 hi0 hz0 hz1 hz2 rfl (by decide) _ _ _ rfl (World.ownsRow.alloc hrX _) ⟨wr.heap.size+1,0,none⟩ 1 1 [.int .i64 x,.int .i64 b] rfl rfl (by have h9:=cell_two_new (wr.alloc (Obj.cells #[.int .i64 x,.int .i64 b] 80)) (.int .i64 x) (.int .i64 b) 80;rw [World.size_alloc] at h9;exact h9) (by simp [Value.oneCell']) (by unfold maxLen;omega) (by omega) (by have:=hBX.size;simp at this ⊢;omega) ?_;intro v' w1 hown' hgrow hnl;have hB1:Below W.heap.size W w1:=(hBX.alloc hBX.size _).grown hgrow (by have:=hBX.size;simp at this ⊢;omega) (fun j e=>(World.ownsRow.lt hrX j e).1);clear hgrow)
      go_roundw
      case rel =>
       refine ⟨k+1,by omega,by go_num,?_,by rw [HTK.out];simp [hnl],hB1⟩
       rw [HTK.out,List.length_append,flat_two,HM.out]
       exact hown'
      case measure=>simp [intOf];omega
     ·have e3:decide (x≤b)=false:=by simpa using h3
      rw [if_neg h3] at htk
      have hX:Below wr.heap.size wr (wr.alloc (Obj.cells #[.int .i64 x,.int .i64 b] 80)):=(Below.refl wr.heap.size wr).alloc (Nat.le_refl _) (Obj.cells #[.int .i64 x,.int .i64 b] 80)
      have hBX:Below W.heap.size W (wr.alloc (Obj.cells #[.int .i64 x,.int .i64 b] 80)):=hB.trans (hX.mono hsz)
      have hrX:=own_keepB hrow hX
      have HTK:Hid (cutL (l.take (k+1)) a b=os):=by unfold Hid;rw [htk];simp
      clear htk
      go_wp2
      go_roundw
      case rel=>exact ⟨k+1,by omega,by go_num,by rw [HTK.out,HM.out];exact hrX,by rw [HTK.out];exact hnil,hBX⟩
      case measure=>simp [intOf];omega
    ·have e2:decide (b<y)=false:=by simpa using h2
     simp only [if_neg h2] at htk
     by_cases h3:x≤y
     ·have e3:decide (x≤y)=true:=by simpa using h3
      rw [if_pos h3] at htk
      simp only [Option.toList_some] at htk
      have hX:Below wr.heap.size wr (wr.alloc (Obj.cells #[.int .i64 x,.int .i64 y] 80)):=(Below.refl wr.heap.size wr).alloc (Nat.le_refl _) (Obj.cells #[.int .i64 x,.int .i64 y] 80)
      have hBX:Below W.heap.size W (wr.alloc (Obj.cells #[.int .i64 x,.int .i64 y] 80)):=hB.trans (hX.mono hsz)
      have hrX:=own_keepB hrow hX
      have HTK:Hid (cutL (l.take (k+1)) a b=os++[(x,y)]):=htk
      clear htk
      go_wp2_with (at_builtin;refine wpList_append_own _ rfl _ _ 34 rfl W.heap.size 80 i0 (.agg #[.int .i64 0,.int .i64 0]) 2 16 Tryz.underlying34 hi0 hz0 hz1 hz2 rfl (by decide) _ _ _ rfl (World.ownsRow.alloc hrX _) ⟨wr.heap.size+1,0,none⟩ 1 1 [.int .i64 x,.int .i64 y] rfl rfl (by have h9:=cell_two_new (wr.alloc (Obj.cells #[.int .i64 x,.int .i64 y] 80)) (.int .i64 x) (.int .i64 y) 80;rw [World.size_alloc] at h9;exact h9) (by simp [Value.oneCell']) (by unfold maxLen;omega) (by omega) (by have:=hBX.size;simp at this ⊢;omega) ?_;intro v' w1 hown' hgrow hnl;have hB1:Below W.heap.size W w1:=(hBX.alloc hBX.size _).grown hgrow (by have:=hBX.size;simp at this ⊢;omega) (fun j e=>(World.ownsRow.lt hrX j e).1);clear hgrow)
      go_roundw
      case rel =>
       refine ⟨k+1,by omega,by go_num,?_,by rw [HTK.out];simp [hnl],hB1⟩
       rw [HTK.out,List.length_append,flat_two,HM.out]
       exact hown'
      case measure=>simp [intOf];omega
     ·have e3:decide (x≤y)=false:=by simpa using h3
      rw [if_neg h3] at htk
      have hX:Below wr.heap.size wr (wr.alloc (Obj.cells #[.int .i64 x,.int .i64 y] 80)):=(Below.refl wr.heap.size wr).alloc (Nat.le_refl _) (Obj.cells #[.int .i64 x,.int .i64 y] 80)
      have hBX:Below W.heap.size W (wr.alloc (Obj.cells #[.int .i64 x,.int .i64 y] 80)):=hB.trans (hX.mono hsz)
      have hrX:=own_keepB hrow hX
      have HTK:Hid (cutL (l.take (k+1)) a b=os):=by unfold Hid;rw [htk];simp
      clear htk
      go_wp2
      go_roundw
      case rel=>exact ⟨k+1,by omega,by go_num,by rw [HTK.out,HM.out];exact hrX,by rw [HTK.out];exact hnil,hBX⟩
      case measure=>simp [intOf];omega
  ·obtain rfl:k=n:=by omega
   have htk:l.take k=l:=by rw [←HN.out];exact List.take_length
   rw [htk] at hrow hnil
   go_wp2
   go_ret
   exact ⟨_,rfl,hrow,hnil,hB⟩
theorem own_capsR {W:World} {base g n cap:Nat} {xs:List Value} (h:W.ownsRow base 80 2 (.slice (some ⟨g,0,none⟩) n cap) n xs):n≤cap∧cap≤9223372036854775807:=by
 rcases h.2 with ⟨h1,_⟩ | ⟨g',cap',cur,e,_,_,hc,hm,_⟩
 ·cases h1
 ·injection e with _ _ e3;subst e3;unfold maxLen at hm;exact ⟨hc,by omega⟩
def sizeR (l:List Rg):Int:=(l.map fun r=>r.2-r.1+1).sum
theorem sizeR_take (l:List Rg) (k:Nat) (hk:k<l.length):sizeR (l.take (k+1))=sizeR (l.take k)+(hi l k-lo l k+1):=by
 unfold sizeR
 rw [List.take_add_one,List.getElem?_eq_getElem hk,List.map_append,List.sum_append,lo_get l k hk,hi_get l k hk]
 simp
theorem refsize_yes (s:Value) (l:List Rg) (w:World) (h:Sr w s l) (hR:Right l) :
  Calls Tryz.prog 66 #[s] w fun e w'=>e = .returned (.int .i64 (sizeR l))∧∃ n,w'=w.drewN n:=by
 have hc:=taken_yes s l w h hR
 have hlen:=hR.1
 have hok:=hR.2
 obtain ⟨a,cap,rfl,hcell⟩:=h
 obtain ⟨n,hn⟩:∃ n,l.length=n:=⟨_,rfl⟩
 have HN:Hid (l.length=n):=hn
 have HC:Hid _:=hcell
 have HOK:Hid _:=hok
 rw [hn] at hc hlen ⊢
 clear hn hcell hR hok
 go_enter Tryz.func66,Tryz.ntmps66
 go_wp2_with (go_at_call 89;refine hc.mono ?_;rintro e w1 ⟨rfl,n1,rfl⟩)
 go_loopw [3,4] (fun sv i wr=>∃ (k m:Nat),k≤n∧i = .int .i64 k∧sv = .int .i64 (sizeR (l.take k))∧0≤sizeR (l.take k)∧sizeR (l.take k)≤2000001*k∧wr=w.drewN m) (fun _ i _=>n-(intOf i).toNat)
 case atStart=>exact ⟨0,n1,by omega,rfl,by simp [sizeR],by simp [sizeR],by simp [sizeR],rfl⟩
 case round =>
  obtain ⟨k,m,hk,rfl,rfl,hs0,hs1,rfl⟩:=hrel
  by_cases hlt:k<n
  ·have hkl:k<l.length:=by rw [HN.out];exact hlt
   obtain ⟨b,off,rfl,hb,hcells⟩:=HC.out (by omega)
   obtain ⟨c1,c2⟩:=hcells k hkl
   have d1:(w.drewN m).cell? ⟨b,off+k*2,none⟩=_:=c1
   have d2:(w.drewN m).cell? ⟨b,off+k*2+1,none⟩=_:=c2
   have ht:=sizeR_take l k hkl
   obtain ⟨o1,o2,o3,_⟩:=HOK.out k hkl
   obtain ⟨x,hx⟩:∃ x,lo l k=x:=⟨_,rfl⟩
   obtain ⟨y,hy⟩:∃ y,hi l k=y:=⟨_,rfl⟩
   rw [hx,hy] at ht o1
   rw [hx] at o2;rw [hy] at o3
   rw [hx] at d1 c1;rw [hy] at d2 c2
   obtain ⟨S,hS⟩:∃ S,sizeR (l.take k)=S:=⟨_,rfl⟩
   rw [hS] at ht hs0 hs1 ⊢
   have hlt':(k:Int)<(n:Int):=by omega
   have HT:Hid (sizeR (l.take (k+1))=S+(y-x+1)):=ht
   have b1 : -1000000≤y:=by omega
   have b2:x≤1000000:=by omega
   have b3:S≤9000000000:=by omega
   clear hcells hx hy ht hS
   go_wp2
   go_quiet (fail)
   go_wp2
   go_roundw
   case rel=>exact ⟨k+1,m+nq,by omega,by go_num,by rw [HT.out];go_num,by rw [HT.out];omega,by rw [HT.out];omega,rfl⟩
   case measure=>simp [intOf];omega
  ·have hkn:k=n:=by omega
   subst hkn
   rw [List.take_of_length_le (by rw [HN.out];exact Nat.le_refl _)] at hs0 hs1 ⊢
   go_wp2
   go_ret
   exact ⟨rfl,_,rfl⟩
theorem domsize_yes (s:Value) (l:List Rg) (w:World) (h:Sr w s l) (hf:FitsR l) (hR:Right l) :
  Calls Tryz.prog 98 #[s] w fun e w'=>e = .returned (.int .i64 (sizeR l))∧Below w.heap.size w w':=by
 have hc:=known_yes s l w h hf hR
 have hlen:=hR.1
 have hok:=hR.2
 obtain ⟨a,cap,rfl,hcell⟩:=h
 obtain ⟨n,hn⟩:∃ n,l.length=n:=⟨_,rfl⟩
 have HN:Hid (l.length=n):=hn
 have HC:Hid _:=hcell
 have HOK:Hid _:=hok
 rw [hn] at hc hlen ⊢
 clear hn hcell hR hok
 go_enter Tryz.func98,Tryz.ntmps98
 go_wp2_with (go_at_call 104;refine hc.mono ?_;rintro e w1 ⟨rfl,hb1⟩)
 go_loopw [3,9] (fun sv i wr=>∃ (k:Nat),k≤n∧i = .int .i64 k∧sv = .int .i64 (sizeR (l.take k))∧0≤sizeR (l.take k)∧sizeR (l.take k)≤2000001*k∧Below w.heap.size w wr) (fun _ i _=>n-(intOf i).toNat)
 case atStart=>exact ⟨0,by omega,rfl,by simp [sizeR],by simp [sizeR],by simp [sizeR],hb1⟩
 case round =>
  obtain ⟨k,hk,rfl,rfl,hs0,hs1,hB⟩:=hrel
  by_cases hlt:k<n
  ·have hkl:k<l.length:=by rw [HN.out];exact hlt
   obtain ⟨b,off,rfl,hb,hcells⟩:=HC.out (by omega)
   obtain ⟨c1,c2⟩:=hcells k hkl
   have d1:=(hB.cell (p:=⟨b,off+k*2,none⟩) hb).trans c1
   have d2:=(hB.cell (p:=⟨b,off+k*2+1,none⟩) hb).trans c2
   have ht:=sizeR_take l k hkl
   obtain ⟨o1,o2,o3,_⟩:=HOK.out k hkl
   obtain ⟨x,hx⟩:∃ x,lo l k=x:=⟨_,rfl⟩
   obtain ⟨y,hy⟩:∃ y,hi l k=y:=⟨_,rfl⟩
   rw [hx,hy] at ht o1
   rw [hx] at o2;rw [hy] at o3
   rw [hx] at d1;rw [hy] at d2
   obtain ⟨S,hS⟩:∃ S,sizeR (l.take k)=S:=⟨_,rfl⟩
   rw [hS] at ht hs0 hs1 ⊢
   have hlt':(k:Int)<(n:Int):=by omega
   have b1 : -1000000≤y:=by omega
   have b2:x≤1000000:=by omega
   have b3:S≤9000000000:=by omega
   have hbw:b<wr.heap.size:=Nat.lt_of_lt_of_le hb hB.size
   have hb2:Below w.heap.size w (wr.alloc (Obj.cells #[Value.int IntKind.i64 x,Value.int IntKind.i64 y] 80)):=hB.alloc hB.size _
   have HB2:Hid (Below w.heap.size w (wr.alloc (Obj.cells #[Value.int IntKind.i64 x,Value.int IntKind.i64 y] 80))):=hb2
   have HT:Hid (sizeR (l.take (k+1))=S+(y-x+1)):=ht
   clear c1 c2 hcells hx hy ht hS hb2
   go_wp2
   go_roundw
   case rel=>exact ⟨k+1,by omega,by go_num,by rw [HT.out],by rw [HT.out];omega,by rw [HT.out];omega,HB2.out⟩
   case measure=>simp [intOf];omega
  ·have hkn:k=n:=by omega
   subst hkn
   rw [List.take_of_length_le (by rw [HN.out];exact Nat.le_refl _)] at hs0 hs1 ⊢
   go_wp2
   go_ret
   exact ⟨rfl,hB⟩
end Go.Proofs.YtghnfnieppfhgaaGreat.Dm
