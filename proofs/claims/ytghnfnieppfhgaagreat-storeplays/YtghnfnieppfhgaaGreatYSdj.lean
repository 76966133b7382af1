/- What is proved here: slices.Concat of two slices of numbers; sets.merged, Join and Sym of any sets. What is proved here: sets.In, Sub and Cmp of any sets; slices.Compare of two lists. What is proved here: the mathematics of SetsAlgebra. What is proved here: the reference's has, In and Sub of any lists. -/
import Derived.Test.YtghnfnieppfhgaaGreatYSbj
import Derived.Test.YtghnfnieppfhgaaGreatYSj
import Derived.Lib.AppendZerosOnto
import Derived.Lib.OwnBridge
import Derived.Lib.AppendIntMem
set_option linter.unusedVariables false
set_option linter.unusedSimpArgs false
set_option maxHeartbeats 4000000
set_option maxRecDepth 100000
namespace Go.Proofs.YtghnfnieppfhgaaGreat.St
open Go.RowKit Go.Shelf
theorem Tryz.info2:(Tryz.prog.info? 2).map (fun i=>(i.zero,i.size,i.bytes))=some (some (.int .i64 0),1,8):=by kernel_rfl
def intv (l:List Int):List Value:=l.map (Value.int .i64)
theorem intv_app (a b:List Int):intv (a++b)=intv a++intv b:=by simp [intv]
theorem intv_len (a:List Int):(intv a).length=a.length:=by simp [intv]
theorem own_keepB {W W':World} {base e size n:Nat} {s:Value} {xs:List Value} (h:W.ownsRow base e size s n xs) (hb:Below W.heap.size W W'):W'.ownsRow base e size s n xs :=
 ⟨h.1,by
  rcases h.2 with h2 | ⟨g,cap,cur,e1,hg,hgb,r⟩
  ·exact .inl h2
  ·exact .inr ⟨g,cap,cur,e1,hg,(hb.block _ (Array.getElem?_eq_some_iff.1 hgb).1).trans hgb,r⟩⟩
theorem own_si {W:World} {base:Nat} {s:Value} {l:List Int} (h:W.ownsRow base 2 1 s l.length (intv l)):Si W s l:=by
 rcases h.2 with ⟨e1,e2⟩ | ⟨g,cap,cur,e1,hg,hgb,hn,hm,hs,ht⟩
 ·exact ⟨none,0,by rw [e1,e2],fun h0=>by omega⟩
 ·refine ⟨_,cap,e1,fun _=>⟨g,0,rfl,(Array.getElem?_eq_some_iff.1 hgb).1,fun i hi=>?_⟩⟩
  simp only [World.cell?,hgb]
  rw [if_neg (by simp),Nat.zero_add]
  have:(intv l)[i]? = some (.int .i64 (nth l i)):=by simp [intv,nth,hi]
  rw [←ht,List.getElem?_take,if_pos (by omega),Array.getElem?_toList] at this
  exact this
theorem run_app_none (w:World) (ty:TypeId) (base:Option Addr) (n c c':Nat) (hle:n≤c):(Builtin.append_ #[35,35] ty #[.slice base n c,.slice none 0 c']).run Tryz.prog w = .ok (.slice base n c) w:=by
 obtain ⟨i0,hi0,hz0,hz1,hz2⟩:=info_parts Tryz.info2
 have hf:(Builtin.firstCells i0.size 0 (.slice none 0 c')).run Tryz.prog w = .ok #[] w:=by simp [Builtin.firstCells]
 cases base<;>simp [Builtin.append_,run_underlying Tryz.underlying35,sizeOf,typeInfo,hi0,Builtin.lenOf,hle,hf,storeCells]
theorem srcells {w:World} {b off:Nat} {l:List Int} (hcell:∀ i,i<l.length→w.cell? ⟨b,off+i,none⟩=some (.int .i64 (nth l i))) :
  ∀ j u,(intv l)[j]? = some u→w.cell? ((⟨b,off,none⟩:Addr).add j)=some u:=by
 intro j u hj
 rw [Addr.add_lit]
 have hjl:j<l.length:=by have:=(List.getElem?_eq_some_iff.1 hj).1;simpa [intv] using this
 rw [hcell j hjl,←hj]
 simp [intv,nth,hjl]
theorem intv_one {l:List Int}:∀ u∈intv l,u.oneCell'=true:=by
 intro u hu
 unfold intv at hu
 obtain ⟨x,_,rfl⟩:=List.mem_map.1 hu
 rfl
theorem wpList_app_sr (w:World) {ops:Array Oper} {rest:List Oper} {o:Oper} {a:Act} {Q:Exit→Act→World→Prop} (hgd:o.guard=none) (s x:Operand) (ho:o.op = .call { callee:=.builtin .append,args:=#[s,x],argTypes:=#[35,35] })
  (base:Nat) (v:Value) (m:Nat) (L:List Int) (hs:a.eval s=v) (hown:w.ownsRow base 2 1 v m (intv L)) (hm:m=L.length) (sx:Value) (l:List Int) (hx:a.eval x=sx) (hsx:Si w sx l) (hb:L.length+l.length≤100000) (hbase:base≤w.heap.size)
  (h:∀ v' w',w'.ownsRow base 2 1 v' (L.length+l.length) (intv (L++l))→Below base w w'→wpList Tryz.prog ops Q rest (a.put o.dst v') w'):wpList Tryz.prog ops Q (o :: rest) a w:=by
 subst hm
 obtain ⟨i0,hi0,hz0,hz1,hz2⟩:=info_parts Tryz.info2
 obtain ⟨ax,cx,rfl,hcx⟩:=hsx
 have hbel:∀ w',w.grownBy w' v.ownBlock→Below base w w':=fun w' hg=>(Below.refl _ w).grown hg hbase (fun k e=>(World.ownsRow.lt hown k e).1)
 cases ax with
 | none =>
  have h0:l.length=0:=by
   apply Classical.byContradiction;intro hn
   obtain ⟨_,_,e,_⟩:=hcx (by omega)
   cases e
  obtain rfl:=List.eq_nil_of_length_eq_zero h0
  obtain ⟨bv,nv,cv,rfl,hle,hnv⟩:∃ b n c,v = .slice b n c∧n≤c∧n=L.length:=by
   rcases hown.2 with ⟨e1,e2⟩ | ⟨q1,q2,q3,e,_,_,hq,_⟩
   ·exact ⟨none,0,0,e1,Nat.le_refl _,e2.symm⟩
   ·exact ⟨_,_,_,e,hq,rfl⟩
  refine Lib.wpList_append_run w hgd s x 35 35 ho _ _ hs hx _ _ (run_app_none w _ bv nv cv cx hle) (h _ _ ?_ (Below.refl _ _))
  simpa using hown
 | some ad =>
  rcases Nat.eq_zero_or_pos l.length with h0 | h0
  ·obtain rfl:=List.eq_nil_of_length_eq_zero h0
   refine wpList_append_own _ hgd s x 35 ho base 2 i0 (.int .i64 0) 1 8 Tryz.underlying35 hi0 hz0 hz1 hz2 rfl (by decide) _ _ _ hs hown ad 0 cx [] hx rfl (fun j u h=>by simp at h) (fun u h=>by simp at h) (by unfold maxLen;simp at hb;omega) (by simp at hb;omega) hbase ?_
   intro v' w' h1 h2 _
   exact h v' w' (by simpa using h1) (hbel w' h2)
  ·obtain ⟨b,off,e,hlt,hcell⟩:=hcx h0
   injection e with e
   subst e
   refine wpList_append_own _ hgd s x 35 ho base 2 i0 (.int .i64 0) 1 8 Tryz.underlying35 hi0 hz0 hz1 hz2 rfl (by decide) _ _ _ hs hown ⟨b,off,none⟩ l.length cx (intv l) hx (by simp [intv]) (srcells hcell) intv_one (by unfold maxLen;omega) (by omega) hbase ?_
   intro v' w' h1 h2 _
   exact h v' w' (by rw [intv_app];exact h1) (hbel w' h2)
theorem grow_any (n:Nat) (w:World) (hn:n≤100000) :
  Calls Tryz.prog 132 #[.slice none 0 0,.int .i64 n] w fun e w'=>∃ s,e = .returned s∧w'.ownsRow w.heap.size 2 1 s 0 []∧Below w.heap.size w w':=by
 rcases Nat.eq_zero_or_pos n with h0 | h0
 ·subst h0
  go_enter Tryz.func132,Tryz.ntmps132
  go_wp2
  go_ret
  exact ⟨_,rfl,World.ownsRow_nil _ _ _ _,Below.refl _ _⟩
 ·obtain ⟨i0,hi0,hz0,hz1,hz2⟩:=info_parts Tryz.info2
  have hrz:∀ ty,(Builtin.append_ #[35,3] ty #[.slice none 0 0,.int .i64 n]).run Tryz.prog w = .ok (.slice (some ⟨w.heap.size,0,none⟩) n (grownCap w n 0 2))
    (w.drew.alloc (.cells (#[]++Builtin.zeroCells (Value.int .i64 0).cells n++Builtin.zeroCells (Value.int .i64 0).cells (grownCap w n 0 2-n)) 2)):=fun ty=>by
   have h:=Lib.run_append_grow_zeros w 35 3 ty 2 i0 (.int .i64 0) .i64 .i64 Tryz.underlying35 Tryz.underlying3 hi0 hz0 none 0 0 [] (by simp [Builtin.firstCells]) n h0 (by omega) (by omega) (by omega) (by rw [hz2];omega) (growslice_fits (by omega) (by rw [hz2];omega))
   rw [Nat.zero_add] at h
   exact h
  have hGn:=grownCap_ge w n 0 2
  have hGm:=grownCap_le_maxLen w n 0 2 (by unfold maxLen;omega)
  have hsz:∀ G,n≤G→(#[]++Builtin.zeroCells (Value.int .i64 0).cells n++Builtin.zeroCells (Value.int .i64 0).cells (G-n)).size=G*1:=fun G hG=>by
   simp only [Builtin.zeroCells,Array.size_append,Array.size_map,Array.size_range,Value.cells]
   simp
   omega
  have hsz:=hsz _ hGn
  obtain ⟨Z,hZ⟩:∃ Z:Array Value,#[]++Builtin.zeroCells (Value.int .i64 0).cells n++Builtin.zeroCells (Value.int .i64 0).cells (grownCap w n 0 2-n)=Z:=⟨_,rfl⟩
  rw [hZ] at hrz hsz
  obtain ⟨G,hG⟩:∃ G,grownCap w n 0 2=G:=⟨_,rfl⟩
  rw [hG] at hrz hsz hGn hGm
  have hG63:(G:Int)≤9223372036854775807:=by unfold maxLen at hGm;omega
  have HSZ:Hid (Z.size=G*1):=hsz
  have HGM:Hid (G≤maxLen):=hGm
  have h1:(0:Int)<(n:Int):=by omega
  clear hZ hG hsz hi0 hz0 hz1 hz2 hGm
  go_enter Tryz.func132,Tryz.ntmps132
  go_wp2_with (at_builtin;refine Lib.wpList_append_run _ rfl _ _ _ _ rfl _ _ rfl rfl _ _ (hrz _) ?_)
  go_ret
  refine ⟨_,rfl,⟨rfl,.inr ⟨w.heap.size,G,Z,rfl,Nat.le_refl _,?_,Nat.zero_le _,HGM.out,HSZ.out,by simp⟩⟩,((Below.refl _ w).drew).alloc (Nat.le_refl _) _⟩
  exact World.alloc_heap_new w.drew _
def upTo2 (la lb:List Int) (k:Nat):List Int:=if k=0 then [] else if k=1 then la else la++lb
theorem concat_two (B:Nat) (a1 a2:Option Addr) (n1 n2 c1 c2:Nat) (la lb:List Int) (w:World) (hB:B<w.heap.size) (k0:w.cell? ⟨B,0,none⟩=some (.slice a1 n1 c1)) (k1:w.cell? ⟨B,1,none⟩=some (.slice a2 n2 c2))
  (h1:Si w (.slice a1 n1 c1) la) (h2:Si w (.slice a2 n2 c2) lb) (hl1:la.length≤10000) (hl2:lb.length≤10000) :
  Calls Tryz.prog 128 #[.slice (some ⟨B,0,none⟩) 2 2] w fun e w'=>∃ s,e = .returned s∧w'.ownsRow w.heap.size 2 1 s (la++lb).length (intv (la++lb))∧Below w.heap.size w w':=by
 have e1:n1=la.length:=by obtain ⟨_,_,e,_⟩:=h1;injection e
 have e2:n2=lb.length:=by obtain ⟨_,_,e,_⟩:=h2;injection e
 have HS1:Hid (∀ X,Below w.heap.size w X→Si X (.slice a1 n1 c1) la):=fun X hX=>h1.below hX
 have HS2:Hid (∀ X,Below w.heap.size w X→Si X (.slice a2 n2 c2) lb):=fun X hX=>h2.below hX
 have HE1:Hid (n1=la.length):=e1
 have HE2:Hid (n2=lb.length):=e2
 have hb1:n1≤10000:=by omega
 have hb2:n2≤10000:=by omega
 clear h1 h2 hl1 hl2 e1 e2
 go_enter Tryz.func128,Tryz.ntmps128
 go_wp2
 go_loopw [3,11] (fun sv i wr=>∃ (k:Nat),k≤2∧i = .int .i64 k∧sv = .int .i64 ((if k=0 then 0 else if k=1 then n1 else n1+n2:Nat):Int)∧w=wr) (fun _ i _=>2-(intOf i).toNat)
 case atStart=>exact ⟨0,by omega,rfl,rfl,rfl⟩
 case round =>
  obtain ⟨k,hk,rfl,rfl,rfl⟩:=hrel
  obtain rfl | rfl | rfl:k=0∨k=1∨k=2:=by omega
  ·simp only [if_true]
   go_wp2
   go_roundw
   case rel=>exact ⟨1,by omega,by go_num,by simp,by first | rfl | trivial⟩
   case measure=>simp [intOf]
  ·simp only [if_true,if_neg (show ¬(1:Nat)=0 by decide)]
   go_wp2
   go_roundw
   case rel=>exact ⟨2,by omega,by go_num,by simp,by first | rfl | trivial⟩
   case measure=>simp [intOf]
  ·simp only [if_neg (show ¬(2:Nat)=0 by decide),if_neg (show ¬(2:Nat)=1 by decide)]
   go_wp2_with fail
   refine (grow_any (n1+n2) w (by omega)).mono ?_
   rintro e w1 ⟨s1,rfl,hrow,hbw⟩
   have HROW:Hid (w1.ownsRow w.heap.size 2 1 s1 0 []):=hrow
   obtain ⟨s1a,s1n,s1c,rfl⟩:∃ b n c,s1 = .slice b n c:=by
    rcases hrow.2 with ⟨e,_⟩ | ⟨q1,q2,q3,e,_⟩
    ·exact ⟨_,_,_,e⟩
    ·exact ⟨_,_,_,e⟩
   clear hrow
   go_wp2
   go_loopw [6,27] (fun o i w2=>∃ (k:Nat),k≤2∧i = .int .i64 k∧w2.ownsRow w.heap.size 2 1 o (upTo2 la lb k).length (intv (upTo2 la lb k))∧Below w.heap.size w w2) (fun _ i _=>2-(intOf i).toNat)
   case atStart=>exact ⟨0,by omega,rfl,by simpa [upTo2,intv] using HROW.out,hbw⟩
   case round =>
    obtain ⟨k,hk,rfl,hrow,hB2⟩:=hrel
    have hbs:=hB2.size
    have d0:=(hB2.cell (p:=⟨B,0,none⟩) hB).trans k0
    have d1:=(hB2.cell (p:=⟨B,1,none⟩) hB).trans k1
    obtain ⟨ub,un,uc,rfl⟩:∃ b n c,u6 = .slice b n c:=by
     rcases hrow.2 with ⟨e,_⟩ | ⟨q1,q2,q3,e,_⟩
     ·exact ⟨_,_,_,e⟩
     ·exact ⟨_,_,_,e⟩
    obtain rfl | rfl | rfl:k=0∨k=1∨k=2:=by omega
    ·have hr0:wr.ownsRow w.heap.size 2 1 (.slice ub un uc) 0 (intv []):=hrow
     clear hrow
     go_wp2_with (at_builtin;refine wpList_app_sr _ rfl _ _ rfl w.heap.size _ 0 [] rfl hr0 rfl _ la rfl (HS1.out _ hB2) (by simp;have:=HE1.out;omega) hbs ?_;intro v' w3 hown' hbel)
     go_roundw
     case rel=>exact ⟨1,by omega,by go_num,by simpa [upTo2] using hown',hB2.trans hbel⟩
     case measure=>simp [intOf]
    ·have hr0:wr.ownsRow w.heap.size 2 1 (.slice ub un uc) la.length (intv la):=hrow
     clear hrow
     go_wp2_with (at_builtin;refine wpList_app_sr _ rfl _ _ rfl w.heap.size _ la.length la rfl hr0 rfl _ lb rfl (HS2.out _ hB2) (by have:=HE1.out;have:=HE2.out;omega) hbs ?_;intro v' w3 hown' hbel)
     go_roundw
     case rel=>exact ⟨2,by omega,by go_num,by simpa [upTo2] using hown',hB2.trans hbel⟩
     case measure=>simp [intOf]
    ·have hr0:wr.ownsRow w.heap.size 2 1 (.slice ub un uc) (la++lb).length (intv (la++lb)):=hrow
     clear hrow
     go_wp2
     go_ret
     exact ⟨_,rfl,hr0,hB2⟩
theorem own_base {W:World} {base b' e size n:Nat} {s:Value} {xs:List Value} (h:W.ownsRow base e size s n xs) (hb:b'≤base):W.ownsRow b' e size s n xs:=by
 refine ⟨h.1,?_⟩
 rcases h.2 with h | ⟨g,cap,cur,e1,hg,r⟩
 ·exact .inl h
 ·exact .inr ⟨g,cap,cur,e1,Nat.le_trans hb hg,r⟩
theorem below_growP {B:Nat} {W w:World} (h:Below B W w) (os:Array Obj) (hB:B≤w.heap.size):Below B W (Sort.grow w os) :=
 ⟨h.os,h.tape,h.output,by show W.heap.size≤(w.heap++os).size;rw [Array.size_append];have:=h.size;omega,fun k hk=>by
  rw [←h.block k hk]
  show (w.heap++os)[k]? = w.heap[k]?
  rw [Array.getElem?_append_left (by omega)]⟩
def sortL (l:List Int):List Int:=l.mergeSort fun x y=>decide (x≤y)
theorem sortL_len (l:List Int):(sortL l).length=l.length:=by simp [sortL]
theorem sort_own (B:Nat) (s:Value) (L:List Int) (w:World) (h:w.ownsRow B 2 1 s L.length (intv L)) (hB:B≤w.heap.size) (hs:L.length≤100000) :
  Calls Tryz.prog 129 #[s] w fun e w'=>e = .returned (.tuple #[])∧w'.ownsRow B 2 1 s (sortL L).length (intv (sortL L))∧Below B w w':=by
 rcases Nat.eq_zero_or_pos L.length with h0 | h0
 ·obtain rfl:=List.eq_nil_of_length_eq_zero h0
  obtain ⟨p,cap,rfl⟩:∃ p cap,s = .slice p 0 cap:=by
   rcases h.2 with ⟨e1,_⟩ | ⟨g,cap,cur,e1,_⟩
   ·exact ⟨none,0,e1⟩
   ·exact ⟨_,cap,e1⟩
  refine (AnyG.slices_Sort_int_none Tryz.laysSort p cap w).mono fun e w' ⟨he,hw⟩=>?_
  subst hw
  exact ⟨he,by simpa [sortL,intv] using h,Below.refl _ _⟩
 ·obtain ⟨g,cap,rfl,hg,hgw,hH⟩:∃ g cap,s = .slice (some ⟨g,0,none⟩) L.length cap∧B≤g∧g<w.heap.size∧Sort.Holds (Value.int .i64) w g 0 L.toArray:=by
   rcases h.2 with ⟨_,e2⟩ | ⟨g,cap,cur,e1,hg,hgb,hn,hm,hs,ht⟩
   ·omega
   ·refine ⟨g,cap,e1,hg,(Array.getElem?_eq_some_iff.1 hgb).1,fun j hj=>⟨?_,by simp [World.frozen?,hgb]⟩⟩
    have hj':j<L.length:=by simpa using hj
    simp only [World.cell?,hgb]
    rw [if_neg (by simp),Nat.zero_add]
    have:(intv L)[j]? = some (.int .i64 (L.toArray[j]!)):=by simp [intv,hj',getElem!_pos]
    rw [←ht,List.getElem?_take,if_pos (by omega),Array.getElem?_toList] at this
    exact this
  refine (AnyG.slices_Sort_int Tryz.laysSort g 0 cap L w hH hgw (by omega)).mono fun e w' ⟨he,q,os,hw⟩=>?_
  have hl:=sortL_len L
  have hp:=Lib.ownsRow_putRow (q:=q) (k:=L.length) (ys:=sortL L) (enc:=Value.int .i64) (zs:=L) h hl (Nat.le_refl _)
  rw [List.take_of_length_le (by omega)] at hp
  have hb:Below B w (Sort.putRow (Value.int .i64) (Sort.ahead w q) g 0 (sortL L).toArray):=Lib.below_putRow (Below.refl _ _) hg
  refine ⟨he,?_,?_⟩
  ·rw [hw,hl]
   exact own_keepB hp (below_growP (Below.refl _ _) os (Nat.le_refl _))
  ·rw [hw]
   exact below_growP hb os (Nat.le_trans hB hb.size)
theorem merged_any (s1 s2:Value) (la lb:List Int) (W:World) (h1:Si W s1 la) (h2:Si W s2 lb) (hl1:la.length≤10000) (hl2:lb.length≤10000) :
  Calls Tryz.prog 125 #[s1,s2] W fun e w'=>∃ v,e = .returned v∧w'.ownsRow W.heap.size 2 1 v (sortL (la++lb)).length (intv (sortL (la++lb)))∧Below W.heap.size W w':=by
 have h1':=h1
 have h2':=h2
 obtain ⟨a1,c1,rfl,_⟩:=h1'
 obtain ⟨a2,c2,rfl,_⟩:=h2'
 have hb0:Below W.heap.size W (W.alloc (.cells #[.slice a1 la.length c1,.slice a2 lb.length c2] 35)):=(Below.refl _ W).alloc (Nat.le_refl _) _
 have hnw:=World.alloc_heap_new W (Obj.cells #[.slice a1 la.length c1,.slice a2 lb.length c2] 35)
 have hcon:=concat_two W.heap.size a1 a2 la.length lb.length c1 c2 la lb (W.alloc (.cells #[.slice a1 la.length c1,.slice a2 lb.length c2] 35)) (by simp) (by simp only [World.cell?,hnw];rfl) (by simp only [World.cell?,hnw];rfl) (h1.below hb0) (h2.below hb0) hl1 hl2
 obtain ⟨n1,hn1⟩:∃ n,la.length=n:=⟨_,rfl⟩
 obtain ⟨n2,hn2⟩:∃ n,lb.length=n:=⟨_,rfl⟩
 have HN1:Hid (la.length=n1):=hn1
 have HN2:Hid (lb.length=n2):=hn2
 rw [hn1,hn2] at hcon hb0 ⊢
 rw [hn1] at hl1
 rw [hn2] at hl2
 clear h1 h2 hnw hn1 hn2
 go_enter Tryz.func125,Tryz.ntmps125
 go_wp2_with fail
 refine hcon.mono ?_
 clear hcon
 rintro e w2 ⟨s,rfl,hrow,hb2⟩
 have hB2:Below W.heap.size W w2:=hb0.trans (hb2.mono hb0.size)
 have hrow':=own_base hrow hb0.size
 have hso:=sort_own W.heap.size s (la++lb) w2 hrow' hB2.size (by rw [List.length_append,HN1.out,HN2.out];omega)
 obtain ⟨p,q,c,rfl⟩:∃ p q c,s = .slice p q c:=by
  rcases hrow.2 with ⟨e1,_⟩ | ⟨g,cap,cur,e1,_⟩
  ·exact ⟨_,_,_,e1⟩
  ·exact ⟨_,_,_,e1⟩
 clear hrow hrow' hb2 hb0
 go_wp2_with fail
 refine hso.mono ?_
 clear hso
 rintro e w3 ⟨rfl,hr3,hb3⟩
 go_wp2
 go_ret
 exact ⟨_,rfl,hr3,hB2.trans hb3⟩
theorem lessL_le (a b:List Int):(lessL a b).length≤a.length:=List.length_filter_le _ _
def joinL (a b:List Int):List Int:=sortL (a++lessL b a)
theorem join_any (s1 s2:Value) (a b:List Int) (W:World) (h1:Si W s1 a) (h2:Si W s2 b) :
  Calls Tryz.prog 116 #[s1,s2] W fun e w'=>∃ v,e = .returned v∧w'.ownsRow W.heap.size 2 1 v (joinL (tkS a) (tkS b)).length (intv (joinL (tkS a) (tkS b)))∧Below W.heap.size W w':=by
 have hk1:=known_any s1 a W h1
 have hl:=fun X (hX:Below W.heap.size W X)=>less_any s2 s1 b a X (h2.below hX) (h1.below hX)
 have h1':=h1
 have h2':=h2
 obtain ⟨a1,c1,rfl,_⟩:=h1'
 obtain ⟨a2,c2,rfl,_⟩:=h2'
 clear h1 h2
 go_enter Tryz.func116,Tryz.ntmps116
 go_wp2_with fail
 refine hk1.mono ?_
 rintro e w1 ⟨a3,n3,c3,rfl,HS1,HN1,m1,hw1⟩
 have hB1:Below W.heap.size W w1:=by rw [hw1];exact below_drewN (Below.refl _ _) _
 have hS1:=HS1.out.below hB1
 have hl':=hl _ hB1
 clear hk1 hl hw1 HS1
 go_wp2_with fail
 refine hl'.mono ?_
 rintro e w2 ⟨v,rfl,hF,hb2⟩
 have hB2:Below W.heap.size W w2:=hB1.trans (hb2.mono hB1.size)
 have hm:=merged_any _ _ _ _ w2 (hS1.below hb2) hF.si (by have:=(tkS_set a).1;omega) (by have:=(tkS_set b).1;have:=lessL_le (tkS b) (tkS a);omega)
 obtain ⟨A,off,cap,cur,t,rfl,r⟩:=hF
 obtain ⟨q,hq⟩:∃ q,(lessL (tkS b) (tkS a)).length=q:=⟨_,rfl⟩
 rw [hq] at hm ⊢
 clear hl' hb2 hB1 hS1 r hq
 go_wp2_with fail
 refine hm.mono ?_
 rintro e w3 ⟨v3,rfl,hr3,hb3⟩
 obtain ⟨p,q3,c,rfl⟩:∃ p q c,v3 = .slice p q c:=by
  rcases hr3.2 with ⟨e1,_⟩ | ⟨g,cap,cur,e1,_⟩
  ·exact ⟨_,_,_,e1⟩
  ·exact ⟨_,_,_,e1⟩
 go_wp2
 go_ret
 exact ⟨_,rfl,own_base hr3 hB2.size,hB2.trans (hb3.mono hB2.size)⟩
def subB (a b:List Int):Bool:=decide ((lessL a b).length=0)
theorem sub_any (s1 s2:Value) (a b:List Int) (W:World) (h1:Si W s1 a) (h2:Si W s2 b) :
  Calls Tryz.prog 95 #[s1,s2] W fun e w'=>e = .returned (.bool (subB (tkS a) (tkS b)))∧Below W.heap.size W w':=by
 have hl:=less_any s1 s2 a b W h1 h2
 have h1':=h1
 have h2':=h2
 obtain ⟨a1,c1,rfl,_⟩:=h1'
 obtain ⟨a2,c2,rfl,_⟩:=h2'
 clear h1 h2
 go_enter Tryz.func95,Tryz.ntmps95
 go_wp2_with fail
 refine hl.mono ?_
 rintro e w2 ⟨v,rfl,hF,hb2⟩
 obtain ⟨A,off,cap,cur,t,rfl,r⟩:=hF
 have hq':subB (tkS a) (tkS b)=decide ((lessL (tkS a) (tkS b)).length=0):=rfl
 obtain ⟨q,hq⟩:∃ q,(lessL (tkS a) (tkS b)).length=q:=⟨_,rfl⟩
 rw [hq] at hq' ⊢
 have HQ:Hid (subB (tkS a) (tkS b)=decide (q=0)):=hq'
 clear hl r hq hq'
 by_cases h0:q=0
 ·subst h0
  go_wp2
  go_ret
  exact ⟨ret_bool (by rw [HQ.out];rfl),hb2⟩
 ·have h0':((q:Int)==0)=false:=by simp;omega
  go_wp2
  go_ret
  exact ⟨ret_bool (by rw [HQ.out,decide_eq_false h0]),hb2⟩
theorem set_pw {l:List Int} (h:IsSet l):l.Pairwise (· < ·):=by
 rw [List.pairwise_iff_getElem]
 have step:∀ d i,i+d+1<l.length→nth l i<nth l (i+d+1):=by
  intro d
  induction d with
  | zero=>intro i hi;have:=(h.2 (i+1) hi).2.2 (by omega);simpa using this
  | succ d ih=>intro i hi;have h1:=ih i (by omega);have h2:=(h.2 (i+(d+1)+1) hi).2.2 (by omega);simp only [Nat.add_sub_cancel] at h2;exact Int.lt_trans (by simpa [Nat.add_assoc] using h1) h2
 intro i j hi hj hij
 have:=step (j-i-1) i (by omega)
 rw [show i+(j-i-1)+1=j by omega] at this
 simpa [nth,hi,hj] using this
theorem set_of {l:List Int} (hl:l.length≤64) (hb:∀ x∈l,-1000000≤x∧x≤1000000) (hp:l.Pairwise (· < ·)):IsSet l:=by
 refine ⟨hl,fun i hi=>?_⟩
 have e:∀ k (hk:k<l.length),nth l k=l[k]:=fun k hk=>by simp [nth,hk]
 have hm:=hb l[i] (List.getElem_mem hi)
 refine ⟨by rw [e i hi];exact hm.1,by rw [e i hi];exact hm.2,fun h0=>?_⟩
 rw [e i hi,e (i-1) (by omega)]
 exact List.pairwise_iff_getElem.1 hp (i-1) i (by omega) hi (by omega)
theorem set_mem {l:List Int} (h:IsSet l):∀ x∈l,-1000000≤x∧x≤1000000:=by
 intro x hx
 obtain ⟨i,hi,rfl⟩:=List.getElem_of_mem hx
 have:=h.2 i hi
 unfold SetAt at this
 simp only [nth,List.getD_eq_getElem?_getD,List.getElem?_eq_getElem hi,Option.getD_some] at this
 exact ⟨this.1,this.2.1⟩
theorem set_filter {l:List Int} (h:IsSet l) (f:Int→Bool):IsSet (l.filter f) :=
 set_of (Nat.le_trans (List.length_filter_le _ _) h.1) (fun x hx=>set_mem h x (List.mem_filter.1 hx).1) ((set_pw h).filter _)
theorem sort_pw (l:List Int):(sortL l).Pairwise (·≤·):=by
 have:=List.pairwise_mergeSort (le:=fun x y:Int=>decide (x≤y)) (by simp;omega) (by simp;omega) l
 exact this.imp (by simp)
theorem mem_nth {l:List Int} {v:Int}:l.contains v=true↔∃ k,k<l.length∧nth l k=v:=by
 rw [List.contains_iff_mem,List.mem_iff_getElem]
 constructor
 ·rintro ⟨k,hk,e⟩;exact ⟨k,hk,by simp [nth,hk,e]⟩
 ·rintro ⟨k,hk,e⟩;exact ⟨k,hk,by simpa [nth,hk] using e⟩
theorem mem_none {l:List Int} {v:Int} (h:∀ k,k<l.length→nth l k≠v):l.contains v=false:=by
 cases hc:l.contains v
 ·rfl
 ·obtain ⟨k,hk,e⟩:=mem_nth.1 hc
  exact absurd e (h k hk)
theorem refhas_any (v:Int) (s:Value) (l:List Int) (W:World) (h:Si W s l) (hl:l.length≤1000) :
  Calls Tryz.prog 119 #[.int .i64 v,s] W fun e w'=>e = .returned (.bool (l.contains v))∧w'=W:=by
 obtain ⟨a,cap,rfl,hc⟩:=h
 obtain ⟨r,hr⟩:∃ r,l.contains v=r:=⟨_,rfl⟩
 have HRR:Hid (l.contains v=r):=hr
 rw [hr]
 obtain ⟨n,hn⟩:∃ n,l.length=n:=⟨_,rfl⟩
 have HN:Hid (l.length=n):=hn
 rw [hn] at hc hl ⊢
 have HC:Hid _:=hc
 clear hn hc hr
 go_enter Tryz.func119,Tryz.ntmps119
 go_wp2
 go_loopw [5] (fun i wr=>∃ k:Nat,k≤n∧i = .int .i64 k∧(∀ j,j<k→nth l j≠v)∧wr=W) (fun i _=>n-(intOf i).toNat)
 case atStart=>exact ⟨0,Nat.zero_le _,rfl,fun j hj=>absurd hj (by omega),rfl⟩
 case round =>
  obtain ⟨k,hk,rfl,hok,rfl⟩:=hrel
  have HOK:Hid (∀ j,j<k→nth l j≠v):=hok
  clear hok
  by_cases hlt2:k<n
  ·obtain ⟨b,off,rfl,hb,hcell⟩:=HC.out (by omega)
   have d1:=hcell k hlt2
   have hlt':(k:Int)<(n:Int):=by omega
   obtain ⟨x,hx⟩:∃ x,nth l k=x:=⟨_,rfl⟩
   have HX:Hid (nth l k=x):=hx
   rw [hx] at d1
   clear hx hcell
   by_cases hv:x=v
   ·subst hv
    have hv':(x==x)=true:=by simp
    go_wp2
    go_ret
    exact ⟨ret_bool (by rw [←HRR.out];exact (mem_nth.2 ⟨k,by rw [HN.out];exact hlt2,HX.out⟩).symm),rfl⟩
   ·have hv':(x==v)=false:=by simpa using hv
    have HV:Hid (x≠v):=hv
    clear hv
    go_wp2
    go_roundw
    case rel=>exact ⟨k+1,by omega,by go_num,fun j hj=>if h:j=k then by subst h;rw [HX.out];exact HV.out else HOK.out j (by omega),trivial⟩
    case measure=>simp [intOf];omega
  ·have hlt':¬(k:Int)<(n:Int):=by omega
   go_wp2
   go_ret
   exact ⟨ret_bool (by rw [←HRR.out];exact (mem_none fun j hj=>HOK.out j (by rw [HN.out] at hj;omega)).symm),rfl⟩
theorem refin_any (v:Int) (s:Value) (l:List Int) (W:World) (h:Si W s l) :
  Calls Tryz.prog 106 #[.int .i64 v,s] W fun e w'=>e = .returned (.bool ((tkS l).contains v))∧∃ q,w'=W.drewN q:=by
 have hk:=taken_any s l W h
 have kh:=fun q X (hq:Si X q (tkS l))=>refhas_any v q (tkS l) X hq (by have:=(tkS_set l).1;omega)
 generalize (tkS l).contains v=r at *
 obtain ⟨a,n,rfl,_⟩:=h
 go_enter Tryz.func106,Tryz.ntmps106
 go_wp2_with fail
 refine hk.mono ?_
 rintro e w1 ⟨a1,n1,c1,rfl,HS,HN1,m1,hw1⟩
 have hb1:Below W.heap.size W w1:=by rw [hw1];exact below_drewN (Below.refl _ _) _
 have k1:=kh _ w1 (HS.out.below hb1)
 have HW1:Hid _:=hw1
 clear hk kh hw1
 go_wp2_with fail
 refine k1.mono ?_
 rintro e w2 ⟨rfl,rfl⟩
 go_wp2
 go_ret
 exact ⟨rfl,_,HW1.out⟩
theorem sub_all {a b:List Int} (h:∀ k,k<a.length→b.contains (nth a k)=true):subB a b=true:=by
 unfold subB lessL
 rw [decide_eq_true_iff,List.length_eq_zero_iff,List.filter_eq_nil_iff]
 intro x hx
 obtain ⟨k,hk,e⟩:=List.getElem_of_mem hx
 have:=h k hk
 rw [show nth a k=x by simp [nth,hk,e]] at this
 simpa using this
theorem sub_not {a b:List Int} {k:Nat} (hk:k<a.length) (h:b.contains (nth a k)=false):subB a b=false:=by
 unfold subB lessL
 rw [decide_eq_false_iff_not,List.length_eq_zero_iff,List.filter_eq_nil_iff]
 intro hc
 have:=hc (nth a k) (by simp [nth,hk])
 rw [h] at this
 simp at this
theorem refsub_any (s1 s2:Value) (a b:List Int) (W:World) (h1:Si W s1 a) (h2:Si W s2 b) :
  Calls Tryz.prog 82 #[s1,s2] W fun e w'=>e = .returned (.bool (subB (tkS a) (tkS b)))∧∃ q,w'=W.drewN q:=by
 have hk:=taken_any s1 a W h1
 have kin:=fun v m=>refin_any v s2 b (W.drewN m) (h2.below (below_drewN (Below.refl _ _) m))
 obtain ⟨a1,c1,rfl,_⟩:=h1
 obtain ⟨a2,c2,rfl,_⟩:=h2
 generalize a.length=n1 at *
 generalize b.length=n2 at *
 obtain ⟨r,hr⟩:∃ r,subB (tkS a) (tkS b)=r:=⟨_,rfl⟩
 have HRR:Hid (subB (tkS a) (tkS b)=r):=hr
 rw [hr]
 clear hr
 go_enter Tryz.func82,Tryz.ntmps82
 go_wp2_with fail
 refine hk.mono ?_
 rintro e w1 ⟨a3,n3,c3,rfl,HS,HN3,m1,rfl⟩
 have hS:=HS.out
 obtain ⟨a3',c3',e3,hc⟩:=hS
 rw [←HN3.out] at e3 hc
 injection e3 with e4 _ e5
 subst e4 e5
 have HC:Hid _:=hc
 have HN:Hid ((tkS a).length=n3):=HN3.out.symm
 have hn3:n3≤64:=by rw [HN3.out];exact (tkS_set a).1
 clear hk hc HS HN3
 go_wp2
 go_loopw [5] (fun i wr=>∃ k:Nat,k≤n3∧i = .int .i64 k∧(∀ j,j<k→(tkS b).contains (nth (tkS a) j)=true)∧∃ m,wr=W.drewN m) (fun i _=>n3-(intOf i).toNat)
 case atStart=>exact ⟨0,Nat.zero_le _,rfl,fun j hj=>absurd hj (by omega),m1,rfl⟩
 case round =>
  obtain ⟨k,hk,rfl,hok,m,rfl⟩:=hrel
  have HOK:Hid (∀ j,j<k→(tkS b).contains (nth (tkS a) j)=true):=hok
  clear hok
  by_cases hlt2:k<n3
  ·obtain ⟨bb,off,rfl,hb,hcell⟩:=HC.out (by omega)
   have d0:=hcell k hlt2
   obtain ⟨x,hx⟩:∃ x,nth (tkS a) k=x:=⟨_,rfl⟩
   have HX:Hid (nth (tkS a) k=x):=hx
   have ki:=kin x m
   have hlt':(k:Int)<(n3:Int):=by omega
   rw [hx] at d0
   obtain ⟨W2,hW2⟩:∃ W2,W.drewN m=W2:=⟨_,rfl⟩
   have HW2:Hid (W.drewN m=W2):=hW2
   have d1:W2.cell? ⟨bb,off+k,none⟩=some (.int .i64 x):=by rw [←hW2];exact d0
   rw [hW2] at ki ⊢
   clear hx hcell d0 hW2
   obtain ⟨bo,hbo⟩:∃ bo,(tkS b).contains x=bo:=⟨_,rfl⟩
   have HB:Hid ((tkS b).contains x=bo):=hbo
   rw [hbo] at ki
   clear hbo
   cases bo
   ·go_wp2_with fail
    refine ki.mono ?_
    rintro e w3 ⟨rfl,q,rfl⟩
    go_wp2
    go_ret
    exact ⟨ret_bool (by rw [←HRR.out];exact (sub_not (k:=k) (by rw [HN.out];exact hlt2) (by rw [HX.out];exact HB.out)).symm),_,by rw [←HW2.out,World.drewN_drewN]⟩
   ·go_wp2_with fail
    refine ki.mono ?_
    rintro e w3 ⟨rfl,q,rfl⟩
    go_wp2
    go_roundw
    case rel=>exact ⟨k+1,by omega,by go_num,fun j hj=>if h:j=k then by subst h;rw [HX.out];exact HB.out else HOK.out j (by omega),_,by rw [←HW2.out,World.drewN_drewN]⟩
    case measure=>simp [intOf];omega
  ·have hlt':¬(k:Int)<(n3:Int):=by omega
   go_wp2
   go_ret
   exact ⟨ret_bool (by rw [←HRR.out];exact (sub_all fun j hj=>HOK.out j (by rw [HN.out] at hj;omega)).symm),_,rfl⟩
end Go.Proofs.YtghnfnieppfhgaaGreat.St
