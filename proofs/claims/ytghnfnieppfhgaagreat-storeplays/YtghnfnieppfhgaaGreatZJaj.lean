/- What is proved here: joined of the reference, of any ranges with right ends (mathematics; append and slices of ranges). joined of the reference, of any ranges with right ends. Norm and Either of the reference, of any ranges. Taken, Cut, Not, Both, Either and Less of the reference, of any ranges. What is proved here: Both of the reference, of any ranges. Less of the reference, of any ranges. Alike of the reference and slices.Equal of any ranges, and Same and Within, of both, of any ranges. Within and Without of the reference, of any ranges. -/
import Derived.Test.YtghnfnieppfhgaaGreatZGa
import Derived.Test.YtghnfnieppfhgaaGreatZEfj
import Derived.WalkMore
set_option linter.unusedSimpArgs false
set_option linter.unusedVariables false
set_option maxRecDepth 100000
set_option maxHeartbeats 8000000
namespace Go.Proofs.YtghnfnieppfhgaaGreat.Dm
open Go.RowKit Go.Shelf
theorem wpList_app_any (w:World) {ops:Array Oper} {rest:List Oper} {o:Oper} {a:Act} {Q:Exit→Act→World→Prop} (hgd:o.guard=none) (s x:Operand) (ho:o.op = .call { callee:=.builtin .append,args:=#[s,x],argTypes:=#[34,34] })
  (base:Nat) (v:Value) (m:Nat) (L:List Rg) (hs:a.eval s=v) (hown:w.ownsRow base 80 2 v m (flat L)) (hm:m=L.length) (sx:Value) (l:List Rg) (hx:a.eval x=sx) (hsx:Sr w sx l) (hb:(L.length+l.length)*16≤140737488355328) (hbase:base≤w.heap.size)
  (h:∀ v' w',w'.ownsRow base 80 2 v' (L.length+l.length) (flat (L++l))→Below base w w'→(v' = .slice none 0 0↔v = .slice none 0 0∧l=[])→wpList Tryz.prog ops Q rest (a.put o.dst v') w'):wpList Tryz.prog ops Q (o :: rest) a w:=by
 subst hm
 obtain ⟨i0,hi0,hz0,hz1,hz2⟩:=info_parts Tryz.info80
 obtain ⟨ax,cx,rfl,hcx⟩:=hsx
 have hbel:∀ w',w.grownBy w' v.ownBlock→Below base w w':=fun w' hg=>(Below.refl _ w).grown hg hbase (fun k e=>(World.ownsRow.lt hown k e).1)
 cases ax with
 | none =>
  have h0:l.length=0:=by
   apply Classical.byContradiction;intro hn
   obtain ⟨_,_,e,_⟩:=hcx (by omega)
   cases e
  obtain rfl:=List.eq_nil_of_length_eq_zero h0
  obtain ⟨bv,nv,cv,rfl,hle,hnv⟩:∃ b n c,v = .slice b n c∧n≤c∧n=L.length:=by
   rcases hown.2 with ⟨e1,e2⟩ | ⟨q1,q2,q3,e,_,_,hq,_⟩
   ·exact ⟨none,0,0,e1,Nat.le_refl _,e2.symm⟩
   ·exact ⟨_,_,_,e,hq,rfl⟩
  refine Lib.wpList_append_run w hgd s x 34 34 ho _ _ hs hx _ _ (run_app_none w _ bv nv cv cx hle) (h _ _ ?_ (Below.refl _ _) (by simp))
  simpa using hown
 | some ad =>
  rcases Nat.eq_zero_or_pos l.length with h0 | h0
  ·obtain rfl:=List.eq_nil_of_length_eq_zero h0
   refine wpList_append_own _ hgd s x 34 ho base 80 i0 (.agg #[.int .i64 0,.int .i64 0]) 2 16 Tryz.underlying34 hi0 hz0 hz1 hz2 rfl (by decide) _ _ _ hs hown ad 0 cx [] hx rfl (fun j u h=>by simp at h) (fun u h=>by simp at h) (by unfold maxLen;simp at hb;omega) (by simpa using hb) hbase ?_
   intro v' w' h1 h2 h3
   exact h v' w' (by simpa using h1) (hbel w' h2) (by simpa using h3)
  ·obtain ⟨b,off,e,hlt,hcell⟩:=hcx h0
   injection e with e
   subst e
   refine wpList_append_own _ hgd s x 34 ho base 80 i0 (.agg #[.int .i64 0,.int .i64 0]) 2 16 Tryz.underlying34 hi0 hz0 hz1 hz2 rfl (by decide) _ _ _ hs hown ⟨b,off,none⟩ l.length cx (flat l) hx (flat_length l) (srcells hcell) flat_one (by unfold maxLen;omega) hb hbase ?_
   intro v' w' h1 h2 h3
   exact h v' w' (by rw [flat_app];exact h1) (hbel w' h2) (h3.trans ⟨fun h9=>by omega,fun h9=>by rw [h9.2] at h0;simp at h0⟩)
theorem own_shape {W:World} {base e size n:Nat} {s:Value} {xs:List Value} (h:W.ownsRow base e size s n xs):∃ a c,s = .slice a n c∧n≤c∧c≤9223372036854775807:=by
 rcases h.2 with ⟨e1,e2⟩ | ⟨g,cap,cur,e1,_,_,hc,hm,_⟩
 ·exact ⟨none,0,by rw [e1,e2],by omega,by omega⟩
 ·exact ⟨_,_,e1,hc,by unfold maxLen at hm;omega⟩
theorem taken_tk (s:Value) (l:List Rg) (w:World) (h:Sr w s l) :
  Calls Tryz.prog 89 #[s] w fun e w'=>∃ a n c,e = .returned (.slice a n c)∧Sr w (.slice a n c) (tk l)∧n=(tk l).length∧∃ m,w'=w.drewN m:=by
 by_cases hR:Right l
 ·refine (taken_yes s l w h hR).mono fun e w' ⟨he,hb⟩=>?_
  have h0:=h
  obtain ⟨a,cap,rfl,_⟩:=h
  exact ⟨a,_,cap,he,by rw [tk_yes hR];exact h0,by rw [tk_yes hR],hb⟩
 ·refine (taken_no s l w h hR).mono fun e w' ⟨he,hb⟩=>?_
  exact ⟨none,0,0,he,by rw [tk_no hR];exact Sr.nil _ _ _,by rw [tk_no hR];rfl,hb⟩
theorem refcut_no (s:Value) (l:List Rg) (a b:Int) (W:World) (h:Sr W s l) (hR:¬Right l) :
  Calls Tryz.prog 90 #[s,.int .i64 a,.int .i64 b] W fun e w'=>e = .returned (.slice none 0 0)∧Below W.heap.size W w':=by
 have kt:=taken_no s l W h hR
 obtain ⟨sa,cap,rfl,_⟩:=h
 obtain ⟨n,hn⟩:∃ n,l.length=n:=⟨_,rfl⟩
 rw [hn] at kt ⊢
 clear hn hR
 go_enter Tryz.func90,Tryz.ntmps90
 go_wp2_with fail
 refine kt.mono ?_
 rintro e w0 ⟨rfl,m0,rfl⟩
 have hB0:Below W.heap.size W (W.drewN m0):=below_drewN (Below.refl _ _) m0
 clear kt
 go_wp2
 go_loopw [7,8,9] (fun o i _ wr=>i = .int .i64 0∧o = .slice none 0 0∧wr=W.drewN m0) (fun _ _ _ _=>0)
 case atStart=>exact ⟨rfl,rfl,rfl⟩
 case round =>
  obtain ⟨rfl,rfl,rfl⟩:=hrel
  go_wp2
  go_ret
  exact ⟨rfl,hB0⟩
theorem refcut_tk (s:Value) (l:List Rg) (a b:Int) (W:World) (h:Sr W s l) :
  Calls Tryz.prog 90 #[s,.int .i64 a,.int .i64 b] W fun e w'=>∃ s',e = .returned s'∧w'.ownsRow W.heap.size 80 2 s' (cutL (tk l) a b).length (flat (cutL (tk l) a b))∧(s' = .slice none 0 0↔cutL (tk l) a b=[])∧Below W.heap.size W w':=by
 by_cases hR:Right l
 ·rw [tk_yes hR];exact refcut_any s l a b W h hR
 ·rw [tk_no hR]
  refine (refcut_no s l a b W h hR).mono fun e w' ⟨he,hb⟩=>⟨_,he,World.ownsRow_nil _ _ _ _,by simp [cutL],hb⟩
theorem refboth_tk (s1 s2:Value) (a0 b0:List Rg) (W:World) (h1:Sr W s1 a0) (h2:Sr W s2 b0) :
  Calls Tryz.prog 62 #[s1,s2] W fun e w'=>∃ s',e = .returned s'∧w'.ownsRow W.heap.size 80 2 s' (bothR a0 b0).length (flat (bothR a0 b0))∧Below W.heap.size W w':=by
 obtain ⟨i0,hi0,hz0,hz1,hz2⟩:=info_parts Tryz.info80
 have kt:=taken_tk s2 b0 W h2
 have kc:=fun x y X (hX:Below W.heap.size W X)=>refcut_tk s1 a0 x y X (h1.below hX)
 have kta:=fun X (hX:Below W.heap.size W X)=>taken_tk s1 a0 X (h1.below hX)
 have ha:=tk_right a0
 have hb:=tk_right b0
 have hbr:bothR a0 b0=if (pieces (tk b0) (tk a0)).length≤4096 then pieces (tk b0) (tk a0) else tk a0:=by unfold bothR;rw [ov_pieces (right_ord ha).1 (right_ord hb).1]
 obtain ⟨a,hA⟩:∃ a,tk a0=a:=⟨_,rfl⟩
 obtain ⟨b,hBb⟩:∃ b,tk b0=b:=⟨_,rfl⟩
 rw [hA] at ha hbr
 rw [hBb] at hb kt hbr
 simp only [hA] at kc kta
 have hlb:=hb.1
 have hla:=ha.1
 have hpo:=ord_pieces (right_ord hb).1 (right_ord ha).1
 have hpi:=inb_pieces (c:=b) (right_ord ha).2
 have hle:=both_len (right_ord hb).1 (right_ord ha).1
 obtain ⟨sa,ca,rfl,_⟩:=h1
 obtain ⟨sb0,cb0,rfl,_⟩:=h2
 obtain ⟨na,hna⟩:∃ na,a0.length=na:=⟨_,rfl⟩
 obtain ⟨nb0,hnb0⟩:∃ nb,b0.length=nb:=⟨_,rfl⟩
 have KC:Hid _:=kc
 have KTA:Hid _:=kta
 have HPO:Hid (Ord (pieces b a)):=hpo
 have HPI:Hid (Inb (pieces b a)):=hpi
 have HBR:Hid (bothR a0 b0=if (pieces b a).length≤4096 then pieces b a else a):=hbr
 rw [hna] at KC KTA ⊢
 rw [hnb0] at kt ⊢
 clear kc hpo hpi ha hb hna kta hbr hA hBb hnb0
 go_enter Tryz.func62,Tryz.ntmps62
 go_wp2_with fail
 refine kt.mono ?_
 rintro e w0 ⟨sb,n,cb,rfl,hSb,hn',m0,rfl⟩
 have HN:Hid (b.length=n):=hn'.symm
 have HC:Hid (0<b.length→∃ b' off,sb=some ⟨b',off,none⟩∧b'<W.heap.size∧∀ i,i<b.length→W.cell? ⟨b',off+i*2,none⟩=some (.int .i64 (lo b i))∧W.cell? ⟨b',off+i*2+1,none⟩=some (.int .i64 (hi b i))):=by
  obtain ⟨a',c',e,hc⟩:=hSb
  injection e with e1 _ _
  rw [e1];exact hc
 rw [←hn'] at hlb hle
 have hB0:Below W.heap.size W (W.drewN m0):=below_drewN (Below.refl _ _) m0
 clear kt hSb hn'
 go_wp2
 go_loopw [5,6] (fun o i wr=>∃ (k:Nat),k≤n∧i = .int .i64 k∧wr.ownsRow W.heap.size 80 2 o (pieces (b.take k) a).length (flat (pieces (b.take k) a))∧(o = .slice none 0 0↔pieces (b.take k) a=[])∧Below W.heap.size W wr) (fun _ i _=>n-(intOf i).toNat)
 case atStart=>exact ⟨0,Nat.zero_le _,rfl,World.ownsRow_nil _ _ _ _,by simp [pieces],hB0⟩
 case round =>
  clear hB0
  obtain ⟨k,hk,rfl,hrow,hnil,hB⟩:=hrel
  have hsz:=hB.size
  by_cases hlt:k<n
  ·have hkl:k<b.length:=by rw [HN.out];exact hlt
   obtain ⟨bb,off,rfl,hbb,hcells⟩:=HC.out (by omega)
   obtain ⟨c1,c2⟩:=hcells k hkl
   have d1:=(hB.cell (p:=⟨bb,off+k*2,none⟩) hbb).trans c1
   have d2:=(hB.cell (p:=⟨bb,off+k*2+1,none⟩) hbb).trans c2
   have htk:=pieces_take b a k hkl
   have hpl:=pieces_len_take b a (k+1)
   obtain ⟨x,hx⟩:∃ x,lo b k=x:=⟨_,rfl⟩
   obtain ⟨y,hy⟩:∃ y,hi b k=y:=⟨_,rfl⟩
   rw [hx] at d1 htk
   rw [hy] at d2 htk
   obtain ⟨os,hos⟩:∃ os,pieces (b.take k) a=os:=⟨_,rfl⟩
   obtain ⟨cu,hcu⟩:∃ cu,cutL a x y=cu:=⟨_,rfl⟩
   rw [hos] at hrow hnil htk
   rw [hcu] at htk
   rw [htk,List.length_append] at hpl
   have k65:=KC.out x y wr.drew (hB.drew)
   rw [hcu] at k65
   have HTK:Hid (pieces (b.take (k+1)) a=os++cu):=htk
   have hcnm:∃ ov on oc,u5 = .slice ov on oc∧on=os.length∧on≤oc:=by
    rcases hrow.2 with ⟨e1,e2⟩ | ⟨g',cap',cur,e1,_,_,h3,_⟩
    ·exact ⟨none,0,0,e1,e2.symm,Nat.le_refl _⟩
    ·exact ⟨_,_,_,e1,rfl,h3⟩
   obtain ⟨ov,on,oc,rfl,hon,honc⟩:=hcnm
   subst hon
   obtain ⟨m,hm⟩:∃ m,os.length=m:=⟨_,rfl⟩
   have HM:Hid (os.length=m):=hm
   rw [hm] at hrow honc hpl hnil ⊢
   clear hm
   have hlt':(k:Int)<(n:Int):=by omega
   clear hcells c1 c2 hx hy hos hcu htk hkl
   have HK:∀ X,Below W.heap.size W X→X.cell? ⟨bb,off+k*2,none⟩=some (.int .i64 x)∧X.cell? ⟨bb,off+k*2+1,none⟩=some (.int .i64 y):=fun X hX=>⟨(hX.cell (p:=⟨bb,off+k*2,none⟩) hbb).trans ((hB.cell (p:=⟨bb,off+k*2,none⟩) hbb).symm.trans d1),(hX.cell (p:=⟨bb,off+k*2+1,none⟩) hbb).trans ((hB.cell (p:=⟨bb,off+k*2+1,none⟩) hbb).symm.trans d2)⟩
   rcases Nat.eq_zero_or_pos cu.length with hc0 | hc0
   ·obtain rfl:cu=[]:=List.eq_nil_of_length_eq_zero hc0
    have k66:Calls Tryz.prog 90 #[.slice sa na ca,.int .i64 x,.int .i64 y] wr.drew fun e w'=>e = .returned (.slice none 0 0)∧Below W.heap.size W w'∧Below wr.heap.size wr w':=k65.mono (fun e w' ⟨s',he,_,hn,hb⟩=>⟨by rw [he,hn.2 rfl],hB.drew.trans (hb.mono hsz),(Below.refl wr.heap.size wr).drew.trans hb⟩)
    have HROW:Hid _:=hrow
    have hBdr:Below W.heap.size W wr.drew:=hB.drew
    clear k65 hrow hpl hc0
    go_wp2
    go_region_held_law (fun w'=>w'.cell? ⟨bb,off+k*2,none⟩=some (.int .i64 x)∧w'.cell? ⟨bb,off+k*2+1,none⟩=some (.int .i64 y)) (exact HK _ (by assumption)) (first
     | (go_at_call 90;refine k66.mono ?_;clear k66;rintro e w1 ⟨rfl,hbW,hb1⟩)
     | (refine step_app_nil _ rfl _ _ rfl _ _ _ honc rfl rfl ?_))
    go_wp2
    go_roundw
    case rel=>exact ⟨k+1,by omega,by go_num,by rw [HTK.out,List.append_nil,HM.out];exact own_keepB HROW.out hb1,by rw [HTK.out,List.append_nil];exact hnil,hbW⟩
    case measure=>simp [intOf];omega
   ·obtain ⟨cl,hcl⟩:∃ cl,cu.length=cl:=⟨_,rfl⟩
    have HCL:Hid (cu.length=cl):=hcl
    have hfl:(flat cu).length=cl*2:=by rw [flat_length,hcl]
    rw [hcl] at k65 hc0 hpl
    have k66:Calls Tryz.prog 90 #[.slice sa na ca,.int .i64 x,.int .i64 y] wr.drew fun e w'=>∃ g c,e = .returned (.slice (some ⟨g,0,none⟩) cl c)∧(∀ j u,(flat cu)[j]? = some u→w'.cell? ((⟨g,0,none⟩:Addr).add j)=some u)∧Below W.heap.size W w'∧Below wr.heap.size wr w':=k65.mono (fun e w' ⟨s',he,ho,hn,hb⟩=>by
     obtain ⟨g,c,e1,_,_,h3⟩:=own_some ho hc0
     exact ⟨g,c,by rw [he,e1],fun j u hj=>by rw [Addr.add_lit,Nat.zero_add];exact h3 j u hj,hB.drew.trans (hb.mono hsz),(Below.refl wr.heap.size wr).drew.trans hb⟩)
    have HROW:Hid _:=hrow
    have hBdr:Below W.heap.size W wr.drew:=hB.drew
    have hcne:cu≠[]:=fun e=>by rw [e] at hcl;simp at hcl;omega
    have HCNE:Hid (cu≠[]):=hcne
    clear k65 hrow hcl hcne
    go_wp2
    go_region_held_law (fun w'=>w'.cell? ⟨bb,off+k*2,none⟩=some (.int .i64 x)∧w'.cell? ⟨bb,off+k*2+1,none⟩=some (.int .i64 y)) (exact HK _ (by assumption)) (first
     | (go_at_call 90;refine k66.mono ?_;clear k66;rintro e w1 ⟨g1,cg1,rfl,hnews,hbW,hb1⟩;have hrw1:=own_keepB HROW.out hb1)
     | (refine step_append_lies _ rfl _ _ 34 rfl W.heap.size 80 i0 (.agg #[.int .i64 0,.int .i64 0]) 2 16 Tryz.underlying34 hi0 hz0 hz1 hz2 rfl (by decide) _ _ _ rfl hrw1 ⟨g1,0,none⟩ cl cg1 (flat cu) rfl hfl hnews flat_one hc0 (by unfold maxLen;omega) (by omega) hbW.size _ rfl ?_;intro g cap w2 hown hgrow hat hlt2;have hB2:Below W.heap.size W w2:=hbW.grown hgrow hbW.size (fun j e=>(World.ownsRow.lt hrw1 j e).1)))
    go_wp2
    go_roundw
    case rel =>
     refine ⟨k+1,by omega,by go_num,?_,?_,hB2⟩
     ·rw [HTK.out,List.length_append,HM.out,HCL.out,flat_app];exact hown
     ·rw [HTK.out];simp [HCNE.out]
    case measure=>simp [intOf];omega
  ·obtain rfl:k=n:=by omega
   have htk:b.take k=b:=by rw [←HN.out];exact List.take_length
   rw [htk] at hrow hnil
   have hsr:=own_srl hrow
   obtain ⟨av,cv,rfl⟩:∃ av cv,u5 = .slice av (pieces b a).length cv:=by
    obtain ⟨av,cv,e,_⟩:=hsr;exact ⟨av,cv,e⟩
   have kj:=joined_ord _ (pieces b a) wr hsr HPO.out HPI.out (by have:=HN.out;omega)
   obtain ⟨P,hP⟩:∃ P,pieces b a=P:=⟨_,rfl⟩
   rw [hP] at kj
   simp only [hP]
   have HP:Hid (pieces b a=P):=hP
   obtain ⟨pl,hpl⟩:∃ pl,P.length=pl:=⟨_,rfl⟩
   have HPL:Hid (P.length=pl):=hpl
   rw [hpl] at kj
   simp only [hpl]
   clear htk hsr hrow hnil hP hpl
   go_wp2_with fail
   refine kj.mono ?_
   rintro e w1 ⟨s',rfl,hown,hnl,hb1⟩
   obtain ⟨a1,c1,rfl⟩:∃ a1 c1,s' = .slice a1 pl c1:=by
    rcases hown.2 with ⟨e1,e2⟩ | ⟨g',cap',cur,e1,_⟩
    ·exact ⟨none,0,by rw [e1,e2]⟩
    ·exact ⟨_,_,e1⟩
   have HOWN:Hid _:=hown
   have hBW1:Below W.heap.size W w1:=hB.trans (hb1.mono hsz)
   clear kj hown hnl
   by_cases hbig:pl≤4096
   ·have hd:decide (4096<(pl:Int))=false:=by simp;omega
    go_wp2
    go_ret
    exact ⟨_,rfl,by rw [HBR.out,HP.out,if_pos (by rw [HPL.out];exact hbig),HPL.out];exact own_base HOWN.out hsz,hBW1⟩
   ·have hd:decide (4096<(pl:Int))=true:=by simp;omega
    go_wp2_with fail
    refine (KTA.out w1 hBW1).mono ?_
    rintro e w2 ⟨ta,tn,tc,rfl,hSt,htn,m2,rfl⟩
    have hb2:Below w1.heap.size w1 (w1.drewN m2):=below_drewN (Below.refl _ _) m2
    have HSt:Hid (Sr (w1.drewN m2) (.slice ta tn tc) a):=hSt.below hb2
    obtain ⟨w3,hw3⟩:∃ wd,w1.drewN m2=wd:=⟨_,rfl⟩
    rw [hw3] at hb2 HSt ⊢
    have hBW3:Below W.heap.size W w3:=hBW1.trans (hb2.mono hBW1.size)
    clear hSt htn hw3
    go_wp2_with (at_builtin;refine wpList_app_any _ rfl _ _ rfl W.heap.size _ 0 [] rfl (World.ownsRow_nil _ _ _ _) rfl _ a rfl HSt.out (by simp;omega) hBW3.size ?_;intro v4 w4 hown4 hb4 _;rw [List.nil_append] at hown4;obtain ⟨g4,k4,e4,_,_⟩:=own_shape hown4;subst e4;have HOWN4:Hid _:=hown4;clear hown4)
    go_ret
    refine ⟨_,rfl,?_,hBW3.trans hb4⟩
    rw [HBR.out,HP.out,if_neg (by rw [HPL.out];exact hbig)]
    have h9:=HOWN4.out
    simp only [List.length_nil,Nat.zero_add] at h9
    exact h9
end Go.Proofs.YtghnfnieppfhgaaGreat.Dm
