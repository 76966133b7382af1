/- What is proved here: store.put, tight and Narrow of any domain that becomes smaller. What is proved here: store.change: what happened to a domain, of either kind. What is proved here: back of any domains: those that were saved are put back. What is proved here: Pop of any store. -/
import Derived.Test.YtghnfnieppfhgaaGreatAa
import Derived.Test.YtghnfnieppfhgaaGreatMaj
import Derived.Test.YtghnfnieppfhgaaGreatKgj
import Derived.Test.YtghnfnieppfhgaaGreatYTbj
set_option linter.unusedVariables false
set_option linter.unusedSimpArgs false
set_option maxRecDepth 100000
set_option maxHeartbeats 12000000
namespace Go.Proofs.YtghnfnieppfhgaaGreat
open Go.RowKit Go.Shelf
theorem with_sz {X Y:Nat→Prop} {W:World} {c k:List Value} {d o:MD} (h:Dc X W c d) (h':Dc Y W k o) (hs:d.set=true) :
  Calls Tryz.prog 73 #[.agg c.toArray,.agg k.toArray] W fun e w'=>∃ q:List Value,e = .returned (.agg q.toArray)∧(∀ Z:Nat→Prop,(∀ b,Z b→b<W.heap.size)→Dc Z w' q (bothA d o))∧Below W.heap.size W w':=by
 have e:bothA d o=ofSD (St.bothD (sdM d) (sdM o)):=by unfold bothA;rw [if_pos hs]
 rw [e]
 exact (with_s h h' hs).mono fun e w' ⟨q,h1,h2,h3⟩=>⟨q,h1,h2.dc,h3⟩
theorem with_wz {X Y:Nat→Prop} {W:World} {c k:List Value} {d o:MD} (h:Dc X W c d) (h':Dc Y W k o) (hs:d.set=false) (hs':o.set=false) (hf:Dm.FitsR d.r) (hf':Dm.FitsR o.r) :
  Calls Tryz.prog 74 #[.agg c.toArray,.agg k.toArray] W fun e w'=>∃ q:List Value,e = .returned (.agg q.toArray)∧(∀ Z:Nat→Prop,(∀ b,Z b→b<W.heap.size)→Dc Z w' q (bothA d o))∧Below W.heap.size W w':=by
 have e:bothA d o=bothW d o:=by unfold bothA;rw [if_neg (by rw [hs];decide)]
 rw [e]
 exact with_w h h' hs hs' hf hf'
theorem bothD_right (a b:St.SD):St.RightD (St.bothD a b):=by
 rw [St.bothD_G]
 have hA:=St.taken_right a
 have hB:=St.taken_right b
 unfold St.bothG
 split
 ·rename_i hsub
  have hsub':=(St.subB_iff _ _).1 hsub
  have hm:=St.meet_set hA.2.2.2.1 (St.takenD b).up
  exact St.tight_right _ _ (St.join_set hA.2.2.1 hB.2.2.1 hm hsub') hm hsub'
 ·exact St.none_right
theorem bothA_set (a b:MD):(bothA a b).set=a.set:=by
 unfold bothA
 cases hs:a.set
 ·simp only [Bool.false_eq_true,if_false];rfl
 ·simp only [if_true];exact (bothD_right _ _).1
theorem put_d [Gh] {W:World} {p:Nat} {st:StM} {sl:Sl} {c:List Value} {d:MD} (h:Sto W p st sl) (hc:Dc (XS p sl) W c d) (v:Nat) {o:MD} (hv:st.D[v]? = some o) (he : -1000000≤st.e) (he':st.e≤1000000) (hz:Sz st) :
  Calls Tryz.prog 52 #[ptr p,.int .i64 v,.agg c.toArray] W fun e w'=>e = .returned (.tuple #[])∧Sto w' p { st with e:=st.e+(emptI (emptyA d)-emptI (emptyA o)),D:=st.D.set v d } sl∧Kept (XS p sl) W w':=by
 have hvl:v<st.D.length:=(List.getElem?_eq_some_iff.1 hv).1
 obtain ⟨n,k,m,sa,sc,ma,mc,ia,ic,da,dc,wa,wc,rfl,HL⟩:=h.look
 obtain ⟨gd,cap,c',e1,hgd,hcap,hcm,hr,hth,hco⟩:=h.dom_at hv
 injection e1 with e1 e2 e3
 subst e1 e3
 clear e2
 have hvn:v<n:=by rw [←HL.out.1];exact hvl
 have hn1:n≤1000:=by rw [←HL.out.1];exact hz.1
 have hcap':n≤dc:=by rw [←HL.out.1];exact hcap
 obtain ⟨b,ra,n0,rc,a1,n1,c1,a2,n2,c2,x,y,ec,HE,H1,H2,H3⟩:=hc.look
 obtain ⟨b',ra',n0',rc',a1',n1',c1',a2',n2',c2',x',y',ec',HE',H1',H2',H3'⟩:=hco.look
 subst ec ec'
 obtain ⟨W0,hW0⟩:∃ Q,W.alloc (Obj.cells #[.bool b,.slice ra n0 rc,.slice a1 n1 c1,.slice a2 n2 c2,.int .i64 x,.int .i64 y] 37)=Q:=⟨_,rfl⟩
 have hb0:Below W.heap.size W W0:=by rw [←hW0];exact (Below.refl _ W).alloc (Nat.le_refl _) _
 have HBX:Hid (Bx W0 W.heap.size #[.bool b,.slice ra n0 rc,.slice a1 n1 c1,.slice a2 n2 c2,.int .i64 x,.int .i64 y] 37):=by rw [←hW0];exact Bx.new _ _ _
 have HS:=hid (h.below hb0)
 have HR0:Hid (W0.rangeAt gd (v*6) _):=fun j u hu=>(hb0.cell (p:=⟨gd,v*6+j,none⟩) hgd).trans (hr j u hu)
 have hgd0:gd<W0.heap.size:=Nat.lt_of_lt_of_le hgd hb0.size
 have HPG:Hid (p≠gd):=fun e=>by
  obtain ⟨cs,hd,_⟩:=h.doms
  exact hd.nep h.blk (by decide) (by rw [e];rfl)
 have HPW:Hid (W.heap.size≠p):=by have:=h.p_lt;rw [Hid];omega
 have HGD:Hid (gd<W.heap.size):=hgd
 have HVL:Hid (v<st.D.length):=hvl
 have HVO:Hid (st.D[v]? = some o):=hv
 have HXG:Hid (XS p ⟨.slice sa k sc,.slice ma m mc,.slice ia n ic,.slice (some ⟨gd,0,none⟩) n dc,.slice wa n wc⟩ gd):=.inr (.inr (.inr (.inr (.inl rfl))))
 have FACTS:∀ X,Below W0.heap.size W0 X→X.cell? ⟨p,3,none⟩=some (.slice (some ⟨gd,0,none⟩) n dc)∧X.cell? ⟨p,4,none⟩=some (.int .i64 st.e)∧((X.cell? ⟨W.heap.size,0,none⟩=some (.bool b)∧X.cell? ⟨W.heap.size,1,none⟩=some (.slice ra n0 rc)∧X.cell? ⟨W.heap.size,2,none⟩=some (.slice a1 n1 c1)∧X.cell? ⟨W.heap.size,3,none⟩=some (.slice a2 n2 c2)∧X.cell? ⟨W.heap.size,4,none⟩=some (.int .i64 x)∧X.cell? ⟨W.heap.size,5,none⟩=some (.int .i64 y)) ∧
   (X.cell? ⟨gd,v*6,none⟩=some (.bool b')∧X.cell? ⟨gd,v*6+1,none⟩=some (.slice ra' n0' rc')∧X.cell? ⟨gd,v*6+2,none⟩=some (.slice a1' n1' c1')∧X.cell? ⟨gd,v*6+3,none⟩=some (.slice a2' n2' c2')∧X.cell? ⟨gd,v*6+4,none⟩=some (.int .i64 x')∧X.cell? ⟨gd,v*6+5,none⟩=some (.int .i64 y')))∧X.frozen? ⟨p,4,none⟩=false:=by
  intro X hX
  obtain ⟨z0,z1,z2,z3,z4,z5,zf⟩:=(HS.out.below hX).cells
  exact ⟨z3,z4,⟨(HBX.out.below hX).six,rng6 fun j u hu=>(hX.cell (p:=⟨gd,v*6+j,none⟩) hgd0).trans (HR0.out j u hu)⟩,zf 4⟩
 have FACTS2:∀ X,(∃ Y,Below W0.heap.size W0 Y∧(X=Y∨∃ u,X=Y.setCell ⟨p,4,none⟩ u))→X.cell? ⟨p,3,none⟩=some (.slice (some ⟨gd,0,none⟩) n dc)∧((X.cell? ⟨W.heap.size,0,none⟩=some (.bool b)∧X.cell? ⟨W.heap.size,1,none⟩=some (.slice ra n0 rc)∧X.cell? ⟨W.heap.size,2,none⟩=some (.slice a1 n1 c1)∧X.cell? ⟨W.heap.size,3,none⟩=some (.slice a2 n2 c2)∧X.cell? ⟨W.heap.size,4,none⟩=some (.int .i64 x)∧X.cell? ⟨W.heap.size,5,none⟩=some (.int .i64 y)) ∧
   (X.cell? ⟨gd,v*6,none⟩=some (.bool b')∧X.cell? ⟨gd,v*6+1,none⟩=some (.slice ra' n0' rc')∧X.cell? ⟨gd,v*6+2,none⟩=some (.slice a1' n1' c1')∧X.cell? ⟨gd,v*6+3,none⟩=some (.slice a2' n2' c2')∧X.cell? ⟨gd,v*6+4,none⟩=some (.int .i64 x')∧X.cell? ⟨gd,v*6+5,none⟩=some (.int .i64 y'))):=by
  intro X ⟨Y,hY,hX⟩
  have f:=FACTS Y hY
  rcases hX with rfl | ⟨u,rfl⟩
  ·exact ⟨f.1,f.2.2.1⟩
  ·have hpp:p≠W.heap.size:=by have:=h.p_lt;omega
   have o1:∀ j,(Y.setCell ⟨p,4,none⟩ u).cell? ⟨W.heap.size,j,none⟩=Y.cell? ⟨W.heap.size,j,none⟩:=fun j=>World.cell?_setCell_other _ _ _ _ (by intro e;injection e with e _ _;exact hpp e)
   have o2:∀ j,(Y.setCell ⟨p,4,none⟩ u).cell? ⟨gd,j,none⟩=Y.cell? ⟨gd,j,none⟩:=fun j=>World.cell?_setCell_other _ _ _ _ (by intro e;injection e with e _ _;exact HPG.out e)
   simp only [o1,o2]
   exact ⟨(World.cell?_setCell_other _ _ _ _ (by intro e;injection e with _ e _;cases e)).trans f.1,f.2.2.1⟩
 have KN:Hid (∀ X,Below W0.heap.size W0 X→Calls Tryz.prog 32 #[.agg #[.bool b,.slice ra n0 rc,.slice a1 n1 c1,.slice a2 n2 c2,.int .i64 x,.int .i64 y]] X fun e w'=>e = .returned (.int .i64 (emptI (emptyA d)))∧Below X.heap.size X w'):=fun X hX=>emptiness_d ((hc.below hb0).below hX)
 have KO:Hid (∀ X,Below W0.heap.size W0 X→Calls Tryz.prog 32 #[.agg #[.bool b',.slice ra' n0' rc',.slice a1' n1' c1',.slice a2' n2' c2',.int .i64 x',.int .i64 y']] X fun e w'=>e = .returned (.int .i64 (emptI (emptyA o)))∧Below X.heap.size X w'):=fun X hX=>emptiness_d ((hco.below hb0).below hX)
 have i1:=emptI_01 (emptyA d)
 have i2:=emptI_01 (emptyA o)
 generalize emptI (emptyA d)=q1 at *
 generalize emptI (emptyA o)=q2 at *
 obtain ⟨i1a,i1b⟩:=i1
 obtain ⟨i2a,i2b⟩:=i2
 generalize hE:st.e=ee at *
 have HEE:Hid _:=hE
 have HW0:Hid _:=hW0
 have HB0:Hid (Below W0.heap.size W0 W0.drew):=(Below.refl _ _).drew
 have HC:Hid (Dc _ W _ d):=hc
 have HB00:Hid (Below W.heap.size W W0):=hb0
 have HH:Hid (Sto W p st _):=h
 clear hE hW0 h hz hr hth hco hc hvl hv hb0 hgd hcap
 have hvi:(v:Int)<n:=by omega
 have hw1:IntKind.i64.wrap (q1-q2)=q1-q2:=wrap_small (by omega) (by omega)
 have hw2:IntKind.i64.wrap (ee+(q1-q2))=ee+(q1-q2):=wrap_small (by omega) (by omega)
 go_enter Tryz.func52,Tryz.ntmps52
 go_upto_region 1 with (fail)
 rw [HW0.out]
 apply wp_ways (R:=fun w'=>∃ Y,Below W0.heap.size W0 Y∧w'=(Y.setCell ⟨p,4,none⟩ (.int .i64 (ee+(q1-q2)))))
 case h =>
  refine wp_region_held_drew (S:=fun X:World=>∃ Y,Below W0.heap.size W0 Y∧(X=Y∨∃ u,X=Y.setCell ⟨p,4,none⟩ u)) (by kernel_rfl) (⟨_,HB0.out,.inl rfl⟩) (fun hHeld=>?_)
  refine tkI 0 rfl hHeld ?_
  try simp only [Act.put,zS,eZ,eS]
  refine tkI 1 rfl hHeld ?_
  try simp only [Act.put,zS,eZ,eS]
  refine tkI 2 rfl hHeld ?_
  try simp only [Act.put,zS,eZ,eS]
  refine tkH 4 ⟨some 10,.load 37 (.tmp 5),37,"store.go:109",#[],none⟩ (v:=?_) hHeld ?_ ?_;rotate_left
  ·intro w hSw;obtain ⟨y3,⟨⟨y0,y1,y2,y31,y4,y5⟩,⟨u0,u1,u2,u3,u4,u5⟩⟩⟩:=FACTS2 w hSw;go_simp<;>with_reducible rfl
  try simp only [Act.put,zS,eZ,eS]
  refine tkI 6 rfl hHeld ?_
  try simp only [Act.put,zS,eZ,eS]
  refine tkI 7 rfl hHeld ?_
  try simp only [Act.put,zS,eZ,eS]
  refine tkI 8 rfl hHeld ?_
  try simp only [Act.put,zS,eZ,eS]
  refine tkH 9 ⟨some 15,.load 22 (.tmp 14),22,"store.go:109",#[⟨8,.data⟩],none⟩ (v:=?_) hHeld ?_ ?_;rotate_left
  ·intro w hSw;obtain ⟨y3,⟨⟨y0,y1,y2,y31,y4,y5⟩,⟨u0,u1,u2,u3,u4,u5⟩⟩⟩:=FACTS2 w hSw;go_simp<;>with_reducible rfl
  try simp only [Act.put,zS,eZ,eS]
  refine tkI 10 rfl hHeld ?_
  try simp only [Act.put,zS,eZ,eS]
  refine tkI 11 rfl hHeld ?_
  try simp only [Act.put,zS,eZ,eS]
  refine tkH 12 ⟨some 18,.load 37 (.tmp 17),37,"store.go:109",#[⟨11,.data⟩],none⟩ (v:=?_) hHeld ?_ ?_;rotate_left
  ·intro w hSw;obtain ⟨y3,⟨⟨y0,y1,y2,y31,y4,y5⟩,⟨u0,u1,u2,u3,u4,u5⟩⟩⟩:=FACTS2 w hSw;go_simp<;>with_reducible rfl
  try simp only [Act.put,zS,eZ,eS]
  refine wpAnyH_ready (rs:=[3,5]) (by kernel_rfl) (by simp) ?_
  refine AllReadyH.cons rfl (fun K hK=>?_) ?_
  ·have z4:=(FACTS _ HB0.out).2.1
   go_simp
   clear z4
   clear hHeld;refine hK.out _ _ (⟨_,HB0.out,.inl rfl⟩) fun hHeld=>?_
   clear hK K
   try simp only [Act.put,zS,eZ,eS]
   refine rdy 5 rfl fun K hK=>?_
   go_simp
   refine (KN.out _ HB0.out).mono ?_
   rintro e w1 ⟨rfl,hb⟩
   have HB1:=hid (HB0.out.trans (hb.mono HB0.out.size))
   clear hb
   clear hHeld;refine hK.out _ _ (⟨_,HB1.out,.inl rfl⟩) fun hHeld=>?_
   clear hK K
   try simp only [Act.put,zS,eZ,eS]
   refine rdy 13 rfl fun K hK=>?_
   go_simp
   refine (KO.out _ HB1.out).mono ?_
   rintro e w2 ⟨rfl,hb⟩
   have HB2:=hid (HB1.out.trans (hb.mono HB1.out.size))
   clear hb
   clear hHeld;refine hK.out _ _ (⟨_,HB2.out,.inl rfl⟩) fun hHeld=>?_
   clear hK K
   try simp only [Act.put,zS,eZ,eS]
   refine tkI 14 rfl hHeld ?_
   try simp only [Act.put,zS,eZ,eS]
   refine tkI 15 rfl hHeld ?_
   try simp only [Act.put,zS,eZ,eS]
   refine tkI 16 rfl hHeld ?_
   try simp only [Act.put,zS,eZ,eS]
   refine tkI 17 rfl hHeld ?_
   try simp only [Act.put,zS,eZ,eS]
   refine rdy 18 rfl fun K hK=>?_
   have z4:=(FACTS _ HB2.out).2.1
   have zf:=(FACTS _ HB2.out).2.2.2
   go_simp
   clear z4 zf
   clear hHeld;refine hK.out _ _ (⟨_,HB2.out,.inr ⟨_,rfl⟩⟩) fun hHeld=>?_
   clear hK K
   try simp only [Act.put,zS,eZ,eS]
   refine wpAnyH_done (by kernel_rfl) ?_ _
   exact ⟨rfl,_,HB2.out,rfl⟩
  refine AllReadyH.cons rfl (fun K hK=>?_) ?_
  ·go_simp
   refine (KN.out _ HB0.out).mono ?_
   rintro e w1 ⟨rfl,hb⟩
   have HB1:=hid (HB0.out.trans (hb.mono HB0.out.size))
   clear hb
   clear hHeld;refine hK.out _ _ (⟨_,HB1.out,.inl rfl⟩) fun hHeld=>?_
   clear hK K
   try simp only [Act.put,zS,eZ,eS]
   refine wpAnyH_ready (rs:=[3,13]) (by kernel_rfl) (by simp) ?_
   refine AllReadyH.cons rfl (fun K hK=>?_) ?_
   ·have z4:=(FACTS _ HB1.out).2.1
    go_simp
    clear z4
    clear hHeld;refine hK.out _ _ (⟨_,HB1.out,.inl rfl⟩) fun hHeld=>?_
    clear hK K
    try simp only [Act.put,zS,eZ,eS]
    refine rdy 13 rfl fun K hK=>?_
    go_simp
    refine (KO.out _ HB1.out).mono ?_
    rintro e w2 ⟨rfl,hb⟩
    have HB2:=hid (HB1.out.trans (hb.mono HB1.out.size))
    clear hb
    clear hHeld;refine hK.out _ _ (⟨_,HB2.out,.inl rfl⟩) fun hHeld=>?_
    clear hK K
    try simp only [Act.put,zS,eZ,eS]
    refine tkI 14 rfl hHeld ?_
    try simp only [Act.put,zS,eZ,eS]
    refine tkI 15 rfl hHeld ?_
    try simp only [Act.put,zS,eZ,eS]
    refine tkI 16 rfl hHeld ?_
    try simp only [Act.put,zS,eZ,eS]
    refine tkI 17 rfl hHeld ?_
    try simp only [Act.put,zS,eZ,eS]
    refine rdy 18 rfl fun K hK=>?_
    have z4:=(FACTS _ HB2.out).2.1
    have zf:=(FACTS _ HB2.out).2.2.2
    go_simp
    clear z4 zf
    clear hHeld;refine hK.out _ _ (⟨_,HB2.out,.inr ⟨_,rfl⟩⟩) fun hHeld=>?_
    clear hK K
    try simp only [Act.put,zS,eZ,eS]
    refine wpAnyH_done (by kernel_rfl) ?_ _
    exact ⟨rfl,_,HB2.out,rfl⟩
   refine AllReadyH.cons rfl (fun K hK=>?_) ?_
   ·go_simp
    refine (KO.out _ HB1.out).mono ?_
    rintro e w2 ⟨rfl,hb⟩
    have HB2:=hid (HB1.out.trans (hb.mono HB1.out.size))
    clear hb
    clear hHeld;refine hK.out _ _ (⟨_,HB2.out,.inl rfl⟩) fun hHeld=>?_
    clear hK K
    try simp only [Act.put,zS,eZ,eS]
    refine tkI 14 rfl hHeld ?_
    try simp only [Act.put,zS,eZ,eS]
    refine rdy 3 rfl fun K hK=>?_
    have z4:=(FACTS _ HB2.out).2.1
    go_simp
    clear z4
    clear hHeld;refine hK.out _ _ (⟨_,HB2.out,.inl rfl⟩) fun hHeld=>?_
    clear hK K
    try simp only [Act.put,zS,eZ,eS]
    refine tkI 15 rfl hHeld ?_
    try simp only [Act.put,zS,eZ,eS]
    refine tkI 16 rfl hHeld ?_
    try simp only [Act.put,zS,eZ,eS]
    refine tkI 17 rfl hHeld ?_
    try simp only [Act.put,zS,eZ,eS]
    refine rdy 18 rfl fun K hK=>?_
    have z4:=(FACTS _ HB2.out).2.1
    have zf:=(FACTS _ HB2.out).2.2.2
    go_simp
    clear z4 zf
    clear hHeld;refine hK.out _ _ (⟨_,HB2.out,.inr ⟨_,rfl⟩⟩) fun hHeld=>?_
    clear hK K
    try simp only [Act.put,zS,eZ,eS]
    refine wpAnyH_done (by kernel_rfl) ?_ _
    exact ⟨rfl,_,HB2.out,rfl⟩
   exact AllReadyH.nil
  exact AllReadyH.nil
 case hK =>
  rintro _ ⟨Y,HBY,rfl⟩
  have HST0:Hid (Sto (Y.setCell ⟨p,4,none⟩ (.int .i64 (ee+(q1-q2)))).drew p { st with e:=ee+(q1-q2) } ⟨.slice sa k sc,.slice ma m mc,.slice ia n ic,.slice (some ⟨gd,0,none⟩) n dc,.slice wa n wc⟩):=((HS.out.below HBY).set_e _).below (Below.refl _ _).drew
  have HBX2:Hid (Bx (Y.setCell ⟨p,4,none⟩ (.int .i64 (ee+(q1-q2)))).drew W.heap.size #[.bool b,.slice ra n0 rc,.slice a1 n1 c1,.slice a2 n2 c2,.int .i64 x,.int .i64 y] 37):=((HBX.out.below HBY).setc HPW.out _ _).drew 1
  have HKZ:Hid (Kept (XS p ⟨.slice sa k sc,.slice ma m mc,.slice ia n ic,.slice (some ⟨gd,0,none⟩) n dc,.slice wa n wc⟩) W (Y.setCell ⟨p,4,none⟩ (.int .i64 (ee+(q1-q2)))).drew):=(((Kept.of_below HB00.out).then_below HBY).setCell (.inl rfl) _ _).then_below (Below.refl _ _).drew
  have HCZ:=hid (HC.out.kept HKZ.out)
  have HP3:Hid (∀ o vs,((Y.setCell ⟨p,4,none⟩ (.int .i64 (ee+(q1-q2)))).drew.setCells gd o vs).cell? ⟨p,3,none⟩=some (.slice (some ⟨gd,0,none⟩) n dc)):=fun o vs=>((Kept.many (w:=(Y.setCell ⟨p,4,none⟩ (.int .i64 (ee+(q1-q2)))).drew) rfl).cell HST0.out.p_lt HPG.out 3).trans HST0.out.cells.2.2.2.1
  have hp3:(Y.setCell ⟨p,4,none⟩ (.int .i64 (ee+(q1-q2)))).drew.cell? ⟨p,3,none⟩=some (.slice (some ⟨gd,0,none⟩) n dc):=HST0.out.cells.2.2.2.1
  have HFIN:Hid (Sto _ p _ _):=HST0.out.set_dom (i:=v) HVL.out rfl HCZ.out
  have HTH:Hid ((Y.setCell ⟨p,4,none⟩ (.int .i64 (ee+(q1-q2)))).drew.there gd (v*6) 6):=(HST0.out.dom_at HVO.out).elim fun g h=>h.elim fun cp h=>h.elim fun c h=>by obtain ⟨e1,_,_,_,_,e6,_⟩:=h;injection e1 with e1 _ _;injection e1 with e1;injection e1 with e1 _ _;subst e1;exact e6
  clear HBY HB0 HB00 FACTS FACTS2 KN KO HS HBX HW0 hw1 hw2 HR0 hgd0
  generalize (Y.setCell ⟨p,4,none⟩ (.int .i64 (ee+(q1-q2))))=wz at *
  clear Y W0
  go_upto_region 2 with (fail)
  refine wp_region_held_drew (S:=fun X:World=>X.cell? ⟨p,3,none⟩=some (.slice (some ⟨gd,0,none⟩) n dc)∧Bx X W.heap.size #[.bool b,.slice ra n0 rc,.slice a1 n1 c1,.slice a2 n2 c2,.int .i64 x,.int .i64 y] 37) (by kernel_rfl) (⟨hp3,HBX2.out⟩) (fun hHeld=>?_)
  refine tkI 0 rfl hHeld ?_
  try simp only [Act.put,zS,eZ,eS]
  refine tkI 1 rfl hHeld ?_
  try simp only [Act.put,zS,eZ,eS]
  refine tkI 2 rfl hHeld ?_
  try simp only [Act.put,zS,eZ,eS]
  refine tkH 3 ⟨some 27,.load 22 (.tmp 26),22,"store.go:110",#[⟨2,.data⟩],none⟩ (v:=?_) hHeld ?_ ?_;rotate_left
  ·intro w hSw;obtain ⟨y3,hbx⟩:=hSw;obtain ⟨y0,y1,y2,y31,y4,y5⟩:=hbx.six;go_simp<;>with_reducible rfl
  try simp only [Act.put,zS,eZ,eS]
  refine tkI 4 rfl hHeld ?_
  try simp only [Act.put,zS,eZ,eS]
  refine tkH 5 ⟨some 29,.load 37 (.tmp 5),37,"store.go:110",#[],none⟩ (v:=?_) hHeld ?_ ?_;rotate_left
  ·intro w hSw;obtain ⟨y3,hbx⟩:=hSw;obtain ⟨y0,y1,y2,y31,y4,y5⟩:=hbx.six;go_simp<;>with_reducible rfl
  try simp only [Act.put,zS,eZ,eS]
  refine tkI 6 rfl hHeld ?_
  try simp only [Act.put,zS,eZ,eS]
  refine rdy 7 rfl fun K hK=>?_
  refine stepM rfl 37 (.tmp 30) (.tmp 29) rfl gd (v*6) [.bool b,.slice ra n0 rc,.slice a1 n1 c1,.slice a2 n2 c2,.int .i64 x,.int .i64 y] (by with_unfolding_all rfl) (by with_unfolding_all rfl) HTH.out Tryz.sizeDom (six_one _ _ _ _ _ _ _ _ _ _ _ _) ?_
  clear hHeld;refine hK.out _ _ (⟨HP3.out _ _,HBX2.out.setcs (by have:=HGD.out;omega) _ _⟩) fun hHeld=>?_
  clear hK K
  try simp only [Act.put,zS,eZ,eS]
  refine wpAnyH_done (by kernel_rfl) ?_ _
  refine ⟨rfl,_,results_none rfl _ _ _,rfl,HFIN.out,?_⟩
  exact Kept.setCells HXG.out _ _ HKZ.out
theorem tight_s {X:Nat→Prop} {W:World} {c:List Value} {d:MD} (h:Dc X W c d) (hs:d.set=true) :
  Calls Tryz.prog 31 #[.agg c.toArray] W fun e w'=>∃ q:List Value,e = .returned (.agg q.toArray)∧(∀ Z:Nat→Prop,(∀ b,Z b→b<W.heap.size)→Dc Z w' q (bothA d d))∧Below W.heap.size W w':=by
 obtain ⟨b,ra,n0,rc,a1,n1,c1,a2,n2,c2,x,y,rfl,HE,H1,H2,H3⟩:=h.look
 obtain rfl:b=true:=by rw [←HE.out.1,hs]
 obtain ⟨bw,hbw⟩:∃ q,W.heap.size=q:=⟨_,rfl⟩
 obtain ⟨W0,hW0⟩:∃ Q,(W.alloc (Obj.cells #[.bool true,.slice ra n0 rc,.slice a1 n1 c1,.slice a2 n2 c2,.int .i64 x,.int .i64 y] 37)).alloc (Obj.cells #[.bool false,.slice none 0 0,.slice none 0 0,.slice none 0 0,.int .i64 0,.int .i64 0] 37)=Q:=⟨_,rfl⟩
 have hb0:Below W.heap.size W W0:=by rw [←hW0];exact (((Below.refl _ W).alloc (Nat.le_refl _) _).alloc (by simp) _)
 have HBX:Hid (Bx W0 bw #[.bool true,.slice ra n0 rc,.slice a1 n1 c1,.slice a2 n2 c2,.int .i64 x,.int .i64 y] 37):=by rw [←hW0];exact (Bx.new' hbw _ _).alloc _
 have HRX:Hid (Bx W0 (bw+1) #[.bool false,.slice none 0 0,.slice none 0 0,.slice none 0 0,.int .i64 0,.int .i64 0] 37):=by rw [←hW0];exact Bx.new' (by simp [hbw]) _ _
 have hC:=h.below hb0
 have KN:Hid (∀ X,Below W0.heap.size W0 X→Calls Tryz.prog 49 #[.agg #[.bool true,.slice ra n0 rc,.slice a1 n1 c1,.slice a2 n2 c2,.int .i64 x,.int .i64 y]] X fun e w'=>e = .returned (.func (.func 73) #[.agg #[.bool true,.slice ra n0 rc,.slice a1 n1 c1,.slice a2 n2 c2,.int .i64 x,.int .i64 y]] #[])∧Below X.heap.size X w'):=fun X hX=>narrower_s (hC.below hX) hs
 have KW:Hid (∀ X,Below W0.heap.size W0 X→Calls Tryz.prog 73 #[.agg #[.bool true,.slice ra n0 rc,.slice a1 n1 c1,.slice a2 n2 c2,.int .i64 x,.int .i64 y],.agg #[.bool true,.slice ra n0 rc,.slice a1 n1 c1,.slice a2 n2 c2,.int .i64 x,.int .i64 y]] X fun e w'=>∃ q:List Value,e = .returned (.agg q.toArray)∧(∀ Z:Nat→Prop,(∀ b,Z b→b<X.heap.size)→Dc Z w' q (bothA d d))∧Below X.heap.size X w'):=fun X hX=>with_sz (hC.below hX) (hC.below hX) hs
 have HB00:Hid (Below W.heap.size W W0):=hb0
 have HB0:Hid (Below W0.heap.size W0 W0.drew):=(Below.refl _ _).drew
 have HW0:Hid _:=hW0
 have HBW:Hid (W.heap.size=bw):=hbw
 have HX0:Hid _:=HBX.out.drew 1
 clear hW0 hbw hb0 hC h hs H1 H2 H3 HE
 go_enter Tryz.func31,Tryz.ntmps31
 go_upto_region 1 with (fail)
 rw [HW0.out,HBW.out]
 refine wp_region_held_drew (S:=fun X:World=>Bx X bw #[.bool true,.slice ra n0 rc,.slice a1 n1 c1,.slice a2 n2 c2,.int .i64 x,.int .i64 y] 37) (by kernel_rfl) (HX0.out) (fun hHeld=>?_)
 refine tkH 0 ⟨some 3,.load 37 (.tmp 1),37,"kinds.go:38",#[],none⟩ (v:=?_) hHeld ?_ ?_;rotate_left
 ·intro w hSw;obtain ⟨y0,y1,y2,y3,y4,y5⟩:=hSw.six;go_simp<;>with_reducible rfl
 try simp only [Act.put,zS,eZ,eS]
 refine tkH 2 ⟨some 5,.load 37 (.tmp 1),37,"kinds.go:38",#[],none⟩ (v:=?_) hHeld ?_ ?_;rotate_left
 ·intro w hSw;obtain ⟨y0,y1,y2,y3,y4,y5⟩:=hSw.six;go_simp<;>with_reducible rfl
 try simp only [Act.put,zS,eZ,eS]
 refine rdy 1 rfl fun K hK=>?_
 go_simp
 refine (KN.out _ HB0.out).mono ?_
 rintro e w1 ⟨rfl,hb⟩
 have HB1:=hid (HB0.out.trans (hb.mono HB0.out.size))
 clear hb
 clear hHeld;refine hK.out _ _ ((HBX.out.below HB1.out)) fun hHeld=>?_
 clear hK K
 try simp only [Act.put,zS,eZ,eS]
 refine rdy 3 rfl fun K hK=>?_
 go_simp
 refine (KW.out _ HB1.out).mono ?_
 rintro e w2 ⟨q,rfl,hq,hb⟩
 have HQ:Hid _:=hq
 have HB2:=hid (HB1.out.trans (hb.mono HB1.out.size))
 have HS12:Hid (w1.heap.size≤w2.heap.size):=hb.size
 clear hb hq
 clear hHeld;refine hK.out _ _ ((HBX.out.below HB2.out)) fun hHeld=>?_
 clear hK K
 try simp only [Act.put,zS,eZ,eS]
 refine rdy 4 rfl fun K hK=>?_
 have HR2:=hid (HRX.out.below HB2.out)
 have HDc:Hid (Dc (fun _=>False) w2 q (bothA d d)):=HQ.out _ (fun _ q=>q.elim)
 refine stepR rfl 37 (.tmp 2) (.tmp 6) rfl (bw+1) q (by with_unfolding_all rfl) (by with_unfolding_all rfl) HR2.out (by rfl) HDc.out.len Tryz.sizeDom HDc.out.one ?_
 clear hHeld;refine hK.out _ _ (((HBX.out.below HB2.out).setRow_ne (by omega) _)) fun hHeld=>?_
 clear hK K
 try simp only [Act.put,zS,eZ,eS]
 refine wpAnyH_done (by kernel_rfl) ?_ _
 go_wp2
 refine ⟨rfl,_,resD rfl _ (HR2.out.setRow _) HDc.out.len (by with_unfolding_all rfl),q,rfl,fun Z hZ=>?_,below_row (HB00.out.trans (HB2.out.mono HB00.out.size)) (by have:=HBW.out;omega) _⟩
 refine (HQ.out (fun b=>b<w1.heap.size) (fun b q=>q)).go ⟨rfl,rfl,rfl,by simp [World.setRow],fun b _ hb=>setRow_other w2 _ b _ (by intro e;apply hb;have:=HRX.out.lt;have:=HB1.out.size;omega)⟩ (fun b hb=>.inl ?_)
 have:=hZ b hb;have:=HB00.out.size;have:=HB1.out.size;show b<w1.heap.size;omega
theorem tight_d {X:Nat→Prop} {W:World} {c:List Value} {d:MD} (h:Dc X W c d) (hf:Dm.FitsR d.r) :
  Calls Tryz.prog 31 #[.agg c.toArray] W fun e w'=>∃ q:List Value,e = .returned (.agg q.toArray)∧(∀ Z:Nat→Prop,(∀ b,Z b→b<W.heap.size)→Dc Z w' q (bothA d d))∧Below W.heap.size W w':=by
 cases hs:d.set
 ·have e:bothA d d=bothW d d:=by unfold bothA;rw [if_neg (by rw [hs];decide)]
  rw [e]
  exact tight_w h hs hf
 ·exact tight_s h hs
def putA (st:StM) (v:Nat) (o nx:MD):StM:={ st with e:=st.e+(emptI (emptyA nx)-emptI (emptyA o)),D:=st.D.set v nx }
def narrowA (st:StM) (v:Nat) (o nx:MD) (chg:Int):StM:=if emptyA nx then putA (saveM st v o) v o nx else { putA (saveM st v o) v o nx with why:=tellM (saveM st v o).why v chg }
theorem narrow_ch_b [Gh] (β:Bool) {W:World} {p:Nat} {st:StM} {sl:Sl} {c:List Value} {d o:MD} (h:Sto W p st sl) {X0:Nat→Prop} (hc:Dc X0 W c d) (v:Nat) (hv:st.D[v]? = some o) (hs:d.set=β) (hs':o.set=β) (hf:Dm.FitsR d.r) (hf':Dm.FitsR o.r) (hfx:Dm.FitsR (bothA o d).r) (hR:rightM d=true) (he:st.e=0) (ho:emptyA o=false) (hz:Sz st) (hzs:st.saved.length<10000000)
  (hns:sameA o (bothA o d)=false) (chg:Int) (kch:emptyA (bothA o d)=false→∀ (X Y:Nat→Prop) (w:World) (k k':List Value),Dc X w k o→Dc Y w k' (bothA o d)→Calls Tryz.prog 54 #[.agg k.toArray,.agg k'.toArray] w fun e w'=>e = .returned (.int .i64 chg)∧Below w.heap.size w w') :
  Calls Tryz.prog 14 #[ptr p,.int .i64 v,.agg c.toArray] W fun e w'=>e = .returned (.tuple #[.int .i64 (if emptyA (bothA o d) then 2 else 1),.int .i64 0])∧∃ sl',Sto w' p (narrowA st v o (bothA o d) chg) sl'∧Up (XS p sl) (XS p sl') W∧Kept (XS p sl) W w':=by
 have hvl:v<st.D.length:=(List.getElem?_eq_some_iff.1 hv).1
 obtain ⟨n,k,m,sa,sc,ma,mc,ia,ic,da,dc,wa,wc,rfl,HL⟩:=h.look
 obtain ⟨gd,cap,c',e1,hgd,hcap,hcm,hr,hth,hco⟩:=h.dom_at hv
 injection e1 with e1 e2 e3
 subst e1 e3
 clear e2
 have hvn:v<n:=by rw [←HL.out.1];exact hvl
 have hn1:n≤1000:=by rw [←HL.out.1];exact hz.1
 obtain ⟨b,ra,n0,rc,a1,n1,c1,a2,n2,c2,x,y,ec,HE,H1,H2,H3⟩:=hc.look
 obtain ⟨b',ra',n0',rc',a1',n1',c1',a2',n2',c2',x',y',ec',HE',H1',H2',H3'⟩:=hco.look
 subst ec ec'
 obtain rfl:β=b:=by rw [←HE.out.1,hs]
 obtain rfl:β=b':=by rw [←HE'.out.1,hs']
 obtain ⟨bw,hbw⟩:∃ q,W.heap.size=q:=⟨_,rfl⟩
 obtain ⟨W0,hW0⟩:∃ Q,W.alloc (Obj.cells #[.bool β,.slice ra n0 rc,.slice a1 n1 c1,.slice a2 n2 c2,.int .i64 x,.int .i64 y] 37)=Q:=⟨_,rfl⟩
 have hb0:Below W.heap.size W W0:=by rw [←hW0];exact (Below.refl _ W).alloc (Nat.le_refl _) _
 have HBX:Hid (Bx W0 bw #[.bool β,.slice ra n0 rc,.slice a1 n1 c1,.slice a2 n2 c2,.int .i64 x,.int .i64 y] 37):=by rw [←hW0];exact Bx.new' hbw _ _
 have HS:=hid (h.below hb0)
 have hgd0:gd<W0.heap.size:=Nat.lt_of_lt_of_le hgd hb0.size
 have HRG:Hid (∀ X,Below W0.heap.size W0 X→X.rangeAt gd (v*6) [.bool β,.slice ra' n0' rc',.slice a1' n1' c1',.slice a2' n2' c2',.int .i64 x',.int .i64 y']):=fun X hX j u hu=>(hX.cell (p:=⟨gd,v*6+j,none⟩) hgd0).trans ((hb0.cell (p:=⟨gd,v*6+j,none⟩) hgd).trans (hr j u hu))
 have HCD:=hid (hc.below hb0)
 have HCO:=hid (hco.below hb0)
 have KR:Hid (∀ X,Below W0.heap.size W0 X→Calls Tryz.prog 30 #[.agg #[.bool β,.slice ra n0 rc,.slice a1 n1 c1,.slice a2 n2 c2,.int .i64 x,.int .i64 y]] X fun e w'=>e = .returned (.bool true)∧Below X.heap.size X w'):=fun X hX=>by have:=right_d (HCD.out.below hX) hf;rw [hR] at this;exact this
 have kt:=there_any HS.out hz v
 have htb:thereB st v=true:=by unfold thereB;simp;exact hvl
 rw [htb] at kt
 have FS5:Hid (∀ X,Below W0.heap.size W0 X→X.cell? ⟨p,3,none⟩=some (.slice (some ⟨gd,0,none⟩) n dc)∧X.cell? ⟨gd,v*6,none⟩=some (.bool β)∧Bx X bw #[.bool β,.slice ra n0 rc,.slice a1 n1 c1,.slice a2 n2 c2,.int .i64 x,.int .i64 y] 37):=fun X hX=>⟨(HS.out.below hX).cells.2.2.2.1,(rng6 (HRG.out X hX)).1,HBX.out.below hX⟩
 have HE0:Hid (st.e=0):=he
 have HSD:Hid (d.set=β):=hs
 have HSO:Hid (o.set=β):=hs'
 have HFD:Hid (Dm.FitsR d.r):=hf
 have HFO:Hid (Dm.FitsR o.r):=hf'
 have HFX:Hid (Dm.FitsR (bothA o d).r):=hfx
 have HNS:Hid (sameA o (bothA o d)=false):=hns
 have HZ:Hid (Sz st):=hz
 have HZS:Hid (st.saved.length<10000000):=hzs
 have HVO:Hid (st.D[v]? = some o):=hv
 have HVL:Hid (v<st.D.length):=hvl
 have HOE:Hid (emptyA o=false):=ho
 have HKC:Hid _:=kch
 have HH:Hid (Sto W p st ⟨.slice sa k sc,.slice ma m mc,.slice ia n ic,.slice (some ⟨gd,0,none⟩) n dc,.slice wa n wc⟩):=h
 have HB00:Hid (Below W.heap.size W W0):=hb0
 have HB0:Hid (Below W0.heap.size W0 W0.drew):=(Below.refl _ _).drew
 have HW0:Hid _:=hW0
 have HBW:Hid (W.heap.size=bw):=hbw
 have HXL:Hid (∀ b,XS p ⟨.slice sa k sc,.slice ma m mc,.slice ia n ic,.slice (some ⟨gd,0,none⟩) n dc,.slice wa n wc⟩ b→b<bw):=by rw [Hid,←hbw];exact h.x_lt
 have hcapn:n≤dc:=by rw [←HL.out.1];exact hcap
 clear hW0 hbw hb0 h hc hco hz hzs hr hth hgd hvl hs hs' hf hf' hfx hns hv ho kch he hR htb hcap H1 H2 H3 H1' H2' H3' HE HE'
 have hvi:(v:Int)<n:=by omega
 go_enter Tryz.func14,Tryz.ntmps14
 go_wp2_with fail
 rw [HW0.out]
 refine kt.mono ?_
 clear kt
 rintro e wt ⟨rfl,hwt⟩
 rw [hwt]
 clear hwt wt
 go_upto_region 5 with (fail)
 (try rw [HW0.out])
 (try rw [HBW.out])
 refine wp_region_held_drew (S:=fun X:World=>X.cell? ⟨p,3,none⟩=some (.slice (some ⟨gd,0,none⟩) n dc)∧X.cell? ⟨gd,v*6,none⟩=some (.bool β)∧Bx X bw #[.bool β,.slice ra n0 rc,.slice a1 n1 c1,.slice a2 n2 c2,.int .i64 x,.int .i64 y] 37) (by kernel_rfl) ((FS5.out _ HB0.out)) (fun hHeld=>?_)
 refine tkH 0 _ (v:=?_) hHeld ?_ ?_;rotate_left
 ·intro w hSw;obtain ⟨q3,qd,hN⟩:=hSw;obtain ⟨u0,u1,u2,u3,u4,u5⟩:=hN.six;go_simp<;>with_reducible rfl
 try simp only [Act.put,zS,eZ,eS]
 refine rdy 1 rfl fun K hK=>?_
 go_simp
 refine (KR.out _ HB0.out).mono ?_
 rintro e w1 ⟨rfl,hb⟩
 have HB1:=hid (HB0.out.trans (hb.mono HB0.out.size))
 clear hb
 clear hHeld;refine hK.out _ _ ((FS5.out _ HB1.out)) fun hHeld=>?_
 clear hK K
 try simp only [Act.put,zS,eZ,eS]
 refine tkI 2 rfl hHeld ?_
 try simp only [Act.put,zS,eZ,eS]
 refine tkI 3 rfl hHeld ?_
 try simp only [Act.put,zS,eZ,eS]
 refine tkI 4 rfl hHeld ?_
 try simp only [Act.put,zS,eZ,eS]
 refine tkH 5 _ (v:=?_) hHeld ?_ ?_;rotate_left
 ·intro w hSw;obtain ⟨q3,qd,hN⟩:=hSw;obtain ⟨u0,u1,u2,u3,u4,u5⟩:=hN.six;go_simp<;>with_reducible rfl
 try simp only [Act.put,zS,eZ,eS]
 refine tkI 6 rfl hHeld ?_
 try simp only [Act.put,zS,eZ,eS]
 refine tkI 7 rfl hHeld ?_
 try simp only [Act.put,zS,eZ,eS]
 refine tkI 8 rfl hHeld ?_
 try simp only [Act.put,zS,eZ,eS]
 refine tkH 9 _ (v:=?_) hHeld ?_ ?_;rotate_left
 ·intro w hSw;obtain ⟨q3,qd,hN⟩:=hSw;obtain ⟨u0,u1,u2,u3,u4,u5⟩:=hN.six;go_simp<;>with_reducible rfl
 try simp only [Act.put,zS,eZ,eS]
 refine tkI 10 rfl hHeld ?_
 try simp only [Act.put,zS,eZ,eS]
 refine tkH 11 _ (v:=?_) hHeld ?_ ?_;rotate_left
 ·intro w hSw;obtain ⟨q3,qd,hN⟩:=hSw;obtain ⟨u0,u1,u2,u3,u4,u5⟩:=hN.six;go_simp<;>with_reducible rfl
 try simp only [Act.put,zS,eZ,eS]
 refine tkI 12 rfl hHeld ?_
 try simp only [Act.put,zS,eZ,eS]
 refine tkH 13 _ (v:=?_) hHeld ?_ ?_;rotate_left
 ·intro w hSw;obtain ⟨q3,qd,hN⟩:=hSw;obtain ⟨u0,u1,u2,u3,u4,u5⟩:=hN.six;go_simp<;>with_reducible rfl
 try simp only [Act.put,zS,eZ,eS]
 refine tkI 14 rfl hHeld ?_
 try simp only [Act.put,zS,eZ,eS]
 refine tkI 15 rfl hHeld ?_
 try simp only [Act.put,zS,eZ,eS]
 refine tkI 16 rfl hHeld ?_
 try simp only [Act.put,zS,eZ,eS]
 refine wpAnyH_done (by kernel_rfl) ?_ _
 have z4:=(HS.out.below HB1.out)
 have kf:=failed_any z4
 rw [HE0.out] at kf
 have hd0:decide (0<(0:Int))=false:=rfl
 rw [hd0] at kf
 clear hd0
 go_wp2_with fail
 refine kf.mono ?_
 clear kf
 rintro e wt ⟨rfl,hwt⟩
 rw [hwt]
 clear hwt wt
 obtain ⟨z0,z1,z2,z3,z44,z5,zf⟩:=z4.cells
 simp only at z3
 clear z0 z1 z2 z44 z5 zf z4
 obtain ⟨u0,u1,u2,u3,u4,u5⟩:=rng6 (HRG.out _ HB1.out)
 obtain ⟨bo,hbo⟩:∃ q,w1.heap.size=q:=⟨_,rfl⟩
 go_upto_region 10 with (fail)
 obtain ⟨W2,hW2⟩:∃ q,w1.alloc (Obj.cells #[.bool β,.slice ra' n0' rc',.slice a1' n1' c1',.slice a2' n2' c2',.int .i64 x',.int .i64 y'] 37)=q:=⟨_,rfl⟩
 rw [hW2]
 (try rw [hbo])
 have HB2:Hid (Below W0.heap.size W0 W2):=by rw [←hW2];exact HB1.out.alloc HB1.out.size _
 have HBO:Hid (Bx W2 bo #[.bool β,.slice ra' n0' rc',.slice a1' n1' c1',.slice a2' n2' c2',.int .i64 x',.int .i64 y'] 37):=by rw [←hW2];exact Bx.new' hbo _ _
 have HOG:Hid (¬bo<bw):=by rw [Hid,←hbo,←HBW.out];exact Nat.not_lt.2 (Nat.le_trans HB00.out.size HB1.out.size)
 clear hW2 hbo z3 u0 u1 u2 u3 u4 u5
 have HBXd:=hid (HBX.out.below HB2.out)
 obtain ⟨F,hF⟩:∃ F,(bif β then 73 else 74)=F:=⟨_,rfl⟩
 have KN:Hid (∀ X,Below W2.heap.size W2 X→Calls Tryz.prog 49 #[.agg #[.bool β,.slice ra' n0' rc',.slice a1' n1' c1',.slice a2' n2' c2',.int .i64 x',.int .i64 y']] X fun e w'=>e = .returned (.func (.func F) #[.agg #[.bool β,.slice ra' n0' rc',.slice a1' n1' c1',.slice a2' n2' c2',.int .i64 x',.int .i64 y']] #[])∧Below X.heap.size X w'):=fun X hX=>by
  cases β<;>obtain rfl:=hF
  ·exact narrower_w ((HCO.out.below HB2.out).below hX) HSO.out
  ·exact narrower_s ((HCO.out.below HB2.out).below hX) HSO.out
 have KW:Hid (∀ X,Below W2.heap.size W2 X→Calls Tryz.prog F #[.agg #[.bool β,.slice ra' n0' rc',.slice a1' n1' c1',.slice a2' n2' c2',.int .i64 x',.int .i64 y'],.agg #[.bool β,.slice ra n0 rc,.slice a1 n1 c1,.slice a2 n2 c2,.int .i64 x,.int .i64 y]] X fun e w'=>∃ q:List Value,e = .returned (.agg q.toArray)∧(∀ Z:Nat→Prop,(∀ b,Z b→b<X.heap.size)→Dc Z w' q (bothA o d))∧Below X.heap.size X w'):=fun X hX=>by
  cases β<;>obtain rfl:=hF
  ·exact with_wz ((HCO.out.below HB2.out).below hX) ((HCD.out.below HB2.out).below hX) HSO.out HSD.out HFO.out HFD.out
  ·exact with_sz ((HCO.out.below HB2.out).below hX) ((HCD.out.below HB2.out).below hX) HSO.out
 have hFF:F=73∨F=74:=by rw [←hF];cases β<;>simp
 clear hF
 rcases hFF with rfl | rfl
 all_goals
  have FS10:Hid (∀ X,Below W2.heap.size W2 X→Bx X bo #[.bool β,.slice ra' n0' rc',.slice a1' n1' c1',.slice a2' n2' c2',.int .i64 x',.int .i64 y'] 37∧Bx X bw #[.bool β,.slice ra n0 rc,.slice a1 n1 c1,.slice a2 n2 c2,.int .i64 x,.int .i64 y] 37):=fun X hX=>⟨HBO.out.below hX,HBXd.out.below hX⟩
  have HC0:Hid (Below W2.heap.size W2 W2.drew):=(Below.refl _ _).drew
  clear HRG FS5 KR HB0
  apply wp_ways2 (R:=fun bn q w'=>Below W2.heap.size W2 w'∧W2.heap.size≤bn∧Bx w' bn q.toArray 37∧Dc (fun b=>b<W2.heap.size∨b=bn) w' q (bothA o d))
  case h =>
   refine wp_region_held_drew (S:=fun X:World=>Bx X bo #[.bool β,.slice ra' n0' rc',.slice a1' n1' c1',.slice a2' n2' c2',.int .i64 x',.int .i64 y'] 37∧Bx X bw #[.bool β,.slice ra n0 rc,.slice a1 n1 c1,.slice a2 n2 c2,.int .i64 x,.int .i64 y] 37) (by kernel_rfl) ((FS10.out _ HC0.out)) (fun hHeld=>?_)
   refine tkH 0 _ (v:=?_) hHeld ?_ ?_;rotate_left
   ·intro w hSw;obtain ⟨hO,hN⟩:=hSw;obtain ⟨y0,y1,y2,y3,y4,y5⟩:=hO.six;obtain ⟨u0,u1,u2,u3,u4,u5⟩:=hN.six;go_simp<;>with_reducible rfl
   try simp only [Act.put,zS,eZ,eS]
   refine tkH 2 _ (v:=?_) hHeld ?_ ?_;rotate_left
   ·intro w hSw;obtain ⟨hO,hN⟩:=hSw;obtain ⟨y0,y1,y2,y3,y4,y5⟩:=hO.six;obtain ⟨u0,u1,u2,u3,u4,u5⟩:=hN.six;go_simp<;>with_reducible rfl
   try simp only [Act.put,zS,eZ,eS]
   refine wpAnyH_ready (rs:=[1,4]) (by kernel_rfl) (by simp) ?_
   refine AllReadyH.cons rfl (fun K hK=>?_) ?_
   ·go_simp
    refine (KN.out _ HC0.out).mono ?_
    rintro e v1 ⟨rfl,hb⟩
    have HC1:=hid (HC0.out.trans (hb.mono HC0.out.size))
    clear hb
    clear hHeld;refine hK.out _ _ ((FS10.out _ HC1.out)) fun hHeld=>?_
    clear hK K
    try simp only [Act.put,zS,eZ,eS]
    refine wpAnyH_ready (rs:=[3,4]) (by kernel_rfl) (by simp) ?_
    refine AllReadyH.cons rfl (fun K hK=>?_) ?_
    ·go_simp
     refine (KW.out _ HC1.out).mono ?_
     rintro e v2 ⟨q,rfl,hq,hb⟩
     have HC2:=hid (HC1.out.trans (hb.mono HC1.out.size))
     have HDq2:Hid (Dc (fun b=>b<W2.heap.size) v2 q (bothA o d)):=hq _ (fun b q=>Nat.lt_of_lt_of_le q HC1.out.size)
     clear hb hq
     clear hHeld;refine hK.out _ _ ((FS10.out _ HC2.out)) fun hHeld=>?_
     clear hK K
     try simp only [Act.put,zS,eZ,eS]
     refine rdy 4 rfl fun K hK=>?_
     obtain ⟨bn,hbn⟩:∃ q,v2.heap.size=q:=⟨_,rfl⟩
     go_simp
     (try rw [hbn])
     obtain ⟨v3,hv3⟩:∃ q,v2.alloc (Obj.cells #[.bool false,.slice none 0 0,.slice none 0 0,.slice none 0 0,.int .i64 0,.int .i64 0] 37)=q:=⟨_,rfl⟩
     (try rw [hv3])
     (try rw [show (v2.alloc (Obj.cells #[.bool false,.slice none 0 0,.slice none 0 0,.slice none 0 0,.int .i64 0,.int .i64 0] 37)).drew=v3 from hv3])
     have HC3:Hid (Below W2.heap.size W2 v3):=by rw [←hv3];exact HC2.out.alloc (HC2.out.size) _
     have HNW3:Hid (Bx v3 bn #[.bool false,.slice none 0 0,.slice none 0 0,.slice none 0 0,.int .i64 0,.int .i64 0] 37):=by rw [←hv3];exact Bx.new' (w:=v2) hbn _ _
     have HBN:Hid (W2.heap.size≤bn):=by rw [Hid,←hbn];exact HC2.out.size
     have HDq3:Hid (Dc (fun b=>b<W2.heap.size∨b=bn) v3 q (bothA o d)):=by
      rw [←hv3]
      exact HDq2.out.go (Kept.of_below ((Below.refl _ _).alloc (Nat.le_refl _) _)) (fun b hb=>hb.elim .inl (fun e=>.inr (by omega)))
     clear hv3 hbn
     clear hHeld;refine hK.out _ _ ((FS10.out _ HC3.out)) fun hHeld=>?_
     clear hK K
     try simp only [Act.put,zS,eZ,eS]
     refine rdy 5 rfl fun K hK=>?_
     refine stepR rfl 37 (.tmp 9) (.tmp 48) rfl bn q (by with_unfolding_all rfl) (by with_unfolding_all rfl) HNW3.out (by rfl) HDq3.out.len Tryz.sizeDom HDq3.out.one ?_
     clear hHeld;refine hK.out _ _ ((FS10.out _ (below_row HC3.out HBN.out _))) fun hHeld=>?_
     clear hK K
     try simp only [Act.put,zS,eZ,eS]
     refine wpAnyH_done (by kernel_rfl) ?_ _
     exact ⟨bn,q,rfl,below_row HC3.out HBN.out _,HBN.out,HNW3.out.setRow _,HDq3.out.kept ⟨rfl,rfl,rfl,by simp [World.setRow],fun b _ hb=>setRow_other _ _ b _ (fun e=>hb (.inr e))⟩⟩
    refine AllReadyH.cons rfl (fun K hK=>?_) ?_
    ·obtain ⟨bn,hbn⟩:∃ q,v1.heap.size=q:=⟨_,rfl⟩
     go_simp
     (try rw [hbn])
     obtain ⟨v2,hv2⟩:∃ q,v1.alloc (Obj.cells #[.bool false,.slice none 0 0,.slice none 0 0,.slice none 0 0,.int .i64 0,.int .i64 0] 37)=q:=⟨_,rfl⟩
     (try rw [hv2])
     (try rw [show (v1.alloc (Obj.cells #[.bool false,.slice none 0 0,.slice none 0 0,.slice none 0 0,.int .i64 0,.int .i64 0] 37)).drew=v2 from hv2])
     have HC2:Hid (Below W2.heap.size W2 v2):=by rw [←hv2];exact HC1.out.alloc (HC1.out.size) _
     have HNW2:Hid (Bx v2 bn #[.bool false,.slice none 0 0,.slice none 0 0,.slice none 0 0,.int .i64 0,.int .i64 0] 37):=by rw [←hv2];exact Bx.new' (w:=v1) hbn _ _
     have HBN:Hid (W2.heap.size≤bn):=by rw [Hid,←hbn];exact HC1.out.size
     clear hv2 hbn
     clear hHeld;refine hK.out _ _ ((FS10.out _ HC2.out)) fun hHeld=>?_
     clear hK K
     try simp only [Act.put,zS,eZ,eS]
     refine rdy 3 rfl fun K hK=>?_
     go_simp
     refine (KW.out _ HC2.out).mono ?_
     rintro e v3 ⟨q,rfl,hq,hb⟩
     have HC3:=hid (HC2.out.trans (hb.mono HC2.out.size))
     have HNW3:=hid (HNW2.out.below hb)
     have HDq3:Hid (Dc (fun b=>b<W2.heap.size∨b=bn) v3 q (bothA o d)):=hq _ (fun b hb=>hb.elim (fun q=>Nat.lt_of_lt_of_le q HC2.out.size) (fun q=>by subst q;exact HNW2.out.lt))
     clear hb hq
     clear hHeld;refine hK.out _ _ ((FS10.out _ HC3.out)) fun hHeld=>?_
     clear hK K
     try simp only [Act.put,zS,eZ,eS]
     refine rdy 5 rfl fun K hK=>?_
     refine stepR rfl 37 (.tmp 9) (.tmp 48) rfl bn q (by with_unfolding_all rfl) (by with_unfolding_all rfl) HNW3.out (by rfl) HDq3.out.len Tryz.sizeDom HDq3.out.one ?_
     clear hHeld;refine hK.out _ _ ((FS10.out _ (below_row HC3.out HBN.out _))) fun hHeld=>?_
     clear hK K
     try simp only [Act.put,zS,eZ,eS]
     refine wpAnyH_done (by kernel_rfl) ?_ _
     exact ⟨bn,q,rfl,below_row HC3.out HBN.out _,HBN.out,HNW3.out.setRow _,HDq3.out.kept ⟨rfl,rfl,rfl,by simp [World.setRow],fun b _ hb=>setRow_other _ _ b _ (fun e=>hb (.inr e))⟩⟩
    exact AllReadyH.nil
   refine AllReadyH.cons rfl (fun K hK=>?_) ?_
   ·obtain ⟨bn,hbn⟩:∃ q,W2.heap.size=q:=⟨_,rfl⟩
    go_simp
    (try rw [hbn])
    obtain ⟨v1,hv1⟩:∃ q,W2.drew.alloc (Obj.cells #[.bool false,.slice none 0 0,.slice none 0 0,.slice none 0 0,.int .i64 0,.int .i64 0] 37)=q:=⟨_,rfl⟩
    (try rw [hv1])
    (try rw [show (W2.alloc (Obj.cells #[.bool false,.slice none 0 0,.slice none 0 0,.slice none 0 0,.int .i64 0,.int .i64 0] 37)).drew=v1 from hv1])
    have HC1:Hid (Below W2.heap.size W2 v1):=by rw [←hv1];exact HC0.out.alloc (HC0.out.size) _
    have HNW1:Hid (Bx v1 bn #[.bool false,.slice none 0 0,.slice none 0 0,.slice none 0 0,.int .i64 0,.int .i64 0] 37):=by rw [←hv1];exact Bx.new' (w:=W2.drew) hbn _ _
    have HBN:Hid (W2.heap.size≤bn):=by rw [Hid,←hbn];exact Nat.le_refl _
    clear hv1 hbn
    clear hHeld;refine hK.out _ _ ((FS10.out _ HC1.out)) fun hHeld=>?_
    clear hK K
    try simp only [Act.put,zS,eZ,eS]
    refine rdy 1 rfl fun K hK=>?_
    go_simp
    refine (KN.out _ HC1.out).mono ?_
    rintro e v2 ⟨rfl,hb⟩
    have HC2:=hid (HC1.out.trans (hb.mono HC1.out.size))
    have HNW2:=hid (HNW1.out.below hb)
    clear hb
    clear hHeld;refine hK.out _ _ ((FS10.out _ HC2.out)) fun hHeld=>?_
    clear hK K
    try simp only [Act.put,zS,eZ,eS]
    refine rdy 3 rfl fun K hK=>?_
    go_simp
    refine (KW.out _ HC2.out).mono ?_
    rintro e v3 ⟨q,rfl,hq,hb⟩
    have HC3:=hid (HC2.out.trans (hb.mono HC2.out.size))
    have HNW3:=hid (HNW2.out.below hb)
    have HDq3:Hid (Dc (fun b=>b<W2.heap.size∨b=bn) v3 q (bothA o d)):=hq _ (fun b hb=>hb.elim (fun q=>Nat.lt_of_lt_of_le q HC2.out.size) (fun q=>by subst q;exact HNW2.out.lt))
    clear hb hq
    clear hHeld;refine hK.out _ _ ((FS10.out _ HC3.out)) fun hHeld=>?_
    clear hK K
    try simp only [Act.put,zS,eZ,eS]
    refine rdy 5 rfl fun K hK=>?_
    refine stepR rfl 37 (.tmp 9) (.tmp 48) rfl bn q (by with_unfolding_all rfl) (by with_unfolding_all rfl) HNW3.out (by rfl) HDq3.out.len Tryz.sizeDom HDq3.out.one ?_
    clear hHeld;refine hK.out _ _ ((FS10.out _ (below_row HC3.out HBN.out _))) fun hHeld=>?_
    clear hK K
    try simp only [Act.put,zS,eZ,eS]
    refine wpAnyH_done (by kernel_rfl) ?_ _
    exact ⟨bn,q,rfl,below_row HC3.out HBN.out _,HBN.out,HNW3.out.setRow _,HDq3.out.kept ⟨rfl,rfl,rfl,by simp [World.setRow],fun b _ hb=>setRow_other _ _ b _ (fun e=>hb (.inr e))⟩⟩
   exact AllReadyH.nil
  case hK =>
   rintro bn q V ⟨HBV,hbn,hnx,hdq⟩
   obtain ⟨b2,r2,m0,k0,p1,m1,k1,p2,m2,k2,x2,y2,rfl,HE2,_,_,_⟩:=hdq.look
   obtain rfl:β=b2:=Eq.symm (by rw [←HE2.out.1,bothA_set];exact HSO.out)
   have HDQ:Hid (Dc (fun b=>b<W2.heap.size∨b=bn) V [.bool β,.slice r2 m0 k0,.slice p1 m1 k1,.slice p2 m2 k2,.int .i64 x2,.int .i64 y2] (bothA o d)):=hdq
   have HNX:Hid (Bx V bn #[.bool β,.slice r2 m0 k0,.slice p1 m1 k1,.slice p2 m2 k2,.int .i64 x2,.int .i64 y2] 37):=hnx
   have HBOV:=hid (HBO.out.below HBV)
   have HB0V:=hid (HB2.out.trans (HBV.mono HB2.out.size))
   have HSV:=hid (HS.out.below HB0V.out)
   have HCOV:=hid (HCO.out.below HB0V.out)
   have HBWS:Hid (bw≤W2.heap.size):=by rw [Hid,←HBW.out];exact Nat.le_trans HB00.out.size HB2.out.size
   have HDX:Hid (Dc (XS p ⟨.slice sa k sc,.slice ma m mc,.slice ia n ic,.slice (some ⟨gd,0,none⟩) n dc,.slice wa n wc⟩) V [.bool β,.slice r2 m0 k0,.slice p1 m1 k1,.slice p2 m2 k2,.int .i64 x2,.int .i64 y2] (bothA o d)):=HDQ.out.up (fun b hb=>.inl (.inl (Nat.lt_of_lt_of_le (HXL.out b hb) HBWS.out)))
   have HXO:Hid (¬XS p ⟨.slice sa k sc,.slice ma m mc,.slice ia n ic,.slice (some ⟨gd,0,none⟩) n dc,.slice wa n wc⟩ bo):=fun q=>HOG.out (HXL.out bo q)
   have HXN:Hid (¬XS p ⟨.slice sa k sc,.slice ma m mc,.slice ia n ic,.slice (some ⟨gd,0,none⟩) n dc,.slice wa n wc⟩ bn):=fun q=>by have:=HXL.out bn q;have:=HBWS.out;omega
   have ks:=same_d HCOV.out HDX.out (bothA_set o d).symm HFO.out HFX.out
   have hdf:sameA o (bothA o d)=false:=HNS.out
   rw [hdf] at ks
   clear hdf
   obtain ⟨t0,t1,t2,t3,t4,t5⟩:=HBOV.out.six
   obtain ⟨u0,u1,u2,u3,u4,u5⟩:=HNX.out.six
   go_wp2_with fail
   refine ks.mono ?_
   clear ks t0 t1 t2 t3 t4 t5 u0 u1 u2 u3 u4 u5
   rintro e w3 ⟨rfl,hb3⟩
   have HS3:=hid (HSV.out.below hb3)
   have HBO3:=hid (HBOV.out.below hb3)
   have HNX3:=hid (HNX.out.below hb3)
   have HCO3:=hid (HCOV.out.below hb3)
   have HDX3:=hid (HDX.out.below hb3)
   have HK3:Hid (Kept (XS p ⟨.slice sa k sc,.slice ma m mc,.slice ia n ic,.slice (some ⟨gd,0,none⟩) n dc,.slice wa n wc⟩) W w3):=((Kept.of_below HB00.out).then_below HB0V.out).then_below hb3
   have HW3:Hid (W.heap.size≤w3.drew.heap.size):=HK3.out.size
   have KSV:Hid _:=save_any (HS3.out.below (Below.refl _ _).drew) (HCO3.out.below (Below.refl _ _).drew) v HVL.out HZ.out (Nat.lt_trans HZS.out (by decide))
   have HZ4:Hid (Sz (saveM st v o)):=⟨by rw [(saveM_D st v o).1];exact HZ.out.1,by rw [(saveM_D st v o).2.2.2.1];exact HZ.out.2.1,by have:=(saveM_D st v o).2.2.2.2;have:=HZS.out;omega⟩
   have HZ5:Hid (Sz (putA (saveM st v o) v o (bothA o d))):=⟨by show ((saveM st v o).D.set v _).length≤1000;rw [List.length_set];exact HZ4.out.1,HZ4.out.2.1,HZ4.out.2.2⟩
   have HV5:Hid (v<(putA (saveM st v o) v o (bothA o d)).D.length):=by show v<((saveM st v o).D.set v _).length;rw [List.length_set,(saveM_D st v o).1];exact HVL.out
   clear hb3 HDQ HNX HBOV HB0V HSV HCOV HDX hnx hdq hbn HBV HBO HB2 HBXd KN KW FS10 HC0 HS HCO HCD HBX
   go_upto_region 13 with (fail)
   refine wp_region_held_drew (S:=fun X:World=>Bx X bo #[.bool β,.slice ra' n0' rc',.slice a1' n1' c1',.slice a2' n2' c2',.int .i64 x',.int .i64 y'] 37) (by kernel_rfl) ((HBO3.out.drew 1)) (fun hHeld=>?_)
   refine tkI 0 rfl hHeld ?_
   try simp only [Act.put,zS,eZ,eS]
   refine tkI 1 rfl hHeld ?_
   try simp only [Act.put,zS,eZ,eS]
   refine tkI 2 rfl hHeld ?_
   try simp only [Act.put,zS,eZ,eS]
   refine tkI 3 rfl hHeld ?_
   try simp only [Act.put,zS,eZ,eS]
   refine tkH 4 _ (v:=?_) hHeld ?_ ?_;rotate_left
   ·intro w hSw;obtain ⟨y0,y1,y2,y3,y4,y5⟩:=hSw.six;go_simp<;>with_reducible rfl
   try simp only [Act.put,zS,eZ,eS]
   refine rdy 5 rfl fun K hK=>?_
   go_simp
   refine Calls.mono KSV.out ?_
   rintro e w4 ⟨rfl,sl1,hs4,hu4,hk4⟩
   have HBO4:Hid (Bx w4 bo #[.bool β,.slice ra' n0' rc',.slice a1' n1' c1',.slice a2' n2' c2',.int .i64 x',.int .i64 y'] 37):=(HBO3.out.drew 1).kept hk4 HXO.out
   have HNX4:Hid (Bx w4 bn #[.bool β,.slice r2 m0 k0,.slice p1 m1 k1,.slice p2 m2 k2,.int .i64 x2,.int .i64 y2] 37):=(HNX3.out.drew 1).kept hk4 HXN.out
   have HDX4:Hid (Dc (XS p sl1) w4 [.bool β,.slice r2 m0 k0,.slice p1 m1 k1,.slice p2 m2 k2,.int .i64 x2,.int .i64 y2] (bothA o d)):=(HDX3.out.below (Below.refl _ _).drew).go hk4 hu4
   have HCO4:Hid (Dc (XS p sl1) w4 [.bool β,.slice ra' n0' rc',.slice a1' n1' c1',.slice a2' n2' c2',.int .i64 x',.int .i64 y'] o):=(HCO3.out.below (Below.refl _ _).drew).go hk4 hu4
   have HS4:Hid (Sto w4 p (saveM st v o) sl1):=hs4
   have HU4:Hid (Up (XS p ⟨.slice sa k sc,.slice ma m mc,.slice ia n ic,.slice (some ⟨gd,0,none⟩) n dc,.slice wa n wc⟩) (XS p sl1) W):=fun b hb=>(hu4 b hb).elim .inl (fun q=>.inr (Nat.le_trans HW3.out q))
   have HK4:Hid (Kept (XS p ⟨.slice sa k sc,.slice ma m mc,.slice ia n ic,.slice (some ⟨gd,0,none⟩) n dc,.slice wa n wc⟩) W w4):=(HK3.out.then_below (Below.refl _ _).drew).trans hk4 (Up.refl _ _)
   have HXO4:Hid (¬XS p sl1 bo):=fun q=>(hu4 bo q).elim HXO.out (fun q=>absurd (HBO3.out.drew 1).lt (Nat.not_lt.2 q))
   have HXN4:Hid (¬XS p sl1 bn):=fun q=>(hu4 bn q).elim HXN.out (fun q=>absurd (HNX3.out.drew 1).lt (Nat.not_lt.2 q))
   clear hs4 hu4 hk4
   clear hHeld;refine hK.out _ _ (HBO4.out) fun hHeld=>?_
   clear hK K
   try simp only [Act.put,zS,eZ,eS]
   refine wpAnyH_done (by kernel_rfl) ?_ _
   obtain ⟨u0,u1,u2,u3,u4,u5⟩:=HNX4.out.six
   have kp:=put_d HS4.out HDX4.out v (by rw [(saveM_D st v o).1];exact HVO.out) (by rw [(saveM_D st v o).2.1,HE0.out];decide) (by rw [(saveM_D st v o).2.1,HE0.out];decide) HZ4.out
   go_wp2_with fail
   refine kp.mono ?_
   clear kp u0 u1 u2 u3 u4 u5
   rintro e w5 ⟨rfl,hs5,hk5⟩
   have HS5:Hid (Sto w5 p (putA (saveM st v o) v o (bothA o d)) sl1):=hs5
   have HBO5:=hid (HBO4.out.kept hk5 HXO4.out)
   have HNX5:=hid (HNX4.out.kept hk5 HXN4.out)
   have HDX5:=hid (HDX4.out.kept hk5)
   have HCO5:=hid (HCO4.out.kept hk5)
   have HK5:=hid (HK4.out.trans hk5 HU4.out)
   clear hs5 hk5
   have kf:=failed_any HS5.out
   have hev:(putA (saveM st v o) v o (bothA o d)).e=emptI (emptyA (bothA o d)):=by show (saveM st v o).e+_=_;rw [(saveM_D st v o).2.1,HE0.out,HOE.out];simp [emptI]
   rw [hev] at kf
   clear hev
   cases hE:emptyA (bothA o d)
   ·rw [hE] at kf
    have hd0:decide (0<emptI false)=false:=rfl
    rw [hd0] at kf
    clear hd0
    have kc:=HKC.out hE _ _ w5 _ _ HCO5.out HDX5.out
    go_wp2_with fail
    refine kf.mono ?_
    clear kf
    rintro e wt ⟨rfl,hwt⟩
    rw [hwt]
    clear hwt wt
    obtain ⟨u0,u1,u2,u3,u4,u5⟩:=HNX5.out.six
    obtain ⟨y0,y1,y2,y3,y4,y5⟩:=HBO5.out.six
    go_wp2_with fail
    refine kc.mono ?_
    clear kc u0 u1 u2 u3 u4 u5 y0 y1 y2 y3 y4 y5
    rintro e w6 ⟨rfl,hb6⟩
    have kt:=tell_any (HS5.out.below hb6) HZ5.out v HV5.out chg
    have HK6:=hid (HK5.out.then_below hb6)
    clear hb6
    go_wp2_with fail
    refine kt.mono ?_
    clear kt
    rintro e w7 ⟨rfl,hs7,hk7⟩
    have HS7:Hid _:=hs7
    have HK7:=hid (HK6.out.trans hk7 HU4.out)
    clear hs7 hk7
    go_wp2
    all_goals
     go_ret2
     refine ⟨rfl,sl1,?_,HU4.out,HK7.out⟩
     rw [narrowA,hE]
     exact HS7.out
   ·rw [hE] at kf
    have hd0:decide (0<emptI true)=true:=rfl
    rw [hd0] at kf
    clear hd0
    go_wp2_with fail
    refine kf.mono ?_
    clear kf
    rintro e wt ⟨rfl,hwt⟩
    rw [hwt]
    clear hwt wt
    go_wp2
    all_goals
     go_ret2
     refine ⟨rfl,sl1,?_,HU4.out,HK5.out⟩
     rw [narrowA,hE]
     exact HS5.out
def sbM (a b:MD):Bool:=if a.set then decide (a.lo=b.lo)&&(decide (a.least=b.least)&&decide (a.most=b.most)) else decide (Dm.lo a.r 0=Dm.lo b.r 0)&&decide (Dm.hi a.r (a.r.length-1)=Dm.hi b.r (b.r.length-1))
def chM (a b:MD):Int:=if onlyA b then 1 else if sbM a b then 3 else 2
theorem sb_s {X Y:Nat→Prop} {W:World} {c k:List Value} {d o:MD} (h:Dc X W c d) (h':Dc Y W k o) (hs:d.set=true) (hz:d.lo.length*8≤140737488351232) :
  Calls Tryz.prog 77 #[.agg c.toArray,.agg k.toArray] W fun e w'=>e = .returned (.bool (sbM d o))∧Below W.heap.size W w':=by
 obtain ⟨N,hN⟩:∃ N,W.heap.size=N:=⟨_,rfl⟩
 obtain ⟨b,ra,n0,rc,a1,n1,c1,a2,n2,c2,x,y,rfl,HE,H1,H2,H3⟩:=h.look
 obtain rfl:b=true:=by rw [←HE.out.1,hs]
 obtain ⟨b',ra',n0',rc',a1',n1',c1',a2',n2',c2',x',y',rfl,HE',H1',H2',H3'⟩:=h'.look
 obtain ⟨W0,hW0⟩:∃ Q,(W.alloc (Obj.cells #[.bool true,.slice ra n0 rc,.slice a1 n1 c1,.slice a2 n2 c2,.int .i64 x,.int .i64 y] 37)).alloc (Obj.cells #[.bool b',.slice ra' n0' rc',.slice a1' n1' c1',.slice a2' n2' c2',.int .i64 x',.int .i64 y'] 37)=Q:=⟨_,rfl⟩
 have hb0:Below W.heap.size W W0:=by rw [←hW0];exact ((Below.refl _ W).alloc (Nat.le_refl _) _).alloc (by simp) _
 have HX:Hid (Bx W0 N #[.bool true,.slice ra n0 rc,.slice a1 n1 c1,.slice a2 n2 c2,.int .i64 x,.int .i64 y] 37):=by rw [←hW0];exact (Bx.new' hN _ _).alloc _
 have HY:Hid (Bx W0 (N+1) #[.bool b',.slice ra' n0' rc',.slice a1' n1' c1',.slice a2' n2' c2',.int .i64 x',.int .i64 y'] 37):=by rw [←hW0];exact Bx.new' (by simp [hN]) _ _
 have HB0:Hid (Below W.heap.size W W0):=hb0
 have kr:=St.equal_any _ _ d.lo o.lo W0 (H2.out.kept (Kept.of_below hb0)).si (H2'.out.kept (Kept.of_below hb0)).si hz
 have HM:Hid (sbM d o=(decide (d.lo=o.lo)&&(decide (x=x')&&decide (y=y')))):=by
  unfold Hid sbM
  rw [if_pos hs,HE.out.2.2.2.2.1,HE.out.2.2.2.2.2,HE'.out.2.2.2.2.1,HE'.out.2.2.2.2.2]
 rw [HM.out]
 have HW0:Hid _:=hW0
 clear h h' hs HE H1 H2 H3 hW0 HE' H1' H2' H3' hb0 HM hz
 obtain ⟨z0,z1,z2,z3,z4,z5⟩:=HX.out.six
 obtain ⟨y0,y1,y2,y3,y4,y5⟩:=HY.out.six
 generalize decide (d.lo=o.lo)=q at *
 go_enter Tryz.func77,Tryz.ntmps77
 go_upto_region 1 with (fail)
 rw [HW0.out]
 clear hN
 go_wp2_with fail
 refine kr.mono ?_
 clear kr z0 z1 z2 z3 z4 z5 y0 y1 y2 y3 y4 y5
 rintro e w1 ⟨rfl,hb1⟩
 have HBE:=hid (HB0.out.trans (hb1.mono HB0.out.size))
 obtain ⟨z0,z1,z2,z3,z4,z5⟩:=(HX.out.below hb1).six
 obtain ⟨y0,y1,y2,y3,y4,y5⟩:=(HY.out.below hb1).six
 cases q
 ·go_wp2
  go_ret
  exact ⟨ret_bool (by simp),HBE.out⟩
 ·by_cases e1:x=x'
  ·by_cases e2:y=y'
   ·subst e1 e2
    go_wp2
    go_ret
    exact ⟨ret_bool (by simp),HBE.out⟩
   ·subst e1
    have e2':(y==y')=false:=by simpa using e2
    go_wp2
    go_ret
    exact ⟨ret_bool (by simp [e2]),HBE.out⟩
  ·have e1':(x==x')=false:=by simpa using e1
   go_wp2
   go_ret
   exact ⟨ret_bool (by simp [e1]),HBE.out⟩
theorem sb_n {X Y:Nat→Prop} {W:World} {c k:List Value} {d o:MD} (h:Dc X W c d) (h':Dc Y W k o) (hs:d.set=false) (hd:0<d.r.length) (ho:0<o.r.length) (hdl:d.r.length≤100000) (hol:o.r.length≤100000) :
  Calls Tryz.prog 77 #[.agg c.toArray,.agg k.toArray] W fun e w'=>e = .returned (.bool (sbM d o))∧Below W.heap.size W w':=by
 obtain ⟨N,hN⟩:∃ N,W.heap.size=N:=⟨_,rfl⟩
 obtain ⟨b,ra,n0,rc,a1,n1,c1,a2,n2,c2,x,y,rfl,HE,H1,H2,H3⟩:=h.look
 obtain rfl:b=false:=by rw [←HE.out.1,hs]
 obtain ⟨b',ra',n0',rc',a1',n1',c1',a2',n2',c2',x',y',rfl,HE',H1',H2',H3'⟩:=h'.look
 obtain ⟨m0,hmm0⟩:∃ m,n0=m+1:=⟨n0-1,by have:=HE.out.2.1;omega⟩
 obtain ⟨m1,hmm1⟩:∃ m,n0'=m+1:=⟨n0' - 1,by have:=HE'.out.2.1;omega⟩
 obtain ⟨p1,f1,hra,hp1,hc1⟩:∃ p1 f1,ra=some ⟨p1,f1,none⟩∧p1<W.heap.size∧∀ i,i<d.r.length→W.cell? ⟨p1,f1+i*2,none⟩=some (.int .i64 (Dm.lo d.r i))∧W.cell? ⟨p1,f1+i*2+1,none⟩=some (.int .i64 (Dm.hi d.r i)):=by
  obtain ⟨aa,cc,ea,hA⟩:=H1.out
  obtain ⟨q1,q2,q3,q4,_,q5⟩:=hA hd
  injection ea with ea _ _
  exact ⟨q1,q2,ea.trans q3,q4,q5⟩
 obtain ⟨p2,f2,hrb,hp2,hc2⟩:∃ p2 f2,ra'=some ⟨p2,f2,none⟩∧p2<W.heap.size∧∀ i,i<o.r.length→W.cell? ⟨p2,f2+i*2,none⟩=some (.int .i64 (Dm.lo o.r i))∧W.cell? ⟨p2,f2+i*2+1,none⟩=some (.int .i64 (Dm.hi o.r i)):=by
  obtain ⟨aa,cc,ea,hA⟩:=H1'.out
  obtain ⟨q1,q2,q3,q4,_,q5⟩:=hA ho
  injection ea with ea _ _
  exact ⟨q1,q2,ea.trans q3,q4,q5⟩
 subst hra hrb
 obtain ⟨W0,hW0⟩:∃ Q,(W.alloc (Obj.cells #[.bool false,.slice (some ⟨p1,f1,none⟩) n0 rc,.slice a1 n1 c1,.slice a2 n2 c2,.int .i64 x,.int .i64 y] 37)).alloc (Obj.cells #[.bool b',.slice (some ⟨p2,f2,none⟩) n0' rc',.slice a1' n1' c1',.slice a2' n2' c2',.int .i64 x',.int .i64 y'] 37)=Q:=⟨_,rfl⟩
 have hb0:Below W.heap.size W W0:=by rw [←hW0];exact ((Below.refl _ W).alloc (Nat.le_refl _) _).alloc (by simp) _
 have HX:Hid (Bx W0 N #[.bool false,.slice (some ⟨p1,f1,none⟩) n0 rc,.slice a1 n1 c1,.slice a2 n2 c2,.int .i64 x,.int .i64 y] 37):=by rw [←hW0];exact (Bx.new' hN _ _).alloc _
 have HY:Hid (Bx W0 (N+1) #[.bool b',.slice (some ⟨p2,f2,none⟩) n0' rc',.slice a1' n1' c1',.slice a2' n2' c2',.int .i64 x',.int .i64 y'] 37):=by rw [←hW0];exact Bx.new' (by simp [hN]) _ _
 have HB0:Hid (Below W.heap.size W W0):=hb0
 obtain ⟨la,hla⟩:∃ q,Dm.lo d.r 0=q:=⟨_,rfl⟩
 obtain ⟨lb,hlb⟩:∃ q,Dm.lo o.r 0=q:=⟨_,rfl⟩
 obtain ⟨hA,hhA⟩:∃ q,Dm.hi d.r m0=q:=⟨_,rfl⟩
 obtain ⟨hB,hhB⟩:∃ q,Dm.hi o.r m1=q:=⟨_,rfl⟩
 have ed:d.r.length=m0+1:=by rw [HE.out.2.1,hmm0]
 have eo:o.r.length=m1+1:=by rw [HE'.out.2.1,hmm1]
 have FS:Hid (∀ w,Below W0.heap.size W0 w→(w.cell? ⟨N,0,none⟩=some (.bool false)∧w.cell? ⟨N,1,none⟩=some (.slice (some ⟨p1,f1,none⟩) n0 rc)∧w.cell? ⟨N,2,none⟩=some (.slice a1 n1 c1)∧w.cell? ⟨N,3,none⟩=some (.slice a2 n2 c2)∧w.cell? ⟨N,4,none⟩=some (.int .i64 x)∧w.cell? ⟨N,5,none⟩=some (.int .i64 y))∧(w.cell? ⟨N+1,0,none⟩=some (.bool b')∧w.cell? ⟨N+1,1,none⟩=some (.slice (some ⟨p2,f2,none⟩) n0' rc')∧w.cell? ⟨N+1,2,none⟩=some (.slice a1' n1' c1')∧w.cell? ⟨N+1,3,none⟩=some (.slice a2' n2' c2')∧w.cell? ⟨N+1,4,none⟩=some (.int .i64 x')∧w.cell? ⟨N+1,5,none⟩=some (.int .i64 y'))∧w.cell? ⟨p1,f1,none⟩=some (.int .i64 la)∧w.cell? ⟨p2,f2,none⟩=some (.int .i64 lb)∧w.cell? ⟨p1,f1+m0*2+1,none⟩=some (.int .i64 hA)∧w.cell? ⟨p2,f2+m1*2+1,none⟩=some (.int .i64 hB)):=fun w hb=>by
  have b2:=hb0.trans (hb.mono hb0.size)
  refine ⟨(HX.out.below hb).six,(HY.out.below hb).six,?_,?_,?_,?_⟩
  ·rw [←hla];exact (b2.cell (p:=⟨p1,_,none⟩) hp1).trans (by simpa using (hc1 0 hd).1)
  ·rw [←hlb];exact (b2.cell (p:=⟨p2,_,none⟩) hp2).trans (by simpa using (hc2 0 ho).1)
  ·rw [←hhA];exact (b2.cell (p:=⟨p1,_,none⟩) hp1).trans (hc1 m0 (by omega)).2
  ·rw [←hhB];exact (b2.cell (p:=⟨p2,_,none⟩) hp2).trans (hc2 m1 (by omega)).2
 have HM:Hid (sbM d o=(decide (la=lb)&&decide (hA=hB))):=by
  unfold Hid sbM
  rw [if_neg (by rw [hs];decide),ed,eo,Nat.add_sub_cancel,Nat.add_sub_cancel,hla,hlb,hhA,hhB]
 rw [HM.out]
 have HW0:Hid _:=hW0
 have HP0:Hid (Below W0.heap.size W0 W0.drew):=(Below.refl _ _).drew
 have hm0:IntKind.i64.wrap ((n0:Int)-1)=(m0:Int):=by rw [IntKind.wrap_i64];omega
 have hm1:IntKind.i64.wrap ((n0':Int)-1)=(m1:Int):=by rw [IntKind.wrap_i64];omega
 have hj0:(m0:Int)<(n0:Int):=by omega
 have hk0:0<n0:=by omega
 have hl0:m0<n0:=by omega
 have hj1:(m1:Int)<(n0':Int):=by omega
 have hk1:0<n0':=by omega
 have hl1:m1<n0':=by omega
 obtain ⟨z0,z1,z2,z3,z4,z5⟩:=HX.out.six
 clear h h' hs HE H1 H2 H3 hW0 HE' H1' H2' H3' hb0 HM hc1 hc2 hd ho hdl hol hla hlb hhA hhB ed eo hmm0 hmm1
 go_enter Tryz.func77,Tryz.ntmps77
 go_upto_region 3 with (fail)
 rw [HW0.out]
 clear hN z0 z1 z2 z3 z4 z5
 by_cases hlo:la=lb
 ·
  refine wp_region_held_drew (S:=fun X:World=>Below W0.heap.size W0 X) (by kernel_rfl) (HP0.out) (fun hHeld=>?_)
  refine tkI 0 rfl hHeld ?_
  try simp only [Act.put,zS,eZ,eS]
  refine tkH 1 _ (v:=?_) hHeld ?_ ?_;rotate_left
  ·intro w hSw;obtain ⟨⟨y0,y1,y2,y3,y4,y5⟩,⟨u0,u1,u2,u3,u4,u5⟩,g0,g1,g2,g3⟩:=FS.out _ hSw;go_simp<;>with_reducible rfl
  try simp only [Act.put,zS,eZ,eS]
  refine tkI 2 rfl hHeld ?_
  try simp only [Act.put,zS,eZ,eS]
  refine tkI 3 rfl hHeld ?_
  try simp only [Act.put,zS,eZ,eS]
  refine tkH 4 _ (v:=?_) hHeld ?_ ?_;rotate_left
  ·intro w hSw;obtain ⟨⟨y0,y1,y2,y3,y4,y5⟩,⟨u0,u1,u2,u3,u4,u5⟩,g0,g1,g2,g3⟩:=FS.out _ hSw;go_simp<;>with_reducible rfl
  try simp only [Act.put,zS,eZ,eS]
  refine tkI 5 rfl hHeld ?_
  try simp only [Act.put,zS,eZ,eS]
  refine tkH 6 _ (v:=?_) hHeld ?_ ?_;rotate_left
  ·intro w hSw;obtain ⟨⟨y0,y1,y2,y3,y4,y5⟩,⟨u0,u1,u2,u3,u4,u5⟩,g0,g1,g2,g3⟩:=FS.out _ hSw;go_simp<;>with_reducible rfl
  try simp only [Act.put,zS,eZ,eS]
  refine tkI 7 rfl hHeld ?_
  try simp only [Act.put,zS,eZ,eS]
  refine tkI 8 rfl hHeld ?_
  try simp only [Act.put,zS,eZ,eS]
  refine tkH 9 _ (v:=?_) hHeld ?_ ?_;rotate_left
  ·intro w hSw;obtain ⟨⟨y0,y1,y2,y3,y4,y5⟩,⟨u0,u1,u2,u3,u4,u5⟩,g0,g1,g2,g3⟩:=FS.out _ hSw;go_simp<;>with_reducible rfl
  try simp only [Act.put,zS,eZ,eS]
  refine tkH 10 _ (v:=.bool true) hHeld ?_ ?_
  skip
  ·intro w hSw;go_simp<;>first | done | with_reducible rfl | simp [hlo]
  try simp only [Act.put,zS,eZ,eS]
  refine tkH 11 _ (v:=.bool true) hHeld ?_ ?_
  skip
  ·intro w hSw;(try dsimp only at hSw);go_simp<;>with_reducible rfl
  try simp only [Act.put,zS,eZ,eS]
  refine tkI 12 rfl hHeld ?_
  try simp only [Act.put,zS,eZ,eS]
  refine tkH 13 _ (v:=?_) hHeld ?_ ?_;rotate_left
  ·intro w hSw;obtain ⟨⟨y0,y1,y2,y3,y4,y5⟩,⟨u0,u1,u2,u3,u4,u5⟩,g0,g1,g2,g3⟩:=FS.out _ hSw;go_simp<;>with_reducible rfl
  try simp only [Act.put,zS,eZ,eS]
  refine tkI 14 rfl hHeld ?_
  try simp only [Act.put,zS,eZ,eS]
  refine tkH 15 _ (v:=?_) hHeld ?_ ?_;rotate_left
  ·intro w hSw;obtain ⟨⟨y0,y1,y2,y3,y4,y5⟩,⟨u0,u1,u2,u3,u4,u5⟩,g0,g1,g2,g3⟩:=FS.out _ hSw;go_simp<;>with_reducible rfl
  try simp only [Act.put,zS,eZ,eS]
  refine tkI 16 rfl hHeld ?_
  try simp only [Act.put,zS,eZ,eS]
  refine tkH 17 _ (v:=.int .i64 (m0:Int)) hHeld ?_ ?_
  skip
  ·intro w hSw;go_simp<;>first | done | with_reducible rfl | simp [hm0]
  try simp only [Act.put,zS,eZ,eS]
  refine tkI 18 rfl hHeld ?_
  try simp only [Act.put,zS,eZ,eS]
  refine tkI 19 rfl hHeld ?_
  try simp only [Act.put,zS,eZ,eS]
  refine tkH 20 _ (v:=?_) hHeld ?_ ?_;rotate_left
  ·intro w hSw;obtain ⟨⟨y0,y1,y2,y3,y4,y5⟩,⟨u0,u1,u2,u3,u4,u5⟩,g0,g1,g2,g3⟩:=FS.out _ hSw;go_simp<;>with_reducible rfl
  try simp only [Act.put,zS,eZ,eS]
  refine tkI 21 rfl hHeld ?_
  try simp only [Act.put,zS,eZ,eS]
  refine tkH 22 _ (v:=?_) hHeld ?_ ?_;rotate_left
  ·intro w hSw;obtain ⟨⟨y0,y1,y2,y3,y4,y5⟩,⟨u0,u1,u2,u3,u4,u5⟩,g0,g1,g2,g3⟩:=FS.out _ hSw;go_simp<;>with_reducible rfl
  try simp only [Act.put,zS,eZ,eS]
  refine tkI 23 rfl hHeld ?_
  try simp only [Act.put,zS,eZ,eS]
  refine tkH 24 _ (v:=?_) hHeld ?_ ?_;rotate_left
  ·intro w hSw;obtain ⟨⟨y0,y1,y2,y3,y4,y5⟩,⟨u0,u1,u2,u3,u4,u5⟩,g0,g1,g2,g3⟩:=FS.out _ hSw;go_simp<;>with_reducible rfl
  try simp only [Act.put,zS,eZ,eS]
  refine tkI 25 rfl hHeld ?_
  try simp only [Act.put,zS,eZ,eS]
  refine tkH 26 _ (v:=.int .i64 (m1:Int)) hHeld ?_ ?_
  skip
  ·intro w hSw;go_simp<;>first | done | with_reducible rfl | simp [hm1]
  try simp only [Act.put,zS,eZ,eS]
  refine tkI 27 rfl hHeld ?_
  try simp only [Act.put,zS,eZ,eS]
  refine tkI 28 rfl hHeld ?_
  try simp only [Act.put,zS,eZ,eS]
  refine tkH 29 _ (v:=?_) hHeld ?_ ?_;rotate_left
  ·intro w hSw;obtain ⟨⟨y0,y1,y2,y3,y4,y5⟩,⟨u0,u1,u2,u3,u4,u5⟩,g0,g1,g2,g3⟩:=FS.out _ hSw;go_simp<;>with_reducible rfl
  try simp only [Act.put,zS,eZ,eS]
  refine tkH 30 _ (v:=.bool (decide (hA=hB))) hHeld ?_ ?_
  skip
  ·intro w hSw;go_simp<;>first | done | with_reducible rfl | (rw [Bool.eq_iff_iff];simp) | simp
  try simp only [Act.put,zS,eZ,eS]
  refine tkH 31 _ (v:=.bool (decide (hA=hB))) hHeld ?_ ?_
  skip
  ·intro w hSw;go_simp<;>first | done | with_reducible rfl | simp
  try simp only [Act.put,zS,eZ,eS]
  refine tkH 32 _ (v:=.bool (decide (hA=hB))) hHeld ?_ ?_
  skip
  ·intro w hSw;(try dsimp only at hSw);go_simp<;>with_reducible rfl
  try simp only [Act.put,zS,eZ,eS]
  refine wpAnyH_done (by kernel_rfl) ?_ _
  go_wp2
  go_ret
  exact ⟨ret_bool (by simp [hlo]),HB0.out.trans (HP0.out.mono HB0.out.size)⟩
 ·
  refine wp_region_held_drew (S:=fun X:World=>Below W0.heap.size W0 X) (by kernel_rfl) (HP0.out) (fun hHeld=>?_)
  refine tkI 0 rfl hHeld ?_
  try simp only [Act.put,zS,eZ,eS]
  refine tkH 1 _ (v:=?_) hHeld ?_ ?_;rotate_left
  ·intro w hSw;obtain ⟨⟨y0,y1,y2,y3,y4,y5⟩,⟨u0,u1,u2,u3,u4,u5⟩,g0,g1,g2,g3⟩:=FS.out _ hSw;go_simp<;>with_reducible rfl
  try simp only [Act.put,zS,eZ,eS]
  refine tkI 2 rfl hHeld ?_
  try simp only [Act.put,zS,eZ,eS]
  refine tkI 3 rfl hHeld ?_
  try simp only [Act.put,zS,eZ,eS]
  refine tkH 4 _ (v:=?_) hHeld ?_ ?_;rotate_left
  ·intro w hSw;obtain ⟨⟨y0,y1,y2,y3,y4,y5⟩,⟨u0,u1,u2,u3,u4,u5⟩,g0,g1,g2,g3⟩:=FS.out _ hSw;go_simp<;>with_reducible rfl
  try simp only [Act.put,zS,eZ,eS]
  refine tkI 5 rfl hHeld ?_
  try simp only [Act.put,zS,eZ,eS]
  refine tkH 6 _ (v:=?_) hHeld ?_ ?_;rotate_left
  ·intro w hSw;obtain ⟨⟨y0,y1,y2,y3,y4,y5⟩,⟨u0,u1,u2,u3,u4,u5⟩,g0,g1,g2,g3⟩:=FS.out _ hSw;go_simp<;>with_reducible rfl
  try simp only [Act.put,zS,eZ,eS]
  refine tkI 7 rfl hHeld ?_
  try simp only [Act.put,zS,eZ,eS]
  refine tkI 8 rfl hHeld ?_
  try simp only [Act.put,zS,eZ,eS]
  refine tkH 9 _ (v:=?_) hHeld ?_ ?_;rotate_left
  ·intro w hSw;obtain ⟨⟨y0,y1,y2,y3,y4,y5⟩,⟨u0,u1,u2,u3,u4,u5⟩,g0,g1,g2,g3⟩:=FS.out _ hSw;go_simp<;>with_reducible rfl
  try simp only [Act.put,zS,eZ,eS]
  refine tkH 10 _ (v:=.bool false) hHeld ?_ ?_
  skip
  ·intro w hSw;go_simp<;>first | done | with_reducible rfl | simp [hlo]
  try simp only [Act.put,zS,eZ,eS]
  refine tkH 11 _ (v:=.bool false) hHeld ?_ ?_
  skip
  ·intro w hSw;(try dsimp only at hSw);go_simp<;>with_reducible rfl
  try simp only [Act.put,zS,eZ,eS]
  refine tkU 12 rfl hHeld ?_
  try simp only [Act.put,zS,eZ,eS]
  refine tkU 13 rfl hHeld ?_
  try simp only [Act.put,zS,eZ,eS]
  refine tkU 14 rfl hHeld ?_
  try simp only [Act.put,zS,eZ,eS]
  refine tkU 15 rfl hHeld ?_
  try simp only [Act.put,zS,eZ,eS]
  refine tkU 16 rfl hHeld ?_
  try simp only [Act.put,zS,eZ,eS]
  refine tkU 17 rfl hHeld ?_
  try simp only [Act.put,zS,eZ,eS]
  refine tkU 18 rfl hHeld ?_
  try simp only [Act.put,zS,eZ,eS]
  refine tkU 19 rfl hHeld ?_
  try simp only [Act.put,zS,eZ,eS]
  refine tkU 20 rfl hHeld ?_
  try simp only [Act.put,zS,eZ,eS]
  refine tkU 21 rfl hHeld ?_
  try simp only [Act.put,zS,eZ,eS]
  refine tkU 22 rfl hHeld ?_
  try simp only [Act.put,zS,eZ,eS]
  refine tkU 23 rfl hHeld ?_
  try simp only [Act.put,zS,eZ,eS]
  refine tkU 24 rfl hHeld ?_
  try simp only [Act.put,zS,eZ,eS]
  refine tkU 25 rfl hHeld ?_
  try simp only [Act.put,zS,eZ,eS]
  refine tkU 26 rfl hHeld ?_
  try simp only [Act.put,zS,eZ,eS]
  refine tkU 27 rfl hHeld ?_
  try simp only [Act.put,zS,eZ,eS]
  refine tkU 28 rfl hHeld ?_
  try simp only [Act.put,zS,eZ,eS]
  refine tkU 29 rfl hHeld ?_
  try simp only [Act.put,zS,eZ,eS]
  refine tkU 30 rfl hHeld ?_
  try simp only [Act.put,zS,eZ,eS]
  refine tkH 31 _ (v:=.bool false) hHeld ?_ ?_
  skip
  ·intro w hSw;go_simp<;>first | done | with_reducible rfl | simp
  try simp only [Act.put,zS,eZ,eS]
  refine tkI 32 rfl hHeld ?_
  try simp only [Act.put,zS,eZ,eS]
  refine wpAnyH_done (by kernel_rfl) ?_ _
  go_wp2
  go_ret
  exact ⟨ret_bool (by simp [hlo]),HB0.out.trans (HP0.out.mono HB0.out.size)⟩
theorem sb_d {X Y:Nat→Prop} {W:World} {c k:List Value} {d o:MD} (h:Dc X W c d) (h':Dc Y W k o) (hz:d.lo.length*8≤140737488351232) (hn:d.set=false→0<d.r.length∧0<o.r.length) (hdl:d.r.length≤100000) (hol:o.r.length≤100000) :
  Calls Tryz.prog 77 #[.agg c.toArray,.agg k.toArray] W fun e w'=>e = .returned (.bool (sbM d o))∧Below W.heap.size W w':=by
 cases hs:d.set
 ·exact sb_n h h' hs (hn hs).1 (hn hs).2 hdl hol
 ·exact sb_s h h' hs hz
theorem change_d {X Y:Nat→Prop} {W:World} {c k:List Value} {d o:MD} (h:Dc X W c d) (h':Dc Y W k o) (hf':Dm.FitsR o.r) (hz:d.lo.length*8≤140737488351232) (hn:d.set=false→0<d.r.length∧0<o.r.length) (hdl:d.r.length≤100000) (hol:o.r.length≤100000) :
  Calls Tryz.prog 54 #[.agg c.toArray,.agg k.toArray] W fun e w'=>e = .returned (.int .i64 (chM d o))∧Below W.heap.size W w':=by
 obtain ⟨N,hN⟩:∃ N,W.heap.size=N:=⟨_,rfl⟩
 have h0:=h
 have h0':=h'
 obtain ⟨b,ra,n0,rc,a1,n1,c1,a2,n2,c2,x,y,rfl,HE,H1,H2,H3⟩:=h.look
 obtain ⟨b',ra',n0',rc',a1',n1',c1',a2',n2',c2',x',y',rfl,HE',H1',H2',H3'⟩:=h'.look
 obtain ⟨W0,hW0⟩:∃ Q,(W.alloc (Obj.cells #[.bool b,.slice ra n0 rc,.slice a1 n1 c1,.slice a2 n2 c2,.int .i64 x,.int .i64 y] 37)).alloc (Obj.cells #[.bool b',.slice ra' n0' rc',.slice a1' n1' c1',.slice a2' n2' c2',.int .i64 x',.int .i64 y'] 37)=Q:=⟨_,rfl⟩
 have hb0:Below W.heap.size W W0:=by rw [←hW0];exact (((Below.refl _ W).alloc (Nat.le_refl _) _).alloc (by simp) _)
 have HX:Hid (Bx W0 N #[.bool b,.slice ra n0 rc,.slice a1 n1 c1,.slice a2 n2 c2,.int .i64 x,.int .i64 y] 37):=by rw [←hW0];exact (Bx.new' hN _ _).alloc _
 have HY:Hid (Bx W0 (N+1) #[.bool b',.slice ra' n0' rc',.slice a1' n1' c1',.slice a2' n2' c2',.int .i64 x',.int .i64 y'] 37):=by rw [←hW0];exact Bx.new' (by simp [hN]) _ _
 have ko:=only_d (h0'.below hb0) hf'
 have KS:Hid (∀ w,Below W0.heap.size W0 w→Calls Tryz.prog 77 #[.agg #[.bool b,.slice ra n0 rc,.slice a1 n1 c1,.slice a2 n2 c2,.int .i64 x,.int .i64 y],.agg #[.bool b',.slice ra' n0' rc',.slice a1' n1' c1',.slice a2' n2' c2',.int .i64 x',.int .i64 y']] w fun e w'=>e = .returned (.bool (sbM d o))∧Below w.heap.size w w'):=fun w hb=>sb_d ((h0.below hb0).below hb) ((h0'.below hb0).below hb) hz hn hdl hol
 have HB0:Hid (Below W.heap.size W W0):=hb0
 obtain ⟨zz,hzz⟩:∃ q,chM d o=q:=⟨_,rfl⟩
 rw [hzz]
 have HZZ:Hid (zz=if onlyA o then 1 else if sbM d o then 3 else 2):=by rw [Hid,←hzz];rfl
 clear hzz
 have HW0:Hid _:=hW0
 clear hW0 h h' h0 h0' hf' hz hn hdl hol H1 H2 H3 HE H1' H2' H3' HE' hb0
 generalize onlyA o=q at *
 obtain ⟨y0,y1,y2,y3,y4,y5⟩:=HY.out.six
 go_enter Tryz.func54,Tryz.ntmps54
 go_upto_region 1 with (fail)
 rw [HW0.out]
 clear hN
 go_wp2_with fail
 refine ko.mono ?_
 clear ko y0 y1 y2 y3 y4 y5
 rintro e w1 ⟨b1,x1,sp,sn,sc,rfl,hb1⟩
 obtain ⟨w2,hw2⟩:∃ Q,w1.alloc (Obj.cells #[.bool b1,.int .i64 x1,.slice sp sn sc] 57)=Q:=⟨_,rfl⟩
 have hb2:Below W0.heap.size W0 w2:=by rw [←hw2];exact hb1.alloc hb1.size _
 have HB2:Hid (Below W0.heap.size W0 w2):=hb2
 have HBE:=hid (HB0.out.trans (hb2.mono HB0.out.size))
 have HW2:Hid _:=hw2
 clear hw2 hb1 hb2
 cases q
 ·go_upto_region 2 with (fail)
  rw [HW2.out]
  have ks:=KS.out w2 HB2.out
  obtain ⟨z0,z1,z2,z3,z4,z5⟩:=(HX.out.below HB2.out).six
  obtain ⟨y0,y1,y2,y3,y4,y5⟩:=(HY.out.below HB2.out).six
  generalize sbM d o=r at *
  go_wp2_with fail
  refine ks.mono ?_
  clear ks z0 z1 z2 z3 z4 z5 y0 y1 y2 y3 y4 y5
  rintro e w3 ⟨rfl,hb3⟩
  have HB3:=hid (HBE.out.trans (hb3.mono HBE.out.size))
  cases r
  ·go_wp2
   go_ret
   exact ⟨ret_int (by rw [HZZ.out];rfl),HB3.out⟩
  ·go_wp2
   go_ret
   exact ⟨ret_int (by rw [HZZ.out];rfl),HB3.out⟩
 ·go_upto_region 2 with (fail)
  rw [HW2.out]
  go_wp2
  go_ret
  exact ⟨ret_int (by rw [HZZ.out];rfl),HBE.out⟩
def stepA (st:StM) (t:Int × MD × Int):StM:={ st with e:=st.e+(emptI (emptyA t.2.1)-emptI (emptyA (st.D.getD t.1.toNat ⟨false,[],[],[],0,0⟩))),D:=st.D.set t.1.toNat t.2.1,since:=st.since.set t.1.toNat t.2.2 }
def foldA (st:StM) (l:List (Int × MD × Int)):StM:=l.foldl stepA st
theorem foldA_snoc (st:StM) (l:List (Int × MD × Int)) (t:Int × MD × Int):foldA st (l++[t])=stepA (foldA st l) t:=by simp [foldA]
theorem foldA_len (st:StM):∀ (l:List (Int × MD × Int)),(foldA st l).D.length=st.D.length∧(foldA st l).saved=st.saved∧(foldA st l).marks=st.marks∧(foldA st l).why=st.why∧st.e-l.length≤(foldA st l).e∧(foldA st l).e≤st.e+l.length:=by
 intro l
 induction l using Dm.snoc_induct with
 | h0=>simp [foldA]
 | h1 l t ih =>
  obtain ⟨i1,i2,i3,i4,i5,i6⟩:=ih
  rw [foldA_snoc]
  have q1:=emptI_01 (emptyA t.2.1)
  have q2:=emptI_01 (emptyA ((foldA st l).D.getD t.1.toNat ⟨false,[],[],[],0,0⟩))
  refine ⟨by simp [stepA,i1],i2,i3,i4,?_,?_⟩<;>(simp only [stepA,List.length_append,List.length_singleton];omega)
theorem back_d [Gh] {W:World} {p:Nat} {st:StM} {sl:Sl} (h:Sto W p st sl) (hz:Sz st) (ms:List Int) (f:Nat) (hm:st.marks=ms++[(f:Int)]) (hf:f<st.saved.length) (hs:st.saved.length≤100000) (hval:∀ t∈st.saved.drop f,0≤t.1∧t.1<st.D.length) (he : -500000≤st.e) (he':st.e≤500000) :
  Calls Tryz.prog 58 #[ptr p,.func (.func 52) #[ptr p] #[]] W fun e w'=>e = .returned (.tuple #[])∧∃ sl',Sto w' p { foldA st (st.saved.drop f) with saved:=st.saved.take f,marks:=ms } sl'∧Up (XS p sl) (XS p sl') W∧Kept (XS p sl) W w':=by
 obtain ⟨n,k,m,sa,sc,ma,mc,ia,ic,da,dc,wa,wc,rfl,HL⟩:=h.look
 have hml:m=ms.length+1:=by rw [←HL.out.2.2,hm];simp
 obtain ⟨gm,cap,e1,hgm,hle,hcm,hr,hth⟩:=h.marks.at (i:=ms.length) (c:=[.int .i64 (f:Int)]) (by rw [ivs_get,hm];simp)
 rw [Nat.mul_one] at hr hth
 have hcf:=rng_one hr
 injection e1 with e1 e2 e3
 subst e1 e3
 clear e2 hr hth
 rw [ivs_len,HL.out.2.2] at hle
 unfold maxLen at hcm
 obtain ⟨gk,cap2,c9,e1,hgk,hle2,hcm2,_,_⟩:=h.saved_at (List.getElem?_eq_getElem hf)
 injection e1 with e1 e2 e3
 subst e1 e3
 clear e2
 rw [HL.out.2.1] at hf hs hle2
 obtain ⟨gi,hgi⟩:∃ gi,ia=some ⟨gi,0,none⟩:=by
  have hq:=hval _ (List.mem_iff_getElem?.2 ⟨0,by rw [List.getElem?_drop];exact List.getElem?_eq_getElem (by rw [HL.out.2.1];exact hf)⟩)
  obtain ⟨g,cp,e1,_⟩:=h.since.at (i:=0) (c:=[.int .i64 (st.since.getD 0 0)]) (by rw [ivs_get,List.getElem?_eq_getElem (by rw [h.ls];omega)];simp [List.getD,show 0<st.since.length by rw [h.ls];omega])
  injection e1 with e1 _ _
  exact ⟨g,e1⟩
 subst hgi
 have HVAL:Hid _:=hval
 have HEB:Hid (-500000≤st.e∧st.e≤500000):=⟨he,he'⟩
 have HZ:Hid (Sz st):=hz
 have HMS:Hid (st.marks=ms++[(f:Int)]):=hm
 obtain ⟨z0,z1,z2,z3,z4,z5,zf⟩:=h.cells
 simp only at z0 z1 z2
 have hmb:m≤1000000:=by rw [←HL.out.2.2];exact hz.2.1
 have hfs:f<sc:=by omega
 have hfne:¬sc=f:=by omega
 have HH:Hid (Sto W p st _):=h
 have hml':(m:Int)-1=(ms.length:Int):=by omega
 obtain ⟨mn,hmn⟩:∃ q,ms.length=q:=⟨_,rfl⟩
 have HMN:Hid (ms.length=mn):=hmn
 rw [hmn] at hml hml' hcf
 obtain ⟨kf,hkf⟩:∃ q,k-f=q:=⟨_,rfl⟩
 have hkf0:0<kf:=by omega
 have hkfb:kf≤100000:=by omega
 have HKF0:Hid (k=f+kf):=by rw [Hid];omega
 clear hmn
 clear hm hval he he' z2 z3 z4 z5 zf h hz
 go_enter Tryz.func58,Tryz.ntmps58
 go_wp2
 go_loopw [28,7] (fun i _ wr=>∃ j:Nat,j≤kf∧i = .int .i64 (j:Int)∧Hid (Sto wr p (foldA st ((st.saved.drop f).take j)) ⟨.slice (some ⟨gk,0,none⟩) k sc,.slice (some ⟨gm,0,none⟩) m mc,.slice (some ⟨gi,0,none⟩) n ic,.slice da n dc,.slice wa n wc⟩)∧Hid (Kept (XS p ⟨.slice (some ⟨gk,0,none⟩) k sc,.slice (some ⟨gm,0,none⟩) m mc,.slice (some ⟨gi,0,none⟩) n ic,.slice da n dc,.slice wa n wc⟩) W wr)) (fun i _ _=>kf-(intOf i).toNat)
 case atStart=>exact ⟨0,Nat.zero_le _,rfl,HH,Kept.refl _ _⟩
 case round =>
  obtain ⟨j,hj,rfl,HS,HK⟩:=hrel
  by_cases hlt:j<kf
  ·have hlt':(j:Int)<kf:=by omega
   obtain ⟨q,hq⟩:∃ q,st.saved[f+j]? = some q:=⟨_,List.getElem?_eq_getElem (by rw [HL.out.2.1];omega)⟩
   have hqm:q∈st.saved.drop f:=by rw [List.mem_iff_getElem?];exact ⟨j,by rw [List.getElem?_drop];exact hq⟩
   obtain ⟨hv0,hvn⟩:=HVAL.out q hqm
   have hFS:=foldA_len st ((st.saved.drop f).take j)
   obtain ⟨g9,cap9,c,e1,_,_,_,hrg,hdc⟩:=HS.out.saved_at (i:=f+j) (q:=q) (by rw [hFS.2.1];exact hq)
   injection e1 with e1 e2 e3
   clear e2 e3
   injection e1 with e1
   injection e1 with e1 e2 e3
   clear e2 e3
   subst e1
   obtain ⟨vI,d,sq⟩:=q
   simp only at hv0 hvn hrg hdc
   obtain ⟨v,rfl⟩:∃ v:Nat,vI=(v:Int):=⟨vI.toNat,by omega⟩
   obtain ⟨b0,ra,n0,rc,a1,n1,c1,a2,n2,c2,x,y,rfl,HE,_,_,_⟩:=hdc.look
   rw [Nat.add_mul] at hrg
   obtain ⟨u0,u1,u2,u3,u4,u5,u6,u7⟩:=rng8 hrg
   have hvl:v<(foldA st ((st.saved.drop f).take j)).D.length:=by rw [hFS.1];omega
   obtain ⟨o,ho⟩:∃ o,(foldA st ((st.saved.drop f).take j)).D[v]? = some o:=⟨_,List.getElem?_eq_getElem hvl⟩
   have hlj:((st.saved.drop f).take j).length≤100000:=by have:=List.length_take_le j (st.saved.drop f);omega
   have hzj:Sz (foldA st ((st.saved.drop f).take j)):=⟨by rw [hFS.1];exact HZ.out.1,by rw [hFS.2.2.1];exact HZ.out.2.1,by rw [hFS.2.1];exact HZ.out.2.2⟩
   obtain ⟨bx,hbx⟩:∃ q,wr.heap.size=q:=⟨_,rfl⟩
   obtain ⟨Y0,hY0⟩:∃ q,wr.alloc (Obj.cells #[.int .i64 v,.bool b0,.slice ra n0 rc,.slice a1 n1 c1,.slice a2 n2 c2,.int .i64 x,.int .i64 y,.int .i64 sq] 105)=q:=⟨_,rfl⟩
   have hbY:Below wr.heap.size wr Y0:=by rw [←hY0];exact (Below.refl _ _).alloc (Nat.le_refl _) _
   have HBX0:Hid (Bx Y0 bx #[.int .i64 v,.bool b0,.slice ra n0 rc,.slice a1 n1 c1,.slice a2 n2 c2,.int .i64 x,.int .i64 y,.int .i64 sq] 105):=by rw [←hY0];exact Bx.new' hbx _ _
   have kp:=put_d (HS.out.below hbY) (hdc.below hbY) v ho (by have:=hFS.2.2.2.2.1;have:=HEB.out;omega) (by have:=hFS.2.2.2.2.2;have:=HEB.out;omega) hzj
   have HXB:Hid (¬XS p ⟨.slice (some ⟨gk,0,none⟩) k sc,.slice (some ⟨gm,0,none⟩) m mc,.slice (some ⟨gi,0,none⟩) n ic,.slice da n dc,.slice wa n wc⟩ bx):=fun q=>by have:=HS.out.x_lt bx q;omega
   have HKY:Hid (Kept (XS p ⟨.slice (some ⟨gk,0,none⟩) k sc,.slice (some ⟨gm,0,none⟩) m mc,.slice (some ⟨gi,0,none⟩) n ic,.slice da n dc,.slice wa n wc⟩) W Y0):=HK.out.then_below hbY
   have HTK:Hid ((st.saved.drop f).take (j+1)=(st.saved.drop f).take j++[((v:Int),d,sq)]):=by rw [Hid,List.take_add_one,List.getElem?_drop,hq];rfl
   have HPM:Hid ({ foldA st ((st.saved.drop f).take j) with e:=(foldA st ((st.saved.drop f).take j)).e+(emptI (emptyA d)-emptI (emptyA o)),D:=(foldA st ((st.saved.drop f).take j)).D.set v d,since:=(foldA st ((st.saved.drop f).take j)).since.set v sq }=stepA (foldA st ((st.saved.drop f).take j)) ((v:Int),d,sq)):=by
    have hg:(foldA st ((st.saved.drop f).take j)).D.getD v ⟨false,[],[],[],0,0⟩=o:=by rw [List.getD,ho];rfl
    simp only [Hid,stepA,Int.toNat_natCast,hg]
   have HVS0:Hid (v<(foldA st ((st.saved.drop f).take j)).since.length):=by rw [Hid,HS.out.ls];exact hvl
   have HY0:Hid (wr.alloc (Obj.cells #[.int .i64 v,.bool b0,.slice ra n0 rc,.slice a1 n1 c1,.slice a2 n2 c2,.int .i64 x,.int .i64 y,.int .i64 sq] 105)=Y0):=hY0
   have HBX9:Hid (bx=wr.heap.size):=hbx.symm
   have hvi:(v:Int)<n:=by have:=HL.out.1;omega
   clear hY0 hbx hbY hqm hvn hv0 hrg hdc hlj hzj ho hq hFS hvl HK HS
   go_wp2_with fail
   (try rw [HY0.out])
   (try rw [←HBX9.out])
   refine kp.mono ?_
   clear kp u0 u1 u2 u3 u4 u5 u6 u7
   rintro e w1 ⟨rfl,hs1,hk1⟩
   have HS2:Hid (Sto w1.drew p _ ⟨.slice (some ⟨gk,0,none⟩) k sc,.slice (some ⟨gm,0,none⟩) m mc,.slice (some ⟨gi,0,none⟩) n ic,.slice da n dc,.slice wa n wc⟩):=hs1.below (Below.refl _ _).drew
   have HK2:Hid (Kept (XS p ⟨.slice (some ⟨gk,0,none⟩) k sc,.slice (some ⟨gm,0,none⟩) m mc,.slice (some ⟨gi,0,none⟩) n ic,.slice da n dc,.slice wa n wc⟩) W w1.drew):=(HKY.out.trans hk1 (Up.refl _ _)).then_below (Below.refl _ _).drew
   have HBX2:Hid (Bx w1.drew bx #[.int .i64 v,.bool b0,.slice ra n0 rc,.slice a1 n1 c1,.slice a2 n2 c2,.int .i64 x,.int .i64 y,.int .i64 sq] 105):=(HBX0.out.kept hk1 HXB.out).drew 1
   have HXI:Hid (XS p ⟨.slice (some ⟨gk,0,none⟩) k sc,.slice (some ⟨gm,0,none⟩) m mc,.slice (some ⟨gi,0,none⟩) n ic,.slice da n dc,.slice wa n wc⟩ gi):=.inr (.inr (.inr (.inl rfl)))
   have HBG:Hid (bx≠gi):=fun e=>HXB.out (e▸HXI.out)
   have hp2:w1.drew.cell? ⟨p,2,none⟩=some (.slice (some ⟨gi,0,none⟩) n ic):=HS2.out.cells.2.2.1
   have HPG:Hid (p≠gi):=fun e=>HS2.out.since.nep HS2.out.blk (by decide) (by rw [e];rfl)
   have HP2:Hid ((w1.drew.setCell ⟨gi,v,none⟩ (.int .i64 sq)).cell? ⟨p,2,none⟩=some (.slice (some ⟨gi,0,none⟩) n ic)):=(World.cell?_setCell_other _ _ _ _ (by intro e;injection e with e _ _;exact HPG.out e.symm)).trans hp2
   have HVS:Hid (v<(foldA st ((st.saved.drop f).take j)).since.length):=HVS0.out
   have HTI:Hid ((∃ old,w1.drew.cell? ⟨gi,v,none⟩=some old)∧w1.drew.frozen? ⟨gi,v,none⟩=false):=by
    obtain ⟨g,cp,e1,_,_,_,e5,e6⟩:=HS2.out.since.at (i:=v) (c:=[.int .i64 ((foldA st ((st.saved.drop f).take j)).since.getD v 0)]) (by rw [ivs_get];show ((foldA st ((st.saved.drop f).take j)).since[v]?).map _=_;rw [List.getElem?_eq_getElem HVS0.out];simp [List.getD,HVS0.out])
    injection e1 with e1 _ _
    injection e1 with e1
    injection e1 with e1 _ _
    subst e1
    rw [Nat.mul_one] at e5 e6
    exact ⟨⟨_,rng_one e5⟩,there_one e6 (by decide)⟩
   obtain ⟨⟨old,hold⟩,hfrz⟩:=HTI.out
   have HTI:Hid (w1.drew.cell? ⟨gi,v,none⟩=some old∧w1.drew.frozen? ⟨gi,v,none⟩=false):=⟨hold,hfrz⟩
   clear hold hfrz hs1 hk1 HKY HBX0 HBX9 HY0 HVS0
   go_upto_region 6 with (fail)
   refine wp_region_held_drew (S:=fun X:World=>X.cell? ⟨p,2,none⟩=some (.slice (some ⟨gi,0,none⟩) n ic)∧Bx X bx #[.int .i64 v,.bool b0,.slice ra n0 rc,.slice a1 n1 c1,.slice a2 n2 c2,.int .i64 x,.int .i64 y,.int .i64 sq] 105) (by kernel_rfl) (⟨hp2,HBX2.out⟩) (fun hHeld=>?_)
   refine tkH 0 ⟨some 38,.move (.tmp 0),103,"trail.go:47",#[],none⟩ (v:=?_) hHeld ?_ ?_;rotate_left
   ·intro w hSw;(try dsimp only at hSw);go_simp<;>with_reducible rfl
   try simp only [Act.put,zS,eZ,eS]
   refine tkH 1 ⟨some 39,.nilCheck (.tmp 38),0,"trail.go:47",#[⟨0,.data⟩],none⟩ (v:=?_) hHeld ?_ ?_;rotate_left
   ·intro w hSw;(try dsimp only at hSw);go_simp<;>with_reducible rfl
   try simp only [Act.put,zS,eZ,eS]
   refine tkH 2 ⟨some 40,.fieldAddr 65 (.tmp 39) 2,0,"trail.go:47",#[⟨1,.data⟩],none⟩ (v:=?_) hHeld ?_ ?_;rotate_left
   ·intro w hSw;(try dsimp only at hSw);go_simp<;>with_reducible rfl
   try simp only [Act.put,zS,eZ,eS]
   refine tkH 3 ⟨some 41,.load 63 (.tmp 40),63,"trail.go:47",#[⟨2,.data⟩],none⟩ (v:=?_) hHeld ?_ ?_;rotate_left
   ·intro w hSw;obtain ⟨y2,yb⟩:=hSw;have q0:=yb.cell 0;have q7:=yb.cell 7;simp at q0 q7;go_simp<;>with_reducible rfl
   try simp only [Act.put,zS,eZ,eS]
   refine tkH 4 ⟨some 42,.fieldAddr 105 (.tmp 7) 0,0,"trail.go:47",#[],none⟩ (v:=?_) hHeld ?_ ?_;rotate_left
   ·intro w hSw;(try dsimp only at hSw);go_simp<;>with_reducible rfl
   try simp only [Act.put,zS,eZ,eS]
   refine tkH 5 ⟨some 43,.load 3 (.tmp 42),3,"trail.go:47",#[⟨4,.data⟩],none⟩ (v:=?_) hHeld ?_ ?_;rotate_left
   ·intro w hSw;obtain ⟨y2,yb⟩:=hSw;have q0:=yb.cell 0;have q7:=yb.cell 7;simp at q0 q7;go_simp<;>with_reducible rfl
   try simp only [Act.put,zS,eZ,eS]
   refine tkH 6 ⟨some 44,.fieldAddr 105 (.tmp 7) 2,0,"trail.go:47",#[],none⟩ (v:=?_) hHeld ?_ ?_;rotate_left
   ·intro w hSw;(try dsimp only at hSw);go_simp<;>with_reducible rfl
   try simp only [Act.put,zS,eZ,eS]
   refine tkH 7 ⟨some 45,.load 3 (.tmp 44),3,"trail.go:47",#[⟨6,.data⟩],none⟩ (v:=?_) hHeld ?_ ?_;rotate_left
   ·intro w hSw;obtain ⟨y2,yb⟩:=hSw;have q0:=yb.cell 0;have q7:=yb.cell 7;simp at q0 q7;go_simp<;>with_reducible rfl
   try simp only [Act.put,zS,eZ,eS]
   refine tkH 8 ⟨some 46,.indexAddr 63 (.tmp 41) (.tmp 43),0,"trail.go:47",#[⟨3,.data⟩,⟨5,.data⟩,⟨0,.phase⟩,⟨1,.phase⟩,⟨2,.phase⟩,⟨3,.phase⟩,⟨4,.phase⟩,⟨5,.phase⟩,⟨6,.phase⟩,⟨7,.phase⟩],none⟩ (v:=?_) hHeld ?_ ?_;rotate_left
   ·intro w hSw;(try dsimp only at hSw);go_simp<;>with_reducible rfl
   try simp only [Act.put,zS,eZ,eS]
   refine rdy 9 rfl fun K hK=>?_
   have zq:=HTI.out.1
   have zf:=HTI.out.2
   go_simp
   clear zq zf
   clear hHeld;refine hK.out _ _ (⟨HP2.out,HBX2.out.setc HBG.out _ _⟩) fun hHeld=>?_
   clear hK K
   try simp only [Act.put,zS,eZ,eS]
   refine wpAnyH_done (by kernel_rfl) ?_ _
   have HFIN:Hid (Sto (w1.drew.setCell ⟨gi,v,none⟩ (.int .i64 sq)) p (foldA st ((st.saved.drop f).take (j+1))) ⟨.slice (some ⟨gk,0,none⟩) k sc,.slice (some ⟨gm,0,none⟩) m mc,.slice (some ⟨gi,0,none⟩) n ic,.slice da n dc,.slice wa n wc⟩):=by
    have:=HS2.out.set_since HVS.out rfl sq
    rw [Hid,HTK.out,foldA_snoc,←HPM.out]
    exact this
   have HKF:Hid (Kept (XS p ⟨.slice (some ⟨gk,0,none⟩) k sc,.slice (some ⟨gm,0,none⟩) m mc,.slice (some ⟨gi,0,none⟩) n ic,.slice da n dc,.slice wa n wc⟩) W (w1.drew.setCell ⟨gi,v,none⟩ (.int .i64 sq))):=HK2.out.setCell HXI.out _ _
   clear HS2 HK2 HP2 HTI HBX2 hHeld HVS HTK HBG HPM hp2
   go_wp2
   go_roundw
   case rel=>first | exact ⟨j+1,by omega,by go_num,HFIN,HKF⟩ | exact ⟨_,_,_,_,_,_,_,_,_,_,_,_,_,_,_,_,_,_,_,_,_,⟨j+1,by omega,by go_num,HFIN,HKF⟩,rfl⟩
   case measure=>simp [intOf];omega
  ·obtain rfl:j=kf:=by omega
   have hlt':¬(j:Int)<j:=by omega
   have hFS:=foldA_len st ((st.saved.drop f).take j)
   have e0:(st.saved.drop f).take j=st.saved.drop f:=by apply List.take_of_length_le;rw [List.length_drop,HL.out.2.1];omega
   rw [e0] at HS hFS
   have hksz:j*8≤(sc-f)*8:=Nat.mul_le_mul_right _ (by omega)
   have hthr:∀ i,i<j*(Value.agg #[.int .i64 0,.bool false,.slice none 0 0,.slice none 0 0,.slice none 0 0,.int .i64 0,.int .i64 0,.int .i64 0]).cells.size→(wr.cell? ⟨gk,f*8+i,none⟩).isSome=true∧wr.frozen? ⟨gk,f*8+i,none⟩=false:=by
    intro i hi
    have hi':i<j*8:=hi
    obtain ⟨ks,hr,hkr⟩:=HS.out.saved
    rcases hr.2.2 with ⟨e1,_⟩ | ⟨g,cap,cur,e1,_,hg,hn,_,hsz,_⟩
    ·cases e1
    ·injection e1 with e1 _ e3
     injection e1 with e1
     injection e1 with e1 _ _
     subst e1 e3
     have hk9:k≤sc:=by have:=HKF0.out;omega
     have:k*8≤sc*8:=Nat.mul_le_mul_right _ hk9
     have:=HKF0.out
     constructor
     ·rw [cell_of_row wr gk _ cur _ _ hg,Array.getElem?_eq_getElem (by omega)];rfl
     ·simp [World.frozen?,hg]
   have hclr:∀ ty,(Builtin.clear_ #[62] ty #[.slice (some ⟨gk,f*8,none⟩) j (sc-f)]).run Tryz.prog wr = .ok (.tuple #[]) (wr.setCells gk (f*8) (Builtin.zeroCells (Value.agg #[.int .i64 0,.bool false,.slice none 0 0,.slice none 0 0,.slice none 0 0,.int .i64 0,.int .i64 0,.int .i64 0]).cells j).toList):=fun ty=>run_clear_many wr 62 105 ty _ Tryz.underlying62 (fun w=>zero_kept w) (by intro v hv;simp [Value.cells] at hv;rcases hv with rfl | rfl | rfl | rfl<;>rfl) gk (f*8) j (sc-f) hkf0 (fun i hi=>(hthr i hi).1) (fun i hi=>(hthr i hi).2)
   obtain ⟨ZZ,hZZ⟩:∃ q,(Builtin.zeroCells (Value.agg #[.int .i64 0,.bool false,.slice none 0 0,.slice none 0 0,.slice none 0 0,.int .i64 0,.int .i64 0,.int .i64 0]).cells j).toList=q:=⟨_,rfl⟩
   have hZl:ZZ.length=j*8:=by rw [←hZZ,Array.length_toList,size_zeroCells];rfl
   simp only [hZZ] at hclr
   obtain ⟨f1,f2,f3⟩:=HS.out.cut (gk:=gk) (gm:=gm) (f:=f) (kf:=j) (mn:=mn) (sc:=sc) (mc:=mc) (by rw [HKF0.out]) (by rw [hml]) (by rw [hFS.2.1,HL.out.2.1,HKF0.out]) ms (f:Int) (by rw [hFS.2.2.1];exact HMS.out) HMN.out ZZ hZl (by have:=HKF0.out;omega)
   rw [hFS.2.1] at f1
   have HF1:Hid _:=f1
   have HF2:Hid _:=f2
   have HF3:Hid _:=f3
   have HPK:Hid (p≠gk):=fun e=>by obtain ⟨ks,hr,_⟩:=HS.out.saved;exact hr.nep HS.out.blk (by decide) (by rw [e];rfl)
   have hbp:(wr.setCells gk (f*8) ZZ).heap[p]? = _:=((Kept.many (w:=wr) rfl).block p HS.out.p_lt HPK.out).trans HS.out.blk
   have y0:=cell_of_row _ p 0 _ _ _ hbp
   have y1:=cell_of_row _ p 1 _ _ _ hbp
   have yf:∀ o,(wr.setCells gk (f*8) ZZ).frozen? ⟨p,o,none⟩=false:=fun o=>by simp [World.frozen?,hbp]
   have x0:=HS.out.cells.1
   simp only [List.getElem?_toArray,List.getElem?_cons_zero,List.getElem?_cons_succ] at y0 y1 x0
   clear f1 f2 f3 hZZ hthr hbp e0 hFS hZl
   go_wp2
   exact ⟨rfl,_,results_none rfl _ _ _,rfl,_,HF1.out,(fun b hb=>(HF2.out b hb).elim .inl (fun q=>.inr (Nat.le_trans HK.out.size q))),HK.out.trans HF3.out (Up.refl _ _)⟩
theorem clear0 {P:Program} (w:World) (t e ty:TypeId) (ht:P.underlying t=some (.slice e)) (z:Value) (hv:∀ w,(zeroValue e).run P w = .ok z w) (a:Option Addr) (c:Nat):(Builtin.clear_ #[t] ty #[.slice a 0 c]).run P w = .ok (.tuple #[]) w:=by
 cases a<;>simp [Builtin.clear_,run_underlying ht,hv,Builtin.zeroCells,storeCells]
theorem Sto.cut0 [Gh] {w:World} {p gm mn mc:Nat} {st:StM} {sl:Sl} (h:Sto w p st sl) (hmv:sl.mv = .slice (some ⟨gm,0,none⟩) (mn+1) mc) (ms:List Int) (x:Int) (hms:st.marks=ms++[x]) (hmn:ms.length=mn) :
  Sto ((w.setCell ⟨p,0,none⟩ sl.sv).setCell ⟨p,1,none⟩ (.slice (some ⟨gm,0,none⟩) mn mc)) p { st with marks:=ms } { sl with mv:=.slice (some ⟨gm,0,none⟩) mn mc } ∧
  Up (XS p sl) (XS p { sl with mv:=.slice (some ⟨gm,0,none⟩) mn mc }) w∧Kept (XS p sl) w ((w.setCell ⟨p,0,none⟩ sl.sv).setCell ⟨p,1,none⟩ (.slice (some ⟨gm,0,none⟩) mn mc)):=by
 obtain ⟨ks,hs,hkr⟩:=h.saved
 have hn1:∀ b,sl.sv.ownBlock=some b→sl.sv.ownBlock=some b∨w.heap.size≤b:=fun b hb=>.inl hb
 obtain ⟨f1,f2,f3⟩:=h.set_saved (grown_refl _ _) hs hn1 hkr
 have r2:=f1.marks
 simp only at r2
 rw [hmv] at r2
 have hlm:(ivs st.marks).length=mn+1:=by rw [ivs_len,hms];simp [hmn]
 have r3:=r2.cut (m:=mn) (by omega)
 have e3:(ivs st.marks).take mn=ivs ms:=by rw [hms,ivs_snoc,←hmn];simp [ivs_len,ivs]
 rw [e3] at r3
 have hmg:sl.mv.ownBlock=some gm:=by rw [hmv];rfl
 obtain ⟨q1,q2,q3⟩:=f1.set_marks (mv':=.slice (some ⟨gm,0,none⟩) mn mc) (M':=ms) (grown_refl _ _) r3 (fun b hb=>.inl (by show sl.mv.ownBlock=_;rw [hmg];exact hb))
 refine ⟨q1,fun b hb=>?_,f3.trans q3 f2⟩
 rcases q2 b hb with q | q
 ·exact f2 b q
 ·exact .inr (Nat.le_trans f3.size q)
theorem back_0 [Gh] {W:World} {p:Nat} {st:StM} {sl:Sl} (h:Sto W p st sl) (hz:Sz st) (ms:List Int) (f:Nat) (hm:st.marks=ms++[(f:Int)]) (hf:f=st.saved.length) :
  Calls Tryz.prog 58 #[ptr p,.func (.func 52) #[ptr p] #[]] W fun e w'=>e = .returned (.tuple #[])∧∃ sl',Sto w' p { st with marks:=ms } sl'∧Up (XS p sl) (XS p sl') W∧Kept (XS p sl) W w':=by
 obtain ⟨n,k,m,sa,sc,ma,mc,ia,ic,da,dc,wa,wc,rfl,HL⟩:=h.look
 have hml:m=ms.length+1:=by rw [←HL.out.2.2,hm];simp
 obtain ⟨gm,cap,e1,hgm,hle,hcm,hr,hth⟩:=h.marks.at (i:=ms.length) (c:=[.int .i64 (f:Int)]) (by rw [ivs_get,hm];simp)
 rw [Nat.mul_one] at hr hth
 have hcf:=rng_one hr
 injection e1 with e1 e2 e3
 subst e1 e3
 clear e2 hr hth
 rw [ivs_len,HL.out.2.2] at hle
 unfold maxLen at hcm
 obtain rfl:f=k:=by rw [hf];exact HL.out.2.1
 obtain ⟨hfs,hscm,hnil⟩:f≤sc∧sc≤9223372036854775807∧(sa=none→f=0∧sc=0)∧∀ a,sa=some a→∃ g,a=⟨g,0,none⟩:=by
  obtain ⟨ks,hs,hkr⟩:=h.saved
  have hk0:=hkr.1
  rw [HL.out.2.1] at hk0
  rcases hs.2.2 with ⟨e1,e2⟩ | ⟨g,cp,cur,e1,e0,hg,hn,hm',hsz,ht⟩
  ·injection e1 with e1 e2' e3
   subst e1 e3
   exact ⟨by omega,by omega,fun _=>⟨by omega,rfl⟩,fun a e=>by cases e⟩
  ·injection e1 with e1 e2' e3
   subst e1 e3
   unfold maxLen at hm'
   exact ⟨by omega,by omega,fun e=>(by cases e),fun a e=>⟨g,by injection e with e;exact e.symm⟩⟩
 have HMS:Hid (st.marks=ms++[(f:Int)]):=hm
 obtain ⟨z0,z1,z2,z3,z4,z5,zf⟩:=h.cells
 simp only at z0 z1 z2
 have hmb:m≤1000000:=by rw [←HL.out.2.2];exact hz.2.1
 have hml':(m:Int)-1=(ms.length:Int):=by omega
 obtain ⟨mn,hmn⟩:∃ q,ms.length=q:=⟨_,rfl⟩
 have HMN:Hid (ms.length=mn):=hmn
 rw [hmn] at hml hml' hcf
 obtain ⟨f1,f2,f3⟩:=h.cut0 (gm:=gm) (mn:=mn) (mc:=mc) (by rw [hml]) ms (f:Int) hm hmn
 have HF1:Hid _:=f1
 have HF2:Hid _:=f2
 have HF3:Hid _:=f3
 have hfb:f≤100000000:=by rw [hf];exact hz.2.2
 have hclr:∀ ty a c w,(Builtin.clear_ #[62] ty #[.slice a 0 c]).run Tryz.prog w = .ok (.tuple #[]) w:=fun ty a c w=>clear0 w 62 105 ty Tryz.underlying62 _ zero_kept a c
 clear hmn hm z2 z3 z4 z5 h hz f1 f2 f3 hf
 rcases sa with _ | a
 ·obtain ⟨rfl,rfl⟩:=hnil.1 rfl
  go_enter Tryz.func58,Tryz.ntmps58
  go_wp2
  go_loopw [28,7] (fun i _ wr=>i = .int .i64 0∧wr=W) (fun i _ _=>0-(intOf i).toNat)
  case atStart=>exact ⟨rfl,rfl⟩
  case round =>
   obtain ⟨rfl,rfl⟩:=hrel
   go_wp2
   exact ⟨rfl,_,results_none rfl _ _ _,rfl,_,HF1.out,HF2.out,HF3.out⟩
 ·obtain ⟨gk,rfl⟩:=hnil.2 a rfl
  by_cases hfc:sc=f
  ·subst hfc
   go_enter Tryz.func58,Tryz.ntmps58
   go_wp2
   go_loopw [28,7] (fun i _ wr=>i = .int .i64 0∧wr=W) (fun i _ _=>0-(intOf i).toNat)
   case atStart=>exact ⟨rfl,rfl⟩
   case round =>
    obtain ⟨rfl,rfl⟩:=hrel
    go_wp2
    exact ⟨rfl,_,results_none rfl _ _ _,rfl,_,HF1.out,HF2.out,HF3.out⟩
  ·have hfc':f<sc:=by omega
   go_enter Tryz.func58,Tryz.ntmps58
   go_wp2
   go_loopw [28,7] (fun i _ wr=>i = .int .i64 0∧wr=W) (fun i _ _=>0-(intOf i).toNat)
   case atStart=>exact ⟨rfl,rfl⟩
   case round =>
    obtain ⟨rfl,rfl⟩:=hrel
    go_wp2
    exact ⟨rfl,_,results_none rfl _ _ _,rfl,_,HF1.out,HF2.out,HF3.out⟩
def popA (st:StM) (ms:List Int) (f:Nat):StM:={ foldA st (st.saved.drop f) with saved:=st.saved.take f,marks:=ms,why:=List.replicate st.D.length 0 }
theorem back_all [Gh] {W:World} {p:Nat} {st:StM} {sl:Sl} (h:Sto W p st sl) (hz:Sz st) (ms:List Int) (f:Nat) (hm:st.marks=ms++[(f:Int)]) (hf:f≤st.saved.length) (hs:st.saved.length≤100000) (hval:∀ t∈st.saved.drop f,0≤t.1∧t.1<st.D.length) (he : -500000≤st.e) (he':st.e≤500000) :
  Calls Tryz.prog 58 #[ptr p,.func (.func 52) #[ptr p] #[]] W fun e w'=>e = .returned (.tuple #[])∧∃ sl',Sto w' p { foldA st (st.saved.drop f) with saved:=st.saved.take f,marks:=ms } sl'∧Up (XS p sl) (XS p sl') W∧Kept (XS p sl) W w':=by
 rcases Nat.lt_or_ge f st.saved.length with h1 | h1
 ·exact back_d h hz ms f hm h1 hs hval he he'
 ·have e:f=st.saved.length:=by omega
  have k:=back_0 h hz ms f hm e
  rw [List.drop_of_length_le (by omega),List.take_of_length_le (by omega)]
  exact k
theorem pop_n [Gh] {W:World} {p:Nat} {st:StM} {sl:Sl} (h:Sto W p st sl) (hz:Sz st) (ms:List Int) (f:Nat) (hm:st.marks=ms++[(f:Int)]) (hf:f≤st.saved.length) (hs:st.saved.length≤100000) (hval:∀ t∈st.saved.drop f,0≤t.1∧t.1<st.D.length) (hn0:0<st.D.length) (he : -500000≤st.e) (he':st.e≤500000) :
  Calls Tryz.prog 18 #[ptr p] W fun e w'=>e = .returned (.int .i64 0)∧∃ sl',Sto w' p (popA st ms f) sl'∧Up (XS p sl) (XS p sl') W∧Kept (XS p sl) W w':=by
 have kd:=depth_any h hz
 have kb:=back_all h hz ms f hm hf hs hval he he'
 have hml:st.marks.length≠0:=by rw [hm];simp
 have HFL:Hid _:=foldA_len st (st.saved.drop f)
 have hlw:(foldA st (st.saved.drop f)).why.length=st.D.length:=by rw [HFL.out.2.2.2.1];exact h.lw
 clear h hm hf hs hval he he'
 generalize hmm:st.marks.length=m at *
 have hne:((m:Int)==0)=false:=by simp;omega
 clear hml hmm
 go_enter Tryz.func18,Tryz.ntmps18
 go_wp2_with fail
 refine kd.mono ?_
 clear kd
 rintro e wt ⟨rfl,hwt⟩
 rw [hwt]
 clear hwt wt
 go_wp2_with fail
 refine kb.mono ?_
 clear kb
 rintro e w1 ⟨rfl,sl1,hs1,hu1,hk1⟩
 obtain ⟨n,k,mm,sa,sc,ma,mc,ia,ic,da,dc,wa,wc,rfl,HL⟩:=hs1.look
 have hwl:0<({ foldA st (st.saved.drop f) with saved:=st.saved.take f,marks:=ms }:StM).why.length:=by show 0<(foldA st (st.saved.drop f)).why.length;omega
 obtain ⟨gw,cap,e1,hgw,hle,hcm,_,_⟩:=hs1.why.at (i:=0) (c:=[.int .i64 ((foldA st (st.saved.drop f)).why.getD 0 0)]) (by rw [ivs_get];show ((foldA st (st.saved.drop f)).why[0]?).map _=_;rw [List.getElem?_eq_getElem hwl];simp [List.getD,hwl])
 injection e1 with e1 e2 e3
 subst e1 e3
 rw [ivs_len] at e2
 have hnn:n=(foldA st (st.saved.drop f)).why.length:=e2
 clear e2
 have hcl:=hs1.clear_why (g:=gw) (cap:=wc) (n:=n) rfl
 have hX:XS p ⟨.slice sa k sc,.slice ma mm mc,.slice ia n ic,.slice da n dc,.slice (some ⟨gw,0,none⟩) n wc⟩ gw:=.inr (.inr (.inr (.inr (.inr (.inl rfl)))))
 have hthr:∀ i,i<n→(w1.cell? ⟨gw,0+i,none⟩).isSome=true∧w1.frozen? ⟨gw,0+i,none⟩=false:=by
  intro i hi
  rw [Nat.zero_add]
  have hi':i<(foldA st (st.saved.drop f)).why.length:=by omega
  obtain ⟨g,cp,q1,_,_,_,q5,q6⟩:=hs1.why.at (i:=i) (c:=[.int .i64 ((foldA st (st.saved.drop f)).why.getD i 0)]) (by rw [ivs_get];show ((foldA st (st.saved.drop f)).why[i]?).map _=_;rw [List.getElem?_eq_getElem hi'];simp [List.getD,hi'])
  injection q1 with q1 _ _
  injection q1 with q1
  injection q1 with q1 _ _
  subst q1
  rw [Nat.mul_one] at q5 q6
  exact ⟨by rw [rng_one q5];rfl,there_one q6 (by decide)⟩
 have hclr:∀ ty,(Builtin.clear_ #[63] ty #[.slice (some ⟨gw,0,none⟩) n wc]).run Tryz.prog w1 = .ok (.tuple #[]) (w1.setCells gw 0 (List.replicate n (.int .i64 0))):=fun ty=>Lib.run_clear_slice w1 63 3 ty (.int .i64 0) Tryz.underlying63 (fun w=>Tryz.zeroValue3 w) rfl rfl gw 0 n wc (by omega) (fun i hi=>(hthr i hi).1) (fun i hi=>(hthr i hi).2)
 have HC:Hid (Sto (w1.setCells gw 0 (List.replicate n (.int .i64 0))) p (popA st ms f) ⟨.slice sa k sc,.slice ma mm mc,.slice ia n ic,.slice da n dc,.slice (some ⟨gw,0,none⟩) n wc⟩):=by
  have e9:({ foldA st (st.saved.drop f) with saved:=st.saved.take f,marks:=ms }:StM).why.length=n:=hnn.symm
  rw [e9] at hcl
  have e8:n=st.D.length:=by rw [hnn,hlw]
  rw [Hid,popA,←e8]
  exact hcl
 have HU:Hid _:=hu1
 have HK:Hid (Kept (XS p sl) W (w1.setCells gw 0 (List.replicate n (.int .i64 0)))):=hk1.trans (Kept.setCells hX _ 0 (Kept.refl _ w1)) hu1
 obtain ⟨z0,z1,z2,z3,z4,z5,zf⟩:=hs1.cells
 simp only at z5
 obtain ⟨RR,hRR⟩:∃ q,List.replicate n (Value.int .i64 0)=q:=⟨_,rfl⟩
 rw [hRR] at HC HK
 simp only [hRR] at hclr
 clear hcl hthr hX hs1 hu1 hk1 hnn hlw hRR z0 z1 z2 z3 z4 zf hwl hgw hle hcm
 go_wp2
 go_ret
 exact ⟨rfl,_,HC.out,HU.out,HK.out⟩
theorem pop_z [Gh] {W:World} {p:Nat} {st:StM} {sl:Sl} (h:Sto W p st sl) (hz:Sz st) (ms:List Int) (f:Nat) (hm:st.marks=ms++[(f:Int)]) (hf:f≤st.saved.length) (hs:st.saved.length≤100000) (hval:∀ t∈st.saved.drop f,0≤t.1∧t.1<st.D.length) (hn0:st.D.length=0) (he : -500000≤st.e) (he':st.e≤500000) :
  Calls Tryz.prog 18 #[ptr p] W fun e w'=>e = .returned (.int .i64 0)∧∃ sl',Sto w' p (popA st ms f) sl'∧Up (XS p sl) (XS p sl') W∧Kept (XS p sl) W w':=by
 have kd:=depth_any h hz
 have kb:=back_all h hz ms f hm hf hs hval he he'
 have hml:st.marks.length≠0:=by rw [hm];simp
 have HFL:Hid _:=foldA_len st (st.saved.drop f)
 have hlw:(foldA st (st.saved.drop f)).why.length=st.D.length:=by rw [HFL.out.2.2.2.1];exact h.lw
 clear h hm hf hs hval he he'
 generalize hmm:st.marks.length=m at *
 have hne:((m:Int)==0)=false:=by simp;omega
 clear hml hmm
 go_enter Tryz.func18,Tryz.ntmps18
 go_wp2_with fail
 refine kd.mono ?_
 clear kd
 rintro e wt ⟨rfl,hwt⟩
 rw [hwt]
 clear hwt wt
 go_wp2_with fail
 refine kb.mono ?_
 clear kb
 rintro e w1 ⟨rfl,sl1,hs1,hu1,hk1⟩
 obtain ⟨n,k,mm,sa,sc,ma,mc,ia,ic,da,dc,wa,wc,rfl,HL⟩:=hs1.look
 have hn:n=0:=by rw [←HL.out.1];show (foldA st (st.saved.drop f)).D.length=0;rw [HFL.out.1];exact hn0
 subst hn
 have hclr:∀ ty w,(Builtin.clear_ #[63] ty #[.slice wa 0 wc]).run Tryz.prog w = .ok (.tuple #[]) w:=fun ty w=>clear0 w 63 3 ty Tryz.underlying63 _ (fun w=>Tryz.zeroValue3 w) wa wc
 have HC:Hid (Sto w1 p (popA st ms f) ⟨.slice sa k sc,.slice ma mm mc,.slice ia 0 ic,.slice da 0 dc,.slice wa 0 wc⟩):=by
  have e9:(foldA st (st.saved.drop f)).why=List.replicate st.D.length 0:=by
   rw [hn0] at hlw ⊢
   exact List.eq_nil_of_length_eq_zero hlw
  rw [Hid,popA,←e9]
  exact hs1
 have HU:Hid _:=hu1
 have HK:Hid (Kept (XS p sl) W w1):=hk1
 obtain ⟨z0,z1,z2,z3,z4,z5,zf⟩:=hs1.cells
 simp only at z5
 clear hs1 hu1 hk1 hlw z0 z1 z2 z3 z4 zf
 go_wp2
 go_ret
 exact ⟨rfl,_,HC.out,HU.out,HK.out⟩
theorem pop_d [Gh] {W:World} {p:Nat} {st:StM} {sl:Sl} (h:Sto W p st sl) (hz:Sz st) (ms:List Int) (f:Nat) (hm:st.marks=ms++[(f:Int)]) (hf:f≤st.saved.length) (hs:st.saved.length≤100000) (hval:∀ t∈st.saved.drop f,0≤t.1∧t.1<st.D.length) (he : -500000≤st.e) (he':st.e≤500000) :
  Calls Tryz.prog 18 #[ptr p] W fun e w'=>e = .returned (.int .i64 0)∧∃ sl',Sto w' p (popA st ms f) sl'∧Up (XS p sl) (XS p sl') W∧Kept (XS p sl) W w':=by
 rcases Nat.eq_zero_or_pos st.D.length with h0 | h0
 ·exact pop_z h hz ms f hm hf hs hval h0 he he'
 ·exact pop_n h hz ms f hm hf hs hval h0 he he'
theorem pop_no [Gh] {W:World} {p:Nat} {st:StM} {sl:Sl} (h:Sto W p st sl) (hz:Sz st) (hm:st.marks=[]) :
  Calls Tryz.prog 18 #[ptr p] W fun e w'=>e = .returned (.int .i64 6)∧w'=W:=by
 have kd:=depth_any h hz
 rw [hm] at kd
 clear h
 go_enter Tryz.func18,Tryz.ntmps18
 go_wp2_with fail
 refine kd.mono ?_
 clear kd
 rintro e wt ⟨rfl,hwt⟩
 rw [hwt]
 clear hwt wt
 go_wp2
 go_ret
 exact ⟨rfl,rfl⟩
end Go.Proofs.YtghnfnieppfhgaaGreat
