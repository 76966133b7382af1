/- What is proved here: the only value of a domain, with what it is: Only, Value, Get; values that are alike. What is proved here: Value of a store; what is not there. -/
import Derived.Test.YtghnfnieppfhgaaGreatPj
import Derived.Test.YtghnfnieppfhgaaGreatMhj
import Derived.Test.YtghnfnieppfhgaaGreatKgj
import Derived.Test.YtghnfnieppfhgaaGreatMgj
set_option linter.unusedVariables false
set_option linter.unusedSimpArgs false
set_option maxRecDepth 100000
set_option maxHeartbeats 4000000
namespace Go.Proofs.YtghnfnieppfhgaaGreat
open Go.RowKit Go.Shelf
theorem own_si {w:World} {N:Nat} {s:Value} {n:Nat} {l:List Int} (h:w.ownsRow N 2 1 s n (St.intv l)) (hn:l.length=n):St.Si w s l:=by
 subst hn
 obtain ⟨h1,h2⟩:=h
 rcases h2 with ⟨rfl,h3⟩ | ⟨g,cap,cur,rfl,hbg,hh,hnc,hcm,hcs,htk⟩
 ·exact ⟨none,0,by rw [h3],fun h0=>by omega⟩
 ·refine ⟨_,cap,rfl,fun h0=>⟨g,0,rfl,(Array.getElem?_eq_some_iff.1 hh).1,fun i hi=>?_⟩⟩
  rw [Nat.zero_add,cell_of_row w g i _ _ _ hh]
  have h5:cur.toList[i]? = (St.intv l)[i]?:=by rw [←htk,List.getElem?_take,if_pos (by omega)]
  have h6:(St.intv l)[i]? = some (.int .i64 (St.nth l i)):=by
   unfold St.intv St.nth
   rw [List.getElem?_map,List.getElem?_eq_getElem hi]
   simp [List.getD,List.getElem?_eq_getElem hi]
  rw [←Array.getElem?_toList,h5,h6]
theorem only_x {X:Nat→Prop} {W:World} {c:List Value} {d:MD} (h:Dc X W c d) (hf:Dm.FitsR d.r):Calls Tryz.prog 70 #[.agg c.toArray] W fun e w'=>∃ (p:Option Addr) (l k:Nat),e = .returned (.tuple #[.agg #[.bool (vlM d).1,.int .i64 (vlM d).2.1,.slice p l k],.bool (onlyA d)])∧(St.Si w' (.slice p l k) (vlM d).2.2∧St.Nt w' (.slice p l k))∧Below W.heap.size W w':=by
 cases hs:d.set
 ·refine (only_w h hs hf).mono fun e w' ⟨h1,h2⟩=>?_
  have e1:onlyA d=(onlyW d).2:=by unfold onlyA;rw [hs];rfl
  have e2:vlM d=(false,(onlyW d).1,[]):=by
   unfold vlM
   rw [e1,hs]
   unfold onlyW
   split<;>rfl
  rw [e1,e2]
  exact ⟨none,0,0,h1,⟨si_nil _,St.nt_nil _⟩,h2⟩
 ·refine (only_s h hs).mono fun e w' ⟨sp,sn,sc,h1,h2,h3,h4⟩=>?_
  have e1:onlyA d=St.fixB (sdM d):=by unfold onlyA;rw [hs];rfl
  have e2:vlM d=(St.fixB (sdM d),0,St.fixL (sdM d)):=by
   unfold vlM
   rw [e1,hs]
   cases hb:St.fixB (sdM d)
   ·unfold St.fixL;rw [hb];rfl
   ·rfl
  rw [e1,e2]
  exact ⟨sp,sn,sc,h1,⟨own_si h2 h3,St.own_nt h2⟩,h4⟩
theorem sameval_x {W:World} {b:Bool} {n:Int} {p1 p2:Option Addr} {l1 k1 l2 k2:Nat} {S:List Int} (h1:St.Si W (.slice p1 l1 k1) S) (h2:St.Si W (.slice p2 l2 k2) S) (hz:S.length*8≤140737488351232) :
  Calls Tryz.prog 45 #[.agg #[.bool b,.int .i64 n,.slice p1 l1 k1],.agg #[.bool b,.int .i64 n,.slice p2 l2 k2]] W fun e w'=>e = .returned (.bool true)∧Below W.heap.size W w':=by
 obtain ⟨N,hN⟩:∃ q,W.heap.size=q:=⟨_,rfl⟩
 obtain ⟨W0,hW0⟩:∃ Q,(W.alloc (Obj.cells #[.bool b,.int .i64 n,.slice p1 l1 k1] 57)).alloc (Obj.cells #[.bool b,.int .i64 n,.slice p2 l2 k2] 57)=Q:=⟨_,rfl⟩
 have hb0:Below W.heap.size W W0:=by rw [←hW0];exact ((Below.refl _ W).alloc (Nat.le_refl _) _).alloc (by simp) _
 have HX:Hid (Bx W0 N #[.bool b,.int .i64 n,.slice p1 l1 k1] 57):=by rw [←hW0];exact (Bx.new' hN _ _).alloc _
 have HY:Hid (Bx W0 (N+1) #[.bool b,.int .i64 n,.slice p2 l2 k2] 57):=by rw [←hW0];exact Bx.new' (by simp [hN]) _ _
 have ks:=St.refsame_any _ _ S S W0 (h1.below hb0) (h2.below hb0) hz
 rw [decide_eq_true rfl] at ks
 have HB0:Hid (Below W.heap.size W W0):=hb0
 have HW0:Hid _:=hW0
 have HN:Hid _:=hN
 obtain ⟨z0,z1,z2⟩:=HX.out.three
 obtain ⟨u0,u1,u2⟩:=HY.out.three
 clear h1 h2 hW0 hN hb0
 go_enter Tryz.func45,Tryz.ntmps45
 go_upto_region 1 with (fail)
 (try rw [HW0.out]);(try rw [HN.out])
 go_wp2_with fail
 refine ks.mono ?_
 clear ks z0 z1 z2 u0 u1 u2
 rintro e w1 ⟨rfl,hb1⟩
 go_wp2
 go_ret
 exact ⟨rfl,HB0.out.trans (hb1.mono HB0.out.size)⟩
theorem get_x [Gh] {W:World} {p:Nat} {st:StM} {sl:Sl} (h:Sto W p st sl) (hz:Sz st) (v:Nat) {o:MD} (hv:st.D[v]? = some o) (hH:Held o) :
  Calls Tryz.prog 36 #[ptr p,.int .i64 v] W fun e w'=>∃ q:List Value,e = .returned (.tuple #[.agg q.toArray,.int .i64 0])∧(∀ Z:Nat→Prop,(∀ b,Z b→b<W.heap.size)→Du Z w' q o)∧Below W.heap.size W w':=by
 have hvl:v<st.D.length:=(List.getElem?_eq_some_iff.1 hv).1
 obtain ⟨W0,hW0⟩:∃ Q,W.alloc (Obj.cells #[.bool false,.slice none 0 0,.slice none 0 0,.slice none 0 0,.int .i64 0,.int .i64 0] 37)=Q:=⟨_,rfl⟩
 have hb0:Below W.heap.size W W0:=by rw [←hW0];exact (Below.refl _ W).alloc (Nat.le_refl _) _
 obtain ⟨bv,hbv⟩:∃ q,W.heap.size=q:=⟨_,rfl⟩
 have HBV:Hid (Bx W0 bv #[.bool false,.slice none 0 0,.slice none 0 0,.slice none 0 0,.int .i64 0,.int .i64 0] 37):=by rw [←hW0];exact Bx.new' hbv _ _
 have hst:=h.below hb0
 obtain ⟨n,k,m,sa,sc,ma,mc,ia,ic,da,dc,wa,wc,rfl,HL⟩:=h.look
 obtain ⟨gd,cap,c',e1,hgd,hcap,hcm,hr,hth,hco⟩:=hst.dom_at hv
 injection e1 with e1 e2 e3
 subst e1 e3
 clear e2
 have hvn:v<n:=by rw [←HL.out.1];exact hvl
 have kc:=copy_u hco hH.n (by have:=hH.lo;omega) (by have:=hH.up;omega)
 obtain ⟨b',ra',n0',rc',a1',n1',c1',a2',n2',c2',x',y',rfl,HE',H1',H2',H3'⟩:=hco.look
 have kt:=there_any hst hz v
 have htb:thereB st v=true:=by unfold thereB;simp;exact hvl
 rw [htb] at kt
 obtain ⟨z0,z1,z2,z3,z4,z5,zf⟩:=hst.cells
 simp only at z3
 obtain ⟨u0,u1,u2,u3,u4,u5⟩:=rng6 hr
 have hcapn:n≤dc:=by rw [←HL.out.1];exact hcap
 have hvi:(v:Int)<n:=by omega
 have HW0:Hid _:=hW0
 have HBW:Hid (W.heap.size=bv):=hbv
 have HB0:Hid (Below W.heap.size W W0):=hb0
 clear hW0 hbv hb0 h hst hv hr hth hco htb z0 z1 z2 z4 z5 zf hgd hcap hvl H1' H2' H3' HE' hz hH
 go_enter Tryz.func36,Tryz.ntmps36
 go_wp2_with fail
 rw [HW0.out]
 refine kt.mono ?_
 clear kt
 rintro e wt ⟨rfl,hwt⟩
 rw [hwt]
 clear hwt wt
 go_wp2_with fail
 (try rw [HW0.out])
 (try rw [HBW.out])
 refine kc.mono ?_
 clear kc
 rintro e w1 ⟨q,rfl,hq,hb1⟩
 have HQ:Hid _:=hq
 have HB1:Hid (Bx w1 bv #[.bool false,.slice none 0 0,.slice none 0 0,.slice none 0 0,.int .i64 0,.int .i64 0] 37):=HBV.out.below hb1
 have HBb:Hid (Below W.heap.size W w1):=HB0.out.trans (hb1.mono HB0.out.size)
 have HDc:Hid (Du (fun b=>b<W0.heap.size) w1 q o):=hq _ (fun b q=>q)
 clear hb1 z3 u0 u1 u2 u3 u4 u5 hq
 go_wp2_with (with_reducible refine stD rfl (.tmp 4) (.tmp 23) rfl bv q (by with_unfolding_all rfl) (by with_unfolding_all rfl) HB1.out rfl HDc.out.len HDc.out.one ?_)
 refine ⟨rfl,_,res_ct rfl _ (HB1.out.setRow _) (by with_unfolding_all rfl) rfl Tryz.underlying37 (by rw [Tryz.sizeDom];simp [HDc.out.len]) (v:=.int .i64 0) (by with_unfolding_all rfl),q,rfl,fun Z hZ=>?_,below_row HBb.out (by have:=HBW.out;omega) _⟩
 refine (HDc.out.kept (w':=w1.setRow bv q.toArray) ⟨rfl,rfl,rfl,by simp [World.setRow],fun b _ hb=>setRow_other _ _ b _ (fun e=>hb (by rw [e];exact HBV.out.lt))⟩).up (fun b hb=>.inl (Nat.lt_of_lt_of_le (hZ b hb) HB0.out.size))
theorem vl_or (d:MD):(vlM d).2.1=0∨(vlM d).2.2=[]:=by
 unfold vlM
 split
 ·split
  ·exact .inl rfl
  ·exact .inr rfl
 ·exact .inl rfl
theorem si_row {w:World} {g:Nat} {b0 b1:Bool} {n:Int} {a0 a1:Option Addr} {n0 n1 c0 c1 l k:Nat} {p:Option Addr} {S:List Int} (hB:Bx w g #[.bool b0,.int .i64 0,.slice a0 n0 c0] 57) (hs:St.Si w (.slice p l k) S) (hn:n=0∨S=[]):St.Si (w.setRow g #[.bool b1,.int .i64 n,.slice a1 n1 c1]) (.slice p l k) S:=by
 rcases hn with rfl | rfl
 ·exact si_set3 hB hs (hB.setRow _) (fun b hb=>setRow_other _ _ b _ hb) (by simp [World.setRow])
 ·obtain ⟨a,c,e,_⟩:=hs
  exact ⟨a,c,e,fun h=>absurd h (by decide)⟩
theorem value_x [Gh] {W:World} {p:Nat} {st:StM} {sl:Sl} (h:Sto W p st sl) (hz:Sz st) (v:Nat) {o:MD} (hv:st.D[v]? = some o) (hf:Dm.FitsR o.r) :
  Calls Tryz.prog 35 #[ptr p,.int .i64 v] W fun e w'=>∃ (pp:Option Addr) (ll kk:Nat),e = .returned (.tuple #[.agg #[.bool (vlM o).1,.int .i64 (vlM o).2.1,.slice pp ll kk],.bool (onlyA o)])∧St.Si w' (.slice pp ll kk) (vlM o).2.2∧Below W.heap.size W w':=by
 have hvl:v<st.D.length:=(List.getElem?_eq_some_iff.1 hv).1
 obtain ⟨W0,hW0⟩:∃ Q,W.alloc (Obj.cells #[.bool false,.int .i64 0,.slice none 0 0] 57)=Q:=⟨_,rfl⟩
 have hb0:Below W.heap.size W W0:=by rw [←hW0];exact (Below.refl _ W).alloc (Nat.le_refl _) _
 obtain ⟨bv,hbv⟩:∃ q,W.heap.size=q:=⟨_,rfl⟩
 have HBV:Hid (Bx W0 bv #[.bool false,.int .i64 0,.slice none 0 0] 57):=by rw [←hW0];exact Bx.new' hbv _ _
 have h0:=h.below hb0
 obtain ⟨n,k,m,sa,sc,ma,mc,ia,ic,da,dc,wa,wc,rfl,HL⟩:=h.look
 obtain ⟨gd,cap,c',e1,hgd,hcap,hcm,hr,hth,hco⟩:=h0.dom_at hv
 injection e1 with e1 e2 e3
 subst e1 e3
 clear e2
 have hvn:v<n:=by rw [←HL.out.1];exact hvl
 obtain ⟨b',ra',n0',rc',a1',n1',c1',a2',n2',c2',x',y',rfl,HE',H1',H2',H3'⟩:=hco.look
 have kt:=there_any h0 hz v
 have htb:thereB st v=true:=by unfold thereB;simp;exact hvl
 rw [htb] at kt
 have ko:=only_x hco hf
 have HVO:=hid (vl_or o)
 obtain ⟨z0,z1,z2,z3,z4,z5,zf⟩:=h0.cells
 simp only at z3
 obtain ⟨u0,u1,u2,u3,u4,u5⟩:=rng6 hr
 have hcapn:n≤dc:=by rw [←HL.out.1];exact hcap
 have hvi:(v:Int)<n:=by omega
 have HW0:Hid _:=hW0
 have HBW:Hid (W.heap.size=bv):=hbv
 have HB0:Hid (Below W.heap.size W W0):=hb0
 clear hW0 hbv hb0 h h0 hv hf hr hth hco htb z0 z1 z2 z4 z5 zf hgd hcap hvl H1' H2' H3' HE' hz
 generalize vlM o=vl at *
 generalize onlyA o=o2 at *
 obtain ⟨v1,v2,v3⟩:=vl
 go_enter Tryz.func35,Tryz.ntmps35
 go_wp2_with fail
 rw [HW0.out]
 refine kt.mono ?_
 clear kt
 rintro e wt ⟨rfl,hwt⟩
 rw [hwt]
 clear hwt wt
 go_wp2_with fail
 (try rw [HW0.out])
 (try rw [HBW.out])
 refine ko.mono ?_
 clear ko
 rintro e w1 ⟨pp,ll,kk,rfl,⟨hsi,_⟩,hb1⟩
 have HB1:Hid (Bx w1 bv #[.bool false,.int .i64 0,.slice none 0 0] 57):=HBV.out.below hb1
 have HBb:Hid (Below W.heap.size W w1):=HB0.out.trans (hb1.mono HB0.out.size)
 have HSI:Hid (St.Si w1 (.slice pp ll kk) v3):=hsi
 clear hsi
 clear hb1 z3 u0 u1 u2 u3 u4 u5
 go_wp2_with (with_reducible refine stV rfl (.tmp 4) (.tmp 19) rfl bv v1 v2 pp ll kk (by with_unfolding_all rfl) (by with_unfolding_all rfl) HB1.out rfl ?_)
 exact ⟨rfl,_,res_ct rfl _ (HB1.out.setRow _) (by with_unfolding_all rfl) rfl Tryz.underlying57 (by rw [Tryz.sizeVal];rfl) (v:=.bool o2) (by with_unfolding_all rfl),pp,ll,kk,rfl,si_row HB1.out HSI.out HVO.out,below_row HBb.out (by rw [HBW.out];exact Nat.le_refl _) _⟩
theorem value_out [Gh] {W:World} {p:Nat} {st:StM} {sl:Sl} (h:Sto W p st sl) (hz:Sz st) (v:Int) (hv:thereB st v=false) :
  Calls Tryz.prog 35 #[ptr p,.int .i64 v] W fun e w'=>e = .returned (.tuple #[.agg #[.bool false,.int .i64 0,.slice none 0 0],.bool false])∧Below W.heap.size W w':=by
 obtain ⟨W0,hW0⟩:∃ Q,W.alloc (Obj.cells #[.bool false,.int .i64 0,.slice none 0 0] 57)=Q:=⟨_,rfl⟩
 have hb0:Below W.heap.size W W0:=by rw [←hW0];exact (Below.refl _ W).alloc (Nat.le_refl _) _
 have HBV:Hid (Bx W0 W.heap.size #[.bool false,.int .i64 0,.slice none 0 0] 57):=by rw [←hW0];exact Bx.new _ _ _
 have kt:=there_any (h.below hb0) hz v
 rw [hv] at kt
 have HB0:Hid (Below W.heap.size W W0):=hb0
 have HW0:Hid _:=hW0
 clear h hv hz hb0 hW0
 go_enter Tryz.func35,Tryz.ntmps35
 go_wp2_with fail
 rw [HW0.out]
 refine kt.mono ?_
 clear kt
 rintro e wt ⟨rfl,hwt⟩
 rw [hwt]
 clear hwt wt
 go_wp2_with (with_reducible refine stV rfl (.tmp 4) (.tmp 10) rfl W.heap.size false 0 none 0 0 (by with_unfolding_all rfl) (by with_unfolding_all rfl) HBV.out rfl ?_)
 all_goals exact ⟨rfl,_,res_ct rfl _ (HBV.out.setRow _) (by with_unfolding_all rfl) rfl Tryz.underlying57 (by rw [Tryz.sizeVal];rfl) (v:=.bool false) (by with_unfolding_all rfl),rfl,below_row HB0.out (Nat.le_refl _) _⟩
theorem get_out [Gh] {W:World} {p:Nat} {st:StM} {sl:Sl} (h:Sto W p st sl) (hz:Sz st) (v:Int) (hv:thereB st v=false) :
  Calls Tryz.prog 36 #[ptr p,.int .i64 v] W fun e w'=>e = .returned (.tuple #[.agg #[.bool false,.slice none 0 0,.slice none 0 0,.slice none 0 0,.int .i64 0,.int .i64 0],.int .i64 1])∧Below W.heap.size W w':=by
 obtain ⟨W0,hW0⟩:∃ Q,W.alloc (Obj.cells #[.bool false,.slice none 0 0,.slice none 0 0,.slice none 0 0,.int .i64 0,.int .i64 0] 37)=Q:=⟨_,rfl⟩
 have hb0:Below W.heap.size W W0:=by rw [←hW0];exact (Below.refl _ W).alloc (Nat.le_refl _) _
 have HBV:Hid (Bx W0 W.heap.size #[.bool false,.slice none 0 0,.slice none 0 0,.slice none 0 0,.int .i64 0,.int .i64 0] 37):=by rw [←hW0];exact Bx.new _ _ _
 have kt:=there_any (h.below hb0) hz v
 rw [hv] at kt
 have HB0:Hid (Below W.heap.size W W0):=hb0
 have HW0:Hid _:=hW0
 clear h hv hz hb0 hW0
 go_enter Tryz.func36,Tryz.ntmps36
 go_wp2_with fail
 rw [HW0.out]
 refine kt.mono ?_
 clear kt
 rintro e wt ⟨rfl,hwt⟩
 rw [hwt]
 clear hwt wt
 go_wp2_with (with_reducible refine stD rfl (.tmp 4) (.tmp 15) rfl W.heap.size [.bool false,.slice none 0 0,.slice none 0 0,.slice none 0 0,.int .i64 0,.int .i64 0] (by with_unfolding_all rfl) (by with_unfolding_all rfl) HBV.out rfl rfl (six_one _ _ _ _ _ _ _ _ _ _ _ _) ?_)
 all_goals exact ⟨rfl,_,res_ct rfl _ (HBV.out.setRow _) (by with_unfolding_all rfl) rfl Tryz.underlying37 (by rw [Tryz.sizeDom];rfl) (v:=.int .i64 1) (by with_unfolding_all rfl),rfl,below_row HB0.out (Nat.le_refl _) _⟩
end Go.Proofs.YtghnfnieppfhgaaGreat
