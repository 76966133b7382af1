/- What is proved here: Narrow that refuses, and Narrow that changes nothing. What is proved here: Narrow by a domain that can not be, or of another kind. -/
import Derived.Test.YtghnfnieppfhgaaGreatAa
import Derived.Test.YtghnfnieppfhgaaGreatMbj
set_option linter.unusedVariables false
set_option linter.unusedSimpArgs false
set_option maxRecDepth 100000
set_option maxHeartbeats 12000000
namespace Go.Proofs.YtghnfnieppfhgaaGreat
open Go.RowKit Go.Shelf
theorem narrow_out [Gh] {X:Nat→Prop} {W:World} {p:Nat} {st:StM} {sl:Sl} {c:List Value} {d:MD} (h:Sto W p st sl) (hc:Dc X W c d) (v:Int) (hv:thereB st v=false) (hz:Sz st) :
  Calls Tryz.prog 14 #[ptr p,.int .i64 v,.agg c.toArray] W fun e w'=>e = .returned (.tuple #[.int .i64 0,.int .i64 1])∧Below W.heap.size W w':=by
 obtain ⟨b,ra,n0,rc,a1,n1,c1,a2,n2,c2,x,y,rfl,HE,H1,H2,H3⟩:=hc.look
 obtain ⟨W0,hW0⟩:∃ Q,W.alloc (Obj.cells #[.bool b,.slice ra n0 rc,.slice a1 n1 c1,.slice a2 n2 c2,.int .i64 x,.int .i64 y] 37)=Q:=⟨_,rfl⟩
 have hb0:Below W.heap.size W W0:=by rw [←hW0];exact (Below.refl _ W).alloc (Nat.le_refl _) _
 have kt:=there_any (h.below hb0) hz v
 rw [hv] at kt
 have HB0:Hid (Below W.heap.size W W0):=hb0
 have HW0:Hid _:=hW0
 clear h hc hv hz hb0 hW0 HE H1 H2 H3
 go_enter Tryz.func14,Tryz.ntmps14
 go_wp2_with fail
 rw [HW0.out]
 refine kt.mono ?_
 clear kt
 rintro e wt ⟨rfl,hwt⟩
 rw [hwt]
 clear hwt wt
 go_wp2
 all_goals
  go_ret2
  exact ⟨rfl,HB0.out⟩
theorem narrow_failed_b [Gh] (β:Bool) {W:World} {p:Nat} {st:StM} {sl:Sl} {c:List Value} {d o:MD} (h:Sto W p st sl) {X0:Nat→Prop} (hc:Dc X0 W c d) (v:Nat) (hv:st.D[v]? = some o) (hs:d.set=β) (hs':o.set=β) (hf:Dm.FitsR d.r) (hR:rightM d=true) (he:0<st.e) (hz:Sz st) :
  Calls Tryz.prog 14 #[ptr p,.int .i64 v,.agg c.toArray] W fun e w'=>e = .returned (.tuple #[.int .i64 0,.int .i64 6])∧Below W.heap.size W w':=by
 have hvl:v<st.D.length:=(List.getElem?_eq_some_iff.1 hv).1
 obtain ⟨n,k,m,sa,sc,ma,mc,ia,ic,da,dc,wa,wc,rfl,HL⟩:=h.look
 obtain ⟨gd,cap,c',e1,hgd,hcap,hcm,hr,hth,hco⟩:=h.dom_at hv
 injection e1 with e1 e2 e3
 subst e1 e3
 clear e2
 have hvn:v<n:=by rw [←HL.out.1];exact hvl
 have hn1:n≤1000:=by rw [←HL.out.1];exact hz.1
 obtain ⟨b,ra,n0,rc,a1,n1,c1,a2,n2,c2,x,y,ec,HE,H1,H2,H3⟩:=hc.look
 obtain ⟨b',ra',n0',rc',a1',n1',c1',a2',n2',c2',x',y',ec',HE',H1',H2',H3'⟩:=hco.look
 subst ec ec'
 obtain rfl:β=b:=by rw [←HE.out.1,hs]
 obtain rfl:β=b':=by rw [←HE'.out.1,hs']
 obtain ⟨bw,hbw⟩:∃ q,W.heap.size=q:=⟨_,rfl⟩
 obtain ⟨W0,hW0⟩:∃ Q,W.alloc (Obj.cells #[.bool β,.slice ra n0 rc,.slice a1 n1 c1,.slice a2 n2 c2,.int .i64 x,.int .i64 y] 37)=Q:=⟨_,rfl⟩
 have hb0:Below W.heap.size W W0:=by rw [←hW0];exact (Below.refl _ W).alloc (Nat.le_refl _) _
 have HBX:Hid (Bx W0 bw #[.bool β,.slice ra n0 rc,.slice a1 n1 c1,.slice a2 n2 c2,.int .i64 x,.int .i64 y] 37):=by rw [←hW0];exact Bx.new' hbw _ _
 have HS:=hid (h.below hb0)
 have hgd0:gd<W0.heap.size:=Nat.lt_of_lt_of_le hgd hb0.size
 have HRG:Hid (∀ X,Below W0.heap.size W0 X→X.rangeAt gd (v*6) [.bool β,.slice ra' n0' rc',.slice a1' n1' c1',.slice a2' n2' c2',.int .i64 x',.int .i64 y']):=fun X hX j u hu=>(hX.cell (p:=⟨gd,v*6+j,none⟩) hgd0).trans ((hb0.cell (p:=⟨gd,v*6+j,none⟩) hgd).trans (hr j u hu))
 have HCD:=hid (hc.below hb0)
 have HCO:=hid (hco.below hb0)
 have KR:Hid (∀ X,Below W0.heap.size W0 X→Calls Tryz.prog 30 #[.agg #[.bool β,.slice ra n0 rc,.slice a1 n1 c1,.slice a2 n2 c2,.int .i64 x,.int .i64 y]] X fun e w'=>e = .returned (.bool true)∧Below X.heap.size X w'):=fun X hX=>by have:=right_d (HCD.out.below hX) hf;rw [hR] at this;exact this
 have kt:=there_any HS.out hz v
 have htb:thereB st v=true:=by unfold thereB;simp;exact hvl
 rw [htb] at kt
 have FS5:Hid (∀ X,Below W0.heap.size W0 X→X.cell? ⟨p,3,none⟩=some (.slice (some ⟨gd,0,none⟩) n dc)∧X.cell? ⟨gd,v*6,none⟩=some (.bool β)∧Bx X bw #[.bool β,.slice ra n0 rc,.slice a1 n1 c1,.slice a2 n2 c2,.int .i64 x,.int .i64 y] 37):=fun X hX=>⟨(HS.out.below hX).cells.2.2.2.1,(rng6 (HRG.out X hX)).1,HBX.out.below hX⟩
 have HE0:Hid (0<st.e):=he
 have HSD:Hid (d.set=β):=hs
 have HSO:Hid (o.set=β):=hs'
 have HFD:Hid (Dm.FitsR d.r):=hf
 have HZ:Hid (Sz st):=hz
 have HVO:Hid (st.D[v]? = some o):=hv
 have HVL:Hid (v<st.D.length):=hvl
 have HH:Hid (Sto W p st ⟨.slice sa k sc,.slice ma m mc,.slice ia n ic,.slice (some ⟨gd,0,none⟩) n dc,.slice wa n wc⟩):=h
 have HB00:Hid (Below W.heap.size W W0):=hb0
 have HB0:Hid (Below W0.heap.size W0 W0.drew):=(Below.refl _ _).drew
 have HW0:Hid _:=hW0
 have HBW:Hid (W.heap.size=bw):=hbw
 have HXL:Hid (∀ b,XS p ⟨.slice sa k sc,.slice ma m mc,.slice ia n ic,.slice (some ⟨gd,0,none⟩) n dc,.slice wa n wc⟩ b→b<bw):=by rw [Hid,←hbw];exact h.x_lt
 have hcapn:n≤dc:=by rw [←HL.out.1];exact hcap
 clear hW0 hbw hb0 h hc hco hz hr hth hgd hvl hs hs' hf hv he hR htb hcap H1 H2 H3 H1' H2' H3' HE HE'
 have hvi:(v:Int)<n:=by omega
 go_enter Tryz.func14,Tryz.ntmps14
 go_wp2_with fail
 rw [HW0.out]
 refine kt.mono ?_
 clear kt
 rintro e wt ⟨rfl,hwt⟩
 rw [hwt]
 clear hwt wt
 go_upto_region 5 with (fail)
 (try rw [HW0.out])
 (try rw [HBW.out])
 refine wp_region_held_drew (S:=fun X:World=>X.cell? ⟨p,3,none⟩=some (.slice (some ⟨gd,0,none⟩) n dc)∧X.cell? ⟨gd,v*6,none⟩=some (.bool β)∧Bx X bw #[.bool β,.slice ra n0 rc,.slice a1 n1 c1,.slice a2 n2 c2,.int .i64 x,.int .i64 y] 37) (by kernel_rfl) ((FS5.out _ HB0.out)) (fun hHeld=>?_)
 refine tkH 0 _ (v:=?_) hHeld ?_ ?_;rotate_left
 ·intro w hSw;obtain ⟨q3,qd,hN⟩:=hSw;obtain ⟨u0,u1,u2,u3,u4,u5⟩:=hN.six;go_simp<;>with_reducible rfl
 try simp only [Act.put,zS,eZ,eS]
 refine rdy 1 rfl fun K hK=>?_
 go_simp
 refine (KR.out _ HB0.out).mono ?_
 rintro e w1 ⟨rfl,hb⟩
 have HB1:=hid (HB0.out.trans (hb.mono HB0.out.size))
 clear hb
 clear hHeld;refine hK.out _ _ ((FS5.out _ HB1.out)) fun hHeld=>?_
 clear hK K
 try simp only [Act.put,zS,eZ,eS]
 refine tkI 2 rfl hHeld ?_
 try simp only [Act.put,zS,eZ,eS]
 refine tkI 3 rfl hHeld ?_
 try simp only [Act.put,zS,eZ,eS]
 refine tkI 4 rfl hHeld ?_
 try simp only [Act.put,zS,eZ,eS]
 refine tkH 5 _ (v:=?_) hHeld ?_ ?_;rotate_left
 ·intro w hSw;obtain ⟨q3,qd,hN⟩:=hSw;obtain ⟨u0,u1,u2,u3,u4,u5⟩:=hN.six;go_simp<;>with_reducible rfl
 try simp only [Act.put,zS,eZ,eS]
 refine tkI 6 rfl hHeld ?_
 try simp only [Act.put,zS,eZ,eS]
 refine tkI 7 rfl hHeld ?_
 try simp only [Act.put,zS,eZ,eS]
 refine tkI 8 rfl hHeld ?_
 try simp only [Act.put,zS,eZ,eS]
 refine tkH 9 _ (v:=?_) hHeld ?_ ?_;rotate_left
 ·intro w hSw;obtain ⟨q3,qd,hN⟩:=hSw;obtain ⟨u0,u1,u2,u3,u4,u5⟩:=hN.six;go_simp<;>with_reducible rfl
 try simp only [Act.put,zS,eZ,eS]
 refine tkI 10 rfl hHeld ?_
 try simp only [Act.put,zS,eZ,eS]
 refine tkH 11 _ (v:=?_) hHeld ?_ ?_;rotate_left
 ·intro w hSw;obtain ⟨q3,qd,hN⟩:=hSw;obtain ⟨u0,u1,u2,u3,u4,u5⟩:=hN.six;go_simp<;>with_reducible rfl
 try simp only [Act.put,zS,eZ,eS]
 refine tkI 12 rfl hHeld ?_
 try simp only [Act.put,zS,eZ,eS]
 refine tkH 13 _ (v:=?_) hHeld ?_ ?_;rotate_left
 ·intro w hSw;obtain ⟨q3,qd,hN⟩:=hSw;obtain ⟨u0,u1,u2,u3,u4,u5⟩:=hN.six;go_simp<;>with_reducible rfl
 try simp only [Act.put,zS,eZ,eS]
 refine tkI 14 rfl hHeld ?_
 try simp only [Act.put,zS,eZ,eS]
 refine tkI 15 rfl hHeld ?_
 try simp only [Act.put,zS,eZ,eS]
 refine tkI 16 rfl hHeld ?_
 try simp only [Act.put,zS,eZ,eS]
 refine wpAnyH_done (by kernel_rfl) ?_ _
 have z4:=(HS.out.below HB1.out)
 have kf:=failed_any z4
 have hd0:decide (0<st.e)=true:=by simpa using HE0.out
 rw [hd0] at kf
 clear hd0 z4
 go_wp2_with fail
 refine kf.mono ?_
 clear kf
 rintro e wt ⟨rfl,hwt⟩
 rw [hwt]
 clear hwt wt
 go_wp2
 all_goals
  go_ret2
  exact ⟨rfl,HB00.out.trans (HB1.out.mono HB00.out.size)⟩
theorem narrow_same_b [Gh] (β:Bool) {W:World} {p:Nat} {st:StM} {sl:Sl} {c:List Value} {d o:MD} (h:Sto W p st sl) {X0:Nat→Prop} (hc:Dc X0 W c d) (v:Nat) (hv:st.D[v]? = some o) (hs:d.set=β) (hs':o.set=β) (hf:Dm.FitsR d.r) (hf':Dm.FitsR o.r) (hfx:Dm.FitsR (bothA o d).r) (hR:rightM d=true) (he:st.e=0) (hz:Sz st)
  (hns:sameA o (bothA o d)=true) :
  Calls Tryz.prog 14 #[ptr p,.int .i64 v,.agg c.toArray] W fun e w'=>e = .returned (.tuple #[.int .i64 0,.int .i64 0])∧Below W.heap.size W w':=by
 have hvl:v<st.D.length:=(List.getElem?_eq_some_iff.1 hv).1
 obtain ⟨n,k,m,sa,sc,ma,mc,ia,ic,da,dc,wa,wc,rfl,HL⟩:=h.look
 obtain ⟨gd,cap,c',e1,hgd,hcap,hcm,hr,hth,hco⟩:=h.dom_at hv
 injection e1 with e1 e2 e3
 subst e1 e3
 clear e2
 have hvn:v<n:=by rw [←HL.out.1];exact hvl
 have hn1:n≤1000:=by rw [←HL.out.1];exact hz.1
 obtain ⟨b,ra,n0,rc,a1,n1,c1,a2,n2,c2,x,y,ec,HE,H1,H2,H3⟩:=hc.look
 obtain ⟨b',ra',n0',rc',a1',n1',c1',a2',n2',c2',x',y',ec',HE',H1',H2',H3'⟩:=hco.look
 subst ec ec'
 obtain rfl:β=b:=by rw [←HE.out.1,hs]
 obtain rfl:β=b':=by rw [←HE'.out.1,hs']
 obtain ⟨bw,hbw⟩:∃ q,W.heap.size=q:=⟨_,rfl⟩
 obtain ⟨W0,hW0⟩:∃ Q,W.alloc (Obj.cells #[.bool β,.slice ra n0 rc,.slice a1 n1 c1,.slice a2 n2 c2,.int .i64 x,.int .i64 y] 37)=Q:=⟨_,rfl⟩
 have hb0:Below W.heap.size W W0:=by rw [←hW0];exact (Below.refl _ W).alloc (Nat.le_refl _) _
 have HBX:Hid (Bx W0 bw #[.bool β,.slice ra n0 rc,.slice a1 n1 c1,.slice a2 n2 c2,.int .i64 x,.int .i64 y] 37):=by rw [←hW0];exact Bx.new' hbw _ _
 have HS:=hid (h.below hb0)
 have hgd0:gd<W0.heap.size:=Nat.lt_of_lt_of_le hgd hb0.size
 have HRG:Hid (∀ X,Below W0.heap.size W0 X→X.rangeAt gd (v*6) [.bool β,.slice ra' n0' rc',.slice a1' n1' c1',.slice a2' n2' c2',.int .i64 x',.int .i64 y']):=fun X hX j u hu=>(hX.cell (p:=⟨gd,v*6+j,none⟩) hgd0).trans ((hb0.cell (p:=⟨gd,v*6+j,none⟩) hgd).trans (hr j u hu))
 have HCD:=hid (hc.below hb0)
 have HCO:=hid (hco.below hb0)
 have KR:Hid (∀ X,Below W0.heap.size W0 X→Calls Tryz.prog 30 #[.agg #[.bool β,.slice ra n0 rc,.slice a1 n1 c1,.slice a2 n2 c2,.int .i64 x,.int .i64 y]] X fun e w'=>e = .returned (.bool true)∧Below X.heap.size X w'):=fun X hX=>by have:=right_d (HCD.out.below hX) hf;rw [hR] at this;exact this
 have kt:=there_any HS.out hz v
 have htb:thereB st v=true:=by unfold thereB;simp;exact hvl
 rw [htb] at kt
 have FS5:Hid (∀ X,Below W0.heap.size W0 X→X.cell? ⟨p,3,none⟩=some (.slice (some ⟨gd,0,none⟩) n dc)∧X.cell? ⟨gd,v*6,none⟩=some (.bool β)∧Bx X bw #[.bool β,.slice ra n0 rc,.slice a1 n1 c1,.slice a2 n2 c2,.int .i64 x,.int .i64 y] 37):=fun X hX=>⟨(HS.out.below hX).cells.2.2.2.1,(rng6 (HRG.out X hX)).1,HBX.out.below hX⟩
 have HE0:Hid (st.e=0):=he
 have HSD:Hid (d.set=β):=hs
 have HSO:Hid (o.set=β):=hs'
 have HFD:Hid (Dm.FitsR d.r):=hf
 have HFO:Hid (Dm.FitsR o.r):=hf'
 have HFX:Hid (Dm.FitsR (bothA o d).r):=hfx
 have HNS:Hid (sameA o (bothA o d)=true):=hns
 have HZ:Hid (Sz st):=hz
 have HVO:Hid (st.D[v]? = some o):=hv
 have HVL:Hid (v<st.D.length):=hvl
 have HH:Hid (Sto W p st ⟨.slice sa k sc,.slice ma m mc,.slice ia n ic,.slice (some ⟨gd,0,none⟩) n dc,.slice wa n wc⟩):=h
 have HB00:Hid (Below W.heap.size W W0):=hb0
 have HB0:Hid (Below W0.heap.size W0 W0.drew):=(Below.refl _ _).drew
 have HW0:Hid _:=hW0
 have HBW:Hid (W.heap.size=bw):=hbw
 have HXL:Hid (∀ b,XS p ⟨.slice sa k sc,.slice ma m mc,.slice ia n ic,.slice (some ⟨gd,0,none⟩) n dc,.slice wa n wc⟩ b→b<bw):=by rw [Hid,←hbw];exact h.x_lt
 have hcapn:n≤dc:=by rw [←HL.out.1];exact hcap
 clear hW0 hbw hb0 h hc hco hz hr hth hgd hvl hs hs' hf hf' hfx hns hv he hR htb hcap H1 H2 H3 H1' H2' H3' HE HE'
 have hvi:(v:Int)<n:=by omega
 go_enter Tryz.func14,Tryz.ntmps14
 go_wp2_with fail
 rw [HW0.out]
 refine kt.mono ?_
 clear kt
 rintro e wt ⟨rfl,hwt⟩
 rw [hwt]
 clear hwt wt
 go_upto_region 5 with (fail)
 (try rw [HW0.out])
 (try rw [HBW.out])
 refine wp_region_held_drew (S:=fun X:World=>X.cell? ⟨p,3,none⟩=some (.slice (some ⟨gd,0,none⟩) n dc)∧X.cell? ⟨gd,v*6,none⟩=some (.bool β)∧Bx X bw #[.bool β,.slice ra n0 rc,.slice a1 n1 c1,.slice a2 n2 c2,.int .i64 x,.int .i64 y] 37) (by kernel_rfl) ((FS5.out _ HB0.out)) (fun hHeld=>?_)
 refine tkH 0 _ (v:=?_) hHeld ?_ ?_;rotate_left
 ·intro w hSw;obtain ⟨q3,qd,hN⟩:=hSw;obtain ⟨u0,u1,u2,u3,u4,u5⟩:=hN.six;go_simp<;>with_reducible rfl
 try simp only [Act.put,zS,eZ,eS]
 refine rdy 1 rfl fun K hK=>?_
 go_simp
 refine (KR.out _ HB0.out).mono ?_
 rintro e w1 ⟨rfl,hb⟩
 have HB1:=hid (HB0.out.trans (hb.mono HB0.out.size))
 clear hb
 clear hHeld;refine hK.out _ _ ((FS5.out _ HB1.out)) fun hHeld=>?_
 clear hK K
 try simp only [Act.put,zS,eZ,eS]
 refine tkI 2 rfl hHeld ?_
 try simp only [Act.put,zS,eZ,eS]
 refine tkI 3 rfl hHeld ?_
 try simp only [Act.put,zS,eZ,eS]
 refine tkI 4 rfl hHeld ?_
 try simp only [Act.put,zS,eZ,eS]
 refine tkH 5 _ (v:=?_) hHeld ?_ ?_;rotate_left
 ·intro w hSw;obtain ⟨q3,qd,hN⟩:=hSw;obtain ⟨u0,u1,u2,u3,u4,u5⟩:=hN.six;go_simp<;>with_reducible rfl
 try simp only [Act.put,zS,eZ,eS]
 refine tkI 6 rfl hHeld ?_
 try simp only [Act.put,zS,eZ,eS]
 refine tkI 7 rfl hHeld ?_
 try simp only [Act.put,zS,eZ,eS]
 refine tkI 8 rfl hHeld ?_
 try simp only [Act.put,zS,eZ,eS]
 refine tkH 9 _ (v:=?_) hHeld ?_ ?_;rotate_left
 ·intro w hSw;obtain ⟨q3,qd,hN⟩:=hSw;obtain ⟨u0,u1,u2,u3,u4,u5⟩:=hN.six;go_simp<;>with_reducible rfl
 try simp only [Act.put,zS,eZ,eS]
 refine tkI 10 rfl hHeld ?_
 try simp only [Act.put,zS,eZ,eS]
 refine tkH 11 _ (v:=?_) hHeld ?_ ?_;rotate_left
 ·intro w hSw;obtain ⟨q3,qd,hN⟩:=hSw;obtain ⟨u0,u1,u2,u3,u4,u5⟩:=hN.six;go_simp<;>with_reducible rfl
 try simp only [Act.put,zS,eZ,eS]
 refine tkI 12 rfl hHeld ?_
 try simp only [Act.put,zS,eZ,eS]
 refine tkH 13 _ (v:=?_) hHeld ?_ ?_;rotate_left
 ·intro w hSw;obtain ⟨q3,qd,hN⟩:=hSw;obtain ⟨u0,u1,u2,u3,u4,u5⟩:=hN.six;go_simp<;>with_reducible rfl
 try simp only [Act.put,zS,eZ,eS]
 refine tkI 14 rfl hHeld ?_
 try simp only [Act.put,zS,eZ,eS]
 refine tkI 15 rfl hHeld ?_
 try simp only [Act.put,zS,eZ,eS]
 refine tkI 16 rfl hHeld ?_
 try simp only [Act.put,zS,eZ,eS]
 refine wpAnyH_done (by kernel_rfl) ?_ _
 have z4:=(HS.out.below HB1.out)
 have kf:=failed_any z4
 rw [HE0.out] at kf
 have hd0:decide (0<(0:Int))=false:=rfl
 rw [hd0] at kf
 clear hd0
 go_wp2_with fail
 refine kf.mono ?_
 clear kf
 rintro e wt ⟨rfl,hwt⟩
 rw [hwt]
 clear hwt wt
 obtain ⟨z0,z1,z2,z3,z44,z5,zf⟩:=z4.cells
 simp only at z3
 clear z0 z1 z2 z44 z5 zf z4
 obtain ⟨u0,u1,u2,u3,u4,u5⟩:=rng6 (HRG.out _ HB1.out)
 obtain ⟨bo,hbo⟩:∃ q,w1.heap.size=q:=⟨_,rfl⟩
 go_upto_region 10 with (fail)
 obtain ⟨W2,hW2⟩:∃ q,w1.alloc (Obj.cells #[.bool β,.slice ra' n0' rc',.slice a1' n1' c1',.slice a2' n2' c2',.int .i64 x',.int .i64 y'] 37)=q:=⟨_,rfl⟩
 rw [hW2]
 (try rw [hbo])
 have HB2:Hid (Below W0.heap.size W0 W2):=by rw [←hW2];exact HB1.out.alloc HB1.out.size _
 have HBO:Hid (Bx W2 bo #[.bool β,.slice ra' n0' rc',.slice a1' n1' c1',.slice a2' n2' c2',.int .i64 x',.int .i64 y'] 37):=by rw [←hW2];exact Bx.new' hbo _ _
 have HOG:Hid (¬bo<bw):=by rw [Hid,←hbo,←HBW.out];exact Nat.not_lt.2 (Nat.le_trans HB00.out.size HB1.out.size)
 clear hW2 hbo z3 u0 u1 u2 u3 u4 u5
 have HBXd:=hid (HBX.out.below HB2.out)
 obtain ⟨F,hF⟩:∃ F,(bif β then 73 else 74)=F:=⟨_,rfl⟩
 have KN:Hid (∀ X,Below W2.heap.size W2 X→Calls Tryz.prog 49 #[.agg #[.bool β,.slice ra' n0' rc',.slice a1' n1' c1',.slice a2' n2' c2',.int .i64 x',.int .i64 y']] X fun e w'=>e = .returned (.func (.func F) #[.agg #[.bool β,.slice ra' n0' rc',.slice a1' n1' c1',.slice a2' n2' c2',.int .i64 x',.int .i64 y']] #[])∧Below X.heap.size X w'):=fun X hX=>by
  cases β<;>obtain rfl:=hF
  ·exact narrower_w ((HCO.out.below HB2.out).below hX) HSO.out
  ·exact narrower_s ((HCO.out.below HB2.out).below hX) HSO.out
 have KW:Hid (∀ X,Below W2.heap.size W2 X→Calls Tryz.prog F #[.agg #[.bool β,.slice ra' n0' rc',.slice a1' n1' c1',.slice a2' n2' c2',.int .i64 x',.int .i64 y'],.agg #[.bool β,.slice ra n0 rc,.slice a1 n1 c1,.slice a2 n2 c2,.int .i64 x,.int .i64 y]] X fun e w'=>∃ q:List Value,e = .returned (.agg q.toArray)∧(∀ Z:Nat→Prop,(∀ b,Z b→b<X.heap.size)→Dc Z w' q (bothA o d))∧Below X.heap.size X w'):=fun X hX=>by
  cases β<;>obtain rfl:=hF
  ·exact with_wz ((HCO.out.below HB2.out).below hX) ((HCD.out.below HB2.out).below hX) HSO.out HSD.out HFO.out HFD.out
  ·exact with_sz ((HCO.out.below HB2.out).below hX) ((HCD.out.below HB2.out).below hX) HSO.out
 have hFF:F=73∨F=74:=by rw [←hF];cases β<;>simp
 clear hF
 rcases hFF with rfl | rfl
 all_goals
  have FS10:Hid (∀ X,Below W2.heap.size W2 X→Bx X bo #[.bool β,.slice ra' n0' rc',.slice a1' n1' c1',.slice a2' n2' c2',.int .i64 x',.int .i64 y'] 37∧Bx X bw #[.bool β,.slice ra n0 rc,.slice a1 n1 c1,.slice a2 n2 c2,.int .i64 x,.int .i64 y] 37):=fun X hX=>⟨HBO.out.below hX,HBXd.out.below hX⟩
  have HC0:Hid (Below W2.heap.size W2 W2.drew):=(Below.refl _ _).drew
  clear HRG FS5 KR HB0
  apply wp_ways2 (R:=fun bn q w'=>Below W2.heap.size W2 w'∧W2.heap.size≤bn∧Bx w' bn q.toArray 37∧Dc (fun b=>b<W2.heap.size∨b=bn) w' q (bothA o d))
  case h =>
   refine wp_region_held_drew (S:=fun X:World=>Bx X bo #[.bool β,.slice ra' n0' rc',.slice a1' n1' c1',.slice a2' n2' c2',.int .i64 x',.int .i64 y'] 37∧Bx X bw #[.bool β,.slice ra n0 rc,.slice a1 n1 c1,.slice a2 n2 c2,.int .i64 x,.int .i64 y] 37) (by kernel_rfl) ((FS10.out _ HC0.out)) (fun hHeld=>?_)
   refine tkH 0 _ (v:=?_) hHeld ?_ ?_;rotate_left
   ·intro w hSw;obtain ⟨hO,hN⟩:=hSw;obtain ⟨y0,y1,y2,y3,y4,y5⟩:=hO.six;obtain ⟨u0,u1,u2,u3,u4,u5⟩:=hN.six;go_simp<;>with_reducible rfl
   try simp only [Act.put,zS,eZ,eS]
   refine tkH 2 _ (v:=?_) hHeld ?_ ?_;rotate_left
   ·intro w hSw;obtain ⟨hO,hN⟩:=hSw;obtain ⟨y0,y1,y2,y3,y4,y5⟩:=hO.six;obtain ⟨u0,u1,u2,u3,u4,u5⟩:=hN.six;go_simp<;>with_reducible rfl
   try simp only [Act.put,zS,eZ,eS]
   refine wpAnyH_ready (rs:=[1,4]) (by kernel_rfl) (by simp) ?_
   refine AllReadyH.cons rfl (fun K hK=>?_) ?_
   ·go_simp
    refine (KN.out _ HC0.out).mono ?_
    rintro e v1 ⟨rfl,hb⟩
    have HC1:=hid (HC0.out.trans (hb.mono HC0.out.size))
    clear hb
    clear hHeld;refine hK.out _ _ ((FS10.out _ HC1.out)) fun hHeld=>?_
    clear hK K
    try simp only [Act.put,zS,eZ,eS]
    refine wpAnyH_ready (rs:=[3,4]) (by kernel_rfl) (by simp) ?_
    refine AllReadyH.cons rfl (fun K hK=>?_) ?_
    ·go_simp
     refine (KW.out _ HC1.out).mono ?_
     rintro e v2 ⟨q,rfl,hq,hb⟩
     have HC2:=hid (HC1.out.trans (hb.mono HC1.out.size))
     have HDq2:Hid (Dc (fun b=>b<W2.heap.size) v2 q (bothA o d)):=hq _ (fun b q=>Nat.lt_of_lt_of_le q HC1.out.size)
     clear hb hq
     clear hHeld;refine hK.out _ _ ((FS10.out _ HC2.out)) fun hHeld=>?_
     clear hK K
     try simp only [Act.put,zS,eZ,eS]
     refine rdy 4 rfl fun K hK=>?_
     obtain ⟨bn,hbn⟩:∃ q,v2.heap.size=q:=⟨_,rfl⟩
     go_simp
     (try rw [hbn])
     obtain ⟨v3,hv3⟩:∃ q,v2.alloc (Obj.cells #[.bool false,.slice none 0 0,.slice none 0 0,.slice none 0 0,.int .i64 0,.int .i64 0] 37)=q:=⟨_,rfl⟩
     (try rw [hv3])
     (try rw [show (v2.alloc (Obj.cells #[.bool false,.slice none 0 0,.slice none 0 0,.slice none 0 0,.int .i64 0,.int .i64 0] 37)).drew=v3 from hv3])
     have HC3:Hid (Below W2.heap.size W2 v3):=by rw [←hv3];exact HC2.out.alloc (HC2.out.size) _
     have HNW3:Hid (Bx v3 bn #[.bool false,.slice none 0 0,.slice none 0 0,.slice none 0 0,.int .i64 0,.int .i64 0] 37):=by rw [←hv3];exact Bx.new' (w:=v2) hbn _ _
     have HBN:Hid (W2.heap.size≤bn):=by rw [Hid,←hbn];exact HC2.out.size
     have HDq3:Hid (Dc (fun b=>b<W2.heap.size∨b=bn) v3 q (bothA o d)):=by
      rw [←hv3]
      exact HDq2.out.go (Kept.of_below ((Below.refl _ _).alloc (Nat.le_refl _) _)) (fun b hb=>hb.elim .inl (fun e=>.inr (by omega)))
     clear hv3 hbn
     clear hHeld;refine hK.out _ _ ((FS10.out _ HC3.out)) fun hHeld=>?_
     clear hK K
     try simp only [Act.put,zS,eZ,eS]
     refine rdy 5 rfl fun K hK=>?_
     refine stepR rfl 37 (.tmp 9) (.tmp 48) rfl bn q (by with_unfolding_all rfl) (by with_unfolding_all rfl) HNW3.out (by rfl) HDq3.out.len Tryz.sizeDom HDq3.out.one ?_
     clear hHeld;refine hK.out _ _ ((FS10.out _ (below_row HC3.out HBN.out _))) fun hHeld=>?_
     clear hK K
     try simp only [Act.put,zS,eZ,eS]
     refine wpAnyH_done (by kernel_rfl) ?_ _
     exact ⟨bn,q,rfl,below_row HC3.out HBN.out _,HBN.out,HNW3.out.setRow _,HDq3.out.kept ⟨rfl,rfl,rfl,by simp [World.setRow],fun b _ hb=>setRow_other _ _ b _ (fun e=>hb (.inr e))⟩⟩
    refine AllReadyH.cons rfl (fun K hK=>?_) ?_
    ·obtain ⟨bn,hbn⟩:∃ q,v1.heap.size=q:=⟨_,rfl⟩
     go_simp
     (try rw [hbn])
     obtain ⟨v2,hv2⟩:∃ q,v1.alloc (Obj.cells #[.bool false,.slice none 0 0,.slice none 0 0,.slice none 0 0,.int .i64 0,.int .i64 0] 37)=q:=⟨_,rfl⟩
     (try rw [hv2])
     (try rw [show (v1.alloc (Obj.cells #[.bool false,.slice none 0 0,.slice none 0 0,.slice none 0 0,.int .i64 0,.int .i64 0] 37)).drew=v2 from hv2])
     have HC2:Hid (Below W2.heap.size W2 v2):=by rw [←hv2];exact HC1.out.alloc (HC1.out.size) _
     have HNW2:Hid (Bx v2 bn #[.bool false,.slice none 0 0,.slice none 0 0,.slice none 0 0,.int .i64 0,.int .i64 0] 37):=by rw [←hv2];exact Bx.new' (w:=v1) hbn _ _
     have HBN:Hid (W2.heap.size≤bn):=by rw [Hid,←hbn];exact HC1.out.size
     clear hv2 hbn
     clear hHeld;refine hK.out _ _ ((FS10.out _ HC2.out)) fun hHeld=>?_
     clear hK K
     try simp only [Act.put,zS,eZ,eS]
     refine rdy 3 rfl fun K hK=>?_
     go_simp
     refine (KW.out _ HC2.out).mono ?_
     rintro e v3 ⟨q,rfl,hq,hb⟩
     have HC3:=hid (HC2.out.trans (hb.mono HC2.out.size))
     have HNW3:=hid (HNW2.out.below hb)
     have HDq3:Hid (Dc (fun b=>b<W2.heap.size∨b=bn) v3 q (bothA o d)):=hq _ (fun b hb=>hb.elim (fun q=>Nat.lt_of_lt_of_le q HC2.out.size) (fun q=>by subst q;exact HNW2.out.lt))
     clear hb hq
     clear hHeld;refine hK.out _ _ ((FS10.out _ HC3.out)) fun hHeld=>?_
     clear hK K
     try simp only [Act.put,zS,eZ,eS]
     refine rdy 5 rfl fun K hK=>?_
     refine stepR rfl 37 (.tmp 9) (.tmp 48) rfl bn q (by with_unfolding_all rfl) (by with_unfolding_all rfl) HNW3.out (by rfl) HDq3.out.len Tryz.sizeDom HDq3.out.one ?_
     clear hHeld;refine hK.out _ _ ((FS10.out _ (below_row HC3.out HBN.out _))) fun hHeld=>?_
     clear hK K
     try simp only [Act.put,zS,eZ,eS]
     refine wpAnyH_done (by kernel_rfl) ?_ _
     exact ⟨bn,q,rfl,below_row HC3.out HBN.out _,HBN.out,HNW3.out.setRow _,HDq3.out.kept ⟨rfl,rfl,rfl,by simp [World.setRow],fun b _ hb=>setRow_other _ _ b _ (fun e=>hb (.inr e))⟩⟩
    exact AllReadyH.nil
   refine AllReadyH.cons rfl (fun K hK=>?_) ?_
   ·obtain ⟨bn,hbn⟩:∃ q,W2.heap.size=q:=⟨_,rfl⟩
    go_simp
    (try rw [hbn])
    obtain ⟨v1,hv1⟩:∃ q,W2.drew.alloc (Obj.cells #[.bool false,.slice none 0 0,.slice none 0 0,.slice none 0 0,.int .i64 0,.int .i64 0] 37)=q:=⟨_,rfl⟩
    (try rw [hv1])
    (try rw [show (W2.alloc (Obj.cells #[.bool false,.slice none 0 0,.slice none 0 0,.slice none 0 0,.int .i64 0,.int .i64 0] 37)).drew=v1 from hv1])
    have HC1:Hid (Below W2.heap.size W2 v1):=by rw [←hv1];exact HC0.out.alloc (HC0.out.size) _
    have HNW1:Hid (Bx v1 bn #[.bool false,.slice none 0 0,.slice none 0 0,.slice none 0 0,.int .i64 0,.int .i64 0] 37):=by rw [←hv1];exact Bx.new' (w:=W2.drew) hbn _ _
    have HBN:Hid (W2.heap.size≤bn):=by rw [Hid,←hbn];exact Nat.le_refl _
    clear hv1 hbn
    clear hHeld;refine hK.out _ _ ((FS10.out _ HC1.out)) fun hHeld=>?_
    clear hK K
    try simp only [Act.put,zS,eZ,eS]
    refine rdy 1 rfl fun K hK=>?_
    go_simp
    refine (KN.out _ HC1.out).mono ?_
    rintro e v2 ⟨rfl,hb⟩
    have HC2:=hid (HC1.out.trans (hb.mono HC1.out.size))
    have HNW2:=hid (HNW1.out.below hb)
    clear hb
    clear hHeld;refine hK.out _ _ ((FS10.out _ HC2.out)) fun hHeld=>?_
    clear hK K
    try simp only [Act.put,zS,eZ,eS]
    refine rdy 3 rfl fun K hK=>?_
    go_simp
    refine (KW.out _ HC2.out).mono ?_
    rintro e v3 ⟨q,rfl,hq,hb⟩
    have HC3:=hid (HC2.out.trans (hb.mono HC2.out.size))
    have HNW3:=hid (HNW2.out.below hb)
    have HDq3:Hid (Dc (fun b=>b<W2.heap.size∨b=bn) v3 q (bothA o d)):=hq _ (fun b hb=>hb.elim (fun q=>Nat.lt_of_lt_of_le q HC2.out.size) (fun q=>by subst q;exact HNW2.out.lt))
    clear hb hq
    clear hHeld;refine hK.out _ _ ((FS10.out _ HC3.out)) fun hHeld=>?_
    clear hK K
    try simp only [Act.put,zS,eZ,eS]
    refine rdy 5 rfl fun K hK=>?_
    refine stepR rfl 37 (.tmp 9) (.tmp 48) rfl bn q (by with_unfolding_all rfl) (by with_unfolding_all rfl) HNW3.out (by rfl) HDq3.out.len Tryz.sizeDom HDq3.out.one ?_
    clear hHeld;refine hK.out _ _ ((FS10.out _ (below_row HC3.out HBN.out _))) fun hHeld=>?_
    clear hK K
    try simp only [Act.put,zS,eZ,eS]
    refine wpAnyH_done (by kernel_rfl) ?_ _
    exact ⟨bn,q,rfl,below_row HC3.out HBN.out _,HBN.out,HNW3.out.setRow _,HDq3.out.kept ⟨rfl,rfl,rfl,by simp [World.setRow],fun b _ hb=>setRow_other _ _ b _ (fun e=>hb (.inr e))⟩⟩
   exact AllReadyH.nil
  case hK =>
   rintro bn q V ⟨HBV,hbn,hnx,hdq⟩
   obtain ⟨b2,r2,m0,k0,p1,m1,k1,p2,m2,k2,x2,y2,rfl,HE2,_,_,_⟩:=hdq.look
   obtain rfl:β=b2:=Eq.symm (by rw [←HE2.out.1,bothA_set];exact HSO.out)
   have HDQ:Hid (Dc (fun b=>b<W2.heap.size∨b=bn) V [.bool β,.slice r2 m0 k0,.slice p1 m1 k1,.slice p2 m2 k2,.int .i64 x2,.int .i64 y2] (bothA o d)):=hdq
   have HNX:Hid (Bx V bn #[.bool β,.slice r2 m0 k0,.slice p1 m1 k1,.slice p2 m2 k2,.int .i64 x2,.int .i64 y2] 37):=hnx
   have HBOV:=hid (HBO.out.below HBV)
   have HB0V:=hid (HB2.out.trans (HBV.mono HB2.out.size))
   have HSV:=hid (HS.out.below HB0V.out)
   have HCOV:=hid (HCO.out.below HB0V.out)
   have HBWS:Hid (bw≤W2.heap.size):=by rw [Hid,←HBW.out];exact Nat.le_trans HB00.out.size HB2.out.size
   have HDX:Hid (Dc (XS p ⟨.slice sa k sc,.slice ma m mc,.slice ia n ic,.slice (some ⟨gd,0,none⟩) n dc,.slice wa n wc⟩) V [.bool β,.slice r2 m0 k0,.slice p1 m1 k1,.slice p2 m2 k2,.int .i64 x2,.int .i64 y2] (bothA o d)):=HDQ.out.up (fun b hb=>.inl (.inl (Nat.lt_of_lt_of_le (HXL.out b hb) HBWS.out)))
   have HXO:Hid (¬XS p ⟨.slice sa k sc,.slice ma m mc,.slice ia n ic,.slice (some ⟨gd,0,none⟩) n dc,.slice wa n wc⟩ bo):=fun q=>HOG.out (HXL.out bo q)
   have HXN:Hid (¬XS p ⟨.slice sa k sc,.slice ma m mc,.slice ia n ic,.slice (some ⟨gd,0,none⟩) n dc,.slice wa n wc⟩ bn):=fun q=>by have:=HXL.out bn q;have:=HBWS.out;omega
   have ks:=same_d HCOV.out HDX.out (bothA_set o d).symm HFO.out HFX.out
   rw [HNS.out] at ks
   obtain ⟨t0,t1,t2,t3,t4,t5⟩:=HBOV.out.six
   obtain ⟨u0,u1,u2,u3,u4,u5⟩:=HNX.out.six
   have HEND:=hid (HB00.out.trans (HB0V.out.mono HB00.out.size))
   go_wp2_with fail
   refine ks.mono ?_
   clear ks t0 t1 t2 t3 t4 t5 u0 u1 u2 u3 u4 u5
   rintro e w3 ⟨rfl,hb3⟩
   go_wp2
   all_goals
    go_ret2
    exact ⟨rfl,HEND.out.trans (hb3.mono HEND.out.size)⟩
theorem narrow_bad1 [Gh] {W:World} {p:Nat} {st:StM} {sl:Sl} {c:List Value} {d o:MD} (h:Sto W p st sl) {X0:Nat→Prop} (hc:Dc X0 W c d) (v:Nat) (hv:st.D[v]? = some o) (hf:Dm.FitsR d.r) (hR:rightM d=false) (hz:Sz st) :
  Calls Tryz.prog 14 #[ptr p,.int .i64 v,.agg c.toArray] W fun e w'=>e = .returned (.tuple #[.int .i64 0,.int .i64 20])∧Below W.heap.size W w':=by
 have hvl:v<st.D.length:=(List.getElem?_eq_some_iff.1 hv).1
 obtain ⟨n,k,m,sa,sc,ma,mc,ia,ic,da,dc,wa,wc,rfl,HL⟩:=h.look
 obtain ⟨gd,cap,c',e1,hgd,hcap,hcm,hr,hth,hco⟩:=h.dom_at hv
 injection e1 with e1 e2 e3
 subst e1 e3
 clear e2
 have hvn:v<n:=by rw [←HL.out.1];exact hvl
 have hn1:n≤1000:=by rw [←HL.out.1];exact hz.1
 obtain ⟨b,ra,n0,rc,a1,n1,c1,a2,n2,c2,x,y,ec,HE,H1,H2,H3⟩:=hc.look
 obtain ⟨b',ra',n0',rc',a1',n1',c1',a2',n2',c2',x',y',ec',HE',H1',H2',H3'⟩:=hco.look
 subst ec ec'
 skip
 skip
 obtain ⟨bw,hbw⟩:∃ q,W.heap.size=q:=⟨_,rfl⟩
 obtain ⟨W0,hW0⟩:∃ Q,W.alloc (Obj.cells #[.bool b,.slice ra n0 rc,.slice a1 n1 c1,.slice a2 n2 c2,.int .i64 x,.int .i64 y] 37)=Q:=⟨_,rfl⟩
 have hb0:Below W.heap.size W W0:=by rw [←hW0];exact (Below.refl _ W).alloc (Nat.le_refl _) _
 have HBX:Hid (Bx W0 bw #[.bool b,.slice ra n0 rc,.slice a1 n1 c1,.slice a2 n2 c2,.int .i64 x,.int .i64 y] 37):=by rw [←hW0];exact Bx.new' hbw _ _
 have HS:=hid (h.below hb0)
 have hgd0:gd<W0.heap.size:=Nat.lt_of_lt_of_le hgd hb0.size
 have HRG:Hid (∀ X,Below W0.heap.size W0 X→X.rangeAt gd (v*6) [.bool b',.slice ra' n0' rc',.slice a1' n1' c1',.slice a2' n2' c2',.int .i64 x',.int .i64 y']):=fun X hX j u hu=>(hX.cell (p:=⟨gd,v*6+j,none⟩) hgd0).trans ((hb0.cell (p:=⟨gd,v*6+j,none⟩) hgd).trans (hr j u hu))
 have HCD:=hid (hc.below hb0)
 have HCO:=hid (hco.below hb0)
 have KR:Hid (∀ X,Below W0.heap.size W0 X→Calls Tryz.prog 30 #[.agg #[.bool b,.slice ra n0 rc,.slice a1 n1 c1,.slice a2 n2 c2,.int .i64 x,.int .i64 y]] X fun e w'=>e = .returned (.bool false)∧Below X.heap.size X w'):=fun X hX=>by have:=right_d (HCD.out.below hX) hf;rw [hR] at this;exact this
 have kt:=there_any HS.out hz v
 have htb:thereB st v=true:=by unfold thereB;simp;exact hvl
 rw [htb] at kt
 have FS5:Hid (∀ X,Below W0.heap.size W0 X→X.cell? ⟨p,3,none⟩=some (.slice (some ⟨gd,0,none⟩) n dc)∧X.cell? ⟨gd,v*6,none⟩=some (.bool b')∧Bx X bw #[.bool b,.slice ra n0 rc,.slice a1 n1 c1,.slice a2 n2 c2,.int .i64 x,.int .i64 y] 37):=fun X hX=>⟨(HS.out.below hX).cells.2.2.2.1,(rng6 (HRG.out X hX)).1,HBX.out.below hX⟩
 have HFD:Hid (Dm.FitsR d.r):=hf
 have HZ:Hid (Sz st):=hz
 have HVO:Hid (st.D[v]? = some o):=hv
 have HVL:Hid (v<st.D.length):=hvl
 have HH:Hid (Sto W p st ⟨.slice sa k sc,.slice ma m mc,.slice ia n ic,.slice (some ⟨gd,0,none⟩) n dc,.slice wa n wc⟩):=h
 have HB00:Hid (Below W.heap.size W W0):=hb0
 have HB0:Hid (Below W0.heap.size W0 W0.drew):=(Below.refl _ _).drew
 have HW0:Hid _:=hW0
 have HBW:Hid (W.heap.size=bw):=hbw
 have HXL:Hid (∀ b,XS p ⟨.slice sa k sc,.slice ma m mc,.slice ia n ic,.slice (some ⟨gd,0,none⟩) n dc,.slice wa n wc⟩ b→b<bw):=by rw [Hid,←hbw];exact h.x_lt
 have hcapn:n≤dc:=by rw [←HL.out.1];exact hcap
 clear hW0 hbw hb0 h hc hco hz hr hth hgd hvl hf hv hR htb hcap H1 H2 H3 H1' H2' H3' HE HE'
 have hvi:(v:Int)<n:=by omega
 go_enter Tryz.func14,Tryz.ntmps14
 go_wp2_with fail
 rw [HW0.out]
 refine kt.mono ?_
 clear kt
 rintro e wt ⟨rfl,hwt⟩
 rw [hwt]
 clear hwt wt
 go_upto_region 5 with (fail)
 (try rw [HW0.out])
 (try rw [HBW.out])
 refine wp_region_held_drew (S:=fun X:World=>X.cell? ⟨p,3,none⟩=some (.slice (some ⟨gd,0,none⟩) n dc)∧X.cell? ⟨gd,v*6,none⟩=some (.bool b')∧Bx X bw #[.bool b,.slice ra n0 rc,.slice a1 n1 c1,.slice a2 n2 c2,.int .i64 x,.int .i64 y] 37) (by kernel_rfl) ((FS5.out _ HB0.out)) (fun hHeld=>?_)
 refine tkH 0 _ (v:=?_) hHeld ?_ ?_;rotate_left
 ·intro w hSw;obtain ⟨q3,qd,hN⟩:=hSw;obtain ⟨u0,u1,u2,u3,u4,u5⟩:=hN.six;go_simp<;>with_reducible rfl
 try simp only [Act.put,zS,eZ,eS]
 refine rdy 1 rfl fun K hK=>?_
 go_simp
 refine (KR.out _ HB0.out).mono ?_
 rintro e w1 ⟨rfl,hb⟩
 have HB1:=hid (HB0.out.trans (hb.mono HB0.out.size))
 clear hb
 clear hHeld;refine hK.out _ _ ((FS5.out _ HB1.out)) fun hHeld=>?_
 clear hK K
 try simp only [Act.put,zS,eZ,eS]
 refine tkI 2 rfl hHeld ?_
 try simp only [Act.put,zS,eZ,eS]
 refine tkI 3 rfl hHeld ?_
 try simp only [Act.put,zS,eZ,eS]
 refine tkU 4 rfl hHeld ?_
 try simp only [Act.put,zS,eZ,eS]
 refine tkU 5 rfl hHeld ?_
 try simp only [Act.put,zS,eZ,eS]
 refine tkU 6 rfl hHeld ?_
 try simp only [Act.put,zS,eZ,eS]
 refine tkU 7 rfl hHeld ?_
 try simp only [Act.put,zS,eZ,eS]
 refine tkU 8 rfl hHeld ?_
 try simp only [Act.put,zS,eZ,eS]
 refine tkU 9 rfl hHeld ?_
 try simp only [Act.put,zS,eZ,eS]
 refine tkU 10 rfl hHeld ?_
 try simp only [Act.put,zS,eZ,eS]
 refine tkU 11 rfl hHeld ?_
 try simp only [Act.put,zS,eZ,eS]
 refine tkU 12 rfl hHeld ?_
 try simp only [Act.put,zS,eZ,eS]
 refine tkU 13 rfl hHeld ?_
 try simp only [Act.put,zS,eZ,eS]
 refine tkU 14 rfl hHeld ?_
 try simp only [Act.put,zS,eZ,eS]
 refine tkH 15 _ (v:=.bool true) hHeld ?_ ?_
 skip
 ·intro w hSw;go_simp<;>first | done | with_reducible rfl | simp
 try simp only [Act.put,zS,eZ,eS]
 refine tkI 16 rfl hHeld ?_
 try simp only [Act.put,zS,eZ,eS]
 refine wpAnyH_done (by kernel_rfl) ?_ _
 go_wp2
 all_goals
  go_ret2
  exact ⟨rfl,HB00.out.trans (HB1.out.mono HB00.out.size)⟩
theorem narrow_bad2 [Gh] {W:World} {p:Nat} {st:StM} {sl:Sl} {c:List Value} {d o:MD} (h:Sto W p st sl) {X0:Nat→Prop} (hc:Dc X0 W c d) (v:Nat) (hv:st.D[v]? = some o) (hk:d.set≠o.set) (hf:Dm.FitsR d.r) (hR:rightM d=true) (hz:Sz st) :
  Calls Tryz.prog 14 #[ptr p,.int .i64 v,.agg c.toArray] W fun e w'=>e = .returned (.tuple #[.int .i64 0,.int .i64 20])∧Below W.heap.size W w':=by
 have hvl:v<st.D.length:=(List.getElem?_eq_some_iff.1 hv).1
 obtain ⟨n,k,m,sa,sc,ma,mc,ia,ic,da,dc,wa,wc,rfl,HL⟩:=h.look
 obtain ⟨gd,cap,c',e1,hgd,hcap,hcm,hr,hth,hco⟩:=h.dom_at hv
 injection e1 with e1 e2 e3
 subst e1 e3
 clear e2
 have hvn:v<n:=by rw [←HL.out.1];exact hvl
 have hn1:n≤1000:=by rw [←HL.out.1];exact hz.1
 obtain ⟨b,ra,n0,rc,a1,n1,c1,a2,n2,c2,x,y,ec,HE,H1,H2,H3⟩:=hc.look
 obtain ⟨b',ra',n0',rc',a1',n1',c1',a2',n2',c2',x',y',ec',HE',H1',H2',H3'⟩:=hco.look
 subst ec ec'
 skip
 skip
 have hbb:(b != b')=true:=by have:b≠b':=fun e=>hk (by rw [HE.out.1,HE'.out.1,e]);simpa using this
 obtain ⟨bw,hbw⟩:∃ q,W.heap.size=q:=⟨_,rfl⟩
 obtain ⟨W0,hW0⟩:∃ Q,W.alloc (Obj.cells #[.bool b,.slice ra n0 rc,.slice a1 n1 c1,.slice a2 n2 c2,.int .i64 x,.int .i64 y] 37)=Q:=⟨_,rfl⟩
 have hb0:Below W.heap.size W W0:=by rw [←hW0];exact (Below.refl _ W).alloc (Nat.le_refl _) _
 have HBX:Hid (Bx W0 bw #[.bool b,.slice ra n0 rc,.slice a1 n1 c1,.slice a2 n2 c2,.int .i64 x,.int .i64 y] 37):=by rw [←hW0];exact Bx.new' hbw _ _
 have HS:=hid (h.below hb0)
 have hgd0:gd<W0.heap.size:=Nat.lt_of_lt_of_le hgd hb0.size
 have HRG:Hid (∀ X,Below W0.heap.size W0 X→X.rangeAt gd (v*6) [.bool b',.slice ra' n0' rc',.slice a1' n1' c1',.slice a2' n2' c2',.int .i64 x',.int .i64 y']):=fun X hX j u hu=>(hX.cell (p:=⟨gd,v*6+j,none⟩) hgd0).trans ((hb0.cell (p:=⟨gd,v*6+j,none⟩) hgd).trans (hr j u hu))
 have HCD:=hid (hc.below hb0)
 have HCO:=hid (hco.below hb0)
 have KR:Hid (∀ X,Below W0.heap.size W0 X→Calls Tryz.prog 30 #[.agg #[.bool b,.slice ra n0 rc,.slice a1 n1 c1,.slice a2 n2 c2,.int .i64 x,.int .i64 y]] X fun e w'=>e = .returned (.bool true)∧Below X.heap.size X w'):=fun X hX=>by have:=right_d (HCD.out.below hX) hf;rw [hR] at this;exact this
 have kt:=there_any HS.out hz v
 have htb:thereB st v=true:=by unfold thereB;simp;exact hvl
 rw [htb] at kt
 have FS5:Hid (∀ X,Below W0.heap.size W0 X→X.cell? ⟨p,3,none⟩=some (.slice (some ⟨gd,0,none⟩) n dc)∧X.cell? ⟨gd,v*6,none⟩=some (.bool b')∧Bx X bw #[.bool b,.slice ra n0 rc,.slice a1 n1 c1,.slice a2 n2 c2,.int .i64 x,.int .i64 y] 37):=fun X hX=>⟨(HS.out.below hX).cells.2.2.2.1,(rng6 (HRG.out X hX)).1,HBX.out.below hX⟩
 have HFD:Hid (Dm.FitsR d.r):=hf
 have HZ:Hid (Sz st):=hz
 have HVO:Hid (st.D[v]? = some o):=hv
 have HVL:Hid (v<st.D.length):=hvl
 have HH:Hid (Sto W p st ⟨.slice sa k sc,.slice ma m mc,.slice ia n ic,.slice (some ⟨gd,0,none⟩) n dc,.slice wa n wc⟩):=h
 have HB00:Hid (Below W.heap.size W W0):=hb0
 have HB0:Hid (Below W0.heap.size W0 W0.drew):=(Below.refl _ _).drew
 have HW0:Hid _:=hW0
 have HBW:Hid (W.heap.size=bw):=hbw
 have HXL:Hid (∀ b,XS p ⟨.slice sa k sc,.slice ma m mc,.slice ia n ic,.slice (some ⟨gd,0,none⟩) n dc,.slice wa n wc⟩ b→b<bw):=by rw [Hid,←hbw];exact h.x_lt
 have hcapn:n≤dc:=by rw [←HL.out.1];exact hcap
 clear hW0 hbw hb0 h hc hco hz hr hth hgd hvl hf hv hR hk htb hcap H1 H2 H3 H1' H2' H3' HE HE'
 have hvi:(v:Int)<n:=by omega
 go_enter Tryz.func14,Tryz.ntmps14
 go_wp2_with fail
 rw [HW0.out]
 refine kt.mono ?_
 clear kt
 rintro e wt ⟨rfl,hwt⟩
 rw [hwt]
 clear hwt wt
 go_upto_region 5 with (fail)
 (try rw [HW0.out])
 (try rw [HBW.out])
 refine wp_region_held_drew (S:=fun X:World=>X.cell? ⟨p,3,none⟩=some (.slice (some ⟨gd,0,none⟩) n dc)∧X.cell? ⟨gd,v*6,none⟩=some (.bool b')∧Bx X bw #[.bool b,.slice ra n0 rc,.slice a1 n1 c1,.slice a2 n2 c2,.int .i64 x,.int .i64 y] 37) (by kernel_rfl) ((FS5.out _ HB0.out)) (fun hHeld=>?_)
 refine tkH 0 _ (v:=?_) hHeld ?_ ?_;rotate_left
 ·intro w hSw;obtain ⟨q3,qd,hN⟩:=hSw;obtain ⟨u0,u1,u2,u3,u4,u5⟩:=hN.six;go_simp<;>with_reducible rfl
 try simp only [Act.put,zS,eZ,eS]
 refine rdy 1 rfl fun K hK=>?_
 go_simp
 refine (KR.out _ HB0.out).mono ?_
 rintro e w1 ⟨rfl,hb⟩
 have HB1:=hid (HB0.out.trans (hb.mono HB0.out.size))
 clear hb
 clear hHeld;refine hK.out _ _ ((FS5.out _ HB1.out)) fun hHeld=>?_
 clear hK K
 try simp only [Act.put,zS,eZ,eS]
 refine tkI 2 rfl hHeld ?_
 try simp only [Act.put,zS,eZ,eS]
 refine tkI 3 rfl hHeld ?_
 try simp only [Act.put,zS,eZ,eS]
 refine tkI 4 rfl hHeld ?_
 try simp only [Act.put,zS,eZ,eS]
 refine tkH 5 _ (v:=?_) hHeld ?_ ?_;rotate_left
 ·intro w hSw;obtain ⟨q3,qd,hN⟩:=hSw;obtain ⟨u0,u1,u2,u3,u4,u5⟩:=hN.six;go_simp<;>with_reducible rfl
 try simp only [Act.put,zS,eZ,eS]
 refine tkI 6 rfl hHeld ?_
 try simp only [Act.put,zS,eZ,eS]
 refine tkI 7 rfl hHeld ?_
 try simp only [Act.put,zS,eZ,eS]
 refine tkI 8 rfl hHeld ?_
 try simp only [Act.put,zS,eZ,eS]
 refine tkH 9 _ (v:=?_) hHeld ?_ ?_;rotate_left
 ·intro w hSw;obtain ⟨q3,qd,hN⟩:=hSw;obtain ⟨u0,u1,u2,u3,u4,u5⟩:=hN.six;go_simp<;>with_reducible rfl
 try simp only [Act.put,zS,eZ,eS]
 refine tkI 10 rfl hHeld ?_
 try simp only [Act.put,zS,eZ,eS]
 refine tkH 11 _ (v:=?_) hHeld ?_ ?_;rotate_left
 ·intro w hSw;obtain ⟨q3,qd,hN⟩:=hSw;obtain ⟨u0,u1,u2,u3,u4,u5⟩:=hN.six;go_simp<;>with_reducible rfl
 try simp only [Act.put,zS,eZ,eS]
 refine tkI 12 rfl hHeld ?_
 try simp only [Act.put,zS,eZ,eS]
 refine tkH 13 _ (v:=?_) hHeld ?_ ?_;rotate_left
 ·intro w hSw;obtain ⟨q3,qd,hN⟩:=hSw;obtain ⟨u0,u1,u2,u3,u4,u5⟩:=hN.six;go_simp<;>with_reducible rfl
 try simp only [Act.put,zS,eZ,eS]
 refine tkH 14 _ (v:=.bool true) hHeld ?_ ?_
 skip
 ·intro w hSw;go_simp<;>first | done | with_reducible rfl | simp [hbb] | (simp at hbb;simp [hbb])
 try simp only [Act.put,zS,eZ,eS]
 refine tkH 15 _ (v:=.bool true) hHeld ?_ ?_
 skip
 ·intro w hSw;go_simp<;>first | done | with_reducible rfl | simp
 try simp only [Act.put,zS,eZ,eS]
 refine tkI 16 rfl hHeld ?_
 try simp only [Act.put,zS,eZ,eS]
 refine wpAnyH_done (by kernel_rfl) ?_ _
 go_wp2
 all_goals
  go_ret2
  exact ⟨rfl,HB00.out.trans (HB1.out.mono HB00.out.size)⟩
end Go.Proofs.YtghnfnieppfhgaaGreat
