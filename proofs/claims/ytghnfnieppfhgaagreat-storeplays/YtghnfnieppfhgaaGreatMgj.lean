/- What is proved here: Narrow of any domain, where nothing was pushed: what becomes of a store. What is proved here: store.Events of any store that has variables. -/
import Derived.Test.YtghnfnieppfhgaaGreatMcj
import Derived.Test.YtghnfnieppfhgaaGreatFa
import Derived.Test.YtghnfnieppfhgaaGreatAa
import Derived.Test.YtghnfnieppfhgaaGreatKgj
set_option linter.unusedVariables false
set_option linter.unusedSimpArgs false
set_option maxRecDepth 100000
set_option maxHeartbeats 4000000
namespace Go.Proofs.YtghnfnieppfhgaaGreat
open Go.RowKit Go.Shelf
structure Held (d : MD) : Prop where
 r:rightM d=true
 f:Dm.FitsR d.r
 n:d.r.length≤4096
 lo:d.lo.length≤64
 up:d.up.length≤64
theorem right_held {d:MD} (h:rightM d=true):Held d:=by
 cases hs:d.set
 ·have hw:rightW d=true:=by unfold rightM at h;rwa [if_neg (by rw [hs];decide)] at h
  unfold rightW at hw
  simp only [Bool.and_eq_true,decide_eq_true_eq] at hw
  obtain ⟨⟨⟨⟨w1,w2⟩,w3⟩,w4⟩,w5⟩:=hw
  have hR:Dm.Right d.r:=by unfold Dm.rightB at w1;simpa using w1
  refine ⟨h,fun i hi=>?_,hR.1,by omega,by omega⟩
  have:=hR.2 i hi
  unfold Dm.OkAt at this
  unfold Dm.Fits
  omega
 ·have hw:St.rightD (sdM d)=true:=by unfold rightM at h;rwa [if_pos hs] at h
  have hR:St.RightD (sdM d):=by unfold St.rightD at hw;simpa using hw
  have h0:d.r.length=0:=hR.2.1
  exact ⟨h,fun i hi=>by omega,by omega,hR.2.2.1.1,hR.2.2.2.1.1⟩
theorem ofSD_held {s:St.SD} (h:St.RightD s):Held (ofSD s):=by
 refine right_held ?_
 have e:sdM (ofSD s)=s:=by
  cases s
  have h2:=h.2.1
  simp only at h2
  simp [sdM,ofSD,h2]
 unfold rightM
 rw [if_pos (show (ofSD s).set=true from h.1),e]
 unfold St.rightD
 exact decide_eq_true h
theorem bothR_right (a b:List Dm.Rg):Dm.Right (Dm.bothR a b):=by
 have ha:=Dm.tk_right a
 have hb:=Dm.tk_right b
 unfold Dm.bothR
 split
 ·rename_i hl
  obtain ⟨f1,f2⟩:=Dm.ov_facts (Dm.right_ord ha).1 (Dm.right_ord hb).1
  refine Dm.ord_right f1 ?_ hl
  obtain ⟨_,hi⟩:=Dm.right_ord ha
  have hb:∀ x∈Dm.vals (Dm.ov (Dm.tk a) (Dm.tk b)),-1000000≤x∧x≤1000000:=fun x hx=>by
   obtain ⟨r,q1,q2⟩:=(Dm.mem_vals' _ _).1 ((f2 x).1 hx).1
   have:=hi r q1
   omega
  intro r hr
  have h2:=f1.1 r hr
  have b1:=hb r.1 ((Dm.mem_vals' _ _).2 ⟨r,hr,Int.le_refl _,h2⟩)
  have b2:=hb r.2 ((Dm.mem_vals' _ _).2 ⟨r,hr,h2,Int.le_refl _⟩)
  constructor<;>omega
 ·exact ha
theorem both_held {o d:MD} (ho:rightM o=true):Held (bothA o d):=by
 unfold bothA
 split
 ·exact ofSD_held (bothD_right _ _)
 ·refine right_held ?_
  unfold rightM bothW
  simp only [Bool.false_eq_true,if_false]
  unfold rightW
  simp [Dm.rightB_yes (bothR_right _ _)]
def narM (st:StM) (v:Int) (d:MD):StM :=
 if thereB st v=false then st else
 match st.D[v.toNat]? with
 | none=>st
 | some o=>if rightM d=false then st else if d.set≠o.set then st else if 0<st.e then st else if sameA o (bothA o d)=true then st else narrowA st v.toNat o (bothA o d) (chM o (bothA o d))
theorem num_pos {d:MD} (h:emptyA d=false) (hs:d.set=false):0<d.r.length:=by
 unfold emptyA emptyW at h
 rw [if_neg (by rw [hs];decide)] at h
 simp at h
 exact List.length_pos_iff.2 h
def ansM (st:StM) (v:Int) (d:MD):Int × Int:=if thereB st v=false then (0,1) else match st.D[v.toNat]? with
 | none=>(0,1)
 | some o=>if rightM d=false then (0,20) else if d.set≠o.set then (0,20) else if 0<st.e then (0,6) else if sameA o (bothA o d)=true then (0,0) else (if emptyA (bothA o d) then 2 else 1,0)
theorem narrow_ans [Gh] {W:World} {p:Nat} {st:StM} {sl:Sl} {c:List Value} {d:MD} (h:Sto W p st sl) {X0:Nat→Prop} (hc:Dc X0 W c d) (v:Int) (hz:Sz st) (hzs:st.saved.length<10000000) (hf:Dm.FitsR d.r) (hH:∀ o∈st.D,Held o) (he:0≤st.e) (hne:st.e=0→∀ o∈st.D,emptyA o=false) :
  Calls Tryz.prog 14 #[ptr p,.int .i64 v,.agg c.toArray] W fun e w'=>e = .returned (.tuple #[.int .i64 (ansM st v d).1,.int .i64 (ansM st v d).2])∧∃ sl',Sto w' p (narM st v d) sl'∧Up (XS p sl) (XS p sl') W∧Kept (XS p sl) W w':=by
 have stay:∀ {x y:Int},(Calls Tryz.prog 14 #[ptr p,.int .i64 v,.agg c.toArray] W fun e w'=>e = .returned (.tuple #[.int .i64 x,.int .i64 y])∧Below W.heap.size W w')→narM st v d=st→ansM st v d=(x,y)→Calls Tryz.prog 14 #[ptr p,.int .i64 v,.agg c.toArray] W fun e w'=>e = .returned (.tuple #[.int .i64 (ansM st v d).1,.int .i64 (ansM st v d).2])∧∃ sl',Sto w' p (narM st v d) sl'∧Up (XS p sl) (XS p sl') W∧Kept (XS p sl) W w':=fun {x y} hk e0 e9=>hk.mono fun e w' ⟨h1,h2⟩=>⟨by rw [e9];exact h1,sl,by rw [e0];exact h.below h2,Up.refl _ _,Kept.of_below h2⟩
 cases hv:thereB st v
 ·exact stay (narrow_out h hc v hv hz) (by unfold narM;rw [if_pos hv]) (by unfold ansM;rw [if_pos hv])
 ·have hv':¬thereB st v=false:=by rw [hv];decide
  obtain ⟨n,rfl⟩:∃ n:Nat,v=n:=by
   unfold thereB at hv
   simp only [Bool.and_eq_true,decide_eq_true_eq] at hv
   exact ⟨v.toNat,by omega⟩
  have hvl:n<st.D.length:=by unfold thereB at hv;simp at hv;exact hv
  obtain ⟨o,ho⟩:∃ o,st.D[n]? = some o:=⟨_,List.getElem?_eq_getElem hvl⟩
  have hm:=List.mem_of_getElem? ho
  have hO:=hH o hm
  have hB:=both_held (o:=o) (d:=d) hO.r
  have e1:narM st (n:Int) d=if rightM d=false then st else if d.set≠o.set then st else if 0<st.e then st else if sameA o (bothA o d)=true then st else narrowA st n o (bothA o d) (chM o (bothA o d)):=by
   unfold narM
   rw [if_neg hv',Int.toNat_natCast,ho]
  have e1a:ansM st (n:Int) d=if rightM d=false then (0,20) else if d.set≠o.set then (0,20) else if 0<st.e then (0,6) else if sameA o (bothA o d)=true then (0,0) else (if emptyA (bothA o d) then 2 else 1,0):=by
   unfold ansM
   rw [if_neg hv',Int.toNat_natCast,ho]
  cases hR:rightM d
  ·exact stay (narrow_bad1 h hc n ho hf hR hz) (by rw [e1,if_pos hR]) (by rw [e1a,if_pos hR])
  ·have hR':¬rightM d=false:=by rw [hR];decide
   by_cases hk:d.set=o.set
   ·by_cases hE:0<st.e
    ·have e2:narM st (n:Int) d=st:=by rw [e1,if_neg hR',if_neg (by simpa using hk),if_pos hE]
     have e2a:=e1a
     rw [if_neg hR',if_neg (by simpa using hk),if_pos hE] at e2a
     cases hs:o.set
     ·exact stay (narrow_failed_b false h hc n ho (by rw [hk,hs]) hs hf hR hE hz) e2 e2a
     ·exact stay (narrow_failed_b true h hc n ho (by rw [hk,hs]) hs hf hR hE hz) e2 e2a
    ·have h0:st.e=0:=by omega
     cases hS:sameA o (bothA o d)
     ·have e2:narM st (n:Int) d=narrowA st n o (bothA o d) (chM o (bothA o d)):=by rw [e1,if_neg hR',if_neg (by simpa using hk),if_neg hE,if_neg (by rw [hS];decide)]
      have e2a:=e1a
      rw [if_neg hR',if_neg (by simpa using hk),if_neg hE,if_neg (by rw [hS];decide)] at e2a
      rw [e2]
      have kch:emptyA (bothA o d)=false→∀ (X Y:Nat→Prop) (w:World) (k k':List Value),Dc X w k o→Dc Y w k' (bothA o d)→Calls Tryz.prog 54 #[.agg k.toArray,.agg k'.toArray] w fun e w'=>e = .returned (.int .i64 (chM o (bothA o d)))∧Below w.heap.size w w':=fun hne2 X Y w k k' h1 h2 =>
       change_d h1 h2 hB.f (by have:=hO.lo;omega) (fun hs=>⟨num_pos (hne h0 o hm) hs,num_pos hne2 (by rw [bothA_set];exact hs)⟩) (by have:=hO.n;omega) (by have:=hB.n;omega)
      cases hs:o.set
      ·exact (narrow_ch_b false h hc n ho (by rw [hk,hs]) hs hf hO.f hB.f hR h0 (hne h0 o hm) hz hzs hS _ kch).mono fun e w' ⟨h1,h2⟩=>⟨by rw [e2a];exact h1,h2⟩
      ·exact (narrow_ch_b true h hc n ho (by rw [hk,hs]) hs hf hO.f hB.f hR h0 (hne h0 o hm) hz hzs hS _ kch).mono fun e w' ⟨h1,h2⟩=>⟨by rw [e2a];exact h1,h2⟩
     ·have e2:narM st (n:Int) d=st:=by rw [e1,if_neg hR',if_neg (by simpa using hk),if_neg hE,if_pos hS]
      have e2a:=e1a
      rw [if_neg hR',if_neg (by simpa using hk),if_neg hE,if_pos hS] at e2a
      cases hs:o.set
      ·exact stay (narrow_same_b false h hc n ho (by rw [hk,hs]) hs hf hO.f hB.f hR h0 hz hS) e2 e2a
      ·exact stay (narrow_same_b true h hc n ho (by rw [hk,hs]) hs hf hO.f hB.f hR h0 hz hS) e2 e2a
   ·exact stay (narrow_bad2 h hc n ho hk hf hR hz) (by rw [e1,if_neg hR',if_pos hk]) (by rw [e1a,if_neg hR',if_pos hk])
def evA (st:StM) (v:Nat):Option (List Value):=if st.why.getD v 0≠0∧emptyA (st.D.getD v ⟨false,[],[],[],0,0⟩)=false then some [.int .i64 v,.int .i64 (st.why.getD v 0)] else none
def evsA (st:StM) (k:Nat):List (List Value):=(List.range k).filterMap (evA st)
theorem evsA_succ (st:StM) (k:Nat):evsA st (k+1)=evsA st k++(evA st k).toList:=by
 unfold evsA
 rw [List.range_succ,List.filterMap_append]
 cases h:evA st k<;>simp [h]
theorem evsA_len (st:StM) (k:Nat):(evsA st k).length≤k:=by
 unfold evsA
 have:=List.length_filterMap_le (evA st) (List.range k)
 simpa using this
theorem events_d [Gh] {W:World} {p:Nat} {st:StM} {sl:Sl} (h:Sto W p st sl) (hz:Sz st) (hn0:0<st.D.length) :
  Calls Tryz.prog 19 #[ptr p] W fun e w'=>∃ s,e = .returned s∧Rw w' 61 s 2 (evsA st st.D.length)∧(∀ b,s.ownBlock=some b→W.heap.size≤b)∧Sto w' p { st with why:=List.replicate st.D.length 0 } sl∧Kept (XS p sl) W w':=by
 obtain ⟨n,k,m,sa,sc,ma,mc,ia,ic,da,dc,wa,wc,rfl,HL⟩:=h.look
 have hlw:=h.lw
 obtain ⟨gw,hgw⟩:∃ g,wa=some ⟨g,0,none⟩:=by
  obtain ⟨g,cp,e1,_⟩:=h.why.at (i:=0) (c:=[.int .i64 (st.why.getD 0 0)]) (by rw [ivs_get,List.getElem?_eq_getElem (by omega)];simp [List.getD,show 0<st.why.length by omega])
  injection e1 with e1 _ _
  exact ⟨g,e1⟩
 subst hgw
 have HWAT:Hid (∀ X,Sto X p st ⟨.slice sa k sc,.slice ma m mc,.slice ia n ic,.slice da n dc,.slice (some ⟨gw,0,none⟩) n wc⟩→∀ i,i<n→X.cell? ⟨gw,i,none⟩=some (.int .i64 (st.why.getD i 0))∧X.frozen? ⟨gw,i,none⟩=false):=by
  intro X hX i hi
  have hi':i<st.why.length:=by rw [hlw,HL.out.1];exact hi
  obtain ⟨g,cp,q1,_,_,_,q5,q6⟩:=hX.why.at (i:=i) (c:=[.int .i64 (st.why.getD i 0)]) (by rw [ivs_get,List.getElem?_eq_getElem hi'];simp [List.getD,hi'])
  injection q1 with q1 _ _
  injection q1 with q1
  injection q1 with q1 _ _
  subst q1
  rw [Nat.mul_one] at q5 q6
  exact ⟨rng_one q5,there_one q6 (by decide)⟩
 have HH:Hid (Sto W p st ⟨.slice sa k sc,.slice ma m mc,.slice ia n ic,.slice da n dc,.slice (some ⟨gw,0,none⟩) n wc⟩):=h
 have hn1:n≤1000:=by rw [←HL.out.1];exact hz.1
 have hnp:0<n:=by rw [←HL.out.1];exact hn0
 have HGW:Hid (gw<W.heap.size):=h.why.lt rfl
 have hcw:n≤wc∧wc≤9223372036854775807:=by
  obtain ⟨a,q,c,e1,hq,h1,h2⟩:=h.why.look
  injection e1 with _ e2 e3
  subst e2 e3
  exact ⟨h1,h2⟩
 obtain ⟨hcw1,hcw2⟩:=hcw
 obtain ⟨z0,z1,z2,z3,z4,z5,zf⟩:=h.cells
 simp only at z5
 have HLW:Hid (st.why.length=st.D.length):=hlw
 rw [HL.out.1]
 clear z0 z1 z2 z3 z4 zf h hz hn0 hlw
 go_enter Tryz.func19,Tryz.ntmps19
 go_wp2
 go_loopw [3,4,5,13] (fun out _ _ i wr=>∃ j:Nat,j≤n∧i = .int .i64 (j:Int)∧Hid (Rw wr 61 out 2 (evsA st j))∧Hid (∀ b,out.ownBlock=some b→W.heap.size≤b)∧Hid (Below W.heap.size W wr)) (fun _ _ _ i _=>n-(intOf i).toNat)
 case atStart=>exact ⟨0,Nat.zero_le _,rfl,⟨(fun c hc=>by simp [evsA] at hc),World.ownsRow_nil _ _ _ _⟩,(fun b hb=>by cases hb),Below.refl _ _⟩
 case round =>
  obtain ⟨j,hj,rfl,HR,HF,HB⟩:=hrel
  have HS:=HH.out.below HB.out
  by_cases hlt:j<n
  ·have hlt':(j:Int)<n:=by omega
   have hcj:=(HWAT.out _ HS j hlt).1
   obtain ⟨o,ho⟩:∃ o,st.D[j]? = some o:=⟨_,List.getElem?_eq_getElem (by rw [HL.out.1];exact hlt)⟩
   have hgo:st.D.getD j ⟨false,[],[],[],0,0⟩=o:=by rw [List.getD,ho];rfl
   obtain ⟨oa,oq,oc,eo,HQ,hoc1,hoc2⟩:=HR.out.look
   subst eo
   obtain ⟨gd,cap,c',e1,hgd,hcap,hcm,hr,hth,hco⟩:=HS.dom_at ho
   injection e1 with e1 e2 e3
   subst e1 e3
   clear e2
   rw [HL.out.1] at hcap
   obtain ⟨b',ra',n0',rc',a1',n1',c1',a2',n2',c2',x',y',rfl,HE',_,_,_⟩:=hco.look
   have ke:=emptiness_d hco
   obtain ⟨u0,u1,u2,u3,u4,u5⟩:=rng6 hr
   obtain ⟨z0,z1,z2,z3,z4,z9,zf⟩:=HS.cells
   simp only at z3
   obtain ⟨y,hy⟩:∃ q,st.why.getD j 0=q:=⟨_,rfl⟩
   rw [hy] at hcj
   have hEV:evA st j=if y≠0∧emptyA o=false then some [.int .i64 j,.int .i64 y] else none:=by unfold evA;rw [hy,hgo]
   have HEV:Hid _:=hEV
   have HSS:Hid _:=HS
   clear hEV hy ho hgo hr hth hco hgd HS z0 z1 z2 z4 z9 zf
   by_cases hy0:y=0
   ·subst hy0
    go_wp2
    go_roundw
    case rel=>exact ⟨j+1,by omega,by go_num,(by rw [Hid,evsA_succ,HEV.out,if_neg (by simp)];simpa using HR.out),HF,HB⟩
    case measure=>simp [intOf];omega
   ·have hyb:(y != 0)=true:=by simpa using hy0
    cases hE:emptyA o
    ·rw [hE] at ke
     have he0:emptI false=0:=rfl
     rw [he0] at ke
     clear he0
     go_wp2_with fail
     refine ke.mono ?_
     clear ke u0 u1 u2 u3 u4 u5 z3
     rintro e w1 ⟨rfl,hb1⟩
     have HB1:=hid (HB.out.trans (hb1.mono HB.out.size))
     have HR1:Hid (Rw w1 61 (.slice oa oq oc) 2 (evsA st j)):=HR.out.keep fun g hg=>hb1.block g (HR.out.lt hg)
     clear hb1
     obtain ⟨bs,hbs⟩:∃ q,w1.heap.size=q:=⟨_,rfl⟩
     obtain ⟨w2,hw2⟩:∃ q,w1.alloc (Obj.cells #[.int .i64 j,.int .i64 y] 61)=q:=⟨_,rfl⟩
     have hb12:Below w1.heap.size w1 w2:=by rw [←hw2];exact (Below.refl _ _).alloc (Nat.le_refl _) _
     have HR2:Hid (Rw w2 61 (.slice oa oq oc) 2 (evsA st j)):=HR1.out.keep fun g hg=>hb12.block g (HR1.out.lt hg)
     have HBS:Hid (Bx w2 bs #[.int .i64 j,.int .i64 y] 61):=by rw [←hw2];exact Bx.new' hbs _ _
     have HB2:=hid (HB1.out.trans (hb12.mono HB1.out.size))
     have HW2:Hid (w1.alloc (Obj.cells #[.int .i64 j,.int .i64 y] 61)=w2):=hw2
     have HEL:Hid ((evsA st j).length≤100000000):=by have:=evsA_len st j;rw [Hid];omega
     clear hw2 hb12
     go_wp2_with (at_builtin;(try rw [HW2.out]);refine list_app HR2.out 47 Tryz.underlying47 Tryz.infoEvent rfl (by decide) rfl _ _ rfl rfl ⟨bs,0,none⟩ 1 (by with_unfolding_all rfl) [.int .i64 j,.int .i64 y] rfl (fun j u hu=>by rw [Addr.add_mid,Nat.zero_add,HBS.out.cell j];simpa using hu) (by intro u hu;simp only [List.mem_cons,List.not_mem_nil,or_false] at hu;rcases hu with rfl | rfl<;>rfl) HEL.out (by decide) ?_;intro s3 w3 hr3 hg3 hn3;refine Hid.out ?_)
     refine (show Hid _ from ?_)
     unfold Hid
     obtain ⟨pa,qa,ca,rfl,_,_,_⟩:=hr3.look
     have HR3:Hid (Rw w3 61 (.slice pa qa ca) 2 (evsA st (j+1))):=by rw [Hid,evsA_succ,HEV.out,if_pos ⟨hy0,hE⟩];exact hr3
     have HF3:Hid (∀ b,(Value.slice pa qa ca).ownBlock=some b→W.heap.size≤b):=fun b hb=>(hn3 b hb).elim (HF.out b) (fun q=>Nat.le_trans HB2.out.size q)
     have HB3:Hid (Below W.heap.size W w3):=HB2.out.trans (growB hg3 (fun b hb=>HF.out b hb) HB2.out.size)
     clear hr3 hg3 hn3 HR2 HB2 HBS HW2 hbs
     go_wp2
     go_roundw
     case rel=>exact ⟨j+1,by omega,by go_num,HR3,HF3,HB3⟩
     case measure=>simp [intOf];omega
    ·rw [hE] at ke
     have he0:emptI true=1:=rfl
     rw [he0] at ke
     clear he0
     go_wp2_with fail
     refine ke.mono ?_
     clear ke u0 u1 u2 u3 u4 u5 z3
     rintro e w1 ⟨rfl,hb1⟩
     have HB1:=hid (HB.out.trans (hb1.mono HB.out.size))
     have HR1:Hid (Rw w1 61 (.slice oa oq oc) 2 (evsA st j)):=HR.out.keep fun g hg=>hb1.block g (HR.out.lt hg)
     clear hb1
     go_wp2
     go_roundw
     case rel=>exact ⟨j+1,by omega,by go_num,(by rw [Hid,evsA_succ,HEV.out,if_neg (by simp [hE])];simpa using HR1.out),HF,HB1⟩
     case measure=>simp [intOf];omega
  ·obtain rfl:j=n:=by omega
   have hlt':¬(j:Int)<j:=by omega
   obtain ⟨oa,oq,oc,eo,HQ,hoc1,hoc2⟩:=HR.out.look
   subst eo
   have hcl:=HS.clear_why (g:=gw) (cap:=wc) (n:=j) rfl
   have e9:st.why.length=j:=by rw [HLW.out,HL.out.1]
   rw [e9] at hcl
   have hclr:∀ ty,(Builtin.clear_ #[63] ty #[.slice (some ⟨gw,0,none⟩) j wc]).run Tryz.prog wr = .ok (.tuple #[]) (wr.setCells gw 0 (List.replicate j (.int .i64 0))):=fun ty=>Lib.run_clear_slice wr 63 3 ty (.int .i64 0) Tryz.underlying63 (fun w=>Tryz.zeroValue3 w) rfl rfl gw 0 j wc hnp (fun i hi=>by rw [Nat.zero_add,(HWAT.out _ HS i hi).1];rfl) (fun i hi=>by rw [Nat.zero_add];exact (HWAT.out _ HS i hi).2)
   obtain ⟨RR,hRR⟩:∃ q,List.replicate j (Value.int .i64 0)=q:=⟨_,rfl⟩
   rw [hRR] at hcl
   simp only [hRR] at hclr
   have HCL:Hid _:=hcl
   have HK:Hid (Kept (XS p ⟨.slice sa k sc,.slice ma m mc,.slice ia j ic,.slice da j dc,.slice (some ⟨gw,0,none⟩) j wc⟩) W (wr.setCells gw 0 RR)):=Kept.setCells (.inr (.inr (.inr (.inr (.inr (.inl rfl)))))) _ 0 (Kept.mono (Below.kept0 HB.out) (fun _ q=>q.elim))
   have HRF:Hid (Rw (wr.setCells gw 0 RR) 61 (.slice oa oq oc) 2 (evsA st j)):=HR.out.keep fun g hg=>(Kept.many (w:=wr) rfl).block g (HR.out.lt hg) (by have:=HF.out g hg;have:=HGW.out;omega)
   obtain ⟨z0,z1,z2,z3,z4,z9,zf⟩:=HS.cells
   simp only at z9
   clear hcl hRR HS z0 z1 z2 z3 z4 zf e9
   go_wp2
   go_ret
   exact ⟨_,rfl,HRF.out,HF.out,HCL.out,HK.out⟩
theorem events_0 [Gh] {W:World} {p:Nat} {st:StM} {sl:Sl} (h:Sto W p st sl) (h0:st.D.length=0) :
  Calls Tryz.prog 19 #[ptr p] W fun e w'=>e = .returned (.slice none 0 0)∧w'=W:=by
 obtain ⟨n,k,m,sa,sc,ma,mc,ia,ic,da,dc,wa,wc,rfl,HL⟩:=h.look
 obtain rfl:n=0:=by rw [←HL.out.1];exact h0
 obtain ⟨z0,z1,z2,z3,z4,z5,zf⟩:=h.cells
 simp only at z5
 have hclr:∀ ty,(Builtin.clear_ #[63] ty #[.slice wa 0 wc]).run Tryz.prog W = .ok (.tuple #[]) W:=fun ty=>by
  cases wa<;>simp [Builtin.clear_,run_underlying Tryz.underlying63]
 clear h h0 HL z0 z1 z2 z3 z4 zf
 go_enter Tryz.func19,Tryz.ntmps19
 go_wp2
 go_loopw [3,13] (fun o i wr=>o = .slice none 0 0∧i = .int .i64 0∧wr=W) (fun _ _ _=>0)
 case atStart=>exact ⟨rfl,rfl,rfl⟩
 case round =>
  obtain ⟨rfl,rfl,rfl⟩:=hrel
  go_wp2
  go_ret
  exact ⟨rfl,rfl⟩
end Go.Proofs.YtghnfnieppfhgaaGreat
