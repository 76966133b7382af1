/- What is proved here: the walk of StorePlays. -/
import Derived.Test.YtghnfnieppfhgaaGreatQcj
import Derived.Test.YtghnfnieppfhgaaGreatKu
import Derived.Test.YtghnfnieppfhgaaGreatPbj
set_option linter.unusedVariables false
set_option linter.unusedSimpArgs false
set_option maxRecDepth 100000
set_option maxHeartbeats 16000000
namespace Go.Proofs.YtghnfnieppfhgaaGreat
open Go.RowKit Go.Shelf
theorem rnew_big {W:World} {p1:Option Addr} {n k1:Nat} (hl:1000<n) :
  Calls Tryz.prog 9 #[.slice p1 n k1] W fun e w'=>e = .returned (.tuple #[.pointer none,.int .i64 4])∧Below W.heap.size W w':=by
 have hl':(1000:Int)<(n:Int):=by omega
 go_enter Tryz.func9,Tryz.ntmps9
 go_wp2
 go_ret2
 exact ⟨rfl,Below.refl _ _⟩
theorem new_3p {W:World} {s:Value} {l:List MD} (hl:Ld W s l) (hf:∀ d∈l,Dm.FitsR d.r) :
  (1000<l.length∧Calls Tryz.prog 8 #[s] W fun e w'=>e = .returned (.tuple #[.pointer none,.int .i64 4])∧Below W.heap.size W w')∨((∃ d∈l,rightM d=false)∧l.length≤1000∧Calls Tryz.prog 8 #[s] W fun e w'=>e = .returned (.tuple #[.pointer none,.int .i64 20])∧Below W.heap.size W w')∨((∀ d∈l,rightM d=true)∧l.length≤1000):=by
 by_cases hb:1000<l.length
 ·exact .inl ⟨hb,new_big hl hb⟩
 ·by_cases hr:∀ d∈l,rightM d=true
  ·exact .inr (.inr ⟨hr,by omega⟩)
  ·have hno:∃ d∈l,rightM d=false:=Classical.byContradiction fun hc=>hr fun d hd=>by
    cases q:rightM d
    ·exact absurd ⟨d,hd,q⟩ hc
    ·rfl
   exact .inr (.inl ⟨hno,by omega,@new_no noG W s l hl (fun b q=>(q:False).elim) (by omega) hf hno⟩)
theorem two_mk {W w1 w2 w3:World} {s r:Nat} {st:StM} {sl:Sl} {D:List MD} {rl:Rl} {Y V:Nat→Prop} (b1:Below W.heap.size W w1) (hY:∀ b,Y b→W.heap.size≤b∧b<w1.heap.size) (hV:∀ b,V b→Y b) (hs:Sid w2 s st sl Y) (ls:∀ b,OX s sl b→w1.heap.size≤b) (b2:Below w1.heap.size w1 w2)
  (hr:Rs (fun b=>OX s sl b∨Y b) w3 r D [] [] rl) (lr:∀ b,RX r rl b→w2.heap.size≤b) (b3:Below w2.heap.size w2 w3):Two W w3 s r st sl D [] [] rl V:=by
 have s1:=b1.size
 have s2:=b2.size
 have s3:=b3.size
 refine ⟨hs.frame (X:=fun _=>False) (Kept.of_below b3) (fun _ q=>q.elim) (fun b q=>?_) (fun b q=>?_),hr.frame (X:=fun _=>False) (Kept.refl _ _) (fun _ q=>q.elim) (fun b q=>?_) (fun b q=>?_),fun b q=>Nat.le_trans s1 (ls b q),fun b q=>Nat.le_trans s1 (Nat.le_trans s2 (lr b q)),fun b q=>(hY b (hV b q)).1,b1.trans ((b2.trans (b3.mono s2)).mono s1)⟩
 ·rcases q with q | q
  ·exact .inr (lr b q)
  ·exact .inl (hV b q)
 ·rcases q with q | q
  ·exact hr.x_lt b q
  ·have:=(hY b (hV b q)).2;omega
 ·rcases q with q | q
  ·exact .inl (.inl q)
  ·exact .inl (.inr (hV b q))
 ·rcases q with q | q
  ·exact hr.al b (.inl q)
  ·exact hr.al b (.inr (hV b q))
theorem Scr2.below {w w':World} {s:Value} {S:List (Int × Int × MD)} (h:Scr2 w s S) (hb:Below w.heap.size w w'):Scr2 w' s S:=by
 obtain ⟨a,c,e,h⟩:=h
 refine ⟨a,c,e,fun h0=>?_⟩
 obtain ⟨b,off,e1,e2,e3⟩:=h h0
 refine ⟨b,off,e1,Nat.lt_of_lt_of_le e2 hb.size,fun i kd v d hd=>?_⟩
 obtain ⟨c0,c1,c2,c3,c4,c5,q,q1,q2,q3,q4,q5,q6,q7,q8⟩:=e3 i kd v d hd
 exact ⟨c0,c1,c2,c3,c4,c5,q.below hb,(hb.cell (p:=⟨b,_,none⟩) e2).trans q1,(hb.cell (p:=⟨b,_,none⟩) e2).trans q2,(hb.cell (p:=⟨b,_,none⟩) e2).trans q3,(hb.cell (p:=⟨b,_,none⟩) e2).trans q4,(hb.cell (p:=⟨b,_,none⟩) e2).trans q5,(hb.cell (p:=⟨b,_,none⟩) e2).trans q6,(hb.cell (p:=⟨b,_,none⟩) e2).trans q7,(hb.cell (p:=⟨b,_,none⟩) e2).trans q8⟩
theorem plays_walk {W:World} {p1:Option Addr} {n k1:Nat} {p2:Option Addr} {ns k2:Nat} {l:List MD} {S:List (Int × Int × MD)} (hl:Ds W (.slice p1 n k1) l) (hz:∀ d∈l,Dm.FitsR d.r∧SzD d) (hn:l.length*96≤140737488351232) (hS:Scr2 W (.slice p2 ns k2) S) (hfS:∀ q∈S,Dm.FitsR q.2.2.r∧SzD q.2.2) :
  Calls Tryz.prog 3 #[.slice p1 n k1,.slice p2 ns k2] W fun e w'=>e = .returned (.bool true)∧Below W.heap.size W w':=by
 have hnl:l.length=n:=by obtain ⟨a,c,e,_⟩:=hl;injection e with _ e2 _;exact e2.symm
 have hns:S.length=ns:=by obtain ⟨a,c,e,_⟩:=hS;injection e with _ e2 _;exact e2.symm
 have HKN:Hid (∀ w,Below W.heap.size W w→Calls Tryz.prog 10 #[] w fun e w'=>e = .returned (.bool true)∧Below W.heap.size W w'):=fun w hb=>(known_true w).mono fun e w' ⟨he,hb'⟩=>⟨he,hb.trans (hb'.mono hb.size)⟩
 have HNL:Hid (l.length=n):=hnl
 have HNS:Hid (S.length=ns):=hns
 have HLD:Hid (∀ w,Below W.heap.size W w→Ds w (.slice p1 n k1) l):=fun w hb=>hl.below hb
 have HFL:Hid (∀ d∈l,Dm.FitsR d.r):=fun d hd=>(hz d hd).1
 have HZL:Hid (∀ d∈l,SzD d):=fun d hd=>(hz d hd).2
 have HSS:Hid (∀ w,Below W.heap.size W w→Scr2 w (.slice p2 ns k2) S):=fun w hb=>hS.below hb
 have HFS:Hid (∀ q∈S,Dm.FitsR q.2.2.r):=fun q hq=>(hfS q hq).1
 have HZS:Hid (∀ q∈S,SzD q.2.2):=fun q hq=>(hfS q hq).2
 have kl:=lent7_x hl (fun d hd=>(hz d hd).2) hn
 clear hl hz hn hS hfS hnl hns
 go_enter Tryz.func3,Tryz.ntmps3
 go_wp2_with fail
 refine kl.mono ?_
 clear kl
 rintro e w1 ⟨lv,vs,rfl,hlx,hb1⟩
 obtain ⟨la,lc,rfl,_,_⟩:=hlx.r.shape
 have hvn:vs.length=n:=by rw [hlx.n,HNL.out]
 rw [hvn] at hlx ⊢
 have HVN:Hid (vs.length=n):=hvn
 obtain ⟨V,hV⟩:∃ V:Nat→Prop,V=fun b=>W.heap.size≤b∧b<w1.heap.size∧(Value.slice la n lc).ownBlock≠some b:=⟨_,rfl⟩
 have HV:Hid (∀ b,V b↔(W.heap.size≤b∧b<w1.heap.size∧(Value.slice la n lc).ownBlock≠some b)):=fun b=>by rw [hV]
 have HDU:Hid (∀ (i:Nat) c d,vs[i]? = some c→l[i]? = some d→Du (fun b=>¬V b) w1 c d):=fun i c d h1 h2=>(hlx.u i c d h1 h2).up (fun b hb=>by
  by_cases q1:(Value.slice la n lc).ownBlock=some b
  ·exact .inl (.inl q1)
  ·by_cases q2:b<W.heap.size
   ·exact .inl (.inr q2)
   ·by_cases q3:b<w1.heap.size
    ·exact absurd ((HV.out b).2 ⟨by omega,q3,q1⟩) hb
    ·exact .inr (by omega))
 have HOV:Hid (∀ g,(Value.slice la n lc).ownBlock=some g→¬V g):=fun g hg hv=>((HV.out g).1 hv).2.2 hg
 have HRW:Hid (Rw w1 37 (.slice la n lc) 6 vs):=hlx.r
 have HB1:Hid (Below W.heap.size W w1):=hb1
 have HLX:Hid (Ld w1 (.slice la n lc) l):=ld_of hlx.ds
 have hnew:=new_3p HLX.out HFL.out
 clear hlx hb1 hvn hV
 rcases hnew with ⟨hbig,kn⟩ | ⟨hno,hl1,kn⟩ | ⟨hr,hl1⟩
 ·have hbn:1000<n:=by rw [←HNL.out];exact hbig
  clear hbig
  go_wp2_with fail
  refine kn.mono ?_
  clear kn
  rintro e w2 ⟨rfl,hb2⟩
  have HB2:Hid (Below W.heap.size W w2):=HB1.out.trans (hb2.mono HB1.out.size)
  clear hb2
  go_wp2_with fail
  refine (rnew_big (W:=w2) hbn).mono ?_
  rintro e w3 ⟨rfl,hb3⟩
  have HB3:Hid (Below W.heap.size W w3):=HB2.out.trans (hb3.mono HB2.out.size)
  clear hb3 hbn
  go_wp2_with fail
  refine (HKN.out _ HB3.out).mono ?_
  rintro e wz ⟨rfl,hbz⟩
  go_wp2
  go_ret
  exact ⟨rfl,hbz⟩
 ·go_wp2_with fail
  refine kn.mono ?_
  clear kn
  rintro e w2 ⟨rfl,hb2⟩
  have HB2:Hid (Below W.heap.size W w2):=HB1.out.trans (hb2.mono HB1.out.size)
  clear hb2
  have kr:=rnew_gen (A:=fun _=>False) (HLD.out _ HB2.out) (fun b q=>q.elim) hl1 HFL.out HZL.out
  go_wp2_with fail
  refine kr.mono ?_
  clear kr
  rintro e w3 q3
  have q4:e = .returned (.tuple #[.pointer none,.int .i64 20])∧Below w2.heap.size w2 w3:=by
   rcases q3 with ⟨_,h2⟩ | ⟨h1,_⟩
   ·obtain ⟨d,h3,h4⟩:=hno;rw [h2 d h3] at h4;cases h4
   ·exact h1
  obtain ⟨rfl,hb3⟩:=q4
  have HB3:Hid (Below W.heap.size W w3):=HB2.out.trans (hb3.mono HB2.out.size)
  clear hb3 q3 hno
  go_wp2_with fail
  refine (HKN.out _ HB3.out).mono ?_
  rintro e wz ⟨rfl,hbz⟩
  go_wp2
  go_ret
  exact ⟨rfl,hbz⟩
 ·have HRR:Hid (∀ d∈l,rightM d=true):=hr
  have HL1:Hid (l.length≤1000):=hl1
  go_wp2_with fail
  refine (new_s (fun b=>W.heap.size≤b∧b<w1.heap.size) (fun b q=>q.2) HLX.out hl1 HFL.out hr).mono ?_
  rintro e w2 ⟨s,sl,rfl,hs,hsl,hb2⟩
  have HB2:Hid (Below W.heap.size W w2):=HB1.out.trans (hb2.mono HB1.out.size)
  have HB12:Hid (Below w1.heap.size w1 w2):=hb2
  have HSI:Hid (Sid w2 s (newA l) sl (fun b=>W.heap.size≤b∧b<w1.heap.size)):=hs
  have HSL:Hid _:=hsl
  clear hs hsl hb2 hr hl1
  have kr:=rnew_gen (A:=fun b=>OX s sl b∨(W.heap.size≤b∧b<w1.heap.size)) (HLD.out _ HB2.out) (fun b q=>by
   rcases q with q | q
   ·exact HSI.out.ox_lt b q
   ·have:=HB12.out.size;omega) HL1.out HFL.out HZL.out
  go_wp2_with fail
  refine kr.mono ?_
  clear kr
  rintro e w3 q3
  have q4:∃ r rl,e = .returned (.tuple #[ptr r,.int .i64 0])∧Rs (fun b=>OX s sl b∨(W.heap.size≤b∧b<w1.heap.size)) w3 r (l.map rtM) [] [] rl∧(∀ b,RX r rl b→w2.heap.size≤b)∧Below w2.heap.size w2 w3:=by
   rcases q3 with ⟨h1,_⟩ | ⟨_,d,h3,h4⟩
   ·exact h1
   ·rw [HRR.out d h3] at h4;cases h4
  clear q3
  obtain ⟨r,rl,rfl,hr3,hrl,hb3⟩:=q4
  have HT3:Hid (Two W w3 s r (newA l) sl (l.map rtM) [] [] rl V):=two_mk HB1.out (fun b q=>q) (fun b q=>⟨((HV.out b).1 q).1,((HV.out b).1 q).2.1⟩) HSI.out HSL.out HB12.out hr3 hrl hb3
  have HB13:Hid (Below w1.heap.size w1 w3):=HB12.out.trans (hb3.mono HB12.out.size)
  clear hr3 hrl hb3
  by_cases h60:(60:Int)<(n:Int)
  ·go_wp2_with fail
   refine (HKN.out _ HT3.out.bel).mono ?_
   rintro e wz ⟨rfl,hbz⟩
   go_wp2
   go_ret
   exact ⟨rfl,hbz⟩
  ·have HN6:Hid (n≤60):=by rw [Hid];omega
   have HRW3:=hid (HRW.out.keep fun g hg=>HB13.out.block g (HRW.out.lt hg))
   have HDU3:Hid (∀ (i:Nat) c d,vs[i]? = some c→l[i]? = some d→Du (fun b=>¬V b) w3 c d):=fun i c d h1 h2=>(HDU.out i c d h1 h2).below HB13.out
   clear HRW HDU HB12 HB13 HSI HSL HB2 HLX
   go_wp2
   go_loopw [10] (fun i wr=>∃ k:Nat,i = .int .i64 (k:Int)∧k≤n∧Hid (Sp V w3 wr)) (fun i _=>n-(intOf i).toNat)
   case atStart=>exact ⟨0,rfl,Nat.zero_le _,Sp.refl _ _⟩
   case round =>
    obtain ⟨k,rfl,hk,HSP⟩:=hrel
    by_cases hlt:k<n
    ·have hlt':(k:Int)<(n:Int):=by omega
     have hwk:IntKind.i64.wrap ((k:Int)+1)=(k:Int)+1:=by rw [IntKind.wrap_i64];have:=HN6.out;omega
     obtain ⟨c,hcx⟩:∃ c,vs[k]? = some c:=⟨_,List.getElem?_eq_getElem (by rw [HVN.out];exact hlt)⟩
     obtain ⟨d,hdx⟩:∃ d,l[k]? = some d:=⟨_,List.getElem?_eq_getElem (by rw [HNL.out];exact hlt)⟩
     have HH:Hid (Held d):=right_held (HRR.out d (List.mem_of_getElem? hdx))
     have hdu:=HDU3.out k c d hcx hdx
     obtain ⟨b,ra,n0,rc,a1,n1,c1,a2,n2,c2,x,y,rfl,HE,_,_,_⟩:=hdu.dc.look
     have HRWr:=hid (HRW3.out.keep fun g hg=>HSP.out.k.block g (HRW3.out.lt hg) (HOV.out g hg))
     obtain ⟨g,cap,e1,hgl,hcap,hcm,hr,hth⟩:=HRWr.out.at hcx
     injection e1 with e1 e2 e3
     subst e1 e3
     obtain ⟨i0,i1,i2,i3,i4,i5⟩:=rng6 hr
     have kp:=spoil_u (V:=V) hdu (fun b _ q=>Classical.byContradiction q) HT3.out.vlt HSP.out (by have:=HH.out.n;omega) (by have:=HH.out.lo;omega) (by have:=HH.out.up;omega)
     clear hcx hdx hdu hgl hcap hcm hr hth e2 HE
     go_wp2_with fail
     refine kp.mono ?_
     clear kp i0 i1 i2 i3 i4 i5
     rintro e wn ⟨rfl,hsp⟩
     have HSPn:Hid (Sp V w3 wn):=hsp
     clear hsp
     go_wp2
     go_roundw
     case rel=>exact ⟨k+1,by go_num,by omega,HSPn⟩
     case measure=>simp [intOf];omega
    ·have hlt':¬(k:Int)<(n:Int):=by omega
     obtain rfl:k=n:=by omega
     have HPL:Hid (Pl W wr s r (newA l).D (newA l) sl [] 0 rl):=by
      refine ⟨?_,bk_new HL1.out HRR.out⟩
      rw [show seenF 0 (newA l).why=[] from seen_rep _ 0,show (newA l).D=l.map rtM from (map_rt HRR.out).symm]
      exact HT3.out.spoil HSP.out.k (fun b q=>q.elim)
     have HD0:Hid ((newA l).D.length≤60):=by rw [Hid];show (l.map _).length≤60;rw [List.length_map,HNL.out];exact HN6.out
     clear HSP HT3 HRW3 HDU3 HOV HV hlt hlt' hk
     obtain ⟨D0,hD0⟩:∃ z,(newA l).D=z:=⟨_,rfl⟩
     obtain ⟨s0,hs0⟩:∃ z,newA l=z:=⟨_,rfl⟩
     rw [hD0] at HPL HD0
     rw [hs0] at HPL
     clear hD0 hs0
     obtain ⟨w4,hw4⟩:∃ z,wr=z:=⟨_,rfl⟩
     rw [hw4] at HPL ⊢
     clear hw4 wr
     go_wp2
     go_loopw [11] (fun i wr=>∃ (k:Nat) (st:StM) (sl:Sl) (Ls:List (List MD)) (rl:Rl),i = .int .i64 (k:Int)∧k≤ns∧k≤120∧Hid (Ls.length≤k)∧Hid (Pl W wr s r D0 st sl Ls k rl)) (fun i _=>ns-(intOf i).toNat)
     case atStart=>exact ⟨0,s0,sl,[],rl,rfl,Nat.zero_le _,Nat.zero_le _,Nat.le_refl _,HPL⟩
     case round =>
      clear HPL
      obtain ⟨j,st,sl,Ls,rl,rfl,hj,hj2,HLL,HPL⟩:=hrel
      by_cases hgo:j<ns∧j<120
      ·obtain ⟨hlt,h12⟩:=hgo
       have hlt':(j:Int)<(ns:Int):=by omega
       have h12':(j:Int)<120:=by omega
       have hwk:IntKind.i64.wrap ((j:Int)+1)=(j:Int)+1:=by rw [IntKind.wrap_i64];omega
       obtain ⟨⟨kd,v,d⟩,hq⟩:∃ q,S[j]? = some q:=⟨_,List.getElem?_eq_getElem (by rw [HNS.out];exact hlt)⟩
       have HF:Hid (Dm.FitsR d.r):=HFS.out _ (List.mem_of_getElem? hq)
       have HZ:Hid (SzD d):=HZS.out _ (List.mem_of_getElem? hq)
       obtain ⟨b2,off2,hp2,c0,c1,c2,c3,c4,c5,hD,HCE⟩:∃ b2 off2,p2=some ⟨b2,off2,none⟩∧∃ c0 c1 c2 c3 c4 c5,Dc (fun _=>False) W [c0,c1,c2,c3,c4,c5] d∧Hid (∀ w,Below W.heap.size W w→w.cell? ⟨b2,off2+j*8,none⟩=some (.int .i64 kd)∧w.cell? ⟨b2,off2+j*8+1,none⟩=some (.int .i64 v)∧w.cell? ⟨b2,off2+j*8+2,none⟩=some c0∧w.cell? ⟨b2,off2+j*8+3,none⟩=some c1∧w.cell? ⟨b2,off2+j*8+4,none⟩=some c2∧w.cell? ⟨b2,off2+j*8+5,none⟩=some c3∧w.cell? ⟨b2,off2+j*8+6,none⟩=some c4∧w.cell? ⟨b2,off2+j*8+7,none⟩=some c5):=by
        obtain ⟨a',c',e',hh⟩:=HSS.out W (Below.refl _ _)
        obtain ⟨b,off,q1,q2,q3⟩:=hh (by rw [HNS.out];omega)
        injection e' with e1 _ _
        obtain ⟨c0,c1,c2,c3,c4,c5,hD,h0,h1,h2,h3,h4,h5,h6,h7⟩:=q3 j kd v d hq
        exact ⟨b,off,e1.trans q1,c0,c1,c2,c3,c4,c5,hD,fun w hb=>⟨(hb.cell (p:=⟨b,_,none⟩) q2).trans h0,(hb.cell (p:=⟨b,_,none⟩) q2).trans h1,(hb.cell (p:=⟨b,_,none⟩) q2).trans h2,(hb.cell (p:=⟨b,_,none⟩) q2).trans h3,(hb.cell (p:=⟨b,_,none⟩) q2).trans h4,(hb.cell (p:=⟨b,_,none⟩) q2).trans h5,(hb.cell (p:=⟨b,_,none⟩) q2).trans h6,(hb.cell (p:=⟨b,_,none⟩) q2).trans h7⟩⟩
       obtain ⟨zb,ra,n0,rc,a1,n1,e1,a2,n2,e2,zx,zy,hcs,_,_,_,_⟩:=hD.look
       simp only [List.cons.injEq,and_true] at hcs
       obtain ⟨rfl,rfl,rfl,rfl,rfl,rfl⟩:=hcs
       have ks:=step_walk HPL.out HD0.out (by omega) (by have:=HLL.out;omega) hD HF.out HZ.out kd v
       subst hp2
       obtain ⟨y0,y1,y2,y3,y4,y5,y6,y7⟩:=HCE.out _ HPL.out.t.bel
       clear hD hq
       go_wp2_with fail
       refine ks.mono ?_
       clear ks y0 y1 y2 y3 y4 y5 y6 y7
       rintro e w5 ⟨rfl,st',sl',Ls',rl',hpl,hll⟩
       have HP5:Hid (Pl W w5 s r D0 st' sl' Ls' (j+1) rl'):=hpl
       have HL5:Hid (Ls'.length≤j+1):=by have:=HLL.out;rw [Hid];omega
       clear hpl hll
       have ka:=alike_walk HP5.out HD0.out (by omega) (by have:=HL5.out;omega) v
       obtain ⟨y0,y1,y2,y3,y4,y5,y6,y7⟩:=HCE.out _ HP5.out.t.bel
       go_wp2_with fail
       refine ka.mono ?_
       clear ka y0 y1 y2 y3 y4 y5 y6 y7
       rintro e w6 ⟨rfl,hpl⟩
       have HP6:Hid (Pl W w6 s r D0 st' sl' Ls' (j+1) rl'):=hpl
       clear hpl
       go_wp2
       go_roundw
       case rel=>exact ⟨j+1,st',sl',Ls',rl',by go_num,by omega,by omega,HL5,HP6⟩
       case measure=>simp [intOf];omega
      ·have HAL:Hid _:=alike_walk HPL.out HD0.out (by omega) (by have:=HLL.out;omega) 0
       by_cases hlt:j<ns
       ·have hlt':(j:Int)<(ns:Int):=by omega
        have h12':¬(j:Int)<120:=by omega
        go_wp2_with fail
        refine Calls.mono HAL.out ?_
        rintro e w9 ⟨rfl,hpl⟩
        have HB9:Hid (Below W.heap.size W w9):=hpl.t.bel
        clear hpl
        go_wp2_with fail
        refine (HKN.out _ HB9.out).mono ?_
        rintro e wz ⟨rfl,hbz⟩
        go_wp2
        go_ret
        exact ⟨rfl,hbz⟩
       ·have hlt':¬(j:Int)<(ns:Int):=by omega
        go_wp2_with fail
        refine Calls.mono HAL.out ?_
        rintro e w9 ⟨rfl,hpl⟩
        have HB9:Hid (Below W.heap.size W w9):=hpl.t.bel
        clear hpl
        go_wp2_with fail
        refine (HKN.out _ HB9.out).mono ?_
        rintro e wz ⟨rfl,hbz⟩
        go_wp2
        go_ret
        exact ⟨rfl,hbz⟩
end Go.Proofs.YtghnfnieppfhgaaGreat
