/- What is proved here: what dom.overlaps, dom.Cut and dom.Both return of any ranges. What is proved here: whether any two lists of ranges are the same. What is proved here: how many values any ranges have. -/
import Derived.Test.YtghnfnieppfhgaaGreatZEe
import Derived.Test.YtghnfnieppfhgaaGreatZVe
import Derived.Test.YtghnfnieppfhgaaGreatZXfj
set_option linter.unusedSimpArgs false
set_option linter.unusedVariables false
set_option maxHeartbeats 2000000
set_option maxRecDepth 100000
namespace Go.Proofs.YtghnfnieppfhgaaGreat.Dm
open Go.RowKit Go.Shelf
def tk (l:List Rg):List Rg:=if Right l then l else []
theorem right_nil:Right []:=⟨by simp,fun i hi=>by simp at hi⟩
theorem tk_right (l:List Rg):Right (tk l):=by unfold tk;split;assumption;exact right_nil
theorem tk_yes {l:List Rg} (h:Right l):tk l=l:=if_pos h
theorem tk_no {l:List Rg} (h:¬Right l):tk l=[]:=if_neg h
theorem Sr.nil (W:World) (cap:Nat) (a:Option Addr):Sr W (.slice a 0 cap) []:=⟨a,cap,rfl,fun h=>absurd h (by simp)⟩
theorem known_tk (s:Value) (l:List Rg) (w:World) (h:Sr w s l) (hf:FitsR l) :
  Calls Tryz.prog 104 #[s] w fun e w'=>∃ a n c,e = .returned (.slice a n c)∧Sr w (.slice a n c) (tk l)∧n=(tk l).length∧Below w.heap.size w w':=by
 by_cases hR:Right l
 ·refine (known_yes s l w h hf hR).mono fun e w' ⟨he,hb⟩=>?_
  have h0:=h
  obtain ⟨a,cap,rfl,_⟩:=h
  exact ⟨a,_,cap,he,by rw [tk_yes hR];exact h0,by rw [tk_yes hR],hb⟩
 ·refine (known_no s l w h hf hR).mono fun e w' ⟨he,hb⟩=>?_
  exact ⟨none,0,0,he,by rw [tk_no hR];exact Sr.nil _ _ _,by rw [tk_no hR];rfl,hb⟩
theorem overlaps_any (a1 a2:Option Addr) (n1 c1 n2 c2:Nat) (w:World) :
  Calls Tryz.prog 118 #[.slice a1 n1 c1,.slice a2 n2 c2] w fun e w'=>e = .returned (.func (.func 126) #[] #[.pointer (some ⟨w.heap.size,0,none⟩),.pointer (some ⟨w.heap.size+1,0,none⟩)])∧w'=(w.alloc (.cells #[.slice a1 n1 c1] 34)).alloc (.cells #[.slice a2 n2 c2] 34):=by
 have hmf:∀ (fn:Fn) (first cap:Array Value) (w:World),(Instr.makeFunc fn first cap).run Tryz.prog w = .ok (.func fn first cap) w:=fun _ _ _ _=>rfl
 go_enter Tryz.func118,Tryz.ntmps118
 go_wp2
 go_ret
 exact ⟨rfl,rfl⟩
theorem Lists.mk {W W1:World} {B:Nat} {s:Value} {l:List Rg} (h:Sr W s l) (hb:Below W.heap.size W W1) (hB:Boxed W1 B 34 s):Lists W1.heap.size W1 B l:=by
 obtain ⟨a,cap,rfl,hc⟩:=h
 refine ⟨_,hB.lt,hB.cell,a,cap,rfl,fun h0=>?_⟩
 obtain ⟨b,off,e,hlt,hcell⟩:=hc h0
 exact ⟨b,off,e,Nat.lt_of_lt_of_le hlt hb.size,fun i hi=>⟨(hb.cell (p:=⟨b,off+i*2,none⟩) hlt).trans (hcell i hi).1,(hb.cell (p:=⟨b,off+i*2+1,none⟩) hlt).trans (hcell i hi).2⟩⟩
theorem JoinEnd.down {L:List Rg} {W W1 w':World} {e:Ending} (h:JoinEnd L W1 e w') (hb:Below W.heap.size W W1):JoinEnd L W e w':=by
 obtain ⟨s,c,he,h1,h2⟩:=h
 refine ⟨s,c,he,hb.trans (h1.mono hb.size),?_⟩
 rcases h2 with ⟨e1,e2,e3,e4⟩ | h2
 ·exact .inl ⟨e1,e2,own_base e3 hb.size,e4⟩
 ·exact .inr h2
theorem joinO (A B:Nat) (s1 s2:Value) (a b:List Rg) (W:World) (eA:A=W.heap.size) (eB:B=W.heap.size+1) (h1:Sr W s1 a) (h2:Sr W s2 b) (ha:∀ i,i<a.length→-1000000≤lo a i∧hi a i≤1000000) (hla:a.length≤5000) (hlb:b.length≤5000) :
  Calls Tryz.prog 117 #[.func (.func 126) #[] #[.pointer (some ⟨A,0,none⟩),.pointer (some ⟨B,0,none⟩)]] ((W.alloc (.cells #[s1] 34)).alloc (.cells #[s2] 34)) fun e w'=>JoinEnd (ov a b) W e w':=by
 subst eA eB
 have hb:Below W.heap.size W ((W.alloc (.cells #[s1] 34)).alloc (.cells #[s2] 34)):=((Below.refl _ W).alloc (Nat.le_refl _) _).alloc (by simp) _
 have b1:Boxed ((W.alloc (.cells #[s1] 34)).alloc (.cells #[s2] 34)) W.heap.size 34 s1:=(Boxed.new W 34 s1).alloc _
 have b2:Boxed ((W.alloc (.cells #[s1] 34)).alloc (.cells #[s2] 34)) (W.heap.size+1) 34 s2:=by have h9:=Boxed.new (W.alloc (.cells #[s1] 34)) 34 s2;rw [World.size_alloc] at h9;exact h9
 have L1:=Lists.mk h1 hb b1
 have L2:=Lists.mk h2 hb b2
 obtain ⟨W1,hW1⟩:∃ W1,((W.alloc (.cells #[s1] 34)).alloc (.cells #[s2] 34))=W1:=⟨_,rfl⟩
 rw [hW1] at hb L1 L2 ⊢
 refine (join_any 126 _ (ov a b) 20000 W1 (enters_of Tryz.func126 (by kernel_rfl) rfl) ?_).mono fun e w' h=>h.down hb
 exact fun lr J Jx X hX hJ _ hY h0=>overlaps1_in 5 (by decide) lr W.heap.size (W.heap.size+1) W1.heap.size a b ha hla hlb J Jx hY X hX.size hJ (L1.below hX) (L2.below hX) h0
theorem right_bounds {l:List Rg} (h:Right l):∀ i,i<l.length→-1000000≤lo l i∧hi l i≤1000000:=fun i hi=>by
 have:=h.2 i hi;unfold OkAt at this;exact ⟨this.2.1,this.2.2.1⟩
theorem clone_any (a:Option Addr) (n c:Nat) (l:List Rg) (w:World) (h:Sr w (.slice a n c) l) (h0:0<l.length) (hlen:l.length≤4096) :
  Calls Tryz.prog 78 #[.slice a n c] w fun e w'=>∃ s,e = .returned s∧w'.ownsRow w.heap.size 80 2 s l.length (flat l)∧Below w.heap.size w w':=by
 obtain ⟨a',cap,e,hc⟩:=h
 injection e with e1 e2 e3
 subst e1 e2 e3
 obtain ⟨b,off,rfl,_,hcell⟩:=hc h0
 exact clone_some b off c l w hlen hcell
def bothR (a b:List Rg):List Rg:=if (ov (tk a) (tk b)).length≤4096 then ov (tk a) (tk b) else tk a
theorem domboth_any (s1 s2:Value) (la lb:List Rg) (w:World) (h1:Sr w s1 la) (h2:Sr w s2 lb) (hf1:FitsR la) (hf2:FitsR lb) :
  Calls Tryz.prog 100 #[s1,s2] w fun e w'=>∃ s',e = .returned s'∧w'.ownsRow w.heap.size 80 2 s' (bothR la lb).length (flat (bothR la lb))∧Below w.heap.size w w':=by
 have hk1:=known_tk s1 la w h1 hf1
 have hk2:=fun W (hW:Below w.heap.size w W)=>known_tk s2 lb W (h2.below hW) hf2
 have hRa:=tk_right la
 have hRb:=tk_right lb
 obtain ⟨a1,c1,rfl,_⟩:=h1
 obtain ⟨a2,c2,rfl,_⟩:=h2
 have HRa:Hid (Right (tk la)):=hRa
 have HRb:Hid (Right (tk lb)):=hRb
 clear hRa hRb hf1 hf2
 go_enter Tryz.func100,Tryz.ntmps100
 go_wp2_with fail
 refine hk1.mono ?_
 clear hk1
 rintro e w1 ⟨a,n,c,rfl,hS1,hn1,hb1⟩
 have HS1:Hid (Sr w (.slice a n c) (tk la)):=hS1
 clear hS1 hn1
 go_wp2_with fail
 refine (hk2 _ hb1).mono ?_
 clear hk2
 rintro e w2 ⟨a',n',c',rfl,hS2,hn2,hb2⟩
 have hb12:Below w.heap.size w w2:=hb1.trans (hb2.mono hb1.size)
 have HS2:Hid (Sr w2 (.slice a' n' c') (tk lb)):=hS2.below hb2
 clear hS2 hn2 hb2
 go_wp2_with fail
 refine (overlaps_any _ _ _ _ _ _ _).mono ?_
 rintro e w3 ⟨rfl,rfl⟩
 go_wp2_with fail
 refine (joinO _ _ _ _ (tk la) (tk lb) _ rfl rfl (HS1.out.below hb12) HS2.out (right_bounds HRa.out) (by have:=HRa.out.1;omega) (by have:=HRb.out.1;omega)).mono ?_
 rintro e w4 hJ
 have hJ:=hJ.down hb12
 have hof:=ov_facts (right_ord HRa.out).1 (right_ord HRb.out).1
 obtain ⟨s',cc,rfl,hb4,hcase⟩:=hJ
 rw [joinF_ord _ hof.1] at hcase
 have HOF:Hid _:=hof
 clear hof
 rcases hcase with ⟨rfl,hle,hrow,hnil⟩ | ⟨rfl,hgt,rfl⟩
 ·have HROW:Hid _:=hrow
  have HLE:Hid ((ov (tk la) (tk lb)).length≤4096):=hle
  clear hrow hle hnil
  go_wp2
  go_ret
  refine ⟨s',rfl,?_,hb4⟩
  unfold bothR
  rw [if_pos HLE.out]
  exact HROW.out
 ·have HGT:Hid (4096<(ov (tk la) (tk lb)).length):=hgt
  have hbw:bothR la lb=tk la:=if_neg (by have h9:=HGT.out;omega)
  have HBW:Hid _:=hbw
  have hl0:0<(tk la).length:=by
   have h9:=HGT.out
   apply Classical.byContradiction
   intro hn
   have e0:(tk la).length=0:=by omega
   have e1:ov (tk la) (tk lb)=[]:=ovF_no _ _ _ _ (by omega)
   rw [e1] at h9
   simp at h9
  clear hgt hbw
  go_wp2_with fail
  refine (clone_any _ _ _ _ _ (HS1.out.below hb4) hl0 HRa.out.1).mono ?_
  rintro e w5 ⟨s5,rfl,hrow5,hb5⟩
  go_wp2
  go_ret
  refine ⟨s5,rfl,?_,hb4.trans (hb5.mono hb4.size)⟩
  rw [HBW.out]
  exact own_base hrow5 hb4.size
open Go.RowKit
theorem tk_len (l:List Rg):(tk l).length≤4096:=(tk_right l).1
theorem rg_ext {a b:List Rg} (hl:a.length=b.length) (h:∀ k,k<a.length→lo a k=lo b k∧hi a k=hi b k):a=b:=by
 refine List.ext_getElem hl fun i h1 h2=>?_
 have:=h i h1
 rw [lo_get a i h1,lo_get b i h2,hi_get a i h1,hi_get b i h2] at this
 exact Prod.ext this.1 this.2
theorem equalR_any (s1 s2:Value) (la lb:List Rg) (w:World) (h1:Sr w s1 la) (h2:Sr w s2 lb) (hr1:la.length≤100000) (hr2:lb.length≤100000) :
  Calls Tryz.prog 103 #[s1,s2] w fun e w'=>∃ t,e = .returned (.bool t)∧(t=true↔la=lb)∧∃ nq,w'=w.drewN nq:=by
 obtain ⟨a1,c1,rfl,hc1⟩:=h1
 obtain ⟨a2,c2,rfl,hc2⟩:=h2
 obtain ⟨n,hn⟩:∃ n,la.length=n:=⟨_,rfl⟩
 obtain ⟨n2,hn2⟩:∃ n,lb.length=n:=⟨_,rfl⟩
 have HN:Hid (la.length=n):=hn
 have HN2:Hid (lb.length=n2):=hn2
 rw [hn] at hc1 hr1 ⊢
 rw [hn2] at hc2 hr2 ⊢
 have HC1:Hid _:=hc1
 have HC2:Hid _:=hc2
 clear hn hn2 hc1 hc2
 by_cases hnn:n=n2
 ·subst hnn
  go_enter Tryz.func103,Tryz.ntmps103
  go_wp2
  go_loopw [13] (fun i wr=>∃ k:Nat,k≤n∧i = .int .i64 (k:Int)∧(∀ j,j<k→lo la j=lo lb j∧hi la j=hi lb j)∧∃ nq,wr=w.drewN nq) (fun i _=>n-(intOf i).toNat)
  case atStart=>exact ⟨0,Nat.zero_le _,rfl,fun j hj=>by omega,0,rfl⟩
  case round =>
   obtain ⟨k,hk,rfl,hall,nq0,rfl⟩:=hrel
   have HALL:Hid (∀ j,j<k→lo la j=lo lb j∧hi la j=hi lb j):=hall
   clear hall
   by_cases hlt:k<n
   ·obtain ⟨b1,o1,rfl,_,hcell1⟩:=HC1.out (by omega)
    obtain ⟨b2,o2,rfl,_,hcell2⟩:=HC2.out (by omega)
    obtain ⟨x1,y1⟩:=hcell1 k hlt
    obtain ⟨x2,y2⟩:=hcell2 k hlt
    have kk:(k:Int)<(n:Int):=by omega
    obtain ⟨p,hp⟩:∃ p,lo la k=p:=⟨_,rfl⟩
    obtain ⟨q,hq⟩:∃ p,hi la k=p:=⟨_,rfl⟩
    obtain ⟨r,hr⟩:∃ p,lo lb k=p:=⟨_,rfl⟩
    obtain ⟨u,hu⟩:∃ p,hi lb k=p:=⟨_,rfl⟩
    rw [hp] at x1
    rw [hq] at y1
    rw [hr] at x2
    rw [hu] at y2
    have HP:Hid (lo la k=p∧hi la k=q∧lo lb k=r∧hi lb k=u):=⟨hp,hq,hr,hu⟩
    clear hcell1 hcell2 hp hq hr hu
    by_cases e1:p=r
    ·subst e1
     by_cases e2:q=u
     ·subst e2
      go_wp2
      go_quiet (fail)
      go_wp2
      go_roundw
      case rel=>exact ⟨k+1,by omega,by go_num,fun j hj=>if h:j=k then by obtain ⟨g1,g2,g3,g4⟩:=HP.out;rw [h,g1,g2,g3,g4];exact ⟨rfl,rfl⟩ else HALL.out j (by omega),_,rfl⟩
      case measure=>simp [intOf];omega
     ·have z1:(q==u)=false:=by simpa using e2
      have z2:(q != u)=true:=by simpa using e2
      have z3:decide (q=u)=false:=by simpa using e2
      go_wp2
      go_quiet (fail)
      go_wp2
      (try rw [Exit.noGoto_ret])
      go_ret
      exact ⟨false,rfl,⟨fun h=>by simp at h,fun h=>by obtain ⟨g1,g2,g3,g4⟩:=HP.out;rw [h] at g2;exact absurd (g2.symm.trans g4) e2⟩,_,World.drewN_drewN _ _ _⟩
    ·have z1:(p==r)=false:=by simpa using e1
     have z2:(p != r)=true:=by simpa using e1
     have z3:decide (p=r)=false:=by simpa using e1
     go_wp2
     go_quiet (fail)
     go_wp2
     (try rw [Exit.noGoto_ret])
     go_ret
     exact ⟨false,rfl,⟨fun h=>by simp at h,fun h=>by obtain ⟨g1,g2,g3,g4⟩:=HP.out;rw [h] at g1;exact absurd (g1.symm.trans g3) e1⟩,_,World.drewN_drewN _ _ _⟩
   ·obtain rfl:k=n:=by omega
    go_wp2
    (try rw [Exit.noGoto_ret])
    go_ret
    exact ⟨true,rfl,⟨fun _=>rg_ext (by rw [HN.out,HN2.out]) (fun j hj=>HALL.out j (by rw [←HN.out];exact hj)),fun _=>rfl⟩,_,rfl⟩
 ·have z1:((n:Int)==(n2:Int))=false:=by simpa using (fun h=>hnn (by omega))
  have z2:((n:Int) != (n2:Int))=true:=by simp;omega
  have z3:decide ((n:Int)=(n2:Int))=false:=by simp;omega
  go_enter Tryz.func103,Tryz.ntmps103
  go_wp2
  (try rw [Exit.noGoto_ret])
  go_ret
  exact ⟨false,rfl,⟨fun h=>by simp at h,fun h=>absurd (by rw [←HN.out,←HN2.out,h]) hnn⟩,0,rfl⟩
theorem domsame_any (s1 s2:Value) (la lb:List Rg) (w:World) (h1:Sr w s1 la) (h2:Sr w s2 lb) (hf1:FitsR la) (hf2:FitsR lb) :
  Calls Tryz.prog 76 #[s1,s2] w fun e w'=>∃ t,e = .returned (.bool t)∧(t=true↔tk la=tk lb)∧Below w.heap.size w w':=by
 have hk1:=known_tk s1 la w h1 hf1
 have hk2:=fun W (hW:Below w.heap.size w W)=>known_tk s2 lb W (h2.below hW) hf2
 obtain ⟨a1,c1,rfl,_⟩:=h1
 obtain ⟨a2,c2,rfl,_⟩:=h2
 clear hf1 hf2
 go_enter Tryz.func76,Tryz.ntmps76
 go_wp2_with fail
 refine hk1.mono ?_
 clear hk1
 rintro e w1 ⟨a,n,c,rfl,hS1,hn1,hb1⟩
 have HS1:Hid (Sr w (.slice a n c) (tk la)):=hS1
 clear hS1 hn1
 go_wp2_with fail
 refine (hk2 _ hb1).mono ?_
 clear hk2
 rintro e w2 ⟨a',n',c',rfl,hS2,hn2,hb2⟩
 have hb12:Below w.heap.size w w2:=hb1.trans (hb2.mono hb1.size)
 have HS2:Hid (Sr w2 (.slice a' n' c') (tk lb)):=hS2.below hb2
 clear hS2 hn2 hb2
 go_wp2_with fail
 refine (equalR_any _ _ (tk la) (tk lb) _ (HS1.out.below hb12) HS2.out (by have:=tk_len la;omega) (by have:=tk_len lb;omega)).mono ?_
 rintro e w3 ⟨t,rfl,ht,nq,rfl⟩
 have HT:Hid _:=ht
 clear ht
 go_wp2
 go_ret
 exact ⟨t,rfl,HT.out,below_drewN hb12 _⟩
theorem refsize_no (s:Value) (l:List Rg) (w:World) (h:Sr w s l) (hR:¬Right l) :
  Calls Tryz.prog 66 #[s] w fun e w'=>e = .returned (.int .i64 0)∧Below w.heap.size w w':=by
 have hc:=taken_no s l w h hR
 obtain ⟨a,cap,rfl,hcell⟩:=h
 clear hcell hR
 go_enter Tryz.func66,Tryz.ntmps66
 go_wp2_with (go_at_call 89;refine hc.mono ?_;rintro e w1 ⟨rfl,n1,rfl⟩)
 go_loop [3,4] (fun sv i=>i = .int .i64 0∧sv = .int .i64 0) (fun _ _=>0)
 case atStart=>exact ⟨rfl,rfl⟩
 case round =>
  obtain ⟨rfl,rfl⟩:=hrel
  go_wp2
  go_ret
  exact ⟨rfl,below_drewN (Below.refl _ _) _⟩
theorem domsize_no (s:Value) (l:List Rg) (w:World) (h:Sr w s l) (hf:FitsR l) (hR:¬Right l) :
  Calls Tryz.prog 98 #[s] w fun e w'=>e = .returned (.int .i64 0)∧Below w.heap.size w w':=by
 have hc:=known_no s l w h hf hR
 obtain ⟨a,cap,rfl,hcell⟩:=h
 clear hcell hR hf
 go_enter Tryz.func98,Tryz.ntmps98
 go_wp2_with (go_at_call 104;refine hc.mono ?_;rintro e w1 ⟨rfl,hb1⟩)
 go_loop [3,9] (fun sv i=>i = .int .i64 0∧sv = .int .i64 0) (fun _ _=>0)
 case atStart=>exact ⟨rfl,rfl⟩
 case round =>
  obtain ⟨rfl,rfl⟩:=hrel
  go_wp2
  go_ret
  exact ⟨rfl,hb1⟩
theorem refsize_any (s:Value) (l:List Rg) (w:World) (h:Sr w s l) :
  Calls Tryz.prog 66 #[s] w fun e w'=>e = .returned (.int .i64 (sizeR (tk l)))∧Below w.heap.size w w':=by
 by_cases hR:Right l
 ·rw [tk_yes hR]
  refine (refsize_yes s l w h hR).mono ?_
  rintro e w' ⟨he,n,rfl⟩
  exact ⟨he,below_drewN (Below.refl _ _) _⟩
 ·rw [tk_no hR]
  exact refsize_no s l w h hR
theorem domsize_any (s:Value) (l:List Rg) (w:World) (h:Sr w s l) (hf:FitsR l) :
  Calls Tryz.prog 98 #[s] w fun e w'=>e = .returned (.int .i64 (sizeR (tk l)))∧Below w.heap.size w w':=by
 by_cases hR:Right l
 ·rw [tk_yes hR];exact domsize_yes s l w h hf hR
 ·rw [tk_no hR]
  exact domsize_no s l w h hf hR
end Go.Proofs.YtghnfnieppfhgaaGreat.Dm
