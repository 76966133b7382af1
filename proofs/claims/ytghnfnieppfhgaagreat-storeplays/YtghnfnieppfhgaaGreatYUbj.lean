/- What is proved here: what the reference's Has tells of any domain and any list. What is proved here: what sets.Fixed tells of any domain. What is proved here: the reference's choose. What is proved here: what the reference's Count tells of any domain. What is proved here: how many elements from a place on must be in (the reference's must). What is proved here: what is known of a domain with just one set (mathematics only). What is proved here: a domain has one set just where it is fixed (mathematics only). -/
import Derived.Test.YtghnfnieppfhgaaGreatAa
import Derived.Test.YtghnfnieppfhgaaGreatYTbj
import Derived.Test.YtghnfnieppfhgaaGreatYSfj
import Derived.Test.YtghnfnieppfhgaaGreatYCaj
import Derived.Laws.ResultCell
set_option linter.unusedVariables false
set_option linter.unusedSimpArgs false
set_option maxRecDepth 100000
set_option maxHeartbeats 4000000
namespace Go.Proofs.YtghnfnieppfhgaaGreat.St
open Go.RowKit Go.Shelf
def rhasD (d:SD) (l:List Int):Bool:=!emptyD d&&subB (tkS d.lo) (tkS l)&&subB (tkS l) (tkS d.up)&&decide (d.least≤(tkS l).length)&&decide (((tkS l).length:Int)≤d.most)
theorem has_same (d:SD) (l:List Int):rhasD d l=hasD d l:=by
 unfold rhasD hasD emptyD
 cases h:rightD d
 ·simp
 ·simp only [Bool.not_true,Bool.false_or,Bool.true_and]
  by_cases hq:d.most<d.least
  ·have e1:decide (d.most<d.least)=true:=by simpa using hq
   rw [e1]
   by_cases h1:d.least≤((tkS l).length:Int)
   ·have e2:decide (((tkS l).length:Int)≤d.most)=false:=by simp;omega
    rw [e2];simp
   ·have e2:decide (d.least≤((tkS l).length:Int))=false:=by simpa using h1
    rw [e2];simp
  ·have e1:decide (d.most<d.least)=false:=by simpa using hq
   rw [e1];simp
theorem refhas_dom (v s:Value) (d:SD) (l:List Int) (W:World) (h:Di W v d) (hl:Si W s l) :
  Calls Tryz.prog 120 #[v,s] W fun e w'=>e = .returned (.bool (rhasD d l))∧Below W.heap.size W w':=by
 have k40:=fun X (hX:Below W.heap.size W X)=>refempty_any v d X (h.below hX)
 have k61:=fun X (hX:Below W.heap.size W X)=>taken_any s l X (hl.below hX)
 obtain ⟨x0,ra,rn,rc,a1,n1,c1,a2,n2,c2,x4,x5,rfl,HE,HLO,HUP⟩:=h.look
 have k27a:=fun q X (hX:Below W.heap.size W X) (hq:Si X q (tkS l))=>sub_below (.slice a1 n1 c1) q d.lo (tkS l) X (HLO.out.below hX) hq
 have k27b:=fun q X (hX:Below W.heap.size W X) (hq:Si X q (tkS l))=>sub_below q (.slice a2 n2 c2) (tkS l) d.up X hq (HUP.out.below hX)
 simp only [tkS_yes (tkS_set l)] at k27a k27b
 obtain ⟨sa,ns,cs',rfl,HSL,HNL⟩:=si_look hl
 have hH:rhasD d l=(!emptyD d&&subB (tkS d.lo) (tkS l)&&subB (tkS l) (tkS d.up)&&decide (d.least≤(tkS l).length)&&decide (((tkS l).length:Int)≤d.most)):=rfl
 rw [HE.out.2.2.2.1,HE.out.2.2.2.2.1] at hH
 generalize rhasD d l=hd at hH ⊢
 generalize emptyD d=r at k40 hH
 generalize subB (tkS d.lo) (tkS l)=s1 at k27a hH
 generalize subB (tkS l) (tkS d.up)=s2 at k27b hH
 obtain ⟨W0,hW0⟩:∃ X,W.alloc (Obj.cells #[.bool x0,.slice ra rn rc,.slice a1 n1 c1,.slice a2 n2 c2,.int .i64 x4,.int .i64 x5] 37)=X:=⟨_,rfl⟩
 have HW0:Hid _:=hW0
 have hb0:Below W.heap.size W W0:=by rw [←hW0];exact (Below.refl _ W).alloc (Nat.le_refl _) _
 have HR0:Hid (R6 W0 W.heap.size (.bool x0) (.slice ra rn rc) (.slice a1 n1 c1) (.slice a2 n2 c2) (.int .i64 x4) (.int .i64 x5)):=by rw [←hW0];exact R6.new _ _ _ _ _ _ _
 clear hW0 h hl
 go_enter Tryz.func120,Tryz.ntmps120
 go_upto_region 1 with (fail)
 rw [HW0.out]
 go_wp2_with fail
 refine (k61 W0 hb0).mono ?_
 rintro e w1 ⟨a4,n4,c4,rfl,HS4,HN4,m1,hw1⟩
 have hb:Below W0.heap.size W0 w1:=by rw [hw1];exact below_drewN (Below.refl _ _) _
 have hb1:Below W.heap.size W w1:=hb0.trans (hb.mono hb0.size)
 have HR1:=hid (HR0.out.below hb)
 have HS:=hid (HS4.out.below hb)
 rw [←HN4.out] at hH
 have HH:Hid _:=hH
 clear HR0 hb0 hb hw1 HS4 hH k61
 obtain ⟨z0,z1,z2,z3,z4,z5⟩:=HR1.out.cells
 cases r
 ·go_wp2_with fail
  refine (k40 w1 hb1).mono ?_
  rintro e w2 ⟨rfl,hb⟩
  have hb2:Below W.heap.size W w2:=hb1.trans (hb.mono hb1.size)
  have HR2:=hid (HR1.out.below hb)
  have HSb:=hid (HS.out.below hb)
  clear HR1 hb1 HS
  clear z0 z1 z2 z3 z4 z5
  obtain ⟨z0,z1,z2,z3,z4,z5⟩:=HR2.out.cells
  cases s1
  ·go_wp2_with fail
   refine (k27a _ w2 hb2 HSb.out).mono ?_
   rintro e w3 ⟨rfl,hb⟩
   have hb3:Below W.heap.size W w3:=hb2.trans (hb.mono hb2.size)
   have HR3:=hid (HR2.out.below hb)
   have HSc:=hid (HSb.out.below hb)
   clear HR2 hb2 HSb
   clear z0 z1 z2 z3 z4 z5
   obtain ⟨z0,z1,z2,z3,z4,z5⟩:=HR3.out.cells
   go_wp2
   go_ret
   exact ⟨ret_bool (by rw [HH.out];first | (simp;done) | (simp;omega)),hb3⟩
  ·go_wp2_with fail
   refine (k27a _ w2 hb2 HSb.out).mono ?_
   rintro e w3 ⟨rfl,hb⟩
   have hb3:Below W.heap.size W w3:=hb2.trans (hb.mono hb2.size)
   have HR3:=hid (HR2.out.below hb)
   have HSc:=hid (HSb.out.below hb)
   clear HR2 hb2 HSb
   clear z0 z1 z2 z3 z4 z5
   obtain ⟨z0,z1,z2,z3,z4,z5⟩:=HR3.out.cells
   cases s2
   ·go_wp2_with fail
    refine (k27b _ w3 hb3 HSc.out).mono ?_
    rintro e w4 ⟨rfl,hb⟩
    have hb4:Below W.heap.size W w4:=hb3.trans (hb.mono hb3.size)
    have HR4:=hid (HR3.out.below hb)
    clear HR3 hb3 HSc
    clear z0 z1 z2 z3 z4 z5
    obtain ⟨z0,z1,z2,z3,z4,z5⟩:=HR4.out.cells
    go_wp2
    go_ret
    exact ⟨ret_bool (by rw [HH.out];first | (simp;done) | (simp;omega)),hb4⟩
   ·go_wp2_with fail
    refine (k27b _ w3 hb3 HSc.out).mono ?_
    rintro e w4 ⟨rfl,hb⟩
    have hb4:Below W.heap.size W w4:=hb3.trans (hb.mono hb3.size)
    have HR4:=hid (HR3.out.below hb)
    clear HR3 hb3 HSc
    clear z0 z1 z2 z3 z4 z5
    obtain ⟨z0,z1,z2,z3,z4,z5⟩:=HR4.out.cells
    by_cases q1:x4≤(n4:Int)
    ·by_cases q2:(n4:Int)≤x5
     ·go_wp2
      go_ret
      exact ⟨ret_bool (by rw [HH.out];first | (simp [q1,q2];done) | (simp;omega)),hb4⟩
     ·go_wp2
      go_ret
      exact ⟨ret_bool (by rw [HH.out];first | (simp [q1,q2];done) | (simp;omega)),hb4⟩
    ·go_wp2
     go_ret
     exact ⟨ret_bool (by rw [HH.out];first | (simp [q1];done) | (simp;omega)),hb4⟩
 ·go_wp2_with fail
  refine (k40 w1 hb1).mono ?_
  rintro e w2 ⟨rfl,hb⟩
  have hb2:Below W.heap.size W w2:=hb1.trans (hb.mono hb1.size)
  have HR2:=hid (HR1.out.below hb)
  have HSb:=hid (HS.out.below hb)
  clear HR1 hb1 HS
  clear z0 z1 z2 z3 z4 z5
  obtain ⟨z0,z1,z2,z3,z4,z5⟩:=HR2.out.cells
  go_wp2
  go_ret
  exact ⟨ret_bool (by rw [HH.out];first | (simp;done) | (simp;omega)),hb2⟩
def fixB (d:SD):Bool:=!emptyD (takenD d) && !decide ((takenD d).lo.length<(takenD d).up.length)
def fixL (d:SD):List Int:=if fixB d then (takenD d).lo else []
theorem fixed_any (v:Value) (d:SD) (W:World) (h:Di W v d) :
  Calls Tryz.prog 97 #[v] W fun e w'=>∃ p n c,e = .returned (.tuple #[.slice p n c,.bool (fixB d)])∧Hid (w'.ownsRow W.heap.size 2 1 (.slice p n c) n (intv (fixL d)))∧Hid ((fixL d).length=n)∧Below W.heap.size W w':=by
 have k77:=fun X (hX:Below W.heap.size W X)=>(taken_dom v d X (h.below hX))
 obtain ⟨x0a,raa,rna,rca,a1a,n1a,c1a,a2a,n2a,c2a,x4a,x5a,rfl,HEa,HLOa,HUPa⟩:=h.look
 have HF:Hid (fixB d=(!emptyD (takenD d) && !decide ((takenD d).lo.length<(takenD d).up.length))∧fixL d=if fixB d then (takenD d).lo else []):=⟨rfl,rfl⟩
 generalize fixL d=FL at HF ⊢
 generalize fixB d=FB at HF ⊢
 generalize takenD d=T at *
 obtain ⟨w0,hW0⟩:∃ X,(W.alloc (Obj.cells #[.bool x0a,.slice raa rna rca,.slice a1a n1a c1a,.slice a2a n2a c2a,.int .i64 x4a,.int .i64 x5a] 37))=X:=⟨_,rfl⟩
 have HW0:Hid _:=hW0
 have hb0:Below W.heap.size W w0:=by rw [←hW0];exact ((Below.refl _ W).alloc (by simp<;>omega) _)
 have HA_0:Hid (R6 w0 W.heap.size (.bool x0a) (.slice raa rna rca) (.slice a1a n1a c1a) (.slice a2a n2a c2a) (.int .i64 x4a) (.int .i64 x5a)):=by rw [←hW0];exact (R6.new _ _ _ _ _ _ _)
 clear hW0
 clear h HEa HLOa HUPa
 go_enter Tryz.func97,Tryz.ntmps97
 go_upto_region 1 with (fail)
 rw [HW0.out]
 clear HW0
 obtain ⟨zA0,zA1,zA2,zA3,zA4,zA5⟩:=HA_0.out.cells
 go_wp2_with fail
 refine (k77 w0 hb0).mono ?_
 rintro e w1 ⟨v9,rfl,hD,hb⟩
 have hb1:Below W.heap.size W w1:=hb0.trans (hb.mono hb0.size)
 have HA_1:Hid _:=HA_0.out.below hb
 obtain ⟨y0t,p1t,m1t,k1t,p2t,m2t,k2t,y4t,y5t,rfl,HET,HO1,HO2⟩:=hD.look
 have DT_1:Hid (Dv W.heap.size w1 (.agg #[.bool y0t,.slice none 0 0,.slice p1t m1t k1t,.slice p2t m2t k2t,.int .i64 y4t,.int .i64 y5t]) T):=hD.base hb0.size
 have OT_1:Hid (w1.ownsRow W.heap.size 2 1 (.slice p1t m1t k1t) m1t (intv T.lo)):=own_base HO1.out hb0.size
 clear hD HO1 HO2
 clear zA0 zA1 zA2 zA3 zA4 zA5
 clear hb hb0 HA_0
 have hb2:=below_setRow hb1 (show W.heap.size≤W.heap.size by omega) #[.bool y0t,.slice none 0 0,.slice p1t m1t k1t,.slice p2t m2t k2t,.int .i64 y4t,.int .i64 y5t]
 have HA_2:Hid _:=HA_1.out.set (.bool y0t) (.slice none 0 0) (.slice p1t m1t k1t) (.slice p2t m2t k2t) (.int .i64 y4t) (.int .i64 y5t)
 have DT_2:Hid (Dv W.heap.size (w1.setRow W.heap.size #[.bool y0t,.slice none 0 0,.slice p1t m1t k1t,.slice p2t m2t k2t,.int .i64 y4t,.int .i64 y5t]) (.agg #[.bool y0t,.slice none 0 0,.slice p1t m1t k1t,.slice p2t m2t k2t,.int .i64 y4t,.int .i64 y5t]) T):=DT_1.out.set HA_1.out #[.bool y0t,.slice none 0 0,.slice p1t m1t k1t,.slice p2t m2t k2t,.int .i64 y4t,.int .i64 y5t]
 have OT_2:Hid ((w1.setRow W.heap.size #[.bool y0t,.slice none 0 0,.slice p1t m1t k1t,.slice p2t m2t k2t,.int .i64 y4t,.int .i64 y5t]).ownsRow W.heap.size 2 1 (.slice p1t m1t k1t) m1t (intv T.lo)):=own_setRow OT_1.out W.heap.size #[.bool y0t,.slice none 0 0,.slice p1t m1t k1t,.slice p2t m2t k2t,.int .i64 y4t,.int .i64 y5t] HA_1.out.h
 go_upto_region 2 with (with_reducible refine st37 rfl (.tmp 1) (.tmp 5) rfl W.heap.size _ _ _ _ _ _ (by with_unfolding_all rfl) (by with_unfolding_all rfl) HA_1.out (six_dom _ _ _ _ _ _ _ _ _ _ _ _) ?_)
 simp only [Act.put]
 clear HA_1 DT_1 OT_1 hb1
 generalize w1.setRow W.heap.size #[.bool y0t,.slice none 0 0,.slice p1t m1t k1t,.slice p2t m2t k2t,.int .i64 y4t,.int .i64 y5t]=w2 at hb2 HA_2 DT_2 OT_2 ⊢
 obtain ⟨zA0,zA1,zA2,zA3,zA4,zA5⟩:=HA_2.out.cells
 have k42:=empty_any _ T _ DT_2.out.di
 obtain ⟨eb,heb⟩:∃ b,emptyD T=b:=⟨_,rfl⟩
 rw [heb] at k42
 have HEB:Hid (emptyD T=eb):=heb
 clear heb
 go_wp2_with fail
 refine (k42).mono ?_
 rintro e w3 ⟨rfl,hb⟩
 have hb3:Below W.heap.size W w3:=hb2.trans (hb.mono hb2.size)
 have HA_3:Hid _:=HA_2.out.below hb
 have DT_3:Hid (Dv W.heap.size w3 (.agg #[.bool y0t,.slice none 0 0,.slice p1t m1t k1t,.slice p2t m2t k2t,.int .i64 y4t,.int .i64 y5t]) T):=DT_2.out.below hb
 have OT_3:Hid (w3.ownsRow W.heap.size 2 1 (.slice p1t m1t k1t) m1t (intv T.lo)):=own_keepB OT_2.out hb
 clear zA0 zA1 zA2 zA3 zA4 zA5
 clear hb hb2 HA_2 DT_2 OT_2
 obtain ⟨zA0,zA1,zA2,zA3,zA4,zA5⟩:=HA_3.out.cells
 cases eb
 ·by_cases hl:m1t<m2t
  ·have hl2:(m1t:Int)<(m2t:Int):=by omega
   go_wp2
   go_ret2
   obtain ⟨f1,f2⟩:=HF.out
   have e1:FB=false:=by rw [f1,HEB.out];rw [HET.out.2.1,HET.out.2.2.1];simp [hl]
   rw [e1] at f2
   simp only [Bool.false_eq_true,if_false] at f2
   subst f2
   exact ⟨none,0,0,by rw [e1];rfl,World.ownsRow_nil _ _ _ _,rfl,hb3⟩
  ·have hl2:¬(m1t:Int)<(m2t:Int):=by omega
   go_wp2
   go_ret2
   obtain ⟨f1,f2⟩:=HF.out
   have e1:FB=true:=by rw [f1,HEB.out,HET.out.2.1,HET.out.2.2.1];simp [hl]
   rw [e1] at f2
   simp only [if_true] at f2
   subst f2
   exact ⟨p1t,m1t,k1t,by rw [e1];rfl,OT_3.out,HET.out.2.1,hb3⟩
 ·go_wp2
  go_ret2
  obtain ⟨f1,f2⟩:=HF.out
  have e1:FB=false:=by rw [f1,HEB.out];rfl
  rw [e1] at f2
  simp only [Bool.false_eq_true,if_false] at f2
  subst f2
  exact ⟨none,0,0,by rw [e1];rfl,World.ownsRow_nil _ _ _ _,rfl,hb3⟩
def chrow (i:Nat):List Int:=(List.range (i+1)).map (ch i)
theorem chrow_len (i:Nat):(chrow i).length=i+1:=by simp [chrow]
theorem chrow_nth {i j:Nat} (h:j<i+1):nth (chrow i) j=ch i j:=by simp [chrow,nth,h]
theorem chrow_take {i j:Nat} (h:j<i+1):(chrow i).take (j+1)=(chrow i).take j++[ch i j]:=by
 have hl:j<(chrow i).length:=by rw [chrow_len];exact h
 rw [List.take_succ_eq_append_getElem hl]
 simp [chrow]
theorem chrow_all (i:Nat):(chrow i).take (i+1)=chrow i:=List.take_of_length_le (by rw [chrow_len];exact Nat.le_refl _)
theorem own_oneI (W:World) (B:Nat) (hB:B≤W.heap.size) (x:Int):(W.alloc (Obj.cells #[.int .i64 x] 2)).ownsRow B 2 1 (.slice (some ⟨W.heap.size,0,none⟩) 1 1) 1 [.int .i64 x] :=
 ⟨rfl,.inr ⟨W.heap.size,1,#[.int .i64 x],rfl,hB,World.alloc_heap_new W _,Nat.le_refl _,by unfold maxLen;omega,rfl,rfl⟩⟩
theorem choose_any (r k:Nat) (hr:r≤64) (hk:k≤r) (W:World) :
  Calls Tryz.prog 109 #[.int .i64 (r:Int),.int .i64 (k:Int)] W fun e w'=>e = .returned (.int .i64 (ch r k))∧Below W.heap.size W w':=by
 have HR0:Hid ((W.alloc (Obj.cells #[.int .i64 1] 2)).ownsRow W.heap.size 2 1 (.slice (some ⟨W.heap.size,0,none⟩) 1 1) 1 (intv (chrow 0))∧Below W.heap.size W (W.alloc (Obj.cells #[.int .i64 1] 2))):=⟨own_oneI W _ (Nat.le_refl _) 1,(Below.refl _ W).alloc (Nat.le_refl _) _⟩
 go_enter Tryz.func109,Tryz.ntmps109
 go_wp2
 go_loopw [5,6] (fun row i wr=>∃ q:Nat,q≤r∧i = .int .i64 (q:Int)∧Hid (wr.ownsRow W.heap.size 2 1 row (q+1) (intv (chrow q))∧Below W.heap.size W wr)) (fun _ i _=>r-(intOf i).toNat)
 case atStart=>exact ⟨0,Nat.zero_le _,rfl,HR0.out⟩
 case round =>
  clear HR0
  obtain ⟨wo,hwo⟩:∃ x,x=wr:=⟨_,rfl⟩
  subst hwo
  obtain ⟨q,hq,rfl,HQ⟩:=hrel
  obtain ⟨p,c,rfl⟩:=own_slice HQ.out.1
  have hsi:Si wo (.slice p (q+1) c) (chrow q):=own_si' HQ.out.1 (chrow_len q)
  obtain ⟨p',c',e,hc⟩:=hsi
  rw [chrow_len] at hc
  injection e with e1 e2 e3
  subst e1 e3
  clear e2
  obtain ⟨b,off,rfl,hb,hcell⟩:=hc (by omega)
  have HC:Hid (∀ W2,Below wo.heap.size wo W2→∀ i,i<q+1→W2.cell? ⟨b,off+i,none⟩=some (.int .i64 (ch q i))):=fun W2 h2 i hi=>(h2.cell (p:=⟨b,off+i,none⟩) hb).trans (by rw [hcell i hi,chrow_nth hi])
  clear hc hcell
  by_cases hlt:q<r
  ·have hlt':(q:Int)<(r:Int):=by omega
   have HI0:Hid ((wo.alloc (Obj.cells #[.int .i64 1] 2)).ownsRow wo.heap.size 2 1 (.slice (some ⟨wo.heap.size,0,none⟩) 1 1) 1 (intv ((chrow (q+1)).take 1))∧Below wo.heap.size wo (wo.alloc (Obj.cells #[.int .i64 1] 2))):=by
    refine ⟨?_,(Below.refl _ wo).alloc (Nat.le_refl _) _⟩
    have e:(chrow (q+1)).take 1=[1]:=by rw [chrow_take (by omega),ch_first];rfl
    rw [e]
    exact own_oneI wo _ (Nat.le_refl _) 1
   obtain ⟨N1,hN1⟩:∃ m,q+1=m:=⟨_,rfl⟩
   have HN1:Hid (q+1=N1):=hN1
   have hN1':(N1:Int)=(q:Int)+1:=by omega
   rw [hN1]
   go_wp2
   go_loopw [7,8] (fun nx j wz=>∃ t:Nat,1≤t∧t≤q+2∧j = .int .i64 (t:Int)∧Hid (wz.ownsRow wo.heap.size 2 1 nx t (intv ((chrow (q+1)).take t))∧Below wo.heap.size wo wz)) (fun _ j _=>q+2-(intOf j).toNat)
   case atStart=>exact ⟨1,Nat.le_refl _,by omega,rfl,HI0.out⟩
   case round =>
    obtain ⟨t,ht1,ht2,rfl,HT⟩:=hrel
    obtain ⟨pn,cn,rfl⟩:=own_slice HT.out.1
    by_cases hlt2:t≤N1
    ·have ht':(t:Int)≤(N1:Int):=by omega
     have hlt2q:t≤q+1:=by omega
     have d1:=HC.out wr HT.out.2 (t-1) (by omega)
     have hk1:(t:Int)-1=((t-1:Nat):Int):=by omega
     have hk2:((t-1:Nat):Int)<(N1:Int):=by omega
     have hn1:=ch_nonneg q (t-1)
     have hn2:=ch_nonneg (q+1) t
     have hx1:=ch_lt (q+1) t (by omega)
     have HTK:Hid ((chrow (q+1)).take (t+1)=(chrow (q+1)).take t++[ch (q+1) t]):=chrow_take (by omega)
     have hlenT:((chrow (q+1)).take t).length=t:=by rw [List.length_take,chrow_len];omega
     have hrowT:wr.ownsRow wo.heap.size 2 1 (.slice pn t cn) ((chrow (q+1)).take t).length (intv ((chrow (q+1)).take t)):=by rw [hlenT];exact HT.out.1
     by_cases hlt3:t<N1
     ·have hlt3':(t:Int)<(N1:Int):=by omega
      have d2:=HC.out wr HT.out.2 t (by omega)
      have hch:ch (q+1) t=ch q t+ch q (t-1):=by rw [ch];rw [if_neg (by omega)]
      have hsum:IntKind.i64.wrap (ch q (t-1)+ch q t)=ch (q+1) t:=by rw [IntKind.wrap_i64];omega
      clear hch
      generalize ch (q+1) t=X at *
      have hX1:decide (4611686018427387904<X)=false:=by simp;omega
      have hX2:decide (X<0)=false:=by simp;omega
      have hrow3:=World.ownsRow.alloc hrowT (Obj.cells #[.int .i64 X] 2)
      have HBA:Hid (Below wo.heap.size wo (wr.alloc (Obj.cells #[.int .i64 X] 2))):=HT.out.2.alloc HT.out.2.size _
      have hsz:=HBA.out.size
      have HL:Hid (((chrow (q+1)).take t).length=t):=hlenT
      generalize (chrow (q+1)).take t=L at *
      clear hlenT hrowT
      go_wp2_with (at_builtin;refine wpList_app_sr _ rfl _ _ rfl wo.heap.size _ _ L rfl hrow3 rfl _ [X] rfl (one_si wr X) (by have:=HL.out;simp;omega) hsz ?_;intro v' w4 hown' hbel)
      go_roundw
      case rel=>exact ⟨t+1,by omega,by omega,by go_num,by rw [HTK.out];rw [HL.out] at hown';exact hown',HBA.out.trans hbel⟩
      case measure=>simp [intOf];omega
     ·have hlt3':¬(t:Int)<(N1:Int):=by omega
      have hch:ch q (t-1)=ch (q+1) t:=by
       obtain rfl:t=q+1:=by omega
       rw [show q+1-1=q by omega,ch_last,ch_last]
      rw [hch] at d1 hn1
      clear hch
      generalize ch (q+1) t=X at *
      have hX1:decide (4611686018427387904<X)=false:=by simp;omega
      have hX2:decide (X<0)=false:=by simp;omega
      have hrow3:=World.ownsRow.alloc hrowT (Obj.cells #[.int .i64 X] 2)
      have HBA:Hid (Below wo.heap.size wo (wr.alloc (Obj.cells #[.int .i64 X] 2))):=HT.out.2.alloc HT.out.2.size _
      have hsz:=HBA.out.size
      have HL:Hid (((chrow (q+1)).take t).length=t):=hlenT
      generalize (chrow (q+1)).take t=L at *
      clear hlenT hrowT
      go_wp2_with (at_builtin;refine wpList_app_sr _ rfl _ _ rfl wo.heap.size _ _ L rfl hrow3 rfl _ [X] rfl (one_si wr X) (by have:=HL.out;simp;omega) hsz ?_;intro v' w4 hown' hbel)
      go_roundw
      case rel=>exact ⟨t+1,by omega,by omega,by go_num,by rw [HTK.out];rw [HL.out] at hown';exact hown',HBA.out.trans hbel⟩
      case measure=>simp [intOf];omega
    ·have ht':¬(t:Int)≤(N1:Int):=by omega
     have HTE:Hid (t=q+2):=by unfold Hid;omega
     go_wp2
     go_roundw
     case rel=>exact ⟨q+1,by omega,by go_num,by have:=HT.out.1;rw [HTE.out,chrow_all] at this;rw [HTE.out];exact own_base this HQ.out.2.size,HQ.out.2.trans (HT.out.2.mono HQ.out.2.size)⟩
     case measure=>simp [intOf];omega
  ·have hlt':¬(q:Int)<(r:Int):=by omega
   obtain rfl:q=r:=by omega
   have d1:=HC.out wo (Below.refl _ _) k (by omega)
   have g1:decide ((k:Int)<0)=false:=by simp
   have g2:decide ((q:Int)<(k:Int))=false:=by simp;omega
   obtain ⟨N1,hN1⟩:∃ m,q+1=m:=⟨_,rfl⟩
   have hN2:(k:Int)<(N1:Int):=by omega
   rw [hN1]
   go_wp2
   go_ret
   exact ⟨rfl,HQ.out.2⟩
theorem count_plain {d:SD} (h:emptyD d=false):countD d=min (sm (fun i=>ch (d.up.length-d.lo.length) ((d.least-(d.lo.length:Int)).toNat+i)) (d.most+1-d.least).toNat) 4611686018427387904:=by
 obtain ⟨hr,h1,h2,h3⟩:=empty_no h
 have hl:=set_sub_len hr.2.2.1 hr.2.2.2.1 (right_sub hr)
 rw [count_right hr]
 unfold NSd
 generalize d.lo.length=n at *
 generalize d.up.length=m at *
 congr 1
 obtain ⟨b,hb⟩:∃ b,(d.least-(n:Int)).toNat=b:=⟨_,rfl⟩
 obtain ⟨j,hj⟩:∃ b,(d.most+1-d.least).toNat=b:=⟨_,rfl⟩
 rw [hb,hj]
 rw [←sm_mid (ch (m-n)) b j (b+j+(m-n+1)) (by omega),←NS_more (m-n) n d.least d.most (b+j+(m-n+1)) (by omega)]
 apply sm_congr
 intro i _
 unfold nsf
 by_cases c:b≤i∧i<b+j
 ·rw [if_pos c,if_pos (by omega)]
 ·rw [if_neg c,if_neg (by omega)]
theorem count_empty {d:SD} (h:emptyD d=true):countD d=0:=by
 unfold countD
 rw [(empty_yes h).1]
 rfl
theorem refcount_any (v:Value) (d:SD) (W:World) (h:Di W v d) :
  Calls Tryz.prog 92 #[v] W fun e w'=>e = .returned (.int .i64 (countD d))∧Below W.heap.size W w':=by
 have k43:=fun X (hX:Below W.heap.size W X)=>refempty_any v d X (h.below hX)
 obtain ⟨x0a,raa,rna,rca,a1a,n1a,c1a,a2a,n2a,c2a,x4a,x5a,rfl,HEa,HLOa,HUPa⟩:=h.look
 have HE:Hid (emptyD d=true→countD d=0):=count_empty
 have HF:Hid (emptyD d=false→RightD d∧d.least≤d.most∧(d.lo.length:Int)≤d.least∧d.most≤d.up.length):=empty_no
 have HG:Hid (emptyD d=false→countD d=_):=count_plain
 rw [HEa.out.2.1,HEa.out.2.2.1,HEa.out.2.2.2.1,HEa.out.2.2.2.2.1] at HF HG
 have HU:Hid (emptyD d=false→n2a≤64):=fun he=>by rw [←HEa.out.2.2.1];exact (empty_no he).1.2.2.2.1.1
 generalize countD d=CN at *
 generalize emptyD d=eb at *
 obtain ⟨w0,hW0⟩:∃ X,(W.alloc (Obj.cells #[.bool x0a,.slice raa rna rca,.slice a1a n1a c1a,.slice a2a n2a c2a,.int .i64 x4a,.int .i64 x5a] 37))=X:=⟨_,rfl⟩
 have HW0:Hid _:=hW0
 have hb0:Below W.heap.size W w0:=by rw [←hW0];exact ((Below.refl _ W).alloc (by simp<;>omega) _)
 have HA_0:Hid (R6 w0 W.heap.size (.bool x0a) (.slice raa rna rca) (.slice a1a n1a c1a) (.slice a2a n2a c2a) (.int .i64 x4a) (.int .i64 x5a)):=by rw [←hW0];exact (R6.new _ _ _ _ _ _ _)
 clear hW0
 clear h HLOa HUPa HEa
 go_enter Tryz.func92,Tryz.ntmps92
 go_upto_region 1 with (fail)
 rw [HW0.out]
 clear HW0
 obtain ⟨zA0,zA1,zA2,zA3,zA4,zA5⟩:=HA_0.out.cells
 go_wp2_with fail
 refine (k43 w0 hb0).mono ?_
 rintro e w1 ⟨rfl,hb⟩
 have hb1:Below W.heap.size W w1:=hb0.trans (hb.mono hb0.size)
 have HA_1:Hid _:=HA_0.out.below hb
 clear zA0 zA1 zA2 zA3 zA4 zA5
 clear hb hb0 HA_0
 obtain ⟨zA0,zA1,zA2,zA3,zA4,zA5⟩:=HA_1.out.cells
 cases eb
 ·obtain ⟨_,f1,f2,f3⟩:=HF.out rfl
  have hu:=HU.out rfl
  have HCN:Hid _:=HG.out rfl
  clear HE HF HG HU
  obtain ⟨r,hr⟩:∃ r,n2a-n1a=r:=⟨_,rfl⟩
  obtain ⟨b,hb'⟩:∃ b,(x4a-(n1a:Int)).toNat=b:=⟨_,rfl⟩
  obtain ⟨J,hJ⟩:∃ b,(x5a+1-x4a).toNat=b:=⟨_,rfl⟩
  rw [hr,hb',hJ] at HCN
  have g1:(n2a:Int)-(n1a:Int)=(r:Int):=by omega
  have hr64:r≤64:=by omega
  have hbr:b+J≤r+1:=by omega
  have hx4:x4a=(n1a:Int)+b:=by omega
  have hx5:x5a=(n1a:Int)+b+J-1:=by omega
  have hn1:n1a≤64:=by omega
  clear hr hb' hJ f1 f2 f3
  subst hx4 hx5
  go_wp2
  go_loopw [3,4] (fun nn kk wr=>∃ j:Nat,j≤J∧kk = .int .i64 ((n1a:Int)+b+(j:Int))∧nn = .int .i64 (sm (fun i=>ch r (b+i)) j)∧Hid (sm (fun i=>ch r (b+i)) j≤4611686018427387904∧Below w1.heap.size w1 wr)) (fun _ kk _=>((n1a:Int)+b+J-intOf kk).toNat)
  case atStart=>exact ⟨0,Nat.zero_le _,by simp,rfl,by simp [sm],Below.refl _ _⟩
  case round =>
   obtain ⟨j,hj,rfl,rfl,HP⟩:=hrel
   clear zA0 zA1 zA2 zA3 zA4 zA5
   obtain ⟨z0,z1,z2,z3,z4,z5⟩:=(HA_1.out.below HP.out.2).cells
   by_cases hlt:j<J
   ·have hlt':(n1a:Int)+b+(j:Int)≤(n1a:Int)+b+J-1:=by omega
    have g2:(n1a:Int)+b+(j:Int)-(n1a:Int)=((b+j:Nat):Int):=by omega
    have k80:=choose_any r (b+j) hr64 (by omega) wr
    have c1:=ch_nonneg r (b+j)
    have c2:=ch_lt r (b+j) hr64
    have HS:Hid (sm (fun i=>ch r (b+i)) (j+1)=sm (fun i=>ch r (b+i)) j+ch r (b+j)):=rfl
    have s0:0≤sm (fun i=>ch r (b+i)) j:=sm_nonneg _ fun i _=>ch_nonneg _ _
    have s1:=HP.out.1
    have HMO:Hid (sm (fun i=>ch r (b+i)) (j+1)≤sm (fun i=>ch r (b+i)) J):=by
     have:=sm_mono (f:=fun i=>ch r (b+i)) (fun i=>ch_nonneg _ _) (j+1) (J-(j+1))
     rw [show j+1+(J-(j+1))=J by omega] at this
     exact this
    have HB':Hid _:=HP.out.2
    clear HP
    generalize sm (fun i=>ch r (b+i)) J=ST at *
    obtain ⟨S2,hS2e⟩:∃ x,sm (fun i=>ch r (b+i)) (j+1)=x:=⟨_,rfl⟩
    have HS9:Hid (sm (fun i=>ch r (b+i)) (j+1)=S2):=hS2e
    rw [hS2e] at HS HMO
    clear hS2e
    generalize sm (fun i=>ch r (b+i)) j=S1 at *
    generalize ch r (b+j)=c at *
    have hw:IntKind.i64.wrap (S1+c)=S2:=by rw [HS.out,IntKind.wrap_i64];omega
    have hS2:0≤S2:=by rw [HS.out];omega
    by_cases hov:4611686018427387904<S2
    ·have q1:decide (4611686018427387904<S2)=true:=by simpa using hov
     have HCE:Hid (CN=4611686018427387904):=by unfold Hid;have:=HCN.out;have:=HMO.out;omega
     go_wp2_with fail
     refine k80.mono ?_
     rintro e w3 ⟨rfl,hb⟩
     have hB3:Below w1.heap.size w1 w3:=HB'.out.trans (hb.mono HB'.out.size)
     have hB4:Below W.heap.size W w3:=hb1.trans (hB3.mono hb1.size)
     go_wp2
     go_ret
     exact ⟨by first | (rw [HCE.out];done) | (rw [HCE.out];rfl),hB4⟩
    ·have q1:decide (4611686018427387904<S2)=false:=by simpa using hov
     have q2:decide (S2<0)=false:=by simp;omega
     go_wp2_with fail
     refine k80.mono ?_
     rintro e w3 ⟨rfl,hb⟩
     have hB3:Below w1.heap.size w1 w3:=HB'.out.trans (hb.mono HB'.out.size)
     go_wp2
     go_roundw
     case rel=>exact ⟨j+1,by omega,by go_num,by first | (rw [HS9.out];done) | (rw [HS9.out];rfl),by rw [HS9.out];omega,hB3⟩
     case measure=>simp [intOf];omega
   ·obtain rfl:j=J:=by omega
    have hlt':¬(n1a:Int)+b+(j:Int)≤(n1a:Int)+b+j-1:=by omega
    have HCE:Hid (CN=sm (fun i=>ch r (b+i)) j):=by unfold Hid;have:=HCN.out;have:=HP.out.1;omega
    have hB4:Below W.heap.size W wr:=hb1.trans (HP.out.2.mono hb1.size)
    go_wp2
    go_ret
    exact ⟨by first | (rw [HCE.out];done) | (rw [HCE.out];rfl),hB4⟩
 ·have hz:=HE.out rfl
  subst hz
  go_wp2
  go_ret
  exact ⟨rfl,hb1⟩
def mn (lo up:List Int) (i:Nat):Nat:=((up.drop i).filter fun x=>lo.contains x).length
theorem mn_end (lo up:List Int) (i:Nat) (h:up.length≤i):mn lo up i=0:=by unfold mn;rw [List.drop_eq_nil_of_le h];rfl
theorem mn_step (lo up:List Int) (i:Nat) (h:i<up.length):mn lo up i=(if lo.contains (nth up i) then 1 else 0)+mn lo up (i+1):=by
 unfold mn
 rw [List.drop_eq_getElem_cons h]
 have e:nth up i=up[i]:=by simp [nth,h]
 rw [e,List.filter_cons]
 cases lo.contains up[i]
 ·simp
 ·simp;omega
theorem mn_le (lo up:List Int) (i:Nat):mn lo up i≤up.length:=by
 unfold mn
 have:=List.length_filter_le (fun x=>lo.contains x) (up.drop i)
 rw [List.length_drop] at this
 omega
theorem mustn_any (v:Value) (d:SD) (at0:Nat) (W:World) (h:Di W v d) (hlo:IsSet d.lo) (hup:d.up.length≤1000) (hat:at0≤1000) :
  Calls Tryz.prog 121 #[v,.int .i64 (at0:Int)] W fun e w'=>e = .returned (.int .i64 (mn d.lo d.up at0:Nat))∧Below W.heap.size W w':=by
 obtain ⟨x0a,raa,rna,rca,a1a,n1a,c1a,a2a,n2a,c2a,x4a,x5a,rfl,HEa,HLOa,HUPa⟩:=h.look
 have k26:=fun x X (hX:Below W.heap.size W X)=>refin_below x (.slice a1a n1a c1a) d.lo X (HLOa.out.below hX)
 rw [tkS_yes hlo] at k26
 have HN2:Hid (d.up.length=n2a):=HEa.out.2.2.1
 rw [HN2.out] at hup
 obtain ⟨w0,hW0⟩:∃ X,(W.alloc (Obj.cells #[.bool x0a,.slice raa rna rca,.slice a1a n1a c1a,.slice a2a n2a c2a,.int .i64 x4a,.int .i64 x5a] 37))=X:=⟨_,rfl⟩
 have HW0:Hid _:=hW0
 have hb0:Below W.heap.size W w0:=by rw [←hW0];exact ((Below.refl _ W).alloc (by simp<;>omega) _)
 have HA_0:Hid (R6 w0 W.heap.size (.bool x0a) (.slice raa rna rca) (.slice a1a n1a c1a) (.slice a2a n2a c2a) (.int .i64 x4a) (.int .i64 x5a)):=by rw [←hW0];exact (R6.new _ _ _ _ _ _ _)
 clear hW0
 clear h HLOa HEa hlo
 go_enter Tryz.func121,Tryz.ntmps121
 go_upto_region 1 with (fail)
 rw [HW0.out]
 clear HW0
 go_wp2
 go_loopw [5,6] (fun nn i wr=>∃ k m:Nat,at0≤k∧(k≤n2a∨k=at0)∧i = .int .i64 (k:Int)∧nn = .int .i64 (m:Int)∧Hid (m+mn d.lo d.up k=mn d.lo d.up at0∧Below w0.heap.size w0 wr)) (fun _ i _=>n2a-(intOf i).toNat)
 case atStart=>exact ⟨at0,0,Nat.le_refl _,.inr rfl,rfl,rfl,by simp,Below.refl _ _⟩
 case round =>
  obtain ⟨k,m,hk1,hk2,rfl,rfl,HP⟩:=hrel
  have hR:=HA_0.out.below HP.out.2
  obtain ⟨z0,z1,z2,z3,z4,z5⟩:=hR.cells
  by_cases hlt:k<n2a
  ·have hlt':(k:Int)<(n2a:Int):=by omega
   have hup':=HUPa.out
   obtain ⟨p',c',e,hc⟩:=hup'
   rw [HN2.out] at e hc
   injection e with e1 _ e3
   subst e1 e3
   obtain ⟨b,off,rfl,hbl,hcell⟩:=hc (by omega)
   obtain ⟨x,hx⟩:∃ x,nth d.up k=x:=⟨_,rfl⟩
   have hst:=mn_step d.lo d.up k (by rw [HN2.out];exact hlt)
   rw [hx] at hst
   have hml:=mn_le d.lo d.up at0
   rw [HN2.out] at hml
   have HST:Hid (m+mn d.lo d.up k=mn d.lo d.up at0∧mn d.lo d.up k=(if d.lo.contains x then 1 else 0)+mn d.lo d.up (k+1)∧mn d.lo d.up at0≤n2a):=⟨HP.out.1,hst,hml⟩
   have hm1:m≤1000:=by have:=HP.out.1;omega
   have hcx:W.cell? ⟨b,off+k,none⟩=some (.int .i64 x):=by rw [hcell k hlt,hx]
   have hBW:∀ X,Below wr.heap.size wr X→Below W.heap.size W X:=fun X hX=>(hb0.trans (HP.out.2.mono hb0.size)).trans (hX.mono ((hb0.trans (HP.out.2.mono hb0.size))).size)
   have HK:∀ X,Below wr.heap.size wr X→X.cell? ⟨W.heap.size,2,none⟩=some (.slice a1a n1a c1a)∧X.cell? ⟨W.heap.size,3,none⟩=some (.slice (some ⟨b,off,none⟩) n2a c2a)∧X.cell? ⟨b,off+k,none⟩=some (.int .i64 x):=fun X hX=>by
    obtain ⟨_,_,c2,c3,_,_⟩:=(hR.below hX).cells
    exact ⟨c2,c3,((hBW X hX).cell (p:=⟨b,off+k,none⟩) hbl).trans hcx⟩
   have hB0:Below wr.heap.size wr wr.drew:=Below.drew (Below.refl _ _)
   have HB9:Hid _:=HP.out.2
   clear hx hst hml hcell hc hcx HP hR
   obtain ⟨bb,hbb⟩:∃ bo,d.lo.contains x=bo:=⟨_,rfl⟩
   have HBB:Hid (d.lo.contains x=bb):=hbb
   have k26:=k26 x
   rw [hbb] at k26
   clear hbb
   go_upto_region 5 with (fail)
   clear z0 z1 z2 z3 z4 z5
   refine wp_region_held_drew (S:=(fun w'=>w'.cell? ⟨W.heap.size,2,none⟩=some (.slice a1a n1a c1a)∧w'.cell? ⟨W.heap.size,3,none⟩=some (.slice (some ⟨b,off,none⟩) n2a c2a)∧w'.cell? ⟨b,off+k,none⟩=some (.int .i64 x))) (by kernel_rfl) (HK _ hB0) (fun hHeld=>?_)
   refine tkH 0 ⟨some 15,.fieldAddr 37 (.tmp 2) 3,0,"ref.go:328",#[],none⟩ (v:=?_) hHeld ?_ ?_;rotate_left
   ·intro w hSw;(try dsimp only at hSw);go_simp<;>with_reducible rfl
   try simp only [Act.put,zS,eZ,eS]
   refine tkH 1 ⟨some 16,.load 35 (.tmp 15),35,"ref.go:328",#[⟨0,.data⟩],none⟩ (v:=?_) hHeld ?_ ?_;rotate_left
   ·intro w hSw;(try dsimp only at hSw);go_simp<;>with_reducible rfl
   try simp only [Act.put,zS,eZ,eS]
   refine tkH 2 ⟨some 17,.move (.tmp 6),3,"ref.go:328",#[],none⟩ (v:=?_) hHeld ?_ ?_;rotate_left
   ·intro w hSw;(try dsimp only at hSw);go_simp<;>with_reducible rfl
   try simp only [Act.put,zS,eZ,eS]
   refine tkH 5 ⟨some 20,.fieldAddr 37 (.tmp 2) 2,0,"ref.go:328",#[],none⟩ (v:=?_) hHeld ?_ ?_;rotate_left
   ·intro w hSw;(try dsimp only at hSw);go_simp<;>with_reducible rfl
   try simp only [Act.put,zS,eZ,eS]
   refine tkH 6 ⟨some 21,.load 35 (.tmp 20),35,"ref.go:328",#[⟨5,.data⟩],none⟩ (v:=?_) hHeld ?_ ?_;rotate_left
   ·intro w hSw;(try dsimp only at hSw);go_simp<;>with_reducible rfl
   try simp only [Act.put,zS,eZ,eS]
   refine rdy 3 rfl fun K hK=>?_
   go_simp
   clear hHeld;refine hK.out _ _ (HK _ hB0) fun hHeld=>?_
   clear hK K
   try simp only [Act.put,zS,eZ,eS]
   refine tkH 4 ⟨some 19,.load 2 (.tmp 18),2,"ref.go:328",#[⟨3,.data⟩],none⟩ (v:=?_) hHeld ?_ ?_;rotate_left
   ·intro w hSw;(try dsimp only at hSw);go_simp<;>with_reducible rfl
   try simp only [Act.put,zS,eZ,eS]
   refine rdy 7 rfl fun K hK=>?_
   go_simp
   refine (k26 _ (hBW _ hB0)).mono ?_
   rintro e w3 ⟨rfl,hb3⟩
   have hB3:Below wr.heap.size wr w3:=hB0.trans (hb3.mono hB0.size)
   clear hHeld;refine hK.out _ _ (HK _ hB3) fun hHeld=>?_
   clear hK K
   try simp only [Act.put,zS,eZ,eS]
   refine wpAnyH_done (by kernel_rfl) ?_ _
   cases bb
   ·go_wp2
    go_roundw
    case rel=>exact ⟨k+1,m,by omega,.inl (by omega),by go_num,rfl,by have h9:=HST.out;rw [HBB.out] at h9;simp only [Bool.false_eq_true,if_false] at h9;omega,HB9.out.trans (hB3.mono HB9.out.size)⟩
    case measure=>simp [intOf];omega
   ·go_wp2
    go_roundw
    case rel=>exact ⟨k+1,m+1,by omega,.inl (by omega),by go_num,by go_num,by have h9:=HST.out;rw [HBB.out] at h9;simp only [if_true] at h9;omega,HB9.out.trans (hB3.mono HB9.out.size)⟩
    case measure=>simp [intOf];omega
  ·have hlt':¬(k:Int)<(n2a:Int):=by omega
   have HE9:Hid (m=mn d.lo d.up at0):=by
    have h9:=HP.out.1
    rw [mn_end d.lo d.up k (by rw [HN2.out];omega)] at h9
    unfold Hid;omega
   go_wp2
   go_ret
   exact ⟨by first | (rw [HE9.out];done) | (rw [HE9.out];rfl),hb0.trans (HP.out.2.mono hb0.size)⟩
structure Uq (d : SD) (S : List Int) : Prop where
 right:RightD d
 least:d.least=S.length
 most:d.most=S.length
 set:IsSet S
 los:∀ x∈d.lo,x∈S
 sup:∀ x∈S,x∈d.up
 alt:S=d.up∨S=d.lo
def hd (S up:List Int) (i:Nat):List Int:=(up.take i).filter fun x=>S.contains x
theorem hd_zero (S up:List Int):hd S up 0=[]:=by simp [hd]
theorem hd_step (S up:List Int) (i:Nat) (h:i<up.length):hd S up (i+1)=if S.contains (nth up i) then hd S up i++[nth up i] else hd S up i:=by
 unfold hd
 rw [List.take_succ_eq_append_getElem h,List.filter_append]
 have e:nth up i=up[i]:=by simp [nth,h]
 rw [e,List.filter_cons]
 cases S.contains up[i]<;>simp
theorem filter_set {S up:List Int} (hS:IsSet S) (hu:IsSet up) (h:∀ x∈S,x∈up):(up.filter fun x=>S.contains x)=S :=
 set_ext (set_filter hu _) hS fun x=>by
  rw [List.mem_filter]
  simp only [List.contains_iff_mem]
  exact ⟨fun g=>g.2,fun g=>⟨h x g,g⟩⟩
theorem hd_rest {S up:List Int} (hS:IsSet S) (hu:IsSet up) (h:∀ x∈S,x∈up) (i:Nat):(hd S up i).length+mn S up i=S.length:=by
 unfold hd mn
 rw [←List.length_append,←List.filter_append,List.take_append_drop,filter_set hS hu h]
theorem hd_set {S up:List Int} (hu:IsSet up) (i:Nat):IsSet (hd S up i):=by
 have hp:(up.take i).Pairwise (· < ·):=(set_pw hu).sublist (List.take_sublist i up)
 have hl:=List.length_filter_le (fun x=>S.contains x) (up.take i)
 have hl2:=List.length_take_le i up
 have h64:=hu.1
 have hl3:(up.take i).length≤up.length:=by rw [List.length_take];omega
 exact set_of (by unfold hd;omega) (fun x hx=>set_mem hu x (List.mem_of_mem_take (List.mem_filter.1 hx).1)) (hp.filter _)
theorem hd_in {S up:List Int} (i:Nat):∀ x∈hd S up i,x∈S:=fun x hx=>by
 have:=(List.mem_filter.1 hx).2
 simpa using this
theorem mn_mono {lo S:List Int} (up:List Int) (h:∀ x∈lo,x∈S) (i:Nat):mn lo up i≤mn S up i:=by
 unfold mn
 generalize up.drop i=l
 induction l with
 | nil=>simp
 | cons x l ih =>
  rw [List.filter_cons,List.filter_cons]
  by_cases hx:x∈lo
  ·have e1:lo.contains x=true:=by simpa using hx
   have e2:S.contains x=true:=by simpa using h x hx
   simp only [e1,e2,if_true,List.length_cons];omega
  ·have e1:lo.contains x=false:=by simpa using hx
   simp only [e1,Bool.false_eq_true,if_false]
   split
   ·simp only [List.length_cons];omega
   ·exact ih
theorem mn_drop (S up:List Int) (i:Nat):mn S up i≤up.length-i:=by
 unfold mn
 have:=List.length_filter_le (fun x=>S.contains x) (up.drop i)
 rw [List.length_drop] at this
 exact this
theorem Uq.len {d:SD} {S:List Int} (h:Uq d S) (i:Nat):(hd S d.up i).length+mn S d.up i=S.length:=hd_rest h.set h.right.2.2.2.1 h.sup i
theorem Uq.found {d:SD} {S:List Int} (h:Uq d S) {i:Nat} (e:(hd S d.up i).length=S.length):hd S d.up i=S:=set_sub_eq (hd_set h.right.2.2.2.1 i) h.set (hd_in i) (by omega)
theorem Uq.has {d:SD} {S:List Int} (h:Uq d S) (i:Nat):hasD d (hd S d.up i)=decide ((hd S d.up i).length=S.length):=by
 rw [Bool.eq_iff_iff,has_iff,tkS_yes (hd_set h.right.2.2.2.1 i),decide_eq_true_eq]
 have hl:=h.len i
 constructor
 ·rintro ⟨_,_,_,h3,_⟩
  rw [h.least] at h3
  omega
 ·intro e
  rw [h.found e]
  exact ⟨h.right,h.los,h.sup,by rw [h.least];omega,by rw [h.most];omega⟩
theorem Uq.goes {d:SD} {S:List Int} (h:Uq d S) {i:Nat} (e:¬(hd S d.up i).length=S.length) :
  i<d.up.length∧(hd S d.up i).length<S.length∧S.length≤(hd S d.up i).length+(d.up.length-i) ∧
  (S.contains (nth d.up i)=true→(hd S d.up i).length+1+mn d.lo d.up (i+1)≤S.length) ∧
  (S.contains (nth d.up i)=false→S.length<(hd S d.up i).length+1+mn d.lo d.up (i+1)∧d.lo.contains (nth d.up i)=false):=by
 have hl:=h.len i
 have h1:i<d.up.length:=by
  apply Classical.byContradiction
  intro hn
  rw [mn_end S d.up i (by omega)] at hl
  omega
 have h2:=mn_drop S d.up i
 have h3:=mn_step S d.up i h1
 have h4:=mn_mono d.up h.los (i+1)
 refine ⟨h1,by omega,by omega,fun hc=>?_,fun hc=>?_⟩
 ·rw [hc] at h3
  simp only [if_true] at h3
  omega
 ·rw [hc] at h3
  simp only [Bool.false_eq_true,if_false] at h3
  have hn:¬nth d.up i∈S:=by simpa using hc
  have hlo:S=d.lo:=by
   rcases h.alt with e | e
   ·exact absurd (by rw [e];simp [nth,h1]) hn
   ·exact e
  refine ⟨by rw [←hlo];omega,by rw [←hlo];exact hc⟩
theorem Uq.grow {d:SD} {S:List Int} (h:Uq d S) {i:Nat} (e:i<d.up.length):(S.contains (nth d.up i)=true→hd S d.up (i+1)=hd S d.up i++[nth d.up i])∧(S.contains (nth d.up i)=false→hd S d.up (i+1)=hd S d.up i):=by
 rw [hd_step S d.up i e]
 exact ⟨fun g=>by rw [g];rfl,fun g=>by rw [g];rfl⟩
theorem ch_pos:∀ r i,i≤r→1≤ch r i
 | 0,i,h=>by
  obtain rfl:i=0:=by omega
  decide
 | r+1,i,h=>by
  rw [ch]
  split
  ·exact ch_pos r 0 (Nat.zero_le _)
  ·have h1:=ch_pos r (i-1) (by omega)
   have h2:=ch_nonneg r i
   omega
theorem ch_two {r i:Nat} (h0:0<i) (h:i<r):2≤ch r i:=by
 match r,h with
 | r+1,h =>
  rw [ch,if_neg (by omega)]
  have h1:=ch_pos r (i-1) (by omega)
  have h2:=ch_pos r i (by omega)
  omega
theorem sm_ge1 {f:Nat→Int} (hf:∀ i,0≤f i) {i n:Nat} (h:i<n):f i≤sm f n:=by
 have h1:=sm_mono hf (i+1) (n-(i+1))
 rw [show i+1+(n-(i+1))=n by omega] at h1
 have h2:sm f (i+1)=sm f i+f i:=rfl
 have h3:=sm_nonneg (f:=f) i fun j _=>hf j
 omega
theorem sm_ge2 {f:Nat→Int} (hf:∀ i,0≤f i) {i j n:Nat} (hij:i<j) (h:j<n):f i+f j≤sm f n:=by
 have h1:=sm_mono hf (j+1) (n-(j+1))
 rw [show j+1+(n-(j+1))=n by omega] at h1
 have h2:sm f (j+1)=sm f j+f j:=rfl
 have h3:=sm_ge1 hf hij
 omega
theorem NS_two {r n:Nat} {least most:Int} (h1:(n:Int)≤least) (h2:least≤most) (h3:most≤(n:Int)+r) (h4:least<(n:Int)+r) (h5:(n:Int)<most):2≤NS r n least most:=by
 unfold NS
 obtain ⟨a,ha⟩:∃ a:Nat,least=(n:Int)+a:=⟨(least-n).toNat,by omega⟩
 obtain ⟨b,hb⟩:∃ b:Nat,most=(n:Int)+b:=⟨(most-n).toNat,by omega⟩
 subst ha hb
 have hf:=nsf_nonneg r n ((n:Int)+a) ((n:Int)+b)
 have ea:nsf r n ((n:Int)+a) ((n:Int)+b) a=ch r a:=by unfold nsf;rw [if_pos (by omega)]
 have eb:nsf r n ((n:Int)+a) ((n:Int)+b) b=ch r b:=by unfold nsf;rw [if_pos (by omega)]
 by_cases hab:a=b
 ·subst hab
  have:=sm_ge1 hf (i:=a) (n:=r+1) (by omega)
  have h2:=ch_two (r:=r) (i:=a) (by omega) (by omega)
  omega
 ·have:=sm_ge2 hf (i:=a) (j:=b) (n:=r+1) (by omega) (by omega)
  have p1:=ch_pos r a (by omega)
  have p2:=ch_pos r b (by omega)
  omega
theorem NS_one (L:List Int):NSd (TD L L L.length L.length)=1:=by
 unfold NSd NS
 simp only [TD,Nat.sub_self]
 show sm (nsf 0 L.length L.length L.length) 1=1
 have:sm (nsf 0 L.length L.length L.length) 1=0+nsf 0 L.length L.length L.length 0:=rfl
 rw [this]
 unfold nsf
 rw [if_pos (by omega)]
 rfl
theorem td_empty {L:List Int} (h:IsSet L):emptyD (TD L L L.length L.length)=false:=by
 have hr:RightD (TD L L L.length L.length):=⟨rfl,rfl,h,h,sub_refl _,.inr ⟨Int.le_refl _,Int.le_refl _,Int.le_refl _⟩⟩
 unfold emptyD
 rw [show rightD (TD L L L.length L.length)=true from decide_eq_true hr]
 simp [TD]
theorem fixed_one (d:SD):(countD d=1∧fixB d=true∧Uq d (takenD d).lo)∨(countD d≠1∧fixB d=false):=by
 cases he:emptyD d
 ·obtain ⟨hr,h1,h2,h3⟩:=empty_no he
  have hs:=right_sub hr
  have l1:=hr.2.2.1
  have l2:=hr.2.2.2.1
  have e:takenD d=tightD d.lo d.up d.least d.most:=by unfold takenD;rw [if_pos hr]
  rcases tight_cases2 d.least d.most l1 l2 hs with ⟨e',a⟩ | ⟨e',a,b⟩ | ⟨e',a,b,c⟩ | ⟨e',a,b,c,f⟩
  ·omega
  ·rw [e'] at e
   refine .inl ⟨by rw [count_NS,e,NS_one];rfl,?_,?_⟩
   ·unfold fixB;rw [e,td_empty l2];simp [TD]
   ·rw [e];exact ⟨hr,by show d.least=d.up.length;omega,by show d.most=d.up.length;omega,l2,hs,fun _ h=>h,.inl rfl⟩
  ·rw [e'] at e
   refine .inl ⟨by rw [count_NS,e,NS_one];rfl,?_,?_⟩
   ·unfold fixB;rw [e,td_empty l1];simp [TD]
   ·rw [e];exact ⟨hr,by show d.least=d.lo.length;omega,by show d.most=d.lo.length;omega,l1,fun _ h=>h,hs,.inr rfl⟩
  ·refine .inr ⟨?_,?_⟩
   ·rw [count_right hr]
    have h9:2≤NSd d:=by
     unfold NSd
     exact NS_two h2 h1 (by omega) (by omega) (by omega)
    omega
   ·unfold fixB
    have hlo:(takenD d).lo=d.lo:=by rw [e,e'];rfl
    have hup:(takenD d).up=d.up:=by rw [e,e'];rfl
    have:decide (d.lo.length<d.up.length)=true:=by simpa using b
    rw [hlo,hup,this];simp
 ·refine .inr ⟨by rw [count_empty he];decide,?_⟩
  unfold fixB
  rw [(empty_yes he).1,empty_none];rfl
end Go.Proofs.YtghnfnieppfhgaaGreat.St
