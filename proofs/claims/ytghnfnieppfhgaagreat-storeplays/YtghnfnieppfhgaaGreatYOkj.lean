/- What is proved here: what sets.Same tells of any two domains. What is proved here: what sets.Both leaves of any two domains. What is proved here: the reference's One of a domain and its like, and Spoil. the reference's Spoil. the reference's Lent of a domain. -/
import Derived.Test.YtghnfnieppfhgaaGreatAa
import Derived.Test.YtghnfnieppfhgaaGreatYTbj
set_option linter.unusedVariables false
set_option linter.unusedSimpArgs false
set_option maxRecDepth 100000
set_option maxHeartbeats 4000000
namespace Go.Proofs.YtghnfnieppfhgaaGreat.St
open Go.RowKit Go.Shelf
theorem eqc {P:Program} {F:Nat} {args:Array Value} {W:World} {b c:Bool} {Q:World→Prop} (h:b=c) (k:Calls P F args W fun e w'=>e = .returned (.bool b)∧Q w'):Calls P F args W fun e w'=>e = .returned (.bool c)∧Q w':=by
 subst h;exact k
theorem same_dom (v u:Value) (d o:SD) (W:World) (h:Di W v d) (ho:Di W u o) :
  Calls Tryz.prog 75 #[v,u] W fun e w'=>e = .returned (.bool (sameD d o))∧Below W.heap.size W w':=by
 have hM:sameD d o=(decide ((takenD d).lo=(takenD o).lo)&&decide ((takenD d).up=(takenD o).up)&&decide ((takenD d).least=(takenD o).least)&&decide ((takenD d).most=(takenD o).most)):=rfl
 have HM:Hid _:=hM
 generalize sameD d o=MD at hM HM ⊢
 clear hM
 have hl1:(takenD d).lo.length*8≤140737488351232:=by have:=(taken_right d).2.2.1.1;omega
 have hl2:(takenD d).up.length*8≤140737488351232:=by have:=(taken_right d).2.2.2.1.1;omega
 have k77a:=fun X (hX:Below W.heap.size W X)=>taken_look v d X (h.below hX)
 have k77b:=fun X (hX:Below W.heap.size W X)=>taken_look u o X (ho.below hX)
 obtain ⟨x0a,raa,rna,rca,a1a,n1a,c1a,a2a,n2a,c2a,x4a,x5a,rfl,HEa,_,_⟩:=h.look
 obtain ⟨x0b,rab,rnb,rcb,a1b,n1b,c1b,a2b,n2b,c2b,x4b,x5b,rfl,HEb,_,_⟩:=ho.look
 obtain ⟨W0,hW0⟩:∃ X,(W.alloc (Obj.cells #[.bool x0a,.slice raa rna rca,.slice a1a n1a c1a,.slice a2a n2a c2a,.int .i64 x4a,.int .i64 x5a] 37)).alloc (Obj.cells #[.bool x0b,.slice rab rnb rcb,.slice a1b n1b c1b,.slice a2b n2b c2b,.int .i64 x4b,.int .i64 x5b] 37)=X:=⟨_,rfl⟩
 have HW0:Hid _:=hW0
 have hb0:Below W.heap.size W W0:=by rw [←hW0];exact (((Below.refl _ W).alloc (Nat.le_refl _) _).alloc (by simp) _)
 have HA0:Hid (R6 W0 W.heap.size (.bool x0a) (.slice raa rna rca) (.slice a1a n1a c1a) (.slice a2a n2a c2a) (.int .i64 x4a) (.int .i64 x5a)):=by rw [←hW0];exact (R6.new _ _ _ _ _ _ _).alloc _
 have HB0:Hid (R6 W0 (W.heap.size+1) (.bool x0b) (.slice rab rnb rcb) (.slice a1b n1b c1b) (.slice a2b n2b c2b) (.int .i64 x4b) (.int .i64 x5b)):=by rw [←hW0];exact R6.new1 _ _ _ _ _ _ _ _
 clear hW0 h ho HEa HEb
 go_enter Tryz.func75,Tryz.ntmps75
 go_upto_region 1 with (fail)
 rw [HW0.out]
 refine wp_region_held_drew (S:=fun _=>True) (by kernel_rfl) trivial (fun hHeld=>?_)
 have hbd:Below W.heap.size W W0.drew:=Below.drew hb0
 have HAd:Hid (R6 W0.drew W.heap.size (.bool x0a) (.slice raa rna rca) (.slice a1a n1a c1a) (.slice a2a n2a c2a) (.int .i64 x4a) (.int .i64 x5a)):=⟨HA0.out.h⟩
 have HBd:Hid (R6 W0.drew (W.heap.size+1) (.bool x0b) (.slice rab rnb rcb) (.slice a1b n1b c1b) (.slice a2b n2b c2b) (.int .i64 x4b) (.int .i64 x5b)):=⟨HB0.out.h⟩
 clear hb0 HA0 HB0 HW0
 generalize W0.drew=w0 at *
 clear W0
 have HA2:=HAd
 have HB2:=HBd
 have hb2:=hbd
 clear HAd HBd hbd
 refine rd2 0 2 (fun K hK=>?_) (fun K hK=>?_)
 focus
  obtain ⟨q0,q1,q2,q3,q4,q5⟩:=HA2.out.cells;go_simp;clear q0 q1 q2 q3 q4 q5;refine hK.out _ _ trivial (fun _=>?_);clear hK K;try simp only [Act.put,zS,eZ,eS]
  refine rd2 1 2 (fun K hK=>?_) (fun K hK=>?_)
  focus
   go_simp;refine (k77a _ hb2).mono ?_;rintro e w2 ⟨y0a,p1a,m1a,k1a,p2a,m2a,k2a,y4a,y5a,rfl,HDa,HLa,hs1a,hs2a,hb⟩;replace hb2:Below W.heap.size W w2:=hb2.trans (hb.mono hb2.size);replace HA2:=hid (HA2.out.below hb);replace HB2:=hid (HB2.out.below hb);try replace HDb2:=hid (HDb2.out.below hb)
   have HDa2:Hid (Dv 0 w2 (.agg #[.bool y0a,.slice none 0 0,.slice p1a m1a k1a,.slice p2a m2a k2a,.int .i64 y4a,.int .i64 y5a]) (takenD d)):=HDa.out.base (Nat.zero_le _)
   clear hb HDa;refine hK.out _ _ trivial (fun _=>?_);clear hK K;try simp only [Act.put,zS,eZ,eS]
   refine rd1 2 fun K hK=>?_
   obtain ⟨q0,q1,q2,q3,q4,q5⟩:=HB2.out.cells;go_simp;clear q0 q1 q2 q3 q4 q5;refine hK.out _ _ trivial (fun _=>?_);clear hK K;try simp only [Act.put,zS,eZ,eS]
   refine rd1 3 fun K hK=>?_
   go_simp;refine (k77b _ hb2).mono ?_;rintro e w2 ⟨y0b,p1b,m1b,k1b,p2b,m2b,k2b,y4b,y5b,rfl,HDb,HLb,hs1b,hs2b,hb⟩;replace hb2:Below W.heap.size W w2:=hb2.trans (hb.mono hb2.size);replace HA2:=hid (HA2.out.below hb);replace HB2:=hid (HB2.out.below hb);try replace HDa2:=hid (HDa2.out.below hb)
   have HDb2:Hid (Dv 0 w2 (.agg #[.bool y0b,.slice none 0 0,.slice p1b m1b k1b,.slice p2b m2b k2b,.int .i64 y4b,.int .i64 y5b]) (takenD o)):=HDb.out.base (Nat.zero_le _)
   clear hb HDb;refine hK.out _ _ trivial (fun _=>?_);clear hK K;try simp only [Act.put,zS,eZ,eS]
  rotate_left 1
  focus
   obtain ⟨q0,q1,q2,q3,q4,q5⟩:=HB2.out.cells;go_simp;clear q0 q1 q2 q3 q4 q5;refine hK.out _ _ trivial (fun _=>?_);clear hK K;try simp only [Act.put,zS,eZ,eS]
   refine rd1 1 fun K hK=>?_
   go_simp;refine (k77a _ hb2).mono ?_;rintro e w2 ⟨y0a,p1a,m1a,k1a,p2a,m2a,k2a,y4a,y5a,rfl,HDa,HLa,hs1a,hs2a,hb⟩;replace hb2:Below W.heap.size W w2:=hb2.trans (hb.mono hb2.size);replace HA2:=hid (HA2.out.below hb);replace HB2:=hid (HB2.out.below hb);try replace HDb2:=hid (HDb2.out.below hb)
   have HDa2:Hid (Dv 0 w2 (.agg #[.bool y0a,.slice none 0 0,.slice p1a m1a k1a,.slice p2a m2a k2a,.int .i64 y4a,.int .i64 y5a]) (takenD d)):=HDa.out.base (Nat.zero_le _)
   clear hb HDa;refine hK.out _ _ trivial (fun _=>?_);clear hK K;try simp only [Act.put,zS,eZ,eS]
   refine rd1 3 fun K hK=>?_
   go_simp;refine (k77b _ hb2).mono ?_;rintro e w2 ⟨y0b,p1b,m1b,k1b,p2b,m2b,k2b,y4b,y5b,rfl,HDb,HLb,hs1b,hs2b,hb⟩;replace hb2:Below W.heap.size W w2:=hb2.trans (hb.mono hb2.size);replace HA2:=hid (HA2.out.below hb);replace HB2:=hid (HB2.out.below hb);try replace HDa2:=hid (HDa2.out.below hb)
   have HDb2:Hid (Dv 0 w2 (.agg #[.bool y0b,.slice none 0 0,.slice p1b m1b k1b,.slice p2b m2b k2b,.int .i64 y4b,.int .i64 y5b]) (takenD o)):=HDb.out.base (Nat.zero_le _)
   clear hb HDb;refine hK.out _ _ trivial (fun _=>?_);clear hK K;try simp only [Act.put,zS,eZ,eS]
 rotate_left 2
 focus
  obtain ⟨q0,q1,q2,q3,q4,q5⟩:=HB2.out.cells;go_simp;clear q0 q1 q2 q3 q4 q5;refine hK.out _ _ trivial (fun _=>?_);clear hK K;try simp only [Act.put,zS,eZ,eS]
  refine rd1 0 fun K hK=>?_
  obtain ⟨q0,q1,q2,q3,q4,q5⟩:=HA2.out.cells;go_simp;clear q0 q1 q2 q3 q4 q5;refine hK.out _ _ trivial (fun _=>?_);clear hK K;try simp only [Act.put,zS,eZ,eS]
  refine rd1 1 fun K hK=>?_
  go_simp;refine (k77a _ hb2).mono ?_;rintro e w2 ⟨y0a,p1a,m1a,k1a,p2a,m2a,k2a,y4a,y5a,rfl,HDa,HLa,hs1a,hs2a,hb⟩;replace hb2:Below W.heap.size W w2:=hb2.trans (hb.mono hb2.size);replace HA2:=hid (HA2.out.below hb);replace HB2:=hid (HB2.out.below hb);try replace HDb2:=hid (HDb2.out.below hb)
  have HDa2:Hid (Dv 0 w2 (.agg #[.bool y0a,.slice none 0 0,.slice p1a m1a k1a,.slice p2a m2a k2a,.int .i64 y4a,.int .i64 y5a]) (takenD d)):=HDa.out.base (Nat.zero_le _)
  clear hb HDa;refine hK.out _ _ trivial (fun _=>?_);clear hK K;try simp only [Act.put,zS,eZ,eS]
  refine rd1 3 fun K hK=>?_
  go_simp;refine (k77b _ hb2).mono ?_;rintro e w2 ⟨y0b,p1b,m1b,k1b,p2b,m2b,k2b,y4b,y5b,rfl,HDb,HLb,hs1b,hs2b,hb⟩;replace hb2:Below W.heap.size W w2:=hb2.trans (hb.mono hb2.size);replace HA2:=hid (HA2.out.below hb);replace HB2:=hid (HB2.out.below hb);try replace HDa2:=hid (HDa2.out.below hb)
  have HDb2:Hid (Dv 0 w2 (.agg #[.bool y0b,.slice none 0 0,.slice p1b m1b k1b,.slice p2b m2b k2b,.int .i64 y4b,.int .i64 y5b]) (takenD o)):=HDb.out.base (Nat.zero_le _)
  clear hb HDb;refine hK.out _ _ trivial (fun _=>?_);clear hK K;try simp only [Act.put,zS,eZ,eS]
 all_goals
  refine wpAnyH_ready (rs:=[4]) (by kernel_rfl) (by simp) ?_
  refine AllReadyH.cons rfl (fun K hK=>?_) ?_
  ·refine step37 rfl (.tmp 2) (.tmp 6) rfl W.heap.size (.bool y0a) (.slice none 0 0) (.slice p1a m1a k1a) (.slice p2a m2a k2a) (.int .i64 y4a) (.int .i64 y5a) (by with_unfolding_all rfl) (by with_unfolding_all rfl) HA2.out (six_dom _ _ _ _ _ _ _ _ _ _ _ _) ?_
   have HA3:Hid _:=HA2.out.set (.bool y0a) (.slice none 0 0) (.slice p1a m1a k1a) (.slice p2a m2a k2a) (.int .i64 y4a) (.int .i64 y5a)
   have HB3:Hid _:=HB2.out.other (show (W.heap.size+1)≠W.heap.size by omega) #[.bool y0a,.slice none 0 0,.slice p1a m1a k1a,.slice p2a m2a k2a,.int .i64 y4a,.int .i64 y5a]
   have HDa3:=hid (HDa2.out.set HA2.out #[.bool y0a,.slice none 0 0,.slice p1a m1a k1a,.slice p2a m2a k2a,.int .i64 y4a,.int .i64 y5a])
   have HDb3:=hid (HDb2.out.set HA2.out #[.bool y0a,.slice none 0 0,.slice p1a m1a k1a,.slice p2a m2a k2a,.int .i64 y4a,.int .i64 y5a])
   have hb3:=below_setRow hb2 (Nat.le_refl W.heap.size) #[.bool y0a,.slice none 0 0,.slice p1a m1a k1a,.slice p2a m2a k2a,.int .i64 y4a,.int .i64 y5a]
   clear HA2 HB2 hb2 HDa2 HDb2
   generalize w2.setRow W.heap.size #[.bool y0a,.slice none 0 0,.slice p1a m1a k1a,.slice p2a m2a k2a,.int .i64 y4a,.int .i64 y5a]=w3 at HA3 HB3 HDa3 HDb3 hb3 ⊢
   refine hK.out _ _ trivial (fun _=>?_)
   clear hK K
   try simp only [Act.put,zS,eZ,eS]
   refine wpAnyH_ready (rs:=[5]) (by kernel_rfl) (by simp) ?_
   refine AllReadyH.cons rfl (fun K hK=>?_) ?_
   ·refine step37 rfl (.tmp 3) (.tmp 8) rfl (W.heap.size+1) (.bool y0b) (.slice none 0 0) (.slice p1b m1b k1b) (.slice p2b m2b k2b) (.int .i64 y4b) (.int .i64 y5b) (by with_unfolding_all rfl) (by with_unfolding_all rfl) HB3.out (six_dom _ _ _ _ _ _ _ _ _ _ _ _) ?_
    have HB4:Hid _:=HB3.out.set (.bool y0b) (.slice none 0 0) (.slice p1b m1b k1b) (.slice p2b m2b k2b) (.int .i64 y4b) (.int .i64 y5b)
    have HA4:Hid _:=HA3.out.other (show W.heap.size≠(W.heap.size+1) by omega) #[.bool y0b,.slice none 0 0,.slice p1b m1b k1b,.slice p2b m2b k2b,.int .i64 y4b,.int .i64 y5b]
    have HDa4:=hid (HDa3.out.set HB3.out #[.bool y0b,.slice none 0 0,.slice p1b m1b k1b,.slice p2b m2b k2b,.int .i64 y4b,.int .i64 y5b])
    have HDb4:=hid (HDb3.out.set HB3.out #[.bool y0b,.slice none 0 0,.slice p1b m1b k1b,.slice p2b m2b k2b,.int .i64 y4b,.int .i64 y5b])
    have hb4:=below_setRow hb3 (show W.heap.size≤(W.heap.size+1) by omega) #[.bool y0b,.slice none 0 0,.slice p1b m1b k1b,.slice p2b m2b k2b,.int .i64 y4b,.int .i64 y5b]
    clear HA3 HB3 hb3 HDa3 HDb3
    generalize w3.setRow (W.heap.size+1) #[.bool y0b,.slice none 0 0,.slice p1b m1b k1b,.slice p2b m2b k2b,.int .i64 y4b,.int .i64 y5b]=w4 at HA4 HB4 HDa4 HDb4 hb4 ⊢
    refine hK.out _ _ trivial (fun _=>?_)
    clear hK K
    try simp only [Act.put,zS,eZ,eS]
    refine wpAnyH_done (by kernel_rfl) ?_ _
    have HA_4:Hid _:=HA4.out
    have HB_4:Hid _:=HB4.out
    clear HA4 HB4 hHeld
    have S1_4:Hid (Si w4 (.slice p1a m1a k1a) (takenD d).lo):=(dv_si HDa4.out).1
    have S2_4:Hid (Si w4 (.slice p2a m2a k2a) (takenD d).up):=(dv_si HDa4.out).2
    have S3_4:Hid (Si w4 (.slice p1b m1b k1b) (takenD o).lo):=(dv_si HDb4.out).1
    have S4_4:Hid (Si w4 (.slice p2b m2b k2b) (takenD o).up):=(dv_si HDb4.out).2
    clear HDa4 HDb4
    obtain ⟨zA0,zA1,zA2,zA3,zA4,zA5⟩:=HA_4.out.cells
    obtain ⟨zB0,zB1,zB2,zB3,zB4,zB5⟩:=HB_4.out.cells
    cases hc1:decide ((takenD d).lo=(takenD o).lo)
    ·have HC1:Hid (_=_):=hc1
     clear hc1
     go_wp2_with fail
     refine (eqc HC1.out (equal_any _ _ _ _ _ S1_4.out S3_4.out hl1)).mono ?_
     rintro e w5 ⟨rfl,hb⟩
     have hb5:Below W.heap.size W w5:=hb4.trans (hb.mono hb4.size)
     have HA_5:Hid _:=HA_4.out.below hb
     have HB_5:Hid _:=HB_4.out.below hb
     have S1_5:=hid (S1_4.out.below hb)
     have S2_5:=hid (S2_4.out.below hb)
     have S3_5:=hid (S3_4.out.below hb)
     have S4_5:=hid (S4_4.out.below hb)
     clear zA0 zA1 zA2 zA3 zA4 zA5 zB0 zB1 zB2 zB3 zB4 zB5
     clear hb hb4 HA_4 HB_4 S1_4 S2_4 S3_4 S4_4
     obtain ⟨zA0,zA1,zA2,zA3,zA4,zA5⟩:=HA_5.out.cells
     obtain ⟨zB0,zB1,zB2,zB3,zB4,zB5⟩:=HB_5.out.cells
     go_wp2
     go_ret
     exact ⟨ret_bool (by rw [HM.out,HLa.out.1,HLa.out.2,HLb.out.1,HLb.out.2];rw [HC1.out];simp),hb5⟩
    ·have HC1:Hid (_=_):=hc1
     clear hc1
     cases hc2:decide ((takenD d).up=(takenD o).up)
     ·have HC2:Hid (_=_):=hc2
      clear hc2
      go_wp2_with fail
      refine (eqc HC1.out (equal_any _ _ _ _ _ S1_4.out S3_4.out hl1)).mono ?_
      rintro e w5 ⟨rfl,hb⟩
      have hb5:Below W.heap.size W w5:=hb4.trans (hb.mono hb4.size)
      have HA_5:Hid _:=HA_4.out.below hb
      have HB_5:Hid _:=HB_4.out.below hb
      have S1_5:=hid (S1_4.out.below hb)
      have S2_5:=hid (S2_4.out.below hb)
      have S3_5:=hid (S3_4.out.below hb)
      have S4_5:=hid (S4_4.out.below hb)
      clear zA0 zA1 zA2 zA3 zA4 zA5 zB0 zB1 zB2 zB3 zB4 zB5
      clear hb hb4 HA_4 HB_4 S1_4 S2_4 S3_4 S4_4
      obtain ⟨zA0,zA1,zA2,zA3,zA4,zA5⟩:=HA_5.out.cells
      obtain ⟨zB0,zB1,zB2,zB3,zB4,zB5⟩:=HB_5.out.cells
      go_wp2_with fail
      refine (eqc HC2.out (equal_any _ _ _ _ _ S2_5.out S4_5.out hl2)).mono ?_
      rintro e w6 ⟨rfl,hb⟩
      have hb6:Below W.heap.size W w6:=hb5.trans (hb.mono hb5.size)
      have HA_6:Hid _:=HA_5.out.below hb
      have HB_6:Hid _:=HB_5.out.below hb
      have S1_6:=hid (S1_5.out.below hb)
      have S2_6:=hid (S2_5.out.below hb)
      have S3_6:=hid (S3_5.out.below hb)
      have S4_6:=hid (S4_5.out.below hb)
      clear zA0 zA1 zA2 zA3 zA4 zA5 zB0 zB1 zB2 zB3 zB4 zB5
      clear hb hb5 HA_5 HB_5 S1_5 S2_5 S3_5 S4_5
      obtain ⟨zA0,zA1,zA2,zA3,zA4,zA5⟩:=HA_6.out.cells
      obtain ⟨zB0,zB1,zB2,zB3,zB4,zB5⟩:=HB_6.out.cells
      go_wp2
      go_ret
      exact ⟨ret_bool (by rw [HM.out,HLa.out.1,HLa.out.2,HLb.out.1,HLb.out.2];rw [HC1.out,HC2.out];simp),hb6⟩
     ·have HC2:Hid (_=_):=hc2
      clear hc2
      by_cases h4:y4a=y4b
      ·by_cases h5:y5a=y5b
       ·subst h4 h5
        go_wp2_with fail
        refine (eqc HC1.out (equal_any _ _ _ _ _ S1_4.out S3_4.out hl1)).mono ?_
        rintro e w5 ⟨rfl,hb⟩
        have hb5:Below W.heap.size W w5:=hb4.trans (hb.mono hb4.size)
        have HA_5:Hid _:=HA_4.out.below hb
        have HB_5:Hid _:=HB_4.out.below hb
        have S1_5:=hid (S1_4.out.below hb)
        have S2_5:=hid (S2_4.out.below hb)
        have S3_5:=hid (S3_4.out.below hb)
        have S4_5:=hid (S4_4.out.below hb)
        clear zA0 zA1 zA2 zA3 zA4 zA5 zB0 zB1 zB2 zB3 zB4 zB5
        clear hb hb4 HA_4 HB_4 S1_4 S2_4 S3_4 S4_4
        obtain ⟨zA0,zA1,zA2,zA3,zA4,zA5⟩:=HA_5.out.cells
        obtain ⟨zB0,zB1,zB2,zB3,zB4,zB5⟩:=HB_5.out.cells
        go_wp2_with fail
        refine (eqc HC2.out (equal_any _ _ _ _ _ S2_5.out S4_5.out hl2)).mono ?_
        rintro e w6 ⟨rfl,hb⟩
        have hb6:Below W.heap.size W w6:=hb5.trans (hb.mono hb5.size)
        have HA_6:Hid _:=HA_5.out.below hb
        have HB_6:Hid _:=HB_5.out.below hb
        have S1_6:=hid (S1_5.out.below hb)
        have S2_6:=hid (S2_5.out.below hb)
        have S3_6:=hid (S3_5.out.below hb)
        have S4_6:=hid (S4_5.out.below hb)
        clear zA0 zA1 zA2 zA3 zA4 zA5 zB0 zB1 zB2 zB3 zB4 zB5
        clear hb hb5 HA_5 HB_5 S1_5 S2_5 S3_5 S4_5
        obtain ⟨zA0,zA1,zA2,zA3,zA4,zA5⟩:=HA_6.out.cells
        obtain ⟨zB0,zB1,zB2,zB3,zB4,zB5⟩:=HB_6.out.cells
        go_wp2
        go_ret
        exact ⟨ret_bool (by rw [HM.out,HLa.out.1,HLa.out.2,HLb.out.1,HLb.out.2];rw [HC1.out,HC2.out];simp),hb6⟩
       ·subst h4
        go_wp2_with fail
        refine (eqc HC1.out (equal_any _ _ _ _ _ S1_4.out S3_4.out hl1)).mono ?_
        rintro e w5 ⟨rfl,hb⟩
        have hb5:Below W.heap.size W w5:=hb4.trans (hb.mono hb4.size)
        have HA_5:Hid _:=HA_4.out.below hb
        have HB_5:Hid _:=HB_4.out.below hb
        have S1_5:=hid (S1_4.out.below hb)
        have S2_5:=hid (S2_4.out.below hb)
        have S3_5:=hid (S3_4.out.below hb)
        have S4_5:=hid (S4_4.out.below hb)
        clear zA0 zA1 zA2 zA3 zA4 zA5 zB0 zB1 zB2 zB3 zB4 zB5
        clear hb hb4 HA_4 HB_4 S1_4 S2_4 S3_4 S4_4
        obtain ⟨zA0,zA1,zA2,zA3,zA4,zA5⟩:=HA_5.out.cells
        obtain ⟨zB0,zB1,zB2,zB3,zB4,zB5⟩:=HB_5.out.cells
        go_wp2_with fail
        refine (eqc HC2.out (equal_any _ _ _ _ _ S2_5.out S4_5.out hl2)).mono ?_
        rintro e w6 ⟨rfl,hb⟩
        have hb6:Below W.heap.size W w6:=hb5.trans (hb.mono hb5.size)
        have HA_6:Hid _:=HA_5.out.below hb
        have HB_6:Hid _:=HB_5.out.below hb
        have S1_6:=hid (S1_5.out.below hb)
        have S2_6:=hid (S2_5.out.below hb)
        have S3_6:=hid (S3_5.out.below hb)
        have S4_6:=hid (S4_5.out.below hb)
        clear zA0 zA1 zA2 zA3 zA4 zA5 zB0 zB1 zB2 zB3 zB4 zB5
        clear hb hb5 HA_5 HB_5 S1_5 S2_5 S3_5 S4_5
        obtain ⟨zA0,zA1,zA2,zA3,zA4,zA5⟩:=HA_6.out.cells
        obtain ⟨zB0,zB1,zB2,zB3,zB4,zB5⟩:=HB_6.out.cells
        go_wp2
        go_ret
        exact ⟨ret_bool (by rw [HM.out,HLa.out.1,HLa.out.2,HLb.out.1,HLb.out.2];rw [HC1.out,HC2.out];simp [h5]),hb6⟩
      ·go_wp2_with fail
       refine (eqc HC1.out (equal_any _ _ _ _ _ S1_4.out S3_4.out hl1)).mono ?_
       rintro e w5 ⟨rfl,hb⟩
       have hb5:Below W.heap.size W w5:=hb4.trans (hb.mono hb4.size)
       have HA_5:Hid _:=HA_4.out.below hb
       have HB_5:Hid _:=HB_4.out.below hb
       have S1_5:=hid (S1_4.out.below hb)
       have S2_5:=hid (S2_4.out.below hb)
       have S3_5:=hid (S3_4.out.below hb)
       have S4_5:=hid (S4_4.out.below hb)
       clear zA0 zA1 zA2 zA3 zA4 zA5 zB0 zB1 zB2 zB3 zB4 zB5
       clear hb hb4 HA_4 HB_4 S1_4 S2_4 S3_4 S4_4
       obtain ⟨zA0,zA1,zA2,zA3,zA4,zA5⟩:=HA_5.out.cells
       obtain ⟨zB0,zB1,zB2,zB3,zB4,zB5⟩:=HB_5.out.cells
       go_wp2_with fail
       refine (eqc HC2.out (equal_any _ _ _ _ _ S2_5.out S4_5.out hl2)).mono ?_
       rintro e w6 ⟨rfl,hb⟩
       have hb6:Below W.heap.size W w6:=hb5.trans (hb.mono hb5.size)
       have HA_6:Hid _:=HA_5.out.below hb
       have HB_6:Hid _:=HB_5.out.below hb
       have S1_6:=hid (S1_5.out.below hb)
       have S2_6:=hid (S2_5.out.below hb)
       have S3_6:=hid (S3_5.out.below hb)
       have S4_6:=hid (S4_5.out.below hb)
       clear zA0 zA1 zA2 zA3 zA4 zA5 zB0 zB1 zB2 zB3 zB4 zB5
       clear hb hb5 HA_5 HB_5 S1_5 S2_5 S3_5 S4_5
       obtain ⟨zA0,zA1,zA2,zA3,zA4,zA5⟩:=HA_6.out.cells
       obtain ⟨zB0,zB1,zB2,zB3,zB4,zB5⟩:=HB_6.out.cells
       go_wp2
       go_ret
       exact ⟨ret_bool (by rw [HM.out,HLa.out.1,HLa.out.2,HLb.out.1,HLb.out.2];rw [HC1.out,HC2.out];simp [h4]),hb6⟩
   exact AllReadyH.nil
  exact AllReadyH.nil
theorem both_dom (v u:Value) (d o:SD) (W:World) (h:Di W v d) (ho:Di W u o) :
  Calls Tryz.prog 99 #[v,u] W fun e w'=>∃ v',e = .returned v'∧Dv W.heap.size w' v' (bothD d o)∧Below W.heap.size W w':=by
 have hM:bothD d o=if !subB (takenD d).lo (meetL (takenD d).up (takenD o).up) || !subB (takenD o).lo (meetL (takenD d).up (takenD o).up) then noneD else tightD (joinL (takenD d).lo (takenD o).lo) (meetL (takenD d).up (takenD o).up) (max (takenD d).least (takenD o).least) (min (takenD d).most (takenD o).most):=rfl
 have HM:Hid _:=hM
 generalize bothD d o=MD at hM HM ⊢
 clear hM
 have HTK:Hid (tkS (takenD d).lo=(takenD d).lo∧tkS (takenD d).up=(takenD d).up∧tkS (takenD o).lo=(takenD o).lo∧tkS (takenD o).up=(takenD o).up):=⟨tkS_yes (taken_right d).2.2.1,tkS_yes (taken_right d).2.2.2.1,tkS_yes (taken_right o).2.2.1,tkS_yes (taken_right o).2.2.2.1⟩
 have HTM:Hid (tkS (meetL (takenD d).up (takenD o).up)=meetL (takenD d).up (takenD o).up):=tkS_yes (meet_set (taken_right d).2.2.2.1 _)
 have k77a:=fun X (hX:Below W.heap.size W X)=>taken_look v d X (h.below hX)
 have k77b:=fun X (hX:Below W.heap.size W X)=>taken_look u o X (ho.below hX)
 obtain ⟨x0a,raa,rna,rca,a1a,n1a,c1a,a2a,n2a,c2a,x4a,x5a,rfl,HEa,_,_⟩:=h.look
 obtain ⟨x0b,rab,rnb,rcb,a1b,n1b,c1b,a2b,n2b,c2b,x4b,x5b,rfl,HEb,_,_⟩:=ho.look
 obtain ⟨W0,hW0⟩:∃ X,((W.alloc (Obj.cells #[.bool x0a,.slice raa rna rca,.slice a1a n1a c1a,.slice a2a n2a c2a,.int .i64 x4a,.int .i64 x5a] 37)).alloc (Obj.cells #[.bool x0b,.slice rab rnb rcb,.slice a1b n1b c1b,.slice a2b n2b c2b,.int .i64 x4b,.int .i64 x5b] 37)).alloc (Obj.cells #[.bool false,.slice none 0 0,.slice none 0 0,.slice none 0 0,.int .i64 0,.int .i64 0] 37)=X:=⟨_,rfl⟩
 have HW0:Hid _:=hW0
 have hb0:Below W.heap.size W W0:=by rw [←hW0];exact ((((Below.refl _ W).alloc (Nat.le_refl _) _).alloc (by simp) _).alloc (by simp<;>omega) _)
 have HA0:Hid (R6 W0 W.heap.size (.bool x0a) (.slice raa rna rca) (.slice a1a n1a c1a) (.slice a2a n2a c2a) (.int .i64 x4a) (.int .i64 x5a)):=by rw [←hW0];exact ((R6.new _ _ _ _ _ _ _).alloc _).alloc _
 have HB0:Hid (R6 W0 (W.heap.size+1) (.bool x0b) (.slice rab rnb rcb) (.slice a1b n1b c1b) (.slice a2b n2b c2b) (.int .i64 x4b) (.int .i64 x5b)):=by rw [←hW0];exact (R6.new1 _ _ _ _ _ _ _ _).alloc _
 have HZ0:Hid (R6 W0 (W.heap.size+2) (.bool false) (.slice none 0 0) (.slice none 0 0) (.slice none 0 0) (.int .i64 0) (.int .i64 0)):=by rw [←hW0];exact R6.new2 _ _ _ _ _ _ _ _ _
 clear hW0 h ho HEa HEb
 go_enter Tryz.func99,Tryz.ntmps99
 go_upto_region 1 with (fail)
 rw [HW0.out]
 refine wp_region_held_drew (S:=fun _=>True) (by kernel_rfl) trivial (fun hHeld=>?_)
 have hbd:Below W.heap.size W W0.drew:=Below.drew hb0
 have HAd:Hid (R6 W0.drew W.heap.size (.bool x0a) (.slice raa rna rca) (.slice a1a n1a c1a) (.slice a2a n2a c2a) (.int .i64 x4a) (.int .i64 x5a)):=⟨HA0.out.h⟩
 have HBd:Hid (R6 W0.drew (W.heap.size+1) (.bool x0b) (.slice rab rnb rcb) (.slice a1b n1b c1b) (.slice a2b n2b c2b) (.int .i64 x4b) (.int .i64 x5b)):=⟨HB0.out.h⟩
 have HZd:Hid (R6 W0.drew (W.heap.size+2) (.bool false) (.slice none 0 0) (.slice none 0 0) (.slice none 0 0) (.int .i64 0) (.int .i64 0)):=⟨HZ0.out.h⟩
 clear hb0 HA0 HB0 HZ0 HW0
 generalize W0.drew=w0 at *
 clear W0
 have HA2:=HAd
 have HB2:=HBd
 have HZ2:=HZd
 have hb2:=hbd
 clear HAd HBd hbd HZd
 refine rd2 0 2 (fun K hK=>?_) (fun K hK=>?_)
 focus
  obtain ⟨q0,q1,q2,q3,q4,q5⟩:=HA2.out.cells;go_simp;clear q0 q1 q2 q3 q4 q5;refine hK.out _ _ trivial (fun _=>?_);clear hK K;try simp only [Act.put,zS,eZ,eS]
  refine rd2 1 2 (fun K hK=>?_) (fun K hK=>?_)
  focus
   go_simp;refine (k77a _ hb2).mono ?_;rintro e w2 ⟨y0a,p1a,m1a,k1a,p2a,m2a,k2a,y4a,y5a,rfl,HDa,HLa,hs1a,hs2a,hb⟩;replace hb2:Below W.heap.size W w2:=hb2.trans (hb.mono hb2.size);replace HA2:=hid (HA2.out.below hb);replace HB2:=hid (HB2.out.below hb);replace HZ2:=hid (HZ2.out.below hb);try replace HDb2:=hid (HDb2.out.below hb)
   have HDa2:Hid (Dv 0 w2 (.agg #[.bool y0a,.slice none 0 0,.slice p1a m1a k1a,.slice p2a m2a k2a,.int .i64 y4a,.int .i64 y5a]) (takenD d)):=HDa.out.base (Nat.zero_le _)
   clear hb HDa;refine hK.out _ _ trivial (fun _=>?_);clear hK K;try simp only [Act.put,zS,eZ,eS]
   refine rd1 2 fun K hK=>?_
   obtain ⟨q0,q1,q2,q3,q4,q5⟩:=HB2.out.cells;go_simp;clear q0 q1 q2 q3 q4 q5;refine hK.out _ _ trivial (fun _=>?_);clear hK K;try simp only [Act.put,zS,eZ,eS]
   refine rd1 3 fun K hK=>?_
   go_simp;refine (k77b _ hb2).mono ?_;rintro e w2 ⟨y0b,p1b,m1b,k1b,p2b,m2b,k2b,y4b,y5b,rfl,HDb,HLb,hs1b,hs2b,hb⟩;replace hb2:Below W.heap.size W w2:=hb2.trans (hb.mono hb2.size);replace HA2:=hid (HA2.out.below hb);replace HB2:=hid (HB2.out.below hb);replace HZ2:=hid (HZ2.out.below hb);try replace HDa2:=hid (HDa2.out.below hb)
   have HDb2:Hid (Dv 0 w2 (.agg #[.bool y0b,.slice none 0 0,.slice p1b m1b k1b,.slice p2b m2b k2b,.int .i64 y4b,.int .i64 y5b]) (takenD o)):=HDb.out.base (Nat.zero_le _)
   clear hb HDb;refine hK.out _ _ trivial (fun _=>?_);clear hK K;try simp only [Act.put,zS,eZ,eS]
  rotate_left 1
  focus
   obtain ⟨q0,q1,q2,q3,q4,q5⟩:=HB2.out.cells;go_simp;clear q0 q1 q2 q3 q4 q5;refine hK.out _ _ trivial (fun _=>?_);clear hK K;try simp only [Act.put,zS,eZ,eS]
   refine rd1 1 fun K hK=>?_
   go_simp;refine (k77a _ hb2).mono ?_;rintro e w2 ⟨y0a,p1a,m1a,k1a,p2a,m2a,k2a,y4a,y5a,rfl,HDa,HLa,hs1a,hs2a,hb⟩;replace hb2:Below W.heap.size W w2:=hb2.trans (hb.mono hb2.size);replace HA2:=hid (HA2.out.below hb);replace HB2:=hid (HB2.out.below hb);replace HZ2:=hid (HZ2.out.below hb);try replace HDb2:=hid (HDb2.out.below hb)
   have HDa2:Hid (Dv 0 w2 (.agg #[.bool y0a,.slice none 0 0,.slice p1a m1a k1a,.slice p2a m2a k2a,.int .i64 y4a,.int .i64 y5a]) (takenD d)):=HDa.out.base (Nat.zero_le _)
   clear hb HDa;refine hK.out _ _ trivial (fun _=>?_);clear hK K;try simp only [Act.put,zS,eZ,eS]
   refine rd1 3 fun K hK=>?_
   go_simp;refine (k77b _ hb2).mono ?_;rintro e w2 ⟨y0b,p1b,m1b,k1b,p2b,m2b,k2b,y4b,y5b,rfl,HDb,HLb,hs1b,hs2b,hb⟩;replace hb2:Below W.heap.size W w2:=hb2.trans (hb.mono hb2.size);replace HA2:=hid (HA2.out.below hb);replace HB2:=hid (HB2.out.below hb);replace HZ2:=hid (HZ2.out.below hb);try replace HDa2:=hid (HDa2.out.below hb)
   have HDb2:Hid (Dv 0 w2 (.agg #[.bool y0b,.slice none 0 0,.slice p1b m1b k1b,.slice p2b m2b k2b,.int .i64 y4b,.int .i64 y5b]) (takenD o)):=HDb.out.base (Nat.zero_le _)
   clear hb HDb;refine hK.out _ _ trivial (fun _=>?_);clear hK K;try simp only [Act.put,zS,eZ,eS]
 rotate_left 2
 focus
  obtain ⟨q0,q1,q2,q3,q4,q5⟩:=HB2.out.cells;go_simp;clear q0 q1 q2 q3 q4 q5;refine hK.out _ _ trivial (fun _=>?_);clear hK K;try simp only [Act.put,zS,eZ,eS]
  refine rd1 0 fun K hK=>?_
  obtain ⟨q0,q1,q2,q3,q4,q5⟩:=HA2.out.cells;go_simp;clear q0 q1 q2 q3 q4 q5;refine hK.out _ _ trivial (fun _=>?_);clear hK K;try simp only [Act.put,zS,eZ,eS]
  refine rd1 1 fun K hK=>?_
  go_simp;refine (k77a _ hb2).mono ?_;rintro e w2 ⟨y0a,p1a,m1a,k1a,p2a,m2a,k2a,y4a,y5a,rfl,HDa,HLa,hs1a,hs2a,hb⟩;replace hb2:Below W.heap.size W w2:=hb2.trans (hb.mono hb2.size);replace HA2:=hid (HA2.out.below hb);replace HB2:=hid (HB2.out.below hb);replace HZ2:=hid (HZ2.out.below hb);try replace HDb2:=hid (HDb2.out.below hb)
  have HDa2:Hid (Dv 0 w2 (.agg #[.bool y0a,.slice none 0 0,.slice p1a m1a k1a,.slice p2a m2a k2a,.int .i64 y4a,.int .i64 y5a]) (takenD d)):=HDa.out.base (Nat.zero_le _)
  clear hb HDa;refine hK.out _ _ trivial (fun _=>?_);clear hK K;try simp only [Act.put,zS,eZ,eS]
  refine rd1 3 fun K hK=>?_
  go_simp;refine (k77b _ hb2).mono ?_;rintro e w2 ⟨y0b,p1b,m1b,k1b,p2b,m2b,k2b,y4b,y5b,rfl,HDb,HLb,hs1b,hs2b,hb⟩;replace hb2:Below W.heap.size W w2:=hb2.trans (hb.mono hb2.size);replace HA2:=hid (HA2.out.below hb);replace HB2:=hid (HB2.out.below hb);replace HZ2:=hid (HZ2.out.below hb);try replace HDa2:=hid (HDa2.out.below hb)
  have HDb2:Hid (Dv 0 w2 (.agg #[.bool y0b,.slice none 0 0,.slice p1b m1b k1b,.slice p2b m2b k2b,.int .i64 y4b,.int .i64 y5b]) (takenD o)):=HDb.out.base (Nat.zero_le _)
  clear hb HDb;refine hK.out _ _ trivial (fun _=>?_);clear hK K;try simp only [Act.put,zS,eZ,eS]
 all_goals
  refine wpAnyH_ready (rs:=[4]) (by kernel_rfl) (by simp) ?_
  refine AllReadyH.cons rfl (fun K hK=>?_) ?_
  ·refine step37 rfl (.tmp 2) (.tmp 7) rfl W.heap.size (.bool y0a) (.slice none 0 0) (.slice p1a m1a k1a) (.slice p2a m2a k2a) (.int .i64 y4a) (.int .i64 y5a) (by with_unfolding_all rfl) (by with_unfolding_all rfl) HA2.out (six_dom _ _ _ _ _ _ _ _ _ _ _ _) ?_
   have HA3:Hid _:=HA2.out.set (.bool y0a) (.slice none 0 0) (.slice p1a m1a k1a) (.slice p2a m2a k2a) (.int .i64 y4a) (.int .i64 y5a)
   have HB3:Hid _:=HB2.out.other (show (W.heap.size+1)≠W.heap.size by omega) #[.bool y0a,.slice none 0 0,.slice p1a m1a k1a,.slice p2a m2a k2a,.int .i64 y4a,.int .i64 y5a]
   have HDa3:=hid (HDa2.out.set HA2.out #[.bool y0a,.slice none 0 0,.slice p1a m1a k1a,.slice p2a m2a k2a,.int .i64 y4a,.int .i64 y5a])
   have HDb3:=hid (HDb2.out.set HA2.out #[.bool y0a,.slice none 0 0,.slice p1a m1a k1a,.slice p2a m2a k2a,.int .i64 y4a,.int .i64 y5a])
   have hb3:=below_setRow hb2 (Nat.le_refl W.heap.size) #[.bool y0a,.slice none 0 0,.slice p1a m1a k1a,.slice p2a m2a k2a,.int .i64 y4a,.int .i64 y5a]
   have HZ3:Hid _:=HZ2.out.other (show (W.heap.size+2)≠W.heap.size by omega) #[.bool y0a,.slice none 0 0,.slice p1a m1a k1a,.slice p2a m2a k2a,.int .i64 y4a,.int .i64 y5a]
   clear HA2 HB2 HZ2 hb2 HDa2 HDb2
   generalize w2.setRow W.heap.size #[.bool y0a,.slice none 0 0,.slice p1a m1a k1a,.slice p2a m2a k2a,.int .i64 y4a,.int .i64 y5a]=w3 at HA3 HB3 HDa3 HDb3 hb3 HZ3 ⊢
   refine hK.out _ _ trivial (fun _=>?_)
   clear hK K
   try simp only [Act.put,zS,eZ,eS]
   refine wpAnyH_ready (rs:=[5]) (by kernel_rfl) (by simp) ?_
   refine AllReadyH.cons rfl (fun K hK=>?_) ?_
   ·refine step37 rfl (.tmp 3) (.tmp 9) rfl (W.heap.size+1) (.bool y0b) (.slice none 0 0) (.slice p1b m1b k1b) (.slice p2b m2b k2b) (.int .i64 y4b) (.int .i64 y5b) (by with_unfolding_all rfl) (by with_unfolding_all rfl) HB3.out (six_dom _ _ _ _ _ _ _ _ _ _ _ _) ?_
    have HB4:Hid _:=HB3.out.set (.bool y0b) (.slice none 0 0) (.slice p1b m1b k1b) (.slice p2b m2b k2b) (.int .i64 y4b) (.int .i64 y5b)
    have HA4:Hid _:=HA3.out.other (show W.heap.size≠(W.heap.size+1) by omega) #[.bool y0b,.slice none 0 0,.slice p1b m1b k1b,.slice p2b m2b k2b,.int .i64 y4b,.int .i64 y5b]
    have HDa4:=hid (HDa3.out.set HB3.out #[.bool y0b,.slice none 0 0,.slice p1b m1b k1b,.slice p2b m2b k2b,.int .i64 y4b,.int .i64 y5b])
    have HDb4:=hid (HDb3.out.set HB3.out #[.bool y0b,.slice none 0 0,.slice p1b m1b k1b,.slice p2b m2b k2b,.int .i64 y4b,.int .i64 y5b])
    have hb4:=below_setRow hb3 (show W.heap.size≤(W.heap.size+1) by omega) #[.bool y0b,.slice none 0 0,.slice p1b m1b k1b,.slice p2b m2b k2b,.int .i64 y4b,.int .i64 y5b]
    have HZ4:Hid _:=HZ3.out.other (show (W.heap.size+2)≠(W.heap.size+1) by omega) #[.bool y0b,.slice none 0 0,.slice p1b m1b k1b,.slice p2b m2b k2b,.int .i64 y4b,.int .i64 y5b]
    clear HA3 HB3 hb3 HDa3 HDb3 HZ3
    generalize w3.setRow (W.heap.size+1) #[.bool y0b,.slice none 0 0,.slice p1b m1b k1b,.slice p2b m2b k2b,.int .i64 y4b,.int .i64 y5b]=w4 at HA4 HB4 HDa4 HDb4 hb4 HZ4 ⊢
    refine hK.out _ _ trivial (fun _=>?_)
    clear hK K
    try simp only [Act.put,zS,eZ,eS]
    refine wpAnyH_done (by kernel_rfl) ?_ _
    have HA_4:Hid _:=HA4.out
    have HB_4:Hid _:=HB4.out
    have HZ_4:Hid _:=HZ4.out
    clear HA4 HB4 HZ4 hHeld
    have S1_4:Hid (Si w4 (.slice p1a m1a k1a) (takenD d).lo):=(dv_si HDa4.out).1
    have S2_4:Hid (Si w4 (.slice p2a m2a k2a) (takenD d).up):=(dv_si HDa4.out).2
    have S3_4:Hid (Si w4 (.slice p1b m1b k1b) (takenD o).lo):=(dv_si HDb4.out).1
    have S4_4:Hid (Si w4 (.slice p2b m2b k2b) (takenD o).up):=(dv_si HDb4.out).2
    clear HDa4 HDb4
    obtain ⟨zA0,zA1,zA2,zA3,zA4,zA5⟩:=HA_4.out.cells
    obtain ⟨zB0,zB1,zB2,zB3,zB4,zB5⟩:=HB_4.out.cells
    obtain ⟨zZ0,zZ1,zZ2,zZ3,zZ4,zZ5⟩:=HZ_4.out.cells
    go_wp2_with fail
    refine (meet_any _ _ _ _ _ S2_4.out S4_4.out).mono ?_
    rintro e w5 ⟨vm,rfl,hfm,hb⟩
    have hb5:Below W.heap.size W w5:=hb4.trans (hb.mono hb4.size)
    have HA_5:Hid _:=HA_4.out.below hb
    have HB_5:Hid _:=HB_4.out.below hb
    have HZ_5:Hid _:=HZ_4.out.below hb
    have S1_5:=hid (S1_4.out.below hb)
    have S2_5:=hid (S2_4.out.below hb)
    have S3_5:=hid (S3_4.out.below hb)
    have S4_5:=hid (S4_4.out.below hb)
    obtain ⟨pm,nm,cm,rfl,HSM,HNM⟩:=si_look hfm.si
    rw [HTK.out.2.1,HTK.out.2.2.2] at HSM HNM
    have SM_5:Hid (Si w5 (.slice pm nm cm) (meetL (takenD d).up (takenD o).up)):=HSM
    clear hfm HSM
    clear zA0 zA1 zA2 zA3 zA4 zA5 zB0 zB1 zB2 zB3 zB4 zB5 zZ0 zZ1 zZ2 zZ3 zZ4 zZ5
    clear hb hb4 HA_4 HB_4 HZ_4 S1_4 S2_4 S3_4 S4_4
    obtain ⟨zA0,zA1,zA2,zA3,zA4,zA5⟩:=HA_5.out.cells
    obtain ⟨zB0,zB1,zB2,zB3,zB4,zB5⟩:=HB_5.out.cells
    obtain ⟨zZ0,zZ1,zZ2,zZ3,zZ4,zZ5⟩:=HZ_5.out.cells
    cases hc1:subB (tkS (takenD d).lo) (tkS (meetL (takenD d).up (takenD o).up))
    ·have HC1:Hid (_=_):=hc1
     clear hc1
     go_wp2_with fail
     refine (eqc HC1.out (sub_any _ _ _ _ _ S1_5.out SM_5.out)).mono ?_
     rintro e w6 ⟨rfl,hb⟩
     have hb6:Below W.heap.size W w6:=hb5.trans (hb.mono hb5.size)
     have HA_6:Hid _:=HA_5.out.below hb
     have HB_6:Hid _:=HB_5.out.below hb
     have HZ_6:Hid _:=HZ_5.out.below hb
     have S1_6:=hid (S1_5.out.below hb)
     have S2_6:=hid (S2_5.out.below hb)
     have S3_6:=hid (S3_5.out.below hb)
     have S4_6:=hid (S4_5.out.below hb)
     have SM_6:=hid (SM_5.out.below hb)
     clear zA0 zA1 zA2 zA3 zA4 zA5 zB0 zB1 zB2 zB3 zB4 zB5 zZ0 zZ1 zZ2 zZ3 zZ4 zZ5
     clear hb hb5 HA_5 HB_5 HZ_5 S1_5 S2_5 S3_5 S4_5 SM_5
     obtain ⟨zA0,zA1,zA2,zA3,zA4,zA5⟩:=HA_6.out.cells
     obtain ⟨zB0,zB1,zB2,zB3,zB4,zB5⟩:=HB_6.out.cells
     obtain ⟨zZ0,zZ1,zZ2,zZ3,zZ4,zZ5⟩:=HZ_6.out.cells
     go_wp2_with fail
     refine (none_at w6).mono ?_
     rintro e w7 ⟨rfl,hb⟩
     have hb7:Below W.heap.size W w7:=hb6.trans (hb.mono hb6.size)
     have HA_7:Hid _:=HA_6.out.below hb
     have HB_7:Hid _:=HB_6.out.below hb
     have HZ_7:Hid _:=HZ_6.out.below hb
     have S1_7:=hid (S1_6.out.below hb)
     have S2_7:=hid (S2_6.out.below hb)
     have S3_7:=hid (S3_6.out.below hb)
     have S4_7:=hid (S4_6.out.below hb)
     have SM_7:=hid (SM_6.out.below hb)
     clear zA0 zA1 zA2 zA3 zA4 zA5 zB0 zB1 zB2 zB3 zB4 zB5 zZ0 zZ1 zZ2 zZ3 zZ4 zZ5
     clear hb hb6 HA_6 HB_6 HZ_6 S1_6 S2_6 S3_6 S4_6 SM_6
     go_wp2_with (with_reducible refine st37 rfl (.tmp 4) (.tmp 27) rfl (W.heap.size+2) _ _ _ _ _ _ (by with_unfolding_all rfl) (by with_unfolding_all rfl) HZ_7.out (six_dom _ _ _ _ _ _ _ _ _ _ _ _) ?_)
     refine ⟨rfl,_,R6.res rfl _ (HZ_7.out.set (.bool true) (.slice none 0 0) (.slice none 0 0) (.slice none 0 0) (.int .i64 1) (.int .i64 0)) rfl,⟨_,rfl,?_,below_setRow hb7 (by omega) _⟩⟩
     rw [HM.out]
     have:=HC1.out
     rw [HTK.out.1,HTM.out] at this
     rw [this]
     exact none_dv _ _
    ·have HC1:Hid (_=_):=hc1
     clear hc1
     cases hc2:subB (tkS (takenD o).lo) (tkS (meetL (takenD d).up (takenD o).up))
     ·have HC2:Hid (_=_):=hc2
      clear hc2
      go_wp2_with fail
      refine (eqc HC1.out (sub_any _ _ _ _ _ S1_5.out SM_5.out)).mono ?_
      rintro e w6 ⟨rfl,hb⟩
      have hb6:Below W.heap.size W w6:=hb5.trans (hb.mono hb5.size)
      have HA_6:Hid _:=HA_5.out.below hb
      have HB_6:Hid _:=HB_5.out.below hb
      have HZ_6:Hid _:=HZ_5.out.below hb
      have S1_6:=hid (S1_5.out.below hb)
      have S2_6:=hid (S2_5.out.below hb)
      have S3_6:=hid (S3_5.out.below hb)
      have S4_6:=hid (S4_5.out.below hb)
      have SM_6:=hid (SM_5.out.below hb)
      clear zA0 zA1 zA2 zA3 zA4 zA5 zB0 zB1 zB2 zB3 zB4 zB5 zZ0 zZ1 zZ2 zZ3 zZ4 zZ5
      clear hb hb5 HA_5 HB_5 HZ_5 S1_5 S2_5 S3_5 S4_5 SM_5
      obtain ⟨zA0,zA1,zA2,zA3,zA4,zA5⟩:=HA_6.out.cells
      obtain ⟨zB0,zB1,zB2,zB3,zB4,zB5⟩:=HB_6.out.cells
      obtain ⟨zZ0,zZ1,zZ2,zZ3,zZ4,zZ5⟩:=HZ_6.out.cells
      go_wp2_with fail
      refine (eqc HC2.out (sub_any _ _ _ _ _ S3_6.out SM_6.out)).mono ?_
      rintro e w7 ⟨rfl,hb⟩
      have hb7:Below W.heap.size W w7:=hb6.trans (hb.mono hb6.size)
      have HA_7:Hid _:=HA_6.out.below hb
      have HB_7:Hid _:=HB_6.out.below hb
      have HZ_7:Hid _:=HZ_6.out.below hb
      have S1_7:=hid (S1_6.out.below hb)
      have S2_7:=hid (S2_6.out.below hb)
      have S3_7:=hid (S3_6.out.below hb)
      have S4_7:=hid (S4_6.out.below hb)
      have SM_7:=hid (SM_6.out.below hb)
      clear zA0 zA1 zA2 zA3 zA4 zA5 zB0 zB1 zB2 zB3 zB4 zB5 zZ0 zZ1 zZ2 zZ3 zZ4 zZ5
      clear hb hb6 HA_6 HB_6 HZ_6 S1_6 S2_6 S3_6 S4_6 SM_6
      obtain ⟨zA0,zA1,zA2,zA3,zA4,zA5⟩:=HA_7.out.cells
      obtain ⟨zB0,zB1,zB2,zB3,zB4,zB5⟩:=HB_7.out.cells
      obtain ⟨zZ0,zZ1,zZ2,zZ3,zZ4,zZ5⟩:=HZ_7.out.cells
      go_wp2_with fail
      refine (none_at w7).mono ?_
      rintro e w8 ⟨rfl,hb⟩
      have hb8:Below W.heap.size W w8:=hb7.trans (hb.mono hb7.size)
      have HA_8:Hid _:=HA_7.out.below hb
      have HB_8:Hid _:=HB_7.out.below hb
      have HZ_8:Hid _:=HZ_7.out.below hb
      have S1_8:=hid (S1_7.out.below hb)
      have S2_8:=hid (S2_7.out.below hb)
      have S3_8:=hid (S3_7.out.below hb)
      have S4_8:=hid (S4_7.out.below hb)
      have SM_8:=hid (SM_7.out.below hb)
      clear zA0 zA1 zA2 zA3 zA4 zA5 zB0 zB1 zB2 zB3 zB4 zB5 zZ0 zZ1 zZ2 zZ3 zZ4 zZ5
      clear hb hb7 HA_7 HB_7 HZ_7 S1_7 S2_7 S3_7 S4_7 SM_7
      go_wp2_with (with_reducible refine st37 rfl (.tmp 4) (.tmp 27) rfl (W.heap.size+2) _ _ _ _ _ _ (by with_unfolding_all rfl) (by with_unfolding_all rfl) HZ_8.out (six_dom _ _ _ _ _ _ _ _ _ _ _ _) ?_)
      refine ⟨rfl,_,R6.res rfl _ (HZ_8.out.set (.bool true) (.slice none 0 0) (.slice none 0 0) (.slice none 0 0) (.int .i64 1) (.int .i64 0)) rfl,⟨_,rfl,?_,below_setRow hb8 (by omega) _⟩⟩
      rw [HM.out]
      have:=HC2.out
      rw [HTK.out.2.2.1,HTM.out] at this
      rw [this,Bool.not_false,Bool.or_true]
      exact none_dv _ _
     ·have HC2:Hid (_=_):=hc2
      clear hc2
      go_wp2_with fail
      refine (eqc HC1.out (sub_any _ _ _ _ _ S1_5.out SM_5.out)).mono ?_
      rintro e w6 ⟨rfl,hb⟩
      have hb6:Below W.heap.size W w6:=hb5.trans (hb.mono hb5.size)
      have HA_6:Hid _:=HA_5.out.below hb
      have HB_6:Hid _:=HB_5.out.below hb
      have HZ_6:Hid _:=HZ_5.out.below hb
      have S1_6:=hid (S1_5.out.below hb)
      have S2_6:=hid (S2_5.out.below hb)
      have S3_6:=hid (S3_5.out.below hb)
      have S4_6:=hid (S4_5.out.below hb)
      have SM_6:=hid (SM_5.out.below hb)
      clear zA0 zA1 zA2 zA3 zA4 zA5 zB0 zB1 zB2 zB3 zB4 zB5 zZ0 zZ1 zZ2 zZ3 zZ4 zZ5
      clear hb hb5 HA_5 HB_5 HZ_5 S1_5 S2_5 S3_5 S4_5 SM_5
      obtain ⟨zA0,zA1,zA2,zA3,zA4,zA5⟩:=HA_6.out.cells
      obtain ⟨zB0,zB1,zB2,zB3,zB4,zB5⟩:=HB_6.out.cells
      obtain ⟨zZ0,zZ1,zZ2,zZ3,zZ4,zZ5⟩:=HZ_6.out.cells
      go_upto_region 5 with (refine (eqc HC2.out (sub_any _ _ _ _ _ S3_6.out SM_6.out)).mono ?_;rintro e w7 ⟨rfl,hb⟩)
      have hb7:Below W.heap.size W w7:=hb6.trans (hb.mono hb6.size)
      have HA_7:Hid _:=HA_6.out.below hb
      have HB_7:Hid _:=HB_6.out.below hb
      have HZ_7:Hid _:=HZ_6.out.below hb
      have S1_7:=hid (S1_6.out.below hb)
      have S2_7:=hid (S2_6.out.below hb)
      have S3_7:=hid (S3_6.out.below hb)
      have S4_7:=hid (S4_6.out.below hb)
      have SM_7:=hid (SM_6.out.below hb)
      clear zA0 zA1 zA2 zA3 zA4 zA5 zB0 zB1 zB2 zB3 zB4 zB5 zZ0 zZ1 zZ2 zZ3 zZ4 zZ5
      clear hb hb6 HA_6 HB_6 HZ_6 S1_6 S2_6 S3_6 S4_6 SM_6
      have c1:=HC1.out
      have c2:=HC2.out
      rw [HTK.out.1,HTM.out] at c1
      rw [HTK.out.2.2.1,HTM.out] at c2
      have hjs:∀ x∈joinL (takenD d).lo (takenD o).lo,x∈meetL (takenD d).up (takenD o).up:=(subB_iff _ _).1 (by rw [sub_join2,c1,c2];rfl)
      have hjl:(joinL (takenD d).lo (takenD o).lo).length≤1000:=by have:=(join_set (taken_right d).2.2.1 (taken_right o).2.2.1 (meet_set (taken_right d).2.2.2.1 _) hjs).1;omega
      have hml:(meetL (takenD d).up (takenD o).up).length≤1000:=by have:=(meet_set (taken_right d).2.2.2.1 (takenD o).up).1;omega
      have HCC:Hid (_∧_):=⟨c1,c2⟩
      have HJL:Hid _:=hjl
      clear c1 c2 hjs hjl
      have HK:∀ X,Below w7.heap.size w7 X→X.cell? ⟨W.heap.size,2,none⟩=some (.slice p1a m1a k1a)∧X.cell? ⟨W.heap.size,4,none⟩=some (.int .i64 y4a)∧X.cell? ⟨W.heap.size,5,none⟩=some (.int .i64 y5a)∧X.cell? ⟨W.heap.size+1,2,none⟩=some (.slice p1b m1b k1b)∧X.cell? ⟨W.heap.size+1,4,none⟩=some (.int .i64 y4b)∧X.cell? ⟨W.heap.size+1,5,none⟩=some (.int .i64 y5b):=fun X hX=>by
       obtain ⟨_,_,c2,_,c4,c5⟩:=(HA_7.out.below hX).cells
       obtain ⟨_,_,e2,_,e4,e5⟩:=(HB_7.out.below hX).cells
       exact ⟨c2,c4,c5,e2,e4,e5⟩
      have HKS:∀ X cs,Below w7.heap.size w7 X→(X.setRow (W.heap.size+2) cs).cell? ⟨W.heap.size,2,none⟩=some (.slice p1a m1a k1a)∧(X.setRow (W.heap.size+2) cs).cell? ⟨W.heap.size,4,none⟩=some (.int .i64 y4a)∧(X.setRow (W.heap.size+2) cs).cell? ⟨W.heap.size,5,none⟩=some (.int .i64 y5a)∧(X.setRow (W.heap.size+2) cs).cell? ⟨W.heap.size+1,2,none⟩=some (.slice p1b m1b k1b)∧(X.setRow (W.heap.size+2) cs).cell? ⟨W.heap.size+1,4,none⟩=some (.int .i64 y4b)∧(X.setRow (W.heap.size+2) cs).cell? ⟨W.heap.size+1,5,none⟩=some (.int .i64 y5b):=fun X cs hX=>by
       obtain ⟨_,_,c2,_,c4,c5⟩:=((HA_7.out.below hX).other (show W.heap.size≠W.heap.size+2 by omega) cs).cells
       obtain ⟨_,_,e2,_,e4,e5⟩:=((HB_7.out.below hX).other (show W.heap.size+1≠W.heap.size+2 by omega) cs).cells
       exact ⟨c2,c4,c5,e2,e4,e5⟩
      have hB0:Below w7.heap.size w7 w7.drew:=Below.drew (Below.refl _ _)
      have k10:Calls Tryz.prog 116 #[.slice p1a m1a k1a,.slice p1b m1b k1b] w7.drew fun e w'=>∃ p n c,e = .returned (.slice p n c)∧Hid (Si w' (.slice p n c) (joinL (takenD d).lo (takenD o).lo))∧Below w7.heap.size w7 w' :=
       (join_any _ _ _ _ _ (S1_7.out.below hB0) (S3_7.out.below hB0)).mono fun e w' ⟨v,he,hr,hb⟩=>by
        rw [HTK.out.1,HTK.out.2.2.1] at hr
        obtain ⟨p,c,rfl⟩:=own_slice hr
        exact ⟨p,_,c,he,own_si hr,hB0.trans (hb.mono hB0.size)⟩
      obtain ⟨mx,hmx⟩:∃ m,max y4a y4b=m:=⟨_,rfl⟩
      obtain ⟨mn,hmn⟩:∃ m,min y5a y5b=m:=⟨_,rfl⟩
      have HX:Hid (max y4a y4b=mx∧min y5a y5b=mn):=⟨hmx,hmn⟩
      have k75:=fun q X (hX:Below w7.heap.size w7 X) (hq:Si X q (joinL (takenD d).lo (takenD o).lo))=>tight_look q (.slice pm nm cm) _ _ mx mn X hq (SM_7.out.below hX) HJL.out hml
      have HB9:Hid _:=hb7
      have hsz:=hb7.size
      clear hml
      refine wp_region_held_drew (S:=(fun w'=>w'.cell? ⟨W.heap.size,2,none⟩=some (.slice p1a m1a k1a)∧w'.cell? ⟨W.heap.size,4,none⟩=some (.int .i64 y4a)∧w'.cell? ⟨W.heap.size,5,none⟩=some (.int .i64 y5a)∧w'.cell? ⟨W.heap.size+1,2,none⟩=some (.slice p1b m1b k1b)∧w'.cell? ⟨W.heap.size+1,4,none⟩=some (.int .i64 y4b)∧w'.cell? ⟨W.heap.size+1,5,none⟩=some (.int .i64 y5b))) (by kernel_rfl) (HK _ hB0) (fun hHeld=>?_)
      refine tkI 0 rfl hHeld ?_
      try simp only [Act.put,zS,eZ,eS]
      refine tkI 1 rfl hHeld ?_
      try simp only [Act.put,zS,eZ,eS]
      refine tkI 2 rfl hHeld ?_
      try simp only [Act.put,zS,eZ,eS]
      refine tkI 3 rfl hHeld ?_
      try simp only [Act.put,zS,eZ,eS]
      refine tkI 5 rfl hHeld ?_
      try simp only [Act.put,zS,eZ,eS]
      refine tkI 6 rfl hHeld ?_
      try simp only [Act.put,zS,eZ,eS]
      refine tkI 7 rfl hHeld ?_
      try simp only [Act.put,zS,eZ,eS]
      refine tkI 8 rfl hHeld ?_
      try simp only [Act.put,zS,eZ,eS]
      refine tkI 9 rfl hHeld ?_
      try simp only [Act.put,zS,eZ,eS]
      refine tkI 10 rfl hHeld ?_
      try simp only [Act.put,zS,eZ,eS]
      refine tkI 11 rfl hHeld ?_
      try simp only [Act.put,zS,eZ,eS]
      refine tkI 12 rfl hHeld ?_
      try simp only [Act.put,zS,eZ,eS]
      refine tkI 13 rfl hHeld ?_
      try simp only [Act.put,zS,eZ,eS]
      refine tkI 14 rfl hHeld ?_
      try simp only [Act.put,zS,eZ,eS]
      refine tkI 15 rfl hHeld ?_
      try simp only [Act.put,zS,eZ,eS]
      refine rdy 4 rfl fun K hK=>?_
      go_simp
      refine k10.mono ?_
      rintro e w25 ⟨p9,n9,c9,rfl,HJ,hb25⟩
      clear hHeld;refine hK.out _ _ (HK _ hb25) fun hHeld=>?_
      clear hK K
      try simp only [Act.put,zS,eZ,eS]
      refine rdy 16 rfl fun K hK=>?_
      go_simp
      refine (k75 _ _ hb25 HJ.out).mono ?_
      rintro e w26 ⟨g0,q1,h1,j1,q2,h2,j2,g4,g5,rfl,HV,hb26'⟩
      have hb26:Below w7.heap.size w7 w26:=hb25.trans (hb26'.mono hb25.size)
      clear hHeld;refine hK.out _ _ (HK _ hb26) fun hHeld=>?_
      clear hK K
      try simp only [Act.put,zS,eZ,eS]
      refine rdy 17 rfl fun K hK=>?_
      refine step37 rfl (.tmp 4) (.tmp 44) rfl (W.heap.size+2) (.bool g0) (.slice none 0 0) (.slice q1 h1 j1) (.slice q2 h2 j2) (.int .i64 g4) (.int .i64 g5) (by with_unfolding_all rfl) (by with_unfolding_all rfl) (HZ_7.out.below hb26) (six_dom _ _ _ _ _ _ _ _ _ _ _ _) ?_
      clear hHeld;refine hK.out _ _ (HKS _ _ hb26) fun hHeld=>?_
      clear hK K
      try simp only [Act.put,zS,eZ,eS]
      refine wpAnyH_done (by kernel_rfl) ?_ _
      go_wp2
      refine ⟨rfl,_,R6.res rfl _ ((HZ_7.out.below hb26).set (.bool g0) (.slice none 0 0) (.slice q1 h1 j1) (.slice q2 h2 j2) (.int .i64 g4) (.int .i64 g5)) rfl,⟨_,rfl,?_,below_setRow (HB9.out.trans (hb26.mono hsz)) (by omega) _⟩⟩
      rw [HM.out,HCC.out.1,HCC.out.2]
      simp only [Bool.not_true,Bool.or_self,Bool.false_eq_true,if_false]
      rw [HLa.out.1,HLa.out.2,HLb.out.1,HLb.out.2,HX.out.1,HX.out.2]
      exact (HV.out.base (Nat.le_trans hsz hb25.size)).set (HZ_7.out.below hb26) _
   exact AllReadyH.nil
  exact AllReadyH.nil
def Rr (W:World) (s:Value) (fr:List Int):Prop:=∃ a n cap,s = .slice a n cap∧fr.length=n*2∧(0<n→∃ b off,a=some ⟨b,off,none⟩∧b<W.heap.size∧∀ i,i<n*2→W.cell? ⟨b,off+i,none⟩=some (.int .i64 (nth fr i)))
theorem Rr.below {W W':World} {s:Value} {fr:List Int} (h:Rr W s fr) (hb:Below W.heap.size W W'):Rr W' s fr:=by
 obtain ⟨a,n,cap,e,hl,hc⟩:=h
 refine ⟨a,n,cap,e,hl,fun h0=>?_⟩
 obtain ⟨b,off,e1,hlt,hcell⟩:=hc h0
 exact ⟨b,off,e1,Nat.lt_of_lt_of_le hlt hb.size,fun i hi=>(hb.cell (p:=⟨b,off+i,none⟩) hlt).trans (hcell i hi)⟩
def Dr (W:World) (v:Value) (d:SD) (fr:List Int):Prop :=
 ∃ ra rc slo sup,v = .agg #[.bool d.set,.slice ra d.rn rc,slo,sup,.int .i64 d.least,.int .i64 d.most]∧Si W slo d.lo∧Si W sup d.up∧Rr W (.slice ra d.rn rc) fr∧d.lo.length*8≤140737488351232∧d.up.length*8≤140737488351232∧d.rn*16≤140737488351232
theorem Dr.look {w:World} {v:Value} {d:SD} {fr:List Int} (h:Dr w v d fr):∃ x0 ra rn rc a1 n1 c1 a2 n2 c2 x4 x5,v = .agg #[.bool x0,.slice ra rn rc,.slice a1 n1 c1,.slice a2 n2 c2,.int .i64 x4,.int .i64 x5] ∧
  Hid (d.set=x0∧d.lo.length=n1∧d.up.length=n2∧d.least=x4∧d.most=x5∧d.rn=rn)∧Hid (Si w (.slice a1 n1 c1) d.lo)∧Hid (Si w (.slice a2 n2 c2) d.up)∧Hid (Rr w (.slice ra rn rc) fr)∧d.lo.length*8≤140737488351232∧d.up.length*8≤140737488351232∧d.rn*16≤140737488351232:=by
 obtain ⟨ra,rc,slo,sup,e,h1,h2,h3,h4⟩:=h
 have h1':=h1
 have h2':=h2
 obtain ⟨a1,c1,rfl,_⟩:=h1'
 obtain ⟨a2,c2,rfl,_⟩:=h2'
 exact ⟨_,_,_,_,_,_,_,_,_,_,_,_,e,⟨rfl,rfl,rfl,rfl,rfl,rfl⟩,h1,h2,h3,h4⟩
theorem one_same (v u:Value) (d:SD) (fr:List Int) (W:World) (h:Dr W v d fr) (ho:Dr W u d fr) :
  Calls Tryz.prog 25 #[v,u] W fun e w'=>e = .returned (.bool true)∧Below W.heap.size W w':=by
 obtain ⟨x0a,raa,rna,rca,a1a,n1a,c1a,a2a,n2a,c2a,x4a,x5a,rfl,HEa,HLOa,HUPa,HRa,hz1a,hz2a,hz3a⟩:=h.look
 obtain ⟨x0b,rab,rnb,rcb,a1b,n1b,c1b,a2b,n2b,c2b,x4b,x5b,rfl,HEb,HLOb,HUPb,HRb,hz1b,hz2b,hz3b⟩:=ho.look
 have k14a:=fun X (hX:Below W.heap.size W X)=>eqc (show decide (d.lo=d.lo)=true by simp) (refsame_any _ _ d.lo d.lo X (HLOa.out.below hX) (HLOb.out.below hX) hz1a)
 have k14b:=fun X (hX:Below W.heap.size W X)=>eqc (show decide (d.up=d.up)=true by simp) (refsame_any _ _ d.up d.up X (HUPa.out.below hX) (HUPb.out.below hX) hz2a)
 obtain rfl:x0a=x0b:=by rw [←HEa.out.1,←HEb.out.1]
 obtain rfl:x4a=x4b:=by rw [←HEa.out.2.2.2.1,←HEb.out.2.2.2.1]
 obtain rfl:x5a=x5b:=by rw [←HEa.out.2.2.2.2.1,←HEb.out.2.2.2.2.1]
 obtain rfl:rna=rnb:=by rw [←HEa.out.2.2.2.2.2,←HEb.out.2.2.2.2.2]
 have hnn:rna*16≤140737488351232:=by rw [←HEa.out.2.2.2.2.2];exact hz3a
 have HRA:Hid (∀ X,Below W.heap.size W X→0<rna→∃ b off,raa=some ⟨b,off,none⟩∧∀ i,i<rna*2→X.cell? ⟨b,off+i,none⟩=some (.int .i64 (nth fr i))):=fun X hX h0=>by
  obtain ⟨a,n,cap,e,_,hc⟩:=HRa.out.below hX
  injection e with e1 e2 e3
  subst e1 e2 e3
  obtain ⟨b,off,e1,_,hcell⟩:=hc h0
  exact ⟨b,off,e1,hcell⟩
 have HRB:Hid (∀ X,Below W.heap.size W X→0<rna→∃ b off,rab=some ⟨b,off,none⟩∧∀ i,i<rna*2→X.cell? ⟨b,off+i,none⟩=some (.int .i64 (nth fr i))):=fun X hX h0=>by
  obtain ⟨a,n,cap,e,_,hc⟩:=HRb.out.below hX
  injection e with e1 e2 e3
  subst e1 e2 e3
  obtain ⟨b,off,e1,_,hcell⟩:=hc h0
  exact ⟨b,off,e1,hcell⟩
 clear h ho HEa HLOa HUPa HEb HLOb HUPb HRa HRb hz1a hz2a hz3a hz1b hz2b hz3b
 obtain ⟨w0,hW0⟩:∃ X,((W.alloc (Obj.cells #[.bool x0a,.slice raa rna rca,.slice a1a n1a c1a,.slice a2a n2a c2a,.int .i64 x4a,.int .i64 x5a] 37)).alloc (Obj.cells #[.bool x0a,.slice rab rna rcb,.slice a1b n1b c1b,.slice a2b n2b c2b,.int .i64 x4a,.int .i64 x5a] 37))=X:=⟨_,rfl⟩
 have HW0:Hid _:=hW0
 have hb0:Below W.heap.size W w0:=by rw [←hW0];exact (((Below.refl _ W).alloc (by simp<;>omega) _).alloc (by simp<;>omega) _)
 have HA_0:Hid (R6 w0 W.heap.size (.bool x0a) (.slice raa rna rca) (.slice a1a n1a c1a) (.slice a2a n2a c2a) (.int .i64 x4a) (.int .i64 x5a)):=by rw [←hW0];exact ((R6.new _ _ _ _ _ _ _).alloc _)
 have HB_0:Hid (R6 w0 (W.heap.size+1) (.bool x0a) (.slice rab rna rcb) (.slice a1b n1b c1b) (.slice a2b n2b c2b) (.int .i64 x4a) (.int .i64 x5a)):=by rw [←hW0];exact (R6.new1 _ _ _ _ _ _ _ _)
 clear hW0
 go_enter Tryz.func25,Tryz.ntmps25
 go_upto_region 1 with (fail)
 rw [HW0.out]
 clear HW0
 obtain ⟨zA0,zA1,zA2,zA3,zA4,zA5⟩:=HA_0.out.cells
 obtain ⟨zB0,zB1,zB2,zB3,zB4,zB5⟩:=HB_0.out.cells
 go_wp2_with fail
 refine (k14a w0 hb0).mono ?_
 rintro e w1 ⟨rfl,hb⟩
 have hb1:Below W.heap.size W w1:=hb0.trans (hb.mono hb0.size)
 have HA_1:Hid _:=HA_0.out.below hb
 have HB_1:Hid _:=HB_0.out.below hb
 clear zA0 zA1 zA2 zA3 zA4 zA5 zB0 zB1 zB2 zB3 zB4 zB5
 clear hb hb0 HA_0 HB_0
 obtain ⟨zA0,zA1,zA2,zA3,zA4,zA5⟩:=HA_1.out.cells
 obtain ⟨zB0,zB1,zB2,zB3,zB4,zB5⟩:=HB_1.out.cells
 go_wp2_with fail
 refine (k14b w1 hb1).mono ?_
 rintro e w2 ⟨rfl,hb⟩
 have hb2:Below W.heap.size W w2:=hb1.trans (hb.mono hb1.size)
 have HA_2:Hid _:=HA_1.out.below hb
 have HB_2:Hid _:=HB_1.out.below hb
 clear zA0 zA1 zA2 zA3 zA4 zA5 zB0 zB1 zB2 zB3 zB4 zB5
 clear hb hb1 HA_1 HB_1
 obtain ⟨zA0,zA1,zA2,zA3,zA4,zA5⟩:=HA_2.out.cells
 obtain ⟨zB0,zB1,zB2,zB3,zB4,zB5⟩:=HB_2.out.cells
 go_wp2
 go_loopw [5] (fun i wr=>∃ j:Nat,j≤rna∧i = .int .i64 (j:Int)∧∃ q,wr=w2.drewN q) (fun i _=>rna-(intOf i).toNat)
 case atStart=>exact ⟨0,Nat.zero_le _,rfl,0,rfl⟩
 case round =>
  obtain ⟨j,hj,rfl,q,rfl⟩:=hrel
  by_cases hlt:j<rna
  ·obtain ⟨b1,o1,rfl,hcell1⟩:=HRA.out w2 hb2 (by omega)
   obtain ⟨b2,o2,rfl,hcell2⟩:=HRB.out w2 hb2 (by omega)
   have x1:=hcell1 (j*2) (by omega)
   have x2:=hcell1 (j*2+1) (by omega)
   have y1:=hcell2 (j*2) (by omega)
   have y2:=hcell2 (j*2+1) (by omega)
   rw [←Nat.add_assoc] at x2 y2
   have kk:(j:Int)<(rna:Int):=by omega
   clear hcell1 hcell2
   generalize nth fr (j*2)=p at *
   generalize nth fr (j*2+1)=r at *
   go_wp2
   go_quiet (fail)
   go_wp2
   go_roundw
   case rel=>exact ⟨j+1,by omega,by go_num,_,rfl⟩
   case measure=>simp [intOf];omega
  ·go_wp2
   go_ret
   exact ⟨rfl,below_drewN hb2 _⟩
theorem Tryz.info80:(Tryz.prog.info? 80).map (fun i=>(i.zero,i.size,i.bytes))=some (some (.agg #[.int .i64 0,.int .i64 0]),2,16):=by kernel_rfl
theorem run_app_noneR (w:World) (ty:TypeId) (c':Nat):(Builtin.append_ #[34,34] ty #[.slice none 0 0,.slice none 0 c']).run Tryz.prog w = .ok (.slice none 0 0) w:=by
 obtain ⟨i0,hi0,hz0,hz1,hz2⟩:=info_parts Tryz.info80
 have hf:(Builtin.firstCells i0.size 0 (.slice none 0 c')).run Tryz.prog w = .ok #[] w:=by simp [Builtin.firstCells]
 simp [Builtin.append_,run_underlying Tryz.underlying34,sizeOf,typeInfo,hi0,Builtin.lenOf,hf,storeCells]
theorem wpList_app_i (w:World) {ops:Array Oper} {rest:List Oper} {o:Oper} {a:Act} {Q:Exit→Act→World→Prop} (hgd:o.guard=none) (s x:Operand) (ho:o.op = .call { callee:=.builtin .append,args:=#[s,x],argTypes:=#[35,35] })
  (hs:a.eval s = .slice none 0 0) (sx:Value) (l:List Int) (hx:a.eval x=sx) (hsx:Si w sx l) (hb:l.length*8≤140737488351232)
  (h:∀ v' w',w'.ownsRow w.heap.size 2 1 v' l.length (intv l)→Below w.heap.size w w'→wpList Tryz.prog ops Q rest (a.put o.dst v') w'):wpList Tryz.prog ops Q (o :: rest) a w:=by
 obtain ⟨i0,hi0,hz0,hz1,hz2⟩:=info_parts Tryz.info2
 obtain ⟨ax,cx,rfl,hcx⟩:=hsx
 have hown:w.ownsRow w.heap.size 2 1 (.slice none 0 0) 0 []:=World.ownsRow_nil _ _ _ _
 have hbel:∀ w',w.grownBy w' (Value.slice none 0 0).ownBlock→Below w.heap.size w w':=fun w' hg=>(Below.refl _ w).grown hg (Nat.le_refl _) (fun k e=>by cases e)
 cases ax with
 | none =>
  have h0:l.length=0:=by
   apply Classical.byContradiction;intro hn
   obtain ⟨_,_,e,_⟩:=hcx (by omega)
   cases e
  obtain rfl:=List.eq_nil_of_length_eq_zero h0
  refine Lib.wpList_append_run w hgd s x 35 35 ho _ _ hs hx _ _ (run_app_none w _ none 0 0 cx (Nat.le_refl _)) (h _ _ ?_ (Below.refl _ _))
  exact hown
 | some ad =>
  rcases Nat.eq_zero_or_pos l.length with h0 | h0
  ·obtain rfl:=List.eq_nil_of_length_eq_zero h0
   refine wpList_append_own _ hgd s x 35 ho w.heap.size 2 i0 (.int .i64 0) 1 8 Tryz.underlying35 hi0 hz0 hz1 hz2 rfl (by decide) _ _ _ hs hown ad 0 cx [] hx rfl (fun j u h=>by simp at h) (fun u h=>by simp at h) (by unfold maxLen;omega) (by omega) (Nat.le_refl _) ?_
   intro v' w' h1 h2 _
   exact h v' w' (by simpa [intv] using h1) (hbel w' h2)
  ·obtain ⟨b,off,e,hlt,hcell⟩:=hcx h0
   injection e with e
   subst e
   refine wpList_append_own _ hgd s x 35 ho w.heap.size 2 i0 (.int .i64 0) 1 8 Tryz.underlying35 hi0 hz0 hz1 hz2 rfl (by decide) _ _ _ hs hown ⟨b,off,none⟩ l.length cx (intv l) hx (by simp [intv]) (srcells hcell) intv_one (by unfold maxLen;omega) (by omega) (Nat.le_refl _) ?_
   intro v' w' h1 h2 _
   exact h v' w' (by simpa [intv] using h1) (hbel w' h2)
theorem wpList_app_r (w:World) {ops:Array Oper} {rest:List Oper} {o:Oper} {a:Act} {Q:Exit→Act→World→Prop} (hgd:o.guard=none) (s x:Operand) (ho:o.op = .call { callee:=.builtin .append,args:=#[s,x],argTypes:=#[34,34] })
  (hs:a.eval s = .slice none 0 0) (ax:Option Addr) (n cx:Nat) (fr:List Int) (hx:a.eval x = .slice ax n cx) (hsx:Rr w (.slice ax n cx) fr) (hb:n*16≤140737488351232)
  (h:∀ v' w',w'.ownsRow w.heap.size 80 2 v' n (intv fr)→Below w.heap.size w w'→wpList Tryz.prog ops Q rest (a.put o.dst v') w'):wpList Tryz.prog ops Q (o :: rest) a w:=by
 obtain ⟨i0,hi0,hz0,hz1,hz2⟩:=info_parts Tryz.info80
 obtain ⟨ax',n',cx',e,hl,hcx⟩:=hsx
 injection e with e1 e2 e3
 subst e1 e2 e3
 have hown:w.ownsRow w.heap.size 80 2 (.slice none 0 0) 0 []:=World.ownsRow_nil _ _ _ _
 have hbel:∀ w',w.grownBy w' (Value.slice none 0 0).ownBlock→Below w.heap.size w w':=fun w' hg=>(Below.refl _ w).grown hg (Nat.le_refl _) (fun k e=>by cases e)
 rcases Nat.eq_zero_or_pos n with h0 | h0
 ·subst h0
  obtain rfl:fr=[]:=List.eq_nil_of_length_eq_zero (by omega)
  cases ax with
  | none=>exact Lib.wpList_append_run w hgd s x 34 34 ho _ _ hs hx _ _ (run_app_noneR w _ cx) (h _ _ hown (Below.refl _ _))
  | some ad =>
   refine wpList_append_own _ hgd s x 34 ho w.heap.size 80 i0 (.agg #[.int .i64 0,.int .i64 0]) 2 16 Tryz.underlying34 hi0 hz0 hz1 hz2 rfl (by decide) _ _ _ hs hown ad 0 cx [] hx rfl (fun j u h=>by simp at h) (fun u h=>by simp at h) (by unfold maxLen;omega) (by omega) (Nat.le_refl _) ?_
   intro v' w' h1 h2 _
   exact h v' w' (by simpa [intv] using h1) (hbel w' h2)
 ·obtain ⟨b,off,e,hlt,hcell⟩:=hcx h0
  subst e
  refine wpList_append_own _ hgd s x 34 ho w.heap.size 80 i0 (.agg #[.int .i64 0,.int .i64 0]) 2 16 Tryz.underlying34 hi0 hz0 hz1 hz2 rfl (by decide) _ _ _ hs hown ⟨b,off,none⟩ n cx (intv fr) hx (by rw [intv_len,hl]) (srcells (fun i hi=>hcell i (by omega))) intv_one (by unfold maxLen;omega) (by omega) (Nat.le_refl _) ?_
  intro v' w' h1 h2 _
  exact h v' w' (by simpa [intv] using h1) (hbel w' h2)
theorem own_sliceR {W:World} {B n:Nat} {v:Value} {xs:List Value} (h:W.ownsRow B 80 2 v n xs):∃ p c,v = .slice p n c:=by
 rcases h.2 with ⟨e1,e2⟩ | ⟨g,cap,cur,e1,_⟩
 ·exact ⟨none,0,by rw [e1,e2]⟩
 ·exact ⟨_,_,e1⟩
theorem own_setRowR {W:World} {B n:Nat} {v:Value} {xs:List Value} (h:W.ownsRow B 80 2 v n xs) (g:Nat) (cs:Array Value) {old:Array Value} (hg:W.heap[g]? = some (.cells old 37 (0,0))):(W.setRow g cs).ownsRow B 80 2 v n xs :=
 ⟨h.1,by
  rcases h.2 with h2 | ⟨g',cap,cur,e1,hB,hgb,r⟩
  ·exact .inl h2
  ·refine .inr ⟨g',cap,cur,e1,hB,?_,r⟩
   rw [setRow_other W g g' cs (fun e=>by subst e;rw [hg] at hgb;cases hgb)]
   exact hgb⟩
end Go.Proofs.YtghnfnieppfhgaaGreat.St
