/- What is proved here: what comes of the fixed calls. -/
import Derived.Test.YtghnfnieppfhgaaGreatAa
import Derived.Test.YtghnfnieppfhgaaGreatMhj
import Derived.Test.YtghnfnieppfhgaaGreatKw
import Derived.Test.YtghnfnieppfhgaaGreatKaj
set_option linter.unusedVariables false
set_option linter.unusedSimpArgs false
set_option maxRecDepth 100000
set_option maxHeartbeats 4000000
namespace Go.Proofs.YtghnfnieppfhgaaGreat
attribute [local instance] noG
open Go.RowKit Go.Shelf
theorem le_of_up {X Y:Nat→Prop} {w:World} {B:Nat} (u:Up X Y w) (h:∀ b,X b→B≤b) (hB:B≤w.heap.size):∀ b,Y b→B≤b:=fun b hb=>(u b hb).elim (h b) (fun q=>Nat.le_trans hB q)
theorem not_up {X Y:Nat→Prop} {w:World} {g:Nat} (u:Up X Y w) (h:¬X g) (hg:g<w.heap.size):¬Y g:=fun q=>(u g q).elim h (fun q=>by omega)
theorem known_true (W:World):Calls Tryz.prog 10 #[] W fun e w'=>e = .returned (.bool true)∧Below W.heap.size W w':=by
 go_enter Tryz.func10,Tryz.ntmps10
 go_wp2_with fail
 refine (one9 1 9 _).mono ?_
 rintro e w1 ⟨qa,rfl,hqa,hb1⟩
 have hda:=hqa (fun _=>False) (fun _ q=>q.elim)
 clear hqa
 obtain ⟨ba,r1,m1,k1,s1,l1,j1,t1,g1,i1,x1,y1,rfl,HE1,_,_,_⟩:=hda.look
 obtain rfl:ba=false:=by rw [←HE1.out.1]
 go_wp2_with fail
 refine (one9 0 1 _).mono ?_
 rintro e w2 ⟨qb,rfl,hqb,hb2⟩
 have hdb:=hqb (fun _=>False) (fun _ q=>q.elim)
 clear hqb
 obtain ⟨bb,r2,m2,k2,s2,l2,j2,t2,g2,i2,x2,y2,rfl,HE2,_,_,_⟩:=hdb.look
 obtain rfl:bb=false:=by rw [←HE2.out.1]
 have hda2:=hda.below hb2
 have HB2:=hid (hb1.trans (hb2.mono hb1.size))
 obtain ⟨bs,hbs⟩:∃ q,w2.heap.size=q:=⟨_,rfl⟩
 obtain ⟨w3,hw3⟩:∃ q,w2.alloc (Obj.cells #[.bool false,.slice r1 m1 k1,.slice s1 l1 j1,.slice t1 g1 i1,.int .i64 x1,.int .i64 y1,.bool false,.slice r2 m2 k2,.slice s2 l2 j2,.slice t2 g2 i2,.int .i64 x2,.int .i64 y2] 37)=q:=⟨_,rfl⟩
 have hb3:Below w2.heap.size w2 w3:=by rw [←hw3];exact (Below.refl _ _).alloc (Nat.le_refl _) _
 have hbx:Bx w3 bs #[.bool false,.slice r1 m1 k1,.slice s1 l1 j1,.slice t1 g1 i1,.int .i64 x1,.int .i64 y1,.bool false,.slice r2 m2 k2,.slice s2 l2 j2,.slice t2 g2 i2,.int .i64 x2,.int .i64 y2] 37:=by rw [←hw3];exact Bx.new' hbs _ _
 have hld:Ld w3 (.slice (some ⟨bs,0,none⟩) 2 2) [d19,d01]:=by
  refine ⟨some ⟨bs,0,none⟩,2,rfl,fun _=>⟨bs,0,[[.bool false,.slice r1 m1 k1,.slice s1 l1 j1,.slice t1 g1 i1,.int .i64 x1,.int .i64 y1],[.bool false,.slice r2 m2 k2,.slice s2 l2 j2,.slice t2 g2 i2,.int .i64 x2,.int .i64 y2]],rfl,hbx.lt,rfl,fun i ci di hc hd=>?_⟩⟩
  match i with
  | 0 =>
   simp only [List.getElem?_cons_zero,Option.some.injEq] at hc hd
   subst hc hd
   refine ⟨fun j u hu=>?_,hda2.below hb3⟩
   rw [Nat.zero_mul,Nat.add_zero,Nat.zero_add,hbx.cell j]
   have hj:=(List.getElem?_eq_some_iff.1 hu).1
   match j,hj with
   | 0,_=>exact hu
   | 1,_=>exact hu
   | 2,_=>exact hu
   | 3,_=>exact hu
   | 4,_=>exact hu
   | 5,_=>exact hu
  | 1 =>
   simp only [List.getElem?_cons_zero,List.getElem?_cons_succ,Option.some.injEq] at hc hd
   subst hc hd
   refine ⟨fun j u hu=>?_,hdb.below hb3⟩
   rw [Nat.zero_add,Nat.one_mul,hbx.cell (6+j)]
   have hj:=(List.getElem?_eq_some_iff.1 hu).1
   match j,hj with
   | 0,_=>exact hu
   | 1,_=>exact hu
   | 2,_=>exact hu
   | 3,_=>exact hu
   | 4,_=>exact hu
   | 5,_=>exact hu
  | i+2=>simp at hc
 have kn:=new_z hld (by decide) (by
  intro d hd
  simp only [List.mem_cons,List.not_mem_nil,or_false] at hd
  rcases hd with rfl | rfl
  ·exact ⟨rfl,kn_fit 1 9 (by decide) (by decide) (by decide) (by decide),(by decide)⟩
  ·exact ⟨rfl,kn_fit 0 1 (by decide) (by decide) (by decide) (by decide),(by decide)⟩)
 rw [kn_s0] at kn
 have HB3:=hid (HB2.out.trans (hb3.mono HB2.out.size))
 have HW3:Hid _:=hw3
 clear hw3 hb3 hbx hld hda2 hdb hda HE1 HE2 hb1 hb2 HB2
 go_wp2_with fail
 rw [HW3.out]
 refine kn.mono ?_
 clear kn HW3
 rintro e w4 ⟨p,sl4,rfl,hs4,hx4,hb4⟩
 have HB4:=hid (HB3.out.trans (hb4.mono HB3.out.size))
 have HX4:Hid (∀ b,XS p sl4 b→W.heap.size≤b):=fun b hb=>Nat.le_trans HB3.out.size (hx4 b hb)
 have HS4:Hid (Sto w4 p S0 sl4):=hs4
 clear hs4 hx4 hb4 hbs
 have kp:=push_any HS4.out (by exact ⟨by decide,by decide,by decide⟩) (by decide)
 rw [kn_s1] at kp
 go_wp2_with fail
 refine kp.mono ?_
 clear kp
 rintro e w5 ⟨rfl,sl5,hs5,hu5,hk5⟩
 have HB5:=hid (HB4.out.trans (hk5.below HB4.out.size HX4.out))
 have HX5:=hid (le_of_up hu5 HX4.out HB4.out.size)
 have HS5:Hid (Sto w5 p S1 sl5):=hs5
 clear hs5 hu5 hk5
 go_wp2_with fail
 refine (one9 3 3 _).mono ?_
 rintro e w6 ⟨qc,rfl,hqc,hb6⟩
 have hdc:=hqc (XS p sl5) HS5.out.x_lt
 have HB6:=hid (HB5.out.trans (hb6.mono HB5.out.size))
 have HS6:=hid (HS5.out.below hb6)
 have kna:=narrow_z HS6.out hdc 0 (o:=d19) rfl rfl rfl (kn_fit 3 3 (by decide) (by decide) (by decide) (by decide)) (kn_fit 1 9 (by decide) (by decide) (by decide) (by decide)) (by rw [kn_w3];exact kn_fit 3 3 (by decide) (by decide) (by decide) (by decide)) (by decide) rfl kn_e1 (by exact ⟨by decide,by decide,by decide⟩) (by decide) (by rw [kn_w3];exact kn_n1) 1 (fun _ X Y w k k' h1 h2=>by rw [kn_w3] at h2;exact change_fix h1 h2 rfl rfl (kn_fit 3 3 (by decide) (by decide) (by decide) (by decide)) (by rw [kn_o3]))
 rw [kn_w3,kn_s2] at kna
 have hif:(if emptyW d33=true then (2:Int) else 1)=1:=rfl
 rw [hif] at kna
 clear hif
 clear hqc hb6
 go_wp2_with fail
 refine kna.mono ?_
 clear kna hdc
 rintro e w7 ⟨rfl,sl7,hs7,hu7,hk7⟩
 have HB7:=hid (HB6.out.trans (hk7.below HB6.out.size HX5.out))
 have HX7:=hid (le_of_up hu7 HX5.out HB6.out.size)
 have HS7:Hid (Sto w7 p S2 sl7):=hs7
 clear hs7 hu7 hk7
 have kv:=value_any HS7.out (by exact ⟨by decide,by decide,by decide⟩) 0 (o:=d33) rfl rfl (kn_fit 3 3 (by decide) (by decide) (by decide) (by decide))
 rw [kn_o3] at kv
 go_wp2_with fail
 refine kv.mono ?_
 clear kv
 rintro e w8 ⟨rfl,hb8⟩
 have HB8:=hid (HB7.out.trans (hb8.mono HB7.out.size))
 have HS8:=hid (HS7.out.below hb8)
 clear hb8
 obtain ⟨bv,hbv⟩:∃ q,w8.heap.size=q:=⟨_,rfl⟩
 obtain ⟨w9,hw9⟩:∃ q,w8.alloc (Obj.cells #[.bool false,.int .i64 3,.slice none 0 0] 57)=q:=⟨_,rfl⟩
 have hb9:Below w8.heap.size w8 w9:=by rw [←hw9];exact (Below.refl _ _).alloc (Nat.le_refl _) _
 have HBV9:Hid (Bx w9 bv #[.bool false,.int .i64 3,.slice none 0 0] 57):=by rw [←hw9];exact Bx.new' hbv _ _
 have HB9:=hid (HB8.out.trans (hb9.mono HB8.out.size))
 have HS9:=hid (HS8.out.below hb9)
 have HV7:Hid (¬XS p sl7 bv):=fun q=>by have:=HS8.out.x_lt bv q;omega
 have HW9:Hid _:=hw9
 have ke:=events_d HS9.out (by exact ⟨by decide,by decide,by decide⟩) (by decide)
 rw [kn_ev2,kn_s3] at ke
 clear hw9 hb9
 go_wp2_with fail
 rw [HW9.out]
 refine ke.mono ?_
 clear ke HW9
 rintro e w10 ⟨se,rfl,hre,hfe,hs10,hk10⟩
 have hsh:=hre.shape
 obtain ⟨ge,cap,ese,hgl,_,_,hrg,_⟩:=hre.at (i:=0) (c:=[.int .i64 ((0:Nat):Int),.int .i64 1]) rfl
 subst ese
 have hg1:w10.cell? ⟨ge,1,none⟩=some (.int .i64 1):=by have:=hrg 1 (.int .i64 1) rfl;simpa using this
 have hge:w9.heap.size≤ge:=hfe ge rfl
 have HX10:Hid (¬XS p sl7 ge):=fun q=>by have:=HS9.out.x_lt ge q;omega
 have HBV10:=hid (HBV9.out.kept hk10 HV7.out)
 have HB10:=hid (HB9.out.trans (hk10.below HB9.out.size HX7.out))
 have HS10:Hid (Sto w10 p S3 sl7):=hs10
 have HG10:Hid (ge<w10.heap.size∧w10.cell? ⟨ge,1,none⟩=some (.int .i64 1)):=⟨hgl,hg1⟩
 clear hs10 hk10 hfe hre hrg hg1 hgl hge hsh hbv
 have hdE:Dc (XS p sl7) w10 [.bool false,.slice none 0 0,.slice none 0 0,.slice none 0 0,.int .i64 0,.int .i64 0] dE:=⟨none,0,none,0,none,0,rfl,⟨none,0,rfl,fun q=>by simp at q⟩,Nm.empty _ _,Nm.empty _ _⟩
 have kna:=narrow_z HS10.out hdE 1 (o:=d01) rfl rfl rfl (fun i hi=>by simp at hi) (kn_fit 0 1 (by decide) (by decide) (by decide) (by decide)) (by rw [kn_w4];exact fun i hi=>by simp at hi) (by decide) rfl rfl (by exact ⟨by decide,by decide,by decide⟩) (by decide) (by rw [kn_w4];exact kn_n2) 0 (fun h=>by rw [kn_w4] at h;cases h)
 rw [kn_w4,kn_s4] at kna
 have hif:(if emptyW dE=true then (2:Int) else 1)=2:=rfl
 rw [hif] at kna
 clear hif hdE
 go_wp2_with fail
 refine kna.mono ?_
 clear kna
 rintro e w11 ⟨rfl,sl11,hs11,hu11,hk11⟩
 have HB11:=hid (HB10.out.trans (hk11.below HB10.out.size HX7.out))
 have HX11:=hid (le_of_up hu11 HX7.out HB10.out.size)
 have HS11:Hid (Sto w11 p S4 sl11):=hs11
 have HBV11:=hid (HBV10.out.kept hk11 HV7.out)
 have HG11:Hid (ge<w11.heap.size∧w11.cell? ⟨ge,1,none⟩=some (.int .i64 1)):=⟨Nat.lt_of_lt_of_le HG10.out.1 hk11.size,(hk11.cell HG10.out.1 HX10.out 1).trans HG10.out.2⟩
 have HV11:=hid (not_up hu11 HV7.out HBV10.out.lt)
 have HGX11:=hid (not_up hu11 HX10.out HG10.out.1)
 clear hs11 hu11 hk11
 have kf:=failed_any HS11.out
 have hd1:decide (0<S4.e)=true:=rfl
 rw [hd1] at kf
 clear hd1
 go_wp2_with fail
 refine kf.mono ?_
 clear kf
 rintro e wt ⟨rfl,hwt⟩
 rw [hwt]
 clear hwt wt
 have kpo:=pop_d HS11.out (by exact ⟨by decide,by decide,by decide⟩) [] 0 rfl (by decide) (by decide) (by
  intro t ht
  have ht':t∈[((0:Int),d19,(0:Int)),(1,d01,0)]:=ht
  simp only [List.mem_cons,List.not_mem_nil,or_false] at ht'
  rcases ht' with rfl | rfl
  ·exact ⟨by decide,by decide⟩
  ·exact ⟨by decide,by decide⟩) (by decide) (by decide)
 rw [kn_s5] at kpo
 go_wp2_with fail
 refine kpo.mono ?_
 clear kpo
 rintro e w12 ⟨rfl,sl12,hs12,hu12,hk12⟩
 have HB12:=hid (HB11.out.trans (hk12.below HB11.out.size HX11.out))
 have HS12:Hid (Sto w12 p S5 sl12):=hs12
 have HBV12:=hid (HBV11.out.kept hk12 HV11.out)
 have HG12:Hid (ge<w12.heap.size∧w12.cell? ⟨ge,1,none⟩=some (.int .i64 1)):=⟨Nat.lt_of_lt_of_le HG11.out.1 hk12.size,(hk12.cell HG11.out.1 HGX11.out 1).trans HG11.out.2⟩
 clear hs12 hu12 hk12
 have kg:=get_any HS12.out (by exact ⟨by decide,by decide,by decide⟩) 0 (o:=d19) rfl rfl rfl rfl (by decide) (by decide)
 go_wp2_with fail
 refine kg.mono ?_
 clear kg
 rintro e w13 ⟨q4,rfl,hq4,hb13⟩
 have hd4:=hq4 (fun _=>False) (fun _ q=>q.elim)
 obtain ⟨b4,r4,m4,k4,s4,l4,j4,t4,g4,i4,x4,y4,rfl,HE4,_,_,_⟩:=hd4.look
 obtain rfl:b4=false:=by rw [←HE4.out.1]
 obtain ⟨bg,hbg⟩:∃ q,w13.heap.size=q:=⟨_,rfl⟩
 obtain ⟨w14,hw14⟩:∃ q,w13.alloc (Obj.cells #[.bool false,.slice r4 m4 k4,.slice s4 l4 j4,.slice t4 g4 i4,.int .i64 x4,.int .i64 y4] 37)=q:=⟨_,rfl⟩
 have hb14:Below w13.heap.size w13 w14:=by rw [←hw14];exact (Below.refl _ _).alloc (Nat.le_refl _) _
 have hb1214:Below w12.heap.size w12 w14:=hb13.trans (hb14.mono hb13.size)
 have HBG:Hid (Bx w14 bg #[.bool false,.slice r4 m4 k4,.slice s4 l4 j4,.slice t4 g4 i4,.int .i64 x4,.int .i64 y4] 37):=by rw [←hw14];exact Bx.new' hbg _ _
 have HB14:=hid (HB12.out.trans (hb1214.mono HB12.out.size))
 have HS14:=hid (HS12.out.below hb1214)
 have HBV14:=hid (HBV12.out.below hb1214)
 have HG14:Hid (w14.cell? ⟨ge,1,none⟩=some (.int .i64 1)):=(hb1214.cell (p:=⟨ge,1,none⟩) HG12.out.1).trans HG12.out.2
 have HGL14:=hid (Nat.lt_of_lt_of_le HG12.out.1 hb1214.size)
 have HD14:=hid (hd4.below hb14)
 have HW14:Hid _:=hw14
 have HBGE:Hid (w13.heap.size=bg):=hbg
 clear hw14 hb14 hb1214 hd4 hq4 hb13 hbg
 have FS:∀ X,Below w14.heap.size w14 X→Bx X bv #[.bool false,.int .i64 3,.slice none 0 0] 57∧X.cell? ⟨ge,1,none⟩=some (.int .i64 1)∧Bx X bg #[.bool false,.slice r4 m4 k4,.slice s4 l4 j4,.slice t4 g4 i4,.int .i64 x4,.int .i64 y4] 37:=fun X hX=>⟨HBV14.out.below hX,(hX.cell (p:=⟨ge,1,none⟩) HGL14.out).trans HG14.out,HBG.out.below hX⟩
 have HY0:Hid (Below w14.heap.size w14 w14.drew):=(Below.refl _ _).drew
 clear HB3 HB4 HX4 HS4 HB5 HX5 HS5 HB6 HS6 HB7 HX7 HS7 HB8 HS8 HBV9 HB9 HS9 HV7 HX10 HBV10 HB10 HS10 HG10 HB11 HX11 HS11 HBV11 HG11 HV11 HGX11 HB12 HS12 HBV12 HG12 HBV14 HG14 HGL14 HBG
 go_upto_region 12 with (fail)
 rw [HW14.out]
 (try rw [HBGE.out])
 refine wp_region_held_drew (S:=fun X:World=>Bx X bv #[.bool false,.int .i64 3,.slice none 0 0] 57∧X.cell? ⟨ge,1,none⟩=some (.int .i64 1)∧Bx X bg #[.bool false,.slice r4 m4 k4,.slice s4 l4 j4,.slice t4 g4 i4,.int .i64 x4,.int .i64 y4] 37) (by kernel_rfl) ((FS _ HY0.out)) (fun hHeld=>?_)
 refine tkI 0 rfl hHeld ?_
 try simp only [Act.put,zS,eZ,eS]
 refine tkI 1 rfl hHeld ?_
 try simp only [Act.put,zS,eZ,eS]
 refine tkI 2 rfl hHeld ?_
 try simp only [Act.put,zS,eZ,eS]
 refine tkI 3 rfl hHeld ?_
 try simp only [Act.put,zS,eZ,eS]
 refine tkI 4 rfl hHeld ?_
 try simp only [Act.put,zS,eZ,eS]
 refine tkI 5 rfl hHeld ?_
 try simp only [Act.put,zS,eZ,eS]
 refine tkI 6 rfl hHeld ?_
 try simp only [Act.put,zS,eZ,eS]
 refine tkI 7 rfl hHeld ?_
 try simp only [Act.put,zS,eZ,eS]
 refine tkI 8 rfl hHeld ?_
 try simp only [Act.put,zS,eZ,eS]
 refine tkI 9 rfl hHeld ?_
 try simp only [Act.put,zS,eZ,eS]
 refine tkI 10 rfl hHeld ?_
 try simp only [Act.put,zS,eZ,eS]
 refine tkH 11 ⟨some 68,.load 2 (.tmp 67),2,"law.go:29",#[⟨10,.data⟩,⟨9,.guard⟩],some (9,true)⟩ (v:=?_) hHeld ?_ ?_;rotate_left
 ·intro w hSw;obtain ⟨hv,hg,hx⟩:=hSw;have q1:=hv.cell 1;simp at q1;obtain ⟨u0,u1,u2,u3,u4,u5⟩:=hx.six;go_simp<;>with_reducible rfl
 try simp only [Act.put,zS,eZ,eS]
 refine tkI 12 rfl hHeld ?_
 try simp only [Act.put,zS,eZ,eS]
 refine tkI 13 rfl hHeld ?_
 try simp only [Act.put,zS,eZ,eS]
 refine tkI 14 rfl hHeld ?_
 try simp only [Act.put,zS,eZ,eS]
 refine tkI 15 rfl hHeld ?_
 try simp only [Act.put,zS,eZ,eS]
 refine tkI 16 rfl hHeld ?_
 try simp only [Act.put,zS,eZ,eS]
 refine tkI 17 rfl hHeld ?_
 try simp only [Act.put,zS,eZ,eS]
 refine tkI 18 rfl hHeld ?_
 try simp only [Act.put,zS,eZ,eS]
 refine tkI 19 rfl hHeld ?_
 try simp only [Act.put,zS,eZ,eS]
 refine tkI 20 rfl hHeld ?_
 try simp only [Act.put,zS,eZ,eS]
 refine tkI 21 rfl hHeld ?_
 try simp only [Act.put,zS,eZ,eS]
 refine tkI 22 rfl hHeld ?_
 try simp only [Act.put,zS,eZ,eS]
 refine tkH 23 ⟨some 80,.load 3 (.tmp 79),3,"law.go:29",#[⟨22,.data⟩,⟨19,.guard⟩],some (19,true)⟩ (v:=?_) hHeld ?_ ?_;rotate_left
 ·intro w hSw;obtain ⟨hv,hg,hx⟩:=hSw;have q1:=hv.cell 1;simp at q1;obtain ⟨u0,u1,u2,u3,u4,u5⟩:=hx.six;go_simp<;>with_reducible rfl
 try simp only [Act.put,zS,eZ,eS]
 refine tkI 24 rfl hHeld ?_
 try simp only [Act.put,zS,eZ,eS]
 refine tkI 25 rfl hHeld ?_
 try simp only [Act.put,zS,eZ,eS]
 refine tkI 26 rfl hHeld ?_
 try simp only [Act.put,zS,eZ,eS]
 refine tkI 27 rfl hHeld ?_
 try simp only [Act.put,zS,eZ,eS]
 refine tkI 28 rfl hHeld ?_
 try simp only [Act.put,zS,eZ,eS]
 refine tkI 29 rfl hHeld ?_
 try simp only [Act.put,zS,eZ,eS]
 refine tkI 30 rfl hHeld ?_
 try simp only [Act.put,zS,eZ,eS]
 refine tkI 31 rfl hHeld ?_
 try simp only [Act.put,zS,eZ,eS]
 refine tkI 32 rfl hHeld ?_
 try simp only [Act.put,zS,eZ,eS]
 refine tkI 33 rfl hHeld ?_
 try simp only [Act.put,zS,eZ,eS]
 refine tkI 34 rfl hHeld ?_
 try simp only [Act.put,zS,eZ,eS]
 refine tkI 35 rfl hHeld ?_
 try simp only [Act.put,zS,eZ,eS]
 refine tkI 36 rfl hHeld ?_
 try simp only [Act.put,zS,eZ,eS]
 refine tkI 37 rfl hHeld ?_
 try simp only [Act.put,zS,eZ,eS]
 refine tkI 38 rfl hHeld ?_
 try simp only [Act.put,zS,eZ,eS]
 refine tkI 39 rfl hHeld ?_
 try simp only [Act.put,zS,eZ,eS]
 refine tkI 40 rfl hHeld ?_
 try simp only [Act.put,zS,eZ,eS]
 refine tkI 41 rfl hHeld ?_
 try simp only [Act.put,zS,eZ,eS]
 refine tkI 42 rfl hHeld ?_
 try simp only [Act.put,zS,eZ,eS]
 refine tkI 43 rfl hHeld ?_
 try simp only [Act.put,zS,eZ,eS]
 refine tkI 44 rfl hHeld ?_
 try simp only [Act.put,zS,eZ,eS]
 refine tkI 45 rfl hHeld ?_
 try simp only [Act.put,zS,eZ,eS]
 refine tkH 46 ⟨some 103,.load 37 (.tmp 12),37,"law.go:29",#[⟨45,.guard⟩],some (45,true)⟩ (v:=?_) hHeld ?_ ?_;rotate_left
 ·intro w hSw;obtain ⟨hv,hg,hx⟩:=hSw;have q1:=hv.cell 1;simp at q1;obtain ⟨u0,u1,u2,u3,u4,u5⟩:=hx.six;go_simp<;>with_reducible rfl
 try simp only [Act.put,zS,eZ,eS]
 refine rdy 47 rfl fun K hK=>?_
 go_simp
 refine (one9 1 9 _).mono ?_
 rintro e v1 ⟨q5,rfl,hq5,hb⟩
 have HD5:Hid (Dc (fun _=>False) v1 q5 d19):=hq5 _ (fun _ q=>q.elim)
 have HY1:=hid (HY0.out.trans (hb.mono HY0.out.size))
 clear hb hq5
 obtain ⟨b5,r5,m5,k5,s5,l5,j5,t5,g5,i5,x5,y5,rfl,HE5,_,_,_⟩:=HD5.out.look
 obtain rfl:b5=false:=by rw [←HE5.out.1]
 clear hHeld;refine hK.out _ _ ((FS _ HY1.out)) fun hHeld=>?_
 clear hK K
 try simp only [Act.put,zS,eZ,eS]
 refine rdy 48 rfl fun K hK=>?_
 go_simp
 refine (one_eq (HD14.out.below HY1.out) HD5.out rfl rfl ⟨rfl,rfl,rfl,rfl⟩ ⟨rfl,rfl⟩ rfl (by decide)).mono ?_
 rintro e v2 ⟨rfl,hb⟩
 have HY2:=hid (HY1.out.trans (hb.mono HY1.out.size))
 clear hb
 clear hHeld;refine hK.out _ _ ((FS _ HY2.out)) fun hHeld=>?_
 clear hK K
 try simp only [Act.put,zS,eZ,eS]
 refine tkI 49 rfl hHeld ?_
 try simp only [Act.put,zS,eZ,eS]
 refine tkI 50 rfl hHeld ?_
 try simp only [Act.put,zS,eZ,eS]
 refine tkI 51 rfl hHeld ?_
 try simp only [Act.put,zS,eZ,eS]
 refine rdy 52 rfl fun K hK=>?_
 have kf:=failed_any (HS14.out.below HY2.out)
 have hd1:decide (0<S5.e)=false:=rfl
 rw [hd1] at kf
 clear hd1
 go_simp
 refine kf.mono ?_
 clear kf
 rintro e wt ⟨rfl,hwt⟩
 rw [hwt]
 clear hwt wt
 clear hHeld;refine hK.out _ _ ((FS _ HY2.out)) fun hHeld=>?_
 clear hK K
 try simp only [Act.put,zS,eZ,eS]
 refine tkI 53 rfl hHeld ?_
 try simp only [Act.put,zS,eZ,eS]
 refine tkI 54 rfl hHeld ?_
 try simp only [Act.put,zS,eZ,eS]
 refine tkI 55 rfl hHeld ?_
 try simp only [Act.put,zS,eZ,eS]
 refine wpAnyH_done (by kernel_rfl) ?_ _
 go_wp2
 go_ret
 exact ⟨rfl,HB14.out.trans (HY2.out.mono HB14.out.size)⟩
end Go.Proofs.YtghnfnieppfhgaaGreat
