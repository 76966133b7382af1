/- What is proved here: lent; Push, Pop, Failed of the reference store. What is proved here: Lent of the reference store. What is proved here: what happened, as the reference keeps it: tell. What is proved here: what happened to a domain, as the reference says it: why. What is proved here: Events of the reference store. What is proved here: what happened: the reference's list against the store's. What is proved here: two lists of what happened that are alike. What is proved here: New of the reference store. -/
import Derived.Test.YtghnfnieppfhgaaGreatAa
import Derived.Test.YtghnfnieppfhgaaGreatMmj
import Derived.Test.YtghnfnieppfhgaaGreatCaj
import Derived.Test.YtghnfnieppfhgaaGreatFdj
import Derived.Test.YtghnfnieppfhgaaGreatKgj
import Derived.Test.YtghnfnieppfhgaaGreatMbj
import Derived.Test.YtghnfnieppfhgaaGreatKaj
import Derived.Test.YtghnfnieppfhgaaGreatMgj
set_option linter.unusedVariables false
set_option linter.unusedSimpArgs false
set_option maxRecDepth 100000
set_option maxHeartbeats 4000000
namespace Go.Proofs.YtghnfnieppfhgaaGreat
open Go.RowKit Go.Shelf
theorem lents_x {W:World} {p1:Option Addr} {n1 k1:Nat} {D:List MD} (h:Ds W (.slice p1 n1 k1) D) (hz:∀ d∈D,SzD d) (hl:D.length*96≤140737488351232) :
  Calls Tryz.prog 28 #[.slice p1 n1 k1] W fun e w'=>∃ v vs,e = .returned v∧LX (fun b=>b<W.heap.size) W.heap.size w' v D vs∧Below W.heap.size W w':=by
 have e1:D.length=n1:=by obtain ⟨a,c,e,_⟩:=h;injection e with _ e2 _;exact e2.symm
 obtain ⟨N,hN⟩:∃ N,W.heap.size=N:=⟨_,rfl⟩
 have HA:Hid (∀ w,Below N W w→Ds w (.slice p1 n1 k1) D):=fun w hb=>h.below (by rw [hN];exact hb)
 have HZ:Hid (∀ d∈D,SzD d):=hz
 have HL:Hid (D.length=n1):=e1
 have HN:Hid (W.heap.size=N):=hN
 rw [e1] at hl
 rw [hN]
 clear h hz e1 hN
 go_enter Tryz.func28,Tryz.ntmps28
 go_wp2
 go_loopw [3,4] (fun v i wr=>∃ (k:Nat) (vs:List (List Value)),i = .int .i64 (k:Int)∧k≤n1∧Hid (LX (fun b=>b<N) N wr v (D.take k) vs)∧Hid (Below N W wr)) (fun _ i _=>n1-(intOf i).toNat)
 case atStart=>exact ⟨0,[],rfl,Nat.zero_le _,⟨rfl,⟨fun _ h=>by simp at h,by simpa using World.ownsRow_nil _ _ _ _⟩,fun i c d h _=>by simp at h,fun g hg=>by simp [Value.ownBlock] at hg⟩,Below.refl _ _⟩
 case round =>
  obtain ⟨k,vs,rfl,hk,HLD,HB⟩:=hrel
  obtain ⟨sa,sc,rfl,_,_⟩:=HLD.out.r.shape
  have hvl:vs.length=k:=by rw [HLD.out.n,List.length_take,HL.out];omega
  rw [hvl] at HLD ⊢
  by_cases hlt:k<n1
  ·have hlt':(k:Int)<(n1:Int):=by omega
   have hwk:IntKind.i64.wrap ((k:Int)+1)=(k:Int)+1:=by rw [IntKind.wrap_i64];omega
   obtain ⟨d,hd⟩:∃ d,D[k]? = some d:=⟨_,List.getElem?_eq_getElem (by rw [HL.out];exact hlt)⟩
   obtain ⟨b1,off1,rfl,hb1,_,c0,c1,c2,c3,c4,c5,hDc,i0,i1,i2,i3,i4,i5⟩:=(HA.out wr HB.out).at hd
   have kl:=lent_u hDc (HZ.out d (List.mem_of_getElem? hd))
   have HDD:Hid (D[k]? = some d):=hd
   have hone:=hDc.one
   have HVL:Hid (vs.length=k):=hvl
   clear hd hb1 hDc hvl
   go_wp2_with fail
   refine kl.mono ?_
   clear kl i0 i1 i2 i3 i4 i5 hone
   rintro e w1 ⟨q,rfl,hq,hb1⟩
   have hDq:=hq (fun b=>(Value.slice sa k sc).ownBlock=some b∨b<N) (fun b hb=>hb.elim (fun hb=>HLD.out.r.lt (by rw [HVL.out] at *;exact hb)) (fun hb=>by have:=HB.out.size;rw [HN.out] at this;omega))
   obtain ⟨f0,f1,f2,f3,f4,f5,rfl⟩:=list6 hDq.len
   have HSZ:Hid (N≤wr.heap.size):=by have:=HB.out.size;rw [HN.out] at this;exact this
   have HB1:Hid (Below N W w1):=HB.out.trans (hb1.mono HSZ.out)
   have HLD1:Hid (LX (fun b=>b<N) N w1 (.slice sa k sc) (D.take k) vs):=HLD.out.below hb1
   have hq1:=hDq.one
   obtain ⟨M,hM⟩:∃ x,w1.heap.size=x:=⟨_,rfl⟩
   obtain ⟨w2,hw2⟩:∃ x,w1.alloc (Obj.cells #[f0,f1,f2,f3,f4,f5] 37)=x:=⟨_,rfl⟩
   have hb2:Below w1.heap.size w1 w2:=by rw [←hw2];exact (Below.refl _ _).alloc (Nat.le_refl _) _
   have HBX:Hid (Bx w2 M #[f0,f1,f2,f3,f4,f5] 37):=by rw [←hw2];exact Bx.new' hM _ _
   have HLD2:Hid (LX (fun b=>b<N) N w2 (.slice sa k sc) (D.take k) vs):=HLD1.out.below hb2
   have HDq:Hid (Du (fun b=>(Value.slice sa k sc).ownBlock=some b∨b<N) w2 [f0,f1,f2,f3,f4,f5] d):=hDq.below hb2
   have HB2:Hid (Below N W w2):=HB1.out.trans (hb2.mono (by have:=HB1.out.size;rw [HN.out] at this;exact this))
   have HW2:Hid _:=hw2
   have HOW:Hid (w2.ownsRow 0 37 6 (.slice sa k sc) k vs.flatten):=by have:=HLD2.out.r.2;rw [HVL.out] at this;exact this
   have HQ1:Hid _:=hq1
   clear hw2 hb2 hDq hq hb1 hq1
   go_wp2_with (at_builtin;rw [HW2.out];refine list_dom HVL.out HLD2.out.r.1 HOW.out rfl _ _ rfl rfl ⟨M,0,none⟩ 1 (by first | rfl | (rw [←hM];rfl)) [f0,f1,f2,f3,f4,f5] rfl (fun j u hu=>by rw [Addr.add_lit,Nat.zero_add];exact (HBX.out.cell j).trans (by simpa using hu)) HQ1.out (by omega) ?_;intro v' w3 hown' hgrow hnew;obtain ⟨gn,capn,rfl⟩:=ownsRow_succ hown')
   go_roundw
   case rel =>
    have hlt2:∀ g,(Value.slice sa k sc).ownBlock=some g→g<w2.heap.size:=fun g hg=>HLD2.out.r.lt (by rw [HVL.out] at *;exact hg)
    have key:∀ c' d',Du (fun b=>(Value.slice sa k sc).ownBlock=some b∨b<N) w2 c' d'→Du (fun b=>(Value.slice (some ⟨gn,0,none⟩) (k+1) capn).ownBlock=some b∨b<N) w3 c' d':=fun c' d' hdc =>
     hdc.go ⟨hgrow.os,hgrow.tape,hgrow.output,hgrow.size,fun b hb hn=>hgrow.block b hb (fun e=>hn (.inl e.symm))⟩ (fun b hb=>hb.elim (fun hb=>(hnew b hb).imp .inl id) (fun hb=>.inl (.inr hb)))
    refine ⟨k+1,vs++[[f0,f1,f2,f3,f4,f5]],by go_num,by omega,⟨?_,⟨?_,?_⟩,?_,?_⟩,?_⟩
    ·rw [List.length_append,HVL.out,List.length_take,HL.out];simp;omega
    ·intro c' hc'
     rcases List.mem_append.1 hc' with h | h
     ·exact HLD2.out.r.1 c' h
     ·rw [List.mem_singleton.1 h];rfl
    ·have:(vs++[[f0,f1,f2,f3,f4,f5]]).length=k+1:=by rw [List.length_append,HVL.out];rfl
     rw [this];exact hown'
    ·intro i c' d' hc' hd'
     rcases Nat.lt_or_ge i k with q1 | q1
     ·rw [List.getElem?_append_left (by rw [HVL.out];exact q1)] at hc'
      rw [List.getElem?_take,if_pos (by omega)] at hd'
      exact key _ _ (HLD2.out.u i c' d' hc' (by rw [List.getElem?_take,if_pos q1];exact hd'))
     ·have hi:i<k+1:=by have:=(List.getElem?_eq_some_iff.1 hc').1;rw [List.length_append,HVL.out] at this;simpa using this
      obtain rfl:i=k:=by omega
      rw [List.getElem?_append_right (by rw [HVL.out];exact Nat.le_refl _),HVL.out,Nat.sub_self] at hc'
      rw [List.getElem?_take,if_pos (by omega),HDD.out] at hd'
      injection hc' with hc'
      injection hd' with hd'
      subst hc' hd'
      exact key _ _ HDq.out
    ·intro g hg
     rcases hnew g hg with q1 | q1
     ·exact HLD2.out.b g q1
     ·have:=HB2.out.size;rw [HN.out] at this;omega
    ·exact HB2.out.grown hgrow (by have:=HB2.out.size;rw [HN.out] at this;exact this) (fun g hg=>HLD2.out.b g hg)
   case measure=>simp [intOf];omega
  ·have hlt':¬(k:Int)<(n1:Int):=by omega
   obtain rfl:k=n1:=by omega
   have hfull:D.take k=D:=List.take_of_length_le (by rw [HL.out];exact Nat.le_refl _)
   rw [hfull] at HLD
   clear hfull hvl
   go_wp2
   go_ret
   exact ⟨_,rfl,⟨vs,HLD.out⟩,HB.out⟩
theorem Dw.ds {Z:Nat→Prop} {w:World} {s:Value} {L:List MD} (h:Dw Z w s L) (hZ:∀ b,s.ownBlock=some b→Z b):Ds w s L:=by
 obtain ⟨cs,h1,h2⟩:=h
 exact LD.ds (N:=0) (vs:=cs) ⟨h2.1,h1,fun i c d q1 q2=>(h2.2 i c d q1 q2).up (fun b hb=>.inl (hZ b hb)),fun _ _=>Nat.zero_le _⟩
theorem Rs.ds {A:Nat→Prop} {w:World} {r:Nat} {D:List MD} {O:List (List MD)} {E:List (Int × Int)} {rl:Rl} (h:Rs A w r D O E rl):Ds w rl.dv D:=h.d.ds fun b q=>.inl (.inr (.inr (.inr (.inl q))))
theorem Tryz.infoDoms:(Tryz.prog.info? 22).map (fun i=>(i.zero,i.size,i.bytes))=some (some (.slice none 0 0),1,24):=by kernel_rfl
theorem rpush_any {A:Nat→Prop} {W:World} {r:Nat} {D:List MD} {O:List (List MD)} {E:List (Int × Int)} {rl:Rl} (h:Rs A W r D O E rl) (hz:∀ d∈D,SzD d) (hn:D.length≤1000) (ho:O.length≤1000000) :
  Calls Tryz.prog 37 #[ptr r] W fun e w'=>e = .returned (.tuple #[])∧∃ rl',Rs A w' r D (O++[D]) E rl'∧Up (RX r rl) (RX r rl') W∧Kept (RX r rl) W w':=by
 obtain ⟨n,m,q,da,dc,oa,oc,ea,ec,os,rfl,HL⟩:=h.look
 have HW:Hid (Rs A W r D O E ⟨.slice da n dc,.slice oa m oc,.slice ea q ec,os⟩):=h
 have HR0:Hid (Rs A W.drew r D O E ⟨.slice da n dc,.slice oa m oc,.slice ea q ec,os⟩):=h.below (Below.refl _ _).drew
 have HOL:Hid (os.length≤100000000):=by rw [Hid];have:=h.ol;simp only at this;omega
 have hds:Ds W.drew (.slice da n dc) D:=HR0.out.ds
 have KL:Hid (Calls Tryz.prog 28 #[.slice da n dc] W.drew fun e w'=>∃ v vs,e = .returned v∧LX (fun b=>b<W.heap.size) W.heap.size w' v D vs∧Below W.heap.size W w'):=(lents_x hds hz (by omega)).mono fun e w' ⟨v,vs,q1,q2,q3⟩=>⟨v,vs,q1,q2,((Below.refl _ W).drew).trans q3⟩
 have hS0:W.cell? ⟨r,0,none⟩=some (.slice da n dc):=h.cells.1
 clear h hz hn ho hds
 go_enter Tryz.func37,Tryz.ntmps37
 go_upto_region 0 with (fail)
 refine wp_region_held_drew (S:=fun X:World=>X.cell? ⟨r,0,none⟩=some (.slice da n dc)) (by kernel_rfl) (hS0) (fun hHeld=>?_)
 refine tkI 0 rfl hHeld ?_
 try simp only [Act.put,zS,eZ,eS]
 refine tkI 1 rfl hHeld ?_
 try simp only [Act.put,zS,eZ,eS]
 refine tkI 2 rfl hHeld ?_
 try simp only [Act.put,zS,eZ,eS]
 refine tkI 3 rfl hHeld ?_
 try simp only [Act.put,zS,eZ,eS]
 refine tkI 5 rfl hHeld ?_
 try simp only [Act.put,zS,eZ,eS]
 refine tkI 6 rfl hHeld ?_
 try simp only [Act.put,zS,eZ,eS]
 refine tkI 7 rfl hHeld ?_
 try simp only [Act.put,zS,eZ,eS]
 refine tkI 8 rfl hHeld ?_
 try simp only [Act.put,zS,eZ,eS]
 have HR2:=HR0
 have HB2:Hid (Below W.heap.size W W.drew):=(Below.refl _ _).drew
 clear HR0
 generalize W.drew=vv at *
 refine rd2 4 9 (fun K hK=>?_) (fun K hK=>?_)
 focus
  have z1:World.cell? _ ⟨r,1,none⟩=some (.slice oa m oc):=(HR2.out.cells).2.1;go_simp;clear z1;clear hHeld;refine hK.out _ _ (HR2.out.cells.1) fun hHeld=>?_;clear hK K;try simp only [Act.put,zS,eZ,eS]
  refine rd1 9 fun K hK=>?_
  go_simp;refine KL.out.mono ?_;rintro e w1 ⟨v,vs,rfl,hlx,hb1⟩;obtain ⟨va,vq,vc,rfl,HQV,_⟩:=hlx.r.look;have HLX:Hid (LX (fun b=>b<W.heap.size) W.heap.size w1 (.slice va vq vc) D vs):=hlx;replace HB2:Hid (Below W.heap.size W w1):=hb1;replace HR2:Hid (Rs A w1 r D O E ⟨.slice da n dc,.slice oa m oc,.slice ea q ec,os⟩):=HW.out.below hb1;clear hlx hb1;clear hHeld;refine hK.out _ _ (HR2.out.cells.1) fun hHeld=>?_;clear hK K;try simp only [Act.put,zS,eZ,eS]
  refine rd1 10 fun K hK=>?_
  obtain ⟨bs,hbs⟩:∃ q,w1.heap.size=q:=⟨_,rfl⟩;go_simp;(try rw [hbs]);obtain ⟨w2,hw2⟩:∃ q,w1.alloc (Obj.cells #[.slice va vq vc] 22)=q:=⟨_,rfl⟩;rw [hw2];have hbel:Below w1.heap.size w1 w2:=(by rw [←hw2];exact (Below.refl _ _).alloc (Nat.le_refl _) _);have HBS:Hid (Bx w2 bs #[.slice va vq vc] 22):=(by rw [←hw2];exact Bx.new' hbs _ _);replace HB2:=hid (HB2.out.trans (hbel.mono HB2.out.size));have HLX2:=hid (HLX.out.below hbel);replace HR2:=hid (HR2.out.below hbel);clear hw2 hbs hbel;clear hHeld;refine hK.out _ _ (HR2.out.cells.1) fun hHeld=>?_;clear hK K;try simp only [Act.put,zS,eZ,eS]
 rotate_left 1
 focus
  go_simp;refine KL.out.mono ?_;rintro e w1 ⟨v,vs,rfl,hlx,hb1⟩;obtain ⟨va,vq,vc,rfl,HQV,_⟩:=hlx.r.look;have HLX:Hid (LX (fun b=>b<W.heap.size) W.heap.size w1 (.slice va vq vc) D vs):=hlx;replace HB2:Hid (Below W.heap.size W w1):=hb1;replace HR2:Hid (Rs A w1 r D O E ⟨.slice da n dc,.slice oa m oc,.slice ea q ec,os⟩):=HW.out.below hb1;clear hlx hb1;clear hHeld;refine hK.out _ _ (HR2.out.cells.1) fun hHeld=>?_;clear hK K;try simp only [Act.put,zS,eZ,eS]
  refine rd2 4 10 (fun K hK=>?_) (fun K hK=>?_)
  focus
   have z1:World.cell? _ ⟨r,1,none⟩=some (.slice oa m oc):=(HR2.out.cells).2.1;go_simp;clear z1;clear hHeld;refine hK.out _ _ (HR2.out.cells.1) fun hHeld=>?_;clear hK K;try simp only [Act.put,zS,eZ,eS]
   refine rd1 10 fun K hK=>?_
   obtain ⟨bs,hbs⟩:∃ q,w1.heap.size=q:=⟨_,rfl⟩;go_simp;(try rw [hbs]);obtain ⟨w2,hw2⟩:∃ q,w1.alloc (Obj.cells #[.slice va vq vc] 22)=q:=⟨_,rfl⟩;rw [hw2];have hbel:Below w1.heap.size w1 w2:=(by rw [←hw2];exact (Below.refl _ _).alloc (Nat.le_refl _) _);have HBS:Hid (Bx w2 bs #[.slice va vq vc] 22):=(by rw [←hw2];exact Bx.new' hbs _ _);replace HB2:=hid (HB2.out.trans (hbel.mono HB2.out.size));have HLX2:=hid (HLX.out.below hbel);replace HR2:=hid (HR2.out.below hbel);clear hw2 hbs hbel;clear hHeld;refine hK.out _ _ (HR2.out.cells.1) fun hHeld=>?_;clear hK K;try simp only [Act.put,zS,eZ,eS]
  rotate_left 1
  focus
   obtain ⟨bs,hbs⟩:∃ q,w1.heap.size=q:=⟨_,rfl⟩;go_simp;(try rw [hbs]);obtain ⟨w2,hw2⟩:∃ q,w1.alloc (Obj.cells #[.slice va vq vc] 22)=q:=⟨_,rfl⟩;rw [hw2];have hbel:Below w1.heap.size w1 w2:=(by rw [←hw2];exact (Below.refl _ _).alloc (Nat.le_refl _) _);have HBS:Hid (Bx w2 bs #[.slice va vq vc] 22):=(by rw [←hw2];exact Bx.new' hbs _ _);replace HB2:=hid (HB2.out.trans (hbel.mono HB2.out.size));have HLX2:=hid (HLX.out.below hbel);replace HR2:=hid (HR2.out.below hbel);clear hw2 hbs hbel;clear hHeld;refine hK.out _ _ (HR2.out.cells.1) fun hHeld=>?_;clear hK K;try simp only [Act.put,zS,eZ,eS]
   refine rd1 4 fun K hK=>?_
   have z1:World.cell? _ ⟨r,1,none⟩=some (.slice oa m oc):=(HR2.out.cells).2.1;go_simp;clear z1;clear hHeld;refine hK.out _ _ (HR2.out.cells.1) fun hHeld=>?_;clear hK K;try simp only [Act.put,zS,eZ,eS]
 all_goals
  refine rdy 11 rfl fun K hK=>?_
  refine step_app HR2.out.ov 71 Tryz.underlying71 Tryz.infoDoms rfl (by decide) rfl _ _ rfl rfl ⟨bs,0,none⟩ 1 (by with_unfolding_all rfl) [.slice va vq vc] rfl (fun j u hu=>by rw [Addr.add_mid,Nat.zero_add,HBS.out.cell j];simpa using hu) (by intro u hu;simp at hu;subst hu;rfl) (by rw [List.length_map];exact HOL.out) (by decide) ?_
  intro d1 wa hr1 hg1 hn1
  obtain ⟨p1,q1,cc1,rfl,HQ1,_⟩:=hr1.look
  have HRA:Hid _:=hr1
  have HG1:Hid _:=hg1
  have HN1:Hid _:=hn1
  clear hr1 hg1 hn1
  have HPA:Hid (wa.heap[r]? = _):=(HG1.out.block r HR2.out.r_lt (fun e=>HR2.out.ov.nep HR2.out.blk (by decide) e.symm)).trans HR2.out.blk
  clear hHeld;refine hK.out _ _ (cell_of_row _ r 0 _ _ _ HPA.out) fun hHeld=>?_
  clear hK K
  try simp only [Act.put,zS,eZ,eS]
  refine tkI 12 rfl hHeld ?_
  try simp only [Act.put,zS,eZ,eS]
  refine tkI 13 rfl hHeld ?_
  try simp only [Act.put,zS,eZ,eS]
  refine rdy 14 rfl fun K hK=>?_
  have z3:wa.cell? ⟨r,1,none⟩=some (.slice oa m oc):=cell_of_row _ r 1 _ _ _ HPA.out
  have zf:wa.frozen? ⟨r,1,none⟩=false:=by have:=HPA.out;simp [World.frozen?,this]
  go_simp
  clear z3 zf
  clear hHeld;refine hK.out _ _ (by rw [World.cell?_setCell_other _ _ _ _ (by simp)];exact cell_of_row _ r 0 _ _ _ HPA.out) fun hHeld=>?_
  clear hK K
  try simp only [Act.put,zS,eZ,eS]
  refine wpAnyH_done (by kernel_rfl) ?_ _
  obtain ⟨f1,f2,f3⟩:=HW.out.push HB2.out HLX2.out HG1.out HRA.out HN1.out
  exact ⟨rfl,_,results_none rfl _ _ _,rfl,_,f1,f2,f3⟩
theorem rpop_any {A:Nat→Prop} {W:World} {r:Nat} {D L:List MD} {O:List (List MD)} {E:List (Int × Int)} {rl:Rl} (h:Rs A W r D (O++[L]) E rl) (ho:O.length≤1000000) :
  Calls Tryz.prog 38 #[ptr r] W fun e w'=>e = .returned (.int .i64 0)∧∃ rl',Rs A w' r L O [] rl'∧Up (RX r rl) (RX r rl') W∧Kept (RX r rl) W w':=by
 obtain ⟨n,m1,q,da,dc,oa,oc,ea,ec,os1,rfl,HL⟩:=h.look
 have hol:=h.ol
 simp only [List.length_append,List.length_cons,List.length_nil] at hol
 obtain ⟨os,v,rfl⟩:∃ os v,os1=os++[v]:=⟨os1.dropLast,os1.getLast (by intro e;rw [e] at hol;simp at hol),(List.dropLast_concat_getLast _).symm⟩
 obtain ⟨m,hm⟩:∃ m,O.length=m:=⟨_,rfl⟩
 obtain rfl:m1=m+1:=by rw [←HL.out.2.1,←hm];simp
 have hlo:os.length=m:=by rw [←hm];simp at hol;omega
 obtain ⟨g,cap,e1,_,l2,_,hr,_⟩:=h.ov.at (i:=m) (c:=[v]) (by rw [List.map_append,List.getElem?_append_right (by simp;omega)];simp [hlo])
 injection e1 with e1 e2 e3
 subst e1
 clear e2 e3 l2
 have c3:W.cell? ⟨g,m,none⟩=some v:=by have:=hr 0 v rfl;simpa using this
 obtain ⟨va,vn,vc,rfl⟩:∃ a n c,v = .slice a n c:=by
  obtain ⟨L',_,hL⟩:=h.o_of (s:=v) (by simp)
  obtain ⟨a,c,e⟩:=hL.len
  exact ⟨a,_,c,e⟩
 have hgr:g≠r:=fun e=>h.ov.nep h.blk (by decide) (by rw [←e];rfl)
 obtain ⟨z0,z1,z2,zf⟩:=h.cells
 have hf0:=zf 0
 have hf1:=zf 1
 have hf2:=zf 2
 simp only at z0 z1 z2
 have HP:=hid (h.pop hm)
 have hmi:(m:Int)≤1000000:=by omega
 have hw1:IntKind.i64.wrap (((m+1:Nat):Int)-1)=(m:Int):=by rw [IntKind.wrap_i64];push_cast;omega
 have hoc:(m:Int)+1≤(oc:Int):=by have:=HL.out.2.2.2.1;omega
 have hne:(((m+1:Nat):Int)==0)=false:=by simp;omega
 clear h hol ho hr zf HL
 go_enter Tryz.func38,Tryz.ntmps38
 go_wp2_with fail
 go_ret
 exact ⟨rfl,_,HP.out⟩
theorem rpop_no {A:Nat→Prop} {W:World} {r:Nat} {D:List MD} {E:List (Int × Int)} {rl:Rl} (h:Rs A W r D [] E rl) :
  Calls Tryz.prog 38 #[ptr r] W fun e w'=>e = .returned (.int .i64 6)∧w'=W:=by
 obtain ⟨n,m1,q,da,dc,oa,oc,ea,ec,os1,rfl,HL⟩:=h.look
 obtain ⟨z0,z1,z2,zf⟩:=h.cells
 obtain rfl:m1=0:=by rw [←HL.out.2.1];rfl
 simp only at z0 z1 z2
 clear h zf HL
 go_enter Tryz.func38,Tryz.ntmps38
 go_wp2_with fail
 go_ret
 exact ⟨rfl,rfl⟩
theorem rfailed_any {A:Nat→Prop} {W:World} {r:Nat} {D:List MD} {O:List (List MD)} {E:List (Int × Int)} {rl:Rl} (h:Rs A W r D O E rl) (hn:D.length≤1000) :
  Calls Tryz.prog 44 #[ptr r] W fun e w'=>e = .returned (.bool (D.any reM))∧Below W.heap.size W w':=by
 obtain ⟨n,m,q,da,dc,oa,oc,ea,ec,os,rfl,HL⟩:=h.look
 have HR:Hid (∀ w,Below W.heap.size W w→Rs A w r D O E ⟨.slice da n dc,.slice oa m oc,.slice ea q ec,os⟩):=fun w hb=>h.below hb
 have HD:Hid (∀ w,Below W.heap.size W w→Ds w (.slice da n dc) D):=fun w hb=>(h.below hb).ds
 have HN:Hid (D.length=n):=HL.out.1
 have hn':(n:Int)≤1000:=by have:=HN.out;omega
 clear h hn HL
 go_enter Tryz.func44,Tryz.ntmps44
 go_wp2
 go_loopw [3] (fun i wr=>∃ k:Nat,i = .int .i64 (k:Int)∧k≤n∧Hid (∀ (j:Nat) d,j<k→D[j]? = some d→reM d=false)∧Hid (Below W.heap.size W wr)) (fun i _=>n-(intOf i).toNat)
 case atStart=>exact ⟨0,rfl,Nat.zero_le _,(fun j d hj _=>by omega),Below.refl _ _⟩
 case round =>
  obtain ⟨k,rfl,hk,HF,HB⟩:=hrel
  obtain ⟨z0,z1,z2,zf⟩:=(HR.out wr HB.out).cells
  simp only at z0 z1 z2
  clear zf
  have hki:(k:Int)≤1000:=by omega
  by_cases hlt:k<n
  ·have hlt':(k:Int)<(n:Int):=by omega
   have hwk:IntKind.i64.wrap ((k:Int)+1)=(k:Int)+1:=by rw [IntKind.wrap_i64];omega
   obtain ⟨d,hd⟩:∃ d,D[k]? = some d:=⟨_,List.getElem?_eq_getElem (by rw [HN.out];exact hlt)⟩
   obtain ⟨b1,off1,rfl,hb1,_,c0,c1,c2,c3,c4,c5,hDc,i0,i1,i2,i3,i4,i5⟩:=(HD.out wr HB.out).at hd
   have ke:=rempty_d hDc
   have HDD:Hid (D[k]? = some d):=hd
   clear hd hDc hb1
   go_wp2_with fail
   refine ke.mono ?_
   clear ke i0 i1 i2 i3 i4 i5 z0 z1 z2
   rintro e w1 ⟨rfl,hb1⟩
   have HB1:Hid (Below W.heap.size W w1):=HB.out.trans (hb1.mono HB.out.size)
   clear hb1
   cases he:reM d
   ·go_wp2
    go_roundw
    case rel=>exact ⟨k+1,by go_num,by omega,(fun j d' hj hd'=>by
     rcases Nat.lt_succ_iff_lt_or_eq.1 hj with q | q
     ·exact HF.out j d' q hd'
     ·subst q;rw [HDD.out] at hd';injection hd' with hd';rw [←hd'];exact he),HB1⟩
    case measure=>simp [intOf];omega
   ·go_wp2
    go_ret
    refine ⟨?_,HB1.out⟩
    have:D.any reM=true:=List.any_eq_true.2 ⟨d,List.mem_of_getElem? HDD.out,he⟩
    rw [this]
    rfl
  ·go_wp2
   go_ret
   refine ⟨?_,HB.out⟩
   have:D.any reM=false:=by
    rw [Bool.eq_false_iff]
    intro hc
    obtain ⟨d,hd,he⟩:=List.any_eq_true.1 hc
    obtain ⟨j,hj⟩:=List.mem_iff_getElem?.1 hd
    have:=HF.out j d (by have:=(List.getElem?_eq_some_iff.1 hj).1;have:=HN.out;omega) hj
    rw [this] at he
    cases he
   rw [this]
   rfl
theorem lent7_x {W:World} {p1:Option Addr} {n1 k1:Nat} {D:List MD} (h:Ds W (.slice p1 n1 k1) D) (hz:∀ d∈D,SzD d) (hl:D.length*96≤140737488351232) :
  Calls Tryz.prog 7 #[.slice p1 n1 k1] W fun e w'=>∃ v vs,e = .returned v∧LX (fun b=>b<W.heap.size) W.heap.size w' v D vs∧Below W.heap.size W w':=by
 have kl:=lents_x h hz hl
 clear h hz hl
 go_enter Tryz.func7,Tryz.ntmps7
 go_wp2_with fail
 refine kl.mono ?_
 clear kl
 rintro e w1 ⟨v,vs,rfl,hx,hb⟩
 have HX:Hid (LX (fun b=>b<W.heap.size) W.heap.size w1 v D vs∧Below W.heap.size W w1):=⟨hx,hb⟩
 clear hx hb
 go_wp2
 go_ret
 exact ⟨v,vs,rfl,HX.out⟩
theorem own_zero {w:World} {N e k:Nat} {v:Value} {n:Nat} {xs:List Value} (h:w.ownsRow N e k v n xs):w.ownsRow 0 e k v n xs∧∀ b,v.ownBlock=some b→N≤b:=by
 obtain ⟨h1,h2⟩:=h
 rcases h2 with ⟨rfl,h3⟩ | ⟨g,cap,cur,rfl,hb,h3⟩
 ·exact ⟨⟨h1,.inl ⟨rfl,h3⟩⟩,fun b q=>by cases q⟩
 ·exact ⟨⟨h1,.inr ⟨g,cap,cur,rfl,Nat.zero_le _,h3⟩⟩,fun b q=>by injection q with q;rw [←q];exact hb⟩
theorem Tryz.infoEv:(Tryz.prog.info? 99).map (fun i=>(i.zero,i.size,i.bytes))=some (some (.agg #[.int .i64 0,.int .i64 0]),2,16):=by kernel_rfl
theorem list_appN {w:World} {N:Nat} {s:Value} {n:Nat} {xs:List Value} (h:w.ownsRow N 99 2 s n xs) {ops:Array Oper} {rest:List Oper} {o:Oper} {a:Act} {Q:Exit→Act→World→Prop} (hgd:o.guard=none) (so xo:Operand) (ho:o.op = .call { callee:=.builtin .append,args:=#[so,xo],argTypes:=#[72,72] }) (hs:a.eval so=s) (x:Value) (hx:a.eval xo=x) (m:Nat) (news:List Value)
  (hsrc:(x = .slice none 0 0∧m=0∧news=[])∨∃ ad c,x = .slice (some ad) m c∧news.length=m*2∧∀ j u,news[j]? = some u→w.cell? (ad.add j)=some u) (h1:∀ u∈news,u.oneCell'=true) (hb:n+m≤1000000) (hN:N≤w.heap.size)
  (hK:∀ v' w',w'.ownsRow N 99 2 v' (n+m) (xs++news)→w.grownBy w' s.ownBlock→wpList Tryz.prog ops Q rest (a.put o.dst v') w'):wpList Tryz.prog ops Q (o :: rest) a w :=
 wpList_plain hgd fun _ hK'=>by
  obtain ⟨i0,hi0,hz0,hz1,hz2⟩:=info_parts Tryz.infoEv
  rcases hsrc with ⟨rfl,rfl,rfl⟩ | ⟨ad,c,rfl,hl,hc⟩
  ·have hr:=run_append_owned_none (P:=Tryz.prog) (w:=w) N 72 o.type 99 i0 2 Tryz.underlying72 hi0 s n xs h
   unfold Oper.wp execOp
   simp only [ho,resolve,invoke,builtin,Sem.run_bind,Sem.run_pure,Result.andThen_ok,List.map_toArray,List.map_cons,List.map_nil,hs,hx,hr]
   exact hK' _ _ (hK s w (by simpa using h) (grown_refl _ _))
  ·obtain ⟨v',w',hr,h2,h3,_⟩:=run_append_own (P:=Tryz.prog) w N 72 o.type 99 i0 _ 2 16 Tryz.underlying72 hi0 hz0 hz1 hz2 rfl (by decide) s n xs h ad m c news hl hc h1 (by unfold maxLen;omega) (by omega) hN
   unfold Oper.wp execOp
   simp only [ho,resolve,invoke,builtin,Sem.run_bind,Sem.run_pure,Result.andThen_ok,List.map_toArray,List.map_cons,List.map_nil,hs,hx,hr]
   exact hK' _ _ (hK v' w' h2 h3)
def pos (E:List (Int × Int)) (v:Int):Nat:=(E.takeWhile fun e=>decide (e.1<v)).length
def tellE (E:List (Int × Int)) (v y:Int):List (Int × Int) :=
 match E[pos E v]? with
 | some e=>if e.1=v then (if y<e.2 then E.set (pos E v) (v,y) else E) else E.take (pos E v)++[(v,y)]++E.drop (pos E v)
 | none=>E++[(v,y)]
theorem pos_is:∀ {E:List (Int × Int)} {v:Int} {k:Nat},k≤E.length→(∀ (j:Nat) e,j<k→E[j]? = some e→e.1<v)→(∀ e,E[k]? = some e→¬e.1<v)→pos E v=k
 | [],v,k,hk,_,_=>by simp at hk;subst hk;rfl
 | e :: E,v,0,_,_,h=>by
  have:=h e rfl
  unfold pos
  rw [List.takeWhile_cons,if_neg (by simpa using this)]
  rfl
 | e :: E,v,k+1,hk,h1,h2=>by
  have:=h1 0 e (by omega) rfl
  unfold pos
  rw [List.takeWhile_cons,if_pos (by simpa using this)]
  show (List.takeWhile _ E).length+1=k+1
  have ih:=pos_is (E:=E) (v:=v) (k:=k) (by simpa using hk) (fun j e hj he=>h1 (j+1) e (by omega) he) (fun e he=>h2 e he)
  unfold pos at ih
  rw [ih]
theorem evl_app (A B:List (Int × Int)):(evl (A++B)).flatten=(evl A).flatten++(evl B).flatten:=by simp [evl]
theorem evl_flat (E:List (Int × Int)):(evl E).flatten.length=E.length*2:=by
 induction E with
 | nil=>rfl
 | cons e E ih=>simp [evl] at ih ⊢;omega
theorem evl_one (E:List (Int × Int)):∀ u∈(evl E).flatten,u.oneCell'=true:=by
 intro u hu
 obtain ⟨c,hc,hu⟩:=List.mem_flatten.1 hu
 obtain ⟨e,_,rfl⟩:=List.mem_map.1 hc
 simp at hu
 rcases hu with rfl | rfl<;>rfl
theorem evl_drop (E:List (Int × Int)) (k:Nat):(evl (E.drop k)).flatten=(evl E).flatten.drop (k*2):=by
 induction E generalizing k with
 | nil=>simp [evl]
 | cons e E ih =>
  cases k with
  | zero=>simp
  | succ k =>
   have:=ih k
   have e2:(k+1)*2=k*2+1+1:=by omega
   rw [e2]
   simpa [evl] using this
theorem evl_take (E:List (Int × Int)) (k:Nat):(evl (E.take k)).flatten=(evl E).flatten.take (k*2):=by
 induction E generalizing k with
 | nil=>simp [evl]
 | cons e E ih =>
  cases k with
  | zero=>simp [evl]
  | succ k =>
   have:=ih k
   have e2:(k+1)*2=k*2+1+1:=by omega
   rw [e2]
   simpa [evl] using this
theorem Rs.evc {A:Nat→Prop} {w:World} {r:Nat} {D:List MD} {O:List (List MD)} {E:List (Int × Int)} {rl:Rl} (h:Rs A w r D O E rl):(rl.ev = .slice none 0 0∧E=[])∨∃ g cap,rl.ev = .slice (some ⟨g,0,none⟩) E.length cap∧E.length≤cap∧g<w.heap.size∧∀ (j:Nat) u,(evl E).flatten[j]? = some u→w.cell? ⟨g,j,none⟩=some u:=by
 rcases h.ev.2.2 with ⟨e1,e2⟩ | ⟨g,cap,cur,e1,_,e3,e4,e5,e6,e7⟩
 ·left
  refine ⟨e1,List.length_eq_zero_iff.1 ?_⟩
  rw [←evl_len];exact e2
 ·right
  rw [evl_len] at e1 e4 e7
  refine ⟨g,cap,e1,e4,(Array.getElem?_eq_some_iff.1 e3).1,fun j u hu=>?_⟩
  have hj:=(List.getElem?_eq_some_iff.1 hu).1
  rw [evl_flat] at hj
  rw [cell_of_row w g j _ _ _ e3,←hu,←e7,List.getElem?_take,if_pos hj]
  simp
theorem evl_at:∀ {E:List (Int × Int)} {k:Nat} {e:Int × Int},E[k]? = some e→(evl E).flatten[k*2]? = some (.int .i64 e.1)∧(evl E).flatten[k*2+1]? = some (.int .i64 e.2)
 | [],k,e,h=>by simp at h
 | a :: E,0,e,h=>by injection h with h;subst h;exact ⟨rfl,rfl⟩
 | a :: E,k+1,e,h=>by
  have:=evl_at (E:=E) (k:=k) (e:=e) h
  have e2:(k+1)*2=k*2+1+1:=by omega
  rw [e2]
  simpa [evl] using this
theorem list_store {ops:Array Oper} {rest:List Oper} {o:Oper} {a:Act} {w:World} {Q:Exit→Act→World→Prop} (hgd:o.guard=none) (ty:TypeId) (x y:Operand) (ho:o.op = .store ty x y) (b off:Nat) (c:List Value) (hx:a.eval x = .pointer (some ⟨b,off,none⟩)) (hy:a.eval y = .agg c.toArray)
  (ht:w.there b off c.length) (hi:(Tryz.prog.info? ty).map (·.size)=some c.length) (h1:∀ v∈c,v.oneCell'=true) (h:wpList Tryz.prog ops Q rest (a.put o.dst undef) (w.setCells b off c)):wpList Tryz.prog ops Q (o :: rest) a w :=
 wpList_plain hgd fun _ hK'=>wp_store_mid ty x y ho b off c.toArray hx hy (by simpa using ht) (by simpa using hi) (all_oneCell_toArray h1) (hK' _ _ (by simpa using h))
theorem Tryz.sizeEv:(Tryz.prog.info? 99).map (·.size)=some 2:=by kernel_rfl
theorem tell_at {E:List (Int × Int)} {v y:Int} {k:Nat} (hk:pos E v=k):(∀ e,E[k]? = some e→e.1=v→tellE E v y=if y<e.2 then E.set k (v,y) else E)∧((∀ e,E[k]? = some e→e.1≠v)→tellE E v y=E.take k++[(v,y)]++E.drop k):=by
 unfold tellE
 rw [hk]
 refine ⟨fun e he hv=>by rw [he];simp only [hv,if_true],fun h=>?_⟩
 cases he:E[k]? with
 | none =>
  have hl:E.length≤k:=List.getElem?_eq_none_iff.1 he
  simp [List.take_of_length_le hl,List.drop_of_length_le hl]
 | some e=>simp only [if_neg (h e he)]
theorem own_shape {w:World} {N e k:Nat} {v:Value} {n:Nat} {xs:List Value} (h:w.ownsRow N e k v n xs):∃ a q c,v = .slice a q c:=by
 rcases h.2 with ⟨rfl,_⟩ | ⟨g,cap,cur,rfl,_⟩
 ·exact ⟨_,_,_,rfl⟩
 ·exact ⟨_,_,_,rfl⟩
theorem own_row {w:World} {N e kk k:Nat} {v:Value} {xs:List Value} (h:w.ownsRow N e kk v (k+1) xs):∃ g c,v = .slice (some ⟨g,0,none⟩) (k+1) c∧((k:Int)+1≤(c:Int)):=by
 rcases h.2 with ⟨_,q⟩ | ⟨g,cap,cur,rfl,_,_,q,_⟩
 ·omega
 ·exact ⟨g,cap,rfl,by omega⟩
theorem own_below {w w':World} {N e k:Nat} {v:Value} {n:Nat} {xs:List Value} (h:w.ownsRow N e k v n xs) (hb:Below w.heap.size w w'):w'.ownsRow N e k v n xs:=by
 obtain ⟨h1,h2⟩:=h
 rcases h2 with ⟨rfl,h3⟩ | ⟨g,cap,cur,rfl,hbg,h3,h4⟩
 ·exact ⟨h1,.inl ⟨rfl,h3⟩⟩
 ·exact ⟨h1,.inr ⟨g,cap,cur,rfl,hbg,(hb.block g (Array.getElem?_eq_some_iff.1 h3).1).trans h3,h4⟩⟩
theorem rtell_nil {A:Nat→Prop} {W:World} {r:Nat} {D:List MD} {O:List (List MD)} {rl:Rl} (h:Rs A W r D O [] rl) (hev:rl.ev = .slice none 0 0) (v y:Int) :
  Calls Tryz.prog 71 #[ptr r,.int .i64 v,.int .i64 y] W fun e w'=>e = .returned (.tuple #[])∧∃ rl',Rs A w' r D O (tellE [] v y) rl'∧Up (RX r rl) (RX r rl') W∧Kept (RX r rl) W w':=by
 obtain ⟨E,hE⟩:∃ E:List (Int × Int),[]=E:=⟨_,rfl⟩
 rw [hE] at h ⊢
 obtain ⟨n,m,q,da,dc,oa,oc,ea,ec,os,rfl,HL⟩:=h.look
 simp only at hev
 injection hev with e1 e2 e3
 subst e1 e2 e3
 obtain ⟨k,hk⟩:∃ k,0=k:=⟨_,rfl⟩
 have HR:Hid (Rs A W r D O E ⟨.slice da n dc,.slice oa m oc,.slice none 0 0,os⟩):=h
 have HN0:Hid (W.ownsRow W.heap.size 99 2 (.slice none 0 0) 0 []):=World.ownsRow_nil _ _ _ _
 have HS1:Hid ((Value.slice none 0 0 = .slice none 0 0∧0=0∧(evl (E.take k)).flatten=[])∨∃ ad c,Value.slice none 0 0 = .slice (some ad) 0 c∧(evl (E.take k)).flatten.length=0*2∧∀ j u,(evl (E.take k)).flatten[j]? = some u→W.cell? (ad.add j)=some u):=.inl ⟨rfl,rfl,by rw [←hE];simp [evl]⟩
 have HSD:Hid (∀ w,Below W.heap.size W w→(Value.slice none 0 0 = .slice none 0 0∧0=0∧(evl (E.drop k)).flatten=[])∨∃ ad c,Value.slice none 0 0 = .slice (some ad) 0 c∧(evl (E.drop k)).flatten.length=0*2∧∀ j u,(evl (E.drop k)).flatten[j]? = some u→w.cell? (ad.add j)=some u):=fun w _=>.inl ⟨rfl,rfl,by rw [←hE];simp [evl]⟩
 have HTE:Hid (tellE E v y=E.take k++[(v,y)]++E.drop k):=by rw [Hid,←hE,←hk];rfl
 have hkl:E.length=0:=by rw [←hE];rfl
 have HKK:Hid (0=k):=hk
 obtain ⟨t0,t1,t2,tf⟩:=h.cells
 simp only at t0 t1 t2
 have hkb:k≤0:=by omega
 clear h tf HL hE hk
 go_enter Tryz.func71,Tryz.ntmps71
 go_wp2
 go_loopw [6] (fun i wr=>i = .int .i64 0∧W=wr) (fun _ _=>0)
 case atStart=>exact ⟨rfl,rfl⟩
 case round =>
  obtain ⟨rfl,rfl⟩:=hrel
  go_upto_region 8 with (fail)
  obtain ⟨S0,hS0⟩:∃ q,Value.slice none 0 0=q:=⟨_,rfl⟩
  rw [hS0] at HN0 ⊢
  obtain ⟨w1,hw1⟩:∃ q,W=q:=⟨_,rfl⟩
  have HB1:Hid (Below W.heap.size W w1):=by rw [←hw1];exact Below.refl _ _
  have HO1:Hid (w1.ownsRow W.heap.size 99 2 S0 k (evl (E.take k)).flatten):=by rw [←hw1,←HKK.out,Hid];simpa [evl] using HN0.out
  have HC1:=hid (HR.out.below HB1.out)
  have HWW:Hid (W=w1):=hw1
  clear hS0 hw1
  (try rw [HWW.out])
  obtain ⟨bs,hbs⟩:∃ q,w1.heap.size=q:=⟨_,rfl⟩
  obtain ⟨w2,hw2⟩:∃ q,w1.alloc (Obj.cells #[.int .i64 v,.int .i64 y] 99)=q:=⟨_,rfl⟩
  have hb12:Below w1.heap.size w1 w2:=by rw [←hw2];exact (Below.refl _ _).alloc (Nat.le_refl _) _
  have HBS:Hid (Bx w2 bs #[.int .i64 v,.int .i64 y] 99):=by rw [←hw2];exact Bx.new' hbs _ _
  have HB2:=hid (HB1.out.trans (hb12.mono HB1.out.size))
  have HO2:Hid (w2.ownsRow W.heap.size 99 2 S0 k (evl (E.take k)).flatten):=own_below HO1.out hb12
  have HW2:Hid (w1.alloc (Obj.cells #[.int .i64 v,.int .i64 y] 99)=w2):=hw2
  have HBI:Hid (w1.heap.size=bs):=hbs
  clear hw2 hb12 hbs
  go_wp2_with (at_builtin;(try rw [HW2.out]);(try rw [HBI.out]);refine list_appN HO2.out rfl _ _ rfl rfl (.slice (some ⟨bs,0,none⟩) 1 1) (by with_unfolding_all rfl) 1 [.int .i64 v,.int .i64 y] (.inr ⟨⟨bs,0,none⟩,1,rfl,rfl,fun j u hu=>by rw [Addr.add_mid,Nat.zero_add,HBS.out.cell j];simpa using hu⟩) (by intro u hu;simp only [List.mem_cons,List.not_mem_nil,or_false] at hu;rcases hu with rfl | rfl<;>rfl) (by omega) HB2.out.size ?_;intro v3 w3 ho3 hg3;refine Hid.out ?_)
  refine (show Hid _ from ?_)
  unfold Hid
  obtain ⟨g3,z3,rfl,hz3⟩:=own_row (k:=k) (by simpa using ho3)
  have HO3:Hid (w3.ownsRow W.heap.size 99 2 (.slice (some ⟨g3,0,none⟩) (k+1) z3) (k+1) ((evl (E.take k)).flatten++[.int .i64 v,.int .i64 y])):=ho3
  have HB3:Hid (Below W.heap.size W w3):=HB2.out.trans (growB hg3 (fun b q=>(own_zero HO2.out).2 b q) HB2.out.size)
  have HC3:=hid (HR.out.below HB3.out)
  clear ho3 hg3 HW2 HBI HBS HO2 HO1 HB1
  obtain ⟨t0,t1,t2,tf⟩:=HC3.out.cells
  have tf2:=tf 2
  simp only at t0 t1 t2
  clear tf
  have HS3:=hid (HSD.out _ HB3.out)
  have HB4:Hid (Below W.heap.size W w3):=HB3
  obtain ⟨w4,hw4⟩:∃ q,w3=q:=⟨_,rfl⟩
  have hed:E.drop k=[]:=List.drop_of_length_le (by omega)
  have HR4:Hid (Rw w3 99 (.slice (some ⟨g3,0,none⟩) (k+1) z3) 2 (evl (tellE E v y))):=by
   have e9:=(own_zero HO3.out).1
   rw [Hid,HTE.out,hed,List.append_nil]
   refine ⟨fun c hc=>by obtain ⟨e,_,rfl⟩:=List.mem_map.1 hc;rfl,?_⟩
   have el:(evl (E.take k++[(v,y)])).length=k+1:=by rw [evl_len];simp;omega
   have ef:(evl (E.take k++[(v,y)])).flatten=(evl (E.take k)).flatten++[.int .i64 v,.int .i64 y]:=by rw [evl_app];rfl
   rw [el,ef]
   exact e9
  have HF4:Hid (∀ b,(Value.slice (some ⟨g3,0,none⟩) (k+1) z3).ownBlock=some b→W.heap.size≤b):=(own_zero HO3.out).2
  have HE4:=hid (HR.out.setE HB4.out HR4.out HF4.out)
  clear hw4 hed
  go_wp2
  all_goals exact ⟨rfl,_,results_none rfl _ _ _,rfl,_,HE4.out⟩
theorem rtell_row {A:Nat→Prop} {W:World} {r:Nat} {D:List MD} {O:List (List MD)} {E:List (Int × Int)} {rl:Rl} (h:Rs A W r D O E rl) {g cap:Nat} (hev:rl.ev = .slice (some ⟨g,0,none⟩) E.length cap) (hcap:E.length≤cap) (hgl:g<W.heap.size) (hcell:∀ (j:Nat) u,(evl E).flatten[j]? = some u→W.cell? ⟨g,j,none⟩=some u) (hl:E.length≤1000) (v y:Int) :
  Calls Tryz.prog 71 #[ptr r,.int .i64 v,.int .i64 y] W fun e w'=>e = .returned (.tuple #[])∧∃ rl',Rs A w' r D O (tellE E v y) rl'∧Up (RX r rl) (RX r rl') W∧Kept (RX r rl) W w':=by
 obtain ⟨n,m,q,da,dc,oa,oc,ea,ec,os,rfl,HL⟩:=h.look
 simp only at hev
 injection hev with e1 e2 e3
 subst e1 e3
 clear e2
 have HR:Hid (Rs A W r D O E ⟨.slice da n dc,.slice oa m oc,.slice (some ⟨g,0,none⟩) q ec,os⟩):=h
 have HQ:Hid (E.length=q):=HL.out.2.2.1
 have hq:(q:Int)≤1000:=by rw [←HQ.out];omega
 have hqc:(q:Int)≤(ec:Int):=by rw [←HQ.out];omega
 have HN0:Hid (W.ownsRow W.heap.size 99 2 (.slice none 0 0) 0 []):=World.ownsRow_nil _ _ _ _
 have HCE:Hid (∀ (j:Nat) u,(evl E).flatten[j]? = some u→W.cell? ⟨g,j,none⟩=some u):=hcell
 have HGL:Hid (g<W.heap.size):=hgl
 obtain ⟨t0,t1,t2,tf⟩:=h.cells
 simp only at t0 t1 t2
 clear h tf HL hcell hgl hcap hl
 go_enter Tryz.func71,Tryz.ntmps71
 go_wp2
 go_loopw [6] (fun i wr=>∃ k:Nat,i = .int .i64 (k:Int)∧k≤q∧Hid (∀ (j:Nat) e,j<k→E[j]? = some e→e.1<v)∧W=wr) (fun i _=>q-(intOf i).toNat)
 case atStart=>exact ⟨0,rfl,Nat.zero_le _,(fun j e hj _=>by omega),rfl⟩
 case round =>
  obtain ⟨k,rfl,hk,HB,rfl⟩:=hrel
  have hwk:IntKind.i64.wrap ((k:Int)+1)=(k:Int)+1:=by rw [IntKind.wrap_i64];omega
  by_cases hlt:k<q
  ·have hlt':(k:Int)<(q:Int):=by omega
   obtain ⟨⟨ev,ey⟩,he⟩:∃ e,E[k]? = some e:=⟨_,List.getElem?_eq_getElem (by rw [HQ.out];exact hlt)⟩
   have HEK:Hid (E[k]? = some (ev,ey)):=he
   have c0:=HCE.out _ _ (evl_at he).1
   have c1:=HCE.out _ _ (evl_at he).2
   simp only at c0 c1
   clear he
   by_cases hv:ev<v
   ·go_wp2
    go_roundw
    case rel=>exact ⟨k+1,by go_num,by omega,(fun j e' hj he'=>by
     rcases Nat.lt_succ_iff_lt_or_eq.1 hj with q1 | q1
     ·exact HB.out j e' q1 he'
     ·subst q1;rw [HEK.out] at he';injection he' with he';rw [←he'];exact hv),by first | rfl | trivial⟩
    case measure=>simp [intOf];omega
   ·have HPOS:Hid (pos E v=k):=pos_is (by rw [HQ.out];omega) HB.out (fun e' he'=>by rw [HEK.out] at he';injection he' with he';rw [←he'];exact hv)
    by_cases hev:ev=v
    ·subst hev
     have HTE:=hid ((tell_at (y:=y) HPOS.out).1 _ HEK.out rfl)
     by_cases hy:y<ey
     ·have HPE:=hid (HR.out.putE (i:=k) (g:=g) (n:=q) (cap:=ec) (by rw [HQ.out];exact hlt) rfl ev y)
      have HTH:Hid (W.there g (k*2) 2):=by
       obtain ⟨g2,cap2,e1,_,_,_,_,e6⟩:=HR.out.ev.at (i:=k) (c:=[.int .i64 ev,.int .i64 ey]) (by unfold evl;rw [List.getElem?_map,HEK.out];rfl)
       injection e1 with e1 _ _
       injection e1 with e1
       injection e1 with e1
       rw [e1]
       exact e6
      have HFN:Hid (tellE E ev y=E.set k (ev,y)):=by rw [Hid,HTE.out];simp only [if_pos hy]
      clear HTE
      go_wp2_with (refine list_store rfl 99 _ _ rfl g (k*2) [.int .i64 ev,.int .i64 y] (by with_unfolding_all rfl) (by with_unfolding_all rfl) HTH.out Tryz.sizeEv (by intro u hu;simp only [List.mem_cons,List.not_mem_nil,or_false] at hu;rcases hu with rfl | rfl<;>rfl) ?_)
      exact ⟨rfl,_,results_none rfl _ _ _,rfl,_,(by rw [HFN.out];exact HPE.out.1),Up.refl _ _,HPE.out.2⟩
     ·have HFN:Hid (tellE E ev y=E):=by rw [Hid,HTE.out];simp only [if_neg hy]
      clear HTE
      go_wp2
      exact ⟨rfl,_,results_none rfl _ _ _,rfl,_,(by rw [HFN.out];exact HR.out),Up.refl _ _,Kept.refl _ _⟩
    ·have HTE:=hid ((tell_at (y:=y) HPOS.out).2 (fun e' he'=>by rw [HEK.out] at he';injection he' with he';rw [←he'];exact hev))
     have HQE:=hid HQ.out
     have HS1:Hid ((Value.slice (some ⟨g,0,none⟩) k ec = .slice none 0 0∧k=0∧(evl (E.take k)).flatten=[])∨∃ ad c,Value.slice (some ⟨g,0,none⟩) k ec = .slice (some ad) k c∧(evl (E.take k)).flatten.length=k*2∧∀ j u,(evl (E.take k)).flatten[j]? = some u→W.cell? (ad.add j)=some u):=.inr ⟨_,_,rfl,by rw [evl_flat,List.length_take];have:=HQ.out;congr 1;omega,fun j u hu=>by
      rw [Addr.add_mid,Nat.zero_add]
      rw [evl_take,List.getElem?_take] at hu
      split at hu
      ·exact HCE.out j u hu
      ·cases hu⟩
     have HSD:Hid (∀ w,Below W.heap.size W w→(Value.slice (some ⟨g,k*2,none⟩) (q-k) (ec-k) = .slice none 0 0∧(q-k)=0∧(evl (E.drop k)).flatten=[])∨∃ ad c,Value.slice (some ⟨g,k*2,none⟩) (q-k) (ec-k) = .slice (some ad) (q-k) c∧(evl (E.drop k)).flatten.length=(q-k)*2∧∀ j u,(evl (E.drop k)).flatten[j]? = some u→w.cell? (ad.add j)=some u):=fun w hw=>.inr ⟨_,_,rfl,by rw [evl_flat,List.length_drop];have:=HQ.out;congr 1;omega,fun j u hu=>by
      rw [Addr.add_mid]
      rw [evl_drop,List.getElem?_drop] at hu
      exact (hw.cell (p:=⟨g,k*2+j,none⟩) HGL.out).trans (HCE.out _ u hu)⟩
     have hkl:E.length=q:=HQ.out
     have hevn:¬ev=v:=hev
     go_wp2_with (at_builtin;refine list_appN HN0.out rfl _ _ rfl rfl _ rfl k (evl (E.take k)).flatten HS1.out (evl_one _) (by omega) (Nat.le_refl _) ?_;intro v1 w1 ho1 hg1;refine Hid.out ?_)
     refine (show Hid _ from ?_)
     unfold Hid
     obtain ⟨x1,y1,z1',rfl⟩:=own_shape ho1
     have HO1:Hid (w1.ownsRow W.heap.size 99 2 (.slice x1 y1 z1') k (evl (E.take k)).flatten):=by rw [Hid];simpa using ho1
     have HB1:Hid (Below W.heap.size W w1):=growB hg1 (fun b q=>by cases q) (Nat.le_refl _)
     have HC1:=hid (HR.out.below HB1.out)
     clear ho1 hg1
     obtain ⟨bs,hbs⟩:∃ q,w1.heap.size=q:=⟨_,rfl⟩
     obtain ⟨w2,hw2⟩:∃ q,w1.alloc (Obj.cells #[.int .i64 v,.int .i64 y] 99)=q:=⟨_,rfl⟩
     have hb12:Below w1.heap.size w1 w2:=by rw [←hw2];exact (Below.refl _ _).alloc (Nat.le_refl _) _
     have HBS:Hid (Bx w2 bs #[.int .i64 v,.int .i64 y] 99):=by rw [←hw2];exact Bx.new' hbs _ _
     have HB2:=hid (HB1.out.trans (hb12.mono HB1.out.size))
     have HO2:Hid (w2.ownsRow W.heap.size 99 2 (.slice x1 y1 z1') k (evl (E.take k)).flatten):=own_below HO1.out hb12
     have HW2:Hid (w1.alloc (Obj.cells #[.int .i64 v,.int .i64 y] 99)=w2):=hw2
     have HBI:Hid (w1.heap.size=bs):=hbs
     clear hw2 hb12 hbs
     go_wp2_with (at_builtin;(try rw [HW2.out]);(try rw [HBI.out]);refine list_appN HO2.out rfl _ _ rfl rfl (.slice (some ⟨bs,0,none⟩) 1 1) (by with_unfolding_all rfl) 1 [.int .i64 v,.int .i64 y] (.inr ⟨⟨bs,0,none⟩,1,rfl,rfl,fun j u hu=>by rw [Addr.add_mid,Nat.zero_add,HBS.out.cell j];simpa using hu⟩) (by intro u hu;simp only [List.mem_cons,List.not_mem_nil,or_false] at hu;rcases hu with rfl | rfl<;>rfl) (by omega) HB2.out.size ?_;intro v3 w3 ho3 hg3;refine Hid.out ?_)
     refine (show Hid _ from ?_)
     unfold Hid
     obtain ⟨g3,z3,rfl,hz3⟩:=own_row (k:=k) (by simpa using ho3)
     have HO3:Hid (w3.ownsRow W.heap.size 99 2 (.slice (some ⟨g3,0,none⟩) (k+1) z3) (k+1) ((evl (E.take k)).flatten++[.int .i64 v,.int .i64 y])):=ho3
     have HB3:Hid (Below W.heap.size W w3):=HB2.out.trans (growB hg3 (fun b q=>(own_zero HO2.out).2 b q) HB2.out.size)
     have HC3:=hid (HR.out.below HB3.out)
     clear ho3 hg3 HW2 HBI HBS HO2 HO1 HB1
     obtain ⟨t0,t1,t2,tf⟩:=HC3.out.cells
     have tf2:=tf 2
     simp only at t0 t1 t2
     clear tf
     have HS3:=hid (HSD.out _ HB3.out)
     go_wp2_with (at_builtin;refine list_appN HO3.out rfl _ _ rfl rfl _ rfl (q-k) (evl (E.drop k)).flatten HS3.out (evl_one _) (by omega) HB3.out.size ?_;intro v4 w4 ho4 hg4;refine Hid.out ?_)
     refine (show Hid _ from ?_)
     unfold Hid
     obtain ⟨x4,y4,z4,rfl⟩:=own_shape ho4
     have HB4:Hid (Below W.heap.size W w4):=HB3.out.trans (growB hg4 (fun b q=>(own_zero HO3.out).2 b q) HB3.out.size)
     have HR4:Hid (Rw w4 99 (.slice x4 y4 z4) 2 (evl (tellE E v y))):=by
      have e9:=(own_zero ho4).1
      rw [Hid,HTE.out]
      refine ⟨fun c hc=>by obtain ⟨e,_,rfl⟩:=List.mem_map.1 hc;rfl,?_⟩
      have el:(evl (E.take k++[(v,y)]++E.drop k)).length=k+1+(q-k):=by rw [evl_len];simp;omega
      have ef:(evl (E.take k++[(v,y)]++E.drop k)).flatten=(evl (E.take k)).flatten++[.int .i64 v,.int .i64 y]++(evl (E.drop k)).flatten:=by rw [evl_app,evl_app];rfl
      rw [el,ef]
      exact e9
     have HF4:Hid (∀ b,(Value.slice x4 y4 z4).ownBlock=some b→W.heap.size≤b):=(own_zero ho4).2
     have HE4:=hid (HR.out.setE HB4.out HR4.out HF4.out)
     have HC4:=hid (HR.out.below HB4.out)
     clear ho4 hg4 t0 t1 t2 tf2
     obtain ⟨t0,t1,t2,tf⟩:=HC4.out.cells
     have tf2:=tf 2
     simp only at t0 t1 t2
     clear tf
     go_wp2
     all_goals exact ⟨rfl,_,results_none rfl _ _ _,rfl,_,HE4.out⟩
  ·obtain rfl:k=q:=by omega
   have hlt':¬(k:Int)<(k:Int):=by omega
   have HPOS:Hid (pos E v=k):=pos_is (by rw [HQ.out];omega) HB.out (fun e' he'=>by have:=(List.getElem?_eq_some_iff.1 he').1;have:=HQ.out;omega)
   have HTE:=hid ((tell_at (y:=y) HPOS.out).2 (fun e' he'=>by have:=(List.getElem?_eq_some_iff.1 he').1;have:=HQ.out;omega))
   have HS1:Hid ((Value.slice (some ⟨g,0,none⟩) k ec = .slice none 0 0∧k=0∧(evl (E.take k)).flatten=[])∨∃ ad c,Value.slice (some ⟨g,0,none⟩) k ec = .slice (some ad) k c∧(evl (E.take k)).flatten.length=k*2∧∀ j u,(evl (E.take k)).flatten[j]? = some u→W.cell? (ad.add j)=some u):=.inr ⟨_,_,rfl,by rw [evl_flat,List.length_take];have:=HQ.out;congr 1;omega,fun j u hu=>by
    rw [Addr.add_mid,Nat.zero_add]
    rw [evl_take,List.getElem?_take] at hu
    split at hu
    ·exact HCE.out j u hu
    ·cases hu⟩
   have HSD:Hid (∀ w,Below W.heap.size W w→(Value.slice (some ⟨g,k*2,none⟩) (k-k) (ec-k) = .slice none 0 0∧(k-k)=0∧(evl (E.drop k)).flatten=[])∨∃ ad c,Value.slice (some ⟨g,k*2,none⟩) (k-k) (ec-k) = .slice (some ad) (k-k) c∧(evl (E.drop k)).flatten.length=(k-k)*2∧∀ j u,(evl (E.drop k)).flatten[j]? = some u→w.cell? (ad.add j)=some u):=fun w hw=>.inr ⟨_,_,rfl,by rw [evl_flat,List.length_drop];have:=HQ.out;congr 1;omega,fun j u hu=>by
    rw [Addr.add_mid]
    rw [evl_drop,List.getElem?_drop] at hu
    exact (hw.cell (p:=⟨g,k*2+j,none⟩) HGL.out).trans (HCE.out _ u hu)⟩
   have hkl:E.length=k:=HQ.out
   go_wp2_with (at_builtin;refine list_appN HN0.out rfl _ _ rfl rfl _ rfl k (evl (E.take k)).flatten HS1.out (evl_one _) (by omega) (Nat.le_refl _) ?_;intro v1 w1 ho1 hg1;refine Hid.out ?_)
   refine (show Hid _ from ?_)
   unfold Hid
   obtain ⟨x1,y1,z1',rfl⟩:=own_shape ho1
   have HO1:Hid (w1.ownsRow W.heap.size 99 2 (.slice x1 y1 z1') k (evl (E.take k)).flatten):=by rw [Hid];simpa using ho1
   have HB1:Hid (Below W.heap.size W w1):=growB hg1 (fun b q=>by cases q) (Nat.le_refl _)
   have HC1:=hid (HR.out.below HB1.out)
   clear ho1 hg1
   obtain ⟨bs,hbs⟩:∃ q,w1.heap.size=q:=⟨_,rfl⟩
   obtain ⟨w2,hw2⟩:∃ q,w1.alloc (Obj.cells #[.int .i64 v,.int .i64 y] 99)=q:=⟨_,rfl⟩
   have hb12:Below w1.heap.size w1 w2:=by rw [←hw2];exact (Below.refl _ _).alloc (Nat.le_refl _) _
   have HBS:Hid (Bx w2 bs #[.int .i64 v,.int .i64 y] 99):=by rw [←hw2];exact Bx.new' hbs _ _
   have HB2:=hid (HB1.out.trans (hb12.mono HB1.out.size))
   have HO2:Hid (w2.ownsRow W.heap.size 99 2 (.slice x1 y1 z1') k (evl (E.take k)).flatten):=own_below HO1.out hb12
   have HW2:Hid (w1.alloc (Obj.cells #[.int .i64 v,.int .i64 y] 99)=w2):=hw2
   have HBI:Hid (w1.heap.size=bs):=hbs
   clear hw2 hb12 hbs
   go_wp2_with (at_builtin;(try rw [HW2.out]);(try rw [HBI.out]);refine list_appN HO2.out rfl _ _ rfl rfl (.slice (some ⟨bs,0,none⟩) 1 1) (by with_unfolding_all rfl) 1 [.int .i64 v,.int .i64 y] (.inr ⟨⟨bs,0,none⟩,1,rfl,rfl,fun j u hu=>by rw [Addr.add_mid,Nat.zero_add,HBS.out.cell j];simpa using hu⟩) (by intro u hu;simp only [List.mem_cons,List.not_mem_nil,or_false] at hu;rcases hu with rfl | rfl<;>rfl) (by omega) HB2.out.size ?_;intro v3 w3 ho3 hg3;refine Hid.out ?_)
   refine (show Hid _ from ?_)
   unfold Hid
   obtain ⟨g3,z3,rfl,hz3⟩:=own_row (k:=k) (by simpa using ho3)
   have HO3:Hid (w3.ownsRow W.heap.size 99 2 (.slice (some ⟨g3,0,none⟩) (k+1) z3) (k+1) ((evl (E.take k)).flatten++[.int .i64 v,.int .i64 y])):=ho3
   have HB3:Hid (Below W.heap.size W w3):=HB2.out.trans (growB hg3 (fun b q=>(own_zero HO2.out).2 b q) HB2.out.size)
   have HC3:=hid (HR.out.below HB3.out)
   clear ho3 hg3 HW2 HBI HBS HO2 HO1 HB1
   obtain ⟨t0,t1,t2,tf⟩:=HC3.out.cells
   have tf2:=tf 2
   simp only at t0 t1 t2
   clear tf
   have HS3:=hid (HSD.out _ HB3.out)
   have HB4:Hid (Below W.heap.size W w3):=HB3
   obtain ⟨w4,hw4⟩:∃ q,w3=q:=⟨_,rfl⟩
   have hed:E.drop k=[]:=List.drop_of_length_le (by omega)
   have HR4:Hid (Rw w3 99 (.slice (some ⟨g3,0,none⟩) (k+1) z3) 2 (evl (tellE E v y))):=by
    have e9:=(own_zero HO3.out).1
    rw [Hid,HTE.out,hed,List.append_nil]
    refine ⟨fun c hc=>by obtain ⟨e,_,rfl⟩:=List.mem_map.1 hc;rfl,?_⟩
    have el:(evl (E.take k++[(v,y)])).length=k+1:=by rw [evl_len];simp;omega
    have ef:(evl (E.take k++[(v,y)])).flatten=(evl (E.take k)).flatten++[.int .i64 v,.int .i64 y]:=by rw [evl_app];rfl
    rw [el,ef]
    exact e9
   have HF4:Hid (∀ b,(Value.slice (some ⟨g3,0,none⟩) (k+1) z3).ownBlock=some b→W.heap.size≤b):=(own_zero HO3.out).2
   have HE4:=hid (HR.out.setE HB4.out HR4.out HF4.out)
   clear hw4 hed
   go_wp2
   all_goals exact ⟨rfl,_,results_none rfl _ _ _,rfl,_,HE4.out⟩
theorem rtell_any {A:Nat→Prop} {W:World} {r:Nat} {D:List MD} {O:List (List MD)} {E:List (Int × Int)} {rl:Rl} (h:Rs A W r D O E rl) (hl:E.length≤1000) (v y:Int) :
  Calls Tryz.prog 71 #[ptr r,.int .i64 v,.int .i64 y] W fun e w'=>e = .returned (.tuple #[])∧∃ rl',Rs A w' r D O (tellE E v y) rl'∧Up (RX r rl) (RX r rl') W∧Kept (RX r rl) W w':=by
 rcases h.evc with ⟨e1,rfl⟩ | ⟨g,cap,e1,e2,e3,e4⟩
 ·exact rtell_nil h e1 v y
 ·exact rtell_row h e1 e2 e3 e4 hl v y
theorem below_setRow {B g:Nat} {W w:World} (h:Below B W w) (hg:B≤g) (c:Array Value):Below B W (w.setRow g c):=⟨h.os,h.tape,h.output,by simpa [World.setRow] using h.size,fun b hb=>(setRow_other w g b c (by omega)).trans (h.block b hb)⟩
def whyM (a b:MD):Int:=if onlyA b then 1 else if b.set then (if a.lo.length≠b.lo.length∨a.least≠b.least∨a.most≠b.most then 2 else 3) else (if Dm.lo a.r 0≠Dm.lo b.r 0∨Dm.hi a.r (a.r.length-1)≠Dm.hi b.r (b.r.length-1) then 2 else 3)
theorem rwhy_s {X Y:Nat→Prop} {W:World} {c k:List Value} {d o:MD} (h:Dc X W c d) (h':Dc Y W k o) (hs:o.set=true) (hf:Dm.FitsR o.r) :
  Calls Tryz.prog 72 #[.agg c.toArray,.agg k.toArray] W fun e w'=>e = .returned (.int .i64 (whyM d o))∧Below W.heap.size W w':=by
 have HM0:Hid (whyM d o=if onlyA o then 1 else if d.lo.length≠o.lo.length∨d.least≠o.least∨d.most≠o.most then 2 else 3):=by unfold Hid whyM;rw [if_pos hs]
 have h'':=h'
 obtain ⟨b,ra,n0,rc,a1,n1,c1,a2,n2,c2,x,y,rfl,HE,H1,H2,H3⟩:=h.look
 obtain ⟨b',ra',n0',rc',a1',n1',c1',a2',n2',c2',x',y',rfl,HE',H1',H2',H3'⟩:=h'.look
 obtain rfl:b'=true:=by rw [←HE'.out.1,hs]
 obtain ⟨N,hN⟩:∃ N,W.heap.size=N:=⟨_,rfl⟩
 obtain ⟨W0,hW0⟩:∃ Q,(W.alloc (Obj.cells #[.bool b,.slice ra n0 rc,.slice a1 n1 c1,.slice a2 n2 c2,.int .i64 x,.int .i64 y] 37)).alloc (Obj.cells #[.bool true,.slice ra' n0' rc',.slice a1' n1' c1',.slice a2' n2' c2',.int .i64 x',.int .i64 y'] 37)=Q:=⟨_,rfl⟩
 have hb0:Below W.heap.size W W0:=by rw [←hW0];exact ((Below.refl _ W).alloc (Nat.le_refl _) _).alloc (by simp) _
 have HX:Hid (Bx W0 N #[.bool b,.slice ra n0 rc,.slice a1 n1 c1,.slice a2 n2 c2,.int .i64 x,.int .i64 y] 37):=by rw [←hW0];exact (Bx.new' hN _ _).alloc _
 have HY:Hid (Bx W0 (N+1) #[.bool true,.slice ra' n0' rc',.slice a1' n1' c1',.slice a2' n2' c2',.int .i64 x',.int .i64 y'] 37):=by rw [←hW0];exact Bx.new' (by simp [hN]) _ _
 have HB0:Hid (Below W.heap.size W W0):=hb0
 have kv:=rvalue_d (h'.below hb0) hf
 have HW0:Hid _:=hW0
 have HN:Hid _:=hN
 obtain ⟨ob,hob⟩:∃ q,onlyA o=q:=⟨_,rfl⟩
 rw [hob] at kv
 have HM:Hid (whyM d o=if ob then 1 else if n1≠n1'∨x≠x'∨y≠y' then 2 else 3):=by
  rw [Hid,HM0.out,hob,HE.out.2.2.1,HE'.out.2.2.1,HE.out.2.2.2.2.1,HE'.out.2.2.2.2.1,HE.out.2.2.2.2.2,HE'.out.2.2.2.2.2]
 rw [HM.out]
 clear h h' h'' hs HE H1 H2 H3 hW0 HE' H1' H2' H3' hb0 HM HM0 hN hob hf
 obtain ⟨z0,z1,z2,z3,z4,z5⟩:=HY.out.six
 go_enter Tryz.func72,Tryz.ntmps72
 go_wp2_with fail
 (try rw [HW0.out]);(try rw [HN.out])
 refine kv.mono ?_
 clear kv z0 z1 z2 z3 z4 z5
 rintro e w1 ⟨bq,nq,pq,lq,kq,rfl,hb1⟩
 obtain ⟨bv,hbv⟩:∃ q,w1.heap.size=q:=⟨_,rfl⟩
 obtain ⟨w2,hw2⟩:∃ q,w1.alloc (Obj.cells #[.bool false,.int .i64 0,.slice none 0 0] 57)=q:=⟨_,rfl⟩
 have hb2:Below w1.heap.size w1 w2:=by rw [←hw2];exact (Below.refl _ _).alloc (Nat.le_refl _) _
 have HBV:Hid (Bx w2 bv #[.bool false,.int .i64 0,.slice none 0 0] 57):=by rw [←hw2];exact Bx.new' hbv _ _
 have HW2:Hid _:=hw2
 have HV2:Hid _:=hbv
 have hb02:Below W0.heap.size W0 w2:=hb1.trans (hb2.mono hb1.size)
 have hb03:Below W0.heap.size W0 (w2.setRow bv #[.bool bq,.int .i64 nq,.slice pq lq kq]):=below_setRow hb02 (by rw [←hbv];exact hb1.size) _
 obtain ⟨w3,hw3⟩:∃ q,w2.setRow bv #[.bool bq,.int .i64 nq,.slice pq lq kq]=q:=⟨_,rfl⟩
 have HW3:Hid _:=hw3
 rw [hw3] at hb03
 have HB3:Hid (Below W0.heap.size W0 w3):=hb03
 clear hw2 hbv hb1 hb2 hb02 hb03 hw3
 obtain ⟨z0,z1,z2,z3,z4,z5⟩:=(HX.out.below HB3.out).six
 obtain ⟨u0,u1,u2,u3,u4,u5⟩:=(HY.out.below HB3.out).six
 have HBE:Hid (Below W.heap.size W w3):=HB0.out.trans (HB3.out.mono HB0.out.size)
 clear HX HY HB0 HB3
 cases ob
 rotate_left
 ·go_wp2_with ((try rw [HW2.out]);(try rw [HV2.out]);with_reducible refine stV rfl (.tmp 5) (.tmp 10) rfl bv bq nq pq lq kq (by with_unfolding_all rfl) (by with_unfolding_all rfl) HBV.out rfl ?_;rw [HW3.out])
  go_ret
  exact ⟨rfl,HBE.out⟩
 ·by_cases h1:n1=n1'
  ·by_cases h2:x=x'
   ·by_cases h3:y=y'
    ·subst h1 h2 h3
     go_wp2_with ((try rw [HW2.out]);(try rw [HV2.out]);with_reducible refine stV rfl (.tmp 5) (.tmp 10) rfl bv bq nq pq lq kq (by with_unfolding_all rfl) (by with_unfolding_all rfl) HBV.out rfl ?_;rw [HW3.out])
     go_ret
     exact ⟨by simp,HBE.out⟩
    ·have e3:(y != y')=true:=by simpa using h3
     subst h1 h2
     go_wp2_with ((try rw [HW2.out]);(try rw [HV2.out]);with_reducible refine stV rfl (.tmp 5) (.tmp 10) rfl bv bq nq pq lq kq (by with_unfolding_all rfl) (by with_unfolding_all rfl) HBV.out rfl ?_;rw [HW3.out])
     go_ret
     exact ⟨by simp [h3],HBE.out⟩
   ·have e2:(x != x')=true:=by simpa using h2
    subst h1
    go_wp2_with ((try rw [HW2.out]);(try rw [HV2.out]);with_reducible refine stV rfl (.tmp 5) (.tmp 10) rfl bv bq nq pq lq kq (by with_unfolding_all rfl) (by with_unfolding_all rfl) HBV.out rfl ?_;rw [HW3.out])
    go_ret
    exact ⟨by simp [h2],HBE.out⟩
  ·have e1:((n1:Int) != (n1':Int))=true:=by simp;omega
   go_wp2_with ((try rw [HW2.out]);(try rw [HV2.out]);with_reducible refine stV rfl (.tmp 5) (.tmp 10) rfl bv bq nq pq lq kq (by with_unfolding_all rfl) (by with_unfolding_all rfl) HBV.out rfl ?_;rw [HW3.out])
   go_ret
   exact ⟨by simp [h1],HBE.out⟩
theorem rwhy_n {X Y:Nat→Prop} {W:World} {c k:List Value} {d o:MD} (h:Dc X W c d) (h':Dc Y W k o) (hs:o.set=false) (hf:Dm.FitsR o.r) (hd:0<d.r.length) (ho:0<o.r.length) (hdl:d.r.length≤100000) (hol:o.r.length≤100000) :
  Calls Tryz.prog 72 #[.agg c.toArray,.agg k.toArray] W fun e w'=>e = .returned (.int .i64 (whyM d o))∧Below W.heap.size W w':=by
 have h'':=h'
 obtain ⟨b,ra,n0,rc,a1,n1,c1,a2,n2,c2,x,y,rfl,HE,H1,H2,H3⟩:=h.look
 obtain ⟨b',ra',n0',rc',a1',n1',c1',a2',n2',c2',x',y',rfl,HE',H1',H2',H3'⟩:=h'.look
 obtain rfl:b'=false:=by rw [←HE'.out.1,hs]
 obtain ⟨m0,hmm0⟩:∃ m,n0=m+1:=⟨n0-1,by have:=HE.out.2.1;omega⟩
 obtain ⟨m1,hmm1⟩:∃ m,n0'=m+1:=⟨n0' - 1,by have:=HE'.out.2.1;omega⟩
 obtain ⟨p1,f1,hra,hp1,hc1⟩:∃ p1 f1,ra=some ⟨p1,f1,none⟩∧p1<W.heap.size∧∀ i,i<d.r.length→W.cell? ⟨p1,f1+i*2,none⟩=some (.int .i64 (Dm.lo d.r i))∧W.cell? ⟨p1,f1+i*2+1,none⟩=some (.int .i64 (Dm.hi d.r i)):=by
  obtain ⟨aa,cc,ea,hA⟩:=H1.out
  obtain ⟨q1,q2,q3,q4,_,q5⟩:=hA hd
  injection ea with ea _ _
  exact ⟨q1,q2,ea.trans q3,q4,q5⟩
 obtain ⟨p2,f2,hrb,hp2,hc2⟩:∃ p2 f2,ra'=some ⟨p2,f2,none⟩∧p2<W.heap.size∧∀ i,i<o.r.length→W.cell? ⟨p2,f2+i*2,none⟩=some (.int .i64 (Dm.lo o.r i))∧W.cell? ⟨p2,f2+i*2+1,none⟩=some (.int .i64 (Dm.hi o.r i)):=by
  obtain ⟨aa,cc,ea,hA⟩:=H1'.out
  obtain ⟨q1,q2,q3,q4,_,q5⟩:=hA ho
  injection ea with ea _ _
  exact ⟨q1,q2,ea.trans q3,q4,q5⟩
 subst hra hrb
 obtain ⟨N,hN⟩:∃ N,W.heap.size=N:=⟨_,rfl⟩
 obtain ⟨W0,hW0⟩:∃ Q,(W.alloc (Obj.cells #[.bool b,.slice (some ⟨p1,f1,none⟩) n0 rc,.slice a1 n1 c1,.slice a2 n2 c2,.int .i64 x,.int .i64 y] 37)).alloc (Obj.cells #[.bool false,.slice (some ⟨p2,f2,none⟩) n0' rc',.slice a1' n1' c1',.slice a2' n2' c2',.int .i64 x',.int .i64 y'] 37)=Q:=⟨_,rfl⟩
 have hb0:Below W.heap.size W W0:=by rw [←hW0];exact ((Below.refl _ W).alloc (Nat.le_refl _) _).alloc (by simp) _
 have HX:Hid (Bx W0 N #[.bool b,.slice (some ⟨p1,f1,none⟩) n0 rc,.slice a1 n1 c1,.slice a2 n2 c2,.int .i64 x,.int .i64 y] 37):=by rw [←hW0];exact (Bx.new' hN _ _).alloc _
 have HY:Hid (Bx W0 (N+1) #[.bool false,.slice (some ⟨p2,f2,none⟩) n0' rc',.slice a1' n1' c1',.slice a2' n2' c2',.int .i64 x',.int .i64 y'] 37):=by rw [←hW0];exact Bx.new' (by simp [hN]) _ _
 have HB0:Hid (Below W.heap.size W W0):=hb0
 have kv:=rvalue_d (h'.below hb0) hf
 have HW0:Hid _:=hW0
 have HN:Hid _:=hN
 obtain ⟨la,hla⟩:∃ q,Dm.lo d.r 0=q:=⟨_,rfl⟩
 obtain ⟨lb,hlb⟩:∃ q,Dm.lo o.r 0=q:=⟨_,rfl⟩
 obtain ⟨hA,hhA⟩:∃ q,Dm.hi d.r m0=q:=⟨_,rfl⟩
 obtain ⟨hB,hhB⟩:∃ q,Dm.hi o.r m1=q:=⟨_,rfl⟩
 have ed:d.r.length=m0+1:=by rw [HE.out.2.1,hmm0]
 have eo:o.r.length=m1+1:=by rw [HE'.out.2.1,hmm1]
 obtain ⟨ob,hob⟩:∃ q,onlyA o=q:=⟨_,rfl⟩
 rw [hob] at kv
 have HM:Hid (whyM d o=if ob then 1 else if la≠lb∨hA≠hB then 2 else 3):=by
  unfold Hid whyM
  rw [hob,if_neg (by rw [hs];decide:¬o.set=true),ed,eo,Nat.add_sub_cancel,Nat.add_sub_cancel,hla,hlb,hhA,hhB]
 rw [HM.out]
 have HFW:Hid (∀ w,Below W.heap.size W w→w.cell? ⟨p1,f1,none⟩=some (.int .i64 la)∧w.cell? ⟨p2,f2,none⟩=some (.int .i64 lb)∧w.cell? ⟨p1,f1+m0*2+1,none⟩=some (.int .i64 hA)∧w.cell? ⟨p2,f2+m1*2+1,none⟩=some (.int .i64 hB)):=fun w b2=>by
  refine ⟨?_,?_,?_,?_⟩
  ·rw [←hla];exact (b2.cell (p:=⟨p1,_,none⟩) hp1).trans (by simpa using (hc1 0 hd).1)
  ·rw [←hlb];exact (b2.cell (p:=⟨p2,_,none⟩) hp2).trans (by simpa using (hc2 0 ho).1)
  ·rw [←hhA];exact (b2.cell (p:=⟨p1,_,none⟩) hp1).trans (hc1 m0 (by omega)).2
  ·rw [←hhB];exact (b2.cell (p:=⟨p2,_,none⟩) hp2).trans (hc2 m1 (by omega)).2
 have hm0:IntKind.i64.wrap ((n0:Int)-1)=(m0:Int):=by rw [IntKind.wrap_i64];omega
 have hm1:IntKind.i64.wrap ((n0':Int)-1)=(m1:Int):=by rw [IntKind.wrap_i64];omega
 have hj0:(m0:Int)<(n0:Int):=by omega
 have hk0:0<n0:=by omega
 have hl0:m0<n0:=by omega
 have hj1:(m1:Int)<(n0':Int):=by omega
 have hk1:0<n0':=by omega
 have hl1:m1<n0':=by omega
 clear h h' h'' hs HE H1 H2 H3 hW0 HE' H1' H2' H3' hb0 HM hN hob hf hc1 hc2 hd ho hdl hol hla hlb hhA hhB ed eo hmm0 hmm1
 obtain ⟨z0,z1,z2,z3,z4,z5⟩:=HY.out.six
 go_enter Tryz.func72,Tryz.ntmps72
 go_wp2_with fail
 (try rw [HW0.out]);(try rw [HN.out])
 refine kv.mono ?_
 clear kv z0 z1 z2 z3 z4 z5
 rintro e w1 ⟨bq,nq,pq,lq,kq,rfl,hb1⟩
 obtain ⟨bv,hbv⟩:∃ q,w1.heap.size=q:=⟨_,rfl⟩
 obtain ⟨w2,hw2⟩:∃ q,w1.alloc (Obj.cells #[.bool false,.int .i64 0,.slice none 0 0] 57)=q:=⟨_,rfl⟩
 have hb2:Below w1.heap.size w1 w2:=by rw [←hw2];exact (Below.refl _ _).alloc (Nat.le_refl _) _
 have HBV:Hid (Bx w2 bv #[.bool false,.int .i64 0,.slice none 0 0] 57):=by rw [←hw2];exact Bx.new' hbv _ _
 have HW2:Hid _:=hw2
 have HV2:Hid _:=hbv
 have hb02:Below W0.heap.size W0 w2:=hb1.trans (hb2.mono hb1.size)
 have hb03:Below W0.heap.size W0 (w2.setRow bv #[.bool bq,.int .i64 nq,.slice pq lq kq]):=below_setRow hb02 (by rw [←hbv];exact hb1.size) _
 obtain ⟨w3,hw3⟩:∃ q,w2.setRow bv #[.bool bq,.int .i64 nq,.slice pq lq kq]=q:=⟨_,rfl⟩
 have HW3:Hid _:=hw3
 rw [hw3] at hb03
 have HB3:Hid (Below W0.heap.size W0 w3):=hb03
 clear hw2 hbv hb1 hb2 hb02 hb03 hw3
 have HBE:Hid (Below W.heap.size W w3):=HB0.out.trans (HB3.out.mono HB0.out.size)
 have FS:Hid (∀ w,Below w3.heap.size w3 w→(w.cell? ⟨N,0,none⟩=some (.bool b)∧w.cell? ⟨N,1,none⟩=some (.slice (some ⟨p1,f1,none⟩) n0 rc)∧w.cell? ⟨N,2,none⟩=some (.slice a1 n1 c1)∧w.cell? ⟨N,3,none⟩=some (.slice a2 n2 c2)∧w.cell? ⟨N,4,none⟩=some (.int .i64 x)∧w.cell? ⟨N,5,none⟩=some (.int .i64 y))∧(w.cell? ⟨N+1,0,none⟩=some (.bool false)∧w.cell? ⟨N+1,1,none⟩=some (.slice (some ⟨p2,f2,none⟩) n0' rc')∧w.cell? ⟨N+1,2,none⟩=some (.slice a1' n1' c1')∧w.cell? ⟨N+1,3,none⟩=some (.slice a2' n2' c2')∧w.cell? ⟨N+1,4,none⟩=some (.int .i64 x')∧w.cell? ⟨N+1,5,none⟩=some (.int .i64 y'))∧w.cell? ⟨p1,f1,none⟩=some (.int .i64 la)∧w.cell? ⟨p2,f2,none⟩=some (.int .i64 lb)∧w.cell? ⟨p1,f1+m0*2+1,none⟩=some (.int .i64 hA)∧w.cell? ⟨p2,f2+m1*2+1,none⟩=some (.int .i64 hB)):=fun w hb =>
  ⟨(HX.out.below (HB3.out.trans (hb.mono HB3.out.size))).six,(HY.out.below (HB3.out.trans (hb.mono HB3.out.size))).six,HFW.out w (HBE.out.trans (hb.mono HBE.out.size))⟩
 have HP0:Hid (Below w3.heap.size w3 w3.drew):=(Below.refl _ _).drew
 obtain ⟨u0,u1,u2,u3,u4,u5⟩:=(HY.out.below HB3.out).six
 clear HX HY HB0 HB3 HFW
 cases ob
 rotate_left
 ·go_wp2_with ((try rw [HW2.out]);(try rw [HV2.out]);with_reducible refine stV rfl (.tmp 5) (.tmp 10) rfl bv bq nq pq lq kq (by with_unfolding_all rfl) (by with_unfolding_all rfl) HBV.out rfl ?_;rw [HW3.out])
  go_ret
  exact ⟨rfl,HBE.out⟩
 ·go_upto_region 8 with ((try rw [HW2.out]);(try rw [HV2.out]);with_reducible refine stV rfl (.tmp 5) (.tmp 10) rfl bv bq nq pq lq kq (by with_unfolding_all rfl) (by with_unfolding_all rfl) HBV.out rfl ?_;rw [HW3.out])
  clear u0 u1 u2 u3 u4 u5
  by_cases hlo:la=lb
  ·
   refine wp_region_held_drew (S:=fun X:World=>Below w3.heap.size w3 X) (by kernel_rfl) (HP0.out) (fun hHeld=>?_)
   refine tkI 0 rfl hHeld ?_
   try simp only [Act.put,zS,eZ,eS]
   refine tkH 1 _ (v:=?_) hHeld ?_ ?_;rotate_left
   ·intro w hSw;obtain ⟨⟨y0,y1,y2,y3,y4,y5⟩,⟨u0,u1,u2,u3,u4,u5⟩,g0,g1,g2,g3⟩:=FS.out _ hSw;go_simp<;>with_reducible rfl
   try simp only [Act.put,zS,eZ,eS]
   refine tkI 2 rfl hHeld ?_
   try simp only [Act.put,zS,eZ,eS]
   refine tkI 3 rfl hHeld ?_
   try simp only [Act.put,zS,eZ,eS]
   refine tkH 4 _ (v:=?_) hHeld ?_ ?_;rotate_left
   ·intro w hSw;obtain ⟨⟨y0,y1,y2,y3,y4,y5⟩,⟨u0,u1,u2,u3,u4,u5⟩,g0,g1,g2,g3⟩:=FS.out _ hSw;go_simp<;>with_reducible rfl
   try simp only [Act.put,zS,eZ,eS]
   refine tkI 5 rfl hHeld ?_
   try simp only [Act.put,zS,eZ,eS]
   refine tkH 6 _ (v:=?_) hHeld ?_ ?_;rotate_left
   ·intro w hSw;obtain ⟨⟨y0,y1,y2,y3,y4,y5⟩,⟨u0,u1,u2,u3,u4,u5⟩,g0,g1,g2,g3⟩:=FS.out _ hSw;go_simp<;>with_reducible rfl
   try simp only [Act.put,zS,eZ,eS]
   refine tkI 7 rfl hHeld ?_
   try simp only [Act.put,zS,eZ,eS]
   refine tkI 8 rfl hHeld ?_
   try simp only [Act.put,zS,eZ,eS]
   refine tkH 9 _ (v:=?_) hHeld ?_ ?_;rotate_left
   ·intro w hSw;obtain ⟨⟨y0,y1,y2,y3,y4,y5⟩,⟨u0,u1,u2,u3,u4,u5⟩,g0,g1,g2,g3⟩:=FS.out _ hSw;go_simp<;>with_reducible rfl
   try simp only [Act.put,zS,eZ,eS]
   refine tkH 10 _ (v:=.bool false) hHeld ?_ ?_
   skip
   ·intro w hSw;go_simp<;>first | done | with_reducible rfl | simp [hlo]
   try simp only [Act.put,zS,eZ,eS]
   refine tkH 11 _ (v:=.bool false) hHeld ?_ ?_
   skip
   ·intro w hSw;(try dsimp only at hSw);go_simp<;>with_reducible rfl
   try simp only [Act.put,zS,eZ,eS]
   refine tkI 12 rfl hHeld ?_
   try simp only [Act.put,zS,eZ,eS]
   refine tkH 13 _ (v:=?_) hHeld ?_ ?_;rotate_left
   ·intro w hSw;obtain ⟨⟨y0,y1,y2,y3,y4,y5⟩,⟨u0,u1,u2,u3,u4,u5⟩,g0,g1,g2,g3⟩:=FS.out _ hSw;go_simp<;>with_reducible rfl
   try simp only [Act.put,zS,eZ,eS]
   refine tkI 14 rfl hHeld ?_
   try simp only [Act.put,zS,eZ,eS]
   refine tkH 15 _ (v:=?_) hHeld ?_ ?_;rotate_left
   ·intro w hSw;obtain ⟨⟨y0,y1,y2,y3,y4,y5⟩,⟨u0,u1,u2,u3,u4,u5⟩,g0,g1,g2,g3⟩:=FS.out _ hSw;go_simp<;>with_reducible rfl
   try simp only [Act.put,zS,eZ,eS]
   refine tkI 16 rfl hHeld ?_
   try simp only [Act.put,zS,eZ,eS]
   refine tkH 17 _ (v:=.int .i64 (m0:Int)) hHeld ?_ ?_
   skip
   ·intro w hSw;go_simp<;>first | done | with_reducible rfl | simp [hm0]
   try simp only [Act.put,zS,eZ,eS]
   refine tkI 18 rfl hHeld ?_
   try simp only [Act.put,zS,eZ,eS]
   refine tkI 19 rfl hHeld ?_
   try simp only [Act.put,zS,eZ,eS]
   refine tkH 20 _ (v:=?_) hHeld ?_ ?_;rotate_left
   ·intro w hSw;obtain ⟨⟨y0,y1,y2,y3,y4,y5⟩,⟨u0,u1,u2,u3,u4,u5⟩,g0,g1,g2,g3⟩:=FS.out _ hSw;go_simp<;>with_reducible rfl
   try simp only [Act.put,zS,eZ,eS]
   refine tkI 21 rfl hHeld ?_
   try simp only [Act.put,zS,eZ,eS]
   refine tkH 22 _ (v:=?_) hHeld ?_ ?_;rotate_left
   ·intro w hSw;obtain ⟨⟨y0,y1,y2,y3,y4,y5⟩,⟨u0,u1,u2,u3,u4,u5⟩,g0,g1,g2,g3⟩:=FS.out _ hSw;go_simp<;>with_reducible rfl
   try simp only [Act.put,zS,eZ,eS]
   refine tkI 23 rfl hHeld ?_
   try simp only [Act.put,zS,eZ,eS]
   refine tkH 24 _ (v:=?_) hHeld ?_ ?_;rotate_left
   ·intro w hSw;obtain ⟨⟨y0,y1,y2,y3,y4,y5⟩,⟨u0,u1,u2,u3,u4,u5⟩,g0,g1,g2,g3⟩:=FS.out _ hSw;go_simp<;>with_reducible rfl
   try simp only [Act.put,zS,eZ,eS]
   refine tkI 25 rfl hHeld ?_
   try simp only [Act.put,zS,eZ,eS]
   refine tkH 26 _ (v:=.int .i64 (m1:Int)) hHeld ?_ ?_
   skip
   ·intro w hSw;go_simp<;>first | done | with_reducible rfl | simp [hm1]
   try simp only [Act.put,zS,eZ,eS]
   refine tkI 27 rfl hHeld ?_
   try simp only [Act.put,zS,eZ,eS]
   refine tkI 28 rfl hHeld ?_
   try simp only [Act.put,zS,eZ,eS]
   refine tkH 29 _ (v:=?_) hHeld ?_ ?_;rotate_left
   ·intro w hSw;obtain ⟨⟨y0,y1,y2,y3,y4,y5⟩,⟨u0,u1,u2,u3,u4,u5⟩,g0,g1,g2,g3⟩:=FS.out _ hSw;go_simp<;>with_reducible rfl
   try simp only [Act.put,zS,eZ,eS]
   refine tkH 30 _ (v:=.bool (!decide (hA=hB))) hHeld ?_ ?_
   skip
   ·intro w hSw;go_simp<;>first | done | with_reducible rfl | (rw [Bool.eq_iff_iff];simp) | simp
   try simp only [Act.put,zS,eZ,eS]
   refine tkH 31 _ (v:=.bool (!decide (hA=hB))) hHeld ?_ ?_
   skip
   ·intro w hSw;go_simp<;>first | done | with_reducible rfl | simp
   try simp only [Act.put,zS,eZ,eS]
   refine wpAnyH_done (by kernel_rfl) ?_ _
   by_cases hh:hA=hB
   ·rw [decide_eq_true hh]
    go_wp2
    go_ret
    exact ⟨by simp [hlo,hh],HBE.out.trans (HP0.out.mono HBE.out.size)⟩
   ·rw [decide_eq_false hh]
    go_wp2
    go_ret
    exact ⟨by simp [hh],HBE.out.trans (HP0.out.mono HBE.out.size)⟩
  ·
   refine wp_region_held_drew (S:=fun X:World=>Below w3.heap.size w3 X) (by kernel_rfl) (HP0.out) (fun hHeld=>?_)
   refine tkI 0 rfl hHeld ?_
   try simp only [Act.put,zS,eZ,eS]
   refine tkH 1 _ (v:=?_) hHeld ?_ ?_;rotate_left
   ·intro w hSw;obtain ⟨⟨y0,y1,y2,y3,y4,y5⟩,⟨u0,u1,u2,u3,u4,u5⟩,g0,g1,g2,g3⟩:=FS.out _ hSw;go_simp<;>with_reducible rfl
   try simp only [Act.put,zS,eZ,eS]
   refine tkI 2 rfl hHeld ?_
   try simp only [Act.put,zS,eZ,eS]
   refine tkI 3 rfl hHeld ?_
   try simp only [Act.put,zS,eZ,eS]
   refine tkH 4 _ (v:=?_) hHeld ?_ ?_;rotate_left
   ·intro w hSw;obtain ⟨⟨y0,y1,y2,y3,y4,y5⟩,⟨u0,u1,u2,u3,u4,u5⟩,g0,g1,g2,g3⟩:=FS.out _ hSw;go_simp<;>with_reducible rfl
   try simp only [Act.put,zS,eZ,eS]
   refine tkI 5 rfl hHeld ?_
   try simp only [Act.put,zS,eZ,eS]
   refine tkH 6 _ (v:=?_) hHeld ?_ ?_;rotate_left
   ·intro w hSw;obtain ⟨⟨y0,y1,y2,y3,y4,y5⟩,⟨u0,u1,u2,u3,u4,u5⟩,g0,g1,g2,g3⟩:=FS.out _ hSw;go_simp<;>with_reducible rfl
   try simp only [Act.put,zS,eZ,eS]
   refine tkI 7 rfl hHeld ?_
   try simp only [Act.put,zS,eZ,eS]
   refine tkI 8 rfl hHeld ?_
   try simp only [Act.put,zS,eZ,eS]
   refine tkH 9 _ (v:=?_) hHeld ?_ ?_;rotate_left
   ·intro w hSw;obtain ⟨⟨y0,y1,y2,y3,y4,y5⟩,⟨u0,u1,u2,u3,u4,u5⟩,g0,g1,g2,g3⟩:=FS.out _ hSw;go_simp<;>with_reducible rfl
   try simp only [Act.put,zS,eZ,eS]
   refine tkH 10 _ (v:=.bool true) hHeld ?_ ?_
   skip
   ·intro w hSw;go_simp<;>first | done | with_reducible rfl | simp [hlo]
   try simp only [Act.put,zS,eZ,eS]
   refine tkH 11 _ (v:=.bool true) hHeld ?_ ?_
   skip
   ·intro w hSw;(try dsimp only at hSw);go_simp<;>with_reducible rfl
   try simp only [Act.put,zS,eZ,eS]
   refine tkU 12 rfl hHeld ?_
   try simp only [Act.put,zS,eZ,eS]
   refine tkU 13 rfl hHeld ?_
   try simp only [Act.put,zS,eZ,eS]
   refine tkU 14 rfl hHeld ?_
   try simp only [Act.put,zS,eZ,eS]
   refine tkU 15 rfl hHeld ?_
   try simp only [Act.put,zS,eZ,eS]
   refine tkU 16 rfl hHeld ?_
   try simp only [Act.put,zS,eZ,eS]
   refine tkU 17 rfl hHeld ?_
   try simp only [Act.put,zS,eZ,eS]
   refine tkU 18 rfl hHeld ?_
   try simp only [Act.put,zS,eZ,eS]
   refine tkU 19 rfl hHeld ?_
   try simp only [Act.put,zS,eZ,eS]
   refine tkU 20 rfl hHeld ?_
   try simp only [Act.put,zS,eZ,eS]
   refine tkU 21 rfl hHeld ?_
   try simp only [Act.put,zS,eZ,eS]
   refine tkU 22 rfl hHeld ?_
   try simp only [Act.put,zS,eZ,eS]
   refine tkU 23 rfl hHeld ?_
   try simp only [Act.put,zS,eZ,eS]
   refine tkU 24 rfl hHeld ?_
   try simp only [Act.put,zS,eZ,eS]
   refine tkU 25 rfl hHeld ?_
   try simp only [Act.put,zS,eZ,eS]
   refine tkU 26 rfl hHeld ?_
   try simp only [Act.put,zS,eZ,eS]
   refine tkU 27 rfl hHeld ?_
   try simp only [Act.put,zS,eZ,eS]
   refine tkU 28 rfl hHeld ?_
   try simp only [Act.put,zS,eZ,eS]
   refine tkU 29 rfl hHeld ?_
   try simp only [Act.put,zS,eZ,eS]
   refine tkU 30 rfl hHeld ?_
   try simp only [Act.put,zS,eZ,eS]
   refine tkH 31 _ (v:=.bool true) hHeld ?_ ?_
   skip
   ·intro w hSw;go_simp<;>first | done | with_reducible rfl | simp
   try simp only [Act.put,zS,eZ,eS]
   refine wpAnyH_done (by kernel_rfl) ?_ _
   go_wp2
   go_ret
   exact ⟨by simp [hlo],HBE.out.trans (HP0.out.mono HBE.out.size)⟩
theorem rwhy_d {X Y:Nat→Prop} {W:World} {c k:List Value} {d o:MD} (h:Dc X W c d) (h':Dc Y W k o) (hf:Dm.FitsR o.r) (hn:o.set=false→0<d.r.length∧0<o.r.length) (hdl:d.r.length≤100000) (hol:o.r.length≤100000) :
  Calls Tryz.prog 72 #[.agg c.toArray,.agg k.toArray] W fun e w'=>e = .returned (.int .i64 (whyM d o))∧Below W.heap.size W w':=by
 cases hs:o.set
 ·exact rwhy_n h h' hs hf (hn hs).1 (hn hs).2 hdl hol
 ·exact rwhy_s h h' hs hf
def toldE (D:List MD) (E:List (Int × Int)):List (Int × Int):=E.filter fun e=>!reM (D.getD e.1.toNat ⟨false,[],[],[],0,0⟩)
theorem told_snoc (D:List MD) (E:List (Int × Int)) (e:Int × Int):toldE D (E++[e])=toldE D E++(if reM (D.getD e.1.toNat ⟨false,[],[],[],0,0⟩)=true then [] else [e]):=by
 unfold toldE
 rw [List.filter_append]
 congr 1
 cases h:reM (D.getD e.1.toNat ⟨false,[],[],[],0,0⟩)<;>simp only [List.filter_cons,List.filter_nil,h]<;>rfl
theorem told_len (D:List MD) (E:List (Int × Int)):(toldE D E).length≤E.length:=List.length_filter_le _ _
theorem revents_any {A:Nat→Prop} {W:World} {r:Nat} {D:List MD} {O:List (List MD)} {E:List (Int × Int)} {rl:Rl} (h:Rs A W r D O E rl) (hl:E.length≤1000) (hv:∀ e∈E,0≤e.1∧e.1<D.length) (hD:D.length≤1000) :
  Calls Tryz.prog 40 #[ptr r] W fun e w'=>∃ s,e = .returned s∧Rw w' 99 s 2 (evl (toldE D E))∧(∀ b,s.ownBlock=some b→W.heap.size≤b)∧∃ rl',Rs A w' r D O [] rl'∧Up (RX r rl) (RX r rl') W∧Kept (RX r rl) W w':=by
 obtain ⟨n,m,q,da,dc,oa,oc,ea,ec,os,rfl,HL⟩:=h.look
 have HR:Hid (Rs A W r D O E ⟨.slice da n dc,.slice oa m oc,.slice ea q ec,os⟩):=h
 have HDS:Hid (∀ w,Below W.heap.size W w→Ds w (.slice da n dc) D):=fun w hb=>(h.below hb).ds
 have HN:Hid (D.length=n):=HL.out.1
 have HQ:Hid (E.length=q):=HL.out.2.2.1
 have HEV:Hid (∀ e∈E,0≤e.1∧e.1<D.length):=hv
 have hq:(q:Int)≤1000:=by rw [←HQ.out];omega
 have hqe:E.length≤1000:=hl
 have hn:(n:Int)≤1000:=by rw [←HN.out];omega
 have HEC:Hid (0<q→∃ g,ea=some ⟨g,0,none⟩∧g<W.heap.size∧∀ (j:Nat) u,(evl E).flatten[j]? = some u→W.cell? ⟨g,j,none⟩=some u):=fun hq0=>by
  rcases h.evc with ⟨e1,e2⟩ | ⟨g,cap,e1,e2,e3,e4⟩
  ·rw [←HQ.out,e2] at hq0;simp at hq0
  ·injection e1 with e1 _ _;exact ⟨g,e1,e3,e4⟩
 clear h HL hv hD hl
 go_enter Tryz.func40,Tryz.ntmps40
 go_wp2
 go_loopw [3,4] (fun v i wr=>∃ k:Nat,i = .int .i64 (k:Int)∧k≤q∧Hid (wr.ownsRow W.heap.size 99 2 v (toldE D (E.take k)).length (evl (toldE D (E.take k))).flatten)∧Hid (Below W.heap.size W wr)) (fun _ i _=>q-(intOf i).toNat)
 case atStart=>exact ⟨0,rfl,Nat.zero_le _,World.ownsRow_nil _ _ _ _,Below.refl _ _⟩
 case round =>
  obtain ⟨k,rfl,hk,HOW,HB⟩:=hrel
  obtain ⟨la,lq,lc,rfl⟩:=own_shape HOW.out
  have hki:(k:Int)≤1000:=by omega
  obtain ⟨z0,z1,z2,zf⟩:=(HR.out.below HB.out).cells
  have zf2:=zf 2
  simp only at z0 z1 z2
  clear zf
  by_cases hlt:k<q
  ·have hlt':(k:Int)<(q:Int):=by omega
   have hwk:IntKind.i64.wrap ((k:Int)+1)=(k:Int)+1:=by rw [IntKind.wrap_i64];omega
   obtain ⟨g,rfl,hgl,hgc⟩:=HEC.out (by omega)
   obtain ⟨⟨ev,ey⟩,he⟩:∃ e,E[k]? = some e:=⟨_,List.getElem?_eq_getElem (by rw [HQ.out];exact hlt)⟩
   obtain ⟨hv0,hv1⟩:=HEV.out _ (List.mem_of_getElem? he)
   simp only at hv0 hv1
   obtain ⟨v,rfl⟩:∃ v:Nat,ev=(v:Int):=⟨ev.toNat,by omega⟩
   obtain ⟨d,hd⟩:∃ d,D[v]? = some d:=⟨_,List.getElem?_eq_getElem (by omega)⟩
   obtain ⟨b1,off1,rfl,hb1,_,x0,x1,x2,x3,x4,x5,hDc,i0,i1,i2,i3,i4,i5⟩:=(HDS.out W (Below.refl _ _)).at hd
   have HEK:Hid (E[k]? = some ((v:Int),ey)):=he
   have HGD:Hid (D.getD ((v:Int)).toNat ⟨false,[],[],[],0,0⟩=d):=by rw [Hid,show ((v:Int)).toNat=v by omega,List.getD,hd];rfl
   have HCC:Hid (∀ w,Below wr.heap.size wr w→w.cell? ⟨r,0,none⟩=some (.slice (some ⟨b1,off1,none⟩) n dc)∧w.cell? ⟨r,2,none⟩=some (.slice (some ⟨g,0,none⟩) q ec)∧w.cell? ⟨g,k*2,none⟩=some (.int .i64 (v:Int))∧w.cell? ⟨g,k*2+1,none⟩=some (.int .i64 ey)∧w.cell? ⟨b1,off1+v*6,none⟩=some x0∧w.cell? ⟨b1,off1+v*6+1,none⟩=some x1∧w.cell? ⟨b1,off1+v*6+2,none⟩=some x2∧w.cell? ⟨b1,off1+v*6+3,none⟩=some x3∧w.cell? ⟨b1,off1+v*6+4,none⟩=some x4∧w.cell? ⟨b1,off1+v*6+5,none⟩=some x5):=fun w hw0=>by
    have hw:=HB.out.trans (hw0.mono HB.out.size)
    have hcs:=(HR.out.below hw).cells
    exact ⟨hcs.1,hcs.2.2.1,(hw.cell (p:=⟨g,_,none⟩) hgl).trans (hgc _ _ (evl_at he).1),(hw.cell (p:=⟨g,_,none⟩) hgl).trans (hgc _ _ (evl_at he).2),(hw.cell (p:=⟨b1,_,none⟩) hb1).trans i0,(hw.cell (p:=⟨b1,_,none⟩) hb1).trans i1,(hw.cell (p:=⟨b1,_,none⟩) hb1).trans i2,(hw.cell (p:=⟨b1,_,none⟩) hb1).trans i3,(hw.cell (p:=⟨b1,_,none⟩) hb1).trans i4,(hw.cell (p:=⟨b1,_,none⟩) hb1).trans i5⟩
   have KE:Hid (∀ w,Below wr.heap.size wr w→Calls Tryz.prog 26 #[.agg #[x0,x1,x2,x3,x4,x5]] w fun e w'=>e = .returned (.bool (reM d))∧Below w.heap.size w w'):=fun w hw=>rempty_d (hDc.below (HB.out.trans (hw.mono HB.out.size)))
   have HP0:Hid (Below wr.heap.size wr wr.drew):=(Below.refl _ _).drew
   have hvn:v<n:=by have:=HN.out;omega
   have hvn':(v:Int)<(n:Int):=by omega
   clear he hd hDc hb1 hgl hgc i0 i1 i2 i3 i4 i5 hv0 hv1
   go_upto_region 5 with (fail)
   clear z0 z1 z2 zf2
   refine wp_region_held_drew (S:=fun X:World=>Below wr.heap.size wr X) (by kernel_rfl) (HP0.out) (fun hHeld=>?_)
   refine tkI 0 rfl hHeld ?_
   try simp only [Act.put,zS,eZ,eS]
   refine tkI 1 rfl hHeld ?_
   try simp only [Act.put,zS,eZ,eS]
   refine tkI 2 rfl hHeld ?_
   try simp only [Act.put,zS,eZ,eS]
   refine tkH 3 _ (v:=?_) hHeld ?_ ?_;rotate_left
   ·intro w hSw;obtain ⟨y0,y2,c0,c1,i0,i1,i2,i3,i4,i5⟩:=HCC.out _ hSw;go_simp<;>with_reducible rfl
   try simp only [Act.put,zS,eZ,eS]
   refine tkI 4 rfl hHeld ?_
   try simp only [Act.put,zS,eZ,eS]
   refine tkI 5 rfl hHeld ?_
   try simp only [Act.put,zS,eZ,eS]
   refine tkI 6 rfl hHeld ?_
   try simp only [Act.put,zS,eZ,eS]
   refine tkH 7 _ (v:=?_) hHeld ?_ ?_;rotate_left
   ·intro w hSw;obtain ⟨y0,y2,c0,c1,i0,i1,i2,i3,i4,i5⟩:=HCC.out _ hSw;go_simp<;>with_reducible rfl
   try simp only [Act.put,zS,eZ,eS]
   refine tkI 8 rfl hHeld ?_
   try simp only [Act.put,zS,eZ,eS]
   refine tkI 9 rfl hHeld ?_
   try simp only [Act.put,zS,eZ,eS]
   refine tkI 10 rfl hHeld ?_
   try simp only [Act.put,zS,eZ,eS]
   refine tkH 11 _ (v:=?_) hHeld ?_ ?_;rotate_left
   ·intro w hSw;obtain ⟨y0,y2,c0,c1,i0,i1,i2,i3,i4,i5⟩:=HCC.out _ hSw;go_simp<;>with_reducible rfl
   try simp only [Act.put,zS,eZ,eS]
   refine tkI 12 rfl hHeld ?_
   try simp only [Act.put,zS,eZ,eS]
   refine tkH 13 _ (v:=?_) hHeld ?_ ?_;rotate_left
   ·intro w hSw;obtain ⟨y0,y2,c0,c1,i0,i1,i2,i3,i4,i5⟩:=HCC.out _ hSw;go_simp<;>with_reducible rfl
   try simp only [Act.put,zS,eZ,eS]
   refine rdy 14 rfl fun K hK=>?_
   go_simp
   refine (KE.out _ HP0.out).mono ?_
   rintro e w1 ⟨rfl,hb1⟩
   have HP1:Hid (Below wr.heap.size wr w1):=HP0.out.trans (hb1.mono HP0.out.size)
   clear hb1
   clear hHeld;refine hK.out _ _ (HP1.out) fun hHeld=>?_
   clear hK K
   try simp only [Act.put,zS,eZ,eS]
   refine tkI 15 rfl hHeld ?_
   try simp only [Act.put,zS,eZ,eS]
   refine wpAnyH_done (by kernel_rfl) ?_ _
   have HB1:Hid (Below W.heap.size W w1):=HB.out.trans (HP1.out.mono HB.out.size)
   have HO1:Hid (w1.ownsRow W.heap.size 99 2 (.slice la lq lc) (toldE D (E.take k)).length (evl (toldE D (E.take k))).flatten):=own_below HOW.out HP1.out
   have HTK:Hid (E.take (k+1)=E.take k++[((v:Int),ey)]):=by rw [Hid,List.take_add_one,HEK.out];rfl
   have HTS:=hid (told_snoc D (E.take k) ((v:Int),ey))
   rw [Hid,←HTK.out] at HTS
   have HTS:=hid HTS
   obtain ⟨y0,y2,c0,c1,i0,i1,i2,i3,i4,i5⟩:=HCC.out _ HP1.out
   clear hHeld
   cases hre:reM d
   ·have HT2:Hid (toldE D (E.take (k+1))=toldE D (E.take k)++[((v:Int),ey)]):=by rw [Hid,HTS.out];simp only [HGD.out,hre];rfl
    obtain ⟨bs,hbs⟩:∃ q,w1.heap.size=q:=⟨_,rfl⟩
    obtain ⟨w2,hw2⟩:∃ q,w1.alloc (Obj.cells #[.int .i64 (v:Int),.int .i64 ey] 99)=q:=⟨_,rfl⟩
    have hb12:Below w1.heap.size w1 w2:=by rw [←hw2];exact (Below.refl _ _).alloc (Nat.le_refl _) _
    have HBS:Hid (Bx w2 bs #[.int .i64 (v:Int),.int .i64 ey] 99):=by rw [←hw2];exact Bx.new' hbs _ _
    have HB2:=hid (HB1.out.trans (hb12.mono HB1.out.size))
    have HO2:=hid (own_below HO1.out hb12)
    have HW2:Hid (w1.alloc (Obj.cells #[.int .i64 (v:Int),.int .i64 ey] 99)=w2):=hw2
    have HBI:Hid (w1.heap.size=bs):=hbs
    have HLT:Hid ((toldE D (E.take k)).length≤1000):=by rw [Hid];have:=told_len D (E.take k);have:=List.length_take_le k E;omega
    clear hw2 hb12 hbs
    go_wp2_with (at_builtin;(try rw [HW2.out]);(try rw [HBI.out]);refine list_appN HO2.out rfl _ _ rfl rfl (.slice (some ⟨bs,0,none⟩) 1 1) (by with_unfolding_all rfl) 1 [.int .i64 (v:Int),.int .i64 ey] (.inr ⟨⟨bs,0,none⟩,1,rfl,rfl,fun j u hu=>by rw [Addr.add_mid,Nat.zero_add,HBS.out.cell j];simpa using hu⟩) (by intro u hu;simp only [List.mem_cons,List.not_mem_nil,or_false] at hu;rcases hu with rfl | rfl<;>rfl) (by have:=HLT.out;omega) HB2.out.size ?_;intro v3 w3 ho3 hg3;refine Hid.out ?_)
    refine (show Hid _ from ?_)
    unfold Hid
    obtain ⟨x3,y3,z3,rfl⟩:=own_shape ho3
    have HO3:Hid (w3.ownsRow W.heap.size 99 2 (.slice x3 y3 z3) (toldE D (E.take (k+1))).length (evl (toldE D (E.take (k+1)))).flatten):=by rw [Hid,HT2.out,evl_app,List.length_append];exact ho3
    have HB3:Hid (Below W.heap.size W w3):=HB2.out.trans (growB hg3 (fun b q=>(own_zero HO2.out).2 b q) HB2.out.size)
    clear ho3 hg3 HW2 HBI HBS HO2 y0 y2 c0 c1 i0 i1 i2 i3 i4 i5
    go_wp2
    go_roundw
    case rel=>exact ⟨k+1,by go_num,by omega,HO3,HB3⟩
    case measure=>simp [intOf];omega
   ·have HT2:Hid (toldE D (E.take (k+1))=toldE D (E.take k)):=by rw [Hid,HTS.out];simp only [HGD.out,hre];simp
    clear y0 y2 c0 c1 i0 i1 i2 i3 i4 i5
    go_wp2
    go_roundw
    case rel=>exact ⟨k+1,by go_num,by omega,(by rw [HT2.out];exact HO1),HB1⟩
    case measure=>simp [intOf];omega
  ·obtain rfl:k=q:=by omega
   have e0:E.take k=E:=by rw [←HQ.out];exact List.take_length
   have HE0:=hid (HR.out.setE (E':=[]) HB.out (ev':=.slice none 0 0) ⟨(fun c hc=>by simp [evl] at hc),World.ownsRow_nil _ _ _ _⟩ (fun b hb=>by cases hb))
   have HW9:Hid (Rw (wr.setCell ⟨r,2,none⟩ (.slice none 0 0)) 99 (.slice la lq lc) 2 (evl (toldE D E))∧∀ b,(Value.slice la lq lc).ownBlock=some b→W.heap.size≤b):=by
    have h1:=HOW.out
    rw [e0] at h1
    obtain ⟨h2,h3⟩:=own_zero h1
    have hrw:Rw wr 99 (.slice la lq lc) 2 (evl (toldE D E)):=⟨fun c hc=>by obtain ⟨e,_,rfl⟩:=List.mem_map.1 hc;rfl,by rw [evl_len];exact h2⟩
    exact ⟨hrw.stay (Kept.one (a:=wr) rfl) (hrw.nep (HR.out.below HB.out).blk (by decide)),h3⟩
   go_wp2
   go_ret
   exact ⟨_,rfl,HW9.out.1,HW9.out.2,_,HE0.out⟩
theorem pos_lt {e:Int × Int} {E:List (Int × Int)} {v:Int} (h:e.1<v):pos (e :: E) v=pos E v+1:=by unfold pos;rw [List.takeWhile_cons,if_pos (by simpa using h)];rfl
theorem pos_ge {e:Int × Int} {E:List (Int × Int)} {v:Int} (h:¬e.1<v):pos (e :: E) v=0:=by unfold pos;rw [List.takeWhile_cons,if_neg (by simpa using h)];rfl
theorem tell_lt {e:Int × Int} {E:List (Int × Int)} {v y:Int} (h:e.1<v):tellE (e :: E) v y=e :: tellE E v y:=by
 unfold tellE
 rw [pos_lt h,List.getElem?_cons_succ]
 cases hh:E[pos E v]? with
 | none=>rfl
 | some f =>
  simp only
  split
  ·split
   ·rfl
   ·rfl
  ·rfl
theorem tell_eq {e:Int × Int} {E:List (Int × Int)} {v y:Int} (h:e.1=v):tellE (e :: E) v y=(if y<e.2 then (v,y) else e) :: E:=by
 unfold tellE
 rw [pos_ge (by omega)]
 simp only [List.getElem?_cons_zero,if_pos h]
 split<;>rfl
theorem tell_gt {e:Int × Int} {E:List (Int × Int)} {v y:Int} (h:v<e.1):tellE (e :: E) v y=(v,y) :: e :: E:=by
 unfold tellE
 rw [pos_ge (by omega)]
 simp only [List.getElem?_cons_zero,if_neg (show ¬e.1=v by omega)]
 rfl
def seenF:Nat→List Int→List (Int × Int)
 | _,[]=>[]
 | k,w :: ws=>if w=0 then seenF (k+1) ws else ((k:Int),w) :: seenF (k+1) ws
theorem seen_ge:∀ (ws:List Int) (k:Nat),∀ e∈seenF k ws,(k:Int)≤e.1
 | [],k,e,h=>by cases h
 | w :: ws,k,e,h=>by
  unfold seenF at h
  split at h
  ·have:=seen_ge ws (k+1) e h;omega
  ·rcases List.mem_cons.1 h with q | q
   ·rw [q];exact Int.le_refl _
   ·have:=seen_ge ws (k+1) e q;omega
theorem tell_first {E:List (Int × Int)} {v y:Int} (h:∀ e∈E,v<e.1):tellE E v y=(v,y) :: E:=by
 cases E with
 | nil=>rfl
 | cons e E=>exact tell_gt (h e (List.mem_cons_self ..))
theorem tell_seen:∀ (ws:List Int) (k i:Nat) (y:Int),i<ws.length→y≠0→tellE (seenF k ws) ((k+i:Nat):Int) y=seenF k (tellM ws i y)
 | [],k,i,y,h,_=>by simp at h
 | w :: ws,k,0,y,_,hy=>by
  have hge:=seen_ge ws (k+1)
  by_cases hw:w=0
  ·have e1:seenF k (w :: ws)=seenF (k+1) ws:=by rw [seenF,if_pos hw]
   have e2:tellM (w :: ws) 0 y=y :: ws:=by unfold tellM;simp [hw]
   rw [e1,e2,seenF,if_neg hy]
   exact tell_first fun e he=>by have:=hge e he;omega
  ·have e1:seenF k (w :: ws)=((k:Int),w) :: seenF (k+1) ws:=by rw [seenF,if_neg hw]
   rw [e1,tell_eq (by simp)]
   by_cases hl:y<w
   ·have e2:tellM (w :: ws) 0 y=y :: ws:=by unfold tellM;simp [hl]
    rw [e2,seenF,if_neg hy]
    simp [hl]
   ·have e2:tellM (w :: ws) 0 y=w :: ws:=by unfold tellM;simp [hw,hl]
    rw [e2,e1]
    simp [hl]
 | w :: ws,k,i+1,y,h,hy=>by
  have ih:=tell_seen ws (k+1) i y (by simpa using h) hy
  have ek:((k+(i+1):Nat):Int)=((k+1+i:Nat):Int):=by omega
  have e2:tellM (w :: ws) (i+1) y=w :: tellM ws i y:=by
   unfold tellM
   simp only [List.getD_cons_succ]
   split<;>rfl
  rw [ek,e2]
  by_cases hw:w=0
  ·rw [seenF,if_pos hw,seenF,if_pos hw]
   exact ih
  ·rw [seenF,if_neg hw,seenF,if_neg hw,tell_lt (by simp;omega),ih]
theorem told_seen (st:StM) (hR:∀ v:Nat,reM (st.D.getD v ⟨false,[],[],[],0,0⟩)=emptyA (st.D.getD v ⟨false,[],[],[],0,0⟩)):∀ (ws:List Int) (k:Nat),(∀ j:Nat,j<ws.length→st.why.getD (k+j) 0=ws.getD j 0)→evl (toldE st.D (seenF k ws))=(List.range ws.length).filterMap fun j=>evA st (k+j)
 | [],k,_=>rfl
 | w :: ws,k,h=>by
  have ih:=told_seen st hR ws (k+1) (fun j hj=>by have:=h (j+1) (by simpa using hj);rw [show k+1+j=k+(j+1) by omega,this,List.getD_cons_succ])
  have h0:st.why.getD k 0=w:=by have:=h 0 (by simp);simpa using this
  rw [List.length_cons,List.range_succ_eq_map,List.filterMap_cons,List.filterMap_map]
  have e1:((fun j=>evA st (k+j)) ∘ Nat.succ)=fun j=>evA st (k+1+j):=by funext j;show evA st (k+(j+1))=_;rw [show k+(j+1)=k+1+j by omega]
  rw [e1,←ih]
  have e2:evA st (k+0)=if w≠0∧emptyA (st.D.getD k ⟨false,[],[],[],0,0⟩)=false then some [.int .i64 k,.int .i64 w] else none:=by unfold evA;rw [Nat.add_zero,h0]
  rw [e2]
  by_cases hw:w=0
  ·rw [seenF,if_pos hw,if_neg (fun q=>q.1 hw)]
  ·rw [seenF,if_neg hw]
   unfold toldE
   rw [List.filter_cons]
   simp only [Int.toNat_natCast,hR k]
   cases he:emptyA (st.D.getD k ⟨false,[],[],[],0,0⟩)
   ·simp [evl,hw]
   ·simp
theorem told_evs (st:StM) (hR:∀ v:Nat,reM (st.D.getD v ⟨false,[],[],[],0,0⟩)=emptyA (st.D.getD v ⟨false,[],[],[],0,0⟩)) (hl:st.why.length=st.D.length):evl (toldE st.D (seenF 0 st.why))=evsA st st.D.length:=by
 rw [told_seen st hR st.why 0 (fun j _=>by rw [Nat.zero_add]),hl]
 unfold evsA
 congr 1
 funext j
 rw [Nat.zero_add]
theorem events_same {W:World} {s1 s2:Value} {E:List (Int × Int)} (h1:Rw W 61 s1 2 (evl E)) (h2:Rw W 99 s2 2 (evl E)) (hl:E.length≤1000) :
  Calls Tryz.prog 39 #[s1,s2] W fun e w'=>e = .returned (.bool true)∧Below W.heap.size W w':=by
 obtain ⟨a1,k1,e1,l1,_⟩:=h1.shape
 obtain ⟨a2,k2,e2,l2,_⟩:=h2.shape
 subst e1 e2
 obtain ⟨n,hn⟩:∃ n,E.length=n:=⟨_,rfl⟩
 rw [evl_len] at l1 l2
 have HC:Hid (∀ (k:Nat) e,E[k]? = some e→∃ g1 g2,a1=some ⟨g1,0,none⟩∧a2=some ⟨g2,0,none⟩∧g1<W.heap.size∧g2<W.heap.size∧W.cell? ⟨g1,k*2,none⟩=some (.int .i64 e.1)∧W.cell? ⟨g1,k*2+1,none⟩=some (.int .i64 e.2)∧W.cell? ⟨g2,k*2,none⟩=some (.int .i64 e.1)∧W.cell? ⟨g2,k*2+1,none⟩=some (.int .i64 e.2)):=fun k e he=>by
  have hk:(evl E)[k]? = some [.int .i64 e.1,.int .i64 e.2]:=by unfold evl;rw [List.getElem?_map,he];rfl
  obtain ⟨g1,c1,e1,q1,_,_,r1,_⟩:=h1.at hk
  obtain ⟨g2,c2,e2,q2,_,_,r2,_⟩:=h2.at hk
  injection e1 with e1 _ _
  injection e2 with e2 _ _
  exact ⟨g1,g2,e1,e2,q1,q2,by simpa using r1 0 _ rfl,r1 1 _ rfl,by simpa using r2 0 _ rfl,r2 1 _ rfl⟩
 simp only [evl_len,hn]
 have HN:Hid (E.length=n):=hn
 have hn':(n:Int)≤1000:=by omega
 clear h1 h2 hl hn l1 l2
 go_enter Tryz.func39,Tryz.ntmps39
 go_wp2
 go_loopw [5] (fun i wr=>∃ k:Nat,i = .int .i64 (k:Int)∧k≤n∧Hid (Below W.heap.size W wr)) (fun i _=>n-(intOf i).toNat)
 case atStart=>exact ⟨0,rfl,Nat.zero_le _,Below.refl _ _⟩
 case round =>
  obtain ⟨k,rfl,hk,HB⟩:=hrel
  have hki:(k:Int)≤1000:=by omega
  by_cases hlt:k<n
  ·have hlt':(k:Int)<(n:Int):=by omega
   have hwk:IntKind.i64.wrap ((k:Int)+1)=(k:Int)+1:=by rw [IntKind.wrap_i64];omega
   obtain ⟨⟨ev,ey⟩,he⟩:∃ e,E[k]? = some e:=⟨_,List.getElem?_eq_getElem (by rw [HN.out];exact hlt)⟩
   obtain ⟨g1,g2,rfl,rfl,hg1,hg2,i0,i1,i2,i3⟩:=HC.out k _ he
   have HCC:Hid (∀ w,Below wr.heap.size wr w→w.cell? ⟨g1,k*2,none⟩=some (.int .i64 ev)∧w.cell? ⟨g1,k*2+1,none⟩=some (.int .i64 ey)∧w.cell? ⟨g2,k*2,none⟩=some (.int .i64 ev)∧w.cell? ⟨g2,k*2+1,none⟩=some (.int .i64 ey)):=fun w hw0=>by
    have hw:=HB.out.trans (hw0.mono HB.out.size)
    exact ⟨(hw.cell (p:=⟨g1,_,none⟩) hg1).trans i0,(hw.cell (p:=⟨g1,_,none⟩) hg1).trans i1,(hw.cell (p:=⟨g2,_,none⟩) hg2).trans i2,(hw.cell (p:=⟨g2,_,none⟩) hg2).trans i3⟩
   have HP0:Hid (Below wr.heap.size wr wr.drew):=(Below.refl _ _).drew
   clear he hg1 hg2 i0 i1 i2 i3
   go_upto_region 6 with (fail)
   refine wp_region_held_drew (S:=fun X:World=>Below wr.heap.size wr X) (by kernel_rfl) (HP0.out) (fun hHeld=>?_)
   refine tkI 0 rfl hHeld ?_
   try simp only [Act.put,zS,eZ,eS]
   refine tkI 1 rfl hHeld ?_
   try simp only [Act.put,zS,eZ,eS]
   refine tkI 2 rfl hHeld ?_
   try simp only [Act.put,zS,eZ,eS]
   refine tkI 3 rfl hHeld ?_
   try simp only [Act.put,zS,eZ,eS]
   refine tkH 4 _ (v:=?_) hHeld ?_ ?_;rotate_left
   ·intro w hSw;obtain ⟨c0,c1,d0,d1⟩:=HCC.out _ hSw;go_simp<;>with_reducible rfl
   try simp only [Act.put,zS,eZ,eS]
   refine tkI 5 rfl hHeld ?_
   try simp only [Act.put,zS,eZ,eS]
   refine tkI 6 rfl hHeld ?_
   try simp only [Act.put,zS,eZ,eS]
   refine tkI 7 rfl hHeld ?_
   try simp only [Act.put,zS,eZ,eS]
   refine tkI 8 rfl hHeld ?_
   try simp only [Act.put,zS,eZ,eS]
   refine tkH 9 _ (v:=?_) hHeld ?_ ?_;rotate_left
   ·intro w hSw;obtain ⟨c0,c1,d0,d1⟩:=HCC.out _ hSw;go_simp<;>with_reducible rfl
   try simp only [Act.put,zS,eZ,eS]
   refine tkH 10 _ (v:=.bool false) hHeld ?_ ?_
   skip
   ·intro w hSw;obtain ⟨c0,c1,d0,d1⟩:=HCC.out _ hSw;go_simp<;>first | done | with_reducible rfl | simp
   try simp only [Act.put,zS,eZ,eS]
   refine tkH 11 _ (v:=.bool false) hHeld ?_ ?_
   skip
   ·intro w hSw;(try dsimp only at hSw);go_simp<;>with_reducible rfl
   try simp only [Act.put,zS,eZ,eS]
   refine tkI 12 rfl hHeld ?_
   try simp only [Act.put,zS,eZ,eS]
   refine tkI 13 rfl hHeld ?_
   try simp only [Act.put,zS,eZ,eS]
   refine tkI 14 rfl hHeld ?_
   try simp only [Act.put,zS,eZ,eS]
   refine tkI 15 rfl hHeld ?_
   try simp only [Act.put,zS,eZ,eS]
   refine tkH 16 _ (v:=?_) hHeld ?_ ?_;rotate_left
   ·intro w hSw;obtain ⟨c0,c1,d0,d1⟩:=HCC.out _ hSw;go_simp<;>with_reducible rfl
   try simp only [Act.put,zS,eZ,eS]
   refine tkI 17 rfl hHeld ?_
   try simp only [Act.put,zS,eZ,eS]
   refine tkI 18 rfl hHeld ?_
   try simp only [Act.put,zS,eZ,eS]
   refine tkI 19 rfl hHeld ?_
   try simp only [Act.put,zS,eZ,eS]
   refine tkI 20 rfl hHeld ?_
   try simp only [Act.put,zS,eZ,eS]
   refine tkH 21 _ (v:=?_) hHeld ?_ ?_;rotate_left
   ·intro w hSw;obtain ⟨c0,c1,d0,d1⟩:=HCC.out _ hSw;go_simp<;>with_reducible rfl
   try simp only [Act.put,zS,eZ,eS]
   refine tkH 22 _ (v:=.bool false) hHeld ?_ ?_
   skip
   ·intro w hSw;obtain ⟨c0,c1,d0,d1⟩:=HCC.out _ hSw;go_simp<;>first | done | with_reducible rfl | simp
   try simp only [Act.put,zS,eZ,eS]
   refine tkH 23 _ (v:=.bool false) hHeld ?_ ?_
   skip
   ·intro w hSw;go_simp<;>first | done | with_reducible rfl | simp
   try simp only [Act.put,zS,eZ,eS]
   refine wpAnyH_done (by kernel_rfl) ?_ _
   go_wp2
   go_roundw
   case rel=>exact ⟨k+1,by go_num,by omega,HB.out.trans (HP0.out.mono HB.out.size)⟩
   case measure=>simp [intOf];omega
  ·go_wp2
   go_ret
   exact ⟨rfl,HB.out⟩
theorem Rs.appD {A:Nat→Prop} {W w w1:World} {r:Nat} {D:List MD} {O:List (List MD)} {E:List (Int × Int)} {rl:Rl} (h:Rs A W r D O E rl) (hb:Below W.heap.size W w) {cs:List (List Value)} (hrow:Rw w 37 rl.dv 6 cs) (hdr:Dr (fun b=>RX r rl b∨A b) w cs D) {dv':Value} {c:List Value} {d:MD} (hg:w.grownBy w1 rl.dv.ownBlock) (hr:Rw w1 37 dv' 6 (cs++[c])) (hn:∀ b,dv'.ownBlock=some b→rl.dv.ownBlock=some b∨w.heap.size≤b)
  (hc:∀ Z:Nat→Prop,(∀ b,Z b→b<W.heap.size)→Dc Z w c d) :
  Rs A (w1.setCell ⟨r,0,none⟩ dv') r (D++[d]) O E { rl with dv:=dv' }∧Up (RX r rl) (RX r { rl with dv:=dv' }) W∧Kept (RX r rl) W (w1.setCell ⟨r,0,none⟩ dv'):=by
 have hx:=h.x_lt
 have hs:=hb.size
 have h2:=h.below hb
 have u:Up (RX r rl) (RX r { rl with dv:=dv' }) w:=fun b q=>by
  rcases q with q | q | q | q | q
  ·exact .inl (.inl q)
  ·exact .inl (.inr (.inl q))
  ·exact .inl (.inr (.inr (.inl q)))
  ·rcases hn b q with q | q
   ·exact .inl (.inr (.inr (.inr (.inl q))))
   ·exact .inr q
  ·exact .inl (.inr (.inr (.inr (.inr q))))
 have k4:Kept (RX r rl) w (w1.setCell ⟨r,0,none⟩ dv'):=(Kept.mono (X:=fun b=>rl.dv.ownBlock=some b) (Y:=RX r rl) ⟨hg.os,hg.tape,hg.output,hg.size,fun b q1 q2=>hg.block b q1 (fun e=>q2 e.symm)⟩ fun b q=>.inr (.inr (.inr (.inl q)))).setCell (.inl rfl) 0 dv'
 have k:Kept (RX r rl) W (w1.setCell ⟨r,0,none⟩ dv'):=(Kept.of_below (X:=RX r rl) hb).trans k4 (Up.refl _ _)
 have kZ:Kept (fun b=>RX r rl b∨A b) w (w1.setCell ⟨r,0,none⟩ dv'):=k4.mono fun b q=>.inl q
 have uZ:Up (fun b=>RX r rl b∨A b) (fun b=>RX r { rl with dv:=dv' } b∨A b) w:=fun b q=>by
  rcases q with q | q
  ·exact (u b q).imp .inl id
  ·exact .inl (.inr q)
 have hrn:rl.dv.ownBlock≠some r:=hrow.nep h2.blk (by decide)
 have hp1:w1.heap[r]? = some (.cells #[rl.dv,rl.ov,rl.ev] 74 (0,0)):=(hg.block r h2.r_lt (fun e=>hrn e.symm)).trans h2.blk
 have ks:Kept (fun b=>b=r) w1 (w1.setCell ⟨r,0,none⟩ dv'):=Kept.one (a:=w1) rfl
 have kb:∀ b,b<w.heap.size→b≠r→rl.dv.ownBlock≠some b→(w1.setCell ⟨r,0,none⟩ dv').heap[b]? = w.heap[b]?:=fun b q1 q2 q3 =>
  (ks.block b (Nat.lt_of_lt_of_le q1 hg.size) q2).trans (hg.block b q1 (fun e=>q3 e.symm))
 refine ⟨⟨heap_setCell_in hp1 (by simp),⟨cs++[c],hr.stay ks (hr.nep hp1 (by decide)),by simp [hdr.1],fun i kc dd h1 h3=>?_⟩,h2.ov.keep fun b q=>kb b (h2.ov.lt q) (fun e=>h2.ov.nep h2.blk (by decide) (e▸q)) (fun e=>hrow.ne h2.ov (by decide) e q),h2.ol,fun i s L h1 h3=>?_,h2.ev.keep fun b q=>kb b (h2.ev.lt q) (fun e=>h2.ev.nep h2.blk (by decide) (e▸q)) (fun e=>hrow.ne h2.ev (by decide) e q),fun s h1 b h3 e=>?_,h2.nn,fun b q=>Nat.lt_of_lt_of_le (h2.al b q) k4.size,fun b q hA=>?_⟩,fun b q=>(u b q).imp id (fun q=>Nat.le_trans hs q),k⟩
 ·by_cases hi:i<cs.length
  ·rw [List.getElem?_append_left hi] at h1
   rw [List.getElem?_append_left (by rw [←hdr.1];exact hi)] at h3
   exact (hdr.2 i kc dd h1 h3).go kZ uZ
  ·have hl:=(List.getElem?_eq_some_iff.1 h1).1
   simp at hl
   have e:i=cs.length:=by omega
   subst e
   rw [List.getElem?_append_right (Nat.le_refl _),Nat.sub_self] at h1
   rw [hdr.1,List.getElem?_append_right (Nat.le_refl _),Nat.sub_self] at h3
   injection h1 with h1
   injection h3 with h3
   subst h1 h3
   exact (hc _ (fun b q=>q.elim (hx b) (h.al b))).go kZ uZ
 ·exact (h2.o i s L h1 h3).go kZ (fun b q=>kb b ((h2.o i s L h1 h3).lt q) (fun e=>nep_o (h2.o i s L h1 h3) h2.blk (by decide) (e▸q)) (h2.nd s (List.mem_of_getElem? h1) b q)) uZ
 ·rcases hn b e with q | q
  ·exact h2.nd s h1 b h3 q
  ·have:=h2.x_lt b (.inr (.inr (.inr (.inr ⟨s,h1,h3⟩))));omega
 ·rcases u b q with q | q
  ·exact h2.ao b q hA
  ·have:=h2.al b hA;omega
theorem rtight_sx {X:Nat→Prop} {W:World} {c:List Value} {d:MD} (h:Dc X W c d) (hz:SzD d) (hs:d.set=true):Calls Tryz.prog 33 #[.agg c.toArray] W fun e w'=>∃ q:List Value,e = .returned (.agg q.toArray)∧(∀ Z:Nat→Prop,(∀ b,Z b→b<W.heap.size)→Dc Z w' q (rtM d))∧Below W.heap.size W w':=by
 obtain ⟨N,hN⟩:∃ N,W.heap.size=N:=⟨_,rfl⟩
 have h0:=h
 obtain ⟨b,ra,n0,rc,a1,n1,c1,a2,n2,c2,x,y,rfl,HE,H1,H2,H3⟩:=h.look
 obtain rfl:b=true:=by rw [←HE.out.1,hs]
 obtain ⟨W0,hW0⟩:∃ Q,(W.alloc (Obj.cells #[.bool true,.slice ra n0 rc,.slice a1 n1 c1,.slice a2 n2 c2,.int .i64 x,.int .i64 y] 37)).alloc (Obj.cells #[.bool false,.slice none 0 0,.slice none 0 0,.slice none 0 0,.int .i64 0,.int .i64 0] 37)=Q:=⟨_,rfl⟩
 have hb0:Below W.heap.size W W0:=by rw [←hW0];exact ((Below.refl _ W).alloc (Nat.le_refl _) _).alloc (by simp) _
 have HX:Hid (Bx W0 N #[.bool true,.slice ra n0 rc,.slice a1 n1 c1,.slice a2 n2 c2,.int .i64 x,.int .i64 y] 37):=by rw [←hW0];exact (Bx.new' hN _ _).alloc _
 have HR:Hid (Bx W0 (N+1) #[.bool false,.slice none 0 0,.slice none 0 0,.slice none 0 0,.int .i64 0,.int .i64 0] 37):=by rw [←hW0];exact Bx.new' (by simp [hN]) _ _
 have HS0:Hid (W0.heap.size=N+2):=by unfold Hid;rw [←hW0];simp [hN]
 have HB0:Hid (Below W.heap.size W W0):=hb0
 have kr:=St.refboth_any _ _ (sdM d) (sdM d) W0 (h0.below hb0).di (h0.below hb0).di
 have HM:Hid (rtM d=ofSD (St.rbothD (sdM d) (sdM d))):=by unfold Hid rtM;rw [hs];rfl
 have HW0:Hid _:=hW0
 have HN:Hid (W.heap.size=N):=hN
 clear h h0 hs HE H1 H2 H3 hW0 hb0 hz
 obtain ⟨z0,z1,z2,z3,z4,z5⟩:=HX.out.six
 rw [HM.out,hN]
 go_enter Tryz.func33,Tryz.ntmps33
 go_upto_region 1 with (fail)
 rw [HW0.out]
 clear hN
 go_wp2_with fail
 refine kr.mono ?_
 clear kr
 rintro e w1 ⟨v',rfl,hv,hb1⟩
 obtain ⟨q,rfl,hA⟩:=dv_ans hv
 have HDA:Hid (∀ Z:Nat→Prop,(∀ b,Z b→b<N)→Dc (fun b=>b=N+1∨Z b) w1 q (ofSD (St.rbothD (sdM d) (sdM d)))):=fun Z hZ=>hA.dc _ (fun b hb=>by rw [HS0.out];rcases hb with hb | hb;omega;have:=hZ b hb;omega)
 have HDC:Hid (Dc (fun b=>b=N+1) w1 q (ofSD (St.rbothD (sdM d) (sdM d)))):=hA.dc _ (fun b hb=>by rw [hb,HS0.out];omega)
 clear hA hv
 have HRx:=hid (HR.out.below hb1)
 have HBL:Hid (Below N W w1):=by rw [←HN.out];exact HB0.out.trans (hb1.mono HB0.out.size)
 clear hb1
 go_wp2_with (with_reducible refine stD rfl (.tmp 2) (.tmp 7) rfl (N+1) q (by with_unfolding_all rfl) (by with_unfolding_all rfl) HRx.out rfl HDC.out.len HDC.out.one ?_)
 refine ⟨rfl,_,resD rfl _ (HRx.out.setRow _) HDC.out.len (by with_unfolding_all rfl),q,rfl,?_,?_⟩
 ·have hk:Kept (fun b=>b=N+1) w1 (w1.setRow (N+1) q.toArray):=⟨rfl,rfl,rfl,by simp [World.setRow],fun b _ hb=>setRow_other _ _ b _ hb⟩
  exact fun Z hZ=>((HDA.out Z hZ).kept (hk.mono fun b e=>.inl e)).up (fun b hb=>.inl (.inr hb))
 ·exact below_row HBL.out (by omega) _
theorem rtight_nx {X:Nat→Prop} {W:World} {c:List Value} {d:MD} (h:Dc X W c d) (hz:SzD d) (hs:d.set=false):Calls Tryz.prog 33 #[.agg c.toArray] W fun e w'=>∃ q:List Value,e = .returned (.agg q.toArray)∧(∀ Z:Nat→Prop,(∀ b,Z b→b<W.heap.size)→Dc Z w' q (rtM d))∧Below W.heap.size W w':=by
 obtain ⟨N,hN⟩:∃ N,W.heap.size=N:=⟨_,rfl⟩
 have h0:=h
 obtain ⟨b,ra,n0,rc,a1,n1,c1,a2,n2,c2,x,y,rfl,HE,H1,H2,H3⟩:=h.look
 obtain rfl:b=false:=by rw [←HE.out.1,hs]
 obtain ⟨W0,hW0⟩:∃ Q,(W.alloc (Obj.cells #[.bool false,.slice ra n0 rc,.slice a1 n1 c1,.slice a2 n2 c2,.int .i64 x,.int .i64 y] 37)).alloc (Obj.cells #[.bool false,.slice none 0 0,.slice none 0 0,.slice none 0 0,.int .i64 0,.int .i64 0] 37)=Q:=⟨_,rfl⟩
 have hb0:Below W.heap.size W W0:=by rw [←hW0];exact ((Below.refl _ W).alloc (Nat.le_refl _) _).alloc (by simp) _
 have HX:Hid (Bx W0 N #[.bool false,.slice ra n0 rc,.slice a1 n1 c1,.slice a2 n2 c2,.int .i64 x,.int .i64 y] 37):=by rw [←hW0];exact (Bx.new' hN _ _).alloc _
 have HR:Hid (Bx W0 (N+1) #[.bool false,.slice none 0 0,.slice none 0 0,.slice none 0 0,.int .i64 0,.int .i64 0] 37):=by rw [←hW0];exact Bx.new' (by simp [hN]) _ _
 have HS0:Hid (W0.heap.size=N+2):=by unfold Hid;rw [←hW0];simp [hN]
 have HB0:Hid (Below W.heap.size W W0):=hb0
 have kr:=lent_z (h0.below hb0) hz
 have HM:Hid (rtM d=d):=by unfold Hid rtM;rw [hs];rfl
 have HW0:Hid _:=hW0
 have HN:Hid (W.heap.size=N):=hN
 clear h h0 hs HE H1 H2 H3 hW0 hb0 hz
 obtain ⟨z0,z1,z2,z3,z4,z5⟩:=HX.out.six
 rw [HM.out,hN]
 go_enter Tryz.func33,Tryz.ntmps33
 go_upto_region 1 with (fail)
 rw [HW0.out]
 clear hN
 go_wp2_with fail
 refine kr.mono ?_
 clear kr
 rintro e w1 ⟨q,rfl,hv,hb1⟩
 have HDA:Hid (∀ Z:Nat→Prop,(∀ b,Z b→b<N)→Dc (fun b=>b=N+1∨Z b) w1 q (d)):=fun Z hZ=>hv _ (fun b hb=>by rw [HS0.out];rcases hb with hb | hb;omega;have:=hZ b hb;omega)
 have HDC:Hid (Dc (fun b=>b=N+1) w1 q (d)):=hv _ (fun b hb=>by rw [hb,HS0.out];omega)
 clear hv
 have HRx:=hid (HR.out.below hb1)
 have HBL:Hid (Below N W w1):=by rw [←HN.out];exact HB0.out.trans (hb1.mono HB0.out.size)
 clear hb1
 go_wp2_with (with_reducible refine stD rfl (.tmp 2) (.tmp 9) rfl (N+1) q (by with_unfolding_all rfl) (by with_unfolding_all rfl) HRx.out rfl HDC.out.len HDC.out.one ?_)
 refine ⟨rfl,_,resD rfl _ (HRx.out.setRow _) HDC.out.len (by with_unfolding_all rfl),q,rfl,?_,?_⟩
 ·have hk:Kept (fun b=>b=N+1) w1 (w1.setRow (N+1) q.toArray):=⟨rfl,rfl,rfl,by simp [World.setRow],fun b _ hb=>setRow_other _ _ b _ hb⟩
  exact fun Z hZ=>((HDA.out Z hZ).kept (hk.mono fun b e=>.inl e)).up (fun b hb=>.inl (.inr hb))
 ·exact below_row HBL.out (by omega) _
theorem rtight_x {X:Nat→Prop} {W:World} {c:List Value} {d:MD} (h:Dc X W c d) (hz:SzD d):Calls Tryz.prog 33 #[.agg c.toArray] W fun e w'=>∃ q:List Value,e = .returned (.agg q.toArray)∧(∀ Z:Nat→Prop,(∀ b,Z b→b<W.heap.size)→Dc Z w' q (rtM d))∧Below W.heap.size W w':=by
 cases hs:d.set
 ·exact rtight_nx h hz hs
 ·exact rtight_sx h hz hs
theorem rnew_gen {A:Nat→Prop} {W:World} {s:Value} {l:List MD} (h:Ds W s l) (hA:∀ b,A b→b<W.heap.size) (hl:l.length≤1000) (hf:∀ d∈l,Dm.FitsR d.r) (hz:∀ d∈l,SzD d) :
  Calls Tryz.prog 9 #[s] W fun e w'=>((∃ r rl,e = .returned (.tuple #[ptr r,.int .i64 0])∧Rs A w' r (l.map rtM) [] [] rl∧(∀ b,RX r rl b→W.heap.size≤b)∧Below W.heap.size W w')∧∀ d∈l,rightM d=true)∨((e = .returned (.tuple #[.pointer none,.int .i64 20])∧Below W.heap.size W w')∧∃ d∈l,rightM d=false):=by
 obtain ⟨p1,cap,rfl,_⟩:∃ a c,s = .slice a l.length c∧True:=by obtain ⟨a,c,e,_⟩:=h;exact ⟨a,c,e,trivial⟩
 obtain ⟨n,hnl⟩:∃ n,l.length=n:=⟨_,rfl⟩
 have HNL:Hid (l.length=n):=hnl
 have HDS:Hid (∀ w,Below W.heap.size W w→Ds w (.slice p1 n cap) l):=fun w hb=>by rw [←hnl];exact h.below hb
 have HFT:Hid (∀ d∈l,Dm.FitsR d.r):=hf
 have HSZ:Hid (∀ d∈l,SzD d):=hz
 rw [hnl] at hl ⊢
 have hn':(n:Int)≤1000:=by omega
 obtain ⟨r,hr⟩:∃ q,W.heap.size=q:=⟨_,rfl⟩
 obtain ⟨W1,hW1⟩:∃ q,W.alloc (Obj.cells #[.slice none 0 0,.slice none 0 0,.slice none 0 0] 74)=q:=⟨_,rfl⟩
 have hb1:Below W.heap.size W W1:=by rw [←hW1];exact (Below.refl _ W).alloc (Nat.le_refl _) _
 have HBX:Hid (Bx W1 r #[.slice none 0 0,.slice none 0 0,.slice none 0 0] 74):=by rw [←hW1];exact Bx.new' hr _ _
 have HR0:Hid (Rs A W1 r ((l.take 0).map rtM) [] [] ⟨.slice none 0 0,.slice none 0 0,.slice none 0 0,[]⟩):=⟨HBX.out.h,⟨[],⟨(fun c hc=>by simp at hc),World.ownsRow_nil _ _ _ _⟩,rfl,(fun i c d q _=>by simp at q)⟩,⟨(fun c hc=>by simp at hc),World.ownsRow_nil _ _ _ _⟩,rfl,(fun i s L q _=>by simp at q),⟨(fun c hc=>by simp [evl] at hc),World.ownsRow_nil _ _ _ _⟩,(fun s q=>by simp at q),(fun i j s t q=>by simp at q),(fun b q=>Nat.lt_of_lt_of_le (hA b q) hb1.size),(fun b q hq=>by
  rcases q with q | q | q | q | ⟨s,q,_⟩
  ·have:=hA b hq;omega
  ·cases q
  ·cases q
  ·cases q
  ·simp at q)⟩
 have HG0:Hid (∀ b,RX r ⟨.slice none 0 0,.slice none 0 0,.slice none 0 0,[]⟩ b→W.heap.size≤b):=fun b q=>by
  rcases q with q | q | q | q | ⟨s,q,_⟩
  ·omega
  ·cases q
  ·cases q
  ·cases q
  ·simp at q
 have HBW:Hid (Below W.heap.size W W1):=hb1
 have HW1:Hid _:=hW1
 have HRI:Hid _:=hr
 clear h hf hz hW1 hb1 hr hnl hA HBX
 go_enter Tryz.func9,Tryz.ntmps9
 go_upto_region 4 with (fail)
 (try rw [HW1.out]);(try rw [HRI.out])
 go_wp2
 go_loopw [5] (fun i wr=>∃ k:Nat,i = .int .i64 (k:Int)∧k≤n∧∃ dv,Hid (Rs A wr r ((l.take k).map rtM) [] [] ⟨dv,.slice none 0 0,.slice none 0 0,[]⟩)∧Hid (∀ d∈l.take k,rightM d=true)∧Hid (∀ b,RX r ⟨dv,.slice none 0 0,.slice none 0 0,[]⟩ b→W.heap.size≤b)∧Hid (Below W.heap.size W wr)) (fun i _=>n-(intOf i).toNat)
 case atStart=>exact ⟨0,rfl,Nat.zero_le _,_,HR0,(fun d q=>by simp at q),HG0,HBW⟩
 case round =>
  clear HR0 HG0 HBW
  obtain ⟨k,rfl,hk,dv,HRS,HAR,HGE,HB⟩:=hrel
  obtain ⟨da,dn,dcap,rfl⟩:∃ a q c,dv = .slice a q c:=by obtain ⟨a,c,e⟩:=HRS.out.d.len;exact ⟨a,_,c,e⟩
  have hki:(k:Int)≤1000:=by omega
  by_cases hlt:k<n
  ·have hlt':(k:Int)<(n:Int):=by omega
   have hwk:IntKind.i64.wrap ((k:Int)+1)=(k:Int)+1:=by rw [IntKind.wrap_i64];omega
   obtain ⟨d,hd⟩:∃ d,l[k]? = some d:=⟨_,List.getElem?_eq_getElem (by rw [HNL.out];exact hlt)⟩
   obtain ⟨b1,off1,rfl,hb1,_,x0,x1,x2,x3,x4,x5,hDc,i0,i1,i2,i3,i4,i5⟩:=(HDS.out W (Below.refl _ _)).at hd
   have HTK:Hid (l.take (k+1)=l.take k++[d]):=by rw [Hid,List.take_add_one,hd];rfl
   have HCL:Hid (∀ w,Below W.heap.size W w→w.cell? ⟨b1,off1+k*6,none⟩=some x0∧w.cell? ⟨b1,off1+k*6+1,none⟩=some x1∧w.cell? ⟨b1,off1+k*6+2,none⟩=some x2∧w.cell? ⟨b1,off1+k*6+3,none⟩=some x3∧w.cell? ⟨b1,off1+k*6+4,none⟩=some x4∧w.cell? ⟨b1,off1+k*6+5,none⟩=some x5):=fun w hw=>⟨(hw.cell (p:=⟨b1,_,none⟩) hb1).trans i0,(hw.cell (p:=⟨b1,_,none⟩) hb1).trans i1,(hw.cell (p:=⟨b1,_,none⟩) hb1).trans i2,(hw.cell (p:=⟨b1,_,none⟩) hb1).trans i3,(hw.cell (p:=⟨b1,_,none⟩) hb1).trans i4,(hw.cell (p:=⟨b1,_,none⟩) hb1).trans i5⟩
   have kr:=rright_d (hDc.below HB.out) (HFT.out d (List.mem_of_getElem? hd))
   have HDW:Hid (∀ w,Below W.heap.size W w→Dc (fun _=>False) w [x0,x1,x2,x3,x4,x5] d):=fun w hw=>hDc.below hw
   have HSD:Hid (SzD d):=HSZ.out d (List.mem_of_getElem? hd)
   have HDD:Hid (l[k]? = some d):=hd
   clear hDc hd hb1
   obtain ⟨y0,y1,y2,y3,y4,y5⟩:=HCL.out _ HB.out
   clear i0 i1 i2 i3 i4 i5
   go_wp2_with fail
   refine kr.mono ?_
   clear kr y0 y1 y2 y3 y4 y5
   rintro e wq ⟨rfl,hbq⟩
   have HBq:Hid (Below W.heap.size W wq):=HB.out.trans (hbq.mono HB.out.size)
   have HRq:=hid (HRS.out.below hbq)
   have HGq:Hid (wr.heap.size≤wq.heap.size):=hbq.size
   clear hbq
   cases hrt:rightM d
   ·go_wp2
    go_ret2
    exact Or.inr ⟨⟨rfl,HBq.out⟩,d,List.mem_of_getElem? HDD.out,hrt⟩
   ·have HRT:Hid (rightM d=true):=hrt
    clear HRS HB HGq hrt
    have HRS:=HRq
    have HB:=HBq
    clear HRq HBq
    clear wr
    obtain ⟨wr,hwr⟩:∃ q,wq=q:=⟨_,rfl⟩
    subst hwr
    have KT:Hid (∀ w,Below wq.heap.size wq w→Calls Tryz.prog 33 #[.agg #[x0,x1,x2,x3,x4,x5]] w fun e w'=>∃ q:List Value,e = .returned (.agg q.toArray)∧(∀ Z:Nat→Prop,(∀ b,Z b→b<wq.heap.size)→Dc Z w' q (rtM d))∧Below wq.heap.size wq w'):=fun w hw=>(rtight_x (HDW.out w (HB.out.trans (hw.mono HB.out.size))) HSD.out).mono fun e w' ⟨q,q1,q2,q3⟩=>⟨q,q1,(fun Z hZ=>q2 Z (fun b hb=>Nat.lt_of_lt_of_le (hZ b hb) hw.size)),hw.trans (q3.mono hw.size)⟩
    have HP0:Hid (Below wq.heap.size wq wq.drew):=(Below.refl _ _).drew
    have HB0:Hid (Below W.heap.size W wq.drew):=HB.out.trans (HP0.out.mono HB.out.size)
    have HR0:Hid (Rs A wq.drew r ((l.take k).map rtM) [] [] ⟨.slice da dn dcap,.slice none 0 0,.slice none 0 0,[]⟩):=HRS.out.below HP0.out
    go_upto_region 9 with (fail)
    refine wp_region_held_drew (S:=fun X:World=>Below W.heap.size W X) (by kernel_rfl) (HB0.out) (fun hHeld=>?_)
    refine tkI 0 rfl hHeld ?_
    try simp only [Act.put,zS,eZ,eS]
    refine tkI 1 rfl hHeld ?_
    try simp only [Act.put,zS,eZ,eS]
    refine tkI 2 rfl hHeld ?_
    try simp only [Act.put,zS,eZ,eS]
    refine tkI 3 rfl hHeld ?_
    try simp only [Act.put,zS,eZ,eS]
    refine tkI 5 rfl hHeld ?_
    try simp only [Act.put,zS,eZ,eS]
    refine tkI 6 rfl hHeld ?_
    try simp only [Act.put,zS,eZ,eS]
    refine tkI 7 rfl hHeld ?_
    try simp only [Act.put,zS,eZ,eS]
    refine tkH 8 _ (v:=?_) hHeld ?_ ?_;rotate_left
    ·intro w hSw;obtain ⟨y0,y1,y2,y3,y4,y5⟩:=HCL.out _ hSw;go_simp<;>with_reducible rfl
    try simp only [Act.put,zS,eZ,eS]
    have HR2:=HR0
    have HB2:=HB0
    have HP2:=HP0
    clear HR0 HB0 HP0
    generalize wq.drew=vv at *
    refine rd2 4 9 (fun K hK=>?_) (fun K hK=>?_)
    focus
     have z1:World.cell? _ ⟨r,0,none⟩=some (.slice da dn dcap):=(HR2.out.cells).1;go_simp;clear z1;clear hHeld;refine hK.out _ _ (HB2.out) fun hHeld=>?_;clear hK K;try simp only [Act.put,zS,eZ,eS]
     refine rd1 9 fun K hK=>?_
     go_simp;refine (KT.out _ HP2.out).mono ?_;rintro e w1 ⟨qq,rfl,hq,hb1⟩;obtain ⟨q0,q1,q2,q3,q4,q5,rfl⟩:=list6 (hq (fun _=>False) (fun _ q=>q.elim)).len;replace HP2:Hid (Below wq.heap.size wq w1):=hb1;have HQ:Hid (∀ Z:Nat→Prop,(∀ b,Z b→b<wq.heap.size)→Dc Z w1 [q0,q1,q2,q3,q4,q5] (rtM d)):=hq;replace HR2:Hid (Rs A w1 r ((l.take k).map rtM) [] [] ⟨.slice da dn dcap,.slice none 0 0,.slice none 0 0,[]⟩):=HRS.out.below HP2.out;clear hq hb1;replace HB2:Hid (Below W.heap.size W w1):=HB.out.trans (HP2.out.mono HB.out.size);clear hHeld;refine hK.out _ _ (HB2.out) fun hHeld=>?_;clear hK K;try simp only [Act.put,zS,eZ,eS]
     refine rd1 10 fun K hK=>?_
     obtain ⟨bs,hbs⟩:∃ q,w1.heap.size=q:=⟨_,rfl⟩;go_simp;(try rw [hbs]);obtain ⟨w2,hw2⟩:∃ q,w1.alloc (Obj.cells #[q0,q1,q2,q3,q4,q5] 37)=q:=⟨_,rfl⟩;rw [hw2];have hbel:Below w1.heap.size w1 w2:=(by rw [←hw2];exact (Below.refl _ _).alloc (Nat.le_refl _) _);have HBS:Hid (Bx w2 bs #[q0,q1,q2,q3,q4,q5] 37):=(by rw [←hw2];exact Bx.new' hbs _ _);replace HP2:=hid (HP2.out.trans (hbel.mono HP2.out.size));have HQ2:Hid (∀ Z:Nat→Prop,(∀ b,Z b→b<wq.heap.size)→Dc Z w2 [q0,q1,q2,q3,q4,q5] (rtM d)):=fun Z hZ=>(HQ.out Z hZ).below hbel;replace HR2:=hid (HR2.out.below hbel);clear hw2 hbs hbel;replace HB2:Hid (Below W.heap.size W w2):=HB.out.trans (HP2.out.mono HB.out.size);clear hHeld;refine hK.out _ _ (HB2.out) fun hHeld=>?_;clear hK K;try simp only [Act.put,zS,eZ,eS]
    rotate_left 1
    focus
     go_simp;refine (KT.out _ HP2.out).mono ?_;rintro e w1 ⟨qq,rfl,hq,hb1⟩;obtain ⟨q0,q1,q2,q3,q4,q5,rfl⟩:=list6 (hq (fun _=>False) (fun _ q=>q.elim)).len;replace HP2:Hid (Below wq.heap.size wq w1):=hb1;have HQ:Hid (∀ Z:Nat→Prop,(∀ b,Z b→b<wq.heap.size)→Dc Z w1 [q0,q1,q2,q3,q4,q5] (rtM d)):=hq;replace HR2:Hid (Rs A w1 r ((l.take k).map rtM) [] [] ⟨.slice da dn dcap,.slice none 0 0,.slice none 0 0,[]⟩):=HRS.out.below HP2.out;clear hq hb1;replace HB2:Hid (Below W.heap.size W w1):=HB.out.trans (HP2.out.mono HB.out.size);clear hHeld;refine hK.out _ _ (HB2.out) fun hHeld=>?_;clear hK K;try simp only [Act.put,zS,eZ,eS]
     refine rd2 4 10 (fun K hK=>?_) (fun K hK=>?_)
     focus
      have z1:World.cell? _ ⟨r,0,none⟩=some (.slice da dn dcap):=(HR2.out.cells).1;go_simp;clear z1;clear hHeld;refine hK.out _ _ (HB2.out) fun hHeld=>?_;clear hK K;try simp only [Act.put,zS,eZ,eS]
      refine rd1 10 fun K hK=>?_
      obtain ⟨bs,hbs⟩:∃ q,w1.heap.size=q:=⟨_,rfl⟩;go_simp;(try rw [hbs]);obtain ⟨w2,hw2⟩:∃ q,w1.alloc (Obj.cells #[q0,q1,q2,q3,q4,q5] 37)=q:=⟨_,rfl⟩;rw [hw2];have hbel:Below w1.heap.size w1 w2:=(by rw [←hw2];exact (Below.refl _ _).alloc (Nat.le_refl _) _);have HBS:Hid (Bx w2 bs #[q0,q1,q2,q3,q4,q5] 37):=(by rw [←hw2];exact Bx.new' hbs _ _);replace HP2:=hid (HP2.out.trans (hbel.mono HP2.out.size));have HQ2:Hid (∀ Z:Nat→Prop,(∀ b,Z b→b<wq.heap.size)→Dc Z w2 [q0,q1,q2,q3,q4,q5] (rtM d)):=fun Z hZ=>(HQ.out Z hZ).below hbel;replace HR2:=hid (HR2.out.below hbel);clear hw2 hbs hbel;replace HB2:Hid (Below W.heap.size W w2):=HB.out.trans (HP2.out.mono HB.out.size);clear hHeld;refine hK.out _ _ (HB2.out) fun hHeld=>?_;clear hK K;try simp only [Act.put,zS,eZ,eS]
     rotate_left 1
     focus
      obtain ⟨bs,hbs⟩:∃ q,w1.heap.size=q:=⟨_,rfl⟩;go_simp;(try rw [hbs]);obtain ⟨w2,hw2⟩:∃ q,w1.alloc (Obj.cells #[q0,q1,q2,q3,q4,q5] 37)=q:=⟨_,rfl⟩;rw [hw2];have hbel:Below w1.heap.size w1 w2:=(by rw [←hw2];exact (Below.refl _ _).alloc (Nat.le_refl _) _);have HBS:Hid (Bx w2 bs #[q0,q1,q2,q3,q4,q5] 37):=(by rw [←hw2];exact Bx.new' hbs _ _);replace HP2:=hid (HP2.out.trans (hbel.mono HP2.out.size));have HQ2:Hid (∀ Z:Nat→Prop,(∀ b,Z b→b<wq.heap.size)→Dc Z w2 [q0,q1,q2,q3,q4,q5] (rtM d)):=fun Z hZ=>(HQ.out Z hZ).below hbel;replace HR2:=hid (HR2.out.below hbel);clear hw2 hbs hbel;replace HB2:Hid (Below W.heap.size W w2):=HB.out.trans (HP2.out.mono HB.out.size);clear hHeld;refine hK.out _ _ (HB2.out) fun hHeld=>?_;clear hK K;try simp only [Act.put,zS,eZ,eS]
      refine rd1 4 fun K hK=>?_
      have z1:World.cell? _ ⟨r,0,none⟩=some (.slice da dn dcap):=(HR2.out.cells).1;go_simp;clear z1;clear hHeld;refine hK.out _ _ (HB2.out) fun hHeld=>?_;clear hK K;try simp only [Act.put,zS,eZ,eS]
    all_goals
     refine rdy 11 rfl fun K hK=>?_
     obtain ⟨cs9,hr9,hdr9⟩:=HR2.out.d
     have HR9:Hid (Rw w2 37 (.slice da dn dcap) 6 cs9):=hr9
     have HD9:Hid (Dr (fun b=>RX r ⟨.slice da dn dcap,.slice none 0 0,.slice none 0 0,[]⟩ b∨A b) w2 cs9 ((l.take k).map rtM)):=hdr9
     clear hr9 hdr9
     refine step_app HR9.out 22 Tryz.underlying22 Tryz.infoDom rfl (by decide) rfl _ _ rfl rfl ⟨bs,0,none⟩ 1 (by with_unfolding_all rfl) [q0,q1,q2,q3,q4,q5] rfl (fun j u hu=>by rw [Addr.add_mid,Nat.zero_add,HBS.out.cell j];simpa using hu) ((HQ2.out (fun _=>False) (fun _ q=>q.elim)).one) (by rw [HD9.out.1];simp;omega) (by decide) ?_
     intro d1 wa hr1 hg1 hn1
     obtain ⟨p1,qq1,cc1,rfl,HQ1,_⟩:=hr1.look
     have HRA:Hid _:=hr1
     have HG1:Hid _:=hg1
     have HN1:Hid _:=hn1
     clear hr1 hg1 hn1
     have HPA:Hid (wa.heap[r]? = _):=(HG1.out.block r HR2.out.r_lt (fun e=>HR9.out.nep HR2.out.blk (by decide) e.symm)).trans HR2.out.blk
     have HBA:Hid (Below W.heap.size W wa):=HB2.out.trans (growB HG1.out (fun b q=>HGE.out b (.inr (.inr (.inr (.inl q))))) HB2.out.size)
     clear hHeld;refine hK.out _ _ (HBA.out) fun hHeld=>?_
     clear hK K
     try simp only [Act.put,zS,eZ,eS]
     refine tkI 12 rfl hHeld ?_
     try simp only [Act.put,zS,eZ,eS]
     refine tkI 13 rfl hHeld ?_
     try simp only [Act.put,zS,eZ,eS]
     refine rdy 14 rfl fun K hK=>?_
     have z3:wa.cell? ⟨r,0,none⟩=some (.slice da dn dcap):=cell_of_row _ r 0 _ _ _ HPA.out
     have zf:wa.frozen? ⟨r,0,none⟩=false:=by have:=HPA.out;simp [World.frozen?,this]
     go_simp
     clear z3 zf
     have HBZ:Hid (Below W.heap.size W (wa.setCell ⟨r,0,none⟩ (.slice p1 qq1 cc1))):=HBA.out.setCell (HGE.out r (.inl rfl)) _
     clear hHeld;refine hK.out _ _ (HBZ.out) fun hHeld=>?_
     clear hK K
     try simp only [Act.put,zS,eZ,eS]
     refine wpAnyH_done (by kernel_rfl) ?_ _
     have HE9:=hid (HRS.out.appD HP2.out HR9.out HD9.out HG1.out HRA.out HN1.out HQ2.out)
     skip
     clear hHeld
     go_wp2
     go_roundw
     case rel =>
      exact ⟨k+1,by go_num,by omega,.slice p1 qq1 cc1,(by rw [HTK.out,List.map_append];exact HE9.out.1),(fun d9 hd9=>by rw [HTK.out] at hd9;rcases List.mem_append.1 hd9 with q | q;exact HAR.out d9 q;rw [List.mem_singleton.1 q];exact HRT.out),(fun b q=>(HE9.out.2.1 b q).elim (HGE.out b) (fun q=>Nat.le_trans HB.out.size q)),HBZ⟩
     case measure =>
      simp [intOf];omega
  ·obtain rfl:k=n:=by omega
   go_wp2
   go_ret2
   have e0:l.take k=l:=by rw [←HNL.out];exact List.take_length
   have h1:=HRS.out
   have h2:=HAR.out
   rw [e0] at h1 h2
   exact Or.inl ⟨⟨r,_,rfl,h1,HGE.out,HB.out⟩,h2⟩
end Go.Proofs.YtghnfnieppfhgaaGreat
