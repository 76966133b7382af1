/- What is proved here: store.All: all domains of a store, in memory of their own that is none of what was there. What is proved here: the reference store in memory. -/
import Derived.Test.YtghnfnieppfhgaaGreatMgj
import Derived.Test.YtghnfnieppfhgaaGreatMaj
import Derived.Test.YtghnfnieppfhgaaGreatCaj
import Derived.Test.YtghnfnieppfhgaaGreatKgj
import Derived.Test.YtghnfnieppfhgaaGreatKlj
import Derived.OwnWalk
import Derived.Laws.MakeOwn
set_option linter.unusedVariables false
set_option linter.unusedSimpArgs false
set_option maxRecDepth 100000
set_option maxHeartbeats 4000000
namespace Go.Proofs.YtghnfnieppfhgaaGreat
open Go.RowKit Go.Shelf
structure LX (Z : Nat → Prop) (N : Nat) (w : World) (v : Value) (D : List MD) (vs : List (List Value)) : Prop where
 n:vs.length=D.length
 r:Rw w 37 v 6 vs
 u:∀ (i:Nat) (c:List Value) (d:MD),vs[i]? = some c→D[i]? = some d→Du (fun b=>v.ownBlock=some b∨Z b) w c d
 b:∀ g,v.ownBlock=some g→N≤g
theorem LX.d {Z:Nat→Prop} {N:Nat} {w:World} {v:Value} {D:List MD} {vs:List (List Value)} (h:LX Z N w v D vs) (i:Nat) (c:List Value) (d:MD) (h1:vs[i]? = some c) (h2:D[i]? = some d):Dc (fun b=>v.ownBlock=some b∨Z b) w c d:=(h.u i c d h1 h2).dc
theorem LX.below {Z:Nat→Prop} {N:Nat} {w w':World} {v:Value} {D:List MD} {vs:List (List Value)} (h:LX Z N w v D vs) (hb:Below w.heap.size w w'):LX Z N w' v D vs :=
 ⟨h.n,h.r.keep (fun g hg=>hb.block g (h.r.lt hg)),fun i c d h1 h2=>(h.u i c d h1 h2).below hb,h.b⟩
theorem LX.ds {Z:Nat→Prop} {N:Nat} {w:World} {v:Value} {D:List MD} {vs:List (List Value)} (h:LX Z N w v D vs):Ds w v D :=
 LD.ds (N:=N) (vs:=vs) ⟨h.n,h.r,fun i c d h1 h2=>(h.d i c d h1 h2).up (fun b hb=>.inl (.inl hb)),h.b⟩
theorem all_x [Gh] {W:World} {p:Nat} {st:StM} {sl:Sl} (h:Sto W p st sl) (hz:Sz st) (hH:∀ o∈st.D,Held o) :
  Calls Tryz.prog 15 #[ptr p] W fun e w'=>∃ v vs,e = .returned v∧LX (fun b=>b<W.heap.size) W.heap.size w' v st.D vs∧Below W.heap.size W w':=by
 have HS:Hid (∀ w,Below W.heap.size W w→Sto w p st sl):=fun w hb=>h.below hb
 obtain ⟨n,k0,m,sa,sc,ma,mc,ia,ic,da,dc,wa,wc,rfl,HL⟩:=h.look
 obtain ⟨z0,z1,z2,z3,z4,z5,zf⟩:=h.cells
 simp only at z3
 have HND:Hid (st.D.length=n):=HL.out.1
 have hn1:n≤1000:=by rw [←HL.out.1];exact hz.1
 obtain ⟨N,hN⟩:∃ N,W.heap.size=N:=⟨_,rfl⟩
 have HN:Hid (W.heap.size=N):=hN
 obtain ⟨i0,hi0,hz0,hz1,hz2⟩:=info_parts Tryz.infoDom
 obtain ⟨w1,hmk,how,hgr⟩:=run_makeSlice_owned (P:=Tryz.prog) (w:=W) W.heap.size 22 37 i0 _ 6 Tryz.underlying22 hi0 hz0 hz1 .i64 .i64 n (by omega) (by rw [hz2];omega) (by unfold maxLen;omega) (Nat.le_refl _)
 have hb1:Below W.heap.size W w1:=growB hgr (fun b hb=>by cases hb) (Nat.le_refl _)
 have HLD1:Hid (LX (fun b=>b<N) N w1 (.slice (some ⟨N,0,none⟩) 0 n) (st.D.take 0) []):=by
  rw [hN] at how
  refine ⟨rfl,⟨fun c hc=>by simp at hc,?_⟩,fun i c d hc=>by simp at hc,fun g hg=>?_⟩
  ·have h1:=how
   refine ⟨h1.1,?_⟩
   rcases h1.2 with e | ⟨g,cap,cur,e1,hB,r⟩
   ·exact .inl e
   ·exact .inr ⟨g,cap,cur,e1,Nat.zero_le _,r⟩
  ·have:N=g:=by simpa [Value.ownBlock] using hg
   omega
 have HB1:Hid (Below W.heap.size W w1):=hb1
 have HH:Hid (∀ o∈st.D,Held o):=hH
 have z9:=(HS.out w1 hb1).cells.2.2.2.1
 simp only at z9
 rw [hN] at hmk
 clear h hz hH z0 z1 z2 z4 z5 zf hi0 hz0 hz1 hz2 how hgr hb1 HL hN
 go_enter Tryz.func15,Tryz.ntmps15
 go_wp2
 go_loopw [3,19] (fun v i wr=>∃ (k:Nat) (vs:List (List Value)),i = .int .i64 (k:Int)∧k≤n∧Hid (LX (fun b=>b<N) N wr v (st.D.take k) vs)∧Hid (Below W.heap.size W wr)) (fun _ i _=>n-(intOf i).toNat)
 case atStart=>exact ⟨0,[],rfl,Nat.zero_le _,HLD1,HB1⟩
 case round =>
  obtain ⟨k,vs,rfl,hk,HLD,HB⟩:=hrel
  obtain ⟨sa',sc',rfl,_,_⟩:=HLD.out.r.shape
  have hvl:vs.length=k:=by rw [HLD.out.n,List.length_take,HND.out];omega
  rw [hvl] at HLD ⊢
  have HVL:Hid (vs.length=k):=hvl
  by_cases hlt:k<n
  ·have hlt':(k:Int)<(n:Int):=by omega
   have hwk:IntKind.i64.wrap ((k:Int)+1)=(k:Int)+1:=by rw [IntKind.wrap_i64];omega
   obtain ⟨d,hd⟩:∃ d,st.D[k]? = some d:=⟨_,List.getElem?_eq_getElem (by rw [HND.out];exact hlt)⟩
   obtain ⟨g,cap,c,e1,hgl,hcap,hcm,hr,hth,hdc⟩:=(HS.out wr HB.out).dom_at hd
   injection e1 with e1 e2 e3
   subst e1 e3
   have hO:=HH.out d (List.mem_of_getElem? hd)
   have HDD:Hid (st.D[k]? = some d):=hd
   obtain ⟨b,ra,n0,rc,a1,n1,c1,a2,n2,c2,x,y,rfl,HE,_,_,_⟩:=hdc.look
   clear HE
   obtain ⟨i0,i1,i2,i3,i4,i5⟩:=rng6 hr
   have hone:=hdc.one
   obtain ⟨bx,hbx⟩:∃ q,wr.heap.size=q:=⟨_,rfl⟩
   obtain ⟨Y0,hY0⟩:∃ q,wr.alloc (Obj.cells #[.bool b,.slice ra n0 rc,.slice a1 n1 c1,.slice a2 n2 c2,.int .i64 x,.int .i64 y] 37)=q:=⟨_,rfl⟩
   have hbY:Below wr.heap.size wr Y0:=by rw [←hY0];exact (Below.refl _ _).alloc (Nat.le_refl _) _
   have HBX0:Hid (Bx Y0 bx #[.bool b,.slice ra n0 rc,.slice a1 n1 c1,.slice a2 n2 c2,.int .i64 x,.int .i64 y] 37):=by rw [←hY0];exact Bx.new' hbx _ _
   have kl:=copy_u (hdc.below hbY) hO.n (by have:=hO.lo;omega) (by have:=hO.up;omega)
   have HBY:Hid (Below W.heap.size W Y0):=HB.out.trans (hbY.mono HB.out.size)
   have HLDY:Hid (LX (fun b=>b<N) N Y0 (.slice sa' k sc') (st.D.take k) vs):=HLD.out.below hbY
   have HY0:Hid _:=hY0
   obtain ⟨x0,x1,x2,x3,x4,x5⟩:=HBX0.out.six
   clear hd hgl hcap hcm hr hth hdc hO hY0 hbY hvl e2
   go_upto_region 7 with (fail)
   rw [HY0.out]
   clear hbx i0 i1 i2 i3 i4 i5
   go_wp2_with fail
   refine kl.mono ?_
   clear kl x0 x1 x2 x3 x4 x5 hone
   rintro e w1' ⟨q,rfl,hq,hb1⟩
   have hDq:=hq (fun b=>(Value.slice sa' k sc').ownBlock=some b∨b<N) (fun b hb=>hb.elim (fun hb=>HLDY.out.r.lt (by rw [HVL.out] at *;exact hb)) (fun hb=>by have:=HBY.out.size;rw [HN.out] at this;omega))
   obtain ⟨f0,f1,f2,f3,f4,f5,rfl⟩:=list6 hDq.len
   have HB1':Hid (Below W.heap.size W w1'):=HBY.out.trans (hb1.mono HBY.out.size)
   have HLD1':Hid (LX (fun b=>b<N) N w1' (.slice sa' k sc') (st.D.take k) vs):=HLDY.out.below hb1
   have hq1:=hDq.one
   obtain ⟨M,hM⟩:∃ x,w1'.heap.size=x:=⟨_,rfl⟩
   obtain ⟨w2,hw2⟩:∃ x,w1'.alloc (Obj.cells #[f0,f1,f2,f3,f4,f5] 37)=x:=⟨_,rfl⟩
   have hb2:Below w1'.heap.size w1' w2:=by rw [←hw2];exact (Below.refl _ _).alloc (Nat.le_refl _) _
   have HBX:Hid (Bx w2 M #[f0,f1,f2,f3,f4,f5] 37):=by rw [←hw2];exact Bx.new' hM _ _
   have HLD2:Hid (LX (fun b=>b<N) N w2 (.slice sa' k sc') (st.D.take k) vs):=HLD1'.out.below hb2
   have HDq:Hid (Du (fun b=>(Value.slice sa' k sc').ownBlock=some b∨b<N) w2 [f0,f1,f2,f3,f4,f5] d):=hDq.below hb2
   have HB2:Hid (Below W.heap.size W w2):=HB1'.out.trans (hb2.mono HB1'.out.size)
   have HW2:Hid _:=hw2
   have HOW:Hid (w2.ownsRow 0 37 6 (.slice sa' k sc') k vs.flatten):=by have:=HLD2.out.r.2;rw [HVL.out] at this;exact this
   have HQ1:Hid _:=hq1
   clear hw2 hb2 hDq hq hb1 hq1
   go_wp2_with (at_builtin;rw [HW2.out];refine list_dom HVL.out HLD2.out.r.1 HOW.out rfl _ _ rfl rfl ⟨M,0,none⟩ 1 (by first | rfl | (rw [←hM];rfl)) [f0,f1,f2,f3,f4,f5] rfl (fun j u hu=>by rw [Addr.add_lit,Nat.zero_add];exact (HBX.out.cell j).trans (by simpa using hu)) HQ1.out (by omega) ?_;intro v' w3 hown' hgrow hnew;obtain ⟨gn,capn,rfl⟩:=ownsRow_succ hown')
   go_roundw
   case rel =>
    have key:∀ c' d',Du (fun b=>(Value.slice sa' k sc').ownBlock=some b∨b<N) w2 c' d'→Du (fun b=>(Value.slice (some ⟨gn,0,none⟩) (k+1) capn).ownBlock=some b∨b<N) w3 c' d':=fun c' d' hdc =>
     hdc.go ⟨hgrow.os,hgrow.tape,hgrow.output,hgrow.size,fun b hb hn=>hgrow.block b hb (fun e=>hn (.inl e.symm))⟩ (fun b hb=>hb.elim (fun hb=>(hnew b hb).imp .inl id) (fun hb=>.inl (.inr hb)))
    refine ⟨k+1,vs++[[f0,f1,f2,f3,f4,f5]],by go_num,by omega,⟨?_,⟨?_,?_⟩,?_,?_⟩,?_⟩
    ·rw [List.length_append,HVL.out,List.length_take,HND.out];simp;omega
    ·intro c' hc'
     rcases List.mem_append.1 hc' with h | h
     ·exact HLD2.out.r.1 c' h
     ·rw [List.mem_singleton.1 h];rfl
    ·have:(vs++[[f0,f1,f2,f3,f4,f5]]).length=k+1:=by rw [List.length_append,HVL.out];rfl
     rw [this];exact hown'
    ·intro i c' d' hc' hd'
     rcases Nat.lt_or_ge i k with q1 | q1
     ·rw [List.getElem?_append_left (by rw [HVL.out];exact q1)] at hc'
      rw [List.getElem?_take,if_pos (by omega)] at hd'
      exact key _ _ (HLD2.out.u i c' d' hc' (by rw [List.getElem?_take,if_pos q1];exact hd'))
     ·have hi:i<k+1:=by have:=(List.getElem?_eq_some_iff.1 hc').1;rw [List.length_append,HVL.out] at this;simpa using this
      obtain rfl:i=k:=by omega
      rw [List.getElem?_append_right (by rw [HVL.out];exact Nat.le_refl _),HVL.out,Nat.sub_self] at hc'
      rw [List.getElem?_take,if_pos (by omega),HDD.out] at hd'
      injection hc' with hc'
      injection hd' with hd'
      subst hc' hd'
      exact key _ _ HDq.out
    ·intro g hg
     rcases hnew g hg with q1 | q1
     ·exact HLD2.out.b g q1
     ·have:=HB2.out.size;rw [HN.out] at this;omega
    ·exact HB2.out.grown hgrow HB2.out.size (fun g hg=>by rw [HN.out];exact HLD2.out.b g hg)
   case measure=>simp [intOf];omega
  ·have hlt':¬(k:Int)<(n:Int):=by omega
   obtain rfl:k=n:=by omega
   have hfull:st.D.take k=st.D:=List.take_of_length_le (by rw [HND.out];exact Nat.le_refl _)
   rw [hfull] at HLD
   clear hfull hvl
   go_wp2
   go_ret
   exact ⟨_,rfl,⟨vs,by rw [HN.out];exact HLD.out⟩,HB.out⟩
def Dw (Z:Nat→Prop) (w:World) (s:Value) (L:List MD):Prop:=∃ cs,Rw w 37 s 6 cs∧Dr Z w cs L
theorem Dw.go {Z Z':Nat→Prop} {w w':World} {s:Value} {L:List MD} (h:Dw Z w s L) (k:Kept Z w w') (hs:∀ g,s.ownBlock=some g→w'.heap[g]? = w.heap[g]?) (u:Up Z Z' w):Dw Z' w' s L:=by
 obtain ⟨cs,h1,h2⟩:=h
 exact ⟨cs,h1.keep hs,h2.go k u⟩
theorem Dw.lt {Z:Nat→Prop} {w:World} {s:Value} {L:List MD} (h:Dw Z w s L) {g:Nat} (hg:s.ownBlock=some g):g<w.heap.size:=by obtain ⟨cs,h1,_⟩:=h;exact h1.lt hg
theorem Dw.len {Z:Nat→Prop} {w:World} {s:Value} {L:List MD} (h:Dw Z w s L):∃ a c,s = .slice a L.length c:=by obtain ⟨cs,h1,h2⟩:=h;obtain ⟨a,c,e,_⟩:=h1.shape;exact ⟨a,c,by rw [←h2.1];exact e⟩
theorem Dw.typ {Z:Nat→Prop} {w:World} {s:Value} {L:List MD} (h:Dw Z w s L) {g:Nat} (hg:s.ownBlock=some g):∃ cur,w.heap[g]? = some (.cells cur 37 (0,0)):=by obtain ⟨cs,h1,_⟩:=h;exact h1.typ hg
structure Rl where
 dv:Value
 ov:Value
 ev:Value
 os:List Value
def RX (r:Nat) (rl:Rl):Nat→Prop:=fun b=>b=r∨rl.ov.ownBlock=some b∨rl.ev.ownBlock=some b∨rl.dv.ownBlock=some b∨∃ s∈rl.os,s.ownBlock=some b
def evl (E:List (Int × Int)):List (List Value):=E.map fun e=>[.int .i64 e.1,.int .i64 e.2]
theorem evl_len (E:List (Int × Int)):(evl E).length=E.length:=by simp [evl]
structure Rs (A : Nat → Prop) (w : World) (r : Nat) (D : List MD) (O : List (List MD)) (E : List (Int × Int)) (rl : Rl) : Prop where
 blk:w.heap[r]? = some (.cells #[rl.dv,rl.ov,rl.ev] 74 (0,0))
 d:Dw (fun b=>RX r rl b∨A b) w rl.dv D
 ov:Rw w 22 rl.ov 1 (rl.os.map fun s=>[s])
 ol:rl.os.length=O.length
 o:∀ (i:Nat) s L,rl.os[i]? = some s→O[i]? = some L→Dw (fun b=>RX r rl b∨A b) w s L
 ev:Rw w 99 rl.ev 2 (evl E)
 nd:∀ s∈rl.os,∀ b,s.ownBlock=some b→rl.dv.ownBlock≠some b
 nn:∀ (i j:Nat) s t,rl.os[i]? = some s→rl.os[j]? = some t→i≠j→∀ b,s.ownBlock=some b→t.ownBlock≠some b
 al:∀ b,A b→b<w.heap.size
 ao:∀ b,RX r rl b→¬A b
theorem Rs.r_lt {A:Nat→Prop} {w:World} {r:Nat} {D:List MD} {O:List (List MD)} {E:List (Int × Int)} {rl:Rl} (h:Rs A w r D O E rl):r<w.heap.size:=(Array.getElem?_eq_some_iff.1 h.blk).1
theorem Rs.o_of {A:Nat→Prop} {w:World} {r:Nat} {D:List MD} {O:List (List MD)} {E:List (Int × Int)} {rl:Rl} (h:Rs A w r D O E rl) {s:Value} (hs:s∈rl.os):∃ L,L∈O∧Dw (fun b=>RX r rl b∨A b) w s L:=by
 obtain ⟨i,hi⟩:=List.mem_iff_getElem?.1 hs
 have hl:=(List.getElem?_eq_some_iff.1 hi).1
 have hL:O[i]? = some (O[i]'(by rw [←h.ol];exact hl)):=List.getElem?_eq_getElem _
 exact ⟨_,List.mem_of_getElem? hL,h.o i s _ hi hL⟩
theorem Rs.x_lt {A:Nat→Prop} {w:World} {r:Nat} {D:List MD} {O:List (List MD)} {E:List (Int × Int)} {rl:Rl} (h:Rs A w r D O E rl):∀ b,RX r rl b→b<w.heap.size:=fun b hb=>by
 rcases hb with rfl | q | q | q | ⟨s,hs,q⟩
 ·exact h.r_lt
 ·exact h.ov.lt q
 ·exact h.ev.lt q
 ·exact h.d.lt q
 ·obtain ⟨L,_,hL⟩:=h.o_of hs
  exact hL.lt q
theorem Rs.frame {A A' X:Nat→Prop} {w w':World} {r:Nat} {D:List MD} {O:List (List MD)} {E:List (Int × Int)} {rl:Rl} (h:Rs A w r D O E rl) (k:Kept X w w') (hX:∀ b,X b→A b) (hA:∀ b,A' b→A b∨w.heap.size≤b) (hl:∀ b,A' b→b<w'.heap.size):Rs A' w' r D O E rl:=by
 have kb:∀ b,RX r rl b→w'.heap[b]? = w.heap[b]?:=fun b hb=>k.block b (h.x_lt b hb) (fun q=>h.ao b hb (hX b q))
 have kz:Kept (fun b=>RX r rl b∨A b) w w':=k.mono fun b hb=>.inr (hX b hb)
 have u:Up (fun b=>RX r rl b∨A b) (fun b=>RX r rl b∨A' b) w:=fun b hb=>by
  rcases hb with q | q
  ·exact .inl (.inl q)
  ·exact (hA b q).imp .inr id
 exact ⟨(kb r (.inl rfl)).trans h.blk,h.d.go kz (fun g hg=>kb g (.inr (.inr (.inr (.inl hg))))) u,h.ov.keep fun g hg=>kb g (.inr (.inl hg)),h.ol,
  fun i s L h1 h2=>(h.o i s L h1 h2).go kz (fun g hg=>kb g (.inr (.inr (.inr (.inr ⟨s,List.mem_of_getElem? h1,hg⟩))))) u,h.ev.keep fun g hg=>kb g (.inr (.inr (.inl hg))),h.nd,h.nn,hl,fun b hb hy=>by
   rcases hA b hy with q | q
   ·exact h.ao b hb q
   ·have:=h.x_lt b hb;omega⟩
theorem Rs.below {A:Nat→Prop} {w w':World} {r:Nat} {D:List MD} {O:List (List MD)} {E:List (Int × Int)} {rl:Rl} (h:Rs A w r D O E rl) (hb:Below w.heap.size w w'):Rs A w' r D O E rl :=
 h.frame (X:=fun _=>False) (Kept.of_below hb) (fun _ q=>q.elim) (fun _ q=>.inl q) (fun b q=>Nat.lt_of_lt_of_le (h.al b q) hb.size)
theorem Rs.cells {A:Nat→Prop} {w:World} {r:Nat} {D:List MD} {O:List (List MD)} {E:List (Int × Int)} {rl:Rl} (h:Rs A w r D O E rl) :
  w.cell? ⟨r,0,none⟩=some rl.dv∧w.cell? ⟨r,1,none⟩=some rl.ov∧w.cell? ⟨r,2,none⟩=some rl.ev∧∀ o,w.frozen? ⟨r,o,none⟩=false:=by
 have hp:=h.blk
 refine ⟨?_,?_,?_,fun o=>?_⟩<;>first | (rw [cell_of_row w r _ _ _ _ hp];rfl) | simp [World.frozen?,hp]
theorem Rs.look {A:Nat→Prop} {w:World} {r:Nat} {D:List MD} {O:List (List MD)} {E:List (Int × Int)} {rl:Rl} (h:Rs A w r D O E rl):∃ n m q da dc oa oc ea ec os,rl=⟨.slice da n dc,.slice oa m oc,.slice ea q ec,os⟩∧Hid (D.length=n∧O.length=m∧E.length=q∧m≤oc∧q≤ec):=by
 obtain ⟨dv,ov,ev,os⟩:=rl
 obtain ⟨da,dc,e1⟩:=h.d.len
 obtain ⟨oa,oc,e2,l2,_⟩:=h.ov.shape
 obtain ⟨ea,ec,e3,l3,_⟩:=h.ev.shape
 simp only at e1 e2 e3 l2 l3
 subst e1 e2 e3
 have hl:=h.ol
 simp only at hl
 rw [List.length_map] at l2 ⊢
 rw [evl_len] at l3 ⊢
 exact ⟨_,_,_,da,dc,oa,oc,ea,ec,os,rfl,rfl,hl.symm,rfl,l2,l3⟩
theorem nep_o {Z:Nat→Prop} {w:World} {s:Value} {L:List MD} {p:Nat} {x:Array Value} {u:TypeId} {f:Nat × Nat} (h:Dw Z w s L) (hp:w.heap[p]? = some (.cells x u f)) (hu:(37:Nat)≠u):s.ownBlock≠some p:=by obtain ⟨cs,h1,_⟩:=h;exact h1.nep hp hu
theorem Rs.push {A:Nat→Prop} {W w w1:World} {r:Nat} {D:List MD} {O:List (List MD)} {E:List (Int × Int)} {rl:Rl} (h:Rs A W r D O E rl) (hb:Below W.heap.size W w) {v ov':Value} {L:List MD} {vs:List (List Value)} (hv:LX (fun b=>b<W.heap.size) W.heap.size w v L vs) (hg:w.grownBy w1 rl.ov.ownBlock) (hr:Rw w1 22 ov' 1 (rl.os.map (fun s=>[s])++[[v]])) (hn:∀ b,ov'.ownBlock=some b→rl.ov.ownBlock=some b∨w.heap.size≤b) :
  Rs A (w1.setCell ⟨r,1,none⟩ ov') r D (O++[L]) E { rl with ov:=ov',os:=rl.os++[v] }∧Up (RX r rl) (RX r { rl with ov:=ov',os:=rl.os++[v] }) W∧Kept (RX r rl) W (w1.setCell ⟨r,1,none⟩ ov'):=by
 have hx:=h.x_lt
 have hs:=hb.size
 have u:Up (RX r rl) (RX r { rl with ov:=ov',os:=rl.os++[v] }) W:=fun b q=>by
  rcases q with q | q | q | q | ⟨s,q1,q2⟩
  ·exact .inl (.inl q)
  ·rcases hn b q with q | q
   ·exact .inl (.inr (.inl q))
   ·exact .inr (by omega)
  ·exact .inl (.inr (.inr (.inl q)))
  ·exact .inl (.inr (.inr (.inr (.inl q))))
  ·rcases List.mem_append.1 q1 with q1 | q1
   ·exact .inl (.inr (.inr (.inr (.inr ⟨s,q1,q2⟩))))
   ·rw [List.mem_singleton.1 q1] at q2
    exact .inr (hv.b b q2)
 have kw:Kept (fun b=>rl.ov.ownBlock=some b) w w1:=⟨hg.os,hg.tape,hg.output,hg.size,fun b q1 q2=>hg.block b q1 (fun e=>q2 e.symm)⟩
 have k4:Kept (fun b=>RX r rl b) w (w1.setCell ⟨r,1,none⟩ ov'):=(kw.mono (Y:=fun b=>RX r rl b) fun b q=>.inr (.inl q)).setCell (.inl rfl) 1 ov'
 have k:Kept (RX r rl) W (w1.setCell ⟨r,1,none⟩ ov'):=(Kept.of_below (X:=RX r rl) hb).trans k4 (Up.refl _ _)
 have kb:∀ b,b<W.heap.size→b≠r→rl.ov.ownBlock≠some b→(w1.setCell ⟨r,1,none⟩ ov').heap[b]? = W.heap[b]?:=fun b q1 q2 q3 =>
  ((Kept.one (a:=w1) (w:=w1) (g:=r) (o:=1) (v:=ov') rfl).block b (Nat.lt_of_lt_of_le q1 (Nat.le_trans hs hg.size)) q2).trans ((hg.block b (Nat.lt_of_lt_of_le q1 hs) (fun e=>q3 e.symm)).trans (hb.block b q1))
 have hrn:rl.ov.ownBlock≠some r:=h.ov.nep h.blk (by decide)
 have hp1:w1.heap[r]? = some (.cells #[rl.dv,rl.ov,rl.ev] 74 (0,0)):=(hg.block r (Nat.lt_of_lt_of_le h.r_lt hs) (fun e=>hrn e.symm)).trans ((hb.block r h.r_lt).trans h.blk)
 have kZ:Kept (fun b=>RX r rl b∨A b) W (w1.setCell ⟨r,1,none⟩ ov'):=k.mono fun b q=>.inl q
 have uZ:Up (fun b=>RX r rl b∨A b) (fun b=>RX r { rl with ov:=ov',os:=rl.os++[v] } b∨A b) W:=fun b q=>by
  rcases q with q | q
  ·exact (u b q).imp .inl id
  ·exact .inl (.inr q)
 have hdo:∀ s L',Dw (fun b=>RX r rl b∨A b) W s L'→∀ b,s.ownBlock=some b→(w1.setCell ⟨r,1,none⟩ ov').heap[b]? = W.heap[b]?:=fun s L' hD b q=>kb b (hD.lt q) (fun e=>nep_o hD h.blk (by decide) (e▸q)) (fun e=>by
  obtain ⟨c1,e1⟩:=hD.typ q
  obtain ⟨c2,e2⟩:=h.ov.typ e
  exact ne_typ e1 e2 (by decide) rfl)
 have ks:Kept (fun b=>b=r) w1 (w1.setCell ⟨r,1,none⟩ ov'):=Kept.one (a:=w1) rfl
 refine ⟨⟨heap_setCell_in hp1 (by simp),h.d.go kZ (fun b q=>hdo _ _ h.d b q) uZ,?_,?_,fun i s L' h1 h2=>?_,h.ev.keep fun b q=>kb b (h.ev.lt q) (fun e=>h.ev.nep h.blk (by decide) (e▸q)) (h.ev.ne h.ov (by decide) q),fun s h1 b h2=>?_,fun i j s t h1 h2 hij b q1 q2=>?_,fun b q=>Nat.lt_of_lt_of_le (h.al b q) k.size,fun b q hA=>?_⟩,u,k⟩
 ·rw [List.map_append]
  exact hr.stay ks (hr.nep hp1 (by decide))
 ·simp [h.ol]
 ·by_cases hi:i<rl.os.length
  ·rw [List.getElem?_append_left hi] at h1
   rw [List.getElem?_append_left (by rw [←h.ol];exact hi)] at h2
   exact (h.o i s L' h1 h2).go kZ (fun b q=>hdo _ _ (h.o i s L' h1 h2) b q) uZ
  ·have hl:=(List.getElem?_eq_some_iff.1 h1).1
   simp at hl
   have e:i=rl.os.length:=by omega
   subst e
   rw [List.getElem?_append_right (Nat.le_refl _),Nat.sub_self] at h1
   rw [h.ol,List.getElem?_append_right (Nat.le_refl _),Nat.sub_self] at h2
   injection h1 with h1
   injection h2 with h2
   subst h1 h2
   have hvb:∀ b,v.ownBlock=some b→(w1.setCell ⟨r,1,none⟩ ov').heap[b]? = w.heap[b]?:=fun b q=>k4.block b (hv.r.lt q) (fun e=>by have:=hx b e;have:=hv.b b q;omega)
   refine ⟨vs,hv.r.keep hvb,hv.n,fun i c d q1 q2=>?_⟩
   refine (hv.d i c d q1 q2).go (k4.mono fun b q=>.inr (hx b q)) (fun b q=>?_)
   rcases q with q | q
   ·rcases q with q | q | q | q | ⟨s,q3,q4⟩
    ·exact .inl (.inr (by rw [q];exact h.r_lt))
    ·rcases hn b q with q | q
     ·exact .inl (.inr (hx b (.inr (.inl q))))
     ·exact .inr q
    ·exact .inl (.inr (hx b (.inr (.inr (.inl q)))))
    ·exact .inl (.inr (hx b (.inr (.inr (.inr (.inl q))))))
    ·rcases List.mem_append.1 q3 with q3 | q3
     ·exact .inl (.inr (hx b (.inr (.inr (.inr (.inr ⟨s,q3,q4⟩))))))
     ·rw [List.mem_singleton.1 q3] at q4
      exact .inl (.inl q4)
   ·exact .inl (.inr (h.al b q))
 ·rcases List.mem_append.1 h1 with h1 | h1
  ·exact h.nd s h1 b h2
  ·rw [List.mem_singleton.1 h1] at h2
   intro e
   have:=hx b (.inr (.inr (.inr (.inl e))))
   have:=hv.b b h2
   omega
 ·have l1:=(List.getElem?_eq_some_iff.1 h1).1
  have l2:=(List.getElem?_eq_some_iff.1 h2).1
  simp at l1 l2
  by_cases hi:i<rl.os.length
  ·rw [List.getElem?_append_left hi] at h1
   by_cases hj:j<rl.os.length
   ·rw [List.getElem?_append_left hj] at h2
    exact h.nn i j s t h1 h2 hij b q1 q2
   ·rw [List.getElem?_append_right (by omega)] at h2
    have e:j-rl.os.length=0:=by omega
    rw [e] at h2
    injection h2 with h2
    subst h2
    have:=hx b (.inr (.inr (.inr (.inr ⟨s,List.mem_of_getElem? h1,q1⟩))))
    have:=hv.b b q2
    omega
  ·rw [List.getElem?_append_right (by omega)] at h1
   have e:i-rl.os.length=0:=by omega
   rw [e] at h1
   injection h1 with h1
   subst h1
   rw [List.getElem?_append_left (by omega)] at h2
   have:=hx b (.inr (.inr (.inr (.inr ⟨t,List.mem_of_getElem? h2,q2⟩))))
   have:=hv.b b q1
   omega
 ·rcases u b q with q | q
  ·exact h.ao b q hA
  ·have:=h.al b hA;omega
theorem Rs.pop {A:Nat→Prop} {w:World} {r:Nat} {D L:List MD} {O:List (List MD)} {E:List (Int × Int)} {dv ev v:Value} {os:List Value} {oa:Option Addr} {oc m:Nat} (h:Rs A w r D (O++[L]) E ⟨dv,.slice oa (m+1) oc,ev,os++[v]⟩) (hm:O.length=m) :
  Rs A (((w.setCell ⟨r,0,none⟩ v).setCell ⟨r,1,none⟩ (.slice oa m oc)).setCell ⟨r,2,none⟩ (.slice none 0 0)) r L O [] ⟨v,.slice oa m oc,.slice none 0 0,os⟩∧Up (RX r ⟨dv,.slice oa (m+1) oc,ev,os++[v]⟩) (RX r ⟨v,.slice oa m oc,.slice none 0 0,os⟩) w∧Kept (RX r ⟨dv,.slice oa (m+1) oc,ev,os++[v]⟩) w (((w.setCell ⟨r,0,none⟩ v).setCell ⟨r,1,none⟩ (.slice oa m oc)).setCell ⟨r,2,none⟩ (.slice none 0 0)):=by
 have hol:=h.ol
 simp only [List.length_append,List.length_cons,List.length_nil] at hol
 have hlo:os.length=O.length:=by omega
 have hg:∃ g,oa=some ⟨g,0,none⟩:=by
  obtain ⟨g,cap,e,_⟩:=h.ov.at (i:=0) (c:=((os++[v]).map fun s=>[s])[0]'(by simp)) (List.getElem?_eq_getElem _)
  injection e with e _ _
  exact ⟨g,e⟩
 obtain ⟨g,rfl⟩:=hg
 have u:Up (RX r ⟨dv,.slice (some ⟨g,0,none⟩) (m+1) oc,ev,os++[v]⟩) (RX r ⟨v,.slice (some ⟨g,0,none⟩) m oc,.slice none 0 0,os⟩) w:=fun b q=>by
  rcases q with q | q | q | q | ⟨s,q1,q2⟩
  ·exact .inl (.inl q)
  ·exact .inl (.inr (.inl q))
  ·cases q
  ·exact .inl (.inr (.inr (.inr (.inr ⟨v,by simp,q⟩))))
  ·exact .inl (.inr (.inr (.inr (.inr ⟨s,List.mem_append_left _ q1,q2⟩))))
 have k0:Kept (fun b=>b=r) w (((w.setCell ⟨r,0,none⟩ v).setCell ⟨r,1,none⟩ (.slice (some ⟨g,0,none⟩) m oc)).setCell ⟨r,2,none⟩ (.slice none 0 0)):=(((Kept.refl (fun b=>b=r) w).setCell rfl 0 v).setCell rfl 1 _).setCell rfl 2 _
 have k:Kept (RX r ⟨dv,.slice (some ⟨g,0,none⟩) (m+1) oc,ev,os++[v]⟩) w (((w.setCell ⟨r,0,none⟩ v).setCell ⟨r,1,none⟩ (.slice (some ⟨g,0,none⟩) m oc)).setCell ⟨r,2,none⟩ (.slice none 0 0)):=k0.mono fun b e=>.inl e
 have kZ:=k.mono (Y:=fun b=>RX r ⟨dv,.slice (some ⟨g,0,none⟩) (m+1) oc,ev,os++[v]⟩ b∨A b) fun b q=>.inl q
 have uZ:Up (fun b=>RX r ⟨dv,.slice (some ⟨g,0,none⟩) (m+1) oc,ev,os++[v]⟩ b∨A b) (fun b=>RX r ⟨v,.slice (some ⟨g,0,none⟩) m oc,.slice none 0 0,os⟩ b∨A b) w:=fun b q=>by
  rcases q with q | q
  ·exact (u b q).imp .inl id
  ·exact .inl (.inr q)
 have ho:∀ (i:Nat) s L',(os++[v])[i]? = some s→(O++[L])[i]? = some L'→Dw (fun b=>RX r ⟨v,.slice (some ⟨g,0,none⟩) m oc,.slice none 0 0,os⟩ b∨A b) (((w.setCell ⟨r,0,none⟩ v).setCell ⟨r,1,none⟩ (.slice (some ⟨g,0,none⟩) m oc)).setCell ⟨r,2,none⟩ (.slice none 0 0)) s L':=fun i s L' h1 h2 =>
  (h.o i s L' h1 h2).go kZ (fun b q=>k0.block b ((h.o i s L' h1 h2).lt q) (fun e=>nep_o (h.o i s L' h1 h2) h.blk (by decide) (e▸q))) uZ
 have hb1:(w.setCell ⟨r,0,none⟩ v).heap[r]? = some (.cells #[v,.slice (some ⟨g,0,none⟩) (m+1) oc,ev] 74 (0,0)):=heap_setCell_in h.blk (by simp)
 have hb2:((w.setCell ⟨r,0,none⟩ v).setCell ⟨r,1,none⟩ (.slice (some ⟨g,0,none⟩) m oc)).heap[r]? = some (.cells #[v,.slice (some ⟨g,0,none⟩) m oc,ev] 74 (0,0)):=heap_setCell_in hb1 (by simp)
 have hb3:(((w.setCell ⟨r,0,none⟩ v).setCell ⟨r,1,none⟩ (.slice (some ⟨g,0,none⟩) m oc)).setCell ⟨r,2,none⟩ (.slice none 0 0)).heap[r]? = some (.cells #[v,.slice (some ⟨g,0,none⟩) m oc,.slice none 0 0] 74 (0,0)):=heap_setCell_in hb2 (by simp)
 have hov:=h.ov.cut (m:=m) (by simp;omega)
 have et:((os++[v]).map fun s=>[s]).take m=os.map fun s=>[s]:=by rw [List.map_append,List.take_append_of_le_length (by simp;omega),List.take_of_length_le (by simp;omega)]
 rw [et] at hov
 refine ⟨⟨hb3,ho os.length v L (by simp) (by rw [hlo];simp),hov.stay k0 (hov.nep h.blk (by decide)),hlo,fun i s L' h1 h2=>ho i s L' (by rw [List.getElem?_append_left (List.getElem?_eq_some_iff.1 h1).1];exact h1) (by rw [List.getElem?_append_left (List.getElem?_eq_some_iff.1 h2).1];exact h2),⟨(fun c hc=>by simp [evl] at hc),World.ownsRow_nil _ _ _ _⟩,fun s h1 b h2=>?_,fun i j s t h1 h2 hij=>?_,fun b q=>Nat.lt_of_lt_of_le (h.al b q) k.size,fun b q hA=>?_⟩,u,k⟩
 ·obtain ⟨i,hi⟩:=List.mem_iff_getElem?.1 h1
  have hl:=(List.getElem?_eq_some_iff.1 hi).1
  have hl':i<os.length:=hl
  exact h.nn i os.length s v (by rw [List.getElem?_append_left hl];exact hi) (by simp) (by omega) b h2
 ·exact h.nn i j s t (by rw [List.getElem?_append_left (List.getElem?_eq_some_iff.1 h1).1];exact h1) (by rw [List.getElem?_append_left (List.getElem?_eq_some_iff.1 h2).1];exact h2) hij
 ·rcases u b q with q | q
  ·exact h.ao b q hA
  ·have:=h.al b hA;omega
theorem Rs.setD {A:Nat→Prop} {W w:World} {r:Nat} {D:List MD} {O:List (List MD)} {E:List (Int × Int)} {rl:Rl} (h:Rs A W r D O E rl) (hb:Below W.heap.size W w) {i g n cap:Nat} (hi:i<D.length) (hv:rl.dv = .slice (some ⟨g,0,none⟩) n cap) {c:List Value} {d:MD} (hc:∀ Z:Nat→Prop,(∀ b,Z b→b<W.heap.size)→Dc Z w c d) :
  Rs A (w.setCells g (i*6) c) r (D.set i d) O E rl∧Kept (RX r rl) W (w.setCells g (i*6) c):=by
 have h2:=h.below hb
 have hg:rl.dv.ownBlock=some g:=by rw [hv];rfl
 have k0:Kept (fun b=>b=g) w (w.setCells g (i*6) c):=Kept.many rfl
 have kX:Kept (RX r rl) w (w.setCells g (i*6) c):=k0.mono fun b e=>.inr (.inr (.inr (.inl (e▸hg))))
 have kZ:=kX.mono (Y:=fun b=>RX r rl b∨A b) fun b q=>.inl q
 obtain ⟨cs,hd,hdr⟩:=h2.d
 obtain ⟨a,c',hsh,_⟩:=hd.shape
 have hcl:c.length=6:=(hc (fun _=>False) (fun _ q=>q.elim)).len
 have hput:=hd.put (c:=c) (i:=i) (g:=g) (cap:=cap) (by have:=hdr.1;omega) hcl (by rw [hv] at hsh ⊢;injection hsh with _ e _;rw [e])
 obtain ⟨cur,hcur⟩:=hd.typ hg
 have hz:∀ b,RX r rl b∨A b→b<W.heap.size:=fun b q=>q.elim (h.x_lt b) (h.al b)
 refine ⟨⟨keep_p h2.blk hcur (by decide) k0,⟨cs.set i c,hput,by simp [hdr.1],fun j c1 d1 h1 h2=>?_⟩,h2.ov.stay k0 (fun q=>hd.ne h2.ov (by decide) hg q),h2.ol,fun j s L h1 h3=>?_,h2.ev.stay k0 (fun q=>hd.ne h2.ev (by decide) hg q),h2.nd,h2.nn,fun b q=>Nat.lt_of_lt_of_le (h2.al b q) k0.size,h2.ao⟩,(Kept.of_below (X:=RX r rl) hb).trans kX (Up.refl _ _)⟩
 ·by_cases e:i=j
  ·subst e
   rw [List.getElem?_set_self (by rw [hdr.1];exact hi)] at h1
   rw [List.getElem?_set_self hi] at h2
   injection h1 with h1
   injection h2 with h2
   subst h1 h2
   exact (hc _ hz).kept kZ
  ·rw [List.getElem?_set_ne e] at h1 h2
   exact (hdr.2 j c1 d1 h1 h2).kept kZ
 ·exact (h2.o j s L h1 h3).go kZ (fun b q=>k0.block b ((h2.o j s L h1 h3).lt q) (fun e=>h2.nd s (List.mem_of_getElem? h1) b q (e▸hg))) (Up.refl _ _)
theorem Rs.setE {A:Nat→Prop} {W w:World} {r:Nat} {D:List MD} {O:List (List MD)} {E E':List (Int × Int)} {rl:Rl} (h:Rs A W r D O E rl) (hb:Below W.heap.size W w) {ev':Value} (hr:Rw w 99 ev' 2 (evl E')) (hn:∀ b,ev'.ownBlock=some b→W.heap.size≤b) :
  Rs A (w.setCell ⟨r,2,none⟩ ev') r D O E' { rl with ev:=ev' }∧Up (RX r rl) (RX r { rl with ev:=ev' }) W∧Kept (RX r rl) W (w.setCell ⟨r,2,none⟩ ev'):=by
 have h2:=h.below hb
 have u:Up (RX r rl) (RX r { rl with ev:=ev' }) W:=fun b q=>by
  rcases q with q | q | q | q | q
  ·exact .inl (.inl q)
  ·exact .inl (.inr (.inl q))
  ·exact .inr (hn b q)
  ·exact .inl (.inr (.inr (.inr (.inl q))))
  ·exact .inl (.inr (.inr (.inr (.inr q))))
 have k0:Kept (fun b=>b=r) w (w.setCell ⟨r,2,none⟩ ev'):=Kept.one (a:=w) rfl
 have k:Kept (RX r rl) W (w.setCell ⟨r,2,none⟩ ev'):=(Kept.of_below (X:=RX r rl) hb).setCell (.inl rfl) 2 ev'
 have kZ:=k.mono (Y:=fun b=>RX r rl b∨A b) fun b q=>.inl q
 have uZ:Up (fun b=>RX r rl b∨A b) (fun b=>RX r { rl with ev:=ev' } b∨A b) W:=fun b q=>by
  rcases q with q | q
  ·exact (u b q).imp .inl id
  ·exact .inl (.inr q)
 have kD:∀ s L,Dw (fun b=>RX r rl b∨A b) W s L→Dw (fun b=>RX r { rl with ev:=ev' } b∨A b) (w.setCell ⟨r,2,none⟩ ev') s L:=fun s L hD=>hD.go kZ (fun b q=>(k0.block b (Nat.lt_of_lt_of_le (hD.lt q) hb.size) (fun e=>nep_o hD h.blk (by decide) (e▸q))).trans (hb.block b (hD.lt q))) uZ
 refine ⟨⟨heap_setCell_in h2.blk (by simp),kD _ _ h.d,h2.ov.stay k0 (h2.ov.nep h2.blk (by decide)),h.ol,fun i s L h1 h3=>kD _ _ (h.o i s L h1 h3),hr.stay k0 (hr.nep h2.blk (by decide)),h.nd,h.nn,fun b q=>Nat.lt_of_lt_of_le (h.al b q) k.size,fun b q hA=>?_⟩,u,k⟩
 rcases u b q with q | q
 ·exact h.ao b q hA
 ·have:=h.al b hA;omega
theorem Rs.putE {A:Nat→Prop} {w:World} {r:Nat} {D:List MD} {O:List (List MD)} {E:List (Int × Int)} {rl:Rl} (h:Rs A w r D O E rl) {i g n cap:Nat} (hi:i<E.length) (hv:rl.ev = .slice (some ⟨g,0,none⟩) n cap) (x y:Int) :
  Rs A (w.setCells g (i*2) [.int .i64 x,.int .i64 y]) r D O (E.set i (x,y)) rl∧Kept (RX r rl) w (w.setCells g (i*2) [.int .i64 x,.int .i64 y]):=by
 have hg:rl.ev.ownBlock=some g:=by rw [hv];rfl
 have k0:Kept (fun b=>b=g) w (w.setCells g (i*2) [.int .i64 x,.int .i64 y]):=Kept.many rfl
 have k:Kept (RX r rl) w (w.setCells g (i*2) [.int .i64 x,.int .i64 y]):=k0.mono fun b e=>.inr (.inr (.inl (e▸hg)))
 have kZ:=k.mono (Y:=fun b=>RX r rl b∨A b) fun b q=>.inl q
 obtain ⟨a,c',hsh,_⟩:=h.ev.shape
 have hput:=h.ev.put (c:=[.int .i64 x,.int .i64 y]) (i:=i) (g:=g) (cap:=cap) (by rw [evl_len];exact hi) rfl (by rw [hv] at hsh ⊢;injection hsh with _ e _;rw [e])
 have e2:(evl E).set i [.int .i64 x,.int .i64 y]=evl (E.set i (x,y)):=by simp [evl]
 rw [e2] at hput
 obtain ⟨cur,hcur⟩:=h.ev.typ hg
 have kD:∀ s L,Dw (fun b=>RX r rl b∨A b) w s L→Dw (fun b=>RX r rl b∨A b) (w.setCells g (i*2) [.int .i64 x,.int .i64 y]) s L:=fun s L hD=>hD.go kZ (fun b q=>k0.block b (hD.lt q) (fun e=>by
  obtain ⟨c1,e1⟩:=hD.typ q
  exact ne_typ e1 hcur (by decide) e)) (Up.refl _ _)
 exact ⟨⟨keep_p h.blk hcur (by decide) k0,kD _ _ h.d,h.ov.stay k0 (fun q=>h.ev.ne h.ov (by decide) hg q),h.ol,fun i s L h1 h3=>kD _ _ (h.o i s L h1 h3),hput,h.nd,h.nn,fun b q=>Nat.lt_of_lt_of_le (h.al b q) k.size,h.ao⟩,k⟩
end Go.Proofs.YtghnfnieppfhgaaGreat
