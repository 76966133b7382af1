/- What is proved here: Solution of a store and of the reference store: the only values of all, in memory of their own. -/
import Derived.Test.YtghnfnieppfhgaaGreatPkj
import Derived.Test.YtghnfnieppfhgaaGreatPbj
import Derived.Test.YtghnfnieppfhgaaGreatMsj
import Derived.OwnWalk
import Derived.Laws.MakeOwn
set_option linter.unusedVariables false
set_option linter.unusedSimpArgs false
set_option maxRecDepth 100000
set_option maxHeartbeats 4000000
namespace Go.Proofs.YtghnfnieppfhgaaGreat
open Go.RowKit Go.Shelf
theorem Tryz.infoVal:(Tryz.prog.info? 57).map (fun i=>(i.zero,i.size,i.bytes))=some (some (.agg #[.bool false,.int .i64 0,.slice none 0 0]),3,40):=by kernel_rfl
theorem Tryz.underlying84:Tryz.prog.underlying 84=some (.slice 57):=by kernel_rfl
def Vx (w:World) (c:List Value) (x:Bool × Int × List Int):Prop:=∃ p l k,c=[.bool x.1,.int .i64 x.2.1,.slice p l k]∧St.Si w (.slice p l k) x.2.2∧St.Nt w (.slice p l k)
theorem Vx.keep {w w':World} {c:List Value} {x:Bool × Int × List Int} (h:Vx w c x) (hs:w.heap.size≤w'.heap.size) (k:∀ (b:Nat) (cur:Array Value) (fr:Nat × Nat),w.heap[b]? = some (.cells cur 2 fr)→w'.heap[b]? = w.heap[b]?):Vx w' c x:=by
 obtain ⟨p,l,m,e,h1,h2⟩:=h
 refine ⟨p,l,m,e,?_,h2.keep k⟩
 obtain ⟨a,c,e1,h3⟩:=h1
 refine ⟨a,c,e1,fun h0=>?_⟩
 obtain ⟨b,off,q1,q2,q3⟩:=h3 h0
 injection e1 with e1 e4 e5
 obtain ⟨cur,fr,h4⟩:=h2 b off l m (by rw [e1,q1])
 exact ⟨b,off,q1,Nat.lt_of_lt_of_le q2 hs,fun i hi=>(World.cell?_of_block (a:=⟨b,off+i,none⟩) (k b cur fr h4)).trans (q3 i hi)⟩
theorem Vx.below {w w':World} {c:List Value} {x:Bool × Int × List Int} (h:Vx w c x) (hb:Below w.heap.size w w'):Vx w' c x:=h.keep hb.size fun b cur fr h1=>hb.block b (Array.getElem?_eq_some_iff.1 h1).1
structure LV (N : Nat) (w : World) (v : Value) (L : List (Bool × Int × List Int)) (vs : List (List Value)) : Prop where
 n:vs.length=L.length
 r:Rw w 57 v 3 vs
 d:∀ (i:Nat) c x,vs[i]? = some c→L[i]? = some x→Vx w c x
 b:∀ g,v.ownBlock=some g→N≤g
theorem LV.below {N:Nat} {w w':World} {v:Value} {L:List (Bool × Int × List Int)} {vs:List (List Value)} (h:LV N w v L vs) (hb:Below w.heap.size w w'):LV N w' v L vs :=
 ⟨h.n,h.r.keep (fun g hg=>hb.block g (h.r.lt hg)),fun i c d h1 h2=>(h.d i c d h1 h2).below hb,h.b⟩
theorem lv_nil (N:Nat) (w:World):LV N w (.slice none 0 0) [] []:=⟨rfl,⟨fun _ h=>by simp at h,by simpa using World.ownsRow_nil _ _ _ _⟩,fun i c d h _=>by simp at h,fun g hg=>by simp [Value.ownBlock] at hg⟩
theorem LV.app {N:Nat} {w w':World} {v v':Value} {L:List (Bool × Int × List Int)} {vs:List (List Value)} (h:LV N w v L vs) {c:List Value} {x:Bool × Int × List Int} (hx:Vx w c x) (hr:Rw w' 57 v' 3 (vs++[c])) (hg:w.grownBy w' v.ownBlock) (hn:∀ b,v'.ownBlock=some b→v.ownBlock=some b∨w.heap.size≤b) (hN:N≤w.heap.size):LV N w' v' (L++[x]) (vs++[c]):=by
 have key:∀ c x,Vx w c x→Vx w' c x:=fun c x hx=>hx.keep hg.size fun b cur fr h1=>hg.block b (Array.getElem?_eq_some_iff.1 h1).1 (fun e=>by
  obtain ⟨c2,e2⟩:=h.r.typ e.symm
  rw [e2] at h1
  cases h1)
 refine ⟨by simp [h.n],hr,fun i c' x' h1 h2=>?_,fun g hg'=>?_⟩
 ·by_cases hi:i<vs.length
  ·rw [List.getElem?_append_left hi] at h1
   rw [List.getElem?_append_left (by rw [←h.n];exact hi)] at h2
   exact key _ _ (h.d i c' x' h1 h2)
  ·have hl:=(List.getElem?_eq_some_iff.1 h1).1
   simp at hl
   have e:i=vs.length:=by omega
   subst e
   rw [List.getElem?_append_right (Nat.le_refl _),Nat.sub_self] at h1
   rw [h.n,List.getElem?_append_right (Nat.le_refl _),Nat.sub_self] at h2
   injection h1 with h1
   injection h2 with h2
   subst h1 h2
   exact key _ _ hx
 ·rcases hn g hg' with q | q
  ·exact h.b g q
  ·omega
def solL (D:List MD):List (Bool × Int × List Int):=if D.all onlyA then D.map vlM else []
theorem sol_all {D:List MD} (h:∀ d∈D,onlyA d=true):solL D=D.map vlM∧D.all onlyA=true:=by
 have h1:D.all onlyA=true:=List.all_eq_true.2 h
 exact ⟨by unfold solL;rw [if_pos h1],h1⟩
theorem sol_no {D:List MD} {d:MD} (h:d∈D) (ho:onlyA d=false):solL D=[]∧D.all onlyA=false:=by
 have h1:D.all onlyA=false:=by
  cases q:D.all onlyA
  ·rfl
  ·rw [List.all_eq_true.1 q d h] at ho;cases ho
 exact ⟨by unfold solL;rw [h1];rfl,h1⟩
theorem rsol_x {A:Nat→Prop} {W:World} {r:Nat} {D:List MD} {O:List (List MD)} {E:List (Int × Int)} {rl:Rl} (h:Rs A W r D O E rl) (hn:D.length≤1000) (hf:∀ d∈D,Dm.FitsR d.r) :
  Calls Tryz.prog 47 #[ptr r] W fun e w'=>∃ v vs,e = .returned (.tuple #[v,.bool (D.all onlyA)])∧LV W.heap.size w' v (solL D) vs∧Below W.heap.size W w':=by
 obtain ⟨n,m,q,da,dc,oa,oc,ea,ec,os,rfl,HL⟩:=h.look
 have HS:Hid (∀ w,Below W.heap.size W w→Rs A w r D O E ⟨.slice da n dc,.slice oa m oc,.slice ea q ec,os⟩):=fun w hb=>h.below hb
 have HND:Hid (D.length=n):=HL.out.1
 have hn1:n≤1000:=by rw [←HL.out.1];exact hn
 obtain ⟨N,hN⟩:∃ N,W.heap.size=N:=⟨_,rfl⟩
 have HN:Hid (W.heap.size=N):=hN
 have HF:Hid (∀ d∈D,Dm.FitsR d.r):=hf
 clear h hn hf HL
 rw [hN] at HS ⊢
 clear hN
 go_enter Tryz.func47,Tryz.ntmps47
 go_wp2
 go_loopw [4,5] (fun v i wr=>∃ (k:Nat) (vs:List (List Value)),i = .int .i64 (k:Int)∧k≤n∧Hid (LV N wr v ((D.take k).map vlM) vs)∧Hid (∀ d∈D.take k,onlyA d=true)∧Hid (Below N W wr)) (fun _ i _=>n-(intOf i).toNat)
 case atStart=>exact ⟨0,[],rfl,Nat.zero_le _,lv_nil _ _,fun d hd=>by simp at hd,Below.refl _ _⟩
 case round =>
  obtain ⟨k,vs,rfl,hk,HLD,HON,HB⟩:=hrel
  obtain ⟨sa,sc,rfl,_,_⟩:=HLD.out.r.shape
  have hvl:vs.length=k:=by rw [HLD.out.n,List.length_map,List.length_take,HND.out];omega
  rw [hvl] at HLD ⊢
  have HVL:Hid (vs.length=k):=hvl
  have HR:Hid (Rs A wr r D O E ⟨.slice da n dc,.slice oa m oc,.slice ea q ec,os⟩):=HS.out wr HB.out
  have hc0:=HR.out.cells.1
  simp only at hc0
  have HSZ:Hid (N≤wr.heap.size):=by have:=HB.out.size;rw [HN.out] at this;exact this
  by_cases hlt:k<n
  ·have hlt':(k:Int)<(n:Int):=by omega
   have hwk:IntKind.i64.wrap ((k:Int)+1)=(k:Int)+1:=by rw [IntKind.wrap_i64];omega
   obtain ⟨d,hd⟩:∃ d,D[k]? = some d:=⟨_,List.getElem?_eq_getElem (by rw [HND.out];exact hlt)⟩
   obtain ⟨b1,off1,rfl,hb1,_,c0,c1,c2,c3,c4,c5,hDc,i0,i1,i2,i3,i4,i5⟩:=HR.out.ds.at hd
   have kl:=rvalue_x hDc (HF.out d (List.mem_of_getElem? hd))
   have HDD:Hid (D[k]? = some d):=hd
   have hone:=hDc.one
   clear hd hb1 hDc hvl
   generalize hvm:vlM d=vm at kl
   have HVM:Hid (vlM d=vm):=hvm
   clear hvm
   obtain ⟨v1,v2,v3⟩:=vm
   cases hoo:onlyA d
   ·rw [hoo] at kl
    have HSO:Hid (solL D=[]∧D.all onlyA=false):=sol_no (List.mem_of_getElem? HDD.out) hoo
    clear hoo
    go_wp2_with fail
    refine kl.mono ?_
    clear kl i0 i1 i2 i3 i4 i5 hone hc0
    rintro e w1 ⟨p,l,c,rfl,hq,hb1⟩
    have HB1:Hid (Below N W w1):=HB.out.trans (hb1.mono HSZ.out)
    clear hq hb1
    go_wp2
    go_ret2
    have hS:=HSO.out
    rw [hS.1,hS.2]
    refine ⟨_,[],rfl,lv_nil _ _,?_⟩
    exact (HB1.out.alloc (by have:=HB1.out.size;rw [HN.out] at this;exact this) _)
   ·rw [hoo] at kl
    have HOO:Hid (onlyA d=true):=hoo
    clear hoo
    go_wp2_with fail
    refine kl.mono ?_
    clear kl i0 i1 i2 i3 i4 i5 hone hc0
    rintro e w1 ⟨p,l,c,rfl,hq,hb1⟩
    have HB1:Hid (Below N W w1):=HB.out.trans (hb1.mono HSZ.out)
    have HLD1:Hid (LV N w1 (.slice sa k sc) ((D.take k).map vlM) vs):=HLD.out.below hb1
    have HVX1:Hid (Vx w1 [.bool v1,.int .i64 v2,.slice p l c] (v1,v2,v3)):=⟨p,l,c,rfl,hq⟩
    clear hq hb1
    obtain ⟨M,hM⟩:∃ x,w1.heap.size=x:=⟨_,rfl⟩
    obtain ⟨w2,hw2⟩:∃ x,w1.alloc (Obj.cells #[.bool v1,.int .i64 v2,.slice p l c] 57)=x:=⟨_,rfl⟩
    have hb2:Below w1.heap.size w1 w2:=by rw [←hw2];exact (Below.refl _ _).alloc (Nat.le_refl _) _
    have HBX:Hid (Bx w2 M #[.bool v1,.int .i64 v2,.slice p l c] 57):=by rw [←hw2];exact Bx.new' hM _ _
    go_upto_region 8 with (fail)
    have HLD2:Hid (LV N w2 (.slice sa k sc) ((D.take k).map vlM) vs):=HLD1.out.below hb2
    have HVX2:Hid (Vx w2 [.bool v1,.int .i64 v2,.slice p l c] (v1,v2,v3)):=HVX1.out.below hb2
    have HB2:Hid (Below N W w2):=HB1.out.trans (hb2.mono (by have:=HB1.out.size;rw [HN.out] at this;exact this))
    obtain ⟨M3,hM3⟩:∃ x,w2.heap.size=x:=⟨_,rfl⟩
    obtain ⟨w3,hw3⟩:∃ x,w2.alloc (Obj.cells #[.bool v1,.int .i64 v2,.slice p l c] 57)=x:=⟨_,rfl⟩
    have hb3:Below w2.heap.size w2 w3:=by rw [←hw3];exact (Below.refl _ _).alloc (Nat.le_refl _) _
    have HBX3:Hid (Bx w3 M3 #[.bool v1,.int .i64 v2,.slice p l c] 57):=by rw [←hw3];exact Bx.new' hM3 _ _
    have HLD3:Hid (LV N w3 (.slice sa k sc) ((D.take k).map vlM) vs):=HLD2.out.below hb3
    have HVX3:Hid (Vx w3 [.bool v1,.int .i64 v2,.slice p l c] (v1,v2,v3)):=HVX2.out.below hb3
    have HB3:Hid (Below N W w3):=HB2.out.trans (hb3.mono (by have:=HB2.out.size;rw [HN.out] at this;exact this))
    have HW3:Hid _:=hw3
    have HM3:Hid _:=hM3
    obtain ⟨x0,x1,x2⟩:=HBX.out.three
    clear hw2 hb2 hb3 hw3 hM hM3
    go_wp2_with (at_builtin;rw [HW3.out];refine list_app HLD3.out.r 84 Tryz.underlying84 Tryz.infoVal rfl (by decide) rfl _ _ rfl rfl ⟨M3,0,none⟩ 1 (by first | rfl | (rw [←HM3.out];rfl)) [.bool v1,.int .i64 v2,.slice p l c] rfl (fun j u hu=>by rw [Addr.add_lit,Nat.zero_add];exact (HBX3.out.cell j).trans (by simpa using hu)) (fun u hu=>by simp at hu;rcases hu with rfl | rfl | rfl<;>rfl) (by rw [HVL.out];omega) (by decide) ?_;intro v' w4 hr' hgrow hnew)
    go_roundw
    case rel =>
     have hsz:N≤w3.heap.size:=by have:=HB3.out.size;rw [HN.out] at this;exact this
     refine ⟨k+1,vs++[[.bool v1,.int .i64 v2,.slice p l c]],by go_num,by omega,?_,?_,?_⟩
     ·rw [List.take_add_one,HDD.out,List.map_append]
      show LV N w4 v' (_++[vlM d]) _
      have hvm:vlM d=(v1,v2,v3):=HVM
      rw [hvm]
      exact HLD3.out.app HVX3.out hr' hgrow hnew hsz
     ·intro d' hd'
      rw [List.take_add_one,HDD.out] at hd'
      rcases List.mem_append.1 hd' with q | q
      ·exact HON.out d' q
      ·have e:d'=d:=by simpa using q
       rw [e];exact HOO.out
     ·exact HB3.out.grown hgrow hsz (fun g hg=>HLD3.out.b g hg)
    case measure=>simp [intOf];omega
  ·have hlt':¬(k:Int)<(n:Int):=by omega
   obtain rfl:k=n:=by omega
   have hfull:D.take k=D:=List.take_of_length_le (by rw [HND.out];exact Nat.le_refl _)
   rw [hfull] at HLD HON
   have HSO:=hid (sol_all HON.out)
   clear hfull hvl
   go_wp2
   go_ret2
   rw [HSO.out.1,HSO.out.2]
   exact ⟨_,rfl,⟨vs,HLD.out⟩,HB.out⟩
theorem sol_x [Gh] {W:World} {p:Nat} {st:StM} {sl:Sl} (h:Sto W p st sl) (hz:Sz st) (hf:∀ o∈st.D,Dm.FitsR o.r) :
  Calls Tryz.prog 46 #[ptr p] W fun e w'=>∃ v vs,e = .returned (.tuple #[v,.bool (st.D.all onlyA)])∧LV W.heap.size w' v (solL st.D) vs∧Below W.heap.size W w':=by
 have HS:Hid (∀ w,Below W.heap.size W w→Sto w p st sl):=fun w hb=>h.below hb
 obtain ⟨n,k0,m,sa0,sc0,ma,mc,ia,ic,da,dc,wa,wc,rfl,HL⟩:=h.look
 obtain ⟨z0,z1,z2,z3,z4,z5,zf⟩:=h.cells
 simp only at z3
 have HND:Hid (st.D.length=n):=HL.out.1
 have hn1:n≤1000:=by rw [←HL.out.1];exact hz.1
 obtain ⟨N,hN⟩:∃ N,W.heap.size=N:=⟨_,rfl⟩
 have HN:Hid (W.heap.size=N):=hN
 obtain ⟨i0,hi0,hz0,hz1,hz2⟩:=info_parts Tryz.infoVal
 obtain ⟨w1,hmk,how,hgr⟩:=run_makeSlice_owned (P:=Tryz.prog) (w:=W) W.heap.size 84 57 i0 _ 3 Tryz.underlying84 hi0 hz0 hz1 .i64 .i64 n (by omega) (by rw [hz2];omega) (by unfold maxLen;omega) (Nat.le_refl _)
 have hb1:Below N W w1:=by rw [←hN];exact growB hgr (fun b hb=>by cases hb) (Nat.le_refl _)
 have HLD1:Hid (LV N w1 (.slice (some ⟨N,0,none⟩) 0 n) ((st.D.take 0).map vlM) []):=by
  rw [hN] at how
  refine ⟨rfl,⟨fun c hc=>by simp at hc,?_⟩,fun i c d hc=>by simp at hc,fun g hg=>?_⟩
  ·have h1:=how
   refine ⟨h1.1,?_⟩
   rcases h1.2 with e | ⟨g,cap,cur,e1,hB,r⟩
   ·exact .inl e
   ·exact .inr ⟨g,cap,cur,e1,Nat.zero_le _,r⟩
  ·have:N=g:=by simpa [Value.ownBlock] using hg
   omega
 have HB1:Hid (Below N W w1):=hb1
 have HF:Hid (∀ o∈st.D,Dm.FitsR o.r):=hf
 rw [hN] at HS ⊢
 have z9:=(HS.out w1 hb1).cells.2.2.2.1
 simp only at z9
 rw [hN] at hmk
 clear h hz hf z0 z1 z2 z4 z5 zf hi0 hz0 hz1 hz2 how hgr hb1 HL hN
 go_enter Tryz.func46,Tryz.ntmps46
 go_wp2
 go_loopw [4,22] (fun v i wr=>∃ (k:Nat) (vs:List (List Value)),i = .int .i64 (k:Int)∧k≤n∧Hid (LV N wr v ((st.D.take k).map vlM) vs)∧Hid (∀ d∈st.D.take k,onlyA d=true)∧Hid (Below N W wr)) (fun _ i _=>n-(intOf i).toNat)
 case atStart=>exact ⟨0,[],rfl,Nat.zero_le _,HLD1,(fun d hd=>by simp at hd),HB1⟩
 case round =>
  obtain ⟨k,vs,rfl,hk,HLD,HON,HB⟩:=hrel
  obtain ⟨sa,sc,rfl,_,_⟩:=HLD.out.r.shape
  have hvl:vs.length=k:=by rw [HLD.out.n,List.length_map,List.length_take,HND.out];omega
  rw [hvl] at HLD ⊢
  have HVL:Hid (vs.length=k):=hvl
  have HSZ:Hid (N≤wr.heap.size):=by have:=HB.out.size;rw [HN.out] at this;exact this
  by_cases hlt:k<n
  ·have hlt':(k:Int)<(n:Int):=by omega
   have hwk:IntKind.i64.wrap ((k:Int)+1)=(k:Int)+1:=by rw [IntKind.wrap_i64];omega
   obtain ⟨d,hd⟩:∃ d,st.D[k]? = some d:=⟨_,List.getElem?_eq_getElem (by rw [HND.out];exact hlt)⟩
   obtain ⟨g,cap,c,e1,hgl,hcap,hcm,hr,hth,hdc⟩:=(HS.out wr HB.out).dom_at hd
   injection e1 with e1 e2 e3
   subst e1 e3
   have HDD:Hid (st.D[k]? = some d):=hd
   have hff:=HF.out d (List.mem_of_getElem? hd)
   obtain ⟨b,ra,n0,rc,a1,n1,c1,a2,n2,c2,x,y,rfl,HE,_,_,_⟩:=hdc.look
   clear HE
   obtain ⟨i0,i1,i2,i3,i4,i5⟩:=rng6 hr
   have hone:=hdc.one
   obtain ⟨bx,hbx⟩:∃ q,wr.heap.size=q:=⟨_,rfl⟩
   obtain ⟨Y0,hY0⟩:∃ q,wr.alloc (Obj.cells #[.bool b,.slice ra n0 rc,.slice a1 n1 c1,.slice a2 n2 c2,.int .i64 x,.int .i64 y] 37)=q:=⟨_,rfl⟩
   have hbY:Below wr.heap.size wr Y0:=by rw [←hY0];exact (Below.refl _ _).alloc (Nat.le_refl _) _
   have HBX0:Hid (Bx Y0 bx #[.bool b,.slice ra n0 rc,.slice a1 n1 c1,.slice a2 n2 c2,.int .i64 x,.int .i64 y] 37):=by rw [←hY0];exact Bx.new' hbx _ _
   have kl:=only_x (hdc.below hbY) hff
   have HBY:Hid (Below N W Y0):=HB.out.trans (hbY.mono HSZ.out)
   have HLDY:Hid (LV N Y0 (.slice sa k sc) ((st.D.take k).map vlM) vs):=HLD.out.below hbY
   have HY0:Hid _:=hY0
   obtain ⟨x0,x1,x2,x3,x4,x5⟩:=HBX0.out.six
   clear hd hgl hcap hcm hr hth hdc hff hY0 hbY hvl e2
   generalize hvm:vlM d=vm at kl
   have HVM:Hid (vlM d=vm):=hvm
   clear hvm
   obtain ⟨v1,v2,v3⟩:=vm
   have HSY:Hid (N≤Y0.heap.size):=by have:=HBY.out.size;rw [HN.out] at this;exact this
   cases hoo:onlyA d
   ·rw [hoo] at kl
    have HSO:Hid (solL st.D=[]∧st.D.all onlyA=false):=sol_no (List.mem_of_getElem? HDD.out) hoo
    clear hoo
    go_upto_region 7 with (fail)
    rw [HY0.out]
    clear hbx i0 i1 i2 i3 i4 i5
    go_wp2_with fail
    refine kl.mono ?_
    clear kl x0 x1 x2 x3 x4 x5 hone
    rintro e w1 ⟨p,l,c,rfl,hq,hb1⟩
    have HB1:Hid (Below N W w1):=HBY.out.trans (hb1.mono HSY.out)
    clear hq hb1
    go_wp2
    go_ret2
    have hS:=HSO.out
    rw [hS.1,hS.2]
    refine ⟨_,[],rfl,lv_nil _ _,?_⟩
    exact (HB1.out.alloc (by have:=HB1.out.size;rw [HN.out] at this;exact this) _)
   ·rw [hoo] at kl
    have HOO:Hid (onlyA d=true):=hoo
    clear hoo
    go_upto_region 7 with (fail)
    rw [HY0.out]
    clear hbx i0 i1 i2 i3 i4 i5
    go_wp2_with fail
    refine kl.mono ?_
    clear kl x0 x1 x2 x3 x4 x5 hone
    rintro e w1 ⟨p,l,c,rfl,hq,hb1⟩
    have HB1:Hid (Below N W w1):=HBY.out.trans (hb1.mono HSY.out)
    have HLD1:Hid (LV N w1 (.slice sa k sc) ((st.D.take k).map vlM) vs):=HLDY.out.below hb1
    have HVX1:Hid (Vx w1 [.bool v1,.int .i64 v2,.slice p l c] (v1,v2,v3)):=⟨p,l,c,rfl,hq⟩
    clear hq hb1
    obtain ⟨M,hM⟩:∃ x,w1.heap.size=x:=⟨_,rfl⟩
    obtain ⟨w2,hw2⟩:∃ x,w1.alloc (Obj.cells #[.bool v1,.int .i64 v2,.slice p l c] 57)=x:=⟨_,rfl⟩
    have hb2:Below w1.heap.size w1 w2:=by rw [←hw2];exact (Below.refl _ _).alloc (Nat.le_refl _) _
    have HBX:Hid (Bx w2 M #[.bool v1,.int .i64 v2,.slice p l c] 57):=by rw [←hw2];exact Bx.new' hM _ _
    go_upto_region 10 with (fail)
    have HLD2:Hid (LV N w2 (.slice sa k sc) ((st.D.take k).map vlM) vs):=HLD1.out.below hb2
    have HVX2:Hid (Vx w2 [.bool v1,.int .i64 v2,.slice p l c] (v1,v2,v3)):=HVX1.out.below hb2
    have HB2:Hid (Below N W w2):=HB1.out.trans (hb2.mono (by have:=HB1.out.size;rw [HN.out] at this;exact this))
    obtain ⟨M3,hM3⟩:∃ x,w2.heap.size=x:=⟨_,rfl⟩
    obtain ⟨w3,hw3⟩:∃ x,w2.alloc (Obj.cells #[.bool v1,.int .i64 v2,.slice p l c] 57)=x:=⟨_,rfl⟩
    have hb3:Below w2.heap.size w2 w3:=by rw [←hw3];exact (Below.refl _ _).alloc (Nat.le_refl _) _
    have HBX3:Hid (Bx w3 M3 #[.bool v1,.int .i64 v2,.slice p l c] 57):=by rw [←hw3];exact Bx.new' hM3 _ _
    have HLD3:Hid (LV N w3 (.slice sa k sc) ((st.D.take k).map vlM) vs):=HLD2.out.below hb3
    have HVX3:Hid (Vx w3 [.bool v1,.int .i64 v2,.slice p l c] (v1,v2,v3)):=HVX2.out.below hb3
    have HB3:Hid (Below N W w3):=HB2.out.trans (hb3.mono (by have:=HB2.out.size;rw [HN.out] at this;exact this))
    have HW3:Hid _:=hw3
    have HM3:Hid _:=hM3
    obtain ⟨x0,x1,x2⟩:=HBX.out.three
    clear hw2 hb2 hb3 hw3 hM hM3
    go_wp2_with (at_builtin;rw [HW3.out];refine list_app HLD3.out.r 84 Tryz.underlying84 Tryz.infoVal rfl (by decide) rfl _ _ rfl rfl ⟨M3,0,none⟩ 1 (by first | rfl | (rw [←HM3.out];rfl)) [.bool v1,.int .i64 v2,.slice p l c] rfl (fun j u hu=>by rw [Addr.add_lit,Nat.zero_add];exact (HBX3.out.cell j).trans (by simpa using hu)) (fun u hu=>by simp at hu;rcases hu with rfl | rfl | rfl<;>rfl) (by rw [HVL.out];omega) (by decide) ?_;intro v' w4 hr' hgrow hnew)
    go_roundw
    case rel =>
     have hsz:N≤w3.heap.size:=by have:=HB3.out.size;rw [HN.out] at this;exact this
     refine ⟨k+1,vs++[[.bool v1,.int .i64 v2,.slice p l c]],by go_num,by omega,?_,?_,?_⟩
     ·rw [List.take_add_one,HDD.out,List.map_append]
      show LV N w4 v' (_++[vlM d]) _
      have hvm:vlM d=(v1,v2,v3):=HVM
      rw [hvm]
      exact HLD3.out.app HVX3.out hr' hgrow hnew hsz
     ·intro d' hd'
      rw [List.take_add_one,HDD.out] at hd'
      rcases List.mem_append.1 hd' with q | q
      ·exact HON.out d' q
      ·have e:d'=d:=by simpa using q
       rw [e];exact HOO.out
     ·exact HB3.out.grown hgrow hsz (fun g hg=>HLD3.out.b g hg)
    case measure=>simp [intOf];omega
  ·have hlt':¬(k:Int)<(n:Int):=by omega
   obtain rfl:k=n:=by omega
   have hfull:st.D.take k=st.D:=List.take_of_length_le (by rw [HND.out];exact Nat.le_refl _)
   rw [hfull] at HLD HON
   have HSO:=hid (sol_all HON.out)
   clear hfull hvl
   go_wp2
   go_ret2
   rw [HSO.out.1,HSO.out.2]
   exact ⟨_,rfl,⟨vs,HLD.out⟩,HB.out⟩
end Go.Proofs.YtghnfnieppfhgaaGreat
