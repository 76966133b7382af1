/- What is proved here: the reference's walk finds a domain's only set. What is proved here: the reference's All with the limit 1, where there is one set, and its Fixed. -/
import Derived.Test.YtghnfnieppfhgaaGreatAa
import Derived.Test.YtghnfnieppfhgaaGreatYUbj
import Derived.Test.YtghnfnieppfhgaaGreatYOkj
set_option linter.unusedVariables false
set_option linter.unusedSimpArgs false
set_option maxRecDepth 100000
set_option maxHeartbeats 4000000
namespace Go.Proofs.YtghnfnieppfhgaaGreat.St
open Go.RowKit Go.Shelf
theorem Tryz.info35:(Tryz.prog.info? 35).map (fun i=>(i.zero,i.size,i.bytes))=some (some (.slice none 0 0),1,24):=by kernel_rfl
def Nt (w:World) (s:Value):Prop:=∀ (b off n c:Nat),s = .slice (some ⟨b,off,none⟩) n c→∃ (cur:Array Value) (fr:Nat × Nat),w.heap[b]? = some (.cells cur 2 fr)
theorem Nt.keep {w w':World} {s:Value} (h:Nt w s) (k:∀ (b:Nat) (cur:Array Value) (fr:Nat × Nat),w.heap[b]? = some (.cells cur 2 fr)→w'.heap[b]? = w.heap[b]?):Nt w' s:=fun b off n c e=>by
 obtain ⟨cur,fr,h1⟩:=h b off n c e
 exact ⟨cur,fr,(k b cur fr h1).trans h1⟩
theorem Nt.below {w w':World} {s:Value} (h:Nt w s) (hb:Below w.heap.size w w'):Nt w' s:=h.keep fun b cur fr h1=>hb.block b (Array.getElem?_eq_some_iff.1 h1).1
theorem nt_nil (w:World):Nt w (.slice none 0 0):=fun b off n c e=>by injection e with e _ _;cases e
theorem own_nt {w:World} {N n k:Nat} {s:Value} {l:List Value} (h:w.ownsRow N 2 k s n l):Nt w s:=fun b off m c e=>by
 rcases h.2 with ⟨e1,_⟩ | ⟨g,cap,cur,e1,_,hh,_⟩
 ·rw [e1] at e;injection e with e _ _;cases e
 ·rw [e1] at e
  injection e with e _ _
  injection e with e
  injection e with e _ _
  exact ⟨cur,_,by rw [←e];exact hh⟩
def Out1 (w:World) (s:Value) (S:List Int):Prop:=∃ g c a n c',s = .slice (some ⟨g,0,none⟩) 1 c∧g<w.heap.size∧w.cell? ⟨g,0,none⟩=some (.slice a n c')∧Si w (.slice a n c') S∧Nt w (.slice a n c')
theorem Out1.below {w w':World} {s:Value} {S:List Int} (h:Out1 w s S) (hb:Below w.heap.size w w'):Out1 w' s S:=by
 obtain ⟨g,c,a,n,c',e,hg,hc,hs,ht⟩:=h
 exact ⟨g,c,a,n,c',e,Nat.lt_of_lt_of_le hg hb.size,(hb.cell (p:=⟨g,0,none⟩) hg).trans hc,hs.below hb,ht.below hb⟩
theorem cell_alloc1 (w:World) (v:Value) (t:TypeId):(w.alloc (.cells #[v] t)).cell? ⟨w.heap.size,0,none⟩=some v:=by
 unfold World.cell?
 rw [World.alloc_heap_new]
 rfl
theorem wpList_app_one (w:World) {ops:Array Oper} {rest:List Oper} {o:Oper} {a:Act} {Q:Exit→Act→World→Prop} (hgd:o.guard=none) (s x:Operand) (ho:o.op = .call { callee:=.builtin .append,args:=#[s,x],argTypes:=#[115,115] })
  (hs:a.eval s = .slice none 0 0) (g:Nat) (p:Option Addr) (m k:Nat) (S:List Int) (hx:a.eval x = .slice (some ⟨g,0,none⟩) 1 1) (hc:w.cell? ⟨g,0,none⟩=some (.slice p m k)) (hS:Si w (.slice p m k) S) (hT:Nt w (.slice p m k))
  (h:∀ v' w',Out1 w' v' S→Below w.heap.size w w'→wpList Tryz.prog ops Q rest (a.put o.dst v') w'):wpList Tryz.prog ops Q (o :: rest) a w:=by
 obtain ⟨i0,hi0,hz0,hz1,hz2⟩:=info_parts Tryz.info35
 have hown:w.ownsRow w.heap.size 35 1 (.slice none 0 0) 0 []:=World.ownsRow_nil _ _ _ _
 refine wpList_append_own _ hgd s x 115 ho w.heap.size 35 i0 (.slice none 0 0) 1 24 Tryz.underlying115 hi0 hz0 hz1 hz2 rfl (by decide) _ _ _ hs hown ⟨g,0,none⟩ 1 1 [.slice p m k] hx rfl (fun j u hj=>?_) (fun u hu=>?_) (by unfold maxLen;omega) (by omega) (Nat.le_refl _) ?_
 ·match j,hj with
  | 0,hj=>simp at hj;subst hj;simpa [Addr.add] using hc
 ·simp at hu;subst hu;rfl
 ·intro v' w' h1 h2 _
  have hb:Below w.heap.size w w':=(Below.refl _ w).grown h2 (Nat.le_refl _) (fun k e=>by cases e)
  refine h v' w' ?_ hb
  rcases h1.2 with ⟨e1,e2⟩ | ⟨g',cap,cur,e1,hg,hgb,hn,hm,hs',ht⟩
  ·cases e2
  ·refine ⟨g',cap,p,m,k,e1,(Array.getElem?_eq_some_iff.1 hgb).1,?_,hS.below hb,hT.below hb⟩
   simp only [World.cell?,hgb]
   rw [if_neg (by simp)]
   have h0:([]++[Value.slice p m k]:List Value)[0]? = some (.slice p m k):=rfl
   rw [←ht,List.getElem?_take,if_pos (by omega),Array.getElem?_toList] at h0
   exact h0
theorem walk1:∀ (f:Nat) (v hv:Value) (d:SD) (S:List Int) (at0:Nat) (W:World),d.up.length-at0≤f→Di W v d→Si W hv (hd S d.up at0)→Uq d S→at0≤d.up.length →
  Calls Tryz.prog 110 #[v,hv,.int .i64 (at0:Int),.int .i64 1,.slice none 0 0] W fun e w'=>∃ s,e = .returned s∧Out1 w' s S∧Below W.heap.size W w':=by
 intro f
 induction f using Nat.strongRecOn
 rename_i f IH
 intro v hv d S at0 W hf h hh hq hat
 have HIH:Hid _:=IH
 clear IH
 have HF:Hid (d.up.length-at0≤f):=hf
 have hu64:=hq.right.2.2.2.1.1
 have HQ:Hid (Uq d S):=hq
 have k45:=fun X (hX:Below W.heap.size W X)=>refhas_dom v hv d (hd S d.up at0) X (h.below hX) (hh.below hX)
 rw [has_same,hq.has] at k45
 obtain ⟨x0a,raa,rna,rca,a1a,n1a,c1a,a2a,n2a,c2a,x4a,x5a,rfl,HEa,HLOa,HUPa⟩:=h.look
 obtain ⟨ha,hn,hc,rfl,HHS,HHN⟩:=si_look hh
 obtain ⟨sn,hsn⟩:∃ n,S.length=n:=⟨_,rfl⟩
 have HSN:Hid (S.length=sn):=hsn
 have e4:x4a=(sn:Int):=by rw [←HEa.out.2.2.2.1,hq.least,hsn]
 have e5:x5a=(sn:Int):=by rw [←HEa.out.2.2.2.2.1,hq.most,hsn]
 subst e4 e5
 have HN2:Hid (d.up.length=n2a):=HEa.out.2.2.1
 have HDI:Hid (∀ X,Below W.heap.size W X→Di X (.agg #[.bool x0a,.slice raa rna rca,.slice a1a n1a c1a,.slice a2a n2a c2a,.int .i64 (sn:Int),.int .i64 (sn:Int)]) d):=fun X hX=>h.below hX
 have hs64:sn≤64:=by rw [←hsn];exact hq.set.1
 rw [HN2.out] at hu64 hat
 rw [HHN.out,hsn] at k45
 have hhs:hn≤sn:=by have:=hq.len at0;rw [HHN.out,hsn] at this;omega
 obtain ⟨w0,hW0⟩:∃ X,(W.alloc (Obj.cells #[.bool x0a,.slice raa rna rca,.slice a1a n1a c1a,.slice a2a n2a c2a,.int .i64 (sn:Int),.int .i64 (sn:Int)] 37))=X:=⟨_,rfl⟩
 have HW0:Hid _:=hW0
 have hb0:Below W.heap.size W w0:=by rw [←hW0];exact ((Below.refl _ W).alloc (by simp<;>omega) _)
 have HA_0:Hid (R6 w0 W.heap.size (.bool x0a) (.slice raa rna rca) (.slice a1a n1a c1a) (.slice a2a n2a c2a) (.int .i64 (sn:Int)) (.int .i64 (sn:Int))):=by rw [←hW0];exact (R6.new _ _ _ _ _ _ _)
 clear hW0
 clear h hh hq hf hsn HEa HLOa
 go_enter Tryz.func110,Tryz.ntmps110
 go_upto_region 1 with (fail)
 rw [HW0.out]
 clear HW0
 obtain ⟨zA0,zA1,zA2,zA3,zA4,zA5⟩:=HA_0.out.cells
 by_cases hfd:hn=sn
 ·have k45':=fun X (hX:Below W.heap.size W X)=>eqc (show decide (hn=sn)=true by simpa using hfd) (k45 X hX)
  have HS1:Hid (hd S d.up at0=S):=HQ.out.found (by rw [HHN.out,HSN.out,hfd])
  rw [HS1.out] at HHS
  subst hfd
  clear k45
  go_wp2_with fail
  refine (k45' w0 hb0).mono ?_
  rintro e w1 ⟨rfl,hb⟩
  have hb1:Below W.heap.size W w1:=hb0.trans (hb.mono hb0.size)
  have HA_1:Hid _:=HA_0.out.below hb
  clear zA0 zA1 zA2 zA3 zA4 zA5 hb HA_0 hb0 k45'
  have hsh:=HHS.out.below hb1
  have hbd:S.length*8≤140737488351232:=by rw [HSN.out];omega
  go_upto_region 4 with (at_builtin;refine wpList_app_i _ rfl _ _ rfl rfl _ S rfl hsh hbd ?_;intro v9 w2 hrow hbel;obtain ⟨p9,c9,rfl⟩:=own_slice hrow;have HSO:Hid (Si w2 (.slice p9 S.length c9) S):=own_si hrow;have HST:Hid (Nt w2 (.slice p9 S.length c9)):=own_nt hrow;have hb2:=hb1.trans (hbel.mono hb1.size);have HA_2:Hid _:=HA_1.out.below hbel;clear hrow hbel hsh HA_1)
  have hba:=(Below.refl w2.heap.size w2).alloc (Nat.le_refl _) (Obj.cells #[.slice p9 S.length c9] 35)
  have hbA:=hb2.trans (hba.mono hb2.size)
  have hSA:=HSO.out.below hba
  have hTA:=HST.out.below hba
  have hcA:=cell_alloc1 w2 (.slice p9 S.length c9) 35
  have HA_3:Hid _:=HA_2.out.below hba
  rw [HSN.out] at hSA hTA hcA hba hbA HA_3 ⊢
  clear HSO HST hb2
  go_wp2_with (at_builtin;refine wpList_app_one _ rfl _ _ rfl rfl w2.heap.size p9 _ c9 S rfl hcA hSA hTA ?_;intro v8 w3 hout hbel;have HO3:Hid (Out1 w3 v8 S):=hout;obtain ⟨g8,c8,a8,n8,k8,rfl,_⟩:=hout;have hb3:=hbA.trans (hbel.mono hbA.size);have HA_4:Hid _:=HA_3.out.below hbel;clear hbel hcA hSA hTA hbA hba HA_2 HA_3)
  go_loopw [4,12] (fun out i wr=>out = .slice (some ⟨g8,0,none⟩) 1 c8∧i = .int .i64 (at0:Int)∧w3=wr) (fun _ _ _=>0)
  case atStart=>exact ⟨rfl,rfl,rfl⟩
  case round =>
   obtain ⟨rfl,rfl,hwr⟩:=hrel
   subst hwr
   obtain ⟨zA0,zA1,zA2,zA3,zA4,zA5⟩:=HA_4.out.cells
   by_cases hl:at0<n2a
   ·have hl':(at0:Int)<(n2a:Int):=by omega
    go_wp2
    go_ret
    exact ⟨_,rfl,HO3.out,hb3⟩
   ·have hl':¬(at0:Int)<(n2a:Int):=by omega
    go_wp2
    go_ret
    exact ⟨_,rfl,HO3.out,hb3⟩
 ·have hlts:hn<sn:=by omega
  have k45':=fun X (hX:Below W.heap.size W X)=>eqc (show decide (hn=sn)=false by simpa using hfd) (k45 X hX)
  have HFD:Hid (¬hn=sn):=hfd
  clear k45 hfd
  go_wp2_with fail
  refine (k45' w0 hb0).mono ?_
  rintro e w1 ⟨rfl,hb⟩
  have hb1:Below W.heap.size W w1:=hb0.trans (hb.mono hb0.size)
  have HA_1:=hid (HA_0.out.below hb)
  clear zA0 zA1 zA2 zA3 zA4 zA5 hb HA_0 hb0 k45'
  go_wp2
  go_loopw [4,12] (fun out i wr=>∃ k:Nat,at0≤k∧k≤n2a∧i = .int .i64 (k:Int)∧Hid (Below w1.heap.size w1 wr)∧((out = .slice none 0 0∧Hid (hd S d.up k=hd S d.up at0))∨Hid (Out1 wr out S))) (fun _ i _=>n2a+1-(intOf i).toNat)
  case atStart=>exact ⟨at0,Nat.le_refl _,hat,rfl,Below.refl _ _,.inl ⟨rfl,rfl⟩⟩
  case round =>
   obtain ⟨k,hk1,hk2,rfl,HB,hor⟩:=hrel
   obtain ⟨z0,z1,z2,z3,z4,z5⟩:=(HA_1.out.below HB.out).cells
   rcases hor with ⟨rfl,HK⟩ | HO
   ·have hgo:=HQ.out.goes (i:=k) (by rw [HK.out,HHN.out,HSN.out];exact HFD.out)
    have hgr:=HQ.out.grow hgo.1
    rw [HK.out] at hgo hgr
    rw [HHN.out,HSN.out,HN2.out] at hgo
    obtain ⟨g1,g2,g3,g4,g5⟩:=hgo
    have hup':=HUPa.out
    obtain ⟨p',c',e,hc'⟩:=hup'
    rw [HN2.out] at e hc'
    injection e with e1 _ e3
    subst e1 e3
    obtain ⟨b,off,rfl,hbl,hcell⟩:=hc' (by omega)
    obtain ⟨x,hx⟩:∃ x,nth d.up k=x:=⟨_,rfl⟩
    have hcx:W.cell? ⟨b,off+k,none⟩=some (.int .i64 x):=by rw [hcell k g1,hx]
    rw [hx] at g4 g5 hgr
    clear hcell hc' hx
    obtain ⟨M,hM⟩:∃ m,mn d.lo d.up (k+1)=m:=⟨_,rfl⟩
    have hMl:=mn_le d.lo d.up (k+1)
    rw [hM] at g4 g5 hMl
    rw [HN2.out] at hMl
    have k106:=fun X (hX:Below W.heap.size W X)=>mustn_any (.agg #[.bool x0a,.slice raa rna rca,.slice a1a n1a c1a,.slice (some ⟨b,off,none⟩) n2a c2a,.int .i64 (sn:Int),.int .i64 (sn:Int)]) d (k+1) X (HDI.out X hX) HQ.out.right.2.2.1 (by rw [HN2.out];omega) (by omega)
    rw [hM,show ((k+1:Nat):Int)=(k:Int)+1 by omega] at k106
    have k26:=fun X (hX:Below W.heap.size W X)=>refin_below x (.slice a1a n1a c1a) d.lo X (di_si (HDI.out X hX)).1
    rw [tkS_yes HQ.out.right.2.2.1] at k26
    obtain ⟨bb,hbb⟩:∃ bo,d.lo.contains x=bo:=⟨_,rfl⟩
    rw [hbb] at k26 g5
    have HGR:Hid _:=hgr
    clear hM hbb hgr
    have q1:(k:Int)<(n2a:Int):=by omega
    have q2:(hn:Int)<(sn:Int):=by omega
    have q3:¬(hn:Int)+(n2a:Int)-(k:Int)<(sn:Int):=by omega
    have hbWr:Below W.heap.size W wr:=hb1.trans (HB.out.mono hb1.size)
    have hsh:=HHS.out.below hbWr
    have hbd:(hd S d.up at0).length*8≤140737488351232:=by rw [HHN.out];omega
    have HA_2:=hid (HA_1.out.below HB.out)
    go_upto_region 11 with (at_builtin;refine wpList_app_i _ rfl _ _ rfl rfl _ (hd S d.up at0) rfl hsh hbd ?_;intro v9 w2 hrow hbel;obtain ⟨p9,c9,rfl⟩:=own_slice hrow;have HR9:Hid (w2.ownsRow wr.heap.size 2 1 (.slice p9 (hd S d.up at0).length c9) (hd S d.up at0).length (intv (hd S d.up at0))):=hrow;have HB2:Hid (Below w1.heap.size w1 w2):=HB.out.trans (hbel.mono HB.out.size);have HA_3:Hid (R6 w2 W.heap.size (.bool x0a) (.slice raa rna rca) (.slice a1a n1a c1a) (.slice (some ⟨b,off,none⟩) n2a c2a) (.int .i64 (sn:Int)) (.int .i64 (sn:Int))):=HA_2.out.below hbel;have HBr2:Hid (Below wr.heap.size wr w2):=hbel;clear hrow hbel z0 z1 z2 z3 z4 z5)
    clear hsh hbd
    have hrow3:=World.ownsRow.alloc HR9.out (Obj.cells #[.int .i64 x] 2)
    have hba:=(Below.refl w2.heap.size w2).alloc (Nat.le_refl _) (Obj.cells #[.int .i64 x] 2)
    have HB3:=hid (HB2.out.trans (hba.mono HB2.out.size))
    have HA_4:=hid (HA_3.out.below hba)
    have hsz:wr.heap.size≤(w2.alloc (Obj.cells #[.int .i64 x] 2)).heap.size:=Nat.le_trans HBr2.out.size hba.size
    obtain ⟨L,hL⟩:∃ L,hd S d.up at0=L:=⟨_,rfl⟩
    have HL:Hid (hd S d.up at0=L∧L.length=hn):=⟨hL,by rw [←hL];exact HHN.out⟩
    rw [hL] at hrow3 ⊢
    have HLn:Hid (L.length=hn):=HL.out.2
    obtain ⟨z0,z1,z2,z3,z4,z5⟩:=HA_3.out.cells
    have hbW2:Below W.heap.size W w2:=hb1.trans (HB2.out.mono hb1.size)
    have hcx2:=(hbW2.cell (p:=⟨b,off+k,none⟩) hbl).trans hcx
    clear hL
    rw [HLn.out] at hrow3 ⊢
    have HBA:=hid (HBr2.out.trans (hba.mono HBr2.out.size))
    go_upto_region 12 with (at_builtin;refine wpList_app_sr _ rfl _ _ rfl wr.heap.size _ _ L rfl hrow3 HLn.out.symm _ [x] rfl (one_si w2 x) (by rw [HLn.out];simp;omega) hsz ?_;intro v7 w7 hown7 hbel7;obtain ⟨n7,hn7⟩:∃ n,L.length + [x].length=n:=⟨_,rfl⟩;rw [hn7] at hown7;obtain ⟨p7,c7,rfl⟩:=own_slice hown7;have HS7:Hid (Si w7 (.slice p7 n7 c7) (L++[x])):=own_si' hown7 (by rw [←hn7];simp);have HN8:Hid (n7=hn+1):=(by unfold Hid;rw [←hn7,HLn.out];rfl);have HBw:Hid (Below wr.heap.size wr w7):=HBA.out.trans hbel7;clear hn7 hown7 hbel7 z0 z1 z2 z3 z4 z5)
    have HB7:=hid (HB.out.trans (HBw.out.mono HB.out.size))
    have HA_7:=hid (HA_2.out.below HBw.out)
    clear hrow3 hba hsz hcx2 hbW2 HA_3 HA_4 HB3 HB2 HR9 HBr2 HBA HBw HA_2
    have h9a:n7≤hn+1:=by rw [HN8.out];exact Nat.le_refl _
    have h9b:hn+1≤n7:=by rw [HN8.out];exact Nat.le_refl _
    cases hsx:S.contains x
    ·obtain ⟨g6,g7⟩:=g5 hsx
     subst g7
     have HK2:=hid (HGR.out.2 hsx)
     clear g4 g5 hsx HGR
     have hwk:IntKind.i64.wrap ((k:Int)+1)=(k:Int)+1:=by rw [IntKind.wrap_i64];omega
     have hwm:IntKind.i64.wrap ((n7:Int)+(M:Int))=(n7:Int)+(M:Int):=by rw [IntKind.wrap_i64];omega
     have hbW7:Below W.heap.size W w7:=hb1.trans (HB7.out.mono hb1.size)
     have HK:∀ X,Below w7.heap.size w7 X→R6 X W.heap.size (.bool x0a) (.slice raa rna rca) (.slice a1a n1a c1a) (.slice (some ⟨b,off,none⟩) n2a c2a) (.int .i64 (sn:Int)) (.int .i64 (sn:Int)):=fun X hX=>HA_7.out.below hX
     have hB0:Below w7.heap.size w7 w7.drew:=Below.drew (Below.refl _ _)
     have hBW:∀ X,Below w7.heap.size w7 X→Below W.heap.size W X:=fun X hX=>hbW7.trans (hX.mono hbW7.size)
     have q12:decide ((n7:Int)+(M:Int)≤(sn:Int))=false:=by simp;omega
     refine wp_region_held_drew (S:=(fun w'=>R6 w' W.heap.size (.bool x0a) (.slice raa rna rca) (.slice a1a n1a c1a) (.slice (some ⟨b,off,none⟩) n2a c2a) (.int .i64 (sn:Int)) (.int .i64 (sn:Int)))) (by kernel_rfl) (HK _ hB0) (fun hHeld=>?_)
     refine tkI 0 rfl hHeld ?_
     try simp only [Act.put,zS,eZ,eS]
     refine tkI 1 rfl hHeld ?_
     try simp only [Act.put,zS,eZ,eS]
     refine tkH 2 _ (v:=?_) hHeld ?_ ?_;rotate_left
     ·intro w hSw;obtain ⟨u0,u1,u2,u3,u4,u5⟩:=hSw.cells;go_simp<;>with_reducible rfl
     try simp only [Act.put,zS,eZ,eS]
     refine tkI 3 rfl hHeld ?_
     try simp only [Act.put,zS,eZ,eS]
     refine tkI 4 rfl hHeld ?_
     try simp only [Act.put,zS,eZ,eS]
     refine tkI 7 rfl hHeld ?_
     try simp only [Act.put,zS,eZ,eS]
     refine tkH 8 _ (v:=?_) hHeld ?_ ?_;rotate_left
     ·intro w hSw;obtain ⟨u0,u1,u2,u3,u4,u5⟩:=hSw.cells;go_simp<;>with_reducible rfl
     try simp only [Act.put,zS,eZ,eS]
     refine rdy 5 rfl fun K hK=>?_
     go_simp
     refine (k106 _ (hBW _ hB0)).mono ?_
     rintro e w8 ⟨rfl,hb⟩
     have hB8:Below w7.heap.size w7 w8:=hB0.trans (hb.mono hB0.size)
     clear hb
     clear hHeld;refine hK.out _ _ (HK _ hB8) fun hHeld=>?_
     clear hK K
     try simp only [Act.put,zS,eZ,eS]
     refine tkI 6 rfl hHeld ?_
     try simp only [Act.put,zS,eZ,eS]
     refine tkI 9 rfl hHeld ?_
     try simp only [Act.put,zS,eZ,eS]
     refine wpAnyH_done (by kernel_rfl) ?_ _
     skip
     have HA_9:Hid _:=HA_7.out.below hB8
     have hbW9:Below W.heap.size W w8:=hBW _ hB8
     have HB9:=hid (HB7.out.trans (hB8.mono HB7.out.size))
     go_upto_region 14 with (fail)
     have HK4:∀ X,Below w8.heap.size w8 X→X.cell? ⟨W.heap.size,2,none⟩=some (.slice a1a n1a c1a)∧X.cell? ⟨W.heap.size,3,none⟩=some (.slice (some ⟨b,off,none⟩) n2a c2a)∧X.cell? ⟨b,off+k,none⟩=some (.int .i64 x):=fun X hX=>by
      obtain ⟨_,_,c2,c3,_,_⟩:=(HA_9.out.below hX).cells
      exact ⟨c2,c3,((hbW9.trans (hX.mono hbW9.size)).cell (p:=⟨b,off+k,none⟩) hbl).trans hcx⟩
     have hD0:Below w8.heap.size w8 w8.drew:=Below.drew (Below.refl _ _)
     have hBW4:∀ X,Below w8.heap.size w8 X→Below W.heap.size W X:=fun X hX=>hbW9.trans (hX.mono hbW9.size)
     refine wp_region_held_drew (S:=(fun w'=>w'.cell? ⟨W.heap.size,2,none⟩=some (.slice a1a n1a c1a)∧w'.cell? ⟨W.heap.size,3,none⟩=some (.slice (some ⟨b,off,none⟩) n2a c2a)∧w'.cell? ⟨b,off+k,none⟩=some (.int .i64 x))) (by kernel_rfl) (HK4 _ hD0) (fun hHeld=>?_)
     refine tkI 0 rfl hHeld ?_
     try simp only [Act.put,zS,eZ,eS]
     refine tkI 1 rfl hHeld ?_
     try simp only [Act.put,zS,eZ,eS]
     refine tkI 2 rfl hHeld ?_
     try simp only [Act.put,zS,eZ,eS]
     refine tkI 5 rfl hHeld ?_
     try simp only [Act.put,zS,eZ,eS]
     refine tkI 6 rfl hHeld ?_
     try simp only [Act.put,zS,eZ,eS]
     refine rdy 3 rfl fun K hK=>?_
     go_simp
     clear hHeld;refine hK.out _ _ (HK4 _ hD0) fun hHeld=>?_
     clear hK K
     try simp only [Act.put,zS,eZ,eS]
     refine tkI 4 rfl hHeld ?_
     try simp only [Act.put,zS,eZ,eS]
     refine rdy 7 rfl fun K hK=>?_
     go_simp
     refine (k26 _ (hBW4 _ hD0)).mono ?_
     rintro e w20 ⟨rfl,hb⟩
     have hD1:Below w8.heap.size w8 w20:=hD0.trans (hb.mono hD0.size)
     clear hb
     clear hHeld;refine hK.out _ _ (HK4 _ hD1) fun hHeld=>?_
     clear hK K
     try simp only [Act.put,zS,eZ,eS]
     refine wpAnyH_done (by kernel_rfl) ?_ _
     go_wp2
     go_roundw
     case rel=>exact ⟨k+1,by omega,by omega,by go_num,HB9.out.trans (hD1.mono HB9.out.size),.inl ⟨rfl,HK2.out⟩⟩
     case measure=>simp [intOf];omega
    ·have g6:=g4 hsx
     have HG1:Hid (hd S d.up (k+1)=L++[x]):=by unfold Hid;rw [HGR.out.1 hsx,HL.out.1]
     clear g4 g5 hsx HGR
     have hwk:IntKind.i64.wrap ((k:Int)+1)=(k:Int)+1:=by rw [IntKind.wrap_i64];omega
     have hwm:IntKind.i64.wrap ((n7:Int)+(M:Int))=(n7:Int)+(M:Int):=by rw [IntKind.wrap_i64];omega
     have hbW7:Below W.heap.size W w7:=hb1.trans (HB7.out.mono hb1.size)
     have HK:∀ X,Below w7.heap.size w7 X→R6 X W.heap.size (.bool x0a) (.slice raa rna rca) (.slice a1a n1a c1a) (.slice (some ⟨b,off,none⟩) n2a c2a) (.int .i64 (sn:Int)) (.int .i64 (sn:Int)):=fun X hX=>HA_7.out.below hX
     have hB0:Below w7.heap.size w7 w7.drew:=Below.drew (Below.refl _ _)
     have hBW:∀ X,Below w7.heap.size w7 X→Below W.heap.size W X:=fun X hX=>hbW7.trans (hX.mono hbW7.size)
     have q12:decide ((n7:Int)+(M:Int)≤(sn:Int))=true:=by simp;omega
     refine wp_region_held_drew (S:=(fun w'=>R6 w' W.heap.size (.bool x0a) (.slice raa rna rca) (.slice a1a n1a c1a) (.slice (some ⟨b,off,none⟩) n2a c2a) (.int .i64 (sn:Int)) (.int .i64 (sn:Int)))) (by kernel_rfl) (HK _ hB0) (fun hHeld=>?_)
     refine tkI 0 rfl hHeld ?_
     try simp only [Act.put,zS,eZ,eS]
     refine tkI 1 rfl hHeld ?_
     try simp only [Act.put,zS,eZ,eS]
     refine tkH 2 _ (v:=?_) hHeld ?_ ?_;rotate_left
     ·intro w hSw;obtain ⟨u0,u1,u2,u3,u4,u5⟩:=hSw.cells;go_simp<;>with_reducible rfl
     try simp only [Act.put,zS,eZ,eS]
     refine tkI 3 rfl hHeld ?_
     try simp only [Act.put,zS,eZ,eS]
     refine tkI 4 rfl hHeld ?_
     try simp only [Act.put,zS,eZ,eS]
     refine tkI 7 rfl hHeld ?_
     try simp only [Act.put,zS,eZ,eS]
     refine tkH 8 _ (v:=?_) hHeld ?_ ?_;rotate_left
     ·intro w hSw;obtain ⟨u0,u1,u2,u3,u4,u5⟩:=hSw.cells;go_simp<;>with_reducible rfl
     try simp only [Act.put,zS,eZ,eS]
     refine rdy 5 rfl fun K hK=>?_
     go_simp
     refine (k106 _ (hBW _ hB0)).mono ?_
     rintro e w8 ⟨rfl,hb⟩
     have hB8:Below w7.heap.size w7 w8:=hB0.trans (hb.mono hB0.size)
     clear hb
     clear hHeld;refine hK.out _ _ (HK _ hB8) fun hHeld=>?_
     clear hK K
     try simp only [Act.put,zS,eZ,eS]
     refine tkI 6 rfl hHeld ?_
     try simp only [Act.put,zS,eZ,eS]
     refine tkI 9 rfl hHeld ?_
     try simp only [Act.put,zS,eZ,eS]
     refine wpAnyH_done (by kernel_rfl) ?_ _
     skip
     have HA_8:Hid _:=HA_7.out.below hB8
     have hbW8:Below W.heap.size W w8:=hBW _ hB8
     have HB8:=hid (HB7.out.trans (hB8.mono HB7.out.size))
     have kIH:=HIH.out (d.up.length-(k+1)) (by have:=HF.out;rw [HN2.out] at this ⊢;omega) (.agg #[.bool x0a,.slice raa rna rca,.slice a1a n1a c1a,.slice (some ⟨b,off,none⟩) n2a c2a,.int .i64 (sn:Int),.int .i64 (sn:Int)]) (.slice p7 n7 c7) d S (k+1) w8 (Nat.le_refl _) (HDI.out _ hbW8) (by rw [HG1.out];exact HS7.out.below hB8) HQ.out (by rw [HN2.out];omega)
     rw [show ((k+1:Nat):Int)=(k:Int)+1 by omega] at kIH
     obtain ⟨z0,z1,z2,z3,z4,z5⟩:=HA_8.out.cells
     go_wp2_with fail
     refine kIH.mono ?_
     rintro e w9 ⟨s9,rfl,hO9,hb9⟩
     have HO9:Hid (Out1 w9 s9 S):=hO9
     obtain ⟨g8,c8,a8,n8,k8,rfl,_⟩:=hO9
     have hbW9:Below W.heap.size W w9:=hbW8.trans (hb9.mono hbW8.size)
     have HB9:=hid (HB8.out.trans (hb9.mono HB8.out.size))
     have HA_9:Hid _:=HA_8.out.below hb9
     clear hb9 z0 z1 z2 z3 z4 z5
     go_upto_region 14 with (fail)
     clear kIH
     have HK4:∀ X,Below w9.heap.size w9 X→X.cell? ⟨W.heap.size,2,none⟩=some (.slice a1a n1a c1a)∧X.cell? ⟨W.heap.size,3,none⟩=some (.slice (some ⟨b,off,none⟩) n2a c2a)∧X.cell? ⟨b,off+k,none⟩=some (.int .i64 x):=fun X hX=>by
      obtain ⟨_,_,c2,c3,_,_⟩:=(HA_9.out.below hX).cells
      exact ⟨c2,c3,((hbW9.trans (hX.mono hbW9.size)).cell (p:=⟨b,off+k,none⟩) hbl).trans hcx⟩
     have hD0:Below w9.heap.size w9 w9.drew:=Below.drew (Below.refl _ _)
     have hBW4:∀ X,Below w9.heap.size w9 X→Below W.heap.size W X:=fun X hX=>hbW9.trans (hX.mono hbW9.size)
     refine wp_region_held_drew (S:=(fun w'=>w'.cell? ⟨W.heap.size,2,none⟩=some (.slice a1a n1a c1a)∧w'.cell? ⟨W.heap.size,3,none⟩=some (.slice (some ⟨b,off,none⟩) n2a c2a)∧w'.cell? ⟨b,off+k,none⟩=some (.int .i64 x))) (by kernel_rfl) (HK4 _ hD0) (fun hHeld=>?_)
     refine tkI 0 rfl hHeld ?_
     try simp only [Act.put,zS,eZ,eS]
     refine tkI 1 rfl hHeld ?_
     try simp only [Act.put,zS,eZ,eS]
     refine tkI 2 rfl hHeld ?_
     try simp only [Act.put,zS,eZ,eS]
     refine tkI 5 rfl hHeld ?_
     try simp only [Act.put,zS,eZ,eS]
     refine tkI 6 rfl hHeld ?_
     try simp only [Act.put,zS,eZ,eS]
     refine rdy 3 rfl fun K hK=>?_
     go_simp
     clear hHeld;refine hK.out _ _ (HK4 _ hD0) fun hHeld=>?_
     clear hK K
     try simp only [Act.put,zS,eZ,eS]
     refine tkI 4 rfl hHeld ?_
     try simp only [Act.put,zS,eZ,eS]
     refine rdy 7 rfl fun K hK=>?_
     go_simp
     refine (k26 _ (hBW4 _ hD0)).mono ?_
     rintro e w20 ⟨rfl,hb⟩
     have hD1:Below w9.heap.size w9 w20:=hD0.trans (hb.mono hD0.size)
     clear hb
     clear hHeld;refine hK.out _ _ (HK4 _ hD1) fun hHeld=>?_
     clear hK K
     try simp only [Act.put,zS,eZ,eS]
     refine wpAnyH_done (by kernel_rfl) ?_ _
     cases bb
     ·go_wp2
      go_roundw
      case rel=>exact ⟨k+1,by omega,by omega,by go_num,HB9.out.trans (hD1.mono HB9.out.size),.inr (HO9.out.below hD1)⟩
      case measure=>simp [intOf];omega
     ·go_wp2
      go_ret
      exact ⟨_,rfl,HO9.out.below hD1,hbW9.trans (hD1.mono hbW9.size)⟩
   ·have HO':Hid (Out1 wr _ S):=HO.out
    obtain ⟨g8,c8,a8,n8,k8,rfl,_⟩:=HO.out
    have hb3:Below W.heap.size W wr:=hb1.trans (HB.out.mono hb1.size)
    by_cases hl:k<n2a
    ·have hl':(k:Int)<(n2a:Int):=by omega
     go_wp2
     go_ret
     exact ⟨_,rfl,HO'.out,hb3⟩
    ·have hl':¬(k:Int)<(n2a:Int):=by omega
     go_wp2
     go_ret
     exact ⟨_,rfl,HO'.out,hb3⟩
theorem Uq.some {d:SD} {S:List Int} (h:Uq d S):emptyD d=false:=by
 unfold emptyD
 rw [show rightD d=true from decide_eq_true h.right,h.least,h.most]
 simp
theorem all1 (v:Value) (d:SD) (S:List Int) (W:World) (h:Di W v d) (hq:Uq d S) :
  Calls Tryz.prog 93 #[v,.int .i64 1] W fun e w'=>∃ s,e = .returned s∧Out1 w' s S∧Below W.heap.size W w':=by
 have k43:=fun X (hX:Below W.heap.size W X)=>eqc hq.some (refempty_any v d X (h.below hX))
 have k81:=fun X (hX:Below W.heap.size W X)=>walk1 (d.up.length-0) v (.slice none 0 0) d S 0 X (Nat.le_refl _) (h.below hX) (by rw [hd_zero];exact ⟨none,0,rfl,fun h0=>absurd h0 (by decide)⟩) hq (Nat.zero_le _)
 rw [show ((0:Nat):Int)=0 from rfl] at k81
 obtain ⟨x0a,raa,rna,rca,a1a,n1a,c1a,a2a,n2a,c2a,x4a,x5a,rfl,HEa,HLOa,HUPa⟩:=h.look
 obtain ⟨w0,hW0⟩:∃ X,(W.alloc (Obj.cells #[.bool x0a,.slice raa rna rca,.slice a1a n1a c1a,.slice a2a n2a c2a,.int .i64 x4a,.int .i64 x5a] 37))=X:=⟨_,rfl⟩
 have HW0:Hid _:=hW0
 have hb0:Below W.heap.size W w0:=by rw [←hW0];exact ((Below.refl _ W).alloc (by simp<;>omega) _)
 have HA_0:Hid (R6 w0 W.heap.size (.bool x0a) (.slice raa rna rca) (.slice a1a n1a c1a) (.slice a2a n2a c2a) (.int .i64 x4a) (.int .i64 x5a)):=by rw [←hW0];exact (R6.new _ _ _ _ _ _ _)
 clear hW0
 clear h hq HEa HLOa HUPa
 go_enter Tryz.func93,Tryz.ntmps93
 go_upto_region 1 with (fail)
 rw [HW0.out]
 clear HW0
 obtain ⟨zA0,zA1,zA2,zA3,zA4,zA5⟩:=HA_0.out.cells
 go_wp2_with fail
 refine (k43 w0 hb0).mono ?_
 rintro e w1 ⟨rfl,hb⟩
 have hb1:Below W.heap.size W w1:=hb0.trans (hb.mono hb0.size)
 have HA_1:Hid _:=HA_0.out.below hb
 clear zA0 zA1 zA2 zA3 zA4 zA5
 clear hb hb0 HA_0
 obtain ⟨zA0,zA1,zA2,zA3,zA4,zA5⟩:=HA_1.out.cells
 go_wp2_with fail
 refine (k81 w1 hb1).mono ?_
 rintro e w9 ⟨s9,rfl,hO,hb⟩
 have HO:Hid (Out1 w9 s9 S):=hO
 obtain ⟨g8,c8,a8,n8,k8,rfl,_⟩:=hO
 have hb9:Below W.heap.size W w9:=hb1.trans (hb.mono hb1.size)
 go_wp2
 go_ret
 exact ⟨_,rfl,HO.out,hb9⟩
theorem reffixed_nt (v:Value) (d:SD) (W:World) (h:Di W v d) :
  Calls Tryz.prog 65 #[v] W fun e w'=>∃ p n c,e = .returned (.tuple #[.slice p n c,.bool (fixB d)])∧Hid (Si w' (.slice p n c) (fixL d)∧Nt w' (.slice p n c))∧Below W.heap.size W w':=by
 have k47:=fun X (hX:Below W.heap.size W X)=>refcount_any v d X (h.below hX)
 have HL:Hid (fixL d=if fixB d then (takenD d).lo else []):=rfl
 rcases fixed_one d with ⟨e1,e2,hq⟩ | ⟨e1,e2⟩
 ·have k48:=fun X (hX:Below W.heap.size W X)=>all1 v d _ X (h.below hX) hq
  simp only [e1] at k47
  rw [e2] at HL ⊢
  simp only [if_true] at HL
  generalize fixL d=FL at HL ⊢
  generalize (takenD d).lo=S at *
  obtain ⟨x0a,raa,rna,rca,a1a,n1a,c1a,a2a,n2a,c2a,x4a,x5a,rfl,HEa,HLOa,HUPa⟩:=h.look
  obtain ⟨w0,hW0⟩:∃ X,(W.alloc (Obj.cells #[.bool x0a,.slice raa rna rca,.slice a1a n1a c1a,.slice a2a n2a c2a,.int .i64 x4a,.int .i64 x5a] 37))=X:=⟨_,rfl⟩
  have HW0:Hid _:=hW0
  have hb0:Below W.heap.size W w0:=by rw [←hW0];exact ((Below.refl _ W).alloc (by simp<;>omega) _)
  have HA_0:Hid (R6 w0 W.heap.size (.bool x0a) (.slice raa rna rca) (.slice a1a n1a c1a) (.slice a2a n2a c2a) (.int .i64 x4a) (.int .i64 x5a)):=by rw [←hW0];exact (R6.new _ _ _ _ _ _ _)
  clear hW0
  clear h hq HEa HLOa HUPa e1 e2
  go_enter Tryz.func65,Tryz.ntmps65
  go_upto_region 1 with (fail)
  rw [HW0.out]
  clear HW0
  obtain ⟨zA0,zA1,zA2,zA3,zA4,zA5⟩:=HA_0.out.cells
  go_wp2_with fail
  refine (k47 w0 hb0).mono ?_
  rintro e w1 ⟨rfl,hb⟩
  have hb1:Below W.heap.size W w1:=hb0.trans (hb.mono hb0.size)
  have HA_1:Hid _:=HA_0.out.below hb
  clear zA0 zA1 zA2 zA3 zA4 zA5
  clear hb hb0 HA_0
  obtain ⟨zA0,zA1,zA2,zA3,zA4,zA5⟩:=HA_1.out.cells
  go_wp2_with fail
  refine (k48 w1 hb1).mono ?_
  rintro e w9 ⟨s9,rfl,hO,hb⟩
  obtain ⟨g8,c8,a8,n8,k8,rfl,hg8,hc8,hs8⟩:=hO
  have HS8:Hid (Si w9 (.slice a8 n8 k8) S∧Nt w9 (.slice a8 n8 k8)):=hs8
  have hb9:Below W.heap.size W w9:=hb1.trans (hb.mono hb1.size)
  go_wp2
  go_ret2
  exact ⟨a8,n8,k8,rfl,by rw [HL.out];exact HS8.out,hb9⟩
 ·rw [e2] at HL ⊢
  simp only [Bool.false_eq_true,if_false] at HL
  generalize fixL d=FL at HL ⊢
  have e3:(countD d==1)=false:=by simpa using e1
  generalize countD d=C at *
  obtain ⟨x0a,raa,rna,rca,a1a,n1a,c1a,a2a,n2a,c2a,x4a,x5a,rfl,HEa,HLOa,HUPa⟩:=h.look
  obtain ⟨w0,hW0⟩:∃ X,(W.alloc (Obj.cells #[.bool x0a,.slice raa rna rca,.slice a1a n1a c1a,.slice a2a n2a c2a,.int .i64 x4a,.int .i64 x5a] 37))=X:=⟨_,rfl⟩
  have HW0:Hid _:=hW0
  have hb0:Below W.heap.size W w0:=by rw [←hW0];exact ((Below.refl _ W).alloc (by simp<;>omega) _)
  have HA_0:Hid (R6 w0 W.heap.size (.bool x0a) (.slice raa rna rca) (.slice a1a n1a c1a) (.slice a2a n2a c2a) (.int .i64 x4a) (.int .i64 x5a)):=by rw [←hW0];exact (R6.new _ _ _ _ _ _ _)
  clear hW0
  clear h HEa HLOa HUPa e2
  go_enter Tryz.func65,Tryz.ntmps65
  go_upto_region 1 with (fail)
  rw [HW0.out]
  clear HW0
  obtain ⟨zA0,zA1,zA2,zA3,zA4,zA5⟩:=HA_0.out.cells
  go_wp2_with fail
  refine (k47 w0 hb0).mono ?_
  rintro e w1 ⟨rfl,hb⟩
  have hb1:Below W.heap.size W w1:=hb0.trans (hb.mono hb0.size)
  have HA_1:Hid _:=HA_0.out.below hb
  clear zA0 zA1 zA2 zA3 zA4 zA5
  clear hb hb0 HA_0
  obtain ⟨zA0,zA1,zA2,zA3,zA4,zA5⟩:=HA_1.out.cells
  go_wp2
  go_ret2
  exact ⟨none,0,0,rfl,by rw [HL.out];exact ⟨⟨none,0,rfl,fun h0=>absurd h0 (by decide)⟩,nt_nil _⟩,hb1⟩
theorem reffixed_any (v:Value) (d:SD) (W:World) (h:Di W v d) :
  Calls Tryz.prog 65 #[v] W fun e w'=>∃ p n c,e = .returned (.tuple #[.slice p n c,.bool (fixB d)])∧Hid (Si w' (.slice p n c) (fixL d))∧Below W.heap.size W w' :=
 (reffixed_nt v d W h).mono fun e w' ⟨p,n,c,h1,h2,h3⟩=>⟨p,n,c,h1,h2.out.1,h3⟩
end Go.Proofs.YtghnfnieppfhgaaGreat.St
