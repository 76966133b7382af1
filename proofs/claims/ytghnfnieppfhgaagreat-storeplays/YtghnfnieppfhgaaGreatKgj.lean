/- What is proved here: one element more at a row of own memory; mark, Push. What is proved here: put: a variable has another domain. What is proved here: tight; change of a domain that has one value now. What is proved here: Copy and Get of a domain of whole numbers that is not empty. What is proved here: save: the domain that a variable had is kept. What is proved here: Narrow, where a domain becomes smaller. What is proved here: back: the domains that were saved are put back. What is proved here: Pop, Value. What is proved here: Events. -/
import Derived.Test.YtghnfnieppfhgaaGreatAa
import Derived.Test.YtghnfnieppfhgaaGreatKaj
import Derived.OwnWalk
import Derived.Lib.SliceRun
set_option linter.unusedVariables false
set_option linter.unusedSimpArgs false
set_option maxRecDepth 100000
set_option maxHeartbeats 4000000
namespace Go.Proofs.YtghnfnieppfhgaaGreat
open Go.RowKit Go.Shelf
theorem growB {w w':World} {row:Option Nat} {B:Nat} (hg:w.grownBy w' row) (hr:∀ b,row=some b→B≤b) (hB:B≤w.heap.size):Below B w w':=⟨hg.os,hg.tape,hg.output,hg.size,fun k hk=>hg.block k (by omega) (fun e=>by have:=hr k e.symm;omega)⟩
theorem Rw.app {w:World} {e:TypeId} {s:Value} {k:Nat} {vs:List (List Value)} (h:Rw w e s k vs) (t ty:TypeId) {z:Value} {bytes:Nat} (ht:Tryz.prog.underlying t=some (.slice e)) (hinfo:(Tryz.prog.info? e).map (fun i=>(i.zero,i.size,i.bytes))=some (some z,k,bytes)) (hzs:z.cells.size=k) (hk0:0<k)
  (ad:Addr) (cp:Nat) (c:List Value) (hc:c.length=k) (hcells:∀ j u,c[j]? = some u→w.cell? (ad.add j)=some u) (h1:∀ u∈c,u.oneCell'=true) (hlen:vs.length≤100000000) (hby:bytes≤1000) :
  ∃ v' w',(Builtin.append_ #[t,t] ty #[s,.slice (some ad) 1 cp]).run Tryz.prog w = .ok v' w'∧Rw w' e v' k (vs++[c])∧w.grownBy w' s.ownBlock∧(∀ b,v'.ownBlock=some b→s.ownBlock=some b∨w.heap.size≤b):=by
 obtain ⟨i0,hi0,hz0,hz1,hz2⟩:=info_parts hinfo
 have hb1:(vs.length+1)*bytes≤100000001*1000:=Nat.mul_le_mul (by omega) hby
 obtain ⟨v',w',hr,ho,hg,_⟩:=run_append_own (P:=Tryz.prog) w 0 t ty e i0 z k bytes ht hi0 hz0 hz1 hz2 hzs hk0 s vs.length vs.flatten h.2 ad 1 cp c (by omega) hcells h1 (by unfold maxLen;omega) (by omega) (Nat.zero_le _)
 refine ⟨v',w',hr,⟨?_,?_⟩,hg,?_⟩
 ·intro x hx
  rcases List.mem_append.1 hx with hx | hx
  ·exact h.1 x hx
  ·simp at hx;subst hx;exact hc
 ·have:(vs++[c]).flatten=vs.flatten++c:=by simp
  rw [this,List.length_append]
  exact ho
 ·intro b hb
  rcases h.2.2 with ⟨rfl,hn⟩ | ⟨g,cap,cur,rfl,hbg,hgg,hnc,hcm,hcs,htake⟩
  ·have hr2:=run_append_nil (P:=Tryz.prog) w t ty e i0 z ht hi0 hz0 ad 1 cp c (by rw [hz1];omega) hcells (by omega) (by omega) (by rw [hz2];omega)
   rw [hr] at hr2
   injection hr2 with e1 e2
   subst e1
   injection hb with hb
   subst hb
   exact .inr (Nat.le_refl _)
  ·by_cases hroom:vs.length+1≤cap
   ·have hfit:vs.length*i0.size+c.length≤cur.size:=by
     rw [hz1,hc,hcs]
     have:(vs.length+1)*k≤cap*k:=Nat.mul_le_mul_right _ hroom
     rw [Nat.succ_mul] at this
     exact this
    have hr2:=run_append_room (P:=Tryz.prog) w t ty e i0 ht hi0 g vs.length cap cur hgg ad 1 cp c (by rw [hz1];omega) hcells h1 hroom hfit
    rw [hr] at hr2
    injection hr2 with e1 e2
    subst e1
    exact .inl hb
   ·have hr2:=run_append_grow (P:=Tryz.prog) w t ty e i0 z ht hi0 hz0 ⟨g,0,none⟩ vs.length cap vs.flatten (by rw [hz1];exact h.2.1) (h.2.cells (g:=g) rfl) ad 1 cp c (by rw [hz1];omega) hcells (by omega) (by omega) (growslice_fits (by omega) (by rw [hz2];omega))
    rw [hr] at hr2
    injection hr2 with e1 e2
    subst e1
    injection hb with hb
    subst hb
    exact .inr (Nat.le_refl _)
theorem ivs_snoc (l:List Int) (x:Int):ivs (l++[x])=ivs l++[[.int .i64 x]]:=by simp [ivs]
theorem step_app {w:World} {e:TypeId} {s:Value} {k:Nat} {vs:List (List Value)} (h:Rw w e s k vs) (t:TypeId) {z:Value} {bytes:Nat} (ht:Tryz.prog.underlying t=some (.slice e)) (hinfo:(Tryz.prog.info? e).map (fun i=>(i.zero,i.size,i.bytes))=some (some z,k,bytes)) (hzs:z.cells.size=k) (hk0:0<k)
  {ops:Array Oper} {o:Oper} {a:Act} {K:Act→World→Prop} {Q:Exit→Act→World→Prop} {E:Prop} (hgd:o.guard=none) (so xo:Operand) (ho:o.op = .call { callee:=.builtin .append,args:=#[so,xo],argTypes:=#[t,t] })
  (hs:a.eval so=s) (ad:Addr) (cp:Nat) (hx:a.eval xo = .slice (some ad) 1 cp) (c:List Value) (hc:c.length=k) (hcells:∀ j u,c[j]? = some u→w.cell? (ad.add j)=some u) (h1:∀ u∈c,u.oneCell'=true) (hlen:vs.length≤100000000) (hby:bytes≤1000)
  (hK:∀ v' w',Rw w' e v' k (vs++[c])→w.grownBy w' s.ownBlock→(∀ b,v'.ownBlock=some b→s.ownBlock=some b∨w.heap.size≤b)→K (a.put o.dst v') w'):if Region.wanted o (yielded ops a.tmps)=true then Oper.wp Tryz.prog o a w K Q else E:=by
 have hw:Region.wanted o (yielded ops a.tmps)=true:=by simp [Region.wanted,hgd]
 rw [if_pos hw]
 obtain ⟨v',w',hr,h2,h3,h4⟩:=h.app t o.type ht hinfo hzs hk0 ad cp c hc hcells h1 hlen hby
 unfold Oper.wp execOp
 simp only [ho,resolve,invoke,builtin,Sem.run_bind,Sem.run_pure,Result.andThen_ok,List.map_toArray,List.map_cons,List.map_nil,hs,hx,hr]
 exact hK v' w' h2 h3 h4
theorem list_app {w:World} {e:TypeId} {s:Value} {k:Nat} {vs:List (List Value)} (h:Rw w e s k vs) (t:TypeId) {z:Value} {bytes:Nat} (ht:Tryz.prog.underlying t=some (.slice e)) (hinfo:(Tryz.prog.info? e).map (fun i=>(i.zero,i.size,i.bytes))=some (some z,k,bytes)) (hzs:z.cells.size=k) (hk0:0<k)
  {ops:Array Oper} {rest:List Oper} {o:Oper} {a:Act} {Q:Exit→Act→World→Prop} (hgd:o.guard=none) (so xo:Operand) (ho:o.op = .call { callee:=.builtin .append,args:=#[so,xo],argTypes:=#[t,t] })
  (hs:a.eval so=s) (ad:Addr) (cp:Nat) (hx:a.eval xo = .slice (some ad) 1 cp) (c:List Value) (hc:c.length=k) (hcells:∀ j u,c[j]? = some u→w.cell? (ad.add j)=some u) (h1:∀ u∈c,u.oneCell'=true) (hlen:vs.length≤100000000) (hby:bytes≤1000)
  (hK:∀ v' w',Rw w' e v' k (vs++[c])→w.grownBy w' s.ownBlock→(∀ b,v'.ownBlock=some b→s.ownBlock=some b∨w.heap.size≤b)→wpList Tryz.prog ops Q rest (a.put o.dst v') w'):wpList Tryz.prog ops Q (o :: rest) a w :=
 wpList_plain hgd fun _ hK'=>by
  obtain ⟨v',w',hr,h2,h3,h4⟩:=h.app t o.type ht hinfo hzs hk0 ad cp c hc hcells h1 hlen hby
  unfold Oper.wp execOp
  simp only [ho,resolve,invoke,builtin,Sem.run_bind,Sem.run_pure,Result.andThen_ok,List.map_toArray,List.map_cons,List.map_nil,hs,hx,hr]
  exact hK' _ _ (hK v' w' h2 h3 h4)
theorem Tryz.infoInt:(Tryz.prog.info? 3).map (fun i=>(i.zero,i.size,i.bytes))=some (some (.int .i64 0),1,8):=by kernel_rfl
theorem Tryz.infoDom:(Tryz.prog.info? 37).map (fun i=>(i.zero,i.size,i.bytes))=some (some (.agg #[.bool false,.slice none 0 0,.slice none 0 0,.slice none 0 0,.int .i64 0,.int .i64 0]),6,96):=by kernel_rfl
theorem Tryz.infoKept:(Tryz.prog.info? 105).map (fun i=>(i.zero,i.size,i.bytes))=some (some (.agg #[.int .i64 0,.bool false,.slice none 0 0,.slice none 0 0,.slice none 0 0,.int .i64 0,.int .i64 0,.int .i64 0]),8,112):=by kernel_rfl
theorem Tryz.infoEvent:(Tryz.prog.info? 61).map (fun i=>(i.zero,i.size,i.bytes))=some (some (.agg #[.int .i64 0,.int .i64 0]),2,16):=by kernel_rfl
theorem mark_any [Gh] {W:World} {p:Nat} {st:StM} {sl:Sl} (h:Sto W p st sl) (hz:Sz st):Calls Tryz.prog 57 #[ptr p] W fun e w'=>e = .returned (.tuple #[])∧∃ sl',Sto w' p { st with marks:=st.marks++[(st.saved.length:Int)] } sl'∧Up (XS p sl) (XS p sl') W∧Kept (XS p sl) W w':=by
 have HML:Hid ((ivs st.marks).length≤100000000):=by rw [Hid,ivs_len];have:=hz.2.1;omega
 obtain ⟨nd,n,m,sa,sc,ma,mc,ia,ic,da,dc,wa,wc,rfl,HL⟩:=h.look
 rw [HL.out.2.1]
 have hnb:n≤100000000:=by rw [←HL.out.2.1];exact hz.2.2
 have HD:Hid (Sto W.drew p st ⟨.slice sa n sc,.slice ma m mc,.slice ia nd ic,.slice da nd dc,.slice wa nd wc⟩):=h.below (Below.refl _ _).drew
 have hbA:Below W.drew.heap.size W.drew (W.drew.alloc (.cells #[.int .i64 n] 3)):=(Below.refl _ _).alloc (Nat.le_refl _) _
 have HA:Hid (Sto (W.drew.alloc (.cells #[.int .i64 n] 3)) p st ⟨.slice sa n sc,.slice ma m mc,.slice ia nd ic,.slice da nd dc,.slice wa nd wc⟩):=HD.out.below hbA
 have HR:Hid (Rw (W.drew.alloc (.cells #[.int .i64 n] 3)) 3 (.slice ma m mc) 1 (ivs st.marks)):=HA.out.marks
 have HCE:Hid (∀ j u,[Value.int .i64 n][j]? = some u→(W.drew.alloc (.cells #[.int .i64 n] 3)).cell? ((⟨W.heap.size,0,none⟩:Addr).add j)=some u):=by
  intro j u hu
  have:=(Bx.new W.drew #[.int .i64 n] 3).cell j
  rw [Addr.add_mid,Nat.zero_add]
  simpa using this.trans (by simpa using hu)
 have MID:∀ w1,(W.drew.alloc (.cells #[.int .i64 n] 3)).grownBy w1 (Value.slice ma m mc).ownBlock→w1.cell? ⟨p,0,none⟩=some (.slice sa n sc)∧w1.cell? ⟨p,1,none⟩=some (.slice ma m mc)∧w1.frozen? ⟨p,1,none⟩=false:=by
  intro w1 hg
  have hp:=(hg.block p HA.out.p_lt (fun e=>HR.out.nep HA.out.blk (by decide) e.symm)).trans HA.out.blk
  exact ⟨cell_of_row w1 p 0 _ _ _ hp,cell_of_row w1 p 1 _ _ _ hp,by simp [World.frozen?,hp]⟩
 have HH:Hid _:=h
 have hS0:W.cell? ⟨p,0,none⟩=some (.slice sa n sc):=h.cells.1
 clear hz hbA h
 go_enter Tryz.func57,Tryz.ntmps57
 go_upto_region 0 with (fail)
 refine wp_region_held_drew (S:=fun X:World=>X.cell? ⟨p,0,none⟩=some (.slice sa n sc)) (by kernel_rfl) (hS0) (fun hHeld=>?_)
 refine tkH 0 ⟨some 2,.move (.tmp 0),103,"trail.go:29",#[],none⟩ (v:=?_) hHeld ?_ ?_;rotate_left
 ·intro w hSw;(try dsimp only at hSw);go_simp<;>with_reducible rfl
 try simp only [Act.put,zS,eZ,eS]
 refine tkH 1 ⟨some 3,.move (.tmp 0),103,"trail.go:29",#[],none⟩ (v:=?_) hHeld ?_ ?_;rotate_left
 ·intro w hSw;(try dsimp only at hSw);go_simp<;>with_reducible rfl
 try simp only [Act.put,zS,eZ,eS]
 refine tkH 2 ⟨some 4,.nilCheck (.tmp 3),0,"trail.go:29",#[⟨1,.data⟩],none⟩ (v:=?_) hHeld ?_ ?_;rotate_left
 ·intro w hSw;(try dsimp only at hSw);go_simp<;>with_reducible rfl
 try simp only [Act.put,zS,eZ,eS]
 refine tkH 3 ⟨some 5,.fieldAddr 65 (.tmp 4) 1,0,"trail.go:29",#[⟨2,.data⟩],none⟩ (v:=?_) hHeld ?_ ?_;rotate_left
 ·intro w hSw;(try dsimp only at hSw);go_simp<;>with_reducible rfl
 try simp only [Act.put,zS,eZ,eS]
 refine tkH 5 ⟨some 7,.move (.tmp 0),103,"trail.go:29",#[],none⟩ (v:=?_) hHeld ?_ ?_;rotate_left
 ·intro w hSw;(try dsimp only at hSw);go_simp<;>with_reducible rfl
 try simp only [Act.put,zS,eZ,eS]
 refine tkH 6 ⟨some 8,.nilCheck (.tmp 7),0,"trail.go:29",#[⟨5,.data⟩],none⟩ (v:=?_) hHeld ?_ ?_;rotate_left
 ·intro w hSw;(try dsimp only at hSw);go_simp<;>with_reducible rfl
 try simp only [Act.put,zS,eZ,eS]
 refine tkH 7 ⟨some 9,.fieldAddr 65 (.tmp 8) 0,0,"trail.go:29",#[⟨6,.data⟩],none⟩ (v:=?_) hHeld ?_ ?_;rotate_left
 ·intro w hSw;(try dsimp only at hSw);go_simp<;>with_reducible rfl
 try simp only [Act.put,zS,eZ,eS]
 refine tkH 8 ⟨some 10,.load 62 (.tmp 9),62,"trail.go:29",#[⟨7,.data⟩],none⟩ (v:=?_) hHeld ?_ ?_;rotate_left
 ·intro w hSw;(try dsimp only at hSw);go_simp<;>with_reducible rfl
 try simp only [Act.put,zS,eZ,eS]
 refine tkH 9 ⟨some 11,.call { callee:=.builtin .len,args:=#[.tmp 10],argTypes:=#[62] },3,"trail.go:29",#[⟨8,.data⟩],none⟩ (v:=?_) hHeld ?_ ?_;rotate_left
 ·intro w hSw;(try dsimp only at hSw);go_simp<;>with_reducible rfl
 try simp only [Act.put,zS,eZ,eS]
 refine wpAnyH_ready (rs:=[4,10]) (by kernel_rfl) (by simp) ?_
 refine AllReadyH.cons rfl (fun K hK=>?_) ?_
 ·have z1:W.cell? ⟨p,1,none⟩=some (.slice ma m mc):=(HD.out.cells).2.1
  go_simp
  clear z1
  clear hHeld;refine hK.out _ _ (HD.out.cells.1) fun hHeld=>?_
  clear hK K
  try simp only [Act.put,zS,eZ,eS]
  refine rdy 10 rfl fun K hK=>?_
  go_simp
  clear hHeld;refine hK.out _ _ (HA.out.cells.1) fun hHeld=>?_
  clear hK K
  try simp only [Act.put,zS,eZ,eS]
  refine rdy 11 rfl fun K hK=>?_
  refine step_app HR.out 63 Tryz.underlying63 Tryz.infoInt rfl (by decide) rfl _ _ rfl rfl ⟨W.heap.size,0,none⟩ 1 (by with_unfolding_all rfl) [.int .i64 n] rfl HCE.out (by intro u hu;simp at hu;subst hu;rfl) HML.out (by decide) ?_
  intro v1 w1 hr1 hg1 hn1
  obtain ⟨p1,q1,c1,rfl,HQ1,_⟩:=hr1.look
  have HR1:Hid _:=hr1
  have HG1:Hid _:=hg1
  have HN1:Hid _:=hn1
  clear hr1 hg1 hn1
  have z0:=MID w1 HG1.out
  clear hHeld;refine hK.out _ _ (z0.1) fun hHeld=>?_
  clear hK K
  try simp only [Act.put,zS,eZ,eS]
  refine tkI 12 rfl hHeld ?_
  try simp only [Act.put,zS,eZ,eS]
  refine tkI 13 rfl hHeld ?_
  try simp only [Act.put,zS,eZ,eS]
  refine rdy 14 rfl fun K hK=>?_
  have z1:=z0.2.1
  have z2:=z0.2.2
  go_simp
  clear z1 z2
  clear hHeld;refine hK.out _ _ (by rw [World.cell?_setCell_other _ _ _ _ (by simp)];exact z0.1) fun hHeld=>?_
  clear hK K
  try simp only [Act.put,zS,eZ,eS]
  refine wpAnyH_done (by kernel_rfl) ?_ _
  obtain ⟨f1,f2,f3⟩:=HA.out.set_marks HG1.out (M':=st.marks++[(n:Int)]) (by rw [ivs_snoc];exact HR1.out) HN1.out
  refine ⟨rfl,_,results_none rfl _ _ _,rfl,_,f1,fun b hb=>?_,(Kept.of_below ((Below.refl _ W).drew.alloc (Nat.le_refl _) _)).trans f3 (Up.refl _ _)⟩
  rcases f2 b hb with q | q
  ·exact .inl q
  ·exact .inr (by simp at q;omega)
 refine AllReadyH.cons rfl (fun K hK=>?_) ?_
 ·go_simp
  clear hHeld;refine hK.out _ _ (HA.out.cells.1) fun hHeld=>?_
  clear hK K
  try simp only [Act.put,zS,eZ,eS]
  refine rdy 4 rfl fun K hK=>?_
  have z1:(W.alloc (Obj.cells #[.int .i64 n] 3)).cell? ⟨p,1,none⟩=some (.slice ma m mc):=(HA.out.cells).2.1
  go_simp
  clear z1
  clear hHeld;refine hK.out _ _ (HA.out.cells.1) fun hHeld=>?_
  clear hK K
  try simp only [Act.put,zS,eZ,eS]
  refine rdy 11 rfl fun K hK=>?_
  refine step_app HR.out 63 Tryz.underlying63 Tryz.infoInt rfl (by decide) rfl _ _ rfl rfl ⟨W.heap.size,0,none⟩ 1 (by with_unfolding_all rfl) [.int .i64 n] rfl HCE.out (by intro u hu;simp at hu;subst hu;rfl) HML.out (by decide) ?_
  intro v1 w1 hr1 hg1 hn1
  obtain ⟨p1,q1,c1,rfl,HQ1,_⟩:=hr1.look
  have HR1:Hid _:=hr1
  have HG1:Hid _:=hg1
  have HN1:Hid _:=hn1
  clear hr1 hg1 hn1
  have z0:=MID w1 HG1.out
  clear hHeld;refine hK.out _ _ (z0.1) fun hHeld=>?_
  clear hK K
  try simp only [Act.put,zS,eZ,eS]
  refine tkI 12 rfl hHeld ?_
  try simp only [Act.put,zS,eZ,eS]
  refine tkI 13 rfl hHeld ?_
  try simp only [Act.put,zS,eZ,eS]
  refine rdy 14 rfl fun K hK=>?_
  have z1:=z0.2.1
  have z2:=z0.2.2
  go_simp
  clear z1 z2
  clear hHeld;refine hK.out _ _ (by rw [World.cell?_setCell_other _ _ _ _ (by simp)];exact z0.1) fun hHeld=>?_
  clear hK K
  try simp only [Act.put,zS,eZ,eS]
  refine wpAnyH_done (by kernel_rfl) ?_ _
  obtain ⟨f1,f2,f3⟩:=HA.out.set_marks HG1.out (M':=st.marks++[(n:Int)]) (by rw [ivs_snoc];exact HR1.out) HN1.out
  refine ⟨rfl,_,results_none rfl _ _ _,rfl,_,f1,fun b hb=>?_,(Kept.of_below ((Below.refl _ W).drew.alloc (Nat.le_refl _) _)).trans f3 (Up.refl _ _)⟩
  rcases f2 b hb with q | q
  ·exact .inl q
  ·exact .inr (by simp at q;omega)
 exact AllReadyH.nil
theorem push_any [Gh] {W:World} {p:Nat} {st:StM} {sl:Sl} (h:Sto W p st sl) (hz:Sz st) (hm:st.marks.length<1000000):Calls Tryz.prog 17 #[ptr p] W fun e w'=>e = .returned (.int .i64 0)∧∃ sl',Sto w' p { st with marks:=st.marks++[(st.saved.length:Int)] } sl'∧Up (XS p sl) (XS p sl') W∧Kept (XS p sl) W w':=by
 have kd:=depth_any h hz
 have km:=mark_any h hz
 clear h hz
 generalize st.marks.length=m at kd hm
 have hne:((m:Int)==1000000)=false:=by simp;omega
 go_enter Tryz.func17,Tryz.ntmps17
 go_wp2_with (first | (go_at_call 56;refine kd.mono ?_;rintro e w1 ⟨rfl,rfl⟩) | (go_at_call 57;refine km.mono ?_;rintro e w1 ⟨rfl,hh⟩))
 go_ret
 exact ⟨rfl,hh⟩
theorem emptI_01 (b:Bool):0≤emptI b∧emptI b≤1:=by cases b<;>decide
theorem rng6 {w:World} {g o:Nat} {x0 x1 x2 x3 x4 x5:Value} (h:w.rangeAt g o [x0,x1,x2,x3,x4,x5]) :
  w.cell? ⟨g,o,none⟩=some x0∧w.cell? ⟨g,o+1,none⟩=some x1∧w.cell? ⟨g,o+2,none⟩=some x2∧w.cell? ⟨g,o+3,none⟩=some x3∧w.cell? ⟨g,o+4,none⟩=some x4∧w.cell? ⟨g,o+5,none⟩=some x5 :=
 ⟨by simpa using h 0 x0 rfl,h 1 x1 rfl,h 2 x2 rfl,h 3 x3 rfl,h 4 x4 rfl,h 5 x5 rfl⟩
theorem wrap_small {x:Int} (h1 : -1000000000≤x) (h2:x≤1000000000):IntKind.i64.wrap x=x:=by
 simp [IntKind.wrap,IntKind.bits,IntKind.signed]
 omega
theorem wp_ways {P:Program} {c:Code} {K:Act→World→Prop} {Q:Exit→Act→World→Prop} {a:Act} {w:World} {act:Act} (R:World→Prop) (h:c.wp P (Exit.then (fun a' w'=>a'=act∧R w') (fun _ _ _=>False)) a w) (hK:∀ w',R w'→K act w'):c.wp P (Exit.then K Q) a w :=
 Code.wp_mono (fun e b x q=>by
  cases e with
  | normal =>
   have q':b=act∧R x:=q
   obtain ⟨e1,q2⟩:=q'
   rw [e1]
   exact hK _ q2
  | _=>exact (q:False).elim) h
theorem stepM {ops:Array Oper} {o:Oper} {a:Act} {w:World} {K:Act→World→Prop} {Q:Exit→Act→World→Prop} {E:Prop} (hgd:o.guard=none) (ty:TypeId) (x y:Operand) (ho:o.op = .store ty x y) (b off:Nat) (c:List Value) (hx:a.eval x = .pointer (some ⟨b,off,none⟩)) (hy:a.eval y = .agg c.toArray)
  (ht:w.there b off c.length) (hi:(Tryz.prog.info? ty).map (·.size)=some c.length) (h1:∀ v∈c,v.oneCell'=true) (h:K (a.put o.dst undef) (w.setCells b off c)):if Region.wanted o (yielded ops a.tmps)=true then Oper.wp Tryz.prog o a w K Q else E:=by
 have hw:Region.wanted o (yielded ops a.tmps)=true:=by simp [Region.wanted,hgd]
 rw [if_pos hw]
 exact wp_store_mid ty x y ho b off c.toArray hx hy (by simpa using ht) (by simpa using hi) (all_oneCell_toArray h1) (by simpa using h)
theorem Bx.setc {w:World} {g k:Nat} {cs:Array Value} {t:TypeId} (h:Bx w k cs t) (hk:k≠g) (o:Nat) (v:Value):Bx (w.setCell ⟨g,o,none⟩ v) k cs t:=⟨(Below.heap_setCell w ⟨g,o,none⟩ v k hk).trans h.h⟩
theorem Bx.setcs {w:World} {g k:Nat} {cs:Array Value} {t:TypeId} (h:Bx w k cs t) (hk:k≠g) (o:Nat) (vs:List Value):Bx (w.setCells g o vs) k cs t:=⟨((Kept.many (w:=w) rfl).block k h.lt hk).trans h.h⟩
theorem Sto.dom_at [Gh] {w:World} {p:Nat} {st:StM} {sl:Sl} (h:Sto w p st sl) {v:Nat} {d:MD} (hd:st.D[v]? = some d):∃ g cap c,sl.dv = .slice (some ⟨g,0,none⟩) st.D.length cap∧g<w.heap.size∧st.D.length≤cap∧cap≤9223372036854775807∧w.rangeAt g (v*6) c∧w.there g (v*6) 6∧Dc (XS p sl) w c d:=by
 obtain ⟨cs,hr,hdr⟩:=h.doms
 have hv:v<cs.length:=by rw [hdr.1];exact (List.getElem?_eq_some_iff.1 hd).1
 obtain ⟨g,cap,e1,e2,e3,e4,e5,e6⟩:=hr.at (List.getElem?_eq_getElem hv)
 unfold maxLen at e4
 rw [hdr.1] at e1 e3
 exact ⟨g,cap,_,e1,e2,e3,by omega,e5,e6,hdr.2 v _ d (List.getElem?_eq_getElem hv) hd⟩
theorem stepR {ops:Array Oper} {o:Oper} {a:Act} {w:World} {K:Act→World→Prop} {Q:Exit→Act→World→Prop} {E:Prop} {old:Array Value} {t:TypeId} (hgd:o.guard=none) (ty:TypeId) (x y:Operand) (ho:o.op = .store ty x y) (g:Nat) (c:List Value) (hx:a.eval x = .pointer (some ⟨g,0,none⟩)) (hy:a.eval y = .agg c.toArray)
  (hg:Bx w g old t) (hold:old.size=6) (hc:c.length=6) (hi:(Tryz.prog.info? ty).map (·.size)=some 6) (h1:∀ v∈c,v.oneCell'=true) (h:K (a.put o.dst undef) (w.setRow g c.toArray)):if Region.wanted o (yielded ops a.tmps)=true then Oper.wp Tryz.prog o a w K Q else E:=by
 have hw:Region.wanted o (yielded ops a.tmps)=true:=by simp [Region.wanted,hgd]
 rw [if_pos hw]
 unfold Oper.wp execOp
 simp only [ho,hx,hy,Instr.storeAt,Instr.sureAddr,Sem.run_bind,Sem.run_pure,Result.andThen_ok,run_storeVar_row w g t ty old c.toArray hg.h (by rw [hi];simp [hc]) (by simp [hold,hc]) (all_oneCell_toArray h1)]
 exact h
theorem tight_w {X:Nat→Prop} {W:World} {c:List Value} {d:MD} (h:Dc X W c d) (hs:d.set=false) (hf:Dm.FitsR d.r) :
  Calls Tryz.prog 31 #[.agg c.toArray] W fun e w'=>∃ q:List Value,e = .returned (.agg q.toArray)∧(∀ Z:Nat→Prop,(∀ b,Z b→b<W.heap.size)→Dc Z w' q (bothW d d))∧Below W.heap.size W w':=by
 obtain ⟨b,ra,n0,rc,a1,n1,c1,a2,n2,c2,x,y,rfl,HE,H1,H2,H3⟩:=h.look
 obtain rfl:b=false:=by rw [←HE.out.1,hs]
 obtain ⟨bw,hbw⟩:∃ q,W.heap.size=q:=⟨_,rfl⟩
 obtain ⟨W0,hW0⟩:∃ Q,(W.alloc (Obj.cells #[.bool false,.slice ra n0 rc,.slice a1 n1 c1,.slice a2 n2 c2,.int .i64 x,.int .i64 y] 37)).alloc (Obj.cells #[.bool false,.slice none 0 0,.slice none 0 0,.slice none 0 0,.int .i64 0,.int .i64 0] 37)=Q:=⟨_,rfl⟩
 have hb0:Below W.heap.size W W0:=by rw [←hW0];exact (((Below.refl _ W).alloc (Nat.le_refl _) _).alloc (by simp) _)
 have HBX:Hid (Bx W0 bw #[.bool false,.slice ra n0 rc,.slice a1 n1 c1,.slice a2 n2 c2,.int .i64 x,.int .i64 y] 37):=by rw [←hW0];exact (Bx.new' hbw _ _).alloc _
 have HRX:Hid (Bx W0 (bw+1) #[.bool false,.slice none 0 0,.slice none 0 0,.slice none 0 0,.int .i64 0,.int .i64 0] 37):=by rw [←hW0];exact Bx.new' (by simp [hbw]) _ _
 have hC:=h.below hb0
 have KN:Hid (∀ X,Below W0.heap.size W0 X→Calls Tryz.prog 49 #[.agg #[.bool false,.slice ra n0 rc,.slice a1 n1 c1,.slice a2 n2 c2,.int .i64 x,.int .i64 y]] X fun e w'=>e = .returned (.func (.func 74) #[.agg #[.bool false,.slice ra n0 rc,.slice a1 n1 c1,.slice a2 n2 c2,.int .i64 x,.int .i64 y]] #[])∧Below X.heap.size X w'):=fun X hX=>narrower_w (hC.below hX) hs
 have KW:Hid (∀ X,Below W0.heap.size W0 X→Calls Tryz.prog 74 #[.agg #[.bool false,.slice ra n0 rc,.slice a1 n1 c1,.slice a2 n2 c2,.int .i64 x,.int .i64 y],.agg #[.bool false,.slice ra n0 rc,.slice a1 n1 c1,.slice a2 n2 c2,.int .i64 x,.int .i64 y]] X fun e w'=>∃ q:List Value,e = .returned (.agg q.toArray)∧(∀ Z:Nat→Prop,(∀ b,Z b→b<X.heap.size)→Dc Z w' q (bothW d d))∧Below X.heap.size X w'):=fun X hX=>with_w (hC.below hX) (hC.below hX) hs hs hf hf
 have HB00:Hid (Below W.heap.size W W0):=hb0
 have HB0:Hid (Below W0.heap.size W0 W0.drew):=(Below.refl _ _).drew
 have HW0:Hid _:=hW0
 have HBW:Hid (W.heap.size=bw):=hbw
 have HX0:Hid _:=HBX.out.drew 1
 clear hW0 hbw hb0 hC h hs hf H1 H2 H3 HE
 go_enter Tryz.func31,Tryz.ntmps31
 go_upto_region 1 with (fail)
 rw [HW0.out,HBW.out]
 refine wp_region_held_drew (S:=fun X:World=>Bx X bw #[.bool false,.slice ra n0 rc,.slice a1 n1 c1,.slice a2 n2 c2,.int .i64 x,.int .i64 y] 37) (by kernel_rfl) (HX0.out) (fun hHeld=>?_)
 refine tkH 0 ⟨some 3,.load 37 (.tmp 1),37,"kinds.go:38",#[],none⟩ (v:=?_) hHeld ?_ ?_;rotate_left
 ·intro w hSw;obtain ⟨y0,y1,y2,y3,y4,y5⟩:=hSw.six;go_simp<;>with_reducible rfl
 try simp only [Act.put,zS,eZ,eS]
 refine tkH 2 ⟨some 5,.load 37 (.tmp 1),37,"kinds.go:38",#[],none⟩ (v:=?_) hHeld ?_ ?_;rotate_left
 ·intro w hSw;obtain ⟨y0,y1,y2,y3,y4,y5⟩:=hSw.six;go_simp<;>with_reducible rfl
 try simp only [Act.put,zS,eZ,eS]
 refine rdy 1 rfl fun K hK=>?_
 go_simp
 refine (KN.out _ HB0.out).mono ?_
 rintro e w1 ⟨rfl,hb⟩
 have HB1:Hid (Below W0.heap.size W0 w1):=HB0.out.trans (hb.mono HB0.out.size)
 clear hb
 clear hHeld;refine hK.out _ _ ((HBX.out.below HB1.out)) fun hHeld=>?_
 clear hK K
 try simp only [Act.put,zS,eZ,eS]
 refine rdy 3 rfl fun K hK=>?_
 go_simp
 refine (KW.out _ HB1.out).mono ?_
 rintro e w2 ⟨q,rfl,hq,hb⟩
 have HQ:Hid _:=hq
 have HB2:Hid (Below W0.heap.size W0 w2):=HB1.out.trans (hb.mono HB1.out.size)
 have HS12:Hid (w1.heap.size≤w2.heap.size):=hb.size
 clear hb hq
 clear hHeld;refine hK.out _ _ ((HBX.out.below HB2.out)) fun hHeld=>?_
 clear hK K
 try simp only [Act.put,zS,eZ,eS]
 refine rdy 4 rfl fun K hK=>?_
 have HR2:Hid (Bx w2 (bw+1) #[.bool false,.slice none 0 0,.slice none 0 0,.slice none 0 0,.int .i64 0,.int .i64 0] 37):=HRX.out.below HB2.out
 have HDc:Hid (Dc (fun _=>False) w2 q (bothW d d)):=HQ.out _ (fun _ q=>q.elim)
 refine stepR rfl 37 (.tmp 2) (.tmp 6) rfl (bw+1) q (by with_unfolding_all rfl) (by with_unfolding_all rfl) HR2.out (by rfl) HDc.out.len Tryz.sizeDom HDc.out.one ?_
 clear hHeld;refine hK.out _ _ (((HBX.out.below HB2.out).setRow_ne (by omega) _)) fun hHeld=>?_
 clear hK K
 try simp only [Act.put,zS,eZ,eS]
 refine wpAnyH_done (by kernel_rfl) ?_ _
 go_wp2
 refine ⟨rfl,_,resD rfl _ (HR2.out.setRow _) HDc.out.len (by with_unfolding_all rfl),q,rfl,fun Z hZ=>?_,below_row (HB00.out.trans (HB2.out.mono HB00.out.size)) (by have:=HBW.out;omega) _⟩
 refine (HQ.out (fun b=>b<w1.heap.size) (fun b q=>q)).go ⟨rfl,rfl,rfl,by simp [World.setRow],fun b _ hb=>setRow_other w2 _ b _ (by intro e;apply hb;have:=HRX.out.lt;have:=HB1.out.size;omega)⟩ (fun b hb=>.inl ?_)
 have:=hZ b hb;have:=HB00.out.size;have:=HB1.out.size;show b<w1.heap.size;omega
theorem change_fix {X Y:Nat→Prop} {W:World} {c k:List Value} {d o:MD} (h:Dc X W c d) (h':Dc Y W k o) (hs:d.set=false) (hs':o.set=false) (hf':Dm.FitsR o.r) (ho:(onlyW o).2=true) :
  Calls Tryz.prog 54 #[.agg c.toArray,.agg k.toArray] W fun e w'=>e = .returned (.int .i64 1)∧Below W.heap.size W w':=by
 obtain ⟨b,ra,n0,rc,a1,n1,c1,a2,n2,c2,x,y,rfl,HE,H1,H2,H3⟩:=h.look
 obtain rfl:b=false:=by rw [←HE.out.1,hs]
 obtain ⟨b',ra',n0',rc',a1',n1',c1',a2',n2',c2',x',y',rfl,HE',H1',H2',H3'⟩:=h'.look
 obtain rfl:b'=false:=by rw [←HE'.out.1,hs']
 obtain ⟨W0,hW0⟩:∃ Q,(W.alloc (Obj.cells #[.bool false,.slice ra n0 rc,.slice a1 n1 c1,.slice a2 n2 c2,.int .i64 x,.int .i64 y] 37)).alloc (Obj.cells #[.bool false,.slice ra' n0' rc',.slice a1' n1' c1',.slice a2' n2' c2',.int .i64 x',.int .i64 y'] 37)=Q:=⟨_,rfl⟩
 have hb0:Below W.heap.size W W0:=by rw [←hW0];exact (((Below.refl _ W).alloc (Nat.le_refl _) _).alloc (by simp) _)
 have ko:=only_w (h'.below hb0) hs' hf'
 rw [ho] at ko
 have HW0:Hid _:=hW0
 clear hW0 h h' hs hs' hf' ho H1 H2 H3 HE H1' H2' H3' HE'
 generalize (onlyW o).1=z at *
 go_enter Tryz.func54,Tryz.ntmps54
 go_wp2_with fail
 rw [HW0.out]
 refine ko.mono ?_
 clear ko
 rintro e w1 ⟨rfl,hb1⟩
 have hb2:Below W.heap.size W w1:=hb0.trans (hb1.mono hb0.size)
 go_wp2
 go_ret
 exact ⟨rfl,hb2.alloc hb2.size _⟩
theorem wp_ways6 {P:Program} {c:Code} {Q:Exit→Act→World→Prop} {a:Act} {w:World} {act:Option Addr→Nat→Option Addr→Nat→Option Addr→Nat→Act} (R:Option Addr→Nat→Option Addr→Nat→Option Addr→Nat→World→Prop) (h:c.wp P (Exit.then (fun a' w'=>∃ n m k i j l,a'=act n m k i j l∧R n m k i j l w') (fun _ _ _=>False)) a w) (hK:∀ n m k i j l w',R n m k i j l w'→Q .normal (act n m k i j l) w'):c.wp P Q a w :=
 Code.wp_mono (fun e b x q=>by
  cases e with
  | normal =>
   have q':∃ n m k i j l,b=act n m k i j l∧R n m k i j l x:=q
   obtain ⟨n,m,k,i,j,l,e1,q2⟩:=q'
   rw [e1]
   exact hK _ _ _ _ _ _ _ q2
  | _=>exact (q:False).elim) h
def saveM (st:StM) (v:Nat) (o:MD):StM:=if st.since.getD v 0=st.marks.length then st else { st with saved:=st.saved++[((v:Int),o,st.since.getD v 0)],since:=st.since.set v st.marks.length }
theorem Kr.snoc {X:Nat→Prop} {w:World} {ks:List (List Value)} {S:List (Int × MD × Int)} (h:Kr X w ks S) {c:List Value} {d:MD} (hc:Dc X w c d) (v s:Int):Kr X w (ks++[kcell v c s]) (S++[(v,d,s)]):=by
 refine ⟨by simp [h.1],fun i kc t h1 h2=>?_⟩
 by_cases hi:i<ks.length
 ·rw [List.getElem?_append_left hi] at h1
  rw [List.getElem?_append_left (by rw [←h.1];exact hi)] at h2
  exact h.2 i kc t h1 h2
 ·have hl:=(List.getElem?_eq_some_iff.1 h1).1
  simp at hl
  have e:i=ks.length:=by omega
  subst e
  rw [List.getElem?_append_right (Nat.le_refl _),Nat.sub_self] at h1
  rw [h.1,List.getElem?_append_right (Nat.le_refl _),Nat.sub_self] at h2
  injection h1 with h1
  injection h2 with h2
  subst h1 h2
  exact ⟨c,rfl,hc⟩
theorem up_saved [Gh] {w:World} {p:Nat} {sl:Sl} {sv':Value} (hn:∀ b,sv'.ownBlock=some b→sl.sv.ownBlock=some b∨w.heap.size≤b):Up (XS p sl) (XS p { sl with sv:=sv' }) w:=fun b hb=>by
 rcases hb with q | q | q
 ·exact .inl (.inl q)
 ·rcases hn b q with q | q
  ·exact .inl (.inr (.inl q))
  ·exact .inr q
 ·exact .inl (.inr (.inr q))
theorem kept_saved [Gh] {w w1:World} {p:Nat} {sl:Sl} (hg:w.grownBy w1 sl.sv.ownBlock):Kept (XS p sl) w w1:=⟨hg.os,hg.tape,hg.output,hg.size,fun b hb hx=>hg.block b hb (fun e=>hx (.inr (.inl e.symm)))⟩
theorem quiet_same {P:Program} {f:Nat} {args:Array Value} {W:World} {r:Value} (h:Calls P f args W fun e w'=>e = .returned r∧w'=W):Calls P f args W fun e w'=>e = .returned r∧∃ n,w'=W.drewN n:=h.mono fun e w' ⟨a,b⟩=>⟨a,0,b⟩
theorem eight_one (i:Int) (b:Bool) (p0:Option Addr) (m0 k0:Nat) (p1:Option Addr) (m1 k1:Nat) (p2:Option Addr) (m2 k2:Nat) (x y j:Int):∀ v∈[Value.int .i64 i,.bool b,.slice p0 m0 k0,.slice p1 m1 k1,.slice p2 m2 k2,.int .i64 x,.int .i64 y,.int .i64 j],v.oneCell'=true:=by
 intro v hv
 simp only [List.mem_cons,List.not_mem_nil,or_false] at hv
 rcases hv with rfl | rfl | rfl | rfl | rfl | rfl | rfl | rfl<;>rfl
theorem save_any [Gh] {W:World} {p:Nat} {st:StM} {sl:Sl} {c:List Value} {o:MD} (h:Sto W p st sl) (hc:Dc (XS p sl) W c o) (v:Nat) (hv:v<st.D.length) (hz:Sz st) (hzs:st.saved.length<100000000) :
  Calls Tryz.prog 51 #[ptr p,.int .i64 v,.agg c.toArray] W fun e w'=>e = .returned (.tuple #[])∧∃ sl',Sto w' p (saveM st v o) sl'∧Up (XS p sl) (XS p sl') W∧Kept (XS p sl) W w':=by
 have hvs:v<st.since.length:=by rw [h.ls];exact hv
 obtain ⟨n,k,m,sa,sc,ma,mc,ia,ic,da,dc,wa,wc,rfl,HL⟩:=h.look
 obtain ⟨gi,cap,e1,hgi,hle,hcm,hr,hth⟩:=h.since.at (i:=v) (c:=[.int .i64 (st.since.getD v 0)]) (by rw [ivs_get,List.getElem?_eq_getElem hvs];simp [List.getD,hvs])
 rw [Nat.mul_one] at hr hth
 injection e1 with e1 e2 e3
 subst e1 e3
 clear e2
 rw [ivs_len,h.ls,HL.out.1] at hle
 have hvn:v<n:=by rw [←HL.out.1];exact hv
 have hn1:n≤1000:=by rw [←HL.out.1];exact hz.1
 have hmb:m≤1000000:=by rw [←HL.out.2.2];exact hz.2.1
 unfold maxLen at hcm
 obtain ⟨b,ra,n0,rc,a1,n1,c1,a2,n2,c2,x,y,rfl,HE,H1,H2,H3⟩:=hc.look
 obtain ⟨bw,hbw⟩:∃ q,W.heap.size=q:=⟨_,rfl⟩
 obtain ⟨W0,hW0⟩:∃ Q,W.alloc (Obj.cells #[.bool b,.slice ra n0 rc,.slice a1 n1 c1,.slice a2 n2 c2,.int .i64 x,.int .i64 y] 37)=Q:=⟨_,rfl⟩
 have hb0:Below W.heap.size W W0:=by rw [←hW0];exact (Below.refl _ W).alloc (Nat.le_refl _) _
 have HBX:Hid (Bx W0 bw #[.bool b,.slice ra n0 rc,.slice a1 n1 c1,.slice a2 n2 c2,.int .i64 x,.int .i64 y] 37):=by rw [←hW0];exact Bx.new' hbw _ _
 have HS:=hid (h.below hb0)
 obtain ⟨sq,hsq⟩:∃ q,st.since.getD v 0=q:=⟨_,rfl⟩
 rw [hsq] at hr
 have hci:W0.cell? ⟨gi,v,none⟩=some (.int .i64 sq):=(hb0.cell (p:=⟨gi,v,none⟩) hgi).trans (rng_one hr)
 have hgi0:gi<W0.heap.size:=Nat.lt_of_lt_of_le hgi hb0.size
 have hC:Dc (XS p ⟨.slice sa k sc,.slice ma m mc,.slice (some ⟨gi,0,none⟩) n ic,.slice da n dc,.slice wa n wc⟩) W0 _ o:=hc.below hb0
 have HC:Hid (Dc (XS p ⟨.slice sa k sc,.slice ma m mc,.slice (some ⟨gi,0,none⟩) n ic,.slice da n dc,.slice wa n wc⟩) W0 [.bool b,.slice ra n0 rc,.slice a1 n1 c1,.slice a2 n2 c2,.int .i64 x,.int .i64 y] o):=hC
 have kd:=depth_any HS.out hz
 rw [HL.out.2.2] at kd
 have KD0:Hid (∀ X,Below W0.heap.size W0 X→Calls Tryz.prog 56 #[ptr p] X fun e w'=>e = .returned (.int .i64 m)∧w'=X):=fun X hX=>by have:=depth_any (HS.out.below hX) hz;rw [HL.out.2.2] at this;exact this
 have HZ:Hid (Sz st):=hz
 have HZS:Hid (st.saved.length<100000000):=hzs
 have HSQ:Hid (st.since.getD v 0=sq):=hsq
 have HVS:Hid (v<st.since.length):=hvs
 have HH:Hid (Sto W p st ⟨.slice sa k sc,.slice ma m mc,.slice (some ⟨gi,0,none⟩) n ic,.slice da n dc,.slice wa n wc⟩):=h
 have HB00:Hid (Below W.heap.size W W0):=hb0
 obtain ⟨z0,z1,z2,z3,z4,z5,zf⟩:=HS.out.cells
 simp only at z2
 obtain ⟨y0,y1,y2,y3,y4,y5⟩:=HBX.out.six
 have HW0:Hid _:=hW0
 have HBW:Hid (W.heap.size=bw):=hbw
 clear hsq hW0 hbw hb0 h hc hC hz hr hth hvs hgi z0 z1 z3 z4 z5 zf
 have hvi:(v:Int)<n:=by omega
 have kq:=quiet_same kd
 have HB1:Hid (Below W0.heap.size W0 W0.drew):=(Below.refl _ _).drew
 clear kd kq
 by_cases hne:sq=m
 ·have hnb:((sq:Int)==m)=true:=by simpa using hne
  have HQ:Hid (sq=m):=hne
  clear hne
  go_enter Tryz.func51,Tryz.ntmps51
  go_upto_region 1 with (fail)
  rw [HW0.out,HBW.out]
  refine wp_region_held_drew (S:=fun X:World=>X.cell? ⟨p,2,none⟩=some (.slice (some ⟨gi,0,none⟩) n ic)∧X.cell? ⟨gi,v,none⟩=some (.int .i64 sq)∧Bx X bw #[.bool b,.slice ra n0 rc,.slice a1 n1 c1,.slice a2 n2 c2,.int .i64 x,.int .i64 y] 37) (by kernel_rfl) (⟨z2,hci,HBX.out.drew 1⟩) (fun hHeld=>?_)
  refine tkI 0 rfl hHeld ?_
  try simp only [Act.put,zS,eZ,eS]
  refine tkI 1 rfl hHeld ?_
  try simp only [Act.put,zS,eZ,eS]
  refine tkI 2 rfl hHeld ?_
  try simp only [Act.put,zS,eZ,eS]
  refine tkH 3 _ (v:=?_) hHeld ?_ ?_;rotate_left
  ·intro w hSw;obtain ⟨y2,yi,_⟩:=hSw;go_simp<;>with_reducible rfl
  try simp only [Act.put,zS,eZ,eS]
  refine tkI 4 rfl hHeld ?_
  try simp only [Act.put,zS,eZ,eS]
  refine tkH 5 _ (v:=?_) hHeld ?_ ?_;rotate_left
  ·intro w hSw;obtain ⟨y2,yi,_⟩:=hSw;go_simp<;>with_reducible rfl
  try simp only [Act.put,zS,eZ,eS]
  refine tkH 6 _ (v:=?_) hHeld ?_ ?_;rotate_left
  ·intro w hSw;obtain ⟨y2,yi,_⟩:=hSw;go_simp<;>with_reducible rfl
  try simp only [Act.put,zS,eZ,eS]
  refine tkI 7 rfl hHeld ?_
  try simp only [Act.put,zS,eZ,eS]
  refine rdy 8 rfl fun K hK=>?_
  go_simp
  refine (KD0.out _ HB1.out).mono ?_
  rintro e wq ⟨rfl,rfl⟩
  clear hHeld;refine hK.out _ _ (⟨z2,hci,HBX.out.drew 1⟩) fun hHeld=>?_
  clear hK K
  try simp only [Act.put,zS,eZ,eS]
  refine tkI 9 rfl hHeld ?_
  try simp only [Act.put,zS,eZ,eS]
  refine wpAnyH_done (by kernel_rfl) ?_ _
  go_wp2
  refine ⟨rfl,_,results_none rfl _ _ _,rfl,_,?_,Up.refl _ _,(Kept.of_below HB00.out).then_below HB1.out⟩
  rw [saveM,if_pos (by rw [HSQ.out,HL.out.2.2];exact HQ.out)]
  exact HS.out.below HB1.out
 ·have hnb:((sq:Int)==m)=false:=by simpa using hne
  have HNE:Hid (¬st.since.getD v 0=st.marks.length):=by rw [Hid,HSQ.out,HL.out.2.2];exact hne
  clear hne
  go_enter Tryz.func51,Tryz.ntmps51
  go_upto_region 1 with (fail)
  rw [HW0.out,HBW.out]
  refine wp_region_held_drew (S:=fun X:World=>X.cell? ⟨p,2,none⟩=some (.slice (some ⟨gi,0,none⟩) n ic)∧X.cell? ⟨gi,v,none⟩=some (.int .i64 sq)∧Bx X bw #[.bool b,.slice ra n0 rc,.slice a1 n1 c1,.slice a2 n2 c2,.int .i64 x,.int .i64 y] 37) (by kernel_rfl) (⟨z2,hci,HBX.out.drew 1⟩) (fun hHeld=>?_)
  refine tkI 0 rfl hHeld ?_
  try simp only [Act.put,zS,eZ,eS]
  refine tkI 1 rfl hHeld ?_
  try simp only [Act.put,zS,eZ,eS]
  refine tkI 2 rfl hHeld ?_
  try simp only [Act.put,zS,eZ,eS]
  refine tkH 3 _ (v:=?_) hHeld ?_ ?_;rotate_left
  ·intro w hSw;obtain ⟨y2,yi,_⟩:=hSw;go_simp<;>with_reducible rfl
  try simp only [Act.put,zS,eZ,eS]
  refine tkI 4 rfl hHeld ?_
  try simp only [Act.put,zS,eZ,eS]
  refine tkH 5 _ (v:=?_) hHeld ?_ ?_;rotate_left
  ·intro w hSw;obtain ⟨y2,yi,_⟩:=hSw;go_simp<;>with_reducible rfl
  try simp only [Act.put,zS,eZ,eS]
  refine tkH 6 _ (v:=?_) hHeld ?_ ?_;rotate_left
  ·intro w hSw;obtain ⟨y2,yi,_⟩:=hSw;go_simp<;>with_reducible rfl
  try simp only [Act.put,zS,eZ,eS]
  refine tkI 7 rfl hHeld ?_
  try simp only [Act.put,zS,eZ,eS]
  refine rdy 8 rfl fun K hK=>?_
  go_simp
  refine (KD0.out _ HB1.out).mono ?_
  rintro e wq ⟨rfl,rfl⟩
  clear hHeld;refine hK.out _ _ (⟨z2,hci,HBX.out.drew 1⟩) fun hHeld=>?_
  clear hK K
  try simp only [Act.put,zS,eZ,eS]
  refine tkI 9 rfl hHeld ?_
  try simp only [Act.put,zS,eZ,eS]
  refine wpAnyH_done (by kernel_rfl) ?_ _
  have HS1:=hid (HS.out.below HB1.out)
  have HBX1:Hid (Bx W0.drew bw #[.bool b,.slice ra n0 rc,.slice a1 n1 c1,.slice a2 n2 c2,.int .i64 x,.int .i64 y] 37):=HBX.out.drew 1
  have HKW:Hid (Kept (XS p ⟨.slice sa k sc,.slice ma m mc,.slice (some ⟨gi,0,none⟩) n ic,.slice da n dc,.slice wa n wc⟩) W W0.drew):=(Kept.of_below HB00.out).then_below HB1.out
  have HC1:=hid (HC.out.below HB1.out)
  have hi1:W0.drew.cell? ⟨gi,v,none⟩=some (.int .i64 sq):=hci
  have hz2:W0.drew.cell? ⟨p,2,none⟩=some (.slice (some ⟨gi,0,none⟩) n ic):=z2
  have hg1:gi<W0.drew.heap.size:=hgi0
  have HWV:=hid (Nat.le_trans HB00.out.size HB1.out.size)
  clear HS HBX HB00 HB1 HC hci z2 hgi0 KD0 y0 y1 y2 y3 y4 y5
  clear HW0
  generalize W0.drew=V at *
  clear W0
  have HD:Hid (Sto V.drew p st ⟨.slice sa k sc,.slice ma m mc,.slice (some ⟨gi,0,none⟩) n ic,.slice da n dc,.slice wa n wc⟩):=HS1.out.below (Below.refl _ _).drew
  have hbA:Below V.drew.heap.size V.drew (V.drew.alloc (Obj.cells #[.int .i64 v,.bool b,.slice ra n0 rc,.slice a1 n1 c1,.slice a2 n2 c2,.int .i64 x,.int .i64 y,.int .i64 sq] 105)):=(Below.refl _ _).alloc (Nat.le_refl _) _
  have HA:=hid (HD.out.below hbA)
  obtain ⟨ks,hks,hkr⟩:=HA.out.saved
  have HR:Hid (Rw (V.drew.alloc (Obj.cells #[.int .i64 v,.bool b,.slice ra n0 rc,.slice a1 n1 c1,.slice a2 n2 c2,.int .i64 x,.int .i64 y,.int .i64 sq] 105)) 105 (.slice sa k sc) 8 ks):=hks
  have HKR:Hid (Kr (XS p ⟨.slice sa k sc,.slice ma m mc,.slice (some ⟨gi,0,none⟩) n ic,.slice da n dc,.slice wa n wc⟩) (V.drew.alloc (Obj.cells #[.int .i64 v,.bool b,.slice ra n0 rc,.slice a1 n1 c1,.slice a2 n2 c2,.int .i64 x,.int .i64 y,.int .i64 sq] 105)) ks st.saved):=hkr
  have HML:Hid (ks.length≤100000000):=by rw [Hid,hkr.1];exact HZ.out.2.2
  have HCE:Hid (∀ j u,[.int .i64 v,.bool b,.slice ra n0 rc,.slice a1 n1 c1,.slice a2 n2 c2,.int .i64 x,.int .i64 y,.int .i64 sq][j]? = some u→(V.drew.alloc (Obj.cells #[.int .i64 v,.bool b,.slice ra n0 rc,.slice a1 n1 c1,.slice a2 n2 c2,.int .i64 x,.int .i64 y,.int .i64 sq] 105)).cell? ((⟨V.heap.size,0,none⟩:Addr).add j)=some u):=by
   intro j u hu
   have:=(Bx.new V.drew #[.int .i64 v,.bool b,.slice ra n0 rc,.slice a1 n1 c1,.slice a2 n2 c2,.int .i64 x,.int .i64 y,.int .i64 sq] 105).cell j
   rw [Addr.add_mid,Nat.zero_add]
   simpa using this.trans (by simpa using hu)
  have HXI:Hid (XS p ⟨.slice sa k sc,.slice ma m mc,.slice (some ⟨gi,0,none⟩) n ic,.slice da n dc,.slice wa n wc⟩ gi):=.inr (.inr (.inr (.inl rfl)))
  have HBXA:Hid (Bx (V.drew.alloc (Obj.cells #[.int .i64 v,.bool b,.slice ra n0 rc,.slice a1 n1 c1,.slice a2 n2 c2,.int .i64 x,.int .i64 y,.int .i64 sq] 105)) bw #[.bool b,.slice ra n0 rc,.slice a1 n1 c1,.slice a2 n2 c2,.int .i64 x,.int .i64 y] 37):=(HBX1.out.drew 1).below hbA
  have hiA:(V.drew.alloc (Obj.cells #[.int .i64 v,.bool b,.slice ra n0 rc,.slice a1 n1 c1,.slice a2 n2 c2,.int .i64 x,.int .i64 y,.int .i64 sq] 105)).cell? ⟨gi,v,none⟩=some (.int .i64 sq):=(hbA.cell (p:=⟨gi,v,none⟩) hg1).trans hi1
  have hzA:(V.drew.alloc (Obj.cells #[.int .i64 v,.bool b,.slice ra n0 rc,.slice a1 n1 c1,.slice a2 n2 c2,.int .i64 x,.int .i64 y,.int .i64 sq] 105)).cell? ⟨p,2,none⟩=some (.slice (some ⟨gi,0,none⟩) n ic):=HA.out.cells.2.2.1
  have FA:Hid ((V.drew.alloc (Obj.cells #[.int .i64 v,.bool b,.slice ra n0 rc,.slice a1 n1 c1,.slice a2 n2 c2,.int .i64 x,.int .i64 y,.int .i64 sq] 105)).cell? ⟨p,2,none⟩=some (.slice (some ⟨gi,0,none⟩) n ic)∧(V.drew.alloc (Obj.cells #[.int .i64 v,.bool b,.slice ra n0 rc,.slice a1 n1 c1,.slice a2 n2 c2,.int .i64 x,.int .i64 y,.int .i64 sq] 105)).cell? ⟨gi,v,none⟩=some (.int .i64 sq)∧Bx (V.drew.alloc (Obj.cells #[.int .i64 v,.bool b,.slice ra n0 rc,.slice a1 n1 c1,.slice a2 n2 c2,.int .i64 x,.int .i64 y,.int .i64 sq] 105)) bw #[.bool b,.slice ra n0 rc,.slice a1 n1 c1,.slice a2 n2 c2,.int .i64 x,.int .i64 y] 37):=⟨hzA,hiA,HBXA.out⟩
  have FD:Hid (V.drew.cell? ⟨p,2,none⟩=some (.slice (some ⟨gi,0,none⟩) n ic)∧V.drew.cell? ⟨gi,v,none⟩=some (.int .i64 sq)∧Bx V.drew bw #[.bool b,.slice ra n0 rc,.slice a1 n1 c1,.slice a2 n2 c2,.int .i64 x,.int .i64 y] 37):=⟨hz2,hi1,HBX1.out.drew 1⟩
  have MID:∀ w1,(V.drew.alloc (Obj.cells #[.int .i64 v,.bool b,.slice ra n0 rc,.slice a1 n1 c1,.slice a2 n2 c2,.int .i64 x,.int .i64 y,.int .i64 sq] 105)).grownBy w1 (Value.slice sa k sc).ownBlock→w1.cell? ⟨p,0,none⟩=some (.slice sa k sc)∧w1.frozen? ⟨p,0,none⟩=false∧w1.cell? ⟨p,2,none⟩=some (.slice (some ⟨gi,0,none⟩) n ic)∧w1.cell? ⟨gi,v,none⟩=some (.int .i64 sq)∧Bx w1 bw #[.bool b,.slice ra n0 rc,.slice a1 n1 c1,.slice a2 n2 c2,.int .i64 x,.int .i64 y] 37:=by
   intro w1 hg
   have hp:=(hg.block p HA.out.p_lt (fun e=>HR.out.nep HA.out.blk (by decide) e.symm)).trans HA.out.blk
   exact ⟨cell_of_row w1 p 0 _ _ _ hp,by simp [World.frozen?,hp],cell_of_row w1 p 2 _ _ _ hp,(World.cell?_of_block (a:=⟨gi,v,none⟩) (hg.block gi (Nat.lt_of_lt_of_le hg1 hbA.size) (fun e=>HA.out.since.ne HR.out (by decide) rfl e.symm))).trans hiA,⟨(hg.block bw HBXA.out.lt (fun e=>HR.out.nep HBXA.out.h (by decide) e.symm)).trans HBXA.out.h⟩⟩
  have HPG:Hid (p≠gi):=fun e=>HA.out.since.nep HA.out.blk (by decide) (by rw [e];rfl)
  have HPB:Hid (bw≠p):=ne_typ HBXA.out.h HA.out.blk (by decide)
  have MID2:∀ (w1:World) (u:Value),(w1.cell? ⟨p,2,none⟩=some (.slice (some ⟨gi,0,none⟩) n ic)∧w1.cell? ⟨gi,v,none⟩=some (.int .i64 sq)∧Bx w1 bw #[.bool b,.slice ra n0 rc,.slice a1 n1 c1,.slice a2 n2 c2,.int .i64 x,.int .i64 y] 37)→(w1.setCell ⟨p,0,none⟩ u).cell? ⟨p,2,none⟩=some (.slice (some ⟨gi,0,none⟩) n ic)∧(w1.setCell ⟨p,0,none⟩ u).cell? ⟨gi,v,none⟩=some (.int .i64 sq)∧Bx (w1.setCell ⟨p,0,none⟩ u) bw #[.bool b,.slice ra n0 rc,.slice a1 n1 c1,.slice a2 n2 c2,.int .i64 x,.int .i64 y] 37:=by
   intro w1 u ⟨f1,f2,f3⟩
   exact ⟨(World.cell?_setCell_other _ _ _ _ (by intro e;injection e with _ e _;cases e)).trans f1,(World.cell?_setCell_other _ _ _ _ (by intro e;injection e with e _ _;exact HPG.out e)).trans f2,f3.setc HPB.out _ _⟩
  clear hbA hks hkr hiA hzA
  go_upto_region 2 with (fail)
  refine wp_region_held_drew (S:=fun X:World=>X.cell? ⟨p,2,none⟩=some (.slice (some ⟨gi,0,none⟩) n ic)∧X.cell? ⟨gi,v,none⟩=some (.int .i64 sq)∧Bx X bw #[.bool b,.slice ra n0 rc,.slice a1 n1 c1,.slice a2 n2 c2,.int .i64 x,.int .i64 y] 37) (by kernel_rfl) (⟨hz2,hi1,HBX1.out.drew 1⟩) (fun hHeld=>?_)
  refine tkI 0 rfl hHeld ?_
  try simp only [Act.put,zS,eZ,eS]
  refine tkI 1 rfl hHeld ?_
  try simp only [Act.put,zS,eZ,eS]
  refine tkI 2 rfl hHeld ?_
  try simp only [Act.put,zS,eZ,eS]
  refine tkI 3 rfl hHeld ?_
  try simp only [Act.put,zS,eZ,eS]
  refine tkI 5 rfl hHeld ?_
  try simp only [Act.put,zS,eZ,eS]
  refine tkH 6 ⟨some 22,.load 37 (.tmp 5),37,"trail.go:37",#[],none⟩ (v:=?_) hHeld ?_ ?_;rotate_left
  ·intro w hSw;obtain ⟨y2,yi,yb⟩:=hSw;obtain ⟨q0,q1,q2,q3,q4,q5⟩:=yb.six;go_simp<;>with_reducible rfl
  try simp only [Act.put,zS,eZ,eS]
  refine tkI 7 rfl hHeld ?_
  try simp only [Act.put,zS,eZ,eS]
  refine tkI 8 rfl hHeld ?_
  try simp only [Act.put,zS,eZ,eS]
  refine tkI 9 rfl hHeld ?_
  try simp only [Act.put,zS,eZ,eS]
  refine tkH 10 ⟨some 26,.load 63 (.tmp 25),63,"trail.go:37",#[⟨9,.data⟩],none⟩ (v:=?_) hHeld ?_ ?_;rotate_left
  ·intro w hSw;obtain ⟨y2,yi,yb⟩:=hSw;obtain ⟨q0,q1,q2,q3,q4,q5⟩:=yb.six;go_simp<;>with_reducible rfl
  try simp only [Act.put,zS,eZ,eS]
  refine tkI 11 rfl hHeld ?_
  try simp only [Act.put,zS,eZ,eS]
  refine tkI 12 rfl hHeld ?_
  try simp only [Act.put,zS,eZ,eS]
  refine tkH 13 ⟨some 29,.load 3 (.tmp 28),3,"trail.go:37",#[⟨12,.data⟩],none⟩ (v:=?_) hHeld ?_ ?_;rotate_left
  ·intro w hSw;obtain ⟨y2,yi,yb⟩:=hSw;obtain ⟨q0,q1,q2,q3,q4,q5⟩:=yb.six;go_simp<;>with_reducible rfl
  try simp only [Act.put,zS,eZ,eS]
  refine tkI 14 rfl hHeld ?_
  try simp only [Act.put,zS,eZ,eS]
  refine wpAnyH_ready (rs:=[4,15]) (by kernel_rfl) (by simp) ?_
  refine AllReadyH.cons rfl (fun K hK=>?_) ?_
  ·have z1:V.cell? ⟨p,0,none⟩=some (.slice sa k sc):=HD.out.cells.1
   go_simp
   clear z1
   clear hHeld;refine hK.out _ _ (FD.out) fun hHeld=>?_
   clear hK K
   try simp only [Act.put,zS,eZ,eS]
   refine rdy 15 rfl fun K hK=>?_
   go_simp
   clear hHeld;refine hK.out _ _ (FA.out) fun hHeld=>?_
   clear hK K
   try simp only [Act.put,zS,eZ,eS]
   refine rdy 16 rfl fun K hK=>?_
   refine step_app HR.out 62 Tryz.underlying62 Tryz.infoKept rfl (by decide) rfl _ _ rfl rfl ⟨V.heap.size,0,none⟩ 1 (by with_unfolding_all rfl) [.int .i64 v,.bool b,.slice ra n0 rc,.slice a1 n1 c1,.slice a2 n2 c2,.int .i64 x,.int .i64 y,.int .i64 sq] rfl HCE.out (eight_one _ _ _ _ _ _ _ _ _ _ _ _ _ _) HML.out (by decide) ?_
   intro v1 w1 hr1 hg1 hn1
   obtain ⟨p1,q1,cc1,rfl,HQ1,_⟩:=hr1.look
   have HR1:Hid _:=hr1
   have HG1:Hid _:=hg1
   have HN1:Hid _:=hn1
   clear hr1 hg1 hn1
   have z0:=MID w1 HG1.out
   clear hHeld;refine hK.out _ _ (z0.2.2) fun hHeld=>?_
   clear hK K
   try simp only [Act.put,zS,eZ,eS]
   refine tkI 17 rfl hHeld ?_
   try simp only [Act.put,zS,eZ,eS]
   refine tkI 18 rfl hHeld ?_
   try simp only [Act.put,zS,eZ,eS]
   refine rdy 19 rfl fun K hK=>?_
   have z1:=z0.1
   have z2:=z0.2.1
   go_simp
   clear z1 z2
   clear hHeld;refine hK.out _ _ (MID2 w1 _ z0.2.2) fun hHeld=>?_
   clear hK K
   try simp only [Act.put,zS,eZ,eS]
   refine wpAnyH_done (by kernel_rfl) ?_ _
   have hr1:=HR1.out
   have hgg1:=HG1.out
   have hn1:=HN1.out
   clear z0
   have hu:=up_saved (p:=p) (sl:=⟨.slice sa k sc,.slice ma m mc,.slice (some ⟨gi,0,none⟩) n ic,.slice da n dc,.slice wa n wc⟩) (w:=(V.drew.alloc (Obj.cells #[.int .i64 v,.bool b,.slice ra n0 rc,.slice a1 n1 c1,.slice a2 n2 c2,.int .i64 x,.int .i64 y,.int .i64 sq] 105))) hn1
   have hC1:Dc (XS p ⟨.slice sa k sc,.slice ma m mc,.slice (some ⟨gi,0,none⟩) n ic,.slice da n dc,.slice wa n wc⟩) (V.drew.alloc (Obj.cells #[.int .i64 v,.bool b,.slice ra n0 rc,.slice a1 n1 c1,.slice a2 n2 c2,.int .i64 x,.int .i64 y,.int .i64 sq] 105)) [.bool b,.slice ra n0 rc,.slice a1 n1 c1,.slice a2 n2 c2,.int .i64 x,.int .i64 y] o:=HC1.out.below ((Below.refl _ V).drew.alloc (Nat.le_refl _) _)
   have hkr:=(HKR.out.snoc hC1 v sq).go (kept_saved (p:=p) (sl:=⟨.slice sa k sc,.slice ma m mc,.slice (some ⟨gi,0,none⟩) n ic,.slice da n dc,.slice wa n wc⟩) hgg1) hu
   obtain ⟨f1,f2,f3⟩:=HA.out.set_saved hgg1 hr1 hn1 hkr
   have HS3:Hid (Sto (w1.setCell ⟨p,0,none⟩ (.slice p1 q1 cc1)).drew p { st with saved:=st.saved++[((v:Int),o,sq)] } ⟨.slice p1 q1 cc1,.slice ma m mc,.slice (some ⟨gi,0,none⟩) n ic,.slice da n dc,.slice wa n wc⟩):=f1.below (Below.refl _ _).drew
   have HK3:Hid (Kept (XS p ⟨.slice sa k sc,.slice ma m mc,.slice (some ⟨gi,0,none⟩) n ic,.slice da n dc,.slice wa n wc⟩) W (w1.setCell ⟨p,0,none⟩ (.slice p1 q1 cc1)).drew):=(((HKW.out.then_below (Below.refl _ _).drew).then_below ((Below.refl _ _).alloc (Nat.le_refl _) _)).trans f3 (Up.refl _ _)).then_below (Below.refl _ _).drew
   have HUP:Hid (Up (XS p ⟨.slice sa k sc,.slice ma m mc,.slice (some ⟨gi,0,none⟩) n ic,.slice da n dc,.slice wa n wc⟩) (XS p ⟨.slice p1 q1 cc1,.slice ma m mc,.slice (some ⟨gi,0,none⟩) n ic,.slice da n dc,.slice wa n wc⟩) W):=fun bb hb=>(hu bb hb).elim .inl (fun q=>.inr (by have:=HWV.out;simp at q;omega))
   have hq2:(w1.setCell ⟨p,0,none⟩ (.slice p1 q1 cc1)).drew.cell? ⟨p,2,none⟩=some (.slice (some ⟨gi,0,none⟩) n ic):=HS3.out.cells.2.2.1
   have hvs3:v<({ st with saved:=st.saved++[((v:Int),o,sq)] }:StM).since.length:=HVS.out
   have HTI:Hid ((w1.setCell ⟨p,0,none⟩ (.slice p1 q1 cc1)).drew.cell? ⟨gi,v,none⟩=some (.int .i64 sq)∧(w1.setCell ⟨p,0,none⟩ (.slice p1 q1 cc1)).drew.frozen? ⟨gi,v,none⟩=false):=by
    obtain ⟨g,cp,e1,_,_,_,e5,e6⟩:=HS3.out.since.at (i:=v) (c:=[.int .i64 (st.since.getD v 0)]) (by rw [ivs_get,List.getElem?_eq_getElem HVS.out];simp [List.getD,HVS.out])
    injection e1 with e1 _ _
    injection e1 with e1
    injection e1 with e1 _ _
    subst e1
    rw [Nat.mul_one] at e5 e6
    rw [HSQ.out] at e5
    exact ⟨rng_one e5,there_one e6 (by decide)⟩
   have HP2:Hid (((w1.setCell ⟨p,0,none⟩ (.slice p1 q1 cc1)).drew.setCell ⟨gi,v,none⟩ (.int .i64 m)).cell? ⟨p,2,none⟩=some (.slice (some ⟨gi,0,none⟩) n ic)):=(World.cell?_setCell_other _ _ _ _ (by intro e;injection e with e _ _;exact HPG.out e.symm)).trans hq2
   have HFIN:Hid (Sto ((w1.setCell ⟨p,0,none⟩ (.slice p1 q1 cc1)).drew.setCell ⟨gi,v,none⟩ (.int .i64 m)) p _ ⟨.slice p1 q1 cc1,.slice ma m mc,.slice (some ⟨gi,0,none⟩) n ic,.slice da n dc,.slice wa n wc⟩):=HS3.out.set_since hvs3 rfl m
   have KD:Hid (Calls Tryz.prog 56 #[ptr p] (w1.setCell ⟨p,0,none⟩ (.slice p1 q1 cc1)).drew fun e w'=>e = .returned (.int .i64 m)∧w'=(w1.setCell ⟨p,0,none⟩ (.slice p1 q1 cc1)).drew):=by have:=depth_any HS3.out ⟨HZ.out.1,HZ.out.2.1,by have:=HZS.out;simp;omega⟩;rw [HL.out.2.2] at this;exact this
   clear hr1 hgg1 hn1 hu hC1 hkr f1 f2 f3 HA HR HKR HCE MID MID2 FA FD HD HS1 HBX1 HBXA HC1 HKW hi1 hz2 hg1 HR1 HG1 HN1 hHeld HQ1
   generalize (w1.setCell ⟨p,0,none⟩ (.slice p1 q1 cc1))=zz at *
   clear w1
   go_upto_region 3 with (fail)
   refine wp_region_held_drew (S:=fun X:World=>X.cell? ⟨p,2,none⟩=some (.slice (some ⟨gi,0,none⟩) n ic)) (by kernel_rfl) (hq2) (fun hHeld=>?_)
   refine tkI 0 rfl hHeld ?_
   try simp only [Act.put,zS,eZ,eS]
   refine tkI 1 rfl hHeld ?_
   try simp only [Act.put,zS,eZ,eS]
   refine tkI 2 rfl hHeld ?_
   try simp only [Act.put,zS,eZ,eS]
   refine tkI 3 rfl hHeld ?_
   try simp only [Act.put,zS,eZ,eS]
   refine tkI 4 rfl hHeld ?_
   try simp only [Act.put,zS,eZ,eS]
   refine tkI 5 rfl hHeld ?_
   try simp only [Act.put,zS,eZ,eS]
   refine rdy 6 rfl fun K hK=>?_
   go_simp
   refine KD.out.mono ?_
   rintro e wq ⟨rfl,rfl⟩
   clear hHeld;refine hK.out _ _ (hq2) fun hHeld=>?_
   clear hK K
   try simp only [Act.put,zS,eZ,eS]
   refine tkI 7 rfl hHeld ?_
   try simp only [Act.put,zS,eZ,eS]
   refine rdy 8 rfl fun K hK=>?_
   have zq:=HTI.out.1
   have zf:=HTI.out.2
   go_simp
   clear zq zf
   clear hHeld;refine hK.out _ _ (HP2.out) fun hHeld=>?_
   clear hK K
   try simp only [Act.put,zS,eZ,eS]
   refine wpAnyH_done (by kernel_rfl) ?_ _
   refine ⟨rfl,_,results_none rfl _ _ _,rfl,_,?_,HUP.out,?_⟩
   ·rw [saveM,if_neg HNE.out,HSQ.out,HL.out.2.2]
    exact HFIN.out
   ·exact (HK3.out).setCell HXI.out _ _
  refine AllReadyH.cons rfl (fun K hK=>?_) ?_
  ·go_simp
   clear hHeld;refine hK.out _ _ (FA.out) fun hHeld=>?_
   clear hK K
   try simp only [Act.put,zS,eZ,eS]
   refine rdy 4 rfl fun K hK=>?_
   have z1:(V.alloc (Obj.cells #[.int .i64 v,.bool b,.slice ra n0 rc,.slice a1 n1 c1,.slice a2 n2 c2,.int .i64 x,.int .i64 y,.int .i64 sq] 105)).cell? ⟨p,0,none⟩=some (.slice sa k sc):=HA.out.cells.1
   go_simp
   clear z1
   clear hHeld;refine hK.out _ _ (FA.out) fun hHeld=>?_
   clear hK K
   try simp only [Act.put,zS,eZ,eS]
   refine rdy 16 rfl fun K hK=>?_
   refine step_app HR.out 62 Tryz.underlying62 Tryz.infoKept rfl (by decide) rfl _ _ rfl rfl ⟨V.heap.size,0,none⟩ 1 (by with_unfolding_all rfl) [.int .i64 v,.bool b,.slice ra n0 rc,.slice a1 n1 c1,.slice a2 n2 c2,.int .i64 x,.int .i64 y,.int .i64 sq] rfl HCE.out (eight_one _ _ _ _ _ _ _ _ _ _ _ _ _ _) HML.out (by decide) ?_
   intro v1 w1 hr1 hg1 hn1
   obtain ⟨p1,q1,cc1,rfl,HQ1,_⟩:=hr1.look
   have HR1:Hid _:=hr1
   have HG1:Hid _:=hg1
   have HN1:Hid _:=hn1
   clear hr1 hg1 hn1
   have z0:=MID w1 HG1.out
   clear hHeld;refine hK.out _ _ (z0.2.2) fun hHeld=>?_
   clear hK K
   try simp only [Act.put,zS,eZ,eS]
   refine tkI 17 rfl hHeld ?_
   try simp only [Act.put,zS,eZ,eS]
   refine tkI 18 rfl hHeld ?_
   try simp only [Act.put,zS,eZ,eS]
   refine rdy 19 rfl fun K hK=>?_
   have z1:=z0.1
   have z2:=z0.2.1
   go_simp
   clear z1 z2
   clear hHeld;refine hK.out _ _ (MID2 w1 _ z0.2.2) fun hHeld=>?_
   clear hK K
   try simp only [Act.put,zS,eZ,eS]
   refine wpAnyH_done (by kernel_rfl) ?_ _
   have hr1:=HR1.out
   have hgg1:=HG1.out
   have hn1:=HN1.out
   clear z0
   have hu:=up_saved (p:=p) (sl:=⟨.slice sa k sc,.slice ma m mc,.slice (some ⟨gi,0,none⟩) n ic,.slice da n dc,.slice wa n wc⟩) (w:=(V.drew.alloc (Obj.cells #[.int .i64 v,.bool b,.slice ra n0 rc,.slice a1 n1 c1,.slice a2 n2 c2,.int .i64 x,.int .i64 y,.int .i64 sq] 105))) hn1
   have hC1:Dc (XS p ⟨.slice sa k sc,.slice ma m mc,.slice (some ⟨gi,0,none⟩) n ic,.slice da n dc,.slice wa n wc⟩) (V.drew.alloc (Obj.cells #[.int .i64 v,.bool b,.slice ra n0 rc,.slice a1 n1 c1,.slice a2 n2 c2,.int .i64 x,.int .i64 y,.int .i64 sq] 105)) [.bool b,.slice ra n0 rc,.slice a1 n1 c1,.slice a2 n2 c2,.int .i64 x,.int .i64 y] o:=HC1.out.below ((Below.refl _ V).drew.alloc (Nat.le_refl _) _)
   have hkr:=(HKR.out.snoc hC1 v sq).go (kept_saved (p:=p) (sl:=⟨.slice sa k sc,.slice ma m mc,.slice (some ⟨gi,0,none⟩) n ic,.slice da n dc,.slice wa n wc⟩) hgg1) hu
   obtain ⟨f1,f2,f3⟩:=HA.out.set_saved hgg1 hr1 hn1 hkr
   have HS3:Hid (Sto (w1.setCell ⟨p,0,none⟩ (.slice p1 q1 cc1)).drew p { st with saved:=st.saved++[((v:Int),o,sq)] } ⟨.slice p1 q1 cc1,.slice ma m mc,.slice (some ⟨gi,0,none⟩) n ic,.slice da n dc,.slice wa n wc⟩):=f1.below (Below.refl _ _).drew
   have HK3:Hid (Kept (XS p ⟨.slice sa k sc,.slice ma m mc,.slice (some ⟨gi,0,none⟩) n ic,.slice da n dc,.slice wa n wc⟩) W (w1.setCell ⟨p,0,none⟩ (.slice p1 q1 cc1)).drew):=(((HKW.out.then_below (Below.refl _ _).drew).then_below ((Below.refl _ _).alloc (Nat.le_refl _) _)).trans f3 (Up.refl _ _)).then_below (Below.refl _ _).drew
   have HUP:Hid (Up (XS p ⟨.slice sa k sc,.slice ma m mc,.slice (some ⟨gi,0,none⟩) n ic,.slice da n dc,.slice wa n wc⟩) (XS p ⟨.slice p1 q1 cc1,.slice ma m mc,.slice (some ⟨gi,0,none⟩) n ic,.slice da n dc,.slice wa n wc⟩) W):=fun bb hb=>(hu bb hb).elim .inl (fun q=>.inr (by have:=HWV.out;simp at q;omega))
   have hq2:(w1.setCell ⟨p,0,none⟩ (.slice p1 q1 cc1)).drew.cell? ⟨p,2,none⟩=some (.slice (some ⟨gi,0,none⟩) n ic):=HS3.out.cells.2.2.1
   have hvs3:v<({ st with saved:=st.saved++[((v:Int),o,sq)] }:StM).since.length:=HVS.out
   have HTI:Hid ((w1.setCell ⟨p,0,none⟩ (.slice p1 q1 cc1)).drew.cell? ⟨gi,v,none⟩=some (.int .i64 sq)∧(w1.setCell ⟨p,0,none⟩ (.slice p1 q1 cc1)).drew.frozen? ⟨gi,v,none⟩=false):=by
    obtain ⟨g,cp,e1,_,_,_,e5,e6⟩:=HS3.out.since.at (i:=v) (c:=[.int .i64 (st.since.getD v 0)]) (by rw [ivs_get,List.getElem?_eq_getElem HVS.out];simp [List.getD,HVS.out])
    injection e1 with e1 _ _
    injection e1 with e1
    injection e1 with e1 _ _
    subst e1
    rw [Nat.mul_one] at e5 e6
    rw [HSQ.out] at e5
    exact ⟨rng_one e5,there_one e6 (by decide)⟩
   have HP2:Hid (((w1.setCell ⟨p,0,none⟩ (.slice p1 q1 cc1)).drew.setCell ⟨gi,v,none⟩ (.int .i64 m)).cell? ⟨p,2,none⟩=some (.slice (some ⟨gi,0,none⟩) n ic)):=(World.cell?_setCell_other _ _ _ _ (by intro e;injection e with e _ _;exact HPG.out e.symm)).trans hq2
   have HFIN:Hid (Sto ((w1.setCell ⟨p,0,none⟩ (.slice p1 q1 cc1)).drew.setCell ⟨gi,v,none⟩ (.int .i64 m)) p _ ⟨.slice p1 q1 cc1,.slice ma m mc,.slice (some ⟨gi,0,none⟩) n ic,.slice da n dc,.slice wa n wc⟩):=HS3.out.set_since hvs3 rfl m
   have KD:Hid (Calls Tryz.prog 56 #[ptr p] (w1.setCell ⟨p,0,none⟩ (.slice p1 q1 cc1)).drew fun e w'=>e = .returned (.int .i64 m)∧w'=(w1.setCell ⟨p,0,none⟩ (.slice p1 q1 cc1)).drew):=by have:=depth_any HS3.out ⟨HZ.out.1,HZ.out.2.1,by have:=HZS.out;simp;omega⟩;rw [HL.out.2.2] at this;exact this
   clear hr1 hgg1 hn1 hu hC1 hkr f1 f2 f3 HA HR HKR HCE MID MID2 FA FD HD HS1 HBX1 HBXA HC1 HKW hi1 hz2 hg1 HR1 HG1 HN1 hHeld HQ1
   generalize (w1.setCell ⟨p,0,none⟩ (.slice p1 q1 cc1))=zz at *
   clear w1
   go_upto_region 3 with (fail)
   refine wp_region_held_drew (S:=fun X:World=>X.cell? ⟨p,2,none⟩=some (.slice (some ⟨gi,0,none⟩) n ic)) (by kernel_rfl) (hq2) (fun hHeld=>?_)
   refine tkI 0 rfl hHeld ?_
   try simp only [Act.put,zS,eZ,eS]
   refine tkI 1 rfl hHeld ?_
   try simp only [Act.put,zS,eZ,eS]
   refine tkI 2 rfl hHeld ?_
   try simp only [Act.put,zS,eZ,eS]
   refine tkI 3 rfl hHeld ?_
   try simp only [Act.put,zS,eZ,eS]
   refine tkI 4 rfl hHeld ?_
   try simp only [Act.put,zS,eZ,eS]
   refine tkI 5 rfl hHeld ?_
   try simp only [Act.put,zS,eZ,eS]
   refine rdy 6 rfl fun K hK=>?_
   go_simp
   refine KD.out.mono ?_
   rintro e wq ⟨rfl,rfl⟩
   clear hHeld;refine hK.out _ _ (hq2) fun hHeld=>?_
   clear hK K
   try simp only [Act.put,zS,eZ,eS]
   refine tkI 7 rfl hHeld ?_
   try simp only [Act.put,zS,eZ,eS]
   refine rdy 8 rfl fun K hK=>?_
   have zq:=HTI.out.1
   have zf:=HTI.out.2
   go_simp
   clear zq zf
   clear hHeld;refine hK.out _ _ (HP2.out) fun hHeld=>?_
   clear hK K
   try simp only [Act.put,zS,eZ,eS]
   refine wpAnyH_done (by kernel_rfl) ?_ _
   refine ⟨rfl,_,results_none rfl _ _ _,rfl,_,?_,HUP.out,?_⟩
   ·rw [saveM,if_neg HNE.out,HSQ.out,HL.out.2.2]
    exact HFIN.out
   ·exact (HK3.out).setCell HXI.out _ _
  exact AllReadyH.nil
theorem saveM_D (st:StM) (v:Nat) (o:MD):(saveM st v o).D=st.D∧(saveM st v o).e=st.e∧(saveM st v o).why=st.why∧(saveM st v o).marks=st.marks∧(saveM st v o).saved.length≤st.saved.length+1:=by
 unfold saveM
 split
 ·exact ⟨rfl,rfl,rfl,rfl,by omega⟩
 ·exact ⟨rfl,rfl,rfl,rfl,by simp⟩
def putM (st:StM) (v:Nat) (o nx:MD):StM:={ st with e:=st.e+(emptI (emptyW nx)-emptI (emptyW o)),D:=st.D.set v nx }
def narrowM (st:StM) (v:Nat) (o nx:MD) (chg:Int):StM:=if emptyW nx then putM (saveM st v o) v o nx else { putM (saveM st v o) v o nx with why:=tellM (saveM st v o).why v chg }
theorem wp_ways2 {P:Program} {c:Code} {K:Act→World→Prop} {Q:Exit→Act→World→Prop} {a:Act} {w:World} {act:Nat→List Value→Act} (R:Nat→List Value→World→Prop) (h:c.wp P (Exit.then (fun a' w'=>∃ n q,a'=act n q∧R n q w') (fun _ _ _=>False)) a w) (hK:∀ n q w',R n q w'→K (act n q) w'):c.wp P (Exit.then K Q) a w :=
 Code.wp_mono (fun e b x q=>by
  cases e with
  | normal =>
   have q':∃ n q,b=act n q∧R n q x:=q
   obtain ⟨n,q,e1,q2⟩:=q'
   rw [e1]
   exact hK _ _ _ q2
  | _=>exact (q:False).elim) h
theorem run_clear_many {P:Program} (w:World) (t e ty:TypeId) (z:Value) (ht:P.underlying t=some (.slice e)) (hv:∀ w,(zeroValue e).run P w = .ok z w) (h1:∀ v∈z.cells.toList,v.oneCell'=true) (b o n c:Nat) (hn:0<n)
  (hc:∀ j,j<n*z.cells.size→(w.cell? ⟨b,o+j,none⟩).isSome=true) (hf:∀ j,j<n*z.cells.size→w.frozen? ⟨b,o+j,none⟩=false) :
  (Builtin.clear_ #[t] ty #[.slice (some ⟨b,o,none⟩) n c]).run P w = .ok (.tuple #[]) (w.setCells b o (Builtin.zeroCells z.cells n).toList):=by
 have hl:(Builtin.zeroCells z.cells n).toList.length=n*z.cells.size:=by rw [Array.length_toList,size_zeroCells]
 have hst:=run_storeCells_cells (P:=P) b o (Builtin.zeroCells z.cells n).toList 0 w (by rw [hl];simpa using hc) (by rw [hl];simpa using hf) (by
  intro v hv'
  simp [Builtin.zeroCells] at hv'
  obtain ⟨a,ha,rfl⟩:=hv'
  rcases Nat.eq_zero_or_pos z.cells.size with e | e
  ·rw [e] at ha;simp at ha
  ·have hlt:a % z.cells.size<z.cells.size:=Nat.mod_lt _ e
   have hm:z.cells[a % z.cells.size]∈z.cells.toList:=by simp
   simpa [hlt] using h1 _ hm)
 simp only [Nat.add_zero] at hst
 obtain ⟨m,rfl⟩:∃ m,n=m+1:=⟨n-1,by omega⟩
 simp [Builtin.clear_,run_underlying ht,hv,hst]
theorem zero_kept (w:World):(zeroValue 105).run Tryz.prog w = .ok (.agg #[.int .i64 0,.bool false,.slice none 0 0,.slice none 0 0,.slice none 0 0,.int .i64 0,.int .i64 0,.int .i64 0]) w:=Tryz.zeroValue105 w
theorem rng8 {w:World} {g o:Nat} {x0 x1 x2 x3 x4 x5 x6 x7:Value} (h:w.rangeAt g o [x0,x1,x2,x3,x4,x5,x6,x7]) :
  w.cell? ⟨g,o,none⟩=some x0∧w.cell? ⟨g,o+1,none⟩=some x1∧w.cell? ⟨g,o+2,none⟩=some x2∧w.cell? ⟨g,o+3,none⟩=some x3∧w.cell? ⟨g,o+4,none⟩=some x4∧w.cell? ⟨g,o+5,none⟩=some x5∧w.cell? ⟨g,o+6,none⟩=some x6∧w.cell? ⟨g,o+7,none⟩=some x7 :=
 ⟨by simpa using h 0 x0 rfl,h 1 x1 rfl,h 2 x2 rfl,h 3 x3 rfl,h 4 x4 rfl,h 5 x5 rfl,h 6 x6 rfl,h 7 x7 rfl⟩
theorem Sto.saved_at [Gh] {w:World} {p:Nat} {st:StM} {sl:Sl} (h:Sto w p st sl) {i:Nat} {q:Int × MD × Int} (hd:st.saved[i]? = some q):∃ g cap c,sl.sv = .slice (some ⟨g,0,none⟩) st.saved.length cap∧g<w.heap.size∧st.saved.length≤cap∧cap≤9223372036854775807∧w.rangeAt g (i*8) (kcell q.1 c q.2.2)∧Dc (XS p sl) w c q.2.1:=by
 obtain ⟨ks,hr,hkr⟩:=h.saved
 have hv:i<ks.length:=by rw [hkr.1];exact (List.getElem?_eq_some_iff.1 hd).1
 obtain ⟨g,cap,e1,e2,e3,e4,e5,e6⟩:=hr.at (List.getElem?_eq_getElem hv)
 unfold maxLen at e4
 rw [hkr.1] at e1 e3
 obtain ⟨c,ec,hc⟩:=hkr.2 i _ q (List.getElem?_eq_getElem hv) hd
 rw [ec] at e5
 exact ⟨g,cap,c,e1,e2,e3,by omega,e5,hc⟩
theorem Rw.tail {w:World} {t:TypeId} {k m cap g:Nat} {vs:List (List Value)} (h:Rw w t (.slice (some ⟨g,0,none⟩) m cap) k vs) (o:Nat) (l:List Value) (ho:vs.length*k≤o) (hl:o+l.length≤cap*k):Rw (w.setCells g o l) t (.slice (some ⟨g,0,none⟩) m cap) k vs:=by
 rcases h.2.2 with ⟨e1,e2⟩ | ⟨g',cap',cur,e1,e0,hg,hn,hm,hsz,ht⟩
 ·cases e1
 ·injection e1 with e1 e2 e3
  injection e1 with e1
  injection e1 with e1 _ _
  subst e1 e3
  refine ⟨h.1,h.2.1,.inr ⟨g,cap,wr cur o l,by rw [e2],e0,heap_setCells l o hg (by omega),hn,hm,by rw [wr_size];exact hsz,?_⟩⟩
  rw [←ht]
  apply List.ext_getElem?
  intro j
  rw [List.getElem?_take,List.getElem?_take]
  by_cases hj:j<vs.length*k
  ·rw [if_pos hj,if_pos hj,wr_get l cur o j (by omega),if_neg (by omega)]
  ·rw [if_neg hj,if_neg hj]
theorem grown_cells (w:World) (g o:Nat) (vs:List Value):w.grownBy (w.setCells g o vs) (some g):=by
 have k:Kept (fun b=>b=g) w (w.setCells g o vs):=Kept.many rfl
 exact ⟨k.os,k.tape,k.output,k.size,fun b hb hx=>k.block b hb (fun e=>hx (by rw [e]))⟩
theorem grown_refl (w:World) (r:Option Nat):w.grownBy w r:=⟨rfl,rfl,rfl,Nat.le_refl _,fun _ _ _=>rfl⟩
theorem Kr.take {X:Nat→Prop} {w:World} {ks:List (List Value)} {S:List (Int × MD × Int)} (h:Kr X w ks S) (f:Nat):Kr X w (ks.take f) (S.take f):=by
 refine ⟨by simp [h.1],fun i kc t h1 h2=>?_⟩
 rw [List.getElem?_take] at h1 h2
 split at h1
 ·rename_i hi
  rw [if_pos hi] at h2
  exact h.2 i kc t h1 h2
 ·cases h1
theorem Sto.cut [Gh] {w:World} {p gk gm f kf mn sc mc:Nat} {st:StM} {sl:Sl} (h:Sto w p st sl) (hsv:sl.sv = .slice (some ⟨gk,0,none⟩) (f+kf) sc) (hmv:sl.mv = .slice (some ⟨gm,0,none⟩) (mn+1) mc) (hk:f+kf=st.saved.length) (ms:List Int) (x:Int) (hms:st.marks=ms++[x]) (hmn:ms.length=mn) (Z:List Value) (hZ:Z.length=kf*8) (hsc:f+kf≤sc) :
  Sto (((w.setCells gk (f*8) Z).setCell ⟨p,0,none⟩ (.slice (some ⟨gk,0,none⟩) f sc)).setCell ⟨p,1,none⟩ (.slice (some ⟨gm,0,none⟩) mn mc)) p { st with saved:=st.saved.take f,marks:=ms } { sl with sv:=.slice (some ⟨gk,0,none⟩) f sc,mv:=.slice (some ⟨gm,0,none⟩) mn mc } ∧
  Up (XS p sl) (XS p { sl with sv:=.slice (some ⟨gk,0,none⟩) f sc,mv:=.slice (some ⟨gm,0,none⟩) mn mc }) w∧Kept (XS p sl) w (((w.setCells gk (f*8) Z).setCell ⟨p,0,none⟩ (.slice (some ⟨gk,0,none⟩) f sc)).setCell ⟨p,1,none⟩ (.slice (some ⟨gm,0,none⟩) mn mc)):=by
 obtain ⟨ks,hs,hkr⟩:=h.saved
 have hsg:sl.sv.ownBlock=some gk:=by rw [hsv];rfl
 have hlt:(ks.take f).length=f:=by rw [List.length_take,hkr.1];omega
 rw [hsv] at hs
 have r1:=(hs.cut (m:=f) (by rw [hkr.1];omega)).tail (f*8) Z (by rw [hlt];exact Nat.le_refl _) (by rw [hZ];have:=Nat.mul_le_mul_right 8 hsc;rw [Nat.add_mul] at this;exact this)
 have g1:w.grownBy (w.setCells gk (f*8) Z) sl.sv.ownBlock:=by rw [hsg];exact grown_cells _ _ _ _
 have hn1:∀ b,(Value.slice (some ⟨gk,0,none⟩) f sc).ownBlock=some b→sl.sv.ownBlock=some b∨w.heap.size≤b:=fun b hb=>.inl (by rw [hsg];exact hb)
 have u1:=up_saved (p:=p) hn1
 have k1:Kept (XS p sl) w (w.setCells gk (f*8) Z):=kept_saved g1
 obtain ⟨f1,f2,f3⟩:=h.set_saved g1 r1 hn1 ((hkr.take f).go k1 u1)
 have r2:=f1.marks
 simp only at r2
 rw [hmv] at r2
 have hlm:(ivs st.marks).length=mn+1:=by rw [ivs_len,hms];simp [hmn]
 have r3:=r2.cut (m:=mn) (by omega)
 have e3:(ivs st.marks).take mn=ivs ms:=by rw [hms,ivs_snoc,←hmn];simp [ivs_len,ivs]
 rw [e3] at r3
 have hmg:sl.mv.ownBlock=some gm:=by rw [hmv];rfl
 obtain ⟨q1,q2,q3⟩:=f1.set_marks (mv':=.slice (some ⟨gm,0,none⟩) mn mc) (M':=ms) (grown_refl _ _) r3 (fun b hb=>.inl (by show sl.mv.ownBlock=_;rw [hmg];exact hb))
 refine ⟨q1,fun b hb=>?_,f3.trans q3 f2⟩
 rcases q2 b hb with q | q
 ·exact f2 b q
 ·exact .inr (Nat.le_trans f3.size q)
theorem value_any [Gh] {W:World} {p:Nat} {st:StM} {sl:Sl} (h:Sto W p st sl) (hz:Sz st) (v:Nat) {o:MD} (hv:st.D[v]? = some o) (hs:o.set=false) (hf:Dm.FitsR o.r) :
  Calls Tryz.prog 35 #[ptr p,.int .i64 v] W fun e w'=>e = .returned (.tuple #[.agg #[.bool false,.int .i64 (onlyW o).1,.slice none 0 0],.bool (onlyW o).2])∧Below W.heap.size W w':=by
 have hvl:v<st.D.length:=(List.getElem?_eq_some_iff.1 hv).1
 obtain ⟨W0,hW0⟩:∃ Q,W.alloc (Obj.cells #[.bool false,.int .i64 0,.slice none 0 0] 57)=Q:=⟨_,rfl⟩
 have hb0:Below W.heap.size W W0:=by rw [←hW0];exact (Below.refl _ W).alloc (Nat.le_refl _) _
 obtain ⟨bv,hbv⟩:∃ q,W.heap.size=q:=⟨_,rfl⟩
 have HBV:Hid (Bx W0 bv #[.bool false,.int .i64 0,.slice none 0 0] 57):=by rw [←hW0];exact Bx.new' hbv _ _
 have h0:=h.below hb0
 obtain ⟨n,k,m,sa,sc,ma,mc,ia,ic,da,dc,wa,wc,rfl,HL⟩:=h.look
 obtain ⟨gd,cap,c',e1,hgd,hcap,hcm,hr,hth,hco⟩:=h0.dom_at hv
 injection e1 with e1 e2 e3
 subst e1 e3
 clear e2
 have hvn:v<n:=by rw [←HL.out.1];exact hvl
 obtain ⟨b',ra',n0',rc',a1',n1',c1',a2',n2',c2',x',y',rfl,HE',H1',H2',H3'⟩:=hco.look
 obtain rfl:b'=false:=by rw [←HE'.out.1,hs]
 have kt:=there_any h0 hz v
 have htb:thereB st v=true:=by unfold thereB;simp;exact hvl
 rw [htb] at kt
 have ko:=only_w hco hs hf
 obtain ⟨z0,z1,z2,z3,z4,z5,zf⟩:=h0.cells
 simp only at z3
 obtain ⟨u0,u1,u2,u3,u4,u5⟩:=rng6 hr
 have hcapn:n≤dc:=by rw [←HL.out.1];exact hcap
 have hvi:(v:Int)<n:=by omega
 have HW0:Hid _:=hW0
 have HBW:Hid (W.heap.size=bv):=hbv
 have HB0:Hid (Below W.heap.size W W0):=hb0
 clear hW0 hbv hb0 h h0 hv hs hf hr hth hco htb z0 z1 z2 z4 z5 zf hgd hcap hvl H1' H2' H3' HE' hz
 generalize onlyW o=ow at *
 obtain ⟨o1,o2⟩:=ow
 go_enter Tryz.func35,Tryz.ntmps35
 go_wp2_with fail
 rw [HW0.out]
 refine kt.mono ?_
 clear kt
 rintro e wt ⟨rfl,hwt⟩
 rw [hwt]
 clear hwt wt
 go_wp2_with fail
 (try rw [HW0.out])
 (try rw [HBW.out])
 refine ko.mono ?_
 clear ko
 rintro e w1 ⟨rfl,hb1⟩
 have HB1:Hid (Bx w1 bv #[.bool false,.int .i64 0,.slice none 0 0] 57):=HBV.out.below hb1
 have HBb:Hid (Below W.heap.size W w1):=HB0.out.trans (hb1.mono HB0.out.size)
 clear hb1 z3 u0 u1 u2 u3 u4 u5
 go_wp2_with (with_reducible refine stV rfl (.tmp 4) (.tmp 19) rfl bv false o1 none 0 0 (by with_unfolding_all rfl) (by with_unfolding_all rfl) HB1.out rfl ?_)
 exact ⟨rfl,_,res_ct rfl _ (HB1.out.setRow _) (by with_unfolding_all rfl) rfl Tryz.underlying57 (by rw [Tryz.sizeVal];rfl) (v:=.bool o2) (by with_unfolding_all rfl),rfl,below_row HBb.out (by have:=HBW.out;omega) _⟩
theorem Below.kept0 {W w':World} (h:Below W.heap.size W w'):Kept (fun _=>False) W w':=⟨h.os,h.tape,h.output,h.size,fun b hb _=>h.block b hb⟩
end Go.Proofs.YtghnfnieppfhgaaGreat
