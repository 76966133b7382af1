/- What is proved here: domains and rows in memory: how they read, and what a store into a row leaves. What is proved here: a store in memory: how it reads, and what each of its stores leaves. What is proved here: what package kinds answers of domains of whole numbers. What is proved here: what package kinds and store answer of domains of whole numbers: empty, what is in both. What is proved here: what package store makes of domains of whole numbers: narrower, tight, Same, Only. What is proved here: cells of a box that are read and written. What is proved here: what a store answers of itself: Len, there, Failed, depth; tell. What is proved here: One of two domains of whole numbers that are alike; SameVal of none. What is proved here: what a store that is not there answers. -/
import Derived.Test.YtghnfnieppfhgaaGreatZEfj
import Derived.Test.YtghnfnieppfhgaaGreatZXdj
import Derived.Deep.MidRow
set_option linter.unusedVariables false
set_option linter.unusedSimpArgs false
set_option maxRecDepth 100000
set_option maxHeartbeats 4000000
namespace Go.Proofs.YtghnfnieppfhgaaGreat
open Go.RowKit Go.Shelf
structure MD where
 set:Bool
 r:List Dm.Rg
 lo:List Int
 up:List Int
 least:Int
 most:Int
structure Kept (X : Nat → Prop) (w w' : World) : Prop where
 os:w'.os=w.os
 tape:w'.tape=w.tape
 output:w'.output=w.output
 size:w.heap.size≤w'.heap.size
 block:∀ b,b<w.heap.size→¬X b→w'.heap[b]? = w.heap[b]?
theorem Kept.refl (X:Nat→Prop) (w:World):Kept X w w:=⟨rfl,rfl,rfl,Nat.le_refl _,fun _ _ _=>rfl⟩
def Up (X X':Nat→Prop) (w:World):Prop:=∀ b,X' b→X b∨w.heap.size≤b
theorem Up.refl (X:Nat→Prop) (w:World):Up X X w:=fun _ h=>.inl h
theorem Kept.trans {X Y:Nat→Prop} {a b c:World} (h:Kept X a b) (k:Kept Y b c) (u:Up X Y a):Kept X a c :=
 ⟨k.os.trans h.os,k.tape.trans h.tape,k.output.trans h.output,Nat.le_trans h.size k.size,fun n hn hX =>
  (k.block n (Nat.lt_of_lt_of_le hn h.size) (fun hY=>(u n hY).elim hX (fun q=>by omega))).trans (h.block n hn hX)⟩
theorem Kept.of_below {X:Nat→Prop} {w w':World} (h:Below w.heap.size w w'):Kept X w w':=⟨h.os,h.tape,h.output,h.size,fun b hb _=>h.block b hb⟩
theorem Kept.below {X:Nat→Prop} {w w':World} (h:Kept X w w') {B:Nat} (hB:B≤w.heap.size) (hX:∀ b,X b→B≤b):Below B w w' :=
 ⟨h.os,h.tape,h.output,h.size,fun b hb=>h.block b (by omega) (fun q=>by have:=hX b q;omega)⟩
theorem Kept.cell {X:Nat→Prop} {w w':World} (h:Kept X w w') {b:Nat} (hb:b<w.heap.size) (hX:¬X b) (o:Nat):w'.cell? ⟨b,o,none⟩=w.cell? ⟨b,o,none⟩:=World.cell?_of_block (a:=⟨b,o,none⟩) (h.block b hb hX)
theorem Kept.setCell {X:Nat→Prop} {a w:World} (h:Kept X a w) {g:Nat} (hX:X g) (o:Nat) (v:Value):Kept X a (w.setCell ⟨g,o,none⟩ v) :=
 ⟨h.os,h.tape,h.output,by simpa [World.setCell] using h.size,fun b hb hx=>(Below.heap_setCell w ⟨g,o,none⟩ v b (fun e=>hx (by rw [e];exact hX))).trans (h.block b hb hx)⟩
theorem Kept.setCells {X:Nat→Prop} {a:World} {g:Nat} (hX:X g):∀ (vs:List Value) (o:Nat) {w:World},Kept X a w→Kept X a (w.setCells g o vs)
 | [],_,_,h=>h
 | v :: r,o,_,h=>Kept.setCells hX r (o+1) (h.setCell hX o v)
theorem Kept.then_below {X:Nat→Prop} {a w w':World} (h:Kept X a w) (hb:Below w.heap.size w w'):Kept X a w' :=
 ⟨hb.os.trans h.os,hb.tape.trans h.tape,hb.output.trans h.output,Nat.le_trans h.size hb.size,fun b q hx=>(hb.block b (Nat.lt_of_lt_of_le q h.size)).trans (h.block b q hx)⟩
def Nm (X:Nat→Prop) (w:World) (s:Value) (l:List Int):Prop :=
 ∃ a c,s = .slice a l.length c∧(0<l.length→∃ b off,a=some ⟨b,off,none⟩∧b<w.heap.size∧¬X b∧∀ i x,l[i]? = some x→w.cell? ⟨b,off+i,none⟩=some (.int .i64 x))
def Rm (X:Nat→Prop) (w:World) (s:Value) (l:List Dm.Rg):Prop :=
 ∃ a c,s = .slice a l.length c∧(0<l.length→∃ b off,a=some ⟨b,off,none⟩∧b<w.heap.size∧¬X b∧∀ i,i<l.length→w.cell? ⟨b,off+i*2,none⟩=some (.int .i64 (Dm.lo l i))∧w.cell? ⟨b,off+i*2+1,none⟩=some (.int .i64 (Dm.hi l i)))
theorem Nm.kept {X:Nat→Prop} {w w':World} {s:Value} {l:List Int} (h:Nm X w s l) (k:Kept X w w'):Nm X w' s l:=by
 obtain ⟨a,c,e,h⟩:=h
 refine ⟨a,c,e,fun h0=>?_⟩
 obtain ⟨b,off,e1,e2,e3,e4⟩:=h h0
 exact ⟨b,off,e1,Nat.lt_of_lt_of_le e2 k.size,e3,fun i x hx=>(k.cell e2 e3 _).trans (e4 i x hx)⟩
theorem Rm.kept {X:Nat→Prop} {w w':World} {s:Value} {l:List Dm.Rg} (h:Rm X w s l) (k:Kept X w w'):Rm X w' s l:=by
 obtain ⟨a,c,e,h⟩:=h
 refine ⟨a,c,e,fun h0=>?_⟩
 obtain ⟨b,off,e1,e2,e3,e4⟩:=h h0
 exact ⟨b,off,e1,Nat.lt_of_lt_of_le e2 k.size,e3,fun i hi=>⟨(k.cell e2 e3 _).trans (e4 i hi).1,(k.cell e2 e3 _).trans (e4 i hi).2⟩⟩
theorem Nm.up {X X':Nat→Prop} {w:World} {s:Value} {l:List Int} (h:Nm X w s l) (u:Up X X' w):Nm X' w s l:=by
 obtain ⟨a,c,e,h⟩:=h
 refine ⟨a,c,e,fun h0=>?_⟩
 obtain ⟨b,off,e1,e2,e3,e4⟩:=h h0
 exact ⟨b,off,e1,e2,fun q=>(u b q).elim e3 (fun q=>by omega),e4⟩
theorem Rm.up {X X':Nat→Prop} {w:World} {s:Value} {l:List Dm.Rg} (h:Rm X w s l) (u:Up X X' w):Rm X' w s l:=by
 obtain ⟨a,c,e,h⟩:=h
 refine ⟨a,c,e,fun h0=>?_⟩
 obtain ⟨b,off,e1,e2,e3,e4⟩:=h h0
 exact ⟨b,off,e1,e2,fun q=>(u b q).elim e3 (fun q=>by omega),e4⟩
theorem Nm.go {X X':Nat→Prop} {w w':World} {s:Value} {l:List Int} (h:Nm X w s l) (k:Kept X w w') (u:Up X X' w):Nm X' w' s l:=by
 obtain ⟨a,c,e,h⟩:=h
 refine ⟨a,c,e,fun h0=>?_⟩
 obtain ⟨b,off,e1,e2,e3,e4⟩:=h h0
 exact ⟨b,off,e1,Nat.lt_of_lt_of_le e2 k.size,fun q=>(u b q).elim e3 (fun q=>by omega),fun i x hx=>(k.cell e2 e3 _).trans (e4 i x hx)⟩
theorem Rm.go {X X':Nat→Prop} {w w':World} {s:Value} {l:List Dm.Rg} (h:Rm X w s l) (k:Kept X w w') (u:Up X X' w):Rm X' w' s l:=by
 obtain ⟨a,c,e,h⟩:=h
 refine ⟨a,c,e,fun h0=>?_⟩
 obtain ⟨b,off,e1,e2,e3,e4⟩:=h h0
 exact ⟨b,off,e1,Nat.lt_of_lt_of_le e2 k.size,fun q=>(u b q).elim e3 (fun q=>by omega),fun i hi=>⟨(k.cell e2 e3 _).trans (e4 i hi).1,(k.cell e2 e3 _).trans (e4 i hi).2⟩⟩
theorem Rm.sr {X:Nat→Prop} {w:World} {s:Value} {l:List Dm.Rg} (h:Rm X w s l):Dm.Sr w s l:=by
 obtain ⟨a,c,e,h⟩:=h
 refine ⟨a,c,e,fun h0=>?_⟩
 obtain ⟨b,off,e1,e2,e3,e4⟩:=h h0
 exact ⟨b,off,e1,e2,e4⟩
def Dc (X:Nat→Prop) (w:World) (c:List Value) (d:MD):Prop :=
 ∃ ra rc a1 c1 a2 c2,c=[.bool d.set,.slice ra d.r.length rc,.slice a1 d.lo.length c1,.slice a2 d.up.length c2,.int .i64 d.least,.int .i64 d.most]∧Rm X w (.slice ra d.r.length rc) d.r∧Nm X w (.slice a1 d.lo.length c1) d.lo∧Nm X w (.slice a2 d.up.length c2) d.up
theorem Dc.kept {X:Nat→Prop} {w w':World} {c:List Value} {d:MD} (h:Dc X w c d) (k:Kept X w w'):Dc X w' c d:=by
 obtain ⟨ra,rc,a1,c1,a2,c2,e,h1,h2,h3⟩:=h
 exact ⟨ra,rc,a1,c1,a2,c2,e,h1.kept k,h2.kept k,h3.kept k⟩
theorem Dc.up {X X':Nat→Prop} {w:World} {c:List Value} {d:MD} (h:Dc X w c d) (u:Up X X' w):Dc X' w c d:=by
 obtain ⟨ra,rc,a1,c1,a2,c2,e,h1,h2,h3⟩:=h
 exact ⟨ra,rc,a1,c1,a2,c2,e,h1.up u,h2.up u,h3.up u⟩
theorem Dc.go {X X':Nat→Prop} {w w':World} {c:List Value} {d:MD} (h:Dc X w c d) (k:Kept X w w') (u:Up X X' w):Dc X' w' c d:=by
 obtain ⟨ra,rc,a1,c1,a2,c2,e,h1,h2,h3⟩:=h
 exact ⟨ra,rc,a1,c1,a2,c2,e,h1.go k u,h2.go k u,h3.go k u⟩
theorem Dc.below {X:Nat→Prop} {w w':World} {c:List Value} {d:MD} (h:Dc X w c d) (k:Below w.heap.size w w'):Dc X w' c d:=h.kept (Kept.of_below k)
theorem Dc.len {X:Nat→Prop} {w:World} {c:List Value} {d:MD} (h:Dc X w c d):c.length=6:=by
 obtain ⟨ra,rc,a1,c1,a2,c2,rfl,_⟩:=h;rfl
theorem Dc.one {X:Nat→Prop} {w:World} {c:List Value} {d:MD} (h:Dc X w c d):∀ v∈c,v.oneCell'=true:=by
 obtain ⟨ra,rc,a1,c1,a2,c2,rfl,_⟩:=h
 intro v hv
 simp at hv
 rcases hv with rfl | rfl | rfl | rfl | rfl | rfl<;>rfl
def wr:Array Value→Nat→List Value→Array Value
 | cur,_,[]=>cur
 | cur,o,v :: r=>wr (cur.setIfInBounds o v) (o+1) r
theorem wr_size:∀ (l:List Value) (cur:Array Value) (o:Nat),(wr cur o l).size=cur.size
 | [],_,_=>rfl
 | v :: r,cur,o=>by rw [wr,wr_size r];simp
theorem wr_get:∀ (l:List Value) (cur:Array Value) (o j:Nat),o+l.length≤cur.size→(wr cur o l).toList[j]? = if o≤j∧j<o+l.length then l[j-o]? else cur.toList[j]?
 | [],cur,o,j,h=>by rw [wr,if_neg (by simp)]
 | v :: r,cur,o,j,h=>by
  have h':o+(r.length+1)≤cur.size:=h
  rw [wr,wr_get r _ (o+1) j (by simp;omega)]
  by_cases h1:o+1≤j∧j<o+1+r.length
  ·rw [if_pos h1,if_pos (by simp;omega),show j-o=j-(o+1)+1 by omega,List.getElem?_cons_succ]
  ·rw [if_neg h1]
   by_cases h2:j=o
   ·subst h2
    rw [if_pos (by simp),Nat.sub_self,Array.toList_setIfInBounds,List.getElem?_set_self (by simp;omega)];rfl
   ·rw [if_neg (by simp;omega),Array.toList_setIfInBounds,List.getElem?_set_ne (by omega)]
theorem heap_setCell_in {w:World} {g j:Nat} {v:Value} {cur:Array Value} {t:TypeId} {fr:Nat × Nat} (h:w.heap[g]? = some (.cells cur t fr)) (hj:j<cur.size):(w.setCell ⟨g,j,none⟩ v).heap[g]? = some (.cells (cur.setIfInBounds j v) t fr):=by
 have hg:=(Array.getElem?_eq_some_iff.1 h).1
 have hx:=(Array.getElem?_eq_some_iff.1 h).2
 rw [Array.getElem?_eq_some_iff]
 exact ⟨by simpa [World.setCell] using hg,by simp [World.setCell,Array.getElem_modify,hx]⟩
theorem heap_setCells:∀ (l:List Value) (o:Nat) {w:World} {g:Nat} {cur:Array Value} {t:TypeId} {fr:Nat × Nat},w.heap[g]? = some (.cells cur t fr)→o+l.length≤cur.size→(w.setCells g o l).heap[g]? = some (.cells (wr cur o l) t fr)
 | [],_,_,_,_,_,_,h,_=>h
 | v :: r,o,w,g,cur,t,fr,h,hj=>by
  have hj':o+(r.length+1)≤cur.size:=hj
  exact heap_setCells r (o+1) (heap_setCell_in h (by omega)) (by simp;omega)
theorem flat_len {k:Nat}:∀ {vs:List (List Value)},(∀ c∈vs,c.length=k)→vs.flatten.length=vs.length*k
 | [],_=>by simp
 | c :: r,h=>by
  rw [List.flatten_cons,List.length_append,h c (by simp),flat_len (fun x hx=>h x (by simp [hx])),List.length_cons,Nat.succ_mul];omega
theorem flat_get {k:Nat}:∀ {vs:List (List Value)},(∀ c∈vs,c.length=k)→∀ q r,r<k→vs.flatten[q*k+r]? = (vs[q]?).bind (·[r]?)
 | [],_,_,_,_=>by simp
 | c :: rest,h,0,r,hr=>by
  rw [List.flatten_cons,Nat.zero_mul,Nat.zero_add,List.getElem?_append_left (by rw [h c (by simp)];exact hr)];simp
 | c :: rest,h,q+1,r,hr=>by
  rw [List.flatten_cons,List.getElem?_append_right (by rw [h c (by simp),Nat.succ_mul];omega),h c (by simp),show (q+1)*k+r-k=q*k+r by rw [Nat.succ_mul];omega,flat_get (fun x hx=>h x (by simp [hx])) q r hr,List.getElem?_cons_succ]
def Rw (w:World) (t:TypeId) (s:Value) (k:Nat) (vs:List (List Value)):Prop:=(∀ c∈vs,c.length=k)∧w.ownsRow 0 t k s vs.length vs.flatten
theorem Rw.shape {w:World} {t:TypeId} {s:Value} {k:Nat} {vs:List (List Value)} (h:Rw w t s k vs):∃ a c,s = .slice a vs.length c∧vs.length≤c∧c≤maxLen:=by
 rcases h.2.2 with ⟨e1,e2⟩ | ⟨g,cap,cur,e1,_,_,e2,e3,_⟩
 ·exact ⟨none,0,by rw [e2];exact e1,by omega,by unfold maxLen;omega⟩
 ·exact ⟨_,cap,e1,e2,e3⟩
theorem Rw.lt {w:World} {t:TypeId} {s:Value} {k:Nat} {vs:List (List Value)} (h:Rw w t s k vs) {g:Nat} (hg:s.ownBlock=some g):g<w.heap.size:=(h.2.lt g hg).2
theorem Rw.at {w:World} {t:TypeId} {s:Value} {k:Nat} {vs:List (List Value)} (h:Rw w t s k vs) {i:Nat} {c:List Value} (hc:vs[i]? = some c) :
  ∃ g cap,s = .slice (some ⟨g,0,none⟩) vs.length cap∧g<w.heap.size∧vs.length≤cap∧cap≤maxLen∧w.rangeAt g (i*k) c∧w.there g (i*k) k:=by
 have hi:i<vs.length:=(List.getElem?_eq_some_iff.1 hc).1
 have hk:=h.1 c (List.mem_iff_getElem?.2 ⟨i,hc⟩)
 rcases h.2.2 with ⟨e1,e2⟩ | ⟨g,cap,cur,e1,_,hg,hn,hm,hs,ht⟩
 ·omega
 ·have hbd:i*k+k≤vs.length*k:=by have:(i+1)*k≤vs.length*k:=Nat.mul_le_mul_right _ hi;rw [Nat.succ_mul] at this;omega
  have hcap:vs.length*k≤cap*k:=Nat.mul_le_mul_right _ hn
  refine ⟨g,cap,e1,(Array.getElem?_eq_some_iff.1 hg).1,hn,hm,fun j v hv=>?_,fun j hj=>?_⟩
  ·have hj:j<k:=by have:=(List.getElem?_eq_some_iff.1 hv).1;omega
   rw [cell_of_row w g _ cur t (0,0) hg]
   have:=flat_get h.1 i j hj
   rw [←ht,List.getElem?_take,if_pos (by omega),Array.getElem?_toList,hc] at this
   rw [this];exact hv
  ·constructor
   ·rw [cell_of_row w g _ cur t (0,0) hg,Array.getElem?_eq_getElem (by omega)];rfl
   ·simp [World.frozen?,hg]
theorem Rw.put {w:World} {t:TypeId} {s:Value} {k:Nat} {vs:List (List Value)} (h:Rw w t s k vs) {i g cap:Nat} {c:List Value} (hi:i<vs.length) (hk:c.length=k) (hs:s = .slice (some ⟨g,0,none⟩) vs.length cap):Rw (w.setCells g (i*k) c) t s k (vs.set i c):=by
 rcases h.2.2 with ⟨e1,e2⟩ | ⟨g',cap',cur,e1,e0,hg,hn,hm,hsz,ht⟩
 ·omega
 ·rw [hs] at e1
  injection e1 with e1 _ e3
  injection e1 with e1
  injection e1 with e1 _ _
  subst e1 e3
  have hbd:i*k+k≤vs.length*k:=by have:(i+1)*k≤vs.length*k:=Nat.mul_le_mul_right _ hi;rw [Nat.succ_mul] at this;omega
  have hcap:vs.length*k≤cap*k:=Nat.mul_le_mul_right _ hn
  have hall:∀ x∈vs.set i c,x.length=k:=fun x hx=>by
   rcases List.mem_or_eq_of_mem_set hx with hx | rfl
   ·exact h.1 x hx
   ·exact hk
  refine ⟨hall,by rw [flat_len hall],.inr ⟨g,cap,wr cur (i*k) c,by rw [List.length_set];exact hs,e0,heap_setCells c _ hg (by omega),by rw [List.length_set];exact hn,hm,by rw [wr_size];exact hsz,?_⟩⟩
  rw [List.length_set]
  apply List.ext_getElem?
  intro j
  rw [List.getElem?_take]
  by_cases hj:j<vs.length*k
  ·rw [if_pos hj,wr_get c cur (i*k) j (by omega)]
   have hk0:0<k:=by rcases Nat.eq_zero_or_pos k with e | e;(subst e;simp at hj);exact e
   have ej:j=j / k*k+j % k:=by rw [Nat.mul_comm];exact (Nat.div_add_mod j k).symm
   have hr:=Nat.mod_lt j hk0
   have e1:=flat_get hall (j / k) (j % k) hr
   have e2:=flat_get h.1 (j / k) (j % k) hr
   rw [←ej] at e1 e2
   rw [e1]
   by_cases hq:j / k=i
   ·rw [if_pos (by rw [hk];rw [hq] at ej;omega),hq,List.getElem?_set_self hi,show j-i*k=j % k by rw [hq] at ej;omega];rfl
   ·have hne:¬(i*k≤j∧j<i*k+c.length):=by
     rw [hk]
     intro ⟨q1,q2⟩
     apply hq
     exact Nat.le_antisymm (Nat.lt_succ_iff.1 ((Nat.div_lt_iff_lt_mul hk0).2 (by rw [Nat.succ_mul];omega))) ((Nat.le_div_iff_mul_le hk0).2 q1)
    rw [if_neg hne,List.getElem?_set_ne (fun q=>hq q.symm),←e2,←ht,List.getElem?_take,if_pos hj]
  ·rw [if_neg hj,List.getElem?_eq_none (by rw [flat_len hall,List.length_set];omega)]
theorem Rw.keep {w w':World} {t:TypeId} {s:Value} {k:Nat} {vs:List (List Value)} (h:Rw w t s k vs) (hb:∀ g,s.ownBlock=some g→w'.heap[g]? = w.heap[g]?):Rw w' t s k vs:=by
 refine ⟨h.1,h.2.1,?_⟩
 rcases h.2.2 with e | ⟨g,cap,cur,e1,e2,hg,r⟩
 ·exact .inl e
 ·exact .inr ⟨g,cap,cur,e1,e2,(hb g (by rw [e1];rfl)).trans hg,r⟩
theorem Rw.cut {w:World} {t:TypeId} {k n cap g:Nat} {vs:List (List Value)} (h:Rw w t (.slice (some ⟨g,0,none⟩) n cap) k vs) {m:Nat} (hm:m≤vs.length):Rw w t (.slice (some ⟨g,0,none⟩) m cap) k (vs.take m):=by
 have hl:(vs.take m).length=m:=by simp;omega
 have hall:∀ c∈vs.take m,c.length=k:=fun c hc=>h.1 c (List.mem_of_mem_take hc)
 rcases h.2.2 with ⟨e1,e2⟩ | ⟨g',cap',cur,e1,e0,hg,hn,hmx,hsz,ht⟩
 ·cases e1
 ·injection e1 with e1 e2 e3
  injection e1 with e1
  injection e1 with e1 _ _
  subst e1 e3
  refine ⟨hall,by rw [flat_len hall],.inr ⟨g,cap,cur,by rw [hl],e0,hg,by omega,hmx,hsz,?_⟩⟩
  rw [hl]
  apply List.ext_getElem?
  intro j
  rw [List.getElem?_take]
  have hmk:m*k≤vs.length*k:=Nat.mul_le_mul_right _ hm
  by_cases hj:j<m*k
  ·have hk0:0<k:=by rcases Nat.eq_zero_or_pos k with e | e;(subst e;simp at hj);exact e
   have ej:j=j / k*k+j % k:=by rw [Nat.mul_comm];exact (Nat.div_add_mod j k).symm
   have hr:=Nat.mod_lt j hk0
   have q1:=flat_get hall (j / k) (j % k) hr
   have q2:=flat_get h.1 (j / k) (j % k) hr
   rw [←ej] at q1 q2
   have hd:j / k<m:=(Nat.div_lt_iff_lt_mul hk0).2 hj
   rw [if_pos hj,q1,List.getElem?_take,if_pos hd,←q2,←ht,List.getElem?_take,if_pos (by omega)]
  ·rw [if_neg hj,List.getElem?_eq_none (by rw [flat_len hall,hl];omega)]
def ivs (l:List Int):List (List Value):=l.map fun x=>[.int .i64 x]
theorem ivs_len (l:List Int):(ivs l).length=l.length:=by simp [ivs]
theorem ivs_get (l:List Int) (i:Nat):(ivs l)[i]? = (l[i]?).map fun x=>[.int .i64 x]:=by simp [ivs]
theorem ivs_set (l:List Int) (i:Nat) (x:Int):(ivs l).set i [.int .i64 x]=ivs (l.set i x):=by simp [ivs,List.map_set]
theorem ivs_flat (l:List Int):(ivs l).flatten=l.map (Value.int .i64):=by
 induction l with
 | nil=>rfl
 | cons a l ih=>simp [ivs] at ih ⊢;simpa using ih
theorem rng_one {w:World} {g o:Nat} {v:Value} (h:w.rangeAt g o [v]):w.cell? ⟨g,o,none⟩=some v:=by simpa using h 0 v rfl
theorem there_one {w:World} {g o k:Nat} (h:w.there g o k) (hk:0<k):w.frozen? ⟨g,o,none⟩=false:=by simpa using (h 0 hk).2
structure StM where
 D:List MD
 e:Int
 why:List Int
 since:List Int
 saved:List (Int × MD × Int)
 marks:List Int
structure Sl where
 sv:Value
 mv:Value
 iv:Value
 dv:Value
 wv:Value
class Gh where
 Y:Nat→Prop
 H:Nat→Option Obj
abbrev noG:Gh:=⟨fun _=>False,fun _=>none⟩
def OX (p:Nat) (sl:Sl):Nat→Prop:=fun b=>b=p∨sl.sv.ownBlock=some b∨sl.mv.ownBlock=some b∨sl.iv.ownBlock=some b∨sl.dv.ownBlock=some b∨sl.wv.ownBlock=some b
def XS [Gh] (p:Nat) (sl:Sl):Nat→Prop:=fun b=>b=p∨sl.sv.ownBlock=some b∨sl.mv.ownBlock=some b∨sl.iv.ownBlock=some b∨sl.dv.ownBlock=some b∨sl.wv.ownBlock=some b∨Gh.Y b
def kcell (v:Int) (c:List Value) (s:Int):List Value:=.int .i64 v :: (c++[.int .i64 s])
theorem xs_no {p:Nat} {sl:Sl} {b:Nat} (h:@XS noG p sl b):OX p sl b:=by
 rcases h with q | q | q | q | q | q | q
 ·exact .inl q
 ·exact .inr (.inl q)
 ·exact .inr (.inr (.inl q))
 ·exact .inr (.inr (.inr (.inl q)))
 ·exact .inr (.inr (.inr (.inr (.inl q))))
 ·exact .inr (.inr (.inr (.inr (.inr q))))
 ·exact (q:False).elim
def Dr (X:Nat→Prop) (w:World) (cs:List (List Value)) (D:List MD):Prop:=cs.length=D.length∧∀ (i:Nat) c d,cs[i]? = some c→D[i]? = some d→Dc X w c d
def Kr (X:Nat→Prop) (w:World) (ks:List (List Value)) (S:List (Int × MD × Int)):Prop:=ks.length=S.length∧∀ (i:Nat) (kc:List Value) (t:Int × MD × Int),ks[i]? = some kc→S[i]? = some t→∃ c,kc=kcell t.1 c t.2.2∧Dc X w c t.2.1
structure Sto [Gh] (w : World) (p : Nat) (st : StM) (sl : Sl) : Prop where
 blk:w.heap[p]? = some (.cells #[sl.sv,sl.mv,sl.iv,sl.dv,.int .i64 st.e,sl.wv] 68 (0,0))
 doms:∃ cs,Rw w 37 sl.dv 6 cs∧Dr (XS p sl) w cs st.D
 why:Rw w 3 sl.wv 1 (ivs st.why)
 since:Rw w 3 sl.iv 1 (ivs st.since)
 saved:∃ ks,Rw w 105 sl.sv 8 ks∧Kr (XS p sl) w ks st.saved
 marks:Rw w 3 sl.mv 1 (ivs st.marks)
 wi:∀ b,sl.wv.ownBlock=some b→sl.iv.ownBlock≠some b
 wm:∀ b,sl.wv.ownBlock=some b→sl.mv.ownBlock≠some b
 im:∀ b,sl.iv.ownBlock=some b→sl.mv.ownBlock≠some b
 lw:st.why.length=st.D.length
 ls:st.since.length=st.D.length
 yl:∀ b,Gh.Y b→b<w.heap.size∧w.heap[b]? = Gh.H b
 yo:∀ b,OX p sl b→¬Gh.Y b
theorem Kept.mono {X Y:Nat→Prop} {w w':World} (h:Kept X w w') (hXY:∀ b,X b→Y b):Kept Y w w':=⟨h.os,h.tape,h.output,h.size,fun b hb hY=>h.block b hb (fun q=>hY (hXY b q))⟩
theorem Dr.kept {X:Nat→Prop} {w w':World} {cs:List (List Value)} {D:List MD} (h:Dr X w cs D) (k:Kept X w w'):Dr X w' cs D:=⟨h.1,fun i c d h1 h2=>(h.2 i c d h1 h2).kept k⟩
theorem Kr.kept {X:Nat→Prop} {w w':World} {cs:List (List Value)} {D:List (Int × MD × Int)} (h:Kr X w cs D) (k:Kept X w w'):Kr X w' cs D:=⟨h.1,fun i c d h1 h2=>by obtain ⟨c',e,q⟩:=h.2 i c d h1 h2;exact ⟨c',e,q.kept k⟩⟩
theorem Dr.go {X X':Nat→Prop} {w w':World} {cs:List (List Value)} {D:List MD} (h:Dr X w cs D) (k:Kept X w w') (u:Up X X' w):Dr X' w' cs D:=⟨h.1,fun i c d h1 h2=>(h.2 i c d h1 h2).go k u⟩
theorem Kr.go {X X':Nat→Prop} {w w':World} {cs:List (List Value)} {D:List (Int × MD × Int)} (h:Kr X w cs D) (k:Kept X w w') (u:Up X X' w):Kr X' w' cs D:=⟨h.1,fun i c d h1 h2=>by obtain ⟨c',e,q⟩:=h.2 i c d h1 h2;exact ⟨c',e,q.go k u⟩⟩
theorem Rw.typ {w:World} {t:TypeId} {s:Value} {k:Nat} {vs:List (List Value)} (h:Rw w t s k vs) {g:Nat} (hg:s.ownBlock=some g):∃ cur,w.heap[g]? = some (.cells cur t (0,0)):=by
 rcases h.2.2 with ⟨e1,e2⟩ | ⟨g',cap,cur,e1,_,hh,_⟩
 ·rw [e1] at hg;cases hg
 ·rw [e1] at hg;injection hg with hg;subst hg;exact ⟨cur,hh⟩
theorem ne_typ {w:World} {a b:Nat} {x y:Array Value} {s t:TypeId} {f g:Nat × Nat} (h:w.heap[a]? = some (.cells x s f)) (k:w.heap[b]? = some (.cells y t g)) (hst:s≠t):a≠b:=fun e=>by
 subst e
 rw [h] at k
 injection k with k
 injection k with _ k _
 exact hst k
theorem Rw.ne {w:World} {t u:TypeId} {s r:Value} {k l:Nat} {vs us:List (List Value)} (h:Rw w t s k vs) (h':Rw w u r l us) (htu:t≠u) {g:Nat} (hg:s.ownBlock=some g):r.ownBlock≠some g:=fun q=>by
 obtain ⟨c1,e1⟩:=h.typ hg
 obtain ⟨c2,e2⟩:=h'.typ q
 exact ne_typ e1 e2 htu rfl
theorem Rw.nep {w:World} {t u:TypeId} {s:Value} {k p:Nat} {vs:List (List Value)} {x:Array Value} {f:Nat × Nat} (h:Rw w t s k vs) (hp:w.heap[p]? = some (.cells x u f)) (htu:t≠u):s.ownBlock≠some p:=fun q=>by
 obtain ⟨c1,e1⟩:=h.typ q
 exact ne_typ e1 hp htu rfl
theorem Rw.stay {w w':World} {t:TypeId} {s:Value} {k:Nat} {vs:List (List Value)} {G:Nat} (h:Rw w t s k vs) (hk:Kept (fun b=>b=G) w w') (hG:s.ownBlock≠some G):Rw w' t s k vs :=
 h.keep fun g hg=>hk.block g (h.lt hg) (fun e=>hG (e▸hg))
theorem Kept.one {w w':World} {a:World} {g o:Nat} {v:Value} (e:w'=w.setCell ⟨g,o,none⟩ v):Kept (fun b=>b=g) w w':=by subst e;exact Kept.setCell (X:=fun b=>b=g) (Kept.refl _ w) rfl o v
theorem Kept.many {w w':World} {g o:Nat} {vs:List Value} (e:w'=w.setCells g o vs):Kept (fun b=>b=g) w w':=by subst e;exact Kept.setCells (X:=fun b=>b=g) rfl vs o (Kept.refl _ w)
theorem yk [Gh] {w w':World} {G:Nat} (yl:∀ b,Gh.Y b→b<w.heap.size∧w.heap[b]? = Gh.H b) (k:Kept (fun b=>b=G) w w') (hG:¬Gh.Y G):∀ b,Gh.Y b→b<w'.heap.size∧w'.heap[b]? = Gh.H b :=
 fun b hb=>⟨Nat.lt_of_lt_of_le (yl b hb).1 k.size,(k.block b (yl b hb).1 (fun e=>hG (e▸hb))).trans (yl b hb).2⟩
theorem yg [Gh] {w w':World} {r:Option Nat} (yl:∀ b,Gh.Y b→b<w.heap.size∧w.heap[b]? = Gh.H b) (k:w.grownBy w' r) (hG:∀ b,r=some b→¬Gh.Y b):∀ b,Gh.Y b→b<w'.heap.size∧w'.heap[b]? = Gh.H b :=
 fun b hb=>⟨Nat.lt_of_lt_of_le (yl b hb).1 k.size,(k.block b (yl b hb).1 (fun e=>hG b e.symm hb)).trans (yl b hb).2⟩
theorem Sto.p_lt [Gh] {w:World} {p:Nat} {st:StM} {sl:Sl} (h:Sto w p st sl):p<w.heap.size:=(Array.getElem?_eq_some_iff.1 h.blk).1
theorem Sto.x_lt [Gh] {w:World} {p:Nat} {st:StM} {sl:Sl} (h:Sto w p st sl):∀ b,XS p sl b→b<w.heap.size:=fun b hb=>by
 obtain ⟨cs,hd,_⟩:=h.doms
 obtain ⟨ks,hk,_⟩:=h.saved
 rcases hb with rfl | q | q | q | q | q | q
 ·exact h.p_lt
 ·exact hk.lt q
 ·exact h.marks.lt q
 ·exact h.since.lt q
 ·exact hd.lt q
 ·exact h.why.lt q
 ·exact (h.yl b q).1
theorem Sto.cells [Gh] {w:World} {p:Nat} {st:StM} {sl:Sl} (h:Sto w p st sl) :
  w.cell? ⟨p,0,none⟩=some sl.sv∧w.cell? ⟨p,1,none⟩=some sl.mv∧w.cell? ⟨p,2,none⟩=some sl.iv∧w.cell? ⟨p,3,none⟩=some sl.dv∧w.cell? ⟨p,4,none⟩=some (.int .i64 st.e)∧w.cell? ⟨p,5,none⟩=some sl.wv∧∀ o,w.frozen? ⟨p,o,none⟩=false:=by
 have hp:=h.blk
 refine ⟨?_,?_,?_,?_,?_,?_,fun o=>?_⟩<;>first | (rw [cell_of_row w p _ _ _ _ hp];rfl) | simp [World.frozen?,hp]
theorem Sto.kept [Gh] {w w':World} {p:Nat} {st:StM} {sl:Sl} (h:Sto w p st sl) (hk:∀ b,XS p sl b→w'.heap[b]? = w.heap[b]?) (k:Kept (XS p sl) w w'):Sto w' p st sl:=by
 obtain ⟨cs,hd,hdr⟩:=h.doms
 obtain ⟨ks,hs,hkr⟩:=h.saved
 exact ⟨(hk p (.inl rfl)).trans h.blk,⟨cs,hd.keep fun g hg=>hk g (.inr (.inr (.inr (.inr (.inl hg))))),hdr.kept k⟩,h.why.keep fun g hg=>hk g (.inr (.inr (.inr (.inr (.inr (.inl hg)))))),h.since.keep fun g hg=>hk g (.inr (.inr (.inr (.inl hg)))),
  ⟨ks,hs.keep fun g hg=>hk g (.inr (.inl hg)),hkr.kept k⟩,h.marks.keep fun g hg=>hk g (.inr (.inr (.inl hg))),h.wi,h.wm,h.im,h.lw,h.ls,(fun b q=>⟨Nat.lt_of_lt_of_le (h.yl b q).1 k.size,(hk b (.inr (.inr (.inr (.inr (.inr (.inr q))))))).trans (h.yl b q).2⟩),h.yo⟩
theorem Sto.below [Gh] {w w':World} {p:Nat} {st:StM} {sl:Sl} (h:Sto w p st sl) (hb:Below w.heap.size w w'):Sto w' p st sl :=
 h.kept (fun b q=>hb.block b (h.x_lt b q)) (Kept.of_below hb)
theorem Sto.set_e [Gh] {w:World} {p:Nat} {st:StM} {sl:Sl} (h:Sto w p st sl) (x:Int):Sto (w.setCell ⟨p,4,none⟩ (.int .i64 x)) p { st with e:=x } sl:=by
 obtain ⟨cs,hd,hdr⟩:=h.doms
 obtain ⟨ks,hs,hkr⟩:=h.saved
 have k:Kept (fun b=>b=p) w (w.setCell ⟨p,4,none⟩ (.int .i64 x)):=Kept.one (a:=w) rfl
 have kX:=k.mono (Y:=XS p sl) (fun b e=>.inl e)
 exact ⟨heap_setCell_in h.blk (by simp),⟨cs,hd.stay k (hd.nep h.blk (by decide)),hdr.kept kX⟩,h.why.stay k (h.why.nep h.blk (by decide)),h.since.stay k (h.since.nep h.blk (by decide)),
  ⟨ks,hs.stay k (hs.nep h.blk (by decide)),hkr.kept kX⟩,h.marks.stay k (h.marks.nep h.blk (by decide)),h.wi,h.wm,h.im,h.lw,h.ls,yk h.yl k (h.yo p (.inl rfl)),h.yo⟩
theorem keep_p {w w':World} {p G:Nat} {x:Array Value} {t u:TypeId} {f g:Nat × Nat} {cur:Array Value} (hp:w.heap[p]? = some (.cells x t f)) (hG:w.heap[G]? = some (.cells cur u g)) (htu:t≠u) (k:Kept (fun b=>b=G) w w'):w'.heap[p]? = some (.cells x t f) :=
 (k.block p (Array.getElem?_eq_some_iff.1 hp).1 (ne_typ hp hG htu)).trans hp
theorem Sto.set_why [Gh] {w:World} {p:Nat} {st:StM} {sl:Sl} (h:Sto w p st sl) {i g cap n:Nat} (hi:i<st.why.length) (hv:sl.wv = .slice (some ⟨g,0,none⟩) n cap) (x:Int):Sto (w.setCell ⟨g,i,none⟩ (.int .i64 x)) p { st with why:=st.why.set i x } sl:=by
 obtain ⟨cs,hd,hdr⟩:=h.doms
 obtain ⟨ks,hs,hkr⟩:=h.saved
 have hg:sl.wv.ownBlock=some g:=by rw [hv];rfl
 have k:Kept (fun b=>b=g) w (w.setCell ⟨g,i,none⟩ (.int .i64 x)):=Kept.one (a:=w) rfl
 have kX:=k.mono (Y:=XS p sl) (fun b e=>.inr (.inr (.inr (.inr (.inr (.inl (e▸hg)))))))
 obtain ⟨cur,hcur⟩:=h.why.typ hg
 obtain ⟨a,c,hsh,_⟩:=h.why.shape
 have hput:=h.why.put (c:=[.int .i64 x]) (i:=i) (g:=g) (cap:=cap) (by rw [ivs_len];exact hi) rfl (by rw [hv] at hsh ⊢;injection hsh with _ e _;rw [e])
 rw [ivs_set,Nat.mul_one] at hput
 exact ⟨keep_p h.blk hcur (by decide) k,⟨cs,hd.stay k (h.why.ne hd (by decide) hg),hdr.kept kX⟩,hput,h.since.stay k (h.wi g hg),
  ⟨ks,hs.stay k (h.why.ne hs (by decide) hg),hkr.kept kX⟩,h.marks.stay k (h.wm g hg),h.wi,h.wm,h.im,(by rw [List.length_set];exact h.lw),h.ls,yk h.yl k (h.yo g (.inr (.inr (.inr (.inr (.inr hg)))))),h.yo⟩
theorem Sto.set_since [Gh] {w:World} {p:Nat} {st:StM} {sl:Sl} (h:Sto w p st sl) {i g cap n:Nat} (hi:i<st.since.length) (hv:sl.iv = .slice (some ⟨g,0,none⟩) n cap) (x:Int):Sto (w.setCell ⟨g,i,none⟩ (.int .i64 x)) p { st with since:=st.since.set i x } sl:=by
 obtain ⟨cs,hd,hdr⟩:=h.doms
 obtain ⟨ks,hs,hkr⟩:=h.saved
 have hg:sl.iv.ownBlock=some g:=by rw [hv];rfl
 have k:Kept (fun b=>b=g) w (w.setCell ⟨g,i,none⟩ (.int .i64 x)):=Kept.one (a:=w) rfl
 have kX:=k.mono (Y:=XS p sl) (fun b e=>.inr (.inr (.inr (.inl (e▸hg)))))
 obtain ⟨cur,hcur⟩:=h.since.typ hg
 obtain ⟨a,c,hsh,_⟩:=h.since.shape
 have hput:=h.since.put (c:=[.int .i64 x]) (i:=i) (g:=g) (cap:=cap) (by rw [ivs_len];exact hi) rfl (by rw [hv] at hsh ⊢;injection hsh with _ e _;rw [e])
 rw [ivs_set,Nat.mul_one] at hput
 exact ⟨keep_p h.blk hcur (by decide) k,⟨cs,hd.stay k (h.since.ne hd (by decide) hg),hdr.kept kX⟩,h.why.stay k (fun q=>h.wi g q hg),hput,
  ⟨ks,hs.stay k (h.since.ne hs (by decide) hg),hkr.kept kX⟩,h.marks.stay k (h.im g hg),h.wi,h.wm,h.im,h.lw,(by rw [List.length_set];exact h.ls),yk h.yl k (h.yo g (.inr (.inr (.inr (.inl hg))))),h.yo⟩
theorem Sto.set_dom [Gh] {w:World} {p:Nat} {st:StM} {sl:Sl} (h:Sto w p st sl) {i g cap n:Nat} (hi:i<st.D.length) (hv:sl.dv = .slice (some ⟨g,0,none⟩) n cap) {c:List Value} {d:MD} (hc:Dc (XS p sl) w c d):Sto (w.setCells g (i*6) c) p { st with D:=st.D.set i d } sl:=by
 obtain ⟨cs,hd,hdr⟩:=h.doms
 obtain ⟨ks,hs,hkr⟩:=h.saved
 have hg:sl.dv.ownBlock=some g:=by rw [hv];rfl
 have k:Kept (fun b=>b=g) w (w.setCells g (i*6) c):=Kept.many rfl
 have kX:=k.mono (Y:=XS p sl) (fun b e=>.inr (.inr (.inr (.inr (.inl (e▸hg))))))
 obtain ⟨cur,hcur⟩:=hd.typ hg
 obtain ⟨a,c',hsh,_⟩:=hd.shape
 have hput:=hd.put (c:=c) (i:=i) (g:=g) (cap:=cap) (by have:=hdr.1;omega) hc.len (by rw [hv] at hsh ⊢;injection hsh with _ e _;rw [e])
 refine ⟨keep_p h.blk hcur (by decide) k,⟨cs.set i c,hput,?_⟩,h.why.stay k (hd.ne h.why (by decide) hg),h.since.stay k (hd.ne h.since (by decide) hg),
  ⟨ks,hs.stay k (hd.ne hs (by decide) hg),hkr.kept kX⟩,h.marks.stay k (hd.ne h.marks (by decide) hg),h.wi,h.wm,h.im,(by rw [List.length_set];exact h.lw),(by rw [List.length_set];exact h.ls),yk h.yl k (h.yo g (.inr (.inr (.inr (.inr (.inl hg)))))),h.yo⟩
 refine ⟨by simp [hdr.1],fun j c1 d1 h1 h2=>?_⟩
 by_cases e:i=j
 ·subst e
  rw [List.getElem?_set_self (by rw [hdr.1];exact hi)] at h1
  rw [List.getElem?_set_self hi] at h2
  injection h1 with h1
  injection h2 with h2
  subst h1 h2
  exact hc.kept kX
 ·rw [List.getElem?_set_ne e] at h1 h2
  exact (hdr.2 j c1 d1 h1 h2).kept kX
theorem Sto.set_saved [Gh] {w w1:World} {p:Nat} {st:StM} {sl:Sl} (h:Sto w p st sl) {sv':Value} {ks':List (List Value)} {S':List (Int × MD × Int)} (hg:w.grownBy w1 sl.sv.ownBlock) (hr:Rw w1 105 sv' 8 ks') (hn:∀ b,sv'.ownBlock=some b→sl.sv.ownBlock=some b∨w.heap.size≤b)
  (hks:Kr (XS p { sl with sv:=sv' }) w1 ks' S'):Sto (w1.setCell ⟨p,0,none⟩ sv') p { st with saved:=S' } { sl with sv:=sv' }∧Up (XS p sl) (XS p { sl with sv:=sv' }) w∧Kept (XS p sl) w (w1.setCell ⟨p,0,none⟩ sv'):=by
 obtain ⟨cs,hd,hdr⟩:=h.doms
 obtain ⟨ks,hs,hkr⟩:=h.saved
 have u:Up (XS p sl) (XS p { sl with sv:=sv' }) w:=fun b hb=>by
  rcases hb with q | q | q
  ·exact .inl (.inl q)
  ·rcases hn b q with q | q
   ·exact .inl (.inr (.inl q))
   ·exact .inr q
  ·exact .inl (.inr (.inr q))
 have k1:Kept (XS p sl) w w1:=⟨hg.os,hg.tape,hg.output,hg.size,fun b hb hx=>hg.block b hb (fun e=>hx (.inr (.inl e.symm)))⟩
 have b1:∀ b,b<w.heap.size→sl.sv.ownBlock≠some b→w1.heap[b]? = w.heap[b]?:=fun b hb hx=>hg.block b hb (fun e=>hx e.symm)
 have hp1:w1.heap[p]? = _:=(b1 p h.p_lt (hs.nep h.blk (by decide))).trans h.blk
 have r1:Rw w1 37 sl.dv 6 cs:=hd.keep fun g q=>b1 g (hd.lt q) (hd.ne hs (by decide) q)
 have r2:=h.why.keep (w':=w1) fun g q=>b1 g (h.why.lt q) (h.why.ne hs (by decide) q)
 have r3:=h.since.keep (w':=w1) fun g q=>b1 g (h.since.lt q) (h.since.ne hs (by decide) q)
 have r4:=h.marks.keep (w':=w1) fun g q=>b1 g (h.marks.lt q) (h.marks.ne hs (by decide) q)
 have k:Kept (fun b=>b=p) w1 (w1.setCell ⟨p,0,none⟩ sv'):=Kept.one (a:=w) rfl
 have kX:=k.mono (Y:=XS p { sl with sv:=sv' }) (fun b e=>.inl e)
 refine ⟨⟨heap_setCell_in hp1 (by simp),⟨cs,r1.stay k (r1.nep hp1 (by decide)),(hdr.go k1 u).kept kX⟩,r2.stay k (r2.nep hp1 (by decide)),r3.stay k (r3.nep hp1 (by decide)),
  ⟨ks',hr.stay k (hr.nep hp1 (by decide)),hks.kept kX⟩,r4.stay k (r4.nep hp1 (by decide)),h.wi,h.wm,h.im,h.lw,h.ls,yk (yg h.yl hg fun b q=>h.yo b (.inr (.inl q))) k (h.yo p (.inl rfl)),fun b hb hy=>by
   rcases hb with q | q | q
   ·exact h.yo b (.inl q) hy
   ·rcases hn b q with q | q
    ·exact h.yo b (.inr (.inl q)) hy
    ·have:=(h.yl b hy).1;omega
   ·exact h.yo b (.inr (.inr q)) hy⟩,u,?_⟩
 exact k1.setCell (.inl rfl) 0 sv'
theorem Sto.set_marks [Gh] {w w1:World} {p:Nat} {st:StM} {sl:Sl} (h:Sto w p st sl) {mv':Value} {M':List Int} (hg:w.grownBy w1 sl.mv.ownBlock) (hr:Rw w1 3 mv' 1 (ivs M')) (hn:∀ b,mv'.ownBlock=some b→sl.mv.ownBlock=some b∨w.heap.size≤b) :
  Sto (w1.setCell ⟨p,1,none⟩ mv') p { st with marks:=M' } { sl with mv:=mv' }∧Up (XS p sl) (XS p { sl with mv:=mv' }) w∧Kept (XS p sl) w (w1.setCell ⟨p,1,none⟩ mv'):=by
 obtain ⟨cs,hd,hdr⟩:=h.doms
 obtain ⟨ks,hs,hkr⟩:=h.saved
 have u:Up (XS p sl) (XS p { sl with mv:=mv' }) w:=fun b hb=>by
  rcases hb with q | q | q | q
  ·exact .inl (.inl q)
  ·exact .inl (.inr (.inl q))
  ·rcases hn b q with q | q
   ·exact .inl (.inr (.inr (.inl q)))
   ·exact .inr q
  ·exact .inl (.inr (.inr (.inr q)))
 have k1:Kept (XS p sl) w w1:=⟨hg.os,hg.tape,hg.output,hg.size,fun b hb hx=>hg.block b hb (fun e=>hx (.inr (.inr (.inl e.symm))))⟩
 have b1:∀ b,b<w.heap.size→sl.mv.ownBlock≠some b→w1.heap[b]? = w.heap[b]?:=fun b hb hx=>hg.block b hb (fun e=>hx e.symm)
 have hp1:w1.heap[p]? = _:=(b1 p h.p_lt (h.marks.nep h.blk (by decide))).trans h.blk
 have r1:Rw w1 37 sl.dv 6 cs:=hd.keep fun g q=>b1 g (hd.lt q) (hd.ne h.marks (by decide) q)
 have r2:=h.why.keep (w':=w1) fun g q=>b1 g (h.why.lt q) (h.wm g q)
 have r3:=h.since.keep (w':=w1) fun g q=>b1 g (h.since.lt q) (h.im g q)
 have r4:=hs.keep (w':=w1) fun g q=>b1 g (hs.lt q) (hs.ne h.marks (by decide) q)
 have k:Kept (fun b=>b=p) w1 (w1.setCell ⟨p,1,none⟩ mv'):=Kept.one (a:=w) rfl
 have kX:=k.mono (Y:=XS p { sl with mv:=mv' }) (fun b e=>.inl e)
 refine ⟨⟨heap_setCell_in hp1 (by simp),⟨cs,r1.stay k (r1.nep hp1 (by decide)),(hdr.go k1 u).kept kX⟩,r2.stay k (r2.nep hp1 (by decide)),r3.stay k (r3.nep hp1 (by decide)),
  ⟨ks,r4.stay k (r4.nep hp1 (by decide)),(hkr.go k1 u).kept kX⟩,hr.stay k (hr.nep hp1 (by decide)),h.wi,fun b q q2=>?_,fun b q q2=>?_,h.lw,h.ls,yk (yg h.yl hg fun b q=>h.yo b (.inr (.inr (.inl q)))) k (h.yo p (.inl rfl)),fun b hb hy=>by
   rcases hb with q | q | q | q
   ·exact h.yo b (.inl q) hy
   ·exact h.yo b (.inr (.inl q)) hy
   ·rcases hn b q with q | q
    ·exact h.yo b (.inr (.inr (.inl q))) hy
    ·have:=(h.yl b hy).1;omega
   ·exact h.yo b (.inr (.inr (.inr q))) hy⟩,u,?_⟩
 ·rcases hn b q2 with e | e
  ·exact h.wm b q e
  ·have:=h.why.lt q;omega
 ·rcases hn b q2 with e | e
  ·exact h.im b q e
  ·have:=h.since.lt q;omega
 exact k1.setCell (.inl rfl) 1 mv'
theorem Sto.clear_why [Gh] {w:World} {p:Nat} {st:StM} {sl:Sl} (h:Sto w p st sl) {g cap n:Nat} (hv:sl.wv = .slice (some ⟨g,0,none⟩) n cap):Sto (w.setCells g 0 (List.replicate st.why.length (.int .i64 0))) p { st with why:=List.replicate st.why.length 0 } sl:=by
 obtain ⟨cs,hd,hdr⟩:=h.doms
 obtain ⟨ks,hs,hkr⟩:=h.saved
 have hg:sl.wv.ownBlock=some g:=by rw [hv];rfl
 have k:Kept (fun b=>b=g) w (w.setCells g 0 (List.replicate st.why.length (.int .i64 0))):=Kept.many rfl
 have kX:=k.mono (Y:=XS p sl) (fun b e=>.inr (.inr (.inr (.inr (.inr (.inl (e▸hg)))))))
 obtain ⟨cur,hcur⟩:=h.why.typ hg
 refine ⟨keep_p h.blk hcur (by decide) k,⟨cs,hd.stay k (h.why.ne hd (by decide) hg),hdr.kept kX⟩,?_,h.since.stay k (h.wi g hg),
  ⟨ks,hs.stay k (h.why.ne hs (by decide) hg),hkr.kept kX⟩,h.marks.stay k (h.wm g hg),h.wi,h.wm,h.im,(by simpa using h.lw),h.ls,yk h.yl k (h.yo g (.inr (.inr (.inr (.inr (.inr hg)))))),h.yo⟩
 have hw:=h.why
 rcases hw.2.2 with ⟨e1,e2⟩ | ⟨g',cap',cur',e1,e0,hh,hn,hm,hsz,ht⟩
 ·rw [hv] at e1;cases e1
 ·rw [e1] at hg
  injection hg with hg
  subst hg
  rw [ivs_len] at hn
  refine ⟨fun c hc=>by simp [ivs] at hc;obtain ⟨_,rfl⟩:=hc;rfl,by rw [ivs_flat,ivs_len];simp,.inr ⟨g',cap',wr cur' 0 (List.replicate st.why.length (.int .i64 0)),by rw [e1,ivs_len,ivs_len,List.length_replicate],e0,heap_setCells _ 0 hh (by simp;omega),by rw [ivs_len,List.length_replicate];exact hn,hm,by rw [wr_size];exact hsz,?_⟩⟩
  rw [ivs_len,ivs_flat,List.length_replicate,List.map_replicate]
  apply List.ext_getElem?
  intro j
  rw [List.getElem?_take,wr_get _ _ _ _ (by simp;omega)]
  by_cases hj:j<st.why.length
  ·rw [if_pos (by omega),if_pos (by simp;omega),Nat.sub_zero]
  ·rw [if_neg (by omega),List.getElem?_eq_none (by simp;omega)]
theorem ret_bool {a b:Bool} (h:a=b):Ending.returned (.bool a) = .returned (.bool b):=by rw [h]
theorem ret_int {a b:Int} (h:a=b):Ending.returned (.int .i64 a) = .returned (.int .i64 b):=by rw [h]
structure Bx (w : World) (g : Nat) (cs : Array Value) (t : TypeId) : Prop where
 h:w.heap[g]? = some (.cells cs t (0,0))
theorem Bx.lt {w:World} {g:Nat} {cs:Array Value} {t:TypeId} (h:Bx w g cs t):g<w.heap.size:=(Array.getElem?_eq_some_iff.1 h.h).1
theorem Bx.below {w w':World} {g:Nat} {cs:Array Value} {t:TypeId} (h:Bx w g cs t) (hb:Below w.heap.size w w'):Bx w' g cs t:=⟨(hb.block g h.lt).trans h.h⟩
theorem Bx.kept {X:Nat→Prop} {w w':World} {g:Nat} {cs:Array Value} {t:TypeId} (h:Bx w g cs t) (hb:Kept X w w') (hX:¬X g):Bx w' g cs t:=⟨(hb.block g h.lt hX).trans h.h⟩
theorem Bx.new (w:World) (cs:Array Value) (t:TypeId):Bx (w.alloc (.cells cs t)) w.heap.size cs t:=⟨World.alloc_heap_new w _⟩
theorem Bx.new' {w:World} {n:Nat} (hn:w.heap.size=n) (cs:Array Value) (t:TypeId):Bx (w.alloc (.cells cs t)) n cs t:=by subst hn;exact ⟨World.alloc_heap_new w _⟩
theorem Bx.alloc {w:World} {g:Nat} {cs:Array Value} {t:TypeId} (h:Bx w g cs t) (o:Obj):Bx (w.alloc o) g cs t:=⟨(Below.heap_alloc _ _ _ h.lt).trans h.h⟩
theorem Bx.drew {w:World} {g:Nat} {cs:Array Value} {t:TypeId} (h:Bx w g cs t) (n:Nat):Bx (w.drewN n) g cs t:=⟨h.h⟩
theorem Bx.cell {w:World} {g:Nat} {cs:Array Value} {t:TypeId} (h:Bx w g cs t) (j:Nat):w.cell? ⟨g,j,none⟩=cs[j]?:=cell_of_row w g j cs t (0,0) h.h
theorem Bx.fr {w:World} {g:Nat} {cs:Array Value} {t:TypeId} (h:Bx w g cs t) (j:Nat):w.frozen? ⟨g,j,none⟩=false:=by simp [World.frozen?,h.h]
theorem Bx.six {w:World} {g:Nat} {x0 x1 x2 x3 x4 x5:Value} {t:TypeId} (h:Bx w g #[x0,x1,x2,x3,x4,x5] t) :
  w.cell? ⟨g,0,none⟩=some x0∧w.cell? ⟨g,1,none⟩=some x1∧w.cell? ⟨g,2,none⟩=some x2∧w.cell? ⟨g,3,none⟩=some x3∧w.cell? ⟨g,4,none⟩=some x4∧w.cell? ⟨g,5,none⟩=some x5:=⟨h.cell 0,h.cell 1,h.cell 2,h.cell 3,h.cell 4,h.cell 5⟩
theorem Dc.look {X:Nat→Prop} {w:World} {c:List Value} {d:MD} (h:Dc X w c d):∃ b ra n0 rc a1 n1 c1 a2 n2 c2 x y,c=[.bool b,.slice ra n0 rc,.slice a1 n1 c1,.slice a2 n2 c2,.int .i64 x,.int .i64 y] ∧
  Hid (d.set=b∧d.r.length=n0∧d.lo.length=n1∧d.up.length=n2∧d.least=x∧d.most=y)∧Hid (Rm X w (.slice ra n0 rc) d.r)∧Hid (Nm X w (.slice a1 n1 c1) d.lo)∧Hid (Nm X w (.slice a2 n2 c2) d.up):=by
 obtain ⟨ra,rc,a1,c1,a2,c2,e,h1,h2,h3⟩:=h
 exact ⟨_,_,_,_,_,_,_,_,_,_,_,_,e,⟨rfl,rfl,rfl,rfl,rfl,rfl⟩,h1,h2,h3⟩
def rightW (d:MD):Bool:=Dm.rightB d.r&&decide (d.lo.length=0)&&decide (d.up.length=0)&&decide (d.least=0)&&decide (d.most=0)
theorem right_w {X:Nat→Prop} {W:World} {c:List Value} {d:MD} (h:Dc X W c d) (hs:d.set=false) (hf:Dm.FitsR d.r) :
  Calls Tryz.prog 30 #[.agg c.toArray] W fun e w'=>e = .returned (.bool (rightW d))∧Below W.heap.size W w':=by
 obtain ⟨b,ra,n0,rc,a1,n1,c1,a2,n2,c2,x,y,rfl,HE,H1,H2,H3⟩:=h.look
 clear h
 obtain rfl:b=false:=by rw [←HE.out.1,hs]
 obtain ⟨W0,hW0⟩:∃ Q,W.alloc (Obj.cells #[.bool false,.slice ra n0 rc,.slice a1 n1 c1,.slice a2 n2 c2,.int .i64 x,.int .i64 y] 37)=Q:=⟨_,rfl⟩
 have hb0:Below W.heap.size W W0:=by rw [←hW0];exact (Below.refl _ W).alloc (Nat.le_refl _) _
 have HB0:Hid (Bx W0 W.heap.size #[.bool false,.slice ra n0 rc,.slice a1 n1 c1,.slice a2 n2 c2,.int .i64 x,.int .i64 y] 37):=by rw [←hW0];exact Bx.new _ _ _
 have kr:=Dm.right_any _ _ _ (H1.out.kept (Kept.of_below hb0)).sr hf
 have hM:rightW d=(Dm.rightB d.r&&decide (n1=0)&&decide (n2=0)&&decide (x=0)&&decide (y=0)):=by
  obtain ⟨_,_,rfl,rfl,rfl,rfl⟩:=HE.out;rfl
 rw [hM]
 clear hM H1 H2 H3 hf hs HE
 have HW0:Hid _:=hW0
 clear hW0
 cases hR:Dm.rightB d.r
 ·rw [hR] at kr
  go_enter Tryz.func30,Tryz.ntmps30
  go_wp2_with fail
  rw [HW0.out]
  refine kr.mono ?_
  rintro e w1 ⟨rfl,hb1⟩
  go_wp2
  go_ret
  exact ⟨ret_bool (by simp),hb0.trans (hb1.mono hb0.size)⟩
 ·rw [hR] at kr
  rcases Nat.eq_zero_or_pos n1 with e1 | e1
  ·rcases Nat.eq_zero_or_pos n2 with e2 | e2
   ·by_cases e3:x=0
    ·subst e1 e2 e3
     by_cases e4:y=0
     ·subst e4
      go_enter Tryz.func30,Tryz.ntmps30
      go_wp2_with fail
      rw [HW0.out]
      refine kr.mono ?_
      rintro e w1 ⟨rfl,hb1⟩
      obtain ⟨z0,z1,z2,z3,z4,z5⟩:=(HB0.out.below hb1).six
      go_wp2
      go_ret
      exact ⟨ret_bool (by simp),hb0.trans (hb1.mono hb0.size)⟩
     ·go_enter Tryz.func30,Tryz.ntmps30
      go_wp2_with fail
      rw [HW0.out]
      refine kr.mono ?_
      rintro e w1 ⟨rfl,hb1⟩
      obtain ⟨z0,z1,z2,z3,z4,z5⟩:=(HB0.out.below hb1).six
      go_wp2
      go_ret
      exact ⟨ret_bool (by simp [e4]),hb0.trans (hb1.mono hb0.size)⟩
    ·subst e1 e2
     go_enter Tryz.func30,Tryz.ntmps30
     go_wp2_with fail
     rw [HW0.out]
     refine kr.mono ?_
     rintro e w1 ⟨rfl,hb1⟩
     obtain ⟨z0,z1,z2,z3,z4,z5⟩:=(HB0.out.below hb1).six
     go_wp2
     go_ret
     exact ⟨ret_bool (by simp [e3]),hb0.trans (hb1.mono hb0.size)⟩
   ·have e2':¬(n2:Int)=0:=by omega
    subst e1
    go_enter Tryz.func30,Tryz.ntmps30
    go_wp2_with fail
    rw [HW0.out]
    refine kr.mono ?_
    rintro e w1 ⟨rfl,hb1⟩
    obtain ⟨z0,z1,z2,z3,z4,z5⟩:=(HB0.out.below hb1).six
    go_wp2
    go_ret
    exact ⟨ret_bool (by simp;omega),hb0.trans (hb1.mono hb0.size)⟩
  ·have e1':¬(n1:Int)=0:=by omega
   go_enter Tryz.func30,Tryz.ntmps30
   go_wp2_with fail
   rw [HW0.out]
   refine kr.mono ?_
   rintro e w1 ⟨rfl,hb1⟩
   obtain ⟨z0,z1,z2,z3,z4,z5⟩:=(HB0.out.below hb1).six
   go_wp2
   go_ret
   exact ⟨ret_bool (by simp;omega),hb0.trans (hb1.mono hb0.size)⟩
theorem Tryz.sizeDom:(Tryz.prog.info? 37).map (·.size)=some 6:=by kernel_rfl
theorem Bx.setRow {w:World} {g:Nat} {old:Array Value} {t:TypeId} (h:Bx w g old t) (cs:Array Value):Bx (w.setRow g cs) g cs t:=⟨setRow_heap w g _ _ t (0,0) h.h⟩
theorem Bx.setRow_ne {w:World} {g k:Nat} {cs:Array Value} {t:TypeId} (h:Bx w k cs t) (hk:k≠g) (c:Array Value):Bx (w.setRow g c) k cs t:=⟨(setRow_other w g k c hk).trans h.h⟩
theorem six_one (b:Bool) (p0:Option Addr) (m0 k0:Nat) (p1:Option Addr) (m1 k1:Nat) (p2:Option Addr) (m2 k2:Nat) (i j:Int):∀ v∈[Value.bool b,.slice p0 m0 k0,.slice p1 m1 k1,.slice p2 m2 k2,.int .i64 i,.int .i64 j],v.oneCell'=true:=by
 intro v hv
 simp only [List.mem_cons,List.not_mem_nil,or_false] at hv
 rcases hv with rfl | rfl | rfl | rfl | rfl | rfl<;>rfl
theorem stD {ops:Array Oper} {rest:List Oper} {o:Oper} {a:Act} {w:World} {Q:Exit→Act→World→Prop} {old:Array Value} (hgd:o.guard=none) (x y:Operand) (ho:o.op = .store 37 x y)
  (g:Nat) (c:List Value) (hx:a.eval x = .pointer (some ⟨g,0,none⟩)) (hy:a.eval y = .agg c.toArray) (hg:Bx w g old 37) (hold:old.size=6) (hc:c.length=6) (h1:∀ v∈c,v.oneCell'=true)
  (h:wpList Tryz.prog ops Q rest (a.put o.dst undef) (w.setRow g c.toArray)):wpList Tryz.prog ops Q (o :: rest) a w :=
 wpList_store_row hgd 37 x y ho g _ hx hy 37 _ hg.h (by rw [Tryz.sizeDom];simp [hc]) (by simp [hold,hc]) (all_oneCell_toArray h1) h
theorem resD {fn:Func} {p:Tmp} (hf:fn.results=#[.cell p 37]) (tmps:Array Value) {w:World} {g:Nat} {c:List Value} (h:Bx w g c.toArray 37) (hc:c.length=6) (hp:tmps.getD p undef = .pointer (some ⟨g,0,none⟩)) :
  (results fn tmps).run Tryz.prog w = .ok (.agg c.toArray) w:=results_cell_row hf tmps w g 37 _ (0,0) _ hp h.h Tryz.underlying37 rfl (by rw [Tryz.sizeDom];simp [hc])
theorem below_row {B g:Nat} {a w:World} (h:Below B a w) (hg:B≤g) (cs:Array Value):Below B a (w.setRow g cs) :=
 h.trans ⟨rfl,rfl,rfl,by simp [World.setRow],fun k hk=>setRow_other w g k cs (by omega)⟩
def emptyW (d:MD):Bool:=decide (d.r.length=0)
theorem empty_w {X:Nat→Prop} {W:World} {c:List Value} {d:MD} (h:Dc X W c d) (hs:d.set=false) :
  Calls Tryz.prog 69 #[.agg c.toArray] W fun e w'=>e = .returned (.bool (emptyW d))∧Below W.heap.size W w':=by
 obtain ⟨b,ra,n0,rc,a1,n1,c1,a2,n2,c2,x,y,rfl,HE,H1,H2,H3⟩:=h.look
 clear h
 obtain rfl:b=false:=by rw [←HE.out.1,hs]
 have hM:emptyW d=decide (n0=0):=by obtain ⟨_,rfl,_⟩:=HE.out;rfl
 rw [hM]
 clear hM H1 H2 H3 hs HE
 have hb0:Below W.heap.size W (W.alloc (Obj.cells #[.bool false,.slice ra n0 rc,.slice a1 n1 c1,.slice a2 n2 c2,.int .i64 x,.int .i64 y] 37)):=(Below.refl _ W).alloc (Nat.le_refl _) _
 rcases Nat.eq_zero_or_pos n0 with e1 | e1
 ·subst e1
  go_enter Tryz.func69,Tryz.ntmps69
  go_wp2
  go_ret
  exact ⟨ret_bool (by first | rfl | simp),hb0⟩
 ·have e1':¬(n0:Int)=0:=by omega
  go_enter Tryz.func69,Tryz.ntmps69
  go_wp2
  go_ret
  exact ⟨ret_bool (by rw [Bool.eq_iff_iff];simp only [beq_iff_eq,decide_eq_true_eq];omega),hb0⟩
def emptI (b:Bool):Int:=if b then 1 else 0
def bothW (a b:MD):MD:=⟨false,Dm.bothR a.r b.r,[],[],0,0⟩
theorem rm_own {X:Nat→Prop} {w:World} {B:Nat} {s:Value} {l:List Dm.Rg} (h:w.ownsRow B 80 2 s l.length (Dm.flat l)) (hX:∀ b,X b→b<B):Rm X w s l:=by
 rcases h.2 with ⟨e1,e2⟩ | ⟨g,cap,cur,e1,hB,hg,hn,hm,hs,ht⟩
 ·exact ⟨none,0,by rw [e2];exact e1,fun h0=>by omega⟩
 ·refine ⟨_,cap,e1,fun h0=>⟨g,0,rfl,(Array.getElem?_eq_some_iff.1 hg).1,fun q=>by have:=hX g q;omega,fun i hi=>?_⟩⟩
  have hcap:l.length*2≤cap*2:=Nat.mul_le_mul_right _ hn
  have key:∀ j v,(Dm.flat l)[j]? = some v→w.cell? ⟨g,j,none⟩=some v:=fun j v hv=>by
   have hj:=(List.getElem?_eq_some_iff.1 hv).1
   rw [h.1] at hj
   rw [cell_of_row w g _ cur _ _ hg]
   rw [←ht,List.getElem?_take,if_pos hj,Array.getElem?_toList] at hv
   exact hv
  rw [Nat.zero_add]
  exact ⟨key _ _ ((Dm.flat_even l i hi).1),key _ _ ((Dm.flat_even l i hi).2)⟩
theorem Nm.empty (X:Nat→Prop) (w:World):Nm X w (.slice none 0 0) []:=⟨none,0,rfl,fun h=>absurd h (by simp)⟩
theorem with_w {X Y:Nat→Prop} {W:World} {c k:List Value} {d o:MD} (h:Dc X W c d) (h':Dc Y W k o) (hs:d.set=false) (hs':o.set=false) (hf:Dm.FitsR d.r) (hf':Dm.FitsR o.r) :
  Calls Tryz.prog 74 #[.agg c.toArray,.agg k.toArray] W fun e w'=>∃ q:List Value,e = .returned (.agg q.toArray)∧(∀ Z:Nat→Prop,(∀ b,Z b→b<W.heap.size)→Dc Z w' q (bothW d o))∧Below W.heap.size W w':=by
 obtain ⟨b,ra,n0,rc,a1,n1,c1,a2,n2,c2,x,y,rfl,HE,H1,H2,H3⟩:=h.look
 clear h
 obtain rfl:b=false:=by rw [←HE.out.1,hs]
 obtain ⟨b',ra',n0',rc',a1',n1',c1',a2',n2',c2',x',y',rfl,HE',H1',H2',H3'⟩:=h'.look
 clear h'
 obtain rfl:b'=false:=by rw [←HE'.out.1,hs']
 obtain ⟨W0,hW0⟩:∃ Q,((W.alloc (Obj.cells #[.bool false,.slice ra n0 rc,.slice a1 n1 c1,.slice a2 n2 c2,.int .i64 x,.int .i64 y] 101)).alloc (Obj.cells #[.bool false,.slice ra' n0' rc',.slice a1' n1' c1',.slice a2' n2' c2',.int .i64 x',.int .i64 y'] 37)).alloc (Obj.cells #[.bool false,.slice none 0 0,.slice none 0 0,.slice none 0 0,.int .i64 0,.int .i64 0] 37)=Q:=⟨_,rfl⟩
 have hb0:Below W.heap.size W W0:=by rw [←hW0];exact ((((Below.refl _ W).alloc (Nat.le_refl _) _).alloc (by simp) _).alloc (by simp;omega) _)
 have HB0:Hid (Bx W0 (W.heap.size+2) #[.bool false,.slice none 0 0,.slice none 0 0,.slice none 0 0,.int .i64 0,.int .i64 0] 37):=by rw [←hW0];exact Bx.new' (by simp) _ _
 have kb:=Dm.domboth_any _ _ _ _ _ (H1.out.kept (Kept.of_below hb0)).sr (H1'.out.kept (Kept.of_below hb0)).sr hf hf'
 have hz0:W0.heap.size=W.heap.size+3:=by rw [←hW0];simp
 have HZ0:Hid (W0.heap.size=W.heap.size+3):=hz0
 have HW0:Hid _:=hW0
 clear hW0 hz0
 go_enter Tryz.func74,Tryz.ntmps74
 go_wp2_with fail
 rw [HW0.out]
 refine kb.mono ?_
 clear kb
 rintro e w1 ⟨s',rfl,ho,hb1⟩
 have HO:Hid _:=ho
 clear ho
 obtain ⟨p',m',k',rfl⟩:∃ p m k,s' = .slice p m k:=by
  rcases HO.out.2 with ⟨e1,e2⟩ | ⟨g,cap,cur,e1,_⟩
  ·exact ⟨_,_,_,e1⟩
  ·exact ⟨_,_,_,e1⟩
 have HB1:Hid (Bx w1 (W.heap.size+2) _ _):=HB0.out.below hb1
 have hb2:Below W.heap.size W w1:=hb0.trans (hb1.mono hb0.size)
 go_wp2_with (with_reducible refine stD rfl (.tmp 4) (.tmp 10) rfl (W.heap.size+2) [.bool false,.slice p' m' k',.slice none 0 0,.slice none 0 0,.int .i64 0,.int .i64 0] (by with_unfolding_all rfl) (by with_unfolding_all rfl) HB1.out rfl rfl (six_one _ _ _ _ _ _ _ _ _ _ _ _) ?_)
 refine ⟨rfl,_,resD rfl _ (HB1.out.setRow _) rfl (by with_unfolding_all rfl),[.bool false,.slice p' m' k',.slice none 0 0,.slice none 0 0,.int .i64 0,.int .i64 0],rfl,fun Z hZ=>?_,below_row hb2 (by omega) _⟩
 have hr:Rm Z (w1.setRow (W.heap.size+2) #[.bool false,.slice p' m' k',.slice none 0 0,.slice none 0 0,.int .i64 0,.int .i64 0]) (.slice p' m' k') (Dm.bothR d.r o.r):=by
  have h1:Rm (fun b=>b<W0.heap.size) w1 (.slice p' m' k') (Dm.bothR d.r o.r):=rm_own HO.out (fun b q=>q)
  have h2:=h1.kept (w':=w1.setRow (W.heap.size+2) #[.bool false,.slice p' m' k',.slice none 0 0,.slice none 0 0,.int .i64 0,.int .i64 0]) ⟨rfl,rfl,rfl,by simp [World.setRow],fun b _ q=>setRow_other w1 _ b _ (by intro e;apply q;have:=HZ0.out;omega)⟩
  obtain ⟨a,c,e,h3⟩:=h2
  refine ⟨a,c,e,fun q=>?_⟩
  obtain ⟨b,off,e1,e2,e3,e4⟩:=h3 q
  exact ⟨b,off,e1,e2,fun hb=>e3 (by have:=hZ b hb;have:=HZ0.out;omega),e4⟩
 have hl:m'=(Dm.bothR d.r o.r).length:=by obtain ⟨a,c,e,_⟩:=hr;injection e
 subst hl
 exact ⟨p',k',none,0,none,0,rfl,hr,Nm.empty _ _,Nm.empty _ _⟩
theorem narrower_w {X:Nat→Prop} {W:World} {c:List Value} {d:MD} (h:Dc X W c d) (hs:d.set=false) :
  Calls Tryz.prog 49 #[.agg c.toArray] W fun e w'=>e = .returned (.func (.func 74) #[.agg c.toArray] #[])∧Below W.heap.size W w':=by
 obtain ⟨b,ra,n0,rc,a1,n1,c1,a2,n2,c2,x,y,rfl,HE,H1,H2,H3⟩:=h.look
 clear h
 obtain rfl:b=false:=by rw [←HE.out.1,hs]
 clear H1 H2 H3 HE hs
 go_enter Tryz.func49,Tryz.ntmps49
 go_wp2
 go_ret
 exact ⟨rfl,(Below.refl _ W).alloc (Nat.le_refl _) _⟩
theorem same_w {X Y:Nat→Prop} {W:World} {c k:List Value} {d o:MD} (h:Dc X W c d) (h':Dc Y W k o) (hs:d.set=false) (hs':o.set=false) (hf:Dm.FitsR d.r) (hf':Dm.FitsR o.r) :
  Calls Tryz.prog 50 #[.agg c.toArray,.agg k.toArray] W fun e w'=>e = .returned (.bool (decide (Dm.tk d.r=Dm.tk o.r)))∧Below W.heap.size W w':=by
 obtain ⟨b,ra,n0,rc,a1,n1,c1,a2,n2,c2,x,y,rfl,HE,H1,H2,H3⟩:=h.look
 clear h
 obtain rfl:b=false:=by rw [←HE.out.1,hs]
 obtain ⟨b',ra',n0',rc',a1',n1',c1',a2',n2',c2',x',y',rfl,HE',H1',H2',H3'⟩:=h'.look
 clear h'
 obtain rfl:b'=false:=by rw [←HE'.out.1,hs']
 obtain ⟨W0,hW0⟩:∃ Q,(W.alloc (Obj.cells #[.bool false,.slice ra n0 rc,.slice a1 n1 c1,.slice a2 n2 c2,.int .i64 x,.int .i64 y] 37)).alloc (Obj.cells #[.bool false,.slice ra' n0' rc',.slice a1' n1' c1',.slice a2' n2' c2',.int .i64 x',.int .i64 y'] 37)=Q:=⟨_,rfl⟩
 have hb0:Below W.heap.size W W0:=by rw [←hW0];exact (((Below.refl _ W).alloc (Nat.le_refl _) _).alloc (by simp) _)
 have kb:=Dm.domsame_any _ _ _ _ _ (H1.out.kept (Kept.of_below hb0)).sr (H1'.out.kept (Kept.of_below hb0)).sr hf hf'
 have HW0:Hid _:=hW0
 clear hW0 H1 H1' H2 H2' H3 H3' HE HE' hs hs' hf hf'
 go_enter Tryz.func50,Tryz.ntmps50
 go_wp2_with fail
 rw [HW0.out]
 refine kb.mono ?_
 clear kb
 rintro e w1 ⟨t,rfl,ht,hb1⟩
 have HT:Hid _:=ht
 clear ht
 go_wp2
 go_ret
 exact ⟨ret_bool (by rw [Bool.eq_iff_iff,HT.out];simp),hb0.trans (hb1.mono hb0.size)⟩
theorem Tryz.sizeVal:(Tryz.prog.info? 57).map (·.size)=some 3:=by kernel_rfl
theorem res_ct {fn:Func} {p q:Tmp} {ty:TypeId} (h:fn.results=#[.cell p ty,.tmp q]) (tmps:Array Value) {w:World} {g:Nat} {cs:Array Value} {d:TypeDesc} {t:TypeId} (hg:Bx w g cs t) (hp:tmps.getD p undef = .pointer (some ⟨g,0,none⟩))
  (hd:d.isRow=true) (hu:Tryz.prog.underlying ty=some d) (hi:(Tryz.prog.info? ty).map (·.size)=some cs.size) {v:Value} (hv:tmps.getD q undef=v) :
  (results fn tmps).run Tryz.prog w = .ok (.tuple #[.agg cs,v]) w:=by
 have hp':tmps[p]?.getD undef = .pointer (some ⟨g,0,none⟩):=by simpa using hp
 have hv':tmps[q]?.getD undef=v:=by simpa using hv
 have hl:=run_loadVar_mid (P:=Tryz.prog) w g 0 ty cs.toList d (fun j v hv=>by rw [Nat.zero_add,hg.cell j];simpa using hv) hu hd (by simpa using hi)
 simp [results,h,hp',hv',asAddr,hl]
theorem stV {ops:Array Oper} {rest:List Oper} {o:Oper} {a:Act} {w:World} {Q:Exit→Act→World→Prop} {old:Array Value} (hgd:o.guard=none) (x y:Operand) (ho:o.op = .store 57 x y)
  (g:Nat) (b:Bool) (n:Int) (sp:Option Addr) (sn sc:Nat) (hx:a.eval x = .pointer (some ⟨g,0,none⟩)) (hy:a.eval y = .agg #[.bool b,.int .i64 n,.slice sp sn sc]) (hg:Bx w g old 57) (hold:old.size=3)
  (h:wpList Tryz.prog ops Q rest (a.put o.dst undef) (w.setRow g #[.bool b,.int .i64 n,.slice sp sn sc])):wpList Tryz.prog ops Q (o :: rest) a w :=
 wpList_store_row hgd 57 x y ho g _ hx hy 57 _ hg.h (by rw [Tryz.sizeVal];rfl) (by simp [hold]) (all_oneCell_toArray (cs:=[.bool b,.int .i64 n,.slice sp sn sc]) (by intro v hv;simp only [List.mem_cons,List.not_mem_nil,or_false] at hv;rcases hv with rfl | rfl | rfl<;>rfl)) h
def onlyW (d:MD):Int × Bool:=if Dm.sizeR (Dm.tk d.r)=1 then (Dm.lo d.r 0,true) else (0,false)
theorem only_w {X:Nat→Prop} {W:World} {c:List Value} {d:MD} (h:Dc X W c d) (hs:d.set=false) (hf:Dm.FitsR d.r) :
  Calls Tryz.prog 70 #[.agg c.toArray] W fun e w'=>e = .returned (.tuple #[.agg #[.bool false,.int .i64 (onlyW d).1,.slice none 0 0],.bool (onlyW d).2])∧Below W.heap.size W w':=by
 obtain ⟨b,ra,n0,rc,a1,n1,c1,a2,n2,c2,x,y,rfl,HE,H1,H2,H3⟩:=h.look
 clear h
 obtain rfl:b=false:=by rw [←HE.out.1,hs]
 obtain ⟨W0,hW0⟩:∃ Q,(W.alloc (Obj.cells #[.bool false,.slice ra n0 rc,.slice a1 n1 c1,.slice a2 n2 c2,.int .i64 x,.int .i64 y] 37)).alloc (Obj.cells #[.bool false,.int .i64 0,.slice none 0 0] 57)=Q:=⟨_,rfl⟩
 have hb0:Below W.heap.size W W0:=by rw [←hW0];exact (((Below.refl _ W).alloc (Nat.le_refl _) _).alloc (by simp) _)
 have HB0:Hid (Bx W0 W.heap.size #[.bool false,.slice ra n0 rc,.slice a1 n1 c1,.slice a2 n2 c2,.int .i64 x,.int .i64 y] 37):=by rw [←hW0];exact (Bx.new _ _ _).alloc _
 have HV0:Hid (Bx W0 (W.heap.size+1) #[.bool false,.int .i64 0,.slice none 0 0] 57):=by rw [←hW0];exact Bx.new' (by simp) _ _
 have kb:=Dm.domsize_any _ _ _ (H1.out.kept (Kept.of_below hb0)).sr hf
 have HW0:Hid _:=hW0
 obtain ⟨sz,hsz⟩:∃ z,Dm.sizeR (Dm.tk d.r)=z:=⟨_,rfl⟩
 have HO:Hid (onlyW d=if sz=1 then (Dm.lo d.r 0,true) else (0,false)):=by rw [←hsz];exact rfl
 rw [hsz] at kb
 by_cases h1:sz=1
 ·subst h1
  have hR:0<d.r.length:=by
   rcases Nat.eq_zero_or_pos d.r.length with e | e
   ·have e0:d.r=[]:=List.length_eq_zero_iff.1 e
    rw [e0] at hsz
    have:Dm.sizeR (Dm.tk [])=0:=by rw [Dm.tk_yes Dm.right_nil];rfl
    omega
   ·exact e
  obtain ⟨a,cp,he,hcell⟩:=(H1.out.kept (Kept.of_below hb0)).sr
  injection he with he1 he2 he3
  subst he1 he3
  obtain ⟨bb,off,rfl,hlt,hc⟩:=hcell hR
  have hc0:=(hc 0 hR).1
  have hc1:W0.cell? ⟨bb,off,none⟩=some (.int .i64 (Dm.lo d.r 0)):=by simpa using hc0
  have HC0:Hid (W0.cell? ⟨bb,off,none⟩=some (.int .i64 (Dm.lo d.r 0))):=hc1
  clear hc1
  have hn0:0<n0:=by omega
  have hcp:True:=trivial
  clear hW0 hc hc0 hcell he2 hsz H2 H3 hs hf
  go_enter Tryz.func70,Tryz.ntmps70
  go_wp2_with fail
  rw [HW0.out]
  refine kb.mono ?_
  clear kb
  rintro e w1 ⟨rfl,hb1⟩
  have HB1:Hid (Bx w1 W.heap.size _ _):=HB0.out.below hb1
  have HV1:Hid (Bx w1 (W.heap.size+1) _ _):=HV0.out.below hb1
  have hcc:w1.cell? ⟨bb,off,none⟩=some (.int .i64 (Dm.lo d.r 0)):=(hb1.cell (p:=⟨bb,off,none⟩) hlt).trans HC0.out
  obtain ⟨z0,z1,z2,z3,z4,z5⟩:=HB1.out.six
  have hb2:Below W.heap.size W w1:=hb0.trans (hb1.mono hb0.size)
  go_wp2_with (with_reducible refine stV rfl (.tmp 2) (.tmp 27) rfl (W.heap.size+1) false (Dm.lo d.r 0) none 0 0 (by with_unfolding_all rfl) (by with_unfolding_all rfl) HV1.out rfl ?_)
  refine ⟨rfl,_,res_ct rfl _ (HV1.out.setRow _) (by with_unfolding_all rfl) rfl Tryz.underlying57 (by rw [Tryz.sizeVal];rfl) (v:=.bool true) (by with_unfolding_all rfl),?_,below_row hb2 (by omega) _⟩
  rw [HO.out];rfl
 ·have HN1:Hid (sz≠1):=h1
  have hne:(sz != 1)=true:=by simpa using h1
  clear hW0 hsz H1 H2 H3 hs hf HE
  go_enter Tryz.func70,Tryz.ntmps70
  go_wp2_with fail
  rw [HW0.out]
  refine kb.mono ?_
  clear kb
  rintro e w1 ⟨rfl,hb1⟩
  have HV1:Hid (Bx w1 (W.heap.size+1) _ _):=HV0.out.below hb1
  have hb2:Below W.heap.size W w1:=hb0.trans (hb1.mono hb0.size)
  go_wp2_with (with_reducible refine stV rfl (.tmp 2) (.tmp 21) rfl (W.heap.size+1) false 0 none 0 0 (by with_unfolding_all rfl) (by with_unfolding_all rfl) HV1.out rfl ?_)
  refine ⟨rfl,_,res_ct rfl _ (HV1.out.setRow _) (by with_unfolding_all rfl) rfl Tryz.underlying57 (by rw [Tryz.sizeVal];rfl) (v:=.bool false) (by with_unfolding_all rfl),?_,below_row hb2 (by omega) _⟩
  rw [HO.out,if_neg HN1.out]
theorem Bx.setk {w:World} {g:Nat} {cs:Array Value} {t:TypeId} (h:Bx w g cs t) {o:Nat} (ho:o<cs.size) (v:Value):Bx (w.setCell ⟨g,o,none⟩ v) g (cs.setIfInBounds o v) t:=⟨heap_setCell_in h.h ho⟩
theorem Bx.set3 {w:World} {g:Nat} {x0 x1 x2:Value} {t:TypeId} (h:Bx w g #[x0,x1,x2] t) (a b c:Value):Bx (((w.setCell ⟨g,0,none⟩ a).setCell ⟨g,1,none⟩ b).setCell ⟨g,2,none⟩ c) g #[a,b,c] t:=by
 have h1:=((h.setk (o:=0) (by simp) a).setk (o:=1) (by simp) b).setk (o:=2) (by simp) c
 simpa using h1
theorem Bx.three {w:World} {g:Nat} {x0 x1 x2:Value} {t:TypeId} (h:Bx w g #[x0,x1,x2] t):w.cell? ⟨g,0,none⟩=some x0∧w.cell? ⟨g,1,none⟩=some x1∧w.cell? ⟨g,2,none⟩=some x2:=⟨h.cell 0,h.cell 1,h.cell 2⟩
theorem Sto.open [Gh] {w:World} {p:Nat} {st:StM} {sl:Sl} (h:Sto w p st sl) (hn:st.D.length≤1000) (hm:st.marks.length≤1000000) (hk:st.saved.length≤100000000):∃ sa sc ma mc ia ic da dc wa wc,
  sl=⟨.slice sa st.saved.length sc,.slice ma st.marks.length mc,.slice ia st.D.length ic,.slice da st.D.length dc,.slice wa st.D.length wc⟩:=by
 obtain ⟨cs,hd,hdr⟩:=h.doms
 obtain ⟨ks,hs,hkr⟩:=h.saved
 obtain ⟨sa,sc,e1,_⟩:=hs.shape
 obtain ⟨ma,mc,e2,_⟩:=h.marks.shape
 obtain ⟨ia,ic,e3,_⟩:=h.since.shape
 obtain ⟨da,dc,e4,_⟩:=hd.shape
 obtain ⟨wa,wc,e5,_⟩:=h.why.shape
 rw [hkr.1] at e1
 rw [ivs_len] at e2 e3 e5
 rw [h.ls] at e3
 rw [h.lw] at e5
 rw [hdr.1] at e4
 obtain ⟨s1,s2,s3,s4,s5⟩:=sl
 simp only at e1 e2 e3 e4 e5
 subst e1 e2 e3 e4 e5
 exact ⟨_,_,_,_,_,_,_,_,_,_,rfl⟩
theorem Sto.look [Gh] {w:World} {p:Nat} {st:StM} {sl:Sl} (h:Sto w p st sl):∃ n k m sa sc ma mc ia ic da dc wa wc,sl=⟨.slice sa k sc,.slice ma m mc,.slice ia n ic,.slice da n dc,.slice wa n wc⟩∧Hid (st.D.length=n∧st.saved.length=k∧st.marks.length=m):=by
 obtain ⟨cs,hd,hdr⟩:=h.doms
 obtain ⟨ks,hs,hkr⟩:=h.saved
 obtain ⟨sa,sc,e1,_⟩:=hs.shape
 obtain ⟨ma,mc,e2,_⟩:=h.marks.shape
 obtain ⟨ia,ic,e3,_⟩:=h.since.shape
 obtain ⟨da,dc,e4,_⟩:=hd.shape
 obtain ⟨wa,wc,e5,_⟩:=h.why.shape
 rw [hkr.1] at e1
 rw [ivs_len] at e2 e3 e5
 rw [h.ls] at e3
 rw [h.lw] at e5
 rw [hdr.1] at e4
 obtain ⟨s1,s2,s3,s4,s5⟩:=sl
 simp only at e1 e2 e3 e4 e5
 subst e1 e2 e3 e4 e5
 exact ⟨_,_,_,_,_,_,_,_,_,_,_,_,_,rfl,rfl,rfl,rfl⟩
theorem Rw.look {w:World} {t:TypeId} {s:Value} {k:Nat} {vs:List (List Value)} (h:Rw w t s k vs):∃ a q c,s = .slice a q c∧Hid (vs.length=q)∧q≤c∧c≤9223372036854775807:=by
 obtain ⟨a,c,e,h1,h2⟩:=h.shape
 unfold maxLen at h2
 exact ⟨a,_,c,e,rfl,h1,by omega⟩
def Sz (st:StM):Prop:=st.D.length≤1000∧st.marks.length≤1000000∧st.saved.length≤100000000
abbrev ptr (p:Nat):Value:=.pointer (some ⟨p,0,none⟩)
theorem len_any [Gh] {W:World} {p:Nat} {st:StM} {sl:Sl} (h:Sto W p st sl) (hz:Sz st):Calls Tryz.prog 43 #[ptr p] W fun e w'=>e = .returned (.int .i64 st.D.length)∧w'=W:=by
 obtain ⟨sa,sc,ma,mc,ia,ic,da,dc,wa,wc,rfl⟩:=h.open hz.1 hz.2.1 hz.2.2
 obtain ⟨z0,z1,z2,z3,z4,z5,zf⟩:=h.cells
 simp only at z3
 clear h z0 z1 z2 z4 z5 zf hz
 generalize st.D.length=n at *
 go_enter Tryz.func43,Tryz.ntmps43
 go_wp2
 go_ret
 exact ⟨rfl,rfl⟩
def thereB (st:StM) (v:Int):Bool:=decide (0≤v)&&decide (v<st.D.length)
theorem there_any [Gh] {W:World} {p:Nat} {st:StM} {sl:Sl} (h:Sto W p st sl) (hz:Sz st) (v:Int):Calls Tryz.prog 48 #[ptr p,.int .i64 v] W fun e w'=>e = .returned (.bool (thereB st v))∧w'=W:=by
 have kl:=len_any h hz
 have hM:thereB st v=(decide (0≤v)&&decide (v<st.D.length)):=rfl
 rw [hM]
 clear hM h hz
 generalize st.D.length=n at *
 by_cases h0:0≤v
 ·have hd:decide (0≤v)=true:=by simpa using h0
  go_enter Tryz.func48,Tryz.ntmps48
  go_wp2_with (go_at_call 43;refine kl.mono ?_;rintro e w1 ⟨rfl,rfl⟩)
  go_ret
  exact ⟨ret_bool (by simp [h0]),rfl⟩
 ·have hd:decide (0≤v)=false:=by simpa using h0
  go_enter Tryz.func48,Tryz.ntmps48
  go_wp2
  go_ret
  exact ⟨ret_bool (by simp [hd]),rfl⟩
theorem failed_any [Gh] {W:World} {p:Nat} {st:StM} {sl:Sl} (h:Sto W p st sl):Calls Tryz.prog 16 #[ptr p] W fun e w'=>e = .returned (.bool (decide (0<st.e)))∧w'=W:=by
 obtain ⟨z0,z1,z2,z3,z4,z5,zf⟩:=h.cells
 clear h z0 z1 z2 z3 z5 zf
 generalize st.e=n at *
 go_enter Tryz.func16,Tryz.ntmps16
 go_wp2
 go_ret
 exact ⟨rfl,rfl⟩
theorem depth_any [Gh] {W:World} {p:Nat} {st:StM} {sl:Sl} (h:Sto W p st sl) (hz:Sz st):Calls Tryz.prog 56 #[ptr p] W fun e w'=>e = .returned (.int .i64 st.marks.length)∧w'=W:=by
 obtain ⟨sa,sc,ma,mc,ia,ic,da,dc,wa,wc,rfl⟩:=h.open hz.1 hz.2.1 hz.2.2
 obtain ⟨z0,z1,z2,z3,z4,z5,zf⟩:=h.cells
 simp only at z1
 clear h z0 z2 z3 z4 z5 zf hz
 generalize st.marks.length=n at *
 go_enter Tryz.func56,Tryz.ntmps56
 go_wp2
 go_ret
 exact ⟨rfl,rfl⟩
def tellM (l:List Int) (v:Nat) (y:Int):List Int:=if l.getD v 0=0∨y<l.getD v 0 then l.set v y else l
theorem tell_any [Gh] {W:World} {p:Nat} {st:StM} {sl:Sl} (h:Sto W p st sl) (hz:Sz st) (v:Nat) (hv:v<st.D.length) (y:Int):Calls Tryz.prog 53 #[ptr p,.int .i64 v,.int .i64 y] W fun e w'=>e = .returned (.tuple #[])∧Sto w' p { st with why:=tellM st.why v y } sl∧Kept (XS p sl) W w':=by
 have hvw:v<st.why.length:=by rw [h.lw];exact hv
 obtain ⟨g,cap,hs,hg,hle,hcm,hr,hth⟩:=h.why.at (i:=v) (c:=[.int .i64 (st.why.getD v 0)]) (by rw [ivs_get,List.getElem?_eq_getElem hvw];simp [List.getD,hvw])
 rw [Nat.mul_one] at hr hth
 have hc:=rng_one hr
 have hfz:=there_one hth (by decide)
 rw [ivs_len] at hs hle
 have hset:=h.set_why hvw hs y
 have hX:XS p sl g:=.inr (.inr (.inr (.inr (.inr (.inl (by rw [hs];rfl))))))
 obtain ⟨z0,z1,z2,z3,z4,z5,zf⟩:=h.cells
 rw [hs] at z5
 have HS:Hid (Sto _ _ _ _):=hset
 have H0:Hid (Sto W p st sl):=h
 have hM:tellM st.why v y=if st.why.getD v 0=0∨y<st.why.getD v 0 then st.why.set v y else st.why:=rfl
 have HM:Hid _:=hM
 have hln:st.why.length≤1000:=by rw [h.lw];exact hz.1
 generalize tellM st.why v y=T at hM HM ⊢
 clear hM hset h hz hr hth z0 z1 z2 z3 z4 zf hv
 generalize hq:st.why.getD v 0=q at *
 generalize hn:st.why.length=n at *
 have HQ:Hid _:=hq
 have HN:Hid _:=hn
 clear hq hn
 unfold maxLen at hcm
 by_cases h1:q=0
 ·subst h1
  go_enter Tryz.func53,Tryz.ntmps53
  go_wp2
  refine ⟨rfl,_,results_none rfl _ _ _,rfl,?_,(Kept.refl _ W).setCell hX _ _⟩
  rw [HM.out,if_pos (by simp)]
  exact HS.out
 ·by_cases h2:y<q
  ·go_enter Tryz.func53,Tryz.ntmps53
   go_wp2
   refine ⟨rfl,_,results_none rfl _ _ _,rfl,?_,(Kept.refl _ W).setCell hX _ _⟩
   rw [HM.out,if_pos (.inr h2)]
   exact HS.out
  ·go_enter Tryz.func53,Tryz.ntmps53
   go_wp2
   refine ⟨rfl,_,results_none rfl _ _ _,rfl,?_,Kept.refl _ W⟩
   rw [HM.out,if_neg (by omega)]
   exact H0.out
theorem same0 (a b:Option Addr) (c d:Nat) (W:World):Calls Tryz.prog 63 #[.slice a 0 c,.slice b 0 d] W fun e w'=>e = .returned (.bool true)∧w'=W:=by
 go_enter Tryz.func63,Tryz.ntmps63
 go_wp2
 go_loop [5] (fun i=>i = .int .i64 0) (fun _=>0)
 case atStart=>rfl
 case round =>
  obtain rfl:=hrel
  go_wp2
  go_ret
  exact ⟨rfl,rfl⟩
theorem one_eq {X Y:Nat→Prop} {W:World} {c k:List Value} {d o:MD} (h:Dc X W c d) (h':Dc Y W k o) (hs:d.set=false) (hs':o.set=false) (hlo:d.lo=[]∧d.up=[]∧o.lo=[]∧o.up=[]) (hlm:d.least=o.least∧d.most=o.most) (hr:d.r=o.r) (hl:d.r.length≤100000) :
  Calls Tryz.prog 25 #[.agg c.toArray,.agg k.toArray] W fun e w'=>e = .returned (.bool true)∧Below W.heap.size W w':=by
 obtain ⟨b,ra,n0,rc,a1,n1,c1,a2,n2,c2,x,y,rfl,HE,H1,H2,H3⟩:=h.look
 obtain ⟨b',ra',n0',rc',a1',n1',c1',a2',n2',c2',x',y',rfl,HE',H1',H2',H3'⟩:=h'.look
 obtain rfl:b=false:=by rw [←HE.out.1,hs]
 obtain rfl:b'=false:=by rw [←HE'.out.1,hs']
 obtain rfl:n1=0:=by rw [←HE.out.2.2.1,hlo.1];rfl
 obtain rfl:n2=0:=by rw [←HE.out.2.2.2.1,hlo.2.1];rfl
 obtain rfl:n1'=0:=by rw [←HE'.out.2.2.1,hlo.2.2.1];rfl
 obtain rfl:n2'=0:=by rw [←HE'.out.2.2.2.1,hlo.2.2.2];rfl
 obtain rfl:x'=x:=by rw [←HE.out.2.2.2.2.1,←HE'.out.2.2.2.2.1,hlm.1]
 obtain rfl:y'=y:=by rw [←HE.out.2.2.2.2.2,←HE'.out.2.2.2.2.2,hlm.2]
 obtain rfl:n0'=n0:=by rw [←HE.out.2.1,←HE'.out.2.1,hr]
 obtain ⟨W0,hW0⟩:∃ Q,(W.alloc (Obj.cells #[.bool false,.slice ra n0' rc,.slice a1 0 c1,.slice a2 0 c2,.int .i64 x',.int .i64 y'] 37)).alloc (Obj.cells #[.bool false,.slice ra' n0' rc',.slice a1' 0 c1',.slice a2' 0 c2',.int .i64 x',.int .i64 y'] 37)=Q:=⟨_,rfl⟩
 have hb0:Below W.heap.size W W0:=by rw [←hW0];exact (((Below.refl _ W).alloc (Nat.le_refl _) _).alloc (by simp) _)
 obtain ⟨bw,hbw⟩:∃ q,W.heap.size=q:=⟨_,rfl⟩
 have HBX:Hid (Bx W0 bw #[.bool false,.slice ra n0' rc,.slice a1 0 c1,.slice a2 0 c2,.int .i64 x',.int .i64 y'] 37):=by rw [←hW0];exact (Bx.new' hbw _ _).alloc _
 have HBY:Hid (Bx W0 (bw+1) #[.bool false,.slice ra' n0' rc',.slice a1' 0 c1',.slice a2' 0 c2',.int .i64 x',.int .i64 y'] 37):=by rw [←hW0];exact Bx.new' (by simp [hbw]) _ _
 have HR1:Hid (Rm X W0 (.slice ra n0' rc) d.r):=H1.out.kept (Kept.of_below hb0)
 have HR2:Hid (Rm Y W0 (.slice ra' n0' rc') d.r):=by rw [hr];exact H1'.out.kept (Kept.of_below hb0)
 have HN:Hid (d.r.length=n0'):=HE.out.2.1
 have hn:n0'≤100000:=by rw [←HN.out];exact hl
 have HW0:Hid _:=hW0
 have HBW:Hid (W.heap.size=bw):=hbw
 have ks1:=same0 a1 a1' c1 c1'
 have ks2:=same0 a2 a2' c2 c2'
 obtain ⟨y0,y1,y2,y3,y4,y5⟩:=HBX.out.six
 obtain ⟨u0,u1,u2,u3,u4,u5⟩:=HBY.out.six
 clear hW0 hbw h h' hs hs' hlo hlm hr hl H1 H2 H3 H1' H2' H3' HE HE'
 go_enter Tryz.func25,Tryz.ntmps25
 go_wp2_with fail
 rw [HW0.out,HBW.out]
 refine (ks1 _).mono ?_
 rintro e wt ⟨rfl,hwt⟩
 rw [hwt]
 clear hwt wt
 go_wp2_with fail
 refine (ks2 _).mono ?_
 rintro e wt ⟨rfl,hwt⟩
 rw [hwt]
 clear hwt wt ks1 ks2
 go_wp2
 go_loopw [5] (fun i wr=>∃ k:Nat,k≤n0'∧i = .int .i64 (k:Int)∧∃ nq,wr=W0.drewN nq) (fun i _=>n0' - (intOf i).toNat)
 case atStart=>exact ⟨0,Nat.zero_le _,rfl,0,rfl⟩
 case round =>
  obtain ⟨k,hk,rfl,nq0,rfl⟩:=hrel
  by_cases hlt:k<n0'
  ·obtain ⟨q1,t1,e1,hc1⟩:=HR1.out
   obtain ⟨q2,t2,e2,hc2⟩:=HR2.out
   injection e1 with e1 _ e3
   injection e2 with e2 _ e4
   subst e1 e3 e2 e4
   rw [HN.out] at hc1 hc2
   obtain ⟨b1,o1,rfl,_,_,hcell1⟩:=hc1 (by omega)
   obtain ⟨b2,o2,rfl,_,_,hcell2⟩:=hc2 (by omega)
   obtain ⟨x1,z1⟩:=hcell1 k hlt
   obtain ⟨x2,z2⟩:=hcell2 k hlt
   have kk:(k:Int)<(n0':Int):=by omega
   obtain ⟨pp,hp⟩:∃ p,Dm.lo d.r k=p:=⟨_,rfl⟩
   obtain ⟨qq,hq⟩:∃ p,Dm.hi d.r k=p:=⟨_,rfl⟩
   rw [hp] at x1 x2
   rw [hq] at z1 z2
   clear hcell1 hcell2 hp hq hc1 hc2
   go_wp2
   go_quiet (fail)
   go_wp2
   go_roundw
   case rel=>exact ⟨k+1,by omega,by go_num,_,rfl⟩
   case measure=>simp [intOf];omega
  ·have kk:¬(k:Int)<(n0':Int):=by omega
   go_wp2
   go_ret
   exact ⟨rfl,⟨hb0.os,hb0.tape,hb0.output,hb0.size,hb0.block⟩⟩
theorem one9 (x y:Int) (W:World):Calls Tryz.prog 34 #[.int .i64 x,.int .i64 y] W fun e w'=>∃ q:List Value,e = .returned (.agg q.toArray)∧(∀ Z:Nat→Prop,(∀ b,Z b→b<W.heap.size)→Dc Z w' q ⟨false,[(x,y)],[],[],0,0⟩)∧Below W.heap.size W w':=by
 go_enter Tryz.func34,Tryz.ntmps34
 go_wp2
 have hb:Below W.heap.size W ((W.alloc (Obj.cells #[.bool false,.slice (some ⟨W.heap.size+1,0,none⟩) 1 1,.slice none 0 0,.slice none 0 0,.int .i64 0,.int .i64 0] 37)).alloc (Obj.cells #[.int .i64 x,.int .i64 y] 80)):=((Below.refl _ W).alloc (Nat.le_refl _) _).alloc (by simp) _
 refine ⟨rfl,_,resD (c:=[.bool false,.slice (some ⟨W.heap.size+1,0,none⟩) 1 1,.slice none 0 0,.slice none 0 0,.int .i64 0,.int .i64 0]) rfl _ ((Bx.new W _ _).alloc _) rfl (by with_unfolding_all rfl),[.bool false,.slice (some ⟨W.heap.size+1,0,none⟩) 1 1,.slice none 0 0,.slice none 0 0,.int .i64 0,.int .i64 0],rfl,fun Z hZ=>?_,hb⟩
 refine ⟨some ⟨W.heap.size+1,0,none⟩,1,none,0,none,0,rfl,⟨_,_,rfl,fun _=>⟨W.heap.size+1,0,rfl,by simp,fun q=>by have:=hZ _ q;omega,fun i hi=>?_⟩⟩,Nm.empty _ _,Nm.empty _ _⟩
 have hi0:i=0:=by simp at hi;exact hi
 subst hi0
 have hbx:=Bx.new' (w:=W.alloc (Obj.cells #[.bool false,.slice (some ⟨W.heap.size+1,0,none⟩) 1 1,.slice none 0 0,.slice none 0 0,.int .i64 0,.int .i64 0] 37)) (n:=W.heap.size+1) (by simp) #[.int .i64 x,.int .i64 y] 80
 exact ⟨hbx.cell 0,hbx.cell 1⟩
end Go.Proofs.YtghnfnieppfhgaaGreat
