/- What is proved here: regions that draw their order, in a round of a range over a function: those that only read, and those that only read but for their last operation. -/
import Derived.Sort.QuietIn
import Derived.TacticsIn
set_option linter.unusedSimpArgs false
set_option linter.unusedVariables false
namespace Go.Proofs.YtghnfnieppfhgaaGreat.Dm
open Go
section
variable {F : Fence} {n : Nat} {P : Program} {ops : Array Oper} {md : Region.Mode} {C : World → Prop}
def noDefer (l:List Oper):Bool:=l.all fun o=>match o.op with | .defer _=>false | _=>true
theorem noDefer_spec {l:List Oper} (h:noDefer l=true) {o:Oper} (ho:o∈l):∀ c,o.op≠.defer c:=by
 intro c hc
 have:=List.all_eq_true.1 h o ho
 rw [hc] at this
 cases this
theorem sem_plain {o:Oper} (h:∀ c,o.op≠.defer c) (ρ:Operand→Value):o.semAt F.round ρ=execOp ρ o:=Oper.semAt_eq _ _ _ h
theorem op_of_quiet {o:Oper} {a:Act} {K:Act→Prop} {K':Act→World→Prop} {Q':Exit→Act→World→Prop} {w:World} (hd:∀ c,o.op≠.defer c) (hw:C w) (h:∀ a w',C w'→K a→K' a w')
  (ha:o.askedIn F P a C) (hh:o.quietIn F n P a C K):o.wpIn F n P a w K' Q':=by
 obtain ⟨v,h1,h2⟩:=hh
 have h3:=h1 w hw
 unfold Oper.quietAtIn at h3
 unfold Oper.wpIn
 refine ⟨ha w hw,?_⟩
 rw [sem_plain hd]
 generalize (execOp a.eval o).run P w=r at *
 cases r with
 | ok x w' =>
  cases x<;>simp only [Oper.quietUponIn] at h3<;>simp only [Oper.uponIn]
  case value u =>
   obtain ⟨e1,e2⟩:=h3
   rw [e1,e2]
   exact h _ _ hw h2
  case skip =>
   obtain ⟨e1,e2⟩:=h3
   rw [e1,←e2]
   exact h _ _ hw h2
  case enter f args =>
   obtain ⟨e1,hd,hc⟩:=h3
   rw [e1]
   exact ⟨hd,hc.mono fun e w'' ⟨he,hw''⟩=>by subst he;exact h _ _ hw'' h2⟩
 | halt x w'=>simp only [Oper.quietUponIn] at h3
theorem opIn_of_q {i:Nat} {a:Act} {K:Act→Prop} {K':Act→World→Prop} {Q':Exit→Act→World→Prop} {w:World} (hd:noDefer ops.toList=true) (hC:C w) (h:∀ a w',C w'→K a→K' a w')
  (hh:qOpIn F n P ops C i K a):wpOpIn F n P ops Q' i K' a w:=by
 unfold qOpIn at hh
 unfold wpOpIn
 split
 ·rename_i ho;simp only [ho] at hh;exact h _ _ hC hh
 ·rename_i o ho
  simp only [ho] at hh
  obtain ⟨ha,hh⟩:=hh
  have hm:o∈ops.toList:=by rw [Array.mem_toList_iff];exact Array.mem_of_getElem? ho
  split
  ·rename_i hw;simp only [hw,if_true] at hh;exact op_of_quiet (noDefer_spec hd hm) hC h ha hh
  ·rename_i hw;simp only [hw] at hh;exact ⟨ha w hC,h _ _ hC hh⟩
theorem any_of_quiet {Q:Act→Prop} {Q':Exit→Act→World→Prop} (hd:noDefer ops.toList=true) (hQ:∀ a w,C w→Q a→Q' .normal a w):∀ (fuel:Nat) (listed:Array Bool) (a:Act) (w:World),C w →
  wpAnyQIn F n P md ops C Q fuel listed a→wpAnyIn F n P md ops Q' fuel listed a w
 | 0,_,_,_,hw,h=>⟨h.1,hQ _ _ hw h.2⟩
 | fuel+1,_,_,_,hw,h=>⟨fun h0=>hQ _ _ hw (h.1 h0),fun i hi=>opIn_of_q hd hw (fun a' w' hw'=>any_of_quiet hd hQ fuel _ a' w' hw') (h.2 i hi)⟩
theorem region_quiet {id:Nat} {Q:Exit→Act→World→Prop} {a:Act} {w:World} {l:List Oper} (hd:noDefer l=true) (hm:P.follows .mixedOrders=true) (hB:Region.lexB .any l.toArray=true)
  (h:wpQuietIn F n P l.toArray (fun w'=>∃ n,w'=w.drewN n) (fun a'=>∀ w',(∃ n,w'=w.drewN n)→Q .normal a' w') l a):(Code.region id l.toArray true).wpIn F n P Q a w:=by
 simp only [Region.lexB,Bool.and_eq_true] at hB
 refine wpIn_region_any hm (any_of_quiet (C:=fun w'=>∃ n,w'=w.drewN n) (Q:=fun a'=>∀ w',(∃ n,w'=w.drewN n)→Q .normal a' w') (by simpa using hd) (fun _ w' hw' h=>h w' hw') _ _ _ _ ⟨1,rfl⟩ ?_)
 have:=wpAnyQIn_lex (F:=F) (n:=n) (P:=P) (C:=fun w'=>∃ n,w'=w.drewN n) (md:=.any) hB.1 l.toArray.toList 0 (Array.replicate l.toArray.size false) a (by simp) (by simpa using hB.2) (by simpa using h)
 simpa using this
def anyL (F:Fence) (n:Nat) (P:Program) (md:Region.Mode) (ops:Array Oper) (C:World→Prop) (last:Nat) (QL:Act→Prop):Nat→Array Bool→Act→Prop
 | 0,listed,a=>Region.ready md ops listed=[last]∧Region.ready md ops (listed.setIfInBounds last true)=[]∧QL a
 | fuel+1,listed,a=>Region.ready md ops listed≠[]∧∀ i∈Region.ready md ops listed,qOpIn F n P ops C i (anyL F n P md ops C last QL fuel (listed.setIfInBounds i true)) a
theorem any_of_L {last:Nat} {QL:Act→Prop} {Q':Exit→Act→World→Prop} (hd:noDefer ops.toList=true) (hQ:∀ a w,C w→QL a→∀ K,(∀ a'' w'',Q' .normal a'' w''→K a'' w'')→wpOpIn F n P ops Q' last K a w) :
  ∀ (fuel:Nat) (listed:Array Bool) (a:Act) (w:World),C w→anyL F n P md ops C last QL fuel listed a→wpAnyIn F n P md ops Q' (fuel+1) listed a w
 | 0,_,_,_,hw,h=>by
  refine ⟨fun h0=>(by rw [h.1] at h0;cases h0),fun i hi=>?_⟩
  rw [h.1,List.mem_singleton] at hi
  subst hi
  exact hQ _ _ hw h.2.2 _ (fun a'' w'' hq=>⟨h.2.1,hq⟩)
 | fuel+1,_,_,_,hw,h=>⟨fun h0=>absurd h0 h.1,fun i hi=>opIn_of_q hd hw (fun a' w' hw'=>any_of_L hd hQ fuel _ a' w' hw') (h.2 i hi)⟩
def reach (md:Region.Mode) (ops:Array Oper):Nat→Nat→Nat→Bool
 | 0,_,_=>false
 | f+1,a,b=>match ops[a]? with
  | none=>false
  | some o=>o.after.any fun e=>Region.binds md e&&(e.on==b||reach md ops f e.on b)
def DC (md:Region.Mode) (ops:Array Oper) (listed:Array Bool):Prop:=∀ j o,ops[j]? = some o→listed.getD j true=true→∀ e∈o.after,Region.binds md e=true→listed.getD e.on false=true
theorem getD_up {listed:Array Bool} {j k:Nat} (h:listed.getD k false=true):(listed.setIfInBounds j true).getD k false=true:=by
 by_cases e:j=k
 ·subst e
  rcases Nat.lt_or_ge j listed.size with h' | h'
  ·simp [h']
  ·simp [Array.getElem?_eq_none h'] at h
 ·rw [getD_set_ne false e];exact h
theorem DC.set {listed:Array Bool} (h:DC md ops listed) {j:Nat} (hj:j∈Region.ready md ops listed):DC md ops (listed.setIfInBounds j true):=by
 intro k o ho hk e he hb
 by_cases ek:j=k
 ·subst ek
  obtain ⟨_,o',ho',hall⟩:=mem_ready.1 hj
  rw [ho] at ho';cases ho'
  exact getD_up (hall e he hb)
 ·rw [getD_set_ne true ek] at hk
  exact getD_up (h k o ho hk e he hb)
theorem reach_listed {listed:Array Bool} (h:DC md ops listed):∀ (f a b:Nat),reach md ops f a b=true→(∀ o,ops[a]? = some o→∀ e∈o.after,Region.binds md e=true→listed.getD e.on false=true)→listed.getD b false=true
 | 0,_,_,hr,_=>by simp [reach] at hr
 | f+1,a,b,hr,ha=>by
  unfold reach at hr
  cases ho:ops[a]? with
  | none=>rw [ho] at hr;cases hr
  | some o =>
   rw [ho] at hr
   dsimp only at hr
   rw [Array.any_eq_true] at hr
   obtain ⟨i,hi,he⟩:=hr
   rw [Bool.and_eq_true,Bool.or_eq_true] at he
   have h1:=ha o ho o.after[i] (Array.getElem_mem hi) he.1
   rcases he.2 with e | e
   ·rw [←(by simpa using e:o.after[i].on=b)];exact h1
   ·refine reach_listed h f _ b e fun o' ho' e' he' hb'=>h _ o' ho' ?_ e' he' hb'
    rcases Nat.lt_or_ge o.after[i].on listed.size with h' | h'
    ·simp [h'] at h1 ⊢;exact h1
    ·simp [Array.getElem?_eq_none h'] at h1
theorem anyL_first {last:Nat} {QL:Act→Prop} {i:Nat} {oi:Oper} {v:Value} (hi:ops[i]? = some oi) (hsel:∀ (j:Nat) (o:Oper) cs b,ops[j]? = some o→o.op≠.select cs b)
  (hwait:reach md ops ops.size last i=true) :
  ∀ (fuel:Nat) (listed:Array Bool) (a:Act),DC md ops listed →
   (∀ j oj,ops[j]? = some oj→j≠i→listed.getD j true=false→(∀ e∈oj.after,Region.binds md e=true→e.on≠i)→oi.apart ops oj=true) →
   i∈Region.ready md ops listed→YieldsQuiet F n P ops C oi v a →
   anyL F n P md ops C last QL fuel (listed.setIfInBounds i true) (a.put oi.dst v)→anyL F n P md ops C last QL (fuel+1) listed a:=by
 have hnotlast:∀ (listed:Array Bool),DC md ops listed→i∈Region.ready md ops listed→last∉Region.ready md ops listed:=by
  intro listed hdc hr hl
  obtain ⟨_,ol,hol,hall⟩:=mem_ready.1 hl
  have h1:=reach_listed hdc _ _ _ hwait (fun o ho e he hb=>by rw [hol] at ho;cases ho;exact hall e he hb)
  have h0:=(mem_ready.1 hr).1
  rcases Nat.lt_or_ge i listed.size with h' | h'
  ·simp [h'] at h0 h1;rw [h0] at h1;cases h1
  ·simp [Array.getElem?_eq_none h'] at h1
 intro fuel
 induction fuel with
 | zero =>
  intro listed a hdc _ hr hy H
  refine ⟨fun h=>(by rw [h] at hr;cases hr),fun j hj=>?_⟩
  by_cases hji:j=i
  ·subst hji;exact hy.qOpIn hi H
  ·have:=ready_mono hj hji
   rw [H.1,List.mem_singleton] at this
   subst this
   exact absurd hj (hnotlast listed hdc hr)
 | succ fuel ih =>
  intro listed a hdc hfree hr hy H
  refine ⟨fun h=>(by rw [h] at hr;cases hr),fun j hj=>?_⟩
  by_cases hji:j=i
  ·subst hji;exact hy.qOpIn hi H
  ·have h1:=H.2 j (ready_mono hj hji)
   obtain ⟨hjun,oj,hoj,hall⟩:=mem_ready.1 hj
   have hnot:∀ e∈oj.after,Region.binds md e=true→e.on≠i:=fun e he hb heq=>by
    have h1:=hall e he hb
    have h0:=(mem_ready.1 hr).1
    rw [heq] at h1
    rcases Nat.lt_or_ge i listed.size with h' | h'
    ·simp [h'] at h0 h1;rw [h0] at h1;cases h1
    ·simp [Array.getElem?_eq_none h'] at h1
   have h2:=qOpIn_put hoj (hfree j oj hoj hji hjun hnot) (fun cs b=>hsel i oi cs b hi) (fun cs b=>hsel j oj cs b hoj) hy h1
   have hfree':∀ k ok,ops[k]? = some ok→k≠i→(listed.setIfInBounds j true).getD k true=false →
     (∀ e∈ok.after,Region.binds md e=true→e.on≠i)→oi.apart ops ok=true:=fun k ok hk hki hun hno=>by
    refine hfree k ok hk hki ?_ hno
    by_cases hjk:j=k
    ·subst hjk;exact hjun
    ·rw [getD_set_ne true hjk] at hun;exact hun
   refine qOpIn_mono (fun a' h3=>ih (listed.setIfInBounds j true) a' (hdc.set hj) hfree' (ready_mono hr (Ne.symm hji)) h3.1 ?_) h2
   rw [Array.setIfInBounds_comm _ _ hji]
   exact h3.2
def lexL (md:Region.Mode) (ops:Array Oper) (last:Nat):Nat→Nat→Array Bool→Bool
 | 0,_,listed=>Region.ready md ops listed == [last]&&(Region.ready md ops (listed.setIfInBounds last true)).isEmpty
 | fuel+1,k,listed=>(Region.ready md ops listed).contains k&&Region.free md ops listed k&&lexL md ops last fuel (k+1) (listed.setIfInBounds k true)
def lastWaits (md:Region.Mode) (ops:Array Oper) (last:Nat):Bool:=(List.range last).all fun i=>reach md ops ops.size last i
def lastB (l:List Oper):Bool:=Region.noSelect l.toArray&&lastWaits .any l.toArray (l.length-1)&&lexL .any l.toArray (l.length-1) (l.length-1) 0 (Array.replicate l.length false)
theorem anyL_lex {last:Nat} {QL:Act→Prop} (hs:Region.noSelect ops=true) (hw:lastWaits md ops last=true):∀ (l:List Oper) (k:Nat) (listed:Array Bool) (a:Act),DC md ops listed→k+l.length=last→(∀ j,j<l.length→l[j]? = ops[k+j]?) →
  lexL md ops last l.length k listed=true→wpQuietIn F n P ops C QL l a→anyL F n P md ops C last QL l.length listed a
 | [],_,_,_,_,_,_,hB,h=>by
  simp only [List.length_nil,lexL,Bool.and_eq_true] at hB
  exact ⟨by simpa using hB.1,by simpa using hB.2,h⟩
 | o :: l,k,listed,a,hdc,hkl,hl,hB,h=>by
  have h0:ops[k]? = some o:=by simpa using (hl 0 (by simp)).symm
  simp only [List.length_cons,lexL,Bool.and_eq_true] at hB
  obtain ⟨⟨hr,hf⟩,hB'⟩:=hB
  have hst:qOpIn F n P ops C k (wpQuietIn F n P ops C QL l) a:=by unfold qOpIn;simp only [h0];exact h
  obtain ⟨v,hy,hK⟩:=yieldsQuiet_of_qOpIn h0 hst
  have hrk:k∈Region.ready md ops listed:=by simpa using hr
  refine anyL_first h0 (Region.noSelect_spec hs) ?_ l.length listed a hdc (Region.free_spec h0 hf) hrk hy
   (anyL_lex hs hw l (k+1) _ _ (hdc.set hrk) (by simp at hkl;omega) (fun j hj=>by have:=hl (j+1) (by simpa using hj);simpa [Nat.add_assoc,Nat.add_comm 1 j] using this) hB' hK)
  exact List.all_eq_true.1 hw k (by rw [List.mem_range];simp at hkl;omega)
theorem region_last {id:Nat} {Q:Exit→Act→World→Prop} {a:Act} {w:World} {l:List Oper} {o:Oper} (hd:noDefer l=true) (hm:P.follows .mixedOrders=true) (hB:lastB l=true) (ho:l.getLast? = some o) (hg:o.guard=none)
  (h:wpQuietIn F n P l.toArray (fun w'=>∃ n,w'=w.drewN n) (fun a'=>∀ w',(∃ n,w'=w.drewN n)→∀ K,(∀ a'' w'',Q .normal a'' w''→K a'' w'')→o.wpIn F n P a' w' K Q) l.dropLast a) :
  (Code.region id l.toArray true).wpIn F n P Q a w:=by
 simp only [lastB,Bool.and_eq_true] at hB
 have hne:l≠[]:=by intro e;rw [e] at ho;simp at ho
 have hpos:0<l.length:=List.length_pos_iff.2 hne
 have hlen:l.dropLast.length=l.length-1:=List.length_dropLast
 refine wpIn_region_any hm ?_
 have hsz:l.toArray.size=l.length-1+1:=by simp;omega
 rw [hsz]
 refine any_of_L (C:=fun w'=>∃ n,w'=w.drewN n) (last:=l.length-1) (QL:=fun a'=>∀ w',(∃ n,w'=w.drewN n)→∀ K,(∀ a'' w'',Q .normal a'' w''→K a'' w'')→o.wpIn F n P a' w' K Q) (by simpa using hd) (fun a w' hw' hq K hK=>?_) _ _ _ _ ⟨1,rfl⟩ ?_
 ·unfold wpOpIn
  have e:l.toArray[l.length-1]? = some o:=by rw [List.getElem?_toArray,←List.getLast?_eq_getElem?];exact ho
  rw [e]
  have hw:Region.wanted o (yielded l.toArray a.tmps)=true:=by simp [Region.wanted,hg]
  simp only [hw,if_true]
  exact hq w' hw' K hK
 ·have hdc:DC .any l.toArray (Array.replicate l.length false):=fun j o ho hj=>by
   have h1:j<l.length:=by simpa using (Array.getElem?_eq_some_iff.1 ho).1
   simp [h1] at hj
  have:=anyL_lex (F:=F) (n:=n) (P:=P) (C:=fun w'=>∃ n,w'=w.drewN n) (QL:=fun a'=>∀ w',(∃ n,w'=w.drewN n)→∀ K,(∀ a'' w'',Q .normal a'' w''→K a'' w'')→o.wpIn F n P a' w' K Q) (md:=.any) hB.1.1 hB.1.2 l.dropLast 0 (Array.replicate l.length false) a hdc (by rw [hlen];omega)
   (fun j hj=>by rw [Nat.zero_add,List.getElem?_toArray,List.getElem?_dropLast];rw [if_pos (by omega)]) (by rw [hlen];exact hB.2) h
  rw [hlen] at this
  rw [show l.length-1+1=l.length by omega]
  exact this
end
end Go.Proofs.YtghnfnieppfhgaaGreat.Dm
