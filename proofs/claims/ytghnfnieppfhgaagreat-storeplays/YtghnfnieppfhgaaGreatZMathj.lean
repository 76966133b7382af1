/- What is proved here: plain mathematics of ranges of numbers, of the values in them, and of bits in words. What is proved here: plain mathematics of the values that are there, rising, and of their runs. What is proved here: lists of ranges that rise and do not touch: what is cut out of them, what is not in them, and their runs. What is proved here: ranges in any order made ranges that rise and do not touch (mathematics alone). What is proved here: what two lists of ranges have in common, found by going through both at once (mathematics alone). -/
import Derived.WalkKit
set_option linter.unusedSimpArgs false
set_option linter.unusedVariables false
namespace Go.Proofs.YtghnfnieppfhgaaGreat.Dm
abbrev Rg:=Int × Int
def lo (l:List Rg) (i:Nat):Int:=(l[i]?.getD (0,0)).1
def hi (l:List Rg) (i:Nat):Int:=(l[i]?.getD (0,0)).2
def OkAt (l:List Rg) (i:Nat):Prop:=lo l i≤hi l i∧-1000000≤lo l i∧hi l i≤1000000∧(0<i→hi l (i-1)+1<lo l i)
instance (l : List Rg) (i : Nat) : Decidable (OkAt l i) := by unfold OkAt; infer_instance
def Right (l:List Rg):Prop:=l.length≤4096∧∀ i,i<l.length→OkAt l i
instance (l : List Rg) : Decidable (Right l) := by unfold Right; infer_instance
def rightB (l:List Rg):Bool:=decide (Right l)
theorem rightB_yes {l:List Rg} (h:Right l):rightB l=true:=by unfold rightB;simpa using h
theorem rightB_no {l:List Rg} (h:¬Right l):rightB l=false:=by unfold rightB;simpa using h
def span (a b:Int):List Int:=(List.range (b+1-a).toNat).map fun k:Nat=>a+(k:Int)
def vals (l:List Rg):List Int:=l.flatMap fun r=>span r.1 r.2
theorem mem_span (a b v:Int):v∈span a b↔a≤v∧v≤b:=by
 unfold span
 rw [List.mem_map]
 constructor
 ·rintro ⟨k,hk,rfl⟩;rw [List.mem_range] at hk;omega
 ·rintro ⟨h1,h2⟩;exact ⟨(v-a).toNat,by rw [List.mem_range];omega,by omega⟩
theorem right_up (l:List Rg) (h:Right l):∀ j i,i≤j→j<l.length→lo l i≤lo l j∧hi l i≤hi l j:=by
 intro j
 induction j with
 | zero=>intro i hi' _;obtain rfl:i=0:=by omega
         exact ⟨Int.le_refl _,Int.le_refl _⟩
 | succ j ih =>
  intro i hi' hj
  by_cases e:i=j+1
  ·subst e;exact ⟨Int.le_refl _,Int.le_refl _⟩
  ·have h1:=ih i (by omega) (by omega)
   have h2:=h.2 (j+1) hj
   have h3:=h.2 j (by omega)
   unfold OkAt at h2 h3
   have h4:=h2.2.2.2 (by omega)
   rw [Nat.add_sub_cancel] at h4
   omega
theorem snoc_induct {α:Type} {C:List α→Prop} (h0:C []) (h1:∀ l a,C l→C (l++[a])):∀ l,C l:=by
 intro l
 rw [←List.reverse_reverse l]
 induction l.reverse with
 | nil=>exact h0
 | cons a r ih=>rw [List.reverse_cons];exact h1 _ _ ih
end Go.Proofs.YtghnfnieppfhgaaGreat.Dm
namespace Go.Proofs.YtghnfnieppfhgaaGreat.Dm
theorem set_last {α:Type} (l:List α) (a b:α):(l++[a]).set l.length b=l++[b]:=by
 rw [List.set_append_right _ _ (Nat.le_refl _)];simp
theorem hi_last (l:List Rg) (r:Rg):hi (l++[r]) l.length=r.2:=by unfold hi;simp
theorem lo_last (l:List Rg) (r:Rg):lo (l++[r]) l.length=r.1:=by unfold lo;simp
def Ord (l:List Rg):Prop:=(∀ r∈l,r.1≤r.2)∧l.Pairwise (fun r s=>r.2+1<s.1)
def Inb (l:List Rg):Prop:=∀ r∈l,-1000000≤r.1∧r.2≤1000000
theorem lo_get (l:List Rg) (i:Nat) (h:i<l.length):lo l i=l[i].1:=by unfold lo;rw [List.getElem?_eq_getElem h];rfl
theorem hi_get (l:List Rg) (i:Nat) (h:i<l.length):hi l i=l[i].2:=by unfold hi;rw [List.getElem?_eq_getElem h];rfl
theorem right_ord {l:List Rg} (h:Right l):Ord l∧Inb l:=by
 refine ⟨⟨fun r hr=>?_,?_⟩,fun r hr=>?_⟩
 ·obtain ⟨i,hi,rfl⟩:=List.mem_iff_getElem.1 hr
  have:=(h.2 i hi).1
  rw [lo_get l i hi,hi_get l i hi] at this;exact this
 ·rw [List.pairwise_iff_getElem]
  intro i j hi hj hij
  have h1:=(h.2 j hj).2.2.2 (by omega)
  have h2:=right_up l h (j-1) i (by omega) (by omega)
  rw [lo_get l j hj] at h1
  have h3:=h2.2
  rw [hi_get l i hi] at h3
  omega
 ·obtain ⟨i,hi,rfl⟩:=List.mem_iff_getElem.1 hr
  have:=h.2 i hi
  unfold OkAt at this
  rw [lo_get l i hi,hi_get l i hi] at this
  exact ⟨this.2.1,this.2.2.1⟩
theorem ord_right {l:List Rg} (h:Ord l) (hb:Inb l) (hl:l.length≤4096):Right l:=by
 refine ⟨hl,fun i hi=>?_⟩
 have h1:=h.1 l[i] (List.getElem_mem hi)
 have h2:=hb l[i] (List.getElem_mem hi)
 refine ⟨by rw [lo_get l i hi,hi_get l i hi];exact h1,by rw [lo_get l i hi];exact h2.1,by rw [hi_get l i hi];exact h2.2,fun h0=>?_⟩
 have h3:=(List.pairwise_iff_getElem.1 h.2) (i-1) i (by omega) hi (by omega)
 rw [lo_get l i hi,hi_get l (i-1) (by omega)]
 exact h3
theorem mem_vals' (l:List Rg) (v:Int):v∈vals l↔∃ r∈l,r.1≤v∧v≤r.2:=by
 unfold vals
 rw [List.mem_flatMap]
 simp only [mem_span]
theorem vals_append (a b:List Rg):vals (a++b)=vals a++vals b:=by unfold vals;rw [List.flatMap_append]
def cut1 (a b:Int) (r:Rg):Option Rg:=if (if r.1<a then a else r.1)≤(if b<r.2 then b else r.2) then some (if r.1<a then a else r.1,if b<r.2 then b else r.2) else none
def cutL (l:List Rg) (a b:Int):List Rg:=l.filterMap (cut1 a b)
theorem cut1_some {a b:Int} {r p:Rg} (h:cut1 a b r=some p):p.1≤p.2∧r.1≤p.1∧a≤p.1∧p.2≤r.2∧p.2≤b∧(p.1=r.1∨(p.1=a∧r.1<a)):=by
 unfold cut1 at h
 obtain ⟨x,hx⟩:∃ x,(if r.1<a then a else r.1)=x:=⟨_,rfl⟩
 obtain ⟨y,hy⟩:∃ y,(if b<r.2 then b else r.2)=y:=⟨_,rfl⟩
 rw [hx,hy] at h
 by_cases hc:x≤y
 ·rw [if_pos hc] at h
  have e:(x,y)=p:=by injection h
  subst e
  show x≤y∧r.1≤x∧a≤x∧y≤r.2∧y≤b∧(x=r.1∨(x=a∧r.1<a))
  split at hx<;>split at hy<;>omega
 ·rw [if_neg hc] at h;cases h
theorem cut1_mem (a b:Int) (r:Rg) (v:Int):(∃ p,cut1 a b r=some p∧p.1≤v∧v≤p.2)↔(r.1≤v∧v≤r.2∧a≤v∧v≤b):=by
 constructor
 ·rintro ⟨p,hp,h1,h2⟩
  have:=cut1_some hp
  omega
 ·rintro ⟨h1,h2,h3,h4⟩
  unfold cut1
  have e1:(if r.1<a then a else r.1)≤v:=by split<;>omega
  have e2:v≤(if b<r.2 then b else r.2):=by split<;>omega
  rw [if_pos (by omega)]
  exact ⟨_,rfl,e1,e2⟩
theorem mem_cutL (l:List Rg) (a b v:Int):v∈vals (cutL l a b)↔v∈vals l∧a≤v∧v≤b:=by
 rw [mem_vals',mem_vals']
 unfold cutL
 simp only [List.mem_filterMap]
 constructor
 ·rintro ⟨p,⟨r,hr,hp⟩,h1,h2⟩
  have:=(cut1_mem a b r v).1 ⟨p,hp,h1,h2⟩
  exact ⟨⟨r,hr,this.1,this.2.1⟩,this.2.2⟩
 ·rintro ⟨⟨r,hr,h1,h2⟩,h3⟩
  obtain ⟨p,hp,h4⟩:=(cut1_mem a b r v).2 ⟨h1,h2,h3⟩
  exact ⟨p,⟨r,hr,hp⟩,h4⟩
def pieces (c a:List Rg):List Rg:=c.flatMap fun r=>cutL a r.1 r.2
theorem mem_pieces (c a:List Rg) (v:Int):v∈vals (pieces c a)↔v∈vals c∧v∈vals a:=by
 have e:vals (pieces c a)=c.flatMap fun r=>vals (cutL a r.1 r.2):=by unfold vals pieces;rw [List.flatMap_assoc]
 rw [e,List.mem_flatMap,mem_vals' c]
 simp only [mem_cutL]
 constructor
 ·rintro ⟨r,hr,h1,h2⟩;exact ⟨⟨r,hr,h2⟩,h1⟩
 ·rintro ⟨⟨r,hr,h2⟩,h1⟩;exact ⟨r,hr,h1,h2⟩
theorem piece_of {c a:List Rg} {p:Rg} (h:p∈pieces c a):∃ r∈c,∃ s∈a,cut1 r.1 r.2 s=some p:=by
 unfold pieces at h
 rw [List.mem_flatMap] at h
 obtain ⟨r,hr,h⟩:=h
 unfold cutL at h
 rw [List.mem_filterMap] at h
 obtain ⟨s,hs,h⟩:=h
 exact ⟨r,hr,s,hs,h⟩
theorem ord_pieces {c a:List Rg} (hc:Ord c) (ha:Ord a):Ord (pieces c a):=by
 refine ⟨fun p hp=>?_,?_⟩
 ·obtain ⟨r,_,s,_,h⟩:=piece_of hp
  exact (cut1_some h).1
 ·unfold pieces
  rw [List.pairwise_flatMap]
  refine ⟨fun r hr=>?_,?_⟩
  ·unfold cutL
   rw [List.pairwise_filterMap]
   refine ha.2.imp fun {s s'} hs p hp p' hp'=>?_
   have h1:=cut1_some hp
   have h2:=cut1_some hp'
   omega
  ·refine hc.2.imp fun {r r'} hr p hp p' hp'=>?_
   unfold cutL at hp hp'
   rw [List.mem_filterMap] at hp hp'
   obtain ⟨s,_,h1⟩:=hp
   obtain ⟨s',_,h2⟩:=hp'
   have h3:=cut1_some h1
   have h4:=cut1_some h2
   omega
theorem inb_pieces {c a:List Rg} (ha:Inb a):Inb (pieces c a):=fun p hp=>by
 obtain ⟨r,_,s,hs,h⟩:=piece_of hp
 have h1:=cut1_some h
 have h2:=ha s hs
 omega
theorem up_le {a:List Int}:∀ {S:List Int},a.Pairwise (· < ·)→(∀ v∈a,v∈S)→a.length≤S.length:=by
 induction a with
 | nil=>intro S _ _;exact Nat.zero_le _
 | cons x a ih =>
  intro S hp hs
  rw [List.pairwise_cons] at hp
  have hx:=hs x (by simp)
  have h1:∀ v∈a,v∈S.erase x:=fun v hv=>by
   have:=hp.1 v hv
   exact (List.mem_erase_of_ne (by omega)).2 (hs v (by simp [hv]))
  have h2:=ih hp.2 h1
  rw [List.length_erase_of_mem hx] at h2
  have:0<S.length:=List.length_pos_of_mem hx
  simp only [List.length_cons]
  omega
theorem ord_los {l:List Rg} (h:Ord l):(l.map (·.1)).Pairwise (· < ·):=by
 rw [List.pairwise_map]
 have h1:l.Pairwise (fun r s=>r.2+1<s.1):=h.2
 refine (List.pairwise_iff_getElem.2 fun i j hi hj hij=>?_)
 have h2:=(List.pairwise_iff_getElem.1 h1) i j hi hj hij
 have h3:=h.1 l[i] (List.getElem_mem hi)
 omega
theorem both_len {c a:List Rg} (hc:Ord c) (ha:Ord a):(pieces c a).length≤a.length+c.length:=by
 have h:=up_le (ord_los (ord_pieces hc ha)) (S:=a.map (·.1)++c.map (·.1)) (fun v hv=>by
  rw [List.mem_map] at hv
  obtain ⟨p,hp,rfl⟩:=hv
  obtain ⟨r,hr,s,hs,h⟩:=piece_of hp
  rcases (cut1_some h).2.2.2.2.2 with e | ⟨e,_⟩
  ·rw [e];exact List.mem_append_left _ (List.mem_map.2 ⟨s,hs,rfl⟩)
  ·rw [e];exact List.mem_append_right _ (List.mem_map.2 ⟨r,hr,rfl⟩))
 simpa using h
theorem vals_cons (r:Rg) (l:List Rg) (v:Int):v∈vals (r :: l)↔(r.1≤v∧v≤r.2)∨v∈vals l:=by
 have:vals (r :: l)=span r.1 r.2++vals l:=by unfold vals;rw [List.flatMap_cons]
 rw [this,List.mem_append,mem_span]
theorem ord_cons {r:Rg} {l:List Rg} (h:Ord (r :: l)):r.1≤r.2∧Ord l∧∀ v∈vals l,r.2+1<v:=by
 have hp:=List.pairwise_cons.1 h.2
 refine ⟨h.1 r (by simp),⟨fun s hs=>h.1 s (by simp [hs]),hp.2⟩,fun v hv=>?_⟩
 obtain ⟨s,hs,h1,h2⟩:=(mem_vals' l v).1 hv
 have:=hp.1 s hs
 omega
theorem ord_ext:∀ {a b:List Rg},Ord a→Ord b→(∀ v,v∈vals a↔v∈vals b)→a=b
 | [],[],_,_,_=>rfl
 | [],s :: b,_,hb,h=>by
  have h1:=(ord_cons hb).1
  have:=(h s.1).2 ((vals_cons s b s.1).2 (.inl ⟨Int.le_refl _,h1⟩))
  simp [vals] at this
 | r :: a,[],ha,_,h=>by
  have h1:=(ord_cons ha).1
  have:=(h r.1).1 ((vals_cons r a r.1).2 (.inl ⟨Int.le_refl _,h1⟩))
  simp [vals] at this
 | r :: a,s :: b,ha,hb,h=>by
  obtain ⟨a1,a2,a3⟩:=ord_cons ha
  obtain ⟨b1,b2,b3⟩:=ord_cons hb
  have k:∀ v,((r.1≤v∧v≤r.2)∨v∈vals a)↔((s.1≤v∧v≤s.2)∨v∈vals b):=fun v=>by rw [←vals_cons,←vals_cons];exact h v
  have e1:r.1=s.1:=by
   have p:=(k r.1).1 (.inl ⟨Int.le_refl _,a1⟩)
   have q:=(k s.1).2 (.inl ⟨Int.le_refl _,b1⟩)
   have p':s.1≤r.1:=p.elim (fun x=>x.1) (fun x=>by have:=b3 _ x;omega)
   have q':r.1≤s.1:=q.elim (fun x=>x.1) (fun x=>by have:=a3 _ x;omega)
   omega
  have e2:r.2=s.2:=by
   have p:¬r.2<s.2:=fun hlt=>by
    rcases (k (r.2+1)).2 (.inl ⟨by omega,by omega⟩) with x | x
    ·omega
    ·have:=a3 _ x;omega
   have q:¬s.2<r.2:=fun hlt=>by
    rcases (k (s.2+1)).1 (.inl ⟨by omega,by omega⟩) with x | x
    ·omega
    ·have:=b3 _ x;omega
   omega
  have e:r=s:=Prod.ext e1 e2
  subst e
  congr 1
  refine ord_ext a2 b2 fun v=>⟨fun hv=>?_,fun hv=>?_⟩
  ·rcases (k v).1 (.inr hv) with x | x
   ·have:=a3 v hv;omega
   ·exact x
  ·rcases (k v).2 (.inr hv) with x | x
   ·have:=b3 v hv;omega
   ·exact x
def jstep (out:List Rg) (r:Rg):List Rg:=if 0<out.length∧r.1≤hi out (out.length-1)+1 then out.set (out.length-1) (lo out (out.length-1),if hi out (out.length-1)<r.2 then r.2 else hi out (out.length-1)) else out++[r]
def joinF (l:List Rg):List Rg:=l.foldl jstep []
theorem joinF_snoc (l:List Rg) (r:Rg):joinF (l++[r])=jstep (joinF l) r:=by unfold joinF;rw [List.foldl_append];rfl
theorem jstep_length (out:List Rg) (r:Rg):out.length≤(jstep out r).length∧(jstep out r).length≤out.length+1:=by unfold jstep;split<;>simp
theorem joinF_mono (l r:List Rg):(joinF l).length≤(joinF (l++r)).length:=by
 unfold joinF
 rw [List.foldl_append]
 generalize List.foldl jstep [] l=o
 induction r generalizing o with
 | nil=>simp
 | cons x r ih=>rw [List.foldl_cons];exact Nat.le_trans (jstep_length o x).1 (ih _)
theorem list_last {α:Type} (l:List α) (h:0<l.length):∃ i a,l=i++[a]:=by
 refine ⟨l.dropLast,l.getLast (by intro e;rw [e] at h;simp at h),?_⟩
 rw [List.dropLast_concat_getLast]
theorem jstep_last (i:List Rg) (a r:Rg):jstep (i++[a]) r=if r.1≤a.2+1 then i++[(a.1,if a.2<r.2 then r.2 else a.2)] else i++[a]++[r]:=by
 unfold jstep
 rw [List.length_append,List.length_singleton,Nat.add_sub_cancel,hi_last,lo_last]
 by_cases h:r.1≤a.2+1
 ·rw [if_pos ⟨by omega,h⟩,if_pos h,set_last]
 ·rw [if_neg (fun x=>h x.2),if_neg h]
theorem joinF_facts (l:List Rg) (hv:∀ r∈l,r.1≤r.2) (hs:l.Pairwise (fun r s=>r.1≤s.1)):Ord (joinF l)∧(∀ v,v∈vals (joinF l)↔v∈vals l)∧(∀ p∈joinF l,∃ q∈l,p.1=q.1)∧(∀ p∈joinF l,∃ q∈l,p.2=q.2):=by
 induction l using snoc_induct with
 | h0=>simp [joinF,Ord,vals]
 | h1 l r ih =>
  rw [List.pairwise_append] at hs
  obtain ⟨ho,hm,hp,hp2⟩:=ih (fun q hq=>hv q (by simp [hq])) hs.1
  have hr:=hv r (by simp)
  have hle:∀ q∈l,q.1≤r.1:=fun q hq=>hs.2.2 q hq r (by simp)
  rw [joinF_snoc]
  obtain ⟨o,eo⟩:∃ o,joinF l=o:=⟨_,rfl⟩
  rw [eo] at ho hm hp hp2 ⊢
  have hval:∀ v,v∈vals (l++[r])↔v∈vals l∨(r.1≤v∧v≤r.2):=fun v=>by rw [vals_append,List.mem_append,vals_cons];simp [vals]
  rcases Nat.eq_zero_or_pos o.length with h0 | h0
  ·have e:o=[]:=List.eq_nil_of_length_eq_zero h0
   subst e
   have ej:jstep [] r=[r]:=by unfold jstep;simp
   rw [ej]
   refine ⟨⟨fun q hq=>by rw [List.mem_singleton] at hq;rw [hq];exact hr,List.pairwise_singleton _ _⟩,fun v=>?_,fun p hp'=>⟨r,by simp,by rw [List.mem_singleton] at hp';rw [hp']⟩,fun p hp'=>⟨r,by simp,by rw [List.mem_singleton] at hp';rw [hp']⟩⟩
   rw [hval,←hm,vals_cons]
   simp [vals]
  ·obtain ⟨i,a,e⟩:=list_last o h0
   subst e
   rw [jstep_last]
   have hpw:=List.pairwise_append.1 ho.2
   have ha:=ho.1 a (by simp)
   have hal:a.1≤r.1:=by obtain ⟨q,hq,e⟩:=hp a (by simp);have:=hle q hq;omega
   have hlast:∀ v,v∈vals (i++[a])↔v∈vals i∨(a.1≤v∧v≤a.2):=fun v=>by rw [vals_append,List.mem_append,vals_cons];simp [vals]
   have hmm:∀ v,v∈vals l↔v∈vals i∨(a.1≤v∧v≤a.2):=fun v=>by rw [←hm,hlast]
   by_cases hc:r.1≤a.2+1
   ·rw [if_pos hc]
    obtain ⟨y,hy⟩:∃ y,(if a.2<r.2 then r.2 else a.2)=y:=⟨_,rfl⟩
    have hy1:a.2≤y∧r.2≤y∧(y=a.2∨y=r.2):=by split at hy<;>omega
    rw [hy]
    refine ⟨⟨fun q hq=>?_,?_⟩,fun v=>?_,fun p hp'=>?_,fun p hp'=>?_⟩
    ·rw [List.mem_append] at hq
     rcases hq with hq | hq
     ·exact ho.1 q (by simp [hq])
     ·rw [List.mem_singleton] at hq;rw [hq];show a.1≤y;omega
    ·rw [List.pairwise_append]
     refine ⟨hpw.1,List.pairwise_singleton _ _,fun p hp' q hq=>?_⟩
     rw [List.mem_singleton] at hq;rw [hq]
     exact hpw.2.2 p hp' a (by simp)
    ·rw [hval,hmm,vals_append,List.mem_append,vals_cons]
     simp only [vals,List.flatMap_nil,List.not_mem_nil,or_false]
     constructor
     ·rintro (h | ⟨h1,h2⟩)
      ·exact .inl (.inl h)
      ·have h1':a.1≤v:=h1
       have h2':v≤y:=h2
       by_cases h3:v≤a.2
       ·exact .inl (.inr ⟨h1',h3⟩)
       ·exact .inr ⟨by omega,by omega⟩
     ·rintro ((h | h) | h)
      ·exact .inl h
      ·exact .inr ⟨h.1,by show v≤y;omega⟩
      ·exact .inr ⟨by show a.1≤v;omega,by show v≤y;omega⟩
    ·rw [List.mem_append] at hp'
     rcases hp' with h | h
     ·obtain ⟨q,hq,e⟩:=hp p (by simp [h]);exact ⟨q,by simp [hq],e⟩
     ·rw [List.mem_singleton] at h
      obtain ⟨q,hq,e⟩:=hp a (by simp);exact ⟨q,by simp [hq],by rw [h];exact e⟩
    ·rw [List.mem_append] at hp'
     rcases hp' with h | h
     ·obtain ⟨q,hq,e⟩:=hp2 p (by simp [h]);exact ⟨q,by simp [hq],e⟩
     ·rw [List.mem_singleton] at h
      rcases hy1.2.2 with e | e
      ·obtain ⟨q,hq,e'⟩:=hp2 a (by simp);exact ⟨q,by simp [hq],by rw [h];show y=_;omega⟩
      ·exact ⟨r,by simp,by rw [h];exact e⟩
   ·rw [if_neg hc]
    refine ⟨⟨fun q hq=>?_,?_⟩,fun v=>?_,fun p hp'=>?_,fun p hp'=>?_⟩
    ·rw [List.mem_append] at hq
     rcases hq with hq | hq
     ·exact ho.1 q hq
     ·rw [List.mem_singleton] at hq;rw [hq];exact hr
    ·rw [List.pairwise_append]
     refine ⟨ho.2,List.pairwise_singleton _ _,fun p hp' q hq=>?_⟩
     rw [List.mem_singleton] at hq;rw [hq]
     rw [List.mem_append] at hp'
     rcases hp' with h | h
     ·have:=hpw.2.2 p h a (by simp);omega
     ·rw [List.mem_singleton] at h;rw [h];omega
    ·rw [hval,←hm,vals_append (i++[a]) [r],List.mem_append,vals_cons]
     simp [vals]
    ·rw [List.mem_append] at hp'
     rcases hp' with h | h
     ·obtain ⟨q,hq,e⟩:=hp p h;exact ⟨q,by simp [hq],e⟩
     ·rw [List.mem_singleton] at h;exact ⟨r,by simp,by rw [h]⟩
    ·rw [List.mem_append] at hp'
     rcases hp' with h | h
     ·obtain ⟨q,hq,e⟩:=hp2 p h;exact ⟨q,by simp [hq],e⟩
     ·rw [List.mem_singleton] at h;exact ⟨r,by simp,by rw [h]⟩
theorem joinF_ord (l:List Rg) (h:Ord l):joinF l=l:=by
 have hs:l.Pairwise (fun r s=>r.1≤s.1):=by
  rw [List.pairwise_iff_getElem]
  intro i j hi' hj hij
  have h2:=(List.pairwise_iff_getElem.1 h.2) i j hi' hj hij
  have h3:=h.1 l[i] (List.getElem_mem hi')
  omega
 have f:=joinF_facts l h.1 hs
 exact ord_ext f.1 h f.2.1
def mx (a b:Int):Int:=if a≤b then b else a
def mn (a b:Int):Int:=if a≤b then a else b
theorem mx_facts (a b:Int):a≤mx a b∧b≤mx a b∧(mx a b=a∨mx a b=b):=by unfold mx;split<;>omega
theorem mn_facts (a b:Int):mn a b≤a∧mn a b≤b∧(mn a b=a∨mn a b=b):=by unfold mn;split<;>omega
def ov1 (r s:Rg):List Rg:=if mx r.1 s.1≤mn r.2 s.2 then [(mx r.1 s.1,mn r.2 s.2)] else []
theorem ov1_mem (r s:Rg) (v:Int):v∈vals (ov1 r s)↔(r.1≤v∧v≤r.2∧s.1≤v∧v≤s.2):=by
 have h1:=mx_facts r.1 s.1
 have h2:=mn_facts r.2 s.2
 unfold ov1
 split
 ·rw [vals_cons];simp only [vals,List.flatMap_nil,List.not_mem_nil,or_false];omega
 ·simp only [vals,List.flatMap_nil,List.not_mem_nil,false_iff];omega
def ovF (a b:List Rg) (i j:Nat):List Rg :=
 if i<a.length∧j<b.length then
  ov1 (lo a i,hi a i) (lo b j,hi b j)++(if hi a i<hi b j then ovF a b (i+1) j else ovF a b i (j+1))
 else []
termination_by (a.length - i) + (b.length - j)
theorem ovF_no (a b:List Rg) (i j:Nat) (h:¬(i<a.length∧j<b.length)):ovF a b i j=[]:=by rw [ovF,if_neg h]
theorem ovF_yes (a b:List Rg) (i j:Nat) (h:i<a.length∧j<b.length):ovF a b i j=ov1 (lo a i,hi a i) (lo b j,hi b j)++(if hi a i<hi b j then ovF a b (i+1) j else ovF a b i (j+1)):=by rw [ovF,if_pos h]
theorem ovF_len (a b:List Rg):∀ n i j,(a.length-i)+(b.length-j)≤n→(ovF a b i j).length≤n:=by
 intro n
 induction n with
 | zero=>intro i j h;rw [ovF_no a b i j (by omega)];simp
 | succ n ih =>
  intro i j h
  by_cases hc:i<a.length∧j<b.length
  ·rw [ovF_yes a b i j hc,List.length_append]
   have h1:(ov1 (lo a i,hi a i) (lo b j,hi b j)).length≤1:=by unfold ov1;split<;>simp
   split
   ·have:=ih (i+1) j (by omega);omega
   ·have:=ih i (j+1) (by omega);omega
  ·rw [ovF_no a b i j hc];simp
theorem drop_vals (a:List Rg) (i:Nat) (h:i<a.length) (v:Int):v∈vals (a.drop i)↔(lo a i≤v∧v≤hi a i)∨v∈vals (a.drop (i+1)):=by
 rw [List.drop_eq_getElem_cons h,vals_cons,lo_get a i h,hi_get a i h]
theorem drop_ord {a:List Rg} (h:Ord a) (i:Nat):Ord (a.drop i):=⟨fun r hr=>h.1 r (List.mem_of_mem_drop hr),h.2.sublist (List.drop_sublist i a)⟩
theorem drop_above {a:List Rg} (h:Ord a) (i:Nat) (hi':i<a.length):∀ v∈vals (a.drop (i+1)),hi a i+1<v:=by
 have h1:=drop_ord h i
 rw [List.drop_eq_getElem_cons hi'] at h1
 have h2:=(ord_cons h1).2.2
 rw [hi_get a i hi']
 exact h2
theorem drop_ge {a:List Rg} (h:Ord a) (i:Nat) (hi':i<a.length):∀ v∈vals (a.drop i),lo a i≤v:=fun v hv=>by
 have h0:=h.1 a[i] (List.getElem_mem hi')
 rw [←lo_get a i hi',←hi_get a i hi'] at h0
 rcases (drop_vals a i hi' v).1 hv with x | x
 ·exact x.1
 ·have:=drop_above h i hi' v x;omega
theorem ovF_facts {a b:List Rg} (ha:Ord a) (hb:Ord b):∀ n i j,(a.length-i)+(b.length-j)≤n→Ord (ovF a b i j)∧(∀ v,v∈vals (ovF a b i j)↔v∈vals (a.drop i)∧v∈vals (b.drop j)):=by
 intro n
 induction n with
 | zero =>
  intro i j h
  rw [ovF_no a b i j (by omega)]
  refine ⟨⟨fun r hr=>(by cases hr),List.Pairwise.nil⟩,fun v=>?_⟩
  rw [List.drop_eq_nil_of_le (show a.length≤i by omega)]
  simp [vals]
 | succ n ih =>
  intro i j h
  by_cases hc:i<a.length∧j<b.length
  ·obtain ⟨hi',hj⟩:=hc
   rw [ovF_yes a b i j ⟨hi',hj⟩]
   have a0:=ha.1 a[i] (List.getElem_mem hi')
   have b0:=hb.1 b[j] (List.getElem_mem hj)
   rw [←lo_get a i hi',←hi_get a i hi'] at a0
   rw [←lo_get b j hj,←hi_get b j hj] at b0
   have da:=drop_vals a i hi'
   have db:=drop_vals b j hj
   have ua:=drop_above ha i hi'
   have ub:=drop_above hb j hj
   have ga:=drop_ge ha i hi'
   have gb:=drop_ge hb j hj
   obtain ⟨x1,hx1⟩:∃ x,lo a i=x:=⟨_,rfl⟩
   obtain ⟨x2,hx2⟩:∃ x,hi a i=x:=⟨_,rfl⟩
   obtain ⟨y1,hy1⟩:∃ x,lo b j=x:=⟨_,rfl⟩
   obtain ⟨y2,hy2⟩:∃ x,hi b j=x:=⟨_,rfl⟩
   simp only [hx1,hx2,hy1,hy2] at a0 b0 da db ua ub ga gb ⊢
   have o1:∀ p∈ov1 (x1,x2) (y1,y2),p.1≤p.2∧p.2≤x2∧p.2≤y2:=fun p hp=>by
    have m2:=mn_facts x2 y2
    unfold ov1 at hp
    split at hp
    ·rename_i hle
     rw [List.mem_singleton] at hp
     rw [hp]
     exact ⟨hle,m2.1,m2.2.1⟩
    ·cases hp
   have o2:(ov1 (x1,x2) (y1,y2)).Pairwise (fun r s=>r.2+1<s.1):=by unfold ov1;split<;>simp
   have join:∀ R,Ord R→(∀ q∈R,∀ p∈ov1 (x1,x2) (y1,y2),p.2+1<q.1)→Ord (ov1 (x1,x2) (y1,y2)++R):=fun R hR hq =>
    ⟨fun r hr=>by rcases List.mem_append.1 hr with h | h
                  ·exact (o1 r h).1
                  ·exact hR.1 r h,List.pairwise_append.2 ⟨o2,hR.2,fun p hp q hq'=>hq q hq' p hp⟩⟩
   by_cases hlt:x2<y2
   ·rw [if_pos hlt]
    obtain ⟨i1,i2⟩:=ih (i+1) j (by omega)
    refine ⟨join _ i1 fun q hq p hp=>?_,fun v=>?_⟩
    ·have q1:q.1∈vals (ovF a b (i+1) j):=(mem_vals' _ _).2 ⟨q,hq,Int.le_refl _,i1.1 q hq⟩
     have:=ua _ ((i2 _).1 q1).1
     have:=(o1 p hp).2.1
     omega
    ·rw [vals_append,List.mem_append,ov1_mem,i2,da,db]
     constructor
     ·rintro (h | ⟨h1,h2⟩)
      ·exact ⟨.inl ⟨h.1,h.2.1⟩,.inl h.2.2⟩
      ·exact ⟨.inr h1,h2⟩
     ·rintro ⟨h1,h2⟩
      rcases h1 with h1 | h1
      ·rcases h2 with h2 | h2
       ·exact .inl ⟨h1.1,h1.2,h2⟩
       ·have:=ub v h2;omega
      ·exact .inr ⟨h1,h2⟩
   ·rw [if_neg hlt]
    obtain ⟨i1,i2⟩:=ih i (j+1) (by omega)
    refine ⟨join _ i1 fun q hq p hp=>?_,fun v=>?_⟩
    ·have q1:q.1∈vals (ovF a b i (j+1)):=(mem_vals' _ _).2 ⟨q,hq,Int.le_refl _,i1.1 q hq⟩
     have:=ub _ ((i2 _).1 q1).2
     have:=(o1 p hp).2.2
     omega
    ·rw [vals_append,List.mem_append,ov1_mem,i2,da,db]
     constructor
     ·rintro (h | ⟨h1,h2⟩)
      ·exact ⟨.inl ⟨h.1,h.2.1⟩,.inl h.2.2⟩
      ·exact ⟨h1,.inr h2⟩
     ·rintro ⟨h1,h2⟩
      rcases h2 with h2 | h2
      ·rcases h1 with h1 | h1
       ·exact .inl ⟨h1.1,h1.2,h2⟩
       ·have:=ua v h1;omega
      ·exact .inr ⟨h1,h2⟩
  ·rw [ovF_no a b i j hc]
   refine ⟨⟨fun r hr=>(by cases hr),List.Pairwise.nil⟩,fun v=>?_⟩
   by_cases h1:i<a.length
   ·rw [List.drop_eq_nil_of_le (show b.length≤j by omega)];simp [vals]
   ·rw [List.drop_eq_nil_of_le (show a.length≤i by omega)];simp [vals]
def ov (a b:List Rg):List Rg:=ovF a b 0 0
theorem ov_facts {a b:List Rg} (ha:Ord a) (hb:Ord b):Ord (ov a b)∧∀ v,v∈vals (ov a b)↔v∈vals a∧v∈vals b:=ovF_facts ha hb _ 0 0 (Nat.le_refl _)
theorem ov_pieces {a b:List Rg} (ha:Ord a) (hb:Ord b):ov a b=pieces b a:=by
 have f:=ov_facts ha hb
 exact ord_ext f.1 (ord_pieces hb ha) fun v=>by rw [f.2,mem_pieces];exact And.comm
theorem ov_len (a b:List Rg):(ov a b).length≤a.length+b.length:=ovF_len a b _ 0 0 (by omega)
end Go.Proofs.YtghnfnieppfhgaaGreat.Dm
