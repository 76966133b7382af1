/- What is proved here: what sets.choices returns: a row of Pascal's triangle. What is proved here: what sets.Count returns of any domain. What is proved here: the mathematics of domains of sets: which sets are in them, and how many. -/
import Derived.OrdersHeld
import Derived.OrdersIn
import Derived.Test.YtghnfnieppfhgaaGreatYSfj
import Derived.Deep.MidRow
import Derived.Great.BuildSlice
import Derived.Test.YtghnfnieppfhgaaGreatYSdj
set_option linter.unusedVariables false
set_option linter.unusedSimpArgs false
namespace Go.Proofs.YtghnfnieppfhgaaGreat.St
open Go.RowKit Go.Shelf
def ch:Nat→Nat→Int
 | 0,k=>if k=0 then 1 else 0
 | r+1,k=>if k=0 then ch r 0 else ch r k+ch r (k-1)
theorem ch_nonneg:∀ r k,0≤ch r k
 | 0,k=>by unfold ch;split<;>decide
 | r+1,k=>by unfold ch;split;exact ch_nonneg r 0;exact Int.add_nonneg (ch_nonneg r k) (ch_nonneg r (k-1))
theorem ch_zero:∀ r k,r<k→ch r k=0
 | 0,k,h=>by unfold ch;rw [if_neg (by omega)]
 | r+1,k,h=>by unfold ch;rw [if_neg (by omega),ch_zero r k (by omega),ch_zero r (k-1) (by omega)];rfl
theorem ch_first:∀ r,ch r 0=1
 | 0=>rfl
 | r+1=>by unfold ch;rw [if_pos rfl];exact ch_first r
theorem ch_pow:∀ r k,ch r k≤2 ^ r
 | 0,k=>by unfold ch;split<;>decide
 | r+1,k=>by
  unfold ch
  have h1:=ch_pow r k
  have h2:=ch_pow r (k-1)
  have h3:=ch_pow r 0
  have h4:(2:Int) ^ (r+1)=2 ^ r+2 ^ r:=by rw [Int.pow_succ];omega
  have h5:(0:Int)≤2 ^ r:=Int.le_trans (ch_nonneg r k) h1
  split<;>omega
theorem ch_base:∀ k,k≤12→ch 12 k≤924:=by decide +kernel
theorem ch_twelve:∀ t k,ch (12+t) k≤924*2 ^ t
 | 0,k=>by
  rcases Nat.lt_or_ge 12 k with h | h
  ·rw [Nat.add_zero,ch_zero 12 k h];decide
  ·have:=ch_base k h;simpa using this
 | t+1,k=>by
  have h1:=ch_twelve t k
  have h2:=ch_twelve t (k-1)
  have h3:=ch_twelve t 0
  have h4:(2:Int) ^ (t+1)=2 ^ t+2 ^ t:=by rw [Int.pow_succ];omega
  have h5:=ch_nonneg (12+t) k
  have h6:=ch_nonneg (12+t) (k-1)
  show ch (12+t+1) k≤_
  unfold ch
  split<;>omega
theorem pow_mono2 {a b:Nat} (h:a≤b):(2:Int) ^ a≤2 ^ b:=by
 have:=Nat.pow_le_pow_right (n:=2) (by decide) h
 exact_mod_cast this
theorem ch_lt (r k:Nat) (hr:r≤64):ch r k<4611686018427387904:=by
 rcases Nat.lt_or_ge r 12 with h | h
 ·have h1:=ch_pow r k
  have h2:=pow_mono2 (show r≤12 by omega)
  have h3:(2:Int) ^ 12=4096:=by decide
  omega
 ·obtain ⟨t,rfl⟩:∃ t,r=12+t:=⟨r-12,by omega⟩
  have h1:=ch_twelve t k
  have h2:=pow_mono2 (show t≤52 by omega)
  have h3:(2:Int) ^ 52=4503599627370496:=by decide
  omega
theorem taken_facts (d:SD):(takenD d).lo.length≤(takenD d).up.length∧(takenD d).up.length≤64∧((takenD d).lo.length:Int)≤(takenD d).least∧(takenD d).most≤((takenD d).up.length:Int)∧(takenD d).least≤64∧-64≤(takenD d).most∧(takenD d).rn=0∧(takenD d).set=true∧IsSet (takenD d).lo∧IsSet (takenD d).up:=by
 have hnone:noneD.lo.length≤noneD.up.length∧noneD.up.length≤64∧(noneD.lo.length:Int)≤noneD.least∧noneD.most≤(noneD.up.length:Int)∧noneD.least≤64∧-64≤noneD.most∧noneD.rn=0∧noneD.set=true∧IsSet noneD.lo∧IsSet noneD.up:=by
  refine ⟨by decide,by decide,by decide,by decide,by decide,by decide,rfl,rfl,?_,?_⟩<;>exact ⟨by decide,fun i hi=>by simp [noneD] at hi⟩
 unfold takenD
 split
 ·rename_i hR
  obtain ⟨_,_,s1,s2,_,hh⟩:=hR
  have l1:=s1.1
  have l2:=s2.1
  unfold tightD
  dsimp only
  split
  ·exact hnone
  ·rename_i hML
   rcases hh with ⟨e1,e2,e3⟩ | ⟨e1,e2,e3⟩
   ·exfalso;omega
   ·by_cases q1:max d.least (d.lo.length:Int)=(d.up.length:Int)
    ·simp only [q1,if_true]
     by_cases q2:min d.most (d.up.length:Int)=(d.up.length:Int)
     ·simp only [q2,if_true]
      refine ⟨by omega,by omega,by omega,by omega,by omega,by omega,trivial,trivial,s2,s2⟩
     ·simp only [q2,if_false]
      refine ⟨by omega,by omega,by omega,by omega,by omega,by omega,trivial,trivial,s2,s2⟩
    ·simp only [q1,if_false]
     by_cases q2:min d.most (d.up.length:Int)=(d.lo.length:Int)
     ·simp only [q2,if_true]
      refine ⟨by omega,by omega,by omega,by omega,by omega,by omega,trivial,trivial,s1,s1⟩
     ·simp only [q2,if_false]
      refine ⟨by omega,by omega,by omega,by omega,by omega,by omega,trivial,trivial,s1,s2⟩
 ·exact hnone
def cs (r base:Nat):Nat→Int
 | 0=>0
 | j+1=>min (cs r base j+ch r (base+j)) 4611686018427387904
def countT (T:SD):Int:=cs (T.up.length-T.lo.length) (T.least-(T.lo.length:Int)).toNat (T.most+1-T.least).toNat
def countD (d:SD):Int:=countT (takenD d)
theorem subB_iff (a b:List Int):subB a b=true↔∀ x∈a,x∈b:=by
 unfold subB lessL
 rw [decide_eq_true_iff,List.length_eq_zero_iff,List.filter_eq_nil_iff]
 simp
theorem pw_sub:∀ (b a:List Int),a.Pairwise (· < ·)→b.Pairwise (· < ·)→(∀ x∈a,x∈b)→a.Sublist b
 | [],a,_,_,h=>by
  cases a with
  | nil=>exact List.Sublist.slnil
  | cons x a=>exact absurd (h x List.mem_cons_self) (by simp)
 | y :: b,[],_,_,_=>List.nil_sublist _
 | y :: b,x :: a,ha,hb,h=>by
  rw [List.pairwise_cons] at ha hb
  rcases List.mem_cons.1 (h x List.mem_cons_self) with e | e
  ·subst e
   refine (pw_sub b a ha.2 hb.2 fun z hz=>?_).cons_cons x
   rcases List.mem_cons.1 (h z (List.mem_cons_of_mem _ hz)) with e2 | e2
   ·have:=ha.1 z hz;omega
   ·exact e2
  ·refine (pw_sub b (x :: a) (List.pairwise_cons.2 ha) hb.2 fun z hz=>?_).cons y
   have hxy:=hb.1 x e
   rcases List.mem_cons.1 (h z hz) with e2 | e2
   ·rcases List.mem_cons.1 hz with e3 | e3
    ·omega
    ·have:=ha.1 z e3;omega
   ·exact e2
theorem set_sub {a b:List Int} (ha:IsSet a) (hb:IsSet b) (h:∀ x∈a,x∈b):a.Sublist b:=pw_sub b a (set_pw ha) (set_pw hb) h
theorem set_sub_len {a b:List Int} (ha:IsSet a) (hb:IsSet b) (h:∀ x∈a,x∈b):a.length≤b.length:=(set_sub ha hb h).length_le
theorem set_sub_eq {a b:List Int} (ha:IsSet a) (hb:IsSet b) (h:∀ x∈a,x∈b) (hl:b.length≤a.length):a=b:=(set_sub ha hb h).eq_of_length_le hl
theorem set_ext {a b:List Int} (ha:IsSet a) (hb:IsSet b) (h:∀ x,x∈a↔x∈b):a=b :=
 set_sub_eq ha hb (fun x hx=>(h x).1 hx) (set_sub_len hb ha fun x hx=>(h x).2 hx)
def InD (d:SD) (l:List Int):Prop:=(∀ x∈d.lo,x∈l)∧(∀ x∈l,x∈d.up)∧d.least≤l.length∧(l.length:Int)≤d.most
def TD (lo up:List Int) (least most:Int):SD:=⟨true,0,lo,up,least,most⟩
theorem none_right:RightD noneD:=⟨rfl,rfl,isSet_nil,isSet_nil,rfl,.inl ⟨rfl,rfl,rfl⟩⟩
theorem tight_cases {lo up:List Int} (least most:Int) (h1:IsSet lo) (h2:IsSet up) (hs:∀ x∈lo,x∈up) :
  (tightD lo up least most=noneD∧min most up.length<max least lo.length) ∨
  (tightD lo up least most=TD up up up.length up.length∧max least lo.length=up.length∧(up.length:Int)≤most) ∨
  (tightD lo up least most=TD lo lo lo.length lo.length∧min most up.length=lo.length∧least≤lo.length∧lo.length<up.length) ∨
  (tightD lo up least most=TD lo up (max least lo.length) (min most up.length)∧max least lo.length≤min most up.length∧lo.length<up.length):=by
 have hl:=set_sub_len h1 h2 hs
 unfold tightD
 dsimp only
 by_cases a:min most (up.length:Int)<max least (lo.length:Int)
 ·rw [if_pos a];exact .inl ⟨rfl,a⟩
 ·rw [if_neg a]
  by_cases b:max least (lo.length:Int)=(up.length:Int)
  ·have c:min most (up.length:Int)=(up.length:Int):=by omega
   simp only [b,c,if_true]
   exact .inr (.inl ⟨by unfold TD;congr 1<;>omega,trivial,by omega⟩)
  ·simp only [if_neg b]
   by_cases c:min most (up.length:Int)=(lo.length:Int)
   ·simp only [c,if_true]
    exact .inr (.inr (.inl ⟨by unfold TD;congr 1<;>omega,trivial,by omega,by omega⟩))
   ·simp only [if_neg c]
    exact .inr (.inr (.inr ⟨by unfold TD;congr 1<;>omega,by omega,by omega⟩))
theorem sub_refl (a:List Int):subB a a=true:=(subB_iff a a).2 fun _ h=>h
theorem tight_right {lo up:List Int} (least most:Int) (h1:IsSet lo) (h2:IsSet up) (hs:∀ x∈lo,x∈up):RightD (tightD lo up least most):=by
 rcases tight_cases least most h1 h2 hs with ⟨e,a⟩ | ⟨e,a,b⟩ | ⟨e,a,b,c⟩ | ⟨e,a,b⟩<;>rw [e]
 ·exact none_right
 ·exact ⟨rfl,rfl,h2,h2,sub_refl _,.inr ⟨Int.le_refl _,Int.le_refl _,Int.le_refl _⟩⟩
 ·exact ⟨rfl,rfl,h1,h1,sub_refl _,.inr ⟨Int.le_refl _,Int.le_refl _,Int.le_refl _⟩⟩
 ·exact ⟨rfl,rfl,h1,h2,(subB_iff _ _).2 hs,.inr ⟨by simp only [TD];omega,by simp only [TD];omega,by simp only [TD];omega⟩⟩
theorem right_sub {d:SD} (h:RightD d):∀ x∈d.lo,x∈d.up:=(subB_iff _ _).1 h.2.2.2.2.1
theorem taken_right (d:SD):RightD (takenD d):=by
 unfold takenD
 split
 ·rename_i h;exact tight_right _ _ h.2.2.1 h.2.2.2.1 (right_sub h)
 ·exact none_right
def hasD (d:SD) (l:List Int):Bool:=rightD d&&subB (tkS d.lo) (tkS l)&&subB (tkS l) (tkS d.up)&&decide (d.least≤(tkS l).length)&&decide (((tkS l).length:Int)≤d.most)
theorem has_iff (d:SD) (l:List Int):hasD d l=true↔RightD d∧InD d (tkS l):=by
 unfold hasD rightD InD
 simp only [Bool.and_eq_true,decide_eq_true_iff,subB_iff]
 constructor
 ·rintro ⟨⟨⟨⟨h,a⟩,b⟩,c⟩,e⟩
  rw [tkS_yes h.2.2.1] at a
  rw [tkS_yes h.2.2.2.1] at b
  exact ⟨h,a,b,c,e⟩
 ·rintro ⟨h,a,b,c,e⟩
  rw [tkS_yes h.2.2.1,tkS_yes h.2.2.2.1]
  exact ⟨⟨⟨⟨h,a⟩,b⟩,c⟩,e⟩
theorem join_mem (a b:List Int) (x:Int):x∈joinL a b↔x∈a∨x∈b:=by
 unfold joinL sortL
 rw [(List.mergeSort_perm _ _).mem_iff,List.mem_append]
 unfold lessL
 rw [List.mem_filter]
 by_cases h:x∈a<;>simp [h]
theorem less_mem (a b:List Int) (x:Int):x∈lessL a b↔x∈a∧¬x∈b:=by
 unfold lessL;rw [List.mem_filter];simp
theorem join_pw {a b:List Int} (ha:IsSet a) (hb:IsSet b):(joinL a b).Pairwise (· < ·):=by
 have hp:(joinL a b).Perm (a++lessL b a):=List.mergeSort_perm _ _
 have nd:(joinL a b).Nodup:=by
  rw [hp.nodup_iff,List.nodup_append]
  refine ⟨(set_pw ha).imp (by omega),((set_pw hb).filter _).imp (by omega),fun x hx y hy=>?_⟩
  have:=((less_mem b a y).1 hy).2
  intro e;subst e;exact this hx
 have h2:=(sort_pw (a++lessL b a)).and nd
 exact h2.imp (by omega)
def sm (f:Nat→Int):Nat→Int
 | 0=>0
 | n+1=>sm f n+f n
theorem sm_congr {f g:Nat→Int}:∀ n,(∀ i,i<n→f i=g i)→sm f n=sm g n
 | 0,_=>rfl
 | n+1,h=>by unfold sm;rw [sm_congr n fun i hi=>h i (by omega),h n (by omega)]
theorem sm_zero {f:Nat→Int}:∀ n,(∀ i,i<n→f i=0)→sm f n=0
 | 0,_=>rfl
 | n+1,h=>by unfold sm;rw [sm_zero n fun i hi=>h i (by omega),h n (by omega)];rfl
theorem sm_more {f:Nat→Int} (a:Nat):∀ j,(∀ i,a≤i→i<a+j→f i=0)→sm f (a+j)=sm f a
 | 0,_=>rfl
 | j+1,h=>by
  show sm f (a+j)+f (a+j)=_
  rw [sm_more a j fun i h1 h2=>h i h1 (by omega),h (a+j) (by omega) (by omega)];omega
theorem sm_nonneg {f:Nat→Int}:∀ n,(∀ i,i<n→0≤f i)→0≤sm f n
 | 0,_=>Int.le_refl _
 | n+1,h=>Int.add_nonneg (sm_nonneg n fun i hi=>h i (by omega)) (h n (by omega))
theorem sm_mono {f:Nat→Int} (hf:∀ i,0≤f i) (a:Nat):∀ j,sm f a≤sm f (a+j)
 | 0=>Int.le_refl _
 | j+1=>by
  have h1:=sm_mono hf a j
  have h2:=hf (a+j)
  show _≤sm f (a+j)+f (a+j)
  omega
theorem sm_one {f:Nat→Int} (k:Nat) (n:Nat) (hk:k<n) (h:∀ i,i<n→i≠k→f i=0):sm f n=f k:=by
 have e1:sm f k=0:=sm_zero k fun i hi=>h i (by omega) (by omega)
 have e2:sm f (k+1)=f k:=by show sm f k+f k=f k;omega
 have e3:=sm_more (f:=f) (k+1) (n-(k+1)) fun i h1 h2=>h i (by omega) (by omega)
 rw [show k+1+(n-(k+1))=n by omega] at e3
 omega
theorem sm_mid (f:Nat→Int) (b j m:Nat) (hm:b+j≤m):sm (fun i=>if b≤i∧i<b+j then f i else 0) m=sm (fun i=>f (b+i)) j:=by
 have e1:∀ t,t≤j→sm (fun i=>if b≤i∧i<b+j then f i else 0) (b+t)=sm (fun i=>f (b+i)) t:=by
  intro t
  induction t with
  | zero=>intro _;exact sm_zero _ fun i hi=>if_neg (by omega)
  | succ t ih =>
   intro h
   show sm (fun i=>if b≤i∧i<b+j then f i else 0) (b+t)+(if b≤b+t∧b+t<b+j then f (b+t) else 0)=sm (fun i=>f (b+i)) t+f (b+t)
   rw [ih (by omega),if_pos (by omega)]
 have e2:=sm_more (f:=fun i=>if b≤i∧i<b+j then f i else 0) (b+j) (m-(b+j)) fun i h1 h2=>if_neg (by omega)
 rw [show b+j+(m-(b+j))=m by omega] at e2
 rw [e2,e1 j (Nat.le_refl _)]
def nsf (r n:Nat) (least most:Int) (i:Nat):Int:=if least≤(n:Int)+i∧(n:Int)+i≤most then ch r i else 0
def NS (r n:Nat) (least most:Int):Int:=sm (nsf r n least most) (r+1)
theorem nsf_nonneg (r n:Nat) (least most:Int) (i:Nat):0≤nsf r n least most i:=by
 unfold nsf;split
 ·exact ch_nonneg r i
 ·exact Int.le_refl _
theorem NS_more (r n:Nat) (least most:Int) (m:Nat) (hm:r+1≤m):sm (nsf r n least most) m=NS r n least most:=by
 have:=sm_more (f:=nsf r n least most) (r+1) (m-(r+1)) fun i h1 h2=>by
  unfold nsf;rw [ch_zero r i (by omega)];split<;>rfl
 rw [show r+1+(m-(r+1))=m by omega] at this
 exact this
theorem ch_last:∀ r,ch r r=1
 | 0=>rfl
 | r+1=>by unfold ch;rw [if_neg (by omega),ch_zero r (r+1) (by omega),Nat.add_sub_cancel,ch_last r];rfl
def NSd (d:SD):Int:=NS (d.up.length-d.lo.length) d.lo.length d.least d.most
theorem NS_none:NSd noneD=0:=by decide
theorem NS_empty (r n:Nat) (least most:Int) (h:∀ i:Nat,i<r+1→¬(least≤(n:Int)+i∧(n:Int)+i≤most)):NS r n least most=0 :=
 sm_zero _ fun i hi=>by unfold nsf;rw [if_neg (h i hi)]
theorem NS_tight {lo up:List Int} (least most:Int) (h1:IsSet lo) (h2:IsSet up) (hs:∀ x∈lo,x∈up):NSd (tightD lo up least most)=NSd (TD lo up least most):=by
 have hl:=set_sub_len h1 h2 hs
 obtain ⟨n,hn⟩:∃ n,lo.length=n:=⟨_,rfl⟩
 obtain ⟨m,hm⟩:∃ n,up.length=n:=⟨_,rfl⟩
 rcases tight_cases least most h1 h2 hs with ⟨e,a⟩ | ⟨e,a,b⟩ | ⟨e,a,b,c⟩ | ⟨e,a,b⟩<;>rw [e]
 ·rw [NS_none]
  symm
  show NS (up.length-lo.length) lo.length least most=0
  apply NS_empty
  intro i hi
  omega
 ·show NS (up.length-up.length) up.length up.length up.length=NS (up.length-lo.length) lo.length least most
  rw [hn,hm] at *
  have x1:NS (m-m) m m m=1:=by
   rw [Nat.sub_self]
   show 0+nsf 0 m m m 0=1
   unfold nsf
   rw [if_pos (by omega)];rfl
  have x2:NS (m-n) n least most=nsf (m-n) n least most (m-n):=by
   apply sm_one (m-n) (m-n+1) (by omega)
   intro i hi hne
   unfold nsf
   rw [if_neg (by omega)]
  rw [x1,x2]
  unfold nsf
  rw [if_pos (by omega),ch_last]
 ·show NS (lo.length-lo.length) lo.length lo.length lo.length=NS (up.length-lo.length) lo.length least most
  rw [hn,hm] at *
  have x1:NS (n-n) n n n=1:=by
   rw [Nat.sub_self]
   show 0+nsf 0 n n n 0=1
   unfold nsf
   rw [if_pos (by omega)];rfl
  have x2:NS (m-n) n least most=nsf (m-n) n least most 0:=by
   apply sm_one 0 (m-n+1) (by omega)
   intro i hi hne
   unfold nsf
   rw [if_neg (by omega)]
  rw [x1,x2]
  unfold nsf
  rw [if_pos (by omega),ch_first]
 ·show NS (up.length-lo.length) lo.length (max least lo.length) (min most up.length)=NS (up.length-lo.length) lo.length least most
  rw [hn,hm] at *
  apply sm_congr
  intro i hi
  unfold nsf
  by_cases c:least≤(n:Int)+i∧(n:Int)+i≤most
  ·rw [if_pos c,if_pos (by omega)]
  ·rw [if_neg c,if_neg (by omega)]
theorem cs_sum (r b:Nat):∀ j,cs r b j=min (sm (fun i=>ch r (b+i)) j) 4611686018427387904
 | 0=>rfl
 | j+1=>by
  have h1:=cs_sum r b j
  have h2:=ch_nonneg r (b+j)
  show min (cs r b j+ch r (b+j)) _=min (sm (fun i=>ch r (b+i)) j+ch r (b+j)) _
  rw [h1]
  omega
theorem count_NS (d:SD):countD d=min (NSd (takenD d)) 4611686018427387904:=by
 obtain ⟨f1,f2,f3,f4,f5,f6,_⟩:=taken_facts d
 unfold countD countT NSd
 generalize takenD d=T at *
 generalize T.lo.length=n at *
 generalize T.up.length=m at *
 rw [cs_sum]
 congr 1
 obtain ⟨b,hb⟩:∃ b,(T.least-(n:Int)).toNat=b:=⟨_,rfl⟩
 obtain ⟨j,hj⟩:∃ b,(T.most+1-T.least).toNat=b:=⟨_,rfl⟩
 rw [hb,hj]
 rw [←sm_mid (ch (m-n)) b j (b+j+(m-n+1)) (by omega),←NS_more (m-n) n T.least T.most (b+j+(m-n+1)) (by omega)]
 apply sm_congr
 intro i _
 unfold nsf
 by_cases c:b≤i∧i<b+j
 ·rw [if_pos c,if_pos (by omega)]
 ·rw [if_neg c,if_neg (by omega)]
theorem NS_taken {d:SD} (h:RightD d):NSd (takenD d)=NSd d:=by
 unfold takenD
 rw [if_pos h,NS_tight _ _ h.2.2.1 h.2.2.2.1 (right_sub h)]
 rfl
theorem count_right {d:SD} (h:RightD d):countD d=min (NSd d) 4611686018427387904:=by rw [count_NS,NS_taken h]
end Go.Proofs.YtghnfnieppfhgaaGreat.St
