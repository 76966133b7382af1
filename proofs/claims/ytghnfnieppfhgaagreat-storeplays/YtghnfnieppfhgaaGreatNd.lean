/- What is proved here: what the walk of StoreBack holds; Depth; Within of a domain that became smaller or empty. -/
import Derived.Test.YtghnfnieppfhgaaGreatMjj
import Derived.Test.YtghnfnieppfhgaaGreatFdj
import Derived.Test.YtghnfnieppfhgaaGreatMmj
set_option linter.unusedVariables false
set_option linter.unusedSimpArgs false
namespace Go.Proofs.YtghnfnieppfhgaaGreat
attribute [local instance] noG
open Go.RowKit Go.Shelf
structure Bk (D0 : List MD) (st : StM) (Ls : List (List MD)) (q : Nat) : Prop where
 fr:∃ fr,Tk st fr∧fr.map Fr.D=Ls
 w:Wb D0 st.D
 ws:∀ X∈Ls,Wb D0 X
 sv:st.saved.length≤q
theorem Bk.nar {D0:List MD} {st:StM} {Ls:List (List MD)} {q:Nat} (h:Bk D0 st Ls q) (v:Int) (d:MD):Bk D0 (narM st v d) Ls (q+1):=by
 obtain ⟨fr,h1,h2⟩:=h.fr
 obtain ⟨⟨fr',e1,e2⟩,e3,e4⟩:=h1.nar v d
 exact ⟨⟨fr',e2,e1.trans h2⟩,e4 _ h.w,h.ws,by have:=h.sv;omega⟩
theorem Bk.more {D0:List MD} {st:StM} {Ls:List (List MD)} {q:Nat} (h:Bk D0 st Ls q):Bk D0 st Ls (q+1):=⟨h.fr,h.w,h.ws,by have:=h.sv;omega⟩
theorem Bk.why {D0:List MD} {st:StM} {Ls:List (List MD)} {q:Nat} (h:Bk D0 st Ls q) (w:List Int):Bk D0 { st with why:=w } Ls q:=by
 obtain ⟨fr,h1,h2⟩:=h.fr
 exact ⟨⟨fr,h1.why w,h2⟩,h.w,h.ws,h.sv⟩
theorem Bk.push {D0:List MD} {st:StM} {Ls:List (List MD)} {q:Nat} (h:Bk D0 st Ls q):Bk D0 { st with marks:=st.marks++[(st.saved.length:Int)] } (st.D :: Ls) q:=by
 obtain ⟨fr,h1,h2⟩:=h.fr
 refine ⟨⟨_,h1.push,by rw [List.map_cons,h2]⟩,h.w,fun X hX=>?_,h.sv⟩
 rcases List.mem_cons.1 hX with rfl | hX
 ·exact h.w
 ·exact h.ws X hX
theorem Bk.pop {D0:List MD} {st:StM} {X:List MD} {Ls:List (List MD)} {q:Nat} (h:Bk D0 st (X :: Ls) q) :
  ∃ (ms:List Int) (f:Nat),st.marks=ms++[(f:Int)]∧f≤st.saved.length∧(∀ t∈st.saved.drop f,0≤t.1∧t.1<st.D.length)∧Bk D0 (popA st ms f) Ls q∧(popA st ms f).D=X:=by
 obtain ⟨fr,h1,h2⟩:=h.fr
 cases fr with
 | nil=>cases h2
 | cons f fr =>
  rw [List.map_cons] at h2
  injection h2 with h2 h3
  obtain ⟨k1,k2,k3⟩:=h1.pop
  have hsv:st.saved=sav fr++f.seg:=h1.sv
  have hle:(sav fr).length≤st.saved.length:=by rw [hsv];simp
  refine ⟨mrk fr,(sav fr).length,h1.mr,hle,k3,⟨⟨fr,k1,h3⟩,?_,fun Y hY=>h.ws Y (by simp [hY]),?_⟩,k2.trans h2⟩
  ·rw [k2,h2];exact h.ws X (by simp)
  ·show (st.saved.take _).length≤q
   have:=h.sv
   rw [List.length_take]
   omega
theorem Bk.ml {D0:List MD} {st:StM} {Ls:List (List MD)} {q:Nat} (h:Bk D0 st Ls q):st.marks.length=Ls.length:=by
 obtain ⟨fr,h1,h2⟩:=h.fr
 rw [h1.mr,mrk_len,←h2,List.length_map]
theorem Bk.held {D0:List MD} {st:StM} {Ls:List (List MD)} {q:Nat} (h:Bk D0 st Ls q):∀ o∈st.D,Held o:=fun o ho=>right_held (h.w.tt o ho).r
theorem Bk.em {D0:List MD} {st:StM} {Ls:List (List MD)} {q:Nat} (h:Bk D0 st Ls q):st.e=emS st.D:=by obtain ⟨fr,h1,_⟩:=h.fr;exact h1.e
theorem Bk.e0 {D0:List MD} {st:StM} {Ls:List (List MD)} {q:Nat} (h:Bk D0 st Ls q):0≤st.e:=by rw [h.em];exact (emS_bd _).1
theorem Bk.eb {D0:List MD} {st:StM} {Ls:List (List MD)} {q:Nat} (h:Bk D0 st Ls q) (h0:D0.length≤60):st.e≤60:=by rw [h.em];have:=(emS_bd st.D).2;have:=h.w.l;omega
theorem Bk.ne {D0:List MD} {st:StM} {Ls:List (List MD)} {q:Nat} (h:Bk D0 st Ls q):st.e=0→∀ o∈st.D,emptyA o=false:=fun he=>emS_zero (by rw [←h.em];exact he)
theorem none_rboth {s:St.SD} (h:St.emptyD s=true) (z:St.SD):St.rbothD s z=St.noneD:=by
 unfold St.rbothD
 rw [(St.empty_yes h).2]
 have:St.emptyD St.noneD=true:=by decide
 simp [this]
theorem self_empty {d:MD} (hd:rightM d=true):emptyA (bothA d d)=emptyA d:=by
 cases he:emptyA d
 ·exact self_ne hd he
 ·cases hs:d.set
  ·have nd:=num_of hs hd
   have e:bothA d d=bothW d d:=by unfold bothA;rw [if_neg (by rw [hs];decide)]
   have hb:Dm.bothR d.r d.r=d.r:=both_num nd.1 hs (LeA.refl d)
   unfold emptyA emptyW at he
   rw [if_neg (by rw [hs];decide)] at he
   rw [e]
   unfold emptyA emptyW bothW
   simp only [Bool.false_eq_true,if_false,hb]
   exact he
  ·have he':St.emptyD (sdM d)=true:=by rw [←empty_sd hs hd];exact he
   have e:bothA d d=ofSD St.noneD:=by unfold bothA;rw [if_pos hs,←St.both_same,none_rboth he']
   rw [e];rfl
theorem bk_new {l:List MD} (hl:l.length≤1000) (hr:∀ d∈l,rightM d=true):Bk (newA l).D (newA l) [] 0:=by
 have hD:(newA l).D=l.map (fun d=>bothA d d):=rfl
 have hsum:∀ l:List MD,(∀ d∈l,rightM d=true)→(l.map (fun d=>emptI (emptyA d))).sum=emS (l.map (fun d=>bothA d d)):=by
  intro l
  induction l with
  | nil=>intro _;rfl
  | cons d l ih =>
   intro h
   have e1:emS ((d :: l).map fun d=>bothA d d)=emptI (emptyA (bothA d d))+emS (l.map fun d=>bothA d d):=by simp [emS]
   rw [e1,List.map_cons,List.sum_cons,ih (fun x hx=>h x (by simp [hx]))]
   have e2:emptyA (bothA d d)=emptyA d:=self_empty (h d (by simp))
   rw [e2]
 refine ⟨⟨[],⟨rfl,rfl,fun v=>?_,?_,?_⟩,rfl⟩,Wb.refl fun o ho=>?_,fun X hX=>(by cases hX),Nat.zero_le _⟩
 ·show (List.replicate l.length (0:Int)).getD v 0=0
  rw [List.getD_eq_getElem?_getD,List.getElem?_replicate];split<;>rfl
 ·show (List.replicate l.length (0:Int)).length=(l.map _).length
  simp
 ·exact hsum l hr
 ·rw [hD] at ho
  obtain ⟨d,hd,rfl⟩:=List.mem_map.1 ho
  exact both_tt (hr d hd)
def Scr2 (w:World) (s:Value) (S:List (Int × Int × MD)):Prop :=
 ∃ a c,s = .slice a S.length c∧(0<S.length→∃ b off,a=some ⟨b,off,none⟩∧b<w.heap.size∧∀ (i:Nat) kd v d,S[i]? = some (kd,v,d)→∃ c0 c1 c2 c3 c4 c5,Dc (fun _=>False) w [c0,c1,c2,c3,c4,c5] d∧w.cell? ⟨b,off+i*8,none⟩=some (.int .i64 kd)∧w.cell? ⟨b,off+i*8+1,none⟩=some (.int .i64 v)∧w.cell? ⟨b,off+i*8+2,none⟩=some c0∧w.cell? ⟨b,off+i*8+2+1,none⟩=some c1∧w.cell? ⟨b,off+i*8+2+2,none⟩=some c2∧w.cell? ⟨b,off+i*8+2+3,none⟩=some c3∧w.cell? ⟨b,off+i*8+2+4,none⟩=some c4∧w.cell? ⟨b,off+i*8+2+5,none⟩=some c5)
theorem tt_szd {x:MD} (h:Tt x):SzD x:=by have q:=right_held h.r;exact ⟨by have:=q.lo;omega,by have:=q.up;omega,by have:=q.n;omega⟩
end Go.Proofs.YtghnfnieppfhgaaGreat
